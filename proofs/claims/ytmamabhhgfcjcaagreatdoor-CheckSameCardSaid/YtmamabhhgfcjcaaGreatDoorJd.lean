/-
  The contract of dual.otherEnd.
-/
import Derived.Test.YtmamabhhgfcjcaaGreatDoorJc
set_option maxRecDepth 100000
set_option maxHeartbeats 16000000
namespace Go.Proofs.YtmamabhhgfcjcaaGreatDoor
open Go.RowKit Go.Shelf
structure OE(w:World)(g:List Nd)(B k1 k2:Nat)(u1 u2:Value)(ts1 ts2:List TkN)(W:World):Prop where
 o1:W.ownsRow w.heap.size 102 4 u1 k1 (ndCs ts1)
 o2:W.ownsRow w.heap.size 102 4 u2 k2 (ndCs ts2)
 m1:ts1.map (·.1)=(g.take k1).map (othT g.length)
 m2:ts2.map (·.1)=(g.take k2).map (othK g.length)
 t1:TKL W B (fun b=>w.heap.size≤b∧b<W.heap.size∧u1.ownBlock≠some b∧u2.ownBlock≠some b) ts1
 t2:TKL W B (fun b=>w.heap.size≤b∧b<W.heap.size∧u1.ownBlock≠some b∧u2.ownBlock≠some b) ts2
 ap:apt u1.ownBlock u2.ownBlock
 bl:Below w.heap.size w W
theorem OE.kept{w W W':World}{g:List Nd}{B k1 k2:Nat}{u1 u2:Value}{ts1 ts2:List TkN}(h:OE w g B k1 k2 u1 u2 ts1 ts2 W)(hb:Below W.heap.size W W')(hB:B≤w.heap.size):OE w g B k1 k2 u1 u2 ts1 ts2 W':=by
 have hs:=hb.size;have hbB:Below B W W':=hb.mono (Nat.le_trans hB h.bl.size);exact ⟨own_belowG h.o1 hb,own_belowG h.o2 hb,h.m1,h.m2,h.t1.keep hbB (fun b o q=>hb.cell (p:=⟨b,o,none⟩) q.2.1) (fun b q=>⟨q.1,by omega,q.2.2⟩),h.t2.keep hbB (fun b o q=>hb.cell (p:=⟨b,o,none⟩) q.2.1) (fun b q=>⟨q.1,by omega,q.2.2⟩),h.ap,h.bl.trans (hb.mono h.bl.size)⟩
theorem OE.add1{w W w7:World}{g:List Nd}{B k1 k2:Nat}{u1 u2 v7:Value}{ts1 ts2:List TkN}{tok:TkN}(h:OE w g B k1 k2 u1 u2 ts1 ts2 W)(hB:B≤w.heap.size)(hg:W.grownBy w7 u1.ownBlock)(hO:w7.ownsRow w.heap.size 102 4 v7 (k1+1) (ndCs ts1++nC tok))(hat:v7.ownBlock=u1.ownBlock∨∀j,v7.ownBlock=some j→W.heap.size≤j)
  (hm:ts1.map (·.1)++[tok.1]=(g.take (k1+1)).map (othT g.length)) (hl:LA W B tok.1.labs tok.2.1.1) (ht:NP W (fun b=>w.heap.size≤b∧b<W.heap.size∧u1.ownBlock≠some b∧u2.ownBlock≠some b) (tok.1.to.map fun t:Nat=>Value.int .i64 (t:Int)) tok.2.2.1):OE w g B (k1+1) k2 v7 u2 (ts1++[tok]) ts2 w7:=by
 have hs:=hg.size;have hbl:=h.bl.size;have hlow:∀b,b<w.heap.size→some b≠u1.ownBlock:=fun b hb e=>by have:=(h.o1.lt b e.symm).1;omega
 have hbB:Below B W w7:=⟨hg.os,hg.tape,hg.output,hg.size,fun b hb=>hg.block b (by omega) (hlow b (by omega))⟩
 have hk:∀b o,(w.heap.size≤b∧b<W.heap.size∧u1.ownBlock≠some b∧u2.ownBlock≠some b)→w7.cell? ⟨b,o,none⟩=W.cell? ⟨b,o,none⟩:=fun b o q=>World.cell?_of_block (a:=⟨b,o,none⟩) (hg.block b q.2.1 (fun e=>q.2.2.1 e.symm))
 have hq:∀b,(w.heap.size≤b∧b<W.heap.size∧u1.ownBlock≠some b∧u2.ownBlock≠some b)→(w.heap.size≤b∧b<w7.heap.size∧v7.ownBlock≠some b∧u2.ownBlock≠some b):=fun b q=>⟨q.1,by omega,fresh_ne hat q.2.1 q.2.2.1,q.2.2.2⟩
 refine ⟨by rw [ndCs_snoc];exact hO,h.o2.kept hg h.ap.symm.or,by rw [List.map_append];exact hm,h.m2,fun t ht'=>?_,h.t2.keep hbB hk hq,?_,?_⟩
 ·rcases List.mem_append.1 ht' with q|q
  ·exact (h.t1.keep hbB hk hq) t q
  ·rw [List.mem_singleton]at q;subst q
   exact ⟨hl.keep hbB,ht.keep hk hq⟩
 ·exact (fresh_apt hat (fun j hj=>(h.o2.lt j hj).2) h.ap.symm).symm
 ·exact ⟨hg.os.trans h.bl.os,hg.tape.trans h.bl.tape,hg.output.trans h.bl.output,by omega,fun b hb=>(hg.block b (by omega) (hlow b hb)).trans (h.bl.block b hb)⟩
theorem OE.add2{w W w7:World}{g:List Nd}{B k1 k2:Nat}{u1 u2 v7:Value}{ts1 ts2:List TkN}{tok:TkN}(h:OE w g B k1 k2 u1 u2 ts1 ts2 W)(hB:B≤w.heap.size)(hg:W.grownBy w7 u2.ownBlock)(hO:w7.ownsRow w.heap.size 102 4 v7 (k2+1) (ndCs ts2++nC tok))(hat:v7.ownBlock=u2.ownBlock∨∀j,v7.ownBlock=some j→W.heap.size≤j)
  (hm:ts2.map (·.1)++[tok.1]=(g.take (k2+1)).map (othK g.length)) (hl:LA W B tok.1.labs tok.2.1.1) (ht:NP W (fun b=>w.heap.size≤b∧b<W.heap.size∧u1.ownBlock≠some b∧u2.ownBlock≠some b) (tok.1.to.map fun t:Nat=>Value.int .i64 (t:Int)) tok.2.2.1):OE w g B k1 (k2+1) u1 v7 ts1 (ts2++[tok]) w7:=by
 have hs:=hg.size;have hbl:=h.bl.size;have hlow:∀b,b<w.heap.size→some b≠u2.ownBlock:=fun b hb e=>by have:=(h.o2.lt b e.symm).1;omega
 have hbB:Below B W w7:=⟨hg.os,hg.tape,hg.output,hg.size,fun b hb=>hg.block b (by omega) (hlow b (by omega))⟩
 have hk:∀b o,(w.heap.size≤b∧b<W.heap.size∧u1.ownBlock≠some b∧u2.ownBlock≠some b)→w7.cell? ⟨b,o,none⟩=W.cell? ⟨b,o,none⟩:=fun b o q=>World.cell?_of_block (a:=⟨b,o,none⟩) (hg.block b q.2.1 (fun e=>q.2.2.2 e.symm))
 have hq:∀b,(w.heap.size≤b∧b<W.heap.size∧u1.ownBlock≠some b∧u2.ownBlock≠some b)→(w.heap.size≤b∧b<w7.heap.size∧u1.ownBlock≠some b∧v7.ownBlock≠some b):=fun b q=>⟨q.1,by omega,q.2.2.1,fresh_ne hat q.2.1 q.2.2.2⟩
 refine ⟨h.o1.kept hg h.ap.or,by rw [ndCs_snoc];exact hO,h.m1,by rw [List.map_append];exact hm,h.t1.keep hbB hk hq,fun t ht'=>?_,?_,?_⟩
 ·rcases List.mem_append.1 ht' with q|q
  ·exact (h.t2.keep hbB hk hq) t q
  ·rw [List.mem_singleton]at q;subst q
   exact ⟨hl.keep hbB,ht.keep hk hq⟩
 ·exact fresh_apt hat (fun j hj=>(h.o1.lt j hj).2) h.ap
 ·exact ⟨hg.os.trans h.bl.os,hg.tape.trans h.bl.tape,hg.output.trans h.bl.output,by omega,fun b hb=>(hg.block b (by omega) (hlow b hb)).trans (h.bl.block b hb)⟩
theorem OE.reg1{w wr V w2 w7:World}{g:List Nd}{B k1 k2:Nat}{u1 u2 v7:Value}{ts1 ts2:List TkN}{n:Nd}{a1 at1:OAd}{c1 ct:Nat}{ob:Obj}(h:OE w g B k1 k2 u1 u2 ts1 ts2 wr)(hB:B≤w.heap.size)(hV:Below wr.heap.size wr V)(hb2:Below V.heap.size V w2)(hnf:NF V w2 (tuL n g.length) at1)(hL:LA w B n.labs a1)(hm:ts1.map (·.1)++[othT g.length n]=(g.take (k1+1)).map (othT g.length))
  (hg:(w2.alloc ob).grownBy w7 u1.ownBlock) (hO:w7.ownsRow w.heap.size 102 4 v7 (k1+1) (ndCs ts1++nC (othT g.length n,(a1,c1),(at1,ct)))) (hat:v7.ownBlock=u1.ownBlock∨v7.ownBlock=some (w2.alloc ob).heap.size):OE w g B (k1+1) k2 v7 u2 (ts1++[(othT g.length n,(a1,c1),(at1,ct))]) ts2 w7:=by
 have hA:Below w2.heap.size w2 (w2.alloc ob):=(bR _ _).alloc (nR _) _;have h2:=((h.kept hV hB).kept hb2 hB).kept hA hB;have s1:=h.bl.size;have s2:=hV.size;have s3:=hb2.size;refine h2.add1 hB hg hO (hat.imp id fun e j hj=>by rw [e]at hj;injection hj with hj;omega) hm (hL.keep (h2.bl.mono hB)) ?_
 refine NP.keep (fun b o q=>hA.cell (p:=⟨b,o,none⟩) q.2) (fun b q=>⟨by omega,by have:=q.2;simp;omega,fun e=>?_,fun e=>?_⟩) hnf
 ·have:=(h.o1.lt b e).2;omega
 ·have:=(h.o2.lt b e).2;omega
theorem OE.reg2{w wr V w2 w7:World}{g:List Nd}{B k1 k2:Nat}{u1 u2 v7:Value}{ts1 ts2:List TkN}{n:Nd}{a1 at1:OAd}{c1 ct:Nat}{ob:Obj}(h:OE w g B k1 k2 u1 u2 ts1 ts2 wr)(hB:B≤w.heap.size)(hV:Below wr.heap.size wr V)(hb2:Below V.heap.size V w2)(hnf:NF V w2 (keL n g.length) at1)(hL:LA w B n.labs a1)(hm:ts2.map (·.1)++[othK g.length n]=(g.take (k2+1)).map (othK g.length))
  (hg:(w2.alloc ob).grownBy w7 u2.ownBlock) (hO:w7.ownsRow w.heap.size 102 4 v7 (k2+1) (ndCs ts2++nC (othK g.length n,(a1,c1),(at1,ct)))) (hat:v7.ownBlock=u2.ownBlock∨v7.ownBlock=some (w2.alloc ob).heap.size):OE w g B k1 (k2+1) u1 v7 ts1 (ts2++[(othK g.length n,(a1,c1),(at1,ct))]) w7:=by
 have hA:Below w2.heap.size w2 (w2.alloc ob):=(bR _ _).alloc (nR _) _;have h2:=((h.kept hV hB).kept hb2 hB).kept hA hB;have s1:=h.bl.size;have s2:=hV.size;have s3:=hb2.size;refine h2.add2 hB hg hO (hat.imp id fun e j hj=>by rw [e]at hj;injection hj with hj;omega) hm (hL.keep (h2.bl.mono hB)) ?_
 refine NP.keep (fun b o q=>hA.cell (p:=⟨b,o,none⟩) q.2) (fun b q=>⟨by omega,by have:=q.2;simp;omega,fun e=>?_,fun e=>?_⟩) hnf
 ·have:=(h.o1.lt b e).2;omega
 ·have:=(h.o2.lt b e).2;omega
theorem OE.done{w W w7:World}{g:List Nd}{B:Nat}{u1 u2 v7:Value}{ts1 ts2:List TkN}(h:OE w g B g.length g.length u1 u2 ts1 ts2 W)(hB:B≤w.heap.size)(hg:W.grownBy w7 u1.ownBlock)(hO:w7.ownsRow w.heap.size 102 4 v7 (g.length+g.length) (ndCs ts1++ndCs ts2)):(∃ao co,v7 = .slice ao (othG g).length co∧GAt w7 w7.heap.size (othG g) ao)∧Below w.heap.size w w7:=by
 have hs:=hg.size;have hbl:=h.bl.size;have hlow:∀b,b<w.heap.size→some b≠u1.ownBlock:=fun b hb e=>by have:=(h.o1.lt b e.symm).1;omega
 have hbB:Below B W w7:=⟨hg.os,hg.tape,hg.output,hg.size,fun b hb=>hg.block b (by omega) (hlow b (by omega))⟩
 have hk:∀b o,(w.heap.size≤b∧b<W.heap.size∧u1.ownBlock≠some b∧u2.ownBlock≠some b)→w7.cell? ⟨b,o,none⟩=W.cell? ⟨b,o,none⟩:=fun b o q=>World.cell?_of_block (a:=⟨b,o,none⟩) (hg.block b q.2.1 (fun e=>q.2.2.1 e.symm))
 have hmap:(ts1++ts2).map (·.1)=othG g:=by
  rw [List.map_append,h.m1,h.m2,List.take_length];rfl
 have hcs:ndCs (ts1++ts2)=ndCs ts1++ndCs ts2:=by simp [ndCs]
 have hlen:(ts1++ts2).length=g.length+g.length:=by
  have e1:=congrArg List.length h.m1;have e2:=congrArg List.length h.m2;rw [List.length_map,List.length_map,List.take_length]at e1 e2;rw [List.length_append,e1,e2]
 have hol:(othG g).length=g.length+g.length:=by rw [oth_len];omega
 refine ⟨?_,hg.os.trans h.bl.os,hg.tape.trans h.bl.tape,hg.output.trans h.bl.output,by omega,fun b hb=>(hg.block b (by omega) (hlow b hb)).trans (h.bl.block b hb)⟩
 have hG:=gat_of (u:=v7) (ts:=ts1++ts2) (P:=fun b=>b<w7.heap.size) (by rw [hlen,hcs];exact hO) (fun t ht=>by
  have q:TKL w7 B (fun b=>b<w7.heap.size) (ts1++ts2):=fun t ht=>by
   rcases List.mem_append.1 ht with ht|ht
   ·exact (h.t1.keep hbB hk (fun b q=>by omega)) t ht
   ·exact (h.t2.keep hbB hk (fun b q=>by omega)) t ht
  have:=q t ht;exact ⟨this.1.imp id fun ⟨b,o,e,hl,hc⟩=>⟨b,o,e,by omega,hc⟩,this.2⟩) (fun b hb=>hb)
 rw [hmap,hlen]at hG;rw [hol];exact hG
theorem ndCs_one(ts:List TkN):∀y∈ndCs ts,y.oneCell'=true:=by
 intro y hy;obtain ⟨t,_,h⟩:=List.mem_flatMap.1 hy;exact nC_one t y h
theorem otherEnd_any(g:List Nd)(ag:OAd)(cg B:Nat)(w:World)(hg:GN g)(hga:GAt w B g ag)(hB:B≤w.heap.size):
  Calls Tryz.prog 139 #[.slice ag g.length cg] w fun e w'=>(∃ao co,e = .returned (.slice ao (othG g).length co)∧GAt w' w'.heap.size (othG g) ao)∧Below w.heap.size w w':=by
 obtain ⟨i1,hj,hy0,hy1,hy2⟩:=info_parts infoNd;have hl:=hg.le;have hp:=hg.pos;obtain ⟨gb,go,rfl,hgB,hgc⟩:=hga.resolve_left (fun q=>by rw [q]at hp;simp at hp)
 have HGC:=hideK hgc;have HG:=hideK hg;have hlz:(g.length:Int)≤200:=by omega
 clear hga hgc hg;go_enter Tryz.func139,Tryz.ntmps139
 go_wp2_with fail
 go_loopw [3,4,9] (fun v1 v2 i wr=>∃(k:Nat) (ts1 ts2:List TkN),k≤g.length∧i = .int .i64 (k:Int)∧OE w g B k k v1 v2 ts1 ts2 wr) (fun _ _ i _=>g.length - (intOf i).toNat)
 case atStart=>exact ⟨0,[],[],Nat.zero_le _,rfl,⟨World.ownsRow_nil _ _ _ _,World.ownsRow_nil _ _ _ _,rfl,rfl,fun t ht=>(by cases ht),fun t ht=>(by cases ht),fun k hk=>by simp [Value.ownBlock]at hk,Below.refl _ _⟩⟩
 case round =>
  obtain ⟨k,ts1,ts2,hk,rfl,hE⟩:=hrel;by_cases hlt:k<g.length
  ·have hltz:(k:Int)<(g.length:Int):=by omega
   obtain ⟨a1,c1,a2,c2,hN,hL,hT⟩:=HGC.out k hlt;have hbB:=hE.bl.mono hB;obtain ⟨m0,m1,m2,m3⟩:=hN.keep hbB hgB;have okn:=HG.out.ok _ (List.getElem_mem hlt);have HTL:=hideK (show ∀t∈g[k].to,t≤1000 from fun t ht=>by have:=HG.out.shut _ (List.getElem_mem hlt) t ht;omega)
   have HM1:=hideK (show ts1.map (·.1)++[othT g.length g[k]]=(g.take (k+1)).map (othT g.length) from by rw [hE.m1,List.take_succ_eq_append_getElem hlt,List.map_append];rfl)
   have HM2:=hideK (show ts2.map (·.1)++[othK g.length g[k]]=(g.take (k+1)).map (othK g.length) from by rw [hE.m2,List.take_succ_eq_append_getElem hlt,List.map_append];rfl)
   have HL:=hideK hL;have HT:=hideK hT;have HOK:=hideK okn;clear hN hL hT hbB okn;generalize g[k]=n at *;have HA:=hideK (show Below wr.heap.size wr (wr.alloc (.cells #[.int .i64 n.kind,.int .i64 n.so,.slice a1 n.labs.length c1,.slice a2 n.to.length c2] 102)) from (bR _ _).alloc (nR _) _)
   have HE1:=hideK (hE.kept HA.out hB);have HSK:=hideK (show ∀W W':World,(fun W:World=>W.cell? ⟨wr.heap.size,0,none⟩=some (.int .i64 n.kind)∧W.cell? ⟨wr.heap.size,1,none⟩=some (.int .i64 n.so)∧W.cell? ⟨wr.heap.size,2,none⟩=some (.slice a1 n.labs.length c1)∧W.cell? ⟨wr.heap.size,3,none⟩=some (.slice a2 n.to.length c2)) W→wr.heap.size<W.heap.size→Below W.heap.size W W'→(fun W:World=>W.cell? ⟨wr.heap.size,0,none⟩=some (.int .i64 n.kind)∧W.cell? ⟨wr.heap.size,1,none⟩=some (.int .i64 n.so)∧W.cell? ⟨wr.heap.size,2,none⟩=some (.slice a1 n.labs.length c1)∧W.cell? ⟨wr.heap.size,3,none⟩=some (.slice a2 n.to.length c2)) W' from fun W W' hs hz hb=>⟨(hb.cell (p:=⟨wr.heap.size,0,none⟩) hz).trans hs.1,(hb.cell (p:=⟨wr.heap.size,1,none⟩) hz).trans hs.2.1,(hb.cell (p:=⟨wr.heap.size,2,none⟩) hz).trans hs.2.2.1,(hb.cell (p:=⟨wr.heap.size,3,none⟩) hz).trans hs.2.2.2⟩)
   have HSG:=hideK (show ∀(W W':World) (r:Option Nat),(fun W:World=>W.cell? ⟨wr.heap.size,0,none⟩=some (.int .i64 n.kind)∧W.cell? ⟨wr.heap.size,1,none⟩=some (.int .i64 n.so)∧W.cell? ⟨wr.heap.size,2,none⟩=some (.slice a1 n.labs.length c1)∧W.cell? ⟨wr.heap.size,3,none⟩=some (.slice a2 n.to.length c2)) W→wr.heap.size<W.heap.size→W.grownBy W' r→some wr.heap.size≠r→(fun W:World=>W.cell? ⟨wr.heap.size,0,none⟩=some (.int .i64 n.kind)∧W.cell? ⟨wr.heap.size,1,none⟩=some (.int .i64 n.so)∧W.cell? ⟨wr.heap.size,2,none⟩=some (.slice a1 n.labs.length c1)∧W.cell? ⟨wr.heap.size,3,none⟩=some (.slice a2 n.to.length c2)) W' from fun W W' r hs hz hg hr=>by
    have c:∀o,W'.cell? ⟨wr.heap.size,o,none⟩=W.cell? ⟨wr.heap.size,o,none⟩:=fun o=>World.cell?_of_block (a:=⟨wr.heap.size,o,none⟩) (hg.block _ hz hr)
    exact ⟨(c 0).trans hs.1,(c 1).trans hs.2.1,(c 2).trans hs.2.2.1,(c 3).trans hs.2.2.2⟩)
   have HS0:=hideK (show (fun W:World=>W.cell? ⟨wr.heap.size,0,none⟩=some (.int .i64 n.kind)∧W.cell? ⟨wr.heap.size,1,none⟩=some (.int .i64 n.so)∧W.cell? ⟨wr.heap.size,2,none⟩=some (.slice a1 n.labs.length c1)∧W.cell? ⟨wr.heap.size,3,none⟩=some (.slice a2 n.to.length c2)) (wr.alloc (.cells #[.int .i64 n.kind,.int .i64 n.so,.slice a1 n.labs.length c1,.slice a2 n.to.length c2] 102)).drew from ⟨by go_cell,by go_cell,by go_cell,by go_cell⟩)
   have HVB:=hideK (show Below wr.heap.size wr (wr.alloc (.cells #[.int .i64 n.kind,.int .i64 n.so,.slice a1 n.labs.length c1,.slice a2 n.to.length c2] 102)).drew from HA.out.drew)
   have HE:=hideK hE;have hu1:some wr.heap.size≠u3.ownBlock:=fun e=>by have:=(hE.o1.lt _ e.symm).2;omega
   have hu2:some wr.heap.size≠u4.ownBlock:=fun e=>by have:=(hE.o2.lt _ e.symm).2;omega
   have HU1:=hideK hu1;have HU2:=hideK hu2;have hwr:=hE.bl.size;have CT:=hideK (turnedTo_any n g.length a1 a2 c1 c2 B (wr.alloc (.cells #[.int .i64 n.kind,.int .i64 n.so,.slice a1 n.labs.length c1,.slice a2 n.to.length c2] 102)).drew (HT.out.keep ((hE.bl.trans (HVB.out.mono hwr)).mono hB)) (by show B≤(wr.alloc (.cells #[.int .i64 n.kind,.int .i64 n.so,.slice a1 n.labs.length c1,.slice a2 n.to.length c2] 102)).heap.size;simp;omega) HOK.out (by omega) HTL.out)
   have CKp:=hideK (fun (W:World) (hb:Below w.heap.size w W)=>keptTo_any n g.length a1 a2 c1 c2 B W (HT.out.keep (hb.mono hB)) (Nat.le_trans hB hb.size) (shp_len (okN_shp HOK.out)).2.1 (by omega) HTL.out)
   simp only [ndVal]at CT CKp;clear hE hu1 hu2;go_wp2_with fail
   refine wp_region_held_drew (S:=(fun W:World=>W.cell? ⟨wr.heap.size,0,none⟩=some (.int .i64 n.kind)∧W.cell? ⟨wr.heap.size,1,none⟩=some (.int .i64 n.so)∧W.cell? ⟨wr.heap.size,2,none⟩=some (.slice a1 n.labs.length c1)∧W.cell? ⟨wr.heap.size,3,none⟩=some (.slice a2 n.to.length c2))) (by kernel_rfl) HS0.out (fun hS=>?_)
   refine tkZ 0 u3 hS ?_;refine tkZ 1 (.pointer (some ⟨wr.heap.size,0,none⟩)) hS ?_;refine tkH 2 (.int .i64 n.kind) hS ?_ (hy:=Or.inl ⟨by rfl,fun W hW=>by obtain ⟨x0,x1,x2,x3⟩:=hW;go_simp⟩)
   simp only [Act.put,sA,sB,sC];refine tkZ 4 (.pointer (some ⟨wr.heap.size,1,none⟩)) hS ?_;refine tkH 5 (.int .i64 n.so) hS ?_ (hy:=Or.inl ⟨by rfl,fun W hW=>by obtain ⟨x0,x1,x2,x3⟩:=hW;go_simp⟩)
   simp only [Act.put,sA,sB,sC];refine tkZ 6 (.pointer (some ⟨wr.heap.size,2,none⟩)) hS ?_;refine tkH 7 (.slice a1 n.labs.length c1) hS ?_ (hy:=Or.inl ⟨by rfl,fun W hW=>by obtain ⟨x0,x1,x2,x3⟩:=hW;go_simp⟩)
   simp only [Act.put,sA,sB,sC];refine tkH 8 (.agg #[.int .i64 n.kind,.int .i64 n.so,.slice a1 n.labs.length c1,.slice a2 n.to.length c2]) hS ?_ (hy:=Or.inl ⟨by rfl,fun W hW=>by obtain ⟨x0,x1,x2,x3⟩:=hW;go_simp⟩)
   simp only [Act.put,sA,sB,sC];refine tkZ 9 (.slice (some ⟨gb,go,none⟩) g.length cg) hS ?_;refine tkZ 10 (.int .i64 (g.length:Int)) hS ?_;refine take_oneHL 3 (aC (fun K hK=>?_) aN) (by kernel_rfl)
   go_simp
   refine (kind_any n.kind _).mono ?_;rintro e w3 ⟨rfl,rfl⟩;have hSn:=hS;refine hK.out _ _ hSn ?_;clear hS hK K hSn;intro hS;try simp only [Act.put,sA,sB,sC]
   refine take_oneHL 11 (aC (fun K hK=>?_) aN) (by kernel_rfl)
   go_simp
   refine CT.out.mono ?_;rintro e w2 ⟨⟨at1,ct1,rfl,hnf1⟩,hb2⟩;have HN1:=hideK hnf1;have HB1:=hideK hb2;have HP1:=hideK HVB.out;have HO1:=hideK (own_belowG HE.out.o1 HVB.out);have HW1:=hideK (show wr.heap.size<w2.heap.size from by have:=hb2.size;simp at this;omega)
   have HZ1:=hideK (show w.heap.size≤w2.heap.size from by have:=HW1.out;omega)
   have hSn:=HSK.out _ _ hS (by simp) hb2
   refine hK.out _ _ hSn ?_;clear hS hK K hSn;intro hS;try simp only [Act.put,sA,sB,sC]
   clear hnf1 hb2;refine tkZ 12 (.agg #[.int .i64 (kdD n.kind),.int .i64 n.so,.slice a1 n.labs.length c1,.slice at1 (tuL n g.length).length ct1]) hS ?_;have LR1:=hideK (World.ownsRow_lit (base:=w.heap.size) (e:=102) (size:=4) w2 #[.int .i64 (kdD n.kind),.int .i64 n.so,.slice a1 n.labs.length c1,.slice at1 (tuL n g.length).length ct1] 1 HZ1.out (by decide) rfl)
   have OA1:=hideK (own_belowG (own_belowG HO1.out HB1.out) ((bR _ _).alloc (nR _) (.cells #[.int .i64 (kdD n.kind),.int .i64 n.so,.slice a1 n.labs.length c1,.slice at1 (tuL n g.length).length ct1] 102)));refine take_oneHL 13 (aC (fun K hK=>?_) aN) (by kernel_rfl)
   go_simp
   have hSn:=HSK.out _ _ hS HW1.out ((bR _ _).alloc (nR _) (.cells #[.int .i64 (kdD n.kind),.int .i64 n.so,.slice a1 n.labs.length c1,.slice at1 (tuL n g.length).length ct1] 102));refine hK.out _ _ hSn ?_;clear hS hK K hSn;intro hS;refine take_oneHL 14 (aC (fun K hK=>?_) aN) (by kernel_rfl)
   refine step_append_rows _ rfl (.tmp 13) (.tmp 26) 44 rfl w.heap.size w.heap.size 102 i1 _ 4 64 Tryz.underlying44 hj hy0 hy1 hy2 rfl (by decide) _ _ _ rfl OA1.out _ _ _ rfl LR1.out (by simp [Value.oneCell']) (by unfold maxLen;omega) (by omega) (by have:=HZ1.out;simp;omega) ?_
   intro v7 w7 hO7 hg7 hat7;have HE7:=hideK (HE.out.reg1 hB HP1.out HB1.out HN1.out HL.out HM1.out hg7 (by have e:nC (othT g.length n,(a1,c1),(at1,ct1))=[.int .i64 (kdD n.kind),.int .i64 n.so,.slice a1 n.labs.length c1,.slice at1 (tuL n g.length).length ct1]:=rfl;rw [e];exact hO7) hat7)
   have hSn:=HSG.out _ _ _ hS (by have:=HW1.out;simp;omega) hg7 HU1.out
   refine hK.out _ _ hSn ?_;clear hS hK K hSn;intro hS;simp only [Act.put,sA,sB,sC];clear hO7 hg7 hat7;refine take_oneHL 15 (aC (fun K hK=>?_) aN) (by kernel_rfl)
   go_simp
   have hSn:=hS;refine hK.out _ _ hSn ?_;clear hS hK K hSn;intro hS;refine wpAnyH_done (by kernel_rfl) ?_ _
   have HS7:=hideK (show (fun W:World=>W.cell? ⟨wr.heap.size,0,none⟩=some (.int .i64 n.kind)∧W.cell? ⟨wr.heap.size,1,none⟩=some (.int .i64 n.so)∧W.cell? ⟨wr.heap.size,2,none⟩=some (.slice a1 n.labs.length c1)∧W.cell? ⟨wr.heap.size,3,none⟩=some (.slice a2 n.to.length c2)) w7.drew from hS)
   have HWZ:=hideK (show wr.heap.size<w7.heap.size from by have:=HE7.out.o1;have:=World.block_lt_of_cell? w7 ⟨wr.heap.size,0,none⟩ hS.1;exact this)
   clear hS;clear m0 m1 m2 m3;go_wp2_with fail
   refine wp_region_held_drew (S:=(fun W:World=>W.cell? ⟨wr.heap.size,0,none⟩=some (.int .i64 n.kind)∧W.cell? ⟨wr.heap.size,1,none⟩=some (.int .i64 n.so)∧W.cell? ⟨wr.heap.size,2,none⟩=some (.slice a1 n.labs.length c1)∧W.cell? ⟨wr.heap.size,3,none⟩=some (.slice a2 n.to.length c2))) (by kernel_rfl) HS7.out (fun hS=>?_)
   refine tkZ 0 u4 hS ?_;refine tkZ 1 (.pointer (some ⟨wr.heap.size,0,none⟩)) hS ?_;refine tkH 2 (.int .i64 n.kind) hS ?_ (hy:=Or.inl ⟨by rfl,fun W hW=>by obtain ⟨x0,x1,x2,x3⟩:=hW;go_simp⟩)
   simp only [Act.put,sA,sB,sC];refine tkZ 3 (.pointer (some ⟨wr.heap.size,1,none⟩)) hS ?_;refine tkH 4 (.int .i64 n.so) hS ?_ (hy:=Or.inl ⟨by rfl,fun W hW=>by obtain ⟨x0,x1,x2,x3⟩:=hW;go_simp⟩)
   simp only [Act.put,sA,sB,sC];refine tkZ 5 (.pointer (some ⟨wr.heap.size,2,none⟩)) hS ?_;refine tkH 6 (.slice a1 n.labs.length c1) hS ?_ (hy:=Or.inl ⟨by rfl,fun W hW=>by obtain ⟨x0,x1,x2,x3⟩:=hW;go_simp⟩)
   simp only [Act.put,sA,sB,sC];refine tkH 7 (.agg #[.int .i64 n.kind,.int .i64 n.so,.slice a1 n.labs.length c1,.slice a2 n.to.length c2]) hS ?_ (hy:=Or.inl ⟨by rfl,fun W hW=>by obtain ⟨x0,x1,x2,x3⟩:=hW;go_simp⟩)
   simp only [Act.put,sA,sB,sC];refine tkZ 8 (.slice (some ⟨gb,go,none⟩) g.length cg) hS ?_;refine tkZ 9 (.int .i64 (g.length:Int)) hS ?_;refine take_oneHL 10 (aC (fun K hK=>?_) aN) (by kernel_rfl)
   go_simp
   refine (CKp.out _ (HE7.out.bl.drew)).mono ?_;rintro e w8 ⟨⟨at2,ct2,rfl,hnf2⟩,hb8⟩;have HN2:=hideK hnf2;have HB2:=hideK hb8;have HP2:=hideK (show Below w7.heap.size w7 w7.drew from (bR _ _).drew)
   have HO2:=hideK (own_belowG HE7.out.o2 HP2.out);have HW2:=hideK (show wr.heap.size<w8.heap.size from by have h1:=hb8.size;have h2:=HWZ.out;simp at h1;omega)
   have HZ2:=hideK (show w.heap.size≤w8.heap.size from by have:=HW2.out;omega)
   have hSn:=HSK.out _ _ hS HWZ.out hb8;refine hK.out _ _ hSn ?_;clear hS hK K hSn;intro hS;try simp only [Act.put,sA,sB,sC]
   clear hnf2 hb8;refine tkZ 11 (.agg #[.int .i64 (n.kind),.int .i64 n.so,.slice a1 n.labs.length c1,.slice at2 (keL n g.length).length ct2]) hS ?_;have LR2:=hideK (World.ownsRow_lit (base:=w.heap.size) (e:=102) (size:=4) w8 #[.int .i64 (n.kind),.int .i64 n.so,.slice a1 n.labs.length c1,.slice at2 (keL n g.length).length ct2] 1 HZ2.out (by decide) rfl)
   have OA2:=hideK (own_belowG (own_belowG HO2.out HB2.out) ((bR _ _).alloc (nR _) (.cells #[.int .i64 (n.kind),.int .i64 n.so,.slice a1 n.labs.length c1,.slice at2 (keL n g.length).length ct2] 102)));refine take_oneHL 12 (aC (fun K hK=>?_) aN) (by kernel_rfl)
   go_simp
   have hSn:=HSK.out _ _ hS HW2.out ((bR _ _).alloc (nR _) (.cells #[.int .i64 (n.kind),.int .i64 n.so,.slice a1 n.labs.length c1,.slice at2 (keL n g.length).length ct2] 102));refine hK.out _ _ hSn ?_;clear hS hK K hSn;intro hS;refine take_oneHL 13 (aC (fun K hK=>?_) aN) (by kernel_rfl)
   refine step_append_rows _ rfl (.tmp 28) (.tmp 40) 44 rfl w.heap.size w.heap.size 102 i1 _ 4 64 Tryz.underlying44 hj hy0 hy1 hy2 rfl (by decide) _ _ _ rfl OA2.out _ _ _ rfl LR2.out (by simp [Value.oneCell']) (by unfold maxLen;omega) (by omega) (by have:=HZ2.out;simp;omega) ?_
   intro v9 w9 hO7 hg7 hat7;have HE9:=hideK (HE7.out.reg2 hB HP2.out HB2.out HN2.out HL.out HM2.out hg7 (by have e:nC (othK g.length n,(a1,c1),(at2,ct2))=[.int .i64 (n.kind),.int .i64 n.so,.slice a1 n.labs.length c1,.slice at2 (keL n g.length).length ct2]:=rfl;rw [e];exact hO7) hat7)
   have hSn:=HSG.out _ _ _ hS (by have:=HW2.out;simp;omega) hg7 HU2.out
   refine hK.out _ _ hSn ?_;clear hS hK K hSn;intro hS;simp only [Act.put,sA,sB,sC];clear hO7 hg7 hat7;refine take_oneHL 14 (aC (fun K hK=>?_) aN) (by kernel_rfl)
   go_simp
   have hSn:=hS;refine hK.out _ _ hSn ?_;clear hS hK K hSn;intro hS;refine wpAnyH_done (by kernel_rfl) ?_ _
   go_wp2_with fail
   go_roundw
   case rel=>exact ⟨k+1,_,_,by omega,by go_num,HE9.out⟩
   case measure=>simp [intOf];omega
  ·have hltz:¬(k:Int)<(g.length:Int):=by omega
   have hke:k=g.length:=by omega
   subst hke;have O1:=hideK hE.o1;have O2:=hideK hE.o2;have HD:=hideK (fun (w7:World) (v7:Value) hg hO=>hE.done (w7:=w7) (v7:=v7) hB hg hO)
   have hwr:=hE.bl.size;clear hE;go_wp2_with (at_builtin;refine wpList_append_rows _ rfl (.tmp 43) (.tmp 44) 44 rfl w.heap.size w.heap.size 102 i1 _ 4 64 Tryz.underlying44 hj hy0 hy1 hy2 rfl (by decide) _ _ _ rfl O1.out _ _ _ rfl O2.out (ndCs_one _) (by unfold maxLen;omega) (by omega) hwr ?_;intro v7 w7 hO7 hg7 hat7;obtain ⟨⟨ao,co,rfl,hGA⟩,hB7⟩:=HD.out w7 v7 hg7 hO7;have HGA:=hideK hGA;have HB7:=hideK hB7;clear hO7 hg7 hat7 hGA hB7)
   go_ret
   exact ⟨⟨ao,⟨co,rfl⟩,HGA.out⟩,HB7.out⟩
end Go.Proofs.YtmamabhhgfcjcaaGreatDoor
