/-
  The contract of graph.classes.
-/
import Derived.Test.YtmamabhhgfcjcaaGreatDoorHg
set_option maxRecDepth 100000
set_option maxHeartbeats 4000000
namespace Go.Proofs.YtmamabhhgfcjcaaGreatDoor
open Go.RowKit Go.Shelf
structure GR1(g:List Nd):Prop where
 pos:0<g.length
 le:g.length≤1000
 shp:∀n∈g,shpN n
 shut:shutG g
theorem split_le{g:List Nd}{c:List Nat}(hl:g.length≤1000):∀x∈(splitG g c).2,x≤1000:=by
 intro x hx;have h:=split_inv g c;obtain ⟨i,hi,rfl⟩:=(h.val x).1 hx;have h1:=List.idxOf_lt_length_of_mem ((h.mem (keyOfN c g[i])).2 ⟨_,List.getElem_mem hi,rfl⟩);have h2:=cnt_le (splitG g c).2;have h3:=h.len;have h4:=h.cn;omega
theorem classes_any(g:List Nd)(ag:OAd)(cg B:Nat)(w:World)(hg:GR1 g)(hga:GAt w B g ag)(hB:B≤w.heap.size):
  Calls Tryz.prog 49 #[.slice ag g.length cg] w fun e w'=>(∃af cl,e = .returned (.slice af g.length g.length)∧CLS g cl∧NI w' w'.heap.size cl af)∧Below w.heap.size w w':=by
 obtain ⟨Z,hZ,hmk⟩:=makeI g.length hg.le;have hgl:(g.length:Int)≤1000:=by have:=hg.le;omega
 have S0:=hideK (show NI (w.alloc (.cells Z 3)) (w.alloc (.cells Z 3)).heap.size (List.replicate g.length 0) (some ⟨w.heap.size,0,none⟩) from by
  have h0:=FI.zero (w:=w) (n:=g.length) hZ (bR _ _);refine .inr ⟨w.heap.size,0,rfl,by simp,fun i hi=>?_⟩
  have hi':i<g.length:=by simpa using hi
  rw [Nat.zero_add,h0.cell i hi',if_neg (Nat.not_lt_zero _)];simp)
 have B0:=hideK (show Below w.heap.size w (w.alloc (.cells Z 3)) from (bR _ _).alloc (nR _) _)
 have C0:=hideK (cnt_zero g.length hg.pos);have P0:=hideK (pat_zero g);clear hZ;go_enter Tryz.func49,Tryz.ntmps49
 go_wp2_with fail
 go_loopw [3,4] (fun u z wr=>∃(k:Nat) (c:List Nat) (ac:OAd),u = .slice ac g.length g.length∧z = .int .i64 ((cnt c:Nat):Int)∧patG g k c∧(∀x∈c,x≤1000)∧NI wr wr.heap.size c ac∧Below w.heap.size w wr) (fun _ z _=>g.length - (intOf z).toNat)
 case atStart=>exact ⟨0,List.replicate g.length 0,_,rfl,by rw [C0.out];rfl,P0.out,fun x hx=>by rw [(List.mem_replicate.1 hx).2];omega,S0.out,B0.out⟩
 case round =>
  obtain ⟨k,c,ac,rfl,rfl,hp,hx,hni,hb⟩:=hrel;clear S0 B0 C0 P0 hmk;have hok:GOK g c:=⟨hg.le,fun n hn=>⟨hg.shp n hn,fun t ht=>by rw [hp.1];exact hg.shut n hn t ht⟩,hx⟩
  have cS:=split_any g c ag ac cg g.length wr.heap.size wr hok ((hga.keep (hb.mono hB)).mono (Nat.le_trans hB hb.size)) hni (nR _);rw [hp.1]at cS;have HP:=hideK hp;have HB:=hideK hb;have HD:=hideK (cls_done hg.shut hp);have HM:=hideK (cls_more hg.shut hp);have HN:=hideK (pat_split hg.shut hp);have HC:=hideK (split_inv g c).cn;clear hp hb hni hok hx;by_cases he:(splitG g c).1.length=cnt c
  ·have heb:(((splitG g c).1.length:Int)==((cnt c:Nat):Int))=true:=by rw [he];simp
   have HE:=hideK he;clear he;go_wp2_with fail
   refine cS.mono ?_;rintro e w2 ⟨⟨af,rfl,hn2⟩,hb2⟩;go_wp2_with fail
   go_ret
   exact ⟨⟨_,_,rfl,HD.out HE.out,hn2⟩,HB.out.trans (hb2.mono HB.out.size)⟩
  ·have heb:(((splitG g c).1.length:Int)==((cnt c:Nat):Int))=false:=by simpa using fun h:((splitG g c).1.length:Int)=((cnt c:Nat):Int)=>he (by omega)
   have HE:=hideK he;have hmm:=HM.out he;clear he;go_wp2_with fail
   refine cS.mono ?_;rintro e w2 ⟨⟨af,rfl,hn2⟩,hb2⟩;go_wp2_with fail
   go_roundw
   case rel=>exact ⟨k+1,(splitG g c).2,af,rfl,by rw [← HC.out],HN.out,split_le hg.le,hn2,HB.out.trans (hb2.mono HB.out.size)⟩
   case measure=>simp [intOf];omega
theorem cloneG_any(s:ByteArray)(w:World)(hs:s.size≤281474976710656):
  Calls Tryz.prog 85 #[.string s] w fun e w'=>e = .returned (.string s)∧Below w.heap.size w w':=by
 have c:Calls Tryz.prog 120 #[.string s] w fun e w'=>e = .returned (.string s)∧Below w.heap.size w w':=Any.stringslite_Clone Tryz.laysM316 s w hs
 go_enter Tryz.func85,Tryz.ntmps85
 go_wp2_with fail
 refine c.mono ?_;rintro e w1 ⟨rfl,hb⟩;go_wp2_with fail
 go_ret
 exact ⟨rfl,hb⟩
theorem own_belowG{base:Nat}{e:TypeId}{size:Nat}{v:Value}{n:Nat}{xs:List Value}{w w':World}(h:w.ownsRow base e size v n xs)(hb:Below w.heap.size w w'):w'.ownsRow base e size v n xs:=by
 refine h.kept (below_grown hb (some w.heap.size)) ?_;cases hq:v.ownBlock with
 | none=>exact .inl rfl
 | some g=>exact .inr (fun e=>by injection e with e;have:=(h.lt g hq).2;omega)
theorem own_baseG{w:World}{base:Nat}{e:TypeId}{size:Nat}{u:Value}{m:Nat}{ys:List Value}(h:w.ownsRow base e size u m ys):∀k,u.ownBlock=some k→base≤k:=fun k hk=>(h.lt k hk).1
theorem infoSG:(Tryz.prog.info? 9).map (fun i=>(i.zero,i.size,i.bytes))=some (some (.string ⟨#[]⟩),1,16):=by kernel_rfl
theorem lit_rowG(e:TypeId)(base:Nat)(W:World)(v:Value)(H:Nat)(hH:W.heap.size=H)(hb:base≤H):(W.alloc (.cells #[v] e)).ownsRow base e 1 (.slice (some ⟨H,0,none⟩) 1 1) 1 [v]:=by
 subst hH;exact World.ownsRow_lit W #[v] 1 hb (by decide) rfl
theorem copiedG_any(ls:List ByteArray)(al:OAd)(cl B:Nat)(w:World)(hla:LA w B ls al)(hB:B≤w.heap.size)(hl:ls.length≤1000)(hs:∀l∈ls,l.size≤281474976710656):
  Calls Tryz.prog 51 #[.slice al ls.length cl] w fun e w'=>∃u,e = .returned u∧w'.ownsRow w.heap.size 9 1 u ls.length (ls.map Value.string)∧Below w.heap.size w w':=by
 obtain ⟨i0,hi,hx⟩:=Option.map_eq_some_iff.1 infoSG;simp only [Prod.mk.injEq]at hx;obtain ⟨hz0,hz1,hz2⟩:=hx;have hlz:(ls.length:Int)≤1000:=by omega
 go_enter Tryz.func51,Tryz.ntmps51
 go_wp2_with fail
 go_loopw [3,8] (fun u i wr=>∃k:Nat,k≤ls.length∧i = .int .i64 (k:Int)∧wr.ownsRow w.heap.size 9 1 u k ((ls.take k).map Value.string)∧Below w.heap.size w wr) (fun _ i _=>ls.length - (intOf i).toNat)
 case atStart=>exact ⟨0,Nat.zero_le _,rfl,World.ownsRow_nil _ _ _ _,Below.refl _ _⟩
 case round =>
  obtain ⟨k,hk,rfl,hO,hb⟩:=hrel;by_cases hlt:k<ls.length
  ·have hltz:(k:Int)<(ls.length:Int):=by omega
   obtain ⟨lb,lo,rfl,hlb,hlc⟩:=hla.resolve_left (fun h=>by have:=congrArg List.length h;simp at this;rw [this]at hlt;simp at hlt)
   have d1:=(hb.cell (p:=⟨lb,lo+k,none⟩) (by show lb<w.heap.size;omega)).trans (hlc k (by simpa using hlt))
   rw [List.getElem_map]at d1;have cC:=fun W:World=>cloneG_any ls[k] W (hs _ (List.getElem_mem hlt))
   have HT:=hideK (show (ls.take (k+1)).map Value.string=(ls.take k).map Value.string++[.string ls[k]] from by rw [List.take_succ_eq_append_getElem hlt,List.map_append];rfl)
   have HO:=hideK hO;have HB:=hideK hb;have CC:=hideK cC;clear hO hb hlc cC;generalize ls[k]=s at *;go_wp2_with fail
   refine (CC.out _).mono ?_;rintro e w2 ⟨rfl,hb2⟩;have B2:=hideK (HB.out.trans (hb2.mono HB.out.size));have O2:=hideK (own_belowG HO.out hb2);have LR:=hideK (lit_rowG 9 w.heap.size w2 (.string s) w2.heap.size rfl B2.out.size);have OA:=hideK (own_belowG O2.out ((bR _ _).alloc (nR _) (.cells #[.string s] 9)));have hsz:=B2.out.size;clear hb2 HO d1;go_wp2_with (at_builtin;refine wpList_append_rows _ rfl (.tmp 12) (.tmp 15) 28 rfl w.heap.size w.heap.size 9 i0 (.string ⟨#[]⟩) 1 16 Tryz.underlying28 hi hz0 hz1 hz2 rfl (by decide) _ _ _ rfl OA.out _ _ _ rfl LR.out (by simp [Value.oneCell']) (by unfold maxLen;omega) (by omega) (by simp;omega) ?_;intro v7 w7 hO7 hg7 hat7)
   go_roundw
   case rel =>
    refine ⟨k+1,by omega,by go_num,?_,?_⟩
    ·rw [HT.out];exact hO7
    ·exact (B2.out.alloc hsz _).grown hg7 (by simp;omega) (own_baseG O2.out)
   case measure=>simp [intOf];omega
  ·have hltz:¬(k:Int)<(ls.length:Int):=by omega
   have hkl:k=ls.length:=by omega
   subst hkl;rw [List.take_length]at hO;go_wp2_with fail
   go_ret
   exact ⟨_,rfl,hO,hb⟩
def numR(c R:List Nat)(x:Nat):Nat:=if x∈R.map (clAt c) then (R.map (clAt c)).idxOf x+1 else 0
structure RF(fb rb:Nat)(row:Option Nat)(w w':World):Prop where
 os:w'.os=w.os
 tape:w'.tape=w.tape
 output:w'.output=w.output
 size:w.heap.size≤w'.heap.size
 block:∀k,k<w.heap.size→k≠fb→k≠rb→some k≠row→w'.heap[k]? = w.heap[k]?
theorem RF.below{fb rb:Nat}{row:Option Nat}{B:Nat}{w0 w w':World}(h:RF fb rb row w w')(hb:Below B w0 w)(hB:B≤w.heap.size)(h1:B≤fb)(h2:B≤rb)(h3:∀k,row=some k→B≤k):Below B w0 w' :=
 hb.trans ⟨h.os,h.tape,h.output,h.size,fun k hk=>h.block k (by omega) (by omega) (by omega) (fun e=>by have:=h3 k e.symm;omega)⟩
theorem RF.cell{fb rb:Nat}{row:Option Nat}{w w':World}(h:RF fb rb row w w'){b o:Nat}(hb:b<w.heap.size)(h1:b≠fb)(h2:b≠rb)(h3:some b≠row):w'.cell? ⟨b,o,none⟩=w.cell? ⟨b,o,none⟩:=World.cell?_of_block (a:=⟨b,o,none⟩) (h.block b hb h1 h2 h3)
theorem RF.frozen{fb rb:Nat}{row:Option Nat}{w w':World}(h:RF fb rb row w w'){b o:Nat}(hb:b<w.heap.size)(h1:b≠fb)(h2:b≠rb)(h3:some b≠row):w'.frozen? ⟨b,o,none⟩=w.frozen? ⟨b,o,none⟩:=World.frozen?_of_block (a:=⟨b,o,none⟩) (h.block b hb h1 h2 h3)
theorem RF.own{fb rb:Nat}{row:Option Nat}{w w':World}(h:RF fb rb row w w'){base:Nat}{e:TypeId}{size:Nat}{v:Value}{n:Nat}{xs:List Value}(ho:w.ownsRow base e size v n xs)(h1:fb<base)(h2:rb<base)(h3:v.ownBlock=none∨v.ownBlock≠row):w'.ownsRow base e size v n xs:=by
 refine ⟨ho.1,?_⟩;rcases ho.2 with hn|⟨g,cap,cur,rfl,hb,hgg,rest⟩
 ·exact .inl hn
 ·refine .inr ⟨g,cap,cur,rfl,hb,?_,rest⟩
  rw [h.block g (Array.getElem?_eq_some_iff.1 hgg).1 (by omega) (by omega) (by
   rcases h3 with h3|h3
   ·simp [Value.ownBlock]at h3
   ·intro e;exact h3 (by rw [← e];rfl))]
  exact hgg
structure RC(W:World)(B2 cb nb rb fb n:Nat)(ac:OAd)(c R:List Nat)(u:Value):Prop where
 hc:W.cell? ⟨cb,0,none⟩=some (.slice ac n n)
 hn:W.cell? ⟨nb,0,none⟩=some (.slice (some ⟨fb,0,none⟩) n n)
 hr:W.cell? ⟨rb,0,none⟩=some u
 hrf:W.frozen? ⟨rb,0,none⟩=false
 cls:NI W cb c ac
 num:∀x,x<n→W.cell? ⟨fb,x,none⟩=some (.int .i64 (numR c R x:Int))
 numf:∀x,W.frozen? ⟨fb,x,none⟩=false
 own:W.ownsRow B2 3 1 u R.length (R.map fun t:Nat=>Value.int .i64 (t:Int))
 o1:cb<fb
 o2:fb<nb
 o3:nb<rb
 o4:rb<B2
 o5:B2≤W.heap.size
 cl:c.length=n
theorem sliceH_own{W:World}{base:Nat}{e:TypeId}{size:Nat}{v:Value}{n:Nat}{xs:List Value}(h:W.ownsRow base e size v n xs):∃a c,v = .slice a n c:=by
 rcases h.2 with ⟨rfl,rfl⟩|⟨g,cap,cur,rfl,_⟩
 ·exact ⟨_,_,rfl⟩
 ·exact ⟨_,_,rfl⟩
theorem own_setB{W:World}{base:Nat}{e:TypeId}{size:Nat}{v:Value}{n:Nat}{xs:List Value}(h:W.ownsRow base e size v n xs){b o:Nat}(hb:b<base)(x:Value):(W.setCell ⟨b,o,none⟩ x).ownsRow base e size v n xs :=
 h.kept (grown_set W b o x) (by
  cases hq:v.ownBlock with
  | none=>exact .inl rfl
  | some g=>exact .inr (fun e=>by injection e with e;have:=(h.lt g hq).1;omega))
theorem infoIG:(Tryz.prog.info? 3).map (fun i=>(i.zero,i.size,i.bytes))=some (some (.int .i64 0),1,8):=by kernel_rfl
theorem num_add(c R:List Nat)(t x:Nat)(hn:clAt c t ∉ R.map (clAt c)):numR c (R++[t]) x=if x=clAt c t then R.length+1 else numR c R x:=by
 unfold numR;rw [List.map_append,List.map_cons,List.map_nil];by_cases hx:x=clAt c t
 ·subst hx
  rw [if_pos rfl,if_pos (by simp),List.idxOf_append,if_neg hn]
  simp
 ·rw [if_neg hx]
  by_cases hm:x∈R.map (clAt c)
  ·rw [if_pos (List.mem_append_left _ hm),if_pos hm,List.idxOf_append,if_pos hm]
  ·rw [if_neg hm,if_neg]
   intro h;rcases List.mem_append.1 h with h|h
   ·exact hm h
   ·rw [List.mem_singleton]at h;exact hx h
theorem RC.put{w w7:World}{B2 cb nb rb fb n:Nat}{ac:OAd}{c R:List Nat}{u v7:Value}{t:Nat}{ob:Obj}(h:RC w B2 cb nb rb fb n ac c R u)(hx:clAt c t<n)(hm:∀x,numR c (R++[t]) x=if x=clAt c t then R.length+1 else numR c R x)
  (hg:(w.alloc ob).grownBy w7 u.ownBlock) (hO:w7.ownsRow B2 3 1 v7 (R.length+1) ((R.map fun t:Nat=>Value.int .i64 (t:Int))++[.int .i64 (t:Int)])) (hat:v7.ownBlock=u.ownBlock∨v7.ownBlock=some (w.alloc ob).heap.size) :
  RC ((w7.setCell ⟨rb,0,none⟩ v7).setCell ⟨fb,clAt c t,none⟩ (.int .i64 ((R.length+1:Nat):Int))) B2 cb nb rb fb n ac c (R++[t]) v7∧RF fb rb u.ownBlock w ((w7.setCell ⟨rb,0,none⟩ v7).setCell ⟨fb,clAt c t,none⟩ (.int .i64 ((R.length+1:Nat):Int)))∧(v7.ownBlock=u.ownBlock∨∀k,v7.ownBlock=some k→w.heap.size≤k):=by
 have q1:=h.o1;have q2:=h.o2;have q3:=h.o3;have q4:=h.o4;have q5:=h.o5;have hs:w.heap.size<w7.heap.size:=by have:=hg.size;simp at this;omega
 have hblk:∀b,b<w.heap.size→some b≠u.ownBlock→w7.heap[b]? = w.heap[b]?:=fun b hb hn=>(hg.block b (by simp;omega) hn).trans (heap_alloc_old w ob hb)
 have hlow:∀b,b<B2→some b≠u.ownBlock:=fun b hb e=>by have:=(h.own.lt b e.symm).1;omega
 have hc7:∀b o,b<B2→w7.cell? ⟨b,o,none⟩=w.cell? ⟨b,o,none⟩:=fun b o hb=>World.cell?_of_block (a:=⟨b,o,none⟩) (hblk b (by omega) (hlow b hb))
 have hf7:∀b o,b<B2→w7.frozen? ⟨b,o,none⟩=w.frozen? ⟨b,o,none⟩:=fun b o hb=>World.frozen?_of_block (a:=⟨b,o,none⟩) (hblk b (by omega) (hlow b hb))
 have hoth:∀b o,b<B2→b≠rb→b≠fb→((w7.setCell ⟨rb,0,none⟩ v7).setCell ⟨fb,clAt c t,none⟩ (.int .i64 ((R.length+1:Nat):Int))).cell? ⟨b,o,none⟩=w.cell? ⟨b,o,none⟩:=fun b o hb h1 h2 =>
  ((World.cell?_setCell_other _ _ _ _ (by intro e;injection e with e;exact h2 e.symm)).trans (World.cell?_setCell_other _ _ _ _ (by intro e;injection e with e;exact h1 e.symm))).trans (hc7 b o hb)
 refine ⟨⟨(hoth cb 0 (by omega) (by omega) (by omega)).trans h.hc,(hoth nb 0 (by omega) (by omega) (by omega)).trans h.hn,?_,?_,?_,fun x hxn=>?_,fun x=>?_,?_,q1,q2,q3,q4,?_,h.cl⟩,?_,?_⟩
 ·rw [World.cell?_setCell_other _ _ _ _ (by intro e;injection e with e;omega)]
  exact World.cell?_setCell_same _ _ _ ((hc7 rb 0 q4).trans h.hr)
 ·rw [World.frozen?_setCell,World.frozen?_setCell,hf7 rb 0 q4];exact h.hrf
 ·rcases h.cls with e|⟨b,o,e,hb,hcc⟩
  ·exact .inl e
  ·exact .inr ⟨b,o,e,hb,fun i hi=>(hoth b (o+i) (by omega) (by omega) (by omega)).trans (hcc i hi)⟩
 ·rw [hm x]
  by_cases e:x=clAt c t
  ·subst e
   rw [if_pos rfl];exact World.cell?_setCell_same _ _ _ ((World.cell?_setCell_other _ _ _ _ (by intro e;injection e with e;omega)).trans ((hc7 fb _ (by omega)).trans (h.num _ hx)))
  ·rw [if_neg e,World.cell?_setCell_other _ _ _ _ (by intro q;injection q with _ q;exact e q.symm),World.cell?_setCell_other _ _ _ _ (by intro e;injection e with e;omega),hc7 fb x (by omega)]
   exact h.num x hxn
 ·rw [World.frozen?_setCell,World.frozen?_setCell,hf7 fb x (by omega)];exact h.numf x
 ·have:=own_setB (own_setB hO (b:=rb) (o:=0) q4 v7) (b:=fb) (o:=clAt c t) (by omega) (.int .i64 ((R.length+1:Nat):Int))
  simpa using this
 ·simp;omega
 ·refine ⟨hg.os,hg.tape,hg.output,by simp;omega,fun k hk h1 h2 h3=>?_⟩
  rw [Below.heap_setCell _ _ _ k (fun e=>h1 e),Below.heap_setCell _ _ _ k (fun e=>h2 e)]
  exact hblk k hk h3
 ·rcases hat with e|e
  ·exact .inl e
  ·exact .inr fun k hk=>by rw [e]at hk;injection hk with hk;simp at hk;omega
theorem reach_any(B2 cb nb rb fb n:Nat)(ac:OAd)(c R:List Nat)(u:Value)(t:Nat)(w:World)(h:RC w B2 cb nb rb fb n ac c R u)(ht:t<n)(hx:clAt c t<n)(hR:R.length≤1000):
  Calls Tryz.prog 50 #[.int .i64 (t:Int),.pointer (some ⟨cb,0,none⟩),.pointer (some ⟨nb,0,none⟩),.pointer (some ⟨rb,0,none⟩)] w fun e w'=>e = .returned (.int .i64 (idxR c (addR c R t) t:Int))∧∃u',RC w' B2 cb nb rb fb n ac c (addR c R t) u'∧RF fb rb u.ownBlock w w'∧(u'.ownBlock=u.ownBlock∨∀k,u'.ownBlock=some k→w.heap.size≤k):=by
 obtain ⟨i0,hi,hz0,hz1,hz2⟩:=info_parts infoIG;have hcl:=h.cl;obtain ⟨ab,ao,rfl,hab,hac⟩:=h.cls.resolve_left (fun q=>by have:=congrArg List.length q;simp at this;rw [this]at hcl;simp at hcl;omega)
 have c1:=h.hc;have c2:=h.hn;have c3:=h.hr;have d1:=hac t (by simp;omega)
 rw [List.getElem_map]at d1;have ecl:c[t]'(by omega)=clAt c t:=by unfold clAt;rw [List.getElem?_eq_getElem (by omega)];rfl
 rw [ecl]at d1;have d2:=h.num (clAt c t) hx;have d3:=h.numf (clAt c t);have htz:(t:Int)<(n:Int):=by omega
 have hxz:((clAt c t:Nat):Int)<(n:Int):=by omega
 have H:=hideK h;have rf3:=h.hrf;have q1:=h.o1;have q2:=h.o2;have q3:=h.o3;have q4:=h.o4;have q5:=h.o5;clear h;by_cases hm:clAt c t∈R.map (clAt c)
 ·have eA:addR c R t=R:=by unfold addR;rw [if_pos hm]
  have eN:numR c R (clAt c t)=idxR c R t+1:=by unfold numR idxR;rw [if_pos hm]
  rw [eN]at d2;rw [eA];have hb0:(((idxR c R t+1:Nat):Int)==0)=false:=by simp;omega
  have hlt:idxR c R t<1000:=by have:=idx_lt hm;omega
  generalize idxR c R t=y at *;generalize clAt c t=x at *;clear hac ecl eN eA hm;go_enter Tryz.func50,Tryz.ntmps50
  go_wp2_with fail
  go_ret
  exact ⟨rfl,u,H.out,⟨rfl,rfl,rfl,nR _,fun _ _ _ _ _=>rfl⟩,.inl rfl⟩
 ·have eA:addR c R t=R++[t]:=by unfold addR;rw [if_neg hm]
  have eN:numR c R (clAt c t)=0:=by unfold numR;rw [if_neg hm]
  have eI:idxR c (R++[t]) t=R.length:=by
   unfold idxR;rw [List.map_append,List.idxOf_append,if_neg hm];simp
  rw [eN]at d2;rw [eA,eI];have HNA:=hideK (fun x=>num_add c R t x hm)
  have HO:=H.out.own;have LR:=hideK (lit_rowG 3 B2 w (.int .i64 (t:Int)) w.heap.size rfl q5);have OA:=hideK (own_belowG HO ((bR _ _).alloc (nR _) (.cells #[.int .i64 (t:Int)] 3)));have hub:=hideK (own_baseG HO);have hsl:=sliceH_own HO;obtain ⟨ua,uc,rfl⟩:=hsl;have HRC:=hideK (fun w7 v7 ob hg hO hat=>RC.put (w7:=w7) (v7:=v7) (ob:=ob) H.out hx HNA.out hg hO hat)
  have nn1:¬rb=nb:=by omega
  have nn2:¬nb=rb:=by omega
  have nn3:¬rb=fb:=by omega
  have nn4:¬fb=rb:=by omega
  have nn5:¬fb=nb:=by omega
  have nn6:¬nb=fb:=by omega
  have hlow:=hideK (fun (b:Nat) (hb:b<B2) (e:some b=(Value.slice ua R.length uc).ownBlock)=>(show False from by have:=(HO.lt b e.symm).1;omega))
  have al1:(w.alloc (.cells #[.int .i64 (t:Int)] 3)).heap.size=w.heap.size+1:=by simp
  clear hac ecl eN eA hm HO eI;generalize clAt c t=x at *;go_enter Tryz.func50,Tryz.ntmps50
  go_wp2_with (at_builtin;refine wpList_append_rows _ rfl (.tmp 16) (.tmp 18) 29 rfl B2 B2 3 i0 (.int .i64 0) 1 8 Tryz.underlying29 hi hz0 hz1 hz2 rfl (by decide) _ _ _ rfl OA.out _ _ _ rfl LR.out (by simp [Value.oneCell']) (by unfold maxLen;omega) (by omega) (by rw [al1];omega) ?_;intro v7 w7 hO7 hg7 hat7;have hbk:=fun (b o:Nat) (hb:b<B2)=>(World.cell?_of_block (a:=⟨b,o,none⟩) (hg7.block b (by rw [al1];omega) (fun e=>hlow.out b hb e))).trans (World.cell?_of_block (a:=⟨b,o,none⟩) (heap_alloc_old w (.cells #[.int .i64 (t:Int)] 3) (by show b<w.heap.size;omega)));have hfk:=fun (b o:Nat) (hb:b<B2)=>(World.frozen?_of_block (a:=⟨b,o,none⟩) (hg7.block b (by rw [al1];omega) (fun e=>hlow.out b hb e))).trans (World.frozen?_of_block (a:=⟨b,o,none⟩) (heap_alloc_old w (.cells #[.int .i64 (t:Int)] 3) (by show b<w.heap.size;omega)));have e1:=(hbk rb 0 q4).trans c3;have e2:=(hbk nb 0 (by omega)).trans c2;have e3:=(hbk fb x (by omega)).trans d2;have e4:=(hfk rb 0 q4).trans rf3;have e5:=(hfk fb x (by omega)).trans d3;have HR7:=hideK (HRC.out w7 v7 _ hg7 hO7 hat7);obtain ⟨va,vc,rfl⟩:=sliceH_own hO7;clear hbk hfk hO7 hg7 hat7 HRC)
  go_ret
  exact ⟨rfl,_,HR7.out.1,HR7.out.2.1,HR7.out.2.2⟩
abbrev TkN:=Nd × (OAd × Nat) × (OAd × Nat)
def nC(t:TkN):List Value:=[.int .i64 t.1.kind,.int .i64 t.1.so,.slice t.2.1.1 t.1.labs.length t.2.1.2,.slice t.2.2.1 t.1.to.length t.2.2.2]
def ndCs(ts:List TkN):List Value:=ts.flatMap nC
theorem ndCs_at:∀(ts:List TkN) (i:Nat) (h:i<ts.length) (j:Nat),j<4→(ndCs ts)[i*4+j]? = (nC ts[i])[j]?
 | [],i,h,_,_=>by simp at h
 | t::ts,0,_,j,hj=>by
  have e:ndCs (t::ts)=nC t++ndCs ts:=rfl;rw [e,Nat.zero_mul,Nat.zero_add,List.getElem?_append_left (show j<(nC t).length from hj)]
  rfl
 | t::ts,i+1,h,j,hj=>by
  have e:ndCs (t::ts)=nC t++ndCs ts:=rfl;have hl:(nC t).length=4:=rfl;rw [e,List.getElem?_append_right (by omega),hl,show (i+1)*4+j - 4=i*4+j by omega,ndCs_at ts i (by simpa using h) j hj]
  rfl
theorem ndCs_snoc(ts:List TkN)(t:TkN):ndCs (ts++[t])=ndCs ts++nC t:=by simp [ndCs]
theorem nC_one(t:TkN):∀y∈nC t,y.oneCell'=true:=by
 intro y hy;simp only [nC,List.mem_cons,List.not_mem_nil,or_false]at hy;rcases hy with rfl|rfl|rfl|rfl <;> rfl
def NP(W:World)(P:Nat→Prop)(vs:List Value)(a:OAd):Prop:=vs=[]∨∃b o,a=some ⟨b,o,none⟩∧P b∧∀i (h:i<vs.length),W.cell? ⟨b,o+i,none⟩=some vs[i]
theorem NP.keep{W W':World}{P Q:Nat→Prop}{vs:List Value}{a:OAd}(hc:∀b o,P b→W'.cell? ⟨b,o,none⟩=W.cell? ⟨b,o,none⟩)(hq:∀b,P b→Q b)(h:NP W P vs a):NP W' Q vs a :=
 h.imp id fun ⟨b,o,e,hp,hh⟩=>⟨b,o,e,hq b hp,fun i hi=>(hc b _ hp).trans (hh i hi)⟩
def TKS(W:World)(P:Nat→Prop)(ts:List TkN):Prop:=∀t∈ts,NP W P (t.1.labs.map Value.string) t.2.1.1∧NP W P (t.1.to.map fun t:Nat=>Value.int .i64 (t:Int)) t.2.2.1
theorem TKS.keep{W W':World}{P Q:Nat→Prop}{ts:List TkN}(hc:∀b o,P b→W'.cell? ⟨b,o,none⟩=W.cell? ⟨b,o,none⟩)(hq:∀b,P b→Q b)(h:TKS W P ts):TKS W' Q ts:=fun t ht=>⟨(h t ht).1.keep hc hq,(h t ht).2.keep hc hq⟩
def apt(a b:Option Nat):Prop:=∀k,a=some k→b≠some k
theorem apt.symm{a b:Option Nat}(h:apt a b):apt b a:=fun k hb ha=>h k ha hb
theorem apt.or{a b:Option Nat}(h:apt a b):a=none∨a≠b:=by
 cases a with
 | none=>exact .inl rfl
 | some k=>exact .inr fun e=>h k rfl e.symm
theorem gat_of{W:World}{B:Nat}{u:Value}{ts:List TkN}(ho:W.ownsRow B 102 4 u ts.length (ndCs ts)){P:Nat→Prop}(ht:TKS W P ts)(hP:∀b,P b→b<W.heap.size):∃ag cg,u = .slice ag ts.length cg∧GAt W W.heap.size (ts.map (·.1)) ag:=by
 rcases own_cells ho with ⟨rfl,h0,_⟩|⟨g,cap,rfl,_,hg,hc⟩
 ·refine ⟨none,0,by rw [h0],.inl ?_⟩
  rw [List.length_eq_zero_iff.1 h0];rfl
 ·refine ⟨_,_,rfl,.inr ⟨g,0,rfl,hg,fun i hi=>?_⟩⟩
  have hi':i<ts.length:=by simpa using hi
  rw [List.getElem_map];have np:∀ {vs:List Value} {a:OAd},NP W P vs a→NAt W W.heap.size vs a:=fun h=>h.imp id fun ⟨b,o,e,hp,hh⟩=>⟨b,o,e,hP b hp,hh⟩
  refine ⟨ts[i].2.1.1,ts[i].2.1.2,ts[i].2.2.1,ts[i].2.2.2,⟨?_,?_,?_,?_⟩,np (ht _ (List.getElem_mem hi')).1,np (ht _ (List.getElem_mem hi')).2⟩
  ·rw [Nat.zero_add];exact hc (i*4+0) _ ((ndCs_at ts i hi' 0 (by omega)).trans rfl)
  ·rw [Nat.zero_add];exact hc _ _ ((ndCs_at ts i hi' 1 (by omega)).trans rfl)
  ·rw [Nat.zero_add];exact hc _ _ ((ndCs_at ts i hi' 2 (by omega)).trans rfl)
  ·rw [Nat.zero_add];exact hc _ _ ((ndCs_at ts i hi' 3 (by omega)).trans rfl)
def GAK(W:World)(B:Nat)(g:List Nd)(ag:OAd):Prop:=g=[]∨∃b o,ag=some ⟨b,o,none⟩∧b<B∧∀i (h:i<g.length),∃al cl at1 ct,NdAt W b (o+i*4) g[i] al cl at1 ct∧LA W B g[i].labs al∧NI W B g[i].to at1∧g[i].to.length≤ct
theorem GAK.gat{W:World}{B:Nat}{g:List Nd}{ag:OAd}(h:GAK W B g ag):GAt W B g ag :=
 h.imp id fun ⟨b,o,e,hb,hc⟩=>⟨b,o,e,hb,fun i hi=>by obtain ⟨al,cl,at1,ct,h1,h2,h3,_⟩:=hc i hi;exact ⟨al,cl,at1,ct,h1,h2,h3⟩⟩
theorem gak_of{W:World}{B:Nat}{u:Value}{ts:List TkN}(ho:W.ownsRow B 102 4 u ts.length (ndCs ts)){P:Nat→Prop}(ht:TKS W P ts)(hP:∀b,P b→b<W.heap.size)(hk:∀t∈ts,t.1.to.length≤t.2.2.2):∃ag cg,u = .slice ag ts.length cg∧GAK W W.heap.size (ts.map (·.1)) ag:=by
 rcases own_cells ho with ⟨rfl,h0,_⟩|⟨g,cap,rfl,_,hg,hc⟩
 ·refine ⟨none,0,by rw [h0],.inl ?_⟩
  rw [List.length_eq_zero_iff.1 h0];rfl
 ·refine ⟨_,_,rfl,.inr ⟨g,0,rfl,hg,fun i hi=>?_⟩⟩
  have hi':i<ts.length:=by simpa using hi
  rw [List.getElem_map];have np:∀ {vs:List Value} {a:OAd},NP W P vs a→NAt W W.heap.size vs a:=fun h=>h.imp id fun ⟨b,o,e,hp,hh⟩=>⟨b,o,e,hP b hp,hh⟩
  refine ⟨ts[i].2.1.1,ts[i].2.1.2,ts[i].2.2.1,ts[i].2.2.2,⟨?_,?_,?_,?_⟩,np (ht _ (List.getElem_mem hi')).1,np (ht _ (List.getElem_mem hi')).2,hk _ (List.getElem_mem hi')⟩
  ·rw [Nat.zero_add];exact hc (i*4+0) _ ((ndCs_at ts i hi' 0 (by omega)).trans rfl)
  ·rw [Nat.zero_add];exact hc _ _ ((ndCs_at ts i hi' 1 (by omega)).trans rfl)
  ·rw [Nat.zero_add];exact hc _ _ ((ndCs_at ts i hi' 2 (by omega)).trans rfl)
  ·rw [Nat.zero_add];exact hc _ _ ((ndCs_at ts i hi' 3 (by omega)).trans rfl)
theorem own_capK{W:World}{B:Nat}{e:TypeId}{z n c:Nat}{a:OAd}{xs:List Value}(h:W.ownsRow B e z (.slice a n c) n xs):n≤c:=by
 obtain ⟨_,⟨e1,e2⟩|⟨g,cap,cur,e1,_,_,h1,_⟩⟩:=h
 ·omega
 ·injection e1 with _ _ e3;omega
theorem idx_more(c R e:List Nat)(t:Nat)(h:clAt c t∈R.map (clAt c)):idxR c (R++e) t=idxR c R t:=by
 unfold idxR;rw [List.map_append,List.idxOf_append,if_pos h]
theorem mk_more(g:List Nd)(c R e:List Nat)(i:Nat)(h:∀t∈(nodeAt g i).to,clAt c t∈R.map (clAt c)):mkN g c (R++e) i=mkN g c R i:=by
 unfold mkN;congr 1
 exact List.map_congr_left fun t ht=>idx_more c R e t (h t ht)
structure IS(w:World)(B2 cb nb rb fb n:Nat)(ac:OAd)(c R:List Nat)(u uo:Value)(m:Nat)(ts:List TkN)(mb:Nat)(kd so:Int)(ls:List ByteArray)(la:OAd)(lc:Nat)(ut:Value)(qs:List Nat)(W:World):Prop where
 rc:RC W B2 cb nb rb fb n ac c R u
 out:W.ownsRow B2 102 4 uo m (ndCs ts)
 tks:TKS W (fun b=>B2≤b∧b<W.heap.size∧u.ownBlock≠some b∧uo.ownBlock≠some b∧ut.ownBlock≠some b∧b≠mb) ts
 lab:NP W (fun b=>B2≤b∧b<W.heap.size∧u.ownBlock≠some b∧uo.ownBlock≠some b∧ut.ownBlock≠some b∧b≠mb) (ls.map Value.string) la
 m0:W.cell? ⟨mb,0,none⟩=some (.int .i64 kd)
 m1:W.cell? ⟨mb,1,none⟩=some (.int .i64 so)
 m2:W.cell? ⟨mb,2,none⟩=some (.slice la ls.length lc)
 m3:W.cell? ⟨mb,3,none⟩=some ut
 mf:∀o,W.frozen? ⟨mb,o,none⟩=false
 ml:B2≤mb∧mb<W.heap.size
 mu:u.ownBlock≠some mb∧uo.ownBlock≠some mb∧ut.ownBlock≠some mb
 row:W.ownsRow B2 3 1 ut qs.length (qs.map fun t:Nat=>Value.int .i64 (t:Int))
 d1:apt uo.ownBlock u.ownBlock
 d2:apt ut.ownBlock u.ownBlock
 d3:apt ut.ownBlock uo.ownBlock
 bl:Below w.heap.size w W
 b0:w.heap.size≤cb
theorem fresh_ne{u u':Option Nat}{N:Nat}(h:u'=u∨∀k,u'=some k→N≤k){b:Nat}(hb:b<N)(hu:u≠some b):u'≠some b:=by
 rcases h with h|h
 ·rw [h];exact hu
 ·intro e;have:=h b e;omega
theorem fresh_apt{u u' a:Option Nat}{N:Nat}(h:u'=u∨∀k,u'=some k→N≤k)(ha:∀k,a=some k→k<N)(hu:apt a u):apt a u':=fun k hk=>fresh_ne h (ha k hk) (hu k hk)
theorem IS.reach{w:World}{B2 cb nb rb fb n:Nat}{ac:OAd}{c R R':List Nat}{u u' uo:Value}{m:Nat}{ts:List TkN}{mb:Nat}{kd so:Int}{ls:List ByteArray}{la:OAd}{lc:Nat}{ut:Value}{qs:List Nat}{W W':World}(h:IS w B2 cb nb rb fb n ac c R u uo m ts mb kd so ls la lc ut qs W)
  (hr:RC W' B2 cb nb rb fb n ac c R' u') (hf:RF fb rb u.ownBlock W W') (hn:u'.ownBlock=u.ownBlock∨∀k,u'.ownBlock=some k→W.heap.size≤k):IS w B2 cb nb rb fb n ac c R' u' uo m ts mb kd so ls la lc ut qs W':=by
 have o2:=h.rc.o2;have o3:=h.rc.o3;have o4:=h.rc.o4;have o5:=h.rc.o5;have b0:=h.b0;have o1:=h.rc.o1;have hs:=hf.size;have hcell:∀b o,B2≤b→b<W.heap.size→u.ownBlock≠some b→W'.cell? ⟨b,o,none⟩=W.cell? ⟨b,o,none⟩:=fun b o h1 h2 h3=>hf.cell h2 (by omega) (by omega) (fun e=>h3 e.symm)
 have hq:∀b,(B2≤b∧b<W.heap.size∧u.ownBlock≠some b∧uo.ownBlock≠some b∧ut.ownBlock≠some b∧b≠mb)→(B2≤b∧b<W'.heap.size∧u'.ownBlock≠some b∧uo.ownBlock≠some b∧ut.ownBlock≠some b∧b≠mb):=fun b hb=>⟨hb.1,by omega,fresh_ne hn hb.2.1 hb.2.2.1,hb.2.2.2⟩
 exact ⟨hr,hf.own h.out (by omega) (by omega) h.d1.or,h.tks.keep (fun b o hb=>hcell b o hb.1 hb.2.1 hb.2.2.1) hq,h.lab.keep (fun b o hb=>hcell b o hb.1 hb.2.1 hb.2.2.1) hq,
  (hcell mb 0 h.ml.1 h.ml.2 h.mu.1).trans h.m0,(hcell mb 1 h.ml.1 h.ml.2 h.mu.1).trans h.m1,(hcell mb 2 h.ml.1 h.ml.2 h.mu.1).trans h.m2,(hcell mb 3 h.ml.1 h.ml.2 h.mu.1).trans h.m3,
  fun o=>(hf.frozen h.ml.2 (by have:=h.ml.1;omega) (by have:=h.ml.1;omega) (fun e=>h.mu.1 e.symm)).trans (h.mf o),⟨h.ml.1,by have:=h.ml.2;omega⟩,⟨fresh_ne hn h.ml.2 h.mu.1,h.mu.2⟩,hf.own h.row (by omega) (by omega) h.d2.or,
  fresh_apt hn (fun k hk=>(h.out.lt k hk).2) h.d1,fresh_apt hn (fun k hk=>(h.row.lt k hk).2) h.d2,h.d3,hf.below h.bl h.bl.size (by omega) (by omega) (fun k hk=>by have:=(h.rc.own.lt k hk).1;omega),h.b0⟩
theorem RC.kept{W W':World}{B2 cb nb rb fb n:Nat}{ac:OAd}{c R:List Nat}{u:Value}(h:RC W B2 cb nb rb fb n ac c R u){row:Option Nat}(hg:W.grownBy W' row)(hr:∀k,row=some k→B2≤k)(hd:apt u.ownBlock row):RC W' B2 cb nb rb fb n ac c R u:=by
 have o1:=h.o1;have o2:=h.o2;have o3:=h.o3;have o4:=h.o4;have o5:=h.o5;have hc:∀b o,b<B2→W'.cell? ⟨b,o,none⟩=W.cell? ⟨b,o,none⟩:=fun b o hb=>World.cell?_of_block (a:=⟨b,o,none⟩) (hg.block b (by omega) (fun e=>by have:=hr b e.symm;omega))
 have hf:∀b o,b<B2→W'.frozen? ⟨b,o,none⟩=W.frozen? ⟨b,o,none⟩:=fun b o hb=>World.frozen?_of_block (a:=⟨b,o,none⟩) (hg.block b (by omega) (fun e=>by have:=hr b e.symm;omega))
 exact ⟨(hc cb 0 (by omega)).trans h.hc,(hc nb 0 (by omega)).trans h.hn,(hc rb 0 (by omega)).trans h.hr,(hf rb 0 (by omega)).trans h.hrf,h.cls.imp id fun ⟨b,o,e,hb,hh⟩=>⟨b,o,e,hb,fun i hi=>(hc b _ (by omega)).trans (hh i hi)⟩,fun x hx=>(hc fb x (by omega)).trans (h.num x hx),fun x=>(hf fb x (by omega)).trans (h.numf x),h.own.kept hg hd.or,o1,o2,o3,o4,Nat.le_trans o5 hg.size,h.cl⟩
theorem IS.app{w:World}{B2 cb nb rb fb n:Nat}{ac:OAd}{c R:List Nat}{u uo:Value}{m:Nat}{ts:List TkN}{mb:Nat}{kd so:Int}{ls:List ByteArray}{la:OAd}{lc:Nat}{ut ut':Value}{qs:List Nat}{W W4:World}{ob:Obj}(h:IS w B2 cb nb rb fb n ac c R u uo m ts mb kd so ls la lc ut qs W)(x:Nat)
  (hg:(W.alloc ob).grownBy W4 ut.ownBlock) (hO:W4.ownsRow B2 3 1 ut' (qs.length+1) ((qs.map fun t:Nat=>Value.int .i64 (t:Int))++[.int .i64 (x:Int)])) (hn:ut'.ownBlock=ut.ownBlock∨ut'.ownBlock=some (W.alloc ob).heap.size) :
  IS w B2 cb nb rb fb n ac c R u uo m ts mb kd so ls la lc ut' (qs++[x]) (W4.setCell ⟨mb,3,none⟩ ut'):=by
 have o4:=h.rc.o4;have o5:=h.rc.o5;have b0:=h.b0;have o1:=h.rc.o1;have o2:=h.rc.o2;have o3:=h.rc.o3;have hgW:W.grownBy W4 ut.ownBlock:=(World.grownBy_alloc W ob _).trans hg;have hn':ut'.ownBlock=ut.ownBlock∨∀k,ut'.ownBlock=some k→W.heap.size≤k:=hn.imp id fun e k hk=>by rw [e]at hk;injection hk with hk;simp at hk;omega
 have hs:=hgW.size;have hml:=h.ml;have hcell:∀b o,b<W.heap.size→ut.ownBlock≠some b→b≠mb→(W4.setCell ⟨mb,3,none⟩ ut').cell? ⟨b,o,none⟩=W.cell? ⟨b,o,none⟩:=fun b o h2 h3 h4=>(World.cell?_setCell_other _ _ _ _ (by intro e;injection e with e;exact h4 e.symm)).trans (World.cell?_of_block (a:=⟨b,o,none⟩) (hgW.block b h2 (fun e=>h3 e.symm)))
 have hmc:∀o,o≠3→(W4.setCell ⟨mb,3,none⟩ ut').cell? ⟨mb,o,none⟩=W.cell? ⟨mb,o,none⟩:=fun o ho=>(World.cell?_setCell_other _ _ _ _ (by intro e;injection e with _ e;exact ho e.symm)).trans (World.cell?_of_block (a:=⟨mb,o,none⟩) (hgW.block mb hml.2 (fun e=>h.mu.2.2 e.symm)))
 have hq:∀b,(B2≤b∧b<W.heap.size∧u.ownBlock≠some b∧uo.ownBlock≠some b∧ut.ownBlock≠some b∧b≠mb)→(B2≤b∧b<(W4.setCell ⟨mb,3,none⟩ ut').heap.size∧u.ownBlock≠some b∧uo.ownBlock≠some b∧ut'.ownBlock≠some b∧b≠mb):=fun b hb=>⟨hb.1,by simp;omega,hb.2.2.1,hb.2.2.2.1,fresh_ne hn' hb.2.1 hb.2.2.2.2.1,hb.2.2.2.2.2⟩
 have hrow:∀k,ut.ownBlock=some k→B2≤k:=fun k hk=>(h.row.lt k hk).1
 have hset:=grown_set W4 mb 3 ut';have hmk:∀k,some mb=some k→B2≤k:=fun k hk=>by injection hk with hk;omega
 have hf4:∀o,(W4.setCell ⟨mb,3,none⟩ ut').frozen? ⟨mb,o,none⟩=false:=fun o=>by
  rw [World.frozen?_setCell,World.frozen?_of_block (a:=⟨mb,o,none⟩) (hgW.block mb hml.2 (fun e=>h.mu.2.2 e.symm))]
  exact h.mf o
 refine ⟨(h.rc.kept hgW hrow h.d2.symm).kept hset hmk (fun k hk e=>by injection e with e;subst e;exact h.mu.1 hk),(h.out.kept hgW (apt.or h.d3.symm)).kept hset (apt.or (fun k hk e=>by injection e with e;subst e;exact h.mu.2.1 hk)),
  h.tks.keep (fun b o hb=>hcell b o hb.2.1 hb.2.2.2.2.1 hb.2.2.2.2.2) hq,h.lab.keep (fun b o hb=>hcell b o hb.2.1 hb.2.2.2.2.1 hb.2.2.2.2.2) hq,(hmc 0 (by omega)).trans h.m0,(hmc 1 (by omega)).trans h.m1,(hmc 2 (by omega)).trans h.m2,?_,hf4,⟨hml.1,by simp;omega⟩,⟨h.mu.1,h.mu.2.1,fresh_ne hn' hml.2 h.mu.2.2⟩,?_,h.d1,?_,?_,?_,h.b0⟩
 ·exact World.cell?_setCell_same _ _ _ ((World.cell?_of_block (a:=⟨mb,3,none⟩) (hgW.block mb hml.2 (fun e=>h.mu.2.2 e.symm))).trans h.m3)
 ·have:=hO.kept hset (apt.or (fun k hk e=>by injection e with e;subst e;exact fresh_ne hn' hml.2 h.mu.2.2 hk))
  simpa using this
 ·exact (fresh_apt hn' (fun k hk=>(h.rc.own.lt k hk).2) h.d2.symm).symm
 ·exact (fresh_apt hn' (fun k hk=>(h.out.lt k hk).2) h.d3.symm).symm
 ·exact (h.bl.grown hgW h.bl.size (fun k hk=>by have:=hrow k hk;omega)).setCell (p:=⟨mb,3,none⟩) (by show w.heap.size≤mb;omega) ut'
structure LSt(w:World)(g:List Nd)(B2 cb nb rb fb n:Nat)(ac:OAd)(c R:List Nat)(u uo:Value)(m:Nat)(ts:List TkN)(W:World):Prop where
 rc:RC W B2 cb nb rb fb n ac c R u
 ri:RInv g c R m
 le:m≤R.length
 out:W.ownsRow B2 102 4 uo m (ndCs ts)
 map:ts.map (·.1)=(R.take m).map (mkN g c R)
 tks:TKS W (fun b=>B2≤b∧b<W.heap.size∧u.ownBlock≠some b∧uo.ownBlock≠some b) ts
 d1:apt uo.ownBlock u.ownBlock
 bl:Below w.heap.size w W
 b0:w.heap.size≤cb
 cp:∀t∈ts,t.1.to.length≤t.2.2.2
theorem LSt.make{w:World}{g:List Nd}{B2 cb nb rb fb n:Nat}{ac:OAd}{c R:List Nat}{u uo:Value}{m:Nat}{ts:List TkN}{W W3:World}(h:LSt w g B2 cb nb rb fb n ac c R u uo m ts W)(hb:Below W.heap.size W W3){mb:Nat}(hm:W.heap.size≤mb∧mb<W3.heap.size){kd so:Int}{ls:List ByteArray}{la:OAd}{lc:Nat}
  (m0:W3.cell? ⟨mb,0,none⟩=some (.int .i64 kd)) (m1:W3.cell? ⟨mb,1,none⟩=some (.int .i64 so)) (m2:W3.cell? ⟨mb,2,none⟩=some (.slice la ls.length lc)) (m3:W3.cell? ⟨mb,3,none⟩=some (.slice none 0 0)) (mf:∀o,W3.frozen? ⟨mb,o,none⟩=false)
  (hl:NP W3 (fun b=>W.heap.size≤b∧b<W3.heap.size∧b≠mb) (ls.map Value.string) la):IS w B2 cb nb rb fb n ac c R u uo m ts mb kd so ls la lc (.slice none 0 0) [] W3:=by
 have o5:=h.rc.o5;have hs:=hb.size;have hbu:∀b,W.heap.size≤b→u.ownBlock≠some b:=fun b h1 e=>by have:=(h.rc.own.lt b e).2;omega
 have hbo:∀b,W.heap.size≤b→uo.ownBlock≠some b:=fun b h1 e=>by have:=(h.out.lt b e).2;omega
 refine ⟨h.rc.kept (below_grown hb none) (fun k hk=>by cases hk) (fun k _ e=>by cases e),own_belowG h.out hb,h.tks.keep (fun b o hq=>hb.cell (p:=⟨b,o,none⟩) hq.2.1) (fun b hq=>⟨hq.1,by omega,hq.2.2.1,hq.2.2.2,by simp [Value.ownBlock],by omega⟩),hl.keep (fun _ _ _=>rfl) (fun b hq=>⟨by omega,hq.2.1,hbu b hq.1,hbo b hq.1,by simp [Value.ownBlock],hq.2.2⟩),m0,m1,m2,m3,mf,⟨by omega,hm.2⟩,⟨hbu mb hm.1,hbo mb hm.1,by simp [Value.ownBlock]⟩,World.ownsRow_nil _ _ _ _,h.d1,fun k hk=>by simp [Value.ownBlock]at hk,fun k hk=>by simp [Value.ownBlock]at hk,h.bl.trans (hb.mono h.bl.size),h.b0⟩
theorem IS.done{w:World}{g:List Nd}{B2 cb nb rb fb n:Nat}{ac:OAd}{c R:List Nat}{u u' uo uo':Value}{m:Nat}{ts:List TkN}{mb lc:Nat}{la ta:OAd}{tc:Nat}{W0 W W4:World}{ob:Obj}(h0:LSt w g B2 cb nb rb fb n ac c R u uo m ts W0)(hs:shutG g)(hm:m<R.length)
  (h:IS w B2 cb nb rb fb n ac c ((nodeAt g R[m]).to.foldl (addR c) R) u' uo m ts mb (nodeAt g R[m]).kind (nodeAt g R[m]).so (nodeAt g R[m]).labs la lc (.slice ta (nodeAt g R[m]).to.length tc) ((nodeAt g R[m]).to.map (idxR c ((nodeAt g R[m]).to.foldl (addR c) R))) W)
  (hg:(W.alloc ob).grownBy W4 uo.ownBlock) (hO:W4.ownsRow B2 102 4 uo' (m+1) (ndCs ts++nC (mkN g c ((nodeAt g R[m]).to.foldl (addR c) R) R[m],(la,lc),(ta,tc)))) (hn:uo'.ownBlock=uo.ownBlock∨uo'.ownBlock=some (W.alloc ob).heap.size) :
  LSt w g B2 cb nb rb fb n ac c ((nodeAt g R[m]).to.foldl (addR c) R) u' uo' (m+1) (ts++[(mkN g c ((nodeAt g R[m]).to.foldl (addR c) R) R[m],(la,lc),(ta,tc))]) W4:=by
 obtain ⟨e,he⟩:=fold_pre c (nodeAt g R[m]).to R;have hri:=h0.ri.next hs hm;generalize hR':(nodeAt g R[m]).to.foldl (addR c) R=R' at *;have hgW:W.grownBy W4 uo.ownBlock:=(World.grownBy_alloc W ob _).trans hg;have hn':uo'.ownBlock=uo.ownBlock∨∀k,uo'.ownBlock=some k→W.heap.size≤k:=hn.imp id fun e k hk=>by rw [e]at hk;injection hk with hk;simp at hk;omega
 have hss:=hgW.size;have b0:=h.b0;have o1:=h.rc.o1;have o2:=h.rc.o2;have o3:=h.rc.o3;have o4:=h.rc.o4;have hcell:∀b o,b<W.heap.size→uo.ownBlock≠some b→W4.cell? ⟨b,o,none⟩=W.cell? ⟨b,o,none⟩:=fun b o h2 h3=>World.cell?_of_block (a:=⟨b,o,none⟩) (hgW.block b h2 (fun e=>h3 e.symm))
 have hq:∀b,(B2≤b∧b<W.heap.size∧u'.ownBlock≠some b∧uo.ownBlock≠some b)→(B2≤b∧b<W4.heap.size∧u'.ownBlock≠some b∧uo'.ownBlock≠some b):=fun b hb=>⟨hb.1,by omega,hb.2.2.1,fresh_ne hn' hb.2.1 hb.2.2.2⟩
 have hmR:m<R'.length:=by rw [he];simp;omega
 have hRm:R'[m]=R[m]:=by rw [List.getElem_of_eq he,List.getElem_append_left hm]
 refine ⟨h.rc.kept hgW (fun k hk=>(h.out.lt k hk).1) h.d1.symm,hri,hmR,by rw [ndCs_snoc];exact hO,?_,?_,(fresh_apt hn' (fun k hk=>(h.rc.own.lt k hk).2) h.d1.symm).symm,h.bl.grown hgW h.bl.size (fun k hk=>by have:=(h.out.lt k hk).1;omega),h.b0,?_⟩
 ·rw [List.map_append,h0.map,List.take_succ_eq_append_getElem hmR,List.map_append,hRm]
  congr 1
  have ht:R'.take m=R.take m:=by rw [he,List.take_append_of_le_length (by omega)]
  rw [ht,he];refine List.map_congr_left fun i hi=>(mk_more g c R e i ?_).symm
  obtain ⟨k,hk,rfl⟩:=List.mem_iff_getElem.1 hi;have hk':k<m:=by rw [List.length_take]at hk;omega
  rw [List.getElem_take];exact h0.ri.sh k (by omega) hk'
 ·intro t ht
  rcases List.mem_append.1 ht with ht|ht
  ·have:=h.tks t ht
   have hk:∀ {vs:List Value} {a:OAd},NP W (fun b=>B2≤b∧b<W.heap.size∧u'.ownBlock≠some b∧uo.ownBlock≠some b∧(Value.slice ta (nodeAt g R[m]).to.length tc).ownBlock≠some b∧b≠mb) vs a→NP W4 (fun b=>B2≤b∧b<W4.heap.size∧u'.ownBlock≠some b∧uo'.ownBlock≠some b) vs a:=fun hx=>hx.keep (fun b o hb=>hcell b o hb.2.1 hb.2.2.2.1) (fun b hb=>hq b ⟨hb.1,hb.2.1,hb.2.2.1,hb.2.2.2.1⟩)
   exact ⟨hk this.1,hk this.2⟩
  ·rw [List.mem_singleton]at ht
   subst ht;refine ⟨h.lab.keep (fun b o hb=>hcell b o hb.2.1 hb.2.2.2.1) (fun b hb=>hq b ⟨hb.1,hb.2.1,hb.2.2.1,hb.2.2.2.1⟩),?_⟩
   rcases own_cells h.row with ⟨_,_,e2⟩|⟨gg,cp,e1,hb1,hg1,hc1⟩
   ·exact .inl e2
   ·injection e1 with e1 _ _
    refine .inr ⟨gg,0,e1,hq gg ⟨hb1,hg1,fun e3=>h.d2 gg (by rw [e1];rfl) e3,fun e3=>h.d3 gg (by rw [e1];rfl) e3⟩,fun i hi=>?_⟩
    rw [Nat.zero_add,hcell gg i hg1 (fun e3=>h.d3 gg (by rw [e1];rfl) e3)]
    exact hc1 i _ (List.getElem?_eq_getElem hi)
 ·intro t ht
  rcases List.mem_append.1 ht with ht|ht
  ·exact h0.cp t ht
  ·rw [List.mem_singleton]at ht
   subst ht;have hw:=h.row;rw [List.length_map]at hw;have:=own_capK hw;unfold mkN;rw [List.length_map];exact this
theorem lst_step{g:List Nd}{c R:List Nat}{m:Nat}(hm:m<R.length)(hg:m<g.length){X:List Nat}(h:lstR g c (g.length - m) m R=X):lstR g c (g.length - (m+1)) (m+1) ((nodeAt g R[m]).to.foldl (addR c) R)=X:=by
 rw [show g.length - m=(g.length - (m+1))+1 by omega]at h
 unfold lstR at h;rw [List.getElem?_eq_getElem hm]at h;exact h
theorem lst_stop{g:List Nd}{c R:List Nat}{m:Nat}(hm:R.length≤m){X:List Nat}(h:lstR g c (g.length - m) m R=X):R=X:=by
 cases hq:g.length - m with
 | zero=>rw [hq]at h;exact h
 | succ f =>
  rw [hq]at h;unfold lstR at h;rw [List.getElem?_eq_none hm]at h;exact h
end Go.Proofs.YtmamabhhgfcjcaaGreatDoor
