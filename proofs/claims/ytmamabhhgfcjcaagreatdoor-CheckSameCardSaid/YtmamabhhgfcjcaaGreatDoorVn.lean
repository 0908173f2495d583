/-
  The contract of below.firstFailing, for every two graphs that Check lets by, from wherever it begins.
-/
import Derived.Test.YtmamabhhgfcjcaaGreatDoorIj
set_option maxRecDepth 100000
set_option maxHeartbeats 16000000
namespace Go.Proofs.YtmamabhhgfcjcaaGreatDoor
open Go.RowKit Go.Shelf
structure RD(wr V:World)(ps mb nb pa pb:Nat)(tt:Bool)(m n:Nd)(a1 a2 a3 a4:OAd)(c1 c2 c3 c4:Nat):Prop where
 p0:V.cell? ⟨ps,0,none⟩=some (.int .i64 (pa:Int))
 p1:V.cell? ⟨ps,1,none⟩=some (.int .i64 (pb:Int))
 p2:V.cell? ⟨ps,2,none⟩=some (.bool tt)
 x:NdAt V mb 0 m a1 c1 a2 c2
 y:NdAt V nb 0 n a3 c3 a4 c4
 lt:ps<V.heap.size∧mb<V.heap.size∧nb<V.heap.size
 bl:Below wr.heap.size wr V
theorem RD.keep{wr V V':World}{ps mb nb pa pb:Nat}{tt:Bool}{m n:Nd}{a1 a2 a3 a4:OAd}{c1 c2 c3 c4:Nat}(h:RD wr V ps mb nb pa pb tt m n a1 a2 a3 a4 c1 c2 c3 c4)(hb:Below V.heap.size V V'):RD wr V' ps mb nb pa pb tt m n a1 a2 a3 a4 c1 c2 c3 c4 :=
 ⟨(hb.cell (p:=⟨ps,0,none⟩) h.lt.1).trans h.p0,(hb.cell (p:=⟨ps,1,none⟩) h.lt.1).trans h.p1,(hb.cell (p:=⟨ps,2,none⟩) h.lt.1).trans h.p2,h.x.keep hb h.lt.2.1,h.y.keep hb h.lt.2.2,⟨nL h.lt.1 hb.size,nL h.lt.2.1 hb.size,nL h.lt.2.2 hb.size⟩,h.bl.trans (hb.mono h.bl.size)⟩
theorem rd_one(wr:World)(pa pb:Nat)(tt:Bool)(m n:Nd)(a1 a2 a3 a4:OAd)(c1 c2 c3 c4:Nat):RD wr (((wr.alloc (.cells #[.int .i64 (pa:Int),.int .i64 (pb:Int),.bool tt] 119)).alloc (.cells #[.int .i64 m.kind,.int .i64 m.so,.slice a1 m.labs.length c1,.slice a2 m.to.length c2] 102)).alloc (.cells #[.int .i64 n.kind,.int .i64 n.so,.slice a3 n.labs.length c3,.slice a4 n.to.length c4] 102)).drew wr.heap.size (wr.heap.size+1) (wr.heap.size+1+1) pa pb tt m n a1 a2 a3 a4 c1 c2 c3 c4 :=
 ⟨by go_cell,by go_cell,by go_cell,⟨by go_cell,by go_cell,by go_cell,by go_cell⟩,⟨by go_cell,by go_cell,by go_cell,by go_cell⟩,⟨by simp;omega,by simp,by simp⟩,((((bR _ _).alloc (nR _) _).alloc (by simp) _).alloc (by simp;omega) _).drew⟩
theorem rd_two(wr:World)(pa pb:Nat)(tt:Bool)(m n:Nd)(a1 a2 a3 a4:OAd)(c1 c2 c3 c4:Nat):RD wr (((wr.alloc (.cells #[.int .i64 (pa:Int),.int .i64 (pb:Int),.bool tt] 119)).alloc (.cells #[.int .i64 n.kind,.int .i64 n.so,.slice a3 n.labs.length c3,.slice a4 n.to.length c4] 102)).alloc (.cells #[.int .i64 m.kind,.int .i64 m.so,.slice a1 m.labs.length c1,.slice a2 m.to.length c2] 102)).drew wr.heap.size (wr.heap.size+1+1) (wr.heap.size+1) pa pb tt m n a1 a2 a3 a4 c1 c2 c3 c4 :=
 ⟨by go_cell,by go_cell,by go_cell,⟨by go_cell,by go_cell,by go_cell,by go_cell⟩,⟨by go_cell,by go_cell,by go_cell,by go_cell⟩,⟨by simp;omega,by simp,by simp⟩,((((bR _ _).alloc (nR _) _).alloc (by simp) _).alloc (by simp;omega) _).drew⟩
theorem steps_len{m n:Nd}{t:Bool}(h:okN m):(stepsP m n t).length≤6:=by
 unfold stepsP;split
 ·simp
 split
 ·simp
 ·have h1:=List.length_filterMap_le (labSt m n t) (List.range m.labs.length)
  have h2:=(shp_len (okN_shp h)).1;rw [List.length_range]at h1;omega
def STB(sq mq:Nat)(u:Value)(W:World)(ss:List Stp)(a:OAd):Prop:=ss=[]∨∃b o,a=some ⟨b,o,none⟩∧b≠mq∧b≠sq∧b<W.heap.size∧u.ownBlock≠some b∧∀i (h:i<ss.length),W.cell? ⟨b,o+i*4,none⟩=some (.string ss[i].1)∧W.cell? ⟨b,o+i*4+1,none⟩=some (.int .i64 (ss[i].2.1:Int))∧W.cell? ⟨b,o+i*4+2,none⟩=some (.int .i64 (ss[i].2.2.1:Int))∧W.cell? ⟨b,o+i*4+3,none⟩=some (.bool ss[i].2.2.2)
theorem fresh_neB{u u':Value}{W:World}{b:Nat}(hn:u'.ownBlock=u.ownBlock∨∀j,u'.ownBlock=some j→W.heap.size≤j)(hl:b<W.heap.size)(hu:u.ownBlock≠some b):u'.ownBlock≠some b:=by
 intro e;rcases hn with q|q
 ·exact hu (q ▸ e)
 ·have:=q b e;omega
theorem STB.keep{sq mq:Nat}{W W':World}{u u':Value}{ss:List Stp}{a:OAd}(h:STB sq mq u W ss a)(hf:RF mq sq u.ownBlock W W')(hn:u'.ownBlock=u.ownBlock∨∀j,u'.ownBlock=some j→W.heap.size≤j):STB sq mq u' W' ss a :=
 h.imp id fun ⟨b,o,e,h1,h2,hl,hu,hc⟩=>⟨b,o,e,h1,h2,nL hl hf.size,fresh_neB hn hl hu,fun i hi=>by
  have k:∀o,W'.cell? ⟨b,o,none⟩=W.cell? ⟨b,o,none⟩:=fun o=>hf.cell hl h1 h2 (fun e=>hu e.symm)
  rw [k,k,k,k];exact hc i hi⟩
theorem fold_takeG{α : Type} [DecidableEq α] {ss:List (Sg α)} {k q:Nat} {arr:List (Ag α)} (hq:q<ss.length):(ss.take (q+1)).foldl (fun a s=>addG a s k) arr=addG ((ss.take q).foldl (fun a s=>addG a s k) arr) ss[q] k:=by
 rw [List.take_succ_eq_append_getElem hq,List.foldl_append];rfl
theorem sm_okB{g h:List Nd}(hg:g.length≤200)(hh:h.length≤200){p:Pl}(hp:okB g h p):smB p:=⟨by have:=hp.1;omega,by have:=hp.2;omega⟩
def FFPost(g h:List Nd)(m n:Nat)(w:World)(e:Ending)(w':World):Prop :=
 ((∃arr,srB g h m n=(none,arr)∧e = .returned (.tuple #[.slice none 0 0,.bool false]))∨(∃k arr,srB g h m n=(some k,arr)∧∃aw cw,e = .returned (.tuple #[.slice aw (wayGA arr k).length cw,.bool true])∧LA w' w'.heap.size (wayGA arr k).reverse aw))∧Below w.heap.size w w'
theorem firstFailing_any(g h:List Nd)(ag ah:OAd)(cg ch B m0 n0:Nat)(w:World)(hg:GN g)(hh:GN h)(hga:GAt w B g ag)(hha:GAt w B h ah)(hB:B≤w.heap.size)(hm0:m0<g.length)(hn0:n0<h.length):
  Calls Tryz.prog 128 #[.slice ag g.length cg,.slice ah h.length ch,.agg #[.int .i64 (m0:Int),.int .i64 (n0:Int),.bool false]] w (FFPost g h m0 n0 w):=by
 have hNb:2*g.length*h.length≤80000:=Nat.mul_le_mul (Nat.mul_le_mul_left 2 hg.le) hh.le;have hgl:=hg.le;have hhl:=hh.le;have hg0:=hg.pos;have hh0:=hh.pos;have HW:=hideK (below_wld hg hh);have hwb:Below w.heap.size w (w.alloc (.cells #[.int .i64 (m0:Int),.int .i64 (n0:Int),.bool false] 119)):=(bR _ _).alloc (nR _) _;have HWB:=hideK hwb;have cA:=fromB_any (m0,n0,false) (w.alloc (.cells #[.int .i64 (m0:Int),.int .i64 (n0:Int),.bool false] 119)) (sm_okB (g:=g) (h:=h) hgl hhl ⟨hm0,hn0⟩);have HK0:=hideK (show okB g h (m0,n0,false) from ⟨hm0,hn0⟩)
 have HG:=hideK hg;have HH:=hideK hh;obtain ⟨gb,go,rfl,hgB,hgc⟩:=hga.resolve_left (fun q=>by rw [q]at hg0;simp at hg0)
 obtain ⟨hb1,ho,rfl,hhB,hhc⟩:=hha.resolve_left (fun q=>by rw [q]at hh0;simp at hh0)
 have HGC:=hideK hgc;have HHC:=hideK hhc;unfold FFPost;simp only [pkB]at cA;clear hga hha hgc hhc hg hh hwb;go_enter Tryz.func128,Tryz.ntmps128
 go_wp2_with fail
 generalize (w.alloc (.cells #[.int .i64 (m0:Int),.int .i64 (n0:Int),.bool false] 119))=wb at *;have hwbs:=HWB.out.size;refine cA.mono ?_;rintro e w1 ⟨sq,mq,u1,rfl,hS1⟩;have HS1:=hideK hS1;clear cA hS1;go_wp2_with fail
 go_loopw [9] (fun i wr=>∃(k:Nat) (arr:List Av) (u:Value),i = .int .i64 (k:Int)∧k≤arr.length∧SWB wb sq mq arr u wr∧SRg (failP g h) (nextS g h) (okB g h) (m0,n0,false) k arr∧srG (failP g h) (nextS g h) (2*g.length*h.length - k) k arr=srB g h m0 n0) (fun i _=>2*g.length*h.length - (intOf i).toNat)
 case atStart=>exact ⟨0,[avG (m0,n0,false)],u1,rfl,by simp,HS1.out,SRg.start HK0.out,rfl⟩
 case round =>
  obtain ⟨k,arr,u,rfl,hka,hS,hSR,hsr⟩:=hrel;have hal:=hSR.len HW.out;clear HS1;have cC:=countB_any wb sq mq arr u wr hS;by_cases hlt:k<arr.length
  ·have hltz:(k:Int)<(arr.length:Int):=by omega
   have cP:=placeB_any wb sq mq arr u k wr hS hlt;have hv:arr[k]? = some arr[k]:=List.getElem?_eq_getElem hlt;have hpl:arr[k].1.2.1<g.length∧arr[k].1.2.2.1<h.length:=hSR.lt arr[k].1.2 (List.mem_map.2 ⟨arr[k],List.getElem_mem hlt,rfl⟩);obtain ⟨a1,c1,a2,c2,hN1,hL1,hT1⟩:=HGC.out _ hpl.1;obtain ⟨a3,c3,a4,c4,hN2,hL2,hT2⟩:=HHC.out _ hpl.2;have em:nodeAt g arr[k].1.2.1=g[arr[k].1.2.1]:=nodeAt_lt g _ hpl.1;have en:nodeAt h arr[k].1.2.2.1=h[arr[k].1.2.2.1]:=nodeAt_lt h _ hpl.2;rw [← em]at hN1 hL1 hT1;rw [← en]at hN2 hL2 hT2;have okm:=HG.out.at_ hpl.1;have okn:=HH.out.at_ hpl.2;have HBW:=hideK (show Below w.heap.size w wr from HWB.out.trans (hS.bl.mono hwbs))
   have HN1:=hideK (show NdAt wr gb (go+arr[k].1.2.1*4) (nodeAt g arr[k].1.2.1) a1 c1 a2 c2 from hN1.keep (HBW.out.mono hB) hgB)
   have HN2:=hideK (show NdAt wr hb1 (ho+arr[k].1.2.2.1*4) (nodeAt h arr[k].1.2.2.1) a3 c3 a4 c4 from hN2.keep (HBW.out.mono hB) hhB)
   have HS:=hideK hS;have HSR:=hideK hSR;have HSRC:=hideK hsr;have HV:=hideK hv;have HL1:=hideK hL1;have HT1:=hideK hT1;have HL2:=hideK hL2;have HT2:=hideK hT2;have HOM:=hideK okm;have HON:=hideK okn;have HFP:=hideK (show failP g h arr[k].1.2=if arr[k].1.2.2.2=true then failB (nodeAt h arr[k].1.2.2.1) (nodeAt g arr[k].1.2.1) else failB (nodeAt g arr[k].1.2.1) (nodeAt h arr[k].1.2.2.1) from rfl)
   have HNS:=hideK (show nextS g h arr[k].1.2=stepsP (nodeAt g arr[k].1.2.1) (nodeAt h arr[k].1.2.2.1) arr[k].1.2.2.2 from rfl)
   have hpa:=hpl.1;have hpb:=hpl.2;clear hS hSR hsr hv hL1 hT1 hL2 hT2 okm okn em en hN1 hN2 hpl;generalize hVp:arr[k].1.2=pp at *;obtain ⟨pa,pb,tt⟩:=pp;simp only [pkB]at cP hpa hpb HL1 HT1 HL2 HT2 HOM HON HFP HNS HN1 HN2;generalize nodeAt g pa=m at *;generalize nodeAt h pb=n at *;have hpaz:(pa:Int)<(g.length:Int):=by omega
   have hpbz:(pb:Int)<(h.length:Int):=by omega
   have hgs:gb<wr.heap.size:=by have:=HBW.out.size;omega
   have hhs:hb1<wr.heap.size:=by have:=HBW.out.size;omega
   go_wp2_with fail
   refine cC.mono ?_;rintro e wc ⟨rfl,hwc⟩;obtain rfl:=hwc.symm;clear cC;go_wp2_with fail
   refine cP.mono ?_;rintro e wp ⟨rfl,hbp⟩;obtain ⟨m0,m1,m2,m3⟩:=HN1.out.keep hbp hgs;obtain ⟨n0,n1,n2,n3⟩:=HN2.out.keep hbp hhs;have hgp:gb<wp.heap.size:=nL hgs hbp.size;have hhp:hb1<wp.heap.size:=nL hhs hbp.size;have HSP:=hideK (HS.out.kept hbp);have HBP:=hideK (HBW.out.trans (hbp.mono HBW.out.size));have hOW:=fun j (hj:u.ownBlock=some j)=>(HS.out.own.lt j hj).2
   have HOW:=hideK (show ∀j,u.ownBlock=some j→j<wp.heap.size from fun j hj=>nL (hOW j hj) hbp.size)
   clear cP hbp hOW HN1 HN2 HBW HS;have sk:∀W W':World,(fun W:World=>W.cell? ⟨wp.heap.size,0,none⟩=some (.int .i64 (pa:Int))∧W.cell? ⟨wp.heap.size,1,none⟩=some (.int .i64 (pb:Int))∧W.cell? ⟨gb,go+pa*4,none⟩=some (.int .i64 m.kind)∧W.cell? ⟨gb,go+pa*4+1,none⟩=some (.int .i64 m.so)∧W.cell? ⟨gb,go+pa*4+2,none⟩=some (.slice a1 m.labs.length c1)∧W.cell? ⟨gb,go+pa*4+3,none⟩=some (.slice a2 m.to.length c2)∧W.cell? ⟨hb1,ho+pb*4,none⟩=some (.int .i64 n.kind)∧W.cell? ⟨hb1,ho+pb*4+1,none⟩=some (.int .i64 n.so)∧W.cell? ⟨hb1,ho+pb*4+2,none⟩=some (.slice a3 n.labs.length c3)∧W.cell? ⟨hb1,ho+pb*4+3,none⟩=some (.slice a4 n.to.length c4)) W→Below (wp.heap.size+1) W W'→(fun W:World=>W.cell? ⟨wp.heap.size,0,none⟩=some (.int .i64 (pa:Int))∧W.cell? ⟨wp.heap.size,1,none⟩=some (.int .i64 (pb:Int))∧W.cell? ⟨gb,go+pa*4,none⟩=some (.int .i64 m.kind)∧W.cell? ⟨gb,go+pa*4+1,none⟩=some (.int .i64 m.so)∧W.cell? ⟨gb,go+pa*4+2,none⟩=some (.slice a1 m.labs.length c1)∧W.cell? ⟨gb,go+pa*4+3,none⟩=some (.slice a2 m.to.length c2)∧W.cell? ⟨hb1,ho+pb*4,none⟩=some (.int .i64 n.kind)∧W.cell? ⟨hb1,ho+pb*4+1,none⟩=some (.int .i64 n.so)∧W.cell? ⟨hb1,ho+pb*4+2,none⟩=some (.slice a3 n.labs.length c3)∧W.cell? ⟨hb1,ho+pb*4+3,none⟩=some (.slice a4 n.to.length c4)) W':=fun W W' ⟨q0,q1,q2,q3,q4,q5,q6,q7,q8,q9⟩ hb=>⟨(hb.cell (p:=⟨wp.heap.size,0,none⟩) (by show wp.heap.size<_;omega)).trans q0,(hb.cell (p:=⟨wp.heap.size,1,none⟩) (by show wp.heap.size<_;omega)).trans q1,(hb.cell (p:=⟨gb,go+pa*4,none⟩) (by show gb<_;omega)).trans q2,(hb.cell (p:=⟨gb,go+pa*4+1,none⟩) (by show gb<_;omega)).trans q3,(hb.cell (p:=⟨gb,go+pa*4+2,none⟩) (by show gb<_;omega)).trans q4,(hb.cell (p:=⟨gb,go+pa*4+3,none⟩) (by show gb<_;omega)).trans q5,(hb.cell (p:=⟨hb1,ho+pb*4,none⟩) (by show hb1<_;omega)).trans q6,(hb.cell (p:=⟨hb1,ho+pb*4+1,none⟩) (by show hb1<_;omega)).trans q7,(hb.cell (p:=⟨hb1,ho+pb*4+2,none⟩) (by show hb1<_;omega)).trans q8,(hb.cell (p:=⟨hb1,ho+pb*4+3,none⟩) (by show hb1<_;omega)).trans q9⟩
   have HP0:=hideK (show Below wp.heap.size wp (wp.alloc (.cells #[.int .i64 (pa:Int),.int .i64 (pb:Int),.bool tt] 119)) from (bR _ _).alloc (nR _) _)
   have HS0:=hideK (show (fun W:World=>W.cell? ⟨wp.heap.size,0,none⟩=some (.int .i64 (pa:Int))∧W.cell? ⟨wp.heap.size,1,none⟩=some (.int .i64 (pb:Int))∧W.cell? ⟨gb,go+pa*4,none⟩=some (.int .i64 m.kind)∧W.cell? ⟨gb,go+pa*4+1,none⟩=some (.int .i64 m.so)∧W.cell? ⟨gb,go+pa*4+2,none⟩=some (.slice a1 m.labs.length c1)∧W.cell? ⟨gb,go+pa*4+3,none⟩=some (.slice a2 m.to.length c2)∧W.cell? ⟨hb1,ho+pb*4,none⟩=some (.int .i64 n.kind)∧W.cell? ⟨hb1,ho+pb*4+1,none⟩=some (.int .i64 n.so)∧W.cell? ⟨hb1,ho+pb*4+2,none⟩=some (.slice a3 n.labs.length c3)∧W.cell? ⟨hb1,ho+pb*4+3,none⟩=some (.slice a4 n.to.length c4)) (wp.alloc (.cells #[.int .i64 (pa:Int),.int .i64 (pb:Int),.bool tt] 119)).drew from ⟨by go_cell,by go_cell,(HP0.out.cell (p:=⟨gb,go+pa*4,none⟩) hgp).trans m0,(HP0.out.cell (p:=⟨gb,go+pa*4+1,none⟩) hgp).trans m1,(HP0.out.cell (p:=⟨gb,go+pa*4+2,none⟩) hgp).trans m2,(HP0.out.cell (p:=⟨gb,go+pa*4+3,none⟩) hgp).trans m3,(HP0.out.cell (p:=⟨hb1,ho+pb*4,none⟩) hhp).trans n0,(HP0.out.cell (p:=⟨hb1,ho+pb*4+1,none⟩) hhp).trans n1,(HP0.out.cell (p:=⟨hb1,ho+pb*4+2,none⟩) hhp).trans n2,(HP0.out.cell (p:=⟨hb1,ho+pb*4+3,none⟩) hhp).trans n3⟩)
   have HSX:=hideK (show ∀o:Obj,(fun W:World=>W.cell? ⟨wp.heap.size,0,none⟩=some (.int .i64 (pa:Int))∧W.cell? ⟨wp.heap.size,1,none⟩=some (.int .i64 (pb:Int))∧W.cell? ⟨gb,go+pa*4,none⟩=some (.int .i64 m.kind)∧W.cell? ⟨gb,go+pa*4+1,none⟩=some (.int .i64 m.so)∧W.cell? ⟨gb,go+pa*4+2,none⟩=some (.slice a1 m.labs.length c1)∧W.cell? ⟨gb,go+pa*4+3,none⟩=some (.slice a2 m.to.length c2)∧W.cell? ⟨hb1,ho+pb*4,none⟩=some (.int .i64 n.kind)∧W.cell? ⟨hb1,ho+pb*4+1,none⟩=some (.int .i64 n.so)∧W.cell? ⟨hb1,ho+pb*4+2,none⟩=some (.slice a3 n.labs.length c3)∧W.cell? ⟨hb1,ho+pb*4+3,none⟩=some (.slice a4 n.to.length c4)) ((wp.alloc (.cells #[.int .i64 (pa:Int),.int .i64 (pb:Int),.bool tt] 119)).alloc o).drew from fun o=>sk _ _ HS0.out (by rw [← alloc_drew];exact (bR _ _).alloc (by simp) _))
   have HSY:=hideK (show ∀o o':Obj,(fun W:World=>W.cell? ⟨wp.heap.size,0,none⟩=some (.int .i64 (pa:Int))∧W.cell? ⟨wp.heap.size,1,none⟩=some (.int .i64 (pb:Int))∧W.cell? ⟨gb,go+pa*4,none⟩=some (.int .i64 m.kind)∧W.cell? ⟨gb,go+pa*4+1,none⟩=some (.int .i64 m.so)∧W.cell? ⟨gb,go+pa*4+2,none⟩=some (.slice a1 m.labs.length c1)∧W.cell? ⟨gb,go+pa*4+3,none⟩=some (.slice a2 m.to.length c2)∧W.cell? ⟨hb1,ho+pb*4,none⟩=some (.int .i64 n.kind)∧W.cell? ⟨hb1,ho+pb*4+1,none⟩=some (.int .i64 n.so)∧W.cell? ⟨hb1,ho+pb*4+2,none⟩=some (.slice a3 n.labs.length c3)∧W.cell? ⟨hb1,ho+pb*4+3,none⟩=some (.slice a4 n.to.length c4)) (((wp.alloc (.cells #[.int .i64 (pa:Int),.int .i64 (pb:Int),.bool tt] 119)).alloc o).alloc o').drew from fun o o'=>sk _ _ (HSX.out o) (by rw [← alloc_drew];exact (bR _ _).alloc (by simp) _))
   clear sk;go_wp2_with fail
   go_region_held3 (fun W:World=>W.cell? ⟨wp.heap.size,0,none⟩=some (.int .i64 (pa:Int))∧W.cell? ⟨wp.heap.size,1,none⟩=some (.int .i64 (pb:Int))∧W.cell? ⟨gb,go+pa*4,none⟩=some (.int .i64 m.kind)∧W.cell? ⟨gb,go+pa*4+1,none⟩=some (.int .i64 m.so)∧W.cell? ⟨gb,go+pa*4+2,none⟩=some (.slice a1 m.labs.length c1)∧W.cell? ⟨gb,go+pa*4+3,none⟩=some (.slice a2 m.to.length c2)∧W.cell? ⟨hb1,ho+pb*4,none⟩=some (.int .i64 n.kind)∧W.cell? ⟨hb1,ho+pb*4+1,none⟩=some (.int .i64 n.so)∧W.cell? ⟨hb1,ho+pb*4+2,none⟩=some (.slice a3 n.labs.length c3)∧W.cell? ⟨hb1,ho+pb*4+3,none⟩=some (.slice a4 n.to.length c4)) (first|exact HS0.out|exact HSX.out _|exact HSY.out _ _|assumption) (fail)
   ·have HRD:=hideK (rd_one wp pa pb tt m n a1 a2 a3 a4 c1 c2 c3 c4)
    clear HS0 HSX HSY HP0 m0 m1 m2 m3 n0 n1 n2 n3;generalize (((wp.alloc (.cells #[.int .i64 (pa:Int),.int .i64 (pb:Int),.bool tt] 119)).alloc (.cells #[.int .i64 m.kind,.int .i64 m.so,.slice a1 m.labs.length c1,.slice a2 m.to.length c2] 102)).alloc (.cells #[.int .i64 n.kind,.int .i64 n.so,.slice a3 n.labs.length c3,.slice a4 n.to.length c4] 102)).drew=V at *;obtain ⟨x0,x1,x2,x3⟩:=HRD.out.x;obtain ⟨y0,y1,y2,y3⟩:=HRD.out.y;simp only [Nat.zero_add]at x1 x2 x3 y1 y2 y3;have p2:=HRD.out.p2;have HSV:=hideK (HSP.out.kept HRD.out.bl);have HBV:=hideK (HBP.out.trans (HRD.out.bl.mono HBP.out.size));have hbV:Below B w V:=HBV.out.mono hB;cases tt with
    | false =>
     simp only [Bool.false_eq_true,if_false]at HFP;have cF:=failsItself_any m n a1 a2 a3 a4 c1 c2 c3 c4 B V (HL1.out.keep hbV) (HL2.out.keep hbV) (Nat.le_trans hB HBV.out.size) (by have:=(shp_len (okN_shp HOM.out)).1;omega) (by have:=(shp_len (okN_shp HON.out)).1;omega)
     simp only [ndVal]at cF;have HKE:=hideK (fun q:failB m n=false=>((failB_iff m n).1 q).1)
     cases hq:failB m n with
     | true =>
      rw [hq]at cF HFP;have HSO:=hideK (srG_fail (fail:=failP g h) (next:=nextS g h) (f:=2*g.length*h.length - k - 1) HV.out (by rw [hVp];exact HFP.out))
      clear hq HKE;go_wp2_with fail
      refine cF.mono ?_;rintro e w2 ⟨rfl,hb2⟩;have HR2:=hideK (HRD.out.keep hb2);have q2:=HR2.out.p2;have HS2:=hideK (HSV.out.kept hb2);have HB2:=hideK (HBV.out.trans (hb2.mono HBV.out.size));have cW:=toB_any wb sq mq arr _ k w2 HS2.out hlt (by omega) HSR.out.way
      clear cF hb2 x0 x1 x2 x3 y0 y1 y2 y3 p2;go_wp2_with fail
      refine cW.mono ?_;rintro e w3 ⟨⟨aw,cw,rfl,hla⟩,hb3⟩;have HB3:=hideK (HB2.out.trans (hb3.mono HB2.out.size));have HLA:=hideK hla;clear cW hla hb3 q2;go_wp2_with fail
      go_ret2
      refine ⟨.inr ⟨k,arr,?_,aw,cw,rfl,HLA.out⟩,HB3.out⟩;rw [← HSRC.out,show 2*g.length*h.length - k=2*g.length*h.length - k - 1+1 by omega]
      exact HSO.out
     | false =>
      rw [hq]at cF HFP;have HKQ:=hideK (show m.kind=n.kind from HKE.out hq)
      have HNX:=hideK (HSR.out.on HW.out HV.out (by rw [hVp];exact HFP.out))
      have HSO:=hideK (srG_go (fail:=failP g h) (next:=nextS g h) (f:=2*g.length*h.length - (k+1)) HV.out (by rw [hVp];exact HFP.out))
      have HFF:=hideK (show failP g h (pa,pb,false)=false from HFP.out)
      rw [hVp]at HNX HSO;clear hq HKE;go_wp2_with fail
      refine cF.mono ?_;rintro e w2 ⟨rfl,hb2⟩;have HR2:=hideK (HRD.out.keep hb2);obtain ⟨z0,z1,z2,z3⟩:=HR2.out.x;obtain ⟨r0,r1,r2,r3⟩:=HR2.out.y;simp only [Nat.zero_add]at z1 z2 z3 r1 r2 r3;have q2:=HR2.out.p2;have HS2:=hideK (HSV.out.kept hb2);have HB2:=hideK (HBV.out.trans (hb2.mono HBV.out.size));have hb2w:Below B w w2:=HB2.out.mono hB;have cS:=steps_any m n false a1 a2 a3 a4 c1 c2 c3 c4 B w2 (HL1.out.keep hb2w) (HT1.out.keep hb2w) (HL2.out.keep hb2w) (HT2.out.keep hb2w) (Nat.le_trans hB HB2.out.size) HOM.out HON.out HKQ.out;simp only [ndVal]at cS;have HNE:=hideK (show stepsP m n false=nextS g h (pa,pb,false) from HNS.out.symm)
      have hss:(stepsP m n false).length≤6:=steps_len HOM.out;generalize stepsP m n false=ss at *;have hwp2:wp.heap.size≤w2.heap.size:=HR2.out.bl.size;clear cF hb2 x0 x1 x2 x3 y0 y1 y2 y3 p2 hb2w;go_wp2_with fail
      refine cS.mono ?_;rintro e w3 ⟨⟨ast,cst,rfl,hst⟩,hb3⟩;have HS3:=hideK (HS2.out.kept hb3);have hssz:(ss.length:Int)≤6:=by omega
      have hsq:sq<wp.heap.size:=HSP.out.ls;have hmq:mq<wp.heap.size:=HSP.out.mp.lt;have HSTI:=hideK (show STB sq mq u w3 ss ast from hst.imp id fun ⟨b,o,e,hl,hc⟩=>⟨b,o,e,by have:=hl.1;omega,by have:=hl.1;omega,hl.2,fun q=>by (have:=HOW.out b q;have:=hl.1;omega),hc⟩)
      clear cS hst hb3 z0 z1 z2 z3 r0 r1 r2 r3 q2;go_wp2_with fail
      go_loopw [62] (fun i wz=>∃(q:Nat) (arr':List Av) (u':Value),q≤ss.length∧i = .int .i64 (q:Int)∧arr'=(ss.take q).foldl (fun a s=>addG a s k) arr∧SWB wb sq mq arr' u' wz∧SRg (failP g h) (nextS g h) (okB g h) (m0,n0,false) k arr'∧(∃v,arr'[k]? = some v∧v.1.2=(pa,pb,false))∧STB sq mq u' wz ss ast) (fun i _=>ss.length - (intOf i).toNat)
      case atStart=>exact ⟨0,arr,_,Nat.zero_le _,rfl,rfl,HS3.out,HSR.out,⟨_,HV.out,hVp⟩,HSTI.out⟩
      case round =>
       obtain ⟨q,arr',u',hql,rfl,har,hS',hSR',⟨v,hv',hvp⟩,hsti⟩:=hrel;clear HSTI;by_cases hqlt:q<ss.length
       ·have hqz:(q:Int)<(ss.length:Int):=by omega
        obtain ⟨sb,so,rfl,hsn1,hsn2,hsl,hsu,hsc⟩:=hsti.resolve_left (fun e=>by rw [e]at hqlt;simp at hqlt)
        obtain ⟨s0,s1,s2,s3⟩:=hsc q hqlt;have hmem:ss[q]∈nextS g h (pa,pb,false):=by rw [← HNE.out];exact List.getElem_mem hqlt
        have hpk:okB g h (pa,pb,false):=⟨hpa,hpb⟩;have hokS:=HW.out.step _ hpk HFF.out _ hmem;have HADD:=hideK (hSR'.add HW.out hv' (by rw [hvp];exact HFF.out) (by rw [hvp];exact hmem))
        have HOLD:=hideK (addG_old (s:=ss[q]) (k:=k) hv');have HFT:=hideK (show addG arr' ss[q] k=(ss.take (q+1)).foldl (fun a s=>addG a s k) arr from by rw [fold_takeG hqlt,har])
        have hl':=hSR'.len HW.out;have HVP:=hideK hvp;have hAl:Below wr.heap.size wr (wr.alloc (.cells #[.string ss[q].1,.int .i64 (ss[q].2.1:Int),.int .i64 (ss[q].2.2.1:Int),.bool ss[q].2.2.2] 188)):=(bR _ _).alloc (nR _) _;have cR:=stepB_any wb sq mq arr' u' ss[q].1 ss[q].2 k _ (hS'.kept hAl) (by omega) (fun p hp=>sm_okB hgl hhl (hSR'.lt p hp)) (sm_okB hgl hhl hokS)
        have HSTI:=hideK hsti;have HRA:=hideK (RF.of (fb:=mq) (rb:=sq) (row:=u'.ownBlock) hAl);clear hsti hsc hmem hokS hvp hv' har hS' hSR' hAl;generalize ss[q]=st at *;obtain ⟨wd,sa,sb2,stt⟩:=st;simp only [pkB]at s0 s1 s2 s3 cR;go_wp2_with fail
        refine cR.mono ?_;rintro e w5 ⟨rfl,u5,hS5,hR5,hf5⟩;have HS5:=hideK hS5;have HT5:=hideK (HSTI.out.keep (HRA.out.trans hR5 (.inl rfl)) (hf5.imp id fun f j hj=>Nat.le_trans (by simp) (f j hj)))
        clear cR hS5 hR5 hf5 s0 s1 s2 s3 HRA HSTI;go_wp2_with fail
        go_roundw
        case rel=>exact ⟨q+1,_,u5,by omega,by go_num,HFT.out,HS5.out,HADD.out,⟨v,HOLD.out,HVP.out⟩,HT5.out⟩
        case measure=>simp [intOf];omega
       ·have hqz:¬(q:Int)<(ss.length:Int):=by omega
        have hqe:q=ss.length:=by omega
        subst hqe;rw [List.take_length]at har;have HAR:=hideK (show arr'=onG (nextS g h) k arr (pa,pb,false) from by rw [har,HNE.out];rfl)
        have hkl:k+1≤arr'.length:=(List.getElem?_eq_some_iff.1 hv').1;have HS9:=hideK hS';have hkz:(k:Int)≤80000:=by omega
        clear har hv' hvp hS' hSR' hsti;go_wp2_with fail
        go_roundw
        case rel =>
         refine ⟨k+1,arr',u',by go_num,hkl,HS9.out,by rw [HAR.out];exact HNX.out,?_⟩
         rw [HAR.out,← HSO.out,show 2*g.length*h.length - (k+1)+1=2*g.length*h.length - k by omega]
         exact HSRC.out
        case measure=>simp [intOf];omega
    | true =>
     simp only [if_true]at HFP;have cF:=failsItself_any n m a3 a4 a1 a2 c3 c4 c1 c2 B V (HL2.out.keep hbV) (HL1.out.keep hbV) (Nat.le_trans hB HBV.out.size) (by have:=(shp_len (okN_shp HON.out)).1;omega) (by have:=(shp_len (okN_shp HOM.out)).1;omega)
     simp only [ndVal]at cF;have HKE:=hideK (fun q:failB n m=false=>((failB_iff n m).1 q).1)
     cases hq:failB n m with
     | true =>
      rw [hq]at cF HFP;have HSO:=hideK (srG_fail (fail:=failP g h) (next:=nextS g h) (f:=2*g.length*h.length - k - 1) HV.out (by rw [hVp];exact HFP.out))
      clear hq HKE;go_wp2_with fail
      refine cF.mono ?_;rintro e w2 ⟨rfl,hb2⟩;have HR2:=hideK (HRD.out.keep hb2);have q2:=HR2.out.p2;have HS2:=hideK (HSV.out.kept hb2);have HB2:=hideK (HBV.out.trans (hb2.mono HBV.out.size));have cW:=toB_any wb sq mq arr _ k w2 HS2.out hlt (by omega) HSR.out.way
      clear cF hb2 x0 x1 x2 x3 y0 y1 y2 y3 p2;go_wp2_with fail
      refine cW.mono ?_;rintro e w3 ⟨⟨aw,cw,rfl,hla⟩,hb3⟩;have HB3:=hideK (HB2.out.trans (hb3.mono HB2.out.size));have HLA:=hideK hla;clear cW hla hb3 q2;go_wp2_with fail
      go_ret2
      refine ⟨.inr ⟨k,arr,?_,aw,cw,rfl,HLA.out⟩,HB3.out⟩;rw [← HSRC.out,show 2*g.length*h.length - k=2*g.length*h.length - k - 1+1 by omega]
      exact HSO.out
     | false =>
      rw [hq]at cF HFP;have HKQ:=hideK (show m.kind=n.kind from (HKE.out hq).symm)
      have HNX:=hideK (HSR.out.on HW.out HV.out (by rw [hVp];exact HFP.out))
      have HSO:=hideK (srG_go (fail:=failP g h) (next:=nextS g h) (f:=2*g.length*h.length - (k+1)) HV.out (by rw [hVp];exact HFP.out))
      have HFF:=hideK (show failP g h (pa,pb,true)=false from HFP.out)
      rw [hVp]at HNX HSO;clear hq HKE;go_wp2_with fail
      refine cF.mono ?_;rintro e w2 ⟨rfl,hb2⟩;have HR2:=hideK (HRD.out.keep hb2);obtain ⟨z0,z1,z2,z3⟩:=HR2.out.x;obtain ⟨r0,r1,r2,r3⟩:=HR2.out.y;simp only [Nat.zero_add]at z1 z2 z3 r1 r2 r3;have q2:=HR2.out.p2;have HS2:=hideK (HSV.out.kept hb2);have HB2:=hideK (HBV.out.trans (hb2.mono HBV.out.size));have hb2w:Below B w w2:=HB2.out.mono hB;have cS:=steps_any m n true a1 a2 a3 a4 c1 c2 c3 c4 B w2 (HL1.out.keep hb2w) (HT1.out.keep hb2w) (HL2.out.keep hb2w) (HT2.out.keep hb2w) (Nat.le_trans hB HB2.out.size) HOM.out HON.out HKQ.out;simp only [ndVal]at cS;have HNE:=hideK (show stepsP m n true=nextS g h (pa,pb,true) from HNS.out.symm)
      have hss:(stepsP m n true).length≤6:=steps_len HOM.out;generalize stepsP m n true=ss at *;have hwp2:wp.heap.size≤w2.heap.size:=HR2.out.bl.size;clear cF hb2 x0 x1 x2 x3 y0 y1 y2 y3 p2 hb2w;go_wp2_with fail
      refine cS.mono ?_;rintro e w3 ⟨⟨ast,cst,rfl,hst⟩,hb3⟩;have HS3:=hideK (HS2.out.kept hb3);have hssz:(ss.length:Int)≤6:=by omega
      have hsq:sq<wp.heap.size:=HSP.out.ls;have hmq:mq<wp.heap.size:=HSP.out.mp.lt;have HSTI:=hideK (show STB sq mq u w3 ss ast from hst.imp id fun ⟨b,o,e,hl,hc⟩=>⟨b,o,e,by have:=hl.1;omega,by have:=hl.1;omega,hl.2,fun q=>by (have:=HOW.out b q;have:=hl.1;omega),hc⟩)
      clear cS hst hb3 z0 z1 z2 z3 r0 r1 r2 r3 q2;go_wp2_with fail
      go_loopw [62] (fun i wz=>∃(q:Nat) (arr':List Av) (u':Value),q≤ss.length∧i = .int .i64 (q:Int)∧arr'=(ss.take q).foldl (fun a s=>addG a s k) arr∧SWB wb sq mq arr' u' wz∧SRg (failP g h) (nextS g h) (okB g h) (m0,n0,false) k arr'∧(∃v,arr'[k]? = some v∧v.1.2=(pa,pb,true))∧STB sq mq u' wz ss ast) (fun i _=>ss.length - (intOf i).toNat)
      case atStart=>exact ⟨0,arr,_,Nat.zero_le _,rfl,rfl,HS3.out,HSR.out,⟨_,HV.out,hVp⟩,HSTI.out⟩
      case round =>
       obtain ⟨q,arr',u',hql,rfl,har,hS',hSR',⟨v,hv',hvp⟩,hsti⟩:=hrel;clear HSTI;by_cases hqlt:q<ss.length
       ·have hqz:(q:Int)<(ss.length:Int):=by omega
        obtain ⟨sb,so,rfl,hsn1,hsn2,hsl,hsu,hsc⟩:=hsti.resolve_left (fun e=>by rw [e]at hqlt;simp at hqlt)
        obtain ⟨s0,s1,s2,s3⟩:=hsc q hqlt;have hmem:ss[q]∈nextS g h (pa,pb,true):=by rw [← HNE.out];exact List.getElem_mem hqlt
        have hpk:okB g h (pa,pb,true):=⟨hpa,hpb⟩;have hokS:=HW.out.step _ hpk HFF.out _ hmem;have HADD:=hideK (hSR'.add HW.out hv' (by rw [hvp];exact HFF.out) (by rw [hvp];exact hmem))
        have HOLD:=hideK (addG_old (s:=ss[q]) (k:=k) hv');have HFT:=hideK (show addG arr' ss[q] k=(ss.take (q+1)).foldl (fun a s=>addG a s k) arr from by rw [fold_takeG hqlt,har])
        have hl':=hSR'.len HW.out;have HVP:=hideK hvp;have hAl:Below wr.heap.size wr (wr.alloc (.cells #[.string ss[q].1,.int .i64 (ss[q].2.1:Int),.int .i64 (ss[q].2.2.1:Int),.bool ss[q].2.2.2] 188)):=(bR _ _).alloc (nR _) _;have cR:=stepB_any wb sq mq arr' u' ss[q].1 ss[q].2 k _ (hS'.kept hAl) (by omega) (fun p hp=>sm_okB hgl hhl (hSR'.lt p hp)) (sm_okB hgl hhl hokS)
        have HSTI:=hideK hsti;have HRA:=hideK (RF.of (fb:=mq) (rb:=sq) (row:=u'.ownBlock) hAl);clear hsti hsc hmem hokS hvp hv' har hS' hSR' hAl;generalize ss[q]=st at *;obtain ⟨wd,sa,sb2,stt⟩:=st;simp only [pkB]at s0 s1 s2 s3 cR;go_wp2_with fail
        refine cR.mono ?_;rintro e w5 ⟨rfl,u5,hS5,hR5,hf5⟩;have HS5:=hideK hS5;have HT5:=hideK (HSTI.out.keep (HRA.out.trans hR5 (.inl rfl)) (hf5.imp id fun f j hj=>Nat.le_trans (by simp) (f j hj)))
        clear cR hS5 hR5 hf5 s0 s1 s2 s3 HRA HSTI;go_wp2_with fail
        go_roundw
        case rel=>exact ⟨q+1,_,u5,by omega,by go_num,HFT.out,HS5.out,HADD.out,⟨v,HOLD.out,HVP.out⟩,HT5.out⟩
        case measure=>simp [intOf];omega
       ·have hqz:¬(q:Int)<(ss.length:Int):=by omega
        have hqe:q=ss.length:=by omega
        subst hqe;rw [List.take_length]at har;have HAR:=hideK (show arr'=onG (nextS g h) k arr (pa,pb,true) from by rw [har,HNE.out];rfl)
        have hkl:k+1≤arr'.length:=(List.getElem?_eq_some_iff.1 hv').1;have HS9:=hideK hS';have hkz:(k:Int)≤80000:=by omega
        clear har hv' hvp hS' hSR' hsti;go_wp2_with fail
        go_roundw
        case rel =>
         refine ⟨k+1,arr',u',by go_num,hkl,HS9.out,by rw [HAR.out];exact HNX.out,?_⟩
         rw [HAR.out,← HSO.out,show 2*g.length*h.length - (k+1)+1=2*g.length*h.length - k by omega]
         exact HSRC.out
        case measure=>simp [intOf];omega
   ·have HRD:=hideK (rd_two wp pa pb tt m n a1 a2 a3 a4 c1 c2 c3 c4)
    clear HS0 HSX HSY HP0 m0 m1 m2 m3 n0 n1 n2 n3;generalize (((wp.alloc (.cells #[.int .i64 (pa:Int),.int .i64 (pb:Int),.bool tt] 119)).alloc (.cells #[.int .i64 n.kind,.int .i64 n.so,.slice a3 n.labs.length c3,.slice a4 n.to.length c4] 102)).alloc (.cells #[.int .i64 m.kind,.int .i64 m.so,.slice a1 m.labs.length c1,.slice a2 m.to.length c2] 102)).drew=V at *;obtain ⟨x0,x1,x2,x3⟩:=HRD.out.x;obtain ⟨y0,y1,y2,y3⟩:=HRD.out.y;simp only [Nat.zero_add]at x1 x2 x3 y1 y2 y3;have p2:=HRD.out.p2;have HSV:=hideK (HSP.out.kept HRD.out.bl);have HBV:=hideK (HBP.out.trans (HRD.out.bl.mono HBP.out.size));have hbV:Below B w V:=HBV.out.mono hB;cases tt with
    | false =>
     simp only [Bool.false_eq_true,if_false]at HFP;have cF:=failsItself_any m n a1 a2 a3 a4 c1 c2 c3 c4 B V (HL1.out.keep hbV) (HL2.out.keep hbV) (Nat.le_trans hB HBV.out.size) (by have:=(shp_len (okN_shp HOM.out)).1;omega) (by have:=(shp_len (okN_shp HON.out)).1;omega)
     simp only [ndVal]at cF;have HKE:=hideK (fun q:failB m n=false=>((failB_iff m n).1 q).1)
     cases hq:failB m n with
     | true =>
      rw [hq]at cF HFP;have HSO:=hideK (srG_fail (fail:=failP g h) (next:=nextS g h) (f:=2*g.length*h.length - k - 1) HV.out (by rw [hVp];exact HFP.out))
      clear hq HKE;go_wp2_with fail
      refine cF.mono ?_;rintro e w2 ⟨rfl,hb2⟩;have HR2:=hideK (HRD.out.keep hb2);have q2:=HR2.out.p2;have HS2:=hideK (HSV.out.kept hb2);have HB2:=hideK (HBV.out.trans (hb2.mono HBV.out.size));have cW:=toB_any wb sq mq arr _ k w2 HS2.out hlt (by omega) HSR.out.way
      clear cF hb2 x0 x1 x2 x3 y0 y1 y2 y3 p2;go_wp2_with fail
      refine cW.mono ?_;rintro e w3 ⟨⟨aw,cw,rfl,hla⟩,hb3⟩;have HB3:=hideK (HB2.out.trans (hb3.mono HB2.out.size));have HLA:=hideK hla;clear cW hla hb3 q2;go_wp2_with fail
      go_ret2
      refine ⟨.inr ⟨k,arr,?_,aw,cw,rfl,HLA.out⟩,HB3.out⟩;rw [← HSRC.out,show 2*g.length*h.length - k=2*g.length*h.length - k - 1+1 by omega]
      exact HSO.out
     | false =>
      rw [hq]at cF HFP;have HKQ:=hideK (show m.kind=n.kind from HKE.out hq)
      have HNX:=hideK (HSR.out.on HW.out HV.out (by rw [hVp];exact HFP.out))
      have HSO:=hideK (srG_go (fail:=failP g h) (next:=nextS g h) (f:=2*g.length*h.length - (k+1)) HV.out (by rw [hVp];exact HFP.out))
      have HFF:=hideK (show failP g h (pa,pb,false)=false from HFP.out)
      rw [hVp]at HNX HSO;clear hq HKE;go_wp2_with fail
      refine cF.mono ?_;rintro e w2 ⟨rfl,hb2⟩;have HR2:=hideK (HRD.out.keep hb2);obtain ⟨z0,z1,z2,z3⟩:=HR2.out.x;obtain ⟨r0,r1,r2,r3⟩:=HR2.out.y;simp only [Nat.zero_add]at z1 z2 z3 r1 r2 r3;have q2:=HR2.out.p2;have HS2:=hideK (HSV.out.kept hb2);have HB2:=hideK (HBV.out.trans (hb2.mono HBV.out.size));have hb2w:Below B w w2:=HB2.out.mono hB;have cS:=steps_any m n false a1 a2 a3 a4 c1 c2 c3 c4 B w2 (HL1.out.keep hb2w) (HT1.out.keep hb2w) (HL2.out.keep hb2w) (HT2.out.keep hb2w) (Nat.le_trans hB HB2.out.size) HOM.out HON.out HKQ.out;simp only [ndVal]at cS;have HNE:=hideK (show stepsP m n false=nextS g h (pa,pb,false) from HNS.out.symm)
      have hss:(stepsP m n false).length≤6:=steps_len HOM.out;generalize stepsP m n false=ss at *;have hwp2:wp.heap.size≤w2.heap.size:=HR2.out.bl.size;clear cF hb2 x0 x1 x2 x3 y0 y1 y2 y3 p2 hb2w;go_wp2_with fail
      refine cS.mono ?_;rintro e w3 ⟨⟨ast,cst,rfl,hst⟩,hb3⟩;have HS3:=hideK (HS2.out.kept hb3);have hssz:(ss.length:Int)≤6:=by omega
      have hsq:sq<wp.heap.size:=HSP.out.ls;have hmq:mq<wp.heap.size:=HSP.out.mp.lt;have HSTI:=hideK (show STB sq mq u w3 ss ast from hst.imp id fun ⟨b,o,e,hl,hc⟩=>⟨b,o,e,by have:=hl.1;omega,by have:=hl.1;omega,hl.2,fun q=>by (have:=HOW.out b q;have:=hl.1;omega),hc⟩)
      clear cS hst hb3 z0 z1 z2 z3 r0 r1 r2 r3 q2;go_wp2_with fail
      go_loopw [62] (fun i wz=>∃(q:Nat) (arr':List Av) (u':Value),q≤ss.length∧i = .int .i64 (q:Int)∧arr'=(ss.take q).foldl (fun a s=>addG a s k) arr∧SWB wb sq mq arr' u' wz∧SRg (failP g h) (nextS g h) (okB g h) (m0,n0,false) k arr'∧(∃v,arr'[k]? = some v∧v.1.2=(pa,pb,false))∧STB sq mq u' wz ss ast) (fun i _=>ss.length - (intOf i).toNat)
      case atStart=>exact ⟨0,arr,_,Nat.zero_le _,rfl,rfl,HS3.out,HSR.out,⟨_,HV.out,hVp⟩,HSTI.out⟩
      case round =>
       obtain ⟨q,arr',u',hql,rfl,har,hS',hSR',⟨v,hv',hvp⟩,hsti⟩:=hrel;clear HSTI;by_cases hqlt:q<ss.length
       ·have hqz:(q:Int)<(ss.length:Int):=by omega
        obtain ⟨sb,so,rfl,hsn1,hsn2,hsl,hsu,hsc⟩:=hsti.resolve_left (fun e=>by rw [e]at hqlt;simp at hqlt)
        obtain ⟨s0,s1,s2,s3⟩:=hsc q hqlt;have hmem:ss[q]∈nextS g h (pa,pb,false):=by rw [← HNE.out];exact List.getElem_mem hqlt
        have hpk:okB g h (pa,pb,false):=⟨hpa,hpb⟩;have hokS:=HW.out.step _ hpk HFF.out _ hmem;have HADD:=hideK (hSR'.add HW.out hv' (by rw [hvp];exact HFF.out) (by rw [hvp];exact hmem))
        have HOLD:=hideK (addG_old (s:=ss[q]) (k:=k) hv');have HFT:=hideK (show addG arr' ss[q] k=(ss.take (q+1)).foldl (fun a s=>addG a s k) arr from by rw [fold_takeG hqlt,har])
        have hl':=hSR'.len HW.out;have HVP:=hideK hvp;have hAl:Below wr.heap.size wr (wr.alloc (.cells #[.string ss[q].1,.int .i64 (ss[q].2.1:Int),.int .i64 (ss[q].2.2.1:Int),.bool ss[q].2.2.2] 188)):=(bR _ _).alloc (nR _) _;have cR:=stepB_any wb sq mq arr' u' ss[q].1 ss[q].2 k _ (hS'.kept hAl) (by omega) (fun p hp=>sm_okB hgl hhl (hSR'.lt p hp)) (sm_okB hgl hhl hokS)
        have HSTI:=hideK hsti;have HRA:=hideK (RF.of (fb:=mq) (rb:=sq) (row:=u'.ownBlock) hAl);clear hsti hsc hmem hokS hvp hv' har hS' hSR' hAl;generalize ss[q]=st at *;obtain ⟨wd,sa,sb2,stt⟩:=st;simp only [pkB]at s0 s1 s2 s3 cR;go_wp2_with fail
        refine cR.mono ?_;rintro e w5 ⟨rfl,u5,hS5,hR5,hf5⟩;have HS5:=hideK hS5;have HT5:=hideK (HSTI.out.keep (HRA.out.trans hR5 (.inl rfl)) (hf5.imp id fun f j hj=>Nat.le_trans (by simp) (f j hj)))
        clear cR hS5 hR5 hf5 s0 s1 s2 s3 HRA HSTI;go_wp2_with fail
        go_roundw
        case rel=>exact ⟨q+1,_,u5,by omega,by go_num,HFT.out,HS5.out,HADD.out,⟨v,HOLD.out,HVP.out⟩,HT5.out⟩
        case measure=>simp [intOf];omega
       ·have hqz:¬(q:Int)<(ss.length:Int):=by omega
        have hqe:q=ss.length:=by omega
        subst hqe;rw [List.take_length]at har;have HAR:=hideK (show arr'=onG (nextS g h) k arr (pa,pb,false) from by rw [har,HNE.out];rfl)
        have hkl:k+1≤arr'.length:=(List.getElem?_eq_some_iff.1 hv').1;have HS9:=hideK hS';have hkz:(k:Int)≤80000:=by omega
        clear har hv' hvp hS' hSR' hsti;go_wp2_with fail
        go_roundw
        case rel =>
         refine ⟨k+1,arr',u',by go_num,hkl,HS9.out,by rw [HAR.out];exact HNX.out,?_⟩
         rw [HAR.out,← HSO.out,show 2*g.length*h.length - (k+1)+1=2*g.length*h.length - k by omega]
         exact HSRC.out
        case measure=>simp [intOf];omega
    | true =>
     simp only [if_true]at HFP;have cF:=failsItself_any n m a3 a4 a1 a2 c3 c4 c1 c2 B V (HL2.out.keep hbV) (HL1.out.keep hbV) (Nat.le_trans hB HBV.out.size) (by have:=(shp_len (okN_shp HON.out)).1;omega) (by have:=(shp_len (okN_shp HOM.out)).1;omega)
     simp only [ndVal]at cF;have HKE:=hideK (fun q:failB n m=false=>((failB_iff n m).1 q).1)
     cases hq:failB n m with
     | true =>
      rw [hq]at cF HFP;have HSO:=hideK (srG_fail (fail:=failP g h) (next:=nextS g h) (f:=2*g.length*h.length - k - 1) HV.out (by rw [hVp];exact HFP.out))
      clear hq HKE;go_wp2_with fail
      refine cF.mono ?_;rintro e w2 ⟨rfl,hb2⟩;have HR2:=hideK (HRD.out.keep hb2);have q2:=HR2.out.p2;have HS2:=hideK (HSV.out.kept hb2);have HB2:=hideK (HBV.out.trans (hb2.mono HBV.out.size));have cW:=toB_any wb sq mq arr _ k w2 HS2.out hlt (by omega) HSR.out.way
      clear cF hb2 x0 x1 x2 x3 y0 y1 y2 y3 p2;go_wp2_with fail
      refine cW.mono ?_;rintro e w3 ⟨⟨aw,cw,rfl,hla⟩,hb3⟩;have HB3:=hideK (HB2.out.trans (hb3.mono HB2.out.size));have HLA:=hideK hla;clear cW hla hb3 q2;go_wp2_with fail
      go_ret2
      refine ⟨.inr ⟨k,arr,?_,aw,cw,rfl,HLA.out⟩,HB3.out⟩;rw [← HSRC.out,show 2*g.length*h.length - k=2*g.length*h.length - k - 1+1 by omega]
      exact HSO.out
     | false =>
      rw [hq]at cF HFP;have HKQ:=hideK (show m.kind=n.kind from (HKE.out hq).symm)
      have HNX:=hideK (HSR.out.on HW.out HV.out (by rw [hVp];exact HFP.out))
      have HSO:=hideK (srG_go (fail:=failP g h) (next:=nextS g h) (f:=2*g.length*h.length - (k+1)) HV.out (by rw [hVp];exact HFP.out))
      have HFF:=hideK (show failP g h (pa,pb,true)=false from HFP.out)
      rw [hVp]at HNX HSO;clear hq HKE;go_wp2_with fail
      refine cF.mono ?_;rintro e w2 ⟨rfl,hb2⟩;have HR2:=hideK (HRD.out.keep hb2);obtain ⟨z0,z1,z2,z3⟩:=HR2.out.x;obtain ⟨r0,r1,r2,r3⟩:=HR2.out.y;simp only [Nat.zero_add]at z1 z2 z3 r1 r2 r3;have q2:=HR2.out.p2;have HS2:=hideK (HSV.out.kept hb2);have HB2:=hideK (HBV.out.trans (hb2.mono HBV.out.size));have hb2w:Below B w w2:=HB2.out.mono hB;have cS:=steps_any m n true a1 a2 a3 a4 c1 c2 c3 c4 B w2 (HL1.out.keep hb2w) (HT1.out.keep hb2w) (HL2.out.keep hb2w) (HT2.out.keep hb2w) (Nat.le_trans hB HB2.out.size) HOM.out HON.out HKQ.out;simp only [ndVal]at cS;have HNE:=hideK (show stepsP m n true=nextS g h (pa,pb,true) from HNS.out.symm)
      have hss:(stepsP m n true).length≤6:=steps_len HOM.out;generalize stepsP m n true=ss at *;have hwp2:wp.heap.size≤w2.heap.size:=HR2.out.bl.size;clear cF hb2 x0 x1 x2 x3 y0 y1 y2 y3 p2 hb2w;go_wp2_with fail
      refine cS.mono ?_;rintro e w3 ⟨⟨ast,cst,rfl,hst⟩,hb3⟩;have HS3:=hideK (HS2.out.kept hb3);have hssz:(ss.length:Int)≤6:=by omega
      have hsq:sq<wp.heap.size:=HSP.out.ls;have hmq:mq<wp.heap.size:=HSP.out.mp.lt;have HSTI:=hideK (show STB sq mq u w3 ss ast from hst.imp id fun ⟨b,o,e,hl,hc⟩=>⟨b,o,e,by have:=hl.1;omega,by have:=hl.1;omega,hl.2,fun q=>by (have:=HOW.out b q;have:=hl.1;omega),hc⟩)
      clear cS hst hb3 z0 z1 z2 z3 r0 r1 r2 r3 q2;go_wp2_with fail
      go_loopw [62] (fun i wz=>∃(q:Nat) (arr':List Av) (u':Value),q≤ss.length∧i = .int .i64 (q:Int)∧arr'=(ss.take q).foldl (fun a s=>addG a s k) arr∧SWB wb sq mq arr' u' wz∧SRg (failP g h) (nextS g h) (okB g h) (m0,n0,false) k arr'∧(∃v,arr'[k]? = some v∧v.1.2=(pa,pb,true))∧STB sq mq u' wz ss ast) (fun i _=>ss.length - (intOf i).toNat)
      case atStart=>exact ⟨0,arr,_,Nat.zero_le _,rfl,rfl,HS3.out,HSR.out,⟨_,HV.out,hVp⟩,HSTI.out⟩
      case round =>
       obtain ⟨q,arr',u',hql,rfl,har,hS',hSR',⟨v,hv',hvp⟩,hsti⟩:=hrel;clear HSTI;by_cases hqlt:q<ss.length
       ·have hqz:(q:Int)<(ss.length:Int):=by omega
        obtain ⟨sb,so,rfl,hsn1,hsn2,hsl,hsu,hsc⟩:=hsti.resolve_left (fun e=>by rw [e]at hqlt;simp at hqlt)
        obtain ⟨s0,s1,s2,s3⟩:=hsc q hqlt;have hmem:ss[q]∈nextS g h (pa,pb,true):=by rw [← HNE.out];exact List.getElem_mem hqlt
        have hpk:okB g h (pa,pb,true):=⟨hpa,hpb⟩;have hokS:=HW.out.step _ hpk HFF.out _ hmem;have HADD:=hideK (hSR'.add HW.out hv' (by rw [hvp];exact HFF.out) (by rw [hvp];exact hmem))
        have HOLD:=hideK (addG_old (s:=ss[q]) (k:=k) hv');have HFT:=hideK (show addG arr' ss[q] k=(ss.take (q+1)).foldl (fun a s=>addG a s k) arr from by rw [fold_takeG hqlt,har])
        have hl':=hSR'.len HW.out;have HVP:=hideK hvp;have hAl:Below wr.heap.size wr (wr.alloc (.cells #[.string ss[q].1,.int .i64 (ss[q].2.1:Int),.int .i64 (ss[q].2.2.1:Int),.bool ss[q].2.2.2] 188)):=(bR _ _).alloc (nR _) _;have cR:=stepB_any wb sq mq arr' u' ss[q].1 ss[q].2 k _ (hS'.kept hAl) (by omega) (fun p hp=>sm_okB hgl hhl (hSR'.lt p hp)) (sm_okB hgl hhl hokS)
        have HSTI:=hideK hsti;have HRA:=hideK (RF.of (fb:=mq) (rb:=sq) (row:=u'.ownBlock) hAl);clear hsti hsc hmem hokS hvp hv' har hS' hSR' hAl;generalize ss[q]=st at *;obtain ⟨wd,sa,sb2,stt⟩:=st;simp only [pkB]at s0 s1 s2 s3 cR;go_wp2_with fail
        refine cR.mono ?_;rintro e w5 ⟨rfl,u5,hS5,hR5,hf5⟩;have HS5:=hideK hS5;have HT5:=hideK (HSTI.out.keep (HRA.out.trans hR5 (.inl rfl)) (hf5.imp id fun f j hj=>Nat.le_trans (by simp) (f j hj)))
        clear cR hS5 hR5 hf5 s0 s1 s2 s3 HRA HSTI;go_wp2_with fail
        go_roundw
        case rel=>exact ⟨q+1,_,u5,by omega,by go_num,HFT.out,HS5.out,HADD.out,⟨v,HOLD.out,HVP.out⟩,HT5.out⟩
        case measure=>simp [intOf];omega
       ·have hqz:¬(q:Int)<(ss.length:Int):=by omega
        have hqe:q=ss.length:=by omega
        subst hqe;rw [List.take_length]at har;have HAR:=hideK (show arr'=onG (nextS g h) k arr (pa,pb,true) from by rw [har,HNE.out];rfl)
        have hkl:k+1≤arr'.length:=(List.getElem?_eq_some_iff.1 hv').1;have HS9:=hideK hS';have hkz:(k:Int)≤80000:=by omega
        clear har hv' hvp hS' hSR' hsti;go_wp2_with fail
        go_roundw
        case rel =>
         refine ⟨k+1,arr',u',by go_num,hkl,HS9.out,by rw [HAR.out];exact HNX.out,?_⟩
         rw [HAR.out,← HSO.out,show 2*g.length*h.length - (k+1)+1=2*g.length*h.length - k by omega]
         exact HSRC.out
        case measure=>simp [intOf];omega
  ·have hltz:¬(k:Int)<(arr.length:Int):=by omega
   have HSO:=hideK (hsr.symm.trans (srG_stop (by omega)))
   have HB:=hideK (show Below w.heap.size w wr from HWB.out.trans (hS.bl.mono hwbs))
   clear hS hSR hsr;go_wp2_with fail
   refine cC.mono ?_;rintro e wc ⟨rfl,hwc⟩;obtain rfl:=hwc.symm;clear cC;go_wp2_with fail
   go_ret2
   first|exact ⟨.inl ⟨arr,HSO.out,rfl⟩,HB.out⟩|exact ⟨.inl ⟨⟨arr,HSO.out⟩,rfl⟩,HB.out⟩|exact ⟨.inl ⟨arr,HSO.out⟩,HB.out⟩
end Go.Proofs.YtmamabhhgfcjcaaGreatDoor
