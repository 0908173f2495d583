/-
  The contract of comply.getOn, for every two graphs that Check lets by.
-/
import Derived.Test.YtnedgkcejlhnbaaGreatDoorSz
import Derived.Test.YtnedgkcejlhnbaaGreatDoorVq
import Derived.Test.YtnedgkcejlhnbaaGreatDoorVh
set_option maxRecDepth 100000
set_option maxHeartbeats 16000000
namespace Go.Proofs.YtnedgkcejlhnbaaGreatDoor
open Go.RowKit Go.Shelf
structure RDC(wr V:World)(ps mb nb pa pb:Nat)(m n:Nd)(a1 a2 a3 a4:OAd)(c1 c2 c3 c4:Nat):Prop where
 p0:V.cell? ⟨ps,0,none⟩=some (.int .i64 (pa:Int))
 p1:V.cell? ⟨ps,1,none⟩=some (.int .i64 (pb:Int))
 x:NdAt V mb 0 m a1 c1 a2 c2
 y:NdAt V nb 0 n a3 c3 a4 c4
 lt:ps<V.heap.size∧mb<V.heap.size∧nb<V.heap.size
 bl:Below wr.heap.size wr V
theorem rdc_one(wr:World)(pa pb:Nat)(m n:Nd)(a1 a2 a3 a4:OAd)(c1 c2 c3 c4:Nat):RDC wr (((wr.alloc (.cells #[.int .i64 (pa:Int),.int .i64 (pb:Int)] 73)).alloc (.cells #[.int .i64 m.kind,.int .i64 m.so,.slice a1 m.labs.length c1,.slice a2 m.to.length c2] 56)).alloc (.cells #[.int .i64 n.kind,.int .i64 n.so,.slice a3 n.labs.length c3,.slice a4 n.to.length c4] 56)).drew wr.heap.size (wr.heap.size+1) (wr.heap.size+1+1) pa pb m n a1 a2 a3 a4 c1 c2 c3 c4 :=
 ⟨by go_cell,by go_cell,⟨by go_cell,by go_cell,by go_cell,by go_cell⟩,⟨by go_cell,by go_cell,by go_cell,by go_cell⟩,⟨by simp;omega,by simp,by simp⟩,((((Below.refl _ _).alloc (Nat.le_refl _) _).alloc (by simp) _).alloc (by simp;omega) _).drew⟩
theorem rdc_two(wr:World)(pa pb:Nat)(m n:Nd)(a1 a2 a3 a4:OAd)(c1 c2 c3 c4:Nat):RDC wr (((wr.alloc (.cells #[.int .i64 (pa:Int),.int .i64 (pb:Int)] 73)).alloc (.cells #[.int .i64 n.kind,.int .i64 n.so,.slice a3 n.labs.length c3,.slice a4 n.to.length c4] 56)).alloc (.cells #[.int .i64 m.kind,.int .i64 m.so,.slice a1 m.labs.length c1,.slice a2 m.to.length c2] 56)).drew wr.heap.size (wr.heap.size+1+1) (wr.heap.size+1) pa pb m n a1 a2 a3 a4 c1 c2 c3 c4 :=
 ⟨by go_cell,by go_cell,⟨by go_cell,by go_cell,by go_cell,by go_cell⟩,⟨by go_cell,by go_cell,by go_cell,by go_cell⟩,⟨by simp;omega,by simp,by simp⟩,((((Below.refl _ _).alloc (Nat.le_refl _) _).alloc (by simp) _).alloc (by simp;omega) _).drew⟩
theorem on_bad{g h:List Nd}{m n:Nd}(hk:n.kind≠kdD m.kind∨n.so≠m.so):onB g h m n=false:=by unfold onB;rw [if_pos hk]
theorem on_4{g h:List Nd}{m n:Nd}(hk:¬(n.kind≠kdD m.kind∨n.so≠m.so))(h4:m.kind=4):onB g h m n=belB g h (toAt m 0) (toAt n 0):=by unfold onB;rw [if_neg hk,if_pos h4]
theorem on_5{g h:List Nd}{m n:Nd}(hk:¬(n.kind≠kdD m.kind∨n.so≠m.so))(h5:m.kind=5):onB g h m n=belB h g (toAt n 0) (toAt m 0):=by unfold onB;rw [if_neg hk,if_neg (by omega),if_pos h5]
theorem on_6{g h:List Nd}{m n:Nd}(hk:¬(n.kind≠kdD m.kind∨n.so≠m.so))(h6:m.kind=6):onB g h m n=m.labs.all fun l=>hasN n.labs l:=by unfold onB;rw [if_neg hk,if_neg (by omega),if_neg (by omega),if_pos h6]
theorem on_7{g h:List Nd}{m n:Nd}(hk:¬(n.kind≠kdD m.kind∨n.so≠m.so))(h7:m.kind=7):onB g h m n=n.labs.all fun l=>hasN m.labs l:=by unfold onB;rw [if_neg hk,if_neg (by omega),if_neg (by omega),if_neg (by omega),if_pos h7]
theorem on_else{g h:List Nd}{m n:Nd}(hk:¬(n.kind≠kdD m.kind∨n.so≠m.so))(h4:m.kind≠4)(h5:m.kind≠5)(h6:m.kind≠6)(h7:m.kind≠7):onB g h m n=true:=by unfold onB;rw [if_neg hk,if_neg h4,if_neg h5,if_neg h6,if_neg h7]
theorem getOn_any(g h:List Nd)(ag ah:OAd)(cg ch B:Nat)(p:Pc)(w:World)(hg:GN g)(hh:GN h)(hga:GAt w B g ag)(hha:GAt w B h ah)(hB:B≤w.heap.size)(hp:okC g h p):
  Calls Tryz.prog 26 #[.slice ag g.length cg,.slice ah h.length ch,pkC p] w fun e w'=>e = .returned (.bool (onB g h (nodeAt g p.1) (nodeAt h p.2)))∧Below w.heap.size w w':=by
 have hg0:=hg.pos;have hh0:=hh.pos;have HGA:=hideK hga;have HHA:=hideK hha;obtain ⟨gb,go,rfl,hgB,hgc⟩:=hga.resolve_left (fun q=>by rw [q]at hg0;simp at hg0)
 obtain ⟨hb1,ho,rfl,hhB,hhc⟩:=hha.resolve_left (fun q=>by rw [q]at hh0;simp at hh0)
 obtain ⟨pa,pb⟩:=p;have hpa:pa<g.length:=hp.1;have hpb:pb<h.length:=hp.2;have hpaz:(pa:Int)<(g.length:Int):=by omega
 have hpbz:(pb:Int)<(h.length:Int):=by omega
 obtain ⟨a1,c1,a2,c2,hN1,hL1,hT1⟩:=hgc _ hpa;obtain ⟨a3,c3,a4,c4,hN2,hL2,hT2⟩:=hhc _ hpb;rw [← nodeAt_lt g pa hpa]at hN1 hL1 hT1;rw [← nodeAt_lt h pb hpb]at hN2 hL2 hT2;have okm:=hg.at_ hpa;have okn:=hh.at_ hpb;have HTG:=hideK (fun x (hx:x<(nodeAt g pa).to.length)=>hg.to_ (i:=pa) x hx)
 have HTH:=hideK (fun x (hx:x<(nodeAt h pb).to.length)=>hh.to_ (i:=pb) x hx)
 have HG:=hideK hg;have HH:=hideK hh;simp only [pkC];generalize nodeAt g pa=m at *;generalize nodeAt h pb=n at *;obtain ⟨m0,m1,m2,m3⟩:=hN1;obtain ⟨n0,n1,n2,n3⟩:=hN2;have hgp:gb<w.heap.size:=by omega
 have hhp:hb1<w.heap.size:=by omega
 have HL1:=hideK hL1;have HT1:=hideK hT1;have HL2:=hideK hL2;have HT2:=hideK hT2;have HOM:=hideK okm;have HON:=hideK okn;clear hg hh hgc hhc hL1 hT1 hL2 hT2 okm okn hp hga hha;have sk:∀W W':World,(fun W:World=>W.cell? ⟨w.heap.size,0,none⟩=some (.int .i64 (pa:Int))∧W.cell? ⟨w.heap.size,1,none⟩=some (.int .i64 (pb:Int))∧W.cell? ⟨gb,go+pa*4,none⟩=some (.int .i64 m.kind)∧W.cell? ⟨gb,go+pa*4+1,none⟩=some (.int .i64 m.so)∧W.cell? ⟨gb,go+pa*4+2,none⟩=some (.slice a1 m.labs.length c1)∧W.cell? ⟨gb,go+pa*4+3,none⟩=some (.slice a2 m.to.length c2)∧W.cell? ⟨hb1,ho+pb*4,none⟩=some (.int .i64 n.kind)∧W.cell? ⟨hb1,ho+pb*4+1,none⟩=some (.int .i64 n.so)∧W.cell? ⟨hb1,ho+pb*4+2,none⟩=some (.slice a3 n.labs.length c3)∧W.cell? ⟨hb1,ho+pb*4+3,none⟩=some (.slice a4 n.to.length c4)) W→Below (w.heap.size+1) W W'→(fun W:World=>W.cell? ⟨w.heap.size,0,none⟩=some (.int .i64 (pa:Int))∧W.cell? ⟨w.heap.size,1,none⟩=some (.int .i64 (pb:Int))∧W.cell? ⟨gb,go+pa*4,none⟩=some (.int .i64 m.kind)∧W.cell? ⟨gb,go+pa*4+1,none⟩=some (.int .i64 m.so)∧W.cell? ⟨gb,go+pa*4+2,none⟩=some (.slice a1 m.labs.length c1)∧W.cell? ⟨gb,go+pa*4+3,none⟩=some (.slice a2 m.to.length c2)∧W.cell? ⟨hb1,ho+pb*4,none⟩=some (.int .i64 n.kind)∧W.cell? ⟨hb1,ho+pb*4+1,none⟩=some (.int .i64 n.so)∧W.cell? ⟨hb1,ho+pb*4+2,none⟩=some (.slice a3 n.labs.length c3)∧W.cell? ⟨hb1,ho+pb*4+3,none⟩=some (.slice a4 n.to.length c4)) W':=fun W W' ⟨q0,q1,q2,q3,q4,q5,q6,q7,q8,q9⟩ hb=>⟨(hb.cell (p:=⟨w.heap.size,0,none⟩) (by show w.heap.size<_;omega)).trans q0,(hb.cell (p:=⟨w.heap.size,1,none⟩) (by show w.heap.size<_;omega)).trans q1,(hb.cell (p:=⟨gb,go+pa*4,none⟩) (by show gb<_;omega)).trans q2,(hb.cell (p:=⟨gb,go+pa*4+1,none⟩) (by show gb<_;omega)).trans q3,(hb.cell (p:=⟨gb,go+pa*4+2,none⟩) (by show gb<_;omega)).trans q4,(hb.cell (p:=⟨gb,go+pa*4+3,none⟩) (by show gb<_;omega)).trans q5,(hb.cell (p:=⟨hb1,ho+pb*4,none⟩) (by show hb1<_;omega)).trans q6,(hb.cell (p:=⟨hb1,ho+pb*4+1,none⟩) (by show hb1<_;omega)).trans q7,(hb.cell (p:=⟨hb1,ho+pb*4+2,none⟩) (by show hb1<_;omega)).trans q8,(hb.cell (p:=⟨hb1,ho+pb*4+3,none⟩) (by show hb1<_;omega)).trans q9⟩
 have HP0:=hideK (show Below w.heap.size w (w.alloc (.cells #[.int .i64 (pa:Int),.int .i64 (pb:Int)] 73)) from (Below.refl _ _).alloc (Nat.le_refl _) _)
 have HS0:=hideK (show (fun W:World=>W.cell? ⟨w.heap.size,0,none⟩=some (.int .i64 (pa:Int))∧W.cell? ⟨w.heap.size,1,none⟩=some (.int .i64 (pb:Int))∧W.cell? ⟨gb,go+pa*4,none⟩=some (.int .i64 m.kind)∧W.cell? ⟨gb,go+pa*4+1,none⟩=some (.int .i64 m.so)∧W.cell? ⟨gb,go+pa*4+2,none⟩=some (.slice a1 m.labs.length c1)∧W.cell? ⟨gb,go+pa*4+3,none⟩=some (.slice a2 m.to.length c2)∧W.cell? ⟨hb1,ho+pb*4,none⟩=some (.int .i64 n.kind)∧W.cell? ⟨hb1,ho+pb*4+1,none⟩=some (.int .i64 n.so)∧W.cell? ⟨hb1,ho+pb*4+2,none⟩=some (.slice a3 n.labs.length c3)∧W.cell? ⟨hb1,ho+pb*4+3,none⟩=some (.slice a4 n.to.length c4)) (w.alloc (.cells #[.int .i64 (pa:Int),.int .i64 (pb:Int)] 73)).drew from ⟨by go_cell,by go_cell,(HP0.out.cell (p:=⟨gb,go+pa*4,none⟩) hgp).trans m0,(HP0.out.cell (p:=⟨gb,go+pa*4+1,none⟩) hgp).trans m1,(HP0.out.cell (p:=⟨gb,go+pa*4+2,none⟩) hgp).trans m2,(HP0.out.cell (p:=⟨gb,go+pa*4+3,none⟩) hgp).trans m3,(HP0.out.cell (p:=⟨hb1,ho+pb*4,none⟩) hhp).trans n0,(HP0.out.cell (p:=⟨hb1,ho+pb*4+1,none⟩) hhp).trans n1,(HP0.out.cell (p:=⟨hb1,ho+pb*4+2,none⟩) hhp).trans n2,(HP0.out.cell (p:=⟨hb1,ho+pb*4+3,none⟩) hhp).trans n3⟩)
 have HSX:=hideK (show ∀o:Obj,(fun W:World=>W.cell? ⟨w.heap.size,0,none⟩=some (.int .i64 (pa:Int))∧W.cell? ⟨w.heap.size,1,none⟩=some (.int .i64 (pb:Int))∧W.cell? ⟨gb,go+pa*4,none⟩=some (.int .i64 m.kind)∧W.cell? ⟨gb,go+pa*4+1,none⟩=some (.int .i64 m.so)∧W.cell? ⟨gb,go+pa*4+2,none⟩=some (.slice a1 m.labs.length c1)∧W.cell? ⟨gb,go+pa*4+3,none⟩=some (.slice a2 m.to.length c2)∧W.cell? ⟨hb1,ho+pb*4,none⟩=some (.int .i64 n.kind)∧W.cell? ⟨hb1,ho+pb*4+1,none⟩=some (.int .i64 n.so)∧W.cell? ⟨hb1,ho+pb*4+2,none⟩=some (.slice a3 n.labs.length c3)∧W.cell? ⟨hb1,ho+pb*4+3,none⟩=some (.slice a4 n.to.length c4)) ((w.alloc (.cells #[.int .i64 (pa:Int),.int .i64 (pb:Int)] 73)).alloc o).drew from fun o=>sk _ _ HS0.out (by rw [← alloc_drew];exact (Below.refl _ _).alloc (by simp) _))
 have HSY:=hideK (show ∀o o':Obj,(fun W:World=>W.cell? ⟨w.heap.size,0,none⟩=some (.int .i64 (pa:Int))∧W.cell? ⟨w.heap.size,1,none⟩=some (.int .i64 (pb:Int))∧W.cell? ⟨gb,go+pa*4,none⟩=some (.int .i64 m.kind)∧W.cell? ⟨gb,go+pa*4+1,none⟩=some (.int .i64 m.so)∧W.cell? ⟨gb,go+pa*4+2,none⟩=some (.slice a1 m.labs.length c1)∧W.cell? ⟨gb,go+pa*4+3,none⟩=some (.slice a2 m.to.length c2)∧W.cell? ⟨hb1,ho+pb*4,none⟩=some (.int .i64 n.kind)∧W.cell? ⟨hb1,ho+pb*4+1,none⟩=some (.int .i64 n.so)∧W.cell? ⟨hb1,ho+pb*4+2,none⟩=some (.slice a3 n.labs.length c3)∧W.cell? ⟨hb1,ho+pb*4+3,none⟩=some (.slice a4 n.to.length c4)) (((w.alloc (.cells #[.int .i64 (pa:Int),.int .i64 (pb:Int)] 73)).alloc o).alloc o').drew from fun o o'=>sk _ _ (HSX.out o) (by rw [← alloc_drew];exact (Below.refl _ _).alloc (by simp) _))
 clear sk;by_cases hk:n.kind≠kdD m.kind∨n.so≠m.so
 ·rw [on_bad hk]
  by_cases hk1:n.kind=kdD m.kind
  ·have hkb:(n.kind != kdD m.kind)=false:=by simpa using hk1
   have hsb:(n.so != m.so)=true:=by simpa using hk.resolve_left (fun q=>q hk1)
   have hkb2:(n.kind==kdD m.kind)=true:=by simpa using hk1
   have hsb2:(n.so==m.so)=false:=by simpa using hk.resolve_left (fun q=>q hk1)
   clear hk hk1;go_enter Tryz.func26,Tryz.ntmps26
   go_wp2_with fail
   go_region_held3 (fun W:World=>W.cell? ⟨w.heap.size,0,none⟩=some (.int .i64 (pa:Int))∧W.cell? ⟨w.heap.size,1,none⟩=some (.int .i64 (pb:Int))∧W.cell? ⟨gb,go+pa*4,none⟩=some (.int .i64 m.kind)∧W.cell? ⟨gb,go+pa*4+1,none⟩=some (.int .i64 m.so)∧W.cell? ⟨gb,go+pa*4+2,none⟩=some (.slice a1 m.labs.length c1)∧W.cell? ⟨gb,go+pa*4+3,none⟩=some (.slice a2 m.to.length c2)∧W.cell? ⟨hb1,ho+pb*4,none⟩=some (.int .i64 n.kind)∧W.cell? ⟨hb1,ho+pb*4+1,none⟩=some (.int .i64 n.so)∧W.cell? ⟨hb1,ho+pb*4+2,none⟩=some (.slice a3 n.labs.length c3)∧W.cell? ⟨hb1,ho+pb*4+3,none⟩=some (.slice a4 n.to.length c4)) (first|exact HS0.out|exact HSX.out _|exact HSY.out _ _|assumption) (fail)
   have HRD:=hideK (rdc_one w pa pb m n a1 a2 a3 a4 c1 c2 c3 c4);generalize (((w.alloc (.cells #[.int .i64 (pa:Int),.int .i64 (pb:Int)] 73)).alloc (.cells #[.int .i64 m.kind,.int .i64 m.so,.slice a1 m.labs.length c1,.slice a2 m.to.length c2] 56)).alloc (.cells #[.int .i64 n.kind,.int .i64 n.so,.slice a3 n.labs.length c3,.slice a4 n.to.length c4] 56)).drew=V at HRD ⊢;generalize w.heap.size+1+1=nb at HRD ⊢;generalize w.heap.size+1=mb at HRD ⊢;rotate_left
   have HRD:=hideK (rdc_two w pa pb m n a1 a2 a3 a4 c1 c2 c3 c4);generalize (((w.alloc (.cells #[.int .i64 (pa:Int),.int .i64 (pb:Int)] 73)).alloc (.cells #[.int .i64 n.kind,.int .i64 n.so,.slice a3 n.labs.length c3,.slice a4 n.to.length c4] 56)).alloc (.cells #[.int .i64 m.kind,.int .i64 m.so,.slice a1 m.labs.length c1,.slice a2 m.to.length c2] 56)).drew=V at HRD ⊢;generalize w.heap.size+1+1=mb at HRD ⊢;generalize w.heap.size+1=nb at HRD ⊢;all_goals
    clear HS0 HSX HSY HP0 m0 m1 m2 m3 n0 n1 n2 n3;obtain ⟨x0,x1,x2,x3⟩:=HRD.out.x;obtain ⟨y0,y1,y2,y3⟩:=HRD.out.y;simp only [Nat.zero_add]at x1 x2 x3 y1 y2 y3;have HBV:=hideK HRD.out.bl;go_wp2_with fail
    refine wp_region_held_drew (S:=(fun W:World=>W.cell? ⟨mb,0,none⟩=some (.int .i64 m.kind)∧W.cell? ⟨mb,1,none⟩=some (.int .i64 m.so)∧W.cell? ⟨nb,0,none⟩=some (.int .i64 n.kind)∧W.cell? ⟨nb,1,none⟩=some (.int .i64 n.so))) (by kernel_rfl) ⟨x0,x1,y0,y1⟩ (fun hS=>?_)
    refine tkH 0 (.pointer (some ⟨nb,0,none⟩)) hS ?_;simp only [Act.put,sA,sB,sC];refine tkH 1 (.int .i64 n.kind) hS ?_ (hy:=Or.inl ⟨by rfl,fun W hW=>by obtain ⟨q0,q1,q2,q3⟩:=hW;go_simp⟩)
    simp only [Act.put,sA,sB,sC];refine tkH 2 (.pointer (some ⟨mb,0,none⟩)) hS ?_;simp only [Act.put,sA,sB,sC];refine tkH 3 (.int .i64 m.kind) hS ?_ (hy:=Or.inl ⟨by rfl,fun W hW=>by obtain ⟨q0,q1,q2,q3⟩:=hW;go_simp⟩)
    simp only [Act.put,sA,sB,sC];refine take_oneHL 4 (AllReadyH.cons (by rw [List.getElem?_toArray];rfl) (fun K hK=>?_) AllReadyH.nil) (by kernel_rfl)
    go_simp
    refine (kind_any m.kind _).mono ?_;rintro e wk ⟨rfl,rfl⟩;have hSn:=hS;refine hK.out _ _ hSn ?_;clear hS hK K hSn;intro hS;refine tkH 5 (.bool false) hS ?_;simp only [Act.put,sA,sB,sC];refine tkH 6 (.bool false) hS ?_;simp only [Act.put,sA,sB,sC];refine tkH 7 (.pointer (some ⟨nb,1,none⟩)) hS ?_;simp only [Act.put,sA,sB,sC];refine tkH 8 (.int .i64 n.so) hS ?_ (hy:=Or.inl ⟨by rfl,fun W hW=>by obtain ⟨q0,q1,q2,q3⟩:=hW;go_simp⟩)
    simp only [Act.put,sA,sB,sC];refine tkH 9 (.pointer (some ⟨mb,1,none⟩)) hS ?_;simp only [Act.put,sA,sB,sC];refine tkH 10 (.int .i64 m.so) hS ?_ (hy:=Or.inl ⟨by rfl,fun W hW=>by obtain ⟨q0,q1,q2,q3⟩:=hW;go_simp⟩)
    simp only [Act.put,sA,sB,sC];refine tkH 11 (.bool true) hS ?_;simp only [Act.put,sA,sB,sC];refine tkH 12 (.bool true) hS ?_;simp only [Act.put,sA,sB,sC];refine wpAnyH_done (by kernel_rfl) ?_ _
    go_wp2_with fail
    go_ret
    exact ⟨rfl,HBV.out.drew⟩
  ·have hkb:(n.kind != kdD m.kind)=true:=by simpa using hk1
   have hkb2:(n.kind==kdD m.kind)=false:=by simpa using hk1
   clear hk hk1;go_enter Tryz.func26,Tryz.ntmps26
   go_wp2_with fail
   go_region_held3 (fun W:World=>W.cell? ⟨w.heap.size,0,none⟩=some (.int .i64 (pa:Int))∧W.cell? ⟨w.heap.size,1,none⟩=some (.int .i64 (pb:Int))∧W.cell? ⟨gb,go+pa*4,none⟩=some (.int .i64 m.kind)∧W.cell? ⟨gb,go+pa*4+1,none⟩=some (.int .i64 m.so)∧W.cell? ⟨gb,go+pa*4+2,none⟩=some (.slice a1 m.labs.length c1)∧W.cell? ⟨gb,go+pa*4+3,none⟩=some (.slice a2 m.to.length c2)∧W.cell? ⟨hb1,ho+pb*4,none⟩=some (.int .i64 n.kind)∧W.cell? ⟨hb1,ho+pb*4+1,none⟩=some (.int .i64 n.so)∧W.cell? ⟨hb1,ho+pb*4+2,none⟩=some (.slice a3 n.labs.length c3)∧W.cell? ⟨hb1,ho+pb*4+3,none⟩=some (.slice a4 n.to.length c4)) (first|exact HS0.out|exact HSX.out _|exact HSY.out _ _|assumption) (fail)
   have HRD:=hideK (rdc_one w pa pb m n a1 a2 a3 a4 c1 c2 c3 c4);generalize (((w.alloc (.cells #[.int .i64 (pa:Int),.int .i64 (pb:Int)] 73)).alloc (.cells #[.int .i64 m.kind,.int .i64 m.so,.slice a1 m.labs.length c1,.slice a2 m.to.length c2] 56)).alloc (.cells #[.int .i64 n.kind,.int .i64 n.so,.slice a3 n.labs.length c3,.slice a4 n.to.length c4] 56)).drew=V at HRD ⊢;generalize w.heap.size+1+1=nb at HRD ⊢;generalize w.heap.size+1=mb at HRD ⊢;rotate_left
   have HRD:=hideK (rdc_two w pa pb m n a1 a2 a3 a4 c1 c2 c3 c4);generalize (((w.alloc (.cells #[.int .i64 (pa:Int),.int .i64 (pb:Int)] 73)).alloc (.cells #[.int .i64 n.kind,.int .i64 n.so,.slice a3 n.labs.length c3,.slice a4 n.to.length c4] 56)).alloc (.cells #[.int .i64 m.kind,.int .i64 m.so,.slice a1 m.labs.length c1,.slice a2 m.to.length c2] 56)).drew=V at HRD ⊢;generalize w.heap.size+1+1=mb at HRD ⊢;generalize w.heap.size+1=nb at HRD ⊢;all_goals
    clear HS0 HSX HSY HP0 m0 m1 m2 m3 n0 n1 n2 n3;obtain ⟨x0,x1,x2,x3⟩:=HRD.out.x;obtain ⟨y0,y1,y2,y3⟩:=HRD.out.y;simp only [Nat.zero_add]at x1 x2 x3 y1 y2 y3;have HBV:=hideK HRD.out.bl;go_wp2_with fail
    refine wp_region_held_drew (S:=(fun W:World=>W.cell? ⟨mb,0,none⟩=some (.int .i64 m.kind)∧W.cell? ⟨mb,1,none⟩=some (.int .i64 m.so)∧W.cell? ⟨nb,0,none⟩=some (.int .i64 n.kind)∧W.cell? ⟨nb,1,none⟩=some (.int .i64 n.so))) (by kernel_rfl) ⟨x0,x1,y0,y1⟩ (fun hS=>?_)
    refine tkH 0 (.pointer (some ⟨nb,0,none⟩)) hS ?_;simp only [Act.put,sA,sB,sC];refine tkH 1 (.int .i64 n.kind) hS ?_ (hy:=Or.inl ⟨by rfl,fun W hW=>by obtain ⟨q0,q1,q2,q3⟩:=hW;go_simp⟩)
    simp only [Act.put,sA,sB,sC];refine tkH 2 (.pointer (some ⟨mb,0,none⟩)) hS ?_;simp only [Act.put,sA,sB,sC];refine tkH 3 (.int .i64 m.kind) hS ?_ (hy:=Or.inl ⟨by rfl,fun W hW=>by obtain ⟨q0,q1,q2,q3⟩:=hW;go_simp⟩)
    simp only [Act.put,sA,sB,sC];refine take_oneHL 4 (AllReadyH.cons (by rw [List.getElem?_toArray];rfl) (fun K hK=>?_) AllReadyH.nil) (by kernel_rfl)
    go_simp
    refine (kind_any m.kind _).mono ?_;rintro e wk ⟨rfl,rfl⟩;have hSn:=hS;refine hK.out _ _ hSn ?_;clear hS hK K hSn;intro hS;refine tkH 5 (.bool true) hS ?_;simp only [Act.put,sA,sB,sC];refine tkH 6 (.bool true) hS ?_;simp only [Act.put,sA,sB,sC];refine tkH 7 undef hS ?_ (hy:=Or.inr ⟨by rfl,rfl⟩)
    simp only [Act.put,sA,sB,sC];refine tkH 8 undef hS ?_ (hy:=Or.inr ⟨by rfl,rfl⟩)
    simp only [Act.put,sA,sB,sC];refine tkH 9 undef hS ?_ (hy:=Or.inr ⟨by rfl,rfl⟩)
    simp only [Act.put,sA,sB,sC];refine tkH 10 undef hS ?_ (hy:=Or.inr ⟨by rfl,rfl⟩)
    simp only [Act.put,sA,sB,sC];refine tkH 11 undef hS ?_ (hy:=Or.inr ⟨by rfl,rfl⟩)
    simp only [Act.put,sA,sB,sC];refine tkH 12 (.bool true) hS ?_;simp only [Act.put,sA,sB,sC];refine wpAnyH_done (by kernel_rfl) ?_ _
    go_wp2_with fail
    go_ret
    exact ⟨rfl,HBV.out.drew⟩
 have hk1:n.kind=kdD m.kind:=Decidable.byContradiction fun q=>hk (.inl q)
 have hk2:n.so=m.so:=Decidable.byContradiction fun q=>hk (.inr q)
 have hkb:(n.kind != kdD m.kind)=false:=by simpa using hk1
 have hsb:(n.so != m.so)=false:=by simpa using hk2
 have hkb2:(n.kind==kdD m.kind)=true:=by simpa using hk1
 have hsb2:(n.so==m.so)=true:=by simpa using hk2
 have kt:=kd_turn HOM.out hk1;have lm:=okN_len HOM.out;have ln:=okN_len HON.out;have sm:=(shp_len (okN_shp HOM.out)).1;have sn:=(shp_len (okN_shp HON.out)).1;by_cases h4:m.kind=4
 ·rw [on_4 hk h4]
  have hn5:=kt.2.2.1 h4;have HLM:=hideK (lm.2.1 (.inl h4));have HLN:=hideK (ln.2.1 (.inr hn5));have CB:=hideK (fun (W:World) (hb:Below w.heap.size w W)=>isBelow_any g h (some ⟨gb,go,none⟩) (some ⟨hb1,ho,none⟩) cg ch B (toAt m 0) (toAt n 0) W HG.out HH.out (HGA.out.keep (hb.mono hB)) (HHA.out.keep (hb.mono hB)) (Nat.le_trans hB hb.size) (HTG.out 0 (by have:=HLM.out;omega)) (HTH.out 0 (by have:=HLN.out;omega)))
  generalize belB g h (toAt m 0) (toAt n 0)=bq at *;have k4:(m.kind==4)=true:=by simpa using h4
  clear hk hk1 hk2 kt lm ln sm sn hn5 h4;go_enter Tryz.func26,Tryz.ntmps26
  go_wp2_with fail
  go_region_held3 (fun W:World=>W.cell? ⟨w.heap.size,0,none⟩=some (.int .i64 (pa:Int))∧W.cell? ⟨w.heap.size,1,none⟩=some (.int .i64 (pb:Int))∧W.cell? ⟨gb,go+pa*4,none⟩=some (.int .i64 m.kind)∧W.cell? ⟨gb,go+pa*4+1,none⟩=some (.int .i64 m.so)∧W.cell? ⟨gb,go+pa*4+2,none⟩=some (.slice a1 m.labs.length c1)∧W.cell? ⟨gb,go+pa*4+3,none⟩=some (.slice a2 m.to.length c2)∧W.cell? ⟨hb1,ho+pb*4,none⟩=some (.int .i64 n.kind)∧W.cell? ⟨hb1,ho+pb*4+1,none⟩=some (.int .i64 n.so)∧W.cell? ⟨hb1,ho+pb*4+2,none⟩=some (.slice a3 n.labs.length c3)∧W.cell? ⟨hb1,ho+pb*4+3,none⟩=some (.slice a4 n.to.length c4)) (first|exact HS0.out|exact HSX.out _|exact HSY.out _ _|assumption) (fail)
  have HRD:=hideK (rdc_one w pa pb m n a1 a2 a3 a4 c1 c2 c3 c4);generalize (((w.alloc (.cells #[.int .i64 (pa:Int),.int .i64 (pb:Int)] 73)).alloc (.cells #[.int .i64 m.kind,.int .i64 m.so,.slice a1 m.labs.length c1,.slice a2 m.to.length c2] 56)).alloc (.cells #[.int .i64 n.kind,.int .i64 n.so,.slice a3 n.labs.length c3,.slice a4 n.to.length c4] 56)).drew=V at HRD ⊢;generalize w.heap.size+1+1=nb at HRD ⊢;generalize w.heap.size+1=mb at HRD ⊢;rotate_left
  have HRD:=hideK (rdc_two w pa pb m n a1 a2 a3 a4 c1 c2 c3 c4);generalize (((w.alloc (.cells #[.int .i64 (pa:Int),.int .i64 (pb:Int)] 73)).alloc (.cells #[.int .i64 n.kind,.int .i64 n.so,.slice a3 n.labs.length c3,.slice a4 n.to.length c4] 56)).alloc (.cells #[.int .i64 m.kind,.int .i64 m.so,.slice a1 m.labs.length c1,.slice a2 m.to.length c2] 56)).drew=V at HRD ⊢;generalize w.heap.size+1+1=mb at HRD ⊢;generalize w.heap.size+1=nb at HRD ⊢;all_goals
   clear HS0 HSX HSY HP0 m0 m1 m2 m3 n0 n1 n2 n3;obtain ⟨x0,x1,x2,x3⟩:=HRD.out.x;obtain ⟨y0,y1,y2,y3⟩:=HRD.out.y;simp only [Nat.zero_add]at x1 x2 x3 y1 y2 y3;have HBV:=hideK HRD.out.bl;go_wp2_with fail
   refine wp_region_held_drew (S:=(fun W:World=>W.cell? ⟨mb,0,none⟩=some (.int .i64 m.kind)∧W.cell? ⟨mb,1,none⟩=some (.int .i64 m.so)∧W.cell? ⟨nb,0,none⟩=some (.int .i64 n.kind)∧W.cell? ⟨nb,1,none⟩=some (.int .i64 n.so))) (by kernel_rfl) ⟨x0,x1,y0,y1⟩ (fun hS=>?_)
   refine tkH 0 (.pointer (some ⟨nb,0,none⟩)) hS ?_;simp only [Act.put,sA,sB,sC];refine tkH 1 (.int .i64 n.kind) hS ?_ (hy:=Or.inl ⟨by rfl,fun W hW=>by obtain ⟨q0,q1,q2,q3⟩:=hW;go_simp⟩)
   simp only [Act.put,sA,sB,sC];refine tkH 2 (.pointer (some ⟨mb,0,none⟩)) hS ?_;simp only [Act.put,sA,sB,sC];refine tkH 3 (.int .i64 m.kind) hS ?_ (hy:=Or.inl ⟨by rfl,fun W hW=>by obtain ⟨q0,q1,q2,q3⟩:=hW;go_simp⟩)
   simp only [Act.put,sA,sB,sC];refine take_oneHL 4 (AllReadyH.cons (by rw [List.getElem?_toArray];rfl) (fun K hK=>?_) AllReadyH.nil) (by kernel_rfl)
   go_simp
   refine (kind_any m.kind _).mono ?_;rintro e wk ⟨rfl,rfl⟩;have hSn:=hS;refine hK.out _ _ hSn ?_;clear hS hK K hSn;intro hS;refine tkH 5 (.bool false) hS ?_;simp only [Act.put,sA,sB,sC];refine tkH 6 (.bool false) hS ?_;simp only [Act.put,sA,sB,sC];refine tkH 7 (.pointer (some ⟨nb,1,none⟩)) hS ?_;simp only [Act.put,sA,sB,sC];refine tkH 8 (.int .i64 n.so) hS ?_ (hy:=Or.inl ⟨by rfl,fun W hW=>by obtain ⟨q0,q1,q2,q3⟩:=hW;go_simp⟩)
   simp only [Act.put,sA,sB,sC];refine tkH 9 (.pointer (some ⟨mb,1,none⟩)) hS ?_;simp only [Act.put,sA,sB,sC];refine tkH 10 (.int .i64 m.so) hS ?_ (hy:=Or.inl ⟨by rfl,fun W hW=>by obtain ⟨q0,q1,q2,q3⟩:=hW;go_simp⟩)
   simp only [Act.put,sA,sB,sC];refine tkH 11 (.bool false) hS ?_;simp only [Act.put,sA,sB,sC];refine tkH 12 (.bool false) hS ?_;simp only [Act.put,sA,sB,sC];refine wpAnyH_done (by kernel_rfl) ?_ _
   have HB2:=hideK (show Below w.heap.size w V.drew.drew from HBV.out.drew.drew)
   have hlm:mb<V.drew.drew.heap.size:=HRD.out.lt.2.1;have hln:nb<V.drew.drew.heap.size:=HRD.out.lt.2.2;have hbs:=HB2.out.size;have hbd:Below B w V.drew.drew:=HB2.out.mono hB;obtain ⟨b2,o2,rfl,hb2B,d2⟩:=toAt_cell (HT1.out.keep hbd) (i:=0) (by have:=HLM.out;omega)
   obtain ⟨b4,o4,rfl,hb4B,d4⟩:=toAt_cell (HT2.out.keep hbd) (i:=0) (by have:=HLN.out;omega)
   rw [Nat.add_zero]at d2 d4;have hl2:b2<V.drew.drew.heap.size:=by omega
   have hl4:b4<V.drew.drew.heap.size:=by omega
   have hlz1:(0:Int)<(m.to.length:Int):=by have:=HLM.out;omega
   have hlz2:(0:Int)<(n.to.length:Int):=by have:=HLN.out;omega
   have hmne:¬m.to=[]:=fun q=>by rw [q]at hlz1;simp at hlz1
   have hnne:¬n.to=[]:=fun q=>by rw [q]at hlz2;simp at hlz2
   clear hbd;go_wp2_with fail
   refine wp_region_held_drew (S:=(fun W:World=>W.cell? ⟨mb,3,none⟩=some (.slice (some ⟨b2,o2,none⟩) m.to.length c2)∧W.cell? ⟨nb,3,none⟩=some (.slice (some ⟨b4,o4,none⟩) n.to.length c4)∧W.cell? ⟨b2,o2,none⟩=some (.int .i64 (toAt m 0:Int))∧W.cell? ⟨b4,o4,none⟩=some (.int .i64 (toAt n 0:Int)))) (by kernel_rfl) ⟨x3,y3,d2,d4⟩ (fun hS=>?_)
   refine tkH 0 (.slice (some ⟨gb,go,none⟩) g.length cg) hS ?_;simp only [Act.put,sA,sB,sC];refine tkH 1 (.pointer (some ⟨mb,3,none⟩)) hS ?_;simp only [Act.put,sA,sB,sC];refine tkH 2 (.slice (some ⟨b2,o2,none⟩) m.to.length c2) hS ?_ (hy:=Or.inl ⟨by rfl,fun W hW=>by obtain ⟨q0,q1,q2,q3⟩:=hW;go_simp⟩)
   simp only [Act.put,sA,sB,sC];refine tkH 3 (.pointer (some ⟨b2,o2,none⟩)) hS ?_;simp only [Act.put,sA,sB,sC];refine tkH 4 (.int .i64 (toAt m 0:Int)) hS ?_ (hy:=Or.inl ⟨by rfl,fun W hW=>by obtain ⟨q0,q1,q2,q3⟩:=hW;go_simp⟩)
   simp only [Act.put,sA,sB,sC];refine tkH 5 (.slice (some ⟨hb1,ho,none⟩) h.length ch) hS ?_;simp only [Act.put,sA,sB,sC];refine tkH 6 (.pointer (some ⟨nb,3,none⟩)) hS ?_;simp only [Act.put,sA,sB,sC];refine tkH 7 (.slice (some ⟨b4,o4,none⟩) n.to.length c4) hS ?_ (hy:=Or.inl ⟨by rfl,fun W hW=>by obtain ⟨q0,q1,q2,q3⟩:=hW;go_simp⟩)
   simp only [Act.put,sA,sB,sC];refine tkH 8 (.pointer (some ⟨b4,o4,none⟩)) hS ?_;simp only [Act.put,sA,sB,sC];refine tkH 9 (.int .i64 (toAt n 0:Int)) hS ?_ (hy:=Or.inl ⟨by rfl,fun W hW=>by obtain ⟨q0,q1,q2,q3⟩:=hW;go_simp⟩)
   simp only [Act.put,sA,sB,sC];refine take_oneHL 10 (AllReadyH.cons (by rw [List.getElem?_toArray];rfl) (fun K hK=>?_) AllReadyH.nil) (by kernel_rfl)
   go_simp
   refine (CB.out _ HB2.out).mono ?_;rintro e w4 ⟨rfl,hb4⟩;have hSn:(fun W:World=>W.cell? ⟨mb,3,none⟩=some (.slice (some ⟨b2,o2,none⟩) m.to.length c2)∧W.cell? ⟨nb,3,none⟩=some (.slice (some ⟨b4,o4,none⟩) n.to.length c4)∧W.cell? ⟨b2,o2,none⟩=some (.int .i64 (toAt m 0:Int))∧W.cell? ⟨b4,o4,none⟩=some (.int .i64 (toAt n 0:Int))) w4:=⟨(hb4.cell (p:=⟨mb,3,none⟩) hlm).trans x3,(hb4.cell (p:=⟨nb,3,none⟩) hln).trans y3,(hb4.cell (p:=⟨b2,o2,none⟩) hl2).trans d2,(hb4.cell (p:=⟨b4,o4,none⟩) hl4).trans d4⟩
   refine hK.out _ _ hSn ?_;clear hS hK K hSn;intro hS;refine tkH 11 (.bool bq) hS ?_;simp only [Act.put,sA,sB,sC];refine wpAnyH_done (by kernel_rfl) ?_ _
   have HB4:=hideK (HB2.out.trans (hb4.mono HB2.out.size));clear hb4 hS;go_wp2_with fail
   go_ret
   exact ⟨rfl,HB4.out⟩
 by_cases h5:m.kind=5
 ·rw [on_5 hk h5]
  have hn4:=kt.2.2.2.1 h5;have HLM:=hideK (lm.2.1 (.inr h5));have HLN:=hideK (ln.2.1 (.inl hn4));have CB:=hideK (fun (W:World) (hb:Below w.heap.size w W)=>isBelow_any h g (some ⟨hb1,ho,none⟩) (some ⟨gb,go,none⟩) ch cg B (toAt n 0) (toAt m 0) W HH.out HG.out (HHA.out.keep (hb.mono hB)) (HGA.out.keep (hb.mono hB)) (Nat.le_trans hB hb.size) (HTH.out 0 (by have:=HLN.out;omega)) (HTG.out 0 (by have:=HLM.out;omega)))
  generalize belB h g (toAt n 0) (toAt m 0)=bq at *;have k4:(m.kind==4)=false:=by simpa using h4
  have k5:(m.kind==5)=true:=by simpa using h5
  clear hk hk1 hk2 kt lm ln sm sn hn4 h4 h5;go_enter Tryz.func26,Tryz.ntmps26
  go_wp2_with fail
  go_region_held3 (fun W:World=>W.cell? ⟨w.heap.size,0,none⟩=some (.int .i64 (pa:Int))∧W.cell? ⟨w.heap.size,1,none⟩=some (.int .i64 (pb:Int))∧W.cell? ⟨gb,go+pa*4,none⟩=some (.int .i64 m.kind)∧W.cell? ⟨gb,go+pa*4+1,none⟩=some (.int .i64 m.so)∧W.cell? ⟨gb,go+pa*4+2,none⟩=some (.slice a1 m.labs.length c1)∧W.cell? ⟨gb,go+pa*4+3,none⟩=some (.slice a2 m.to.length c2)∧W.cell? ⟨hb1,ho+pb*4,none⟩=some (.int .i64 n.kind)∧W.cell? ⟨hb1,ho+pb*4+1,none⟩=some (.int .i64 n.so)∧W.cell? ⟨hb1,ho+pb*4+2,none⟩=some (.slice a3 n.labs.length c3)∧W.cell? ⟨hb1,ho+pb*4+3,none⟩=some (.slice a4 n.to.length c4)) (first|exact HS0.out|exact HSX.out _|exact HSY.out _ _|assumption) (fail)
  have HRD:=hideK (rdc_one w pa pb m n a1 a2 a3 a4 c1 c2 c3 c4);generalize (((w.alloc (.cells #[.int .i64 (pa:Int),.int .i64 (pb:Int)] 73)).alloc (.cells #[.int .i64 m.kind,.int .i64 m.so,.slice a1 m.labs.length c1,.slice a2 m.to.length c2] 56)).alloc (.cells #[.int .i64 n.kind,.int .i64 n.so,.slice a3 n.labs.length c3,.slice a4 n.to.length c4] 56)).drew=V at HRD ⊢;generalize w.heap.size+1+1=nb at HRD ⊢;generalize w.heap.size+1=mb at HRD ⊢;rotate_left
  have HRD:=hideK (rdc_two w pa pb m n a1 a2 a3 a4 c1 c2 c3 c4);generalize (((w.alloc (.cells #[.int .i64 (pa:Int),.int .i64 (pb:Int)] 73)).alloc (.cells #[.int .i64 n.kind,.int .i64 n.so,.slice a3 n.labs.length c3,.slice a4 n.to.length c4] 56)).alloc (.cells #[.int .i64 m.kind,.int .i64 m.so,.slice a1 m.labs.length c1,.slice a2 m.to.length c2] 56)).drew=V at HRD ⊢;generalize w.heap.size+1+1=mb at HRD ⊢;generalize w.heap.size+1=nb at HRD ⊢;all_goals
   clear HS0 HSX HSY HP0 m0 m1 m2 m3 n0 n1 n2 n3;obtain ⟨x0,x1,x2,x3⟩:=HRD.out.x;obtain ⟨y0,y1,y2,y3⟩:=HRD.out.y;simp only [Nat.zero_add]at x1 x2 x3 y1 y2 y3;have HBV:=hideK HRD.out.bl;go_wp2_with fail
   refine wp_region_held_drew (S:=(fun W:World=>W.cell? ⟨mb,0,none⟩=some (.int .i64 m.kind)∧W.cell? ⟨mb,1,none⟩=some (.int .i64 m.so)∧W.cell? ⟨nb,0,none⟩=some (.int .i64 n.kind)∧W.cell? ⟨nb,1,none⟩=some (.int .i64 n.so))) (by kernel_rfl) ⟨x0,x1,y0,y1⟩ (fun hS=>?_)
   refine tkH 0 (.pointer (some ⟨nb,0,none⟩)) hS ?_;simp only [Act.put,sA,sB,sC];refine tkH 1 (.int .i64 n.kind) hS ?_ (hy:=Or.inl ⟨by rfl,fun W hW=>by obtain ⟨q0,q1,q2,q3⟩:=hW;go_simp⟩)
   simp only [Act.put,sA,sB,sC];refine tkH 2 (.pointer (some ⟨mb,0,none⟩)) hS ?_;simp only [Act.put,sA,sB,sC];refine tkH 3 (.int .i64 m.kind) hS ?_ (hy:=Or.inl ⟨by rfl,fun W hW=>by obtain ⟨q0,q1,q2,q3⟩:=hW;go_simp⟩)
   simp only [Act.put,sA,sB,sC];refine take_oneHL 4 (AllReadyH.cons (by rw [List.getElem?_toArray];rfl) (fun K hK=>?_) AllReadyH.nil) (by kernel_rfl)
   go_simp
   refine (kind_any m.kind _).mono ?_;rintro e wk ⟨rfl,rfl⟩;have hSn:=hS;refine hK.out _ _ hSn ?_;clear hS hK K hSn;intro hS;refine tkH 5 (.bool false) hS ?_;simp only [Act.put,sA,sB,sC];refine tkH 6 (.bool false) hS ?_;simp only [Act.put,sA,sB,sC];refine tkH 7 (.pointer (some ⟨nb,1,none⟩)) hS ?_;simp only [Act.put,sA,sB,sC];refine tkH 8 (.int .i64 n.so) hS ?_ (hy:=Or.inl ⟨by rfl,fun W hW=>by obtain ⟨q0,q1,q2,q3⟩:=hW;go_simp⟩)
   simp only [Act.put,sA,sB,sC];refine tkH 9 (.pointer (some ⟨mb,1,none⟩)) hS ?_;simp only [Act.put,sA,sB,sC];refine tkH 10 (.int .i64 m.so) hS ?_ (hy:=Or.inl ⟨by rfl,fun W hW=>by obtain ⟨q0,q1,q2,q3⟩:=hW;go_simp⟩)
   simp only [Act.put,sA,sB,sC];refine tkH 11 (.bool false) hS ?_;simp only [Act.put,sA,sB,sC];refine tkH 12 (.bool false) hS ?_;simp only [Act.put,sA,sB,sC];refine wpAnyH_done (by kernel_rfl) ?_ _
   have HB2:=hideK (show Below w.heap.size w V.drew.drew from HBV.out.drew.drew)
   have hlm:mb<V.drew.drew.heap.size:=HRD.out.lt.2.1;have hln:nb<V.drew.drew.heap.size:=HRD.out.lt.2.2;have hbs:=HB2.out.size;have hbd:Below B w V.drew.drew:=HB2.out.mono hB;obtain ⟨b2,o2,rfl,hb2B,d2⟩:=toAt_cell (HT1.out.keep hbd) (i:=0) (by have:=HLM.out;omega)
   obtain ⟨b4,o4,rfl,hb4B,d4⟩:=toAt_cell (HT2.out.keep hbd) (i:=0) (by have:=HLN.out;omega)
   rw [Nat.add_zero]at d2 d4;have hl2:b2<V.drew.drew.heap.size:=by omega
   have hl4:b4<V.drew.drew.heap.size:=by omega
   have hlz1:(0:Int)<(m.to.length:Int):=by have:=HLM.out;omega
   have hlz2:(0:Int)<(n.to.length:Int):=by have:=HLN.out;omega
   have hmne:¬m.to=[]:=fun q=>by rw [q]at hlz1;simp at hlz1
   have hnne:¬n.to=[]:=fun q=>by rw [q]at hlz2;simp at hlz2
   clear hbd;go_wp2_with fail
   refine wp_region_held_drew (S:=(fun W:World=>W.cell? ⟨mb,3,none⟩=some (.slice (some ⟨b2,o2,none⟩) m.to.length c2)∧W.cell? ⟨nb,3,none⟩=some (.slice (some ⟨b4,o4,none⟩) n.to.length c4)∧W.cell? ⟨b2,o2,none⟩=some (.int .i64 (toAt m 0:Int))∧W.cell? ⟨b4,o4,none⟩=some (.int .i64 (toAt n 0:Int)))) (by kernel_rfl) ⟨x3,y3,d2,d4⟩ (fun hS=>?_)
   refine tkH 0 (.slice (some ⟨hb1,ho,none⟩) h.length ch) hS ?_;simp only [Act.put,sA,sB,sC];refine tkH 1 (.pointer (some ⟨nb,3,none⟩)) hS ?_;simp only [Act.put,sA,sB,sC];refine tkH 2 (.slice (some ⟨b4,o4,none⟩) n.to.length c4) hS ?_ (hy:=Or.inl ⟨by rfl,fun W hW=>by obtain ⟨q0,q1,q2,q3⟩:=hW;go_simp⟩)
   simp only [Act.put,sA,sB,sC];refine tkH 3 (.pointer (some ⟨b4,o4,none⟩)) hS ?_;simp only [Act.put,sA,sB,sC];refine tkH 4 (.int .i64 (toAt n 0:Int)) hS ?_ (hy:=Or.inl ⟨by rfl,fun W hW=>by obtain ⟨q0,q1,q2,q3⟩:=hW;go_simp⟩)
   simp only [Act.put,sA,sB,sC];refine tkH 5 (.slice (some ⟨gb,go,none⟩) g.length cg) hS ?_;simp only [Act.put,sA,sB,sC];refine tkH 6 (.pointer (some ⟨mb,3,none⟩)) hS ?_;simp only [Act.put,sA,sB,sC];refine tkH 7 (.slice (some ⟨b2,o2,none⟩) m.to.length c2) hS ?_ (hy:=Or.inl ⟨by rfl,fun W hW=>by obtain ⟨q0,q1,q2,q3⟩:=hW;go_simp⟩)
   simp only [Act.put,sA,sB,sC];refine tkH 8 (.pointer (some ⟨b2,o2,none⟩)) hS ?_;simp only [Act.put,sA,sB,sC];refine tkH 9 (.int .i64 (toAt m 0:Int)) hS ?_ (hy:=Or.inl ⟨by rfl,fun W hW=>by obtain ⟨q0,q1,q2,q3⟩:=hW;go_simp⟩)
   simp only [Act.put,sA,sB,sC];refine take_oneHL 10 (AllReadyH.cons (by rw [List.getElem?_toArray];rfl) (fun K hK=>?_) AllReadyH.nil) (by kernel_rfl)
   go_simp
   refine (CB.out _ HB2.out).mono ?_;rintro e w4 ⟨rfl,hb4⟩;have hSn:(fun W:World=>W.cell? ⟨mb,3,none⟩=some (.slice (some ⟨b2,o2,none⟩) m.to.length c2)∧W.cell? ⟨nb,3,none⟩=some (.slice (some ⟨b4,o4,none⟩) n.to.length c4)∧W.cell? ⟨b2,o2,none⟩=some (.int .i64 (toAt m 0:Int))∧W.cell? ⟨b4,o4,none⟩=some (.int .i64 (toAt n 0:Int))) w4:=⟨(hb4.cell (p:=⟨mb,3,none⟩) hlm).trans x3,(hb4.cell (p:=⟨nb,3,none⟩) hln).trans y3,(hb4.cell (p:=⟨b2,o2,none⟩) hl2).trans d2,(hb4.cell (p:=⟨b4,o4,none⟩) hl4).trans d4⟩
   refine hK.out _ _ hSn ?_;clear hS hK K hSn;intro hS;refine tkH 11 (.bool bq) hS ?_;simp only [Act.put,sA,sB,sC];refine wpAnyH_done (by kernel_rfl) ?_ _
   have HB4:=hideK (HB2.out.trans (hb4.mono HB2.out.size));clear hb4 hS;go_wp2_with fail
   go_ret
   exact ⟨rfl,HB4.out⟩
 by_cases h6:m.kind=6
 ·rw [on_6 hk h6]
  have CH:=hideK (fun (W:World) (hb:Below w.heap.size w W)=>hasAllC_any m.labs n.labs a1 c1 a3 c3 B W (HL1.out.keep (hb.mono hB)) (HL2.out.keep (hb.mono hB)) (Nat.le_trans hB hb.size) (by omega) (by omega))
  generalize (m.labs.all fun l=>hasN n.labs l)=bq at *
  have k4:(m.kind==4)=false:=by simpa using h4
  have k5:(m.kind==5)=false:=by simpa using h5
  have k6:(m.kind==6)=true:=by simpa using h6
  clear hk hk1 hk2 kt lm ln sm sn h4 h5 h6;go_enter Tryz.func26,Tryz.ntmps26
  go_wp2_with fail
  go_region_held3 (fun W:World=>W.cell? ⟨w.heap.size,0,none⟩=some (.int .i64 (pa:Int))∧W.cell? ⟨w.heap.size,1,none⟩=some (.int .i64 (pb:Int))∧W.cell? ⟨gb,go+pa*4,none⟩=some (.int .i64 m.kind)∧W.cell? ⟨gb,go+pa*4+1,none⟩=some (.int .i64 m.so)∧W.cell? ⟨gb,go+pa*4+2,none⟩=some (.slice a1 m.labs.length c1)∧W.cell? ⟨gb,go+pa*4+3,none⟩=some (.slice a2 m.to.length c2)∧W.cell? ⟨hb1,ho+pb*4,none⟩=some (.int .i64 n.kind)∧W.cell? ⟨hb1,ho+pb*4+1,none⟩=some (.int .i64 n.so)∧W.cell? ⟨hb1,ho+pb*4+2,none⟩=some (.slice a3 n.labs.length c3)∧W.cell? ⟨hb1,ho+pb*4+3,none⟩=some (.slice a4 n.to.length c4)) (first|exact HS0.out|exact HSX.out _|exact HSY.out _ _|assumption) (fail)
  have HRD:=hideK (rdc_one w pa pb m n a1 a2 a3 a4 c1 c2 c3 c4);generalize (((w.alloc (.cells #[.int .i64 (pa:Int),.int .i64 (pb:Int)] 73)).alloc (.cells #[.int .i64 m.kind,.int .i64 m.so,.slice a1 m.labs.length c1,.slice a2 m.to.length c2] 56)).alloc (.cells #[.int .i64 n.kind,.int .i64 n.so,.slice a3 n.labs.length c3,.slice a4 n.to.length c4] 56)).drew=V at HRD ⊢;generalize w.heap.size+1+1=nb at HRD ⊢;generalize w.heap.size+1=mb at HRD ⊢;rotate_left
  have HRD:=hideK (rdc_two w pa pb m n a1 a2 a3 a4 c1 c2 c3 c4);generalize (((w.alloc (.cells #[.int .i64 (pa:Int),.int .i64 (pb:Int)] 73)).alloc (.cells #[.int .i64 n.kind,.int .i64 n.so,.slice a3 n.labs.length c3,.slice a4 n.to.length c4] 56)).alloc (.cells #[.int .i64 m.kind,.int .i64 m.so,.slice a1 m.labs.length c1,.slice a2 m.to.length c2] 56)).drew=V at HRD ⊢;generalize w.heap.size+1+1=mb at HRD ⊢;generalize w.heap.size+1=nb at HRD ⊢;all_goals
   clear HS0 HSX HSY HP0 m0 m1 m2 m3 n0 n1 n2 n3;obtain ⟨x0,x1,x2,x3⟩:=HRD.out.x;obtain ⟨y0,y1,y2,y3⟩:=HRD.out.y;simp only [Nat.zero_add]at x1 x2 x3 y1 y2 y3;have HBV:=hideK HRD.out.bl;go_wp2_with fail
   refine wp_region_held_drew (S:=(fun W:World=>W.cell? ⟨mb,0,none⟩=some (.int .i64 m.kind)∧W.cell? ⟨mb,1,none⟩=some (.int .i64 m.so)∧W.cell? ⟨nb,0,none⟩=some (.int .i64 n.kind)∧W.cell? ⟨nb,1,none⟩=some (.int .i64 n.so))) (by kernel_rfl) ⟨x0,x1,y0,y1⟩ (fun hS=>?_)
   refine tkH 0 (.pointer (some ⟨nb,0,none⟩)) hS ?_;simp only [Act.put,sA,sB,sC];refine tkH 1 (.int .i64 n.kind) hS ?_ (hy:=Or.inl ⟨by rfl,fun W hW=>by obtain ⟨q0,q1,q2,q3⟩:=hW;go_simp⟩)
   simp only [Act.put,sA,sB,sC];refine tkH 2 (.pointer (some ⟨mb,0,none⟩)) hS ?_;simp only [Act.put,sA,sB,sC];refine tkH 3 (.int .i64 m.kind) hS ?_ (hy:=Or.inl ⟨by rfl,fun W hW=>by obtain ⟨q0,q1,q2,q3⟩:=hW;go_simp⟩)
   simp only [Act.put,sA,sB,sC];refine take_oneHL 4 (AllReadyH.cons (by rw [List.getElem?_toArray];rfl) (fun K hK=>?_) AllReadyH.nil) (by kernel_rfl)
   go_simp
   refine (kind_any m.kind _).mono ?_;rintro e wk ⟨rfl,rfl⟩;have hSn:=hS;refine hK.out _ _ hSn ?_;clear hS hK K hSn;intro hS;refine tkH 5 (.bool false) hS ?_;simp only [Act.put,sA,sB,sC];refine tkH 6 (.bool false) hS ?_;simp only [Act.put,sA,sB,sC];refine tkH 7 (.pointer (some ⟨nb,1,none⟩)) hS ?_;simp only [Act.put,sA,sB,sC];refine tkH 8 (.int .i64 n.so) hS ?_ (hy:=Or.inl ⟨by rfl,fun W hW=>by obtain ⟨q0,q1,q2,q3⟩:=hW;go_simp⟩)
   simp only [Act.put,sA,sB,sC];refine tkH 9 (.pointer (some ⟨mb,1,none⟩)) hS ?_;simp only [Act.put,sA,sB,sC];refine tkH 10 (.int .i64 m.so) hS ?_ (hy:=Or.inl ⟨by rfl,fun W hW=>by obtain ⟨q0,q1,q2,q3⟩:=hW;go_simp⟩)
   simp only [Act.put,sA,sB,sC];refine tkH 11 (.bool false) hS ?_;simp only [Act.put,sA,sB,sC];refine tkH 12 (.bool false) hS ?_;simp only [Act.put,sA,sB,sC];refine wpAnyH_done (by kernel_rfl) ?_ _
   have HB2:=hideK (show Below w.heap.size w V.drew from HBV.out.drew)
   have hbd:Below B w V.drew:=HB2.out.mono hB;have cH:=CH.out V.drew HB2.out;clear hbd;go_wp2_with fail
   refine cH.mono ?_;rintro e w4 ⟨rfl,hb4⟩;have HB4:=hideK (HB2.out.trans (hb4.mono HB2.out.size));clear cH hb4;go_wp2_with fail
   go_ret
   exact ⟨rfl,HB4.out⟩
 by_cases h7:m.kind=7
 ·rw [on_7 hk h7]
  have CH:=hideK (fun (W:World) (hb:Below w.heap.size w W)=>hasAllC_any n.labs m.labs a3 c3 a1 c1 B W (HL2.out.keep (hb.mono hB)) (HL1.out.keep (hb.mono hB)) (Nat.le_trans hB hb.size) (by omega) (by omega))
  generalize (n.labs.all fun l=>hasN m.labs l)=bq at *
  have k4:(m.kind==4)=false:=by simpa using h4
  have k5:(m.kind==5)=false:=by simpa using h5
  have k6:(m.kind==6)=false:=by simpa using h6
  have k7:(m.kind==7)=true:=by simpa using h7
  clear hk hk1 hk2 kt lm ln sm sn h4 h5 h6 h7;go_enter Tryz.func26,Tryz.ntmps26
  go_wp2_with fail
  go_region_held3 (fun W:World=>W.cell? ⟨w.heap.size,0,none⟩=some (.int .i64 (pa:Int))∧W.cell? ⟨w.heap.size,1,none⟩=some (.int .i64 (pb:Int))∧W.cell? ⟨gb,go+pa*4,none⟩=some (.int .i64 m.kind)∧W.cell? ⟨gb,go+pa*4+1,none⟩=some (.int .i64 m.so)∧W.cell? ⟨gb,go+pa*4+2,none⟩=some (.slice a1 m.labs.length c1)∧W.cell? ⟨gb,go+pa*4+3,none⟩=some (.slice a2 m.to.length c2)∧W.cell? ⟨hb1,ho+pb*4,none⟩=some (.int .i64 n.kind)∧W.cell? ⟨hb1,ho+pb*4+1,none⟩=some (.int .i64 n.so)∧W.cell? ⟨hb1,ho+pb*4+2,none⟩=some (.slice a3 n.labs.length c3)∧W.cell? ⟨hb1,ho+pb*4+3,none⟩=some (.slice a4 n.to.length c4)) (first|exact HS0.out|exact HSX.out _|exact HSY.out _ _|assumption) (fail)
  have HRD:=hideK (rdc_one w pa pb m n a1 a2 a3 a4 c1 c2 c3 c4);generalize (((w.alloc (.cells #[.int .i64 (pa:Int),.int .i64 (pb:Int)] 73)).alloc (.cells #[.int .i64 m.kind,.int .i64 m.so,.slice a1 m.labs.length c1,.slice a2 m.to.length c2] 56)).alloc (.cells #[.int .i64 n.kind,.int .i64 n.so,.slice a3 n.labs.length c3,.slice a4 n.to.length c4] 56)).drew=V at HRD ⊢;generalize w.heap.size+1+1=nb at HRD ⊢;generalize w.heap.size+1=mb at HRD ⊢;rotate_left
  have HRD:=hideK (rdc_two w pa pb m n a1 a2 a3 a4 c1 c2 c3 c4);generalize (((w.alloc (.cells #[.int .i64 (pa:Int),.int .i64 (pb:Int)] 73)).alloc (.cells #[.int .i64 n.kind,.int .i64 n.so,.slice a3 n.labs.length c3,.slice a4 n.to.length c4] 56)).alloc (.cells #[.int .i64 m.kind,.int .i64 m.so,.slice a1 m.labs.length c1,.slice a2 m.to.length c2] 56)).drew=V at HRD ⊢;generalize w.heap.size+1+1=mb at HRD ⊢;generalize w.heap.size+1=nb at HRD ⊢;all_goals
   clear HS0 HSX HSY HP0 m0 m1 m2 m3 n0 n1 n2 n3;obtain ⟨x0,x1,x2,x3⟩:=HRD.out.x;obtain ⟨y0,y1,y2,y3⟩:=HRD.out.y;simp only [Nat.zero_add]at x1 x2 x3 y1 y2 y3;have HBV:=hideK HRD.out.bl;go_wp2_with fail
   refine wp_region_held_drew (S:=(fun W:World=>W.cell? ⟨mb,0,none⟩=some (.int .i64 m.kind)∧W.cell? ⟨mb,1,none⟩=some (.int .i64 m.so)∧W.cell? ⟨nb,0,none⟩=some (.int .i64 n.kind)∧W.cell? ⟨nb,1,none⟩=some (.int .i64 n.so))) (by kernel_rfl) ⟨x0,x1,y0,y1⟩ (fun hS=>?_)
   refine tkH 0 (.pointer (some ⟨nb,0,none⟩)) hS ?_;simp only [Act.put,sA,sB,sC];refine tkH 1 (.int .i64 n.kind) hS ?_ (hy:=Or.inl ⟨by rfl,fun W hW=>by obtain ⟨q0,q1,q2,q3⟩:=hW;go_simp⟩)
   simp only [Act.put,sA,sB,sC];refine tkH 2 (.pointer (some ⟨mb,0,none⟩)) hS ?_;simp only [Act.put,sA,sB,sC];refine tkH 3 (.int .i64 m.kind) hS ?_ (hy:=Or.inl ⟨by rfl,fun W hW=>by obtain ⟨q0,q1,q2,q3⟩:=hW;go_simp⟩)
   simp only [Act.put,sA,sB,sC];refine take_oneHL 4 (AllReadyH.cons (by rw [List.getElem?_toArray];rfl) (fun K hK=>?_) AllReadyH.nil) (by kernel_rfl)
   go_simp
   refine (kind_any m.kind _).mono ?_;rintro e wk ⟨rfl,rfl⟩;have hSn:=hS;refine hK.out _ _ hSn ?_;clear hS hK K hSn;intro hS;refine tkH 5 (.bool false) hS ?_;simp only [Act.put,sA,sB,sC];refine tkH 6 (.bool false) hS ?_;simp only [Act.put,sA,sB,sC];refine tkH 7 (.pointer (some ⟨nb,1,none⟩)) hS ?_;simp only [Act.put,sA,sB,sC];refine tkH 8 (.int .i64 n.so) hS ?_ (hy:=Or.inl ⟨by rfl,fun W hW=>by obtain ⟨q0,q1,q2,q3⟩:=hW;go_simp⟩)
   simp only [Act.put,sA,sB,sC];refine tkH 9 (.pointer (some ⟨mb,1,none⟩)) hS ?_;simp only [Act.put,sA,sB,sC];refine tkH 10 (.int .i64 m.so) hS ?_ (hy:=Or.inl ⟨by rfl,fun W hW=>by obtain ⟨q0,q1,q2,q3⟩:=hW;go_simp⟩)
   simp only [Act.put,sA,sB,sC];refine tkH 11 (.bool false) hS ?_;simp only [Act.put,sA,sB,sC];refine tkH 12 (.bool false) hS ?_;simp only [Act.put,sA,sB,sC];refine wpAnyH_done (by kernel_rfl) ?_ _
   have HB2:=hideK (show Below w.heap.size w V.drew from HBV.out.drew)
   have hbd:Below B w V.drew:=HB2.out.mono hB;have cH:=CH.out V.drew HB2.out;clear hbd;go_wp2_with fail
   refine cH.mono ?_;rintro e w4 ⟨rfl,hb4⟩;have HB4:=hideK (HB2.out.trans (hb4.mono HB2.out.size));clear cH hb4;go_wp2_with fail
   go_ret
   exact ⟨rfl,HB4.out⟩
 rw [on_else hk h4 h5 h6 h7];have k4:(m.kind==4)=false:=by simpa using h4
 have k5:(m.kind==5)=false:=by simpa using h5
 have k6:(m.kind==6)=false:=by simpa using h6
 have k7:(m.kind==7)=false:=by simpa using h7
 clear hk hk1 hk2 kt lm ln sm sn h4 h5 h6 h7;go_enter Tryz.func26,Tryz.ntmps26
 go_wp2_with fail
 go_region_held3 (fun W:World=>W.cell? ⟨w.heap.size,0,none⟩=some (.int .i64 (pa:Int))∧W.cell? ⟨w.heap.size,1,none⟩=some (.int .i64 (pb:Int))∧W.cell? ⟨gb,go+pa*4,none⟩=some (.int .i64 m.kind)∧W.cell? ⟨gb,go+pa*4+1,none⟩=some (.int .i64 m.so)∧W.cell? ⟨gb,go+pa*4+2,none⟩=some (.slice a1 m.labs.length c1)∧W.cell? ⟨gb,go+pa*4+3,none⟩=some (.slice a2 m.to.length c2)∧W.cell? ⟨hb1,ho+pb*4,none⟩=some (.int .i64 n.kind)∧W.cell? ⟨hb1,ho+pb*4+1,none⟩=some (.int .i64 n.so)∧W.cell? ⟨hb1,ho+pb*4+2,none⟩=some (.slice a3 n.labs.length c3)∧W.cell? ⟨hb1,ho+pb*4+3,none⟩=some (.slice a4 n.to.length c4)) (first|exact HS0.out|exact HSX.out _|exact HSY.out _ _|assumption) (fail)
 have HRD:=hideK (rdc_one w pa pb m n a1 a2 a3 a4 c1 c2 c3 c4);generalize (((w.alloc (.cells #[.int .i64 (pa:Int),.int .i64 (pb:Int)] 73)).alloc (.cells #[.int .i64 m.kind,.int .i64 m.so,.slice a1 m.labs.length c1,.slice a2 m.to.length c2] 56)).alloc (.cells #[.int .i64 n.kind,.int .i64 n.so,.slice a3 n.labs.length c3,.slice a4 n.to.length c4] 56)).drew=V at HRD ⊢;generalize w.heap.size+1+1=nb at HRD ⊢;generalize w.heap.size+1=mb at HRD ⊢;rotate_left
 have HRD:=hideK (rdc_two w pa pb m n a1 a2 a3 a4 c1 c2 c3 c4);generalize (((w.alloc (.cells #[.int .i64 (pa:Int),.int .i64 (pb:Int)] 73)).alloc (.cells #[.int .i64 n.kind,.int .i64 n.so,.slice a3 n.labs.length c3,.slice a4 n.to.length c4] 56)).alloc (.cells #[.int .i64 m.kind,.int .i64 m.so,.slice a1 m.labs.length c1,.slice a2 m.to.length c2] 56)).drew=V at HRD ⊢;generalize w.heap.size+1+1=mb at HRD ⊢;generalize w.heap.size+1=nb at HRD ⊢;all_goals
  clear HS0 HSX HSY HP0 m0 m1 m2 m3 n0 n1 n2 n3;obtain ⟨x0,x1,x2,x3⟩:=HRD.out.x;obtain ⟨y0,y1,y2,y3⟩:=HRD.out.y;simp only [Nat.zero_add]at x1 x2 x3 y1 y2 y3;have HBV:=hideK HRD.out.bl;go_wp2_with fail
  refine wp_region_held_drew (S:=(fun W:World=>W.cell? ⟨mb,0,none⟩=some (.int .i64 m.kind)∧W.cell? ⟨mb,1,none⟩=some (.int .i64 m.so)∧W.cell? ⟨nb,0,none⟩=some (.int .i64 n.kind)∧W.cell? ⟨nb,1,none⟩=some (.int .i64 n.so))) (by kernel_rfl) ⟨x0,x1,y0,y1⟩ (fun hS=>?_)
  refine tkH 0 (.pointer (some ⟨nb,0,none⟩)) hS ?_;simp only [Act.put,sA,sB,sC];refine tkH 1 (.int .i64 n.kind) hS ?_ (hy:=Or.inl ⟨by rfl,fun W hW=>by obtain ⟨q0,q1,q2,q3⟩:=hW;go_simp⟩)
  simp only [Act.put,sA,sB,sC];refine tkH 2 (.pointer (some ⟨mb,0,none⟩)) hS ?_;simp only [Act.put,sA,sB,sC];refine tkH 3 (.int .i64 m.kind) hS ?_ (hy:=Or.inl ⟨by rfl,fun W hW=>by obtain ⟨q0,q1,q2,q3⟩:=hW;go_simp⟩)
  simp only [Act.put,sA,sB,sC];refine take_oneHL 4 (AllReadyH.cons (by rw [List.getElem?_toArray];rfl) (fun K hK=>?_) AllReadyH.nil) (by kernel_rfl)
  go_simp
  refine (kind_any m.kind _).mono ?_;rintro e wk ⟨rfl,rfl⟩;have hSn:=hS;refine hK.out _ _ hSn ?_;clear hS hK K hSn;intro hS;refine tkH 5 (.bool false) hS ?_;simp only [Act.put,sA,sB,sC];refine tkH 6 (.bool false) hS ?_;simp only [Act.put,sA,sB,sC];refine tkH 7 (.pointer (some ⟨nb,1,none⟩)) hS ?_;simp only [Act.put,sA,sB,sC];refine tkH 8 (.int .i64 n.so) hS ?_ (hy:=Or.inl ⟨by rfl,fun W hW=>by obtain ⟨q0,q1,q2,q3⟩:=hW;go_simp⟩)
  simp only [Act.put,sA,sB,sC];refine tkH 9 (.pointer (some ⟨mb,1,none⟩)) hS ?_;simp only [Act.put,sA,sB,sC];refine tkH 10 (.int .i64 m.so) hS ?_ (hy:=Or.inl ⟨by rfl,fun W hW=>by obtain ⟨q0,q1,q2,q3⟩:=hW;go_simp⟩)
  simp only [Act.put,sA,sB,sC];refine tkH 11 (.bool false) hS ?_;simp only [Act.put,sA,sB,sC];refine tkH 12 (.bool false) hS ?_;simp only [Act.put,sA,sB,sC];refine wpAnyH_done (by kernel_rfl) ?_ _
  go_wp2_with fail
  go_ret
  exact ⟨rfl,HBV.out.drew⟩
end Go.Proofs.YtnedgkcejlhnbaaGreatDoor
