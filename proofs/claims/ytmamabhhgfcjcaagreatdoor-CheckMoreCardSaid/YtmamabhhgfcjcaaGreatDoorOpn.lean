/-
  The contract of (check.scope).withValue.
-/
import Derived.Test.YtmamabhhgfcjcaaGreatDoorOfc
set_option maxRecDepth 100000
set_option maxHeartbeats 16000000
namespace Go.Proofs.YtmamabhhgfcjcaaGreatDoor
open Go.RowKit Go.Shelf
theorem WOB.set2{w:World}{s:Sc}{a:ScA}{mp:Option Nat}{W:World}(h:WOB w s a mp W)(n:ByteArray)(z:Int)(va:OAd)(vc:Nat)(sa:OAd)(sc:Nat):∃W8,(W.setCell ⟨w.heap.size,0,none⟩ (.slice va (s.vs.length+1) vc)).setCell ⟨w.heap.size,1,none⟩ (.slice sa (s.ss.length+1) sc)=W8∧WOB w (s.wv n z) ⟨va,vc,sa,sc,mp⟩ mp W8∧(∀k,k≠w.heap.size→W8.heap[k]? = W.heap[k]?)∧W8.heap.size=W.heap.size:=by
 have o1:∀b o,(b≠w.heap.size∨2≤o)→((W.setCell ⟨w.heap.size,0,none⟩ (.slice va (s.vs.length+1) vc)).setCell ⟨w.heap.size,1,none⟩ (.slice sa (s.ss.length+1) sc)).cell? ⟨b,o,none⟩=W.cell? ⟨b,o,none⟩:=fun b o q=>(World.cell?_setCell_other _ _ _ _ (fun e=>by injection e with e1 e2;omega)).trans (World.cell?_setCell_other _ _ _ _ (fun e=>by injection e with e1 e2;omega))
 refine ⟨_,rfl,⟨(h.bl.setCell (p:=⟨w.heap.size,0,none⟩) (nR _) _).setCell (p:=⟨w.heap.size,1,none⟩) (nR _) _,by rw [World.size_setCell,World.size_setCell];exact h.lt,?_,?_,(o1 _ _ (by omega)).trans h.c2,(o1 _ _ (by omega)).trans h.z0,(o1 _ _ (by omega)).trans h.z1,(o1 _ _ (by omega)).trans h.z2,fun b o q1 q2=>by rw [World.frozen?_setCell,World.frozen?_setCell];exact h.f b o q1 q2⟩,fun k hk=>by rw [Go.Deep.blk_setCell_other _ _ _ _ hk,Go.Deep.blk_setCell_other _ _ _ _ hk],by rw [World.size_setCell,World.size_setCell]⟩
 ·rw [World.cell?_setCell_other _ _ _ _ (fun e=>by injection e with e1 e2;omega),World.cell?_setCell_same _ _ _ h.c0]
  simp [Sc.wv]
 ·rw [World.cell?_setCell_same _ _ _ ((World.cell?_setCell_other _ _ _ _ (fun e=>by injection e with e1 e2;omega)).trans h.c1)]
  simp [Sc.wv]
abbrev sQ(w:World)(s:Sc)(a:ScA):World→Prop:=(fun W:World=>W.cell? ⟨w.heap.size,0,none⟩=some (.slice a.va s.vs.length a.vc)∧W.cell? ⟨w.heap.size,1,none⟩=some (.slice a.sa s.ss.length a.sc))
theorem withValue_any(s:Sc)(a:ScA)(n:ByteArray)(z:Int)(w:World)(h:ScAt w s a)(hl:s.vs.length≤1000):
  Calls Tryz.prog 72 #[scVal s a,.string n,.int .i64 z] w fun e w'=>(∃va' vc' sa' sc',e = .returned (scVal (s.wv n z) ⟨va',vc',sa',sc',a.mp⟩)∧RowN w w' ((s.vs++[n]).map Value.string) va' vc'∧RowN w w' ((s.ss++[z]).map (Value.int .i64)) sa' sc')∧Below w.heap.size w w':=by
 have H:=hideK ((WOB.new w s a).keep ((bR _ _).drew));have HV:=hideK h;have hls:s.ss.length≤1000:=by have:=h.eq;omega
 have C2:=hideK (fun W=>clipS_any s.vs.length a.vc a.va W h.vs.len h.vs.cap (fun e=>by rcases h.vs.la with q|⟨b,o,q,_⟩;simpa using q;rw [e]at q;cases q))
 have C8:=hideK (fun W=>clipI_any s.ss.length a.sc a.sa W h.sl h.sc (fun e=>by rcases h.ss with q|⟨b,o,q,_⟩;simpa using q;rw [e]at q;cases q))
 simp only [scVal,Sc.wv,List.length_append,List.length_singleton]at H ⊢;clear h;go_enter Tryz.func72,Tryz.ntmps72
 go_upto_region 1 with fail
 have hS0:(sQ w s a) (World.drew ((w.alloc (.cells #[.slice a.va s.vs.length a.vc,.slice a.sa s.ss.length a.sc,.map a.mp] 70)).alloc (.cells #[.slice none 0 0,.slice none 0 0,.map none] 70))):=⟨H.out.c0,H.out.c1⟩
 have HZ:=hideK (show (World.drew ((w.alloc (.cells #[.slice a.va s.vs.length a.vc,.slice a.sa s.ss.length a.sc,.map a.mp] 70)).alloc (.cells #[.slice none 0 0,.slice none 0 0,.map none] 70))).heap.size=w.heap.size+1+1 from by simp)
 refine wp_region_cut 13 (S:=(sQ w s a)) (by kernel_rfl) (List.toList_toArray) (by kernel_rfl) (by simp) (by kernel_rfl) (by kernel_rfl) (by kernel_rfl) hS0 (fun hS=>?_)
 clear hS0;generalize World.drew ((w.alloc (.cells #[.slice a.va s.vs.length a.vc,.slice a.sa s.ss.length a.sc,.map a.mp] 70)).alloc (.cells #[.slice none 0 0,.slice none 0 0,.map none] 70))=V0 at *;simp only [List.take_succ_cons,List.take_zero];refine tkZ 0 (.pointer (some ⟨w.heap.size,0,none⟩)) hS ?_;refine tkH 1 (.slice a.va s.vs.length a.vc) hS ?_ (hy:=Or.inl ⟨by rfl,fun W hW=>by obtain ⟨q0,q1⟩:=id hW;go_simp⟩)
 simp only [Act.put,sA,sB,sC];refine tkZ 3 (.string n) hS ?_;refine tkZ 6 (.pointer (some ⟨w.heap.size,1,none⟩)) hS ?_;refine tkH 7 (.slice a.sa s.ss.length a.sc) hS ?_ (hy:=Or.inl ⟨by rfl,fun W hW=>by obtain ⟨q0,q1⟩:=id hW;go_simp⟩)
 simp only [Act.put,sA,sB,sC];refine tkZ 9 (.int .i64 z) hS ?_;refine wpAnyH_ready (rs:=[2,4,10]) (by kernel_rfl) (by simp) (aC (fun K hK=>?_) (aC (fun K hK=>?_) (aC (fun K hK=>?_) aN)))
 ·go_simp
  refine (C2.out V0).mono ?_;rintro e W ⟨rfl,hWe⟩;rw [hWe];clear hWe W;refine hK.out _ _ hS ?_;clear hS hK K;intro hS;try simp only [Act.put,sA,sB,sC]
  refine wpAnyH_ready (rs:=[4,10]) (by kernel_rfl) (by simp) (aC (fun K hK=>?_) (aC (fun K hK=>?_) aN))
  ·have hbs:Below V0.heap.size V0 (V0.alloc (.cells #[.string n] 9)):=(bR _ _).alloc (nR _) _
   have G4:=hideK (show (V0.alloc (.cells #[.string n] 9)).cell? ⟨V0.heap.size,0,none⟩=some (.string n)∧V0.heap.size<(V0.alloc (.cells #[.string n] 9)).heap.size from ⟨by go_cell,by simp⟩)
   have HN:=hideK (H.out.keep (hbs.mono (by have:=H.out.lt;omega)))
   have hSn:(sQ w s a) (V0.alloc (.cells #[.string n] 9)):=⟨HN.out.c0,HN.out.c1⟩
   go_simp
   refine hK.out _ _ hSn ?_;clear H;have H:=HN;clear HN hbs;clear hS hK K hSn;intro hS;try simp only [Act.put,sA,sB,sC]
   generalize V0.heap.size=g4 at G4 ⊢;generalize World.alloc V0 _=V1 at *;refine wpAnyH_ready (rs:=[5,10]) (by kernel_rfl) (by simp) (aC (fun K hK=>?_) (aC (fun K hK=>?_) aN))
   ·refine step_append_str V1 rfl (.tmp 9) (.tmp 11) rfl s.vs a.va w.heap.size n g4 _ rfl rfl (NAt.keep H.out.bl HV.out.vs.la) (by omega) G4.out.1 (fun va1 vc1 V2 hrow hbs=>?_)
    have R5:=hideK (hrow.older (v:=V0) (by have:=H.out.lt;have:=HZ.out;omega))
    have HN:=hideK (H.out.keep (hbs.mono (by have:=H.out.lt;omega)))
    have hSn:(sQ w s a) V2:=⟨HN.out.c0,HN.out.c1⟩
    replace G4:=hideK (And.intro (((hbs).cell (p:=⟨g4,0,none⟩) G4.out.2).trans G4.out.1) (nL G4.out.2 (hbs).size));refine hK.out _ _ hSn ?_;clear H;have H:=HN;clear HN hbs hrow;clear hS hK K hSn;intro hS;try simp only [Act.put,sA,sB,sC]
    refine tkZ 12 (.pointer (some ⟨w.heap.size,0,none⟩)) hS ?_;refine wpAnyH_ready (rs:=[8,10]) (by kernel_rfl) (by simp) (aC (fun K hK=>?_) (aC (fun K hK=>?_) aN))
    ·go_simp
     refine (C8.out V2).mono ?_;rintro e W ⟨rfl,hWe⟩;rw [hWe];clear hWe W;refine hK.out _ _ hS ?_;clear hS hK K;intro hS;try simp only [Act.put,sA,sB,sC]
     refine take_oneHL 10 (aC (fun K hK=>?_) aN) (by kernel_rfl)
     have hbs:Below V2.heap.size V2 (V2.alloc (.cells #[.int .i64 z] 3)):=(bR _ _).alloc (nR _) _;have G10:=hideK (show (V2.alloc (.cells #[.int .i64 z] 3)).cell? ⟨V2.heap.size,0,none⟩=some (.int .i64 z)∧V2.heap.size<(V2.alloc (.cells #[.int .i64 z] 3)).heap.size from ⟨by go_cell,by simp⟩)
     have HN:=hideK (H.out.keep (hbs.mono (by have:=H.out.lt;omega)))
     have hSn:(sQ w s a) (V2.alloc (.cells #[.int .i64 z] 3)):=⟨HN.out.c0,HN.out.c1⟩
     replace G4:=hideK (And.intro (((hbs).cell (p:=⟨g4,0,none⟩) G4.out.2).trans G4.out.1) (nL G4.out.2 (hbs).size));replace R5:=hideK (R5.out.keep hbs);go_simp
     refine hK.out _ _ hSn ?_;clear H;have H:=HN;clear HN hbs;clear hS hK K hSn;intro hS;try simp only [Act.put,sA,sB,sC]
     generalize V2.heap.size=g10 at G10 ⊢;generalize World.alloc V2 _=V3 at *;refine take_oneHL 11 (aC (fun K hK=>?_) aN) (by kernel_rfl)
     refine step_append_int V3 rfl (.tmp 15) (.tmp 17) rfl s.ss a.sa w.heap.size z g10 _ rfl rfl (NAt.keep H.out.bl HV.out.ss) (by omega) G10.out.1 (fun sa1 sc1 V4 hrow hbs=>?_)
     have R11:=hideK (hrow.older (v:=V0) (by have:=H.out.lt;have:=HZ.out;omega))
     have HN:=hideK (H.out.keep (hbs.mono (by have:=H.out.lt;omega)))
     have hSn:(sQ w s a) V4:=⟨HN.out.c0,HN.out.c1⟩
     replace G4:=hideK (And.intro (((hbs).cell (p:=⟨g4,0,none⟩) G4.out.2).trans G4.out.1) (nL G4.out.2 (hbs).size));replace G10:=hideK (And.intro (((hbs).cell (p:=⟨g10,0,none⟩) G10.out.2).trans G10.out.1) (nL G10.out.2 (hbs).size));replace R5:=hideK (R5.out.keep hbs);refine hK.out _ _ hSn ?_;clear H;have H:=HN;clear HN hbs hrow;clear hS hK K hSn;intro hS;try simp only [Act.put,sA,sB,sC]
     refine wpAnyH_done (by kernel_rfl) ?_ _
     obtain ⟨W8,e8,H8,k8,s8⟩:=H.out.set2 n z va1 vc1 sa1 sc1;have R5b:=hideK ((R5.out.off (q:=w.heap.size) (by have:=HZ.out;omega) (Nat.le_of_eq s8.symm) k8))
     have R11b:=hideK ((R11.out.off (q:=w.heap.size) (by have:=HZ.out;omega) (Nat.le_of_eq s8.symm) k8))
     have HLT:=hideK (show w.heap.size+1<V0.heap.size from by have:=HZ.out;omega)
     obtain ⟨_,hlt,c0,c1,c2,z0,z1,z2,ff⟩:=id H.out;have f0:=ff w.heap.size 0 (by omega) (by omega)
     have f1:=ff w.heap.size 1 (by omega) (by omega)
     have H8b:=hideK H8;have HE8:=hideK e8;clear ff k8 s8 H8 hS e8 z0 z1 z2 c2 H R5 R11 G4 G10 HV C2 C8 HZ;show wpList _ _ _ _ _ _
     go_upto_region 2 with fail
     rw [HE8.out];clear HE8 c0 c1 f0 f1 hlt;obtain ⟨W9,e9,r0,r1,r2,hb9,k9⟩:=H8b.out.fin (.slice va1 (s.vs.length+1) vc1) (.slice sa1 (s.ss.length+1) sc1) (.map a.mp);obtain ⟨_,hlt,c0,c1,c2,z0,z1,z2,ff⟩:=id H8b.out;simp only [Sc.wv,List.length_append,List.length_singleton]at c0 c1;have f0:=ff (w.heap.size+1) 0 (by omega) (by omega)
     have f1:=ff (w.heap.size+1) 1 (by omega) (by omega)
     have f2:=ff (w.heap.size+1) 2 (by omega) (by omega)
     have s9:W8.heap.size≤W9.heap.size:=by rw [← e9];simp
     have R5c:=hideK ((R5b.out.off (q:=w.heap.size+1) HLT.out s9 k9).older (v:=w) (by have:=HLT.out;omega))
     have R11c:=hideK ((R11b.out.off (q:=w.heap.size+1) HLT.out s9 k9).older (v:=w) (by have:=HLT.out;omega))
     have HB:=hideK hb9;have HE:=hideK e9;clear ff hb9 e9 k9 s9 R5b R11b H8b HLT hlt;go_wp2_with fail
     rw [HE.out];refine bodyPost_ret (v:=.agg #[.slice va1 (s.vs.length+1) vc1,.slice sa1 (s.ss.length+1) sc1,.map a.mp]) (by simp [results,Tryz.results72,go_sem,r0,r1,r2]) rfl ?_
     exact ⟨⟨va1,vc1,sa1,sc1,rfl,R5c.out,R11c.out⟩,HB.out⟩
    ·have hbs:Below V2.heap.size V2 (V2.alloc (.cells #[.int .i64 z] 3)):=(bR _ _).alloc (nR _) _
     have G10:=hideK (show (V2.alloc (.cells #[.int .i64 z] 3)).cell? ⟨V2.heap.size,0,none⟩=some (.int .i64 z)∧V2.heap.size<(V2.alloc (.cells #[.int .i64 z] 3)).heap.size from ⟨by go_cell,by simp⟩)
     have HN:=hideK (H.out.keep (hbs.mono (by have:=H.out.lt;omega)))
     have hSn:(sQ w s a) (V2.alloc (.cells #[.int .i64 z] 3)):=⟨HN.out.c0,HN.out.c1⟩
     replace G4:=hideK (And.intro (((hbs).cell (p:=⟨g4,0,none⟩) G4.out.2).trans G4.out.1) (nL G4.out.2 (hbs).size));replace R5:=hideK (R5.out.keep hbs);go_simp
     refine hK.out _ _ hSn ?_;clear H;have H:=HN;clear HN hbs;clear hS hK K hSn;intro hS;try simp only [Act.put,sA,sB,sC]
     generalize V2.heap.size=g10 at G10 ⊢;generalize World.alloc V2 _=V3 at *;refine take_oneHL 8 (aC (fun K hK=>?_) aN) (by kernel_rfl)
     go_simp
     refine (C8.out V3).mono ?_;rintro e W ⟨rfl,hWe⟩;rw [hWe];clear hWe W;refine hK.out _ _ hS ?_;clear hS hK K;intro hS;try simp only [Act.put,sA,sB,sC]
     refine take_oneHL 11 (aC (fun K hK=>?_) aN) (by kernel_rfl)
     refine step_append_int V3 rfl (.tmp 15) (.tmp 17) rfl s.ss a.sa w.heap.size z g10 _ rfl rfl (NAt.keep H.out.bl HV.out.ss) (by omega) G10.out.1 (fun sa1 sc1 V4 hrow hbs=>?_)
     have R11:=hideK (hrow.older (v:=V0) (by have:=H.out.lt;have:=HZ.out;omega))
     have HN:=hideK (H.out.keep (hbs.mono (by have:=H.out.lt;omega)))
     have hSn:(sQ w s a) V4:=⟨HN.out.c0,HN.out.c1⟩
     replace G4:=hideK (And.intro (((hbs).cell (p:=⟨g4,0,none⟩) G4.out.2).trans G4.out.1) (nL G4.out.2 (hbs).size));replace G10:=hideK (And.intro (((hbs).cell (p:=⟨g10,0,none⟩) G10.out.2).trans G10.out.1) (nL G10.out.2 (hbs).size));replace R5:=hideK (R5.out.keep hbs);refine hK.out _ _ hSn ?_;clear H;have H:=HN;clear HN hbs hrow;clear hS hK K hSn;intro hS;try simp only [Act.put,sA,sB,sC]
     refine wpAnyH_done (by kernel_rfl) ?_ _
     obtain ⟨W8,e8,H8,k8,s8⟩:=H.out.set2 n z va1 vc1 sa1 sc1;have R5b:=hideK ((R5.out.off (q:=w.heap.size) (by have:=HZ.out;omega) (Nat.le_of_eq s8.symm) k8))
     have R11b:=hideK ((R11.out.off (q:=w.heap.size) (by have:=HZ.out;omega) (Nat.le_of_eq s8.symm) k8))
     have HLT:=hideK (show w.heap.size+1<V0.heap.size from by have:=HZ.out;omega)
     obtain ⟨_,hlt,c0,c1,c2,z0,z1,z2,ff⟩:=id H.out;have f0:=ff w.heap.size 0 (by omega) (by omega)
     have f1:=ff w.heap.size 1 (by omega) (by omega)
     have H8b:=hideK H8;have HE8:=hideK e8;clear ff k8 s8 H8 hS e8 z0 z1 z2 c2 H R5 R11 G4 G10 HV C2 C8 HZ;show wpList _ _ _ _ _ _
     go_upto_region 2 with fail
     rw [HE8.out];clear HE8 c0 c1 f0 f1 hlt;obtain ⟨W9,e9,r0,r1,r2,hb9,k9⟩:=H8b.out.fin (.slice va1 (s.vs.length+1) vc1) (.slice sa1 (s.ss.length+1) sc1) (.map a.mp);obtain ⟨_,hlt,c0,c1,c2,z0,z1,z2,ff⟩:=id H8b.out;simp only [Sc.wv,List.length_append,List.length_singleton]at c0 c1;have f0:=ff (w.heap.size+1) 0 (by omega) (by omega)
     have f1:=ff (w.heap.size+1) 1 (by omega) (by omega)
     have f2:=ff (w.heap.size+1) 2 (by omega) (by omega)
     have s9:W8.heap.size≤W9.heap.size:=by rw [← e9];simp
     have R5c:=hideK ((R5b.out.off (q:=w.heap.size+1) HLT.out s9 k9).older (v:=w) (by have:=HLT.out;omega))
     have R11c:=hideK ((R11b.out.off (q:=w.heap.size+1) HLT.out s9 k9).older (v:=w) (by have:=HLT.out;omega))
     have HB:=hideK hb9;have HE:=hideK e9;clear ff hb9 e9 k9 s9 R5b R11b H8b HLT hlt;go_wp2_with fail
     rw [HE.out];refine bodyPost_ret (v:=.agg #[.slice va1 (s.vs.length+1) vc1,.slice sa1 (s.ss.length+1) sc1,.map a.mp]) (by simp [results,Tryz.results72,go_sem,r0,r1,r2]) rfl ?_
     exact ⟨⟨va1,vc1,sa1,sc1,rfl,R5c.out,R11c.out⟩,HB.out⟩
   ·have hbs:Below V1.heap.size V1 (V1.alloc (.cells #[.int .i64 z] 3)):=(bR _ _).alloc (nR _) _
    have G10:=hideK (show (V1.alloc (.cells #[.int .i64 z] 3)).cell? ⟨V1.heap.size,0,none⟩=some (.int .i64 z)∧V1.heap.size<(V1.alloc (.cells #[.int .i64 z] 3)).heap.size from ⟨by go_cell,by simp⟩)
    have HN:=hideK (H.out.keep (hbs.mono (by have:=H.out.lt;omega)))
    have hSn:(sQ w s a) (V1.alloc (.cells #[.int .i64 z] 3)):=⟨HN.out.c0,HN.out.c1⟩
    replace G4:=hideK (And.intro (((hbs).cell (p:=⟨g4,0,none⟩) G4.out.2).trans G4.out.1) (nL G4.out.2 (hbs).size));go_simp
    refine hK.out _ _ hSn ?_;clear H;have H:=HN;clear HN hbs;clear hS hK K hSn;intro hS;try simp only [Act.put,sA,sB,sC]
    generalize V1.heap.size=g10 at G10 ⊢;generalize World.alloc V1 _=V2 at *;refine take_oneHL 5 (aC (fun K hK=>?_) aN) (by kernel_rfl)
    refine step_append_str V2 rfl (.tmp 9) (.tmp 11) rfl s.vs a.va w.heap.size n g4 _ rfl rfl (NAt.keep H.out.bl HV.out.vs.la) (by omega) G4.out.1 (fun va1 vc1 V3 hrow hbs=>?_)
    have R5:=hideK (hrow.older (v:=V0) (by have:=H.out.lt;have:=HZ.out;omega))
    have HN:=hideK (H.out.keep (hbs.mono (by have:=H.out.lt;omega)))
    have hSn:(sQ w s a) V3:=⟨HN.out.c0,HN.out.c1⟩
    replace G4:=hideK (And.intro (((hbs).cell (p:=⟨g4,0,none⟩) G4.out.2).trans G4.out.1) (nL G4.out.2 (hbs).size));replace G10:=hideK (And.intro (((hbs).cell (p:=⟨g10,0,none⟩) G10.out.2).trans G10.out.1) (nL G10.out.2 (hbs).size));refine hK.out _ _ hSn ?_;clear H;have H:=HN;clear HN hbs hrow;clear hS hK K hSn;intro hS;try simp only [Act.put,sA,sB,sC]
    refine tkZ 12 (.pointer (some ⟨w.heap.size,0,none⟩)) hS ?_;refine take_oneHL 8 (aC (fun K hK=>?_) aN) (by kernel_rfl)
    go_simp
    refine (C8.out V3).mono ?_;rintro e W ⟨rfl,hWe⟩;rw [hWe];clear hWe W;refine hK.out _ _ hS ?_;clear hS hK K;intro hS;try simp only [Act.put,sA,sB,sC]
    refine take_oneHL 11 (aC (fun K hK=>?_) aN) (by kernel_rfl)
    refine step_append_int V3 rfl (.tmp 15) (.tmp 17) rfl s.ss a.sa w.heap.size z g10 _ rfl rfl (NAt.keep H.out.bl HV.out.ss) (by omega) G10.out.1 (fun sa1 sc1 V4 hrow hbs=>?_)
    have R11:=hideK (hrow.older (v:=V0) (by have:=H.out.lt;have:=HZ.out;omega))
    have HN:=hideK (H.out.keep (hbs.mono (by have:=H.out.lt;omega)))
    have hSn:(sQ w s a) V4:=⟨HN.out.c0,HN.out.c1⟩
    replace G4:=hideK (And.intro (((hbs).cell (p:=⟨g4,0,none⟩) G4.out.2).trans G4.out.1) (nL G4.out.2 (hbs).size));replace G10:=hideK (And.intro (((hbs).cell (p:=⟨g10,0,none⟩) G10.out.2).trans G10.out.1) (nL G10.out.2 (hbs).size));replace R5:=hideK (R5.out.keep hbs);refine hK.out _ _ hSn ?_;clear H;have H:=HN;clear HN hbs hrow;clear hS hK K hSn;intro hS;try simp only [Act.put,sA,sB,sC]
    refine wpAnyH_done (by kernel_rfl) ?_ _
    obtain ⟨W8,e8,H8,k8,s8⟩:=H.out.set2 n z va1 vc1 sa1 sc1;have R5b:=hideK ((R5.out.off (q:=w.heap.size) (by have:=HZ.out;omega) (Nat.le_of_eq s8.symm) k8))
    have R11b:=hideK ((R11.out.off (q:=w.heap.size) (by have:=HZ.out;omega) (Nat.le_of_eq s8.symm) k8))
    have HLT:=hideK (show w.heap.size+1<V0.heap.size from by have:=HZ.out;omega)
    obtain ⟨_,hlt,c0,c1,c2,z0,z1,z2,ff⟩:=id H.out;have f0:=ff w.heap.size 0 (by omega) (by omega)
    have f1:=ff w.heap.size 1 (by omega) (by omega)
    have H8b:=hideK H8;have HE8:=hideK e8;clear ff k8 s8 H8 hS e8 z0 z1 z2 c2 H R5 R11 G4 G10 HV C2 C8 HZ;show wpList _ _ _ _ _ _
    go_upto_region 2 with fail
    rw [HE8.out];clear HE8 c0 c1 f0 f1 hlt;obtain ⟨W9,e9,r0,r1,r2,hb9,k9⟩:=H8b.out.fin (.slice va1 (s.vs.length+1) vc1) (.slice sa1 (s.ss.length+1) sc1) (.map a.mp);obtain ⟨_,hlt,c0,c1,c2,z0,z1,z2,ff⟩:=id H8b.out;simp only [Sc.wv,List.length_append,List.length_singleton]at c0 c1;have f0:=ff (w.heap.size+1) 0 (by omega) (by omega)
    have f1:=ff (w.heap.size+1) 1 (by omega) (by omega)
    have f2:=ff (w.heap.size+1) 2 (by omega) (by omega)
    have s9:W8.heap.size≤W9.heap.size:=by rw [← e9];simp
    have R5c:=hideK ((R5b.out.off (q:=w.heap.size+1) HLT.out s9 k9).older (v:=w) (by have:=HLT.out;omega))
    have R11c:=hideK ((R11b.out.off (q:=w.heap.size+1) HLT.out s9 k9).older (v:=w) (by have:=HLT.out;omega))
    have HB:=hideK hb9;have HE:=hideK e9;clear ff hb9 e9 k9 s9 R5b R11b H8b HLT hlt;go_wp2_with fail
    rw [HE.out];refine bodyPost_ret (v:=.agg #[.slice va1 (s.vs.length+1) vc1,.slice sa1 (s.ss.length+1) sc1,.map a.mp]) (by simp [results,Tryz.results72,go_sem,r0,r1,r2]) rfl ?_
    exact ⟨⟨va1,vc1,sa1,sc1,rfl,R5c.out,R11c.out⟩,HB.out⟩
  ·have hbs:Below V0.heap.size V0 (V0.alloc (.cells #[.int .i64 z] 3)):=(bR _ _).alloc (nR _) _
   have G10:=hideK (show (V0.alloc (.cells #[.int .i64 z] 3)).cell? ⟨V0.heap.size,0,none⟩=some (.int .i64 z)∧V0.heap.size<(V0.alloc (.cells #[.int .i64 z] 3)).heap.size from ⟨by go_cell,by simp⟩)
   have HN:=hideK (H.out.keep (hbs.mono (by have:=H.out.lt;omega)))
   have hSn:(sQ w s a) (V0.alloc (.cells #[.int .i64 z] 3)):=⟨HN.out.c0,HN.out.c1⟩
   go_simp
   refine hK.out _ _ hSn ?_;clear H;have H:=HN;clear HN hbs;clear hS hK K hSn;intro hS;try simp only [Act.put,sA,sB,sC]
   generalize V0.heap.size=g10 at G10 ⊢;generalize World.alloc V0 _=V1 at *;refine take_oneHL 4 (aC (fun K hK=>?_) aN) (by kernel_rfl)
   have hbs:Below V1.heap.size V1 (V1.alloc (.cells #[.string n] 9)):=(bR _ _).alloc (nR _) _;have G4:=hideK (show (V1.alloc (.cells #[.string n] 9)).cell? ⟨V1.heap.size,0,none⟩=some (.string n)∧V1.heap.size<(V1.alloc (.cells #[.string n] 9)).heap.size from ⟨by go_cell,by simp⟩)
   have HN:=hideK (H.out.keep (hbs.mono (by have:=H.out.lt;omega)))
   have hSn:(sQ w s a) (V1.alloc (.cells #[.string n] 9)):=⟨HN.out.c0,HN.out.c1⟩
   replace G10:=hideK (And.intro (((hbs).cell (p:=⟨g10,0,none⟩) G10.out.2).trans G10.out.1) (nL G10.out.2 (hbs).size));go_simp
   refine hK.out _ _ hSn ?_;clear H;have H:=HN;clear HN hbs;clear hS hK K hSn;intro hS;try simp only [Act.put,sA,sB,sC]
   generalize V1.heap.size=g4 at G4 ⊢;generalize World.alloc V1 _=V2 at *;refine take_oneHL 5 (aC (fun K hK=>?_) aN) (by kernel_rfl)
   refine step_append_str V2 rfl (.tmp 9) (.tmp 11) rfl s.vs a.va w.heap.size n g4 _ rfl rfl (NAt.keep H.out.bl HV.out.vs.la) (by omega) G4.out.1 (fun va1 vc1 V3 hrow hbs=>?_)
   have R5:=hideK (hrow.older (v:=V0) (by have:=H.out.lt;have:=HZ.out;omega))
   have HN:=hideK (H.out.keep (hbs.mono (by have:=H.out.lt;omega)))
   have hSn:(sQ w s a) V3:=⟨HN.out.c0,HN.out.c1⟩
   replace G4:=hideK (And.intro (((hbs).cell (p:=⟨g4,0,none⟩) G4.out.2).trans G4.out.1) (nL G4.out.2 (hbs).size));replace G10:=hideK (And.intro (((hbs).cell (p:=⟨g10,0,none⟩) G10.out.2).trans G10.out.1) (nL G10.out.2 (hbs).size));refine hK.out _ _ hSn ?_;clear H;have H:=HN;clear HN hbs hrow;clear hS hK K hSn;intro hS;try simp only [Act.put,sA,sB,sC]
   refine tkZ 12 (.pointer (some ⟨w.heap.size,0,none⟩)) hS ?_;refine take_oneHL 8 (aC (fun K hK=>?_) aN) (by kernel_rfl)
   go_simp
   refine (C8.out V3).mono ?_;rintro e W ⟨rfl,hWe⟩;rw [hWe];clear hWe W;refine hK.out _ _ hS ?_;clear hS hK K;intro hS;try simp only [Act.put,sA,sB,sC]
   refine take_oneHL 11 (aC (fun K hK=>?_) aN) (by kernel_rfl)
   refine step_append_int V3 rfl (.tmp 15) (.tmp 17) rfl s.ss a.sa w.heap.size z g10 _ rfl rfl (NAt.keep H.out.bl HV.out.ss) (by omega) G10.out.1 (fun sa1 sc1 V4 hrow hbs=>?_)
   have R11:=hideK (hrow.older (v:=V0) (by have:=H.out.lt;have:=HZ.out;omega))
   have HN:=hideK (H.out.keep (hbs.mono (by have:=H.out.lt;omega)))
   have hSn:(sQ w s a) V4:=⟨HN.out.c0,HN.out.c1⟩
   replace G4:=hideK (And.intro (((hbs).cell (p:=⟨g4,0,none⟩) G4.out.2).trans G4.out.1) (nL G4.out.2 (hbs).size));replace G10:=hideK (And.intro (((hbs).cell (p:=⟨g10,0,none⟩) G10.out.2).trans G10.out.1) (nL G10.out.2 (hbs).size));replace R5:=hideK (R5.out.keep hbs);refine hK.out _ _ hSn ?_;clear H;have H:=HN;clear HN hbs hrow;clear hS hK K hSn;intro hS;try simp only [Act.put,sA,sB,sC]
   refine wpAnyH_done (by kernel_rfl) ?_ _
   obtain ⟨W8,e8,H8,k8,s8⟩:=H.out.set2 n z va1 vc1 sa1 sc1;have R5b:=hideK ((R5.out.off (q:=w.heap.size) (by have:=HZ.out;omega) (Nat.le_of_eq s8.symm) k8))
   have R11b:=hideK ((R11.out.off (q:=w.heap.size) (by have:=HZ.out;omega) (Nat.le_of_eq s8.symm) k8))
   have HLT:=hideK (show w.heap.size+1<V0.heap.size from by have:=HZ.out;omega)
   obtain ⟨_,hlt,c0,c1,c2,z0,z1,z2,ff⟩:=id H.out;have f0:=ff w.heap.size 0 (by omega) (by omega)
   have f1:=ff w.heap.size 1 (by omega) (by omega)
   have H8b:=hideK H8;have HE8:=hideK e8;clear ff k8 s8 H8 hS e8 z0 z1 z2 c2 H R5 R11 G4 G10 HV C2 C8 HZ;show wpList _ _ _ _ _ _
   go_upto_region 2 with fail
   rw [HE8.out];clear HE8 c0 c1 f0 f1 hlt;obtain ⟨W9,e9,r0,r1,r2,hb9,k9⟩:=H8b.out.fin (.slice va1 (s.vs.length+1) vc1) (.slice sa1 (s.ss.length+1) sc1) (.map a.mp);obtain ⟨_,hlt,c0,c1,c2,z0,z1,z2,ff⟩:=id H8b.out;simp only [Sc.wv,List.length_append,List.length_singleton]at c0 c1;have f0:=ff (w.heap.size+1) 0 (by omega) (by omega)
   have f1:=ff (w.heap.size+1) 1 (by omega) (by omega)
   have f2:=ff (w.heap.size+1) 2 (by omega) (by omega)
   have s9:W8.heap.size≤W9.heap.size:=by rw [← e9];simp
   have R5c:=hideK ((R5b.out.off (q:=w.heap.size+1) HLT.out s9 k9).older (v:=w) (by have:=HLT.out;omega))
   have R11c:=hideK ((R11b.out.off (q:=w.heap.size+1) HLT.out s9 k9).older (v:=w) (by have:=HLT.out;omega))
   have HB:=hideK hb9;have HE:=hideK e9;clear ff hb9 e9 k9 s9 R5b R11b H8b HLT hlt;go_wp2_with fail
   rw [HE.out];refine bodyPost_ret (v:=.agg #[.slice va1 (s.vs.length+1) vc1,.slice sa1 (s.ss.length+1) sc1,.map a.mp]) (by simp [results,Tryz.results72,go_sem,r0,r1,r2]) rfl ?_
   exact ⟨⟨va1,vc1,sa1,sc1,rfl,R5c.out,R11c.out⟩,HB.out⟩
 ·have hbs:Below V0.heap.size V0 (V0.alloc (.cells #[.string n] 9)):=(bR _ _).alloc (nR _) _
  have G4:=hideK (show (V0.alloc (.cells #[.string n] 9)).cell? ⟨V0.heap.size,0,none⟩=some (.string n)∧V0.heap.size<(V0.alloc (.cells #[.string n] 9)).heap.size from ⟨by go_cell,by simp⟩)
  have HN:=hideK (H.out.keep (hbs.mono (by have:=H.out.lt;omega)))
  have hSn:(sQ w s a) (V0.alloc (.cells #[.string n] 9)):=⟨HN.out.c0,HN.out.c1⟩
  go_simp
  refine hK.out _ _ hSn ?_;clear H;have H:=HN;clear HN hbs;clear hS hK K hSn;intro hS;try simp only [Act.put,sA,sB,sC]
  generalize V0.heap.size=g4 at G4 ⊢;generalize World.alloc V0 _=V1 at *;refine wpAnyH_ready (rs:=[2,10]) (by kernel_rfl) (by simp) (aC (fun K hK=>?_) (aC (fun K hK=>?_) aN))
  ·go_simp
   refine (C2.out V1).mono ?_;rintro e W ⟨rfl,hWe⟩;rw [hWe];clear hWe W;refine hK.out _ _ hS ?_;clear hS hK K;intro hS;try simp only [Act.put,sA,sB,sC]
   refine wpAnyH_ready (rs:=[5,10]) (by kernel_rfl) (by simp) (aC (fun K hK=>?_) (aC (fun K hK=>?_) aN))
   ·refine step_append_str V1 rfl (.tmp 9) (.tmp 11) rfl s.vs a.va w.heap.size n g4 _ rfl rfl (NAt.keep H.out.bl HV.out.vs.la) (by omega) G4.out.1 (fun va1 vc1 V2 hrow hbs=>?_)
    have R5:=hideK (hrow.older (v:=V0) (by have:=H.out.lt;have:=HZ.out;omega))
    have HN:=hideK (H.out.keep (hbs.mono (by have:=H.out.lt;omega)))
    have hSn:(sQ w s a) V2:=⟨HN.out.c0,HN.out.c1⟩
    replace G4:=hideK (And.intro (((hbs).cell (p:=⟨g4,0,none⟩) G4.out.2).trans G4.out.1) (nL G4.out.2 (hbs).size));refine hK.out _ _ hSn ?_;clear H;have H:=HN;clear HN hbs hrow;clear hS hK K hSn;intro hS;try simp only [Act.put,sA,sB,sC]
    refine tkZ 12 (.pointer (some ⟨w.heap.size,0,none⟩)) hS ?_;refine wpAnyH_ready (rs:=[8,10]) (by kernel_rfl) (by simp) (aC (fun K hK=>?_) (aC (fun K hK=>?_) aN))
    ·go_simp
     refine (C8.out V2).mono ?_;rintro e W ⟨rfl,hWe⟩;rw [hWe];clear hWe W;refine hK.out _ _ hS ?_;clear hS hK K;intro hS;try simp only [Act.put,sA,sB,sC]
     refine take_oneHL 10 (aC (fun K hK=>?_) aN) (by kernel_rfl)
     have hbs:Below V2.heap.size V2 (V2.alloc (.cells #[.int .i64 z] 3)):=(bR _ _).alloc (nR _) _;have G10:=hideK (show (V2.alloc (.cells #[.int .i64 z] 3)).cell? ⟨V2.heap.size,0,none⟩=some (.int .i64 z)∧V2.heap.size<(V2.alloc (.cells #[.int .i64 z] 3)).heap.size from ⟨by go_cell,by simp⟩)
     have HN:=hideK (H.out.keep (hbs.mono (by have:=H.out.lt;omega)))
     have hSn:(sQ w s a) (V2.alloc (.cells #[.int .i64 z] 3)):=⟨HN.out.c0,HN.out.c1⟩
     replace G4:=hideK (And.intro (((hbs).cell (p:=⟨g4,0,none⟩) G4.out.2).trans G4.out.1) (nL G4.out.2 (hbs).size));replace R5:=hideK (R5.out.keep hbs);go_simp
     refine hK.out _ _ hSn ?_;clear H;have H:=HN;clear HN hbs;clear hS hK K hSn;intro hS;try simp only [Act.put,sA,sB,sC]
     generalize V2.heap.size=g10 at G10 ⊢;generalize World.alloc V2 _=V3 at *;refine take_oneHL 11 (aC (fun K hK=>?_) aN) (by kernel_rfl)
     refine step_append_int V3 rfl (.tmp 15) (.tmp 17) rfl s.ss a.sa w.heap.size z g10 _ rfl rfl (NAt.keep H.out.bl HV.out.ss) (by omega) G10.out.1 (fun sa1 sc1 V4 hrow hbs=>?_)
     have R11:=hideK (hrow.older (v:=V0) (by have:=H.out.lt;have:=HZ.out;omega))
     have HN:=hideK (H.out.keep (hbs.mono (by have:=H.out.lt;omega)))
     have hSn:(sQ w s a) V4:=⟨HN.out.c0,HN.out.c1⟩
     replace G4:=hideK (And.intro (((hbs).cell (p:=⟨g4,0,none⟩) G4.out.2).trans G4.out.1) (nL G4.out.2 (hbs).size));replace G10:=hideK (And.intro (((hbs).cell (p:=⟨g10,0,none⟩) G10.out.2).trans G10.out.1) (nL G10.out.2 (hbs).size));replace R5:=hideK (R5.out.keep hbs);refine hK.out _ _ hSn ?_;clear H;have H:=HN;clear HN hbs hrow;clear hS hK K hSn;intro hS;try simp only [Act.put,sA,sB,sC]
     refine wpAnyH_done (by kernel_rfl) ?_ _
     obtain ⟨W8,e8,H8,k8,s8⟩:=H.out.set2 n z va1 vc1 sa1 sc1;have R5b:=hideK ((R5.out.off (q:=w.heap.size) (by have:=HZ.out;omega) (Nat.le_of_eq s8.symm) k8))
     have R11b:=hideK ((R11.out.off (q:=w.heap.size) (by have:=HZ.out;omega) (Nat.le_of_eq s8.symm) k8))
     have HLT:=hideK (show w.heap.size+1<V0.heap.size from by have:=HZ.out;omega)
     obtain ⟨_,hlt,c0,c1,c2,z0,z1,z2,ff⟩:=id H.out;have f0:=ff w.heap.size 0 (by omega) (by omega)
     have f1:=ff w.heap.size 1 (by omega) (by omega)
     have H8b:=hideK H8;have HE8:=hideK e8;clear ff k8 s8 H8 hS e8 z0 z1 z2 c2 H R5 R11 G4 G10 HV C2 C8 HZ;show wpList _ _ _ _ _ _
     go_upto_region 2 with fail
     rw [HE8.out];clear HE8 c0 c1 f0 f1 hlt;obtain ⟨W9,e9,r0,r1,r2,hb9,k9⟩:=H8b.out.fin (.slice va1 (s.vs.length+1) vc1) (.slice sa1 (s.ss.length+1) sc1) (.map a.mp);obtain ⟨_,hlt,c0,c1,c2,z0,z1,z2,ff⟩:=id H8b.out;simp only [Sc.wv,List.length_append,List.length_singleton]at c0 c1;have f0:=ff (w.heap.size+1) 0 (by omega) (by omega)
     have f1:=ff (w.heap.size+1) 1 (by omega) (by omega)
     have f2:=ff (w.heap.size+1) 2 (by omega) (by omega)
     have s9:W8.heap.size≤W9.heap.size:=by rw [← e9];simp
     have R5c:=hideK ((R5b.out.off (q:=w.heap.size+1) HLT.out s9 k9).older (v:=w) (by have:=HLT.out;omega))
     have R11c:=hideK ((R11b.out.off (q:=w.heap.size+1) HLT.out s9 k9).older (v:=w) (by have:=HLT.out;omega))
     have HB:=hideK hb9;have HE:=hideK e9;clear ff hb9 e9 k9 s9 R5b R11b H8b HLT hlt;go_wp2_with fail
     rw [HE.out];refine bodyPost_ret (v:=.agg #[.slice va1 (s.vs.length+1) vc1,.slice sa1 (s.ss.length+1) sc1,.map a.mp]) (by simp [results,Tryz.results72,go_sem,r0,r1,r2]) rfl ?_
     exact ⟨⟨va1,vc1,sa1,sc1,rfl,R5c.out,R11c.out⟩,HB.out⟩
    ·have hbs:Below V2.heap.size V2 (V2.alloc (.cells #[.int .i64 z] 3)):=(bR _ _).alloc (nR _) _
     have G10:=hideK (show (V2.alloc (.cells #[.int .i64 z] 3)).cell? ⟨V2.heap.size,0,none⟩=some (.int .i64 z)∧V2.heap.size<(V2.alloc (.cells #[.int .i64 z] 3)).heap.size from ⟨by go_cell,by simp⟩)
     have HN:=hideK (H.out.keep (hbs.mono (by have:=H.out.lt;omega)))
     have hSn:(sQ w s a) (V2.alloc (.cells #[.int .i64 z] 3)):=⟨HN.out.c0,HN.out.c1⟩
     replace G4:=hideK (And.intro (((hbs).cell (p:=⟨g4,0,none⟩) G4.out.2).trans G4.out.1) (nL G4.out.2 (hbs).size));replace R5:=hideK (R5.out.keep hbs);go_simp
     refine hK.out _ _ hSn ?_;clear H;have H:=HN;clear HN hbs;clear hS hK K hSn;intro hS;try simp only [Act.put,sA,sB,sC]
     generalize V2.heap.size=g10 at G10 ⊢;generalize World.alloc V2 _=V3 at *;refine take_oneHL 8 (aC (fun K hK=>?_) aN) (by kernel_rfl)
     go_simp
     refine (C8.out V3).mono ?_;rintro e W ⟨rfl,hWe⟩;rw [hWe];clear hWe W;refine hK.out _ _ hS ?_;clear hS hK K;intro hS;try simp only [Act.put,sA,sB,sC]
     refine take_oneHL 11 (aC (fun K hK=>?_) aN) (by kernel_rfl)
     refine step_append_int V3 rfl (.tmp 15) (.tmp 17) rfl s.ss a.sa w.heap.size z g10 _ rfl rfl (NAt.keep H.out.bl HV.out.ss) (by omega) G10.out.1 (fun sa1 sc1 V4 hrow hbs=>?_)
     have R11:=hideK (hrow.older (v:=V0) (by have:=H.out.lt;have:=HZ.out;omega))
     have HN:=hideK (H.out.keep (hbs.mono (by have:=H.out.lt;omega)))
     have hSn:(sQ w s a) V4:=⟨HN.out.c0,HN.out.c1⟩
     replace G4:=hideK (And.intro (((hbs).cell (p:=⟨g4,0,none⟩) G4.out.2).trans G4.out.1) (nL G4.out.2 (hbs).size));replace G10:=hideK (And.intro (((hbs).cell (p:=⟨g10,0,none⟩) G10.out.2).trans G10.out.1) (nL G10.out.2 (hbs).size));replace R5:=hideK (R5.out.keep hbs);refine hK.out _ _ hSn ?_;clear H;have H:=HN;clear HN hbs hrow;clear hS hK K hSn;intro hS;try simp only [Act.put,sA,sB,sC]
     refine wpAnyH_done (by kernel_rfl) ?_ _
     obtain ⟨W8,e8,H8,k8,s8⟩:=H.out.set2 n z va1 vc1 sa1 sc1;have R5b:=hideK ((R5.out.off (q:=w.heap.size) (by have:=HZ.out;omega) (Nat.le_of_eq s8.symm) k8))
     have R11b:=hideK ((R11.out.off (q:=w.heap.size) (by have:=HZ.out;omega) (Nat.le_of_eq s8.symm) k8))
     have HLT:=hideK (show w.heap.size+1<V0.heap.size from by have:=HZ.out;omega)
     obtain ⟨_,hlt,c0,c1,c2,z0,z1,z2,ff⟩:=id H.out;have f0:=ff w.heap.size 0 (by omega) (by omega)
     have f1:=ff w.heap.size 1 (by omega) (by omega)
     have H8b:=hideK H8;have HE8:=hideK e8;clear ff k8 s8 H8 hS e8 z0 z1 z2 c2 H R5 R11 G4 G10 HV C2 C8 HZ;show wpList _ _ _ _ _ _
     go_upto_region 2 with fail
     rw [HE8.out];clear HE8 c0 c1 f0 f1 hlt;obtain ⟨W9,e9,r0,r1,r2,hb9,k9⟩:=H8b.out.fin (.slice va1 (s.vs.length+1) vc1) (.slice sa1 (s.ss.length+1) sc1) (.map a.mp);obtain ⟨_,hlt,c0,c1,c2,z0,z1,z2,ff⟩:=id H8b.out;simp only [Sc.wv,List.length_append,List.length_singleton]at c0 c1;have f0:=ff (w.heap.size+1) 0 (by omega) (by omega)
     have f1:=ff (w.heap.size+1) 1 (by omega) (by omega)
     have f2:=ff (w.heap.size+1) 2 (by omega) (by omega)
     have s9:W8.heap.size≤W9.heap.size:=by rw [← e9];simp
     have R5c:=hideK ((R5b.out.off (q:=w.heap.size+1) HLT.out s9 k9).older (v:=w) (by have:=HLT.out;omega))
     have R11c:=hideK ((R11b.out.off (q:=w.heap.size+1) HLT.out s9 k9).older (v:=w) (by have:=HLT.out;omega))
     have HB:=hideK hb9;have HE:=hideK e9;clear ff hb9 e9 k9 s9 R5b R11b H8b HLT hlt;go_wp2_with fail
     rw [HE.out];refine bodyPost_ret (v:=.agg #[.slice va1 (s.vs.length+1) vc1,.slice sa1 (s.ss.length+1) sc1,.map a.mp]) (by simp [results,Tryz.results72,go_sem,r0,r1,r2]) rfl ?_
     exact ⟨⟨va1,vc1,sa1,sc1,rfl,R5c.out,R11c.out⟩,HB.out⟩
   ·have hbs:Below V1.heap.size V1 (V1.alloc (.cells #[.int .i64 z] 3)):=(bR _ _).alloc (nR _) _
    have G10:=hideK (show (V1.alloc (.cells #[.int .i64 z] 3)).cell? ⟨V1.heap.size,0,none⟩=some (.int .i64 z)∧V1.heap.size<(V1.alloc (.cells #[.int .i64 z] 3)).heap.size from ⟨by go_cell,by simp⟩)
    have HN:=hideK (H.out.keep (hbs.mono (by have:=H.out.lt;omega)))
    have hSn:(sQ w s a) (V1.alloc (.cells #[.int .i64 z] 3)):=⟨HN.out.c0,HN.out.c1⟩
    replace G4:=hideK (And.intro (((hbs).cell (p:=⟨g4,0,none⟩) G4.out.2).trans G4.out.1) (nL G4.out.2 (hbs).size));go_simp
    refine hK.out _ _ hSn ?_;clear H;have H:=HN;clear HN hbs;clear hS hK K hSn;intro hS;try simp only [Act.put,sA,sB,sC]
    generalize V1.heap.size=g10 at G10 ⊢;generalize World.alloc V1 _=V2 at *;refine take_oneHL 5 (aC (fun K hK=>?_) aN) (by kernel_rfl)
    refine step_append_str V2 rfl (.tmp 9) (.tmp 11) rfl s.vs a.va w.heap.size n g4 _ rfl rfl (NAt.keep H.out.bl HV.out.vs.la) (by omega) G4.out.1 (fun va1 vc1 V3 hrow hbs=>?_)
    have R5:=hideK (hrow.older (v:=V0) (by have:=H.out.lt;have:=HZ.out;omega))
    have HN:=hideK (H.out.keep (hbs.mono (by have:=H.out.lt;omega)))
    have hSn:(sQ w s a) V3:=⟨HN.out.c0,HN.out.c1⟩
    replace G4:=hideK (And.intro (((hbs).cell (p:=⟨g4,0,none⟩) G4.out.2).trans G4.out.1) (nL G4.out.2 (hbs).size));replace G10:=hideK (And.intro (((hbs).cell (p:=⟨g10,0,none⟩) G10.out.2).trans G10.out.1) (nL G10.out.2 (hbs).size));refine hK.out _ _ hSn ?_;clear H;have H:=HN;clear HN hbs hrow;clear hS hK K hSn;intro hS;try simp only [Act.put,sA,sB,sC]
    refine tkZ 12 (.pointer (some ⟨w.heap.size,0,none⟩)) hS ?_;refine take_oneHL 8 (aC (fun K hK=>?_) aN) (by kernel_rfl)
    go_simp
    refine (C8.out V3).mono ?_;rintro e W ⟨rfl,hWe⟩;rw [hWe];clear hWe W;refine hK.out _ _ hS ?_;clear hS hK K;intro hS;try simp only [Act.put,sA,sB,sC]
    refine take_oneHL 11 (aC (fun K hK=>?_) aN) (by kernel_rfl)
    refine step_append_int V3 rfl (.tmp 15) (.tmp 17) rfl s.ss a.sa w.heap.size z g10 _ rfl rfl (NAt.keep H.out.bl HV.out.ss) (by omega) G10.out.1 (fun sa1 sc1 V4 hrow hbs=>?_)
    have R11:=hideK (hrow.older (v:=V0) (by have:=H.out.lt;have:=HZ.out;omega))
    have HN:=hideK (H.out.keep (hbs.mono (by have:=H.out.lt;omega)))
    have hSn:(sQ w s a) V4:=⟨HN.out.c0,HN.out.c1⟩
    replace G4:=hideK (And.intro (((hbs).cell (p:=⟨g4,0,none⟩) G4.out.2).trans G4.out.1) (nL G4.out.2 (hbs).size));replace G10:=hideK (And.intro (((hbs).cell (p:=⟨g10,0,none⟩) G10.out.2).trans G10.out.1) (nL G10.out.2 (hbs).size));replace R5:=hideK (R5.out.keep hbs);refine hK.out _ _ hSn ?_;clear H;have H:=HN;clear HN hbs hrow;clear hS hK K hSn;intro hS;try simp only [Act.put,sA,sB,sC]
    refine wpAnyH_done (by kernel_rfl) ?_ _
    obtain ⟨W8,e8,H8,k8,s8⟩:=H.out.set2 n z va1 vc1 sa1 sc1;have R5b:=hideK ((R5.out.off (q:=w.heap.size) (by have:=HZ.out;omega) (Nat.le_of_eq s8.symm) k8))
    have R11b:=hideK ((R11.out.off (q:=w.heap.size) (by have:=HZ.out;omega) (Nat.le_of_eq s8.symm) k8))
    have HLT:=hideK (show w.heap.size+1<V0.heap.size from by have:=HZ.out;omega)
    obtain ⟨_,hlt,c0,c1,c2,z0,z1,z2,ff⟩:=id H.out;have f0:=ff w.heap.size 0 (by omega) (by omega)
    have f1:=ff w.heap.size 1 (by omega) (by omega)
    have H8b:=hideK H8;have HE8:=hideK e8;clear ff k8 s8 H8 hS e8 z0 z1 z2 c2 H R5 R11 G4 G10 HV C2 C8 HZ;show wpList _ _ _ _ _ _
    go_upto_region 2 with fail
    rw [HE8.out];clear HE8 c0 c1 f0 f1 hlt;obtain ⟨W9,e9,r0,r1,r2,hb9,k9⟩:=H8b.out.fin (.slice va1 (s.vs.length+1) vc1) (.slice sa1 (s.ss.length+1) sc1) (.map a.mp);obtain ⟨_,hlt,c0,c1,c2,z0,z1,z2,ff⟩:=id H8b.out;simp only [Sc.wv,List.length_append,List.length_singleton]at c0 c1;have f0:=ff (w.heap.size+1) 0 (by omega) (by omega)
    have f1:=ff (w.heap.size+1) 1 (by omega) (by omega)
    have f2:=ff (w.heap.size+1) 2 (by omega) (by omega)
    have s9:W8.heap.size≤W9.heap.size:=by rw [← e9];simp
    have R5c:=hideK ((R5b.out.off (q:=w.heap.size+1) HLT.out s9 k9).older (v:=w) (by have:=HLT.out;omega))
    have R11c:=hideK ((R11b.out.off (q:=w.heap.size+1) HLT.out s9 k9).older (v:=w) (by have:=HLT.out;omega))
    have HB:=hideK hb9;have HE:=hideK e9;clear ff hb9 e9 k9 s9 R5b R11b H8b HLT hlt;go_wp2_with fail
    rw [HE.out];refine bodyPost_ret (v:=.agg #[.slice va1 (s.vs.length+1) vc1,.slice sa1 (s.ss.length+1) sc1,.map a.mp]) (by simp [results,Tryz.results72,go_sem,r0,r1,r2]) rfl ?_
    exact ⟨⟨va1,vc1,sa1,sc1,rfl,R5c.out,R11c.out⟩,HB.out⟩
  ·have hbs:Below V1.heap.size V1 (V1.alloc (.cells #[.int .i64 z] 3)):=(bR _ _).alloc (nR _) _
   have G10:=hideK (show (V1.alloc (.cells #[.int .i64 z] 3)).cell? ⟨V1.heap.size,0,none⟩=some (.int .i64 z)∧V1.heap.size<(V1.alloc (.cells #[.int .i64 z] 3)).heap.size from ⟨by go_cell,by simp⟩)
   have HN:=hideK (H.out.keep (hbs.mono (by have:=H.out.lt;omega)))
   have hSn:(sQ w s a) (V1.alloc (.cells #[.int .i64 z] 3)):=⟨HN.out.c0,HN.out.c1⟩
   replace G4:=hideK (And.intro (((hbs).cell (p:=⟨g4,0,none⟩) G4.out.2).trans G4.out.1) (nL G4.out.2 (hbs).size));go_simp
   refine hK.out _ _ hSn ?_;clear H;have H:=HN;clear HN hbs;clear hS hK K hSn;intro hS;try simp only [Act.put,sA,sB,sC]
   generalize V1.heap.size=g10 at G10 ⊢;generalize World.alloc V1 _=V2 at *;refine take_oneHL 2 (aC (fun K hK=>?_) aN) (by kernel_rfl)
   go_simp
   refine (C2.out V2).mono ?_;rintro e W ⟨rfl,hWe⟩;rw [hWe];clear hWe W;refine hK.out _ _ hS ?_;clear hS hK K;intro hS;try simp only [Act.put,sA,sB,sC]
   refine take_oneHL 5 (aC (fun K hK=>?_) aN) (by kernel_rfl)
   refine step_append_str V2 rfl (.tmp 9) (.tmp 11) rfl s.vs a.va w.heap.size n g4 _ rfl rfl (NAt.keep H.out.bl HV.out.vs.la) (by omega) G4.out.1 (fun va1 vc1 V3 hrow hbs=>?_)
   have R5:=hideK (hrow.older (v:=V0) (by have:=H.out.lt;have:=HZ.out;omega))
   have HN:=hideK (H.out.keep (hbs.mono (by have:=H.out.lt;omega)))
   have hSn:(sQ w s a) V3:=⟨HN.out.c0,HN.out.c1⟩
   replace G4:=hideK (And.intro (((hbs).cell (p:=⟨g4,0,none⟩) G4.out.2).trans G4.out.1) (nL G4.out.2 (hbs).size));replace G10:=hideK (And.intro (((hbs).cell (p:=⟨g10,0,none⟩) G10.out.2).trans G10.out.1) (nL G10.out.2 (hbs).size));refine hK.out _ _ hSn ?_;clear H;have H:=HN;clear HN hbs hrow;clear hS hK K hSn;intro hS;try simp only [Act.put,sA,sB,sC]
   refine tkZ 12 (.pointer (some ⟨w.heap.size,0,none⟩)) hS ?_;refine take_oneHL 8 (aC (fun K hK=>?_) aN) (by kernel_rfl)
   go_simp
   refine (C8.out V3).mono ?_;rintro e W ⟨rfl,hWe⟩;rw [hWe];clear hWe W;refine hK.out _ _ hS ?_;clear hS hK K;intro hS;try simp only [Act.put,sA,sB,sC]
   refine take_oneHL 11 (aC (fun K hK=>?_) aN) (by kernel_rfl)
   refine step_append_int V3 rfl (.tmp 15) (.tmp 17) rfl s.ss a.sa w.heap.size z g10 _ rfl rfl (NAt.keep H.out.bl HV.out.ss) (by omega) G10.out.1 (fun sa1 sc1 V4 hrow hbs=>?_)
   have R11:=hideK (hrow.older (v:=V0) (by have:=H.out.lt;have:=HZ.out;omega))
   have HN:=hideK (H.out.keep (hbs.mono (by have:=H.out.lt;omega)))
   have hSn:(sQ w s a) V4:=⟨HN.out.c0,HN.out.c1⟩
   replace G4:=hideK (And.intro (((hbs).cell (p:=⟨g4,0,none⟩) G4.out.2).trans G4.out.1) (nL G4.out.2 (hbs).size));replace G10:=hideK (And.intro (((hbs).cell (p:=⟨g10,0,none⟩) G10.out.2).trans G10.out.1) (nL G10.out.2 (hbs).size));replace R5:=hideK (R5.out.keep hbs);refine hK.out _ _ hSn ?_;clear H;have H:=HN;clear HN hbs hrow;clear hS hK K hSn;intro hS;try simp only [Act.put,sA,sB,sC]
   refine wpAnyH_done (by kernel_rfl) ?_ _
   obtain ⟨W8,e8,H8,k8,s8⟩:=H.out.set2 n z va1 vc1 sa1 sc1;have R5b:=hideK ((R5.out.off (q:=w.heap.size) (by have:=HZ.out;omega) (Nat.le_of_eq s8.symm) k8))
   have R11b:=hideK ((R11.out.off (q:=w.heap.size) (by have:=HZ.out;omega) (Nat.le_of_eq s8.symm) k8))
   have HLT:=hideK (show w.heap.size+1<V0.heap.size from by have:=HZ.out;omega)
   obtain ⟨_,hlt,c0,c1,c2,z0,z1,z2,ff⟩:=id H.out;have f0:=ff w.heap.size 0 (by omega) (by omega)
   have f1:=ff w.heap.size 1 (by omega) (by omega)
   have H8b:=hideK H8;have HE8:=hideK e8;clear ff k8 s8 H8 hS e8 z0 z1 z2 c2 H R5 R11 G4 G10 HV C2 C8 HZ;show wpList _ _ _ _ _ _
   go_upto_region 2 with fail
   rw [HE8.out];clear HE8 c0 c1 f0 f1 hlt;obtain ⟨W9,e9,r0,r1,r2,hb9,k9⟩:=H8b.out.fin (.slice va1 (s.vs.length+1) vc1) (.slice sa1 (s.ss.length+1) sc1) (.map a.mp);obtain ⟨_,hlt,c0,c1,c2,z0,z1,z2,ff⟩:=id H8b.out;simp only [Sc.wv,List.length_append,List.length_singleton]at c0 c1;have f0:=ff (w.heap.size+1) 0 (by omega) (by omega)
   have f1:=ff (w.heap.size+1) 1 (by omega) (by omega)
   have f2:=ff (w.heap.size+1) 2 (by omega) (by omega)
   have s9:W8.heap.size≤W9.heap.size:=by rw [← e9];simp
   have R5c:=hideK ((R5b.out.off (q:=w.heap.size+1) HLT.out s9 k9).older (v:=w) (by have:=HLT.out;omega))
   have R11c:=hideK ((R11b.out.off (q:=w.heap.size+1) HLT.out s9 k9).older (v:=w) (by have:=HLT.out;omega))
   have HB:=hideK hb9;have HE:=hideK e9;clear ff hb9 e9 k9 s9 R5b R11b H8b HLT hlt;go_wp2_with fail
   rw [HE.out];refine bodyPost_ret (v:=.agg #[.slice va1 (s.vs.length+1) vc1,.slice sa1 (s.ss.length+1) sc1,.map a.mp]) (by simp [results,Tryz.results72,go_sem,r0,r1,r2]) rfl ?_
   exact ⟨⟨va1,vc1,sa1,sc1,rfl,R5c.out,R11c.out⟩,HB.out⟩
 ·have hbs:Below V0.heap.size V0 (V0.alloc (.cells #[.int .i64 z] 3)):=(bR _ _).alloc (nR _) _
  have G10:=hideK (show (V0.alloc (.cells #[.int .i64 z] 3)).cell? ⟨V0.heap.size,0,none⟩=some (.int .i64 z)∧V0.heap.size<(V0.alloc (.cells #[.int .i64 z] 3)).heap.size from ⟨by go_cell,by simp⟩)
  have HN:=hideK (H.out.keep (hbs.mono (by have:=H.out.lt;omega)))
  have hSn:(sQ w s a) (V0.alloc (.cells #[.int .i64 z] 3)):=⟨HN.out.c0,HN.out.c1⟩
  go_simp
  refine hK.out _ _ hSn ?_;clear H;have H:=HN;clear HN hbs;clear hS hK K hSn;intro hS;try simp only [Act.put,sA,sB,sC]
  generalize V0.heap.size=g10 at G10 ⊢;generalize World.alloc V0 _=V1 at *;refine wpAnyH_ready (rs:=[2,4]) (by kernel_rfl) (by simp) (aC (fun K hK=>?_) (aC (fun K hK=>?_) aN))
  ·go_simp
   refine (C2.out V1).mono ?_;rintro e W ⟨rfl,hWe⟩;rw [hWe];clear hWe W;refine hK.out _ _ hS ?_;clear hS hK K;intro hS;try simp only [Act.put,sA,sB,sC]
   refine take_oneHL 4 (aC (fun K hK=>?_) aN) (by kernel_rfl)
   have hbs:Below V1.heap.size V1 (V1.alloc (.cells #[.string n] 9)):=(bR _ _).alloc (nR _) _;have G4:=hideK (show (V1.alloc (.cells #[.string n] 9)).cell? ⟨V1.heap.size,0,none⟩=some (.string n)∧V1.heap.size<(V1.alloc (.cells #[.string n] 9)).heap.size from ⟨by go_cell,by simp⟩)
   have HN:=hideK (H.out.keep (hbs.mono (by have:=H.out.lt;omega)))
   have hSn:(sQ w s a) (V1.alloc (.cells #[.string n] 9)):=⟨HN.out.c0,HN.out.c1⟩
   replace G10:=hideK (And.intro (((hbs).cell (p:=⟨g10,0,none⟩) G10.out.2).trans G10.out.1) (nL G10.out.2 (hbs).size));go_simp
   refine hK.out _ _ hSn ?_;clear H;have H:=HN;clear HN hbs;clear hS hK K hSn;intro hS;try simp only [Act.put,sA,sB,sC]
   generalize V1.heap.size=g4 at G4 ⊢;generalize World.alloc V1 _=V2 at *;refine take_oneHL 5 (aC (fun K hK=>?_) aN) (by kernel_rfl)
   refine step_append_str V2 rfl (.tmp 9) (.tmp 11) rfl s.vs a.va w.heap.size n g4 _ rfl rfl (NAt.keep H.out.bl HV.out.vs.la) (by omega) G4.out.1 (fun va1 vc1 V3 hrow hbs=>?_)
   have R5:=hideK (hrow.older (v:=V0) (by have:=H.out.lt;have:=HZ.out;omega))
   have HN:=hideK (H.out.keep (hbs.mono (by have:=H.out.lt;omega)))
   have hSn:(sQ w s a) V3:=⟨HN.out.c0,HN.out.c1⟩
   replace G4:=hideK (And.intro (((hbs).cell (p:=⟨g4,0,none⟩) G4.out.2).trans G4.out.1) (nL G4.out.2 (hbs).size));replace G10:=hideK (And.intro (((hbs).cell (p:=⟨g10,0,none⟩) G10.out.2).trans G10.out.1) (nL G10.out.2 (hbs).size));refine hK.out _ _ hSn ?_;clear H;have H:=HN;clear HN hbs hrow;clear hS hK K hSn;intro hS;try simp only [Act.put,sA,sB,sC]
   refine tkZ 12 (.pointer (some ⟨w.heap.size,0,none⟩)) hS ?_;refine take_oneHL 8 (aC (fun K hK=>?_) aN) (by kernel_rfl)
   go_simp
   refine (C8.out V3).mono ?_;rintro e W ⟨rfl,hWe⟩;rw [hWe];clear hWe W;refine hK.out _ _ hS ?_;clear hS hK K;intro hS;try simp only [Act.put,sA,sB,sC]
   refine take_oneHL 11 (aC (fun K hK=>?_) aN) (by kernel_rfl)
   refine step_append_int V3 rfl (.tmp 15) (.tmp 17) rfl s.ss a.sa w.heap.size z g10 _ rfl rfl (NAt.keep H.out.bl HV.out.ss) (by omega) G10.out.1 (fun sa1 sc1 V4 hrow hbs=>?_)
   have R11:=hideK (hrow.older (v:=V0) (by have:=H.out.lt;have:=HZ.out;omega))
   have HN:=hideK (H.out.keep (hbs.mono (by have:=H.out.lt;omega)))
   have hSn:(sQ w s a) V4:=⟨HN.out.c0,HN.out.c1⟩
   replace G4:=hideK (And.intro (((hbs).cell (p:=⟨g4,0,none⟩) G4.out.2).trans G4.out.1) (nL G4.out.2 (hbs).size));replace G10:=hideK (And.intro (((hbs).cell (p:=⟨g10,0,none⟩) G10.out.2).trans G10.out.1) (nL G10.out.2 (hbs).size));replace R5:=hideK (R5.out.keep hbs);refine hK.out _ _ hSn ?_;clear H;have H:=HN;clear HN hbs hrow;clear hS hK K hSn;intro hS;try simp only [Act.put,sA,sB,sC]
   refine wpAnyH_done (by kernel_rfl) ?_ _
   obtain ⟨W8,e8,H8,k8,s8⟩:=H.out.set2 n z va1 vc1 sa1 sc1;have R5b:=hideK ((R5.out.off (q:=w.heap.size) (by have:=HZ.out;omega) (Nat.le_of_eq s8.symm) k8))
   have R11b:=hideK ((R11.out.off (q:=w.heap.size) (by have:=HZ.out;omega) (Nat.le_of_eq s8.symm) k8))
   have HLT:=hideK (show w.heap.size+1<V0.heap.size from by have:=HZ.out;omega)
   obtain ⟨_,hlt,c0,c1,c2,z0,z1,z2,ff⟩:=id H.out;have f0:=ff w.heap.size 0 (by omega) (by omega)
   have f1:=ff w.heap.size 1 (by omega) (by omega)
   have H8b:=hideK H8;have HE8:=hideK e8;clear ff k8 s8 H8 hS e8 z0 z1 z2 c2 H R5 R11 G4 G10 HV C2 C8 HZ;show wpList _ _ _ _ _ _
   go_upto_region 2 with fail
   rw [HE8.out];clear HE8 c0 c1 f0 f1 hlt;obtain ⟨W9,e9,r0,r1,r2,hb9,k9⟩:=H8b.out.fin (.slice va1 (s.vs.length+1) vc1) (.slice sa1 (s.ss.length+1) sc1) (.map a.mp);obtain ⟨_,hlt,c0,c1,c2,z0,z1,z2,ff⟩:=id H8b.out;simp only [Sc.wv,List.length_append,List.length_singleton]at c0 c1;have f0:=ff (w.heap.size+1) 0 (by omega) (by omega)
   have f1:=ff (w.heap.size+1) 1 (by omega) (by omega)
   have f2:=ff (w.heap.size+1) 2 (by omega) (by omega)
   have s9:W8.heap.size≤W9.heap.size:=by rw [← e9];simp
   have R5c:=hideK ((R5b.out.off (q:=w.heap.size+1) HLT.out s9 k9).older (v:=w) (by have:=HLT.out;omega))
   have R11c:=hideK ((R11b.out.off (q:=w.heap.size+1) HLT.out s9 k9).older (v:=w) (by have:=HLT.out;omega))
   have HB:=hideK hb9;have HE:=hideK e9;clear ff hb9 e9 k9 s9 R5b R11b H8b HLT hlt;go_wp2_with fail
   rw [HE.out];refine bodyPost_ret (v:=.agg #[.slice va1 (s.vs.length+1) vc1,.slice sa1 (s.ss.length+1) sc1,.map a.mp]) (by simp [results,Tryz.results72,go_sem,r0,r1,r2]) rfl ?_
   exact ⟨⟨va1,vc1,sa1,sc1,rfl,R5c.out,R11c.out⟩,HB.out⟩
  ·have hbs:Below V1.heap.size V1 (V1.alloc (.cells #[.string n] 9)):=(bR _ _).alloc (nR _) _
   have G4:=hideK (show (V1.alloc (.cells #[.string n] 9)).cell? ⟨V1.heap.size,0,none⟩=some (.string n)∧V1.heap.size<(V1.alloc (.cells #[.string n] 9)).heap.size from ⟨by go_cell,by simp⟩)
   have HN:=hideK (H.out.keep (hbs.mono (by have:=H.out.lt;omega)))
   have hSn:(sQ w s a) (V1.alloc (.cells #[.string n] 9)):=⟨HN.out.c0,HN.out.c1⟩
   replace G10:=hideK (And.intro (((hbs).cell (p:=⟨g10,0,none⟩) G10.out.2).trans G10.out.1) (nL G10.out.2 (hbs).size));go_simp
   refine hK.out _ _ hSn ?_;clear H;have H:=HN;clear HN hbs;clear hS hK K hSn;intro hS;try simp only [Act.put,sA,sB,sC]
   generalize V1.heap.size=g4 at G4 ⊢;generalize World.alloc V1 _=V2 at *;refine take_oneHL 2 (aC (fun K hK=>?_) aN) (by kernel_rfl)
   go_simp
   refine (C2.out V2).mono ?_;rintro e W ⟨rfl,hWe⟩;rw [hWe];clear hWe W;refine hK.out _ _ hS ?_;clear hS hK K;intro hS;try simp only [Act.put,sA,sB,sC]
   refine take_oneHL 5 (aC (fun K hK=>?_) aN) (by kernel_rfl)
   refine step_append_str V2 rfl (.tmp 9) (.tmp 11) rfl s.vs a.va w.heap.size n g4 _ rfl rfl (NAt.keep H.out.bl HV.out.vs.la) (by omega) G4.out.1 (fun va1 vc1 V3 hrow hbs=>?_)
   have R5:=hideK (hrow.older (v:=V0) (by have:=H.out.lt;have:=HZ.out;omega))
   have HN:=hideK (H.out.keep (hbs.mono (by have:=H.out.lt;omega)))
   have hSn:(sQ w s a) V3:=⟨HN.out.c0,HN.out.c1⟩
   replace G4:=hideK (And.intro (((hbs).cell (p:=⟨g4,0,none⟩) G4.out.2).trans G4.out.1) (nL G4.out.2 (hbs).size));replace G10:=hideK (And.intro (((hbs).cell (p:=⟨g10,0,none⟩) G10.out.2).trans G10.out.1) (nL G10.out.2 (hbs).size));refine hK.out _ _ hSn ?_;clear H;have H:=HN;clear HN hbs hrow;clear hS hK K hSn;intro hS;try simp only [Act.put,sA,sB,sC]
   refine tkZ 12 (.pointer (some ⟨w.heap.size,0,none⟩)) hS ?_;refine take_oneHL 8 (aC (fun K hK=>?_) aN) (by kernel_rfl)
   go_simp
   refine (C8.out V3).mono ?_;rintro e W ⟨rfl,hWe⟩;rw [hWe];clear hWe W;refine hK.out _ _ hS ?_;clear hS hK K;intro hS;try simp only [Act.put,sA,sB,sC]
   refine take_oneHL 11 (aC (fun K hK=>?_) aN) (by kernel_rfl)
   refine step_append_int V3 rfl (.tmp 15) (.tmp 17) rfl s.ss a.sa w.heap.size z g10 _ rfl rfl (NAt.keep H.out.bl HV.out.ss) (by omega) G10.out.1 (fun sa1 sc1 V4 hrow hbs=>?_)
   have R11:=hideK (hrow.older (v:=V0) (by have:=H.out.lt;have:=HZ.out;omega))
   have HN:=hideK (H.out.keep (hbs.mono (by have:=H.out.lt;omega)))
   have hSn:(sQ w s a) V4:=⟨HN.out.c0,HN.out.c1⟩
   replace G4:=hideK (And.intro (((hbs).cell (p:=⟨g4,0,none⟩) G4.out.2).trans G4.out.1) (nL G4.out.2 (hbs).size));replace G10:=hideK (And.intro (((hbs).cell (p:=⟨g10,0,none⟩) G10.out.2).trans G10.out.1) (nL G10.out.2 (hbs).size));replace R5:=hideK (R5.out.keep hbs);refine hK.out _ _ hSn ?_;clear H;have H:=HN;clear HN hbs hrow;clear hS hK K hSn;intro hS;try simp only [Act.put,sA,sB,sC]
   refine wpAnyH_done (by kernel_rfl) ?_ _
   obtain ⟨W8,e8,H8,k8,s8⟩:=H.out.set2 n z va1 vc1 sa1 sc1;have R5b:=hideK ((R5.out.off (q:=w.heap.size) (by have:=HZ.out;omega) (Nat.le_of_eq s8.symm) k8))
   have R11b:=hideK ((R11.out.off (q:=w.heap.size) (by have:=HZ.out;omega) (Nat.le_of_eq s8.symm) k8))
   have HLT:=hideK (show w.heap.size+1<V0.heap.size from by have:=HZ.out;omega)
   obtain ⟨_,hlt,c0,c1,c2,z0,z1,z2,ff⟩:=id H.out;have f0:=ff w.heap.size 0 (by omega) (by omega)
   have f1:=ff w.heap.size 1 (by omega) (by omega)
   have H8b:=hideK H8;have HE8:=hideK e8;clear ff k8 s8 H8 hS e8 z0 z1 z2 c2 H R5 R11 G4 G10 HV C2 C8 HZ;show wpList _ _ _ _ _ _
   go_upto_region 2 with fail
   rw [HE8.out];clear HE8 c0 c1 f0 f1 hlt;obtain ⟨W9,e9,r0,r1,r2,hb9,k9⟩:=H8b.out.fin (.slice va1 (s.vs.length+1) vc1) (.slice sa1 (s.ss.length+1) sc1) (.map a.mp);obtain ⟨_,hlt,c0,c1,c2,z0,z1,z2,ff⟩:=id H8b.out;simp only [Sc.wv,List.length_append,List.length_singleton]at c0 c1;have f0:=ff (w.heap.size+1) 0 (by omega) (by omega)
   have f1:=ff (w.heap.size+1) 1 (by omega) (by omega)
   have f2:=ff (w.heap.size+1) 2 (by omega) (by omega)
   have s9:W8.heap.size≤W9.heap.size:=by rw [← e9];simp
   have R5c:=hideK ((R5b.out.off (q:=w.heap.size+1) HLT.out s9 k9).older (v:=w) (by have:=HLT.out;omega))
   have R11c:=hideK ((R11b.out.off (q:=w.heap.size+1) HLT.out s9 k9).older (v:=w) (by have:=HLT.out;omega))
   have HB:=hideK hb9;have HE:=hideK e9;clear ff hb9 e9 k9 s9 R5b R11b H8b HLT hlt;go_wp2_with fail
   rw [HE.out];refine bodyPost_ret (v:=.agg #[.slice va1 (s.vs.length+1) vc1,.slice sa1 (s.ss.length+1) sc1,.map a.mp]) (by simp [results,Tryz.results72,go_sem,r0,r1,r2]) rfl ?_
   exact ⟨⟨va1,vc1,sa1,sc1,rfl,R5c.out,R11c.out⟩,HB.out⟩
end Go.Proofs.YtmamabhhgfcjcaaGreatDoor
