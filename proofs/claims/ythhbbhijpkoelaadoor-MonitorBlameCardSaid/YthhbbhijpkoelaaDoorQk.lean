/-
  The first half of a round of duetkeep.MonitorBlame: both heads, in whatever order they are made.
-/
import Derived.Test.YthhbbhijpkoelaaDoorQf
namespace Go.Proofs.YthhbbhijpkoelaaDoor
open Go.RowKit Go.Shelf

set_option maxRecDepth 100000 in
set_option maxHeartbeats 200000000 in
theorem blame_first : blame_cut.1 := by
  intro ds dt s t pal pcl pak pck al cl ak ck zs cp w hzl iq0 V w1 g0 ag0 cg0 mb0 B0 w2 w3 g h w4 ag cg mb iq1 iq2 wr u6 u13 u14 u15 u16 u17 u18 u19 u20 u21 u22 u23 u24 u70 u71 u72 u73 u74 u75 u76 u77 u78 u79 u80 u81 u82 u83 u84 u85 u86 u87 u88 u89 u90 u91 u92 u93 u94 u95 u96 u97 u98 u99 u100 u101 u102 u103 u104 u105 u106 u107 u108 u109 u110 u111 u112 u113 u114 u115 u116 u117 u118 u119 u120 u121 u122 u123 u124 u125 u126 u127 u128 u129 u130 u131 u132 u133 u134 u135 u136 u137 u138 u139 u140 u141 u142 u143 u144 u145 u146 u147 u148 u149 u150 u151 u152 u153 u154 u155 u156 u157 u158 u159 u160 u161 u162 u163 u164 u165 u166 u167 u168 u169 u170 u171 u172 u173 u174 u175 u176 u177 u178 u179 u180 u181 u182 u183 u184 u185 u186 u187 u188 u189 u190 u191 u192 u193 u194 u195 u196 u197 u198 u199 u200 u201 u202 u203 u204 u205 u206 u207 n i j S sal scl sak sck sd T tal tcl tak tck td L hn hlt hltz pb po hpB HM Cx Cy z d1 iq3 iq4 iq5 iq6 iq7 iq8 iq9 iq10 iq11
  have hS0 : BMW w mb L g ag cg mb i (n : Int) S sal scl sak sck sd T tal tcl tak tck td wr.drew := HM.out.keep ((Below.refl _ _).drew)
  refine wp_region_held_drew (S := BMW w mb L g ag cg mb i (n : Int) S sal scl sak sck sd T tal tcl tak tck td) (by as_aux_lemma => kernel_rfl) hS0 (fun hS => ?_)
  clear hS0 HM d1
  generalize World.drew wr = V0 at *
  refine wpAnyH_take (i := 0) (v := (.agg #[.int .i64 S.kind, .int .i64 S.so, .string S.name, .slice sal S.labels.length scl, .slice sak S.kids.length sck])) (by rw [List.getElem?_toArray]; rfl) (by as_aux_lemma => kernel_rfl) (by as_aux_lemma => kernel_rfl) (by as_aux_lemma => kernel_rfl) (by exact fun _ _ _ h => h) (Or.inl ⟨by rfl, fun W hW => by obtain ⟨q0, q1, q2, q3, q4⟩ := hW.x.a; simp only [Nat.zero_add] at q0 q1 q2 q3 q4; go_simp⟩) hS ?_
  simp only [Act.put, List.setIfInBounds_toArray, List.set_cons_zero, List.set_cons_succ]
  refine wpAnyH_take (i := 2) (v := (.agg #[.int .i64 T.kind, .int .i64 T.so, .string T.name, .slice tal T.labels.length tcl, .slice tak T.kids.length tck])) (by rw [List.getElem?_toArray]; rfl) (by as_aux_lemma => kernel_rfl) (by as_aux_lemma => kernel_rfl) (by as_aux_lemma => kernel_rfl) (by exact fun _ _ _ h => h) (Or.inl ⟨by rfl, fun W hW => by obtain ⟨q0, q1, q2, q3, q4⟩ := hW.y.a; simp only [Nat.zero_add] at q0 q1 q2 q3 q4; go_simp⟩) hS ?_
  simp only [Act.put, List.setIfInBounds_toArray, List.set_cons_zero, List.set_cons_succ]
  refine wpAnyH_ready (rs := [1, 4, 5]) (by as_aux_lemma => kernel_rfl) (by simp) (AllReadyH.cons (by rw [List.getElem?_toArray]; rfl) (fun K hK => ?_) (AllReadyH.cons (by rw [List.getElem?_toArray]; rfl) (fun K hK => ?_) (AllReadyH.cons (by rw [List.getElem?_toArray]; rfl) (fun K hK => ?_) AllReadyH.nil)))
  · go_simp
    refine (Cx.out _ hS).mono ?_
    rintro e V1 ⟨⟨A, hux, h8x, aal, acl, aak, ack, ad, rfl, h1, h2, h3⟩, hb⟩
    have hSn := hS.keep hb
    have HVx := hideK (tvb_new (L := L) [] (fun b hb => by cases hb) hS.lo.2.2 h1 h2 h3)
    have HUx := hideK hux
    have H8x := hideK h8x
    refine hK.out _ _ hSn ?_
    clear hS hK K hSn hb h1 h2 h3 hux h8x
    intro hS
    try simp only [Act.put, List.setIfInBounds_toArray, List.set_cons_zero, List.set_cons_succ]
    refine wpAnyH_ready (rs := [3, 4, 5]) (by as_aux_lemma => kernel_rfl) (by simp) (AllReadyH.cons (by rw [List.getElem?_toArray]; rfl) (fun K hK => ?_) (AllReadyH.cons (by rw [List.getElem?_toArray]; rfl) (fun K hK => ?_) (AllReadyH.cons (by rw [List.getElem?_toArray]; rfl) (fun K hK => ?_) AllReadyH.nil)))
    · go_simp
      refine (Cy.out _ hS).mono ?_
      rintro e V2 ⟨⟨Bt, huy, h8y, bal, bcl, bak, bck, bd, rfl, h1, h2, h3⟩, hb⟩
      have hSn := hS.keep hb
      have HVy := hideK (tvb_new (L := L) [] (fun b hb => by cases hb) hS.lo.2.2 h1 h2 h3)
      have HUy := hideK huy
      have H8y := hideK h8y
      replace HVx := hideK (HVx.out.keep (fun _ q => q.1) hS.lo.2.2 hb)
      refine hK.out _ _ hSn ?_
      clear hS hK K hSn hb h1 h2 h3 huy h8y
      intro hS
      try simp only [Act.put, List.setIfInBounds_toArray, List.set_cons_zero, List.set_cons_succ]
      refine wpAnyH_ready (rs := [4, 5]) (by as_aux_lemma => kernel_rfl) (by simp) (AllReadyH.cons (by rw [List.getElem?_toArray]; rfl) (fun K hK => ?_) (AllReadyH.cons (by rw [List.getElem?_toArray]; rfl) (fun K hK => ?_) AllReadyH.nil))
      · go_simp
        have hSn := hS.al (.cells #[.int .i64 0, .int .i64 0, .string ⟨#[]⟩, .slice none 0 0, .slice none 0 0] 25)
        have HZx := hideK (BX5.new (L := L) hS.lo.2.2)
        replace HVx := hideK (HVx.out.box (fun _ q => q.1) hS.lo.2.2 (.cells #[.int .i64 0, .int .i64 0, .string ⟨#[]⟩, .slice none 0 0, .slice none 0 0] 25))
        replace HVy := hideK (HVy.out.box (fun _ q => q.1) hS.lo.2.2 (.cells #[.int .i64 0, .int .i64 0, .string ⟨#[]⟩, .slice none 0 0, .slice none 0 0] 25))
        refine hK.out _ _ hSn ?_
        clear hS hK K hSn
        intro hS
        try simp only [Act.put, List.setIfInBounds_toArray, List.set_cons_zero, List.set_cons_succ]
        generalize V2.heap.size = ox at *
        generalize World.alloc V2 (.cells #[.int .i64 0, .int .i64 0, .string ⟨#[]⟩, .slice none 0 0, .slice none 0 0] 25) = V3 at *
        refine take_oneHL 5 (AllReadyH.cons (by rw [List.getElem?_toArray]; rfl) (fun K hK => ?_) AllReadyH.nil) (by as_aux_lemma => kernel_rfl)
        go_simp
        have hSn := hS.al (.cells #[.int .i64 0, .int .i64 0, .string ⟨#[]⟩, .slice none 0 0, .slice none 0 0] 25)
        have HZy := hideK (BX5.new (L := L) hS.lo.2.2)
        have HNE := hideK (show ox ≠ V3.heap.size from by have := HZx.out.lt; omega)
        replace HZx := hideK (HZx.out.al (.cells #[.int .i64 0, .int .i64 0, .string ⟨#[]⟩, .slice none 0 0, .slice none 0 0] 25))
        replace HVx := hideK (HVx.out.box (fun _ q => q.1) hS.lo.2.2 (.cells #[.int .i64 0, .int .i64 0, .string ⟨#[]⟩, .slice none 0 0, .slice none 0 0] 25))
        replace HVy := hideK (HVy.out.box (fun _ q => q.1) hS.lo.2.2 (.cells #[.int .i64 0, .int .i64 0, .string ⟨#[]⟩, .slice none 0 0, .slice none 0 0] 25))
        refine hK.out _ _ hSn ?_
        clear hS hK K hSn
        intro hS
        try simp only [Act.put, List.setIfInBounds_toArray, List.set_cons_zero, List.set_cons_succ]
        generalize V3.heap.size = oy at *
        generalize World.alloc V3 (.cells #[.int .i64 0, .int .i64 0, .string ⟨#[]⟩, .slice none 0 0, .slice none 0 0] 25) = V4 at *
        refine take_oneHL 6 (AllReadyH.cons (by rw [List.getElem?_toArray]; rfl) (fun K hK => ?_) AllReadyH.nil) (by as_aux_lemma => kernel_rfl)
        obtain ⟨_, _, z0, z1, z2, z3, z4, zf⟩ := id HZx.out
        have f0 := zf 0
        have f1 := zf 1
        have f2 := zf 2
        have f3 := zf 3
        have f4 := zf 4
        clear zf
        have hSn := hS.st (b := ox) HZx.out.lo (.int .i64 A.kind) (.int .i64 A.so) (.string A.name) (.slice aal A.labels.length acl) (.slice aak A.kids.length ack)
        have HOX := hideK HZx.out.lo
        have HTA := hideK (show TyAt (st5 V4 ox 0 (.int .i64 A.kind) (.int .i64 A.so) (.string A.name) (.slice aal A.labels.length acl) (.slice aak A.kids.length ack)) ox 0 A aal acl aak ack from HZx.out.ty A aal acl aak ack)
        have HLX := hideK (show ox < (st5 V4 ox 0 (.int .i64 A.kind) (.int .i64 A.so) (.string A.name) (.slice aal A.labels.length acl) (.slice aak A.kids.length ack)).heap.size from by rw [st5_size]; exact HZx.out.lt)
        replace HVx := hideK (HVx.out.st (fun _ q => q.1) (b := ox) (by simp) HZx.out.lo (.int .i64 A.kind) (.int .i64 A.so) (.string A.name) (.slice aal A.labels.length acl) (.slice aak A.kids.length ack))
        replace HVy := hideK (HVy.out.st (fun _ q => q.1) (b := ox) (by simp) HZx.out.lo (.int .i64 A.kind) (.int .i64 A.so) (.string A.name) (.slice aal A.labels.length acl) (.slice aak A.kids.length ack))
        replace HZy := hideK (HZy.out.st (b' := ox) HNE.out.symm (.int .i64 A.kind) (.int .i64 A.so) (.string A.name) (.slice aal A.labels.length acl) (.slice aak A.kids.length ack))
        clear HZx
        go_simp
        refine hK.out _ _ hSn ?_
        clear hS hK K hSn z0 z1 z2 z3 z4 f0 f1 f2 f3 f4
        intro hS
        try simp only [Act.put, List.setIfInBounds_toArray, List.set_cons_zero, List.set_cons_succ]
        change wpAnyH _ _ _ _ _ _ _ _ (st5 V4 ox 0 (.int .i64 A.kind) (.int .i64 A.so) (.string A.name) (.slice aal A.labels.length acl) (.slice aak A.kids.length ack))
        change BMW _ _ _ _ _ _ _ _ _ _ _ _ _ _ _ _ _ _ _ _ _ (st5 V4 ox 0 (.int .i64 A.kind) (.int .i64 A.so) (.string A.name) (.slice aal A.labels.length acl) (.slice aak A.kids.length ack)) at hS
        generalize st5 V4 ox 0 (.int .i64 A.kind) (.int .i64 A.so) (.string A.name) (.slice aal A.labels.length acl) (.slice aak A.kids.length ack) = V5 at *
        refine take_oneHL 7 (AllReadyH.cons (by rw [List.getElem?_toArray]; rfl) (fun K hK => ?_) AllReadyH.nil) (by as_aux_lemma => kernel_rfl)
        obtain ⟨_, _, z0, z1, z2, z3, z4, zf⟩ := id HZy.out
        have f0 := zf 0
        have f1 := zf 1
        have f2 := zf 2
        have f3 := zf 3
        have f4 := zf 4
        clear zf
        have hSn := hS.st (b := oy) HZy.out.lo (.int .i64 Bt.kind) (.int .i64 Bt.so) (.string Bt.name) (.slice bal Bt.labels.length bcl) (.slice bak Bt.kids.length bck)
        have HTB := hideK (show TyAt (st5 V5 oy 0 (.int .i64 Bt.kind) (.int .i64 Bt.so) (.string Bt.name) (.slice bal Bt.labels.length bcl) (.slice bak Bt.kids.length bck)) oy 0 Bt bal bcl bak bck from HZy.out.ty Bt bal bcl bak bck)
        have HLY := hideK (show oy < (st5 V5 oy 0 (.int .i64 Bt.kind) (.int .i64 Bt.so) (.string Bt.name) (.slice bal Bt.labels.length bcl) (.slice bak Bt.kids.length bck)).heap.size from by rw [st5_size]; exact HZy.out.lt)
        replace HVx := hideK (HVx.out.st (fun _ q => q.1) (b := oy) (by simp) HZy.out.lo (.int .i64 Bt.kind) (.int .i64 Bt.so) (.string Bt.name) (.slice bal Bt.labels.length bcl) (.slice bak Bt.kids.length bck))
        replace HVy := hideK (HVy.out.st (fun _ q => q.1) (b := oy) (by simp) HZy.out.lo (.int .i64 Bt.kind) (.int .i64 Bt.so) (.string Bt.name) (.slice bal Bt.labels.length bcl) (.slice bak Bt.kids.length bck))
        replace HTA := hideK (tyAt_stB (b := oy) HNE.out (.int .i64 Bt.kind) (.int .i64 Bt.so) (.string Bt.name) (.slice bal Bt.labels.length bcl) (.slice bak Bt.kids.length bck) HTA.out)
        replace HLX := hideK (show ox < (st5 V5 oy 0 (.int .i64 Bt.kind) (.int .i64 Bt.so) (.string Bt.name) (.slice bal Bt.labels.length bcl) (.slice bak Bt.kids.length bck)).heap.size from by rw [st5_size]; exact HLX.out)
        have HOY := hideK HZy.out.lo
        have HXY := hideK HNE.out
        clear HZy HNE
        go_simp
        refine hK.out _ _ hSn ?_
        clear hS hK K hSn z0 z1 z2 z3 z4 f0 f1 f2 f3 f4
        intro hS
        try simp only [Act.put, List.setIfInBounds_toArray, List.set_cons_zero, List.set_cons_succ]
        change wpAnyH _ _ _ _ _ _ _ _ (st5 V5 oy 0 (.int .i64 Bt.kind) (.int .i64 Bt.so) (.string Bt.name) (.slice bal Bt.labels.length bcl) (.slice bak Bt.kids.length bck))
        change BMW _ _ _ _ _ _ _ _ _ _ _ _ _ _ _ _ _ _ _ _ _ (st5 V5 oy 0 (.int .i64 Bt.kind) (.int .i64 Bt.so) (.string Bt.name) (.slice bal Bt.labels.length bcl) (.slice bak Bt.kids.length bck)) at hS
        generalize st5 V5 oy 0 (.int .i64 Bt.kind) (.int .i64 Bt.so) (.string Bt.name) (.slice bal Bt.labels.length bcl) (.slice bak Bt.kids.length bck) = V6 at *
        refine wpAnyH_done (by as_aux_lemma => kernel_rfl) ?_ _
        go_wp2_with fail
        go_meet
        exact ⟨ox, oy, A, aal, acl, aak, ack, ad, Bt, bal, bcl, bak, bck, bd, rfl, rfl, hS, HUx.out, H8x.out, HUy.out, H8y.out, tbb_of HVx.out HTA.out (by simp), tbb_of HVy.out HTB.out (by simp), HXY.out, HOX.out, HOY.out, HLX.out, HLY.out⟩
      · go_simp
        have hSn := hS.al (.cells #[.int .i64 0, .int .i64 0, .string ⟨#[]⟩, .slice none 0 0, .slice none 0 0] 25)
        have HZy := hideK (BX5.new (L := L) hS.lo.2.2)
        replace HVx := hideK (HVx.out.box (fun _ q => q.1) hS.lo.2.2 (.cells #[.int .i64 0, .int .i64 0, .string ⟨#[]⟩, .slice none 0 0, .slice none 0 0] 25))
        replace HVy := hideK (HVy.out.box (fun _ q => q.1) hS.lo.2.2 (.cells #[.int .i64 0, .int .i64 0, .string ⟨#[]⟩, .slice none 0 0, .slice none 0 0] 25))
        refine hK.out _ _ hSn ?_
        clear hS hK K hSn
        intro hS
        try simp only [Act.put, List.setIfInBounds_toArray, List.set_cons_zero, List.set_cons_succ]
        generalize V2.heap.size = oy at *
        generalize World.alloc V2 (.cells #[.int .i64 0, .int .i64 0, .string ⟨#[]⟩, .slice none 0 0, .slice none 0 0] 25) = V3 at *
        refine take_oneHL 4 (AllReadyH.cons (by rw [List.getElem?_toArray]; rfl) (fun K hK => ?_) AllReadyH.nil) (by as_aux_lemma => kernel_rfl)
        go_simp
        have hSn := hS.al (.cells #[.int .i64 0, .int .i64 0, .string ⟨#[]⟩, .slice none 0 0, .slice none 0 0] 25)
        have HZx := hideK (BX5.new (L := L) hS.lo.2.2)
        have HNE := hideK (show oy ≠ V3.heap.size from by have := HZy.out.lt; omega)
        replace HZy := hideK (HZy.out.al (.cells #[.int .i64 0, .int .i64 0, .string ⟨#[]⟩, .slice none 0 0, .slice none 0 0] 25))
        replace HVx := hideK (HVx.out.box (fun _ q => q.1) hS.lo.2.2 (.cells #[.int .i64 0, .int .i64 0, .string ⟨#[]⟩, .slice none 0 0, .slice none 0 0] 25))
        replace HVy := hideK (HVy.out.box (fun _ q => q.1) hS.lo.2.2 (.cells #[.int .i64 0, .int .i64 0, .string ⟨#[]⟩, .slice none 0 0, .slice none 0 0] 25))
        refine hK.out _ _ hSn ?_
        clear hS hK K hSn
        intro hS
        try simp only [Act.put, List.setIfInBounds_toArray, List.set_cons_zero, List.set_cons_succ]
        generalize V3.heap.size = ox at *
        generalize World.alloc V3 (.cells #[.int .i64 0, .int .i64 0, .string ⟨#[]⟩, .slice none 0 0, .slice none 0 0] 25) = V4 at *
        refine take_oneHL 6 (AllReadyH.cons (by rw [List.getElem?_toArray]; rfl) (fun K hK => ?_) AllReadyH.nil) (by as_aux_lemma => kernel_rfl)
        obtain ⟨_, _, z0, z1, z2, z3, z4, zf⟩ := id HZx.out
        have f0 := zf 0
        have f1 := zf 1
        have f2 := zf 2
        have f3 := zf 3
        have f4 := zf 4
        clear zf
        have hSn := hS.st (b := ox) HZx.out.lo (.int .i64 A.kind) (.int .i64 A.so) (.string A.name) (.slice aal A.labels.length acl) (.slice aak A.kids.length ack)
        have HOX := hideK HZx.out.lo
        have HTA := hideK (show TyAt (st5 V4 ox 0 (.int .i64 A.kind) (.int .i64 A.so) (.string A.name) (.slice aal A.labels.length acl) (.slice aak A.kids.length ack)) ox 0 A aal acl aak ack from HZx.out.ty A aal acl aak ack)
        have HLX := hideK (show ox < (st5 V4 ox 0 (.int .i64 A.kind) (.int .i64 A.so) (.string A.name) (.slice aal A.labels.length acl) (.slice aak A.kids.length ack)).heap.size from by rw [st5_size]; exact HZx.out.lt)
        replace HVx := hideK (HVx.out.st (fun _ q => q.1) (b := ox) (by simp) HZx.out.lo (.int .i64 A.kind) (.int .i64 A.so) (.string A.name) (.slice aal A.labels.length acl) (.slice aak A.kids.length ack))
        replace HVy := hideK (HVy.out.st (fun _ q => q.1) (b := ox) (by simp) HZx.out.lo (.int .i64 A.kind) (.int .i64 A.so) (.string A.name) (.slice aal A.labels.length acl) (.slice aak A.kids.length ack))
        replace HZy := hideK (HZy.out.st (b' := ox) HNE.out (.int .i64 A.kind) (.int .i64 A.so) (.string A.name) (.slice aal A.labels.length acl) (.slice aak A.kids.length ack))
        clear HZx
        go_simp
        refine hK.out _ _ hSn ?_
        clear hS hK K hSn z0 z1 z2 z3 z4 f0 f1 f2 f3 f4
        intro hS
        try simp only [Act.put, List.setIfInBounds_toArray, List.set_cons_zero, List.set_cons_succ]
        change wpAnyH _ _ _ _ _ _ _ _ (st5 V4 ox 0 (.int .i64 A.kind) (.int .i64 A.so) (.string A.name) (.slice aal A.labels.length acl) (.slice aak A.kids.length ack))
        change BMW _ _ _ _ _ _ _ _ _ _ _ _ _ _ _ _ _ _ _ _ _ (st5 V4 ox 0 (.int .i64 A.kind) (.int .i64 A.so) (.string A.name) (.slice aal A.labels.length acl) (.slice aak A.kids.length ack)) at hS
        generalize st5 V4 ox 0 (.int .i64 A.kind) (.int .i64 A.so) (.string A.name) (.slice aal A.labels.length acl) (.slice aak A.kids.length ack) = V5 at *
        refine take_oneHL 7 (AllReadyH.cons (by rw [List.getElem?_toArray]; rfl) (fun K hK => ?_) AllReadyH.nil) (by as_aux_lemma => kernel_rfl)
        obtain ⟨_, _, z0, z1, z2, z3, z4, zf⟩ := id HZy.out
        have f0 := zf 0
        have f1 := zf 1
        have f2 := zf 2
        have f3 := zf 3
        have f4 := zf 4
        clear zf
        have hSn := hS.st (b := oy) HZy.out.lo (.int .i64 Bt.kind) (.int .i64 Bt.so) (.string Bt.name) (.slice bal Bt.labels.length bcl) (.slice bak Bt.kids.length bck)
        have HTB := hideK (show TyAt (st5 V5 oy 0 (.int .i64 Bt.kind) (.int .i64 Bt.so) (.string Bt.name) (.slice bal Bt.labels.length bcl) (.slice bak Bt.kids.length bck)) oy 0 Bt bal bcl bak bck from HZy.out.ty Bt bal bcl bak bck)
        have HLY := hideK (show oy < (st5 V5 oy 0 (.int .i64 Bt.kind) (.int .i64 Bt.so) (.string Bt.name) (.slice bal Bt.labels.length bcl) (.slice bak Bt.kids.length bck)).heap.size from by rw [st5_size]; exact HZy.out.lt)
        replace HVx := hideK (HVx.out.st (fun _ q => q.1) (b := oy) (by simp) HZy.out.lo (.int .i64 Bt.kind) (.int .i64 Bt.so) (.string Bt.name) (.slice bal Bt.labels.length bcl) (.slice bak Bt.kids.length bck))
        replace HVy := hideK (HVy.out.st (fun _ q => q.1) (b := oy) (by simp) HZy.out.lo (.int .i64 Bt.kind) (.int .i64 Bt.so) (.string Bt.name) (.slice bal Bt.labels.length bcl) (.slice bak Bt.kids.length bck))
        replace HTA := hideK (tyAt_stB (b := oy) HNE.out.symm (.int .i64 Bt.kind) (.int .i64 Bt.so) (.string Bt.name) (.slice bal Bt.labels.length bcl) (.slice bak Bt.kids.length bck) HTA.out)
        replace HLX := hideK (show ox < (st5 V5 oy 0 (.int .i64 Bt.kind) (.int .i64 Bt.so) (.string Bt.name) (.slice bal Bt.labels.length bcl) (.slice bak Bt.kids.length bck)).heap.size from by rw [st5_size]; exact HLX.out)
        have HOY := hideK HZy.out.lo
        have HXY := hideK HNE.out.symm
        clear HZy HNE
        go_simp
        refine hK.out _ _ hSn ?_
        clear hS hK K hSn z0 z1 z2 z3 z4 f0 f1 f2 f3 f4
        intro hS
        try simp only [Act.put, List.setIfInBounds_toArray, List.set_cons_zero, List.set_cons_succ]
        change wpAnyH _ _ _ _ _ _ _ _ (st5 V5 oy 0 (.int .i64 Bt.kind) (.int .i64 Bt.so) (.string Bt.name) (.slice bal Bt.labels.length bcl) (.slice bak Bt.kids.length bck))
        change BMW _ _ _ _ _ _ _ _ _ _ _ _ _ _ _ _ _ _ _ _ _ (st5 V5 oy 0 (.int .i64 Bt.kind) (.int .i64 Bt.so) (.string Bt.name) (.slice bal Bt.labels.length bcl) (.slice bak Bt.kids.length bck)) at hS
        generalize st5 V5 oy 0 (.int .i64 Bt.kind) (.int .i64 Bt.so) (.string Bt.name) (.slice bal Bt.labels.length bcl) (.slice bak Bt.kids.length bck) = V6 at *
        refine wpAnyH_done (by as_aux_lemma => kernel_rfl) ?_ _
        go_wp2_with fail
        go_meet
        exact ⟨ox, oy, A, aal, acl, aak, ack, ad, Bt, bal, bcl, bak, bck, bd, rfl, rfl, hS, HUx.out, H8x.out, HUy.out, H8y.out, tbb_of HVx.out HTA.out (by simp), tbb_of HVy.out HTB.out (by simp), HXY.out, HOX.out, HOY.out, HLX.out, HLY.out⟩
    · go_simp
      have hSn := hS.al (.cells #[.int .i64 0, .int .i64 0, .string ⟨#[]⟩, .slice none 0 0, .slice none 0 0] 25)
      have HZx := hideK (BX5.new (L := L) hS.lo.2.2)
      replace HVx := hideK (HVx.out.box (fun _ q => q.1) hS.lo.2.2 (.cells #[.int .i64 0, .int .i64 0, .string ⟨#[]⟩, .slice none 0 0, .slice none 0 0] 25))
      refine hK.out _ _ hSn ?_
      clear hS hK K hSn
      intro hS
      try simp only [Act.put, List.setIfInBounds_toArray, List.set_cons_zero, List.set_cons_succ]
      generalize V1.heap.size = ox at *
      generalize World.alloc V1 (.cells #[.int .i64 0, .int .i64 0, .string ⟨#[]⟩, .slice none 0 0, .slice none 0 0] 25) = V2 at *
      refine wpAnyH_ready (rs := [3, 5]) (by as_aux_lemma => kernel_rfl) (by simp) (AllReadyH.cons (by rw [List.getElem?_toArray]; rfl) (fun K hK => ?_) (AllReadyH.cons (by rw [List.getElem?_toArray]; rfl) (fun K hK => ?_) AllReadyH.nil))
      · go_simp
        refine (Cy.out _ hS).mono ?_
        rintro e V3 ⟨⟨Bt, huy, h8y, bal, bcl, bak, bck, bd, rfl, h1, h2, h3⟩, hb⟩
        have hSn := hS.keep hb
        have HVy := hideK (tvb_new (L := L) [ox] (fun b hb => by simp only [List.mem_cons, List.not_mem_nil, or_false] at hb; subst hb; exact HZx.out.lt) hS.lo.2.2 h1 h2 h3)
        have HUy := hideK huy
        have H8y := hideK h8y
        replace HZx := hideK (HZx.out.keep hb)
        replace HVx := hideK (HVx.out.keep (fun _ q => q.1) hS.lo.2.2 hb)
        refine hK.out _ _ hSn ?_
        clear hS hK K hSn hb h1 h2 h3 huy h8y
        intro hS
        try simp only [Act.put, List.setIfInBounds_toArray, List.set_cons_zero, List.set_cons_succ]
        refine take_oneHL 5 (AllReadyH.cons (by rw [List.getElem?_toArray]; rfl) (fun K hK => ?_) AllReadyH.nil) (by as_aux_lemma => kernel_rfl)
        go_simp
        have hSn := hS.al (.cells #[.int .i64 0, .int .i64 0, .string ⟨#[]⟩, .slice none 0 0, .slice none 0 0] 25)
        have HZy := hideK (BX5.new (L := L) hS.lo.2.2)
        have HNE := hideK (show ox ≠ V3.heap.size from by have := HZx.out.lt; omega)
        replace HZx := hideK (HZx.out.al (.cells #[.int .i64 0, .int .i64 0, .string ⟨#[]⟩, .slice none 0 0, .slice none 0 0] 25))
        replace HVx := hideK (HVx.out.box (fun _ q => q.1) hS.lo.2.2 (.cells #[.int .i64 0, .int .i64 0, .string ⟨#[]⟩, .slice none 0 0, .slice none 0 0] 25))
        replace HVy := hideK (HVy.out.box (fun _ q => q.1) hS.lo.2.2 (.cells #[.int .i64 0, .int .i64 0, .string ⟨#[]⟩, .slice none 0 0, .slice none 0 0] 25))
        refine hK.out _ _ hSn ?_
        clear hS hK K hSn
        intro hS
        try simp only [Act.put, List.setIfInBounds_toArray, List.set_cons_zero, List.set_cons_succ]
        generalize V3.heap.size = oy at *
        generalize World.alloc V3 (.cells #[.int .i64 0, .int .i64 0, .string ⟨#[]⟩, .slice none 0 0, .slice none 0 0] 25) = V4 at *
        refine take_oneHL 6 (AllReadyH.cons (by rw [List.getElem?_toArray]; rfl) (fun K hK => ?_) AllReadyH.nil) (by as_aux_lemma => kernel_rfl)
        obtain ⟨_, _, z0, z1, z2, z3, z4, zf⟩ := id HZx.out
        have f0 := zf 0
        have f1 := zf 1
        have f2 := zf 2
        have f3 := zf 3
        have f4 := zf 4
        clear zf
        have hSn := hS.st (b := ox) HZx.out.lo (.int .i64 A.kind) (.int .i64 A.so) (.string A.name) (.slice aal A.labels.length acl) (.slice aak A.kids.length ack)
        have HOX := hideK HZx.out.lo
        have HTA := hideK (show TyAt (st5 V4 ox 0 (.int .i64 A.kind) (.int .i64 A.so) (.string A.name) (.slice aal A.labels.length acl) (.slice aak A.kids.length ack)) ox 0 A aal acl aak ack from HZx.out.ty A aal acl aak ack)
        have HLX := hideK (show ox < (st5 V4 ox 0 (.int .i64 A.kind) (.int .i64 A.so) (.string A.name) (.slice aal A.labels.length acl) (.slice aak A.kids.length ack)).heap.size from by rw [st5_size]; exact HZx.out.lt)
        replace HVx := hideK (HVx.out.st (fun _ q => q.1) (b := ox) (by simp) HZx.out.lo (.int .i64 A.kind) (.int .i64 A.so) (.string A.name) (.slice aal A.labels.length acl) (.slice aak A.kids.length ack))
        replace HVy := hideK (HVy.out.st (fun _ q => q.1) (b := ox) (by simp) HZx.out.lo (.int .i64 A.kind) (.int .i64 A.so) (.string A.name) (.slice aal A.labels.length acl) (.slice aak A.kids.length ack))
        replace HZy := hideK (HZy.out.st (b' := ox) HNE.out.symm (.int .i64 A.kind) (.int .i64 A.so) (.string A.name) (.slice aal A.labels.length acl) (.slice aak A.kids.length ack))
        clear HZx
        go_simp
        refine hK.out _ _ hSn ?_
        clear hS hK K hSn z0 z1 z2 z3 z4 f0 f1 f2 f3 f4
        intro hS
        try simp only [Act.put, List.setIfInBounds_toArray, List.set_cons_zero, List.set_cons_succ]
        change wpAnyH _ _ _ _ _ _ _ _ (st5 V4 ox 0 (.int .i64 A.kind) (.int .i64 A.so) (.string A.name) (.slice aal A.labels.length acl) (.slice aak A.kids.length ack))
        change BMW _ _ _ _ _ _ _ _ _ _ _ _ _ _ _ _ _ _ _ _ _ (st5 V4 ox 0 (.int .i64 A.kind) (.int .i64 A.so) (.string A.name) (.slice aal A.labels.length acl) (.slice aak A.kids.length ack)) at hS
        generalize st5 V4 ox 0 (.int .i64 A.kind) (.int .i64 A.so) (.string A.name) (.slice aal A.labels.length acl) (.slice aak A.kids.length ack) = V5 at *
        refine take_oneHL 7 (AllReadyH.cons (by rw [List.getElem?_toArray]; rfl) (fun K hK => ?_) AllReadyH.nil) (by as_aux_lemma => kernel_rfl)
        obtain ⟨_, _, z0, z1, z2, z3, z4, zf⟩ := id HZy.out
        have f0 := zf 0
        have f1 := zf 1
        have f2 := zf 2
        have f3 := zf 3
        have f4 := zf 4
        clear zf
        have hSn := hS.st (b := oy) HZy.out.lo (.int .i64 Bt.kind) (.int .i64 Bt.so) (.string Bt.name) (.slice bal Bt.labels.length bcl) (.slice bak Bt.kids.length bck)
        have HTB := hideK (show TyAt (st5 V5 oy 0 (.int .i64 Bt.kind) (.int .i64 Bt.so) (.string Bt.name) (.slice bal Bt.labels.length bcl) (.slice bak Bt.kids.length bck)) oy 0 Bt bal bcl bak bck from HZy.out.ty Bt bal bcl bak bck)
        have HLY := hideK (show oy < (st5 V5 oy 0 (.int .i64 Bt.kind) (.int .i64 Bt.so) (.string Bt.name) (.slice bal Bt.labels.length bcl) (.slice bak Bt.kids.length bck)).heap.size from by rw [st5_size]; exact HZy.out.lt)
        replace HVx := hideK (HVx.out.st (fun _ q => q.1) (b := oy) (by simp) HZy.out.lo (.int .i64 Bt.kind) (.int .i64 Bt.so) (.string Bt.name) (.slice bal Bt.labels.length bcl) (.slice bak Bt.kids.length bck))
        replace HVy := hideK (HVy.out.st (fun _ q => q.1) (b := oy) (by simp) HZy.out.lo (.int .i64 Bt.kind) (.int .i64 Bt.so) (.string Bt.name) (.slice bal Bt.labels.length bcl) (.slice bak Bt.kids.length bck))
        replace HTA := hideK (tyAt_stB (b := oy) HNE.out (.int .i64 Bt.kind) (.int .i64 Bt.so) (.string Bt.name) (.slice bal Bt.labels.length bcl) (.slice bak Bt.kids.length bck) HTA.out)
        replace HLX := hideK (show ox < (st5 V5 oy 0 (.int .i64 Bt.kind) (.int .i64 Bt.so) (.string Bt.name) (.slice bal Bt.labels.length bcl) (.slice bak Bt.kids.length bck)).heap.size from by rw [st5_size]; exact HLX.out)
        have HOY := hideK HZy.out.lo
        have HXY := hideK HNE.out
        clear HZy HNE
        go_simp
        refine hK.out _ _ hSn ?_
        clear hS hK K hSn z0 z1 z2 z3 z4 f0 f1 f2 f3 f4
        intro hS
        try simp only [Act.put, List.setIfInBounds_toArray, List.set_cons_zero, List.set_cons_succ]
        change wpAnyH _ _ _ _ _ _ _ _ (st5 V5 oy 0 (.int .i64 Bt.kind) (.int .i64 Bt.so) (.string Bt.name) (.slice bal Bt.labels.length bcl) (.slice bak Bt.kids.length bck))
        change BMW _ _ _ _ _ _ _ _ _ _ _ _ _ _ _ _ _ _ _ _ _ (st5 V5 oy 0 (.int .i64 Bt.kind) (.int .i64 Bt.so) (.string Bt.name) (.slice bal Bt.labels.length bcl) (.slice bak Bt.kids.length bck)) at hS
        generalize st5 V5 oy 0 (.int .i64 Bt.kind) (.int .i64 Bt.so) (.string Bt.name) (.slice bal Bt.labels.length bcl) (.slice bak Bt.kids.length bck) = V6 at *
        refine wpAnyH_done (by as_aux_lemma => kernel_rfl) ?_ _
        go_wp2_with fail
        go_meet
        exact ⟨ox, oy, A, aal, acl, aak, ack, ad, Bt, bal, bcl, bak, bck, bd, rfl, rfl, hS, HUx.out, H8x.out, HUy.out, H8y.out, tbb_of HVx.out HTA.out (by simp), tbb_of HVy.out HTB.out (by simp), HXY.out, HOX.out, HOY.out, HLX.out, HLY.out⟩
      · go_simp
        have hSn := hS.al (.cells #[.int .i64 0, .int .i64 0, .string ⟨#[]⟩, .slice none 0 0, .slice none 0 0] 25)
        have HZy := hideK (BX5.new (L := L) hS.lo.2.2)
        have HNE := hideK (show ox ≠ V2.heap.size from by have := HZx.out.lt; omega)
        replace HZx := hideK (HZx.out.al (.cells #[.int .i64 0, .int .i64 0, .string ⟨#[]⟩, .slice none 0 0, .slice none 0 0] 25))
        replace HVx := hideK (HVx.out.box (fun _ q => q.1) hS.lo.2.2 (.cells #[.int .i64 0, .int .i64 0, .string ⟨#[]⟩, .slice none 0 0, .slice none 0 0] 25))
        refine hK.out _ _ hSn ?_
        clear hS hK K hSn
        intro hS
        try simp only [Act.put, List.setIfInBounds_toArray, List.set_cons_zero, List.set_cons_succ]
        generalize V2.heap.size = oy at *
        generalize World.alloc V2 (.cells #[.int .i64 0, .int .i64 0, .string ⟨#[]⟩, .slice none 0 0, .slice none 0 0] 25) = V3 at *
        refine take_oneHL 3 (AllReadyH.cons (by rw [List.getElem?_toArray]; rfl) (fun K hK => ?_) AllReadyH.nil) (by as_aux_lemma => kernel_rfl)
        go_simp
        refine (Cy.out _ hS).mono ?_
        rintro e V4 ⟨⟨Bt, huy, h8y, bal, bcl, bak, bck, bd, rfl, h1, h2, h3⟩, hb⟩
        have hSn := hS.keep hb
        have HVy := hideK (tvb_new (L := L) [oy, ox] (fun b hb => by simp only [List.mem_cons, List.not_mem_nil, or_false] at hb; rcases hb with rfl | rfl; exact HZy.out.lt; exact HZx.out.lt) hS.lo.2.2 h1 h2 h3)
        have HUy := hideK huy
        have H8y := hideK h8y
        replace HZx := hideK (HZx.out.keep hb)
        replace HZy := hideK (HZy.out.keep hb)
        replace HVx := hideK (HVx.out.keep (fun _ q => q.1) hS.lo.2.2 hb)
        refine hK.out _ _ hSn ?_
        clear hS hK K hSn hb h1 h2 h3 huy h8y
        intro hS
        try simp only [Act.put, List.setIfInBounds_toArray, List.set_cons_zero, List.set_cons_succ]
        refine take_oneHL 6 (AllReadyH.cons (by rw [List.getElem?_toArray]; rfl) (fun K hK => ?_) AllReadyH.nil) (by as_aux_lemma => kernel_rfl)
        obtain ⟨_, _, z0, z1, z2, z3, z4, zf⟩ := id HZx.out
        have f0 := zf 0
        have f1 := zf 1
        have f2 := zf 2
        have f3 := zf 3
        have f4 := zf 4
        clear zf
        have hSn := hS.st (b := ox) HZx.out.lo (.int .i64 A.kind) (.int .i64 A.so) (.string A.name) (.slice aal A.labels.length acl) (.slice aak A.kids.length ack)
        have HOX := hideK HZx.out.lo
        have HTA := hideK (show TyAt (st5 V4 ox 0 (.int .i64 A.kind) (.int .i64 A.so) (.string A.name) (.slice aal A.labels.length acl) (.slice aak A.kids.length ack)) ox 0 A aal acl aak ack from HZx.out.ty A aal acl aak ack)
        have HLX := hideK (show ox < (st5 V4 ox 0 (.int .i64 A.kind) (.int .i64 A.so) (.string A.name) (.slice aal A.labels.length acl) (.slice aak A.kids.length ack)).heap.size from by rw [st5_size]; exact HZx.out.lt)
        replace HVx := hideK (HVx.out.st (fun _ q => q.1) (b := ox) (by simp) HZx.out.lo (.int .i64 A.kind) (.int .i64 A.so) (.string A.name) (.slice aal A.labels.length acl) (.slice aak A.kids.length ack))
        replace HVy := hideK (HVy.out.st (fun _ q => q.1) (b := ox) (by simp) HZx.out.lo (.int .i64 A.kind) (.int .i64 A.so) (.string A.name) (.slice aal A.labels.length acl) (.slice aak A.kids.length ack))
        replace HZy := hideK (HZy.out.st (b' := ox) HNE.out.symm (.int .i64 A.kind) (.int .i64 A.so) (.string A.name) (.slice aal A.labels.length acl) (.slice aak A.kids.length ack))
        clear HZx
        go_simp
        refine hK.out _ _ hSn ?_
        clear hS hK K hSn z0 z1 z2 z3 z4 f0 f1 f2 f3 f4
        intro hS
        try simp only [Act.put, List.setIfInBounds_toArray, List.set_cons_zero, List.set_cons_succ]
        change wpAnyH _ _ _ _ _ _ _ _ (st5 V4 ox 0 (.int .i64 A.kind) (.int .i64 A.so) (.string A.name) (.slice aal A.labels.length acl) (.slice aak A.kids.length ack))
        change BMW _ _ _ _ _ _ _ _ _ _ _ _ _ _ _ _ _ _ _ _ _ (st5 V4 ox 0 (.int .i64 A.kind) (.int .i64 A.so) (.string A.name) (.slice aal A.labels.length acl) (.slice aak A.kids.length ack)) at hS
        generalize st5 V4 ox 0 (.int .i64 A.kind) (.int .i64 A.so) (.string A.name) (.slice aal A.labels.length acl) (.slice aak A.kids.length ack) = V5 at *
        refine take_oneHL 7 (AllReadyH.cons (by rw [List.getElem?_toArray]; rfl) (fun K hK => ?_) AllReadyH.nil) (by as_aux_lemma => kernel_rfl)
        obtain ⟨_, _, z0, z1, z2, z3, z4, zf⟩ := id HZy.out
        have f0 := zf 0
        have f1 := zf 1
        have f2 := zf 2
        have f3 := zf 3
        have f4 := zf 4
        clear zf
        have hSn := hS.st (b := oy) HZy.out.lo (.int .i64 Bt.kind) (.int .i64 Bt.so) (.string Bt.name) (.slice bal Bt.labels.length bcl) (.slice bak Bt.kids.length bck)
        have HTB := hideK (show TyAt (st5 V5 oy 0 (.int .i64 Bt.kind) (.int .i64 Bt.so) (.string Bt.name) (.slice bal Bt.labels.length bcl) (.slice bak Bt.kids.length bck)) oy 0 Bt bal bcl bak bck from HZy.out.ty Bt bal bcl bak bck)
        have HLY := hideK (show oy < (st5 V5 oy 0 (.int .i64 Bt.kind) (.int .i64 Bt.so) (.string Bt.name) (.slice bal Bt.labels.length bcl) (.slice bak Bt.kids.length bck)).heap.size from by rw [st5_size]; exact HZy.out.lt)
        replace HVx := hideK (HVx.out.st (fun _ q => q.1) (b := oy) (by simp) HZy.out.lo (.int .i64 Bt.kind) (.int .i64 Bt.so) (.string Bt.name) (.slice bal Bt.labels.length bcl) (.slice bak Bt.kids.length bck))
        replace HVy := hideK (HVy.out.st (fun _ q => q.1) (b := oy) (by simp) HZy.out.lo (.int .i64 Bt.kind) (.int .i64 Bt.so) (.string Bt.name) (.slice bal Bt.labels.length bcl) (.slice bak Bt.kids.length bck))
        replace HTA := hideK (tyAt_stB (b := oy) HNE.out (.int .i64 Bt.kind) (.int .i64 Bt.so) (.string Bt.name) (.slice bal Bt.labels.length bcl) (.slice bak Bt.kids.length bck) HTA.out)
        replace HLX := hideK (show ox < (st5 V5 oy 0 (.int .i64 Bt.kind) (.int .i64 Bt.so) (.string Bt.name) (.slice bal Bt.labels.length bcl) (.slice bak Bt.kids.length bck)).heap.size from by rw [st5_size]; exact HLX.out)
        have HOY := hideK HZy.out.lo
        have HXY := hideK HNE.out
        clear HZy HNE
        go_simp
        refine hK.out _ _ hSn ?_
        clear hS hK K hSn z0 z1 z2 z3 z4 f0 f1 f2 f3 f4
        intro hS
        try simp only [Act.put, List.setIfInBounds_toArray, List.set_cons_zero, List.set_cons_succ]
        change wpAnyH _ _ _ _ _ _ _ _ (st5 V5 oy 0 (.int .i64 Bt.kind) (.int .i64 Bt.so) (.string Bt.name) (.slice bal Bt.labels.length bcl) (.slice bak Bt.kids.length bck))
        change BMW _ _ _ _ _ _ _ _ _ _ _ _ _ _ _ _ _ _ _ _ _ (st5 V5 oy 0 (.int .i64 Bt.kind) (.int .i64 Bt.so) (.string Bt.name) (.slice bal Bt.labels.length bcl) (.slice bak Bt.kids.length bck)) at hS
        generalize st5 V5 oy 0 (.int .i64 Bt.kind) (.int .i64 Bt.so) (.string Bt.name) (.slice bal Bt.labels.length bcl) (.slice bak Bt.kids.length bck) = V6 at *
        refine wpAnyH_done (by as_aux_lemma => kernel_rfl) ?_ _
        go_wp2_with fail
        go_meet
        exact ⟨ox, oy, A, aal, acl, aak, ack, ad, Bt, bal, bcl, bak, bck, bd, rfl, rfl, hS, HUx.out, H8x.out, HUy.out, H8y.out, tbb_of HVx.out HTA.out (by simp), tbb_of HVy.out HTB.out (by simp), HXY.out, HOX.out, HOY.out, HLX.out, HLY.out⟩
    · go_simp
      have hSn := hS.al (.cells #[.int .i64 0, .int .i64 0, .string ⟨#[]⟩, .slice none 0 0, .slice none 0 0] 25)
      have HZy := hideK (BX5.new (L := L) hS.lo.2.2)
      replace HVx := hideK (HVx.out.box (fun _ q => q.1) hS.lo.2.2 (.cells #[.int .i64 0, .int .i64 0, .string ⟨#[]⟩, .slice none 0 0, .slice none 0 0] 25))
      refine hK.out _ _ hSn ?_
      clear hS hK K hSn
      intro hS
      try simp only [Act.put, List.setIfInBounds_toArray, List.set_cons_zero, List.set_cons_succ]
      generalize V1.heap.size = oy at *
      generalize World.alloc V1 (.cells #[.int .i64 0, .int .i64 0, .string ⟨#[]⟩, .slice none 0 0, .slice none 0 0] 25) = V2 at *
      refine wpAnyH_ready (rs := [3, 4]) (by as_aux_lemma => kernel_rfl) (by simp) (AllReadyH.cons (by rw [List.getElem?_toArray]; rfl) (fun K hK => ?_) (AllReadyH.cons (by rw [List.getElem?_toArray]; rfl) (fun K hK => ?_) AllReadyH.nil))
      · go_simp
        refine (Cy.out _ hS).mono ?_
        rintro e V3 ⟨⟨Bt, huy, h8y, bal, bcl, bak, bck, bd, rfl, h1, h2, h3⟩, hb⟩
        have hSn := hS.keep hb
        have HVy := hideK (tvb_new (L := L) [oy] (fun b hb => by simp only [List.mem_cons, List.not_mem_nil, or_false] at hb; subst hb; exact HZy.out.lt) hS.lo.2.2 h1 h2 h3)
        have HUy := hideK huy
        have H8y := hideK h8y
        replace HZy := hideK (HZy.out.keep hb)
        replace HVx := hideK (HVx.out.keep (fun _ q => q.1) hS.lo.2.2 hb)
        refine hK.out _ _ hSn ?_
        clear hS hK K hSn hb h1 h2 h3 huy h8y
        intro hS
        try simp only [Act.put, List.setIfInBounds_toArray, List.set_cons_zero, List.set_cons_succ]
        refine take_oneHL 4 (AllReadyH.cons (by rw [List.getElem?_toArray]; rfl) (fun K hK => ?_) AllReadyH.nil) (by as_aux_lemma => kernel_rfl)
        go_simp
        have hSn := hS.al (.cells #[.int .i64 0, .int .i64 0, .string ⟨#[]⟩, .slice none 0 0, .slice none 0 0] 25)
        have HZx := hideK (BX5.new (L := L) hS.lo.2.2)
        have HNE := hideK (show oy ≠ V3.heap.size from by have := HZy.out.lt; omega)
        replace HZy := hideK (HZy.out.al (.cells #[.int .i64 0, .int .i64 0, .string ⟨#[]⟩, .slice none 0 0, .slice none 0 0] 25))
        replace HVx := hideK (HVx.out.box (fun _ q => q.1) hS.lo.2.2 (.cells #[.int .i64 0, .int .i64 0, .string ⟨#[]⟩, .slice none 0 0, .slice none 0 0] 25))
        replace HVy := hideK (HVy.out.box (fun _ q => q.1) hS.lo.2.2 (.cells #[.int .i64 0, .int .i64 0, .string ⟨#[]⟩, .slice none 0 0, .slice none 0 0] 25))
        refine hK.out _ _ hSn ?_
        clear hS hK K hSn
        intro hS
        try simp only [Act.put, List.setIfInBounds_toArray, List.set_cons_zero, List.set_cons_succ]
        generalize V3.heap.size = ox at *
        generalize World.alloc V3 (.cells #[.int .i64 0, .int .i64 0, .string ⟨#[]⟩, .slice none 0 0, .slice none 0 0] 25) = V4 at *
        refine take_oneHL 6 (AllReadyH.cons (by rw [List.getElem?_toArray]; rfl) (fun K hK => ?_) AllReadyH.nil) (by as_aux_lemma => kernel_rfl)
        obtain ⟨_, _, z0, z1, z2, z3, z4, zf⟩ := id HZx.out
        have f0 := zf 0
        have f1 := zf 1
        have f2 := zf 2
        have f3 := zf 3
        have f4 := zf 4
        clear zf
        have hSn := hS.st (b := ox) HZx.out.lo (.int .i64 A.kind) (.int .i64 A.so) (.string A.name) (.slice aal A.labels.length acl) (.slice aak A.kids.length ack)
        have HOX := hideK HZx.out.lo
        have HTA := hideK (show TyAt (st5 V4 ox 0 (.int .i64 A.kind) (.int .i64 A.so) (.string A.name) (.slice aal A.labels.length acl) (.slice aak A.kids.length ack)) ox 0 A aal acl aak ack from HZx.out.ty A aal acl aak ack)
        have HLX := hideK (show ox < (st5 V4 ox 0 (.int .i64 A.kind) (.int .i64 A.so) (.string A.name) (.slice aal A.labels.length acl) (.slice aak A.kids.length ack)).heap.size from by rw [st5_size]; exact HZx.out.lt)
        replace HVx := hideK (HVx.out.st (fun _ q => q.1) (b := ox) (by simp) HZx.out.lo (.int .i64 A.kind) (.int .i64 A.so) (.string A.name) (.slice aal A.labels.length acl) (.slice aak A.kids.length ack))
        replace HVy := hideK (HVy.out.st (fun _ q => q.1) (b := ox) (by simp) HZx.out.lo (.int .i64 A.kind) (.int .i64 A.so) (.string A.name) (.slice aal A.labels.length acl) (.slice aak A.kids.length ack))
        replace HZy := hideK (HZy.out.st (b' := ox) HNE.out (.int .i64 A.kind) (.int .i64 A.so) (.string A.name) (.slice aal A.labels.length acl) (.slice aak A.kids.length ack))
        clear HZx
        go_simp
        refine hK.out _ _ hSn ?_
        clear hS hK K hSn z0 z1 z2 z3 z4 f0 f1 f2 f3 f4
        intro hS
        try simp only [Act.put, List.setIfInBounds_toArray, List.set_cons_zero, List.set_cons_succ]
        change wpAnyH _ _ _ _ _ _ _ _ (st5 V4 ox 0 (.int .i64 A.kind) (.int .i64 A.so) (.string A.name) (.slice aal A.labels.length acl) (.slice aak A.kids.length ack))
        change BMW _ _ _ _ _ _ _ _ _ _ _ _ _ _ _ _ _ _ _ _ _ (st5 V4 ox 0 (.int .i64 A.kind) (.int .i64 A.so) (.string A.name) (.slice aal A.labels.length acl) (.slice aak A.kids.length ack)) at hS
        generalize st5 V4 ox 0 (.int .i64 A.kind) (.int .i64 A.so) (.string A.name) (.slice aal A.labels.length acl) (.slice aak A.kids.length ack) = V5 at *
        refine take_oneHL 7 (AllReadyH.cons (by rw [List.getElem?_toArray]; rfl) (fun K hK => ?_) AllReadyH.nil) (by as_aux_lemma => kernel_rfl)
        obtain ⟨_, _, z0, z1, z2, z3, z4, zf⟩ := id HZy.out
        have f0 := zf 0
        have f1 := zf 1
        have f2 := zf 2
        have f3 := zf 3
        have f4 := zf 4
        clear zf
        have hSn := hS.st (b := oy) HZy.out.lo (.int .i64 Bt.kind) (.int .i64 Bt.so) (.string Bt.name) (.slice bal Bt.labels.length bcl) (.slice bak Bt.kids.length bck)
        have HTB := hideK (show TyAt (st5 V5 oy 0 (.int .i64 Bt.kind) (.int .i64 Bt.so) (.string Bt.name) (.slice bal Bt.labels.length bcl) (.slice bak Bt.kids.length bck)) oy 0 Bt bal bcl bak bck from HZy.out.ty Bt bal bcl bak bck)
        have HLY := hideK (show oy < (st5 V5 oy 0 (.int .i64 Bt.kind) (.int .i64 Bt.so) (.string Bt.name) (.slice bal Bt.labels.length bcl) (.slice bak Bt.kids.length bck)).heap.size from by rw [st5_size]; exact HZy.out.lt)
        replace HVx := hideK (HVx.out.st (fun _ q => q.1) (b := oy) (by simp) HZy.out.lo (.int .i64 Bt.kind) (.int .i64 Bt.so) (.string Bt.name) (.slice bal Bt.labels.length bcl) (.slice bak Bt.kids.length bck))
        replace HVy := hideK (HVy.out.st (fun _ q => q.1) (b := oy) (by simp) HZy.out.lo (.int .i64 Bt.kind) (.int .i64 Bt.so) (.string Bt.name) (.slice bal Bt.labels.length bcl) (.slice bak Bt.kids.length bck))
        replace HTA := hideK (tyAt_stB (b := oy) HNE.out.symm (.int .i64 Bt.kind) (.int .i64 Bt.so) (.string Bt.name) (.slice bal Bt.labels.length bcl) (.slice bak Bt.kids.length bck) HTA.out)
        replace HLX := hideK (show ox < (st5 V5 oy 0 (.int .i64 Bt.kind) (.int .i64 Bt.so) (.string Bt.name) (.slice bal Bt.labels.length bcl) (.slice bak Bt.kids.length bck)).heap.size from by rw [st5_size]; exact HLX.out)
        have HOY := hideK HZy.out.lo
        have HXY := hideK HNE.out.symm
        clear HZy HNE
        go_simp
        refine hK.out _ _ hSn ?_
        clear hS hK K hSn z0 z1 z2 z3 z4 f0 f1 f2 f3 f4
        intro hS
        try simp only [Act.put, List.setIfInBounds_toArray, List.set_cons_zero, List.set_cons_succ]
        change wpAnyH _ _ _ _ _ _ _ _ (st5 V5 oy 0 (.int .i64 Bt.kind) (.int .i64 Bt.so) (.string Bt.name) (.slice bal Bt.labels.length bcl) (.slice bak Bt.kids.length bck))
        change BMW _ _ _ _ _ _ _ _ _ _ _ _ _ _ _ _ _ _ _ _ _ (st5 V5 oy 0 (.int .i64 Bt.kind) (.int .i64 Bt.so) (.string Bt.name) (.slice bal Bt.labels.length bcl) (.slice bak Bt.kids.length bck)) at hS
        generalize st5 V5 oy 0 (.int .i64 Bt.kind) (.int .i64 Bt.so) (.string Bt.name) (.slice bal Bt.labels.length bcl) (.slice bak Bt.kids.length bck) = V6 at *
        refine wpAnyH_done (by as_aux_lemma => kernel_rfl) ?_ _
        go_wp2_with fail
        go_meet
        exact ⟨ox, oy, A, aal, acl, aak, ack, ad, Bt, bal, bcl, bak, bck, bd, rfl, rfl, hS, HUx.out, H8x.out, HUy.out, H8y.out, tbb_of HVx.out HTA.out (by simp), tbb_of HVy.out HTB.out (by simp), HXY.out, HOX.out, HOY.out, HLX.out, HLY.out⟩
      · go_simp
        have hSn := hS.al (.cells #[.int .i64 0, .int .i64 0, .string ⟨#[]⟩, .slice none 0 0, .slice none 0 0] 25)
        have HZx := hideK (BX5.new (L := L) hS.lo.2.2)
        have HNE := hideK (show oy ≠ V2.heap.size from by have := HZy.out.lt; omega)
        replace HZy := hideK (HZy.out.al (.cells #[.int .i64 0, .int .i64 0, .string ⟨#[]⟩, .slice none 0 0, .slice none 0 0] 25))
        replace HVx := hideK (HVx.out.box (fun _ q => q.1) hS.lo.2.2 (.cells #[.int .i64 0, .int .i64 0, .string ⟨#[]⟩, .slice none 0 0, .slice none 0 0] 25))
        refine hK.out _ _ hSn ?_
        clear hS hK K hSn
        intro hS
        try simp only [Act.put, List.setIfInBounds_toArray, List.set_cons_zero, List.set_cons_succ]
        generalize V2.heap.size = ox at *
        generalize World.alloc V2 (.cells #[.int .i64 0, .int .i64 0, .string ⟨#[]⟩, .slice none 0 0, .slice none 0 0] 25) = V3 at *
        refine take_oneHL 3 (AllReadyH.cons (by rw [List.getElem?_toArray]; rfl) (fun K hK => ?_) AllReadyH.nil) (by as_aux_lemma => kernel_rfl)
        go_simp
        refine (Cy.out _ hS).mono ?_
        rintro e V4 ⟨⟨Bt, huy, h8y, bal, bcl, bak, bck, bd, rfl, h1, h2, h3⟩, hb⟩
        have hSn := hS.keep hb
        have HVy := hideK (tvb_new (L := L) [ox, oy] (fun b hb => by simp only [List.mem_cons, List.not_mem_nil, or_false] at hb; rcases hb with rfl | rfl; exact HZx.out.lt; exact HZy.out.lt) hS.lo.2.2 h1 h2 h3)
        have HUy := hideK huy
        have H8y := hideK h8y
        replace HZy := hideK (HZy.out.keep hb)
        replace HZx := hideK (HZx.out.keep hb)
        replace HVx := hideK (HVx.out.keep (fun _ q => q.1) hS.lo.2.2 hb)
        refine hK.out _ _ hSn ?_
        clear hS hK K hSn hb h1 h2 h3 huy h8y
        intro hS
        try simp only [Act.put, List.setIfInBounds_toArray, List.set_cons_zero, List.set_cons_succ]
        refine take_oneHL 6 (AllReadyH.cons (by rw [List.getElem?_toArray]; rfl) (fun K hK => ?_) AllReadyH.nil) (by as_aux_lemma => kernel_rfl)
        obtain ⟨_, _, z0, z1, z2, z3, z4, zf⟩ := id HZx.out
        have f0 := zf 0
        have f1 := zf 1
        have f2 := zf 2
        have f3 := zf 3
        have f4 := zf 4
        clear zf
        have hSn := hS.st (b := ox) HZx.out.lo (.int .i64 A.kind) (.int .i64 A.so) (.string A.name) (.slice aal A.labels.length acl) (.slice aak A.kids.length ack)
        have HOX := hideK HZx.out.lo
        have HTA := hideK (show TyAt (st5 V4 ox 0 (.int .i64 A.kind) (.int .i64 A.so) (.string A.name) (.slice aal A.labels.length acl) (.slice aak A.kids.length ack)) ox 0 A aal acl aak ack from HZx.out.ty A aal acl aak ack)
        have HLX := hideK (show ox < (st5 V4 ox 0 (.int .i64 A.kind) (.int .i64 A.so) (.string A.name) (.slice aal A.labels.length acl) (.slice aak A.kids.length ack)).heap.size from by rw [st5_size]; exact HZx.out.lt)
        replace HVx := hideK (HVx.out.st (fun _ q => q.1) (b := ox) (by simp) HZx.out.lo (.int .i64 A.kind) (.int .i64 A.so) (.string A.name) (.slice aal A.labels.length acl) (.slice aak A.kids.length ack))
        replace HVy := hideK (HVy.out.st (fun _ q => q.1) (b := ox) (by simp) HZx.out.lo (.int .i64 A.kind) (.int .i64 A.so) (.string A.name) (.slice aal A.labels.length acl) (.slice aak A.kids.length ack))
        replace HZy := hideK (HZy.out.st (b' := ox) HNE.out (.int .i64 A.kind) (.int .i64 A.so) (.string A.name) (.slice aal A.labels.length acl) (.slice aak A.kids.length ack))
        clear HZx
        go_simp
        refine hK.out _ _ hSn ?_
        clear hS hK K hSn z0 z1 z2 z3 z4 f0 f1 f2 f3 f4
        intro hS
        try simp only [Act.put, List.setIfInBounds_toArray, List.set_cons_zero, List.set_cons_succ]
        change wpAnyH _ _ _ _ _ _ _ _ (st5 V4 ox 0 (.int .i64 A.kind) (.int .i64 A.so) (.string A.name) (.slice aal A.labels.length acl) (.slice aak A.kids.length ack))
        change BMW _ _ _ _ _ _ _ _ _ _ _ _ _ _ _ _ _ _ _ _ _ (st5 V4 ox 0 (.int .i64 A.kind) (.int .i64 A.so) (.string A.name) (.slice aal A.labels.length acl) (.slice aak A.kids.length ack)) at hS
        generalize st5 V4 ox 0 (.int .i64 A.kind) (.int .i64 A.so) (.string A.name) (.slice aal A.labels.length acl) (.slice aak A.kids.length ack) = V5 at *
        refine take_oneHL 7 (AllReadyH.cons (by rw [List.getElem?_toArray]; rfl) (fun K hK => ?_) AllReadyH.nil) (by as_aux_lemma => kernel_rfl)
        obtain ⟨_, _, z0, z1, z2, z3, z4, zf⟩ := id HZy.out
        have f0 := zf 0
        have f1 := zf 1
        have f2 := zf 2
        have f3 := zf 3
        have f4 := zf 4
        clear zf
        have hSn := hS.st (b := oy) HZy.out.lo (.int .i64 Bt.kind) (.int .i64 Bt.so) (.string Bt.name) (.slice bal Bt.labels.length bcl) (.slice bak Bt.kids.length bck)
        have HTB := hideK (show TyAt (st5 V5 oy 0 (.int .i64 Bt.kind) (.int .i64 Bt.so) (.string Bt.name) (.slice bal Bt.labels.length bcl) (.slice bak Bt.kids.length bck)) oy 0 Bt bal bcl bak bck from HZy.out.ty Bt bal bcl bak bck)
        have HLY := hideK (show oy < (st5 V5 oy 0 (.int .i64 Bt.kind) (.int .i64 Bt.so) (.string Bt.name) (.slice bal Bt.labels.length bcl) (.slice bak Bt.kids.length bck)).heap.size from by rw [st5_size]; exact HZy.out.lt)
        replace HVx := hideK (HVx.out.st (fun _ q => q.1) (b := oy) (by simp) HZy.out.lo (.int .i64 Bt.kind) (.int .i64 Bt.so) (.string Bt.name) (.slice bal Bt.labels.length bcl) (.slice bak Bt.kids.length bck))
        replace HVy := hideK (HVy.out.st (fun _ q => q.1) (b := oy) (by simp) HZy.out.lo (.int .i64 Bt.kind) (.int .i64 Bt.so) (.string Bt.name) (.slice bal Bt.labels.length bcl) (.slice bak Bt.kids.length bck))
        replace HTA := hideK (tyAt_stB (b := oy) HNE.out.symm (.int .i64 Bt.kind) (.int .i64 Bt.so) (.string Bt.name) (.slice bal Bt.labels.length bcl) (.slice bak Bt.kids.length bck) HTA.out)
        replace HLX := hideK (show ox < (st5 V5 oy 0 (.int .i64 Bt.kind) (.int .i64 Bt.so) (.string Bt.name) (.slice bal Bt.labels.length bcl) (.slice bak Bt.kids.length bck)).heap.size from by rw [st5_size]; exact HLX.out)
        have HOY := hideK HZy.out.lo
        have HXY := hideK HNE.out.symm
        clear HZy HNE
        go_simp
        refine hK.out _ _ hSn ?_
        clear hS hK K hSn z0 z1 z2 z3 z4 f0 f1 f2 f3 f4
        intro hS
        try simp only [Act.put, List.setIfInBounds_toArray, List.set_cons_zero, List.set_cons_succ]
        change wpAnyH _ _ _ _ _ _ _ _ (st5 V5 oy 0 (.int .i64 Bt.kind) (.int .i64 Bt.so) (.string Bt.name) (.slice bal Bt.labels.length bcl) (.slice bak Bt.kids.length bck))
        change BMW _ _ _ _ _ _ _ _ _ _ _ _ _ _ _ _ _ _ _ _ _ (st5 V5 oy 0 (.int .i64 Bt.kind) (.int .i64 Bt.so) (.string Bt.name) (.slice bal Bt.labels.length bcl) (.slice bak Bt.kids.length bck)) at hS
        generalize st5 V5 oy 0 (.int .i64 Bt.kind) (.int .i64 Bt.so) (.string Bt.name) (.slice bal Bt.labels.length bcl) (.slice bak Bt.kids.length bck) = V6 at *
        refine wpAnyH_done (by as_aux_lemma => kernel_rfl) ?_ _
        go_wp2_with fail
        go_meet
        exact ⟨ox, oy, A, aal, acl, aak, ack, ad, Bt, bal, bcl, bak, bck, bd, rfl, rfl, hS, HUx.out, H8x.out, HUy.out, H8y.out, tbb_of HVx.out HTA.out (by simp), tbb_of HVy.out HTB.out (by simp), HXY.out, HOX.out, HOY.out, HLX.out, HLY.out⟩
  · go_simp
    have hSn := hS.al (.cells #[.int .i64 0, .int .i64 0, .string ⟨#[]⟩, .slice none 0 0, .slice none 0 0] 25)
    have HZx := hideK (BX5.new (L := L) hS.lo.2.2)
    refine hK.out _ _ hSn ?_
    clear hS hK K hSn
    intro hS
    try simp only [Act.put, List.setIfInBounds_toArray, List.set_cons_zero, List.set_cons_succ]
    generalize V0.heap.size = ox at *
    generalize World.alloc V0 (.cells #[.int .i64 0, .int .i64 0, .string ⟨#[]⟩, .slice none 0 0, .slice none 0 0] 25) = V1 at *
    refine wpAnyH_ready (rs := [1, 5]) (by as_aux_lemma => kernel_rfl) (by simp) (AllReadyH.cons (by rw [List.getElem?_toArray]; rfl) (fun K hK => ?_) (AllReadyH.cons (by rw [List.getElem?_toArray]; rfl) (fun K hK => ?_) AllReadyH.nil))
    · go_simp
      refine (Cx.out _ hS).mono ?_
      rintro e V2 ⟨⟨A, hux, h8x, aal, acl, aak, ack, ad, rfl, h1, h2, h3⟩, hb⟩
      have hSn := hS.keep hb
      have HVx := hideK (tvb_new (L := L) [ox] (fun b hb => by simp only [List.mem_cons, List.not_mem_nil, or_false] at hb; subst hb; exact HZx.out.lt) hS.lo.2.2 h1 h2 h3)
      have HUx := hideK hux
      have H8x := hideK h8x
      replace HZx := hideK (HZx.out.keep hb)
      refine hK.out _ _ hSn ?_
      clear hS hK K hSn hb h1 h2 h3 hux h8x
      intro hS
      try simp only [Act.put, List.setIfInBounds_toArray, List.set_cons_zero, List.set_cons_succ]
      refine wpAnyH_ready (rs := [3, 5]) (by as_aux_lemma => kernel_rfl) (by simp) (AllReadyH.cons (by rw [List.getElem?_toArray]; rfl) (fun K hK => ?_) (AllReadyH.cons (by rw [List.getElem?_toArray]; rfl) (fun K hK => ?_) AllReadyH.nil))
      · go_simp
        refine (Cy.out _ hS).mono ?_
        rintro e V3 ⟨⟨Bt, huy, h8y, bal, bcl, bak, bck, bd, rfl, h1, h2, h3⟩, hb⟩
        have hSn := hS.keep hb
        have HVy := hideK (tvb_new (L := L) [ox] (fun b hb => by simp only [List.mem_cons, List.not_mem_nil, or_false] at hb; subst hb; exact HZx.out.lt) hS.lo.2.2 h1 h2 h3)
        have HUy := hideK huy
        have H8y := hideK h8y
        replace HZx := hideK (HZx.out.keep hb)
        replace HVx := hideK (HVx.out.keep (fun _ q => q.1) hS.lo.2.2 hb)
        refine hK.out _ _ hSn ?_
        clear hS hK K hSn hb h1 h2 h3 huy h8y
        intro hS
        try simp only [Act.put, List.setIfInBounds_toArray, List.set_cons_zero, List.set_cons_succ]
        refine take_oneHL 5 (AllReadyH.cons (by rw [List.getElem?_toArray]; rfl) (fun K hK => ?_) AllReadyH.nil) (by as_aux_lemma => kernel_rfl)
        go_simp
        have hSn := hS.al (.cells #[.int .i64 0, .int .i64 0, .string ⟨#[]⟩, .slice none 0 0, .slice none 0 0] 25)
        have HZy := hideK (BX5.new (L := L) hS.lo.2.2)
        have HNE := hideK (show ox ≠ V3.heap.size from by have := HZx.out.lt; omega)
        replace HZx := hideK (HZx.out.al (.cells #[.int .i64 0, .int .i64 0, .string ⟨#[]⟩, .slice none 0 0, .slice none 0 0] 25))
        replace HVx := hideK (HVx.out.box (fun _ q => q.1) hS.lo.2.2 (.cells #[.int .i64 0, .int .i64 0, .string ⟨#[]⟩, .slice none 0 0, .slice none 0 0] 25))
        replace HVy := hideK (HVy.out.box (fun _ q => q.1) hS.lo.2.2 (.cells #[.int .i64 0, .int .i64 0, .string ⟨#[]⟩, .slice none 0 0, .slice none 0 0] 25))
        refine hK.out _ _ hSn ?_
        clear hS hK K hSn
        intro hS
        try simp only [Act.put, List.setIfInBounds_toArray, List.set_cons_zero, List.set_cons_succ]
        generalize V3.heap.size = oy at *
        generalize World.alloc V3 (.cells #[.int .i64 0, .int .i64 0, .string ⟨#[]⟩, .slice none 0 0, .slice none 0 0] 25) = V4 at *
        refine take_oneHL 6 (AllReadyH.cons (by rw [List.getElem?_toArray]; rfl) (fun K hK => ?_) AllReadyH.nil) (by as_aux_lemma => kernel_rfl)
        obtain ⟨_, _, z0, z1, z2, z3, z4, zf⟩ := id HZx.out
        have f0 := zf 0
        have f1 := zf 1
        have f2 := zf 2
        have f3 := zf 3
        have f4 := zf 4
        clear zf
        have hSn := hS.st (b := ox) HZx.out.lo (.int .i64 A.kind) (.int .i64 A.so) (.string A.name) (.slice aal A.labels.length acl) (.slice aak A.kids.length ack)
        have HOX := hideK HZx.out.lo
        have HTA := hideK (show TyAt (st5 V4 ox 0 (.int .i64 A.kind) (.int .i64 A.so) (.string A.name) (.slice aal A.labels.length acl) (.slice aak A.kids.length ack)) ox 0 A aal acl aak ack from HZx.out.ty A aal acl aak ack)
        have HLX := hideK (show ox < (st5 V4 ox 0 (.int .i64 A.kind) (.int .i64 A.so) (.string A.name) (.slice aal A.labels.length acl) (.slice aak A.kids.length ack)).heap.size from by rw [st5_size]; exact HZx.out.lt)
        replace HVx := hideK (HVx.out.st (fun _ q => q.1) (b := ox) (by simp) HZx.out.lo (.int .i64 A.kind) (.int .i64 A.so) (.string A.name) (.slice aal A.labels.length acl) (.slice aak A.kids.length ack))
        replace HVy := hideK (HVy.out.st (fun _ q => q.1) (b := ox) (by simp) HZx.out.lo (.int .i64 A.kind) (.int .i64 A.so) (.string A.name) (.slice aal A.labels.length acl) (.slice aak A.kids.length ack))
        replace HZy := hideK (HZy.out.st (b' := ox) HNE.out.symm (.int .i64 A.kind) (.int .i64 A.so) (.string A.name) (.slice aal A.labels.length acl) (.slice aak A.kids.length ack))
        clear HZx
        go_simp
        refine hK.out _ _ hSn ?_
        clear hS hK K hSn z0 z1 z2 z3 z4 f0 f1 f2 f3 f4
        intro hS
        try simp only [Act.put, List.setIfInBounds_toArray, List.set_cons_zero, List.set_cons_succ]
        change wpAnyH _ _ _ _ _ _ _ _ (st5 V4 ox 0 (.int .i64 A.kind) (.int .i64 A.so) (.string A.name) (.slice aal A.labels.length acl) (.slice aak A.kids.length ack))
        change BMW _ _ _ _ _ _ _ _ _ _ _ _ _ _ _ _ _ _ _ _ _ (st5 V4 ox 0 (.int .i64 A.kind) (.int .i64 A.so) (.string A.name) (.slice aal A.labels.length acl) (.slice aak A.kids.length ack)) at hS
        generalize st5 V4 ox 0 (.int .i64 A.kind) (.int .i64 A.so) (.string A.name) (.slice aal A.labels.length acl) (.slice aak A.kids.length ack) = V5 at *
        refine take_oneHL 7 (AllReadyH.cons (by rw [List.getElem?_toArray]; rfl) (fun K hK => ?_) AllReadyH.nil) (by as_aux_lemma => kernel_rfl)
        obtain ⟨_, _, z0, z1, z2, z3, z4, zf⟩ := id HZy.out
        have f0 := zf 0
        have f1 := zf 1
        have f2 := zf 2
        have f3 := zf 3
        have f4 := zf 4
        clear zf
        have hSn := hS.st (b := oy) HZy.out.lo (.int .i64 Bt.kind) (.int .i64 Bt.so) (.string Bt.name) (.slice bal Bt.labels.length bcl) (.slice bak Bt.kids.length bck)
        have HTB := hideK (show TyAt (st5 V5 oy 0 (.int .i64 Bt.kind) (.int .i64 Bt.so) (.string Bt.name) (.slice bal Bt.labels.length bcl) (.slice bak Bt.kids.length bck)) oy 0 Bt bal bcl bak bck from HZy.out.ty Bt bal bcl bak bck)
        have HLY := hideK (show oy < (st5 V5 oy 0 (.int .i64 Bt.kind) (.int .i64 Bt.so) (.string Bt.name) (.slice bal Bt.labels.length bcl) (.slice bak Bt.kids.length bck)).heap.size from by rw [st5_size]; exact HZy.out.lt)
        replace HVx := hideK (HVx.out.st (fun _ q => q.1) (b := oy) (by simp) HZy.out.lo (.int .i64 Bt.kind) (.int .i64 Bt.so) (.string Bt.name) (.slice bal Bt.labels.length bcl) (.slice bak Bt.kids.length bck))
        replace HVy := hideK (HVy.out.st (fun _ q => q.1) (b := oy) (by simp) HZy.out.lo (.int .i64 Bt.kind) (.int .i64 Bt.so) (.string Bt.name) (.slice bal Bt.labels.length bcl) (.slice bak Bt.kids.length bck))
        replace HTA := hideK (tyAt_stB (b := oy) HNE.out (.int .i64 Bt.kind) (.int .i64 Bt.so) (.string Bt.name) (.slice bal Bt.labels.length bcl) (.slice bak Bt.kids.length bck) HTA.out)
        replace HLX := hideK (show ox < (st5 V5 oy 0 (.int .i64 Bt.kind) (.int .i64 Bt.so) (.string Bt.name) (.slice bal Bt.labels.length bcl) (.slice bak Bt.kids.length bck)).heap.size from by rw [st5_size]; exact HLX.out)
        have HOY := hideK HZy.out.lo
        have HXY := hideK HNE.out
        clear HZy HNE
        go_simp
        refine hK.out _ _ hSn ?_
        clear hS hK K hSn z0 z1 z2 z3 z4 f0 f1 f2 f3 f4
        intro hS
        try simp only [Act.put, List.setIfInBounds_toArray, List.set_cons_zero, List.set_cons_succ]
        change wpAnyH _ _ _ _ _ _ _ _ (st5 V5 oy 0 (.int .i64 Bt.kind) (.int .i64 Bt.so) (.string Bt.name) (.slice bal Bt.labels.length bcl) (.slice bak Bt.kids.length bck))
        change BMW _ _ _ _ _ _ _ _ _ _ _ _ _ _ _ _ _ _ _ _ _ (st5 V5 oy 0 (.int .i64 Bt.kind) (.int .i64 Bt.so) (.string Bt.name) (.slice bal Bt.labels.length bcl) (.slice bak Bt.kids.length bck)) at hS
        generalize st5 V5 oy 0 (.int .i64 Bt.kind) (.int .i64 Bt.so) (.string Bt.name) (.slice bal Bt.labels.length bcl) (.slice bak Bt.kids.length bck) = V6 at *
        refine wpAnyH_done (by as_aux_lemma => kernel_rfl) ?_ _
        go_wp2_with fail
        go_meet
        exact ⟨ox, oy, A, aal, acl, aak, ack, ad, Bt, bal, bcl, bak, bck, bd, rfl, rfl, hS, HUx.out, H8x.out, HUy.out, H8y.out, tbb_of HVx.out HTA.out (by simp), tbb_of HVy.out HTB.out (by simp), HXY.out, HOX.out, HOY.out, HLX.out, HLY.out⟩
      · go_simp
        have hSn := hS.al (.cells #[.int .i64 0, .int .i64 0, .string ⟨#[]⟩, .slice none 0 0, .slice none 0 0] 25)
        have HZy := hideK (BX5.new (L := L) hS.lo.2.2)
        have HNE := hideK (show ox ≠ V2.heap.size from by have := HZx.out.lt; omega)
        replace HZx := hideK (HZx.out.al (.cells #[.int .i64 0, .int .i64 0, .string ⟨#[]⟩, .slice none 0 0, .slice none 0 0] 25))
        replace HVx := hideK (HVx.out.box (fun _ q => q.1) hS.lo.2.2 (.cells #[.int .i64 0, .int .i64 0, .string ⟨#[]⟩, .slice none 0 0, .slice none 0 0] 25))
        refine hK.out _ _ hSn ?_
        clear hS hK K hSn
        intro hS
        try simp only [Act.put, List.setIfInBounds_toArray, List.set_cons_zero, List.set_cons_succ]
        generalize V2.heap.size = oy at *
        generalize World.alloc V2 (.cells #[.int .i64 0, .int .i64 0, .string ⟨#[]⟩, .slice none 0 0, .slice none 0 0] 25) = V3 at *
        refine take_oneHL 3 (AllReadyH.cons (by rw [List.getElem?_toArray]; rfl) (fun K hK => ?_) AllReadyH.nil) (by as_aux_lemma => kernel_rfl)
        go_simp
        refine (Cy.out _ hS).mono ?_
        rintro e V4 ⟨⟨Bt, huy, h8y, bal, bcl, bak, bck, bd, rfl, h1, h2, h3⟩, hb⟩
        have hSn := hS.keep hb
        have HVy := hideK (tvb_new (L := L) [oy, ox] (fun b hb => by simp only [List.mem_cons, List.not_mem_nil, or_false] at hb; rcases hb with rfl | rfl; exact HZy.out.lt; exact HZx.out.lt) hS.lo.2.2 h1 h2 h3)
        have HUy := hideK huy
        have H8y := hideK h8y
        replace HZx := hideK (HZx.out.keep hb)
        replace HZy := hideK (HZy.out.keep hb)
        replace HVx := hideK (HVx.out.keep (fun _ q => q.1) hS.lo.2.2 hb)
        refine hK.out _ _ hSn ?_
        clear hS hK K hSn hb h1 h2 h3 huy h8y
        intro hS
        try simp only [Act.put, List.setIfInBounds_toArray, List.set_cons_zero, List.set_cons_succ]
        refine take_oneHL 6 (AllReadyH.cons (by rw [List.getElem?_toArray]; rfl) (fun K hK => ?_) AllReadyH.nil) (by as_aux_lemma => kernel_rfl)
        obtain ⟨_, _, z0, z1, z2, z3, z4, zf⟩ := id HZx.out
        have f0 := zf 0
        have f1 := zf 1
        have f2 := zf 2
        have f3 := zf 3
        have f4 := zf 4
        clear zf
        have hSn := hS.st (b := ox) HZx.out.lo (.int .i64 A.kind) (.int .i64 A.so) (.string A.name) (.slice aal A.labels.length acl) (.slice aak A.kids.length ack)
        have HOX := hideK HZx.out.lo
        have HTA := hideK (show TyAt (st5 V4 ox 0 (.int .i64 A.kind) (.int .i64 A.so) (.string A.name) (.slice aal A.labels.length acl) (.slice aak A.kids.length ack)) ox 0 A aal acl aak ack from HZx.out.ty A aal acl aak ack)
        have HLX := hideK (show ox < (st5 V4 ox 0 (.int .i64 A.kind) (.int .i64 A.so) (.string A.name) (.slice aal A.labels.length acl) (.slice aak A.kids.length ack)).heap.size from by rw [st5_size]; exact HZx.out.lt)
        replace HVx := hideK (HVx.out.st (fun _ q => q.1) (b := ox) (by simp) HZx.out.lo (.int .i64 A.kind) (.int .i64 A.so) (.string A.name) (.slice aal A.labels.length acl) (.slice aak A.kids.length ack))
        replace HVy := hideK (HVy.out.st (fun _ q => q.1) (b := ox) (by simp) HZx.out.lo (.int .i64 A.kind) (.int .i64 A.so) (.string A.name) (.slice aal A.labels.length acl) (.slice aak A.kids.length ack))
        replace HZy := hideK (HZy.out.st (b' := ox) HNE.out.symm (.int .i64 A.kind) (.int .i64 A.so) (.string A.name) (.slice aal A.labels.length acl) (.slice aak A.kids.length ack))
        clear HZx
        go_simp
        refine hK.out _ _ hSn ?_
        clear hS hK K hSn z0 z1 z2 z3 z4 f0 f1 f2 f3 f4
        intro hS
        try simp only [Act.put, List.setIfInBounds_toArray, List.set_cons_zero, List.set_cons_succ]
        change wpAnyH _ _ _ _ _ _ _ _ (st5 V4 ox 0 (.int .i64 A.kind) (.int .i64 A.so) (.string A.name) (.slice aal A.labels.length acl) (.slice aak A.kids.length ack))
        change BMW _ _ _ _ _ _ _ _ _ _ _ _ _ _ _ _ _ _ _ _ _ (st5 V4 ox 0 (.int .i64 A.kind) (.int .i64 A.so) (.string A.name) (.slice aal A.labels.length acl) (.slice aak A.kids.length ack)) at hS
        generalize st5 V4 ox 0 (.int .i64 A.kind) (.int .i64 A.so) (.string A.name) (.slice aal A.labels.length acl) (.slice aak A.kids.length ack) = V5 at *
        refine take_oneHL 7 (AllReadyH.cons (by rw [List.getElem?_toArray]; rfl) (fun K hK => ?_) AllReadyH.nil) (by as_aux_lemma => kernel_rfl)
        obtain ⟨_, _, z0, z1, z2, z3, z4, zf⟩ := id HZy.out
        have f0 := zf 0
        have f1 := zf 1
        have f2 := zf 2
        have f3 := zf 3
        have f4 := zf 4
        clear zf
        have hSn := hS.st (b := oy) HZy.out.lo (.int .i64 Bt.kind) (.int .i64 Bt.so) (.string Bt.name) (.slice bal Bt.labels.length bcl) (.slice bak Bt.kids.length bck)
        have HTB := hideK (show TyAt (st5 V5 oy 0 (.int .i64 Bt.kind) (.int .i64 Bt.so) (.string Bt.name) (.slice bal Bt.labels.length bcl) (.slice bak Bt.kids.length bck)) oy 0 Bt bal bcl bak bck from HZy.out.ty Bt bal bcl bak bck)
        have HLY := hideK (show oy < (st5 V5 oy 0 (.int .i64 Bt.kind) (.int .i64 Bt.so) (.string Bt.name) (.slice bal Bt.labels.length bcl) (.slice bak Bt.kids.length bck)).heap.size from by rw [st5_size]; exact HZy.out.lt)
        replace HVx := hideK (HVx.out.st (fun _ q => q.1) (b := oy) (by simp) HZy.out.lo (.int .i64 Bt.kind) (.int .i64 Bt.so) (.string Bt.name) (.slice bal Bt.labels.length bcl) (.slice bak Bt.kids.length bck))
        replace HVy := hideK (HVy.out.st (fun _ q => q.1) (b := oy) (by simp) HZy.out.lo (.int .i64 Bt.kind) (.int .i64 Bt.so) (.string Bt.name) (.slice bal Bt.labels.length bcl) (.slice bak Bt.kids.length bck))
        replace HTA := hideK (tyAt_stB (b := oy) HNE.out (.int .i64 Bt.kind) (.int .i64 Bt.so) (.string Bt.name) (.slice bal Bt.labels.length bcl) (.slice bak Bt.kids.length bck) HTA.out)
        replace HLX := hideK (show ox < (st5 V5 oy 0 (.int .i64 Bt.kind) (.int .i64 Bt.so) (.string Bt.name) (.slice bal Bt.labels.length bcl) (.slice bak Bt.kids.length bck)).heap.size from by rw [st5_size]; exact HLX.out)
        have HOY := hideK HZy.out.lo
        have HXY := hideK HNE.out
        clear HZy HNE
        go_simp
        refine hK.out _ _ hSn ?_
        clear hS hK K hSn z0 z1 z2 z3 z4 f0 f1 f2 f3 f4
        intro hS
        try simp only [Act.put, List.setIfInBounds_toArray, List.set_cons_zero, List.set_cons_succ]
        change wpAnyH _ _ _ _ _ _ _ _ (st5 V5 oy 0 (.int .i64 Bt.kind) (.int .i64 Bt.so) (.string Bt.name) (.slice bal Bt.labels.length bcl) (.slice bak Bt.kids.length bck))
        change BMW _ _ _ _ _ _ _ _ _ _ _ _ _ _ _ _ _ _ _ _ _ (st5 V5 oy 0 (.int .i64 Bt.kind) (.int .i64 Bt.so) (.string Bt.name) (.slice bal Bt.labels.length bcl) (.slice bak Bt.kids.length bck)) at hS
        generalize st5 V5 oy 0 (.int .i64 Bt.kind) (.int .i64 Bt.so) (.string Bt.name) (.slice bal Bt.labels.length bcl) (.slice bak Bt.kids.length bck) = V6 at *
        refine wpAnyH_done (by as_aux_lemma => kernel_rfl) ?_ _
        go_wp2_with fail
        go_meet
        exact ⟨ox, oy, A, aal, acl, aak, ack, ad, Bt, bal, bcl, bak, bck, bd, rfl, rfl, hS, HUx.out, H8x.out, HUy.out, H8y.out, tbb_of HVx.out HTA.out (by simp), tbb_of HVy.out HTB.out (by simp), HXY.out, HOX.out, HOY.out, HLX.out, HLY.out⟩
    · go_simp
      have hSn := hS.al (.cells #[.int .i64 0, .int .i64 0, .string ⟨#[]⟩, .slice none 0 0, .slice none 0 0] 25)
      have HZy := hideK (BX5.new (L := L) hS.lo.2.2)
      have HNE := hideK (show ox ≠ V1.heap.size from by have := HZx.out.lt; omega)
      replace HZx := hideK (HZx.out.al (.cells #[.int .i64 0, .int .i64 0, .string ⟨#[]⟩, .slice none 0 0, .slice none 0 0] 25))
      refine hK.out _ _ hSn ?_
      clear hS hK K hSn
      intro hS
      try simp only [Act.put, List.setIfInBounds_toArray, List.set_cons_zero, List.set_cons_succ]
      generalize V1.heap.size = oy at *
      generalize World.alloc V1 (.cells #[.int .i64 0, .int .i64 0, .string ⟨#[]⟩, .slice none 0 0, .slice none 0 0] 25) = V2 at *
      refine take_oneHL 1 (AllReadyH.cons (by rw [List.getElem?_toArray]; rfl) (fun K hK => ?_) AllReadyH.nil) (by as_aux_lemma => kernel_rfl)
      go_simp
      refine (Cx.out _ hS).mono ?_
      rintro e V3 ⟨⟨A, hux, h8x, aal, acl, aak, ack, ad, rfl, h1, h2, h3⟩, hb⟩
      have hSn := hS.keep hb
      have HVx := hideK (tvb_new (L := L) [oy, ox] (fun b hb => by simp only [List.mem_cons, List.not_mem_nil, or_false] at hb; rcases hb with rfl | rfl; exact HZy.out.lt; exact HZx.out.lt) hS.lo.2.2 h1 h2 h3)
      have HUx := hideK hux
      have H8x := hideK h8x
      replace HZx := hideK (HZx.out.keep hb)
      replace HZy := hideK (HZy.out.keep hb)
      refine hK.out _ _ hSn ?_
      clear hS hK K hSn hb h1 h2 h3 hux h8x
      intro hS
      try simp only [Act.put, List.setIfInBounds_toArray, List.set_cons_zero, List.set_cons_succ]
      refine take_oneHL 3 (AllReadyH.cons (by rw [List.getElem?_toArray]; rfl) (fun K hK => ?_) AllReadyH.nil) (by as_aux_lemma => kernel_rfl)
      go_simp
      refine (Cy.out _ hS).mono ?_
      rintro e V4 ⟨⟨Bt, huy, h8y, bal, bcl, bak, bck, bd, rfl, h1, h2, h3⟩, hb⟩
      have hSn := hS.keep hb
      have HVy := hideK (tvb_new (L := L) [oy, ox] (fun b hb => by simp only [List.mem_cons, List.not_mem_nil, or_false] at hb; rcases hb with rfl | rfl; exact HZy.out.lt; exact HZx.out.lt) hS.lo.2.2 h1 h2 h3)
      have HUy := hideK huy
      have H8y := hideK h8y
      replace HZx := hideK (HZx.out.keep hb)
      replace HZy := hideK (HZy.out.keep hb)
      replace HVx := hideK (HVx.out.keep (fun _ q => q.1) hS.lo.2.2 hb)
      refine hK.out _ _ hSn ?_
      clear hS hK K hSn hb h1 h2 h3 huy h8y
      intro hS
      try simp only [Act.put, List.setIfInBounds_toArray, List.set_cons_zero, List.set_cons_succ]
      refine take_oneHL 6 (AllReadyH.cons (by rw [List.getElem?_toArray]; rfl) (fun K hK => ?_) AllReadyH.nil) (by as_aux_lemma => kernel_rfl)
      obtain ⟨_, _, z0, z1, z2, z3, z4, zf⟩ := id HZx.out
      have f0 := zf 0
      have f1 := zf 1
      have f2 := zf 2
      have f3 := zf 3
      have f4 := zf 4
      clear zf
      have hSn := hS.st (b := ox) HZx.out.lo (.int .i64 A.kind) (.int .i64 A.so) (.string A.name) (.slice aal A.labels.length acl) (.slice aak A.kids.length ack)
      have HOX := hideK HZx.out.lo
      have HTA := hideK (show TyAt (st5 V4 ox 0 (.int .i64 A.kind) (.int .i64 A.so) (.string A.name) (.slice aal A.labels.length acl) (.slice aak A.kids.length ack)) ox 0 A aal acl aak ack from HZx.out.ty A aal acl aak ack)
      have HLX := hideK (show ox < (st5 V4 ox 0 (.int .i64 A.kind) (.int .i64 A.so) (.string A.name) (.slice aal A.labels.length acl) (.slice aak A.kids.length ack)).heap.size from by rw [st5_size]; exact HZx.out.lt)
      replace HVx := hideK (HVx.out.st (fun _ q => q.1) (b := ox) (by simp) HZx.out.lo (.int .i64 A.kind) (.int .i64 A.so) (.string A.name) (.slice aal A.labels.length acl) (.slice aak A.kids.length ack))
      replace HVy := hideK (HVy.out.st (fun _ q => q.1) (b := ox) (by simp) HZx.out.lo (.int .i64 A.kind) (.int .i64 A.so) (.string A.name) (.slice aal A.labels.length acl) (.slice aak A.kids.length ack))
      replace HZy := hideK (HZy.out.st (b' := ox) HNE.out.symm (.int .i64 A.kind) (.int .i64 A.so) (.string A.name) (.slice aal A.labels.length acl) (.slice aak A.kids.length ack))
      clear HZx
      go_simp
      refine hK.out _ _ hSn ?_
      clear hS hK K hSn z0 z1 z2 z3 z4 f0 f1 f2 f3 f4
      intro hS
      try simp only [Act.put, List.setIfInBounds_toArray, List.set_cons_zero, List.set_cons_succ]
      change wpAnyH _ _ _ _ _ _ _ _ (st5 V4 ox 0 (.int .i64 A.kind) (.int .i64 A.so) (.string A.name) (.slice aal A.labels.length acl) (.slice aak A.kids.length ack))
      change BMW _ _ _ _ _ _ _ _ _ _ _ _ _ _ _ _ _ _ _ _ _ (st5 V4 ox 0 (.int .i64 A.kind) (.int .i64 A.so) (.string A.name) (.slice aal A.labels.length acl) (.slice aak A.kids.length ack)) at hS
      generalize st5 V4 ox 0 (.int .i64 A.kind) (.int .i64 A.so) (.string A.name) (.slice aal A.labels.length acl) (.slice aak A.kids.length ack) = V5 at *
      refine take_oneHL 7 (AllReadyH.cons (by rw [List.getElem?_toArray]; rfl) (fun K hK => ?_) AllReadyH.nil) (by as_aux_lemma => kernel_rfl)
      obtain ⟨_, _, z0, z1, z2, z3, z4, zf⟩ := id HZy.out
      have f0 := zf 0
      have f1 := zf 1
      have f2 := zf 2
      have f3 := zf 3
      have f4 := zf 4
      clear zf
      have hSn := hS.st (b := oy) HZy.out.lo (.int .i64 Bt.kind) (.int .i64 Bt.so) (.string Bt.name) (.slice bal Bt.labels.length bcl) (.slice bak Bt.kids.length bck)
      have HTB := hideK (show TyAt (st5 V5 oy 0 (.int .i64 Bt.kind) (.int .i64 Bt.so) (.string Bt.name) (.slice bal Bt.labels.length bcl) (.slice bak Bt.kids.length bck)) oy 0 Bt bal bcl bak bck from HZy.out.ty Bt bal bcl bak bck)
      have HLY := hideK (show oy < (st5 V5 oy 0 (.int .i64 Bt.kind) (.int .i64 Bt.so) (.string Bt.name) (.slice bal Bt.labels.length bcl) (.slice bak Bt.kids.length bck)).heap.size from by rw [st5_size]; exact HZy.out.lt)
      replace HVx := hideK (HVx.out.st (fun _ q => q.1) (b := oy) (by simp) HZy.out.lo (.int .i64 Bt.kind) (.int .i64 Bt.so) (.string Bt.name) (.slice bal Bt.labels.length bcl) (.slice bak Bt.kids.length bck))
      replace HVy := hideK (HVy.out.st (fun _ q => q.1) (b := oy) (by simp) HZy.out.lo (.int .i64 Bt.kind) (.int .i64 Bt.so) (.string Bt.name) (.slice bal Bt.labels.length bcl) (.slice bak Bt.kids.length bck))
      replace HTA := hideK (tyAt_stB (b := oy) HNE.out (.int .i64 Bt.kind) (.int .i64 Bt.so) (.string Bt.name) (.slice bal Bt.labels.length bcl) (.slice bak Bt.kids.length bck) HTA.out)
      replace HLX := hideK (show ox < (st5 V5 oy 0 (.int .i64 Bt.kind) (.int .i64 Bt.so) (.string Bt.name) (.slice bal Bt.labels.length bcl) (.slice bak Bt.kids.length bck)).heap.size from by rw [st5_size]; exact HLX.out)
      have HOY := hideK HZy.out.lo
      have HXY := hideK HNE.out
      clear HZy HNE
      go_simp
      refine hK.out _ _ hSn ?_
      clear hS hK K hSn z0 z1 z2 z3 z4 f0 f1 f2 f3 f4
      intro hS
      try simp only [Act.put, List.setIfInBounds_toArray, List.set_cons_zero, List.set_cons_succ]
      change wpAnyH _ _ _ _ _ _ _ _ (st5 V5 oy 0 (.int .i64 Bt.kind) (.int .i64 Bt.so) (.string Bt.name) (.slice bal Bt.labels.length bcl) (.slice bak Bt.kids.length bck))
      change BMW _ _ _ _ _ _ _ _ _ _ _ _ _ _ _ _ _ _ _ _ _ (st5 V5 oy 0 (.int .i64 Bt.kind) (.int .i64 Bt.so) (.string Bt.name) (.slice bal Bt.labels.length bcl) (.slice bak Bt.kids.length bck)) at hS
      generalize st5 V5 oy 0 (.int .i64 Bt.kind) (.int .i64 Bt.so) (.string Bt.name) (.slice bal Bt.labels.length bcl) (.slice bak Bt.kids.length bck) = V6 at *
      refine wpAnyH_done (by as_aux_lemma => kernel_rfl) ?_ _
      go_wp2_with fail
      go_meet
      exact ⟨ox, oy, A, aal, acl, aak, ack, ad, Bt, bal, bcl, bak, bck, bd, rfl, rfl, hS, HUx.out, H8x.out, HUy.out, H8y.out, tbb_of HVx.out HTA.out (by simp), tbb_of HVy.out HTB.out (by simp), HXY.out, HOX.out, HOY.out, HLX.out, HLY.out⟩
  · go_simp
    have hSn := hS.al (.cells #[.int .i64 0, .int .i64 0, .string ⟨#[]⟩, .slice none 0 0, .slice none 0 0] 25)
    have HZy := hideK (BX5.new (L := L) hS.lo.2.2)
    refine hK.out _ _ hSn ?_
    clear hS hK K hSn
    intro hS
    try simp only [Act.put, List.setIfInBounds_toArray, List.set_cons_zero, List.set_cons_succ]
    generalize V0.heap.size = oy at *
    generalize World.alloc V0 (.cells #[.int .i64 0, .int .i64 0, .string ⟨#[]⟩, .slice none 0 0, .slice none 0 0] 25) = V1 at *
    refine wpAnyH_ready (rs := [1, 4]) (by as_aux_lemma => kernel_rfl) (by simp) (AllReadyH.cons (by rw [List.getElem?_toArray]; rfl) (fun K hK => ?_) (AllReadyH.cons (by rw [List.getElem?_toArray]; rfl) (fun K hK => ?_) AllReadyH.nil))
    · go_simp
      refine (Cx.out _ hS).mono ?_
      rintro e V2 ⟨⟨A, hux, h8x, aal, acl, aak, ack, ad, rfl, h1, h2, h3⟩, hb⟩
      have hSn := hS.keep hb
      have HVx := hideK (tvb_new (L := L) [oy] (fun b hb => by simp only [List.mem_cons, List.not_mem_nil, or_false] at hb; subst hb; exact HZy.out.lt) hS.lo.2.2 h1 h2 h3)
      have HUx := hideK hux
      have H8x := hideK h8x
      replace HZy := hideK (HZy.out.keep hb)
      refine hK.out _ _ hSn ?_
      clear hS hK K hSn hb h1 h2 h3 hux h8x
      intro hS
      try simp only [Act.put, List.setIfInBounds_toArray, List.set_cons_zero, List.set_cons_succ]
      refine wpAnyH_ready (rs := [3, 4]) (by as_aux_lemma => kernel_rfl) (by simp) (AllReadyH.cons (by rw [List.getElem?_toArray]; rfl) (fun K hK => ?_) (AllReadyH.cons (by rw [List.getElem?_toArray]; rfl) (fun K hK => ?_) AllReadyH.nil))
      · go_simp
        refine (Cy.out _ hS).mono ?_
        rintro e V3 ⟨⟨Bt, huy, h8y, bal, bcl, bak, bck, bd, rfl, h1, h2, h3⟩, hb⟩
        have hSn := hS.keep hb
        have HVy := hideK (tvb_new (L := L) [oy] (fun b hb => by simp only [List.mem_cons, List.not_mem_nil, or_false] at hb; subst hb; exact HZy.out.lt) hS.lo.2.2 h1 h2 h3)
        have HUy := hideK huy
        have H8y := hideK h8y
        replace HZy := hideK (HZy.out.keep hb)
        replace HVx := hideK (HVx.out.keep (fun _ q => q.1) hS.lo.2.2 hb)
        refine hK.out _ _ hSn ?_
        clear hS hK K hSn hb h1 h2 h3 huy h8y
        intro hS
        try simp only [Act.put, List.setIfInBounds_toArray, List.set_cons_zero, List.set_cons_succ]
        refine take_oneHL 4 (AllReadyH.cons (by rw [List.getElem?_toArray]; rfl) (fun K hK => ?_) AllReadyH.nil) (by as_aux_lemma => kernel_rfl)
        go_simp
        have hSn := hS.al (.cells #[.int .i64 0, .int .i64 0, .string ⟨#[]⟩, .slice none 0 0, .slice none 0 0] 25)
        have HZx := hideK (BX5.new (L := L) hS.lo.2.2)
        have HNE := hideK (show oy ≠ V3.heap.size from by have := HZy.out.lt; omega)
        replace HZy := hideK (HZy.out.al (.cells #[.int .i64 0, .int .i64 0, .string ⟨#[]⟩, .slice none 0 0, .slice none 0 0] 25))
        replace HVx := hideK (HVx.out.box (fun _ q => q.1) hS.lo.2.2 (.cells #[.int .i64 0, .int .i64 0, .string ⟨#[]⟩, .slice none 0 0, .slice none 0 0] 25))
        replace HVy := hideK (HVy.out.box (fun _ q => q.1) hS.lo.2.2 (.cells #[.int .i64 0, .int .i64 0, .string ⟨#[]⟩, .slice none 0 0, .slice none 0 0] 25))
        refine hK.out _ _ hSn ?_
        clear hS hK K hSn
        intro hS
        try simp only [Act.put, List.setIfInBounds_toArray, List.set_cons_zero, List.set_cons_succ]
        generalize V3.heap.size = ox at *
        generalize World.alloc V3 (.cells #[.int .i64 0, .int .i64 0, .string ⟨#[]⟩, .slice none 0 0, .slice none 0 0] 25) = V4 at *
        refine take_oneHL 6 (AllReadyH.cons (by rw [List.getElem?_toArray]; rfl) (fun K hK => ?_) AllReadyH.nil) (by as_aux_lemma => kernel_rfl)
        obtain ⟨_, _, z0, z1, z2, z3, z4, zf⟩ := id HZx.out
        have f0 := zf 0
        have f1 := zf 1
        have f2 := zf 2
        have f3 := zf 3
        have f4 := zf 4
        clear zf
        have hSn := hS.st (b := ox) HZx.out.lo (.int .i64 A.kind) (.int .i64 A.so) (.string A.name) (.slice aal A.labels.length acl) (.slice aak A.kids.length ack)
        have HOX := hideK HZx.out.lo
        have HTA := hideK (show TyAt (st5 V4 ox 0 (.int .i64 A.kind) (.int .i64 A.so) (.string A.name) (.slice aal A.labels.length acl) (.slice aak A.kids.length ack)) ox 0 A aal acl aak ack from HZx.out.ty A aal acl aak ack)
        have HLX := hideK (show ox < (st5 V4 ox 0 (.int .i64 A.kind) (.int .i64 A.so) (.string A.name) (.slice aal A.labels.length acl) (.slice aak A.kids.length ack)).heap.size from by rw [st5_size]; exact HZx.out.lt)
        replace HVx := hideK (HVx.out.st (fun _ q => q.1) (b := ox) (by simp) HZx.out.lo (.int .i64 A.kind) (.int .i64 A.so) (.string A.name) (.slice aal A.labels.length acl) (.slice aak A.kids.length ack))
        replace HVy := hideK (HVy.out.st (fun _ q => q.1) (b := ox) (by simp) HZx.out.lo (.int .i64 A.kind) (.int .i64 A.so) (.string A.name) (.slice aal A.labels.length acl) (.slice aak A.kids.length ack))
        replace HZy := hideK (HZy.out.st (b' := ox) HNE.out (.int .i64 A.kind) (.int .i64 A.so) (.string A.name) (.slice aal A.labels.length acl) (.slice aak A.kids.length ack))
        clear HZx
        go_simp
        refine hK.out _ _ hSn ?_
        clear hS hK K hSn z0 z1 z2 z3 z4 f0 f1 f2 f3 f4
        intro hS
        try simp only [Act.put, List.setIfInBounds_toArray, List.set_cons_zero, List.set_cons_succ]
        change wpAnyH _ _ _ _ _ _ _ _ (st5 V4 ox 0 (.int .i64 A.kind) (.int .i64 A.so) (.string A.name) (.slice aal A.labels.length acl) (.slice aak A.kids.length ack))
        change BMW _ _ _ _ _ _ _ _ _ _ _ _ _ _ _ _ _ _ _ _ _ (st5 V4 ox 0 (.int .i64 A.kind) (.int .i64 A.so) (.string A.name) (.slice aal A.labels.length acl) (.slice aak A.kids.length ack)) at hS
        generalize st5 V4 ox 0 (.int .i64 A.kind) (.int .i64 A.so) (.string A.name) (.slice aal A.labels.length acl) (.slice aak A.kids.length ack) = V5 at *
        refine take_oneHL 7 (AllReadyH.cons (by rw [List.getElem?_toArray]; rfl) (fun K hK => ?_) AllReadyH.nil) (by as_aux_lemma => kernel_rfl)
        obtain ⟨_, _, z0, z1, z2, z3, z4, zf⟩ := id HZy.out
        have f0 := zf 0
        have f1 := zf 1
        have f2 := zf 2
        have f3 := zf 3
        have f4 := zf 4
        clear zf
        have hSn := hS.st (b := oy) HZy.out.lo (.int .i64 Bt.kind) (.int .i64 Bt.so) (.string Bt.name) (.slice bal Bt.labels.length bcl) (.slice bak Bt.kids.length bck)
        have HTB := hideK (show TyAt (st5 V5 oy 0 (.int .i64 Bt.kind) (.int .i64 Bt.so) (.string Bt.name) (.slice bal Bt.labels.length bcl) (.slice bak Bt.kids.length bck)) oy 0 Bt bal bcl bak bck from HZy.out.ty Bt bal bcl bak bck)
        have HLY := hideK (show oy < (st5 V5 oy 0 (.int .i64 Bt.kind) (.int .i64 Bt.so) (.string Bt.name) (.slice bal Bt.labels.length bcl) (.slice bak Bt.kids.length bck)).heap.size from by rw [st5_size]; exact HZy.out.lt)
        replace HVx := hideK (HVx.out.st (fun _ q => q.1) (b := oy) (by simp) HZy.out.lo (.int .i64 Bt.kind) (.int .i64 Bt.so) (.string Bt.name) (.slice bal Bt.labels.length bcl) (.slice bak Bt.kids.length bck))
        replace HVy := hideK (HVy.out.st (fun _ q => q.1) (b := oy) (by simp) HZy.out.lo (.int .i64 Bt.kind) (.int .i64 Bt.so) (.string Bt.name) (.slice bal Bt.labels.length bcl) (.slice bak Bt.kids.length bck))
        replace HTA := hideK (tyAt_stB (b := oy) HNE.out.symm (.int .i64 Bt.kind) (.int .i64 Bt.so) (.string Bt.name) (.slice bal Bt.labels.length bcl) (.slice bak Bt.kids.length bck) HTA.out)
        replace HLX := hideK (show ox < (st5 V5 oy 0 (.int .i64 Bt.kind) (.int .i64 Bt.so) (.string Bt.name) (.slice bal Bt.labels.length bcl) (.slice bak Bt.kids.length bck)).heap.size from by rw [st5_size]; exact HLX.out)
        have HOY := hideK HZy.out.lo
        have HXY := hideK HNE.out.symm
        clear HZy HNE
        go_simp
        refine hK.out _ _ hSn ?_
        clear hS hK K hSn z0 z1 z2 z3 z4 f0 f1 f2 f3 f4
        intro hS
        try simp only [Act.put, List.setIfInBounds_toArray, List.set_cons_zero, List.set_cons_succ]
        change wpAnyH _ _ _ _ _ _ _ _ (st5 V5 oy 0 (.int .i64 Bt.kind) (.int .i64 Bt.so) (.string Bt.name) (.slice bal Bt.labels.length bcl) (.slice bak Bt.kids.length bck))
        change BMW _ _ _ _ _ _ _ _ _ _ _ _ _ _ _ _ _ _ _ _ _ (st5 V5 oy 0 (.int .i64 Bt.kind) (.int .i64 Bt.so) (.string Bt.name) (.slice bal Bt.labels.length bcl) (.slice bak Bt.kids.length bck)) at hS
        generalize st5 V5 oy 0 (.int .i64 Bt.kind) (.int .i64 Bt.so) (.string Bt.name) (.slice bal Bt.labels.length bcl) (.slice bak Bt.kids.length bck) = V6 at *
        refine wpAnyH_done (by as_aux_lemma => kernel_rfl) ?_ _
        go_wp2_with fail
        go_meet
        exact ⟨ox, oy, A, aal, acl, aak, ack, ad, Bt, bal, bcl, bak, bck, bd, rfl, rfl, hS, HUx.out, H8x.out, HUy.out, H8y.out, tbb_of HVx.out HTA.out (by simp), tbb_of HVy.out HTB.out (by simp), HXY.out, HOX.out, HOY.out, HLX.out, HLY.out⟩
      · go_simp
        have hSn := hS.al (.cells #[.int .i64 0, .int .i64 0, .string ⟨#[]⟩, .slice none 0 0, .slice none 0 0] 25)
        have HZx := hideK (BX5.new (L := L) hS.lo.2.2)
        have HNE := hideK (show oy ≠ V2.heap.size from by have := HZy.out.lt; omega)
        replace HZy := hideK (HZy.out.al (.cells #[.int .i64 0, .int .i64 0, .string ⟨#[]⟩, .slice none 0 0, .slice none 0 0] 25))
        replace HVx := hideK (HVx.out.box (fun _ q => q.1) hS.lo.2.2 (.cells #[.int .i64 0, .int .i64 0, .string ⟨#[]⟩, .slice none 0 0, .slice none 0 0] 25))
        refine hK.out _ _ hSn ?_
        clear hS hK K hSn
        intro hS
        try simp only [Act.put, List.setIfInBounds_toArray, List.set_cons_zero, List.set_cons_succ]
        generalize V2.heap.size = ox at *
        generalize World.alloc V2 (.cells #[.int .i64 0, .int .i64 0, .string ⟨#[]⟩, .slice none 0 0, .slice none 0 0] 25) = V3 at *
        refine take_oneHL 3 (AllReadyH.cons (by rw [List.getElem?_toArray]; rfl) (fun K hK => ?_) AllReadyH.nil) (by as_aux_lemma => kernel_rfl)
        go_simp
        refine (Cy.out _ hS).mono ?_
        rintro e V4 ⟨⟨Bt, huy, h8y, bal, bcl, bak, bck, bd, rfl, h1, h2, h3⟩, hb⟩
        have hSn := hS.keep hb
        have HVy := hideK (tvb_new (L := L) [ox, oy] (fun b hb => by simp only [List.mem_cons, List.not_mem_nil, or_false] at hb; rcases hb with rfl | rfl; exact HZx.out.lt; exact HZy.out.lt) hS.lo.2.2 h1 h2 h3)
        have HUy := hideK huy
        have H8y := hideK h8y
        replace HZy := hideK (HZy.out.keep hb)
        replace HZx := hideK (HZx.out.keep hb)
        replace HVx := hideK (HVx.out.keep (fun _ q => q.1) hS.lo.2.2 hb)
        refine hK.out _ _ hSn ?_
        clear hS hK K hSn hb h1 h2 h3 huy h8y
        intro hS
        try simp only [Act.put, List.setIfInBounds_toArray, List.set_cons_zero, List.set_cons_succ]
        refine take_oneHL 6 (AllReadyH.cons (by rw [List.getElem?_toArray]; rfl) (fun K hK => ?_) AllReadyH.nil) (by as_aux_lemma => kernel_rfl)
        obtain ⟨_, _, z0, z1, z2, z3, z4, zf⟩ := id HZx.out
        have f0 := zf 0
        have f1 := zf 1
        have f2 := zf 2
        have f3 := zf 3
        have f4 := zf 4
        clear zf
        have hSn := hS.st (b := ox) HZx.out.lo (.int .i64 A.kind) (.int .i64 A.so) (.string A.name) (.slice aal A.labels.length acl) (.slice aak A.kids.length ack)
        have HOX := hideK HZx.out.lo
        have HTA := hideK (show TyAt (st5 V4 ox 0 (.int .i64 A.kind) (.int .i64 A.so) (.string A.name) (.slice aal A.labels.length acl) (.slice aak A.kids.length ack)) ox 0 A aal acl aak ack from HZx.out.ty A aal acl aak ack)
        have HLX := hideK (show ox < (st5 V4 ox 0 (.int .i64 A.kind) (.int .i64 A.so) (.string A.name) (.slice aal A.labels.length acl) (.slice aak A.kids.length ack)).heap.size from by rw [st5_size]; exact HZx.out.lt)
        replace HVx := hideK (HVx.out.st (fun _ q => q.1) (b := ox) (by simp) HZx.out.lo (.int .i64 A.kind) (.int .i64 A.so) (.string A.name) (.slice aal A.labels.length acl) (.slice aak A.kids.length ack))
        replace HVy := hideK (HVy.out.st (fun _ q => q.1) (b := ox) (by simp) HZx.out.lo (.int .i64 A.kind) (.int .i64 A.so) (.string A.name) (.slice aal A.labels.length acl) (.slice aak A.kids.length ack))
        replace HZy := hideK (HZy.out.st (b' := ox) HNE.out (.int .i64 A.kind) (.int .i64 A.so) (.string A.name) (.slice aal A.labels.length acl) (.slice aak A.kids.length ack))
        clear HZx
        go_simp
        refine hK.out _ _ hSn ?_
        clear hS hK K hSn z0 z1 z2 z3 z4 f0 f1 f2 f3 f4
        intro hS
        try simp only [Act.put, List.setIfInBounds_toArray, List.set_cons_zero, List.set_cons_succ]
        change wpAnyH _ _ _ _ _ _ _ _ (st5 V4 ox 0 (.int .i64 A.kind) (.int .i64 A.so) (.string A.name) (.slice aal A.labels.length acl) (.slice aak A.kids.length ack))
        change BMW _ _ _ _ _ _ _ _ _ _ _ _ _ _ _ _ _ _ _ _ _ (st5 V4 ox 0 (.int .i64 A.kind) (.int .i64 A.so) (.string A.name) (.slice aal A.labels.length acl) (.slice aak A.kids.length ack)) at hS
        generalize st5 V4 ox 0 (.int .i64 A.kind) (.int .i64 A.so) (.string A.name) (.slice aal A.labels.length acl) (.slice aak A.kids.length ack) = V5 at *
        refine take_oneHL 7 (AllReadyH.cons (by rw [List.getElem?_toArray]; rfl) (fun K hK => ?_) AllReadyH.nil) (by as_aux_lemma => kernel_rfl)
        obtain ⟨_, _, z0, z1, z2, z3, z4, zf⟩ := id HZy.out
        have f0 := zf 0
        have f1 := zf 1
        have f2 := zf 2
        have f3 := zf 3
        have f4 := zf 4
        clear zf
        have hSn := hS.st (b := oy) HZy.out.lo (.int .i64 Bt.kind) (.int .i64 Bt.so) (.string Bt.name) (.slice bal Bt.labels.length bcl) (.slice bak Bt.kids.length bck)
        have HTB := hideK (show TyAt (st5 V5 oy 0 (.int .i64 Bt.kind) (.int .i64 Bt.so) (.string Bt.name) (.slice bal Bt.labels.length bcl) (.slice bak Bt.kids.length bck)) oy 0 Bt bal bcl bak bck from HZy.out.ty Bt bal bcl bak bck)
        have HLY := hideK (show oy < (st5 V5 oy 0 (.int .i64 Bt.kind) (.int .i64 Bt.so) (.string Bt.name) (.slice bal Bt.labels.length bcl) (.slice bak Bt.kids.length bck)).heap.size from by rw [st5_size]; exact HZy.out.lt)
        replace HVx := hideK (HVx.out.st (fun _ q => q.1) (b := oy) (by simp) HZy.out.lo (.int .i64 Bt.kind) (.int .i64 Bt.so) (.string Bt.name) (.slice bal Bt.labels.length bcl) (.slice bak Bt.kids.length bck))
        replace HVy := hideK (HVy.out.st (fun _ q => q.1) (b := oy) (by simp) HZy.out.lo (.int .i64 Bt.kind) (.int .i64 Bt.so) (.string Bt.name) (.slice bal Bt.labels.length bcl) (.slice bak Bt.kids.length bck))
        replace HTA := hideK (tyAt_stB (b := oy) HNE.out.symm (.int .i64 Bt.kind) (.int .i64 Bt.so) (.string Bt.name) (.slice bal Bt.labels.length bcl) (.slice bak Bt.kids.length bck) HTA.out)
        replace HLX := hideK (show ox < (st5 V5 oy 0 (.int .i64 Bt.kind) (.int .i64 Bt.so) (.string Bt.name) (.slice bal Bt.labels.length bcl) (.slice bak Bt.kids.length bck)).heap.size from by rw [st5_size]; exact HLX.out)
        have HOY := hideK HZy.out.lo
        have HXY := hideK HNE.out.symm
        clear HZy HNE
        go_simp
        refine hK.out _ _ hSn ?_
        clear hS hK K hSn z0 z1 z2 z3 z4 f0 f1 f2 f3 f4
        intro hS
        try simp only [Act.put, List.setIfInBounds_toArray, List.set_cons_zero, List.set_cons_succ]
        change wpAnyH _ _ _ _ _ _ _ _ (st5 V5 oy 0 (.int .i64 Bt.kind) (.int .i64 Bt.so) (.string Bt.name) (.slice bal Bt.labels.length bcl) (.slice bak Bt.kids.length bck))
        change BMW _ _ _ _ _ _ _ _ _ _ _ _ _ _ _ _ _ _ _ _ _ (st5 V5 oy 0 (.int .i64 Bt.kind) (.int .i64 Bt.so) (.string Bt.name) (.slice bal Bt.labels.length bcl) (.slice bak Bt.kids.length bck)) at hS
        generalize st5 V5 oy 0 (.int .i64 Bt.kind) (.int .i64 Bt.so) (.string Bt.name) (.slice bal Bt.labels.length bcl) (.slice bak Bt.kids.length bck) = V6 at *
        refine wpAnyH_done (by as_aux_lemma => kernel_rfl) ?_ _
        go_wp2_with fail
        go_meet
        exact ⟨ox, oy, A, aal, acl, aak, ack, ad, Bt, bal, bcl, bak, bck, bd, rfl, rfl, hS, HUx.out, H8x.out, HUy.out, H8y.out, tbb_of HVx.out HTA.out (by simp), tbb_of HVy.out HTB.out (by simp), HXY.out, HOX.out, HOY.out, HLX.out, HLY.out⟩
    · go_simp
      have hSn := hS.al (.cells #[.int .i64 0, .int .i64 0, .string ⟨#[]⟩, .slice none 0 0, .slice none 0 0] 25)
      have HZx := hideK (BX5.new (L := L) hS.lo.2.2)
      have HNE := hideK (show oy ≠ V1.heap.size from by have := HZy.out.lt; omega)
      replace HZy := hideK (HZy.out.al (.cells #[.int .i64 0, .int .i64 0, .string ⟨#[]⟩, .slice none 0 0, .slice none 0 0] 25))
      refine hK.out _ _ hSn ?_
      clear hS hK K hSn
      intro hS
      try simp only [Act.put, List.setIfInBounds_toArray, List.set_cons_zero, List.set_cons_succ]
      generalize V1.heap.size = ox at *
      generalize World.alloc V1 (.cells #[.int .i64 0, .int .i64 0, .string ⟨#[]⟩, .slice none 0 0, .slice none 0 0] 25) = V2 at *
      refine take_oneHL 1 (AllReadyH.cons (by rw [List.getElem?_toArray]; rfl) (fun K hK => ?_) AllReadyH.nil) (by as_aux_lemma => kernel_rfl)
      go_simp
      refine (Cx.out _ hS).mono ?_
      rintro e V3 ⟨⟨A, hux, h8x, aal, acl, aak, ack, ad, rfl, h1, h2, h3⟩, hb⟩
      have hSn := hS.keep hb
      have HVx := hideK (tvb_new (L := L) [ox, oy] (fun b hb => by simp only [List.mem_cons, List.not_mem_nil, or_false] at hb; rcases hb with rfl | rfl; exact HZx.out.lt; exact HZy.out.lt) hS.lo.2.2 h1 h2 h3)
      have HUx := hideK hux
      have H8x := hideK h8x
      replace HZy := hideK (HZy.out.keep hb)
      replace HZx := hideK (HZx.out.keep hb)
      refine hK.out _ _ hSn ?_
      clear hS hK K hSn hb h1 h2 h3 hux h8x
      intro hS
      try simp only [Act.put, List.setIfInBounds_toArray, List.set_cons_zero, List.set_cons_succ]
      refine take_oneHL 3 (AllReadyH.cons (by rw [List.getElem?_toArray]; rfl) (fun K hK => ?_) AllReadyH.nil) (by as_aux_lemma => kernel_rfl)
      go_simp
      refine (Cy.out _ hS).mono ?_
      rintro e V4 ⟨⟨Bt, huy, h8y, bal, bcl, bak, bck, bd, rfl, h1, h2, h3⟩, hb⟩
      have hSn := hS.keep hb
      have HVy := hideK (tvb_new (L := L) [ox, oy] (fun b hb => by simp only [List.mem_cons, List.not_mem_nil, or_false] at hb; rcases hb with rfl | rfl; exact HZx.out.lt; exact HZy.out.lt) hS.lo.2.2 h1 h2 h3)
      have HUy := hideK huy
      have H8y := hideK h8y
      replace HZy := hideK (HZy.out.keep hb)
      replace HZx := hideK (HZx.out.keep hb)
      replace HVx := hideK (HVx.out.keep (fun _ q => q.1) hS.lo.2.2 hb)
      refine hK.out _ _ hSn ?_
      clear hS hK K hSn hb h1 h2 h3 huy h8y
      intro hS
      try simp only [Act.put, List.setIfInBounds_toArray, List.set_cons_zero, List.set_cons_succ]
      refine take_oneHL 6 (AllReadyH.cons (by rw [List.getElem?_toArray]; rfl) (fun K hK => ?_) AllReadyH.nil) (by as_aux_lemma => kernel_rfl)
      obtain ⟨_, _, z0, z1, z2, z3, z4, zf⟩ := id HZx.out
      have f0 := zf 0
      have f1 := zf 1
      have f2 := zf 2
      have f3 := zf 3
      have f4 := zf 4
      clear zf
      have hSn := hS.st (b := ox) HZx.out.lo (.int .i64 A.kind) (.int .i64 A.so) (.string A.name) (.slice aal A.labels.length acl) (.slice aak A.kids.length ack)
      have HOX := hideK HZx.out.lo
      have HTA := hideK (show TyAt (st5 V4 ox 0 (.int .i64 A.kind) (.int .i64 A.so) (.string A.name) (.slice aal A.labels.length acl) (.slice aak A.kids.length ack)) ox 0 A aal acl aak ack from HZx.out.ty A aal acl aak ack)
      have HLX := hideK (show ox < (st5 V4 ox 0 (.int .i64 A.kind) (.int .i64 A.so) (.string A.name) (.slice aal A.labels.length acl) (.slice aak A.kids.length ack)).heap.size from by rw [st5_size]; exact HZx.out.lt)
      replace HVx := hideK (HVx.out.st (fun _ q => q.1) (b := ox) (by simp) HZx.out.lo (.int .i64 A.kind) (.int .i64 A.so) (.string A.name) (.slice aal A.labels.length acl) (.slice aak A.kids.length ack))
      replace HVy := hideK (HVy.out.st (fun _ q => q.1) (b := ox) (by simp) HZx.out.lo (.int .i64 A.kind) (.int .i64 A.so) (.string A.name) (.slice aal A.labels.length acl) (.slice aak A.kids.length ack))
      replace HZy := hideK (HZy.out.st (b' := ox) HNE.out (.int .i64 A.kind) (.int .i64 A.so) (.string A.name) (.slice aal A.labels.length acl) (.slice aak A.kids.length ack))
      clear HZx
      go_simp
      refine hK.out _ _ hSn ?_
      clear hS hK K hSn z0 z1 z2 z3 z4 f0 f1 f2 f3 f4
      intro hS
      try simp only [Act.put, List.setIfInBounds_toArray, List.set_cons_zero, List.set_cons_succ]
      change wpAnyH _ _ _ _ _ _ _ _ (st5 V4 ox 0 (.int .i64 A.kind) (.int .i64 A.so) (.string A.name) (.slice aal A.labels.length acl) (.slice aak A.kids.length ack))
      change BMW _ _ _ _ _ _ _ _ _ _ _ _ _ _ _ _ _ _ _ _ _ (st5 V4 ox 0 (.int .i64 A.kind) (.int .i64 A.so) (.string A.name) (.slice aal A.labels.length acl) (.slice aak A.kids.length ack)) at hS
      generalize st5 V4 ox 0 (.int .i64 A.kind) (.int .i64 A.so) (.string A.name) (.slice aal A.labels.length acl) (.slice aak A.kids.length ack) = V5 at *
      refine take_oneHL 7 (AllReadyH.cons (by rw [List.getElem?_toArray]; rfl) (fun K hK => ?_) AllReadyH.nil) (by as_aux_lemma => kernel_rfl)
      obtain ⟨_, _, z0, z1, z2, z3, z4, zf⟩ := id HZy.out
      have f0 := zf 0
      have f1 := zf 1
      have f2 := zf 2
      have f3 := zf 3
      have f4 := zf 4
      clear zf
      have hSn := hS.st (b := oy) HZy.out.lo (.int .i64 Bt.kind) (.int .i64 Bt.so) (.string Bt.name) (.slice bal Bt.labels.length bcl) (.slice bak Bt.kids.length bck)
      have HTB := hideK (show TyAt (st5 V5 oy 0 (.int .i64 Bt.kind) (.int .i64 Bt.so) (.string Bt.name) (.slice bal Bt.labels.length bcl) (.slice bak Bt.kids.length bck)) oy 0 Bt bal bcl bak bck from HZy.out.ty Bt bal bcl bak bck)
      have HLY := hideK (show oy < (st5 V5 oy 0 (.int .i64 Bt.kind) (.int .i64 Bt.so) (.string Bt.name) (.slice bal Bt.labels.length bcl) (.slice bak Bt.kids.length bck)).heap.size from by rw [st5_size]; exact HZy.out.lt)
      replace HVx := hideK (HVx.out.st (fun _ q => q.1) (b := oy) (by simp) HZy.out.lo (.int .i64 Bt.kind) (.int .i64 Bt.so) (.string Bt.name) (.slice bal Bt.labels.length bcl) (.slice bak Bt.kids.length bck))
      replace HVy := hideK (HVy.out.st (fun _ q => q.1) (b := oy) (by simp) HZy.out.lo (.int .i64 Bt.kind) (.int .i64 Bt.so) (.string Bt.name) (.slice bal Bt.labels.length bcl) (.slice bak Bt.kids.length bck))
      replace HTA := hideK (tyAt_stB (b := oy) HNE.out.symm (.int .i64 Bt.kind) (.int .i64 Bt.so) (.string Bt.name) (.slice bal Bt.labels.length bcl) (.slice bak Bt.kids.length bck) HTA.out)
      replace HLX := hideK (show ox < (st5 V5 oy 0 (.int .i64 Bt.kind) (.int .i64 Bt.so) (.string Bt.name) (.slice bal Bt.labels.length bcl) (.slice bak Bt.kids.length bck)).heap.size from by rw [st5_size]; exact HLX.out)
      have HOY := hideK HZy.out.lo
      have HXY := hideK HNE.out.symm
      clear HZy HNE
      go_simp
      refine hK.out _ _ hSn ?_
      clear hS hK K hSn z0 z1 z2 z3 z4 f0 f1 f2 f3 f4
      intro hS
      try simp only [Act.put, List.setIfInBounds_toArray, List.set_cons_zero, List.set_cons_succ]
      change wpAnyH _ _ _ _ _ _ _ _ (st5 V5 oy 0 (.int .i64 Bt.kind) (.int .i64 Bt.so) (.string Bt.name) (.slice bal Bt.labels.length bcl) (.slice bak Bt.kids.length bck))
      change BMW _ _ _ _ _ _ _ _ _ _ _ _ _ _ _ _ _ _ _ _ _ (st5 V5 oy 0 (.int .i64 Bt.kind) (.int .i64 Bt.so) (.string Bt.name) (.slice bal Bt.labels.length bcl) (.slice bak Bt.kids.length bck)) at hS
      generalize st5 V5 oy 0 (.int .i64 Bt.kind) (.int .i64 Bt.so) (.string Bt.name) (.slice bal Bt.labels.length bcl) (.slice bak Bt.kids.length bck) = V6 at *
      refine wpAnyH_done (by as_aux_lemma => kernel_rfl) ?_ _
      go_wp2_with fail
      go_meet
      exact ⟨ox, oy, A, aal, acl, aak, ack, ad, Bt, bal, bcl, bak, bck, bd, rfl, rfl, hS, HUx.out, H8x.out, HUy.out, H8y.out, tbb_of HVx.out HTA.out (by simp), tbb_of HVy.out HTB.out (by simp), HXY.out, HOX.out, HOY.out, HLX.out, HLY.out⟩
end Go.Proofs.YthhbbhijpkoelaaDoor
