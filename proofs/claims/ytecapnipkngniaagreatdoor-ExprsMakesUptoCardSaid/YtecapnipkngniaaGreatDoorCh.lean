/-
  The contract of package duetbig's Int.Mul, of one number by another in its place.
-/
import Derived.Test.YtecapnipkngniaaGreatDoorBh
namespace Go.Proofs.YtecapnipkngniaaGreatDoor
open Go.RowKit
set_option maxRecDepth 100000 in
set_option maxHeartbeats 4000000 in
theorem imul_any (zb qb : Nat) (xn yn : Bool) (x y : Nat) (w : World) (h : IntB w zb xn x) (hq : IntB w qb yn y) (hx : x < 18446744073709551616) (hy : y < 18446744073709551616) :
    Calls Tryz.prog 57 #[.pointer (some ⟨zb, 0, none⟩), .pointer (some ⟨zb, 0, none⟩), .pointer (some ⟨qb, 0, none⟩)] w fun e w' => e = .returned (.pointer (some ⟨zb, 0, none⟩)) ∧ (∃ n m, IntAt w' zb n m ∧ sg n m = sg xn x * sg yn y ∧ m < 4294967296 ^ 4) ∧ Below zb w w' := by
  have hd := h.drew
  have hqd := hq.drew
  have HBD : Hid (Below zb w w.drew) := (Below.refl _ _).drew
  have HS : Hid (sg (!(xn == yn)) (x * y) = sg xn x * sg yn y) := by show _ = _; unfold sg; cases xn <;> cases yn <;> simp [Int.mul_neg, Int.neg_mul]
  have HL : Hid (x * y < 4294967296 ^ 4) := by
    show _ < _
    have := Nat.mul_le_mul (by omega : x ≤ 18446744073709551615) (by omega : y ≤ 18446744073709551615)
    omega
  obtain ⟨g, V, hc1, hbl⟩ := hd.c1
  have hc0 := hd.c0
  obtain ⟨g2, V2, hc3, hbl2⟩ := hqd.c1
  have hc2 := hqd.c0
  have CT := hideC (bmul_any V V2 x y w.drew hbl.num hbl2.num (by omega) (by omega))
  have HI := hideC hd
  have HQ := hideC hqd
  obtain ⟨n0, cap0, rfl⟩ := hbl.slot
  obtain ⟨n1, cap1, rfl⟩ := hbl2.slot
  clear h hd hbl hq hqd hbl2
  go_enter Tryz.func57, Tryz.ntmps57
  go_wp2_with fail
  refine wp_region_any (by kernel_rfl) ?_
  change wpAny _ _ _ _ _ _ _ (World.drew _)
  refine wpAny_take (i := 0) (v := .pointer (some ⟨zb, 0, none⟩)) rfl (by kernel_rfl) (by kernel_rfl) (by kernel_rfl) (fun _ _ _ h => h) (Or.inl ⟨by rfl, fun w => by go_simp⟩) ?_
  refine wpAny_take (i := 1) (v := .pointer (some ⟨zb, 0, none⟩)) rfl (by kernel_rfl) (by kernel_rfl) (by kernel_rfl) (fun _ _ _ h => h) (Or.inl ⟨by rfl, fun w => by go_simp⟩) ?_
  refine wpAny_take (i := 2) (v := .pointer (some ⟨zb, 0, none⟩)) rfl (by kernel_rfl) (by kernel_rfl) (by kernel_rfl) (fun _ _ _ h => h) (Or.inl ⟨by rfl, fun w => by go_simp⟩) ?_
  refine wpAny_take (i := 3) (v := .pointer (some ⟨zb, 0, none⟩)) rfl (by kernel_rfl) (by kernel_rfl) (by kernel_rfl) (fun _ _ _ h => h) (Or.inl ⟨by rfl, fun w => by go_simp⟩) ?_
  refine wpAny_take (i := 5) (v := .pointer (some ⟨qb, 0, none⟩)) rfl (by kernel_rfl) (by kernel_rfl) (by kernel_rfl) (fun _ _ _ h => h) (Or.inl ⟨by rfl, fun w => by go_simp⟩) ?_
  refine wpAny_take (i := 6) (v := .pointer (some ⟨qb, 0, none⟩)) rfl (by kernel_rfl) (by kernel_rfl) (by kernel_rfl) (fun _ _ _ h => h) (Or.inl ⟨by rfl, fun w => by go_simp⟩) ?_
  refine wpAny_take (i := 7) (v := .pointer (some ⟨qb, 0, none⟩)) rfl (by kernel_rfl) (by kernel_rfl) (by kernel_rfl) (fun _ _ _ h => h) (Or.inl ⟨by rfl, fun w => by go_simp⟩) ?_
  refine wpAny_take (i := 10) (v := .pointer (some ⟨zb, 0, none⟩)) rfl (by kernel_rfl) (by kernel_rfl) (by kernel_rfl) (fun _ _ _ h => h) (Or.inl ⟨by rfl, fun w => by go_simp⟩) ?_
  refine wpAny_take (i := 11) (v := .pointer (some ⟨zb, 0, none⟩)) rfl (by kernel_rfl) (by kernel_rfl) (by kernel_rfl) (fun _ _ _ h => h) (Or.inl ⟨by rfl, fun w => by go_simp⟩) ?_
  refine wpAny_take (i := 12) (v := .pointer (some ⟨zb, 1, none⟩)) rfl (by kernel_rfl) (by kernel_rfl) (by kernel_rfl) (fun _ _ _ h => h) (Or.inl ⟨by rfl, fun w => by go_simp⟩) ?_
  refine wpAny_take (i := 14) (v := .pointer (some ⟨qb, 0, none⟩)) rfl (by kernel_rfl) (by kernel_rfl) (by kernel_rfl) (fun _ _ _ h => h) (Or.inl ⟨by rfl, fun w => by go_simp⟩) ?_
  refine wpAny_take (i := 15) (v := .pointer (some ⟨qb, 0, none⟩)) rfl (by kernel_rfl) (by kernel_rfl) (by kernel_rfl) (fun _ _ _ h => h) (Or.inl ⟨by rfl, fun w => by go_simp⟩) ?_
  refine wpAny_take (i := 16) (v := .pointer (some ⟨qb, 1, none⟩)) rfl (by kernel_rfl) (by kernel_rfl) (by kernel_rfl) (fun _ _ _ h => h) (Or.inl ⟨by rfl, fun w => by go_simp⟩) ?_
  refine wpAny_ready (rs := [4, 8, 13, 17]) (by kernel_rfl) (by simp) ?_
  refine (AllReady.cons rfl (fun K hK => ?_) (AllReady.cons rfl (fun K hK => ?_) (AllReady.cons rfl (fun K hK => ?_) (AllReady.cons rfl (fun K hK => ?_) AllReady.nil))))
  · go_simp
    refine hK _ _ ?_
    clear hK K
    refine wpAny_ready (rs := [8, 13, 17]) (by kernel_rfl) (by simp) ?_
    refine (AllReady.cons rfl (fun K hK => ?_) (AllReady.cons rfl (fun K hK => ?_) (AllReady.cons rfl (fun K hK => ?_) AllReady.nil)))
    · go_simp
      refine hK _ _ ?_
      clear hK K
      refine wpAny_take (i := 9) (v := .bool (!(xn == yn))) rfl (by kernel_rfl) (by kernel_rfl) (by kernel_rfl) (fun _ _ _ h => h) (Or.inl ⟨by rfl, fun w => by go_simp⟩) ?_
      refine wpAny_ready (rs := [13, 17]) (by kernel_rfl) (by simp) ?_
      refine (AllReady.cons rfl (fun K hK => ?_) (AllReady.cons rfl (fun K hK => ?_) AllReady.nil))
      · go_simp
        refine hK _ _ ?_
        clear hK K
        refine take_oneB 17 (AllReady.cons rfl (fun K hK => ?_) AllReady.nil) (by kernel_rfl)
        go_simp
        refine hK _ _ ?_
        clear hK K
        refine take_oneB 18 (AllReady.cons rfl (fun K hK => ?_) AllReady.nil) (by kernel_rfl)
        go_simp
        refine CT.out.mono ?_
        rintro e w1 ⟨v, rfl, hv, hb1⟩
        have k0 := (HI.out.keep hb1).c0
        have k2 := (HQ.out.keep hb1).c0
        obtain ⟨ao, k, cap, rfl⟩ := hv.slc
        refine hK _ _ ?_
        clear hK K
        refine take_oneB 19 (AllReady.cons rfl (fun K hK => ?_) AllReady.nil) (by kernel_rfl)
        go_simp
        refine (give_end HI.out hb1 (!(xn == yn)) _ (x * y) hv).mono ?_
        rintro e w2 ⟨rfl, ⟨n', hn1, hn2⟩, hb2⟩
        refine hK _ _ ?_
        clear hK K
        refine take_oneB 20 (AllReady.cons rfl (fun K hK => ?_) AllReady.nil) (by kernel_rfl)
        go_simp
        refine hK _ _ ?_
        clear hK K
        refine wpAny_done (by kernel_rfl) ?_ _
        go_wp2_with fail
        go_ret
        exact ⟨rfl, ⟨n', x * y, hn1, by rw [hn2, HS.out], HL.out⟩, HBD.out.trans hb2⟩
      · go_simp
        refine hK _ _ ?_
        clear hK K
        refine take_oneB 13 (AllReady.cons rfl (fun K hK => ?_) AllReady.nil) (by kernel_rfl)
        go_simp
        refine hK _ _ ?_
        clear hK K
        refine take_oneB 18 (AllReady.cons rfl (fun K hK => ?_) AllReady.nil) (by kernel_rfl)
        go_simp
        refine CT.out.mono ?_
        rintro e w1 ⟨v, rfl, hv, hb1⟩
        have k0 := (HI.out.keep hb1).c0
        have k2 := (HQ.out.keep hb1).c0
        obtain ⟨ao, k, cap, rfl⟩ := hv.slc
        refine hK _ _ ?_
        clear hK K
        refine take_oneB 19 (AllReady.cons rfl (fun K hK => ?_) AllReady.nil) (by kernel_rfl)
        go_simp
        refine (give_end HI.out hb1 (!(xn == yn)) _ (x * y) hv).mono ?_
        rintro e w2 ⟨rfl, ⟨n', hn1, hn2⟩, hb2⟩
        refine hK _ _ ?_
        clear hK K
        refine take_oneB 20 (AllReady.cons rfl (fun K hK => ?_) AllReady.nil) (by kernel_rfl)
        go_simp
        refine hK _ _ ?_
        clear hK K
        refine wpAny_done (by kernel_rfl) ?_ _
        go_wp2_with fail
        go_ret
        exact ⟨rfl, ⟨n', x * y, hn1, by rw [hn2, HS.out], HL.out⟩, HBD.out.trans hb2⟩
    · go_simp
      refine hK _ _ ?_
      clear hK K
      refine wpAny_ready (rs := [8, 17]) (by kernel_rfl) (by simp) ?_
      refine (AllReady.cons rfl (fun K hK => ?_) (AllReady.cons rfl (fun K hK => ?_) AllReady.nil))
      · go_simp
        refine hK _ _ ?_
        clear hK K
        refine wpAny_take (i := 9) (v := .bool (!(xn == yn))) rfl (by kernel_rfl) (by kernel_rfl) (by kernel_rfl) (fun _ _ _ h => h) (Or.inl ⟨by rfl, fun w => by go_simp⟩) ?_
        refine take_oneB 17 (AllReady.cons rfl (fun K hK => ?_) AllReady.nil) (by kernel_rfl)
        go_simp
        refine hK _ _ ?_
        clear hK K
        refine take_oneB 18 (AllReady.cons rfl (fun K hK => ?_) AllReady.nil) (by kernel_rfl)
        go_simp
        refine CT.out.mono ?_
        rintro e w1 ⟨v, rfl, hv, hb1⟩
        have k0 := (HI.out.keep hb1).c0
        have k2 := (HQ.out.keep hb1).c0
        obtain ⟨ao, k, cap, rfl⟩ := hv.slc
        refine hK _ _ ?_
        clear hK K
        refine take_oneB 19 (AllReady.cons rfl (fun K hK => ?_) AllReady.nil) (by kernel_rfl)
        go_simp
        refine (give_end HI.out hb1 (!(xn == yn)) _ (x * y) hv).mono ?_
        rintro e w2 ⟨rfl, ⟨n', hn1, hn2⟩, hb2⟩
        refine hK _ _ ?_
        clear hK K
        refine take_oneB 20 (AllReady.cons rfl (fun K hK => ?_) AllReady.nil) (by kernel_rfl)
        go_simp
        refine hK _ _ ?_
        clear hK K
        refine wpAny_done (by kernel_rfl) ?_ _
        go_wp2_with fail
        go_ret
        exact ⟨rfl, ⟨n', x * y, hn1, by rw [hn2, HS.out], HL.out⟩, HBD.out.trans hb2⟩
      · go_simp
        refine hK _ _ ?_
        clear hK K
        refine wpAny_ready (rs := [8, 18]) (by kernel_rfl) (by simp) ?_
        refine (AllReady.cons rfl (fun K hK => ?_) (AllReady.cons rfl (fun K hK => ?_) AllReady.nil))
        · go_simp
          refine hK _ _ ?_
          clear hK K
          refine wpAny_take (i := 9) (v := .bool (!(xn == yn))) rfl (by kernel_rfl) (by kernel_rfl) (by kernel_rfl) (fun _ _ _ h => h) (Or.inl ⟨by rfl, fun w => by go_simp⟩) ?_
          refine take_oneB 18 (AllReady.cons rfl (fun K hK => ?_) AllReady.nil) (by kernel_rfl)
          go_simp
          refine CT.out.mono ?_
          rintro e w1 ⟨v, rfl, hv, hb1⟩
          have k0 := (HI.out.keep hb1).c0
          have k2 := (HQ.out.keep hb1).c0
          obtain ⟨ao, k, cap, rfl⟩ := hv.slc
          refine hK _ _ ?_
          clear hK K
          refine take_oneB 19 (AllReady.cons rfl (fun K hK => ?_) AllReady.nil) (by kernel_rfl)
          go_simp
          refine (give_end HI.out hb1 (!(xn == yn)) _ (x * y) hv).mono ?_
          rintro e w2 ⟨rfl, ⟨n', hn1, hn2⟩, hb2⟩
          refine hK _ _ ?_
          clear hK K
          refine take_oneB 20 (AllReady.cons rfl (fun K hK => ?_) AllReady.nil) (by kernel_rfl)
          go_simp
          refine hK _ _ ?_
          clear hK K
          refine wpAny_done (by kernel_rfl) ?_ _
          go_wp2_with fail
          go_ret
          exact ⟨rfl, ⟨n', x * y, hn1, by rw [hn2, HS.out], HL.out⟩, HBD.out.trans hb2⟩
        · go_simp
          refine CT.out.mono ?_
          rintro e w1 ⟨v, rfl, hv, hb1⟩
          have k0 := (HI.out.keep hb1).c0
          have k2 := (HQ.out.keep hb1).c0
          obtain ⟨ao, k, cap, rfl⟩ := hv.slc
          refine hK _ _ ?_
          clear hK K
          refine take_oneB 8 (AllReady.cons rfl (fun K hK => ?_) AllReady.nil) (by kernel_rfl)
          go_simp
          refine hK _ _ ?_
          clear hK K
          refine wpAny_take (i := 9) (v := .bool (!(xn == yn))) rfl (by kernel_rfl) (by kernel_rfl) (by kernel_rfl) (fun _ _ _ h => h) (Or.inl ⟨by rfl, fun w => by go_simp⟩) ?_
          refine take_oneB 19 (AllReady.cons rfl (fun K hK => ?_) AllReady.nil) (by kernel_rfl)
          go_simp
          refine (give_end HI.out hb1 (!(xn == yn)) _ (x * y) hv).mono ?_
          rintro e w2 ⟨rfl, ⟨n', hn1, hn2⟩, hb2⟩
          refine hK _ _ ?_
          clear hK K
          refine take_oneB 20 (AllReady.cons rfl (fun K hK => ?_) AllReady.nil) (by kernel_rfl)
          go_simp
          refine hK _ _ ?_
          clear hK K
          refine wpAny_done (by kernel_rfl) ?_ _
          go_wp2_with fail
          go_ret
          exact ⟨rfl, ⟨n', x * y, hn1, by rw [hn2, HS.out], HL.out⟩, HBD.out.trans hb2⟩
    · go_simp
      refine hK _ _ ?_
      clear hK K
      refine wpAny_ready (rs := [8, 13]) (by kernel_rfl) (by simp) ?_
      refine (AllReady.cons rfl (fun K hK => ?_) (AllReady.cons rfl (fun K hK => ?_) AllReady.nil))
      · go_simp
        refine hK _ _ ?_
        clear hK K
        refine wpAny_take (i := 9) (v := .bool (!(xn == yn))) rfl (by kernel_rfl) (by kernel_rfl) (by kernel_rfl) (fun _ _ _ h => h) (Or.inl ⟨by rfl, fun w => by go_simp⟩) ?_
        refine take_oneB 13 (AllReady.cons rfl (fun K hK => ?_) AllReady.nil) (by kernel_rfl)
        go_simp
        refine hK _ _ ?_
        clear hK K
        refine take_oneB 18 (AllReady.cons rfl (fun K hK => ?_) AllReady.nil) (by kernel_rfl)
        go_simp
        refine CT.out.mono ?_
        rintro e w1 ⟨v, rfl, hv, hb1⟩
        have k0 := (HI.out.keep hb1).c0
        have k2 := (HQ.out.keep hb1).c0
        obtain ⟨ao, k, cap, rfl⟩ := hv.slc
        refine hK _ _ ?_
        clear hK K
        refine take_oneB 19 (AllReady.cons rfl (fun K hK => ?_) AllReady.nil) (by kernel_rfl)
        go_simp
        refine (give_end HI.out hb1 (!(xn == yn)) _ (x * y) hv).mono ?_
        rintro e w2 ⟨rfl, ⟨n', hn1, hn2⟩, hb2⟩
        refine hK _ _ ?_
        clear hK K
        refine take_oneB 20 (AllReady.cons rfl (fun K hK => ?_) AllReady.nil) (by kernel_rfl)
        go_simp
        refine hK _ _ ?_
        clear hK K
        refine wpAny_done (by kernel_rfl) ?_ _
        go_wp2_with fail
        go_ret
        exact ⟨rfl, ⟨n', x * y, hn1, by rw [hn2, HS.out], HL.out⟩, HBD.out.trans hb2⟩
      · go_simp
        refine hK _ _ ?_
        clear hK K
        refine wpAny_ready (rs := [8, 18]) (by kernel_rfl) (by simp) ?_
        refine (AllReady.cons rfl (fun K hK => ?_) (AllReady.cons rfl (fun K hK => ?_) AllReady.nil))
        · go_simp
          refine hK _ _ ?_
          clear hK K
          refine wpAny_take (i := 9) (v := .bool (!(xn == yn))) rfl (by kernel_rfl) (by kernel_rfl) (by kernel_rfl) (fun _ _ _ h => h) (Or.inl ⟨by rfl, fun w => by go_simp⟩) ?_
          refine take_oneB 18 (AllReady.cons rfl (fun K hK => ?_) AllReady.nil) (by kernel_rfl)
          go_simp
          refine CT.out.mono ?_
          rintro e w1 ⟨v, rfl, hv, hb1⟩
          have k0 := (HI.out.keep hb1).c0
          have k2 := (HQ.out.keep hb1).c0
          obtain ⟨ao, k, cap, rfl⟩ := hv.slc
          refine hK _ _ ?_
          clear hK K
          refine take_oneB 19 (AllReady.cons rfl (fun K hK => ?_) AllReady.nil) (by kernel_rfl)
          go_simp
          refine (give_end HI.out hb1 (!(xn == yn)) _ (x * y) hv).mono ?_
          rintro e w2 ⟨rfl, ⟨n', hn1, hn2⟩, hb2⟩
          refine hK _ _ ?_
          clear hK K
          refine take_oneB 20 (AllReady.cons rfl (fun K hK => ?_) AllReady.nil) (by kernel_rfl)
          go_simp
          refine hK _ _ ?_
          clear hK K
          refine wpAny_done (by kernel_rfl) ?_ _
          go_wp2_with fail
          go_ret
          exact ⟨rfl, ⟨n', x * y, hn1, by rw [hn2, HS.out], HL.out⟩, HBD.out.trans hb2⟩
        · go_simp
          refine CT.out.mono ?_
          rintro e w1 ⟨v, rfl, hv, hb1⟩
          have k0 := (HI.out.keep hb1).c0
          have k2 := (HQ.out.keep hb1).c0
          obtain ⟨ao, k, cap, rfl⟩ := hv.slc
          refine hK _ _ ?_
          clear hK K
          refine take_oneB 8 (AllReady.cons rfl (fun K hK => ?_) AllReady.nil) (by kernel_rfl)
          go_simp
          refine hK _ _ ?_
          clear hK K
          refine wpAny_take (i := 9) (v := .bool (!(xn == yn))) rfl (by kernel_rfl) (by kernel_rfl) (by kernel_rfl) (fun _ _ _ h => h) (Or.inl ⟨by rfl, fun w => by go_simp⟩) ?_
          refine take_oneB 19 (AllReady.cons rfl (fun K hK => ?_) AllReady.nil) (by kernel_rfl)
          go_simp
          refine (give_end HI.out hb1 (!(xn == yn)) _ (x * y) hv).mono ?_
          rintro e w2 ⟨rfl, ⟨n', hn1, hn2⟩, hb2⟩
          refine hK _ _ ?_
          clear hK K
          refine take_oneB 20 (AllReady.cons rfl (fun K hK => ?_) AllReady.nil) (by kernel_rfl)
          go_simp
          refine hK _ _ ?_
          clear hK K
          refine wpAny_done (by kernel_rfl) ?_ _
          go_wp2_with fail
          go_ret
          exact ⟨rfl, ⟨n', x * y, hn1, by rw [hn2, HS.out], HL.out⟩, HBD.out.trans hb2⟩
  · go_simp
    refine hK _ _ ?_
    clear hK K
    refine wpAny_ready (rs := [4, 13, 17]) (by kernel_rfl) (by simp) ?_
    refine (AllReady.cons rfl (fun K hK => ?_) (AllReady.cons rfl (fun K hK => ?_) (AllReady.cons rfl (fun K hK => ?_) AllReady.nil)))
    · go_simp
      refine hK _ _ ?_
      clear hK K
      refine wpAny_take (i := 9) (v := .bool (!(xn == yn))) rfl (by kernel_rfl) (by kernel_rfl) (by kernel_rfl) (fun _ _ _ h => h) (Or.inl ⟨by rfl, fun w => by go_simp⟩) ?_
      refine wpAny_ready (rs := [13, 17]) (by kernel_rfl) (by simp) ?_
      refine (AllReady.cons rfl (fun K hK => ?_) (AllReady.cons rfl (fun K hK => ?_) AllReady.nil))
      · go_simp
        refine hK _ _ ?_
        clear hK K
        refine take_oneB 17 (AllReady.cons rfl (fun K hK => ?_) AllReady.nil) (by kernel_rfl)
        go_simp
        refine hK _ _ ?_
        clear hK K
        refine take_oneB 18 (AllReady.cons rfl (fun K hK => ?_) AllReady.nil) (by kernel_rfl)
        go_simp
        refine CT.out.mono ?_
        rintro e w1 ⟨v, rfl, hv, hb1⟩
        have k0 := (HI.out.keep hb1).c0
        have k2 := (HQ.out.keep hb1).c0
        obtain ⟨ao, k, cap, rfl⟩ := hv.slc
        refine hK _ _ ?_
        clear hK K
        refine take_oneB 19 (AllReady.cons rfl (fun K hK => ?_) AllReady.nil) (by kernel_rfl)
        go_simp
        refine (give_end HI.out hb1 (!(xn == yn)) _ (x * y) hv).mono ?_
        rintro e w2 ⟨rfl, ⟨n', hn1, hn2⟩, hb2⟩
        refine hK _ _ ?_
        clear hK K
        refine take_oneB 20 (AllReady.cons rfl (fun K hK => ?_) AllReady.nil) (by kernel_rfl)
        go_simp
        refine hK _ _ ?_
        clear hK K
        refine wpAny_done (by kernel_rfl) ?_ _
        go_wp2_with fail
        go_ret
        exact ⟨rfl, ⟨n', x * y, hn1, by rw [hn2, HS.out], HL.out⟩, HBD.out.trans hb2⟩
      · go_simp
        refine hK _ _ ?_
        clear hK K
        refine take_oneB 13 (AllReady.cons rfl (fun K hK => ?_) AllReady.nil) (by kernel_rfl)
        go_simp
        refine hK _ _ ?_
        clear hK K
        refine take_oneB 18 (AllReady.cons rfl (fun K hK => ?_) AllReady.nil) (by kernel_rfl)
        go_simp
        refine CT.out.mono ?_
        rintro e w1 ⟨v, rfl, hv, hb1⟩
        have k0 := (HI.out.keep hb1).c0
        have k2 := (HQ.out.keep hb1).c0
        obtain ⟨ao, k, cap, rfl⟩ := hv.slc
        refine hK _ _ ?_
        clear hK K
        refine take_oneB 19 (AllReady.cons rfl (fun K hK => ?_) AllReady.nil) (by kernel_rfl)
        go_simp
        refine (give_end HI.out hb1 (!(xn == yn)) _ (x * y) hv).mono ?_
        rintro e w2 ⟨rfl, ⟨n', hn1, hn2⟩, hb2⟩
        refine hK _ _ ?_
        clear hK K
        refine take_oneB 20 (AllReady.cons rfl (fun K hK => ?_) AllReady.nil) (by kernel_rfl)
        go_simp
        refine hK _ _ ?_
        clear hK K
        refine wpAny_done (by kernel_rfl) ?_ _
        go_wp2_with fail
        go_ret
        exact ⟨rfl, ⟨n', x * y, hn1, by rw [hn2, HS.out], HL.out⟩, HBD.out.trans hb2⟩
    · go_simp
      refine hK _ _ ?_
      clear hK K
      refine wpAny_ready (rs := [4, 17]) (by kernel_rfl) (by simp) ?_
      refine (AllReady.cons rfl (fun K hK => ?_) (AllReady.cons rfl (fun K hK => ?_) AllReady.nil))
      · go_simp
        refine hK _ _ ?_
        clear hK K
        refine wpAny_take (i := 9) (v := .bool (!(xn == yn))) rfl (by kernel_rfl) (by kernel_rfl) (by kernel_rfl) (fun _ _ _ h => h) (Or.inl ⟨by rfl, fun w => by go_simp⟩) ?_
        refine take_oneB 17 (AllReady.cons rfl (fun K hK => ?_) AllReady.nil) (by kernel_rfl)
        go_simp
        refine hK _ _ ?_
        clear hK K
        refine take_oneB 18 (AllReady.cons rfl (fun K hK => ?_) AllReady.nil) (by kernel_rfl)
        go_simp
        refine CT.out.mono ?_
        rintro e w1 ⟨v, rfl, hv, hb1⟩
        have k0 := (HI.out.keep hb1).c0
        have k2 := (HQ.out.keep hb1).c0
        obtain ⟨ao, k, cap, rfl⟩ := hv.slc
        refine hK _ _ ?_
        clear hK K
        refine take_oneB 19 (AllReady.cons rfl (fun K hK => ?_) AllReady.nil) (by kernel_rfl)
        go_simp
        refine (give_end HI.out hb1 (!(xn == yn)) _ (x * y) hv).mono ?_
        rintro e w2 ⟨rfl, ⟨n', hn1, hn2⟩, hb2⟩
        refine hK _ _ ?_
        clear hK K
        refine take_oneB 20 (AllReady.cons rfl (fun K hK => ?_) AllReady.nil) (by kernel_rfl)
        go_simp
        refine hK _ _ ?_
        clear hK K
        refine wpAny_done (by kernel_rfl) ?_ _
        go_wp2_with fail
        go_ret
        exact ⟨rfl, ⟨n', x * y, hn1, by rw [hn2, HS.out], HL.out⟩, HBD.out.trans hb2⟩
      · go_simp
        refine hK _ _ ?_
        clear hK K
        refine wpAny_ready (rs := [4, 18]) (by kernel_rfl) (by simp) ?_
        refine (AllReady.cons rfl (fun K hK => ?_) (AllReady.cons rfl (fun K hK => ?_) AllReady.nil))
        · go_simp
          refine hK _ _ ?_
          clear hK K
          refine wpAny_take (i := 9) (v := .bool (!(xn == yn))) rfl (by kernel_rfl) (by kernel_rfl) (by kernel_rfl) (fun _ _ _ h => h) (Or.inl ⟨by rfl, fun w => by go_simp⟩) ?_
          refine take_oneB 18 (AllReady.cons rfl (fun K hK => ?_) AllReady.nil) (by kernel_rfl)
          go_simp
          refine CT.out.mono ?_
          rintro e w1 ⟨v, rfl, hv, hb1⟩
          have k0 := (HI.out.keep hb1).c0
          have k2 := (HQ.out.keep hb1).c0
          obtain ⟨ao, k, cap, rfl⟩ := hv.slc
          refine hK _ _ ?_
          clear hK K
          refine take_oneB 19 (AllReady.cons rfl (fun K hK => ?_) AllReady.nil) (by kernel_rfl)
          go_simp
          refine (give_end HI.out hb1 (!(xn == yn)) _ (x * y) hv).mono ?_
          rintro e w2 ⟨rfl, ⟨n', hn1, hn2⟩, hb2⟩
          refine hK _ _ ?_
          clear hK K
          refine take_oneB 20 (AllReady.cons rfl (fun K hK => ?_) AllReady.nil) (by kernel_rfl)
          go_simp
          refine hK _ _ ?_
          clear hK K
          refine wpAny_done (by kernel_rfl) ?_ _
          go_wp2_with fail
          go_ret
          exact ⟨rfl, ⟨n', x * y, hn1, by rw [hn2, HS.out], HL.out⟩, HBD.out.trans hb2⟩
        · go_simp
          refine CT.out.mono ?_
          rintro e w1 ⟨v, rfl, hv, hb1⟩
          have k0 := (HI.out.keep hb1).c0
          have k2 := (HQ.out.keep hb1).c0
          obtain ⟨ao, k, cap, rfl⟩ := hv.slc
          refine hK _ _ ?_
          clear hK K
          refine take_oneB 4 (AllReady.cons rfl (fun K hK => ?_) AllReady.nil) (by kernel_rfl)
          go_simp
          refine hK _ _ ?_
          clear hK K
          refine wpAny_take (i := 9) (v := .bool (!(xn == yn))) rfl (by kernel_rfl) (by kernel_rfl) (by kernel_rfl) (fun _ _ _ h => h) (Or.inl ⟨by rfl, fun w => by go_simp⟩) ?_
          refine take_oneB 19 (AllReady.cons rfl (fun K hK => ?_) AllReady.nil) (by kernel_rfl)
          go_simp
          refine (give_end HI.out hb1 (!(xn == yn)) _ (x * y) hv).mono ?_
          rintro e w2 ⟨rfl, ⟨n', hn1, hn2⟩, hb2⟩
          refine hK _ _ ?_
          clear hK K
          refine take_oneB 20 (AllReady.cons rfl (fun K hK => ?_) AllReady.nil) (by kernel_rfl)
          go_simp
          refine hK _ _ ?_
          clear hK K
          refine wpAny_done (by kernel_rfl) ?_ _
          go_wp2_with fail
          go_ret
          exact ⟨rfl, ⟨n', x * y, hn1, by rw [hn2, HS.out], HL.out⟩, HBD.out.trans hb2⟩
    · go_simp
      refine hK _ _ ?_
      clear hK K
      refine wpAny_ready (rs := [4, 13]) (by kernel_rfl) (by simp) ?_
      refine (AllReady.cons rfl (fun K hK => ?_) (AllReady.cons rfl (fun K hK => ?_) AllReady.nil))
      · go_simp
        refine hK _ _ ?_
        clear hK K
        refine wpAny_take (i := 9) (v := .bool (!(xn == yn))) rfl (by kernel_rfl) (by kernel_rfl) (by kernel_rfl) (fun _ _ _ h => h) (Or.inl ⟨by rfl, fun w => by go_simp⟩) ?_
        refine take_oneB 13 (AllReady.cons rfl (fun K hK => ?_) AllReady.nil) (by kernel_rfl)
        go_simp
        refine hK _ _ ?_
        clear hK K
        refine take_oneB 18 (AllReady.cons rfl (fun K hK => ?_) AllReady.nil) (by kernel_rfl)
        go_simp
        refine CT.out.mono ?_
        rintro e w1 ⟨v, rfl, hv, hb1⟩
        have k0 := (HI.out.keep hb1).c0
        have k2 := (HQ.out.keep hb1).c0
        obtain ⟨ao, k, cap, rfl⟩ := hv.slc
        refine hK _ _ ?_
        clear hK K
        refine take_oneB 19 (AllReady.cons rfl (fun K hK => ?_) AllReady.nil) (by kernel_rfl)
        go_simp
        refine (give_end HI.out hb1 (!(xn == yn)) _ (x * y) hv).mono ?_
        rintro e w2 ⟨rfl, ⟨n', hn1, hn2⟩, hb2⟩
        refine hK _ _ ?_
        clear hK K
        refine take_oneB 20 (AllReady.cons rfl (fun K hK => ?_) AllReady.nil) (by kernel_rfl)
        go_simp
        refine hK _ _ ?_
        clear hK K
        refine wpAny_done (by kernel_rfl) ?_ _
        go_wp2_with fail
        go_ret
        exact ⟨rfl, ⟨n', x * y, hn1, by rw [hn2, HS.out], HL.out⟩, HBD.out.trans hb2⟩
      · go_simp
        refine hK _ _ ?_
        clear hK K
        refine wpAny_ready (rs := [4, 18]) (by kernel_rfl) (by simp) ?_
        refine (AllReady.cons rfl (fun K hK => ?_) (AllReady.cons rfl (fun K hK => ?_) AllReady.nil))
        · go_simp
          refine hK _ _ ?_
          clear hK K
          refine wpAny_take (i := 9) (v := .bool (!(xn == yn))) rfl (by kernel_rfl) (by kernel_rfl) (by kernel_rfl) (fun _ _ _ h => h) (Or.inl ⟨by rfl, fun w => by go_simp⟩) ?_
          refine take_oneB 18 (AllReady.cons rfl (fun K hK => ?_) AllReady.nil) (by kernel_rfl)
          go_simp
          refine CT.out.mono ?_
          rintro e w1 ⟨v, rfl, hv, hb1⟩
          have k0 := (HI.out.keep hb1).c0
          have k2 := (HQ.out.keep hb1).c0
          obtain ⟨ao, k, cap, rfl⟩ := hv.slc
          refine hK _ _ ?_
          clear hK K
          refine take_oneB 19 (AllReady.cons rfl (fun K hK => ?_) AllReady.nil) (by kernel_rfl)
          go_simp
          refine (give_end HI.out hb1 (!(xn == yn)) _ (x * y) hv).mono ?_
          rintro e w2 ⟨rfl, ⟨n', hn1, hn2⟩, hb2⟩
          refine hK _ _ ?_
          clear hK K
          refine take_oneB 20 (AllReady.cons rfl (fun K hK => ?_) AllReady.nil) (by kernel_rfl)
          go_simp
          refine hK _ _ ?_
          clear hK K
          refine wpAny_done (by kernel_rfl) ?_ _
          go_wp2_with fail
          go_ret
          exact ⟨rfl, ⟨n', x * y, hn1, by rw [hn2, HS.out], HL.out⟩, HBD.out.trans hb2⟩
        · go_simp
          refine CT.out.mono ?_
          rintro e w1 ⟨v, rfl, hv, hb1⟩
          have k0 := (HI.out.keep hb1).c0
          have k2 := (HQ.out.keep hb1).c0
          obtain ⟨ao, k, cap, rfl⟩ := hv.slc
          refine hK _ _ ?_
          clear hK K
          refine take_oneB 4 (AllReady.cons rfl (fun K hK => ?_) AllReady.nil) (by kernel_rfl)
          go_simp
          refine hK _ _ ?_
          clear hK K
          refine wpAny_take (i := 9) (v := .bool (!(xn == yn))) rfl (by kernel_rfl) (by kernel_rfl) (by kernel_rfl) (fun _ _ _ h => h) (Or.inl ⟨by rfl, fun w => by go_simp⟩) ?_
          refine take_oneB 19 (AllReady.cons rfl (fun K hK => ?_) AllReady.nil) (by kernel_rfl)
          go_simp
          refine (give_end HI.out hb1 (!(xn == yn)) _ (x * y) hv).mono ?_
          rintro e w2 ⟨rfl, ⟨n', hn1, hn2⟩, hb2⟩
          refine hK _ _ ?_
          clear hK K
          refine take_oneB 20 (AllReady.cons rfl (fun K hK => ?_) AllReady.nil) (by kernel_rfl)
          go_simp
          refine hK _ _ ?_
          clear hK K
          refine wpAny_done (by kernel_rfl) ?_ _
          go_wp2_with fail
          go_ret
          exact ⟨rfl, ⟨n', x * y, hn1, by rw [hn2, HS.out], HL.out⟩, HBD.out.trans hb2⟩
  · go_simp
    refine hK _ _ ?_
    clear hK K
    refine wpAny_ready (rs := [4, 8, 17]) (by kernel_rfl) (by simp) ?_
    refine (AllReady.cons rfl (fun K hK => ?_) (AllReady.cons rfl (fun K hK => ?_) (AllReady.cons rfl (fun K hK => ?_) AllReady.nil)))
    · go_simp
      refine hK _ _ ?_
      clear hK K
      refine wpAny_ready (rs := [8, 17]) (by kernel_rfl) (by simp) ?_
      refine (AllReady.cons rfl (fun K hK => ?_) (AllReady.cons rfl (fun K hK => ?_) AllReady.nil))
      · go_simp
        refine hK _ _ ?_
        clear hK K
        refine wpAny_take (i := 9) (v := .bool (!(xn == yn))) rfl (by kernel_rfl) (by kernel_rfl) (by kernel_rfl) (fun _ _ _ h => h) (Or.inl ⟨by rfl, fun w => by go_simp⟩) ?_
        refine take_oneB 17 (AllReady.cons rfl (fun K hK => ?_) AllReady.nil) (by kernel_rfl)
        go_simp
        refine hK _ _ ?_
        clear hK K
        refine take_oneB 18 (AllReady.cons rfl (fun K hK => ?_) AllReady.nil) (by kernel_rfl)
        go_simp
        refine CT.out.mono ?_
        rintro e w1 ⟨v, rfl, hv, hb1⟩
        have k0 := (HI.out.keep hb1).c0
        have k2 := (HQ.out.keep hb1).c0
        obtain ⟨ao, k, cap, rfl⟩ := hv.slc
        refine hK _ _ ?_
        clear hK K
        refine take_oneB 19 (AllReady.cons rfl (fun K hK => ?_) AllReady.nil) (by kernel_rfl)
        go_simp
        refine (give_end HI.out hb1 (!(xn == yn)) _ (x * y) hv).mono ?_
        rintro e w2 ⟨rfl, ⟨n', hn1, hn2⟩, hb2⟩
        refine hK _ _ ?_
        clear hK K
        refine take_oneB 20 (AllReady.cons rfl (fun K hK => ?_) AllReady.nil) (by kernel_rfl)
        go_simp
        refine hK _ _ ?_
        clear hK K
        refine wpAny_done (by kernel_rfl) ?_ _
        go_wp2_with fail
        go_ret
        exact ⟨rfl, ⟨n', x * y, hn1, by rw [hn2, HS.out], HL.out⟩, HBD.out.trans hb2⟩
      · go_simp
        refine hK _ _ ?_
        clear hK K
        refine wpAny_ready (rs := [8, 18]) (by kernel_rfl) (by simp) ?_
        refine (AllReady.cons rfl (fun K hK => ?_) (AllReady.cons rfl (fun K hK => ?_) AllReady.nil))
        · go_simp
          refine hK _ _ ?_
          clear hK K
          refine wpAny_take (i := 9) (v := .bool (!(xn == yn))) rfl (by kernel_rfl) (by kernel_rfl) (by kernel_rfl) (fun _ _ _ h => h) (Or.inl ⟨by rfl, fun w => by go_simp⟩) ?_
          refine take_oneB 18 (AllReady.cons rfl (fun K hK => ?_) AllReady.nil) (by kernel_rfl)
          go_simp
          refine CT.out.mono ?_
          rintro e w1 ⟨v, rfl, hv, hb1⟩
          have k0 := (HI.out.keep hb1).c0
          have k2 := (HQ.out.keep hb1).c0
          obtain ⟨ao, k, cap, rfl⟩ := hv.slc
          refine hK _ _ ?_
          clear hK K
          refine take_oneB 19 (AllReady.cons rfl (fun K hK => ?_) AllReady.nil) (by kernel_rfl)
          go_simp
          refine (give_end HI.out hb1 (!(xn == yn)) _ (x * y) hv).mono ?_
          rintro e w2 ⟨rfl, ⟨n', hn1, hn2⟩, hb2⟩
          refine hK _ _ ?_
          clear hK K
          refine take_oneB 20 (AllReady.cons rfl (fun K hK => ?_) AllReady.nil) (by kernel_rfl)
          go_simp
          refine hK _ _ ?_
          clear hK K
          refine wpAny_done (by kernel_rfl) ?_ _
          go_wp2_with fail
          go_ret
          exact ⟨rfl, ⟨n', x * y, hn1, by rw [hn2, HS.out], HL.out⟩, HBD.out.trans hb2⟩
        · go_simp
          refine CT.out.mono ?_
          rintro e w1 ⟨v, rfl, hv, hb1⟩
          have k0 := (HI.out.keep hb1).c0
          have k2 := (HQ.out.keep hb1).c0
          obtain ⟨ao, k, cap, rfl⟩ := hv.slc
          refine hK _ _ ?_
          clear hK K
          refine take_oneB 8 (AllReady.cons rfl (fun K hK => ?_) AllReady.nil) (by kernel_rfl)
          go_simp
          refine hK _ _ ?_
          clear hK K
          refine wpAny_take (i := 9) (v := .bool (!(xn == yn))) rfl (by kernel_rfl) (by kernel_rfl) (by kernel_rfl) (fun _ _ _ h => h) (Or.inl ⟨by rfl, fun w => by go_simp⟩) ?_
          refine take_oneB 19 (AllReady.cons rfl (fun K hK => ?_) AllReady.nil) (by kernel_rfl)
          go_simp
          refine (give_end HI.out hb1 (!(xn == yn)) _ (x * y) hv).mono ?_
          rintro e w2 ⟨rfl, ⟨n', hn1, hn2⟩, hb2⟩
          refine hK _ _ ?_
          clear hK K
          refine take_oneB 20 (AllReady.cons rfl (fun K hK => ?_) AllReady.nil) (by kernel_rfl)
          go_simp
          refine hK _ _ ?_
          clear hK K
          refine wpAny_done (by kernel_rfl) ?_ _
          go_wp2_with fail
          go_ret
          exact ⟨rfl, ⟨n', x * y, hn1, by rw [hn2, HS.out], HL.out⟩, HBD.out.trans hb2⟩
    · go_simp
      refine hK _ _ ?_
      clear hK K
      refine wpAny_ready (rs := [4, 17]) (by kernel_rfl) (by simp) ?_
      refine (AllReady.cons rfl (fun K hK => ?_) (AllReady.cons rfl (fun K hK => ?_) AllReady.nil))
      · go_simp
        refine hK _ _ ?_
        clear hK K
        refine wpAny_take (i := 9) (v := .bool (!(xn == yn))) rfl (by kernel_rfl) (by kernel_rfl) (by kernel_rfl) (fun _ _ _ h => h) (Or.inl ⟨by rfl, fun w => by go_simp⟩) ?_
        refine take_oneB 17 (AllReady.cons rfl (fun K hK => ?_) AllReady.nil) (by kernel_rfl)
        go_simp
        refine hK _ _ ?_
        clear hK K
        refine take_oneB 18 (AllReady.cons rfl (fun K hK => ?_) AllReady.nil) (by kernel_rfl)
        go_simp
        refine CT.out.mono ?_
        rintro e w1 ⟨v, rfl, hv, hb1⟩
        have k0 := (HI.out.keep hb1).c0
        have k2 := (HQ.out.keep hb1).c0
        obtain ⟨ao, k, cap, rfl⟩ := hv.slc
        refine hK _ _ ?_
        clear hK K
        refine take_oneB 19 (AllReady.cons rfl (fun K hK => ?_) AllReady.nil) (by kernel_rfl)
        go_simp
        refine (give_end HI.out hb1 (!(xn == yn)) _ (x * y) hv).mono ?_
        rintro e w2 ⟨rfl, ⟨n', hn1, hn2⟩, hb2⟩
        refine hK _ _ ?_
        clear hK K
        refine take_oneB 20 (AllReady.cons rfl (fun K hK => ?_) AllReady.nil) (by kernel_rfl)
        go_simp
        refine hK _ _ ?_
        clear hK K
        refine wpAny_done (by kernel_rfl) ?_ _
        go_wp2_with fail
        go_ret
        exact ⟨rfl, ⟨n', x * y, hn1, by rw [hn2, HS.out], HL.out⟩, HBD.out.trans hb2⟩
      · go_simp
        refine hK _ _ ?_
        clear hK K
        refine wpAny_ready (rs := [4, 18]) (by kernel_rfl) (by simp) ?_
        refine (AllReady.cons rfl (fun K hK => ?_) (AllReady.cons rfl (fun K hK => ?_) AllReady.nil))
        · go_simp
          refine hK _ _ ?_
          clear hK K
          refine wpAny_take (i := 9) (v := .bool (!(xn == yn))) rfl (by kernel_rfl) (by kernel_rfl) (by kernel_rfl) (fun _ _ _ h => h) (Or.inl ⟨by rfl, fun w => by go_simp⟩) ?_
          refine take_oneB 18 (AllReady.cons rfl (fun K hK => ?_) AllReady.nil) (by kernel_rfl)
          go_simp
          refine CT.out.mono ?_
          rintro e w1 ⟨v, rfl, hv, hb1⟩
          have k0 := (HI.out.keep hb1).c0
          have k2 := (HQ.out.keep hb1).c0
          obtain ⟨ao, k, cap, rfl⟩ := hv.slc
          refine hK _ _ ?_
          clear hK K
          refine take_oneB 19 (AllReady.cons rfl (fun K hK => ?_) AllReady.nil) (by kernel_rfl)
          go_simp
          refine (give_end HI.out hb1 (!(xn == yn)) _ (x * y) hv).mono ?_
          rintro e w2 ⟨rfl, ⟨n', hn1, hn2⟩, hb2⟩
          refine hK _ _ ?_
          clear hK K
          refine take_oneB 20 (AllReady.cons rfl (fun K hK => ?_) AllReady.nil) (by kernel_rfl)
          go_simp
          refine hK _ _ ?_
          clear hK K
          refine wpAny_done (by kernel_rfl) ?_ _
          go_wp2_with fail
          go_ret
          exact ⟨rfl, ⟨n', x * y, hn1, by rw [hn2, HS.out], HL.out⟩, HBD.out.trans hb2⟩
        · go_simp
          refine CT.out.mono ?_
          rintro e w1 ⟨v, rfl, hv, hb1⟩
          have k0 := (HI.out.keep hb1).c0
          have k2 := (HQ.out.keep hb1).c0
          obtain ⟨ao, k, cap, rfl⟩ := hv.slc
          refine hK _ _ ?_
          clear hK K
          refine take_oneB 4 (AllReady.cons rfl (fun K hK => ?_) AllReady.nil) (by kernel_rfl)
          go_simp
          refine hK _ _ ?_
          clear hK K
          refine wpAny_take (i := 9) (v := .bool (!(xn == yn))) rfl (by kernel_rfl) (by kernel_rfl) (by kernel_rfl) (fun _ _ _ h => h) (Or.inl ⟨by rfl, fun w => by go_simp⟩) ?_
          refine take_oneB 19 (AllReady.cons rfl (fun K hK => ?_) AllReady.nil) (by kernel_rfl)
          go_simp
          refine (give_end HI.out hb1 (!(xn == yn)) _ (x * y) hv).mono ?_
          rintro e w2 ⟨rfl, ⟨n', hn1, hn2⟩, hb2⟩
          refine hK _ _ ?_
          clear hK K
          refine take_oneB 20 (AllReady.cons rfl (fun K hK => ?_) AllReady.nil) (by kernel_rfl)
          go_simp
          refine hK _ _ ?_
          clear hK K
          refine wpAny_done (by kernel_rfl) ?_ _
          go_wp2_with fail
          go_ret
          exact ⟨rfl, ⟨n', x * y, hn1, by rw [hn2, HS.out], HL.out⟩, HBD.out.trans hb2⟩
    · go_simp
      refine hK _ _ ?_
      clear hK K
      refine wpAny_ready (rs := [4, 8, 18]) (by kernel_rfl) (by simp) ?_
      refine (AllReady.cons rfl (fun K hK => ?_) (AllReady.cons rfl (fun K hK => ?_) (AllReady.cons rfl (fun K hK => ?_) AllReady.nil)))
      · go_simp
        refine hK _ _ ?_
        clear hK K
        refine wpAny_ready (rs := [8, 18]) (by kernel_rfl) (by simp) ?_
        refine (AllReady.cons rfl (fun K hK => ?_) (AllReady.cons rfl (fun K hK => ?_) AllReady.nil))
        · go_simp
          refine hK _ _ ?_
          clear hK K
          refine wpAny_take (i := 9) (v := .bool (!(xn == yn))) rfl (by kernel_rfl) (by kernel_rfl) (by kernel_rfl) (fun _ _ _ h => h) (Or.inl ⟨by rfl, fun w => by go_simp⟩) ?_
          refine take_oneB 18 (AllReady.cons rfl (fun K hK => ?_) AllReady.nil) (by kernel_rfl)
          go_simp
          refine CT.out.mono ?_
          rintro e w1 ⟨v, rfl, hv, hb1⟩
          have k0 := (HI.out.keep hb1).c0
          have k2 := (HQ.out.keep hb1).c0
          obtain ⟨ao, k, cap, rfl⟩ := hv.slc
          refine hK _ _ ?_
          clear hK K
          refine take_oneB 19 (AllReady.cons rfl (fun K hK => ?_) AllReady.nil) (by kernel_rfl)
          go_simp
          refine (give_end HI.out hb1 (!(xn == yn)) _ (x * y) hv).mono ?_
          rintro e w2 ⟨rfl, ⟨n', hn1, hn2⟩, hb2⟩
          refine hK _ _ ?_
          clear hK K
          refine take_oneB 20 (AllReady.cons rfl (fun K hK => ?_) AllReady.nil) (by kernel_rfl)
          go_simp
          refine hK _ _ ?_
          clear hK K
          refine wpAny_done (by kernel_rfl) ?_ _
          go_wp2_with fail
          go_ret
          exact ⟨rfl, ⟨n', x * y, hn1, by rw [hn2, HS.out], HL.out⟩, HBD.out.trans hb2⟩
        · go_simp
          refine CT.out.mono ?_
          rintro e w1 ⟨v, rfl, hv, hb1⟩
          have k0 := (HI.out.keep hb1).c0
          have k2 := (HQ.out.keep hb1).c0
          obtain ⟨ao, k, cap, rfl⟩ := hv.slc
          refine hK _ _ ?_
          clear hK K
          refine take_oneB 8 (AllReady.cons rfl (fun K hK => ?_) AllReady.nil) (by kernel_rfl)
          go_simp
          refine hK _ _ ?_
          clear hK K
          refine wpAny_take (i := 9) (v := .bool (!(xn == yn))) rfl (by kernel_rfl) (by kernel_rfl) (by kernel_rfl) (fun _ _ _ h => h) (Or.inl ⟨by rfl, fun w => by go_simp⟩) ?_
          refine take_oneB 19 (AllReady.cons rfl (fun K hK => ?_) AllReady.nil) (by kernel_rfl)
          go_simp
          refine (give_end HI.out hb1 (!(xn == yn)) _ (x * y) hv).mono ?_
          rintro e w2 ⟨rfl, ⟨n', hn1, hn2⟩, hb2⟩
          refine hK _ _ ?_
          clear hK K
          refine take_oneB 20 (AllReady.cons rfl (fun K hK => ?_) AllReady.nil) (by kernel_rfl)
          go_simp
          refine hK _ _ ?_
          clear hK K
          refine wpAny_done (by kernel_rfl) ?_ _
          go_wp2_with fail
          go_ret
          exact ⟨rfl, ⟨n', x * y, hn1, by rw [hn2, HS.out], HL.out⟩, HBD.out.trans hb2⟩
      · go_simp
        refine hK _ _ ?_
        clear hK K
        refine wpAny_ready (rs := [4, 18]) (by kernel_rfl) (by simp) ?_
        refine (AllReady.cons rfl (fun K hK => ?_) (AllReady.cons rfl (fun K hK => ?_) AllReady.nil))
        · go_simp
          refine hK _ _ ?_
          clear hK K
          refine wpAny_take (i := 9) (v := .bool (!(xn == yn))) rfl (by kernel_rfl) (by kernel_rfl) (by kernel_rfl) (fun _ _ _ h => h) (Or.inl ⟨by rfl, fun w => by go_simp⟩) ?_
          refine take_oneB 18 (AllReady.cons rfl (fun K hK => ?_) AllReady.nil) (by kernel_rfl)
          go_simp
          refine CT.out.mono ?_
          rintro e w1 ⟨v, rfl, hv, hb1⟩
          have k0 := (HI.out.keep hb1).c0
          have k2 := (HQ.out.keep hb1).c0
          obtain ⟨ao, k, cap, rfl⟩ := hv.slc
          refine hK _ _ ?_
          clear hK K
          refine take_oneB 19 (AllReady.cons rfl (fun K hK => ?_) AllReady.nil) (by kernel_rfl)
          go_simp
          refine (give_end HI.out hb1 (!(xn == yn)) _ (x * y) hv).mono ?_
          rintro e w2 ⟨rfl, ⟨n', hn1, hn2⟩, hb2⟩
          refine hK _ _ ?_
          clear hK K
          refine take_oneB 20 (AllReady.cons rfl (fun K hK => ?_) AllReady.nil) (by kernel_rfl)
          go_simp
          refine hK _ _ ?_
          clear hK K
          refine wpAny_done (by kernel_rfl) ?_ _
          go_wp2_with fail
          go_ret
          exact ⟨rfl, ⟨n', x * y, hn1, by rw [hn2, HS.out], HL.out⟩, HBD.out.trans hb2⟩
        · go_simp
          refine CT.out.mono ?_
          rintro e w1 ⟨v, rfl, hv, hb1⟩
          have k0 := (HI.out.keep hb1).c0
          have k2 := (HQ.out.keep hb1).c0
          obtain ⟨ao, k, cap, rfl⟩ := hv.slc
          refine hK _ _ ?_
          clear hK K
          refine take_oneB 4 (AllReady.cons rfl (fun K hK => ?_) AllReady.nil) (by kernel_rfl)
          go_simp
          refine hK _ _ ?_
          clear hK K
          refine wpAny_take (i := 9) (v := .bool (!(xn == yn))) rfl (by kernel_rfl) (by kernel_rfl) (by kernel_rfl) (fun _ _ _ h => h) (Or.inl ⟨by rfl, fun w => by go_simp⟩) ?_
          refine take_oneB 19 (AllReady.cons rfl (fun K hK => ?_) AllReady.nil) (by kernel_rfl)
          go_simp
          refine (give_end HI.out hb1 (!(xn == yn)) _ (x * y) hv).mono ?_
          rintro e w2 ⟨rfl, ⟨n', hn1, hn2⟩, hb2⟩
          refine hK _ _ ?_
          clear hK K
          refine take_oneB 20 (AllReady.cons rfl (fun K hK => ?_) AllReady.nil) (by kernel_rfl)
          go_simp
          refine hK _ _ ?_
          clear hK K
          refine wpAny_done (by kernel_rfl) ?_ _
          go_wp2_with fail
          go_ret
          exact ⟨rfl, ⟨n', x * y, hn1, by rw [hn2, HS.out], HL.out⟩, HBD.out.trans hb2⟩
      · go_simp
        refine CT.out.mono ?_
        rintro e w1 ⟨v, rfl, hv, hb1⟩
        have k0 := (HI.out.keep hb1).c0
        have k2 := (HQ.out.keep hb1).c0
        obtain ⟨ao, k, cap, rfl⟩ := hv.slc
        refine hK _ _ ?_
        clear hK K
        refine wpAny_ready (rs := [4, 8]) (by kernel_rfl) (by simp) ?_
        refine (AllReady.cons rfl (fun K hK => ?_) (AllReady.cons rfl (fun K hK => ?_) AllReady.nil))
        · go_simp
          refine hK _ _ ?_
          clear hK K
          refine take_oneB 8 (AllReady.cons rfl (fun K hK => ?_) AllReady.nil) (by kernel_rfl)
          go_simp
          refine hK _ _ ?_
          clear hK K
          refine wpAny_take (i := 9) (v := .bool (!(xn == yn))) rfl (by kernel_rfl) (by kernel_rfl) (by kernel_rfl) (fun _ _ _ h => h) (Or.inl ⟨by rfl, fun w => by go_simp⟩) ?_
          refine take_oneB 19 (AllReady.cons rfl (fun K hK => ?_) AllReady.nil) (by kernel_rfl)
          go_simp
          refine (give_end HI.out hb1 (!(xn == yn)) _ (x * y) hv).mono ?_
          rintro e w2 ⟨rfl, ⟨n', hn1, hn2⟩, hb2⟩
          refine hK _ _ ?_
          clear hK K
          refine take_oneB 20 (AllReady.cons rfl (fun K hK => ?_) AllReady.nil) (by kernel_rfl)
          go_simp
          refine hK _ _ ?_
          clear hK K
          refine wpAny_done (by kernel_rfl) ?_ _
          go_wp2_with fail
          go_ret
          exact ⟨rfl, ⟨n', x * y, hn1, by rw [hn2, HS.out], HL.out⟩, HBD.out.trans hb2⟩
        · go_simp
          refine hK _ _ ?_
          clear hK K
          refine take_oneB 4 (AllReady.cons rfl (fun K hK => ?_) AllReady.nil) (by kernel_rfl)
          go_simp
          refine hK _ _ ?_
          clear hK K
          refine wpAny_take (i := 9) (v := .bool (!(xn == yn))) rfl (by kernel_rfl) (by kernel_rfl) (by kernel_rfl) (fun _ _ _ h => h) (Or.inl ⟨by rfl, fun w => by go_simp⟩) ?_
          refine take_oneB 19 (AllReady.cons rfl (fun K hK => ?_) AllReady.nil) (by kernel_rfl)
          go_simp
          refine (give_end HI.out hb1 (!(xn == yn)) _ (x * y) hv).mono ?_
          rintro e w2 ⟨rfl, ⟨n', hn1, hn2⟩, hb2⟩
          refine hK _ _ ?_
          clear hK K
          refine take_oneB 20 (AllReady.cons rfl (fun K hK => ?_) AllReady.nil) (by kernel_rfl)
          go_simp
          refine hK _ _ ?_
          clear hK K
          refine wpAny_done (by kernel_rfl) ?_ _
          go_wp2_with fail
          go_ret
          exact ⟨rfl, ⟨n', x * y, hn1, by rw [hn2, HS.out], HL.out⟩, HBD.out.trans hb2⟩
  · go_simp
    refine hK _ _ ?_
    clear hK K
    refine wpAny_ready (rs := [4, 8, 13]) (by kernel_rfl) (by simp) ?_
    refine (AllReady.cons rfl (fun K hK => ?_) (AllReady.cons rfl (fun K hK => ?_) (AllReady.cons rfl (fun K hK => ?_) AllReady.nil)))
    · go_simp
      refine hK _ _ ?_
      clear hK K
      refine wpAny_ready (rs := [8, 13]) (by kernel_rfl) (by simp) ?_
      refine (AllReady.cons rfl (fun K hK => ?_) (AllReady.cons rfl (fun K hK => ?_) AllReady.nil))
      · go_simp
        refine hK _ _ ?_
        clear hK K
        refine wpAny_take (i := 9) (v := .bool (!(xn == yn))) rfl (by kernel_rfl) (by kernel_rfl) (by kernel_rfl) (fun _ _ _ h => h) (Or.inl ⟨by rfl, fun w => by go_simp⟩) ?_
        refine take_oneB 13 (AllReady.cons rfl (fun K hK => ?_) AllReady.nil) (by kernel_rfl)
        go_simp
        refine hK _ _ ?_
        clear hK K
        refine take_oneB 18 (AllReady.cons rfl (fun K hK => ?_) AllReady.nil) (by kernel_rfl)
        go_simp
        refine CT.out.mono ?_
        rintro e w1 ⟨v, rfl, hv, hb1⟩
        have k0 := (HI.out.keep hb1).c0
        have k2 := (HQ.out.keep hb1).c0
        obtain ⟨ao, k, cap, rfl⟩ := hv.slc
        refine hK _ _ ?_
        clear hK K
        refine take_oneB 19 (AllReady.cons rfl (fun K hK => ?_) AllReady.nil) (by kernel_rfl)
        go_simp
        refine (give_end HI.out hb1 (!(xn == yn)) _ (x * y) hv).mono ?_
        rintro e w2 ⟨rfl, ⟨n', hn1, hn2⟩, hb2⟩
        refine hK _ _ ?_
        clear hK K
        refine take_oneB 20 (AllReady.cons rfl (fun K hK => ?_) AllReady.nil) (by kernel_rfl)
        go_simp
        refine hK _ _ ?_
        clear hK K
        refine wpAny_done (by kernel_rfl) ?_ _
        go_wp2_with fail
        go_ret
        exact ⟨rfl, ⟨n', x * y, hn1, by rw [hn2, HS.out], HL.out⟩, HBD.out.trans hb2⟩
      · go_simp
        refine hK _ _ ?_
        clear hK K
        refine wpAny_ready (rs := [8, 18]) (by kernel_rfl) (by simp) ?_
        refine (AllReady.cons rfl (fun K hK => ?_) (AllReady.cons rfl (fun K hK => ?_) AllReady.nil))
        · go_simp
          refine hK _ _ ?_
          clear hK K
          refine wpAny_take (i := 9) (v := .bool (!(xn == yn))) rfl (by kernel_rfl) (by kernel_rfl) (by kernel_rfl) (fun _ _ _ h => h) (Or.inl ⟨by rfl, fun w => by go_simp⟩) ?_
          refine take_oneB 18 (AllReady.cons rfl (fun K hK => ?_) AllReady.nil) (by kernel_rfl)
          go_simp
          refine CT.out.mono ?_
          rintro e w1 ⟨v, rfl, hv, hb1⟩
          have k0 := (HI.out.keep hb1).c0
          have k2 := (HQ.out.keep hb1).c0
          obtain ⟨ao, k, cap, rfl⟩ := hv.slc
          refine hK _ _ ?_
          clear hK K
          refine take_oneB 19 (AllReady.cons rfl (fun K hK => ?_) AllReady.nil) (by kernel_rfl)
          go_simp
          refine (give_end HI.out hb1 (!(xn == yn)) _ (x * y) hv).mono ?_
          rintro e w2 ⟨rfl, ⟨n', hn1, hn2⟩, hb2⟩
          refine hK _ _ ?_
          clear hK K
          refine take_oneB 20 (AllReady.cons rfl (fun K hK => ?_) AllReady.nil) (by kernel_rfl)
          go_simp
          refine hK _ _ ?_
          clear hK K
          refine wpAny_done (by kernel_rfl) ?_ _
          go_wp2_with fail
          go_ret
          exact ⟨rfl, ⟨n', x * y, hn1, by rw [hn2, HS.out], HL.out⟩, HBD.out.trans hb2⟩
        · go_simp
          refine CT.out.mono ?_
          rintro e w1 ⟨v, rfl, hv, hb1⟩
          have k0 := (HI.out.keep hb1).c0
          have k2 := (HQ.out.keep hb1).c0
          obtain ⟨ao, k, cap, rfl⟩ := hv.slc
          refine hK _ _ ?_
          clear hK K
          refine take_oneB 8 (AllReady.cons rfl (fun K hK => ?_) AllReady.nil) (by kernel_rfl)
          go_simp
          refine hK _ _ ?_
          clear hK K
          refine wpAny_take (i := 9) (v := .bool (!(xn == yn))) rfl (by kernel_rfl) (by kernel_rfl) (by kernel_rfl) (fun _ _ _ h => h) (Or.inl ⟨by rfl, fun w => by go_simp⟩) ?_
          refine take_oneB 19 (AllReady.cons rfl (fun K hK => ?_) AllReady.nil) (by kernel_rfl)
          go_simp
          refine (give_end HI.out hb1 (!(xn == yn)) _ (x * y) hv).mono ?_
          rintro e w2 ⟨rfl, ⟨n', hn1, hn2⟩, hb2⟩
          refine hK _ _ ?_
          clear hK K
          refine take_oneB 20 (AllReady.cons rfl (fun K hK => ?_) AllReady.nil) (by kernel_rfl)
          go_simp
          refine hK _ _ ?_
          clear hK K
          refine wpAny_done (by kernel_rfl) ?_ _
          go_wp2_with fail
          go_ret
          exact ⟨rfl, ⟨n', x * y, hn1, by rw [hn2, HS.out], HL.out⟩, HBD.out.trans hb2⟩
    · go_simp
      refine hK _ _ ?_
      clear hK K
      refine wpAny_ready (rs := [4, 13]) (by kernel_rfl) (by simp) ?_
      refine (AllReady.cons rfl (fun K hK => ?_) (AllReady.cons rfl (fun K hK => ?_) AllReady.nil))
      · go_simp
        refine hK _ _ ?_
        clear hK K
        refine wpAny_take (i := 9) (v := .bool (!(xn == yn))) rfl (by kernel_rfl) (by kernel_rfl) (by kernel_rfl) (fun _ _ _ h => h) (Or.inl ⟨by rfl, fun w => by go_simp⟩) ?_
        refine take_oneB 13 (AllReady.cons rfl (fun K hK => ?_) AllReady.nil) (by kernel_rfl)
        go_simp
        refine hK _ _ ?_
        clear hK K
        refine take_oneB 18 (AllReady.cons rfl (fun K hK => ?_) AllReady.nil) (by kernel_rfl)
        go_simp
        refine CT.out.mono ?_
        rintro e w1 ⟨v, rfl, hv, hb1⟩
        have k0 := (HI.out.keep hb1).c0
        have k2 := (HQ.out.keep hb1).c0
        obtain ⟨ao, k, cap, rfl⟩ := hv.slc
        refine hK _ _ ?_
        clear hK K
        refine take_oneB 19 (AllReady.cons rfl (fun K hK => ?_) AllReady.nil) (by kernel_rfl)
        go_simp
        refine (give_end HI.out hb1 (!(xn == yn)) _ (x * y) hv).mono ?_
        rintro e w2 ⟨rfl, ⟨n', hn1, hn2⟩, hb2⟩
        refine hK _ _ ?_
        clear hK K
        refine take_oneB 20 (AllReady.cons rfl (fun K hK => ?_) AllReady.nil) (by kernel_rfl)
        go_simp
        refine hK _ _ ?_
        clear hK K
        refine wpAny_done (by kernel_rfl) ?_ _
        go_wp2_with fail
        go_ret
        exact ⟨rfl, ⟨n', x * y, hn1, by rw [hn2, HS.out], HL.out⟩, HBD.out.trans hb2⟩
      · go_simp
        refine hK _ _ ?_
        clear hK K
        refine wpAny_ready (rs := [4, 18]) (by kernel_rfl) (by simp) ?_
        refine (AllReady.cons rfl (fun K hK => ?_) (AllReady.cons rfl (fun K hK => ?_) AllReady.nil))
        · go_simp
          refine hK _ _ ?_
          clear hK K
          refine wpAny_take (i := 9) (v := .bool (!(xn == yn))) rfl (by kernel_rfl) (by kernel_rfl) (by kernel_rfl) (fun _ _ _ h => h) (Or.inl ⟨by rfl, fun w => by go_simp⟩) ?_
          refine take_oneB 18 (AllReady.cons rfl (fun K hK => ?_) AllReady.nil) (by kernel_rfl)
          go_simp
          refine CT.out.mono ?_
          rintro e w1 ⟨v, rfl, hv, hb1⟩
          have k0 := (HI.out.keep hb1).c0
          have k2 := (HQ.out.keep hb1).c0
          obtain ⟨ao, k, cap, rfl⟩ := hv.slc
          refine hK _ _ ?_
          clear hK K
          refine take_oneB 19 (AllReady.cons rfl (fun K hK => ?_) AllReady.nil) (by kernel_rfl)
          go_simp
          refine (give_end HI.out hb1 (!(xn == yn)) _ (x * y) hv).mono ?_
          rintro e w2 ⟨rfl, ⟨n', hn1, hn2⟩, hb2⟩
          refine hK _ _ ?_
          clear hK K
          refine take_oneB 20 (AllReady.cons rfl (fun K hK => ?_) AllReady.nil) (by kernel_rfl)
          go_simp
          refine hK _ _ ?_
          clear hK K
          refine wpAny_done (by kernel_rfl) ?_ _
          go_wp2_with fail
          go_ret
          exact ⟨rfl, ⟨n', x * y, hn1, by rw [hn2, HS.out], HL.out⟩, HBD.out.trans hb2⟩
        · go_simp
          refine CT.out.mono ?_
          rintro e w1 ⟨v, rfl, hv, hb1⟩
          have k0 := (HI.out.keep hb1).c0
          have k2 := (HQ.out.keep hb1).c0
          obtain ⟨ao, k, cap, rfl⟩ := hv.slc
          refine hK _ _ ?_
          clear hK K
          refine take_oneB 4 (AllReady.cons rfl (fun K hK => ?_) AllReady.nil) (by kernel_rfl)
          go_simp
          refine hK _ _ ?_
          clear hK K
          refine wpAny_take (i := 9) (v := .bool (!(xn == yn))) rfl (by kernel_rfl) (by kernel_rfl) (by kernel_rfl) (fun _ _ _ h => h) (Or.inl ⟨by rfl, fun w => by go_simp⟩) ?_
          refine take_oneB 19 (AllReady.cons rfl (fun K hK => ?_) AllReady.nil) (by kernel_rfl)
          go_simp
          refine (give_end HI.out hb1 (!(xn == yn)) _ (x * y) hv).mono ?_
          rintro e w2 ⟨rfl, ⟨n', hn1, hn2⟩, hb2⟩
          refine hK _ _ ?_
          clear hK K
          refine take_oneB 20 (AllReady.cons rfl (fun K hK => ?_) AllReady.nil) (by kernel_rfl)
          go_simp
          refine hK _ _ ?_
          clear hK K
          refine wpAny_done (by kernel_rfl) ?_ _
          go_wp2_with fail
          go_ret
          exact ⟨rfl, ⟨n', x * y, hn1, by rw [hn2, HS.out], HL.out⟩, HBD.out.trans hb2⟩
    · go_simp
      refine hK _ _ ?_
      clear hK K
      refine wpAny_ready (rs := [4, 8, 18]) (by kernel_rfl) (by simp) ?_
      refine (AllReady.cons rfl (fun K hK => ?_) (AllReady.cons rfl (fun K hK => ?_) (AllReady.cons rfl (fun K hK => ?_) AllReady.nil)))
      · go_simp
        refine hK _ _ ?_
        clear hK K
        refine wpAny_ready (rs := [8, 18]) (by kernel_rfl) (by simp) ?_
        refine (AllReady.cons rfl (fun K hK => ?_) (AllReady.cons rfl (fun K hK => ?_) AllReady.nil))
        · go_simp
          refine hK _ _ ?_
          clear hK K
          refine wpAny_take (i := 9) (v := .bool (!(xn == yn))) rfl (by kernel_rfl) (by kernel_rfl) (by kernel_rfl) (fun _ _ _ h => h) (Or.inl ⟨by rfl, fun w => by go_simp⟩) ?_
          refine take_oneB 18 (AllReady.cons rfl (fun K hK => ?_) AllReady.nil) (by kernel_rfl)
          go_simp
          refine CT.out.mono ?_
          rintro e w1 ⟨v, rfl, hv, hb1⟩
          have k0 := (HI.out.keep hb1).c0
          have k2 := (HQ.out.keep hb1).c0
          obtain ⟨ao, k, cap, rfl⟩ := hv.slc
          refine hK _ _ ?_
          clear hK K
          refine take_oneB 19 (AllReady.cons rfl (fun K hK => ?_) AllReady.nil) (by kernel_rfl)
          go_simp
          refine (give_end HI.out hb1 (!(xn == yn)) _ (x * y) hv).mono ?_
          rintro e w2 ⟨rfl, ⟨n', hn1, hn2⟩, hb2⟩
          refine hK _ _ ?_
          clear hK K
          refine take_oneB 20 (AllReady.cons rfl (fun K hK => ?_) AllReady.nil) (by kernel_rfl)
          go_simp
          refine hK _ _ ?_
          clear hK K
          refine wpAny_done (by kernel_rfl) ?_ _
          go_wp2_with fail
          go_ret
          exact ⟨rfl, ⟨n', x * y, hn1, by rw [hn2, HS.out], HL.out⟩, HBD.out.trans hb2⟩
        · go_simp
          refine CT.out.mono ?_
          rintro e w1 ⟨v, rfl, hv, hb1⟩
          have k0 := (HI.out.keep hb1).c0
          have k2 := (HQ.out.keep hb1).c0
          obtain ⟨ao, k, cap, rfl⟩ := hv.slc
          refine hK _ _ ?_
          clear hK K
          refine take_oneB 8 (AllReady.cons rfl (fun K hK => ?_) AllReady.nil) (by kernel_rfl)
          go_simp
          refine hK _ _ ?_
          clear hK K
          refine wpAny_take (i := 9) (v := .bool (!(xn == yn))) rfl (by kernel_rfl) (by kernel_rfl) (by kernel_rfl) (fun _ _ _ h => h) (Or.inl ⟨by rfl, fun w => by go_simp⟩) ?_
          refine take_oneB 19 (AllReady.cons rfl (fun K hK => ?_) AllReady.nil) (by kernel_rfl)
          go_simp
          refine (give_end HI.out hb1 (!(xn == yn)) _ (x * y) hv).mono ?_
          rintro e w2 ⟨rfl, ⟨n', hn1, hn2⟩, hb2⟩
          refine hK _ _ ?_
          clear hK K
          refine take_oneB 20 (AllReady.cons rfl (fun K hK => ?_) AllReady.nil) (by kernel_rfl)
          go_simp
          refine hK _ _ ?_
          clear hK K
          refine wpAny_done (by kernel_rfl) ?_ _
          go_wp2_with fail
          go_ret
          exact ⟨rfl, ⟨n', x * y, hn1, by rw [hn2, HS.out], HL.out⟩, HBD.out.trans hb2⟩
      · go_simp
        refine hK _ _ ?_
        clear hK K
        refine wpAny_ready (rs := [4, 18]) (by kernel_rfl) (by simp) ?_
        refine (AllReady.cons rfl (fun K hK => ?_) (AllReady.cons rfl (fun K hK => ?_) AllReady.nil))
        · go_simp
          refine hK _ _ ?_
          clear hK K
          refine wpAny_take (i := 9) (v := .bool (!(xn == yn))) rfl (by kernel_rfl) (by kernel_rfl) (by kernel_rfl) (fun _ _ _ h => h) (Or.inl ⟨by rfl, fun w => by go_simp⟩) ?_
          refine take_oneB 18 (AllReady.cons rfl (fun K hK => ?_) AllReady.nil) (by kernel_rfl)
          go_simp
          refine CT.out.mono ?_
          rintro e w1 ⟨v, rfl, hv, hb1⟩
          have k0 := (HI.out.keep hb1).c0
          have k2 := (HQ.out.keep hb1).c0
          obtain ⟨ao, k, cap, rfl⟩ := hv.slc
          refine hK _ _ ?_
          clear hK K
          refine take_oneB 19 (AllReady.cons rfl (fun K hK => ?_) AllReady.nil) (by kernel_rfl)
          go_simp
          refine (give_end HI.out hb1 (!(xn == yn)) _ (x * y) hv).mono ?_
          rintro e w2 ⟨rfl, ⟨n', hn1, hn2⟩, hb2⟩
          refine hK _ _ ?_
          clear hK K
          refine take_oneB 20 (AllReady.cons rfl (fun K hK => ?_) AllReady.nil) (by kernel_rfl)
          go_simp
          refine hK _ _ ?_
          clear hK K
          refine wpAny_done (by kernel_rfl) ?_ _
          go_wp2_with fail
          go_ret
          exact ⟨rfl, ⟨n', x * y, hn1, by rw [hn2, HS.out], HL.out⟩, HBD.out.trans hb2⟩
        · go_simp
          refine CT.out.mono ?_
          rintro e w1 ⟨v, rfl, hv, hb1⟩
          have k0 := (HI.out.keep hb1).c0
          have k2 := (HQ.out.keep hb1).c0
          obtain ⟨ao, k, cap, rfl⟩ := hv.slc
          refine hK _ _ ?_
          clear hK K
          refine take_oneB 4 (AllReady.cons rfl (fun K hK => ?_) AllReady.nil) (by kernel_rfl)
          go_simp
          refine hK _ _ ?_
          clear hK K
          refine wpAny_take (i := 9) (v := .bool (!(xn == yn))) rfl (by kernel_rfl) (by kernel_rfl) (by kernel_rfl) (fun _ _ _ h => h) (Or.inl ⟨by rfl, fun w => by go_simp⟩) ?_
          refine take_oneB 19 (AllReady.cons rfl (fun K hK => ?_) AllReady.nil) (by kernel_rfl)
          go_simp
          refine (give_end HI.out hb1 (!(xn == yn)) _ (x * y) hv).mono ?_
          rintro e w2 ⟨rfl, ⟨n', hn1, hn2⟩, hb2⟩
          refine hK _ _ ?_
          clear hK K
          refine take_oneB 20 (AllReady.cons rfl (fun K hK => ?_) AllReady.nil) (by kernel_rfl)
          go_simp
          refine hK _ _ ?_
          clear hK K
          refine wpAny_done (by kernel_rfl) ?_ _
          go_wp2_with fail
          go_ret
          exact ⟨rfl, ⟨n', x * y, hn1, by rw [hn2, HS.out], HL.out⟩, HBD.out.trans hb2⟩
      · go_simp
        refine CT.out.mono ?_
        rintro e w1 ⟨v, rfl, hv, hb1⟩
        have k0 := (HI.out.keep hb1).c0
        have k2 := (HQ.out.keep hb1).c0
        obtain ⟨ao, k, cap, rfl⟩ := hv.slc
        refine hK _ _ ?_
        clear hK K
        refine wpAny_ready (rs := [4, 8]) (by kernel_rfl) (by simp) ?_
        refine (AllReady.cons rfl (fun K hK => ?_) (AllReady.cons rfl (fun K hK => ?_) AllReady.nil))
        · go_simp
          refine hK _ _ ?_
          clear hK K
          refine take_oneB 8 (AllReady.cons rfl (fun K hK => ?_) AllReady.nil) (by kernel_rfl)
          go_simp
          refine hK _ _ ?_
          clear hK K
          refine wpAny_take (i := 9) (v := .bool (!(xn == yn))) rfl (by kernel_rfl) (by kernel_rfl) (by kernel_rfl) (fun _ _ _ h => h) (Or.inl ⟨by rfl, fun w => by go_simp⟩) ?_
          refine take_oneB 19 (AllReady.cons rfl (fun K hK => ?_) AllReady.nil) (by kernel_rfl)
          go_simp
          refine (give_end HI.out hb1 (!(xn == yn)) _ (x * y) hv).mono ?_
          rintro e w2 ⟨rfl, ⟨n', hn1, hn2⟩, hb2⟩
          refine hK _ _ ?_
          clear hK K
          refine take_oneB 20 (AllReady.cons rfl (fun K hK => ?_) AllReady.nil) (by kernel_rfl)
          go_simp
          refine hK _ _ ?_
          clear hK K
          refine wpAny_done (by kernel_rfl) ?_ _
          go_wp2_with fail
          go_ret
          exact ⟨rfl, ⟨n', x * y, hn1, by rw [hn2, HS.out], HL.out⟩, HBD.out.trans hb2⟩
        · go_simp
          refine hK _ _ ?_
          clear hK K
          refine take_oneB 4 (AllReady.cons rfl (fun K hK => ?_) AllReady.nil) (by kernel_rfl)
          go_simp
          refine hK _ _ ?_
          clear hK K
          refine wpAny_take (i := 9) (v := .bool (!(xn == yn))) rfl (by kernel_rfl) (by kernel_rfl) (by kernel_rfl) (fun _ _ _ h => h) (Or.inl ⟨by rfl, fun w => by go_simp⟩) ?_
          refine take_oneB 19 (AllReady.cons rfl (fun K hK => ?_) AllReady.nil) (by kernel_rfl)
          go_simp
          refine (give_end HI.out hb1 (!(xn == yn)) _ (x * y) hv).mono ?_
          rintro e w2 ⟨rfl, ⟨n', hn1, hn2⟩, hb2⟩
          refine hK _ _ ?_
          clear hK K
          refine take_oneB 20 (AllReady.cons rfl (fun K hK => ?_) AllReady.nil) (by kernel_rfl)
          go_simp
          refine hK _ _ ?_
          clear hK K
          refine wpAny_done (by kernel_rfl) ?_ _
          go_wp2_with fail
          go_ret
          exact ⟨rfl, ⟨n', x * y, hn1, by rw [hn2, HS.out], HL.out⟩, HBD.out.trans hb2⟩
end Go.Proofs.YtecapnipkngniaaGreatDoor
