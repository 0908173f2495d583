/-
  The contract of exprs.operatorAhead.
-/
import Derived.Test.YtipolobikigmbaaGreatDoorGj
namespace Go.Proofs.YtipolobikigmbaaGreatDoor
open Go.RowKit Go.Shelf
theorem prefix_any (l : List UInt8) (p : ByteArray) (w : World) :
    Calls Tryz.prog 36 #[.string (bs l), .string p] w fun e w' => e = .returned (.bool (p.data.toList.isPrefixOf l)) ∧ w' = w := by
  have := Any.strings_HasPrefix Tryz.lays99 (bs l) p w
  rw [bs_list] at this
  exact this
theorem letters_any (l : List UInt8) (w : World) (hl : l.length ≤ 2000) :
    Calls Tryz.prog 75 #[.string (bs l), .string lows] w fun e w' => e = .returned (.string (bs (wd l))) ∧ Below w.heap.size w w' := by
  have := leading_any (bs l) lows w (by rw [bs_size]; omega) (by decide) (by decide)
  rw [lead_congr _ isLow lows_has, ext_bs, bs_list] at this
  exact this
/-- none of the first k signs stands there -/
def noSg (l : List UInt8) (k : Nat) : Prop := ∀ j (h : j < sgs.length), j < k → sgs[j].isPrefixOf l = false
theorem find_at {p : List UInt8 → Bool} : ∀ (L : List (List UInt8)) (k : Nat) (h : k < L.length), (∀ j (hj : j < L.length), j < k → p L[j] = false) → p L[k] = true → L.find? p = some L[k]
  | a :: L, 0, h, _, hk => by
    rw [List.find?_cons]
    simp only [List.getElem_cons_zero] at hk ⊢
    rw [hk]
  | a :: L, k + 1, h, hA, hk => by
    have h0 := hA 0 (by simp) (by omega)
    simp only [List.getElem_cons_zero] at h0
    rw [List.find?_cons, h0]
    simp only [List.getElem_cons_succ] at hk ⊢
    exact find_at L k (by simpa using h) (fun j hj hjk => by have := hA (j + 1) (by simpa using hj) (by omega); simpa using this) hk
theorem op_hit (l : List UInt8) (k : Nat) (h : k < sgs.length) (h1 : wd l ≠ [111, 114]) (h2 : wd l ≠ [97, 110, 100]) (hA : noSg l k) (hk : sgs[k].isPrefixOf l = true) : opAh l = sgs[k] := by
  unfold opAh
  rw [if_neg h1, if_neg h2, find_at (p := fun o => o.isPrefixOf l) sgs k h hA hk]; rfl
theorem op_miss (l : List UInt8) (h1 : wd l ≠ [111, 114]) (h2 : wd l ≠ [97, 110, 100]) (hA : noSg l 9) : opAh l = [] := by
  unfold opAh
  rw [if_neg h1, if_neg h2]
  have : sgs.find? (fun o => o.isPrefixOf l) = none := by
    rw [List.find?_eq_none]
    intro o ho
    obtain ⟨j, hj, rfl⟩ := List.getElem_of_mem ho
    rw [hA j hj hj]; simp
  rw [this]; rfl
set_option maxRecDepth 100000 in
set_option maxHeartbeats 2000000 in
theorem operatorAhead_any (l : List UInt8) (w : World) (hl : l.length ≤ 2000) :
    Calls Tryz.prog 62 #[.string (bs l)] w fun e w' => e = .returned (.string (bs (opAh l))) ∧ Below w.heap.size w w' := by
  have cL := letters_any l w hl
  have CP := hideK (prefix_any l)
  simp only [lows] at cL
  by_cases h1 : wd l = [111, 114]
  · rw [show opAh l = [111, 114] by unfold opAh; rw [if_pos h1]]
    rw [h1] at cL
    clear h1 hl CP
    generalize bs l = t at *
    go_enter Tryz.func62, Tryz.ntmps62
    go_wp2_with fail
    refine cL.mono ?_
    rintro e w1 ⟨rfl, hb⟩
    have hx : bs [111, 114] = ⟨#[111, 114]⟩ := rfl
    rw [hx]
    go_wp2_with fail
    go_ret
    exact ⟨rfl, hb⟩
  · by_cases h2 : wd l = [97, 110, 100]
    · rw [show opAh l = [97, 110, 100] by unfold opAh; rw [if_neg h1, if_pos h2]]
      rw [h2] at cL
      clear h1 h2 hl CP
      generalize bs l = t at *
      go_enter Tryz.func62, Tryz.ntmps62
      go_wp2_with fail
      refine cL.mono ?_
      rintro e w1 ⟨rfl, hb⟩
      have hx : bs [97, 110, 100] = ⟨#[97, 110, 100]⟩ := rfl
      rw [hx]
      go_wp2_with fail
      go_ret
      exact ⟨rfl, hb⟩
    · have n1 : ((bs (wd l)).toList == [111, 114]) = false := by rw [ByteArray.toList_eq, bs_list, beq_eq_false_iff_ne]; exact h1
      have n2 : ((bs (wd l)).toList == [97, 110, 100]) = false := by rw [ByteArray.toList_eq, bs_list, beq_eq_false_iff_ne]; exact h2
      have HH := hideK (op_hit l · · h1 h2)
      have HM := hideK (op_miss l h1 h2)
      generalize bs (wd l) = u at *
      generalize opAh l = Q at *
      clear h1 h2 hl
      generalize bs l = t at *
      have i0 : ∀ w, (Instr.index 136 (.agg #[.string ⟨#[61, 61]⟩, .string ⟨#[60, 61]⟩, .string ⟨#[43, 43]⟩, .string ⟨#[60]⟩, .string ⟨#[43]⟩, .string ⟨#[45]⟩, .string ⟨#[42]⟩, .string ⟨#[47]⟩, .string ⟨#[37]⟩]) (.int .i64 0)).run Tryz.prog w = .ok (.string ⟨#[61, 61]⟩) w := fun _ => by kernel_rfl
      have i1 : ∀ w, (Instr.index 136 (.agg #[.string ⟨#[61, 61]⟩, .string ⟨#[60, 61]⟩, .string ⟨#[43, 43]⟩, .string ⟨#[60]⟩, .string ⟨#[43]⟩, .string ⟨#[45]⟩, .string ⟨#[42]⟩, .string ⟨#[47]⟩, .string ⟨#[37]⟩]) (.int .i64 1)).run Tryz.prog w = .ok (.string ⟨#[60, 61]⟩) w := fun _ => by kernel_rfl
      have i2 : ∀ w, (Instr.index 136 (.agg #[.string ⟨#[61, 61]⟩, .string ⟨#[60, 61]⟩, .string ⟨#[43, 43]⟩, .string ⟨#[60]⟩, .string ⟨#[43]⟩, .string ⟨#[45]⟩, .string ⟨#[42]⟩, .string ⟨#[47]⟩, .string ⟨#[37]⟩]) (.int .i64 2)).run Tryz.prog w = .ok (.string ⟨#[43, 43]⟩) w := fun _ => by kernel_rfl
      have i3 : ∀ w, (Instr.index 136 (.agg #[.string ⟨#[61, 61]⟩, .string ⟨#[60, 61]⟩, .string ⟨#[43, 43]⟩, .string ⟨#[60]⟩, .string ⟨#[43]⟩, .string ⟨#[45]⟩, .string ⟨#[42]⟩, .string ⟨#[47]⟩, .string ⟨#[37]⟩]) (.int .i64 3)).run Tryz.prog w = .ok (.string ⟨#[60]⟩) w := fun _ => by kernel_rfl
      have i4 : ∀ w, (Instr.index 136 (.agg #[.string ⟨#[61, 61]⟩, .string ⟨#[60, 61]⟩, .string ⟨#[43, 43]⟩, .string ⟨#[60]⟩, .string ⟨#[43]⟩, .string ⟨#[45]⟩, .string ⟨#[42]⟩, .string ⟨#[47]⟩, .string ⟨#[37]⟩]) (.int .i64 4)).run Tryz.prog w = .ok (.string ⟨#[43]⟩) w := fun _ => by kernel_rfl
      have i5 : ∀ w, (Instr.index 136 (.agg #[.string ⟨#[61, 61]⟩, .string ⟨#[60, 61]⟩, .string ⟨#[43, 43]⟩, .string ⟨#[60]⟩, .string ⟨#[43]⟩, .string ⟨#[45]⟩, .string ⟨#[42]⟩, .string ⟨#[47]⟩, .string ⟨#[37]⟩]) (.int .i64 5)).run Tryz.prog w = .ok (.string ⟨#[45]⟩) w := fun _ => by kernel_rfl
      have i6 : ∀ w, (Instr.index 136 (.agg #[.string ⟨#[61, 61]⟩, .string ⟨#[60, 61]⟩, .string ⟨#[43, 43]⟩, .string ⟨#[60]⟩, .string ⟨#[43]⟩, .string ⟨#[45]⟩, .string ⟨#[42]⟩, .string ⟨#[47]⟩, .string ⟨#[37]⟩]) (.int .i64 6)).run Tryz.prog w = .ok (.string ⟨#[42]⟩) w := fun _ => by kernel_rfl
      have i7 : ∀ w, (Instr.index 136 (.agg #[.string ⟨#[61, 61]⟩, .string ⟨#[60, 61]⟩, .string ⟨#[43, 43]⟩, .string ⟨#[60]⟩, .string ⟨#[43]⟩, .string ⟨#[45]⟩, .string ⟨#[42]⟩, .string ⟨#[47]⟩, .string ⟨#[37]⟩]) (.int .i64 7)).run Tryz.prog w = .ok (.string ⟨#[47]⟩) w := fun _ => by kernel_rfl
      have i8 : ∀ w, (Instr.index 136 (.agg #[.string ⟨#[61, 61]⟩, .string ⟨#[60, 61]⟩, .string ⟨#[43, 43]⟩, .string ⟨#[60]⟩, .string ⟨#[43]⟩, .string ⟨#[45]⟩, .string ⟨#[42]⟩, .string ⟨#[47]⟩, .string ⟨#[37]⟩]) (.int .i64 8)).run Tryz.prog w = .ok (.string ⟨#[37]⟩) w := fun _ => by kernel_rfl
      go_enter Tryz.func62, Tryz.ntmps62
      go_wp2_with fail
      refine cL.mono ?_
      rintro e w1 ⟨rfl, hb⟩
      go_wp2_with fail
      go_loopw [12] (fun i wr => ∃ k : Nat, k ≤ 9 ∧ i = .int .i64 (k : Int) ∧ noSg l k ∧ Below w1.heap.size w1 wr) (fun i _ => 9 - (intOf i).toNat)
      case atStart => exact ⟨0, by omega, rfl, fun j h hj => absurd hj (Nat.not_lt_zero j), Below.refl _ _⟩
      case round =>
        obtain ⟨k, hk, rfl, hA, hbr⟩ := hrel
        have HB := hideK (hb.trans (hbr.mono hb.size))
        have HBR := hideK hbr
        clear hbr
        by_cases hlt : k < 9
        · have hkl : k < sgs.length := hlt
          have cP := CP.out (bs sgs[k])
          rw [bs_list] at cP
          cases hp : sgs[k].isPrefixOf l with
          | true =>
            rw [hp] at cP
            have HV := hideK (HH.out k hkl hA hp)
            have CQ := hideK cP
            clear hA hp cP hlt hk
            have h9 : k = 0 ∨ k = 1 ∨ k = 2 ∨ k = 3 ∨ k = 4 ∨ k = 5 ∨ k = 6 ∨ k = 7 ∨ k = 8 := by have : k < 9 := hkl; omega
            rcases h9 with rfl | rfl | rfl | rfl | rfl | rfl | rfl | rfl | rfl
            all_goals
              go_wp2_with fail
              refine (CQ.out _).mono ?_
              rintro e w2 ⟨rfl, hw2⟩
              subst hw2
              go_wp2_with fail
              go_ret
              exact ⟨by rw [HV.out]; rfl, HB.out⟩
          | false =>
            rw [hp] at cP
            have HA : Hid (noSg l (k + 1)) := fun j h hj => by
              rcases Nat.lt_succ_iff_lt_or_eq.1 hj with h' | rfl
              · exact hA j h h'
              · exact hp
            have CQ := hideK cP
            clear hA hp cP hlt hk
            have h9 : k = 0 ∨ k = 1 ∨ k = 2 ∨ k = 3 ∨ k = 4 ∨ k = 5 ∨ k = 6 ∨ k = 7 ∨ k = 8 := by have : k < 9 := hkl; omega
            rcases h9 with rfl | rfl | rfl | rfl | rfl | rfl | rfl | rfl | rfl
            all_goals
              go_wp2_with fail
              refine (CQ.out _).mono ?_
              rintro e w2 ⟨rfl, hw2⟩
              subst hw2
              go_wp2_with fail
              go_roundw
              case rel => exact ⟨_, by decide, by go_num, HA.out, HBR.out⟩
              case measure => simp [intOf]
        · have hk9 : k = 9 := by omega
          subst hk9
          have HV := hideK (HM.out hA)
          clear hA
          go_wp2_with fail
          go_ret
          exact ⟨by rw [HV.out]; rfl, HB.out⟩
end Go.Proofs.YtipolobikigmbaaGreatDoor
