/-
  The contract of exprs.isPart, for every expression.
-/
import Derived.Test.YtipolobikigmbaaGreatDoorXd
import Derived.Test.YtipolobikigmbaaGreatDoorOm
namespace Go.Proofs.YtipolobikigmbaaGreatDoor
open Go.RowKit

theorem empty_toList (s : ByteArray) : s.toList.isEmpty = decide (s = ⟨#[]⟩) := by
  rw [Bool.eq_iff_iff, ByteArray.toList_eq]
  simp
  constructor
  · intro h; exact ByteArray.ext h
  · rintro rfl; rfl

theorem zero_cases (so n : Int) (s : ByteArray) : (so = 0 ∧ n = 0 ∧ s = ⟨#[]⟩) ∨ so ≠ 0 ∨ (so = 0 ∧ n ≠ 0) ∨ (so = 0 ∧ n = 0 ∧ s ≠ ⟨#[]⟩) := by
  by_cases h1 : so = 0
  · by_cases h2 : n = 0
    · by_cases h3 : s = ⟨#[]⟩
      · exact .inl ⟨h1, h2, h3⟩
      · exact .inr (.inr (.inr ⟨h1, h2, h3⟩))
    · exact .inr (.inr (.inl ⟨h1, h2⟩))
  · exact .inr (.inl h1)

theorem keep6 {w w1 : World} {v0 v1 v2 v3 v4 v5 : Value} {T : TypeId} (hb : Below (w.alloc (.cells #[v0, v1, v2, v3, v4, v5] T)).heap.size (w.alloc (.cells #[v0, v1, v2, v3, v4, v5] T)) w1) :
    w1.cell? ⟨w.heap.size, 0, none⟩ = some v0 ∧ w1.cell? ⟨w.heap.size, 1, none⟩ = some v1 ∧ w1.cell? ⟨w.heap.size, 2, none⟩ = some v2 ∧ w1.cell? ⟨w.heap.size, 3, none⟩ = some v3 ∧ w1.cell? ⟨w.heap.size, 4, none⟩ = some v4 ∧ w1.cell? ⟨w.heap.size, 5, none⟩ = some v5 ∧ Below w.heap.size w w1 := by
  obtain ⟨hc1, _⟩ := bcell hb
  exact ⟨(hc1 _ 0 (by simp)).trans (by go_cell), (hc1 _ 1 (by simp)).trans (by go_cell), (hc1 _ 2 (by simp)).trans (by go_cell), (hc1 _ 3 (by simp)).trans (by go_cell), (hc1 _ 4 (by simp)).trans (by go_cell), (hc1 _ 5 (by simp)).trans (by go_cell), ((Below.refl _ _).alloc (Nat.le_refl _) _).trans (hb.mono (by simp))⟩

set_option maxHeartbeats 1000000 in
theorem isPart_any (x : Ex) (ao : Option Addr) (cap : Nat) (w : World) (hb : ExBd x cap) :
    Calls Tryz.prog 90 #[exVal x ao cap] w fun e w' => e = .returned (.bool (partOK x)) ∧ Below w.heap.size w w' := by
  obtain ⟨kd, nm, so, n, s, ks⟩ := x
  obtain ⟨hnm, _, _, _, hks, hcp⟩ := hb
  simp only at hnm hks
  have cN := isName_any nm
  have cO := isOperator_any nm ks.length
  have hp1 : kd = 1 → partOK ⟨kd, nm, so, n, s, ks⟩ = (nm.toList.isEmpty && decide (ks.length = 0)) := by
    intro h; rw [empty_toList]; simp [partOK, h]
  have hp2 : kd = 2 → partOK ⟨kd, nm, so, n, s, ks⟩ = (isNm nm.data.toList && decide (so = 0 ∧ n = 0 ∧ s = ⟨#[]⟩) && decide (ks.length = 0)) := by
    intro h; unfold partOK; rw [if_neg (by simp [h]), if_pos h]
    rw [Bool.eq_iff_iff]; simp only [Bool.and_eq_true, decide_eq_true_eq, and_assoc]
  have hp3 : kd = 3 → partOK ⟨kd, nm, so, n, s, ks⟩ = (decide (so = 0 ∧ n = 0 ∧ s = ⟨#[]⟩) && isOp nm.data.toList ks.length) := by
    intro h; unfold partOK; rw [if_neg (by simp [h]), if_neg (by simp [h]), if_pos h]
  have hp4 : kd ≠ 1 → kd ≠ 2 → kd ≠ 3 → partOK ⟨kd, nm, so, n, s, ks⟩ = false := by
    intro h h' h''; unfold partOK; rw [if_neg h, if_neg h', if_neg h'']
  generalize partOK ⟨kd, nm, so, n, s, ks⟩ = r at hp1 hp2 hp3 hp4 ⊢
  unfold exVal
  simp only
  generalize ks.length = k at hks cO hp1 hp2 hp3 ⊢
  have hkz : (k : Int) ≤ 9223372036854775807 := by omega
  by_cases h1 : kd = 1
  · subst h1
    rw [hp1 rfl]
    clear hp1 hp2 hp3 hp4 cN cO
    by_cases hk0 : k = 0
    · subst hk0
      cases hne : nm.toList.isEmpty
      all_goals
        go_enter Tryz.func90, Tryz.ntmps90
        go_wp2_with fail
        go_ret
        exact ⟨rfl, by go_grown⟩
    · have b0 : ((k : Int) == 0) = false := by simp; omega
      rw [show decide (k = 0) = false by simp [hk0], Bool.and_false]
      cases hne : nm.toList.isEmpty
      all_goals
        go_enter Tryz.func90, Tryz.ntmps90
        go_wp2_with fail
        go_ret
        exact ⟨rfl, by go_grown⟩
  · have k1 : (kd == 1) = false := by simpa using h1
    by_cases h2 : kd = 2
    · subst h2
      rw [hp2 rfl]
      clear hp1 hp2 hp3 hp4 cO
      have cN := fun W => cN W hnm
      generalize isNm nm.data.toList = q at cN ⊢
      have CN : Hid (∀ W : World, Calls Tryz.prog 111 #[.string nm] W fun e w' => e = .returned (.bool q) ∧ Below W.heap.size W w') := cN
      clear cN
      cases q
      · rw [Bool.false_and, Bool.false_and]
        go_enter Tryz.func90, Tryz.ntmps90
        go_wp2_with (go_at_call 111; refine (CN.out _).mono ?_; rintro e w1 ⟨rfl, hb1⟩; obtain ⟨x0, x1, x2, x3, x4, x5, hbw⟩ := keep6 hb1; clear hb1)
        go_ret
        exact ⟨rfl, hbw⟩
      · rw [Bool.true_and]
        rcases zero_cases so n s with ⟨rfl, rfl, rfl⟩ | hz | ⟨rfl, hz⟩ | ⟨rfl, rfl, hz⟩
        · rw [show decide ((0 : Int) = 0 ∧ (0 : Int) = 0 ∧ (⟨#[]⟩ : ByteArray) = ⟨#[]⟩) = true by simp, Bool.true_and]
          by_cases hk0 : k = 0
          · subst hk0
            go_enter Tryz.func90, Tryz.ntmps90
            go_wp2_with (go_at_call 111; refine (CN.out _).mono ?_; rintro e w1 ⟨rfl, hb1⟩; obtain ⟨x0, x1, x2, x3, x4, x5, hbw⟩ := keep6 hb1; clear hb1)
            go_ret
            exact ⟨rfl, hbw⟩
          · have b0 : ((k : Int) == 0) = false := by simp; omega
            rw [show decide (k = 0) = false by simp [hk0]]
            go_enter Tryz.func90, Tryz.ntmps90
            go_wp2_with (go_at_call 111; refine (CN.out _).mono ?_; rintro e w1 ⟨rfl, hb1⟩; obtain ⟨x0, x1, x2, x3, x4, x5, hbw⟩ := keep6 hb1; clear hb1)
            go_ret
            exact ⟨rfl, hbw⟩
        · have b1 : (so == 0) = false := by simpa using hz
          rw [show decide (so = 0 ∧ n = 0 ∧ s = ⟨#[]⟩) = false by simp [hz], Bool.false_and]
          go_enter Tryz.func90, Tryz.ntmps90
          go_wp2_with (go_at_call 111; refine (CN.out _).mono ?_; rintro e w1 ⟨rfl, hb1⟩; obtain ⟨x0, x1, x2, x3, x4, x5, hbw⟩ := keep6 hb1; clear hb1)
          go_ret
          exact ⟨rfl, hbw⟩
        · have b1 : (n == 0) = false := by simpa using hz
          rw [show decide ((0 : Int) = 0 ∧ n = 0 ∧ s = ⟨#[]⟩) = false by simp [hz], Bool.false_and]
          go_enter Tryz.func90, Tryz.ntmps90
          go_wp2_with (go_at_call 111; refine (CN.out _).mono ?_; rintro e w1 ⟨rfl, hb1⟩; obtain ⟨x0, x1, x2, x3, x4, x5, hbw⟩ := keep6 hb1; clear hb1)
          go_ret
          exact ⟨rfl, hbw⟩
        · have b1 : s.toList.isEmpty = false := by rw [empty_toList]; simpa using hz
          rw [show decide ((0 : Int) = 0 ∧ (0 : Int) = 0 ∧ s = ⟨#[]⟩) = false by simp [hz], Bool.false_and]
          go_enter Tryz.func90, Tryz.ntmps90
          go_wp2_with (go_at_call 111; refine (CN.out _).mono ?_; rintro e w1 ⟨rfl, hb1⟩; obtain ⟨x0, x1, x2, x3, x4, x5, hbw⟩ := keep6 hb1; clear hb1)
          go_ret
          exact ⟨rfl, hbw⟩
    · have k2 : (kd == 2) = false := by simpa using h2
      by_cases h3 : kd = 3
      · subst h3
        rw [hp3 rfl]
        clear hp1 hp2 hp3 hp4 cN
        generalize isOp nm.data.toList k = q at cO ⊢
        have CO : Hid (∀ W : World, Calls Tryz.prog 125 #[.string nm, .int .i64 (k : Int)] W fun e w' => e = .returned (.bool q) ∧ w' = W) := cO
        clear cO
        rcases zero_cases so n s with ⟨rfl, rfl, rfl⟩ | hz | ⟨rfl, hz⟩ | ⟨rfl, rfl, hz⟩
        · rw [show decide ((0 : Int) = 0 ∧ (0 : Int) = 0 ∧ (⟨#[]⟩ : ByteArray) = ⟨#[]⟩) = true by simp, Bool.true_and]
          go_enter Tryz.func90, Tryz.ntmps90
          go_wp2_with (go_at_call 125; refine (CO.out _).mono ?_; rintro e w1 ⟨rfl, rfl⟩)
          go_ret
          exact ⟨rfl, by go_grown⟩
        · have b1 : (so == 0) = false := by simpa using hz
          rw [show decide (so = 0 ∧ n = 0 ∧ s = ⟨#[]⟩) = false by simp [hz], Bool.false_and]
          go_enter Tryz.func90, Tryz.ntmps90
          go_wp2_with fail
          go_ret
          exact ⟨rfl, by go_grown⟩
        · have b1 : (n == 0) = false := by simpa using hz
          rw [show decide ((0 : Int) = 0 ∧ n = 0 ∧ s = ⟨#[]⟩) = false by simp [hz], Bool.false_and]
          go_enter Tryz.func90, Tryz.ntmps90
          go_wp2_with fail
          go_ret
          exact ⟨rfl, by go_grown⟩
        · have b1 : s.toList.isEmpty = false := by rw [empty_toList]; simpa using hz
          rw [show decide ((0 : Int) = 0 ∧ (0 : Int) = 0 ∧ s = ⟨#[]⟩) = false by simp [hz], Bool.false_and]
          go_enter Tryz.func90, Tryz.ntmps90
          go_wp2_with fail
          go_ret
          exact ⟨rfl, by go_grown⟩
      · have k3 : (kd == 3) = false := by simpa using h3
        rw [hp4 h1 h2 h3]
        clear hp1 hp2 hp3 hp4 cN cO
        go_enter Tryz.func90, Tryz.ntmps90
        go_wp2_with fail
        go_ret
        exact ⟨rfl, by go_grown⟩
end Go.Proofs.YtipolobikigmbaaGreatDoor
