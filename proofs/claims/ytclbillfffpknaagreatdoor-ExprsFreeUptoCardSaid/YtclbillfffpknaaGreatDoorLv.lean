/-
  The contract of duetref.Value: it tells of every value what values.Check tells.
-/
import Derived.Test.YtclbillfffpknaaGreatDoorLr
namespace Go.Proofs.YtclbillfffpknaaGreatDoor
open Go.RowKit Go.Shelf

theorem empty_size (s : ByteArray) (h : s.toList.isEmpty = true) : s = ⟨#[]⟩ := by
  have h2 : s.toList = [] := List.isEmpty_iff.1 h
  rw [ByteArray.toList_eq] at h2
  apply ByteArray.ext; apply Array.toList_inj.1; rw [h2]

set_option maxHeartbeats 1000000 in
theorem refValue_any (so n : Int) (s : ByteArray) (w : World) (hT : Tabs w) :
    Calls Tryz.prog 11 #[.agg #[.int .i64 so, .int .i64 n, .string s]] w fun e w' => e = .returned (.int .i64 (chkZ vD so n s)) ∧ Below w.heap.size w w' := by
  by_cases h3 : so = 3 ∧ n = 0
  · obtain ⟨rfl, rfl⟩ := h3
    rw [show chkZ vD 3 0 s = textZ vD 0 s from rfl]
    by_cases hl : 100 < s.size
    · have e1 : textZ vD 0 s = 2 := by simp [textZ, hl]
      have hlz : (s.size : Int) > 100 := by omega
      rw [e1]; clear e1
      go_enter Tryz.func11, Tryz.ntmps11
      go_wp2
      go_ret
      exact ⟨rfl, (Below.refl _ _).alloc (Nat.le_refl _) _⟩
    · have e1 : textZ vD 0 s = argZ (vD s) := by simp [textZ, hl]
      have hlz : ¬ (s.size : Int) > 100 := by omega
      rw [e1]; clear e1
      have CL := letters_any s (w.alloc (.cells #[.int .i64 3, .int .i64 0, .string s] 23)) (by omega) (tabs_keep _ _ hT ((Below.refl _ _).alloc (Nat.le_refl _) _))
      have hvd : vD s = Lib.validD s.data.toList := rfl
      generalize hz : argZ (vD s) = z
      have HZ : Hid (argZ (vD s) = z) := hz
      clear hz
      go_enter Tryz.func11, Tryz.ntmps11
      go_wp2_with fail
      refine CL.mono ?_
      rintro e w1 ⟨hp, hb⟩
      have hbw : Below w.heap.size w w1 := ((Below.refl w.heap.size w).alloc (Nat.le_refl _) _).trans (hb.mono (by simp))
      rcases hp with ⟨hv, rfl⟩ | ⟨hv, rs, v, _, _, rfl, hown⟩
      · have hz1 : z = 1 := by rw [← HZ.out, hvd, hv]; rfl
        subst hz1
        go_wp2
        go_ret
        exact ⟨rfl, hbw⟩
      · have hz1 : z = 0 := by rw [← HZ.out, hvd, hv]; rfl
        subst hz1
        go_wp2
        go_ret
        exact ⟨rfl, hbw⟩
  · have hz : ∃ z : Int, chkZ vD so n s = z ∧ ((s.toList.isEmpty = true ∧ (so = 1 ∨ so = 2 ∧ (n = 0 ∨ n = 1))) → z = 0) ∧ (¬ (s.toList.isEmpty = true ∧ (so = 1 ∨ so = 2 ∧ (n = 0 ∨ n = 1))) → z = 1) := by
      refine ⟨_, rfl, ?_, ?_⟩
      · rintro ⟨he, rfl | ⟨rfl, rfl | rfl⟩⟩
        · show argZ s.toList.isEmpty = 0; rw [he]; rfl
        · show argZ (s.toList.isEmpty && _) = 0; rw [he]; rfl
        · show argZ (s.toList.isEmpty && _) = 0; rw [he]; rfl
      · intro hn
        unfold chkZ
        by_cases h1 : so = 1
        · rw [if_pos h1]
          have : s.toList.isEmpty = false := by
            cases h : s.toList.isEmpty
            · rfl
            · exact absurd ⟨h, .inl h1⟩ hn
          rw [this]; rfl
        · rw [if_neg h1]
          by_cases h2 : so = 2
          · rw [if_pos h2]
            have : (s.toList.isEmpty && (n == 0 || n == 1)) = false := by
              cases h : (s.toList.isEmpty && (n == 0 || n == 1))
              · rfl
              · simp at h
                exact absurd ⟨by simpa using h.1, .inr ⟨h2, h.2⟩⟩ hn
            rw [this]; rfl
          · rw [if_neg h2]
            by_cases h3' : so = 3
            · rw [if_pos h3']
              have : n ≠ 0 := fun c => h3 ⟨h3', c⟩
              simp [textZ, this]
            · rw [if_neg h3']
    obtain ⟨z, hz0, hz1, hz2⟩ := hz
    rw [hz0]
    have H1 : Hid ((s.toList.isEmpty = true ∧ (so = 1 ∨ so = 2 ∧ (n = 0 ∨ n = 1))) → z = 0) := hz1
    have H2 : Hid (¬ (s.toList.isEmpty = true ∧ (so = 1 ∨ so = 2 ∧ (n = 0 ∨ n = 1))) → z = 1) := hz2
    clear hz0 hz1 hz2
    have hbw : ∀ o, Below w.heap.size w (w.alloc o) := fun o => (Below.refl _ _).alloc (Nat.le_refl _) o
    have H3 : Hid (¬ (so = 3 ∧ n = 0)) := h3
    clear h3
    by_cases b3 : so = 3
    · subst b3
      have hn0 : (n == 0) = false := by rw [beq_eq_false_iff_ne]; exact fun c => H3.out ⟨rfl, c⟩
      have hz1 : z = 1 := H2.out (by rintro ⟨_, h | ⟨h, _⟩⟩ <;> omega)
      subst hz1
      cases he : s.toList.isEmpty
      all_goals
        go_enter Tryz.func11, Tryz.ntmps11
        go_wp2
        go_ret
        exact ⟨rfl, hbw _⟩
    · have b3' : (so == 3) = false := by rw [beq_eq_false_iff_ne]; exact b3
      cases he : s.toList.isEmpty
      · have hz1 : z = 1 := H2.out (by rw [he]; simp)
        subst hz1
        clear b3
        go_enter Tryz.func11, Tryz.ntmps11
        go_wp2
        go_ret
        exact ⟨rfl, hbw _⟩
      · by_cases b1 : so = 1
        · subst b1
          have hz1 : z = 0 := H1.out ⟨he, .inl rfl⟩
          subst hz1
          clear b3
          go_enter Tryz.func11, Tryz.ntmps11
          go_wp2
          go_ret
          exact ⟨rfl, hbw _⟩
        · have b1' : (so == 1) = false := by rw [beq_eq_false_iff_ne]; exact b1
          by_cases b2 : so = 2
          · subst b2
            by_cases n0 : n = 0
            · subst n0
              have hz1 : z = 0 := H1.out ⟨he, .inr ⟨rfl, .inl rfl⟩⟩
              subst hz1
              clear b3 b1
              go_enter Tryz.func11, Tryz.ntmps11
              go_wp2
              go_ret
              exact ⟨rfl, hbw _⟩
            · have n0' : (n == 0) = false := by rw [beq_eq_false_iff_ne]; exact n0
              by_cases n1 : n = 1
              · subst n1
                have hz1 : z = 0 := H1.out ⟨he, .inr ⟨rfl, .inr rfl⟩⟩
                subst hz1
                clear b3 b1
                go_enter Tryz.func11, Tryz.ntmps11
                go_wp2
                go_ret
                exact ⟨rfl, hbw _⟩
              · have n1' : (n == 1) = false := by rw [beq_eq_false_iff_ne]; exact n1
                have hz1 : z = 1 := H2.out (by rintro ⟨_, h | ⟨_, h | h⟩⟩; omega; exact n0 h; exact n1 h)
                subst hz1
                clear b3 b1 n0 n1
                go_enter Tryz.func11, Tryz.ntmps11
                go_wp2
                go_ret
                exact ⟨rfl, hbw _⟩
          · have b2' : (so == 2) = false := by rw [beq_eq_false_iff_ne]; exact b2
            have hz1 : z = 1 := H2.out (by rintro ⟨_, h | ⟨h, _⟩⟩; exact b1 h; exact b2 h)
            subst hz1
            clear b3 b1 b2
            go_enter Tryz.func11, Tryz.ntmps11
            go_wp2
            go_ret
            exact ⟨rfl, hbw _⟩
end Go.Proofs.YtclbillfffpknaaGreatDoor
