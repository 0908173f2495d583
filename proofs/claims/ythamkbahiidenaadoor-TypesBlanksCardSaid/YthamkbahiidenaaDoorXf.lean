/-
  The contract of exprs.isPart, for every expression.
-/
import Derived.Test.YthamkbahiidenaaDoorXd
import Derived.Test.YthamkbahiidenaaDoorXb
namespace Go.Proofs.YthamkbahiidenaaDoor
open Go.RowKit

theorem empty_toList (s : ByteArray) : s.toList.isEmpty = decide (s = ⟨#[]⟩) := by
  rw [Bool.eq_iff_iff, ByteArray.toList_eq]
  simp
  constructor
  · intro h; exact ByteArray.ext h
  · rintro rfl; rfl

theorem zero_cases (so n : Int) (s : ByteArray) : (so = 0 ∧ n = 0 ∧ s = ⟨#[]⟩) ∨ so ≠ 0 ∨ (so = 0 ∧ n ≠ 0) ∨ (so = 0 ∧ n = 0 ∧ s ≠ ⟨#[]⟩) := by
  by_cases h1 : so = 0
  · by_cases h2 : n = 0
    · by_cases h3 : s = ⟨#[]⟩
      · exact .inl ⟨h1, h2, h3⟩
      · exact .inr (.inr (.inr ⟨h1, h2, h3⟩))
    · exact .inr (.inr (.inl ⟨h1, h2⟩))
  · exact .inr (.inl h1)

theorem keep6 {w w1 : World} {v0 v1 v2 v3 v4 v5 : Value} {T : TypeId} (hb : Below (w.alloc (.cells #[v0, v1, v2, v3, v4, v5] T)).heap.size (w.alloc (.cells #[v0, v1, v2, v3, v4, v5] T)) w1) :
    w1.cell? ⟨w.heap.size, 0, none⟩ = some v0 ∧ w1.cell? ⟨w.heap.size, 1, none⟩ = some v1 ∧ w1.cell? ⟨w.heap.size, 2, none⟩ = some v2 ∧ w1.cell? ⟨w.heap.size, 3, none⟩ = some v3 ∧ w1.cell? ⟨w.heap.size, 4, none⟩ = some v4 ∧ w1.cell? ⟨w.heap.size, 5, none⟩ = some v5 ∧ Below w.heap.size w w1 := by
  obtain ⟨hc1, _⟩ := bcell hb
  exact ⟨(hc1 _ 0 (by simp)).trans (by go_cell), (hc1 _ 1 (by simp)).trans (by go_cell), (hc1 _ 2 (by simp)).trans (by go_cell), (hc1 _ 3 (by simp)).trans (by go_cell), (hc1 _ 4 (by simp)).trans (by go_cell), (hc1 _ 5 (by simp)).trans (by go_cell), ((Below.refl _ _).alloc (Nat.le_refl _) _).trans (hb.mono (by simp))⟩

end Go.Proofs.YthamkbahiidenaaDoor
