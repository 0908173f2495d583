/-
  The contract of exprs.isPart, for every expression.
-/
import Derived.Test.YtefdekfgmbgbbaaDoorXd
import Derived.Test.YtefdekfgmbgbbaaDoorXc
import Derived.Deep.LoopGhost
namespace Go.Proofs.YtefdekfgmbgbbaaDoor
open Go.RowKit

theorem empty_toList (s : ByteArray) : s.toList.isEmpty = decide (s = ⟨#[]⟩) := by
  rw [Bool.eq_iff_iff, ByteArray.toList_eq]
  simp
  constructor
  · intro h; exact ByteArray.ext h
  · rintro rfl; rfl

theorem zero_cases (so n : Int) (s : ByteArray) : (so = 0 ∧ n = 0 ∧ s = ⟨#[]⟩) ∨ so ≠ 0 ∨ (so = 0 ∧ n ≠ 0) ∨ (so = 0 ∧ n = 0 ∧ s ≠ ⟨#[]⟩) := by
  by_cases h1 : so = 0
  · by_cases h2 : n = 0
    · by_cases h3 : s = ⟨#[]⟩
      · exact .inl ⟨h1, h2, h3⟩
      · exact .inr (.inr (.inr ⟨h1, h2, h3⟩))
    · exact .inr (.inr (.inl ⟨h1, h2⟩))
  · exact .inr (.inl h1)

theorem keep6 {w w1 : World} {v0 v1 v2 v3 v4 v5 : Value} {T : TypeId} (hb : Below (w.alloc (.cells #[v0, v1, v2, v3, v4, v5] T)).heap.size (w.alloc (.cells #[v0, v1, v2, v3, v4, v5] T)) w1) :
    w1.cell? ⟨w.heap.size, 0, none⟩ = some v0 ∧ w1.cell? ⟨w.heap.size, 1, none⟩ = some v1 ∧ w1.cell? ⟨w.heap.size, 2, none⟩ = some v2 ∧ w1.cell? ⟨w.heap.size, 3, none⟩ = some v3 ∧ w1.cell? ⟨w.heap.size, 4, none⟩ = some v4 ∧ w1.cell? ⟨w.heap.size, 5, none⟩ = some v5 ∧ Below w.heap.size w w1 := by
  obtain ⟨hc1, _⟩ := bcell hb
  exact ⟨(hc1 _ 0 (by simp)).trans (by go_cell), (hc1 _ 1 (by simp)).trans (by go_cell), (hc1 _ 2 (by simp)).trans (by go_cell), (hc1 _ 3 (by simp)).trans (by go_cell), (hc1 _ 4 (by simp)).trans (by go_cell), (hc1 _ 5 (by simp)).trans (by go_cell), ((Below.refl _ _).alloc (Nat.le_refl _) _).trans (hb.mono (by simp))⟩

end Go.Proofs.YtefdekfgmbgbbaaDoor
/-
  The contracts of exprs.checkParts and exprs.Check, for every expression; utf8.ValidString's contract is a hypothesis here.
-/
namespace Go.Proofs.YtefdekfgmbgbbaaDoor
open Go.RowKit
variable (Tabs : World → Prop) (B0 : Nat)

/-- the count of parts lies in a block of its own -/
structure PC (W : World) (b : Nat) (c : Nat) : Prop where
  lt : b < W.heap.size
  cell : W.cell? ⟨b, 0, none⟩ = some (.int .i64 (c : Int))
  free : W.frozen? ⟨b, 0, none⟩ = false
theorem PC.keep {W W' : World} {b c : Nat} (h : PC W b c) {B : Nat} (hb : Below B W W') (hl : b < B) : PC W' b c :=
  ⟨Nat.lt_of_lt_of_le h.lt hb.size, (hb.cell (p := ⟨b, 0, none⟩) hl).trans h.cell, (hb.frozen (p := ⟨b, 0, none⟩) hl).trans h.free⟩
theorem PC.al {W : World} {b c : Nat} (h : PC W b c) (o : Obj) : PC (W.alloc o) b c := h.keep ((Below.refl _ _).alloc (Nat.le_refl _) o) h.lt
theorem PC.set {W : World} {b c : Nat} (h : PC W b c) (k : Nat) : PC (W.setCell ⟨b, 0, none⟩ (.int .i64 (k : Int))) b k := by
  refine ⟨by simpa using h.lt, ?_, ?_⟩
  · exact World.cell?_setCell_same _ _ _ h.cell
  · simpa using h.free

theorem chkL_cnt (ks : List Ex) : ∀ (a : Int × Nat), (∀ k ∈ ks, ∀ c, c ≤ 60 → (chkP k c).1 = 0 → (chkP k c).2 ≤ 60) → a.2 ≤ 60 → (chkL ks a).1 = 0 → (chkL ks a).2 ≤ 60 := by
  induction ks with
  | nil => intro a _ h _; exact h
  | cons x ks ih =>
    intro a hk h h0
    rw [chkL_cons] at h0 ⊢
    by_cases ha : a.1 ≠ 0
    · rw [if_pos ha] at h0 ⊢
      exact ih a (fun k hm => hk k (.tail _ hm)) h h0
    · rw [if_neg ha] at h0 ⊢
      by_cases hx : (chkP x a.2).1 = 0
      · exact ih _ (fun k hm => hk k (.tail _ hm)) (hk x (.head _) _ h hx) h0
      · rw [chkL_bad _ _ hx] at h0; exact absurd h0 hx
theorem chkP_cnt : ∀ x : Ex, ∀ c, c ≤ 60 → (chkP x c).1 = 0 → (chkP x c).2 ≤ 60 := by
  apply exInd
  intro x ih c hc h
  rw [chkP_eq] at h ⊢
  by_cases h1 : 60 < c + 1
  · rw [if_pos h1] at h; exact absurd h (by simp)
  · rw [if_neg h1] at h ⊢
    split at h
    · exact absurd h (by simp)
    · split at h
      · rw [if_neg ‹_›, if_pos ‹_›]; show c + 1 ≤ 60; omega
      · rw [if_neg ‹_›, if_neg ‹_›]
        exact chkL_cnt x.kids (0, c + 1) ih (by show c + 1 ≤ 60; omega) h
theorem chkL_snoc (ks : List Ex) (x : Ex) (a : Int × Nat) : chkL (ks ++ [x]) a = if (chkL ks a).1 ≠ 0 then chkL ks a else chkP x (chkL ks a).2 := by
  unfold chkL; rw [List.foldl_append]; rfl
theorem chkL_split (ks : List Ex) (k : Nat) (a : Int × Nat) (h : (chkL (ks.take k) a).1 ≠ 0) : chkL ks a = chkL (ks.take k) a := by
  have e : chkL ks a = chkL (ks.drop k) (chkL (ks.take k) a) := by
    conv => lhs; rw [← List.take_append_drop k ks]
    unfold chkL; rw [List.foldl_append]
  rw [e, chkL_bad _ _ h]

end Go.Proofs.YtefdekfgmbgbbaaDoor
