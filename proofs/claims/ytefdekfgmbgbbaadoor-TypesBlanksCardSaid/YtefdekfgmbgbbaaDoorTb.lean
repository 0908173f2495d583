/-
  Signs with blanks around them, one sign after the other, are all signs with blanks around them; what is written so is read as it was.
-/
import Derived.Test.YtefdekfgmbgbbaaDoorKi
import Derived.Test.YtefdekfgmbgbbaaDoorKu
import Derived.Lib.Replace
namespace Go.Proofs.YtefdekfgmbgbbaaDoor
open Go.RowKit Go.Shelf

/-- what stands in the place of a byte -/
def inPl (c : UInt8) (new : List UInt8) (b : UInt8) : List UInt8 := if b = c then new else [b]
theorem idx_hit (c : UInt8) (s : List UInt8) : Lib.index (c :: s) [c] = ((0 : Nat) : Int) := by rw [Lib.index]; simp [List.isPrefixOf]
theorem idx_miss (c b : UInt8) (s : List UInt8) (h : b ≠ c) (j : Nat) (hj : Lib.index s [c] = (j : Int)) : Lib.index (b :: s) [c] = ((j + 1 : Nat) : Int) := by
  have hp : [c].isPrefixOf (b :: s) = false := by simp [List.isPrefixOf]; exact fun e => h e.symm
  rw [Lib.index, hp, hj]
  have : ¬ (((j : Int) == -1) = true) := fun e => by have := beq_iff_eq.1 e; omega
  simp only [Bool.false_eq_true, if_false, if_neg this]
  omega
theorem repK_one (c : UInt8) (new : List UInt8) : ∀ s : List UInt8, Lib.replaceK [c] new (s.count c) s = s.flatMap (inPl c new)
  | [] => rfl
  | b :: s => by
    have ih := repK_one c new s
    rw [List.flatMap_cons]
    by_cases h : b = c
    · subst h
      rw [List.count_cons_self, Lib.replaceK_hit _ _ _ _ 0 (idx_hit b s)]
      show [] ++ new ++ Lib.replaceK [b] new (s.count b) s = _
      rw [ih, inPl, if_pos rfl]
      rfl
    · have hc : (b :: s).count c = s.count c := List.count_cons_of_ne h
      rw [hc, inPl, if_neg h]
      cases hk : s.count c with
      | zero => rw [hk] at ih; rw [← ih]; rfl
      | succ k =>
        rw [hk] at ih
        have h0 : 0 < Lib.count s [c] := by rw [Lib.count_one, hk]; omega
        obtain ⟨j, hj⟩ := Lib.index_of_count h0
        rw [Lib.replaceK_hit _ _ _ _ _ (idx_miss c b s h j hj), ← ih, Lib.replaceK_hit _ _ _ _ _ hj]
        rfl
theorem repAll_one (c : UInt8) (new s : List UInt8) (h : new ≠ [c]) : Lib.replaceAll s [c] new = s.flatMap (inPl c new) := by
  unfold Lib.replaceAll Lib.replace Lib.replaceNum
  rw [if_neg (by simp; exact fun e => h e.symm), if_pos (.inl (by omega)), Lib.count_one]
  exact repK_one c new s
/-- a sign with so many blanks on both sides -/
def wide (k : Nat) (c : UInt8) : List UInt8 := List.replicate k 32 ++ [c] ++ List.replicate k 32
/-- some signs with blanks around them -/
def spS (k : Nat) (cs : List UInt8) (b : UInt8) : List UInt8 := if b ∈ cs then wide k b else [b]
theorem flat_rep (k : Nat) (c : UInt8) (h : c ≠ 32) : ∀ m, (List.replicate m (32 : UInt8)).flatMap (inPl c (wide k c)) = List.replicate m 32
  | 0 => rfl
  | m + 1 => by rw [List.replicate_succ, List.flatMap_cons, flat_rep k c h m, inPl, if_neg (Ne.symm h)]; rfl
theorem spS_next (k : Nat) (cs : List UInt8) (c : UInt8) (hc : c ∉ cs) (h32 : c ≠ 32) (l : List UInt8) : (l.flatMap (spS k cs)).flatMap (inPl c (wide k c)) = l.flatMap (spS k (cs ++ [c])) := by
  rw [List.flatMap_assoc]
  congr 1
  funext b
  unfold spS
  by_cases hb : b ∈ cs
  · have hbc : b ≠ c := fun e => hc (e ▸ hb)
    rw [if_pos hb, if_pos (List.mem_append.2 (.inl hb))]
    show (List.replicate k 32 ++ [b] ++ List.replicate k 32).flatMap _ = _
    rw [List.flatMap_append, List.flatMap_append, flat_rep k c h32]
    simp [inPl, hbc, wide]
  · rw [if_neg hb]
    by_cases hbc : b = c
    · subst hbc
      rw [if_pos (List.mem_append.2 (.inr (by simp)))]
      simp [inPl]
    · rw [if_neg (by rw [List.mem_append]; simp [hb, hbc])]
      simp [inPl, hbc]
def nine : List UInt8 := [46, 58, 44, 123, 125, 33, 63, 43, 38]
theorem spS_all (k : Nat) (l : List UInt8) : l.flatMap (spS k nine) = spL k l := by
  unfold spL
  congr 1
  funext b
  unfold spS sp wide
  have e : (b ∈ nine) ↔ isSg b = true := by
    unfold isSg nine
    simp
  by_cases h : b ∈ nine
  · rw [if_pos h, if_pos (e.1 h)]
  · rw [if_neg h, if_neg (fun q => h (e.2 q))]
theorem spS_none (k : Nat) (l : List UInt8) : l.flatMap (spS k []) = l := by
  unfold spS
  simp
theorem wide_ne (k : Nat) (c : UInt8) (hk : 1 ≤ k) : wide k c ≠ [c] := by
  intro e
  have := congrArg List.length e
  simp [wide] at this
  omega
theorem flat_len (k : Nat) (cs : List UInt8) (l : List UInt8) : (l.flatMap (spS k cs)).length ≤ (2 * k + 1) * l.length := by
  induction l with
  | nil => simp
  | cons b l ih =>
    rw [List.flatMap_cons, List.length_append, List.length_cons]
    have : (spS k cs b).length ≤ 2 * k + 1 := by
      unfold spS wide
      split
      · simp; omega
      · simp
    rw [Nat.mul_add]
    omega
theorem noLow_nil2 : noLow [] := fun _ h => (by cases h)
theorem ps_blank (k : Nat) (t : Ty) (h : chkTy t = 0) (hl : (spL k (wrT t)).length ≤ 2000) : psT (spL k (wrT t)) = .ok t := by
  obtain ⟨hw, hs⟩ := chkTy_good t h
  have hb := wrT_back k t hw 2001 (by omega) [] noLow_nil2
  rw [List.append_nil] at hb
  unfold psT
  rw [if_neg (by omega), hb]
  simp only
  rw [if_pos (show skB [] = [] from rfl), if_pos h]
theorem ps_big (L : List UInt8) (h : 2000 < L.length) : psT L = .error (2, 0) := by unfold psT; rw [if_pos h]
end Go.Proofs.YtefdekfgmbgbbaaDoor
