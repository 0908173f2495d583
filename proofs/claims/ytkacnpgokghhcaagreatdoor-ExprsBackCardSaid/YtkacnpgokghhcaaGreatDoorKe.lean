/-
  The contracts of types.checkParts and types.Check, for every type.
-/
import Derived.Test.YtkacnpgokghhcaaGreatDoorKc
namespace Go.Proofs.YtkacnpgokghhcaaGreatDoor
open Go.RowKit Go.Shelf

/-- checkParts: the error, and how many parts have been met; ar: the names around -/
def chkT : Ty → List ByteArray → Nat → Int × Nat
  | ⟨kd, so, nm, ls, ks⟩, ar, c =>
    if 60 < c + 1 then (2, c + 1) else if partT ⟨kd, so, nm, ls, ks⟩ = false then (1, c + 1)
    else if kd = 9 ∧ hasN ar nm = false then (4, c + 1) else if kd = 8 ∧ idleN 65536 ⟨kd, so, nm, ls, ks⟩ = true then (7, c + 1)
    else ks.foldl (fun a k => if a.1 ≠ 0 then a else chkT k (if kd = 8 then ar ++ [nm] else ar) a.2) (0, c + 1)
def chkTL (ar : List ByteArray) (ks : List Ty) (a : Int × Nat) : Int × Nat := ks.foldl (fun a k => if a.1 ≠ 0 then a else chkT k ar a.2) a
theorem chkT_eq (t : Ty) (ar : List ByteArray) (c : Nat) : chkT t ar c = if 60 < c + 1 then (2, c + 1) else if partT t = false then (1, c + 1)
    else if t.kind = 9 ∧ hasN ar t.name = false then (4, c + 1) else if t.kind = 8 ∧ idleN 65536 t = true then (7, c + 1)
    else chkTL (if t.kind = 8 then ar ++ [t.name] else ar) t.kids (0, c + 1) := by cases t; rw [chkT]; rfl
theorem chkTL_cons (ar : List ByteArray) (x : Ty) (ks : List Ty) (a : Int × Nat) : chkTL ar (x :: ks) a = chkTL ar ks (if a.1 ≠ 0 then a else chkT x ar a.2) := rfl
theorem chkTL_bad (ar : List ByteArray) (ks : List Ty) (a : Int × Nat) (h : a.1 ≠ 0) : chkTL ar ks a = a := by
  induction ks with
  | nil => rfl
  | cons x ks ih => rw [chkTL_cons, if_pos h]; exact ih
theorem chkTL_snoc (ar : List ByteArray) (ks : List Ty) (x : Ty) (a : Int × Nat) : chkTL ar (ks ++ [x]) a = if (chkTL ar ks a).1 ≠ 0 then chkTL ar ks a else chkT x ar (chkTL ar ks a).2 := by
  unfold chkTL; rw [List.foldl_append]; rfl
theorem chkTL_split (ar : List ByteArray) (ks : List Ty) (k : Nat) (a : Int × Nat) (h : (chkTL ar (ks.take k) a).1 ≠ 0) : chkTL ar ks a = chkTL ar (ks.take k) a := by
  have e : chkTL ar ks a = chkTL ar (ks.drop k) (chkTL ar (ks.take k) a) := by
    conv => lhs; rw [← List.take_append_drop k ks]
    unfold chkTL; rw [List.foldl_append]
  rw [e, chkTL_bad _ _ _ h]
theorem chkTL_cnt (ar : List ByteArray) (ks : List Ty) : ∀ (a : Int × Nat), (∀ k ∈ ks, ∀ ar c, c ≤ 60 → (chkT k ar c).1 = 0 → c ≤ (chkT k ar c).2 ∧ (chkT k ar c).2 ≤ 60) → a.2 ≤ 60 → (chkTL ar ks a).1 = 0 → a.2 ≤ (chkTL ar ks a).2 ∧ (chkTL ar ks a).2 ≤ 60 := by
  induction ks with
  | nil => intro a _ h _; exact ⟨Nat.le_refl _, h⟩
  | cons x ks ih =>
    intro a hk h h0
    rw [chkTL_cons] at h0 ⊢
    by_cases ha : a.1 ≠ 0
    · rw [if_pos ha] at h0 ⊢
      exact ih a (fun k hm => hk k (.tail _ hm)) h h0
    · rw [if_neg ha] at h0 ⊢
      by_cases hx : (chkT x ar a.2).1 = 0
      · have h1 := hk x (.head _) ar a.2 h hx
        have h2 := ih _ (fun k hm => hk k (.tail _ hm)) h1.2 h0
        exact ⟨Nat.le_trans h1.1 h2.1, h2.2⟩
      · rw [chkTL_bad _ _ _ hx] at h0; exact absurd h0 hx
theorem chkT_cnt : ∀ t : Ty, ∀ ar c, c ≤ 60 → (chkT t ar c).1 = 0 → c ≤ (chkT t ar c).2 ∧ (chkT t ar c).2 ≤ 60 := by
  apply tyInd
  intro t ih ar c hc h
  rw [chkT_eq] at h ⊢
  by_cases h1 : 60 < c + 1
  · rw [if_pos h1] at h; exact absurd h (by simp)
  rw [if_neg h1] at h ⊢
  by_cases h2 : partT t = false
  · rw [if_pos h2] at h; exact absurd h (by simp)
  rw [if_neg h2] at h ⊢
  by_cases h3 : t.kind = 9 ∧ hasN ar t.name = false
  · rw [if_pos h3] at h; exact absurd h (by simp)
  rw [if_neg h3] at h ⊢
  by_cases h4 : t.kind = 8 ∧ idleN 65536 t = true
  · rw [if_pos h4] at h; exact absurd h (by simp)
  rw [if_neg h4] at h ⊢
  have := chkTL_cnt _ t.kids (0, c + 1) ih (by show c + 1 ≤ 60; omega) h
  exact ⟨by have := this.1; simp only at this; omega, this.2⟩

/-- what checkParts keeps while it goes on: its argument's block, the count, and that nothing else has changed -/
structure ST (w : World) (pb c : Nat) (t : Ty) (al : Option Addr) (cl : Nat) (ak : Option Addr) (ck : Nat) (W : World) : Prop where
  lt : w.heap.size < W.heap.size
  ty : TyAt W w.heap.size 0 t al cl ak ck
  pc : PC W pb c
  fr : FR pb w W
theorem ST.keep {w : World} {pb c : Nat} {t : Ty} {al : Option Addr} {cl : Nat} {ak : Option Addr} {ck : Nat} {W W' : World} (h : ST w pb c t al cl ak ck W) (hb : Below W.heap.size W W') : ST w pb c t al cl ak ck W' :=
  ⟨Nat.lt_of_lt_of_le h.lt hb.size, h.ty.keep hb h.lt, h.pc.keep hb h.pc.lt, h.fr.trans (FR.of hb)⟩
theorem ST.cells {w : World} {pb c : Nat} {t : Ty} {al : Option Addr} {cl : Nat} {ak : Option Addr} {ck : Nat} {W : World} (h : ST w pb c t al cl ak ck W) :
    W.cell? ⟨w.heap.size, 0, none⟩ = some (.int .i64 t.kind) ∧ W.cell? ⟨w.heap.size, 1, none⟩ = some (.int .i64 t.so) ∧ W.cell? ⟨w.heap.size, 2, none⟩ = some (.string t.name) ∧ W.cell? ⟨w.heap.size, 3, none⟩ = some (.slice al t.labels.length cl) ∧ W.cell? ⟨w.heap.size, 4, none⟩ = some (.slice ak t.kids.length ck) := by
  obtain ⟨e0, e1, e2, e3, e4⟩ := h.ty
  simp only [Nat.zero_add] at e1 e2 e3 e4
  exact ⟨e0, e1, e2, e3, e4⟩
/-- what Check says of a type -/
def chkTy (t : Ty) : Int := (chkT t [] 0).1
end Go.Proofs.YtkacnpgokghhcaaGreatDoor
/-
  What Check lets by has at most 60 parts, each right; the contracts of types.size and types.Size, for every type.
-/
namespace Go.Proofs.YtkacnpgokghhcaaGreatDoor
open Go.RowKit Go.Shelf

/-- right in all its parts -/
def wfT : Ty → Prop
  | ⟨kd, so, nm, ls, ks⟩ => partT ⟨kd, so, nm, ls, ks⟩ = true ∧ ∀ k ∈ ks, wfT k
theorem wfT_eq (t : Ty) : wfT t ↔ partT t = true ∧ ∀ k ∈ t.kids, wfT k := by cases t; rw [wfT]
theorem chkTL_all (ar : List ByteArray) (ks : List Ty) : ∀ (a : Int × Nat), (∀ k ∈ ks, ∀ ar c, (chkT k ar c).1 = 0 → wfT k ∧ (chkT k ar c).2 = c + sizeT k) → (chkTL ar ks a).1 = 0 → (∀ k ∈ ks, wfT k) ∧ (chkTL ar ks a).2 = a.2 + (ks.map sizeT).sum := by
  induction ks with
  | nil => intro a _ _; exact ⟨fun k hk => (by cases hk), rfl⟩
  | cons x ks ih =>
    intro a hk h0
    rw [chkTL_cons] at h0 ⊢
    by_cases ha : a.1 ≠ 0
    · rw [if_pos ha, chkTL_bad _ _ _ ha] at h0; exact absurd h0 ha
    · rw [if_neg ha] at h0 ⊢
      by_cases hx : (chkT x ar a.2).1 = 0
      · have h1 := hk x (.head _) ar a.2 hx
        have h2 := ih _ (fun k hm => hk k (.tail _ hm)) h0
        refine ⟨fun k hm => ?_, ?_⟩
        · rcases List.mem_cons.1 hm with rfl | hm
          · exact h1.1
          · exact h2.1 k hm
        · rw [h2.2, h1.2]; simp only [List.map_cons, List.sum_cons]; omega
      · rw [chkTL_bad _ _ _ hx] at h0; exact absurd h0 hx
theorem chkT_all : ∀ t : Ty, ∀ ar c, (chkT t ar c).1 = 0 → wfT t ∧ (chkT t ar c).2 = c + sizeT t := by
  apply tyInd
  intro t ih ar c h
  have hs := sizeT_eq t
  rw [chkT_eq] at h ⊢
  by_cases h1 : 60 < c + 1
  · rw [if_pos h1] at h; exact absurd h (by simp)
  rw [if_neg h1] at h ⊢
  by_cases h2 : partT t = false
  · rw [if_pos h2] at h; exact absurd h (by simp)
  rw [if_neg h2] at h ⊢
  by_cases h3 : t.kind = 9 ∧ hasN ar t.name = false
  · rw [if_pos h3] at h; exact absurd h (by simp)
  rw [if_neg h3] at h ⊢
  by_cases h4 : t.kind = 8 ∧ idleN 65536 t = true
  · rw [if_pos h4] at h; exact absurd h (by simp)
  rw [if_neg h4] at h ⊢
  have := chkTL_all _ t.kids (0, c + 1) ih h
  refine ⟨(wfT_eq t).2 ⟨by simpa using h2, this.1⟩, ?_⟩
  rw [this.2, hs]; simp only; omega
theorem chkTy_good (t : Ty) (h : chkTy t = 0) : wfT t ∧ sizeT t ≤ 60 := by
  have h1 := chkT_all t [] 0 h
  have h2 := chkT_cnt t [] 0 (by omega) h
  exact ⟨h1.1, by omega⟩

theorem sum_take_le (ks : List Ty) (k : Nat) : ((ks.take k).map sizeT).sum ≤ (ks.map sizeT).sum := by
  conv => rhs; rw [← List.take_append_drop k ks]
  rw [List.map_append, List.sum_append]; omega

/-- what Size tells -/
def szR (t : Ty) : Int × Int := if chkTy t = 0 then ((sizeT t : Int), 0) else (0, chkTy t)
end Go.Proofs.YtkacnpgokghhcaaGreatDoor
