/-
  Plain mathematics: what Fold makes of an expression: it is right, has no more parts, the same sort and the same value, and folded again it is as it is; for every right expression.
-/
import Derived.Test.YtipolobikigmbaaGreatDoorXk
namespace Go.Proofs.YtipolobikigmbaaGreatDoor
open Go.RowKit

def Ex.lit (v : Vl) : Ex := ⟨1, ⟨#[]⟩, v.so, v.n, v.s, []⟩
/-- no names -/
def E0 : ByteArray → Int × Int := lookS [] []
def F0 : ByteArray → Vl := lookV []
theorem E0_bad (nm : ByteArray) : E0 nm = (0, 4) := rfl
/-- what folded makes of a part whose Kids are folded -/
def foldN (p : Ex) : Ex :=
  if p.kind ≠ 3 ∨ p.kids.any (fun k => k.kind != 1) = true then p else if (sortX E0 p).2 ≠ 0 then p else Ex.lit (valX F0 p)
def foldX : Ex → Ex
  | ⟨kd, nm, so, n, s, ks⟩ => foldN ⟨kd, nm, so, n, s, ks.map foldX⟩
theorem foldX_eq (x : Ex) : foldX x = foldN ⟨x.kind, x.name, x.so, x.n, x.s, x.kids.map foldX⟩ := by cases x; rw [foldX]
def sizeX : Ex → Nat
  | ⟨_, _, _, _, _, ks⟩ => 1 + (ks.map sizeX).sum
theorem sizeX_eq (x : Ex) : sizeX x = 1 + (x.kids.map sizeX).sum := by cases x; rw [sizeX]

theorem chkL_good (ks : List Ex) : ∀ (c : Nat), (∀ k ∈ ks, ∀ c, c + sizeX k ≤ 60 → chkP k c = (0, c + sizeX k)) → c + (ks.map sizeX).sum ≤ 60 → chkL ks (0, c) = (0, c + (ks.map sizeX).sum) := by
  induction ks with
  | nil => intro c _ _; rfl
  | cons x ks ih =>
    intro c h hc
    simp only [List.map_cons, List.sum_cons] at hc ⊢
    rw [chkL_cons, if_neg (by simp), h x (.head _) c (by omega), ih _ (fun k hk => h k (.tail _ hk)) (by omega)]
    simp only [Nat.add_assoc]
theorem chk_good : ∀ x : Ex, wfX x → ∀ c, c + sizeX x ≤ 60 → chkP x c = (0, c + sizeX x) := by
  apply exInd
  intro x ih hw c hc
  obtain ⟨hp, hv, hk⟩ := (wfX_eq x).1 hw
  have hs := sizeX_eq x
  rw [chkP_eq, if_neg (by omega), if_neg (by simp [hp])]
  by_cases h1 : x.kind = 1
  · rw [if_pos h1, hv h1]
    have := kind1_kids x hp h1
    rw [this] at hs; simp at hs; rw [hs]
  · rw [if_neg h1, chkL_good x.kids (c + 1) (fun k hm c hc => ih k hm (hk k hm) c hc) (by omega)]
    rw [hs]; simp only [Nat.add_assoc]
theorem chkL_size (ks : List Ex) : ∀ (a : Int × Nat), (∀ k ∈ ks, ∀ c, (chkP k c).1 = 0 → (chkP k c).2 = c + sizeX k) → (chkL ks a).1 = 0 → (chkL ks a).2 = a.2 + (ks.map sizeX).sum := by
  induction ks with
  | nil => intro a _ _; rfl
  | cons x ks ih =>
    intro a h h0
    rw [chkL_cons] at h0 ⊢
    simp only [List.map_cons, List.sum_cons]
    by_cases ha : a.1 ≠ 0
    · rw [if_pos ha, chkL_bad _ _ ha] at h0; exact absurd h0 ha
    · rw [if_neg ha] at h0 ⊢
      by_cases hx : (chkP x a.2).1 = 0
      · rw [ih _ (fun k hk => h k (.tail _ hk)) h0, h x (.head _) _ hx]; omega
      · rw [chkL_bad _ _ hx] at h0; exact absurd h0 hx
theorem chk_size_of : ∀ x : Ex, ∀ c, (chkP x c).1 = 0 → (chkP x c).2 = c + sizeX x := by
  apply exInd
  intro x ih c h
  have hs := sizeX_eq x
  rw [chkP_eq] at h ⊢
  by_cases h1 : 60 < c + 1
  · rw [if_pos h1] at h; exact absurd h (by simp)
  · rw [if_neg h1] at h ⊢
    by_cases h2 : partOK x = false
    · rw [if_pos h2] at h; exact absurd h (by simp)
    · rw [if_neg h2] at h ⊢
      by_cases h3 : x.kind = 1
      · rw [if_pos h3]
        have := kind1_kids x (by simpa using h2) h3
        rw [this] at hs; simp at hs; rw [hs]
      · rw [if_neg h3] at h ⊢
        rw [chkL_size x.kids (0, c + 1) ih h, hs]; simp only; omega
/-- Check lets by just what is right and has at most 60 parts -/
theorem chkX_iff (x : Ex) : chkX x = 0 ↔ wfX x ∧ sizeX x ≤ 60 := by
  constructor
  · intro h
    refine ⟨chk_wf x 0 h, ?_⟩
    have h1 := chk_size_of x 0 h
    have h2 := chkP_cnt x 0 (by omega) h
    omega
  · rintro ⟨h1, h2⟩
    unfold chkX; rw [chk_good x h1 0 (by omega)]

theorem wf_lit (v : Vl) (h : v.good) : wfX (Ex.lit v) := by
  rw [wfX_eq]; exact ⟨by simp [partOK, Ex.lit], fun _ => h, fun k hk => by cases hk⟩
theorem wf_op (nm : ByteArray) (ks : List Ex) (hk : ∀ k ∈ ks, wfX k) (ho : isOp nm.data.toList ks.length = true) : wfX ⟨3, nm, 0, 0, ⟨#[]⟩, ks⟩ := by
  rw [wfX_eq]; exact ⟨by simp [partOK, ho], fun h => by simp at h, hk⟩
/-- an operator, as it must be -/
theorem wf_form (x : Ex) (h : wfX x) (h3 : x.kind = 3) : x.so = 0 ∧ x.n = 0 ∧ x.s = ⟨#[]⟩ ∧ isOp x.name.data.toList x.kids.length = true := by
  obtain ⟨hp, _, _⟩ := (wfX_eq x).1 h
  unfold partOK at hp
  rw [if_neg (by omega), if_neg (by omega), if_pos h3] at hp
  simp only [Bool.and_eq_true, decide_eq_true_eq] at hp
  exact ⟨hp.1.1, hp.1.2.1, hp.1.2.2, hp.2⟩
theorem foldN_wf (p : Ex) (h : wfX p) : wfX (foldN p) := by
  unfold foldN
  split
  · exact h
  · split
    · exact h
    · rename_i hs
      have hs' : (sortX E0 p).2 = 0 := Decidable.not_not.1 hs
      exact wf_lit _ (sort_val E0 F0 (fun nm so hE => by rw [E0_bad] at hE; simp at hE) p h _ (Prod.ext rfl hs')).1
theorem foldN_size (p : Ex) : sizeX (foldN p) ≤ sizeX p := by
  unfold foldN
  split
  · exact Nat.le_refl _
  · split
    · exact Nat.le_refl _
    · rw [sizeX_eq p, sizeX_eq (Ex.lit _)]; simp [Ex.lit]
theorem sum_le (ks : List Ex) (h : ∀ k ∈ ks, sizeX (foldX k) ≤ sizeX k) : ((ks.map foldX).map sizeX).sum ≤ (ks.map sizeX).sum := by
  induction ks with
  | nil => exact Nat.le_refl _
  | cons x ks ih =>
    simp only [List.map_cons, List.sum_cons]
    have h1 := h x (.head _)
    have h2 := ih (fun k hk => h k (.tail _ hk))
    omega
theorem fold_size : ∀ x : Ex, sizeX (foldX x) ≤ sizeX x := by
  apply exInd
  intro x ih
  rw [foldX_eq, sizeX_eq x]
  refine Nat.le_trans (foldN_size _) ?_
  rw [sizeX_eq]
  have := sum_le x.kids ih
  simp only; omega
/-- what stands ahead of folded: the part with its Kids folded -/
theorem part_wf (x : Ex) (h : wfX x) (ih : ∀ k ∈ x.kids, wfX (foldX k)) : wfX ⟨x.kind, x.name, x.so, x.n, x.s, x.kids.map foldX⟩ := by
  by_cases h3 : x.kind = 3
  · obtain ⟨a, b, c, d⟩ := wf_form x h h3
    rw [h3, a, b, c]
    refine wf_op _ _ ?_ (by simpa using d)
    intro k hk
    obtain ⟨y, hy, rfl⟩ := List.mem_map.1 hk
    exact ih y hy
  · have : x.kids = [] := by
      rcases wf_cases x h with ⟨_, hk, _⟩ | ⟨_, hk, _⟩ | ⟨h', _⟩ | ⟨h', _⟩
      · exact hk
      · exact hk
      · exact absurd h' h3
      · exact absurd h' h3
    rw [this, List.map_nil, ← this]; cases x; exact h
theorem fold_wf : ∀ x : Ex, wfX x → wfX (foldX x) := by
  apply exInd
  intro x ih h
  rw [foldX_eq]
  exact foldN_wf _ (part_wf x h fun k hk => ih k hk (((wfX_eq x).1 h).2.2 k hk))
theorem fold_chk (x : Ex) (h : chkX x = 0) : chkX (foldX x) = 0 := by
  obtain ⟨h1, h2⟩ := (chkX_iff x).1 h
  exact (chkX_iff _).2 ⟨fold_wf x h1, Nat.le_trans (fold_size x) h2⟩

theorem foldN_cases (p : Ex) : foldN p = p ∨ (p.kind = 3 ∧ (∀ k ∈ p.kids, k.kind = 1) ∧ (sortX E0 p).2 = 0 ∧ foldN p = Ex.lit (valX F0 p)) := by
  unfold foldN
  by_cases h1 : p.kind ≠ 3 ∨ p.kids.any (fun k => k.kind != 1) = true
  · rw [if_pos h1]; exact .inl rfl
  · rw [if_neg h1]
    by_cases h2 : (sortX E0 p).2 ≠ 0
    · rw [if_pos h2]; exact .inl rfl
    · rw [if_neg h2]
      refine .inr ⟨Decidable.not_not.1 (fun h => h1 (.inl h)), fun k hk => ?_, Decidable.not_not.1 h2, rfl⟩
      apply Classical.byContradiction
      intro hn
      exact h1 (.inr (List.any_eq_true.2 ⟨k, hk, by simpa using hn⟩))
theorem fold_lit (v : Vl) : foldX (Ex.lit v) = Ex.lit v := by
  rw [foldX_eq]; unfold foldN Ex.lit; rw [if_pos (.inl (by simp))]; simp
theorem fold_twice : ∀ x : Ex, foldX (foldX x) = foldX x := by
  apply exInd
  intro x ih
  have e : ∀ ks : List Ex, (∀ k ∈ ks, foldX (foldX k) = foldX k) → (ks.map foldX).map foldX = ks.map foldX := by
    intro ks
    induction ks with
    | nil => intro _; rfl
    | cons y ks ihk => intro h; simp only [List.map_cons]; rw [h y (.head _), ihk fun k hk => h k (.tail _ hk)]
  rw [foldX_eq x]
  rcases foldN_cases ⟨x.kind, x.name, x.so, x.n, x.s, x.kids.map foldX⟩ with h | ⟨_, _, _, h⟩
  · conv => lhs; rw [h]
    rw [foldX_eq]
    simp only
    rw [e x.kids ih]
  · rw [h, fold_lit]
theorem fold_leaf (x : Ex) (h3 : x.kind ≠ 3) (hk : x.kids = []) : foldX x = x := by
  rw [foldX_eq]; unfold foldN; rw [if_pos (.inl h3), hk, List.map_nil, ← hk]; cases x; rfl
/-- the sort and the value of what is folded -/
theorem fold_same (E : ByteArray → Int × Int) (F : ByteArray → Vl) : ∀ x : Ex, wfX x → ∀ n, sortX E x = (n, 0) → sortX E (foldX x) = (n, 0) ∧ valX F (foldX x) = valX F x := by
  apply exInd
  intro x ih hw n hs
  have hE0 : ∀ nm so, E0 nm = (so, 0) → (F0 nm).good ∧ (F0 nm).so = so := fun nm so hE => by rw [E0_bad] at hE; simp at hE
  rcases wf_cases x hw with ⟨h, hk, hg⟩ | ⟨h, hk, _⟩ | ⟨h, a, hk, ha, hop⟩ | ⟨h, a, b, hk, ha, hb, hop⟩
  · rw [fold_leaf x (by omega) hk]; exact ⟨hs, rfl⟩
  · rw [fold_leaf x (by omega) hk]; exact ⟨hs, rfl⟩
  · have hpw := part_wf x hw fun k hm => fold_wf k (((wfX_eq x).1 hw).2.2 k hm)
    rw [hk] at hpw ih
    rw [foldX_eq, hk]
    simp only [List.map_cons, List.map_nil] at hpw ⊢
    rw [sort_one E x a h hk] at hs
    rw [val_one F x a h hk]
    have p2 : (sortX E a).2 = 0 := by
      unfold sort1 at hs
      split at hs
      · exact absurd (Prod.mk.inj hs).2 ‹_›
      · exact Decidable.not_not.1 ‹_›
    obtain ⟨s1, v1⟩ := ih a (by simp) ha (sortX E a).1 (Prod.ext rfl p2)
    have s1' : sortX E (foldX a) = sortX E a := by rw [s1]; exact Prod.ext rfl p2.symm
    have sp : sortX E ⟨x.kind, x.name, x.so, x.n, x.s, [foldX a]⟩ = (n, 0) := by rw [sort_one E ⟨x.kind, x.name, x.so, x.n, x.s, [foldX a]⟩ (foldX a) h rfl, s1']; exact hs
    have vp : valX F ⟨x.kind, x.name, x.so, x.n, x.s, [foldX a]⟩ = oneV x.name.data.toList (valX F a) := by rw [val_one F ⟨x.kind, x.name, x.so, x.n, x.s, [foldX a]⟩ (foldX a) h rfl, v1]
    rcases foldN_cases ⟨x.kind, x.name, x.so, x.n, x.s, [foldX a]⟩ with e | ⟨_, hl, _, e⟩
    · rw [e]; exact ⟨sp, vp⟩
    · have l1 : (foldX a).kind = 1 := hl (foldX a) (.head _)
      have se : sortX E0 ⟨x.kind, x.name, x.so, x.n, x.s, [foldX a]⟩ = sortX E ⟨x.kind, x.name, x.so, x.n, x.s, [foldX a]⟩ := by
        rw [sort_one E0 ⟨x.kind, x.name, x.so, x.n, x.s, [foldX a]⟩ (foldX a) h rfl, sort_one E ⟨x.kind, x.name, x.so, x.n, x.s, [foldX a]⟩ (foldX a) h rfl, sort_lit E0 _ l1, sort_lit E _ l1]
      have ve : valX F0 ⟨x.kind, x.name, x.so, x.n, x.s, [foldX a]⟩ = valX F ⟨x.kind, x.name, x.so, x.n, x.s, [foldX a]⟩ := by
        rw [val_one F0 ⟨x.kind, x.name, x.so, x.n, x.s, [foldX a]⟩ (foldX a) h rfl, val_one F ⟨x.kind, x.name, x.so, x.n, x.s, [foldX a]⟩ (foldX a) h rfl, val_lit F0 _ l1, val_lit F _ l1]
      obtain ⟨_, q⟩ := sort_val E0 F0 hE0 _ hpw n (se.trans sp)
      rw [e, sort_lit E _ rfl, val_lit F _ rfl]
      refine ⟨Prod.ext q rfl, ?_⟩
      rw [← vp, ← ve]; rfl
  · have hpw := part_wf x hw fun k hm => fold_wf k (((wfX_eq x).1 hw).2.2 k hm)
    rw [hk] at hpw ih
    rw [foldX_eq, hk]
    simp only [List.map_cons, List.map_nil] at hpw ⊢
    rw [sort_two E x a b h hk] at hs
    rw [val_two F x a b h hk]
    have p2 : (sortX E a).2 = 0 ∧ (sortX E b).2 = 0 := by
      unfold sort2 at hs
      split at hs
      · exact absurd (Prod.mk.inj hs).2 ‹_›
      · split at hs
        · exact absurd (Prod.mk.inj hs).2 (by decide)
        · split at hs
          · exact absurd (Prod.mk.inj hs).2 ‹_›
          · exact ⟨Decidable.not_not.1 ‹_›, Decidable.not_not.1 ‹_›⟩
    obtain ⟨s1, v1⟩ := ih a (by simp) ha (sortX E a).1 (Prod.ext rfl p2.1)
    obtain ⟨s2, v2⟩ := ih b (by simp) hb (sortX E b).1 (Prod.ext rfl p2.2)
    have s1' : sortX E (foldX a) = sortX E a := by rw [s1]; exact Prod.ext rfl p2.1.symm
    have s2' : sortX E (foldX b) = sortX E b := by rw [s2]; exact Prod.ext rfl p2.2.symm
    have sp : sortX E ⟨x.kind, x.name, x.so, x.n, x.s, [foldX a, foldX b]⟩ = (n, 0) := by rw [sort_two E ⟨x.kind, x.name, x.so, x.n, x.s, [foldX a, foldX b]⟩ (foldX a) (foldX b) h rfl, s1', s2']; exact hs
    have vp : valX F ⟨x.kind, x.name, x.so, x.n, x.s, [foldX a, foldX b]⟩ = twoV x.name.data.toList (valX F a) (valX F b) := by rw [val_two F ⟨x.kind, x.name, x.so, x.n, x.s, [foldX a, foldX b]⟩ (foldX a) (foldX b) h rfl, v1, v2]
    rcases foldN_cases ⟨x.kind, x.name, x.so, x.n, x.s, [foldX a, foldX b]⟩ with e | ⟨_, hl, _, e⟩
    · rw [e]; exact ⟨sp, vp⟩
    · have l1 : (foldX a).kind = 1 := hl (foldX a) (.head _)
      have l2 : (foldX b).kind = 1 := hl (foldX b) (.tail _ (.head _))
      have se : sortX E0 ⟨x.kind, x.name, x.so, x.n, x.s, [foldX a, foldX b]⟩ = sortX E ⟨x.kind, x.name, x.so, x.n, x.s, [foldX a, foldX b]⟩ := by
        rw [sort_two E0 ⟨x.kind, x.name, x.so, x.n, x.s, [foldX a, foldX b]⟩ (foldX a) (foldX b) h rfl, sort_two E ⟨x.kind, x.name, x.so, x.n, x.s, [foldX a, foldX b]⟩ (foldX a) (foldX b) h rfl, sort_lit E0 _ l1, sort_lit E _ l1, sort_lit E0 _ l2, sort_lit E _ l2]
      have ve : valX F0 ⟨x.kind, x.name, x.so, x.n, x.s, [foldX a, foldX b]⟩ = valX F ⟨x.kind, x.name, x.so, x.n, x.s, [foldX a, foldX b]⟩ := by
        rw [val_two F0 ⟨x.kind, x.name, x.so, x.n, x.s, [foldX a, foldX b]⟩ (foldX a) (foldX b) h rfl, val_two F ⟨x.kind, x.name, x.so, x.n, x.s, [foldX a, foldX b]⟩ (foldX a) (foldX b) h rfl, val_lit F0 _ l1, val_lit F _ l1, val_lit F0 _ l2, val_lit F _ l2]
      obtain ⟨_, q⟩ := sort_val E0 F0 hE0 _ hpw n (se.trans sp)
      rw [e, sort_lit E _ rfl, val_lit F _ rfl]
      refine ⟨Prod.ext q rfl, ?_⟩
      rw [← vp, ← ve]; rfl
end Go.Proofs.YtipolobikigmbaaGreatDoor
