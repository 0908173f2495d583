/-
  What Check lets by has at most 60 parts, each right; the contracts of types.size and types.Size, for every type.
-/
import Derived.Test.YtpamhimmdoimoaaDoorKd
namespace Go.Proofs.YtpamhimmdoimoaaDoor
open Go.RowKit Go.Shelf

/-- right in all its parts -/
def wfT : Ty → Prop
  | ⟨kd, so, nm, ls, ks⟩ => partT ⟨kd, so, nm, ls, ks⟩ = true ∧ ∀ k ∈ ks, wfT k
theorem wfT_eq (t : Ty) : wfT t ↔ partT t = true ∧ ∀ k ∈ t.kids, wfT k := by cases t; rw [wfT]
theorem chkTL_all (ar : List ByteArray) (ks : List Ty) : ∀ (a : Int × Nat), (∀ k ∈ ks, ∀ ar c, (chkT k ar c).1 = 0 → wfT k ∧ (chkT k ar c).2 = c + sizeT k) → (chkTL ar ks a).1 = 0 → (∀ k ∈ ks, wfT k) ∧ (chkTL ar ks a).2 = a.2 + (ks.map sizeT).sum := by
  induction ks with
  | nil => intro a _ _; exact ⟨fun k hk => (by cases hk), rfl⟩
  | cons x ks ih =>
    intro a hk h0
    rw [chkTL_cons] at h0 ⊢
    by_cases ha : a.1 ≠ 0
    · rw [if_pos ha, chkTL_bad _ _ _ ha] at h0; exact absurd h0 ha
    · rw [if_neg ha] at h0 ⊢
      by_cases hx : (chkT x ar a.2).1 = 0
      · have h1 := hk x (.head _) ar a.2 hx
        have h2 := ih _ (fun k hm => hk k (.tail _ hm)) h0
        refine ⟨fun k hm => ?_, ?_⟩
        · rcases List.mem_cons.1 hm with rfl | hm
          · exact h1.1
          · exact h2.1 k hm
        · rw [h2.2, h1.2]; simp only [List.map_cons, List.sum_cons]; omega
      · rw [chkTL_bad _ _ _ hx] at h0; exact absurd h0 hx
theorem chkT_all : ∀ t : Ty, ∀ ar c, (chkT t ar c).1 = 0 → wfT t ∧ (chkT t ar c).2 = c + sizeT t := by
  apply tyInd
  intro t ih ar c h
  have hs := sizeT_eq t
  rw [chkT_eq] at h ⊢
  by_cases h1 : 60 < c + 1
  · rw [if_pos h1] at h; exact absurd h (by simp)
  rw [if_neg h1] at h ⊢
  by_cases h2 : partT t = false
  · rw [if_pos h2] at h; exact absurd h (by simp)
  rw [if_neg h2] at h ⊢
  by_cases h3 : t.kind = 9 ∧ hasN ar t.name = false
  · rw [if_pos h3] at h; exact absurd h (by simp)
  rw [if_neg h3] at h ⊢
  by_cases h4 : t.kind = 8 ∧ idleN 65536 t = true
  · rw [if_pos h4] at h; exact absurd h (by simp)
  rw [if_neg h4] at h ⊢
  have := chkTL_all _ t.kids (0, c + 1) ih h
  refine ⟨(wfT_eq t).2 ⟨by simpa using h2, this.1⟩, ?_⟩
  rw [this.2, hs]; simp only; omega
theorem chkTy_good (t : Ty) (h : chkTy t = 0) : wfT t ∧ sizeT t ≤ 60 := by
  have h1 := chkT_all t [] 0 h
  have h2 := chkT_cnt t [] 0 (by omega) h
  exact ⟨h1.1, by omega⟩

theorem sum_take_le (ks : List Ty) (k : Nat) : ((ks.take k).map sizeT).sum ≤ (ks.map sizeT).sum := by
  conv => rhs; rw [← List.take_append_drop k ks]
  rw [List.map_append, List.sum_append]; omega

end Go.Proofs.YtpamhimmdoimoaaDoor
