/-
  Plain mathematics: a type in the place of a name: what that does, and what Check says of it; BEKIC and MILNER of types.
-/
import Derived.Test.YtnedgkcejlhnbaaDoorIg
namespace Go.Proofs.YtnedgkcejlhnbaaDoor

/-- s in the place of the name x -/
def putT (x : ByteArray) (s : Ty) : Ty → Ty
  | ⟨kd, so, nm, ls, ks⟩ => if kd = 9 ∧ nm = x then s else if kd = 8 ∧ nm = x then ⟨kd, so, nm, ls, ks⟩ else ⟨kd, so, nm, ls, ks.map (putT x s)⟩
/-- does a name stand in it that no Rec in it binds? -/
def frT (x : ByteArray) : Ty → Bool
  | ⟨kd, _, nm, _, ks⟩ => if kd = 9 then decide (nm = x) else if kd = 8 ∧ nm = x then false else (ks.map fun q => frT x q).any id
theorem frT_var (x : ByteArray) (t : Ty) (h : t.kind = 9) : frT x t = decide (t.name = x) := by cases t; rw [frT, if_pos h]
theorem frT_rec (x : ByteArray) (t : Ty) (h : t.kind = 8 ∧ t.name = x) : frT x t = false := by
  cases t
  rw [frT, if_neg (by have h8 := h.1; simp only at h8; omega), if_pos h]
theorem frT_else (x : ByteArray) (t : Ty) (h9 : t.kind ≠ 9) (h8 : ¬ (t.kind = 8 ∧ t.name = x)) : frT x t = t.kids.any (frT x) := by
  cases t
  rw [frT, if_neg h9, if_neg h8, List.any_map]
  rfl
theorem any_false {α : Type} {l : List α} {p : α → Bool} (h : l.any p = false) : ∀ a ∈ l, p a = false := by
  intro a ha
  cases hp : p a with
  | false => rfl
  | true => rw [List.any_eq_true.2 ⟨a, ha, hp⟩] at h; cases h
/-- names that are not free are of no account -/
theorem fr_den (x : ByteArray) : ∀ t : Ty, wfT t → frT x t = false → ∀ r d, den t (upD r x d) = den t r := by
  apply tyInd
  intro t ih hw hf r d
  obtain ⟨hp, hk⟩ := (wfT_eq t).1 hw
  by_cases h9 : t.kind = 9
  · rw [frT_var x t h9] at hf
    rw [den_var t _ h9, den_var t _ h9]
    unfold upD
    rw [if_neg (by simpa using hf)]
  by_cases h8 : t.kind = 8
  · obtain ⟨q, hq⟩ := part_rec hp h8
    have hm : q ∈ t.kids := by rw [hq]; exact .head _
    rw [den_rec t _ h8 q hq, den_rec t _ h8 q hq]
    have e : (fun f => den q (upD (upD r x d) t.name f)) = fun f => den q (upD r t.name f) := funext fun f => by
      by_cases hn : t.name = x
      · congr 1
        funext y
        unfold upD
        by_cases hy : y = t.name
        · rw [if_pos hy, if_pos hy]
        · rw [if_neg hy, if_neg hy, if_neg (by rw [← hn]; exact hy)]
      · rw [frT_else x t h9 (fun h => hn h.2)] at hf
        have hfq := any_false hf q hm
        have e2 : upD (upD r x d) t.name f = upD (upD r t.name f) x d := by
          funext y
          unfold upD
          by_cases hy : y = t.name
          · rw [if_pos hy, if_pos hy, if_neg (by rw [hy]; exact hn)]
          · rw [if_neg hy, if_neg hy]
        rw [e2]
        exact ih q hm (hk q hm) hfq _ d
    rw [e]
  · rw [frT_else x t h9 (fun h => h8 h.1)] at hf
    rw [den_node t _ h9 h8, den_node t _ h9 h8]
    congr 1
    exact List.map_congr_left fun q hq => ih q hq (hk q hq) (any_false hf q hq) r d
/-! ### What Check says -/
theorem part_kids {t : Ty} (ks : List Ty) (hl : ks.length = t.kids.length) (h : partT t = true) : partT ⟨t.kind, t.so, t.name, t.labels, ks⟩ = true := by
  rw [← h]
  unfold partT
  simp only [hl]
theorem chkTL_or (ar : List ByteArray) (ks : List Ty) : ∀ (a : Int × Nat), a.1 = 0 → (∀ k ∈ ks, ∀ c, (chkT k ar c).1 = 0 ∨ ((chkT k ar c).1 = 2 ∧ 60 < c + sizeT k)) → (chkTL ar ks a).1 = 0 ∨ ((chkTL ar ks a).1 = 2 ∧ 60 < a.2 + (ks.map sizeT).sum) := by
  induction ks with
  | nil => intro a h _; exact .inl h
  | cons k ks ih =>
    intro a h hk
    rw [chkTL_cons, if_neg (by simpa using h)]
    simp only [List.map_cons, List.sum_cons]
    rcases hk k (.head _) a.2 with h1 | ⟨h1, h2⟩
    · have h3 := (chkT_all k ar a.2 h1).2
      rcases ih _ h1 (fun q hq => hk q (.tail _ hq)) with h4 | ⟨h4, h5⟩
      · exact .inl h4
      · exact .inr ⟨h4, by rw [h3] at h5; omega⟩
    · rw [chkTL_bad _ _ _ (by rw [h1]; decide)]
      exact .inr ⟨h1, by omega⟩
theorem chkT_or : ∀ t : Ty, ∀ ar c, gdT t → clT t ar → sizeT t ≤ 65536 → (chkT t ar c).1 = 0 ∨ ((chkT t ar c).1 = 2 ∧ 60 < c + sizeT t) := by
  apply tyInd
  intro t ih ar c hg hc hs
  obtain ⟨hp, hi, hk⟩ := (gdT_eq t).1 hg
  obtain ⟨c1, c2⟩ := (clT_eq t ar).1 hc
  have h1 := sizeT_eq t
  rw [chkT_eq]
  by_cases h60 : 60 < c + 1
  · rw [if_pos h60]; exact .inr ⟨rfl, by omega⟩
  rw [if_neg h60, if_neg (by rw [hp]; decide), if_neg (by rintro ⟨h9, hh⟩; rw [(hasN_iff _ _).2 (c1 h9)] at hh; cases hh), if_neg (by rintro ⟨h8, hh⟩; rw [idle_idT t (gdT_wf t hg) 65536 hs, hi h8] at hh; cases hh)]
  rcases chkTL_or (if t.kind = 8 then ar ++ [t.name] else ar) t.kids (0, c + 1) rfl (fun k hm c' => ih k hm _ c' (hk k hm) (c2 k hm) (by have := sizeT_kid hm; omega)) with h | ⟨h, h2⟩
  · exact .inl h
  · exact .inr ⟨h, by simp only at h2; omega⟩
/-- what Check lets by, and what is too large -/
theorem chkTy_or {t : Ty} (hg : gdT t) (hc : clT t []) (hs : sizeT t ≤ 65536) : chkTy t = 0 ∨ (chkTy t = 2 ∧ 60 < sizeT t) := by
  have := chkT_or t [] 0 hg hc hs
  rw [Nat.zero_add] at this
  exact this
/-! ### The two laws -/
def varT (x : ByteArray) : Ty := ⟨9, 0, x, [], []⟩
def recT (x : ByteArray) (b : Ty) : Ty := ⟨8, 0, x, [], [b]⟩
theorem var_gd {x : ByteArray} (h : isVr x.data.toList = true) : gdT (varT x) := (gdT_eq _).2 ⟨by unfold partT varT; simp [h], fun h8 => absurd (show (9 : Int) = 8 from h8) (by decide), fun k hk => (by cases hk)⟩
end Go.Proofs.YtnedgkcejlhnbaaDoor
