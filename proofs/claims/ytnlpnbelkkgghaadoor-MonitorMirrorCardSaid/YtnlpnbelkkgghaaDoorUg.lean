/-
  Plain mathematics: a type in the place of a name: what that does, and what Check says of it; BEKIC and MILNER of types.
-/
import Derived.Test.YtnlpnbelkkgghaaDoorIg
import Derived.Test.YtnlpnbelkkgghaaDoorId
namespace Go.Proofs.YtnlpnbelkkgghaaDoor

/-- s in the place of the name x -/
def putT (x : ByteArray) (s : Ty) : Ty → Ty
  | ⟨kd, so, nm, ls, ks⟩ => if kd = 9 ∧ nm = x then s else if kd = 8 ∧ nm = x then ⟨kd, so, nm, ls, ks⟩ else ⟨kd, so, nm, ls, ks.map (putT x s)⟩
theorem putT_var (x : ByteArray) (s t : Ty) (h : t.kind = 9 ∧ t.name = x) : putT x s t = s := by cases t; rw [putT, if_pos h]
theorem putT_rec (x : ByteArray) (s t : Ty) (h : t.kind = 8 ∧ t.name = x) : putT x s t = t := by
  cases t
  rw [putT, if_neg (by rintro ⟨h9, _⟩; have h8 := h.1; simp only at h8 h9; omega), if_pos h]
theorem putT_else (x : ByteArray) (s t : Ty) (h9 : ¬ (t.kind = 9 ∧ t.name = x)) (h8 : ¬ (t.kind = 8 ∧ t.name = x)) : putT x s t = ⟨t.kind, t.so, t.name, t.labels, t.kids.map (putT x s)⟩ := by
  cases t
  rw [putT, if_neg h9, if_neg h8]
/-- does a name stand in it that no Rec in it binds? -/
def frT (x : ByteArray) : Ty → Bool
  | ⟨kd, _, nm, _, ks⟩ => if kd = 9 then decide (nm = x) else if kd = 8 ∧ nm = x then false else (ks.map fun q => frT x q).any id
theorem frT_var (x : ByteArray) (t : Ty) (h : t.kind = 9) : frT x t = decide (t.name = x) := by cases t; rw [frT, if_pos h]
theorem frT_rec (x : ByteArray) (t : Ty) (h : t.kind = 8 ∧ t.name = x) : frT x t = false := by
  cases t
  rw [frT, if_neg (by have h8 := h.1; simp only at h8; omega), if_pos h]
theorem frT_else (x : ByteArray) (t : Ty) (h9 : t.kind ≠ 9) (h8 : ¬ (t.kind = 8 ∧ t.name = x)) : frT x t = t.kids.any (frT x) := by
  cases t
  rw [frT, if_neg h9, if_neg h8, List.any_map]
  rfl
/-- a name c of what is put there would be caught -/
def capT (x c : ByteArray) : Ty → Bool
  | ⟨kd, _, nm, _, ks⟩ => if kd = 9 ∧ nm = x then false else if kd = 8 ∧ nm = x then false else if kd = 8 ∧ nm = c ∧ ks.any (frT x) = true then true else (ks.map fun q => capT x c q).any id
theorem capT_var (x c : ByteArray) (t : Ty) (h : t.kind = 9 ∧ t.name = x) : capT x c t = false := by cases t; rw [capT, if_pos h]
theorem capT_rec (x c : ByteArray) (t : Ty) (h : t.kind = 8 ∧ t.name = x) : capT x c t = false := by
  cases t
  rw [capT, if_neg (by rintro ⟨h9, _⟩; have h8 := h.1; simp only at h8 h9; omega), if_pos h]
theorem capT_yes (x c : ByteArray) (t : Ty) (h8 : ¬ (t.kind = 8 ∧ t.name = x)) (h : t.kind = 8 ∧ t.name = c ∧ t.kids.any (frT x) = true) : capT x c t = true := by
  cases t
  rw [capT, if_neg (by rintro ⟨h9, _⟩; have h8 := h.1; simp only at h8 h9; omega), if_neg h8, if_pos h]
theorem capT_else (x c : ByteArray) (t : Ty) (h9 : ¬ (t.kind = 9 ∧ t.name = x)) (h8 : ¬ (t.kind = 8 ∧ t.name = x)) (h : ¬ (t.kind = 8 ∧ t.name = c ∧ t.kids.any (frT x) = true)) : capT x c t = t.kids.any (capT x c) := by
  cases t
  rw [capT, if_neg h9, if_neg h8, if_neg h, List.any_map]
  rfl
theorem any_false {α : Type} {l : List α} {p : α → Bool} (h : l.any p = false) : ∀ a ∈ l, p a = false := by
  intro a ha
  cases hp : p a with
  | false => rfl
  | true => rw [List.any_eq_true.2 ⟨a, ha, hp⟩] at h; cases h
/-- names that are not free are of no account -/
theorem fr_den (x : ByteArray) : ∀ t : Ty, wfT t → frT x t = false → ∀ r d, den t (upD r x d) = den t r := by
  apply tyInd
  intro t ih hw hf r d
  obtain ⟨hp, hk⟩ := (wfT_eq t).1 hw
  by_cases h9 : t.kind = 9
  · rw [frT_var x t h9] at hf
    rw [den_var t _ h9, den_var t _ h9]
    unfold upD
    rw [if_neg (by simpa using hf)]
  by_cases h8 : t.kind = 8
  · obtain ⟨q, hq⟩ := part_rec hp h8
    have hm : q ∈ t.kids := by rw [hq]; exact .head _
    rw [den_rec t _ h8 q hq, den_rec t _ h8 q hq]
    have e : (fun f => den q (upD (upD r x d) t.name f)) = fun f => den q (upD r t.name f) := funext fun f => by
      by_cases hn : t.name = x
      · congr 1
        funext y
        unfold upD
        by_cases hy : y = t.name
        · rw [if_pos hy, if_pos hy]
        · rw [if_neg hy, if_neg hy, if_neg (by rw [← hn]; exact hy)]
      · rw [frT_else x t h9 (fun h => hn h.2)] at hf
        have hfq := any_false hf q hm
        have e2 : upD (upD r x d) t.name f = upD (upD r t.name f) x d := by
          funext y
          unfold upD
          by_cases hy : y = t.name
          · rw [if_pos hy, if_pos hy, if_neg (by rw [hy]; exact hn)]
          · rw [if_neg hy, if_neg hy]
        rw [e2]
        exact ih q hm (hk q hm) hfq _ d
    rw [e]
  · rw [frT_else x t h9 (fun h => h8 h.1)] at hf
    rw [den_node t _ h9 h8, den_node t _ h9 h8]
    congr 1
    exact List.map_congr_left fun q hq => ih q hq (hk q hq) (any_false hf q hq) r d
/-- what it does, where nothing is caught -/
theorem put_den (x c : ByteArray) (s : Ty) (hws : wfT s) (hs : clT s [c]) : ∀ t : Ty, wfT t → capT x c t = false → ∀ r, den (putT x s t) r = den t (upD r x (den s r)) := by
  apply tyInd
  intro t ih hw hc r
  obtain ⟨hp, hk⟩ := (wfT_eq t).1 hw
  by_cases h9x : t.kind = 9 ∧ t.name = x
  · rw [putT_var x s t h9x, den_var t _ h9x.1]
    unfold upD
    rw [if_pos h9x.2]
  by_cases h8x : t.kind = 8 ∧ t.name = x
  · rw [putT_rec x s t h8x]
    exact (fr_den x t hw (frT_rec x t h8x) r _).symm
  rw [putT_else x s t h9x h8x]
  by_cases h9 : t.kind = 9
  · rw [den_var t _ h9, den_var _ _ (by exact h9)]
    unfold upD
    rw [if_neg (fun h => h9x ⟨h9, h⟩)]
  by_cases h8 : t.kind = 8
  · obtain ⟨q, hq⟩ := part_rec hp h8
    have hm : q ∈ t.kids := by rw [hq]; exact .head _
    have hn : ¬ t.name = x := fun h => h8x ⟨h8, h⟩
    have hcq : capT x c q = false := by
      by_cases hy : t.kind = 8 ∧ t.name = c ∧ t.kids.any (frT x) = true
      · rw [capT_yes x c t h8x hy] at hc; cases hc
      · rw [capT_else x c t h9x h8x hy] at hc; exact any_false hc q hm
    rw [den_rec t _ h8 q hq, den_rec _ _ (by exact h8) (putT x s q) (by simp [hq])]
    have e : (fun f => den (putT x s q) (upD r t.name f)) = fun f => den q (upD (upD r x (den s r)) t.name f) := funext fun f => by
      rw [ih q hm (hk q hm) hcq]
      have e2 : ∀ d, upD (upD r t.name f) x d = upD (upD r x d) t.name f := fun d => by
        funext y
        unfold upD
        by_cases hy : y = t.name
        · rw [if_pos hy, if_pos hy, if_neg (by rw [hy]; exact hn)]
        · rw [if_neg hy, if_neg hy]
      by_cases hnc : t.name = c
      · by_cases hy : t.kids.any (frT x) = true
        · rw [capT_yes x c t h8x ⟨h8, hnc, hy⟩] at hc; cases hc
        · have hfq : frT x q = false := any_false (by simpa using hy) q hm
          rw [fr_den x q (hk q hm) hfq, ← e2, fr_den x q (hk q hm) hfq]
      · rw [den_cl s hws [c] (upD r t.name f) r hs (fun y hy => by
          rw [List.mem_singleton] at hy
          subst hy
          unfold upD
          rw [if_neg (fun h => hnc h.symm)]), e2]
    have e3 : (⟨t.kind, t.so, t.name, t.labels, t.kids.map (putT x s)⟩ : Ty).name = t.name := rfl
    rw [e3, e]
  · have hc' : t.kids.any (capT x c) = false := by rw [capT_else x c t h9x h8x (fun h => h8 h.1)] at hc; exact hc
    rw [den_node t _ h9 h8, den_node _ _ (by exact h9) (by exact h8)]
    simp only [List.map_map]
    congr 1
    exact List.map_congr_left fun q hq => ih q hq (hk q hq) (any_false hc' q hq) r
/-! ### What Check says -/
theorem clT_mono : ∀ t : Ty, ∀ ns ms, (∀ y ∈ ns, y ∈ ms) → clT t ns → clT t ms := by
  apply tyInd
  intro t ih ns ms h hc
  obtain ⟨c1, c2⟩ := (clT_eq t ns).1 hc
  refine (clT_eq t ms).2 ⟨fun h9 => h _ (c1 h9), fun k hk => ih k hk _ _ (fun y hy => ?_) (c2 k hk)⟩
  by_cases h8 : t.kind = 8
  · rw [if_pos h8] at hy ⊢
    rcases List.mem_append.1 hy with hy | hy
    · exact List.mem_append.2 (.inl (h y hy))
    · exact List.mem_append.2 (.inr hy)
  · rw [if_neg h8] at hy ⊢; exact h y hy
theorem put_cl (x : ByteArray) (s : Ty) : ∀ t : Ty, ∀ ns ms, (∀ y ∈ ns, y ≠ x → y ∈ ms) → clT s ms → clT t ns → clT (putT x s t) ms := by
  apply tyInd
  intro t ih ns ms h hs hc
  obtain ⟨c1, c2⟩ := (clT_eq t ns).1 hc
  by_cases h9x : t.kind = 9 ∧ t.name = x
  · rw [putT_var x s t h9x]; exact hs
  by_cases h8x : t.kind = 8 ∧ t.name = x
  · rw [putT_rec x s t h8x]
    refine (clT_eq t ms).2 ⟨fun h9 => absurd (h8x.1.symm.trans h9) (by decide), fun k hk => ?_⟩
    refine clT_mono k _ _ (fun y hy => ?_) (c2 k hk)
    rw [if_pos h8x.1] at hy ⊢
    rcases List.mem_append.1 hy with hy | hy
    · by_cases hyx : y = x
      · exact List.mem_append.2 (.inr (by rw [hyx, h8x.2]; exact .head _))
      · exact List.mem_append.2 (.inl (h y hy hyx))
    · exact List.mem_append.2 (.inr hy)
  rw [putT_else x s t h9x h8x]
  refine (clT_eq _ ms).2 ⟨fun h9 => h _ (c1 h9) (fun e => h9x ⟨h9, e⟩), fun k hk => ?_⟩
  obtain ⟨q, hq, rfl⟩ := List.mem_map.1 hk
  refine ih q hq _ _ (fun y hy hyx => ?_) ?_ (c2 q hq)
  · show y ∈ if t.kind = 8 then ms ++ [t.name] else ms
    by_cases h8 : t.kind = 8
    · rw [if_pos h8] at hy ⊢
      rcases List.mem_append.1 hy with hy | hy
      · exact List.mem_append.2 (.inl (h y hy hyx))
      · exact List.mem_append.2 (.inr hy)
    · rw [if_neg h8] at hy ⊢; exact h y hy hyx
  · show clT s (if t.kind = 8 then ms ++ [t.name] else ms)
    by_cases h8 : t.kind = 8
    · rw [if_pos h8]; exact clT_mono s _ _ (fun y hy => List.mem_append.2 (.inl hy)) hs
    · rw [if_neg h8]; exact hs
theorem put_id (x : ByteArray) (s : Ty) : ∀ t : Ty, wfT t → idT t = false → idT (putT x s t) = false := by
  apply tyInd
  intro t ih hw hi
  obtain ⟨hp, hk⟩ := (wfT_eq t).1 hw
  by_cases h9 : t.kind = 9
  · rw [idT_var t h9] at hi; cases hi
  have h9x : ¬ (t.kind = 9 ∧ t.name = x) := fun h => h9 h.1
  by_cases h8x : t.kind = 8 ∧ t.name = x
  · rw [putT_rec x s t h8x]; exact hi
  rw [putT_else x s t h9x h8x]
  by_cases h8 : t.kind = 8
  · obtain ⟨q, hq⟩ := part_rec hp h8
    have hm : q ∈ t.kids := by rw [hq]; exact .head _
    rw [idT_rec t h8 q hq] at hi
    rw [idT_rec _ (by exact h8) (putT x s q) (by simp [hq])]
    exact ih q hm (hk q hm) hi
  · exact idT_node _ (by exact h9) (by exact h8)
theorem part_kids {t : Ty} (ks : List Ty) (hl : ks.length = t.kids.length) (h : partT t = true) : partT ⟨t.kind, t.so, t.name, t.labels, ks⟩ = true := by
  rw [← h]
  unfold partT
  simp only [hl]
theorem put_gd (x : ByteArray) (s : Ty) (hs : gdT s) : ∀ t : Ty, gdT t → gdT (putT x s t) := by
  apply tyInd
  intro t ih hg
  obtain ⟨hp, hi, hk⟩ := (gdT_eq t).1 hg
  by_cases h9x : t.kind = 9 ∧ t.name = x
  · rw [putT_var x s t h9x]; exact hs
  by_cases h8x : t.kind = 8 ∧ t.name = x
  · rw [putT_rec x s t h8x]; exact hg
  rw [putT_else x s t h9x h8x]
  refine (gdT_eq _).2 ⟨part_kids _ (by simp) hp, fun h8 => ?_, fun k hk' => ?_⟩
  · have := put_id x s t (gdT_wf t hg) (hi h8)
    rw [putT_else x s t h9x h8x] at this
    exact this
  · obtain ⟨q, hq, rfl⟩ := List.mem_map.1 hk'
    exact ih q hq (hk q hq)
theorem sum_map_le {l : List Ty} {f g : Ty → Nat} {c : Nat} (h : ∀ a ∈ l, f a ≤ g a * c) : (l.map f).sum ≤ (l.map g).sum * c := by
  induction l with
  | nil => simp
  | cons a l ih =>
    simp only [List.map_cons, List.sum_cons, Nat.add_mul]
    exact Nat.add_le_add (h a (.head _)) (ih fun b hb => h b (.tail _ hb))
theorem put_size (x : ByteArray) (s : Ty) : ∀ t : Ty, sizeT (putT x s t) ≤ sizeT t * sizeT s := by
  have h1 := sizeT_eq s
  apply tyInd
  intro t ih
  have h2 := sizeT_eq t
  by_cases h9x : t.kind = 9 ∧ t.name = x
  · rw [putT_var x s t h9x]
    exact Nat.le_mul_of_pos_left _ (by omega)
  by_cases h8x : t.kind = 8 ∧ t.name = x
  · rw [putT_rec x s t h8x]
    exact Nat.le_mul_of_pos_right _ (by omega)
  rw [putT_else x s t h9x h8x, sizeT_eq, h2, Nat.add_mul, Nat.one_mul]
  simp only [List.map_map]
  exact Nat.add_le_add (by omega) (sum_map_le (f := sizeT ∘ putT x s) fun a ha => ih a ha)
theorem chkTL_or (ar : List ByteArray) (ks : List Ty) : ∀ (a : Int × Nat), a.1 = 0 → (∀ k ∈ ks, ∀ c, (chkT k ar c).1 = 0 ∨ ((chkT k ar c).1 = 2 ∧ 60 < c + sizeT k)) → (chkTL ar ks a).1 = 0 ∨ ((chkTL ar ks a).1 = 2 ∧ 60 < a.2 + (ks.map sizeT).sum) := by
  induction ks with
  | nil => intro a h _; exact .inl h
  | cons k ks ih =>
    intro a h hk
    rw [chkTL_cons, if_neg (by simpa using h)]
    simp only [List.map_cons, List.sum_cons]
    rcases hk k (.head _) a.2 with h1 | ⟨h1, h2⟩
    · have h3 := (chkT_all k ar a.2 h1).2
      rcases ih _ h1 (fun q hq => hk q (.tail _ hq)) with h4 | ⟨h4, h5⟩
      · exact .inl h4
      · exact .inr ⟨h4, by rw [h3] at h5; omega⟩
    · rw [chkTL_bad _ _ _ (by rw [h1]; decide)]
      exact .inr ⟨h1, by omega⟩
theorem chkT_or : ∀ t : Ty, ∀ ar c, gdT t → clT t ar → sizeT t ≤ 65536 → (chkT t ar c).1 = 0 ∨ ((chkT t ar c).1 = 2 ∧ 60 < c + sizeT t) := by
  apply tyInd
  intro t ih ar c hg hc hs
  obtain ⟨hp, hi, hk⟩ := (gdT_eq t).1 hg
  obtain ⟨c1, c2⟩ := (clT_eq t ar).1 hc
  have h1 := sizeT_eq t
  rw [chkT_eq]
  by_cases h60 : 60 < c + 1
  · rw [if_pos h60]; exact .inr ⟨rfl, by omega⟩
  rw [if_neg h60, if_neg (by rw [hp]; decide), if_neg (by rintro ⟨h9, hh⟩; rw [(hasN_iff _ _).2 (c1 h9)] at hh; cases hh), if_neg (by rintro ⟨h8, hh⟩; rw [idle_idT t (gdT_wf t hg) 65536 hs, hi h8] at hh; cases hh)]
  rcases chkTL_or (if t.kind = 8 then ar ++ [t.name] else ar) t.kids (0, c + 1) rfl (fun k hm c' => ih k hm _ c' (hk k hm) (c2 k hm) (by have := sizeT_kid hm; omega)) with h | ⟨h, h2⟩
  · exact .inl h
  · exact .inr ⟨h, by simp only at h2; omega⟩
/-- what Check lets by, and what is too large -/
theorem chkTy_or {t : Ty} (hg : gdT t) (hc : clT t []) (hs : sizeT t ≤ 65536) : chkTy t = 0 ∨ (chkTy t = 2 ∧ 60 < sizeT t) := by
  have := chkT_or t [] 0 hg hc hs
  rw [Nat.zero_add] at this
  exact this
/-! ### The two laws -/
def varT (x : ByteArray) : Ty := ⟨9, 0, x, [], []⟩
def recT (x : ByteArray) (b : Ty) : Ty := ⟨8, 0, x, [], [b]⟩
theorem var_gd {x : ByteArray} (h : isVr x.data.toList = true) : gdT (varT x) := (gdT_eq _).2 ⟨by unfold partT varT; simp [h], fun h8 => absurd (show (9 : Int) = 8 from h8) (by decide), fun k hk => (by cases hk)⟩
theorem cap_none (x : ByteArray) : ∀ t : Ty, wfT t → capT x ⟨#[]⟩ t = false := by
  apply tyInd
  intro t ih hw
  obtain ⟨hp, hk⟩ := (wfT_eq t).1 hw
  by_cases h9x : t.kind = 9 ∧ t.name = x
  · exact capT_var x _ t h9x
  by_cases h8x : t.kind = 8 ∧ t.name = x
  · exact capT_rec x _ t h8x
  have hn : ¬ (t.kind = 8 ∧ t.name = ⟨#[]⟩ ∧ t.kids.any (frT x) = true) := by
    rintro ⟨h8, he, _⟩
    unfold partT at hp
    simp [h8, he] at hp
    exact absurd hp.1.1.2 (by decide)
  rw [capT_else x _ t h9x h8x hn]
  rw [Bool.eq_false_iff]
  intro ha
  obtain ⟨k, hm, hc⟩ := List.any_eq_true.1 ha
  rw [ih k hm (hk k hm)] at hc; cases hc
end Go.Proofs.YtnlpnbelkkgghaaDoor
/-
  Plain mathematics: what graph.Back makes of a graph: a type that does what the node does.
-/
namespace Go.Proofs.YtnlpnbelkkgghaaDoor

/-- the name of a node -/
def nmN (i : Nat) : ByteArray := if i < 26 then ⟨#[UInt8.ofNat (97 + i)]⟩ else ⟨#[UInt8.ofNat (97 + i / 26 - 1), UInt8.ofNat (97 + i % 26)]⟩
def upB (f : Nat → Bool) (i : Nat) (b : Bool) : Nat → Bool := fun j => if j = i then b else f j
theorem upB_same (f : Nat → Bool) (i : Nat) (b : Bool) : upB f i b i = b := if_pos rfl
theorem upB_other (f : Nat → Bool) (i : Nat) (b : Bool) {j : Nat} (h : j ≠ i) : upB f i b j = f j := if_neg h
/-- which nodes it has come back to, and how many parts are made -/
abbrev SB := (Nat → Bool) × Nat
def stB (F : Nat → SB → Ty × SB) (a : List Ty × SB) (j : Nat) : List Ty × SB := (a.1 ++ [(F j a.2).1], (F j a.2).2)
def bkL (F : Nat → SB → Ty × SB) (tos : List Nat) (a : List Ty × SB) : List Ty × SB := tos.foldl (stB F) a
def zT : Ty := ⟨0, 0, ⟨#[]⟩, [], []⟩
def ndT (n : Nd) (ks : List Ty) : Ty := ⟨n.kind, n.so, ⟨#[]⟩, n.labs, ks⟩
def bkT (g : List Nd) : Nat → (Nat → Bool) → Nat → SB → Ty × SB
  | 0, _, _, st => (zT, st)
  | f + 1, ps, i, st =>
    if 60 < st.2 + 1 then (zT, (st.1, st.2 + 1))
    else if ps i = true then (varT (nmN i), (upB st.1 i true, st.2 + 1))
    else if (bkL (bkT g f (upB ps i true)) (nodeAt g i).to ([], (upB st.1 i false, st.2 + 1))).2.1 i = true then
      (recT (nmN i) (ndT (nodeAt g i) (bkL (bkT g f (upB ps i true)) (nodeAt g i).to ([], (upB st.1 i false, st.2 + 1))).1), ((bkL (bkT g f (upB ps i true)) (nodeAt g i).to ([], (upB st.1 i false, st.2 + 1))).2.1, (bkL (bkT g f (upB ps i true)) (nodeAt g i).to ([], (upB st.1 i false, st.2 + 1))).2.2 + 1))
    else (ndT (nodeAt g i) (bkL (bkT g f (upB ps i true)) (nodeAt g i).to ([], (upB st.1 i false, st.2 + 1))).1, (bkL (bkT g f (upB ps i true)) (nodeAt g i).to ([], (upB st.1 i false, st.2 + 1))).2)
theorem bkL_cons (F : Nat → SB → Ty × SB) (j : Nat) (tos : List Nat) (a : List Ty × SB) : bkL F (j :: tos) a = bkL F tos (stB F a j) := rfl
theorem bkL_snoc (F : Nat → SB → Ty × SB) (j : Nat) (tos : List Nat) (a : List Ty × SB) : bkL F (tos ++ [j]) a = stB F (bkL F tos a) j := by
  unfold bkL; rw [List.foldl_append]; rfl
theorem bkL_mono {F : Nat → SB → Ty × SB} (h : ∀ j st, st.2 ≤ (F j st).2.2) : ∀ (tos : List Nat) (a : List Ty × SB), a.2.2 ≤ (bkL F tos a).2.2
  | [], _ => Nat.le_refl _
  | j :: tos, a => by
    rw [bkL_cons]
    exact Nat.le_trans (h j a.2) (bkL_mono h tos (stB F a j))
theorem bk_mono (g : List Nd) : ∀ (f : Nat) (ps : Nat → Bool) (i : Nat) (st : SB), st.2 ≤ (bkT g f ps i st).2.2
  | 0, _, _, _ => Nat.le_refl _
  | f + 1, ps, i, st => by
    have hL := bkL_mono (bk_mono g f (upB ps i true)) (nodeAt g i).to ([], (upB st.1 i false, st.2 + 1))
    have hL' : st.2 + 1 ≤ (bkL (bkT g f (upB ps i true)) (nodeAt g i).to ([], (upB st.1 i false, st.2 + 1))).2.2 := hL
    rw [bkT]
    split
    · exact Nat.le_succ _
    · split
      · exact Nat.le_succ _
      · split
        · exact Nat.le_trans (Nat.le_succ _) (Nat.le_trans hL' (Nat.le_succ _))
        · exact Nat.le_trans (Nat.le_succ _) hL'
/-- what is made of a node -/
structure BK (g : List Nd) (ps : Nat → Bool) (i : Nat) (st : SB) (T : Ty) (st' : SB) : Prop where
  sz : st.2 + sizeT T = st'.2
  gd : gdT T
  id : ps i = false → idT T = false
  mt : ∀ j, ps j = true → st.1 j = true → st'.1 j = true
  fr : ∀ x, frT x T = true → ∃ j, ps j = true ∧ st'.1 j = true ∧ x = nmN j
  dn : ∀ r : ByteArray → Dn, (∀ j, ps j = true → r (nmN j) = fun k => gT g k j) → den T r = fun k => gT g k i
/-- what is made of all that it leads to -/
structure BKs (g : List Nd) (ps : Nat → Bool) (tos : List Nat) (st : SB) (ks : List Ty) (st' : SB) : Prop where
  ln : ks.length = tos.length
  sz : st.2 + (ks.map sizeT).sum = st'.2
  gd : ∀ q ∈ ks, gdT q
  mt : ∀ j, ps j = true → st.1 j = true → st'.1 j = true
  fr : ∀ q ∈ ks, ∀ x, frT x q = true → ∃ j, ps j = true ∧ st'.1 j = true ∧ x = nmN j
  dn : ∀ r : ByteArray → Dn, (∀ j, ps j = true → r (nmN j) = fun k => gT g k j) → ks.map (fun q => den q r) = tos.map fun j k => gT g k j
theorem bkL_ok {g : List Nd} {ps : Nat → Bool} {F : Nat → SB → Ty × SB} {f : Nat} (hm : ∀ j st, st.2 ≤ (F j st).2.2) (hF : ∀ j st, 61 ≤ f + st.2 → j < g.length → (F j st).2.2 ≤ 60 → BK g ps j st (F j st).1 (F j st).2) :
    ∀ (tos : List Nat) (a : List Ty × SB), (∀ j ∈ tos, j < g.length) → 61 ≤ f + a.2.2 → (bkL F tos a).2.2 ≤ 60 → ∃ ks, (bkL F tos a).1 = a.1 ++ ks ∧ BKs g ps tos a.2 ks (bkL F tos a).2
  | [], a, _, _, _ => ⟨[], (List.append_nil _).symm, rfl, rfl, (fun q hq => by cases hq), fun _ _ h => h, (fun q hq => by cases hq), fun _ _ => rfl⟩
  | j :: tos, a, hj, hf, h60 => by
    rw [bkL_cons] at h60 ⊢
    have h1 : (F j a.2).2.2 ≤ (bkL F tos (stB F a j)).2.2 := bkL_mono hm tos (stB F a j)
    have K := hF j a.2 hf (hj j (.head _)) (by omega)
    have hf2 : 61 ≤ f + (stB F a j).2.2 := by have := hm j a.2; show 61 ≤ f + (F j a.2).2.2; omega
    obtain ⟨ks, e, L⟩ := bkL_ok hm hF tos (stB F a j) (fun q hq => hj q (.tail _ hq)) hf2 h60
    refine ⟨(F j a.2).1 :: ks, ?_, ?_⟩
    · rw [e]
      show (a.1 ++ [(F j a.2).1]) ++ ks = _
      rw [List.append_assoc]
      rfl
    · refine ⟨by simp [L.ln], ?_, ?_, fun q hq hs => L.mt q hq (K.mt q hq hs), ?_, fun r hr => ?_⟩
      · have s1 := K.sz
        have s2 : (F j a.2).2.2 + (ks.map sizeT).sum = (bkL F tos (stB F a j)).2.2 := L.sz
        rw [List.map_cons, List.sum_cons]
        omega
      · intro q hq
        rcases List.mem_cons.1 hq with rfl | hq
        · exact K.gd
        · exact L.gd q hq
      · intro q hq x hx
        rcases List.mem_cons.1 hq with rfl | hq
        · obtain ⟨j', p1, p2, p3⟩ := K.fr x hx
          exact ⟨j', p1, L.mt j' p1 p2, p3⟩
        · exact L.fr q hq x hx
      · rw [List.map_cons, List.map_cons, K.dn r hr, L.dn r hr]
theorem rec_part {x : ByteArray} (h : isVr x.data.toList = true) (b : Ty) : partT (recT x b) = true := by unfold partT recT; simp [h]
theorem okN_kind {n : Nd} (h : okN n) : n.kind ≠ 9 ∧ n.kind ≠ 8 := by
  have := okN_cases h
  omega
theorem bk_ok {g : List Nd} (hg : GN g) (hinj : ∀ i j, i < g.length → j < g.length → nmN i = nmN j → i = j) (hvr : ∀ i, i < g.length → isVr (nmN i).data.toList = true) :
    ∀ (f : Nat) (ps : Nat → Bool) (i : Nat) (st : SB), 61 ≤ f + st.2 → i < g.length → (∀ j, ps j = true → j < g.length) → (bkT g f ps i st).2.2 ≤ 60 → BK g ps i st (bkT g f ps i st).1 (bkT g f ps i st).2
  | 0, _, _, st, hf, _, _, h60 => by have : st.2 ≤ 60 := h60; omega
  | f + 1, ps, i, st, hf, hi, hps, h60 => by
    rw [bkT] at h60 ⊢
    by_cases h1 : 60 < st.2 + 1
    · rw [if_pos h1] at h60
      have : st.2 + 1 ≤ 60 := h60
      omega
    rw [if_neg h1] at h60 ⊢
    by_cases h2 : ps i = true
    · rw [if_pos h2]
      refine ⟨?_, var_gd (hvr i hi), (fun q => by rw [h2] at q; cases q), fun j hj hs => ?_, fun x hx => ?_, fun r hr => ?_⟩
      · rw [sizeT_eq]; rfl
      · show upB st.1 i true j = true
        by_cases e : j = i
        · rw [e, upB_same]
        · rw [upB_other _ _ _ e]; exact hs
      · rw [frT_var x _ rfl] at hx
        exact ⟨i, h2, upB_same _ _ _, (of_decide_eq_true hx).symm⟩
      · rw [den_var _ _ rfl]
        exact hr i h2
    rw [if_neg h2] at h60 ⊢
    have h2f : ps i = false := by cases h : ps i <;> simp_all
    have hps' : ∀ j, upB ps i true j = true → j < g.length := fun j hj => by
      by_cases e : j = i
      · rw [e]; exact hi
      · rw [upB_other _ _ _ e] at hj; exact hps j hj
    have hm := bk_mono g f (upB ps i true)
    have hto : ∀ j ∈ (nodeAt g i).to, j < g.length := fun j hj => by
      obtain ⟨x, hx, rfl⟩ := List.mem_iff_getElem.1 hj
      have := hg.to_ (i := i) x hx
      unfold toAt at this
      rw [List.getElem?_eq_getElem hx] at this
      exact this
    have hr60 : (bkL (bkT g f (upB ps i true)) (nodeAt g i).to ([], (upB st.1 i false, st.2 + 1))).2.2 ≤ 60 := by
      split at h60
      · have h60 : _ + 1 ≤ 60 := h60
        omega
      · exact h60
    obtain ⟨ks, ek, L⟩ := bkL_ok (g := g) (ps := upB ps i true) (f := f) hm (fun j st' hf' hj h => bk_ok hg hinj hvr f (upB ps i true) j st' hf' hj hps' h) (nodeAt g i).to ([], (upB st.1 i false, st.2 + 1)) hto (by show 61 ≤ f + (st.2 + 1); omega) hr60
    rw [List.nil_append] at ek
    rw [ek]
    generalize bkL (bkT g f (upB ps i true)) (nodeAt g i).to ([], (upB st.1 i false, st.2 + 1)) = R at *
    have hok := hg.at_ hi
    obtain ⟨k9, k8⟩ := okN_kind hok
    have hpt : partT (ndT (nodeAt g i) ks) = true := part_kids (t := ⟨(nodeAt g i).kind, (nodeAt g i).so, ⟨#[]⟩, (nodeAt g i).labs, (nodeAt g i).to.map fun _ => endT⟩) ks (by rw [L.ln]; simp) hok
    have hgd : gdT (ndT (nodeAt g i) ks) := (gdT_eq _).2 ⟨hpt, fun q => absurd q k8, L.gd⟩
    have hid : idT (ndT (nodeAt g i) ks) = false := idT_node _ k9 k8
    have hsz : sizeT (ndT (nodeAt g i) ks) = 1 + (ks.map sizeT).sum := sizeT_eq _
    have hLs : st.2 + 1 + (ks.map sizeT).sum = R.2.2 := L.sz
    have hfr : ∀ x, frT x (ndT (nodeAt g i) ks) = true → ∃ j, upB ps i true j = true ∧ R.2.1 j = true ∧ x = nmN j := fun x hx => by
      rw [frT_else x _ k9 (fun h => k8 h.1)] at hx
      obtain ⟨q, hq, hx⟩ := List.any_eq_true.1 hx
      exact L.fr q hq x hx
    have hmt : ∀ j, ps j = true → st.1 j = true → R.2.1 j = true := fun j hj hs => by
      have e : j ≠ i := fun e => by rw [e, h2f] at hj; cases hj
      exact L.mt j (by rw [upB_other _ _ _ e]; exact hj) (by show upB st.1 i false j = true; rw [upB_other _ _ _ e]; exact hs)
    have hdn : ∀ r : ByteArray → Dn, (∀ j, ps j = true → r (nmN j) = fun k => gT g k j) → den (ndT (nodeAt g i) ks) (upD r (nmN i) fun k => gT g k i) = fun k => gT g k i := fun r hr => by
      have hr' : ∀ j, upB ps i true j = true → upD r (nmN i) (fun k => gT g k i) (nmN j) = fun k => gT g k j := fun j hj => by
        unfold upD
        by_cases e : j = i
        · rw [e, if_pos rfl]
        · rw [if_neg (fun q => e (hinj j i (hps' j hj) hi q))]
          rw [upB_other _ _ _ e] at hj
          exact hr j hj
      rw [den_node _ _ k9 k8]
      show stD (nodeAt g i).kind (nodeAt g i).so (nodeAt g i).labs (ks.map fun q => den q (upD r (nmN i) fun k => gT g k i)) = _
      rw [L.dn _ hr']
      funext k
      cases k with
      | zero => rfl
      | succ k =>
        show (⟨_, _, _, ((nodeAt g i).to.map fun j k => gT g k j).map fun f => f k⟩ : Tr) = _
        rw [List.map_map]
        rfl
    by_cases h3 : R.2.1 i = true
    · rw [if_pos h3]
      have hrid : idT (recT (nmN i) (ndT (nodeAt g i) ks)) = false := by rw [idT_rec _ rfl _ rfl]; exact hid
      have hrg : gdT (recT (nmN i) (ndT (nodeAt g i) ks)) := (gdT_eq _).2 ⟨rec_part (hvr i hi) _, fun _ => hrid, fun q hq => by rw [List.mem_singleton.1 hq]; exact hgd⟩
      refine ⟨?_, hrg, fun _ => hrid, hmt, fun x hx => ?_, fun r hr => ?_⟩
      · rw [sizeT_eq]
        show st.2 + (1 + (sizeT (ndT (nodeAt g i) ks) + 0)) = R.2.2 + 1
        omega
      · by_cases e : nmN i = x
        · rw [frT_rec x _ ⟨rfl, e⟩] at hx; cases hx
        · rw [frT_else x _ (show (8 : Int) ≠ 9 by decide) (fun h => e h.2)] at hx
          obtain ⟨q, hq, hx⟩ := List.any_eq_true.1 hx
          rw [List.mem_singleton.1 hq] at hx
          obtain ⟨j, p1, p2, p3⟩ := hfr x hx
          have hji : j ≠ i := fun q => e (by rw [p3, q])
          rw [upB_other _ _ _ hji] at p1
          exact ⟨j, p1, p2, p3⟩
      · exact (den_one hrg rfl rfl r (hdn r hr).symm).symm
    · rw [if_neg h3]
      have hno : ∀ j, upB ps i true j = true → R.2.1 j = true → j ≠ i := fun j _ p2 q => h3 (q ▸ p2)
      refine ⟨by rw [hsz]; show st.2 + (1 + _) = R.2.2; omega, hgd, fun _ => hid, hmt, fun x hx => ?_, fun r hr => ?_⟩
      · obtain ⟨j, p1, p2, p3⟩ := hfr x hx
        have hji := hno j p1 p2
        rw [upB_other _ _ _ hji] at p1
        exact ⟨j, p1, p2, p3⟩
      · have hf0 : frT (nmN i) (ndT (nodeAt g i) ks) = false := by
          cases hq : frT (nmN i) (ndT (nodeAt g i) ks) with
          | false => rfl
          | true =>
            obtain ⟨j, p1, p2, p3⟩ := hfr _ hq
            exact absurd (hinj i j hi (hps' j p1) p3).symm (hno j p1 p2)
        rw [← fr_den (nmN i) _ (gdT_wf _ hgd) hf0 r fun k => gT g k i]
        exact hdn r hr
end Go.Proofs.YtnlpnbelkkgghaaDoor
