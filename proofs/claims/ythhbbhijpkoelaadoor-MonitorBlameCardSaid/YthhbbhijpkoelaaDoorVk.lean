/-
  Plain mathematics: a type in the place of a name: what that does, and what Check says of it; BEKIC and MILNER of types.
-/
import Derived.Test.YthhbbhijpkoelaaDoorIg
import Derived.Test.YthhbbhijpkoelaaDoorKc
import Derived.Test.YthhbbhijpkoelaaDoorLid
import Derived.Test.YthhbbhijpkoelaaDoorKa
import Derived.Test.YthhbbhijpkoelaaDoorKb
import Derived.Deep.RegionHeld3
import Derived.Test.YthhbbhijpkoelaaDoorHq
import Derived.Deep.Slices
namespace Go.Proofs.YthhbbhijpkoelaaDoor

/-- s in the place of the name x -/
def putT (x : ByteArray) (s : Ty) : Ty → Ty
  | ⟨kd, so, nm, ls, ks⟩ => if kd = 9 ∧ nm = x then s else if kd = 8 ∧ nm = x then ⟨kd, so, nm, ls, ks⟩ else ⟨kd, so, nm, ls, ks.map (putT x s)⟩
theorem putT_var (x : ByteArray) (s t : Ty) (h : t.kind = 9 ∧ t.name = x) : putT x s t = s := by cases t; rw [putT, if_pos h]
theorem putT_rec (x : ByteArray) (s t : Ty) (h : t.kind = 8 ∧ t.name = x) : putT x s t = t := by
  cases t
  rw [putT, if_neg (by rintro ⟨h9, _⟩; have h8 := h.1; simp only at h8 h9; omega), if_pos h]
theorem putT_else (x : ByteArray) (s t : Ty) (h9 : ¬ (t.kind = 9 ∧ t.name = x)) (h8 : ¬ (t.kind = 8 ∧ t.name = x)) : putT x s t = ⟨t.kind, t.so, t.name, t.labels, t.kids.map (putT x s)⟩ := by
  cases t
  rw [putT, if_neg h9, if_neg h8]
/-- does a name stand in it that no Rec in it binds? -/
def frT (x : ByteArray) : Ty → Bool
  | ⟨kd, _, nm, _, ks⟩ => if kd = 9 then decide (nm = x) else if kd = 8 ∧ nm = x then false else (ks.map fun q => frT x q).any id
theorem frT_var (x : ByteArray) (t : Ty) (h : t.kind = 9) : frT x t = decide (t.name = x) := by cases t; rw [frT, if_pos h]
theorem frT_rec (x : ByteArray) (t : Ty) (h : t.kind = 8 ∧ t.name = x) : frT x t = false := by
  cases t
  rw [frT, if_neg (by have h8 := h.1; simp only at h8; omega), if_pos h]
theorem frT_else (x : ByteArray) (t : Ty) (h9 : t.kind ≠ 9) (h8 : ¬ (t.kind = 8 ∧ t.name = x)) : frT x t = t.kids.any (frT x) := by
  cases t
  rw [frT, if_neg h9, if_neg h8, List.any_map]
  rfl
/-- a name c of what is put there would be caught -/
def capT (x c : ByteArray) : Ty → Bool
  | ⟨kd, _, nm, _, ks⟩ => if kd = 9 ∧ nm = x then false else if kd = 8 ∧ nm = x then false else if kd = 8 ∧ nm = c ∧ ks.any (frT x) = true then true else (ks.map fun q => capT x c q).any id
theorem capT_var (x c : ByteArray) (t : Ty) (h : t.kind = 9 ∧ t.name = x) : capT x c t = false := by cases t; rw [capT, if_pos h]
theorem capT_rec (x c : ByteArray) (t : Ty) (h : t.kind = 8 ∧ t.name = x) : capT x c t = false := by
  cases t
  rw [capT, if_neg (by rintro ⟨h9, _⟩; have h8 := h.1; simp only at h8 h9; omega), if_pos h]
theorem capT_yes (x c : ByteArray) (t : Ty) (h8 : ¬ (t.kind = 8 ∧ t.name = x)) (h : t.kind = 8 ∧ t.name = c ∧ t.kids.any (frT x) = true) : capT x c t = true := by
  cases t
  rw [capT, if_neg (by rintro ⟨h9, _⟩; have h8 := h.1; simp only at h8 h9; omega), if_neg h8, if_pos h]
theorem capT_else (x c : ByteArray) (t : Ty) (h9 : ¬ (t.kind = 9 ∧ t.name = x)) (h8 : ¬ (t.kind = 8 ∧ t.name = x)) (h : ¬ (t.kind = 8 ∧ t.name = c ∧ t.kids.any (frT x) = true)) : capT x c t = t.kids.any (capT x c) := by
  cases t
  rw [capT, if_neg h9, if_neg h8, if_neg h, List.any_map]
  rfl
theorem any_false {α : Type} {l : List α} {p : α → Bool} (h : l.any p = false) : ∀ a ∈ l, p a = false := by
  intro a ha
  cases hp : p a with
  | false => rfl
  | true => rw [List.any_eq_true.2 ⟨a, ha, hp⟩] at h; cases h
/-- names that are not free are of no account -/
theorem fr_den (x : ByteArray) : ∀ t : Ty, wfT t → frT x t = false → ∀ r d, den t (upD r x d) = den t r := by
  apply tyInd
  intro t ih hw hf r d
  obtain ⟨hp, hk⟩ := (wfT_eq t).1 hw
  by_cases h9 : t.kind = 9
  · rw [frT_var x t h9] at hf
    rw [den_var t _ h9, den_var t _ h9]
    unfold upD
    rw [if_neg (by simpa using hf)]
  by_cases h8 : t.kind = 8
  · obtain ⟨q, hq⟩ := part_rec hp h8
    have hm : q ∈ t.kids := by rw [hq]; exact .head _
    rw [den_rec t _ h8 q hq, den_rec t _ h8 q hq]
    have e : (fun f => den q (upD (upD r x d) t.name f)) = fun f => den q (upD r t.name f) := funext fun f => by
      by_cases hn : t.name = x
      · congr 1
        funext y
        unfold upD
        by_cases hy : y = t.name
        · rw [if_pos hy, if_pos hy]
        · rw [if_neg hy, if_neg hy, if_neg (by rw [← hn]; exact hy)]
      · rw [frT_else x t h9 (fun h => hn h.2)] at hf
        have hfq := any_false hf q hm
        have e2 : upD (upD r x d) t.name f = upD (upD r t.name f) x d := by
          funext y
          unfold upD
          by_cases hy : y = t.name
          · rw [if_pos hy, if_pos hy, if_neg (by rw [hy]; exact hn)]
          · rw [if_neg hy, if_neg hy]
        rw [e2]
        exact ih q hm (hk q hm) hfq _ d
    rw [e]
  · rw [frT_else x t h9 (fun h => h8 h.1)] at hf
    rw [den_node t _ h9 h8, den_node t _ h9 h8]
    congr 1
    exact List.map_congr_left fun q hq => ih q hq (hk q hq) (any_false hf q hq) r d
/-- what it does, where nothing is caught -/
theorem put_den (x c : ByteArray) (s : Ty) (hws : wfT s) (hs : clT s [c]) : ∀ t : Ty, wfT t → capT x c t = false → ∀ r, den (putT x s t) r = den t (upD r x (den s r)) := by
  apply tyInd
  intro t ih hw hc r
  obtain ⟨hp, hk⟩ := (wfT_eq t).1 hw
  by_cases h9x : t.kind = 9 ∧ t.name = x
  · rw [putT_var x s t h9x, den_var t _ h9x.1]
    unfold upD
    rw [if_pos h9x.2]
  by_cases h8x : t.kind = 8 ∧ t.name = x
  · rw [putT_rec x s t h8x]
    exact (fr_den x t hw (frT_rec x t h8x) r _).symm
  rw [putT_else x s t h9x h8x]
  by_cases h9 : t.kind = 9
  · rw [den_var t _ h9, den_var _ _ (by exact h9)]
    unfold upD
    rw [if_neg (fun h => h9x ⟨h9, h⟩)]
  by_cases h8 : t.kind = 8
  · obtain ⟨q, hq⟩ := part_rec hp h8
    have hm : q ∈ t.kids := by rw [hq]; exact .head _
    have hn : ¬ t.name = x := fun h => h8x ⟨h8, h⟩
    have hcq : capT x c q = false := by
      by_cases hy : t.kind = 8 ∧ t.name = c ∧ t.kids.any (frT x) = true
      · rw [capT_yes x c t h8x hy] at hc; cases hc
      · rw [capT_else x c t h9x h8x hy] at hc; exact any_false hc q hm
    rw [den_rec t _ h8 q hq, den_rec _ _ (by exact h8) (putT x s q) (by simp [hq])]
    have e : (fun f => den (putT x s q) (upD r t.name f)) = fun f => den q (upD (upD r x (den s r)) t.name f) := funext fun f => by
      rw [ih q hm (hk q hm) hcq]
      have e2 : ∀ d, upD (upD r t.name f) x d = upD (upD r x d) t.name f := fun d => by
        funext y
        unfold upD
        by_cases hy : y = t.name
        · rw [if_pos hy, if_pos hy, if_neg (by rw [hy]; exact hn)]
        · rw [if_neg hy, if_neg hy]
      by_cases hnc : t.name = c
      · by_cases hy : t.kids.any (frT x) = true
        · rw [capT_yes x c t h8x ⟨h8, hnc, hy⟩] at hc; cases hc
        · have hfq : frT x q = false := any_false (by simpa using hy) q hm
          rw [fr_den x q (hk q hm) hfq, ← e2, fr_den x q (hk q hm) hfq]
      · rw [den_cl s hws [c] (upD r t.name f) r hs (fun y hy => by
          rw [List.mem_singleton] at hy
          subst hy
          unfold upD
          rw [if_neg (fun h => hnc h.symm)]), e2]
    have e3 : (⟨t.kind, t.so, t.name, t.labels, t.kids.map (putT x s)⟩ : Ty).name = t.name := rfl
    rw [e3, e]
  · have hc' : t.kids.any (capT x c) = false := by rw [capT_else x c t h9x h8x (fun h => h8 h.1)] at hc; exact hc
    rw [den_node t _ h9 h8, den_node _ _ (by exact h9) (by exact h8)]
    simp only [List.map_map]
    congr 1
    exact List.map_congr_left fun q hq => ih q hq (hk q hq) (any_false hc' q hq) r
/-! ### What Check says -/
theorem clT_mono : ∀ t : Ty, ∀ ns ms, (∀ y ∈ ns, y ∈ ms) → clT t ns → clT t ms := by
  apply tyInd
  intro t ih ns ms h hc
  obtain ⟨c1, c2⟩ := (clT_eq t ns).1 hc
  refine (clT_eq t ms).2 ⟨fun h9 => h _ (c1 h9), fun k hk => ih k hk _ _ (fun y hy => ?_) (c2 k hk)⟩
  by_cases h8 : t.kind = 8
  · rw [if_pos h8] at hy ⊢
    rcases List.mem_append.1 hy with hy | hy
    · exact List.mem_append.2 (.inl (h y hy))
    · exact List.mem_append.2 (.inr hy)
  · rw [if_neg h8] at hy ⊢; exact h y hy
theorem put_cl (x : ByteArray) (s : Ty) : ∀ t : Ty, ∀ ns ms, (∀ y ∈ ns, y ≠ x → y ∈ ms) → clT s ms → clT t ns → clT (putT x s t) ms := by
  apply tyInd
  intro t ih ns ms h hs hc
  obtain ⟨c1, c2⟩ := (clT_eq t ns).1 hc
  by_cases h9x : t.kind = 9 ∧ t.name = x
  · rw [putT_var x s t h9x]; exact hs
  by_cases h8x : t.kind = 8 ∧ t.name = x
  · rw [putT_rec x s t h8x]
    refine (clT_eq t ms).2 ⟨fun h9 => absurd (h8x.1.symm.trans h9) (by decide), fun k hk => ?_⟩
    refine clT_mono k _ _ (fun y hy => ?_) (c2 k hk)
    rw [if_pos h8x.1] at hy ⊢
    rcases List.mem_append.1 hy with hy | hy
    · by_cases hyx : y = x
      · exact List.mem_append.2 (.inr (by rw [hyx, h8x.2]; exact .head _))
      · exact List.mem_append.2 (.inl (h y hy hyx))
    · exact List.mem_append.2 (.inr hy)
  rw [putT_else x s t h9x h8x]
  refine (clT_eq _ ms).2 ⟨fun h9 => h _ (c1 h9) (fun e => h9x ⟨h9, e⟩), fun k hk => ?_⟩
  obtain ⟨q, hq, rfl⟩ := List.mem_map.1 hk
  refine ih q hq _ _ (fun y hy hyx => ?_) ?_ (c2 q hq)
  · show y ∈ if t.kind = 8 then ms ++ [t.name] else ms
    by_cases h8 : t.kind = 8
    · rw [if_pos h8] at hy ⊢
      rcases List.mem_append.1 hy with hy | hy
      · exact List.mem_append.2 (.inl (h y hy hyx))
      · exact List.mem_append.2 (.inr hy)
    · rw [if_neg h8] at hy ⊢; exact h y hy hyx
  · show clT s (if t.kind = 8 then ms ++ [t.name] else ms)
    by_cases h8 : t.kind = 8
    · rw [if_pos h8]; exact clT_mono s _ _ (fun y hy => List.mem_append.2 (.inl hy)) hs
    · rw [if_neg h8]; exact hs
theorem put_id (x : ByteArray) (s : Ty) : ∀ t : Ty, wfT t → idT t = false → idT (putT x s t) = false := by
  apply tyInd
  intro t ih hw hi
  obtain ⟨hp, hk⟩ := (wfT_eq t).1 hw
  by_cases h9 : t.kind = 9
  · rw [idT_var t h9] at hi; cases hi
  have h9x : ¬ (t.kind = 9 ∧ t.name = x) := fun h => h9 h.1
  by_cases h8x : t.kind = 8 ∧ t.name = x
  · rw [putT_rec x s t h8x]; exact hi
  rw [putT_else x s t h9x h8x]
  by_cases h8 : t.kind = 8
  · obtain ⟨q, hq⟩ := part_rec hp h8
    have hm : q ∈ t.kids := by rw [hq]; exact .head _
    rw [idT_rec t h8 q hq] at hi
    rw [idT_rec _ (by exact h8) (putT x s q) (by simp [hq])]
    exact ih q hm (hk q hm) hi
  · exact idT_node _ (by exact h9) (by exact h8)
theorem part_kids {t : Ty} (ks : List Ty) (hl : ks.length = t.kids.length) (h : partT t = true) : partT ⟨t.kind, t.so, t.name, t.labels, ks⟩ = true := by
  rw [← h]
  unfold partT
  simp only [hl]
theorem put_gd (x : ByteArray) (s : Ty) (hs : gdT s) : ∀ t : Ty, gdT t → gdT (putT x s t) := by
  apply tyInd
  intro t ih hg
  obtain ⟨hp, hi, hk⟩ := (gdT_eq t).1 hg
  by_cases h9x : t.kind = 9 ∧ t.name = x
  · rw [putT_var x s t h9x]; exact hs
  by_cases h8x : t.kind = 8 ∧ t.name = x
  · rw [putT_rec x s t h8x]; exact hg
  rw [putT_else x s t h9x h8x]
  refine (gdT_eq _).2 ⟨part_kids _ (by simp) hp, fun h8 => ?_, fun k hk' => ?_⟩
  · have := put_id x s t (gdT_wf t hg) (hi h8)
    rw [putT_else x s t h9x h8x] at this
    exact this
  · obtain ⟨q, hq, rfl⟩ := List.mem_map.1 hk'
    exact ih q hq (hk q hq)
/-! ### The two laws -/
theorem cap_none (x : ByteArray) : ∀ t : Ty, wfT t → capT x ⟨#[]⟩ t = false := by
  apply tyInd
  intro t ih hw
  obtain ⟨hp, hk⟩ := (wfT_eq t).1 hw
  by_cases h9x : t.kind = 9 ∧ t.name = x
  · exact capT_var x _ t h9x
  by_cases h8x : t.kind = 8 ∧ t.name = x
  · exact capT_rec x _ t h8x
  have hn : ¬ (t.kind = 8 ∧ t.name = ⟨#[]⟩ ∧ t.kids.any (frT x) = true) := by
    rintro ⟨h8, he, _⟩
    unfold partT at hp
    simp [h8, he] at hp
    exact absurd hp.1.1.2 (by decide)
  rw [capT_else x _ t h9x h8x hn]
  rw [Bool.eq_false_iff]
  intro ha
  obtain ⟨k, hm, hc⟩ := List.any_eq_true.1 ha
  rw [ih k hm (hk k hm)] at hc; cases hc
end Go.Proofs.YthhbbhijpkoelaaDoor
/-
  The contracts of duetref.small, IsName, levels and Level, for every text.
-/
namespace Go.Proofs.YthhbbhijpkoelaaDoor
open Go.RowKit Go.Shelf Go.Sort

theorem own_keep0 {W W' : World} {base : Nat} {e : TypeId} {size : Nat} {v : Value} {n : Nat} {xs : List Value} (h : W.ownsRow base e size v n xs) (hb : Below W.heap.size W W') : W'.ownsRow base e size v n xs := by
  refine ⟨h.1, h.2.imp id ?_⟩
  rintro ⟨g, cap, cur, h1, h2, h3, h4⟩
  refine ⟨g, cap, cur, h1, h2, ?_, h4⟩
  rw [hb.block g ?_]
  · exact h3
  · rcases Nat.lt_or_ge g W.heap.size with hlt | hge
    · exact hlt
    · rw [Array.getElem?_eq_none hge] at h3; cases h3
end Go.Proofs.YthhbbhijpkoelaaDoor

/-
  The contracts of duetref.IsVar and duetref.Labels.
-/
namespace Go.Proofs.YthhbbhijpkoelaaDoor
open Go.RowKit Go.Shelf

end Go.Proofs.YthhbbhijpkoelaaDoor

/-
  The contract of duetref.part: has a part of a type just what its kind has?
-/
namespace Go.Proofs.YthhbbhijpkoelaaDoor
open Go.RowKit Go.Shelf

end Go.Proofs.YthhbbhijpkoelaaDoor

/-
  Plain: a list of parts, each with the names around it, that are looked at one after another, each one's Kids put ahead of the others: it finds nothing just if Check finds nothing.
-/
namespace Go.Proofs.YthhbbhijpkoelaaDoor
open Go.RowKit

end Go.Proofs.YthhbbhijpkoelaaDoor

/-
  append onto a row that a call owns, from whatever lies in memory: at a walk's step and at a step of a region that draws its order. The list of parts that duetref.Type looks at: cells, and where what they name lies.
-/
namespace Go.Proofs.YthhbbhijpkoelaaDoor
open Go.RowKit Go.Shelf

end Go.Proofs.YthhbbhijpkoelaaDoor

/-
  The contract of duetref.Type: it finds nothing just if Check finds nothing.
-/
namespace Go.Proofs.YthhbbhijpkoelaaDoor
open Go.RowKit Go.Shelf

theorem part_six (t : Ty) (h : partT t = true) : t.kids.length ≤ 6 := by
  obtain ⟨kd, so, nm, ls, ks⟩ := t
  unfold partT at h
  simp only at h ⊢
  have hL : labsOK ls = true → ls.length ≤ 6 := fun q => by
    unfold labsOK at q
    rw [Bool.and_eq_true] at q
    exact (of_decide_eq_true q.1).2
  split at h
  · simp only [Bool.and_eq_true, decide_eq_true_eq] at h; have := h.2; omega
  split at h
  · simp only [Bool.and_eq_true, decide_eq_true_eq] at h; have := h.2; omega
  split at h
  · simp only [Bool.and_eq_true, decide_eq_true_eq] at h; have := h.2; omega
  split at h
  · simp only [Bool.and_eq_true, decide_eq_true_eq] at h; have := hL h.1.2; omega
  split at h
  · simp only [Bool.and_eq_true, decide_eq_true_eq] at h; have := h.2; omega
  split at h
  · simp only [Bool.and_eq_true, decide_eq_true_eq] at h; have := h.2; omega
  · cases h
end Go.Proofs.YthhbbhijpkoelaaDoor

/-
  The contract of duetkeep.free: does a name stand in a type that no Rec in it binds?
-/
namespace Go.Proofs.YthhbbhijpkoelaaDoor
open Go.RowKit Go.Shelf

theorem nm_beq (a b : ByteArray) : (a.toList == b.toList) = decide (a = b) := by
  by_cases h : a = b
  · subst h; simp
  · rw [decide_eq_false h, beq_eq_false_iff_ne, ByteArray.toList_eq, ByteArray.toList_eq]
    exact fun e => h (ByteArray.ext (Array.toList_inj.1 e))
end Go.Proofs.YthhbbhijpkoelaaDoor
