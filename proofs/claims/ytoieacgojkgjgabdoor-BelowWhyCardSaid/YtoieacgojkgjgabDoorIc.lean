/-
  Plain mathematics: nodes as Check lets them by; their labels rise; which is below which (GAY, HOLE) up to each depth: an order.
-/
import Derived.Test.YtoieacgojkgjgabDoorIb
import Derived.Sort.Walk0
namespace Go.Proofs.YtoieacgojkgjgabDoor

def endT : Ty := ⟨1, 0, ⟨#[]⟩, [], []⟩
/-- a node as Check lets it by -/
def okN (n : Nd) : Prop := partT ⟨n.kind, n.so, ⟨#[]⟩, n.labs, n.to.map fun _ => endT⟩ = true
theorem okN_cases {n : Nd} (h : okN n) : (n.kind = 1 ∧ n.so = 0 ∧ n.labs = [] ∧ n.to.length = 0) ∨ ((n.kind = 2 ∨ n.kind = 3) ∧ (n.so = 1 ∨ n.so = 2 ∨ n.so = 3) ∧ n.labs = [] ∧ n.to.length = 1) ∨ ((n.kind = 4 ∨ n.kind = 5) ∧ n.so = 0 ∧ n.labs = [] ∧ n.to.length = 2) ∨ ((n.kind = 6 ∨ n.kind = 7) ∧ n.so = 0 ∧ labsOK n.labs = true ∧ n.to.length = n.labs.length) := by
  unfold okN partT at h
  simp only at h
  split at h
  · simp only [Bool.and_eq_true, decide_eq_true_eq, List.length_map] at h
    exact .inl ⟨‹_›, h.1.1.1, List.length_eq_zero_iff.1 h.1.2, h.2⟩
  split at h
  · simp only [Bool.and_eq_true, decide_eq_true_eq, List.length_map] at h
    exact .inr (.inl ⟨‹_›, h.1.1.1, List.length_eq_zero_iff.1 h.1.2, h.2⟩)
  split at h
  · simp only [Bool.and_eq_true, decide_eq_true_eq, List.length_map] at h
    exact .inr (.inr (.inl ⟨‹_›, h.1.1.1, List.length_eq_zero_iff.1 h.1.2, h.2⟩))
  split at h
  · simp only [Bool.and_eq_true, decide_eq_true_eq, List.length_map] at h
    exact .inr (.inr (.inr ⟨‹_›, h.1.1.1, h.1.2, h.2⟩))
  split at h
  · simp only [Bool.and_eq_true, decide_eq_true_eq] at h
    exact absurd h.1.1.2 (by decide)
  split at h
  · simp only [Bool.and_eq_true, decide_eq_true_eq] at h
    exact absurd h.1.1.2 (by decide)
  · cases h
theorem okN_shp {n : Nd} (h : okN n) : shpN n := by
  have hc := okN_cases h
  have := part_shp (t := ⟨n.kind, n.so, ⟨#[]⟩, n.labs, n.to.map fun _ => endT⟩) h (by simp only; omega) (by simp only; omega) n.to (by simp)
  exact this
theorem part_okN {t : Ty} (hp : partT t = true) (h9 : t.kind ≠ 9) (h8 : t.kind ≠ 8) (tos : List Nat) (hl : tos.length = t.kids.length) : okN ⟨t.kind, t.so, t.labels, tos⟩ := by
  unfold okN partT
  unfold partT at hp
  simp only [List.length_map, hl]
  rw [if_neg h8, if_neg h9] at hp
  rw [if_neg h8, if_neg h9]
  have he : (⟨#[]⟩ : ByteArray).toList.isEmpty = true := by rw [ByteArray.toList_eq]; rfl
  rw [he]
  split
  · rename_i h; rw [if_pos h] at hp; simp only [Bool.and_eq_true] at hp ⊢; exact ⟨⟨⟨hp.1.1.1, trivial⟩, hp.1.2⟩, hp.2⟩
  rename_i g1; rw [if_neg g1] at hp
  split
  · rename_i h; rw [if_pos h] at hp; simp only [Bool.and_eq_true] at hp ⊢; exact ⟨⟨⟨hp.1.1.1, trivial⟩, hp.1.2⟩, hp.2⟩
  rename_i g2; rw [if_neg g2] at hp
  split
  · rename_i h; rw [if_pos h] at hp; simp only [Bool.and_eq_true] at hp ⊢; exact ⟨⟨⟨hp.1.1.1, trivial⟩, hp.1.2⟩, hp.2⟩
  rename_i g3; rw [if_neg g3] at hp
  split
  · rename_i h; rw [if_pos h] at hp; simp only [Bool.and_eq_true] at hp ⊢; exact ⟨⟨⟨hp.1.1.1, trivial⟩, hp.1.2⟩, hp.2⟩
  rename_i g4; rw [if_neg g4] at hp
  exact hp

/-! ### Labels that rise -/
def ltB (a b : ByteArray) : Prop := a.toList < b.toList
theorem ltB_trans {a b c : ByteArray} (h : ltB a b) (h2 : ltB b c) : ltB a c := List.lt_trans h h2
theorem ltB_irr (a : ByteArray) : ¬ ltB a a := List.lt_irrefl _
theorem leB_no {a b : ByteArray} (h : leB a b = false) : ltB b a := by
  unfold leB at h
  rw [Bool.or_eq_false_iff, bytesLess_eq] at h
  have h1 : ¬ a.toList < b.toList := by simpa using h.1
  have h2 : a.toList ≠ b.toList := by simpa using h.2
  rcases Std.Trichotomous.rel_or_eq_or_rel_swap (r := (· < · : List UInt8 → List UInt8 → Prop)) (a := a.toList) (b := b.toList) with h' | h' | h'
  · exact absurd h' h1
  · exact absurd h' h2
  · exact h'
def rises (ls : List ByteArray) : Prop := ls.Pairwise ltB
theorem rises_of {ls : List ByteArray} (h : labsOK ls = true) : rises ls := by
  unfold labsOK at h
  rw [Bool.and_eq_true, List.all_eq_true] at h
  have hst : ∀ i (hi : i + 1 < ls.length), ltB ls[i] ls[i + 1] := by
    intro i hi
    have := h.2 (i + 1) (List.mem_range.2 hi)
    unfold labAt at this
    rw [Bool.and_eq_true, getD_at ls (i + 1) hi, Nat.add_sub_cancel, getD_at ls i (by omega)] at this
    have h2 := this.2
    simp at h2
    exact leB_no h2
  have hall : ∀ d i (hi : i + d + 1 < ls.length), ltB ls[i] ls[i + d + 1] := by
    intro d
    induction d with
    | zero => intro i hi; exact hst i hi
    | succ d ih => intro i hi; exact ltB_trans (ih i (by omega)) (hst (i + d + 1) (by omega))
  unfold rises
  rw [List.pairwise_iff_getElem]
  intro i j hi hj hij
  have := hall (j - i - 1) i (by omega)
  have e : i + (j - i - 1) + 1 = j := by omega
  simp only [e] at this
  exact this
theorem okN_rises {n : Nd} (h : okN n) : rises n.labs := by
  rcases okN_cases h with ⟨_, _, h3, _⟩ | ⟨_, _, h3, _⟩ | ⟨_, _, h3, _⟩ | ⟨_, _, h3, _⟩
  · rw [h3]; exact List.Pairwise.nil
  · rw [h3]; exact List.Pairwise.nil
  · rw [h3]; exact List.Pairwise.nil
  · exact rises_of h3
theorem rises_inj {ls : List ByteArray} (h : rises ls) {i j : Nat} (hi : i < ls.length) (hj : j < ls.length) (e : ls[i] = ls[j]) : i = j := by
  unfold rises at h
  rw [List.pairwise_iff_getElem] at h
  rcases Nat.lt_trichotomy i j with h1 | h1 | h1
  · have := h i j hi hj h1; rw [e] at this; exact absurd this (ltB_irr _)
  · exact h1
  · have := h j i hj hi h1; rw [e] at this; exact absurd this (ltB_irr _)
/-- two lists that rise and have the same are the same -/
theorem rises_ext : ∀ {l l' : List ByteArray}, rises l → rises l' → (∀ x, x ∈ l ↔ x ∈ l') → l = l'
  | [], [], _, _, _ => rfl
  | [], b :: l', _, _, h => absurd ((h b).2 (.head _)) (by simp)
  | a :: l, [], _, _, h => absurd ((h a).1 (.head _)) (by simp)
  | a :: l, b :: l', h1, h2, h => by
    have p1 := List.pairwise_cons.1 h1
    have p2 := List.pairwise_cons.1 h2
    have e : a = b := by
      rcases List.mem_cons.1 ((h a).1 (.head _)) with e | ha
      · exact e
      · rcases List.mem_cons.1 ((h b).2 (.head _)) with e | hb
        · exact e.symm
        · exact absurd (ltB_trans (p1.1 b hb) (p2.1 a ha)) (ltB_irr _)
    subst e
    rw [rises_ext p1.2 p2.2 (fun x => ?_)]
    constructor
    · intro hx
      rcases List.mem_cons.1 ((h x).1 (.tail _ hx)) with rfl | hx'
      · exact absurd (p1.1 x hx) (ltB_irr _)
      · exact hx'
    · intro hx
      rcases List.mem_cons.1 ((h x).2 (.tail _ hx)) with rfl | hx'
      · exact absurd (p2.1 x hx) (ltB_irr _)
      · exact hx'

/-! ### Below -/
/-- what stands there itself does not speak against it -/
def okI (m n : Nd) : Prop := m.kind = n.kind ∧ m.so = n.so ∧ if m.kind = 7 then ∀ l ∈ m.labs, l ∈ n.labs else ∀ l ∈ n.labs, l ∈ m.labs
def toAt (n : Nd) (i : Nat) : Nat := (n.to[i]?).getD 0
end Go.Proofs.YtoieacgojkgjgabDoor
