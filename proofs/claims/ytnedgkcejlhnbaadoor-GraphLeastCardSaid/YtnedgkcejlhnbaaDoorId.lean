/-
  Plain mathematics: nodes as Check lets them by; their labels rise; which is below which (GAY, HOLE) up to each depth: an order.
-/
import Derived.Test.YtnedgkcejlhnbaaDoorIb
import Derived.Sort.Walk0
namespace Go.Proofs.YtnedgkcejlhnbaaDoor

def endT : Ty := ⟨1, 0, ⟨#[]⟩, [], []⟩
/-- a node as Check lets it by -/
def okN (n : Nd) : Prop := partT ⟨n.kind, n.so, ⟨#[]⟩, n.labs, n.to.map fun _ => endT⟩ = true
theorem okN_cases {n : Nd} (h : okN n) : (n.kind = 1 ∧ n.so = 0 ∧ n.labs = [] ∧ n.to.length = 0) ∨ ((n.kind = 2 ∨ n.kind = 3) ∧ (n.so = 1 ∨ n.so = 2 ∨ n.so = 3) ∧ n.labs = [] ∧ n.to.length = 1) ∨ ((n.kind = 4 ∨ n.kind = 5) ∧ n.so = 0 ∧ n.labs = [] ∧ n.to.length = 2) ∨ ((n.kind = 6 ∨ n.kind = 7) ∧ n.so = 0 ∧ labsOK n.labs = true ∧ n.to.length = n.labs.length) := by
  unfold okN partT at h
  simp only at h
  split at h
  · simp only [Bool.and_eq_true, decide_eq_true_eq, List.length_map] at h
    exact .inl ⟨‹_›, h.1.1.1, List.length_eq_zero_iff.1 h.1.2, h.2⟩
  split at h
  · simp only [Bool.and_eq_true, decide_eq_true_eq, List.length_map] at h
    exact .inr (.inl ⟨‹_›, h.1.1.1, List.length_eq_zero_iff.1 h.1.2, h.2⟩)
  split at h
  · simp only [Bool.and_eq_true, decide_eq_true_eq, List.length_map] at h
    exact .inr (.inr (.inl ⟨‹_›, h.1.1.1, List.length_eq_zero_iff.1 h.1.2, h.2⟩))
  split at h
  · simp only [Bool.and_eq_true, decide_eq_true_eq, List.length_map] at h
    exact .inr (.inr (.inr ⟨‹_›, h.1.1.1, h.1.2, h.2⟩))
  split at h
  · simp only [Bool.and_eq_true, decide_eq_true_eq] at h
    exact absurd h.1.1.2 (by decide)
  split at h
  · simp only [Bool.and_eq_true, decide_eq_true_eq] at h
    exact absurd h.1.1.2 (by decide)
  · cases h
theorem okN_shp {n : Nd} (h : okN n) : shpN n := by
  have hc := okN_cases h
  have := part_shp (t := ⟨n.kind, n.so, ⟨#[]⟩, n.labs, n.to.map fun _ => endT⟩) h (by simp only; omega) (by simp only; omega) n.to (by simp)
  exact this
theorem part_okN {t : Ty} (hp : partT t = true) (h9 : t.kind ≠ 9) (h8 : t.kind ≠ 8) (tos : List Nat) (hl : tos.length = t.kids.length) : okN ⟨t.kind, t.so, t.labels, tos⟩ := by
  unfold okN partT
  unfold partT at hp
  simp only [List.length_map, hl]
  rw [if_neg h8, if_neg h9] at hp
  rw [if_neg h8, if_neg h9]
  have he : (⟨#[]⟩ : ByteArray).toList.isEmpty = true := by rw [ByteArray.toList_eq]; rfl
  rw [he]
  split
  · rename_i h; rw [if_pos h] at hp; simp only [Bool.and_eq_true] at hp ⊢; exact ⟨⟨⟨hp.1.1.1, trivial⟩, hp.1.2⟩, hp.2⟩
  rename_i g1; rw [if_neg g1] at hp
  split
  · rename_i h; rw [if_pos h] at hp; simp only [Bool.and_eq_true] at hp ⊢; exact ⟨⟨⟨hp.1.1.1, trivial⟩, hp.1.2⟩, hp.2⟩
  rename_i g2; rw [if_neg g2] at hp
  split
  · rename_i h; rw [if_pos h] at hp; simp only [Bool.and_eq_true] at hp ⊢; exact ⟨⟨⟨hp.1.1.1, trivial⟩, hp.1.2⟩, hp.2⟩
  rename_i g3; rw [if_neg g3] at hp
  split
  · rename_i h; rw [if_pos h] at hp; simp only [Bool.and_eq_true] at hp ⊢; exact ⟨⟨⟨hp.1.1.1, trivial⟩, hp.1.2⟩, hp.2⟩
  rename_i g4; rw [if_neg g4] at hp
  exact hp

/-! ### Labels that rise -/
/-! ### Below -/
/-- what stands there itself does not speak against it -/
def okI (m n : Nd) : Prop := m.kind = n.kind ∧ m.so = n.so ∧ if m.kind = 7 then ∀ l ∈ m.labs, l ∈ n.labs else ∀ l ∈ n.labs, l ∈ m.labs
def toAt (n : Nd) (i : Nat) : Nat := (n.to[i]?).getD 0
end Go.Proofs.YtnedgkcejlhnbaaDoor
/-
  Plain mathematics: which is below which (GAY, HOLE), up to each depth: it is an order; the search that tells it.
-/
namespace Go.Proofs.YtnedgkcejlhnbaaDoor

/-- which is below which, up to a depth -/
def bl : Nat → List Nd → List Nd → Nat → Nat → Prop
  | 0, _, _, _, _ => True
  | k + 1, g, h, i, j => okI (nodeAt g i) (nodeAt h j) ∧ ((nodeAt g i).kind = 2 ∨ (nodeAt g i).kind = 3 → bl k g h (toAt (nodeAt g i) 0) (toAt (nodeAt h j) 0)) ∧
    ((nodeAt g i).kind = 4 → bl k h g (toAt (nodeAt h j) 0) (toAt (nodeAt g i) 0) ∧ bl k g h (toAt (nodeAt g i) 1) (toAt (nodeAt h j) 1)) ∧
    ((nodeAt g i).kind = 5 → bl k g h (toAt (nodeAt g i) 0) (toAt (nodeAt h j) 0) ∧ bl k g h (toAt (nodeAt g i) 1) (toAt (nodeAt h j) 1)) ∧
    ∀ (x y : Nat) (l : ByteArray), (nodeAt g i).labs[x]? = some l → (nodeAt h j).labs[y]? = some l → bl k g h (toAt (nodeAt g i) x) (toAt (nodeAt h j) y)
theorem bl_succ (k : Nat) (g h : List Nd) (i j : Nat) : bl (k + 1) g h i j ↔ okI (nodeAt g i) (nodeAt h j) ∧ ((nodeAt g i).kind = 2 ∨ (nodeAt g i).kind = 3 → bl k g h (toAt (nodeAt g i) 0) (toAt (nodeAt h j) 0)) ∧
    ((nodeAt g i).kind = 4 → bl k h g (toAt (nodeAt h j) 0) (toAt (nodeAt g i) 0) ∧ bl k g h (toAt (nodeAt g i) 1) (toAt (nodeAt h j) 1)) ∧
    ((nodeAt g i).kind = 5 → bl k g h (toAt (nodeAt g i) 0) (toAt (nodeAt h j) 0) ∧ bl k g h (toAt (nodeAt g i) 1) (toAt (nodeAt h j) 1)) ∧
    ∀ (x y : Nat) (l : ByteArray), (nodeAt g i).labs[x]? = some l → (nodeAt h j).labs[y]? = some l → bl k g h (toAt (nodeAt g i) x) (toAt (nodeAt h j) y) := Iff.rfl
/-- a graph whose nodes are as Check lets them by -/
structure GN (g : List Nd) : Prop where
  pos : 0 < g.length
  le : g.length ≤ 200
  ok : ∀ n ∈ g, okN n
  shut : shutG g
theorem GN.at_ {g : List Nd} (h : GN g) {i : Nat} (hi : i < g.length) : okN (nodeAt g i) := by rw [nodeAt_lt g i hi]; exact h.ok _ (List.getElem_mem hi)
theorem GN.to_ {g : List Nd} (h : GN g) {i : Nat} (x : Nat) (hx : x < (nodeAt g i).to.length) : toAt (nodeAt g i) x < g.length := by
  unfold toAt
  rw [List.getElem?_eq_getElem hx]
  exact shut_at h.shut i _ (List.getElem_mem hx)
theorem GN.gr {g : List Nd} (h : GN g) : GR1 g := ⟨h.pos, by have := h.le; omega, fun n hn => okN_shp (h.ok n hn), h.shut⟩
/-- how many To a node has -/
theorem okN_len {n : Nd} (h : okN n) : (n.kind = 2 ∨ n.kind = 3 → 0 < n.to.length) ∧ (n.kind = 4 ∨ n.kind = 5 → 1 < n.to.length) ∧ (∀ x, x < n.labs.length → x < n.to.length) := by
  rcases okN_cases h with ⟨h1, _, h3, h4⟩ | ⟨h1, _, h3, h4⟩ | ⟨h1, _, h3, h4⟩ | ⟨h1, _, h3, h4⟩
  · exact ⟨fun _ => by omega, fun _ => by omega, fun x hx => by rw [h3] at hx; simp at hx⟩
  · exact ⟨fun _ => by omega, fun _ => by omega, fun x hx => by rw [h3] at hx; simp at hx⟩
  · exact ⟨fun _ => by omega, fun _ => by omega, fun x hx => by rw [h3] at hx; simp at hx⟩
  · exact ⟨fun _ => by omega, fun _ => by omega, fun x hx => by omega⟩
/-! ### The search -/
abbrev Pl := Nat × Nat × Bool
abbrev Stp := ByteArray × Pl
abbrev Av := Stp × Nat
def dotB : ByteArray := ⟨#[46]⟩
def capB : ByteArray := ⟨#[94]⟩
def labAtN (n : Nd) (i : Nat) : ByteArray := (n.labs[i]?).getD ⟨#[]⟩
def idxB (ls : List ByteArray) (l : ByteArray) : Nat := ls.findIdx fun x => decide (x = l)
theorem idxB_lt {ls : List ByteArray} {l : ByteArray} (h : l ∈ ls) : idxB ls l < ls.length := List.findIdx_lt_length_of_exists ⟨l, h, by simp⟩
theorem idxB_at {ls : List ByteArray} {l : ByteArray} (h : idxB ls l < ls.length) : ls[idxB ls l] = l := by
  have := List.findIdx_getElem (w := h)
  rw [decide_eq_true_eq] at this
  exact this
def labSt (m n : Nd) (t : Bool) (i : Nat) : Option Stp := if hasN n.labs (labAtN m i) = true then some (labAtN m i, toAt m i, toAt n (idxB n.labs (labAtN m i)), t) else none
def stepsP (m n : Nd) (t : Bool) : List Stp :=
  if m.kind = 2 ∨ m.kind = 3 then [(dotB, toAt m 0, toAt n 0, t)]
  else if m.kind = 4 ∨ m.kind = 5 then [(capB, toAt m 0, toAt n 0, t != decide (m.kind = 4)), (dotB, toAt m 1, toAt n 1, t)]
  else (List.range m.labs.length).filterMap (labSt m n t)
def okP (g h : List Nd) (p : Pl) : Prop := if p.2.2 = true then okI (nodeAt h p.2.1) (nodeAt g p.1) else okI (nodeAt g p.1) (nodeAt h p.2.1)
def blP (g h : List Nd) (k : Nat) (p : Pl) : Prop := if p.2.2 = true then bl k h g p.2.1 p.1 else bl k g h p.1 p.2.1
theorem mem_lab {m n : Nd} {t : Bool} {s : Stp} : s ∈ (List.range m.labs.length).filterMap (labSt m n t) ↔ ∃ x l, m.labs[x]? = some l ∧ l ∈ n.labs ∧ s = (l, toAt m x, toAt n (idxB n.labs l), t) := by
  rw [List.mem_filterMap]
  constructor
  · rintro ⟨x, hx, e⟩
    have hx' : x < m.labs.length := List.mem_range.1 hx
    have el : labAtN m x = m.labs[x] := by unfold labAtN; rw [List.getElem?_eq_getElem hx']; rfl
    unfold labSt at e
    rw [el] at e
    split at e
    · rename_i hm
      exact ⟨x, m.labs[x], List.getElem?_eq_getElem hx', (hasN_iff _ _).1 hm, (Option.some.inj e).symm⟩
    · cases e
  · rintro ⟨x, l, hx, hm, rfl⟩
    obtain ⟨hx', e⟩ := List.getElem?_eq_some_iff.1 hx
    have el : labAtN m x = l := by unfold labAtN; rw [hx]; rfl
    exact ⟨x, List.mem_range.2 hx', by unfold labSt; rw [el, if_pos ((hasN_iff _ _).2 hm)]⟩
/-- and the other way round -/
theorem blP_next {g h : List Nd} {p : Pl} {k : Nat} (hb : blP g h (k + 1) p) : okP g h p ∧ ∀ s ∈ stepsP (nodeAt g p.1) (nodeAt h p.2.1) p.2.2, blP g h k s.2 := by
  obtain ⟨a, b, t⟩ := p
  cases t with
  | false =>
    unfold blP at hb
    simp only [Bool.false_eq_true, if_false] at hb ⊢
    rw [bl_succ] at hb
    obtain ⟨b1, b2, b3, b4, b5⟩ := hb
    refine ⟨by unfold okP; simpa using b1, fun s hs => ?_⟩
    unfold stepsP at hs
    split at hs
    · rename_i hk
      rw [List.mem_singleton] at hs; subst hs
      simpa [blP] using b2 hk
    split at hs
    · rename_i hk
      rcases hk with hk | hk
      · rw [hk] at hs
        rcases List.mem_cons.1 hs with rfl | hs
        · simpa [blP] using (b3 hk).1
        · rw [List.mem_singleton] at hs; subst hs
          simpa [blP] using (b3 hk).2
      · rw [hk] at hs
        rcases List.mem_cons.1 hs with rfl | hs
        · simpa [blP] using (b4 hk).1
        · rw [List.mem_singleton] at hs; subst hs
          simpa [blP] using (b4 hk).2
    · obtain ⟨x, l, hx, hm, rfl⟩ := mem_lab.1 hs
      have h1 := idxB_lt hm
      have := b5 x _ l hx (by rw [List.getElem?_eq_getElem h1, idxB_at h1])
      simpa [blP] using this
  | true =>
    unfold blP at hb
    simp only [if_true] at hb ⊢
    rw [bl_succ] at hb
    obtain ⟨b1, b2, b3, b4, b5⟩ := hb
    have hkk := b1.1
    refine ⟨by unfold okP; simpa using b1, fun s hs => ?_⟩
    unfold stepsP at hs
    split at hs
    · rename_i hk
      rw [List.mem_singleton] at hs; subst hs
      simpa [blP] using b2 (by rw [hkk]; exact hk)
    split at hs
    · rename_i hk
      rcases hk with hk | hk
      · rw [hk] at hs
        rcases List.mem_cons.1 hs with rfl | hs
        · simpa [blP] using (b3 (by rw [hkk]; exact hk)).1
        · rw [List.mem_singleton] at hs; subst hs
          simpa [blP] using (b3 (by rw [hkk]; exact hk)).2
      · rw [hk] at hs
        rcases List.mem_cons.1 hs with rfl | hs
        · simpa [blP] using (b4 (by rw [hkk]; exact hk)).1
        · rw [List.mem_singleton] at hs; subst hs
          simpa [blP] using (b4 (by rw [hkk]; exact hk)).2
    · obtain ⟨x, l, hx, hm, rfl⟩ := mem_lab.1 hs
      have h1 := idxB_lt hm
      have := b5 _ x l (by rw [List.getElem?_eq_getElem h1, idxB_at h1]) hx
      simpa [blP] using this
end Go.Proofs.YtnedgkcejlhnbaaDoor
