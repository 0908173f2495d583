/-
  Plain mathematics: which is below which (GAY, HOLE), up to each depth: it is an order; the search that tells it.
-/
import Derived.Test.YthhbbhijpkoelaaDoorIc
namespace Go.Proofs.YthhbbhijpkoelaaDoor

/-- which is below which, up to a depth -/
def bl : Nat → List Nd → List Nd → Nat → Nat → Prop
  | 0, _, _, _, _ => True
  | k + 1, g, h, i, j => okI (nodeAt g i) (nodeAt h j) ∧ ((nodeAt g i).kind = 2 ∨ (nodeAt g i).kind = 3 → bl k g h (toAt (nodeAt g i) 0) (toAt (nodeAt h j) 0)) ∧
    ((nodeAt g i).kind = 4 → bl k h g (toAt (nodeAt h j) 0) (toAt (nodeAt g i) 0) ∧ bl k g h (toAt (nodeAt g i) 1) (toAt (nodeAt h j) 1)) ∧
    ((nodeAt g i).kind = 5 → bl k g h (toAt (nodeAt g i) 0) (toAt (nodeAt h j) 0) ∧ bl k g h (toAt (nodeAt g i) 1) (toAt (nodeAt h j) 1)) ∧
    ∀ (x y : Nat) (l : ByteArray), (nodeAt g i).labs[x]? = some l → (nodeAt h j).labs[y]? = some l → bl k g h (toAt (nodeAt g i) x) (toAt (nodeAt h j) y)
theorem bl_succ (k : Nat) (g h : List Nd) (i j : Nat) : bl (k + 1) g h i j ↔ okI (nodeAt g i) (nodeAt h j) ∧ ((nodeAt g i).kind = 2 ∨ (nodeAt g i).kind = 3 → bl k g h (toAt (nodeAt g i) 0) (toAt (nodeAt h j) 0)) ∧
    ((nodeAt g i).kind = 4 → bl k h g (toAt (nodeAt h j) 0) (toAt (nodeAt g i) 0) ∧ bl k g h (toAt (nodeAt g i) 1) (toAt (nodeAt h j) 1)) ∧
    ((nodeAt g i).kind = 5 → bl k g h (toAt (nodeAt g i) 0) (toAt (nodeAt h j) 0) ∧ bl k g h (toAt (nodeAt g i) 1) (toAt (nodeAt h j) 1)) ∧
    ∀ (x y : Nat) (l : ByteArray), (nodeAt g i).labs[x]? = some l → (nodeAt h j).labs[y]? = some l → bl k g h (toAt (nodeAt g i) x) (toAt (nodeAt h j) y) := Iff.rfl
/-- a graph whose nodes are as Check lets them by -/
structure GN (g : List Nd) : Prop where
  pos : 0 < g.length
  le : g.length ≤ 200
  ok : ∀ n ∈ g, okN n
  shut : shutG g
theorem GN.at_ {g : List Nd} (h : GN g) {i : Nat} (hi : i < g.length) : okN (nodeAt g i) := by rw [nodeAt_lt g i hi]; exact h.ok _ (List.getElem_mem hi)
theorem GN.to_ {g : List Nd} (h : GN g) {i : Nat} (x : Nat) (hx : x < (nodeAt g i).to.length) : toAt (nodeAt g i) x < g.length := by
  unfold toAt
  rw [List.getElem?_eq_getElem hx]
  exact shut_at h.shut i _ (List.getElem_mem hx)
theorem GN.gr {g : List Nd} (h : GN g) : GR1 g := ⟨h.pos, by have := h.le; omega, fun n hn => okN_shp (h.ok n hn), h.shut⟩
/-- how many To a node has -/
theorem okN_len {n : Nd} (h : okN n) : (n.kind = 2 ∨ n.kind = 3 → 0 < n.to.length) ∧ (n.kind = 4 ∨ n.kind = 5 → 1 < n.to.length) ∧ (∀ x, x < n.labs.length → x < n.to.length) := by
  rcases okN_cases h with ⟨h1, _, h3, h4⟩ | ⟨h1, _, h3, h4⟩ | ⟨h1, _, h3, h4⟩ | ⟨h1, _, h3, h4⟩
  · exact ⟨fun _ => by omega, fun _ => by omega, fun x hx => by rw [h3] at hx; simp at hx⟩
  · exact ⟨fun _ => by omega, fun _ => by omega, fun x hx => by rw [h3] at hx; simp at hx⟩
  · exact ⟨fun _ => by omega, fun _ => by omega, fun x hx => by rw [h3] at hx; simp at hx⟩
  · exact ⟨fun _ => by omega, fun _ => by omega, fun x hx => by omega⟩
theorem okI_trans {m n p : Nd} (h : okI m n) (h2 : okI n p) : okI m p := by
  obtain ⟨a1, a2, a3⟩ := h
  obtain ⟨b1, b2, b3⟩ := h2
  refine ⟨a1.trans b1, a2.trans b2, ?_⟩
  rw [← a1] at b3
  split
  · rename_i h7; rw [if_pos h7] at a3 b3; exact fun l hl => b3 l (a3 l hl)
  · rename_i h7; rw [if_neg h7] at a3 b3; exact fun l hl => a3 l (b3 l hl)
theorem bl_trans : ∀ (k : Nat) (f g h : List Nd) (i j l : Nat), bl k f g i j → bl k g h j l → bl k f h i l
  | 0, _, _, _, _, _, _, _, _ => trivial
  | k + 1, f, g, h, i, j, l, h1, h2 => by
    rw [bl_succ] at h1 h2 ⊢
    obtain ⟨a1, a2, a3, a4, a5⟩ := h1
    obtain ⟨b1, b2, b3, b4, b5⟩ := h2
    have hk := a1.1
    refine ⟨okI_trans a1 b1, fun h => ?_, fun h => ?_, fun h => ?_, fun x z lb hx hz => ?_⟩
    · exact bl_trans k _ _ _ _ _ _ (a2 h) (b2 (by rw [← hk]; exact h))
    · exact ⟨bl_trans k _ _ _ _ _ _ (b3 (by rw [← hk]; exact h)).1 (a3 h).1, bl_trans k _ _ _ _ _ _ (a3 h).2 (b3 (by rw [← hk]; exact h)).2⟩
    · exact ⟨bl_trans k _ _ _ _ _ _ (a4 h).1 (b4 (by rw [← hk]; exact h)).1, bl_trans k _ _ _ _ _ _ (a4 h).2 (b4 (by rw [← hk]; exact h)).2⟩
    · have hm : lb ∈ (nodeAt g j).labs := by
        by_cases h7 : (nodeAt f i).kind = 7
        · have := a1.2.2; rw [if_pos h7] at this; exact this lb (List.mem_of_getElem? hx)
        · have := b1.2.2; rw [← hk, if_neg h7] at this; exact this lb (List.mem_of_getElem? hz)
      obtain ⟨y, hy, e⟩ := List.mem_iff_getElem.1 hm
      have hy' : (nodeAt g j).labs[y]? = some lb := by rw [List.getElem?_eq_getElem hy, e]
      exact bl_trans k _ _ _ _ _ _ (a5 x y lb hx hy') (b5 y z lb hy' hz)
theorem rises_idx {ls : List ByteArray} (h : rises ls) {x y : Nat} {l : ByteArray} (hx : ls[x]? = some l) (hy : ls[y]? = some l) : x = y := by
  obtain ⟨h1, e1⟩ := List.getElem?_eq_some_iff.1 hx
  obtain ⟨h2, e2⟩ := List.getElem?_eq_some_iff.1 hy
  exact rises_inj h h1 h2 (e1.trans e2.symm)
theorem to_alike {g h : List Nd} {k i j : Nat} (e : (nodeAt g i).to.map (gT g k) = (nodeAt h j).to.map (gT h k)) {x : Nat} (hx : x < (nodeAt g i).to.length) : gT g k (toAt (nodeAt g i) x) = gT h k (toAt (nodeAt h j) x) := by
  have hl : (nodeAt g i).to.length = (nodeAt h j).to.length := by have := congrArg List.length e; simpa using this
  have := List.getElem_of_eq e (i := x) (by simpa using hx)
  unfold toAt
  rw [List.getElem?_eq_getElem hx, List.getElem?_eq_getElem (by omega)]
  simpa using this
/-- what does the same is below -/
theorem bl_alike : ∀ (k : Nat) (g h : List Nd) (i j : Nat), GN g → GN h → i < g.length → j < h.length → gT g k i = gT h k j → bl k g h i j
  | 0, _, _, _, _, _, _, _, _, _ => trivial
  | k + 1, g, h, i, j, hg, hh, hi, hj, e => by
    rw [gT_eq_iff] at e
    obtain ⟨e1, e2, e3, e4⟩ := e
    have ng := hg.at_ hi
    have nh := hh.at_ hj
    have lg := okN_len ng
    have lh := okN_len nh
    rw [bl_succ]
    refine ⟨⟨e1, e2, by rw [e3]; split <;> exact fun l hl => hl⟩, fun h' => ?_, fun h' => ?_, fun h' => ?_, fun x y lb hx hy => ?_⟩
    · exact bl_alike k g h _ _ hg hh (hg.to_ 0 (lg.1 h')) (hh.to_ 0 (lh.1 (by rw [← e1]; exact h'))) (to_alike e4 (lg.1 h'))
    · have q := lg.2.1 (.inl h')
      have q2 := lh.2.1 (by rw [← e1]; exact .inl h')
      exact ⟨bl_alike k h g _ _ hh hg (hh.to_ 0 (by omega)) (hg.to_ 0 (by omega)) (to_alike e4 (by omega)).symm, bl_alike k g h _ _ hg hh (hg.to_ 1 q) (hh.to_ 1 q2) (to_alike e4 q)⟩
    · have q := lg.2.1 (.inr h')
      have q2 := lh.2.1 (by rw [← e1]; exact .inr h')
      exact ⟨bl_alike k g h _ _ hg hh (hg.to_ 0 (by omega)) (hh.to_ 0 (by omega)) (to_alike e4 (by omega)), bl_alike k g h _ _ hg hh (hg.to_ 1 q) (hh.to_ 1 q2) (to_alike e4 q)⟩
    · rw [← e3] at hy
      obtain rfl := rises_idx (okN_rises ng) hx hy
      have q := lg.2.2 x (List.getElem?_eq_some_iff.1 hx).1
      have hl : (nodeAt g i).to.length = (nodeAt h j).to.length := by have := congrArg List.length e4; simpa using this
      exact bl_alike k g h _ _ hg hh (hg.to_ x q) (hh.to_ x (by omega)) (to_alike e4 q)
/-! ### The search -/
abbrev Pl := Nat × Nat × Bool
abbrev Stp := ByteArray × Pl
abbrev Av := Stp × Nat
def dotB : ByteArray := ⟨#[46]⟩
def capB : ByteArray := ⟨#[94]⟩
def labAtN (n : Nd) (i : Nat) : ByteArray := (n.labs[i]?).getD ⟨#[]⟩
def idxB (ls : List ByteArray) (l : ByteArray) : Nat := ls.findIdx fun x => decide (x = l)
theorem idxB_lt {ls : List ByteArray} {l : ByteArray} (h : l ∈ ls) : idxB ls l < ls.length := List.findIdx_lt_length_of_exists ⟨l, h, by simp⟩
theorem idxB_at {ls : List ByteArray} {l : ByteArray} (h : idxB ls l < ls.length) : ls[idxB ls l] = l := by
  have := List.findIdx_getElem (w := h)
  rw [decide_eq_true_eq] at this
  exact this
def labSt (m n : Nd) (t : Bool) (i : Nat) : Option Stp := if hasN n.labs (labAtN m i) = true then some (labAtN m i, toAt m i, toAt n (idxB n.labs (labAtN m i)), t) else none
def stepsP (m n : Nd) (t : Bool) : List Stp :=
  if m.kind = 2 ∨ m.kind = 3 then [(dotB, toAt m 0, toAt n 0, t)]
  else if m.kind = 4 ∨ m.kind = 5 then [(capB, toAt m 0, toAt n 0, t != decide (m.kind = 4)), (dotB, toAt m 1, toAt n 1, t)]
  else (List.range m.labs.length).filterMap (labSt m n t)
def okP (g h : List Nd) (p : Pl) : Prop := if p.2.2 = true then okI (nodeAt h p.2.1) (nodeAt g p.1) else okI (nodeAt g p.1) (nodeAt h p.2.1)
def blP (g h : List Nd) (k : Nat) (p : Pl) : Prop := if p.2.2 = true then bl k h g p.2.1 p.1 else bl k g h p.1 p.2.1
theorem mem_lab {m n : Nd} {t : Bool} {s : Stp} : s ∈ (List.range m.labs.length).filterMap (labSt m n t) ↔ ∃ x l, m.labs[x]? = some l ∧ l ∈ n.labs ∧ s = (l, toAt m x, toAt n (idxB n.labs l), t) := by
  rw [List.mem_filterMap]
  constructor
  · rintro ⟨x, hx, e⟩
    have hx' : x < m.labs.length := List.mem_range.1 hx
    have el : labAtN m x = m.labs[x] := by unfold labAtN; rw [List.getElem?_eq_getElem hx']; rfl
    unfold labSt at e
    rw [el] at e
    split at e
    · rename_i hm
      exact ⟨x, m.labs[x], List.getElem?_eq_getElem hx', (hasN_iff _ _).1 hm, (Option.some.inj e).symm⟩
    · cases e
  · rintro ⟨x, l, hx, hm, rfl⟩
    obtain ⟨hx', e⟩ := List.getElem?_eq_some_iff.1 hx
    have el : labAtN m x = l := by unfold labAtN; rw [hx]; rfl
    exact ⟨x, List.mem_range.2 hx', by unfold labSt; rw [el, if_pos ((hasN_iff _ _).2 hm)]⟩
theorem idx_rises {ls : List ByteArray} (h : rises ls) {y : Nat} {l : ByteArray} (hy : ls[y]? = some l) : idxB ls l = y := by
  have hm := List.mem_of_getElem? hy
  have h1 := idxB_lt hm
  have h2 := idxB_at h1
  obtain ⟨h3, e⟩ := List.getElem?_eq_some_iff.1 hy
  exact rises_inj h h1 h3 (h2.trans e.symm)
/-- a place is right one depth further, if what comes next is -/
theorem blP_step {g h : List Nd} (hg : GN g) (hh : GN h) {p : Pl} (h1 : p.1 < g.length) (h2 : p.2.1 < h.length) {k : Nat} (ho : okP g h p) (hs : ∀ s ∈ stepsP (nodeAt g p.1) (nodeAt h p.2.1) p.2.2, blP g h k s.2) : blP g h (k + 1) p := by
  obtain ⟨a, b, t⟩ := p
  have ra := okN_rises (hg.at_ h1)
  have rb := okN_rises (hh.at_ h2)
  have oa := okN_cases (hg.at_ h1)
  simp only at hs ra rb oa h1 h2
  have hnl : (nodeAt g a).kind = 2 ∨ (nodeAt g a).kind = 3 ∨ (nodeAt g a).kind = 4 ∨ (nodeAt g a).kind = 5 → (nodeAt g a).labs = [] := fun hk => by
    rcases oa with ⟨_, _, h, _⟩ | ⟨_, _, h, _⟩ | ⟨_, _, h, _⟩ | ⟨h, _⟩
    · exact h
    · exact h
    · exact h
    · omega
  cases t with
  | false =>
    unfold okP at ho
    unfold blP
    simp only [Bool.false_eq_true, if_false] at ho ⊢
    rw [bl_succ]
    unfold stepsP at hs
    refine ⟨ho, fun hk => ?_, fun hk => ?_, fun hk => ?_, fun x y l hx hy => ?_⟩
    · rw [if_pos hk] at hs
      have := hs _ (.head _)
      simpa [blP] using this
    · rw [if_neg (by omega), if_pos (.inl hk)] at hs
      have q1 := hs _ (.head _)
      have q2 := hs _ (.tail _ (.head _))
      rw [hk] at q1
      exact ⟨by simpa [blP] using q1, by simpa [blP] using q2⟩
    · rw [if_neg (by omega), if_pos (.inr hk)] at hs
      have q1 := hs _ (.head _)
      have q2 := hs _ (.tail _ (.head _))
      rw [hk] at q1
      exact ⟨by simpa [blP] using q1, by simpa [blP] using q2⟩
    · have hk : ¬ ((nodeAt g a).kind = 2 ∨ (nodeAt g a).kind = 3) ∧ ¬ ((nodeAt g a).kind = 4 ∨ (nodeAt g a).kind = 5) := by
        constructor <;> intro hk <;> (rw [hnl (by omega)] at hx; simp at hx)
      rw [if_neg hk.1, if_neg hk.2] at hs
      have := hs _ (mem_lab.2 ⟨x, l, hx, List.mem_of_getElem? hy, rfl⟩)
      rw [idx_rises rb hy] at this
      simpa [blP] using this
  | true =>
    unfold okP at ho
    unfold blP
    simp only [if_true] at ho ⊢
    rw [bl_succ]
    unfold stepsP at hs
    have hkk := ho.1
    refine ⟨ho, fun hk => ?_, fun hk => ?_, fun hk => ?_, fun x y l hx hy => ?_⟩
    · rw [hkk] at hk
      rw [if_pos hk] at hs
      have := hs _ (.head _)
      simpa [blP] using this
    · rw [hkk] at hk
      rw [if_neg (by omega), if_pos (.inl hk)] at hs
      have q1 := hs _ (.head _)
      have q2 := hs _ (.tail _ (.head _))
      rw [hk] at q1
      exact ⟨by simpa [blP] using q1, by simpa [blP] using q2⟩
    · rw [hkk] at hk
      rw [if_neg (by omega), if_pos (.inr hk)] at hs
      have q1 := hs _ (.head _)
      have q2 := hs _ (.tail _ (.head _))
      rw [hk] at q1
      exact ⟨by simpa [blP] using q1, by simpa [blP] using q2⟩
    · have hk : ¬ ((nodeAt g a).kind = 2 ∨ (nodeAt g a).kind = 3) ∧ ¬ ((nodeAt g a).kind = 4 ∨ (nodeAt g a).kind = 5) := by
        constructor <;> intro hk <;> (rw [hnl (by omega)] at hy; simp at hy)
      rw [if_neg hk.1, if_neg hk.2] at hs
      have := hs _ (mem_lab.2 ⟨y, l, hy, List.mem_of_getElem? hx, rfl⟩)
      rw [idx_rises rb hx] at this
      simpa [blP] using this
/-- and the other way round -/
theorem blP_next {g h : List Nd} {p : Pl} {k : Nat} (hb : blP g h (k + 1) p) : okP g h p ∧ ∀ s ∈ stepsP (nodeAt g p.1) (nodeAt h p.2.1) p.2.2, blP g h k s.2 := by
  obtain ⟨a, b, t⟩ := p
  cases t with
  | false =>
    unfold blP at hb
    simp only [Bool.false_eq_true, if_false] at hb ⊢
    rw [bl_succ] at hb
    obtain ⟨b1, b2, b3, b4, b5⟩ := hb
    refine ⟨by unfold okP; simpa using b1, fun s hs => ?_⟩
    unfold stepsP at hs
    split at hs
    · rename_i hk
      rw [List.mem_singleton] at hs; subst hs
      simpa [blP] using b2 hk
    split at hs
    · rename_i hk
      rcases hk with hk | hk
      · rw [hk] at hs
        rcases List.mem_cons.1 hs with rfl | hs
        · simpa [blP] using (b3 hk).1
        · rw [List.mem_singleton] at hs; subst hs
          simpa [blP] using (b3 hk).2
      · rw [hk] at hs
        rcases List.mem_cons.1 hs with rfl | hs
        · simpa [blP] using (b4 hk).1
        · rw [List.mem_singleton] at hs; subst hs
          simpa [blP] using (b4 hk).2
    · obtain ⟨x, l, hx, hm, rfl⟩ := mem_lab.1 hs
      have h1 := idxB_lt hm
      have := b5 x _ l hx (by rw [List.getElem?_eq_getElem h1, idxB_at h1])
      simpa [blP] using this
  | true =>
    unfold blP at hb
    simp only [if_true] at hb ⊢
    rw [bl_succ] at hb
    obtain ⟨b1, b2, b3, b4, b5⟩ := hb
    have hkk := b1.1
    refine ⟨by unfold okP; simpa using b1, fun s hs => ?_⟩
    unfold stepsP at hs
    split at hs
    · rename_i hk
      rw [List.mem_singleton] at hs; subst hs
      simpa [blP] using b2 (by rw [hkk]; exact hk)
    split at hs
    · rename_i hk
      rcases hk with hk | hk
      · rw [hk] at hs
        rcases List.mem_cons.1 hs with rfl | hs
        · simpa [blP] using (b3 (by rw [hkk]; exact hk)).1
        · rw [List.mem_singleton] at hs; subst hs
          simpa [blP] using (b3 (by rw [hkk]; exact hk)).2
      · rw [hk] at hs
        rcases List.mem_cons.1 hs with rfl | hs
        · simpa [blP] using (b4 (by rw [hkk]; exact hk)).1
        · rw [List.mem_singleton] at hs; subst hs
          simpa [blP] using (b4 (by rw [hkk]; exact hk)).2
    · obtain ⟨x, l, hx, hm, rfl⟩ := mem_lab.1 hs
      have h1 := idxB_lt hm
      have := b5 _ x l (by rw [List.getElem?_eq_getElem h1, idxB_at h1]) hx
      simpa [blP] using this
end Go.Proofs.YthhbbhijpkoelaaDoor
