/-
  Plain mathematics: classes that are split no more are those of nodes that do the same, for ever.
-/
import Derived.Test.YtnedgkcejlhnbaaDoorHa
namespace Go.Proofs.YtnedgkcejlhnbaaDoor

/-- classes by what nodes do up to a depth -/
def patG (g : List Nd) (k : Nat) (c : List Nat) : Prop := c.length = g.length ∧ ∀ i j, i < g.length → j < g.length → (clAt c i = clAt c j ↔ gT g k i = gT g k j)
/-- classes by what nodes do for ever -/
structure CLS (g : List Nd) (c : List Nat) : Prop where
  len : c.length = g.length
  lt : ∀ i, i < g.length → clAt c i < g.length
  eq : ∀ i j, i < g.length → j < g.length → (clAt c i = clAt c j ↔ alikeG g g i j)
theorem pat_zero (g : List Nd) : patG g 0 (List.replicate g.length 0) := by
  refine ⟨by simp, fun i j hi hj => ⟨fun _ => rfl, fun _ => ?_⟩⟩
  unfold clAt
  rw [List.getElem?_eq_getElem (by simpa using hi), List.getElem?_eq_getElem (by simpa using hj)]
  simp
theorem cnt_zero : ∀ n, 0 < n → cnt (List.replicate n 0) = 1
  | 1, _ => by rfl
  | n + 2, _ => by
    rw [List.replicate_succ', cnt_snoc, cnt_zero (n + 1) (by omega), if_pos (by simp)]
theorem labs_inj (l l' : List ByteArray) : l.map (·.data.toList) = l'.map (·.data.toList) ↔ l = l' := by
  constructor
  · intro h
    refine (List.map_inj_right ?_).1 h
    intro a b e
    exact ByteArray.ext (Array.toList_inj.1 e)
  · intro h; rw [h]
theorem pat_split {g : List Nd} (hs : shutG g) {k : Nat} {c : List Nat} (h : patG g k c) : patG g (k + 1) (splitG g c).2 := by
  refine ⟨(split_inv g c).len, fun i j hi hj => ?_⟩
  rw [split_eq g c i j hi hj, gT_eq_iff, nodeAt_lt g i hi, nodeAt_lt g j hj]
  unfold keyOfN
  simp only [Prod.mk.injEq, labs_inj]
  refine and_congr_right fun _ => and_congr_right fun _ => and_congr_right fun _ => ⟨fun e => ?_, fun e => ?_⟩
  · exact map_eq_of2 _ _ _ _ _ _ (fun a ha b hb hab => (h.2 a b (hs _ (List.getElem_mem hi) a ha) (hs _ (List.getElem_mem hj) b hb)).1 hab) e
  · exact map_eq_of2 _ _ _ _ _ _ (fun a ha b hb hab => (h.2 a b (hs _ (List.getElem_mem hi) a ha) (hs _ (List.getElem_mem hj) b hb)).2 hab) e
theorem count_imp {α : Type} (p q : α → Bool) : ∀ l : List α, (∀ a ∈ l, p a = true → q a = true) → l.countP p = l.countP q → ∀ a ∈ l, q a = true → p a = true
  | [], _, _, a, ha, _ => by cases ha
  | x :: l, h, e, a, ha, hq => by
    have hm := List.countP_mono_left (fun a ha => h a (List.mem_cons_of_mem x ha))
    rw [List.countP_cons, List.countP_cons] at e
    have hx := h x (.head _)
    by_cases h1 : p x = true
    · rw [if_pos h1, if_pos (hx h1)] at e
      rcases List.mem_cons.1 ha with rfl | ha
      · exact h1
      · exact count_imp p q l (fun a ha => h a (.tail _ ha)) (by omega) a ha hq
    · by_cases h2 : q x = true
      · rw [if_neg h1, if_pos h2] at e; omega
      · rw [if_neg h1, if_neg h2] at e
        rcases List.mem_cons.1 ha with rfl | ha
        · exact absurd hq h2
        · exact count_imp p q l (fun a ha => h a (.tail _ ha)) (by omega) a ha hq
theorem mem_take (c : List Nat) (i : Nat) (hi : i < c.length) (x : Nat) : x ∈ c.take i ↔ ∃ j, j < i ∧ clAt c j = x := by
  rw [List.mem_iff_getElem]
  constructor
  · rintro ⟨j, hj, rfl⟩
    have hj' : j < i ∧ j < c.length := by rw [List.length_take] at hj; omega
    refine ⟨j, hj'.1, ?_⟩
    unfold clAt
    rw [List.getElem?_eq_getElem hj'.2, List.getElem_take]; rfl
  · rintro ⟨j, hj, rfl⟩
    have hjl : j < c.length := by omega
    refine ⟨j, by simp; omega, ?_⟩
    unfold clAt
    rw [List.getElem?_eq_getElem hjl, List.getElem_take]; rfl
/-- a first one of each class -/
theorem first_of (f : List Nat) : ∀ i, i < f.length → ∃ r, r ≤ i ∧ clAt f r = clAt f i ∧ clAt f r ∉ f.take r := by
  intro i
  induction i using Nat.strongRecOn with
  | _ i ih =>
    intro hi
    by_cases h : clAt f i ∈ f.take i
    · obtain ⟨j, hj, e⟩ := (mem_take f i hi _).1 h
      obtain ⟨r, hr, er, hf⟩ := ih j hj (by omega)
      exact ⟨r, by omega, er.trans e, hf⟩
    · exact ⟨i, Nat.le_refl _, rfl, h⟩
theorem cnt_stable (c f : List Nat) (hl : f.length = c.length) (href : ∀ i j, i < c.length → j < c.length → clAt f i = clAt f j → clAt c i = clAt c j) (hcnt : cnt f = cnt c) (i j : Nat) (hi : i < c.length) (hj : j < c.length) (e : clAt c i = clAt c j) : clAt f i = clAt f j := by
  have himp : ∀ r, r < c.length → clAt c r ∉ c.take r → clAt f r ∉ f.take r := by
    intro r hr h hm
    obtain ⟨q, hq, eq⟩ := (mem_take f r (by omega) _).1 hm
    exact h ((mem_take c r hr _).2 ⟨q, hq, href q r (by omega) hr eq⟩)
  have hback : ∀ r, r < c.length → clAt f r ∉ f.take r → clAt c r ∉ c.take r := by
    unfold cnt at hcnt
    rw [hl] at hcnt
    have := count_imp (fun i => decide ((c[i]?).getD 0 ∉ c.take i)) (fun i => decide ((f[i]?).getD 0 ∉ f.take i)) (List.range c.length) (fun a ha h => by
      have ha' : a < c.length := by simpa using ha
      exact decide_eq_true (himp a ha' (of_decide_eq_true h))) hcnt.symm
    intro r hr h
    exact of_decide_eq_true (this r (by simpa using hr) (decide_eq_true h))
  obtain ⟨r, hr, er, hfr⟩ := first_of f i (by omega)
  obtain ⟨q, hq, eq, hfq⟩ := first_of f j (by omega)
  have h1 := hback r (by omega) hfr
  have h2 := hback q (by omega) hfq
  have ec : clAt c r = clAt c q := (href r i (by omega) hi er).trans (e.trans (href q j (by omega) hj eq).symm)
  have : r = q := by
    rcases Nat.lt_trichotomy r q with h | h | h
    · exact absurd ((mem_take c q (by omega) _).2 ⟨r, h, ec⟩) h2
    · exact h
    · exact absurd ((mem_take c r (by omega) _).2 ⟨q, h, ec.symm⟩) h1
  subst this
  exact er.symm.trans eq
theorem cnt_le (c : List Nat) : cnt c ≤ c.length := by
  unfold cnt
  refine Nat.le_trans List.countP_le_length ?_
  simp
theorem cnt_mono (c f : List Nat) (hl : f.length = c.length) (href : ∀ i j, i < c.length → j < c.length → clAt f i = clAt f j → clAt c i = clAt c j) : cnt c ≤ cnt f := by
  unfold cnt
  rw [hl]
  refine List.countP_mono_left fun a ha h => ?_
  have ha' : a < c.length := by simpa using ha
  refine decide_eq_true fun hm => of_decide_eq_true h ?_
  obtain ⟨q, hq, eq⟩ := (mem_take f a (by omega) _).1 hm
  exact (mem_take c a ha' _).2 ⟨q, hq, href q a (by omega) ha' eq⟩
theorem pat_refine {g : List Nd} {k : Nat} {c f : List Nat} (hc : patG g k c) (hf : patG g (k + 1) f) : ∀ i j, i < c.length → j < c.length → clAt f i = clAt f j → clAt c i = clAt c j := by
  intro i j hi hj e
  rw [hc.1] at hi hj
  exact (hc.2 i j hi hj).2 (gT_down g g k i j ((hf.2 i j hi hj).1 e))
/-- a round that splits nothing is the last -/
theorem cls_done {g : List Nd} (hs : shutG g) {k : Nat} {c : List Nat} (hc : patG g k c) (he : (splitG g c).1.length = cnt c) : CLS g (splitG g c).2 := by
  have hf := pat_split hs hc
  have hl : (splitG g c).2.length = c.length := by rw [hf.1, hc.1]
  have href := pat_refine hc hf
  have hcn := (split_inv g c).cn
  have hst := cnt_stable c (splitG g c).2 hl href (by omega)
  have hup : ∀ m i j, i < g.length → j < g.length → gT g k i = gT g k j → gT g (k + m) i = gT g (k + m) j := by
    intro m
    induction m with
    | zero => intro i j _ _ e; exact e
    | succ m ih =>
      intro i j hi hj e
      have e1 : gT g (k + 1) i = gT g (k + 1) j := (hf.2 i j hi hj).1 (hst i j (by rw [hc.1]; exact hi) (by rw [hc.1]; exact hj) ((hc.2 i j hi hj).2 e))
      rw [gT_eq_iff] at e1
      rw [← Nat.add_assoc, gT_eq_iff]
      refine ⟨e1.1, e1.2.1, e1.2.2.1, map_eq_of2 _ _ _ _ _ _ (fun a ha b hb hab => ih a b (shut_at hs i a ha) (shut_at hs j b hb) hab) e1.2.2.2⟩
  refine ⟨hf.1, fun i hi => ?_, fun i j hi hj => ⟨fun e m => ?_, fun e => (hf.2 i j hi hj).2 (e (k + 1))⟩⟩
  · have h1 := split_lt g c i hi
    have h2 := cnt_le c
    rw [hc.1] at h2
    omega
  · have e1 := hup m i j hi hj (gT_down g g k i j ((hf.2 i j hi hj).1 e))
    rw [Nat.add_comm] at e1
    exact gT_downs g g i j k m e1
/-- a round that splits something has more classes -/
theorem cls_more {g : List Nd} (hs : shutG g) {k : Nat} {c : List Nat} (hc : patG g k c) (hne : (splitG g c).1.length ≠ cnt c) : cnt c < (splitG g c).1.length ∧ (splitG g c).1.length ≤ g.length := by
  have hf := pat_split hs hc
  have hcn := (split_inv g c).cn
  have h1 := cnt_mono c (splitG g c).2 (by rw [hf.1, hc.1]) (pat_refine hc hf)
  have h2 := cnt_le (splitG g c).2
  rw [hf.1] at h2
  omega
end Go.Proofs.YtnedgkcejlhnbaaDoor
