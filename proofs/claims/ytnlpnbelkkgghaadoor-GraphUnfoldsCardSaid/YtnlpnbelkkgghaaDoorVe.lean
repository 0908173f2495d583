/-
  Plain mathematics: whether both ends get on, place by place; they do just if the one's other end is below the other one (PADOVANI).
-/
import Derived.Test.YtnlpnbelkkgghaaDoorJf
import Derived.Test.YtnlpnbelkkgghaaDoorHm
import Derived.Test.YtnlpnbelkkgghaaDoorHs
namespace Go.Proofs.YtnlpnbelkkgghaaDoor

abbrev Pc := Nat × Nat
def labSc (m n : Nd) (i : Nat) : Option (Sg Pc) := if hasN n.labs (labAtN m i) = true then some (labAtN m i, toAt m i, toAt n (idxB n.labs (labAtN m i))) else none
def stepsC (m n : Nd) : List (Sg Pc) :=
  if m.kind = 2 ∨ m.kind = 3 then [(dotB, toAt m 0, toAt n 0)]
  else if m.kind = 4 ∨ m.kind = 5 then [(dotB, toAt m 1, toAt n 1)]
  else (List.range m.labs.length).filterMap (labSc m n)
/-- getting on, without what comes next -/
def onB (g h : List Nd) (m n : Nd) : Bool :=
  if n.kind ≠ kdD m.kind ∨ n.so ≠ m.so then false
  else if m.kind = 4 then belB g h (toAt m 0) (toAt n 0)
  else if m.kind = 5 then belB h g (toAt n 0) (toAt m 0)
  else if m.kind = 6 then m.labs.all fun l => hasN n.labs l
  else if m.kind = 7 then n.labs.all fun l => hasN m.labs l
  else true
def failC (g h : List Nd) (p : Pc) : Bool := !onB g h (nodeAt g p.1) (nodeAt h p.2)
def nextC (g h : List Nd) (p : Pc) : List (Sg Pc) := stepsC (nodeAt g p.1) (nodeAt h p.2)
def okC (g h : List Nd) (p : Pc) : Prop := p.1 < g.length ∧ p.2 < h.length
def numC (h : Nat) (p : Pc) : Nat := p.1 * h + p.2
theorem mem_labC {m n : Nd} {s : Sg Pc} : s ∈ (List.range m.labs.length).filterMap (labSc m n) ↔ ∃ x l, m.labs[x]? = some l ∧ l ∈ n.labs ∧ s = (l, toAt m x, toAt n (idxB n.labs l)) := by
  rw [List.mem_filterMap]
  constructor
  · rintro ⟨x, hx, e⟩
    have hx' : x < m.labs.length := List.mem_range.1 hx
    have el : labAtN m x = m.labs[x] := by unfold labAtN; rw [List.getElem?_eq_getElem hx']; rfl
    unfold labSc at e
    rw [el] at e
    split at e
    · rename_i hm
      exact ⟨x, m.labs[x], List.getElem?_eq_getElem hx', (hasN_iff _ _).1 hm, (Option.some.inj e).symm⟩
    · cases e
  · rintro ⟨x, l, hx, hm, rfl⟩
    obtain ⟨hx', e⟩ := List.getElem?_eq_some_iff.1 hx
    have el : labAtN m x = l := by unfold labAtN; rw [hx]; rfl
    exact ⟨x, List.mem_range.2 hx', by unfold labSc; rw [el, if_pos ((hasN_iff _ _).2 hm)]⟩
theorem numC_lt {g h : Nat} {p : Pc} (h1 : p.1 < g) (h2 : p.2 < h) : numC h p < g * h := by
  unfold numC
  have := Nat.mul_le_mul_right h (show p.1 + 1 ≤ g from h1)
  rw [Nat.add_mul, Nat.one_mul] at this
  omega
theorem numC_inj {h : Nat} {p q : Pc} (h1 : p.2 < h) (h2 : q.2 < h) (e : numC h p = numC h q) : p = q := by
  obtain ⟨a, b⟩ := p
  obtain ⟨a', b'⟩ := q
  unfold numC at e
  simp only at e h1 h2
  have e2 : a = a' := by
    rcases Nat.lt_trichotomy a a' with hl | hl | hl
    · have := Nat.mul_le_mul_right h (show a + 1 ≤ a' from hl)
      rw [Nat.add_mul, Nat.one_mul] at this
      omega
    · exact hl
    · have := Nat.mul_le_mul_right h (show a' + 1 ≤ a from hl)
      rw [Nat.add_mul, Nat.one_mul] at this
      omega
  subst e2
  have e3 : b = b' := by omega
  rw [e3]
theorem kd_inv {n : Nd} (h : okN n) : kdD (kdD n.kind) = n.kind := by
  have a := okN_cases h
  have h1 : n.kind = 1 ∨ n.kind = 2 ∨ n.kind = 3 ∨ n.kind = 4 ∨ n.kind = 5 ∨ n.kind = 6 ∨ n.kind = 7 := by omega
  rcases h1 with h | h | h | h | h | h | h <;> (rw [h]; decide)
theorem kd_turn {m n : Nd} (_ : okN m) : n.kind = kdD m.kind → (m.kind = 2 → n.kind = 3) ∧ (m.kind = 3 → n.kind = 2) ∧ (m.kind = 4 → n.kind = 5) ∧ (m.kind = 5 → n.kind = 4) ∧ (m.kind = 6 → n.kind = 7) ∧ (m.kind = 7 → n.kind = 6) ∧ (m.kind = 1 → n.kind = 1) := by
  intro h
  have := kdD_cases m.kind
  rw [h]
  exact this
theorem on_parts {g h : List Nd} {m n : Nd} (ho : onB g h m n = true) : n.kind = kdD m.kind ∧ n.so = m.so ∧ (m.kind = 4 → belB g h (toAt m 0) (toAt n 0) = true) ∧ (m.kind = 5 → belB h g (toAt n 0) (toAt m 0) = true) ∧ (m.kind = 6 → ∀ l ∈ m.labs, l ∈ n.labs) ∧ (m.kind = 7 → ∀ l ∈ n.labs, l ∈ m.labs) := by
  unfold onB at ho
  by_cases h1 : n.kind ≠ kdD m.kind ∨ n.so ≠ m.so
  · rw [if_pos h1] at ho; cases ho
  rw [if_neg h1] at ho
  have a : n.kind = kdD m.kind := Decidable.byContradiction fun q => h1 (.inl q)
  have b : n.so = m.so := Decidable.byContradiction fun q => h1 (.inr q)
  refine ⟨a, b, fun hk => ?_, fun hk => ?_, fun hk => ?_, fun hk => ?_⟩
  · rw [if_pos hk] at ho; exact ho
  · rw [if_neg (by omega), if_pos hk] at ho; exact ho
  · rw [if_neg (by omega), if_neg (by omega), if_pos hk] at ho
    intro l hl
    exact (hasN_iff _ _).1 (List.all_eq_true.1 ho l hl)
  · rw [if_neg (by omega), if_neg (by omega), if_neg (by omega), if_pos hk] at ho
    intro l hl
    exact (hasN_iff _ _).1 (List.all_eq_true.1 ho l hl)
theorem on_of {g h : List Nd} {m n : Nd} (a : n.kind = kdD m.kind) (b : n.so = m.so) (h4 : m.kind = 4 → belB g h (toAt m 0) (toAt n 0) = true) (h5 : m.kind = 5 → belB h g (toAt n 0) (toAt m 0) = true) (h6 : m.kind = 6 → ∀ l ∈ m.labs, l ∈ n.labs) (h7 : m.kind = 7 → ∀ l ∈ n.labs, l ∈ m.labs) : onB g h m n = true := by
  unfold onB
  rw [if_neg (by rintro (q | q); exact q a; exact q b)]
  by_cases k4 : m.kind = 4
  · rw [if_pos k4]; exact h4 k4
  rw [if_neg k4]
  by_cases k5 : m.kind = 5
  · rw [if_pos k5]; exact h5 k5
  rw [if_neg k5]
  by_cases k6 : m.kind = 6
  · rw [if_pos k6]; exact List.all_eq_true.2 fun l hl => (hasN_iff _ _).2 (h6 k6 l hl)
  rw [if_neg k6]
  by_cases k7 : m.kind = 7
  · rw [if_pos k7]; exact List.all_eq_true.2 fun l hl => (hasN_iff _ _).2 (h7 k7 l hl)
  rw [if_neg k7]
theorem failC_on {g h : List Nd} {p : Pc} : failC g h p = false ↔ onB g h (nodeAt g p.1) (nodeAt h p.2) = true := by
  unfold failC
  cases onB g h (nodeAt g p.1) (nodeAt h p.2) <;> simp
theorem comply_wld {g h : List Nd} (hg : GN g) (hh : GN h) : WLD (failC g h) (nextC g h) (okC g h) (numC h.length) (g.length * h.length) := by
  refine ⟨fun p hp hf s hs => ?_, fun _ hp => numC_lt hp.1 hp.2, fun _ _ hp hq e => numC_inj hp.2 hq.2 e⟩
  obtain ⟨a, b, _, _, _, _⟩ := on_parts (failC_on.1 hf)
  have lg := okN_len (hg.at_ hp.1)
  have lh := okN_len (hh.at_ hp.2)
  have kt := kd_turn (hg.at_ hp.1) a
  unfold nextC stepsC at hs
  split at hs
  · rename_i hc
    rw [List.mem_singleton] at hs; subst hs
    exact ⟨hg.to_ 0 (lg.1 hc), hh.to_ 0 (lh.1 (by rcases hc with hc | hc; exact .inr (kt.1 hc); exact .inl (kt.2.1 hc)))⟩
  split at hs
  · rename_i hc
    rw [List.mem_singleton] at hs; subst hs
    exact ⟨hg.to_ 1 (lg.2.1 hc), hh.to_ 1 (lh.2.1 (by rcases hc with hc | hc; exact .inr (kt.2.2.1 hc); exact .inl (kt.2.2.2.1 hc)))⟩
  · obtain ⟨x, l, hx, hm, rfl⟩ := mem_labC.1 hs
    exact ⟨hg.to_ x (lg.2.2 x (List.getElem?_eq_some_iff.1 hx).1), hh.to_ _ (lh.2.2 _ (idxB_lt hm))⟩
theorem labs_nil {m : Nd} (h : okN m) (hk : ¬ (m.kind = 6 ∨ m.kind = 7)) : m.labs = [] := by
  rcases okN_cases h with ⟨_, _, h, _⟩ | ⟨_, _, h, _⟩ | ⟨_, _, h, _⟩ | ⟨h, _⟩
  · exact h
  · exact h
  · exact h
  · exact absurd h hk
theorem all_bl {g h : List Nd} (hg : GN g) (hh : GN h) (lh : h.length ≤ 100) : ∀ (n i j : Nat), i < g.length → j < h.length → (∀ N, allG (failC g h) (nextC g h) N (i, j)) → bl n (othG h) g j i
  | 0, _, _, _, _, _ => trivial
  | n + 1, i, j, hi, hj, H => by
    have ih := all_bl hg hh lh n
    have hO := oth_gn hh lh
    have ho : onB g h (nodeAt g i) (nodeAt h j) = true := failC_on.1 (H 1).1
    have hnx : ∀ s ∈ nextC g h (i, j), ∀ N, allG (failC g h) (nextC g h) N s.2 := fun s hs N => (H (N + 1)).2 s hs
    have hlt : ∀ s ∈ nextC g h (i, j), okC g h s.2 := fun s hs => (comply_wld hg hh).step (i, j) ⟨hi, hj⟩ (H 1).1 s hs
    obtain ⟨a, b, h4, h5, h6, h7⟩ := on_parts ho
    have om := hg.at_ hi
    have on := hh.at_ hj
    have kt := kd_turn om a
    have kv : kdD (nodeAt h j).kind = (nodeAt g i).kind := by rw [a]; exact kd_inv om
    have lm := okN_len om
    have ln := okN_len on
    have tl := fun (h : ¬ ((nodeAt g i).kind = 6 ∨ (nodeAt g i).kind = 7)) => labs_nil om h
    have tl2 := fun (h : ¬ ((nodeAt h j).kind = 6 ∨ (nodeAt h j).kind = 7)) => labs_nil on h
    have kd : (nodeAt g i).kind = 1 ∨ (nodeAt g i).kind = 2 ∨ (nodeAt g i).kind = 3 ∨ (nodeAt g i).kind = 4 ∨ (nodeAt g i).kind = 5 ∨ (nodeAt g i).kind = 6 ∨ (nodeAt g i).kind = 7 := by have := okN_cases om; omega
    rw [bl_succ, oth_at1 hj]
    refine ⟨⟨kv, b, ?_⟩, fun hk => ?_, fun hk => ?_, fun hk => ?_, fun x y l hx hy => ?_⟩
    · show if kdD (nodeAt h j).kind = 7 then ∀ l ∈ (nodeAt h j).labs, l ∈ (nodeAt g i).labs else ∀ l ∈ (nodeAt g i).labs, l ∈ (nodeAt h j).labs
      rw [kv]
      by_cases k7 : (nodeAt g i).kind = 7
      · rw [if_pos k7]; exact h7 k7
      · rw [if_neg k7]
        by_cases k6 : (nodeAt g i).kind = 6
        · exact h6 k6
        · rw [tl (by omega)]; intro l hl; cases hl
    · have hk' : (nodeAt g i).kind = 2 ∨ (nodeAt g i).kind = 3 := by rw [← kv]; exact hk
      have hs : ((dotB, toAt (nodeAt g i) 0, toAt (nodeAt h j) 0) : Sg Pc) ∈ nextC g h (i, j) := by unfold nextC stepsC; rw [if_pos hk']; exact .head _
      rw [tuL_x (by have := kt.1; have := kt.2.1; omega)]
      exact ih _ _ (hlt _ hs).1 (hlt _ hs).2 (hnx _ hs)
    · have hk' : (nodeAt g i).kind = 4 := by rw [← kv]; exact hk
      have hn5 := kt.2.2.1 hk'
      have hs : ((dotB, toAt (nodeAt g i) 1, toAt (nodeAt h j) 1) : Sg Pc) ∈ nextC g h (i, j) := by unfold nextC stepsC; rw [if_neg (by simp only; omega), if_pos (.inl hk')]; exact .head _
      obtain ⟨t0, t1⟩ := tuL_0 (N := h.length) (.inr hn5) (ln.2.1 (.inr hn5))
      rw [t0, t1]
      have m0 := hg.to_ 0 (i := i) (by have := lm.2.1 (.inl hk'); omega)
      have n0 := hh.to_ 0 (i := j) (by have := ln.2.1 (.inr hn5); omega)
      refine ⟨?_, ih _ _ (hlt _ hs).1 (hlt _ hs).2 (hnx _ hs)⟩
      exact (bl_resp hg hh hg hO m0 n0 m0 (by rw [oth_len]; omega) rfl (oth_kept hh n _ n0)).2 ((belB_iff hg hh m0 n0).1 (h4 hk') n)
    · have hk' : (nodeAt g i).kind = 5 := by rw [← kv]; exact hk
      have hn4 := kt.2.2.2.1 hk'
      have hs : ((dotB, toAt (nodeAt g i) 1, toAt (nodeAt h j) 1) : Sg Pc) ∈ nextC g h (i, j) := by unfold nextC stepsC; rw [if_neg (by simp only; omega), if_pos (.inr hk')]; exact .head _
      obtain ⟨t0, t1⟩ := tuL_0 (N := h.length) (.inl hn4) (ln.2.1 (.inl hn4))
      rw [t0, t1]
      have m0 := hg.to_ 0 (i := i) (by have := lm.2.1 (.inr hk'); omega)
      have n0 := hh.to_ 0 (i := j) (by have := ln.2.1 (.inl hn4); omega)
      refine ⟨?_, ih _ _ (hlt _ hs).1 (hlt _ hs).2 (hnx _ hs)⟩
      exact (bl_resp hh hg hO hg n0 m0 (by rw [oth_len]; omega) m0 (oth_kept hh n _ n0) rfl).2 ((belB_iff hh hg n0 m0).1 (h5 hk') n)
    · have hx' : (nodeAt h j).labs[x]? = some l := hx
      have hk : (nodeAt g i).kind = 6 ∨ (nodeAt g i).kind = 7 := Decidable.byContradiction fun q => by rw [tl q] at hy; simp at hy
      have hs : ((l, toAt (nodeAt g i) y, toAt (nodeAt h j) (idxB (nodeAt h j).labs l)) : Sg Pc) ∈ nextC g h (i, j) := by
        unfold nextC stepsC
        rw [if_neg (by simp only; omega), if_neg (by simp only; omega)]
        exact mem_labC.2 ⟨y, l, hy, List.mem_of_getElem? hx', rfl⟩
      have e := idx_rises (okN_rises on) hx'
      rw [e] at hs
      rw [tuL_x (by have := kt.2.2.2.2.1; have := kt.2.2.2.2.2.1; omega)]
      exact ih _ _ (hlt _ hs).1 (hlt _ hs).2 (hnx _ hs)
theorem bl_all {g h : List Nd} (hg : GN g) (hh : GN h) (lh : h.length ≤ 100) : ∀ (N i j : Nat), i < g.length → j < h.length → (∀ n, bl n (othG h) g j i) → allG (failC g h) (nextC g h) N (i, j)
  | 0, _, _, _, _, _ => trivial
  | N + 1, i, j, hi, hj, H => by
    have ih := bl_all hg hh lh N
    have hO := oth_gn hh lh
    have om := hg.at_ hi
    have on := hh.at_ hj
    have lm := okN_len om
    have ln := okN_len on
    have H' := fun n => (bl_succ n (othG h) g j i).1 (H (n + 1))
    rw [oth_at1 hj] at H'
    obtain ⟨⟨kv, b, hl⟩, _⟩ := H' 0
    have kv : kdD (nodeAt h j).kind = (nodeAt g i).kind := kv
    have a : (nodeAt h j).kind = kdD (nodeAt g i).kind := by rw [← kv]; exact (kd_inv on).symm
    have kt := kd_turn om a
    have hl : if kdD (nodeAt h j).kind = 7 then ∀ l ∈ (nodeAt h j).labs, l ∈ (nodeAt g i).labs else ∀ l ∈ (nodeAt g i).labs, l ∈ (nodeAt h j).labs := hl
    rw [kv] at hl
    have hf : failC g h (i, j) = false := by
      refine failC_on.2 (on_of a b (fun hk => ?_) (fun hk => ?_) (fun hk => ?_) (fun hk => ?_))
      · have hn5 := kt.2.2.1 hk
        have m0 := hg.to_ 0 (i := i) (by have := lm.2.1 (.inl hk); omega)
        have n0 := hh.to_ 0 (i := j) (by have := ln.2.1 (.inr hn5); omega)
        obtain ⟨t0, t1⟩ := tuL_0 (N := h.length) (.inr hn5) (ln.2.1 (.inr hn5))
        refine (belB_iff hg hh m0 n0).2 fun n => ?_
        have := ((H' n).2.2.1 (by show kdD _ = 4; rw [kv]; exact hk)).1
        rw [t0] at this
        exact (bl_resp hg hh hg hO m0 n0 m0 (by rw [oth_len]; omega) rfl (oth_kept hh n _ n0)).1 this
      · have hn4 := kt.2.2.2.1 hk
        have m0 := hg.to_ 0 (i := i) (by have := lm.2.1 (.inr hk); omega)
        have n0 := hh.to_ 0 (i := j) (by have := ln.2.1 (.inl hn4); omega)
        obtain ⟨t0, t1⟩ := tuL_0 (N := h.length) (.inl hn4) (ln.2.1 (.inl hn4))
        refine (belB_iff hh hg n0 m0).2 fun n => ?_
        have := ((H' n).2.2.2.1 (by show kdD _ = 5; rw [kv]; exact hk)).1
        rw [t0] at this
        exact (bl_resp hh hg hO hg n0 m0 (by rw [oth_len]; omega) m0 (oth_kept hh n _ n0) rfl).1 this
      · simp only at hk ⊢
        rw [if_neg (by omega)] at hl; exact hl
      · simp only at hk ⊢
        rw [if_pos hk] at hl; exact hl
    refine ⟨hf, fun s hs => ?_⟩
    have hlt : okC g h s.2 := (comply_wld hg hh).step (i, j) ⟨hi, hj⟩ hf s hs
    have go : (∀ n, bl n (othG h) g s.2.2 s.2.1) → allG (failC g h) (nextC g h) N s.2 := fun q => ih s.2.1 s.2.2 hlt.1 hlt.2 q
    refine go fun n => ?_
    unfold nextC stepsC at hs
    split at hs
    · rename_i hc
      rw [List.mem_singleton] at hs; subst hs
      have := (H' n).2.1 (by show kdD _ = 2 ∨ kdD _ = 3; rw [kv]; exact hc)
      simp only at hc
      rw [tuL_x (by have := kt.1; have := kt.2.1; omega)] at this
      exact this
    split at hs
    · rename_i hc
      rw [List.mem_singleton] at hs; subst hs
      simp only at hc
      rcases hc with hc | hc
      · have := ((H' n).2.2.1 (by show kdD _ = 4; rw [kv]; exact hc)).2
        rw [(tuL_0 (N := h.length) (.inr (kt.2.2.1 hc)) (ln.2.1 (.inr (kt.2.2.1 hc)))).2] at this
        exact this
      · have := ((H' n).2.2.2.1 (by show kdD _ = 5; rw [kv]; exact hc)).2
        rw [(tuL_0 (N := h.length) (.inl (kt.2.2.2.1 hc)) (ln.2.1 (.inl (kt.2.2.2.1 hc)))).2] at this
        exact this
    · rename_i hc1 hc2
      simp only at hc1 hc2
      obtain ⟨x, l, hx, hm, rfl⟩ := mem_labC.1 hs
      have h1 := idxB_lt hm
      have hx : (nodeAt g i).labs[x]? = some l := hx
      have hk : (nodeAt g i).kind = 6 ∨ (nodeAt g i).kind = 7 := Decidable.byContradiction fun q => by rw [labs_nil om q] at hx; simp at hx
      have := (H' n).2.2.2.2 _ x l (show (nodeAt h j).labs[_]? = some l by rw [List.getElem?_eq_getElem h1, idxB_at h1]) hx
      rw [tuL_x (by have := kt.2.2.2.2.1; have := kt.2.2.2.2.2.1; omega)] at this
      exact this
/-- the whole search -/
def srC (g h : List Nd) : Option Nat × List (Ag Pc) := srGA (failC g h) (nextC g h) (g.length * h.length) (0, 0)
theorem comply_iff {g h : List Nd} (hg : GN g) (hh : GN h) (lh : h.length ≤ 100) : (srC g h).1 = none ↔ ∀ n, bl n (othG h) g 0 0 := by
  unfold srC
  rw [srGA_all (comply_wld hg hh) ⟨hg.pos, hh.pos⟩]
  exact ⟨fun H n => all_bl hg hh lh n 0 0 hg.pos hh.pos H, fun H N => bl_all hg hh lh N 0 0 hg.pos hh.pos H⟩
end Go.Proofs.YtnlpnbelkkgghaaDoor
/-
  The search of package ways in memory, for the places of below.place: a map of those that are known, and the row of arrivals.
-/
namespace Go.Proofs.YtnlpnbelkkgghaaDoor
open Go.RowKit Go.Shelf

def pkB (p : Pl) : Value := .agg #[.int .i64 (p.1 : Int), .int .i64 (p.2.1 : Int), .bool p.2.2]
theorem pkB_inj {p q : Pl} (h : pkB p = pkB q) : p = q := by
  simp [pkB] at h
  exact Prod.ext (by omega) (Prod.ext (by omega) h.2.2)
theorem keyLawB : WideMaps.KeyLaw Tryd.prog 125 := deep_law_laid (m := 3) laidOutG (by decide) (of_decide_eq_true (by kernel_rfl)) (by kernel_rfl) (by kernel_rfl)
def smB (p : Pl) : Prop := p.1 ≤ 1000000 ∧ p.2.1 ≤ 1000000
theorem key_ofB (p : Pl) (h : smB p) : ∃ l, keyOf Tryd.prog 125 (pkB p) = some l := by
  have hm : Tryd.prog.types.size + 1 = (Tryd.prog.types.size - 1) + 2 := by kernel_rfl
  have c0 : Tryd.prog.cellsOf 125 = 3 := by kernel_rfl
  have c3 : Tryd.prog.cellsOf 3 = 1 := by kernel_rfl
  have c4 : Tryd.prog.cellsOf 4 = 1 := by kernel_rfl
  have kt : Tryd.prog.keyType 125 = true := by kernel_rfl
  unfold keyOf pkB
  rw [hm]
  generalize Tryd.prog.types.size - 1 = d
  have e3 := kl_int d (p.1 : Int) (by unfold in64z; have := h.1; omega)
  have e4 := kl_int d (p.2.1 : Int) (by unfold in64z; have := h.2; omega)
  have e5 : Tryd.prog.keyLits (d + 1) 4 [.bool p.2.2] = some [.bool p.2.2] := by simp [Program.keyLits, Tryd.underlying4]
  rw [Tryd.underlying125]
  simp only
  rw [if_pos]
  · rw [Program.keyLits.eq_def]
    simp only [Tryd.underlying125]
    simp [c0, c3, c4, Value.cells, e3, e4, e5]
  · rw [kt]
    simp [Value.formed]
    exact c0.symm
/-- a map that has just these places -/
def MPB (W : World) (mb : Nat) (ps : List Pl) : Prop := ∃ es clock, W.heap[mb]? = some (.map es clock) ∧ es.size = ps.length ∧ ∀ i (h : i < ps.length), ∃ e, es[i]? = some e ∧ e.key = pkB ps[i] ∧ e.val = .agg #[]
theorem mpB_keys {ps : List Pl} {es : Array MapEntry} (hsz : es.size = ps.length) (hes : ∀ i (h : i < ps.length), ∃ e, es[i]? = some e ∧ e.key = pkB ps[i] ∧ e.val = .agg #[]) (hk : ∀ p ∈ ps, smB p) : ∀ e ∈ es.toList, ∃ l, keyOf Tryd.prog 125 e.key = some l := by
  intro e he
  obtain ⟨i, hi, rfl⟩ := List.mem_iff_getElem.1 he
  have hi' : i < ps.length := by rw [← hsz]; simpa using hi
  obtain ⟨e', h1, h2, _⟩ := hes i hi'
  have : es.toList[i] = e' := by
    have h3 : es[i]? = some es.toList[i] := by
      rw [← Array.getElem?_toList]; exact List.getElem?_eq_getElem hi
    rw [h3] at h1; exact Option.some.inj h1
  rw [this, h2]
  exact key_ofB _ (hk _ (List.getElem_mem hi'))
theorem lookB_in {W : World} {mb : Nat} {ps : List Pl} (hm : MPB W mb ps) (hk : ∀ p ∈ ps, smB p) {p : Pl} (hp : p ∈ ps) :
    (Instr.lookup 221 (.map (some mb)) (pkB p) true).run Tryd.prog W = .ok (.tuple #[.agg #[], .bool true]) W := by
  obtain ⟨es, clock, hb, hsz, hes⟩ := hm
  have K := keyLawB
  obtain ⟨kl, hkey⟩ := key_ofB p (hk p hp)
  rcases K.find W hkey es.toList (mpB_keys hsz hes hk) with ⟨h1, h2⟩ | ⟨i, e0, h1, h2, h3⟩
  · obtain ⟨j, hj, e⟩ := List.mem_iff_getElem.1 hp
    obtain ⟨e, he, hek, _⟩ := hes j hj
    exact absurd (hek.trans (by rw [‹ps[j] = p›])) (h2 e (by rw [Array.mem_toList_iff, Array.mem_iff_getElem?]; exact ⟨j, he⟩))
  · have hil : i < ps.length := by
      have := (List.getElem?_eq_some_iff.1 h2).1
      rw [← hsz]; simpa using this
    obtain ⟨e, he, hek, hev⟩ := hes i hil
    have : e = e0 := by rw [← Array.getElem?_toList] at he; rw [he] at h2; exact Option.some.inj h2
    subst this
    rw [hev] at h1
    simp [Instr.lookup, run_underlying Tryd.underlying221, MapKept.run_getObj_map hb, K.check W _ hkey, h1, Result.andThen]
theorem lookB_out {W : World} {mb : Nat} {ps : List Pl} (hm : MPB W mb ps) (hk : ∀ p ∈ ps, smB p) {p : Pl} (hs : smB p) (hp : p ∉ ps) :
    (Instr.lookup 221 (.map (some mb)) (pkB p) true).run Tryd.prog W = .ok (.tuple #[.agg #[], .bool false]) W ∧
    ∃ W', (Instr.mapUpdate 221 (.map (some mb)) (pkB p) (.agg #[])).run Tryd.prog W = .ok () W' ∧ W.grownBy W' (some mb) ∧ W'.heap.size = W.heap.size ∧ MPB W' mb (ps ++ [p]) := by
  obtain ⟨es, clock, hb, hsz, hes⟩ := hm
  have K := keyLawB
  obtain ⟨kl, hkey⟩ := key_ofB p hs
  rcases K.find W hkey es.toList (mpB_keys hsz hes hk) with ⟨h1, h2⟩ | ⟨i, e0, h1, h2, h3⟩
  · refine ⟨by simp [Instr.lookup, run_underlying Tryd.underlying221, MapKept.run_getObj_map hb, K.check W _ hkey, h1, Result.andThen], { W with heap := W.heap.setIfInBounds mb (.map (es.push { key := pkB p, val := .agg #[], born := clock }) (clock + 1)) }, ?_, ?_⟩
    · simp [Instr.mapUpdate, run_underlying Tryd.underlying221, MapKept.run_getObj_map hb, K.check W _ hkey, h1, MapKept.run_setObj_map _ hb, Result.andThen]
    · refine ⟨⟨rfl, rfl, rfl, by simp, fun k hk' hne => (MapKept.heap_set hb).2 k (fun e => hne (by rw [e]))⟩, by simp, _, _, (MapKept.heap_set hb).1, by simp [hsz], fun i hi => ?_⟩
      by_cases hi' : i < ps.length
      · obtain ⟨e, he, hek, hev⟩ := hes i hi'
        refine ⟨e, ?_, by rw [List.getElem_append_left hi']; exact hek, hev⟩
        rw [Array.getElem?_push, if_neg (by omega)]; exact he
      · obtain rfl : i = ps.length := by simp at hi; omega
        exact ⟨_, by rw [Array.getElem?_push, if_pos hsz.symm], by simp, rfl⟩
  · exfalso
    have hil : i < ps.length := by
      have := (List.getElem?_eq_some_iff.1 h2).1
      rw [← hsz]; simpa using this
    obtain ⟨e, he, hek, hev⟩ := hes i hil
    have : e = e0 := by rw [← Array.getElem?_toList] at he; rw [he] at h2; exact Option.some.inj h2
    subst this
    have : pkB ps[i] = pkB p := by rw [← h3, hek]
    exact hp (by rw [← pkB_inj this]; exact List.getElem_mem hil)
theorem MPB.new (W : World) : MPB (W.alloc (.map #[] 0)) W.heap.size [] := ⟨_, _, heap_alloc_new W _, rfl, fun _ h => absurd h (Nat.not_lt_zero _)⟩
/-- the cells of an arrival -/
def aCB (v : Ag Pl) : List Value := [.int .i64 (v.1.2.1 : Int), .int .i64 (v.1.2.2.1 : Int), .bool v.1.2.2.2, .string v.1.1, .int .i64 (v.2 : Int)]
def avB (arr : List (Ag Pl)) : List Value := arr.flatMap aCB
theorem aCB_one (v : Ag Pl) : ∀ y ∈ aCB v, y.oneCell' = true := by
  intro y hy
  simp only [aCB, List.mem_cons, List.not_mem_nil, or_false] at hy
  rcases hy with rfl | rfl | rfl | rfl | rfl <;> rfl
theorem infoAvB : (Tryd.prog.info? 223).map (fun i => (i.zero, i.size, i.bytes)) = some (some (.agg #[.int .i64 0, .int .i64 0, .bool false, .string ⟨#[]⟩, .int .i64 0]), 5, 48) := by kernel_rfl
/-- the search -/
structure SVB (w0 : World) (sb mb : Nat) (ps : List Pl) (arr : List (Ag Pl)) (u : Value) (W : World) : Prop where
  c0 : W.cell? ⟨sb, 0, none⟩ = some (.map (some mb))
  c1 : W.cell? ⟨sb, 1, none⟩ = some u
  f1 : W.frozen? ⟨sb, 1, none⟩ = false
  mp : MPB W mb ps
  own : W.ownsRow w0.heap.size 223 5 u arr.length (avB arr)
  ns : sb ≠ mb
  hs : w0.heap.size ≤ sb
  hm : w0.heap.size ≤ mb
  us : u.ownBlock ≠ some sb
  um : u.ownBlock ≠ some mb
  ls : sb < W.heap.size
  bl : Below w0.heap.size w0 W
abbrev SWB (w0 : World) (sb mb : Nat) (arr : List (Ag Pl)) (u : Value) (W : World) : Prop := SVB w0 sb mb (plG arr) arr u W
/-- the box of a place -/
def PBB (bx : Nat) (p : Pl) (W : World) : Prop := W.cell? ⟨bx, 0, none⟩ = some (.int .i64 (p.1 : Int)) ∧ W.cell? ⟨bx, 1, none⟩ = some (.int .i64 (p.2.1 : Int)) ∧ W.cell? ⟨bx, 2, none⟩ = some (.bool p.2.2)
theorem stepUpdB {P : Program} {w w' : World} {ops : Array Oper} {o : Oper} {a : Act} {K : Act → World → Prop} {Q : Exit → Act → World → Prop} {E : Prop} (hgd : o.guard = none) (m x y : Operand) (t : TypeId) (ho : o.op = Op.mapUpdate t m x y ∨ o.op = Op.insert t m x y) {mv key v : Value}
    (hm : a.eval m = mv) (hx : a.eval x = key) (hy : a.eval y = v) (hrun : (Instr.mapUpdate t mv key v).run P w = .ok () w') (h : K (a.put o.dst undef) w') : if Region.wanted o (yielded ops a.tmps) = true then Oper.wp P o a w K Q else E := by
  have hw : Region.wanted o (yielded ops a.tmps) = true := by simp [Region.wanted, hgd]
  rw [if_pos hw]
  unfold Oper.wp
  rcases ho with ho | ho <;> (simp [execOp, ho, hm, hx, hy, hrun, Result.andThen]; exact h)
end Go.Proofs.YtnlpnbelkkgghaaDoor
