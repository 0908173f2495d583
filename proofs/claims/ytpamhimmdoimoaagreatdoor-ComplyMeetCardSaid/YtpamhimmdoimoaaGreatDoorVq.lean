/-
  Plain mathematics: whether both ends get on, place by place; they do just if the one's other end is below the other one (PADOVANI).
-/
import Derived.Test.YtpamhimmdoimoaaGreatDoorZf
import Derived.Test.YtpamhimmdoimoaaGreatDoorZc
import Derived.Test.YtpamhimmdoimoaaGreatDoorJb
import Derived.Test.YtpamhimmdoimoaaGreatDoorVn
import Derived.Test.YtpamhimmdoimoaaGreatDoorIf
namespace Go.Proofs.YtpamhimmdoimoaaGreatDoor

abbrev Pc := Nat × Nat
def labSc (m n : Nd) (i : Nat) : Option (Sg Pc) := if hasN n.labs (labAtN m i) = true then some (labAtN m i, toAt m i, toAt n (idxB n.labs (labAtN m i))) else none
def stepsC (m n : Nd) : List (Sg Pc) :=
  if m.kind = 2 ∨ m.kind = 3 then [(dotB, toAt m 0, toAt n 0)]
  else if m.kind = 4 ∨ m.kind = 5 then [(dotB, toAt m 1, toAt n 1)]
  else (List.range m.labs.length).filterMap (labSc m n)
/-- getting on, without what comes next -/
def onB (g h : List Nd) (m n : Nd) : Bool :=
  if n.kind ≠ kdD m.kind ∨ n.so ≠ m.so then false
  else if m.kind = 4 then belB g h (toAt m 0) (toAt n 0)
  else if m.kind = 5 then belB h g (toAt n 0) (toAt m 0)
  else if m.kind = 6 then m.labs.all fun l => hasN n.labs l
  else if m.kind = 7 then n.labs.all fun l => hasN m.labs l
  else true
def failC (g h : List Nd) (p : Pc) : Bool := !onB g h (nodeAt g p.1) (nodeAt h p.2)
def nextC (g h : List Nd) (p : Pc) : List (Sg Pc) := stepsC (nodeAt g p.1) (nodeAt h p.2)
def okC (g h : List Nd) (p : Pc) : Prop := p.1 < g.length ∧ p.2 < h.length
def numC (h : Nat) (p : Pc) : Nat := p.1 * h + p.2
theorem mem_labC {m n : Nd} {s : Sg Pc} : s ∈ (List.range m.labs.length).filterMap (labSc m n) ↔ ∃ x l, m.labs[x]? = some l ∧ l ∈ n.labs ∧ s = (l, toAt m x, toAt n (idxB n.labs l)) := by
  rw [List.mem_filterMap]
  constructor
  · rintro ⟨x, hx, e⟩
    have hx' : x < m.labs.length := List.mem_range.1 hx
    have el : labAtN m x = m.labs[x] := by unfold labAtN; rw [List.getElem?_eq_getElem hx']; rfl
    unfold labSc at e
    rw [el] at e
    split at e
    · rename_i hm
      exact ⟨x, m.labs[x], List.getElem?_eq_getElem hx', (hasN_iff _ _).1 hm, (Option.some.inj e).symm⟩
    · cases e
  · rintro ⟨x, l, hx, hm, rfl⟩
    obtain ⟨hx', e⟩ := List.getElem?_eq_some_iff.1 hx
    have el : labAtN m x = l := by unfold labAtN; rw [hx]; rfl
    exact ⟨x, List.mem_range.2 hx', by unfold labSc; rw [el, if_pos ((hasN_iff _ _).2 hm)]⟩
theorem numC_lt {g h : Nat} {p : Pc} (h1 : p.1 < g) (h2 : p.2 < h) : numC h p < g * h := by
  unfold numC
  have := Nat.mul_le_mul_right h (show p.1 + 1 ≤ g from h1)
  rw [Nat.add_mul, Nat.one_mul] at this
  omega
theorem numC_inj {h : Nat} {p q : Pc} (h1 : p.2 < h) (h2 : q.2 < h) (e : numC h p = numC h q) : p = q := by
  obtain ⟨a, b⟩ := p
  obtain ⟨a', b'⟩ := q
  unfold numC at e
  simp only at e h1 h2
  have e2 : a = a' := by
    rcases Nat.lt_trichotomy a a' with hl | hl | hl
    · have := Nat.mul_le_mul_right h (show a + 1 ≤ a' from hl)
      rw [Nat.add_mul, Nat.one_mul] at this
      omega
    · exact hl
    · have := Nat.mul_le_mul_right h (show a' + 1 ≤ a from hl)
      rw [Nat.add_mul, Nat.one_mul] at this
      omega
  subst e2
  have e3 : b = b' := by omega
  rw [e3]
theorem kd_inv {n : Nd} (h : okN n) : kdD (kdD n.kind) = n.kind := by
  have a := okN_cases h
  have h1 : n.kind = 1 ∨ n.kind = 2 ∨ n.kind = 3 ∨ n.kind = 4 ∨ n.kind = 5 ∨ n.kind = 6 ∨ n.kind = 7 := by omega
  rcases h1 with h | h | h | h | h | h | h <;> (rw [h]; decide)
theorem kd_turn {m n : Nd} (_ : okN m) : n.kind = kdD m.kind → (m.kind = 2 → n.kind = 3) ∧ (m.kind = 3 → n.kind = 2) ∧ (m.kind = 4 → n.kind = 5) ∧ (m.kind = 5 → n.kind = 4) ∧ (m.kind = 6 → n.kind = 7) ∧ (m.kind = 7 → n.kind = 6) ∧ (m.kind = 1 → n.kind = 1) := by
  intro h
  have := kdD_cases m.kind
  rw [h]
  exact this
theorem on_parts {g h : List Nd} {m n : Nd} (ho : onB g h m n = true) : n.kind = kdD m.kind ∧ n.so = m.so ∧ (m.kind = 4 → belB g h (toAt m 0) (toAt n 0) = true) ∧ (m.kind = 5 → belB h g (toAt n 0) (toAt m 0) = true) ∧ (m.kind = 6 → ∀ l ∈ m.labs, l ∈ n.labs) ∧ (m.kind = 7 → ∀ l ∈ n.labs, l ∈ m.labs) := by
  unfold onB at ho
  by_cases h1 : n.kind ≠ kdD m.kind ∨ n.so ≠ m.so
  · rw [if_pos h1] at ho; cases ho
  rw [if_neg h1] at ho
  have a : n.kind = kdD m.kind := Decidable.byContradiction fun q => h1 (.inl q)
  have b : n.so = m.so := Decidable.byContradiction fun q => h1 (.inr q)
  refine ⟨a, b, fun hk => ?_, fun hk => ?_, fun hk => ?_, fun hk => ?_⟩
  · rw [if_pos hk] at ho; exact ho
  · rw [if_neg (by omega), if_pos hk] at ho; exact ho
  · rw [if_neg (by omega), if_neg (by omega), if_pos hk] at ho
    intro l hl
    exact (hasN_iff _ _).1 (List.all_eq_true.1 ho l hl)
  · rw [if_neg (by omega), if_neg (by omega), if_neg (by omega), if_pos hk] at ho
    intro l hl
    exact (hasN_iff _ _).1 (List.all_eq_true.1 ho l hl)
theorem on_of {g h : List Nd} {m n : Nd} (a : n.kind = kdD m.kind) (b : n.so = m.so) (h4 : m.kind = 4 → belB g h (toAt m 0) (toAt n 0) = true) (h5 : m.kind = 5 → belB h g (toAt n 0) (toAt m 0) = true) (h6 : m.kind = 6 → ∀ l ∈ m.labs, l ∈ n.labs) (h7 : m.kind = 7 → ∀ l ∈ n.labs, l ∈ m.labs) : onB g h m n = true := by
  unfold onB
  rw [if_neg (by rintro (q | q); exact q a; exact q b)]
  by_cases k4 : m.kind = 4
  · rw [if_pos k4]; exact h4 k4
  rw [if_neg k4]
  by_cases k5 : m.kind = 5
  · rw [if_pos k5]; exact h5 k5
  rw [if_neg k5]
  by_cases k6 : m.kind = 6
  · rw [if_pos k6]; exact List.all_eq_true.2 fun l hl => (hasN_iff _ _).2 (h6 k6 l hl)
  rw [if_neg k6]
  by_cases k7 : m.kind = 7
  · rw [if_pos k7]; exact List.all_eq_true.2 fun l hl => (hasN_iff _ _).2 (h7 k7 l hl)
  rw [if_neg k7]
theorem failC_on {g h : List Nd} {p : Pc} : failC g h p = false ↔ onB g h (nodeAt g p.1) (nodeAt h p.2) = true := by
  unfold failC
  cases onB g h (nodeAt g p.1) (nodeAt h p.2) <;> simp
theorem comply_wld {g h : List Nd} (hg : GN g) (hh : GN h) : WLD (failC g h) (nextC g h) (okC g h) (numC h.length) (g.length * h.length) := by
  refine ⟨fun p hp hf s hs => ?_, fun _ hp => numC_lt hp.1 hp.2, fun _ _ hp hq e => numC_inj hp.2 hq.2 e⟩
  obtain ⟨a, b, _, _, _, _⟩ := on_parts (failC_on.1 hf)
  have lg := okN_len (hg.at_ hp.1)
  have lh := okN_len (hh.at_ hp.2)
  have kt := kd_turn (hg.at_ hp.1) a
  unfold nextC stepsC at hs
  split at hs
  · rename_i hc
    rw [List.mem_singleton] at hs; subst hs
    exact ⟨hg.to_ 0 (lg.1 hc), hh.to_ 0 (lh.1 (by rcases hc with hc | hc; exact .inr (kt.1 hc); exact .inl (kt.2.1 hc)))⟩
  split at hs
  · rename_i hc
    rw [List.mem_singleton] at hs; subst hs
    exact ⟨hg.to_ 1 (lg.2.1 hc), hh.to_ 1 (lh.2.1 (by rcases hc with hc | hc; exact .inr (kt.2.2.1 hc); exact .inl (kt.2.2.2.1 hc)))⟩
  · obtain ⟨x, l, hx, hm, rfl⟩ := mem_labC.1 hs
    exact ⟨hg.to_ x (lg.2.2 x (List.getElem?_eq_some_iff.1 hx).1), hh.to_ _ (lh.2.2 _ (idxB_lt hm))⟩
theorem labs_nil {m : Nd} (h : okN m) (hk : ¬ (m.kind = 6 ∨ m.kind = 7)) : m.labs = [] := by
  rcases okN_cases h with ⟨_, _, h, _⟩ | ⟨_, _, h, _⟩ | ⟨_, _, h, _⟩ | ⟨h, _⟩
  · exact h
  · exact h
  · exact h
  · exact absurd h hk
theorem all_bl {g h : List Nd} (hg : GN g) (hh : GN h) (lh : h.length ≤ 100) : ∀ (n i j : Nat), i < g.length → j < h.length → (∀ N, allG (failC g h) (nextC g h) N (i, j)) → bl n (othG h) g j i
  | 0, _, _, _, _, _ => trivial
  | n + 1, i, j, hi, hj, H => by
    have ih := all_bl hg hh lh n
    have hO := oth_gn hh lh
    have ho : onB g h (nodeAt g i) (nodeAt h j) = true := failC_on.1 (H 1).1
    have hnx : ∀ s ∈ nextC g h (i, j), ∀ N, allG (failC g h) (nextC g h) N s.2 := fun s hs N => (H (N + 1)).2 s hs
    have hlt : ∀ s ∈ nextC g h (i, j), okC g h s.2 := fun s hs => (comply_wld hg hh).step (i, j) ⟨hi, hj⟩ (H 1).1 s hs
    obtain ⟨a, b, h4, h5, h6, h7⟩ := on_parts ho
    have om := hg.at_ hi
    have on := hh.at_ hj
    have kt := kd_turn om a
    have kv : kdD (nodeAt h j).kind = (nodeAt g i).kind := by rw [a]; exact kd_inv om
    have lm := okN_len om
    have ln := okN_len on
    have tl := fun (h : ¬ ((nodeAt g i).kind = 6 ∨ (nodeAt g i).kind = 7)) => labs_nil om h
    have tl2 := fun (h : ¬ ((nodeAt h j).kind = 6 ∨ (nodeAt h j).kind = 7)) => labs_nil on h
    have kd : (nodeAt g i).kind = 1 ∨ (nodeAt g i).kind = 2 ∨ (nodeAt g i).kind = 3 ∨ (nodeAt g i).kind = 4 ∨ (nodeAt g i).kind = 5 ∨ (nodeAt g i).kind = 6 ∨ (nodeAt g i).kind = 7 := by have := okN_cases om; omega
    rw [bl_succ, oth_at1 hj]
    refine ⟨⟨kv, b, ?_⟩, fun hk => ?_, fun hk => ?_, fun hk => ?_, fun x y l hx hy => ?_⟩
    · show if kdD (nodeAt h j).kind = 7 then ∀ l ∈ (nodeAt h j).labs, l ∈ (nodeAt g i).labs else ∀ l ∈ (nodeAt g i).labs, l ∈ (nodeAt h j).labs
      rw [kv]
      by_cases k7 : (nodeAt g i).kind = 7
      · rw [if_pos k7]; exact h7 k7
      · rw [if_neg k7]
        by_cases k6 : (nodeAt g i).kind = 6
        · exact h6 k6
        · rw [tl (by omega)]; intro l hl; cases hl
    · have hk' : (nodeAt g i).kind = 2 ∨ (nodeAt g i).kind = 3 := by rw [← kv]; exact hk
      have hs : ((dotB, toAt (nodeAt g i) 0, toAt (nodeAt h j) 0) : Sg Pc) ∈ nextC g h (i, j) := by unfold nextC stepsC; rw [if_pos hk']; exact .head _
      rw [tuL_x (by have := kt.1; have := kt.2.1; omega)]
      exact ih _ _ (hlt _ hs).1 (hlt _ hs).2 (hnx _ hs)
    · have hk' : (nodeAt g i).kind = 4 := by rw [← kv]; exact hk
      have hn5 := kt.2.2.1 hk'
      have hs : ((dotB, toAt (nodeAt g i) 1, toAt (nodeAt h j) 1) : Sg Pc) ∈ nextC g h (i, j) := by unfold nextC stepsC; rw [if_neg (by simp only; omega), if_pos (.inl hk')]; exact .head _
      obtain ⟨t0, t1⟩ := tuL_0 (N := h.length) (.inr hn5) (ln.2.1 (.inr hn5))
      rw [t0, t1]
      have m0 := hg.to_ 0 (i := i) (by have := lm.2.1 (.inl hk'); omega)
      have n0 := hh.to_ 0 (i := j) (by have := ln.2.1 (.inr hn5); omega)
      refine ⟨?_, ih _ _ (hlt _ hs).1 (hlt _ hs).2 (hnx _ hs)⟩
      exact (bl_resp hg hh hg hO m0 n0 m0 (by rw [oth_len]; omega) rfl (oth_kept hh n _ n0)).2 ((belB_iff hg hh m0 n0).1 (h4 hk') n)
    · have hk' : (nodeAt g i).kind = 5 := by rw [← kv]; exact hk
      have hn4 := kt.2.2.2.1 hk'
      have hs : ((dotB, toAt (nodeAt g i) 1, toAt (nodeAt h j) 1) : Sg Pc) ∈ nextC g h (i, j) := by unfold nextC stepsC; rw [if_neg (by simp only; omega), if_pos (.inr hk')]; exact .head _
      obtain ⟨t0, t1⟩ := tuL_0 (N := h.length) (.inl hn4) (ln.2.1 (.inl hn4))
      rw [t0, t1]
      have m0 := hg.to_ 0 (i := i) (by have := lm.2.1 (.inr hk'); omega)
      have n0 := hh.to_ 0 (i := j) (by have := ln.2.1 (.inl hn4); omega)
      refine ⟨?_, ih _ _ (hlt _ hs).1 (hlt _ hs).2 (hnx _ hs)⟩
      exact (bl_resp hh hg hO hg n0 m0 (by rw [oth_len]; omega) m0 (oth_kept hh n _ n0) rfl).2 ((belB_iff hh hg n0 m0).1 (h5 hk') n)
    · have hx' : (nodeAt h j).labs[x]? = some l := hx
      have hk : (nodeAt g i).kind = 6 ∨ (nodeAt g i).kind = 7 := Decidable.byContradiction fun q => by rw [tl q] at hy; simp at hy
      have hs : ((l, toAt (nodeAt g i) y, toAt (nodeAt h j) (idxB (nodeAt h j).labs l)) : Sg Pc) ∈ nextC g h (i, j) := by
        unfold nextC stepsC
        rw [if_neg (by simp only; omega), if_neg (by simp only; omega)]
        exact mem_labC.2 ⟨y, l, hy, List.mem_of_getElem? hx', rfl⟩
      have e := idx_rises (okN_rises on) hx'
      rw [e] at hs
      rw [tuL_x (by have := kt.2.2.2.2.1; have := kt.2.2.2.2.2.1; omega)]
      exact ih _ _ (hlt _ hs).1 (hlt _ hs).2 (hnx _ hs)
theorem bl_all {g h : List Nd} (hg : GN g) (hh : GN h) (lh : h.length ≤ 100) : ∀ (N i j : Nat), i < g.length → j < h.length → (∀ n, bl n (othG h) g j i) → allG (failC g h) (nextC g h) N (i, j)
  | 0, _, _, _, _, _ => trivial
  | N + 1, i, j, hi, hj, H => by
    have ih := bl_all hg hh lh N
    have hO := oth_gn hh lh
    have om := hg.at_ hi
    have on := hh.at_ hj
    have lm := okN_len om
    have ln := okN_len on
    have H' := fun n => (bl_succ n (othG h) g j i).1 (H (n + 1))
    rw [oth_at1 hj] at H'
    obtain ⟨⟨kv, b, hl⟩, _⟩ := H' 0
    have kv : kdD (nodeAt h j).kind = (nodeAt g i).kind := kv
    have a : (nodeAt h j).kind = kdD (nodeAt g i).kind := by rw [← kv]; exact (kd_inv on).symm
    have kt := kd_turn om a
    have hl : if kdD (nodeAt h j).kind = 7 then ∀ l ∈ (nodeAt h j).labs, l ∈ (nodeAt g i).labs else ∀ l ∈ (nodeAt g i).labs, l ∈ (nodeAt h j).labs := hl
    rw [kv] at hl
    have hf : failC g h (i, j) = false := by
      refine failC_on.2 (on_of a b (fun hk => ?_) (fun hk => ?_) (fun hk => ?_) (fun hk => ?_))
      · have hn5 := kt.2.2.1 hk
        have m0 := hg.to_ 0 (i := i) (by have := lm.2.1 (.inl hk); omega)
        have n0 := hh.to_ 0 (i := j) (by have := ln.2.1 (.inr hn5); omega)
        obtain ⟨t0, t1⟩ := tuL_0 (N := h.length) (.inr hn5) (ln.2.1 (.inr hn5))
        refine (belB_iff hg hh m0 n0).2 fun n => ?_
        have := ((H' n).2.2.1 (by show kdD _ = 4; rw [kv]; exact hk)).1
        rw [t0] at this
        exact (bl_resp hg hh hg hO m0 n0 m0 (by rw [oth_len]; omega) rfl (oth_kept hh n _ n0)).1 this
      · have hn4 := kt.2.2.2.1 hk
        have m0 := hg.to_ 0 (i := i) (by have := lm.2.1 (.inr hk); omega)
        have n0 := hh.to_ 0 (i := j) (by have := ln.2.1 (.inl hn4); omega)
        obtain ⟨t0, t1⟩ := tuL_0 (N := h.length) (.inl hn4) (ln.2.1 (.inl hn4))
        refine (belB_iff hh hg n0 m0).2 fun n => ?_
        have := ((H' n).2.2.2.1 (by show kdD _ = 5; rw [kv]; exact hk)).1
        rw [t0] at this
        exact (bl_resp hh hg hO hg n0 m0 (by rw [oth_len]; omega) m0 (oth_kept hh n _ n0) rfl).1 this
      · simp only at hk ⊢
        rw [if_neg (by omega)] at hl; exact hl
      · simp only at hk ⊢
        rw [if_pos hk] at hl; exact hl
    refine ⟨hf, fun s hs => ?_⟩
    have hlt : okC g h s.2 := (comply_wld hg hh).step (i, j) ⟨hi, hj⟩ hf s hs
    have go : (∀ n, bl n (othG h) g s.2.2 s.2.1) → allG (failC g h) (nextC g h) N s.2 := fun q => ih s.2.1 s.2.2 hlt.1 hlt.2 q
    refine go fun n => ?_
    unfold nextC stepsC at hs
    split at hs
    · rename_i hc
      rw [List.mem_singleton] at hs; subst hs
      have := (H' n).2.1 (by show kdD _ = 2 ∨ kdD _ = 3; rw [kv]; exact hc)
      simp only at hc
      rw [tuL_x (by have := kt.1; have := kt.2.1; omega)] at this
      exact this
    split at hs
    · rename_i hc
      rw [List.mem_singleton] at hs; subst hs
      simp only at hc
      rcases hc with hc | hc
      · have := ((H' n).2.2.1 (by show kdD _ = 4; rw [kv]; exact hc)).2
        rw [(tuL_0 (N := h.length) (.inr (kt.2.2.1 hc)) (ln.2.1 (.inr (kt.2.2.1 hc)))).2] at this
        exact this
      · have := ((H' n).2.2.2.1 (by show kdD _ = 5; rw [kv]; exact hc)).2
        rw [(tuL_0 (N := h.length) (.inl (kt.2.2.2.1 hc)) (ln.2.1 (.inl (kt.2.2.2.1 hc)))).2] at this
        exact this
    · rename_i hc1 hc2
      simp only at hc1 hc2
      obtain ⟨x, l, hx, hm, rfl⟩ := mem_labC.1 hs
      have h1 := idxB_lt hm
      have hx : (nodeAt g i).labs[x]? = some l := hx
      have hk : (nodeAt g i).kind = 6 ∨ (nodeAt g i).kind = 7 := Decidable.byContradiction fun q => by rw [labs_nil om q] at hx; simp at hx
      have := (H' n).2.2.2.2 _ x l (show (nodeAt h j).labs[_]? = some l by rw [List.getElem?_eq_getElem h1, idxB_at h1]) hx
      rw [tuL_x (by have := kt.2.2.2.2.1; have := kt.2.2.2.2.2.1; omega)] at this
      exact this
/-- the whole search -/
def srC (g h : List Nd) : Option Nat × List (Ag Pc) := srGA (failC g h) (nextC g h) (g.length * h.length) (0, 0)
theorem comply_iff {g h : List Nd} (hg : GN g) (hh : GN h) (lh : h.length ≤ 100) : (srC g h).1 = none ↔ ∀ n, bl n (othG h) g 0 0 := by
  unfold srC
  rw [srGA_all (comply_wld hg hh) ⟨hg.pos, hh.pos⟩]
  exact ⟨fun H n => all_bl hg hh lh n 0 0 hg.pos hh.pos H, fun H N => bl_all hg hh lh N 0 0 hg.pos hh.pos H⟩
end Go.Proofs.YtpamhimmdoimoaaGreatDoor
/-
  The contracts of below.Nodes and below.Graphs, for graphs that Check lets by.
-/
namespace Go.Proofs.YtpamhimmdoimoaaGreatDoor
open Go.RowKit Go.Shelf

set_option maxRecDepth 100000 in
set_option maxHeartbeats 2000000 in
theorem nodes_any (g h : List Nd) (ag ah : Option Addr) (cg ch B m n : Nat) (w : World) (hg : GN g) (hh : GN h) (hga : GAt w B g ag) (hha : GAt w B h ah) (hB : B ≤ w.heap.size) (hm : m < g.length) (hn : n < h.length) :
    Calls Tryz.prog 90 #[.slice ag g.length cg, .int .i64 (m : Int), .slice ah h.length ch, .int .i64 (n : Int)] w fun e w' => e = .returned (.tuple #[.bool (belB g h m n), .int .i64 0]) ∧ Below w.heap.size w w' := by
  have c1 := checkG_any g ag cg B w hg hga hB
  have C2 := hideK (fun (W : World) (hb : Below w.heap.size w W) => checkG_any h ah ch B W hh (hha.keep (hb.mono hB)) (Nat.le_trans hB hb.size))
  have C3 := hideK (fun (W : World) (hb : Below w.heap.size w W) => firstFailing_any g h ag ah cg ch B m n W hg hh (hga.keep (hb.mono hB)) (hha.keep (hb.mono hB)) (Nat.le_trans hB hb.size) hm hn)
  have HQ := hideK (show belB g h m n = (srB g h m n).1.isNone from rfl)
  have hmz : (m : Int) < (g.length : Int) := by omega
  have hnz : (n : Int) < (h.length : Int) := by omega
  unfold FFPost at C3
  clear hga hha hg hh
  go_enter Tryz.func90, Tryz.ntmps90
  go_wp2_with fail
  refine c1.mono ?_
  rintro e w1 ⟨rfl, hb1⟩
  have c2 := C2.out w1 hb1
  have HB := hideK hb1
  clear c1 C2 hb1
  go_wp2_with fail
  refine c2.mono ?_
  rintro e w2 ⟨rfl, hb2⟩
  have HB2 := hideK (HB.out.trans (hb2.mono HB.out.size))
  have c3 := C3.out w2 HB2.out
  clear c2 C3 hb2
  go_wp2_with fail
  refine c3.mono ?_
  rintro e w3 ⟨hor, hb3⟩
  have HB3 := hideK (HB2.out.trans (hb3.mono HB2.out.size))
  clear c3 hb3
  rcases hor with ⟨arr, hsr, rfl⟩ | ⟨k, arr, hsr, aw, cw, rfl, hla⟩
  · have HSR := hideK hsr
    clear hsr
    go_wp2_with fail
    go_ret2
    exact ⟨by rw [HQ.out, HSR.out]; rfl, HB3.out⟩
  · have HSR := hideK hsr
    clear hsr hla
    go_wp2_with fail
    go_ret2
    exact ⟨by rw [HQ.out, HSR.out]; rfl, HB3.out⟩
end Go.Proofs.YtpamhimmdoimoaaGreatDoor

/-
  The contracts of comply.hasAll and comply.isBelow.
-/
namespace Go.Proofs.YtpamhimmdoimoaaGreatDoor
open Go.RowKit Go.Shelf

set_option maxRecDepth 100000 in
set_option maxHeartbeats 2000000 in
/-- the closure of comply.hasAll -/
theorem hasAllC1_any (x : ByteArray) (ns : List ByteArray) (aa : Option Addr) (ca B pb : Nat) (w : World) (h : LA w B ns aa) (hl : ns.length ≤ 1000) (hp : w.cell? ⟨pb, 0, none⟩ = some (.slice aa ns.length ca)) :
    Calls Tryz.prog 92 #[.string x, .pointer (some ⟨pb, 0, none⟩)] w fun e w' => e = .returned (.bool (!hasN ns x)) ∧ w' = w := by
  have c := containsL_any ns x aa ca B w h hl
  generalize hasN ns x = q at *
  clear h
  go_enter Tryz.func92, Tryz.ntmps92
  go_wp2_with fail
  refine c.mono ?_
  rintro e w1 ⟨rfl, rfl⟩
  go_wp2_with fail
  go_ret
  exact ⟨rfl, rfl⟩
set_option maxRecDepth 100000 in
set_option maxHeartbeats 2000000 in
theorem indexHasC_any (ls ns : List ByteArray) (al : Option Addr) (cl : Nat) (aa : Option Addr) (ca B pb : Nat) (w : World) (hL : LA w B ls al) (h : LA w B ns aa) (hl : ls.length ≤ 1000) (hl2 : ns.length ≤ 1000) (hp : w.cell? ⟨pb, 0, none⟩ = some (.slice aa ns.length ca)) :
    Calls Tryz.prog 106 #[.slice al ls.length cl, .func (.func 92) #[] #[.pointer (some ⟨pb, 0, none⟩)]] w fun e w' => (∃ z : Int, e = .returned (.int .i64 z) ∧ (0 ≤ z ∨ z = -1) ∧ (z = -1 ↔ (ls.all fun l => hasN ns l) = true)) ∧ w' = w := by
  have hlz : (ls.length : Int) ≤ 1000 := by omega
  go_enter Tryz.func106, Tryz.ntmps106
  go_wp2_with fail
  go_loopw [8] (fun i wr => ∃ k : Nat, k ≤ ls.length ∧ i = .int .i64 (k : Int) ∧ ((ls.take k).all fun l => hasN ns l) = true ∧ wr = w) (fun i _ => ls.length - (intOf i).toNat)
  case atStart => exact ⟨0, Nat.zero_le _, rfl, rfl, rfl⟩
  case round =>
    obtain ⟨k, hk, rfl, hn, rfl⟩ := hrel
    by_cases hlt : k < ls.length
    · have hltz : (k : Int) < (ls.length : Int) := by omega
      obtain ⟨b, o, rfl, hbl, hc⟩ := hL.resolve_left (fun q => by have := congrArg List.length q; simp at this; rw [this] at hlt; simp at hlt)
      have d0 := hc k (by simpa using hlt)
      rw [List.getElem_map] at d0
      have c := hasAllC1_any ls[k] ns aa ca B pb _ h hl2 hp
      cases hq : hasN ns ls[k] with
      | true =>
        rw [hq] at c
        have HN := hideK (show ((ls.take (k + 1)).all fun l => hasN ns l) = true from by
          rw [List.take_succ_eq_append_getElem hlt, List.all_append, hn]; simp [hq])
        clear hc hn hq h
        generalize ls[k] = y at *
        go_wp2_with fail
        refine c.mono ?_
        rintro e w1 ⟨rfl, rfl⟩
        go_wp2_with fail
        go_roundw
        case rel => exact ⟨k + 1, by omega, by go_num, HN.out, by first | rfl | trivial⟩
        case measure => simp [intOf]; omega
      | false =>
        rw [hq] at c
        have HN := hideK (show ¬ (ls.all fun l => hasN ns l) = true from fun q => by
          rw [List.all_eq_true] at q
          have := q _ (List.getElem_mem hlt)
          rw [hq] at this; cases this)
        clear hc hn hq h
        generalize ls[k] = y at *
        go_wp2_with fail
        refine c.mono ?_
        rintro e w1 ⟨rfl, rfl⟩
        go_wp2_with fail
        go_ret
        exact ⟨⟨_, rfl, .inl (by omega), ⟨fun q => by omega, fun q => absurd q HN.out⟩⟩, rfl⟩
    · have hltz : ¬ (k : Int) < (ls.length : Int) := by omega
      have hkl : k = ls.length := by omega
      subst hkl
      rw [List.take_length] at hn
      have HN := hideK hn
      clear hn
      go_wp2_with fail
      go_ret
      exact ⟨⟨_, rfl, .inr rfl, ⟨fun _ => by first | exact HN.out | exact List.all_eq_true.1 HN.out, fun _ => rfl⟩⟩, rfl⟩
set_option maxRecDepth 100000 in
set_option maxHeartbeats 2000000 in
theorem containsHasC_any (ls ns : List ByteArray) (al : Option Addr) (cl : Nat) (aa : Option Addr) (ca B pb : Nat) (w : World) (hL : LA w B ls al) (h : LA w B ns aa) (hl : ls.length ≤ 1000) (hl2 : ns.length ≤ 1000) (hp : w.cell? ⟨pb, 0, none⟩ = some (.slice aa ns.length ca)) :
    Calls Tryz.prog 91 #[.slice al ls.length cl, .func (.func 92) #[] #[.pointer (some ⟨pb, 0, none⟩)]] w fun e w' => e = .returned (.bool (!(ls.all fun l => hasN ns l))) ∧ w' = w := by
  have c := indexHasC_any ls ns al cl aa ca B pb w hL h hl hl2 hp
  generalize (ls.all fun l => hasN ns l) = q at *
  clear h hL
  go_enter Tryz.func91, Tryz.ntmps91
  go_wp2_with fail
  refine c.mono ?_
  rintro e w1 ⟨⟨z, rfl, hz, hq⟩, rfl⟩
  cases q with
  | true =>
    obtain rfl : z = -1 := hq.2 rfl
    clear hz hq
    go_wp2_with fail
    go_ret
    exact ⟨rfl, rfl⟩
  | false =>
    have hz' : decide (z ≥ 0) = true := by
      rcases hz with hz | hz
      · simpa using hz
      · exact absurd (hq.1 hz) (by simp)
    have hz2 : (0 ≤ z) := by simpa using hz'
    clear hz hq
    go_wp2_with fail
    go_ret
    exact ⟨rfl, rfl⟩
set_option maxRecDepth 100000 in
set_option maxHeartbeats 2000000 in
theorem hasAllC_any (ls ns : List ByteArray) (al : Option Addr) (cl : Nat) (aa : Option Addr) (ca B : Nat) (w : World) (hL : LA w B ls al) (h : LA w B ns aa) (hB : B ≤ w.heap.size) (hl : ls.length ≤ 1000) (hl2 : ns.length ≤ 1000) :
    Calls Tryz.prog 83 #[.slice aa ns.length ca, .slice al ls.length cl] w fun e w' => e = .returned (.bool (ls.all fun l => hasN ns l)) ∧ Below w.heap.size w w' := by
  have hA : Below w.heap.size w (w.alloc (.cells #[.slice aa ns.length ca] 22)) := (Below.refl _ _).alloc (Nat.le_refl _) _
  have c := containsHasC_any ls ns al cl aa ca B w.heap.size (w.alloc (.cells #[.slice aa ns.length ca] 22)) (hL.keep (hA.mono hB)) (h.keep (hA.mono hB)) hl hl2 (by go_cell)
  generalize (ls.all fun l => hasN ns l) = q at *
  have HA := hideK hA
  clear h hL hA
  go_enter Tryz.func83, Tryz.ntmps83
  go_wp2_with fail
  refine c.mono ?_
  rintro e w1 ⟨rfl, rfl⟩
  go_wp2_with fail
  go_ret
  exact ⟨by cases q <;> rfl, HA.out⟩
set_option maxRecDepth 100000 in
set_option maxHeartbeats 2000000 in
theorem isBelow_any (g h : List Nd) (ag ah : Option Addr) (cg ch B m n : Nat) (w : World) (hg : GN g) (hh : GN h) (hga : GAt w B g ag) (hha : GAt w B h ah) (hB : B ≤ w.heap.size) (hm : m < g.length) (hn : n < h.length) :
    Calls Tryz.prog 82 #[.slice ag g.length cg, .int .i64 (m : Int), .slice ah h.length ch, .int .i64 (n : Int)] w fun e w' => e = .returned (.bool (belB g h m n)) ∧ Below w.heap.size w w' := by
  have c := nodes_any g h ag ah cg ch B m n w hg hh hga hha hB hm hn
  generalize belB g h m n = q at *
  clear hga hha hg hh
  go_enter Tryz.func82, Tryz.ntmps82
  go_wp2_with fail
  refine c.mono ?_
  rintro e w1 ⟨rfl, hb1⟩
  have HB := hideK hb1
  clear c hb1
  cases q
  all_goals
    go_wp2_with fail
    go_ret
    exact ⟨rfl, HB.out⟩
end Go.Proofs.YtpamhimmdoimoaaGreatDoor
