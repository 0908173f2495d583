/-
  Plain mathematics: the search of the first place at which one graph fails to be below another one, and what it tells.
-/
import Derived.Test.YtnedgkcejlhnbaaDoorId
namespace Go.Proofs.YtnedgkcejlhnbaaDoor

def failB (m n : Nd) : Bool := if m.kind ≠ n.kind ∨ m.so ≠ n.so then true else if m.kind = 7 then !(m.labs.all fun l => hasN n.labs l) else !(n.labs.all fun l => hasN m.labs l)
theorem failB_iff (m n : Nd) : failB m n = false ↔ okI m n := by
  unfold failB okI
  by_cases h1 : m.kind ≠ n.kind ∨ m.so ≠ n.so
  · rw [if_pos h1]
    constructor
    · intro h; cases h
    · rintro ⟨a, b, _⟩; rcases h1 with h1 | h1
      · exact absurd a h1
      · exact absurd b h1
  · rw [if_neg h1]
    have a : m.kind = n.kind := Decidable.byContradiction fun h => h1 (.inl h)
    have b : m.so = n.so := Decidable.byContradiction fun h => h1 (.inr h)
    by_cases h7 : m.kind = 7
    · rw [if_pos h7, if_pos h7]
      simp only [Bool.not_eq_false', List.all_eq_true, hasN_iff]
      exact ⟨fun h => ⟨a, b, h⟩, fun h => h.2.2⟩
    · rw [if_neg h7, if_neg h7]
      simp only [Bool.not_eq_false', List.all_eq_true, hasN_iff]
      exact ⟨fun h => ⟨a, b, h⟩, fun h => h.2.2⟩
def failP (g h : List Nd) (p : Pl) : Bool := if p.2.2 = true then failB (nodeAt h p.2.1) (nodeAt g p.1) else failB (nodeAt g p.1) (nodeAt h p.2.1)
theorem failP_iff (g h : List Nd) (p : Pl) : failP g h p = false ↔ okP g h p := by
  unfold failP okP
  split
  · exact failB_iff _ _
  · exact failB_iff _ _
def placesA (arr : List Av) : List Pl := arr.map fun v => v.1.2
def arrP (arr : List Av) (s : Stp) (k : Nat) : List Av := if s.2 ∈ placesA arr then arr else arr ++ [(s, k)]
def nextS (g h : List Nd) (p : Pl) : List Stp := stepsP (nodeAt g p.1) (nodeAt h p.2.1) p.2.2
def goOn (g h : List Nd) (k : Nat) (arr : List Av) (p : Pl) : List Av := (nextS g h p).foldl (fun arr s => arrP arr s k) arr
def av0 : Av := ((⟨#[]⟩, 0, 0, false), 0)
def numP (h : Nat) (p : Pl) : Nat := (p.1 * h + p.2.1) * 2 + if p.2.2 = true then 1 else 0
theorem numP_lt {g h : Nat} {p : Pl} (h1 : p.1 < g) (h2 : p.2.1 < h) : numP h p < 2 * g * h := by
  unfold numP
  have : p.1 * h + h ≤ g * h := by
    have := Nat.mul_le_mul_right h (show p.1 + 1 ≤ g from h1)
    rw [Nat.add_mul, Nat.one_mul] at this
    exact this
  have e : 2 * g * h = 2 * (g * h) := Nat.mul_assoc 2 g h
  rw [e]
  split <;> omega
theorem numP_inj {h : Nat} {p q : Pl} (h1 : p.2.1 < h) (h2 : q.2.1 < h) (e : numP h p = numP h q) : p = q := by
  obtain ⟨a, b, t⟩ := p
  obtain ⟨a', b', t'⟩ := q
  unfold numP at e
  simp only at e h1 h2
  have e1 : a * h + b = a' * h + b' ∧ t = t' := by
    cases t <;> cases t' <;> simp at e ⊢ <;> omega
  have e2 : a = a' := by
    rcases Nat.lt_trichotomy a a' with hl | hl | hl
    · have := Nat.mul_le_mul_right h (show a + 1 ≤ a' from hl)
      rw [Nat.add_mul, Nat.one_mul] at this
      omega
    · exact hl
    · have := Nat.mul_le_mul_right h (show a' + 1 ≤ a from hl)
      rw [Nat.add_mul, Nat.one_mul] at this
      omega
  subst e2
  have e3 : b = b' := by omega
  rw [e3, e1.2]
theorem step_lt {g h : List Nd} (hg : GN g) (hh : GN h) {p : Pl} (h1 : p.1 < g.length) (h2 : p.2.1 < h.length) (ho : okP g h p) : ∀ s ∈ nextS g h p, s.2.1 < g.length ∧ s.2.2.1 < h.length := by
  have hk : (nodeAt g p.1).kind = (nodeAt h p.2.1).kind := by
    unfold okP at ho
    split at ho
    · exact ho.1.symm
    · exact ho.1
  have lg := okN_len (hg.at_ h1)
  have lh := okN_len (hh.at_ h2)
  intro s hs
  unfold nextS stepsP at hs
  split at hs
  · rename_i hc
    rw [List.mem_singleton] at hs; subst hs
    exact ⟨hg.to_ 0 (lg.1 hc), hh.to_ 0 (lh.1 (by rw [← hk]; exact hc))⟩
  split at hs
  · rename_i hc
    have q1 := lg.2.1 hc
    have q2 := lh.2.1 (by rw [← hk]; exact hc)
    rcases List.mem_cons.1 hs with rfl | hs
    · exact ⟨hg.to_ 0 (by omega), hh.to_ 0 (by omega)⟩
    · rw [List.mem_singleton] at hs; subst hs
      exact ⟨hg.to_ 1 q1, hh.to_ 1 q2⟩
  · obtain ⟨x, l, hx, hm, rfl⟩ := mem_lab.1 hs
    exact ⟨hg.to_ x (lg.2.2 x (List.getElem?_eq_some_iff.1 hx).1), hh.to_ _ (lh.2.2 _ (idxB_lt hm))⟩
/-- what is known while it is searched -/
structure SR (g h : List Nd) (k : Nat) (arr : List Av) : Prop where
  hd : arr[0]? = some av0
  nd : (placesA arr).Nodup
  lt : ∀ p ∈ placesA arr, p.1 < g.length ∧ p.2.1 < h.length
  done : ∀ (i : Nat) (v : Av), i < k → arr[i]? = some v → failP g h v.1.2 = false ∧ ∀ s ∈ nextS g h v.1.2, s.2 ∈ placesA arr
  src : ∀ p ∈ placesA arr, ∃ n, ∀ N, blP g h (n + N) (0, 0, false) → blP g h N p
  way : ∀ (i : Nat) (v : Av), arr[i]? = some v → 0 < i → v.2 < i
  few : ∀ (i : Nat) (v : Av), arr[i]? = some v → v.2 ≤ k
theorem SR.len {g h : List Nd} {k : Nat} {arr : List Av} (hs : SR g h k arr) : arr.length ≤ 2 * g.length * h.length := by
  have hn : ((placesA arr).map (numP h.length)).Nodup := by
    have : ∀ l : List Pl, (∀ p ∈ l, p.2.1 < h.length) → l.Nodup → (l.map (numP h.length)).Nodup := by
      intro l
      induction l with
      | nil => intro _ _; exact List.nodup_nil
      | cons p l ih =>
        intro hl hn
        rw [List.nodup_cons] at hn
        rw [List.map_cons, List.nodup_cons]
        refine ⟨fun hm => ?_, ih (fun q hq => hl q (.tail _ hq)) hn.2⟩
        obtain ⟨q, hq, e⟩ := List.mem_map.1 hm
        rw [numP_inj (hl q (.tail _ hq)) (hl p (.head _)) e] at hq
        exact hn.1 hq
    exact this _ (fun p hp => (hs.lt p hp).2) hs.nd
  have := nodup_le (2 * g.length * h.length) _ hn (fun x hx => by
    obtain ⟨p, hp, rfl⟩ := List.mem_map.1 hx
    exact numP_lt (hs.lt p hp).1 (hs.lt p hp).2)
  simpa [placesA] using this
theorem arrP_mem (arr : List Av) (s : Stp) (k : Nat) (p : Pl) : p ∈ placesA (arrP arr s k) ↔ p ∈ placesA arr ∨ p = s.2 := by
  unfold arrP
  split
  · rename_i hm
    constructor
    · exact .inl
    · rintro (h | rfl)
      · exact h
      · exact hm
  · simp [placesA]
theorem arrP_at {arr : List Av} {s : Stp} {k i : Nat} {v : Av} (h : (arrP arr s k)[i]? = some v) : arr[i]? = some v ∨ (i = arr.length ∧ v = (s, k)) := by
  unfold arrP at h
  split at h
  · exact .inl h
  · rw [List.getElem?_append] at h
    split at h
    · exact .inl h
    · rename_i hi
      have hil : i - arr.length = 0 := by
        have := (List.getElem?_eq_some_iff.1 h).1
        simp at this
        omega
      rw [hil] at h
      simp at h
      exact .inr ⟨by omega, h.symm⟩
theorem arrP_old {arr : List Av} {s : Stp} {k i : Nat} {v : Av} (h : arr[i]? = some v) : (arrP arr s k)[i]? = some v := by
  unfold arrP
  split
  · exact h
  · rw [List.getElem?_append_left (List.getElem?_eq_some_iff.1 h).1]; exact h
/-- one place more -/
theorem SR.add {g h : List Nd} {k : Nat} {arr : List Av} (hs : SR g h k arr) {s : Stp} {u : Av} (hk : arr[k]? = some u) (hlt : s.2.1 < g.length ∧ s.2.2.1 < h.length) (hm : s ∈ nextS g h u.1.2) : SR g h k (arrP arr s k) := by
  refine ⟨arrP_old hs.hd, ?_, fun p hp => ?_, fun i v hi hv => ?_, fun p hp => ?_, fun i v hv h0 => ?_, fun i v hv => ?_⟩
  · unfold arrP
    split
    · exact hs.nd
    · rename_i hn
      have e : placesA (arr ++ [(s, k)]) = placesA arr ++ [s.2] := by simp [placesA]
      rw [e, List.nodup_append]
      refine ⟨hs.nd, by simp, fun a ha b hb => ?_⟩
      rw [List.mem_singleton] at hb
      subst hb
      rintro rfl
      exact hn ha
  · rcases (arrP_mem arr s k p).1 hp with h1 | rfl
    · exact hs.lt p h1
    · exact hlt
  · rcases arrP_at hv with h1 | ⟨rfl, _⟩
    · have := hs.done i v hi h1
      exact ⟨this.1, fun q hq => (arrP_mem arr s k _).2 (.inl (this.2 q hq))⟩
    · have := (List.getElem?_eq_some_iff.1 hk).1
      omega
  · rcases (arrP_mem arr s k p).1 hp with h1 | rfl
    · exact hs.src p h1
    · obtain ⟨n, hn⟩ := hs.src u.1.2 (List.mem_map.2 ⟨u, List.mem_of_getElem? hk, rfl⟩)
      exact ⟨n + 1, fun N hN => (blP_next (hn (N + 1) (by rw [show n + (N + 1) = n + 1 + N by omega]; exact hN))).2 s hm⟩
  · rcases arrP_at hv with h1 | ⟨rfl, rfl⟩
    · exact hs.way i v h1 h0
    · exact (List.getElem?_eq_some_iff.1 hk).1
  · rcases arrP_at hv with h1 | ⟨rfl, rfl⟩
    · exact hs.few i v h1
    · exact Nat.le_refl _
theorem fold_arr {k : Nat} : ∀ (ss : List Stp) (arr : List Av), (∀ (i : Nat) (v : Av), arr[i]? = some v → (ss.foldl (fun arr s => arrP arr s k) arr)[i]? = some v) ∧ (∀ s ∈ ss, s.2 ∈ placesA (ss.foldl (fun arr s => arrP arr s k) arr)) ∧ ∀ p ∈ placesA arr, p ∈ placesA (ss.foldl (fun arr s => arrP arr s k) arr)
  | [], arr => ⟨fun _ _ h => h, fun s hs => (by cases hs), fun _ h => h⟩
  | s :: ss, arr => by
    obtain ⟨h1, h2, h3⟩ := fold_arr (k := k) ss (arrP arr s k)
    refine ⟨fun i v hv => h1 i v (arrP_old hv), fun q hq => ?_, fun p hp => h3 p ((arrP_mem arr s k p).2 (.inl hp))⟩
    rcases List.mem_cons.1 hq with rfl | hq
    · exact h3 _ ((arrP_mem arr q k _).2 (.inr rfl))
    · exact h2 q hq
theorem SR.fold {g h : List Nd} {k : Nat} {u : Av} : ∀ (ss : List Stp) (arr : List Av), SR g h k arr → arr[k]? = some u → (∀ s ∈ ss, s.2.1 < g.length ∧ s.2.2.1 < h.length) → (∀ s ∈ ss, s ∈ nextS g h u.1.2) → SR g h k (ss.foldl (fun arr s => arrP arr s k) arr)
  | [], _, hs, _, _, _ => hs
  | s :: ss, arr, hs, hk, hlt, hm => SR.fold ss (arrP arr s k) (hs.add hk (hlt s (.head _)) (hm s (.head _))) (arrP_old hk) (fun q hq => hlt q (.tail _ hq)) (fun q hq => hm q (.tail _ hq))
theorem SR.next {g h : List Nd} (hg : GN g) (hh : GN h) {k : Nat} {arr : List Av} (hs : SR g h k arr) {u : Av} (hk : arr[k]? = some u) (hf : failP g h u.1.2 = false) : SR g h (k + 1) (goOn g h k arr u.1.2) := by
  have hp := hs.lt u.1.2 (List.mem_map.2 ⟨u, List.mem_of_getElem? hk, rfl⟩)
  have hlt := step_lt hg hh hp.1 hp.2 ((failP_iff g h _).1 hf)
  have h1 := SR.fold (nextS g h u.1.2) arr hs hk hlt (fun s h => h)
  obtain ⟨f1, f2, f3⟩ := fold_arr (k := k) (nextS g h u.1.2) arr
  refine ⟨h1.hd, h1.nd, h1.lt, fun i v hi hv => ?_, h1.src, h1.way, fun i v hv => Nat.le_succ_of_le (h1.few i v hv)⟩
  by_cases e : i = k
  · subst e
    have : v = u := by
      have := f1 i u hk
      unfold goOn at hv
      rw [this] at hv
      exact (Option.some.inj hv).symm
    subst this
    exact ⟨hf, f2⟩
  · exact h1.done i v (by omega) hv
end Go.Proofs.YtnedgkcejlhnbaaDoor
