/-
  Plain mathematics: the search of the first place at which one graph fails to be below another one, and what it tells.
-/
import Derived.Test.YtnlpnbelkkgghaaDoorId
import Derived.Test.YtnlpnbelkkgghaaDoorVa
namespace Go.Proofs.YtnlpnbelkkgghaaDoor

def failB (m n : Nd) : Bool := if m.kind ≠ n.kind ∨ m.so ≠ n.so then true else if m.kind = 7 then !(m.labs.all fun l => hasN n.labs l) else !(n.labs.all fun l => hasN m.labs l)
theorem failB_iff (m n : Nd) : failB m n = false ↔ okI m n := by
  unfold failB okI
  by_cases h1 : m.kind ≠ n.kind ∨ m.so ≠ n.so
  · rw [if_pos h1]
    constructor
    · intro h; cases h
    · rintro ⟨a, b, _⟩; rcases h1 with h1 | h1
      · exact absurd a h1
      · exact absurd b h1
  · rw [if_neg h1]
    have a : m.kind = n.kind := Decidable.byContradiction fun h => h1 (.inl h)
    have b : m.so = n.so := Decidable.byContradiction fun h => h1 (.inr h)
    by_cases h7 : m.kind = 7
    · rw [if_pos h7, if_pos h7]
      simp only [Bool.not_eq_false', List.all_eq_true, hasN_iff]
      exact ⟨fun h => ⟨a, b, h⟩, fun h => h.2.2⟩
    · rw [if_neg h7, if_neg h7]
      simp only [Bool.not_eq_false', List.all_eq_true, hasN_iff]
      exact ⟨fun h => ⟨a, b, h⟩, fun h => h.2.2⟩
def failP (g h : List Nd) (p : Pl) : Bool := if p.2.2 = true then failB (nodeAt h p.2.1) (nodeAt g p.1) else failB (nodeAt g p.1) (nodeAt h p.2.1)
theorem failP_iff (g h : List Nd) (p : Pl) : failP g h p = false ↔ okP g h p := by
  unfold failP okP
  split
  · exact failB_iff _ _
  · exact failB_iff _ _
def placesA (arr : List Av) : List Pl := arr.map fun v => v.1.2
def arrP (arr : List Av) (s : Stp) (k : Nat) : List Av := if s.2 ∈ placesA arr then arr else arr ++ [(s, k)]
def nextS (g h : List Nd) (p : Pl) : List Stp := stepsP (nodeAt g p.1) (nodeAt h p.2.1) p.2.2
def goOn (g h : List Nd) (k : Nat) (arr : List Av) (p : Pl) : List Av := (nextS g h p).foldl (fun arr s => arrP arr s k) arr
def srch (g h : List Nd) : Nat → Nat → List Av → Option Nat × List Av
  | 0, _, arr => (none, arr)
  | f + 1, k, arr => match arr[k]? with
    | none => (none, arr)
    | some v => if failP g h v.1.2 = true then (some k, arr) else srch g h f (k + 1) (goOn g h k arr v.1.2)
def av0 : Av := ((⟨#[]⟩, 0, 0, false), 0)
def numP (h : Nat) (p : Pl) : Nat := (p.1 * h + p.2.1) * 2 + if p.2.2 = true then 1 else 0
theorem numP_lt {g h : Nat} {p : Pl} (h1 : p.1 < g) (h2 : p.2.1 < h) : numP h p < 2 * g * h := by
  unfold numP
  have : p.1 * h + h ≤ g * h := by
    have := Nat.mul_le_mul_right h (show p.1 + 1 ≤ g from h1)
    rw [Nat.add_mul, Nat.one_mul] at this
    exact this
  have e : 2 * g * h = 2 * (g * h) := Nat.mul_assoc 2 g h
  rw [e]
  split <;> omega
theorem numP_inj {h : Nat} {p q : Pl} (h1 : p.2.1 < h) (h2 : q.2.1 < h) (e : numP h p = numP h q) : p = q := by
  obtain ⟨a, b, t⟩ := p
  obtain ⟨a', b', t'⟩ := q
  unfold numP at e
  simp only at e h1 h2
  have e1 : a * h + b = a' * h + b' ∧ t = t' := by
    cases t <;> cases t' <;> simp at e ⊢ <;> omega
  have e2 : a = a' := by
    rcases Nat.lt_trichotomy a a' with hl | hl | hl
    · have := Nat.mul_le_mul_right h (show a + 1 ≤ a' from hl)
      rw [Nat.add_mul, Nat.one_mul] at this
      omega
    · exact hl
    · have := Nat.mul_le_mul_right h (show a' + 1 ≤ a from hl)
      rw [Nat.add_mul, Nat.one_mul] at this
      omega
  subst e2
  have e3 : b = b' := by omega
  rw [e3, e1.2]
theorem step_lt {g h : List Nd} (hg : GN g) (hh : GN h) {p : Pl} (h1 : p.1 < g.length) (h2 : p.2.1 < h.length) (ho : okP g h p) : ∀ s ∈ nextS g h p, s.2.1 < g.length ∧ s.2.2.1 < h.length := by
  have hk : (nodeAt g p.1).kind = (nodeAt h p.2.1).kind := by
    unfold okP at ho
    split at ho
    · exact ho.1.symm
    · exact ho.1
  have lg := okN_len (hg.at_ h1)
  have lh := okN_len (hh.at_ h2)
  intro s hs
  unfold nextS stepsP at hs
  split at hs
  · rename_i hc
    rw [List.mem_singleton] at hs; subst hs
    exact ⟨hg.to_ 0 (lg.1 hc), hh.to_ 0 (lh.1 (by rw [← hk]; exact hc))⟩
  split at hs
  · rename_i hc
    have q1 := lg.2.1 hc
    have q2 := lh.2.1 (by rw [← hk]; exact hc)
    rcases List.mem_cons.1 hs with rfl | hs
    · exact ⟨hg.to_ 0 (by omega), hh.to_ 0 (by omega)⟩
    · rw [List.mem_singleton] at hs; subst hs
      exact ⟨hg.to_ 1 q1, hh.to_ 1 q2⟩
  · obtain ⟨x, l, hx, hm, rfl⟩ := mem_lab.1 hs
    exact ⟨hg.to_ x (lg.2.2 x (List.getElem?_eq_some_iff.1 hx).1), hh.to_ _ (lh.2.2 _ (idxB_lt hm))⟩
/-- what is known while it is searched -/
structure SR (g h : List Nd) (k : Nat) (arr : List Av) : Prop where
  hd : arr[0]? = some av0
  nd : (placesA arr).Nodup
  lt : ∀ p ∈ placesA arr, p.1 < g.length ∧ p.2.1 < h.length
  done : ∀ (i : Nat) (v : Av), i < k → arr[i]? = some v → failP g h v.1.2 = false ∧ ∀ s ∈ nextS g h v.1.2, s.2 ∈ placesA arr
  src : ∀ p ∈ placesA arr, ∃ n, ∀ N, blP g h (n + N) (0, 0, false) → blP g h N p
  way : ∀ (i : Nat) (v : Av), arr[i]? = some v → 0 < i → v.2 < i
  few : ∀ (i : Nat) (v : Av), arr[i]? = some v → v.2 ≤ k
theorem SR.start {g h : List Nd} (hg : 0 < g.length) (hh : 0 < h.length) : SR g h 0 [av0] :=
  ⟨rfl, by simp [placesA], fun p hp => by
    have : p = (0, 0, false) := by simpa [placesA, av0] using hp
    subst this; exact ⟨hg, hh⟩, fun i v hi => absurd hi (Nat.not_lt_zero _), fun p hp => by
    have : p = (0, 0, false) := by simpa [placesA, av0] using hp
    subst this; exact ⟨0, fun N hN => by simpa using hN⟩, fun i v hv hi => by
    cases i with
    | zero => omega
    | succ i => simp at hv, fun i v hv => by
    cases i with
    | zero => simp at hv; subst hv; exact Nat.le_refl _
    | succ i => simp at hv⟩
theorem SR.len {g h : List Nd} {k : Nat} {arr : List Av} (hs : SR g h k arr) : arr.length ≤ 2 * g.length * h.length := by
  have hn : ((placesA arr).map (numP h.length)).Nodup := by
    have : ∀ l : List Pl, (∀ p ∈ l, p.2.1 < h.length) → l.Nodup → (l.map (numP h.length)).Nodup := by
      intro l
      induction l with
      | nil => intro _ _; exact List.nodup_nil
      | cons p l ih =>
        intro hl hn
        rw [List.nodup_cons] at hn
        rw [List.map_cons, List.nodup_cons]
        refine ⟨fun hm => ?_, ih (fun q hq => hl q (.tail _ hq)) hn.2⟩
        obtain ⟨q, hq, e⟩ := List.mem_map.1 hm
        rw [numP_inj (hl q (.tail _ hq)) (hl p (.head _)) e] at hq
        exact hn.1 hq
    exact this _ (fun p hp => (hs.lt p hp).2) hs.nd
  have := nodup_le (2 * g.length * h.length) _ hn (fun x hx => by
    obtain ⟨p, hp, rfl⟩ := List.mem_map.1 hx
    exact numP_lt (hs.lt p hp).1 (hs.lt p hp).2)
  simpa [placesA] using this
theorem arrP_mem (arr : List Av) (s : Stp) (k : Nat) (p : Pl) : p ∈ placesA (arrP arr s k) ↔ p ∈ placesA arr ∨ p = s.2 := by
  unfold arrP
  split
  · rename_i hm
    constructor
    · exact .inl
    · rintro (h | rfl)
      · exact h
      · exact hm
  · simp [placesA]
theorem arrP_at {arr : List Av} {s : Stp} {k i : Nat} {v : Av} (h : (arrP arr s k)[i]? = some v) : arr[i]? = some v ∨ (i = arr.length ∧ v = (s, k)) := by
  unfold arrP at h
  split at h
  · exact .inl h
  · rw [List.getElem?_append] at h
    split at h
    · exact .inl h
    · rename_i hi
      have hil : i - arr.length = 0 := by
        have := (List.getElem?_eq_some_iff.1 h).1
        simp at this
        omega
      rw [hil] at h
      simp at h
      exact .inr ⟨by omega, h.symm⟩
theorem arrP_old {arr : List Av} {s : Stp} {k i : Nat} {v : Av} (h : arr[i]? = some v) : (arrP arr s k)[i]? = some v := by
  unfold arrP
  split
  · exact h
  · rw [List.getElem?_append_left (List.getElem?_eq_some_iff.1 h).1]; exact h
/-- one place more -/
theorem SR.add {g h : List Nd} {k : Nat} {arr : List Av} (hs : SR g h k arr) {s : Stp} {u : Av} (hk : arr[k]? = some u) (hlt : s.2.1 < g.length ∧ s.2.2.1 < h.length) (hm : s ∈ nextS g h u.1.2) : SR g h k (arrP arr s k) := by
  refine ⟨arrP_old hs.hd, ?_, fun p hp => ?_, fun i v hi hv => ?_, fun p hp => ?_, fun i v hv h0 => ?_, fun i v hv => ?_⟩
  · unfold arrP
    split
    · exact hs.nd
    · rename_i hn
      have e : placesA (arr ++ [(s, k)]) = placesA arr ++ [s.2] := by simp [placesA]
      rw [e, List.nodup_append]
      refine ⟨hs.nd, by simp, fun a ha b hb => ?_⟩
      rw [List.mem_singleton] at hb
      subst hb
      rintro rfl
      exact hn ha
  · rcases (arrP_mem arr s k p).1 hp with h1 | rfl
    · exact hs.lt p h1
    · exact hlt
  · rcases arrP_at hv with h1 | ⟨rfl, _⟩
    · have := hs.done i v hi h1
      exact ⟨this.1, fun q hq => (arrP_mem arr s k _).2 (.inl (this.2 q hq))⟩
    · have := (List.getElem?_eq_some_iff.1 hk).1
      omega
  · rcases (arrP_mem arr s k p).1 hp with h1 | rfl
    · exact hs.src p h1
    · obtain ⟨n, hn⟩ := hs.src u.1.2 (List.mem_map.2 ⟨u, List.mem_of_getElem? hk, rfl⟩)
      exact ⟨n + 1, fun N hN => (blP_next (hn (N + 1) (by rw [show n + (N + 1) = n + 1 + N by omega]; exact hN))).2 s hm⟩
  · rcases arrP_at hv with h1 | ⟨rfl, rfl⟩
    · exact hs.way i v h1 h0
    · exact (List.getElem?_eq_some_iff.1 hk).1
  · rcases arrP_at hv with h1 | ⟨rfl, rfl⟩
    · exact hs.few i v h1
    · exact Nat.le_refl _
theorem fold_arr {k : Nat} : ∀ (ss : List Stp) (arr : List Av), (∀ (i : Nat) (v : Av), arr[i]? = some v → (ss.foldl (fun arr s => arrP arr s k) arr)[i]? = some v) ∧ (∀ s ∈ ss, s.2 ∈ placesA (ss.foldl (fun arr s => arrP arr s k) arr)) ∧ ∀ p ∈ placesA arr, p ∈ placesA (ss.foldl (fun arr s => arrP arr s k) arr)
  | [], arr => ⟨fun _ _ h => h, fun s hs => (by cases hs), fun _ h => h⟩
  | s :: ss, arr => by
    obtain ⟨h1, h2, h3⟩ := fold_arr (k := k) ss (arrP arr s k)
    refine ⟨fun i v hv => h1 i v (arrP_old hv), fun q hq => ?_, fun p hp => h3 p ((arrP_mem arr s k p).2 (.inl hp))⟩
    rcases List.mem_cons.1 hq with rfl | hq
    · exact h3 _ ((arrP_mem arr q k _).2 (.inr rfl))
    · exact h2 q hq
theorem SR.fold {g h : List Nd} {k : Nat} {u : Av} : ∀ (ss : List Stp) (arr : List Av), SR g h k arr → arr[k]? = some u → (∀ s ∈ ss, s.2.1 < g.length ∧ s.2.2.1 < h.length) → (∀ s ∈ ss, s ∈ nextS g h u.1.2) → SR g h k (ss.foldl (fun arr s => arrP arr s k) arr)
  | [], _, hs, _, _, _ => hs
  | s :: ss, arr, hs, hk, hlt, hm => SR.fold ss (arrP arr s k) (hs.add hk (hlt s (.head _)) (hm s (.head _))) (arrP_old hk) (fun q hq => hlt q (.tail _ hq)) (fun q hq => hm q (.tail _ hq))
theorem SR.next {g h : List Nd} (hg : GN g) (hh : GN h) {k : Nat} {arr : List Av} (hs : SR g h k arr) {u : Av} (hk : arr[k]? = some u) (hf : failP g h u.1.2 = false) : SR g h (k + 1) (goOn g h k arr u.1.2) := by
  have hp := hs.lt u.1.2 (List.mem_map.2 ⟨u, List.mem_of_getElem? hk, rfl⟩)
  have hlt := step_lt hg hh hp.1 hp.2 ((failP_iff g h _).1 hf)
  have h1 := SR.fold (nextS g h u.1.2) arr hs hk hlt (fun s h => h)
  obtain ⟨f1, f2, f3⟩ := fold_arr (k := k) (nextS g h u.1.2) arr
  refine ⟨h1.hd, h1.nd, h1.lt, fun i v hi hv => ?_, h1.src, h1.way, fun i v hv => Nat.le_succ_of_le (h1.few i v hv)⟩
  by_cases e : i = k
  · subst e
    have : v = u := by
      have := f1 i u hk
      unfold goOn at hv
      rw [this] at hv
      exact (Option.some.inj hv).symm
    subst this
    exact ⟨hf, f2⟩
  · exact h1.done i v (by omega) hv
theorem SR.none_bl {g h : List Nd} (hg : GN g) (hh : GN h) {k : Nat} {arr : List Av} (hs : SR g h k arr) (hk : arr.length ≤ k) : ∀ n, ∀ p ∈ placesA arr, blP g h n p := by
  intro n
  induction n with
  | zero => intro p _; unfold blP; split <;> trivial
  | succ n ih =>
    intro p hp
    obtain ⟨v, hv, rfl⟩ := List.mem_map.1 hp
    obtain ⟨i, hi, e⟩ := List.mem_iff_getElem.1 hv
    have hd := hs.done i v (by omega) (by rw [List.getElem?_eq_getElem hi, e])
    have hl := hs.lt _ hp
    exact blP_step hg hh hl.1 hl.2 ((failP_iff g h _).1 hd.1) (fun s hq => ih _ (hd.2 s hq))
/-- what the search tells -/
theorem srch_iff {g h : List Nd} (hg : GN g) (hh : GN h) : ∀ (f k : Nat) (arr : List Av), SR g h k arr → k ≤ arr.length → 2 * g.length * h.length ≤ f + k →
    (∀ j A, srch g h f k arr = (some j, A) → j < A.length ∧ A.length ≤ 2 * g.length * h.length ∧ SR g h j A ∧ ¬ ∀ n, bl n g h 0 0) ∧ (∀ A, srch g h f k arr = (none, A) → ∀ n, bl n g h 0 0)
  | 0, k, arr, hs, hk, hf => by
    unfold srch
    refine ⟨fun j A e => (by simp at e), fun A e n => ?_⟩
    have hl := hs.len
    have := hs.none_bl hg hh (by omega) n (0, 0, false) (List.mem_map.2 ⟨av0, List.mem_of_getElem? hs.hd, rfl⟩)
    simpa [blP] using this
  | f + 1, k, arr, hs, hk, hf => by
    unfold srch
    by_cases hlt : k < arr.length
    · have hv : arr[k]? = some arr[k] := List.getElem?_eq_getElem hlt
      rw [hv]
      simp only
      by_cases hfl : failP g h arr[k].1.2 = true
      · rw [if_pos hfl]
        refine ⟨fun j A e => ?_, fun A e => (by simp at e)⟩
        simp only [Prod.mk.injEq, Option.some.injEq] at e
        obtain ⟨rfl, rfl⟩ := e
        refine ⟨hlt, hs.len, hs, fun hb => ?_⟩
        obtain ⟨n, hn⟩ := hs.src arr[k].1.2 (List.mem_map.2 ⟨arr[k], List.getElem_mem hlt, rfl⟩)
        have h1 := hn 1 (by simpa [blP] using hb (n + 1))
        have h2 := (failP_iff g h _).2 (blP_next h1).1
        rw [h2] at hfl; cases hfl
      · rw [if_neg hfl]
        have hfl' : failP g h arr[k].1.2 = false := by simpa using hfl
        refine srch_iff hg hh f (k + 1) _ (hs.next hg hh hv hfl') ?_ (by omega)
        have := (fold_arr (k := k) (nextS g h arr[k].1.2) arr).1 k arr[k] hv
        exact (List.getElem?_eq_some_iff.1 this).1
    · rw [List.getElem?_eq_none (by omega)]
      refine ⟨fun j A e => (by simp at e), fun A e n => ?_⟩
      have := hs.none_bl hg hh (by omega) n (0, 0, false) (List.mem_map.2 ⟨av0, List.mem_of_getElem? hs.hd, rfl⟩)
      simpa [blP] using this
/-- the whole search -/
def srchA (g h : List Nd) : Option Nat × List Av := srch g h (2 * g.length * h.length) 0 [av0]
theorem srchA_bl {g h : List Nd} (hg : GN g) (hh : GN h) : (srchA g h).1 = none ↔ ∀ n, bl n g h 0 0 := by
  have H := srch_iff hg hh (2 * g.length * h.length) 0 [av0] (SR.start hg.pos hh.pos) (Nat.zero_le _) (by omega)
  unfold srchA
  cases e : srch g h (2 * g.length * h.length) 0 [av0] with
  | mk o A =>
    cases o with
    | none => exact ⟨fun _ => H.2 A e, fun _ => rfl⟩
    | some j => exact ⟨fun h => (by cases h), fun hb => absurd hb (H.1 j A e).2.2.2⟩
/-- the way to an arrival, backwards -/
def wayB (arr : List Av) : Nat → Nat → List ByteArray
  | 0, _ => []
  | f + 1, k => if k = 0 then [] else ((arr[k]?).getD av0).1.1 :: wayB arr f ((arr[k]?).getD av0).2
theorem wayB_len (arr : List Av) (hw : ∀ (i : Nat) (v : Av), arr[i]? = some v → 0 < i → v.2 < i) : ∀ f k, k < arr.length → (wayB arr f k).length ≤ k
  | 0, k, _ => by simp [wayB]
  | f + 1, k, hk => by
    unfold wayB
    split
    · simp
    · rename_i h0
      have hv : arr[k]? = some arr[k] := List.getElem?_eq_getElem hk
      have h1 := hw k arr[k] hv (by omega)
      rw [hv]
      have := wayB_len arr hw f arr[k].2 (by omega)
      simp only [Option.getD_some, List.length_cons]
      omega
end Go.Proofs.YtnlpnbelkkgghaaDoor
/-
  Plain mathematics: the search of below's places, from wherever it begins.
-/
namespace Go.Proofs.YtnlpnbelkkgghaaDoor

def okB (g h : List Nd) (p : Pl) : Prop := p.1 < g.length ∧ p.2.1 < h.length
theorem below_wld {g h : List Nd} (hg : GN g) (hh : GN h) : WLD (failP g h) (nextS g h) (okB g h) (numP h.length) (2 * g.length * h.length) :=
  ⟨fun p hp hf s hs => step_lt hg hh hp.1 hp.2 ((failP_iff g h p).1 hf) s hs, fun _ hp => numP_lt hp.1 hp.2, fun _ _ hp hq e => numP_inj hp.2 hq.2 e⟩
/-- the whole search from nodes m and n on -/
def srB (g h : List Nd) (m n : Nat) : Option Nat × List Av := srGA (failP g h) (nextS g h) (2 * g.length * h.length) (m, n, false)
theorem srB_bl {g h : List Nd} (hg : GN g) (hh : GN h) {m n : Nat} (hm : m < g.length) (hn : n < h.length) : (srB g h m n).1 = none ↔ ∀ k, bl k g h m n := by
  have := srGA_iff (below_wld hg hh) (p0 := (m, n, false)) ⟨hm, hn⟩ (fun k p => blP g h k p) (fun p => by unfold blP; split <;> trivial)
    (fun k p hp hf hs => blP_step hg hh hp.1 hp.2 ((failP_iff g h p).1 hf) hs) (fun k p hb => ⟨(failP_iff g h p).2 (blP_next hb).1, (blP_next hb).2⟩)
  unfold srB
  rw [this]
  constructor
  · intro h k; simpa [blP] using h k
  · intro h k; simpa [blP] using h k
def belB (g h : List Nd) (m n : Nat) : Bool := (srB g h m n).1.isNone
theorem belB_iff {g h : List Nd} (hg : GN g) (hh : GN h) {m n : Nat} (hm : m < g.length) (hn : n < h.length) : belB g h m n = true ↔ ∀ k, bl k g h m n := by
  unfold belB
  rw [Option.isNone_iff_eq_none]
  exact srB_bl hg hh hm hn
end Go.Proofs.YtnlpnbelkkgghaaDoor

/-
  Plain mathematics: the other end of a graph; one is below another one just if the other one's other end is below the one's (GAY, HOLE).
-/
namespace Go.Proofs.YtnlpnbelkkgghaaDoor

def kdD (k : Int) : Int := if k = 2 then 3 else if k = 3 then 2 else if k = 4 then 5 else if k = 5 then 4 else if k = 6 then 7 else if k = 7 then 6 else k
def tuL (n : Nd) (N : Nat) : List Nat := if n.kind = 4 ∨ n.kind = 5 then (match n.to with | [] => [] | a :: r => (a + N) :: r) else n.to
def keL (n : Nd) (N : Nat) : List Nat := n.to.map fun t => t + N
def othT (N : Nat) (n : Nd) : Nd := ⟨kdD n.kind, n.so, n.labs, tuL n N⟩
def othK (N : Nat) (n : Nd) : Nd := ⟨n.kind, n.so, n.labs, keL n N⟩
/-- each node turned, and behind all of these each as it is -/
def othG (g : List Nd) : List Nd := g.map (othT g.length) ++ g.map (othK g.length)
theorem okN_mk {n : Nd} (h : (n.kind = 1 ∧ n.so = 0 ∧ n.labs = [] ∧ n.to.length = 0) ∨ ((n.kind = 2 ∨ n.kind = 3) ∧ (n.so = 1 ∨ n.so = 2 ∨ n.so = 3) ∧ n.labs = [] ∧ n.to.length = 1) ∨ ((n.kind = 4 ∨ n.kind = 5) ∧ n.so = 0 ∧ n.labs = [] ∧ n.to.length = 2) ∨ ((n.kind = 6 ∨ n.kind = 7) ∧ n.so = 0 ∧ labsOK n.labs = true ∧ n.to.length = n.labs.length)) : okN n := by
  unfold okN partT
  have he : (⟨#[]⟩ : ByteArray).toList.isEmpty = true := by rw [ByteArray.toList_eq]; rfl
  simp only [List.length_map, he]
  rcases h with ⟨h1, h2, h3, h4⟩ | ⟨h1, h2, h3, h4⟩ | ⟨h1, h2, h3, h4⟩ | ⟨h1, h2, h3, h4⟩
  · rw [if_pos h1]; simp [h2, h3, h4]
  · rw [if_neg (by omega), if_pos h1]; simp [h2, h3, h4]
  · rw [if_neg (by omega), if_neg (by omega), if_pos h1]; simp [h2, h3, h4]
  · rw [if_neg (by omega), if_neg (by omega), if_neg (by omega), if_pos h1]; simp [h2, h3, h4]
theorem kdD_cases (k : Int) : (k = 2 → kdD k = 3) ∧ (k = 3 → kdD k = 2) ∧ (k = 4 → kdD k = 5) ∧ (k = 5 → kdD k = 4) ∧ (k = 6 → kdD k = 7) ∧ (k = 7 → kdD k = 6) ∧ (k = 1 → kdD k = 1) := by
  refine ⟨?_, ?_, ?_, ?_, ?_, ?_, ?_⟩ <;> (intro h; subst h; decide)
theorem tuL_len (n : Nd) (N : Nat) : (tuL n N).length = n.to.length := by
  unfold tuL
  split
  · split
    · rename_i e; rw [e]
    · rename_i e; rw [e]; rfl
  · rfl
theorem oth_ok {n : Nd} (N : Nat) (h : okN n) : okN (othT N n) ∧ okN (othK N n) := by
  have kd := kdD_cases n.kind
  have hl := tuL_len n N
  have hk : (keL n N).length = n.to.length := by simp [keL]
  constructor
  · refine okN_mk ?_
    show (kdD n.kind = 1 ∧ n.so = 0 ∧ n.labs = [] ∧ (tuL n N).length = 0) ∨ _
    rw [hl]
    rcases okN_cases h with ⟨h1, h2, h3, h4⟩ | ⟨h1, h2, h3, h4⟩ | ⟨h1, h2, h3, h4⟩ | ⟨h1, h2, h3, h4⟩
    · exact .inl ⟨kd.2.2.2.2.2.2 h1, h2, h3, h4⟩
    · exact .inr (.inl ⟨h1.elim (fun e => .inr (kd.1 e)) (fun e => .inl (kd.2.1 e)), h2, h3, by show (tuL n N).length = 1; omega⟩)
    · exact .inr (.inr (.inl ⟨h1.elim (fun e => .inr (kd.2.2.1 e)) (fun e => .inl (kd.2.2.2.1 e)), h2, h3, by show (tuL n N).length = 2; omega⟩))
    · exact .inr (.inr (.inr ⟨h1.elim (fun e => .inr (kd.2.2.2.2.1 e)) (fun e => .inl (kd.2.2.2.2.2.1 e)), h2, h3, by show (tuL n N).length = n.labs.length; omega⟩))
  · refine okN_mk ?_
    have := okN_cases h
    show (n.kind = 1 ∧ n.so = 0 ∧ n.labs = [] ∧ (keL n N).length = 0) ∨ ((n.kind = 2 ∨ n.kind = 3) ∧ (n.so = 1 ∨ n.so = 2 ∨ n.so = 3) ∧ n.labs = [] ∧ (keL n N).length = 1) ∨ ((n.kind = 4 ∨ n.kind = 5) ∧ n.so = 0 ∧ n.labs = [] ∧ (keL n N).length = 2) ∨ ((n.kind = 6 ∨ n.kind = 7) ∧ n.so = 0 ∧ labsOK n.labs = true ∧ (keL n N).length = n.labs.length)
    rw [hk]
    exact this
theorem oth_len (g : List Nd) : (othG g).length = 2 * g.length := by simp [othG]; omega
theorem tuL_lt {n : Nd} {N : Nat} (h : ∀ t ∈ n.to, t < N) : ∀ t ∈ tuL n N, t < 2 * N := by
  intro t ht
  unfold tuL at ht
  split at ht
  · split at ht
    · cases ht
    · rename_i a r e
      rcases List.mem_cons.1 ht with rfl | ht
      · have := h a (by rw [e]; exact .head _); omega
      · have := h t (by rw [e]; exact .tail _ ht); omega
  · have := h t ht; omega
theorem oth_gn {g : List Nd} (hg : GN g) (hl : g.length ≤ 100) : GN (othG g) := by
  refine ⟨by rw [oth_len]; have := hg.pos; omega, by rw [oth_len]; omega, fun n hn => ?_, fun n hn t ht => ?_⟩
  · unfold othG at hn
    rcases List.mem_append.1 hn with hn | hn
    · obtain ⟨m, hm, rfl⟩ := List.mem_map.1 hn; exact (oth_ok _ (hg.ok m hm)).1
    · obtain ⟨m, hm, rfl⟩ := List.mem_map.1 hn; exact (oth_ok _ (hg.ok m hm)).2
  · rw [oth_len]
    unfold othG at hn
    rcases List.mem_append.1 hn with hn | hn
    · obtain ⟨m, hm, rfl⟩ := List.mem_map.1 hn
      exact tuL_lt (fun t ht => hg.shut m hm t ht) t ht
    · obtain ⟨m, hm, rfl⟩ := List.mem_map.1 hn
      obtain ⟨x, hx, rfl⟩ := List.mem_map.1 ht
      have := hg.shut m hm x hx
      omega
theorem oth_at1 {g : List Nd} {i : Nat} (hi : i < g.length) : nodeAt (othG g) i = othT g.length (nodeAt g i) := by
  rw [nodeAt_lt g i hi]
  refine nodeAt_some ?_
  unfold othG
  rw [List.getElem?_append_left (by simpa using hi), List.getElem?_map, List.getElem?_eq_getElem hi]
  rfl
theorem oth_at2 {g : List Nd} {i : Nat} (hi : i < g.length) : nodeAt (othG g) (i + g.length) = othK g.length (nodeAt g i) := by
  rw [nodeAt_lt g i hi]
  refine nodeAt_some ?_
  unfold othG
  rw [List.getElem?_append_right (by simp), List.length_map, Nat.add_sub_cancel, List.getElem?_map, List.getElem?_eq_getElem hi]
  rfl
/-- what is kept does the same -/
theorem oth_kept {g : List Nd} (hg : GN g) : ∀ (k i : Nat), i < g.length → gT (othG g) k (i + g.length) = gT g k i
  | 0, _, _ => rfl
  | k + 1, i, hi => by
    rw [gT_eq_iff, oth_at2 hi]
    refine ⟨rfl, rfl, rfl, ?_⟩
    show (((nodeAt g i).to.map fun t => t + g.length).map _) = _
    rw [List.map_map]
    exact List.map_congr_left fun t ht => oth_kept hg k t (shut_at hg.shut i t ht)
theorem bl_resp {g h g' h' : List Nd} (Hg : GN g) (Hh : GN h) (Hg' : GN g') (Hh' : GN h') {k i j i' j' : Nat} (hi : i < g.length) (hj : j < h.length) (hi' : i' < g'.length) (hj' : j' < h'.length) (e1 : gT g' k i' = gT g k i) (e2 : gT h' k j' = gT h k j) : bl k g' h' i' j' ↔ bl k g h i j := by
  constructor
  · intro hb
    exact bl_trans k g g' h i i' j (bl_alike k g g' i i' Hg Hg' hi hi' e1.symm) (bl_trans k g' h' h i' j' j hb (bl_alike k h' h j' j Hh' Hh hj' hj e2))
  · intro hb
    exact bl_trans k g' g h' i' i j' (bl_alike k g' g i' i Hg' Hg hi' hi e1) (bl_trans k g h h' i j j' hb (bl_alike k h h' j j' Hh Hh' hj hj' e2.symm))
theorem tuL_0 {n : Nd} {N : Nat} (hk : n.kind = 4 ∨ n.kind = 5) (hl : 1 < n.to.length) : toAt (othT N n) 0 = toAt n 0 + N ∧ toAt (othT N n) 1 = toAt n 1 := by
  unfold toAt othT tuL
  simp only
  rw [if_pos hk]
  match hq : n.to, hl with
  | a :: b :: r, _ => exact ⟨rfl, rfl⟩
theorem tuL_x {n : Nd} {N : Nat} (hk : ¬ (n.kind = 4 ∨ n.kind = 5)) (x : Nat) : toAt (othT N n) x = toAt n x := by
  unfold toAt othT tuL
  simp only
  rw [if_neg hk]
theorem kdD_inj {n m : Nd} (hn : okN n) (hm : okN m) (h : kdD n.kind = kdD m.kind) : n.kind = m.kind := by
  have a := okN_cases hn
  have b := okN_cases hm
  unfold kdD at h
  split at h <;> split at h <;> (try omega) <;> (repeat' split at h) <;> omega
/-- GAY, HOLE: turned round -/
theorem bl_dual {g h : List Nd} (hg : GN g) (hh : GN h) (lg : g.length ≤ 100) (lh : h.length ≤ 100) : ∀ (k i j : Nat), i < g.length → j < h.length → (bl k (othG h) (othG g) j i ↔ bl k g h i j)
  | 0, _, _, _, _ => ⟨fun _ => trivial, fun _ => trivial⟩
  | k + 1, i, j, hi, hj => by
    have og := oth_gn hg lg
    have oh := oth_gn hh lh
    have ng := hg.at_ hi
    have nh := hh.at_ hj
    have cg := okN_cases ng
    have ch := okN_cases nh
    have Lg := okN_len ng
    have Lh := okN_len nh
    have kg := kdD_cases (nodeAt g i).kind
    have kh := kdD_cases (nodeAt h j).kind
    have kept : ∀ a b, a < g.length → b < h.length → (bl k (othG g) (othG h) (a + g.length) (b + h.length) ↔ bl k g h a b) := fun a b ha hb => bl_resp hg hh og oh ha hb (by rw [oth_len]; omega) (by rw [oth_len]; omega) (oth_kept hg k a ha) (oth_kept hh k b hb)
    have kept2 : ∀ a b, a < g.length → b < h.length → (bl k (othG h) (othG g) (b + h.length) (a + g.length) ↔ bl k h g b a) := fun a b ha hb => bl_resp hh hg oh og hb ha (by rw [oth_len]; omega) (by rw [oth_len]; omega) (oth_kept hh k b hb) (oth_kept hg k a ha)
    rw [bl_succ, bl_succ, oth_at1 hi, oth_at1 hj]
    have hkind : kdD (nodeAt h j).kind = kdD (nodeAt g i).kind ↔ (nodeAt g i).kind = (nodeAt h j).kind := ⟨fun e => (kdD_inj nh ng e).symm, fun e => by rw [e]⟩
    by_cases hK : (nodeAt g i).kind = (nodeAt h j).kind
    · have hlabs : okI (othT h.length (nodeAt h j)) (othT g.length (nodeAt g i)) ↔ okI (nodeAt g i) (nodeAt h j) := by
        unfold okI othT
        simp only
        rw [hkind]
        refine and_congr_right fun _ => and_congr (eq_comm) ?_
        rcases cg with ⟨c1, _, c3, _⟩ | ⟨c1, _, c3, _⟩ | ⟨c1, _, c3, _⟩ | ⟨c1 | c1, _, _, _⟩
        · have : (nodeAt h j).labs = [] := by rcases ch with ⟨_, _, d3, _⟩ | ⟨_, _, d3, _⟩ | ⟨_, _, d3, _⟩ | ⟨d1, _⟩ <;> first | exact d3 | omega
          rw [c3, this]; simp
        · have : (nodeAt h j).labs = [] := by rcases ch with ⟨_, _, d3, _⟩ | ⟨_, _, d3, _⟩ | ⟨_, _, d3, _⟩ | ⟨d1, _⟩ <;> first | exact d3 | omega
          rw [c3, this]; simp
        · have : (nodeAt h j).labs = [] := by rcases ch with ⟨_, _, d3, _⟩ | ⟨_, _, d3, _⟩ | ⟨_, _, d3, _⟩ | ⟨d1, _⟩ <;> first | exact d3 | omega
          rw [c3, this]; simp
        · rw [kh.2.2.2.2.1 (by rw [← hK]; exact c1), if_pos rfl, c1, if_neg (by decide)]
        · rw [kh.2.2.2.2.2.1 (by rw [← hK]; exact c1), if_neg (by decide), c1, if_pos rfl]
      rw [hlabs]
      refine and_congr_right fun _ => ?_
      have ek : (othT h.length (nodeAt h j)).kind = kdD (nodeAt h j).kind := rfl
      have el1 : (othT h.length (nodeAt h j)).labs = (nodeAt h j).labs := rfl
      have el2 : (othT g.length (nodeAt g i)).labs = (nodeAt g i).labs := rfl
      rw [ek, el1, el2]
      rcases cg with ⟨c1, _, c3, c4⟩ | ⟨c1, _, c3, c4⟩ | ⟨c1 | c1, _, c3, c4⟩ | ⟨c1, _, _, c4⟩
      · have k1 : kdD (nodeAt h j).kind = 1 := kh.2.2.2.2.2.2 (by rw [← hK]; exact c1)
        rw [k1, c1, c3]
        constructor
        · intro _
          exact ⟨fun h => by omega, fun h => by omega, fun h => by omega, fun x y l hx => by simp at hx⟩
        · intro _
          exact ⟨fun h => by omega, fun h => by omega, fun h => by omega, fun x y l _ hy => by simp at hy⟩
      · have e1 := tuL_x (n := nodeAt g i) (N := g.length) (by omega)
        have e2 := tuL_x (n := nodeAt h j) (N := h.length) (by omega)
        have D := bl_dual hg hh lg lh k (toAt (nodeAt g i) 0) (toAt (nodeAt h j) 0) (hg.to_ 0 (by omega)) (hh.to_ 0 (Lh.1 (by rw [← hK]; exact c1)))
        have k1 : kdD (nodeAt h j).kind = 2 ∨ kdD (nodeAt h j).kind = 3 := c1.elim (fun e => .inr (kh.1 (by rw [← hK]; exact e))) (fun e => .inl (kh.2.1 (by rw [← hK]; exact e)))
        rw [e1, e2, c3]
        constructor
        · rintro ⟨q1, _⟩
          exact ⟨fun _ => D.1 (q1 k1), fun h => by omega, fun h => by omega, fun x y l hx => by simp at hx⟩
        · rintro ⟨q1, _⟩
          exact ⟨fun _ => D.2 (q1 c1), fun h => by omega, fun h => by omega, fun x y l _ hy => by simp at hy⟩
      · have e1 := tuL_0 (N := g.length) (.inl c1) (Lg.2.1 (.inl c1))
        have hm4 : (nodeAt h j).kind = 4 := by rw [← hK]; exact c1
        have e2 := tuL_0 (N := h.length) (.inl hm4) (Lh.2.1 (.inl hm4))
        have l2 := Lh.2.1 (.inl hm4)
        have D := bl_dual hg hh lg lh k (toAt (nodeAt g i) 1) (toAt (nodeAt h j) 1) (hg.to_ 1 (by omega)) (hh.to_ 1 l2)
        have Kp := kept2 (toAt (nodeAt g i) 0) (toAt (nodeAt h j) 0) (hg.to_ 0 (by omega)) (hh.to_ 0 (by omega))
        have k1 : kdD (nodeAt h j).kind = 5 := kh.2.2.1 hm4
        rw [e1.1, e1.2, e2.1, e2.2, c3, k1, c1]
        constructor
        · rintro ⟨_, _, q3, _⟩
          exact ⟨fun h => by omega, fun _ => ⟨Kp.1 (q3 rfl).1, D.1 (q3 rfl).2⟩, fun h => by omega, fun x y l hx => by simp at hx⟩
        · rintro ⟨_, q2, _, _⟩
          exact ⟨fun h => by omega, fun h => by omega, fun _ => ⟨Kp.2 (q2 rfl).1, D.2 (q2 rfl).2⟩, fun x y l _ hy => by simp at hy⟩
      · have e1 := tuL_0 (N := g.length) (.inr c1) (Lg.2.1 (.inr c1))
        have hm4 : (nodeAt h j).kind = 5 := by rw [← hK]; exact c1
        have e2 := tuL_0 (N := h.length) (.inr hm4) (Lh.2.1 (.inr hm4))
        have l2 := Lh.2.1 (.inr hm4)
        have D := bl_dual hg hh lg lh k (toAt (nodeAt g i) 1) (toAt (nodeAt h j) 1) (hg.to_ 1 (by omega)) (hh.to_ 1 l2)
        have Kp := kept (toAt (nodeAt g i) 0) (toAt (nodeAt h j) 0) (hg.to_ 0 (by omega)) (hh.to_ 0 (by omega))
        have k1 : kdD (nodeAt h j).kind = 4 := kh.2.2.2.1 hm4
        rw [e1.1, e1.2, e2.1, e2.2, c3, k1, c1]
        constructor
        · rintro ⟨_, q2, _, _⟩
          exact ⟨fun h => by omega, fun h => by omega, fun _ => ⟨Kp.1 (q2 rfl).1, D.1 (q2 rfl).2⟩, fun x y l hx => by simp at hx⟩
        · rintro ⟨_, _, q3, _⟩
          exact ⟨fun h => by omega, fun _ => ⟨Kp.2 (q3 rfl).1, D.2 (q3 rfl).2⟩, fun h => by omega, fun x y l _ hy => by simp at hy⟩
      · have e1 := tuL_x (n := nodeAt g i) (N := g.length) (by omega)
        have e2 := tuL_x (n := nodeAt h j) (N := h.length) (by omega)
        have k1 : kdD (nodeAt h j).kind = 6 ∨ kdD (nodeAt h j).kind = 7 := c1.elim (fun e => .inr (kh.2.2.2.2.1 (by rw [← hK]; exact e))) (fun e => .inl (kh.2.2.2.2.2.1 (by rw [← hK]; exact e)))
        have D : ∀ x y l, (nodeAt g i).labs[x]? = some l → (nodeAt h j).labs[y]? = some l → (bl k (othG h) (othG g) (toAt (nodeAt h j) y) (toAt (nodeAt g i) x) ↔ bl k g h (toAt (nodeAt g i) x) (toAt (nodeAt h j) y)) := fun x y l hx hy => bl_dual hg hh lg lh k _ _ (hg.to_ x (Lg.2.2 x (List.getElem?_eq_some_iff.1 hx).1)) (hh.to_ y (Lh.2.2 y (List.getElem?_eq_some_iff.1 hy).1))
        constructor
        · rintro ⟨_, _, _, q4⟩
          exact ⟨fun h => by omega, fun h => by omega, fun h => by omega, fun x y l hx hy => (D x y l hx hy).1 (by have := q4 y x l hy hx; rw [e1, e2] at this; exact this)⟩
        · rintro ⟨_, _, _, q4⟩
          exact ⟨fun h => by omega, fun h => by omega, fun h => by omega, fun x y l hx hy => by rw [e1, e2]; exact (D y x l hy hx).2 (q4 y x l hy hx)⟩
    · constructor
      · rintro ⟨o, _⟩
        exact absurd (hkind.1 o.1) hK
      · rintro ⟨o, _⟩
        exact absurd o.1 hK
end Go.Proofs.YtnlpnbelkkgghaaDoor
