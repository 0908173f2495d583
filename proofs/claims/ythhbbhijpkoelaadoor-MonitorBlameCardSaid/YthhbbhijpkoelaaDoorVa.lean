/-
  Plain mathematics: a search that comes to each place once, on the first of the shortest ways; what it tells.
-/
import Derived.Test.YthhbbhijpkoelaaDoorHc
namespace Go.Proofs.YthhbbhijpkoelaaDoor

section
variable {α : Type}
abbrev Sg (α : Type) := ByteArray × α
abbrev Ag (α : Type) := Sg α × Nat
def plG (arr : List (Ag α)) : List α := arr.map fun v => v.1.2
def addG [DecidableEq α] (arr : List (Ag α)) (s : Sg α) (k : Nat) : List (Ag α) := if s.2 ∈ plG arr then arr else arr ++ [(s, k)]
def onG [DecidableEq α] (next : α → List (Sg α)) (k : Nat) (arr : List (Ag α)) (p : α) : List (Ag α) := (next p).foldl (fun a s => addG a s k) arr
def srG [DecidableEq α] (fail : α → Bool) (next : α → List (Sg α)) : Nat → Nat → List (Ag α) → Option Nat × List (Ag α)
  | 0, _, arr => (none, arr)
  | f + 1, k, arr => match arr[k]? with
    | none => (none, arr)
    | some v => if fail v.1.2 = true then (some k, arr) else srG fail next f (k + 1) (onG next k arr v.1.2)
def avG (p : α) : Ag α := ((⟨#[]⟩, p), 0)
theorem srG_stop [DecidableEq α] {fail : α → Bool} {next : α → List (Sg α)} {f k : Nat} {arr : List (Ag α)} (h : arr.length ≤ k) : srG fail next f k arr = (none, arr) := by
  cases f with
  | zero => rfl
  | succ f => unfold srG; rw [List.getElem?_eq_none h]
theorem srG_fail [DecidableEq α] {fail : α → Bool} {next : α → List (Sg α)} {f k : Nat} {arr : List (Ag α)} {v : Ag α} (hv : arr[k]? = some v) (hf : fail v.1.2 = true) : srG fail next (f + 1) k arr = (some k, arr) := by
  unfold srG; rw [hv]; simp only; rw [if_pos hf]
theorem srG_go [DecidableEq α] {fail : α → Bool} {next : α → List (Sg α)} {f k : Nat} {arr : List (Ag α)} {v : Ag α} (hv : arr[k]? = some v) (hf : fail v.1.2 = false) : srG fail next (f + 1) k arr = srG fail next f (k + 1) (onG next k arr v.1.2) := by
  conv => lhs; unfold srG
  rw [hv]; simp only; rw [if_neg (by rw [hf]; decide)]
/-- p is come to from p0 by n steps, none of which starts where it fails -/
def rch (fail : α → Bool) (next : α → List (Sg α)) (p0 : α) : Nat → α → Prop
  | 0, p => p = p0
  | n + 1, p => ∃ q, rch fail next p0 n q ∧ fail q = false ∧ ∃ s ∈ next q, s.2 = p
/-- what is known of the search's places -/
structure WLD (fail : α → Bool) (next : α → List (Sg α)) (ok : α → Prop) (num : α → Nat) (M : Nat) : Prop where
  step : ∀ p, ok p → fail p = false → ∀ s ∈ next p, ok s.2
  lt : ∀ p, ok p → num p < M
  inj : ∀ p q, ok p → ok q → num p = num q → p = q
/-- what is known while it is searched -/
structure SRg (fail : α → Bool) (next : α → List (Sg α)) (ok : α → Prop) (p0 : α) (k : Nat) (arr : List (Ag α)) : Prop where
  hd : arr[0]? = some (avG p0)
  nd : (plG arr).Nodup
  lt : ∀ p ∈ plG arr, ok p
  done : ∀ (i : Nat) (v : Ag α), i < k → arr[i]? = some v → fail v.1.2 = false ∧ ∀ s ∈ next v.1.2, s.2 ∈ plG arr
  src : ∀ p ∈ plG arr, ∃ n, rch fail next p0 n p
  way : ∀ (i : Nat) (v : Ag α), arr[i]? = some v → 0 < i → v.2 < i
  few : ∀ (i : Nat) (v : Ag α), arr[i]? = some v → v.2 ≤ k
variable {fail : α → Bool} {next : α → List (Sg α)} {ok : α → Prop} {num : α → Nat} {M : Nat}
theorem SRg.start {p0 : α} (h : ok p0) : SRg fail next ok p0 0 [avG p0] :=
  ⟨rfl, by simp [plG], fun p hp => by
    have : p = p0 := by simpa [plG, avG] using hp
    subst this; exact h, fun i v hi => absurd hi (Nat.not_lt_zero _), fun p hp => by
    have : p = p0 := by simpa [plG, avG] using hp
    subst this; exact ⟨0, rfl⟩, fun i v hv hi => by
    cases i with
    | zero => omega
    | succ i => simp at hv, fun i v hv => by
    cases i with
    | zero => simp at hv; subst hv; exact Nat.le_refl _
    | succ i => simp at hv⟩
theorem SRg.len (hW : WLD fail next ok num M) {p0 : α} {k : Nat} {arr : List (Ag α)} (hs : SRg fail next ok p0 k arr) : arr.length ≤ M := by
  have hn : ((plG arr).map num).Nodup := by
    have : ∀ l : List α, (∀ p ∈ l, ok p) → l.Nodup → (l.map num).Nodup := by
      intro l
      induction l with
      | nil => intro _ _; exact List.nodup_nil
      | cons p l ih =>
        intro hl hn
        rw [List.nodup_cons] at hn
        rw [List.map_cons, List.nodup_cons]
        refine ⟨fun hm => ?_, ih (fun q hq => hl q (.tail _ hq)) hn.2⟩
        obtain ⟨q, hq, e⟩ := List.mem_map.1 hm
        rw [hW.inj q p (hl q (.tail _ hq)) (hl p (.head _)) e] at hq
        exact hn.1 hq
    exact this _ hs.lt hs.nd
  have := nodup_le M _ hn (fun x hx => by
    obtain ⟨p, hp, rfl⟩ := List.mem_map.1 hx
    exact hW.lt p (hs.lt p hp))
  simpa [plG] using this
theorem addG_mem [DecidableEq α] (arr : List (Ag α)) (s : Sg α) (k : Nat) (p : α) : p ∈ plG (addG arr s k) ↔ p ∈ plG arr ∨ p = s.2 := by
  unfold addG
  split
  · rename_i hm
    constructor
    · exact .inl
    · rintro (h | rfl)
      · exact h
      · exact hm
  · simp [plG]
theorem addG_at [DecidableEq α] {arr : List (Ag α)} {s : Sg α} {k i : Nat} {v : Ag α} (h : (addG arr s k)[i]? = some v) : arr[i]? = some v ∨ (i = arr.length ∧ v = (s, k)) := by
  unfold addG at h
  split at h
  · exact .inl h
  · rw [List.getElem?_append] at h
    split at h
    · exact .inl h
    · rename_i hi
      have hil : i - arr.length = 0 := by
        have := (List.getElem?_eq_some_iff.1 h).1
        simp at this
        omega
      rw [hil] at h
      simp at h
      exact .inr ⟨by omega, h.symm⟩
theorem addG_old [DecidableEq α] {arr : List (Ag α)} {s : Sg α} {k i : Nat} {v : Ag α} (h : arr[i]? = some v) : (addG arr s k)[i]? = some v := by
  unfold addG
  split
  · exact h
  · rw [List.getElem?_append_left (List.getElem?_eq_some_iff.1 h).1]; exact h
/-- one place more -/
theorem SRg.add [DecidableEq α] (hW : WLD fail next ok num M) {p0 : α} {k : Nat} {arr : List (Ag α)} (hs : SRg fail next ok p0 k arr) {s : Sg α} {u : Ag α} (hk : arr[k]? = some u) (hf : fail u.1.2 = false) (hm : s ∈ next u.1.2) : SRg fail next ok p0 k (addG arr s k) := by
  have hmu : u.1.2 ∈ plG arr := List.mem_map.2 ⟨u, List.mem_of_getElem? hk, rfl⟩
  refine ⟨addG_old hs.hd, ?_, fun p hp => ?_, fun i v hi hv => ?_, fun p hp => ?_, fun i v hv h0 => ?_, fun i v hv => ?_⟩
  · unfold addG
    split
    · exact hs.nd
    · rename_i hn
      have e : plG (arr ++ [(s, k)]) = plG arr ++ [s.2] := by simp [plG]
      rw [e, List.nodup_append]
      refine ⟨hs.nd, by simp, fun a ha b hb => ?_⟩
      rw [List.mem_singleton] at hb
      subst hb
      rintro rfl
      exact hn ha
  · rcases (addG_mem arr s k p).1 hp with h1 | rfl
    · exact hs.lt p h1
    · exact hW.step _ (hs.lt _ hmu) hf s hm
  · rcases addG_at hv with h1 | ⟨rfl, _⟩
    · have := hs.done i v hi h1
      exact ⟨this.1, fun q hq => (addG_mem arr s k _).2 (.inl (this.2 q hq))⟩
    · have := (List.getElem?_eq_some_iff.1 hk).1
      omega
  · rcases (addG_mem arr s k p).1 hp with h1 | rfl
    · exact hs.src p h1
    · obtain ⟨n, hn⟩ := hs.src u.1.2 hmu
      exact ⟨n + 1, u.1.2, hn, hf, s, hm, rfl⟩
  · rcases addG_at hv with h1 | ⟨rfl, rfl⟩
    · exact hs.way i v h1 h0
    · exact (List.getElem?_eq_some_iff.1 hk).1
  · rcases addG_at hv with h1 | ⟨rfl, rfl⟩
    · exact hs.few i v h1
    · exact Nat.le_refl _
theorem foldG [DecidableEq α] {k : Nat} : ∀ (ss : List (Sg α)) (arr : List (Ag α)), (∀ (i : Nat) (v : Ag α), arr[i]? = some v → (ss.foldl (fun arr s => addG arr s k) arr)[i]? = some v) ∧ (∀ s ∈ ss, s.2 ∈ plG (ss.foldl (fun arr s => addG arr s k) arr)) ∧ ∀ p ∈ plG arr, p ∈ plG (ss.foldl (fun arr s => addG arr s k) arr)
  | [], arr => ⟨fun _ _ h => h, fun s hs => (by cases hs), fun _ h => h⟩
  | s :: ss, arr => by
    obtain ⟨h1, h2, h3⟩ := foldG (k := k) ss (addG arr s k)
    refine ⟨fun i v hv => h1 i v (addG_old hv), fun q hq => ?_, fun p hp => h3 p ((addG_mem arr s k p).2 (.inl hp))⟩
    rcases List.mem_cons.1 hq with rfl | hq
    · exact h3 _ ((addG_mem arr q k _).2 (.inr rfl))
    · exact h2 q hq
theorem SRg.fold [DecidableEq α] (hW : WLD fail next ok num M) {p0 : α} {k : Nat} {u : Ag α} (hf : fail u.1.2 = false) : ∀ (ss : List (Sg α)) (arr : List (Ag α)), SRg fail next ok p0 k arr → arr[k]? = some u → (∀ s ∈ ss, s ∈ next u.1.2) → SRg fail next ok p0 k (ss.foldl (fun arr s => addG arr s k) arr)
  | [], _, hs, _, _ => hs
  | s :: ss, arr, hs, hk, hm => SRg.fold hW hf ss (addG arr s k) (hs.add hW hk hf (hm s (.head _))) (addG_old hk) (fun q hq => hm q (.tail _ hq))
theorem SRg.on [DecidableEq α] (hW : WLD fail next ok num M) {p0 : α} {k : Nat} {arr : List (Ag α)} (hs : SRg fail next ok p0 k arr) {u : Ag α} (hk : arr[k]? = some u) (hf : fail u.1.2 = false) : SRg fail next ok p0 (k + 1) (onG next k arr u.1.2) := by
  have h1 := SRg.fold hW hf (next u.1.2) arr hs hk (fun s h => h)
  obtain ⟨f1, f2, f3⟩ := foldG (k := k) (next u.1.2) arr
  refine ⟨h1.hd, h1.nd, h1.lt, fun i v hi hv => ?_, h1.src, h1.way, fun i v hv => Nat.le_succ_of_le (h1.few i v hv)⟩
  by_cases e : i = k
  · subst e
    have : v = u := by
      have := f1 i u hk
      unfold onG at hv
      rw [this] at hv
      exact (Option.some.inj hv).symm
    subst this
    exact ⟨hf, f2⟩
  · exact h1.done i v (by omega) hv
theorem SRg.shut {p0 : α} {k : Nat} {arr : List (Ag α)} (hs : SRg fail next ok p0 k arr) (hk : arr.length ≤ k) : p0 ∈ plG arr ∧ ∀ p ∈ plG arr, fail p = false ∧ ∀ s ∈ next p, s.2 ∈ plG arr := by
  refine ⟨List.mem_map.2 ⟨avG p0, List.mem_of_getElem? hs.hd, rfl⟩, fun p hp => ?_⟩
  obtain ⟨v, hv, rfl⟩ := List.mem_map.1 hp
  obtain ⟨i, hi, e⟩ := List.mem_iff_getElem.1 hv
  exact hs.done i v (by omega) (by rw [List.getElem?_eq_getElem hi, e])
/-- what the search tells -/
theorem srG_tells [DecidableEq α] (hW : WLD fail next ok num M) {p0 : α} : ∀ (f k : Nat) (arr : List (Ag α)), SRg fail next ok p0 k arr → k ≤ arr.length → M ≤ f + k →
    (∀ j A, srG fail next f k arr = (some j, A) → j < A.length ∧ A.length ≤ M ∧ SRg fail next ok p0 j A ∧ ∃ v, A[j]? = some v ∧ fail v.1.2 = true) ∧ (∀ A, srG fail next f k arr = (none, A) → SRg fail next ok p0 A.length A)
  | 0, k, arr, hs, hk, hf => by
    unfold srG
    refine ⟨fun j A e => (by simp at e), fun A e => ?_⟩
    have hl := hs.len hW
    obtain rfl : arr = A := (Prod.mk.inj e).2
    have : k = arr.length := by omega
    subst this
    exact hs
  | f + 1, k, arr, hs, hk, hf => by
    by_cases hlt : k < arr.length
    · have hv : arr[k]? = some arr[k] := List.getElem?_eq_getElem hlt
      cases hfl : fail arr[k].1.2 with
      | true =>
        rw [srG_fail hv hfl]
        refine ⟨fun j A e => ?_, fun A e => (by simp at e)⟩
        simp only [Prod.mk.injEq, Option.some.injEq] at e
        obtain ⟨rfl, rfl⟩ := e
        exact ⟨hlt, hs.len hW, hs, _, hv, hfl⟩
      | false =>
        rw [srG_go hv hfl]
        refine srG_tells hW f (k + 1) _ (hs.on hW hv hfl) ?_ (by omega)
        have := (foldG (k := k) (next arr[k].1.2) arr).1 k arr[k] hv
        exact (List.getElem?_eq_some_iff.1 this).1
    · rw [srG_stop (by omega)]
      refine ⟨fun j A e => (by simp at e), fun A e => ?_⟩
      obtain rfl : arr = A := (Prod.mk.inj e).2
      have : k = arr.length := by omega
      subst this
      exact hs
/-- the whole search -/
def srGA [DecidableEq α] (fail : α → Bool) (next : α → List (Sg α)) (M : Nat) (p0 : α) : Option Nat × List (Ag α) := srG fail next M 0 [avG p0]
theorem srGA_none [DecidableEq α] (hW : WLD fail next ok num M) {p0 : α} (h0 : ok p0) {A : List (Ag α)} (h : srGA fail next M p0 = (none, A)) : SRg fail next ok p0 A.length A :=
  (srG_tells hW M 0 [avG p0] (SRg.start h0) (Nat.zero_le _) (by omega)).2 A h
theorem srGA_some [DecidableEq α] (hW : WLD fail next ok num M) {p0 : α} (h0 : ok p0) {A : List (Ag α)} {j : Nat} (h : srGA fail next M p0 = (some j, A)) : j < A.length ∧ A.length ≤ M ∧ SRg fail next ok p0 j A ∧ ∃ v, A[j]? = some v ∧ fail v.1.2 = true :=
  (srG_tells hW M 0 [avG p0] (SRg.start h0) (Nat.zero_le _) (by omega)).1 j A h
/-- what holds of all that is come to, if nothing fails; and is refuted by what fails -/
theorem srGA_iff [DecidableEq α] (hW : WLD fail next ok num M) {p0 : α} (h0 : ok p0) (B : Nat → α → Prop) (b0 : ∀ p, B 0 p) (bs : ∀ n p, ok p → fail p = false → (∀ s ∈ next p, B n s.2) → B (n + 1) p) (bn : ∀ n p, B (n + 1) p → fail p = false ∧ ∀ s ∈ next p, B n s.2) :
    (srGA fail next M p0).1 = none ↔ ∀ n, B n p0 := by
  cases e : srGA fail next M p0 with
  | mk o A =>
    cases o with
    | none =>
      refine ⟨fun _ => ?_, fun _ => rfl⟩
      have hs := srGA_none hW h0 e
      obtain ⟨h1, h2⟩ := hs.shut (Nat.le_refl _)
      have : ∀ n, ∀ p ∈ plG A, B n p := by
        intro n
        induction n with
        | zero => intro p _; exact b0 p
        | succ n ih => intro p hp; exact bs n p (hs.lt p hp) (h2 p hp).1 fun s hq => ih _ ((h2 p hp).2 s hq)
      exact fun n => this n p0 h1
    | some j =>
      refine ⟨fun h => (by cases h), fun hb => ?_⟩
      obtain ⟨_, _, hs, v, hv, hf⟩ := srGA_some hW h0 e
      obtain ⟨n, hn⟩ := hs.src v.1.2 (List.mem_map.2 ⟨v, List.mem_of_getElem? hv, rfl⟩)
      have : ∀ n p, rch fail next p0 n p → ∀ N, B N p := by
        intro n
        induction n with
        | zero => intro p hp N; rw [show p = p0 from hp]; exact hb N
        | succ n ih =>
          rintro p ⟨q, hq, _, s, hsm, rfl⟩ N
          exact (bn N q (ih q hq (N + 1))).2 s hsm
      have := (bn 0 _ (this n _ hn 1)).1
      rw [this] at hf; cases hf
/-- the way to an arrival, backwards -/
def wayG (arr : List (Ag α)) : Nat → Nat → List ByteArray
  | 0, _ => []
  | f + 1, k => if k = 0 then [] else match arr[k]? with
    | none => []
    | some v => v.1.1 :: wayG arr f v.2
theorem wayG_step {arr : List (Ag α)} {f k : Nat} {v : Ag α} (h0 : k ≠ 0) (hv : arr[k]? = some v) : wayG arr (f + 1) k = v.1.1 :: wayG arr f v.2 := by
  conv => lhs; unfold wayG
  rw [if_neg h0, hv]
theorem wayG_len (arr : List (Ag α)) (hw : ∀ (i : Nat) (v : Ag α), arr[i]? = some v → 0 < i → v.2 < i) : ∀ f k, k < arr.length → (wayG arr f k).length ≤ k
  | 0, k, _ => by simp [wayG]
  | f + 1, k, hk => by
    by_cases h0 : k = 0
    · subst h0; simp [wayG]
    · have hv : arr[k]? = some arr[k] := List.getElem?_eq_getElem hk
      have h1 := hw k arr[k] hv (by omega)
      rw [wayG_step h0 hv]
      have := wayG_len arr hw f arr[k].2 (by omega)
      simp only [List.length_cons]
      omega
theorem wayG_fuel {arr : List (Ag α)} (hw : ∀ (i : Nat) (v : Ag α), arr[i]? = some v → 0 < i → v.2 < i) : ∀ f k, k < arr.length → k ≤ f → wayG arr f k = wayG arr k k
  | 0, k, _, hf => by
    obtain rfl : k = 0 := by omega
    rfl
  | f + 1, 0, _, _ => by simp [wayG]
  | f + 1, k + 1, hk, hf => by
    have hv : arr[k + 1]? = some arr[k + 1] := List.getElem?_eq_getElem hk
    have h1 := hw (k + 1) arr[k + 1] hv (by omega)
    rw [wayG_step (by omega) hv, wayG_step (by omega) hv]
    have e1 := wayG_fuel hw f arr[k + 1].2 (by omega) (by omega)
    have e2 := wayG_fuel hw k arr[k + 1].2 (by omega) (by omega)
    rw [e1, e2]
def wayGA (arr : List (Ag α)) (k : Nat) : List ByteArray := wayG arr k k
theorem wayGA_step {arr : List (Ag α)} (hw : ∀ (i : Nat) (v : Ag α), arr[i]? = some v → 0 < i → v.2 < i) {k : Nat} {v : Ag α} (h0 : 0 < k) (hv : arr[k]? = some v) : wayGA arr k = v.1.1 :: wayGA arr v.2 := by
  have hk := (List.getElem?_eq_some_iff.1 hv).1
  have h1 := hw k v hv h0
  obtain ⟨k, rfl⟩ : ∃ j, k = j + 1 := ⟨k - 1, by omega⟩
  unfold wayGA
  rw [wayG_step (by omega) hv, wayG_fuel hw k v.2 (by omega) (by omega)]
end
end Go.Proofs.YthhbbhijpkoelaaDoor
