/-
  Plain mathematics: a search that comes to each place once, on the first of the shortest ways; what it tells.
-/
import Derived.Test.YtnlpnbelkkgghaaDoorHj
import Derived.Test.YtnlpnbelkkgghaaDoorVc
namespace Go.Proofs.YtnlpnbelkkgghaaDoor

section
variable {α : Type}
abbrev Sg (α : Type) := ByteArray × α
abbrev Ag (α : Type) := Sg α × Nat
def plG (arr : List (Ag α)) : List α := arr.map fun v => v.1.2
def addG [DecidableEq α] (arr : List (Ag α)) (s : Sg α) (k : Nat) : List (Ag α) := if s.2 ∈ plG arr then arr else arr ++ [(s, k)]
def onG [DecidableEq α] (next : α → List (Sg α)) (k : Nat) (arr : List (Ag α)) (p : α) : List (Ag α) := (next p).foldl (fun a s => addG a s k) arr
def srG [DecidableEq α] (fail : α → Bool) (next : α → List (Sg α)) : Nat → Nat → List (Ag α) → Option Nat × List (Ag α)
  | 0, _, arr => (none, arr)
  | f + 1, k, arr => match arr[k]? with
    | none => (none, arr)
    | some v => if fail v.1.2 = true then (some k, arr) else srG fail next f (k + 1) (onG next k arr v.1.2)
def avG (p : α) : Ag α := ((⟨#[]⟩, p), 0)
theorem srG_stop [DecidableEq α] {fail : α → Bool} {next : α → List (Sg α)} {f k : Nat} {arr : List (Ag α)} (h : arr.length ≤ k) : srG fail next f k arr = (none, arr) := by
  cases f with
  | zero => rfl
  | succ f => unfold srG; rw [List.getElem?_eq_none h]
theorem srG_fail [DecidableEq α] {fail : α → Bool} {next : α → List (Sg α)} {f k : Nat} {arr : List (Ag α)} {v : Ag α} (hv : arr[k]? = some v) (hf : fail v.1.2 = true) : srG fail next (f + 1) k arr = (some k, arr) := by
  unfold srG; rw [hv]; simp only; rw [if_pos hf]
theorem srG_go [DecidableEq α] {fail : α → Bool} {next : α → List (Sg α)} {f k : Nat} {arr : List (Ag α)} {v : Ag α} (hv : arr[k]? = some v) (hf : fail v.1.2 = false) : srG fail next (f + 1) k arr = srG fail next f (k + 1) (onG next k arr v.1.2) := by
  conv => lhs; unfold srG
  rw [hv]; simp only; rw [if_neg (by rw [hf]; decide)]
/-- p is come to from p0 by n steps, none of which starts where it fails -/
def rch (fail : α → Bool) (next : α → List (Sg α)) (p0 : α) : Nat → α → Prop
  | 0, p => p = p0
  | n + 1, p => ∃ q, rch fail next p0 n q ∧ fail q = false ∧ ∃ s ∈ next q, s.2 = p
/-- what is known of the search's places -/
structure WLD (fail : α → Bool) (next : α → List (Sg α)) (ok : α → Prop) (num : α → Nat) (M : Nat) : Prop where
  step : ∀ p, ok p → fail p = false → ∀ s ∈ next p, ok s.2
  lt : ∀ p, ok p → num p < M
  inj : ∀ p q, ok p → ok q → num p = num q → p = q
/-- what is known while it is searched -/
structure SRg (fail : α → Bool) (next : α → List (Sg α)) (ok : α → Prop) (p0 : α) (k : Nat) (arr : List (Ag α)) : Prop where
  hd : arr[0]? = some (avG p0)
  nd : (plG arr).Nodup
  lt : ∀ p ∈ plG arr, ok p
  done : ∀ (i : Nat) (v : Ag α), i < k → arr[i]? = some v → fail v.1.2 = false ∧ ∀ s ∈ next v.1.2, s.2 ∈ plG arr
  src : ∀ p ∈ plG arr, ∃ n, rch fail next p0 n p
  way : ∀ (i : Nat) (v : Ag α), arr[i]? = some v → 0 < i → v.2 < i
  few : ∀ (i : Nat) (v : Ag α), arr[i]? = some v → v.2 ≤ k
variable {fail : α → Bool} {next : α → List (Sg α)} {ok : α → Prop} {num : α → Nat} {M : Nat}
theorem SRg.start {p0 : α} (h : ok p0) : SRg fail next ok p0 0 [avG p0] :=
  ⟨rfl, by simp [plG], fun p hp => by
    have : p = p0 := by simpa [plG, avG] using hp
    subst this; exact h, fun i v hi => absurd hi (Nat.not_lt_zero _), fun p hp => by
    have : p = p0 := by simpa [plG, avG] using hp
    subst this; exact ⟨0, rfl⟩, fun i v hv hi => by
    cases i with
    | zero => omega
    | succ i => simp at hv, fun i v hv => by
    cases i with
    | zero => simp at hv; subst hv; exact Nat.le_refl _
    | succ i => simp at hv⟩
theorem addG_mem [DecidableEq α] (arr : List (Ag α)) (s : Sg α) (k : Nat) (p : α) : p ∈ plG (addG arr s k) ↔ p ∈ plG arr ∨ p = s.2 := by
  unfold addG
  split
  · rename_i hm
    constructor
    · exact .inl
    · rintro (h | rfl)
      · exact h
      · exact hm
  · simp [plG]
theorem addG_old [DecidableEq α] {arr : List (Ag α)} {s : Sg α} {k i : Nat} {v : Ag α} (h : arr[i]? = some v) : (addG arr s k)[i]? = some v := by
  unfold addG
  split
  · exact h
  · rw [List.getElem?_append_left (List.getElem?_eq_some_iff.1 h).1]; exact h
theorem foldG [DecidableEq α] {k : Nat} : ∀ (ss : List (Sg α)) (arr : List (Ag α)), (∀ (i : Nat) (v : Ag α), arr[i]? = some v → (ss.foldl (fun arr s => addG arr s k) arr)[i]? = some v) ∧ (∀ s ∈ ss, s.2 ∈ plG (ss.foldl (fun arr s => addG arr s k) arr)) ∧ ∀ p ∈ plG arr, p ∈ plG (ss.foldl (fun arr s => addG arr s k) arr)
  | [], arr => ⟨fun _ _ h => h, fun s hs => (by cases hs), fun _ h => h⟩
  | s :: ss, arr => by
    obtain ⟨h1, h2, h3⟩ := foldG (k := k) ss (addG arr s k)
    refine ⟨fun i v hv => h1 i v (addG_old hv), fun q hq => ?_, fun p hp => h3 p ((addG_mem arr s k p).2 (.inl hp))⟩
    rcases List.mem_cons.1 hq with rfl | hq
    · exact h3 _ ((addG_mem arr q k _).2 (.inr rfl))
    · exact h2 q hq
/-- what the search tells -/
theorem srG_tells [DecidableEq α] (hW : WLD fail next ok num M) {p0 : α} : ∀ (f k : Nat) (arr : List (Ag α)), SRg fail next ok p0 k arr → k ≤ arr.length → M ≤ f + k →
    (∀ j A, srG fail next f k arr = (some j, A) → j < A.length ∧ A.length ≤ M ∧ SRg fail next ok p0 j A ∧ ∃ v, A[j]? = some v ∧ fail v.1.2 = true) ∧ (∀ A, srG fail next f k arr = (none, A) → SRg fail next ok p0 A.length A)
  | 0, k, arr, hs, hk, hf => by
    unfold srG
    refine ⟨fun j A e => (by simp at e), fun A e => ?_⟩
    have hl := hs.len hW
    obtain rfl : arr = A := (Prod.mk.inj e).2
    have : k = arr.length := by omega
    subst this
    exact hs
  | f + 1, k, arr, hs, hk, hf => by
    by_cases hlt : k < arr.length
    · have hv : arr[k]? = some arr[k] := List.getElem?_eq_getElem hlt
      cases hfl : fail arr[k].1.2 with
      | true =>
        rw [srG_fail hv hfl]
        refine ⟨fun j A e => ?_, fun A e => (by simp at e)⟩
        simp only [Prod.mk.injEq, Option.some.injEq] at e
        obtain ⟨rfl, rfl⟩ := e
        exact ⟨hlt, hs.len hW, hs, _, hv, hfl⟩
      | false =>
        rw [srG_go hv hfl]
        refine srG_tells hW f (k + 1) _ (hs.on hW hv hfl) ?_ (by omega)
        have := (foldG (k := k) (next arr[k].1.2) arr).1 k arr[k] hv
        exact (List.getElem?_eq_some_iff.1 this).1
    · rw [srG_stop (by omega)]
      refine ⟨fun j A e => (by simp at e), fun A e => ?_⟩
      obtain rfl : arr = A := (Prod.mk.inj e).2
      have : k = arr.length := by omega
      subst this
      exact hs
/-- the whole search -/
def srGA [DecidableEq α] (fail : α → Bool) (next : α → List (Sg α)) (M : Nat) (p0 : α) : Option Nat × List (Ag α) := srG fail next M 0 [avG p0]
theorem srGA_none [DecidableEq α] (hW : WLD fail next ok num M) {p0 : α} (h0 : ok p0) {A : List (Ag α)} (h : srGA fail next M p0 = (none, A)) : SRg fail next ok p0 A.length A :=
  (srG_tells hW M 0 [avG p0] (SRg.start h0) (Nat.zero_le _) (by omega)).2 A h
theorem srGA_some [DecidableEq α] (hW : WLD fail next ok num M) {p0 : α} (h0 : ok p0) {A : List (Ag α)} {j : Nat} (h : srGA fail next M p0 = (some j, A)) : j < A.length ∧ A.length ≤ M ∧ SRg fail next ok p0 j A ∧ ∃ v, A[j]? = some v ∧ fail v.1.2 = true :=
  (srG_tells hW M 0 [avG p0] (SRg.start h0) (Nat.zero_le _) (by omega)).1 j A h
/-- what holds of all that is come to, if nothing fails; and is refuted by what fails -/
theorem srGA_iff [DecidableEq α] (hW : WLD fail next ok num M) {p0 : α} (h0 : ok p0) (B : Nat → α → Prop) (b0 : ∀ p, B 0 p) (bs : ∀ n p, ok p → fail p = false → (∀ s ∈ next p, B n s.2) → B (n + 1) p) (bn : ∀ n p, B (n + 1) p → fail p = false ∧ ∀ s ∈ next p, B n s.2) :
    (srGA fail next M p0).1 = none ↔ ∀ n, B n p0 := by
  cases e : srGA fail next M p0 with
  | mk o A =>
    cases o with
    | none =>
      refine ⟨fun _ => ?_, fun _ => rfl⟩
      have hs := srGA_none hW h0 e
      obtain ⟨h1, h2⟩ := hs.shut (Nat.le_refl _)
      have : ∀ n, ∀ p ∈ plG A, B n p := by
        intro n
        induction n with
        | zero => intro p _; exact b0 p
        | succ n ih => intro p hp; exact bs n p (hs.lt p hp) (h2 p hp).1 fun s hq => ih _ ((h2 p hp).2 s hq)
      exact fun n => this n p0 h1
    | some j =>
      refine ⟨fun h => (by cases h), fun hb => ?_⟩
      obtain ⟨_, _, hs, v, hv, hf⟩ := srGA_some hW h0 e
      obtain ⟨n, hn⟩ := hs.src v.1.2 (List.mem_map.2 ⟨v, List.mem_of_getElem? hv, rfl⟩)
      have : ∀ n p, rch fail next p0 n p → ∀ N, B N p := by
        intro n
        induction n with
        | zero => intro p hp N; rw [show p = p0 from hp]; exact hb N
        | succ n ih =>
          rintro p ⟨q, hq, _, s, hsm, rfl⟩ N
          exact (bn N q (ih q hq (N + 1))).2 s hsm
      have := (bn 0 _ (this n _ hn 1)).1
      rw [this] at hf; cases hf
/-- nothing fails that is come to by so many steps -/
def allG (fail : α → Bool) (next : α → List (Sg α)) : Nat → α → Prop
  | 0, _ => True
  | n + 1, p => fail p = false ∧ ∀ s ∈ next p, allG fail next n s.2
theorem srGA_all [DecidableEq α] (hW : WLD fail next ok num M) {p0 : α} (h0 : ok p0) : (srGA fail next M p0).1 = none ↔ ∀ n, allG fail next n p0 :=
  srGA_iff hW h0 (allG fail next) (fun _ => trivial) (fun _ _ _ hf hs => ⟨hf, hs⟩) (fun _ _ h => h)
/-- the way to an arrival, backwards -/
def wayG (arr : List (Ag α)) : Nat → Nat → List ByteArray
  | 0, _ => []
  | f + 1, k => if k = 0 then [] else match arr[k]? with
    | none => []
    | some v => v.1.1 :: wayG arr f v.2
theorem wayG_step {arr : List (Ag α)} {f k : Nat} {v : Ag α} (h0 : k ≠ 0) (hv : arr[k]? = some v) : wayG arr (f + 1) k = v.1.1 :: wayG arr f v.2 := by
  conv => lhs; unfold wayG
  rw [if_neg h0, hv]
theorem wayG_len (arr : List (Ag α)) (hw : ∀ (i : Nat) (v : Ag α), arr[i]? = some v → 0 < i → v.2 < i) : ∀ f k, k < arr.length → (wayG arr f k).length ≤ k
  | 0, k, _ => by simp [wayG]
  | f + 1, k, hk => by
    by_cases h0 : k = 0
    · subst h0; simp [wayG]
    · have hv : arr[k]? = some arr[k] := List.getElem?_eq_getElem hk
      have h1 := hw k arr[k] hv (by omega)
      rw [wayG_step h0 hv]
      have := wayG_len arr hw f arr[k].2 (by omega)
      simp only [List.length_cons]
      omega
theorem wayG_fuel {arr : List (Ag α)} (hw : ∀ (i : Nat) (v : Ag α), arr[i]? = some v → 0 < i → v.2 < i) : ∀ f k, k < arr.length → k ≤ f → wayG arr f k = wayG arr k k
  | 0, k, _, hf => by
    obtain rfl : k = 0 := by omega
    rfl
  | f + 1, 0, _, _ => by simp [wayG]
  | f + 1, k + 1, hk, hf => by
    have hv : arr[k + 1]? = some arr[k + 1] := List.getElem?_eq_getElem hk
    have h1 := hw (k + 1) arr[k + 1] hv (by omega)
    rw [wayG_step (by omega) hv, wayG_step (by omega) hv]
    have e1 := wayG_fuel hw f arr[k + 1].2 (by omega) (by omega)
    have e2 := wayG_fuel hw k arr[k + 1].2 (by omega) (by omega)
    rw [e1, e2]
def wayGA (arr : List (Ag α)) (k : Nat) : List ByteArray := wayG arr k k
theorem wayGA_step {arr : List (Ag α)} (hw : ∀ (i : Nat) (v : Ag α), arr[i]? = some v → 0 < i → v.2 < i) {k : Nat} {v : Ag α} (h0 : 0 < k) (hv : arr[k]? = some v) : wayGA arr k = v.1.1 :: wayGA arr v.2 := by
  have hk := (List.getElem?_eq_some_iff.1 hv).1
  have h1 := hw k v hv h0
  obtain ⟨k, rfl⟩ : ∃ j, k = j + 1 := ⟨k - 1, by omega⟩
  unfold wayGA
  rw [wayG_step (by omega) hv, wayG_fuel hw k v.2 (by omega) (by omega)]
end
end Go.Proofs.YtnlpnbelkkgghaaDoor
/-
  Plain mathematics: the search of below's places, from wherever it begins.
-/
namespace Go.Proofs.YtnlpnbelkkgghaaDoor

def okB (g h : List Nd) (p : Pl) : Prop := p.1 < g.length ∧ p.2.1 < h.length
theorem below_wld {g h : List Nd} (hg : GN g) (hh : GN h) : WLD (failP g h) (nextS g h) (okB g h) (numP h.length) (2 * g.length * h.length) :=
  ⟨fun p hp hf s hs => step_lt hg hh hp.1 hp.2 ((failP_iff g h p).1 hf) s hs, fun _ hp => numP_lt hp.1 hp.2, fun _ _ hp hq e => numP_inj hp.2 hq.2 e⟩
/-- the whole search from nodes m and n on -/
def srB (g h : List Nd) (m n : Nat) : Option Nat × List Av := srGA (failP g h) (nextS g h) (2 * g.length * h.length) (m, n, false)
theorem srB_bl {g h : List Nd} (hg : GN g) (hh : GN h) {m n : Nat} (hm : m < g.length) (hn : n < h.length) : (srB g h m n).1 = none ↔ ∀ k, bl k g h m n := by
  have := srGA_iff (below_wld hg hh) (p0 := (m, n, false)) ⟨hm, hn⟩ (fun k p => blP g h k p) (fun p => by unfold blP; split <;> trivial)
    (fun k p hp hf hs => blP_step hg hh hp.1 hp.2 ((failP_iff g h p).1 hf) hs) (fun k p hb => ⟨(failP_iff g h p).2 (blP_next hb).1, (blP_next hb).2⟩)
  unfold srB
  rw [this]
  constructor
  · intro h k; simpa [blP] using h k
  · intro h k; simpa [blP] using h k
def belB (g h : List Nd) (m n : Nat) : Bool := (srB g h m n).1.isNone
theorem belB_iff {g h : List Nd} (hg : GN g) (hh : GN h) {m n : Nat} (hm : m < g.length) (hn : n < h.length) : belB g h m n = true ↔ ∀ k, bl k g h m n := by
  unfold belB
  rw [Option.isNone_iff_eq_none]
  exact srB_bl hg hh hm hn
end Go.Proofs.YtnlpnbelkkgghaaDoor

/-
  Plain mathematics: the other end of a graph; one is below another one just if the other one's other end is below the one's (GAY, HOLE).
-/
namespace Go.Proofs.YtnlpnbelkkgghaaDoor

def kdD (k : Int) : Int := if k = 2 then 3 else if k = 3 then 2 else if k = 4 then 5 else if k = 5 then 4 else if k = 6 then 7 else if k = 7 then 6 else k
def tuL (n : Nd) (N : Nat) : List Nat := if n.kind = 4 ∨ n.kind = 5 then (match n.to with | [] => [] | a :: r => (a + N) :: r) else n.to
def keL (n : Nd) (N : Nat) : List Nat := n.to.map fun t => t + N
def othT (N : Nat) (n : Nd) : Nd := ⟨kdD n.kind, n.so, n.labs, tuL n N⟩
def othK (N : Nat) (n : Nd) : Nd := ⟨n.kind, n.so, n.labs, keL n N⟩
/-- each node turned, and behind all of these each as it is -/
def othG (g : List Nd) : List Nd := g.map (othT g.length) ++ g.map (othK g.length)
theorem okN_mk {n : Nd} (h : (n.kind = 1 ∧ n.so = 0 ∧ n.labs = [] ∧ n.to.length = 0) ∨ ((n.kind = 2 ∨ n.kind = 3) ∧ (n.so = 1 ∨ n.so = 2 ∨ n.so = 3) ∧ n.labs = [] ∧ n.to.length = 1) ∨ ((n.kind = 4 ∨ n.kind = 5) ∧ n.so = 0 ∧ n.labs = [] ∧ n.to.length = 2) ∨ ((n.kind = 6 ∨ n.kind = 7) ∧ n.so = 0 ∧ labsOK n.labs = true ∧ n.to.length = n.labs.length)) : okN n := by
  unfold okN partT
  have he : (⟨#[]⟩ : ByteArray).toList.isEmpty = true := by rw [ByteArray.toList_eq]; rfl
  simp only [List.length_map, he]
  rcases h with ⟨h1, h2, h3, h4⟩ | ⟨h1, h2, h3, h4⟩ | ⟨h1, h2, h3, h4⟩ | ⟨h1, h2, h3, h4⟩
  · rw [if_pos h1]; simp [h2, h3, h4]
  · rw [if_neg (by omega), if_pos h1]; simp [h2, h3, h4]
  · rw [if_neg (by omega), if_neg (by omega), if_pos h1]; simp [h2, h3, h4]
  · rw [if_neg (by omega), if_neg (by omega), if_neg (by omega), if_pos h1]; simp [h2, h3, h4]
theorem kdD_cases (k : Int) : (k = 2 → kdD k = 3) ∧ (k = 3 → kdD k = 2) ∧ (k = 4 → kdD k = 5) ∧ (k = 5 → kdD k = 4) ∧ (k = 6 → kdD k = 7) ∧ (k = 7 → kdD k = 6) ∧ (k = 1 → kdD k = 1) := by
  refine ⟨?_, ?_, ?_, ?_, ?_, ?_, ?_⟩ <;> (intro h; subst h; decide)
theorem tuL_len (n : Nd) (N : Nat) : (tuL n N).length = n.to.length := by
  unfold tuL
  split
  · split
    · rename_i e; rw [e]
    · rename_i e; rw [e]; rfl
  · rfl
theorem oth_ok {n : Nd} (N : Nat) (h : okN n) : okN (othT N n) ∧ okN (othK N n) := by
  have kd := kdD_cases n.kind
  have hl := tuL_len n N
  have hk : (keL n N).length = n.to.length := by simp [keL]
  constructor
  · refine okN_mk ?_
    show (kdD n.kind = 1 ∧ n.so = 0 ∧ n.labs = [] ∧ (tuL n N).length = 0) ∨ _
    rw [hl]
    rcases okN_cases h with ⟨h1, h2, h3, h4⟩ | ⟨h1, h2, h3, h4⟩ | ⟨h1, h2, h3, h4⟩ | ⟨h1, h2, h3, h4⟩
    · exact .inl ⟨kd.2.2.2.2.2.2 h1, h2, h3, h4⟩
    · exact .inr (.inl ⟨h1.elim (fun e => .inr (kd.1 e)) (fun e => .inl (kd.2.1 e)), h2, h3, by show (tuL n N).length = 1; omega⟩)
    · exact .inr (.inr (.inl ⟨h1.elim (fun e => .inr (kd.2.2.1 e)) (fun e => .inl (kd.2.2.2.1 e)), h2, h3, by show (tuL n N).length = 2; omega⟩))
    · exact .inr (.inr (.inr ⟨h1.elim (fun e => .inr (kd.2.2.2.2.1 e)) (fun e => .inl (kd.2.2.2.2.2.1 e)), h2, h3, by show (tuL n N).length = n.labs.length; omega⟩))
  · refine okN_mk ?_
    have := okN_cases h
    show (n.kind = 1 ∧ n.so = 0 ∧ n.labs = [] ∧ (keL n N).length = 0) ∨ ((n.kind = 2 ∨ n.kind = 3) ∧ (n.so = 1 ∨ n.so = 2 ∨ n.so = 3) ∧ n.labs = [] ∧ (keL n N).length = 1) ∨ ((n.kind = 4 ∨ n.kind = 5) ∧ n.so = 0 ∧ n.labs = [] ∧ (keL n N).length = 2) ∨ ((n.kind = 6 ∨ n.kind = 7) ∧ n.so = 0 ∧ labsOK n.labs = true ∧ (keL n N).length = n.labs.length)
    rw [hk]
    exact this
theorem oth_len (g : List Nd) : (othG g).length = 2 * g.length := by simp [othG]; omega
theorem tuL_lt {n : Nd} {N : Nat} (h : ∀ t ∈ n.to, t < N) : ∀ t ∈ tuL n N, t < 2 * N := by
  intro t ht
  unfold tuL at ht
  split at ht
  · split at ht
    · cases ht
    · rename_i a r e
      rcases List.mem_cons.1 ht with rfl | ht
      · have := h a (by rw [e]; exact .head _); omega
      · have := h t (by rw [e]; exact .tail _ ht); omega
  · have := h t ht; omega
theorem oth_gn {g : List Nd} (hg : GN g) (hl : g.length ≤ 100) : GN (othG g) := by
  refine ⟨by rw [oth_len]; have := hg.pos; omega, by rw [oth_len]; omega, fun n hn => ?_, fun n hn t ht => ?_⟩
  · unfold othG at hn
    rcases List.mem_append.1 hn with hn | hn
    · obtain ⟨m, hm, rfl⟩ := List.mem_map.1 hn; exact (oth_ok _ (hg.ok m hm)).1
    · obtain ⟨m, hm, rfl⟩ := List.mem_map.1 hn; exact (oth_ok _ (hg.ok m hm)).2
  · rw [oth_len]
    unfold othG at hn
    rcases List.mem_append.1 hn with hn | hn
    · obtain ⟨m, hm, rfl⟩ := List.mem_map.1 hn
      exact tuL_lt (fun t ht => hg.shut m hm t ht) t ht
    · obtain ⟨m, hm, rfl⟩ := List.mem_map.1 hn
      obtain ⟨x, hx, rfl⟩ := List.mem_map.1 ht
      have := hg.shut m hm x hx
      omega
theorem oth_at1 {g : List Nd} {i : Nat} (hi : i < g.length) : nodeAt (othG g) i = othT g.length (nodeAt g i) := by
  rw [nodeAt_lt g i hi]
  refine nodeAt_some ?_
  unfold othG
  rw [List.getElem?_append_left (by simpa using hi), List.getElem?_map, List.getElem?_eq_getElem hi]
  rfl
theorem oth_at2 {g : List Nd} {i : Nat} (hi : i < g.length) : nodeAt (othG g) (i + g.length) = othK g.length (nodeAt g i) := by
  rw [nodeAt_lt g i hi]
  refine nodeAt_some ?_
  unfold othG
  rw [List.getElem?_append_right (by simp), List.length_map, Nat.add_sub_cancel, List.getElem?_map, List.getElem?_eq_getElem hi]
  rfl
/-- what is kept does the same -/
theorem oth_kept {g : List Nd} (hg : GN g) : ∀ (k i : Nat), i < g.length → gT (othG g) k (i + g.length) = gT g k i
  | 0, _, _ => rfl
  | k + 1, i, hi => by
    rw [gT_eq_iff, oth_at2 hi]
    refine ⟨rfl, rfl, rfl, ?_⟩
    show (((nodeAt g i).to.map fun t => t + g.length).map _) = _
    rw [List.map_map]
    exact List.map_congr_left fun t ht => oth_kept hg k t (shut_at hg.shut i t ht)
theorem bl_resp {g h g' h' : List Nd} (Hg : GN g) (Hh : GN h) (Hg' : GN g') (Hh' : GN h') {k i j i' j' : Nat} (hi : i < g.length) (hj : j < h.length) (hi' : i' < g'.length) (hj' : j' < h'.length) (e1 : gT g' k i' = gT g k i) (e2 : gT h' k j' = gT h k j) : bl k g' h' i' j' ↔ bl k g h i j := by
  constructor
  · intro hb
    exact bl_trans k g g' h i i' j (bl_alike k g g' i i' Hg Hg' hi hi' e1.symm) (bl_trans k g' h' h i' j' j hb (bl_alike k h' h j' j Hh' Hh hj' hj e2))
  · intro hb
    exact bl_trans k g' g h' i' i j' (bl_alike k g' g i' i Hg' Hg hi' hi e1) (bl_trans k g h h' i j j' hb (bl_alike k h h' j j' Hh Hh' hj hj' e2.symm))
theorem tuL_0 {n : Nd} {N : Nat} (hk : n.kind = 4 ∨ n.kind = 5) (hl : 1 < n.to.length) : toAt (othT N n) 0 = toAt n 0 + N ∧ toAt (othT N n) 1 = toAt n 1 := by
  unfold toAt othT tuL
  simp only
  rw [if_pos hk]
  match hq : n.to, hl with
  | a :: b :: r, _ => exact ⟨rfl, rfl⟩
theorem tuL_x {n : Nd} {N : Nat} (hk : ¬ (n.kind = 4 ∨ n.kind = 5)) (x : Nat) : toAt (othT N n) x = toAt n x := by
  unfold toAt othT tuL
  simp only
  rw [if_neg hk]
end Go.Proofs.YtnlpnbelkkgghaaDoor
