/-
  The contract of duetkeep.put, for every type that is right in all its parts.
-/
import Derived.Test.YtnlpnbelkkgghaaDoorUj
import Derived.Test.YtnlpnbelkkgghaaDoorHc
import Derived.Test.YtnlpnbelkkgghaaDoorIg
import Derived.Test.YtnlpnbelkkgghaaDoorHm
import Derived.Test.YtnlpnbelkkgghaaDoorHs
namespace Go.Proofs.YtnlpnbelkkgghaaDoor
open Go.RowKit Go.Shelf

end Go.Proofs.YtnlpnbelkkgghaaDoor
/-
  Plain mathematics: a search that comes to each place once, on the first of the shortest ways; what it tells.
-/
namespace Go.Proofs.YtnlpnbelkkgghaaDoor

section
variable {α : Type}
abbrev Sg (α : Type) := ByteArray × α
abbrev Ag (α : Type) := Sg α × Nat
def plG (arr : List (Ag α)) : List α := arr.map fun v => v.1.2
def addG [DecidableEq α] (arr : List (Ag α)) (s : Sg α) (k : Nat) : List (Ag α) := if s.2 ∈ plG arr then arr else arr ++ [(s, k)]
def onG [DecidableEq α] (next : α → List (Sg α)) (k : Nat) (arr : List (Ag α)) (p : α) : List (Ag α) := (next p).foldl (fun a s => addG a s k) arr
def srG [DecidableEq α] (fail : α → Bool) (next : α → List (Sg α)) : Nat → Nat → List (Ag α) → Option Nat × List (Ag α)
  | 0, _, arr => (none, arr)
  | f + 1, k, arr => match arr[k]? with
    | none => (none, arr)
    | some v => if fail v.1.2 = true then (some k, arr) else srG fail next f (k + 1) (onG next k arr v.1.2)
def avG (p : α) : Ag α := ((⟨#[]⟩, p), 0)
theorem srG_stop [DecidableEq α] {fail : α → Bool} {next : α → List (Sg α)} {f k : Nat} {arr : List (Ag α)} (h : arr.length ≤ k) : srG fail next f k arr = (none, arr) := by
  cases f with
  | zero => rfl
  | succ f => unfold srG; rw [List.getElem?_eq_none h]
theorem srG_fail [DecidableEq α] {fail : α → Bool} {next : α → List (Sg α)} {f k : Nat} {arr : List (Ag α)} {v : Ag α} (hv : arr[k]? = some v) (hf : fail v.1.2 = true) : srG fail next (f + 1) k arr = (some k, arr) := by
  unfold srG; rw [hv]; simp only; rw [if_pos hf]
theorem srG_go [DecidableEq α] {fail : α → Bool} {next : α → List (Sg α)} {f k : Nat} {arr : List (Ag α)} {v : Ag α} (hv : arr[k]? = some v) (hf : fail v.1.2 = false) : srG fail next (f + 1) k arr = srG fail next f (k + 1) (onG next k arr v.1.2) := by
  conv => lhs; unfold srG
  rw [hv]; simp only; rw [if_neg (by rw [hf]; decide)]
/-- p is come to from p0 by n steps, none of which starts where it fails -/
def rch (fail : α → Bool) (next : α → List (Sg α)) (p0 : α) : Nat → α → Prop
  | 0, p => p = p0
  | n + 1, p => ∃ q, rch fail next p0 n q ∧ fail q = false ∧ ∃ s ∈ next q, s.2 = p
/-- what is known of the search's places -/
structure WLD (fail : α → Bool) (next : α → List (Sg α)) (ok : α → Prop) (num : α → Nat) (M : Nat) : Prop where
  step : ∀ p, ok p → fail p = false → ∀ s ∈ next p, ok s.2
  lt : ∀ p, ok p → num p < M
  inj : ∀ p q, ok p → ok q → num p = num q → p = q
/-- what is known while it is searched -/
structure SRg (fail : α → Bool) (next : α → List (Sg α)) (ok : α → Prop) (p0 : α) (k : Nat) (arr : List (Ag α)) : Prop where
  hd : arr[0]? = some (avG p0)
  nd : (plG arr).Nodup
  lt : ∀ p ∈ plG arr, ok p
  done : ∀ (i : Nat) (v : Ag α), i < k → arr[i]? = some v → fail v.1.2 = false ∧ ∀ s ∈ next v.1.2, s.2 ∈ plG arr
  src : ∀ p ∈ plG arr, ∃ n, rch fail next p0 n p
  way : ∀ (i : Nat) (v : Ag α), arr[i]? = some v → 0 < i → v.2 < i
  few : ∀ (i : Nat) (v : Ag α), arr[i]? = some v → v.2 ≤ k
variable {fail : α → Bool} {next : α → List (Sg α)} {ok : α → Prop} {num : α → Nat} {M : Nat}
theorem SRg.start {p0 : α} (h : ok p0) : SRg fail next ok p0 0 [avG p0] :=
  ⟨rfl, by simp [plG], fun p hp => by
    have : p = p0 := by simpa [plG, avG] using hp
    subst this; exact h, fun i v hi => absurd hi (Nat.not_lt_zero _), fun p hp => by
    have : p = p0 := by simpa [plG, avG] using hp
    subst this; exact ⟨0, rfl⟩, fun i v hv hi => by
    cases i with
    | zero => omega
    | succ i => simp at hv, fun i v hv => by
    cases i with
    | zero => simp at hv; subst hv; exact Nat.le_refl _
    | succ i => simp at hv⟩
theorem addG_mem [DecidableEq α] (arr : List (Ag α)) (s : Sg α) (k : Nat) (p : α) : p ∈ plG (addG arr s k) ↔ p ∈ plG arr ∨ p = s.2 := by
  unfold addG
  split
  · rename_i hm
    constructor
    · exact .inl
    · rintro (h | rfl)
      · exact h
      · exact hm
  · simp [plG]
theorem addG_old [DecidableEq α] {arr : List (Ag α)} {s : Sg α} {k i : Nat} {v : Ag α} (h : arr[i]? = some v) : (addG arr s k)[i]? = some v := by
  unfold addG
  split
  · exact h
  · rw [List.getElem?_append_left (List.getElem?_eq_some_iff.1 h).1]; exact h
theorem foldG [DecidableEq α] {k : Nat} : ∀ (ss : List (Sg α)) (arr : List (Ag α)), (∀ (i : Nat) (v : Ag α), arr[i]? = some v → (ss.foldl (fun arr s => addG arr s k) arr)[i]? = some v) ∧ (∀ s ∈ ss, s.2 ∈ plG (ss.foldl (fun arr s => addG arr s k) arr)) ∧ ∀ p ∈ plG arr, p ∈ plG (ss.foldl (fun arr s => addG arr s k) arr)
  | [], arr => ⟨fun _ _ h => h, fun s hs => (by cases hs), fun _ h => h⟩
  | s :: ss, arr => by
    obtain ⟨h1, h2, h3⟩ := foldG (k := k) ss (addG arr s k)
    refine ⟨fun i v hv => h1 i v (addG_old hv), fun q hq => ?_, fun p hp => h3 p ((addG_mem arr s k p).2 (.inl hp))⟩
    rcases List.mem_cons.1 hq with rfl | hq
    · exact h3 _ ((addG_mem arr q k _).2 (.inr rfl))
    · exact h2 q hq
/-- what the search tells -/
theorem srG_tells [DecidableEq α] (hW : WLD fail next ok num M) {p0 : α} : ∀ (f k : Nat) (arr : List (Ag α)), SRg fail next ok p0 k arr → k ≤ arr.length → M ≤ f + k →
    (∀ j A, srG fail next f k arr = (some j, A) → j < A.length ∧ A.length ≤ M ∧ SRg fail next ok p0 j A ∧ ∃ v, A[j]? = some v ∧ fail v.1.2 = true) ∧ (∀ A, srG fail next f k arr = (none, A) → SRg fail next ok p0 A.length A)
  | 0, k, arr, hs, hk, hf => by
    unfold srG
    refine ⟨fun j A e => (by simp at e), fun A e => ?_⟩
    have hl := hs.len hW
    obtain rfl : arr = A := (Prod.mk.inj e).2
    have : k = arr.length := by omega
    subst this
    exact hs
  | f + 1, k, arr, hs, hk, hf => by
    by_cases hlt : k < arr.length
    · have hv : arr[k]? = some arr[k] := List.getElem?_eq_getElem hlt
      cases hfl : fail arr[k].1.2 with
      | true =>
        rw [srG_fail hv hfl]
        refine ⟨fun j A e => ?_, fun A e => (by simp at e)⟩
        simp only [Prod.mk.injEq, Option.some.injEq] at e
        obtain ⟨rfl, rfl⟩ := e
        exact ⟨hlt, hs.len hW, hs, _, hv, hfl⟩
      | false =>
        rw [srG_go hv hfl]
        refine srG_tells hW f (k + 1) _ (hs.on hW hv hfl) ?_ (by omega)
        have := (foldG (k := k) (next arr[k].1.2) arr).1 k arr[k] hv
        exact (List.getElem?_eq_some_iff.1 this).1
    · rw [srG_stop (by omega)]
      refine ⟨fun j A e => (by simp at e), fun A e => ?_⟩
      obtain rfl : arr = A := (Prod.mk.inj e).2
      have : k = arr.length := by omega
      subst this
      exact hs
/-- the whole search -/
def srGA [DecidableEq α] (fail : α → Bool) (next : α → List (Sg α)) (M : Nat) (p0 : α) : Option Nat × List (Ag α) := srG fail next M 0 [avG p0]
theorem srGA_none [DecidableEq α] (hW : WLD fail next ok num M) {p0 : α} (h0 : ok p0) {A : List (Ag α)} (h : srGA fail next M p0 = (none, A)) : SRg fail next ok p0 A.length A :=
  (srG_tells hW M 0 [avG p0] (SRg.start h0) (Nat.zero_le _) (by omega)).2 A h
theorem srGA_some [DecidableEq α] (hW : WLD fail next ok num M) {p0 : α} (h0 : ok p0) {A : List (Ag α)} {j : Nat} (h : srGA fail next M p0 = (some j, A)) : j < A.length ∧ A.length ≤ M ∧ SRg fail next ok p0 j A ∧ ∃ v, A[j]? = some v ∧ fail v.1.2 = true :=
  (srG_tells hW M 0 [avG p0] (SRg.start h0) (Nat.zero_le _) (by omega)).1 j A h
/-- what holds of all that is come to, if nothing fails; and is refuted by what fails -/
theorem srGA_iff [DecidableEq α] (hW : WLD fail next ok num M) {p0 : α} (h0 : ok p0) (B : Nat → α → Prop) (b0 : ∀ p, B 0 p) (bs : ∀ n p, ok p → fail p = false → (∀ s ∈ next p, B n s.2) → B (n + 1) p) (bn : ∀ n p, B (n + 1) p → fail p = false ∧ ∀ s ∈ next p, B n s.2) :
    (srGA fail next M p0).1 = none ↔ ∀ n, B n p0 := by
  cases e : srGA fail next M p0 with
  | mk o A =>
    cases o with
    | none =>
      refine ⟨fun _ => ?_, fun _ => rfl⟩
      have hs := srGA_none hW h0 e
      obtain ⟨h1, h2⟩ := hs.shut (Nat.le_refl _)
      have : ∀ n, ∀ p ∈ plG A, B n p := by
        intro n
        induction n with
        | zero => intro p _; exact b0 p
        | succ n ih => intro p hp; exact bs n p (hs.lt p hp) (h2 p hp).1 fun s hq => ih _ ((h2 p hp).2 s hq)
      exact fun n => this n p0 h1
    | some j =>
      refine ⟨fun h => (by cases h), fun hb => ?_⟩
      obtain ⟨_, _, hs, v, hv, hf⟩ := srGA_some hW h0 e
      obtain ⟨n, hn⟩ := hs.src v.1.2 (List.mem_map.2 ⟨v, List.mem_of_getElem? hv, rfl⟩)
      have : ∀ n p, rch fail next p0 n p → ∀ N, B N p := by
        intro n
        induction n with
        | zero => intro p hp N; rw [show p = p0 from hp]; exact hb N
        | succ n ih =>
          rintro p ⟨q, hq, _, s, hsm, rfl⟩ N
          exact (bn N q (ih q hq (N + 1))).2 s hsm
      have := (bn 0 _ (this n _ hn 1)).1
      rw [this] at hf; cases hf
/-- nothing fails that is come to by so many steps -/
def allG (fail : α → Bool) (next : α → List (Sg α)) : Nat → α → Prop
  | 0, _ => True
  | n + 1, p => fail p = false ∧ ∀ s ∈ next p, allG fail next n s.2
theorem srGA_all [DecidableEq α] (hW : WLD fail next ok num M) {p0 : α} (h0 : ok p0) : (srGA fail next M p0).1 = none ↔ ∀ n, allG fail next n p0 :=
  srGA_iff hW h0 (allG fail next) (fun _ => trivial) (fun _ _ _ hf hs => ⟨hf, hs⟩) (fun _ _ h => h)
/-- the way to an arrival, backwards -/
def wayG (arr : List (Ag α)) : Nat → Nat → List ByteArray
  | 0, _ => []
  | f + 1, k => if k = 0 then [] else match arr[k]? with
    | none => []
    | some v => v.1.1 :: wayG arr f v.2
theorem wayG_step {arr : List (Ag α)} {f k : Nat} {v : Ag α} (h0 : k ≠ 0) (hv : arr[k]? = some v) : wayG arr (f + 1) k = v.1.1 :: wayG arr f v.2 := by
  conv => lhs; unfold wayG
  rw [if_neg h0, hv]
theorem wayG_len (arr : List (Ag α)) (hw : ∀ (i : Nat) (v : Ag α), arr[i]? = some v → 0 < i → v.2 < i) : ∀ f k, k < arr.length → (wayG arr f k).length ≤ k
  | 0, k, _ => by simp [wayG]
  | f + 1, k, hk => by
    by_cases h0 : k = 0
    · subst h0; simp [wayG]
    · have hv : arr[k]? = some arr[k] := List.getElem?_eq_getElem hk
      have h1 := hw k arr[k] hv (by omega)
      rw [wayG_step h0 hv]
      have := wayG_len arr hw f arr[k].2 (by omega)
      simp only [List.length_cons]
      omega
theorem wayG_fuel {arr : List (Ag α)} (hw : ∀ (i : Nat) (v : Ag α), arr[i]? = some v → 0 < i → v.2 < i) : ∀ f k, k < arr.length → k ≤ f → wayG arr f k = wayG arr k k
  | 0, k, _, hf => by
    obtain rfl : k = 0 := by omega
    rfl
  | f + 1, 0, _, _ => by simp [wayG]
  | f + 1, k + 1, hk, hf => by
    have hv : arr[k + 1]? = some arr[k + 1] := List.getElem?_eq_getElem hk
    have h1 := hw (k + 1) arr[k + 1] hv (by omega)
    rw [wayG_step (by omega) hv, wayG_step (by omega) hv]
    have e1 := wayG_fuel hw f arr[k + 1].2 (by omega) (by omega)
    have e2 := wayG_fuel hw k arr[k + 1].2 (by omega) (by omega)
    rw [e1, e2]
def wayGA (arr : List (Ag α)) (k : Nat) : List ByteArray := wayG arr k k
theorem wayGA_step {arr : List (Ag α)} (hw : ∀ (i : Nat) (v : Ag α), arr[i]? = some v → 0 < i → v.2 < i) {k : Nat} {v : Ag α} (h0 : 0 < k) (hv : arr[k]? = some v) : wayGA arr k = v.1.1 :: wayGA arr v.2 := by
  have hk := (List.getElem?_eq_some_iff.1 hv).1
  have h1 := hw k v hv h0
  obtain ⟨k, rfl⟩ : ∃ j, k = j + 1 := ⟨k - 1, by omega⟩
  unfold wayGA
  rw [wayG_step (by omega) hv, wayG_fuel hw k v.2 (by omega) (by omega)]
end
end Go.Proofs.YtnlpnbelkkgghaaDoor

/-
  Plain mathematics: the search of below's places, from wherever it begins.
-/
namespace Go.Proofs.YtnlpnbelkkgghaaDoor

def okB (g h : List Nd) (p : Pl) : Prop := p.1 < g.length ∧ p.2.1 < h.length
theorem below_wld {g h : List Nd} (hg : GN g) (hh : GN h) : WLD (failP g h) (nextS g h) (okB g h) (numP h.length) (2 * g.length * h.length) :=
  ⟨fun p hp hf s hs => step_lt hg hh hp.1 hp.2 ((failP_iff g h p).1 hf) s hs, fun _ hp => numP_lt hp.1 hp.2, fun _ _ hp hq e => numP_inj hp.2 hq.2 e⟩
/-- the whole search from nodes m and n on -/
def srB (g h : List Nd) (m n : Nat) : Option Nat × List Av := srGA (failP g h) (nextS g h) (2 * g.length * h.length) (m, n, false)
theorem srB_bl {g h : List Nd} (hg : GN g) (hh : GN h) {m n : Nat} (hm : m < g.length) (hn : n < h.length) : (srB g h m n).1 = none ↔ ∀ k, bl k g h m n := by
  have := srGA_iff (below_wld hg hh) (p0 := (m, n, false)) ⟨hm, hn⟩ (fun k p => blP g h k p) (fun p => by unfold blP; split <;> trivial)
    (fun k p hp hf hs => blP_step hg hh hp.1 hp.2 ((failP_iff g h p).1 hf) hs) (fun k p hb => ⟨(failP_iff g h p).2 (blP_next hb).1, (blP_next hb).2⟩)
  unfold srB
  rw [this]
  constructor
  · intro h k; simpa [blP] using h k
  · intro h k; simpa [blP] using h k
def belB (g h : List Nd) (m n : Nat) : Bool := (srB g h m n).1.isNone
theorem belB_iff {g h : List Nd} (hg : GN g) (hh : GN h) {m n : Nat} (hm : m < g.length) (hn : n < h.length) : belB g h m n = true ↔ ∀ k, bl k g h m n := by
  unfold belB
  rw [Option.isNone_iff_eq_none]
  exact srB_bl hg hh hm hn
end Go.Proofs.YtnlpnbelkkgghaaDoor

/-
  The search of package ways in memory, for the places of below.place: a map of those that are known, and the row of arrivals.
-/
namespace Go.Proofs.YtnlpnbelkkgghaaDoor
open Go.RowKit Go.Shelf

def pkB (p : Pl) : Value := .agg #[.int .i64 (p.1 : Int), .int .i64 (p.2.1 : Int), .bool p.2.2]
theorem pkB_inj {p q : Pl} (h : pkB p = pkB q) : p = q := by
  simp [pkB] at h
  exact Prod.ext (by omega) (Prod.ext (by omega) h.2.2)
theorem keyLawB : WideMaps.KeyLaw Tryd.prog 125 := deep_law_laid (m := 3) laidOutG (by decide) (of_decide_eq_true (by kernel_rfl)) (by kernel_rfl) (by kernel_rfl)
def smB (p : Pl) : Prop := p.1 ≤ 1000000 ∧ p.2.1 ≤ 1000000
theorem key_ofB (p : Pl) (h : smB p) : ∃ l, keyOf Tryd.prog 125 (pkB p) = some l := by
  have hm : Tryd.prog.types.size + 1 = (Tryd.prog.types.size - 1) + 2 := by kernel_rfl
  have c0 : Tryd.prog.cellsOf 125 = 3 := by kernel_rfl
  have c3 : Tryd.prog.cellsOf 3 = 1 := by kernel_rfl
  have c4 : Tryd.prog.cellsOf 4 = 1 := by kernel_rfl
  have kt : Tryd.prog.keyType 125 = true := by kernel_rfl
  unfold keyOf pkB
  rw [hm]
  generalize Tryd.prog.types.size - 1 = d
  have e3 := kl_int d (p.1 : Int) (by unfold in64z; have := h.1; omega)
  have e4 := kl_int d (p.2.1 : Int) (by unfold in64z; have := h.2; omega)
  have e5 : Tryd.prog.keyLits (d + 1) 4 [.bool p.2.2] = some [.bool p.2.2] := by simp [Program.keyLits, Tryd.underlying4]
  rw [Tryd.underlying125]
  simp only
  rw [if_pos]
  · rw [Program.keyLits.eq_def]
    simp only [Tryd.underlying125]
    simp [c0, c3, c4, Value.cells, e3, e4, e5]
  · rw [kt]
    simp [Value.formed]
    exact c0.symm
/-- a map that has just these places -/
def MPB (W : World) (mb : Nat) (ps : List Pl) : Prop := ∃ es clock, W.heap[mb]? = some (.map es clock) ∧ es.size = ps.length ∧ ∀ i (h : i < ps.length), ∃ e, es[i]? = some e ∧ e.key = pkB ps[i] ∧ e.val = .agg #[]
theorem mpB_keys {ps : List Pl} {es : Array MapEntry} (hsz : es.size = ps.length) (hes : ∀ i (h : i < ps.length), ∃ e, es[i]? = some e ∧ e.key = pkB ps[i] ∧ e.val = .agg #[]) (hk : ∀ p ∈ ps, smB p) : ∀ e ∈ es.toList, ∃ l, keyOf Tryd.prog 125 e.key = some l := by
  intro e he
  obtain ⟨i, hi, rfl⟩ := List.mem_iff_getElem.1 he
  have hi' : i < ps.length := by rw [← hsz]; simpa using hi
  obtain ⟨e', h1, h2, _⟩ := hes i hi'
  have : es.toList[i] = e' := by
    have h3 : es[i]? = some es.toList[i] := by
      rw [← Array.getElem?_toList]; exact List.getElem?_eq_getElem hi
    rw [h3] at h1; exact Option.some.inj h1
  rw [this, h2]
  exact key_ofB _ (hk _ (List.getElem_mem hi'))
theorem lookB_in {W : World} {mb : Nat} {ps : List Pl} (hm : MPB W mb ps) (hk : ∀ p ∈ ps, smB p) {p : Pl} (hp : p ∈ ps) :
    (Instr.lookup 221 (.map (some mb)) (pkB p) true).run Tryd.prog W = .ok (.tuple #[.agg #[], .bool true]) W := by
  obtain ⟨es, clock, hb, hsz, hes⟩ := hm
  have K := keyLawB
  obtain ⟨kl, hkey⟩ := key_ofB p (hk p hp)
  rcases K.find W hkey es.toList (mpB_keys hsz hes hk) with ⟨h1, h2⟩ | ⟨i, e0, h1, h2, h3⟩
  · obtain ⟨j, hj, e⟩ := List.mem_iff_getElem.1 hp
    obtain ⟨e, he, hek, _⟩ := hes j hj
    exact absurd (hek.trans (by rw [‹ps[j] = p›])) (h2 e (by rw [Array.mem_toList_iff, Array.mem_iff_getElem?]; exact ⟨j, he⟩))
  · have hil : i < ps.length := by
      have := (List.getElem?_eq_some_iff.1 h2).1
      rw [← hsz]; simpa using this
    obtain ⟨e, he, hek, hev⟩ := hes i hil
    have : e = e0 := by rw [← Array.getElem?_toList] at he; rw [he] at h2; exact Option.some.inj h2
    subst this
    rw [hev] at h1
    simp [Instr.lookup, run_underlying Tryd.underlying221, MapKept.run_getObj_map hb, K.check W _ hkey, h1, Result.andThen]
theorem lookB_out {W : World} {mb : Nat} {ps : List Pl} (hm : MPB W mb ps) (hk : ∀ p ∈ ps, smB p) {p : Pl} (hs : smB p) (hp : p ∉ ps) :
    (Instr.lookup 221 (.map (some mb)) (pkB p) true).run Tryd.prog W = .ok (.tuple #[.agg #[], .bool false]) W ∧
    ∃ W', (Instr.mapUpdate 221 (.map (some mb)) (pkB p) (.agg #[])).run Tryd.prog W = .ok () W' ∧ W.grownBy W' (some mb) ∧ W'.heap.size = W.heap.size ∧ MPB W' mb (ps ++ [p]) := by
  obtain ⟨es, clock, hb, hsz, hes⟩ := hm
  have K := keyLawB
  obtain ⟨kl, hkey⟩ := key_ofB p hs
  rcases K.find W hkey es.toList (mpB_keys hsz hes hk) with ⟨h1, h2⟩ | ⟨i, e0, h1, h2, h3⟩
  · refine ⟨by simp [Instr.lookup, run_underlying Tryd.underlying221, MapKept.run_getObj_map hb, K.check W _ hkey, h1, Result.andThen], { W with heap := W.heap.setIfInBounds mb (.map (es.push { key := pkB p, val := .agg #[], born := clock }) (clock + 1)) }, ?_, ?_⟩
    · simp [Instr.mapUpdate, run_underlying Tryd.underlying221, MapKept.run_getObj_map hb, K.check W _ hkey, h1, MapKept.run_setObj_map _ hb, Result.andThen]
    · refine ⟨⟨rfl, rfl, rfl, by simp, fun k hk' hne => (MapKept.heap_set hb).2 k (fun e => hne (by rw [e]))⟩, by simp, _, _, (MapKept.heap_set hb).1, by simp [hsz], fun i hi => ?_⟩
      by_cases hi' : i < ps.length
      · obtain ⟨e, he, hek, hev⟩ := hes i hi'
        refine ⟨e, ?_, by rw [List.getElem_append_left hi']; exact hek, hev⟩
        rw [Array.getElem?_push, if_neg (by omega)]; exact he
      · obtain rfl : i = ps.length := by simp at hi; omega
        exact ⟨_, by rw [Array.getElem?_push, if_pos hsz.symm], by simp, rfl⟩
  · exfalso
    have hil : i < ps.length := by
      have := (List.getElem?_eq_some_iff.1 h2).1
      rw [← hsz]; simpa using this
    obtain ⟨e, he, hek, hev⟩ := hes i hil
    have : e = e0 := by rw [← Array.getElem?_toList] at he; rw [he] at h2; exact Option.some.inj h2
    subst this
    have : pkB ps[i] = pkB p := by rw [← h3, hek]
    exact hp (by rw [← pkB_inj this]; exact List.getElem_mem hil)
theorem MPB.new (W : World) : MPB (W.alloc (.map #[] 0)) W.heap.size [] := ⟨_, _, heap_alloc_new W _, rfl, fun _ h => absurd h (Nat.not_lt_zero _)⟩
/-- the cells of an arrival -/
def aCB (v : Ag Pl) : List Value := [.int .i64 (v.1.2.1 : Int), .int .i64 (v.1.2.2.1 : Int), .bool v.1.2.2.2, .string v.1.1, .int .i64 (v.2 : Int)]
def avB (arr : List (Ag Pl)) : List Value := arr.flatMap aCB
theorem aCB_one (v : Ag Pl) : ∀ y ∈ aCB v, y.oneCell' = true := by
  intro y hy
  simp only [aCB, List.mem_cons, List.not_mem_nil, or_false] at hy
  rcases hy with rfl | rfl | rfl | rfl | rfl <;> rfl
theorem infoAvB : (Tryd.prog.info? 223).map (fun i => (i.zero, i.size, i.bytes)) = some (some (.agg #[.int .i64 0, .int .i64 0, .bool false, .string ⟨#[]⟩, .int .i64 0]), 5, 48) := by kernel_rfl
/-- the search -/
structure SVB (w0 : World) (sb mb : Nat) (ps : List Pl) (arr : List (Ag Pl)) (u : Value) (W : World) : Prop where
  c0 : W.cell? ⟨sb, 0, none⟩ = some (.map (some mb))
  c1 : W.cell? ⟨sb, 1, none⟩ = some u
  f1 : W.frozen? ⟨sb, 1, none⟩ = false
  mp : MPB W mb ps
  own : W.ownsRow w0.heap.size 223 5 u arr.length (avB arr)
  ns : sb ≠ mb
  hs : w0.heap.size ≤ sb
  hm : w0.heap.size ≤ mb
  us : u.ownBlock ≠ some sb
  um : u.ownBlock ≠ some mb
  ls : sb < W.heap.size
  bl : Below w0.heap.size w0 W
abbrev SWB (w0 : World) (sb mb : Nat) (arr : List (Ag Pl)) (u : Value) (W : World) : Prop := SVB w0 sb mb (plG arr) arr u W
/-- the box of a place -/
def PBB (bx : Nat) (p : Pl) (W : World) : Prop := W.cell? ⟨bx, 0, none⟩ = some (.int .i64 (p.1 : Int)) ∧ W.cell? ⟨bx, 1, none⟩ = some (.int .i64 (p.2.1 : Int)) ∧ W.cell? ⟨bx, 2, none⟩ = some (.bool p.2.2)
theorem stepUpdB {P : Program} {w w' : World} {ops : Array Oper} {o : Oper} {a : Act} {K : Act → World → Prop} {Q : Exit → Act → World → Prop} {E : Prop} (hgd : o.guard = none) (m x y : Operand) (t : TypeId) (ho : o.op = Op.mapUpdate t m x y ∨ o.op = Op.insert t m x y) {mv key v : Value}
    (hm : a.eval m = mv) (hx : a.eval x = key) (hy : a.eval y = v) (hrun : (Instr.mapUpdate t mv key v).run P w = .ok () w') (h : K (a.put o.dst undef) w') : if Region.wanted o (yielded ops a.tmps) = true then Oper.wp P o a w K Q else E := by
  have hw : Region.wanted o (yielded ops a.tmps) = true := by simp [Region.wanted, hgd]
  rw [if_pos hw]
  unfold Oper.wp
  rcases ho with ho | ho <;> (simp [execOp, ho, hm, hx, hy, hrun, Result.andThen]; exact h)
end Go.Proofs.YtnlpnbelkkgghaaDoor
