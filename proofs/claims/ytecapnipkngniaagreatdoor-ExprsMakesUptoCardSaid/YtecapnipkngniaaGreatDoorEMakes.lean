/-
  How an environment is read as data, and that its numbers are of 64 bits.
-/
import Derived.Test.YtecapnipkngniaaGreatDoorXs
import Derived.Test.YtecapnipkngniaaGreatDoorCo
import Derived.Deep.Slices
import Derived.OpenShut
import Derived.Test.YtecapnipkngniaaGreatDoorXf
import Derived.Test.YtecapnipkngniaaGreatDoorYa
import Derived.Test.YtecapnipkngniaaGreatDoorRows
import Derived.WalkKit
import Derived.Handy
import Derived.Lib.SmallJoins
import Derived.Test.YtecapnipkngniaaGreatDoorTie
import Derived.Test.YtecapnipkngniaaGreatDoorCards
import Derived.Deep.DeepHandedRow
namespace Go.Proofs.YtecapnipkngniaaGreatDoor
open Go.RowKit Go.Deep Go.Joins Go.ChangeShapes Go.WideShapes

section
variable {H : Type} {enc : TypeId × Value → H} {W : World} {base : Nat} {spare : Nat → Bool} {held : Bool}
set_option maxRecDepth 100000 in
theorem openBindI (fuel : Nat) (cs : List Value) (y : DataW H × List MemPlace) (h : DataW.trod enc Tryz.prog W base spare held fuel 50 cs = some y) :
    ∃ p : ByteArray × Vl, cs = [.string p.1, .int .i64 p.2.so, .int .i64 p.2.n, .string p.2.s] ∧ (p.2.s.size ≤ 9223372036854775807 ∧ in64 p.2.n) := by
  obtain ⟨xs, n, rfl, hy, hlen, hxs, hf⟩ := DataW.trod_struct Tryz.underlying50 h
  have h0 : DataW.trod enc Tryz.prog W base spare held n 9 (List.take 1 (List.drop 0 cs)) = xs[0]? := hf 0 _ rfl
  have h2 : DataW.trod enc Tryz.prog W base spare held n 23 (List.take 3 (List.drop 1 cs)) = xs[1]? := hf 1 _ rfl
  clear hf hy
  rw [cellsBd] at hlen
  match cs, hlen with
  | [a0, a2, a3, a4], _ =>
  match xs, hxs with
  | [x0, x1], _ =>
  simp at h0 h2
  obtain ⟨nm, e1, _, _⟩ := DataW.trod_string Tryz.underlying9 h0
  obtain ⟨ys, m, rfl, _, _, hys, hg⟩ := DataW.trod_struct Tryz.underlying23 h2
  have g0 : DataW.trod enc Tryz.prog W base spare held m 3 (List.take 1 (List.drop 0 [a2, a3, a4])) = ys[0]? := hg 0 _ rfl
  have g1 : DataW.trod enc Tryz.prog W base spare held m 2 (List.take 1 (List.drop 1 [a2, a3, a4])) = ys[1]? := hg 1 _ rfl
  have g2 : DataW.trod enc Tryz.prog W base spare held m 9 (List.take 1 (List.drop 2 [a2, a3, a4])) = ys[2]? := hg 2 _ rfl
  match ys, hys with
  | [y0, y1, y2], _ =>
  simp at g0 g1 g2
  obtain ⟨so, e2, _, _⟩ := DataW.trod_int Tryz.underlying3 g0
  obtain ⟨nn, e3, _, wi⟩ := DataW.trod_int Tryz.underlying2 g1
  obtain ⟨s, e4, _, ws⟩ := DataW.trod_string Tryz.underlying9 g2
  simp at e1 e2 e3 e4
  subst e1 e2 e3 e4
  unfold maxLen at ws
  have wi' := bounds_i64 wi
  exact ⟨(nm, ⟨so, nn, s⟩), rfl, by simpa using ws, by simpa using wi'.1, by simpa using wi'.2⟩

set_option maxRecDepth 100000 in
/-- an environment that is handed in -/
theorem openEnvI {r : Reach} {b0 : Nat} {v : Value} {d : DataW H} {p : List MemPlace} (hv : Value.okWide Tryz.prog W r b0 27 v) (h : DataW.Trod enc Tryz.prog W base spare held 27 v d p) :
    ∃ (bs : List (ByteArray × Vl)) (ae : Option Addr) (ce : Nat), v = .slice ae bs.length ce ∧ (bs.length ≤ 9223372036854775806 → EnvAt W W.heap.size bs ae) ∧ (∀ q ∈ bs, q.2.s.size ≤ 9223372036854775807 ∧ in64 q.2.n) ∧ (bs = [] ∨ ∃ elems rest, d = .slice elems rest ∧ elems.length = bs.length) := by
  obtain ⟨a0, len, cap, rfl⟩ := okWide_slice Tryz.underlying27 hv
  obtain ⟨fuel, hf⟩ := h
  rcases DataW.trod_slice Tryz.underlying27 hf with ⟨e5, _⟩ | ⟨a, len', cap', elems, rest, k, hk, e5, hx, hb, hlc, hcm, hle, hel, _, _⟩
  · simp [Value.cells] at e5
    obtain ⟨rfl, rfl, rfl⟩ := e5
    exact ⟨[], none, 0, rfl, fun _ => ⟨by simp, .inl rfl⟩, fun q hq => (by cases hq), .inl rfl⟩
  · simp [Value.cells] at e5
    obtain ⟨rfl, rfl, rfl⟩ := e5
    rw [cellsBd] at hel
    have hall : ∀ i, i < len → ∃ p : ByteArray × Vl, W.cells? base (a.add (i * 4)) 4 = some [.string p.1, .int .i64 p.2.so, .int .i64 p.2.n, .string p.2.s] ∧ (p.2.s.size ≤ 9223372036854775807 ∧ in64 p.2.n) := by
      intro i hi
      have q := hel i hi
      rw [List.getElem?_eq_getElem (by omega)] at q
      obtain ⟨cs', q1, q2⟩ := Option.bind_eq_some_iff.1 q
      obtain ⟨p, rfl, hs⟩ := openBindI k cs' _ q2
      exact ⟨p, q1, hs⟩
    haveI : Inhabited (ByteArray × Vl) := ⟨(⟨#[]⟩, ⟨0, 0, ⟨#[]⟩⟩)⟩
    obtain ⟨f, hf⟩ := choose_lt hall
    refine ⟨(List.range len).map f, some a, cap, by simp, fun hbd => ⟨hbd, ?_⟩, ?_, ?_⟩
    · by_cases hl0 : len = 0
      · exact .inl (by simp [hl0])
      · obtain ⟨q1, _⟩ := hf 0 (by omega)
        have q2 := (World.cells?_some q1).2.2 0 (by omega)
        obtain ⟨b, o, spot⟩ := a
        have hsp : spot = none := by simpa [Addr.add] using World.cell?_spot q2
        subst hsp
        have hcell : ∀ i j, i < len → j < 4 → W.cell? ⟨b, o + i * 4 + j, none⟩ = [Value.string (f i).1, .int .i64 (f i).2.so, .int .i64 (f i).2.n, .string (f i).2.s][j]? := by
          intro i j hi hj
          obtain ⟨q1, _⟩ := hf i hi
          have := (World.cells?_some q1).2.2 j hj
          rw [add_add, Go.WideShapes.add_plain] at this
          rw [Nat.add_assoc]; exact this
        refine .inr ⟨b, o, rfl, lt_of_cell ((hcell 0 0 (by omega) (by omega)).trans rfl), fun i hi => ?_⟩
        have hi' : i < len := by simpa using hi
        have e : ((List.range len).map f)[i] = f i := by simp
        simp only [e]
        exact ⟨(hcell i 0 hi' (by omega)).trans rfl, (hcell i 1 hi' (by omega)).trans rfl, (hcell i 2 hi' (by omega)).trans rfl, (hcell i 3 hi' (by omega)).trans rfl⟩
    · intro q hq
      obtain ⟨i, hi, rfl⟩ := List.mem_map.1 hq
      exact (hf i (by simpa using hi)).2
    · refine .inr ⟨elems.map (·.1), rest.map (·.1), (Prod.mk.inj hx).1, by simp [hle]⟩
end
end Go.Proofs.YtecapnipkngniaaGreatDoor
/-
  How an expression is read as data, and that it has no more parts than its bulk.
-/
namespace Go.Proofs.YtecapnipkngniaaGreatDoor
open Go.RowKit Go.Deep Go.Joins Go.ChangeShapes Go.WideShapes

theorem sum_bulk {H : Type} : ∀ (ks : List Ex) (es : List (DataW H)), es.length = ks.length → (∀ i (hi : i < ks.length), ∃ e, es[i]? = some e ∧ sizeX ks[i] ≤ Rows.uptoBulk e) → (ks.map sizeX).sum ≤ Rows.uptoBulkAll es
  | [], es, _, _ => by simp
  | k :: ks, [], hl, _ => by simp at hl
  | k :: ks, e :: es, hl, h => by
    obtain ⟨e', he, hb⟩ := h 0 (by simp)
    simp at he
    subst he
    have := sum_bulk ks es (by simpa using hl) (fun i hi => by
      obtain ⟨e', he, hb⟩ := h (i + 1) (by simpa using hi)
      exact ⟨e', by simpa using he, by simpa using hb⟩)
    simp only [List.map_cons, List.sum_cons, Rows.uptoBulkAll]
    simp at hb
    omega
section
variable {H : Type} {enc : TypeId × Value → H} {W : World} {base : Nat} {spare : Nat → Bool} {held : Bool}
set_option maxRecDepth 100000 in
theorem openCellsB : ∀ (fuel : Nat) (cs : List Value) (y : DataW H × List MemPlace), DataW.trod enc Tryz.prog W base spare held fuel 26 cs = some y →
    ∃ (x : Ex) (ao : Option Addr) (cap : Nat), cs = [.int .i64 x.kind, .string x.name, .int .i64 x.so, .int .i64 x.n, .string x.s, .slice ao x.kids.length cap] ∧ ExBd x cap ∧ KA W W.heap.size fuel x.kids ao ∧ sizeX x ≤ Rows.uptoBulk y.1 := by
  intro fuel
  induction fuel using Nat.strongRecOn with
  | _ fuel ih =>
    intro cs y h
    obtain ⟨xs, n, rfl, hy, hlen, hxs, hf⟩ := DataW.trod_struct Tryz.underlying26 h
    have h0 : DataW.trod enc Tryz.prog W base spare held n 3 (List.take 1 (List.drop 0 cs)) = xs[0]? := hf 0 _ rfl
    have h1 : DataW.trod enc Tryz.prog W base spare held n 9 (List.take 1 (List.drop 1 cs)) = xs[1]? := hf 1 _ rfl
    have h2 : DataW.trod enc Tryz.prog W base spare held n 23 (List.take 3 (List.drop 2 cs)) = xs[2]? := hf 2 _ rfl
    have h3 : DataW.trod enc Tryz.prog W base spare held n 24 (List.take 1 (List.drop 5 cs)) = xs[3]? := hf 3 _ rfl
    have hy1 : y.1 = .agg (xs.map (·.1)) := by rw [hy]
    clear hf hy
    rw [cellsE] at hlen
    match cs, hlen with
    | [a0, a1, a2, a3, a4, a5], _ =>
    match xs, hxs, hy1 with
    | [x0, x1, x2, x3], _, hy1 =>
    simp at h0 h1 h2 h3
    obtain ⟨kd, e0, _, _⟩ := DataW.trod_int Tryz.underlying3 h0
    obtain ⟨nm, e1, _, wn⟩ := DataW.trod_string Tryz.underlying9 h1
    obtain ⟨ys, m, rfl, _, _, hys, hg⟩ := DataW.trod_struct Tryz.underlying23 h2
    have g0 : DataW.trod enc Tryz.prog W base spare held m 3 (List.take 1 (List.drop 0 [a2, a3, a4])) = ys[0]? := hg 0 _ rfl
    have g1 : DataW.trod enc Tryz.prog W base spare held m 2 (List.take 1 (List.drop 1 [a2, a3, a4])) = ys[1]? := hg 1 _ rfl
    have g2 : DataW.trod enc Tryz.prog W base spare held m 9 (List.take 1 (List.drop 2 [a2, a3, a4])) = ys[2]? := hg 2 _ rfl
    match ys, hys with
    | [y0, y1, y2], _ =>
    simp at g0 g1 g2
    obtain ⟨so, e2, _, _⟩ := DataW.trod_int Tryz.underlying3 g0
    obtain ⟨nn, e3, _, wi⟩ := DataW.trod_int Tryz.underlying2 g1
    obtain ⟨s, e4, _, ws⟩ := DataW.trod_string Tryz.underlying9 g2
    simp at e0 e1 e2 e3 e4
    subst e0 e1 e2 e3 e4
    have wi' := bounds_i64 wi
    unfold maxLen at wn ws
    rcases DataW.trod_slice Tryz.underlying24 h3 with ⟨e5, _⟩ | ⟨a, len, cap, elems, rest, k, hk, e5, hx3, hb, hlc, hcm, hle, hel, _, _⟩
    · simp at e5
      subst e5
      refine ⟨⟨kd, nm, so, nn, s, []⟩, none, 0, rfl, ⟨by simpa using wn, by simpa using ws, by simpa using wi'.1, by simpa using wi'.2, by simp, by omega⟩, .inl rfl, ?_⟩
      rw [hy1, sizeX_eq]
      simp only [List.map_nil, List.sum_nil, Rows.uptoBulk]
      omega
    · simp at e5
      subst e5
      rw [cellsE] at hel
      obtain rfl : m = k := by omega
      unfold maxLen at hcm
      have hall : ∀ i, i < len → ∃ p : Ex × Option Addr × Nat, W.cells? base (a.add (i * 6)) 6 = some [.int .i64 p.1.kind, .string p.1.name, .int .i64 p.1.so, .int .i64 p.1.n, .string p.1.s, .slice p.2.1 p.1.kids.length p.2.2] ∧ ExBd p.1 p.2.2 ∧ KA W W.heap.size m p.1.kids p.2.1 ∧ ∃ e, elems[i]? = some e ∧ sizeX p.1 ≤ Rows.uptoBulk e.1 := by
        intro i hi
        have q := hel i hi
        rw [List.getElem?_eq_getElem (by omega)] at q
        obtain ⟨cs', q1, q2⟩ := Option.bind_eq_some_iff.1 q
        obtain ⟨x, ao, cp, rfl, hb', hk', hz'⟩ := ih m (by omega) cs' _ q2
        exact ⟨(x, ao, cp), q1, hb', hk', _, List.getElem?_eq_getElem (by omega), hz'⟩
      haveI : Inhabited (Ex × Option Addr × Nat) := ⟨(⟨0, ⟨#[]⟩, 0, 0, ⟨#[]⟩, []⟩, none, 0)⟩
      obtain ⟨f, hf⟩ := choose_lt hall
      refine ⟨⟨kd, nm, so, nn, s, (List.range len).map fun i => (f i).1⟩, some a, cap, by simp, ⟨by simpa using wn, by simpa using ws, by simpa using wi'.1, by simpa using wi'.2, by simpa using hlc, hcm⟩, ?_, ?_⟩
      rotate_left
      · have hs := sum_bulk ((List.range len).map fun i => (f i).1) (elems.map (·.1)) (by simp [hle]) (fun i hi => by
          have hi' : i < len := by simpa using hi
          obtain ⟨e, he, hb⟩ := (hf i hi').2.2.2
          refine ⟨e.1, by rw [List.getElem?_map, he]; rfl, ?_⟩
          simpa using hb)
        rw [hy1, sizeX_eq]
        have h3 : x3.1 = .slice (elems.map (·.1)) (rest.map (·.1)) := (congrArg Prod.fst hx3)
        simp only [Rows.uptoBulk, List.map_cons, List.map_nil, Rows.uptoBulkAll, h3]
        omega
      by_cases hl0 : len = 0
      · exact .inl (by simp [hl0])
      · obtain ⟨q1, _, _, _⟩ := hf 0 (by omega)
        have q2 := (World.cells?_some q1).2.2 0 (by omega)
        obtain ⟨b, o, spot⟩ := a
        have hsp : spot = none := by simpa [Addr.add] using World.cell?_spot q2
        subst hsp
        have hcell : ∀ i j, i < len → j < 6 → W.cell? ⟨b, o + i * 6 + j, none⟩ = [Value.int .i64 (f i).1.kind, .string (f i).1.name, .int .i64 (f i).1.so, .int .i64 (f i).1.n, .string (f i).1.s, .slice (f i).2.1 (f i).1.kids.length (f i).2.2][j]? := by
          intro i j hi hj
          obtain ⟨q1, _, _, _⟩ := hf i hi
          have := (World.cells?_some q1).2.2 j hj
          rw [add_add, Go.WideShapes.add_plain] at this
          rw [Nat.add_assoc]; exact this
        refine .inr ⟨b, o, rfl, lt_of_cell ((hcell 0 0 (by omega) (by omega)).trans rfl), fun i hi => ?_⟩
        have hi' : i < len := by simpa using hi
        have e : ((List.range len).map fun i => (f i).1)[i] = (f i).1 := by simp
        simp only [e]
        exact ⟨(f i).2.1, (f i).2.2, ⟨(hcell i 0 hi' (by omega)).trans rfl, (hcell i 1 hi' (by omega)).trans rfl, (hcell i 2 hi' (by omega)).trans rfl, (hcell i 3 hi' (by omega)).trans rfl, (hcell i 4 hi' (by omega)).trans rfl, (hcell i 5 hi' (by omega)).trans rfl⟩, (hf i hi').2.1, KA.up (by omega) (hf i hi').2.2.1⟩
set_option maxRecDepth 100000 in
/-- an expression that is handed in -/
theorem openExprB {r : Reach} {b0 : Nat} {v : Value} {d : DataW H} {p : List MemPlace} (hv : Value.okWide Tryz.prog W r b0 26 v) (h : DataW.Trod enc Tryz.prog W base spare held 26 v d p) :
    ∃ (x : Ex) (ao : Option Addr) (cap dp : Nat), v = exVal x ao cap ∧ ExBd x cap ∧ KA W W.heap.size dp x.kids ao ∧ sizeX x ≤ Rows.uptoBulk d := by
  obtain ⟨cs, rfl, hsz⟩ := okWide_struct Tryz.underlying26 hv
  obtain ⟨fuel, hf⟩ := h
  obtain ⟨x, ao, cap, e, h1, h2, h3⟩ := openCellsB fuel _ _ hf
  refine ⟨x, ao, cap, fuel, ?_, h1, h2, h3⟩
  unfold exVal
  congr 1
  apply Array.toList_inj.1
  simpa [Value.cells] using e
end
end Go.Proofs.YtecapnipkngniaaGreatDoor

/-
  duetlaw.ExprsMakes returns true and leaves its arguments as they were, for every expression, every environment, every name and every value that are together of bulk at most 1048576 (the second form), where utf8.first and utf8.acceptRanges hold what the program's text lays (the card ties them to it). Conditions: none beside these.
-/
namespace Go.Proofs.YtecapnipkngniaaGreatDoor
open Go.RowKit Go.Shelf Go.Lib Go.Joins
open Go.ChangeShapes Go.WideShapes Go.ChangeAt
open Go.ChangeMaps (open_string shut_string)

theorem laidOut : laidOutB Tryz.prog = true := by kernel_rfl
theorem bulk_len {H : Type} (l : List (DataW H)) : l.length ≤ Rows.uptoBulkAll l := by
  induction l with
  | nil => simp [Rows.uptoBulkAll]
  | cons x r ih =>
    have h1 : 1 ≤ Rows.uptoBulk x := by
      cases x with
      | lit l => cases l <;> simp [Rows.uptoBulk]
      | nil => simp [Rows.uptoBulk]
      | ptr d => simp [Rows.uptoBulk]
      | slice elems spare => simp [Rows.uptoBulk]
      | agg parts => simp [Rows.uptoBulk]
      | iface t d => simp [Rows.uptoBulk]
      | map entries => simp [Rows.uptoBulk]
      | held h => simp [Rows.uptoBulk]
    simp only [Rows.uptoBulkAll, List.length_cons]; omega
theorem bulk_env {H : Type} {bs : List (ByteArray × Vl)} {d : DataW H} (h : bs = [] ∨ ∃ elems rest, d = .slice elems rest ∧ elems.length = bs.length) (hk : Rows.uptoBulk d ≤ 1048576) : bs.length ≤ 1048576 := by
  rcases h with rfl | ⟨elems, rest, rfl, he⟩
  · simp
  · have := bulk_len elems
    simp only [Rows.uptoBulk] at hk
    omega

def makesArgs : Array Value := #[.agg #[.int .i64 0, .string ⟨#[]⟩, .int .i64 0, .int .i64 0, .string ⟨#[]⟩, .slice none 0 0], .slice none 0 0, .string ⟨#[]⟩, .agg #[.int .i64 0, .int .i64 0, .string ⟨#[]⟩]]
theorem makes_reads (os : Os) {H : Type} (enc : TypeId × Value → H) : ∃ places, DataW.whole enc Tryz.prog ((World.laidAll Tryz.prog os Rows.exprsMakesUptoRow.laid).forCall (fun _ _ => 0) ⟨#[], makesArgs, []⟩).memory Tryz.f3.params.toList Rows.exprsMakesSpec.vars false makesArgs.toList 8 = some ([.agg [.lit (.int .i64 0), .lit (.string []), .agg [.lit (.int .i64 0), .lit (.int .i64 0), .lit (.string [])], .nil], .nil, .lit (.string []), .agg [.lit (.int .i64 0), .lit (.int .i64 0), .lit (.string [])]], [], places) :=
  ⟨[], by kernel_rfl⟩

set_option maxRecDepth 100000 in
set_option maxHeartbeats 1000000 in
theorem exprsMakes_lifted (os : Os) (started : os.Started) (H : Type) (enc : TypeId × Value → H) (F : Stop.Interp) :
    ReturnsInHanded {} Tryz.checked os 3 .any ((Rows.OpenSpec.upto Rows.exprsMakesSpec).preRow enc Tryz.prog Tryz.f3 Rows.exprsMakesUptoRow.domain false Rows.exprsMakesUptoRow.laid)
      (((Rows.OpenSpec.upto Rows.exprsMakesSpec).at F).post enc Tryz.prog Tryz.f3 false true false false) := by
  obtain ⟨places, hx⟩ := makes_reads os enc
  have hok : Input.okWideB Tryz.prog ((World.laidAll Tryz.prog os Rows.exprsMakesUptoRow.laid).forCall (fun _ _ => 0) ⟨#[], makesArgs, []⟩) 3 ⟨#[], makesArgs, []⟩ = true := by kernel_rfl
  refine returnsInHanded_of_row (C := Tryz.checked) (s := Rows.OpenSpec.upto Rows.exprsMakesSpec) own started (by kernel_rfl) Tryz.func3
    ⟨(World.laidAll Tryz.prog os Rows.exprsMakesUptoRow.laid), fun _ _ => 0, ⟨#[], makesArgs, []⟩, World.laidAll_os _ _ _, World.shaped_of_ZipB (by kernel_rfl) (by kernel_rfl), (Input.okWide_of_okWideB (base := 0) hok).1, (Input.okWide_of_okWideB hok).2,
      OpenSpec.preRow_of_cond 8 hx (by kernel_rfl) (fun k hk => by cases hk; kernel_rfl) (by kernel_rfl)
        (by rw [MakeChecks.laidMetH_plain _ _ _ (by kernel_rfl)]; exact laidMet_laidAll _ (by kernel_rfl) (by kernel_rfl)), by
      simp only [Assume.holds]
      exact ⟨by simp, by simp, fun _ => Modest.zero, by simp, by simp⟩⟩ ?_
  intro W base args ds gs before hval0 hW _ hcond _ hL _ _
  have hval : ∀ (j : Nat) t v, Tryz.f3.params[j]? = some t → args[j]? = some v → Value.okWide Tryz.prog W .any base t v := hval0
  have hW' := hW
  obtain ⟨p, q, hA0, hV, rfl, _, _⟩ := hW
  have hA : DataW.TrodAll enc Tryz.prog W 0 (fun _ => true) true Tryz.f3.params.toList args.toList ds p := hA0
  rw [Tryz.params3] at hA hval
  obtain ⟨v0, v1, v2, v3, d0, d1, d2, d3, p0, p1, p2, p3, rfl, rfl, rfl, h0, h1, h2, h3⟩ := trodAll_four hA
  obtain ⟨rfl, rfl⟩ := trodVars_none hV
  obtain ⟨x, ao, cap, dp, rfl, hbd, hka, hsb⟩ := openExprB (hval 0 26 v0 rfl rfl) h0
  obtain ⟨env, ae, ce, rfl, henv, hs1, hd1⟩ := openEnvI (hval 1 27 v1 rfl rfl) h1
  obtain ⟨nm, rfl, rfl, rfl, wz⟩ := open_string Tryz.underlying9 (hval 2 9 v2 rfl rfl) h2
  obtain ⟨so, nn, s, rfl, rfl, rfl, wa, wb, ws⟩ := openValue (hval 3 23 v3 rfl rfl) h3
  have wb1 := bounds_i64 wb
  have ws1 := ws
  unfold maxLen at ws1
  clear hA0 hV hval0
  rw [MakeChecks.laidMetH_plain _ _ _ (by kernel_rfl)] at hL
  have hT : Tabs W := utf8Tabs_of_readsT (U8Types.of196 Tryz.lays196) ⟨by kernel_rfl, by kernel_rfl, by kernel_rfl, by kernel_rfl, by kernel_rfl, by kernel_rfl, by kernel_rfl⟩
    (Pinned.utf8First_eq ▸ Lib.laidMet.reads hL (.tail _ (.head _))) (acc_eq ▸ Lib.laidMet.reads hL (.head _))
  have hbk := of_decide_eq_true (hcond _ rfl)
  simp only [List.append_nil, Rows.uptoBulkAll] at hbk
  have hl1 := bulk_env hd1 (by omega)
  have hl0 : sizeX x ≤ 1048576 := by omega
  clear hbk hcond
  refine (makesLaw_any dp x ao cap env ae ce nm ⟨so, nn, s⟩ W hbd hka hl0 (henv (by omega)) (by omega) hs1 ⟨wb1.1, wb1.2⟩ ws1 hT).mono fun e W' ⟨he, hb⟩ => ?_
  subst he
  have l0 : ∀ z ∈ p0, z.block < W.heap.size := fun z hz => by simpa using hW'.lt z (by simp [hz])
  have l1 : ∀ z ∈ p1, z.block < W.heap.size := fun z hz => by simpa using hW'.lt z (by simp [hz])
  exact ⟨_, rfl, _, _, _, [], p0 ++ (p1 ++ ([] ++ [])), [], hW', trodAll_mk1 (shut_bool Tryz.underlying4 _), trodAll_mk4 (Below.trod laidOut (by kernel_rfl) (of_decide_eq_true (by kernel_rfl)) h0 hb l0) (Below.trod laidOut (by kernel_rfl) (of_decide_eq_true (by kernel_rfl)) h1 hb l1) (shut_string Tryz.underlying9 wz) (shutValue wa wb ws), rfl, hb.frame _, fun h => by cases h⟩

theorem exprsMakes_row : Rows.ExprsMakesUptoSaid :=
  OpenClaim.holds_of_cond 3 Tryz.f3 rfl rfl rfl rfl rfl rfl rfl ⟨rfl, rfl, rfl, rfl, rfl⟩ rfl rfl rfl rfl rfl (by kernel_rfl) Tryz.func3 (by kernel_rfl)
    (of_decide_eq_true (by kernel_rfl)) (by unfold Func.isWrapper; rw [if_neg (of_decide_eq_false (by kernel_rfl))]; exact ⟨rfl, rfl⟩)
    (fun os started H enc _ F => by rw [OpenClaim.pre_eq_preRow]; exact exprsMakes_lifted os started H enc F)

theorem exprsMakes_holds : Rows.ExprsMakesUptoCardSaid :=
  Claim7.holds_tied_plain_at .later [] _ _ _ _ exprsMakes_row (fun _ h => by cases h) (by kernel_rfl) (fun _ h => by cases h) exprsMakesUpto_row_tie rfl ⟨rfl, rfl⟩ (by kernel_rfl) rfl
    (fun f fn hf hfn => by
      obtain rfl : f = 3 := Option.some.inj ((show Tryz.prog.funcNamed Rows.exprsMakesUptoRow.func = some 3 by kernel_rfl).symm.trans hf) |>.symm
      obtain rfl : fn = Tryz.f3 := (Option.some.inj (Tryz.func3.symm.trans hfn)).symm
      exact ⟨by kernel_rfl, fun j t ht => by
        rw [Tryz.params3] at ht
        have hm : t ∈ [26, 27, 9, 23] := by simpa using Array.mem_of_getElem? ht
        have hall : ([26, 27, 9, 23].all fun u => !Tryz.prog.wantsStandIn u) = true := by kernel_rfl
        exact (show Tryz.prog.wantsStandIn t = false by simpa using List.all_eq_true.1 hall t hm)⟩)
    (by kernel_rfl)
#print axioms exprsMakes_holds
end Go.Proofs.YtecapnipkngniaaGreatDoor
