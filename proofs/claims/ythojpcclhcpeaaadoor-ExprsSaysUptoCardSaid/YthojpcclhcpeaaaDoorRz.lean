/-
  How an expression is read as data, and that it has no more parts than its bulk.
-/
import Derived.Test.YthojpcclhcpeaaaDoorXb
import Derived.Test.YthojpcclhcpeaaaDoorYa
import Derived.Test.YthojpcclhcpeaaaDoorRows
import Derived.WalkKit
import Derived.Handy
import Derived.Deep.Slices
import Derived.Lib.SmallJoins
import Derived.OpenShut
namespace Go.Proofs.YthojpcclhcpeaaaDoor
open Go.RowKit Go.Deep Go.Joins Go.ChangeShapes Go.WideShapes

theorem sum_bulk {H : Type} : ∀ (ks : List Ex) (es : List (DataW H)), es.length = ks.length → (∀ i (hi : i < ks.length), ∃ e, es[i]? = some e ∧ sizeX ks[i] ≤ Rows.uptoBulk e) → (ks.map sizeX).sum ≤ Rows.uptoBulkAll es
  | [], es, _, _ => by simp
  | k :: ks, [], hl, _ => by simp at hl
  | k :: ks, e :: es, hl, h => by
    obtain ⟨e', he, hb⟩ := h 0 (by simp)
    simp at he
    subst he
    have := sum_bulk ks es (by simpa using hl) (fun i hi => by
      obtain ⟨e', he, hb⟩ := h (i + 1) (by simpa using hi)
      exact ⟨e', by simpa using he, by simpa using hb⟩)
    simp only [List.map_cons, List.sum_cons, Rows.uptoBulkAll]
    simp at hb
    omega
section
variable {H : Type} {enc : TypeId × Value → H} {W : World} {base : Nat} {spare : Nat → Bool} {held : Bool}
set_option maxRecDepth 100000 in
theorem openCellsB : ∀ (fuel : Nat) (cs : List Value) (y : DataW H × List MemPlace), DataW.trod enc Tryd.prog W base spare held fuel 26 cs = some y →
    ∃ (x : Ex) (ao : Option Addr) (cap : Nat), cs = [.int .i64 x.kind, .string x.name, .int .i64 x.so, .int .i64 x.n, .string x.s, .slice ao x.kids.length cap] ∧ ExBd x cap ∧ KA W W.heap.size fuel x.kids ao ∧ sizeX x ≤ Rows.uptoBulk y.1 := by
  intro fuel
  induction fuel using Nat.strongRecOn with
  | _ fuel ih =>
    intro cs y h
    obtain ⟨xs, n, rfl, hy, hlen, hxs, hf⟩ := DataW.trod_struct Tryd.underlying26 h
    have h0 : DataW.trod enc Tryd.prog W base spare held n 3 (List.take 1 (List.drop 0 cs)) = xs[0]? := hf 0 _ rfl
    have h1 : DataW.trod enc Tryd.prog W base spare held n 9 (List.take 1 (List.drop 1 cs)) = xs[1]? := hf 1 _ rfl
    have h2 : DataW.trod enc Tryd.prog W base spare held n 23 (List.take 3 (List.drop 2 cs)) = xs[2]? := hf 2 _ rfl
    have h3 : DataW.trod enc Tryd.prog W base spare held n 24 (List.take 1 (List.drop 5 cs)) = xs[3]? := hf 3 _ rfl
    have hy1 : y.1 = .agg (xs.map (·.1)) := by rw [hy]
    clear hf hy
    rw [cellsE] at hlen
    match cs, hlen with
    | [a0, a1, a2, a3, a4, a5], _ =>
    match xs, hxs, hy1 with
    | [x0, x1, x2, x3], _, hy1 =>
    simp at h0 h1 h2 h3
    obtain ⟨kd, e0, _, _⟩ := DataW.trod_int Tryd.underlying3 h0
    obtain ⟨nm, e1, _, wn⟩ := DataW.trod_string Tryd.underlying9 h1
    obtain ⟨ys, m, rfl, _, _, hys, hg⟩ := DataW.trod_struct Tryd.underlying23 h2
    have g0 : DataW.trod enc Tryd.prog W base spare held m 3 (List.take 1 (List.drop 0 [a2, a3, a4])) = ys[0]? := hg 0 _ rfl
    have g1 : DataW.trod enc Tryd.prog W base spare held m 2 (List.take 1 (List.drop 1 [a2, a3, a4])) = ys[1]? := hg 1 _ rfl
    have g2 : DataW.trod enc Tryd.prog W base spare held m 9 (List.take 1 (List.drop 2 [a2, a3, a4])) = ys[2]? := hg 2 _ rfl
    match ys, hys with
    | [y0, y1, y2], _ =>
    simp at g0 g1 g2
    obtain ⟨so, e2, _, _⟩ := DataW.trod_int Tryd.underlying3 g0
    obtain ⟨nn, e3, _, wi⟩ := DataW.trod_int Tryd.underlying2 g1
    obtain ⟨s, e4, _, ws⟩ := DataW.trod_string Tryd.underlying9 g2
    simp at e0 e1 e2 e3 e4
    subst e0 e1 e2 e3 e4
    have wi' := bounds_i64 wi
    unfold maxLen at wn ws
    rcases DataW.trod_slice Tryd.underlying24 h3 with ⟨e5, _⟩ | ⟨a, len, cap, elems, rest, k, hk, e5, hx3, hb, hlc, hcm, hle, hel, _, _⟩
    · simp at e5
      subst e5
      refine ⟨⟨kd, nm, so, nn, s, []⟩, none, 0, rfl, ⟨by simpa using wn, by simpa using ws, by simpa using wi'.1, by simpa using wi'.2, by simp, by omega⟩, .inl rfl, ?_⟩
      rw [hy1, sizeX_eq]
      simp only [List.map_nil, List.sum_nil, Rows.uptoBulk]
      omega
    · simp at e5
      subst e5
      rw [cellsE] at hel
      obtain rfl : m = k := by omega
      unfold maxLen at hcm
      have hall : ∀ i, i < len → ∃ p : Ex × Option Addr × Nat, W.cells? base (a.add (i * 6)) 6 = some [.int .i64 p.1.kind, .string p.1.name, .int .i64 p.1.so, .int .i64 p.1.n, .string p.1.s, .slice p.2.1 p.1.kids.length p.2.2] ∧ ExBd p.1 p.2.2 ∧ KA W W.heap.size m p.1.kids p.2.1 ∧ ∃ e, elems[i]? = some e ∧ sizeX p.1 ≤ Rows.uptoBulk e.1 := by
        intro i hi
        have q := hel i hi
        rw [List.getElem?_eq_getElem (by omega)] at q
        obtain ⟨cs', q1, q2⟩ := Option.bind_eq_some_iff.1 q
        obtain ⟨x, ao, cp, rfl, hb', hk', hz'⟩ := ih m (by omega) cs' _ q2
        exact ⟨(x, ao, cp), q1, hb', hk', _, List.getElem?_eq_getElem (by omega), hz'⟩
      haveI : Inhabited (Ex × Option Addr × Nat) := ⟨(⟨0, ⟨#[]⟩, 0, 0, ⟨#[]⟩, []⟩, none, 0)⟩
      obtain ⟨f, hf⟩ := choose_lt hall
      refine ⟨⟨kd, nm, so, nn, s, (List.range len).map fun i => (f i).1⟩, some a, cap, by simp, ⟨by simpa using wn, by simpa using ws, by simpa using wi'.1, by simpa using wi'.2, by simpa using hlc, hcm⟩, ?_, ?_⟩
      rotate_left
      · have hs := sum_bulk ((List.range len).map fun i => (f i).1) (elems.map (·.1)) (by simp [hle]) (fun i hi => by
          have hi' : i < len := by simpa using hi
          obtain ⟨e, he, hb⟩ := (hf i hi').2.2.2
          refine ⟨e.1, by rw [List.getElem?_map, he]; rfl, ?_⟩
          simpa using hb)
        rw [hy1, sizeX_eq]
        have h3 : x3.1 = .slice (elems.map (·.1)) (rest.map (·.1)) := (congrArg Prod.fst hx3)
        simp only [Rows.uptoBulk, List.map_cons, List.map_nil, Rows.uptoBulkAll, h3]
        omega
      by_cases hl0 : len = 0
      · exact .inl (by simp [hl0])
      · obtain ⟨q1, _, _, _⟩ := hf 0 (by omega)
        have q2 := (World.cells?_some q1).2.2 0 (by omega)
        obtain ⟨b, o, spot⟩ := a
        have hsp : spot = none := by simpa [Addr.add] using World.cell?_spot q2
        subst hsp
        have hcell : ∀ i j, i < len → j < 6 → W.cell? ⟨b, o + i * 6 + j, none⟩ = [Value.int .i64 (f i).1.kind, .string (f i).1.name, .int .i64 (f i).1.so, .int .i64 (f i).1.n, .string (f i).1.s, .slice (f i).2.1 (f i).1.kids.length (f i).2.2][j]? := by
          intro i j hi hj
          obtain ⟨q1, _, _, _⟩ := hf i hi
          have := (World.cells?_some q1).2.2 j hj
          rw [add_add, Go.WideShapes.add_plain] at this
          rw [Nat.add_assoc]; exact this
        refine .inr ⟨b, o, rfl, lt_of_cell ((hcell 0 0 (by omega) (by omega)).trans rfl), fun i hi => ?_⟩
        have hi' : i < len := by simpa using hi
        have e : ((List.range len).map fun i => (f i).1)[i] = (f i).1 := by simp
        simp only [e]
        exact ⟨(f i).2.1, (f i).2.2, ⟨(hcell i 0 hi' (by omega)).trans rfl, (hcell i 1 hi' (by omega)).trans rfl, (hcell i 2 hi' (by omega)).trans rfl, (hcell i 3 hi' (by omega)).trans rfl, (hcell i 4 hi' (by omega)).trans rfl, (hcell i 5 hi' (by omega)).trans rfl⟩, (hf i hi').2.1, KA.up (by omega) (hf i hi').2.2.1⟩
set_option maxRecDepth 100000 in
/-- an expression that is handed in -/
theorem openExprB {r : Reach} {b0 : Nat} {v : Value} {d : DataW H} {p : List MemPlace} (hv : Value.okWide Tryd.prog W r b0 26 v) (h : DataW.Trod enc Tryd.prog W base spare held 26 v d p) :
    ∃ (x : Ex) (ao : Option Addr) (cap dp : Nat), v = exVal x ao cap ∧ ExBd x cap ∧ KA W W.heap.size dp x.kids ao ∧ sizeX x ≤ Rows.uptoBulk d := by
  obtain ⟨cs, rfl, hsz⟩ := okWide_struct Tryd.underlying26 hv
  obtain ⟨fuel, hf⟩ := h
  obtain ⟨x, ao, cap, e, h1, h2, h3⟩ := openCellsB fuel _ _ hf
  refine ⟨x, ao, cap, fuel, ?_, h1, h2, h3⟩
  unfold exVal
  congr 1
  apply Array.toList_inj.1
  simpa [Value.cells] using e
end
end Go.Proofs.YthojpcclhcpeaaaDoor
