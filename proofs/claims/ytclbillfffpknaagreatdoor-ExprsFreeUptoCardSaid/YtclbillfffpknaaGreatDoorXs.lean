/-
  How an environment is read as data.
-/
import Derived.Test.YtclbillfffpknaaGreatDoorXk
import Derived.Test.YtclbillfffpknaaGreatDoorLt
import Derived.Deep.Slices
import Derived.OpenShut
namespace Go.Proofs.YtclbillfffpknaaGreatDoor
open Go.RowKit Go.Deep Go.Joins Go.ChangeShapes Go.WideShapes

section
variable {H : Type} {enc : TypeId × Value → H} {W : World} {base : Nat} {spare : Nat → Bool} {held : Bool}
theorem cellsBd : Tryz.prog.cellsOf 40 = 4 := by kernel_rfl
set_option maxRecDepth 100000 in
theorem openBind (fuel : Nat) (cs : List Value) (y : DataW H × List MemPlace) (h : DataW.trod enc Tryz.prog W base spare held fuel 40 cs = some y) :
    ∃ p : ByteArray × Vl, cs = [.string p.1, .int .i64 p.2.so, .int .i64 p.2.n, .string p.2.s] ∧ p.2.s.size ≤ 9223372036854775807 := by
  obtain ⟨xs, n, rfl, hy, hlen, hxs, hf⟩ := DataW.trod_struct Tryz.underlying40 h
  have h0 : DataW.trod enc Tryz.prog W base spare held n 9 (List.take 1 (List.drop 0 cs)) = xs[0]? := hf 0 _ rfl
  have h2 : DataW.trod enc Tryz.prog W base spare held n 23 (List.take 3 (List.drop 1 cs)) = xs[1]? := hf 1 _ rfl
  clear hf hy
  rw [cellsBd] at hlen
  match cs, hlen with
  | [a0, a2, a3, a4], _ =>
  match xs, hxs with
  | [x0, x1], _ =>
  simp at h0 h2
  obtain ⟨nm, e1, _, _⟩ := DataW.trod_string Tryz.underlying9 h0
  obtain ⟨ys, m, rfl, _, _, hys, hg⟩ := DataW.trod_struct Tryz.underlying23 h2
  have g0 : DataW.trod enc Tryz.prog W base spare held m 3 (List.take 1 (List.drop 0 [a2, a3, a4])) = ys[0]? := hg 0 _ rfl
  have g1 : DataW.trod enc Tryz.prog W base spare held m 2 (List.take 1 (List.drop 1 [a2, a3, a4])) = ys[1]? := hg 1 _ rfl
  have g2 : DataW.trod enc Tryz.prog W base spare held m 9 (List.take 1 (List.drop 2 [a2, a3, a4])) = ys[2]? := hg 2 _ rfl
  match ys, hys with
  | [y0, y1, y2], _ =>
  simp at g0 g1 g2
  obtain ⟨so, e2, _, _⟩ := DataW.trod_int Tryz.underlying3 g0
  obtain ⟨nn, e3, _, _⟩ := DataW.trod_int Tryz.underlying2 g1
  obtain ⟨s, e4, _, ws⟩ := DataW.trod_string Tryz.underlying9 g2
  simp at e1 e2 e3 e4
  subst e1 e2 e3 e4
  unfold maxLen at ws
  exact ⟨(nm, ⟨so, nn, s⟩), rfl, ws⟩

set_option maxRecDepth 100000 in
/-- an environment that is handed in -/
theorem openEnv {r : Reach} {b0 : Nat} {v : Value} {d : DataW H} {p : List MemPlace} (hv : Value.okWide Tryz.prog W r b0 27 v) (h : DataW.Trod enc Tryz.prog W base spare held 27 v d p) :
    ∃ (bs : List (ByteArray × Vl)) (ae : Option Addr) (ce : Nat), v = .slice ae bs.length ce ∧ (bs.length ≤ 9223372036854775806 → EnvAt W W.heap.size bs ae) ∧ (∀ q ∈ bs, q.2.s.size ≤ 9223372036854775807) ∧ (bs = [] ∨ ∃ elems rest, d = .slice elems rest ∧ elems.length = bs.length) := by
  obtain ⟨a0, len, cap, rfl⟩ := okWide_slice Tryz.underlying27 hv
  obtain ⟨fuel, hf⟩ := h
  rcases DataW.trod_slice Tryz.underlying27 hf with ⟨e5, _⟩ | ⟨a, len', cap', elems, rest, k, hk, e5, hx, hb, hlc, hcm, hle, hel, _, _⟩
  · simp [Value.cells] at e5
    obtain ⟨rfl, rfl, rfl⟩ := e5
    exact ⟨[], none, 0, rfl, fun _ => ⟨by simp, .inl rfl⟩, fun q hq => (by cases hq), .inl rfl⟩
  · simp [Value.cells] at e5
    obtain ⟨rfl, rfl, rfl⟩ := e5
    rw [cellsBd] at hel
    have hall : ∀ i, i < len → ∃ p : ByteArray × Vl, W.cells? base (a.add (i * 4)) 4 = some [.string p.1, .int .i64 p.2.so, .int .i64 p.2.n, .string p.2.s] ∧ p.2.s.size ≤ 9223372036854775807 := by
      intro i hi
      have q := hel i hi
      rw [List.getElem?_eq_getElem (by omega)] at q
      obtain ⟨cs', q1, q2⟩ := Option.bind_eq_some_iff.1 q
      obtain ⟨p, rfl, hs⟩ := openBind k cs' _ q2
      exact ⟨p, q1, hs⟩
    haveI : Inhabited (ByteArray × Vl) := ⟨(⟨#[]⟩, ⟨0, 0, ⟨#[]⟩⟩)⟩
    obtain ⟨f, hf⟩ := choose_lt hall
    refine ⟨(List.range len).map f, some a, cap, by simp, fun hbd => ⟨hbd, ?_⟩, ?_, ?_⟩
    · by_cases hl0 : len = 0
      · exact .inl (by simp [hl0])
      · obtain ⟨q1, _⟩ := hf 0 (by omega)
        have q2 := (World.cells?_some q1).2.2 0 (by omega)
        obtain ⟨b, o, spot⟩ := a
        have hsp : spot = none := by simpa [Addr.add] using World.cell?_spot q2
        subst hsp
        have hcell : ∀ i j, i < len → j < 4 → W.cell? ⟨b, o + i * 4 + j, none⟩ = [Value.string (f i).1, .int .i64 (f i).2.so, .int .i64 (f i).2.n, .string (f i).2.s][j]? := by
          intro i j hi hj
          obtain ⟨q1, _⟩ := hf i hi
          have := (World.cells?_some q1).2.2 j hj
          rw [add_add, Go.WideShapes.add_plain] at this
          rw [Nat.add_assoc]; exact this
        refine .inr ⟨b, o, rfl, lt_of_cell ((hcell 0 0 (by omega) (by omega)).trans rfl), fun i hi => ?_⟩
        have hi' : i < len := by simpa using hi
        have e : ((List.range len).map f)[i] = f i := by simp
        simp only [e]
        exact ⟨(hcell i 0 hi' (by omega)).trans rfl, (hcell i 1 hi' (by omega)).trans rfl, (hcell i 2 hi' (by omega)).trans rfl, (hcell i 3 hi' (by omega)).trans rfl⟩
    · intro q hq
      obtain ⟨i, hi, rfl⟩ := List.mem_map.1 hq
      exact (hf i (by simpa using hi)).2
    · refine .inr ⟨elems.map (·.1), rest.map (·.1), (Prod.mk.inj hx).1, by simp [hle]⟩
end
end Go.Proofs.YtclbillfffpknaaGreatDoor
