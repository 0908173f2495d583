/-
  How a list of names and a list of sorts are read as data.
-/
import Derived.Test.YtefdekfgmbgbbaaDoorXc
import Derived.Test.YtefdekfgmbgbbaaDoorXh
import Derived.Deep.Slices
import Derived.OpenShut
namespace Go.Proofs.YtefdekfgmbgbbaaDoor
open Go.RowKit Go.Deep Go.Joins Go.ChangeShapes Go.WideShapes

section
variable {H : Type} {enc : TypeId × Value → H} {W : World} {base : Nat} {spare : Nat → Bool} {held : Bool}
/-- a list of one-cell values lies below block B -/
def NAt (W : World) (B : Nat) (vs : List Value) (an : Option Addr) : Prop := vs = [] ∨ ∃ b o, an = some ⟨b, o, none⟩ ∧ b < B ∧ ∀ i (h : i < vs.length), W.cell? ⟨b, o + i, none⟩ = some vs[i]
theorem cellsSt : Tryd.prog.cellsOf 9 = 1 := by kernel_rfl
theorem cellsIn : Tryd.prog.cellsOf 3 = 1 := by kernel_rfl
set_option maxRecDepth 100000 in
theorem openNames {r : Reach} {b0 : Nat} {v : Value} {d : DataW H} {p : List MemPlace} (hv : Value.okWide Tryd.prog W r b0 22 v) (h : DataW.Trod enc Tryd.prog W base spare held 22 v d p) :
    ∃ (ns : List ByteArray) (an : Option Addr) (cn : Nat), v = .slice an ns.length cn ∧ NAt W W.heap.size (ns.map Value.string) an ∧ (ns = [] ∨ ∃ elems rest, d = .slice elems rest ∧ elems.length = ns.length) := by
  obtain ⟨a0, len, cap, rfl⟩ := okWide_slice Tryd.underlying22 hv
  obtain ⟨fuel, hf⟩ := h
  rcases DataW.trod_slice Tryd.underlying22 hf with ⟨e5, _⟩ | ⟨a, len', cap', elems, rest, k, hk, e5, hx, hb, hlc, hcm, hle, hel, _, _⟩
  · simp [Value.cells] at e5
    obtain ⟨rfl, rfl, rfl⟩ := e5
    exact ⟨[], none, 0, rfl, .inl rfl, .inl rfl⟩
  · simp [Value.cells] at e5
    obtain ⟨rfl, rfl, rfl⟩ := e5
    rw [cellsSt] at hel
    have hall : ∀ i, i < len → ∃ s : ByteArray, W.cells? base (a.add (i * 1)) 1 = some [.string s] := by
      intro i hi
      have q := hel i hi
      rw [List.getElem?_eq_getElem (by omega)] at q
      obtain ⟨cs', q1, q2⟩ := Option.bind_eq_some_iff.1 q
      obtain ⟨s, e1, _, _⟩ := DataW.trod_string Tryd.underlying9 q2
      subst e1
      exact ⟨s, q1⟩
    haveI : Inhabited ByteArray := ⟨⟨#[]⟩⟩
    obtain ⟨f, hf⟩ := choose_lt hall
    refine ⟨(List.range len).map f, some a, cap, by simp, ?_, .inr ⟨elems.map (·.1), rest.map (·.1), (Prod.mk.inj hx).1, by simp [hle]⟩⟩
    by_cases hl0 : len = 0
    · exact .inl (by simp [hl0])
    · have q2 := (World.cells?_some (hf 0 (by omega))).2.2 0 (by omega)
      obtain ⟨b, o, spot⟩ := a
      have hsp : spot = none := by simpa [Addr.add] using World.cell?_spot q2
      subst hsp
      have hcell : ∀ i, i < len → W.cell? ⟨b, o + i, none⟩ = some (Value.string (f i)) := by
        intro i hi
        have := (World.cells?_some (hf i hi)).2.2 0 (by omega)
        rw [add_add, Go.WideShapes.add_plain] at this
        simpa using this
      refine .inr ⟨b, o, rfl, lt_of_cell ((hcell 0 (by omega)).trans rfl), fun i hi => ?_⟩
      have hi' : i < len := by simpa using hi
      rw [hcell i hi']
      simp
theorem ns_of {B : Nat} {ns : List ByteArray} {zs : List Int} {an am : Option Addr} (h1 : NAt W B (ns.map Value.string) an) (h2 : NAt W B (zs.map (Value.int .i64)) am) (hl : zs.length = ns.length) (hb : ns.length ≤ 9223372036854775806) : NSAt W B ns zs an am := by
  refine ⟨hl, hb, ?_, ?_⟩
  · rcases h1 with h | ⟨b, o, e, hlt, hc⟩
    · exact .inl (by simpa using h)
    · exact .inr ⟨b, o, e, hlt, fun i hi => by have := hc i (by simpa using hi); simpa using this⟩
  · rcases h2 with h | ⟨b, o, e, hlt, hc⟩
    · exact .inl (by simpa using h)
    · exact .inr ⟨b, o, e, hlt, fun i hi => by have := hc i (by simpa using hi); simpa using this⟩
end
end Go.Proofs.YtefdekfgmbgbbaaDoor
