/-
  Contracts of the library, laid at this program in plain words. Conditions: none.
-/
import Derived.Test.YtefdekfgmbgbbaaDoorProg
import Derived.Ground.NamesProg
import Derived.Shelf.Sort.Plain
import Derived.Shelf.Slices.In.CompactS
import Derived.Shelf.Slices.In.SortNone
import Derived.Shelf.Slices.Turned
import Derived.Test.YtefdekfgmbgbbaaDoorPn
import Derived.Sort.EncStr
namespace Go.Proofs
open Go.Shelf
def Tryd.lays110_ren : Go.Shelf.Ren := ⟨fun | 110 => 49 | 109 => 67 | n => n, fun | 31 => 22 | 9 => 9 | 4 => 4 | 3 => 3 | 0 => 0 | n => n, fun | n => n⟩
theorem Tryd.lays110 : Go.Proofs.Lays.n110 Tryd.prog Tryd.lays110_ren := {
  mixed := by kernel_rfl
  f109 := Tryd.func67.trans (congrArg some (by kernel_rfl))
  f110 := Tryd.func49.trans (congrArg some (by kernel_rfl))
  t0 := Tryd.underlying0
  a0 := Tryd.isAgg0
  z0 := Tryd.sizeOf0
  v0 := Tryd.zeroValue0
  t3 := Tryd.underlying3
  a3 := Tryd.isAgg3
  z3 := Tryd.sizeOf3
  v3 := Tryd.zeroValue3
  t4 := Tryd.underlying4
  a4 := Tryd.isAgg4
  z4 := Tryd.sizeOf4
  v4 := Tryd.zeroValue4
  t9 := Tryd.underlying9
  a9 := Tryd.isAgg9
  z9 := Tryd.sizeOf9
  v9 := Tryd.zeroValue9
  t31 := Tryd.underlying22
  a31 := Tryd.isAgg22
  z31 := Tryd.sizeOf22
  v31 := Tryd.zeroValue22 }
end Go.Proofs
/-
  The contract of slices.Contains of texts, for every row of them.
-/
namespace Go.Proofs.YtefdekfgmbgbbaaDoor
open Go.RowKit Go.Shelf Go.Sort

theorem cell_lt {w : World} {a : Addr} {v : Value} (h : w.cell? a = some v) : a.block < w.heap.size := by
  rcases Nat.lt_or_ge a.block w.heap.size with h' | h'
  · exact h'
  · simp [World.cell?, Array.getElem?_eq_none h'] at h
/-- slices.Contains of a row of texts -/
theorem containsS_any (ns : List (List UInt8)) (x : ByteArray) (v : Value) (base : Nat) (w : World) (h : w.ownsRow base 9 1 v ns.length (ns.map encStr)) (hl : ns.length ≤ 9223372036854775807) :
    Calls Tryd.prog 49 #[v, .string x] w fun e w' => e = .returned (.bool (decide (x.data.toList ∈ ns))) ∧ w' = w := by
  rcases own_cells h with ⟨rfl, h0, h1⟩ | ⟨g, cap, rfl, _, hg, hc⟩
  · have : ns = [] := List.eq_nil_of_length_eq_zero h0
    subst this
    refine (Any.slices_Contains_string_empty Tryd.lays110 none 0 x w).mono fun e w' ⟨h1, h2⟩ => ⟨?_, h2⟩
    rw [h1]; simp
  · have hcell : ∀ j, j < (ns.map fun l => (⟨l.toArray⟩ : ByteArray)).length → w.cell? ⟨g, 0 + j, none⟩ = some (.string ((ns.map fun l => (⟨l.toArray⟩ : ByteArray)).getD j ByteArray.empty)) := by
      intro j hj
      have hj' : j < ns.length := by simpa using hj
      rw [Nat.zero_add]
      refine hc j _ ?_
      rw [List.getElem?_map, List.getElem?_eq_getElem hj']
      simp [List.getD_eq_getElem?_getD, hj', encStr]
    refine (Any.slices_Contains_string Tryd.lays110 g 0 ns.length cap (ns.map fun l => (⟨l.toArray⟩ : ByteArray)) x w (by simp) hl hcell).mono fun e w' ⟨h1, h2⟩ => ⟨?_, h2⟩
    rw [h1]
    congr 2
    rw [List.take_of_length_le (by simp)]
    rw [Bool.eq_iff_iff, Lib.containsS_iff, decide_eq_true_eq, List.mem_map]
    constructor
    · rintro ⟨l, hl, rfl⟩; simpa using hl
    · intro hx; exact ⟨_, hx, by simp⟩
end Go.Proofs.YtefdekfgmbgbbaaDoor
