/-
  The contract of slices.Contains of texts, for every row of them.
-/
import Derived.Test.YthamkbahiidenaaDoorPn
import Derived.Test.YthamkbahiidenaaDoorLic
import Derived.Sort.EncStr
namespace Go.Proofs.YthamkbahiidenaaDoor
open Go.RowKit Go.Shelf Go.Sort

theorem cell_lt {w : World} {a : Addr} {v : Value} (h : w.cell? a = some v) : a.block < w.heap.size := by
  rcases Nat.lt_or_ge a.block w.heap.size with h' | h'
  · exact h'
  · simp [World.cell?, Array.getElem?_eq_none h'] at h
/-- slices.Contains of a row of texts -/
theorem containsS_any (ns : List (List UInt8)) (x : ByteArray) (v : Value) (base : Nat) (w : World) (h : w.ownsRow base 9 1 v ns.length (ns.map encStr)) (hl : ns.length ≤ 9223372036854775807) :
    Calls Tryd.prog 48 #[v, .string x] w fun e w' => e = .returned (.bool (decide (x.data.toList ∈ ns))) ∧ w' = w := by
  rcases own_cells h with ⟨rfl, h0, h1⟩ | ⟨g, cap, rfl, _, hg, hc⟩
  · have : ns = [] := List.eq_nil_of_length_eq_zero h0
    subst this
    refine (Any.slices_Contains_string_empty Tryd.lays110 none 0 x w).mono fun e w' ⟨h1, h2⟩ => ⟨?_, h2⟩
    rw [h1]; simp
  · have hcell : ∀ j, j < (ns.map fun l => (⟨l.toArray⟩ : ByteArray)).length → w.cell? ⟨g, 0 + j, none⟩ = some (.string ((ns.map fun l => (⟨l.toArray⟩ : ByteArray)).getD j ByteArray.empty)) := by
      intro j hj
      have hj' : j < ns.length := by simpa using hj
      rw [Nat.zero_add]
      refine hc j _ ?_
      rw [List.getElem?_map, List.getElem?_eq_getElem hj']
      simp [List.getD_eq_getElem?_getD, hj', encStr]
    refine (Any.slices_Contains_string Tryd.lays110 g 0 ns.length cap (ns.map fun l => (⟨l.toArray⟩ : ByteArray)) x w (by simp) hl hcell).mono fun e w' ⟨h1, h2⟩ => ⟨?_, h2⟩
    rw [h1]
    congr 2
    rw [List.take_of_length_le (by simp)]
    rw [Bool.eq_iff_iff, Lib.containsS_iff, decide_eq_true_eq, List.mem_map]
    constructor
    · rintro ⟨l, hl, rfl⟩; simpa using hl
    · intro hx; exact ⟨_, hx, by simp⟩
end Go.Proofs.YthamkbahiidenaaDoor
