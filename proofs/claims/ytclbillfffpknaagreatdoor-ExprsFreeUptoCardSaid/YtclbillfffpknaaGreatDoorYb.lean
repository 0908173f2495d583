/-
  The contracts of exprs.isNoLiteral, slices.IndexFunc and slices.ContainsFunc with it, and exprs.literal and exprs.folded, for every right part; utf8.ValidString's and strings.Compare's contracts are hypotheses here.
-/
import Derived.Test.YtclbillfffpknaaGreatDoorYa
namespace Go.Proofs.YtclbillfffpknaaGreatDoor
open Go.RowKit Go.Shelf
variable (Tabs : World → Prop)

def isNL (k : Ex) : Bool := k.kind != 1
def anyNL (ks : List Ex) : Bool := ks.any isNL
/-- an expression of zeros in a block of its own -/
structure ZE (W : World) (b : Nat) : Prop where
  lt : b < W.heap.size
  c0 : W.cell? ⟨b, 0, none⟩ = some (.int .i64 0)
  c1 : W.cell? ⟨b, 1, none⟩ = some (.string ⟨#[]⟩)
  c2 : W.cell? ⟨b, 2, none⟩ = some (.int .i64 0)
  c3 : W.cell? ⟨b, 3, none⟩ = some (.int .i64 0)
  c4 : W.cell? ⟨b, 4, none⟩ = some (.string ⟨#[]⟩)
  c5 : W.cell? ⟨b, 5, none⟩ = some (.slice none 0 0)
  f : ∀ o, W.frozen? ⟨b, o, none⟩ = false
theorem ZE.keep {W W' : World} {b : Nat} (h : ZE W b) (hb : Below W.heap.size W W') : ZE W' b :=
  ⟨Nat.lt_of_lt_of_le h.lt hb.size, (hb.cell (p := ⟨b, 0, none⟩) h.lt).trans h.c0, (hb.cell (p := ⟨b, 1, none⟩) h.lt).trans h.c1, (hb.cell (p := ⟨b, 2, none⟩) h.lt).trans h.c2, (hb.cell (p := ⟨b, 3, none⟩) h.lt).trans h.c3, (hb.cell (p := ⟨b, 4, none⟩) h.lt).trans h.c4, (hb.cell (p := ⟨b, 5, none⟩) h.lt).trans h.c5, fun o => (hb.frozen (p := ⟨b, o, none⟩) h.lt).trans (h.f o)⟩
theorem ZE.new (W : World) (t : TypeId) : ZE (W.alloc (.cells #[.int .i64 0, .string ⟨#[]⟩, .int .i64 0, .int .i64 0, .string ⟨#[]⟩, .slice none 0 0] t)) W.heap.size :=
  ⟨by simp, by go_cell, by go_cell, by go_cell, by go_cell, by go_cell, by go_cell, fun o => by go_simp⟩

set_option maxHeartbeats 400000 in
theorem literal_any (v : Vl) (w : World) :
    Calls Tryz.prog 20 #[vlV v] w fun e w' => e = .returned (exVal (Ex.lit v) none 0) ∧ Below w.heap.size w w' := by
  obtain ⟨so, n, s⟩ := v
  simp only [vlV, exVal, Ex.lit, List.length_nil]
  go_enter Tryz.func20, Tryz.ntmps20
  go_wp2
  refine bodyPost_ret (v := .agg #[.int .i64 1, .string ⟨#[]⟩, .int .i64 so, .int .i64 n, .string s, .slice none 0 0]) (by simp [results, Tryz.results20, go_sem]) rfl ⟨rfl, ?_⟩
  go_grown
end Go.Proofs.YtclbillfffpknaaGreatDoor
