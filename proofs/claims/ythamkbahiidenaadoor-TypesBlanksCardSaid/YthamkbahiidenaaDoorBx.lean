/-
  A value in a block of its own, carried from world to world; what the calls of values.Length and values.Joined say.
-/
import Derived.Test.YthamkbahiidenaaDoorJx
import Derived.Deep.QuietTactic
import Derived.BigQuiet
namespace Go.Proofs.YthamkbahiidenaaDoor
open Go.RowKit Go.Shelf
variable (Tabs : World → Prop)

/-- a value in a block of its own -/
structure Box (W : World) (b : Nat) (so n : Int) (s : ByteArray) : Prop where
  lt : b < W.heap.size
  c0 : W.cell? ⟨b, 0, none⟩ = some (.int .i64 so)
  c1 : W.cell? ⟨b, 1, none⟩ = some (.int .i64 n)
  c2 : W.cell? ⟨b, 2, none⟩ = some (.string s)
theorem Box.keep {W W' : World} {b : Nat} {so n : Int} {s : ByteArray} (h : Box W b so n s) (hb : Below W.heap.size W W') : Box W' b so n s :=
  ⟨Nat.lt_of_lt_of_le h.lt hb.size, (hb.cell (p := ⟨b, 0, none⟩) h.lt).trans h.c0, (hb.cell (p := ⟨b, 1, none⟩) h.lt).trans h.c1, (hb.cell (p := ⟨b, 2, none⟩) h.lt).trans h.c2⟩
theorem Box.al {W : World} {b : Nat} {so n : Int} {s : ByteArray} (h : Box W b so n s) (o : Obj) : Box (W.alloc o) b so n s := h.keep ((Below.refl _ _).alloc (Nat.le_refl _) o)
theorem Box.new (W : World) (so n : Int) (s : ByteArray) (t : TypeId) : Box (W.alloc (.cells #[.int .i64 so, .int .i64 n, .string s] t)) W.heap.size so n s :=
  ⟨by simp, by go_cell, by go_cell, by go_cell⟩
theorem Box.facts {W : World} {b : Nat} {so n : Int} {s : ByteArray} (h : Box W b so n s) : (W.cell? ⟨b, 0, none⟩ = some (.int .i64 so) ∧ W.cell? ⟨b, 1, none⟩ = some (.int .i64 n) ∧ W.cell? ⟨b, 2, none⟩ = some (.string s)) ∧ (∀ o, (W.alloc o).cell? ⟨b, 0, none⟩ = some (.int .i64 so)) ∧ (∀ o, (W.alloc o).cell? ⟨b, 1, none⟩ = some (.int .i64 n)) ∧ (∀ o, (W.alloc o).cell? ⟨b, 2, none⟩ = some (.string s)) :=
  ⟨⟨h.c0, h.c1, h.c2⟩, fun o => (h.al o).c0, fun o => (h.al o).c1, fun o => (h.al o).c2⟩

theorem below_dn {B : Nat} {a w : World} (h : Below B a w) : ∀ q, Below B a (w.drewN q)
  | 0 => h
  | q + 1 => (below_dn h q).drew
end Go.Proofs.YthamkbahiidenaaDoor
