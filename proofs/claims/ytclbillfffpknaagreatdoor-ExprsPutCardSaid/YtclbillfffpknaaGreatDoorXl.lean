/-
  What exprs.Sort and exprs.Eval answer, for every expression, every names and sorts, and every environment.
-/
import Derived.Test.YtclbillfffpknaaGreatDoorXk
import Derived.Deep.OwnRows
import Derived.Deep.DeepCutAuto
namespace Go.Proofs.YtclbillfffpknaaGreatDoor
open Go.RowKit Go.Shelf
variable (Tabs : World → Prop) (B0 : Nat)

/-- what Sort answers -/
def srtR (x : Ex) (ns : List ByteArray) (zs : List Int) : Int × Int := if chkX x = 0 then sortX (lookS ns zs) x else (0, chkX x)
/-- what values.Check says of the first that is none -/
def badL : List (ByteArray × Vl) → Int
  | [] => 0
  | p :: r => if chkZ vD p.2.so p.2.n p.2.s = 0 then badL r else chkZ vD p.2.so p.2.n p.2.s
/-- what Eval answers -/
def evlR (x : Ex) (bs : List (ByteArray × Vl)) : Vl × Int :=
  if chkX x ≠ 0 then (⟨0, 0, ⟨#[]⟩⟩, chkX x) else if badL bs ≠ 0 then (⟨0, 0, ⟨#[]⟩⟩, badL bs)
  else if (sortX (lookS (bs.map (·.1)) (bs.map (·.2.so))) x).2 ≠ 0 then (⟨0, 0, ⟨#[]⟩⟩, (sortX (lookS (bs.map (·.1)) (bs.map (·.2.so))) x).2)
  else (valX (lookV bs) x, 0)

end Go.Proofs.YtclbillfffpknaaGreatDoor
