/-
  DERIVED. GIVEN WITH THE SEED: THE CARDS: each row of YtlphhlnoemlbaaaDoorRows.lean that lists a variable, with what it lists TIED to the program's text (the seventh form; the later family's looks); each row that meets fmt, with fmt's text TOLD by the authors' own Lean function (tested against real Go, not proved from fmt's source: count such statements apart). THE CARD IS WHAT COUNTS. Prove the row's statement (the work); the ties are given (YtlphhlnoemlbaaaDoorTie.lean); close each card by the builder's one call (the guide's Derived/Test/ToyasCard.lean, 'card_holds'). Laid BY PROGRAM, IN A SANDBOX (cutbox-door.mjs). By AI agents, Wed Nov 11 2026. No macro, syntax, notation, axiom, sorry.
-/
import Derived.Test.YtlphhlnoemlbaaaDoorRows
import GoSem.ClaimSeven
namespace Go.Proofs.YtlphhlnoemlbaaaDoor
namespace Rows

/-- THE TIED CARD OF 'duetkeep.BelowDual'. -/
def belowDualCard : Claim7 := { stood := { row := belowDualRow, standIns := [], harness := (true, "9c46724cec9196e7c3ea29961979e5ee0f607f32e64c9df5c0e8b99e5183f3a7"), looks := false }, kinds := [], alts := [], laidByText := true, laidKinds := [.data, .pinned], laidTests := true, laidLooks := .later }
def BelowDualCardSaid : Prop := Claim7.holds Tryd.pinned (.plain (OpenSpec.ofChange belowDualSpec)) belowDualCard

/-- THE SECOND FORM's CARD OF 'duetkeep.BelowDual'. -/
def belowDualUptoCard : Claim7 := { stood := { row := belowDualUptoRow, standIns := [], harness := (true, "9c46724cec9196e7c3ea29961979e5ee0f607f32e64c9df5c0e8b99e5183f3a7"), looks := false }, kinds := [], alts := [], laidByText := true, laidKinds := [.data, .pinned], laidTests := true, laidLooks := .later }
def BelowDualUptoCardSaid : Prop := Claim7.holds Tryd.pinned (.plain (OpenSpec.upto belowDualSpec)) belowDualUptoCard
end Rows
end Go.Proofs.YtlphhlnoemlbaaaDoor
