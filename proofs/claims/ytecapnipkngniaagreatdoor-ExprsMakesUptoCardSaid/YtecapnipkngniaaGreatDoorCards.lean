/-
  DERIVED. GIVEN WITH THE SEED: THE CARDS: each row of YtecapnipkngniaaGreatDoorRows.lean that lists a variable, with what it lists TIED to the program's text (the seventh form; the later family's looks); each row that meets fmt, with fmt's text TOLD by the authors' own Lean function (tested against real Go, not proved from fmt's source: count such statements apart). THE CARD IS WHAT COUNTS. Prove the row's statement (the work); the ties are given (YtecapnipkngniaaGreatDoorTie.lean); close each card by the builder's one call (the guide's Derived/Test/ToyasCard.lean, 'card_holds'). Laid BY PROGRAM, IN A SANDBOX (cutbox-door.mjs). By AI agents, Wed Nov 11 2026. No macro, syntax, notation, axiom, sorry.
-/
import Derived.Test.YtecapnipkngniaaGreatDoorRows
import GoSem.ClaimSeven
namespace Go.Proofs.YtecapnipkngniaaGreatDoor
namespace Rows

/-- THE TIED CARD OF 'duetlaw.ExprsMakes'. -/
def exprsMakesCard : Claim7 := { stood := { row := exprsMakesRow, standIns := [], harness := (true, "542f66c458986b934df63e8c4d660f5b15a3efb758b001138189509c2bcdb233"), looks := false }, kinds := [], alts := [], laidByText := true, laidKinds := [.data, .pinned], laidTests := true, laidLooks := .later }
def ExprsMakesCardSaid : Prop := Claim7.holds Tryz.pinned (.plain (OpenSpec.ofChange exprsMakesSpec)) exprsMakesCard

/-- THE SECOND FORM's CARD OF 'duetlaw.ExprsMakes'. -/
def exprsMakesUptoCard : Claim7 := { stood := { row := exprsMakesUptoRow, standIns := [], harness := (true, "542f66c458986b934df63e8c4d660f5b15a3efb758b001138189509c2bcdb233"), looks := false }, kinds := [], alts := [], laidByText := true, laidKinds := [.data, .pinned], laidTests := true, laidLooks := .later }
def ExprsMakesUptoCardSaid : Prop := Claim7.holds Tryz.pinned (.plain (OpenSpec.upto exprsMakesSpec)) exprsMakesUptoCard
end Rows
end Go.Proofs.YtecapnipkngniaaGreatDoor
