/-
  DERIVED. GIVEN WITH THE SEED: THE CARDS: each row of YtclbillfffpknaaGreatDoorRows.lean that lists a variable, with what it lists TIED to the program's text (the seventh form; the later family's looks); each row that meets fmt, with fmt's text TOLD by the authors' own Lean function (tested against real Go, not proved from fmt's source: count such statements apart). THE CARD IS WHAT COUNTS. Prove the row's statement (the work); the ties are given (YtclbillfffpknaaGreatDoorTie.lean); close each card by the builder's one call (the guide's Derived/Test/ToyasCard.lean, 'card_holds'). Laid BY PROGRAM, IN A SANDBOX (cutbox-door.mjs). By AI agents, Wed Nov 11 2026. No macro, syntax, notation, axiom, sorry.
-/
import Derived.Test.YtclbillfffpknaaGreatDoorRows
import GoSem.ClaimSeven
namespace Go.Proofs.YtclbillfffpknaaGreatDoor
namespace Rows

/-- THE TIED CARD OF 'duetkeep.ExprsPut'. -/
def exprsPutCard : Claim7 := { stood := { row := exprsPutRow, standIns := [], harness := (true, "4862b3cea8ee9f362ec218668ee7c49634b4ac7c0495e8da556d0afdf3a6cbbf"), looks := false }, kinds := [], alts := [], laidByText := true, laidKinds := [.data, .pinned], laidTests := true, laidLooks := .later }
def ExprsPutCardSaid : Prop := Claim7.holds Tryz.pinned (.plain (OpenSpec.ofChange exprsPutSpec)) exprsPutCard

/-- THE TIED CARD OF 'duetkeep.ExprsFree'. -/
def exprsFreeCard : Claim7 := { stood := { row := exprsFreeRow, standIns := [], harness := (true, "4862b3cea8ee9f362ec218668ee7c49634b4ac7c0495e8da556d0afdf3a6cbbf"), looks := false }, kinds := [], alts := [], laidByText := true, laidKinds := [.data, .pinned], laidTests := true, laidLooks := .later }
def ExprsFreeCardSaid : Prop := Claim7.holds Tryz.pinned (.plain (OpenSpec.ofChange exprsFreeSpec)) exprsFreeCard

/-- THE SECOND FORM's CARD OF 'duetkeep.ExprsPut'. -/
def exprsPutUptoCard : Claim7 := { stood := { row := exprsPutUptoRow, standIns := [], harness := (true, "4862b3cea8ee9f362ec218668ee7c49634b4ac7c0495e8da556d0afdf3a6cbbf"), looks := false }, kinds := [], alts := [], laidByText := true, laidKinds := [.data, .pinned], laidTests := true, laidLooks := .later }
def ExprsPutUptoCardSaid : Prop := Claim7.holds Tryz.pinned (.plain (OpenSpec.upto exprsPutSpec)) exprsPutUptoCard

/-- THE SECOND FORM's CARD OF 'duetkeep.ExprsFree'. -/
def exprsFreeUptoCard : Claim7 := { stood := { row := exprsFreeUptoRow, standIns := [], harness := (true, "4862b3cea8ee9f362ec218668ee7c49634b4ac7c0495e8da556d0afdf3a6cbbf"), looks := false }, kinds := [], alts := [], laidByText := true, laidKinds := [.data, .pinned], laidTests := true, laidLooks := .later }
def ExprsFreeUptoCardSaid : Prop := Claim7.holds Tryz.pinned (.plain (OpenSpec.upto exprsFreeSpec)) exprsFreeUptoCard
end Rows
end Go.Proofs.YtclbillfffpknaaGreatDoor
