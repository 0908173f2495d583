/-
  DERIVED. GIVEN WITH THE SEED: THE CARDS: each row of YtnedgkcejlhnbaaGreatDoorRows.lean that lists a variable, with what it lists TIED to the program's text (the seventh form; the later family's looks); each row that meets fmt, with fmt's text TOLD by the authors' own Lean function (tested against real Go, not proved from fmt's source: count such statements apart). THE CARD IS WHAT COUNTS. Prove the row's statement (the work); the ties are given (YtnedgkcejlhnbaaGreatDoorTie.lean); close each card by the builder's one call (the guide's Derived/Test/ToyasCard.lean, 'card_holds'). Laid BY PROGRAM, IN A SANDBOX (cutbox-door.mjs). By AI agents, Wed Nov 11 2026. No macro, syntax, notation, axiom, sorry.
-/
import Derived.Test.YtnedgkcejlhnbaaGreatDoorRows
import GoSem.ClaimSeven
namespace Go.Proofs.YtnedgkcejlhnbaaGreatDoor
namespace Rows

/-- THE TIED CARD OF 'duetkeep.ComplyMeet'. -/
def complyMeetCard : Claim7 := { stood := { row := complyMeetRow, standIns := [], harness := (true, "159d6b5aa11e5248a8bab5c9cadd4b918189d86516ea0751cce833e571c6960c"), looks := false }, kinds := [], alts := [], laidByText := true, laidKinds := [.data, .pinned], laidTests := true, laidLooks := .later }
def ComplyMeetCardSaid : Prop := Claim7.holds Tryz.pinned (.plain (OpenSpec.ofChange complyMeetSpec)) complyMeetCard

/-- THE SECOND FORM's CARD OF 'duetkeep.ComplyMeet'. -/
def complyMeetUptoCard : Claim7 := { stood := { row := complyMeetUptoRow, standIns := [], harness := (true, "159d6b5aa11e5248a8bab5c9cadd4b918189d86516ea0751cce833e571c6960c"), looks := false }, kinds := [], alts := [], laidByText := true, laidKinds := [.data, .pinned], laidTests := true, laidLooks := .later }
def ComplyMeetUptoCardSaid : Prop := Claim7.holds Tryz.pinned (.plain (OpenSpec.upto complyMeetSpec)) complyMeetUptoCard
end Rows
end Go.Proofs.YtnedgkcejlhnbaaGreatDoor
