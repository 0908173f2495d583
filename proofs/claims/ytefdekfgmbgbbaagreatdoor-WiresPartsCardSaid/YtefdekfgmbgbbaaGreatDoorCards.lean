/-
  DERIVED. GIVEN WITH THE SEED: THE CARDS: each row of YtefdekfgmbgbbaaGreatDoorRows.lean that lists a variable, with what it lists TIED to the program's text (the seventh form; the later family's looks); each row that meets fmt, with fmt's text TOLD by the authors' own Lean function (tested against real Go, not proved from fmt's source: count such statements apart). THE CARD IS WHAT COUNTS. Prove the row's statement (the work); the ties are given (YtefdekfgmbgbbaaGreatDoorTie.lean); close each card by the builder's one call (the guide's Derived/Test/ToyasCard.lean, 'card_holds'). Laid BY PROGRAM, IN A SANDBOX (cutbox-door.mjs). By AI agents, Wed Nov 11 2026. No macro, syntax, notation, axiom, sorry.
-/
import Derived.Test.YtefdekfgmbgbbaaGreatDoorRows
import GoSem.ClaimSeven
namespace Go.Proofs.YtefdekfgmbgbbaaGreatDoor
namespace Rows

/-- THE TIED CARD OF 'duetkeep.WiresBack'. -/
def wiresBackCard : Claim7 := { stood := { row := wiresBackRow, standIns := [], harness := (true, "cfc2d90b32eef4b41bf3710422878430407b0c88e0c1e2901e1b6023b215e4ea"), looks := true }, kinds := [], alts := [], laidByText := true, laidKinds := [.data, .pinned], laidTests := true, laidLooks := .later }
def WiresBackCardSaid : Prop := Claim7.holds Tryz.pinned (.plain (OpenSpec.ofChange wiresBackSpec)) wiresBackCard

/-- THE TIED CARD OF 'duetkeep.WiresParts'. -/
def wiresPartsCard : Claim7 := { stood := { row := wiresPartsRow, standIns := [], harness := (true, "cfc2d90b32eef4b41bf3710422878430407b0c88e0c1e2901e1b6023b215e4ea"), looks := true }, kinds := [], alts := [], laidByText := true, laidKinds := [.data, .pinned], laidTests := true, laidLooks := .later }
def WiresPartsCardSaid : Prop := Claim7.holds Tryz.pinned (.plain (OpenSpec.ofChange wiresPartsSpec)) wiresPartsCard

/-- THE SECOND FORM's CARD OF 'duetkeep.WiresBack'. -/
def wiresBackUptoCard : Claim7 := { stood := { row := wiresBackUptoRow, standIns := [], harness := (true, "cfc2d90b32eef4b41bf3710422878430407b0c88e0c1e2901e1b6023b215e4ea"), looks := true }, kinds := [], alts := [], laidByText := true, laidKinds := [.data, .pinned], laidTests := true, laidLooks := .later }
def WiresBackUptoCardSaid : Prop := Claim7.holds Tryz.pinned (.plain (OpenSpec.upto wiresBackSpec)) wiresBackUptoCard

/-- THE SECOND FORM's CARD OF 'duetkeep.WiresParts'. -/
def wiresPartsUptoCard : Claim7 := { stood := { row := wiresPartsUptoRow, standIns := [], harness := (true, "cfc2d90b32eef4b41bf3710422878430407b0c88e0c1e2901e1b6023b215e4ea"), looks := true }, kinds := [], alts := [], laidByText := true, laidKinds := [.data, .pinned], laidTests := true, laidLooks := .later }
def WiresPartsUptoCardSaid : Prop := Claim7.holds Tryz.pinned (.plain (OpenSpec.upto wiresPartsSpec)) wiresPartsUptoCard
end Rows
end Go.Proofs.YtefdekfgmbgbbaaGreatDoor
