/-
  DERIVED. GIVEN WITH THE SEED: THE CARDS: each row of YtmamabhhgfcjcaaGreatDoorRows.lean that lists a variable, with what it lists TIED to the program's text (the seventh form; the later family's looks); each row that meets fmt, with fmt's text TOLD by the authors' own Lean function (tested against real Go, not proved from fmt's source: count such statements apart). THE CARD IS WHAT COUNTS. Prove the row's statement (the work); the ties are given (YtmamabhhgfcjcaaGreatDoorTie.lean); close each card by the builder's one call (the guide's Derived/Test/ToyasCard.lean, 'card_holds'). Laid BY PROGRAM, IN A SANDBOX (cutbox-door.mjs). By AI agents, Wed Nov 11 2026. No macro, syntax, notation, axiom, sorry.
-/
import Derived.Test.YtmamabhhgfcjcaaGreatDoorRows
import GoSem.ClaimSeven
namespace Go.Proofs.YtmamabhhgfcjcaaGreatDoor
namespace Rows

/-- THE TIED CARD OF 'duetkeep.CheckSame'. -/
def checkSameCard : Claim7 := { stood := { row := checkSameRow, standIns := [], harness := (true, "c40552417956e75305306d57127dc9ab99b2c2da46d8c60a7f27e337868e4876"), looks := true }, kinds := [], alts := [], laidByText := true, laidKinds := [.data, .pinned], laidTests := true, laidLooks := .later }
def CheckSameCardSaid : Prop := Claim7.holds Tryz.pinned (.plain (OpenSpec.ofChange checkSameSpec)) checkSameCard

/-- THE TIED CARD OF 'duetkeep.CheckMore'. -/
def checkMoreCard : Claim7 := { stood := { row := checkMoreRow, standIns := [], harness := (true, "c40552417956e75305306d57127dc9ab99b2c2da46d8c60a7f27e337868e4876"), looks := true }, kinds := [], alts := [], laidByText := true, laidKinds := [.data, .pinned], laidTests := true, laidLooks := .later }
def CheckMoreCardSaid : Prop := Claim7.holds Tryz.pinned (.plain (OpenSpec.ofChange checkMoreSpec)) checkMoreCard

/-- THE TIED CARD OF 'duetkeep.CheckNarrow'. -/
def checkNarrowCard : Claim7 := { stood := { row := checkNarrowRow, standIns := [], harness := (true, "c40552417956e75305306d57127dc9ab99b2c2da46d8c60a7f27e337868e4876"), looks := true }, kinds := [], alts := [], laidByText := true, laidKinds := [.data, .pinned], laidTests := true, laidLooks := .later }
def CheckNarrowCardSaid : Prop := Claim7.holds Tryz.pinned (.plain (OpenSpec.ofChange checkNarrowSpec)) checkNarrowCard

/-- THE SECOND FORM's CARD OF 'duetkeep.CheckSame'. -/
def checkSameUptoCard : Claim7 := { stood := { row := checkSameUptoRow, standIns := [], harness := (true, "c40552417956e75305306d57127dc9ab99b2c2da46d8c60a7f27e337868e4876"), looks := true }, kinds := [], alts := [], laidByText := true, laidKinds := [.data, .pinned], laidTests := true, laidLooks := .later }
def CheckSameUptoCardSaid : Prop := Claim7.holds Tryz.pinned (.plain (OpenSpec.upto checkSameSpec)) checkSameUptoCard

/-- THE SECOND FORM's CARD OF 'duetkeep.CheckMore'. -/
def checkMoreUptoCard : Claim7 := { stood := { row := checkMoreUptoRow, standIns := [], harness := (true, "c40552417956e75305306d57127dc9ab99b2c2da46d8c60a7f27e337868e4876"), looks := true }, kinds := [], alts := [], laidByText := true, laidKinds := [.data, .pinned], laidTests := true, laidLooks := .later }
def CheckMoreUptoCardSaid : Prop := Claim7.holds Tryz.pinned (.plain (OpenSpec.upto checkMoreSpec)) checkMoreUptoCard

/-- THE SECOND FORM's CARD OF 'duetkeep.CheckNarrow'. -/
def checkNarrowUptoCard : Claim7 := { stood := { row := checkNarrowUptoRow, standIns := [], harness := (true, "c40552417956e75305306d57127dc9ab99b2c2da46d8c60a7f27e337868e4876"), looks := true }, kinds := [], alts := [], laidByText := true, laidKinds := [.data, .pinned], laidTests := true, laidLooks := .later }
def CheckNarrowUptoCardSaid : Prop := Claim7.holds Tryz.pinned (.plain (OpenSpec.upto checkNarrowSpec)) checkNarrowUptoCard
end Rows
end Go.Proofs.YtmamabhhgfcjcaaGreatDoor
