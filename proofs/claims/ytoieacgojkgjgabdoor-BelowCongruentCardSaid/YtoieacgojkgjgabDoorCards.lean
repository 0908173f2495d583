/-
  DERIVED. GIVEN WITH THE SEED: THE CARDS: each row of YtoieacgojkgjgabDoorRows.lean that lists a variable, with what it lists TIED to the program's text (the seventh form; the later family's looks); each row that meets fmt, with fmt's text TOLD by the authors' own Lean function (tested against real Go, not proved from fmt's source: count such statements apart). THE CARD IS WHAT COUNTS. Prove the row's statement (the work); the ties are given (YtoieacgojkgjgabDoorTie.lean); close each card by the builder's one call (the guide's Derived/Test/ToyasCard.lean, 'card_holds'). Laid BY PROGRAM, IN A SANDBOX (cutbox-door.mjs). By AI agents, Wed Nov 11 2026. No macro, syntax, notation, axiom, sorry.
-/
import Derived.Test.YtoieacgojkgjgabDoorRows
import GoSem.ClaimSeven
namespace Go.Proofs.YtoieacgojkgjgabDoor
namespace Rows

/-- THE TIED CARD OF 'duetkeep.BelowWhy'. -/
def belowWhyCard : Claim7 := { stood := { row := belowWhyRow, standIns := [], harness := (true, "0bc80ade815756ad7bb8a57b96613a9e4f3e39f781366eeb792e6fc472a04bec"), looks := false }, kinds := [], alts := [], laidByText := true, laidKinds := [.data, .pinned], laidTests := true, laidLooks := .later }
def BelowWhyCardSaid : Prop := Claim7.holds Tryd.pinned (.plain (OpenSpec.ofChange belowWhySpec)) belowWhyCard

/-- THE TIED CARD OF 'duetkeep.BelowCongruent'. -/
def belowCongruentCard : Claim7 := { stood := { row := belowCongruentRow, standIns := [], harness := (true, "0bc80ade815756ad7bb8a57b96613a9e4f3e39f781366eeb792e6fc472a04bec"), looks := false }, kinds := [], alts := [], laidByText := true, laidKinds := [.data, .pinned], laidTests := true, laidLooks := .later }
def BelowCongruentCardSaid : Prop := Claim7.holds Tryd.pinned (.plain (OpenSpec.ofChange belowCongruentSpec)) belowCongruentCard

/-- THE TIED CARD OF 'duetkeep.ComplyDual'. -/
def complyDualCard : Claim7 := { stood := { row := complyDualRow, standIns := [], harness := (true, "0bc80ade815756ad7bb8a57b96613a9e4f3e39f781366eeb792e6fc472a04bec"), looks := false }, kinds := [], alts := [], laidByText := true, laidKinds := [.data, .pinned], laidTests := true, laidLooks := .later }
def ComplyDualCardSaid : Prop := Claim7.holds Tryd.pinned (.plain (OpenSpec.ofChange complyDualSpec)) complyDualCard

/-- THE TIED CARD OF 'duetkeep.ComplyBelow'. -/
def complyBelowCard : Claim7 := { stood := { row := complyBelowRow, standIns := [], harness := (true, "0bc80ade815756ad7bb8a57b96613a9e4f3e39f781366eeb792e6fc472a04bec"), looks := false }, kinds := [], alts := [], laidByText := true, laidKinds := [.data, .pinned], laidTests := true, laidLooks := .later }
def ComplyBelowCardSaid : Prop := Claim7.holds Tryd.pinned (.plain (OpenSpec.ofChange complyBelowSpec)) complyBelowCard

/-- THE SECOND FORM's CARD OF 'duetkeep.BelowWhy'. -/
def belowWhyUptoCard : Claim7 := { stood := { row := belowWhyUptoRow, standIns := [], harness := (true, "0bc80ade815756ad7bb8a57b96613a9e4f3e39f781366eeb792e6fc472a04bec"), looks := false }, kinds := [], alts := [], laidByText := true, laidKinds := [.data, .pinned], laidTests := true, laidLooks := .later }
def BelowWhyUptoCardSaid : Prop := Claim7.holds Tryd.pinned (.plain (OpenSpec.upto belowWhySpec)) belowWhyUptoCard

/-- THE SECOND FORM's CARD OF 'duetkeep.BelowCongruent'. -/
def belowCongruentUptoCard : Claim7 := { stood := { row := belowCongruentUptoRow, standIns := [], harness := (true, "0bc80ade815756ad7bb8a57b96613a9e4f3e39f781366eeb792e6fc472a04bec"), looks := false }, kinds := [], alts := [], laidByText := true, laidKinds := [.data, .pinned], laidTests := true, laidLooks := .later }
def BelowCongruentUptoCardSaid : Prop := Claim7.holds Tryd.pinned (.plain (OpenSpec.upto belowCongruentSpec)) belowCongruentUptoCard

/-- THE SECOND FORM's CARD OF 'duetkeep.ComplyDual'. -/
def complyDualUptoCard : Claim7 := { stood := { row := complyDualUptoRow, standIns := [], harness := (true, "0bc80ade815756ad7bb8a57b96613a9e4f3e39f781366eeb792e6fc472a04bec"), looks := false }, kinds := [], alts := [], laidByText := true, laidKinds := [.data, .pinned], laidTests := true, laidLooks := .later }
def ComplyDualUptoCardSaid : Prop := Claim7.holds Tryd.pinned (.plain (OpenSpec.upto complyDualSpec)) complyDualUptoCard

/-- THE SECOND FORM's CARD OF 'duetkeep.ComplyBelow'. -/
def complyBelowUptoCard : Claim7 := { stood := { row := complyBelowUptoRow, standIns := [], harness := (true, "0bc80ade815756ad7bb8a57b96613a9e4f3e39f781366eeb792e6fc472a04bec"), looks := false }, kinds := [], alts := [], laidByText := true, laidKinds := [.data, .pinned], laidTests := true, laidLooks := .later }
def ComplyBelowUptoCardSaid : Prop := Claim7.holds Tryd.pinned (.plain (OpenSpec.upto complyBelowSpec)) complyBelowUptoCard
end Rows
end Go.Proofs.YtoieacgojkgjgabDoor
