/-
  DERIVED. GIVEN WITH THE SEED: THE CARDS: each row of YtoieacgojkgjgaaDoorRows.lean that lists a variable, with what it lists TIED to the program's text (the seventh form; the later family's looks); each row that meets fmt, with fmt's text TOLD by the authors' own Lean function (tested against real Go, not proved from fmt's source: count such statements apart). THE CARD IS WHAT COUNTS. Prove the row's statement (the work); the ties are given (YtoieacgojkgjgaaDoorTie.lean); close each card by the builder's one call (the guide's Derived/Test/ToyasCard.lean, 'card_holds'). Laid BY PROGRAM, IN A SANDBOX (cutbox-door.mjs). By AI agents, Wed Nov 11 2026. No macro, syntax, notation, axiom, sorry.
-/
import Derived.Test.YtoieacgojkgjgaaDoorRows
import GoSem.ClaimSeven
namespace Go.Proofs.YtoieacgojkgjgaaDoor
namespace Rows

/-- THE TIED CARD OF 'duetkeep.GraphUnfolds'. -/
def graphUnfoldsCard : Claim7 := { stood := { row := graphUnfoldsRow, standIns := [], harness := (true, "fb09b9d4c1e07b09428de4fdd6b8a2bdc848e7c42578964094ad19f855055e5c"), looks := false }, kinds := [], alts := [], laidByText := true, laidKinds := [.data, .pinned], laidTests := true, laidLooks := .later }
def GraphUnfoldsCardSaid : Prop := Claim7.holds Tryd.pinned (.plain (OpenSpec.ofChange graphUnfoldsSpec)) graphUnfoldsCard

/-- THE TIED CARD OF 'duetkeep.GraphLeast'. -/
def graphLeastCard : Claim7 := { stood := { row := graphLeastRow, standIns := [], harness := (true, "fb09b9d4c1e07b09428de4fdd6b8a2bdc848e7c42578964094ad19f855055e5c"), looks := false }, kinds := [], alts := [], laidByText := true, laidKinds := [.data, .data, .data, .data, .pinned], laidTests := true, laidLooks := .later }
def GraphLeastCardSaid : Prop := Claim7.holds Tryd.pinned (.plain (OpenSpec.ofChange graphLeastSpec)) graphLeastCard

/-- THE TIED CARD OF 'duetkeep.GraphBekic'. -/
def graphBekicCard : Claim7 := { stood := { row := graphBekicRow, standIns := [], harness := (true, "fb09b9d4c1e07b09428de4fdd6b8a2bdc848e7c42578964094ad19f855055e5c"), looks := false }, kinds := [], alts := [], laidByText := true, laidKinds := [.data, .pinned], laidTests := true, laidLooks := .later }
def GraphBekicCardSaid : Prop := Claim7.holds Tryd.pinned (.plain (OpenSpec.ofChange graphBekicSpec)) graphBekicCard

/-- THE TIED CARD OF 'duetkeep.GraphUnique'. -/
def graphUniqueCard : Claim7 := { stood := { row := graphUniqueRow, standIns := [], harness := (true, "fb09b9d4c1e07b09428de4fdd6b8a2bdc848e7c42578964094ad19f855055e5c"), looks := false }, kinds := [], alts := [], laidByText := true, laidKinds := [.data, .pinned], laidTests := true, laidLooks := .later }
def GraphUniqueCardSaid : Prop := Claim7.holds Tryd.pinned (.plain (OpenSpec.ofChange graphUniqueSpec)) graphUniqueCard

/-- THE TIED CARD OF 'duetkeep.BelowOrder'. -/
def belowOrderCard : Claim7 := { stood := { row := belowOrderRow, standIns := [], harness := (true, "fb09b9d4c1e07b09428de4fdd6b8a2bdc848e7c42578964094ad19f855055e5c"), looks := false }, kinds := [], alts := [], laidByText := true, laidKinds := [.data, .pinned], laidTests := true, laidLooks := .later }
def BelowOrderCardSaid : Prop := Claim7.holds Tryd.pinned (.plain (OpenSpec.ofChange belowOrderSpec)) belowOrderCard

/-- THE TIED CARD OF 'duetkeep.BelowDual'. -/
def belowDualCard : Claim7 := { stood := { row := belowDualRow, standIns := [], harness := (true, "fb09b9d4c1e07b09428de4fdd6b8a2bdc848e7c42578964094ad19f855055e5c"), looks := false }, kinds := [], alts := [], laidByText := true, laidKinds := [.data, .pinned], laidTests := true, laidLooks := .later }
def BelowDualCardSaid : Prop := Claim7.holds Tryd.pinned (.plain (OpenSpec.ofChange belowDualSpec)) belowDualCard

/-- THE SECOND FORM's CARD OF 'duetkeep.GraphUnfolds'. -/
def graphUnfoldsUptoCard : Claim7 := { stood := { row := graphUnfoldsUptoRow, standIns := [], harness := (true, "fb09b9d4c1e07b09428de4fdd6b8a2bdc848e7c42578964094ad19f855055e5c"), looks := false }, kinds := [], alts := [], laidByText := true, laidKinds := [.data, .pinned], laidTests := true, laidLooks := .later }
def GraphUnfoldsUptoCardSaid : Prop := Claim7.holds Tryd.pinned (.plain (OpenSpec.upto graphUnfoldsSpec)) graphUnfoldsUptoCard

/-- THE SECOND FORM's CARD OF 'duetkeep.GraphLeast'. -/
def graphLeastUptoCard : Claim7 := { stood := { row := graphLeastUptoRow, standIns := [], harness := (true, "fb09b9d4c1e07b09428de4fdd6b8a2bdc848e7c42578964094ad19f855055e5c"), looks := false }, kinds := [], alts := [], laidByText := true, laidKinds := [.data, .data, .data, .data, .pinned], laidTests := true, laidLooks := .later }
def GraphLeastUptoCardSaid : Prop := Claim7.holds Tryd.pinned (.plain (OpenSpec.upto graphLeastSpec)) graphLeastUptoCard

/-- THE SECOND FORM's CARD OF 'duetkeep.GraphBekic'. -/
def graphBekicUptoCard : Claim7 := { stood := { row := graphBekicUptoRow, standIns := [], harness := (true, "fb09b9d4c1e07b09428de4fdd6b8a2bdc848e7c42578964094ad19f855055e5c"), looks := false }, kinds := [], alts := [], laidByText := true, laidKinds := [.data, .pinned], laidTests := true, laidLooks := .later }
def GraphBekicUptoCardSaid : Prop := Claim7.holds Tryd.pinned (.plain (OpenSpec.upto graphBekicSpec)) graphBekicUptoCard

/-- THE SECOND FORM's CARD OF 'duetkeep.GraphUnique'. -/
def graphUniqueUptoCard : Claim7 := { stood := { row := graphUniqueUptoRow, standIns := [], harness := (true, "fb09b9d4c1e07b09428de4fdd6b8a2bdc848e7c42578964094ad19f855055e5c"), looks := false }, kinds := [], alts := [], laidByText := true, laidKinds := [.data, .pinned], laidTests := true, laidLooks := .later }
def GraphUniqueUptoCardSaid : Prop := Claim7.holds Tryd.pinned (.plain (OpenSpec.upto graphUniqueSpec)) graphUniqueUptoCard

/-- THE SECOND FORM's CARD OF 'duetkeep.BelowOrder'. -/
def belowOrderUptoCard : Claim7 := { stood := { row := belowOrderUptoRow, standIns := [], harness := (true, "fb09b9d4c1e07b09428de4fdd6b8a2bdc848e7c42578964094ad19f855055e5c"), looks := false }, kinds := [], alts := [], laidByText := true, laidKinds := [.data, .pinned], laidTests := true, laidLooks := .later }
def BelowOrderUptoCardSaid : Prop := Claim7.holds Tryd.pinned (.plain (OpenSpec.upto belowOrderSpec)) belowOrderUptoCard

/-- THE SECOND FORM's CARD OF 'duetkeep.BelowDual'. -/
def belowDualUptoCard : Claim7 := { stood := { row := belowDualUptoRow, standIns := [], harness := (true, "fb09b9d4c1e07b09428de4fdd6b8a2bdc848e7c42578964094ad19f855055e5c"), looks := false }, kinds := [], alts := [], laidByText := true, laidKinds := [.data, .pinned], laidTests := true, laidLooks := .later }
def BelowDualUptoCardSaid : Prop := Claim7.holds Tryd.pinned (.plain (OpenSpec.upto belowDualSpec)) belowDualUptoCard
end Rows
end Go.Proofs.YtoieacgojkgjgaaDoor
