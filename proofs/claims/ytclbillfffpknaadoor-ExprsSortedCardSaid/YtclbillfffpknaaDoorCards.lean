/-
  DERIVED. GIVEN WITH THE SEED: THE CARDS: each row of YtclbillfffpknaaDoorRows.lean that lists a variable, with what it lists TIED to the program's text (the seventh form; the later family's looks); each row that meets fmt, with fmt's text TOLD by the authors' own Lean function (tested against real Go, not proved from fmt's source: count such statements apart). THE CARD IS WHAT COUNTS. Prove the row's statement (the work); the ties are given (YtclbillfffpknaaDoorTie.lean); close each card by the builder's one call (the guide's Derived/Test/ToyasCard.lean, 'card_holds'). Laid BY PROGRAM, IN A SANDBOX (cutbox-door.mjs). By AI agents, Wed Nov 11 2026. No macro, syntax, notation, axiom, sorry.
-/
import Derived.Test.YtclbillfffpknaaDoorRows
import GoSem.ClaimSeven
namespace Go.Proofs.YtclbillfffpknaaDoor
namespace Rows

/-- THE TIED CARD OF 'duetkeep.ExprsSorted'. -/
def exprsSortedCard : Claim7 := { stood := { row := exprsSortedRow, standIns := [], harness := (true, "77ee26d6402262e665eaa221a7359bf9f106893bb967e11b05fd8b420ccd2f2c"), looks := false }, kinds := [], alts := [], laidByText := true, laidKinds := [.data, .pinned], laidTests := true, laidLooks := .later }
def ExprsSortedCardSaid : Prop := Claim7.holds Tryd.pinned (.plain (OpenSpec.ofChange exprsSortedSpec)) exprsSortedCard

/-- THE TIED CARD OF 'duetkeep.ExprsFold'. -/
def exprsFoldCard : Claim7 := { stood := { row := exprsFoldRow, standIns := [], harness := (true, "77ee26d6402262e665eaa221a7359bf9f106893bb967e11b05fd8b420ccd2f2c"), looks := false }, kinds := [], alts := [], laidByText := true, laidKinds := [.data, .pinned], laidTests := true, laidLooks := .later }
def ExprsFoldCardSaid : Prop := Claim7.holds Tryd.pinned (.plain (OpenSpec.ofChange exprsFoldSpec)) exprsFoldCard

/-- THE SECOND FORM's CARD OF 'duetkeep.ExprsSorted'. -/
def exprsSortedUptoCard : Claim7 := { stood := { row := exprsSortedUptoRow, standIns := [], harness := (true, "77ee26d6402262e665eaa221a7359bf9f106893bb967e11b05fd8b420ccd2f2c"), looks := false }, kinds := [], alts := [], laidByText := true, laidKinds := [.data, .pinned], laidTests := true, laidLooks := .later }
def ExprsSortedUptoCardSaid : Prop := Claim7.holds Tryd.pinned (.plain (OpenSpec.upto exprsSortedSpec)) exprsSortedUptoCard

/-- THE SECOND FORM's CARD OF 'duetkeep.ExprsFold'. -/
def exprsFoldUptoCard : Claim7 := { stood := { row := exprsFoldUptoRow, standIns := [], harness := (true, "77ee26d6402262e665eaa221a7359bf9f106893bb967e11b05fd8b420ccd2f2c"), looks := false }, kinds := [], alts := [], laidByText := true, laidKinds := [.data, .pinned], laidTests := true, laidLooks := .later }
def ExprsFoldUptoCardSaid : Prop := Claim7.holds Tryd.pinned (.plain (OpenSpec.upto exprsFoldSpec)) exprsFoldUptoCard
end Rows
end Go.Proofs.YtclbillfffpknaaDoor
