/-
  DERIVED. GIVEN WITH THE SEED: THE CARDS: each row of YtnnlapjacakbhaaDoorRows.lean that lists a variable, with what it lists TIED to the program's text (the seventh form; the later family's looks); each row that meets fmt, with fmt's text TOLD by the authors' own Lean function (tested against real Go, not proved from fmt's source: count such statements apart). THE CARD IS WHAT COUNTS. Prove the row's statement (the work); the ties are given (YtnnlapjacakbhaaDoorTie.lean); close each card by the builder's one call (the guide's Derived/Test/ToyasCard.lean, 'card_holds'). Laid BY PROGRAM, IN A SANDBOX (cutbox-door.mjs). By AI agents, Wed Nov 11 2026. No macro, syntax, notation, axiom, sorry.
-/
import Derived.Test.YtnnlapjacakbhaaDoorRows
import GoSem.ClaimSeven
namespace Go.Proofs.YtnnlapjacakbhaaDoor
namespace Rows

/-- THE TIED CARD OF 'duetlaw.ExprsSays'. -/
def exprsSaysCard : Claim7 := { stood := { row := exprsSaysRow, standIns := [], harness := (true, "5d94b0f6a1ffd0a08b8b5e714b16caab36c0e566b969f52e09708a8d8a3e9f91"), looks := true }, kinds := [], alts := [], laidByText := true, laidKinds := [.data, .data, .data, .data, .pinned], laidTests := true, laidLooks := .later }
def ExprsSaysCardSaid : Prop := Claim7.holds Tryd.pinned (.plain (OpenSpec.ofChange exprsSaysSpec)) exprsSaysCard

/-- THE TIED CARD OF 'duetkeep.ExprsBack'. -/
def exprsBackCard : Claim7 := { stood := { row := exprsBackRow, standIns := [], harness := (true, "5d94b0f6a1ffd0a08b8b5e714b16caab36c0e566b969f52e09708a8d8a3e9f91"), looks := true }, kinds := [], alts := [], laidByText := true, laidKinds := [.data, .data, .data, .data, .sentinel, .sentinel, .pinned], laidTests := true, laidLooks := .later }
def ExprsBackCardSaid : Prop := Claim7.holds Tryd.pinned (.plain (OpenSpec.ofChange exprsBackSpec)) exprsBackCard

/-- THE TIED CARD OF 'duetkeep.ExprsSorted'. -/
def exprsSortedCard : Claim7 := { stood := { row := exprsSortedRow, standIns := [], harness := (true, "5d94b0f6a1ffd0a08b8b5e714b16caab36c0e566b969f52e09708a8d8a3e9f91"), looks := true }, kinds := [], alts := [], laidByText := true, laidKinds := [.data, .pinned], laidTests := true, laidLooks := .later }
def ExprsSortedCardSaid : Prop := Claim7.holds Tryd.pinned (.plain (OpenSpec.ofChange exprsSortedSpec)) exprsSortedCard

/-- THE TIED CARD OF 'duetkeep.ExprsFold'. -/
def exprsFoldCard : Claim7 := { stood := { row := exprsFoldRow, standIns := [], harness := (true, "5d94b0f6a1ffd0a08b8b5e714b16caab36c0e566b969f52e09708a8d8a3e9f91"), looks := true }, kinds := [], alts := [], laidByText := true, laidKinds := [.data, .pinned], laidTests := true, laidLooks := .later }
def ExprsFoldCardSaid : Prop := Claim7.holds Tryd.pinned (.plain (OpenSpec.ofChange exprsFoldSpec)) exprsFoldCard

/-- THE SECOND FORM's CARD OF 'duetlaw.ExprsSays'. -/
def exprsSaysUptoCard : Claim7 := { stood := { row := exprsSaysUptoRow, standIns := [], harness := (true, "5d94b0f6a1ffd0a08b8b5e714b16caab36c0e566b969f52e09708a8d8a3e9f91"), looks := true }, kinds := [], alts := [], laidByText := true, laidKinds := [.data, .data, .data, .data, .pinned], laidTests := true, laidLooks := .later }
def ExprsSaysUptoCardSaid : Prop := Claim7.holds Tryd.pinned (.plain (OpenSpec.upto exprsSaysSpec)) exprsSaysUptoCard

/-- THE SECOND FORM's CARD OF 'duetkeep.ExprsBack'. -/
def exprsBackUptoCard : Claim7 := { stood := { row := exprsBackUptoRow, standIns := [], harness := (true, "5d94b0f6a1ffd0a08b8b5e714b16caab36c0e566b969f52e09708a8d8a3e9f91"), looks := true }, kinds := [], alts := [], laidByText := true, laidKinds := [.data, .data, .data, .data, .sentinel, .sentinel, .pinned], laidTests := true, laidLooks := .later }
def ExprsBackUptoCardSaid : Prop := Claim7.holds Tryd.pinned (.plain (OpenSpec.upto exprsBackSpec)) exprsBackUptoCard

/-- THE SECOND FORM's CARD OF 'duetkeep.ExprsSorted'. -/
def exprsSortedUptoCard : Claim7 := { stood := { row := exprsSortedUptoRow, standIns := [], harness := (true, "5d94b0f6a1ffd0a08b8b5e714b16caab36c0e566b969f52e09708a8d8a3e9f91"), looks := true }, kinds := [], alts := [], laidByText := true, laidKinds := [.data, .pinned], laidTests := true, laidLooks := .later }
def ExprsSortedUptoCardSaid : Prop := Claim7.holds Tryd.pinned (.plain (OpenSpec.upto exprsSortedSpec)) exprsSortedUptoCard

/-- THE SECOND FORM's CARD OF 'duetkeep.ExprsFold'. -/
def exprsFoldUptoCard : Claim7 := { stood := { row := exprsFoldUptoRow, standIns := [], harness := (true, "5d94b0f6a1ffd0a08b8b5e714b16caab36c0e566b969f52e09708a8d8a3e9f91"), looks := true }, kinds := [], alts := [], laidByText := true, laidKinds := [.data, .pinned], laidTests := true, laidLooks := .later }
def ExprsFoldUptoCardSaid : Prop := Claim7.holds Tryd.pinned (.plain (OpenSpec.upto exprsFoldSpec)) exprsFoldUptoCard
end Rows
end Go.Proofs.YtnnlapjacakbhaaDoor
