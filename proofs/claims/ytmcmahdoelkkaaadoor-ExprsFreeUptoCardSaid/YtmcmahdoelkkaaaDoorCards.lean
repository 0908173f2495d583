/-
  DERIVED. GIVEN WITH THE SEED: THE CARDS: each row of YtmcmahdoelkkaaaDoorRows.lean that lists a variable, with what it lists TIED to the program's text (the seventh form; the later family's looks); each row that meets fmt, with fmt's text TOLD by the authors' own Lean function (tested against real Go, not proved from fmt's source: count such statements apart). THE CARD IS WHAT COUNTS. Prove the row's statement (the work); the ties are given (YtmcmahdoelkkaaaDoorTie.lean); close each card by the builder's one call (the guide's Derived/Test/ToyasCard.lean, 'card_holds'). Laid BY PROGRAM, IN A SANDBOX (cutbox-door.mjs). By AI agents, Wed Nov 11 2026. No macro, syntax, notation, axiom, sorry.
-/
import Derived.Test.YtmcmahdoelkkaaaDoorRows
import GoSem.ClaimSeven
namespace Go.Proofs.YtmcmahdoelkkaaaDoor
namespace Rows

/-- THE TIED CARD OF 'duetkeep.ExprsFold'. -/
def exprsFoldCard : Claim7 := { stood := { row := exprsFoldRow, standIns := [], harness := (true, "3a743f0640e00c6d35c305ca7ccf263a7b417f1ef56729f0dd4647f535e54f41"), looks := false }, kinds := [], alts := [], laidByText := true, laidKinds := [.data, .pinned], laidTests := true, laidLooks := .later }
def ExprsFoldCardSaid : Prop := Claim7.holds Tryd.pinned (.plain (OpenSpec.ofChange exprsFoldSpec)) exprsFoldCard

/-- THE TIED CARD OF 'duetkeep.ExprsPut'. -/
def exprsPutCard : Claim7 := { stood := { row := exprsPutRow, standIns := [], harness := (true, "3a743f0640e00c6d35c305ca7ccf263a7b417f1ef56729f0dd4647f535e54f41"), looks := false }, kinds := [], alts := [], laidByText := true, laidKinds := [.data, .pinned], laidTests := true, laidLooks := .later }
def ExprsPutCardSaid : Prop := Claim7.holds Tryd.pinned (.plain (OpenSpec.ofChange exprsPutSpec)) exprsPutCard

/-- THE TIED CARD OF 'duetkeep.ExprsFree'. -/
def exprsFreeCard : Claim7 := { stood := { row := exprsFreeRow, standIns := [], harness := (true, "3a743f0640e00c6d35c305ca7ccf263a7b417f1ef56729f0dd4647f535e54f41"), looks := false }, kinds := [], alts := [], laidByText := true, laidKinds := [.data, .pinned], laidTests := true, laidLooks := .later }
def ExprsFreeCardSaid : Prop := Claim7.holds Tryd.pinned (.plain (OpenSpec.ofChange exprsFreeSpec)) exprsFreeCard

/-- THE SECOND FORM's CARD OF 'duetkeep.ExprsFold'. -/
def exprsFoldUptoCard : Claim7 := { stood := { row := exprsFoldUptoRow, standIns := [], harness := (true, "3a743f0640e00c6d35c305ca7ccf263a7b417f1ef56729f0dd4647f535e54f41"), looks := false }, kinds := [], alts := [], laidByText := true, laidKinds := [.data, .pinned], laidTests := true, laidLooks := .later }
def ExprsFoldUptoCardSaid : Prop := Claim7.holds Tryd.pinned (.plain (OpenSpec.upto exprsFoldSpec)) exprsFoldUptoCard

/-- THE SECOND FORM's CARD OF 'duetkeep.ExprsPut'. -/
def exprsPutUptoCard : Claim7 := { stood := { row := exprsPutUptoRow, standIns := [], harness := (true, "3a743f0640e00c6d35c305ca7ccf263a7b417f1ef56729f0dd4647f535e54f41"), looks := false }, kinds := [], alts := [], laidByText := true, laidKinds := [.data, .pinned], laidTests := true, laidLooks := .later }
def ExprsPutUptoCardSaid : Prop := Claim7.holds Tryd.pinned (.plain (OpenSpec.upto exprsPutSpec)) exprsPutUptoCard

/-- THE SECOND FORM's CARD OF 'duetkeep.ExprsFree'. -/
def exprsFreeUptoCard : Claim7 := { stood := { row := exprsFreeUptoRow, standIns := [], harness := (true, "3a743f0640e00c6d35c305ca7ccf263a7b417f1ef56729f0dd4647f535e54f41"), looks := false }, kinds := [], alts := [], laidByText := true, laidKinds := [.data, .pinned], laidTests := true, laidLooks := .later }
def ExprsFreeUptoCardSaid : Prop := Claim7.holds Tryd.pinned (.plain (OpenSpec.upto exprsFreeSpec)) exprsFreeUptoCard
end Rows
end Go.Proofs.YtmcmahdoelkkaaaDoor
