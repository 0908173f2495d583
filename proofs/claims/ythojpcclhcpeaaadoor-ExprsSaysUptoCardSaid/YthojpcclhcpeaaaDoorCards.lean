/-
  DERIVED. GIVEN WITH THE SEED: THE CARDS: each row of YthojpcclhcpeaaaDoorRows.lean that lists a variable, with what it lists TIED to the program's text (the seventh form; the later family's looks); each row that meets fmt, with fmt's text TOLD by the authors' own Lean function (tested against real Go, not proved from fmt's source: count such statements apart). THE CARD IS WHAT COUNTS. Prove the row's statement (the work); the ties are given (YthojpcclhcpeaaaDoorTie.lean); close each card by the builder's one call (the guide's Derived/Test/ToyasCard.lean, 'card_holds'). Laid BY PROGRAM, IN A SANDBOX (cutbox-door.mjs). By AI agents, Wed Nov 11 2026. No macro, syntax, notation, axiom, sorry.
-/
import Derived.Test.YthojpcclhcpeaaaDoorRows
import GoSem.ClaimSeven
namespace Go.Proofs.YthojpcclhcpeaaaDoor
namespace Rows

/-- THE TIED CARD OF 'duetlaw.ExprsSays'. -/
def exprsSaysCard : Claim7 := { stood := { row := exprsSaysRow, standIns := [], harness := (true, "4cad30ca1dd5e3faf7263ad08dffd5404536f24a486067b9c071732caf23bed1"), looks := true }, kinds := [], alts := [], laidByText := true, laidKinds := [.data, .data, .data, .data, .pinned], laidTests := true, laidLooks := .later }
def ExprsSaysCardSaid : Prop := Claim7.holds Tryd.pinned (.plain (OpenSpec.ofChange exprsSaysSpec)) exprsSaysCard

/-- THE TIED CARD OF 'duetlaw.TypesSays'. -/
def typesSaysCard : Claim7 := { stood := { row := typesSaysRow, standIns := [], harness := (true, "4cad30ca1dd5e3faf7263ad08dffd5404536f24a486067b9c071732caf23bed1"), looks := true }, kinds := [], alts := [], laidByText := true, laidKinds := [.data, .pinned], laidTests := true, laidLooks := .later }
def TypesSaysCardSaid : Prop := Claim7.holds Tryd.pinned (.plain (OpenSpec.ofChange typesSaysSpec)) typesSaysCard

/-- THE TIED CARD OF 'duetkeep.TypesBack'. -/
def typesBackCard : Claim7 := { stood := { row := typesBackRow, standIns := [], harness := (true, "4cad30ca1dd5e3faf7263ad08dffd5404536f24a486067b9c071732caf23bed1"), looks := true }, kinds := [], alts := [], laidByText := true, laidKinds := [.data, .pinned], laidTests := true, laidLooks := .later }
def TypesBackCardSaid : Prop := Claim7.holds Tryd.pinned (.plain (OpenSpec.ofChange typesBackSpec)) typesBackCard

/-- THE TIED CARD OF 'duetkeep.TypesBlanks'. -/
def typesBlanksCard : Claim7 := { stood := { row := typesBlanksRow, standIns := [], harness := (true, "4cad30ca1dd5e3faf7263ad08dffd5404536f24a486067b9c071732caf23bed1"), looks := true }, kinds := [], alts := [], laidByText := true, laidKinds := [.data, .pinned], laidTests := true, laidLooks := .later }
def TypesBlanksCardSaid : Prop := Claim7.holds Tryd.pinned (.plain (OpenSpec.ofChange typesBlanksSpec)) typesBlanksCard

/-- THE SECOND FORM's CARD OF 'duetlaw.ExprsSays'. -/
def exprsSaysUptoCard : Claim7 := { stood := { row := exprsSaysUptoRow, standIns := [], harness := (true, "4cad30ca1dd5e3faf7263ad08dffd5404536f24a486067b9c071732caf23bed1"), looks := true }, kinds := [], alts := [], laidByText := true, laidKinds := [.data, .data, .data, .data, .pinned], laidTests := true, laidLooks := .later }
def ExprsSaysUptoCardSaid : Prop := Claim7.holds Tryd.pinned (.plain (OpenSpec.upto exprsSaysSpec)) exprsSaysUptoCard

/-- THE SECOND FORM's CARD OF 'duetlaw.TypesSays'. -/
def typesSaysUptoCard : Claim7 := { stood := { row := typesSaysUptoRow, standIns := [], harness := (true, "4cad30ca1dd5e3faf7263ad08dffd5404536f24a486067b9c071732caf23bed1"), looks := true }, kinds := [], alts := [], laidByText := true, laidKinds := [.data, .pinned], laidTests := true, laidLooks := .later }
def TypesSaysUptoCardSaid : Prop := Claim7.holds Tryd.pinned (.plain (OpenSpec.upto typesSaysSpec)) typesSaysUptoCard

/-- THE SECOND FORM's CARD OF 'duetkeep.TypesBack'. -/
def typesBackUptoCard : Claim7 := { stood := { row := typesBackUptoRow, standIns := [], harness := (true, "4cad30ca1dd5e3faf7263ad08dffd5404536f24a486067b9c071732caf23bed1"), looks := true }, kinds := [], alts := [], laidByText := true, laidKinds := [.data, .pinned], laidTests := true, laidLooks := .later }
def TypesBackUptoCardSaid : Prop := Claim7.holds Tryd.pinned (.plain (OpenSpec.upto typesBackSpec)) typesBackUptoCard

/-- THE SECOND FORM's CARD OF 'duetkeep.TypesBlanks'. -/
def typesBlanksUptoCard : Claim7 := { stood := { row := typesBlanksUptoRow, standIns := [], harness := (true, "4cad30ca1dd5e3faf7263ad08dffd5404536f24a486067b9c071732caf23bed1"), looks := true }, kinds := [], alts := [], laidByText := true, laidKinds := [.data, .pinned], laidTests := true, laidLooks := .later }
def TypesBlanksUptoCardSaid : Prop := Claim7.holds Tryd.pinned (.plain (OpenSpec.upto typesBlanksSpec)) typesBlanksUptoCard
end Rows
end Go.Proofs.YthojpcclhcpeaaaDoor
