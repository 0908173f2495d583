/-
  DERIVED. GIVEN WITH THE SEED: THE CARDS: each row of YtfmegfgmkeicnaaDoorRows.lean that lists a variable, with what it lists TIED to the program's text (the seventh form; the later family's looks); each row that meets fmt, with fmt's text TOLD by the authors' own Lean function (tested against real Go, not proved from fmt's source: count such statements apart). THE CARD IS WHAT COUNTS. Prove the row's statement (the work); the ties are given (YtfmegfgmkeicnaaDoorTie.lean); close each card by the builder's one call (the guide's Derived/Test/ToyasCard.lean, 'card_holds'). Laid BY PROGRAM, IN A SANDBOX (cutbox-door.mjs). By AI agents, Wed Nov 11 2026. No macro, syntax, notation, axiom, sorry.
-/
import Derived.Test.YtfmegfgmkeicnaaDoorRows
import GoSem.ClaimSeven
namespace Go.Proofs.YtfmegfgmkeicnaaDoor
namespace Rows

/-- THE TIED CARD OF 'duetkeep.GlobalBack'. -/
def globalBackCard : Claim7 := { stood := { row := globalBackRow, standIns := [], harness := (true, "1b9d38cff75ba160862ca6cd4d9ea6606bbd84209057c8c23525bff1c0d532b2"), looks := true }, kinds := [], alts := [], laidByText := true, laidKinds := [.data, .pinned], laidTests := true, laidLooks := .later }
def GlobalBackCardSaid : Prop := Claim7.holds Tryd.pinned (.plain (OpenSpec.ofChange globalBackSpec)) globalBackCard

/-- THE TIED CARD OF 'duetkeep.GlobalRoles'. -/
def globalRolesCard : Claim7 := { stood := { row := globalRolesRow, standIns := [], harness := (true, "1b9d38cff75ba160862ca6cd4d9ea6606bbd84209057c8c23525bff1c0d532b2"), looks := true }, kinds := [], alts := [], laidByText := true, laidKinds := [.data, .pinned], laidTests := true, laidLooks := .later }
def GlobalRolesCardSaid : Prop := Claim7.holds Tryd.pinned (.plain (OpenSpec.ofChange globalRolesSpec)) globalRolesCard

/-- THE TIED CARD OF 'duetkeep.TypesBack'. -/
def typesBackCard : Claim7 := { stood := { row := typesBackRow, standIns := [], harness := (true, "1b9d38cff75ba160862ca6cd4d9ea6606bbd84209057c8c23525bff1c0d532b2"), looks := true }, kinds := [], alts := [], laidByText := true, laidKinds := [.data, .pinned], laidTests := true, laidLooks := .later }
def TypesBackCardSaid : Prop := Claim7.holds Tryd.pinned (.plain (OpenSpec.ofChange typesBackSpec)) typesBackCard

/-- THE TIED CARD OF 'duetkeep.TypesBlanks'. -/
def typesBlanksCard : Claim7 := { stood := { row := typesBlanksRow, standIns := [], harness := (true, "1b9d38cff75ba160862ca6cd4d9ea6606bbd84209057c8c23525bff1c0d532b2"), looks := true }, kinds := [], alts := [], laidByText := true, laidKinds := [.data, .pinned], laidTests := true, laidLooks := .later }
def TypesBlanksCardSaid : Prop := Claim7.holds Tryd.pinned (.plain (OpenSpec.ofChange typesBlanksSpec)) typesBlanksCard

/-- THE SECOND FORM's CARD OF 'duetkeep.GlobalBack'. -/
def globalBackUptoCard : Claim7 := { stood := { row := globalBackUptoRow, standIns := [], harness := (true, "1b9d38cff75ba160862ca6cd4d9ea6606bbd84209057c8c23525bff1c0d532b2"), looks := true }, kinds := [], alts := [], laidByText := true, laidKinds := [.data, .pinned], laidTests := true, laidLooks := .later }
def GlobalBackUptoCardSaid : Prop := Claim7.holds Tryd.pinned (.plain (OpenSpec.upto globalBackSpec)) globalBackUptoCard

/-- THE SECOND FORM's CARD OF 'duetkeep.GlobalRoles'. -/
def globalRolesUptoCard : Claim7 := { stood := { row := globalRolesUptoRow, standIns := [], harness := (true, "1b9d38cff75ba160862ca6cd4d9ea6606bbd84209057c8c23525bff1c0d532b2"), looks := true }, kinds := [], alts := [], laidByText := true, laidKinds := [.data, .pinned], laidTests := true, laidLooks := .later }
def GlobalRolesUptoCardSaid : Prop := Claim7.holds Tryd.pinned (.plain (OpenSpec.upto globalRolesSpec)) globalRolesUptoCard

/-- THE SECOND FORM's CARD OF 'duetkeep.TypesBack'. -/
def typesBackUptoCard : Claim7 := { stood := { row := typesBackUptoRow, standIns := [], harness := (true, "1b9d38cff75ba160862ca6cd4d9ea6606bbd84209057c8c23525bff1c0d532b2"), looks := true }, kinds := [], alts := [], laidByText := true, laidKinds := [.data, .pinned], laidTests := true, laidLooks := .later }
def TypesBackUptoCardSaid : Prop := Claim7.holds Tryd.pinned (.plain (OpenSpec.upto typesBackSpec)) typesBackUptoCard

/-- THE SECOND FORM's CARD OF 'duetkeep.TypesBlanks'. -/
def typesBlanksUptoCard : Claim7 := { stood := { row := typesBlanksUptoRow, standIns := [], harness := (true, "1b9d38cff75ba160862ca6cd4d9ea6606bbd84209057c8c23525bff1c0d532b2"), looks := true }, kinds := [], alts := [], laidByText := true, laidKinds := [.data, .pinned], laidTests := true, laidLooks := .later }
def TypesBlanksUptoCardSaid : Prop := Claim7.holds Tryd.pinned (.plain (OpenSpec.upto typesBlanksSpec)) typesBlanksUptoCard
end Rows
end Go.Proofs.YtfmegfgmkeicnaaDoor
