/-
  DERIVED. GIVEN WITH THE SEED: THE CARDS: each row of YtbhgcfoplpjfjaaDoorRows.lean that lists a variable, with what it lists TIED to the program's text (the seventh form; the later family's looks); each row that meets fmt, with fmt's text TOLD by the authors' own Lean function (tested against real Go, not proved from fmt's source: count such statements apart). THE CARD IS WHAT COUNTS. Prove the row's statement (the work); the ties are given (YtbhgcfoplpjfjaaDoorTie.lean); close each card by the builder's one call (the guide's Derived/Test/ToyasCard.lean, 'card_holds'). Laid BY PROGRAM, IN A SANDBOX (cutbox-door.mjs). By AI agents, Wed Nov 11 2026. No macro, syntax, notation, axiom, sorry.
-/
import Derived.Test.YtbhgcfoplpjfjaaDoorRows
import GoSem.ClaimSeven
namespace Go.Proofs.YtbhgcfoplpjfjaaDoor
namespace Rows

/-- THE TIED CARD OF 'duetlaw.ValuesSays'. -/
def valuesSaysCard : Claim7 := { stood := { row := valuesSaysRow, standIns := [], harness := (true, "5ea5a23b73bcebcabf05683f0c5a8fc96cb52995d5d7b63589826f17d525d57f"), looks := true }, kinds := [], alts := [], laidByText := true, laidKinds := [.data, .data, .data, .data, .sentinel, .sentinel, .pinned], laidTests := true, laidLooks := .later }
def ValuesSaysCardSaid : Prop := Claim7.holds Tryd.pinned (.plain (OpenSpec.ofChange valuesSaysSpec)) valuesSaysCard

/-- THE TIED CARD OF 'duetkeep.ValuesBack'. -/
def valuesBackCard : Claim7 := { stood := { row := valuesBackRow, standIns := [], harness := (true, "5ea5a23b73bcebcabf05683f0c5a8fc96cb52995d5d7b63589826f17d525d57f"), looks := true }, kinds := [], alts := [], laidByText := true, laidKinds := [.data, .data, .data, .data, .sentinel, .sentinel, .pinned], laidTests := true, laidLooks := .later }
def ValuesBackCardSaid : Prop := Claim7.holds Tryd.pinned (.plain (OpenSpec.ofChange valuesBackSpec)) valuesBackCard

/-- THE TIED CARD OF 'duetkeep.ValuesOrder'. -/
def valuesOrderCard : Claim7 := { stood := { row := valuesOrderRow, standIns := [], harness := (true, "5ea5a23b73bcebcabf05683f0c5a8fc96cb52995d5d7b63589826f17d525d57f"), looks := true }, kinds := [], alts := [], laidByText := true, laidKinds := [.data, .pinned], laidTests := true, laidLooks := .later }
def ValuesOrderCardSaid : Prop := Claim7.holds Tryd.pinned (.plain (OpenSpec.ofChange valuesOrderSpec)) valuesOrderCard

/-- THE TIED CARD OF 'duetkeep.ValuesJoin'. -/
def valuesJoinCard : Claim7 := { stood := { row := valuesJoinRow, standIns := [], harness := (true, "5ea5a23b73bcebcabf05683f0c5a8fc96cb52995d5d7b63589826f17d525d57f"), looks := true }, kinds := [], alts := [], laidByText := true, laidKinds := [.data, .pinned], laidTests := true, laidLooks := .later }
def ValuesJoinCardSaid : Prop := Claim7.holds Tryd.pinned (.plain (OpenSpec.ofChange valuesJoinSpec)) valuesJoinCard

/-- THE SECOND FORM's CARD OF 'duetlaw.ValuesSays'. -/
def valuesSaysUptoCard : Claim7 := { stood := { row := valuesSaysUptoRow, standIns := [], harness := (true, "5ea5a23b73bcebcabf05683f0c5a8fc96cb52995d5d7b63589826f17d525d57f"), looks := true }, kinds := [], alts := [], laidByText := true, laidKinds := [.data, .data, .data, .data, .sentinel, .sentinel, .pinned], laidTests := true, laidLooks := .later }
def ValuesSaysUptoCardSaid : Prop := Claim7.holds Tryd.pinned (.plain (OpenSpec.upto valuesSaysSpec)) valuesSaysUptoCard

/-- THE SECOND FORM's CARD OF 'duetkeep.ValuesBack'. -/
def valuesBackUptoCard : Claim7 := { stood := { row := valuesBackUptoRow, standIns := [], harness := (true, "5ea5a23b73bcebcabf05683f0c5a8fc96cb52995d5d7b63589826f17d525d57f"), looks := true }, kinds := [], alts := [], laidByText := true, laidKinds := [.data, .data, .data, .data, .sentinel, .sentinel, .pinned], laidTests := true, laidLooks := .later }
def ValuesBackUptoCardSaid : Prop := Claim7.holds Tryd.pinned (.plain (OpenSpec.upto valuesBackSpec)) valuesBackUptoCard

/-- THE SECOND FORM's CARD OF 'duetkeep.ValuesOrder'. -/
def valuesOrderUptoCard : Claim7 := { stood := { row := valuesOrderUptoRow, standIns := [], harness := (true, "5ea5a23b73bcebcabf05683f0c5a8fc96cb52995d5d7b63589826f17d525d57f"), looks := true }, kinds := [], alts := [], laidByText := true, laidKinds := [.data, .pinned], laidTests := true, laidLooks := .later }
def ValuesOrderUptoCardSaid : Prop := Claim7.holds Tryd.pinned (.plain (OpenSpec.upto valuesOrderSpec)) valuesOrderUptoCard

/-- THE SECOND FORM's CARD OF 'duetkeep.ValuesJoin'. -/
def valuesJoinUptoCard : Claim7 := { stood := { row := valuesJoinUptoRow, standIns := [], harness := (true, "5ea5a23b73bcebcabf05683f0c5a8fc96cb52995d5d7b63589826f17d525d57f"), looks := true }, kinds := [], alts := [], laidByText := true, laidKinds := [.data, .pinned], laidTests := true, laidLooks := .later }
def ValuesJoinUptoCardSaid : Prop := Claim7.holds Tryd.pinned (.plain (OpenSpec.upto valuesJoinSpec)) valuesJoinUptoCard
end Rows
end Go.Proofs.YtbhgcfoplpjfjaaDoor
