/-
  DERIVED. GIVEN WITH THE SEED: THE CARDS: each row of YtnedgkcejlhnbaaDoorRows.lean that lists a variable, with what it lists TIED to the program's text (the seventh form; the later family's looks); each row that meets fmt, with fmt's text TOLD by the authors' own Lean function (tested against real Go, not proved from fmt's source: count such statements apart). THE CARD IS WHAT COUNTS. Prove the row's statement (the work); the ties are given (YtnedgkcejlhnbaaDoorTie.lean); close each card by the builder's one call (the guide's Derived/Test/ToyasCard.lean, 'card_holds'). Laid BY PROGRAM, IN A SANDBOX (cutbox-door.mjs). By AI agents, Wed Nov 11 2026. No macro, syntax, notation, axiom, sorry.
-/
import Derived.Test.YtnedgkcejlhnbaaDoorRows
import GoSem.ClaimSeven
namespace Go.Proofs.YtnedgkcejlhnbaaDoor
namespace Rows

/-- THE TIED CARD OF 'duetkeep.GraphLeast'. -/
def graphLeastCard : Claim7 := { stood := { row := graphLeastRow, standIns := [], harness := (true, "ce81f9b9e82774d80d129750d6e837805b39b5400a847ea446093b67ff1c2a0b"), looks := false }, kinds := [], alts := [], laidByText := true, laidKinds := [.data, .data, .data, .data, .pinned], laidTests := true, laidLooks := .later }
def GraphLeastCardSaid : Prop := Claim7.holds Tryd.pinned (.plain (OpenSpec.ofChange graphLeastSpec)) graphLeastCard

/-- THE TIED CARD OF 'duetkeep.MonitorBlame'. -/
def monitorBlameCard : Claim7 := { stood := { row := monitorBlameRow, standIns := [], harness := (true, "ce81f9b9e82774d80d129750d6e837805b39b5400a847ea446093b67ff1c2a0b"), looks := false }, kinds := [], alts := [], laidByText := true, laidKinds := [.data, .pinned], laidTests := true, laidLooks := .later }
def MonitorBlameCardSaid : Prop := Claim7.holds Tryd.pinned (.plain (OpenSpec.ofChange monitorBlameSpec)) monitorBlameCard

/-- THE SECOND FORM's CARD OF 'duetkeep.GraphLeast'. -/
def graphLeastUptoCard : Claim7 := { stood := { row := graphLeastUptoRow, standIns := [], harness := (true, "ce81f9b9e82774d80d129750d6e837805b39b5400a847ea446093b67ff1c2a0b"), looks := false }, kinds := [], alts := [], laidByText := true, laidKinds := [.data, .data, .data, .data, .pinned], laidTests := true, laidLooks := .later }
def GraphLeastUptoCardSaid : Prop := Claim7.holds Tryd.pinned (.plain (OpenSpec.upto graphLeastSpec)) graphLeastUptoCard

/-- THE SECOND FORM's CARD OF 'duetkeep.MonitorBlame'. -/
def monitorBlameUptoCard : Claim7 := { stood := { row := monitorBlameUptoRow, standIns := [], harness := (true, "ce81f9b9e82774d80d129750d6e837805b39b5400a847ea446093b67ff1c2a0b"), looks := false }, kinds := [], alts := [], laidByText := true, laidKinds := [.data, .pinned], laidTests := true, laidLooks := .later }
def MonitorBlameUptoCardSaid : Prop := Claim7.holds Tryd.pinned (.plain (OpenSpec.upto monitorBlameSpec)) monitorBlameUptoCard
end Rows
end Go.Proofs.YtnedgkcejlhnbaaDoor
