/-
  DERIVED. GIVEN WITH THE SEED: THE CARDS: each row of YthhbbhijpkoelaaDoorRows.lean that lists a variable, with what it lists TIED to the program's text (the seventh form; the later family's looks); each row that meets fmt, with fmt's text TOLD by the authors' own Lean function (tested against real Go, not proved from fmt's source: count such statements apart). THE CARD IS WHAT COUNTS. Prove the row's statement (the work); the ties are given (YthhbbhijpkoelaaDoorTie.lean); close each card by the builder's one call (the guide's Derived/Test/ToyasCard.lean, 'card_holds'). Laid BY PROGRAM, IN A SANDBOX (cutbox-door.mjs). By AI agents, Wed Nov 11 2026. No macro, syntax, notation, axiom, sorry.
-/
import Derived.Test.YthhbbhijpkoelaaDoorRows
import GoSem.ClaimSeven
namespace Go.Proofs.YthhbbhijpkoelaaDoor
namespace Rows

/-- THE TIED CARD OF 'duetkeep.MonitorBlame'. -/
def monitorBlameCard : Claim7 := { stood := { row := monitorBlameRow, standIns := [], harness := (true, "1fb76650a94417b0ddb5c446259bac84c262562df6006de50410263fb10e41c2"), looks := false }, kinds := [], alts := [], laidByText := true, laidKinds := [.data, .pinned], laidTests := true, laidLooks := .later }
def MonitorBlameCardSaid : Prop := Claim7.holds Tryd.pinned (.plain (OpenSpec.ofChange monitorBlameSpec)) monitorBlameCard

/-- THE SECOND FORM's CARD OF 'duetkeep.MonitorBlame'. -/
def monitorBlameUptoCard : Claim7 := { stood := { row := monitorBlameUptoRow, standIns := [], harness := (true, "1fb76650a94417b0ddb5c446259bac84c262562df6006de50410263fb10e41c2"), looks := false }, kinds := [], alts := [], laidByText := true, laidKinds := [.data, .pinned], laidTests := true, laidLooks := .later }
def MonitorBlameUptoCardSaid : Prop := Claim7.holds Tryd.pinned (.plain (OpenSpec.upto monitorBlameSpec)) monitorBlameUptoCard
end Rows
end Go.Proofs.YthhbbhijpkoelaaDoor
