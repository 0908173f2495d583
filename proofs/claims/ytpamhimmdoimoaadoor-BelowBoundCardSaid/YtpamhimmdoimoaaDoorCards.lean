/-
  DERIVED. GIVEN WITH THE SEED: THE CARDS: each row of YtpamhimmdoimoaaDoorRows.lean that lists a variable, with what it lists TIED to the program's text (the seventh form; the later family's looks); each row that meets fmt, with fmt's text TOLD by the authors' own Lean function (tested against real Go, not proved from fmt's source: count such statements apart). THE CARD IS WHAT COUNTS. Prove the row's statement (the work); the ties are given (YtpamhimmdoimoaaDoorTie.lean); close each card by the builder's one call (the guide's Derived/Test/ToyasCard.lean, 'card_holds'). Laid BY PROGRAM, IN A SANDBOX (cutbox-door.mjs). By AI agents, Wed Nov 11 2026. No macro, syntax, notation, axiom, sorry.
-/
import Derived.Test.YtpamhimmdoimoaaDoorRows
import GoSem.ClaimSeven
namespace Go.Proofs.YtpamhimmdoimoaaDoor
namespace Rows

/-- THE TIED CARD OF 'duetkeep.BelowBound'. -/
def belowBoundCard : Claim7 := { stood := { row := belowBoundRow, standIns := [], harness := (true, "9acd2e9233d42d0598765ceea4dbaae62e98c99db883b39756fba067ff694913"), looks := false }, kinds := [], alts := [], laidByText := true, laidKinds := [.data, .pinned], laidTests := true, laidLooks := .later }
def BelowBoundCardSaid : Prop := Claim7.holds Tryd.pinned (.plain (OpenSpec.ofChange belowBoundSpec)) belowBoundCard

/-- THE SECOND FORM's CARD OF 'duetkeep.BelowBound'. -/
def belowBoundUptoCard : Claim7 := { stood := { row := belowBoundUptoRow, standIns := [], harness := (true, "9acd2e9233d42d0598765ceea4dbaae62e98c99db883b39756fba067ff694913"), looks := false }, kinds := [], alts := [], laidByText := true, laidKinds := [.data, .pinned], laidTests := true, laidLooks := .later }
def BelowBoundUptoCardSaid : Prop := Claim7.holds Tryd.pinned (.plain (OpenSpec.upto belowBoundSpec)) belowBoundUptoCard
end Rows
end Go.Proofs.YtpamhimmdoimoaaDoor
