/-
  DERIVED. GIVEN WITH THE SEED: THE CARDS: each row of YtpamhimmdoimoaaGreatDoorRows.lean that lists a variable, with what it lists TIED to the program's text (the seventh form; the later family's looks); each row that meets fmt, with fmt's text TOLD by the authors' own Lean function (tested against real Go, not proved from fmt's source: count such statements apart). THE CARD IS WHAT COUNTS. Prove the row's statement (the work); the ties are given (YtpamhimmdoimoaaGreatDoorTie.lean); close each card by the builder's one call (the guide's Derived/Test/ToyasCard.lean, 'card_holds'). Laid BY PROGRAM, IN A SANDBOX (cutbox-door.mjs). By AI agents, Wed Nov 11 2026. No macro, syntax, notation, axiom, sorry.
-/
import Derived.Test.YtpamhimmdoimoaaGreatDoorRows
import GoSem.ClaimSeven
namespace Go.Proofs.YtpamhimmdoimoaaGreatDoor
namespace Rows

/-- THE TIED CARD OF 'duetkeep.BelowDuals'. -/
def belowDualsCard : Claim7 := { stood := { row := belowDualsRow, standIns := [], harness := (true, "e77071e60c2238f2b7cc02ec3071ecd27ad2ecb05ce7e42c0e4ccd6e878b9e0c"), looks := false }, kinds := [], alts := [], laidByText := true, laidKinds := [.data, .pinned], laidTests := true, laidLooks := .later }
def BelowDualsCardSaid : Prop := Claim7.holds Tryz.pinned (.plain (OpenSpec.ofChange belowDualsSpec)) belowDualsCard

/-- THE TIED CARD OF 'duetkeep.BelowLattice'. -/
def belowLatticeCard : Claim7 := { stood := { row := belowLatticeRow, standIns := [], harness := (true, "e77071e60c2238f2b7cc02ec3071ecd27ad2ecb05ce7e42c0e4ccd6e878b9e0c"), looks := false }, kinds := [], alts := [], laidByText := true, laidKinds := [.data, .pinned], laidTests := true, laidLooks := .later }
def BelowLatticeCardSaid : Prop := Claim7.holds Tryz.pinned (.plain (OpenSpec.ofChange belowLatticeSpec)) belowLatticeCard

/-- THE TIED CARD OF 'duetkeep.ComplyMeet'. -/
def complyMeetCard : Claim7 := { stood := { row := complyMeetRow, standIns := [], harness := (true, "e77071e60c2238f2b7cc02ec3071ecd27ad2ecb05ce7e42c0e4ccd6e878b9e0c"), looks := false }, kinds := [], alts := [], laidByText := true, laidKinds := [.data, .pinned], laidTests := true, laidLooks := .later }
def ComplyMeetCardSaid : Prop := Claim7.holds Tryz.pinned (.plain (OpenSpec.ofChange complyMeetSpec)) complyMeetCard

/-- THE SECOND FORM's CARD OF 'duetkeep.BelowDuals'. -/
def belowDualsUptoCard : Claim7 := { stood := { row := belowDualsUptoRow, standIns := [], harness := (true, "e77071e60c2238f2b7cc02ec3071ecd27ad2ecb05ce7e42c0e4ccd6e878b9e0c"), looks := false }, kinds := [], alts := [], laidByText := true, laidKinds := [.data, .pinned], laidTests := true, laidLooks := .later }
def BelowDualsUptoCardSaid : Prop := Claim7.holds Tryz.pinned (.plain (OpenSpec.upto belowDualsSpec)) belowDualsUptoCard

/-- THE SECOND FORM's CARD OF 'duetkeep.BelowLattice'. -/
def belowLatticeUptoCard : Claim7 := { stood := { row := belowLatticeUptoRow, standIns := [], harness := (true, "e77071e60c2238f2b7cc02ec3071ecd27ad2ecb05ce7e42c0e4ccd6e878b9e0c"), looks := false }, kinds := [], alts := [], laidByText := true, laidKinds := [.data, .pinned], laidTests := true, laidLooks := .later }
def BelowLatticeUptoCardSaid : Prop := Claim7.holds Tryz.pinned (.plain (OpenSpec.upto belowLatticeSpec)) belowLatticeUptoCard

/-- THE SECOND FORM's CARD OF 'duetkeep.ComplyMeet'. -/
def complyMeetUptoCard : Claim7 := { stood := { row := complyMeetUptoRow, standIns := [], harness := (true, "e77071e60c2238f2b7cc02ec3071ecd27ad2ecb05ce7e42c0e4ccd6e878b9e0c"), looks := false }, kinds := [], alts := [], laidByText := true, laidKinds := [.data, .pinned], laidTests := true, laidLooks := .later }
def ComplyMeetUptoCardSaid : Prop := Claim7.holds Tryz.pinned (.plain (OpenSpec.upto complyMeetSpec)) complyMeetUptoCard
end Rows
end Go.Proofs.YtpamhimmdoimoaaGreatDoor
