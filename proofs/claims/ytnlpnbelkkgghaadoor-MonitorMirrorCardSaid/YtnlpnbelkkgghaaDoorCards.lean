/-
  DERIVED. GIVEN WITH THE SEED: THE CARDS: each row of YtnlpnbelkkgghaaDoorRows.lean that lists a variable, with what it lists TIED to the program's text (the seventh form; the later family's looks); each row that meets fmt, with fmt's text TOLD by the authors' own Lean function (tested against real Go, not proved from fmt's source: count such statements apart). THE CARD IS WHAT COUNTS. Prove the row's statement (the work); the ties are given (YtnlpnbelkkgghaaDoorTie.lean); close each card by the builder's one call (the guide's Derived/Test/ToyasCard.lean, 'card_holds'). Laid BY PROGRAM, IN A SANDBOX (cutbox-door.mjs). By AI agents, Wed Nov 11 2026. No macro, syntax, notation, axiom, sorry.
-/
import Derived.Test.YtnlpnbelkkgghaaDoorRows
import GoSem.ClaimSeven
namespace Go.Proofs.YtnlpnbelkkgghaaDoor
namespace Rows

/-- THE TIED CARD OF 'duetkeep.GraphUnfolds'. -/
def graphUnfoldsCard : Claim7 := { stood := { row := graphUnfoldsRow, standIns := [], harness := (true, "32ce0c1687e7e25a881a0f0e83d3e43d27aee8b7d3da2dbb0f17f26590da5604"), looks := false }, kinds := [], alts := [], laidByText := true, laidKinds := [.data, .pinned], laidTests := true, laidLooks := .later }
def GraphUnfoldsCardSaid : Prop := Claim7.holds Tryd.pinned (.plain (OpenSpec.ofChange graphUnfoldsSpec)) graphUnfoldsCard

/-- THE TIED CARD OF 'duetkeep.GraphLeast'. -/
def graphLeastCard : Claim7 := { stood := { row := graphLeastRow, standIns := [], harness := (true, "32ce0c1687e7e25a881a0f0e83d3e43d27aee8b7d3da2dbb0f17f26590da5604"), looks := false }, kinds := [], alts := [], laidByText := true, laidKinds := [.data, .data, .data, .data, .pinned], laidTests := true, laidLooks := .later }
def GraphLeastCardSaid : Prop := Claim7.holds Tryd.pinned (.plain (OpenSpec.ofChange graphLeastSpec)) graphLeastCard

/-- THE TIED CARD OF 'duetkeep.BelowBound'. -/
def belowBoundCard : Claim7 := { stood := { row := belowBoundRow, standIns := [], harness := (true, "32ce0c1687e7e25a881a0f0e83d3e43d27aee8b7d3da2dbb0f17f26590da5604"), looks := false }, kinds := [], alts := [], laidByText := true, laidKinds := [.data, .pinned], laidTests := true, laidLooks := .later }
def BelowBoundCardSaid : Prop := Claim7.holds Tryd.pinned (.plain (OpenSpec.ofChange belowBoundSpec)) belowBoundCard

/-- THE TIED CARD OF 'duetkeep.ComplyDual'. -/
def complyDualCard : Claim7 := { stood := { row := complyDualRow, standIns := [], harness := (true, "32ce0c1687e7e25a881a0f0e83d3e43d27aee8b7d3da2dbb0f17f26590da5604"), looks := false }, kinds := [], alts := [], laidByText := true, laidKinds := [.data, .pinned], laidTests := true, laidLooks := .later }
def ComplyDualCardSaid : Prop := Claim7.holds Tryd.pinned (.plain (OpenSpec.ofChange complyDualSpec)) complyDualCard

/-- THE TIED CARD OF 'duetkeep.MonitorMirror'. -/
def monitorMirrorCard : Claim7 := { stood := { row := monitorMirrorRow, standIns := [], harness := (true, "32ce0c1687e7e25a881a0f0e83d3e43d27aee8b7d3da2dbb0f17f26590da5604"), looks := false }, kinds := [], alts := [], laidByText := true, laidKinds := [.data, .pinned], laidTests := true, laidLooks := .later }
def MonitorMirrorCardSaid : Prop := Claim7.holds Tryd.pinned (.plain (OpenSpec.ofChange monitorMirrorSpec)) monitorMirrorCard

/-- THE SECOND FORM's CARD OF 'duetkeep.GraphUnfolds'. -/
def graphUnfoldsUptoCard : Claim7 := { stood := { row := graphUnfoldsUptoRow, standIns := [], harness := (true, "32ce0c1687e7e25a881a0f0e83d3e43d27aee8b7d3da2dbb0f17f26590da5604"), looks := false }, kinds := [], alts := [], laidByText := true, laidKinds := [.data, .pinned], laidTests := true, laidLooks := .later }
def GraphUnfoldsUptoCardSaid : Prop := Claim7.holds Tryd.pinned (.plain (OpenSpec.upto graphUnfoldsSpec)) graphUnfoldsUptoCard

/-- THE SECOND FORM's CARD OF 'duetkeep.GraphLeast'. -/
def graphLeastUptoCard : Claim7 := { stood := { row := graphLeastUptoRow, standIns := [], harness := (true, "32ce0c1687e7e25a881a0f0e83d3e43d27aee8b7d3da2dbb0f17f26590da5604"), looks := false }, kinds := [], alts := [], laidByText := true, laidKinds := [.data, .data, .data, .data, .pinned], laidTests := true, laidLooks := .later }
def GraphLeastUptoCardSaid : Prop := Claim7.holds Tryd.pinned (.plain (OpenSpec.upto graphLeastSpec)) graphLeastUptoCard

/-- THE SECOND FORM's CARD OF 'duetkeep.BelowBound'. -/
def belowBoundUptoCard : Claim7 := { stood := { row := belowBoundUptoRow, standIns := [], harness := (true, "32ce0c1687e7e25a881a0f0e83d3e43d27aee8b7d3da2dbb0f17f26590da5604"), looks := false }, kinds := [], alts := [], laidByText := true, laidKinds := [.data, .pinned], laidTests := true, laidLooks := .later }
def BelowBoundUptoCardSaid : Prop := Claim7.holds Tryd.pinned (.plain (OpenSpec.upto belowBoundSpec)) belowBoundUptoCard

/-- THE SECOND FORM's CARD OF 'duetkeep.ComplyDual'. -/
def complyDualUptoCard : Claim7 := { stood := { row := complyDualUptoRow, standIns := [], harness := (true, "32ce0c1687e7e25a881a0f0e83d3e43d27aee8b7d3da2dbb0f17f26590da5604"), looks := false }, kinds := [], alts := [], laidByText := true, laidKinds := [.data, .pinned], laidTests := true, laidLooks := .later }
def ComplyDualUptoCardSaid : Prop := Claim7.holds Tryd.pinned (.plain (OpenSpec.upto complyDualSpec)) complyDualUptoCard

/-- THE SECOND FORM's CARD OF 'duetkeep.MonitorMirror'. -/
def monitorMirrorUptoCard : Claim7 := { stood := { row := monitorMirrorUptoRow, standIns := [], harness := (true, "32ce0c1687e7e25a881a0f0e83d3e43d27aee8b7d3da2dbb0f17f26590da5604"), looks := false }, kinds := [], alts := [], laidByText := true, laidKinds := [.data, .pinned], laidTests := true, laidLooks := .later }
def MonitorMirrorUptoCardSaid : Prop := Claim7.holds Tryd.pinned (.plain (OpenSpec.upto monitorMirrorSpec)) monitorMirrorUptoCard
end Rows
end Go.Proofs.YtnlpnbelkkgghaaDoor
