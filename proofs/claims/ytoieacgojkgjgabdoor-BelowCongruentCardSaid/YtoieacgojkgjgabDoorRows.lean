/-
  NARROWER THAN 'FOR EVERY INPUT', by the rows' own cells (each row's printed sentence says how): BelowWhy: loops, laid · BelowCongruent: loops, laid · ComplyDual: loops, laid · ComplyBelow: loops, laid.
  DERIVED. THE GIVEN ROWS OF THIS SEAT. 4 by the template 'for every input the law returns true; each argument reads behind the call as it read before'; 0 by the template 'total and deterministic' (their statements: YtoieacgojkgjgabDoorTotals.lean).
  GIVEN WITH THE SEED: the statements are not yours to turn. If you find one false, say at which input.
  Laid BY PROGRAM, IN A SANDBOX (cutbox-rows.mjs): the forced cells as the released guide's own fill.sh prints them over the translation e1d9a854dba17b8c… (all of the seat's roots in one cut). By AI agents, Wed Nov 11 2026. No macro, syntax, notation, axiom, sorry.
-/
import Derived.Test.YtoieacgojkgjgabDoorChecked
import GoSem.PinnedTables
import GoSem.Claim
import GoSem.ClaimJoined
import GoSem.ClaimMapViews
import Derived.JoinedTies
import Derived.KernelRfl
namespace Go.Proofs.YtoieacgojkgjgabDoor
/- THE CELL 'sum', in the pinned program and in every row, IS THE sha256 OF THE DUMP (.gsa) THAT YtoieacgojkgjgabDoorProg.lean LOADS. Nothing in Lean hashes anything: it is a label: what it is worth is what the hold of that sum in a sandbox is worth. -/
noncomputable def Tryd.pinned : Pinned := { name := "ytoieacgojkgjgabdoor", sum := "e1d9a854dba17b8c05c83391050bb5b99aaee03cbc20a05a1af6f435a60343f1", checked := Tryd.checked }
namespace Rows
def none {H : Type} : Left H := { results := [], args := [] }

/- WHAT THE LISTED PACKAGE-LEVEL VARIABLES READ AS WHEN THE CALL BEGINS. Each datum BY PROGRAM (the guide's laid-datum.mjs) off the statement by which the dump's own 'gosem.cut.vars' lays the variable. In a bare row this is a premise. The card (YtoieacgojkgjgabDoorCards.lean) ties it to the program's text. -/
def laid_unicode_utf8_acceptRanges {H : Type} : DataW H := .agg [.agg [.lit (.int .u8 128), .lit (.int .u8 191)], .agg [.lit (.int .u8 160), .lit (.int .u8 191)], .agg [.lit (.int .u8 128), .lit (.int .u8 159)], .agg [.lit (.int .u8 144), .lit (.int .u8 191)], .agg [.lit (.int .u8 128), .lit (.int .u8 143)], .agg [.lit (.int .u8 0), .lit (.int .u8 0)], .agg [.lit (.int .u8 0), .lit (.int .u8 0)], .agg [.lit (.int .u8 0), .lit (.int .u8 0)], .agg [.lit (.int .u8 0), .lit (.int .u8 0)], .agg [.lit (.int .u8 0), .lit (.int .u8 0)], .agg [.lit (.int .u8 0), .lit (.int .u8 0)], .agg [.lit (.int .u8 0), .lit (.int .u8 0)], .agg [.lit (.int .u8 0), .lit (.int .u8 0)], .agg [.lit (.int .u8 0), .lit (.int .u8 0)], .agg [.lit (.int .u8 0), .lit (.int .u8 0)], .agg [.lit (.int .u8 0), .lit (.int .u8 0)]]
/-- One of Go's own tables, pinned by name: the form's constant. -/
def laid_unicode_utf8_first : DataW Unit := Go.Pinned.utf8First

/-- 'duetkeep.BelowWhy': WHATEVER THE INPUT: true; the input reads as it did. -/
def belowWhySpec : ChangeSpec := { name := "belowWhy", fn := fun _ => fun
  | [d1, d2] => { results := [.lit (.bool true)], args := [d1, d2] }
  | _ => none }
def belowWhyRow : OpenClaim := { program := "ytoieacgojkgjgabdoor", sum := "e1d9a854dba17b8c05c83391050bb5b99aaee03cbc20a05a1af6f435a60343f1", func := "duet/duetkeep.BelowWhy", spec := "belowWhy", inPlace := ["internal/bytealg.IndexByteString", "internal/bytealg.IndexString"], unfollowed := true, recurses := true, named := ["unicode/utf8.first", "unicode/utf8.acceptRanges", "internal/bytealg.MaxLen"], loops := true, plainKeys := false, apart := false, laid := [("unicode/utf8.acceptRanges", laid_unicode_utf8_acceptRanges), ("unicode/utf8.first", laid_unicode_utf8_first)] }
def BelowWhySaid : Prop := belowWhyRow.holds Tryd.pinned (OpenSpec.ofChange belowWhySpec)

/-- ITS FALSE NEIGHBOUR: 'it returns false'. Refute it at one input. -/
def belowWhyWrong : ChangeSpec := { name := "belowWhy", fn := fun _ => fun
  | [d1, d2] => { results := [.lit (.bool false)], args := [d1, d2] }
  | _ => none }
def BelowWhyWrongFalsely : Prop := belowWhyRow.holds Tryd.pinned (OpenSpec.ofChange belowWhyWrong)

/-- 'duetkeep.BelowCongruent': WHATEVER THE INPUT: true; the input reads as it did. -/
def belowCongruentSpec : ChangeSpec := { name := "belowCongruent", fn := fun _ => fun
  | [d1, d2] => { results := [.lit (.bool true)], args := [d1, d2] }
  | _ => none }
def belowCongruentRow : OpenClaim := { program := "ytoieacgojkgjgabdoor", sum := "e1d9a854dba17b8c05c83391050bb5b99aaee03cbc20a05a1af6f435a60343f1", func := "duet/duetkeep.BelowCongruent", spec := "belowCongruent", inPlace := ["internal/bytealg.IndexByteString", "internal/bytealg.IndexString"], unfollowed := true, recurses := true, named := ["unicode/utf8.first", "unicode/utf8.acceptRanges", "internal/bytealg.MaxLen"], loops := true, plainKeys := false, apart := false, laid := [("unicode/utf8.acceptRanges", laid_unicode_utf8_acceptRanges), ("unicode/utf8.first", laid_unicode_utf8_first)] }
def BelowCongruentSaid : Prop := belowCongruentRow.holds Tryd.pinned (OpenSpec.ofChange belowCongruentSpec)

/-- ITS FALSE NEIGHBOUR: 'it returns false'. Refute it at one input. -/
def belowCongruentWrong : ChangeSpec := { name := "belowCongruent", fn := fun _ => fun
  | [d1, d2] => { results := [.lit (.bool false)], args := [d1, d2] }
  | _ => none }
def BelowCongruentWrongFalsely : Prop := belowCongruentRow.holds Tryd.pinned (OpenSpec.ofChange belowCongruentWrong)

/-- 'duetkeep.ComplyDual': WHATEVER THE INPUT: true; the input reads as it did. -/
def complyDualSpec : ChangeSpec := { name := "complyDual", fn := fun _ => fun
  | [d1, d2] => { results := [.lit (.bool true)], args := [d1, d2] }
  | _ => none }
def complyDualRow : OpenClaim := { program := "ytoieacgojkgjgabdoor", sum := "e1d9a854dba17b8c05c83391050bb5b99aaee03cbc20a05a1af6f435a60343f1", func := "duet/duetkeep.ComplyDual", spec := "complyDual", inPlace := ["internal/bytealg.IndexByteString", "internal/bytealg.IndexString"], unfollowed := true, recurses := true, named := ["unicode/utf8.first", "unicode/utf8.acceptRanges", "internal/bytealg.MaxLen"], loops := true, plainKeys := false, apart := false, laid := [("unicode/utf8.acceptRanges", laid_unicode_utf8_acceptRanges), ("unicode/utf8.first", laid_unicode_utf8_first)] }
def ComplyDualSaid : Prop := complyDualRow.holds Tryd.pinned (OpenSpec.ofChange complyDualSpec)

/-- ITS FALSE NEIGHBOUR: 'it returns false'. Refute it at one input. -/
def complyDualWrong : ChangeSpec := { name := "complyDual", fn := fun _ => fun
  | [d1, d2] => { results := [.lit (.bool false)], args := [d1, d2] }
  | _ => none }
def ComplyDualWrongFalsely : Prop := complyDualRow.holds Tryd.pinned (OpenSpec.ofChange complyDualWrong)

/-- 'duetkeep.ComplyBelow': WHATEVER THE INPUT: true; the input reads as it did. -/
def complyBelowSpec : ChangeSpec := { name := "complyBelow", fn := fun _ => fun
  | [d1, d2, d3] => { results := [.lit (.bool true)], args := [d1, d2, d3] }
  | _ => none }
def complyBelowRow : OpenClaim := { program := "ytoieacgojkgjgabdoor", sum := "e1d9a854dba17b8c05c83391050bb5b99aaee03cbc20a05a1af6f435a60343f1", func := "duet/duetkeep.ComplyBelow", spec := "complyBelow", inPlace := ["internal/bytealg.IndexByteString", "internal/bytealg.IndexString"], unfollowed := true, recurses := true, named := ["unicode/utf8.first", "unicode/utf8.acceptRanges", "internal/bytealg.MaxLen"], loops := true, plainKeys := false, apart := false, laid := [("unicode/utf8.acceptRanges", laid_unicode_utf8_acceptRanges), ("unicode/utf8.first", laid_unicode_utf8_first)] }
def ComplyBelowSaid : Prop := complyBelowRow.holds Tryd.pinned (OpenSpec.ofChange complyBelowSpec)

/-- ITS FALSE NEIGHBOUR: 'it returns false'. Refute it at one input. -/
def complyBelowWrong : ChangeSpec := { name := "complyBelow", fn := fun _ => fun
  | [d1, d2, d3] => { results := [.lit (.bool false)], args := [d1, d2, d3] }
  | _ => none }
def ComplyBelowWrongFalsely : Prop := complyBelowRow.holds Tryd.pinned (OpenSpec.ofChange complyBelowWrong)

/- THE SECOND FORM. 'bulk': how many values and letters a reading holds, each counted each time it is reached (what is shared counts as often as it is met; a slice's spare places count too). A statement '..UptoSaid' is the law's where the arguments, and the package variables that the reading takes, are together of bulk at most 1048576: NARROWER than '..Said'. Prove '..Said' where nothing that the law and all that it calls make is longer than what came in: it says more and counts as full. Else prove '..UptoSaid'. A law counts once. -/
mutual
def uptoBulk {H : Type} : DataW H → Nat
  | .lit (.string bytes) => bytes.length + 1
  | .lit _ => 1
  | .nil => 1
  | .ptr d => uptoBulk d + 1
  | .slice elems spare => uptoBulkAll elems + uptoBulkAll spare + 1
  | .agg parts => uptoBulkAll parts + 1
  | .iface _ d => uptoBulk d + 1
  | .map entries => uptoBulkEntries entries + 1
  | .held _ => 1
def uptoBulkAll {H : Type} : List (DataW H) → Nat
  | [] => 0
  | d :: r => uptoBulk d + uptoBulkAll r
def uptoBulkEntries {H : Type} : List (Lit × DataW H) → Nat
  | [] => 0
  | x :: r => uptoBulkEntry x + uptoBulkEntries r
def uptoBulkEntry {H : Type} : Lit × DataW H → Nat
  | (.string bytes, d) => bytes.length + uptoBulk d + 1
  | (_, d) => uptoBulk d + 1
 end
def uptoSmall : (H : Type) → List (DataW H) → Bool := fun _ ds => decide (uptoBulkAll ds ≤ 1048576)
def OpenSpec.upto (s : _root_.Go.ChangeSpec) : _root_.Go.OpenSpec := { _root_.Go.OpenSpec.ofChange s with cond := some uptoSmall }

/-- 'duetkeep.BelowWhy', WHERE WHAT IT READS IS OF BULK AT MOST 1048576: true; the input reads as it did. -/
def belowWhyUptoRow : OpenClaim := { program := "ytoieacgojkgjgabdoor", sum := "e1d9a854dba17b8c05c83391050bb5b99aaee03cbc20a05a1af6f435a60343f1", func := "duet/duetkeep.BelowWhy", spec := "belowWhy", inPlace := ["internal/bytealg.IndexByteString", "internal/bytealg.IndexString"], unfollowed := true, recurses := true, named := ["unicode/utf8.first", "unicode/utf8.acceptRanges", "internal/bytealg.MaxLen"], loops := true, plainKeys := false, apart := false, laid := [("unicode/utf8.acceptRanges", laid_unicode_utf8_acceptRanges), ("unicode/utf8.first", laid_unicode_utf8_first)], narrowed := true }
def BelowWhyUptoSaid : Prop := belowWhyUptoRow.holds Tryd.pinned (OpenSpec.upto belowWhySpec)

/-- 'duetkeep.BelowCongruent', WHERE WHAT IT READS IS OF BULK AT MOST 1048576: true; the input reads as it did. -/
def belowCongruentUptoRow : OpenClaim := { program := "ytoieacgojkgjgabdoor", sum := "e1d9a854dba17b8c05c83391050bb5b99aaee03cbc20a05a1af6f435a60343f1", func := "duet/duetkeep.BelowCongruent", spec := "belowCongruent", inPlace := ["internal/bytealg.IndexByteString", "internal/bytealg.IndexString"], unfollowed := true, recurses := true, named := ["unicode/utf8.first", "unicode/utf8.acceptRanges", "internal/bytealg.MaxLen"], loops := true, plainKeys := false, apart := false, laid := [("unicode/utf8.acceptRanges", laid_unicode_utf8_acceptRanges), ("unicode/utf8.first", laid_unicode_utf8_first)], narrowed := true }
def BelowCongruentUptoSaid : Prop := belowCongruentUptoRow.holds Tryd.pinned (OpenSpec.upto belowCongruentSpec)

/-- 'duetkeep.ComplyDual', WHERE WHAT IT READS IS OF BULK AT MOST 1048576: true; the input reads as it did. -/
def complyDualUptoRow : OpenClaim := { program := "ytoieacgojkgjgabdoor", sum := "e1d9a854dba17b8c05c83391050bb5b99aaee03cbc20a05a1af6f435a60343f1", func := "duet/duetkeep.ComplyDual", spec := "complyDual", inPlace := ["internal/bytealg.IndexByteString", "internal/bytealg.IndexString"], unfollowed := true, recurses := true, named := ["unicode/utf8.first", "unicode/utf8.acceptRanges", "internal/bytealg.MaxLen"], loops := true, plainKeys := false, apart := false, laid := [("unicode/utf8.acceptRanges", laid_unicode_utf8_acceptRanges), ("unicode/utf8.first", laid_unicode_utf8_first)], narrowed := true }
def ComplyDualUptoSaid : Prop := complyDualUptoRow.holds Tryd.pinned (OpenSpec.upto complyDualSpec)

/-- 'duetkeep.ComplyBelow', WHERE WHAT IT READS IS OF BULK AT MOST 1048576: true; the input reads as it did. -/
def complyBelowUptoRow : OpenClaim := { program := "ytoieacgojkgjgabdoor", sum := "e1d9a854dba17b8c05c83391050bb5b99aaee03cbc20a05a1af6f435a60343f1", func := "duet/duetkeep.ComplyBelow", spec := "complyBelow", inPlace := ["internal/bytealg.IndexByteString", "internal/bytealg.IndexString"], unfollowed := true, recurses := true, named := ["unicode/utf8.first", "unicode/utf8.acceptRanges", "internal/bytealg.MaxLen"], loops := true, plainKeys := false, apart := false, laid := [("unicode/utf8.acceptRanges", laid_unicode_utf8_acceptRanges), ("unicode/utf8.first", laid_unicode_utf8_first)], narrowed := true }
def ComplyBelowUptoSaid : Prop := complyBelowUptoRow.holds Tryd.pinned (OpenSpec.upto complyBelowSpec)

end Rows
end Go.Proofs.YtoieacgojkgjgabDoor
