/-
  Plain mathematics: the levels and sorts of operators, names, and what is reckoned with numbers of 64 bits.
-/
import Derived.WalkKit
import Derived.Test.YtefdekfgmbgbbaaDoorProg
import Derived.WalkSpells
import Derived.WalkLawsBesides
import Derived.Deep.QuietTactic
import Derived.BigQuiet
import Derived.Handy
namespace Go.Proofs.YtefdekfgmbgbbaaDoor
open Go.RowKit

/-- the level of an operator of two -/
def lvl (l : List UInt8) : Int :=
  if l = [111, 114] then 1 else if l = [97, 110, 100] then 2 else if l = [61, 61] ∨ l = [60] ∨ l = [60, 61] then 3
  else if l = [43] ∨ l = [45] ∨ l = [43, 43] then 4 else if l = [42] ∨ l = [47] ∨ l = [37] then 5 else 0
def isOp (l : List UInt8) (k : Nat) : Bool :=
  if k = 1 then decide (l = [110, 111, 116] ∨ l = [110, 101, 103] ∨ l = [35]) else if k = 2 then decide (0 < lvl l) else false
def isLow (c : UInt8) : Bool := decide (97 ≤ c.toNat ∧ c.toNat ≤ 122)
def isNm (l : List UInt8) : Bool :=
  if l = [116, 114, 117, 101] ∨ l = [102, 97, 108, 115, 101] ∨ l = [97, 110, 100] ∨ l = [111, 114] ∨ l = [110, 111, 116] then false
  else decide (1 ≤ l.length ∧ l.length ≤ 8) && l.all isLow
/-- the sort of what an operator is of, and its own -/
def opS (l : List UInt8) : Int × Int :=
  if l = [111, 114] ∨ l = [97, 110, 100] ∨ l = [110, 111, 116] then (2, 2)
  else if l = [61, 61] ∨ l = [60] ∨ l = [60, 61] then (0, 2)
  else if l = [43, 43] then (3, 3)
  else if l = [35] then (3, 1)
  else (1, 1)
def isCmp (l : List UInt8) : Bool := decide (lvl l = 3)
def w64 (z : Int) : Int := wrap64 z
def quoZ (a b : Int) : Int := if b = 0 then 0 else w64 (a.tdiv b)
def numZ (l : List UInt8) (a b : Int) : Int :=
  if l = [43] then w64 (a + b) else if l = [45] then w64 (a - b) else if l = [42] then w64 (a * b) else if l = [47] then quoZ a b else w64 (a - w64 (quoZ a b * b))
end Go.Proofs.YtefdekfgmbgbbaaDoor
/-
  The contracts of exprs.level, isOperator, isComparison, operatorSorts, truth, number, quotient and reckonNumbers, each for every input.
-/
namespace Go.Proofs.YtefdekfgmbgbbaaDoor
open Go.RowKit

theorem beqL (s : ByteArray) (l : List UInt8) : (s.toList == l) = decide (s.data.toList = l) := by
  rw [ByteArray.toList_eq, Bool.eq_iff_iff]; simp

end Go.Proofs.YtefdekfgmbgbbaaDoor
