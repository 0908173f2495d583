/-
  Plain: a value and an expression as data.
-/
import Derived.WalkKit
import Derived.Test.YtpamhimmdoimoaaDoorProg
import Derived.Handy
import Derived.Deep.Slices
import Derived.Lib.SmallJoins
import Derived.OpenShut
import Derived.WalkSpells
import Derived.WalkLawsBesides
import Derived.Deep.QuietTactic
import Derived.BigQuiet
import Derived.Lib.Bytealg
import Derived.Test.YtpamhimmdoimoaaDoorRows
import Derived.Ground.NamesProg
import Derived.Shelf.LaysM
import Derived.Shelf.Small.Strs
import Derived.Shelf.Unicode.ValidAny
import Derived.Shelf.Small.Utf8
import Derived.Shelf.Utf8.RuneCount
import Derived.Shelf.Utf8.AppendRune
import Derived.Shelf.Strings.BuilderK
import Derived.Shelf.Strconv.Clone
import Derived.Shelf.Unicode.DecodeAny
import Derived.Lib.ValidLaws
import Derived.Lib.ValidAsc
import Derived.Lib.RuneBytes
import Derived.Lib.RuneCountTail
import Derived.Lib.Small
import Derived.Laws.Cover4
import Derived.Laws.IdiomStrings
import Derived.Lib.OwnBridge
import Derived.BigCall
import Derived.Deep.RegionHeld3
import Derived.Deep.DeepFit
import Derived.Shelf.Small.Wraps
import Derived.Shelf.Strconv.Itoa4
import Derived.Shelf.Strings.SlTrimAscii
namespace Go.Proofs.YtpamhimmdoimoaaDoor

end Go.Proofs.YtpamhimmdoimoaaDoor
/-
  How an expression lies in memory, that it stays so where nothing old is turned, and that every expression that is handed in lies so.
-/
namespace Go.Proofs.YtpamhimmdoimoaaDoor
open Go.RowKit Go.Deep Go.Joins Go.ChangeShapes Go.WideShapes

theorem lt_of_cell {W : World} {b o : Nat} {v : Value} (h : W.cell? ⟨b, o, none⟩ = some v) : b < W.heap.size := by
  unfold World.cell? at h
  apply Classical.byContradiction
  intro hn
  have : W.heap[b]? = none := by simp; omega
  simp [this] at h
section
variable {H : Type} {enc : TypeId × Value → H} {W : World} {base : Nat} {spare : Nat → Bool} {held : Bool}
end
end Go.Proofs.YtpamhimmdoimoaaDoor

/-
  Plain mathematics: the levels and sorts of operators, names, and what is reckoned with numbers of 64 bits.
-/
namespace Go.Proofs.YtpamhimmdoimoaaDoor
open Go.RowKit

def isLow (c : UInt8) : Bool := decide (97 ≤ c.toNat ∧ c.toNat ≤ 122)
def isNm (l : List UInt8) : Bool :=
  if l = [116, 114, 117, 101] ∨ l = [102, 97, 108, 115, 101] ∨ l = [97, 110, 100] ∨ l = [111, 114] ∨ l = [110, 111, 116] then false
  else decide (1 ≤ l.length ∧ l.length ≤ 8) && l.all isLow
def w64 (z : Int) : Int := wrap64 z
end Go.Proofs.YtpamhimmdoimoaaDoor

/-
  The contracts of exprs.level, isOperator, isComparison, operatorSorts, truth, number, quotient and reckonNumbers, each for every input.
-/
namespace Go.Proofs.YtpamhimmdoimoaaDoor
open Go.RowKit

theorem beqL (s : ByteArray) (l : List UInt8) : (s.toList == l) = decide (s.data.toList = l) := by
  rw [ByteArray.toList_eq, Bool.eq_iff_iff]; simp

end Go.Proofs.YtpamhimmdoimoaaDoor

/-
  Plain mathematics, no program: the comparison of integers, of lists of bytes, and of pairs one behind the other are each one of all values (opposite one way round and the other, 0 just for the same, and it goes on from one to the next), for every argument.
-/
namespace Go.Proofs.YtpamhimmdoimoaaDoor
open Go

end Go.Proofs.YtpamhimmdoimoaaDoor

/-
  The contracts of the small functions on the road of values.Order: argUnless, checkText, Check, checkAll (of two values), cmp.Compare, cmp.Or, each for every input; utf8.ValidString's is a hypothesis here.
-/
namespace Go.Proofs.YtpamhimmdoimoaaDoor
open Go.RowKit
variable (V : ByteArray → Bool) (Tabs : World → Prop)
theorem bcell {W w1 : World} (hb : Below W.heap.size W w1) : (∀ b o, b < W.heap.size → w1.cell? ⟨b, o, none⟩ = W.cell? ⟨b, o, none⟩) ∧ (∀ b o, b < W.heap.size → w1.frozen? ⟨b, o, none⟩ = W.frozen? ⟨b, o, none⟩) :=
  ⟨fun b o h => hb.cell (p := ⟨b, o, none⟩) h, fun b o h => hb.frozen (p := ⟨b, o, none⟩) h⟩

end Go.Proofs.YtpamhimmdoimoaaDoor

/-
  The contracts of values.checkAll (of one value) and values.needTexts (of one, of two), for every value; utf8.ValidString's contract is a hypothesis here.
-/
namespace Go.Proofs.YtpamhimmdoimoaaDoor
open Go.RowKit
variable (V : ByteArray → Bool) (Tabs : World → Prop)

end Go.Proofs.YtpamhimmdoimoaaDoor

/-
  The library's own contracts. Conditions: none.
-/
namespace Go.Proofs
open Go.Shelf
def Tryd.laysM316_ren : Go.Shelf.Ren := ⟨fun | 316 => 56 | n => n, fun | 9 => 9 | 3 => 3 | 4 => 4 | 37 => 122 | 0 => 0 | 127 => 123 | 5 => 5 | n => n, fun | n => n⟩
theorem Tryd.laysM316 : Go.Proofs.LaysM.n316 Tryd.prog Tryd.laysM316_ren := {
  mixed := by kernel_rfl
  f316 := Tryd.func56.trans (congrArg some (by kernel_rfl))
  t0 := Tryd.underlying0
  a0 := Tryd.isAgg0
  z0 := Tryd.sizeOf0
  v0 := Tryd.zeroValue0
  t3 := Tryd.underlying3
  a3 := Tryd.isAgg3
  z3 := Tryd.sizeOf3
  v3 := Tryd.zeroValue3
  t4 := Tryd.underlying4
  a4 := Tryd.isAgg4
  z4 := Tryd.sizeOf4
  v4 := Tryd.zeroValue4
  t9 := Tryd.underlying9
  a9 := Tryd.isAgg9
  z9 := Tryd.sizeOf9
  v9 := Tryd.zeroValue9
  t37 := Tryd.underlying122
  a37 := Tryd.isAgg122
  z37 := Tryd.sizeOf122
  v37 := Tryd.zeroValue122
  t127 := Tryd.underlying123
  a127 := Tryd.isAgg123
  z127 := Tryd.sizeOf123
  v127 := Tryd.zeroValue123
  t5 := Tryd.underlying5
  a5 := Tryd.isAgg5
  z5 := Tryd.sizeOf5
  v5 := Tryd.zeroValue5
  i0 := by kernel_rfl
  i3 := by kernel_rfl
  i4 := by kernel_rfl
  i5 := by kernel_rfl
  i9 := by kernel_rfl
  i37 := by kernel_rfl
  i127 := by kernel_rfl }
def Tryd.lays197_ren : Go.Shelf.Ren := ⟨fun | 197 => 92 | 260 => 94 | n => n, fun | 9 => 9 | 21 => 21 | 3 => 3 | 4 => 4 | 5 => 5 | 105 => 155 | 119 => 159 | 0 => 0 | 46 => 121 | 139 => 162 | 138 => 161 | n => n, fun | 3 => 0 | 4 => 1 | n => n⟩
theorem Tryd.lays197 : Go.Proofs.Lays.n197 Tryd.prog Tryd.lays197_ren := {
  mixed := by kernel_rfl
  f197 := Tryd.func92.trans (congrArg some (by kernel_rfl))
  f260 := Tryd.func94.trans (congrArg some (by kernel_rfl))
  t0 := Tryd.underlying0
  a0 := Tryd.isAgg0
  z0 := Tryd.sizeOf0
  v0 := Tryd.zeroValue0
  t3 := Tryd.underlying3
  a3 := Tryd.isAgg3
  z3 := Tryd.sizeOf3
  v3 := Tryd.zeroValue3
  t4 := Tryd.underlying4
  a4 := Tryd.isAgg4
  z4 := Tryd.sizeOf4
  v4 := Tryd.zeroValue4
  t5 := Tryd.underlying5
  a5 := Tryd.isAgg5
  z5 := Tryd.sizeOf5
  v5 := Tryd.zeroValue5
  t9 := Tryd.underlying9
  a9 := Tryd.isAgg9
  z9 := Tryd.sizeOf9
  v9 := Tryd.zeroValue9
  t21 := Tryd.underlying21
  a21 := Tryd.isAgg21
  z21 := Tryd.sizeOf21
  v21 := Tryd.zeroValue21
  t46 := Tryd.underlying121
  a46 := Tryd.isAgg121
  z46 := Tryd.sizeOf121
  v46 := Tryd.zeroValue121
  t105 := Tryd.underlying155
  a105 := Tryd.isAgg155
  z105 := Tryd.sizeOf155
  v105 := Tryd.zeroValue155
  t119 := Tryd.underlying159
  a119 := Tryd.isAgg159
  z119 := Tryd.sizeOf159
  t138 := Tryd.underlying161
  a138 := Tryd.isAgg161
  z138 := Tryd.sizeOf161
  v138 := Tryd.zeroValue161
  t139 := Tryd.underlying162
  a139 := Tryd.isAgg162
  z139 := Tryd.sizeOf162
  v139 := Tryd.zeroValue162
  g3 := by kernel_rfl
  g4 := by kernel_rfl }
end Go.Proofs

/-
  The contracts of strings.Builder's copyCheck and WriteRune at this program, for every builder and every letter.
-/
namespace Go.Proofs.YtpamhimmdoimoaaDoor
open Go.RowKit Go.Shelf

end Go.Proofs.YtpamhimmdoimoaaDoor

/-
  Plain mathematics: letters as bytes and back: what is UTF-8 is the bytes of a list of letters, each is read as it was written, a list of letters turned round has as many bytes, and which first letters fit into 100 bytes; for every list of letters.
-/
namespace Go.Proofs.YtpamhimmdoimoaaDoor
open Go Go.Lib

/-- letters as bytes -/
def enc (rs : List Nat) : List UInt8 := rs.flatMap fun r : Nat => encodeRune (r : Int)
def rl (r : Nat) : Nat := (encodeRune (r : Int)).length

/-- the letters that fit, n bytes being there -/
def fit : Nat → List Nat → List Nat
  | _, [] => []
  | n, r :: rs => if 100 < n + rl r then [] else r :: fit (n + rl r) rs
end Go.Proofs.YtpamhimmdoimoaaDoor

/-
  The contract of values.Length, for every value; utf8.ValidString's contract is a hypothesis here.
-/
namespace Go.Proofs.YtpamhimmdoimoaaDoor
open Go.RowKit Go.Shelf
variable (V : ByteArray → Bool) (Tabs : World → Prop)

end Go.Proofs.YtpamhimmdoimoaaDoor

/-
  The contract of values.Joined, for every two values; utf8.ValidString's contract is a hypothesis here.
-/
namespace Go.Proofs.YtpamhimmdoimoaaDoor
open Go.RowKit Go.Shelf
variable (V : ByteArray → Bool) (Tabs : World → Prop)

end Go.Proofs.YtpamhimmdoimoaaDoor

/-
  A value in a block of its own, carried from world to world; what the calls of values.Length and values.Joined say.
-/
namespace Go.Proofs.YtpamhimmdoimoaaDoor
open Go.RowKit Go.Shelf
variable (Tabs : World → Prop)

end Go.Proofs.YtpamhimmdoimoaaDoor

/-
  values.Length and values.Joined of texts, as letters; utf8.ValidString's contract is a hypothesis here.
-/
namespace Go.Proofs.YtpamhimmdoimoaaDoor
open Go.RowKit Go.Shelf
variable (Tabs : World → Prop)

end Go.Proofs.YtpamhimmdoimoaaDoor

/-
  The contract of values.Order, for every two values: what it tells, and that nothing old has turned; utf8.ValidString's and strings.Compare's contracts are hypotheses here.
-/
namespace Go.Proofs.YtpamhimmdoimoaaDoor
open Go.RowKit
variable (V : ByteArray → Bool) (Tabs : World → Prop)
end Go.Proofs.YtpamhimmdoimoaaDoor

/-
  Plain mathematics: expressions as trees, what Check, Sort and Eval say of them, and that what has a sort has a value of that sort (MILNER); for every tree.
-/
namespace Go.Proofs.YtpamhimmdoimoaaDoor
open Go.RowKit

end Go.Proofs.YtpamhimmdoimoaaDoor

/-
  The library's own contracts. Conditions: none.
-/
namespace Go.Proofs
open Go.Shelf
def Tryd.lays161_ren : Go.Shelf.Ren := ⟨fun | 161 => 85 | 231 => 87 | 227 => 88 | 233 => 89 | 235 => 90 | 228 => 91 | 197 => 92 | 151 => 93 | 260 => 94 | 152 => 95 | 137 => 96 | 119 => 97 | 224 => 98 | 225 => 99 | 217 => 100 | 266 => 101 | n => n, fun | 9 => 9 | 4 => 4 | 3 => 3 | 5 => 5 | 117 => 150 | 116 => 149 | 0 => 0 | 124 => 153 | 105 => 155 | 21 => 21 | 119 => 159 | 46 => 121 | 139 => 162 | 138 => 161 | n => n, fun | 3 => 0 | 4 => 1 | n => n⟩
theorem Tryd.lays161 : Go.Proofs.Lays.n161 Tryd.prog Tryd.lays161_ren := {
  mixed := by kernel_rfl
  f119 := Tryd.func97.trans (congrArg some (by kernel_rfl))
  f137 := Tryd.func96.trans (congrArg some (by kernel_rfl))
  f151 := Tryd.func93.trans (congrArg some (by kernel_rfl))
  f152 := Tryd.func95.trans (congrArg some (by kernel_rfl))
  f161 := Tryd.func85.trans (congrArg some (by kernel_rfl))
  f197 := Tryd.func92.trans (congrArg some (by kernel_rfl))
  f217 := Tryd.func100.trans (congrArg some (by kernel_rfl))
  f224 := Tryd.func98.trans (congrArg some (by kernel_rfl))
  f225 := Tryd.func99.trans (congrArg some (by kernel_rfl))
  f227 := Tryd.func88.trans (congrArg some (by kernel_rfl))
  f228 := Tryd.func91.trans (congrArg some (by kernel_rfl))
  f231 := Tryd.func87.trans (congrArg some (by kernel_rfl))
  f233 := Tryd.func89.trans (congrArg some (by kernel_rfl))
  f235 := Tryd.func90.trans (congrArg some (by kernel_rfl))
  f260 := Tryd.func94.trans (congrArg some (by kernel_rfl))
  f266 := Tryd.func101.trans (congrArg some (by kernel_rfl))
  t0 := Tryd.underlying0
  a0 := Tryd.isAgg0
  z0 := Tryd.sizeOf0
  v0 := Tryd.zeroValue0
  t3 := Tryd.underlying3
  a3 := Tryd.isAgg3
  z3 := Tryd.sizeOf3
  v3 := Tryd.zeroValue3
  t4 := Tryd.underlying4
  a4 := Tryd.isAgg4
  z4 := Tryd.sizeOf4
  v4 := Tryd.zeroValue4
  t5 := Tryd.underlying5
  a5 := Tryd.isAgg5
  z5 := Tryd.sizeOf5
  v5 := Tryd.zeroValue5
  t9 := Tryd.underlying9
  a9 := Tryd.isAgg9
  z9 := Tryd.sizeOf9
  v9 := Tryd.zeroValue9
  t21 := Tryd.underlying21
  a21 := Tryd.isAgg21
  z21 := Tryd.sizeOf21
  v21 := Tryd.zeroValue21
  t46 := Tryd.underlying121
  a46 := Tryd.isAgg121
  z46 := Tryd.sizeOf121
  v46 := Tryd.zeroValue121
  t105 := Tryd.underlying155
  a105 := Tryd.isAgg155
  z105 := Tryd.sizeOf155
  v105 := Tryd.zeroValue155
  t116 := Tryd.underlying149
  a116 := Tryd.isAgg149
  z116 := Tryd.sizeOf149
  t117 := Tryd.underlying150
  a117 := Tryd.isAgg150
  z117 := Tryd.sizeOf150
  v117 := Tryd.zeroValue150
  t119 := Tryd.underlying159
  a119 := Tryd.isAgg159
  z119 := Tryd.sizeOf159
  t124 := Tryd.underlying153
  a124 := Tryd.isAgg153
  z124 := Tryd.sizeOf153
  v124 := Tryd.zeroValue153
  t138 := Tryd.underlying161
  a138 := Tryd.isAgg161
  z138 := Tryd.sizeOf161
  v138 := Tryd.zeroValue161
  t139 := Tryd.underlying162
  a139 := Tryd.isAgg162
  z139 := Tryd.sizeOf162
  v139 := Tryd.zeroValue162
  g3 := by kernel_rfl
  g4 := by kernel_rfl }
end Go.Proofs
