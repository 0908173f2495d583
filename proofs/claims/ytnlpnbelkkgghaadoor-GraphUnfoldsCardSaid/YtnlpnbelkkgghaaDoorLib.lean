/-
  Plain: a value and an expression as data.
-/
import Derived.WalkKit
import Derived.Test.YtnlpnbelkkgghaaDoorProg
import Derived.Handy
import Derived.Deep.Slices
import Derived.Lib.SmallJoins
import Derived.OpenShut
import Derived.WalkSpells
import Derived.WalkLawsBesides
import Derived.Deep.QuietTactic
import Derived.BigQuiet
import Derived.Lib.Bytealg
import Derived.Test.YtnlpnbelkkgghaaDoorRows
import Derived.Ground.NamesProg
import Derived.Shelf.LaysM
import Derived.Shelf.Small.Strs
import Derived.Shelf.Unicode.ValidAny
import Derived.Shelf.Small.Utf8
import Derived.Shelf.Utf8.RuneCount
import Derived.Shelf.Utf8.AppendRune
import Derived.Shelf.Strings.BuilderK
import Derived.Shelf.Strconv.Clone
import Derived.Shelf.Unicode.DecodeAny
namespace Go.Proofs.YtnlpnbelkkgghaaDoor

structure Ex where
  kind : Int
  name : ByteArray
  so : Int
  n : Int
  s : ByteArray
  kids : List Ex
end Go.Proofs.YtnlpnbelkkgghaaDoor
/-
  How an expression lies in memory, that it stays so where nothing old is turned, and that every expression that is handed in lies so.
-/
namespace Go.Proofs.YtnlpnbelkkgghaaDoor
open Go.RowKit Go.Deep Go.Joins Go.ChangeShapes Go.WideShapes

/-- the six cells of an expression -/
structure ExAt (W : World) (b o : Nat) (x : Ex) (ao : Option Addr) (cap : Nat) : Prop where
  c0 : W.cell? ⟨b, o, none⟩ = some (.int .i64 x.kind)
  c1 : W.cell? ⟨b, o + 1, none⟩ = some (.string x.name)
  c2 : W.cell? ⟨b, o + 2, none⟩ = some (.int .i64 x.so)
  c3 : W.cell? ⟨b, o + 3, none⟩ = some (.int .i64 x.n)
  c4 : W.cell? ⟨b, o + 4, none⟩ = some (.string x.s)
  c5 : W.cell? ⟨b, o + 5, none⟩ = some (.slice ao x.kids.length cap)
/-- what fits into a word -/
structure ExBd (x : Ex) (cap : Nat) : Prop where
  name : x.name.size ≤ 9223372036854775807
  s : x.s.size ≤ 9223372036854775807
  n0 : -9223372036854775808 ≤ x.n
  n1 : x.n ≤ 9223372036854775807
  kids : x.kids.length ≤ cap
  cap : cap ≤ 9223372036854775807

/-- a list of expressions, of so many levels at most, lies below block B -/
def KA (W : World) (B : Nat) : Nat → List Ex → Option Addr → Prop
  | 0, ks, _ => ks = []
  | d + 1, ks, ao => ks = [] ∨ ∃ b o, ao = some ⟨b, o, none⟩ ∧ b < B ∧ ∀ i (h : i < ks.length), ∃ ao' cap', ExAt W b (o + i * 6) ks[i] ao' cap' ∧ ExBd ks[i] cap' ∧ KA W B d ks[i].kids ao'

theorem ExAt.keep {W W' : World} {B b o : Nat} {x : Ex} {ao : Option Addr} {cap : Nat} (h : ExAt W b o x ao cap) (hb : Below B W W') (hl : b < B) : ExAt W' b o x ao cap :=
  ⟨(hb.cell (p := ⟨b, o, none⟩) hl).trans h.c0, (hb.cell (p := ⟨b, o + 1, none⟩) hl).trans h.c1, (hb.cell (p := ⟨b, o + 2, none⟩) hl).trans h.c2, (hb.cell (p := ⟨b, o + 3, none⟩) hl).trans h.c3, (hb.cell (p := ⟨b, o + 4, none⟩) hl).trans h.c4, (hb.cell (p := ⟨b, o + 5, none⟩) hl).trans h.c5⟩
theorem KA.keep {W W' : World} {B : Nat} (hb : Below B W W') : ∀ {d : Nat} {ks : List Ex} {ao : Option Addr}, KA W B d ks ao → KA W' B d ks ao
  | 0, _, _, h => h
  | d + 1, ks, ao, h => by
    rcases h with h | ⟨b, o, rfl, hl, h⟩
    · exact .inl h
    · exact .inr ⟨b, o, rfl, hl, fun i hi => by
        obtain ⟨ao', cap', h1, h2, h3⟩ := h i hi
        exact ⟨ao', cap', h1.keep hb hl, h2, KA.keep hb h3⟩⟩
theorem KA.mono {W : World} {B B' : Nat} (hB : B ≤ B') : ∀ {d : Nat} {ks : List Ex} {ao : Option Addr}, KA W B d ks ao → KA W B' d ks ao
  | 0, _, _, h => h
  | d + 1, ks, ao, h => by
    rcases h with h | ⟨b, o, rfl, hl, h⟩
    · exact .inl h
    · exact .inr ⟨b, o, rfl, by omega, fun i hi => by
        obtain ⟨ao', cap', h1, h2, h3⟩ := h i hi
        exact ⟨ao', cap', h1, h2, KA.mono hB h3⟩⟩
theorem KA.up {W : World} {B : Nat} : ∀ {d e : Nat} {ks : List Ex} {ao : Option Addr}, d ≤ e → KA W B d ks ao → KA W B e ks ao
  | 0, 0, _, _, _, h => h
  | 0, e + 1, _, _, _, h => .inl h
  | d + 1, 0, _, _, hd, _ => by omega
  | d + 1, e + 1, ks, ao, hd, h => by
    rcases h with h | ⟨b, o, rfl, hl, h⟩
    · exact .inl h
    · exact .inr ⟨b, o, rfl, hl, fun i hi => by
        obtain ⟨ao', cap', h1, h2, h3⟩ := h i hi
        exact ⟨ao', cap', h1, h2, KA.up (by omega) h3⟩⟩
theorem lt_of_cell {W : World} {b o : Nat} {v : Value} (h : W.cell? ⟨b, o, none⟩ = some v) : b < W.heap.size := by
  unfold World.cell? at h
  apply Classical.byContradiction
  intro hn
  have : W.heap[b]? = none := by simp; omega
  simp [this] at h
section
variable {H : Type} {enc : TypeId × Value → H} {W : World} {base : Nat} {spare : Nat → Bool} {held : Bool}
end
end Go.Proofs.YtnlpnbelkkgghaaDoor

/-
  Plain mathematics: the levels and sorts of operators, names, and what is reckoned with numbers of 64 bits.
-/
namespace Go.Proofs.YtnlpnbelkkgghaaDoor
open Go.RowKit

def isLow (c : UInt8) : Bool := decide (97 ≤ c.toNat ∧ c.toNat ≤ 122)
def isNm (l : List UInt8) : Bool :=
  if l = [116, 114, 117, 101] ∨ l = [102, 97, 108, 115, 101] ∨ l = [97, 110, 100] ∨ l = [111, 114] ∨ l = [110, 111, 116] then false
  else decide (1 ≤ l.length ∧ l.length ≤ 8) && l.all isLow
end Go.Proofs.YtnlpnbelkkgghaaDoor

/-
  The contracts of exprs.level, isOperator, isComparison, operatorSorts, truth, number, quotient and reckonNumbers, each for every input.
-/
namespace Go.Proofs.YtnlpnbelkkgghaaDoor
open Go.RowKit

theorem beqL (s : ByteArray) (l : List UInt8) : (s.toList == l) = decide (s.data.toList = l) := by
  rw [ByteArray.toList_eq, Bool.eq_iff_iff]; simp

end Go.Proofs.YtnlpnbelkkgghaaDoor

/-
  Plain mathematics, no program: the comparison of integers, of lists of bytes, and of pairs one behind the other are each one of all values (opposite one way round and the other, 0 just for the same, and it goes on from one to the next), for every argument.
-/
namespace Go.Proofs.YtnlpnbelkkgghaaDoor
open Go

end Go.Proofs.YtnlpnbelkkgghaaDoor

/-
  The contracts of the small functions on the road of values.Order: argUnless, checkText, Check, checkAll (of two values), cmp.Compare, cmp.Or, each for every input; utf8.ValidString's is a hypothesis here.
-/
namespace Go.Proofs.YtnlpnbelkkgghaaDoor
open Go.RowKit
variable (V : ByteArray → Bool) (Tabs : World → Prop)
theorem bcell {W w1 : World} (hb : Below W.heap.size W w1) : (∀ b o, b < W.heap.size → w1.cell? ⟨b, o, none⟩ = W.cell? ⟨b, o, none⟩) ∧ (∀ b o, b < W.heap.size → w1.frozen? ⟨b, o, none⟩ = W.frozen? ⟨b, o, none⟩) :=
  ⟨fun b o h => hb.cell (p := ⟨b, o, none⟩) h, fun b o h => hb.frozen (p := ⟨b, o, none⟩) h⟩

end Go.Proofs.YtnlpnbelkkgghaaDoor

/-
  The contracts of values.checkAll (of one value) and values.needTexts (of one, of two), for every value; utf8.ValidString's contract is a hypothesis here.
-/
namespace Go.Proofs.YtnlpnbelkkgghaaDoor
open Go.RowKit
variable (V : ByteArray → Bool) (Tabs : World → Prop)

end Go.Proofs.YtnlpnbelkkgghaaDoor

/-
  The contracts of the shelf's functions, in plain words. Conditions: none.
-/
namespace Go.Proofs
open Go.Shelf
def Tryd.lays196_ren : Go.Shelf.Ren := ⟨fun | 196 => 148 | 259 => 165 | n => n, fun | 9 => 9 | 4 => 4 | 3 => 3 | 5 => 5 | 12 => 12 | 119 => 250 | 0 => 0 | 46 => 148 | 139 => 253 | 138 => 252 | 53 => 82 | n => n, fun | 3 => 1 | 4 => 2 | n => n⟩
theorem Tryd.lays196 : Go.Proofs.Lays.n196 Tryd.prog Tryd.lays196_ren := {
  mixed := by kernel_rfl
  f196 := Tryd.func148.trans (congrArg some (by kernel_rfl))
  f259 := Tryd.func165.trans (congrArg some (by kernel_rfl))
  t0 := Tryd.underlying0
  a0 := Tryd.isAgg0
  z0 := Tryd.sizeOf0
  v0 := Tryd.zeroValue0
  t3 := Tryd.underlying3
  a3 := Tryd.isAgg3
  z3 := Tryd.sizeOf3
  v3 := Tryd.zeroValue3
  t4 := Tryd.underlying4
  a4 := Tryd.isAgg4
  z4 := Tryd.sizeOf4
  v4 := Tryd.zeroValue4
  t5 := Tryd.underlying5
  a5 := Tryd.isAgg5
  z5 := Tryd.sizeOf5
  v5 := Tryd.zeroValue5
  t9 := Tryd.underlying9
  a9 := Tryd.isAgg9
  z9 := Tryd.sizeOf9
  v9 := Tryd.zeroValue9
  t12 := Tryd.underlying12
  a12 := Tryd.isAgg12
  z12 := Tryd.sizeOf12
  v12 := Tryd.zeroValue12
  t46 := Tryd.underlying148
  a46 := Tryd.isAgg148
  z46 := Tryd.sizeOf148
  v46 := Tryd.zeroValue148
  t53 := Tryd.underlying82
  a53 := Tryd.isAgg82
  z53 := Tryd.sizeOf82
  v53 := Tryd.zeroValue82
  t119 := Tryd.underlying250
  a119 := Tryd.isAgg250
  z119 := Tryd.sizeOf250
  t138 := Tryd.underlying252
  a138 := Tryd.isAgg252
  z138 := Tryd.sizeOf252
  v138 := Tryd.zeroValue252
  t139 := Tryd.underlying253
  a139 := Tryd.isAgg253
  z139 := Tryd.sizeOf253
  v139 := Tryd.zeroValue253
  g3 := by kernel_rfl
  g4 := by kernel_rfl }
def Tryd.lays170_ren : Go.Shelf.Ren := ⟨fun | 170 => 92 | n => n, fun | 70 => 152 | 3 => 3 | 0 => 0 | 72 => 154 | 37 => 145 | 5 => 5 | n => n, fun | n => n⟩
theorem Tryd.lays170 : Go.Proofs.Lays.n170 Tryd.prog Tryd.lays170_ren := {
  mixed := by kernel_rfl
  f170 := Tryd.func92.trans (congrArg some (by kernel_rfl))
  t0 := Tryd.underlying0
  a0 := Tryd.isAgg0
  z0 := Tryd.sizeOf0
  v0 := Tryd.zeroValue0
  t3 := Tryd.underlying3
  a3 := Tryd.isAgg3
  z3 := Tryd.sizeOf3
  v3 := Tryd.zeroValue3
  t37 := Tryd.underlying145
  a37 := Tryd.isAgg145
  z37 := Tryd.sizeOf145
  v37 := Tryd.zeroValue145
  t70 := Tryd.underlying152
  a70 := Tryd.isAgg152
  z70 := Tryd.sizeOf152
  v70 := Tryd.zeroValue152
  t72 := Tryd.underlying154
  a72 := Tryd.isAgg154
  z72 := Tryd.sizeOf154
  v72 := Tryd.zeroValue154 }
def Tryd.lays169_ren : Go.Shelf.Ren := ⟨fun | 169 => 93 | n => n, fun | 70 => 152 | 9 => 9 | 0 => 0 | 72 => 154 | 37 => 145 | 127 => 212 | 3 => 3 | 5 => 5 | n => n, fun | n => n⟩
theorem Tryd.lays169 : Go.Proofs.Lays.n169 Tryd.prog Tryd.lays169_ren := {
  mixed := by kernel_rfl
  f169 := Tryd.func93.trans (congrArg some (by kernel_rfl))
  t0 := Tryd.underlying0
  a0 := Tryd.isAgg0
  z0 := Tryd.sizeOf0
  v0 := Tryd.zeroValue0
  t3 := Tryd.underlying3
  a3 := Tryd.isAgg3
  z3 := Tryd.sizeOf3
  v3 := Tryd.zeroValue3
  t9 := Tryd.underlying9
  a9 := Tryd.isAgg9
  z9 := Tryd.sizeOf9
  v9 := Tryd.zeroValue9
  t37 := Tryd.underlying145
  a37 := Tryd.isAgg145
  z37 := Tryd.sizeOf145
  v37 := Tryd.zeroValue145
  t70 := Tryd.underlying152
  a70 := Tryd.isAgg152
  z70 := Tryd.sizeOf152
  v70 := Tryd.zeroValue152
  t72 := Tryd.underlying154
  a72 := Tryd.isAgg154
  z72 := Tryd.sizeOf154
  v72 := Tryd.zeroValue154
  t127 := Tryd.underlying212
  a127 := Tryd.isAgg212
  z127 := Tryd.sizeOf212
  v127 := Tryd.zeroValue212 }
def Tryd.laysM316_ren : Go.Shelf.Ren := ⟨fun | 316 => 98 | n => n, fun | 9 => 9 | 3 => 3 | 4 => 4 | 37 => 145 | 0 => 0 | 127 => 212 | 5 => 5 | n => n, fun | n => n⟩
theorem Tryd.laysM316 : Go.Proofs.LaysM.n316 Tryd.prog Tryd.laysM316_ren := {
  mixed := by kernel_rfl
  f316 := Tryd.func98.trans (congrArg some (by kernel_rfl))
  t0 := Tryd.underlying0
  a0 := Tryd.isAgg0
  z0 := Tryd.sizeOf0
  v0 := Tryd.zeroValue0
  t3 := Tryd.underlying3
  a3 := Tryd.isAgg3
  z3 := Tryd.sizeOf3
  v3 := Tryd.zeroValue3
  t4 := Tryd.underlying4
  a4 := Tryd.isAgg4
  z4 := Tryd.sizeOf4
  v4 := Tryd.zeroValue4
  t9 := Tryd.underlying9
  a9 := Tryd.isAgg9
  z9 := Tryd.sizeOf9
  v9 := Tryd.zeroValue9
  t37 := Tryd.underlying145
  a37 := Tryd.isAgg145
  z37 := Tryd.sizeOf145
  v37 := Tryd.zeroValue145
  t127 := Tryd.underlying212
  a127 := Tryd.isAgg212
  z127 := Tryd.sizeOf212
  v127 := Tryd.zeroValue212
  t5 := Tryd.underlying5
  a5 := Tryd.isAgg5
  z5 := Tryd.sizeOf5
  v5 := Tryd.zeroValue5
  i0 := by kernel_rfl
  i3 := by kernel_rfl
  i4 := by kernel_rfl
  i5 := by kernel_rfl
  i9 := by kernel_rfl
  i37 := by kernel_rfl
  i127 := by kernel_rfl }
def Tryd.lays197_ren : Go.Shelf.Ren := ⟨fun | 197 => 137 | 260 => 157 | n => n, fun | 9 => 9 | 21 => 21 | 3 => 3 | 4 => 4 | 5 => 5 | 105 => 214 | 119 => 250 | 0 => 0 | 46 => 148 | 139 => 253 | 138 => 252 | n => n, fun | 3 => 1 | 4 => 2 | n => n⟩
theorem Tryd.lays197 : Go.Proofs.Lays.n197 Tryd.prog Tryd.lays197_ren := {
  mixed := by kernel_rfl
  f197 := Tryd.func137.trans (congrArg some (by kernel_rfl))
  f260 := Tryd.func157.trans (congrArg some (by kernel_rfl))
  t0 := Tryd.underlying0
  a0 := Tryd.isAgg0
  z0 := Tryd.sizeOf0
  v0 := Tryd.zeroValue0
  t3 := Tryd.underlying3
  a3 := Tryd.isAgg3
  z3 := Tryd.sizeOf3
  v3 := Tryd.zeroValue3
  t4 := Tryd.underlying4
  a4 := Tryd.isAgg4
  z4 := Tryd.sizeOf4
  v4 := Tryd.zeroValue4
  t5 := Tryd.underlying5
  a5 := Tryd.isAgg5
  z5 := Tryd.sizeOf5
  v5 := Tryd.zeroValue5
  t9 := Tryd.underlying9
  a9 := Tryd.isAgg9
  z9 := Tryd.sizeOf9
  v9 := Tryd.zeroValue9
  t21 := Tryd.underlying21
  a21 := Tryd.isAgg21
  z21 := Tryd.sizeOf21
  v21 := Tryd.zeroValue21
  t46 := Tryd.underlying148
  a46 := Tryd.isAgg148
  z46 := Tryd.sizeOf148
  v46 := Tryd.zeroValue148
  t105 := Tryd.underlying214
  a105 := Tryd.isAgg214
  z105 := Tryd.sizeOf214
  v105 := Tryd.zeroValue214
  t119 := Tryd.underlying250
  a119 := Tryd.isAgg250
  z119 := Tryd.sizeOf250
  t138 := Tryd.underlying252
  a138 := Tryd.isAgg252
  z138 := Tryd.sizeOf252
  v138 := Tryd.zeroValue252
  t139 := Tryd.underlying253
  a139 := Tryd.isAgg253
  z139 := Tryd.sizeOf253
  v139 := Tryd.zeroValue253
  g3 := by kernel_rfl
  g4 := by kernel_rfl }
end Go.Proofs
