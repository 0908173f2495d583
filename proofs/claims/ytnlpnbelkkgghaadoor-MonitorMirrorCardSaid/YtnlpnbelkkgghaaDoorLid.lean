/-
  Plain: a value and an expression as data.
-/
import Derived.WalkKit
import Derived.Test.YtnlpnbelkkgghaaDoorProg
import Derived.Handy
import Derived.Deep.Slices
import Derived.Lib.SmallJoins
import Derived.OpenShut
import Derived.WalkSpells
import Derived.WalkLawsBesides
import Derived.Deep.QuietTactic
import Derived.BigQuiet
import Derived.Lib.Bytealg
import Derived.Test.YtnlpnbelkkgghaaDoorRows
import Derived.Ground.NamesProg
import Derived.Shelf.LaysM
import Derived.Shelf.Small.Strs
import Derived.Shelf.Unicode.ValidAny
import Derived.Shelf.Small.Utf8
import Derived.Shelf.Utf8.RuneCount
import Derived.Shelf.Utf8.AppendRune
import Derived.Shelf.Strings.BuilderK
import Derived.Shelf.Strconv.Clone
import Derived.Shelf.Unicode.DecodeAny
import Derived.Lib.ValidLaws
import Derived.Lib.ValidAsc
import Derived.Lib.RuneBytes
import Derived.Lib.RuneCountTail
import Derived.Lib.Small
import Derived.Laws.Cover4
import Derived.Laws.IdiomStrings
import Derived.Lib.OwnBridge
import Derived.BigCall
import Derived.Deep.RegionHeld3
import Derived.Deep.DeepFit
import Derived.Shelf.Small.Wraps
import Derived.Shelf.Strconv.Itoa4
import Derived.Shelf.Strings.SlTrimAscii
namespace Go.Proofs.YtnlpnbelkkgghaaDoor

structure Ex where
  kind : Int
  name : ByteArray
  so : Int
  n : Int
  s : ByteArray
  kids : List Ex
end Go.Proofs.YtnlpnbelkkgghaaDoor
/-
  How an expression lies in memory, that it stays so where nothing old is turned, and that every expression that is handed in lies so.
-/
namespace Go.Proofs.YtnlpnbelkkgghaaDoor
open Go.RowKit Go.Deep Go.Joins Go.ChangeShapes Go.WideShapes

/-- the six cells of an expression -/
structure ExAt (W : World) (b o : Nat) (x : Ex) (ao : Option Addr) (cap : Nat) : Prop where
  c0 : W.cell? ⟨b, o, none⟩ = some (.int .i64 x.kind)
  c1 : W.cell? ⟨b, o + 1, none⟩ = some (.string x.name)
  c2 : W.cell? ⟨b, o + 2, none⟩ = some (.int .i64 x.so)
  c3 : W.cell? ⟨b, o + 3, none⟩ = some (.int .i64 x.n)
  c4 : W.cell? ⟨b, o + 4, none⟩ = some (.string x.s)
  c5 : W.cell? ⟨b, o + 5, none⟩ = some (.slice ao x.kids.length cap)
/-- what fits into a word -/
structure ExBd (x : Ex) (cap : Nat) : Prop where
  name : x.name.size ≤ 9223372036854775807
  s : x.s.size ≤ 9223372036854775807
  n0 : -9223372036854775808 ≤ x.n
  n1 : x.n ≤ 9223372036854775807
  kids : x.kids.length ≤ cap
  cap : cap ≤ 9223372036854775807

/-- a list of expressions, of so many levels at most, lies below block B -/
def KA (W : World) (B : Nat) : Nat → List Ex → Option Addr → Prop
  | 0, ks, _ => ks = []
  | d + 1, ks, ao => ks = [] ∨ ∃ b o, ao = some ⟨b, o, none⟩ ∧ b < B ∧ ∀ i (h : i < ks.length), ∃ ao' cap', ExAt W b (o + i * 6) ks[i] ao' cap' ∧ ExBd ks[i] cap' ∧ KA W B d ks[i].kids ao'

theorem ExAt.keep {W W' : World} {B b o : Nat} {x : Ex} {ao : Option Addr} {cap : Nat} (h : ExAt W b o x ao cap) (hb : Below B W W') (hl : b < B) : ExAt W' b o x ao cap :=
  ⟨(hb.cell (p := ⟨b, o, none⟩) hl).trans h.c0, (hb.cell (p := ⟨b, o + 1, none⟩) hl).trans h.c1, (hb.cell (p := ⟨b, o + 2, none⟩) hl).trans h.c2, (hb.cell (p := ⟨b, o + 3, none⟩) hl).trans h.c3, (hb.cell (p := ⟨b, o + 4, none⟩) hl).trans h.c4, (hb.cell (p := ⟨b, o + 5, none⟩) hl).trans h.c5⟩
theorem KA.keep {W W' : World} {B : Nat} (hb : Below B W W') : ∀ {d : Nat} {ks : List Ex} {ao : Option Addr}, KA W B d ks ao → KA W' B d ks ao
  | 0, _, _, h => h
  | d + 1, ks, ao, h => by
    rcases h with h | ⟨b, o, rfl, hl, h⟩
    · exact .inl h
    · exact .inr ⟨b, o, rfl, hl, fun i hi => by
        obtain ⟨ao', cap', h1, h2, h3⟩ := h i hi
        exact ⟨ao', cap', h1.keep hb hl, h2, KA.keep hb h3⟩⟩
theorem KA.mono {W : World} {B B' : Nat} (hB : B ≤ B') : ∀ {d : Nat} {ks : List Ex} {ao : Option Addr}, KA W B d ks ao → KA W B' d ks ao
  | 0, _, _, h => h
  | d + 1, ks, ao, h => by
    rcases h with h | ⟨b, o, rfl, hl, h⟩
    · exact .inl h
    · exact .inr ⟨b, o, rfl, by omega, fun i hi => by
        obtain ⟨ao', cap', h1, h2, h3⟩ := h i hi
        exact ⟨ao', cap', h1, h2, KA.mono hB h3⟩⟩
theorem lt_of_cell {W : World} {b o : Nat} {v : Value} (h : W.cell? ⟨b, o, none⟩ = some v) : b < W.heap.size := by
  unfold World.cell? at h
  apply Classical.byContradiction
  intro hn
  have : W.heap[b]? = none := by simp; omega
  simp [this] at h
section
variable {H : Type} {enc : TypeId × Value → H} {W : World} {base : Nat} {spare : Nat → Bool} {held : Bool}
end
end Go.Proofs.YtnlpnbelkkgghaaDoor

/-
  Plain mathematics: the levels and sorts of operators, names, and what is reckoned with numbers of 64 bits.
-/
namespace Go.Proofs.YtnlpnbelkkgghaaDoor
open Go.RowKit

def isLow (c : UInt8) : Bool := decide (97 ≤ c.toNat ∧ c.toNat ≤ 122)
def isNm (l : List UInt8) : Bool :=
  if l = [116, 114, 117, 101] ∨ l = [102, 97, 108, 115, 101] ∨ l = [97, 110, 100] ∨ l = [111, 114] ∨ l = [110, 111, 116] then false
  else decide (1 ≤ l.length ∧ l.length ≤ 8) && l.all isLow
end Go.Proofs.YtnlpnbelkkgghaaDoor

/-
  The contracts of exprs.level, isOperator, isComparison, operatorSorts, truth, number, quotient and reckonNumbers, each for every input.
-/
namespace Go.Proofs.YtnlpnbelkkgghaaDoor
open Go.RowKit

theorem beqL (s : ByteArray) (l : List UInt8) : (s.toList == l) = decide (s.data.toList = l) := by
  rw [ByteArray.toList_eq, Bool.eq_iff_iff]; simp

end Go.Proofs.YtnlpnbelkkgghaaDoor

/-
  Plain mathematics, no program: the comparison of integers, of lists of bytes, and of pairs one behind the other are each one of all values (opposite one way round and the other, 0 just for the same, and it goes on from one to the next), for every argument.
-/
namespace Go.Proofs.YtnlpnbelkkgghaaDoor
open Go

end Go.Proofs.YtnlpnbelkkgghaaDoor

/-
  The contracts of the small functions on the road of values.Order: argUnless, checkText, Check, checkAll (of two values), cmp.Compare, cmp.Or, each for every input; utf8.ValidString's is a hypothesis here.
-/
namespace Go.Proofs.YtnlpnbelkkgghaaDoor
open Go.RowKit
set_option maxHeartbeats 400000 in
theorem argUnless_any (b : Bool) (w : World) :
    Calls Tryd.prog 120 #[.bool b] w fun e w' => e = .returned (.int .i64 (if b then 0 else 1)) ∧ w' = w := by
  cases b
  all_goals
    go_enter Tryd.func120, Tryd.ntmps120
    go_wp2
    go_ret
    exact ⟨rfl, rfl⟩
def argZ (b : Bool) : Int := if b then 0 else 1
theorem argUnless_z (b : Bool) (w : World) :
    Calls Tryd.prog 120 #[.bool b] w fun e w' => e = .returned (.int .i64 (argZ b)) ∧ w' = w := argUnless_any b w

def textZ (V : ByteArray → Bool) (n : Int) (s : ByteArray) : Int := if n ≠ 0 then 1 else if 100 < s.size then 2 else argZ (V s)

variable (V : ByteArray → Bool) (Tabs : World → Prop)
def VSaid : Prop := ∀ (s : ByteArray) (w : World), s.size ≤ 9223372036854775807 → Tabs w → Calls Tryd.prog 148 #[.string s] w fun e w' => e = .returned (.bool (V s)) ∧ Below w.heap.size w w'

set_option maxHeartbeats 400000 in
theorem checkText_any (hV : VSaid V Tabs) (hK : ∀ w w', Tabs w → Below w.heap.size w w' → Tabs w') (so n : Int) (s : ByteArray) (w : World) (hs : s.size ≤ 9223372036854775807) (hT : Tabs w) :
    Calls Tryd.prog 121 #[.agg #[.int .i64 so, .int .i64 n, .string s]] w fun e w' => e = .returned (.int .i64 (textZ V n s)) ∧ Below w.heap.size w w' := by
  by_cases hn : n = 0
  · subst hn
    by_cases hl : 100 < s.size
    · have e1 : textZ V 0 s = 2 := by simp [textZ, hl]
      have hlz : (100 : Int) < (s.size : Int) := by omega
      rw [e1]; clear e1
      go_enter Tryd.func121, Tryd.ntmps121
      go_wp2
      go_ret
      exact ⟨rfl, (Below.refl _ _).alloc (Nat.le_refl _) _⟩
    · have e1 : textZ V 0 s = argZ (V s) := by simp [textZ, hl]
      have hlz : ¬ (100 : Int) < (s.size : Int) := by omega
      rw [e1]; clear e1
      generalize hv : V s = v
      have cV := hV s (w.alloc (.cells #[.int .i64 so, .int .i64 0, .string s] 61)) hs (hK _ _ hT ((Below.refl _ _).alloc (Nat.le_refl _) _))
      rw [hv] at cV
      clear hv hV hK
      go_enter Tryd.func121, Tryd.ntmps121
      go_wp2_with (first
        | (go_at_call 148; refine cV.mono ?_; rintro e w' ⟨rfl, hb⟩)
        | (go_at_call 120; refine (argUnless_z _ _).mono ?_; rintro e w' ⟨rfl, rfl⟩))
      go_ret
      refine ⟨rfl, ?_⟩
      exact ((Below.refl w.heap.size w).alloc (Nat.le_refl _) _).trans (hb.mono (by simp))
  · have e1 : textZ V n s = 1 := by simp [textZ, hn]
    have hnb : (n == 0) = false := by simpa using hn
    rw [e1]; clear e1
    go_enter Tryd.func121, Tryd.ntmps121
    go_wp2
    go_ret
    exact ⟨rfl, (Below.refl _ _).alloc (Nat.le_refl _) _⟩

/-- values.Check, over what a Value holds. -/
def chkZ (V : ByteArray → Bool) (so n : Int) (s : ByteArray) : Int :=
  if so = 1 then argZ s.toList.isEmpty
  else if so = 2 then argZ (s.toList.isEmpty && (n == 0 || n == 1))
  else if so = 3 then textZ V n s
  else 1

set_option maxHeartbeats 400000 in
theorem check_any (hV : VSaid V Tabs) (hK : ∀ w w', Tabs w → Below w.heap.size w w' → Tabs w') (so n : Int) (s : ByteArray) (w : World) (hs : s.size ≤ 9223372036854775807) (hT : Tabs w) :
    Calls Tryd.prog 74 #[.agg #[.int .i64 so, .int .i64 n, .string s]] w fun e w' => e = .returned (.int .i64 (chkZ V so n s)) ∧ Below w.heap.size w w' := by
  by_cases h1 : so = 1
  · subst h1
    have e1 : chkZ V 1 n s = argZ s.toList.isEmpty := rfl
    rw [e1]; clear e1
    go_enter Tryd.func74, Tryd.ntmps74
    go_wp2_with (go_at_call 120; go_must (refine (argUnless_z _ _).mono ?_; rintro e w' ⟨rfl, rfl⟩))
    go_ret
    exact ⟨rfl, (Below.refl _ _).alloc (Nat.le_refl _) _⟩
  · by_cases h2 : so = 2
    · subst h2
      have e1 : chkZ V 2 n s = argZ (s.toList.isEmpty && (n == 0 || n == 1)) := rfl
      rw [e1]; clear e1
      clear hV hK
      go_enter Tryd.func74, Tryd.ntmps74
      go_wp2_with (go_at_call 120; go_must (refine (argUnless_z _ _).mono ?_; rintro e w' ⟨rfl, rfl⟩))
      all_goals
        go_ret
        refine ⟨?_, (Below.refl _ _).alloc (Nat.le_refl _) _⟩
        first | (simp [*]; done) | (simp only [List.isEmpty_eq_false_iff.2 ‹¬ s.toList = []›, Bool.false_and]; rfl)
    · by_cases h3 : so = 3
      · subst h3
        have e1 : chkZ V 3 n s = textZ V n s := rfl
        rw [e1]; clear e1
        have cT := checkText_any V Tabs hV hK 3 n s (w.alloc (.cells #[.int .i64 3, .int .i64 n, .string s] 61)) hs (hK _ _ hT ((Below.refl _ _).alloc (Nat.le_refl _) _))
        generalize textZ V n s = z at cT ⊢
        clear hV hK
        go_enter Tryd.func74, Tryd.ntmps74
        go_wp2_with (go_at_call 121; go_must (refine cT.mono ?_; rintro e w' ⟨rfl, hb⟩))
        go_ret
        exact ⟨rfl, ((Below.refl w.heap.size w).alloc (Nat.le_refl _) _).trans (hb.mono (by simp))⟩
      · have e1 : chkZ V so n s = 1 := by simp [chkZ, h1, h2, h3]
        rw [e1]; clear e1
        have b1 : (so == 1) = false := by simpa using h1
        have b2 : (so == 2) = false := by simpa using h2
        have b3 : (so == 3) = false := by simpa using h3
        clear hV hK
        go_enter Tryd.func74, Tryd.ntmps74
        go_wp2
        go_ret
        exact ⟨rfl, (Below.refl _ _).alloc (Nat.le_refl _) _⟩


theorem bcell {W w1 : World} (hb : Below W.heap.size W w1) : (∀ b o, b < W.heap.size → w1.cell? ⟨b, o, none⟩ = W.cell? ⟨b, o, none⟩) ∧ (∀ b o, b < W.heap.size → w1.frozen? ⟨b, o, none⟩ = W.frozen? ⟨b, o, none⟩) :=
  ⟨fun b o h => hb.cell (p := ⟨b, o, none⟩) h, fun b o h => hb.frozen (p := ⟨b, o, none⟩) h⟩

end Go.Proofs.YtnlpnbelkkgghaaDoor

/-
  The contracts of values.checkAll (of one value) and values.needTexts (of one, of two), for every value; utf8.ValidString's contract is a hypothesis here.
-/
namespace Go.Proofs.YtnlpnbelkkgghaaDoor
open Go.RowKit
variable (V : ByteArray → Bool) (Tabs : World → Prop)

end Go.Proofs.YtnlpnbelkkgghaaDoor

/-
  The contracts of the shelf's functions, in plain words. Conditions: none.
-/
namespace Go.Proofs
open Go.Shelf
def Tryd.lays196_ren : Go.Shelf.Ren := ⟨fun | 196 => 148 | 259 => 165 | n => n, fun | 9 => 9 | 4 => 4 | 3 => 3 | 5 => 5 | 12 => 12 | 119 => 250 | 0 => 0 | 46 => 148 | 139 => 253 | 138 => 252 | 53 => 82 | n => n, fun | 3 => 1 | 4 => 2 | n => n⟩
theorem Tryd.lays196 : Go.Proofs.Lays.n196 Tryd.prog Tryd.lays196_ren := {
  mixed := by kernel_rfl
  f196 := Tryd.func148.trans (congrArg some (by kernel_rfl))
  f259 := Tryd.func165.trans (congrArg some (by kernel_rfl))
  t0 := Tryd.underlying0
  a0 := Tryd.isAgg0
  z0 := Tryd.sizeOf0
  v0 := Tryd.zeroValue0
  t3 := Tryd.underlying3
  a3 := Tryd.isAgg3
  z3 := Tryd.sizeOf3
  v3 := Tryd.zeroValue3
  t4 := Tryd.underlying4
  a4 := Tryd.isAgg4
  z4 := Tryd.sizeOf4
  v4 := Tryd.zeroValue4
  t5 := Tryd.underlying5
  a5 := Tryd.isAgg5
  z5 := Tryd.sizeOf5
  v5 := Tryd.zeroValue5
  t9 := Tryd.underlying9
  a9 := Tryd.isAgg9
  z9 := Tryd.sizeOf9
  v9 := Tryd.zeroValue9
  t12 := Tryd.underlying12
  a12 := Tryd.isAgg12
  z12 := Tryd.sizeOf12
  v12 := Tryd.zeroValue12
  t46 := Tryd.underlying148
  a46 := Tryd.isAgg148
  z46 := Tryd.sizeOf148
  v46 := Tryd.zeroValue148
  t53 := Tryd.underlying82
  a53 := Tryd.isAgg82
  z53 := Tryd.sizeOf82
  v53 := Tryd.zeroValue82
  t119 := Tryd.underlying250
  a119 := Tryd.isAgg250
  z119 := Tryd.sizeOf250
  t138 := Tryd.underlying252
  a138 := Tryd.isAgg252
  z138 := Tryd.sizeOf252
  v138 := Tryd.zeroValue252
  t139 := Tryd.underlying253
  a139 := Tryd.isAgg253
  z139 := Tryd.sizeOf253
  v139 := Tryd.zeroValue253
  g3 := by kernel_rfl
  g4 := by kernel_rfl }
def Tryd.lays170_ren : Go.Shelf.Ren := ⟨fun | 170 => 92 | n => n, fun | 70 => 152 | 3 => 3 | 0 => 0 | 72 => 154 | 37 => 145 | 5 => 5 | n => n, fun | n => n⟩
theorem Tryd.lays170 : Go.Proofs.Lays.n170 Tryd.prog Tryd.lays170_ren := {
  mixed := by kernel_rfl
  f170 := Tryd.func92.trans (congrArg some (by kernel_rfl))
  t0 := Tryd.underlying0
  a0 := Tryd.isAgg0
  z0 := Tryd.sizeOf0
  v0 := Tryd.zeroValue0
  t3 := Tryd.underlying3
  a3 := Tryd.isAgg3
  z3 := Tryd.sizeOf3
  v3 := Tryd.zeroValue3
  t37 := Tryd.underlying145
  a37 := Tryd.isAgg145
  z37 := Tryd.sizeOf145
  v37 := Tryd.zeroValue145
  t70 := Tryd.underlying152
  a70 := Tryd.isAgg152
  z70 := Tryd.sizeOf152
  v70 := Tryd.zeroValue152
  t72 := Tryd.underlying154
  a72 := Tryd.isAgg154
  z72 := Tryd.sizeOf154
  v72 := Tryd.zeroValue154 }
def Tryd.lays169_ren : Go.Shelf.Ren := ⟨fun | 169 => 93 | n => n, fun | 70 => 152 | 9 => 9 | 0 => 0 | 72 => 154 | 37 => 145 | 127 => 212 | 3 => 3 | 5 => 5 | n => n, fun | n => n⟩
theorem Tryd.lays169 : Go.Proofs.Lays.n169 Tryd.prog Tryd.lays169_ren := {
  mixed := by kernel_rfl
  f169 := Tryd.func93.trans (congrArg some (by kernel_rfl))
  t0 := Tryd.underlying0
  a0 := Tryd.isAgg0
  z0 := Tryd.sizeOf0
  v0 := Tryd.zeroValue0
  t3 := Tryd.underlying3
  a3 := Tryd.isAgg3
  z3 := Tryd.sizeOf3
  v3 := Tryd.zeroValue3
  t9 := Tryd.underlying9
  a9 := Tryd.isAgg9
  z9 := Tryd.sizeOf9
  v9 := Tryd.zeroValue9
  t37 := Tryd.underlying145
  a37 := Tryd.isAgg145
  z37 := Tryd.sizeOf145
  v37 := Tryd.zeroValue145
  t70 := Tryd.underlying152
  a70 := Tryd.isAgg152
  z70 := Tryd.sizeOf152
  v70 := Tryd.zeroValue152
  t72 := Tryd.underlying154
  a72 := Tryd.isAgg154
  z72 := Tryd.sizeOf154
  v72 := Tryd.zeroValue154
  t127 := Tryd.underlying212
  a127 := Tryd.isAgg212
  z127 := Tryd.sizeOf212
  v127 := Tryd.zeroValue212 }
def Tryd.laysM316_ren : Go.Shelf.Ren := ⟨fun | 316 => 98 | n => n, fun | 9 => 9 | 3 => 3 | 4 => 4 | 37 => 145 | 0 => 0 | 127 => 212 | 5 => 5 | n => n, fun | n => n⟩
theorem Tryd.laysM316 : Go.Proofs.LaysM.n316 Tryd.prog Tryd.laysM316_ren := {
  mixed := by kernel_rfl
  f316 := Tryd.func98.trans (congrArg some (by kernel_rfl))
  t0 := Tryd.underlying0
  a0 := Tryd.isAgg0
  z0 := Tryd.sizeOf0
  v0 := Tryd.zeroValue0
  t3 := Tryd.underlying3
  a3 := Tryd.isAgg3
  z3 := Tryd.sizeOf3
  v3 := Tryd.zeroValue3
  t4 := Tryd.underlying4
  a4 := Tryd.isAgg4
  z4 := Tryd.sizeOf4
  v4 := Tryd.zeroValue4
  t9 := Tryd.underlying9
  a9 := Tryd.isAgg9
  z9 := Tryd.sizeOf9
  v9 := Tryd.zeroValue9
  t37 := Tryd.underlying145
  a37 := Tryd.isAgg145
  z37 := Tryd.sizeOf145
  v37 := Tryd.zeroValue145
  t127 := Tryd.underlying212
  a127 := Tryd.isAgg212
  z127 := Tryd.sizeOf212
  v127 := Tryd.zeroValue212
  t5 := Tryd.underlying5
  a5 := Tryd.isAgg5
  z5 := Tryd.sizeOf5
  v5 := Tryd.zeroValue5
  i0 := by kernel_rfl
  i3 := by kernel_rfl
  i4 := by kernel_rfl
  i5 := by kernel_rfl
  i9 := by kernel_rfl
  i37 := by kernel_rfl
  i127 := by kernel_rfl }
def Tryd.lays197_ren : Go.Shelf.Ren := ⟨fun | 197 => 137 | 260 => 157 | n => n, fun | 9 => 9 | 21 => 21 | 3 => 3 | 4 => 4 | 5 => 5 | 105 => 214 | 119 => 250 | 0 => 0 | 46 => 148 | 139 => 253 | 138 => 252 | n => n, fun | 3 => 1 | 4 => 2 | n => n⟩
theorem Tryd.lays197 : Go.Proofs.Lays.n197 Tryd.prog Tryd.lays197_ren := {
  mixed := by kernel_rfl
  f197 := Tryd.func137.trans (congrArg some (by kernel_rfl))
  f260 := Tryd.func157.trans (congrArg some (by kernel_rfl))
  t0 := Tryd.underlying0
  a0 := Tryd.isAgg0
  z0 := Tryd.sizeOf0
  v0 := Tryd.zeroValue0
  t3 := Tryd.underlying3
  a3 := Tryd.isAgg3
  z3 := Tryd.sizeOf3
  v3 := Tryd.zeroValue3
  t4 := Tryd.underlying4
  a4 := Tryd.isAgg4
  z4 := Tryd.sizeOf4
  v4 := Tryd.zeroValue4
  t5 := Tryd.underlying5
  a5 := Tryd.isAgg5
  z5 := Tryd.sizeOf5
  v5 := Tryd.zeroValue5
  t9 := Tryd.underlying9
  a9 := Tryd.isAgg9
  z9 := Tryd.sizeOf9
  v9 := Tryd.zeroValue9
  t21 := Tryd.underlying21
  a21 := Tryd.isAgg21
  z21 := Tryd.sizeOf21
  v21 := Tryd.zeroValue21
  t46 := Tryd.underlying148
  a46 := Tryd.isAgg148
  z46 := Tryd.sizeOf148
  v46 := Tryd.zeroValue148
  t105 := Tryd.underlying214
  a105 := Tryd.isAgg214
  z105 := Tryd.sizeOf214
  v105 := Tryd.zeroValue214
  t119 := Tryd.underlying250
  a119 := Tryd.isAgg250
  z119 := Tryd.sizeOf250
  t138 := Tryd.underlying252
  a138 := Tryd.isAgg252
  z138 := Tryd.sizeOf252
  v138 := Tryd.zeroValue252
  t139 := Tryd.underlying253
  a139 := Tryd.isAgg253
  z139 := Tryd.sizeOf253
  v139 := Tryd.zeroValue253
  g3 := by kernel_rfl
  g4 := by kernel_rfl }
end Go.Proofs

/-
  The contracts of strings.Builder's copyCheck and WriteRune at this program, for every builder and every letter.
-/
namespace Go.Proofs.YtnlpnbelkkgghaaDoor
open Go.RowKit Go.Shelf

end Go.Proofs.YtnlpnbelkkgghaaDoor

/-
  Plain mathematics: letters as bytes and back: what is UTF-8 is the bytes of a list of letters, each is read as it was written, a list of letters turned round has as many bytes, and which first letters fit into 100 bytes; for every list of letters.
-/
namespace Go.Proofs.YtnlpnbelkkgghaaDoor
open Go Go.Lib

/-- letters as bytes -/
def enc (rs : List Nat) : List UInt8 := rs.flatMap fun r : Nat => encodeRune (r : Int)
def rl (r : Nat) : Nat := (encodeRune (r : Int)).length

/-- the letters that fit, n bytes being there -/
def fit : Nat → List Nat → List Nat
  | _, [] => []
  | n, r :: rs => if 100 < n + rl r then [] else r :: fit (n + rl r) rs
end Go.Proofs.YtnlpnbelkkgghaaDoor

/-
  The contract of values.Length, for every value; utf8.ValidString's contract is a hypothesis here.
-/
namespace Go.Proofs.YtnlpnbelkkgghaaDoor
open Go.RowKit Go.Shelf
variable (V : ByteArray → Bool) (Tabs : World → Prop)

end Go.Proofs.YtnlpnbelkkgghaaDoor

/-
  The contract of values.Joined, for every two values; utf8.ValidString's contract is a hypothesis here.
-/
namespace Go.Proofs.YtnlpnbelkkgghaaDoor
open Go.RowKit Go.Shelf
variable (V : ByteArray → Bool) (Tabs : World → Prop)

end Go.Proofs.YtnlpnbelkkgghaaDoor

/-
  A value in a block of its own, carried from world to world; what the calls of values.Length and values.Joined say.
-/
namespace Go.Proofs.YtnlpnbelkkgghaaDoor
open Go.RowKit Go.Shelf
variable (Tabs : World → Prop)

/-- a value in a block of its own -/
structure Box (W : World) (b : Nat) (so n : Int) (s : ByteArray) : Prop where
  lt : b < W.heap.size
  c0 : W.cell? ⟨b, 0, none⟩ = some (.int .i64 so)
  c1 : W.cell? ⟨b, 1, none⟩ = some (.int .i64 n)
  c2 : W.cell? ⟨b, 2, none⟩ = some (.string s)
theorem Box.keep {W W' : World} {b : Nat} {so n : Int} {s : ByteArray} (h : Box W b so n s) (hb : Below W.heap.size W W') : Box W' b so n s :=
  ⟨Nat.lt_of_lt_of_le h.lt hb.size, (hb.cell (p := ⟨b, 0, none⟩) h.lt).trans h.c0, (hb.cell (p := ⟨b, 1, none⟩) h.lt).trans h.c1, (hb.cell (p := ⟨b, 2, none⟩) h.lt).trans h.c2⟩
theorem Box.al {W : World} {b : Nat} {so n : Int} {s : ByteArray} (h : Box W b so n s) (o : Obj) : Box (W.alloc o) b so n s := h.keep ((Below.refl _ _).alloc (Nat.le_refl _) o)
theorem Box.new (W : World) (so n : Int) (s : ByteArray) (t : TypeId) : Box (W.alloc (.cells #[.int .i64 so, .int .i64 n, .string s] t)) W.heap.size so n s :=
  ⟨by simp, by go_cell, by go_cell, by go_cell⟩
end Go.Proofs.YtnlpnbelkkgghaaDoor

/-
  values.Length and values.Joined of texts, as letters; utf8.ValidString's contract is a hypothesis here.
-/
namespace Go.Proofs.YtnlpnbelkkgghaaDoor
open Go.RowKit Go.Shelf
variable (Tabs : World → Prop)

/-- is it UTF-8? -/
def vD (s : ByteArray) : Bool := Lib.validD s.data.toList

end Go.Proofs.YtnlpnbelkkgghaaDoor

/-
  The contract of values.Order, for every two values: what it tells, and that nothing old has turned; utf8.ValidString's and strings.Compare's contracts are hypotheses here.
-/
namespace Go.Proofs.YtnlpnbelkkgghaaDoor
open Go.RowKit
variable (V : ByteArray → Bool) (Tabs : World → Prop)
end Go.Proofs.YtnlpnbelkkgghaaDoor

/-
  Plain mathematics: expressions as trees, what Check, Sort and Eval say of them, and that what has a sort has a value of that sort (MILNER); for every tree.
-/
namespace Go.Proofs.YtnlpnbelkkgghaaDoor
open Go.RowKit

end Go.Proofs.YtnlpnbelkkgghaaDoor

/-
  The contracts of the shelf's functions, in plain words. Conditions: none.
-/
namespace Go.Proofs
open Go.Shelf
def Tryd.lays161_ren : Go.Shelf.Ren := ⟨fun | 161 => 65 | 231 => 94 | 227 => 95 | 233 => 96 | 235 => 97 | 228 => 136 | 197 => 137 | 151 => 138 | 260 => 157 | 152 => 158 | 137 => 169 | 119 => 170 | 224 => 171 | 225 => 172 | 217 => 184 | 266 => 191 | n => n, fun | 9 => 9 | 4 => 4 | 3 => 3 | 5 => 5 | 117 => 163 | 116 => 162 | 0 => 0 | 124 => 166 | 105 => 214 | 21 => 21 | 119 => 250 | 46 => 148 | 139 => 253 | 138 => 252 | n => n, fun | 3 => 1 | 4 => 2 | n => n⟩
theorem Tryd.lays161 : Go.Proofs.Lays.n161 Tryd.prog Tryd.lays161_ren := {
  mixed := by kernel_rfl
  f119 := Tryd.func170.trans (congrArg some (by kernel_rfl))
  f137 := Tryd.func169.trans (congrArg some (by kernel_rfl))
  f151 := Tryd.func138.trans (congrArg some (by kernel_rfl))
  f152 := Tryd.func158.trans (congrArg some (by kernel_rfl))
  f161 := Tryd.func65.trans (congrArg some (by kernel_rfl))
  f197 := Tryd.func137.trans (congrArg some (by kernel_rfl))
  f217 := Tryd.func184.trans (congrArg some (by kernel_rfl))
  f224 := Tryd.func171.trans (congrArg some (by kernel_rfl))
  f225 := Tryd.func172.trans (congrArg some (by kernel_rfl))
  f227 := Tryd.func95.trans (congrArg some (by kernel_rfl))
  f228 := Tryd.func136.trans (congrArg some (by kernel_rfl))
  f231 := Tryd.func94.trans (congrArg some (by kernel_rfl))
  f233 := Tryd.func96.trans (congrArg some (by kernel_rfl))
  f235 := Tryd.func97.trans (congrArg some (by kernel_rfl))
  f260 := Tryd.func157.trans (congrArg some (by kernel_rfl))
  f266 := Tryd.func191.trans (congrArg some (by kernel_rfl))
  t0 := Tryd.underlying0
  a0 := Tryd.isAgg0
  z0 := Tryd.sizeOf0
  v0 := Tryd.zeroValue0
  t3 := Tryd.underlying3
  a3 := Tryd.isAgg3
  z3 := Tryd.sizeOf3
  v3 := Tryd.zeroValue3
  t4 := Tryd.underlying4
  a4 := Tryd.isAgg4
  z4 := Tryd.sizeOf4
  v4 := Tryd.zeroValue4
  t5 := Tryd.underlying5
  a5 := Tryd.isAgg5
  z5 := Tryd.sizeOf5
  v5 := Tryd.zeroValue5
  t9 := Tryd.underlying9
  a9 := Tryd.isAgg9
  z9 := Tryd.sizeOf9
  v9 := Tryd.zeroValue9
  t21 := Tryd.underlying21
  a21 := Tryd.isAgg21
  z21 := Tryd.sizeOf21
  v21 := Tryd.zeroValue21
  t46 := Tryd.underlying148
  a46 := Tryd.isAgg148
  z46 := Tryd.sizeOf148
  v46 := Tryd.zeroValue148
  t105 := Tryd.underlying214
  a105 := Tryd.isAgg214
  z105 := Tryd.sizeOf214
  v105 := Tryd.zeroValue214
  t116 := Tryd.underlying162
  a116 := Tryd.isAgg162
  z116 := Tryd.sizeOf162
  t117 := Tryd.underlying163
  a117 := Tryd.isAgg163
  z117 := Tryd.sizeOf163
  v117 := Tryd.zeroValue163
  t119 := Tryd.underlying250
  a119 := Tryd.isAgg250
  z119 := Tryd.sizeOf250
  t124 := Tryd.underlying166
  a124 := Tryd.isAgg166
  z124 := Tryd.sizeOf166
  v124 := Tryd.zeroValue166
  t138 := Tryd.underlying252
  a138 := Tryd.isAgg252
  z138 := Tryd.sizeOf252
  v138 := Tryd.zeroValue252
  t139 := Tryd.underlying253
  a139 := Tryd.isAgg253
  z139 := Tryd.sizeOf253
  v139 := Tryd.zeroValue253
  g3 := by kernel_rfl
  g4 := by kernel_rfl }
end Go.Proofs
