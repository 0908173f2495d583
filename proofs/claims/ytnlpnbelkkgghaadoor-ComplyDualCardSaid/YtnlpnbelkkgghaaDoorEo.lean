/-
  Plain: a value and an expression as data.
-/
import Derived.WalkKit
import Derived.Test.YtnlpnbelkkgghaaDoorProg
import Derived.Handy
import Derived.Deep.Slices
import Derived.Lib.SmallJoins
import Derived.OpenShut
import Derived.WalkSpells
import Derived.WalkLawsBesides
import Derived.Deep.QuietTactic
import Derived.BigQuiet
import Derived.Lib.Bytealg
import Derived.Test.YtnlpnbelkkgghaaDoorRows
import Derived.Ground.NamesProg
import Derived.Shelf.LaysM
import Derived.Shelf.Small.Strs
import Derived.Shelf.Unicode.ValidAny
import Derived.Shelf.Small.Utf8
import Derived.Shelf.Utf8.RuneCount
import Derived.Shelf.Utf8.AppendRune
import Derived.Shelf.Strings.BuilderK
import Derived.Shelf.Strconv.Clone
import Derived.Shelf.Unicode.DecodeAny
import Derived.Lib.ValidLaws
import Derived.Lib.ValidAsc
import Derived.Lib.RuneBytes
import Derived.Lib.RuneCountTail
import Derived.Lib.Small
import Derived.Laws.Cover4
import Derived.Laws.IdiomStrings
import Derived.Lib.OwnBridge
import Derived.BigCall
import Derived.Deep.RegionHeld3
import Derived.Deep.DeepFit
import Derived.Shelf.Small.Wraps
import Derived.Shelf.Strconv.Itoa4
import Derived.Shelf.Strings.SlTrimAscii
import Derived.Deep.LoopGhost
namespace Go.Proofs.YtnlpnbelkkgghaaDoor

end Go.Proofs.YtnlpnbelkkgghaaDoor
/-
  How an expression lies in memory, that it stays so where nothing old is turned, and that every expression that is handed in lies so.
-/
namespace Go.Proofs.YtnlpnbelkkgghaaDoor
open Go.RowKit Go.Deep Go.Joins Go.ChangeShapes Go.WideShapes

theorem lt_of_cell {W : World} {b o : Nat} {v : Value} (h : W.cell? ⟨b, o, none⟩ = some v) : b < W.heap.size := by
  unfold World.cell? at h
  apply Classical.byContradiction
  intro hn
  have : W.heap[b]? = none := by simp; omega
  simp [this] at h
section
variable {H : Type} {enc : TypeId × Value → H} {W : World} {base : Nat} {spare : Nat → Bool} {held : Bool}
end Go.Proofs.YtnlpnbelkkgghaaDoor

/-
  Plain mathematics: the levels and sorts of operators, names, and what is reckoned with numbers of 64 bits.
-/
namespace Go.Proofs.YtnlpnbelkkgghaaDoor
open Go.RowKit

def isLow (c : UInt8) : Bool := decide (97 ≤ c.toNat ∧ c.toNat ≤ 122)
def isNm (l : List UInt8) : Bool :=
  if l = [116, 114, 117, 101] ∨ l = [102, 97, 108, 115, 101] ∨ l = [97, 110, 100] ∨ l = [111, 114] ∨ l = [110, 111, 116] then false
  else decide (1 ≤ l.length ∧ l.length ≤ 8) && l.all isLow
end Go.Proofs.YtnlpnbelkkgghaaDoor

/-
  The contracts of exprs.level, isOperator, isComparison, operatorSorts, truth, number, quotient and reckonNumbers, each for every input.
-/
namespace Go.Proofs.YtnlpnbelkkgghaaDoor
open Go.RowKit

theorem beqL (s : ByteArray) (l : List UInt8) : (s.toList == l) = decide (s.data.toList = l) := by
  rw [ByteArray.toList_eq, Bool.eq_iff_iff]; simp

end Go.Proofs.YtnlpnbelkkgghaaDoor

/-
  Plain mathematics, no program: the comparison of integers, of lists of bytes, and of pairs one behind the other are each one of all values (opposite one way round and the other, 0 just for the same, and it goes on from one to the next), for every argument.
-/
namespace Go.Proofs.YtnlpnbelkkgghaaDoor
open Go

end Go.Proofs.YtnlpnbelkkgghaaDoor

/-
  The contracts of the small functions on the road of values.Order: argUnless, checkText, Check, checkAll (of two values), cmp.Compare, cmp.Or, each for every input; utf8.ValidString's is a hypothesis here.
-/
namespace Go.Proofs.YtnlpnbelkkgghaaDoor
open Go.RowKit
variable (V : ByteArray → Bool) (Tabs : World → Prop)
theorem bcell {W w1 : World} (hb : Below W.heap.size W w1) : (∀ b o, b < W.heap.size → w1.cell? ⟨b, o, none⟩ = W.cell? ⟨b, o, none⟩) ∧ (∀ b o, b < W.heap.size → w1.frozen? ⟨b, o, none⟩ = W.frozen? ⟨b, o, none⟩) :=
  ⟨fun b o h => hb.cell (p := ⟨b, o, none⟩) h, fun b o h => hb.frozen (p := ⟨b, o, none⟩) h⟩

end Go.Proofs.YtnlpnbelkkgghaaDoor

/-
  The contracts of values.checkAll (of one value) and values.needTexts (of one, of two), for every value; utf8.ValidString's contract is a hypothesis here.
-/
namespace Go.Proofs.YtnlpnbelkkgghaaDoor
open Go.RowKit
variable (V : ByteArray → Bool) (Tabs : World → Prop)

end Go.Proofs.YtnlpnbelkkgghaaDoor

/-
  The contracts of the shelf's functions, in plain words. Conditions: none.
-/
namespace Go.Proofs
open Go.Shelf
end Go.Proofs

/-
  The contracts of strings.Builder's copyCheck and WriteRune at this program, for every builder and every letter.
-/
namespace Go.Proofs.YtnlpnbelkkgghaaDoor
open Go.RowKit Go.Shelf

end Go.Proofs.YtnlpnbelkkgghaaDoor

/-
  Plain mathematics: letters as bytes and back: what is UTF-8 is the bytes of a list of letters, each is read as it was written, a list of letters turned round has as many bytes, and which first letters fit into 100 bytes; for every list of letters.
-/
namespace Go.Proofs.YtnlpnbelkkgghaaDoor
open Go Go.Lib

end Go.Proofs.YtnlpnbelkkgghaaDoor

/-
  The contract of values.Length, for every value; utf8.ValidString's contract is a hypothesis here.
-/
namespace Go.Proofs.YtnlpnbelkkgghaaDoor
open Go.RowKit Go.Shelf
variable (V : ByteArray → Bool) (Tabs : World → Prop)

end Go.Proofs.YtnlpnbelkkgghaaDoor

/-
  The contract of values.Joined, for every two values; utf8.ValidString's contract is a hypothesis here.
-/
namespace Go.Proofs.YtnlpnbelkkgghaaDoor
open Go.RowKit Go.Shelf
variable (V : ByteArray → Bool) (Tabs : World → Prop)

end Go.Proofs.YtnlpnbelkkgghaaDoor

/-
  A value in a block of its own, carried from world to world; what the calls of values.Length and values.Joined say.
-/
namespace Go.Proofs.YtnlpnbelkkgghaaDoor
open Go.RowKit Go.Shelf
variable (Tabs : World → Prop)

end Go.Proofs.YtnlpnbelkkgghaaDoor

/-
  values.Length and values.Joined of texts, as letters; utf8.ValidString's contract is a hypothesis here.
-/
namespace Go.Proofs.YtnlpnbelkkgghaaDoor
open Go.RowKit Go.Shelf
variable (Tabs : World → Prop)

end Go.Proofs.YtnlpnbelkkgghaaDoor

/-
  The contract of values.Order, for every two values: what it tells, and that nothing old has turned; utf8.ValidString's and strings.Compare's contracts are hypotheses here.
-/
namespace Go.Proofs.YtnlpnbelkkgghaaDoor
open Go.RowKit
variable (V : ByteArray → Bool) (Tabs : World → Prop)
end Go.Proofs.YtnlpnbelkkgghaaDoor

/-
  Plain mathematics: expressions as trees, what Check, Sort and Eval say of them, and that what has a sort has a value of that sort (MILNER); for every tree.
-/
namespace Go.Proofs.YtnlpnbelkkgghaaDoor
open Go.RowKit

end Go.Proofs.YtnlpnbelkkgghaaDoor

/-
  The contracts of the shelf's functions, in plain words. Conditions: none.
-/
namespace Go.Proofs
open Go.Shelf
end Go.Proofs

/-
  The contracts of pieces.Leading and exprs.IsName, each for every input.
-/
namespace Go.Proofs.YtnlpnbelkkgghaaDoor
open Go.RowKit Go.Shelf

/-- how many such bytes stand first -/
def lead (p : UInt8 → Bool) : List UInt8 → Nat
  | [] => 0
  | c :: l => if p c then lead p l + 1 else 0
theorem lead_le (p : UInt8 → Bool) : ∀ l, lead p l ≤ l.length
  | [] => Nat.le_refl _
  | c :: l => by unfold lead; split <;> simp; exact lead_le p l
theorem lead_iff (p : UInt8 → Bool) : ∀ (l : List UInt8), lead p l = l.length ↔ l.all p = true
  | [] => by simp [lead]
  | c :: l => by
    have := lead_iff p l
    unfold lead
    cases hp : p c
    · simp [hp]
    · simp [hp, ← this]

/-- the letters a to z -/
def lows : ByteArray := ⟨#[97, 98, 99, 100, 101, 102, 103, 104, 105, 106, 107, 108, 109, 110, 111, 112, 113, 114, 115, 116, 117, 118, 119, 120, 121, 122]⟩
set_option maxRecDepth 100000 in
theorem lows_has (c : UInt8) : lows.data.toList.contains c = isLow c := by
  have h : ∀ n : Fin 256, lows.data.toList.contains (UInt8.ofNat n.val) = isLow (UInt8.ofNat n.val) := by decide
  have := h ⟨c.toNat, c.toNat_lt⟩
  rwa [show UInt8.ofNat c.toNat = c from UInt8.ofNat_toNat] at this
theorem trim_lead (cs : List UInt8) : ∀ l : List UInt8, Lib.trimLeftS l cs = l.drop (lead (fun c => cs.contains c) l)
  | [] => rfl
  | c :: l => by
    have ih := trim_lead cs l
    unfold Lib.trimLeftS at ih ⊢
    unfold lead
    rw [List.dropWhile_cons]
    cases h : cs.contains c
    · simp
    · simpa using ih
theorem lead_congr (p q : UInt8 → Bool) (h : ∀ c, p c = q c) (l : List UInt8) : lead p l = lead q l := by rw [show p = q from funext h]
theorem two_beq (s t : ByteArray) : (s.toList == t.toList) = decide (s = t) := by
  rw [Bool.eq_iff_iff, ByteArray.toList_eq, ByteArray.toList_eq]
  simp
  constructor
  · intro h; exact ByteArray.ext h
  · rintro rfl; rfl
theorem info256 : (Tryd.prog.info? (Tryd.lays161_ren.t 116)).map (fun i => (i.zero, i.size)) = some (some (.agg (Array.replicate 256 (.bool false))), 256) := by kernel_rfl

set_option maxHeartbeats 400000 in
theorem leading_any (s cs : ByteArray) (w : World) (hs : s.size ≤ 9223372036854775807) (hcs : cs.size < 4294967281) (ha : cs.data.toList.all (fun b => decide (b.toNat < 128)) = true) :
    Calls Tryd.prog 166 #[.string s, .string cs] w fun e w' => e = .returned (.string (s.extract 0 (lead (fun c => cs.data.toList.contains c) s.data.toList))) ∧ Below w.heap.size w w' := by
  have cT : Calls Tryd.prog 65 #[.string s, .string cs] w fun e w' => e = .returned (.string ⟨(Lib.trimLeftS s.data.toList cs.data.toList).toArray⟩) ∧ Below w.heap.size w w' := Any.strings_TrimLeft_laid Tryd.lays161 info256 s cs w hcs (ascii_of_all ha)
  have hle := lead_le (fun c => cs.data.toList.contains c) s.data.toList
  have hsz : (⟨(Lib.trimLeftS s.data.toList cs.data.toList).toArray⟩ : ByteArray).size = s.size - lead (fun c => cs.data.toList.contains c) s.data.toList := by
    rw [trim_lead]; show ((s.data.toList.drop _).toArray).size = _
    rw [List.size_toArray, List.length_drop, Array.length_toList]; rfl
  generalize lead (fun c => cs.data.toList.contains c) s.data.toList = k at hle hsz ⊢
  generalize (⟨(Lib.trimLeftS s.data.toList cs.data.toList).toArray⟩ : ByteArray) = t at cT hsz
  have hk : k ≤ s.size := by simpa using hle
  have htz : (t.size : Int) ≤ (s.size : Int) := by omega
  have hkz : (s.size : Int) - (t.size : Int) = (k : Int) := by omega
  clear hle hcs ha
  go_enter Tryd.func166, Tryd.ntmps166
  go_wp2_with fail
  refine cT.mono ?_
  rintro e w1 ⟨rfl, hb⟩
  go_wp2_with fail
  go_ret
  refine ⟨?_, hb⟩
  show Ending.returned (Value.string (s.extract 0 (s.size - (s.size - k)))) = _
  rw [show s.size - (s.size - k) = k by omega]

theorem isNm_no (l : List UInt8) (h : l = [116, 114, 117, 101] ∨ l = [102, 97, 108, 115, 101] ∨ l = [97, 110, 100] ∨ l = [111, 114] ∨ l = [110, 111, 116]) : isNm l = false := by unfold isNm; rw [if_pos h]
theorem isNm_yes (l : List UInt8) (h : ¬ (l = [116, 114, 117, 101] ∨ l = [102, 97, 108, 115, 101] ∨ l = [97, 110, 100] ∨ l = [111, 114] ∨ l = [110, 111, 116])) : isNm l = (decide (1 ≤ l.length ∧ l.length ≤ 8) && l.all isLow) := by unfold isNm; rw [if_neg h]
set_option maxHeartbeats 400000 in
theorem isName_any (s : ByteArray) (w : World) (hs : s.size ≤ 9223372036854775807) :
    Calls Tryd.prog 149 #[.string s] w fun e w' => e = .returned (.bool (isNm s.data.toList)) ∧ Below w.heap.size w w' := by
  have hlen : s.data.toList.length = s.size := by simp
  by_cases hkw : s.data.toList = [116, 114, 117, 101] ∨ s.data.toList = [102, 97, 108, 115, 101] ∨ s.data.toList = [97, 110, 100] ∨ s.data.toList = [111, 114] ∨ s.data.toList = [110, 111, 116]
  · rw [isNm_no _ hkw]
    clear hlen
    have e : ∀ l, s.data.toList = l → s = ⟨l.toArray⟩ := fun l h => ByteArray.ext (Array.toList_inj.1 (by simpa using h))
    rcases hkw with h | h | h | h | h
    all_goals
      have := e _ h
      subst this
      clear h e hs
      go_enter Tryd.func149, Tryd.ntmps149
      go_wp2_with fail
      go_ret
      exact ⟨rfl, Below.refl _ _⟩
  · rw [isNm_yes _ hkw, hlen]
    have b1 : (s.toList == [116, 114, 117, 101]) = false := by rw [beqL]; simp; exact fun h => hkw (.inl h)
    have b2 : (s.toList == [102, 97, 108, 115, 101]) = false := by rw [beqL]; simp; exact fun h => hkw (.inr (.inl h))
    have b3 : (s.toList == [97, 110, 100]) = false := by rw [beqL]; simp; exact fun h => hkw (.inr (.inr (.inl h)))
    have b4 : (s.toList == [111, 114]) = false := by rw [beqL]; simp; exact fun h => hkw (.inr (.inr (.inr (.inl h))))
    have b5 : (s.toList == [110, 111, 116]) = false := by rw [beqL]; simp; exact fun h => hkw (.inr (.inr (.inr (.inr h))))
    clear hkw
    by_cases h1 : 1 ≤ s.size
    · by_cases h2 : s.size ≤ 8
      · have z1 : (1 : Int) ≤ (s.size : Int) := by omega
        have z2 : (s.size : Int) ≤ 8 := by omega
        have cL := leading_any s lows w hs (by decide) (by decide)
        rw [lead_congr _ isLow lows_has] at cL
        have hle := lead_le isLow s.data.toList
        have hiff := lead_iff isLow s.data.toList
        rw [hlen] at hle hiff
        generalize s.data.toList.all isLow = g at hiff ⊢
        generalize lead isLow s.data.toList = k at cL hle hiff
        have hg : ((s.extract 0 k).toList == s.toList) = g := by
          rw [two_beq, Bool.eq_iff_iff, ← hiff, decide_eq_true_eq]
          constructor
          · intro h; have := congrArg ByteArray.size h; simp at this; omega
          · intro h; subst h; exact ByteArray.extract_zero_size
        generalize s.extract 0 k = t at cL hg
        clear hiff hlen hle
        rw [show (decide (1 ≤ s.size ∧ s.size ≤ 8) && g) = g by simp [h1, h2]]
        simp only [lows] at cL
        have HG : Hid ((t.toList == s.toList) = g) := hg
        clear hg
        go_enter Tryd.func149, Tryd.ntmps149
        go_wp2_with (go_at_call 166; refine cL.mono ?_; rintro e w1 ⟨rfl, hb⟩)
        go_ret
        exact ⟨by rw [← HG.out]; rfl, hb⟩
      · have z1 : (1 : Int) ≤ (s.size : Int) := by omega
        have z2 : ¬ (s.size : Int) ≤ 8 := by omega
        rw [show (decide (1 ≤ s.size ∧ s.size ≤ 8) && s.data.toList.all isLow) = false by simp [h2]]
        clear hlen
        go_enter Tryd.func149, Tryd.ntmps149
        go_wp2_with fail
        go_ret
        exact ⟨rfl, Below.refl _ _⟩
    · have z1 : ¬ (1 : Int) ≤ (s.size : Int) := by omega
      rw [show (decide (1 ≤ s.size ∧ s.size ≤ 8) && s.data.toList.all isLow) = false by simp [h1]]
      clear hlen
      go_enter Tryd.func149, Tryd.ntmps149
      go_wp2_with fail
      go_ret
      exact ⟨rfl, Below.refl _ _⟩
end Go.Proofs.YtnlpnbelkkgghaaDoor

/-
  The contract of exprs.isPart, for every expression.
-/
namespace Go.Proofs.YtnlpnbelkkgghaaDoor
open Go.RowKit

theorem empty_toList (s : ByteArray) : s.toList.isEmpty = decide (s = ⟨#[]⟩) := by
  rw [Bool.eq_iff_iff, ByteArray.toList_eq]
  simp
  constructor
  · intro h; exact ByteArray.ext h
  · rintro rfl; rfl

end Go.Proofs.YtnlpnbelkkgghaaDoor

/-
  The contracts of exprs.checkParts and exprs.Check, for every expression; utf8.ValidString's contract is a hypothesis here.
-/
namespace Go.Proofs.YtnlpnbelkkgghaaDoor
open Go.RowKit
variable (Tabs : World → Prop) (B0 : Nat)

/-- the count of parts lies in a block of its own -/
structure PC (W : World) (b : Nat) (c : Nat) : Prop where
  lt : b < W.heap.size
  cell : W.cell? ⟨b, 0, none⟩ = some (.int .i64 (c : Int))
  free : W.frozen? ⟨b, 0, none⟩ = false
theorem PC.keep {W W' : World} {b c : Nat} (h : PC W b c) {B : Nat} (hb : Below B W W') (hl : b < B) : PC W' b c :=
  ⟨Nat.lt_of_lt_of_le h.lt hb.size, (hb.cell (p := ⟨b, 0, none⟩) hl).trans h.cell, (hb.frozen (p := ⟨b, 0, none⟩) hl).trans h.free⟩
theorem PC.al {W : World} {b c : Nat} (h : PC W b c) (o : Obj) : PC (W.alloc o) b c := h.keep ((Below.refl _ _).alloc (Nat.le_refl _) o) h.lt
theorem PC.set {W : World} {b c : Nat} (h : PC W b c) (k : Nat) : PC (W.setCell ⟨b, 0, none⟩ (.int .i64 (k : Int))) b k := by
  refine ⟨by simpa using h.lt, ?_, ?_⟩
  · exact World.cell?_setCell_same _ _ _ h.cell
  · simpa using h.free

end Go.Proofs.YtnlpnbelkkgghaaDoor

/-
  The contracts of exprs.sortOfName, sortOfOperator and sortOf, for every right expression and every names and sorts.
-/
namespace Go.Proofs.YtnlpnbelkkgghaaDoor
open Go.RowKit

theorem ba_beq (s t : ByteArray) : (s.toList == t.toList) = decide (s = t) := by
  rw [Bool.eq_iff_iff]; simp
  exact ⟨fun h => ByteArray.ext (Array.toList_inj.1 (by rwa [ByteArray.toList_eq, ByteArray.toList_eq] at h)), fun h => by rw [h]⟩

end Go.Proofs.YtnlpnbelkkgghaaDoor

/-
  How a list of names and a list of sorts are read as data.
-/
namespace Go.Proofs.YtnlpnbelkkgghaaDoor
open Go.RowKit Go.Deep Go.Joins Go.ChangeShapes Go.WideShapes

section
variable {H : Type} {enc : TypeId × Value → H} {W : World} {base : Nat} {spare : Nat → Bool} {held : Bool}
/-- a list of one-cell values lies below block B -/
def NAt (W : World) (B : Nat) (vs : List Value) (an : Option Addr) : Prop := vs = [] ∨ ∃ b o, an = some ⟨b, o, none⟩ ∧ b < B ∧ ∀ i (h : i < vs.length), W.cell? ⟨b, o + i, none⟩ = some vs[i]
theorem cellsSt : Tryd.prog.cellsOf 9 = 1 := by kernel_rfl
end Go.Proofs.YtnlpnbelkkgghaaDoor
