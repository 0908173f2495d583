/-
  Plain: a value and an expression as data.
-/
import Derived.WalkKit
import Derived.Test.YtfmegfgmkeicnaaDoorProg
import Derived.Handy
import Derived.Deep.Slices
import Derived.Lib.SmallJoins
import Derived.OpenShut
import Derived.WalkSpells
import Derived.WalkLawsBesides
import Derived.Deep.QuietTactic
import Derived.BigQuiet
import Derived.Lib.Bytealg
import Derived.Test.YtfmegfgmkeicnaaDoorRows
namespace Go.Proofs.YtfmegfgmkeicnaaDoor

structure Vl where
  so : Int
  n : Int
  s : ByteArray
structure Ex where
  kind : Int
  name : ByteArray
  so : Int
  n : Int
  s : ByteArray
  kids : List Ex
end Go.Proofs.YtfmegfgmkeicnaaDoor
/-
  How an expression lies in memory, that it stays so where nothing old is turned, and that every expression that is handed in lies so.
-/
namespace Go.Proofs.YtfmegfgmkeicnaaDoor
open Go.RowKit Go.Deep Go.Joins Go.ChangeShapes Go.WideShapes

/-- the six cells of an expression -/
structure ExAt (W : World) (b o : Nat) (x : Ex) (ao : Option Addr) (cap : Nat) : Prop where
  c0 : W.cell? ⟨b, o, none⟩ = some (.int .i64 x.kind)
  c1 : W.cell? ⟨b, o + 1, none⟩ = some (.string x.name)
  c2 : W.cell? ⟨b, o + 2, none⟩ = some (.int .i64 x.so)
  c3 : W.cell? ⟨b, o + 3, none⟩ = some (.int .i64 x.n)
  c4 : W.cell? ⟨b, o + 4, none⟩ = some (.string x.s)
  c5 : W.cell? ⟨b, o + 5, none⟩ = some (.slice ao x.kids.length cap)
/-- what fits into a word -/
structure ExBd (x : Ex) (cap : Nat) : Prop where
  name : x.name.size ≤ 9223372036854775807
  s : x.s.size ≤ 9223372036854775807
  n0 : -9223372036854775808 ≤ x.n
  n1 : x.n ≤ 9223372036854775807
  kids : x.kids.length ≤ cap
  cap : cap ≤ 9223372036854775807

/-- a list of expressions, of so many levels at most, lies below block B -/
def KA (W : World) (B : Nat) : Nat → List Ex → Option Addr → Prop
  | 0, ks, _ => ks = []
  | d + 1, ks, ao => ks = [] ∨ ∃ b o, ao = some ⟨b, o, none⟩ ∧ b < B ∧ ∀ i (h : i < ks.length), ∃ ao' cap', ExAt W b (o + i * 6) ks[i] ao' cap' ∧ ExBd ks[i] cap' ∧ KA W B d ks[i].kids ao'

theorem ExAt.keep {W W' : World} {B b o : Nat} {x : Ex} {ao : Option Addr} {cap : Nat} (h : ExAt W b o x ao cap) (hb : Below B W W') (hl : b < B) : ExAt W' b o x ao cap :=
  ⟨(hb.cell (p := ⟨b, o, none⟩) hl).trans h.c0, (hb.cell (p := ⟨b, o + 1, none⟩) hl).trans h.c1, (hb.cell (p := ⟨b, o + 2, none⟩) hl).trans h.c2, (hb.cell (p := ⟨b, o + 3, none⟩) hl).trans h.c3, (hb.cell (p := ⟨b, o + 4, none⟩) hl).trans h.c4, (hb.cell (p := ⟨b, o + 5, none⟩) hl).trans h.c5⟩
theorem KA.keep {W W' : World} {B : Nat} (hb : Below B W W') : ∀ {d : Nat} {ks : List Ex} {ao : Option Addr}, KA W B d ks ao → KA W' B d ks ao
  | 0, _, _, h => h
  | d + 1, ks, ao, h => by
    rcases h with h | ⟨b, o, rfl, hl, h⟩
    · exact .inl h
    · exact .inr ⟨b, o, rfl, hl, fun i hi => by
        obtain ⟨ao', cap', h1, h2, h3⟩ := h i hi
        exact ⟨ao', cap', h1.keep hb hl, h2, KA.keep hb h3⟩⟩
theorem KA.mono {W : World} {B B' : Nat} (hB : B ≤ B') : ∀ {d : Nat} {ks : List Ex} {ao : Option Addr}, KA W B d ks ao → KA W B' d ks ao
  | 0, _, _, h => h
  | d + 1, ks, ao, h => by
    rcases h with h | ⟨b, o, rfl, hl, h⟩
    · exact .inl h
    · exact .inr ⟨b, o, rfl, by omega, fun i hi => by
        obtain ⟨ao', cap', h1, h2, h3⟩ := h i hi
        exact ⟨ao', cap', h1, h2, KA.mono hB h3⟩⟩
theorem KA.up {W : World} {B : Nat} : ∀ {d e : Nat} {ks : List Ex} {ao : Option Addr}, d ≤ e → KA W B d ks ao → KA W B e ks ao
  | 0, 0, _, _, _, h => h
  | 0, e + 1, _, _, _, h => .inl h
  | d + 1, 0, _, _, hd, _ => by omega
  | d + 1, e + 1, ks, ao, hd, h => by
    rcases h with h | ⟨b, o, rfl, hl, h⟩
    · exact .inl h
    · exact .inr ⟨b, o, rfl, hl, fun i hi => by
        obtain ⟨ao', cap', h1, h2, h3⟩ := h i hi
        exact ⟨ao', cap', h1, h2, KA.up (by omega) h3⟩⟩
theorem lt_of_cell {W : World} {b o : Nat} {v : Value} (h : W.cell? ⟨b, o, none⟩ = some v) : b < W.heap.size := by
  unfold World.cell? at h
  apply Classical.byContradiction
  intro hn
  have : W.heap[b]? = none := by simp; omega
  simp [this] at h
theorem KA.low {W : World} {B : Nat} : ∀ {d : Nat} {ks : List Ex} {ao : Option Addr}, KA W B d ks ao → KA W W.heap.size d ks ao
  | 0, _, _, h => h
  | d + 1, ks, ao, h => by
    rcases h with h | ⟨b, o, rfl, hl, h⟩
    · exact .inl h
    · by_cases hk : ks = []
      · exact .inl hk
      · have hp : 0 < ks.length := List.length_pos_iff.2 hk
        obtain ⟨_, _, h1, _, _⟩ := h 0 hp
        exact .inr ⟨b, o, rfl, lt_of_cell h1.c0, fun i hi => by
          obtain ⟨ao', cap', h1, h2, h3⟩ := h i hi
          exact ⟨ao', cap', h1, h2, KA.low h3⟩⟩

/-- an expression as a value -/
def exVal (x : Ex) (ao : Option Addr) (cap : Nat) : Value := .agg #[.int .i64 x.kind, .string x.name, .int .i64 x.so, .int .i64 x.n, .string x.s, .slice ao x.kids.length cap]

section
variable {H : Type} {enc : TypeId × Value → H} {W : World} {base : Nat} {spare : Nat → Bool} {held : Bool}
end
end Go.Proofs.YtfmegfgmkeicnaaDoor

/-
  Plain mathematics: the levels and sorts of operators, names, and what is reckoned with numbers of 64 bits.
-/
namespace Go.Proofs.YtfmegfgmkeicnaaDoor
open Go.RowKit

/-- the level of an operator of two -/
def lvl (l : List UInt8) : Int :=
  if l = [111, 114] then 1 else if l = [97, 110, 100] then 2 else if l = [61, 61] ∨ l = [60] ∨ l = [60, 61] then 3
  else if l = [43] ∨ l = [45] ∨ l = [43, 43] then 4 else if l = [42] ∨ l = [47] ∨ l = [37] then 5 else 0
def isOp (l : List UInt8) (k : Nat) : Bool :=
  if k = 1 then decide (l = [110, 111, 116] ∨ l = [110, 101, 103] ∨ l = [35]) else if k = 2 then decide (0 < lvl l) else false
def isLow (c : UInt8) : Bool := decide (97 ≤ c.toNat ∧ c.toNat ≤ 122)
def isNm (l : List UInt8) : Bool :=
  if l = [116, 114, 117, 101] ∨ l = [102, 97, 108, 115, 101] ∨ l = [97, 110, 100] ∨ l = [111, 114] ∨ l = [110, 111, 116] then false
  else decide (1 ≤ l.length ∧ l.length ≤ 8) && l.all isLow
/-- the sort of what an operator is of, and its own -/
def opS (l : List UInt8) : Int × Int :=
  if l = [111, 114] ∨ l = [97, 110, 100] ∨ l = [110, 111, 116] then (2, 2)
  else if l = [61, 61] ∨ l = [60] ∨ l = [60, 61] then (0, 2)
  else if l = [43, 43] then (3, 3)
  else if l = [35] then (3, 1)
  else (1, 1)
def isCmp (l : List UInt8) : Bool := decide (lvl l = 3)
def w64 (z : Int) : Int := wrap64 z
def quoZ (a b : Int) : Int := if b = 0 then 0 else w64 (a.tdiv b)
def numZ (l : List UInt8) (a b : Int) : Int :=
  if l = [43] then w64 (a + b) else if l = [45] then w64 (a - b) else if l = [42] then w64 (a * b) else if l = [47] then quoZ a b else w64 (a - w64 (quoZ a b * b))
end Go.Proofs.YtfmegfgmkeicnaaDoor

/-
  The contracts of exprs.level, isOperator, isComparison, operatorSorts, truth, number, quotient and reckonNumbers, each for every input.
-/
namespace Go.Proofs.YtfmegfgmkeicnaaDoor
open Go.RowKit

theorem beqL (s : ByteArray) (l : List UInt8) : (s.toList == l) = decide (s.data.toList = l) := by
  rw [ByteArray.toList_eq, Bool.eq_iff_iff]; simp

end Go.Proofs.YtfmegfgmkeicnaaDoor

/-
  Plain mathematics, no program: the comparison of integers, of lists of bytes, and of pairs one behind the other are each one of all values (opposite one way round and the other, 0 just for the same, and it goes on from one to the next), for every argument.
-/
namespace Go.Proofs.YtfmegfgmkeicnaaDoor
open Go

def cmpZ (a b : Int) : Int := if a < b then -1 else if b < a then 1 else 0
def firstNZ : List Int → Int
  | [] => 0
  | x :: r => if x = 0 then firstNZ r else x

/-- a comparison that is one of all values -/
structure GoodCmp {T : Type} (c : T → T → Int) : Prop where
  rng : ∀ a b, c a b = -1 ∨ c a b = 0 ∨ c a b = 1
  opp : ∀ a b, c a b = - c b a
  eq0 : ∀ a b, c a b = 0 ↔ a = b
  tr : ∀ a b d, c a b ≤ 0 → c b d ≤ 0 → c a d = min (c a b) (c b d)

theorem good_cmpZ : GoodCmp cmpZ where
  rng a b := by unfold cmpZ; repeat' split
                all_goals omega
  opp a b := by unfold cmpZ; repeat' split
                all_goals omega
  eq0 a b := by unfold cmpZ; repeat' split
                all_goals omega
  tr a b d h1 h2 := by
    unfold cmpZ at *
    repeat' split at h1
    all_goals (repeat' split at h2)
    all_goals (repeat' split)
    all_goals omega

theorem cb_rng : ∀ a b, Lib.compareBytes a b = -1 ∨ Lib.compareBytes a b = 0 ∨ Lib.compareBytes a b = 1
  | [], [] => by simp [Lib.compareBytes]
  | [], _ :: _ => by simp [Lib.compareBytes]
  | _ :: _, [] => by simp [Lib.compareBytes]
  | a :: aas, b :: bs => by
    unfold Lib.compareBytes
    have := cb_rng aas bs
    split
    · omega
    · split
      · omega
      · exact this

theorem u8_lt_or (a b : UInt8) : a < b ∨ a = b ∨ b < a := by
  rcases Nat.lt_trichotomy a.toNat b.toNat with h | h | h
  · exact .inl (UInt8.lt_iff_toNat_lt.2 h)
  · exact .inr (.inl (UInt8.toNat_inj.1 h))
  · exact .inr (.inr (UInt8.lt_iff_toNat_lt.2 h))
theorem u8_irr (a : UInt8) : ¬ a < a := by simp
theorem u8_asym {a b : UInt8} (h : a < b) : ¬ b < a := by simp only [UInt8.lt_iff_toNat_lt] at *; omega
theorem u8_trans {a b c : UInt8} (h : a < b) (h' : b < c) : a < c := by simp only [UInt8.lt_iff_toNat_lt] at *; omega

theorem cb_opp : ∀ a b, Lib.compareBytes a b = - Lib.compareBytes b a
  | [], [] => by simp [Lib.compareBytes]
  | [], _ :: _ => by simp [Lib.compareBytes]
  | _ :: _, [] => by simp [Lib.compareBytes]
  | a :: aas, b :: bs => by
    unfold Lib.compareBytes
    have ih := cb_opp aas bs
    rcases u8_lt_or a b with h | h | h
    · simp [h, u8_asym h]
    · subst h; simp [ih]
    · simp [h, u8_asym h]

theorem cb_eq0 : ∀ a b, Lib.compareBytes a b = 0 ↔ a = b
  | [], [] => by simp [Lib.compareBytes]
  | [], _ :: _ => by simp [Lib.compareBytes]
  | _ :: _, [] => by simp [Lib.compareBytes]
  | a :: aas, b :: bs => by
    unfold Lib.compareBytes
    have ih := cb_eq0 aas bs
    rcases u8_lt_or a b with h | h | h
    · have : a ≠ b := fun e => by subst e; exact u8_irr a h
      simp [h, this]
    · subst h; simp [ih]
    · have : a ≠ b := fun e => by subst e; exact u8_irr a h
      simp [h, u8_asym h, this]

theorem cb_tr : ∀ a b d, Lib.compareBytes a b ≤ 0 → Lib.compareBytes b d ≤ 0 → Lib.compareBytes a d = min (Lib.compareBytes a b) (Lib.compareBytes b d)
  | [], [], [], _, _ => by simp [Lib.compareBytes]
  | [], [], _ :: _, _, _ => by simp [Lib.compareBytes]; omega
  | [], _ :: _, [], _, h => by simp [Lib.compareBytes] at h
  | _ :: _, [], _, h, _ => by simp [Lib.compareBytes] at h
  | _ :: _, _ :: _, [], _, h => by simp [Lib.compareBytes] at h
  | [], b :: bs, d :: ds, _, h => by
    have := cb_rng (b :: bs) (d :: ds)
    have e1 : Lib.compareBytes [] (d :: ds) = -1 := by simp [Lib.compareBytes]
    have e2 : Lib.compareBytes [] (b :: bs) = -1 := by simp [Lib.compareBytes]
    rw [e1, e2]; omega
  | a :: aas, b :: bs, d :: ds, h1, h2 => by
    have ih := cb_tr aas bs ds
    have r1 := cb_rng aas bs
    have r2 := cb_rng bs ds
    unfold Lib.compareBytes at h1 h2 ⊢
    rcases u8_lt_or a b with h | h | h
    · rcases u8_lt_or b d with g | g | g
      · simp [h, g, u8_trans h g]
      · subst g; simp [h] at h2 ⊢; omega
      · simp [g, u8_asym g] at h2
    · subst h
      rcases u8_lt_or a d with g | g | g
      · simp [g] at h1 ⊢; omega
      · subst g; simp at h1 h2 ⊢; exact ih h1 h2
      · simp [g, u8_asym g] at h2
    · simp [h, u8_asym h] at h1

theorem good_cb : GoodCmp Lib.compareBytes := ⟨cb_rng, cb_opp, cb_eq0, cb_tr⟩

theorem good_pair {S T : Type} {c : S → S → Int} {d : T → T → Int} (hc : GoodCmp c) (hd : GoodCmp d) : GoodCmp (fun (a b : S × T) => firstNZ [c a.1 b.1, d a.2 b.2]) where
  rng a b := by
    have := hc.rng a.1 b.1; have := hd.rng a.2 b.2
    simp only [firstNZ]; repeat' split
    all_goals omega
  opp a b := by
    have := hc.opp a.1 b.1; have := hd.opp a.2 b.2
    simp only [firstNZ]; repeat' split
    all_goals omega
  eq0 a b := by
    have h1 := hc.eq0 a.1 b.1; have h2 := hd.eq0 a.2 b.2
    simp only [firstNZ]
    rw [Prod.ext_iff, ← h1, ← h2]
    repeat' split
    all_goals omega
  tr a b e g1 g2 := by
    have r1 := hc.rng a.1 b.1; have r2 := hd.rng a.2 b.2
    have r3 := hc.rng b.1 e.1; have r4 := hd.rng b.2 e.2
    have t1 := hc.tr a.1 b.1 e.1; have t2 := hd.tr a.2 b.2 e.2
    simp only [firstNZ] at *
    repeat' split at g1
    all_goals (repeat' split at g2)
    all_goals (repeat' split)
    all_goals (have := t1 (by omega) (by omega); try (have := t2 (by omega) (by omega)))
    all_goals omega
end Go.Proofs.YtfmegfgmkeicnaaDoor

/-
  The contracts of the small functions on the road of values.Order: argUnless, checkText, Check, checkAll (of two values), cmp.Compare, cmp.Or, each for every input; utf8.ValidString's is a hypothesis here.
-/
namespace Go.Proofs.YtfmegfgmkeicnaaDoor
open Go.RowKit
def argZ (b : Bool) : Int := if b then 0 else 1
def textZ (V : ByteArray → Bool) (n : Int) (s : ByteArray) : Int := if n ≠ 0 then 1 else if 100 < s.size then 2 else argZ (V s)

variable (V : ByteArray → Bool) (Tabs : World → Prop)
/-- values.Check, over what a Value holds. -/
def chkZ (V : ByteArray → Bool) (so n : Int) (s : ByteArray) : Int :=
  if so = 1 then argZ s.toList.isEmpty
  else if so = 2 then argZ (s.toList.isEmpty && (n == 0 || n == 1))
  else if so = 3 then textZ V n s
  else 1

theorem bcell {W w1 : World} (hb : Below W.heap.size W w1) : (∀ b o, b < W.heap.size → w1.cell? ⟨b, o, none⟩ = W.cell? ⟨b, o, none⟩) ∧ (∀ b o, b < W.heap.size → w1.frozen? ⟨b, o, none⟩ = W.frozen? ⟨b, o, none⟩) :=
  ⟨fun b o h => hb.cell (p := ⟨b, o, none⟩) h, fun b o h => hb.frozen (p := ⟨b, o, none⟩) h⟩

end Go.Proofs.YtfmegfgmkeicnaaDoor

/-
  The contracts of values.checkAll (of one value) and values.needTexts (of one, of two), for every value; utf8.ValidString's contract is a hypothesis here.
-/
namespace Go.Proofs.YtfmegfgmkeicnaaDoor
open Go.RowKit
variable (V : ByteArray → Bool) (Tabs : World → Prop)

/-- what values.needTexts says of one value -/
def needZ1 (V : ByteArray → Bool) (so n : Int) (s : ByteArray) : Int := if chkZ V so n s = 0 then (if so = 3 then 0 else 5) else chkZ V so n s
/-- .. of two -/
def needZ2 (V : ByteArray → Bool) (so n : Int) (s : ByteArray) (so' n' : Int) (s' : ByteArray) : Int :=
  if firstNZ [chkZ V so n s, chkZ V so' n' s'] = 0 then (if so = 3 then (if so' = 3 then 0 else 5) else 5) else firstNZ [chkZ V so n s, chkZ V so' n' s']

end Go.Proofs.YtfmegfgmkeicnaaDoor
