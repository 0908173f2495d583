/-
  Plain mathematics, no program: the comparison of integers, of lists of bytes, and of pairs one behind the other are each one of all values (opposite one way round and the other, 0 just for the same, and it goes on from one to the next), for every argument.
-/
import Derived.Lib.Bytealg
import Derived.Test.YtefdekfgmbgbbaaDoorRows
import Derived.WalkKit
import Derived.WalkSpells
import Derived.WalkLawsBesides
import Derived.Deep.QuietTactic
import Derived.BigQuiet
import Derived.Handy
namespace Go.Proofs.YtefdekfgmbgbbaaDoor
open Go

def cmpZ (a b : Int) : Int := if a < b then -1 else if b < a then 1 else 0
def firstNZ : List Int → Int
  | [] => 0
  | x :: r => if x = 0 then firstNZ r else x

/-- a comparison that is one of all values -/
structure GoodCmp {T : Type} (c : T → T → Int) : Prop where
  rng : ∀ a b, c a b = -1 ∨ c a b = 0 ∨ c a b = 1
  opp : ∀ a b, c a b = - c b a
  eq0 : ∀ a b, c a b = 0 ↔ a = b
  tr : ∀ a b d, c a b ≤ 0 → c b d ≤ 0 → c a d = min (c a b) (c b d)

theorem good_cmpZ : GoodCmp cmpZ where
  rng a b := by unfold cmpZ; repeat' split
                all_goals omega
  opp a b := by unfold cmpZ; repeat' split
                all_goals omega
  eq0 a b := by unfold cmpZ; repeat' split
                all_goals omega
  tr a b d h1 h2 := by
    unfold cmpZ at *
    repeat' split at h1
    all_goals (repeat' split at h2)
    all_goals (repeat' split)
    all_goals omega

theorem cb_rng : ∀ a b, Lib.compareBytes a b = -1 ∨ Lib.compareBytes a b = 0 ∨ Lib.compareBytes a b = 1
  | [], [] => by simp [Lib.compareBytes]
  | [], _ :: _ => by simp [Lib.compareBytes]
  | _ :: _, [] => by simp [Lib.compareBytes]
  | a :: aas, b :: bs => by
    unfold Lib.compareBytes
    have := cb_rng aas bs
    split
    · omega
    · split
      · omega
      · exact this

theorem u8_lt_or (a b : UInt8) : a < b ∨ a = b ∨ b < a := by
  rcases Nat.lt_trichotomy a.toNat b.toNat with h | h | h
  · exact .inl (UInt8.lt_iff_toNat_lt.2 h)
  · exact .inr (.inl (UInt8.toNat_inj.1 h))
  · exact .inr (.inr (UInt8.lt_iff_toNat_lt.2 h))
theorem u8_irr (a : UInt8) : ¬ a < a := by simp
theorem u8_asym {a b : UInt8} (h : a < b) : ¬ b < a := by simp only [UInt8.lt_iff_toNat_lt] at *; omega
theorem u8_trans {a b c : UInt8} (h : a < b) (h' : b < c) : a < c := by simp only [UInt8.lt_iff_toNat_lt] at *; omega

theorem cb_opp : ∀ a b, Lib.compareBytes a b = - Lib.compareBytes b a
  | [], [] => by simp [Lib.compareBytes]
  | [], _ :: _ => by simp [Lib.compareBytes]
  | _ :: _, [] => by simp [Lib.compareBytes]
  | a :: aas, b :: bs => by
    unfold Lib.compareBytes
    have ih := cb_opp aas bs
    rcases u8_lt_or a b with h | h | h
    · simp [h, u8_asym h]
    · subst h; simp [ih]
    · simp [h, u8_asym h]

theorem cb_eq0 : ∀ a b, Lib.compareBytes a b = 0 ↔ a = b
  | [], [] => by simp [Lib.compareBytes]
  | [], _ :: _ => by simp [Lib.compareBytes]
  | _ :: _, [] => by simp [Lib.compareBytes]
  | a :: aas, b :: bs => by
    unfold Lib.compareBytes
    have ih := cb_eq0 aas bs
    rcases u8_lt_or a b with h | h | h
    · have : a ≠ b := fun e => by subst e; exact u8_irr a h
      simp [h, this]
    · subst h; simp [ih]
    · have : a ≠ b := fun e => by subst e; exact u8_irr a h
      simp [h, u8_asym h, this]

theorem cb_tr : ∀ a b d, Lib.compareBytes a b ≤ 0 → Lib.compareBytes b d ≤ 0 → Lib.compareBytes a d = min (Lib.compareBytes a b) (Lib.compareBytes b d)
  | [], [], [], _, _ => by simp [Lib.compareBytes]
  | [], [], _ :: _, _, _ => by simp [Lib.compareBytes]; omega
  | [], _ :: _, [], _, h => by simp [Lib.compareBytes] at h
  | _ :: _, [], _, h, _ => by simp [Lib.compareBytes] at h
  | _ :: _, _ :: _, [], _, h => by simp [Lib.compareBytes] at h
  | [], b :: bs, d :: ds, _, h => by
    have := cb_rng (b :: bs) (d :: ds)
    have e1 : Lib.compareBytes [] (d :: ds) = -1 := by simp [Lib.compareBytes]
    have e2 : Lib.compareBytes [] (b :: bs) = -1 := by simp [Lib.compareBytes]
    rw [e1, e2]; omega
  | a :: aas, b :: bs, d :: ds, h1, h2 => by
    have ih := cb_tr aas bs ds
    have r1 := cb_rng aas bs
    have r2 := cb_rng bs ds
    unfold Lib.compareBytes at h1 h2 ⊢
    rcases u8_lt_or a b with h | h | h
    · rcases u8_lt_or b d with g | g | g
      · simp [h, g, u8_trans h g]
      · subst g; simp [h] at h2 ⊢; omega
      · simp [g, u8_asym g] at h2
    · subst h
      rcases u8_lt_or a d with g | g | g
      · simp [g] at h1 ⊢; omega
      · subst g; simp at h1 h2 ⊢; exact ih h1 h2
      · simp [g, u8_asym g] at h2
    · simp [h, u8_asym h] at h1

theorem good_cb : GoodCmp Lib.compareBytes := ⟨cb_rng, cb_opp, cb_eq0, cb_tr⟩

theorem good_pair {S T : Type} {c : S → S → Int} {d : T → T → Int} (hc : GoodCmp c) (hd : GoodCmp d) : GoodCmp (fun (a b : S × T) => firstNZ [c a.1 b.1, d a.2 b.2]) where
  rng a b := by
    have := hc.rng a.1 b.1; have := hd.rng a.2 b.2
    simp only [firstNZ]; repeat' split
    all_goals omega
  opp a b := by
    have := hc.opp a.1 b.1; have := hd.opp a.2 b.2
    simp only [firstNZ]; repeat' split
    all_goals omega
  eq0 a b := by
    have h1 := hc.eq0 a.1 b.1; have h2 := hd.eq0 a.2 b.2
    simp only [firstNZ]
    rw [Prod.ext_iff, ← h1, ← h2]
    repeat' split
    all_goals omega
  tr a b e g1 g2 := by
    have r1 := hc.rng a.1 b.1; have r2 := hd.rng a.2 b.2
    have r3 := hc.rng b.1 e.1; have r4 := hd.rng b.2 e.2
    have t1 := hc.tr a.1 b.1 e.1; have t2 := hd.tr a.2 b.2 e.2
    simp only [firstNZ] at *
    repeat' split at g1
    all_goals (repeat' split at g2)
    all_goals (repeat' split)
    all_goals (have := t1 (by omega) (by omega); try (have := t2 (by omega) (by omega)))
    all_goals omega
end Go.Proofs.YtefdekfgmbgbbaaDoor
/-
  The contracts of the small functions on the road of values.Order: argUnless, checkText, Check, checkAll (of two values), cmp.Compare, cmp.Or, each for every input; utf8.ValidString's is a hypothesis here.
-/
namespace Go.Proofs.YtefdekfgmbgbbaaDoor
open Go.RowKit
def argZ (b : Bool) : Int := if b then 0 else 1
def textZ (V : ByteArray → Bool) (n : Int) (s : ByteArray) : Int := if n ≠ 0 then 1 else if 100 < s.size then 2 else argZ (V s)

variable (V : ByteArray → Bool) (Tabs : World → Prop)
/-- values.Check, over what a Value holds. -/
def chkZ (V : ByteArray → Bool) (so n : Int) (s : ByteArray) : Int :=
  if so = 1 then argZ s.toList.isEmpty
  else if so = 2 then argZ (s.toList.isEmpty && (n == 0 || n == 1))
  else if so = 3 then textZ V n s
  else 1

theorem bcell {W w1 : World} (hb : Below W.heap.size W w1) : (∀ b o, b < W.heap.size → w1.cell? ⟨b, o, none⟩ = W.cell? ⟨b, o, none⟩) ∧ (∀ b o, b < W.heap.size → w1.frozen? ⟨b, o, none⟩ = W.frozen? ⟨b, o, none⟩) :=
  ⟨fun b o h => hb.cell (p := ⟨b, o, none⟩) h, fun b o h => hb.frozen (p := ⟨b, o, none⟩) h⟩

end Go.Proofs.YtefdekfgmbgbbaaDoor

/-
  The contracts of values.checkAll (of one value) and values.needTexts (of one, of two), for every value; utf8.ValidString's contract is a hypothesis here.
-/
namespace Go.Proofs.YtefdekfgmbgbbaaDoor
open Go.RowKit
variable (V : ByteArray → Bool) (Tabs : World → Prop)

/-- what values.needTexts says of one value -/
def needZ1 (V : ByteArray → Bool) (so n : Int) (s : ByteArray) : Int := if chkZ V so n s = 0 then (if so = 3 then 0 else 5) else chkZ V so n s
/-- .. of two -/
def needZ2 (V : ByteArray → Bool) (so n : Int) (s : ByteArray) (so' n' : Int) (s' : ByteArray) : Int :=
  if firstNZ [chkZ V so n s, chkZ V so' n' s'] = 0 then (if so = 3 then (if so' = 3 then 0 else 5) else 5) else firstNZ [chkZ V so n s, chkZ V so' n' s']

end Go.Proofs.YtefdekfgmbgbbaaDoor
