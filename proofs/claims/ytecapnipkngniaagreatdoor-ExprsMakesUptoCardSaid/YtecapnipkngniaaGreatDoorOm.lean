/-
  Plain mathematics: the levels and sorts of operators, names, and what is reckoned with numbers of 64 bits.
-/
import Derived.WalkKit
import Derived.Test.YtecapnipkngniaaGreatDoorProg
import Derived.WalkSpells
import Derived.WalkLawsBesides
import Derived.Deep.QuietTactic
import Derived.BigQuiet
import Derived.Handy
import Derived.Lib.Bytealg
namespace Go.Proofs.YtecapnipkngniaaGreatDoor
open Go.RowKit

/-- the level of an operator of two -/
def lvl (l : List UInt8) : Int :=
  if l = [111, 114] then 1 else if l = [97, 110, 100] then 2 else if l = [61, 61] ∨ l = [60] ∨ l = [60, 61] then 3
  else if l = [43] ∨ l = [45] ∨ l = [43, 43] then 4 else if l = [42] ∨ l = [47] ∨ l = [37] then 5 else 0
def isOp (l : List UInt8) (k : Nat) : Bool :=
  if k = 1 then decide (l = [110, 111, 116] ∨ l = [110, 101, 103] ∨ l = [35]) else if k = 2 then decide (0 < lvl l) else false
def isLow (c : UInt8) : Bool := decide (97 ≤ c.toNat ∧ c.toNat ≤ 122)
def isNm (l : List UInt8) : Bool :=
  if l = [116, 114, 117, 101] ∨ l = [102, 97, 108, 115, 101] ∨ l = [97, 110, 100] ∨ l = [111, 114] ∨ l = [110, 111, 116] then false
  else decide (1 ≤ l.length ∧ l.length ≤ 8) && l.all isLow
/-- the sort of what an operator is of, and its own -/
def opS (l : List UInt8) : Int × Int :=
  if l = [111, 114] ∨ l = [97, 110, 100] ∨ l = [110, 111, 116] then (2, 2)
  else if l = [61, 61] ∨ l = [60] ∨ l = [60, 61] then (0, 2)
  else if l = [43, 43] then (3, 3)
  else if l = [35] then (3, 1)
  else (1, 1)
def isCmp (l : List UInt8) : Bool := decide (lvl l = 3)
def w64 (z : Int) : Int := wrap64 z
def quoZ (a b : Int) : Int := if b = 0 then 0 else w64 (a.tdiv b)
def numZ (l : List UInt8) (a b : Int) : Int :=
  if l = [43] then w64 (a + b) else if l = [45] then w64 (a - b) else if l = [42] then w64 (a * b) else if l = [47] then quoZ a b else w64 (a - w64 (quoZ a b * b))
end Go.Proofs.YtecapnipkngniaaGreatDoor
/-
  The contracts of exprs.level, isOperator, isComparison, operatorSorts, truth, number, quotient and reckonNumbers, each for every input.
-/
namespace Go.Proofs.YtecapnipkngniaaGreatDoor
open Go.RowKit

theorem beqL (s : ByteArray) (l : List UInt8) : (s.toList == l) = decide (s.data.toList = l) := by
  rw [ByteArray.toList_eq, Bool.eq_iff_iff]; simp

set_option maxHeartbeats 400000 in
theorem level_any (op : ByteArray) (w : World) :
    Calls Tryz.prog 104 #[.string op] w fun e w' => e = .returned (.int .i64 (lvl op.data.toList)) ∧ w' = w := by
  go_enter Tryz.func104, Tryz.ntmps104
  go_wp2
  all_goals
    first
      | (exfalso; simp_all; done)
      | (go_ret; refine ⟨?_, rfl⟩; rw [← ByteArray.toList_eq]; simp_all [lvl]; done)

set_option maxHeartbeats 400000 in
theorem isComparison_any (op : ByteArray) (w : World) :
    Calls Tryz.prog 70 #[.string op] w fun e w' => e = .returned (.bool (isCmp op.data.toList)) ∧ w' = w := by
  have c1 := level_any op w
  have c2 := level_any ⟨#[61, 61]⟩ w
  unfold isCmp
  generalize lvl op.data.toList = z at c1 ⊢
  rw [show lvl (ByteArray.mk #[61, 61]).data.toList = 3 from by decide] at c2
  go_enter Tryz.func70, Tryz.ntmps70
  go_wp2_with fail
  refine c1.mono ?_
  rintro e w1 ⟨rfl, rfl⟩
  go_wp2_with fail
  refine c2.mono ?_
  rintro e w2 ⟨rfl, rfl⟩
  go_wp2_with fail
  go_ret
  exact ⟨by congr 1, rfl⟩

set_option maxHeartbeats 400000 in
theorem isOperator_any (op : ByteArray) (k : Nat) (w : World) :
    Calls Tryz.prog 102 #[.string op, .int .i64 (k : Int)] w fun e w' => e = .returned (.bool (isOp op.data.toList k)) ∧ w' = w := by
  have c1 := level_any op w
  by_cases h1 : k = 1
  · subst h1
    clear c1
    have e1 : isOp op.data.toList 1 = (op.toList == [110, 111, 116] || op.toList == [110, 101, 103] || op.toList == [35]) := by
      simp only [beqL]; unfold isOp; rw [if_pos rfl, Bool.eq_iff_iff]; simp [or_assoc]
    rw [e1]
    clear e1
    cases hA : op.toList == [110, 111, 116] <;> cases hB : op.toList == [110, 101, 103] <;> cases hC : op.toList == [35]
    all_goals
      go_enter Tryz.func102, Tryz.ntmps102
      go_wp2_with fail
      go_ret
      exact ⟨rfl, rfl⟩
  · by_cases h2 : k = 2
    · subst h2
      have e1 : isOp op.data.toList 2 = decide (0 < lvl op.data.toList) := by unfold isOp; rw [if_neg (by omega), if_pos rfl]
      rw [e1]
      generalize lvl op.data.toList = z at c1 ⊢
      go_enter Tryz.func102, Tryz.ntmps102
      go_wp2_with (go_at_call 104; refine c1.mono ?_; rintro e w1 ⟨rfl, rfl⟩)
      go_ret
      exact ⟨by simp, rfl⟩
    · have e1 : isOp op.data.toList k = false := by unfold isOp; rw [if_neg h1, if_neg h2]
      have b1 : ((k : Int) == 1) = false := by simp; omega
      have b2 : ((k : Int) == 2) = false := by simp; omega
      rw [e1]
      clear c1 e1
      go_enter Tryz.func102, Tryz.ntmps102
      go_wp2_with fail
      go_ret
      exact ⟨rfl, rfl⟩

set_option maxHeartbeats 400000 in
theorem operatorSorts_any (op : ByteArray) (w : World) :
    Calls Tryz.prog 69 #[.string op] w fun e w' => e = .returned (.tuple #[.int .i64 (opS op.data.toList).1, .int .i64 (opS op.data.toList).2]) ∧ w' = w := by
  go_enter Tryz.func69, Tryz.ntmps69
  go_wp2
  all_goals
    first
      | (exfalso; simp_all; done)
      | (go_ret2; refine ⟨?_, rfl⟩; rw [← ByteArray.toList_eq]; simp_all [opS]; done)

set_option maxHeartbeats 400000 in
theorem truth_any (b : Bool) (w : World) :
    Calls Tryz.prog 71 #[.bool b] w fun e w' => e = .returned (.agg #[.int .i64 2, .int .i64 (if b then 1 else 0), .string ⟨#[]⟩]) ∧ Below w.heap.size w w' := by
  cases b
  all_goals
    go_enter Tryz.func71, Tryz.ntmps71
    go_wp2
  · exact bodyPost_ret (v := .agg #[.int .i64 2, .int .i64 0, .string ⟨#[]⟩]) (by simp [results, Tryz.results71, go_sem]) rfl ⟨rfl, by go_grown⟩
  · exact bodyPost_ret (v := .agg #[.int .i64 2, .int .i64 1, .string ⟨#[]⟩]) (by simp [results, Tryz.results71, go_sem]) rfl ⟨rfl, by go_grown⟩

set_option maxHeartbeats 400000 in
theorem number_any (n : Int) (w : World) :
    Calls Tryz.prog 72 #[.int .i64 n] w fun e w' => e = .returned (.agg #[.int .i64 1, .int .i64 n, .string ⟨#[]⟩]) ∧ Below w.heap.size w w' := by
  go_enter Tryz.func72, Tryz.ntmps72
  go_wp2
  exact bodyPost_ret (v := .agg #[.int .i64 1, .int .i64 n, .string ⟨#[]⟩]) (by simp [results, Tryz.results72, go_sem]) rfl ⟨rfl, by go_grown⟩

set_option maxHeartbeats 400000 in
theorem quotient_any (a b : Int) (w : World) :
    Calls Tryz.prog 111 #[.int .i64 a, .int .i64 b] w fun e w' => e = .returned (.int .i64 (quoZ a b)) ∧ w' = w := by
  by_cases hb : b = 0
  · subst hb
    go_enter Tryz.func111, Tryz.ntmps111
    go_wp2
    go_ret
    exact ⟨rfl, rfl⟩
  · have hbb : (b == 0) = false := by simpa using hb
    go_enter Tryz.func111, Tryz.ntmps111
    go_wp2
    go_ret
    refine ⟨?_, rfl⟩
    unfold quoZ; rw [if_neg hb]; rfl

set_option maxHeartbeats 400000 in
theorem reckonNumbers_any (op : ByteArray) (a b : Int) (w : World) :
    Calls Tryz.prog 76 #[.string op, .int .i64 a, .int .i64 b] w fun e w' => e = .returned (.int .i64 (numZ op.data.toList a b)) ∧ w' = w := by
  have cq := quotient_any a b
  go_enter Tryz.func76, Tryz.ntmps76
  go_wp2_with (go_at_call 111; refine (cq _).mono ?_; rintro e w1 ⟨rfl, rfl⟩)
  all_goals
    first
      | (exfalso; simp_all; done)
      | (go_ret; refine ⟨?_, rfl⟩; unfold numZ; rw [← ByteArray.toList_eq]; simp_all [w64]; done)
end Go.Proofs.YtecapnipkngniaaGreatDoor

/-
  Plain mathematics, no program: the comparison of integers, of lists of bytes, and of pairs one behind the other are each one of all values (opposite one way round and the other, 0 just for the same, and it goes on from one to the next), for every argument.
-/
namespace Go.Proofs.YtecapnipkngniaaGreatDoor
open Go

def cmpZ (a b : Int) : Int := if a < b then -1 else if b < a then 1 else 0
def firstNZ : List Int → Int
  | [] => 0
  | x :: r => if x = 0 then firstNZ r else x

/-- a comparison that is one of all values -/
structure GoodCmp {T : Type} (c : T → T → Int) : Prop where
  rng : ∀ a b, c a b = -1 ∨ c a b = 0 ∨ c a b = 1
  opp : ∀ a b, c a b = - c b a
  eq0 : ∀ a b, c a b = 0 ↔ a = b
  tr : ∀ a b d, c a b ≤ 0 → c b d ≤ 0 → c a d = min (c a b) (c b d)

theorem good_cmpZ : GoodCmp cmpZ where
  rng a b := by unfold cmpZ; repeat' split
                all_goals omega
  opp a b := by unfold cmpZ; repeat' split
                all_goals omega
  eq0 a b := by unfold cmpZ; repeat' split
                all_goals omega
  tr a b d h1 h2 := by
    unfold cmpZ at *
    repeat' split at h1
    all_goals (repeat' split at h2)
    all_goals (repeat' split)
    all_goals omega

theorem cb_rng : ∀ a b, Lib.compareBytes a b = -1 ∨ Lib.compareBytes a b = 0 ∨ Lib.compareBytes a b = 1
  | [], [] => by simp [Lib.compareBytes]
  | [], _ :: _ => by simp [Lib.compareBytes]
  | _ :: _, [] => by simp [Lib.compareBytes]
  | a :: aas, b :: bs => by
    unfold Lib.compareBytes
    have := cb_rng aas bs
    split
    · omega
    · split
      · omega
      · exact this

theorem u8_lt_or (a b : UInt8) : a < b ∨ a = b ∨ b < a := by
  rcases Nat.lt_trichotomy a.toNat b.toNat with h | h | h
  · exact .inl (UInt8.lt_iff_toNat_lt.2 h)
  · exact .inr (.inl (UInt8.toNat_inj.1 h))
  · exact .inr (.inr (UInt8.lt_iff_toNat_lt.2 h))
theorem u8_irr (a : UInt8) : ¬ a < a := by simp
theorem u8_asym {a b : UInt8} (h : a < b) : ¬ b < a := by simp only [UInt8.lt_iff_toNat_lt] at *; omega
theorem u8_trans {a b c : UInt8} (h : a < b) (h' : b < c) : a < c := by simp only [UInt8.lt_iff_toNat_lt] at *; omega

theorem cb_opp : ∀ a b, Lib.compareBytes a b = - Lib.compareBytes b a
  | [], [] => by simp [Lib.compareBytes]
  | [], _ :: _ => by simp [Lib.compareBytes]
  | _ :: _, [] => by simp [Lib.compareBytes]
  | a :: aas, b :: bs => by
    unfold Lib.compareBytes
    have ih := cb_opp aas bs
    rcases u8_lt_or a b with h | h | h
    · simp [h, u8_asym h]
    · subst h; simp [ih]
    · simp [h, u8_asym h]

theorem cb_eq0 : ∀ a b, Lib.compareBytes a b = 0 ↔ a = b
  | [], [] => by simp [Lib.compareBytes]
  | [], _ :: _ => by simp [Lib.compareBytes]
  | _ :: _, [] => by simp [Lib.compareBytes]
  | a :: aas, b :: bs => by
    unfold Lib.compareBytes
    have ih := cb_eq0 aas bs
    rcases u8_lt_or a b with h | h | h
    · have : a ≠ b := fun e => by subst e; exact u8_irr a h
      simp [h, this]
    · subst h; simp [ih]
    · have : a ≠ b := fun e => by subst e; exact u8_irr a h
      simp [h, u8_asym h, this]

theorem cb_tr : ∀ a b d, Lib.compareBytes a b ≤ 0 → Lib.compareBytes b d ≤ 0 → Lib.compareBytes a d = min (Lib.compareBytes a b) (Lib.compareBytes b d)
  | [], [], [], _, _ => by simp [Lib.compareBytes]
  | [], [], _ :: _, _, _ => by simp [Lib.compareBytes]; omega
  | [], _ :: _, [], _, h => by simp [Lib.compareBytes] at h
  | _ :: _, [], _, h, _ => by simp [Lib.compareBytes] at h
  | _ :: _, _ :: _, [], _, h => by simp [Lib.compareBytes] at h
  | [], b :: bs, d :: ds, _, h => by
    have := cb_rng (b :: bs) (d :: ds)
    have e1 : Lib.compareBytes [] (d :: ds) = -1 := by simp [Lib.compareBytes]
    have e2 : Lib.compareBytes [] (b :: bs) = -1 := by simp [Lib.compareBytes]
    rw [e1, e2]; omega
  | a :: aas, b :: bs, d :: ds, h1, h2 => by
    have ih := cb_tr aas bs ds
    have r1 := cb_rng aas bs
    have r2 := cb_rng bs ds
    unfold Lib.compareBytes at h1 h2 ⊢
    rcases u8_lt_or a b with h | h | h
    · rcases u8_lt_or b d with g | g | g
      · simp [h, g, u8_trans h g]
      · subst g; simp [h] at h2 ⊢; omega
      · simp [g, u8_asym g] at h2
    · subst h
      rcases u8_lt_or a d with g | g | g
      · simp [g] at h1 ⊢; omega
      · subst g; simp at h1 h2 ⊢; exact ih h1 h2
      · simp [g, u8_asym g] at h2
    · simp [h, u8_asym h] at h1

theorem good_cb : GoodCmp Lib.compareBytes := ⟨cb_rng, cb_opp, cb_eq0, cb_tr⟩

theorem good_pair {S T : Type} {c : S → S → Int} {d : T → T → Int} (hc : GoodCmp c) (hd : GoodCmp d) : GoodCmp (fun (a b : S × T) => firstNZ [c a.1 b.1, d a.2 b.2]) where
  rng a b := by
    have := hc.rng a.1 b.1; have := hd.rng a.2 b.2
    simp only [firstNZ]; repeat' split
    all_goals omega
  opp a b := by
    have := hc.opp a.1 b.1; have := hd.opp a.2 b.2
    simp only [firstNZ]; repeat' split
    all_goals omega
  eq0 a b := by
    have h1 := hc.eq0 a.1 b.1; have h2 := hd.eq0 a.2 b.2
    simp only [firstNZ]
    rw [Prod.ext_iff, ← h1, ← h2]
    repeat' split
    all_goals omega
  tr a b e g1 g2 := by
    have r1 := hc.rng a.1 b.1; have r2 := hd.rng a.2 b.2
    have r3 := hc.rng b.1 e.1; have r4 := hd.rng b.2 e.2
    have t1 := hc.tr a.1 b.1 e.1; have t2 := hd.tr a.2 b.2 e.2
    simp only [firstNZ] at *
    repeat' split at g1
    all_goals (repeat' split at g2)
    all_goals (repeat' split)
    all_goals (have := t1 (by omega) (by omega); try (have := t2 (by omega) (by omega)))
    all_goals omega
end Go.Proofs.YtecapnipkngniaaGreatDoor
