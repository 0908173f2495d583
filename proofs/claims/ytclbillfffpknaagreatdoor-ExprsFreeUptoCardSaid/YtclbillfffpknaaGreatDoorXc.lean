/-
  The contracts of exprs.level, isOperator, isComparison, operatorSorts, truth, number, quotient and reckonNumbers, each for every input.
-/
import Derived.Test.YtclbillfffpknaaGreatDoorProg
import Derived.Test.YtclbillfffpknaaGreatDoorXp
import Derived.WalkKit
import Derived.WalkSpells
import Derived.WalkLawsBesides
import Derived.Deep.QuietTactic
import Derived.BigQuiet
import Derived.Handy
namespace Go.Proofs.YtclbillfffpknaaGreatDoor
open Go.RowKit

theorem beqL (s : ByteArray) (l : List UInt8) : (s.toList == l) = decide (s.data.toList = l) := by
  rw [ByteArray.toList_eq, Bool.eq_iff_iff]; simp

set_option maxHeartbeats 400000 in
theorem level_any (op : ByteArray) (w : World) :
    Calls Tryz.prog 72 #[.string op] w fun e w' => e = .returned (.int .i64 (lvl op.data.toList)) ∧ w' = w := by
  go_enter Tryz.func72, Tryz.ntmps72
  go_wp2
  all_goals
    first
      | (exfalso; simp_all; done)
      | (go_ret; refine ⟨?_, rfl⟩; rw [← ByteArray.toList_eq]; simp_all [lvl]; done)

set_option maxHeartbeats 400000 in
theorem isComparison_any (op : ByteArray) (w : World) :
    Calls Tryz.prog 55 #[.string op] w fun e w' => e = .returned (.bool (isCmp op.data.toList)) ∧ w' = w := by
  have c1 := level_any op w
  have c2 := level_any ⟨#[61, 61]⟩ w
  unfold isCmp
  generalize lvl op.data.toList = z at c1 ⊢
  rw [show lvl (ByteArray.mk #[61, 61]).data.toList = 3 from by decide] at c2
  go_enter Tryz.func55, Tryz.ntmps55
  go_wp2_with fail
  refine c1.mono ?_
  rintro e w1 ⟨rfl, rfl⟩
  go_wp2_with fail
  refine c2.mono ?_
  rintro e w2 ⟨rfl, rfl⟩
  go_wp2_with fail
  go_ret
  exact ⟨by congr 1, rfl⟩

set_option maxHeartbeats 400000 in
theorem isOperator_any (op : ByteArray) (k : Nat) (w : World) :
    Calls Tryz.prog 64 #[.string op, .int .i64 (k : Int)] w fun e w' => e = .returned (.bool (isOp op.data.toList k)) ∧ w' = w := by
  have c1 := level_any op w
  by_cases h1 : k = 1
  · subst h1
    clear c1
    have e1 : isOp op.data.toList 1 = (op.toList == [110, 111, 116] || op.toList == [110, 101, 103] || op.toList == [35]) := by
      simp only [beqL]; unfold isOp; rw [if_pos rfl, Bool.eq_iff_iff]; simp [or_assoc]
    rw [e1]
    clear e1
    cases hA : op.toList == [110, 111, 116] <;> cases hB : op.toList == [110, 101, 103] <;> cases hC : op.toList == [35]
    all_goals
      go_enter Tryz.func64, Tryz.ntmps64
      go_wp2_with fail
      go_ret
      exact ⟨rfl, rfl⟩
  · by_cases h2 : k = 2
    · subst h2
      have e1 : isOp op.data.toList 2 = decide (0 < lvl op.data.toList) := by unfold isOp; rw [if_neg (by omega), if_pos rfl]
      rw [e1]
      generalize lvl op.data.toList = z at c1 ⊢
      go_enter Tryz.func64, Tryz.ntmps64
      go_wp2_with (go_at_call 72; refine c1.mono ?_; rintro e w1 ⟨rfl, rfl⟩)
      go_ret
      exact ⟨by simp, rfl⟩
    · have e1 : isOp op.data.toList k = false := by unfold isOp; rw [if_neg h1, if_neg h2]
      have b1 : ((k : Int) == 1) = false := by simp; omega
      have b2 : ((k : Int) == 2) = false := by simp; omega
      rw [e1]
      clear c1 e1
      go_enter Tryz.func64, Tryz.ntmps64
      go_wp2_with fail
      go_ret
      exact ⟨rfl, rfl⟩

set_option maxHeartbeats 400000 in
theorem operatorSorts_any (op : ByteArray) (w : World) :
    Calls Tryz.prog 54 #[.string op] w fun e w' => e = .returned (.tuple #[.int .i64 (opS op.data.toList).1, .int .i64 (opS op.data.toList).2]) ∧ w' = w := by
  go_enter Tryz.func54, Tryz.ntmps54
  go_wp2
  all_goals
    first
      | (exfalso; simp_all; done)
      | (go_ret2; refine ⟨?_, rfl⟩; rw [← ByteArray.toList_eq]; simp_all [opS]; done)

set_option maxHeartbeats 400000 in
theorem truth_any (b : Bool) (w : World) :
    Calls Tryz.prog 56 #[.bool b] w fun e w' => e = .returned (.agg #[.int .i64 2, .int .i64 (if b then 1 else 0), .string ⟨#[]⟩]) ∧ Below w.heap.size w w' := by
  cases b
  all_goals
    go_enter Tryz.func56, Tryz.ntmps56
    go_wp2
  · exact bodyPost_ret (v := .agg #[.int .i64 2, .int .i64 0, .string ⟨#[]⟩]) (by simp [results, Tryz.results56, go_sem]) rfl ⟨rfl, by go_grown⟩
  · exact bodyPost_ret (v := .agg #[.int .i64 2, .int .i64 1, .string ⟨#[]⟩]) (by simp [results, Tryz.results56, go_sem]) rfl ⟨rfl, by go_grown⟩

set_option maxHeartbeats 400000 in
theorem number_any (n : Int) (w : World) :
    Calls Tryz.prog 57 #[.int .i64 n] w fun e w' => e = .returned (.agg #[.int .i64 1, .int .i64 n, .string ⟨#[]⟩]) ∧ Below w.heap.size w w' := by
  go_enter Tryz.func57, Tryz.ntmps57
  go_wp2
  exact bodyPost_ret (v := .agg #[.int .i64 1, .int .i64 n, .string ⟨#[]⟩]) (by simp [results, Tryz.results57, go_sem]) rfl ⟨rfl, by go_grown⟩

set_option maxHeartbeats 400000 in
theorem quotient_any (a b : Int) (w : World) :
    Calls Tryz.prog 80 #[.int .i64 a, .int .i64 b] w fun e w' => e = .returned (.int .i64 (quoZ a b)) ∧ w' = w := by
  by_cases hb : b = 0
  · subst hb
    go_enter Tryz.func80, Tryz.ntmps80
    go_wp2
    go_ret
    exact ⟨rfl, rfl⟩
  · have hbb : (b == 0) = false := by simpa using hb
    go_enter Tryz.func80, Tryz.ntmps80
    go_wp2
    go_ret
    refine ⟨?_, rfl⟩
    unfold quoZ; rw [if_neg hb]; rfl

set_option maxHeartbeats 400000 in
theorem reckonNumbers_any (op : ByteArray) (a b : Int) (w : World) :
    Calls Tryz.prog 61 #[.string op, .int .i64 a, .int .i64 b] w fun e w' => e = .returned (.int .i64 (numZ op.data.toList a b)) ∧ w' = w := by
  have cq := quotient_any a b
  go_enter Tryz.func61, Tryz.ntmps61
  go_wp2_with (go_at_call 80; refine (cq _).mono ?_; rintro e w1 ⟨rfl, rfl⟩)
  all_goals
    first
      | (exfalso; simp_all; done)
      | (go_ret; refine ⟨?_, rfl⟩; unfold numZ; rw [← ByteArray.toList_eq]; simp_all [w64]; done)
end Go.Proofs.YtclbillfffpknaaGreatDoor
