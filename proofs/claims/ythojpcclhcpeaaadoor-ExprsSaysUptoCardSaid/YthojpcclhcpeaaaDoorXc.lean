/-
  The contracts of exprs.level, isOperator, isComparison, operatorSorts, truth, number, quotient and reckonNumbers, each for every input.
-/
import Derived.Test.YthojpcclhcpeaaaDoorProg
import Derived.Test.YthojpcclhcpeaaaDoorXp
import Derived.WalkKit
import Derived.WalkSpells
import Derived.WalkLawsBesides
import Derived.Deep.QuietTactic
import Derived.BigQuiet
import Derived.Handy
namespace Go.Proofs.YthojpcclhcpeaaaDoor
open Go.RowKit

theorem beqL (s : ByteArray) (l : List UInt8) : (s.toList == l) = decide (s.data.toList = l) := by
  rw [ByteArray.toList_eq, Bool.eq_iff_iff]; simp

set_option maxHeartbeats 400000 in
theorem level_any (op : ByteArray) (w : World) :
    Calls Tryd.prog 66 #[.string op] w fun e w' => e = .returned (.int .i64 (lvl op.data.toList)) ∧ w' = w := by
  go_enter Tryd.func66, Tryd.ntmps66
  go_wp2
  all_goals
    first
      | (exfalso; simp_all; done)
      | (go_ret; refine ⟨?_, rfl⟩; rw [← ByteArray.toList_eq]; simp_all [lvl]; done)

set_option maxHeartbeats 400000 in
theorem isComparison_any (op : ByteArray) (w : World) :
    Calls Tryd.prog 105 #[.string op] w fun e w' => e = .returned (.bool (isCmp op.data.toList)) ∧ w' = w := by
  have c1 := level_any op w
  have c2 := level_any ⟨#[61, 61]⟩ w
  unfold isCmp
  generalize lvl op.data.toList = z at c1 ⊢
  rw [show lvl (ByteArray.mk #[61, 61]).data.toList = 3 from by decide] at c2
  go_enter Tryd.func105, Tryd.ntmps105
  go_wp2_with fail
  refine c1.mono ?_
  rintro e w1 ⟨rfl, rfl⟩
  go_wp2_with fail
  refine c2.mono ?_
  rintro e w2 ⟨rfl, rfl⟩
  go_wp2_with fail
  go_ret
  exact ⟨by congr 1, rfl⟩

set_option maxHeartbeats 400000 in
theorem isOperator_any (op : ByteArray) (k : Nat) (w : World) :
    Calls Tryd.prog 109 #[.string op, .int .i64 (k : Int)] w fun e w' => e = .returned (.bool (isOp op.data.toList k)) ∧ w' = w := by
  have c1 := level_any op w
  by_cases h1 : k = 1
  · subst h1
    clear c1
    have e1 : isOp op.data.toList 1 = (op.toList == [110, 111, 116] || op.toList == [110, 101, 103] || op.toList == [35]) := by
      simp only [beqL]; unfold isOp; rw [if_pos rfl, Bool.eq_iff_iff]; simp [or_assoc]
    rw [e1]
    clear e1
    cases hA : op.toList == [110, 111, 116] <;> cases hB : op.toList == [110, 101, 103] <;> cases hC : op.toList == [35]
    all_goals
      go_enter Tryd.func109, Tryd.ntmps109
      go_wp2_with fail
      go_ret
      exact ⟨rfl, rfl⟩
  · by_cases h2 : k = 2
    · subst h2
      have e1 : isOp op.data.toList 2 = decide (0 < lvl op.data.toList) := by unfold isOp; rw [if_neg (by omega), if_pos rfl]
      rw [e1]
      generalize lvl op.data.toList = z at c1 ⊢
      go_enter Tryd.func109, Tryd.ntmps109
      go_wp2_with (go_at_call 66; refine c1.mono ?_; rintro e w1 ⟨rfl, rfl⟩)
      go_ret
      exact ⟨by simp, rfl⟩
    · have e1 : isOp op.data.toList k = false := by unfold isOp; rw [if_neg h1, if_neg h2]
      have b1 : ((k : Int) == 1) = false := by simp; omega
      have b2 : ((k : Int) == 2) = false := by simp; omega
      rw [e1]
      clear c1 e1
      go_enter Tryd.func109, Tryd.ntmps109
      go_wp2_with fail
      go_ret
      exact ⟨rfl, rfl⟩

set_option maxHeartbeats 400000 in
theorem operatorSorts_any (op : ByteArray) (w : World) :
    Calls Tryd.prog 104 #[.string op] w fun e w' => e = .returned (.tuple #[.int .i64 (opS op.data.toList).1, .int .i64 (opS op.data.toList).2]) ∧ w' = w := by
  go_enter Tryd.func104, Tryd.ntmps104
  go_wp2
  all_goals
    first
      | (exfalso; simp_all; done)
      | (go_ret2; refine ⟨?_, rfl⟩; rw [← ByteArray.toList_eq]; simp_all [opS]; done)

end Go.Proofs.YthojpcclhcpeaaaDoor
