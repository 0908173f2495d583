/-
  The contract of duetref.part: has a part of a type just what its kind has?
-/
import Derived.Test.YtpamhimmdoimoaaGreatDoorSz
import Derived.Test.YtpamhimmdoimoaaGreatDoorJu
namespace Go.Proofs.YtpamhimmdoimoaaGreatDoor
open Go.RowKit Go.Shelf
theorem sum_zero (a b : Nat) (ha : a ≤ 9223372036854775807) (hb : b ≤ 9223372036854775807) : ∃ z, IntKind.i64.wrap ((a : Int) + (b : Int)) = z ∧ (z == 0) = (((a : Int) == 0) && ((b : Int) == 0)) := by
 refine ⟨_, rfl, ?_⟩;by_cases h : a + b ≤ 9223372036854775807
 ·rw [wrap_small _ (by omega) (by omega), Bool.eq_iff_iff]
  simp only [beq_iff_eq, Bool.and_eq_true];omega
 ·have e : IntKind.i64.wrap ((a : Int) + (b : Int)) = (a : Int) + (b : Int) - 18446744073709551616 := by
   have hb : IntKind.i64.bits = 64 := rfl;have hs : IntKind.i64.signed = true := rfl;simp only [IntKind.wrap, hb, hs, Int.reducePow, Nat.reduceSub, Bool.true_and, decide_eq_true_eq];split <;> omega
  rw [e, Bool.eq_iff_iff];simp only [beq_iff_eq, Bool.and_eq_true];omega
set_option maxRecDepth 100000 in
set_option maxHeartbeats 8000000 in
theorem refPart_any (t : Ty) (al : OAd) (cl : Nat) (ak : OAd) (ck : Nat) (w : World) (hbd : TyBw t) (hla : LA w w.heap.size t.labels al) :
  Calls Tryz.prog 26 #[tyVal t al cl ak ck] w fun e w' => e = .returned (.bool (partT t)) ∧ Below w.heap.size w w' := by
 obtain ⟨kd, so, nm, ls, ks⟩ := t;have hA : Below w.heap.size w (w.alloc (.cells #[.int .i64 kd, .int .i64 so, .string nm, .slice al ls.length cl, .slice ak ks.length ck] 25)) := (Below.refl _ _).alloc (Nat.le_refl _) _;have cV := fun (W : World) => refIsVar_any nm W hbd.name
 have cL := refLabels_any ls al cl (w.alloc (.cells #[.int .i64 kd, .int .i64 so, .string nm, .slice al ls.length cl, .slice ak ks.length ck] 25)) hbd.labs (by have := hbd.labels; simp only at *; omega) (NAt.mono hA.size (NAt.keep hA hla))
 simp only [tyVal];have CV := hideK cV;have CL := hideK cL;have HLK : Hid (ls.length ≤ 9223372036854775807 ∧ ks.length ≤ 9223372036854775807) := by
  have := hbd.labels; have := hbd.kids; simp only at *; exact ⟨by omega, by omega⟩
 have hlz : (ls.length : Int) ≤ 9223372036854775807 := by have := HLK.out; omega
 have hkz : (ks.length : Int) ≤ 9223372036854775807 := by have := HLK.out; omega
 have HA := hideK hA;clear cV cL hbd hla hA;by_cases hkd1 : kd = 1
 ·subst hkd1
  rw [part_1, Bool.and_assoc];have h0' : (so != 0) = !(so == 0) := rfl;generalize h0 : (so == 0) = q0 at h0' ⊢;generalize h1 : (nm.toList.isEmpty) = q1;obtain ⟨zs, hz, hz0⟩ := sum_zero ls.length ks.length HLK.out.1 HLK.out.2;rw [← hz0];clear hz0;generalize h2 : (zs == 0) = q2;cases q0
  ·go_enter Tryz.func26, Tryz.ntmps26
   go_wp2_with (first
    | (go_at_call 46; go_must (refine (CV.out _).mono ?_; rintro e w1 ⟨rfl, hb1⟩; obtain ⟨x0, x1, x2, x3, x4, hbw⟩ := keep5 hb1; clear hb1))
    | (go_at_call 45; go_must (refine CL.out.mono ?_; rintro e w1 ⟨rfl, hb1⟩; obtain ⟨x0, x1, x2, x3, x4, hbw⟩ := keep5 hb1; clear hb1)))
   go_ret
   exact ⟨rfl, by first | exact hbw | exact HA.out⟩
  cases q1
  ·go_enter Tryz.func26, Tryz.ntmps26
   go_wp2_with (first
    | (go_at_call 46; go_must (refine (CV.out _).mono ?_; rintro e w1 ⟨rfl, hb1⟩; obtain ⟨x0, x1, x2, x3, x4, hbw⟩ := keep5 hb1; clear hb1))
    | (go_at_call 45; go_must (refine CL.out.mono ?_; rintro e w1 ⟨rfl, hb1⟩; obtain ⟨x0, x1, x2, x3, x4, hbw⟩ := keep5 hb1; clear hb1)))
   go_ret
   exact ⟨rfl, by first | exact hbw | exact HA.out⟩
  cases q2
  ·go_enter Tryz.func26, Tryz.ntmps26
   go_wp2_with (first
    | (go_at_call 46; go_must (refine (CV.out _).mono ?_; rintro e w1 ⟨rfl, hb1⟩; obtain ⟨x0, x1, x2, x3, x4, hbw⟩ := keep5 hb1; clear hb1))
    | (go_at_call 45; go_must (refine CL.out.mono ?_; rintro e w1 ⟨rfl, hb1⟩; obtain ⟨x0, x1, x2, x3, x4, hbw⟩ := keep5 hb1; clear hb1)))
   go_ret
   exact ⟨rfl, by first | exact hbw | exact HA.out⟩
  go_enter Tryz.func26, Tryz.ntmps26
  go_wp2_with (first
   | (go_at_call 46; go_must (refine (CV.out _).mono ?_; rintro e w1 ⟨rfl, hb1⟩; obtain ⟨x0, x1, x2, x3, x4, hbw⟩ := keep5 hb1; clear hb1))
   | (go_at_call 45; go_must (refine CL.out.mono ?_; rintro e w1 ⟨rfl, hb1⟩; obtain ⟨x0, x1, x2, x3, x4, hbw⟩ := keep5 hb1; clear hb1)))
  go_ret
  exact ⟨rfl, by first | exact hbw | exact HA.out⟩
 by_cases hkd2 : kd = 2
 ·subst hkd2
  clear hkd1;rw [part_2];rw [show (!(swB so).toList.isEmpty) = (((so == 1) || (so == 2)) || (so == 3)) from by rw [swB_empty, Bool.eq_iff_iff]; simp [or_assoc]]
  generalize h1 : (nm.toList.isEmpty) = q1;generalize h2 : ((ls.length : Int) == 0) = q2;generalize h3 : ((ks.length : Int) == 1) = q3;generalize a1 : (so == 1) = b1;generalize a2 : (so == 2) = b2;generalize a3 : (so == 3) = b3;cases b1
  ·cases b2
   ·cases b3
    ·go_enter Tryz.func26, Tryz.ntmps26
     go_wp2_with (first
      | (go_at_call 46; go_must (refine (CV.out _).mono ?_; rintro e w1 ⟨rfl, hb1⟩; obtain ⟨x0, x1, x2, x3, x4, hbw⟩ := keep5 hb1; clear hb1))
      | (go_at_call 45; go_must (refine CL.out.mono ?_; rintro e w1 ⟨rfl, hb1⟩; obtain ⟨x0, x1, x2, x3, x4, hbw⟩ := keep5 hb1; clear hb1)))
     go_ret
     exact ⟨rfl, by first | exact hbw | exact HA.out⟩
    ·cases q1
     ·go_enter Tryz.func26, Tryz.ntmps26
      go_wp2_with (first
       | (go_at_call 46; go_must (refine (CV.out _).mono ?_; rintro e w1 ⟨rfl, hb1⟩; obtain ⟨x0, x1, x2, x3, x4, hbw⟩ := keep5 hb1; clear hb1))
       | (go_at_call 45; go_must (refine CL.out.mono ?_; rintro e w1 ⟨rfl, hb1⟩; obtain ⟨x0, x1, x2, x3, x4, hbw⟩ := keep5 hb1; clear hb1)))
      go_ret
      exact ⟨rfl, by first | exact hbw | exact HA.out⟩
     cases q2
     ·go_enter Tryz.func26, Tryz.ntmps26
      go_wp2_with (first
       | (go_at_call 46; go_must (refine (CV.out _).mono ?_; rintro e w1 ⟨rfl, hb1⟩; obtain ⟨x0, x1, x2, x3, x4, hbw⟩ := keep5 hb1; clear hb1))
       | (go_at_call 45; go_must (refine CL.out.mono ?_; rintro e w1 ⟨rfl, hb1⟩; obtain ⟨x0, x1, x2, x3, x4, hbw⟩ := keep5 hb1; clear hb1)))
      go_ret
      exact ⟨rfl, by first | exact hbw | exact HA.out⟩
     cases q3
     ·go_enter Tryz.func26, Tryz.ntmps26
      go_wp2_with (first
       | (go_at_call 46; go_must (refine (CV.out _).mono ?_; rintro e w1 ⟨rfl, hb1⟩; obtain ⟨x0, x1, x2, x3, x4, hbw⟩ := keep5 hb1; clear hb1))
       | (go_at_call 45; go_must (refine CL.out.mono ?_; rintro e w1 ⟨rfl, hb1⟩; obtain ⟨x0, x1, x2, x3, x4, hbw⟩ := keep5 hb1; clear hb1)))
      go_ret
      exact ⟨rfl, by first | exact hbw | exact HA.out⟩
     go_enter Tryz.func26, Tryz.ntmps26
     go_wp2_with (first
      | (go_at_call 46; go_must (refine (CV.out _).mono ?_; rintro e w1 ⟨rfl, hb1⟩; obtain ⟨x0, x1, x2, x3, x4, hbw⟩ := keep5 hb1; clear hb1))
      | (go_at_call 45; go_must (refine CL.out.mono ?_; rintro e w1 ⟨rfl, hb1⟩; obtain ⟨x0, x1, x2, x3, x4, hbw⟩ := keep5 hb1; clear hb1)))
     go_ret
     exact ⟨rfl, by first | exact hbw | exact HA.out⟩
   ·cases q1
    ·go_enter Tryz.func26, Tryz.ntmps26
     go_wp2_with (first
      | (go_at_call 46; go_must (refine (CV.out _).mono ?_; rintro e w1 ⟨rfl, hb1⟩; obtain ⟨x0, x1, x2, x3, x4, hbw⟩ := keep5 hb1; clear hb1))
      | (go_at_call 45; go_must (refine CL.out.mono ?_; rintro e w1 ⟨rfl, hb1⟩; obtain ⟨x0, x1, x2, x3, x4, hbw⟩ := keep5 hb1; clear hb1)))
     go_ret
     exact ⟨rfl, by first | exact hbw | exact HA.out⟩
    cases q2
    ·go_enter Tryz.func26, Tryz.ntmps26
     go_wp2_with (first
      | (go_at_call 46; go_must (refine (CV.out _).mono ?_; rintro e w1 ⟨rfl, hb1⟩; obtain ⟨x0, x1, x2, x3, x4, hbw⟩ := keep5 hb1; clear hb1))
      | (go_at_call 45; go_must (refine CL.out.mono ?_; rintro e w1 ⟨rfl, hb1⟩; obtain ⟨x0, x1, x2, x3, x4, hbw⟩ := keep5 hb1; clear hb1)))
     go_ret
     exact ⟨rfl, by first | exact hbw | exact HA.out⟩
    cases q3
    ·go_enter Tryz.func26, Tryz.ntmps26
     go_wp2_with (first
      | (go_at_call 46; go_must (refine (CV.out _).mono ?_; rintro e w1 ⟨rfl, hb1⟩; obtain ⟨x0, x1, x2, x3, x4, hbw⟩ := keep5 hb1; clear hb1))
      | (go_at_call 45; go_must (refine CL.out.mono ?_; rintro e w1 ⟨rfl, hb1⟩; obtain ⟨x0, x1, x2, x3, x4, hbw⟩ := keep5 hb1; clear hb1)))
     go_ret
     exact ⟨rfl, by first | exact hbw | exact HA.out⟩
    go_enter Tryz.func26, Tryz.ntmps26
    go_wp2_with (first
     | (go_at_call 46; go_must (refine (CV.out _).mono ?_; rintro e w1 ⟨rfl, hb1⟩; obtain ⟨x0, x1, x2, x3, x4, hbw⟩ := keep5 hb1; clear hb1))
     | (go_at_call 45; go_must (refine CL.out.mono ?_; rintro e w1 ⟨rfl, hb1⟩; obtain ⟨x0, x1, x2, x3, x4, hbw⟩ := keep5 hb1; clear hb1)))
    go_ret
    exact ⟨rfl, by first | exact hbw | exact HA.out⟩
  ·cases q1
   ·go_enter Tryz.func26, Tryz.ntmps26
    go_wp2_with (first
     | (go_at_call 46; go_must (refine (CV.out _).mono ?_; rintro e w1 ⟨rfl, hb1⟩; obtain ⟨x0, x1, x2, x3, x4, hbw⟩ := keep5 hb1; clear hb1))
     | (go_at_call 45; go_must (refine CL.out.mono ?_; rintro e w1 ⟨rfl, hb1⟩; obtain ⟨x0, x1, x2, x3, x4, hbw⟩ := keep5 hb1; clear hb1)))
    go_ret
    exact ⟨rfl, by first | exact hbw | exact HA.out⟩
   cases q2
   ·go_enter Tryz.func26, Tryz.ntmps26
    go_wp2_with (first
     | (go_at_call 46; go_must (refine (CV.out _).mono ?_; rintro e w1 ⟨rfl, hb1⟩; obtain ⟨x0, x1, x2, x3, x4, hbw⟩ := keep5 hb1; clear hb1))
     | (go_at_call 45; go_must (refine CL.out.mono ?_; rintro e w1 ⟨rfl, hb1⟩; obtain ⟨x0, x1, x2, x3, x4, hbw⟩ := keep5 hb1; clear hb1)))
    go_ret
    exact ⟨rfl, by first | exact hbw | exact HA.out⟩
   cases q3
   ·go_enter Tryz.func26, Tryz.ntmps26
    go_wp2_with (first
     | (go_at_call 46; go_must (refine (CV.out _).mono ?_; rintro e w1 ⟨rfl, hb1⟩; obtain ⟨x0, x1, x2, x3, x4, hbw⟩ := keep5 hb1; clear hb1))
     | (go_at_call 45; go_must (refine CL.out.mono ?_; rintro e w1 ⟨rfl, hb1⟩; obtain ⟨x0, x1, x2, x3, x4, hbw⟩ := keep5 hb1; clear hb1)))
    go_ret
    exact ⟨rfl, by first | exact hbw | exact HA.out⟩
   go_enter Tryz.func26, Tryz.ntmps26
   go_wp2_with (first
    | (go_at_call 46; go_must (refine (CV.out _).mono ?_; rintro e w1 ⟨rfl, hb1⟩; obtain ⟨x0, x1, x2, x3, x4, hbw⟩ := keep5 hb1; clear hb1))
    | (go_at_call 45; go_must (refine CL.out.mono ?_; rintro e w1 ⟨rfl, hb1⟩; obtain ⟨x0, x1, x2, x3, x4, hbw⟩ := keep5 hb1; clear hb1)))
   go_ret
   exact ⟨rfl, by first | exact hbw | exact HA.out⟩
 by_cases hkd3 : kd = 3
 ·subst hkd3
  clear hkd1 hkd2;rw [part_3];rw [show (!(swB so).toList.isEmpty) = (((so == 1) || (so == 2)) || (so == 3)) from by rw [swB_empty, Bool.eq_iff_iff]; simp [or_assoc]]
  generalize h1 : (nm.toList.isEmpty) = q1;generalize h2 : ((ls.length : Int) == 0) = q2;generalize h3 : ((ks.length : Int) == 1) = q3;generalize a1 : (so == 1) = b1;generalize a2 : (so == 2) = b2;generalize a3 : (so == 3) = b3;cases b1
  ·cases b2
   ·cases b3
    ·go_enter Tryz.func26, Tryz.ntmps26
     go_wp2_with (first
      | (go_at_call 46; go_must (refine (CV.out _).mono ?_; rintro e w1 ⟨rfl, hb1⟩; obtain ⟨x0, x1, x2, x3, x4, hbw⟩ := keep5 hb1; clear hb1))
      | (go_at_call 45; go_must (refine CL.out.mono ?_; rintro e w1 ⟨rfl, hb1⟩; obtain ⟨x0, x1, x2, x3, x4, hbw⟩ := keep5 hb1; clear hb1)))
     go_ret
     exact ⟨rfl, by first | exact hbw | exact HA.out⟩
    ·cases q1
     ·go_enter Tryz.func26, Tryz.ntmps26
      go_wp2_with (first
       | (go_at_call 46; go_must (refine (CV.out _).mono ?_; rintro e w1 ⟨rfl, hb1⟩; obtain ⟨x0, x1, x2, x3, x4, hbw⟩ := keep5 hb1; clear hb1))
       | (go_at_call 45; go_must (refine CL.out.mono ?_; rintro e w1 ⟨rfl, hb1⟩; obtain ⟨x0, x1, x2, x3, x4, hbw⟩ := keep5 hb1; clear hb1)))
      go_ret
      exact ⟨rfl, by first | exact hbw | exact HA.out⟩
     cases q2
     ·go_enter Tryz.func26, Tryz.ntmps26
      go_wp2_with (first
       | (go_at_call 46; go_must (refine (CV.out _).mono ?_; rintro e w1 ⟨rfl, hb1⟩; obtain ⟨x0, x1, x2, x3, x4, hbw⟩ := keep5 hb1; clear hb1))
       | (go_at_call 45; go_must (refine CL.out.mono ?_; rintro e w1 ⟨rfl, hb1⟩; obtain ⟨x0, x1, x2, x3, x4, hbw⟩ := keep5 hb1; clear hb1)))
      go_ret
      exact ⟨rfl, by first | exact hbw | exact HA.out⟩
     cases q3
     ·go_enter Tryz.func26, Tryz.ntmps26
      go_wp2_with (first
       | (go_at_call 46; go_must (refine (CV.out _).mono ?_; rintro e w1 ⟨rfl, hb1⟩; obtain ⟨x0, x1, x2, x3, x4, hbw⟩ := keep5 hb1; clear hb1))
       | (go_at_call 45; go_must (refine CL.out.mono ?_; rintro e w1 ⟨rfl, hb1⟩; obtain ⟨x0, x1, x2, x3, x4, hbw⟩ := keep5 hb1; clear hb1)))
      go_ret
      exact ⟨rfl, by first | exact hbw | exact HA.out⟩
     go_enter Tryz.func26, Tryz.ntmps26
     go_wp2_with (first
      | (go_at_call 46; go_must (refine (CV.out _).mono ?_; rintro e w1 ⟨rfl, hb1⟩; obtain ⟨x0, x1, x2, x3, x4, hbw⟩ := keep5 hb1; clear hb1))
      | (go_at_call 45; go_must (refine CL.out.mono ?_; rintro e w1 ⟨rfl, hb1⟩; obtain ⟨x0, x1, x2, x3, x4, hbw⟩ := keep5 hb1; clear hb1)))
     go_ret
     exact ⟨rfl, by first | exact hbw | exact HA.out⟩
   ·cases q1
    ·go_enter Tryz.func26, Tryz.ntmps26
     go_wp2_with (first
      | (go_at_call 46; go_must (refine (CV.out _).mono ?_; rintro e w1 ⟨rfl, hb1⟩; obtain ⟨x0, x1, x2, x3, x4, hbw⟩ := keep5 hb1; clear hb1))
      | (go_at_call 45; go_must (refine CL.out.mono ?_; rintro e w1 ⟨rfl, hb1⟩; obtain ⟨x0, x1, x2, x3, x4, hbw⟩ := keep5 hb1; clear hb1)))
     go_ret
     exact ⟨rfl, by first | exact hbw | exact HA.out⟩
    cases q2
    ·go_enter Tryz.func26, Tryz.ntmps26
     go_wp2_with (first
      | (go_at_call 46; go_must (refine (CV.out _).mono ?_; rintro e w1 ⟨rfl, hb1⟩; obtain ⟨x0, x1, x2, x3, x4, hbw⟩ := keep5 hb1; clear hb1))
      | (go_at_call 45; go_must (refine CL.out.mono ?_; rintro e w1 ⟨rfl, hb1⟩; obtain ⟨x0, x1, x2, x3, x4, hbw⟩ := keep5 hb1; clear hb1)))
     go_ret
     exact ⟨rfl, by first | exact hbw | exact HA.out⟩
    cases q3
    ·go_enter Tryz.func26, Tryz.ntmps26
     go_wp2_with (first
      | (go_at_call 46; go_must (refine (CV.out _).mono ?_; rintro e w1 ⟨rfl, hb1⟩; obtain ⟨x0, x1, x2, x3, x4, hbw⟩ := keep5 hb1; clear hb1))
      | (go_at_call 45; go_must (refine CL.out.mono ?_; rintro e w1 ⟨rfl, hb1⟩; obtain ⟨x0, x1, x2, x3, x4, hbw⟩ := keep5 hb1; clear hb1)))
     go_ret
     exact ⟨rfl, by first | exact hbw | exact HA.out⟩
    go_enter Tryz.func26, Tryz.ntmps26
    go_wp2_with (first
     | (go_at_call 46; go_must (refine (CV.out _).mono ?_; rintro e w1 ⟨rfl, hb1⟩; obtain ⟨x0, x1, x2, x3, x4, hbw⟩ := keep5 hb1; clear hb1))
     | (go_at_call 45; go_must (refine CL.out.mono ?_; rintro e w1 ⟨rfl, hb1⟩; obtain ⟨x0, x1, x2, x3, x4, hbw⟩ := keep5 hb1; clear hb1)))
    go_ret
    exact ⟨rfl, by first | exact hbw | exact HA.out⟩
  ·cases q1
   ·go_enter Tryz.func26, Tryz.ntmps26
    go_wp2_with (first
     | (go_at_call 46; go_must (refine (CV.out _).mono ?_; rintro e w1 ⟨rfl, hb1⟩; obtain ⟨x0, x1, x2, x3, x4, hbw⟩ := keep5 hb1; clear hb1))
     | (go_at_call 45; go_must (refine CL.out.mono ?_; rintro e w1 ⟨rfl, hb1⟩; obtain ⟨x0, x1, x2, x3, x4, hbw⟩ := keep5 hb1; clear hb1)))
    go_ret
    exact ⟨rfl, by first | exact hbw | exact HA.out⟩
   cases q2
   ·go_enter Tryz.func26, Tryz.ntmps26
    go_wp2_with (first
     | (go_at_call 46; go_must (refine (CV.out _).mono ?_; rintro e w1 ⟨rfl, hb1⟩; obtain ⟨x0, x1, x2, x3, x4, hbw⟩ := keep5 hb1; clear hb1))
     | (go_at_call 45; go_must (refine CL.out.mono ?_; rintro e w1 ⟨rfl, hb1⟩; obtain ⟨x0, x1, x2, x3, x4, hbw⟩ := keep5 hb1; clear hb1)))
    go_ret
    exact ⟨rfl, by first | exact hbw | exact HA.out⟩
   cases q3
   ·go_enter Tryz.func26, Tryz.ntmps26
    go_wp2_with (first
     | (go_at_call 46; go_must (refine (CV.out _).mono ?_; rintro e w1 ⟨rfl, hb1⟩; obtain ⟨x0, x1, x2, x3, x4, hbw⟩ := keep5 hb1; clear hb1))
     | (go_at_call 45; go_must (refine CL.out.mono ?_; rintro e w1 ⟨rfl, hb1⟩; obtain ⟨x0, x1, x2, x3, x4, hbw⟩ := keep5 hb1; clear hb1)))
    go_ret
    exact ⟨rfl, by first | exact hbw | exact HA.out⟩
   go_enter Tryz.func26, Tryz.ntmps26
   go_wp2_with (first
    | (go_at_call 46; go_must (refine (CV.out _).mono ?_; rintro e w1 ⟨rfl, hb1⟩; obtain ⟨x0, x1, x2, x3, x4, hbw⟩ := keep5 hb1; clear hb1))
    | (go_at_call 45; go_must (refine CL.out.mono ?_; rintro e w1 ⟨rfl, hb1⟩; obtain ⟨x0, x1, x2, x3, x4, hbw⟩ := keep5 hb1; clear hb1)))
   go_ret
   exact ⟨rfl, by first | exact hbw | exact HA.out⟩
 by_cases hkd4 : kd = 4
 ·subst hkd4
  clear hkd1 hkd2 hkd3;rw [part_4];have h0' : (so != 0) = !(so == 0) := rfl;generalize h0 : (so == 0) = q0 at h0' ⊢;generalize h1 : (nm.toList.isEmpty) = q1;generalize h2 : ((ls.length : Int) == 0) = q2;generalize h3 : ((ks.length : Int) == 2) = q3;cases q0
  ·go_enter Tryz.func26, Tryz.ntmps26
   go_wp2_with (first
    | (go_at_call 46; go_must (refine (CV.out _).mono ?_; rintro e w1 ⟨rfl, hb1⟩; obtain ⟨x0, x1, x2, x3, x4, hbw⟩ := keep5 hb1; clear hb1))
    | (go_at_call 45; go_must (refine CL.out.mono ?_; rintro e w1 ⟨rfl, hb1⟩; obtain ⟨x0, x1, x2, x3, x4, hbw⟩ := keep5 hb1; clear hb1)))
   go_ret
   exact ⟨rfl, by first | exact hbw | exact HA.out⟩
  cases q1
  ·go_enter Tryz.func26, Tryz.ntmps26
   go_wp2_with (first
    | (go_at_call 46; go_must (refine (CV.out _).mono ?_; rintro e w1 ⟨rfl, hb1⟩; obtain ⟨x0, x1, x2, x3, x4, hbw⟩ := keep5 hb1; clear hb1))
    | (go_at_call 45; go_must (refine CL.out.mono ?_; rintro e w1 ⟨rfl, hb1⟩; obtain ⟨x0, x1, x2, x3, x4, hbw⟩ := keep5 hb1; clear hb1)))
   go_ret
   exact ⟨rfl, by first | exact hbw | exact HA.out⟩
  cases q2
  ·go_enter Tryz.func26, Tryz.ntmps26
   go_wp2_with (first
    | (go_at_call 46; go_must (refine (CV.out _).mono ?_; rintro e w1 ⟨rfl, hb1⟩; obtain ⟨x0, x1, x2, x3, x4, hbw⟩ := keep5 hb1; clear hb1))
    | (go_at_call 45; go_must (refine CL.out.mono ?_; rintro e w1 ⟨rfl, hb1⟩; obtain ⟨x0, x1, x2, x3, x4, hbw⟩ := keep5 hb1; clear hb1)))
   go_ret
   exact ⟨rfl, by first | exact hbw | exact HA.out⟩
  cases q3
  ·go_enter Tryz.func26, Tryz.ntmps26
   go_wp2_with (first
    | (go_at_call 46; go_must (refine (CV.out _).mono ?_; rintro e w1 ⟨rfl, hb1⟩; obtain ⟨x0, x1, x2, x3, x4, hbw⟩ := keep5 hb1; clear hb1))
    | (go_at_call 45; go_must (refine CL.out.mono ?_; rintro e w1 ⟨rfl, hb1⟩; obtain ⟨x0, x1, x2, x3, x4, hbw⟩ := keep5 hb1; clear hb1)))
   go_ret
   exact ⟨rfl, by first | exact hbw | exact HA.out⟩
  go_enter Tryz.func26, Tryz.ntmps26
  go_wp2_with (first
   | (go_at_call 46; go_must (refine (CV.out _).mono ?_; rintro e w1 ⟨rfl, hb1⟩; obtain ⟨x0, x1, x2, x3, x4, hbw⟩ := keep5 hb1; clear hb1))
   | (go_at_call 45; go_must (refine CL.out.mono ?_; rintro e w1 ⟨rfl, hb1⟩; obtain ⟨x0, x1, x2, x3, x4, hbw⟩ := keep5 hb1; clear hb1)))
  go_ret
  exact ⟨rfl, by first | exact hbw | exact HA.out⟩
 by_cases hkd5 : kd = 5
 ·subst hkd5
  clear hkd1 hkd2 hkd3 hkd4;rw [part_5];have h0' : (so != 0) = !(so == 0) := rfl;generalize h0 : (so == 0) = q0 at h0' ⊢;generalize h1 : (nm.toList.isEmpty) = q1;generalize h2 : ((ls.length : Int) == 0) = q2;generalize h3 : ((ks.length : Int) == 2) = q3;cases q0
  ·go_enter Tryz.func26, Tryz.ntmps26
   go_wp2_with (first
    | (go_at_call 46; go_must (refine (CV.out _).mono ?_; rintro e w1 ⟨rfl, hb1⟩; obtain ⟨x0, x1, x2, x3, x4, hbw⟩ := keep5 hb1; clear hb1))
    | (go_at_call 45; go_must (refine CL.out.mono ?_; rintro e w1 ⟨rfl, hb1⟩; obtain ⟨x0, x1, x2, x3, x4, hbw⟩ := keep5 hb1; clear hb1)))
   go_ret
   exact ⟨rfl, by first | exact hbw | exact HA.out⟩
  cases q1
  ·go_enter Tryz.func26, Tryz.ntmps26
   go_wp2_with (first
    | (go_at_call 46; go_must (refine (CV.out _).mono ?_; rintro e w1 ⟨rfl, hb1⟩; obtain ⟨x0, x1, x2, x3, x4, hbw⟩ := keep5 hb1; clear hb1))
    | (go_at_call 45; go_must (refine CL.out.mono ?_; rintro e w1 ⟨rfl, hb1⟩; obtain ⟨x0, x1, x2, x3, x4, hbw⟩ := keep5 hb1; clear hb1)))
   go_ret
   exact ⟨rfl, by first | exact hbw | exact HA.out⟩
  cases q2
  ·go_enter Tryz.func26, Tryz.ntmps26
   go_wp2_with (first
    | (go_at_call 46; go_must (refine (CV.out _).mono ?_; rintro e w1 ⟨rfl, hb1⟩; obtain ⟨x0, x1, x2, x3, x4, hbw⟩ := keep5 hb1; clear hb1))
    | (go_at_call 45; go_must (refine CL.out.mono ?_; rintro e w1 ⟨rfl, hb1⟩; obtain ⟨x0, x1, x2, x3, x4, hbw⟩ := keep5 hb1; clear hb1)))
   go_ret
   exact ⟨rfl, by first | exact hbw | exact HA.out⟩
  cases q3
  ·go_enter Tryz.func26, Tryz.ntmps26
   go_wp2_with (first
    | (go_at_call 46; go_must (refine (CV.out _).mono ?_; rintro e w1 ⟨rfl, hb1⟩; obtain ⟨x0, x1, x2, x3, x4, hbw⟩ := keep5 hb1; clear hb1))
    | (go_at_call 45; go_must (refine CL.out.mono ?_; rintro e w1 ⟨rfl, hb1⟩; obtain ⟨x0, x1, x2, x3, x4, hbw⟩ := keep5 hb1; clear hb1)))
   go_ret
   exact ⟨rfl, by first | exact hbw | exact HA.out⟩
  go_enter Tryz.func26, Tryz.ntmps26
  go_wp2_with (first
   | (go_at_call 46; go_must (refine (CV.out _).mono ?_; rintro e w1 ⟨rfl, hb1⟩; obtain ⟨x0, x1, x2, x3, x4, hbw⟩ := keep5 hb1; clear hb1))
   | (go_at_call 45; go_must (refine CL.out.mono ?_; rintro e w1 ⟨rfl, hb1⟩; obtain ⟨x0, x1, x2, x3, x4, hbw⟩ := keep5 hb1; clear hb1)))
  go_ret
  exact ⟨rfl, by first | exact hbw | exact HA.out⟩
 by_cases hkd6 : kd = 6
 ·subst hkd6
  clear hkd1 hkd2 hkd3 hkd4 hkd5;rw [part_6];have h0' : (so != 0) = !(so == 0) := rfl;generalize h0 : (so == 0) = q0 at h0' ⊢;generalize h1 : (nm.toList.isEmpty) = q1;generalize h2 : labsOK ls = q2 at CL ⊢;generalize h3 : ((ks.length : Int) == (ls.length : Int)) = q3;cases q0
  ·go_enter Tryz.func26, Tryz.ntmps26
   go_wp2_with (first
    | (go_at_call 46; go_must (refine (CV.out _).mono ?_; rintro e w1 ⟨rfl, hb1⟩; obtain ⟨x0, x1, x2, x3, x4, hbw⟩ := keep5 hb1; clear hb1))
    | (go_at_call 45; go_must (refine CL.out.mono ?_; rintro e w1 ⟨rfl, hb1⟩; obtain ⟨x0, x1, x2, x3, x4, hbw⟩ := keep5 hb1; clear hb1)))
   go_ret
   exact ⟨rfl, by first | exact hbw | exact HA.out⟩
  cases q1
  ·go_enter Tryz.func26, Tryz.ntmps26
   go_wp2_with (first
    | (go_at_call 46; go_must (refine (CV.out _).mono ?_; rintro e w1 ⟨rfl, hb1⟩; obtain ⟨x0, x1, x2, x3, x4, hbw⟩ := keep5 hb1; clear hb1))
    | (go_at_call 45; go_must (refine CL.out.mono ?_; rintro e w1 ⟨rfl, hb1⟩; obtain ⟨x0, x1, x2, x3, x4, hbw⟩ := keep5 hb1; clear hb1)))
   go_ret
   exact ⟨rfl, by first | exact hbw | exact HA.out⟩
  cases q2
  ·go_enter Tryz.func26, Tryz.ntmps26
   go_wp2_with (first
    | (go_at_call 46; go_must (refine (CV.out _).mono ?_; rintro e w1 ⟨rfl, hb1⟩; obtain ⟨x0, x1, x2, x3, x4, hbw⟩ := keep5 hb1; clear hb1))
    | (go_at_call 45; go_must (refine CL.out.mono ?_; rintro e w1 ⟨rfl, hb1⟩; obtain ⟨x0, x1, x2, x3, x4, hbw⟩ := keep5 hb1; clear hb1)))
   go_ret
   exact ⟨rfl, by first | exact hbw | exact HA.out⟩
  cases q3
  ·go_enter Tryz.func26, Tryz.ntmps26
   go_wp2_with (first
    | (go_at_call 46; go_must (refine (CV.out _).mono ?_; rintro e w1 ⟨rfl, hb1⟩; obtain ⟨x0, x1, x2, x3, x4, hbw⟩ := keep5 hb1; clear hb1))
    | (go_at_call 45; go_must (refine CL.out.mono ?_; rintro e w1 ⟨rfl, hb1⟩; obtain ⟨x0, x1, x2, x3, x4, hbw⟩ := keep5 hb1; clear hb1)))
   go_ret
   exact ⟨rfl, by first | exact hbw | exact HA.out⟩
  go_enter Tryz.func26, Tryz.ntmps26
  go_wp2_with (first
   | (go_at_call 46; go_must (refine (CV.out _).mono ?_; rintro e w1 ⟨rfl, hb1⟩; obtain ⟨x0, x1, x2, x3, x4, hbw⟩ := keep5 hb1; clear hb1))
   | (go_at_call 45; go_must (refine CL.out.mono ?_; rintro e w1 ⟨rfl, hb1⟩; obtain ⟨x0, x1, x2, x3, x4, hbw⟩ := keep5 hb1; clear hb1)))
  go_ret
  exact ⟨rfl, by first | exact hbw | exact HA.out⟩
 by_cases hkd7 : kd = 7
 ·subst hkd7
  clear hkd1 hkd2 hkd3 hkd4 hkd5 hkd6;rw [part_7];have h0' : (so != 0) = !(so == 0) := rfl;generalize h0 : (so == 0) = q0 at h0' ⊢;generalize h1 : (nm.toList.isEmpty) = q1;generalize h2 : labsOK ls = q2 at CL ⊢;generalize h3 : ((ks.length : Int) == (ls.length : Int)) = q3;cases q0
  ·go_enter Tryz.func26, Tryz.ntmps26
   go_wp2_with (first
    | (go_at_call 46; go_must (refine (CV.out _).mono ?_; rintro e w1 ⟨rfl, hb1⟩; obtain ⟨x0, x1, x2, x3, x4, hbw⟩ := keep5 hb1; clear hb1))
    | (go_at_call 45; go_must (refine CL.out.mono ?_; rintro e w1 ⟨rfl, hb1⟩; obtain ⟨x0, x1, x2, x3, x4, hbw⟩ := keep5 hb1; clear hb1)))
   go_ret
   exact ⟨rfl, by first | exact hbw | exact HA.out⟩
  cases q1
  ·go_enter Tryz.func26, Tryz.ntmps26
   go_wp2_with (first
    | (go_at_call 46; go_must (refine (CV.out _).mono ?_; rintro e w1 ⟨rfl, hb1⟩; obtain ⟨x0, x1, x2, x3, x4, hbw⟩ := keep5 hb1; clear hb1))
    | (go_at_call 45; go_must (refine CL.out.mono ?_; rintro e w1 ⟨rfl, hb1⟩; obtain ⟨x0, x1, x2, x3, x4, hbw⟩ := keep5 hb1; clear hb1)))
   go_ret
   exact ⟨rfl, by first | exact hbw | exact HA.out⟩
  cases q2
  ·go_enter Tryz.func26, Tryz.ntmps26
   go_wp2_with (first
    | (go_at_call 46; go_must (refine (CV.out _).mono ?_; rintro e w1 ⟨rfl, hb1⟩; obtain ⟨x0, x1, x2, x3, x4, hbw⟩ := keep5 hb1; clear hb1))
    | (go_at_call 45; go_must (refine CL.out.mono ?_; rintro e w1 ⟨rfl, hb1⟩; obtain ⟨x0, x1, x2, x3, x4, hbw⟩ := keep5 hb1; clear hb1)))
   go_ret
   exact ⟨rfl, by first | exact hbw | exact HA.out⟩
  cases q3
  ·go_enter Tryz.func26, Tryz.ntmps26
   go_wp2_with (first
    | (go_at_call 46; go_must (refine (CV.out _).mono ?_; rintro e w1 ⟨rfl, hb1⟩; obtain ⟨x0, x1, x2, x3, x4, hbw⟩ := keep5 hb1; clear hb1))
    | (go_at_call 45; go_must (refine CL.out.mono ?_; rintro e w1 ⟨rfl, hb1⟩; obtain ⟨x0, x1, x2, x3, x4, hbw⟩ := keep5 hb1; clear hb1)))
   go_ret
   exact ⟨rfl, by first | exact hbw | exact HA.out⟩
  go_enter Tryz.func26, Tryz.ntmps26
  go_wp2_with (first
   | (go_at_call 46; go_must (refine (CV.out _).mono ?_; rintro e w1 ⟨rfl, hb1⟩; obtain ⟨x0, x1, x2, x3, x4, hbw⟩ := keep5 hb1; clear hb1))
   | (go_at_call 45; go_must (refine CL.out.mono ?_; rintro e w1 ⟨rfl, hb1⟩; obtain ⟨x0, x1, x2, x3, x4, hbw⟩ := keep5 hb1; clear hb1)))
  go_ret
  exact ⟨rfl, by first | exact hbw | exact HA.out⟩
 by_cases hkd8 : kd = 8
 ·subst hkd8
  clear hkd1 hkd2 hkd3 hkd4 hkd5 hkd6 hkd7;rw [part_8];have h0' : (so != 0) = !(so == 0) := rfl;generalize h0 : (so == 0) = q0 at h0' ⊢;generalize h1 : isVr nm.data.toList = q1 at CV ⊢;generalize h2 : ((ls.length : Int) == 0) = q2;generalize h3 : ((ks.length : Int) == 1) = q3;cases q0
  ·go_enter Tryz.func26, Tryz.ntmps26
   go_wp2_with (first
    | (go_at_call 46; go_must (refine (CV.out _).mono ?_; rintro e w1 ⟨rfl, hb1⟩; obtain ⟨x0, x1, x2, x3, x4, hbw⟩ := keep5 hb1; clear hb1))
    | (go_at_call 45; go_must (refine CL.out.mono ?_; rintro e w1 ⟨rfl, hb1⟩; obtain ⟨x0, x1, x2, x3, x4, hbw⟩ := keep5 hb1; clear hb1)))
   go_ret
   exact ⟨rfl, by first | exact hbw | exact HA.out⟩
  cases q1
  ·go_enter Tryz.func26, Tryz.ntmps26
   go_wp2_with (first
    | (go_at_call 46; go_must (refine (CV.out _).mono ?_; rintro e w1 ⟨rfl, hb1⟩; obtain ⟨x0, x1, x2, x3, x4, hbw⟩ := keep5 hb1; clear hb1))
    | (go_at_call 45; go_must (refine CL.out.mono ?_; rintro e w1 ⟨rfl, hb1⟩; obtain ⟨x0, x1, x2, x3, x4, hbw⟩ := keep5 hb1; clear hb1)))
   go_ret
   exact ⟨rfl, by first | exact hbw | exact HA.out⟩
  cases q2
  ·go_enter Tryz.func26, Tryz.ntmps26
   go_wp2_with (first
    | (go_at_call 46; go_must (refine (CV.out _).mono ?_; rintro e w1 ⟨rfl, hb1⟩; obtain ⟨x0, x1, x2, x3, x4, hbw⟩ := keep5 hb1; clear hb1))
    | (go_at_call 45; go_must (refine CL.out.mono ?_; rintro e w1 ⟨rfl, hb1⟩; obtain ⟨x0, x1, x2, x3, x4, hbw⟩ := keep5 hb1; clear hb1)))
   go_ret
   exact ⟨rfl, by first | exact hbw | exact HA.out⟩
  cases q3
  ·go_enter Tryz.func26, Tryz.ntmps26
   go_wp2_with (first
    | (go_at_call 46; go_must (refine (CV.out _).mono ?_; rintro e w1 ⟨rfl, hb1⟩; obtain ⟨x0, x1, x2, x3, x4, hbw⟩ := keep5 hb1; clear hb1))
    | (go_at_call 45; go_must (refine CL.out.mono ?_; rintro e w1 ⟨rfl, hb1⟩; obtain ⟨x0, x1, x2, x3, x4, hbw⟩ := keep5 hb1; clear hb1)))
   go_ret
   exact ⟨rfl, by first | exact hbw | exact HA.out⟩
  go_enter Tryz.func26, Tryz.ntmps26
  go_wp2_with (first
   | (go_at_call 46; go_must (refine (CV.out _).mono ?_; rintro e w1 ⟨rfl, hb1⟩; obtain ⟨x0, x1, x2, x3, x4, hbw⟩ := keep5 hb1; clear hb1))
   | (go_at_call 45; go_must (refine CL.out.mono ?_; rintro e w1 ⟨rfl, hb1⟩; obtain ⟨x0, x1, x2, x3, x4, hbw⟩ := keep5 hb1; clear hb1)))
  go_ret
  exact ⟨rfl, by first | exact hbw | exact HA.out⟩
 by_cases hkd9 : kd = 9
 ·subst hkd9
  clear hkd1 hkd2 hkd3 hkd4 hkd5 hkd6 hkd7 hkd8;rw [part_9, Bool.and_assoc];have h0' : (so != 0) = !(so == 0) := rfl;generalize h0 : (so == 0) = q0 at h0' ⊢;generalize h1 : isVr nm.data.toList = q1 at CV ⊢;obtain ⟨zs, hz, hz0⟩ := sum_zero ls.length ks.length HLK.out.1 HLK.out.2;rw [← hz0];clear hz0;generalize h2 : (zs == 0) = q2;cases q0
  ·go_enter Tryz.func26, Tryz.ntmps26
   go_wp2_with (first
    | (go_at_call 46; go_must (refine (CV.out _).mono ?_; rintro e w1 ⟨rfl, hb1⟩; obtain ⟨x0, x1, x2, x3, x4, hbw⟩ := keep5 hb1; clear hb1))
    | (go_at_call 45; go_must (refine CL.out.mono ?_; rintro e w1 ⟨rfl, hb1⟩; obtain ⟨x0, x1, x2, x3, x4, hbw⟩ := keep5 hb1; clear hb1)))
   go_ret
   exact ⟨rfl, by first | exact hbw | exact HA.out⟩
  cases q1
  ·go_enter Tryz.func26, Tryz.ntmps26
   go_wp2_with (first
    | (go_at_call 46; go_must (refine (CV.out _).mono ?_; rintro e w1 ⟨rfl, hb1⟩; obtain ⟨x0, x1, x2, x3, x4, hbw⟩ := keep5 hb1; clear hb1))
    | (go_at_call 45; go_must (refine CL.out.mono ?_; rintro e w1 ⟨rfl, hb1⟩; obtain ⟨x0, x1, x2, x3, x4, hbw⟩ := keep5 hb1; clear hb1)))
   go_ret
   exact ⟨rfl, by first | exact hbw | exact HA.out⟩
  cases q2
  ·go_enter Tryz.func26, Tryz.ntmps26
   go_wp2_with (first
    | (go_at_call 46; go_must (refine (CV.out _).mono ?_; rintro e w1 ⟨rfl, hb1⟩; obtain ⟨x0, x1, x2, x3, x4, hbw⟩ := keep5 hb1; clear hb1))
    | (go_at_call 45; go_must (refine CL.out.mono ?_; rintro e w1 ⟨rfl, hb1⟩; obtain ⟨x0, x1, x2, x3, x4, hbw⟩ := keep5 hb1; clear hb1)))
   go_ret
   exact ⟨rfl, by first | exact hbw | exact HA.out⟩
  go_enter Tryz.func26, Tryz.ntmps26
  go_wp2_with (first
   | (go_at_call 46; go_must (refine (CV.out _).mono ?_; rintro e w1 ⟨rfl, hb1⟩; obtain ⟨x0, x1, x2, x3, x4, hbw⟩ := keep5 hb1; clear hb1))
   | (go_at_call 45; go_must (refine CL.out.mono ?_; rintro e w1 ⟨rfl, hb1⟩; obtain ⟨x0, x1, x2, x3, x4, hbw⟩ := keep5 hb1; clear hb1)))
  go_ret
  exact ⟨rfl, by first | exact hbw | exact HA.out⟩
 have hp : partT ⟨kd, so, nm, ls, ks⟩ = false := by simp [partT, hkd1, hkd2, hkd3, hkd4, hkd5, hkd6, hkd7, hkd8, hkd9]
 rw [hp];have k1 : (kd == 1) = false := by simpa using hkd1
 have k2 : (kd == 2) = false := by simpa using hkd2
 have k3 : (kd == 3) = false := by simpa using hkd3
 have k4 : (kd == 4) = false := by simpa using hkd4
 have k5 : (kd == 5) = false := by simpa using hkd5
 have k6 : (kd == 6) = false := by simpa using hkd6
 have k7 : (kd == 7) = false := by simpa using hkd7
 have k8 : (kd == 8) = false := by simpa using hkd8
 have k9 : (kd == 9) = false := by simpa using hkd9
 clear hp hkd1 hkd2 hkd3 hkd4 hkd5 hkd6 hkd7 hkd8 hkd9;go_enter Tryz.func26, Tryz.ntmps26
 go_wp2_with (first
  | (go_at_call 46; go_must (refine (CV.out _).mono ?_; rintro e w1 ⟨rfl, hb1⟩; obtain ⟨x0, x1, x2, x3, x4, hbw⟩ := keep5 hb1; clear hb1))
  | (go_at_call 45; go_must (refine CL.out.mono ?_; rintro e w1 ⟨rfl, hb1⟩; obtain ⟨x0, x1, x2, x3, x4, hbw⟩ := keep5 hb1; clear hb1)))
 go_ret
 exact ⟨rfl, by first | exact hbw | exact HA.out⟩
end Go.Proofs.YtpamhimmdoimoaaGreatDoor
