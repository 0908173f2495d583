/-
  The contracts of duetref.IsVar and duetref.Labels.
-/
import Derived.Test.YtpamhimmdoimoaaGreatDoorSz
import Derived.Test.YtpamhimmdoimoaaGreatDoorKb
import Derived.Test.YtpamhimmdoimoaaGreatDoorRb
import Derived.Deep.RegionHeld3
namespace Go.Proofs.YtpamhimmdoimoaaGreatDoor
open Go.RowKit Go.Shelf
set_option maxHeartbeats 400000 in
theorem refIsVar_any (s : ByteArray) (w : World) (hs : s.size ≤ 9223372036854775807) :
  Calls Tryz.prog 46 #[.string s] w fun e w' => e = .returned (.bool (isVr s.data.toList)) ∧ Below w.heap.size w w' := by
 have cN := refIsName_any s w hs;unfold isVr;have b1 : (s.toList == [101, 110, 100]) = decide (s.data.toList = [101, 110, 100]) := by rw [beqL]
 have b2 : (s.toList == [114, 101, 99]) = decide (s.data.toList = [114, 101, 99]) := by rw [beqL]
 generalize isNm s.data.toList = q at cN ⊢;generalize decide (s.data.toList = [101, 110, 100]) = q1 at b1 ⊢;generalize decide (s.data.toList = [114, 101, 99]) = q2 at b2 ⊢;cases q <;> cases q1 <;> cases q2
 all_goals
  go_enter Tryz.func46, Tryz.ntmps46
  go_wp2_with (go_at_call 63; refine cN.mono ?_; rintro e w1 ⟨rfl, hb⟩)
  go_ret
  exact ⟨rfl, hb⟩
theorem take_oneHU {P : Program} {ops : Array Oper} {md : Region.Mode} {Q : Exit → Act → World → Prop} {S : World → Prop} {fuel : Nat} {listed : Array Bool} {a : Act} {w : World} (i : Nat) (h : AllReadyH P md ops Q S fuel listed a w [i]) (hr : Region.ready md ops listed = [i]) : wpAnyH P md ops Q S (fuel + 1) listed a w := wpAnyH_ready hr (by simp) h
theorem less_total : ∀ l l' : List UInt8, (!Op.bytesLess l' l) = (Op.bytesLess l l' || (l' == l))
 | [], [] => by simp [Op.bytesLess]
 | [], _ :: _ => by simp [Op.bytesLess]
 | _ :: _, [] => by simp [Op.bytesLess]
 | x :: xs, y :: ys => by
  have ih := less_total xs ys;unfold Op.bytesLess;by_cases h1 : x = y
  ·subst h1; simp [ih]
  ·by_cases h2 : x < y
   ·have h3 : ¬ y < x := fun h => absurd (UInt8.lt_trans h2 h) (UInt8.lt_irrefl _)
    simp [h2, h3, Ne.symm h1]
   ·have h3 : y < x := by
     rcases UInt8.lt_or_lt_of_ne h1 with h | h
     ·exact absurd h h2
     ·exact h
    simp [h1, h2, h3, Ne.symm h1]
set_option maxRecDepth 100000 in
set_option maxHeartbeats 4000000 in
theorem refLabels_any (ls : List ByteArray) (al : OAd) (cl : Nat) (w : World) (hbd : ∀ l ∈ ls, l.size ≤ 9223372036854775807) (hl : ls.length ≤ 9223372036854775807) (hla : LA w w.heap.size ls al) :
  Calls Tryz.prog 45 #[.slice al ls.length cl] w fun e w' => e = .returned (.bool (labsOK ls)) ∧ Below w.heap.size w w' := by
 rcases hla with hla | ⟨b, o, rfl, hbB, hc⟩
 ·simp at hla; subst hla
  go_enter Tryz.func45, Tryz.ntmps45
  go_wp2_with fail
  go_loopw [3] (fun i wr => i = .int .i64 0 ∧ wr = w) (fun _ _ => 0)
  case atStart => exact ⟨rfl, rfl⟩
  case round =>
   obtain ⟨rfl, rfl⟩ := hrel;go_wp2_with fail
   go_ret
   exact ⟨rfl, Below.refl _ _⟩
 have hlz0 : (ls.length : Int) ≤ 9223372036854775807 := by omega
 have hcell : ∀ (W : World) (k : Nat) (hk : k < ls.length), Below w.heap.size w W → W.cell? ⟨b, o + k, none⟩ = some (.string ls[k]) := fun W k hk hb => (hb.cell (p := ⟨b, o + k, none⟩) hbB).trans (by have := hc k (by simpa using hk); simpa using this)
 have HC := hideK hcell;have HY := hideK (fun h1 h6 => labs_yes ls h1 h6)
 have HNL := hideK (show ¬ (1 ≤ ls.length ∧ ls.length ≤ 6) → labsOK ls = false from fun h6 => by unfold labsOK; rw [Bool.and_eq_false_iff]; left; simpa using h6)
 have HBD := hideK hbd;clear hcell hc hbd;go_enter Tryz.func45, Tryz.ntmps45
 go_wp2_with fail
 go_loopw [3] (fun i wr => ∃ k : Nat, k ≤ ls.length ∧ i = .int .i64 (k : Int) ∧ (∀ j, j < k → labAt ls j = true) ∧ Below w.heap.size w wr) (fun i _ => ls.length - (intOf i).toNat)
 case atStart => exact ⟨0, Nat.zero_le _, rfl, fun j hj => by omega, Below.refl _ _⟩
 case round =>
  obtain ⟨k, hk, rfl, hall, hb⟩ := hrel;have HALL := hideK hall;have HB := hideK hb;have HD := hideK hb.drew;clear hall hb;by_cases hlt : k < ls.length
  ·have hltz : (k : Int) < (ls.length : Int) := by omega
   have ck := HC.out wr.drew k hlt HD.out;have CN := hideK (fun W => refIsName_any ls[k] W (HBD.out _ (List.getElem_mem hlt)))
   have HNO := hideK (labs_no ls k hlt);have HAT := hideK (show labAt ls k = (isNm ls[k].data.toList && !(decide (0 < k) && leB ls[k] (ls.getD (k - 1) ⟨#[]⟩))) from by unfold labAt; rw [getD_at ls k hlt])
   have HCK := hideK (fun W hb => HC.out W k hlt hb)
   have hkz : (k : Int) ≤ 9223372036854775806 := by omega
   generalize hq : isNm ls[k].data.toList = q at CN;cases q
   ·have HF : Hid (labAt ls k = false) := by show _ = _; rw [HAT.out, hq]; rfl
    clear hq;generalize ls[k] = lk at *;go_wp2_with fail
    refine wp_region_held_drew (S := (fun W : World => W.cell? ⟨b, o + k, none⟩ = some (.string lk))) (by kernel_rfl) ck (fun hS => ?_)
    refine tkH 0 (.slice (some ⟨b, o, none⟩) ls.length cl) hS ?_;try simp only [Act.put, sA, sB, sC]
    refine tkH 1 (.int .i64 (k : Int)) hS ?_;try simp only [Act.put, sA, sB, sC]
    refine tkH 2 (.pointer (some ⟨b, o + k, none⟩)) hS ?_;try simp only [Act.put, sA, sB, sC]
    refine tkH 3 (.string lk) hS ?_ (hy := Or.inl ⟨by rfl, fun W hW => by have x0 := hW; go_simp⟩)
    try simp only [Act.put, sA, sB, sC]
    refine take_oneHU 4 (AllReadyH.cons (by rw [List.getElem?_toArray]; rfl) (fun K hK => ?_) AllReadyH.nil) (by kernel_rfl)
    go_simp
    refine (CN.out _).mono ?_;rintro e w1 ⟨rfl, hb1⟩;have HB1 := hideK (HD.out.trans (hb1.mono HD.out.size));have hSn : (fun W : World => W.cell? ⟨b, o + k, none⟩ = some (.string lk)) w1 := HCK.out _ HB1.out
    refine hK.out _ _ hSn ?_;clear hS hK K hSn hb1;intro hS;try simp only [Act.put, sA, sB, sC]
    refine tkH 5 (.bool true) hS ?_;try simp only [Act.put, sA, sB, sC]
    refine tkH 6 (.bool true) hS ?_;try simp only [Act.put, sA, sB, sC]
    refine tkH 7 undef hS ?_ (hy := Or.inr ⟨by rfl, rfl⟩)
    try simp only [Act.put, sA, sB, sC]
    refine tkH 8 undef hS ?_ (hy := Or.inr ⟨by rfl, rfl⟩)
    try simp only [Act.put, sA, sB, sC]
    refine tkH 9 undef hS ?_ (hy := Or.inr ⟨by rfl, rfl⟩)
    try simp only [Act.put, sA, sB, sC]
    refine tkH 10 undef hS ?_ (hy := Or.inr ⟨by rfl, rfl⟩)
    try simp only [Act.put, sA, sB, sC]
    refine tkH 11 undef hS ?_ (hy := Or.inr ⟨by rfl, rfl⟩)
    try simp only [Act.put, sA, sB, sC]
    refine tkH 12 undef hS ?_ (hy := Or.inr ⟨by rfl, rfl⟩)
    try simp only [Act.put, sA, sB, sC]
    refine tkH 13 undef hS ?_ (hy := Or.inr ⟨by rfl, rfl⟩)
    try simp only [Act.put, sA, sB, sC]
    refine tkH 14 undef hS ?_ (hy := Or.inr ⟨by rfl, rfl⟩)
    try simp only [Act.put, sA, sB, sC]
    refine tkH 15 undef hS ?_ (hy := Or.inr ⟨by rfl, rfl⟩)
    try simp only [Act.put, sA, sB, sC]
    refine tkH 16 undef hS ?_ (hy := Or.inr ⟨by rfl, rfl⟩)
    try simp only [Act.put, sA, sB, sC]
    refine tkH 17 undef hS ?_ (hy := Or.inr ⟨by rfl, rfl⟩)
    try simp only [Act.put, sA, sB, sC]
    refine tkH 18 undef hS ?_ (hy := Or.inr ⟨by rfl, rfl⟩)
    try simp only [Act.put, sA, sB, sC]
    refine tkH 19 undef hS ?_ (hy := Or.inr ⟨by rfl, rfl⟩)
    try simp only [Act.put, sA, sB, sC]
    refine tkH 20 undef hS ?_ (hy := Or.inr ⟨by rfl, rfl⟩)
    try simp only [Act.put, sA, sB, sC]
    refine tkH 21 (.bool true) hS ?_;try simp only [Act.put, sA, sB, sC]
    refine wpAnyH_done (by kernel_rfl) ?_ _
    clear hS;go_wp2_with fail
    go_ret
    exact ⟨by rw [HNO.out HF.out]; rfl, HB1.out⟩
   ·have HQ := hideK hq
    clear hq;by_cases h0 : k = 0
    ·have kz : ¬ (0 : Int) < (k : Int) := by omega
     have kz2 : ¬ 0 < k := by omega
     have HF : Hid (∀ j, j < k + 1 → labAt ls j = true) := fun j hj => by
      obtain rfl : j = k := by omega
      subst h0;rw [HAT.out, HQ.out]; rfl
     clear h0;generalize ls[k] = lk at *;go_wp2_with fail
     refine wp_region_held_drew (S := (fun W : World => W.cell? ⟨b, o + k, none⟩ = some (.string lk))) (by kernel_rfl) ck (fun hS => ?_)
     refine tkH 0 (.slice (some ⟨b, o, none⟩) ls.length cl) hS ?_;try simp only [Act.put, sA, sB, sC]
     refine tkH 1 (.int .i64 (k : Int)) hS ?_;try simp only [Act.put, sA, sB, sC]
     refine tkH 2 (.pointer (some ⟨b, o + k, none⟩)) hS ?_;try simp only [Act.put, sA, sB, sC]
     refine tkH 3 (.string lk) hS ?_ (hy := Or.inl ⟨by rfl, fun W hW => by have x0 := hW; go_simp⟩)
     try simp only [Act.put, sA, sB, sC]
     refine take_oneHU 4 (AllReadyH.cons (by rw [List.getElem?_toArray]; rfl) (fun K hK => ?_) AllReadyH.nil) (by kernel_rfl)
     go_simp
     refine (CN.out _).mono ?_;rintro e w1 ⟨rfl, hb1⟩;have HB1 := hideK (HD.out.trans (hb1.mono HD.out.size));have hSn : (fun W : World => W.cell? ⟨b, o + k, none⟩ = some (.string lk)) w1 := HCK.out _ HB1.out
     refine hK.out _ _ hSn ?_;clear hS hK K hSn hb1;intro hS;try simp only [Act.put, sA, sB, sC]
     refine tkH 5 (.bool false) hS ?_;try simp only [Act.put, sA, sB, sC]
     refine tkH 6 (.bool false) hS ?_;try simp only [Act.put, sA, sB, sC]
     refine tkH 7 (.int .i64 (k : Int)) hS ?_;try simp only [Act.put, sA, sB, sC]
     refine tkH 8 (.bool false) hS ?_;try simp only [Act.put, sA, sB, sC]
     refine tkH 9 (.bool false) hS ?_;try simp only [Act.put, sA, sB, sC]
     refine tkH 10 undef hS ?_ (hy := Or.inr ⟨by rfl, rfl⟩)
     try simp only [Act.put, sA, sB, sC]
     refine tkH 11 undef hS ?_ (hy := Or.inr ⟨by rfl, rfl⟩)
     try simp only [Act.put, sA, sB, sC]
     refine tkH 12 undef hS ?_ (hy := Or.inr ⟨by rfl, rfl⟩)
     try simp only [Act.put, sA, sB, sC]
     refine tkH 13 undef hS ?_ (hy := Or.inr ⟨by rfl, rfl⟩)
     try simp only [Act.put, sA, sB, sC]
     refine tkH 14 undef hS ?_ (hy := Or.inr ⟨by rfl, rfl⟩)
     try simp only [Act.put, sA, sB, sC]
     refine tkH 15 undef hS ?_ (hy := Or.inr ⟨by rfl, rfl⟩)
     try simp only [Act.put, sA, sB, sC]
     refine tkH 16 undef hS ?_ (hy := Or.inr ⟨by rfl, rfl⟩)
     try simp only [Act.put, sA, sB, sC]
     refine tkH 17 undef hS ?_ (hy := Or.inr ⟨by rfl, rfl⟩)
     try simp only [Act.put, sA, sB, sC]
     refine tkH 18 undef hS ?_ (hy := Or.inr ⟨by rfl, rfl⟩)
     try simp only [Act.put, sA, sB, sC]
     refine tkH 19 undef hS ?_ (hy := Or.inr ⟨by rfl, rfl⟩)
     try simp only [Act.put, sA, sB, sC]
     refine tkH 20 (.bool false) hS ?_;try simp only [Act.put, sA, sB, sC]
     refine tkH 21 (.bool false) hS ?_;try simp only [Act.put, sA, sB, sC]
     refine wpAnyH_done (by kernel_rfl) ?_ _
     clear hS;go_wp2_with fail
     go_roundw
     case rel => exact ⟨k + 1, by omega, by go_num, HF.out, HB1.out⟩
     case measure => simp [intOf]; omega
    ·obtain ⟨m, hkm⟩ : ∃ m, k = m + 1 := ⟨k - 1, by omega⟩
     have hm : m < ls.length := by omega
     have hgd : ls.getD (k - 1) ⟨#[]⟩ = ls[m] := by rw [show k - 1 = m by omega]; exact getD_at ls m hm
     have cm := HC.out wr.drew m hm HD.out;have HCM := hideK (fun W hb => HC.out W m hm hb)
     generalize hr : leB ls[k] ls[m] = r;have HF : Hid (labAt ls k = !r) := by show _ = _; rw [HAT.out, HQ.out, hgd, hr]; simp; omega
     have hr2 := hr;unfold leB at hr2;clear hr hgd h0 HAT HQ;have hmz : (0 : Int) < (k : Int) := by omega
     have hmz2 : 0 < k := by omega
     have HK1 := hideK (show (k : Int) - 1 = (m : Int) from by omega)
     have HW1 := hideK (show IntKind.i64.wrap (m : Int) = (m : Int) from wrap_small _ (by omega) (by omega))
     have HKE := hideK hkm;clear hkm;generalize ls[k] = lk at *;generalize ls[m] = lm at *;have hr3 : (Op.bytesLess lk.toList lm.toList || (lm.toList == lk.toList)) = r := by rw [← hr2, Bool.beq_comm (a := lm.toList)]
     rw [← less_total] at hr3;have HR3 := hideK hr3;have HKM := hideK (And.intro ck cm);clear hr2 hr3 ck cm;cases r
     ·go_wp2_with fail
      refine wp_region_held_drew (S := (fun W : World => W.cell? ⟨b, o + k, none⟩ = some (.string lk) ∧ W.cell? ⟨b, o + m, none⟩ = some (.string lm))) (by kernel_rfl) HKM.out (fun hS => ?_)
      refine tkH 0 (.slice (some ⟨b, o, none⟩) ls.length cl) hS ?_;try simp only [Act.put, sA, sB, sC]
      refine tkH 1 (.int .i64 (k : Int)) hS ?_;try simp only [Act.put, sA, sB, sC]
      refine tkH 2 (.pointer (some ⟨b, o + k, none⟩)) hS ?_;try simp only [Act.put, sA, sB, sC]
      refine tkH 3 (.string lk) hS ?_ (hy := Or.inl ⟨by rfl, fun W hW => by obtain ⟨x0, x1⟩ := hW; go_simp⟩)
      try simp only [Act.put, sA, sB, sC]
      refine take_oneHU 4 (AllReadyH.cons (by rw [List.getElem?_toArray]; rfl) (fun K hK => ?_) AllReadyH.nil) (by kernel_rfl)
      go_simp
      refine (CN.out _).mono ?_;rintro e w1 ⟨rfl, hb1⟩;have HB1 := hideK (HD.out.trans (hb1.mono HD.out.size));have hSn : (fun W : World => W.cell? ⟨b, o + k, none⟩ = some (.string lk) ∧ W.cell? ⟨b, o + m, none⟩ = some (.string lm)) w1 := ⟨HCK.out _ HB1.out, HCM.out _ HB1.out⟩
      refine hK.out _ _ hSn ?_;clear hS hK K hSn hb1;intro hS;try simp only [Act.put, sA, sB, sC]
      refine tkH 5 (.bool false) hS ?_;try simp only [Act.put, sA, sB, sC]
      refine tkH 6 (.bool false) hS ?_;try simp only [Act.put, sA, sB, sC]
      refine tkH 7 (.int .i64 (k : Int)) hS ?_;try simp only [Act.put, sA, sB, sC]
      refine tkH 8 (.bool true) hS ?_;try simp only [Act.put, sA, sB, sC]
      refine tkH 9 (.bool true) hS ?_;try simp only [Act.put, sA, sB, sC]
      refine tkH 10 (.slice (some ⟨b, o, none⟩) ls.length cl) hS ?_;try simp only [Act.put, sA, sB, sC]
      refine tkH 11 (.int .i64 (k : Int)) hS ?_;try simp only [Act.put, sA, sB, sC]
      refine tkH 12 (.int .i64 (m : Int)) hS ?_ (hy := Or.inl ⟨by rfl, fun W hW => by have hk1 := HK1.out; have hw1 := HW1.out; go_simp⟩)
      try simp only [Act.put, sA, sB, sC]
      refine tkH 13 (.pointer (some ⟨b, o + m, none⟩)) hS ?_;try simp only [Act.put, sA, sB, sC]
      refine tkH 14 (.string lm) hS ?_ (hy := Or.inl ⟨by rfl, fun W hW => by obtain ⟨x0, x1⟩ := hW; go_simp⟩)
      try simp only [Act.put, sA, sB, sC]
      refine tkH 15 (.slice (some ⟨b, o, none⟩) ls.length cl) hS ?_;try simp only [Act.put, sA, sB, sC]
      refine tkH 16 (.int .i64 (k : Int)) hS ?_;try simp only [Act.put, sA, sB, sC]
      refine tkH 17 (.pointer (some ⟨b, o + k, none⟩)) hS ?_;try simp only [Act.put, sA, sB, sC]
      refine tkH 18 (.string lk) hS ?_ (hy := Or.inl ⟨by rfl, fun W hW => by obtain ⟨x0, x1⟩ := hW; go_simp⟩)
      try simp only [Act.put, sA, sB, sC]
      refine tkH 19 (.bool false) hS ?_ (hy := Or.inl ⟨by rfl, fun W hW => by have hr4 := HR3.out; go_simp⟩)
      try simp only [Act.put, sA, sB, sC]
      refine tkH 20 (.bool false) hS ?_;try simp only [Act.put, sA, sB, sC]
      refine tkH 21 (.bool false) hS ?_;try simp only [Act.put, sA, sB, sC]
      refine wpAnyH_done (by kernel_rfl) ?_ _
      clear hS;go_wp2_with fail
      go_roundw
      case rel => exact ⟨k + 1, by omega, by go_num, fun j hj => by
       by_cases hj2 : j < k
       ·exact HALL.out j hj2
       ·obtain rfl : j = k := by omega
        rw [HF.out]; rfl, HB1.out⟩
      case measure => simp [intOf]; omega
     ·go_wp2_with fail
      refine wp_region_held_drew (S := (fun W : World => W.cell? ⟨b, o + k, none⟩ = some (.string lk) ∧ W.cell? ⟨b, o + m, none⟩ = some (.string lm))) (by kernel_rfl) HKM.out (fun hS => ?_)
      refine tkH 0 (.slice (some ⟨b, o, none⟩) ls.length cl) hS ?_;try simp only [Act.put, sA, sB, sC]
      refine tkH 1 (.int .i64 (k : Int)) hS ?_;try simp only [Act.put, sA, sB, sC]
      refine tkH 2 (.pointer (some ⟨b, o + k, none⟩)) hS ?_;try simp only [Act.put, sA, sB, sC]
      refine tkH 3 (.string lk) hS ?_ (hy := Or.inl ⟨by rfl, fun W hW => by obtain ⟨x0, x1⟩ := hW; go_simp⟩)
      try simp only [Act.put, sA, sB, sC]
      refine take_oneHU 4 (AllReadyH.cons (by rw [List.getElem?_toArray]; rfl) (fun K hK => ?_) AllReadyH.nil) (by kernel_rfl)
      go_simp
      refine (CN.out _).mono ?_;rintro e w1 ⟨rfl, hb1⟩;have HB1 := hideK (HD.out.trans (hb1.mono HD.out.size));have hSn : (fun W : World => W.cell? ⟨b, o + k, none⟩ = some (.string lk) ∧ W.cell? ⟨b, o + m, none⟩ = some (.string lm)) w1 := ⟨HCK.out _ HB1.out, HCM.out _ HB1.out⟩
      refine hK.out _ _ hSn ?_;clear hS hK K hSn hb1;intro hS;try simp only [Act.put, sA, sB, sC]
      refine tkH 5 (.bool false) hS ?_;try simp only [Act.put, sA, sB, sC]
      refine tkH 6 (.bool false) hS ?_;try simp only [Act.put, sA, sB, sC]
      refine tkH 7 (.int .i64 (k : Int)) hS ?_;try simp only [Act.put, sA, sB, sC]
      refine tkH 8 (.bool true) hS ?_;try simp only [Act.put, sA, sB, sC]
      refine tkH 9 (.bool true) hS ?_;try simp only [Act.put, sA, sB, sC]
      refine tkH 10 (.slice (some ⟨b, o, none⟩) ls.length cl) hS ?_;try simp only [Act.put, sA, sB, sC]
      refine tkH 11 (.int .i64 (k : Int)) hS ?_;try simp only [Act.put, sA, sB, sC]
      refine tkH 12 (.int .i64 (m : Int)) hS ?_ (hy := Or.inl ⟨by rfl, fun W hW => by have hk1 := HK1.out; have hw1 := HW1.out; go_simp⟩)
      try simp only [Act.put, sA, sB, sC]
      refine tkH 13 (.pointer (some ⟨b, o + m, none⟩)) hS ?_;try simp only [Act.put, sA, sB, sC]
      refine tkH 14 (.string lm) hS ?_ (hy := Or.inl ⟨by rfl, fun W hW => by obtain ⟨x0, x1⟩ := hW; go_simp⟩)
      try simp only [Act.put, sA, sB, sC]
      refine tkH 15 (.slice (some ⟨b, o, none⟩) ls.length cl) hS ?_;try simp only [Act.put, sA, sB, sC]
      refine tkH 16 (.int .i64 (k : Int)) hS ?_;try simp only [Act.put, sA, sB, sC]
      refine tkH 17 (.pointer (some ⟨b, o + k, none⟩)) hS ?_;try simp only [Act.put, sA, sB, sC]
      refine tkH 18 (.string lk) hS ?_ (hy := Or.inl ⟨by rfl, fun W hW => by obtain ⟨x0, x1⟩ := hW; go_simp⟩)
      try simp only [Act.put, sA, sB, sC]
      refine tkH 19 (.bool true) hS ?_ (hy := Or.inl ⟨by rfl, fun W hW => by have hr4 := HR3.out; go_simp⟩)
      try simp only [Act.put, sA, sB, sC]
      refine tkH 20 (.bool true) hS ?_;try simp only [Act.put, sA, sB, sC]
      refine tkH 21 (.bool true) hS ?_;try simp only [Act.put, sA, sB, sC]
      refine wpAnyH_done (by kernel_rfl) ?_ _
      clear hS;go_wp2_with fail
      go_ret
      exact ⟨by rw [HNO.out HF.out]; rfl, HB1.out⟩
  ·have hltz : ¬ (k : Int) < (ls.length : Int) := by omega
   have hke : k = ls.length := by omega
   subst hke;by_cases h1 : 1 ≤ ls.length
   ·by_cases h6 : ls.length ≤ 6
    ·have HT : Hid (labsOK ls = true) := HY.out h1 h6 (fun j hj => HALL.out j (by omega))
     have z1 : (0 : Int) < (ls.length : Int) := by omega
     have z2 : (ls.length : Int) < 7 := by omega
     go_wp2_with fail
     go_ret
     exact ⟨by rw [HT.out]; rfl, HB.out⟩
    ·have HT : Hid (labsOK ls = false) := HNL.out (fun q => h6 q.2)
     have z1 : (0 : Int) < (ls.length : Int) := by omega
     have z2 : ¬ (ls.length : Int) < 7 := by omega
     go_wp2_with fail
     go_ret
     exact ⟨by rw [HT.out]; rfl, HB.out⟩
   ·have HT : Hid (labsOK ls = false) := HNL.out (fun q => h1 q.1)
    have z1 : ¬ (0 : Int) < (ls.length : Int) := by omega
    go_wp2_with fail
    go_ret
    exact ⟨by rw [HT.out]; rfl, HB.out⟩
end Go.Proofs.YtpamhimmdoimoaaGreatDoor
