/-
  The contracts of the closure of duetkeep.ExprsSorted and of slices.IndexFunc and slices.ContainsFunc with it, for every environment: is there one that is no value?
-/
import Derived.Test.YtclbillfffpknaaDoorXn
import Derived.Test.YtclbillfffpknaaDoorLv
namespace Go.Proofs.YtclbillfffpknaaDoor
open Go.RowKit Go.Shelf

set_option maxHeartbeats 400000 in
theorem sorted1_any (W0 : World) (h0 : Tabs W0) (nm : ByteArray) (so n : Int) (s : ByteArray) (w : World) (hT : AT W0 w) :
    Calls Tryd.prog 9 #[.agg #[.string nm, .int .i64 so, .int .i64 n, .string s]] w fun e w' => e = .returned (.bool (chkZ vD so n s != 0)) ∧ Below w.heap.size w w' := by
  have c := refValue_any so n s (w.alloc (.cells #[.string nm, .int .i64 so, .int .i64 n, .string s] 39)) (at_tabs h0 (at_k _ _ hT ((Below.refl _ _).alloc (Nat.le_refl _) _)))
  generalize chkZ vD so n s = z at c ⊢
  go_enter Tryd.func9, Tryd.ntmps9
  go_wp2_with fail
  refine c.mono ?_
  rintro e w1 ⟨rfl, hb⟩
  go_wp2_with fail
  go_ret
  exact ⟨rfl, ((Below.refl _ _).alloc (Nat.le_refl _) _).trans (hb.mono (by simp))⟩

set_option maxHeartbeats 1000000 in
theorem indexBad_any (W0 : World) (h0 : Tabs W0) (bs : List (ByteArray × Vl)) (ae : Option Addr) (ce : Nat) (w : World) (henv : EnvAt w w.heap.size bs ae) (hT : AT W0 w) :
    Calls Tryd.prog 17 #[.slice ae bs.length ce, .func (.func 9) #[] #[]] w fun e w' => (∃ z : Int, e = .returned (.int .i64 z) ∧ (0 ≤ z ↔ badL bs ≠ 0)) ∧ Below w.heap.size w w' := by
  have hnz : (bs.length : Int) ≤ 9223372036854775806 := by have := henv.bd; omega
  go_enter Tryd.func17, Tryd.ntmps17
  go_wp2_with fail
  go_loopw [8] (fun i wr => ∃ k : Nat, k ≤ bs.length ∧ i = .int .i64 (k : Int) ∧ badL (bs.take k) = 0 ∧ Below w.heap.size w wr ∧ AT W0 wr) (fun i _ => bs.length - (intOf i).toNat)
  case atStart => exact ⟨0, Nat.zero_le _, rfl, rfl, Below.refl _ _, hT⟩
  case round =>
    obtain ⟨k, hk, rfl, hbad, hbr, hTr⟩ := hrel
    by_cases hlt : k < bs.length
    · have hltz : (k : Int) < (bs.length : Int) := by omega
      rcases henv.c with e | ⟨b, o, rfl, hbB, hcells⟩
      · subst e; simp at hlt
      · obtain ⟨c0, c1, c2, c3⟩ := hcells k hlt
        replace c0 := (hbr.cell (p := ⟨b, o + k * 4, none⟩) hbB).trans c0
        replace c1 := (hbr.cell (p := ⟨b, o + k * 4 + 1, none⟩) hbB).trans c1
        replace c2 := (hbr.cell (p := ⟨b, o + k * 4 + 2, none⟩) hbB).trans c2
        replace c3 := (hbr.cell (p := ⟨b, o + k * 4 + 3, none⟩) hbB).trans c3
        have hbt := badL_take bs k hlt hbad
        have cF := sorted1_any W0 h0 bs[k].1 bs[k].2.so bs[k].2.n bs[k].2.s wr hTr
        generalize chkZ vD bs[k].2.so bs[k].2.n bs[k].2.s = z at cF hbt
        have HB : Hid (badL (bs.take (k + 1)) = z ∧ (z ≠ 0 → badL bs = z)) := hbt
        clear hcells hbad hbt
        by_cases hz : z = 0
        · subst hz
          go_wp2_with fail
          refine cF.mono ?_
          rintro e w2 ⟨rfl, hb2⟩
          have hbr2 := hbr.trans (hb2.mono hbr.size)
          have hT2 := at_k _ _ hTr hb2
          clear cF c0 c1 c2 c3
          go_wp2_with fail
          go_roundw
          case rel => exact ⟨k + 1, by omega, by go_num, HB.out.1, hbr2, hT2⟩
          case measure => simp [intOf]; omega
        · have hzb : (z != 0) = true := by simpa using hz
          rw [hzb] at cF
          have HF : Hid (badL bs ≠ 0) := by show badL bs ≠ 0; rw [HB.out.2 hz]; exact hz
          clear hz HB
          go_wp2_with fail
          refine cF.mono ?_
          rintro e w2 ⟨rfl, hb2⟩
          have hbr2 := hbr.trans (hb2.mono hbr.size)
          clear cF c0 c1 c2 c3
          go_wp2_with fail
          go_ret
          exact ⟨⟨_, rfl, fun _ => HF.out, fun _ => by omega⟩, hbr2⟩
    · have hltz : ¬ (k : Int) < (bs.length : Int) := by omega
      have hkl : k = bs.length := by omega
      subst hkl
      rw [List.take_length] at hbad
      have HB : Hid (badL bs = 0) := hbad
      clear hbad
      go_wp2_with fail
      go_ret
      exact ⟨⟨_, rfl, fun h => by omega, fun h => absurd HB.out h⟩, hbr⟩

set_option maxHeartbeats 400000 in
theorem hasBad_any (W0 : World) (h0 : Tabs W0) (bs : List (ByteArray × Vl)) (ae : Option Addr) (ce : Nat) (w : World) (henv : EnvAt w w.heap.size bs ae) (hT : AT W0 w) :
    Calls Tryd.prog 8 #[.slice ae bs.length ce, .func (.func 9) #[] #[]] w fun e w' => e = .returned (.bool (badL bs != 0)) ∧ Below w.heap.size w w' := by
  have c := indexBad_any W0 h0 bs ae ce w henv hT
  go_enter Tryd.func8, Tryd.ntmps8
  go_wp2_with fail
  refine c.mono ?_
  rintro e w1 ⟨⟨z, rfl, hz⟩, hb⟩
  have HZ : Hid (0 ≤ z ↔ badL bs ≠ 0) := hz
  clear hz
  go_wp2_with fail
  go_ret
  refine ⟨?_, hb⟩
  have e1 : decide (0 ≤ z) = (badL bs != 0) := by rw [Bool.eq_iff_iff]; simpa using HZ.out
  show Ending.returned (Value.bool (decide (0 ≤ z))) = _
  rw [e1]
end Go.Proofs.YtclbillfffpknaaDoor
