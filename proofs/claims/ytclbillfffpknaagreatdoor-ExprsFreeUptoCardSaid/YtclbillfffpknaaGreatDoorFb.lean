/-
  The contracts of the closure of duetkeep.ExprsFree and of slices.IndexFunc and slices.ContainsFunc with it: is there one of that name?
-/
import Derived.Test.YtclbillfffpknaaGreatDoorPq
import Derived.Test.YtclbillfffpknaaGreatDoorFa
namespace Go.Proofs.YtclbillfffpknaaGreatDoor
open Go.RowKit Go.Shelf

set_option maxHeartbeats 400000 in
theorem free1_any (nm : ByteArray) (so n : Int) (s : ByteArray) (q : Nat) (nb : ByteArray) (w : World) (hq : w.cell? ⟨q, 0, none⟩ = some (.string nb)) :
    Calls Tryz.prog 13 #[.agg #[.string nm, .int .i64 so, .int .i64 n, .string s], .pointer (some ⟨q, 0, none⟩)] w fun e w' => e = .returned (.bool (decide (nm = nb))) ∧ Below w.heap.size w w' := by
  have hl := cell_lt hq
  have n1 : ¬ q = w.heap.size := by simp only at hl; omega
  have n2 : ¬ w.heap.size = q := by simp only at hl; omega
  have e := ba_beq nm nb
  rw [← e]
  have hq' : (w.alloc (.cells #[.string nm, .int .i64 so, .int .i64 n, .string s] 40)).cell? ⟨q, 0, none⟩ = some (.string nb) := (World.cell?_alloc_past _ _ _ hl).trans hq
  clear hl e hq
  go_enter Tryz.func13, Tryz.ntmps13
  go_wp2_with fail
  go_ret
  exact ⟨rfl, by go_grown⟩

set_option maxHeartbeats 1000000 in
theorem indexFree_any (bs : List (ByteArray × Vl)) (ae : Option Addr) (ce q : Nat) (nb : ByteArray) (w : World) (henv : EnvAt w w.heap.size bs ae) (hq : w.cell? ⟨q, 0, none⟩ = some (.string nb)) :
    Calls Tryz.prog 27 #[.slice ae bs.length ce, .func (.func 13) #[] #[.pointer (some ⟨q, 0, none⟩)]] w fun e w' => (∃ z : Int, e = .returned (.int .i64 z) ∧ (0 ≤ z ↔ hasNm nb bs = true)) ∧ Below w.heap.size w w' := by
  have hnz : (bs.length : Int) ≤ 9223372036854775806 := by have := henv.bd; omega
  have hql : q < w.heap.size := cell_lt hq
  go_enter Tryz.func27, Tryz.ntmps27
  go_wp2_with fail
  go_loopw [8] (fun i wr => ∃ k : Nat, k ≤ bs.length ∧ i = .int .i64 (k : Int) ∧ hasNm nb (bs.take k) = false ∧ Below w.heap.size w wr) (fun i _ => bs.length - (intOf i).toNat)
  case atStart => exact ⟨0, Nat.zero_le _, rfl, rfl, Below.refl _ _⟩
  case round =>
    obtain ⟨k, hk, rfl, hbad, hbr⟩ := hrel
    by_cases hlt : k < bs.length
    · have hltz : (k : Int) < (bs.length : Int) := by omega
      rcases henv.c with e | ⟨b, o, rfl, hbB, hcells⟩
      · subst e; simp at hlt
      · obtain ⟨c0, c1, c2, c3⟩ := hcells k hlt
        replace c0 := (hbr.cell (p := ⟨b, o + k * 4, none⟩) hbB).trans c0
        replace c1 := (hbr.cell (p := ⟨b, o + k * 4 + 1, none⟩) hbB).trans c1
        replace c2 := (hbr.cell (p := ⟨b, o + k * 4 + 2, none⟩) hbB).trans c2
        replace c3 := (hbr.cell (p := ⟨b, o + k * 4 + 3, none⟩) hbB).trans c3
        have cF := free1_any bs[k].1 bs[k].2.so bs[k].2.n bs[k].2.s q nb wr ((hbr.cell (p := ⟨q, 0, none⟩) hql).trans hq)
        have HB : Hid (hasNm nb (bs.take (k + 1)) = (hasNm nb (bs.take k) || decide (bs[k].1 = nb))) := by
          show _ = _
          unfold hasNm
          rw [List.take_succ_eq_append_getElem hlt, List.any_append]; simp
        have HB0 := hide hbad
        have HM : Hid (decide (bs[k].1 = nb) = true → hasNm nb bs = true) := fun h => List.any_eq_true.2 ⟨bs[k], List.getElem_mem hlt, h⟩
        clear hcells hbad
        cases hz : decide (bs[k].1 = nb) with
        | false =>
          rw [hz] at cF
          rw [hz] at HB
          clear hz HM
          go_wp2_with fail
          refine cF.mono ?_
          rintro e w2 ⟨rfl, hb2⟩
          have hbr2 := hbr.trans (hb2.mono hbr.size)
          clear cF c0 c1 c2 c3
          go_wp2_with fail
          go_roundw
          case rel => exact ⟨k + 1, by omega, by go_num, by rw [HB.out, HB0.out]; rfl, hbr2⟩
          case measure => simp [intOf]; omega
        | true =>
          rw [hz] at cF
          have HF := hide (HM.out hz)
          clear hz HB HM HB0
          go_wp2_with fail
          refine cF.mono ?_
          rintro e w2 ⟨rfl, hb2⟩
          have hbr2 := hbr.trans (hb2.mono hbr.size)
          clear cF c0 c1 c2 c3
          go_wp2_with fail
          go_ret
          exact ⟨⟨_, rfl, fun _ => HF.out, fun _ => by omega⟩, hbr2⟩
    · have hltz : ¬ (k : Int) < (bs.length : Int) := by omega
      have hkl : k = bs.length := by omega
      subst hkl
      rw [List.take_length] at hbad
      have HB := hide hbad
      clear hbad
      go_wp2_with fail
      go_ret
      exact ⟨⟨_, rfl, fun h => by omega, fun h => by rw [HB.out] at h; cases h⟩, hbr⟩

set_option maxHeartbeats 400000 in
theorem hasFree_any (bs : List (ByteArray × Vl)) (ae : Option Addr) (ce q : Nat) (nb : ByteArray) (w : World) (henv : EnvAt w w.heap.size bs ae) (hq : w.cell? ⟨q, 0, none⟩ = some (.string nb)) :
    Calls Tryz.prog 12 #[.slice ae bs.length ce, .func (.func 13) #[] #[.pointer (some ⟨q, 0, none⟩)]] w fun e w' => e = .returned (.bool (hasNm nb bs)) ∧ Below w.heap.size w w' := by
  have c := indexFree_any bs ae ce q nb w henv hq
  generalize hasNm nb bs = t at c ⊢
  go_enter Tryz.func12, Tryz.ntmps12
  go_wp2_with fail
  refine c.mono ?_
  rintro e w1 ⟨⟨z, rfl, hz⟩, hb⟩
  have HZ := hide hz
  clear hz
  go_wp2_with fail
  go_ret
  refine ⟨?_, hb⟩
  have e1 : decide (0 ≤ z) = t := by rw [Bool.eq_iff_iff]; simpa using HZ.out
  show Ending.returned (Value.bool (decide (0 ≤ z))) = _
  rw [e1]
end Go.Proofs.YtclbillfffpknaaGreatDoor
