/-
  The contract of duetbig.mul by ten, for every list of at most 1000 words; and of duetbig.add of nothing and nothing.
-/
import Derived.Test.YtbhgcfoplpjfjaaDoorBc
import Derived.Deep.QuietTactic
import Derived.BigQuiet
namespace Go.Proofs.YtbhgcfoplpjfjaaDoor
open Go.RowKit

set_option maxRecDepth 100000 in
set_option maxHeartbeats 1000000 in
theorem add_none (gb cb : Nat) (w : World) :
    Calls Tryd.prog 75 #[.slice none 0 0, .slice (some ⟨gb, 0, none⟩) 0 cb] w fun e w' => ∃ v, e = .returned v ∧ NumAt w' v 0 ∧ Below w.heap.size w w' := by
  obtain ⟨Z, hZ, hmk⟩ := make32 1 (by omega)
  obtain rfl : Z = #[.int .u32 0] := Array.toList_inj.1 hZ
  have hmk' : ∀ w : World, (Instr.makeSlice 77 (.int .i64 1) (.int .i64 1)).run Tryd.prog w = .ok (.slice (some ⟨w.heap.size, 0, none⟩) 1 1) (w.alloc (.cells #[.int .u32 0] 105)) := hmk
  have cT := trim_any w.heap.size 1 [0] (w.alloc (.cells #[.int .u32 0] 105)) (by intro y hy; simp at hy; omega) (by simp) (by simp) (by simp) (by
    intro j hj
    match j, hj with
    | 0, _ => go_cell
    | j + 1, hj => simp at hj)
  rw [show val [0] = 0 from rfl] at cT
  clear hmk hZ
  go_enter Tryd.func75, Tryd.ntmps75
  go_wp2_with fail
  refine wp_loop_rounds 1 ?_
  rw [rounds_succ]
  go_wp2_with fail
  refine cT.mono ?_
  rintro e w2 ⟨v, rfl, hnum, rfl⟩
  go_wp2
  go_ret
  exact ⟨v, rfl, hnum, (Below.refl _ _).alloc (Nat.le_refl _) _⟩

theorem below_dq {B : Nat} {a w : World} (h : Below B a w) : ∀ q, Below B a (w.drewN q)
  | 0 => h
  | q + 1 => (below_dq h q).drew
theorem row_dq {w : World} {g : Nat} {rs : List Nat} (h : Row w g rs) : ∀ q, Row (w.drewN q) g rs
  | 0 => h
  | q + 1 => fun j hj => row_dq h q j hj
theorem size_dq (w : World) : ∀ q, (w.drewN q).heap.size = w.heap.size
  | 0 => rfl
  | q + 1 => size_dq w q

theorem mul_step (p P A a y T : Nat) (hT : a * 10 + y = T) (h : P + p * y = 10 * A) : P + p * (T % 4294967296) + p * 4294967296 * (T / 4294967296) = 10 * (A + p * a) := by
  have e : p * (T % 4294967296) + p * 4294967296 * (T / 4294967296) = p * T := by
    rw [Nat.mul_assoc, ← Nat.mul_add]
    congr 1
    omega
  have e2 : p * T = 10 * (p * a) + p * y := by rw [← hT, Nat.mul_add, ← Nat.mul_assoc, Nat.mul_comm (p * a) 10]
  omega

set_option maxRecDepth 100000 in
set_option maxHeartbeats 1000000 in
theorem mul_ten (ga ca gb cb : Nat) (al : List Nat) (w : World) (hs : Small al) (hla : al.length ≤ 1000) (h1 : 0 < al.length) (hga : ga < w.heap.size) (hgb : gb < w.heap.size) (hcl : ∀ j, j < al.length → w.cell? ⟨ga, j, none⟩ = some (.int .u32 (al.getD j 0 : Nat))) (hcb : w.cell? ⟨gb, 0, none⟩ = some (.int .u32 10)) :
    Calls Tryd.prog 76 #[.slice (some ⟨ga, 0, none⟩) al.length ca, .slice (some ⟨gb, 0, none⟩) 1 cb] w fun e w' => ∃ v, e = .returned v ∧ NumAt w' v (10 * val al) ∧ Below w.heap.size w w' := by
  obtain ⟨Z, hZ, hmk⟩ := make32 (al.length + 1) (by omega)
  have hrow := row_new w Z (al.length + 1) hZ
  have hmk' : ∀ w : World, (Instr.makeSlice 77 (.int .i64 ((al.length : Int) + 1)) (.int .i64 ((al.length : Int) + 1))).run Tryd.prog w = .ok (.slice (some ⟨w.heap.size, 0, none⟩) (al.length + 1) (al.length + 1)) (w.alloc (.cells Z 105)) := by
    intro W
    have := hmk W
    rw [show ((al.length + 1 : Nat) : Int) = (al.length : Int) + 1 by omega] at this
    exact this
  clear hmk hZ
  have HCL : Hid (∀ j, j < al.length → w.cell? ⟨ga, j, none⟩ = some (.int .u32 (al.getD j 0 : Nat))) := hcl
  clear hcl
  have h1z : ((al.length : Int) == 0) = false := beq_eq_false_iff_ne.2 (by omega)
  go_enter Tryd.func76, Tryd.ntmps76
  go_wp2_with fail
  go_loopw [6] (fun i wr => ∃ (k : Nat) (rs : List Nat), k ≤ al.length ∧ i = .int .i64 (k : Int) ∧ rs.length = al.length + 1 ∧ Row wr w.heap.size rs ∧ val (rs.take (k + 1)) = 10 * val (al.take k) ∧ rs.getD k 0 < 10 ∧ Small rs ∧ Below w.heap.size w wr ∧ w.heap.size < wr.heap.size) (fun i wr => al.length - (intOf i).toNat)
  case atStart => exact ⟨0, List.replicate (al.length + 1) 0, Nat.zero_le _, rfl, by simp, hrow, by simp [val, List.replicate_succ], by simp [List.replicate_succ], small_rep _, (Below.refl _ _).alloc (Nat.le_refl _) _, by simp⟩
  case round =>
    obtain ⟨k, rs, hk, rfl, hrl, hr, hval, hy10, hsr, hbw, hlt⟩ := hrel
    have HR : Hid (Row wr w.heap.size rs) := hr
    have HV : Hid (val (rs.take (k + 1)) = 10 * val (al.take k)) := hval
    clear hr hval
    by_cases hkl : k < al.length
    · have hkz : (k : Int) < (al.length : Int) := by omega
      have hcx : wr.cell? ⟨ga, k, none⟩ = some (.int .u32 (al.getD k 0 : Nat)) := (hbw.cell (p := ⟨ga, k, none⟩) hga).trans (HCL.out k hkl)
      have hcb' : wr.cell? ⟨gb, 0, none⟩ = some (.int .u32 10) := (hbw.cell (p := ⟨gb, 0, none⟩) hgb).trans hcb
      have hcq := (HR.out k (by omega)).1
      have hfq := (HR.out k (by omega)).2
      have hcq1 := (HR.out (k + 1) (by omega)).1
      have hfq1 := (HR.out (k + 1) (by omega)).2
      generalize hx : al.getD k 0 = x at hcx
      generalize hy : rs.getD k 0 = y at hcq hy10
      generalize hz : rs.getD (k + 1) 0 = z at hcq1
      have hx2 : x < 4294967296 := by rw [← hx]; exact hs _ (getD_mem al k hkl)
      have HX : Hid (al.getD k 0 = x) := hx
      have HY : Hid (rs.getD k 0 = y) := hy
      clear hx hy hz
      go_wp2_with fail
      refine wp_loop_rounds 2 ?_
      rw [rounds_succ]
      go_wp2_with fail
      have e1 : IntKind.u64.wrap ((x : Int) * 10) = (x : Int) * 10 := by rw [show (x : Int) * 10 = ((x * 10 : Nat) : Int) by omega]; exact wrap_u64_nat _ (by omega)
      have e2 : IntKind.u64.wrap ((x : Int) * 10 + (y : Int)) = (x : Int) * 10 + (y : Int) := by rw [show (x : Int) * 10 + (y : Int) = ((x * 10 + y : Nat) : Int) by omega]; exact wrap_u64_nat _ (by omega)
      go_quiet (fail)
      go_wp2_with fail
      rw [rounds_succ]
      go_wp2_with fail
      obtain ⟨T, hT⟩ : ∃ T, x * 10 + y = T := ⟨_, rfl⟩
      have ht1 : ((x : Int) * 10 + (y : Int)) % 4294967296 = ((T % 4294967296 : Nat) : Int) := by omega
      have ht2 : ((x : Int) * 10 + (y : Int)) / 4294967296 = ((T / 4294967296 : Nat) : Int) := by omega
      rw [ht1, ht2]
      have hv1 : val (rs.take k) + 4294967296 ^ k * y = 10 * val (al.take k) := by
        have := HV.out
        rw [val_take_succ rs k (by omega), HY.out] at this
        exact this
      have hst := mul_step (4294967296 ^ k) _ _ x y T hT hv1
      have hb2 := ((below_dq hbw nq).setCell (p := ⟨w.heap.size, k, none⟩) (Nat.le_refl _) (.int .u32 ((T % 4294967296 : Nat) : Int))).setCell (p := ⟨w.heap.size, k + 1, none⟩) (Nat.le_refl _) (.int .u32 ((T / 4294967296 : Nat) : Int))
      have hrow2 := ((row_dq HR.out nq).set k (T % 4294967296) (by omega)).set (k + 1) (T / 4294967296) (by rw [List.length_set]; omega)
      refine ⟨⟨k + 1, (rs.set k (T % 4294967296)).set (k + 1) (T / 4294967296), by omega, by go_num, by rw [List.length_set, List.length_set]; omega, hrow2, ?_, ?_, small_set (small_set hsr _ _ (by omega)) _ _ (by omega), hb2, ?_⟩, by simp [intOf]; omega⟩
      · rw [val_take_succ _ (k + 1) (by rw [List.length_set, List.length_set]; omega), getD_set_self _ _ _ (by rw [List.length_set]; omega), take_set_same, val_take_succ _ k (by rw [List.length_set]; omega), take_set_same, getD_set_self _ _ _ (by omega), val_take_succ al k hkl, HX.out, Nat.pow_succ]
        exact hst
      · rw [getD_set_self _ _ _ (by rw [List.length_set]; omega)]
        omega
      · have := size_dq wr nq
        simp only [World.size_setCell]
        omega
    · have hk2 : k = al.length := by omega
      subst hk2
      have hvs : val rs = 10 * val al := by
        have := HV.out
        rw [List.take_of_length_le (by omega), List.take_of_length_le (Nat.le_refl _)] at this
        exact this
      have cT := trim_any w.heap.size rs.length rs wr hsr (Nat.le_refl _) (by omega) hlt (fun j hj => (HR.out j hj).1)
      rw [hvs, hrl] at cT
      clear hvs
      go_wp2_with fail
      refine cT.mono ?_
      rintro e w2 ⟨v, rfl, hnum, rfl⟩
      go_wp2
      go_ret
      exact ⟨v, rfl, hnum, hbw⟩

set_option maxHeartbeats 400000 in
theorem mul_nil (gb cb : Nat) (o : Option Addr) (ca : Nat) (w : World) :
    Calls Tryd.prog 76 #[.slice o 0 ca, .slice (some ⟨gb, 0, none⟩) 1 cb] w fun e w' => e = .returned (.slice none 0 0) ∧ w' = w := by
  go_enter Tryd.func76, Tryd.ntmps76
  go_wp2
  go_ret
  exact ⟨rfl, rfl⟩
end Go.Proofs.YtbhgcfoplpjfjaaDoor
