/-
  The contract of duetbig.add, for every two lists of at most 1000 words.
-/
import Derived.Test.YtecapnipkngniaaGreatDoorBb
namespace Go.Proofs.YtecapnipkngniaaGreatDoor
open Go.RowKit

theorem getD_set_self (rs : List Nat) (k y : Nat) (h : k < rs.length) : (rs.set k y).getD k 0 = y := by simp [List.getD, h]
theorem val_take_succ (ws : List Nat) (k : Nat) (h : k < ws.length) : val (ws.take (k + 1)) = val (ws.take k) + 4294967296 ^ k * ws.getD k 0 := by
  rw [List.take_succ_eq_append_getElem h, val_append, List.length_take, Nat.min_eq_left (by omega), List.getD, List.getElem?_eq_getElem h]
  simp [val]
theorem val_take_over (ws : List Nat) (k : Nat) (h : ws.length ≤ k) : val (ws.take (k + 1)) = val (ws.take k) := by
  rw [List.take_of_length_le (by omega), List.take_of_length_le h]
theorem take_set_same (rs : List Nat) (k y : Nat) : (rs.set k y).take k = rs.take k := by
  rw [List.take_set, List.set_eq_of_length_le]
  rw [List.length_take]; omega
theorem small_set {rs : List Nat} (h : Small rs) (k y : Nat) (hy : y < 4294967296) : Small (rs.set k y) := by
  intro z hz
  rcases List.mem_or_eq_of_mem_set hz with h' | rfl
  · exact h z h'
  · exact hy
theorem small_rep (n : Nat) : Small (List.replicate n 0) := by intro y hy; simp at hy; omega
/-- one step of a sum: what is kept and what goes on -/
theorem carry_step (T c p P A B : Nat) (a b : Nat) (hT : c + a + b = T) (h : P + p * c = A + B) : (P + p * (T % 4294967296)) + p * 4294967296 * (T / 4294967296) = (A + p * a) + (B + p * b) := by
  have e : p * (T % 4294967296) + p * 4294967296 * (T / 4294967296) = p * T := by
    rw [Nat.mul_assoc, ← Nat.mul_add]
    congr 1
    omega
  have e2 : p * T = p * c + p * a + p * b := by rw [← hT, Nat.mul_add, Nat.mul_add]
  omega

set_option maxRecDepth 100000 in
set_option maxHeartbeats 1000000 in
theorem add_ge (ga ca gb cb : Nat) (al bl : List Nat) (w : World) (hsl : Small al) (hss : Small bl) (hla : al.length ≤ 1000) (hle : ¬ al.length < bl.length) (hgl : ga < w.heap.size) (hgs : gb < w.heap.size) (hcl : ∀ j, j < al.length → w.cell? ⟨ga, j, none⟩ = some (.int .u32 (al.getD j 0 : Nat))) (hcs : ∀ j, j < bl.length → w.cell? ⟨gb, j, none⟩ = some (.int .u32 (bl.getD j 0 : Nat))) :
    Calls Tryz.prog 115 #[.slice (some ⟨ga, 0, none⟩) al.length ca, .slice (some ⟨gb, 0, none⟩) bl.length cb] w fun e w' => ∃ v, e = .returned v ∧ NumAt w' v (val al + val bl) ∧ Below w.heap.size w w' := by
  obtain ⟨Z, hZ, hmk⟩ := make32 (al.length + 1) (by omega)
  have hrow := row_new w Z (al.length + 1) hZ
  have hmk' : ∀ w : World, (Instr.makeSlice 98 (.int .i64 ((al.length : Int) + 1)) (.int .i64 ((al.length : Int) + 1))).run Tryz.prog w = .ok (.slice (some ⟨w.heap.size, 0, none⟩) (al.length + 1) (al.length + 1)) (w.alloc (.cells Z 122)) := by
    intro W
    have := hmk W
    rw [show ((al.length + 1 : Nat) : Int) = (al.length : Int) + 1 by omega] at this
    exact this
  clear hmk hZ
  have HCL : Hid (∀ j, j < al.length → w.cell? ⟨ga, j, none⟩ = some (.int .u32 (al.getD j 0 : Nat))) := hcl
  clear hcl
  have HCS : Hid (∀ j, j < bl.length → w.cell? ⟨gb, j, none⟩ = some (.int .u32 (bl.getD j 0 : Nat))) := hcs
  clear hcs
  go_enter Tryz.func115, Tryz.ntmps115
  go_wp2_with fail
  go_loopw [6, 7] (fun c i wr => ∃ (k cn : Nat) (rs : List Nat), k ≤ al.length ∧ i = .int .i64 (k : Int) ∧ c = .int .u64 (cn : Int) ∧ cn ≤ 1 ∧ rs.length = al.length + 1 ∧ Row wr w.heap.size rs ∧ val (rs.take k) + 4294967296 ^ k * cn = val (al.take k) + val (bl.take k) ∧ Small rs ∧ Below w.heap.size w wr ∧ w.heap.size < wr.heap.size) (fun c i wr => al.length - (intOf i).toNat)
  case atStart => exact ⟨0, 0, List.replicate (al.length + 1) 0, Nat.zero_le _, rfl, rfl, by omega, by simp, hrow, by simp [val], small_rep _, (Below.refl _ _).alloc (Nat.le_refl _) _, by simp⟩
  case round =>
    obtain ⟨k, cn, rs, hk, rfl, rfl, hcn, hrl, hr, hval, hsr, hbw, hlt⟩ := hrel
    have HR : Hid (Row wr w.heap.size rs) := hr
    have HV : Hid (val (rs.take k) + 4294967296 ^ k * cn = val (al.take k) + val (bl.take k)) := hval
    clear hr hval
    by_cases hkl : k < al.length
    · have hkz : (k : Int) < (al.length : Int) := by omega
      have hcx : wr.cell? ⟨ga, k, none⟩ = some (.int .u32 (al.getD k 0 : Nat)) := (hbw.cell (p := ⟨ga, k, none⟩) hgl).trans (HCL.out k hkl)
      have hcq := (HR.out k (by omega)).1
      have hfq := (HR.out k (by omega)).2
      generalize hx : al.getD k 0 = x at hcx
      generalize hy : rs.getD k 0 = y at hcq
      have hx2 : x < 4294967296 := by rw [← hx]; exact hsl _ (getD_mem al k hkl)
      have HX : Hid (al.getD k 0 = x) := hx
      clear hx hy
      by_cases hks : k < bl.length
      · have hksz : (k : Int) < (bl.length : Int) := by omega
        have hcy : wr.cell? ⟨gb, k, none⟩ = some (.int .u32 (bl.getD k 0 : Nat)) := (hbw.cell (p := ⟨gb, k, none⟩) hgs).trans (HCS.out k hks)
        generalize hz : bl.getD k 0 = z at hcy
        have hz2 : z < 4294967296 := by rw [← hz]; exact hss _ (getD_mem bl k hks)
        have HZ : Hid (bl.getD k 0 = z) := hz
        clear hz
        have e1 : IntKind.u64.wrap ((cn : Int) + (x : Int)) = (cn : Int) + (x : Int) := by rw [← Int.natCast_add]; exact wrap_u64_nat _ (by omega)
        have e2 : IntKind.u64.wrap ((cn : Int) + (x : Int) + (z : Int)) = (cn : Int) + (x : Int) + (z : Int) := by rw [← Int.natCast_add, ← Int.natCast_add]; exact wrap_u64_nat _ (by omega)
        go_wp2_with fail
        go_roundw
        case rel =>
          have hst := carry_step _ cn (4294967296 ^ k) _ _ _ x z rfl HV.out
          refine ⟨k + 1, (cn + x + z) / 4294967296, rs.set k ((cn + x + z) % 4294967296), by omega, by go_num, by congr 1 <;> omega, by omega, by rw [List.length_set]; omega, ?_, ?_, small_set hsr _ _ (by omega), hbw.setCell (Nat.le_refl _) _, by simpa using hlt⟩
          · have hset := HR.out.set k ((cn + x + z) % 4294967296) (by omega)
            rw [show (((cn + x + z) % 4294967296 : Nat) : Int) = ((cn : Int) + (x : Int) + (z : Int)) % 4294967296 by omega] at hset
            exact hset
          · rw [val_take_succ _ k (by rw [List.length_set]; omega), take_set_same, getD_set_self _ _ _ (by omega), val_take_succ al k hkl, HX.out, val_take_succ bl k hks, HZ.out, Nat.pow_succ]
            exact hst
        case measure => simp [intOf]; omega
      · have hksz : ¬ (k : Int) < (bl.length : Int) := by omega
        have e1 : IntKind.u64.wrap ((cn : Int) + (x : Int)) = (cn : Int) + (x : Int) := by rw [← Int.natCast_add]; exact wrap_u64_nat _ (by omega)
        go_wp2_with fail
        go_roundw
        case rel =>
          have hst := carry_step _ cn (4294967296 ^ k) _ _ _ x 0 rfl HV.out
          rw [Nat.add_zero, Nat.mul_zero, Nat.add_zero] at hst
          refine ⟨k + 1, (cn + x) / 4294967296, rs.set k ((cn + x) % 4294967296), by omega, by go_num, by congr 1 <;> omega, by omega, by rw [List.length_set]; omega, ?_, ?_, small_set hsr _ _ (by omega), hbw.setCell (Nat.le_refl _) _, by simpa using hlt⟩
          · have hset := HR.out.set k ((cn + x) % 4294967296) (by omega)
            rw [show (((cn + x) % 4294967296 : Nat) : Int) = ((cn : Int) + (x : Int)) % 4294967296 by omega] at hset
            exact hset
          · rw [val_take_succ _ k (by rw [List.length_set]; omega), take_set_same, getD_set_self _ _ _ (by omega), val_take_succ al k hkl, HX.out, val_take_over bl k (by omega), Nat.pow_succ]
            exact hst
        case measure => simp [intOf]; omega
    · have hk2 : k = al.length := by omega
      subst hk2
      have hcq := (HR.out al.length (by omega)).1
      have hfq := (HR.out al.length (by omega)).2
      generalize hy : rs.getD al.length 0 = y at hcq
      clear hy
      have hset := HR.out.set al.length cn (by omega)
      have hvs : val (rs.set al.length cn) = val al + val bl := by
        have h1 := val_take_succ (rs.set al.length cn) al.length (by rw [List.length_set]; omega)
        rw [List.take_of_length_le (by rw [List.length_set]; omega), take_set_same, getD_set_self _ _ _ (by omega)] at h1
        rw [h1, HV.out, List.take_of_length_le (Nat.le_refl _), List.take_of_length_le (by omega)]
      have cT := trim_any w.heap.size (rs.set al.length cn).length (rs.set al.length cn) (wr.setCell ⟨w.heap.size, al.length, none⟩ (.int .u32 (cn : Int))) (small_set hsr _ _ (by omega)) (Nat.le_refl _) (by rw [List.length_set]; omega) (by simpa using hlt) (fun j hj => (hset j hj).1)
      rw [hvs, List.length_set, hrl] at cT
      have HVS : Hid (val (rs.set al.length cn) = val al + val bl) := hvs
      have HSET : Hid (Row (wr.setCell ⟨w.heap.size, al.length, none⟩ (.int .u32 (cn : Int))) w.heap.size (rs.set al.length cn)) := hset
      clear hvs hset
      have e3 : ((cn : Int) % 4294967296) = (cn : Int) := by omega
      go_wp2_with fail
      refine cT.mono ?_
      rintro e w2 ⟨v, rfl, hnum, rfl⟩
      go_wp2
      go_ret
      exact ⟨v, rfl, hnum, hbw.setCell (Nat.le_refl _) _⟩

set_option maxRecDepth 100000 in
set_option maxHeartbeats 1000000 in
theorem add_lt (ga ca gb cb : Nat) (al bl : List Nat) (w : World) (hsl : Small bl) (hss : Small al) (hla : bl.length ≤ 1000) (hle : al.length < bl.length) (hgl : gb < w.heap.size) (hgs : ga < w.heap.size) (hcl : ∀ j, j < bl.length → w.cell? ⟨gb, j, none⟩ = some (.int .u32 (bl.getD j 0 : Nat))) (hcs : ∀ j, j < al.length → w.cell? ⟨ga, j, none⟩ = some (.int .u32 (al.getD j 0 : Nat))) :
    Calls Tryz.prog 115 #[.slice (some ⟨ga, 0, none⟩) al.length ca, .slice (some ⟨gb, 0, none⟩) bl.length cb] w fun e w' => ∃ v, e = .returned v ∧ NumAt w' v (val bl + val al) ∧ Below w.heap.size w w' := by
  obtain ⟨Z, hZ, hmk⟩ := make32 (bl.length + 1) (by omega)
  have hrow := row_new w Z (bl.length + 1) hZ
  have hmk' : ∀ w : World, (Instr.makeSlice 98 (.int .i64 ((bl.length : Int) + 1)) (.int .i64 ((bl.length : Int) + 1))).run Tryz.prog w = .ok (.slice (some ⟨w.heap.size, 0, none⟩) (bl.length + 1) (bl.length + 1)) (w.alloc (.cells Z 122)) := by
    intro W
    have := hmk W
    rw [show ((bl.length + 1 : Nat) : Int) = (bl.length : Int) + 1 by omega] at this
    exact this
  clear hmk hZ
  have HCL : Hid (∀ j, j < bl.length → w.cell? ⟨gb, j, none⟩ = some (.int .u32 (bl.getD j 0 : Nat))) := hcl
  clear hcl
  have HCS : Hid (∀ j, j < al.length → w.cell? ⟨ga, j, none⟩ = some (.int .u32 (al.getD j 0 : Nat))) := hcs
  clear hcs
  go_enter Tryz.func115, Tryz.ntmps115
  go_wp2_with fail
  go_loopw [6, 7] (fun c i wr => ∃ (k cn : Nat) (rs : List Nat), k ≤ bl.length ∧ i = .int .i64 (k : Int) ∧ c = .int .u64 (cn : Int) ∧ cn ≤ 1 ∧ rs.length = bl.length + 1 ∧ Row wr w.heap.size rs ∧ val (rs.take k) + 4294967296 ^ k * cn = val (bl.take k) + val (al.take k) ∧ Small rs ∧ Below w.heap.size w wr ∧ w.heap.size < wr.heap.size) (fun c i wr => bl.length - (intOf i).toNat)
  case atStart => exact ⟨0, 0, List.replicate (bl.length + 1) 0, Nat.zero_le _, rfl, rfl, by omega, by simp, hrow, by simp [val], small_rep _, (Below.refl _ _).alloc (Nat.le_refl _) _, by simp⟩
  case round =>
    obtain ⟨k, cn, rs, hk, rfl, rfl, hcn, hrl, hr, hval, hsr, hbw, hlt⟩ := hrel
    have HR : Hid (Row wr w.heap.size rs) := hr
    have HV : Hid (val (rs.take k) + 4294967296 ^ k * cn = val (bl.take k) + val (al.take k)) := hval
    clear hr hval
    by_cases hkl : k < bl.length
    · have hkz : (k : Int) < (bl.length : Int) := by omega
      have hcx : wr.cell? ⟨gb, k, none⟩ = some (.int .u32 (bl.getD k 0 : Nat)) := (hbw.cell (p := ⟨gb, k, none⟩) hgl).trans (HCL.out k hkl)
      have hcq := (HR.out k (by omega)).1
      have hfq := (HR.out k (by omega)).2
      generalize hx : bl.getD k 0 = x at hcx
      generalize hy : rs.getD k 0 = y at hcq
      have hx2 : x < 4294967296 := by rw [← hx]; exact hsl _ (getD_mem bl k hkl)
      have HX : Hid (bl.getD k 0 = x) := hx
      clear hx hy
      by_cases hks : k < al.length
      · have hksz : (k : Int) < (al.length : Int) := by omega
        have hcy : wr.cell? ⟨ga, k, none⟩ = some (.int .u32 (al.getD k 0 : Nat)) := (hbw.cell (p := ⟨ga, k, none⟩) hgs).trans (HCS.out k hks)
        generalize hz : al.getD k 0 = z at hcy
        have hz2 : z < 4294967296 := by rw [← hz]; exact hss _ (getD_mem al k hks)
        have HZ : Hid (al.getD k 0 = z) := hz
        clear hz
        have e1 : IntKind.u64.wrap ((cn : Int) + (x : Int)) = (cn : Int) + (x : Int) := by rw [← Int.natCast_add]; exact wrap_u64_nat _ (by omega)
        have e2 : IntKind.u64.wrap ((cn : Int) + (x : Int) + (z : Int)) = (cn : Int) + (x : Int) + (z : Int) := by rw [← Int.natCast_add, ← Int.natCast_add]; exact wrap_u64_nat _ (by omega)
        go_wp2_with fail
        go_roundw
        case rel =>
          have hst := carry_step _ cn (4294967296 ^ k) _ _ _ x z rfl HV.out
          refine ⟨k + 1, (cn + x + z) / 4294967296, rs.set k ((cn + x + z) % 4294967296), by omega, by go_num, by congr 1 <;> omega, by omega, by rw [List.length_set]; omega, ?_, ?_, small_set hsr _ _ (by omega), hbw.setCell (Nat.le_refl _) _, by simpa using hlt⟩
          · have hset := HR.out.set k ((cn + x + z) % 4294967296) (by omega)
            rw [show (((cn + x + z) % 4294967296 : Nat) : Int) = ((cn : Int) + (x : Int) + (z : Int)) % 4294967296 by omega] at hset
            exact hset
          · rw [val_take_succ _ k (by rw [List.length_set]; omega), take_set_same, getD_set_self _ _ _ (by omega), val_take_succ bl k hkl, HX.out, val_take_succ al k hks, HZ.out, Nat.pow_succ]
            exact hst
        case measure => simp [intOf]; omega
      · have hksz : ¬ (k : Int) < (al.length : Int) := by omega
        have e1 : IntKind.u64.wrap ((cn : Int) + (x : Int)) = (cn : Int) + (x : Int) := by rw [← Int.natCast_add]; exact wrap_u64_nat _ (by omega)
        go_wp2_with fail
        go_roundw
        case rel =>
          have hst := carry_step _ cn (4294967296 ^ k) _ _ _ x 0 rfl HV.out
          rw [Nat.add_zero, Nat.mul_zero, Nat.add_zero] at hst
          refine ⟨k + 1, (cn + x) / 4294967296, rs.set k ((cn + x) % 4294967296), by omega, by go_num, by congr 1 <;> omega, by omega, by rw [List.length_set]; omega, ?_, ?_, small_set hsr _ _ (by omega), hbw.setCell (Nat.le_refl _) _, by simpa using hlt⟩
          · have hset := HR.out.set k ((cn + x) % 4294967296) (by omega)
            rw [show (((cn + x) % 4294967296 : Nat) : Int) = ((cn : Int) + (x : Int)) % 4294967296 by omega] at hset
            exact hset
          · rw [val_take_succ _ k (by rw [List.length_set]; omega), take_set_same, getD_set_self _ _ _ (by omega), val_take_succ bl k hkl, HX.out, val_take_over al k (by omega), Nat.pow_succ]
            exact hst
        case measure => simp [intOf]; omega
    · have hk2 : k = bl.length := by omega
      subst hk2
      have hcq := (HR.out bl.length (by omega)).1
      have hfq := (HR.out bl.length (by omega)).2
      generalize hy : rs.getD bl.length 0 = y at hcq
      clear hy
      have hset := HR.out.set bl.length cn (by omega)
      have hvs : val (rs.set bl.length cn) = val bl + val al := by
        have h1 := val_take_succ (rs.set bl.length cn) bl.length (by rw [List.length_set]; omega)
        rw [List.take_of_length_le (by rw [List.length_set]; omega), take_set_same, getD_set_self _ _ _ (by omega)] at h1
        rw [h1, HV.out, List.take_of_length_le (Nat.le_refl _), List.take_of_length_le (by omega)]
      have cT := trim_any w.heap.size (rs.set bl.length cn).length (rs.set bl.length cn) (wr.setCell ⟨w.heap.size, bl.length, none⟩ (.int .u32 (cn : Int))) (small_set hsr _ _ (by omega)) (Nat.le_refl _) (by rw [List.length_set]; omega) (by simpa using hlt) (fun j hj => (hset j hj).1)
      rw [hvs, List.length_set, hrl] at cT
      have HVS : Hid (val (rs.set bl.length cn) = val bl + val al) := hvs
      have HSET : Hid (Row (wr.setCell ⟨w.heap.size, bl.length, none⟩ (.int .u32 (cn : Int))) w.heap.size (rs.set bl.length cn)) := hset
      clear hvs hset
      have e3 : ((cn : Int) % 4294967296) = (cn : Int) := by omega
      go_wp2_with fail
      refine cT.mono ?_
      rintro e w2 ⟨v, rfl, hnum, rfl⟩
      go_wp2
      go_ret
      exact ⟨v, rfl, hnum, hbw.setCell (Nat.le_refl _) _⟩

set_option maxRecDepth 100000 in
set_option maxHeartbeats 1000000 in
theorem add_nil (gb cb : Nat) (bl : List Nat) (w : World) (hsl : Small bl) (hla : bl.length ≤ 1000) (hle : 0 < bl.length) (hgl : gb < w.heap.size) (hcl : ∀ j, j < bl.length → w.cell? ⟨gb, j, none⟩ = some (.int .u32 (bl.getD j 0 : Nat))) :
    Calls Tryz.prog 115 #[.slice none 0 0, .slice (some ⟨gb, 0, none⟩) bl.length cb] w fun e w' => ∃ v, e = .returned v ∧ NumAt w' v (val bl + val ([] : List Nat)) ∧ Below w.heap.size w w' := by
  obtain ⟨Z, hZ, hmk⟩ := make32 (bl.length + 1) (by omega)
  have hrow := row_new w Z (bl.length + 1) hZ
  have hmk' : ∀ w : World, (Instr.makeSlice 98 (.int .i64 ((bl.length : Int) + 1)) (.int .i64 ((bl.length : Int) + 1))).run Tryz.prog w = .ok (.slice (some ⟨w.heap.size, 0, none⟩) (bl.length + 1) (bl.length + 1)) (w.alloc (.cells Z 122)) := by
    intro W
    have := hmk W
    rw [show ((bl.length + 1 : Nat) : Int) = (bl.length : Int) + 1 by omega] at this
    exact this
  clear hmk hZ
  have HCL : Hid (∀ j, j < bl.length → w.cell? ⟨gb, j, none⟩ = some (.int .u32 (bl.getD j 0 : Nat))) := hcl
  clear hcl
  go_enter Tryz.func115, Tryz.ntmps115
  go_wp2_with fail
  go_loopw [6, 7] (fun c i wr => ∃ (k cn : Nat) (rs : List Nat), k ≤ bl.length ∧ i = .int .i64 (k : Int) ∧ c = .int .u64 (cn : Int) ∧ cn ≤ 1 ∧ rs.length = bl.length + 1 ∧ Row wr w.heap.size rs ∧ val (rs.take k) + 4294967296 ^ k * cn = val (bl.take k) + val (([] : List Nat).take k) ∧ Small rs ∧ Below w.heap.size w wr ∧ w.heap.size < wr.heap.size) (fun c i wr => bl.length - (intOf i).toNat)
  case atStart => exact ⟨0, 0, List.replicate (bl.length + 1) 0, Nat.zero_le _, rfl, rfl, by omega, by simp, hrow, by simp [val], small_rep _, (Below.refl _ _).alloc (Nat.le_refl _) _, by simp⟩
  case round =>
    obtain ⟨k, cn, rs, hk, rfl, rfl, hcn, hrl, hr, hval, hsr, hbw, hlt⟩ := hrel
    have HR : Hid (Row wr w.heap.size rs) := hr
    have HV : Hid (val (rs.take k) + 4294967296 ^ k * cn = val (bl.take k) + val (([] : List Nat).take k)) := hval
    clear hr hval
    by_cases hkl : k < bl.length
    · have hkz : (k : Int) < (bl.length : Int) := by omega
      have hcx : wr.cell? ⟨gb, k, none⟩ = some (.int .u32 (bl.getD k 0 : Nat)) := (hbw.cell (p := ⟨gb, k, none⟩) hgl).trans (HCL.out k hkl)
      have hcq := (HR.out k (by omega)).1
      have hfq := (HR.out k (by omega)).2
      generalize hx : bl.getD k 0 = x at hcx
      generalize hy : rs.getD k 0 = y at hcq
      have hx2 : x < 4294967296 := by rw [← hx]; exact hsl _ (getD_mem bl k hkl)
      have HX : Hid (bl.getD k 0 = x) := hx
      clear hx hy
      have e1 : IntKind.u64.wrap ((cn : Int) + (x : Int)) = (cn : Int) + (x : Int) := by rw [← Int.natCast_add]; exact wrap_u64_nat _ (by omega)
      go_wp2_with fail
      go_roundw
      case rel =>
        have hst := carry_step _ cn (4294967296 ^ k) _ _ _ x 0 rfl HV.out
        rw [Nat.add_zero, Nat.mul_zero, Nat.add_zero] at hst
        refine ⟨k + 1, (cn + x) / 4294967296, rs.set k ((cn + x) % 4294967296), by omega, by go_num, by congr 1 <;> omega, by omega, by rw [List.length_set]; omega, ?_, ?_, small_set hsr _ _ (by omega), hbw.setCell (Nat.le_refl _) _, by simpa using hlt⟩
        · have hset := HR.out.set k ((cn + x) % 4294967296) (by omega)
          rw [show (((cn + x) % 4294967296 : Nat) : Int) = ((cn : Int) + (x : Int)) % 4294967296 by omega] at hset
          exact hset
        · rw [val_take_succ _ k (by rw [List.length_set]; omega), take_set_same, getD_set_self _ _ _ (by omega), val_take_succ bl k hkl, HX.out, show val (([] : List Nat).take (k + 1)) = val (([] : List Nat).take k) by simp, Nat.pow_succ]
          exact hst
      case measure => simp [intOf]; omega
    · have hk2 : k = bl.length := by omega
      subst hk2
      have hcq := (HR.out bl.length (by omega)).1
      have hfq := (HR.out bl.length (by omega)).2
      generalize hy : rs.getD bl.length 0 = y at hcq
      clear hy
      have hset := HR.out.set bl.length cn (by omega)
      have hvs : val (rs.set bl.length cn) = val bl + val ([] : List Nat) := by
        have h1 := val_take_succ (rs.set bl.length cn) bl.length (by rw [List.length_set]; omega)
        rw [List.take_of_length_le (by rw [List.length_set]; omega), take_set_same, getD_set_self _ _ _ (by omega)] at h1
        rw [h1, HV.out, List.take_of_length_le (Nat.le_refl _), List.take_of_length_le (by simp)]
      have cT := trim_any w.heap.size (rs.set bl.length cn).length (rs.set bl.length cn) (wr.setCell ⟨w.heap.size, bl.length, none⟩ (.int .u32 (cn : Int))) (small_set hsr _ _ (by omega)) (Nat.le_refl _) (by rw [List.length_set]; omega) (by simpa using hlt) (fun j hj => (hset j hj).1)
      rw [hvs, List.length_set, hrl] at cT
      have HVS : Hid (val (rs.set bl.length cn) = val bl + val ([] : List Nat)) := hvs
      have HSET : Hid (Row (wr.setCell ⟨w.heap.size, bl.length, none⟩ (.int .u32 (cn : Int))) w.heap.size (rs.set bl.length cn)) := hset
      clear hvs hset
      have e3 : ((cn : Int) % 4294967296) = (cn : Int) := by omega
      go_wp2_with fail
      refine cT.mono ?_
      rintro e w2 ⟨v, rfl, hnum, rfl⟩
      go_wp2
      go_ret
      exact ⟨v, rfl, hnum, hbw.setCell (Nat.le_refl _) _⟩

end Go.Proofs.YtecapnipkngniaaGreatDoor
