/-
  The contracts of package duetbig's Int.of, Int.And and Int.SetUint64, and of duetref.over: a number run over at 64 bits.
-/
import Derived.Test.YtecapnipkngniaaGreatDoorCi
import Derived.Test.YtecapnipkngniaaGreatDoorBh
namespace Go.Proofs.YtecapnipkngniaaGreatDoor
open Go.RowKit

/-- words whose last one is nought -/
theorem of_any (zb g n : Nat) (rs : List Nat) (w : World) (b0 : Bool) (c1 : Value) (h0 : w.cell? ⟨zb, 0, none⟩ = some (.bool b0)) (h1 : w.cell? ⟨zb, 1, none⟩ = some c1) (f0 : w.frozen? ⟨zb, 0, none⟩ = false) (f1 : w.frozen? ⟨zb, 1, none⟩ = false) (hz : zb < w.heap.size) (hg : g < w.heap.size) (hn : rs.length = n) (hn0 : 0 < n) (hn1 : n ≤ 1000) (hr : Row w g rs) (hs : Small rs) (hl : rs.getD (n - 1) 0 = 0) :
    Calls Tryz.prog 114 #[.pointer (some ⟨zb, 0, none⟩), .slice (some ⟨g, 0, none⟩) n n] w fun e w' => e = .returned (.pointer (some ⟨zb, 0, none⟩)) ∧ IntAt w' zb false (val rs) ∧ Below zb w w' := by
  have cT := trim_any g n rs w hs (by omega) (by omega) hg (fun j hj => (hr j hj).1)
  rw [hn] at cT
  have hcl := (hr (n - 1) (by omega)).1
  rw [hl] at hcl
  have hnz : (n : Int) > 0 := by omega
  have e1 : (n : Int) - 1 = ((n - 1 : Nat) : Int) := by omega
  have hlt : ((n - 1 : Nat) : Int) < (n : Int) := by omega
  have hz0 : (0 : Int) ≤ ((n - 1 : Nat) : Int) := by omega
  generalize val rs = V at *
  clear hr hl hs hn
  go_enter Tryz.func114, Tryz.ntmps114
  go_wp2_with fail
  refine cT.mono ?_
  rintro e w1 ⟨v, rfl, hv, rfl⟩
  obtain ⟨ao, k, cap, rfl⟩ := hv.slc
  go_wp2_with fail
  refine (give_eq zb false ao k cap w1 b0 c1 h0 h1 f0 f1).mono ?_
  rintro e w2 ⟨rfl, rfl⟩
  go_wp2_with fail
  go_ret
  exact ⟨rfl, ⟨by rw [putI_size]; exact hz, putI_0 h0 _ _, _, putI_1 h1 _ _, hv.putI h0 _ _⟩, putI_below (Below.refl _ _) zb (Nat.le_refl _) _ _⟩
theorem val_0 : ∀ (ws : List Nat), val ws = 0 → ∀ j, ws.getD j 0 = 0
  | [], _, j => by simp [List.getD]
  | a :: r, h, j => by
    simp only [val] at h
    cases j with
    | zero => simp [List.getD]; omega
    | succ j => simpa [List.getD] using val_0 r (by omega) j
theorem ones_words (rs : List Nat) (hs : Small rs) (hl : 3 ≤ rs.length) (hv : val rs = 18446744073709551615) : ∀ j, rs.getD j 0 = if j < 2 then 4294967295 else 0 := by
  match rs, hl with
  | a :: b :: r, _ =>
    have ha := hs a (by simp)
    have hb := hs b (by simp)
    simp only [val] at hv
    have hr : val r = 0 := by omega
    intro j
    match j with
    | 0 => simp [List.getD]; omega
    | 1 => simp [List.getD]; omega
    | j + 2 => rw [if_neg (by omega)]; simpa [List.getD] using val_0 r hr j
theorem bval_two (rs : List Nat) (hl : 2 ≤ rs.length) (hs : Small rs) : val (rs.take 2) = val rs % 18446744073709551616 := by
  match rs, hl with
  | a :: b :: r, _ =>
    have ha := hs a (by simp)
    have hb := hs b (by simp)
    simp only [val, List.take, Nat.mul_zero, Nat.add_zero]
    omega
theorem and_full (r : Nat) (h : r < 4294967296) : r &&& 4294967295 = r := by
  have := Nat.and_two_pow_sub_one_eq_mod r 32
  rw [show (2 : Nat) ^ 32 - 1 = 4294967295 from rfl] at this
  rw [this]; omega
theorem low_mod (xn : Bool) (x n : Nat) (hn : 3 ≤ n) (hx : x < 4294967296 ^ n) : ((lowV xn x n % 18446744073709551616 : Nat) : Int) = sg xn x % 18446744073709551616 := by
  obtain ⟨k, rfl⟩ : ∃ k, n = k + 2 := ⟨n - 2, by omega⟩
  have hp : 4294967296 ^ (k + 2) = 4294967296 ^ k * 18446744073709551616 := by rw [Nat.pow_add]
  unfold lowV sg
  cases xn with
  | false => simp
  | true =>
    simp only [if_true]
    rw [hp] at hx ⊢
    generalize 4294967296 ^ k = q at *
    rw [Nat.mod_mul_left_mod]
    obtain ⟨y, hy⟩ : ∃ y, q * 18446744073709551616 - x = y := ⟨_, rfl⟩
    rw [hy]
    omega
set_option maxRecDepth 100000 in
set_option maxHeartbeats 2000000 in
theorem and_any (zb xb yb : Nat) (xn : Bool) (x : Nat) (w : World) (b0 : Bool) (c1 : Value) (h0 : w.cell? ⟨zb, 0, none⟩ = some (.bool b0)) (h1 : w.cell? ⟨zb, 1, none⟩ = some c1) (f0 : w.frozen? ⟨zb, 0, none⟩ = false) (f1 : w.frozen? ⟨zb, 1, none⟩ = false) (hz : zb < w.heap.size)
    (hx : IntAt w xb xn x) (hy : IntAt w yb false 18446744073709551615) (hx4 : x < 4294967296 ^ 4) :
    Calls Tryz.prog 78 #[.pointer (some ⟨zb, 0, none⟩), .pointer (some ⟨xb, 0, none⟩), .pointer (some ⟨yb, 0, none⟩)] w fun e w' => e = .returned (.pointer (some ⟨zb, 0, none⟩)) ∧ (∃ m : Nat, IntAt w' zb false m ∧ m < 18446744073709551616 ∧ (m : Int) = sg xn x % 18446744073709551616) ∧ Below zb w w' := by
  obtain ⟨vx, cx, wx, qx1, qx2⟩ := hx.c1
  obtain ⟨vy, cy, wy, qy1, qy2⟩ := hy.c1
  have hlx := words_len qx1 hx4
  have hly : wy.length = 2 := by
    have h2 := words_len (k := 2) qy1 (by omega)
    have h3 := val_lt wy qy1.small
    rw [qy1.val] at h3
    have : wy.length = 0 ∨ wy.length = 1 ∨ wy.length = 2 := by omega
    rcases this with h | h | h
    · rw [h] at h3; omega
    · rw [h] at h3; omega
    · exact h
  obtain ⟨ax, kx, rfl⟩ := qx2.slot
  obtain ⟨ay, ky, rfl⟩ := qy2.slot
  rw [hly] at cy
  obtain ⟨n, hn⟩ : ∃ n, max wx.length 2 + 1 = n := ⟨_, rfl⟩
  have hn3 : 3 ≤ n := by omega
  have hn5 : n ≤ 5 := by omega
  have hxn : x < 4294967296 ^ n := by
    have := val_lt wx qx1.small
    rw [qx1.val] at this
    exact Nat.lt_of_lt_of_le this (Nat.pow_le_pow_right (by omega) (by omega))
  have hyn : 18446744073709551615 < 4294967296 ^ n := Nat.lt_of_lt_of_le (by decide) (Nat.pow_le_pow_right (by omega) hn3 : 4294967296 ^ 3 ≤ 4294967296 ^ n)
  have hmax : max (wx.length : Int) 2 + 1 = (n : Int) := by omega
  have HLX := hideC (fun W (hb : Below w.heap.size w W) => low_any xb xn x n W (hx.keep hb) (by omega) hxn)
  have HLY := hideC (fun W (hb : Below w.heap.size w W) => low_any yb false 18446744073709551615 n W (hy.keep hb) (by omega) hyn)
  have HM := hideC (low_mod xn x n hn3 hxn)
  clear hx hy qx1 qx2 qy1 qy2 hn hxn hyn hx4
  go_enter Tryz.func78, Tryz.ntmps78
  go_wp2_with fail
  go_quiet (fail)
  have hb0 : Below w.heap.size w (w.drewN nq) := below_drewN (Below.refl _ _) nq
  have hsz0 := size_dq w nq
  generalize w.drewN nq = w0 at hb0 hsz0 ⊢
  have HB0 := hideC hb0
  clear hb0
  go_wp2_with fail
  refine (HLX.out _ HB0.out).mono ?_
  rintro e w1 ⟨rs1, rfl, l1, R1, s1, v1, lt1, hb1⟩
  rw [hsz0] at R1 lt1 hb1 ⊢
  have HB1 := hideC (HB0.out.trans hb1)
  have HR1 := hideC R1
  clear R1 hb1
  go_wp2_with fail
  refine (HLY.out _ HB1.out).mono ?_
  rintro e w2 ⟨rs2, rfl, l2, R2, s2, v2, lt2, hb2⟩
  have HB2 := hideC (HB1.out.trans (hb2.mono HB1.out.size))
  have HR2 := hideC R2
  have HR1' : Hid (Row w2 w.heap.size rs1) := fun j hj => ⟨(hb2.cell (p := ⟨w.heap.size, j, none⟩) lt1).trans (HR1.out j hj).1, (hb2.frozen (p := ⟨w.heap.size, j, none⟩) lt1).trans (HR1.out j hj).2⟩
  have ho := hideC (ones_words rs2 s2 (by omega) (by rw [v2]; rfl))
  have HL1 := hideC l1
  have HL2 := hideC l2
  have HV1 := hideC v1
  have hsz2 := hb2.size
  clear R2 hb2 v1 v2 l1 l2 HR1
  have hne : ¬ w1.heap.size = w.heap.size := by omega
  have hne2 : ¬ w.heap.size = w1.heap.size := by omega
  go_wp2_with fail
  go_loopw [10] (fun i wr => ∃ (k : Nat) (rs : List Nat), k ≤ n ∧ i = .int .i64 (k : Int) ∧ rs.length = n ∧ Row wr w.heap.size rs ∧ Row wr w1.heap.size rs2 ∧ (∀ j, rs.getD j 0 = if j < k then (if j < 2 then rs1.getD j 0 else 0) else rs1.getD j 0) ∧ Small rs ∧ Below w.heap.size w wr ∧ w1.heap.size < wr.heap.size) (fun i wr => n - (intOf i).toNat)
  case atStart => exact ⟨0, rs1, Nat.zero_le _, rfl, HL1.out, HR1'.out, HR2.out, fun j => by rw [if_neg (by omega)], s1, HB2.out, lt2⟩
  case round =>
    obtain ⟨k, rs, hk, rfl, hrl, hr, hr2, hrest, hsr, hbw, hltr⟩ := hrel
    have HR := hideC hr
    have HRB := hideC hr2
    have HRL := hideC hrl
    have HRE := hideC hrest
    clear hr hrl hrest hr2
    by_cases hkl : k < n
    · have hkz : (k : Int) < (n : Int) := by omega
      have hcq := (HR.out k (by have := HRL.out; omega)).1
      have hfq := (HR.out k (by have := HRL.out; omega)).2
      have hcb := (HRB.out k (by have := HL2.out; omega)).1
      have hq := HRE.out k
      rw [if_neg (by omega)] at hq
      rw [hq] at hcq
      rw [ho.out k] at hcb
      have hy2 : rs1.getD k 0 < 4294967296 := s1 _ (getD_mem rs1 k (by have := HL1.out; omega))
      generalize hy : rs1.getD k 0 = y at hcq hy2
      have HY := hideC hy
      clear hy hq
      by_cases hk2 : k < 2
      · rw [if_pos hk2] at hcb
        have e1 : bits BinOp.and IntKind.u32 (y : Int) (4294967295 : Int) = (y : Int) := by
          have := u32_and_nat y 4294967295 hy2 (by omega)
          rw [and_full y hy2] at this
          exact this
        have hcb' : wr.cell? ⟨w1.heap.size, k, none⟩ = some (.int .u32 4294967295) := hcb
        clear hcb
        go_wp2_with fail
        go_region
        go_wp2_with fail
        have hkl2 : k < rs.length := by have := HRL.out; omega
        have hset : Row (wr.setCell ⟨w.heap.size, k, none⟩ (.int .u32 (y : Int))).drew w.heap.size (rs.set k y) := fun j hj => HR.out.set k y hkl2 j hj
        have hoth : Row (wr.setCell ⟨w.heap.size, k, none⟩ (.int .u32 (y : Int))).drew w1.heap.size rs2 := fun j hj => ⟨(World.cell?_setCell_other wr _ _ _ (by intro c; injection c; omega)).trans (HRB.out j hj).1, (World.frozen?_setCell wr _ _ _).trans (HRB.out j hj).2⟩
        refine ⟨⟨k + 1, rs.set k y, by omega, by go_num, by rw [List.length_set]; exact HRL.out, hset, hoth, fun j => ?_, small_set hsr _ _ hy2, (hbw.setCell (p := ⟨w.heap.size, k, none⟩) (Nat.le_refl _) _).drew, by show _ < (wr.setCell _ _).heap.size; simpa using hltr⟩, by simp [intOf]; omega⟩
        by_cases hjk : k = j
        · subst hjk
          rw [getD_set_self _ _ _ hkl2, if_pos (by omega), if_pos hk2, HY.out]
        · rw [getD_set_ne _ _ _ _ hjk, HRE.out j]
          by_cases hjl : j < k
          · rw [if_pos hjl, if_pos (show j < k + 1 by omega)]
          · rw [if_neg hjl, if_neg (show ¬ j < k + 1 by omega)]
      · rw [if_neg hk2] at hcb
        have e1 : bits BinOp.and IntKind.u32 (y : Int) (0 : Int) = (0 : Int) := by
          have := u32_and_nat y 0 hy2 (by omega)
          rw [Nat.and_zero] at this
          exact this
        have hcb' : wr.cell? ⟨w1.heap.size, k, none⟩ = some (.int .u32 0) := hcb
        clear hcb
        go_wp2_with fail
        go_region
        go_wp2_with fail
        have hkl2 : k < rs.length := by have := HRL.out; omega
        have hset : Row (wr.setCell ⟨w.heap.size, k, none⟩ (.int .u32 0)).drew w.heap.size (rs.set k 0) := fun j hj => HR.out.set k 0 hkl2 j hj
        have hoth : Row (wr.setCell ⟨w.heap.size, k, none⟩ (.int .u32 0)).drew w1.heap.size rs2 := fun j hj => ⟨(World.cell?_setCell_other wr _ _ _ (by intro c; injection c; omega)).trans (HRB.out j hj).1, (World.frozen?_setCell wr _ _ _).trans (HRB.out j hj).2⟩
        refine ⟨⟨k + 1, rs.set k 0, by omega, by go_num, by rw [List.length_set]; exact HRL.out, hset, hoth, fun j => ?_, small_set hsr _ _ (by omega), (hbw.setCell (p := ⟨w.heap.size, k, none⟩) (Nat.le_refl _) _).drew, by show _ < (wr.setCell _ _).heap.size; simpa using hltr⟩, by simp [intOf]; omega⟩
        by_cases hjk : k = j
        · subst hjk
          rw [getD_set_self _ _ _ hkl2, if_pos (by omega), if_neg hk2]
        · rw [getD_set_ne _ _ _ _ hjk, HRE.out j]
          by_cases hjl : j < k
          · rw [if_pos hjl, if_pos (show j < k + 1 by omega)]
          · rw [if_neg hjl, if_neg (show ¬ j < k + 1 by omega)]
    · have hk2 : k = n := by omega
      subst hk2
      have hts : rs = rs1.take 2 ++ List.replicate (k - 2) 0 := by
        apply eq_of_getD
        · rw [HRL.out]; simp; have := HL1.out; omega
        · intro j hj
          rw [HRE.out j, if_pos (by have := HRL.out; omega)]
          by_cases hj2 : j < 2
          · rw [if_pos hj2]
            rw [List.getD, List.getD, List.getElem?_append_left (by simp; have := HL1.out; omega), List.getElem?_take, if_pos hj2]
          · rw [if_neg hj2, List.getD, List.getElem?_append_right (by simp; omega), List.getElem?_replicate]
            split <;> rfl
      have hvr : val rs = val rs1 % 18446744073709551616 := by rw [hts, val_pad]; exact bval_two rs1 (by have := HL1.out; omega) s1
      have hlast : rs.getD (k - 1) 0 = 0 := by rw [HRE.out, if_pos (by omega), if_neg (by omega)]
      have cO := of_any zb w.heap.size k rs wr b0 c1 ((hbw.cell (p := ⟨zb, 0, none⟩) hz).trans h0) ((hbw.cell (p := ⟨zb, 1, none⟩) hz).trans h1) ((hbw.frozen (p := ⟨zb, 0, none⟩) hz).trans f0) ((hbw.frozen (p := ⟨zb, 1, none⟩) hz).trans f1) (Nat.lt_of_lt_of_le hz hbw.size) (by omega) HRL.out (by omega) (by omega) HR.out hsr hlast
      have hmv : Hid ((val rs : Int) = sg xn x % 18446744073709551616) := by show _ = _; rw [← HM.out, hvr, HV1.out]
      have hml : Hid (val rs < 18446744073709551616) := by show _ < _; rw [hvr]; omega
      have HB := hideC hbw
      clear hts hvr hlast hbw
      generalize val rs = m at *
      go_wp2_with fail
      refine cO.mono ?_
      rintro e w9 ⟨rfl, hi, hb9⟩
      go_wp2_with fail
      go_ret
      exact ⟨rfl, ⟨m, hi, hml.out, hmv.out⟩, (HB.out.mono (Nat.le_of_lt hz)).trans hb9⟩
set_option maxHeartbeats 400000 in
theorem setU_any (zb x : Nat) (w : World) (b0 : Bool) (c1 : Value) (hx : x < 18446744073709551616) (h0 : w.cell? ⟨zb, 0, none⟩ = some (.bool b0)) (h1 : w.cell? ⟨zb, 1, none⟩ = some c1) (f0 : w.frozen? ⟨zb, 0, none⟩ = false) (f1 : w.frozen? ⟨zb, 1, none⟩ = false) (hz : zb < w.heap.size) :
    Calls Tryz.prog 79 #[.pointer (some ⟨zb, 0, none⟩), .int .u64 (x : Int)] w fun e w' => e = .returned (.pointer (some ⟨zb, 0, none⟩)) ∧ IntAt w' zb false x ∧ Below zb w w' := by
  have CW := words_blk x w hx
  go_enter Tryz.func79, Tryz.ntmps79
  go_wp2_with fail
  refine CW.mono ?_
  rintro e w1 ⟨v, rfl, hv, hb⟩
  obtain ⟨n, cap, rfl⟩ := hv.slot
  have k0 := (hb.cell (p := ⟨zb, 0, none⟩) hz).trans h0
  have k1 := (hb.cell (p := ⟨zb, 1, none⟩) hz).trans h1
  have q0 := (hb.frozen (p := ⟨zb, 0, none⟩) hz).trans f0
  have q1 := (hb.frozen (p := ⟨zb, 1, none⟩) hz).trans f1
  go_wp2_with fail
  refine (give_eq zb false _ n cap w1 b0 c1 k0 k1 q0 q1).mono ?_
  rintro e w2 ⟨rfl, rfl⟩
  go_wp2_with fail
  go_ret
  exact ⟨rfl, ⟨by rw [putI_size]; exact Nat.lt_of_lt_of_le hz hb.size, putI_0 k0 _ _, _, putI_1 k1 _ _, hv.num.putI k0 _ _⟩, putI_below (hb.mono (Nat.le_of_lt hz)) zb (Nat.le_refl _) _ _⟩
theorem wrap_mod (z : Int) (m : Nat) (h : (m : Int) = z % 18446744073709551616) : wrap64 (m : Int) = wrap64 z := by
  unfold wrap64
  omega
set_option maxRecDepth 100000 in
set_option maxHeartbeats 1000000 in
theorem over_any (xb : Nat) (xn : Bool) (x : Nat) (w : World) (hx : IntAt w xb xn x) (hx4 : x < 4294967296 ^ 4) :
    Calls Tryz.prog 49 #[.pointer (some ⟨xb, 0, none⟩)] w fun e w' => e = .returned (.int .i64 (wrap64 (sg xn x))) ∧ Below w.heap.size w w' := by
  have hA : Below w.heap.size w ((w.alloc (.cells #[.bool false, .slice none 0 0] 100)).alloc (.cells #[.bool false, .slice none 0 0] 100)) := ((Below.refl _ _).alloc (Nat.le_refl _) _).alloc (by simp) _
  have cU := setU_any (w.heap.size + 1) 18446744073709551615 ((w.alloc (.cells #[.bool false, .slice none 0 0] 100)).alloc (.cells #[.bool false, .slice none 0 0] 100)) false (.slice none 0 0) (by decide) (by go_cell) (by go_cell) (by go_cell) (by go_cell) (by simp)
  have z0 : ((w.alloc (.cells #[.bool false, .slice none 0 0] 100)).alloc (.cells #[.bool false, .slice none 0 0] 100)).cell? ⟨w.heap.size, 0, none⟩ = some (.bool false) := by go_cell
  have z1 : ((w.alloc (.cells #[.bool false, .slice none 0 0] 100)).alloc (.cells #[.bool false, .slice none 0 0] 100)).cell? ⟨w.heap.size, 1, none⟩ = some (.slice none 0 0) := by go_cell
  have q0 : ((w.alloc (.cells #[.bool false, .slice none 0 0] 100)).alloc (.cells #[.bool false, .slice none 0 0] 100)).frozen? ⟨w.heap.size, 0, none⟩ = false := by go_cell
  have q1 : ((w.alloc (.cells #[.bool false, .slice none 0 0] 100)).alloc (.cells #[.bool false, .slice none 0 0] 100)).frozen? ⟨w.heap.size, 1, none⟩ = false := by go_cell
  have HX := hideC hx
  have hxl := hx.lt
  have HA := hideC hA
  clear hx hA
  generalize hR : wrap64 (sg xn x) = R
  have HR := hideC hR
  clear hR
  have hsz : ((w.alloc (.cells #[.bool false, .slice none 0 0] 100)).alloc (.cells #[.bool false, .slice none 0 0] 100)).heap.size = w.heap.size + 2 := by simp
  go_enter Tryz.func49, Tryz.ntmps49
  go_wp2_with fail
  refine cU.mono ?_
  rintro e w1 ⟨rfl, hi1, hb1⟩
  have k0 := (hb1.cell (p := ⟨w.heap.size, 0, none⟩) (by show w.heap.size < _; omega)).trans z0
  have k1 := (hb1.cell (p := ⟨w.heap.size, 1, none⟩) (by show w.heap.size < _; omega)).trans z1
  have j0 := (hb1.frozen (p := ⟨w.heap.size, 0, none⟩) (by show w.heap.size < _; omega)).trans q0
  have j1 := (hb1.frozen (p := ⟨w.heap.size, 1, none⟩) (by show w.heap.size < _; omega)).trans q1
  have B1 := hideC (HA.out.trans (hb1.mono (Nat.le_succ _)))
  have HI1 := hideC hi1
  have hs1 := hb1.size
  clear z0 z1 q0 q1 cU hi1 hb1
  have cA := hideC (and_any w.heap.size xb (w.heap.size + 1) xn x w1 false (.slice none 0 0) k0 k1 j0 j1 (by omega) (HX.out.keep B1.out) HI1.out hx4)
  clear k0 k1 j0 j1
  go_wp2_with fail
  refine cA.out.mono ?_
  rintro e w2 ⟨rfl, ⟨m, hm1, hm2, hm3⟩, hb2⟩
  have cG := uint64_any w.heap.size false m w2 hm1 hm2
  have HM := hideC ((wrap_mod _ m hm3).trans HR.out)
  clear hm3
  go_wp2_with fail
  refine cG.mono ?_
  rintro e w3 ⟨rfl, hw3⟩
  subst hw3
  go_wp2_with fail
  go_ret
  exact ⟨by rw [← HM.out]; rfl, B1.out.trans hb2⟩
end Go.Proofs.YtecapnipkngniaaGreatDoor
