/-
  The contracts of duetbig.length, duetbig.bit, Int.TrailingZeroBits, Int.Uint64, Int.Int64 and Int.IsInt64, for every number of at most three words.
-/
import Derived.Test.YtbhgcfoplpjfjaaDoorBf
namespace Go.Proofs.YtbhgcfoplpjfjaaDoor
open Go.RowKit Go.Shelf

theorem half_step (top k : Nat) (h : top / 2 ^ k ≠ 0) : 2 ^ k ≤ top := by
  rcases Nat.lt_or_ge top (2 ^ k) with h1 | h1
  · exact absurd (Nat.div_eq_of_lt h1) h
  · exact h1
theorem len_bd (low top B n : Nat) (hl : low < B) (h1 : 2 ^ n ≤ top) (h2 : top < 2 ^ (n + 1)) : B * 2 ^ n ≤ low + B * top ∧ low + B * top < B * 2 ^ (n + 1) := by
  have e1 := Nat.mul_le_mul_left B h1
  have e2 := Nat.mul_le_mul_left B h2
  rw [Nat.mul_succ] at e2
  omega
theorem val_last (ws : List Nat) (h : 0 < ws.length) : val ws = val (ws.take (ws.length - 1)) + 4294967296 ^ (ws.length - 1) * ws.getD (ws.length - 1) 0 := by
  have e := val_append (ws.take (ws.length - 1)) (ws.drop (ws.length - 1))
  rw [List.take_append_drop] at e
  rw [e, List.length_take, Nat.min_eq_left (by omega), val_drop ws _ (by omega)]
  rw [show ws.length - 1 + 1 = ws.length by omega, List.drop_length]
  simp [val]

/-- the length in bits -/
def BLen (x L : Nat) : Prop := (x = 0 → L = 0) ∧ (x ≠ 0 → ∃ n, L = n + 1 ∧ 2 ^ n ≤ x ∧ x < 2 ^ (n + 1))

theorem blen_of (ws : List Nat) (x n : Nat) (hw : Words ws x) (h : 0 < ws.length) (h1 : 2 ^ n ≤ ws.getD (ws.length - 1) 0) (h2 : ws.getD (ws.length - 1) 0 < 2 ^ (n + 1)) : BLen x ((ws.length - 1) * 32 + (n + 1)) := by
  have hv := val_last ws h
  rw [hw.val] at hv
  have hlow := val_lt (ws.take (ws.length - 1)) fun y hy => hw.small y (List.mem_of_mem_take hy)
  rw [List.length_take, Nat.min_eq_left (by omega)] at hlow
  have hb := len_bd _ _ _ n hlow h1 h2
  rw [← hv] at hb
  have e : ∀ m, 4294967296 ^ (ws.length - 1) * 2 ^ m = 2 ^ ((ws.length - 1) * 32 + m) := fun m => by
    rw [show (4294967296 : Nat) = 2 ^ 32 from rfl, ← Nat.pow_mul, ← Nat.pow_add, Nat.mul_comm 32]
  rw [e, e] at hb
  refine ⟨fun h0 => ?_, fun _ => ⟨_, rfl, hb.1, hb.2⟩⟩
  have := Nat.pow_pos (n := (ws.length - 1) * 32 + n) (show 0 < 2 by omega)
  omega

theorem shr1 (t : Nat) (h : t < 4294967296) : IntKind.u32.wrap ((t : Int) / 2) = ((t / 2 : Nat) : Int) := by
  unfold IntKind.wrap
  simp [IntKind.bits, IntKind.signed]
  omega

set_option maxHeartbeats 400000 in
theorem bitLen_any (v : Value) (x : Nat) (w : World) (h : NumAt w v x) (hx : x < 100000000000000000000) :
    Calls Tryd.prog 77 #[v] w fun e w' => ∃ L : Nat, e = .returned (.int .i64 (L : Int)) ∧ BLen x L ∧ w' = w := by
  obtain ⟨ws, hw, hu⟩ := h
  by_cases h0 : ws = []
  · subst h0
    obtain ⟨ao, cap, rfl⟩ := hu.slot
    have hx0 : x = 0 := by rw [← hw.val]; rfl
    go_enter Tryd.func77, Tryd.ntmps77
    go_wp2
    go_ret
    exact ⟨0, rfl, ⟨fun _ => rfl, fun h => absurd hx0 h⟩, rfl⟩
  · have hl0 := List.length_pos_iff.2 h0
    have hwl : ws.length ≤ 3 := words_len hw (k := 3) (by omega)
    rcases hu with ⟨_, h1⟩ | ⟨g, cap, rfl, hcap, hg, hc⟩
    · exact absurd h1 h0
    · obtain ⟨m, hm⟩ : ∃ m, ws.length = m + 1 := ⟨ws.length - 1, by omega⟩
      have hct := hc m (by omega)
      have HB : Hid (∀ n, 2 ^ n ≤ ws.getD m 0 → ws.getD m 0 < 2 ^ (n + 1) → BLen x (m * 32 + (n + 1))) := fun n q1 q2 => by
        have := blen_of ws x n hw hl0 (by rw [hm]; exact q1) (by rw [hm]; exact q2)
        rw [hm] at this; exact this
      have hts := hw.small _ (getD_mem ws m (by omega))
      have htz : ws.getD m 0 ≠ 0 := by
        have := hw.last h0
        rw [List.getLast_eq_getElem] at this
        rw [List.getD, List.getElem?_eq_getElem (by omega)]
        simpa [hm] using this
      generalize ws.getD m 0 = top at *
      have hm2 : m ≤ 2 := by omega
      rw [hm]
      clear hc hw hwl hcap hl0 h0
      have hmz : (m : Int) ≤ 2 := by omega
      have hlz : (((m + 1 : Nat) : Int) == 0) = false := by rw [beq_eq_false_iff_ne]; omega
      clear hm
      go_enter Tryd.func77, Tryd.ntmps77
      go_wp2_with fail
      go_loop [3, 4] (fun n t => ∃ k : Nat, k ≤ 32 ∧ n = .int .i64 (k : Int) ∧ t = .int .u32 ((top / 2 ^ k : Nat) : Int) ∧ (k = 0 ∨ 2 ^ (k - 1) ≤ top)) (fun n t => 33 - (intOf n).toNat)
      case atStart => exact ⟨0, by omega, rfl, by simp, .inl rfl⟩
      case round =>
        obtain ⟨k, hk, rfl, rfl, hkt⟩ := hrel
        have HK : Hid (k = 0 ∨ 2 ^ (k - 1) ≤ top) := hkt
        clear hkt
        have hkz : (k : Int) ≤ 32 := by omega
        have htk : top / 2 ^ k < 4294967296 := Nat.lt_of_le_of_lt (Nat.div_le_self _ _) hts
        by_cases ht : top / 2 ^ k = 0
        · rw [ht]
          have hk1 : ∃ n, k = n + 1 := by
            cases k with
            | zero => simp at ht; exact absurd ht htz
            | succ n => exact ⟨n, rfl⟩
          obtain ⟨n, rfl⟩ := hk1
          have hlt : top < 2 ^ (n + 1) := by
            rcases Nat.lt_or_ge top (2 ^ (n + 1)) with h | h
            · exact h
            · have := Nat.div_pos h (Nat.pow_pos (by omega)); omega
          have hbl := HB.out n (by rcases HK.out with h | h; exact absurd h (by omega); simpa using h) hlt
          clear hlt ht htk
          go_wp2
          go_ret
          refine ⟨m * 32 + (n + 1), ?_, hbl, rfl⟩
          go_num
        · have hsh := shr1 _ htk
          have hst := half_step top k ht
          have hk32 : k < 32 := by
            rcases Nat.lt_or_ge k 32 with h | h
            · exact h
            · have := Nat.pow_le_pow_right (show 0 < 2 by omega) h
              omega
          have hdd : top / 2 ^ k / 2 = top / 2 ^ (k + 1) := by rw [Nat.div_div_eq_div_mul, Nat.pow_succ]
          rw [hdd] at hsh
          have HDD : Hid (top / 2 ^ k / 2 = top / 2 ^ (k + 1)) := hdd
          have htb : (((top / 2 ^ k : Nat) : Int) == 0) = false := by rw [beq_eq_false_iff_ne]; omega
          have HST : Hid (2 ^ k ≤ top) := hst
          generalize hT : top / 2 ^ k = T at *
          clear hst hdd
          go_wp2_with fail
          go_round
          case rel => exact ⟨k + 1, by omega, by go_num, by rw [← HDD.out]; simp, .inr (by simpa using HST.out)⟩
          case measure => simp [intOf]; omega

theorem or32' (r x : Nat) (hr : r < 4294967296) (hx : x < 4294967296) : bits BinOp.or IntKind.u64 (x : Int) ((r : Int) * 4294967296) = ((r * 4294967296 + x : Nat) : Int) := by
  have h := u64_or_nat x (r * 4294967296) (by omega) (by omega)
  have e := Nat.two_pow_add_eq_or_of_lt (i := 32) (b := x) (by omega) r
  rw [show ((r : Int) * 4294967296) = ((r * 4294967296 : Nat) : Int) by omega, h, Nat.or_comm, Nat.mul_comm r, show (4294967296 : Nat) = 2 ^ 32 from rfl, ← e]

set_option maxHeartbeats 400000 in
theorem uint64_any (zb : Nat) (neg : Bool) (x : Nat) (w : World) (h : IntAt w zb neg x) (hx : x < 18446744073709551616) :
    Calls Tryd.prog 79 #[.pointer (some ⟨zb, 0, none⟩)] w fun e w' => e = .returned (.int .u64 (x : Int)) ∧ w' = w := by
  obtain ⟨hz, c0, v, c1, ws, hw, hu⟩ := h
  have hwl : ws.length ≤ 2 := words_len hw (k := 2) (by omega)
  match ws, hw, hwl, hu with
  | [], hw, _, hu =>
    obtain ⟨ao, cap, rfl⟩ := hu.slot
    have hx0 : x = 0 := by rw [← hw.val]; rfl
    subst hx0
    go_enter Tryd.func79, Tryd.ntmps79
    go_wp2
    go_ret
    exact ⟨rfl, rfl⟩
  | [a], hw, _, hu =>
    rcases hu with ⟨_, h1⟩ | ⟨g, cap, rfl, hcap, hg, hc⟩
    · cases h1
    · have hxa : a = x := by have := hw.val; simpa [val] using this
      subst hxa
      have ca := hc 0 (by simp)
      have ha := hw.small a (by simp)
      simp at ca
      clear hc hw
      go_enter Tryd.func79, Tryd.ntmps79
      go_wp2
      go_ret
      exact ⟨rfl, rfl⟩
  | [a, b], hw, _, hu =>
    rcases hu with ⟨_, h1⟩ | ⟨g, cap, rfl, hcap, hg, hc⟩
    · cases h1
    · have hxa : b * 4294967296 + a = x := by have := hw.val; simp [val] at this; omega
      have ca := hc 0 (by simp)
      have cb := hc 1 (by simp)
      have ha := hw.small a (by simp)
      have hb := hw.small b (by simp)
      have hor := or32' b a hb ha
      simp at ca cb
      rw [hxa] at hor
      have HOR : Hid (bits BinOp.or IntKind.u64 (a : Int) ((b : Int) * 4294967296) = (x : Int)) := hor
      clear hc hw hor
      go_enter Tryd.func79, Tryd.ntmps79
      go_wp2
      go_ret
      refine ⟨?_, rfl⟩
      show Ending.returned (.int .u64 (bits BinOp.or IntKind.u64 (a : Int) ((b : Int) * 4294967296))) = _
      rw [HOR.out]

def sgn (neg : Bool) (x : Nat) : Int := if neg then -(x : Int) else (x : Int)
set_option maxHeartbeats 400000 in
theorem int64_any (zb : Nat) (neg : Bool) (x : Nat) (w : World) (h : IntAt w zb neg x) (hx : x < 9223372036854775808 ∨ (neg = true ∧ x = 9223372036854775808)) :
    Calls Tryd.prog 56 #[.pointer (some ⟨zb, 0, none⟩)] w fun e w' => e = .returned (.int .i64 (sgn neg x)) ∧ w' = w := by
  have CU := uint64_any zb neg x w h (by omega)
  have c0 := h.c0
  clear h
  cases neg with
  | false =>
    have hx' : x < 9223372036854775808 := by rcases hx with h | ⟨h, _⟩; exact h; cases h
    have e1 : IntKind.i64.wrap (x : Int) = (x : Int) := by
      unfold IntKind.wrap; simp [IntKind.bits, IntKind.signed]; omega
    clear hx
    go_enter Tryd.func56, Tryd.ntmps56
    go_wp2_with fail
    refine CU.mono ?_
    rintro e w1 ⟨rfl, rfl⟩
    go_wp2
    go_ret
    exact ⟨rfl, rfl⟩
  | true =>
    by_cases hx' : x < 9223372036854775808
    · have e1 : IntKind.i64.wrap (x : Int) = (x : Int) := by
        unfold IntKind.wrap; simp [IntKind.bits, IntKind.signed]; omega
      have e2 : IntKind.i64.wrap (-(x : Int)) = -(x : Int) := by
        unfold IntKind.wrap; simp [IntKind.bits, IntKind.signed]; omega
      clear hx
      go_enter Tryd.func56, Tryd.ntmps56
      go_wp2_with fail
      refine CU.mono ?_
      rintro e w1 ⟨rfl, rfl⟩
      go_wp2
      go_ret
      exact ⟨rfl, rfl⟩
    · have hx2 : x = 9223372036854775808 := by omega
      subst hx2
      clear hx hx'
      go_enter Tryd.func56, Tryd.ntmps56
      go_wp2_with fail
      refine CU.mono ?_
      rintro e w1 ⟨rfl, rfl⟩
      go_wp2
      go_ret
      refine ⟨?_, rfl⟩
      show Ending.returned (.int .i64 (wrap64 (-wrap64 9223372036854775808))) = _
      rw [show wrap64 (-wrap64 9223372036854775808) = -9223372036854775808 by first | rfl | (unfold wrap64; simp) | (unfold wrap64; decide) | kernel_rfl]; rfl

theorem and_one (y : Nat) (h : y < 4294967296) : bits BinOp.and IntKind.u64 (IntKind.u64.wrap (y : Int)) 1 = ((y % 2 : Nat) : Int) := by
  rw [wrap_u64_nat y (by omega)]
  have := u64_and_nat y 1 (by omega) (by omega)
  rw [Nat.and_one_is_mod] at this
  exact this
theorem bit_low (a b i : Nat) (h : i < 32) : (a + 4294967296 * b) / 2 ^ i % 2 = a / 2 ^ i % 2 := by
  have e : 4294967296 * b = 2 ^ i * (2 * (2 ^ (31 - i) * b)) := by
    rw [← Nat.mul_assoc, ← Nat.mul_assoc, ← Nat.pow_succ, ← Nat.pow_add, show i.succ + (31 - i) = 32 by omega]
  rw [e, Nat.add_mul_div_left _ _ (Nat.pow_pos (by omega)), Nat.add_mul_mod_self_left]
set_option maxHeartbeats 400000 in
theorem bit_any (g cap a b i : Nat) (w : World) (ha : a < 4294967296) (hb : b < 4294967296) (hi : i < 64) (ca : w.cell? ⟨g, 0, none⟩ = some (.int .u32 (a : Int))) (cb : w.cell? ⟨g, 1, none⟩ = some (.int .u32 (b : Int))) :
    Calls Tryd.prog 94 #[.slice (some ⟨g, 0, none⟩) 2 cap, .int .i64 (i : Int)] w fun e w' => e = .returned (.int .u64 (((a + 4294967296 * b) / 2 ^ i % 2 : Nat) : Int)) ∧ w' = w := by
  by_cases h : i < 32
  · have e1 : (i : Int) / 32 = 0 := by omega
    have e2 : (i : Int) % 32 = (i : Int) := by omega
    have hiz : (0 : Int) ≤ (i : Int) := by omega
    have hr := and_one (a / 2 ^ i) (Nat.lt_of_le_of_lt (Nat.div_le_self _ _) ha)
    rw [← bit_low a b i h] at hr
    have HR : Hid (bits BinOp.and IntKind.u64 (IntKind.u64.wrap ((a / 2 ^ i : Nat) : Int)) 1 = (((a + 4294967296 * b) / 2 ^ i % 2 : Nat) : Int)) := hr
    clear hr
    go_enter Tryd.func94, Tryd.ntmps94
    go_wp2
    go_ret
    refine ⟨?_, rfl⟩
    rw [← HR.out]
    simp
  · obtain ⟨j, rfl⟩ : ∃ j, i = 32 + j := ⟨i - 32, by omega⟩
    have e1 : ((32 + j : Nat) : Int) / 32 = 1 := by omega
    have e2 : ((32 + j : Nat) : Int) % 32 = (j : Int) := by omega
    have hiz : (0 : Int) ≤ ((32 + j : Nat) : Int) := by omega
    have hr := and_one (b / 2 ^ j) (Nat.lt_of_le_of_lt (Nat.div_le_self _ _) hb)
    have ex : (a + 4294967296 * b) / 2 ^ (32 + j) = b / 2 ^ j := by
      rw [Nat.pow_add, ← Nat.div_div_eq_div_mul]
      congr 1
      omega
    rw [← ex] at hr
    have HR : Hid (bits BinOp.and IntKind.u64 (IntKind.u64.wrap (((a + 4294967296 * b) / 2 ^ (32 + j) : Nat) : Int)) 1 = (((a + 4294967296 * b) / 2 ^ (32 + j) % 2 : Nat) : Int)) := hr
    have HX : Hid ((a + 4294967296 * b) / 2 ^ (32 + j) = b / 2 ^ j) := ex
    clear hr h ex
    generalize hI : ((32 + j : Nat) : Int) = I at *
    go_enter Tryd.func94, Tryd.ntmps94
    go_wp2
    go_ret
    refine ⟨?_, rfl⟩
    rw [← HR.out, HX.out]
    simp

theorem tz_step (x k : Nat) (h : x % 2 ^ k = 0) (h2 : x / 2 ^ k % 2 = 0) : x % 2 ^ (k + 1) = 0 := by
  rw [Nat.mod_pow_succ, h, h2]; simp
theorem tz_end (x k : Nat) (hk : k ≤ 63) (h1 : 9223372036854775808 ≤ x) (h2 : x < 18446744073709551616) (h : x % 2 ^ k = 0) (hb : x / 2 ^ k % 2 ≠ 0) : k = 63 ↔ x = 9223372036854775808 := by
  constructor
  · rintro rfl
    have e : (2 : Nat) ^ 63 = 9223372036854775808 := by decide
    rw [e] at h; omega
  · rintro rfl
    rcases Nat.lt_or_ge k 63 with hlt | hge
    · exfalso
      apply hb
      have e : (9223372036854775808 : Nat) = 2 ^ k * (2 * 2 ^ (62 - k)) := by
        rw [← Nat.mul_assoc, ← Nat.pow_succ, ← Nat.pow_add, show k.succ + (62 - k) = 63 by omega]
      rw [e, Nat.mul_div_cancel_left _ (Nat.pow_pos (by omega)), Nat.mul_mod_right]
    · omega

set_option maxHeartbeats 400000 in
theorem tzb_any (zb : Nat) (neg : Bool) (x : Nat) (w : World) (h : IntAt w zb neg x) (h1 : 9223372036854775808 ≤ x) (h2 : x < 18446744073709551616) :
    Calls Tryd.prog 78 #[.pointer (some ⟨zb, 0, none⟩)] w fun e w' => ∃ k : Nat, e = .returned (.int .u64 (k : Int)) ∧ k ≤ 63 ∧ (k = 63 ↔ x = 9223372036854775808) ∧ w' = w := by
  obtain ⟨hz, c0, v, c1, ws, hw, hu⟩ := h
  have hwl : ws.length ≤ 2 := words_len hw (k := 2) (by omega)
  match ws, hw, hwl, hu with
  | [], hw, _, hu => have := hw.val; simp [val] at this; omega
  | [a], hw, _, hu => have := hw.val; have := hw.small a (by simp); simp [val] at *; omega
  | [a, b], hw, _, hu =>
    rcases hu with ⟨_, q⟩ | ⟨g, cap, rfl, hcap, hg, hc⟩
    · cases q
    · have hxa : a + 4294967296 * b = x := by have := hw.val; simp [val] at this; omega
      have ca := hc 0 (by simp)
      have cb := hc 1 (by simp)
      have ha := hw.small a (by simp)
      have hb := hw.small b (by simp)
      simp at ca cb
      clear hc hw
      have CB : Hid (∀ k : Nat, k < 64 → Calls Tryd.prog 94 #[.slice (some ⟨g, 0, none⟩) 2 cap, .int .i64 (k : Int)] w fun e w' => e = .returned (.int .u64 ((x / 2 ^ k % 2 : Nat) : Int)) ∧ w' = w) := fun k hk => by
        have := bit_any g cap a b k w ha hb hk ca cb
        rw [hxa] at this; exact this
      clear ca cb hxa
      go_enter Tryd.func78, Tryd.ntmps78
      go_wp2_with fail
      go_loop [3] (fun n => ∃ k : Nat, k ≤ 63 ∧ n = .int .u64 (k : Int) ∧ x % 2 ^ k = 0) (fun n => 64 - (intOf n).toNat)
      case atStart => exact ⟨0, by omega, rfl, by simp; omega⟩
      case round =>
        obtain ⟨k, hk, rfl, hmod⟩ := hrel
        have HM : Hid (x % 2 ^ k = 0) := hmod
        clear hmod
        have hkz : (k : Int) ≤ 63 := by omega
        have CK := CB.out k (by omega)
        by_cases hb0 : x / 2 ^ k % 2 = 0
        · have hs := tz_step x k HM.out hb0
          have HS : Hid (x % 2 ^ (k + 1) = 0) := hs
          have hk62 : k ≤ 62 := by
            rcases Nat.lt_or_ge k 63 with h | h
            · omega
            · have : k = 63 := by omega
              subst this
              rw [show (2 : Nat) ^ 63 = 9223372036854775808 by decide] at hb0
              omega
          rw [hb0] at CK
          clear hs hb0
          go_wp2_with fail
          refine CK.mono ?_
          rintro e w2 ⟨rfl, rfl⟩
          go_wp2_with fail
          go_round
          case rel => exact ⟨k + 1, by omega, by go_num, HS.out⟩
          case measure => simp [intOf]; omega
        · have hq := tz_end x k hk h1 h2 HM.out hb0
          have HQ : Hid (k = 63 ↔ x = 9223372036854775808) := hq
          have hb1 : x / 2 ^ k % 2 = 1 := by omega
          rw [hb1] at CK
          clear hq hb0 hb1
          go_wp2_with fail
          refine CK.mono ?_
          rintro e w2 ⟨rfl, rfl⟩
          go_wp2
          go_ret
          exact ⟨k, rfl, hk, HQ.out, rfl⟩

set_option maxHeartbeats 400000 in
theorem isInt64_any (zb : Nat) (neg : Bool) (x : Nat) (w : World) (h : IntAt w zb neg x) (hx : x < 100000000000000000000) :
    Calls Tryd.prog 55 #[.pointer (some ⟨zb, 0, none⟩)] w fun e w' => e = .returned (.bool (decide (x < 9223372036854775808 ∨ (neg = true ∧ x = 9223372036854775808)))) ∧ w' = w := by
  obtain ⟨v, c1, hn⟩ := h.c1
  have c0 := h.c0
  have CL := bitLen_any v x w hn hx
  have hq : ∃ ao n c, v = .slice ao n c := by
    obtain ⟨ws, _, q⟩ := hn
    obtain ⟨ao, c, e⟩ := q.slot
    exact ⟨ao, _, c, e⟩
  obtain ⟨ao, n, cap, rfl⟩ := hq
  generalize hr : decide (x < 9223372036854775808 ∨ (neg = true ∧ x = 9223372036854775808)) = r
  have HR : Hid (decide (x < 9223372036854775808 ∨ (neg = true ∧ x = 9223372036854775808)) = r) := hr
  clear hr
  go_enter Tryd.func55, Tryd.ntmps55
  go_wp2_with fail
  refine CL.mono ?_
  rintro e w1 ⟨L, rfl, hL, rfl⟩
  have HL : Hid (BLen x L) := hL
  clear hL CL hn
  by_cases hx63 : x < 9223372036854775808
  · have hl : L < 64 := by
      rcases Nat.lt_or_ge L 64 with h | h
      · exact h
      · have hx0 : x ≠ 0 := by rintro rfl; have := HL.out.1 rfl; omega
        obtain ⟨m, rfl, q1, q2⟩ := HL.out.2 hx0
        have := Nat.pow_le_pow_right (show 0 < 2 by omega) (show 63 ≤ m by omega)
        rw [show (2 : Nat) ^ 63 = 9223372036854775808 by decide] at this
        omega
    have hlz : (L : Int) < 64 := by omega
    have e : decide (x < 9223372036854775808 ∨ (neg = true ∧ x = 9223372036854775808)) = true := decide_eq_true (.inl hx63)
    have hrv : r = true := by rw [← HR.out, e]
    subst hrv
    clear e HR
    clear h
    go_wp2
    go_ret
    exact ⟨rfl, rfl⟩
  · obtain ⟨m, rfl, q1, q2⟩ := HL.out.2 (by omega)
    have hm : 63 ≤ m := by
      rcases Nat.lt_or_ge m 63 with h | h
      · have := Nat.pow_le_pow_right (show 0 < 2 by omega) (show m + 1 ≤ 63 by omega)
        rw [show (2 : Nat) ^ 63 = 9223372036854775808 by decide] at this
        omega
      · exact h
    have hlz : ¬ ((m + 1 : Nat) : Int) < 64 := by omega
    by_cases hm63 : m = 63
    · subst hm63
      rw [show (2 : Nat) ^ (63 + 1) = 18446744073709551616 by decide] at q2
      cases neg with
      | false =>
        have e : decide (x < 9223372036854775808 ∨ (false = true ∧ x = 9223372036854775808)) = false := by simp; omega
        have hrv : r = false := by rw [← HR.out, e]
        subst hrv
        clear e HR
        clear h q1 q2
        go_wp2
        go_ret
        exact ⟨rfl, rfl⟩
      | true =>
        have CT := tzb_any zb true x w1 h (by omega) q2
        clear q1 HL
        go_wp2_with fail
        refine CT.mono ?_
        rintro e w2 ⟨k, rfl, hk, hkx, rfl⟩
        by_cases hx0 : x = 9223372036854775808
        · have := hkx.2 hx0
          subst this
          have hrv : r = true := by rw [← HR.out]; exact decide_eq_true (.inr ⟨by trivial, hx0⟩)
          subst hrv
          clear HR
          clear h CT hkx
          go_wp2
          go_ret
          exact ⟨rfl, rfl⟩
        · have hk2 : ((k : Int) == 63) = false := by rw [beq_eq_false_iff_ne]; intro c; exact hx0 (hkx.1 (by omega))
          have e : True := trivial
          have hrv : r = false := by rw [← HR.out]; simp; omega
          subst hrv
          clear e HR
          clear h CT hkx
          go_wp2
          go_ret
          exact ⟨rfl, rfl⟩
    · have hl2 : (((m + 1 : Nat) : Int) == 64) = false := by rw [beq_eq_false_iff_ne]; omega
      have e : decide (x < 9223372036854775808 ∨ (neg = true ∧ x = 9223372036854775808)) = false := by
        have := Nat.pow_le_pow_right (show 0 < 2 by omega) (show 64 ≤ m by omega)
        rw [show (2 : Nat) ^ 64 = 18446744073709551616 by decide] at this
        simp; omega
      have hrv : r = false := by rw [← HR.out, e]
      subst hrv
      clear e HR
      clear h q1 q2
      go_wp2
      go_ret
      refine ⟨?_, rfl⟩
      show Ending.returned (.bool (decide ((m : Int) + 1 < 64))) = _
      rw [decide_eq_false (by omega)]
end Go.Proofs.YtbhgcfoplpjfjaaDoor
