/-
  The contract of duetbig.mul by ten, for every list of at most 1000 words; and of duetbig.add of nothing and nothing.
-/
import Derived.Test.YtecapnipkngniaaGreatDoorBc
import Derived.Deep.QuietTactic
import Derived.BigQuiet
namespace Go.Proofs.YtecapnipkngniaaGreatDoor
open Go.RowKit

set_option maxRecDepth 100000 in
set_option maxHeartbeats 1000000 in
theorem add_none (gb cb : Nat) (w : World) :
    Calls Tryz.prog 115 #[.slice none 0 0, .slice (some ⟨gb, 0, none⟩) 0 cb] w fun e w' => ∃ v, e = .returned v ∧ NumAt w' v 0 ∧ Below w.heap.size w w' := by
  obtain ⟨Z, hZ, hmk⟩ := make32 1 (by omega)
  obtain rfl : Z = #[.int .u32 0] := Array.toList_inj.1 hZ
  have hmk' : ∀ w : World, (Instr.makeSlice 98 (.int .i64 1) (.int .i64 1)).run Tryz.prog w = .ok (.slice (some ⟨w.heap.size, 0, none⟩) 1 1) (w.alloc (.cells #[.int .u32 0] 122)) := hmk
  have cT := trim_any w.heap.size 1 [0] (w.alloc (.cells #[.int .u32 0] 122)) (by intro y hy; simp at hy; omega) (by simp) (by simp) (by simp) (by
    intro j hj
    match j, hj with
    | 0, _ => go_cell
    | j + 1, hj => simp at hj)
  rw [show val [0] = 0 from rfl] at cT
  clear hmk hZ
  go_enter Tryz.func115, Tryz.ntmps115
  go_wp2_with fail
  refine wp_loop_rounds 1 ?_
  rw [rounds_succ]
  go_wp2_with fail
  refine cT.mono ?_
  rintro e w2 ⟨v, rfl, hnum, rfl⟩
  go_wp2
  go_ret
  exact ⟨v, rfl, hnum, (Below.refl _ _).alloc (Nat.le_refl _) _⟩

theorem below_dq {B : Nat} {a w : World} (h : Below B a w) : ∀ q, Below B a (w.drewN q)
  | 0 => h
  | q + 1 => (below_dq h q).drew
theorem row_dq {w : World} {g : Nat} {rs : List Nat} (h : Row w g rs) : ∀ q, Row (w.drewN q) g rs
  | 0 => h
  | q + 1 => fun j hj => row_dq h q j hj
theorem size_dq (w : World) : ∀ q, (w.drewN q).heap.size = w.heap.size
  | 0 => rfl
  | q + 1 => size_dq w q

theorem mul_step (p P A a y T : Nat) (hT : a * 10 + y = T) (h : P + p * y = 10 * A) : P + p * (T % 4294967296) + p * 4294967296 * (T / 4294967296) = 10 * (A + p * a) := by
  have e : p * (T % 4294967296) + p * 4294967296 * (T / 4294967296) = p * T := by
    rw [Nat.mul_assoc, ← Nat.mul_add]
    congr 1
    omega
  have e2 : p * T = 10 * (p * a) + p * y := by rw [← hT, Nat.mul_add, ← Nat.mul_assoc, Nat.mul_comm (p * a) 10]
  omega

set_option maxRecDepth 100000 in
set_option maxHeartbeats 1000000 in
theorem mul_ten (ga ca gb cb : Nat) (al : List Nat) (w : World) (hs : Small al) (hla : al.length ≤ 1000) (h1 : 0 < al.length) (hga : ga < w.heap.size) (hgb : gb < w.heap.size) (hcl : ∀ j, j < al.length → w.cell? ⟨ga, j, none⟩ = some (.int .u32 (al.getD j 0 : Nat))) (hcb : w.cell? ⟨gb, 0, none⟩ = some (.int .u32 10)) :
    Calls Tryz.prog 85 #[.slice (some ⟨ga, 0, none⟩) al.length ca, .slice (some ⟨gb, 0, none⟩) 1 cb] w fun e w' => ∃ v, e = .returned v ∧ NumAt w' v (10 * val al) ∧ Below w.heap.size w w' := by
  obtain ⟨Z, hZ, hmk⟩ := make32 (al.length + 1) (by omega)
  have hrow := row_new w Z (al.length + 1) hZ
  have hmk' : ∀ w : World, (Instr.makeSlice 98 (.int .i64 ((al.length : Int) + 1)) (.int .i64 ((al.length : Int) + 1))).run Tryz.prog w = .ok (.slice (some ⟨w.heap.size, 0, none⟩) (al.length + 1) (al.length + 1)) (w.alloc (.cells Z 122)) := by
    intro W
    have := hmk W
    rw [show ((al.length + 1 : Nat) : Int) = (al.length : Int) + 1 by omega] at this
    exact this
  clear hmk hZ
  have HCL : Hid (∀ j, j < al.length → w.cell? ⟨ga, j, none⟩ = some (.int .u32 (al.getD j 0 : Nat))) := hcl
  clear hcl
  have h1z : ((al.length : Int) == 0) = false := beq_eq_false_iff_ne.2 (by omega)
  go_enter Tryz.func85, Tryz.ntmps85
  go_wp2_with fail
  go_loopw [6] (fun i wr => ∃ (k : Nat) (rs : List Nat), k ≤ al.length ∧ i = .int .i64 (k : Int) ∧ rs.length = al.length + 1 ∧ Row wr w.heap.size rs ∧ val (rs.take (k + 1)) = 10 * val (al.take k) ∧ rs.getD k 0 < 10 ∧ Small rs ∧ Below w.heap.size w wr ∧ w.heap.size < wr.heap.size) (fun i wr => al.length - (intOf i).toNat)
  case atStart => exact ⟨0, List.replicate (al.length + 1) 0, Nat.zero_le _, rfl, by simp, hrow, by simp [val, List.replicate_succ], by simp [List.replicate_succ], small_rep _, (Below.refl _ _).alloc (Nat.le_refl _) _, by simp⟩
  case round =>
    obtain ⟨k, rs, hk, rfl, hrl, hr, hval, hy10, hsr, hbw, hlt⟩ := hrel
    have HR : Hid (Row wr w.heap.size rs) := hr
    have HV : Hid (val (rs.take (k + 1)) = 10 * val (al.take k)) := hval
    clear hr hval
    by_cases hkl : k < al.length
    · have hkz : (k : Int) < (al.length : Int) := by omega
      have hcx : wr.cell? ⟨ga, k, none⟩ = some (.int .u32 (al.getD k 0 : Nat)) := (hbw.cell (p := ⟨ga, k, none⟩) hga).trans (HCL.out k hkl)
      have hcb' : wr.cell? ⟨gb, 0, none⟩ = some (.int .u32 10) := (hbw.cell (p := ⟨gb, 0, none⟩) hgb).trans hcb
      have hcq := (HR.out k (by omega)).1
      have hfq := (HR.out k (by omega)).2
      have hcq1 := (HR.out (k + 1) (by omega)).1
      have hfq1 := (HR.out (k + 1) (by omega)).2
      generalize hx : al.getD k 0 = x at hcx
      generalize hy : rs.getD k 0 = y at hcq hy10
      generalize hz : rs.getD (k + 1) 0 = z at hcq1
      have hx2 : x < 4294967296 := by rw [← hx]; exact hs _ (getD_mem al k hkl)
      have HX : Hid (al.getD k 0 = x) := hx
      have HY : Hid (rs.getD k 0 = y) := hy
      clear hx hy hz
      go_wp2_with fail
      refine wp_loop_rounds 2 ?_
      rw [rounds_succ]
      go_wp2_with fail
      have e1 : IntKind.u64.wrap ((x : Int) * 10) = (x : Int) * 10 := by rw [show (x : Int) * 10 = ((x * 10 : Nat) : Int) by omega]; exact wrap_u64_nat _ (by omega)
      have e2 : IntKind.u64.wrap ((x : Int) * 10 + (y : Int)) = (x : Int) * 10 + (y : Int) := by rw [show (x : Int) * 10 + (y : Int) = ((x * 10 + y : Nat) : Int) by omega]; exact wrap_u64_nat _ (by omega)
      go_quiet (fail)
      go_wp2_with fail
      rw [rounds_succ]
      go_wp2_with fail
      obtain ⟨T, hT⟩ : ∃ T, x * 10 + y = T := ⟨_, rfl⟩
      have ht1 : ((x : Int) * 10 + (y : Int)) % 4294967296 = ((T % 4294967296 : Nat) : Int) := by omega
      have ht2 : ((x : Int) * 10 + (y : Int)) / 4294967296 = ((T / 4294967296 : Nat) : Int) := by omega
      rw [ht1, ht2]
      have hv1 : val (rs.take k) + 4294967296 ^ k * y = 10 * val (al.take k) := by
        have := HV.out
        rw [val_take_succ rs k (by omega), HY.out] at this
        exact this
      have hst := mul_step (4294967296 ^ k) _ _ x y T hT hv1
      have hb2 := ((below_dq hbw nq).setCell (p := ⟨w.heap.size, k, none⟩) (Nat.le_refl _) (.int .u32 ((T % 4294967296 : Nat) : Int))).setCell (p := ⟨w.heap.size, k + 1, none⟩) (Nat.le_refl _) (.int .u32 ((T / 4294967296 : Nat) : Int))
      have hrow2 := ((row_dq HR.out nq).set k (T % 4294967296) (by omega)).set (k + 1) (T / 4294967296) (by rw [List.length_set]; omega)
      refine ⟨⟨k + 1, (rs.set k (T % 4294967296)).set (k + 1) (T / 4294967296), by omega, by go_num, by rw [List.length_set, List.length_set]; omega, hrow2, ?_, ?_, small_set (small_set hsr _ _ (by omega)) _ _ (by omega), hb2, ?_⟩, by simp [intOf]; omega⟩
      · rw [val_take_succ _ (k + 1) (by rw [List.length_set, List.length_set]; omega), getD_set_self _ _ _ (by rw [List.length_set]; omega), take_set_same, val_take_succ _ k (by rw [List.length_set]; omega), take_set_same, getD_set_self _ _ _ (by omega), val_take_succ al k hkl, HX.out, Nat.pow_succ]
        exact hst
      · rw [getD_set_self _ _ _ (by rw [List.length_set]; omega)]
        omega
      · have := size_dq wr nq
        simp only [World.size_setCell]
        omega
    · have hk2 : k = al.length := by omega
      subst hk2
      have hvs : val rs = 10 * val al := by
        have := HV.out
        rw [List.take_of_length_le (by omega), List.take_of_length_le (Nat.le_refl _)] at this
        exact this
      have cT := trim_any w.heap.size rs.length rs wr hsr (Nat.le_refl _) (by omega) hlt (fun j hj => (HR.out j hj).1)
      rw [hvs, hrl] at cT
      clear hvs
      go_wp2_with fail
      refine cT.mono ?_
      rintro e w2 ⟨v, rfl, hnum, rfl⟩
      go_wp2
      go_ret
      exact ⟨v, rfl, hnum, hbw⟩

set_option maxHeartbeats 400000 in
theorem mul_nil (gb cb : Nat) (o : Option Addr) (ca : Nat) (w : World) :
    Calls Tryz.prog 85 #[.slice o 0 ca, .slice (some ⟨gb, 0, none⟩) 1 cb] w fun e w' => e = .returned (.slice none 0 0) ∧ w' = w := by
  go_enter Tryz.func85, Tryz.ntmps85
  go_wp2
  go_ret
  exact ⟨rfl, rfl⟩
end Go.Proofs.YtecapnipkngniaaGreatDoor
/-
  Numbers of package duetbig: sums and ten times for every number, words in a new block; the contracts of Int.give, Int.SetInt64 and duetbig.NewInt.
-/
namespace Go.Proofs.YtecapnipkngniaaGreatDoor
open Go.RowKit

theorem val_pos : ∀ (ws : List Nat), (∀ h : ws ≠ [], ws.getLast h ≠ 0) → ws ≠ [] → 4294967296 ^ (ws.length - 1) ≤ val ws
  | [], _, h => absurd rfl h
  | [a], hl, _ => by have := hl (by simp); simp at this; simp [val]; omega
  | a :: b :: r, hl, _ => by
    have ih := val_pos (b :: r) (fun _ => by have := hl (by simp); simpa using this) (by simp)
    simp only [List.length_cons, Nat.add_sub_cancel] at ih ⊢
    rw [val, Nat.pow_succ]
    have := Nat.mul_le_mul_left 4294967296 ih
    rw [Nat.mul_comm 4294967296 (4294967296 ^ r.length)] at this
    omega
theorem words_zero {ws : List Nat} (h : Words ws 0) : ws = [] := by
  by_cases e : ws = []
  · exact e
  · have h1 := val_pos ws h.last e
    rw [h.val] at h1
    have : 0 < 4294967296 ^ (ws.length - 1) := Nat.pow_pos (by omega)
    omega
theorem words_one {ws : List Nat} {x : Nat} (h : Words ws x) (h0 : 0 < x) (h1 : x < 4294967296) : ws = [x] := by
  match ws, h with
  | [], h => have := h.val; simp [val] at this; omega
  | [a], h => have := h.val; simp [val] at this; rw [this]
  | a :: b :: r, h =>
    have h2 := val_pos (a :: b :: r) h.last (by simp)
    rw [h.val] at h2
    have : 4294967296 ^ 1 ≤ 4294967296 ^ ((a :: b :: r).length - 1) := Nat.pow_le_pow_right (by omega) (by simp)
    omega
theorem words_len {ws : List Nat} {x k : Nat} (h : Words ws x) (hx : x < 4294967296 ^ k) : ws.length ≤ k := by
  by_cases e : ws = []
  · subst e; simp
  · have h1 := val_pos ws h.last e
    rw [h.val] at h1
    have h2 : 4294967296 ^ (ws.length - 1) < 4294967296 ^ k := Nat.lt_of_le_of_lt h1 hx
    have := (Nat.pow_lt_pow_iff_right (by omega : 1 < 4294967296)).1 h2
    omega

/-- from a number to ten times it and a digit -/
theorem mul10_any (v vt : Value) (x : Nat) (w : World) (hx : x < 4294967296 ^ 9) (h : NumAt w v x) (ht : NumAt w vt 10) :
    Calls Tryz.prog 85 #[v, vt] w fun e w' => ∃ v', e = .returned v' ∧ NumAt w' v' (10 * x) ∧ Below w.heap.size w w' := by
  obtain ⟨ts, h1, h2⟩ := ht
  have := words_one h1 (by omega) (by omega)
  subst this
  rcases h2 with ⟨_, h2⟩ | ⟨gb, cb, rfl, _, hgb, hcb⟩
  · cases h2
  · obtain ⟨ws, q1, q2⟩ := h
    have hcb0 := hcb 0 (by simp)
    rcases q2 with ⟨rfl, rfl⟩ | ⟨ga, ca, rfl, hca, hga, hcl⟩
    · have : x = 0 := by rw [← q1.val]; rfl
      subst this
      refine (mul_nil gb cb none 0 w).mono ?_
      rintro e w' ⟨rfl, rfl⟩
      exact ⟨_, rfl, ⟨[], ⟨by intro y hy; simp at hy, rfl, fun h => absurd rfl h⟩, .inl ⟨rfl, rfl⟩⟩, Below.refl _ _⟩
    · by_cases h0 : 0 < ws.length
      · have := mul_ten ga ca gb cb ws w q1.small (by have := words_len q1 hx; omega) h0 hga hgb hcl hcb0
        rw [q1.val] at this
        exact this
      · have : ws = [] := List.eq_nil_of_length_eq_zero (by omega)
        subst this
        have : x = 0 := by rw [← q1.val]; rfl
        subst this
        refine (mul_nil gb cb (some ⟨ga, 0, none⟩) ca w).mono ?_
        rintro e w' ⟨rfl, rfl⟩
        exact ⟨_, rfl, ⟨[], ⟨by intro y hy; simp at hy, rfl, fun h => absurd rfl h⟩, .inl ⟨rfl, rfl⟩⟩, Below.refl _ _⟩

/-- a sum whose second number lies in a block -/
theorem add_any (v vt : Value) (x y : Nat) (w : World) (hx : x < 4294967296 ^ 9) (hy : y < 4294967296 ^ 9) (h : NumAt w v x) (ht : NumAt w vt y) (hb : vt ≠ .slice none 0 0) :
    Calls Tryz.prog 115 #[v, vt] w fun e w' => ∃ v', e = .returned v' ∧ NumAt w' v' (x + y) ∧ Below w.heap.size w w' := by
  obtain ⟨ts, h1, h2⟩ := ht
  rcases h2 with ⟨h2, _⟩ | ⟨gb, cb, rfl, _, hgb, hcb⟩
  · exact absurd h2 hb
  · obtain ⟨ws, q1, q2⟩ := h
    have l1 := words_len q1 hx
    have l2 := words_len h1 hy
    rcases q2 with ⟨rfl, rfl⟩ | ⟨ga, ca, rfl, hca, hga, hcl⟩
    · have : x = 0 := by rw [← q1.val]; rfl
      subst this
      by_cases h0 : 0 < ts.length
      · have := add_nil gb cb ts w h1.small (by omega) h0 hgb hcb
        rw [h1.val, show val ([] : List Nat) = 0 from rfl, Nat.add_comm] at this
        exact this
      · have : ts = [] := List.eq_nil_of_length_eq_zero (by omega)
        subst this
        have : y = 0 := by rw [← h1.val]; rfl
        subst this
        exact add_none gb cb w
    · by_cases hlt : ws.length < ts.length
      · have := add_lt ga ca gb cb ws ts w h1.small q1.small (by omega) hlt hgb hga hcb hcl
        rw [h1.val, q1.val, Nat.add_comm] at this
        exact this
      · have := add_ge ga ca gb cb ws ts w q1.small h1.small (by omega) hlt hga hgb hcl hcb
        rw [h1.val, q1.val] at this
        exact this


/-- a number's words in the block g -/
def BlkAt (W : World) (g : Nat) (v : Value) (x : Nat) : Prop :=
  ∃ ws cap, Words ws x ∧ v = .slice (some ⟨g, 0, none⟩) ws.length cap ∧ ws.length ≤ cap ∧ g < W.heap.size ∧ ∀ j, j < ws.length → W.cell? ⟨g, j, none⟩ = some (.int .u32 (ws.getD j 0 : Nat))
theorem BlkAt.num {W : World} {g : Nat} {v : Value} {x : Nat} (h : BlkAt W g v x) : NumAt W v x := by
  obtain ⟨ws, cap, h1, h2, h3, h4, h5⟩ := h
  exact ⟨ws, h1, .inr ⟨g, cap, h2, h3, h4, h5⟩⟩
theorem BlkAt.slot {W : World} {g : Nat} {v : Value} {x : Nat} (h : BlkAt W g v x) : ∃ n cap, v = .slice (some ⟨g, 0, none⟩) n cap := by
  obtain ⟨ws, cap, h1, h2, h3, h4, h5⟩ := h
  exact ⟨_, _, h2⟩
theorem BlkAt.ne {W : World} {g : Nat} {v : Value} {x : Nat} (h : BlkAt W g v x) : v ≠ .slice none 0 0 := by
  obtain ⟨ws, cap, h1, h2, h3, h4, h5⟩ := h
  rw [h2]; intro c; cases c

set_option maxHeartbeats 1000000 in
theorem trim_blk (g cap : Nat) (ws : List Nat) (w : World) (hs : Small ws) (hcap : ws.length ≤ cap) (hcm : cap ≤ 9223372036854775807) (hg : g < w.heap.size) (hc : ∀ j, j < ws.length → w.cell? ⟨g, j, none⟩ = some (.int .u32 (ws.getD j 0 : Nat))) :
    Calls Tryz.prog 118 #[.slice (some ⟨g, 0, none⟩) ws.length cap] w fun e w' => ∃ v, e = .returned v ∧ BlkAt w g v (val ws) ∧ w' = w := by
  go_enter Tryz.func118, Tryz.ntmps118
  go_wp2_with fail
  go_loop [3] (fun i => ∃ n : Nat, n ≤ ws.length ∧ i = .int .i64 (n : Int) ∧ ∀ j, n ≤ j → j < ws.length → ws.getD j 0 = 0) (fun i => (intOf i).toNat)
  case atStart => exact ⟨ws.length, Nat.le_refl _, rfl, fun j h1 h2 => by omega⟩
  case round =>
    obtain ⟨n, hn, rfl, hz⟩ := hrel
    have HZ : Hid (∀ j, n ≤ j → j < ws.length → ws.getD j 0 = 0) := hz
    clear hz
    by_cases h0 : n = 0
    · subst h0
      have hw := trimmed ws 0 (by omega) (fun j _ hj => HZ.out j (by omega) hj) (.inl rfl) hs
      clear hc
      go_wp2
      go_ret
      exact ⟨_, rfl, ⟨_, cap, hw, by simp, by simp, hg, by simp⟩, rfl⟩
    · obtain ⟨m, rfl⟩ : ∃ m, n = m + 1 := ⟨n - 1, by omega⟩
      have hcm' := hc m (by omega)
      generalize hx : ws.getD m 0 = x at hcm'
      have HX : Hid (ws.getD m 0 = x) := hx
      have HC : Hid (∀ j, j < ws.length → w.cell? ⟨g, j, none⟩ = some (.int .u32 (ws.getD j 0 : Nat))) := hc
      clear hc hx
      have hmz : (m : Int) < (ws.length : Int) := by omega
      by_cases hx0 : x = 0
      · subst hx0
        go_wp2
        go_round
        case rel => exact ⟨m, by omega, by go_num, fun j h1 h2 => by
          rcases Nat.lt_or_ge m j with h | h
          · exact HZ.out j (by omega) h2
          · have : j = m := by omega
            subst this; exact HX.out⟩
        case measure => simp [intOf]
      · have hxb : ((x : Int) == 0) = false := by simp; omega
        have hw := trimmed ws (m + 1) hn (fun j h1 h2 => HZ.out j h1 h2) (.inr (by rw [Nat.add_sub_cancel, HX.out]; exact hx0)) hs
        go_wp2
        go_ret
        refine ⟨_, rfl, ⟨_, cap, hw, ?_, ?_, hg, fun j hj => ?_⟩, rfl⟩
        · rw [List.length_take, Nat.min_eq_left hn]; rfl
        · rw [List.length_take]; omega
        · rw [List.length_take] at hj
          rw [HC.out j (by omega)]
          congr 2
          simp [List.getD, List.getElem?_take]
          rw [if_pos (by omega)]

set_option maxHeartbeats 400000 in
theorem words_blk (x : Nat) (w : World) (hx : x < 18446744073709551616) :
    Calls Tryz.prog 112 #[.int .u64 (x : Int)] w fun e w' => ∃ v, e = .returned v ∧ BlkAt w' w.heap.size v x ∧ Below w.heap.size w w' := by
  have hv : val [x % 4294967296, x / 4294967296] = x := by simp [val]; omega
  have cT := trim_blk w.heap.size 2 [x % 4294967296, x / 4294967296] (w.alloc (Obj.cells #[Value.int IntKind.u32 ((x : Int) % 4294967296), Value.int IntKind.u32 ((x : Int) / 4294967296)] 122)) (by intro y hy; simp at hy; omega) (by simp) (by simp) (by simp) (by
    intro j hj
    match j, hj with
    | 0, _ => go_cell
    | 1, _ => go_cell
    | j + 2, hj => simp at hj; omega)
  rw [hv] at cT
  go_enter Tryz.func112, Tryz.ntmps112
  go_wp2_with fail
  refine cT.mono ?_
  rintro e w1 ⟨v, rfl, hn, rfl⟩
  go_wp2
  go_ret
  exact ⟨_, rfl, hn, (Below.refl _ _).alloc (Nat.le_refl _) _⟩


/-- a number of package duetbig in its block -/
structure IntAt (W : World) (zb : Nat) (neg : Bool) (x : Nat) : Prop where
  lt : zb < W.heap.size
  c0 : W.cell? ⟨zb, 0, none⟩ = some (.bool neg)
  c1 : ∃ v, W.cell? ⟨zb, 1, none⟩ = some v ∧ NumAt W v x
theorem IntAt.keep {W W' : World} {zb : Nat} {neg : Bool} {x : Nat} (h : IntAt W zb neg x) (hb : Below W.heap.size W W') : IntAt W' zb neg x := by
  obtain ⟨h1, h2, v, h3, h4⟩ := h
  exact ⟨Nat.lt_of_lt_of_le h1 hb.size, (hb.cell (p := ⟨zb, 0, none⟩) h1).trans h2, v, (hb.cell (p := ⟨zb, 1, none⟩) h1).trans h3, h4.keep hb⟩
theorem U32.slot {W : World} {v : Value} {ws : List Nat} (h : U32 W v ws) : ∃ ao cap, v = .slice ao ws.length cap := by
  rcases h with ⟨h, rfl⟩ | ⟨g, cap, h, _⟩
  · exact ⟨none, 0, h⟩
  · exact ⟨_, _, h⟩
theorem NumAt.put {W W' : World} {zb : Nat} {v : Value} {x : Nat} {b : Bool} (h : NumAt W v x) (h0 : W.cell? ⟨zb, 0, none⟩ = some (.bool b)) (hs : W.heap.size ≤ W'.heap.size) (hc : ∀ g j, g ≠ zb → g < W.heap.size → W'.cell? ⟨g, j, none⟩ = W.cell? ⟨g, j, none⟩) : NumAt W' v x := by
  obtain ⟨ws, h1, h2⟩ := h
  refine ⟨ws, h1, ?_⟩
  rcases h2 with h | ⟨g, cap, e1, e2, e3, e4⟩
  · exact .inl h
  · refine .inr ⟨g, cap, e1, e2, Nat.lt_of_lt_of_le e3 hs, fun j hj => ?_⟩
    rw [← e4 j hj]
    refine hc g j ?_ e3
    rintro rfl
    have := e4 0 (by omega)
    rw [h0] at this
    cases this

set_option maxHeartbeats 400000 in
theorem give_any (zb : Nat) (neg : Bool) (v : Value) (x : Nat) (w : World) (b0 : Bool) (c1 : Value) (h0 : w.cell? ⟨zb, 0, none⟩ = some (.bool b0)) (h1 : w.cell? ⟨zb, 1, none⟩ = some c1) (f0 : w.frozen? ⟨zb, 0, none⟩ = false) (f1 : w.frozen? ⟨zb, 1, none⟩ = false) (hz : zb < w.heap.size) (h : NumAt w v x) :
    Calls Tryz.prog 81 #[.pointer (some ⟨zb, 0, none⟩), .bool neg, v] w fun e w' => e = .returned (.pointer (some ⟨zb, 0, none⟩)) ∧ IntAt w' zb (neg && decide (x ≠ 0)) x ∧ Below zb w w' := by
  have hsv : ∃ b ao n cap, v = .slice ao n cap ∧ decide (x ≠ 0) = b ∧ decide ((n : Int) > 0) = b := by
    obtain ⟨ws, q1, q2⟩ := h
    obtain ⟨ao, cap, rfl⟩ := q2.slot
    refine ⟨decide (x ≠ 0), ao, _, _, rfl, rfl, ?_⟩
    by_cases hx : x = 0
    · subst hx; rw [words_zero q1]; rfl
    · have : ws ≠ [] := by rintro rfl; exact hx (by rw [← q1.val]; rfl)
      have := List.length_pos_iff.2 this
      simp [hx]; omega
  have hk : ∀ (c d : Value), NumAt ((w.setCell ⟨zb, 1, none⟩ c).setCell ⟨zb, 0, none⟩ d) v x := fun c d =>
    h.put h0 (by simp) (fun g j hg _ => by
      rw [World.cell?_setCell_other _ _ _ _ (by intro c; injection c; omega), World.cell?_setCell_other _ _ _ _ (by intro c; injection c; omega)])
  obtain ⟨b, ao, n, cap, rfl, hb, hn⟩ := hsv
  rw [hb]
  have hz0 : Below zb w w := Below.refl _ _
  have HN : Hid (decide ((n : Int) > 0) = b) := hn
  have k0 : (w.setCell ⟨zb, 1, none⟩ (.slice ao n cap)).cell? ⟨zb, 0, none⟩ = some (.bool b0) := by
    rw [World.cell?_setCell_other _ _ _ _ (by intro c; injection c; omega)]; exact h0
  have hb2 : ∀ c d, Below zb w ((w.setCell ⟨zb, 1, none⟩ c).setCell ⟨zb, 0, none⟩ d) := fun c d =>
    ((hz0.setCell (p := ⟨zb, 1, none⟩) (Nat.le_refl _) c).setCell (p := ⟨zb, 0, none⟩) (Nat.le_refl _) d)
  have hi : ∀ d, IntAt ((w.setCell ⟨zb, 1, none⟩ (.slice ao n cap)).setCell ⟨zb, 0, none⟩ (.bool d)) zb d x := fun d => by
    refine ⟨by simpa using hz, World.cell?_setCell_same _ _ _ k0, .slice ao n cap, ?_, hk _ _⟩
    rw [World.cell?_setCell_other _ _ _ _ (by intro c; injection c; omega)]
    exact World.cell?_setCell_same _ _ _ h1
  have HI : Hid (∀ d, IntAt ((w.setCell ⟨zb, 1, none⟩ (.slice ao n cap)).setCell ⟨zb, 0, none⟩ (.bool d)) zb d x) := hi
  have HB : Hid (∀ c d, Below zb w ((w.setCell ⟨zb, 1, none⟩ c).setCell ⟨zb, 0, none⟩ d)) := hb2
  clear hi hb2 hk h hb hz0
  cases neg with
  | false =>
    clear hn
    go_enter Tryz.func81, Tryz.ntmps81
    go_wp2
    go_ret
    exact ⟨rfl, HI.out false, HB.out _ _⟩
  | true =>
    cases b with
    | false =>
      have hn' : ¬ (n : Int) > 0 := by simpa using hn
      clear hn
      go_enter Tryz.func81, Tryz.ntmps81
      go_wp2
      go_ret
      rw [show decide (0 < n) = false by simp; omega]
      exact ⟨rfl, HI.out false, HB.out _ _⟩
    | true =>
      have hn' : (n : Int) > 0 := by simpa using hn
      clear hn
      go_enter Tryz.func81, Tryz.ntmps81
      go_wp2
      go_ret
      rw [show decide (0 < n) = true by simp; omega]
      exact ⟨rfl, HI.out true, HB.out _ _⟩

theorem neg_u64 (x : Int) (h1 : -9223372036854775808 ≤ x) (h2 : x < 0) : IntKind.u64.wrap (-(IntKind.u64.wrap x)) = (x.natAbs : Int) := by
  unfold IntKind.wrap
  simp [IntKind.bits, IntKind.signed]
  omega

set_option maxHeartbeats 400000 in
theorem setInt64_any (zb : Nat) (x : Int) (w : World) (b0 : Bool) (c1 : Value) (hx1 : -9223372036854775808 ≤ x) (hx2 : x ≤ 9223372036854775807) (h0 : w.cell? ⟨zb, 0, none⟩ = some (.bool b0)) (h1 : w.cell? ⟨zb, 1, none⟩ = some c1) (f0 : w.frozen? ⟨zb, 0, none⟩ = false) (f1 : w.frozen? ⟨zb, 1, none⟩ = false) (hz : zb < w.heap.size) :
    Calls Tryz.prog 77 #[.pointer (some ⟨zb, 0, none⟩), .int .i64 x] w fun e w' => e = .returned (.pointer (some ⟨zb, 0, none⟩)) ∧ IntAt w' zb (decide (x < 0)) x.natAbs ∧ Below zb w w' := by
  have CW : Hid (∀ (W : World), Calls Tryz.prog 112 #[.int .u64 (x.natAbs : Int)] W fun e w' => ∃ v, e = .returned v ∧ BlkAt w' W.heap.size v x.natAbs ∧ Below W.heap.size W w') := fun W => words_blk x.natAbs W (by omega)
  have hz' : ∀ w1 v (b : Bool), BlkAt w1 w.heap.size v x.natAbs → Below w.heap.size w w1 → Calls Tryz.prog 81 #[.pointer (some ⟨zb, 0, none⟩), .bool b, v] w1 fun e w' => e = .returned (.pointer (some ⟨zb, 0, none⟩)) ∧ IntAt w' zb (b && decide (x.natAbs ≠ 0)) x.natAbs ∧ Below zb w w' := by
    intro w1 v b hv hb
    refine (give_any zb b v x.natAbs w1 b0 c1 ((hb.cell (p := ⟨zb, 0, none⟩) hz).trans h0) ((hb.cell (p := ⟨zb, 1, none⟩) hz).trans h1) ((hb.frozen (p := ⟨zb, 0, none⟩) hz).trans f0) ((hb.frozen (p := ⟨zb, 1, none⟩) hz).trans f1) (Nat.lt_of_lt_of_le hz hb.size) hv.num).mono ?_
    rintro e w2 ⟨rfl, q1, q2⟩
    exact ⟨rfl, q1, (hb.mono (Nat.le_of_lt hz)).trans q2⟩
  have HZ : Hid (∀ w1 v (b : Bool), BlkAt w1 w.heap.size v x.natAbs → Below w.heap.size w w1 → Calls Tryz.prog 81 #[.pointer (some ⟨zb, 0, none⟩), .bool b, v] w1 fun e w' => e = .returned (.pointer (some ⟨zb, 0, none⟩)) ∧ IntAt w' zb (b && decide (x.natAbs ≠ 0)) x.natAbs ∧ Below zb w w') := hz'
  clear hz'
  by_cases hx : x < 0
  · have e1 := neg_u64 x hx1 hx
    have e2 : decide (x < 0) = (true && decide (x.natAbs ≠ 0)) := by
      rw [decide_eq_true hx, decide_eq_true (by omega : x.natAbs ≠ 0)]; rfl
    rw [e2]
    clear e2
    go_enter Tryz.func77, Tryz.ntmps77
    go_wp2_with (go_at_call 112; refine (CW.out _).mono ?_)
    rintro e w1 ⟨v, rfl, hv, hb⟩
    obtain ⟨n, cap, rfl⟩ := hv.slot
    go_wp2_with (go_at_call 81; refine (HZ.out _ _ _ hv hb).mono ?_)
    rintro e w2 ⟨rfl, q1, q2⟩
    go_wp2
    go_ret
    exact ⟨rfl, q1, q2⟩
  · have e1 : IntKind.u64.wrap x = (x.natAbs : Int) := by
      unfold IntKind.wrap
      simp [IntKind.bits, IntKind.signed]
      omega
    have hx0 : 0 ≤ x := by omega
    have e2 : decide (x < 0) = (false && decide (x.natAbs ≠ 0)) := by rw [decide_eq_false hx]; rfl
    rw [e2]
    clear e2 hx
    generalize hm : x.natAbs = m at *
    have hxm : x = (m : Int) := by omega
    subst hxm
    clear hm hx0
    go_enter Tryz.func77, Tryz.ntmps77
    go_wp2_with (go_at_call 112; refine (CW.out _).mono ?_)
    rintro e w1 ⟨v, rfl, hv, hb⟩
    obtain ⟨n, cap, rfl⟩ := hv.slot
    go_wp2_with (go_at_call 81; refine (HZ.out _ _ _ hv hb).mono ?_)
    rintro e w2 ⟨rfl, q1, q2⟩
    go_wp2
    go_ret
    exact ⟨rfl, q1, q2⟩

set_option maxHeartbeats 400000 in
theorem newInt_any (x : Int) (w : World) (hx1 : -9223372036854775808 ≤ x) (hx2 : x ≤ 9223372036854775807) :
    Calls Tryz.prog 47 #[.int .i64 x] w fun e w' => e = .returned (.pointer (some ⟨w.heap.size, 0, none⟩)) ∧ IntAt w' w.heap.size (decide (x < 0)) x.natAbs ∧ Below w.heap.size w w' := by
  go_enter Tryz.func47, Tryz.ntmps47
  go_wp2_with fail
  refine (setInt64_any w.heap.size x _ false (.slice none 0 0) hx1 hx2 (by go_cell) (by go_cell) (by go_cell) (by go_cell) (by simp)).mono ?_
  rintro e w1 ⟨rfl, q1, q2⟩
  go_wp2
  go_ret
  exact ⟨rfl, q1, ((Below.refl _ _).alloc (Nat.le_refl _) _).trans q2⟩
end Go.Proofs.YtecapnipkngniaaGreatDoor
