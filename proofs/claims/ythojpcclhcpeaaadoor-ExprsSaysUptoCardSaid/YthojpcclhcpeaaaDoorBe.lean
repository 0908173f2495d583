/-
  Numbers of package duetbig: sums and ten times for every number, words in a new block; the contracts of Int.give, Int.SetInt64 and duetbig.NewInt.
-/
import Derived.Test.YthojpcclhcpeaaaDoorBd
namespace Go.Proofs.YthojpcclhcpeaaaDoor
open Go.RowKit

theorem val_pos : ∀ (ws : List Nat), (∀ h : ws ≠ [], ws.getLast h ≠ 0) → ws ≠ [] → 4294967296 ^ (ws.length - 1) ≤ val ws
  | [], _, h => absurd rfl h
  | [a], hl, _ => by have := hl (by simp); simp at this; simp [val]; omega
  | a :: b :: r, hl, _ => by
    have ih := val_pos (b :: r) (fun _ => by have := hl (by simp); simpa using this) (by simp)
    simp only [List.length_cons, Nat.add_sub_cancel] at ih ⊢
    rw [val, Nat.pow_succ]
    have := Nat.mul_le_mul_left 4294967296 ih
    rw [Nat.mul_comm 4294967296 (4294967296 ^ r.length)] at this
    omega
theorem words_zero {ws : List Nat} (h : Words ws 0) : ws = [] := by
  by_cases e : ws = []
  · exact e
  · have h1 := val_pos ws h.last e
    rw [h.val] at h1
    have : 0 < 4294967296 ^ (ws.length - 1) := Nat.pow_pos (by omega)
    omega
theorem words_one {ws : List Nat} {x : Nat} (h : Words ws x) (h0 : 0 < x) (h1 : x < 4294967296) : ws = [x] := by
  match ws, h with
  | [], h => have := h.val; simp [val] at this; omega
  | [a], h => have := h.val; simp [val] at this; rw [this]
  | a :: b :: r, h =>
    have h2 := val_pos (a :: b :: r) h.last (by simp)
    rw [h.val] at h2
    have : 4294967296 ^ 1 ≤ 4294967296 ^ ((a :: b :: r).length - 1) := Nat.pow_le_pow_right (by omega) (by simp)
    omega
theorem words_len {ws : List Nat} {x k : Nat} (h : Words ws x) (hx : x < 4294967296 ^ k) : ws.length ≤ k := by
  by_cases e : ws = []
  · subst e; simp
  · have h1 := val_pos ws h.last e
    rw [h.val] at h1
    have h2 : 4294967296 ^ (ws.length - 1) < 4294967296 ^ k := Nat.lt_of_le_of_lt h1 hx
    have := (Nat.pow_lt_pow_iff_right (by omega : 1 < 4294967296)).1 h2
    omega

/-- a number's words in the block g -/
def BlkAt (W : World) (g : Nat) (v : Value) (x : Nat) : Prop :=
  ∃ ws cap, Words ws x ∧ v = .slice (some ⟨g, 0, none⟩) ws.length cap ∧ ws.length ≤ cap ∧ g < W.heap.size ∧ ∀ j, j < ws.length → W.cell? ⟨g, j, none⟩ = some (.int .u32 (ws.getD j 0 : Nat))
theorem BlkAt.num {W : World} {g : Nat} {v : Value} {x : Nat} (h : BlkAt W g v x) : NumAt W v x := by
  obtain ⟨ws, cap, h1, h2, h3, h4, h5⟩ := h
  exact ⟨ws, h1, .inr ⟨g, cap, h2, h3, h4, h5⟩⟩
theorem BlkAt.slot {W : World} {g : Nat} {v : Value} {x : Nat} (h : BlkAt W g v x) : ∃ n cap, v = .slice (some ⟨g, 0, none⟩) n cap := by
  obtain ⟨ws, cap, h1, h2, h3, h4, h5⟩ := h
  exact ⟨_, _, h2⟩
theorem BlkAt.ne {W : World} {g : Nat} {v : Value} {x : Nat} (h : BlkAt W g v x) : v ≠ .slice none 0 0 := by
  obtain ⟨ws, cap, h1, h2, h3, h4, h5⟩ := h
  rw [h2]; intro c; cases c

set_option maxHeartbeats 1000000 in
theorem trim_blk (g cap : Nat) (ws : List Nat) (w : World) (hs : Small ws) (hcap : ws.length ≤ cap) (hcm : cap ≤ 9223372036854775807) (hg : g < w.heap.size) (hc : ∀ j, j < ws.length → w.cell? ⟨g, j, none⟩ = some (.int .u32 (ws.getD j 0 : Nat))) :
    Calls Tryd.prog 144 #[.slice (some ⟨g, 0, none⟩) ws.length cap] w fun e w' => ∃ v, e = .returned v ∧ BlkAt w g v (val ws) ∧ w' = w := by
  go_enter Tryd.func144, Tryd.ntmps144
  go_wp2_with fail
  go_loop [3] (fun i => ∃ n : Nat, n ≤ ws.length ∧ i = .int .i64 (n : Int) ∧ ∀ j, n ≤ j → j < ws.length → ws.getD j 0 = 0) (fun i => (intOf i).toNat)
  case atStart => exact ⟨ws.length, Nat.le_refl _, rfl, fun j h1 h2 => by omega⟩
  case round =>
    obtain ⟨n, hn, rfl, hz⟩ := hrel
    have HZ : Hid (∀ j, n ≤ j → j < ws.length → ws.getD j 0 = 0) := hz
    clear hz
    by_cases h0 : n = 0
    · subst h0
      have hw := trimmed ws 0 (by omega) (fun j _ hj => HZ.out j (by omega) hj) (.inl rfl) hs
      clear hc
      go_wp2
      go_ret
      exact ⟨_, rfl, ⟨_, cap, hw, by simp, by simp, hg, by simp⟩, rfl⟩
    · obtain ⟨m, rfl⟩ : ∃ m, n = m + 1 := ⟨n - 1, by omega⟩
      have hcm' := hc m (by omega)
      generalize hx : ws.getD m 0 = x at hcm'
      have HX : Hid (ws.getD m 0 = x) := hx
      have HC : Hid (∀ j, j < ws.length → w.cell? ⟨g, j, none⟩ = some (.int .u32 (ws.getD j 0 : Nat))) := hc
      clear hc hx
      have hmz : (m : Int) < (ws.length : Int) := by omega
      by_cases hx0 : x = 0
      · subst hx0
        go_wp2
        go_round
        case rel => exact ⟨m, by omega, by go_num, fun j h1 h2 => by
          rcases Nat.lt_or_ge m j with h | h
          · exact HZ.out j (by omega) h2
          · have : j = m := by omega
            subst this; exact HX.out⟩
        case measure => simp [intOf]
      · have hxb : ((x : Int) == 0) = false := by simp; omega
        have hw := trimmed ws (m + 1) hn (fun j h1 h2 => HZ.out j h1 h2) (.inr (by rw [Nat.add_sub_cancel, HX.out]; exact hx0)) hs
        go_wp2
        go_ret
        refine ⟨_, rfl, ⟨_, cap, hw, ?_, ?_, hg, fun j hj => ?_⟩, rfl⟩
        · rw [List.length_take, Nat.min_eq_left hn]; rfl
        · rw [List.length_take]; omega
        · rw [List.length_take] at hj
          rw [HC.out j (by omega)]
          congr 2
          simp [List.getD, List.getElem?_take]
          rw [if_pos (by omega)]

set_option maxHeartbeats 400000 in
theorem words_blk (x : Nat) (w : World) (hx : x < 18446744073709551616) :
    Calls Tryd.prog 130 #[.int .u64 (x : Int)] w fun e w' => ∃ v, e = .returned v ∧ BlkAt w' w.heap.size v x ∧ Below w.heap.size w w' := by
  have hv : val [x % 4294967296, x / 4294967296] = x := by simp [val]; omega
  have cT := trim_blk w.heap.size 2 [x % 4294967296, x / 4294967296] (w.alloc (Obj.cells #[Value.int IntKind.u32 ((x : Int) % 4294967296), Value.int IntKind.u32 ((x : Int) / 4294967296)] 118)) (by intro y hy; simp at hy; omega) (by simp) (by simp) (by simp) (by
    intro j hj
    match j, hj with
    | 0, _ => go_cell
    | 1, _ => go_cell
    | j + 2, hj => simp at hj; omega)
  rw [hv] at cT
  go_enter Tryd.func130, Tryd.ntmps130
  go_wp2_with fail
  refine cT.mono ?_
  rintro e w1 ⟨v, rfl, hn, rfl⟩
  go_wp2
  go_ret
  exact ⟨_, rfl, hn, (Below.refl _ _).alloc (Nat.le_refl _) _⟩


/-- a number of package duetbig in its block -/
structure IntAt (W : World) (zb : Nat) (neg : Bool) (x : Nat) : Prop where
  lt : zb < W.heap.size
  c0 : W.cell? ⟨zb, 0, none⟩ = some (.bool neg)
  c1 : ∃ v, W.cell? ⟨zb, 1, none⟩ = some v ∧ NumAt W v x
theorem IntAt.keep {W W' : World} {zb : Nat} {neg : Bool} {x : Nat} (h : IntAt W zb neg x) (hb : Below W.heap.size W W') : IntAt W' zb neg x := by
  obtain ⟨h1, h2, v, h3, h4⟩ := h
  exact ⟨Nat.lt_of_lt_of_le h1 hb.size, (hb.cell (p := ⟨zb, 0, none⟩) h1).trans h2, v, (hb.cell (p := ⟨zb, 1, none⟩) h1).trans h3, h4.keep hb⟩
theorem U32.slot {W : World} {v : Value} {ws : List Nat} (h : U32 W v ws) : ∃ ao cap, v = .slice ao ws.length cap := by
  rcases h with ⟨h, rfl⟩ | ⟨g, cap, h, _⟩
  · exact ⟨none, 0, h⟩
  · exact ⟨_, _, h⟩
theorem NumAt.put {W W' : World} {zb : Nat} {v : Value} {x : Nat} {b : Bool} (h : NumAt W v x) (h0 : W.cell? ⟨zb, 0, none⟩ = some (.bool b)) (hs : W.heap.size ≤ W'.heap.size) (hc : ∀ g j, g ≠ zb → g < W.heap.size → W'.cell? ⟨g, j, none⟩ = W.cell? ⟨g, j, none⟩) : NumAt W' v x := by
  obtain ⟨ws, h1, h2⟩ := h
  refine ⟨ws, h1, ?_⟩
  rcases h2 with h | ⟨g, cap, e1, e2, e3, e4⟩
  · exact .inl h
  · refine .inr ⟨g, cap, e1, e2, Nat.lt_of_lt_of_le e3 hs, fun j hj => ?_⟩
    rw [← e4 j hj]
    refine hc g j ?_ e3
    rintro rfl
    have := e4 0 (by omega)
    rw [h0] at this
    cases this

set_option maxHeartbeats 400000 in
theorem give_any (zb : Nat) (neg : Bool) (v : Value) (x : Nat) (w : World) (b0 : Bool) (c1 : Value) (h0 : w.cell? ⟨zb, 0, none⟩ = some (.bool b0)) (h1 : w.cell? ⟨zb, 1, none⟩ = some c1) (f0 : w.frozen? ⟨zb, 0, none⟩ = false) (f1 : w.frozen? ⟨zb, 1, none⟩ = false) (hz : zb < w.heap.size) (h : NumAt w v x) :
    Calls Tryd.prog 129 #[.pointer (some ⟨zb, 0, none⟩), .bool neg, v] w fun e w' => e = .returned (.pointer (some ⟨zb, 0, none⟩)) ∧ IntAt w' zb (neg && decide (x ≠ 0)) x ∧ Below zb w w' := by
  have hsv : ∃ b ao n cap, v = .slice ao n cap ∧ decide (x ≠ 0) = b ∧ decide ((n : Int) > 0) = b := by
    obtain ⟨ws, q1, q2⟩ := h
    obtain ⟨ao, cap, rfl⟩ := q2.slot
    refine ⟨decide (x ≠ 0), ao, _, _, rfl, rfl, ?_⟩
    by_cases hx : x = 0
    · subst hx; rw [words_zero q1]; rfl
    · have : ws ≠ [] := by rintro rfl; exact hx (by rw [← q1.val]; rfl)
      have := List.length_pos_iff.2 this
      simp [hx]; omega
  have hk : ∀ (c d : Value), NumAt ((w.setCell ⟨zb, 1, none⟩ c).setCell ⟨zb, 0, none⟩ d) v x := fun c d =>
    h.put h0 (by simp) (fun g j hg _ => by
      rw [World.cell?_setCell_other _ _ _ _ (by intro c; injection c; omega), World.cell?_setCell_other _ _ _ _ (by intro c; injection c; omega)])
  obtain ⟨b, ao, n, cap, rfl, hb, hn⟩ := hsv
  rw [hb]
  have hz0 : Below zb w w := Below.refl _ _
  have HN : Hid (decide ((n : Int) > 0) = b) := hn
  have k0 : (w.setCell ⟨zb, 1, none⟩ (.slice ao n cap)).cell? ⟨zb, 0, none⟩ = some (.bool b0) := by
    rw [World.cell?_setCell_other _ _ _ _ (by intro c; injection c; omega)]; exact h0
  have hb2 : ∀ c d, Below zb w ((w.setCell ⟨zb, 1, none⟩ c).setCell ⟨zb, 0, none⟩ d) := fun c d =>
    ((hz0.setCell (p := ⟨zb, 1, none⟩) (Nat.le_refl _) c).setCell (p := ⟨zb, 0, none⟩) (Nat.le_refl _) d)
  have hi : ∀ d, IntAt ((w.setCell ⟨zb, 1, none⟩ (.slice ao n cap)).setCell ⟨zb, 0, none⟩ (.bool d)) zb d x := fun d => by
    refine ⟨by simpa using hz, World.cell?_setCell_same _ _ _ k0, .slice ao n cap, ?_, hk _ _⟩
    rw [World.cell?_setCell_other _ _ _ _ (by intro c; injection c; omega)]
    exact World.cell?_setCell_same _ _ _ h1
  have HI : Hid (∀ d, IntAt ((w.setCell ⟨zb, 1, none⟩ (.slice ao n cap)).setCell ⟨zb, 0, none⟩ (.bool d)) zb d x) := hi
  have HB : Hid (∀ c d, Below zb w ((w.setCell ⟨zb, 1, none⟩ c).setCell ⟨zb, 0, none⟩ d)) := hb2
  clear hi hb2 hk h hb hz0
  cases neg with
  | false =>
    clear hn
    go_enter Tryd.func129, Tryd.ntmps129
    go_wp2
    go_ret
    exact ⟨rfl, HI.out false, HB.out _ _⟩
  | true =>
    cases b with
    | false =>
      have hn' : ¬ (n : Int) > 0 := by simpa using hn
      clear hn
      go_enter Tryd.func129, Tryd.ntmps129
      go_wp2
      go_ret
      rw [show decide (0 < n) = false by simp; omega]
      exact ⟨rfl, HI.out false, HB.out _ _⟩
    | true =>
      have hn' : (n : Int) > 0 := by simpa using hn
      clear hn
      go_enter Tryd.func129, Tryd.ntmps129
      go_wp2
      go_ret
      rw [show decide (0 < n) = true by simp; omega]
      exact ⟨rfl, HI.out true, HB.out _ _⟩

theorem neg_u64 (x : Int) (h1 : -9223372036854775808 ≤ x) (h2 : x < 0) : IntKind.u64.wrap (-(IntKind.u64.wrap x)) = (x.natAbs : Int) := by
  unfold IntKind.wrap
  simp [IntKind.bits, IntKind.signed]
  omega

set_option maxHeartbeats 400000 in
theorem setInt64_any (zb : Nat) (x : Int) (w : World) (b0 : Bool) (c1 : Value) (hx1 : -9223372036854775808 ≤ x) (hx2 : x ≤ 9223372036854775807) (h0 : w.cell? ⟨zb, 0, none⟩ = some (.bool b0)) (h1 : w.cell? ⟨zb, 1, none⟩ = some c1) (f0 : w.frozen? ⟨zb, 0, none⟩ = false) (f1 : w.frozen? ⟨zb, 1, none⟩ = false) (hz : zb < w.heap.size) :
    Calls Tryd.prog 106 #[.pointer (some ⟨zb, 0, none⟩), .int .i64 x] w fun e w' => e = .returned (.pointer (some ⟨zb, 0, none⟩)) ∧ IntAt w' zb (decide (x < 0)) x.natAbs ∧ Below zb w w' := by
  have CW : Hid (∀ (W : World), Calls Tryd.prog 130 #[.int .u64 (x.natAbs : Int)] W fun e w' => ∃ v, e = .returned v ∧ BlkAt w' W.heap.size v x.natAbs ∧ Below W.heap.size W w') := fun W => words_blk x.natAbs W (by omega)
  have hz' : ∀ w1 v (b : Bool), BlkAt w1 w.heap.size v x.natAbs → Below w.heap.size w w1 → Calls Tryd.prog 129 #[.pointer (some ⟨zb, 0, none⟩), .bool b, v] w1 fun e w' => e = .returned (.pointer (some ⟨zb, 0, none⟩)) ∧ IntAt w' zb (b && decide (x.natAbs ≠ 0)) x.natAbs ∧ Below zb w w' := by
    intro w1 v b hv hb
    refine (give_any zb b v x.natAbs w1 b0 c1 ((hb.cell (p := ⟨zb, 0, none⟩) hz).trans h0) ((hb.cell (p := ⟨zb, 1, none⟩) hz).trans h1) ((hb.frozen (p := ⟨zb, 0, none⟩) hz).trans f0) ((hb.frozen (p := ⟨zb, 1, none⟩) hz).trans f1) (Nat.lt_of_lt_of_le hz hb.size) hv.num).mono ?_
    rintro e w2 ⟨rfl, q1, q2⟩
    exact ⟨rfl, q1, (hb.mono (Nat.le_of_lt hz)).trans q2⟩
  have HZ : Hid (∀ w1 v (b : Bool), BlkAt w1 w.heap.size v x.natAbs → Below w.heap.size w w1 → Calls Tryd.prog 129 #[.pointer (some ⟨zb, 0, none⟩), .bool b, v] w1 fun e w' => e = .returned (.pointer (some ⟨zb, 0, none⟩)) ∧ IntAt w' zb (b && decide (x.natAbs ≠ 0)) x.natAbs ∧ Below zb w w') := hz'
  clear hz'
  by_cases hx : x < 0
  · have e1 := neg_u64 x hx1 hx
    have e2 : decide (x < 0) = (true && decide (x.natAbs ≠ 0)) := by
      rw [decide_eq_true hx, decide_eq_true (by omega : x.natAbs ≠ 0)]; rfl
    rw [e2]
    clear e2
    go_enter Tryd.func106, Tryd.ntmps106
    go_wp2_with (go_at_call 130; refine (CW.out _).mono ?_)
    rintro e w1 ⟨v, rfl, hv, hb⟩
    obtain ⟨n, cap, rfl⟩ := hv.slot
    go_wp2_with (go_at_call 129; refine (HZ.out _ _ _ hv hb).mono ?_)
    rintro e w2 ⟨rfl, q1, q2⟩
    go_wp2
    go_ret
    exact ⟨rfl, q1, q2⟩
  · have e1 : IntKind.u64.wrap x = (x.natAbs : Int) := by
      unfold IntKind.wrap
      simp [IntKind.bits, IntKind.signed]
      omega
    have hx0 : 0 ≤ x := by omega
    have e2 : decide (x < 0) = (false && decide (x.natAbs ≠ 0)) := by rw [decide_eq_false hx]; rfl
    rw [e2]
    clear e2 hx
    generalize hm : x.natAbs = m at *
    have hxm : x = (m : Int) := by omega
    subst hxm
    clear hm hx0
    go_enter Tryd.func106, Tryd.ntmps106
    go_wp2_with (go_at_call 130; refine (CW.out _).mono ?_)
    rintro e w1 ⟨v, rfl, hv, hb⟩
    obtain ⟨n, cap, rfl⟩ := hv.slot
    go_wp2_with (go_at_call 129; refine (HZ.out _ _ _ hv hb).mono ?_)
    rintro e w2 ⟨rfl, q1, q2⟩
    go_wp2
    go_ret
    exact ⟨rfl, q1, q2⟩

set_option maxHeartbeats 400000 in
theorem newInt_any (x : Int) (w : World) (hx1 : -9223372036854775808 ≤ x) (hx2 : x ≤ 9223372036854775807) :
    Calls Tryd.prog 69 #[.int .i64 x] w fun e w' => e = .returned (.pointer (some ⟨w.heap.size, 0, none⟩)) ∧ IntAt w' w.heap.size (decide (x < 0)) x.natAbs ∧ Below w.heap.size w w' := by
  go_enter Tryd.func69, Tryd.ntmps69
  go_wp2_with fail
  refine (setInt64_any w.heap.size x _ false (.slice none 0 0) hx1 hx2 (by go_cell) (by go_cell) (by go_cell) (by go_cell) (by simp)).mono ?_
  rintro e w1 ⟨rfl, q1, q2⟩
  go_wp2
  go_ret
  exact ⟨rfl, q1, ((Below.refl _ _).alloc (Nat.le_refl _) _).trans q2⟩
end Go.Proofs.YthojpcclhcpeaaaDoor
