/-
  The contracts of strings.Clone, exprs.copied, compared, reckonOne and reckonTwo, each for every value; utf8.ValidString's and strings.Compare's contracts are hypotheses here.
-/
import Derived.Test.YtecapnipkngniaaGreatDoorXh
import Derived.Test.YtecapnipkngniaaGreatDoorBu
import Derived.Test.YtecapnipkngniaaGreatDoorXe
import Derived.Deep.RegionHeld3
namespace Go.Proofs.YtecapnipkngniaaGreatDoor
open Go.RowKit Go.Shelf
variable (Tabs : World → Prop)

def vlV (v : Vl) : Value := .agg #[.int .i64 v.so, .int .i64 v.n, .string v.s]
/-- a Value of zeros in a block of its own -/
structure ZB (W : World) (b : Nat) : Prop where
  lt : b < W.heap.size
  c0 : W.cell? ⟨b, 0, none⟩ = some (.int .i64 0)
  c1 : W.cell? ⟨b, 1, none⟩ = some (.int .i64 0)
  c2 : W.cell? ⟨b, 2, none⟩ = some (.string ⟨#[]⟩)
  f0 : W.frozen? ⟨b, 0, none⟩ = false
  f1 : W.frozen? ⟨b, 1, none⟩ = false
  f2 : W.frozen? ⟨b, 2, none⟩ = false
theorem ZB.keep {W W' : World} {b : Nat} (h : ZB W b) (hb : Below W.heap.size W W') : ZB W' b :=
  ⟨Nat.lt_of_lt_of_le h.lt hb.size, (hb.cell (p := ⟨b, 0, none⟩) h.lt).trans h.c0, (hb.cell (p := ⟨b, 1, none⟩) h.lt).trans h.c1, (hb.cell (p := ⟨b, 2, none⟩) h.lt).trans h.c2,
    (hb.frozen (p := ⟨b, 0, none⟩) h.lt).trans h.f0, (hb.frozen (p := ⟨b, 1, none⟩) h.lt).trans h.f1, (hb.frozen (p := ⟨b, 2, none⟩) h.lt).trans h.f2⟩
theorem ZB.new (W : World) (t : TypeId) : ZB (W.alloc (.cells #[.int .i64 0, .int .i64 0, .string ⟨#[]⟩] t)) W.heap.size :=
  ⟨by simp, by go_cell, by go_cell, by go_cell, by go_simp, by go_simp, by go_simp⟩

theorem lite_any (s : ByteArray) (w : World) (hs : s.size ≤ 281474976710656) :
    Calls Tryz.prog 99 #[.string s] w fun e w' => e = .returned (.string s) ∧ Below w.heap.size w w' := Any.stringslite_Clone Tryz.laysM316 s w hs
set_option maxHeartbeats 400000 in
theorem clone_any (s : ByteArray) (w : World) (hs : s.size ≤ 281474976710656) :
    Calls Tryz.prog 64 #[.string s] w fun e w' => e = .returned (.string s) ∧ Below w.heap.size w w' := by
  have c := lite_any s w hs
  go_enter Tryz.func64, Tryz.ntmps64
  go_wp2_with fail
  refine c.mono ?_
  rintro e w1 ⟨rfl, hb⟩
  go_wp2_with fail
  go_ret
  exact ⟨rfl, hb⟩

set_option maxHeartbeats 1000000 in
theorem copied_any (v : Vl) (w : World) (hs : v.s.size ≤ 281474976710656) :
    Calls Tryz.prog 30 #[vlV v] w fun e w' => e = .returned (vlV v) ∧ Below w.heap.size w w' := by
  obtain ⟨so, n, s⟩ := v
  unfold vlV
  simp only at hs ⊢
  have c := clone_any s ((w.alloc (.cells #[.int .i64 so, .int .i64 n, .string s] 23)).alloc (.cells #[.int .i64 0, .int .i64 0, .string ⟨#[]⟩] 23)) hs
  have hA := (Box.new w so n s 23).al (.cells #[.int .i64 0, .int .i64 0, .string ⟨#[]⟩] 23)
  have hZ := ZB.new (w.alloc (.cells #[.int .i64 so, .int .i64 n, .string s] 23)) 23
  rw [show (w.alloc (.cells #[.int .i64 so, .int .i64 n, .string s] 23)).heap.size = w.heap.size + 1 by simp] at hZ
  have HW : Hid (Below w.heap.size w ((w.alloc (.cells #[.int .i64 so, .int .i64 n, .string s] 23)).alloc (.cells #[.int .i64 0, .int .i64 0, .string ⟨#[]⟩] 23))) := ((Below.refl _ _).alloc (Nat.le_refl _) _).alloc (by simp) _
  go_enter Tryz.func30, Tryz.ntmps30
  go_wp2_with fail
  refine c.mono ?_
  rintro e w1 ⟨rfl, hb⟩
  have fA : w1.frozen? ⟨w.heap.size, 2, none⟩ = false := (hb.frozen (p := ⟨w.heap.size, 2, none⟩) (by simp; omega)).trans (by go_simp)
  have hbw : Below w.heap.size w w1 := HW.out.trans (hb.mono (by simp; omega))
  obtain ⟨_, a0, a1, a2⟩ := hA.keep hb
  obtain ⟨_, r0, r1, r2, f0, f1, f2⟩ := hZ.keep hb
  clear c hA hZ hb HW
  go_wp2_with fail
  refine bodyPost_ret (v := .agg #[.int .i64 so, .int .i64 n, .string s]) (by simp [results, Tryz.results30, go_sem, r0, r1, r2]) rfl ⟨rfl, ?_⟩
  have hsz := hbw.size
  go_grown

theorem tru_val (b : Bool) : vlV (truV b) = .agg #[.int .i64 2, .int .i64 (if b then 1 else 0), .string ⟨#[]⟩] := rfl
theorem num_val (z : Int) : vlV (numV z) = .agg #[.int .i64 1, .int .i64 z, .string ⟨#[]⟩] := rfl
theorem truth_v (b : Bool) (w : World) : Calls Tryz.prog 71 #[.bool b] w fun e w' => e = .returned (.agg #[.int .i64 2, .int .i64 (truV b).n, .string ⟨#[]⟩]) ∧ Below w.heap.size w w' := truth_any b w

set_option maxHeartbeats 1000000 in
theorem reckonOne_any (hV : VSaid vD Tabs) (hK : ∀ w w', Tabs w → Below w.heap.size w w' → Tabs w') (op : ByteArray) (v : Vl) (w : World) (hs : v.s.size < 9223372036854775807) (hT : Tabs w) :
    Calls Tryz.prog 45 #[.string op, vlV v] w fun e w' => e = .returned (vlV (oneV op.data.toList v)) ∧ Below w.heap.size w w' := by
  obtain ⟨so, n, s⟩ := v
  have hZ := ZB.new (w.alloc (.cells #[.int .i64 so, .int .i64 n, .string s] 23)) 23
  rw [show (w.alloc (.cells #[.int .i64 so, .int .i64 n, .string s] 23)).heap.size = w.heap.size + 1 by simp] at hZ
  have hw2 : Below w.heap.size w ((w.alloc (.cells #[.int .i64 so, .int .i64 n, .string s] 23)).alloc (.cells #[.int .i64 0, .int .i64 0, .string ⟨#[]⟩] 23)) := ((Below.refl _ _).alloc (Nat.le_refl _) _).alloc (by simp) _
  have hT2 := hK _ _ hT hw2
  have HW : Hid (Below w.heap.size w ((w.alloc (.cells #[.int .i64 so, .int .i64 n, .string s] 23)).alloc (.cells #[.int .i64 0, .int .i64 0, .string ⟨#[]⟩] 23))) := hw2
  have cL := length_any vD Tabs hV hK so n s ((w.alloc (.cells #[.int .i64 so, .int .i64 n, .string s] 23)).alloc (.cells #[.int .i64 0, .int .i64 0, .string ⟨#[]⟩] 23)) hs hT2
  clear hw2 hT2
  unfold oneV
  simp only
  by_cases h1 : op.data.toList = [110, 111, 116]
  · rw [if_pos h1]
    have b1 : (op.toList == [110, 111, 116]) = true := by rw [beqL]; simpa using h1
    have cT := fun W => truth_v (n == 0) W
    have ev : vlV (truV (n == 0)) = .agg #[.int .i64 2, .int .i64 (truV (n == 0)).n, .string ⟨#[]⟩] := rfl
    rw [ev]
    generalize (truV (n == 0)).n = z at cT ⊢
    simp only [vlV]
    clear h1 cL hV hK hT ev
    go_enter Tryz.func45, Tryz.ntmps45
    go_wp2_with fail
    refine (cT _).mono ?_
    rintro e w1 ⟨rfl, hb⟩
    have hbw : Below w.heap.size w w1 := HW.out.trans (hb.mono (by simp; omega))
    obtain ⟨_, r0, r1, r2, f0, f1, f2⟩ := hZ.keep hb
    clear cT hZ hb HW
    go_wp2_with fail
    refine bodyPost_ret (v := .agg #[.int .i64 2, .int .i64 z, .string ⟨#[]⟩]) (by simp [results, Tryz.results45, go_sem, r0, r1, r2]) rfl ⟨rfl, ?_⟩
    have hsz := hbw.size
    go_grown
  · rw [if_neg h1]
    have b1 : (op.toList == [110, 111, 116]) = false := by rw [beqL]; simpa using h1
    by_cases h2 : op.data.toList = [110, 101, 103]
    · rw [if_pos h2]
      have b2 : (op.toList == [110, 101, 103]) = true := by rw [beqL]; simpa using h2
      have cN := fun W => number_any (w64 (-n)) W
      unfold w64 at cN
      have ev : vlV (numV (w64 (-n))) = .agg #[.int .i64 1, .int .i64 (wrap64 (-n)), .string ⟨#[]⟩] := rfl
      rw [ev]
      simp only [vlV]
      clear h1 h2 cL hV hK hT ev
      go_enter Tryz.func45, Tryz.ntmps45
      go_wp2_with fail
      refine (cN _).mono ?_
      rintro e w1 ⟨rfl, hb⟩
      have hbw : Below w.heap.size w w1 := HW.out.trans (hb.mono (by simp; omega))
      obtain ⟨_, r0, r1, r2, f0, f1, f2⟩ := hZ.keep hb
      clear cN hZ hb HW
      go_wp2_with fail
      refine bodyPost_ret (v := .agg #[.int .i64 1, .int .i64 (wrap64 (-n)), .string ⟨#[]⟩]) (by simp [results, Tryz.results45, go_sem, r0, r1, r2]) rfl ⟨rfl, ?_⟩
      have hsz := hbw.size
      go_grown
    · rw [if_neg h2]
      have b2 : (op.toList == [110, 101, 103]) = false := by rw [beqL]; simpa using h2
      have ev : vlV (numV (lenZ vD so n s)) = .agg #[.int .i64 1, .int .i64 (lenZ vD so n s), .string ⟨#[]⟩] := rfl
      rw [ev]
      generalize lenZ vD so n s = z at cL ⊢
      generalize needZ1 vD so n s = z2 at cL
      simp only [vlV]
      clear h1 h2 hV hK hT ev
      have cN := number_any z
      go_enter Tryz.func45, Tryz.ntmps45
      go_wp2_with fail
      refine cL.mono ?_
      rintro e w1 ⟨rfl, hb⟩
      have hbw1 : Below w.heap.size w w1 := HW.out.trans (hb.mono (by simp; omega))
      have hZ1 := hZ.keep hb
      clear cL hZ hb HW
      go_wp2_with fail
      refine (cN _).mono ?_
      rintro e w2 ⟨rfl, hb⟩
      have hbw : Below w.heap.size w w2 := hbw1.trans (hb.mono hbw1.size)
      obtain ⟨_, r0, r1, r2, f0, f1, f2⟩ := hZ1.keep hb
      clear cN hZ1 hb hbw1
      go_wp2_with fail
      refine bodyPost_ret (v := .agg #[.int .i64 1, .int .i64 z, .string ⟨#[]⟩]) (by simp [results, Tryz.results45, go_sem, r0, r1, r2]) rfl ⟨rfl, ?_⟩
      have hsz := hbw.size
      go_grown

set_option maxHeartbeats 1000000 in
theorem compared_any (hV : VSaid vD Tabs) (hK : ∀ w w', Tabs w → Below w.heap.size w w' → Tabs w') (hC : CSaid) (op : ByteArray) (v v' : Vl) (w : World) (hs : v.s.size ≤ 9223372036854775807) (hs' : v'.s.size ≤ 9223372036854775807) (hT : Tabs w) :
    Calls Tryz.prog 74 #[.string op, vlV v, vlV v'] w fun e w' => e = .returned (vlV (cmpV op.data.toList v v')) ∧ Below w.heap.size w w' := by
  obtain ⟨so, n, s⟩ := v
  obtain ⟨so', n', s'⟩ := v'
  have hZ := ZB.new ((w.alloc (.cells #[.int .i64 so, .int .i64 n, .string s] 23)).alloc (.cells #[.int .i64 so', .int .i64 n', .string s'] 23)) 23
  rw [show ((w.alloc (.cells #[.int .i64 so, .int .i64 n, .string s] 23)).alloc (.cells #[.int .i64 so', .int .i64 n', .string s'] 23)).heap.size = w.heap.size + 1 + 1 by simp] at hZ
  have hw2 : Below w.heap.size w (((w.alloc (.cells #[.int .i64 so, .int .i64 n, .string s] 23)).alloc (.cells #[.int .i64 so', .int .i64 n', .string s'] 23)).alloc (.cells #[.int .i64 0, .int .i64 0, .string ⟨#[]⟩] 23)) := (((Below.refl _ _).alloc (Nat.le_refl _) _).alloc (by simp) _).alloc (by simp; omega) _
  have hT2 := hK _ _ hT hw2
  have HW : Hid (Below w.heap.size w (((w.alloc (.cells #[.int .i64 so, .int .i64 n, .string s] 23)).alloc (.cells #[.int .i64 so', .int .i64 n', .string s'] 23)).alloc (.cells #[.int .i64 0, .int .i64 0, .string ⟨#[]⟩] 23))) := hw2
  have cO := order_any vD Tabs hV hK hC so n so' n' s s' (((w.alloc (.cells #[.int .i64 so, .int .i64 n, .string s] 23)).alloc (.cells #[.int .i64 so', .int .i64 n', .string s'] 23)).alloc (.cells #[.int .i64 0, .int .i64 0, .string ⟨#[]⟩] 23)) hs hs' hT2
  clear hw2 hT2
  unfold cmpV ordV bad2
  simp only
  generalize (if firstNZ [chkZ vD so n s, chkZ vD so' n' s'] = 0 then ordZ so n s so' n' s' else 0) = z at cO ⊢
  generalize firstNZ [chkZ vD so n s, chkZ vD so' n' s'] = z2 at cO
  by_cases h1 : op.data.toList = [61, 61]
  · rw [if_pos h1]
    have b1 : (op.toList == [61, 61]) = true := by rw [beqL]; simpa using h1
    have cT := fun W => truth_v (z == 0) W
    have ev : vlV (truV (z == 0)) = .agg #[.int .i64 2, .int .i64 (truV (z == 0)).n, .string ⟨#[]⟩] := rfl
    rw [ev]
    generalize (truV (z == 0)).n = y at cT ⊢
    simp only [vlV]
    clear h1 hV hK hC hT ev
    go_enter Tryz.func74, Tryz.ntmps74
    go_wp2_with fail
    refine cO.mono ?_
    rintro e w1 ⟨rfl, hb⟩
    have hbw1 : Below w.heap.size w w1 := HW.out.trans (hb.mono (by simp; omega))
    have hZ1 := hZ.keep hb
    clear cO hZ hb HW
    go_wp2_with fail
    refine (cT _).mono ?_
    rintro e w2 ⟨rfl, hb⟩
    have hbw : Below w.heap.size w w2 := hbw1.trans (hb.mono hbw1.size)
    obtain ⟨_, r0, r1, r2, f0, f1, f2⟩ := hZ1.keep hb
    clear cT hZ1 hb hbw1
    go_wp2_with fail
    refine bodyPost_ret (v := .agg #[.int .i64 2, .int .i64 y, .string ⟨#[]⟩]) (by simp [results, Tryz.results74, go_sem, r0, r1, r2]) rfl ⟨rfl, ?_⟩
    have hsz := hbw.size
    go_grown
  · rw [if_neg h1]
    have b1 : (op.toList == [61, 61]) = false := by rw [beqL]; simpa using h1
    by_cases h2 : op.data.toList = [60]
    · rw [if_pos h2]
      have b2 : (op.toList == [60]) = true := by rw [beqL]; simpa using h2
      have cT := fun W => truth_v (decide (z < 0)) W
      have ev : vlV (truV (decide (z < 0))) = .agg #[.int .i64 2, .int .i64 (truV (decide (z < 0))).n, .string ⟨#[]⟩] := rfl
      rw [ev]
      generalize (truV (decide (z < 0))).n = y at cT ⊢
      simp only [vlV]
      clear h1 h2 hV hK hC hT ev
      go_enter Tryz.func74, Tryz.ntmps74
      go_wp2_with fail
      refine cO.mono ?_
      rintro e w1 ⟨rfl, hb⟩
      have hbw1 : Below w.heap.size w w1 := HW.out.trans (hb.mono (by simp; omega))
      have hZ1 := hZ.keep hb
      clear cO hZ hb HW
      go_wp2_with fail
      refine (cT _).mono ?_
      rintro e w2 ⟨rfl, hb⟩
      have hbw : Below w.heap.size w w2 := hbw1.trans (hb.mono hbw1.size)
      obtain ⟨_, r0, r1, r2, f0, f1, f2⟩ := hZ1.keep hb
      clear cT hZ1 hb hbw1
      go_wp2_with fail
      refine bodyPost_ret (v := .agg #[.int .i64 2, .int .i64 y, .string ⟨#[]⟩]) (by simp [results, Tryz.results74, go_sem, r0, r1, r2]) rfl ⟨rfl, ?_⟩
      have hsz := hbw.size
      go_grown
    · rw [if_neg h2]
      have b2 : (op.toList == [60]) = false := by rw [beqL]; simpa using h2
      have cT := fun W => truth_v (decide (z ≤ 0)) W
      have ev : vlV (truV (decide (z ≤ 0))) = .agg #[.int .i64 2, .int .i64 (truV (decide (z ≤ 0))).n, .string ⟨#[]⟩] := rfl
      rw [ev]
      generalize (truV (decide (z ≤ 0))).n = y at cT ⊢
      simp only [vlV]
      clear h1 h2 hV hK hC hT ev
      go_enter Tryz.func74, Tryz.ntmps74
      go_wp2_with fail
      refine cO.mono ?_
      rintro e w1 ⟨rfl, hb⟩
      have hbw1 : Below w.heap.size w w1 := HW.out.trans (hb.mono (by simp; omega))
      have hZ1 := hZ.keep hb
      clear cO hZ hb HW
      go_wp2_with fail
      refine (cT _).mono ?_
      rintro e w2 ⟨rfl, hb⟩
      have hbw : Below w.heap.size w w2 := hbw1.trans (hb.mono hbw1.size)
      obtain ⟨_, r0, r1, r2, f0, f1, f2⟩ := hZ1.keep hb
      clear cT hZ1 hb hbw1
      go_wp2_with fail
      refine bodyPost_ret (v := .agg #[.int .i64 2, .int .i64 y, .string ⟨#[]⟩]) (by simp [results, Tryz.results74, go_sem, r0, r1, r2]) rfl ⟨rfl, ?_⟩
      have hsz := hbw.size
      go_grown
end Go.Proofs.YtecapnipkngniaaGreatDoor
/-
  The contract of exprs.reckonTwo, for every two values; utf8.ValidString's and strings.Compare's contracts are hypotheses here.
-/
namespace Go.Proofs.YtecapnipkngniaaGreatDoor
open Go.RowKit Go.Shelf
variable (Tabs : World → Prop)

theorem joined_v (hV : VSaid vD Tabs) (hK : ∀ w w', Tabs w → Below w.heap.size w w' → Tabs w') (v v' : Vl) (w : World) (hs : v.s.size ≤ 9223372036854775807) (hs' : v'.s.size ≤ 9223372036854775807) (hT : Tabs w) :
    Calls Tryz.prog 75 #[vlV v, vlV v'] w fun e w' => e = .returned (.tuple #[vlV (joinV v v'), .int .i64 (needZ2 vD v.so v.n v.s v'.so v'.n v'.s)]) ∧ Below w.heap.size w w' := by
  obtain ⟨so, n, s⟩ := v
  obtain ⟨so', n', s'⟩ := v'
  simp only [vlV, joinV]
  by_cases h : needZ2 vD so n s so' n' s' = 0
  · obtain ⟨h1, h2⟩ := (need2_zero _ _ _ _ _ _ _).1 h
    obtain ⟨rfl, rfl, la, va⟩ := (need1_zero _ _ _ _).1 h1
    obtain ⟨rfl, rfl, lb, vb⟩ := (need1_zero _ _ _ _).1 h2
    obtain ⟨ra, hra, rfl⟩ := str_all _ va
    obtain ⟨rb, hrb, rfl⟩ := str_all _ vb
    rw [str_size] at la lb
    have c := js_good Tabs hV hK ra rb hra hrb la lb w hT
    rw [if_pos h, h]
    simp only [joinS, letS_str ra hra, letS_str rb hrb]
    exact c
  · have c := joined_bad vD Tabs hV hK so n so' n' s s' w hs hs' hT h
    rw [if_neg h]
    exact c

theorem cmp_lists (l : List UInt8) (h : ¬ (l = [61, 61] ∨ l = [60] ∨ l = [60, 61])) : l ≠ [61, 61] ∧ l ≠ [60] ∧ l ≠ [60, 61] := ⟨fun e => h (.inl e), fun e => h (.inr (.inl e)), fun e => h (.inr (.inr e))⟩

set_option maxHeartbeats 2000000 in
theorem reckonTwo_any (hV : VSaid vD Tabs) (hK : ∀ w w', Tabs w → Below w.heap.size w w' → Tabs w') (hC : CSaid) (op : ByteArray) (v v' : Vl) (w : World) (hs : v.s.size ≤ 9223372036854775807) (hs' : v'.s.size ≤ 9223372036854775807) (hT : Tabs w) :
    Calls Tryz.prog 46 #[.string op, vlV v, vlV v'] w fun e w' => e = .returned (vlV (twoV op.data.toList v v')) ∧ Below w.heap.size w w' := by
  obtain ⟨so, n, s⟩ := v
  obtain ⟨so', n', s'⟩ := v'
  have hZ := ZB.new ((w.alloc (.cells #[.int .i64 so, .int .i64 n, .string s] 23)).alloc (.cells #[.int .i64 so', .int .i64 n', .string s'] 23)) 23
  rw [show ((w.alloc (.cells #[.int .i64 so, .int .i64 n, .string s] 23)).alloc (.cells #[.int .i64 so', .int .i64 n', .string s'] 23)).heap.size = w.heap.size + 1 + 1 by simp] at hZ
  have hw2 : Below w.heap.size w (((w.alloc (.cells #[.int .i64 so, .int .i64 n, .string s] 23)).alloc (.cells #[.int .i64 so', .int .i64 n', .string s'] 23)).alloc (.cells #[.int .i64 0, .int .i64 0, .string ⟨#[]⟩] 23)) := (((Below.refl _ _).alloc (Nat.le_refl _) _).alloc (by simp) _).alloc (by simp; omega) _
  have hT2 := hK _ _ hT hw2
  have HW : Hid (Below w.heap.size w (((w.alloc (.cells #[.int .i64 so, .int .i64 n, .string s] 23)).alloc (.cells #[.int .i64 so', .int .i64 n', .string s'] 23)).alloc (.cells #[.int .i64 0, .int .i64 0, .string ⟨#[]⟩] 23))) := hw2
  have cJ := joined_v Tabs hV hK ⟨so, n, s⟩ ⟨so', n', s'⟩ (((w.alloc (.cells #[.int .i64 so, .int .i64 n, .string s] 23)).alloc (.cells #[.int .i64 so', .int .i64 n', .string s'] 23)).alloc (.cells #[.int .i64 0, .int .i64 0, .string ⟨#[]⟩] 23)) hs hs' hT2
  have cC := compared_any Tabs hV hK hC op ⟨so, n, s⟩ ⟨so', n', s'⟩ (((w.alloc (.cells #[.int .i64 so, .int .i64 n, .string s] 23)).alloc (.cells #[.int .i64 so', .int .i64 n', .string s'] 23)).alloc (.cells #[.int .i64 0, .int .i64 0, .string ⟨#[]⟩] 23)) hs hs' hT2
  simp only [vlV] at cJ cC
  clear hw2 hT2 hV hK hC hT
  unfold twoV
  simp only
  by_cases h1 : op.data.toList = [111, 114]
  · rw [if_pos h1]
    have b1 : (op.toList == [111, 114]) = true := by rw [beqL]; simpa using h1
    have ev : vlV (truV (n == 1 || n' == 1)) = .agg #[.int .i64 2, .int .i64 (truV (n == 1 || n' == 1)).n, .string ⟨#[]⟩] := rfl
    rw [ev]
    clear ev cJ cC h1
    cases hx : n == 1 <;> cases hy : n' == 1
    all_goals
      simp only [vlV]
      have cT := truth_v
      go_enter Tryz.func46, Tryz.ntmps46
      go_wp2_with fail
      refine (cT _ _).mono ?_
      rintro e w1 ⟨rfl, hb⟩
      have hbw : Below w.heap.size w w1 := HW.out.trans (hb.mono (by simp; omega))
      obtain ⟨_, r0, r1, r2, f0, f1, f2⟩ := hZ.keep hb
      clear cT hZ hb HW
      go_wp2_with fail
      refine bodyPost_ret (v := .agg #[.int .i64 2, .int .i64 _, .string ⟨#[]⟩]) (by simp [results, Tryz.results46, go_sem, r0, r1, r2]) rfl ⟨rfl, ?_⟩
      have hsz := hbw.size
      go_grown
  · rw [if_neg h1]
    have b1 : (op.toList == [111, 114]) = false := by rw [beqL]; simpa using h1
    by_cases h2 : op.data.toList = [97, 110, 100]
    · rw [if_pos h2]
      have b2 : (op.toList == [97, 110, 100]) = true := by rw [beqL]; simpa using h2
      have ev : vlV (truV (n == 1 && n' == 1)) = .agg #[.int .i64 2, .int .i64 (truV (n == 1 && n' == 1)).n, .string ⟨#[]⟩] := rfl
      rw [ev]
      clear ev cJ cC h1 h2
      cases hx : n == 1 <;> cases hy : n' == 1
      all_goals
        simp only [vlV]
        have cT := truth_v
        go_enter Tryz.func46, Tryz.ntmps46
        go_wp2_with fail
        refine (cT _ _).mono ?_
        rintro e w1 ⟨rfl, hb⟩
        have hbw : Below w.heap.size w w1 := HW.out.trans (hb.mono (by simp; omega))
        obtain ⟨_, r0, r1, r2, f0, f1, f2⟩ := hZ.keep hb
        clear cT hZ hb HW
        go_wp2_with fail
        refine bodyPost_ret (v := .agg #[.int .i64 2, .int .i64 _, .string ⟨#[]⟩]) (by simp [results, Tryz.results46, go_sem, r0, r1, r2]) rfl ⟨rfl, ?_⟩
        have hsz := hbw.size
        go_grown
    · rw [if_neg h2]
      have b2 : (op.toList == [97, 110, 100]) = false := by rw [beqL]; simpa using h2
      by_cases h3 : op.data.toList = [61, 61] ∨ op.data.toList = [60] ∨ op.data.toList = [60, 61]
      · rw [if_pos h3]
        generalize cmpV op.data.toList ⟨so, n, s⟩ ⟨so', n', s'⟩ = R at cC ⊢
        obtain ⟨x0, x1, x2⟩ := R
        simp only [vlV] at cC ⊢
        have b3 : ((op.toList == [61, 61]) = true) ∨ ((op.toList == [61, 61]) = false ∧ (op.toList == [60]) = true) ∨ ((op.toList == [61, 61]) = false ∧ (op.toList == [60]) = false ∧ (op.toList == [60, 61]) = true) := by
          simp only [beqL]
          rcases h3 with h | h | h <;> simp [h]
        clear h1 h2 h3 cJ
        rcases b3 with b3 | ⟨b3, b4⟩ | ⟨b3, b4, b5⟩
        all_goals
          go_enter Tryz.func46, Tryz.ntmps46
          go_wp2_with fail
          refine cC.mono ?_
          rintro e w1 ⟨rfl, hb⟩
          have hbw : Below w.heap.size w w1 := HW.out.trans (hb.mono (by simp; omega))
          obtain ⟨_, r0, r1, r2, f0, f1, f2⟩ := hZ.keep hb
          clear cC hZ hb HW
          go_wp2_with fail
          refine bodyPost_ret (v := .agg #[.int .i64 x0, .int .i64 x1, .string x2]) (by simp [results, Tryz.results46, go_sem, r0, r1, r2]) rfl ⟨rfl, ?_⟩
          have hsz := hbw.size
          go_grown
      · rw [if_neg h3]
        obtain ⟨e3, e4, e5⟩ := cmp_lists _ h3
        have b3 : (op.toList == [61, 61]) = false := by rw [beqL]; simpa using e3
        have b4 : (op.toList == [60]) = false := by rw [beqL]; simpa using e4
        have b5 : (op.toList == [60, 61]) = false := by rw [beqL]; simpa using e5
        clear e3 e4 e5
        by_cases h4 : op.data.toList = [43, 43]
        · rw [if_pos h4]
          have b6 : (op.toList == [43, 43]) = true := by rw [beqL]; simpa using h4
          generalize joinV ⟨so, n, s⟩ ⟨so', n', s'⟩ = R at cJ ⊢
          generalize needZ2 vD so n s so' n' s' = z at cJ
          obtain ⟨x0, x1, x2⟩ := R
          simp only [vlV] at cJ ⊢
          clear h1 h2 h3 h4 cC
          go_enter Tryz.func46, Tryz.ntmps46
          go_wp2_with fail
          refine cJ.mono ?_
          rintro e w1 ⟨rfl, hb⟩
          have hbw : Below w.heap.size w w1 := HW.out.trans (hb.mono (by simp; omega))
          have hsw := hb.size
          obtain ⟨_, r0, r1, r2, f0, f1, f2⟩ := hZ.keep hb
          have hs1 : w.heap.size + 1 + 1 < w1.heap.size := by simp at hsw; omega
          clear cJ hZ hb HW hsw
          go_wp2_with fail
          refine bodyPost_ret (v := .agg #[.int .i64 x0, .int .i64 x1, .string x2]) (by simp [results, Tryz.results46, go_sem, hs1, r0, r1, r2]) rfl ⟨rfl, ?_⟩
          have hsz := hbw.size
          go_grown
        · rw [if_neg h4]
          have b6 : (op.toList == [43, 43]) = false := by rw [beqL]; simpa using h4
          have cR := reckonNumbers_any op n n'
          generalize numZ op.data.toList n n' = z at cR ⊢
          have cN := number_any z
          have ev : vlV (numV z) = .agg #[.int .i64 1, .int .i64 z, .string ⟨#[]⟩] := rfl
          rw [ev]
          simp only [vlV]
          clear h1 h2 h3 h4 cC cJ ev
          go_enter Tryz.func46, Tryz.ntmps46
          go_wp2_with (go_at_call 76; refine (cR _).mono ?_; rintro e w0 ⟨rfl, rfl⟩)
          refine (cN _).mono ?_
          rintro e w1 ⟨rfl, hb⟩
          have hbw : Below w.heap.size w w1 := HW.out.trans (hb.mono (by simp; omega))
          obtain ⟨_, r0, r1, r2, f0, f1, f2⟩ := hZ.keep hb
          clear cN cR hZ hb HW
          go_wp2_with fail
          refine bodyPost_ret (v := .agg #[.int .i64 1, .int .i64 z, .string ⟨#[]⟩]) (by simp [results, Tryz.results46, go_sem, r0, r1, r2]) rfl ⟨rfl, ?_⟩
          have hsz := hbw.size
          go_grown
end Go.Proofs.YtecapnipkngniaaGreatDoor
