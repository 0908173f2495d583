/-
  The contracts of strings.Clone, exprs.copied, compared, reckonOne and reckonTwo, each for every value; utf8.ValidString's and strings.Compare's contracts are hypotheses here.
-/
import Derived.Test.YtclbillfffpknaaGreatDoorXh
import Derived.Test.YtclbillfffpknaaGreatDoorLib
import Derived.Test.YtclbillfffpknaaGreatDoorBx
import Derived.Deep.RegionHeld3
namespace Go.Proofs.YtclbillfffpknaaGreatDoor
open Go.RowKit Go.Shelf
variable (Tabs : World → Prop)

def vlV (v : Vl) : Value := .agg #[.int .i64 v.so, .int .i64 v.n, .string v.s]
/-- a Value of zeros in a block of its own -/
structure ZB (W : World) (b : Nat) : Prop where
  lt : b < W.heap.size
  c0 : W.cell? ⟨b, 0, none⟩ = some (.int .i64 0)
  c1 : W.cell? ⟨b, 1, none⟩ = some (.int .i64 0)
  c2 : W.cell? ⟨b, 2, none⟩ = some (.string ⟨#[]⟩)
  f0 : W.frozen? ⟨b, 0, none⟩ = false
  f1 : W.frozen? ⟨b, 1, none⟩ = false
  f2 : W.frozen? ⟨b, 2, none⟩ = false
theorem ZB.keep {W W' : World} {b : Nat} (h : ZB W b) (hb : Below W.heap.size W W') : ZB W' b :=
  ⟨Nat.lt_of_lt_of_le h.lt hb.size, (hb.cell (p := ⟨b, 0, none⟩) h.lt).trans h.c0, (hb.cell (p := ⟨b, 1, none⟩) h.lt).trans h.c1, (hb.cell (p := ⟨b, 2, none⟩) h.lt).trans h.c2,
    (hb.frozen (p := ⟨b, 0, none⟩) h.lt).trans h.f0, (hb.frozen (p := ⟨b, 1, none⟩) h.lt).trans h.f1, (hb.frozen (p := ⟨b, 2, none⟩) h.lt).trans h.f2⟩
theorem ZB.new (W : World) (t : TypeId) : ZB (W.alloc (.cells #[.int .i64 0, .int .i64 0, .string ⟨#[]⟩] t)) W.heap.size :=
  ⟨by simp, by go_cell, by go_cell, by go_cell, by go_simp, by go_simp, by go_simp⟩

theorem lite_any (s : ByteArray) (w : World) (hs : s.size ≤ 281474976710656) :
    Calls Tryz.prog 41 #[.string s] w fun e w' => e = .returned (.string s) ∧ Below w.heap.size w w' := Any.stringslite_Clone Tryz.laysM316 s w hs
set_option maxHeartbeats 400000 in
theorem clone_any (s : ByteArray) (w : World) (hs : s.size ≤ 281474976710656) :
    Calls Tryz.prog 29 #[.string s] w fun e w' => e = .returned (.string s) ∧ Below w.heap.size w w' := by
  have c := lite_any s w hs
  go_enter Tryz.func29, Tryz.ntmps29
  go_wp2_with fail
  refine c.mono ?_
  rintro e w1 ⟨rfl, hb⟩
  go_wp2_with fail
  go_ret
  exact ⟨rfl, hb⟩

set_option maxHeartbeats 1000000 in
theorem copied_any (v : Vl) (w : World) (hs : v.s.size ≤ 281474976710656) :
    Calls Tryz.prog 21 #[vlV v] w fun e w' => e = .returned (vlV v) ∧ Below w.heap.size w w' := by
  obtain ⟨so, n, s⟩ := v
  unfold vlV
  simp only at hs ⊢
  have c := clone_any s ((w.alloc (.cells #[.int .i64 so, .int .i64 n, .string s] 23)).alloc (.cells #[.int .i64 0, .int .i64 0, .string ⟨#[]⟩] 23)) hs
  have hA := (Box.new w so n s 23).al (.cells #[.int .i64 0, .int .i64 0, .string ⟨#[]⟩] 23)
  have hZ := ZB.new (w.alloc (.cells #[.int .i64 so, .int .i64 n, .string s] 23)) 23
  rw [show (w.alloc (.cells #[.int .i64 so, .int .i64 n, .string s] 23)).heap.size = w.heap.size + 1 by simp] at hZ
  have HW : Hid (Below w.heap.size w ((w.alloc (.cells #[.int .i64 so, .int .i64 n, .string s] 23)).alloc (.cells #[.int .i64 0, .int .i64 0, .string ⟨#[]⟩] 23))) := ((Below.refl _ _).alloc (Nat.le_refl _) _).alloc (by simp) _
  go_enter Tryz.func21, Tryz.ntmps21
  go_wp2_with fail
  refine c.mono ?_
  rintro e w1 ⟨rfl, hb⟩
  have fA : w1.frozen? ⟨w.heap.size, 2, none⟩ = false := (hb.frozen (p := ⟨w.heap.size, 2, none⟩) (by simp; omega)).trans (by go_simp)
  have hbw : Below w.heap.size w w1 := HW.out.trans (hb.mono (by simp; omega))
  obtain ⟨_, a0, a1, a2⟩ := hA.keep hb
  obtain ⟨_, r0, r1, r2, f0, f1, f2⟩ := hZ.keep hb
  clear c hA hZ hb HW
  go_wp2_with fail
  refine bodyPost_ret (v := .agg #[.int .i64 so, .int .i64 n, .string s]) (by simp [results, Tryz.results21, go_sem, r0, r1, r2]) rfl ⟨rfl, ?_⟩
  have hsz := hbw.size
  go_grown

theorem tru_val (b : Bool) : vlV (truV b) = .agg #[.int .i64 2, .int .i64 (if b then 1 else 0), .string ⟨#[]⟩] := rfl
theorem num_val (z : Int) : vlV (numV z) = .agg #[.int .i64 1, .int .i64 z, .string ⟨#[]⟩] := rfl
theorem truth_v (b : Bool) (w : World) : Calls Tryz.prog 56 #[.bool b] w fun e w' => e = .returned (.agg #[.int .i64 2, .int .i64 (truV b).n, .string ⟨#[]⟩]) ∧ Below w.heap.size w w' := truth_any b w

set_option maxHeartbeats 1000000 in
theorem reckonOne_any (hV : VSaid vD Tabs) (hK : ∀ w w', Tabs w → Below w.heap.size w w' → Tabs w') (op : ByteArray) (v : Vl) (w : World) (hs : v.s.size < 9223372036854775807) (hT : Tabs w) :
    Calls Tryz.prog 37 #[.string op, vlV v] w fun e w' => e = .returned (vlV (oneV op.data.toList v)) ∧ Below w.heap.size w w' := by
  obtain ⟨so, n, s⟩ := v
  have hZ := ZB.new (w.alloc (.cells #[.int .i64 so, .int .i64 n, .string s] 23)) 23
  rw [show (w.alloc (.cells #[.int .i64 so, .int .i64 n, .string s] 23)).heap.size = w.heap.size + 1 by simp] at hZ
  have hw2 : Below w.heap.size w ((w.alloc (.cells #[.int .i64 so, .int .i64 n, .string s] 23)).alloc (.cells #[.int .i64 0, .int .i64 0, .string ⟨#[]⟩] 23)) := ((Below.refl _ _).alloc (Nat.le_refl _) _).alloc (by simp) _
  have hT2 := hK _ _ hT hw2
  have HW : Hid (Below w.heap.size w ((w.alloc (.cells #[.int .i64 so, .int .i64 n, .string s] 23)).alloc (.cells #[.int .i64 0, .int .i64 0, .string ⟨#[]⟩] 23))) := hw2
  have cL := length_any vD Tabs hV hK so n s ((w.alloc (.cells #[.int .i64 so, .int .i64 n, .string s] 23)).alloc (.cells #[.int .i64 0, .int .i64 0, .string ⟨#[]⟩] 23)) hs hT2
  clear hw2 hT2
  unfold oneV
  simp only
  by_cases h1 : op.data.toList = [110, 111, 116]
  · rw [if_pos h1]
    have b1 : (op.toList == [110, 111, 116]) = true := by rw [beqL]; simpa using h1
    have cT := fun W => truth_v (n == 0) W
    have ev : vlV (truV (n == 0)) = .agg #[.int .i64 2, .int .i64 (truV (n == 0)).n, .string ⟨#[]⟩] := rfl
    rw [ev]
    generalize (truV (n == 0)).n = z at cT ⊢
    simp only [vlV]
    clear h1 cL hV hK hT ev
    go_enter Tryz.func37, Tryz.ntmps37
    go_wp2_with fail
    refine (cT _).mono ?_
    rintro e w1 ⟨rfl, hb⟩
    have hbw : Below w.heap.size w w1 := HW.out.trans (hb.mono (by simp; omega))
    obtain ⟨_, r0, r1, r2, f0, f1, f2⟩ := hZ.keep hb
    clear cT hZ hb HW
    go_wp2_with fail
    refine bodyPost_ret (v := .agg #[.int .i64 2, .int .i64 z, .string ⟨#[]⟩]) (by simp [results, Tryz.results37, go_sem, r0, r1, r2]) rfl ⟨rfl, ?_⟩
    have hsz := hbw.size
    go_grown
  · rw [if_neg h1]
    have b1 : (op.toList == [110, 111, 116]) = false := by rw [beqL]; simpa using h1
    by_cases h2 : op.data.toList = [110, 101, 103]
    · rw [if_pos h2]
      have b2 : (op.toList == [110, 101, 103]) = true := by rw [beqL]; simpa using h2
      have cN := fun W => number_any (w64 (-n)) W
      unfold w64 at cN
      have ev : vlV (numV (w64 (-n))) = .agg #[.int .i64 1, .int .i64 (wrap64 (-n)), .string ⟨#[]⟩] := rfl
      rw [ev]
      simp only [vlV]
      clear h1 h2 cL hV hK hT ev
      go_enter Tryz.func37, Tryz.ntmps37
      go_wp2_with fail
      refine (cN _).mono ?_
      rintro e w1 ⟨rfl, hb⟩
      have hbw : Below w.heap.size w w1 := HW.out.trans (hb.mono (by simp; omega))
      obtain ⟨_, r0, r1, r2, f0, f1, f2⟩ := hZ.keep hb
      clear cN hZ hb HW
      go_wp2_with fail
      refine bodyPost_ret (v := .agg #[.int .i64 1, .int .i64 (wrap64 (-n)), .string ⟨#[]⟩]) (by simp [results, Tryz.results37, go_sem, r0, r1, r2]) rfl ⟨rfl, ?_⟩
      have hsz := hbw.size
      go_grown
    · rw [if_neg h2]
      have b2 : (op.toList == [110, 101, 103]) = false := by rw [beqL]; simpa using h2
      have ev : vlV (numV (lenZ vD so n s)) = .agg #[.int .i64 1, .int .i64 (lenZ vD so n s), .string ⟨#[]⟩] := rfl
      rw [ev]
      generalize lenZ vD so n s = z at cL ⊢
      generalize needZ1 vD so n s = z2 at cL
      simp only [vlV]
      clear h1 h2 hV hK hT ev
      have cN := number_any z
      go_enter Tryz.func37, Tryz.ntmps37
      go_wp2_with fail
      refine cL.mono ?_
      rintro e w1 ⟨rfl, hb⟩
      have hbw1 : Below w.heap.size w w1 := HW.out.trans (hb.mono (by simp; omega))
      have hZ1 := hZ.keep hb
      clear cL hZ hb HW
      go_wp2_with fail
      refine (cN _).mono ?_
      rintro e w2 ⟨rfl, hb⟩
      have hbw : Below w.heap.size w w2 := hbw1.trans (hb.mono hbw1.size)
      obtain ⟨_, r0, r1, r2, f0, f1, f2⟩ := hZ1.keep hb
      clear cN hZ1 hb hbw1
      go_wp2_with fail
      refine bodyPost_ret (v := .agg #[.int .i64 1, .int .i64 z, .string ⟨#[]⟩]) (by simp [results, Tryz.results37, go_sem, r0, r1, r2]) rfl ⟨rfl, ?_⟩
      have hsz := hbw.size
      go_grown

set_option maxHeartbeats 1000000 in
theorem compared_any (hV : VSaid vD Tabs) (hK : ∀ w w', Tabs w → Below w.heap.size w w' → Tabs w') (hC : CSaid) (op : ByteArray) (v v' : Vl) (w : World) (hs : v.s.size ≤ 9223372036854775807) (hs' : v'.s.size ≤ 9223372036854775807) (hT : Tabs w) :
    Calls Tryz.prog 59 #[.string op, vlV v, vlV v'] w fun e w' => e = .returned (vlV (cmpV op.data.toList v v')) ∧ Below w.heap.size w w' := by
  obtain ⟨so, n, s⟩ := v
  obtain ⟨so', n', s'⟩ := v'
  have hZ := ZB.new ((w.alloc (.cells #[.int .i64 so, .int .i64 n, .string s] 23)).alloc (.cells #[.int .i64 so', .int .i64 n', .string s'] 23)) 23
  rw [show ((w.alloc (.cells #[.int .i64 so, .int .i64 n, .string s] 23)).alloc (.cells #[.int .i64 so', .int .i64 n', .string s'] 23)).heap.size = w.heap.size + 1 + 1 by simp] at hZ
  have hw2 : Below w.heap.size w (((w.alloc (.cells #[.int .i64 so, .int .i64 n, .string s] 23)).alloc (.cells #[.int .i64 so', .int .i64 n', .string s'] 23)).alloc (.cells #[.int .i64 0, .int .i64 0, .string ⟨#[]⟩] 23)) := (((Below.refl _ _).alloc (Nat.le_refl _) _).alloc (by simp) _).alloc (by simp; omega) _
  have hT2 := hK _ _ hT hw2
  have HW : Hid (Below w.heap.size w (((w.alloc (.cells #[.int .i64 so, .int .i64 n, .string s] 23)).alloc (.cells #[.int .i64 so', .int .i64 n', .string s'] 23)).alloc (.cells #[.int .i64 0, .int .i64 0, .string ⟨#[]⟩] 23))) := hw2
  have cO := order_any vD Tabs hV hK hC so n so' n' s s' (((w.alloc (.cells #[.int .i64 so, .int .i64 n, .string s] 23)).alloc (.cells #[.int .i64 so', .int .i64 n', .string s'] 23)).alloc (.cells #[.int .i64 0, .int .i64 0, .string ⟨#[]⟩] 23)) hs hs' hT2
  clear hw2 hT2
  unfold cmpV ordV bad2
  simp only
  generalize (if firstNZ [chkZ vD so n s, chkZ vD so' n' s'] = 0 then ordZ so n s so' n' s' else 0) = z at cO ⊢
  generalize firstNZ [chkZ vD so n s, chkZ vD so' n' s'] = z2 at cO
  by_cases h1 : op.data.toList = [61, 61]
  · rw [if_pos h1]
    have b1 : (op.toList == [61, 61]) = true := by rw [beqL]; simpa using h1
    have cT := fun W => truth_v (z == 0) W
    have ev : vlV (truV (z == 0)) = .agg #[.int .i64 2, .int .i64 (truV (z == 0)).n, .string ⟨#[]⟩] := rfl
    rw [ev]
    generalize (truV (z == 0)).n = y at cT ⊢
    simp only [vlV]
    clear h1 hV hK hC hT ev
    go_enter Tryz.func59, Tryz.ntmps59
    go_wp2_with fail
    refine cO.mono ?_
    rintro e w1 ⟨rfl, hb⟩
    have hbw1 : Below w.heap.size w w1 := HW.out.trans (hb.mono (by simp; omega))
    have hZ1 := hZ.keep hb
    clear cO hZ hb HW
    go_wp2_with fail
    refine (cT _).mono ?_
    rintro e w2 ⟨rfl, hb⟩
    have hbw : Below w.heap.size w w2 := hbw1.trans (hb.mono hbw1.size)
    obtain ⟨_, r0, r1, r2, f0, f1, f2⟩ := hZ1.keep hb
    clear cT hZ1 hb hbw1
    go_wp2_with fail
    refine bodyPost_ret (v := .agg #[.int .i64 2, .int .i64 y, .string ⟨#[]⟩]) (by simp [results, Tryz.results59, go_sem, r0, r1, r2]) rfl ⟨rfl, ?_⟩
    have hsz := hbw.size
    go_grown
  · rw [if_neg h1]
    have b1 : (op.toList == [61, 61]) = false := by rw [beqL]; simpa using h1
    by_cases h2 : op.data.toList = [60]
    · rw [if_pos h2]
      have b2 : (op.toList == [60]) = true := by rw [beqL]; simpa using h2
      have cT := fun W => truth_v (decide (z < 0)) W
      have ev : vlV (truV (decide (z < 0))) = .agg #[.int .i64 2, .int .i64 (truV (decide (z < 0))).n, .string ⟨#[]⟩] := rfl
      rw [ev]
      generalize (truV (decide (z < 0))).n = y at cT ⊢
      simp only [vlV]
      clear h1 h2 hV hK hC hT ev
      go_enter Tryz.func59, Tryz.ntmps59
      go_wp2_with fail
      refine cO.mono ?_
      rintro e w1 ⟨rfl, hb⟩
      have hbw1 : Below w.heap.size w w1 := HW.out.trans (hb.mono (by simp; omega))
      have hZ1 := hZ.keep hb
      clear cO hZ hb HW
      go_wp2_with fail
      refine (cT _).mono ?_
      rintro e w2 ⟨rfl, hb⟩
      have hbw : Below w.heap.size w w2 := hbw1.trans (hb.mono hbw1.size)
      obtain ⟨_, r0, r1, r2, f0, f1, f2⟩ := hZ1.keep hb
      clear cT hZ1 hb hbw1
      go_wp2_with fail
      refine bodyPost_ret (v := .agg #[.int .i64 2, .int .i64 y, .string ⟨#[]⟩]) (by simp [results, Tryz.results59, go_sem, r0, r1, r2]) rfl ⟨rfl, ?_⟩
      have hsz := hbw.size
      go_grown
    · rw [if_neg h2]
      have b2 : (op.toList == [60]) = false := by rw [beqL]; simpa using h2
      have cT := fun W => truth_v (decide (z ≤ 0)) W
      have ev : vlV (truV (decide (z ≤ 0))) = .agg #[.int .i64 2, .int .i64 (truV (decide (z ≤ 0))).n, .string ⟨#[]⟩] := rfl
      rw [ev]
      generalize (truV (decide (z ≤ 0))).n = y at cT ⊢
      simp only [vlV]
      clear h1 h2 hV hK hC hT ev
      go_enter Tryz.func59, Tryz.ntmps59
      go_wp2_with fail
      refine cO.mono ?_
      rintro e w1 ⟨rfl, hb⟩
      have hbw1 : Below w.heap.size w w1 := HW.out.trans (hb.mono (by simp; omega))
      have hZ1 := hZ.keep hb
      clear cO hZ hb HW
      go_wp2_with fail
      refine (cT _).mono ?_
      rintro e w2 ⟨rfl, hb⟩
      have hbw : Below w.heap.size w w2 := hbw1.trans (hb.mono hbw1.size)
      obtain ⟨_, r0, r1, r2, f0, f1, f2⟩ := hZ1.keep hb
      clear cT hZ1 hb hbw1
      go_wp2_with fail
      refine bodyPost_ret (v := .agg #[.int .i64 2, .int .i64 y, .string ⟨#[]⟩]) (by simp [results, Tryz.results59, go_sem, r0, r1, r2]) rfl ⟨rfl, ?_⟩
      have hsz := hbw.size
      go_grown
end Go.Proofs.YtclbillfffpknaaGreatDoor
