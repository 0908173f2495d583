/-
  The contract of pieces.Read as exprs.Parse calls it, for every text.
-/
import Derived.Test.YtkacnpgokghhcaaGreatDoorGu
namespace Go.Proofs.YtkacnpgokghhcaaGreatDoor
open Go.RowKit Go.Shelf
/-- the world in which a reading begins -/
def rdWX (w : World) (s : ByteArray) : World := (w.alloc (.cells #[.int .i64 0, .int .i64 0] 31)).alloc (.cells #[.string s, .string ⟨#[32]⟩, .int .i64 0] 68)
theorem rdWX_rs (w : World) (s : ByteArray) (h : s.size ≤ 2000) : RS (rdWX w s) (w.heap.size + 1) s 0 := by
  unfold rdWX
  exact ⟨by go_cell, by go_cell, by go_cell, by go_simp, Nat.zero_le _, h⟩
theorem rdWX_fr (w : World) (s : ByteArray) (tb : Nat) : FR tb w (rdWX w s) := (FR.al _).trans (FR.al _)
theorem rdWX_fr1 (w : World) (s : ByteArray) (tb : Nat) : FR tb (w.alloc (.cells #[.int .i64 0, .int .i64 0] 31)) (rdWX w s) := FR.al _
/-- the block of the fault that is told -/
structure FBX (W : World) (b : Nat) (c a : Int) : Prop where
  lt : b < W.heap.size
  c0 : W.cell? ⟨b, 0, none⟩ = some (.int .i64 c)
  c1 : W.cell? ⟨b, 1, none⟩ = some (.int .i64 a)
  f0 : W.frozen? ⟨b, 0, none⟩ = false
  f1 : W.frozen? ⟨b, 1, none⟩ = false
theorem FBX.keep {W W' : World} {pb b : Nat} {c a : Int} (h : FBX W b c a) (hf : FR pb W W') (hn : b ≠ pb) : FBX W' b c a :=
  ⟨Nat.lt_of_lt_of_le h.lt hf.size, (hf.cellO h.lt hn).trans h.c0, (hf.cellO h.lt hn).trans h.c1, (hf.frozenO h.lt hn).trans h.f0, (hf.frozenO h.lt hn).trans h.f1⟩
theorem al_fbX (w : World) : FBX (w.alloc (.cells #[.int .i64 0, .int .i64 0] 31)) w.heap.size 0 0 := ⟨by simp, by go_cell, by go_cell, by go_simp, by go_simp⟩
/-- the fault's two cells, stored one after the other -/
def st2X (W : World) (b : Nat) (c a : Int) : World := (W.setCell ⟨b, 0, none⟩ (.int .i64 c)).setCell ⟨b, 1, none⟩ (.int .i64 a)
theorem st2X_other (W : World) (b : Nat) (c a : Int) (b' o : Nat) (h : b' ≠ b) : (st2X W b c a).cell? ⟨b', o, none⟩ = W.cell? ⟨b', o, none⟩ := by
  unfold st2X
  rw [World.cell?_setCell_other _ _ _ _ (by intro e; simp only [Addr.mk.injEq] at e; omega), World.cell?_setCell_other _ _ _ _ (by intro e; simp only [Addr.mk.injEq] at e; omega)]
theorem st2X_frozen (W : World) (b : Nat) (c a : Int) (p : Addr) : (st2X W b c a).frozen? p = W.frozen? p := by unfold st2X; simp only [World.frozen?_setCell]
theorem st2X_size (W : World) (b : Nat) (c a : Int) : (st2X W b c a).heap.size = W.heap.size := by unfold st2X; simp
theorem st2X_at {W : World} {b : Nat} {c0 a0 : Int} (h : FBX W b c0 a0) (c a : Int) : FBX (st2X W b c a) b c a := by
  obtain ⟨hl, h0, h1, f0, f1⟩ := h
  exact ⟨by rw [st2X_size]; exact hl, by unfold st2X; go_cell, by unfold st2X; go_cell, by rw [st2X_frozen]; exact f0, by rw [st2X_frozen]; exact f1⟩
theorem FR.st2X {tb b : Nat} {w W : World} (h : FR tb w W) (hb : w.heap.size ≤ b) (c a : Int) : FR tb w (st2X W b c a) := by
  unfold Go.Proofs.YtkacnpgokghhcaaGreatDoor.st2X
  exact (h.setN hb _).setN hb _
theorem ZE.st2X {W : World} {tb b : Nat} (h : ZE W tb) (hn : tb ≠ b) (c a : Int) : ZE (st2X W b c a) tb :=
  ⟨by rw [st2X_size]; exact h.lt, (st2X_other _ _ _ _ _ _ hn).trans h.c0, (st2X_other _ _ _ _ _ _ hn).trans h.c1, (st2X_other _ _ _ _ _ _ hn).trans h.c2, (st2X_other _ _ _ _ _ _ hn).trans h.c3, (st2X_other _ _ _ _ _ _ hn).trans h.c4, (st2X_other _ _ _ _ _ _ hn).trans h.c5, fun o => by rw [st2X_frozen]; exact h.f o⟩
theorem InXb.st2X {w w1 W : World} {tb b : Nat} {x : Ex} (h : InXb w1 tb x W) (hw : w.heap.size ≤ w1.heap.size) (hb : b < w1.heap.size) (hn : tb ≠ b) (c a : Int) : InXb w tb x (st2X W b c a) := by
  obtain ⟨d, ao, cap, h1, h2, h3⟩ := h
  have hk : ∀ b' o, NW w1 W b' → (Go.Proofs.YtkacnpgokghhcaaGreatDoor.st2X W b c a).cell? ⟨b', o, none⟩ = W.cell? ⟨b', o, none⟩ := fun b' o hb' => st2X_other _ _ _ _ _ _ (by have := hb'.1; omega)
  have hq : ∀ b', NW w1 W b' → NW w (Go.Proofs.YtkacnpgokghhcaaGreatDoor.st2X W b c a) b' := fun b' hb' => ⟨Nat.le_trans hw hb'.1, by rw [st2X_size]; exact hb'.2⟩
  exact ⟨d, ao, cap, ⟨(st2X_other _ _ _ _ _ _ hn).trans h1.c0, (st2X_other _ _ _ _ _ _ hn).trans h1.c1, (st2X_other _ _ _ _ _ _ hn).trans h1.c2, (st2X_other _ _ _ _ _ _ hn).trans h1.c3, (st2X_other _ _ _ _ _ _ hn).trans h1.c4, (st2X_other _ _ _ _ _ _ hn).trans h1.c5⟩, ⟨h2.bd, h2.ka.keep hk hq⟩, fun o => by rw [st2X_frozen]; exact h3 o⟩
theorem rsX_all (s : ByteArray) : (rs s 0).drop 0 = s.data.toList := rfl
set_option maxRecDepth 100000 in
set_option maxHeartbeats 2000000 in
theorem readX_good {Tabs : World → Prop} {B0 : Nat} (H : TK Tabs B0) (tb : Nat) (s : ByteArray) (w : World) (hT : Tabs w) (hz : ZE w tb) (h2 : s.size ≤ 2000) (x : Ex) (hX : rdX rdZ (2 * s.size + 3) (some 1) (skB s.data.toList) = .ok (x, [])) (hc : chkX x = 0) : Calls Tryz.prog 12 #[.string s, .string ⟨#[32]⟩, .int .i64 0, .func (.func 13) #[] #[.pointer (some ⟨tb, 0, none⟩)]] w fun e w' => e = .returned (.agg #[.int .i64 0, .int .i64 0]) ∧ InXb w tb x w' ∧ FR tb w w' := by
  have hmf : ∀ (fn : Fn) (first cap : Array Value) (w : World), (Instr.makeFunc fn first cap).run Tryz.prog w = .ok (.func fn first cap) w := fun _ _ _ _ => rfl
  have hs2 : ¬ (s.size : Int) > 2000 := by omega
  have hmin : min 0 (s.size : Int) = 0 := by omega
  have hzl := hz.lt
  have hB : B0 ≤ w.heap.size + 1 := Nat.le_trans (H.b0 w hT) (Nat.le_succ _)
  have cP := pass_any (w.heap.size + 1) 0 0 s (rdWX w s) (rdWX_rs w s h2) (by omega)
  rw [rsX_all] at cP
  have HT := hideK (H.f hB _ _ hT (rdWX_fr w s (w.heap.size + 1)))
  have HF := hideK (rdWX_fr1 w s tb)
  have HZ := hideK (hz.keepF (rdWX_fr w s (w.heap.size + 1)) (by omega))
  simp only [rdWX] at cP HF HZ HT
  go_enter_defers Tryz.func12, Tryz.ntmps12
  go_wp2_with fail
  refine cP.mono ?_
  rintro e w1 ⟨rfl, ⟨q, hq, hl⟩, hf1⟩
  have HF1 := hideK (HF.out.viaX hf1 (by simp))
  have HZ1 := hideK (HZ.out.keepF hf1 (by omega))
  have HT1 := hideK (H.f hB _ _ HT.out hf1)
  rw [← hl] at hX
  go_wp2_with fail
  refine (parseX1_good H (w.heap.size + 1) tb q s _ w1 HT1.out hB hq HZ1.out (by omega) HF1.out (by simp) (Nat.lt_succ_self _) hX hc).mono ?_
  rintro e w2 ⟨rfl, ht2, hf2⟩
  obtain ⟨bl, b0, b1, g0, g1⟩ := (al_fbX w).keep hf2 (by omega)
  go_wp2_with fail
  have B9 := st2X_at ((al_fbX w).keep hf2 (by omega)) 0 0
  have F9 := hideK (((FR.al (pb := tb) _).trans hf2).st2X (Nat.le_refl _) 0 0)
  have T9 := hideK (ht2.st2X (w := w) (b := w.heap.size) (by have := hf1.size; simp at this; omega) (by have := hf1.size; simp at this; omega) (by omega) 0 0)
  change bodyPostD _ _ _ _ _ (st2X w2 w.heap.size 0 0)
  generalize st2X w2 w.heap.size 0 0 = W9 at B9 F9 T9 ⊢
  obtain ⟨_, r0, r1, _, _⟩ := B9
  refine leaves_cons (f := 29) (args := #[.pointer (some ⟨w.heap.size, 0, none⟩)]) (by simp) (by simp [go_sem]) ?_
  refine (catch_none w.heap.size _).mono ?_
  rintro e u' w3 ⟨rfl, rfl, rfl⟩
  refine ⟨.agg #[.int .i64 0, .int .i64 0], by simp [results, Tryz.results12, go_sem, r0, r1], rfl, T9.out, F9.out⟩
set_option maxRecDepth 100000 in
set_option maxHeartbeats 2000000 in
theorem readX_bad {Tabs : World → Prop} {B0 : Nat} (H : TK Tabs B0) (tb : Nat) (s : ByteArray) (w : World) (hT : Tabs w) (hz : ZE w tb) (h2 : s.size ≤ 2000) (c : Int) (r : List UInt8) (hX : rdX rdZ (2 * s.size + 3) (some 1) (skB s.data.toList) = .error (c, r)) : Calls Tryz.prog 12 #[.string s, .string ⟨#[32]⟩, .int .i64 0, .func (.func 13) #[] #[.pointer (some ⟨tb, 0, none⟩)]] w fun e w' => e = .returned (.agg #[.int .i64 (c), .int .i64 (((s.size - r.length : Nat) : Int))]) ∧ FR tb w w' ∧ ZE w' tb := by
  have hmf : ∀ (fn : Fn) (first cap : Array Value) (w : World), (Instr.makeFunc fn first cap).run Tryz.prog w = .ok (.func fn first cap) w := fun _ _ _ _ => rfl
  have hs2 : ¬ (s.size : Int) > 2000 := by omega
  have hmin : min 0 (s.size : Int) = 0 := by omega
  have hzl := hz.lt
  have hB : B0 ≤ w.heap.size + 1 := Nat.le_trans (H.b0 w hT) (Nat.le_succ _)
  have cP := pass_any (w.heap.size + 1) 0 0 s (rdWX w s) (rdWX_rs w s h2) (by omega)
  rw [rsX_all] at cP
  have HT := hideK (H.f hB _ _ hT (rdWX_fr w s (w.heap.size + 1)))
  have HF := hideK (rdWX_fr1 w s tb)
  have HZ := hideK (hz.keepF (rdWX_fr w s (w.heap.size + 1)) (by omega))
  simp only [rdWX] at cP HF HZ HT
  go_enter_defers Tryz.func12, Tryz.ntmps12
  go_wp2_with fail
  refine cP.mono ?_
  rintro e w1 ⟨rfl, ⟨q, hq, hl⟩, hf1⟩
  have HF1 := hideK (HF.out.viaX hf1 (by simp))
  have HZ1 := hideK (HZ.out.keepF hf1 (by omega))
  have HT1 := hideK (H.f hB _ _ HT.out hf1)
  rw [← hl] at hX
  go_wp2_with fail
  refine (parseX1_bad H (w.heap.size + 1) tb q s _ w1 HT1.out hB hq HZ1.out (by omega) HF1.out (by simp) (Nat.lt_succ_self _) hX).mono ?_
  rintro e w2 ⟨rfl, hf2, hz2⟩
  have B2 := hideK ((al_fbX w).keep hf2 (by omega))
  have F2 := hideK ((FR.al (pb := tb) _).trans hf2)
  unfold thrownC
  go_wp2_with fail
  have B9 := st2X_at B2.out (c) (((s.size - r.length : Nat) : Int))
  have F9 := hideK (F2.out.st2X (Nat.le_refl _) (c) (((s.size - r.length : Nat) : Int)))
  have Z9 := hideK (hz2.st2X (b := w.heap.size) (by omega) (c) (((s.size - r.length : Nat) : Int)))
  refine leaves_cons (f := 29) (args := #[.pointer (some ⟨w.heap.size, 0, none⟩)]) (by simp) (by simp [go_sem]) ?_
  refine (catch_thrown w.heap.size (c) (((s.size - r.length : Nat) : Int)) 0 0 [] w2 B2.out.c0 B2.out.c1 B2.out.f0 B2.out.f1).mono ?_
  rintro e u' w3 ⟨rfl, rfl, rfl⟩
  change Leaves _ _ _ _ [] .returning (st2X w2 w.heap.size (c) (((s.size - r.length : Nat) : Int)))
  generalize st2X w2 w.heap.size (c) (((s.size - r.length : Nat) : Int)) = W9 at B9 F9 Z9 ⊢
  obtain ⟨_, r0, r1, _, _⟩ := B9
  exact ⟨.agg #[.int .i64 (c), .int .i64 (((s.size - r.length : Nat) : Int))], by simp [results, Tryz.results12, go_sem, r0, r1], rfl, F9.out, Z9.out⟩
set_option maxRecDepth 100000 in
set_option maxHeartbeats 2000000 in
theorem readX_more {Tabs : World → Prop} {B0 : Nat} (H : TK Tabs B0) (tb : Nat) (s : ByteArray) (w : World) (hT : Tabs w) (hz : ZE w tb) (h2 : s.size ≤ 2000) (x : Ex) (r : List UInt8) (hX : rdX rdZ (2 * s.size + 3) (some 1) (skB s.data.toList) = .ok (x, r)) (hr : r ≠ []) : Calls Tryz.prog 12 #[.string s, .string ⟨#[32]⟩, .int .i64 0, .func (.func 13) #[] #[.pointer (some ⟨tb, 0, none⟩)]] w fun e w' => e = .returned (.agg #[.int .i64 (3), .int .i64 (((s.size - r.length : Nat) : Int))]) ∧ FR tb w w' ∧ ZE w' tb := by
  have hmf : ∀ (fn : Fn) (first cap : Array Value) (w : World), (Instr.makeFunc fn first cap).run Tryz.prog w = .ok (.func fn first cap) w := fun _ _ _ _ => rfl
  have hs2 : ¬ (s.size : Int) > 2000 := by omega
  have hmin : min 0 (s.size : Int) = 0 := by omega
  have hzl := hz.lt
  have hB : B0 ≤ w.heap.size + 1 := Nat.le_trans (H.b0 w hT) (Nat.le_succ _)
  have cP := pass_any (w.heap.size + 1) 0 0 s (rdWX w s) (rdWX_rs w s h2) (by omega)
  rw [rsX_all] at cP
  have HT := hideK (H.f hB _ _ hT (rdWX_fr w s (w.heap.size + 1)))
  have HF := hideK (rdWX_fr1 w s tb)
  have HZ := hideK (hz.keepF (rdWX_fr w s (w.heap.size + 1)) (by omega))
  simp only [rdWX] at cP HF HZ HT
  go_enter_defers Tryz.func12, Tryz.ntmps12
  go_wp2_with fail
  refine cP.mono ?_
  rintro e w1 ⟨rfl, ⟨q, hq, hl⟩, hf1⟩
  have HF1 := hideK (HF.out.viaX hf1 (by simp))
  have HZ1 := hideK (HZ.out.keepF hf1 (by omega))
  have HT1 := hideK (H.f hB _ _ HT.out hf1)
  rw [← hl] at hX
  go_wp2_with fail
  refine (parseX1_more H (w.heap.size + 1) tb q s _ w1 HT1.out hB hq HZ1.out (by omega) HF1.out (by simp) (Nat.lt_succ_self _) hX hr).mono ?_
  rintro e w2 ⟨rfl, hf2, hz2⟩
  have B2 := hideK ((al_fbX w).keep hf2 (by omega))
  have F2 := hideK ((FR.al (pb := tb) _).trans hf2)
  unfold thrownC
  go_wp2_with fail
  have B9 := st2X_at B2.out (3) (((s.size - r.length : Nat) : Int))
  have F9 := hideK (F2.out.st2X (Nat.le_refl _) (3) (((s.size - r.length : Nat) : Int)))
  have Z9 := hideK (hz2.st2X (b := w.heap.size) (by omega) (3) (((s.size - r.length : Nat) : Int)))
  refine leaves_cons (f := 29) (args := #[.pointer (some ⟨w.heap.size, 0, none⟩)]) (by simp) (by simp [go_sem]) ?_
  refine (catch_thrown w.heap.size (3) (((s.size - r.length : Nat) : Int)) 0 0 [] w2 B2.out.c0 B2.out.c1 B2.out.f0 B2.out.f1).mono ?_
  rintro e u' w3 ⟨rfl, rfl, rfl⟩
  change Leaves _ _ _ _ [] .returning (st2X w2 w.heap.size (3) (((s.size - r.length : Nat) : Int)))
  generalize st2X w2 w.heap.size (3) (((s.size - r.length : Nat) : Int)) = W9 at B9 F9 Z9 ⊢
  obtain ⟨_, r0, r1, _, _⟩ := B9
  exact ⟨.agg #[.int .i64 (3), .int .i64 (((s.size - r.length : Nat) : Int))], by simp [results, Tryz.results12, go_sem, r0, r1], rfl, F9.out, Z9.out⟩
set_option maxRecDepth 100000 in
set_option maxHeartbeats 2000000 in
theorem readX_wrong {Tabs : World → Prop} {B0 : Nat} (H : TK Tabs B0) (tb : Nat) (s : ByteArray) (w : World) (hT : Tabs w) (hz : ZE w tb) (h2 : s.size ≤ 2000) (x : Ex) (hX : rdX rdZ (2 * s.size + 3) (some 1) (skB s.data.toList) = .ok (x, [])) (hc : chkX x ≠ 0) : Calls Tryz.prog 12 #[.string s, .string ⟨#[32]⟩, .int .i64 0, .func (.func 13) #[] #[.pointer (some ⟨tb, 0, none⟩)]] w fun e w' => e = .returned (.agg #[.int .i64 (chkX x), .int .i64 (0)]) ∧ FR tb w w' ∧ ZE w' tb := by
  have hmf : ∀ (fn : Fn) (first cap : Array Value) (w : World), (Instr.makeFunc fn first cap).run Tryz.prog w = .ok (.func fn first cap) w := fun _ _ _ _ => rfl
  have hs2 : ¬ (s.size : Int) > 2000 := by omega
  have hmin : min 0 (s.size : Int) = 0 := by omega
  have hzl := hz.lt
  have hB : B0 ≤ w.heap.size + 1 := Nat.le_trans (H.b0 w hT) (Nat.le_succ _)
  have cP := pass_any (w.heap.size + 1) 0 0 s (rdWX w s) (rdWX_rs w s h2) (by omega)
  rw [rsX_all] at cP
  have HT := hideK (H.f hB _ _ hT (rdWX_fr w s (w.heap.size + 1)))
  have HF := hideK (rdWX_fr1 w s tb)
  have HZ := hideK (hz.keepF (rdWX_fr w s (w.heap.size + 1)) (by omega))
  simp only [rdWX] at cP HF HZ HT
  go_enter_defers Tryz.func12, Tryz.ntmps12
  go_wp2_with fail
  refine cP.mono ?_
  rintro e w1 ⟨rfl, ⟨q, hq, hl⟩, hf1⟩
  have HF1 := hideK (HF.out.viaX hf1 (by simp))
  have HZ1 := hideK (HZ.out.keepF hf1 (by omega))
  have HT1 := hideK (H.f hB _ _ HT.out hf1)
  rw [← hl] at hX
  go_wp2_with fail
  refine (parseX1_wrong H (w.heap.size + 1) tb q s _ w1 HT1.out hB hq HZ1.out (by omega) HF1.out (by simp) (Nat.lt_succ_self _) hX hc).mono ?_
  rintro e w2 ⟨rfl, hf2, hz2⟩
  have B2 := hideK ((al_fbX w).keep hf2 (by omega))
  have F2 := hideK ((FR.al (pb := tb) _).trans hf2)
  unfold faultX
  go_wp2_with fail
  have B9 := st2X_at B2.out (chkX x) (0)
  have F9 := hideK (F2.out.st2X (Nat.le_refl _) (chkX x) (0))
  have Z9 := hideK (hz2.st2X (b := w.heap.size) (by omega) (chkX x) (0))
  refine leaves_cons (f := 29) (args := #[.pointer (some ⟨w.heap.size, 0, none⟩)]) (by simp) (by simp [go_sem]) ?_
  refine (catch_thrown w.heap.size (chkX x) (0) 0 0 [] w2 B2.out.c0 B2.out.c1 B2.out.f0 B2.out.f1).mono ?_
  rintro e u' w3 ⟨rfl, rfl, rfl⟩
  change Leaves _ _ _ _ [] .returning (st2X w2 w.heap.size (chkX x) (0))
  generalize st2X w2 w.heap.size (chkX x) (0) = W9 at B9 F9 Z9 ⊢
  obtain ⟨_, r0, r1, _, _⟩ := B9
  exact ⟨.agg #[.int .i64 (chkX x), .int .i64 (0)], by simp [results, Tryz.results12, go_sem, r0, r1], rfl, F9.out, Z9.out⟩
set_option maxRecDepth 100000 in
set_option maxHeartbeats 2000000 in
theorem readX_large (tb : Nat) (s : ByteArray) (w : World) (hz : ZE w tb) (h2 : 2000 < s.size) : Calls Tryz.prog 12 #[.string s, .string ⟨#[32]⟩, .int .i64 0, .func (.func 13) #[] #[.pointer (some ⟨tb, 0, none⟩)]] w fun e w' => e = .returned (.agg #[.int .i64 2, .int .i64 0]) ∧ FR tb w w' ∧ ZE w' tb := by
  have hmf : ∀ (fn : Fn) (first cap : Array Value) (w : World), (Instr.makeFunc fn first cap).run Tryz.prog w = .ok (.func fn first cap) w := fun _ _ _ _ => rfl
  have hs2 : (s.size : Int) > 2000 := by omega
  have hzl := hz.lt
  have B9 : FBX (w.alloc (.cells #[.int .i64 2, .int .i64 0] 31)) w.heap.size 2 0 := ⟨by simp, by go_cell, by go_cell, by go_simp, by go_simp⟩
  have F9 := hideK (FR.al (pb := tb) (w := w) (.cells #[.int .i64 2, .int .i64 0] 31))
  have Z9 := hideK (hz.keepF (FR.al (pb := w.heap.size) (w := w) (.cells #[.int .i64 2, .int .i64 0] 31)) (by omega))
  go_enter_defers Tryz.func12, Tryz.ntmps12
  go_wp2_with fail
  generalize w.alloc (.cells #[.int .i64 2, .int .i64 0] 31) = W9 at B9 F9 Z9 ⊢
  obtain ⟨_, r0, r1, _, _⟩ := B9
  refine leaves_cons (f := 29) (args := #[.pointer (some ⟨w.heap.size, 0, none⟩)]) (by simp) (by simp [go_sem]) ?_
  refine (catch_none w.heap.size _).mono ?_
  rintro e u' w3 ⟨rfl, rfl, rfl⟩
  exact ⟨.agg #[.int .i64 2, .int .i64 0], by simp [results, Tryz.results12, go_sem, r0, r1], rfl, F9.out, Z9.out⟩
/-- what Read leaves: the expression in its block, or the fault -/
def XPost (w : World) (tb : Nat) (x : Except (Int × Nat) Ex) (e : Ending) (w' : World) : Prop :=
  match x with
  | .ok x => e = .returned (.agg #[.int .i64 0, .int .i64 0]) ∧ InXb w tb x w' ∧ FR tb w w'
  | .error (c, a) => e = .returned (.agg #[.int .i64 c, .int .i64 (a : Int)]) ∧ FR tb w w' ∧ ZE w' tb
theorem readX_any {Tabs : World → Prop} {B0 : Nat} (H : TK Tabs B0) (tb : Nat) (s : ByteArray) (w : World) (hT : Tabs w) (hz : ZE w tb) : Calls Tryz.prog 12 #[.string s, .string ⟨#[32]⟩, .int .i64 0, .func (.func 13) #[] #[.pointer (some ⟨tb, 0, none⟩)]] w fun e w' => XPost w tb (psX s.data.toList) e w' := by
  have hsz : s.data.toList.length = s.size := by simp
  unfold psX
  by_cases h2 : 2000 < s.size
  · rw [if_pos (by rw [hsz]; exact h2)]
    exact readX_large tb s w hz h2
  · rw [if_neg (by rw [hsz]; exact h2)]
    simp only [hsz]
    cases hX : rdX rdZ (2 * s.size + 3) (some 1) (skB s.data.toList) with
    | error y =>
      obtain ⟨c, r⟩ := y
      exact readX_bad H tb s w hT hz (by omega) c r hX
    | ok y =>
      obtain ⟨x, r⟩ := y
      simp only
      by_cases hr : r = []
      · subst hr
        rw [if_pos rfl]
        by_cases hc : chkX x = 0
        · rw [if_pos hc]
          exact readX_good H tb s w hT hz (by omega) x hX hc
        · rw [if_neg hc]
          exact readX_wrong H tb s w hT hz (by omega) x hX hc
      · rw [if_neg hr]
        exact readX_more H tb s w hT hz (by omega) x r hX hr
end Go.Proofs.YtkacnpgokghhcaaGreatDoor
