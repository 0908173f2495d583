/-
  The contracts of pieces.Read as types.Parse calls it, and of types.Parse, for every text.
-/
import Derived.Test.YthamkbahiidenaaDoorKv
namespace Go.Proofs.YthamkbahiidenaaDoor
open Go.RowKit Go.Shelf
/-- the world in which a reading begins -/
def rdW (w : World) (s : ByteArray) : World := (w.alloc (.cells #[.int .i64 0, .int .i64 0] 30)).alloc (.cells #[.string s, .string ⟨#[32]⟩, .int .i64 0] 70)
theorem rdW_rs (w : World) (s : ByteArray) (h : s.size ≤ 2000) : RS (rdW w s) (w.heap.size + 1) s 0 := by
  unfold rdW
  exact ⟨by go_cell, by go_cell, by go_cell, by go_simp, Nat.zero_le _, h⟩
theorem rdW_fr (w : World) (s : ByteArray) (tb : Nat) : FR tb w (rdW w s) := (FR.al _).trans (FR.al _)
theorem rdW_fr1 (w : World) (s : ByteArray) (tb : Nat) : FR tb (w.alloc (.cells #[.int .i64 0, .int .i64 0] 30)) (rdW w s) := FR.al _
/-- the block of the fault that is told -/
structure FB (W : World) (b : Nat) (c a : Int) : Prop where
  lt : b < W.heap.size
  c0 : W.cell? ⟨b, 0, none⟩ = some (.int .i64 c)
  c1 : W.cell? ⟨b, 1, none⟩ = some (.int .i64 a)
  f0 : W.frozen? ⟨b, 0, none⟩ = false
  f1 : W.frozen? ⟨b, 1, none⟩ = false
theorem FB.keep {W W' : World} {pb b : Nat} {c a : Int} (h : FB W b c a) (hf : FR pb W W') (hn : b ≠ pb) : FB W' b c a :=
  ⟨Nat.lt_of_lt_of_le h.lt hf.size, (hf.cellO h.lt hn).trans h.c0, (hf.cellO h.lt hn).trans h.c1, (hf.frozenO h.lt hn).trans h.f0, (hf.frozenO h.lt hn).trans h.f1⟩
theorem al_fb (w : World) : FB (w.alloc (.cells #[.int .i64 0, .int .i64 0] 30)) w.heap.size 0 0 := ⟨by simp, by go_cell, by go_cell, by go_simp, by go_simp⟩
/-- the fault's two cells, stored one after the other -/
def st2 (W : World) (b : Nat) (c a : Int) : World := (W.setCell ⟨b, 0, none⟩ (.int .i64 c)).setCell ⟨b, 1, none⟩ (.int .i64 a)
theorem st2_other (W : World) (b : Nat) (c a : Int) (b' o : Nat) (h : b' ≠ b) : (st2 W b c a).cell? ⟨b', o, none⟩ = W.cell? ⟨b', o, none⟩ := by
  unfold st2
  rw [World.cell?_setCell_other _ _ _ _ (by intro e; simp only [Addr.mk.injEq] at e; omega), World.cell?_setCell_other _ _ _ _ (by intro e; simp only [Addr.mk.injEq] at e; omega)]
theorem st2_frozen (W : World) (b : Nat) (c a : Int) (p : Addr) : (st2 W b c a).frozen? p = W.frozen? p := by unfold st2; simp only [World.frozen?_setCell]
theorem st2_size (W : World) (b : Nat) (c a : Int) : (st2 W b c a).heap.size = W.heap.size := by unfold st2; simp
theorem st2_at {W : World} {b : Nat} {c0 a0 : Int} (h : FB W b c0 a0) (c a : Int) : FB (st2 W b c a) b c a := by
  obtain ⟨hl, h0, h1, f0, f1⟩ := h
  exact ⟨by rw [st2_size]; exact hl, by unfold st2; go_cell, by unfold st2; go_cell, by rw [st2_frozen]; exact f0, by rw [st2_frozen]; exact f1⟩
theorem FR.st2 {tb b : Nat} {w W : World} (h : FR tb w W) (hb : w.heap.size ≤ b) (c a : Int) : FR tb w (st2 W b c a) := by
  unfold Go.Proofs.YthamkbahiidenaaDoor.st2
  exact (h.setN hb _).setN hb _
theorem ZT.st2 {W : World} {tb b : Nat} (h : ZT W tb) (hn : tb ≠ b) (c a : Int) : ZT (st2 W b c a) tb :=
  ⟨by rw [st2_size]; exact h.lt, (st2_other _ _ _ _ _ _ hn).trans h.c0, (st2_other _ _ _ _ _ _ hn).trans h.c1, (st2_other _ _ _ _ _ _ hn).trans h.c2, (st2_other _ _ _ _ _ _ hn).trans h.c3, (st2_other _ _ _ _ _ _ hn).trans h.c4, by rw [st2_frozen]; exact h.f0, by rw [st2_frozen]; exact h.f1, by rw [st2_frozen]; exact h.f2, by rw [st2_frozen]; exact h.f3, by rw [st2_frozen]; exact h.f4⟩
theorem InTb.st2 {w w1 W : World} {tb b : Nat} {t : Ty} (h : InTb w1 tb t W) (hw : w.heap.size ≤ w1.heap.size) (hb : b < w1.heap.size) (hn : tb ≠ b) (c a : Int) : InTb w tb t (st2 W b c a) := by
  obtain ⟨al, cl, ak, ck, h1, h2, h3⟩ := h
  have hk : ∀ b' o, NW w1 W b' → (Go.Proofs.YthamkbahiidenaaDoor.st2 W b c a).cell? ⟨b', o, none⟩ = W.cell? ⟨b', o, none⟩ := fun b' o hb' => st2_other _ _ _ _ _ _ (by have := hb'.1; omega)
  have hq : ∀ b', NW w1 W b' → NW w (Go.Proofs.YthamkbahiidenaaDoor.st2 W b c a) b' := fun b' hb' => ⟨Nat.le_trans hw hb'.1, by rw [st2_size]; exact hb'.2⟩
  exact ⟨al, cl, ak, ck, ⟨(st2_other _ _ _ _ _ _ hn).trans h1.c0, (st2_other _ _ _ _ _ _ hn).trans h1.c1, (st2_other _ _ _ _ _ _ hn).trans h1.c2, (st2_other _ _ _ _ _ _ hn).trans h1.c3, (st2_other _ _ _ _ _ _ hn).trans h1.c4⟩, ⟨h2.bd, h2.la.keep hk hq, h2.ka.keep hk hq⟩, fun o ho => by rw [st2_frozen]; exact h3 o ho⟩
theorem rs_all (s : ByteArray) : (rs s 0).drop 0 = s.data.toList := rfl
set_option maxRecDepth 100000 in
set_option maxHeartbeats 2000000 in
theorem readP_good (tb : Nat) (s : ByteArray) (w : World) (hz : ZT w tb) (h2 : s.size ≤ 2000) (t : Ty) (hT : rdT 2001 (skB s.data.toList) = .ok (t, [])) (hc : chkTy t = 0) : Calls Tryd.prog 15 #[.string s, .string ⟨#[32]⟩, .int .i64 0, .func (.func 16) #[] #[.pointer (some ⟨tb, 0, none⟩)]] w fun e w' =>  e = .returned (.agg #[.int .i64 0, .int .i64 0]) ∧ InTb w tb t w' ∧ FR tb w w' := by
  have hmf : ∀ (fn : Fn) (first cap : Array Value) (w : World), (Instr.makeFunc fn first cap).run Tryd.prog w = .ok (.func fn first cap) w := fun _ _ _ _ => rfl
  have hs2 : ¬ (s.size : Int) > 2000 := by omega
  have hmin : min 0 (s.size : Int) = 0 := by omega
  have hzl := hz.lt
  have cP := pass_any (w.heap.size + 1) 0 0 s (rdW w s) (rdW_rs w s h2) (by omega)
  rw [rs_all] at cP
  have HF := hideK (rdW_fr1 w s tb)
  have HZ := hideK (hz.keep (rdW_fr w s (w.heap.size + 1)) (by omega))
  simp only [rdW] at cP HF HZ
  go_enter_defers Tryd.func15, Tryd.ntmps15
  go_wp2_with fail
  refine cP.mono ?_
  rintro e w1 ⟨rfl, ⟨q, hq, hl⟩, hf1⟩
  have HF1 := hideK (HF.out.via hf1 (by simp))
  have HZ1 := hideK (HZ.out.keep hf1 (by omega))
  rw [← hl] at hT
  go_wp2_with fail
  refine (parse1_good (w.heap.size + 1) tb q s _ w1 hq HZ1.out (by omega) HF1.out (by simp) hT hc).mono ?_
  rintro e w2 ⟨rfl, ht2, hf2⟩
  obtain ⟨bl, b0, b1, g0, g1⟩ := (al_fb w).keep hf2 (by omega)
  go_wp2_with fail
  have B9 := st2_at ((al_fb w).keep hf2 (by omega)) 0 0
  have F9 := hideK (((FR.al (pb := tb) _).trans hf2).st2 (Nat.le_refl _) 0 0)
  have T9 := hideK (ht2.st2 (w := w) (b := w.heap.size) (by have := hf1.size; simp at this; omega) (by have := hf1.size; simp at this; omega) (by omega) 0 0)
  change bodyPostD _ _ _ _ _ (st2 w2 w.heap.size 0 0)
  generalize st2 w2 w.heap.size 0 0 = W9 at B9 F9 T9 ⊢
  obtain ⟨_, r0, r1, _, _⟩ := B9
  refine leaves_cons (f := 31) (args := #[.pointer (some ⟨w.heap.size, 0, none⟩)]) (by simp) (by simp [go_sem]) ?_
  refine (catch_none w.heap.size _).mono ?_
  rintro e u' w3 ⟨rfl, rfl, rfl⟩
  refine ⟨.agg #[.int .i64 0, .int .i64 0], by simp [results, Tryd.results15, go_sem, r0, r1], rfl, T9.out, F9.out⟩
set_option maxRecDepth 100000 in
set_option maxHeartbeats 2000000 in
theorem readP_bad (tb : Nat) (s : ByteArray) (w : World) (hz : ZT w tb) (h2 : s.size ≤ 2000) (r : List UInt8) (hT : rdT 2001 (skB s.data.toList) = .error r) : Calls Tryd.prog 15 #[.string s, .string ⟨#[32]⟩, .int .i64 0, .func (.func 16) #[] #[.pointer (some ⟨tb, 0, none⟩)]] w fun e w' =>  e = .returned (.agg #[.int .i64 (3), .int .i64 (((s.size - r.length : Nat) : Int))]) ∧ FR tb w w' ∧ ZT w' tb := by
  have hmf : ∀ (fn : Fn) (first cap : Array Value) (w : World), (Instr.makeFunc fn first cap).run Tryd.prog w = .ok (.func fn first cap) w := fun _ _ _ _ => rfl
  have hs2 : ¬ (s.size : Int) > 2000 := by omega
  have hmin : min 0 (s.size : Int) = 0 := by omega
  have hzl := hz.lt
  have cP := pass_any (w.heap.size + 1) 0 0 s (rdW w s) (rdW_rs w s h2) (by omega)
  rw [rs_all] at cP
  have HF := hideK (rdW_fr1 w s tb)
  have HZ := hideK (hz.keep (rdW_fr w s (w.heap.size + 1)) (by omega))
  simp only [rdW] at cP HF HZ
  go_enter_defers Tryd.func15, Tryd.ntmps15
  go_wp2_with fail
  refine cP.mono ?_
  rintro e w1 ⟨rfl, ⟨q, hq, hl⟩, hf1⟩
  have HF1 := hideK (HF.out.via hf1 (by simp))
  have HZ1 := hideK (HZ.out.keep hf1 (by omega))
  rw [← hl] at hT
  go_wp2_with fail
  refine (parse1_bad (w.heap.size + 1) tb q s _ w1 hq HZ1.out (by omega) HF1.out (by simp) hT).mono ?_
  rintro e w2 ⟨rfl, hf2, hz2⟩
  have B2 := hideK ((al_fb w).keep hf2 (by omega))
  have F2 := hideK ((FR.al (pb := tb) _).trans hf2)
  unfold thrown
  go_wp2_with fail
  have B9 := st2_at B2.out (3) (((s.size - r.length : Nat) : Int))
  have F9 := hideK (F2.out.st2 (Nat.le_refl _) (3) (((s.size - r.length : Nat) : Int)))
  have Z9 := hideK (hz2.st2 (b := w.heap.size) (by omega) (3) (((s.size - r.length : Nat) : Int)))
  refine leaves_cons (f := 31) (args := #[.pointer (some ⟨w.heap.size, 0, none⟩)]) (by simp) (by simp [go_sem]) ?_
  refine (catch_thrown w.heap.size (3) (((s.size - r.length : Nat) : Int)) 0 0 [] w2 B2.out.c0 B2.out.c1 B2.out.f0 B2.out.f1).mono ?_
  rintro e u' w3 ⟨rfl, rfl, rfl⟩
  change Leaves _ _ _ _ [] .returning (st2 w2 w.heap.size (3) (((s.size - r.length : Nat) : Int)))
  generalize st2 w2 w.heap.size (3) (((s.size - r.length : Nat) : Int)) = W9 at B9 F9 Z9 ⊢
  obtain ⟨_, r0, r1, _, _⟩ := B9
  exact ⟨.agg #[.int .i64 (3), .int .i64 (((s.size - r.length : Nat) : Int))], by simp [results, Tryd.results15, go_sem, r0, r1], rfl, F9.out, Z9.out⟩
set_option maxRecDepth 100000 in
set_option maxHeartbeats 2000000 in
theorem readP_more (tb : Nat) (s : ByteArray) (w : World) (hz : ZT w tb) (h2 : s.size ≤ 2000) (t : Ty) (r : List UInt8) (hT : rdT 2001 (skB s.data.toList) = .ok (t, r)) (hr : r ≠ []) : Calls Tryd.prog 15 #[.string s, .string ⟨#[32]⟩, .int .i64 0, .func (.func 16) #[] #[.pointer (some ⟨tb, 0, none⟩)]] w fun e w' =>  e = .returned (.agg #[.int .i64 (3), .int .i64 (((s.size - r.length : Nat) : Int))]) ∧ FR tb w w' ∧ ZT w' tb := by
  have hmf : ∀ (fn : Fn) (first cap : Array Value) (w : World), (Instr.makeFunc fn first cap).run Tryd.prog w = .ok (.func fn first cap) w := fun _ _ _ _ => rfl
  have hs2 : ¬ (s.size : Int) > 2000 := by omega
  have hmin : min 0 (s.size : Int) = 0 := by omega
  have hzl := hz.lt
  have cP := pass_any (w.heap.size + 1) 0 0 s (rdW w s) (rdW_rs w s h2) (by omega)
  rw [rs_all] at cP
  have HF := hideK (rdW_fr1 w s tb)
  have HZ := hideK (hz.keep (rdW_fr w s (w.heap.size + 1)) (by omega))
  simp only [rdW] at cP HF HZ
  go_enter_defers Tryd.func15, Tryd.ntmps15
  go_wp2_with fail
  refine cP.mono ?_
  rintro e w1 ⟨rfl, ⟨q, hq, hl⟩, hf1⟩
  have HF1 := hideK (HF.out.via hf1 (by simp))
  have HZ1 := hideK (HZ.out.keep hf1 (by omega))
  rw [← hl] at hT
  go_wp2_with fail
  refine (parse1_more (w.heap.size + 1) tb q s _ w1 hq HZ1.out (by omega) HF1.out (by simp) hT hr).mono ?_
  rintro e w2 ⟨rfl, hf2, hz2⟩
  have B2 := hideK ((al_fb w).keep hf2 (by omega))
  have F2 := hideK ((FR.al (pb := tb) _).trans hf2)
  unfold thrown
  go_wp2_with fail
  have B9 := st2_at B2.out (3) (((s.size - r.length : Nat) : Int))
  have F9 := hideK (F2.out.st2 (Nat.le_refl _) (3) (((s.size - r.length : Nat) : Int)))
  have Z9 := hideK (hz2.st2 (b := w.heap.size) (by omega) (3) (((s.size - r.length : Nat) : Int)))
  refine leaves_cons (f := 31) (args := #[.pointer (some ⟨w.heap.size, 0, none⟩)]) (by simp) (by simp [go_sem]) ?_
  refine (catch_thrown w.heap.size (3) (((s.size - r.length : Nat) : Int)) 0 0 [] w2 B2.out.c0 B2.out.c1 B2.out.f0 B2.out.f1).mono ?_
  rintro e u' w3 ⟨rfl, rfl, rfl⟩
  change Leaves _ _ _ _ [] .returning (st2 w2 w.heap.size (3) (((s.size - r.length : Nat) : Int)))
  generalize st2 w2 w.heap.size (3) (((s.size - r.length : Nat) : Int)) = W9 at B9 F9 Z9 ⊢
  obtain ⟨_, r0, r1, _, _⟩ := B9
  exact ⟨.agg #[.int .i64 (3), .int .i64 (((s.size - r.length : Nat) : Int))], by simp [results, Tryd.results15, go_sem, r0, r1], rfl, F9.out, Z9.out⟩
set_option maxRecDepth 100000 in
set_option maxHeartbeats 2000000 in
theorem readP_wrong (tb : Nat) (s : ByteArray) (w : World) (hz : ZT w tb) (h2 : s.size ≤ 2000) (t : Ty) (hT : rdT 2001 (skB s.data.toList) = .ok (t, [])) (hc : chkTy t ≠ 0) : Calls Tryd.prog 15 #[.string s, .string ⟨#[32]⟩, .int .i64 0, .func (.func 16) #[] #[.pointer (some ⟨tb, 0, none⟩)]] w fun e w' =>  e = .returned (.agg #[.int .i64 (chkTy t), .int .i64 (0)]) ∧ FR tb w w' ∧ ZT w' tb := by
  have hmf : ∀ (fn : Fn) (first cap : Array Value) (w : World), (Instr.makeFunc fn first cap).run Tryd.prog w = .ok (.func fn first cap) w := fun _ _ _ _ => rfl
  have hs2 : ¬ (s.size : Int) > 2000 := by omega
  have hmin : min 0 (s.size : Int) = 0 := by omega
  have hzl := hz.lt
  have cP := pass_any (w.heap.size + 1) 0 0 s (rdW w s) (rdW_rs w s h2) (by omega)
  rw [rs_all] at cP
  have HF := hideK (rdW_fr1 w s tb)
  have HZ := hideK (hz.keep (rdW_fr w s (w.heap.size + 1)) (by omega))
  simp only [rdW] at cP HF HZ
  go_enter_defers Tryd.func15, Tryd.ntmps15
  go_wp2_with fail
  refine cP.mono ?_
  rintro e w1 ⟨rfl, ⟨q, hq, hl⟩, hf1⟩
  have HF1 := hideK (HF.out.via hf1 (by simp))
  have HZ1 := hideK (HZ.out.keep hf1 (by omega))
  rw [← hl] at hT
  go_wp2_with fail
  refine (parse1_wrong (w.heap.size + 1) tb q s _ w1 hq HZ1.out (by omega) HF1.out (by simp) hT hc).mono ?_
  rintro e w2 ⟨rfl, hf2, hz2⟩
  have B2 := hideK ((al_fb w).keep hf2 (by omega))
  have F2 := hideK ((FR.al (pb := tb) _).trans hf2)
  unfold faultE
  go_wp2_with fail
  have B9 := st2_at B2.out (chkTy t) (0)
  have F9 := hideK (F2.out.st2 (Nat.le_refl _) (chkTy t) (0))
  have Z9 := hideK (hz2.st2 (b := w.heap.size) (by omega) (chkTy t) (0))
  refine leaves_cons (f := 31) (args := #[.pointer (some ⟨w.heap.size, 0, none⟩)]) (by simp) (by simp [go_sem]) ?_
  refine (catch_thrown w.heap.size (chkTy t) (0) 0 0 [] w2 B2.out.c0 B2.out.c1 B2.out.f0 B2.out.f1).mono ?_
  rintro e u' w3 ⟨rfl, rfl, rfl⟩
  change Leaves _ _ _ _ [] .returning (st2 w2 w.heap.size (chkTy t) (0))
  generalize st2 w2 w.heap.size (chkTy t) (0) = W9 at B9 F9 Z9 ⊢
  obtain ⟨_, r0, r1, _, _⟩ := B9
  exact ⟨.agg #[.int .i64 (chkTy t), .int .i64 (0)], by simp [results, Tryd.results15, go_sem, r0, r1], rfl, F9.out, Z9.out⟩
set_option maxRecDepth 100000 in
set_option maxHeartbeats 2000000 in
theorem readP_large (tb : Nat) (s : ByteArray) (w : World) (hz : ZT w tb) (h2 : 2000 < s.size) : Calls Tryd.prog 15 #[.string s, .string ⟨#[32]⟩, .int .i64 0, .func (.func 16) #[] #[.pointer (some ⟨tb, 0, none⟩)]] w fun e w' =>  e = .returned (.agg #[.int .i64 2, .int .i64 0]) ∧ FR tb w w' ∧ ZT w' tb := by
  have hmf : ∀ (fn : Fn) (first cap : Array Value) (w : World), (Instr.makeFunc fn first cap).run Tryd.prog w = .ok (.func fn first cap) w := fun _ _ _ _ => rfl
  have hs2 : (s.size : Int) > 2000 := by omega
  have hzl := hz.lt
  have B9 : FB (w.alloc (.cells #[.int .i64 2, .int .i64 0] 30)) w.heap.size 2 0 := ⟨by simp, by go_cell, by go_cell, by go_simp, by go_simp⟩
  have F9 := hideK (FR.al (pb := tb) (w := w) (.cells #[.int .i64 2, .int .i64 0] 30))
  have Z9 := hideK (hz.keep (FR.al (pb := w.heap.size) (w := w) (.cells #[.int .i64 2, .int .i64 0] 30)) (by omega))
  go_enter_defers Tryd.func15, Tryd.ntmps15
  go_wp2_with fail
  generalize w.alloc (.cells #[.int .i64 2, .int .i64 0] 30) = W9 at B9 F9 Z9 ⊢
  obtain ⟨_, r0, r1, _, _⟩ := B9
  refine leaves_cons (f := 31) (args := #[.pointer (some ⟨w.heap.size, 0, none⟩)]) (by simp) (by simp [go_sem]) ?_
  refine (catch_none w.heap.size _).mono ?_
  rintro e u' w3 ⟨rfl, rfl, rfl⟩
  exact ⟨.agg #[.int .i64 2, .int .i64 0], by simp [results, Tryd.results15, go_sem, r0, r1], rfl, F9.out, Z9.out⟩
/-- what Read leaves: the type in its block, or the fault -/
def RPost (w : World) (tb : Nat) (x : Except (Int × Nat) Ty) (e : Ending) (w' : World) : Prop :=
  match x with
  | .ok t => e = .returned (.agg #[.int .i64 0, .int .i64 0]) ∧ InTb w tb t w' ∧ FR tb w w'
  | .error (c, a) => e = .returned (.agg #[.int .i64 c, .int .i64 (a : Int)]) ∧ FR tb w w' ∧ ZT w' tb
theorem readP_any (tb : Nat) (s : ByteArray) (w : World) (hz : ZT w tb) : Calls Tryd.prog 15 #[.string s, .string ⟨#[32]⟩, .int .i64 0, .func (.func 16) #[] #[.pointer (some ⟨tb, 0, none⟩)]] w fun e w' =>  RPost w tb (psT s.data.toList) e w' := by
  have hsz : s.data.toList.length = s.size := by simp
  unfold psT
  by_cases h2 : 2000 < s.size
  · rw [if_pos (by rw [hsz]; exact h2)]
    exact readP_large tb s w hz h2
  · rw [if_neg (by rw [hsz]; exact h2)]
    cases hT : rdT 2001 (skB s.data.toList) with
    | error r =>
      simp only [hsz]
      exact readP_bad tb s w hz (by omega) r hT
    | ok x =>
      obtain ⟨t, r⟩ := x
      simp only [hsz]
      by_cases hr : r = []
      · subst hr
        rw [if_pos rfl]
        by_cases hc : chkTy t = 0
        · rw [if_pos hc]
          exact readP_good tb s w hz (by omega) t hT hc
        · rw [if_neg hc]
          exact readP_wrong tb s w hz (by omega) t hT hc
      · rw [if_neg hr]
        exact readP_more tb s w hz (by omega) t r hT hr
end Go.Proofs.YthamkbahiidenaaDoor
