/-
  The contracts of pieces.Caught and pieces.Read, with whatever reading that is handed one captured value.
-/
import Derived.Test.YtfmegfgmkeicnaaDoorKt
import Derived.Test.YtfmegfgmkeicnaaDoorKn
namespace Go.Proofs.YtfmegfgmkeicnaaDoor
open Go.RowKit Go.Shelf
/-- the block of the fault that is told -/
structure FB (W : World) (b : Nat) (c a : Int) : Prop where
  lt : b < W.heap.size
  c0 : W.cell? ⟨b, 0, none⟩ = some (.int .i64 c)
  c1 : W.cell? ⟨b, 1, none⟩ = some (.int .i64 a)
  f0 : W.frozen? ⟨b, 0, none⟩ = false
  f1 : W.frozen? ⟨b, 1, none⟩ = false
theorem FB.keep {W W' : World} {pb b : Nat} {c a : Int} (h : FB W b c a) (hf : FR pb W W') (hn : b ≠ pb) : FB W' b c a :=
  ⟨Nat.lt_of_lt_of_le h.lt hf.size, (hf.cellO h.lt hn).trans h.c0, (hf.cellO h.lt hn).trans h.c1, (hf.frozenO h.lt hn).trans h.f0, (hf.frozenO h.lt hn).trans h.f1⟩
theorem al_fb (w : World) : FB (w.alloc (.cells #[.int .i64 0, .int .i64 0] 30)) w.heap.size 0 0 := ⟨by simp, by go_cell, by go_cell, by go_simp, by go_simp⟩
/-- the fault's two cells, stored one after the other -/
def st2 (W : World) (b : Nat) (c a : Int) : World := (W.setCell ⟨b, 0, none⟩ (.int .i64 c)).setCell ⟨b, 1, none⟩ (.int .i64 a)
theorem st2_other (W : World) (b : Nat) (c a : Int) (b' o : Nat) (h : b' ≠ b) : (st2 W b c a).cell? ⟨b', o, none⟩ = W.cell? ⟨b', o, none⟩ := by
  unfold st2
  rw [World.cell?_setCell_other _ _ _ _ (by intro e; simp only [Addr.mk.injEq] at e; omega), World.cell?_setCell_other _ _ _ _ (by intro e; simp only [Addr.mk.injEq] at e; omega)]
theorem st2_frozen (W : World) (b : Nat) (c a : Int) (p : Addr) : (st2 W b c a).frozen? p = W.frozen? p := by unfold st2; simp only [World.frozen?_setCell]
theorem st2_size (W : World) (b : Nat) (c a : Int) : (st2 W b c a).heap.size = W.heap.size := by unfold st2; simp
theorem st2_at {W : World} {b : Nat} {c0 a0 : Int} (h : FB W b c0 a0) (c a : Int) : FB (st2 W b c a) b c a := by
  obtain ⟨hl, h0, h1, f0, f1⟩ := h
  exact ⟨by rw [st2_size]; exact hl, by unfold st2; go_cell, by unfold st2; go_cell, by rw [st2_frozen]; exact f0, by rw [st2_frozen]; exact f1⟩
theorem rs_all (s : ByteArray) : (rs s 0).drop 0 = s.data.toList := rfl
set_option maxRecDepth 100000 in
set_option maxHeartbeats 2000000 in
theorem caughtP_ok (b0 b1 b2 b3 : Nat) (w : World) (Φ : World → Prop) (hB : Calls Tryd.prog 56 #[.pointer (some ⟨b0, 0, none⟩), .pointer (some ⟨b1, 0, none⟩), .pointer (some ⟨b2, 0, none⟩), .pointer (some ⟨b3, 0, none⟩)] (w.alloc (.cells #[.int .i64 0, .int .i64 0] 30)) fun e W => e = .returned (.tuple #[]) ∧ FB W w.heap.size 0 0 ∧ Φ W) :
    Calls Tryd.prog 55 #[.func (.func 56) #[] #[.pointer (some ⟨b0, 0, none⟩), .pointer (some ⟨b1, 0, none⟩), .pointer (some ⟨b2, 0, none⟩), .pointer (some ⟨b3, 0, none⟩)]] w fun e w' => e = .returned (.agg #[.int .i64 0, .int .i64 0]) ∧ ∃ W, FB W w.heap.size 0 0 ∧ Φ W ∧ w' = st2 W w.heap.size 0 0 := by
  have hmf : ∀ (fn : Fn) (first cap : Array Value) (w : World), (Instr.makeFunc fn first cap).run Tryd.prog w = .ok (.func fn first cap) w := fun _ _ _ _ => rfl
  go_enter_defers Tryd.func55, Tryd.ntmps55
  go_wp2_with fail
  refine hB.mono ?_
  rintro e w2 ⟨rfl, hf, hφ⟩
  have HF := hideK hf
  have HΦ := hideK hφ
  obtain ⟨bl, c0, c1, g0, g1⟩ := hf
  clear hφ hB
  go_wp2_with fail
  have B9 := st2_at HF.out 0 0
  change bodyPostD _ _ _ _ _ (st2 w2 w.heap.size 0 0)
  obtain ⟨W9, hW⟩ : ∃ x, x = st2 w2 w.heap.size 0 0 := ⟨_, rfl⟩
  rw [← hW] at B9 ⊢
  obtain ⟨_, r0, r1, _, _⟩ := B9
  refine leaves_cons (f := 93) (args := #[.pointer (some ⟨w.heap.size, 0, none⟩)]) (by simp) (by simp [go_sem]) ?_
  refine (catch_none w.heap.size _).mono ?_
  rintro e u' w3 ⟨rfl, rfl, rfl⟩
  exact ⟨.agg #[.int .i64 0, .int .i64 0], by simp [results, Tryd.results55, go_sem, r0, r1], rfl, w2, HF.out, HΦ.out, hW⟩
set_option maxRecDepth 100000 in
set_option maxHeartbeats 2000000 in
theorem caughtP_bad (b0 b1 b2 b3 : Nat) (k z : Int) (w : World) (Φ : World → Prop) (hB : Calls Tryd.prog 56 #[.pointer (some ⟨b0, 0, none⟩), .pointer (some ⟨b1, 0, none⟩), .pointer (some ⟨b2, 0, none⟩), .pointer (some ⟨b3, 0, none⟩)] (w.alloc (.cells #[.int .i64 0, .int .i64 0] 30)) fun e W => e = .panicked (faultE k z) ∧ FB W w.heap.size 0 0 ∧ Φ W) :
    Calls Tryd.prog 55 #[.func (.func 56) #[] #[.pointer (some ⟨b0, 0, none⟩), .pointer (some ⟨b1, 0, none⟩), .pointer (some ⟨b2, 0, none⟩), .pointer (some ⟨b3, 0, none⟩)]] w fun e w' => e = .returned (.agg #[.int .i64 k, .int .i64 z]) ∧ ∃ W, FB W w.heap.size 0 0 ∧ Φ W ∧ w' = st2 W w.heap.size k z := by
  have hmf : ∀ (fn : Fn) (first cap : Array Value) (w : World), (Instr.makeFunc fn first cap).run Tryd.prog w = .ok (.func fn first cap) w := fun _ _ _ _ => rfl
  unfold faultE at hB
  go_enter_defers Tryd.func55, Tryd.ntmps55
  go_wp2_with fail
  refine hB.mono ?_
  rintro e w2 ⟨rfl, hf, hφ⟩
  have HF := hideK hf
  have HΦ := hideK hφ
  clear hf hφ hB
  go_wp2_with fail
  have B9 := st2_at HF.out k z
  refine leaves_cons (f := 93) (args := #[.pointer (some ⟨w.heap.size, 0, none⟩)]) (by simp) (by simp [go_sem]) ?_
  refine (catch_thrown w.heap.size k z 0 0 [] w2 HF.out.c0 HF.out.c1 HF.out.f0 HF.out.f1).mono ?_
  rintro e u' w3 ⟨rfl, rfl, rfl⟩
  change Leaves _ _ _ _ [] .returning (st2 w2 w.heap.size k z)
  obtain ⟨W9, hW⟩ : ∃ x, x = st2 w2 w.heap.size k z := ⟨_, rfl⟩
  rw [← hW] at B9 ⊢
  obtain ⟨_, r0, r1, _, _⟩ := B9
  exact ⟨.agg #[.int .i64 k, .int .i64 z], by simp [results, Tryd.results55, go_sem, r0, r1], rfl, w2, HF.out, HΦ.out, hW⟩
theorem FB.other {W : World} {b b' : Nat} {c a c' a' : Int} (h : FB W b c a) (hn : b ≠ b') : FB (st2 W b' c' a') b c a :=
  ⟨by rw [st2_size]; exact h.lt, (st2_other _ _ _ _ _ _ hn).trans h.c0, (st2_other _ _ _ _ _ _ hn).trans h.c1, by rw [st2_frozen]; exact h.f0, by rw [st2_frozen]; exact h.f1⟩
/-- nothing but blocks of which T holds has changed -/
structure FX (T : Nat → Prop) (w w' : World) : Prop where
  os : w'.os = w.os
  tape : w'.tape = w.tape
  output : w'.output = w.output
  size : w.heap.size ≤ w'.heap.size
  block : ∀ k : Nat, k < w.heap.size → ¬ T k → w'.heap[k]? = w.heap[k]?
theorem FX.of {T : Nat → Prop} {w w' : World} (h : Below w.heap.size w w') : FX T w w' := ⟨h.os, h.tape, h.output, h.size, fun k hk _ => h.block k hk⟩
theorem FX.fr {T : Nat → Prop} {w w' : World} {pb : Nat} (h : FR pb w w') (hp : T pb) : FX T w w' := ⟨h.os, h.tape, h.output, h.size, fun k hk hn => h.block k hk (fun e => hn (by injection e with e; rw [e]; exact hp))⟩
theorem FX.trans {T : Nat → Prop} {a b c : World} (h : FX T a b) (k : FX T b c) : FX T a c :=
  ⟨k.os.trans h.os, k.tape.trans h.tape, k.output.trans h.output, Nat.le_trans h.size k.size, fun i hi hn => (k.block i (Nat.lt_of_lt_of_le hi h.size) hn).trans (h.block i hi hn)⟩
theorem FX.cell {T : Nat → Prop} {w w' : World} (h : FX T w w') {b o : Nat} (hb : b < w.heap.size) (hn : ¬ T b) : w'.cell? ⟨b, o, none⟩ = w.cell? ⟨b, o, none⟩ := World.cell?_of_block (a := ⟨b, o, none⟩) (h.block b hb hn)
theorem FX.froz {T : Nat → Prop} {w w' : World} (h : FX T w w') {b o : Nat} (hb : b < w.heap.size) (hn : ¬ T b) : w'.frozen? ⟨b, o, none⟩ = w.frozen? ⟨b, o, none⟩ := World.frozen?_of_block (a := ⟨b, o, none⟩) (h.block b hb hn)
/-- what was new may have changed -/
theorem FX.old {T U : Nat → Prop} {w w1 w' : World} (hb : Below w.heap.size w w1) (h : FX T w1 w') (hT : ∀ k, k < w.heap.size → T k → U k) : FX U w w' :=
  ⟨h.os.trans hb.os, h.tape.trans hb.tape, h.output.trans hb.output, Nat.le_trans hb.size h.size, fun k hk hn => (h.block k (Nat.lt_of_lt_of_le hk hb.size) (fun t => hn (hT k hk t))).trans (hb.block k hk)⟩
theorem FX.to {T : Nat → Prop} {pb : Nat} {w w' : World} (h : FX T w w') (hT : ∀ k, T k → k = pb) : FR pb w w' := ⟨h.os, h.tape, h.output, h.size, fun k hk hn => h.block k hk (fun t => hn (by rw [hT k t]))⟩
theorem FX.below {T : Nat → Prop} {w w' : World} (h : FX T w w') (hT : ∀ k, T k → w.heap.size ≤ k) : Below w.heap.size w w' := ⟨h.os, h.tape, h.output, h.size, fun k hk => h.block k hk (fun t => by have := hT k t; omega)⟩
theorem FX.st2 {T : Nat → Prop} {w W : World} {b : Nat} (h : FX T w W) (hb : w.heap.size ≤ b) (c a : Int) : FX T w (st2 W b c a) := by
  unfold Go.Proofs.YtfmegfgmkeicnaaDoor.st2
  exact ⟨h.os, h.tape, h.output, by simpa using h.size, fun k hk hn => by
    rw [Below.heap_setCell _ _ _ k (by show k ≠ b; omega), Below.heap_setCell _ _ _ k (by show k ≠ b; omega)]
    exact h.block k hk hn⟩
theorem FB.keepX {T : Nat → Prop} {W W' : World} {b : Nat} {c a : Int} (h : FB W b c a) (hf : FX T W W') (hn : ¬ T b) : FB W' b c a :=
  ⟨Nat.lt_of_lt_of_le h.lt hf.size, (hf.cell h.lt hn).trans h.c0, (hf.cell h.lt hn).trans h.c1, (hf.froz h.lt hn).trans h.f0, (hf.froz h.lt hn).trans h.f1⟩
/-- a reader that is new -/
def rdR (s : ByteArray) (p : Nat) (w : World) : World := w.alloc (.cells #[.string s, .string ⟨#[32]⟩, .int .i64 (p : Int)] 98)
theorem rdR_rs (s : ByteArray) (p : Nat) (w : World) (hp : p ≤ s.size) (hs : s.size ≤ 2000) : RS (rdR s p w) w.heap.size s p := by
  unfold rdR
  exact ⟨by go_cell, by go_cell, by go_cell, by go_simp, hp, hs⟩
set_option maxRecDepth 100000 in
set_option maxHeartbeats 2000000 in
theorem rd1G_ok (f : Nat) (c0 : Value) (b0 b1 b2 b3 : Nat) (s : ByteArray) (a : Int) (m p : Nat) (w : World) (Φ : World → Prop) (h0 : w.cell? ⟨b0, 0, none⟩ = some (.string s)) (h1 : w.cell? ⟨b1, 0, none⟩ = some (.string ⟨#[32]⟩)) (h2 : w.cell? ⟨b2, 0, none⟩ = some (.int .i64 a)) (h3 : w.cell? ⟨b3, 0, none⟩ = some (.func (.func f) #[] #[c0]))
    (hm : max a 0 = (m : Int)) (hmin : min (m : Int) (s.size : Int) = (p : Int)) (hs : s.size ≤ 2000) (hcf : ∀ args W, (callFunc f args).run Tryd.prog W = .ok (.enter f args) W)
    (hF : ∀ q w1, RS w1 w.heap.size s q → rs s q = skB (rs s p) → FR w.heap.size (rdR s p w) w1 → Calls Tryd.prog f #[.pointer (some ⟨w.heap.size, 0, none⟩), c0] w1 fun e w2 => e = .returned (.tuple #[]) ∧ Φ w2) :
    Calls Tryd.prog 56 #[.pointer (some ⟨b0, 0, none⟩), .pointer (some ⟨b1, 0, none⟩), .pointer (some ⟨b2, 0, none⟩), .pointer (some ⟨b3, 0, none⟩)] w fun e w' => e = .returned (.tuple #[]) ∧ Φ w' := by
  have hp : p ≤ s.size := by omega
  have hl3 := lt_of_cell h3
  have RS0 := rdR_rs s p w hp hs
  have cP := pass_any w.heap.size p 0 s _ RS0 (by omega)
  rw [List.drop_zero] at cP
  have H33 := hideK (show (rdR s p w).cell? ⟨b3, 0, none⟩ = some (.func (.func f) #[] #[c0]) from (World.cell?_alloc_past _ _ _ hl3).trans h3)
  have hlt : b3 < (rdR s p w).heap.size := by simp [rdR]; omega
  have hne : b3 ≠ w.heap.size := by omega
  have HF := hideK hF
  unfold rdR at cP
  clear RS0 hF
  go_enter Tryd.func56, Tryd.ntmps56
  go_wp2_with fail
  refine cP.mono ?_
  rintro e w1 ⟨rfl, ⟨q, hq, hl⟩, hf1⟩
  have c3 := (FR.cellO hf1 (b := b3) (o := 0) hlt hne).trans H33.out
  have cA := HF.out q w1 hq hl hf1
  clear cP hf1 hq hl h0 h1 h2 h3 hm hmin
  go_wp2_with fail
  refine cA.mono ?_
  rintro e w2 ⟨rfl, hΦ⟩
  have HΦ := hideK hΦ
  clear hΦ cA
  go_wp2_with fail
  go_end0
  exact ⟨rfl, HΦ.out⟩
set_option maxRecDepth 100000 in
set_option maxHeartbeats 2000000 in
theorem rd1G_bad (f : Nat) (c0 : Value) (k z : Int) (b0 b1 b2 b3 : Nat) (s : ByteArray) (a : Int) (m p : Nat) (w : World) (Φ : World → Prop) (h0 : w.cell? ⟨b0, 0, none⟩ = some (.string s)) (h1 : w.cell? ⟨b1, 0, none⟩ = some (.string ⟨#[32]⟩)) (h2 : w.cell? ⟨b2, 0, none⟩ = some (.int .i64 a)) (h3 : w.cell? ⟨b3, 0, none⟩ = some (.func (.func f) #[] #[c0]))
    (hm : max a 0 = (m : Int)) (hmin : min (m : Int) (s.size : Int) = (p : Int)) (hs : s.size ≤ 2000) (hcf : ∀ args W, (callFunc f args).run Tryd.prog W = .ok (.enter f args) W)
    (hF : ∀ q w1, RS w1 w.heap.size s q → rs s q = skB (rs s p) → FR w.heap.size (rdR s p w) w1 → Calls Tryd.prog f #[.pointer (some ⟨w.heap.size, 0, none⟩), c0] w1 fun e w2 => e = .panicked (faultE k z) ∧ Φ w2) :
    Calls Tryd.prog 56 #[.pointer (some ⟨b0, 0, none⟩), .pointer (some ⟨b1, 0, none⟩), .pointer (some ⟨b2, 0, none⟩), .pointer (some ⟨b3, 0, none⟩)] w fun e w' => e = .panicked (faultE k z) ∧ Φ w' := by
  have hp : p ≤ s.size := by omega
  have hl3 := lt_of_cell h3
  have RS0 := rdR_rs s p w hp hs
  have cP := pass_any w.heap.size p 0 s _ RS0 (by omega)
  rw [List.drop_zero] at cP
  have H33 := hideK (show (rdR s p w).cell? ⟨b3, 0, none⟩ = some (.func (.func f) #[] #[c0]) from (World.cell?_alloc_past _ _ _ hl3).trans h3)
  have hlt : b3 < (rdR s p w).heap.size := by simp [rdR]; omega
  have hne : b3 ≠ w.heap.size := by omega
  have HF := hideK hF
  unfold rdR at cP
  clear RS0 hF
  go_enter Tryd.func56, Tryd.ntmps56
  go_wp2_with fail
  refine cP.mono ?_
  rintro e w1 ⟨rfl, ⟨q, hq, hl⟩, hf1⟩
  have c3 := (FR.cellO hf1 (b := b3) (o := 0) hlt hne).trans H33.out
  have cA := HF.out q w1 hq hl hf1
  clear cP hf1 hq hl h0 h1 h2 h3 hm hmin
  go_wp2_with fail
  refine cA.mono ?_
  rintro e w2 ⟨rfl, hΦ⟩
  have HΦ := hideK hΦ
  clear hΦ cA
  go_wp2_with fail
  exact ⟨rfl, rfl, HΦ.out⟩
/-- the boxes of Read -/
def rdG (f : Nat) (c0 : Value) (s : ByteArray) (at' : Int) (w : World) (c a : Int) : World := (((((w.alloc (.cells #[.string s] 9)).alloc (.cells #[.string ⟨#[32]⟩] 9)).alloc (.cells #[.int .i64 at'] 3)).alloc (.cells #[.func (.func f) #[] #[c0]] 67)).alloc (.cells #[.int .i64 c, .int .i64 a] 30))
theorem rdG_bl (f : Nat) (c0 : Value) (s : ByteArray) (a : Int) (w : World) (c z : Int) : Below w.heap.size w (rdG f c0 s a w c z) := (((((Below.refl _ _).alloc (Nat.le_refl _) _).alloc (by simp) _).alloc (by simp; omega) _).alloc (by simp; omega) _).alloc (by simp; omega) _
theorem rdG_size (f : Nat) (c0 : Value) (s : ByteArray) (a : Int) (w : World) (c z : Int) : (rdG f c0 s a w c z).heap.size = w.heap.size + 5 := by simp [rdG]
theorem rdG_at (f : Nat) (c0 : Value) (s : ByteArray) (a : Int) (w : World) (c z : Int) : (rdG f c0 s a w c z).cell? ⟨w.heap.size, 0, none⟩ = some (.string s) ∧ (rdG f c0 s a w c z).cell? ⟨w.heap.size + 1, 0, none⟩ = some (.string ⟨#[32]⟩) ∧ (rdG f c0 s a w c z).cell? ⟨w.heap.size + 1 + 1, 0, none⟩ = some (.int .i64 a) ∧ (rdG f c0 s a w c z).cell? ⟨w.heap.size + 1 + 1 + 1, 0, none⟩ = some (.func (.func f) #[] #[c0]) := by
  unfold rdG
  exact ⟨by go_cell, by go_cell, by go_cell, by go_cell⟩
theorem rdG_fb (f : Nat) (c0 : Value) (s : ByteArray) (at' : Int) (w : World) (c a : Int) : FB (rdG f c0 s at' w c a) (w.heap.size + 1 + 1 + 1 + 1) c a := by
  unfold rdG
  exact ⟨by simp, by go_cell, by go_cell, by go_simp, by go_simp⟩
set_option maxRecDepth 100000 in
set_option maxHeartbeats 2000000 in
theorem readG_large (f : Nat) (c0 : Value) (s : ByteArray) (a : Int) (w : World) (T : Nat → Prop) (h2 : 2000 < s.size) : Calls Tryd.prog 25 #[.string s, .string ⟨#[32]⟩, .int .i64 a, .func (.func f) #[] #[c0]] w fun e w' => e = .returned (.agg #[.int .i64 2, .int .i64 0]) ∧ FX T w w' := by
  have hs2 : (s.size : Int) > 2000 := by omega
  have B9 := rdG_fb f c0 s a w 2 0
  have F9 := hideK (FX.of (T := T) (rdG_bl f c0 s a w 2 0))
  go_enter Tryd.func25, Tryd.ntmps25
  go_wp2_with fail
  change bodyPost _ _ _ _ _ (rdG f c0 s a w 2 0)
  generalize rdG f c0 s a w 2 0 = W9 at B9 F9 ⊢
  obtain ⟨_, r0, r1, _, _⟩ := B9
  refine bodyPost_ret (v := .agg #[.int .i64 2, .int .i64 0]) (by simp [results, Tryd.results25, go_sem, r0, r1]) rfl ?_
  exact ⟨rfl, F9.out⟩
set_option maxRecDepth 100000 in
set_option maxHeartbeats 4000000 in
theorem readG_ok (f : Nat) (c0 : Value) (s : ByteArray) (a : Int) (m p : Nat) (w : World) (T : Nat → Prop) (Φ : World → Prop) (hT : ∀ k, T k → k < w.heap.size) (hst : ∀ W b c z, w.heap.size ≤ b → b ≤ w.heap.size + 5 → Φ W → Φ (st2 W b c z))
    (hm : max a 0 = (m : Int)) (hmin : min (m : Int) (s.size : Int) = (p : Int)) (hs : s.size ≤ 2000) (hcf : ∀ args W, (callFunc f args).run Tryd.prog W = .ok (.enter f args) W)
    (hF : ∀ q w0 w1, w.heap.size + 5 < w0.heap.size → Below w.heap.size w w0 → Below w0.heap.size w0 w1 → RS w1 w0.heap.size s q → rs s q = skB (rs s p) → Calls Tryd.prog f #[.pointer (some ⟨w0.heap.size, 0, none⟩), c0] w1 fun e w2 => e = .returned (.tuple #[]) ∧ FX T w0 w2 ∧ Φ w2) :
    Calls Tryd.prog 25 #[.string s, .string ⟨#[32]⟩, .int .i64 a, .func (.func f) #[] #[c0]] w fun e w' => e = .returned (.agg #[.int .i64 0, .int .i64 0]) ∧ FX T w w' ∧ Φ w' := by
  have hs2 : ¬ (s.size : Int) > 2000 := by omega
  have hmf : ∀ (fn : Fn) (first cap : Array Value) (w : World), (Instr.makeFunc fn first cap).run Tryd.prog w = .ok (.func fn first cap) w := fun _ _ _ _ => rfl
  have A8 := rdG_at f c0 s a w 0 0
  have hn := rdG_size f c0 s a w 0 0
  have hal : ∀ b, b < (rdG f c0 s a w 0 0).heap.size → ((rdG f c0 s a w 0 0).alloc (.cells #[.int .i64 0, .int .i64 0] 30)).cell? ⟨b, 0, none⟩ = (rdG f c0 s a w 0 0).cell? ⟨b, 0, none⟩ := fun b hb => World.cell?_alloc_past _ _ _ hb
  have hn2 : ((rdG f c0 s a w 0 0).alloc (.cells #[.int .i64 0, .int .i64 0] 30)).heap.size = w.heap.size + 6 := by
    have q : ((rdG f c0 s a w 0 0).alloc (.cells #[.int .i64 0, .int .i64 0] 30)).heap.size = (rdG f c0 s a w 0 0).heap.size + 1 := by simp
    omega
  have hB6 : Below w.heap.size w ((rdG f c0 s a w 0 0).alloc (.cells #[.int .i64 0, .int .i64 0] 30)) := (rdG_bl f c0 s a w 0 0).alloc (by omega) _
  have cR := rd1G_ok f c0 w.heap.size (w.heap.size + 1) (w.heap.size + 1 + 1) (w.heap.size + 1 + 1 + 1) s a m p ((rdG f c0 s a w 0 0).alloc (.cells #[.int .i64 0, .int .i64 0] 30)) (fun W => FX T ((rdG f c0 s a w 0 0).alloc (.cells #[.int .i64 0, .int .i64 0] 30)) W ∧ Φ W) ((hal _ (by omega)).trans A8.1) ((hal _ (by omega)).trans A8.2.1) ((hal _ (by omega)).trans A8.2.2.1) ((hal _ (by omega)).trans A8.2.2.2) hm hmin hs hcf (fun q w1 hr hl hf =>
    hF q _ w1 (by omega) hB6 (((Below.refl _ _).alloc (Nat.le_refl _) _).trans (hf.below (by simp [rdR]))) hr hl)
  have cC := caughtP_ok w.heap.size (w.heap.size + 1) (w.heap.size + 1 + 1) (w.heap.size + 1 + 1 + 1) (rdG f c0 s a w 0 0) (fun W => FX T ((rdG f c0 s a w 0 0).alloc (.cells #[.int .i64 0, .int .i64 0] 30)) W ∧ Φ W) (cR.mono fun e W ⟨h1, h2, h3⟩ => ⟨h1, (al_fb _).keepX h2 (fun t => by have := hT _ t; omega), h2, h3⟩)
  have HB6 := hideK hB6
  have HBL := hideK (rdG_bl f c0 s a w 0 0)
  have HE := hideK (rdG_fb f c0 s a w 0 0)
  have HST := hideK hst
  have HT := hideK hT
  have HN := hideK hn
  have HN2 := hideK hn2
  clear cR A8 hal hF hst hT hm hmin hB6 hn hn2
  simp only [rdG] at cC
  go_enter Tryd.func25, Tryd.ntmps25
  go_wp2_with fail
  refine cC.mono ?_
  rintro e W' ⟨rfl, W, hfb, hΦ, hW'⟩
  have hF0 : FX T (rdG f c0 s a w 0 0) W := FX.old ((Below.refl _ _).alloc (Nat.le_refl _) _) hΦ.1 (fun _ _ t => t)
  have hF1 : FX T (rdG f c0 s a w 0 0) W' := by rw [hW']; exact hF0.st2 (Nat.le_refl _) _ _
  have hφ1 : Φ W' := by rw [hW']; exact HST.out _ _ _ _ (by have := HN.out; show w.heap.size ≤ (rdG f c0 s a w 0 0).heap.size; omega) (by have := HN.out; show (rdG f c0 s a w 0 0).heap.size ≤ _; omega) hΦ.2
  have F4 := HE.out.keepX hF1 (fun t => by have := HT.out _ t; omega)
  have B9 := st2_at F4 0 0
  have HR := hideK (show FX T w (st2 W' (w.heap.size + 1 + 1 + 1 + 1) 0 0) ∧ Φ (st2 W' (w.heap.size + 1 + 1 + 1 + 1) 0 0) from ⟨(FX.old HBL.out hF1 (fun _ _ t => t)).st2 (by omega) _ _, HST.out _ _ _ _ (by omega) (by omega) hφ1⟩)
  clear hfb hΦ hW' HE hF0 hF1 hφ1
  obtain ⟨bl, c0', c1, g0, g1⟩ := F4
  go_wp2_with fail
  change bodyPost _ _ _ _ _ (st2 W' (w.heap.size + 1 + 1 + 1 + 1) 0 0)
  generalize st2 W' (w.heap.size + 1 + 1 + 1 + 1) 0 0 = W9 at B9 HR ⊢
  obtain ⟨_, r0, r1, _, _⟩ := B9
  refine bodyPost_ret (v := .agg #[.int .i64 0, .int .i64 0]) (by simp [results, Tryd.results25, go_sem, r0, r1]) rfl ?_
  exact ⟨rfl, HR.out.1, HR.out.2⟩
set_option maxRecDepth 100000 in
set_option maxHeartbeats 4000000 in
theorem readG_bad (f : Nat) (c0 : Value) (k z : Int) (s : ByteArray) (a : Int) (m p : Nat) (w : World) (T : Nat → Prop) (Φ : World → Prop) (hT : ∀ k, T k → k < w.heap.size) (hst : ∀ W b c z, w.heap.size ≤ b → b ≤ w.heap.size + 5 → Φ W → Φ (st2 W b c z))
    (hm : max a 0 = (m : Int)) (hmin : min (m : Int) (s.size : Int) = (p : Int)) (hs : s.size ≤ 2000) (hcf : ∀ args W, (callFunc f args).run Tryd.prog W = .ok (.enter f args) W)
    (hF : ∀ q w0 w1, w.heap.size + 5 < w0.heap.size → Below w.heap.size w w0 → Below w0.heap.size w0 w1 → RS w1 w0.heap.size s q → rs s q = skB (rs s p) → Calls Tryd.prog f #[.pointer (some ⟨w0.heap.size, 0, none⟩), c0] w1 fun e w2 => e = .panicked (faultE k z) ∧ FX T w0 w2 ∧ Φ w2) :
    Calls Tryd.prog 25 #[.string s, .string ⟨#[32]⟩, .int .i64 a, .func (.func f) #[] #[c0]] w fun e w' => e = .returned (.agg #[.int .i64 k, .int .i64 z]) ∧ FX T w w' ∧ Φ w' := by
  have hs2 : ¬ (s.size : Int) > 2000 := by omega
  have hmf : ∀ (fn : Fn) (first cap : Array Value) (w : World), (Instr.makeFunc fn first cap).run Tryd.prog w = .ok (.func fn first cap) w := fun _ _ _ _ => rfl
  have A8 := rdG_at f c0 s a w 0 0
  have hn := rdG_size f c0 s a w 0 0
  have hal : ∀ b, b < (rdG f c0 s a w 0 0).heap.size → ((rdG f c0 s a w 0 0).alloc (.cells #[.int .i64 0, .int .i64 0] 30)).cell? ⟨b, 0, none⟩ = (rdG f c0 s a w 0 0).cell? ⟨b, 0, none⟩ := fun b hb => World.cell?_alloc_past _ _ _ hb
  have hn2 : ((rdG f c0 s a w 0 0).alloc (.cells #[.int .i64 0, .int .i64 0] 30)).heap.size = w.heap.size + 6 := by
    have q : ((rdG f c0 s a w 0 0).alloc (.cells #[.int .i64 0, .int .i64 0] 30)).heap.size = (rdG f c0 s a w 0 0).heap.size + 1 := by simp
    omega
  have hB6 : Below w.heap.size w ((rdG f c0 s a w 0 0).alloc (.cells #[.int .i64 0, .int .i64 0] 30)) := (rdG_bl f c0 s a w 0 0).alloc (by omega) _
  have cR := rd1G_bad f c0 k z w.heap.size (w.heap.size + 1) (w.heap.size + 1 + 1) (w.heap.size + 1 + 1 + 1) s a m p ((rdG f c0 s a w 0 0).alloc (.cells #[.int .i64 0, .int .i64 0] 30)) (fun W => FX T ((rdG f c0 s a w 0 0).alloc (.cells #[.int .i64 0, .int .i64 0] 30)) W ∧ Φ W) ((hal _ (by omega)).trans A8.1) ((hal _ (by omega)).trans A8.2.1) ((hal _ (by omega)).trans A8.2.2.1) ((hal _ (by omega)).trans A8.2.2.2) hm hmin hs hcf (fun q w1 hr hl hf =>
    hF q _ w1 (by omega) hB6 (((Below.refl _ _).alloc (Nat.le_refl _) _).trans (hf.below (by simp [rdR]))) hr hl)
  have cC := caughtP_bad w.heap.size (w.heap.size + 1) (w.heap.size + 1 + 1) (w.heap.size + 1 + 1 + 1) k z (rdG f c0 s a w 0 0) (fun W => FX T ((rdG f c0 s a w 0 0).alloc (.cells #[.int .i64 0, .int .i64 0] 30)) W ∧ Φ W) (cR.mono fun e W ⟨h1, h2, h3⟩ => ⟨h1, (al_fb _).keepX h2 (fun t => by have := hT _ t; omega), h2, h3⟩)
  have HB6 := hideK hB6
  have HBL := hideK (rdG_bl f c0 s a w 0 0)
  have HE := hideK (rdG_fb f c0 s a w 0 0)
  have HST := hideK hst
  have HT := hideK hT
  have HN := hideK hn
  have HN2 := hideK hn2
  clear cR A8 hal hF hst hT hm hmin hB6 hn hn2
  simp only [rdG] at cC
  go_enter Tryd.func25, Tryd.ntmps25
  go_wp2_with fail
  refine cC.mono ?_
  rintro e W' ⟨rfl, W, hfb, hΦ, hW'⟩
  have hF0 : FX T (rdG f c0 s a w 0 0) W := FX.old ((Below.refl _ _).alloc (Nat.le_refl _) _) hΦ.1 (fun _ _ t => t)
  have hF1 : FX T (rdG f c0 s a w 0 0) W' := by rw [hW']; exact hF0.st2 (Nat.le_refl _) _ _
  have hφ1 : Φ W' := by rw [hW']; exact HST.out _ _ _ _ (by have := HN.out; show w.heap.size ≤ (rdG f c0 s a w 0 0).heap.size; omega) (by have := HN.out; show (rdG f c0 s a w 0 0).heap.size ≤ _; omega) hΦ.2
  have F4 := HE.out.keepX hF1 (fun t => by have := HT.out _ t; omega)
  have B9 := st2_at F4 k z
  have HR := hideK (show FX T w (st2 W' (w.heap.size + 1 + 1 + 1 + 1) k z) ∧ Φ (st2 W' (w.heap.size + 1 + 1 + 1 + 1) k z) from ⟨(FX.old HBL.out hF1 (fun _ _ t => t)).st2 (by omega) _ _, HST.out _ _ _ _ (by omega) (by omega) hφ1⟩)
  clear hfb hΦ hW' HE hF0 hF1 hφ1
  obtain ⟨bl, c0', c1, g0, g1⟩ := F4
  go_wp2_with fail
  change bodyPost _ _ _ _ _ (st2 W' (w.heap.size + 1 + 1 + 1 + 1) k z)
  generalize st2 W' (w.heap.size + 1 + 1 + 1 + 1) k z = W9 at B9 HR ⊢
  obtain ⟨_, r0, r1, _, _⟩ := B9
  refine bodyPost_ret (v := .agg #[.int .i64 k, .int .i64 z]) (by simp [results, Tryd.results25, go_sem, r0, r1]) rfl ?_
  exact ⟨rfl, HR.out.1, HR.out.2⟩
end Go.Proofs.YtfmegfgmkeicnaaDoor
