/-
  The contracts of pieces.Caught and pieces.Read, as types.Parse calls it, for every text.
-/
import Derived.Test.YtefdekfgmbgbbaaDoorKv
namespace Go.Proofs.YtefdekfgmbgbbaaDoor
open Go.RowKit Go.Shelf
/-- the block of the fault that is told -/
structure FB (W : World) (b : Nat) (c a : Int) : Prop where
  lt : b < W.heap.size
  c0 : W.cell? ⟨b, 0, none⟩ = some (.int .i64 c)
  c1 : W.cell? ⟨b, 1, none⟩ = some (.int .i64 a)
  f0 : W.frozen? ⟨b, 0, none⟩ = false
  f1 : W.frozen? ⟨b, 1, none⟩ = false
theorem FB.keep {W W' : World} {pb b : Nat} {c a : Int} (h : FB W b c a) (hf : FR pb W W') (hn : b ≠ pb) : FB W' b c a :=
  ⟨Nat.lt_of_lt_of_le h.lt hf.size, (hf.cellO h.lt hn).trans h.c0, (hf.cellO h.lt hn).trans h.c1, (hf.frozenO h.lt hn).trans h.f0, (hf.frozenO h.lt hn).trans h.f1⟩
theorem al_fb (w : World) : FB (w.alloc (.cells #[.int .i64 0, .int .i64 0] 30)) w.heap.size 0 0 := ⟨by simp, by go_cell, by go_cell, by go_simp, by go_simp⟩
/-- the fault's two cells, stored one after the other -/
def st2 (W : World) (b : Nat) (c a : Int) : World := (W.setCell ⟨b, 0, none⟩ (.int .i64 c)).setCell ⟨b, 1, none⟩ (.int .i64 a)
theorem st2_other (W : World) (b : Nat) (c a : Int) (b' o : Nat) (h : b' ≠ b) : (st2 W b c a).cell? ⟨b', o, none⟩ = W.cell? ⟨b', o, none⟩ := by
  unfold st2
  rw [World.cell?_setCell_other _ _ _ _ (by intro e; simp only [Addr.mk.injEq] at e; omega), World.cell?_setCell_other _ _ _ _ (by intro e; simp only [Addr.mk.injEq] at e; omega)]
theorem st2_frozen (W : World) (b : Nat) (c a : Int) (p : Addr) : (st2 W b c a).frozen? p = W.frozen? p := by unfold st2; simp only [World.frozen?_setCell]
theorem st2_size (W : World) (b : Nat) (c a : Int) : (st2 W b c a).heap.size = W.heap.size := by unfold st2; simp
theorem st2_at {W : World} {b : Nat} {c0 a0 : Int} (h : FB W b c0 a0) (c a : Int) : FB (st2 W b c a) b c a := by
  obtain ⟨hl, h0, h1, f0, f1⟩ := h
  exact ⟨by rw [st2_size]; exact hl, by unfold st2; go_cell, by unfold st2; go_cell, by rw [st2_frozen]; exact f0, by rw [st2_frozen]; exact f1⟩
theorem FR.st2 {tb b : Nat} {w W : World} (h : FR tb w W) (hb : w.heap.size ≤ b) (c a : Int) : FR tb w (st2 W b c a) := by
  unfold Go.Proofs.YtefdekfgmbgbbaaDoor.st2
  exact (h.setN hb _).setN hb _
theorem ZT.st2 {W : World} {tb b : Nat} (h : ZT W tb) (hn : tb ≠ b) (c a : Int) : ZT (st2 W b c a) tb :=
  ⟨by rw [st2_size]; exact h.lt, (st2_other _ _ _ _ _ _ hn).trans h.c0, (st2_other _ _ _ _ _ _ hn).trans h.c1, (st2_other _ _ _ _ _ _ hn).trans h.c2, (st2_other _ _ _ _ _ _ hn).trans h.c3, (st2_other _ _ _ _ _ _ hn).trans h.c4, by rw [st2_frozen]; exact h.f0, by rw [st2_frozen]; exact h.f1, by rw [st2_frozen]; exact h.f2, by rw [st2_frozen]; exact h.f3, by rw [st2_frozen]; exact h.f4⟩
theorem InTb.st2 {w w1 W : World} {tb b : Nat} {t : Ty} (h : InTb w1 tb t W) (hw : w.heap.size ≤ w1.heap.size) (hb : b < w1.heap.size) (hn : tb ≠ b) (c a : Int) : InTb w tb t (st2 W b c a) := by
  obtain ⟨al, cl, ak, ck, h1, h2, h3⟩ := h
  have hk : ∀ b' o, NW w1 W b' → (Go.Proofs.YtefdekfgmbgbbaaDoor.st2 W b c a).cell? ⟨b', o, none⟩ = W.cell? ⟨b', o, none⟩ := fun b' o hb' => st2_other _ _ _ _ _ _ (by have := hb'.1; omega)
  have hq : ∀ b', NW w1 W b' → NW w (Go.Proofs.YtefdekfgmbgbbaaDoor.st2 W b c a) b' := fun b' hb' => ⟨Nat.le_trans hw hb'.1, by rw [st2_size]; exact hb'.2⟩
  exact ⟨al, cl, ak, ck, ⟨(st2_other _ _ _ _ _ _ hn).trans h1.c0, (st2_other _ _ _ _ _ _ hn).trans h1.c1, (st2_other _ _ _ _ _ _ hn).trans h1.c2, (st2_other _ _ _ _ _ _ hn).trans h1.c3, (st2_other _ _ _ _ _ _ hn).trans h1.c4⟩, ⟨h2.bd, h2.la.keep hk hq, h2.ka.keep hk hq⟩, fun o ho => by rw [st2_frozen]; exact h3 o ho⟩
theorem rs_all (s : ByteArray) : (rs s 0).drop 0 = s.data.toList := rfl
set_option maxRecDepth 100000 in
set_option maxHeartbeats 2000000 in
theorem caughtP_ok (b0 b1 b2 b3 : Nat) (w : World) (Φ : World → Prop) (hB : Calls Tryd.prog 32 #[.pointer (some ⟨b0, 0, none⟩), .pointer (some ⟨b1, 0, none⟩), .pointer (some ⟨b2, 0, none⟩), .pointer (some ⟨b3, 0, none⟩)] (w.alloc (.cells #[.int .i64 0, .int .i64 0] 30)) fun e W => e = .returned (.tuple #[]) ∧ FB W w.heap.size 0 0 ∧ Φ W) :
    Calls Tryd.prog 31 #[.func (.func 32) #[] #[.pointer (some ⟨b0, 0, none⟩), .pointer (some ⟨b1, 0, none⟩), .pointer (some ⟨b2, 0, none⟩), .pointer (some ⟨b3, 0, none⟩)]] w fun e w' => e = .returned (.agg #[.int .i64 0, .int .i64 0]) ∧ ∃ W, FB W w.heap.size 0 0 ∧ Φ W ∧ w' = st2 W w.heap.size 0 0 := by
  have hmf : ∀ (fn : Fn) (first cap : Array Value) (w : World), (Instr.makeFunc fn first cap).run Tryd.prog w = .ok (.func fn first cap) w := fun _ _ _ _ => rfl
  go_enter_defers Tryd.func31, Tryd.ntmps31
  go_wp2_with fail
  refine hB.mono ?_
  rintro e w2 ⟨rfl, hf, hφ⟩
  have HF := hideK hf
  have HΦ := hideK hφ
  obtain ⟨bl, c0, c1, g0, g1⟩ := hf
  clear hφ hB
  go_wp2_with fail
  have B9 := st2_at HF.out 0 0
  change bodyPostD _ _ _ _ _ (st2 w2 w.heap.size 0 0)
  obtain ⟨W9, hW⟩ : ∃ x, x = st2 w2 w.heap.size 0 0 := ⟨_, rfl⟩
  rw [← hW] at B9 ⊢
  obtain ⟨_, r0, r1, _, _⟩ := B9
  refine leaves_cons (f := 52) (args := #[.pointer (some ⟨w.heap.size, 0, none⟩)]) (by simp) (by simp [go_sem]) ?_
  refine (catch_none w.heap.size _).mono ?_
  rintro e u' w3 ⟨rfl, rfl, rfl⟩
  exact ⟨.agg #[.int .i64 0, .int .i64 0], by simp [results, Tryd.results31, go_sem, r0, r1], rfl, w2, HF.out, HΦ.out, hW⟩
set_option maxRecDepth 100000 in
set_option maxHeartbeats 2000000 in
theorem caughtP_bad (b0 b1 b2 b3 : Nat) (k z : Int) (w : World) (Φ : World → Prop) (hB : Calls Tryd.prog 32 #[.pointer (some ⟨b0, 0, none⟩), .pointer (some ⟨b1, 0, none⟩), .pointer (some ⟨b2, 0, none⟩), .pointer (some ⟨b3, 0, none⟩)] (w.alloc (.cells #[.int .i64 0, .int .i64 0] 30)) fun e W => e = .panicked (faultE k z) ∧ FB W w.heap.size 0 0 ∧ Φ W) :
    Calls Tryd.prog 31 #[.func (.func 32) #[] #[.pointer (some ⟨b0, 0, none⟩), .pointer (some ⟨b1, 0, none⟩), .pointer (some ⟨b2, 0, none⟩), .pointer (some ⟨b3, 0, none⟩)]] w fun e w' => e = .returned (.agg #[.int .i64 k, .int .i64 z]) ∧ ∃ W, FB W w.heap.size 0 0 ∧ Φ W ∧ w' = st2 W w.heap.size k z := by
  have hmf : ∀ (fn : Fn) (first cap : Array Value) (w : World), (Instr.makeFunc fn first cap).run Tryd.prog w = .ok (.func fn first cap) w := fun _ _ _ _ => rfl
  unfold faultE at hB
  go_enter_defers Tryd.func31, Tryd.ntmps31
  go_wp2_with fail
  refine hB.mono ?_
  rintro e w2 ⟨rfl, hf, hφ⟩
  have HF := hideK hf
  have HΦ := hideK hφ
  clear hf hφ hB
  go_wp2_with fail
  have B9 := st2_at HF.out k z
  refine leaves_cons (f := 52) (args := #[.pointer (some ⟨w.heap.size, 0, none⟩)]) (by simp) (by simp [go_sem]) ?_
  refine (catch_thrown w.heap.size k z 0 0 [] w2 HF.out.c0 HF.out.c1 HF.out.f0 HF.out.f1).mono ?_
  rintro e u' w3 ⟨rfl, rfl, rfl⟩
  change Leaves _ _ _ _ [] .returning (st2 w2 w.heap.size k z)
  obtain ⟨W9, hW⟩ : ∃ x, x = st2 w2 w.heap.size k z := ⟨_, rfl⟩
  rw [← hW] at B9 ⊢
  obtain ⟨_, r0, r1, _, _⟩ := B9
  exact ⟨.agg #[.int .i64 k, .int .i64 z], by simp [results, Tryd.results31, go_sem, r0, r1], rfl, w2, HF.out, HΦ.out, hW⟩
set_option maxRecDepth 100000 in
set_option maxHeartbeats 2000000 in
theorem rd1_any (tb b0 b1 b2 b3 : Nat) (s : ByteArray) (w : World) (h0 : w.cell? ⟨b0, 0, none⟩ = some (.string s)) (h1 : w.cell? ⟨b1, 0, none⟩ = some (.string ⟨#[32]⟩)) (h2 : w.cell? ⟨b2, 0, none⟩ = some (.int .i64 0)) (h3 : w.cell? ⟨b3, 0, none⟩ = some (.func (.func 16) #[] #[.pointer (some ⟨tb, 0, none⟩)])) (hz : ZT w tb) (hs : s.size ≤ 2000) :
    Calls Tryd.prog 32 #[.pointer (some ⟨b0, 0, none⟩), .pointer (some ⟨b1, 0, none⟩), .pointer (some ⟨b2, 0, none⟩), .pointer (some ⟨b3, 0, none⟩)] w fun e w' => P1Post w tb (psT s.data.toList) e w' := by
  have hmin : min 0 (s.size : Int) = 0 := by omega
  have hzl := hz.lt
  have hl3 := lt_of_cell h3
  have RS0 : RS (w.alloc (.cells #[.string s, .string ⟨#[32]⟩, .int .i64 0] 71)) w.heap.size s 0 := ⟨by go_cell, by go_cell, by go_cell, by go_simp, Nat.zero_le _, hs⟩
  have cP := pass_any w.heap.size 0 0 s _ RS0 (by omega)
  rw [rs_all] at cP
  have HF := hideK (FR.al (pb := tb) (w := w) (.cells #[.string s, .string ⟨#[32]⟩, .int .i64 0] 71))
  have HZ := hideK (hz.keep (FR.al (pb := w.heap.size) (w := w) (.cells #[.string s, .string ⟨#[32]⟩, .int .i64 0] 71)) (by omega))
  have H3 := hideK h3
  have H33 := hideK (show (w.alloc (.cells #[.string s, .string ⟨#[32]⟩, .int .i64 0] 71)).cell? ⟨b3, 0, none⟩ = w.cell? ⟨b3, 0, none⟩ from World.cell?_alloc_past _ _ _ hl3)
  clear hz RS0 h3
  cases hx : psT s.data.toList with
  | error x =>
    obtain ⟨c, a⟩ := x
    have HX := hideK hx
    clear hx
    simp only [P1Post]
    go_enter Tryd.func32, Tryd.ntmps32
    go_wp2_with fail
    refine cP.mono ?_
    rintro e w1 ⟨rfl, ⟨q, hq, hl⟩, hf1⟩
    have HF1 := hideK (HF.out.via hf1 (Nat.le_refl _))
    have HZ1 := hideK (HZ.out.keep hf1 (by omega))
    have c3 := (hf1.cellO (b := b3) (o := 0) (by simp; omega) (by omega)).trans (H33.out.trans H3.out)
    have HQ := hideK hq
    have HL := hideK hl
    clear cP hf1 hq hl
    go_wp2_with fail
    have cA := parse1_all w.heap.size tb q s w w1 HQ.out HZ1.out (by omega) HF1.out (Nat.le_refl _) HL.out
    rw [HX.out] at cA
    simp only [P1Post] at cA
    refine cA.mono ?_
    rintro e w2 ⟨rfl, hf2, hz2⟩
    go_wp2_with fail
    exact ⟨rfl, rfl, hf2, hz2⟩
  | ok t =>
    have HX := hideK hx
    clear hx
    simp only [P1Post]
    go_enter Tryd.func32, Tryd.ntmps32
    go_wp2_with fail
    refine cP.mono ?_
    rintro e w1 ⟨rfl, ⟨q, hq, hl⟩, hf1⟩
    have HF1 := hideK (HF.out.via hf1 (Nat.le_refl _))
    have HZ1 := hideK (HZ.out.keep hf1 (by omega))
    have c3 := (hf1.cellO (b := b3) (o := 0) (by simp; omega) (by omega)).trans (H33.out.trans H3.out)
    have HQ := hideK hq
    have HL := hideK hl
    clear cP hf1 hq hl
    go_wp2_with fail
    have cA := parse1_all w.heap.size tb q s w w1 HQ.out HZ1.out (by omega) HF1.out (Nat.le_refl _) HL.out
    rw [HX.out] at cA
    simp only [P1Post] at cA
    refine cA.mono ?_
    rintro e w2 ⟨rfl, hf2, hz2⟩
    go_wp2_with fail
    go_end0
    exact ⟨rfl, hf2, hz2⟩
/-- the boxes of Read -/
def rdB (tb : Nat) (s : ByteArray) (w : World) (c a : Int) : World := (((((w.alloc (.cells #[.string s] 9)).alloc (.cells #[.string ⟨#[32]⟩] 9)).alloc (.cells #[.int .i64 0] 3)).alloc (.cells #[.func (.func 16) #[] #[.pointer (some ⟨tb, 0, none⟩)]] 52)).alloc (.cells #[.int .i64 c, .int .i64 a] 30))
theorem rdB_fr (tb pb : Nat) (s : ByteArray) (w : World) (c a : Int) : FR pb w (rdB tb s w c a) := ((((FR.al _).trans (FR.al _)).trans (FR.al _)).trans (FR.al _)).trans (FR.al _)
theorem rdB_size (tb : Nat) (s : ByteArray) (w : World) (c a : Int) : (rdB tb s w c a).heap.size = w.heap.size + 5 := by simp [rdB]
theorem rdB_at (tb : Nat) (s : ByteArray) (w : World) (c a : Int) : (rdB tb s w c a).cell? ⟨w.heap.size, 0, none⟩ = some (.string s) ∧ (rdB tb s w c a).cell? ⟨w.heap.size + 1, 0, none⟩ = some (.string ⟨#[32]⟩) ∧ (rdB tb s w c a).cell? ⟨w.heap.size + 1 + 1, 0, none⟩ = some (.int .i64 0) ∧ (rdB tb s w c a).cell? ⟨w.heap.size + 1 + 1 + 1, 0, none⟩ = some (.func (.func 16) #[] #[.pointer (some ⟨tb, 0, none⟩)]) := by
  unfold rdB
  exact ⟨by go_cell, by go_cell, by go_cell, by go_cell⟩
theorem rdB_fb (tb : Nat) (s : ByteArray) (w : World) (c a : Int) : FB (rdB tb s w c a) (w.heap.size + 1 + 1 + 1 + 1) c a := by
  unfold rdB
  exact ⟨by simp, by go_cell, by go_cell, by go_simp, by go_simp⟩
theorem FB.other {W : World} {b b' : Nat} {c a c' a' : Int} (h : FB W b c a) (hn : b ≠ b') : FB (st2 W b' c' a') b c a :=
  ⟨by rw [st2_size]; exact h.lt, (st2_other _ _ _ _ _ _ hn).trans h.c0, (st2_other _ _ _ _ _ _ hn).trans h.c1, by rw [st2_frozen]; exact h.f0, by rw [st2_frozen]; exact h.f1⟩
/-- what Read leaves: the type in its block, or the fault -/
def RPost (w : World) (tb : Nat) (x : Except (Int × Nat) Ty) (e : Ending) (w' : World) : Prop :=
  match x with
  | .ok t => e = .returned (.agg #[.int .i64 0, .int .i64 0]) ∧ InTb w tb t w' ∧ FR tb w w'
  | .error (c, a) => e = .returned (.agg #[.int .i64 c, .int .i64 (a : Int)]) ∧ FR tb w w' ∧ ZT w' tb
set_option maxRecDepth 100000 in
set_option maxHeartbeats 2000000 in
theorem readP_large (tb : Nat) (s : ByteArray) (w : World) (hz : ZT w tb) (h2 : 2000 < s.size) : Calls Tryd.prog 15 #[.string s, .string ⟨#[32]⟩, .int .i64 0, .func (.func 16) #[] #[.pointer (some ⟨tb, 0, none⟩)]] w fun e w' =>  e = .returned (.agg #[.int .i64 2, .int .i64 0]) ∧ FR tb w w' ∧ ZT w' tb := by
  have hs2 : (s.size : Int) > 2000 := by omega
  have hzl := hz.lt
  have B9 := rdB_fb tb s w 2 0
  have F9 := hideK (rdB_fr tb tb s w 2 0)
  have Z9 := hideK (hz.keep (rdB_fr tb (w.heap.size + 1 + 1 + 1 + 1) s w 2 0) (by omega))
  go_enter Tryd.func15, Tryd.ntmps15
  go_wp2_with fail
  change bodyPost _ _ _ _ _ (rdB tb s w 2 0)
  generalize rdB tb s w 2 0 = W9 at B9 F9 Z9 ⊢
  obtain ⟨_, r0, r1, _, _⟩ := B9
  refine bodyPost_ret (v := .agg #[.int .i64 2, .int .i64 0]) (by simp [results, Tryd.results15, go_sem, r0, r1]) rfl ?_
  exact ⟨rfl, F9.out, Z9.out⟩
set_option maxRecDepth 100000 in
set_option maxHeartbeats 2000000 in
theorem readP_any (tb : Nat) (s : ByteArray) (w : World) (hz : ZT w tb) : Calls Tryd.prog 15 #[.string s, .string ⟨#[32]⟩, .int .i64 0, .func (.func 16) #[] #[.pointer (some ⟨tb, 0, none⟩)]] w fun e w' =>  RPost w tb (psT s.data.toList) e w' := by
  have hsz : s.data.toList.length = s.size := by simp
  by_cases h2 : 2000 < s.size
  · have e2 : psT s.data.toList = .error (2, 0) := by unfold psT; rw [if_pos (by rw [hsz]; exact h2)]
    rw [e2]
    exact readP_large tb s w hz h2
  have hs2 : ¬ (s.size : Int) > 2000 := by omega
  have hzl := hz.lt
  have hmf : ∀ (fn : Fn) (first cap : Array Value) (w : World), (Instr.makeFunc fn first cap).run Tryd.prog w = .ok (.func fn first cap) w := fun _ _ _ _ => rfl
  have A8 := rdB_at tb s w 0 0
  have hal : ∀ b, b < (rdB tb s w 0 0).heap.size → ((rdB tb s w 0 0).alloc (.cells #[.int .i64 0, .int .i64 0] 30)).cell? ⟨b, 0, none⟩ = (rdB tb s w 0 0).cell? ⟨b, 0, none⟩ := fun b hb => World.cell?_alloc_past _ _ _ hb
  have hn := rdB_size tb s w 0 0
  have HB := rdB_fr tb tb s w 0 0
  have cR := rd1_any tb w.heap.size (w.heap.size + 1) (w.heap.size + 1 + 1) (w.heap.size + 1 + 1 + 1) s ((rdB tb s w 0 0).alloc (.cells #[.int .i64 0, .int .i64 0] 30)) ((hal _ (by omega)).trans A8.1) ((hal _ (by omega)).trans A8.2.1) ((hal _ (by omega)).trans A8.2.2.1) ((hal _ (by omega)).trans A8.2.2.2) ((hz.keep (rdB_fr tb w.heap.size s w 0 0) (by omega)).keep (FR.al (pb := (rdB tb s w 0 0).heap.size) _) (by omega)) (by omega)
  clear hal hn hsz h2
  cases hx : psT s.data.toList with
  | error x =>
    obtain ⟨c, a⟩ := x
    rw [hx] at cR
    clear hx
    simp only [P1Post, RPost] at cR ⊢
    have cC := caughtP_bad w.heap.size (w.heap.size + 1) (w.heap.size + 1 + 1) (w.heap.size + 1 + 1 + 1) c (a : Int) (rdB tb s w 0 0) (fun W => FR tb ((rdB tb s w 0 0).alloc (.cells #[.int .i64 0, .int .i64 0] 30)) W ∧ ZT W tb) (cR.mono fun e W ⟨h1, h2, h3⟩ => ⟨h1, FB.keep (pb := tb) (al_fb _) h2 (by rw [rdB_size]; omega), h2, h3⟩)
    have HX := hideK HB
    have HE := hideK (rdB_fb tb s w 0 0)
    clear cR A8 hz
    simp only [rdB] at cC
    go_enter Tryd.func15, Tryd.ntmps15
    go_wp2_with fail
    refine cC.mono ?_
    rintro e W' ⟨rfl, W, hfb, hΦ, hW'⟩
    have HΦ := hideK hΦ
    have HF1 : Hid (FR tb (rdB tb s w 0 0) W') := by
      rw [hW']
      have q := (FR.al (pb := tb) (w := rdB tb s w 0 0) (.cells #[.int .i64 0, .int .i64 0] 30)).trans HΦ.out.1
      exact q.st2 (Nat.le_refl _) _ _
    have F4 := HE.out.keep HF1.out (by omega)
    have B9 := st2_at F4 c (a : Int)
    have HR := hideK (show (fun V => ZT V tb) (st2 W' (w.heap.size + 1 + 1 + 1 + 1) c (a : Int)) ∧ FR tb w (st2 W' (w.heap.size + 1 + 1 + 1 + 1) c (a : Int)) by
      refine ⟨?_, ((rdB_fr tb tb s w 0 0).trans HF1.out).st2 (by omega) _ _⟩
      rw [hW']
      exact ((HΦ.out.2.st2 (b := (rdB tb s w 0 0).heap.size) (by rw [rdB_size]; omega) c (a : Int)).st2 (by omega) c (a : Int)))
    clear hfb hΦ hW' HΦ HE HX
    obtain ⟨bl, c0, c1, g0, g1⟩ := F4
    go_wp2_with fail
    change bodyPost _ _ _ _ _ (st2 W' (w.heap.size + 1 + 1 + 1 + 1) c (a : Int))
    generalize st2 W' (w.heap.size + 1 + 1 + 1 + 1) c (a : Int) = W9 at B9 HR ⊢
    obtain ⟨_, r0, r1, _, _⟩ := B9
    refine bodyPost_ret (v := .agg #[.int .i64 c, .int .i64 (a : Int)]) (by simp [results, Tryd.results15, go_sem, r0, r1]) rfl ?_
    exact ⟨rfl, HR.out.2, HR.out.1⟩
  | ok t =>
    rw [hx] at cR
    clear hx
    simp only [P1Post, RPost] at cR ⊢
    have cC := caughtP_ok w.heap.size (w.heap.size + 1) (w.heap.size + 1 + 1) (w.heap.size + 1 + 1 + 1) (rdB tb s w 0 0) (fun W => InTb ((rdB tb s w 0 0).alloc (.cells #[.int .i64 0, .int .i64 0] 30)) tb t W ∧ FR tb ((rdB tb s w 0 0).alloc (.cells #[.int .i64 0, .int .i64 0] 30)) W) (cR.mono fun e W ⟨h1, h2, h3⟩ => ⟨h1, FB.keep (pb := tb) (al_fb _) h3 (by rw [rdB_size]; omega), h2, h3⟩)
    have HX := hideK HB
    have HE := hideK (rdB_fb tb s w 0 0)
    clear cR A8 hz
    simp only [rdB] at cC
    go_enter Tryd.func15, Tryd.ntmps15
    go_wp2_with fail
    refine cC.mono ?_
    rintro e W' ⟨rfl, W, hfb, hΦ, hW'⟩
    have HΦ := hideK hΦ
    have HF1 : Hid (FR tb (rdB tb s w 0 0) W') := by
      rw [hW']
      have q := (FR.al (pb := tb) (w := rdB tb s w 0 0) (.cells #[.int .i64 0, .int .i64 0] 30)).trans HΦ.out.2
      exact q.st2 (Nat.le_refl _) _ _
    have F4 := HE.out.keep HF1.out (by omega)
    have B9 := st2_at F4 0 0
    have HR := hideK (show InTb w tb t (st2 W' (w.heap.size + 1 + 1 + 1 + 1) 0 0) ∧ FR tb w (st2 W' (w.heap.size + 1 + 1 + 1 + 1) 0 0) by
      refine ⟨?_, ((rdB_fr tb tb s w 0 0).trans HF1.out).st2 (by omega) _ _⟩
      rw [hW']
      exact ((HΦ.out.1.st2 (w := (rdB tb s w 0 0).alloc (.cells #[.int .i64 0, .int .i64 0] 30)) (Nat.le_refl _) (by simp) (by simp <;> omega) 0 0).st2 (w := w) (by simp [rdB_size] <;> omega) (by simp [rdB_size] <;> omega) (by omega) 0 0))
    clear hfb hΦ hW' HΦ HE HX
    obtain ⟨bl, c0, c1, g0, g1⟩ := F4
    go_wp2_with fail
    change bodyPost _ _ _ _ _ (st2 W' (w.heap.size + 1 + 1 + 1 + 1) 0 0)
    generalize st2 W' (w.heap.size + 1 + 1 + 1 + 1) 0 0 = W9 at B9 HR ⊢
    obtain ⟨_, r0, r1, _, _⟩ := B9
    refine bodyPost_ret (v := .agg #[.int .i64 0, .int .i64 0]) (by simp [results, Tryd.results15, go_sem, r0, r1]) rfl ?_
    exact ⟨rfl, HR.out.1, HR.out.2⟩
end Go.Proofs.YtefdekfgmbgbbaaDoor
