/-
  The contracts of package wires' readings of texts: of a value's and of a type's.
-/
import Derived.Test.YtefdekfgmbgbbaaGreatDoorWif
namespace Go.Proofs.YtefdekfgmbgbbaaGreatDoor
open Go.RowKit Go.Shelf

/-- a block for a value that is still empty -/
structure ZV (W : World) (b : Nat) : Prop where
  lt : b < W.heap.size
  c0 : W.cell? ⟨b, 0, none⟩ = some (.int .i64 0)
  c1 : W.cell? ⟨b, 1, none⟩ = some (.int .i64 0)
  c2 : W.cell? ⟨b, 2, none⟩ = some (.string ⟨#[]⟩)
  f0 : W.frozen? ⟨b, 0, none⟩ = false
  f1 : W.frozen? ⟨b, 1, none⟩ = false
  f2 : W.frozen? ⟨b, 2, none⟩ = false
theorem ZV.new (W : World) : ZV (W.alloc (.cells #[.int .i64 0, .int .i64 0, .string ⟨#[]⟩] 27)) W.heap.size :=
  ⟨by simp, by go_cell, by go_cell, by go_cell, by go_simp, by go_simp, by go_simp⟩
theorem ZV.keep {W W' : World} {rb b : Nat} (h : ZV W b) (hf : FR rb W W') (hn : b ≠ rb) : ZV W' b :=
  ⟨Nat.lt_of_lt_of_le h.lt hf.size, (hf.cellO h.lt hn).trans h.c0, (hf.cellO h.lt hn).trans h.c1, (hf.cellO h.lt hn).trans h.c2, (hf.frozenO h.lt hn).trans h.f0, (hf.frozenO h.lt hn).trans h.f1, (hf.frozenO h.lt hn).trans h.f2⟩
theorem FR.stV {rb b : Nat} {w W : World} (h : FR rb w W) (hb : w.heap.size ≤ b) (v0 v1 v2 : Value) : FR rb w (stV W b v0 v1 v2) := by
  unfold Go.Proofs.YtefdekfgmbgbbaaGreatDoor.stV
  exact ((h.setN hb _).setN hb _).setN hb _
theorem WRd.stV {W : World} {rb b p : Nat} {s : ByteArray} (h : WRd W rb s p) (hn : b ≠ rb) (v0 v1 v2 : Value) : WRd (stV W b v0 v1 v2) rb s p :=
  ⟨(stV_other _ _ _ _ _ _ _ (Ne.symm hn)).trans h.c0, (stV_other _ _ _ _ _ _ _ (Ne.symm hn)).trans h.c1, by unfold Go.Proofs.YtefdekfgmbgbbaaGreatDoor.stV; simp only [World.frozen?_setCell]; exact h.fz, h.le, h.sz⟩
theorem WRd.st {W : World} {rb b p : Nat} {s : ByteArray} (h : WRd W rb s p) (hn : b ≠ rb) (v0 v1 v2 v3 v4 : Value) : WRd (st5 W b 0 v0 v1 v2 v3 v4) rb s p :=
  ⟨(st5_other _ _ _ _ _ _ _ _ _ _ (.inl (Ne.symm hn))).trans h.c0, (st5_other _ _ _ _ _ _ _ _ _ _ (.inl (Ne.symm hn))).trans h.c1, by rw [st5_frozen]; exact h.fz, h.le, h.sz⟩
/-- tables that lie below a block -/
def TabB (Tabs : World → Prop) (B0 : Nat) (w : World) : Prop := Tabs w ∧ B0 ≤ w.heap.size
theorem TabB.v {V : ByteArray → Bool} {Tabs : World → Prop} {B0 : Nat} (h : VSaid V Tabs) : VSaid V (TabB Tabs B0) := fun s w hs hT => h s w hs hT.1
theorem TabB.k {Tabs : World → Prop} {B0 : Nat} (hK : ∀ w w', Tabs w → Below B0 w w' → Tabs w') : ∀ w w', TabB Tabs B0 w → Below w.heap.size w w' → TabB Tabs B0 w' := fun w w' h hb => ⟨hK w w' h.1 (hb.mono h.2), Nat.le_trans h.2 hb.size⟩
section
variable {V : ByteArray → Bool} {Tabs : World → Prop} {B0 : Nat}
set_option maxRecDepth 100000 in
set_option maxHeartbeats 4000000 in
theorem readVl_any (hV : VSaid V Tabs) (hK : ∀ w w', Tabs w → Below B0 w w' → Tabs w') (rb p : Nat) (s : ByteArray) (w : World) (hB : B0 ≤ rb) (hT : Tabs w) (h : WRd w rb s p) :
    Calls Tryz.prog 47 #[.pointer (some ⟨rb, 0, none⟩), .func (.func 48) #[] #[]] w fun e w' => WPost s rb (fun _ a v => v = .agg #[.int .i64 3, .int .i64 0, .string a]) (wiT (asVal V) (rs s p)) e w' ∧ FR rb w w' := by
  have HT := hideK (thrown_at s p h.le)
  have hA : Below w.heap.size w (w.alloc (.cells #[.int .i64 0, .int .i64 0, .string ⟨#[]⟩] 27)) := (Below.refl _ _).alloc (Nat.le_refl _) _
  have H := hideK (h.keep hA)
  have hrl := h.lt
  have hsz := h.sz
  have FA := hideK (FR.of (pb := rb) hA)
  obtain ⟨c0, c1, fz, _, _⟩ := id H.out
  clear h
  unfold wiT
  cases hN : wiN (rs s p) with
  | error r =>
    simp only [WPost]
    go_enter Tryz.func47, Tryz.ntmps47
    go_wp2_with (go_at_call 46; refine (number_bad hN rb p s _ H.out rfl).mono ?_; rintro e w1 ⟨rfl, hf1⟩)
    exact ⟨rfl, rfl, FA.out.trans hf1⟩
  | ok x =>
    obtain ⟨n, r⟩ := x
    have CN := hideK (number_ok hN rb p s _ H.out rfl)
    have hn64 := (wiN_conv hN).2
    clear hN
    simp only
    by_cases hl : r.length < n
    · rw [if_pos hl]
      simp only [WPost]
      rw [HT.out]
      go_enter Tryz.func47, Tryz.ntmps47
      go_wp2_with (go_at_call 46; refine CN.out.mono ?_; rintro e w1 ⟨rfl, ⟨q, hq, hlq⟩, hf1⟩)
      obtain ⟨d0, d1, gz, hle2, hsz2⟩ := hq
      obtain ⟨hx, ht, hr, _⟩ := rest_facts (n := n) hle2 hlq
      have hz : (q : Int) ≤ (s.size : Int) := by omega
      have h0q : (0 : Int) ≤ (q : Int) := by omega
      have hgt : (n : Int) > ((bs r).size : Int) := by omega
      have hts : ((bs r).size : Int) ≤ 281474976710656 := by omega
      clear hlq ht hr hl
      generalize bs r = t at *
      go_quiet (fail)
      go_wp2_with (go_at_call 44; refine (cannotBe_any _ _).mono ?_; rintro e w2 ⟨rfl, hb2⟩)
      exact ⟨rfl, rfl, ((FA.out.trans hf1).trans (FR.of (belowN w1 _))).trans (FR.of hb2)⟩
    · rw [if_neg hl]
      cases hq0 : (asVal V) (r.take n) with
      | none =>
        have hnm : (textZ V 0 (bs (r.take n)) == 0) = false := by
          unfold asVal at hq0
          split at hq0
          · cases hq0
          · next hh => simpa using hh
        simp only [WPost]
        rw [HT.out]
        go_enter Tryz.func47, Tryz.ntmps47
        go_wp2_with (go_at_call 46; refine CN.out.mono ?_; rintro e w1 ⟨rfl, ⟨q, hq, hlq⟩, hf1⟩)
        obtain ⟨d0, d1, gz, hle2, hsz2⟩ := hq
        obtain ⟨hx, ht, hr, hx2⟩ := rest_facts (n := n) hle2 hlq
        have hz : (q : Int) ≤ (s.size : Int) := by omega
        have h0q : (0 : Int) ≤ (q : Int) := by omega
        have hgt : ¬ (n : Int) > ((bs r).size : Int) := by omega
        have hts : ((bs r).size : Int) ≤ 281474976710656 := by omega
        have hus : (bs (r.take n)).size ≤ 281474976710656 := by rw [bs_size, List.length_take]; omega
        have cC := hideK (fun W => cloneT_any (bs (r.take n)) W hus)
        have FB0 := hideK (FA.out.trans hf1)
        have cA := hideK (fun (W : World) (hf : FR rb w W) => asValue_any (TabB.v (B0 := B0) hV) (TabB.k hK) (bs (r.take n)) W (by omega) ⟨hK w W hT ((hf.below (Nat.le_of_lt hrl)).mono hB), by have := hf.size; omega⟩)
        rw [hnm] at cA
        clear hlq ht hr hl hq0 hus
        generalize bs (r.take n) = u at *
        generalize bs r = t at *
        go_quiet (fail)
        go_wp2_with (first
          | (go_at_call 49; refine (cC.out _).mono ?_; rintro e w2 ⟨rfl, hb2⟩; have F2 := hideK ((FB0.out.trans (FR.of (belowN w1 _))).trans (FR.of hb2)))
          | (go_at_call 48; refine (cA.out _ F2.out).mono ?_; rintro e w3 ⟨rfl, hb3⟩)
          | (go_at_call 44; refine (cannotBe_any _ _).mono ?_; rintro e w4 ⟨rfl, hb4⟩))
        exact ⟨rfl, rfl, (F2.out.trans (FR.of hb3)).trans (((FR.al _)).trans (FR.of hb4))⟩
      | some a =>
        have hnm : (textZ V 0 (bs (r.take n)) == 0) = true ∧ a = bs (r.take n) := by
          unfold asVal at hq0
          split at hq0
          · next hh => injection hq0 with hq0; exact ⟨by simpa using hh, hq0.symm⟩
          · cases hq0
        obtain ⟨hnm, ha⟩ := hnm
        have HN := hideK (fun q (_ : WRd (w.alloc (.cells #[.int .i64 0, .int .i64 0, .string ⟨#[]⟩] 27)) rb s q) => True.intro)
        simp only [WPost]
        go_enter Tryz.func47, Tryz.ntmps47
        go_wp2_with (go_at_call 46; refine CN.out.mono ?_; rintro e w1 ⟨rfl, ⟨q, hq, hlq⟩, hf1⟩)
        clear HN
        have HQ := hideK hq
        have FB0 := hideK (FA.out.trans hf1)
        obtain ⟨d0, d1, gz, hle2, hsz2⟩ := hq
        obtain ⟨hx, ht, hr, hx2⟩ := rest_facts (n := n) hle2 hlq
        have hz : (q : Int) ≤ (s.size : Int) := by omega
        have h0q : (0 : Int) ≤ (q : Int) := by omega
        have hgt : ¬ (n : Int) > ((bs r).size : Int) := by omega
        have hts : ((bs r).size : Int) ≤ 281474976710656 := by omega
        have hus : (bs (r.take n)).size ≤ 281474976710656 := by rw [bs_size, List.length_take]; omega
        have cC := hideK (fun W => cloneT_any (bs (r.take n)) W hus)
        rw [← ha] at hus cC hx2
        have cA := hideK (fun (W : World) (hf : FR rb w W) => asValue_any (TabB.v (B0 := B0) hV) (TabB.k hK) a W (by omega) ⟨hK w W hT ((hf.below (Nat.le_of_lt hrl)).mono hB), by have := hf.size; omega⟩)
        rw [show (textZ V 0 a == 0) = true by rw [ha]; exact hnm] at cA
        have HN := hideK (show q + n ≤ s.size by omega)
        have HR := hideK (show rs s (q + n) = r.drop n by rw [rs_drop, hlq])
        have HI := hideK (show (q : Int) + (n : Int) = ((q + n : Nat) : Int) by omega)
        have hqn : (q : Int) + (n : Int) ≤ 281474976710656 := by omega
        have hnn : (n : Int) ≤ 281474976710656 := by omega
        have ZR := hideK ((ZV.new w).keep hf1 (by omega))
        clear hlq ht hr hl hq0 hus
        clear hnm ha
        generalize bs r = t at *
        go_quiet (fail)
        go_wp2_with (first
          | (go_at_call 49; refine (cC.out _).mono ?_; rintro e w2 ⟨rfl, hb2⟩; have H2 := hideK ((HQ.out.keep (belowN w1 _)).keep hb2); have F2 := hideK ((FB0.out.trans (FR.of (belowN w1 _))).trans (FR.of hb2)); have Z2 := hideK ((ZR.out.keep (FR.of (pb := rb) (belowN w1 _)) (by omega)).keep (FR.of (pb := rb) hb2) (by omega)))
          | (go_at_call 48; go_must (refine (cA.out _ F2.out).mono ?_; rintro e w3 ⟨rfl, hb3⟩; have H3 := hideK (H2.out.keep hb3); have F3 := hideK (F2.out.trans (FR.of hb3)); have Z3 := hideK (Z2.out.keep (FR.of (pb := rb) hb3) (by omega)); have hlt3 := H3.out.lt; obtain ⟨f0, f1, fz3, _, _⟩ := id H3.out; obtain ⟨zl, z0, z1, z2, y0, y1, y2⟩ := id Z3.out)))
        rw [HI.out]
        have hal : ∀ b o, b < w3.heap.size → ((stV (w3.setCell ⟨rb, 1, none⟩ (.int .i64 ((q + n : Nat) : Int))) w.heap.size (.int .i64 3) (.int .i64 0) (.string a)).alloc (.cells #[.int .i64 3, .int .i64 0, .string a] 27)).cell? ⟨b, o, none⟩ = (stV (w3.setCell ⟨rb, 1, none⟩ (.int .i64 ((q + n : Nat) : Int))) w.heap.size (.int .i64 3) (.int .i64 0) (.string a)).cell? ⟨b, o, none⟩ := fun b o hb => World.cell?_alloc_past _ _ _ (by rw [stV_size]; simpa using hb)
        have HS0 := stV_at (W := (w3.setCell ⟨rb, 1, none⟩ (.int .i64 ((q + n : Nat) : Int)))) (b := w.heap.size) (u0 := .int .i64 0) (u1 := .int .i64 0) (u2 := .string ⟨#[]⟩) (by go_cell) (by go_cell) (by go_cell) (.int .i64 3) (.int .i64 0) (.string a)
        have HS := hideK (And.intro ((hal _ 0 zl).trans HS0.1) (And.intro ((hal _ 1 zl).trans HS0.2.1) ((hal _ 2 zl).trans HS0.2.2)))
        have HW := hideK ((WRd.stV (H3.out.set _ HN.out) (b := w.heap.size) (by omega) (.int .i64 3) (.int .i64 0) (.string a)).keep ((Below.refl _ _).alloc (Nat.le_refl _) (.cells #[.int .i64 3, .int .i64 0, .string a] 27)))
        have HFR := hideK ((FR.stV (F3.out.trans (FR.set2 1 (.int .i64 ((q + n : Nat) : Int)))) (b := w.heap.size) (Nat.le_refl _) (.int .i64 3) (.int .i64 0) (.string a)).trans (FR.al (.cells #[.int .i64 3, .int .i64 0, .string a] 27)))
        clear HS0 hal
        change bodyPost _ _ _ _ _ ((stV (w3.setCell ⟨rb, 1, none⟩ (.int .i64 ((q + n : Nat) : Int))) w.heap.size (.int .i64 3) (.int .i64 0) (.string a)).alloc (.cells #[.int .i64 3, .int .i64 0, .string a] 27))
        generalize ((stV (w3.setCell ⟨rb, 1, none⟩ (.int .i64 ((q + n : Nat) : Int))) w.heap.size (.int .i64 3) (.int .i64 0) (.string a)).alloc (.cells #[.int .i64 3, .int .i64 0, .string a] 27)) = W9 at HS HW HFR ⊢
        obtain ⟨r0, r1, r2⟩ := HS.out
        refine bodyPost_ret (v := .agg #[.int .i64 3, .int .i64 0, .string a]) (by simp [results, Tryz.results47, go_sem, r0, r1, r2]) rfl ?_
        exact ⟨⟨_, rfl, rfl, _, HW.out, HR.out⟩, HFR.out⟩
end
end Go.Proofs.YtefdekfgmbgbbaaGreatDoor
