/-
  graph.typeFrom where there are too many parts, and where it has come back to a node.
-/
import Derived.Test.YtnedgkcejlhnbaaDoorUj
namespace Go.Proofs.YtnedgkcejlhnbaaDoor
open Go.RowKit Go.Shelf

/-- the box of the result, empty -/
structure RBX (W : World) (b : Nat) : Prop where
  c0 : W.cell? ⟨b, 0, none⟩ = some (.int .i64 0)
  c1 : W.cell? ⟨b, 1, none⟩ = some (.int .i64 0)
  c2 : W.cell? ⟨b, 2, none⟩ = some (.string ⟨#[]⟩)
  c3 : W.cell? ⟨b, 3, none⟩ = some (.slice none 0 0)
  c4 : W.cell? ⟨b, 4, none⟩ = some (.slice none 0 0)
  f : ∀ o, W.frozen? ⟨b, o, none⟩ = false
  lt : b < W.heap.size
theorem RBX.new (w : World) : RBX (w.alloc (.cells #[.int .i64 0, .int .i64 0, .string ⟨#[]⟩, .slice none 0 0, .slice none 0 0] 35)) w.heap.size :=
  ⟨by go_cell, by go_cell, by go_cell, by go_cell, by go_cell, fun o => by go_simp, by simp⟩
theorem RBX.set {W : World} {b : Nat} (h : RBX W b) {b' o' : Nat} (hn : b ≠ b') (v : Value) : RBX (W.setCell ⟨b', o', none⟩ v) b :=
  ⟨(cell_set _ (.inl hn)).trans h.c0, (cell_set _ (.inl hn)).trans h.c1, (cell_set _ (.inl hn)).trans h.c2, (cell_set _ (.inl hn)).trans h.c3, (cell_set _ (.inl hn)).trans h.c4, fun o => (World.frozen?_setCell _ _ _ _).trans (h.f o), by simpa using h.lt⟩
theorem WY.st {n : Nat} {ag : Option Addr} {cg wb pb mb : Nat} {ps : Nat → Bool} {st : SB} {W : World} (h : WY n ag cg wb pb mb ps st W) {b : Nat} (h1 : wb ≠ b) (h2 : pb ≠ b) (h3 : mb ≠ b) (v0 v1 v2 v3 v4 : Value) : WY n ag cg wb pb mb ps st (st5 W b 0 v0 v1 v2 v3 v4) :=
  ⟨(st5_other _ _ _ _ _ _ _ _ _ _ (.inl h1)).trans h.c0, (st5_other _ _ _ _ _ _ _ _ _ _ (.inl h1)).trans h.c1, (st5_other _ _ _ _ _ _ _ _ _ _ (.inl h1)).trans h.c2, (st5_other _ _ _ _ _ _ _ _ _ _ (.inl h1)).trans h.c3, fun i hi => (st5_other _ _ _ _ _ _ _ _ _ _ (.inl h2)).trans (h.p i hi), fun i hi => (st5_other _ _ _ _ _ _ _ _ _ _ (.inl h3)).trans (h.m i hi), fun o => (st5_frozen _ _ _ _ _ _ _ _ _).trans (h.fw o), fun o => (st5_frozen _ _ _ _ _ _ _ _ _).trans (h.fp o), fun o => (st5_frozen _ _ _ _ _ _ _ _ _).trans (h.fm o), h.wp, h.wm, h.pm, by rw [st5_size]; exact h.lw, by rw [st5_size]; exact h.lp, by rw [st5_size]; exact h.lm⟩
theorem But3.st {wb pb mb : Nat} {w W : World} (h : But3 wb pb mb w W) {b : Nat} (hb : w.heap.size ≤ b) (v0 v1 v2 v3 v4 : Value) : But3 wb pb mb w (st5 W b 0 v0 v1 v2 v3 v4) := by
  unfold st5
  exact ((((h.set (.inr (.inr (.inr hb))) _).set (.inr (.inr (.inr hb))) _).set (.inr (.inr (.inr hb))) _).set (.inr (.inr (.inr hb))) _).set (.inr (.inr (.inr hb))) _
set_option maxRecDepth 100000 in
set_option maxHeartbeats 4000000 in
theorem typeFrom_over (g : List Nd) (f : Nat) (ag : Option Addr) (cg wb pb mb : Nat) (ps : Nat → Bool) (i : Nat) (met : Nat → Bool) (q : Nat) (w : World) (h60 : 60 < q + 1) (hq : q ≤ 100000) (hW : WY g.length ag cg wb pb mb ps (met, q) w) :
    Calls Tryd.prog 25 #[.pointer (some ⟨wb, 0, none⟩), .int .i64 (i : Int)] w (BKPost g (f + 1) ag cg wb pb mb ps i (met, q) w) := by
  have hbk : bkT g (f + 1) ps i (met, q) = (zT, (met, q + 1)) := by rw [bkT, if_pos h60]
  unfold BKPost
  rw [hbk]
  have hlt := hW.lw
  have hlp := hW.lp
  have hlm := hW.lm
  have W1 := hideK (hW.keep ((Below.refl _ _).alloc (Nat.le_refl _) (.cells #[.int .i64 0, .int .i64 0, .string ⟨#[]⟩, .slice none 0 0, .slice none 0 0] 35)))
  have c3 := W1.out.c3
  have f3 := W1.out.fw 3
  have hs' : (w.setCell ⟨wb, 3, none⟩ (.int .i64 ((q : Int) + 1))).heap.size = w.heap.size := by simp
  have HF := hideK ((hW.part (z := (q : Int) + 1) (by omega)).keep ((Below.refl _ _).alloc (Nat.le_refl _) (.cells #[.int .i64 0, .int .i64 0, .string ⟨#[]⟩, .slice none 0 0, .slice none 0 0] 35)))
  have HR := hideK (show RBX _ w.heap.size from hs' ▸ RBX.new (w.setCell ⟨wb, 3, none⟩ (.int .i64 ((q : Int) + 1))))
  have HB := hideK (((But3.refl wb pb mb w).set (b := wb) (o := 3) (.inl rfl) (.int .i64 ((q : Int) + 1))).trans (But3.below ((Below.refl _ _).alloc (Nat.le_refl _) (.cells #[.int .i64 0, .int .i64 0, .string ⟨#[]⟩, .slice none 0 0, .slice none 0 0] 35))))
  have hz : (60 : Int) < (q : Int) + 1 := by omega
  have hz2 : (q : Int) ≤ 100000 := by omega
  have c3' : ((w.setCell ⟨wb, 3, none⟩ (.int .i64 ((q : Int) + 1))).alloc (.cells #[.int .i64 0, .int .i64 0, .string ⟨#[]⟩, .slice none 0 0, .slice none 0 0] 35)).cell? ⟨wb, 3, none⟩ = some (.int .i64 ((q : Int) + 1)) := HF.out.c3
  clear hW hbk
  simp only [tyVal, zT, List.length_nil]
  go_enter Tryd.func25, Tryd.ntmps25
  go_upto_region 2 with fail
  generalize ((w.setCell ⟨wb, 3, none⟩ (.int .i64 ((q : Int) + 1))).alloc (.cells #[.int .i64 0, .int .i64 0, .string ⟨#[]⟩, .slice none 0 0, .slice none 0 0] 35)) = W2 at *
  clear c3 f3 W1
  obtain ⟨z0, z1, z2, z3, z4, zf, _⟩ := HR.out
  have f0 := zf 0
  have f1 := zf 1
  have f2 := zf 2
  have f3 := zf 3
  have f4 := zf 4
  clear zf
  have HF2 := hideK (HF.out.st (b := w.heap.size) (by omega) (by omega) (by omega) (.int .i64 0) (.int .i64 0) (.string ⟨#[]⟩) (.slice none 0 0) (.slice none 0 0))
  have HB2 := hideK (HB.out.st (b := w.heap.size) (Nat.le_refl _) (.int .i64 0) (.int .i64 0) (.string ⟨#[]⟩) (.slice none 0 0) (.slice none 0 0))
  have HTA := hideK (show TyAt (st5 W2 w.heap.size 0 (.int .i64 0) (.int .i64 0) (.string ⟨#[]⟩) (.slice none 0 0) (.slice none 0 0)) w.heap.size 0 zT none 0 none 0 from st5_at W2 _ 0 zT none 0 none 0 (fun j hj => by
    rw [Nat.zero_add]
    have : j = 0 ∨ j = 1 ∨ j = 2 ∨ j = 3 ∨ j = 4 := by omega
    rcases this with rfl | rfl | rfl | rfl | rfl
    · exact ⟨_, z0⟩
    · exact ⟨_, z1⟩
    · exact ⟨_, z2⟩
    · exact ⟨_, z3⟩
    · exact ⟨_, z4⟩))
  go_wp2_with fail
  change bodyPost _ _ _ _ _ (st5 W2 w.heap.size 0 (.int .i64 0) (.int .i64 0) (.string ⟨#[]⟩) (.slice none 0 0) (.slice none 0 0))
  generalize st5 W2 w.heap.size 0 (.int .i64 0) (.int .i64 0) (.string ⟨#[]⟩) (.slice none 0 0) (.slice none 0 0) = W9 at *
  obtain ⟨r0, r1, r2, r3, r4⟩ := HTA.out
  simp only [Nat.zero_add, zT, List.length_nil] at r0 r1 r2 r3 r4
  refine bodyPost_ret (v := .agg #[.int .i64 0, .int .i64 0, .string ⟨#[]⟩, .slice none 0 0, .slice none 0 0]) (by simp [results, Tryd.results25, go_sem, r0, r1, r2, r3, r4]) rfl ?_
  exact ⟨⟨none, 0, none, 0, rfl, ⟨by decide, (fun l hl => by cases hl), Nat.le_refl _, by decide, Nat.le_refl _, by decide⟩, .inl rfl, 0, rfl⟩, HF2.out, HB2.out⟩
end Go.Proofs.YtnedgkcejlhnbaaDoor
/-
  graph.typeFrom where it has come back to a node.
-/
namespace Go.Proofs.YtnedgkcejlhnbaaDoor
open Go.RowKit Go.Shelf

theorem RBX.keep {W W' : World} {b : Nat} (h : RBX W b) (hb : Below W.heap.size W W') : RBX W' b :=
  ⟨(hb.cell (p := ⟨b, 0, none⟩) h.lt).trans h.c0, (hb.cell (p := ⟨b, 1, none⟩) h.lt).trans h.c1, (hb.cell (p := ⟨b, 2, none⟩) h.lt).trans h.c2, (hb.cell (p := ⟨b, 3, none⟩) h.lt).trans h.c3, (hb.cell (p := ⟨b, 4, none⟩) h.lt).trans h.c4, fun o => (hb.frozen (p := ⟨b, o, none⟩) h.lt).trans (h.f o), Nat.lt_of_lt_of_le h.lt hb.size⟩
theorem nmN_size (i : Nat) : (nmN i).size ≤ 9223372036854775807 := by
  unfold nmN
  split
  · show (1 : Nat) ≤ _; omega
  · show (2 : Nat) ≤ _; omega
set_option maxRecDepth 100000 in
set_option maxHeartbeats 4000000 in
theorem typeFrom_var (g : List Nd) (f : Nat) (ag : Option Addr) (cg wb pb mb : Nat) (ps : Nat → Bool) (i : Nat) (met : Nat → Bool) (q : Nat) (w : World) (h60 : ¬ 60 < q + 1) (hi : i < g.length) (hg : g.length ≤ 200) (hps : ps i = true) (hW : WY g.length ag cg wb pb mb ps (met, q) w) :
    Calls Tryd.prog 25 #[.pointer (some ⟨wb, 0, none⟩), .int .i64 (i : Int)] w (BKPost g (f + 1) ag cg wb pb mb ps i (met, q) w) := by
  have hbk : bkT g (f + 1) ps i (met, q) = (varT (nmN i), (upB met i true, q + 1)) := by rw [bkT, if_neg h60, if_pos hps]
  unfold BKPost
  rw [hbk]
  have hlt := hW.lw
  have hlp := hW.lp
  have hlm := hW.lm
  have W1 := hideK (hW.keep ((Below.refl _ _).alloc (Nat.le_refl _) (.cells #[.int .i64 0, .int .i64 0, .string ⟨#[]⟩, .slice none 0 0, .slice none 0 0] 35)))
  have c3 := W1.out.c3
  have f3 := W1.out.fw 3
  have hs' : (w.setCell ⟨wb, 3, none⟩ (.int .i64 ((q : Int) + 1))).heap.size = w.heap.size := by simp
  have HF := hideK ((hW.part (z := (q : Int) + 1) (by omega)).keep ((Below.refl _ _).alloc (Nat.le_refl _) (.cells #[.int .i64 0, .int .i64 0, .string ⟨#[]⟩, .slice none 0 0, .slice none 0 0] 35)))
  have HR := hideK (show RBX _ w.heap.size from hs' ▸ RBX.new (w.setCell ⟨wb, 3, none⟩ (.int .i64 ((q : Int) + 1))))
  have HB := hideK (((But3.refl wb pb mb w).set (b := wb) (o := 3) (.inl rfl) (.int .i64 ((q : Int) + 1))).trans (But3.below ((Below.refl _ _).alloc (Nat.le_refl _) (.cells #[.int .i64 0, .int .i64 0, .string ⟨#[]⟩, .slice none 0 0, .slice none 0 0] 35))))
  have hz : ¬ (60 : Int) < (q : Int) + 1 := by omega
  have hz2 : (q : Int) ≤ 100000 := by omega
  have hi0 : (0 : Int) ≤ (i : Int) := by omega
  have hin : (i : Int) < (g.length : Int) := by omega
  have HC := hideK (fun W => nodeName_any i (by omega) W)
  have c3' : ((w.setCell ⟨wb, 3, none⟩ (.int .i64 ((q : Int) + 1))).alloc (.cells #[.int .i64 0, .int .i64 0, .string ⟨#[]⟩, .slice none 0 0, .slice none 0 0] 35)).cell? ⟨wb, 3, none⟩ = some (.int .i64 ((q : Int) + 1)) := HF.out.c3
  clear hW hbk
  simp only [tyVal, varT, List.length_nil]
  go_enter Tryd.func25, Tryd.ntmps25
  go_upto_region 2 with fail
  generalize ((w.setCell ⟨wb, 3, none⟩ (.int .i64 ((q : Int) + 1))).alloc (.cells #[.int .i64 0, .int .i64 0, .string ⟨#[]⟩, .slice none 0 0, .slice none 0 0] 35)) = W2 at *
  clear c3 f3 W1
  have p1 := HF.out.c1
  have p2 := HF.out.p i hi
  rw [hps] at p2
  have m1 := HF.out.c2
  have m2 := HF.out.m i hi
  have m3 := HF.out.fm i
  have HF3 := hideK (HF.out.meet hi true)
  have HB3 := hideK (HB.out.set (b := mb) (o := i) (.inr (.inr (.inl rfl))) (.bool true))
  have HR3 := hideK (HR.out.set (b' := mb) (o' := i) (by omega) (.bool true))
  go_upto_region 6 with fail
  generalize W2.setCell ⟨mb, i, none⟩ (.bool true) = W3 at *
  clear p1 p2 m1 m2 m3 HF HB HR c3'
  go_wp2_with fail
  refine (HC.out _).mono ?_
  rintro e w4 ⟨rfl, hb4⟩
  have HF4 := hideK (HF3.out.keep hb4)
  have HB4 := hideK (HB3.out.trans (But3.below hb4))
  obtain ⟨z0, z1, z2, z3, z4, zf, _⟩ := HR3.out.keep hb4
  have f0 := zf 0
  have f1 := zf 1
  have f2 := zf 2
  have f3 := zf 3
  have f4 := zf 4
  clear zf hb4 HF3 HB3 HR3 HC
  have HF5 := hideK (HF4.out.st (b := w.heap.size) (by omega) (by omega) (by omega) (.int .i64 9) (.int .i64 0) (.string (nmN i)) (.slice none 0 0) (.slice none 0 0))
  have HB5 := hideK (HB4.out.st (b := w.heap.size) (Nat.le_refl _) (.int .i64 9) (.int .i64 0) (.string (nmN i)) (.slice none 0 0) (.slice none 0 0))
  have HTA := hideK (show TyAt (st5 w4 w.heap.size 0 (.int .i64 9) (.int .i64 0) (.string (nmN i)) (.slice none 0 0) (.slice none 0 0)) w.heap.size 0 (varT (nmN i)) none 0 none 0 from st5_at w4 _ 0 (varT (nmN i)) none 0 none 0 (fun j hj => by
    rw [Nat.zero_add]
    have : j = 0 ∨ j = 1 ∨ j = 2 ∨ j = 3 ∨ j = 4 := by omega
    rcases this with rfl | rfl | rfl | rfl | rfl
    · exact ⟨_, z0⟩
    · exact ⟨_, z1⟩
    · exact ⟨_, z2⟩
    · exact ⟨_, z3⟩
    · exact ⟨_, z4⟩))
  have HSZ := hideK (nmN_size i)
  go_wp2_with fail
  change bodyPost _ _ _ _ _ (st5 w4 w.heap.size 0 (.int .i64 9) (.int .i64 0) (.string (nmN i)) (.slice none 0 0) (.slice none 0 0))
  generalize st5 w4 w.heap.size 0 (.int .i64 9) (.int .i64 0) (.string (nmN i)) (.slice none 0 0) (.slice none 0 0) = W9 at *
  obtain ⟨r0, r1, r2, r3, r4⟩ := HTA.out
  simp only [Nat.zero_add, varT, List.length_nil] at r0 r1 r2 r3 r4
  refine bodyPost_ret (v := .agg #[.int .i64 9, .int .i64 0, .string (nmN i), .slice none 0 0, .slice none 0 0]) (by simp [results, Tryd.results25, go_sem, r0, r1, r2, r3, r4]) rfl ?_
  exact ⟨⟨none, 0, none, 0, 0, rfl, ⟨HSZ.out, (fun l hl => by cases hl), Nat.le_refl _, by decide, Nat.le_refl _, by decide⟩, .inl rfl, rfl⟩, HF5.out, HB5.out⟩
end Go.Proofs.YtnedgkcejlhnbaaDoor
