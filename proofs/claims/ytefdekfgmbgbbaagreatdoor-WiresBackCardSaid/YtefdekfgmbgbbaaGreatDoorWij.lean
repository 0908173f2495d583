/-
  The contract of (*wires.reader).event.
-/
import Derived.Test.YtefdekfgmbgbbaaGreatDoorWiga
import Derived.Test.YtefdekfgmbgbbaaGreatDoorWip
namespace Go.Proofs.YtefdekfgmbgbbaaGreatDoor
open Go.RowKit Go.Shelf

theorem BXN.keepF {W W' : World} {b n rb : Nat} (h : BXN W b n) (hf : FR rb W W') (hn : b ≠ rb) : BXN W' b n :=
  ⟨fun j hj => by rw [hf.cellO h.lt hn]; exact h.th j hj, fun o => (hf.frozenO h.lt hn).trans (h.f o), Nat.lt_of_lt_of_le h.lt hf.size⟩
theorem WRd.keepF {W W' : World} {rb xb : Nat} {s : ByteArray} {p : Nat} (h : WRd W rb s p) (hf : FR xb W W') (hn : rb ≠ xb) : WRd W' rb s p :=
  ⟨(hf.cellO h.lt hn).trans h.c0, (hf.cellO h.lt hn).trans h.c1, (hf.frozenO h.lt hn).trans h.fz, h.le, h.sz⟩
theorem WRd.setCells {rb b p : Nat} {s : ByteArray} {W : World} (h : WRd W rb s p) (hn : rb ≠ b) (vs : List Value) : WRd (W.setCells b 0 vs) rb s p :=
  ⟨(World.cell?_setCells_out b vs 0 W _ (fun e => absurd e hn)).trans h.c0, (World.cell?_setCells_out b vs 0 W _ (fun e => absurd e hn)).trans h.c1, (frozen_setCells b _ vs 0 W).trans h.fz, h.le, h.sz⟩
theorem FR.setC1 {b : Nat} {w : World} : ∀ (vs : List Value) (o : Nat) (W : World), FR b w W → FR b w (W.setCells b o vs)
  | [], _, _, h => h
  | v :: r, o, W, h => by rw [World.setCells]; exact FR.setC1 r (o + 1) _ (h.trans (FR.set2 o v))
theorem FR.of1 (b : Nat) (vs : List Value) (o : Nat) (W : World) : FR b W (W.setCells b o vs) := FR.setC1 vs o W (FR.refl _ _)
/-- what an event that has been read looks like -/
def EvR (w W : World) (x : Ev) (v : Value) : Prop := ∃ al cl ak ck, v = evVal x al cl ak ck ∧ GT w W 2001 x.carry al cl ak ck
section
variable {V : ByteArray → Bool} {Tabs : World → Prop} {B0 : Nat}
set_option maxRecDepth 100000 in
set_option maxHeartbeats 8000000 in
theorem event_read (hV : VSaid V Tabs) (hK : ∀ w w', Tabs w → Below B0 w w' → Tabs w') (rb p : Nat) (s : ByteArray) (w : World) (hB : B0 ≤ rb) (hT : Tabs w) (h : WRd w rb s p) :
    Calls Tryz.prog 22 #[.pointer (some ⟨rb, 0, none⟩)] w fun e w' => WPost s rb (EvR w) (wiE V (rs s p)) e w' ∧ FR rb w w' := by
  have hA : Below w.heap.size w (w.alloc (.cells #[.int .i64 0, .int .i64 0, .int .i64 0, .string ⟨#[]⟩, .int .i64 0, .int .i64 0, .string ⟨#[]⟩, .slice none 0 0, .slice none 0 0, .string ⟨#[]⟩] 33)) := (Below.refl _ _).alloc (Nat.le_refl _) _
  have H := hideK (h.keep hA)
  have hrl := h.lt
  have FA := hideK (FR.of (pb := rb) hA)
  have ZA := hideK (EvB.new w ⟨0, 0, 0, ⟨#[]⟩, noTy, ⟨#[]⟩⟩ none 0 none 0).box
  clear h
  cases he : rs s p with
  | nil =>
    have cW := within_end rb p s 2 7 _ H.out he
    unfold wiE
    simp only [WPost]
    go_enter Tryz.func22, Tryz.ntmps22
    go_wp2_with (go_at_call 30; refine cW.mono ?_; rintro e w1 ⟨rfl, hf1⟩)
    exact ⟨rfl, rfl, FA.out.trans hf1⟩
  | cons b r =>
    rw [wiE_cons]
    by_cases h1 : b.toNat = 2 ∨ b.toNat = 3
    · rw [if_pos h1]
      rcases h1 with h1 | h1
      · have CW := hideK (within_ok rb p s 2 7 _ H.out he (by omega) (by omega))
        rw [show (b.toNat : Int) = 2 by omega] at CW ⊢
        have CR := hideK (fun (W : World) (hf : FR rb w W) (hW : WRd W rb s (p + 1)) => value_read hV hK rb (p + 1) s W hB (hK w W hT ((hf.below (Nat.le_of_lt hrl)).mono hB)) hW)
        cases hN : wiV V r with
        | error e =>
          simp only [WPost]
          go_enter Tryz.func22, Tryz.ntmps22
          go_wp2_with (first
            | (go_at_call 30; go_must (refine CW.out.mono ?_; rintro e w1 ⟨rfl, ⟨hq, hlq⟩, hf1⟩; have hal : Below w1.heap.size w1 (w1.alloc (.cells #[.int .i64 2, .int .i64 0, .int .i64 0, .string ⟨#[]⟩, .int .i64 0, .int .i64 0, .string ⟨#[]⟩, .slice none 0 0, .slice none 0 0, .string ⟨#[]⟩] 33)) := (Below.refl _ _).alloc (Nat.le_refl _) _; have F1 := hideK ((FA.out.trans hf1).trans (FR.of hal)); have hs1 := F1.out.size; have hs0 := hf1.size; simp at hs0 hs1; have Z1 := hideK ((ZA.out.keepF hf1 (by omega)).keep hal); have E1 := hideK (EvB.new w1 ⟨2, 0, 0, ⟨#[]⟩, noTy, ⟨#[]⟩⟩ none 0 none 0); have C2 := CR.out (w1.alloc (.cells #[.int .i64 2, .int .i64 0, .int .i64 0, .string ⟨#[]⟩, .int .i64 0, .int .i64 0, .string ⟨#[]⟩, .slice none 0 0, .slice none 0 0, .string ⟨#[]⟩] 33)) F1.out (hq.keep hal); rw [hlq, hN] at C2; simp only [WPost] at C2; clear hq hf1 hal))
            | (go_at_call 31; go_must (refine C2.mono ?_; rintro e w2 ⟨rfl, hf2⟩)))
          exact ⟨rfl, rfl, F1.out.trans hf2⟩
        | ok y =>
          obtain ⟨⟨so, n, t⟩, q⟩ := y
          simp only [WPost]
          go_enter Tryz.func22, Tryz.ntmps22
          go_upto_region 12 with (first
            | (go_at_call 30; go_must (refine CW.out.mono ?_; rintro e w1 ⟨rfl, ⟨hq, hlq⟩, hf1⟩; have hal : Below w1.heap.size w1 (w1.alloc (.cells #[.int .i64 2, .int .i64 0, .int .i64 0, .string ⟨#[]⟩, .int .i64 0, .int .i64 0, .string ⟨#[]⟩, .slice none 0 0, .slice none 0 0, .string ⟨#[]⟩] 33)) := (Below.refl _ _).alloc (Nat.le_refl _) _; have F1 := hideK ((FA.out.trans hf1).trans (FR.of hal)); have hs1 := F1.out.size; have hs0 := hf1.size; simp at hs0 hs1; have Z1 := hideK ((ZA.out.keepF hf1 (by omega)).keep hal); have E1 := hideK (EvB.new w1 ⟨2, 0, 0, ⟨#[]⟩, noTy, ⟨#[]⟩⟩ none 0 none 0); have C2 := CR.out (w1.alloc (.cells #[.int .i64 2, .int .i64 0, .int .i64 0, .string ⟨#[]⟩, .int .i64 0, .int .i64 0, .string ⟨#[]⟩, .slice none 0 0, .slice none 0 0, .string ⟨#[]⟩] 33)) F1.out (hq.keep hal); rw [hlq, hN] at C2; simp only [WPost, valV] at C2; clear hq hf1 hal))
            | (go_at_call 31; go_must (refine C2.mono ?_; rintro e w2 ⟨⟨v9, rfl, rfl, p2, hq2, hlq2⟩, hf2⟩; have E2 := hideK (E1.out.keepF hf2 (by omega)); have Z2 := hideK (Z1.out.keepF hf2 (by omega)); have F2 := hideK (F1.out.trans hf2); obtain ⟨e0, e1, e2, e3, e4, e5, e6, e7, e8, e9⟩ := E2.out.cells; have g0 := E2.out.f 0; have g1 := E2.out.f 1; have g2 := E2.out.f 2; have g3 := E2.out.f 3; have g4 := E2.out.f 4; have g5 := E2.out.f 5; have g6 := E2.out.f 6; have g7 := E2.out.f 7; have g8 := E2.out.f 8; have g9 := E2.out.f 9; have hl2b := E2.out.lt; clear C2)))
          have E3 := hideK (E2.out.val so n t)
          have Z3 := hideK (Z2.out.keepF (show FR w1.heap.size w2 (((w2.setCell ⟨w1.heap.size, 1, none⟩ (.int .i64 so)).setCell ⟨w1.heap.size, 2, none⟩ (.int .i64 n)).setCell ⟨w1.heap.size, 3, none⟩ (.string t)) from (((FR.refl _ _).trans (FR.set2 1 _)).trans (FR.set2 2 _)).trans (FR.set2 3 _)) (by omega))
          have W3 := hideK (hq2.keepF (show FR w1.heap.size w2 (((w2.setCell ⟨w1.heap.size, 1, none⟩ (.int .i64 so)).setCell ⟨w1.heap.size, 2, none⟩ (.int .i64 n)).setCell ⟨w1.heap.size, 3, none⟩ (.string t)) from (((FR.refl _ _).trans (FR.set2 1 _)).trans (FR.set2 2 _)).trans (FR.set2 3 _)) (by omega))
          have F3 := hideK (F2.out.via (show FR w1.heap.size w2 (((w2.setCell ⟨w1.heap.size, 1, none⟩ (.int .i64 so)).setCell ⟨w1.heap.size, 2, none⟩ (.int .i64 n)).setCell ⟨w1.heap.size, 3, none⟩ (.string t)) from (((FR.refl _ _).trans (FR.set2 1 _)).trans (FR.set2 2 _)).trans (FR.set2 3 _)) (by omega))
          clear e0 e1 e2 e3 e4 e5 e6 e7 e8 e9 g0 g1 g2 g3 g4 g5 g6 g7 g8 g9 E1 E2 Z1 Z2 F1 F2 hq2 CW CR hf2
          generalize (((w2.setCell ⟨w1.heap.size, 1, none⟩ (.int .i64 so)).setCell ⟨w1.heap.size, 2, none⟩ (.int .i64 n)).setCell ⟨w1.heap.size, 3, none⟩ (.string t)) = V3 at *
          refine wp_region_lit ?_
          refine wpList_loadW rfl rfl rfl (load_evB E3.out) ?_
          simp only [evVal, Act.put, List.setIfInBounds_toArray, List.set_cons_zero, List.set_cons_succ]
          refine wpList_storeW rfl rfl rfl rfl (store_bx Z3.out 33 (evL ⟨2, so, n, t, noTy, ⟨#[]⟩⟩ none 0 none 0) rfl (by kernel_rfl) (evL_one _ _ _ _ _)) ?_
          simp only [Act.put]
          have E9 := hideK (Z3.out.ev ⟨2, so, n, t, noTy, ⟨#[]⟩⟩ none 0 none 0)
          have F9 := hideK (FR.setCells (Nat.le_refl _) (evL ⟨2, so, n, t, noTy, ⟨#[]⟩⟩ none 0 none 0) 0 _ F3.out)
          have W9r := hideK (W3.out.setCells (b := w.heap.size) (by omega) (evL ⟨2, so, n, t, noTy, ⟨#[]⟩⟩ none 0 none 0))
          generalize V3.setCells w.heap.size 0 (evL ⟨2, so, n, t, noTy, ⟨#[]⟩⟩ none 0 none 0) = W9 at *
          go_wp2_with fail
          refine bodyPost_ret (v := evVal ⟨2, so, n, t, noTy, ⟨#[]⟩⟩ none 0 none 0) (results_cell rfl rfl (loadVar_evB E9.out)) rfl ?_
          exact ⟨⟨_, rfl, ⟨_, _, _, _, rfl, GT.leaf w _ 2001 0 0 ⟨#[]⟩ (by decide)⟩, p2, W9r.out, hlq2⟩, F9.out⟩
      · have CW := hideK (within_ok rb p s 2 7 _ H.out he (by omega) (by omega))
        rw [show (b.toNat : Int) = 3 by omega] at CW ⊢
        have CR := hideK (fun (W : World) (hf : FR rb w W) (hW : WRd W rb s (p + 1)) => value_read hV hK rb (p + 1) s W hB (hK w W hT ((hf.below (Nat.le_of_lt hrl)).mono hB)) hW)
        cases hN : wiV V r with
        | error e =>
          simp only [WPost]
          go_enter Tryz.func22, Tryz.ntmps22
          go_wp2_with (first
            | (go_at_call 30; go_must (refine CW.out.mono ?_; rintro e w1 ⟨rfl, ⟨hq, hlq⟩, hf1⟩; have hal : Below w1.heap.size w1 (w1.alloc (.cells #[.int .i64 3, .int .i64 0, .int .i64 0, .string ⟨#[]⟩, .int .i64 0, .int .i64 0, .string ⟨#[]⟩, .slice none 0 0, .slice none 0 0, .string ⟨#[]⟩] 33)) := (Below.refl _ _).alloc (Nat.le_refl _) _; have F1 := hideK ((FA.out.trans hf1).trans (FR.of hal)); have hs1 := F1.out.size; have hs0 := hf1.size; simp at hs0 hs1; have Z1 := hideK ((ZA.out.keepF hf1 (by omega)).keep hal); have E1 := hideK (EvB.new w1 ⟨3, 0, 0, ⟨#[]⟩, noTy, ⟨#[]⟩⟩ none 0 none 0); have C2 := CR.out (w1.alloc (.cells #[.int .i64 3, .int .i64 0, .int .i64 0, .string ⟨#[]⟩, .int .i64 0, .int .i64 0, .string ⟨#[]⟩, .slice none 0 0, .slice none 0 0, .string ⟨#[]⟩] 33)) F1.out (hq.keep hal); rw [hlq, hN] at C2; simp only [WPost] at C2; clear hq hf1 hal))
            | (go_at_call 31; go_must (refine C2.mono ?_; rintro e w2 ⟨rfl, hf2⟩)))
          exact ⟨rfl, rfl, F1.out.trans hf2⟩
        | ok y =>
          obtain ⟨⟨so, n, t⟩, q⟩ := y
          simp only [WPost]
          go_enter Tryz.func22, Tryz.ntmps22
          go_upto_region 12 with (first
            | (go_at_call 30; go_must (refine CW.out.mono ?_; rintro e w1 ⟨rfl, ⟨hq, hlq⟩, hf1⟩; have hal : Below w1.heap.size w1 (w1.alloc (.cells #[.int .i64 3, .int .i64 0, .int .i64 0, .string ⟨#[]⟩, .int .i64 0, .int .i64 0, .string ⟨#[]⟩, .slice none 0 0, .slice none 0 0, .string ⟨#[]⟩] 33)) := (Below.refl _ _).alloc (Nat.le_refl _) _; have F1 := hideK ((FA.out.trans hf1).trans (FR.of hal)); have hs1 := F1.out.size; have hs0 := hf1.size; simp at hs0 hs1; have Z1 := hideK ((ZA.out.keepF hf1 (by omega)).keep hal); have E1 := hideK (EvB.new w1 ⟨3, 0, 0, ⟨#[]⟩, noTy, ⟨#[]⟩⟩ none 0 none 0); have C2 := CR.out (w1.alloc (.cells #[.int .i64 3, .int .i64 0, .int .i64 0, .string ⟨#[]⟩, .int .i64 0, .int .i64 0, .string ⟨#[]⟩, .slice none 0 0, .slice none 0 0, .string ⟨#[]⟩] 33)) F1.out (hq.keep hal); rw [hlq, hN] at C2; simp only [WPost, valV] at C2; clear hq hf1 hal))
            | (go_at_call 31; go_must (refine C2.mono ?_; rintro e w2 ⟨⟨v9, rfl, rfl, p2, hq2, hlq2⟩, hf2⟩; have E2 := hideK (E1.out.keepF hf2 (by omega)); have Z2 := hideK (Z1.out.keepF hf2 (by omega)); have F2 := hideK (F1.out.trans hf2); obtain ⟨e0, e1, e2, e3, e4, e5, e6, e7, e8, e9⟩ := E2.out.cells; have g0 := E2.out.f 0; have g1 := E2.out.f 1; have g2 := E2.out.f 2; have g3 := E2.out.f 3; have g4 := E2.out.f 4; have g5 := E2.out.f 5; have g6 := E2.out.f 6; have g7 := E2.out.f 7; have g8 := E2.out.f 8; have g9 := E2.out.f 9; have hl2b := E2.out.lt; clear C2)))
          have E3 := hideK (E2.out.val so n t)
          have Z3 := hideK (Z2.out.keepF (show FR w1.heap.size w2 (((w2.setCell ⟨w1.heap.size, 1, none⟩ (.int .i64 so)).setCell ⟨w1.heap.size, 2, none⟩ (.int .i64 n)).setCell ⟨w1.heap.size, 3, none⟩ (.string t)) from (((FR.refl _ _).trans (FR.set2 1 _)).trans (FR.set2 2 _)).trans (FR.set2 3 _)) (by omega))
          have W3 := hideK (hq2.keepF (show FR w1.heap.size w2 (((w2.setCell ⟨w1.heap.size, 1, none⟩ (.int .i64 so)).setCell ⟨w1.heap.size, 2, none⟩ (.int .i64 n)).setCell ⟨w1.heap.size, 3, none⟩ (.string t)) from (((FR.refl _ _).trans (FR.set2 1 _)).trans (FR.set2 2 _)).trans (FR.set2 3 _)) (by omega))
          have F3 := hideK (F2.out.via (show FR w1.heap.size w2 (((w2.setCell ⟨w1.heap.size, 1, none⟩ (.int .i64 so)).setCell ⟨w1.heap.size, 2, none⟩ (.int .i64 n)).setCell ⟨w1.heap.size, 3, none⟩ (.string t)) from (((FR.refl _ _).trans (FR.set2 1 _)).trans (FR.set2 2 _)).trans (FR.set2 3 _)) (by omega))
          clear e0 e1 e2 e3 e4 e5 e6 e7 e8 e9 g0 g1 g2 g3 g4 g5 g6 g7 g8 g9 E1 E2 Z1 Z2 F1 F2 hq2 CW CR hf2
          generalize (((w2.setCell ⟨w1.heap.size, 1, none⟩ (.int .i64 so)).setCell ⟨w1.heap.size, 2, none⟩ (.int .i64 n)).setCell ⟨w1.heap.size, 3, none⟩ (.string t)) = V3 at *
          refine wp_region_lit ?_
          refine wpList_loadW rfl rfl rfl (load_evB E3.out) ?_
          simp only [evVal, Act.put, List.setIfInBounds_toArray, List.set_cons_zero, List.set_cons_succ]
          refine wpList_storeW rfl rfl rfl rfl (store_bx Z3.out 33 (evL ⟨3, so, n, t, noTy, ⟨#[]⟩⟩ none 0 none 0) rfl (by kernel_rfl) (evL_one _ _ _ _ _)) ?_
          simp only [Act.put]
          have E9 := hideK (Z3.out.ev ⟨3, so, n, t, noTy, ⟨#[]⟩⟩ none 0 none 0)
          have F9 := hideK (FR.setCells (Nat.le_refl _) (evL ⟨3, so, n, t, noTy, ⟨#[]⟩⟩ none 0 none 0) 0 _ F3.out)
          have W9r := hideK (W3.out.setCells (b := w.heap.size) (by omega) (evL ⟨3, so, n, t, noTy, ⟨#[]⟩⟩ none 0 none 0))
          generalize V3.setCells w.heap.size 0 (evL ⟨3, so, n, t, noTy, ⟨#[]⟩⟩ none 0 none 0) = W9 at *
          go_wp2_with fail
          refine bodyPost_ret (v := evVal ⟨3, so, n, t, noTy, ⟨#[]⟩⟩ none 0 none 0) (results_cell rfl rfl (loadVar_evB E9.out)) rfl ?_
          exact ⟨⟨_, rfl, ⟨_, _, _, _, rfl, GT.leaf w _ 2001 0 0 ⟨#[]⟩ (by decide)⟩, p2, W9r.out, hlq2⟩, F9.out⟩
    rw [if_neg h1]
    by_cases h2 : b.toNat = 4 ∨ b.toNat = 5
    · rw [if_pos h2]
      rcases h2 with h2 | h2
      · have CW := hideK (within_ok rb p s 2 7 _ H.out he (by omega) (by omega))
        rw [show (b.toNat : Int) = 4 by omega] at CW ⊢
        have CR := hideK (fun (W : World) (_ : FR rb w W) (hW : WRd W rb s (p + 1)) => readTy_any rb (p + 1) s W hW)
        cases hN : wiT asTy r with
        | error e =>
          simp only [WPost]
          go_enter Tryz.func22, Tryz.ntmps22
          go_wp2_with (first
            | (go_at_call 30; go_must (refine CW.out.mono ?_; rintro e w1 ⟨rfl, ⟨hq, hlq⟩, hf1⟩; have hal : Below w1.heap.size w1 (w1.alloc (.cells #[.int .i64 4, .int .i64 0, .int .i64 0, .string ⟨#[]⟩, .int .i64 0, .int .i64 0, .string ⟨#[]⟩, .slice none 0 0, .slice none 0 0, .string ⟨#[]⟩] 33)) := (Below.refl _ _).alloc (Nat.le_refl _) _; have F1 := hideK ((FA.out.trans hf1).trans (FR.of hal)); have hs1 := F1.out.size; have hs0 := hf1.size; simp at hs0 hs1; have Z1 := hideK ((ZA.out.keepF hf1 (by omega)).keep hal); have E1 := hideK (EvB.new w1 ⟨4, 0, 0, ⟨#[]⟩, noTy, ⟨#[]⟩⟩ none 0 none 0); have C2 := CR.out (w1.alloc (.cells #[.int .i64 4, .int .i64 0, .int .i64 0, .string ⟨#[]⟩, .int .i64 0, .int .i64 0, .string ⟨#[]⟩, .slice none 0 0, .slice none 0 0, .string ⟨#[]⟩] 33)) F1.out (hq.keep hal); rw [hlq, hN] at C2; simp only [WPost] at C2; clear hq hf1 hal))
            | (go_at_call 32; go_must (refine C2.mono ?_; rintro e w2 ⟨rfl, hf2⟩)))
          exact ⟨rfl, rfl, F1.out.trans hf2⟩
        | ok y =>
          obtain ⟨t, q⟩ := y
          simp only [WPost]
          go_enter Tryz.func22, Tryz.ntmps22
          go_upto_region 12 with (first
            | (go_at_call 30; go_must (refine CW.out.mono ?_; rintro e w1 ⟨rfl, ⟨hq, hlq⟩, hf1⟩; have hal : Below w1.heap.size w1 (w1.alloc (.cells #[.int .i64 4, .int .i64 0, .int .i64 0, .string ⟨#[]⟩, .int .i64 0, .int .i64 0, .string ⟨#[]⟩, .slice none 0 0, .slice none 0 0, .string ⟨#[]⟩] 33)) := (Below.refl _ _).alloc (Nat.le_refl _) _; have F1 := hideK ((FA.out.trans hf1).trans (FR.of hal)); have hs1 := F1.out.size; have hs0 := hf1.size; simp at hs0 hs1; have Z1 := hideK ((ZA.out.keepF hf1 (by omega)).keep hal); have E1 := hideK (EvB.new w1 ⟨4, 0, 0, ⟨#[]⟩, noTy, ⟨#[]⟩⟩ none 0 none 0); have C2 := CR.out (w1.alloc (.cells #[.int .i64 4, .int .i64 0, .int .i64 0, .string ⟨#[]⟩, .int .i64 0, .int .i64 0, .string ⟨#[]⟩, .slice none 0 0, .slice none 0 0, .string ⟨#[]⟩] 33)) F1.out (hq.keep hal); rw [hlq, hN] at C2; simp only [WPost, TyR, tyVal] at C2; clear hq hf1 hal))
            | (go_at_call 32; go_must (refine C2.mono ?_; rintro e w2 ⟨⟨v9, rfl, ⟨al, cl, ak, ck, rfl, hg⟩, p2, hq2, hlq2⟩, hf2⟩; have E2 := hideK (E1.out.keepF hf2 (by omega)); have Z2 := hideK (Z1.out.keepF hf2 (by omega)); have F2 := hideK (F1.out.trans hf2); have G2 := hideK hg; clear hg; obtain ⟨e0, e1, e2, e3, e4, e5, e6, e7, e8, e9⟩ := E2.out.cells; have g0 := E2.out.f 0; have g1 := E2.out.f 1; have g2 := E2.out.f 2; have g3 := E2.out.f 3; have g4 := E2.out.f 4; have g5 := E2.out.f 5; have g6 := E2.out.f 6; have g7 := E2.out.f 7; have g8 := E2.out.f 8; have g9 := E2.out.f 9; have hl2b := E2.out.lt; clear C2)))
          have E3 := hideK (E2.out.car t al cl ak ck)
          have Z3 := hideK (Z2.out.keepF (show FR w1.heap.size w2 (((((w2.setCell ⟨w1.heap.size, 4, none⟩ (.int .i64 t.kind)).setCell ⟨w1.heap.size, 5, none⟩ (.int .i64 t.so)).setCell ⟨w1.heap.size, 6, none⟩ (.string t.name)).setCell ⟨w1.heap.size, 7, none⟩ (.slice al t.labels.length cl)).setCell ⟨w1.heap.size, 8, none⟩ (.slice ak t.kids.length ck)) from (((((FR.refl _ _).trans (FR.set2 4 _)).trans (FR.set2 5 _)).trans (FR.set2 6 _)).trans (FR.set2 7 _)).trans (FR.set2 8 _)) (by omega))
          have W3 := hideK (hq2.keepF (show FR w1.heap.size w2 (((((w2.setCell ⟨w1.heap.size, 4, none⟩ (.int .i64 t.kind)).setCell ⟨w1.heap.size, 5, none⟩ (.int .i64 t.so)).setCell ⟨w1.heap.size, 6, none⟩ (.string t.name)).setCell ⟨w1.heap.size, 7, none⟩ (.slice al t.labels.length cl)).setCell ⟨w1.heap.size, 8, none⟩ (.slice ak t.kids.length ck)) from (((((FR.refl _ _).trans (FR.set2 4 _)).trans (FR.set2 5 _)).trans (FR.set2 6 _)).trans (FR.set2 7 _)).trans (FR.set2 8 _)) (by omega))
          have F3 := hideK (F2.out.via (show FR w1.heap.size w2 (((((w2.setCell ⟨w1.heap.size, 4, none⟩ (.int .i64 t.kind)).setCell ⟨w1.heap.size, 5, none⟩ (.int .i64 t.so)).setCell ⟨w1.heap.size, 6, none⟩ (.string t.name)).setCell ⟨w1.heap.size, 7, none⟩ (.slice al t.labels.length cl)).setCell ⟨w1.heap.size, 8, none⟩ (.slice ak t.kids.length ck)) from (((((FR.refl _ _).trans (FR.set2 4 _)).trans (FR.set2 5 _)).trans (FR.set2 6 _)).trans (FR.set2 7 _)).trans (FR.set2 8 _)) (by omega))
          have G3 := hideK (G2.out.keep (rb := w1.heap.size) (show FR w1.heap.size w2 (((((w2.setCell ⟨w1.heap.size, 4, none⟩ (.int .i64 t.kind)).setCell ⟨w1.heap.size, 5, none⟩ (.int .i64 t.so)).setCell ⟨w1.heap.size, 6, none⟩ (.string t.name)).setCell ⟨w1.heap.size, 7, none⟩ (.slice al t.labels.length cl)).setCell ⟨w1.heap.size, 8, none⟩ (.slice ak t.kids.length ck)) from (((((FR.refl _ _).trans (FR.set2 4 _)).trans (FR.set2 5 _)).trans (FR.set2 6 _)).trans (FR.set2 7 _)).trans (FR.set2 8 _)) (by simp))
          clear e0 e1 e2 e3 e4 e5 e6 e7 e8 e9 g0 g1 g2 g3 g4 g5 g6 g7 g8 g9 E1 E2 Z1 Z2 F1 F2 hq2 CW CR hf2 G2
          generalize (((((w2.setCell ⟨w1.heap.size, 4, none⟩ (.int .i64 t.kind)).setCell ⟨w1.heap.size, 5, none⟩ (.int .i64 t.so)).setCell ⟨w1.heap.size, 6, none⟩ (.string t.name)).setCell ⟨w1.heap.size, 7, none⟩ (.slice al t.labels.length cl)).setCell ⟨w1.heap.size, 8, none⟩ (.slice ak t.kids.length ck)) = V3 at *
          refine wp_region_lit ?_
          refine wpList_loadW rfl rfl rfl (load_evB E3.out) ?_
          simp only [evVal, Act.put, List.setIfInBounds_toArray, List.set_cons_zero, List.set_cons_succ]
          refine wpList_storeW rfl rfl rfl rfl (store_bx Z3.out 33 (evL ⟨4, 0, 0, ⟨#[]⟩, t, ⟨#[]⟩⟩ al cl ak ck) rfl (by kernel_rfl) (evL_one _ _ _ _ _)) ?_
          simp only [Act.put]
          have E9 := hideK (Z3.out.ev ⟨4, 0, 0, ⟨#[]⟩, t, ⟨#[]⟩⟩ al cl ak ck)
          have F9 := hideK (FR.setCells (Nat.le_refl _) (evL ⟨4, 0, 0, ⟨#[]⟩, t, ⟨#[]⟩⟩ al cl ak ck) 0 _ F3.out)
          have W9r := hideK (W3.out.setCells (b := w.heap.size) (by omega) (evL ⟨4, 0, 0, ⟨#[]⟩, t, ⟨#[]⟩⟩ al cl ak ck))
          have G9 := hideK ((G3.out.keep (FR.of1 w.heap.size (evL ⟨4, 0, 0, ⟨#[]⟩, t, ⟨#[]⟩⟩ al cl ak ck) 0 V3) (by simp <;> omega)).old (w0 := w) (by simp <;> omega))
          clear G3
          generalize V3.setCells w.heap.size 0 (evL ⟨4, 0, 0, ⟨#[]⟩, t, ⟨#[]⟩⟩ al cl ak ck) = W9 at *
          go_wp2_with fail
          refine bodyPost_ret (v := evVal ⟨4, 0, 0, ⟨#[]⟩, t, ⟨#[]⟩⟩ al cl ak ck) (results_cell rfl rfl (loadVar_evB E9.out)) rfl ?_
          exact ⟨⟨_, rfl, ⟨_, _, _, _, rfl, G9.out⟩, p2, W9r.out, hlq2⟩, F9.out⟩
      · have CW := hideK (within_ok rb p s 2 7 _ H.out he (by omega) (by omega))
        rw [show (b.toNat : Int) = 5 by omega] at CW ⊢
        have CR := hideK (fun (W : World) (_ : FR rb w W) (hW : WRd W rb s (p + 1)) => readTy_any rb (p + 1) s W hW)
        cases hN : wiT asTy r with
        | error e =>
          simp only [WPost]
          go_enter Tryz.func22, Tryz.ntmps22
          go_wp2_with (first
            | (go_at_call 30; go_must (refine CW.out.mono ?_; rintro e w1 ⟨rfl, ⟨hq, hlq⟩, hf1⟩; have hal : Below w1.heap.size w1 (w1.alloc (.cells #[.int .i64 5, .int .i64 0, .int .i64 0, .string ⟨#[]⟩, .int .i64 0, .int .i64 0, .string ⟨#[]⟩, .slice none 0 0, .slice none 0 0, .string ⟨#[]⟩] 33)) := (Below.refl _ _).alloc (Nat.le_refl _) _; have F1 := hideK ((FA.out.trans hf1).trans (FR.of hal)); have hs1 := F1.out.size; have hs0 := hf1.size; simp at hs0 hs1; have Z1 := hideK ((ZA.out.keepF hf1 (by omega)).keep hal); have E1 := hideK (EvB.new w1 ⟨5, 0, 0, ⟨#[]⟩, noTy, ⟨#[]⟩⟩ none 0 none 0); have C2 := CR.out (w1.alloc (.cells #[.int .i64 5, .int .i64 0, .int .i64 0, .string ⟨#[]⟩, .int .i64 0, .int .i64 0, .string ⟨#[]⟩, .slice none 0 0, .slice none 0 0, .string ⟨#[]⟩] 33)) F1.out (hq.keep hal); rw [hlq, hN] at C2; simp only [WPost] at C2; clear hq hf1 hal))
            | (go_at_call 32; go_must (refine C2.mono ?_; rintro e w2 ⟨rfl, hf2⟩)))
          exact ⟨rfl, rfl, F1.out.trans hf2⟩
        | ok y =>
          obtain ⟨t, q⟩ := y
          simp only [WPost]
          go_enter Tryz.func22, Tryz.ntmps22
          go_upto_region 12 with (first
            | (go_at_call 30; go_must (refine CW.out.mono ?_; rintro e w1 ⟨rfl, ⟨hq, hlq⟩, hf1⟩; have hal : Below w1.heap.size w1 (w1.alloc (.cells #[.int .i64 5, .int .i64 0, .int .i64 0, .string ⟨#[]⟩, .int .i64 0, .int .i64 0, .string ⟨#[]⟩, .slice none 0 0, .slice none 0 0, .string ⟨#[]⟩] 33)) := (Below.refl _ _).alloc (Nat.le_refl _) _; have F1 := hideK ((FA.out.trans hf1).trans (FR.of hal)); have hs1 := F1.out.size; have hs0 := hf1.size; simp at hs0 hs1; have Z1 := hideK ((ZA.out.keepF hf1 (by omega)).keep hal); have E1 := hideK (EvB.new w1 ⟨5, 0, 0, ⟨#[]⟩, noTy, ⟨#[]⟩⟩ none 0 none 0); have C2 := CR.out (w1.alloc (.cells #[.int .i64 5, .int .i64 0, .int .i64 0, .string ⟨#[]⟩, .int .i64 0, .int .i64 0, .string ⟨#[]⟩, .slice none 0 0, .slice none 0 0, .string ⟨#[]⟩] 33)) F1.out (hq.keep hal); rw [hlq, hN] at C2; simp only [WPost, TyR, tyVal] at C2; clear hq hf1 hal))
            | (go_at_call 32; go_must (refine C2.mono ?_; rintro e w2 ⟨⟨v9, rfl, ⟨al, cl, ak, ck, rfl, hg⟩, p2, hq2, hlq2⟩, hf2⟩; have E2 := hideK (E1.out.keepF hf2 (by omega)); have Z2 := hideK (Z1.out.keepF hf2 (by omega)); have F2 := hideK (F1.out.trans hf2); have G2 := hideK hg; clear hg; obtain ⟨e0, e1, e2, e3, e4, e5, e6, e7, e8, e9⟩ := E2.out.cells; have g0 := E2.out.f 0; have g1 := E2.out.f 1; have g2 := E2.out.f 2; have g3 := E2.out.f 3; have g4 := E2.out.f 4; have g5 := E2.out.f 5; have g6 := E2.out.f 6; have g7 := E2.out.f 7; have g8 := E2.out.f 8; have g9 := E2.out.f 9; have hl2b := E2.out.lt; clear C2)))
          have E3 := hideK (E2.out.car t al cl ak ck)
          have Z3 := hideK (Z2.out.keepF (show FR w1.heap.size w2 (((((w2.setCell ⟨w1.heap.size, 4, none⟩ (.int .i64 t.kind)).setCell ⟨w1.heap.size, 5, none⟩ (.int .i64 t.so)).setCell ⟨w1.heap.size, 6, none⟩ (.string t.name)).setCell ⟨w1.heap.size, 7, none⟩ (.slice al t.labels.length cl)).setCell ⟨w1.heap.size, 8, none⟩ (.slice ak t.kids.length ck)) from (((((FR.refl _ _).trans (FR.set2 4 _)).trans (FR.set2 5 _)).trans (FR.set2 6 _)).trans (FR.set2 7 _)).trans (FR.set2 8 _)) (by omega))
          have W3 := hideK (hq2.keepF (show FR w1.heap.size w2 (((((w2.setCell ⟨w1.heap.size, 4, none⟩ (.int .i64 t.kind)).setCell ⟨w1.heap.size, 5, none⟩ (.int .i64 t.so)).setCell ⟨w1.heap.size, 6, none⟩ (.string t.name)).setCell ⟨w1.heap.size, 7, none⟩ (.slice al t.labels.length cl)).setCell ⟨w1.heap.size, 8, none⟩ (.slice ak t.kids.length ck)) from (((((FR.refl _ _).trans (FR.set2 4 _)).trans (FR.set2 5 _)).trans (FR.set2 6 _)).trans (FR.set2 7 _)).trans (FR.set2 8 _)) (by omega))
          have F3 := hideK (F2.out.via (show FR w1.heap.size w2 (((((w2.setCell ⟨w1.heap.size, 4, none⟩ (.int .i64 t.kind)).setCell ⟨w1.heap.size, 5, none⟩ (.int .i64 t.so)).setCell ⟨w1.heap.size, 6, none⟩ (.string t.name)).setCell ⟨w1.heap.size, 7, none⟩ (.slice al t.labels.length cl)).setCell ⟨w1.heap.size, 8, none⟩ (.slice ak t.kids.length ck)) from (((((FR.refl _ _).trans (FR.set2 4 _)).trans (FR.set2 5 _)).trans (FR.set2 6 _)).trans (FR.set2 7 _)).trans (FR.set2 8 _)) (by omega))
          have G3 := hideK (G2.out.keep (rb := w1.heap.size) (show FR w1.heap.size w2 (((((w2.setCell ⟨w1.heap.size, 4, none⟩ (.int .i64 t.kind)).setCell ⟨w1.heap.size, 5, none⟩ (.int .i64 t.so)).setCell ⟨w1.heap.size, 6, none⟩ (.string t.name)).setCell ⟨w1.heap.size, 7, none⟩ (.slice al t.labels.length cl)).setCell ⟨w1.heap.size, 8, none⟩ (.slice ak t.kids.length ck)) from (((((FR.refl _ _).trans (FR.set2 4 _)).trans (FR.set2 5 _)).trans (FR.set2 6 _)).trans (FR.set2 7 _)).trans (FR.set2 8 _)) (by simp))
          clear e0 e1 e2 e3 e4 e5 e6 e7 e8 e9 g0 g1 g2 g3 g4 g5 g6 g7 g8 g9 E1 E2 Z1 Z2 F1 F2 hq2 CW CR hf2 G2
          generalize (((((w2.setCell ⟨w1.heap.size, 4, none⟩ (.int .i64 t.kind)).setCell ⟨w1.heap.size, 5, none⟩ (.int .i64 t.so)).setCell ⟨w1.heap.size, 6, none⟩ (.string t.name)).setCell ⟨w1.heap.size, 7, none⟩ (.slice al t.labels.length cl)).setCell ⟨w1.heap.size, 8, none⟩ (.slice ak t.kids.length ck)) = V3 at *
          refine wp_region_lit ?_
          refine wpList_loadW rfl rfl rfl (load_evB E3.out) ?_
          simp only [evVal, Act.put, List.setIfInBounds_toArray, List.set_cons_zero, List.set_cons_succ]
          refine wpList_storeW rfl rfl rfl rfl (store_bx Z3.out 33 (evL ⟨5, 0, 0, ⟨#[]⟩, t, ⟨#[]⟩⟩ al cl ak ck) rfl (by kernel_rfl) (evL_one _ _ _ _ _)) ?_
          simp only [Act.put]
          have E9 := hideK (Z3.out.ev ⟨5, 0, 0, ⟨#[]⟩, t, ⟨#[]⟩⟩ al cl ak ck)
          have F9 := hideK (FR.setCells (Nat.le_refl _) (evL ⟨5, 0, 0, ⟨#[]⟩, t, ⟨#[]⟩⟩ al cl ak ck) 0 _ F3.out)
          have W9r := hideK (W3.out.setCells (b := w.heap.size) (by omega) (evL ⟨5, 0, 0, ⟨#[]⟩, t, ⟨#[]⟩⟩ al cl ak ck))
          have G9 := hideK ((G3.out.keep (FR.of1 w.heap.size (evL ⟨5, 0, 0, ⟨#[]⟩, t, ⟨#[]⟩⟩ al cl ak ck) 0 V3) (by simp <;> omega)).old (w0 := w) (by simp <;> omega))
          clear G3
          generalize V3.setCells w.heap.size 0 (evL ⟨5, 0, 0, ⟨#[]⟩, t, ⟨#[]⟩⟩ al cl ak ck) = W9 at *
          go_wp2_with fail
          refine bodyPost_ret (v := evVal ⟨5, 0, 0, ⟨#[]⟩, t, ⟨#[]⟩⟩ al cl ak ck) (results_cell rfl rfl (loadVar_evB E9.out)) rfl ?_
          exact ⟨⟨_, rfl, ⟨_, _, _, _, rfl, G9.out⟩, p2, W9r.out, hlq2⟩, F9.out⟩
    rw [if_neg h2]
    by_cases h3 : b.toNat = 6 ∨ b.toNat = 7
    · rw [if_pos h3]
      rcases h3 with h3 | h3
      · have CW := hideK (within_ok rb p s 2 7 _ H.out he (by omega) (by omega))
        rw [show (b.toNat : Int) = 6 by omega] at CW ⊢
        have CR := hideK (fun (W : World) (_ : FR rb w W) (hW : WRd W rb s (p + 1)) => readLb_any rb (p + 1) s W hW)
        cases hN : wiT asLb r with
        | error e =>
          simp only [WPost]
          go_enter Tryz.func22, Tryz.ntmps22
          go_wp2_with (first
            | (go_at_call 30; go_must (refine CW.out.mono ?_; rintro e w1 ⟨rfl, ⟨hq, hlq⟩, hf1⟩; have hal : Below w1.heap.size w1 (w1.alloc (.cells #[.int .i64 6, .int .i64 0, .int .i64 0, .string ⟨#[]⟩, .int .i64 0, .int .i64 0, .string ⟨#[]⟩, .slice none 0 0, .slice none 0 0, .string ⟨#[]⟩] 33)) := (Below.refl _ _).alloc (Nat.le_refl _) _; have F1 := hideK ((FA.out.trans hf1).trans (FR.of hal)); have hs1 := F1.out.size; have hs0 := hf1.size; simp at hs0 hs1; have Z1 := hideK ((ZA.out.keepF hf1 (by omega)).keep hal); have E1 := hideK (EvB.new w1 ⟨6, 0, 0, ⟨#[]⟩, noTy, ⟨#[]⟩⟩ none 0 none 0); have C2 := CR.out (w1.alloc (.cells #[.int .i64 6, .int .i64 0, .int .i64 0, .string ⟨#[]⟩, .int .i64 0, .int .i64 0, .string ⟨#[]⟩, .slice none 0 0, .slice none 0 0, .string ⟨#[]⟩] 33)) F1.out (hq.keep hal); rw [hlq, hN] at C2; simp only [WPost] at C2; clear hq hf1 hal))
            | (go_at_call 34; go_must (refine C2.mono ?_; rintro e w2 ⟨rfl, hf2⟩)))
          exact ⟨rfl, rfl, F1.out.trans hf2⟩
        | ok y =>
          obtain ⟨t, q⟩ := y
          simp only [WPost]
          go_enter Tryz.func22, Tryz.ntmps22
          go_upto_region 12 with (first
            | (go_at_call 30; go_must (refine CW.out.mono ?_; rintro e w1 ⟨rfl, ⟨hq, hlq⟩, hf1⟩; have hal : Below w1.heap.size w1 (w1.alloc (.cells #[.int .i64 6, .int .i64 0, .int .i64 0, .string ⟨#[]⟩, .int .i64 0, .int .i64 0, .string ⟨#[]⟩, .slice none 0 0, .slice none 0 0, .string ⟨#[]⟩] 33)) := (Below.refl _ _).alloc (Nat.le_refl _) _; have F1 := hideK ((FA.out.trans hf1).trans (FR.of hal)); have hs1 := F1.out.size; have hs0 := hf1.size; simp at hs0 hs1; have Z1 := hideK ((ZA.out.keepF hf1 (by omega)).keep hal); have E1 := hideK (EvB.new w1 ⟨6, 0, 0, ⟨#[]⟩, noTy, ⟨#[]⟩⟩ none 0 none 0); have C2 := CR.out (w1.alloc (.cells #[.int .i64 6, .int .i64 0, .int .i64 0, .string ⟨#[]⟩, .int .i64 0, .int .i64 0, .string ⟨#[]⟩, .slice none 0 0, .slice none 0 0, .string ⟨#[]⟩] 33)) F1.out (hq.keep hal); rw [hlq, hN] at C2; simp only [WPost] at C2; clear hq hf1 hal))
            | (go_at_call 34; go_must (refine C2.mono ?_; rintro e w2 ⟨⟨v9, rfl, rfl, p2, hq2, hlq2⟩, hf2⟩; have E2 := hideK (E1.out.keepF hf2 (by omega)); have Z2 := hideK (Z1.out.keepF hf2 (by omega)); have F2 := hideK (F1.out.trans hf2); obtain ⟨e0, e1, e2, e3, e4, e5, e6, e7, e8, e9⟩ := E2.out.cells; have g0 := E2.out.f 0; have g1 := E2.out.f 1; have g2 := E2.out.f 2; have g3 := E2.out.f 3; have g4 := E2.out.f 4; have g5 := E2.out.f 5; have g6 := E2.out.f 6; have g7 := E2.out.f 7; have g8 := E2.out.f 8; have g9 := E2.out.f 9; have hl2b := E2.out.lt; clear C2)))
          have E3 := hideK (E2.out.lab t)
          have Z3 := hideK (Z2.out.keepF (show FR w1.heap.size w2 (w2.setCell ⟨w1.heap.size, 9, none⟩ (.string t)) from (FR.refl _ _).trans (FR.set2 9 _)) (by omega))
          have W3 := hideK (hq2.keepF (show FR w1.heap.size w2 (w2.setCell ⟨w1.heap.size, 9, none⟩ (.string t)) from (FR.refl _ _).trans (FR.set2 9 _)) (by omega))
          have F3 := hideK (F2.out.via (show FR w1.heap.size w2 (w2.setCell ⟨w1.heap.size, 9, none⟩ (.string t)) from (FR.refl _ _).trans (FR.set2 9 _)) (by omega))
          clear e0 e1 e2 e3 e4 e5 e6 e7 e8 e9 g0 g1 g2 g3 g4 g5 g6 g7 g8 g9 E1 E2 Z1 Z2 F1 F2 hq2 CW CR hf2
          generalize (w2.setCell ⟨w1.heap.size, 9, none⟩ (.string t)) = V3 at *
          refine wp_region_lit ?_
          refine wpList_loadW rfl rfl rfl (load_evB E3.out) ?_
          simp only [evVal, Act.put, List.setIfInBounds_toArray, List.set_cons_zero, List.set_cons_succ]
          refine wpList_storeW rfl rfl rfl rfl (store_bx Z3.out 33 (evL ⟨6, 0, 0, ⟨#[]⟩, noTy, t⟩ none 0 none 0) rfl (by kernel_rfl) (evL_one _ _ _ _ _)) ?_
          simp only [Act.put]
          have E9 := hideK (Z3.out.ev ⟨6, 0, 0, ⟨#[]⟩, noTy, t⟩ none 0 none 0)
          have F9 := hideK (FR.setCells (Nat.le_refl _) (evL ⟨6, 0, 0, ⟨#[]⟩, noTy, t⟩ none 0 none 0) 0 _ F3.out)
          have W9r := hideK (W3.out.setCells (b := w.heap.size) (by omega) (evL ⟨6, 0, 0, ⟨#[]⟩, noTy, t⟩ none 0 none 0))
          generalize V3.setCells w.heap.size 0 (evL ⟨6, 0, 0, ⟨#[]⟩, noTy, t⟩ none 0 none 0) = W9 at *
          go_wp2_with fail
          refine bodyPost_ret (v := evVal ⟨6, 0, 0, ⟨#[]⟩, noTy, t⟩ none 0 none 0) (results_cell rfl rfl (loadVar_evB E9.out)) rfl ?_
          exact ⟨⟨_, rfl, ⟨_, _, _, _, rfl, GT.leaf w _ 2001 0 0 ⟨#[]⟩ (by decide)⟩, p2, W9r.out, hlq2⟩, F9.out⟩
      · have CW := hideK (within_ok rb p s 2 7 _ H.out he (by omega) (by omega))
        rw [show (b.toNat : Int) = 7 by omega] at CW ⊢
        have CR := hideK (fun (W : World) (_ : FR rb w W) (hW : WRd W rb s (p + 1)) => readLb_any rb (p + 1) s W hW)
        cases hN : wiT asLb r with
        | error e =>
          simp only [WPost]
          go_enter Tryz.func22, Tryz.ntmps22
          go_wp2_with (first
            | (go_at_call 30; go_must (refine CW.out.mono ?_; rintro e w1 ⟨rfl, ⟨hq, hlq⟩, hf1⟩; have hal : Below w1.heap.size w1 (w1.alloc (.cells #[.int .i64 7, .int .i64 0, .int .i64 0, .string ⟨#[]⟩, .int .i64 0, .int .i64 0, .string ⟨#[]⟩, .slice none 0 0, .slice none 0 0, .string ⟨#[]⟩] 33)) := (Below.refl _ _).alloc (Nat.le_refl _) _; have F1 := hideK ((FA.out.trans hf1).trans (FR.of hal)); have hs1 := F1.out.size; have hs0 := hf1.size; simp at hs0 hs1; have Z1 := hideK ((ZA.out.keepF hf1 (by omega)).keep hal); have E1 := hideK (EvB.new w1 ⟨7, 0, 0, ⟨#[]⟩, noTy, ⟨#[]⟩⟩ none 0 none 0); have C2 := CR.out (w1.alloc (.cells #[.int .i64 7, .int .i64 0, .int .i64 0, .string ⟨#[]⟩, .int .i64 0, .int .i64 0, .string ⟨#[]⟩, .slice none 0 0, .slice none 0 0, .string ⟨#[]⟩] 33)) F1.out (hq.keep hal); rw [hlq, hN] at C2; simp only [WPost] at C2; clear hq hf1 hal))
            | (go_at_call 34; go_must (refine C2.mono ?_; rintro e w2 ⟨rfl, hf2⟩)))
          exact ⟨rfl, rfl, F1.out.trans hf2⟩
        | ok y =>
          obtain ⟨t, q⟩ := y
          simp only [WPost]
          go_enter Tryz.func22, Tryz.ntmps22
          go_upto_region 12 with (first
            | (go_at_call 30; go_must (refine CW.out.mono ?_; rintro e w1 ⟨rfl, ⟨hq, hlq⟩, hf1⟩; have hal : Below w1.heap.size w1 (w1.alloc (.cells #[.int .i64 7, .int .i64 0, .int .i64 0, .string ⟨#[]⟩, .int .i64 0, .int .i64 0, .string ⟨#[]⟩, .slice none 0 0, .slice none 0 0, .string ⟨#[]⟩] 33)) := (Below.refl _ _).alloc (Nat.le_refl _) _; have F1 := hideK ((FA.out.trans hf1).trans (FR.of hal)); have hs1 := F1.out.size; have hs0 := hf1.size; simp at hs0 hs1; have Z1 := hideK ((ZA.out.keepF hf1 (by omega)).keep hal); have E1 := hideK (EvB.new w1 ⟨7, 0, 0, ⟨#[]⟩, noTy, ⟨#[]⟩⟩ none 0 none 0); have C2 := CR.out (w1.alloc (.cells #[.int .i64 7, .int .i64 0, .int .i64 0, .string ⟨#[]⟩, .int .i64 0, .int .i64 0, .string ⟨#[]⟩, .slice none 0 0, .slice none 0 0, .string ⟨#[]⟩] 33)) F1.out (hq.keep hal); rw [hlq, hN] at C2; simp only [WPost] at C2; clear hq hf1 hal))
            | (go_at_call 34; go_must (refine C2.mono ?_; rintro e w2 ⟨⟨v9, rfl, rfl, p2, hq2, hlq2⟩, hf2⟩; have E2 := hideK (E1.out.keepF hf2 (by omega)); have Z2 := hideK (Z1.out.keepF hf2 (by omega)); have F2 := hideK (F1.out.trans hf2); obtain ⟨e0, e1, e2, e3, e4, e5, e6, e7, e8, e9⟩ := E2.out.cells; have g0 := E2.out.f 0; have g1 := E2.out.f 1; have g2 := E2.out.f 2; have g3 := E2.out.f 3; have g4 := E2.out.f 4; have g5 := E2.out.f 5; have g6 := E2.out.f 6; have g7 := E2.out.f 7; have g8 := E2.out.f 8; have g9 := E2.out.f 9; have hl2b := E2.out.lt; clear C2)))
          have E3 := hideK (E2.out.lab t)
          have Z3 := hideK (Z2.out.keepF (show FR w1.heap.size w2 (w2.setCell ⟨w1.heap.size, 9, none⟩ (.string t)) from (FR.refl _ _).trans (FR.set2 9 _)) (by omega))
          have W3 := hideK (hq2.keepF (show FR w1.heap.size w2 (w2.setCell ⟨w1.heap.size, 9, none⟩ (.string t)) from (FR.refl _ _).trans (FR.set2 9 _)) (by omega))
          have F3 := hideK (F2.out.via (show FR w1.heap.size w2 (w2.setCell ⟨w1.heap.size, 9, none⟩ (.string t)) from (FR.refl _ _).trans (FR.set2 9 _)) (by omega))
          clear e0 e1 e2 e3 e4 e5 e6 e7 e8 e9 g0 g1 g2 g3 g4 g5 g6 g7 g8 g9 E1 E2 Z1 Z2 F1 F2 hq2 CW CR hf2
          generalize (w2.setCell ⟨w1.heap.size, 9, none⟩ (.string t)) = V3 at *
          refine wp_region_lit ?_
          refine wpList_loadW rfl rfl rfl (load_evB E3.out) ?_
          simp only [evVal, Act.put, List.setIfInBounds_toArray, List.set_cons_zero, List.set_cons_succ]
          refine wpList_storeW rfl rfl rfl rfl (store_bx Z3.out 33 (evL ⟨7, 0, 0, ⟨#[]⟩, noTy, t⟩ none 0 none 0) rfl (by kernel_rfl) (evL_one _ _ _ _ _)) ?_
          simp only [Act.put]
          have E9 := hideK (Z3.out.ev ⟨7, 0, 0, ⟨#[]⟩, noTy, t⟩ none 0 none 0)
          have F9 := hideK (FR.setCells (Nat.le_refl _) (evL ⟨7, 0, 0, ⟨#[]⟩, noTy, t⟩ none 0 none 0) 0 _ F3.out)
          have W9r := hideK (W3.out.setCells (b := w.heap.size) (by omega) (evL ⟨7, 0, 0, ⟨#[]⟩, noTy, t⟩ none 0 none 0))
          generalize V3.setCells w.heap.size 0 (evL ⟨7, 0, 0, ⟨#[]⟩, noTy, t⟩ none 0 none 0) = W9 at *
          go_wp2_with fail
          refine bodyPost_ret (v := evVal ⟨7, 0, 0, ⟨#[]⟩, noTy, t⟩ none 0 none 0) (results_cell rfl rfl (loadVar_evB E9.out)) rfl ?_
          exact ⟨⟨_, rfl, ⟨_, _, _, _, rfl, GT.leaf w _ 2001 0 0 ⟨#[]⟩ (by decide)⟩, p2, W9r.out, hlq2⟩, F9.out⟩
    rw [if_neg h3]
    have cW := within_bad rb p s 2 7 _ H.out he (by omega)
    simp only [WPost]
    go_enter Tryz.func22, Tryz.ntmps22
    go_wp2_with (go_at_call 30; refine cW.mono ?_; rintro e w1 ⟨rfl, hf1⟩)
    exact ⟨rfl, rfl, FA.out.trans hf1⟩
end
end Go.Proofs.YtefdekfgmbgbbaaGreatDoor
