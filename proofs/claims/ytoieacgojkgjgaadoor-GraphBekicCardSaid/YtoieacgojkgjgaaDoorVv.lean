/-
  The law of duetkeep.GraphBekic: whatever type is handed in it answers true.
-/
import Derived.Test.YtoieacgojkgjgaaDoorVu
namespace Go.Proofs.YtoieacgojkgjgaaDoor
open Go.RowKit Go.Shelf

theorem ofBad {t : Ty} {w : World} (hz : chkTy t ≠ 0) {args : Array Value} (c : Calls Tryd.prog 9 args w (OFPost t w)) : Calls Tryd.prog 9 args w fun e w' => (∃ z : Int, z ≠ 0 ∧ e = .returned (.tuple #[.slice none 0 0, .int .i64 z])) ∧ Below w.heap.size w w' := by
  refine c.mono ?_
  rintro e w' ⟨h | ⟨g, _, _, hg, _⟩, hb⟩
  · exact ⟨⟨_, h.1, h.2⟩, hb⟩
  · exact absurd hg.chk hz
theorem var_at {W : World} {b : Nat} {x : ByteArray} (h0 : W.cell? ⟨b, 0, none⟩ = some (.int .i64 9)) (h1 : W.cell? ⟨b, 1, none⟩ = some (.int .i64 0)) (h2 : W.cell? ⟨b, 2, none⟩ = some (.string x)) (h3 : W.cell? ⟨b, 3, none⟩ = some (.slice none 0 0)) (h4 : W.cell? ⟨b, 4, none⟩ = some (.slice none 0 0)) : TyAt W b 0 (varT x) none 0 none 0 := by
  refine ⟨h0, ?_, ?_, ?_, ?_⟩ <;> rw [Nat.zero_add] <;> assumption
set_option maxRecDepth 100000 in
set_option maxHeartbeats 16000000 in
theorem graphBekic_law (d : Nat) (t : Ty) (al : Option Addr) (cl : Nat) (ak : Option Addr) (ck : Nat) (w : World) (ht1 : TyBd t cl ck) (ht2 : LA w w.heap.size t.labels al) (ht3 : KT w w.heap.size d t.kids ak) :
    Calls Tryd.prog 5 #[tyVal t al cl ak ck] w fun e w' => e = .returned (.bool true) ∧ Below w.heap.size w w' := by
  have hA : Below w.heap.size w (w.alloc (.cells #[.int .i64 t.kind, .int .i64 t.so, .string t.name, .slice al t.labels.length cl, .slice ak t.kids.length ck] 25)) := (Below.refl _ _).alloc (Nat.le_refl _) _
  have hsz : (w.alloc (.cells #[.int .i64 t.kind, .int .i64 t.so, .string t.name, .slice al t.labels.length cl, .slice ak t.kids.length ck] 25)).heap.size = w.heap.size + 1 := by simp
  have HX := hideK (show TyAt (w.alloc (.cells #[.int .i64 t.kind, .int .i64 t.so, .string t.name, .slice al t.labels.length cl, .slice ak t.kids.length ck] 25)) w.heap.size 0 t al cl ak ck from ⟨by go_cell, by go_cell, by go_cell, by go_cell, by go_cell⟩)
  have HT := hideK (fun (W : World) (hb : Below w.heap.size w W) => And.intro ht1 (And.intro ((ht2.keep hb).mono hb.size) ((ht3.keep hb).mono hb.size)))
  have HTL := hideK ht2
  have HTK := hideK ht3
  have HB0 := hideK hA
  have CE := hideK (fun W => ofEnd W)
  simp only [tyVal]
  clear ht1 ht2 ht3 hA
  go_enter Tryd.func5, Tryd.ntmps5
  go_wp2_with fail
  generalize (w.alloc (.cells #[.int .i64 t.kind, .int .i64 t.so, .string t.name, .slice al t.labels.length cl, .slice ak t.kids.length ck] 25)) = W0 at *
  refine (CE.out _).mono ?_
  rintro e w1 ⟨⟨ag, cg, rfl⟩, hb1⟩
  have HX1 := hideK (HX.out.keep hb1 (by omega))
  have HB1 := hideK (HB0.out.trans (hb1.mono HB0.out.size))
  have hs1 : w.heap.size + 1 ≤ w1.heap.size := by have := hb1.size; omega
  have b1 : Below w1.heap.size w1 (w1.alloc (.cells #[.int .i64 9, .int .i64 0, .string ⟨#[120]⟩, .slice none 0 0, .slice none 0 0] 25)) := (Below.refl _ _).alloc (Nat.le_refl _) _
  have b2 : Below (w1.alloc (.cells #[.int .i64 9, .int .i64 0, .string ⟨#[120]⟩, .slice none 0 0, .slice none 0 0] 25)).heap.size (w1.alloc (.cells #[.int .i64 9, .int .i64 0, .string ⟨#[120]⟩, .slice none 0 0, .slice none 0 0] 25)) ((w1.alloc (.cells #[.int .i64 9, .int .i64 0, .string ⟨#[120]⟩, .slice none 0 0, .slice none 0 0] 25)).alloc (.cells #[.int .i64 t.kind, .int .i64 t.so, .string t.name, .slice al t.labels.length cl, .slice ak t.kids.length ck] 25)) := (Below.refl _ _).alloc (Nat.le_refl _) _
  have b3 : Below ((w1.alloc (.cells #[.int .i64 9, .int .i64 0, .string ⟨#[120]⟩, .slice none 0 0, .slice none 0 0] 25)).alloc (.cells #[.int .i64 t.kind, .int .i64 t.so, .string t.name, .slice al t.labels.length cl, .slice ak t.kids.length ck] 25)).heap.size ((w1.alloc (.cells #[.int .i64 9, .int .i64 0, .string ⟨#[120]⟩, .slice none 0 0, .slice none 0 0] 25)).alloc (.cells #[.int .i64 t.kind, .int .i64 t.so, .string t.name, .slice al t.labels.length cl, .slice ak t.kids.length ck] 25)) (((w1.alloc (.cells #[.int .i64 9, .int .i64 0, .string ⟨#[120]⟩, .slice none 0 0, .slice none 0 0] 25)).alloc (.cells #[.int .i64 t.kind, .int .i64 t.so, .string t.name, .slice al t.labels.length cl, .slice ak t.kids.length ck] 25)).alloc (.cells #[.int .i64 8, .int .i64 0, .string ⟨#[121]⟩, .slice none 0 0, .slice (some ⟨w1.heap.size + 1, 0, none⟩) 1 1] 25)) := (Below.refl _ _).alloc (Nat.le_refl _) _
  have b4 : Below (((w1.alloc (.cells #[.int .i64 9, .int .i64 0, .string ⟨#[120]⟩, .slice none 0 0, .slice none 0 0] 25)).alloc (.cells #[.int .i64 t.kind, .int .i64 t.so, .string t.name, .slice al t.labels.length cl, .slice ak t.kids.length ck] 25)).alloc (.cells #[.int .i64 8, .int .i64 0, .string ⟨#[121]⟩, .slice none 0 0, .slice (some ⟨w1.heap.size + 1, 0, none⟩) 1 1] 25)).heap.size (((w1.alloc (.cells #[.int .i64 9, .int .i64 0, .string ⟨#[120]⟩, .slice none 0 0, .slice none 0 0] 25)).alloc (.cells #[.int .i64 t.kind, .int .i64 t.so, .string t.name, .slice al t.labels.length cl, .slice ak t.kids.length ck] 25)).alloc (.cells #[.int .i64 8, .int .i64 0, .string ⟨#[121]⟩, .slice none 0 0, .slice (some ⟨w1.heap.size + 1, 0, none⟩) 1 1] 25)) ((((w1.alloc (.cells #[.int .i64 9, .int .i64 0, .string ⟨#[120]⟩, .slice none 0 0, .slice none 0 0] 25)).alloc (.cells #[.int .i64 t.kind, .int .i64 t.so, .string t.name, .slice al t.labels.length cl, .slice ak t.kids.length ck] 25)).alloc (.cells #[.int .i64 8, .int .i64 0, .string ⟨#[121]⟩, .slice none 0 0, .slice (some ⟨w1.heap.size + 1, 0, none⟩) 1 1] 25)).alloc (.cells #[.int .i64 8, .int .i64 0, .string ⟨#[120]⟩, .slice none 0 0, .slice (some ⟨w1.heap.size + 1 + 1, 0, none⟩) 1 1] 25)) := (Below.refl _ _).alloc (Nat.le_refl _) _
  have z1 : (w1.alloc (.cells #[.int .i64 9, .int .i64 0, .string ⟨#[120]⟩, .slice none 0 0, .slice none 0 0] 25)).heap.size = w1.heap.size + 1 := by simp
  have z2 : ((w1.alloc (.cells #[.int .i64 9, .int .i64 0, .string ⟨#[120]⟩, .slice none 0 0, .slice none 0 0] 25)).alloc (.cells #[.int .i64 t.kind, .int .i64 t.so, .string t.name, .slice al t.labels.length cl, .slice ak t.kids.length ck] 25)).heap.size = w1.heap.size + 1 + 1 := by simp
  have HZ4 := hideK (show ((((w1.alloc (.cells #[.int .i64 9, .int .i64 0, .string ⟨#[120]⟩, .slice none 0 0, .slice none 0 0] 25)).alloc (.cells #[.int .i64 t.kind, .int .i64 t.so, .string t.name, .slice al t.labels.length cl, .slice ak t.kids.length ck] 25)).alloc (.cells #[.int .i64 8, .int .i64 0, .string ⟨#[121]⟩, .slice none 0 0, .slice (some ⟨w1.heap.size + 1, 0, none⟩) 1 1] 25)).alloc (.cells #[.int .i64 8, .int .i64 0, .string ⟨#[120]⟩, .slice none 0 0, .slice (some ⟨w1.heap.size + 1 + 1, 0, none⟩) 1 1] 25)).heap.size = w1.heap.size + 4 from by simp)
  obtain ⟨q1, q2, q3⟩ := HT.out (w1.alloc (.cells #[.int .i64 9, .int .i64 0, .string ⟨#[120]⟩, .slice none 0 0, .slice none 0 0] 25)) (HB1.out.trans (b1.mono HB1.out.size))
  have k1 : KT ((w1.alloc (.cells #[.int .i64 9, .int .i64 0, .string ⟨#[120]⟩, .slice none 0 0, .slice none 0 0] 25)).alloc (.cells #[.int .i64 t.kind, .int .i64 t.so, .string t.name, .slice al t.labels.length cl, .slice ak t.kids.length ck] 25)) ((w1.alloc (.cells #[.int .i64 9, .int .i64 0, .string ⟨#[120]⟩, .slice none 0 0, .slice none 0 0] 25)).alloc (.cells #[.int .i64 t.kind, .int .i64 t.so, .string t.name, .slice al t.labels.length cl, .slice ak t.kids.length ck] 25)).heap.size (d + 1) [t] (some ⟨w1.heap.size + 1, 0, none⟩) := by rw [← z1]; exact kt_lit q1 q2 q3
  have k2 : KT (((w1.alloc (.cells #[.int .i64 9, .int .i64 0, .string ⟨#[120]⟩, .slice none 0 0, .slice none 0 0] 25)).alloc (.cells #[.int .i64 t.kind, .int .i64 t.so, .string t.name, .slice al t.labels.length cl, .slice ak t.kids.length ck] 25)).alloc (.cells #[.int .i64 8, .int .i64 0, .string ⟨#[121]⟩, .slice none 0 0, .slice (some ⟨w1.heap.size + 1, 0, none⟩) 1 1] 25)) (((w1.alloc (.cells #[.int .i64 9, .int .i64 0, .string ⟨#[120]⟩, .slice none 0 0, .slice none 0 0] 25)).alloc (.cells #[.int .i64 t.kind, .int .i64 t.so, .string t.name, .slice al t.labels.length cl, .slice ak t.kids.length ck] 25)).alloc (.cells #[.int .i64 8, .int .i64 0, .string ⟨#[121]⟩, .slice none 0 0, .slice (some ⟨w1.heap.size + 1, 0, none⟩) 1 1] 25)).heap.size (d + 1 + 1) [recT nmY t] (some ⟨w1.heap.size + 1 + 1, 0, none⟩) := by rw [← z2]; exact kt_lit (t := recT nmY t) (al := none) (cl := 0) (ak := some ⟨w1.heap.size + 1, 0, none⟩) (ck := 1) (rec_bd nmY (by decide) t) (.inl rfl) k1
  have HK2 := hideK ((k2.keep b4).mono b4.size)
  have hA4 : Below w1.heap.size w1 ((((w1.alloc (.cells #[.int .i64 9, .int .i64 0, .string ⟨#[120]⟩, .slice none 0 0, .slice none 0 0] 25)).alloc (.cells #[.int .i64 t.kind, .int .i64 t.so, .string t.name, .slice al t.labels.length cl, .slice ak t.kids.length ck] 25)).alloc (.cells #[.int .i64 8, .int .i64 0, .string ⟨#[121]⟩, .slice none 0 0, .slice (some ⟨w1.heap.size + 1, 0, none⟩) 1 1] 25)).alloc (.cells #[.int .i64 8, .int .i64 0, .string ⟨#[120]⟩, .slice none 0 0, .slice (some ⟨w1.heap.size + 1 + 1, 0, none⟩) 1 1] 25)) := ((b1.trans (b2.mono b1.size)).trans (b3.mono (b1.trans (b2.mono b1.size)).size)).trans (b4.mono ((b1.trans (b2.mono b1.size)).trans (b3.mono (b1.trans (b2.mono b1.size)).size)).size)
  have HX2 := hideK (HX1.out.keep hA4 (by omega))
  have HB2 := hideK (HB1.out.trans (hA4.mono HB1.out.size))
  have HV2 := hideK (show TyAt ((((w1.alloc (.cells #[.int .i64 9, .int .i64 0, .string ⟨#[120]⟩, .slice none 0 0, .slice none 0 0] 25)).alloc (.cells #[.int .i64 t.kind, .int .i64 t.so, .string t.name, .slice al t.labels.length cl, .slice ak t.kids.length ck] 25)).alloc (.cells #[.int .i64 8, .int .i64 0, .string ⟨#[121]⟩, .slice none 0 0, .slice (some ⟨w1.heap.size + 1, 0, none⟩) 1 1] 25)).alloc (.cells #[.int .i64 8, .int .i64 0, .string ⟨#[120]⟩, .slice none 0 0, .slice (some ⟨w1.heap.size + 1 + 1, 0, none⟩) 1 1] 25)) w1.heap.size 0 (varT nmX) none 0 none 0 from var_at (by go_cell) (by go_cell) (by unfold nmX; go_cell) (by go_cell) (by go_cell))
  have HO2 := hideK (show TyAt ((((w1.alloc (.cells #[.int .i64 9, .int .i64 0, .string ⟨#[120]⟩, .slice none 0 0, .slice none 0 0] 25)).alloc (.cells #[.int .i64 t.kind, .int .i64 t.so, .string t.name, .slice al t.labels.length cl, .slice ak t.kids.length ck] 25)).alloc (.cells #[.int .i64 8, .int .i64 0, .string ⟨#[121]⟩, .slice none 0 0, .slice (some ⟨w1.heap.size + 1, 0, none⟩) 1 1] 25)).alloc (.cells #[.int .i64 8, .int .i64 0, .string ⟨#[120]⟩, .slice none 0 0, .slice (some ⟨w1.heap.size + 1 + 1, 0, none⟩) 1 1] 25)) (w1.heap.size + 1 + 1 + 1) 0 (recT nmX (recT nmY t)) none 0 (some ⟨w1.heap.size + 1 + 1, 0, none⟩) 1 from rec_at (by go_cell) (by go_cell) (by unfold nmX; go_cell) (by go_cell) (by go_cell))
  have cR := refType_any (d + 1 + 1) (recT nmX (recT nmY t)) none 0 (some ⟨w1.heap.size + 1 + 1, 0, none⟩) 1 ((((w1.alloc (.cells #[.int .i64 9, .int .i64 0, .string ⟨#[120]⟩, .slice none 0 0, .slice none 0 0] 25)).alloc (.cells #[.int .i64 t.kind, .int .i64 t.so, .string t.name, .slice al t.labels.length cl, .slice ak t.kids.length ck] 25)).alloc (.cells #[.int .i64 8, .int .i64 0, .string ⟨#[121]⟩, .slice none 0 0, .slice (some ⟨w1.heap.size + 1, 0, none⟩) 1 1] 25)).alloc (.cells #[.int .i64 8, .int .i64 0, .string ⟨#[120]⟩, .slice none 0 0, .slice (some ⟨w1.heap.size + 1 + 1, 0, none⟩) 1 1] 25)) (rec_bd nmX (by decide) _).w (.inl rfl) HK2.out
  unfold RTPost at cR
  have HON := hideK (fun (W : World) (hb : Below ((((w1.alloc (.cells #[.int .i64 9, .int .i64 0, .string ⟨#[120]⟩, .slice none 0 0, .slice none 0 0] 25)).alloc (.cells #[.int .i64 t.kind, .int .i64 t.so, .string t.name, .slice al t.labels.length cl, .slice ak t.kids.length ck] 25)).alloc (.cells #[.int .i64 8, .int .i64 0, .string ⟨#[121]⟩, .slice none 0 0, .slice (some ⟨w1.heap.size + 1, 0, none⟩) 1 1] 25)).alloc (.cells #[.int .i64 8, .int .i64 0, .string ⟨#[120]⟩, .slice none 0 0, .slice (some ⟨w1.heap.size + 1 + 1, 0, none⟩) 1 1] 25)).heap.size ((((w1.alloc (.cells #[.int .i64 9, .int .i64 0, .string ⟨#[120]⟩, .slice none 0 0, .slice none 0 0] 25)).alloc (.cells #[.int .i64 t.kind, .int .i64 t.so, .string t.name, .slice al t.labels.length cl, .slice ak t.kids.length ck] 25)).alloc (.cells #[.int .i64 8, .int .i64 0, .string ⟨#[121]⟩, .slice none 0 0, .slice (some ⟨w1.heap.size + 1, 0, none⟩) 1 1] 25)).alloc (.cells #[.int .i64 8, .int .i64 0, .string ⟨#[120]⟩, .slice none 0 0, .slice (some ⟨w1.heap.size + 1 + 1, 0, none⟩) 1 1] 25)) W) => of_any (d + 1 + 1) (recT nmX (recT nmY t)) none 0 (some ⟨w1.heap.size + 1 + 1, 0, none⟩) 1 W (rec_bd nmX (by decide) _) (.inl rfl) ((HK2.out.keep hb).mono hb.size))
  simp only [tyVal, recT, nmX, List.length_cons, List.length_nil, Nat.zero_add] at cR
  obtain ⟨x0, x1, x2, x3, x4⟩ := HX1.out
  simp only [Nat.zero_add] at x1 x2 x3 x4
  have xv := (HX1.out.keep b1 (by omega)).c0
  have xv1 := (HX1.out.keep b1 (by omega)).c1
  have xv2 := (HX1.out.keep b1 (by omega)).c2
  have xv3 := (HX1.out.keep b1 (by omega)).c3
  have xv4 := (HX1.out.keep b1 (by omega)).c4
  simp only [Nat.zero_add] at xv1 xv2 xv3 xv4
  clear hb1 q1 q2 q3 b1 b2 b3 b4 z1 z2 k1 k2 hA4 HX HB0
  go_wp2_with fail
  clear x0 x1 x2 x3 x4 xv xv1 xv2 xv3 xv4
  generalize ((((w1.alloc (.cells #[.int .i64 9, .int .i64 0, .string ⟨#[120]⟩, .slice none 0 0, .slice none 0 0] 25)).alloc (.cells #[.int .i64 t.kind, .int .i64 t.so, .string t.name, .slice al t.labels.length cl, .slice ak t.kids.length ck] 25)).alloc (.cells #[.int .i64 8, .int .i64 0, .string ⟨#[121]⟩, .slice none 0 0, .slice (some ⟨w1.heap.size + 1, 0, none⟩) 1 1] 25)).alloc (.cells #[.int .i64 8, .int .i64 0, .string ⟨#[120]⟩, .slice none 0 0, .slice (some ⟨w1.heap.size + 1 + 1, 0, none⟩) 1 1] 25)) = W2 at *
  have hz4 := HZ4.out
  refine cR.mono ?_
  rintro e w3 ⟨⟨z, rfl, hz⟩, hb3⟩
  have HX3 := hideK (HX2.out.keep hb3 (by omega))
  have HV3 := hideK (HV2.out.keep hb3 (by omega))
  have HO3 := hideK (HO2.out.keep hb3 (by omega))
  have HK3 := hideK ((HK2.out.keep hb3).mono hb3.size)
  have HB3 := hideK (HB2.out.trans (hb3.mono HB2.out.size))
  have HON3 := hideK (HON.out w3 hb3)
  have hs3 := hb3.size
  have HZZ := hideK (show z = 0 ↔ chkTy (recT nmX (recT nmY t)) = 0 from hz)
  clear cR hb3 hz HX1 HX2 HV2 HO2 HK2 HB1 HB2 HON
  by_cases hz0 : z = 0
  · have HCR := hideK (HZZ.out.1 hz0)
    subst hz0
    have HWT := hideK (show wfT t from by
      have h1 := ((wfT_eq _).1 (gdT_wf _ (chkTy_gd _ HCR.out).1)).2 (recT nmY t) (.head _)
      exact ((wfT_eq _).1 h1).2 t (.head _))
    have cP := put_any (sizeT t) nmY nmX (varT nmX) t al cl ak ck d none 0 none 0 0 w.heap.size w3 (Nat.le_refl _) (HT.out w3 HB3.out).1 (HTL.out.keep HB3.out) (HTK.out.keep HB3.out) ⟨by decide, fun l hl => (by cases hl), Nat.le_refl _, by decide, Nat.le_refl _, by decide⟩ (.inl rfl) rfl HB3.out.size HWT.out
    unfold PTPost at cP
    have HBK := hideK (bekic HCR.out)
    simp only [tyVal, varT, nmX, nmY, List.length_nil] at cP
    obtain ⟨x0, x1, x2, x3, x4⟩ := HX3.out
    obtain ⟨y0, y1, y2, y3, y4⟩ := HV3.out
    simp only [Nat.zero_add] at x1 x2 x3 x4 y1 y2 y3 y4
    simp only [varT, nmX, List.length_nil] at y0 y1 y2 y3 y4
    clear HZZ HON3
    go_wp2_with fail
    refine cP.mono ?_
    rintro e w5 ⟨hor, hb5⟩
    have HO5 := hideK (HO3.out.keep hb5 (by omega))
    have HK5 := hideK ((HK3.out.keep hb5).mono hb5.size)
    have HB5 := hideK (HB3.out.trans (hb5.mono HB3.out.size))
    have hs5 := hb5.size
    have hwb := HB3.out.size
    clear cP hb5 x0 x1 x2 x3 x4 y0 y1 y2 y3 y4 HX3 HV3 HO3 HK3 HB3
    rcases hor with ⟨_, t9, al9, cl9, ak9, ck9, rfl⟩ | ⟨hcap, al5, cl5, ak5, ck5, d5, rfl, hbd5, hlp5, hkp5⟩
    · go_wp2_with fail
      go_ret
      exact ⟨rfl, HB5.out.alloc HB5.out.size _⟩
    · have HBD5 := hideK hbd5
      have HLA5 := hideK (hlp5.la (B := w5.heap.size) (fun b hb => by have hb : b < w.heap.size ∨ (w3.heap.size ≤ b ∧ b < w5.heap.size) := hb; omega))
      have HKT5 := hideK (hkp5.kt (B := w5.heap.size) (fun b hb => by have hb : b < w.heap.size ∨ (w3.heap.size ≤ b ∧ b < w5.heap.size) := hb; omega))
      have HB := hideK (HBK.out hcap)
      clear hbd5 hlp5 hkp5 hcap HBK
      have HPE := hideK (show putT ⟨#[121]⟩ ⟨9, 0, ⟨#[120]⟩, [], []⟩ t = putT nmY (varT nmX) t from rfl)
      generalize hP : putT ⟨#[121]⟩ ⟨9, 0, ⟨#[120]⟩, [], []⟩ t = p at *
      have HBQ := hideK (show chkTy (recT nmX p) = 0 ∧ den (recT nmX (recT nmY t)) e0 = den (recT nmX p) e0 from by rw [HPE.out]; exact HB.out)
      have b6 : Below w5.heap.size w5 (w5.alloc (.cells #[.int .i64 p.kind, .int .i64 p.so, .string p.name, .slice al5 p.labels.length cl5, .slice ak5 p.kids.length ck5] 25)) := (Below.refl _ _).alloc (Nat.le_refl _) _
      have b7 : Below (w5.alloc (.cells #[.int .i64 p.kind, .int .i64 p.so, .string p.name, .slice al5 p.labels.length cl5, .slice ak5 p.kids.length ck5] 25)).heap.size (w5.alloc (.cells #[.int .i64 p.kind, .int .i64 p.so, .string p.name, .slice al5 p.labels.length cl5, .slice ak5 p.kids.length ck5] 25)) ((w5.alloc (.cells #[.int .i64 p.kind, .int .i64 p.so, .string p.name, .slice al5 p.labels.length cl5, .slice ak5 p.kids.length ck5] 25)).alloc (.cells #[.int .i64 p.kind, .int .i64 p.so, .string p.name, .slice al5 p.labels.length cl5, .slice ak5 p.kids.length ck5] 25)) := (Below.refl _ _).alloc (Nat.le_refl _) _
      have z6 : (w5.alloc (.cells #[.int .i64 p.kind, .int .i64 p.so, .string p.name, .slice al5 p.labels.length cl5, .slice ak5 p.kids.length ck5] 25)).heap.size = w5.heap.size + 1 := by simp
      have k6 : KT ((w5.alloc (.cells #[.int .i64 p.kind, .int .i64 p.so, .string p.name, .slice al5 p.labels.length cl5, .slice ak5 p.kids.length ck5] 25)).alloc (.cells #[.int .i64 p.kind, .int .i64 p.so, .string p.name, .slice al5 p.labels.length cl5, .slice ak5 p.kids.length ck5] 25)) ((w5.alloc (.cells #[.int .i64 p.kind, .int .i64 p.so, .string p.name, .slice al5 p.labels.length cl5, .slice ak5 p.kids.length ck5] 25)).alloc (.cells #[.int .i64 p.kind, .int .i64 p.so, .string p.name, .slice al5 p.labels.length cl5, .slice ak5 p.kids.length ck5] 25)).heap.size (d5 + 1) [p] (some ⟨w5.heap.size + 1, 0, none⟩) := by rw [← z6]; exact kt_lit HBD5.out ((HLA5.out.keep b6).mono b6.size) ((HKT5.out.keep b6).mono b6.size)
      have b67 := b6.trans (b7.mono b6.size)
      have cM := smGood HCR.out HBQ.out.1 (same_any (d + 1 + 1) (d5 + 1) (recT nmX (recT nmY t)) (recT nmX p) none 0 (some ⟨w1.heap.size + 1 + 1, 0, none⟩) 1 none 0 (some ⟨w5.heap.size + 1, 0, none⟩) 1 ((w5.alloc (.cells #[.int .i64 p.kind, .int .i64 p.so, .string p.name, .slice al5 p.labels.length cl5, .slice ak5 p.kids.length ck5] 25)).alloc (.cells #[.int .i64 p.kind, .int .i64 p.so, .string p.name, .slice al5 p.labels.length cl5, .slice ak5 p.kids.length ck5] 25)) (rec_bd nmX (by decide) _) (.inl rfl) ((HK5.out.keep b67).mono b67.size) (rec_bd nmX (by decide) _) (.inl rfl) k6)
      have HB7 := hideK (HB5.out.trans (b67.mono HB5.out.size))
      have y6 := HO5.out.keep b6 (by omega)
      obtain ⟨x0, x1, x2, x3, x4⟩ := HO5.out
      obtain ⟨y0, y1, y2, y3, y4⟩ := y6
      simp only [Nat.zero_add, recT, nmX, nmY, List.length_cons, List.length_nil] at x0 x1 x2 x3 x4 y0 y1 y2 y3 y4
      have HDN := hideK HBQ.out.2
      simp only [tyVal, recT, nmX, nmY, List.length_cons, List.length_nil, Nat.zero_add] at cM
      clear b6 b7 z6 k6 b67 HBD5 HLA5 HKT5 HPE
      go_wp2_with fail
      refine cM.mono ?_
      rintro e w8 ⟨⟨bb, rfl, hbb⟩, hb8⟩
      have HB8 := hideK (HB7.out.trans (hb8.mono HB7.out.size))
      obtain rfl : bb = true := hbb.2 HDN.out
      clear cM hb8 hbb x0 x1 x2 x3 x4 y0 y1 y2 y3 y4
      go_wp2_with fail
      go_ret
      exact ⟨rfl, HB8.out⟩
  · have hzb : (z != 0) = true := by simpa using hz0
    have hcn : chkTy (recT nmX (recT nmY t)) ≠ 0 := fun h => hz0 (HZZ.out.2 h)
    have cO := ofBad hcn HON3.out
    simp only [tyVal, recT, nmX, nmY, List.length_cons, List.length_nil, Nat.zero_add] at cO
    obtain ⟨x0, x1, x2, x3, x4⟩ := HO3.out
    simp only [Nat.zero_add, recT, nmX, nmY, List.length_cons, List.length_nil] at x0 x1 x2 x3 x4
    clear HZZ hz0 HON3 hcn
    go_wp2_with fail
    refine cO.mono ?_
    rintro e w4 ⟨⟨z4, hz4, rfl⟩, hb4⟩
    have hzb4 : (z4 != 0) = true := by simpa using hz4
    have HB4 := hideK (HB3.out.trans (hb4.mono HB3.out.size))
    clear cO hb4 hz4 x0 x1 x2 x3 x4
    go_wp2_with fail
    go_ret
    exact ⟨rfl, HB4.out⟩
end Go.Proofs.YtoieacgojkgjgaaDoor
