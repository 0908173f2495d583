/-
  The law of duetkeep.GraphUnique: whatever types are handed in it answers true.
-/
import Derived.Test.YtoieacgojkgjgaaDoorVp
import Derived.Test.YtoieacgojkgjgaaDoorIq
namespace Go.Proofs.YtoieacgojkgjgaaDoor
open Go.RowKit Go.Shelf

theorem end_len {g : List Nd} (h : OFG endT g) : g.length = 1 := by
  have h1 := h.gn.pos
  obtain ⟨c, hc, rfl⟩ := h.src
  have h2 := (least_gn (lay_gn h.chk) hc).2.2
  obtain ⟨hw, _⟩ := chkTy_good _ h.chk
  have e := lay_size endT hw [] 0
  have e2 : sizeT endT = 1 := by rw [sizeT_eq]; rfl
  omega
/-- the graph of End has one node -/
theorem ofEnd (w : World) : Calls Tryd.prog 9 #[.agg #[.int .i64 1, .int .i64 0, .string ⟨#[]⟩, .slice none 0 0, .slice none 0 0]] w fun e w' => (∃ ag cg, e = .returned (.tuple #[.slice ag 1 cg, .int .i64 0])) ∧ Below w.heap.size w w' := by
  refine (of_any 0 endT none 0 none 0 w end_bd (.inl rfl) rfl).mono ?_
  rintro e w' ⟨h | ⟨g, ag, cg, hg, rfl, _⟩, hb⟩
  · exact absurd end_chk h.1
  · exact ⟨⟨ag, cg, by rw [end_len hg]⟩, hb⟩
/-- a Rec around what lies in a literal -/
theorem kt_lit {W : World} {d : Nat} {t : Ty} {al : Option Addr} {cl : Nat} {ak : Option Addr} {ck : Nat} (hbd : TyBd t cl ck) (hla : LA W W.heap.size t.labels al) (hkt : KT W W.heap.size d t.kids ak) : KT (W.alloc (.cells #[.int .i64 t.kind, .int .i64 t.so, .string t.name, .slice al t.labels.length cl, .slice ak t.kids.length ck] 25)) (W.alloc (.cells #[.int .i64 t.kind, .int .i64 t.so, .string t.name, .slice al t.labels.length cl, .slice ak t.kids.length ck] 25)).heap.size (d + 1) [t] (some ⟨W.heap.size, 0, none⟩) := by
  have hA : Below W.heap.size W (W.alloc (.cells #[.int .i64 t.kind, .int .i64 t.so, .string t.name, .slice al t.labels.length cl, .slice ak t.kids.length ck] 25)) := (Below.refl _ _).alloc (Nat.le_refl _) _
  refine .inr ⟨W.heap.size, 0, rfl, by simp, fun i hi => ?_⟩
  have hi' : i < [t].length := hi
  obtain rfl : i = 0 := by simp at hi'; omega
  exact ⟨al, cl, ak, ck, ⟨by go_cell, by go_cell, by go_cell, by go_cell, by go_cell⟩, hbd, (hla.keep hA).mono hA.size, (hkt.keep hA).mono hA.size⟩
theorem rec_bd (x : ByteArray) (hx : x.size ≤ 9223372036854775807) (t : Ty) : TyBd (recT x t) 0 1 := ⟨hx, fun l hl => (by cases hl), Nat.le_refl _, by decide, Nat.le_refl _, by decide⟩
theorem rec_at {W : World} {b : Nat} {x : ByteArray} {t : Ty} {ak : Option Addr} (h0 : W.cell? ⟨b, 0, none⟩ = some (.int .i64 8)) (h1 : W.cell? ⟨b, 1, none⟩ = some (.int .i64 0)) (h2 : W.cell? ⟨b, 2, none⟩ = some (.string x)) (h3 : W.cell? ⟨b, 3, none⟩ = some (.slice none 0 0)) (h4 : W.cell? ⟨b, 4, none⟩ = some (.slice ak 1 1)) : TyAt W b 0 (recT x t) none 0 ak 1 := by
  refine ⟨h0, ?_, ?_, ?_, ?_⟩ <;> rw [Nat.zero_add] <;> assumption
theorem smLarge {s t : Ty} {w : World} (hs : chkTy s = 0) (ht : chkTy t = 2) {args : Array Value} (c : Calls Tryd.prog 11 args w (SMPost s t w)) : Calls Tryd.prog 11 args w fun e w' => e = .returned (.tuple #[.bool false, .int .i64 2]) ∧ Below w.heap.size w w' := by
  refine c.mono ?_
  rintro e w' ⟨h | h | h, hb⟩
  · exact absurd hs h.1
  · rw [ht] at h; exact ⟨h.2.2, hb⟩
  · rw [ht] at h; exact absurd h.2.1 (by decide)
set_option maxRecDepth 100000 in
set_option maxHeartbeats 16000000 in
theorem graphUnique_law (d ds : Nat) (t s : Ty) (al : Option Addr) (cl : Nat) (ak : Option Addr) (ck : Nat) (sal : Option Addr) (scl : Nat) (sak : Option Addr) (sck : Nat) (w : World) (ht1 : TyBd t cl ck) (ht2 : LA w w.heap.size t.labels al) (ht3 : KT w w.heap.size d t.kids ak) (hs1 : TyBd s scl sck) (hs2 : LA w w.heap.size s.labels sal) (hs3 : KT w w.heap.size ds s.kids sak) :
    Calls Tryd.prog 6 #[tyVal t al cl ak ck, tyVal s sal scl sak sck] w fun e w' => e = .returned (.bool true) ∧ Below w.heap.size w w' := by
  have hA : Below w.heap.size w ((w.alloc (.cells #[.int .i64 t.kind, .int .i64 t.so, .string t.name, .slice al t.labels.length cl, .slice ak t.kids.length ck] 25)).alloc (.cells #[.int .i64 s.kind, .int .i64 s.so, .string s.name, .slice sal s.labels.length scl, .slice sak s.kids.length sck] 25)) := ((Below.refl _ _).alloc (Nat.le_refl _) _).alloc (by simp) _
  have hsz : ((w.alloc (.cells #[.int .i64 t.kind, .int .i64 t.so, .string t.name, .slice al t.labels.length cl, .slice ak t.kids.length ck] 25)).alloc (.cells #[.int .i64 s.kind, .int .i64 s.so, .string s.name, .slice sal s.labels.length scl, .slice sak s.kids.length sck] 25)).heap.size = w.heap.size + 1 + 1 := by simp
  have HX := hideK (show TyAt ((w.alloc (.cells #[.int .i64 t.kind, .int .i64 t.so, .string t.name, .slice al t.labels.length cl, .slice ak t.kids.length ck] 25)).alloc (.cells #[.int .i64 s.kind, .int .i64 s.so, .string s.name, .slice sal s.labels.length scl, .slice sak s.kids.length sck] 25)) w.heap.size 0 t al cl ak ck from ⟨by go_cell, by go_cell, by go_cell, by go_cell, by go_cell⟩)
  have HY := hideK (show TyAt ((w.alloc (.cells #[.int .i64 t.kind, .int .i64 t.so, .string t.name, .slice al t.labels.length cl, .slice ak t.kids.length ck] 25)).alloc (.cells #[.int .i64 s.kind, .int .i64 s.so, .string s.name, .slice sal s.labels.length scl, .slice sak s.kids.length sck] 25)) (w.heap.size + 1) 0 s sal scl sak sck from ⟨by go_cell, by go_cell, by go_cell, by go_cell, by go_cell⟩)
  have HT := hideK (fun (W : World) (hb : Below w.heap.size w W) => And.intro ht1 (And.intro ((ht2.keep hb).mono hb.size) ((ht3.keep hb).mono hb.size)))
  have HS := hideK (fun (W : World) (hb : Below w.heap.size w W) => And.intro hs1 (And.intro ((hs2.keep hb).mono hb.size) ((hs3.keep hb).mono hb.size)))
  have HTL := hideK ht2
  have HTK := hideK ht3
  have HSL := hideK hs2
  have HSK := hideK hs3
  have HB0 := hideK hA
  have CE := hideK (fun W => ofEnd W)
  simp only [tyVal]
  clear ht1 ht2 ht3 hs1 hs2 hs3 hA
  go_enter Tryd.func6, Tryd.ntmps6
  go_wp2_with fail
  generalize ((w.alloc (.cells #[.int .i64 t.kind, .int .i64 t.so, .string t.name, .slice al t.labels.length cl, .slice ak t.kids.length ck] 25)).alloc (.cells #[.int .i64 s.kind, .int .i64 s.so, .string s.name, .slice sal s.labels.length scl, .slice sak s.kids.length sck] 25)) = W0 at *
  refine (CE.out _).mono ?_
  rintro e w1 ⟨⟨ag, cg, rfl⟩, hb1⟩
  have HX1 := hideK (HX.out.keep hb1 (by omega))
  have HY1 := hideK (HY.out.keep hb1 (by omega))
  have HB1 := hideK (HB0.out.trans (hb1.mono HB0.out.size))
  have hs1 : w.heap.size + 1 + 1 ≤ w1.heap.size := by have := hb1.size; omega
  obtain ⟨q1, q2, q3⟩ := HT.out w1 HB1.out
  have HK1 := hideK (kt_lit q1 q2 q3)
  have hA1 : Below w1.heap.size w1 (w1.alloc (.cells #[.int .i64 t.kind, .int .i64 t.so, .string t.name, .slice al t.labels.length cl, .slice ak t.kids.length ck] 25)) := (Below.refl _ _).alloc (Nat.le_refl _) _
  have hA2 : Below w1.heap.size w1 ((w1.alloc (.cells #[.int .i64 t.kind, .int .i64 t.so, .string t.name, .slice al t.labels.length cl, .slice ak t.kids.length ck] 25)).alloc (.cells #[.int .i64 8, .int .i64 0, .string ⟨#[120]⟩, .slice none 0 0, .slice (some ⟨w1.heap.size, 0, none⟩) 1 1] 25)) := hA1.alloc hA1.size _
  have hA3 : Below (w1.alloc (.cells #[.int .i64 t.kind, .int .i64 t.so, .string t.name, .slice al t.labels.length cl, .slice ak t.kids.length ck] 25)).heap.size (w1.alloc (.cells #[.int .i64 t.kind, .int .i64 t.so, .string t.name, .slice al t.labels.length cl, .slice ak t.kids.length ck] 25)) ((w1.alloc (.cells #[.int .i64 t.kind, .int .i64 t.so, .string t.name, .slice al t.labels.length cl, .slice ak t.kids.length ck] 25)).alloc (.cells #[.int .i64 8, .int .i64 0, .string ⟨#[120]⟩, .slice none 0 0, .slice (some ⟨w1.heap.size, 0, none⟩) 1 1] 25)) := (Below.refl _ _).alloc (Nat.le_refl _) _
  have HK2 := hideK ((HK1.out.keep hA3).mono hA3.size)
  have HX2 := hideK (HX1.out.keep hA2 (by omega))
  have HY2 := hideK (HY1.out.keep hA2 (by omega))
  have HB2 := hideK (HB1.out.trans (hA2.mono HB1.out.size))
  have hs2 : w1.heap.size + 2 = ((w1.alloc (.cells #[.int .i64 t.kind, .int .i64 t.so, .string t.name, .slice al t.labels.length cl, .slice ak t.kids.length ck] 25)).alloc (.cells #[.int .i64 8, .int .i64 0, .string ⟨#[120]⟩, .slice none 0 0, .slice (some ⟨w1.heap.size, 0, none⟩) 1 1] 25)).heap.size := by simp
  have HZ2 := hideK (show TyAt ((w1.alloc (.cells #[.int .i64 t.kind, .int .i64 t.so, .string t.name, .slice al t.labels.length cl, .slice ak t.kids.length ck] 25)).alloc (.cells #[.int .i64 8, .int .i64 0, .string ⟨#[120]⟩, .slice none 0 0, .slice (some ⟨w1.heap.size, 0, none⟩) 1 1] 25)) (w1.heap.size + 1) 0 (recT nmX t) none 0 (some ⟨w1.heap.size, 0, none⟩) 1 from rec_at (by go_cell) (by go_cell) (by unfold nmX; go_cell) (by go_cell) (by go_cell))
  have cR := refType_any (d + 1) (recT nmX t) none 0 (some ⟨w1.heap.size, 0, none⟩) 1 ((w1.alloc (.cells #[.int .i64 t.kind, .int .i64 t.so, .string t.name, .slice al t.labels.length cl, .slice ak t.kids.length ck] 25)).alloc (.cells #[.int .i64 8, .int .i64 0, .string ⟨#[120]⟩, .slice none 0 0, .slice (some ⟨w1.heap.size, 0, none⟩) 1 1] 25)) (rec_bd nmX (by decide) t).w (.inl rfl) HK2.out
  unfold RTPost at cR
  simp only [tyVal, recT, nmX] at cR
  obtain ⟨x0, x1, x2, x3, x4⟩ := HX1.out
  simp only [Nat.zero_add] at x1 x2 x3 x4
  have HHS2 := hideK hs2
  clear hb1 q1 q2 q3 hA1 hA2 hA3 HX HY HB0 hs2
  go_wp2_with fail
  generalize ((w1.alloc (.cells #[.int .i64 t.kind, .int .i64 t.so, .string t.name, .slice al t.labels.length cl, .slice ak t.kids.length ck] 25)).alloc (.cells #[.int .i64 8, .int .i64 0, .string ⟨#[120]⟩, .slice none 0 0, .slice (some ⟨w1.heap.size, 0, none⟩) 1 1] 25)) = W2 at *
  have hs2 := HHS2.out
  refine cR.mono ?_
  rintro e w3 ⟨⟨z, rfl, hz⟩, hb3⟩
  have HX3 := hideK (HX2.out.keep hb3 (by omega))
  have HY3 := hideK (HY2.out.keep hb3 (by omega))
  have HZ3 := hideK (HZ2.out.keep hb3 (by omega))
  have HK3 := hideK ((HK2.out.keep hb3).mono hb3.size)
  have HB3 := hideK (HB2.out.trans (hb3.mono HB2.out.size))
  have hs3 := hb3.size
  have HZZ := hideK (show z = 0 ↔ chkTy (recT nmX t) = 0 from hz)
  clear cR hb3 hz x0 x1 x2 x3 x4 HX1 HX2 HY1 HY2 HZ2 HK1 HK2 HB1 HB2 HHS2
  by_cases hz0 : z = 0
  · have HCR := hideK (HZZ.out.1 hz0)
    subst hz0
    obtain ⟨q1, q2, q3⟩ := HS.out w3 HB3.out
    have cS := refType_any ds s sal scl sak sck w3 q1.w q2 q3
    unfold RTPost at cS
    simp only [tyVal] at cS
    obtain ⟨y0, y1, y2, y3, y4⟩ := HY3.out
    simp only [Nat.zero_add] at y1 y2 y3 y4
    clear q1 q2 q3 HZZ
    go_wp2_with fail
    refine cS.mono ?_
    rintro e w4 ⟨⟨z2, rfl, hz2⟩, hb4⟩
    have HX4 := hideK (HX3.out.keep hb4 (by omega))
    have HY4 := hideK (HY3.out.keep hb4 (by omega))
    have HZ4 := hideK (HZ3.out.keep hb4 (by omega))
    have HK4 := hideK ((HK3.out.keep hb4).mono hb4.size)
    have HB4 := hideK (HB3.out.trans (hb4.mono HB3.out.size))
    have hs4 := hb4.size
    have HZZ2 := hideK hz2
    clear cS hb4 hz2 y0 y1 y2 y3 y4 HX3 HY3 HZ3 HK3 HB3
    by_cases hz20 : z2 = 0
    · have HCS := hideK (HZZ2.out.1 hz20)
      subst hz20
      have HML := hideK (milner HCR.out HCS.out)
      have HCAP := hideK (cap_none nmX t (chkTy_gd _ HCR.out |>.1 |> fun g => ((wfT_eq _).1 (gdT_wf _ g)).2 t (.head _)))
      have HWT := hideK (((wfT_eq _).1 (gdT_wf _ (chkTy_gd _ HCR.out).1)).2 t (.head _))
      have cP := put_any (sizeT t) nmX ⟨#[]⟩ s t al cl ak ck d sal scl sak sck ds w.heap.size w4 (Nat.le_refl _) (HT.out w4 HB4.out).1 (HTL.out.keep HB4.out) (HTK.out.keep HB4.out) (HS.out w4 HB4.out).1 (HSL.out.keep HB4.out) (HSK.out.keep HB4.out) HB4.out.size HWT.out
      unfold PTPost at cP
      simp only [tyVal, nmX] at cP
      obtain ⟨x0, x1, x2, x3, x4⟩ := HX4.out
      obtain ⟨y0, y1, y2, y3, y4⟩ := HY4.out
      simp only [Nat.zero_add] at x1 x2 x3 x4 y1 y2 y3 y4
      go_wp2_with fail
      refine cP.mono ?_
      rintro e w5 ⟨hor, hb5⟩
      have hor := hor.resolve_left (fun q => by have h1 := HCAP.out; unfold nmX at h1; rw [q.1] at h1; cases h1)
      obtain ⟨_, al5, cl5, ak5, ck5, d5, rfl, hbd5, hlp5, hkp5⟩ := hor
      have HY5 := hideK (HY4.out.keep hb5 (by omega))
      have HZ5 := hideK (HZ4.out.keep hb5 (by omega))
      have HK5 := hideK ((HK4.out.keep hb5).mono hb5.size)
      have HB5 := hideK (HB4.out.trans (hb5.mono HB4.out.size))
      have hs5 := hb5.size
      have hwb := HB4.out.size
      have HBD5 := hideK hbd5
      have HLA5 := hideK (hlp5.la (B := w5.heap.size) (fun b hb => by have hb : b < w.heap.size ∨ (w4.heap.size ≤ b ∧ b < w5.heap.size) := hb; omega))
      have HKT5 := hideK (hkp5.kt (B := w5.heap.size) (fun b hb => by have hb : b < w.heap.size ∨ (w4.heap.size ≤ b ∧ b < w5.heap.size) := hb; omega))
      clear cP hb5 hbd5 hlp5 hkp5 x0 x1 x2 x3 x4 y0 y1 y2 y3 y4 HX4 HY4 HZ4 HK4 HB4
      have HPE := hideK (show putT ⟨#[120]⟩ s t = putT nmX s t from rfl)
      generalize hP : putT ⟨#[120]⟩ s t = p at *
      have HML2 := hideK (show (chkTy p = 0 ∨ chkTy p = 2) ∧ (den s e0 = den p e0 ↔ den s e0 = den (recT nmX t) e0) from by rw [HPE.out]; exact HML.out)
      have hA6 : Below w5.heap.size w5 (w5.alloc (.cells #[.int .i64 p.kind, .int .i64 p.so, .string p.name, .slice al5 p.labels.length cl5, .slice ak5 p.kids.length ck5] 25)) := (Below.refl _ _).alloc (Nat.le_refl _) _
      have HY6 := hideK (HY5.out.keep hA6 (by omega))
      have HZ6 := hideK (HZ5.out.keep hA6 (by omega))
      have HK6 := hideK ((HK5.out.keep hA6).mono hA6.size)
      have HB6 := hideK (HB5.out.trans (hA6.mono HB5.out.size))
      have hs6 := hA6.size
      obtain ⟨q1, q2, q3⟩ := HS.out _ HB6.out
      have cM0 := same_any ds d5 s p sal scl sak sck al5 cl5 ak5 ck5 (w5.alloc (.cells #[.int .i64 p.kind, .int .i64 p.so, .string p.name, .slice al5 p.labels.length cl5, .slice ak5 p.kids.length ck5] 25)) q1 q2 q3 HBD5.out ((HLA5.out.keep hA6).mono hA6.size) ((HKT5.out.keep hA6).mono hA6.size)
      have HM2 := hideK (fun (W : World) (hb : Below (w5.alloc (.cells #[.int .i64 p.kind, .int .i64 p.so, .string p.name, .slice al5 p.labels.length cl5, .slice ak5 p.kids.length ck5] 25)).heap.size (w5.alloc (.cells #[.int .i64 p.kind, .int .i64 p.so, .string p.name, .slice al5 p.labels.length cl5, .slice ak5 p.kids.length ck5] 25)) W) => smGood HCS.out HCR.out (same_any ds (d + 1) s (recT nmX t) sal scl sak sck none 0 (some ⟨w1.heap.size, 0, none⟩) 1 W (HS.out W (HB6.out.trans (hb.mono HB6.out.size))).1 (HS.out W (HB6.out.trans (hb.mono HB6.out.size))).2.1 (HS.out W (HB6.out.trans (hb.mono HB6.out.size))).2.2 (rec_bd nmX (by decide) t) (.inl rfl) ((HK6.out.keep hb).mono hb.size)))
      simp only [tyVal, recT, nmX] at HM2
      obtain ⟨y0, y1, y2, y3, y4⟩ := HY6.out
      obtain ⟨b0, b1, b2, b3, b4⟩ := HY5.out
      simp only [Nat.zero_add] at y1 y2 y3 y4 b1 b2 b3 b4
      clear q1 q2 q3 HBD5 HLA5 HKT5 hA6 HPE HML
      rcases HML2.out.1 with hp0 | hp2
      · have cM := smGood HCS.out hp0 cM0
        simp only [tyVal] at cM
        clear cM0 hp0
        go_wp2_with fail
        refine cM.mono ?_
        generalize (w5.alloc (.cells #[.int .i64 p.kind, .int .i64 p.so, .string p.name, .slice al5 p.labels.length cl5, .slice ak5 p.kids.length ck5] 25)) = W6 at *
        rintro e w7 ⟨⟨bb, rfl, hbb⟩, hb7⟩
        have HY7 := hideK (HY6.out.keep hb7 (by omega))
        have HZ7 := hideK (HZ6.out.keep hb7 (by omega))
        have cM2 := HM2.out w7 hb7
        have HB7 := hideK (HB6.out.trans (hb7.mono HB6.out.size))
        have HBB := hideK hbb
        clear cM hb7 hbb y0 y1 y2 y3 y4 b0 b1 b2 b3 b4 HM2
        obtain ⟨y0, y1, y2, y3, y4⟩ := HY7.out
        obtain ⟨x0, x1, x2, x3, x4⟩ := HZ7.out
        simp only [Nat.zero_add, recT, nmX, List.length_cons, List.length_nil] at x0 x1 x2 x3 x4 y1 y2 y3 y4
        go_wp2_with fail
        refine cM2.mono ?_
        rintro e w8 ⟨⟨b8, rfl, hb88⟩, hb8⟩
        have HB8 := hideK (HB7.out.trans (hb8.mono HB7.out.size))
        have HEQ := hideK (show bb = b8 from by
          have h1 : bb = true ↔ b8 = true := HBB.out.trans (HML2.out.2.trans hb88.symm)
          cases bb <;> cases b8 <;> simp at h1 ⊢)
        clear cM2 hb8 hb88 y0 y1 y2 y3 y4 x0 x1 x2 x3 x4
        have he := HEQ.out
        subst he
        clear HEQ HBB
        cases bb
        all_goals
          go_wp2_with fail
          go_ret
          exact ⟨rfl, HB8.out⟩
      · have cM := smLarge HCS.out hp2 cM0
        simp only [tyVal] at cM
        clear cM0 hp2
        go_wp2_with fail
        refine cM.mono ?_
        generalize (w5.alloc (.cells #[.int .i64 p.kind, .int .i64 p.so, .string p.name, .slice al5 p.labels.length cl5, .slice ak5 p.kids.length ck5] 25)) = W6 at *
        rintro e w7 ⟨rfl, hb7⟩
        have HY7 := hideK (HY6.out.keep hb7 (by omega))
        have HZ7 := hideK (HZ6.out.keep hb7 (by omega))
        have cM2 := HM2.out w7 hb7
        have HB7 := hideK (HB6.out.trans (hb7.mono HB6.out.size))
        clear cM hb7 y0 y1 y2 y3 y4 b0 b1 b2 b3 b4 HM2
        obtain ⟨y0, y1, y2, y3, y4⟩ := HY7.out
        obtain ⟨x0, x1, x2, x3, x4⟩ := HZ7.out
        simp only [Nat.zero_add, recT, nmX, List.length_cons, List.length_nil] at x0 x1 x2 x3 x4 y1 y2 y3 y4
        go_wp2_with fail
        refine cM2.mono ?_
        rintro e w8 ⟨⟨b8, rfl, hb88⟩, hb8⟩
        have HB8 := hideK (HB7.out.trans (hb8.mono HB7.out.size))
        clear cM2 hb8 hb88 y0 y1 y2 y3 y4 x0 x1 x2 x3 x4
        go_wp2_with fail
        go_ret
        exact ⟨rfl, HB8.out⟩
    · have hzb : (z2 != 0) = true := by simpa using hz20
      clear HZZ2 hz20
      go_wp2_with fail
      go_ret
      exact ⟨rfl, HB4.out⟩
  · have hzb : (z != 0) = true := by simpa using hz0
    clear HZZ hz0
    go_wp2_with fail
    go_ret
    exact ⟨rfl, HB3.out⟩
end Go.Proofs.YtoieacgojkgjgaaDoor
