/-
  The contracts of what global.Parse hands to pieces.Read.
-/
import Derived.Test.YtfmegfgmkeicnaaDoorCyh
import Derived.Test.YtfmegfgmkeicnaaDoorKwg
namespace Go.Proofs.YtfmegfgmkeicnaaDoor
open Go.RowKit Go.Shelf
theorem FR.viaC {tb rb : Nat} {w0 w w1 : World} (h : FR tb w0 w) (k : FR rb w w1) (hr : w0.heap.size ≤ rb) : FR tb w0 w1 :=
  ⟨k.os.trans h.os, k.tape.trans h.tape, k.output.trans h.output, Nat.le_trans h.size k.size, fun i hi hn => (k.block i (Nat.lt_of_lt_of_le hi h.size) (fun e => by injection e with e; omega)).trans (h.block i hi hn)⟩
/-- what has been read lies in block tb -/
def InCv (w : World) (tb : Nat) (t : Cv) (w' : World) : Prop := ∃ d al cl ak ck, CvAt w' tb 0 t al cl ak ck ∧ GCv w w' d t al cl ak ck ∧ ∀ o, w'.frozen? ⟨tb, o, none⟩ = false
set_option maxRecDepth 100000 in
set_option maxHeartbeats 2000000 in
theorem parseC1_bad (rb tb q : Nat) (s : ByteArray) (w0 w : World) (hr : RS w rb s q) (hz : ZCv w tb) (hne : tb ≠ rb) (h0 : FR tb w0 w) (hw0 : w0.heap.size ≤ rb) {r : List UInt8} (hX : rdE 2001 (rs s q) = .error r) :
    Calls Tryd.prog 26 #[.pointer (some ⟨rb, 0, none⟩), .pointer (some ⟨tb, 0, none⟩)] w fun e w' => e = .panicked (faultE 3 ((s.size - r.length : Nat) : Int)) ∧ FR tb w0 w' ∧ ZCv w' tb := by
  have hlt : (rs s q).length < 2001 := by rw [rs_len]; have := hr.sz; omega
  have c := readE_bad (readE_all 2001) hX hlt rb q s w hr rfl
  have hf : thrown s r = faultE 3 ((s.size - r.length : Nat) : Int) := rfl
  rw [hf] at c
  clear hX hlt hf
  go_enter Tryd.func26, Tryd.ntmps26
  go_wp2_with fail
  refine c.mono ?_
  rintro e w1 ⟨rfl, hf1⟩
  go_wp2_with fail
  exact ⟨rfl, rfl, h0.viaC hf1 hw0, hz.keep hf1 hne⟩
set_option maxRecDepth 100000 in
set_option maxHeartbeats 2000000 in
theorem parseC1_more (rb tb q : Nat) (s : ByteArray) (w0 w : World) (hr : RS w rb s q) (hz : ZCv w tb) (hne : tb ≠ rb) (h0 : FR tb w0 w) (hw0 : w0.heap.size ≤ rb) {t : Cv} {r : List UInt8} (hX : rdE 2001 (rs s q) = .ok (t, r)) (hrn : r ≠ []) :
    Calls Tryd.prog 26 #[.pointer (some ⟨rb, 0, none⟩), .pointer (some ⟨tb, 0, none⟩)] w fun e w' => e = .panicked (faultE 3 ((s.size - r.length : Nat) : Int)) ∧ FR tb w0 w' ∧ ZCv w' tb := by
  have hlt : (rs s q).length < 2001 := by rw [rs_len]; have := hr.sz; omega
  have c := readE_ok (readE_all 2001) hX hlt rb q s w hr rfl
  clear hX hlt
  go_enter Tryd.func26, Tryd.ntmps26
  go_wp2_with fail
  refine c.mono ?_
  rintro e w1 ⟨⟨al, cl, ak, ck, rfl, hg⟩, ⟨q1, hq1, hl1⟩, hf1⟩
  have F1 := hideK ((h0.viaC hf1 hw0).trans (FR.al (pb := tb) (.cells #[.int .i64 t.kind, .string t.fm, .string t.tt, .int .i64 t.so, .string t.name, .slice al t.labels.length cl, .slice ak t.kids.length ck] 25)))
  have htl := hz.lt
  have Z1 := hideK ((hz.keep hf1 hne).keep (FR.al (pb := rb) (.cells #[.int .i64 t.kind, .string t.fm, .string t.tt, .int .i64 t.so, .string t.name, .slice al t.labels.length cl, .slice ak t.kids.length ck] 25)) hne)
  have cF := finish_any rb q1 s _ (hq1.al (.cells #[.int .i64 t.kind, .string t.fm, .string t.tt, .int .i64 t.so, .string t.name, .slice al t.labels.length cl, .slice ak t.kids.length ck] 25))
  rw [hl1] at cF
  rw [if_neg hrn] at cF
  have hf : thrown s r = faultE 3 ((s.size - r.length : Nat) : Int) := rfl
  rw [hf] at cF
  clear hq1 hl1 hf1 hg hrn hf c
  go_wp2_with fail
  refine cF.mono ?_
  rintro e w2 ⟨rfl, hb2⟩
  go_wp2_with fail
  exact ⟨rfl, rfl, F1.out.trans (FR.of hb2), Z1.out.keep (FR.of (pb := rb) hb2) hne⟩
theorem FR.st7b {tb : Nat} {w0 W : World} (h : FR tb w0 W) (v0 v1 v2 v3 v4 v5 v6 : Value) : FR tb w0 (st7Cv W tb 0 v0 v1 v2 v3 v4 v5 v6) := by
  unfold st7Cv
  exact ((((((h.trans (FR.set2 _ _)).trans (FR.set2 _ _)).trans (FR.set2 _ _)).trans (FR.set2 _ _)).trans (FR.set2 _ _)).trans (FR.set2 _ _)).trans (FR.set2 _ _)
set_option maxRecDepth 100000 in
set_option maxHeartbeats 2000000 in
theorem parseC1_wrong (rb tb q : Nat) (s : ByteArray) (w0 w : World) (hr : RS w rb s q) (hz : ZCv w tb) (hne : tb ≠ rb) (h0 : FR tb w0 w) (hw0 : w0.heap.size ≤ rb) {t : Cv} (hX : rdE 2001 (rs s q) = .ok (t, [])) (hc : chkCv t ≠ 0) :
    Calls Tryd.prog 26 #[.pointer (some ⟨rb, 0, none⟩), .pointer (some ⟨tb, 0, none⟩)] w fun e w' => e = .panicked (faultE (chkCv t) 0) ∧ FR tb w0 w' ∧ ZCv w' tb := by
  have hlt : (rs s q).length < 2001 := by rw [rs_len]; have := hr.sz; omega
  have c := readE_ok (readE_all 2001) hX hlt rb q s w hr rfl
  have hzb : (chkCv t != 0) = true := by simpa using hc
  have HCC := hideK (fun (al : Option Addr) (cl : Nat) (ak : Option Addr) (ck : Nat) (w W : World) (hg : GCv w W 2001 t al cl ak ck) => globalCheck_any 2001 t al cl ak ck W hg.bd (hg.la.toLA (fun b hb => hb.2)) (hg.ka.toK (fun b hb => hb.2)))
  clear hX hlt hc
  generalize chkCv t = z at *
  unfold faultE
  go_enter Tryd.func26, Tryd.ntmps26
  go_wp2_with fail
  refine c.mono ?_
  rintro e w1 ⟨⟨al, cl, ak, ck, rfl, hg⟩, ⟨q1, hq1, hl1⟩, hf1⟩
  have F1 := hideK ((h0.viaC hf1 hw0).trans (FR.al (pb := tb) (.cells #[.int .i64 t.kind, .string t.fm, .string t.tt, .int .i64 t.so, .string t.name, .slice al t.labels.length cl, .slice ak t.kids.length ck] 25)))
  have htl := hz.lt
  have Z1 := hideK ((hz.keep hf1 hne).keep (FR.al (pb := rb) (.cells #[.int .i64 t.kind, .string t.fm, .string t.tt, .int .i64 t.so, .string t.name, .slice al t.labels.length cl, .slice ak t.kids.length ck] 25)) hne)
  have cF := finish_any rb q1 s _ (hq1.al (.cells #[.int .i64 t.kind, .string t.fm, .string t.tt, .int .i64 t.so, .string t.name, .slice al t.labels.length cl, .slice ak t.kids.length ck] 25))
  rw [hl1] at cF
  rw [if_pos rfl] at cF
  have HG := hideK hg
  have X1 := hideK (CvAt.lit w1 t al cl ak ck)
  clear hq1 hl1 hf1 hg c
  go_wp2_with fail
  refine cF.mono ?_
  rintro e w2 ⟨rfl, hb2⟩
  have X2 := hideK (X1.out.keep hb2 (by simp))
  have F2 := hideK (F1.out.trans (FR.of hb2))
  have Z2 := hideK (Z1.out.keep (FR.of (pb := rb) hb2) hne)
  have cC := HCC.out al cl ak ck w w2 (HG.out.below (((Below.refl _ _).alloc (Nat.le_refl _) _).trans (hb2.mono (by simp))))
  simp only [valCv] at cC
  obtain ⟨x0, x1, x2, x3, x4, x5, x6⟩ := X2.out
  simp only [Nat.zero_add] at x1 x2 x3 x4 x5 x6
  clear cF HCC HG X1 F1 Z1 hb2
  go_wp2_with fail
  refine cC.mono ?_
  rintro e w3 ⟨rfl, hb3⟩
  go_wp2_with fail
  exact ⟨rfl, rfl, F2.out.trans (FR.of hb3), Z2.out.keep (FR.of (pb := rb) hb3) hne⟩
set_option maxRecDepth 100000 in
set_option maxHeartbeats 2000000 in
theorem parseC1_good (rb tb q : Nat) (s : ByteArray) (w0 w : World) (hr : RS w rb s q) (hz : ZCv w tb) (hne : tb ≠ rb) (h0 : FR tb w0 w) (hw0 : w0.heap.size ≤ rb) {t : Cv} (hX : rdE 2001 (rs s q) = .ok (t, [])) (hc : chkCv t = 0) :
    Calls Tryd.prog 26 #[.pointer (some ⟨rb, 0, none⟩), .pointer (some ⟨tb, 0, none⟩)] w fun e w' => e = .returned (.tuple #[]) ∧ InCv w tb t w' ∧ FR tb w0 w' := by
  have hlt : (rs s q).length < 2001 := by rw [rs_len]; have := hr.sz; omega
  have c := readE_ok (readE_all 2001) hX hlt rb q s w hr rfl
  have HCC := hideK (fun (al : Option Addr) (cl : Nat) (ak : Option Addr) (ck : Nat) (w W : World) (hg : GCv w W 2001 t al cl ak ck) => globalCheck_any 2001 t al cl ak ck W hg.bd (hg.la.toLA (fun b hb => hb.2)) (hg.ka.toK (fun b hb => hb.2)))
  rw [hc] at HCC
  clear hX hlt hc
  go_enter Tryd.func26, Tryd.ntmps26
  go_wp2_with fail
  refine c.mono ?_
  rintro e w1 ⟨⟨al, cl, ak, ck, rfl, hg⟩, ⟨q1, hq1, hl1⟩, hf1⟩
  have F1 := hideK ((h0.viaC hf1 hw0).trans (FR.al (pb := tb) (.cells #[.int .i64 t.kind, .string t.fm, .string t.tt, .int .i64 t.so, .string t.name, .slice al t.labels.length cl, .slice ak t.kids.length ck] 25)))
  have htl := hz.lt
  have Z1 := hideK ((hz.keep hf1 hne).keep (FR.al (pb := rb) (.cells #[.int .i64 t.kind, .string t.fm, .string t.tt, .int .i64 t.so, .string t.name, .slice al t.labels.length cl, .slice ak t.kids.length ck] 25)) hne)
  have cF := finish_any rb q1 s _ (hq1.al (.cells #[.int .i64 t.kind, .string t.fm, .string t.tt, .int .i64 t.so, .string t.name, .slice al t.labels.length cl, .slice ak t.kids.length ck] 25))
  rw [hl1] at cF
  rw [if_pos rfl] at cF
  have HG := hideK hg
  have X1 := hideK (CvAt.lit w1 t al cl ak ck)
  clear hq1 hl1 hf1 hg c
  go_wp2_with fail
  refine cF.mono ?_
  rintro e w2 ⟨rfl, hb2⟩
  have X2 := hideK (X1.out.keep hb2 (by simp))
  have F2 := hideK (F1.out.trans (FR.of hb2))
  have Z2 := hideK (Z1.out.keep (FR.of (pb := rb) hb2) hne)
  have HG2 := hideK (HG.out.below (((Below.refl _ _).alloc (Nat.le_refl _) _).trans (hb2.mono (by simp))))
  have cC := HCC.out al cl ak ck w w2 HG2.out
  simp only [valCv] at cC
  have hl2 : Hid (w1.heap.size < w2.heap.size) := by have := hb2.size; simp at this; show _ < _; omega
  obtain ⟨x0, x1, x2, x3, x4, x5, x6⟩ := X2.out
  simp only [Nat.zero_add] at x1 x2 x3 x4 x5 x6
  clear cF HCC HG X1 F1 Z1 hb2
  go_wp2_with fail
  refine cC.mono ?_
  rintro e w3 ⟨rfl, hb3⟩
  clear x0 x1 x2 x3 x4 x5 x6
  obtain ⟨x0, x1, x2, x3, x4, x5, x6⟩ := X2.out.keep hb3 hl2.out
  simp only [Nat.zero_add] at x1 x2 x3 x4 x5 x6
  have F3 := hideK (F2.out.trans (FR.of hb3))
  have Z3 := hideK (Z2.out.keep (FR.of (pb := rb) hb3) hne)
  have HG3 := hideK (HG2.out.below hb3)
  obtain ⟨zl, z0, z1, z2, z3, z4, z5, z6, zf⟩ := id Z3.out
  have y0 := zf 0
  have y1 := zf 1
  have y2 := zf 2
  have y3 := zf 3
  have y4 := zf 4
  have y5 := zf 5
  have y6 := zf 6
  clear zf cC hb3 X2 F2 Z2 HG2
  go_wp2_with fail
  have FZ : ∀ o, (st7Cv w3 tb 0 (.int .i64 t.kind) (.string t.fm) (.string t.tt) (.int .i64 t.so) (.string t.name) (.slice al t.labels.length cl) (.slice ak t.kids.length ck)).frozen? ⟨tb, o, none⟩ = false := fun o => by rw [st7Cv_frozen]; exact Z3.out.f o
  have TA := Z3.out.st t al cl ak ck
  have F9 := F3.out.st7b (.int .i64 t.kind) (.string t.fm) (.string t.tt) (.int .i64 t.so) (.string t.name) (.slice al t.labels.length cl) (.slice ak t.kids.length ck)
  have G9 := HG3.out.st (w := w) (b := tb) htl (.int .i64 t.kind) (.string t.fm) (.string t.tt) (.int .i64 t.so) (.string t.name) (.slice al t.labels.length cl) (.slice ak t.kids.length ck) (Nat.le_refl _)
  change CvAt (st7Cv w3 tb 0 (.int .i64 t.kind) (.string t.fm) (.string t.tt) (.int .i64 t.so) (.string t.name) (.slice al t.labels.length cl) (.slice ak t.kids.length ck)) _ _ _ _ _ _ _ at TA
  change bodyPost _ _ _ _ _ (st7Cv w3 tb 0 (.int .i64 t.kind) (.string t.fm) (.string t.tt) (.int .i64 t.so) (.string t.name) (.slice al t.labels.length cl) (.slice ak t.kids.length ck))
  generalize st7Cv w3 tb 0 (.int .i64 t.kind) (.string t.fm) (.string t.tt) (.int .i64 t.so) (.string t.name) (.slice al t.labels.length cl) (.slice ak t.kids.length ck) = W9 at TA F9 G9 FZ ⊢
  go_end0
  exact ⟨rfl, ⟨2001, al, cl, ak, ck, TA, G9, FZ⟩, F9⟩
end Go.Proofs.YtfmegfgmkeicnaaDoor
