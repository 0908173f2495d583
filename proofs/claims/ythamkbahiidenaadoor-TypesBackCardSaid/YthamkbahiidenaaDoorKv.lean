/-
  The contracts of types.checked, of what types.Parse hands to pieces.Read, of pieces.Read with that, and of types.Parse, for every text.
-/
import Derived.Test.YthamkbahiidenaaDoorKs
import Derived.Test.YthamkbahiidenaaDoorKt
import Derived.Test.YthamkbahiidenaaDoorKe
namespace Go.Proofs.YthamkbahiidenaaDoor
open Go.RowKit Go.Shelf

/-- what a type's reading comes to, over all of a text: the error and the byte, or the type -/
def psT (L : List UInt8) : Except (Int × Nat) Ty :=
  if 2000 < L.length then .error (2, 0) else
  match rdT 2001 (skB L) with
  | .error r => .error (3, L.length - r.length)
  | .ok (t, r) => if r = [] then (if chkTy t = 0 then .ok t else .error (chkTy t, 0)) else .error (3, L.length - r.length)
def faultE (c : Int) (a : Int) : List PanicEntry := [{ v := .iface 30 (.agg #[.int .i64 c, .int .i64 a]), recovered := false }]
theorem FR.via {tb rb : Nat} {w0 w w1 : World} (h : FR tb w0 w) (k : FR rb w w1) (hr : w0.heap.size ≤ rb) : FR tb w0 w1 :=
  ⟨k.os.trans h.os, k.tape.trans h.tape, k.output.trans h.output, Nat.le_trans h.size k.size, fun i hi hn => (k.block i (Nat.lt_of_lt_of_le hi h.size) (fun e => by injection e with e; omega)).trans (h.block i hi hn)⟩
theorem FR.stb {tb : Nat} {w0 W : World} (h : FR tb w0 W) (v0 v1 v2 v3 v4 : Value) : FR tb w0 (st5 W tb 0 v0 v1 v2 v3 v4) := by
  unfold st5
  exact ((((h.trans (FR.set2 _ _)).trans (FR.set2 _ _)).trans (FR.set2 _ _)).trans (FR.set2 _ _)).trans (FR.set2 _ _)
set_option maxRecDepth 100000 in
set_option maxHeartbeats 1000000 in
theorem checked_ok (d : Nat) (t : Ty) (al : Option Addr) (cl : Nat) (ak : Option Addr) (ck : Nat) (w : World) (hbd : TyBd t cl ck) (hla : LA w w.heap.size t.labels al) (hkt : KT w w.heap.size d t.kids ak) (hz : chkTy t = 0) :
    Calls Tryd.prog 19 #[.agg #[.int .i64 t.kind, .int .i64 t.so, .string t.name, .slice al t.labels.length cl, .slice ak t.kids.length ck]] w fun e w' => e = .returned (.agg #[.int .i64 t.kind, .int .i64 t.so, .string t.name, .slice al t.labels.length cl, .slice ak t.kids.length ck]) ∧ Below w.heap.size w w' := by
  have hA : Below w.heap.size w ((w.alloc (.cells #[.int .i64 t.kind, .int .i64 t.so, .string t.name, .slice al t.labels.length cl, .slice ak t.kids.length ck] 25)).alloc (.cells #[.int .i64 0, .int .i64 0, .string ⟨#[]⟩, .slice none 0 0, .slice none 0 0] 25)) := ((Below.refl _ _).alloc (Nat.le_refl _) _).alloc (by simp) _
  have cC := typesCheck_any d t al cl ak ck _ hbd (NAt.mono hA.size (NAt.keep hA hla)) (KT.mono hA.size (KT.keep hA hkt))
  have C0 := hideK ((TyAt.lit w t al cl ak ck).keepF (FR.al (pb := w.heap.size + 1) (.cells #[.int .i64 0, .int .i64 0, .string ⟨#[]⟩, .slice none 0 0, .slice none 0 0] 25)) (by omega) (by simp))
  have HA := hideK hA
  simp only [tyVal] at cC
  clear hbd hla hkt hA
  rw [hz] at cC
  have Z0 := ZT.new (w.alloc (.cells #[.int .i64 t.kind, .int .i64 t.so, .string t.name, .slice al t.labels.length cl, .slice ak t.kids.length ck] 25))
  rw [show (w.alloc (.cells #[.int .i64 t.kind, .int .i64 t.so, .string t.name, .slice al t.labels.length cl, .slice ak t.kids.length ck] 25)).heap.size = w.heap.size + 1 by simp] at Z0
  have HZ := hideK Z0
  clear Z0 hz
  go_enter Tryd.func19, Tryd.ntmps19
  go_wp2_with fail
  refine cC.mono ?_
  rintro e w3 ⟨rfl, hb3⟩
  have C3 := C0.out.keep hb3 (by simp; omega)
  obtain ⟨x0, x1, x2, x3, x4⟩ := id C3
  simp only [Nat.zero_add] at x1 x2 x3 x4
  have Z3 := HZ.out.keep (FR.of (pb := w.heap.size) hb3) (by omega)
  obtain ⟨zl, z0, z1, z2, z3, z4, y0, y1, y2, y3, y4⟩ := id Z3
  have HB := hideK (HA.out.trans (hb3.mono HA.out.size))
  clear cC hb3
  go_wp2_with fail
  have TA := Z3.st t al cl ak ck
  have B9 := hideK (st5_below (w.heap.size + 1) 0 (.int .i64 t.kind) (.int .i64 t.so) (.string t.name) (.slice al t.labels.length cl) (.slice ak t.kids.length ck) HB.out (by omega))
  change bodyPost _ _ _ _ _ (st5 w3 (w.heap.size + 1) 0 (.int .i64 t.kind) (.int .i64 t.so) (.string t.name) (.slice al t.labels.length cl) (.slice ak t.kids.length ck))
  generalize st5 w3 (w.heap.size + 1) 0 (.int .i64 t.kind) (.int .i64 t.so) (.string t.name) (.slice al t.labels.length cl) (.slice ak t.kids.length ck) = W9 at TA B9 ⊢
  obtain ⟨r0, r1, r2, r3, r4⟩ := TA
  simp only [Nat.zero_add] at r1 r2 r3 r4
  refine bodyPost_ret (v := .agg #[.int .i64 t.kind, .int .i64 t.so, .string t.name, .slice al t.labels.length cl, .slice ak t.kids.length ck]) (by simp [results, Tryd.results19, go_sem, r0, r1, r2, r3, r4]) rfl ?_
  exact ⟨rfl, B9.out⟩
set_option maxRecDepth 100000 in
set_option maxHeartbeats 1000000 in
theorem checked_bad (d : Nat) (t : Ty) (al : Option Addr) (cl : Nat) (ak : Option Addr) (ck : Nat) (w : World) (hbd : TyBd t cl ck) (hla : LA w w.heap.size t.labels al) (hkt : KT w w.heap.size d t.kids ak) (hz : chkTy t ≠ 0) :
    Calls Tryd.prog 19 #[.agg #[.int .i64 t.kind, .int .i64 t.so, .string t.name, .slice al t.labels.length cl, .slice ak t.kids.length ck]] w fun e w' => e = .panicked (faultE (chkTy t) 0) ∧ Below w.heap.size w w' := by
  have hA : Below w.heap.size w ((w.alloc (.cells #[.int .i64 t.kind, .int .i64 t.so, .string t.name, .slice al t.labels.length cl, .slice ak t.kids.length ck] 25)).alloc (.cells #[.int .i64 0, .int .i64 0, .string ⟨#[]⟩, .slice none 0 0, .slice none 0 0] 25)) := ((Below.refl _ _).alloc (Nat.le_refl _) _).alloc (by simp) _
  have cC := typesCheck_any d t al cl ak ck _ hbd (NAt.mono hA.size (NAt.keep hA hla)) (KT.mono hA.size (KT.keep hA hkt))
  have HA := hideK hA
  simp only [tyVal] at cC
  clear hbd hla hkt hA
  have hzb : (chkTy t != 0) = true := by simpa using hz
  unfold faultE
  generalize chkTy t = c at *
  clear hz
  go_enter Tryd.func19, Tryd.ntmps19
  go_wp2_with fail
  refine cC.mono ?_
  rintro e w3 ⟨rfl, hb3⟩
  go_wp2_with fail
  exact ⟨rfl, rfl, HA.out.trans (hb3.mono HA.out.size)⟩
end Go.Proofs.YthamkbahiidenaaDoor
/-
  The contract of what types.Parse hands to pieces.Read.
-/
namespace Go.Proofs.YthamkbahiidenaaDoor
open Go.RowKit Go.Shelf
/-- the type that has been read lies in block tb -/
def InTb (w : World) (tb : Nat) (t : Ty) (w' : World) : Prop := ∃ al cl ak ck, TyAt w' tb 0 t al cl ak ck ∧ GT w w' 2001 t al cl ak ck ∧ ∀ o, o < 5 → w'.frozen? ⟨tb, o, none⟩ = false
set_option maxRecDepth 100000 in
set_option maxHeartbeats 2000000 in
theorem parse1_bad (rb tb q : Nat) (s : ByteArray) (w0 w : World) (hr : RS w rb s q) (hz : ZT w tb) (hne : tb ≠ rb) (h0 : FR tb w0 w) (hw0 : w0.heap.size ≤ rb) {r : List UInt8} (hT : rdT 2001 (rs s q) = .error r) : Calls Tryd.prog 16 #[.pointer (some ⟨rb, 0, none⟩), .pointer (some ⟨tb, 0, none⟩)] w fun e w' =>  e = .panicked (thrown s r) ∧ FR tb w0 w' ∧ ZT w' tb := by
  have hlt : (rs s q).length < 2001 := by rw [rs_len]; have := hr.sz; omega
  go_enter Tryd.func16, Tryd.ntmps16
  go_wp2_with fail
  refine (read_bad (read_all 2001) hT hlt rb q s _ hr rfl).mono ?_
  rintro e w1 ⟨rfl, hf1⟩
  go_wp2_with fail
  exact ⟨rfl, rfl, h0.via hf1 hw0, hz.keep hf1 hne⟩
set_option maxRecDepth 100000 in
set_option maxHeartbeats 2000000 in
theorem parse1_more (rb tb q : Nat) (s : ByteArray) (w0 w : World) (hr : RS w rb s q) (hz : ZT w tb) (hne : tb ≠ rb) (h0 : FR tb w0 w) (hw0 : w0.heap.size ≤ rb) {t : Ty} {r : List UInt8} (hT : rdT 2001 (rs s q) = .ok (t, r)) (hne2 : r ≠ []) : Calls Tryd.prog 16 #[.pointer (some ⟨rb, 0, none⟩), .pointer (some ⟨tb, 0, none⟩)] w fun e w' =>  e = .panicked (thrown s r) ∧ FR tb w0 w' ∧ ZT w' tb := by
  have hlt : (rs s q).length < 2001 := by rw [rs_len]; have := hr.sz; omega
  go_enter Tryd.func16, Tryd.ntmps16
  go_wp2_with fail
  refine (read_ok (read_all 2001) hT hlt rb q s _ hr rfl).mono ?_
  rintro e w1 ⟨⟨al, cl, ak, ck, rfl, hg⟩, ⟨q1, hq1, hl1⟩, hf1⟩
  have F1 := hideK (h0.via hf1 hw0)
  have Z1 := hideK (hz.keep hf1 hne)
  have hrl := hr.lt
  have HG := hideK hg
  have hlt1 := hq1.lt
  clear hg
  go_wp2_with fail
  have cF := finish_any rb q1 s (w1.alloc (.cells #[.int .i64 t.kind, .int .i64 t.so, .string t.name, .slice al t.labels.length cl, .slice ak t.kids.length ck] 25)) (hq1.al _)
  rw [hl1] at cF
  rw [if_neg hne2] at cF
  refine cF.mono ?_
  rintro e w2 ⟨rfl, hb2⟩
  go_wp2_with fail
  exact ⟨rfl, rfl, ((F1.out.via (rb := rb) (FR.al _) hw0).via (FR.of hb2) hw0), (Z1.out.keep (FR.al (pb := rb) _) hne).keep (FR.of (pb := rb) hb2) hne⟩
set_option maxRecDepth 100000 in
set_option maxHeartbeats 2000000 in
theorem parse1_wrong (rb tb q : Nat) (s : ByteArray) (w0 w : World) (hr : RS w rb s q) (hz : ZT w tb) (hne : tb ≠ rb) (h0 : FR tb w0 w) (hw0 : w0.heap.size ≤ rb) {t : Ty} (hT : rdT 2001 (rs s q) = .ok (t, [])) (hc : chkTy t ≠ 0) : Calls Tryd.prog 16 #[.pointer (some ⟨rb, 0, none⟩), .pointer (some ⟨tb, 0, none⟩)] w fun e w' =>  e = .panicked (faultE (chkTy t) 0) ∧ FR tb w0 w' ∧ ZT w' tb := by
  have hlt : (rs s q).length < 2001 := by rw [rs_len]; have := hr.sz; omega
  go_enter Tryd.func16, Tryd.ntmps16
  go_wp2_with fail
  refine (read_ok (read_all 2001) hT hlt rb q s _ hr rfl).mono ?_
  rintro e w1 ⟨⟨al, cl, ak, ck, rfl, hg⟩, ⟨q1, hq1, hl1⟩, hf1⟩
  have F1 := hideK (h0.via hf1 hw0)
  have Z1 := hideK (hz.keep hf1 hne)
  have hrl := hr.lt
  have HG := hideK hg
  have hlt1 := hq1.lt
  clear hg
  go_wp2_with fail
  have cF := finish_any rb q1 s (w1.alloc (.cells #[.int .i64 t.kind, .int .i64 t.so, .string t.name, .slice al t.labels.length cl, .slice ak t.kids.length ck] 25)) (hq1.al _)
  rw [hl1] at cF
  rw [if_pos rfl] at cF
  refine cF.mono ?_
  rintro e w2 ⟨rfl, hb2⟩
  have F2 := hideK ((F1.out.via (rb := rb) (FR.al (.cells #[.int .i64 t.kind, .int .i64 t.so, .string t.name, .slice al t.labels.length cl, .slice ak t.kids.length ck] 25)) hw0).via (FR.of hb2) hw0)
  have Z2 := hideK ((Z1.out.keep (FR.al (pb := rb) (.cells #[.int .i64 t.kind, .int .i64 t.so, .string t.name, .slice al t.labels.length cl, .slice ak t.kids.length ck] 25)) hne).keep (FR.of (pb := rb) hb2) hne)
  have G2 := hideK ((HG.out.keep (FR.al (pb := rb) (.cells #[.int .i64 t.kind, .int .i64 t.so, .string t.name, .slice al t.labels.length cl, .slice ak t.kids.length ck] 25)) hrl).keep (FR.of (pb := rb) hb2) hrl)
  have C2 := (TyAt.lit w1 t al cl ak ck).keep hb2 (by simp)
  obtain ⟨x0, x1, x2, x3, x4⟩ := id C2
  simp only [Nat.zero_add] at x1 x2 x3 x4
  clear cF HG
  go_wp2_with fail
  refine (checked_bad 2001 t al cl ak ck w2 G2.out.bd (G2.out.la.toLA (fun b hb => hb.2)) (G2.out.ka.toKT (fun b hb => hb.2)) hc).mono ?_
  rintro e w3 ⟨rfl, hb3⟩
  go_wp2_with fail
  exact ⟨rfl, rfl, F2.out.via (rb := rb) (FR.of hb3) hw0, Z2.out.keep (FR.of (pb := rb) hb3) hne⟩
set_option maxRecDepth 100000 in
set_option maxHeartbeats 2000000 in
theorem parse1_good (rb tb q : Nat) (s : ByteArray) (w0 w : World) (hr : RS w rb s q) (hz : ZT w tb) (hne : tb ≠ rb) (h0 : FR tb w0 w) (hw0 : w0.heap.size ≤ rb) {t : Ty} (hT : rdT 2001 (rs s q) = .ok (t, [])) (hc : chkTy t = 0) : Calls Tryd.prog 16 #[.pointer (some ⟨rb, 0, none⟩), .pointer (some ⟨tb, 0, none⟩)] w fun e w' =>  e = .returned (.tuple #[]) ∧ InTb w tb t w' ∧ FR tb w0 w' := by
  have hlt : (rs s q).length < 2001 := by rw [rs_len]; have := hr.sz; omega
  go_enter Tryd.func16, Tryd.ntmps16
  go_wp2_with fail
  refine (read_ok (read_all 2001) hT hlt rb q s _ hr rfl).mono ?_
  rintro e w1 ⟨⟨al, cl, ak, ck, rfl, hg⟩, ⟨q1, hq1, hl1⟩, hf1⟩
  have F1 := hideK (h0.via hf1 hw0)
  have Z1 := hideK (hz.keep hf1 hne)
  have hrl := hr.lt
  have HG := hideK hg
  have hlt1 := hq1.lt
  clear hg
  go_wp2_with fail
  have cF := finish_any rb q1 s (w1.alloc (.cells #[.int .i64 t.kind, .int .i64 t.so, .string t.name, .slice al t.labels.length cl, .slice ak t.kids.length ck] 25)) (hq1.al _)
  rw [hl1] at cF
  rw [if_pos rfl] at cF
  refine cF.mono ?_
  rintro e w2 ⟨rfl, hb2⟩
  have F2 := hideK ((F1.out.via (rb := rb) (FR.al (.cells #[.int .i64 t.kind, .int .i64 t.so, .string t.name, .slice al t.labels.length cl, .slice ak t.kids.length ck] 25)) hw0).via (FR.of hb2) hw0)
  have Z2 := hideK ((Z1.out.keep (FR.al (pb := rb) (.cells #[.int .i64 t.kind, .int .i64 t.so, .string t.name, .slice al t.labels.length cl, .slice ak t.kids.length ck] 25)) hne).keep (FR.of (pb := rb) hb2) hne)
  have G2 := hideK ((HG.out.keep (FR.al (pb := rb) (.cells #[.int .i64 t.kind, .int .i64 t.so, .string t.name, .slice al t.labels.length cl, .slice ak t.kids.length ck] 25)) hrl).keep (FR.of (pb := rb) hb2) hrl)
  have C2 := (TyAt.lit w1 t al cl ak ck).keep hb2 (by simp)
  obtain ⟨x0, x1, x2, x3, x4⟩ := id C2
  simp only [Nat.zero_add] at x1 x2 x3 x4
  clear cF HG
  go_wp2_with fail
  refine (checked_ok 2001 t al cl ak ck w2 G2.out.bd (G2.out.la.toLA (fun b hb => hb.2)) (G2.out.ka.toKT (fun b hb => hb.2)) hc).mono ?_
  rintro e w3 ⟨rfl, hb3⟩
  have F3 := hideK (F2.out.via (rb := rb) (FR.of hb3) hw0)
  have Z3 := Z2.out.keep (FR.of (pb := rb) hb3) hne
  have G3 := hideK (G2.out.keep (FR.of (pb := rb) hb3) hrl)
  obtain ⟨zl, z0, z1, z2, z3, z4, y0, y1, y2, y3, y4⟩ := id Z3
  have hzl := hz.lt
  go_wp2_with fail
  have TA := Z3.st t al cl ak ck
  have F9 := F3.out.stb (.int .i64 t.kind) (.int .i64 t.so) (.string t.name) (.slice al t.labels.length cl) (.slice ak t.kids.length ck)
  have G9 := G3.out.st (w := w) hzl (.int .i64 t.kind) (.int .i64 t.so) (.string t.name) (.slice al t.labels.length cl) (.slice ak t.kids.length ck) (Nat.le_refl _)
  go_end0
  refine ⟨rfl, ⟨al, cl, ak, ck, TA, G9, fun o ho => ?_⟩, F9⟩
  change (st5 w3 tb 0 (.int .i64 t.kind) (.int .i64 t.so) (.string t.name) (.slice al t.labels.length cl) (.slice ak t.kids.length ck)).frozen? _ = _
  rw [st5_frozen]
  have : o = 0 ∨ o = 1 ∨ o = 2 ∨ o = 3 ∨ o = 4 := by omega
  rcases this with rfl | rfl | rfl | rfl | rfl
  · exact y0
  · exact y1
  · exact y2
  · exact y3
  · exact y4
end Go.Proofs.YthamkbahiidenaaDoor
