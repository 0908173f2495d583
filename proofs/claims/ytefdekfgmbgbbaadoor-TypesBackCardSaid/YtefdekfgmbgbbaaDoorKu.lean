/-
  The contracts of types.checked, of what types.Parse hands to pieces.Read, of pieces.Read with that, and of types.Parse, for every text.
-/
import Derived.Test.YtefdekfgmbgbbaaDoorKs
import Derived.Test.YtefdekfgmbgbbaaDoorKza
import Derived.Test.YtefdekfgmbgbbaaDoorKt
import Derived.Test.YtefdekfgmbgbbaaDoorKe
namespace Go.Proofs.YtefdekfgmbgbbaaDoor
open Go.RowKit Go.Shelf

def faultE (c : Int) (a : Int) : List PanicEntry := [{ v := .iface 30 (.agg #[.int .i64 c, .int .i64 a]), recovered := false }]
theorem FR.via {tb rb : Nat} {w0 w w1 : World} (h : FR tb w0 w) (k : FR rb w w1) (hr : w0.heap.size ≤ rb) : FR tb w0 w1 :=
  ⟨k.os.trans h.os, k.tape.trans h.tape, k.output.trans h.output, Nat.le_trans h.size k.size, fun i hi hn => (k.block i (Nat.lt_of_lt_of_le hi h.size) (fun e => by injection e with e; omega)).trans (h.block i hi hn)⟩
theorem FR.stb {tb : Nat} {w0 W : World} (h : FR tb w0 W) (v0 v1 v2 v3 v4 : Value) : FR tb w0 (st5 W tb 0 v0 v1 v2 v3 v4) := by
  unfold st5
  exact ((((h.trans (FR.set2 _ _)).trans (FR.set2 _ _)).trans (FR.set2 _ _)).trans (FR.set2 _ _)).trans (FR.set2 _ _)
set_option maxRecDepth 100000 in
set_option maxHeartbeats 1000000 in
theorem checked_ok (d : Nat) (t : Ty) (al : Option Addr) (cl : Nat) (ak : Option Addr) (ck : Nat) (w : World) (hbd : TyBd t cl ck) (hla : LA w w.heap.size t.labels al) (hkt : KT w w.heap.size d t.kids ak) (hz : chkTy t = 0) :
    Calls Tryd.prog 19 #[.agg #[.int .i64 t.kind, .int .i64 t.so, .string t.name, .slice al t.labels.length cl, .slice ak t.kids.length ck]] w fun e w' => e = .returned (.agg #[.int .i64 t.kind, .int .i64 t.so, .string t.name, .slice al t.labels.length cl, .slice ak t.kids.length ck]) ∧ Below w.heap.size w w' := by
  have hA : Below w.heap.size w ((w.alloc (.cells #[.int .i64 t.kind, .int .i64 t.so, .string t.name, .slice al t.labels.length cl, .slice ak t.kids.length ck] 25)).alloc (.cells #[.int .i64 0, .int .i64 0, .string ⟨#[]⟩, .slice none 0 0, .slice none 0 0] 25)) := ((Below.refl _ _).alloc (Nat.le_refl _) _).alloc (by simp) _
  have cC := typesCheck_any d t al cl ak ck _ hbd (NAt.mono hA.size (NAt.keep hA hla)) (KT.mono hA.size (KT.keep hA hkt))
  have C0 := hideK ((TyAt.lit w t al cl ak ck).keepF (FR.al (pb := w.heap.size + 1) (.cells #[.int .i64 0, .int .i64 0, .string ⟨#[]⟩, .slice none 0 0, .slice none 0 0] 25)) (by omega) (by simp))
  have HA := hideK hA
  simp only [tyVal] at cC
  clear hbd hla hkt hA
  rw [hz] at cC
  have Z0 := ZT.new (w.alloc (.cells #[.int .i64 t.kind, .int .i64 t.so, .string t.name, .slice al t.labels.length cl, .slice ak t.kids.length ck] 25))
  rw [show (w.alloc (.cells #[.int .i64 t.kind, .int .i64 t.so, .string t.name, .slice al t.labels.length cl, .slice ak t.kids.length ck] 25)).heap.size = w.heap.size + 1 by simp] at Z0
  have HZ := hideK Z0
  clear Z0 hz
  go_enter Tryd.func19, Tryd.ntmps19
  go_wp2_with fail
  refine cC.mono ?_
  rintro e w3 ⟨rfl, hb3⟩
  have C3 := C0.out.keep hb3 (by simp; omega)
  obtain ⟨x0, x1, x2, x3, x4⟩ := id C3
  simp only [Nat.zero_add] at x1 x2 x3 x4
  have Z3 := HZ.out.keep (FR.of (pb := w.heap.size) hb3) (by omega)
  obtain ⟨zl, z0, z1, z2, z3, z4, y0, y1, y2, y3, y4⟩ := id Z3
  have HB := hideK (HA.out.trans (hb3.mono HA.out.size))
  clear cC hb3
  go_wp2_with fail
  have TA := Z3.st t al cl ak ck
  have B9 := hideK (st5_below (w.heap.size + 1) 0 (.int .i64 t.kind) (.int .i64 t.so) (.string t.name) (.slice al t.labels.length cl) (.slice ak t.kids.length ck) HB.out (by omega))
  change bodyPost _ _ _ _ _ (st5 w3 (w.heap.size + 1) 0 (.int .i64 t.kind) (.int .i64 t.so) (.string t.name) (.slice al t.labels.length cl) (.slice ak t.kids.length ck))
  generalize st5 w3 (w.heap.size + 1) 0 (.int .i64 t.kind) (.int .i64 t.so) (.string t.name) (.slice al t.labels.length cl) (.slice ak t.kids.length ck) = W9 at TA B9 ⊢
  obtain ⟨r0, r1, r2, r3, r4⟩ := TA
  simp only [Nat.zero_add] at r1 r2 r3 r4
  refine bodyPost_ret (v := .agg #[.int .i64 t.kind, .int .i64 t.so, .string t.name, .slice al t.labels.length cl, .slice ak t.kids.length ck]) (by simp [results, Tryd.results19, go_sem, r0, r1, r2, r3, r4]) rfl ?_
  exact ⟨rfl, B9.out⟩
set_option maxRecDepth 100000 in
set_option maxHeartbeats 1000000 in
theorem checked_bad (d : Nat) (t : Ty) (al : Option Addr) (cl : Nat) (ak : Option Addr) (ck : Nat) (w : World) (hbd : TyBd t cl ck) (hla : LA w w.heap.size t.labels al) (hkt : KT w w.heap.size d t.kids ak) (hz : chkTy t ≠ 0) :
    Calls Tryd.prog 19 #[.agg #[.int .i64 t.kind, .int .i64 t.so, .string t.name, .slice al t.labels.length cl, .slice ak t.kids.length ck]] w fun e w' => e = .panicked (faultE (chkTy t) 0) ∧ Below w.heap.size w w' := by
  have hA : Below w.heap.size w ((w.alloc (.cells #[.int .i64 t.kind, .int .i64 t.so, .string t.name, .slice al t.labels.length cl, .slice ak t.kids.length ck] 25)).alloc (.cells #[.int .i64 0, .int .i64 0, .string ⟨#[]⟩, .slice none 0 0, .slice none 0 0] 25)) := ((Below.refl _ _).alloc (Nat.le_refl _) _).alloc (by simp) _
  have cC := typesCheck_any d t al cl ak ck _ hbd (NAt.mono hA.size (NAt.keep hA hla)) (KT.mono hA.size (KT.keep hA hkt))
  have HA := hideK hA
  simp only [tyVal] at cC
  clear hbd hla hkt hA
  have hzb : (chkTy t != 0) = true := by simpa using hz
  unfold faultE
  generalize chkTy t = c at *
  clear hz
  go_enter Tryd.func19, Tryd.ntmps19
  go_wp2_with fail
  refine cC.mono ?_
  rintro e w3 ⟨rfl, hb3⟩
  go_wp2_with fail
  exact ⟨rfl, rfl, HA.out.trans (hb3.mono HA.out.size)⟩
end Go.Proofs.YtefdekfgmbgbbaaDoor
