/-
  The contract of what pieces.Read defers: a fault that is thrown is caught.
-/
import Derived.Test.YthamkbahiidenaaDoorKl
import Derived.Defers
import Derived.Recover
import Derived.Test.YthamkbahiidenaaDoorKs
import Derived.Test.YthamkbahiidenaaDoorKe
namespace Go.Proofs.YthamkbahiidenaaDoor
open Go.RowKit Go.Shelf

set_option maxRecDepth 100000 in
theorem catch_thrown (p : Nat) (c a c0 a0 : Int) (older : List PanicEntry) (w : World) (h0 : w.cell? ⟨p, 0, none⟩ = some (.int .i64 c0)) (h1 : w.cell? ⟨p, 1, none⟩ = some (.int .i64 a0)) (f0 : w.frozen? ⟨p, 0, none⟩ = false) (f1 : w.frozen? ⟨p, 1, none⟩ = false) :
    CallsD Tryd.prog 31 #[.pointer (some ⟨p, 0, none⟩)] (.panicking ({ v := .iface 30 (.agg #[.int .i64 c, .int .i64 a]), recovered := false } :: older)) w fun e u' w' =>
      e = .returned (.tuple #[]) ∧ u' = .panicking ({ v := .iface 30 (.agg #[.int .i64 c, .int .i64 a]), recovered := true } :: older) ∧ w' = (w.setCell ⟨p, 0, none⟩ (.int .i64 c)).setCell ⟨p, 1, none⟩ (.int .i64 a) := by
  have hta : ∀ w1 : World, (Instr.typeAssert (.iface 30 (.agg #[.int .i64 c, .int .i64 a])) 20 30 false).run Tryd.prog w1 = .ok (.agg #[.int .i64 c, .int .i64 a]) w1 := fun _ => by kernel_rfl
  refine callsD_of_wpS Tryd.func31 rfl fun c₀ cs hu => ?_
  apply wpS_seq
  apply wpS_region
  simp [wpOpsS, go_sem, recoverD, hu, Tryd.ntmps31, Exit.thenS]
  refine wpS_of_wp ?_
  change Code.wp _ _ _ { tmps := #[.pointer (some ⟨p, 0, none⟩), .iface 30 (.agg #[.int .i64 c, .int .i64 a]), .iface 30 (.agg #[.int .i64 c, .int .i64 a]), undef, undef, undef, undef], defers := [] } w
  go_wp2_with fail
  exact ⟨rfl, _, rfl, .tuple #[], by simp [results, Tryd.results31, go_sem], rfl, rfl, rfl⟩
set_option maxRecDepth 100000 in
theorem catch_none (p : Nat) (w : World) :
    CallsD Tryd.prog 31 #[.pointer (some ⟨p, 0, none⟩)] .returning w fun e u' w' => e = .returned (.tuple #[]) ∧ u' = .returning ∧ w' = w := by
  refine callsD_of_wpS Tryd.func31 rfl fun c₀ cs hu => ?_
  apply wpS_seq
  apply wpS_region
  simp [wpOpsS, go_sem, recoverD, hu, Tryd.ntmps31, Exit.thenS]
  refine wpS_of_wp ?_
  change Code.wp _ _ _ { tmps := #[.pointer (some ⟨p, 0, none⟩), .nilIface, .nilIface, undef, undef, undef, undef], defers := [] } w
  go_wp2_with fail
  refine ⟨rfl, .returning, ?_, .tuple #[], by simp [results, Tryd.results31, go_sem], rfl, rfl, rfl⟩
  cases c₀
  simp only at hu
  subst hu
  rfl
end Go.Proofs.YthamkbahiidenaaDoor
/-
  The contracts of types.checked, of what types.Parse hands to pieces.Read, of pieces.Read with that, and of types.Parse, for every text.
-/
namespace Go.Proofs.YthamkbahiidenaaDoor
open Go.RowKit Go.Shelf

/-- what a type's reading comes to, over all of a text: the error and the byte, or the type -/
def psT (L : List UInt8) : Except (Int × Nat) Ty :=
  if 2000 < L.length then .error (2, 0) else
  match rdT 2001 (skB L) with
  | .error r => .error (3, L.length - r.length)
  | .ok (t, r) => if r = [] then (if chkTy t = 0 then .ok t else .error (chkTy t, 0)) else .error (3, L.length - r.length)
def faultE (c : Int) (a : Int) : List PanicEntry := [{ v := .iface 30 (.agg #[.int .i64 c, .int .i64 a]), recovered := false }]
theorem FR.via {tb rb : Nat} {w0 w w1 : World} (h : FR tb w0 w) (k : FR rb w w1) (hr : w0.heap.size ≤ rb) : FR tb w0 w1 :=
  ⟨k.os.trans h.os, k.tape.trans h.tape, k.output.trans h.output, Nat.le_trans h.size k.size, fun i hi hn => (k.block i (Nat.lt_of_lt_of_le hi h.size) (fun e => by injection e with e; omega)).trans (h.block i hi hn)⟩
theorem FR.stb {tb : Nat} {w0 W : World} (h : FR tb w0 W) (v0 v1 v2 v3 v4 : Value) : FR tb w0 (st5 W tb 0 v0 v1 v2 v3 v4) := by
  unfold st5
  exact ((((h.trans (FR.set2 _ _)).trans (FR.set2 _ _)).trans (FR.set2 _ _)).trans (FR.set2 _ _)).trans (FR.set2 _ _)
set_option maxRecDepth 100000 in
set_option maxHeartbeats 1000000 in
theorem checked_ok (d : Nat) (t : Ty) (al : Option Addr) (cl : Nat) (ak : Option Addr) (ck : Nat) (w : World) (hbd : TyBd t cl ck) (hla : LA w w.heap.size t.labels al) (hkt : KT w w.heap.size d t.kids ak) (hz : chkTy t = 0) :
    Calls Tryd.prog 19 #[.agg #[.int .i64 t.kind, .int .i64 t.so, .string t.name, .slice al t.labels.length cl, .slice ak t.kids.length ck]] w fun e w' => e = .returned (.agg #[.int .i64 t.kind, .int .i64 t.so, .string t.name, .slice al t.labels.length cl, .slice ak t.kids.length ck]) ∧ Below w.heap.size w w' := by
  have hA : Below w.heap.size w ((w.alloc (.cells #[.int .i64 t.kind, .int .i64 t.so, .string t.name, .slice al t.labels.length cl, .slice ak t.kids.length ck] 25)).alloc (.cells #[.int .i64 0, .int .i64 0, .string ⟨#[]⟩, .slice none 0 0, .slice none 0 0] 25)) := ((Below.refl _ _).alloc (Nat.le_refl _) _).alloc (by simp) _
  have cC := typesCheck_any d t al cl ak ck _ hbd (NAt.mono hA.size (NAt.keep hA hla)) (KT.mono hA.size (KT.keep hA hkt))
  have C0 := hideK ((TyAt.lit w t al cl ak ck).keepF (FR.al (pb := w.heap.size + 1) (.cells #[.int .i64 0, .int .i64 0, .string ⟨#[]⟩, .slice none 0 0, .slice none 0 0] 25)) (by omega) (by simp))
  have HA := hideK hA
  simp only [tyVal] at cC
  clear hbd hla hkt hA
  rw [hz] at cC
  have Z0 := ZT.new (w.alloc (.cells #[.int .i64 t.kind, .int .i64 t.so, .string t.name, .slice al t.labels.length cl, .slice ak t.kids.length ck] 25))
  rw [show (w.alloc (.cells #[.int .i64 t.kind, .int .i64 t.so, .string t.name, .slice al t.labels.length cl, .slice ak t.kids.length ck] 25)).heap.size = w.heap.size + 1 by simp] at Z0
  have HZ := hideK Z0
  clear Z0 hz
  go_enter Tryd.func19, Tryd.ntmps19
  go_wp2_with fail
  refine cC.mono ?_
  rintro e w3 ⟨rfl, hb3⟩
  have C3 := C0.out.keep hb3 (by simp; omega)
  obtain ⟨x0, x1, x2, x3, x4⟩ := id C3
  simp only [Nat.zero_add] at x1 x2 x3 x4
  have Z3 := HZ.out.keep (FR.of (pb := w.heap.size) hb3) (by omega)
  obtain ⟨zl, z0, z1, z2, z3, z4, y0, y1, y2, y3, y4⟩ := id Z3
  have HB := hideK (HA.out.trans (hb3.mono HA.out.size))
  clear cC hb3
  go_wp2_with fail
  have TA := Z3.st t al cl ak ck
  have B9 := hideK (st5_below (w.heap.size + 1) 0 (.int .i64 t.kind) (.int .i64 t.so) (.string t.name) (.slice al t.labels.length cl) (.slice ak t.kids.length ck) HB.out (by omega))
  change bodyPost _ _ _ _ _ (st5 w3 (w.heap.size + 1) 0 (.int .i64 t.kind) (.int .i64 t.so) (.string t.name) (.slice al t.labels.length cl) (.slice ak t.kids.length ck))
  generalize st5 w3 (w.heap.size + 1) 0 (.int .i64 t.kind) (.int .i64 t.so) (.string t.name) (.slice al t.labels.length cl) (.slice ak t.kids.length ck) = W9 at TA B9 ⊢
  obtain ⟨r0, r1, r2, r3, r4⟩ := TA
  simp only [Nat.zero_add] at r1 r2 r3 r4
  refine bodyPost_ret (v := .agg #[.int .i64 t.kind, .int .i64 t.so, .string t.name, .slice al t.labels.length cl, .slice ak t.kids.length ck]) (by simp [results, Tryd.results19, go_sem, r0, r1, r2, r3, r4]) rfl ?_
  exact ⟨rfl, B9.out⟩
set_option maxRecDepth 100000 in
set_option maxHeartbeats 1000000 in
theorem checked_bad (d : Nat) (t : Ty) (al : Option Addr) (cl : Nat) (ak : Option Addr) (ck : Nat) (w : World) (hbd : TyBd t cl ck) (hla : LA w w.heap.size t.labels al) (hkt : KT w w.heap.size d t.kids ak) (hz : chkTy t ≠ 0) :
    Calls Tryd.prog 19 #[.agg #[.int .i64 t.kind, .int .i64 t.so, .string t.name, .slice al t.labels.length cl, .slice ak t.kids.length ck]] w fun e w' => e = .panicked (faultE (chkTy t) 0) ∧ Below w.heap.size w w' := by
  have hA : Below w.heap.size w ((w.alloc (.cells #[.int .i64 t.kind, .int .i64 t.so, .string t.name, .slice al t.labels.length cl, .slice ak t.kids.length ck] 25)).alloc (.cells #[.int .i64 0, .int .i64 0, .string ⟨#[]⟩, .slice none 0 0, .slice none 0 0] 25)) := ((Below.refl _ _).alloc (Nat.le_refl _) _).alloc (by simp) _
  have cC := typesCheck_any d t al cl ak ck _ hbd (NAt.mono hA.size (NAt.keep hA hla)) (KT.mono hA.size (KT.keep hA hkt))
  have HA := hideK hA
  simp only [tyVal] at cC
  clear hbd hla hkt hA
  have hzb : (chkTy t != 0) = true := by simpa using hz
  unfold faultE
  generalize chkTy t = c at *
  clear hz
  go_enter Tryd.func19, Tryd.ntmps19
  go_wp2_with fail
  refine cC.mono ?_
  rintro e w3 ⟨rfl, hb3⟩
  go_wp2_with fail
  exact ⟨rfl, rfl, HA.out.trans (hb3.mono HA.out.size)⟩
end Go.Proofs.YthamkbahiidenaaDoor

/-
  The contract of what types.Parse hands to pieces.Read.
-/
namespace Go.Proofs.YthamkbahiidenaaDoor
open Go.RowKit Go.Shelf
/-- the type that has been read lies in block tb -/
def InTb (w : World) (tb : Nat) (t : Ty) (w' : World) : Prop := ∃ al cl ak ck, TyAt w' tb 0 t al cl ak ck ∧ GT w w' 2001 t al cl ak ck ∧ ∀ o, o < 5 → w'.frozen? ⟨tb, o, none⟩ = false
set_option maxRecDepth 100000 in
set_option maxHeartbeats 2000000 in
theorem parse1_bad (rb tb q : Nat) (s : ByteArray) (w0 w : World) (hr : RS w rb s q) (hz : ZT w tb) (hne : tb ≠ rb) (h0 : FR tb w0 w) (hw0 : w0.heap.size ≤ rb) {r : List UInt8} (hT : rdT 2001 (rs s q) = .error r) : Calls Tryd.prog 16 #[.pointer (some ⟨rb, 0, none⟩), .pointer (some ⟨tb, 0, none⟩)] w fun e w' =>  e = .panicked (thrown s r) ∧ FR tb w0 w' ∧ ZT w' tb := by
  have hlt : (rs s q).length < 2001 := by rw [rs_len]; have := hr.sz; omega
  go_enter Tryd.func16, Tryd.ntmps16
  go_wp2_with fail
  refine (read_bad (read_all 2001) hT hlt rb q s _ hr rfl).mono ?_
  rintro e w1 ⟨rfl, hf1⟩
  go_wp2_with fail
  exact ⟨rfl, rfl, h0.via hf1 hw0, hz.keep hf1 hne⟩
set_option maxRecDepth 100000 in
set_option maxHeartbeats 2000000 in
theorem parse1_more (rb tb q : Nat) (s : ByteArray) (w0 w : World) (hr : RS w rb s q) (hz : ZT w tb) (hne : tb ≠ rb) (h0 : FR tb w0 w) (hw0 : w0.heap.size ≤ rb) {t : Ty} {r : List UInt8} (hT : rdT 2001 (rs s q) = .ok (t, r)) (hne2 : r ≠ []) : Calls Tryd.prog 16 #[.pointer (some ⟨rb, 0, none⟩), .pointer (some ⟨tb, 0, none⟩)] w fun e w' =>  e = .panicked (thrown s r) ∧ FR tb w0 w' ∧ ZT w' tb := by
  have hlt : (rs s q).length < 2001 := by rw [rs_len]; have := hr.sz; omega
  go_enter Tryd.func16, Tryd.ntmps16
  go_wp2_with fail
  refine (read_ok (read_all 2001) hT hlt rb q s _ hr rfl).mono ?_
  rintro e w1 ⟨⟨al, cl, ak, ck, rfl, hg⟩, ⟨q1, hq1, hl1⟩, hf1⟩
  have F1 := hideK (h0.via hf1 hw0)
  have Z1 := hideK (hz.keep hf1 hne)
  have hrl := hr.lt
  have HG := hideK hg
  have hlt1 := hq1.lt
  clear hg
  go_wp2_with fail
  have cF := finish_any rb q1 s (w1.alloc (.cells #[.int .i64 t.kind, .int .i64 t.so, .string t.name, .slice al t.labels.length cl, .slice ak t.kids.length ck] 25)) (hq1.al _)
  rw [hl1] at cF
  rw [if_neg hne2] at cF
  refine cF.mono ?_
  rintro e w2 ⟨rfl, hb2⟩
  go_wp2_with fail
  exact ⟨rfl, rfl, ((F1.out.via (rb := rb) (FR.al _) hw0).via (FR.of hb2) hw0), (Z1.out.keep (FR.al (pb := rb) _) hne).keep (FR.of (pb := rb) hb2) hne⟩
set_option maxRecDepth 100000 in
set_option maxHeartbeats 2000000 in
theorem parse1_wrong (rb tb q : Nat) (s : ByteArray) (w0 w : World) (hr : RS w rb s q) (hz : ZT w tb) (hne : tb ≠ rb) (h0 : FR tb w0 w) (hw0 : w0.heap.size ≤ rb) {t : Ty} (hT : rdT 2001 (rs s q) = .ok (t, [])) (hc : chkTy t ≠ 0) : Calls Tryd.prog 16 #[.pointer (some ⟨rb, 0, none⟩), .pointer (some ⟨tb, 0, none⟩)] w fun e w' =>  e = .panicked (faultE (chkTy t) 0) ∧ FR tb w0 w' ∧ ZT w' tb := by
  have hlt : (rs s q).length < 2001 := by rw [rs_len]; have := hr.sz; omega
  go_enter Tryd.func16, Tryd.ntmps16
  go_wp2_with fail
  refine (read_ok (read_all 2001) hT hlt rb q s _ hr rfl).mono ?_
  rintro e w1 ⟨⟨al, cl, ak, ck, rfl, hg⟩, ⟨q1, hq1, hl1⟩, hf1⟩
  have F1 := hideK (h0.via hf1 hw0)
  have Z1 := hideK (hz.keep hf1 hne)
  have hrl := hr.lt
  have HG := hideK hg
  have hlt1 := hq1.lt
  clear hg
  go_wp2_with fail
  have cF := finish_any rb q1 s (w1.alloc (.cells #[.int .i64 t.kind, .int .i64 t.so, .string t.name, .slice al t.labels.length cl, .slice ak t.kids.length ck] 25)) (hq1.al _)
  rw [hl1] at cF
  rw [if_pos rfl] at cF
  refine cF.mono ?_
  rintro e w2 ⟨rfl, hb2⟩
  have F2 := hideK ((F1.out.via (rb := rb) (FR.al (.cells #[.int .i64 t.kind, .int .i64 t.so, .string t.name, .slice al t.labels.length cl, .slice ak t.kids.length ck] 25)) hw0).via (FR.of hb2) hw0)
  have Z2 := hideK ((Z1.out.keep (FR.al (pb := rb) (.cells #[.int .i64 t.kind, .int .i64 t.so, .string t.name, .slice al t.labels.length cl, .slice ak t.kids.length ck] 25)) hne).keep (FR.of (pb := rb) hb2) hne)
  have G2 := hideK ((HG.out.keep (FR.al (pb := rb) (.cells #[.int .i64 t.kind, .int .i64 t.so, .string t.name, .slice al t.labels.length cl, .slice ak t.kids.length ck] 25)) hrl).keep (FR.of (pb := rb) hb2) hrl)
  have C2 := (TyAt.lit w1 t al cl ak ck).keep hb2 (by simp)
  obtain ⟨x0, x1, x2, x3, x4⟩ := id C2
  simp only [Nat.zero_add] at x1 x2 x3 x4
  clear cF HG
  go_wp2_with fail
  refine (checked_bad 2001 t al cl ak ck w2 G2.out.bd (G2.out.la.toLA (fun b hb => hb.2)) (G2.out.ka.toKT (fun b hb => hb.2)) hc).mono ?_
  rintro e w3 ⟨rfl, hb3⟩
  go_wp2_with fail
  exact ⟨rfl, rfl, F2.out.via (rb := rb) (FR.of hb3) hw0, Z2.out.keep (FR.of (pb := rb) hb3) hne⟩
set_option maxRecDepth 100000 in
set_option maxHeartbeats 2000000 in
theorem parse1_good (rb tb q : Nat) (s : ByteArray) (w0 w : World) (hr : RS w rb s q) (hz : ZT w tb) (hne : tb ≠ rb) (h0 : FR tb w0 w) (hw0 : w0.heap.size ≤ rb) {t : Ty} (hT : rdT 2001 (rs s q) = .ok (t, [])) (hc : chkTy t = 0) : Calls Tryd.prog 16 #[.pointer (some ⟨rb, 0, none⟩), .pointer (some ⟨tb, 0, none⟩)] w fun e w' =>  e = .returned (.tuple #[]) ∧ InTb w tb t w' ∧ FR tb w0 w' := by
  have hlt : (rs s q).length < 2001 := by rw [rs_len]; have := hr.sz; omega
  go_enter Tryd.func16, Tryd.ntmps16
  go_wp2_with fail
  refine (read_ok (read_all 2001) hT hlt rb q s _ hr rfl).mono ?_
  rintro e w1 ⟨⟨al, cl, ak, ck, rfl, hg⟩, ⟨q1, hq1, hl1⟩, hf1⟩
  have F1 := hideK (h0.via hf1 hw0)
  have Z1 := hideK (hz.keep hf1 hne)
  have hrl := hr.lt
  have HG := hideK hg
  have hlt1 := hq1.lt
  clear hg
  go_wp2_with fail
  have cF := finish_any rb q1 s (w1.alloc (.cells #[.int .i64 t.kind, .int .i64 t.so, .string t.name, .slice al t.labels.length cl, .slice ak t.kids.length ck] 25)) (hq1.al _)
  rw [hl1] at cF
  rw [if_pos rfl] at cF
  refine cF.mono ?_
  rintro e w2 ⟨rfl, hb2⟩
  have F2 := hideK ((F1.out.via (rb := rb) (FR.al (.cells #[.int .i64 t.kind, .int .i64 t.so, .string t.name, .slice al t.labels.length cl, .slice ak t.kids.length ck] 25)) hw0).via (FR.of hb2) hw0)
  have Z2 := hideK ((Z1.out.keep (FR.al (pb := rb) (.cells #[.int .i64 t.kind, .int .i64 t.so, .string t.name, .slice al t.labels.length cl, .slice ak t.kids.length ck] 25)) hne).keep (FR.of (pb := rb) hb2) hne)
  have G2 := hideK ((HG.out.keep (FR.al (pb := rb) (.cells #[.int .i64 t.kind, .int .i64 t.so, .string t.name, .slice al t.labels.length cl, .slice ak t.kids.length ck] 25)) hrl).keep (FR.of (pb := rb) hb2) hrl)
  have C2 := (TyAt.lit w1 t al cl ak ck).keep hb2 (by simp)
  obtain ⟨x0, x1, x2, x3, x4⟩ := id C2
  simp only [Nat.zero_add] at x1 x2 x3 x4
  clear cF HG
  go_wp2_with fail
  refine (checked_ok 2001 t al cl ak ck w2 G2.out.bd (G2.out.la.toLA (fun b hb => hb.2)) (G2.out.ka.toKT (fun b hb => hb.2)) hc).mono ?_
  rintro e w3 ⟨rfl, hb3⟩
  have F3 := hideK (F2.out.via (rb := rb) (FR.of hb3) hw0)
  have Z3 := Z2.out.keep (FR.of (pb := rb) hb3) hne
  have G3 := hideK (G2.out.keep (FR.of (pb := rb) hb3) hrl)
  obtain ⟨zl, z0, z1, z2, z3, z4, y0, y1, y2, y3, y4⟩ := id Z3
  have hzl := hz.lt
  go_wp2_with fail
  have TA := Z3.st t al cl ak ck
  have F9 := F3.out.stb (.int .i64 t.kind) (.int .i64 t.so) (.string t.name) (.slice al t.labels.length cl) (.slice ak t.kids.length ck)
  have G9 := G3.out.st (w := w) hzl (.int .i64 t.kind) (.int .i64 t.so) (.string t.name) (.slice al t.labels.length cl) (.slice ak t.kids.length ck) (Nat.le_refl _)
  go_end0
  refine ⟨rfl, ⟨al, cl, ak, ck, TA, G9, fun o ho => ?_⟩, F9⟩
  change (st5 w3 tb 0 (.int .i64 t.kind) (.int .i64 t.so) (.string t.name) (.slice al t.labels.length cl) (.slice ak t.kids.length ck)).frozen? _ = _
  rw [st5_frozen]
  have : o = 0 ∨ o = 1 ∨ o = 2 ∨ o = 3 ∨ o = 4 := by omega
  rcases this with rfl | rfl | rfl | rfl | rfl
  · exact y0
  · exact y1
  · exact y2
  · exact y3
  · exact y4
end Go.Proofs.YthamkbahiidenaaDoor

/-
  The contracts of pieces.Read as types.Parse calls it, and of types.Parse, for every text.
-/
namespace Go.Proofs.YthamkbahiidenaaDoor
open Go.RowKit Go.Shelf
/-- the world in which a reading begins -/
def rdW (w : World) (s : ByteArray) : World := (w.alloc (.cells #[.int .i64 0, .int .i64 0] 30)).alloc (.cells #[.string s, .string ⟨#[32]⟩, .int .i64 0] 70)
theorem rdW_rs (w : World) (s : ByteArray) (h : s.size ≤ 2000) : RS (rdW w s) (w.heap.size + 1) s 0 := by
  unfold rdW
  exact ⟨by go_cell, by go_cell, by go_cell, by go_simp, Nat.zero_le _, h⟩
theorem rdW_fr (w : World) (s : ByteArray) (tb : Nat) : FR tb w (rdW w s) := (FR.al _).trans (FR.al _)
theorem rdW_fr1 (w : World) (s : ByteArray) (tb : Nat) : FR tb (w.alloc (.cells #[.int .i64 0, .int .i64 0] 30)) (rdW w s) := FR.al _
/-- the block of the fault that is told -/
structure FB (W : World) (b : Nat) (c a : Int) : Prop where
  lt : b < W.heap.size
  c0 : W.cell? ⟨b, 0, none⟩ = some (.int .i64 c)
  c1 : W.cell? ⟨b, 1, none⟩ = some (.int .i64 a)
  f0 : W.frozen? ⟨b, 0, none⟩ = false
  f1 : W.frozen? ⟨b, 1, none⟩ = false
theorem FB.keep {W W' : World} {pb b : Nat} {c a : Int} (h : FB W b c a) (hf : FR pb W W') (hn : b ≠ pb) : FB W' b c a :=
  ⟨Nat.lt_of_lt_of_le h.lt hf.size, (hf.cellO h.lt hn).trans h.c0, (hf.cellO h.lt hn).trans h.c1, (hf.frozenO h.lt hn).trans h.f0, (hf.frozenO h.lt hn).trans h.f1⟩
theorem al_fb (w : World) : FB (w.alloc (.cells #[.int .i64 0, .int .i64 0] 30)) w.heap.size 0 0 := ⟨by simp, by go_cell, by go_cell, by go_simp, by go_simp⟩
/-- the fault's two cells, stored one after the other -/
def st2 (W : World) (b : Nat) (c a : Int) : World := (W.setCell ⟨b, 0, none⟩ (.int .i64 c)).setCell ⟨b, 1, none⟩ (.int .i64 a)
theorem st2_other (W : World) (b : Nat) (c a : Int) (b' o : Nat) (h : b' ≠ b) : (st2 W b c a).cell? ⟨b', o, none⟩ = W.cell? ⟨b', o, none⟩ := by
  unfold st2
  rw [World.cell?_setCell_other _ _ _ _ (by intro e; simp only [Addr.mk.injEq] at e; omega), World.cell?_setCell_other _ _ _ _ (by intro e; simp only [Addr.mk.injEq] at e; omega)]
theorem st2_frozen (W : World) (b : Nat) (c a : Int) (p : Addr) : (st2 W b c a).frozen? p = W.frozen? p := by unfold st2; simp only [World.frozen?_setCell]
theorem st2_size (W : World) (b : Nat) (c a : Int) : (st2 W b c a).heap.size = W.heap.size := by unfold st2; simp
theorem st2_at {W : World} {b : Nat} {c0 a0 : Int} (h : FB W b c0 a0) (c a : Int) : FB (st2 W b c a) b c a := by
  obtain ⟨hl, h0, h1, f0, f1⟩ := h
  exact ⟨by rw [st2_size]; exact hl, by unfold st2; go_cell, by unfold st2; go_cell, by rw [st2_frozen]; exact f0, by rw [st2_frozen]; exact f1⟩
theorem FR.st2 {tb b : Nat} {w W : World} (h : FR tb w W) (hb : w.heap.size ≤ b) (c a : Int) : FR tb w (st2 W b c a) := by
  unfold Go.Proofs.YthamkbahiidenaaDoor.st2
  exact (h.setN hb _).setN hb _
theorem ZT.st2 {W : World} {tb b : Nat} (h : ZT W tb) (hn : tb ≠ b) (c a : Int) : ZT (st2 W b c a) tb :=
  ⟨by rw [st2_size]; exact h.lt, (st2_other _ _ _ _ _ _ hn).trans h.c0, (st2_other _ _ _ _ _ _ hn).trans h.c1, (st2_other _ _ _ _ _ _ hn).trans h.c2, (st2_other _ _ _ _ _ _ hn).trans h.c3, (st2_other _ _ _ _ _ _ hn).trans h.c4, by rw [st2_frozen]; exact h.f0, by rw [st2_frozen]; exact h.f1, by rw [st2_frozen]; exact h.f2, by rw [st2_frozen]; exact h.f3, by rw [st2_frozen]; exact h.f4⟩
theorem InTb.st2 {w w1 W : World} {tb b : Nat} {t : Ty} (h : InTb w1 tb t W) (hw : w.heap.size ≤ w1.heap.size) (hb : b < w1.heap.size) (hn : tb ≠ b) (c a : Int) : InTb w tb t (st2 W b c a) := by
  obtain ⟨al, cl, ak, ck, h1, h2, h3⟩ := h
  have hk : ∀ b' o, NW w1 W b' → (Go.Proofs.YthamkbahiidenaaDoor.st2 W b c a).cell? ⟨b', o, none⟩ = W.cell? ⟨b', o, none⟩ := fun b' o hb' => st2_other _ _ _ _ _ _ (by have := hb'.1; omega)
  have hq : ∀ b', NW w1 W b' → NW w (Go.Proofs.YthamkbahiidenaaDoor.st2 W b c a) b' := fun b' hb' => ⟨Nat.le_trans hw hb'.1, by rw [st2_size]; exact hb'.2⟩
  exact ⟨al, cl, ak, ck, ⟨(st2_other _ _ _ _ _ _ hn).trans h1.c0, (st2_other _ _ _ _ _ _ hn).trans h1.c1, (st2_other _ _ _ _ _ _ hn).trans h1.c2, (st2_other _ _ _ _ _ _ hn).trans h1.c3, (st2_other _ _ _ _ _ _ hn).trans h1.c4⟩, ⟨h2.bd, h2.la.keep hk hq, h2.ka.keep hk hq⟩, fun o ho => by rw [st2_frozen]; exact h3 o ho⟩
theorem rs_all (s : ByteArray) : (rs s 0).drop 0 = s.data.toList := rfl
set_option maxRecDepth 100000 in
set_option maxHeartbeats 2000000 in
theorem readP_good (tb : Nat) (s : ByteArray) (w : World) (hz : ZT w tb) (h2 : s.size ≤ 2000) (t : Ty) (hT : rdT 2001 (skB s.data.toList) = .ok (t, [])) (hc : chkTy t = 0) : Calls Tryd.prog 15 #[.string s, .string ⟨#[32]⟩, .int .i64 0, .func (.func 16) #[] #[.pointer (some ⟨tb, 0, none⟩)]] w fun e w' =>  e = .returned (.agg #[.int .i64 0, .int .i64 0]) ∧ InTb w tb t w' ∧ FR tb w w' := by
  have hmf : ∀ (fn : Fn) (first cap : Array Value) (w : World), (Instr.makeFunc fn first cap).run Tryd.prog w = .ok (.func fn first cap) w := fun _ _ _ _ => rfl
  have hs2 : ¬ (s.size : Int) > 2000 := by omega
  have hmin : min 0 (s.size : Int) = 0 := by omega
  have hzl := hz.lt
  have cP := pass_any (w.heap.size + 1) 0 0 s (rdW w s) (rdW_rs w s h2) (by omega)
  rw [rs_all] at cP
  have HF := hideK (rdW_fr1 w s tb)
  have HZ := hideK (hz.keep (rdW_fr w s (w.heap.size + 1)) (by omega))
  simp only [rdW] at cP HF HZ
  go_enter_defers Tryd.func15, Tryd.ntmps15
  go_wp2_with fail
  refine cP.mono ?_
  rintro e w1 ⟨rfl, ⟨q, hq, hl⟩, hf1⟩
  have HF1 := hideK (HF.out.via hf1 (by simp))
  have HZ1 := hideK (HZ.out.keep hf1 (by omega))
  rw [← hl] at hT
  go_wp2_with fail
  refine (parse1_good (w.heap.size + 1) tb q s _ w1 hq HZ1.out (by omega) HF1.out (by simp) hT hc).mono ?_
  rintro e w2 ⟨rfl, ht2, hf2⟩
  obtain ⟨bl, b0, b1, g0, g1⟩ := (al_fb w).keep hf2 (by omega)
  go_wp2_with fail
  have B9 := st2_at ((al_fb w).keep hf2 (by omega)) 0 0
  have F9 := hideK (((FR.al (pb := tb) _).trans hf2).st2 (Nat.le_refl _) 0 0)
  have T9 := hideK (ht2.st2 (w := w) (b := w.heap.size) (by have := hf1.size; simp at this; omega) (by have := hf1.size; simp at this; omega) (by omega) 0 0)
  change bodyPostD _ _ _ _ _ (st2 w2 w.heap.size 0 0)
  generalize st2 w2 w.heap.size 0 0 = W9 at B9 F9 T9 ⊢
  obtain ⟨_, r0, r1, _, _⟩ := B9
  refine leaves_cons (f := 31) (args := #[.pointer (some ⟨w.heap.size, 0, none⟩)]) (by simp) (by simp [go_sem]) ?_
  refine (catch_none w.heap.size _).mono ?_
  rintro e u' w3 ⟨rfl, rfl, rfl⟩
  refine ⟨.agg #[.int .i64 0, .int .i64 0], by simp [results, Tryd.results15, go_sem, r0, r1], rfl, T9.out, F9.out⟩
set_option maxRecDepth 100000 in
set_option maxHeartbeats 2000000 in
theorem readP_bad (tb : Nat) (s : ByteArray) (w : World) (hz : ZT w tb) (h2 : s.size ≤ 2000) (r : List UInt8) (hT : rdT 2001 (skB s.data.toList) = .error r) : Calls Tryd.prog 15 #[.string s, .string ⟨#[32]⟩, .int .i64 0, .func (.func 16) #[] #[.pointer (some ⟨tb, 0, none⟩)]] w fun e w' =>  e = .returned (.agg #[.int .i64 (3), .int .i64 (((s.size - r.length : Nat) : Int))]) ∧ FR tb w w' ∧ ZT w' tb := by
  have hmf : ∀ (fn : Fn) (first cap : Array Value) (w : World), (Instr.makeFunc fn first cap).run Tryd.prog w = .ok (.func fn first cap) w := fun _ _ _ _ => rfl
  have hs2 : ¬ (s.size : Int) > 2000 := by omega
  have hmin : min 0 (s.size : Int) = 0 := by omega
  have hzl := hz.lt
  have cP := pass_any (w.heap.size + 1) 0 0 s (rdW w s) (rdW_rs w s h2) (by omega)
  rw [rs_all] at cP
  have HF := hideK (rdW_fr1 w s tb)
  have HZ := hideK (hz.keep (rdW_fr w s (w.heap.size + 1)) (by omega))
  simp only [rdW] at cP HF HZ
  go_enter_defers Tryd.func15, Tryd.ntmps15
  go_wp2_with fail
  refine cP.mono ?_
  rintro e w1 ⟨rfl, ⟨q, hq, hl⟩, hf1⟩
  have HF1 := hideK (HF.out.via hf1 (by simp))
  have HZ1 := hideK (HZ.out.keep hf1 (by omega))
  rw [← hl] at hT
  go_wp2_with fail
  refine (parse1_bad (w.heap.size + 1) tb q s _ w1 hq HZ1.out (by omega) HF1.out (by simp) hT).mono ?_
  rintro e w2 ⟨rfl, hf2, hz2⟩
  have B2 := hideK ((al_fb w).keep hf2 (by omega))
  have F2 := hideK ((FR.al (pb := tb) _).trans hf2)
  unfold thrown
  go_wp2_with fail
  have B9 := st2_at B2.out (3) (((s.size - r.length : Nat) : Int))
  have F9 := hideK (F2.out.st2 (Nat.le_refl _) (3) (((s.size - r.length : Nat) : Int)))
  have Z9 := hideK (hz2.st2 (b := w.heap.size) (by omega) (3) (((s.size - r.length : Nat) : Int)))
  refine leaves_cons (f := 31) (args := #[.pointer (some ⟨w.heap.size, 0, none⟩)]) (by simp) (by simp [go_sem]) ?_
  refine (catch_thrown w.heap.size (3) (((s.size - r.length : Nat) : Int)) 0 0 [] w2 B2.out.c0 B2.out.c1 B2.out.f0 B2.out.f1).mono ?_
  rintro e u' w3 ⟨rfl, rfl, rfl⟩
  change Leaves _ _ _ _ [] .returning (st2 w2 w.heap.size (3) (((s.size - r.length : Nat) : Int)))
  generalize st2 w2 w.heap.size (3) (((s.size - r.length : Nat) : Int)) = W9 at B9 F9 Z9 ⊢
  obtain ⟨_, r0, r1, _, _⟩ := B9
  exact ⟨.agg #[.int .i64 (3), .int .i64 (((s.size - r.length : Nat) : Int))], by simp [results, Tryd.results15, go_sem, r0, r1], rfl, F9.out, Z9.out⟩
set_option maxRecDepth 100000 in
set_option maxHeartbeats 2000000 in
theorem readP_more (tb : Nat) (s : ByteArray) (w : World) (hz : ZT w tb) (h2 : s.size ≤ 2000) (t : Ty) (r : List UInt8) (hT : rdT 2001 (skB s.data.toList) = .ok (t, r)) (hr : r ≠ []) : Calls Tryd.prog 15 #[.string s, .string ⟨#[32]⟩, .int .i64 0, .func (.func 16) #[] #[.pointer (some ⟨tb, 0, none⟩)]] w fun e w' =>  e = .returned (.agg #[.int .i64 (3), .int .i64 (((s.size - r.length : Nat) : Int))]) ∧ FR tb w w' ∧ ZT w' tb := by
  have hmf : ∀ (fn : Fn) (first cap : Array Value) (w : World), (Instr.makeFunc fn first cap).run Tryd.prog w = .ok (.func fn first cap) w := fun _ _ _ _ => rfl
  have hs2 : ¬ (s.size : Int) > 2000 := by omega
  have hmin : min 0 (s.size : Int) = 0 := by omega
  have hzl := hz.lt
  have cP := pass_any (w.heap.size + 1) 0 0 s (rdW w s) (rdW_rs w s h2) (by omega)
  rw [rs_all] at cP
  have HF := hideK (rdW_fr1 w s tb)
  have HZ := hideK (hz.keep (rdW_fr w s (w.heap.size + 1)) (by omega))
  simp only [rdW] at cP HF HZ
  go_enter_defers Tryd.func15, Tryd.ntmps15
  go_wp2_with fail
  refine cP.mono ?_
  rintro e w1 ⟨rfl, ⟨q, hq, hl⟩, hf1⟩
  have HF1 := hideK (HF.out.via hf1 (by simp))
  have HZ1 := hideK (HZ.out.keep hf1 (by omega))
  rw [← hl] at hT
  go_wp2_with fail
  refine (parse1_more (w.heap.size + 1) tb q s _ w1 hq HZ1.out (by omega) HF1.out (by simp) hT hr).mono ?_
  rintro e w2 ⟨rfl, hf2, hz2⟩
  have B2 := hideK ((al_fb w).keep hf2 (by omega))
  have F2 := hideK ((FR.al (pb := tb) _).trans hf2)
  unfold thrown
  go_wp2_with fail
  have B9 := st2_at B2.out (3) (((s.size - r.length : Nat) : Int))
  have F9 := hideK (F2.out.st2 (Nat.le_refl _) (3) (((s.size - r.length : Nat) : Int)))
  have Z9 := hideK (hz2.st2 (b := w.heap.size) (by omega) (3) (((s.size - r.length : Nat) : Int)))
  refine leaves_cons (f := 31) (args := #[.pointer (some ⟨w.heap.size, 0, none⟩)]) (by simp) (by simp [go_sem]) ?_
  refine (catch_thrown w.heap.size (3) (((s.size - r.length : Nat) : Int)) 0 0 [] w2 B2.out.c0 B2.out.c1 B2.out.f0 B2.out.f1).mono ?_
  rintro e u' w3 ⟨rfl, rfl, rfl⟩
  change Leaves _ _ _ _ [] .returning (st2 w2 w.heap.size (3) (((s.size - r.length : Nat) : Int)))
  generalize st2 w2 w.heap.size (3) (((s.size - r.length : Nat) : Int)) = W9 at B9 F9 Z9 ⊢
  obtain ⟨_, r0, r1, _, _⟩ := B9
  exact ⟨.agg #[.int .i64 (3), .int .i64 (((s.size - r.length : Nat) : Int))], by simp [results, Tryd.results15, go_sem, r0, r1], rfl, F9.out, Z9.out⟩
set_option maxRecDepth 100000 in
set_option maxHeartbeats 2000000 in
theorem readP_wrong (tb : Nat) (s : ByteArray) (w : World) (hz : ZT w tb) (h2 : s.size ≤ 2000) (t : Ty) (hT : rdT 2001 (skB s.data.toList) = .ok (t, [])) (hc : chkTy t ≠ 0) : Calls Tryd.prog 15 #[.string s, .string ⟨#[32]⟩, .int .i64 0, .func (.func 16) #[] #[.pointer (some ⟨tb, 0, none⟩)]] w fun e w' =>  e = .returned (.agg #[.int .i64 (chkTy t), .int .i64 (0)]) ∧ FR tb w w' ∧ ZT w' tb := by
  have hmf : ∀ (fn : Fn) (first cap : Array Value) (w : World), (Instr.makeFunc fn first cap).run Tryd.prog w = .ok (.func fn first cap) w := fun _ _ _ _ => rfl
  have hs2 : ¬ (s.size : Int) > 2000 := by omega
  have hmin : min 0 (s.size : Int) = 0 := by omega
  have hzl := hz.lt
  have cP := pass_any (w.heap.size + 1) 0 0 s (rdW w s) (rdW_rs w s h2) (by omega)
  rw [rs_all] at cP
  have HF := hideK (rdW_fr1 w s tb)
  have HZ := hideK (hz.keep (rdW_fr w s (w.heap.size + 1)) (by omega))
  simp only [rdW] at cP HF HZ
  go_enter_defers Tryd.func15, Tryd.ntmps15
  go_wp2_with fail
  refine cP.mono ?_
  rintro e w1 ⟨rfl, ⟨q, hq, hl⟩, hf1⟩
  have HF1 := hideK (HF.out.via hf1 (by simp))
  have HZ1 := hideK (HZ.out.keep hf1 (by omega))
  rw [← hl] at hT
  go_wp2_with fail
  refine (parse1_wrong (w.heap.size + 1) tb q s _ w1 hq HZ1.out (by omega) HF1.out (by simp) hT hc).mono ?_
  rintro e w2 ⟨rfl, hf2, hz2⟩
  have B2 := hideK ((al_fb w).keep hf2 (by omega))
  have F2 := hideK ((FR.al (pb := tb) _).trans hf2)
  unfold faultE
  go_wp2_with fail
  have B9 := st2_at B2.out (chkTy t) (0)
  have F9 := hideK (F2.out.st2 (Nat.le_refl _) (chkTy t) (0))
  have Z9 := hideK (hz2.st2 (b := w.heap.size) (by omega) (chkTy t) (0))
  refine leaves_cons (f := 31) (args := #[.pointer (some ⟨w.heap.size, 0, none⟩)]) (by simp) (by simp [go_sem]) ?_
  refine (catch_thrown w.heap.size (chkTy t) (0) 0 0 [] w2 B2.out.c0 B2.out.c1 B2.out.f0 B2.out.f1).mono ?_
  rintro e u' w3 ⟨rfl, rfl, rfl⟩
  change Leaves _ _ _ _ [] .returning (st2 w2 w.heap.size (chkTy t) (0))
  generalize st2 w2 w.heap.size (chkTy t) (0) = W9 at B9 F9 Z9 ⊢
  obtain ⟨_, r0, r1, _, _⟩ := B9
  exact ⟨.agg #[.int .i64 (chkTy t), .int .i64 (0)], by simp [results, Tryd.results15, go_sem, r0, r1], rfl, F9.out, Z9.out⟩
set_option maxRecDepth 100000 in
set_option maxHeartbeats 2000000 in
theorem readP_large (tb : Nat) (s : ByteArray) (w : World) (hz : ZT w tb) (h2 : 2000 < s.size) : Calls Tryd.prog 15 #[.string s, .string ⟨#[32]⟩, .int .i64 0, .func (.func 16) #[] #[.pointer (some ⟨tb, 0, none⟩)]] w fun e w' =>  e = .returned (.agg #[.int .i64 2, .int .i64 0]) ∧ FR tb w w' ∧ ZT w' tb := by
  have hmf : ∀ (fn : Fn) (first cap : Array Value) (w : World), (Instr.makeFunc fn first cap).run Tryd.prog w = .ok (.func fn first cap) w := fun _ _ _ _ => rfl
  have hs2 : (s.size : Int) > 2000 := by omega
  have hzl := hz.lt
  have B9 : FB (w.alloc (.cells #[.int .i64 2, .int .i64 0] 30)) w.heap.size 2 0 := ⟨by simp, by go_cell, by go_cell, by go_simp, by go_simp⟩
  have F9 := hideK (FR.al (pb := tb) (w := w) (.cells #[.int .i64 2, .int .i64 0] 30))
  have Z9 := hideK (hz.keep (FR.al (pb := w.heap.size) (w := w) (.cells #[.int .i64 2, .int .i64 0] 30)) (by omega))
  go_enter_defers Tryd.func15, Tryd.ntmps15
  go_wp2_with fail
  generalize w.alloc (.cells #[.int .i64 2, .int .i64 0] 30) = W9 at B9 F9 Z9 ⊢
  obtain ⟨_, r0, r1, _, _⟩ := B9
  refine leaves_cons (f := 31) (args := #[.pointer (some ⟨w.heap.size, 0, none⟩)]) (by simp) (by simp [go_sem]) ?_
  refine (catch_none w.heap.size _).mono ?_
  rintro e u' w3 ⟨rfl, rfl, rfl⟩
  exact ⟨.agg #[.int .i64 2, .int .i64 0], by simp [results, Tryd.results15, go_sem, r0, r1], rfl, F9.out, Z9.out⟩
/-- what Read leaves: the type in its block, or the fault -/
def RPost (w : World) (tb : Nat) (x : Except (Int × Nat) Ty) (e : Ending) (w' : World) : Prop :=
  match x with
  | .ok t => e = .returned (.agg #[.int .i64 0, .int .i64 0]) ∧ InTb w tb t w' ∧ FR tb w w'
  | .error (c, a) => e = .returned (.agg #[.int .i64 c, .int .i64 (a : Int)]) ∧ FR tb w w' ∧ ZT w' tb
theorem readP_any (tb : Nat) (s : ByteArray) (w : World) (hz : ZT w tb) : Calls Tryd.prog 15 #[.string s, .string ⟨#[32]⟩, .int .i64 0, .func (.func 16) #[] #[.pointer (some ⟨tb, 0, none⟩)]] w fun e w' =>  RPost w tb (psT s.data.toList) e w' := by
  have hsz : s.data.toList.length = s.size := by simp
  unfold psT
  by_cases h2 : 2000 < s.size
  · rw [if_pos (by rw [hsz]; exact h2)]
    exact readP_large tb s w hz h2
  · rw [if_neg (by rw [hsz]; exact h2)]
    cases hT : rdT 2001 (skB s.data.toList) with
    | error r =>
      simp only [hsz]
      exact readP_bad tb s w hz (by omega) r hT
    | ok x =>
      obtain ⟨t, r⟩ := x
      simp only [hsz]
      by_cases hr : r = []
      · subst hr
        rw [if_pos rfl]
        by_cases hc : chkTy t = 0
        · rw [if_pos hc]
          exact readP_good tb s w hz (by omega) t hT hc
        · rw [if_neg hc]
          exact readP_wrong tb s w hz (by omega) t hT hc
      · rw [if_neg hr]
        exact readP_more tb s w hz (by omega) t r hT hr
end Go.Proofs.YthamkbahiidenaaDoor

/-
  The contract of types.Parse, for every text.
-/
namespace Go.Proofs.YthamkbahiidenaaDoor
open Go.RowKit Go.Shelf
/-- what Parse hands back -/
def PPost (x : Except (Int × Nat) Ty) (e : Ending) (w' : World) : Prop :=
  match x with
  | .ok t => ∃ al cl ak ck, e = .returned (.tuple #[.agg #[.int .i64 t.kind, .int .i64 t.so, .string t.name, .slice al t.labels.length cl, .slice ak t.kids.length ck], .agg #[.int .i64 0, .int .i64 0]]) ∧ TyBd t cl ck ∧ LA w' w'.heap.size t.labels al ∧ KT w' w'.heap.size 2001 t.kids ak
  | .error (c, a) => e = .returned (.tuple #[.agg #[.int .i64 0, .int .i64 0, .string ⟨#[]⟩, .slice none 0 0, .slice none 0 0], .agg #[.int .i64 c, .int .i64 (a : Int)]])
theorem below_st2 {w W : World} (h : Below w.heap.size w W) (b : Nat) (c a : Int) (hb : w.heap.size ≤ b) : Below w.heap.size w (st2 W b c a) := by
  unfold st2
  exact (h.setCell (p := ⟨b, 0, none⟩) hb _).setCell (p := ⟨b, 1, none⟩) hb _
theorem par_end {w V : World} {c a : Int} (hz : ∀ j, j < 5 → ∃ v, V.cell? ⟨w.heap.size, 0 + j, none⟩ = some v) (hb : FB V (w.heap.size + 1) c a) (hbl : Below w.heap.size w V) (t : Ty) (al : Option Addr) (cl : Nat) (ak : Option Addr) (ck : Nat) :
    TyAt (st2 (st5 V w.heap.size 0 (.int .i64 t.kind) (.int .i64 t.so) (.string t.name) (.slice al t.labels.length cl) (.slice ak t.kids.length ck)) (w.heap.size + 1) c a).drew w.heap.size 0 t al cl ak ck ∧
    FB (st2 (st5 V w.heap.size 0 (.int .i64 t.kind) (.int .i64 t.so) (.string t.name) (.slice al t.labels.length cl) (.slice ak t.kids.length ck)) (w.heap.size + 1) c a).drew (w.heap.size + 1) c a ∧
    Below w.heap.size w (st2 (st5 V w.heap.size 0 (.int .i64 t.kind) (.int .i64 t.so) (.string t.name) (.slice al t.labels.length cl) (.slice ak t.kids.length ck)) (w.heap.size + 1) c a).drew ∧
    (∀ b o, w.heap.size + 2 ≤ b → (st2 (st5 V w.heap.size 0 (.int .i64 t.kind) (.int .i64 t.so) (.string t.name) (.slice al t.labels.length cl) (.slice ak t.kids.length ck)) (w.heap.size + 1) c a).drew.cell? ⟨b, o, none⟩ = V.cell? ⟨b, o, none⟩) ∧
    (st2 (st5 V w.heap.size 0 (.int .i64 t.kind) (.int .i64 t.so) (.string t.name) (.slice al t.labels.length cl) (.slice ak t.kids.length ck)) (w.heap.size + 1) c a).drew.heap.size = V.heap.size := by
  have T1 := st5_at V w.heap.size 0 t al cl ak ck hz
  have B1 : FB (st5 V w.heap.size 0 (.int .i64 t.kind) (.int .i64 t.so) (.string t.name) (.slice al t.labels.length cl) (.slice ak t.kids.length ck)) (w.heap.size + 1) c a :=
    ⟨by rw [st5_size]; exact hb.lt, (st5_other _ _ _ _ _ _ _ _ _ _ (.inl (by omega))).trans hb.c0, (st5_other _ _ _ _ _ _ _ _ _ _ (.inl (by omega))).trans hb.c1, by rw [st5_frozen]; exact hb.f0, by rw [st5_frozen]; exact hb.f1⟩
  have L1 := st5_below w.heap.size 0 (.int .i64 t.kind) (.int .i64 t.so) (.string t.name) (.slice al t.labels.length cl) (.slice ak t.kids.length ck) hbl (Nat.le_refl _)
  have S1 := st5_size V w.heap.size 0 (.int .i64 t.kind) (.int .i64 t.so) (.string t.name) (.slice al t.labels.length cl) (.slice ak t.kids.length ck)
  have O1 : ∀ b o, w.heap.size + 2 ≤ b → (st5 V w.heap.size 0 (.int .i64 t.kind) (.int .i64 t.so) (.string t.name) (.slice al t.labels.length cl) (.slice ak t.kids.length ck)).cell? ⟨b, o, none⟩ = V.cell? ⟨b, o, none⟩ := fun b o h => st5_other _ _ _ _ _ _ _ _ _ _ (.inl (by omega))
  generalize st5 V w.heap.size 0 (.int .i64 t.kind) (.int .i64 t.so) (.string t.name) (.slice al t.labels.length cl) (.slice ak t.kids.length ck) = U at *
  have B2 := st2_at B1 c a
  refine ⟨⟨(st2_other _ _ _ _ _ _ (by omega)).trans T1.c0, (st2_other _ _ _ _ _ _ (by omega)).trans T1.c1, (st2_other _ _ _ _ _ _ (by omega)).trans T1.c2, (st2_other _ _ _ _ _ _ (by omega)).trans T1.c3, (st2_other _ _ _ _ _ _ (by omega)).trans T1.c4⟩, ⟨B2.lt, B2.c0, B2.c1, B2.f0, B2.f1⟩, (below_st2 L1 _ c a (by omega)).drew, fun b o h => (st2_other _ _ _ _ _ _ (by omega)).trans (O1 b o h), (st2_size U _ c a).trans S1⟩
theorem five_at {V : World} {b : Nat} {v0 v1 v2 v3 v4 : Value} (h0 : V.cell? ⟨b, 0, none⟩ = some v0) (h1 : V.cell? ⟨b, 1, none⟩ = some v1) (h2 : V.cell? ⟨b, 2, none⟩ = some v2) (h3 : V.cell? ⟨b, 3, none⟩ = some v3) (h4 : V.cell? ⟨b, 4, none⟩ = some v4) : ∀ j, j < 5 → ∃ v, V.cell? ⟨b, 0 + j, none⟩ = some v := by
  intro j hj
  rw [Nat.zero_add]
  have : j = 0 ∨ j = 1 ∨ j = 2 ∨ j = 3 ∨ j = 4 := by omega
  rcases this with rfl | rfl | rfl | rfl | rfl
  · exact ⟨_, h0⟩
  · exact ⟨_, h1⟩
  · exact ⟨_, h2⟩
  · exact ⟨_, h3⟩
  · exact ⟨_, h4⟩
set_option maxRecDepth 100000 in
set_option maxHeartbeats 4000000 in
theorem parse_any (s : ByteArray) (w : World) :
    Calls Tryd.prog 6 #[.string s] w fun e w' => PPost (psT s.data.toList) e w' ∧ Below w.heap.size w w' := by
  have hmf : ∀ (fn : Fn) (first cap : Array Value) (w : World), (Instr.makeFunc fn first cap).run Tryd.prog w = .ok (.func fn first cap) w := fun _ _ _ _ => rfl
  have Z0 := (ZT.new w).keep (FR.al (pb := w.heap.size + 1) (.cells #[.int .i64 0, .int .i64 0] 30)) (by omega)
  have B0 : FB ((w.alloc (.cells #[.int .i64 0, .int .i64 0, .string ⟨#[]⟩, .slice none 0 0, .slice none 0 0] 25)).alloc (.cells #[.int .i64 0, .int .i64 0] 30)) (w.heap.size + 1) 0 0 := ⟨by simp, by go_cell, by go_cell, by go_simp, by go_simp⟩
  have HA : Below w.heap.size w ((w.alloc (.cells #[.int .i64 0, .int .i64 0, .string ⟨#[]⟩, .slice none 0 0, .slice none 0 0] 25)).alloc (.cells #[.int .i64 0, .int .i64 0] 30)) := ((Below.refl _ _).alloc (Nat.le_refl _) _).alloc (by simp) _
  have cR := readP_any w.heap.size s _ Z0
  have HB := hideK B0
  have HA' := hideK HA
  clear Z0 B0 HA
  cases hX : psT s.data.toList with
  | error x =>
    obtain ⟨c, a⟩ := x
    rw [hX] at cR
    simp only [RPost] at cR
    simp only [PPost]
    go_enter Tryd.func6, Tryd.ntmps6
    go_wp2_with fail
    refine cR.mono ?_
    rintro e w1 ⟨rfl, hf1, hz1⟩
    obtain ⟨bl, b0, b1, g0, g1⟩ := HB.out.keep hf1 (by omega)
    have ZV := hz1.st2 (b := w.heap.size + 1) (by omega) c (a : Int)
    obtain ⟨zl, z0, z1, z2, z3, z4, y0, y1, y2, y3, y4⟩ := id ZV
    have HBl := hideK (HA'.out.trans (hf1.below (by simp; omega)))
    have F2 := hideK (FB.mk bl b0 b1 g0 g1)
    go_wp2_with fail
    have D := st2_at F2.out (c) ((a : Int))
    obtain ⟨dl, d0, d1, e0, e1⟩ := id D
    have Bv := hideK (below_st2 HBl.out (w.heap.size + 1) (c) ((a : Int)) (by omega))
    change Code.wp _ _ _ _ (st2 w1 (w.heap.size + 1) (c) ((a : Int)))
    generalize st2 w1 (w.heap.size + 1) (c) ((a : Int)) = V at *
    have n1 : ¬ w.heap.size = w.heap.size + 1 := by omega
    have n2 : ¬ w.heap.size + 1 = w.heap.size := by omega
    have E8 := hideK (par_end (w := w) (V := V) (five_at z0 z1 z2 z3 z4) D Bv.out ⟨0, 0, ⟨#[]⟩, [], []⟩ none 0 none 0)
    refine wp_region_any (by kernel_rfl) ?_
    change wpAny _ _ _ _ _ _ _ (World.drew _)
    refine wpAny_ready (rs := [0, 1]) (by kernel_rfl) (by simp) ?_
    refine (AllReady.cons rfl (fun K hK => ?_) (AllReady.cons rfl (fun K hK => ?_) AllReady.nil))
    · go_simp
      refine hK _ _ ?_
      clear hK K
      refine wpAny_ready (rs := [1, 2]) (by kernel_rfl) (by simp) ?_
      refine (AllReady.cons rfl (fun K hK => ?_) (AllReady.cons rfl (fun K hK => ?_) AllReady.nil))
      · go_simp
        refine hK _ _ ?_
        clear hK K
        refine take_one 2 (AllReady.cons rfl (fun K hK => ?_) AllReady.nil) (by kernel_rfl)
        go_simp
        refine hK _ _ ?_
        clear hK K
        refine take_one 3 (AllReady.cons rfl (fun K hK => ?_) AllReady.nil) (by kernel_rfl)
        go_simp
        refine hK _ _ ?_
        clear hK K
        refine wpAny_done (by kernel_rfl) ?_ _
        go_wp2_with fail
        change bodyPost _ _ _ _ _ ((st2 (st5 V w.heap.size 0 (.int .i64 0) (.int .i64 0) (.string ⟨#[]⟩) (.slice none 0 0) (.slice none 0 0)) (w.heap.size + 1) (c) ((a : Int))).drew)
        have E9 := E8.out
        change TyAt ((st2 (st5 V w.heap.size 0 (.int .i64 0) (.int .i64 0) (.string ⟨#[]⟩) (.slice none 0 0) (.slice none 0 0)) (w.heap.size + 1) (c) ((a : Int))).drew) _ _ _ _ _ _ _ ∧ FB ((st2 (st5 V w.heap.size 0 (.int .i64 0) (.int .i64 0) (.string ⟨#[]⟩) (.slice none 0 0) (.slice none 0 0)) (w.heap.size + 1) (c) ((a : Int))).drew) _ _ _ ∧ Below _ _ ((st2 (st5 V w.heap.size 0 (.int .i64 0) (.int .i64 0) (.string ⟨#[]⟩) (.slice none 0 0) (.slice none 0 0)) (w.heap.size + 1) (c) ((a : Int))).drew) ∧ (∀ b o, _ → ((st2 (st5 V w.heap.size 0 (.int .i64 0) (.int .i64 0) (.string ⟨#[]⟩) (.slice none 0 0) (.slice none 0 0)) (w.heap.size + 1) (c) ((a : Int))).drew).cell? _ = _) ∧ ((st2 (st5 V w.heap.size 0 (.int .i64 0) (.int .i64 0) (.string ⟨#[]⟩) (.slice none 0 0) (.slice none 0 0)) (w.heap.size + 1) (c) ((a : Int))).drew).heap.size = _ at E9
        generalize (st2 (st5 V w.heap.size 0 (.int .i64 0) (.int .i64 0) (.string ⟨#[]⟩) (.slice none 0 0) (.slice none 0 0)) (w.heap.size + 1) (c) ((a : Int))).drew = W9 at E9 ⊢
        obtain ⟨⟨r0, r1, r2, r3, r4⟩, ⟨_, s0, s1, _, _⟩, hB9, hK9, hS9⟩ := E9
        simp only [Nat.zero_add, List.length_nil] at r1 r2 r3 r4
        refine bodyPost_ret (v := .tuple #[.agg #[.int .i64 0, .int .i64 0, .string ⟨#[]⟩, .slice none 0 0, .slice none 0 0], .agg #[.int .i64 c, .int .i64 (a : Int)]]) (by simp [results, Tryd.results6, go_sem, r0, r1, r2, r3, r4, s0, s1]) rfl ?_
        exact ⟨rfl, hB9⟩
      · go_simp
        refine hK _ _ ?_
        clear hK K
        refine take_one 1 (AllReady.cons rfl (fun K hK => ?_) AllReady.nil) (by kernel_rfl)
        go_simp
        refine hK _ _ ?_
        clear hK K
        refine take_one 3 (AllReady.cons rfl (fun K hK => ?_) AllReady.nil) (by kernel_rfl)
        go_simp
        refine hK _ _ ?_
        clear hK K
        refine wpAny_done (by kernel_rfl) ?_ _
        go_wp2_with fail
        change bodyPost _ _ _ _ _ ((st2 (st5 V w.heap.size 0 (.int .i64 0) (.int .i64 0) (.string ⟨#[]⟩) (.slice none 0 0) (.slice none 0 0)) (w.heap.size + 1) (c) ((a : Int))).drew)
        have E9 := E8.out
        change TyAt ((st2 (st5 V w.heap.size 0 (.int .i64 0) (.int .i64 0) (.string ⟨#[]⟩) (.slice none 0 0) (.slice none 0 0)) (w.heap.size + 1) (c) ((a : Int))).drew) _ _ _ _ _ _ _ ∧ FB ((st2 (st5 V w.heap.size 0 (.int .i64 0) (.int .i64 0) (.string ⟨#[]⟩) (.slice none 0 0) (.slice none 0 0)) (w.heap.size + 1) (c) ((a : Int))).drew) _ _ _ ∧ Below _ _ ((st2 (st5 V w.heap.size 0 (.int .i64 0) (.int .i64 0) (.string ⟨#[]⟩) (.slice none 0 0) (.slice none 0 0)) (w.heap.size + 1) (c) ((a : Int))).drew) ∧ (∀ b o, _ → ((st2 (st5 V w.heap.size 0 (.int .i64 0) (.int .i64 0) (.string ⟨#[]⟩) (.slice none 0 0) (.slice none 0 0)) (w.heap.size + 1) (c) ((a : Int))).drew).cell? _ = _) ∧ ((st2 (st5 V w.heap.size 0 (.int .i64 0) (.int .i64 0) (.string ⟨#[]⟩) (.slice none 0 0) (.slice none 0 0)) (w.heap.size + 1) (c) ((a : Int))).drew).heap.size = _ at E9
        generalize (st2 (st5 V w.heap.size 0 (.int .i64 0) (.int .i64 0) (.string ⟨#[]⟩) (.slice none 0 0) (.slice none 0 0)) (w.heap.size + 1) (c) ((a : Int))).drew = W9 at E9 ⊢
        obtain ⟨⟨r0, r1, r2, r3, r4⟩, ⟨_, s0, s1, _, _⟩, hB9, hK9, hS9⟩ := E9
        simp only [Nat.zero_add, List.length_nil] at r1 r2 r3 r4
        refine bodyPost_ret (v := .tuple #[.agg #[.int .i64 0, .int .i64 0, .string ⟨#[]⟩, .slice none 0 0, .slice none 0 0], .agg #[.int .i64 c, .int .i64 (a : Int)]]) (by simp [results, Tryd.results6, go_sem, r0, r1, r2, r3, r4, s0, s1]) rfl ?_
        exact ⟨rfl, hB9⟩
    · go_simp
      refine hK _ _ ?_
      clear hK K
      refine take_one 0 (AllReady.cons rfl (fun K hK => ?_) AllReady.nil) (by kernel_rfl)
      go_simp
      refine hK _ _ ?_
      clear hK K
      refine take_one 2 (AllReady.cons rfl (fun K hK => ?_) AllReady.nil) (by kernel_rfl)
      go_simp
      refine hK _ _ ?_
      clear hK K
      refine take_one 3 (AllReady.cons rfl (fun K hK => ?_) AllReady.nil) (by kernel_rfl)
      go_simp
      refine hK _ _ ?_
      clear hK K
      refine wpAny_done (by kernel_rfl) ?_ _
      go_wp2_with fail
      change bodyPost _ _ _ _ _ ((st2 (st5 V w.heap.size 0 (.int .i64 0) (.int .i64 0) (.string ⟨#[]⟩) (.slice none 0 0) (.slice none 0 0)) (w.heap.size + 1) (c) ((a : Int))).drew)
      have E9 := E8.out
      change TyAt ((st2 (st5 V w.heap.size 0 (.int .i64 0) (.int .i64 0) (.string ⟨#[]⟩) (.slice none 0 0) (.slice none 0 0)) (w.heap.size + 1) (c) ((a : Int))).drew) _ _ _ _ _ _ _ ∧ FB ((st2 (st5 V w.heap.size 0 (.int .i64 0) (.int .i64 0) (.string ⟨#[]⟩) (.slice none 0 0) (.slice none 0 0)) (w.heap.size + 1) (c) ((a : Int))).drew) _ _ _ ∧ Below _ _ ((st2 (st5 V w.heap.size 0 (.int .i64 0) (.int .i64 0) (.string ⟨#[]⟩) (.slice none 0 0) (.slice none 0 0)) (w.heap.size + 1) (c) ((a : Int))).drew) ∧ (∀ b o, _ → ((st2 (st5 V w.heap.size 0 (.int .i64 0) (.int .i64 0) (.string ⟨#[]⟩) (.slice none 0 0) (.slice none 0 0)) (w.heap.size + 1) (c) ((a : Int))).drew).cell? _ = _) ∧ ((st2 (st5 V w.heap.size 0 (.int .i64 0) (.int .i64 0) (.string ⟨#[]⟩) (.slice none 0 0) (.slice none 0 0)) (w.heap.size + 1) (c) ((a : Int))).drew).heap.size = _ at E9
      generalize (st2 (st5 V w.heap.size 0 (.int .i64 0) (.int .i64 0) (.string ⟨#[]⟩) (.slice none 0 0) (.slice none 0 0)) (w.heap.size + 1) (c) ((a : Int))).drew = W9 at E9 ⊢
      obtain ⟨⟨r0, r1, r2, r3, r4⟩, ⟨_, s0, s1, _, _⟩, hB9, hK9, hS9⟩ := E9
      simp only [Nat.zero_add, List.length_nil] at r1 r2 r3 r4
      refine bodyPost_ret (v := .tuple #[.agg #[.int .i64 0, .int .i64 0, .string ⟨#[]⟩, .slice none 0 0, .slice none 0 0], .agg #[.int .i64 c, .int .i64 (a : Int)]]) (by simp [results, Tryd.results6, go_sem, r0, r1, r2, r3, r4, s0, s1]) rfl ?_
      exact ⟨rfl, hB9⟩
  | ok t =>
    rw [hX] at cR
    simp only [RPost] at cR
    simp only [PPost]
    go_enter Tryd.func6, Tryd.ntmps6
    go_wp2_with fail
    refine cR.mono ?_
    rintro e w1 ⟨rfl, ⟨al, cl, ak, ck, ht1, hg1, hfz⟩, hf1⟩
    obtain ⟨bl, b0, b1, g0, g1⟩ := HB.out.keep hf1 (by omega)
    have TV : TyAt (st2 w1 (w.heap.size + 1) 0 0) w.heap.size 0 t al cl ak ck := ⟨(st2_other _ _ _ _ _ _ (by omega)).trans ht1.c0, (st2_other _ _ _ _ _ _ (by omega)).trans ht1.c1, (st2_other _ _ _ _ _ _ (by omega)).trans ht1.c2, (st2_other _ _ _ _ _ _ (by omega)).trans ht1.c3, (st2_other _ _ _ _ _ _ (by omega)).trans ht1.c4⟩
    obtain ⟨z0, z1, z2, z3, z4⟩ := id TV
    simp only [Nat.zero_add] at z1 z2 z3 z4
    have fz : ∀ o, o < 5 → (st2 w1 (w.heap.size + 1) 0 0).frozen? ⟨w.heap.size, o, none⟩ = false := fun o ho => by rw [st2_frozen]; exact hfz o ho
    have y0 := fz 0 (by omega)
    have y1 := fz 1 (by omega)
    have y2 := fz 2 (by omega)
    have y3 := fz 3 (by omega)
    have y4 := fz 4 (by omega)
    have G1 := hideK hg1
    have KV1 : Hid (∀ b o, w.heap.size + 2 ≤ b → (st2 w1 (w.heap.size + 1) 0 0).cell? ⟨b, o, none⟩ = w1.cell? ⟨b, o, none⟩) := fun b o hb => st2_other _ _ _ _ _ _ (by omega)
    have SV1 : Hid ((st2 w1 (w.heap.size + 1) 0 0).heap.size = w1.heap.size) := st2_size _ _ _ _
    clear fz hg1 hfz TV
    have HBl := hideK (HA'.out.trans (hf1.below (by simp; omega)))
    have F2 := hideK (FB.mk bl b0 b1 g0 g1)
    go_wp2_with fail
    have D := st2_at F2.out (0) (0)
    obtain ⟨dl, d0, d1, e0, e1⟩ := id D
    have Bv := hideK (below_st2 HBl.out (w.heap.size + 1) (0) (0) (by omega))
    change Code.wp _ _ _ _ (st2 w1 (w.heap.size + 1) (0) (0))
    generalize st2 w1 (w.heap.size + 1) (0) (0) = V at *
    have n1 : ¬ w.heap.size = w.heap.size + 1 := by omega
    have n2 : ¬ w.heap.size + 1 = w.heap.size := by omega
    have E8 := hideK (par_end (w := w) (V := V) (five_at z0 z1 z2 z3 z4) D Bv.out t al cl ak ck)
    refine wp_region_any (by kernel_rfl) ?_
    change wpAny _ _ _ _ _ _ _ (World.drew _)
    refine wpAny_ready (rs := [0, 1]) (by kernel_rfl) (by simp) ?_
    refine (AllReady.cons rfl (fun K hK => ?_) (AllReady.cons rfl (fun K hK => ?_) AllReady.nil))
    · go_simp
      refine hK _ _ ?_
      clear hK K
      refine wpAny_ready (rs := [1, 2]) (by kernel_rfl) (by simp) ?_
      refine (AllReady.cons rfl (fun K hK => ?_) (AllReady.cons rfl (fun K hK => ?_) AllReady.nil))
      · go_simp
        refine hK _ _ ?_
        clear hK K
        refine take_one 2 (AllReady.cons rfl (fun K hK => ?_) AllReady.nil) (by kernel_rfl)
        go_simp
        refine hK _ _ ?_
        clear hK K
        refine take_one 3 (AllReady.cons rfl (fun K hK => ?_) AllReady.nil) (by kernel_rfl)
        go_simp
        refine hK _ _ ?_
        clear hK K
        refine wpAny_done (by kernel_rfl) ?_ _
        go_wp2_with fail
        change bodyPost _ _ _ _ _ ((st2 (st5 V w.heap.size 0 (.int .i64 t.kind) (.int .i64 t.so) (.string t.name) (.slice al t.labels.length cl) (.slice ak t.kids.length ck)) (w.heap.size + 1) (0) (0)).drew)
        have E9 := E8.out
        change TyAt ((st2 (st5 V w.heap.size 0 (.int .i64 t.kind) (.int .i64 t.so) (.string t.name) (.slice al t.labels.length cl) (.slice ak t.kids.length ck)) (w.heap.size + 1) (0) (0)).drew) _ _ _ _ _ _ _ ∧ FB ((st2 (st5 V w.heap.size 0 (.int .i64 t.kind) (.int .i64 t.so) (.string t.name) (.slice al t.labels.length cl) (.slice ak t.kids.length ck)) (w.heap.size + 1) (0) (0)).drew) _ _ _ ∧ Below _ _ ((st2 (st5 V w.heap.size 0 (.int .i64 t.kind) (.int .i64 t.so) (.string t.name) (.slice al t.labels.length cl) (.slice ak t.kids.length ck)) (w.heap.size + 1) (0) (0)).drew) ∧ (∀ b o, _ → ((st2 (st5 V w.heap.size 0 (.int .i64 t.kind) (.int .i64 t.so) (.string t.name) (.slice al t.labels.length cl) (.slice ak t.kids.length ck)) (w.heap.size + 1) (0) (0)).drew).cell? _ = _) ∧ ((st2 (st5 V w.heap.size 0 (.int .i64 t.kind) (.int .i64 t.so) (.string t.name) (.slice al t.labels.length cl) (.slice ak t.kids.length ck)) (w.heap.size + 1) (0) (0)).drew).heap.size = _ at E9
        generalize (st2 (st5 V w.heap.size 0 (.int .i64 t.kind) (.int .i64 t.so) (.string t.name) (.slice al t.labels.length cl) (.slice ak t.kids.length ck)) (w.heap.size + 1) (0) (0)).drew = W9 at E9 ⊢
        obtain ⟨⟨r0, r1, r2, r3, r4⟩, ⟨_, s0, s1, _, _⟩, hB9, hK9, hS9⟩ := E9
        simp only [Nat.zero_add] at r1 r2 r3 r4
        refine bodyPost_ret (v := .tuple #[.agg #[.int .i64 t.kind, .int .i64 t.so, .string t.name, .slice al t.labels.length cl, .slice ak t.kids.length ck], .agg #[.int .i64 0, .int .i64 0]]) (by simp [results, Tryd.results6, go_sem, r0, r1, r2, r3, r4, s0, s1]) rfl ?_
        have hk : ∀ b o, NW ((w.alloc (.cells #[.int .i64 0, .int .i64 0, .string ⟨#[]⟩, .slice none 0 0, .slice none 0 0] 25)).alloc (.cells #[.int .i64 0, .int .i64 0] 30)) w1 b → W9.cell? ⟨b, o, none⟩ = w1.cell? ⟨b, o, none⟩ := fun b o hb => by
          have h1 := hb.1
          simp at h1
          exact (hK9 b o (by omega)).trans (KV1.out b o (by omega))
        have hq : ∀ b, NW ((w.alloc (.cells #[.int .i64 0, .int .i64 0, .string ⟨#[]⟩, .slice none 0 0, .slice none 0 0] 25)).alloc (.cells #[.int .i64 0, .int .i64 0] 30)) w1 b → b < W9.heap.size := fun b hb => by rw [hS9, SV1.out]; exact hb.2
        exact ⟨⟨al, cl, ak, ck, rfl, G1.out.bd, (G1.out.la.keep hk (fun _ h => h)).toLA hq, (G1.out.ka.keep hk (fun _ h => h)).toKT hq⟩, hB9⟩
      · go_simp
        refine hK _ _ ?_
        clear hK K
        refine take_one 1 (AllReady.cons rfl (fun K hK => ?_) AllReady.nil) (by kernel_rfl)
        go_simp
        refine hK _ _ ?_
        clear hK K
        refine take_one 3 (AllReady.cons rfl (fun K hK => ?_) AllReady.nil) (by kernel_rfl)
        go_simp
        refine hK _ _ ?_
        clear hK K
        refine wpAny_done (by kernel_rfl) ?_ _
        go_wp2_with fail
        change bodyPost _ _ _ _ _ ((st2 (st5 V w.heap.size 0 (.int .i64 t.kind) (.int .i64 t.so) (.string t.name) (.slice al t.labels.length cl) (.slice ak t.kids.length ck)) (w.heap.size + 1) (0) (0)).drew)
        have E9 := E8.out
        change TyAt ((st2 (st5 V w.heap.size 0 (.int .i64 t.kind) (.int .i64 t.so) (.string t.name) (.slice al t.labels.length cl) (.slice ak t.kids.length ck)) (w.heap.size + 1) (0) (0)).drew) _ _ _ _ _ _ _ ∧ FB ((st2 (st5 V w.heap.size 0 (.int .i64 t.kind) (.int .i64 t.so) (.string t.name) (.slice al t.labels.length cl) (.slice ak t.kids.length ck)) (w.heap.size + 1) (0) (0)).drew) _ _ _ ∧ Below _ _ ((st2 (st5 V w.heap.size 0 (.int .i64 t.kind) (.int .i64 t.so) (.string t.name) (.slice al t.labels.length cl) (.slice ak t.kids.length ck)) (w.heap.size + 1) (0) (0)).drew) ∧ (∀ b o, _ → ((st2 (st5 V w.heap.size 0 (.int .i64 t.kind) (.int .i64 t.so) (.string t.name) (.slice al t.labels.length cl) (.slice ak t.kids.length ck)) (w.heap.size + 1) (0) (0)).drew).cell? _ = _) ∧ ((st2 (st5 V w.heap.size 0 (.int .i64 t.kind) (.int .i64 t.so) (.string t.name) (.slice al t.labels.length cl) (.slice ak t.kids.length ck)) (w.heap.size + 1) (0) (0)).drew).heap.size = _ at E9
        generalize (st2 (st5 V w.heap.size 0 (.int .i64 t.kind) (.int .i64 t.so) (.string t.name) (.slice al t.labels.length cl) (.slice ak t.kids.length ck)) (w.heap.size + 1) (0) (0)).drew = W9 at E9 ⊢
        obtain ⟨⟨r0, r1, r2, r3, r4⟩, ⟨_, s0, s1, _, _⟩, hB9, hK9, hS9⟩ := E9
        simp only [Nat.zero_add] at r1 r2 r3 r4
        refine bodyPost_ret (v := .tuple #[.agg #[.int .i64 t.kind, .int .i64 t.so, .string t.name, .slice al t.labels.length cl, .slice ak t.kids.length ck], .agg #[.int .i64 0, .int .i64 0]]) (by simp [results, Tryd.results6, go_sem, r0, r1, r2, r3, r4, s0, s1]) rfl ?_
        have hk : ∀ b o, NW ((w.alloc (.cells #[.int .i64 0, .int .i64 0, .string ⟨#[]⟩, .slice none 0 0, .slice none 0 0] 25)).alloc (.cells #[.int .i64 0, .int .i64 0] 30)) w1 b → W9.cell? ⟨b, o, none⟩ = w1.cell? ⟨b, o, none⟩ := fun b o hb => by
          have h1 := hb.1
          simp at h1
          exact (hK9 b o (by omega)).trans (KV1.out b o (by omega))
        have hq : ∀ b, NW ((w.alloc (.cells #[.int .i64 0, .int .i64 0, .string ⟨#[]⟩, .slice none 0 0, .slice none 0 0] 25)).alloc (.cells #[.int .i64 0, .int .i64 0] 30)) w1 b → b < W9.heap.size := fun b hb => by rw [hS9, SV1.out]; exact hb.2
        exact ⟨⟨al, cl, ak, ck, rfl, G1.out.bd, (G1.out.la.keep hk (fun _ h => h)).toLA hq, (G1.out.ka.keep hk (fun _ h => h)).toKT hq⟩, hB9⟩
    · go_simp
      refine hK _ _ ?_
      clear hK K
      refine take_one 0 (AllReady.cons rfl (fun K hK => ?_) AllReady.nil) (by kernel_rfl)
      go_simp
      refine hK _ _ ?_
      clear hK K
      refine take_one 2 (AllReady.cons rfl (fun K hK => ?_) AllReady.nil) (by kernel_rfl)
      go_simp
      refine hK _ _ ?_
      clear hK K
      refine take_one 3 (AllReady.cons rfl (fun K hK => ?_) AllReady.nil) (by kernel_rfl)
      go_simp
      refine hK _ _ ?_
      clear hK K
      refine wpAny_done (by kernel_rfl) ?_ _
      go_wp2_with fail
      change bodyPost _ _ _ _ _ ((st2 (st5 V w.heap.size 0 (.int .i64 t.kind) (.int .i64 t.so) (.string t.name) (.slice al t.labels.length cl) (.slice ak t.kids.length ck)) (w.heap.size + 1) (0) (0)).drew)
      have E9 := E8.out
      change TyAt ((st2 (st5 V w.heap.size 0 (.int .i64 t.kind) (.int .i64 t.so) (.string t.name) (.slice al t.labels.length cl) (.slice ak t.kids.length ck)) (w.heap.size + 1) (0) (0)).drew) _ _ _ _ _ _ _ ∧ FB ((st2 (st5 V w.heap.size 0 (.int .i64 t.kind) (.int .i64 t.so) (.string t.name) (.slice al t.labels.length cl) (.slice ak t.kids.length ck)) (w.heap.size + 1) (0) (0)).drew) _ _ _ ∧ Below _ _ ((st2 (st5 V w.heap.size 0 (.int .i64 t.kind) (.int .i64 t.so) (.string t.name) (.slice al t.labels.length cl) (.slice ak t.kids.length ck)) (w.heap.size + 1) (0) (0)).drew) ∧ (∀ b o, _ → ((st2 (st5 V w.heap.size 0 (.int .i64 t.kind) (.int .i64 t.so) (.string t.name) (.slice al t.labels.length cl) (.slice ak t.kids.length ck)) (w.heap.size + 1) (0) (0)).drew).cell? _ = _) ∧ ((st2 (st5 V w.heap.size 0 (.int .i64 t.kind) (.int .i64 t.so) (.string t.name) (.slice al t.labels.length cl) (.slice ak t.kids.length ck)) (w.heap.size + 1) (0) (0)).drew).heap.size = _ at E9
      generalize (st2 (st5 V w.heap.size 0 (.int .i64 t.kind) (.int .i64 t.so) (.string t.name) (.slice al t.labels.length cl) (.slice ak t.kids.length ck)) (w.heap.size + 1) (0) (0)).drew = W9 at E9 ⊢
      obtain ⟨⟨r0, r1, r2, r3, r4⟩, ⟨_, s0, s1, _, _⟩, hB9, hK9, hS9⟩ := E9
      simp only [Nat.zero_add] at r1 r2 r3 r4
      refine bodyPost_ret (v := .tuple #[.agg #[.int .i64 t.kind, .int .i64 t.so, .string t.name, .slice al t.labels.length cl, .slice ak t.kids.length ck], .agg #[.int .i64 0, .int .i64 0]]) (by simp [results, Tryd.results6, go_sem, r0, r1, r2, r3, r4, s0, s1]) rfl ?_
      have hk : ∀ b o, NW ((w.alloc (.cells #[.int .i64 0, .int .i64 0, .string ⟨#[]⟩, .slice none 0 0, .slice none 0 0] 25)).alloc (.cells #[.int .i64 0, .int .i64 0] 30)) w1 b → W9.cell? ⟨b, o, none⟩ = w1.cell? ⟨b, o, none⟩ := fun b o hb => by
        have h1 := hb.1
        simp at h1
        exact (hK9 b o (by omega)).trans (KV1.out b o (by omega))
      have hq : ∀ b, NW ((w.alloc (.cells #[.int .i64 0, .int .i64 0, .string ⟨#[]⟩, .slice none 0 0, .slice none 0 0] 25)).alloc (.cells #[.int .i64 0, .int .i64 0] 30)) w1 b → b < W9.heap.size := fun b hb => by rw [hS9, SV1.out]; exact hb.2
      exact ⟨⟨al, cl, ak, ck, rfl, G1.out.bd, (G1.out.la.keep hk (fun _ h => h)).toLA hq, (G1.out.ka.keep hk (fun _ h => h)).toKT hq⟩, hB9⟩
end Go.Proofs.YthamkbahiidenaaDoor
