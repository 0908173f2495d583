/-
  The contract of what pieces.Caught defers: a fault that is thrown is caught.
-/
import Derived.Test.YtefdekfgmbgbbaaGreatDoorKl
import Derived.Defers
import Derived.Recover
import Derived.Test.YtefdekfgmbgbbaaGreatDoorKs
import Derived.Test.YtefdekfgmbgbbaaGreatDoorEvt
import Derived.Test.YtefdekfgmbgbbaaGreatDoorQm
namespace Go.Proofs.YtefdekfgmbgbbaaGreatDoor
open Go.RowKit Go.Shelf

set_option maxRecDepth 100000 in
theorem catch_thrown (p : Nat) (c a c0 a0 : Int) (older : List PanicEntry) (w : World) (h0 : w.cell? ⟨p, 0, none⟩ = some (.int .i64 c0)) (h1 : w.cell? ⟨p, 1, none⟩ = some (.int .i64 a0)) (f0 : w.frozen? ⟨p, 0, none⟩ = false) (f1 : w.frozen? ⟨p, 1, none⟩ = false) :
    CallsD Tryz.prog 21 #[.pointer (some ⟨p, 0, none⟩)] (.panicking ({ v := .iface 35 (.agg #[.int .i64 c, .int .i64 a]), recovered := false } :: older)) w fun e u' w' =>
      e = .returned (.tuple #[]) ∧ u' = .panicking ({ v := .iface 35 (.agg #[.int .i64 c, .int .i64 a]), recovered := true } :: older) ∧ w' = (w.setCell ⟨p, 0, none⟩ (.int .i64 c)).setCell ⟨p, 1, none⟩ (.int .i64 a) := by
  have hta : ∀ w1 : World, (Instr.typeAssert (.iface 35 (.agg #[.int .i64 c, .int .i64 a])) 20 35 false).run Tryz.prog w1 = .ok (.agg #[.int .i64 c, .int .i64 a]) w1 := fun _ => by kernel_rfl
  refine callsD_of_wpS Tryz.func21 rfl fun c₀ cs hu => ?_
  apply wpS_seq
  apply wpS_region
  simp [wpOpsS, go_sem, recoverD, hu, Tryz.ntmps21, Exit.thenS]
  refine wpS_of_wp ?_
  change Code.wp _ _ _ { tmps := #[.pointer (some ⟨p, 0, none⟩), .iface 35 (.agg #[.int .i64 c, .int .i64 a]), .iface 35 (.agg #[.int .i64 c, .int .i64 a]), undef, undef, undef, undef], defers := [] } w
  go_wp2_with fail
  exact ⟨rfl, _, rfl, .tuple #[], by simp [results, Tryz.results21, go_sem], rfl, rfl, rfl⟩
set_option maxRecDepth 100000 in
theorem catch_none (p : Nat) (w : World) :
    CallsD Tryz.prog 21 #[.pointer (some ⟨p, 0, none⟩)] .returning w fun e u' w' => e = .returned (.tuple #[]) ∧ u' = .returning ∧ w' = w := by
  refine callsD_of_wpS Tryz.func21 rfl fun c₀ cs hu => ?_
  apply wpS_seq
  apply wpS_region
  simp [wpOpsS, go_sem, recoverD, hu, Tryz.ntmps21, Exit.thenS]
  refine wpS_of_wp ?_
  change Code.wp _ _ _ { tmps := #[.pointer (some ⟨p, 0, none⟩), .nilIface, .nilIface, undef, undef, undef, undef], defers := [] } w
  go_wp2_with fail
  refine ⟨rfl, .returning, ?_, .tuple #[], by simp [results, Tryz.results21, go_sem], rfl, rfl, rfl⟩
  cases c₀
  simp only at hu
  subst hu
  rfl
end Go.Proofs.YtefdekfgmbgbbaaGreatDoor
/-
  The contracts of types.checked, of what types.Parse hands to pieces.Read, of pieces.Read with that, and of types.Parse, for every text.
-/
namespace Go.Proofs.YtefdekfgmbgbbaaGreatDoor
open Go.RowKit Go.Shelf

def faultE (c : Int) (a : Int) : List PanicEntry := [{ v := .iface 35 (.agg #[.int .i64 c, .int .i64 a]), recovered := false }]
theorem FR.via {tb rb : Nat} {w0 w w1 : World} (h : FR tb w0 w) (k : FR rb w w1) (hr : w0.heap.size ≤ rb) : FR tb w0 w1 :=
  ⟨k.os.trans h.os, k.tape.trans h.tape, k.output.trans h.output, Nat.le_trans h.size k.size, fun i hi hn => (k.block i (Nat.lt_of_lt_of_le hi h.size) (fun e => by injection e with e; omega)).trans (h.block i hi hn)⟩
theorem FR.stb {tb : Nat} {w0 W : World} (h : FR tb w0 W) (v0 v1 v2 v3 v4 : Value) : FR tb w0 (st5 W tb 0 v0 v1 v2 v3 v4) := by
  unfold st5
  exact ((((h.trans (FR.set2 _ _)).trans (FR.set2 _ _)).trans (FR.set2 _ _)).trans (FR.set2 _ _)).trans (FR.set2 _ _)
set_option maxRecDepth 100000 in
set_option maxHeartbeats 1000000 in
theorem checked_ok (d : Nat) (t : Ty) (al : Option Addr) (cl : Nat) (ak : Option Addr) (ck : Nat) (w : World) (hbd : TyBd t cl ck) (hla : LA w w.heap.size t.labels al) (hkt : KT w w.heap.size d t.kids ak) (hz : chkTy t = 0) :
    Calls Tryz.prog 62 #[.agg #[.int .i64 t.kind, .int .i64 t.so, .string t.name, .slice al t.labels.length cl, .slice ak t.kids.length ck]] w fun e w' => e = .returned (.agg #[.int .i64 t.kind, .int .i64 t.so, .string t.name, .slice al t.labels.length cl, .slice ak t.kids.length ck]) ∧ Below w.heap.size w w' := by
  have hA : Below w.heap.size w ((w.alloc (.cells #[.int .i64 t.kind, .int .i64 t.so, .string t.name, .slice al t.labels.length cl, .slice ak t.kids.length ck] 31)).alloc (.cells #[.int .i64 0, .int .i64 0, .string ⟨#[]⟩, .slice none 0 0, .slice none 0 0] 31)) := ((Below.refl _ _).alloc (Nat.le_refl _) _).alloc (by simp) _
  have cC := typesCheck_any d t al cl ak ck _ hbd (NAt.mono hA.size (NAt.keep hA hla)) (KT.mono hA.size (KT.keep hA hkt))
  have C0 := hideK ((TyAt.lit w t al cl ak ck).keepF (FR.al (pb := w.heap.size + 1) (.cells #[.int .i64 0, .int .i64 0, .string ⟨#[]⟩, .slice none 0 0, .slice none 0 0] 31)) (by omega) (by simp))
  have HA := hideK hA
  simp only [tyVal] at cC
  clear hbd hla hkt hA
  rw [hz] at cC
  have Z0 := ZT.new (w.alloc (.cells #[.int .i64 t.kind, .int .i64 t.so, .string t.name, .slice al t.labels.length cl, .slice ak t.kids.length ck] 31))
  rw [show (w.alloc (.cells #[.int .i64 t.kind, .int .i64 t.so, .string t.name, .slice al t.labels.length cl, .slice ak t.kids.length ck] 31)).heap.size = w.heap.size + 1 by simp] at Z0
  have HZ := hideK Z0
  clear Z0 hz
  go_enter Tryz.func62, Tryz.ntmps62
  go_wp2_with fail
  refine cC.mono ?_
  rintro e w3 ⟨rfl, hb3⟩
  have C3 := C0.out.keep hb3 (by simp; omega)
  obtain ⟨x0, x1, x2, x3, x4⟩ := id C3
  simp only [Nat.zero_add] at x1 x2 x3 x4
  have Z3 := HZ.out.keep (FR.of (pb := w.heap.size) hb3) (by omega)
  obtain ⟨zl, z0, z1, z2, z3, z4, y0, y1, y2, y3, y4⟩ := id Z3
  have HB := hideK (HA.out.trans (hb3.mono HA.out.size))
  clear cC hb3
  go_wp2_with fail
  have TA := Z3.st t al cl ak ck
  have B9 := hideK (st5_below (w.heap.size + 1) 0 (.int .i64 t.kind) (.int .i64 t.so) (.string t.name) (.slice al t.labels.length cl) (.slice ak t.kids.length ck) HB.out (by omega))
  change bodyPost _ _ _ _ _ (st5 w3 (w.heap.size + 1) 0 (.int .i64 t.kind) (.int .i64 t.so) (.string t.name) (.slice al t.labels.length cl) (.slice ak t.kids.length ck))
  generalize st5 w3 (w.heap.size + 1) 0 (.int .i64 t.kind) (.int .i64 t.so) (.string t.name) (.slice al t.labels.length cl) (.slice ak t.kids.length ck) = W9 at TA B9 ⊢
  obtain ⟨r0, r1, r2, r3, r4⟩ := TA
  simp only [Nat.zero_add] at r1 r2 r3 r4
  refine bodyPost_ret (v := .agg #[.int .i64 t.kind, .int .i64 t.so, .string t.name, .slice al t.labels.length cl, .slice ak t.kids.length ck]) (by simp [results, Tryz.results62, go_sem, r0, r1, r2, r3, r4]) rfl ?_
  exact ⟨rfl, B9.out⟩
set_option maxRecDepth 100000 in
set_option maxHeartbeats 1000000 in
theorem checked_bad (d : Nat) (t : Ty) (al : Option Addr) (cl : Nat) (ak : Option Addr) (ck : Nat) (w : World) (hbd : TyBd t cl ck) (hla : LA w w.heap.size t.labels al) (hkt : KT w w.heap.size d t.kids ak) (hz : chkTy t ≠ 0) :
    Calls Tryz.prog 62 #[.agg #[.int .i64 t.kind, .int .i64 t.so, .string t.name, .slice al t.labels.length cl, .slice ak t.kids.length ck]] w fun e w' => e = .panicked (faultE (chkTy t) 0) ∧ Below w.heap.size w w' := by
  have hA : Below w.heap.size w ((w.alloc (.cells #[.int .i64 t.kind, .int .i64 t.so, .string t.name, .slice al t.labels.length cl, .slice ak t.kids.length ck] 31)).alloc (.cells #[.int .i64 0, .int .i64 0, .string ⟨#[]⟩, .slice none 0 0, .slice none 0 0] 31)) := ((Below.refl _ _).alloc (Nat.le_refl _) _).alloc (by simp) _
  have cC := typesCheck_any d t al cl ak ck _ hbd (NAt.mono hA.size (NAt.keep hA hla)) (KT.mono hA.size (KT.keep hA hkt))
  have HA := hideK hA
  simp only [tyVal] at cC
  clear hbd hla hkt hA
  have hzb : (chkTy t != 0) = true := by simpa using hz
  unfold faultE
  generalize chkTy t = c at *
  clear hz
  go_enter Tryz.func62, Tryz.ntmps62
  go_wp2_with fail
  refine cC.mono ?_
  rintro e w3 ⟨rfl, hb3⟩
  go_wp2_with fail
  exact ⟨rfl, rfl, HA.out.trans (hb3.mono HA.out.size)⟩
end Go.Proofs.YtefdekfgmbgbbaaGreatDoor

/-
  The contract of what types.Parse hands to pieces.Read.
-/
namespace Go.Proofs.YtefdekfgmbgbbaaGreatDoor
open Go.RowKit Go.Shelf
/-- the type that has been read lies in block tb -/
def InTb (w : World) (tb : Nat) (t : Ty) (w' : World) : Prop := ∃ al cl ak ck, TyAt w' tb 0 t al cl ak ck ∧ GT w w' 2001 t al cl ak ck ∧ ∀ o, o < 5 → w'.frozen? ⟨tb, o, none⟩ = false
set_option maxRecDepth 100000 in
set_option maxHeartbeats 2000000 in
theorem parse1_bad (rb tb q : Nat) (s : ByteArray) (w0 w : World) (hr : RS w rb s q) (hz : ZT w tb) (hne : tb ≠ rb) (h0 : FR tb w0 w) (hw0 : w0.heap.size ≤ rb) {r : List UInt8} (hT : rdT 2001 (rs s q) = .error r) : Calls Tryz.prog 59 #[.pointer (some ⟨rb, 0, none⟩), .pointer (some ⟨tb, 0, none⟩)] w fun e w' =>  e = .panicked (thrown s r) ∧ FR tb w0 w' ∧ ZT w' tb := by
  have hlt : (rs s q).length < 2001 := by rw [rs_len]; have := hr.sz; omega
  go_enter Tryz.func59, Tryz.ntmps59
  go_wp2_with fail
  refine (read_bad (read_all 2001) hT hlt rb q s _ hr rfl).mono ?_
  rintro e w1 ⟨rfl, hf1⟩
  go_wp2_with fail
  exact ⟨rfl, rfl, h0.via hf1 hw0, hz.keep hf1 hne⟩
set_option maxRecDepth 100000 in
set_option maxHeartbeats 2000000 in
theorem parse1_more (rb tb q : Nat) (s : ByteArray) (w0 w : World) (hr : RS w rb s q) (hz : ZT w tb) (hne : tb ≠ rb) (h0 : FR tb w0 w) (hw0 : w0.heap.size ≤ rb) {t : Ty} {r : List UInt8} (hT : rdT 2001 (rs s q) = .ok (t, r)) (hne2 : r ≠ []) : Calls Tryz.prog 59 #[.pointer (some ⟨rb, 0, none⟩), .pointer (some ⟨tb, 0, none⟩)] w fun e w' =>  e = .panicked (thrown s r) ∧ FR tb w0 w' ∧ ZT w' tb := by
  have hlt : (rs s q).length < 2001 := by rw [rs_len]; have := hr.sz; omega
  go_enter Tryz.func59, Tryz.ntmps59
  go_wp2_with fail
  refine (read_ok (read_all 2001) hT hlt rb q s _ hr rfl).mono ?_
  rintro e w1 ⟨⟨al, cl, ak, ck, rfl, hg⟩, ⟨q1, hq1, hl1⟩, hf1⟩
  have F1 := hideK (h0.via hf1 hw0)
  have Z1 := hideK (hz.keep hf1 hne)
  have hrl := hr.lt
  have HG := hideK hg
  have hlt1 := hq1.lt
  clear hg
  go_wp2_with fail
  have cF := finish_any rb q1 s (w1.alloc (.cells #[.int .i64 t.kind, .int .i64 t.so, .string t.name, .slice al t.labels.length cl, .slice ak t.kids.length ck] 31)) (hq1.al _)
  rw [hl1] at cF
  rw [if_neg hne2] at cF
  refine cF.mono ?_
  rintro e w2 ⟨rfl, hb2⟩
  go_wp2_with fail
  exact ⟨rfl, rfl, ((F1.out.via (rb := rb) (FR.al _) hw0).via (FR.of hb2) hw0), (Z1.out.keep (FR.al (pb := rb) _) hne).keep (FR.of (pb := rb) hb2) hne⟩
set_option maxRecDepth 100000 in
set_option maxHeartbeats 2000000 in
theorem parse1_wrong (rb tb q : Nat) (s : ByteArray) (w0 w : World) (hr : RS w rb s q) (hz : ZT w tb) (hne : tb ≠ rb) (h0 : FR tb w0 w) (hw0 : w0.heap.size ≤ rb) {t : Ty} (hT : rdT 2001 (rs s q) = .ok (t, [])) (hc : chkTy t ≠ 0) : Calls Tryz.prog 59 #[.pointer (some ⟨rb, 0, none⟩), .pointer (some ⟨tb, 0, none⟩)] w fun e w' =>  e = .panicked (faultE (chkTy t) 0) ∧ FR tb w0 w' ∧ ZT w' tb := by
  have hlt : (rs s q).length < 2001 := by rw [rs_len]; have := hr.sz; omega
  go_enter Tryz.func59, Tryz.ntmps59
  go_wp2_with fail
  refine (read_ok (read_all 2001) hT hlt rb q s _ hr rfl).mono ?_
  rintro e w1 ⟨⟨al, cl, ak, ck, rfl, hg⟩, ⟨q1, hq1, hl1⟩, hf1⟩
  have F1 := hideK (h0.via hf1 hw0)
  have Z1 := hideK (hz.keep hf1 hne)
  have hrl := hr.lt
  have HG := hideK hg
  have hlt1 := hq1.lt
  clear hg
  go_wp2_with fail
  have cF := finish_any rb q1 s (w1.alloc (.cells #[.int .i64 t.kind, .int .i64 t.so, .string t.name, .slice al t.labels.length cl, .slice ak t.kids.length ck] 31)) (hq1.al _)
  rw [hl1] at cF
  rw [if_pos rfl] at cF
  refine cF.mono ?_
  rintro e w2 ⟨rfl, hb2⟩
  have F2 := hideK ((F1.out.via (rb := rb) (FR.al (.cells #[.int .i64 t.kind, .int .i64 t.so, .string t.name, .slice al t.labels.length cl, .slice ak t.kids.length ck] 31)) hw0).via (FR.of hb2) hw0)
  have Z2 := hideK ((Z1.out.keep (FR.al (pb := rb) (.cells #[.int .i64 t.kind, .int .i64 t.so, .string t.name, .slice al t.labels.length cl, .slice ak t.kids.length ck] 31)) hne).keep (FR.of (pb := rb) hb2) hne)
  have G2 := hideK ((HG.out.keep (FR.al (pb := rb) (.cells #[.int .i64 t.kind, .int .i64 t.so, .string t.name, .slice al t.labels.length cl, .slice ak t.kids.length ck] 31)) hrl).keep (FR.of (pb := rb) hb2) hrl)
  have C2 := (TyAt.lit w1 t al cl ak ck).keep hb2 (by simp)
  obtain ⟨x0, x1, x2, x3, x4⟩ := id C2
  simp only [Nat.zero_add] at x1 x2 x3 x4
  clear cF HG
  go_wp2_with fail
  refine (checked_bad 2001 t al cl ak ck w2 G2.out.bd (G2.out.la.toLA (fun b hb => hb.2)) (G2.out.ka.toKT (fun b hb => hb.2)) hc).mono ?_
  rintro e w3 ⟨rfl, hb3⟩
  go_wp2_with fail
  exact ⟨rfl, rfl, F2.out.via (rb := rb) (FR.of hb3) hw0, Z2.out.keep (FR.of (pb := rb) hb3) hne⟩
set_option maxRecDepth 100000 in
set_option maxHeartbeats 2000000 in
theorem parse1_good (rb tb q : Nat) (s : ByteArray) (w0 w : World) (hr : RS w rb s q) (hz : ZT w tb) (hne : tb ≠ rb) (h0 : FR tb w0 w) (hw0 : w0.heap.size ≤ rb) {t : Ty} (hT : rdT 2001 (rs s q) = .ok (t, [])) (hc : chkTy t = 0) : Calls Tryz.prog 59 #[.pointer (some ⟨rb, 0, none⟩), .pointer (some ⟨tb, 0, none⟩)] w fun e w' =>  e = .returned (.tuple #[]) ∧ InTb w tb t w' ∧ FR tb w0 w' := by
  have hlt : (rs s q).length < 2001 := by rw [rs_len]; have := hr.sz; omega
  go_enter Tryz.func59, Tryz.ntmps59
  go_wp2_with fail
  refine (read_ok (read_all 2001) hT hlt rb q s _ hr rfl).mono ?_
  rintro e w1 ⟨⟨al, cl, ak, ck, rfl, hg⟩, ⟨q1, hq1, hl1⟩, hf1⟩
  have F1 := hideK (h0.via hf1 hw0)
  have Z1 := hideK (hz.keep hf1 hne)
  have hrl := hr.lt
  have HG := hideK hg
  have hlt1 := hq1.lt
  clear hg
  go_wp2_with fail
  have cF := finish_any rb q1 s (w1.alloc (.cells #[.int .i64 t.kind, .int .i64 t.so, .string t.name, .slice al t.labels.length cl, .slice ak t.kids.length ck] 31)) (hq1.al _)
  rw [hl1] at cF
  rw [if_pos rfl] at cF
  refine cF.mono ?_
  rintro e w2 ⟨rfl, hb2⟩
  have F2 := hideK ((F1.out.via (rb := rb) (FR.al (.cells #[.int .i64 t.kind, .int .i64 t.so, .string t.name, .slice al t.labels.length cl, .slice ak t.kids.length ck] 31)) hw0).via (FR.of hb2) hw0)
  have Z2 := hideK ((Z1.out.keep (FR.al (pb := rb) (.cells #[.int .i64 t.kind, .int .i64 t.so, .string t.name, .slice al t.labels.length cl, .slice ak t.kids.length ck] 31)) hne).keep (FR.of (pb := rb) hb2) hne)
  have G2 := hideK ((HG.out.keep (FR.al (pb := rb) (.cells #[.int .i64 t.kind, .int .i64 t.so, .string t.name, .slice al t.labels.length cl, .slice ak t.kids.length ck] 31)) hrl).keep (FR.of (pb := rb) hb2) hrl)
  have C2 := (TyAt.lit w1 t al cl ak ck).keep hb2 (by simp)
  obtain ⟨x0, x1, x2, x3, x4⟩ := id C2
  simp only [Nat.zero_add] at x1 x2 x3 x4
  clear cF HG
  go_wp2_with fail
  refine (checked_ok 2001 t al cl ak ck w2 G2.out.bd (G2.out.la.toLA (fun b hb => hb.2)) (G2.out.ka.toKT (fun b hb => hb.2)) hc).mono ?_
  rintro e w3 ⟨rfl, hb3⟩
  have F3 := hideK (F2.out.via (rb := rb) (FR.of hb3) hw0)
  have Z3 := Z2.out.keep (FR.of (pb := rb) hb3) hne
  have G3 := hideK (G2.out.keep (FR.of (pb := rb) hb3) hrl)
  obtain ⟨zl, z0, z1, z2, z3, z4, y0, y1, y2, y3, y4⟩ := id Z3
  have hzl := hz.lt
  go_wp2_with fail
  have TA := Z3.st t al cl ak ck
  have F9 := F3.out.stb (.int .i64 t.kind) (.int .i64 t.so) (.string t.name) (.slice al t.labels.length cl) (.slice ak t.kids.length ck)
  have G9 := G3.out.st (w := w) hzl (.int .i64 t.kind) (.int .i64 t.so) (.string t.name) (.slice al t.labels.length cl) (.slice ak t.kids.length ck) (Nat.le_refl _)
  go_end0
  refine ⟨rfl, ⟨al, cl, ak, ck, TA, G9, fun o ho => ?_⟩, F9⟩
  change (st5 w3 tb 0 (.int .i64 t.kind) (.int .i64 t.so) (.string t.name) (.slice al t.labels.length cl) (.slice ak t.kids.length ck)).frozen? _ = _
  rw [st5_frozen]
  have : o = 0 ∨ o = 1 ∨ o = 2 ∨ o = 3 ∨ o = 4 := by omega
  rcases this with rfl | rfl | rfl | rfl | rfl
  · exact y0
  · exact y1
  · exact y2
  · exact y3
  · exact y4
/-- what Parse's reading leaves: the type in its block, or what is thrown -/
def P1Post (w : World) (tb : Nat) (x : Except (Int × Nat) Ty) (e : Ending) (w' : World) : Prop :=
  match x with
  | .ok t => e = .returned (.tuple #[]) ∧ InTb w tb t w' ∧ FR tb w w'
  | .error (c, a) => e = .panicked (faultE c (a : Int)) ∧ FR tb w w' ∧ ZT w' tb
theorem InTb.old {w0 w W : World} {tb : Nat} {t : Ty} (h : InTb w tb t W) (hw : w0.heap.size ≤ w.heap.size) : InTb w0 tb t W := by
  obtain ⟨al, cl, ak, ck, h1, h2, h3⟩ := h
  exact ⟨al, cl, ak, ck, h1, h2.old hw, h3⟩
theorem parse1_all (rb tb q : Nat) (s : ByteArray) (w0 w : World) (hr : RS w rb s q) (hz : ZT w tb) (hne : tb ≠ rb) (h0 : FR tb w0 w) (hw0 : w0.heap.size ≤ rb) (hq : rs s q = skB s.data.toList) :
    Calls Tryz.prog 59 #[.pointer (some ⟨rb, 0, none⟩), .pointer (some ⟨tb, 0, none⟩)] w fun e w' => P1Post w0 tb (psT s.data.toList) e w' := by
  have hsz : s.data.toList.length = s.size := by simp
  have h2 := hr.sz
  unfold psT
  rw [if_neg (by rw [hsz]; omega)]
  cases hT : rdT 2001 (skB s.data.toList) with
  | error r =>
    rw [← hq] at hT
    simp only [hsz]
    exact parse1_bad rb tb q s w0 w hr hz hne h0 hw0 hT
  | ok x =>
    obtain ⟨t, r⟩ := x
    rw [← hq] at hT
    simp only [hsz]
    by_cases hr0 : r = []
    · subst hr0
      rw [if_pos rfl]
      by_cases hc : chkTy t = 0
      · rw [if_pos hc]
        exact (parse1_good rb tb q s w0 w hr hz hne h0 hw0 hT hc).mono fun e w' ⟨a, b, c⟩ => ⟨a, b.old h0.size, c⟩
      · rw [if_neg hc]
        exact parse1_wrong rb tb q s w0 w hr hz hne h0 hw0 hT hc
    · rw [if_neg hr0]
      exact parse1_more rb tb q s w0 w hr hz hne h0 hw0 hT hr0
end Go.Proofs.YtefdekfgmbgbbaaGreatDoor
