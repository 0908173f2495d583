/-
  The contracts of exprs.checked and of what exprs.Parse hands to pieces.Read.
-/
import Derived.Test.YtipolobikigmbaaGreatDoorGs
import Derived.Test.YtipolobikigmbaaGreatDoorGj
namespace Go.Proofs.YtipolobikigmbaaGreatDoor
open Go.RowKit Go.Shelf
/-- what an expression's reading comes to, over all of a text: the error and the byte, or the expression -/
def psX (L : List UInt8) : Except (Int × Nat) Ex :=
  if 2000 < L.length then .error (2, 0) else
  match rdX rdZ (2 * L.length + 3) (some 1) (skB L) with
  | .error (c, r) => .error (c, L.length - r.length)
  | .ok (x, r) => if r = [] then (if chkX x = 0 then .ok x else .error (chkX x, 0)) else .error (3, L.length - r.length)
/-- what the readings rest on: the tables, kept beyond block B0 -/
structure TK (Tabs : World → Prop) (B0 : Nat) : Prop where
  v : VSaid vD Tabs
  rv : RVSaid Tabs
  k : ∀ w w', Tabs w → Below w.heap.size w w' → Tabs w'
  k2 : ∀ B w w', B0 ≤ B → Tabs w → Below B w w' → Tabs w'
  b0 : ∀ w, Tabs w → B0 ≤ w.heap.size
theorem TK.f {Tabs : World → Prop} {B0 : Nat} (h : TK Tabs B0) {rb : Nat} (hr : B0 ≤ rb) : ∀ w w', Tabs w → FR rb w w' → Tabs w' := fun w w' hT hf =>
  h.k2 B0 w w' (Nat.le_refl _) hT ⟨hf.os, hf.tape, hf.output, hf.size, fun k hk => hf.block k (Nat.lt_of_lt_of_le hk (h.b0 w hT)) (fun e => by injection e with e; omega)⟩
def faultX (c : Int) (a : Int) : List PanicEntry := [{ v := .iface 30 (.agg #[.int .i64 c, .int .i64 a]), recovered := false }]
theorem FR.viaX {tb rb : Nat} {w0 w w1 : World} (h : FR tb w0 w) (k : FR rb w w1) (hr : w0.heap.size ≤ rb) : FR tb w0 w1 :=
  ⟨k.os.trans h.os, k.tape.trans h.tape, k.output.trans h.output, Nat.le_trans h.size k.size, fun i hi hn => (k.block i (Nat.lt_of_lt_of_le hi h.size) (fun e => by injection e with e; omega)).trans (h.block i hi hn)⟩
theorem FR.st6b {tb : Nat} {w0 W : World} (h : FR tb w0 W) (v0 v1 v2 v3 v4 v5 : Value) : FR tb w0 (Go.Proofs.YtipolobikigmbaaGreatDoor.st6 W tb 0 v0 v1 v2 v3 v4 v5) := by
  unfold Go.Proofs.YtipolobikigmbaaGreatDoor.st6
  exact (((((h.trans (FR.set2 _ _)).trans (FR.set2 _ _)).trans (FR.set2 _ _)).trans (FR.set2 _ _)).trans (FR.set2 _ _)).trans (FR.set2 _ _)
theorem ZE.put {W : World} {b : Nat} (h : ZE W b) (x : Ex) (ao : Option Addr) (cap : Nat) : ExAt (Go.Proofs.YtipolobikigmbaaGreatDoor.st6 W b 0 (.int .i64 x.kind) (.string x.name) (.int .i64 x.so) (.int .i64 x.n) (.string x.s) (.slice ao x.kids.length cap)) b 0 x ao cap := st6_at W b 0 x ao cap h.six
theorem ExAt.keepB {W W' : World} {b o : Nat} {x : Ex} {ao : Option Addr} {cap : Nat} (h : ExAt W b o x ao cap) (hb : Below W.heap.size W W') (hl : b < W.heap.size) : ExAt W' b o x ao cap := h.keepF (FR.of (pb := W.heap.size) hb) (by omega) hl
set_option maxRecDepth 100000 in
set_option maxHeartbeats 2000000 in
theorem checkedX_ok {Tabs : World → Prop} {B0 : Nat} (H : TK Tabs B0) (d : Nat) (x : Ex) (ao : Option Addr) (cap : Nat) (w : World) (hbd : ExBd x cap) (hka : KA w w.heap.size d x.kids ao) (hT : Tabs w) (hz : chkX x = 0) :
    Calls Tryz.prog 34 #[.agg #[.int .i64 x.kind, .string x.name, .int .i64 x.so, .int .i64 x.n, .string x.s, .slice ao x.kids.length cap]] w fun e w' => e = .returned (.agg #[.int .i64 x.kind, .string x.name, .int .i64 x.so, .int .i64 x.n, .string x.s, .slice ao x.kids.length cap]) ∧ Below w.heap.size w w' := by
  have hA : Below w.heap.size w ((w.alloc (.cells #[.int .i64 x.kind, .string x.name, .int .i64 x.so, .int .i64 x.n, .string x.s, .slice ao x.kids.length cap] 39)).alloc (.cells #[.int .i64 0, .string ⟨#[]⟩, .int .i64 0, .int .i64 0, .string ⟨#[]⟩, .slice none 0 0] 39)) := ((Below.refl _ _).alloc (Nat.le_refl _) _).alloc (by simp) _
  have cC := chk_any Tabs B0 H.v H.k H.k2 H.b0 d x ao cap _ hbd (KA.mono hA.size (KA.keep hA hka)) (H.k _ _ hT hA)
  have HA := hideK hA
  simp only [exVal] at cC
  have C0 := hideK ((ExAt.lit w x ao cap).keepF (FR.al (pb := w.heap.size + 1) (.cells #[.int .i64 0, .string ⟨#[]⟩, .int .i64 0, .int .i64 0, .string ⟨#[]⟩, .slice none 0 0] 39)) (by omega) (by simp))
  clear hbd hka hA
  rw [hz] at cC
  have Z0 := ZE.new (w.alloc (.cells #[.int .i64 x.kind, .string x.name, .int .i64 x.so, .int .i64 x.n, .string x.s, .slice ao x.kids.length cap] 39)) 39
  rw [show (w.alloc (.cells #[.int .i64 x.kind, .string x.name, .int .i64 x.so, .int .i64 x.n, .string x.s, .slice ao x.kids.length cap] 39)).heap.size = w.heap.size + 1 by simp] at Z0
  have HZ := hideK Z0
  clear Z0 hz
  go_enter Tryz.func34, Tryz.ntmps34
  go_wp2_with fail
  refine cC.mono ?_
  rintro e w3 ⟨rfl, hb3⟩
  have C3 := C0.out.keepB hb3 (by simp; omega)
  obtain ⟨x0, x1, x2, x3, x4, x5⟩ := id C3
  simp only [Nat.zero_add] at x0 x1 x2 x3 x4 x5
  have Z3 := hideK (HZ.out.keep hb3)
  obtain ⟨zl, z0, z1, z2, z3, z4, z5, zf⟩ := id Z3.out
  have f0 := zf 0
  have f1 := zf 1
  have f2 := zf 2
  have f3 := zf 3
  have f4 := zf 4
  have f5 := zf 5
  clear zf
  have HB := hideK (HA.out.trans (hb3.mono HA.out.size))
  clear cC hb3
  go_wp2_with fail
  have TA := Z3.out.put x ao cap
  have B9 := hideK (st6_below w.heap.size w w3 (w.heap.size + 1) 0 (.int .i64 x.kind) (.string x.name) (.int .i64 x.so) (.int .i64 x.n) (.string x.s) (.slice ao x.kids.length cap) HB.out (by omega))
  change bodyPost _ _ _ _ _ (st6 w3 (w.heap.size + 1) 0 (.int .i64 x.kind) (.string x.name) (.int .i64 x.so) (.int .i64 x.n) (.string x.s) (.slice ao x.kids.length cap))
  generalize st6 w3 (w.heap.size + 1) 0 (.int .i64 x.kind) (.string x.name) (.int .i64 x.so) (.int .i64 x.n) (.string x.s) (.slice ao x.kids.length cap) = W9 at TA B9 ⊢
  obtain ⟨r0, r1, r2, r3, r4, r5⟩ := TA
  simp only [Nat.zero_add] at r0 r1 r2 r3 r4 r5
  refine bodyPost_ret (v := .agg #[.int .i64 x.kind, .string x.name, .int .i64 x.so, .int .i64 x.n, .string x.s, .slice ao x.kids.length cap]) (by simp [results, Tryz.results34, go_sem, r0, r1, r2, r3, r4, r5]) rfl ?_
  exact ⟨rfl, B9.out⟩
set_option maxRecDepth 100000 in
set_option maxHeartbeats 2000000 in
theorem checkedX_bad {Tabs : World → Prop} {B0 : Nat} (H : TK Tabs B0) (d : Nat) (x : Ex) (ao : Option Addr) (cap : Nat) (w : World) (hbd : ExBd x cap) (hka : KA w w.heap.size d x.kids ao) (hT : Tabs w) (hz : chkX x ≠ 0) :
    Calls Tryz.prog 34 #[.agg #[.int .i64 x.kind, .string x.name, .int .i64 x.so, .int .i64 x.n, .string x.s, .slice ao x.kids.length cap]] w fun e w' => e = .panicked (faultX (chkX x) 0) ∧ Below w.heap.size w w' := by
  have hA : Below w.heap.size w ((w.alloc (.cells #[.int .i64 x.kind, .string x.name, .int .i64 x.so, .int .i64 x.n, .string x.s, .slice ao x.kids.length cap] 39)).alloc (.cells #[.int .i64 0, .string ⟨#[]⟩, .int .i64 0, .int .i64 0, .string ⟨#[]⟩, .slice none 0 0] 39)) := ((Below.refl _ _).alloc (Nat.le_refl _) _).alloc (by simp) _
  have cC := chk_any Tabs B0 H.v H.k H.k2 H.b0 d x ao cap _ hbd (KA.mono hA.size (KA.keep hA hka)) (H.k _ _ hT hA)
  have HA := hideK hA
  simp only [exVal] at cC
  clear hbd hka hA
  have hzb : (chkX x != 0) = true := by simpa using hz
  unfold faultX
  generalize chkX x = c at *
  clear hz
  go_enter Tryz.func34, Tryz.ntmps34
  go_wp2_with fail
  refine cC.mono ?_
  rintro e w3 ⟨rfl, hb3⟩
  go_wp2_with fail
  exact ⟨rfl, rfl, HA.out.trans (hb3.mono HA.out.size)⟩
/-- the expression that has been read lies in block tb -/
def InXb (w : World) (tb : Nat) (x : Ex) (w' : World) : Prop := ∃ d ao cap, ExAt w' tb 0 x ao cap ∧ GE w w' d x ao cap ∧ ∀ o, w'.frozen? ⟨tb, o, none⟩ = false
set_option maxRecDepth 100000 in
set_option maxHeartbeats 2000000 in
theorem parseX1_bad {Tabs : World → Prop} {B0 : Nat} (H : TK Tabs B0) (rb tb q : Nat) (s : ByteArray) (w0 w : World) (hT : Tabs w) (hB : B0 ≤ rb) (hr : RS w rb s q) (hz : ZE w tb) (hne : tb ≠ rb) (h0 : FR tb w0 w) (hw0 : w0.heap.size ≤ rb) {N : Nat} (hN : 2 * s.size + 2 < N) {c : Int} {r : List UInt8} (hX : rdX rdZ N (some 1) (rs s q) = .error (c, r)) : Calls Tryz.prog 31 #[.pointer (some ⟨rb, 0, none⟩), .pointer (some ⟨tb, 0, none⟩)] w fun e w' => e = .panicked (thrownC s c r) ∧ FR tb w0 w' ∧ ZE w' tb := by
  have hlt : 2 * (rs s q).length + 2 < N := by rw [rs_len]; omega
  have hE := (reads_all (s := s) (H.f hB) H.rv N).2
  have hFT := H.f hB
  go_enter Tryz.func31, Tryz.ntmps31
  go_wp2_with fail
  refine (expression_bad hE (by decide) (by decide) hX hlt q w hT hr rfl).mono ?_
  rintro e w1 ⟨rfl, hf1⟩
  go_wp2_with fail
  exact ⟨rfl, rfl, h0.viaX hf1 hw0, hz.keepF hf1 hne⟩
set_option maxRecDepth 100000 in
set_option maxHeartbeats 2000000 in
theorem parseX1_more {Tabs : World → Prop} {B0 : Nat} (H : TK Tabs B0) (rb tb q : Nat) (s : ByteArray) (w0 w : World) (hT : Tabs w) (hB : B0 ≤ rb) (hr : RS w rb s q) (hz : ZE w tb) (hne : tb ≠ rb) (h0 : FR tb w0 w) (hw0 : w0.heap.size ≤ rb) {N : Nat} (hN : 2 * s.size + 2 < N) {x : Ex} {r : List UInt8} (hX : rdX rdZ N (some 1) (rs s q) = .ok (x, r)) (hne2 : r ≠ []) : Calls Tryz.prog 31 #[.pointer (some ⟨rb, 0, none⟩), .pointer (some ⟨tb, 0, none⟩)] w fun e w' => e = .panicked (thrownC s 3 r) ∧ FR tb w0 w' ∧ ZE w' tb := by
  have hlt : 2 * (rs s q).length + 2 < N := by rw [rs_len]; omega
  have hE := (reads_all (s := s) (H.f hB) H.rv N).2
  have hFT := H.f hB
  go_enter Tryz.func31, Tryz.ntmps31
  go_wp2_with fail
  refine (expression_ok hE (by decide) (by decide) hX hlt q w hT hr rfl).mono ?_
  rintro e w1 ⟨⟨d, ao, cap, rfl, hg⟩, ⟨q1, hq1, hl1⟩, hf1⟩
  have F1 := hideK (h0.viaX hf1 hw0)
  have Z1 := hideK (hz.keepF hf1 hne)
  have hrl := hr.lt
  have HG := hideK hg
  have hlt1 := hq1.lt
  have T1 := hideK (hFT _ _ (hFT _ _ hT hf1) (FR.al (pb := rb) (.cells #[.int .i64 x.kind, .string x.name, .int .i64 x.so, .int .i64 x.n, .string x.s, .slice ao x.kids.length cap] 39)))
  clear hg
  go_wp2_with fail
  have cF := finish_any rb q1 s (w1.alloc (.cells #[.int .i64 x.kind, .string x.name, .int .i64 x.so, .int .i64 x.n, .string x.s, .slice ao x.kids.length cap] 39)) (hq1.al _)
  rw [hl1] at cF
  rw [if_neg hne2] at cF
  refine cF.mono ?_
  rintro e w2 ⟨rfl, hb2⟩
  go_wp2_with fail
  exact ⟨rfl, rfl, ((F1.out.viaX (rb := rb) (FR.al _) hw0).viaX (FR.of hb2) hw0), (Z1.out.keepF (FR.al (pb := rb) _) hne).keep hb2⟩
set_option maxRecDepth 100000 in
set_option maxHeartbeats 2000000 in
theorem parseX1_wrong {Tabs : World → Prop} {B0 : Nat} (H : TK Tabs B0) (rb tb q : Nat) (s : ByteArray) (w0 w : World) (hT : Tabs w) (hB : B0 ≤ rb) (hr : RS w rb s q) (hz : ZE w tb) (hne : tb ≠ rb) (h0 : FR tb w0 w) (hw0 : w0.heap.size ≤ rb) {N : Nat} (hN : 2 * s.size + 2 < N) {x : Ex} (hX : rdX rdZ N (some 1) (rs s q) = .ok (x, [])) (hc : chkX x ≠ 0) : Calls Tryz.prog 31 #[.pointer (some ⟨rb, 0, none⟩), .pointer (some ⟨tb, 0, none⟩)] w fun e w' => e = .panicked (faultX (chkX x) 0) ∧ FR tb w0 w' ∧ ZE w' tb := by
  have hlt : 2 * (rs s q).length + 2 < N := by rw [rs_len]; omega
  have hE := (reads_all (s := s) (H.f hB) H.rv N).2
  have hFT := H.f hB
  go_enter Tryz.func31, Tryz.ntmps31
  go_wp2_with fail
  refine (expression_ok hE (by decide) (by decide) hX hlt q w hT hr rfl).mono ?_
  rintro e w1 ⟨⟨d, ao, cap, rfl, hg⟩, ⟨q1, hq1, hl1⟩, hf1⟩
  have F1 := hideK (h0.viaX hf1 hw0)
  have Z1 := hideK (hz.keepF hf1 hne)
  have hrl := hr.lt
  have HG := hideK hg
  have hlt1 := hq1.lt
  have T1 := hideK (hFT _ _ (hFT _ _ hT hf1) (FR.al (pb := rb) (.cells #[.int .i64 x.kind, .string x.name, .int .i64 x.so, .int .i64 x.n, .string x.s, .slice ao x.kids.length cap] 39)))
  clear hg
  go_wp2_with fail
  have cF := finish_any rb q1 s (w1.alloc (.cells #[.int .i64 x.kind, .string x.name, .int .i64 x.so, .int .i64 x.n, .string x.s, .slice ao x.kids.length cap] 39)) (hq1.al _)
  rw [hl1] at cF
  rw [if_pos rfl] at cF
  refine cF.mono ?_
  rintro e w2 ⟨rfl, hb2⟩
  have F2 := hideK ((F1.out.viaX (rb := rb) (FR.al (.cells #[.int .i64 x.kind, .string x.name, .int .i64 x.so, .int .i64 x.n, .string x.s, .slice ao x.kids.length cap] 39)) hw0).viaX (FR.of hb2) hw0)
  have Z2 := hideK ((Z1.out.keepF (FR.al (pb := rb) (.cells #[.int .i64 x.kind, .string x.name, .int .i64 x.so, .int .i64 x.n, .string x.s, .slice ao x.kids.length cap] 39)) hne).keep hb2)
  have G2 := hideK ((HG.out.keep (FR.al (pb := rb) (.cells #[.int .i64 x.kind, .string x.name, .int .i64 x.so, .int .i64 x.n, .string x.s, .slice ao x.kids.length cap] 39)) hrl).keep (FR.of (pb := rb) hb2) hrl)
  have T2 := hideK (H.k _ _ T1.out hb2)
  have C2 := (ExAt.lit w1 x ao cap).keepB hb2 (by simp)
  obtain ⟨x0, x1, x2, x3, x4, x5⟩ := id C2
  simp only [Nat.zero_add] at x0 x1 x2 x3 x4 x5
  clear cF HG
  go_wp2_with fail
  refine (checkedX_bad H d x ao cap w2 G2.out.bd G2.out.toKA T2.out hc).mono ?_
  rintro e w3 ⟨rfl, hb3⟩
  go_wp2_with fail
  exact ⟨rfl, rfl, F2.out.viaX (rb := rb) (FR.of hb3) hw0, Z2.out.keep hb3⟩
set_option maxRecDepth 100000 in
set_option maxHeartbeats 2000000 in
theorem parseX1_good {Tabs : World → Prop} {B0 : Nat} (H : TK Tabs B0) (rb tb q : Nat) (s : ByteArray) (w0 w : World) (hT : Tabs w) (hB : B0 ≤ rb) (hr : RS w rb s q) (hz : ZE w tb) (hne : tb ≠ rb) (h0 : FR tb w0 w) (hw0 : w0.heap.size ≤ rb) {N : Nat} (hN : 2 * s.size + 2 < N) {x : Ex} (hX : rdX rdZ N (some 1) (rs s q) = .ok (x, [])) (hc : chkX x = 0) : Calls Tryz.prog 31 #[.pointer (some ⟨rb, 0, none⟩), .pointer (some ⟨tb, 0, none⟩)] w fun e w' => e = .returned (.tuple #[]) ∧ InXb w tb x w' ∧ FR tb w0 w' := by
  have hlt : 2 * (rs s q).length + 2 < N := by rw [rs_len]; omega
  have hE := (reads_all (s := s) (H.f hB) H.rv N).2
  have hFT := H.f hB
  go_enter Tryz.func31, Tryz.ntmps31
  go_wp2_with fail
  refine (expression_ok hE (by decide) (by decide) hX hlt q w hT hr rfl).mono ?_
  rintro e w1 ⟨⟨d, ao, cap, rfl, hg⟩, ⟨q1, hq1, hl1⟩, hf1⟩
  have F1 := hideK (h0.viaX hf1 hw0)
  have Z1 := hideK (hz.keepF hf1 hne)
  have hrl := hr.lt
  have HG := hideK hg
  have hlt1 := hq1.lt
  have T1 := hideK (hFT _ _ (hFT _ _ hT hf1) (FR.al (pb := rb) (.cells #[.int .i64 x.kind, .string x.name, .int .i64 x.so, .int .i64 x.n, .string x.s, .slice ao x.kids.length cap] 39)))
  clear hg
  go_wp2_with fail
  have cF := finish_any rb q1 s (w1.alloc (.cells #[.int .i64 x.kind, .string x.name, .int .i64 x.so, .int .i64 x.n, .string x.s, .slice ao x.kids.length cap] 39)) (hq1.al _)
  rw [hl1] at cF
  rw [if_pos rfl] at cF
  refine cF.mono ?_
  rintro e w2 ⟨rfl, hb2⟩
  have F2 := hideK ((F1.out.viaX (rb := rb) (FR.al (.cells #[.int .i64 x.kind, .string x.name, .int .i64 x.so, .int .i64 x.n, .string x.s, .slice ao x.kids.length cap] 39)) hw0).viaX (FR.of hb2) hw0)
  have Z2 := hideK ((Z1.out.keepF (FR.al (pb := rb) (.cells #[.int .i64 x.kind, .string x.name, .int .i64 x.so, .int .i64 x.n, .string x.s, .slice ao x.kids.length cap] 39)) hne).keep hb2)
  have G2 := hideK ((HG.out.keep (FR.al (pb := rb) (.cells #[.int .i64 x.kind, .string x.name, .int .i64 x.so, .int .i64 x.n, .string x.s, .slice ao x.kids.length cap] 39)) hrl).keep (FR.of (pb := rb) hb2) hrl)
  have T2 := hideK (H.k _ _ T1.out hb2)
  have C2 := (ExAt.lit w1 x ao cap).keepB hb2 (by simp)
  obtain ⟨x0, x1, x2, x3, x4, x5⟩ := id C2
  simp only [Nat.zero_add] at x0 x1 x2 x3 x4 x5
  clear cF HG
  go_wp2_with fail
  refine (checkedX_ok H d x ao cap w2 G2.out.bd G2.out.toKA T2.out hc).mono ?_
  rintro e w3 ⟨rfl, hb3⟩
  have F3 := hideK (F2.out.viaX (rb := rb) (FR.of hb3) hw0)
  have Z3 := hideK (Z2.out.keep hb3)
  have G3 := hideK (G2.out.keep (FR.of (pb := rb) hb3) hrl)
  obtain ⟨zl, z0, z1, z2, z3, z4, z5, zf⟩ := id Z3.out
  have f0 := zf 0
  have f1 := zf 1
  have f2 := zf 2
  have f3 := zf 3
  have f4 := zf 4
  have f5 := zf 5
  have ZF := hideK zf
  clear zf
  have hzl := hz.lt
  go_wp2_with fail
  have TA := Z3.out.put x ao cap
  have F9 := F3.out.st6b (.int .i64 x.kind) (.string x.name) (.int .i64 x.so) (.int .i64 x.n) (.string x.s) (.slice ao x.kids.length cap)
  have G9 := G3.out.st6 (w := w) hzl (Nat.le_refl _) (.int .i64 x.kind) (.string x.name) (.int .i64 x.so) (.int .i64 x.n) (.string x.s) (.slice ao x.kids.length cap)
  go_end0
  refine ⟨rfl, ⟨d, ao, cap, TA, G9, fun o => ?_⟩, F9⟩
  change (st6 w3 tb 0 (.int .i64 x.kind) (.string x.name) (.int .i64 x.so) (.int .i64 x.n) (.string x.s) (.slice ao x.kids.length cap)).frozen? _ = _
  rw [st6_frozen]
  exact ZF.out o
end Go.Proofs.YtipolobikigmbaaGreatDoor
