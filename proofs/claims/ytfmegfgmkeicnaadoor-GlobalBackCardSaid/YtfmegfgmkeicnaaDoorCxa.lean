/-
  The contracts of global.look and of (*checking).isIdle, for every type.
-/
import Derived.Test.YtfmegfgmkeicnaaDoorCxp
import Derived.Test.YtfmegfgmkeicnaaDoorKdi
import Derived.Test.YtfmegfgmkeicnaaDoorBxs
import Derived.Deep.LoopGhost
import Derived.Deep.DeepCutAuto
import Derived.OwnWalk
namespace Go.Proofs.YtfmegfgmkeicnaaDoor
open Go.RowKit Go.Shelf
/-- the block of a check: both functions that it asks, and how many parts have been met -/
structure CKC (W : World) (pb : Nat) (c : Int) : Prop where
  lt : pb < W.heap.size
  c0 : W.cell? ⟨pb, 0, none⟩ = some (.func (.func 51) #[] #[])
  c1 : W.cell? ⟨pb, 1, none⟩ = some (.func (.func 52) #[] #[])
  c2 : W.cell? ⟨pb, 2, none⟩ = some (.int .i64 c)
  f2 : W.frozen? ⟨pb, 2, none⟩ = false
theorem CKC.keep {W W' : World} {pb : Nat} {c : Int} (h : CKC W pb c) (hb : Below W.heap.size W W') : CKC W' pb c :=
  ⟨Nat.lt_of_lt_of_le h.lt hb.size, (hb.cell (p := ⟨pb, 0, none⟩) h.lt).trans h.c0, (hb.cell (p := ⟨pb, 1, none⟩) h.lt).trans h.c1, (hb.cell (p := ⟨pb, 2, none⟩) h.lt).trans h.c2, (World.frozen?_of_block (a := ⟨pb, 2, none⟩) (hb.block pb h.lt)).trans h.f2⟩
/-- a type in a block -/
structure TXC (b : Nat) (t : Cv) (al : Option Addr) (cl : Nat) (ak : Option Addr) (ck : Nat) (w W : World) : Prop where
  ty : CvAt W b 0 t al cl ak ck
  bl : Below w.heap.size w W
theorem TXC.all {b : Nat} {t : Cv} {al : Option Addr} {cl : Nat} {ak : Option Addr} {ck : Nat} {w W : World} (h : TXC b t al cl ak ck w W) :
    W.cell? ⟨b, 0, none⟩ = some (.int .i64 t.kind) ∧ W.cell? ⟨b, 1, none⟩ = some (.string t.fm) ∧ W.cell? ⟨b, 2, none⟩ = some (.string t.tt) ∧ W.cell? ⟨b, 3, none⟩ = some (.int .i64 t.so) ∧ W.cell? ⟨b, 4, none⟩ = some (.string t.name) ∧ W.cell? ⟨b, 5, none⟩ = some (.slice al t.labels.length cl) ∧ W.cell? ⟨b, 6, none⟩ = some (.slice ak t.kids.length ck) := by
  obtain ⟨e0, e1, e2, e3, e4, e5, e6⟩ := h.ty
  simp only [Nat.zero_add] at e1 e2 e3 e4 e5 e6
  exact ⟨e0, e1, e2, e3, e4, e5, e6⟩
section
variable {P : Program} {ops : Array Oper} {S : World → Prop} {R : Act → Prop} {l : List Nat} {o : Oper} {a a' : Act}
theorem qCl {v : Value} (h : SeqS P ops S R l a') (hw : Region.wanted o (yielded ops a.tmps) = true := by rfl) (hy : ∀ w, S w → o.wp P a w (KV v a o.dst S) QF := by intro W hW; obtain ⟨x0, x1, x2, x3, x4, x5, x6⟩ := hW.all; go_simp; exact KV.mk hW) (hn : a.put o.dst v = a' := by simp only [Act.put, uA, uB, uC]; rfl) : StepS P ops S R o l a := fun _ ho => SeqS.one v ho hw hy (hn ▸ h)
end
set_option maxRecDepth 100000 in
theorem lookC_any (t : Cv) (al : Option Addr) (cl : Nat) (ak : Option Addr) (ck : Nat) (w : World) :
    Calls Tryd.prog 52 #[valCv t al cl ak ck] w fun e w' => e = .returned (.tuple #[.int .i64 t.kind, .string t.name, .slice ak t.kids.length ck]) ∧ Below w.heap.size w w' := by
  have HA : Hid (TXC w.heap.size t al cl ak ck w (w.alloc (.cells #[.int .i64 t.kind, .string t.fm, .string t.tt, .int .i64 t.so, .string t.name, .slice al t.labels.length cl, .slice ak t.kids.length ck] 25)).drew) :=
    ⟨⟨by go_cell, by go_cell, by go_cell, by go_cell, by go_cell, by go_cell, by go_cell⟩, ((Below.refl _ _).alloc (Nat.le_refl _) _).drew⟩
  simp only [valCv]
  go_enter Tryd.func52, Tryd.ntmps52
  go_upto_region 1 with fail
  refine region_seq (TXC w.heap.size t al cl ak ck w) [0, 1, 2, 3, 4, 5, 6, 7, 8] (by kernel_rfl) (by kernel_rfl) (by kernel_rfl) HA.out ?_
  repeat (refine qO ?_; first | refine qN ?_ | refine qV ?_ | refine qCl ?_)
  refine SeqS.done ?_
  intro W1 hW1
  have HB1 := hideK hW1.bl
  clear hW1
  go_wp2_with fail
  go_ret3
  exact ⟨rfl, HB1.out⟩
/-- a check's block, and a type in one -/
structure CSC (pb : Nat) (c : Int) (b o : Nat) (t : Cv) (al : Option Addr) (cl : Nat) (ak : Option Addr) (ck : Nat) (w W : World) : Prop where
  cb : CKC W pb c
  ty : CvAt W b o t al cl ak ck
  lt : b < W.heap.size
  bl : Below w.heap.size w W
theorem CSC.keep {pb : Nat} {c : Int} {b o : Nat} {t : Cv} {al : Option Addr} {cl : Nat} {ak : Option Addr} {ck : Nat} {w W W' : World} (h : CSC pb c b o t al cl ak ck w W) (hb : Below W.heap.size W W') : CSC pb c b o t al cl ak ck w W' :=
  ⟨h.cb.keep hb, h.ty.keep hb h.lt, Nat.lt_of_lt_of_le h.lt hb.size, h.bl.trans (hb.mono h.bl.size)⟩
theorem CSC.all {pb : Nat} {c : Int} {b : Nat} {t : Cv} {al : Option Addr} {cl : Nat} {ak : Option Addr} {ck : Nat} {w W : World} (h : CSC pb c b 0 t al cl ak ck w W) :
    W.cell? ⟨pb, 0, none⟩ = some (.func (.func 51) #[] #[]) ∧ W.cell? ⟨pb, 1, none⟩ = some (.func (.func 52) #[] #[]) ∧ W.cell? ⟨pb, 2, none⟩ = some (.int .i64 c) ∧
    W.cell? ⟨b, 0, none⟩ = some (.int .i64 t.kind) ∧ W.cell? ⟨b, 1, none⟩ = some (.string t.fm) ∧ W.cell? ⟨b, 2, none⟩ = some (.string t.tt) ∧ W.cell? ⟨b, 3, none⟩ = some (.int .i64 t.so) ∧ W.cell? ⟨b, 4, none⟩ = some (.string t.name) ∧ W.cell? ⟨b, 5, none⟩ = some (.slice al t.labels.length cl) ∧ W.cell? ⟨b, 6, none⟩ = some (.slice ak t.kids.length ck) := by
  obtain ⟨e0, e1, e2, e3, e4, e5, e6⟩ := h.ty
  simp only [Nat.zero_add] at e1 e2 e3 e4 e5 e6
  exact ⟨h.cb.c0, h.cb.c1, h.cb.c2, e0, e1, e2, e3, e4, e5, e6⟩
theorem CSC.allo {pb : Nat} {c : Int} {b o : Nat} {t : Cv} {al : Option Addr} {cl : Nat} {ak : Option Addr} {ck : Nat} {w W : World} (h : CSC pb c b o t al cl ak ck w W) :
    W.cell? ⟨pb, 0, none⟩ = some (.func (.func 51) #[] #[]) ∧ W.cell? ⟨pb, 1, none⟩ = some (.func (.func 52) #[] #[]) ∧ W.cell? ⟨pb, 2, none⟩ = some (.int .i64 c) ∧
    W.cell? ⟨b, o, none⟩ = some (.int .i64 t.kind) ∧ W.cell? ⟨b, o + 1, none⟩ = some (.string t.fm) ∧ W.cell? ⟨b, o + 2, none⟩ = some (.string t.tt) ∧ W.cell? ⟨b, o + 3, none⟩ = some (.int .i64 t.so) ∧ W.cell? ⟨b, o + 4, none⟩ = some (.string t.name) ∧ W.cell? ⟨b, o + 5, none⟩ = some (.slice al t.labels.length cl) ∧ W.cell? ⟨b, o + 6, none⟩ = some (.slice ak t.kids.length ck) :=
  ⟨h.cb.c0, h.cb.c1, h.cb.c2, h.ty.c0, h.ty.c1, h.ty.c2, h.ty.c3, h.ty.c4, h.ty.c5, h.ty.c6⟩
theorem lookCK (pb : Nat) (c : Int) (b o : Nat) (t : Cv) (al : Option Addr) (cl : Nat) (ak : Option Addr) (ck : Nat) (w : World) (u : Cv) (al2 : Option Addr) (cl2 : Nat) (ak2 : Option Addr) (ck2 : Nat) : ∀ W, CSC pb c b o t al cl ak ck w W → Calls Tryd.prog 52 #[.agg #[.int .i64 u.kind, .string u.fm, .string u.tt, .int .i64 u.so, .string u.name, .slice al2 u.labels.length cl2, .slice ak2 u.kids.length ck2]] W fun e w' => e = .returned (.tuple #[.int .i64 u.kind, .string u.name, .slice ak2 u.kids.length ck2]) ∧ CSC pb c b o t al cl ak ck w w' :=
  fun W hW => (lookC_any u al2 cl2 ak2 ck2 W).mono fun _ _ ⟨h1, h2⟩ => ⟨h1, hW.keep h2⟩
section
variable {P : Program} {ops : Array Oper} {S : World → Prop} {R : Act → Prop} {l : List Nat} {o : Oper} {a a' : Act}
theorem qCk {v : Value} (h : SeqS P ops S R l a') (hw : Region.wanted o (yielded ops a.tmps) = true := by rfl) (hy : ∀ w, S w → o.wp P a w (KV v a o.dst S) QF := by intro W hW; obtain ⟨x0, x1, x2, x3, x4, x5, x6, x7, x8, x9⟩ := hW.all; go_simp; exact KV.mk hW) (hn : a.put o.dst v = a' := by simp only [Act.put, uA, uB, uC]; rfl) : StepS P ops S R o l a := fun _ ho => SeqS.one v ho hw hy (hn ▸ h)
theorem qCo {v : Value} (h : SeqS P ops S R l a') (hw : Region.wanted o (yielded ops a.tmps) = true := by rfl) (hy : ∀ w, S w → o.wp P a w (KV v a o.dst S) QF := by intro W hW; obtain ⟨x0, x1, x2, x3, x4, x5, x6, x7, x8, x9⟩ := hW.allo; go_simp; exact KV.mk hW) (hn : a.put o.dst v = a' := by simp only [Act.put, uA, uB, uC]; rfl) : StepS P ops S R o l a := fun _ ho => SeqS.one v ho hw hy (hn ▸ h)
end
set_option maxRecDepth 100000 in
set_option maxHeartbeats 4000000 in
theorem isIdleC_any (t : Cv) (al : Option Addr) (cl : Nat) (ak : Option Addr) (ck d pb : Nat) (c : Int) (w : World) (hc : CKC w pb c) (hbd : CvBw t) (hkt : KCv w w.heap.size d t.kids ak) :
    Calls Tryd.prog 120 #[.pointer (some ⟨pb, 0, none⟩), valCv t al cl ak ck] w fun e w' => e = .returned (.bool (idleC 65536 t)) ∧ Below w.heap.size w w' := by
  have HC := hideK hc
  have HBD := hideK hbd
  have HKT := hideK hkt
  have HA : Hid (CSC pb c w.heap.size 0 t al cl ak ck w (w.alloc (.cells #[.int .i64 t.kind, .string t.fm, .string t.tt, .int .i64 t.so, .string t.name, .slice al t.labels.length cl, .slice ak t.kids.length ck] 25)).drew) :=
    ⟨hc.keep (((Below.refl _ _).alloc (Nat.le_refl _) _).drew), ⟨by go_cell, by go_cell, by go_cell, by go_cell, by go_cell, by go_cell, by go_cell⟩, by simp, ((Below.refl _ _).alloc (Nat.le_refl _) _).drew⟩
  clear hc hbd hkt
  simp only [valCv]
  go_enter Tryd.func120, Tryd.ntmps120
  go_upto_region 1 with fail
  refine region_seq (CSC pb c w.heap.size 0 t al cl ak ck w) [0, 1, 2, 3, 4, 5, 6, 7, 8, 9, 10, 11, 12] (by kernel_rfl) (by kernel_rfl) (by kernel_rfl) HA.out ?_
  repeat (refine qO ?_; first | refine qN ?_ | refine qV ?_ | refine qCk ?_ | refine qD (lookCK pb c w.heap.size 0 t al cl ak ck w t al cl ak ck) ?_)
  refine SeqS.done ?_
  intro W1 hW1
  have CK1 := hideK hW1.cb
  have HB1 := hideK hW1.bl
  have HK1 := hideK (KCv.keep hW1.bl HKT.out)
  clear hW1 HA HC HKT
  have START : Hid (∃ (n : Nat) (u : Cv) (ak' : Option Addr) (ck' d' : Nat), n ≤ 65536 ∧ Value.int .i64 0 = .int .i64 (n : Int) ∧ Value.int .i64 t.kind = .int .i64 u.kind ∧ Value.slice ak t.kids.length ck = .slice ak' u.kids.length ck' ∧ CKC W1 pb c ∧ Below w.heap.size w W1 ∧ CvBw u ∧ KCv W1 w.heap.size d' u.kids ak' ∧ idleC (65536 - n) u = idleC 65536 t) :=
    ⟨0, t, ak, ck, d, Nat.zero_le _, rfl, rfl, rfl, CK1.out, HB1.out, HBD.out, HK1.out, rfl⟩
  go_wp2_with fail
  go_loopw [18, 5, 7] (fun i k ks wr => ∃ (n : Nat) (u : Cv) (ak' : Option Addr) (ck' d' : Nat), n ≤ 65536 ∧ i = .int .i64 (n : Int) ∧ k = .int .i64 u.kind ∧ ks = .slice ak' u.kids.length ck' ∧ CKC wr pb c ∧ Below w.heap.size w wr ∧ CvBw u ∧ KCv wr w.heap.size d' u.kids ak' ∧ idleC (65536 - n) u = idleC 65536 t) (fun i _ _ _ => 65536 - (intOf i).toNat)
  case atStart => exact START.out
  case round =>
    obtain ⟨n, u, ak', ck', d', hn, rfl, rfl, rfl, hck, hbl, hbd, hkt, hid⟩ := hrel
    clear START CK1 HB1 HK1 HBD
    have HBL := hideK hbl
    by_cases hlt : n < 65536
    · have hltz : (n : Int) < 65536 := by omega
      by_cases h8 : u.kind = 8
      · by_cases h1 : u.kids.length = 1
        · have hgo := idleC_go (65535 - n) u h8 h1
          rw [show 65535 - n + 1 = 65536 - n by omega, hid] at hgo
          have HGO := hideK hgo
          clear hgo hid
          rw [h8, h1]
          obtain ⟨d'', rfl⟩ : ∃ d'', d' = d'' + 1 := by
            cases d' with
            | zero => simp only [KCv] at hkt; rw [hkt] at h1; cases h1
            | succ d'' => exact ⟨d'', rfl⟩
          rcases hkt with hkt | ⟨b, o, rfl, hbB, hkt⟩
          · rw [hkt] at h1; cases h1
          · obtain ⟨al2, cl2, ak2, ck2, ht2, hb2, _, hk2⟩ := hkt 0 (by omega)
            simp only [Nat.zero_mul, Nat.add_zero] at ht2
            generalize hv : u.kids[0] = v at *
            have HB2 := hideK hb2
            have HK2 := hideK hk2
            have hbw := hbl.size
            have HS : Hid (CSC pb c b o v al2 cl2 ak2 ck2 wr wr.drew) := ⟨hck.keep (Below.refl _ _).drew, ht2.keep (Below.refl wr.heap.size wr).drew (by omega), by simp; omega, (Below.refl _ _).drew⟩
            clear hkt ht2 hb2 hk2 hv hck hbl hbd h8 h1
            go_upto_region 5 with fail
            refine region_seq (CSC pb c b o v al2 cl2 ak2 ck2 wr) [0, 1, 2, 3, 4, 5, 6, 7, 8, 9, 10, 11, 12, 13] (by kernel_rfl) (by kernel_rfl) (by kernel_rfl) HS.out ?_
            repeat (refine qO ?_; first | refine qN ?_ | refine qV ?_ | refine qCo ?_ | refine qD (lookCK pb c b o v al2 cl2 ak2 ck2 wr v al2 cl2 ak2 ck2) ?_)
            refine SeqS.done ?_
            intro W2 hW2
            have HW2 := hideK hW2
            clear hW2
            go_wp2_with fail
            go_roundw
            case rel => exact ⟨n + 1, v, ak2, ck2, d'', by omega, by go_num, rfl, rfl, HW2.out.cb, HBL.out.trans (HW2.out.bl.mono HBL.out.size), HB2.out.w, KCv.keep (HW2.out.bl.mono HBL.out.size) HK2.out, by rw [HGO.out]; congr 1; omega⟩
            case measure => simp [intOf]; omega
        · have hx := idleC_odd (65536 - n) u h8 h1
          rw [hid] at hx
          have HX := hideK hx
          have kz : ((u.kids.length : Int) != 1) = true := by simp; omega
          rw [h8]
          clear hx hid hkt hbl h1 hbd hck
          go_wp2_with fail
          go_ret
          exact ⟨by rw [HX.out]; rfl, HBL.out⟩
      · have hx := idleC_stop (65536 - n) u h8
        rw [hid] at hx
        have HX := hideK hx
        have kz : (u.kind != 8) = true := by simpa using h8
        clear hx hid hkt hbl hbd hck
        cases h9 : (u.kind == 9)
        all_goals
          have HN := hideK h9
          go_wp2_with fail
          go_ret
          exact ⟨by rw [HX.out, show decide (u.kind = 9) = (u.kind == 9) from rfl, HN.out]; rfl, HBL.out⟩
    · have hltz : ¬ (n : Int) < 65536 := by omega
      obtain rfl : n = 65536 := by omega
      have hx : idleC 65536 t = decide (u.kind = 9) := by rw [← hid]; rfl
      have HX := hideK hx
      clear hx hid hkt hbl hbd hck
      cases h9 : (u.kind == 9)
      all_goals
        have HN := hideK h9
        go_wp2_with fail
        go_ret
        exact ⟨by rw [HX.out, show decide (u.kind = 9) = (u.kind == 9) from rfl, HN.out]; rfl, HBL.out⟩
end Go.Proofs.YtfmegfgmkeicnaaDoor
