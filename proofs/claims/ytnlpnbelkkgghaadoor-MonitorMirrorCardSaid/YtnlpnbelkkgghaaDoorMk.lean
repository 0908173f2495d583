/-
  The contract of duetkeep.back.
-/
import Derived.Test.YtnlpnbelkkgghaaDoorUq
import Derived.Test.YtnlpnbelkkgghaaDoorVn
import Derived.Test.YtnlpnbelkkgghaaDoorIh
import Derived.Test.YtnlpnbelkkgghaaDoorMi
namespace Go.Proofs.YtnlpnbelkkgghaaDoor
open Go.RowKit Go.Shelf

/-- what duetkeep.back answers -/
def BOPost (g : List Nd) (w : World) (e : Ending) (w' : World) : Prop :=
  ((60 < (backP g).2.2 ∧ ∃ t al cl ak ck, e = .returned (.tuple #[tyVal t al cl ak ck, .bool false])) ∨ ((backP g).2.2 ≤ 60 ∧ ∃ al cl ak ck d, e = .returned (.tuple #[tyVal (backP g).1 al cl ak ck, .bool true]) ∧ TyBd (backP g).1 cl ck ∧ LA w' w'.heap.size (backP g).1.labels al ∧ KT w' w'.heap.size d (backP g).1.kids ak)) ∧ Below w.heap.size w w'
set_option maxRecDepth 100000 in
set_option maxHeartbeats 8000000 in
theorem backKeep_any (g : List Nd) (hg : GN g) (ag : Option Addr) (cg B : Nat) (w : World) (hga : GAt w B g ag) (hB : B ≤ w.heap.size) :
    Calls Tryd.prog 22 #[.slice ag g.length cg, .int .i64 0] w (BOPost g w) := by
  unfold BOPost
  have hA0 : Below w.heap.size w (w.alloc (.cells #[.int .i64 0, .int .i64 0, .string ⟨#[]⟩, .slice none 0 0, .slice none 0 0] 25)) := (Below.refl _ _).alloc (Nat.le_refl _) _
  have c1 := back_any g hg ag cg B (w.alloc (.cells #[.int .i64 0, .int .i64 0, .string ⟨#[]⟩, .slice none 0 0, .slice none 0 0] 25)) (hga.keep (hA0.mono hB)) (by simp; omega)
  have HR0 := hideK (RBX.new w)
  have HA0 := hideK hA0
  unfold BCPost at c1
  clear hga hA0 hg
  go_enter Tryd.func22, Tryd.ntmps22
  go_wp2_with fail
  refine c1.mono ?_
  rintro e w1 ⟨hor, hb1⟩
  have HR1 := hideK (HR0.out.keep hb1)
  have HB1 := hideK (HA0.out.trans (hb1.mono HA0.out.size))
  clear c1 hb1 HR0 HA0
  rcases hbk : backP g with ⟨bT, bm, bp⟩
  rw [hbk] at hor
  have HBE := hideK hbk
  clear hbk
  simp only at hor
  rcases hor with ⟨hq, rfl⟩ | ⟨hq, al, cl, ak, ck, d, rfl, hbd, hlp, hkp⟩
  · have HQ := hideK (show 60 < (backP g).2.2 from by rw [HBE.out]; exact hq)
    clear hq
    have hA1 : Below w1.heap.size w1 (w1.alloc (.cells #[.int .i64 0, .int .i64 0, .string ⟨#[]⟩, .slice none 0 0, .slice none 0 0] 25)) := (Below.refl _ _).alloc (Nat.le_refl _) _
    have HR2 := hideK (HR1.out.keep hA1)
    have HB2 := hideK (HB1.out.trans (hA1.mono HB1.out.size))
    have HTY := hideK (show TyAt (w1.alloc (.cells #[.int .i64 0, .int .i64 0, .string ⟨#[]⟩, .slice none 0 0, .slice none 0 0] 25)) w1.heap.size 0 zT none 0 none 0 from lit_ty w1 zT none 0 none 0)
    have HSZ := hideK (show (w1.alloc (.cells #[.int .i64 0, .int .i64 0, .string ⟨#[]⟩, .slice none 0 0, .slice none 0 0] 25)).heap.size = w1.heap.size + 1 from by simp)
    go_upto_region 4 with fail
    generalize w1.alloc (.cells #[.int .i64 0, .int .i64 0, .string ⟨#[]⟩, .slice none 0 0, .slice none 0 0] 25) = W5 at *
    obtain ⟨z0, z1, z2, z3, z4, zf, zl⟩ := HR2.out
    have f0 := zf 0
    have f1 := zf 1
    have f2 := zf 2
    have f3 := zf 3
    have f4 := zf 4
    obtain ⟨t0, t1, t2, t3, t4⟩ := HTY.out
    simp only [Nat.zero_add, zT, List.length_nil] at t0 t1 t2 t3 t4
    clear zf
    have HB9 := hideK (st5_below w.heap.size 0 (.int .i64 0) (.int .i64 0) (.string ⟨#[]⟩) (.slice none 0 0) (.slice none 0 0) HB2.out (Nat.le_refl _))
    have HTA := hideK (show TyAt (st5 W5 w.heap.size 0 (.int .i64 0) (.int .i64 0) (.string ⟨#[]⟩) (.slice none 0 0) (.slice none 0 0)) w.heap.size 0 zT none 0 none 0 from st5_at W5 w.heap.size 0 zT none 0 none 0 (fun j hj => by
      rw [Nat.zero_add]
      have : j = 0 ∨ j = 1 ∨ j = 2 ∨ j = 3 ∨ j = 4 := by omega
      rcases this with rfl | rfl | rfl | rfl | rfl
      · exact ⟨_, z0⟩
      · exact ⟨_, z1⟩
      · exact ⟨_, z2⟩
      · exact ⟨_, z3⟩
      · exact ⟨_, z4⟩))
    have HK9 := hideK (show ∀ b o, b ≠ w.heap.size → (st5 W5 w.heap.size 0 (.int .i64 0) (.int .i64 0) (.string ⟨#[]⟩) (.slice none 0 0) (.slice none 0 0)).cell? ⟨b, o, none⟩ = W5.cell? ⟨b, o, none⟩ from fun b o hb => st5_other _ _ _ _ _ _ _ _ _ _ (.inl hb))
    have HS9 := hideK (show (st5 W5 w.heap.size 0 (.int .i64 0) (.int .i64 0) (.string ⟨#[]⟩) (.slice none 0 0) (.slice none 0 0)).heap.size = w1.heap.size + 1 from (st5_size _ _ _ _ _ _ _ _).trans HSZ.out)
    go_wp2_with fail
    change bodyPost _ _ _ _ _ (st5 W5 w.heap.size 0 (.int .i64 0) (.int .i64 0) (.string ⟨#[]⟩) (.slice none 0 0) (.slice none 0 0))
    generalize st5 W5 w.heap.size 0 (.int .i64 0) (.int .i64 0) (.string ⟨#[]⟩) (.slice none 0 0) (.slice none 0 0) = W9 at *
    obtain ⟨r0, r1, r2, r3, r4⟩ := HTA.out
    simp only [Nat.zero_add, zT, List.length_nil] at r0 r1 r2 r3 r4
    refine bodyPost_ret (v := .tuple #[.agg #[.int .i64 0, .int .i64 0, .string ⟨#[]⟩, .slice none 0 0, .slice none 0 0], .bool false]) (by simp [results, Tryd.results22, go_sem, r0, r1, r2, r3, r4]) rfl ?_
    exact ⟨.inl ⟨HQ.out, zT, none, 0, none, 0, rfl⟩, HB9.out⟩
  · have HQ := hideK (show bp ≤ 60 from hq)
    have HBD := hideK hbd
    have HLP := hideK hlp
    have HKP := hideK hkp
    clear hq hbd hlp hkp
    simp only [tyVal]
    have hA1 : Below w1.heap.size w1 (w1.alloc (.cells #[.int .i64 bT.kind, .int .i64 bT.so, .string bT.name, .slice al bT.labels.length cl, .slice ak bT.kids.length ck] 25)) := (Below.refl _ _).alloc (Nat.le_refl _) _
    have HR2 := hideK (HR1.out.keep hA1)
    have HB2 := hideK (HB1.out.trans (hA1.mono HB1.out.size))
    have HTY := hideK (lit_ty w1 bT al cl ak ck)
    have HA1 := hideK (show ∀ b o, b < w1.heap.size → (w1.alloc (.cells #[.int .i64 bT.kind, .int .i64 bT.so, .string bT.name, .slice al bT.labels.length cl, .slice ak bT.kids.length ck] 25)).cell? ⟨b, o, none⟩ = w1.cell? ⟨b, o, none⟩ from fun b o hb => World.cell?_alloc_past _ _ _ hb)
    have HSZ := hideK (show (w1.alloc (.cells #[.int .i64 bT.kind, .int .i64 bT.so, .string bT.name, .slice al bT.labels.length cl, .slice ak bT.kids.length ck] 25)).heap.size = w1.heap.size + 1 from by simp)
    go_upto_region 4 with fail
    generalize w1.alloc (.cells #[.int .i64 bT.kind, .int .i64 bT.so, .string bT.name, .slice al bT.labels.length cl, .slice ak bT.kids.length ck] 25) = W5 at *
    obtain ⟨z0, z1, z2, z3, z4, zf, zl⟩ := HR2.out
    have f0 := zf 0
    have f1 := zf 1
    have f2 := zf 2
    have f3 := zf 3
    have f4 := zf 4
    obtain ⟨t0, t1, t2, t3, t4⟩ := HTY.out
    simp only [Nat.zero_add] at t0 t1 t2 t3 t4
    clear zf
    have HB9 := hideK (st5_below w.heap.size 0 (.int .i64 bT.kind) (.int .i64 bT.so) (.string bT.name) (.slice al bT.labels.length cl) (.slice ak bT.kids.length ck) HB2.out (Nat.le_refl _))
    have HTA := hideK (show TyAt (st5 W5 w.heap.size 0 (.int .i64 bT.kind) (.int .i64 bT.so) (.string bT.name) (.slice al bT.labels.length cl) (.slice ak bT.kids.length ck)) w.heap.size 0 bT al cl ak ck from st5_at W5 w.heap.size 0 bT al cl ak ck (fun j hj => by
      rw [Nat.zero_add]
      have : j = 0 ∨ j = 1 ∨ j = 2 ∨ j = 3 ∨ j = 4 := by omega
      rcases this with rfl | rfl | rfl | rfl | rfl
      · exact ⟨_, z0⟩
      · exact ⟨_, z1⟩
      · exact ⟨_, z2⟩
      · exact ⟨_, z3⟩
      · exact ⟨_, z4⟩))
    have HK9 := hideK (show ∀ b o, b ≠ w.heap.size → (st5 W5 w.heap.size 0 (.int .i64 bT.kind) (.int .i64 bT.so) (.string bT.name) (.slice al bT.labels.length cl) (.slice ak bT.kids.length ck)).cell? ⟨b, o, none⟩ = W5.cell? ⟨b, o, none⟩ from fun b o hb => st5_other _ _ _ _ _ _ _ _ _ _ (.inl hb))
    have HS9 := hideK (show (st5 W5 w.heap.size 0 (.int .i64 bT.kind) (.int .i64 bT.so) (.string bT.name) (.slice al bT.labels.length cl) (.slice ak bT.kids.length ck)).heap.size = w1.heap.size + 1 from (st5_size _ _ _ _ _ _ _ _).trans HSZ.out)
    go_wp2_with fail
    change bodyPost _ _ _ _ _ (st5 W5 w.heap.size 0 (.int .i64 bT.kind) (.int .i64 bT.so) (.string bT.name) (.slice al bT.labels.length cl) (.slice ak bT.kids.length ck))
    generalize st5 W5 w.heap.size 0 (.int .i64 bT.kind) (.int .i64 bT.so) (.string bT.name) (.slice al bT.labels.length cl) (.slice ak bT.kids.length ck) = W9 at *
    obtain ⟨r0, r1, r2, r3, r4⟩ := HTA.out
    simp only [Nat.zero_add] at r0 r1 r2 r3 r4
    refine bodyPost_ret (v := .tuple #[.agg #[.int .i64 bT.kind, .int .i64 bT.so, .string bT.name, .slice al bT.labels.length cl, .slice ak bT.kids.length ck], .bool true]) (by simp [results, Tryd.results22, go_sem, r0, r1, r2, r3, r4]) rfl ?_
    have hs9 := HS9.out
    rw [HBE.out]
    have hne : ∀ b, ((w.alloc (.cells #[.int .i64 0, .int .i64 0, .string ⟨#[]⟩, .slice none 0 0, .slice none 0 0] 25)).heap.size ≤ b ∧ b < w1.heap.size) → b ≠ w.heap.size ∧ b < w1.heap.size := fun b hb => ⟨by have h := hb.1; simp at h; omega, hb.2⟩
    have hk : ∀ b o, ((w.alloc (.cells #[.int .i64 0, .int .i64 0, .string ⟨#[]⟩, .slice none 0 0, .slice none 0 0] 25)).heap.size ≤ b ∧ b < w1.heap.size) → W9.cell? ⟨b, o, none⟩ = w1.cell? ⟨b, o, none⟩ := fun b o hb => (HK9.out b o (hne b hb).1).trans (HA1.out b o hb.2)
    have hlp := HLP.out.keep (W' := W9) (Q := fun b => b < W9.heap.size) hk (fun b hb => by omega)
    have hkp := HKP.out.keep (W' := W9) (Q := fun b => b < W9.heap.size) hk (fun b hb => by omega)
    exact ⟨.inr ⟨HQ.out, al, cl, ak, ck, d, rfl, HBD.out, hlp.la (fun b hb => hb), hkp.kt (fun b hb => hb)⟩, HB9.out⟩
end Go.Proofs.YtnlpnbelkkgghaaDoor
/-
  The contracts of below.Is and below.Why, for every two types.
-/
namespace Go.Proofs.YtnlpnbelkkgghaaDoor
open Go.RowKit Go.Shelf

theorem OFG.uniq {t : Ty} {g h : List Nd} (hg : OFG t g) (hh : OFG t h) : g = h := (hg.same hh).2 rfl
/-- one type is below another one -/
def BT (s t : Ty) : Prop := ∃ g h, OFG s g ∧ OFG t h ∧ ∀ k, bl k g h 0 0
end Go.Proofs.YtnlpnbelkkgghaaDoor

/-
  The law of duetkeep.BelowOrder: whatever types are handed in it answers true.
-/
namespace Go.Proofs.YtnlpnbelkkgghaaDoor
open Go.RowKit Go.Shelf

theorem OFG.bl_refl {s : Ty} {g : List Nd} (h : OFG s g) : BT s s := ⟨g, g, h, h, fun k => Go.Proofs.YtnlpnbelkkgghaaDoor.bl_refl h.gn k h.gn.pos⟩
theorem cls_ex {g : List Nd} (hs : shutG g) : ∃ c, CLS g c := by
  have : ∀ n k c, patG g k c → g.length - cnt c ≤ n → ∃ c, CLS g c := by
    intro n
    induction n with
    | zero =>
      intro k c hp hn
      by_cases he : (splitG g c).1.length = cnt c
      · exact ⟨_, cls_done hs hp he⟩
      · have := cls_more hs hp he; omega
    | succ n ih =>
      intro k c hp hn
      by_cases he : (splitG g c).1.length = cnt c
      · exact ⟨_, cls_done hs hp he⟩
      · have h1 := cls_more hs hp he
        have h2 := (split_inv g c).cn
        exact ih (k + 1) (splitG g c).2 (pat_split hs hp) (by omega)
  exact this _ 0 _ (pat_zero g) (Nat.le_refl _)
theorem OFG_ex {t : Ty} (h : chkTy t = 0) : ∃ g, OFG t g := by
  have hg := lay_gn h
  obtain ⟨c, hc⟩ : ∃ c, CLS (layP t [] 0).2 c := cls_ex hg.shut
  exact ⟨_, ⟨h, c, hc, rfl⟩⟩
theorem end_chk : chkTy endT = 0 := by
  unfold chkTy
  rw [chkT_eq, if_neg (by decide)]
  have hp : partT endT = true := by unfold partT endT; simp
  rw [hp, if_neg (by decide), if_neg (by decide), if_neg (by decide)]
  rfl
theorem end_bd : TyBd endT 0 0 := ⟨by decide, fun l hl => (by cases hl), by decide, by decide, by decide, by decide⟩
/-- three types in boxes -/
structure BX3 (w : World) (s : Ty) (sal : Option Addr) (scl : Nat) (sak : Option Addr) (sck : Nat) (t : Ty) (al : Option Addr) (cl : Nat) (ak : Option Addr) (ck : Nat) (u : Ty) (ual : Option Addr) (ucl : Nat) (uak : Option Addr) (uck : Nat) (W : World) : Prop where
  x : TyAt W w.heap.size 0 s sal scl sak sck
  y : TyAt W (w.heap.size + 1) 0 t al cl ak ck
  z : TyAt W (w.heap.size + 1 + 1) 0 u ual ucl uak uck
  lt : w.heap.size + 1 + 1 < W.heap.size
  bl : Below w.heap.size w W
theorem BX3.keep {w : World} {s : Ty} {sal : Option Addr} {scl : Nat} {sak : Option Addr} {sck : Nat} {t : Ty} {al : Option Addr} {cl : Nat} {ak : Option Addr} {ck : Nat} {u : Ty} {ual : Option Addr} {ucl : Nat} {uak : Option Addr} {uck : Nat} {W W' : World} (h : BX3 w s sal scl sak sck t al cl ak ck u ual ucl uak uck W) (hb : Below W.heap.size W W') : BX3 w s sal scl sak sck t al cl ak ck u ual ucl uak uck W' :=
  ⟨h.x.keep hb (by have := h.lt; omega), h.y.keep hb (by have := h.lt; omega), h.z.keep hb h.lt, Nat.lt_of_lt_of_le h.lt hb.size, h.bl.trans (hb.mono h.bl.size)⟩
theorem BX3.new (w : World) (s : Ty) (sal : Option Addr) (scl : Nat) (sak : Option Addr) (sck : Nat) (t : Ty) (al : Option Addr) (cl : Nat) (ak : Option Addr) (ck : Nat) (u : Ty) (ual : Option Addr) (ucl : Nat) (uak : Option Addr) (uck : Nat) : BX3 w s sal scl sak sck t al cl ak ck u ual ucl uak uck (((w.alloc (.cells #[.int .i64 s.kind, .int .i64 s.so, .string s.name, .slice sal s.labels.length scl, .slice sak s.kids.length sck] 25)).alloc (.cells #[.int .i64 t.kind, .int .i64 t.so, .string t.name, .slice al t.labels.length cl, .slice ak t.kids.length ck] 25)).alloc (.cells #[.int .i64 u.kind, .int .i64 u.so, .string u.name, .slice ual u.labels.length ucl, .slice uak u.kids.length uck] 25)) :=
  ⟨⟨by go_cell, by go_cell, by go_cell, by go_cell, by go_cell⟩, ⟨by go_cell, by go_cell, by go_cell, by go_cell, by go_cell⟩, ⟨by go_cell, by go_cell, by go_cell, by go_cell, by go_cell⟩, by simp, ((((Below.refl _ _).alloc (Nat.le_refl _) _).alloc (by simp) _).alloc (by simp; omega) _)⟩
end Go.Proofs.YtnlpnbelkkgghaaDoor

/-
  The contracts of monitor.New, doer and mayCarry.
-/
namespace Go.Proofs.YtnlpnbelkkgghaaDoor
open Go.RowKit Go.Shelf

/-- what monitor.New answers -/
def NWPost (t : Ty) (w : World) (e : Ending) (w' : World) : Prop :=
  ((chkTy t ≠ 0 ∧ e = .returned (.tuple #[.pointer none, .int .i64 (chkTy t)])) ∨ (∃ g ag cg mb B, OFG t g ∧ e = .returned (.tuple #[.pointer (some ⟨mb, 0, none⟩), .int .i64 0]) ∧ MN mb g.length ag cg 0 0 0 w' ∧ GAt w' B g ag ∧ B ≤ mb ∧ w.heap.size ≤ mb)) ∧ Below w.heap.size w w'
set_option maxRecDepth 100000 in
set_option maxHeartbeats 4000000 in
theorem new_any (d : Nat) (t : Ty) (al : Option Addr) (cl : Nat) (ak : Option Addr) (ck : Nat) (w : World) (hbd : TyBd t cl ck) (hla : LA w w.heap.size t.labels al) (hkt : KT w w.heap.size d t.kids ak) :
    Calls Tryd.prog 24 #[tyVal t al cl ak ck] w (NWPost t w) := by
  unfold NWPost
  have hA : Below w.heap.size w (w.alloc (.cells #[.int .i64 t.kind, .int .i64 t.so, .string t.name, .slice al t.labels.length cl, .slice ak t.kids.length ck] 25)) := (Below.refl _ _).alloc (Nat.le_refl _) _
  have c1 := of_any d t al cl ak ck (w.alloc (.cells #[.int .i64 t.kind, .int .i64 t.so, .string t.name, .slice al t.labels.length cl, .slice ak t.kids.length ck] 25)) hbd ((hla.keep hA).mono hA.size) ((hkt.keep hA).mono hA.size)
  have HA := hideK hA
  unfold OFPost at c1
  simp only [tyVal] at c1 ⊢
  clear hbd hla hkt hA
  go_enter Tryd.func24, Tryd.ntmps24
  go_wp2_with fail
  refine c1.mono ?_
  rintro e w1 ⟨hor, hb1⟩
  have HB1 := hideK (HA.out.trans (hb1.mono HA.out.size))
  clear c1 hb1 HA
  rcases hor with ⟨hz, rfl⟩ | ⟨g, ag, cg, hg, rfl, hga⟩
  · have hzb : (chkTy t != 0) = true := by simpa using hz
    have HZ := hideK hz
    clear hz
    go_wp2_with fail
    go_ret2
    exact ⟨.inl ⟨HZ.out, rfl⟩, HB1.out⟩
  · have HG := hideK hg
    have HM := hideK (show MN w1.heap.size g.length ag cg 0 0 0 (w1.alloc (.cells #[.slice ag g.length cg, .int .i64 0, .int .i64 0, .int .i64 0] 96)) from ⟨by go_cell, by go_cell, by go_cell, by go_cell, fun o => by go_simp, by simp⟩)
    have HGA := hideK (hga.keep ((Below.refl _ _).alloc (Nat.le_refl _) (.cells #[.slice ag g.length cg, .int .i64 0, .int .i64 0, .int .i64 0] 96)))
    have HB2 := hideK (HB1.out.alloc HB1.out.size (.cells #[.slice ag g.length cg, .int .i64 0, .int .i64 0, .int .i64 0] 96))
    have hsz := HB1.out.size
    clear hg hga
    go_wp2_with fail
    go_ret2
    exact ⟨.inr ⟨g, ag, cg, w1.heap.size, w1.heap.size, HG.out, rfl, HM.out, HGA.out, Nat.le_refl _, hsz⟩, HB2.out⟩
/-- who does what is of a kind -/
def doerZ (k : Int) : Int := if k = 2 ∨ k = 4 ∨ k = 6 then 1 else 2
set_option maxRecDepth 100000 in
theorem doer_any (k : Int) (w : World) : Calls Tryd.prog 50 #[.int .i64 k] w fun e w' => e = .returned (.int .i64 (doerZ k)) ∧ Below w.heap.size w w' := by
  unfold doerZ
  by_cases h2 : k = 2
  · subst h2
    rw [if_pos (.inl rfl)]
    go_enter Tryd.func50, Tryd.ntmps50
    go_wp2_with fail
    go_ret
    exact ⟨rfl, Below.refl _ _⟩
  have k2 : (k == 2) = false := by simpa using h2
  by_cases h4 : k = 4
  · subst h4
    rw [if_pos (.inr (.inl rfl))]
    go_enter Tryd.func50, Tryd.ntmps50
    go_wp2_with fail
    go_ret
    exact ⟨rfl, Below.refl _ _⟩
  have k4 : (k == 4) = false := by simpa using h4
  by_cases h6 : k = 6
  · subst h6
    rw [if_pos (.inr (.inr rfl))]
    go_enter Tryd.func50, Tryd.ntmps50
    go_wp2_with fail
    go_ret
    exact ⟨rfl, Below.refl _ _⟩
  have k6 : (k == 6) = false := by simpa using h6
  rw [if_neg (by omega)]
  clear h2 h4 h6
  go_enter Tryd.func50, Tryd.ntmps50
  go_wp2_with fail
  go_ret
  exact ⟨rfl, Below.refl _ _⟩
/-- may a channel of this type be carried there? -/
def mayC (g : List Nd) (j : Nat) (t : Ty) : Prop := ∃ c, OFG t c ∧ ∀ k, bl k c g 0 j
set_option maxRecDepth 100000 in
set_option maxHeartbeats 4000000 in
theorem mayCarry_any (g : List Nd) (hg : GN g) (ag : Option Addr) (cg B mb i j : Nat) (dn bl : Int) (d : Nat) (t : Ty) (al : Option Addr) (cl : Nat) (ak : Option Addr) (ck : Nat) (w : World) (hM : MN mb g.length ag cg i dn bl w) (hga : GAt w B g ag) (hB : B ≤ w.heap.size) (hj : j < g.length) (hbd : TyBd t cl ck) (hla : LA w w.heap.size t.labels al) (hkt : KT w w.heap.size d t.kids ak) :
    Calls Tryd.prog 76 #[.pointer (some ⟨mb, 0, none⟩), .int .i64 (j : Int), tyVal t al cl ak ck] w fun e w' => (∃ b : Bool, e = .returned (.bool b) ∧ (b = true ↔ mayC g j t)) ∧ Below w.heap.size w w' := by
  have hA : Below w.heap.size w (w.alloc (.cells #[.int .i64 t.kind, .int .i64 t.so, .string t.name, .slice al t.labels.length cl, .slice ak t.kids.length ck] 25)) := (Below.refl _ _).alloc (Nat.le_refl _) _
  have c1 := of_any d t al cl ak ck (w.alloc (.cells #[.int .i64 t.kind, .int .i64 t.so, .string t.name, .slice al t.labels.length cl, .slice ak t.kids.length ck] 25)) hbd ((hla.keep hA).mono hA.size) ((hkt.keep hA).mono hA.size)
  have HA := hideK hA
  have HM := hideK (hM.keep hA)
  have HGA := hideK (hga.keep (hA.mono hB))
  unfold OFPost at c1
  simp only [tyVal] at c1 ⊢
  clear hbd hla hkt hA hM hga
  go_enter Tryd.func76, Tryd.ntmps76
  go_wp2_with fail
  generalize w.alloc (.cells #[.int .i64 t.kind, .int .i64 t.so, .string t.name, .slice al t.labels.length cl, .slice ak t.kids.length ck] 25) = W0 at *
  refine c1.mono ?_
  rintro e w1 ⟨hor, hb1⟩
  have HB1 := hideK (HA.out.trans (hb1.mono HA.out.size))
  have hs0 := HA.out.size
  have hs1 := hb1.size
  have HM1 := hideK (HM.out.keep hb1)
  have HG1 := hideK ((HGA.out.keep (hb1.mono (show B ≤ W0.heap.size by omega))).mono (show B ≤ w1.heap.size by omega))
  clear c1 hb1 HA HM HGA
  rcases hor with ⟨hz, rfl⟩ | ⟨c, ac, cc, hc, rfl, hca⟩
  · have hzb : (chkTy t != 0) = true := by simpa using hz
    have HZ := hideK (show ¬ mayC g j t from fun ⟨c, hc, _⟩ => hz hc.chk)
    clear hz
    go_wp2_with fail
    go_ret
    exact ⟨⟨false, rfl, by simp only [Bool.false_eq_true, false_iff]; exact HZ.out⟩, HB1.out⟩
  · have c2 := nodes_any c g ac ag cc cg w1.heap.size 0 j w1 hc.gn hg hca HG1.out (Nat.le_refl _) hc.gn.pos hj
    have HQ := hideK (show belB c g 0 j = true ↔ mayC g j t from (belB_iff hc.gn hg hc.gn.pos hj).trans ⟨fun h => ⟨c, hc, h⟩, fun ⟨c', hc', h⟩ => by rw [hc.uniq hc']; exact h⟩)
    have m0 := HM1.out.c0
    simp only [Int.ofNat_zero] at c2
    generalize belB c g 0 j = q at *
    clear hc hca
    cases q with
    | true =>
      go_wp2_with fail
      refine c2.mono ?_
      rintro e w2 ⟨rfl, hb2⟩
      have HB2 := hideK (HB1.out.trans (hb2.mono HB1.out.size))
      go_wp2_with fail
      go_ret
      exact ⟨⟨true, rfl, by simpa using HQ.out⟩, HB2.out⟩
    | false =>
      go_wp2_with fail
      refine c2.mono ?_
      rintro e w2 ⟨rfl, hb2⟩
      have HB2 := hideK (HB1.out.trans (hb2.mono HB1.out.size))
      go_wp2_with fail
      go_ret
      exact ⟨⟨false, rfl, by simpa using HQ.out⟩, HB2.out⟩
end Go.Proofs.YtnlpnbelkkgghaaDoor
