/-
  The contracts of graph.Same and below.graphsOf, for every two types.
-/
import Derived.Test.YtoieacgojkgjgaaDoorIg
namespace Go.Proofs.YtoieacgojkgjgaaDoor
open Go.RowKit Go.Shelf

def SMPost (s t : Ty) (w : World) (e : Ending) (w' : World) : Prop :=
  ((chkTy s ≠ 0 ∧ e = .returned (.tuple #[.bool false, .int .i64 (chkTy s)])) ∨ (chkTy s = 0 ∧ chkTy t ≠ 0 ∧ e = .returned (.tuple #[.bool false, .int .i64 (chkTy t)])) ∨
    (chkTy s = 0 ∧ chkTy t = 0 ∧ ∃ b : Bool, e = .returned (.tuple #[.bool b, .int .i64 0]) ∧ (b = true ↔ den s e0 = den t e0))) ∧ Below w.heap.size w w'
set_option maxRecDepth 100000 in
set_option maxHeartbeats 4000000 in
theorem same_any (ds dt : Nat) (s t : Ty) (sal : Option Addr) (scl : Nat) (sak : Option Addr) (sck : Nat) (al : Option Addr) (cl : Nat) (ak : Option Addr) (ck : Nat) (w : World) (hs1 : TyBd s scl sck) (hs2 : LA w w.heap.size s.labels sal) (hs3 : KT w w.heap.size ds s.kids sak) (ht1 : TyBd t cl ck) (ht2 : LA w w.heap.size t.labels al) (ht3 : KT w w.heap.size dt t.kids ak) :
    Calls Tryd.prog 11 #[tyVal s sal scl sak sck, tyVal t al cl ak ck] w (SMPost s t w) := by
  unfold SMPost
  have hA : Below w.heap.size w ((w.alloc (.cells #[.int .i64 s.kind, .int .i64 s.so, .string s.name, .slice sal s.labels.length scl, .slice sak s.kids.length sck] 25)).alloc (.cells #[.int .i64 t.kind, .int .i64 t.so, .string t.name, .slice al t.labels.length cl, .slice ak t.kids.length ck] 25)) := ((Below.refl _ _).alloc (Nat.le_refl _) _).alloc (by simp) _
  have hsz : ((w.alloc (.cells #[.int .i64 s.kind, .int .i64 s.so, .string s.name, .slice sal s.labels.length scl, .slice sak s.kids.length sck] 25)).alloc (.cells #[.int .i64 t.kind, .int .i64 t.so, .string t.name, .slice al t.labels.length cl, .slice ak t.kids.length ck] 25)).heap.size = w.heap.size + 1 + 1 := by simp
  have bs : TyAt ((w.alloc (.cells #[.int .i64 s.kind, .int .i64 s.so, .string s.name, .slice sal s.labels.length scl, .slice sak s.kids.length sck] 25)).alloc (.cells #[.int .i64 t.kind, .int .i64 t.so, .string t.name, .slice al t.labels.length cl, .slice ak t.kids.length ck] 25)) w.heap.size 0 s sal scl sak sck := ⟨by go_cell, by go_cell, by go_cell, by go_cell, by go_cell⟩
  have bt : TyAt ((w.alloc (.cells #[.int .i64 s.kind, .int .i64 s.so, .string s.name, .slice sal s.labels.length scl, .slice sak s.kids.length sck] 25)).alloc (.cells #[.int .i64 t.kind, .int .i64 t.so, .string t.name, .slice al t.labels.length cl, .slice ak t.kids.length ck] 25)) (w.heap.size + 1) 0 t al cl ak ck := ⟨by go_cell, by go_cell, by go_cell, by go_cell, by go_cell⟩
  have CS := hideK (fun (W : World) (hb : Below w.heap.size w W) => of_any ds s sal scl sak sck W hs1 ((hs2.keep hb).mono hb.size) ((hs3.keep hb).mono hb.size))
  have CT := hideK (fun (W : World) (hb : Below w.heap.size w W) => of_any dt t al cl ak ck W ht1 ((ht2.keep hb).mono hb.size) ((ht3.keep hb).mono hb.size))
  have HA := hideK hA
  have HBS := hideK bs
  have HBT := hideK bt
  have HSZ := hideK hsz
  simp only [tyVal] at CS CT ⊢
  unfold OFPost at CS CT
  clear hs1 hs2 hs3 ht1 ht2 ht3 hA hsz
  obtain ⟨y0, y1, y2, y3, y4⟩ := bt
  obtain ⟨x0, x1, x2, x3, x4⟩ := bs
  simp only [Nat.zero_add] at x1 x2 x3 x4 y1 y2 y3 y4
  go_enter Tryd.func11, Tryd.ntmps11
  go_wp2_with fail
  refine (CS.out _ HA.out).mono ?_
  rintro e w1 ⟨hor, hb1⟩
  have HB1 := hideK (HA.out.trans (hb1.mono (by rw [HSZ.out]; omega)))
  have bt1 := HBT.out.keep hb1 (by rw [HSZ.out]; omega)
  obtain ⟨z0, z1, z2, z3, z4⟩ := bt1
  simp only [Nat.zero_add] at z1 z2 z3 z4
  clear x0 x1 x2 x3 x4 y0 y1 y2 y3 y4 hb1 CS
  rcases hor with ⟨hz, rfl⟩ | ⟨g, ag, cg, hof, rfl, hga⟩
  · have hzb : (chkTy s != 0) = true := by simpa using hz
    have HZ := hideK hz
    clear hz
    go_wp2_with fail
    go_ret2
    exact ⟨.inl ⟨HZ.out, rfl⟩, HB1.out⟩
  · have HOF := hideK hof
    have HGA := hideK hga
    clear hof hga
    go_wp2_with fail
    refine (CT.out _ HB1.out).mono ?_
    rintro e w2 ⟨hor, hb2⟩
    have HB2 := hideK (HB1.out.trans (hb2.mono HB1.out.size))
    have HGA2 := hideK (HGA.out.keep hb2)
    have HLE := hideK hb2.size
    clear z0 z1 z2 z3 z4 CT hb2
    rcases hor with ⟨hz, rfl⟩ | ⟨h, ah, ch, hof, rfl, hha⟩
    · have hzb : (chkTy t != 0) = true := by simpa using hz
      have HZ := hideK hz
      clear hz
      go_wp2_with fail
      go_ret2
      exact ⟨.inr (.inl ⟨HOF.out.chk, HZ.out, rfl⟩), HB2.out⟩
    · have HOF2 := hideK hof
      have HHA := hideK hha
      clear hof hha
      have GE := hideK (graphEqual_any g h ag ah cg ch w2.heap.size w2 (HGA2.out.mono HLE.out) HHA.out (Nat.le_refl _) (by have := HOF.out.le; omega) (by have := HOF2.out.le; omega) (fun n hn => by have := shp_len (okN_shp (HOF.out.gn.ok n hn)); omega) (fun n hn => by have := shp_len (okN_shp (HOF2.out.gn.ok n hn)); omega))
      have HEQ := hideK ((eqG_iff g h).trans (HOF.out.same HOF2.out))
      generalize eqG g h = q at *
      go_wp2_with fail
      refine GE.out.mono ?_
      rintro e w3 ⟨rfl, hb3⟩
      have HB3 := hideK (HB2.out.trans (hb3.mono HB2.out.size))
      clear hb3 GE
      go_wp2_with fail
      go_ret2
      exact ⟨.inr (.inr ⟨HOF.out.chk, HOF2.out.chk, q, rfl, HEQ.out⟩), HB3.out⟩
def GOPost (s t : Ty) (w : World) (e : Ending) (w' : World) : Prop :=
  ((chkTy s ≠ 0 ∧ e = .returned (.tuple #[.slice none 0 0, .slice none 0 0, .int .i64 (chkTy s)])) ∨ (chkTy s = 0 ∧ chkTy t ≠ 0 ∧ e = .returned (.tuple #[.slice none 0 0, .slice none 0 0, .int .i64 (chkTy t)])) ∨
    (∃ g h ag ah cg ch, OFG s g ∧ OFG t h ∧ e = .returned (.tuple #[.slice ag g.length cg, .slice ah h.length ch, .int .i64 0]) ∧ GAt w' w'.heap.size g ag ∧ GAt w' w'.heap.size h ah)) ∧ Below w.heap.size w w'
set_option maxRecDepth 100000 in
set_option maxHeartbeats 4000000 in
theorem graphsOf_any (ds dt : Nat) (s t : Ty) (sal : Option Addr) (scl : Nat) (sak : Option Addr) (sck : Nat) (al : Option Addr) (cl : Nat) (ak : Option Addr) (ck : Nat) (w : World) (hs1 : TyBd s scl sck) (hs2 : LA w w.heap.size s.labels sal) (hs3 : KT w w.heap.size ds s.kids sak) (ht1 : TyBd t cl ck) (ht2 : LA w w.heap.size t.labels al) (ht3 : KT w w.heap.size dt t.kids ak) :
    Calls Tryd.prog 37 #[tyVal s sal scl sak sck, tyVal t al cl ak ck] w (GOPost s t w) := by
  unfold GOPost
  have hA : Below w.heap.size w ((w.alloc (.cells #[.int .i64 s.kind, .int .i64 s.so, .string s.name, .slice sal s.labels.length scl, .slice sak s.kids.length sck] 25)).alloc (.cells #[.int .i64 t.kind, .int .i64 t.so, .string t.name, .slice al t.labels.length cl, .slice ak t.kids.length ck] 25)) := ((Below.refl _ _).alloc (Nat.le_refl _) _).alloc (by simp) _
  have hsz : ((w.alloc (.cells #[.int .i64 s.kind, .int .i64 s.so, .string s.name, .slice sal s.labels.length scl, .slice sak s.kids.length sck] 25)).alloc (.cells #[.int .i64 t.kind, .int .i64 t.so, .string t.name, .slice al t.labels.length cl, .slice ak t.kids.length ck] 25)).heap.size = w.heap.size + 1 + 1 := by simp
  have bs : TyAt ((w.alloc (.cells #[.int .i64 s.kind, .int .i64 s.so, .string s.name, .slice sal s.labels.length scl, .slice sak s.kids.length sck] 25)).alloc (.cells #[.int .i64 t.kind, .int .i64 t.so, .string t.name, .slice al t.labels.length cl, .slice ak t.kids.length ck] 25)) w.heap.size 0 s sal scl sak sck := ⟨by go_cell, by go_cell, by go_cell, by go_cell, by go_cell⟩
  have bt : TyAt ((w.alloc (.cells #[.int .i64 s.kind, .int .i64 s.so, .string s.name, .slice sal s.labels.length scl, .slice sak s.kids.length sck] 25)).alloc (.cells #[.int .i64 t.kind, .int .i64 t.so, .string t.name, .slice al t.labels.length cl, .slice ak t.kids.length ck] 25)) (w.heap.size + 1) 0 t al cl ak ck := ⟨by go_cell, by go_cell, by go_cell, by go_cell, by go_cell⟩
  have CS := hideK (fun (W : World) (hb : Below w.heap.size w W) => of_any ds s sal scl sak sck W hs1 ((hs2.keep hb).mono hb.size) ((hs3.keep hb).mono hb.size))
  have CT := hideK (fun (W : World) (hb : Below w.heap.size w W) => of_any dt t al cl ak ck W ht1 ((ht2.keep hb).mono hb.size) ((ht3.keep hb).mono hb.size))
  have HA := hideK hA
  have HBS := hideK bs
  have HBT := hideK bt
  have HSZ := hideK hsz
  simp only [tyVal] at CS CT ⊢
  unfold OFPost at CS CT
  clear hs1 hs2 hs3 ht1 ht2 ht3 hA hsz
  obtain ⟨y0, y1, y2, y3, y4⟩ := bt
  obtain ⟨x0, x1, x2, x3, x4⟩ := bs
  simp only [Nat.zero_add] at x1 x2 x3 x4 y1 y2 y3 y4
  go_enter Tryd.func37, Tryd.ntmps37
  go_wp2_with fail
  refine (CS.out _ HA.out).mono ?_
  rintro e w1 ⟨hor, hb1⟩
  have HB1 := hideK (HA.out.trans (hb1.mono (by rw [HSZ.out]; omega)))
  have bt1 := HBT.out.keep hb1 (by rw [HSZ.out]; omega)
  obtain ⟨z0, z1, z2, z3, z4⟩ := bt1
  simp only [Nat.zero_add] at z1 z2 z3 z4
  clear x0 x1 x2 x3 x4 y0 y1 y2 y3 y4 hb1 CS
  rcases hor with ⟨hz, rfl⟩ | ⟨g, ag, cg, hof, rfl, hga⟩
  · have hzb : (chkTy s != 0) = true := by simpa using hz
    have HZ := hideK hz
    clear hz
    go_wp2_with fail
    go_ret3
    exact ⟨.inl ⟨HZ.out, rfl⟩, HB1.out⟩
  · have HOF := hideK hof
    have HGA := hideK hga
    clear hof hga
    go_wp2_with fail
    refine (CT.out _ HB1.out).mono ?_
    rintro e w2 ⟨hor, hb2⟩
    have HB2 := hideK (HB1.out.trans (hb2.mono HB1.out.size))
    have HGA2 := hideK (HGA.out.keep hb2)
    have HLE := hideK hb2.size
    clear z0 z1 z2 z3 z4 CT hb2
    rcases hor with ⟨hz, rfl⟩ | ⟨h, ah, ch, hof, rfl, hha⟩
    · have hzb : (chkTy t != 0) = true := by simpa using hz
      have HZ := hideK hz
      clear hz
      go_wp2_with fail
      go_ret3
      exact ⟨.inr (.inl ⟨HOF.out.chk, HZ.out, rfl⟩), HB2.out⟩
    · have HOF2 := hideK hof
      have HHA := hideK hha
      clear hof hha
      go_wp2_with fail
      go_ret3
      exact ⟨.inr (.inr ⟨g, h, ag, ah, cg, ch, HOF.out, HOF2.out, rfl, HGA2.out.mono HLE.out, HHA.out⟩), HB2.out⟩
end Go.Proofs.YtoieacgojkgjgaaDoor
