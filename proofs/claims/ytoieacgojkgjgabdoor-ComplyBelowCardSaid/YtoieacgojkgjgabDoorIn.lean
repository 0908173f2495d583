/-
  The contracts of below.Is and below.Why, for every two types.
-/
import Derived.Test.YtoieacgojkgjgabDoorVn
import Derived.Test.YtoieacgojkgjgabDoorIh
namespace Go.Proofs.YtoieacgojkgjgabDoor
open Go.RowKit Go.Shelf

theorem OFG.uniq {t : Ty} {g h : List Nd} (hg : OFG t g) (hh : OFG t h) : g = h := (hg.same hh).2 rfl
/-- one type is below another one -/
def BT (s t : Ty) : Prop := ∃ g h, OFG s g ∧ OFG t h ∧ ∀ k, bl k g h 0 0
theorem BT_iff {s t : Ty} {g h : List Nd} (hg : OFG s g) (hh : OFG t h) : BT s t ↔ ∀ k, bl k g h 0 0 := by
  constructor
  · rintro ⟨g', h', hg', hh', hb⟩
    rw [hg.uniq hg', hh.uniq hh']; exact hb
  · intro hb; exact ⟨g, h, hg, hh, hb⟩
def ISPost (s t : Ty) (w : World) (e : Ending) (w' : World) : Prop :=
  ((chkTy s ≠ 0 ∧ e = .returned (.tuple #[.bool false, .int .i64 (chkTy s)])) ∨ (chkTy s = 0 ∧ chkTy t ≠ 0 ∧ e = .returned (.tuple #[.bool false, .int .i64 (chkTy t)])) ∨
    (∃ g h, OFG s g ∧ OFG t h ∧ ∃ b : Bool, e = .returned (.tuple #[.bool b, .int .i64 0]) ∧ (b = true ↔ BT s t))) ∧ Below w.heap.size w w'
set_option maxRecDepth 100000 in
set_option maxHeartbeats 4000000 in
theorem is_any (ds dt : Nat) (s t : Ty) (sal : Option Addr) (scl : Nat) (sak : Option Addr) (sck : Nat) (al : Option Addr) (cl : Nat) (ak : Option Addr) (ck : Nat) (w : World) (hs1 : TyBd s scl sck) (hs2 : LA w w.heap.size s.labels sal) (hs3 : KT w w.heap.size ds s.kids sak) (ht1 : TyBd t cl ck) (ht2 : LA w w.heap.size t.labels al) (ht3 : KT w w.heap.size dt t.kids ak) :
    Calls Tryd.prog 9 #[tyVal s sal scl sak sck, tyVal t al cl ak ck] w (ISPost s t w) := by
  unfold ISPost
  have hA : Below w.heap.size w ((w.alloc (.cells #[.int .i64 s.kind, .int .i64 s.so, .string s.name, .slice sal s.labels.length scl, .slice sak s.kids.length sck] 25)).alloc (.cells #[.int .i64 t.kind, .int .i64 t.so, .string t.name, .slice al t.labels.length cl, .slice ak t.kids.length ck] 25)) := ((Below.refl _ _).alloc (Nat.le_refl _) _).alloc (by simp) _
  have hsz : ((w.alloc (.cells #[.int .i64 s.kind, .int .i64 s.so, .string s.name, .slice sal s.labels.length scl, .slice sak s.kids.length sck] 25)).alloc (.cells #[.int .i64 t.kind, .int .i64 t.so, .string t.name, .slice al t.labels.length cl, .slice ak t.kids.length ck] 25)).heap.size = w.heap.size + 1 + 1 := by simp
  have bs : TyAt ((w.alloc (.cells #[.int .i64 s.kind, .int .i64 s.so, .string s.name, .slice sal s.labels.length scl, .slice sak s.kids.length sck] 25)).alloc (.cells #[.int .i64 t.kind, .int .i64 t.so, .string t.name, .slice al t.labels.length cl, .slice ak t.kids.length ck] 25)) w.heap.size 0 s sal scl sak sck := ⟨by go_cell, by go_cell, by go_cell, by go_cell, by go_cell⟩
  have bt : TyAt ((w.alloc (.cells #[.int .i64 s.kind, .int .i64 s.so, .string s.name, .slice sal s.labels.length scl, .slice sak s.kids.length sck] 25)).alloc (.cells #[.int .i64 t.kind, .int .i64 t.so, .string t.name, .slice al t.labels.length cl, .slice ak t.kids.length ck] 25)) (w.heap.size + 1) 0 t al cl ak ck := ⟨by go_cell, by go_cell, by go_cell, by go_cell, by go_cell⟩
  have cG := graphsOf_any ds dt s t sal scl sak sck al cl ak ck ((w.alloc (.cells #[.int .i64 s.kind, .int .i64 s.so, .string s.name, .slice sal s.labels.length scl, .slice sak s.kids.length sck] 25)).alloc (.cells #[.int .i64 t.kind, .int .i64 t.so, .string t.name, .slice al t.labels.length cl, .slice ak t.kids.length ck] 25)) hs1 ((hs2.keep hA).mono hA.size) ((hs3.keep hA).mono hA.size) ht1 ((ht2.keep hA).mono hA.size) ((ht3.keep hA).mono hA.size)
  have HA := hideK hA
  simp only [tyVal] at cG ⊢
  unfold GOPost at cG
  obtain ⟨y0, y1, y2, y3, y4⟩ := bt
  obtain ⟨x0, x1, x2, x3, x4⟩ := bs
  simp only [Nat.zero_add] at x1 x2 x3 x4 y1 y2 y3 y4
  clear hs1 hs2 hs3 ht1 ht2 ht3 hA hsz
  go_enter Tryd.func9, Tryd.ntmps9
  go_wp2_with fail
  refine cG.mono ?_
  rintro e w1 ⟨hor, hb1⟩
  have HB1 := hideK (HA.out.trans (hb1.mono HA.out.size))
  clear x0 x1 x2 x3 x4 y0 y1 y2 y3 y4 hb1 cG
  rcases hor with ⟨hz, rfl⟩ | ⟨hz0, hz, rfl⟩ | ⟨g, h, ag, ah, cg, ch, hof, hof2, rfl, hga, hha⟩
  · have hzb : (chkTy s != 0) = true := by simpa using hz
    have HZ := hideK hz
    clear hz
    go_wp2_with fail
    go_ret2
    exact ⟨.inl ⟨HZ.out, rfl⟩, HB1.out⟩
  · have hzb : (chkTy t != 0) = true := by simpa using hz
    have HZ := hideK hz
    have HZ0 := hideK hz0
    clear hz hz0
    go_wp2_with fail
    go_ret2
    exact ⟨.inr (.inl ⟨HZ0.out, HZ.out, rfl⟩), HB1.out⟩
  · have cF := firstFailing_any g h ag ah cg ch w1.heap.size 0 0 w1 hof.gn hof2.gn hga hha (Nat.le_refl _) hof.gn.pos hof2.gn.pos
    unfold FFPost at cF
    simp only [Int.ofNat_zero] at cF
    have HOF := hideK hof
    have HOF2 := hideK hof2
    clear hof hof2 hga hha
    go_wp2_with fail
    refine cF.mono ?_
    rintro e w2 ⟨hor, hb2⟩
    have HB2 := hideK (HB1.out.trans (hb2.mono HB1.out.size))
    clear hb2 cF
    rcases hor with ⟨arr, hsr, rfl⟩ | ⟨k, arr, hsr, aw, cw, rfl, hla⟩
    · have HSR := hideK hsr
      clear hsr
      go_wp2_with fail
      go_ret2
      exact ⟨.inr (.inr ⟨g, h, HOF.out, HOF2.out, true, rfl, by simp only [true_iff]; rw [BT_iff HOF.out HOF2.out, ← srB_bl HOF.out.gn HOF2.out.gn HOF.out.gn.pos HOF2.out.gn.pos, HSR.out]⟩), HB2.out⟩
    · have HSR := hideK hsr
      clear hsr hla
      go_wp2_with fail
      go_ret2
      exact ⟨.inr (.inr ⟨g, h, HOF.out, HOF2.out, false, rfl, by rw [BT_iff HOF.out HOF2.out, ← srB_bl HOF.out.gn HOF2.out.gn HOF.out.gn.pos HOF2.out.gn.pos, HSR.out]; simp⟩), HB2.out⟩
/-- what Why leaves -/
def WYPost (s t : Ty) (w : World) (e : Ending) (w' : World) : Prop :=
  ((chkTy s ≠ 0 ∧ e = .returned (.tuple #[.slice none 0 0, .int .i64 (chkTy s)])) ∨ (chkTy s = 0 ∧ chkTy t ≠ 0 ∧ e = .returned (.tuple #[.slice none 0 0, .int .i64 (chkTy t)])) ∨
    (∃ g h, OFG s g ∧ OFG t h ∧ ((∃ arr, srB g h 0 0 = (none, arr) ∧ e = .returned (.tuple #[.slice none 0 0, .int .i64 8])) ∨ (∃ k arr, srB g h 0 0 = (some k, arr) ∧ ∃ aw cw, e = .returned (.tuple #[.slice aw (wayGA arr k).length cw, .int .i64 0]) ∧ LA w' w'.heap.size (wayGA arr k).reverse aw)))) ∧ Below w.heap.size w w'
set_option maxRecDepth 100000 in
set_option maxHeartbeats 4000000 in
theorem why_any (ds dt : Nat) (s t : Ty) (sal : Option Addr) (scl : Nat) (sak : Option Addr) (sck : Nat) (al : Option Addr) (cl : Nat) (ak : Option Addr) (ck : Nat) (w : World) (hs1 : TyBd s scl sck) (hs2 : LA w w.heap.size s.labels sal) (hs3 : KT w w.heap.size ds s.kids sak) (ht1 : TyBd t cl ck) (ht2 : LA w w.heap.size t.labels al) (ht3 : KT w w.heap.size dt t.kids ak) :
    Calls Tryd.prog 7 #[tyVal s sal scl sak sck, tyVal t al cl ak ck] w (WYPost s t w) := by
  unfold WYPost
  have hA : Below w.heap.size w ((w.alloc (.cells #[.int .i64 s.kind, .int .i64 s.so, .string s.name, .slice sal s.labels.length scl, .slice sak s.kids.length sck] 25)).alloc (.cells #[.int .i64 t.kind, .int .i64 t.so, .string t.name, .slice al t.labels.length cl, .slice ak t.kids.length ck] 25)) := ((Below.refl _ _).alloc (Nat.le_refl _) _).alloc (by simp) _
  have hsz : ((w.alloc (.cells #[.int .i64 s.kind, .int .i64 s.so, .string s.name, .slice sal s.labels.length scl, .slice sak s.kids.length sck] 25)).alloc (.cells #[.int .i64 t.kind, .int .i64 t.so, .string t.name, .slice al t.labels.length cl, .slice ak t.kids.length ck] 25)).heap.size = w.heap.size + 1 + 1 := by simp
  have bs : TyAt ((w.alloc (.cells #[.int .i64 s.kind, .int .i64 s.so, .string s.name, .slice sal s.labels.length scl, .slice sak s.kids.length sck] 25)).alloc (.cells #[.int .i64 t.kind, .int .i64 t.so, .string t.name, .slice al t.labels.length cl, .slice ak t.kids.length ck] 25)) w.heap.size 0 s sal scl sak sck := ⟨by go_cell, by go_cell, by go_cell, by go_cell, by go_cell⟩
  have bt : TyAt ((w.alloc (.cells #[.int .i64 s.kind, .int .i64 s.so, .string s.name, .slice sal s.labels.length scl, .slice sak s.kids.length sck] 25)).alloc (.cells #[.int .i64 t.kind, .int .i64 t.so, .string t.name, .slice al t.labels.length cl, .slice ak t.kids.length ck] 25)) (w.heap.size + 1) 0 t al cl ak ck := ⟨by go_cell, by go_cell, by go_cell, by go_cell, by go_cell⟩
  have cG := graphsOf_any ds dt s t sal scl sak sck al cl ak ck ((w.alloc (.cells #[.int .i64 s.kind, .int .i64 s.so, .string s.name, .slice sal s.labels.length scl, .slice sak s.kids.length sck] 25)).alloc (.cells #[.int .i64 t.kind, .int .i64 t.so, .string t.name, .slice al t.labels.length cl, .slice ak t.kids.length ck] 25)) hs1 ((hs2.keep hA).mono hA.size) ((hs3.keep hA).mono hA.size) ht1 ((ht2.keep hA).mono hA.size) ((ht3.keep hA).mono hA.size)
  have HA := hideK hA
  simp only [tyVal] at cG ⊢
  unfold GOPost at cG
  obtain ⟨y0, y1, y2, y3, y4⟩ := bt
  obtain ⟨x0, x1, x2, x3, x4⟩ := bs
  simp only [Nat.zero_add] at x1 x2 x3 x4 y1 y2 y3 y4
  clear hs1 hs2 hs3 ht1 ht2 ht3 hA hsz
  go_enter Tryd.func7, Tryd.ntmps7
  go_wp2_with fail
  refine cG.mono ?_
  rintro e w1 ⟨hor, hb1⟩
  have HB1 := hideK (HA.out.trans (hb1.mono HA.out.size))
  clear x0 x1 x2 x3 x4 y0 y1 y2 y3 y4 hb1 cG
  rcases hor with ⟨hz, rfl⟩ | ⟨hz0, hz, rfl⟩ | ⟨g, h, ag, ah, cg, ch, hof, hof2, rfl, hga, hha⟩
  · have hzb : (chkTy s != 0) = true := by simpa using hz
    have HZ := hideK hz
    clear hz
    go_wp2_with fail
    go_ret2
    exact ⟨.inl ⟨HZ.out, rfl⟩, HB1.out⟩
  · have hzb : (chkTy t != 0) = true := by simpa using hz
    have HZ := hideK hz
    have HZ0 := hideK hz0
    clear hz hz0
    go_wp2_with fail
    go_ret2
    exact ⟨.inr (.inl ⟨HZ0.out, HZ.out, rfl⟩), HB1.out⟩
  · have cF := firstFailing_any g h ag ah cg ch w1.heap.size 0 0 w1 hof.gn hof2.gn hga hha (Nat.le_refl _) hof.gn.pos hof2.gn.pos
    unfold FFPost at cF
    simp only [Int.ofNat_zero] at cF
    have HOF := hideK hof
    have HOF2 := hideK hof2
    clear hof hof2 hga hha
    go_wp2_with fail
    refine cF.mono ?_
    rintro e w2 ⟨hor, hb2⟩
    have HB2 := hideK (HB1.out.trans (hb2.mono HB1.out.size))
    clear hb2 cF
    rcases hor with ⟨arr, hsr, rfl⟩ | ⟨k, arr, hsr, aw, cw, rfl, hla⟩
    · have HSR := hideK hsr
      clear hsr
      go_wp2_with fail
      go_ret2
      exact ⟨.inr (.inr ⟨g, h, HOF.out, HOF2.out, .inl ⟨arr, HSR.out, rfl⟩⟩), HB2.out⟩
    · have HSR := hideK hsr
      have HLA := hideK hla
      clear hsr hla
      go_wp2_with fail
      go_ret2
      exact ⟨.inr (.inr ⟨g, h, HOF.out, HOF2.out, .inr ⟨k, arr, HSR.out, aw, cw, rfl, HLA.out⟩⟩), HB2.out⟩
end Go.Proofs.YtoieacgojkgjgabDoor
