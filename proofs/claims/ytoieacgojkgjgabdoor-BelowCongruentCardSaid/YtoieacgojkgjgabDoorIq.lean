/-
  The contracts of below.Is and below.Why, for every two types.
-/
import Derived.Test.YtoieacgojkgjgabDoorVn
import Derived.Test.YtoieacgojkgjgabDoorIh
namespace Go.Proofs.YtoieacgojkgjgabDoor
open Go.RowKit Go.Shelf

theorem OFG.uniq {t : Ty} {g h : List Nd} (hg : OFG t g) (hh : OFG t h) : g = h := (hg.same hh).2 rfl
/-- one type is below another one -/
def BT (s t : Ty) : Prop := ∃ g h, OFG s g ∧ OFG t h ∧ ∀ k, bl k g h 0 0
theorem BT_iff {s t : Ty} {g h : List Nd} (hg : OFG s g) (hh : OFG t h) : BT s t ↔ ∀ k, bl k g h 0 0 := by
  constructor
  · rintro ⟨g', h', hg', hh', hb⟩
    rw [hg.uniq hg', hh.uniq hh']; exact hb
  · intro hb; exact ⟨g, h, hg, hh, hb⟩
def ISPost (s t : Ty) (w : World) (e : Ending) (w' : World) : Prop :=
  ((chkTy s ≠ 0 ∧ e = .returned (.tuple #[.bool false, .int .i64 (chkTy s)])) ∨ (chkTy s = 0 ∧ chkTy t ≠ 0 ∧ e = .returned (.tuple #[.bool false, .int .i64 (chkTy t)])) ∨
    (∃ g h, OFG s g ∧ OFG t h ∧ ∃ b : Bool, e = .returned (.tuple #[.bool b, .int .i64 0]) ∧ (b = true ↔ BT s t))) ∧ Below w.heap.size w w'
set_option maxRecDepth 100000 in
set_option maxHeartbeats 4000000 in
theorem is_any (ds dt : Nat) (s t : Ty) (sal : Option Addr) (scl : Nat) (sak : Option Addr) (sck : Nat) (al : Option Addr) (cl : Nat) (ak : Option Addr) (ck : Nat) (w : World) (hs1 : TyBd s scl sck) (hs2 : LA w w.heap.size s.labels sal) (hs3 : KT w w.heap.size ds s.kids sak) (ht1 : TyBd t cl ck) (ht2 : LA w w.heap.size t.labels al) (ht3 : KT w w.heap.size dt t.kids ak) :
    Calls Tryd.prog 9 #[tyVal s sal scl sak sck, tyVal t al cl ak ck] w (ISPost s t w) := by
  unfold ISPost
  have hA : Below w.heap.size w ((w.alloc (.cells #[.int .i64 s.kind, .int .i64 s.so, .string s.name, .slice sal s.labels.length scl, .slice sak s.kids.length sck] 25)).alloc (.cells #[.int .i64 t.kind, .int .i64 t.so, .string t.name, .slice al t.labels.length cl, .slice ak t.kids.length ck] 25)) := ((Below.refl _ _).alloc (Nat.le_refl _) _).alloc (by simp) _
  have hsz : ((w.alloc (.cells #[.int .i64 s.kind, .int .i64 s.so, .string s.name, .slice sal s.labels.length scl, .slice sak s.kids.length sck] 25)).alloc (.cells #[.int .i64 t.kind, .int .i64 t.so, .string t.name, .slice al t.labels.length cl, .slice ak t.kids.length ck] 25)).heap.size = w.heap.size + 1 + 1 := by simp
  have bs : TyAt ((w.alloc (.cells #[.int .i64 s.kind, .int .i64 s.so, .string s.name, .slice sal s.labels.length scl, .slice sak s.kids.length sck] 25)).alloc (.cells #[.int .i64 t.kind, .int .i64 t.so, .string t.name, .slice al t.labels.length cl, .slice ak t.kids.length ck] 25)) w.heap.size 0 s sal scl sak sck := ⟨by go_cell, by go_cell, by go_cell, by go_cell, by go_cell⟩
  have bt : TyAt ((w.alloc (.cells #[.int .i64 s.kind, .int .i64 s.so, .string s.name, .slice sal s.labels.length scl, .slice sak s.kids.length sck] 25)).alloc (.cells #[.int .i64 t.kind, .int .i64 t.so, .string t.name, .slice al t.labels.length cl, .slice ak t.kids.length ck] 25)) (w.heap.size + 1) 0 t al cl ak ck := ⟨by go_cell, by go_cell, by go_cell, by go_cell, by go_cell⟩
  have cG := graphsOf_any ds dt s t sal scl sak sck al cl ak ck ((w.alloc (.cells #[.int .i64 s.kind, .int .i64 s.so, .string s.name, .slice sal s.labels.length scl, .slice sak s.kids.length sck] 25)).alloc (.cells #[.int .i64 t.kind, .int .i64 t.so, .string t.name, .slice al t.labels.length cl, .slice ak t.kids.length ck] 25)) hs1 ((hs2.keep hA).mono hA.size) ((hs3.keep hA).mono hA.size) ht1 ((ht2.keep hA).mono hA.size) ((ht3.keep hA).mono hA.size)
  have HA := hideK hA
  simp only [tyVal] at cG ⊢
  unfold GOPost at cG
  obtain ⟨y0, y1, y2, y3, y4⟩ := bt
  obtain ⟨x0, x1, x2, x3, x4⟩ := bs
  simp only [Nat.zero_add] at x1 x2 x3 x4 y1 y2 y3 y4
  clear hs1 hs2 hs3 ht1 ht2 ht3 hA hsz
  go_enter Tryd.func9, Tryd.ntmps9
  go_wp2_with fail
  refine cG.mono ?_
  rintro e w1 ⟨hor, hb1⟩
  have HB1 := hideK (HA.out.trans (hb1.mono HA.out.size))
  clear x0 x1 x2 x3 x4 y0 y1 y2 y3 y4 hb1 cG
  rcases hor with ⟨hz, rfl⟩ | ⟨hz0, hz, rfl⟩ | ⟨g, h, ag, ah, cg, ch, hof, hof2, rfl, hga, hha⟩
  · have hzb : (chkTy s != 0) = true := by simpa using hz
    have HZ := hideK hz
    clear hz
    go_wp2_with fail
    go_ret2
    exact ⟨.inl ⟨HZ.out, rfl⟩, HB1.out⟩
  · have hzb : (chkTy t != 0) = true := by simpa using hz
    have HZ := hideK hz
    have HZ0 := hideK hz0
    clear hz hz0
    go_wp2_with fail
    go_ret2
    exact ⟨.inr (.inl ⟨HZ0.out, HZ.out, rfl⟩), HB1.out⟩
  · have cF := firstFailing_any g h ag ah cg ch w1.heap.size 0 0 w1 hof.gn hof2.gn hga hha (Nat.le_refl _) hof.gn.pos hof2.gn.pos
    unfold FFPost at cF
    simp only [Int.ofNat_zero] at cF
    have HOF := hideK hof
    have HOF2 := hideK hof2
    clear hof hof2 hga hha
    go_wp2_with fail
    refine cF.mono ?_
    rintro e w2 ⟨hor, hb2⟩
    have HB2 := hideK (HB1.out.trans (hb2.mono HB1.out.size))
    clear hb2 cF
    rcases hor with ⟨arr, hsr, rfl⟩ | ⟨k, arr, hsr, aw, cw, rfl, hla⟩
    · have HSR := hideK hsr
      clear hsr
      go_wp2_with fail
      go_ret2
      exact ⟨.inr (.inr ⟨g, h, HOF.out, HOF2.out, true, rfl, by simp only [true_iff]; rw [BT_iff HOF.out HOF2.out, ← srB_bl HOF.out.gn HOF2.out.gn HOF.out.gn.pos HOF2.out.gn.pos, HSR.out]⟩), HB2.out⟩
    · have HSR := hideK hsr
      clear hsr hla
      go_wp2_with fail
      go_ret2
      exact ⟨.inr (.inr ⟨g, h, HOF.out, HOF2.out, false, rfl, by rw [BT_iff HOF.out HOF2.out, ← srB_bl HOF.out.gn HOF2.out.gn HOF.out.gn.pos HOF2.out.gn.pos, HSR.out]; simp⟩), HB2.out⟩
/-- what Why leaves -/
def WYPost (s t : Ty) (w : World) (e : Ending) (w' : World) : Prop :=
  ((chkTy s ≠ 0 ∧ e = .returned (.tuple #[.slice none 0 0, .int .i64 (chkTy s)])) ∨ (chkTy s = 0 ∧ chkTy t ≠ 0 ∧ e = .returned (.tuple #[.slice none 0 0, .int .i64 (chkTy t)])) ∨
    (∃ g h, OFG s g ∧ OFG t h ∧ ((∃ arr, srB g h 0 0 = (none, arr) ∧ e = .returned (.tuple #[.slice none 0 0, .int .i64 8])) ∨ (∃ k arr, srB g h 0 0 = (some k, arr) ∧ ∃ aw cw, e = .returned (.tuple #[.slice aw (wayGA arr k).length cw, .int .i64 0]) ∧ LA w' w'.heap.size (wayGA arr k).reverse aw)))) ∧ Below w.heap.size w w'
set_option maxRecDepth 100000 in
set_option maxHeartbeats 4000000 in
theorem why_any (ds dt : Nat) (s t : Ty) (sal : Option Addr) (scl : Nat) (sak : Option Addr) (sck : Nat) (al : Option Addr) (cl : Nat) (ak : Option Addr) (ck : Nat) (w : World) (hs1 : TyBd s scl sck) (hs2 : LA w w.heap.size s.labels sal) (hs3 : KT w w.heap.size ds s.kids sak) (ht1 : TyBd t cl ck) (ht2 : LA w w.heap.size t.labels al) (ht3 : KT w w.heap.size dt t.kids ak) :
    Calls Tryd.prog 7 #[tyVal s sal scl sak sck, tyVal t al cl ak ck] w (WYPost s t w) := by
  unfold WYPost
  have hA : Below w.heap.size w ((w.alloc (.cells #[.int .i64 s.kind, .int .i64 s.so, .string s.name, .slice sal s.labels.length scl, .slice sak s.kids.length sck] 25)).alloc (.cells #[.int .i64 t.kind, .int .i64 t.so, .string t.name, .slice al t.labels.length cl, .slice ak t.kids.length ck] 25)) := ((Below.refl _ _).alloc (Nat.le_refl _) _).alloc (by simp) _
  have hsz : ((w.alloc (.cells #[.int .i64 s.kind, .int .i64 s.so, .string s.name, .slice sal s.labels.length scl, .slice sak s.kids.length sck] 25)).alloc (.cells #[.int .i64 t.kind, .int .i64 t.so, .string t.name, .slice al t.labels.length cl, .slice ak t.kids.length ck] 25)).heap.size = w.heap.size + 1 + 1 := by simp
  have bs : TyAt ((w.alloc (.cells #[.int .i64 s.kind, .int .i64 s.so, .string s.name, .slice sal s.labels.length scl, .slice sak s.kids.length sck] 25)).alloc (.cells #[.int .i64 t.kind, .int .i64 t.so, .string t.name, .slice al t.labels.length cl, .slice ak t.kids.length ck] 25)) w.heap.size 0 s sal scl sak sck := ⟨by go_cell, by go_cell, by go_cell, by go_cell, by go_cell⟩
  have bt : TyAt ((w.alloc (.cells #[.int .i64 s.kind, .int .i64 s.so, .string s.name, .slice sal s.labels.length scl, .slice sak s.kids.length sck] 25)).alloc (.cells #[.int .i64 t.kind, .int .i64 t.so, .string t.name, .slice al t.labels.length cl, .slice ak t.kids.length ck] 25)) (w.heap.size + 1) 0 t al cl ak ck := ⟨by go_cell, by go_cell, by go_cell, by go_cell, by go_cell⟩
  have cG := graphsOf_any ds dt s t sal scl sak sck al cl ak ck ((w.alloc (.cells #[.int .i64 s.kind, .int .i64 s.so, .string s.name, .slice sal s.labels.length scl, .slice sak s.kids.length sck] 25)).alloc (.cells #[.int .i64 t.kind, .int .i64 t.so, .string t.name, .slice al t.labels.length cl, .slice ak t.kids.length ck] 25)) hs1 ((hs2.keep hA).mono hA.size) ((hs3.keep hA).mono hA.size) ht1 ((ht2.keep hA).mono hA.size) ((ht3.keep hA).mono hA.size)
  have HA := hideK hA
  simp only [tyVal] at cG ⊢
  unfold GOPost at cG
  obtain ⟨y0, y1, y2, y3, y4⟩ := bt
  obtain ⟨x0, x1, x2, x3, x4⟩ := bs
  simp only [Nat.zero_add] at x1 x2 x3 x4 y1 y2 y3 y4
  clear hs1 hs2 hs3 ht1 ht2 ht3 hA hsz
  go_enter Tryd.func7, Tryd.ntmps7
  go_wp2_with fail
  refine cG.mono ?_
  rintro e w1 ⟨hor, hb1⟩
  have HB1 := hideK (HA.out.trans (hb1.mono HA.out.size))
  clear x0 x1 x2 x3 x4 y0 y1 y2 y3 y4 hb1 cG
  rcases hor with ⟨hz, rfl⟩ | ⟨hz0, hz, rfl⟩ | ⟨g, h, ag, ah, cg, ch, hof, hof2, rfl, hga, hha⟩
  · have hzb : (chkTy s != 0) = true := by simpa using hz
    have HZ := hideK hz
    clear hz
    go_wp2_with fail
    go_ret2
    exact ⟨.inl ⟨HZ.out, rfl⟩, HB1.out⟩
  · have hzb : (chkTy t != 0) = true := by simpa using hz
    have HZ := hideK hz
    have HZ0 := hideK hz0
    clear hz hz0
    go_wp2_with fail
    go_ret2
    exact ⟨.inr (.inl ⟨HZ0.out, HZ.out, rfl⟩), HB1.out⟩
  · have cF := firstFailing_any g h ag ah cg ch w1.heap.size 0 0 w1 hof.gn hof2.gn hga hha (Nat.le_refl _) hof.gn.pos hof2.gn.pos
    unfold FFPost at cF
    simp only [Int.ofNat_zero] at cF
    have HOF := hideK hof
    have HOF2 := hideK hof2
    clear hof hof2 hga hha
    go_wp2_with fail
    refine cF.mono ?_
    rintro e w2 ⟨hor, hb2⟩
    have HB2 := hideK (HB1.out.trans (hb2.mono HB1.out.size))
    clear hb2 cF
    rcases hor with ⟨arr, hsr, rfl⟩ | ⟨k, arr, hsr, aw, cw, rfl, hla⟩
    · have HSR := hideK hsr
      clear hsr
      go_wp2_with fail
      go_ret2
      exact ⟨.inr (.inr ⟨g, h, HOF.out, HOF2.out, .inl ⟨arr, HSR.out, rfl⟩⟩), HB2.out⟩
    · have HSR := hideK hsr
      have HLA := hideK hla
      clear hsr hla
      go_wp2_with fail
      go_ret2
      exact ⟨.inr (.inr ⟨g, h, HOF.out, HOF2.out, .inr ⟨k, arr, HSR.out, aw, cw, rfl, HLA.out⟩⟩), HB2.out⟩
end Go.Proofs.YtoieacgojkgjgabDoor
/-
  The law of duetkeep.BelowOrder: whatever types are handed in it answers true.
-/
namespace Go.Proofs.YtoieacgojkgjgabDoor
open Go.RowKit Go.Shelf

theorem OFG.bl_refl {s : Ty} {g : List Nd} (h : OFG s g) : BT s s := ⟨g, g, h, h, fun k => Go.Proofs.YtoieacgojkgjgabDoor.bl_refl h.gn k h.gn.pos⟩
theorem BT_trans {s t u : Ty} (h : BT s t) (h2 : BT t u) : BT s u := by
  obtain ⟨g, h', hg, hh, hb⟩ := h
  obtain ⟨h'', f, hh2, hf, hb2⟩ := h2
  rw [hh2.uniq hh] at hb2
  exact ⟨g, f, hg, hf, fun k => bl_trans k g h' f 0 0 0 (hb k) (hb2 k)⟩
theorem BT_anti {s t : Ty} {g h : List Nd} (hg : OFG s g) (hh : OFG t h) : BT s t ∧ BT t s ↔ den s e0 = den t e0 := by
  rw [BT_iff hg hh, BT_iff hh hg]
  constructor
  · rintro ⟨h1, h2⟩
    funext k
    rw [← hg.does k, ← hh.does k]
    exact bl_anti k g h 0 0 hg.gn hh.gn hg.gn.pos hh.gn.pos (h1 k) (h2 k)
  · intro e
    have e2 := (hg.same hh).2 e
    subst e2
    exact ⟨fun k => bl_refl hg.gn k hg.gn.pos, fun k => bl_refl hg.gn k hg.gn.pos⟩
theorem cls_ex {g : List Nd} (hs : shutG g) : ∃ c, CLS g c := by
  have : ∀ n k c, patG g k c → g.length - cnt c ≤ n → ∃ c, CLS g c := by
    intro n
    induction n with
    | zero =>
      intro k c hp hn
      by_cases he : (splitG g c).1.length = cnt c
      · exact ⟨_, cls_done hs hp he⟩
      · have := cls_more hs hp he; omega
    | succ n ih =>
      intro k c hp hn
      by_cases he : (splitG g c).1.length = cnt c
      · exact ⟨_, cls_done hs hp he⟩
      · have h1 := cls_more hs hp he
        have h2 := (split_inv g c).cn
        exact ih (k + 1) (splitG g c).2 (pat_split hs hp) (by omega)
  exact this _ 0 _ (pat_zero g) (Nat.le_refl _)
theorem OFG_ex {t : Ty} (h : chkTy t = 0) : ∃ g, OFG t g := by
  have hg := lay_gn h
  obtain ⟨c, hc⟩ : ∃ c, CLS (layP t [] 0).2 c := cls_ex hg.shut
  exact ⟨_, ⟨h, c, hc, rfl⟩⟩
theorem end_chk : chkTy endT = 0 := by
  unfold chkTy
  rw [chkT_eq, if_neg (by decide)]
  have hp : partT endT = true := by unfold partT endT; simp
  rw [hp, if_neg (by decide), if_neg (by decide), if_neg (by decide)]
  rfl
theorem end_bd : TyBd endT 0 0 := ⟨by decide, fun l hl => (by cases hl), by decide, by decide, by decide, by decide⟩
/-- three types in boxes -/
structure BX3 (w : World) (s : Ty) (sal : Option Addr) (scl : Nat) (sak : Option Addr) (sck : Nat) (t : Ty) (al : Option Addr) (cl : Nat) (ak : Option Addr) (ck : Nat) (u : Ty) (ual : Option Addr) (ucl : Nat) (uak : Option Addr) (uck : Nat) (W : World) : Prop where
  x : TyAt W w.heap.size 0 s sal scl sak sck
  y : TyAt W (w.heap.size + 1) 0 t al cl ak ck
  z : TyAt W (w.heap.size + 1 + 1) 0 u ual ucl uak uck
  lt : w.heap.size + 1 + 1 < W.heap.size
  bl : Below w.heap.size w W
theorem BX3.keep {w : World} {s : Ty} {sal : Option Addr} {scl : Nat} {sak : Option Addr} {sck : Nat} {t : Ty} {al : Option Addr} {cl : Nat} {ak : Option Addr} {ck : Nat} {u : Ty} {ual : Option Addr} {ucl : Nat} {uak : Option Addr} {uck : Nat} {W W' : World} (h : BX3 w s sal scl sak sck t al cl ak ck u ual ucl uak uck W) (hb : Below W.heap.size W W') : BX3 w s sal scl sak sck t al cl ak ck u ual ucl uak uck W' :=
  ⟨h.x.keep hb (by have := h.lt; omega), h.y.keep hb (by have := h.lt; omega), h.z.keep hb h.lt, Nat.lt_of_lt_of_le h.lt hb.size, h.bl.trans (hb.mono h.bl.size)⟩
theorem BX3.new (w : World) (s : Ty) (sal : Option Addr) (scl : Nat) (sak : Option Addr) (sck : Nat) (t : Ty) (al : Option Addr) (cl : Nat) (ak : Option Addr) (ck : Nat) (u : Ty) (ual : Option Addr) (ucl : Nat) (uak : Option Addr) (uck : Nat) : BX3 w s sal scl sak sck t al cl ak ck u ual ucl uak uck (((w.alloc (.cells #[.int .i64 s.kind, .int .i64 s.so, .string s.name, .slice sal s.labels.length scl, .slice sak s.kids.length sck] 25)).alloc (.cells #[.int .i64 t.kind, .int .i64 t.so, .string t.name, .slice al t.labels.length cl, .slice ak t.kids.length ck] 25)).alloc (.cells #[.int .i64 u.kind, .int .i64 u.so, .string u.name, .slice ual u.labels.length ucl, .slice uak u.kids.length uck] 25)) :=
  ⟨⟨by go_cell, by go_cell, by go_cell, by go_cell, by go_cell⟩, ⟨by go_cell, by go_cell, by go_cell, by go_cell, by go_cell⟩, ⟨by go_cell, by go_cell, by go_cell, by go_cell, by go_cell⟩, by simp, ((((Below.refl _ _).alloc (Nat.le_refl _) _).alloc (by simp) _).alloc (by simp; omega) _)⟩
theorem isBad {s t : Ty} {w : World} (hz : chkTy s ≠ 0 ∨ chkTy t ≠ 0) {args : Array Value} (c : Calls Tryd.prog 9 args w (ISPost s t w)) : Calls Tryd.prog 9 args w fun e w' => (∃ z : Int, z ≠ 0 ∧ e = .returned (.tuple #[.bool false, .int .i64 z])) ∧ Below w.heap.size w w' := by
  refine c.mono ?_
  rintro e w' ⟨h | h | h, hb⟩
  · exact ⟨⟨_, h.1, h.2⟩, hb⟩
  · exact ⟨⟨_, h.2.1, h.2.2⟩, hb⟩
  · obtain ⟨g, h', hg, hh, _⟩ := h
    rcases hz with q | q
    · exact absurd hg.chk q
    · exact absurd hh.chk q
theorem isGood {s t : Ty} {w : World} (hs : chkTy s = 0) (ht : chkTy t = 0) {args : Array Value} (c : Calls Tryd.prog 9 args w (ISPost s t w)) : Calls Tryd.prog 9 args w fun e w' => (∃ b : Bool, e = .returned (.tuple #[.bool b, .int .i64 0]) ∧ (b = true ↔ BT s t)) ∧ Below w.heap.size w w' := by
  refine c.mono ?_
  rintro e w' ⟨h | h | h, hb⟩
  · exact absurd hs h.1
  · exact absurd ht h.2.1
  · obtain ⟨_, _, _, _, b, e, hq⟩ := h
    exact ⟨⟨b, e, hq⟩, hb⟩
theorem isSome {s t : Ty} {w : World} {args : Array Value} (c : Calls Tryd.prog 9 args w (ISPost s t w)) : Calls Tryd.prog 9 args w fun e w' => (∃ (b : Bool) (z : Int), e = .returned (.tuple #[.bool b, .int .i64 z])) ∧ Below w.heap.size w w' := by
  refine c.mono ?_
  rintro e w' ⟨h | h | h, hb⟩
  · exact ⟨⟨_, _, h.2⟩, hb⟩
  · exact ⟨⟨_, _, h.2.2⟩, hb⟩
  · obtain ⟨_, _, _, _, b, e, _⟩ := h
    exact ⟨⟨_, _, e⟩, hb⟩
/-- End is below End -/
theorem isEnd (w : World) : Calls Tryd.prog 9 #[.agg #[.int .i64 1, .int .i64 0, .string ⟨#[]⟩, .slice none 0 0, .slice none 0 0], .agg #[.int .i64 1, .int .i64 0, .string ⟨#[]⟩, .slice none 0 0, .slice none 0 0]] w fun e w' => e = .returned (.tuple #[.bool true, .int .i64 0]) ∧ Below w.heap.size w w' := by
  have c := isGood end_chk end_chk (is_any 0 0 endT endT none 0 none 0 none 0 none 0 w end_bd (.inl rfl) rfl end_bd (.inl rfl) rfl)
  refine c.mono ?_
  rintro e w' ⟨⟨b, rfl, hq⟩, hb⟩
  obtain ⟨g, hg⟩ := OFG_ex end_chk
  obtain rfl : b = true := hq.2 hg.bl_refl
  exact ⟨rfl, hb⟩
end Go.Proofs.YtoieacgojkgjgabDoor
