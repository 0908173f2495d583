/-
  The contracts of below.Is and below.Why, for every two types.
-/
import Derived.Test.YtnlpnbelkkgghaaDoorVn
import Derived.Test.YtnlpnbelkkgghaaDoorIh
import Derived.Test.YtnlpnbelkkgghaaDoorVt
namespace Go.Proofs.YtnlpnbelkkgghaaDoor
open Go.RowKit Go.Shelf

end Go.Proofs.YtnlpnbelkkgghaaDoor
/-
  The contracts of comply.outcomeOf and comply.Do, for every two types.
-/
namespace Go.Proofs.YtnlpnbelkkgghaaDoor
open Go.RowKit Go.Shelf

/-- both ends get on -/
def CT (s t : Ty) : Prop := ∃ g h, OFG s g ∧ OFG t h ∧ ∀ k, bl k (othG h) g 0 0
theorem CT_iff {s t : Ty} {g h : List Nd} (hg : OFG s g) (hh : OFG t h) : CT s t ↔ ∀ k, bl k (othG h) g 0 0 := by
  constructor
  · rintro ⟨g', h', hg', hh', hb⟩
    rw [hg.uniq hg', hh.uniq hh']; exact hb
  · intro hb; exact ⟨g, h, hg, hh, hb⟩
def OOPost (s t : Ty) (w : World) (e : Ending) (w' : World) : Prop :=
  ((chkTy s ≠ 0 ∧ e = .returned (.tuple #[.agg #[.bool false, .bool false, .slice none 0 0], .int .i64 (chkTy s)])) ∨ (chkTy s = 0 ∧ chkTy t ≠ 0 ∧ e = .returned (.tuple #[.agg #[.bool false, .bool false, .slice none 0 0], .int .i64 (chkTy t)])) ∨
    (∃ g h, OFG s g ∧ OFG t h ∧ ((∃ k arr, srC g h = (some k, arr) ∧ ∃ aw cw, e = .returned (.tuple #[.agg #[.bool true, .bool false, .slice aw (wayGA arr k).length cw], .int .i64 0]) ∧ LA w' w'.heap.size (wayGA arr k).reverse aw) ∨ (∃ arr, srC g h = (none, arr) ∧ ∃ aw cw, e = .returned (.tuple #[.agg #[.bool false, .bool (enW g arr arr.length).1, .slice aw (enW g arr arr.length).2 cw], .int .i64 0]))))) ∧ Below w.heap.size w w'
set_option maxRecDepth 100000 in
set_option maxHeartbeats 8000000 in
theorem outcomeOf_any (ds dt : Nat) (s t : Ty) (sal : Option Addr) (scl : Nat) (sak : Option Addr) (sck : Nat) (al : Option Addr) (cl : Nat) (ak : Option Addr) (ck : Nat) (w : World) (hs1 : TyBd s scl sck) (hs2 : LA w w.heap.size s.labels sal) (hs3 : KT w w.heap.size ds s.kids sak) (ht1 : TyBd t cl ck) (ht2 : LA w w.heap.size t.labels al) (ht3 : KT w w.heap.size dt t.kids ak) :
    Calls Tryd.prog 45 #[tyVal s sal scl sak sck, tyVal t al cl ak ck] w (OOPost s t w) := by
  unfold OOPost
  have hA : Below w.heap.size w (((w.alloc (.cells #[.int .i64 s.kind, .int .i64 s.so, .string s.name, .slice sal s.labels.length scl, .slice sak s.kids.length sck] 25)).alloc (.cells #[.int .i64 t.kind, .int .i64 t.so, .string t.name, .slice al t.labels.length cl, .slice ak t.kids.length ck] 25)).alloc (.cells #[.bool false, .bool false, .slice none 0 0] 92)) := (((Below.refl _ _).alloc (Nat.le_refl _) _).alloc (by simp) _).alloc (by simp; omega) _
  have hsz : (((w.alloc (.cells #[.int .i64 s.kind, .int .i64 s.so, .string s.name, .slice sal s.labels.length scl, .slice sak s.kids.length sck] 25)).alloc (.cells #[.int .i64 t.kind, .int .i64 t.so, .string t.name, .slice al t.labels.length cl, .slice ak t.kids.length ck] 25)).alloc (.cells #[.bool false, .bool false, .slice none 0 0] 92)).heap.size = w.heap.size + 1 + 1 + 1 := by simp
  have bt : TyAt (((w.alloc (.cells #[.int .i64 s.kind, .int .i64 s.so, .string s.name, .slice sal s.labels.length scl, .slice sak s.kids.length sck] 25)).alloc (.cells #[.int .i64 t.kind, .int .i64 t.so, .string t.name, .slice al t.labels.length cl, .slice ak t.kids.length ck] 25)).alloc (.cells #[.bool false, .bool false, .slice none 0 0] 92)) (w.heap.size + 1) 0 t al cl ak ck := ⟨by go_cell, by go_cell, by go_cell, by go_cell, by go_cell⟩
  have HOB := hideK (show OB3 (((w.alloc (.cells #[.int .i64 s.kind, .int .i64 s.so, .string s.name, .slice sal s.labels.length scl, .slice sak s.kids.length sck] 25)).alloc (.cells #[.int .i64 t.kind, .int .i64 t.so, .string t.name, .slice al t.labels.length cl, .slice ak t.kids.length ck] 25)).alloc (.cells #[.bool false, .bool false, .slice none 0 0] 92)) (w.heap.size + 1 + 1) (.bool false) (.bool false) (.slice none 0 0) from ⟨by go_cell, by go_cell, by go_cell, by go_simp, by go_simp, by go_simp⟩)
  have CS := hideK (fun (W : World) (hb : Below w.heap.size w W) => of_any ds s sal scl sak sck W hs1 ((hs2.keep hb).mono hb.size) ((hs3.keep hb).mono hb.size))
  have CT := hideK (fun (W : World) (hb : Below w.heap.size w W) => of_any dt t al cl ak ck W ht1 ((ht2.keep hb).mono hb.size) ((ht3.keep hb).mono hb.size))
  have HA := hideK hA
  have HBT := hideK bt
  have HSZ := hideK hsz
  simp only [tyVal] at CS CT ⊢
  unfold OFPost at CS CT
  clear hs1 hs2 hs3 ht1 ht2 ht3 hA hsz bt
  go_enter Tryd.func45, Tryd.ntmps45
  go_wp2_with fail
  generalize (((w.alloc (.cells #[.int .i64 s.kind, .int .i64 s.so, .string s.name, .slice sal s.labels.length scl, .slice sak s.kids.length sck] 25)).alloc (.cells #[.int .i64 t.kind, .int .i64 t.so, .string t.name, .slice al t.labels.length cl, .slice ak t.kids.length ck] 25)).alloc (.cells #[.bool false, .bool false, .slice none 0 0] 92)) = W0 at *
  have hsz := HSZ.out
  refine (CS.out _ HA.out).mono ?_
  rintro e w1 ⟨hor, hb1⟩
  have HB1 := hideK (HA.out.trans (hb1.mono HA.out.size))
  have HBT1 := hideK (HBT.out.keep hb1 (by omega))
  have HOB1 := hideK (HOB.out.keepC (hb1.block (w.heap.size + 1 + 1) (by omega)))
  have hs1 := hb1.size
  obtain ⟨z0, z1, z2, z3, z4⟩ := HBT1.out
  simp only [Nat.zero_add] at z1 z2 z3 z4
  clear hb1 CS HBT HOB
  rcases hor with ⟨hz, rfl⟩ | ⟨g, ag, cg, hof, rfl, hga⟩
  · have hzb : (chkTy s != 0) = true := by simpa using hz
    have HZ := hideK hz
    obtain ⟨r0, r1, r2, f0, f1, f2⟩ := HOB1.out
    clear hz
    go_wp2_with fail
    have TA := (HOB1.out).st (.bool false) (.bool false) (.slice none 0 0)
    have TB := st3_below (HB1.out) (show w.heap.size ≤ w.heap.size + 1 + 1 from by omega) (.bool false) (.bool false) (.slice none 0 0)
    change OB3 (st3 w1 (w.heap.size + 1 + 1) (.bool false) (.bool false) (.slice none 0 0)) _ _ _ _ at TA
    change Below _ _ (st3 w1 (w.heap.size + 1 + 1) (.bool false) (.bool false) (.slice none 0 0)) at TB
    change bodyPost _ _ _ _ _ (st3 w1 (w.heap.size + 1 + 1) (.bool false) (.bool false) (.slice none 0 0))
    generalize st3 w1 (w.heap.size + 1 + 1) (.bool false) (.bool false) (.slice none 0 0) = W9 at TA TB ⊢
    obtain ⟨t0, t1, t2, _, _, _⟩ := TA
    refine bodyPost_ret (v := .tuple #[.agg #[.bool false, .bool false, .slice none 0 0], .int .i64 (chkTy s)]) (by simp [results, Tryd.results45, go_sem, t0, t1, t2]) rfl ?_
    exact ⟨.inl ⟨HZ.out, rfl⟩, TB⟩
  · have HOF := hideK hof
    have HGA := hideK hga
    clear hof hga
    go_wp2_with fail
    refine (CT.out _ HB1.out).mono ?_
    rintro e w2 ⟨hor, hb2⟩
    have HB2 := hideK (HB1.out.trans (hb2.mono HB1.out.size))
    have HGA2 := hideK ((HGA.out.keep hb2).mono hb2.size)
    have HOB2 := hideK (HOB1.out.keepC (hb2.block (w.heap.size + 1 + 1) (by omega)))
    have hs2 := hb2.size
    clear z0 z1 z2 z3 z4 CT hb2
    rcases hor with ⟨hz, rfl⟩ | ⟨h, ah, ch, hof, rfl, hha⟩
    · have hzb : (chkTy t != 0) = true := by simpa using hz
      have HZ := hideK hz
      obtain ⟨r0, r1, r2, f0, f1, f2⟩ := HOB2.out
      clear hz
      go_wp2_with fail
      have TA := (HOB2.out).st (.bool false) (.bool false) (.slice none 0 0)
      have TB := st3_below (HB2.out) (show w.heap.size ≤ w.heap.size + 1 + 1 from by omega) (.bool false) (.bool false) (.slice none 0 0)
      change OB3 (st3 w2 (w.heap.size + 1 + 1) (.bool false) (.bool false) (.slice none 0 0)) _ _ _ _ at TA
      change Below _ _ (st3 w2 (w.heap.size + 1 + 1) (.bool false) (.bool false) (.slice none 0 0)) at TB
      change bodyPost _ _ _ _ _ (st3 w2 (w.heap.size + 1 + 1) (.bool false) (.bool false) (.slice none 0 0))
      generalize st3 w2 (w.heap.size + 1 + 1) (.bool false) (.bool false) (.slice none 0 0) = W9 at TA TB ⊢
      obtain ⟨t0, t1, t2, _, _, _⟩ := TA
      refine bodyPost_ret (v := .tuple #[.agg #[.bool false, .bool false, .slice none 0 0], .int .i64 (chkTy t)]) (by simp [results, Tryd.results45, go_sem, t0, t1, t2]) rfl ?_
      exact ⟨.inr (.inl ⟨HOF.out.chk, HZ.out, rfl⟩), TB⟩
    · have HOF2 := hideK hof
      have cK := talk_any g h ag ah cg ch w2.heap.size w2 HOF.out.gn HOF2.out.gn HGA2.out hha (Nat.le_refl _)
      unfold TKPost at cK
      clear hof hha
      go_wp2_with fail
      refine cK.mono ?_
      rintro e w3 ⟨hor, hb3⟩
      have HB3 := hideK (HB2.out.trans (hb3.mono HB2.out.size))
      have HOB3 := hideK (HOB2.out.keepC (hb3.block (w.heap.size + 1 + 1) (by omega)))
      obtain ⟨r0, r1, r2, f0, f1, f2⟩ := HOB3.out
      clear hb3 cK
      rcases hor with ⟨k, arr, hsr, aw, cw, rfl, hla⟩ | ⟨arr, hsr, aw, cw, rfl⟩
      · have HSR := hideK hsr
        have HLA := hideK hla
        clear hsr hla
        go_wp2_with fail
        have TA := (HOB3.out).st (.bool true) (.bool false) (.slice aw (wayGA arr k).length cw)
        have TB := st3_below (HB3.out) (show w.heap.size ≤ w.heap.size + 1 + 1 from by omega) (.bool true) (.bool false) (.slice aw (wayGA arr k).length cw)
        have TL : LA (st3 w3 (w.heap.size + 1 + 1) (.bool true) (.bool false) (.slice aw (wayGA arr k).length cw)) (st3 w3 (w.heap.size + 1 + 1) (.bool true) (.bool false) (.slice aw (wayGA arr k).length cw)).heap.size (wayGA arr k).reverse aw := by
          rw [st3_size]
          exact HLA.out.imp id fun ⟨b, o, e, hl, hc⟩ => ⟨b, o, e, hl, fun i hi => st3_str (HOB3.out) (by rw [hc i hi, List.getElem_map])⟩
        change OB3 (st3 w3 (w.heap.size + 1 + 1) (.bool true) (.bool false) (.slice aw (wayGA arr k).length cw)) _ _ _ _ at TA
        change Below _ _ (st3 w3 (w.heap.size + 1 + 1) (.bool true) (.bool false) (.slice aw (wayGA arr k).length cw)) at TB
        change bodyPost _ _ _ _ _ (st3 w3 (w.heap.size + 1 + 1) (.bool true) (.bool false) (.slice aw (wayGA arr k).length cw))
        generalize st3 w3 (w.heap.size + 1 + 1) (.bool true) (.bool false) (.slice aw (wayGA arr k).length cw) = W9 at TA TB TL ⊢
        obtain ⟨t0, t1, t2, _, _, _⟩ := TA
        refine bodyPost_ret (v := .tuple #[.agg #[.bool true, .bool false, .slice aw (wayGA arr k).length cw], .int .i64 0]) (by simp [results, Tryd.results45, go_sem, t0, t1, t2]) rfl ?_
        exact ⟨.inr (.inr ⟨g, h, HOF.out, HOF2.out, .inl ⟨k, arr, HSR.out, aw, cw, rfl, TL⟩⟩), TB⟩
      · have HSR := hideK hsr
        clear hsr
        generalize hew : enW g arr arr.length = ew at *
        obtain ⟨e1, e2⟩ := ew
        go_wp2_with fail
        have TA := (HOB3.out).st (.bool false) (.bool e1) (.slice aw e2 cw)
        have TB := st3_below (HB3.out) (show w.heap.size ≤ w.heap.size + 1 + 1 from by omega) (.bool false) (.bool e1) (.slice aw e2 cw)
        change OB3 (st3 w3 (w.heap.size + 1 + 1) (.bool false) (.bool e1) (.slice aw e2 cw)) _ _ _ _ at TA
        change Below _ _ (st3 w3 (w.heap.size + 1 + 1) (.bool false) (.bool e1) (.slice aw e2 cw)) at TB
        change bodyPost _ _ _ _ _ (st3 w3 (w.heap.size + 1 + 1) (.bool false) (.bool e1) (.slice aw e2 cw))
        generalize st3 w3 (w.heap.size + 1 + 1) (.bool false) (.bool e1) (.slice aw e2 cw) = W9 at TA TB ⊢
        obtain ⟨t0, t1, t2, _, _, _⟩ := TA
        refine bodyPost_ret (v := .tuple #[.agg #[.bool false, .bool e1, .slice aw e2 cw], .int .i64 0]) (by simp [results, Tryd.results45, go_sem, t0, t1, t2]) rfl ?_
        exact ⟨.inr (.inr ⟨g, h, HOF.out, HOF2.out, .inr ⟨arr, HSR.out, aw, cw, by rw [hew]⟩⟩), TB⟩
def DCPost (s t : Ty) (w : World) (e : Ending) (w' : World) : Prop :=
  ((chkTy s ≠ 0 ∧ e = .returned (.tuple #[.bool false, .int .i64 (chkTy s)])) ∨ (chkTy s = 0 ∧ chkTy t ≠ 0 ∧ e = .returned (.tuple #[.bool false, .int .i64 (chkTy t)])) ∨
    (∃ g h, OFG s g ∧ OFG t h ∧ ∃ b : Bool, e = .returned (.tuple #[.bool b, .int .i64 0]) ∧ (b = true ↔ CT s t))) ∧ Below w.heap.size w w'
set_option maxRecDepth 100000 in
set_option maxHeartbeats 4000000 in
theorem do_any (ds dt : Nat) (s t : Ty) (sal : Option Addr) (scl : Nat) (sak : Option Addr) (sck : Nat) (al : Option Addr) (cl : Nat) (ak : Option Addr) (ck : Nat) (w : World) (hs1 : TyBd s scl sck) (hs2 : LA w w.heap.size s.labels sal) (hs3 : KT w w.heap.size ds s.kids sak) (ht1 : TyBd t cl ck) (ht2 : LA w w.heap.size t.labels al) (ht3 : KT w w.heap.size dt t.kids ak) :
    Calls Tryd.prog 19 #[tyVal s sal scl sak sck, tyVal t al cl ak ck] w (DCPost s t w) := by
  unfold DCPost
  have hA : Below w.heap.size w ((w.alloc (.cells #[.int .i64 s.kind, .int .i64 s.so, .string s.name, .slice sal s.labels.length scl, .slice sak s.kids.length sck] 25)).alloc (.cells #[.int .i64 t.kind, .int .i64 t.so, .string t.name, .slice al t.labels.length cl, .slice ak t.kids.length ck] 25)) := ((Below.refl _ _).alloc (Nat.le_refl _) _).alloc (by simp) _
  have cG := outcomeOf_any ds dt s t sal scl sak sck al cl ak ck ((w.alloc (.cells #[.int .i64 s.kind, .int .i64 s.so, .string s.name, .slice sal s.labels.length scl, .slice sak s.kids.length sck] 25)).alloc (.cells #[.int .i64 t.kind, .int .i64 t.so, .string t.name, .slice al t.labels.length cl, .slice ak t.kids.length ck] 25)) hs1 ((hs2.keep hA).mono hA.size) ((hs3.keep hA).mono hA.size) ht1 ((ht2.keep hA).mono hA.size) ((ht3.keep hA).mono hA.size)
  have HA := hideK hA
  simp only [tyVal] at cG ⊢
  unfold OOPost at cG
  clear hs1 hs2 hs3 ht1 ht2 ht3 hA
  go_enter Tryd.func19, Tryd.ntmps19
  go_wp2_with fail
  refine cG.mono ?_
  generalize ((w.alloc (.cells #[.int .i64 s.kind, .int .i64 s.so, .string s.name, .slice sal s.labels.length scl, .slice sak s.kids.length sck] 25)).alloc (.cells #[.int .i64 t.kind, .int .i64 t.so, .string t.name, .slice al t.labels.length cl, .slice ak t.kids.length ck] 25)) = W0 at *
  rintro e w1 ⟨hor, hb1⟩
  have HB1 := hideK (HA.out.trans (hb1.mono HA.out.size))
  have HB2 := hideK (fun o : Obj => show Below w.heap.size w (w1.alloc o) from HB1.out.alloc HB1.out.size o)
  clear hb1 cG
  rcases hor with ⟨hz, rfl⟩ | ⟨hz0, hz, rfl⟩ | ⟨g, h, hof, hof2, ⟨k, arr, hsr, aw, cw, rfl, hla⟩ | ⟨arr, hsr, aw, cw, rfl⟩⟩
  · have hzb : (chkTy s != 0) = true := by simpa using hz
    have HZ := hideK hz
    clear hz
    go_wp2_with fail
    go_ret2
    exact ⟨.inl ⟨HZ.out, rfl⟩, HB2.out _⟩
  · have hzb : (chkTy t != 0) = true := by simpa using hz
    have HZ := hideK hz
    have HZ0 := hideK hz0
    clear hz hz0
    go_wp2_with fail
    go_ret2
    exact ⟨.inr (.inl ⟨HZ0.out, HZ.out, rfl⟩), HB2.out _⟩
  · have HOF := hideK hof
    have HOF2 := hideK hof2
    have HSR := hideK hsr
    clear hof hof2 hsr hla
    go_wp2_with fail
    go_ret2
    exact ⟨.inr (.inr ⟨g, h, HOF.out, HOF2.out, false, rfl, by rw [CT_iff HOF.out HOF2.out, ← comply_iff HOF.out.gn HOF2.out.gn (by have := HOF2.out.le; omega), HSR.out]; simp⟩), HB2.out _⟩
  · have HOF := hideK hof
    have HOF2 := hideK hof2
    have HSR := hideK hsr
    clear hof hof2 hsr
    go_wp2_with fail
    go_ret2
    exact ⟨.inr (.inr ⟨g, h, HOF.out, HOF2.out, true, rfl, by simp only [true_iff]; rw [CT_iff HOF.out HOF2.out, ← comply_iff HOF.out.gn HOF2.out.gn (by have := HOF2.out.le; omega), HSR.out]⟩), HB2.out _⟩
end Go.Proofs.YtnlpnbelkkgghaaDoor

/-
  The law of duetkeep.BelowOrder: whatever types are handed in it answers true.
-/
namespace Go.Proofs.YtnlpnbelkkgghaaDoor
open Go.RowKit Go.Shelf

theorem cls_ex {g : List Nd} (hs : shutG g) : ∃ c, CLS g c := by
  have : ∀ n k c, patG g k c → g.length - cnt c ≤ n → ∃ c, CLS g c := by
    intro n
    induction n with
    | zero =>
      intro k c hp hn
      by_cases he : (splitG g c).1.length = cnt c
      · exact ⟨_, cls_done hs hp he⟩
      · have := cls_more hs hp he; omega
    | succ n ih =>
      intro k c hp hn
      by_cases he : (splitG g c).1.length = cnt c
      · exact ⟨_, cls_done hs hp he⟩
      · have h1 := cls_more hs hp he
        have h2 := (split_inv g c).cn
        exact ih (k + 1) (splitG g c).2 (pat_split hs hp) (by omega)
  exact this _ 0 _ (pat_zero g) (Nat.le_refl _)
theorem OFG_ex {t : Ty} (h : chkTy t = 0) : ∃ g, OFG t g := by
  have hg := lay_gn h
  obtain ⟨c, hc⟩ : ∃ c, CLS (layP t [] 0).2 c := cls_ex hg.shut
  exact ⟨_, ⟨h, c, hc, rfl⟩⟩
theorem end_chk : chkTy endT = 0 := by
  unfold chkTy
  rw [chkT_eq, if_neg (by decide)]
  have hp : partT endT = true := by unfold partT endT; simp
  rw [hp, if_neg (by decide), if_neg (by decide), if_neg (by decide)]
  rfl
theorem end_bd : TyBd endT 0 0 := ⟨by decide, fun l hl => (by cases hl), by decide, by decide, by decide, by decide⟩
end Go.Proofs.YtnlpnbelkkgghaaDoor
