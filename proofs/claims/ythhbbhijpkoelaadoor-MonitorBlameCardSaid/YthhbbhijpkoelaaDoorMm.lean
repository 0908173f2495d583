/-
  The contract of a monitor's Take.
-/
import Derived.Test.YthhbbhijpkoelaaDoorMj
import Derived.Test.YthhbbhijpkoelaaDoorMl
namespace Go.Proofs.YthhbbhijpkoelaaDoor
open Go.RowKit Go.Shelf

/-- what a monitor does with an event -/
def TKR (V : ByteArray → Bool) (g : List Nd) (i : Nat) (dn bl : Int) (x : Ev) (i' : Nat) (dn' bl' v z : Int) : Prop :=
  (evE V x ≠ 0 ∧ i' = i ∧ dn' = dn ∧ bl' = bl ∧ v = 0 ∧ z = evE V x) ∨
  (evE V x = 0 ∧ z = 0 ∧ ((bl ≠ 0 ∧ i' = i ∧ dn' = dn ∧ bl' = bl ∧ v = bl) ∨ (bl = 0 ∧ ((goesE g i x i' ∧ dn' = dn + 1 ∧ bl' = 0 ∧ v = 0) ∨ ((∀ j, ¬ goesE g i x j) ∧ i' = i ∧ dn' = dn ∧ bl' = doerZ x.kind ∧ v = doerZ x.kind)))))
theorem evE_kind {V : ByteArray → Bool} {x : Ev} (h : evE V x = 0) : 2 ≤ x.kind ∧ x.kind ≤ 7 := by
  unfold evE at h
  split at h
  · omega
  split at h
  · omega
  split at h
  · omega
  · cases h
theorem MN.set1 {mb n : Nat} {ag : Option Addr} {cg i : Nat} {dn bl : Int} {W : World} (h : MN mb n ag cg i dn bl W) (j : Nat) : MN mb n ag cg j dn bl (W.setCell ⟨mb, 1, none⟩ (.int .i64 (j : Int))) :=
  ⟨(cell_set _ (.inr (by omega))).trans h.c0, World.cell?_setCell_same _ _ _ h.c1, (cell_set _ (.inr (by omega))).trans h.c2, (cell_set _ (.inr (by omega))).trans h.c3, fun o => (World.frozen?_setCell _ _ _ _).trans (h.f o), by simpa using h.lt⟩
theorem MN.set2 {mb n : Nat} {ag : Option Addr} {cg i : Nat} {dn bl : Int} {W : World} (h : MN mb n ag cg i dn bl W) (z : Int) : MN mb n ag cg i z bl (W.setCell ⟨mb, 2, none⟩ (.int .i64 z)) :=
  ⟨(cell_set _ (.inr (by omega))).trans h.c0, (cell_set _ (.inr (by omega))).trans h.c1, World.cell?_setCell_same _ _ _ h.c2, (cell_set _ (.inr (by omega))).trans h.c3, fun o => (World.frozen?_setCell _ _ _ _).trans (h.f o), by simpa using h.lt⟩
theorem MN.set3 {mb n : Nat} {ag : Option Addr} {cg i : Nat} {dn bl : Int} {W : World} (h : MN mb n ag cg i dn bl W) (z : Int) : MN mb n ag cg i dn z (W.setCell ⟨mb, 3, none⟩ (.int .i64 z)) :=
  ⟨(cell_set _ (.inr (by omega))).trans h.c0, (cell_set _ (.inr (by omega))).trans h.c1, (cell_set _ (.inr (by omega))).trans h.c2, World.cell?_setCell_same _ _ _ h.c3, fun o => (World.frozen?_setCell _ _ _ _).trans (h.f o), by simpa using h.lt⟩
def TAPost (V : ByteArray → Bool) (g : List Nd) (ag : Option Addr) (cg mb i : Nat) (dn bl : Int) (x : Ev) (w : World) (e : Ending) (w' : World) : Prop :=
  ∃ (i' : Nat) (dn' bl' v z : Int), e = .returned (.tuple #[.int .i64 v, .int .i64 z]) ∧ TKR V g i dn bl x i' dn' bl' v z ∧ MN mb g.length ag cg i' dn' bl' w' ∧ But3 mb mb mb w w'
set_option maxRecDepth 100000 in
set_option maxHeartbeats 8000000 in
theorem take_any {V : ByteArray → Bool} {Tabs : World → Prop} (hV : VSaid V Tabs) (hK : ∀ w w', Tabs w → Below w.heap.size w w' → Tabs w') (g : List Nd) (hg : GN g) (ag : Option Addr) (cg B mb i : Nat) (dn bl : Int) (d : Nat) (x : Ev) (al : Option Addr) (cl : Nat) (ak : Option Addr) (ck : Nat) (w : World) (hT : Tabs w) (hM : MN mb g.length ag cg i dn bl w) (hga : GAt w B g ag) (hB : B ≤ w.heap.size) (hi : i < g.length) (hdn : 0 ≤ dn ∧ dn ≤ 9223372036854775806) (hs : x.s.size ≤ 9223372036854775807) (hbd : TyBd x.carry cl ck) (hla : LA w w.heap.size x.carry.labels al) (hkt : KT w w.heap.size d x.carry.kids ak) :
    Calls Tryd.prog 12 #[.pointer (some ⟨mb, 0, none⟩), evVal x al cl ak ck] w (TAPost V g ag cg mb i dn bl x w) := by
  unfold TAPost
  have hA : Below w.heap.size w (w.alloc (.cells #[.int .i64 x.kind, .int .i64 x.so, .int .i64 x.n, .string x.s, .int .i64 x.carry.kind, .int .i64 x.carry.so, .string x.carry.name, .slice al x.carry.labels.length cl, .slice ak x.carry.kids.length ck, .string x.label] 39)) := (Below.refl _ _).alloc (Nat.le_refl _) _
  have c1 := checkE_any hV hK x al cl ak ck d (w.alloc (.cells #[.int .i64 x.kind, .int .i64 x.so, .int .i64 x.n, .string x.s, .int .i64 x.carry.kind, .int .i64 x.carry.so, .string x.carry.name, .slice al x.carry.labels.length cl, .slice ak x.carry.kids.length ck, .string x.label] 39)) (hK _ _ hT hA) hs hbd ((hla.keep hA).mono hA.size) ((hkt.keep hA).mono hA.size)
  have HE0 := hideK (show EvAt (w.alloc (.cells #[.int .i64 x.kind, .int .i64 x.so, .int .i64 x.n, .string x.s, .int .i64 x.carry.kind, .int .i64 x.carry.so, .string x.carry.name, .slice al x.carry.labels.length cl, .slice ak x.carry.kids.length ck, .string x.label] 39)) w.heap.size x al cl ak ck from ⟨by go_cell, by go_cell, by go_cell, by go_cell, by go_cell, by go_cell, by go_cell, by go_cell, by go_cell, by go_cell⟩)
  have HA := hideK hA
  have HMK := hideK (fun (W : World) (hb : Below w.heap.size w W) => hM.blk (hb.block mb hM.lt) hb.size)
  have CB := hideK (fun (W : World) (hb : Below w.heap.size w W) (hx : 2 ≤ x.kind ∧ x.kind ≤ 7) => behind_any g hg ag cg B mb i dn bl d x al cl ak ck W (hM.blk (hb.block mb hM.lt) hb.size) (hga.keep (hb.mono hB)) (Nat.le_trans hB hb.size) hi hbd ((hla.keep hb).mono hb.size) ((hkt.keep hb).mono hb.size) hx)
  have HKD := hideK (show evE V x = 0 → (2 ≤ x.kind ∧ x.kind ≤ 7) from fun h => evE_kind h)
  have hml := hM.lt
  have CD := hideK (fun W : World => doer_any x.kind W)
  unfold BHPost at CB
  unfold evVal at c1 CB ⊢
  have HEZ := hideK (show ∃ z, evE V x = z from ⟨_, rfl⟩)
  rcases HEZ.out with ⟨ez, hez⟩
  rw [hez] at c1 HKD
  replace HEZ := hideK hez
  clear hez
  have HS0 := hideK (show (w.alloc (.cells #[.int .i64 x.kind, .int .i64 x.so, .int .i64 x.n, .string x.s, .int .i64 x.carry.kind, .int .i64 x.carry.so, .string x.carry.name, .slice al x.carry.labels.length cl, .slice ak x.carry.kids.length ck, .string x.label] 39)).heap.size = w.heap.size + 1 from by simp)
  clear hM hga hbd hla hkt hA hT hV hK hs
  go_enter Tryd.func12, Tryd.ntmps12
  go_upto_region 1 with fail
  generalize w.alloc (.cells #[.int .i64 x.kind, .int .i64 x.so, .int .i64 x.n, .string x.s, .int .i64 x.carry.kind, .int .i64 x.carry.so, .string x.carry.name, .slice al x.carry.labels.length cl, .slice ak x.carry.kids.length ck, .string x.label] 39) = W0 at *
  obtain ⟨e0, e1, e2, e3, e4, e5, e6, e7, e8, e9⟩ := HE0.out
  go_wp2_with fail
  refine c1.mono ?_
  rintro e w1 ⟨rfl, hb1⟩
  have hs0 := HS0.out
  have hs1 := hb1.size
  have HB1 := hideK (HA.out.trans (hb1.mono HA.out.size))
  have HE1 := hideK (HE0.out.keep hb1 (by omega))
  have HM1 := hideK (HMK.out w1 HB1.out)
  clear c1 hb1 HA HE0 HMK e0 e1 e2 e3 e4 e5 e6 e7 e8 e9
  by_cases hz : ez = 0
  · subst hz
    have m3 := HM1.out.c3
    by_cases hbl : bl = 0
    · subst hbl
      obtain ⟨e0, e1, e2, e3, e4, e5, e6, e7, e8, e9⟩ := HE1.out
      have CB1 := CB.out w1 HB1.out (HKD.out rfl)
      clear CB HKD
      go_wp2_with fail
      refine CB1.mono ?_
      rintro e w2 ⟨hor, hb2⟩
      have HB2 := hideK (HB1.out.trans (hb2.mono HB1.out.size))
      have HE2 := hideK (HE1.out.keep hb2 (by omega))
      have HM2 := hideK (HM1.out.keep hb2)
      clear CB1 hb2 m3 e0 e1 e2 e3 e4 e5 e6 e7 e8 e9 HE1 HM1
      rcases hor with ⟨j, hj, rfl⟩ | ⟨hn, zz, rfl⟩
      · obtain ⟨m0, m1, m2, m3, mf, ml⟩ := HM2.out
        have f1 := mf 1
        have f2 := mf 2
        have hwr : IntKind.i64.wrap (dn + 1) = dn + 1 := by rw [IntKind.wrap_i64]; omega
        have HM3 := hideK ((HM2.out.set1 j).set2 (dn + 1))
        have HB3 := hideK (((But3.below HB2.out : But3 mb mb mb w w2).set (b := mb) (o := 1) (.inl rfl) (.int .i64 (j : Int))).set (b := mb) (o := 2) (.inl rfl) (.int .i64 (dn + 1)))
        have m2' := (HM2.out.set1 j).c2
        have f2' := (HM2.out.set1 j).f 2
        have HJ := hideK hj
        clear hj mf CD
        go_wp2_with fail
        go_ret2
        exact ⟨j, dn + 1, 0, 0, 0, rfl, Or.inr ⟨HEZ.out, rfl, Or.inr ⟨rfl, Or.inl ⟨HJ.out, rfl, rfl, rfl⟩⟩⟩, HM3.out, HB3.out⟩
      · have HN := hideK hn
        obtain ⟨e0, e1, e2, e3, e4, e5, e6, e7, e8, e9⟩ := HE2.out
        clear hn
        go_wp2_with fail
        refine (CD.out _).mono ?_
        rintro e w3 ⟨rfl, hb3⟩
        have HB3 := hideK (HB2.out.trans (hb3.mono HB2.out.size))
        have HM3 := hideK (HM2.out.keep hb3)
        obtain ⟨m0, m1, m2, m3, mf, ml⟩ := HM3.out
        have f3 := mf 3
        generalize hdz : doerZ x.kind = dz at *
        have HDZ := hideK hdz
        clear hdz
        have HM4 := hideK (HM3.out.set3 dz)
        have m3' := HM4.out.c3
        have HB4 := hideK ((But3.below HB3.out : But3 mb mb mb w w3).set (b := mb) (o := 3) (.inl rfl) (.int .i64 dz))
        clear mf CD hb3
        go_wp2_with fail
        go_ret2
        exact ⟨i, dn, dz, dz, 0, rfl, Or.inr ⟨HEZ.out, rfl, Or.inr ⟨rfl, Or.inr ⟨HN.out, rfl, rfl, HDZ.out.symm, HDZ.out.symm⟩⟩⟩, HM4.out, HB4.out⟩
    · have kb : (bl != 0) = true := by simpa using hbl
      have HBL := hideK hbl
      clear hbl CB HKD CD
      go_wp2_with fail
      go_ret2
      exact ⟨i, dn, bl, bl, 0, rfl, Or.inr ⟨HEZ.out, rfl, Or.inl ⟨HBL.out, rfl, rfl, rfl, rfl⟩⟩, HM1.out, But3.below HB1.out⟩
  · have kz : (ez != 0) = true := by simpa using hz
    have HZ := hideK hz
    clear hz CB HKD CD
    go_wp2_with fail
    go_ret2
    exact ⟨i, dn, bl, 0, ez, rfl, Or.inl ⟨by rw [HEZ.out]; exact HZ.out, rfl, rfl, rfl, rfl, HEZ.out.symm⟩, HM1.out, But3.below HB1.out⟩
end Go.Proofs.YthhbbhijpkoelaaDoor
