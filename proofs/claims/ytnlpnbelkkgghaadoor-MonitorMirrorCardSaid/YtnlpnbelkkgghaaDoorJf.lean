/-
  The contract of a monitor's Take.
-/
import Derived.Test.YtnlpnbelkkgghaaDoorMj
import Derived.Test.YtnlpnbelkkgghaaDoorMl
import Derived.Test.YtnlpnbelkkgghaaDoorIg
namespace Go.Proofs.YtnlpnbelkkgghaaDoor
open Go.RowKit Go.Shelf

/-- what a monitor does with an event -/
def TKR (V : ByteArray → Bool) (g : List Nd) (i : Nat) (dn bl : Int) (x : Ev) (i' : Nat) (dn' bl' v z : Int) : Prop :=
  (evE V x ≠ 0 ∧ i' = i ∧ dn' = dn ∧ bl' = bl ∧ v = 0 ∧ z = evE V x) ∨
  (evE V x = 0 ∧ z = 0 ∧ ((bl ≠ 0 ∧ i' = i ∧ dn' = dn ∧ bl' = bl ∧ v = bl) ∨ (bl = 0 ∧ ((goesE g i x i' ∧ dn' = dn + 1 ∧ bl' = 0 ∧ v = 0) ∨ ((∀ j, ¬ goesE g i x j) ∧ i' = i ∧ dn' = dn ∧ bl' = doerZ x.kind ∧ v = doerZ x.kind)))))
theorem evE_kind {V : ByteArray → Bool} {x : Ev} (h : evE V x = 0) : 2 ≤ x.kind ∧ x.kind ≤ 7 := by
  unfold evE at h
  split at h
  · omega
  split at h
  · omega
  split at h
  · omega
  · cases h
theorem MN.set1 {mb n : Nat} {ag : Option Addr} {cg i : Nat} {dn bl : Int} {W : World} (h : MN mb n ag cg i dn bl W) (j : Nat) : MN mb n ag cg j dn bl (W.setCell ⟨mb, 1, none⟩ (.int .i64 (j : Int))) :=
  ⟨(cell_set _ (.inr (by omega))).trans h.c0, World.cell?_setCell_same _ _ _ h.c1, (cell_set _ (.inr (by omega))).trans h.c2, (cell_set _ (.inr (by omega))).trans h.c3, fun o => (World.frozen?_setCell _ _ _ _).trans (h.f o), by simpa using h.lt⟩
theorem MN.set2 {mb n : Nat} {ag : Option Addr} {cg i : Nat} {dn bl : Int} {W : World} (h : MN mb n ag cg i dn bl W) (z : Int) : MN mb n ag cg i z bl (W.setCell ⟨mb, 2, none⟩ (.int .i64 z)) :=
  ⟨(cell_set _ (.inr (by omega))).trans h.c0, (cell_set _ (.inr (by omega))).trans h.c1, World.cell?_setCell_same _ _ _ h.c2, (cell_set _ (.inr (by omega))).trans h.c3, fun o => (World.frozen?_setCell _ _ _ _).trans (h.f o), by simpa using h.lt⟩
theorem MN.set3 {mb n : Nat} {ag : Option Addr} {cg i : Nat} {dn bl : Int} {W : World} (h : MN mb n ag cg i dn bl W) (z : Int) : MN mb n ag cg i dn z (W.setCell ⟨mb, 3, none⟩ (.int .i64 z)) :=
  ⟨(cell_set _ (.inr (by omega))).trans h.c0, (cell_set _ (.inr (by omega))).trans h.c1, (cell_set _ (.inr (by omega))).trans h.c2, World.cell?_setCell_same _ _ _ h.c3, fun o => (World.frozen?_setCell _ _ _ _).trans (h.f o), by simpa using h.lt⟩
def TAPost (V : ByteArray → Bool) (g : List Nd) (ag : Option Addr) (cg mb i : Nat) (dn bl : Int) (x : Ev) (w : World) (e : Ending) (w' : World) : Prop :=
  ∃ (i' : Nat) (dn' bl' v z : Int), e = .returned (.tuple #[.int .i64 v, .int .i64 z]) ∧ TKR V g i dn bl x i' dn' bl' v z ∧ MN mb g.length ag cg i' dn' bl' w' ∧ But3 mb mb mb w w'
set_option maxRecDepth 100000 in
set_option maxHeartbeats 8000000 in
theorem take_any {V : ByteArray → Bool} {Tabs : World → Prop} (hV : VSaid V Tabs) (hK : ∀ w w', Tabs w → Below w.heap.size w w' → Tabs w') (g : List Nd) (hg : GN g) (ag : Option Addr) (cg B mb i : Nat) (dn bl : Int) (d : Nat) (x : Ev) (al : Option Addr) (cl : Nat) (ak : Option Addr) (ck : Nat) (w : World) (hT : Tabs w) (hM : MN mb g.length ag cg i dn bl w) (hga : GAt w B g ag) (hB : B ≤ w.heap.size) (hi : i < g.length) (hdn : 0 ≤ dn ∧ dn ≤ 9223372036854775806) (hs : x.s.size ≤ 9223372036854775807) (hbd : TyBd x.carry cl ck) (hla : LA w w.heap.size x.carry.labels al) (hkt : KT w w.heap.size d x.carry.kids ak) :
    Calls Tryd.prog 27 #[.pointer (some ⟨mb, 0, none⟩), evVal x al cl ak ck] w (TAPost V g ag cg mb i dn bl x w) := by
  unfold TAPost
  have hA : Below w.heap.size w (w.alloc (.cells #[.int .i64 x.kind, .int .i64 x.so, .int .i64 x.n, .string x.s, .int .i64 x.carry.kind, .int .i64 x.carry.so, .string x.carry.name, .slice al x.carry.labels.length cl, .slice ak x.carry.kids.length ck, .string x.label] 63)) := (Below.refl _ _).alloc (Nat.le_refl _) _
  have c1 := checkE_any hV hK x al cl ak ck d (w.alloc (.cells #[.int .i64 x.kind, .int .i64 x.so, .int .i64 x.n, .string x.s, .int .i64 x.carry.kind, .int .i64 x.carry.so, .string x.carry.name, .slice al x.carry.labels.length cl, .slice ak x.carry.kids.length ck, .string x.label] 63)) (hK _ _ hT hA) hs hbd ((hla.keep hA).mono hA.size) ((hkt.keep hA).mono hA.size)
  have HE0 := hideK (show EvAt (w.alloc (.cells #[.int .i64 x.kind, .int .i64 x.so, .int .i64 x.n, .string x.s, .int .i64 x.carry.kind, .int .i64 x.carry.so, .string x.carry.name, .slice al x.carry.labels.length cl, .slice ak x.carry.kids.length ck, .string x.label] 63)) w.heap.size x al cl ak ck from ⟨by go_cell, by go_cell, by go_cell, by go_cell, by go_cell, by go_cell, by go_cell, by go_cell, by go_cell, by go_cell⟩)
  have HA := hideK hA
  have HMK := hideK (fun (W : World) (hb : Below w.heap.size w W) => hM.blk (hb.block mb hM.lt) hb.size)
  have CB := hideK (fun (W : World) (hb : Below w.heap.size w W) (hx : 2 ≤ x.kind ∧ x.kind ≤ 7) => behind_any g hg ag cg B mb i dn bl d x al cl ak ck W (hM.blk (hb.block mb hM.lt) hb.size) (hga.keep (hb.mono hB)) (Nat.le_trans hB hb.size) hi hbd ((hla.keep hb).mono hb.size) ((hkt.keep hb).mono hb.size) hx)
  have HKD := hideK (show evE V x = 0 → (2 ≤ x.kind ∧ x.kind ≤ 7) from fun h => evE_kind h)
  have hml := hM.lt
  have CD := hideK (fun W : World => doer_any x.kind W)
  unfold BHPost at CB
  unfold evVal at c1 CB ⊢
  have HEZ := hideK (show ∃ z, evE V x = z from ⟨_, rfl⟩)
  rcases HEZ.out with ⟨ez, hez⟩
  rw [hez] at c1 HKD
  replace HEZ := hideK hez
  clear hez
  have HS0 := hideK (show (w.alloc (.cells #[.int .i64 x.kind, .int .i64 x.so, .int .i64 x.n, .string x.s, .int .i64 x.carry.kind, .int .i64 x.carry.so, .string x.carry.name, .slice al x.carry.labels.length cl, .slice ak x.carry.kids.length ck, .string x.label] 63)).heap.size = w.heap.size + 1 from by simp)
  clear hM hga hbd hla hkt hA hT hV hK hs
  go_enter Tryd.func27, Tryd.ntmps27
  go_upto_region 1 with fail
  generalize w.alloc (.cells #[.int .i64 x.kind, .int .i64 x.so, .int .i64 x.n, .string x.s, .int .i64 x.carry.kind, .int .i64 x.carry.so, .string x.carry.name, .slice al x.carry.labels.length cl, .slice ak x.carry.kids.length ck, .string x.label] 63) = W0 at *
  obtain ⟨e0, e1, e2, e3, e4, e5, e6, e7, e8, e9⟩ := HE0.out
  go_wp2_with fail
  refine c1.mono ?_
  rintro e w1 ⟨rfl, hb1⟩
  have hs0 := HS0.out
  have hs1 := hb1.size
  have HB1 := hideK (HA.out.trans (hb1.mono HA.out.size))
  have HE1 := hideK (HE0.out.keep hb1 (by omega))
  have HM1 := hideK (HMK.out w1 HB1.out)
  clear c1 hb1 HA HE0 HMK e0 e1 e2 e3 e4 e5 e6 e7 e8 e9
  by_cases hz : ez = 0
  · subst hz
    have m3 := HM1.out.c3
    by_cases hbl : bl = 0
    · subst hbl
      obtain ⟨e0, e1, e2, e3, e4, e5, e6, e7, e8, e9⟩ := HE1.out
      have CB1 := CB.out w1 HB1.out (HKD.out rfl)
      clear CB HKD
      go_wp2_with fail
      refine CB1.mono ?_
      rintro e w2 ⟨hor, hb2⟩
      have HB2 := hideK (HB1.out.trans (hb2.mono HB1.out.size))
      have HE2 := hideK (HE1.out.keep hb2 (by omega))
      have HM2 := hideK (HM1.out.keep hb2)
      clear CB1 hb2 m3 e0 e1 e2 e3 e4 e5 e6 e7 e8 e9 HE1 HM1
      rcases hor with ⟨j, hj, rfl⟩ | ⟨hn, zz, rfl⟩
      · obtain ⟨m0, m1, m2, m3, mf, ml⟩ := HM2.out
        have f1 := mf 1
        have f2 := mf 2
        have hwr : IntKind.i64.wrap (dn + 1) = dn + 1 := by rw [IntKind.wrap_i64]; omega
        have HM3 := hideK ((HM2.out.set1 j).set2 (dn + 1))
        have HB3 := hideK (((But3.below HB2.out : But3 mb mb mb w w2).set (b := mb) (o := 1) (.inl rfl) (.int .i64 (j : Int))).set (b := mb) (o := 2) (.inl rfl) (.int .i64 (dn + 1)))
        have m2' := (HM2.out.set1 j).c2
        have f2' := (HM2.out.set1 j).f 2
        have HJ := hideK hj
        clear hj mf CD
        go_wp2_with fail
        go_ret2
        exact ⟨j, dn + 1, 0, 0, 0, rfl, Or.inr ⟨HEZ.out, rfl, Or.inr ⟨rfl, Or.inl ⟨HJ.out, rfl, rfl, rfl⟩⟩⟩, HM3.out, HB3.out⟩
      · have HN := hideK hn
        obtain ⟨e0, e1, e2, e3, e4, e5, e6, e7, e8, e9⟩ := HE2.out
        clear hn
        go_wp2_with fail
        refine (CD.out _).mono ?_
        rintro e w3 ⟨rfl, hb3⟩
        have HB3 := hideK (HB2.out.trans (hb3.mono HB2.out.size))
        have HM3 := hideK (HM2.out.keep hb3)
        obtain ⟨m0, m1, m2, m3, mf, ml⟩ := HM3.out
        have f3 := mf 3
        generalize hdz : doerZ x.kind = dz at *
        have HDZ := hideK hdz
        clear hdz
        have HM4 := hideK (HM3.out.set3 dz)
        have m3' := HM4.out.c3
        have HB4 := hideK ((But3.below HB3.out : But3 mb mb mb w w3).set (b := mb) (o := 3) (.inl rfl) (.int .i64 dz))
        clear mf CD hb3
        go_wp2_with fail
        go_ret2
        exact ⟨i, dn, dz, dz, 0, rfl, Or.inr ⟨HEZ.out, rfl, Or.inr ⟨rfl, Or.inr ⟨HN.out, rfl, rfl, HDZ.out.symm, HDZ.out.symm⟩⟩⟩, HM4.out, HB4.out⟩
    · have kb : (bl != 0) = true := by simpa using hbl
      have HBL := hideK hbl
      clear hbl CB HKD CD
      go_wp2_with fail
      go_ret2
      exact ⟨i, dn, bl, bl, 0, rfl, Or.inr ⟨HEZ.out, rfl, Or.inl ⟨HBL.out, rfl, rfl, rfl, rfl⟩⟩, HM1.out, But3.below HB1.out⟩
  · have kz : (ez != 0) = true := by simpa using hz
    have HZ := hideK hz
    clear hz CB HKD CD
    go_wp2_with fail
    go_ret2
    exact ⟨i, dn, bl, 0, ez, rfl, Or.inl ⟨by rw [HEZ.out]; exact HZ.out, rfl, rfl, rfl, rfl, HEZ.out.symm⟩, HM1.out, But3.below HB1.out⟩
end Go.Proofs.YtnlpnbelkkgghaaDoor
/-
  Plain mathematics: the other end of a graph; one is below another one just if the other one's other end is below the one's (GAY, HOLE).
-/
namespace Go.Proofs.YtnlpnbelkkgghaaDoor

def kdD (k : Int) : Int := if k = 2 then 3 else if k = 3 then 2 else if k = 4 then 5 else if k = 5 then 4 else if k = 6 then 7 else if k = 7 then 6 else k
def tuL (n : Nd) (N : Nat) : List Nat := if n.kind = 4 ∨ n.kind = 5 then (match n.to with | [] => [] | a :: r => (a + N) :: r) else n.to
def keL (n : Nd) (N : Nat) : List Nat := n.to.map fun t => t + N
def othT (N : Nat) (n : Nd) : Nd := ⟨kdD n.kind, n.so, n.labs, tuL n N⟩
def othK (N : Nat) (n : Nd) : Nd := ⟨n.kind, n.so, n.labs, keL n N⟩
/-- each node turned, and behind all of these each as it is -/
def othG (g : List Nd) : List Nd := g.map (othT g.length) ++ g.map (othK g.length)
theorem okN_mk {n : Nd} (h : (n.kind = 1 ∧ n.so = 0 ∧ n.labs = [] ∧ n.to.length = 0) ∨ ((n.kind = 2 ∨ n.kind = 3) ∧ (n.so = 1 ∨ n.so = 2 ∨ n.so = 3) ∧ n.labs = [] ∧ n.to.length = 1) ∨ ((n.kind = 4 ∨ n.kind = 5) ∧ n.so = 0 ∧ n.labs = [] ∧ n.to.length = 2) ∨ ((n.kind = 6 ∨ n.kind = 7) ∧ n.so = 0 ∧ labsOK n.labs = true ∧ n.to.length = n.labs.length)) : okN n := by
  unfold okN partT
  have he : (⟨#[]⟩ : ByteArray).toList.isEmpty = true := by rw [ByteArray.toList_eq]; rfl
  simp only [List.length_map, he]
  rcases h with ⟨h1, h2, h3, h4⟩ | ⟨h1, h2, h3, h4⟩ | ⟨h1, h2, h3, h4⟩ | ⟨h1, h2, h3, h4⟩
  · rw [if_pos h1]; simp [h2, h3, h4]
  · rw [if_neg (by omega), if_pos h1]; simp [h2, h3, h4]
  · rw [if_neg (by omega), if_neg (by omega), if_pos h1]; simp [h2, h3, h4]
  · rw [if_neg (by omega), if_neg (by omega), if_neg (by omega), if_pos h1]; simp [h2, h3, h4]
theorem kdD_cases (k : Int) : (k = 2 → kdD k = 3) ∧ (k = 3 → kdD k = 2) ∧ (k = 4 → kdD k = 5) ∧ (k = 5 → kdD k = 4) ∧ (k = 6 → kdD k = 7) ∧ (k = 7 → kdD k = 6) ∧ (k = 1 → kdD k = 1) := by
  refine ⟨?_, ?_, ?_, ?_, ?_, ?_, ?_⟩ <;> (intro h; subst h; decide)
theorem tuL_len (n : Nd) (N : Nat) : (tuL n N).length = n.to.length := by
  unfold tuL
  split
  · split
    · rename_i e; rw [e]
    · rename_i e; rw [e]; rfl
  · rfl
theorem oth_ok {n : Nd} (N : Nat) (h : okN n) : okN (othT N n) ∧ okN (othK N n) := by
  have kd := kdD_cases n.kind
  have hl := tuL_len n N
  have hk : (keL n N).length = n.to.length := by simp [keL]
  constructor
  · refine okN_mk ?_
    show (kdD n.kind = 1 ∧ n.so = 0 ∧ n.labs = [] ∧ (tuL n N).length = 0) ∨ _
    rw [hl]
    rcases okN_cases h with ⟨h1, h2, h3, h4⟩ | ⟨h1, h2, h3, h4⟩ | ⟨h1, h2, h3, h4⟩ | ⟨h1, h2, h3, h4⟩
    · exact .inl ⟨kd.2.2.2.2.2.2 h1, h2, h3, h4⟩
    · exact .inr (.inl ⟨h1.elim (fun e => .inr (kd.1 e)) (fun e => .inl (kd.2.1 e)), h2, h3, by show (tuL n N).length = 1; omega⟩)
    · exact .inr (.inr (.inl ⟨h1.elim (fun e => .inr (kd.2.2.1 e)) (fun e => .inl (kd.2.2.2.1 e)), h2, h3, by show (tuL n N).length = 2; omega⟩))
    · exact .inr (.inr (.inr ⟨h1.elim (fun e => .inr (kd.2.2.2.2.1 e)) (fun e => .inl (kd.2.2.2.2.2.1 e)), h2, h3, by show (tuL n N).length = n.labs.length; omega⟩))
  · refine okN_mk ?_
    have := okN_cases h
    show (n.kind = 1 ∧ n.so = 0 ∧ n.labs = [] ∧ (keL n N).length = 0) ∨ ((n.kind = 2 ∨ n.kind = 3) ∧ (n.so = 1 ∨ n.so = 2 ∨ n.so = 3) ∧ n.labs = [] ∧ (keL n N).length = 1) ∨ ((n.kind = 4 ∨ n.kind = 5) ∧ n.so = 0 ∧ n.labs = [] ∧ (keL n N).length = 2) ∨ ((n.kind = 6 ∨ n.kind = 7) ∧ n.so = 0 ∧ labsOK n.labs = true ∧ (keL n N).length = n.labs.length)
    rw [hk]
    exact this
theorem oth_len (g : List Nd) : (othG g).length = 2 * g.length := by simp [othG]; omega
theorem tuL_lt {n : Nd} {N : Nat} (h : ∀ t ∈ n.to, t < N) : ∀ t ∈ tuL n N, t < 2 * N := by
  intro t ht
  unfold tuL at ht
  split at ht
  · split at ht
    · cases ht
    · rename_i a r e
      rcases List.mem_cons.1 ht with rfl | ht
      · have := h a (by rw [e]; exact .head _); omega
      · have := h t (by rw [e]; exact .tail _ ht); omega
  · have := h t ht; omega
theorem oth_gn {g : List Nd} (hg : GN g) (hl : g.length ≤ 100) : GN (othG g) := by
  refine ⟨by rw [oth_len]; have := hg.pos; omega, by rw [oth_len]; omega, fun n hn => ?_, fun n hn t ht => ?_⟩
  · unfold othG at hn
    rcases List.mem_append.1 hn with hn | hn
    · obtain ⟨m, hm, rfl⟩ := List.mem_map.1 hn; exact (oth_ok _ (hg.ok m hm)).1
    · obtain ⟨m, hm, rfl⟩ := List.mem_map.1 hn; exact (oth_ok _ (hg.ok m hm)).2
  · rw [oth_len]
    unfold othG at hn
    rcases List.mem_append.1 hn with hn | hn
    · obtain ⟨m, hm, rfl⟩ := List.mem_map.1 hn
      exact tuL_lt (fun t ht => hg.shut m hm t ht) t ht
    · obtain ⟨m, hm, rfl⟩ := List.mem_map.1 hn
      obtain ⟨x, hx, rfl⟩ := List.mem_map.1 ht
      have := hg.shut m hm x hx
      omega
theorem oth_at1 {g : List Nd} {i : Nat} (hi : i < g.length) : nodeAt (othG g) i = othT g.length (nodeAt g i) := by
  rw [nodeAt_lt g i hi]
  refine nodeAt_some ?_
  unfold othG
  rw [List.getElem?_append_left (by simpa using hi), List.getElem?_map, List.getElem?_eq_getElem hi]
  rfl
theorem oth_at2 {g : List Nd} {i : Nat} (hi : i < g.length) : nodeAt (othG g) (i + g.length) = othK g.length (nodeAt g i) := by
  rw [nodeAt_lt g i hi]
  refine nodeAt_some ?_
  unfold othG
  rw [List.getElem?_append_right (by simp), List.length_map, Nat.add_sub_cancel, List.getElem?_map, List.getElem?_eq_getElem hi]
  rfl
/-- what is kept does the same -/
theorem oth_kept {g : List Nd} (hg : GN g) : ∀ (k i : Nat), i < g.length → gT (othG g) k (i + g.length) = gT g k i
  | 0, _, _ => rfl
  | k + 1, i, hi => by
    rw [gT_eq_iff, oth_at2 hi]
    refine ⟨rfl, rfl, rfl, ?_⟩
    show (((nodeAt g i).to.map fun t => t + g.length).map _) = _
    rw [List.map_map]
    exact List.map_congr_left fun t ht => oth_kept hg k t (shut_at hg.shut i t ht)
theorem bl_resp {g h g' h' : List Nd} (Hg : GN g) (Hh : GN h) (Hg' : GN g') (Hh' : GN h') {k i j i' j' : Nat} (hi : i < g.length) (hj : j < h.length) (hi' : i' < g'.length) (hj' : j' < h'.length) (e1 : gT g' k i' = gT g k i) (e2 : gT h' k j' = gT h k j) : bl k g' h' i' j' ↔ bl k g h i j := by
  constructor
  · intro hb
    exact bl_trans k g g' h i i' j (bl_alike k g g' i i' Hg Hg' hi hi' e1.symm) (bl_trans k g' h' h i' j' j hb (bl_alike k h' h j' j Hh' Hh hj' hj e2))
  · intro hb
    exact bl_trans k g' g h' i' i j' (bl_alike k g' g i' i Hg' Hg hi' hi e1) (bl_trans k g h h' i j j' hb (bl_alike k h h' j j' Hh Hh' hj hj' e2.symm))
theorem tuL_0 {n : Nd} {N : Nat} (hk : n.kind = 4 ∨ n.kind = 5) (hl : 1 < n.to.length) : toAt (othT N n) 0 = toAt n 0 + N ∧ toAt (othT N n) 1 = toAt n 1 := by
  unfold toAt othT tuL
  simp only
  rw [if_pos hk]
  match hq : n.to, hl with
  | a :: b :: r, _ => exact ⟨rfl, rfl⟩
theorem tuL_x {n : Nd} {N : Nat} (hk : ¬ (n.kind = 4 ∨ n.kind = 5)) (x : Nat) : toAt (othT N n) x = toAt n x := by
  unfold toAt othT tuL
  simp only
  rw [if_neg hk]
end Go.Proofs.YtnlpnbelkkgghaaDoor
