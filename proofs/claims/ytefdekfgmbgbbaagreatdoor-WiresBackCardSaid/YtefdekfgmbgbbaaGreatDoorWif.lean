/-
  The contracts of package wires' asValue and asType.
-/
import Derived.Test.YtefdekfgmbgbbaaGreatDoorWie
import Derived.Test.YtefdekfgmbgbbaaGreatDoorWic
import Derived.Test.YtefdekfgmbgbbaaGreatDoorKma
namespace Go.Proofs.YtefdekfgmbgbbaaGreatDoor
open Go.RowKit Go.Shelf

/-- the boxes of asValue: what it hands back, and its value -/
structure AVB (w : World) (s : ByteArray) (W : World) : Prop where
  bl : Below w.heap.size w W
  sz : w.heap.size + 2 ≤ W.heap.size
  r0 : W.cell? ⟨w.heap.size, 0, none⟩ = some (.int .i64 0)
  r1 : W.cell? ⟨w.heap.size, 1, none⟩ = some (.int .i64 0)
  r2 : W.cell? ⟨w.heap.size, 2, none⟩ = some (.string ⟨#[]⟩)
  v0 : W.cell? ⟨w.heap.size + 1, 0, none⟩ = some (.int .i64 3)
  v1 : W.cell? ⟨w.heap.size + 1, 1, none⟩ = some (.int .i64 0)
  v2 : W.cell? ⟨w.heap.size + 1, 2, none⟩ = some (.string s)
  f0 : W.frozen? ⟨w.heap.size, 0, none⟩ = false
  f1 : W.frozen? ⟨w.heap.size, 1, none⟩ = false
  f2 : W.frozen? ⟨w.heap.size, 2, none⟩ = false
theorem AVB.keep {w W W' : World} {s : ByteArray} (h : AVB w s W) (hb : Below W.heap.size W W') : AVB w s W' := by
  have hsz := h.sz
  exact ⟨h.bl.trans (hb.mono h.bl.size), Nat.le_trans h.sz hb.size, (hb.cell (p := ⟨_, 0, none⟩) (by simp only; omega)).trans h.r0, (hb.cell (p := ⟨_, 1, none⟩) (by simp only; omega)).trans h.r1, (hb.cell (p := ⟨_, 2, none⟩) (by simp only; omega)).trans h.r2,
    (hb.cell (p := ⟨_, 0, none⟩) (by simp only; omega)).trans h.v0, (hb.cell (p := ⟨_, 1, none⟩) (by simp only; omega)).trans h.v1, (hb.cell (p := ⟨_, 2, none⟩) (by simp only; omega)).trans h.v2,
    (hb.frozen (p := ⟨_, 0, none⟩) (by simp only; omega)).trans h.f0, (hb.frozen (p := ⟨_, 1, none⟩) (by simp only; omega)).trans h.f1, (hb.frozen (p := ⟨_, 2, none⟩) (by simp only; omega)).trans h.f2⟩
/-- what of them a region reads -/
structure AVS (w : World) (s : ByteArray) (W : World) : Prop where
  bl : Below w.heap.size w W
  sz : w.heap.size + 2 ≤ W.heap.size
  v0 : W.cell? ⟨w.heap.size + 1, 0, none⟩ = some (.int .i64 3)
  v1 : W.cell? ⟨w.heap.size + 1, 1, none⟩ = some (.int .i64 0)
  v2 : W.cell? ⟨w.heap.size + 1, 2, none⟩ = some (.string s)
theorem AVB.s {w W : World} {s : ByteArray} (h : AVB w s W) : AVS w s W := ⟨h.bl, h.sz, h.v0, h.v1, h.v2⟩
/-- three cells, stored one after the other -/
def stV (W : World) (b : Nat) (v0 v1 v2 : Value) : World := ((W.setCell ⟨b, 0, none⟩ v0).setCell ⟨b, 1, none⟩ v1).setCell ⟨b, 2, none⟩ v2
theorem stV_other (W : World) (b : Nat) (v0 v1 v2 : Value) (b' o : Nat) (h : b' ≠ b) : (stV W b v0 v1 v2).cell? ⟨b', o, none⟩ = W.cell? ⟨b', o, none⟩ := by
  unfold stV
  rw [World.cell?_setCell_other _ _ _ _ (by intro e; simp only [Addr.mk.injEq] at e; omega), World.cell?_setCell_other _ _ _ _ (by intro e; simp only [Addr.mk.injEq] at e; omega), World.cell?_setCell_other _ _ _ _ (by intro e; simp only [Addr.mk.injEq] at e; omega)]
theorem stV_size (W : World) (b : Nat) (v0 v1 v2 : Value) : (stV W b v0 v1 v2).heap.size = W.heap.size := by unfold stV; simp
theorem stV_below {w W : World} {B b : Nat} (h : Below B w W) (hb : B ≤ b) (v0 v1 v2 : Value) : Below B w (stV W b v0 v1 v2) := by
  unfold stV
  exact ((h.setCell (p := ⟨b, 0, none⟩) hb _).setCell (p := ⟨b, 1, none⟩) hb _).setCell (p := ⟨b, 2, none⟩) hb _
theorem stV_at {W : World} {b : Nat} {u0 u1 u2 : Value} (h0 : W.cell? ⟨b, 0, none⟩ = some u0) (h1 : W.cell? ⟨b, 1, none⟩ = some u1) (h2 : W.cell? ⟨b, 2, none⟩ = some u2) (v0 v1 v2 : Value) :
    (stV W b v0 v1 v2).cell? ⟨b, 0, none⟩ = some v0 ∧ (stV W b v0 v1 v2).cell? ⟨b, 1, none⟩ = some v1 ∧ (stV W b v0 v1 v2).cell? ⟨b, 2, none⟩ = some v2 := by
  unfold stV
  exact ⟨by go_cell, by go_cell, by go_cell⟩
theorem AVS.st {w W : World} {s : ByteArray} (h : AVS w s W) (v0 v1 v2 : Value) : AVS w s (stV W w.heap.size v0 v1 v2) :=
  ⟨stV_below h.bl (Nat.le_refl _) _ _ _, by rw [stV_size]; exact h.sz, (stV_other _ _ _ _ _ _ _ (by omega)).trans h.v0, (stV_other _ _ _ _ _ _ _ (by omega)).trans h.v1, (stV_other _ _ _ _ _ _ _ (by omega)).trans h.v2⟩
section
variable {V : ByteArray → Bool} {Tabs : World → Prop}
set_option maxRecDepth 100000 in
set_option maxHeartbeats 4000000 in
theorem asValue_any (hV : VSaid V Tabs) (hK : ∀ w w', Tabs w → Below w.heap.size w w' → Tabs w') (s : ByteArray) (w : World) (hs : s.size ≤ 9223372036854775807) (hT : Tabs w) :
    Calls Tryz.prog 48 #[.string s] w fun e w' => e = .returned (.tuple #[.agg #[.int .i64 3, .int .i64 0, .string s], .bool (textZ V 0 s == 0)]) ∧ Below w.heap.size w w' := by
  have cC := hideK (fun (W : World) (hb : Below w.heap.size w W) => check_any V Tabs hV hK 3 0 s W hs (hK w W hT hb))
  have e3 : chkZ V 3 0 s = textZ V 0 s := rfl
  rw [e3] at cC
  generalize textZ V 0 s = z at *
  clear hV hK hT e3
  have H0 : AVB w s ((w.alloc (.cells #[.int .i64 0, .int .i64 0, .string ⟨#[]⟩] 27)).alloc (.cells #[.int .i64 3, .int .i64 0, .string s] 27)) :=
    ⟨((Below.refl _ _).alloc (Nat.le_refl _) _).alloc (by simp) _, by simp, by go_cell, by go_cell, by go_cell, by go_cell, by go_cell, by go_cell, by go_simp, by go_simp, by go_simp⟩
  have HB := hideK (H0.keep (Below.refl _ _).drew)
  have hS0 := HB.out.s
  clear H0
  go_enter Tryz.func48, Tryz.ntmps48
  go_upto_region 2 with fail
  refine wp_region_held_drew (S := fun W : World => AVS w s W) (by kernel_rfl) hS0 (fun hS => ?_)
  clear hS0
  obtain ⟨V0, hVV⟩ : ∃ x : World, x = World.drew ((w.alloc (.cells #[.int .i64 0, .int .i64 0, .string ⟨#[]⟩] 27)).alloc (.cells #[.int .i64 3, .int .i64 0, .string s] 27)) := ⟨_, rfl⟩
  rw [← hVV] at hS HB ⊢
  clear hVV
  refine tkR 0 (.agg #[.int .i64 3, .int .i64 0, .string s]) hS ?_ (hy := Or.inl ⟨by rfl, fun W hW => by obtain ⟨_, _, v0, v1, v2⟩ := id hW; go_simp⟩)
  refine tkR 1 (.agg #[.int .i64 3, .int .i64 0, .string s]) hS ?_ (hy := Or.inl ⟨by rfl, fun W hW => by obtain ⟨_, _, v0, v1, v2⟩ := id hW; go_simp⟩)
  refine ready_any [2] ?_
  refine cY ?_ cE
  refine opg 2 (fun K hK => ?_)
  go_simp
  refine (cC.out V0 hS.bl).mono ?_
  rintro e V2 ⟨rfl, hb2⟩
  replace HB := hideK (HB.out.keep hb2)
  have hSn : AVS w s V2 := HB.out.s
  refine hK.out _ _ hSn ?_
  clear hS hK K hb2
  intro hS
  clear hSn
  try simp only [Act.put, List.setIfInBounds_toArray, List.set_cons_zero, List.set_cons_succ]
  refine tkR 3 (.bool (z == 0)) hS ?_
  refine ready_any [4] ?_
  refine cY ?_ cE
  refine opg 4 (fun K hK => ?_)
  obtain ⟨_, _, r0, r1, r2, _, _, _, f0, f1, f2⟩ := id HB.out
  have HS := hideK (hS.st (.int .i64 3) (.int .i64 0) (.string s))
  have HR := hideK (stV_at r0 r1 r2 (.int .i64 3) (.int .i64 0) (.string s))
  go_simp
  refine hK.out _ (stV V2 w.heap.size (.int .i64 3) (.int .i64 0) (.string s)) HS.out ?_
  clear hS hK K r0 r1 r2 f0 f1 f2 HB
  intro hS
  try simp only [Act.put, List.setIfInBounds_toArray, List.set_cons_zero, List.set_cons_succ]
  generalize stV V2 w.heap.size (.int .i64 3) (.int .i64 0) (.string s) = V4 at *
  refine ready_any [5] ?_
  refine cY ?_ cE
  refine opg 5 (fun K hK => ?_)
  go_simp
  refine hK.out _ _ hS ?_
  clear hS hK K
  intro hS
  try simp only [Act.put, List.setIfInBounds_toArray, List.set_cons_zero, List.set_cons_succ]
  refine wpAnyH_done (by kernel_rfl) ?_ _
  go_wp2_with fail
  obtain ⟨r0, r1, r2⟩ := HR.out
  refine bodyPost_ret (v := .tuple #[.agg #[.int .i64 3, .int .i64 0, .string s], .bool (z == 0)]) (by simp [results, Tryz.results48, go_sem, r0, r1, r2]) rfl ?_
  exact ⟨rfl, hS.bl⟩
end
set_option maxRecDepth 100000 in
set_option maxHeartbeats 4000000 in
theorem asType_yes (s : ByteArray) (t : Ty) (h : asTy s.data.toList = some t) (w : World) :
    Calls Tryz.prog 33 #[.string s] w fun e w' => (∃ al cl ak ck, e = .returned (.tuple #[.agg #[.int .i64 t.kind, .int .i64 t.so, .string t.name, .slice al t.labels.length cl, .slice ak t.kids.length ck], .bool true]) ∧ GT w w' 2001 t al cl ak ck) ∧ Below w.heap.size w w' := by
  obtain ⟨hp, hw⟩ : psT s.data.toList = .ok t ∧ wrT t = s.data.toList := by
    unfold asTy at h
    split at h
    · next t' ht => split at h; · next hq => injection h with h; subst h; exact ⟨ht, hq⟩
                    · cases h
    · cases h
  have hc : chkTy t = 0 := (ps_ok _ _ hp).1
  have hA : Below w.heap.size w (w.alloc (.cells #[.int .i64 0, .int .i64 0, .string ⟨#[]⟩, .slice none 0 0, .slice none 0 0] 31)) := (Below.refl _ _).alloc (Nat.le_refl _) _
  have cP := parse_new s t hp (w.alloc (.cells #[.int .i64 0, .int .i64 0, .string ⟨#[]⟩, .slice none 0 0, .slice none 0 0] 31))
  clear hp h
  go_enter Tryz.func33, Tryz.ntmps33
  go_wp2_with (go_at_call 50; refine cP.mono ?_; rintro e w1 ⟨⟨al, cl, ak, ck, rfl, hg⟩, hb1⟩)
  clear cP
  have hN := hideK hg
  have F2 := hideK (show FR w.heap.size w1 ((w1.alloc (.cells #[.int .i64 t.kind, .int .i64 t.so, .string t.name, .slice al t.labels.length cl, .slice ak t.kids.length ck] 31)).alloc (.cells #[.int .i64 0, .int .i64 0] 35)) from (FR.al _).trans (FR.al _))
  have hsz1 := hb1.size
  simp at hsz1
  have G2 := hideK (hg.keep F2.out (by simp))
  have C2 := hideK ((TyAt.lit w1 t al cl ak ck).keepF (FR.al (pb := w1.heap.size + 1) (.cells #[.int .i64 0, .int .i64 0] 35)) (by omega) (by simp))
  have Z1 := hideK (((ZT.new w).keep (FR.of (pb := w.heap.size + 1) hb1) (by omega)).keep (show FR (w.heap.size + 1) w1 ((w1.alloc (.cells #[.int .i64 t.kind, .int .i64 t.so, .string t.name, .slice al t.labels.length cl, .slice ak t.kids.length ck] 31)).alloc (.cells #[.int .i64 0, .int .i64 0] 35)) from (FR.al _).trans (FR.al _)) (by omega))
  have B2 := hideK ((hA.trans (hb1.mono hA.size)).trans (show Below w.heap.size w1 ((w1.alloc (.cells #[.int .i64 t.kind, .int .i64 t.so, .string t.name, .slice al t.labels.length cl, .slice ak t.kids.length ck] 31)).alloc (.cells #[.int .i64 0, .int .i64 0] 35)) from ((Below.refl _ _).alloc (by omega) _).alloc (by simp; omega) _))
  have cW := write_good 2001 t al cl ak ck _ G2.out.bd (G2.out.la.toLA (fun _ hb => hb.2)) (G2.out.ka.toKT (fun _ hb => hb.2)) hc
  clear hg hA hb1
  rw [hw, bs_data] at cW
  clear hw hc
  go_wp2_with fail
  refine cW.mono ?_
  rintro e w3 ⟨rfl, hb3⟩
  have C3 := C2.out.keep hb3 (by simp; omega)
  obtain ⟨x0, x1, x2, x3, x4⟩ := id C3
  simp only [Nat.zero_add] at x1 x2 x3 x4
  have Z3 := Z1.out.keep (FR.of (pb := w.heap.size + 1) hb3) (by omega)
  obtain ⟨zl, z0, z1, z2, z3, z4, y0, y1, y2, y3, y4⟩ := id Z3
  have G3 := hideK (G2.out.keep (FR.of (pb := w.heap.size) hb3) (by simp))
  have B3 := hideK (B2.out.trans (hb3.mono B2.out.size))
  clear cW hb3
  go_wp2_with fail
  have TA := Z3.st t al cl ak ck
  have B9 := hideK (st5_below w.heap.size 0 (.int .i64 t.kind) (.int .i64 t.so) (.string t.name) (.slice al t.labels.length cl) (.slice ak t.kids.length ck) B3.out (Nat.le_refl _))
  have G9 := hideK (G3.out.st (w := w) (b := w.heap.size) (by simp) (.int .i64 t.kind) (.int .i64 t.so) (.string t.name) (.slice al t.labels.length cl) (.slice ak t.kids.length ck) (by simp))
  change bodyPost _ _ _ _ _ (st5 w3 w.heap.size 0 (.int .i64 t.kind) (.int .i64 t.so) (.string t.name) (.slice al t.labels.length cl) (.slice ak t.kids.length ck))
  generalize st5 w3 w.heap.size 0 (.int .i64 t.kind) (.int .i64 t.so) (.string t.name) (.slice al t.labels.length cl) (.slice ak t.kids.length ck) = W9 at TA B9 G9 ⊢
  obtain ⟨r0, r1, r2, r3, r4⟩ := TA
  simp only [Nat.zero_add] at r1 r2 r3 r4
  refine bodyPost_ret (v := .tuple #[.agg #[.int .i64 t.kind, .int .i64 t.so, .string t.name, .slice al t.labels.length cl, .slice ak t.kids.length ck], .bool true]) (by simp [results, Tryz.results33, go_sem, r0, r1, r2, r3, r4]) rfl ?_
  exact ⟨⟨al, cl, ak, ck, rfl, G9.out⟩, B9.out⟩
set_option maxRecDepth 100000 in
set_option maxHeartbeats 4000000 in
theorem asType_no (s : ByteArray) (h : asTy s.data.toList = none) (w : World) :
    Calls Tryz.prog 33 #[.string s] w fun e w' => (∃ (t : Ty) (al : Option Addr) (cl : Nat) (ak : Option Addr) (ck : Nat), e = .returned (.tuple #[.agg #[.int .i64 t.kind, .int .i64 t.so, .string t.name, .slice al t.labels.length cl, .slice ak t.kids.length ck], .bool false])) ∧ Below w.heap.size w w' := by
  have hA : Below w.heap.size w (w.alloc (.cells #[.int .i64 0, .int .i64 0, .string ⟨#[]⟩, .slice none 0 0, .slice none 0 0] 31)) := (Below.refl _ _).alloc (Nat.le_refl _) _
  cases hp : psT s.data.toList with
  | error x =>
    obtain ⟨c, a⟩ := x
    have hc := ps_code _ _ _ hp
    have hcb : (c == 0) = false := by simpa using hc
    have hcn : (c != 0) = true := by simpa using hc
    have cP := parse_err s c a hp (w.alloc (.cells #[.int .i64 0, .int .i64 0, .string ⟨#[]⟩, .slice none 0 0, .slice none 0 0] 31))
    clear hp h
    go_enter Tryz.func33, Tryz.ntmps33
    go_wp2_with (go_at_call 50; go_must (refine cP.mono ?_; rintro e w1 ⟨rfl, hb1⟩; have hsz1 := hb1.size; simp at hsz1; have Z3 := ((ZT.new w).keep (FR.of (pb := w.heap.size + 1) hb1) (by omega)).keep (show FR (w.heap.size + 1) w1 ((w1.alloc (.cells #[.int .i64 0, .int .i64 0, .string ⟨#[]⟩, .slice none 0 0, .slice none 0 0] 31)).alloc (.cells #[.int .i64 c, .int .i64 (a : Int)] 35)) from (FR.al _).trans (FR.al _)) (by omega); obtain ⟨zl, z0, z1, z2, z3, z4, y0, y1, y2, y3, y4⟩ := id Z3; have B3 := hideK ((hA.trans (hb1.mono hA.size)).trans (show Below w.heap.size w1 ((w1.alloc (.cells #[.int .i64 0, .int .i64 0, .string ⟨#[]⟩, .slice none 0 0, .slice none 0 0] 31)).alloc (.cells #[.int .i64 c, .int .i64 (a : Int)] 35)) from ((Below.refl _ _).alloc (by omega) _).alloc (by simp; omega) _))))
    have TA := Z3.st ⟨0, 0, ⟨#[]⟩, [], []⟩ none 0 none 0
    have B9 := hideK (st5_below w.heap.size 0 (.int .i64 0) (.int .i64 0) (.string ⟨#[]⟩) (.slice none 0 0) (.slice none 0 0) B3.out (Nat.le_refl _))
    change TyAt (st5 ((w1.alloc (.cells #[.int .i64 0, .int .i64 0, .string ⟨#[]⟩, .slice none 0 0, .slice none 0 0] 31)).alloc (.cells #[.int .i64 c, .int .i64 (a : Int)] 35)) w.heap.size 0 (.int .i64 0) (.int .i64 0) (.string ⟨#[]⟩) (.slice none 0 0) (.slice none 0 0)) _ _ _ _ _ _ _ at TA
    change bodyPost _ _ _ _ _ (st5 ((w1.alloc (.cells #[.int .i64 0, .int .i64 0, .string ⟨#[]⟩, .slice none 0 0, .slice none 0 0] 31)).alloc (.cells #[.int .i64 c, .int .i64 (a : Int)] 35)) w.heap.size 0 (.int .i64 0) (.int .i64 0) (.string ⟨#[]⟩) (.slice none 0 0) (.slice none 0 0))
    generalize st5 ((w1.alloc (.cells #[.int .i64 0, .int .i64 0, .string ⟨#[]⟩, .slice none 0 0, .slice none 0 0] 31)).alloc (.cells #[.int .i64 c, .int .i64 (a : Int)] 35)) w.heap.size 0 (.int .i64 0) (.int .i64 0) (.string ⟨#[]⟩) (.slice none 0 0) (.slice none 0 0) = W9 at TA B9 ⊢
    obtain ⟨r0, r1, r2, r3, r4⟩ := TA
    simp only [Nat.zero_add, List.length_nil] at r1 r2 r3 r4
    refine bodyPost_ret (v := .tuple #[.agg #[.int .i64 0, .int .i64 0, .string ⟨#[]⟩, .slice none 0 0, .slice none 0 0], .bool false]) (by simp [results, Tryz.results33, go_sem, r0, r1, r2, r3, r4]) rfl ?_
    exact ⟨⟨⟨0, 0, ⟨#[]⟩, [], []⟩, none, 0, none, 0, rfl⟩, B9.out⟩
  | ok t =>
    have hw : wrT t ≠ s.data.toList := by
      intro e
      unfold asTy at h
      rw [hp] at h
      simp only at h
      rw [if_pos e] at h
      cases h
    have hne : ((bs (wrT t)).toList == s.toList) = false := by
      rw [ByteArray.toList_eq, ByteArray.toList_eq, bs_list]
      simpa using hw
    have hc : chkTy t = 0 := (ps_ok _ _ hp).1
    have cP := parse_new s t hp (w.alloc (.cells #[.int .i64 0, .int .i64 0, .string ⟨#[]⟩, .slice none 0 0, .slice none 0 0] 31))
    clear hp h
    go_enter Tryz.func33, Tryz.ntmps33
    go_wp2_with (go_at_call 50; refine cP.mono ?_; rintro e w1 ⟨⟨al, cl, ak, ck, rfl, hg⟩, hb1⟩)
    clear cP
    have hN := hideK hg
    have F2 := hideK (show FR w.heap.size w1 ((w1.alloc (.cells #[.int .i64 t.kind, .int .i64 t.so, .string t.name, .slice al t.labels.length cl, .slice ak t.kids.length ck] 31)).alloc (.cells #[.int .i64 0, .int .i64 0] 35)) from (FR.al _).trans (FR.al _))
    have hsz1 := hb1.size
    simp at hsz1
    have G2 := hideK (hg.keep F2.out (by simp))
    have C2 := hideK ((TyAt.lit w1 t al cl ak ck).keepF (FR.al (pb := w1.heap.size + 1) (.cells #[.int .i64 0, .int .i64 0] 35)) (by omega) (by simp))
    have Z1 := hideK (((ZT.new w).keep (FR.of (pb := w.heap.size + 1) hb1) (by omega)).keep (show FR (w.heap.size + 1) w1 ((w1.alloc (.cells #[.int .i64 t.kind, .int .i64 t.so, .string t.name, .slice al t.labels.length cl, .slice ak t.kids.length ck] 31)).alloc (.cells #[.int .i64 0, .int .i64 0] 35)) from (FR.al _).trans (FR.al _)) (by omega))
    have B2 := hideK ((hA.trans (hb1.mono hA.size)).trans (show Below w.heap.size w1 ((w1.alloc (.cells #[.int .i64 t.kind, .int .i64 t.so, .string t.name, .slice al t.labels.length cl, .slice ak t.kids.length ck] 31)).alloc (.cells #[.int .i64 0, .int .i64 0] 35)) from ((Below.refl _ _).alloc (by omega) _).alloc (by simp; omega) _))
    have cW := write_good 2001 t al cl ak ck _ G2.out.bd (G2.out.la.toLA (fun _ hb => hb.2)) (G2.out.ka.toKT (fun _ hb => hb.2)) hc
    clear hg hA hb1
    generalize bs (wrT t) = u at *
    clear hw hc
    go_wp2_with fail
    refine cW.mono ?_
    rintro e w3 ⟨rfl, hb3⟩
    have C3 := C2.out.keep hb3 (by simp; omega)
    obtain ⟨x0, x1, x2, x3, x4⟩ := id C3
    simp only [Nat.zero_add] at x1 x2 x3 x4
    have Z3 := Z1.out.keep (FR.of (pb := w.heap.size + 1) hb3) (by omega)
    obtain ⟨zl, z0, z1, z2, z3, z4, y0, y1, y2, y3, y4⟩ := id Z3
    have G3 := hideK (G2.out.keep (FR.of (pb := w.heap.size) hb3) (by simp))
    have B3 := hideK (B2.out.trans (hb3.mono B2.out.size))
    clear cW hb3
    go_wp2_with fail
    have TA := Z3.st t al cl ak ck
    have B9 := hideK (st5_below w.heap.size 0 (.int .i64 t.kind) (.int .i64 t.so) (.string t.name) (.slice al t.labels.length cl) (.slice ak t.kids.length ck) B3.out (Nat.le_refl _))
    have G9 := hideK (G3.out.st (w := w) (b := w.heap.size) (by simp) (.int .i64 t.kind) (.int .i64 t.so) (.string t.name) (.slice al t.labels.length cl) (.slice ak t.kids.length ck) (by simp))
    change bodyPost _ _ _ _ _ (st5 w3 w.heap.size 0 (.int .i64 t.kind) (.int .i64 t.so) (.string t.name) (.slice al t.labels.length cl) (.slice ak t.kids.length ck))
    generalize st5 w3 w.heap.size 0 (.int .i64 t.kind) (.int .i64 t.so) (.string t.name) (.slice al t.labels.length cl) (.slice ak t.kids.length ck) = W9 at TA B9 G9 ⊢
    obtain ⟨r0, r1, r2, r3, r4⟩ := TA
    simp only [Nat.zero_add] at r1 r2 r3 r4
    refine bodyPost_ret (v := .tuple #[.agg #[.int .i64 t.kind, .int .i64 t.so, .string t.name, .slice al t.labels.length cl, .slice ak t.kids.length ck], .bool false]) (by simp [results, Tryz.results33, go_sem, r0, r1, r2, r3, r4]) rfl ?_
    exact ⟨⟨t, al, cl, ak, ck, rfl⟩, B9.out⟩
end Go.Proofs.YtefdekfgmbgbbaaGreatDoor
