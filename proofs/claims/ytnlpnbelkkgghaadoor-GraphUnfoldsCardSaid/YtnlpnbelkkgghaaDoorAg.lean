/-
  The contract of types.Unfold, for every type.
-/
import Derived.Test.YtnlpnbelkkgghaaDoorAe
import Derived.Test.YtnlpnbelkkgghaaDoorAf
namespace Go.Proofs.YtnlpnbelkkgghaaDoor
open Go.RowKit Go.Shelf

/-- the box of the type that is unfolded, what it names, and the result's box -/
structure UFW (w : World) (T : Ty) (al : Option Addr) (cl : Nat) (ak : Option Addr) (ck d : Nat) (W : World) : Prop where
  a : TyAt W w.heap.size 0 T al cl ak ck
  bd : TyBd T cl ck
  lp : LP W (fun b => w.heap.size + 1 < b ∧ b < W.heap.size) T.labels al
  kp : KP W (fun b => w.heap.size + 1 < b ∧ b < W.heap.size) d T.kids ak
  fz : ∀ o, W.frozen? ⟨w.heap.size, o, none⟩ = false
  r : RBX W (w.heap.size + 1)
  bl : Below w.heap.size w W
theorem UFW.keep {w : World} {T : Ty} {al : Option Addr} {cl : Nat} {ak : Option Addr} {ck d : Nat} {W W' : World} (h : UFW w T al cl ak ck d W) (hb : Below W.heap.size W W') : UFW w T al cl ak ck d W' := by
  have hl := h.r.lt
  exact ⟨h.a.keep hb (by omega), h.bd, h.lp.keep (fun b o q => hb.cell (p := ⟨b, o, none⟩) q.2) (fun b q => ⟨q.1, Nat.lt_of_lt_of_le q.2 hb.size⟩), h.kp.keep (fun b o q => hb.cell (p := ⟨b, o, none⟩) q.2) (fun b q => ⟨q.1, Nat.lt_of_lt_of_le q.2 hb.size⟩), fun o => (hb.frozen (p := ⟨w.heap.size, o, none⟩) (by show w.heap.size < _; omega)).trans (h.fz o), h.r.keep hb, h.bl.trans (hb.mono h.bl.size)⟩
/-- what is made is put into the box -/
theorem ufw_put {w W w1 : World} {x0 x1 x2 x3 x4 : Value} (z0 : w1.cell? ⟨w.heap.size, 0, none⟩ = some x0) (z1 : w1.cell? ⟨w.heap.size, 1, none⟩ = some x1) (z2 : w1.cell? ⟨w.heap.size, 2, none⟩ = some x2) (z3 : w1.cell? ⟨w.heap.size, 3, none⟩ = some x3) (z4 : w1.cell? ⟨w.heap.size, 4, none⟩ = some x4) (hf : ∀ o, w1.frozen? ⟨w.heap.size, o, none⟩ = false) {r : Ty} {al : Option Addr} {cl : Nat} {ak : Option Addr} {ck d : Nat} (h1 : TyBd r cl ck) (h2 : LP w1 (fun x => W.heap.size ≤ x ∧ x < w1.heap.size) r.labels al) (h3 : KP w1 (fun x => W.heap.size ≤ x ∧ x < w1.heap.size) d r.kids ak) (hb : Below w.heap.size w w1) (hW : w.heap.size + 1 < W.heap.size) (hR : RBX w1 (w.heap.size + 1)) : UFW w r al cl ak ck d (st5 w1 (w.heap.size) 0 (.int .i64 r.kind) (.int .i64 r.so) (.string r.name) (.slice al r.labels.length cl) (.slice ak r.kids.length ck)) := by
  have hc : ∀ b o, b ≠ w.heap.size → (st5 w1 (w.heap.size) 0 (.int .i64 r.kind) (.int .i64 r.so) (.string r.name) (.slice al r.labels.length cl) (.slice ak r.kids.length ck)).cell? ⟨b, o, none⟩ = w1.cell? ⟨b, o, none⟩ := fun b o q => st5_other _ _ _ _ _ _ _ _ _ _ (.inl q)
  have hs : (st5 w1 (w.heap.size) 0 (.int .i64 r.kind) (.int .i64 r.so) (.string r.name) (.slice al r.labels.length cl) (.slice ak r.kids.length ck)).heap.size = w1.heap.size := st5_size _ _ _ _ _ _ _ _
  refine ⟨st5_at w1 w.heap.size 0 r al cl ak ck (fun j hj => by
      rw [Nat.zero_add]
      have : j = 0 ∨ j = 1 ∨ j = 2 ∨ j = 3 ∨ j = 4 := by omega
      rcases this with rfl | rfl | rfl | rfl | rfl
      · exact ⟨_, z0⟩
      · exact ⟨_, z1⟩
      · exact ⟨_, z2⟩
      · exact ⟨_, z3⟩
      · exact ⟨_, z4⟩), h1, h2.keep (fun b o q => hc b o (by omega)) (fun b q => ⟨by omega, by rw [hs]; exact q.2⟩), h3.keep (fun b o q => hc b o (by omega)) (fun b q => ⟨by omega, by rw [hs]; exact q.2⟩), fun o => (st5_frozen _ _ _ _ _ _ _ _ _).trans (hf o), ⟨(hc _ _ (by omega)).trans hR.c0, (hc _ _ (by omega)).trans hR.c1, (hc _ _ (by omega)).trans hR.c2, (hc _ _ (by omega)).trans hR.c3, (hc _ _ (by omega)).trans hR.c4, fun o => (st5_frozen _ _ _ _ _ _ _ _ _).trans (hR.f o), by rw [hs]; exact hR.lt⟩, st5_below w.heap.size 0 _ _ _ _ _ hb (Nat.le_refl _)⟩
/-- what types.Unfold answers -/
def UFPost (t : Ty) (w : World) (e : Ending) (w' : World) : Prop :=
  ((chkTy t ≠ 0 ∧ e = .returned (.tuple #[.agg #[.int .i64 0, .int .i64 0, .string ⟨#[]⟩, .slice none 0 0, .slice none 0 0], .int .i64 (chkTy t)])) ∨ (chkTy t = 0 ∧ e = .returned (.tuple #[.agg #[.int .i64 0, .int .i64 0, .string ⟨#[]⟩, .slice none 0 0, .slice none 0 0], .int .i64 2])) ∨ (chkTy t = 0 ∧ ∃ u al cl ak ck d, e = .returned (.tuple #[tyVal u al cl ak ck, .int .i64 0]) ∧ chkTy u = 0 ∧ u.kind ≠ 8 ∧ den u e0 = den t e0 ∧ TyBd u cl ck ∧ LA w' w'.heap.size u.labels al ∧ KT w' w'.heap.size d u.kids ak)) ∧ Below w.heap.size w w'
set_option maxRecDepth 100000 in
set_option maxHeartbeats 8000000 in
theorem unfold_any (d : Nat) (t : Ty) (al : Option Addr) (cl : Nat) (ak : Option Addr) (ck : Nat) (w : World) (hbd : TyBd t cl ck) (hla : LA w w.heap.size t.labels al) (hkt : KT w w.heap.size d t.kids ak) :
    Calls Tryd.prog 9 #[tyVal t al cl ak ck] w (UFPost t w) := by
  unfold UFPost
  have hA : Below w.heap.size w ((w.alloc (.cells #[.int .i64 t.kind, .int .i64 t.so, .string t.name, .slice al t.labels.length cl, .slice ak t.kids.length ck] 25)).alloc (.cells #[.int .i64 0, .int .i64 0, .string ⟨#[]⟩, .slice none 0 0, .slice none 0 0] 25)) := ((Below.refl _ _).alloc (Nat.le_refl _) _).alloc (by simp) _
  have c1 := typesCheck_any d t al cl ak ck ((w.alloc (.cells #[.int .i64 t.kind, .int .i64 t.so, .string t.name, .slice al t.labels.length cl, .slice ak t.kids.length ck] 25)).alloc (.cells #[.int .i64 0, .int .i64 0, .string ⟨#[]⟩, .slice none 0 0, .slice none 0 0] 25)) hbd ((hla.keep hA).mono hA.size) ((hkt.keep hA).mono hA.size)
  have hs1 : (w.alloc (.cells #[.int .i64 t.kind, .int .i64 t.so, .string t.name, .slice al t.labels.length cl, .slice ak t.kids.length ck] 25)).heap.size = w.heap.size + 1 := by simp
  have HS := hideK (show ((w.alloc (.cells #[.int .i64 t.kind, .int .i64 t.so, .string t.name, .slice al t.labels.length cl, .slice ak t.kids.length ck] 25)).alloc (.cells #[.int .i64 0, .int .i64 0, .string ⟨#[]⟩, .slice none 0 0, .slice none 0 0] 25)).heap.size = w.heap.size + 1 + 1 from by simp)
  have HR := hideK (show RBX ((w.alloc (.cells #[.int .i64 t.kind, .int .i64 t.so, .string t.name, .slice al t.labels.length cl, .slice ak t.kids.length ck] 25)).alloc (.cells #[.int .i64 0, .int .i64 0, .string ⟨#[]⟩, .slice none 0 0, .slice none 0 0] 25)) (w.heap.size + 1) from hs1 ▸ RBX.new (w.alloc (.cells #[.int .i64 t.kind, .int .i64 t.so, .string t.name, .slice al t.labels.length cl, .slice ak t.kids.length ck] 25)))
  have HP := hideK ((lit_ty w t al cl ak ck).keep ((Below.refl _ _).alloc (Nat.le_refl _) (.cells #[.int .i64 0, .int .i64 0, .string ⟨#[]⟩, .slice none 0 0, .slice none 0 0] 25)) (by simp))
  have HF := hideK (show ∀ o, ((w.alloc (.cells #[.int .i64 t.kind, .int .i64 t.so, .string t.name, .slice al t.labels.length cl, .slice ak t.kids.length ck] 25)).alloc (.cells #[.int .i64 0, .int .i64 0, .string ⟨#[]⟩, .slice none 0 0, .slice none 0 0] 25)).frozen? ⟨w.heap.size, o, none⟩ = false from fun o => by go_simp)
  have HA := hideK hA
  have HC := hideK (fun (W : World) (hb : Below w.heap.size w W) (hg : gdT t) => copied_any (sizeT t) t al cl ak ck d w.heap.size W (Nat.le_refl _) hg hbd (hla.keep hb) (hkt.keep hb) hb.size)
  simp only [tyVal] at c1 HC ⊢
  clear hla hkt hA hbd hs1
  go_enter Tryd.func9, Tryd.ntmps9
  go_upto_region 1 with fail
  generalize ((w.alloc (.cells #[.int .i64 t.kind, .int .i64 t.so, .string t.name, .slice al t.labels.length cl, .slice ak t.kids.length ck] 25)).alloc (.cells #[.int .i64 0, .int .i64 0, .string ⟨#[]⟩, .slice none 0 0, .slice none 0 0] 25)) = W0 at *
  obtain ⟨x0, x1, x2, x3, x4⟩ := HP.out
  simp only [Nat.zero_add] at x1 x2 x3 x4
  go_wp2_with fail
  refine c1.mono ?_
  rintro e w1 ⟨rfl, hb1⟩
  have hsz0 := HS.out
  have hsz1 := hb1.size
  replace HR := hideK (HR.out.keep hb1)
  replace HP := hideK (HP.out.keep hb1 (by omega))
  replace HF := hideK (show ∀ o, w1.frozen? ⟨w.heap.size, o, none⟩ = false from fun o => (hb1.frozen (p := ⟨w.heap.size, o, none⟩) (by show w.heap.size < _; omega)).trans (HF.out o))
  replace HA := hideK (HA.out.trans (hb1.mono HA.out.size))
  clear c1 hb1 x0 x1 x2 x3 x4
  by_cases hz : chkTy t = 0
  · have HZ := hideK hz
    have HGD := hideK (UFI.start hz)
    have HSZ := hideK (chkTy_good t hz).2
    have hzb : (chkTy t != 0) = false := by simpa using hz
    have c2 := HC.out w1 HA.out HGD.out.gd
    unfold RBPost at c2
    simp only [tyVal] at c2
    obtain ⟨x0, x1, x2, x3, x4⟩ := HP.out
    simp only [Nat.zero_add] at x1 x2 x3 x4
    clear hz HC
    go_wp2_with fail
    refine c2.mono ?_
    rintro e w2 ⟨⟨al1, cl1, ak1, ck1, d1, rfl, h1, h2, h3⟩, hb2⟩
    have hsz2 := hb2.size
    replace HR := hideK (HR.out.keep hb2)
    replace HP := hideK (HP.out.keep hb2 (by omega))
    replace HF := hideK (show ∀ o, w2.frozen? ⟨w.heap.size, o, none⟩ = false from fun o => (hb2.frozen (p := ⟨w.heap.size, o, none⟩) (by show w.heap.size < _; omega)).trans (HF.out o))
    replace HA := hideK (HA.out.trans (hb2.mono HA.out.size))
    clear x0 x1 x2 x3 x4 c2 hb2
    obtain ⟨x0, x1, x2, x3, x4⟩ := HP.out
    simp only [Nat.zero_add] at x1 x2 x3 x4
    have HU := hideK (ufw_put x0 x1 x2 x3 x4 HF.out h1 h2 h3 HA.out (by omega) HR.out)
    have f0 := HF.out 0
    have f1 := HF.out 1
    have f2 := HF.out 2
    have f3 := HF.out 3
    have f4 := HF.out 4
    clear h1 h2 h3 HA HF HR HP
    go_upto_region 5 with fail
    change Code.wp _ _ _ _ (st5 w2 (w.heap.size) 0 (.int .i64 t.kind) (.int .i64 t.so) (.string t.name) (.slice al1 t.labels.length cl1) (.slice ak1 t.kids.length ck1))
    generalize (st5 w2 (w.heap.size) 0 (.int .i64 t.kind) (.int .i64 t.so) (.string t.name) (.slice al1 t.labels.length cl1) (.slice ak1 t.kids.length ck1)) = W2 at *
    clear x0 x1 x2 x3 x4 f0 f1 f2 f3 f4
    go_loopg [] (recsT t) (fun m wr => ∃ (T : Ty) (al' : Option Addr) (cl' : Nat) (ak' : Option Addr) (ck' d' : Nat), UFW w T al' cl' ak' ck' d' wr ∧ UFI t T ∧ recsT T = m ∧ m ≤ 60 ∧ sizeT T ≤ 60 + recsT T)
    case atStart => exact ⟨t, al1, cl1, ak1, ck1, d1, HU.out, HGD.out, rfl, by have := recs_le t HGD.out.gd; have := HSZ.out; omega, by have := HSZ.out; omega⟩
    case round =>
      obtain ⟨T, al', cl', ak', ck', d', hU, hI, hm, hm60, hsT⟩ := hrel
      clear HU HGD HSZ hzb
      obtain ⟨x0, x1, x2, x3, x4⟩ := hU.a
      simp only [Nat.zero_add] at x1 x2 x3 x4
      by_cases h8 : T.kind = 8
      · obtain ⟨q, hq⟩ := part_rec ((gdT_eq T).1 hI.gd).1 h8
        have k8 : (T.kind == 8) = true := by simpa using h8
        have hkl : T.kids.length = 1 := by rw [hq]; rfl
        obtain ⟨hU1, hr1, hgq, hsq⟩ := hI.one h8 hq
        have hkt' : KT wr wr.heap.size d' T.kids ak' := hU.kp.kt (fun b hb => hb.2)
        have hla' : LA wr wr.heap.size T.labels al' := hU.lp.la (fun b hb => hb.2)
        have hkt2 := hkt'
        obtain ⟨d2, rfl, kb, ko, rfl, hkb, hkc⟩ := kt_open hkt2 (by rw [hq]; simp)
        obtain ⟨qal, qcl, qak, qck, hqa, hqb, hql, hqk⟩ := hkc 0 (by rw [hq]; simp)
        have hq0 : T.kids[0]'(by rw [hq]; simp) = q := by simp [hq]
        rw [hq0] at hqa hqb hql hqk
        rw [Nat.zero_mul, Nat.add_zero] at hqa
        have hdr : Below wr.heap.size wr wr.drew := (Below.refl _ _).drew
        have CP := hideK (putY_any (sizeT q) T.name T q qal qcl qak qck d2 al' cl' (some ⟨kb, ko, none⟩) ck' (d2 + 1) wr.heap.size wr.drew (Nat.le_refl _) hgq hI.gd hqb (hql.keep hdr) (hqk.keep hdr) hU.bd (hla'.keep hdr) (hkt'.keep hdr) (Nat.le_refl _))
        obtain ⟨y0, y1, y2, y3, y4⟩ := hqa
        have HU := hideK hU
        have HI1 := hideK hU1
        have HR1 := hideK hr1
        have HPS := hideK (show sizeT (putT T.name T q) ≤ 14400 from by
          have h1 := put_size T.name T q
          have h2 : sizeT q * sizeT T ≤ 120 * 120 := Nat.mul_le_mul (by omega) (by omega)
          omega)
        have hrl := hU.r.lt
        rw [hkl] at x4
        unfold RBPost at CP
        simp only [tyVal] at CP
        rw [hkl] at CP
        generalize hpt : putT T.name T q = r at *
        clear hkc hqb hql hqk hkt' hla' hq hq0 h8 hI hU1 hr1 hgq hU hdr hpt
        go_upto_region 6 with fail
        go_cut [] (fun wc => ∃ (a3 : Option Addr) (c3 : Nat) (k3 : Option Addr) (n3 e3 : Nat), UFW w r a3 c3 k3 n3 e3 wc)
        case first =>
          refine wp_region_any (by kernel_rfl) ?_
          change wpAny _ _ _ _ _ _ _ (World.drew _)
          refine wpAny_take (i := 0) (v := (.pointer (some ⟨w.heap.size, 4, none⟩))) rfl (by kernel_rfl) (by kernel_rfl) (by kernel_rfl) (fun _ _ _ h => h) (Or.inl ⟨by rfl, fun w => by go_simp⟩) ?_
          refine wpAny_take (i := 4) (v := (.pointer (some ⟨w.heap.size, 2, none⟩))) rfl (by kernel_rfl) (by kernel_rfl) (by kernel_rfl) (fun _ _ _ h => h) (Or.inl ⟨by rfl, fun w => by go_simp⟩) ?_
          refine wpAny_ready (rs := [1, 5, 6]) (by kernel_rfl) (by simp) ?_
          refine (AllReady.cons rfl (fun K hK => ?_) (AllReady.cons rfl (fun K hK => ?_) (AllReady.cons rfl (fun K hK => ?_) AllReady.nil)))
          · go_simp
            refine hK _ _ ?_
            clear hK K
            refine wpAny_take (i := 2) (v := (.pointer (some ⟨kb, ko, none⟩))) rfl (by kernel_rfl) (by kernel_rfl) (by kernel_rfl) (fun _ _ _ h => h) (Or.inl ⟨by rfl, fun w => by go_simp⟩) ?_
            refine wpAny_ready (rs := [3, 5, 6]) (by kernel_rfl) (by simp) ?_
            refine (AllReady.cons rfl (fun K hK => ?_) (AllReady.cons rfl (fun K hK => ?_) (AllReady.cons rfl (fun K hK => ?_) AllReady.nil)))
            · go_simp
              refine hK _ _ ?_
              clear hK K
              refine wpAny_ready (rs := [5, 6]) (by kernel_rfl) (by simp) ?_
              refine (AllReady.cons rfl (fun K hK => ?_) (AllReady.cons rfl (fun K hK => ?_) AllReady.nil))
              · go_simp
                refine hK _ _ ?_
                clear hK K
                refine take_oneH1 6 (AllReady.cons rfl (fun K hK => ?_) AllReady.nil) (by kernel_rfl)
                go_simp
                refine hK _ _ ?_
                clear hK K
                refine take_oneH1 7 (AllReady.cons rfl (fun K hK => ?_) AllReady.nil) (by kernel_rfl)
                go_simp
                refine CP.out.mono ?_
                rintro e w5 ⟨⟨al3, cl3, ak3, ck3, d3, rfl, h1, h2, h3⟩, hb5⟩
                have U5 := hideK (HU.out.keep ((Below.refl _ _).drew.trans hb5))
                have hrl5 := U5.out.r.lt
                obtain ⟨v0, v1, v2, v3, v4⟩ := U5.out.a
                simp only [Nat.zero_add] at v1 v2 v3 v4
                have HN := hideK (ufw_put (W := wr) v0 v1 v2 v3 v4 U5.out.fz h1 h2 h3 U5.out.bl hrl U5.out.r)
                have f0 := U5.out.fz 0
                have f1 := U5.out.fz 1
                have f2 := U5.out.fz 2
                have f3 := U5.out.fz 3
                have f4 := U5.out.fz 4
                clear h1 h2 h3 hb5
                refine hK _ _ ?_
                clear hK K
                refine take_oneH1 8 (AllReady.cons rfl (fun K hK => ?_) AllReady.nil) (by kernel_rfl)
                go_simp
                refine hK _ _ ?_
                clear hK K
                refine wpAny_done (by kernel_rfl) ?_ _
                go_wp2_with fail
                go_meet
                exact ⟨_, _, _, _, _, HN.out⟩
              · go_simp
                refine hK _ _ ?_
                clear hK K
                refine take_oneH1 5 (AllReady.cons rfl (fun K hK => ?_) AllReady.nil) (by kernel_rfl)
                go_simp
                refine hK _ _ ?_
                clear hK K
                refine take_oneH1 7 (AllReady.cons rfl (fun K hK => ?_) AllReady.nil) (by kernel_rfl)
                go_simp
                refine CP.out.mono ?_
                rintro e w5 ⟨⟨al3, cl3, ak3, ck3, d3, rfl, h1, h2, h3⟩, hb5⟩
                have U5 := hideK (HU.out.keep ((Below.refl _ _).drew.trans hb5))
                have hrl5 := U5.out.r.lt
                obtain ⟨v0, v1, v2, v3, v4⟩ := U5.out.a
                simp only [Nat.zero_add] at v1 v2 v3 v4
                have HN := hideK (ufw_put (W := wr) v0 v1 v2 v3 v4 U5.out.fz h1 h2 h3 U5.out.bl hrl U5.out.r)
                have f0 := U5.out.fz 0
                have f1 := U5.out.fz 1
                have f2 := U5.out.fz 2
                have f3 := U5.out.fz 3
                have f4 := U5.out.fz 4
                clear h1 h2 h3 hb5
                refine hK _ _ ?_
                clear hK K
                refine take_oneH1 8 (AllReady.cons rfl (fun K hK => ?_) AllReady.nil) (by kernel_rfl)
                go_simp
                refine hK _ _ ?_
                clear hK K
                refine wpAny_done (by kernel_rfl) ?_ _
                go_wp2_with fail
                go_meet
                exact ⟨_, _, _, _, _, HN.out⟩
            · go_simp
              refine hK _ _ ?_
              clear hK K
              refine wpAny_ready (rs := [3, 6]) (by kernel_rfl) (by simp) ?_
              refine (AllReady.cons rfl (fun K hK => ?_) (AllReady.cons rfl (fun K hK => ?_) AllReady.nil))
              · go_simp
                refine hK _ _ ?_
                clear hK K
                refine take_oneH1 6 (AllReady.cons rfl (fun K hK => ?_) AllReady.nil) (by kernel_rfl)
                go_simp
                refine hK _ _ ?_
                clear hK K
                refine take_oneH1 7 (AllReady.cons rfl (fun K hK => ?_) AllReady.nil) (by kernel_rfl)
                go_simp
                refine CP.out.mono ?_
                rintro e w5 ⟨⟨al3, cl3, ak3, ck3, d3, rfl, h1, h2, h3⟩, hb5⟩
                have U5 := hideK (HU.out.keep ((Below.refl _ _).drew.trans hb5))
                have hrl5 := U5.out.r.lt
                obtain ⟨v0, v1, v2, v3, v4⟩ := U5.out.a
                simp only [Nat.zero_add] at v1 v2 v3 v4
                have HN := hideK (ufw_put (W := wr) v0 v1 v2 v3 v4 U5.out.fz h1 h2 h3 U5.out.bl hrl U5.out.r)
                have f0 := U5.out.fz 0
                have f1 := U5.out.fz 1
                have f2 := U5.out.fz 2
                have f3 := U5.out.fz 3
                have f4 := U5.out.fz 4
                clear h1 h2 h3 hb5
                refine hK _ _ ?_
                clear hK K
                refine take_oneH1 8 (AllReady.cons rfl (fun K hK => ?_) AllReady.nil) (by kernel_rfl)
                go_simp
                refine hK _ _ ?_
                clear hK K
                refine wpAny_done (by kernel_rfl) ?_ _
                go_wp2_with fail
                go_meet
                exact ⟨_, _, _, _, _, HN.out⟩
              · go_simp
                refine hK _ _ ?_
                clear hK K
                refine take_oneH1 3 (AllReady.cons rfl (fun K hK => ?_) AllReady.nil) (by kernel_rfl)
                go_simp
                refine hK _ _ ?_
                clear hK K
                refine take_oneH1 7 (AllReady.cons rfl (fun K hK => ?_) AllReady.nil) (by kernel_rfl)
                go_simp
                refine CP.out.mono ?_
                rintro e w5 ⟨⟨al3, cl3, ak3, ck3, d3, rfl, h1, h2, h3⟩, hb5⟩
                have U5 := hideK (HU.out.keep ((Below.refl _ _).drew.trans hb5))
                have hrl5 := U5.out.r.lt
                obtain ⟨v0, v1, v2, v3, v4⟩ := U5.out.a
                simp only [Nat.zero_add] at v1 v2 v3 v4
                have HN := hideK (ufw_put (W := wr) v0 v1 v2 v3 v4 U5.out.fz h1 h2 h3 U5.out.bl hrl U5.out.r)
                have f0 := U5.out.fz 0
                have f1 := U5.out.fz 1
                have f2 := U5.out.fz 2
                have f3 := U5.out.fz 3
                have f4 := U5.out.fz 4
                clear h1 h2 h3 hb5
                refine hK _ _ ?_
                clear hK K
                refine take_oneH1 8 (AllReady.cons rfl (fun K hK => ?_) AllReady.nil) (by kernel_rfl)
                go_simp
                refine hK _ _ ?_
                clear hK K
                refine wpAny_done (by kernel_rfl) ?_ _
                go_wp2_with fail
                go_meet
                exact ⟨_, _, _, _, _, HN.out⟩
            · go_simp
              refine hK _ _ ?_
              clear hK K
              refine wpAny_ready (rs := [3, 5]) (by kernel_rfl) (by simp) ?_
              refine (AllReady.cons rfl (fun K hK => ?_) (AllReady.cons rfl (fun K hK => ?_) AllReady.nil))
              · go_simp
                refine hK _ _ ?_
                clear hK K
                refine take_oneH1 5 (AllReady.cons rfl (fun K hK => ?_) AllReady.nil) (by kernel_rfl)
                go_simp
                refine hK _ _ ?_
                clear hK K
                refine take_oneH1 7 (AllReady.cons rfl (fun K hK => ?_) AllReady.nil) (by kernel_rfl)
                go_simp
                refine CP.out.mono ?_
                rintro e w5 ⟨⟨al3, cl3, ak3, ck3, d3, rfl, h1, h2, h3⟩, hb5⟩
                have U5 := hideK (HU.out.keep ((Below.refl _ _).drew.trans hb5))
                have hrl5 := U5.out.r.lt
                obtain ⟨v0, v1, v2, v3, v4⟩ := U5.out.a
                simp only [Nat.zero_add] at v1 v2 v3 v4
                have HN := hideK (ufw_put (W := wr) v0 v1 v2 v3 v4 U5.out.fz h1 h2 h3 U5.out.bl hrl U5.out.r)
                have f0 := U5.out.fz 0
                have f1 := U5.out.fz 1
                have f2 := U5.out.fz 2
                have f3 := U5.out.fz 3
                have f4 := U5.out.fz 4
                clear h1 h2 h3 hb5
                refine hK _ _ ?_
                clear hK K
                refine take_oneH1 8 (AllReady.cons rfl (fun K hK => ?_) AllReady.nil) (by kernel_rfl)
                go_simp
                refine hK _ _ ?_
                clear hK K
                refine wpAny_done (by kernel_rfl) ?_ _
                go_wp2_with fail
                go_meet
                exact ⟨_, _, _, _, _, HN.out⟩
              · go_simp
                refine hK _ _ ?_
                clear hK K
                refine take_oneH1 3 (AllReady.cons rfl (fun K hK => ?_) AllReady.nil) (by kernel_rfl)
                go_simp
                refine hK _ _ ?_
                clear hK K
                refine take_oneH1 7 (AllReady.cons rfl (fun K hK => ?_) AllReady.nil) (by kernel_rfl)
                go_simp
                refine CP.out.mono ?_
                rintro e w5 ⟨⟨al3, cl3, ak3, ck3, d3, rfl, h1, h2, h3⟩, hb5⟩
                have U5 := hideK (HU.out.keep ((Below.refl _ _).drew.trans hb5))
                have hrl5 := U5.out.r.lt
                obtain ⟨v0, v1, v2, v3, v4⟩ := U5.out.a
                simp only [Nat.zero_add] at v1 v2 v3 v4
                have HN := hideK (ufw_put (W := wr) v0 v1 v2 v3 v4 U5.out.fz h1 h2 h3 U5.out.bl hrl U5.out.r)
                have f0 := U5.out.fz 0
                have f1 := U5.out.fz 1
                have f2 := U5.out.fz 2
                have f3 := U5.out.fz 3
                have f4 := U5.out.fz 4
                clear h1 h2 h3 hb5
                refine hK _ _ ?_
                clear hK K
                refine take_oneH1 8 (AllReady.cons rfl (fun K hK => ?_) AllReady.nil) (by kernel_rfl)
                go_simp
                refine hK _ _ ?_
                clear hK K
                refine wpAny_done (by kernel_rfl) ?_ _
                go_wp2_with fail
                go_meet
                exact ⟨_, _, _, _, _, HN.out⟩
          · go_simp
            refine hK _ _ ?_
            clear hK K
            refine wpAny_ready (rs := [1, 6]) (by kernel_rfl) (by simp) ?_
            refine (AllReady.cons rfl (fun K hK => ?_) (AllReady.cons rfl (fun K hK => ?_) AllReady.nil))
            · go_simp
              refine hK _ _ ?_
              clear hK K
              refine wpAny_take (i := 2) (v := (.pointer (some ⟨kb, ko, none⟩))) rfl (by kernel_rfl) (by kernel_rfl) (by kernel_rfl) (fun _ _ _ h => h) (Or.inl ⟨by rfl, fun w => by go_simp⟩) ?_
              refine wpAny_ready (rs := [3, 6]) (by kernel_rfl) (by simp) ?_
              refine (AllReady.cons rfl (fun K hK => ?_) (AllReady.cons rfl (fun K hK => ?_) AllReady.nil))
              · go_simp
                refine hK _ _ ?_
                clear hK K
                refine take_oneH1 6 (AllReady.cons rfl (fun K hK => ?_) AllReady.nil) (by kernel_rfl)
                go_simp
                refine hK _ _ ?_
                clear hK K
                refine take_oneH1 7 (AllReady.cons rfl (fun K hK => ?_) AllReady.nil) (by kernel_rfl)
                go_simp
                refine CP.out.mono ?_
                rintro e w5 ⟨⟨al3, cl3, ak3, ck3, d3, rfl, h1, h2, h3⟩, hb5⟩
                have U5 := hideK (HU.out.keep ((Below.refl _ _).drew.trans hb5))
                have hrl5 := U5.out.r.lt
                obtain ⟨v0, v1, v2, v3, v4⟩ := U5.out.a
                simp only [Nat.zero_add] at v1 v2 v3 v4
                have HN := hideK (ufw_put (W := wr) v0 v1 v2 v3 v4 U5.out.fz h1 h2 h3 U5.out.bl hrl U5.out.r)
                have f0 := U5.out.fz 0
                have f1 := U5.out.fz 1
                have f2 := U5.out.fz 2
                have f3 := U5.out.fz 3
                have f4 := U5.out.fz 4
                clear h1 h2 h3 hb5
                refine hK _ _ ?_
                clear hK K
                refine take_oneH1 8 (AllReady.cons rfl (fun K hK => ?_) AllReady.nil) (by kernel_rfl)
                go_simp
                refine hK _ _ ?_
                clear hK K
                refine wpAny_done (by kernel_rfl) ?_ _
                go_wp2_with fail
                go_meet
                exact ⟨_, _, _, _, _, HN.out⟩
              · go_simp
                refine hK _ _ ?_
                clear hK K
                refine take_oneH1 3 (AllReady.cons rfl (fun K hK => ?_) AllReady.nil) (by kernel_rfl)
                go_simp
                refine hK _ _ ?_
                clear hK K
                refine take_oneH1 7 (AllReady.cons rfl (fun K hK => ?_) AllReady.nil) (by kernel_rfl)
                go_simp
                refine CP.out.mono ?_
                rintro e w5 ⟨⟨al3, cl3, ak3, ck3, d3, rfl, h1, h2, h3⟩, hb5⟩
                have U5 := hideK (HU.out.keep ((Below.refl _ _).drew.trans hb5))
                have hrl5 := U5.out.r.lt
                obtain ⟨v0, v1, v2, v3, v4⟩ := U5.out.a
                simp only [Nat.zero_add] at v1 v2 v3 v4
                have HN := hideK (ufw_put (W := wr) v0 v1 v2 v3 v4 U5.out.fz h1 h2 h3 U5.out.bl hrl U5.out.r)
                have f0 := U5.out.fz 0
                have f1 := U5.out.fz 1
                have f2 := U5.out.fz 2
                have f3 := U5.out.fz 3
                have f4 := U5.out.fz 4
                clear h1 h2 h3 hb5
                refine hK _ _ ?_
                clear hK K
                refine take_oneH1 8 (AllReady.cons rfl (fun K hK => ?_) AllReady.nil) (by kernel_rfl)
                go_simp
                refine hK _ _ ?_
                clear hK K
                refine wpAny_done (by kernel_rfl) ?_ _
                go_wp2_with fail
                go_meet
                exact ⟨_, _, _, _, _, HN.out⟩
            · go_simp
              refine hK _ _ ?_
              clear hK K
              refine take_oneH1 1 (AllReady.cons rfl (fun K hK => ?_) AllReady.nil) (by kernel_rfl)
              go_simp
              refine hK _ _ ?_
              clear hK K
              refine wpAny_take (i := 2) (v := (.pointer (some ⟨kb, ko, none⟩))) rfl (by kernel_rfl) (by kernel_rfl) (by kernel_rfl) (fun _ _ _ h => h) (Or.inl ⟨by rfl, fun w => by go_simp⟩) ?_
              refine take_oneH1 3 (AllReady.cons rfl (fun K hK => ?_) AllReady.nil) (by kernel_rfl)
              go_simp
              refine hK _ _ ?_
              clear hK K
              refine take_oneH1 7 (AllReady.cons rfl (fun K hK => ?_) AllReady.nil) (by kernel_rfl)
              go_simp
              refine CP.out.mono ?_
              rintro e w5 ⟨⟨al3, cl3, ak3, ck3, d3, rfl, h1, h2, h3⟩, hb5⟩
              have U5 := hideK (HU.out.keep ((Below.refl _ _).drew.trans hb5))
              have hrl5 := U5.out.r.lt
              obtain ⟨v0, v1, v2, v3, v4⟩ := U5.out.a
              simp only [Nat.zero_add] at v1 v2 v3 v4
              have HN := hideK (ufw_put (W := wr) v0 v1 v2 v3 v4 U5.out.fz h1 h2 h3 U5.out.bl hrl U5.out.r)
              have f0 := U5.out.fz 0
              have f1 := U5.out.fz 1
              have f2 := U5.out.fz 2
              have f3 := U5.out.fz 3
              have f4 := U5.out.fz 4
              clear h1 h2 h3 hb5
              refine hK _ _ ?_
              clear hK K
              refine take_oneH1 8 (AllReady.cons rfl (fun K hK => ?_) AllReady.nil) (by kernel_rfl)
              go_simp
              refine hK _ _ ?_
              clear hK K
              refine wpAny_done (by kernel_rfl) ?_ _
              go_wp2_with fail
              go_meet
              exact ⟨_, _, _, _, _, HN.out⟩
          · go_simp
            refine hK _ _ ?_
            clear hK K
            refine wpAny_ready (rs := [1, 5]) (by kernel_rfl) (by simp) ?_
            refine (AllReady.cons rfl (fun K hK => ?_) (AllReady.cons rfl (fun K hK => ?_) AllReady.nil))
            · go_simp
              refine hK _ _ ?_
              clear hK K
              refine wpAny_take (i := 2) (v := (.pointer (some ⟨kb, ko, none⟩))) rfl (by kernel_rfl) (by kernel_rfl) (by kernel_rfl) (fun _ _ _ h => h) (Or.inl ⟨by rfl, fun w => by go_simp⟩) ?_
              refine wpAny_ready (rs := [3, 5]) (by kernel_rfl) (by simp) ?_
              refine (AllReady.cons rfl (fun K hK => ?_) (AllReady.cons rfl (fun K hK => ?_) AllReady.nil))
              · go_simp
                refine hK _ _ ?_
                clear hK K
                refine take_oneH1 5 (AllReady.cons rfl (fun K hK => ?_) AllReady.nil) (by kernel_rfl)
                go_simp
                refine hK _ _ ?_
                clear hK K
                refine take_oneH1 7 (AllReady.cons rfl (fun K hK => ?_) AllReady.nil) (by kernel_rfl)
                go_simp
                refine CP.out.mono ?_
                rintro e w5 ⟨⟨al3, cl3, ak3, ck3, d3, rfl, h1, h2, h3⟩, hb5⟩
                have U5 := hideK (HU.out.keep ((Below.refl _ _).drew.trans hb5))
                have hrl5 := U5.out.r.lt
                obtain ⟨v0, v1, v2, v3, v4⟩ := U5.out.a
                simp only [Nat.zero_add] at v1 v2 v3 v4
                have HN := hideK (ufw_put (W := wr) v0 v1 v2 v3 v4 U5.out.fz h1 h2 h3 U5.out.bl hrl U5.out.r)
                have f0 := U5.out.fz 0
                have f1 := U5.out.fz 1
                have f2 := U5.out.fz 2
                have f3 := U5.out.fz 3
                have f4 := U5.out.fz 4
                clear h1 h2 h3 hb5
                refine hK _ _ ?_
                clear hK K
                refine take_oneH1 8 (AllReady.cons rfl (fun K hK => ?_) AllReady.nil) (by kernel_rfl)
                go_simp
                refine hK _ _ ?_
                clear hK K
                refine wpAny_done (by kernel_rfl) ?_ _
                go_wp2_with fail
                go_meet
                exact ⟨_, _, _, _, _, HN.out⟩
              · go_simp
                refine hK _ _ ?_
                clear hK K
                refine take_oneH1 3 (AllReady.cons rfl (fun K hK => ?_) AllReady.nil) (by kernel_rfl)
                go_simp
                refine hK _ _ ?_
                clear hK K
                refine take_oneH1 7 (AllReady.cons rfl (fun K hK => ?_) AllReady.nil) (by kernel_rfl)
                go_simp
                refine CP.out.mono ?_
                rintro e w5 ⟨⟨al3, cl3, ak3, ck3, d3, rfl, h1, h2, h3⟩, hb5⟩
                have U5 := hideK (HU.out.keep ((Below.refl _ _).drew.trans hb5))
                have hrl5 := U5.out.r.lt
                obtain ⟨v0, v1, v2, v3, v4⟩ := U5.out.a
                simp only [Nat.zero_add] at v1 v2 v3 v4
                have HN := hideK (ufw_put (W := wr) v0 v1 v2 v3 v4 U5.out.fz h1 h2 h3 U5.out.bl hrl U5.out.r)
                have f0 := U5.out.fz 0
                have f1 := U5.out.fz 1
                have f2 := U5.out.fz 2
                have f3 := U5.out.fz 3
                have f4 := U5.out.fz 4
                clear h1 h2 h3 hb5
                refine hK _ _ ?_
                clear hK K
                refine take_oneH1 8 (AllReady.cons rfl (fun K hK => ?_) AllReady.nil) (by kernel_rfl)
                go_simp
                refine hK _ _ ?_
                clear hK K
                refine wpAny_done (by kernel_rfl) ?_ _
                go_wp2_with fail
                go_meet
                exact ⟨_, _, _, _, _, HN.out⟩
            · go_simp
              refine hK _ _ ?_
              clear hK K
              refine take_oneH1 1 (AllReady.cons rfl (fun K hK => ?_) AllReady.nil) (by kernel_rfl)
              go_simp
              refine hK _ _ ?_
              clear hK K
              refine wpAny_take (i := 2) (v := (.pointer (some ⟨kb, ko, none⟩))) rfl (by kernel_rfl) (by kernel_rfl) (by kernel_rfl) (fun _ _ _ h => h) (Or.inl ⟨by rfl, fun w => by go_simp⟩) ?_
              refine take_oneH1 3 (AllReady.cons rfl (fun K hK => ?_) AllReady.nil) (by kernel_rfl)
              go_simp
              refine hK _ _ ?_
              clear hK K
              refine take_oneH1 7 (AllReady.cons rfl (fun K hK => ?_) AllReady.nil) (by kernel_rfl)
              go_simp
              refine CP.out.mono ?_
              rintro e w5 ⟨⟨al3, cl3, ak3, ck3, d3, rfl, h1, h2, h3⟩, hb5⟩
              have U5 := hideK (HU.out.keep ((Below.refl _ _).drew.trans hb5))
              have hrl5 := U5.out.r.lt
              obtain ⟨v0, v1, v2, v3, v4⟩ := U5.out.a
              simp only [Nat.zero_add] at v1 v2 v3 v4
              have HN := hideK (ufw_put (W := wr) v0 v1 v2 v3 v4 U5.out.fz h1 h2 h3 U5.out.bl hrl U5.out.r)
              have f0 := U5.out.fz 0
              have f1 := U5.out.fz 1
              have f2 := U5.out.fz 2
              have f3 := U5.out.fz 3
              have f4 := U5.out.fz 4
              clear h1 h2 h3 hb5
              refine hK _ _ ?_
              clear hK K
              refine take_oneH1 8 (AllReady.cons rfl (fun K hK => ?_) AllReady.nil) (by kernel_rfl)
              go_simp
              refine hK _ _ ?_
              clear hK K
              refine wpAny_done (by kernel_rfl) ?_ _
              go_wp2_with fail
              go_meet
              exact ⟨_, _, _, _, _, HN.out⟩
        case rest =>
          obtain ⟨a3, c3, k3, n3, e3, hU3⟩ := hcut
          clear CP HU x0 x1 x2 x3 x4 y0 y1 y2 y3 y4
          have HU3 := hideK hU3
          have CS := hideK (fun (W : World) (hb : Below wc.heap.size wc W) => size_any e3 r a3 c3 k3 n3 W.heap.size W hU3.bd ((hU3.keep hb).kp.kt (fun b q => q.2)) (by have := HPS.out; omega) (Nat.le_refl _))
          have CR := hideK (fun (W : World) (hb : Below wc.heap.size wc W) => recsAhead_any r a3 c3 k3 n3 e3 W.heap.size W HI1.out.gd (by have := HPS.out; omega) ((hU3.keep hb).kp.kt (fun b q => q.2)) (Nat.le_refl _))
          simp only [tyVal] at CS CR
          have hS0 : TyAt wc.drew w.heap.size 0 r a3 c3 k3 n3 := (hU3.keep (Below.refl _ _).drew).a
          have hpz := HPS.out
          have hrp := recs_le r HI1.out.gd
          clear hU3
          go_upto_region 7 with fail
          refine wp_region_held_drew (S := (fun W => TyAt W w.heap.size 0 r a3 c3 k3 n3)) (by kernel_rfl) hS0 (fun hS => ?_)
          clear hS0
          refine wpAnyH_take (i := 0) (v := (.agg #[.int .i64 r.kind, .int .i64 r.so, .string r.name, .slice a3 r.labels.length c3, .slice k3 r.kids.length n3])) rfl (by kernel_rfl) (by kernel_rfl) (by kernel_rfl) (fun _ _ _ h => h) (Or.inl ⟨by rfl, fun W hW => by obtain ⟨x0, x1, x2, x3, x4⟩ := hW; simp only [Nat.zero_add] at x1 x2 x3 x4; go_simp⟩) hS ?_
          refine wpAnyH_take (i := 2) (v := (.agg #[.int .i64 r.kind, .int .i64 r.so, .string r.name, .slice a3 r.labels.length c3, .slice k3 r.kids.length n3])) rfl (by kernel_rfl) (by kernel_rfl) (by kernel_rfl) (fun _ _ _ h => h) (Or.inl ⟨by rfl, fun W hW => by obtain ⟨x0, x1, x2, x3, x4⟩ := hW; simp only [Nat.zero_add] at x1 x2 x3 x4; go_simp⟩) hS ?_
          refine take_oneHL 1 (AllReadyH.cons rfl (fun K hK => ?_) AllReadyH.nil) (by kernel_rfl)
          go_simp
          refine (CS.out _ (Below.refl _ _).drew).mono ?_
          rintro e w7 ⟨rfl, hb7⟩
          have hB7 : Below wc.heap.size wc w7 := (Below.refl _ _).drew.trans hb7
          have hSn := (HU3.out.keep hB7).a
          refine hK.out _ _ hSn ?_
          clear hS hK K hSn hb7
          intro hS
          refine take_oneHL 3 (AllReadyH.cons rfl (fun K hK => ?_) AllReadyH.nil) (by kernel_rfl)
          go_simp
          refine (CR.out _ hB7).mono ?_
          rintro e w8 ⟨rfl, hb8⟩
          have hB8 : Below wc.heap.size wc w8 := hB7.trans (hb8.mono hB7.size)
          have hSn := (HU3.out.keep hB8).a
          refine hK.out _ _ hSn ?_
          have U8 := hideK (HU3.out.keep hB8)
          clear hS hK K hSn hb8 hB7 hB8 CS CR HU3
          intro hS
          have hwr : IntKind.i64.wrap ((sizeT r : Int) - (recsT r : Int)) = (sizeT r : Int) - (recsT r : Int) := by rw [IntKind.wrap_i64]; omega
          refine wpAnyH_take (i := 4) (v := (.int .i64 ((sizeT r : Int) - (recsT r : Int)))) rfl (by kernel_rfl) (by kernel_rfl) (by kernel_rfl) (fun _ _ _ h => h) (Or.inl ⟨by rfl, fun W hW => by go_simp⟩) hS ?_
          by_cases hbig : 60 < (sizeT r : Int) - (recsT r : Int)
          · have hbd : decide (60 < (sizeT r : Int) - (recsT r : Int)) = true := decide_eq_true hbig
            refine wpAnyH_take (i := 5) (v := (.bool true)) rfl (by kernel_rfl) (by kernel_rfl) (by kernel_rfl) (fun _ _ _ h => h) (Or.inl ⟨by rfl, fun W hW => by go_simp⟩) hS ?_
            refine wpAnyH_done (by kernel_rfl) ?_ _
            obtain ⟨z0, z1, z2, z3, z4, zf, zl⟩ := U8.out.r
            have f0 := zf 0
            have f1 := zf 1
            have f2 := zf 2
            have f3 := zf 3
            have f4 := zf 4
            have HTA := hideK (show TyAt (st5 w8 (w.heap.size + 1) 0 (.int .i64 0) (.int .i64 0) (.string ⟨#[]⟩) (.slice none 0 0) (.slice none 0 0)) (w.heap.size + 1) 0 zT none 0 none 0 from st5_at w8 (w.heap.size + 1) 0 zT none 0 none 0 (fun j hj => by
                rw [Nat.zero_add]
                have : j = 0 ∨ j = 1 ∨ j = 2 ∨ j = 3 ∨ j = 4 := by omega
                rcases this with rfl | rfl | rfl | rfl | rfl
                · exact ⟨_, z0⟩
                · exact ⟨_, z1⟩
                · exact ⟨_, z2⟩
                · exact ⟨_, z3⟩
                · exact ⟨_, z4⟩))
            have HB9 := hideK (st5_below (w.heap.size + 1) 0 (.int .i64 0) (.int .i64 0) (.string ⟨#[]⟩) (.slice none 0 0) (.slice none 0 0) U8.out.bl (by omega))
            clear zf hS hbig
            go_wp2_with fail
            change bodyPost _ _ _ _ _ (st5 w8 (w.heap.size + 1) 0 (.int .i64 0) (.int .i64 0) (.string ⟨#[]⟩) (.slice none 0 0) (.slice none 0 0))
            generalize st5 w8 (w.heap.size + 1) 0 (.int .i64 0) (.int .i64 0) (.string ⟨#[]⟩) (.slice none 0 0) (.slice none 0 0) = W9 at *
            obtain ⟨r0, r1, r2, r3, r4⟩ := HTA.out
            simp only [Nat.zero_add, zT, List.length_nil] at r0 r1 r2 r3 r4
            refine bodyPost_ret (v := .tuple #[.agg #[.int .i64 0, .int .i64 0, .string ⟨#[]⟩, .slice none 0 0, .slice none 0 0], .int .i64 2]) (by simp [results, Tryd.results9, go_sem, r0, r1, r2, r3, r4]) rfl ?_
            exact ⟨.inr (.inl ⟨HZ.out, rfl⟩), HB9.out⟩
          · have hbd : decide (60 < (sizeT r : Int) - (recsT r : Int)) = false := decide_eq_false hbig
            refine wpAnyH_take (i := 5) (v := (.bool false)) rfl (by kernel_rfl) (by kernel_rfl) (by kernel_rfl) (fun _ _ _ h => h) (Or.inl ⟨by rfl, fun W hW => by go_simp⟩) hS ?_
            refine wpAnyH_done (by kernel_rfl) ?_ _
            clear hS
            have hr1 := HR1.out
            go_wp2_with fail
            go_roundg (recsT r)
            case measure => omega
            case rel => exact ⟨r, a3, c3, k3, n3, e3, U8.out, HI1.out, rfl, by omega, by omega⟩
      · have k8 : (T.kind == 8) = false := by simpa using h8
        have hrt := recsT_node T h8
        have HFI := hideK (hI.done (by omega))
        have HDN := hideK hI.dn
        have HK8 := hideK h8
        have HU := hideK hU
        obtain ⟨z0, z1, z2, z3, z4, zf, zl⟩ := hU.r
        have f0 := zf 0
        have f1 := zf 1
        have f2 := zf 2
        have f3 := zf 3
        have f4 := zf 4
        have HTA := hideK (st5_at wr (w.heap.size + 1) 0 T al' cl' ak' ck' (fun j hj => by
            rw [Nat.zero_add]
            have : j = 0 ∨ j = 1 ∨ j = 2 ∨ j = 3 ∨ j = 4 := by omega
            rcases this with rfl | rfl | rfl | rfl | rfl
            · exact ⟨_, z0⟩
            · exact ⟨_, z1⟩
            · exact ⟨_, z2⟩
            · exact ⟨_, z3⟩
            · exact ⟨_, z4⟩))
        have HB9 := hideK (st5_below (w.heap.size + 1) 0 (.int .i64 T.kind) (.int .i64 T.so) (.string T.name) (.slice al' T.labels.length cl') (.slice ak' T.kids.length ck') hU.bl (by omega))
        have HK9 := hideK (show ∀ b o, (w.heap.size + 1 < b ∧ b < wr.heap.size) → (st5 wr (w.heap.size + 1) 0 (.int .i64 T.kind) (.int .i64 T.so) (.string T.name) (.slice al' T.labels.length cl') (.slice ak' T.kids.length ck')).cell? ⟨b, o, none⟩ = wr.cell? ⟨b, o, none⟩ from fun b o hb => st5_other _ _ _ _ _ _ _ _ _ _ (.inl (by omega)))
        have HS9 := hideK (show (st5 wr (w.heap.size + 1) 0 (.int .i64 T.kind) (.int .i64 T.so) (.string T.name) (.slice al' T.labels.length cl') (.slice ak' T.kids.length ck')).heap.size = wr.heap.size from st5_size _ _ _ _ _ _ _ _)
        clear zf hU hI hm hsT h8 hrt
        go_wp2_with fail
        change bodyPost _ _ _ _ _ (st5 wr (w.heap.size + 1) 0 (.int .i64 T.kind) (.int .i64 T.so) (.string T.name) (.slice al' T.labels.length cl') (.slice ak' T.kids.length ck'))
        generalize (st5 wr (w.heap.size + 1) 0 (.int .i64 T.kind) (.int .i64 T.so) (.string T.name) (.slice al' T.labels.length cl') (.slice ak' T.kids.length ck')) = W9 at *
        obtain ⟨r0, r1, r2, r3, r4⟩ := HTA.out
        simp only [Nat.zero_add] at r0 r1 r2 r3 r4
        refine bodyPost_ret (v := .tuple #[.agg #[.int .i64 T.kind, .int .i64 T.so, .string T.name, .slice al' T.labels.length cl', .slice ak' T.kids.length ck'], .int .i64 0]) (by simp [results, Tryd.results9, go_sem, r0, r1, r2, r3, r4]) rfl ?_
        have hs9 := HS9.out
        have hlp := HU.out.lp.keep (W' := W9) (Q := fun b => b < W9.heap.size) HK9.out (fun b hb => by omega)
        have hkp := HU.out.kp.keep (W' := W9) (Q := fun b => b < W9.heap.size) HK9.out (fun b hb => by omega)
        exact ⟨.inr (.inr ⟨HZ.out, T, al', cl', ak', ck', d', rfl, HFI.out, HK8.out, HDN.out, HU.out.bd, hlp.la (fun b hb => hb), hkp.kt (fun b hb => hb)⟩), HB9.out⟩
  · have HZ := hideK hz
    have hzb : (chkTy t != 0) = true := by simpa using hz
    obtain ⟨z0, z1, z2, z3, z4, zf, zl⟩ := HR.out
    have f0 := zf 0
    have f1 := zf 1
    have f2 := zf 2
    have f3 := zf 3
    have f4 := zf 4
    have HTA := hideK (show TyAt (st5 w1 (w.heap.size + 1) 0 (.int .i64 0) (.int .i64 0) (.string ⟨#[]⟩) (.slice none 0 0) (.slice none 0 0)) (w.heap.size + 1) 0 zT none 0 none 0 from st5_at w1 (w.heap.size + 1) 0 zT none 0 none 0 (fun j hj => by
        rw [Nat.zero_add]
        have : j = 0 ∨ j = 1 ∨ j = 2 ∨ j = 3 ∨ j = 4 := by omega
        rcases this with rfl | rfl | rfl | rfl | rfl
        · exact ⟨_, z0⟩
        · exact ⟨_, z1⟩
        · exact ⟨_, z2⟩
        · exact ⟨_, z3⟩
        · exact ⟨_, z4⟩))
    have HB9 := hideK (st5_below (w.heap.size + 1) 0 (.int .i64 0) (.int .i64 0) (.string ⟨#[]⟩) (.slice none 0 0) (.slice none 0 0) HA.out (by omega))
    clear zf hz HC HP
    go_wp2_with fail
    change bodyPost _ _ _ _ _ (st5 w1 (w.heap.size + 1) 0 (.int .i64 0) (.int .i64 0) (.string ⟨#[]⟩) (.slice none 0 0) (.slice none 0 0))
    generalize st5 w1 (w.heap.size + 1) 0 (.int .i64 0) (.int .i64 0) (.string ⟨#[]⟩) (.slice none 0 0) (.slice none 0 0) = W9 at *
    obtain ⟨r0, r1, r2, r3, r4⟩ := HTA.out
    simp only [Nat.zero_add, zT, List.length_nil] at r0 r1 r2 r3 r4
    refine bodyPost_ret (v := .tuple #[.agg #[.int .i64 0, .int .i64 0, .string ⟨#[]⟩, .slice none 0 0, .slice none 0 0], .int .i64 (chkTy t)]) (by simp [results, Tryd.results9, go_sem, r0, r1, r2, r3, r4]) rfl ?_
    exact ⟨.inl ⟨HZ.out, rfl⟩, HB9.out⟩
end Go.Proofs.YtnlpnbelkkgghaaDoor
