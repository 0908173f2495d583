/-
  The contract of types.rebuilt with types.copied.
-/
import Derived.Test.YtnlpnbelkkgghaaDoorAa
namespace Go.Proofs.YtnlpnbelkkgghaaDoor
open Go.RowKit Go.Shelf

theorem TyAt.cells {W W' : World} {b : Nat} {t : Ty} {al : Option Addr} {cl : Nat} {ak : Option Addr} {ck : Nat} (h : TyAt W b 0 t al cl ak ck) (hk : ∀ o, W'.cell? ⟨b, o, none⟩ = W.cell? ⟨b, o, none⟩) : TyAt W' b 0 t al cl ak ck := ⟨(hk _).trans h.c0, (hk _).trans h.c1, (hk _).trans h.c2, (hk _).trans h.c3, (hk _).trans h.c4⟩
theorem kt_open {W : World} {B d : Nat} {ks : List Ty} {ak : Option Addr} (h : KT W B d ks ak) (hn : ks ≠ []) : ∃ d', d = d' + 1 ∧ ∃ b o, ak = some ⟨b, o, none⟩ ∧ b < B ∧ ∀ i (h : i < ks.length), ∃ al cl ak' ck', TyAt W b (o + i * 5) ks[i] al cl ak' ck' ∧ TyBd ks[i] cl ck' ∧ LA W B ks[i].labels al ∧ KT W B d' ks[i].kids ak' := by
  cases d with
  | zero => exact absurd h hn
  | succ d' => exact ⟨d', rfl, h.resolve_left hn⟩
set_option maxRecDepth 100000 in
set_option maxHeartbeats 8000000 in
theorem rebuilt_cp (F : Ty → Ty) (t : Ty) (al : Option Addr) (cl : Nat) (ak : Option Addr) (ck d B : Nat) (w : World) (hp : partT t = true) (hla : LA w B t.labels al) (hkt : KT w B d t.kids ak) (hB : B ≤ w.heap.size)
    (CF : ∀ (q : Ty) (qal : Option Addr) (qcl : Nat) (qak : Option Addr) (qck qd : Nat) (W : World), q ∈ t.kids → Below w.heap.size w W → TyBd q qcl qck → LA W B q.labels qal → KT W B qd q.kids qak → Calls Tryd.prog 32 #[tyVal q qal qcl qak qck] W (RBPost (F q) W)) :
    Calls Tryd.prog 56 #[tyVal t al cl ak ck, .func (.func 32) #[] #[]] w (RBPost ⟨t.kind, t.so, t.name, t.labels, t.kids.map F⟩ w) := by
  unfold RBPost
  have HPD := hideK (part_bd hp)
  have HLA := hideK (fun (W : World) (hb : Below w.heap.size w W) => hla.keep (hb.mono hB))
  have HKT := hideK (fun (W : World) (hb : Below w.heap.size w W) => hkt.keep (hb.mono hB))
  have HBW := hideK (show Below w.heap.size w ((w.alloc (.cells #[.int .i64 t.kind, .int .i64 t.so, .string t.name, .slice al t.labels.length cl, .slice ak t.kids.length ck] 25)).alloc (.cells #[.int .i64 0, .int .i64 0, .string ⟨#[]⟩, .slice none 0 0, .slice none 0 0] 25)) from ((Below.refl _ _).alloc (Nat.le_refl _) _).alloc (by simp) _)
  have hs1 : (w.alloc (.cells #[.int .i64 t.kind, .int .i64 t.so, .string t.name, .slice al t.labels.length cl, .slice ak t.kids.length ck] 25)).heap.size = w.heap.size + 1 := by simp
  have HR := hideK (show RBX ((w.alloc (.cells #[.int .i64 t.kind, .int .i64 t.so, .string t.name, .slice al t.labels.length cl, .slice ak t.kids.length ck] 25)).alloc (.cells #[.int .i64 0, .int .i64 0, .string ⟨#[]⟩, .slice none 0 0, .slice none 0 0] 25)) (w.heap.size + 1) from hs1 ▸ RBX.new (w.alloc (.cells #[.int .i64 t.kind, .int .i64 t.so, .string t.name, .slice al t.labels.length cl, .slice ak t.kids.length ck] 25)))
  have HP := hideK ((lit_ty w t al cl ak ck).keep ((Below.refl _ _).alloc (Nat.le_refl _) (.cells #[.int .i64 0, .int .i64 0, .string ⟨#[]⟩, .slice none 0 0, .slice none 0 0] 25)) (by simp))
  have HPL := hideK (show w.heap.size < ((w.alloc (.cells #[.int .i64 t.kind, .int .i64 t.so, .string t.name, .slice al t.labels.length cl, .slice ak t.kids.length ck] 25)).alloc (.cells #[.int .i64 0, .int .i64 0, .string ⟨#[]⟩, .slice none 0 0, .slice none 0 0] 25)).heap.size from by simp; omega)
  have CN := hideK (fun W : World => cloneG_any t.name W (by have := (part_bd hp).1; omega))
  obtain ⟨j1, hj, hy0, hy1, hy2⟩ := info_parts infoTy
  obtain ⟨i0, hi, hx⟩ := Option.map_eq_some_iff.1 infoSG
  simp only [Prod.mk.injEq] at hx
  obtain ⟨hz0, hz1, hz2⟩ := hx
  have hl6 : (t.labels.length : Int) ≤ 6 := by have := (part_bd hp).2.1; omega
  have hk6 : (t.kids.length : Int) ≤ 6 := by have := (part_bd hp).2.2.2; omega
  clear hla hkt hs1 hp
  simp only [tyVal]
  go_enter Tryd.func56, Tryd.ntmps56
  go_upto_region 1 with fail
  generalize ((w.alloc (.cells #[.int .i64 t.kind, .int .i64 t.so, .string t.name, .slice al t.labels.length cl, .slice ak t.kids.length ck] 25)).alloc (.cells #[.int .i64 0, .int .i64 0, .string ⟨#[]⟩, .slice none 0 0, .slice none 0 0] 25)) = W0 at *
  go_cut [5] (fun s5 wc => ∃ tb b1, s5 = .pointer (some ⟨tb, 0, none⟩) ∧ LBZ (w.heap.size + 1) t tb b1 (.slice none 0 0) 0 wc ∧ TyAt wc w.heap.size 0 t al cl ak ck ∧ Below w.heap.size w wc)
  case first =>
    have hS0 : TyAt W0.drew w.heap.size 0 t al cl ak ck := HP.out.keep (Below.refl _ _).drew HPL.out
    refine wp_region_held_drew (S := (fun W => TyAt W w.heap.size 0 t al cl ak ck)) (by kernel_rfl) hS0 (fun hS => ?_)
    replace HR := hideK (HR.out.keep (Below.refl _ _).drew)
    replace HBW := hideK HBW.out.drew
    replace HPL := hideK (show w.heap.size < W0.drew.heap.size from HPL.out)
    clear hS0 HP
    generalize World.drew W0 = V0 at *
    refine wpAnyH_take (i := 0) (v := (.pointer (some ⟨w.heap.size, 0, none⟩))) rfl (by kernel_rfl) (by kernel_rfl) (by kernel_rfl) (fun _ _ _ h => h) (Or.inl ⟨by rfl, fun W hW => by go_simp⟩) hS ?_
    refine wpAnyH_take (i := 1) (v := (.int .i64 t.kind)) rfl (by kernel_rfl) (by kernel_rfl) (by kernel_rfl) (fun _ _ _ h => h) (Or.inl ⟨by rfl, fun W hW => by obtain ⟨x0, x1, x2, x3, x4⟩ := hW; simp only [Nat.zero_add] at x1 x2 x3 x4; go_simp⟩) hS ?_
    refine wpAnyH_take (i := 2) (v := (.pointer (some ⟨w.heap.size, 1, none⟩))) rfl (by kernel_rfl) (by kernel_rfl) (by kernel_rfl) (fun _ _ _ h => h) (Or.inl ⟨by rfl, fun W hW => by go_simp⟩) hS ?_
    refine wpAnyH_take (i := 3) (v := (.int .i64 t.so)) rfl (by kernel_rfl) (by kernel_rfl) (by kernel_rfl) (fun _ _ _ h => h) (Or.inl ⟨by rfl, fun W hW => by obtain ⟨x0, x1, x2, x3, x4⟩ := hW; simp only [Nat.zero_add] at x1 x2 x3 x4; go_simp⟩) hS ?_
    refine wpAnyH_take (i := 4) (v := (.pointer (some ⟨w.heap.size, 2, none⟩))) rfl (by kernel_rfl) (by kernel_rfl) (by kernel_rfl) (fun _ _ _ h => h) (Or.inl ⟨by rfl, fun W hW => by go_simp⟩) hS ?_
    refine wpAnyH_take (i := 5) (v := (.string t.name)) rfl (by kernel_rfl) (by kernel_rfl) (by kernel_rfl) (fun _ _ _ h => h) (Or.inl ⟨by rfl, fun W hW => by obtain ⟨x0, x1, x2, x3, x4⟩ := hW; simp only [Nat.zero_add] at x1 x2 x3 x4; go_simp⟩) hS ?_
    refine wpAnyH_ready (rs := [6, 8]) (by kernel_rfl) (by simp) (AllReadyH.cons rfl (fun K hK => ?_) (AllReadyH.cons rfl (fun K hK => ?_) AllReadyH.nil))
    · go_simp
      refine (CN.out _).mono ?_
      rintro e V1 ⟨rfl, hb⟩
      have hSn := hS.keep hb HPL.out
      replace HR := hideK (HR.out.keep hb)
      replace HBW := hideK (HBW.out.trans (hb.mono HBW.out.size))
      replace HPL := hideK (Nat.lt_of_lt_of_le HPL.out hb.size)
      refine hK.out _ _ hSn ?_
      clear hS hK K hSn hb
      intro hS
      refine wpAnyH_take (i := 7) (v := .agg #[.int .i64 t.kind, .int .i64 t.so, .string t.name, .slice none 0 0, .slice none 0 0]) rfl (by kernel_rfl) (by kernel_rfl) (by kernel_rfl) (fun _ _ _ h => h) (Or.inl ⟨by rfl, fun W hW => by go_simp⟩) hS ?_
      refine take_oneHL 8 (AllReadyH.cons rfl (fun K hK => ?_) AllReadyH.nil) (by kernel_rfl)
      go_simp
      have hA : Below V1.heap.size V1 (V1.alloc (.cells #[.int .i64 0, .int .i64 0, .string ⟨#[]⟩, .slice none 0 0, .slice none 0 0] 25)) := (Below.refl _ _).alloc (Nat.le_refl _) _
      have hSn := hS.keep hA HPL.out
      have HZ := hideK (ZTX.new V1)
      have HT1 := hideK (show w.heap.size + 1 < V1.heap.size from HR.out.lt)
      have HT3 := hideK (show V1.heap.size < (V1.alloc (.cells #[.int .i64 0, .int .i64 0, .string ⟨#[]⟩, .slice none 0 0, .slice none 0 0] 25)).heap.size from by simp)
      replace HR := hideK (HR.out.keep hA)
      replace HBW := hideK (HBW.out.trans (hA.mono HBW.out.size))
      refine hK.out _ _ hSn ?_
      clear hS hK K hSn hA
      intro hS
      generalize V1.heap.size = tb at *
      generalize V1.alloc (.cells #[.int .i64 0, .int .i64 0, .string ⟨#[]⟩, .slice none 0 0, .slice none 0 0] 25) = V2 at *
      obtain ⟨z0, z1, z2, z3, z4, zf⟩ := HZ.out
      have f0 := zf 0
      have f1 := zf 1
      have f2 := zf 2
      have f3 := zf 3
      have f4 := zf 4
      clear zf
      have hc9 : ∀ b o, b ≠ tb → (st5 V2 tb 0 (.int .i64 t.kind) (.int .i64 t.so) (.string t.name) (.slice none 0 0) (.slice none 0 0)).cell? ⟨b, o, none⟩ = V2.cell? ⟨b, o, none⟩ := fun b o h => st5_other _ _ _ _ _ _ _ _ _ _ (.inl h)
      have hpb := HT1.out
      have hSn : TyAt (st5 V2 tb 0 (.int .i64 t.kind) (.int .i64 t.so) (.string t.name) (.slice none 0 0) (.slice none 0 0)) w.heap.size 0 t al cl ak ck := ⟨(hc9 _ _ (by omega)).trans hS.c0, (hc9 _ _ (by omega)).trans hS.c1, (hc9 _ _ (by omega)).trans hS.c2, (hc9 _ _ (by omega)).trans hS.c3, (hc9 _ _ (by omega)).trans hS.c4⟩
      have HLB := hideK (LBZ.make (t0 := t) (rb := w.heap.size + 1) HZ.out HR.out HT1.out HT3.out)
      have HB9 := hideK (st5_below tb 0 (.int .i64 t.kind) (.int .i64 t.so) (.string t.name) (.slice none 0 0) (.slice none 0 0) HBW.out (by omega))
      refine take_oneHL 9 (AllReadyH.cons rfl (fun K hK => ?_) AllReadyH.nil) (by kernel_rfl)
      go_simp
      refine hK.out _ (st5 V2 tb 0 (.int .i64 t.kind) (.int .i64 t.so) (.string t.name) (.slice none 0 0) (.slice none 0 0)) hSn ?_
      clear hS hK K hSn z0 z1 z2 z3 z4 f0 f1 f2 f3 f4 hc9 hpb
      intro hS
      generalize V2.heap.size = base at *
      generalize (st5 V2 tb 0 (.int .i64 t.kind) (.int .i64 t.so) (.string t.name) (.slice none 0 0) (.slice none 0 0)) = V3 at *
      refine wpAnyH_done (by kernel_rfl) ?_ _
      go_wp2_with fail
      go_meet
      exact ⟨tb, base, rfl, HLB.out, hS, HB9.out⟩
    · go_simp
      have hA : Below V0.heap.size V0 (V0.alloc (.cells #[.int .i64 0, .int .i64 0, .string ⟨#[]⟩, .slice none 0 0, .slice none 0 0] 25)) := (Below.refl _ _).alloc (Nat.le_refl _) _
      have hSn := hS.keep hA HPL.out
      have HZ := hideK (ZTX.new V0)
      have HT1 := hideK (show w.heap.size + 1 < V0.heap.size from HR.out.lt)
      have HT3 := hideK (show V0.heap.size < (V0.alloc (.cells #[.int .i64 0, .int .i64 0, .string ⟨#[]⟩, .slice none 0 0, .slice none 0 0] 25)).heap.size from by simp)
      replace HR := hideK (HR.out.keep hA)
      replace HBW := hideK (HBW.out.trans (hA.mono HBW.out.size))
      replace HPL := hideK (Nat.lt_of_lt_of_le HPL.out hA.size)
      refine hK.out _ _ hSn ?_
      clear hS hK K hSn hA
      intro hS
      generalize V0.heap.size = tb at *
      generalize V0.alloc (.cells #[.int .i64 0, .int .i64 0, .string ⟨#[]⟩, .slice none 0 0, .slice none 0 0] 25) = V1 at *
      refine take_oneHL 6 (AllReadyH.cons rfl (fun K hK => ?_) AllReadyH.nil) (by kernel_rfl)
      go_simp
      refine (CN.out _).mono ?_
      rintro e V2 ⟨rfl, hb⟩
      have hSn := hS.keep hb HPL.out
      replace HR := hideK (HR.out.keep hb)
      replace HBW := hideK (HBW.out.trans (hb.mono HBW.out.size))
      replace HZ := hideK (HZ.out.keep hb HT3.out)
      replace HT3 := hideK (Nat.lt_of_lt_of_le HT3.out hb.size)
      refine hK.out _ _ hSn ?_
      clear hS hK K hSn hb
      intro hS
      refine wpAnyH_take (i := 7) (v := .agg #[.int .i64 t.kind, .int .i64 t.so, .string t.name, .slice none 0 0, .slice none 0 0]) rfl (by kernel_rfl) (by kernel_rfl) (by kernel_rfl) (fun _ _ _ h => h) (Or.inl ⟨by rfl, fun W hW => by go_simp⟩) hS ?_
      obtain ⟨z0, z1, z2, z3, z4, zf⟩ := HZ.out
      have f0 := zf 0
      have f1 := zf 1
      have f2 := zf 2
      have f3 := zf 3
      have f4 := zf 4
      clear zf
      have hc9 : ∀ b o, b ≠ tb → (st5 V2 tb 0 (.int .i64 t.kind) (.int .i64 t.so) (.string t.name) (.slice none 0 0) (.slice none 0 0)).cell? ⟨b, o, none⟩ = V2.cell? ⟨b, o, none⟩ := fun b o h => st5_other _ _ _ _ _ _ _ _ _ _ (.inl h)
      have hpb := HT1.out
      have hSn : TyAt (st5 V2 tb 0 (.int .i64 t.kind) (.int .i64 t.so) (.string t.name) (.slice none 0 0) (.slice none 0 0)) w.heap.size 0 t al cl ak ck := ⟨(hc9 _ _ (by omega)).trans hS.c0, (hc9 _ _ (by omega)).trans hS.c1, (hc9 _ _ (by omega)).trans hS.c2, (hc9 _ _ (by omega)).trans hS.c3, (hc9 _ _ (by omega)).trans hS.c4⟩
      have HLB := hideK (LBZ.make (t0 := t) (rb := w.heap.size + 1) HZ.out HR.out HT1.out HT3.out)
      have HB9 := hideK (st5_below tb 0 (.int .i64 t.kind) (.int .i64 t.so) (.string t.name) (.slice none 0 0) (.slice none 0 0) HBW.out (by omega))
      refine take_oneHL 9 (AllReadyH.cons rfl (fun K hK => ?_) AllReadyH.nil) (by kernel_rfl)
      go_simp
      refine hK.out _ (st5 V2 tb 0 (.int .i64 t.kind) (.int .i64 t.so) (.string t.name) (.slice none 0 0) (.slice none 0 0)) hSn ?_
      clear hS hK K hSn z0 z1 z2 z3 z4 f0 f1 f2 f3 f4 hc9 hpb
      intro hS
      generalize V2.heap.size = base at *
      generalize (st5 V2 tb 0 (.int .i64 t.kind) (.int .i64 t.so) (.string t.name) (.slice none 0 0) (.slice none 0 0)) = V3 at *
      refine wpAnyH_done (by kernel_rfl) ?_ _
      go_wp2_with fail
      go_meet
      exact ⟨tb, base, rfl, HLB.out, hS, HB9.out⟩
  case rest =>
    obtain ⟨tb, b1, rfl, hLB, hPT, hBW⟩ := hcut
    have HLB0 := hideK hLB
    have HPT0 := hideK hPT
    have HBW0 := hideK hBW
    obtain ⟨y0, y1, y2, y3, y4⟩ := hPT
    simp only [Nat.zero_add] at y1 y2 y3 y4
    clear hLB hBW HR HBW HP HPL CN
    generalize hb1 : b1 = base at *
    clear hb1
    go_upto_region 3 with fail
    go_loopw [21] (fun i wr => ∃ (j : Nat) (lv : Value), j ≤ t.labels.length ∧ i = .int .i64 (j : Int) ∧ LBZ (w.heap.size + 1) t tb base lv j wr ∧ TyAt wr w.heap.size 0 t al cl ak ck ∧ Below w.heap.size w wr) (fun i _ => t.labels.length - (intOf i).toNat)
    case atStart => exact ⟨0, _, Nat.zero_le _, rfl, HLB0.out, HPT0.out, HBW0.out⟩
    case round =>
      obtain ⟨j, lv, hjl, rfl, hLB, hPT, hBW⟩ := hrel
      clear HLB0 HPT0 HBW0 y0 y1 y2 y3 y4
      by_cases hlt : j < t.labels.length
      · have hltz : (j : Int) < (t.labels.length : Int) := by omega
        have hlw := HLA.out wr hBW
        obtain ⟨lb, lo, rfl, hlb, hlc⟩ := hlw.resolve_left (fun h => by have := congrArg List.length h; simp at this; rw [this] at hlt; simp at hlt)
        have d1 := hlc j (by simpa using hlt)
        rw [List.getElem_map] at d1
        have CL := hideK (fun W : World => cloneG_any t.labels[j] W (by have := HPD.out.2.2.1 _ (List.getElem_mem hlt); omega))
        have HTK := hideK (show (t.labels.take j).map Value.string ++ [.string t.labels[j]] = (t.labels.take (j + 1)).map Value.string from by rw [List.take_succ_eq_append_getElem hlt, List.map_append]; rfl)
        obtain ⟨ua, uc, rfl⟩ := sliceH_own hLB.own
        have m3 := hLB.o3
        have HPZ := hideK (show w.heap.size < wr.heap.size from by have := hLB.l1; have := hLB.l2; have := hLB.l3; omega)
        have HLB := hideK hLB
        have HPT := hideK hPT
        have HBW := hideK hBW
        have h6 := HPD.out.2.1
        clear hLB hPT hBW hlc hlw
        generalize t.labels[j] = lab at *
        go_upto_region 5 with fail
        refine wp_region_any (by kernel_rfl) ?_
        change wpAny _ _ _ _ _ _ _ (World.drew _)
        refine wpAny_take (i := 0) (v := (.pointer (some ⟨tb, 3, none⟩))) rfl (by kernel_rfl) (by kernel_rfl) (by kernel_rfl) (fun _ _ _ h => h) (Or.inl ⟨by rfl, fun w => by go_simp⟩) ?_
        refine wpAny_take (i := 2) (v := (.string lab)) rfl (by kernel_rfl) (by kernel_rfl) (by kernel_rfl) (fun _ _ _ h => h) (Or.inl ⟨by rfl, fun w => by go_simp⟩) ?_
        refine wpAny_ready (rs := [1, 3]) (by kernel_rfl) (by simp) ?_
        refine (AllReady.cons rfl (fun K hK => ?_) (AllReady.cons rfl (fun K hK => ?_) AllReady.nil))
        · go_simp
          refine hK _ _ ?_
          clear hK K
          refine take_oneH1 3 (AllReady.cons rfl (fun K hK => ?_) AllReady.nil) (by kernel_rfl)
          go_simp
          refine (CL.out _).mono ?_
          rintro e w5 ⟨rfl, hb5⟩
          have hbr : Below wr.heap.size wr w5 := ((Below.refl _ _).drew).trans hb5
          have T5 := hideK (HLB.out.keep hbr)
          have P5 := hideK (HPT.out.keep hbr HPZ.out)
          have B5 := hideK (HBW.out.trans (hbr.mono HBW.out.size))
          have m5 := T5.out.o3
          have hA5 : Below w5.heap.size w5 (w5.alloc (.cells #[.string lab] 9)) := (Below.refl _ _).alloc (Nat.le_refl _) _
          have O5 := hideK (own_belowG T5.out.own hA5)
          have L5 := hideK (lit_rowG 9 base w5 (.string lab) w5.heap.size rfl T5.out.l3)
          have o5 := T5.out.l3
          have l2 := T5.out.l2
          have l1 := T5.out.l1
          have m5a : (w5.alloc (.cells #[.string lab] 9)).cell? ⟨tb, 3, none⟩ = some (.slice ua j uc) := (World.cell?_alloc_past _ _ _ (show tb < w5.heap.size by omega)).trans m5
          have o5a : base ≤ (w5.alloc (.cells #[.string lab] 9)).heap.size := by simp; omega
          clear hb5 hbr
          refine hK _ _ ?_
          clear hK K
          refine take_oneH1 4 (AllReady.cons rfl (fun K hK => ?_) AllReady.nil) (by kernel_rfl)
          go_simp
          refine hK _ _ ?_
          clear hK K
          refine take_oneH1 5 (AllReady.cons rfl (fun K hK => ?_) AllReady.nil) (by kernel_rfl)
          refine step_append_rows _ rfl (.tmp 26) (.tmp 29) 22 rfl base base 9 i0 (.string ⟨#[]⟩) 1 16 Tryd.underlying22 hi hz0 hz1 hz2 rfl (by decide) _ _ _ rfl O5.out _ _ _ rfl L5.out (by simp [Value.oneCell']) (by unfold maxLen; omega) (by omega) o5a ?_
          intro v7 w7 hO7 hg7 hat7
          have T7 := hideK (T5.out.app hA5 hg7 hO7 HTK.out)
          have hgW := (World.grownBy_alloc w5 (.cells #[.string lab] 9) (Value.slice ua j uc).ownBlock).trans hg7
          have htn : ∀ b, b < base → (Value.slice ua j uc).ownBlock ≠ some b := fun b hb e => by have := (T5.out.ll b e).1; omega
          have m7 := (World.cell?_of_block (a := ⟨tb, 3, none⟩) (hgW.block tb (by omega) (fun e => htn tb l2 e.symm))).trans m5
          have f7 := (World.frozen?_of_block (a := ⟨tb, 3, none⟩) (hgW.block tb (by omega) (fun e => htn tb l2 e.symm))).trans (T5.out.fo 3)
          have B7 := hideK (below_app B5.out hA5 hg7 (fun b e => by have := (T5.out.ll b e).1; omega) (show w.heap.size ≤ tb by omega) 3 v7)
          have hk7 : ∀ o, (w7.setCell ⟨tb, 3, none⟩ v7).cell? ⟨w.heap.size, o, none⟩ = w5.cell? ⟨w.heap.size, o, none⟩ := fun o => (cell_set _ (.inl (by omega))).trans (World.cell?_of_block (a := ⟨w.heap.size, o, none⟩) (hgW.block w.heap.size (by omega) (fun e => htn _ (by omega) e.symm)))
          have P7 := hideK (P5.out.cells hk7)
          obtain ⟨va, vc, rfl⟩ := sliceH_own hO7
          clear hO7 hg7 hat7 hgW htn hA5 hk7
          refine hK _ _ ?_
          clear hK K
          refine take_oneH1 6 (AllReady.cons rfl (fun K hK => ?_) AllReady.nil) (by kernel_rfl)
          go_simp
          refine hK _ _ ?_
          clear hK K
          refine take_oneH1 7 (AllReady.cons rfl (fun K hK => ?_) AllReady.nil) (by kernel_rfl)
          go_simp
          refine hK _ _ ?_
          clear hK K
          refine wpAny_done (by kernel_rfl) ?_ _
          go_wp2_with fail
          go_roundw
          case rel => exact ⟨j + 1, .slice va (j + 1) vc, by omega, by go_num, T7.out, P7.out, B7.out⟩
          case measure => simp [intOf]; omega
        · go_simp
          refine (CL.out _).mono ?_
          rintro e w5 ⟨rfl, hb5⟩
          have hbr : Below wr.heap.size wr w5 := ((Below.refl _ _).drew).trans hb5
          have T5 := hideK (HLB.out.keep hbr)
          have P5 := hideK (HPT.out.keep hbr HPZ.out)
          have B5 := hideK (HBW.out.trans (hbr.mono HBW.out.size))
          have m5 := T5.out.o3
          have hA5 : Below w5.heap.size w5 (w5.alloc (.cells #[.string lab] 9)) := (Below.refl _ _).alloc (Nat.le_refl _) _
          have O5 := hideK (own_belowG T5.out.own hA5)
          have L5 := hideK (lit_rowG 9 base w5 (.string lab) w5.heap.size rfl T5.out.l3)
          have o5 := T5.out.l3
          have l2 := T5.out.l2
          have l1 := T5.out.l1
          have m5a : (w5.alloc (.cells #[.string lab] 9)).cell? ⟨tb, 3, none⟩ = some (.slice ua j uc) := (World.cell?_alloc_past _ _ _ (show tb < w5.heap.size by omega)).trans m5
          have o5a : base ≤ (w5.alloc (.cells #[.string lab] 9)).heap.size := by simp; omega
          clear hb5 hbr
          refine hK _ _ ?_
          clear hK K
          refine wpAny_ready (rs := [1, 4]) (by kernel_rfl) (by simp) ?_
          refine (AllReady.cons rfl (fun K hK => ?_) (AllReady.cons rfl (fun K hK => ?_) AllReady.nil))
          · go_simp
            refine hK _ _ ?_
            clear hK K
            refine take_oneH1 4 (AllReady.cons rfl (fun K hK => ?_) AllReady.nil) (by kernel_rfl)
            go_simp
            refine hK _ _ ?_
            clear hK K
            refine take_oneH1 5 (AllReady.cons rfl (fun K hK => ?_) AllReady.nil) (by kernel_rfl)
            refine step_append_rows _ rfl (.tmp 26) (.tmp 29) 22 rfl base base 9 i0 (.string ⟨#[]⟩) 1 16 Tryd.underlying22 hi hz0 hz1 hz2 rfl (by decide) _ _ _ rfl O5.out _ _ _ rfl L5.out (by simp [Value.oneCell']) (by unfold maxLen; omega) (by omega) o5a ?_
            intro v7 w7 hO7 hg7 hat7
            have T7 := hideK (T5.out.app hA5 hg7 hO7 HTK.out)
            have hgW := (World.grownBy_alloc w5 (.cells #[.string lab] 9) (Value.slice ua j uc).ownBlock).trans hg7
            have htn : ∀ b, b < base → (Value.slice ua j uc).ownBlock ≠ some b := fun b hb e => by have := (T5.out.ll b e).1; omega
            have m7 := (World.cell?_of_block (a := ⟨tb, 3, none⟩) (hgW.block tb (by omega) (fun e => htn tb l2 e.symm))).trans m5
            have f7 := (World.frozen?_of_block (a := ⟨tb, 3, none⟩) (hgW.block tb (by omega) (fun e => htn tb l2 e.symm))).trans (T5.out.fo 3)
            have B7 := hideK (below_app B5.out hA5 hg7 (fun b e => by have := (T5.out.ll b e).1; omega) (show w.heap.size ≤ tb by omega) 3 v7)
            have hk7 : ∀ o, (w7.setCell ⟨tb, 3, none⟩ v7).cell? ⟨w.heap.size, o, none⟩ = w5.cell? ⟨w.heap.size, o, none⟩ := fun o => (cell_set _ (.inl (by omega))).trans (World.cell?_of_block (a := ⟨w.heap.size, o, none⟩) (hgW.block w.heap.size (by omega) (fun e => htn _ (by omega) e.symm)))
            have P7 := hideK (P5.out.cells hk7)
            obtain ⟨va, vc, rfl⟩ := sliceH_own hO7
            clear hO7 hg7 hat7 hgW htn hA5 hk7
            refine hK _ _ ?_
            clear hK K
            refine take_oneH1 6 (AllReady.cons rfl (fun K hK => ?_) AllReady.nil) (by kernel_rfl)
            go_simp
            refine hK _ _ ?_
            clear hK K
            refine take_oneH1 7 (AllReady.cons rfl (fun K hK => ?_) AllReady.nil) (by kernel_rfl)
            go_simp
            refine hK _ _ ?_
            clear hK K
            refine wpAny_done (by kernel_rfl) ?_ _
            go_wp2_with fail
            go_roundw
            case rel => exact ⟨j + 1, .slice va (j + 1) vc, by omega, by go_num, T7.out, P7.out, B7.out⟩
            case measure => simp [intOf]; omega
          · go_simp
            refine hK _ _ ?_
            clear hK K
            refine take_oneH1 1 (AllReady.cons rfl (fun K hK => ?_) AllReady.nil) (by kernel_rfl)
            go_simp
            refine hK _ _ ?_
            clear hK K
            refine take_oneH1 5 (AllReady.cons rfl (fun K hK => ?_) AllReady.nil) (by kernel_rfl)
            refine step_append_rows _ rfl (.tmp 26) (.tmp 29) 22 rfl base base 9 i0 (.string ⟨#[]⟩) 1 16 Tryd.underlying22 hi hz0 hz1 hz2 rfl (by decide) _ _ _ rfl O5.out _ _ _ rfl L5.out (by simp [Value.oneCell']) (by unfold maxLen; omega) (by omega) o5a ?_
            intro v7 w7 hO7 hg7 hat7
            have T7 := hideK (T5.out.app hA5 hg7 hO7 HTK.out)
            have hgW := (World.grownBy_alloc w5 (.cells #[.string lab] 9) (Value.slice ua j uc).ownBlock).trans hg7
            have htn : ∀ b, b < base → (Value.slice ua j uc).ownBlock ≠ some b := fun b hb e => by have := (T5.out.ll b e).1; omega
            have m7 := (World.cell?_of_block (a := ⟨tb, 3, none⟩) (hgW.block tb (by omega) (fun e => htn tb l2 e.symm))).trans m5
            have f7 := (World.frozen?_of_block (a := ⟨tb, 3, none⟩) (hgW.block tb (by omega) (fun e => htn tb l2 e.symm))).trans (T5.out.fo 3)
            have B7 := hideK (below_app B5.out hA5 hg7 (fun b e => by have := (T5.out.ll b e).1; omega) (show w.heap.size ≤ tb by omega) 3 v7)
            have hk7 : ∀ o, (w7.setCell ⟨tb, 3, none⟩ v7).cell? ⟨w.heap.size, o, none⟩ = w5.cell? ⟨w.heap.size, o, none⟩ := fun o => (cell_set _ (.inl (by omega))).trans (World.cell?_of_block (a := ⟨w.heap.size, o, none⟩) (hgW.block w.heap.size (by omega) (fun e => htn _ (by omega) e.symm)))
            have P7 := hideK (P5.out.cells hk7)
            obtain ⟨va, vc, rfl⟩ := sliceH_own hO7
            clear hO7 hg7 hat7 hgW htn hA5 hk7
            refine hK _ _ ?_
            clear hK K
            refine take_oneH1 6 (AllReady.cons rfl (fun K hK => ?_) AllReady.nil) (by kernel_rfl)
            go_simp
            refine hK _ _ ?_
            clear hK K
            refine take_oneH1 7 (AllReady.cons rfl (fun K hK => ?_) AllReady.nil) (by kernel_rfl)
            go_simp
            refine hK _ _ ?_
            clear hK K
            refine wpAny_done (by kernel_rfl) ?_ _
            go_wp2_with fail
            go_roundw
            case rel => exact ⟨j + 1, .slice va (j + 1) vc, by omega, by go_num, T7.out, P7.out, B7.out⟩
            case measure => simp [intOf]; omega
      · have hltz : ¬ (j : Int) < (t.labels.length : Int) := by omega
        obtain rfl : j = t.labels.length := by omega
        obtain ⟨la, lc, rfl⟩ := sliceH_own hLB.own
        have HCP := hideK (own_cap hLB.own)
        have HTB0 := hideK hLB.done
        have HPT0 := hideK hPT
        have HBW0 := hideK hBW
        obtain ⟨y0, y1, y2, y3, y4⟩ := hPT
        simp only [Nat.zero_add] at y1 y2 y3 y4
        clear hLB hBW hjl
        generalize wr.heap.size = bas2 at *
        generalize hb2 : base = bold at *
        clear hb2
        generalize hb3 : bas2 = base at *
        clear hb3
        go_upto_region 8 with fail
        go_loopw [36] (fun i wr => ∃ (k : Nat) (u : Value) (ts : List TTk), k ≤ t.kids.length ∧ i = .int .i64 (k : Int) ∧ TBZ (w.heap.size + 1) t la lc tb base u k ts wr ∧ TyAt wr w.heap.size 0 t al cl ak ck ∧ Below w.heap.size w wr ∧ ts.map (fun x => x.1) = (t.kids.take k).map F) (fun i _ => t.kids.length - (intOf i).toNat)
        case atStart => exact ⟨0, _, [], Nat.zero_le _, rfl, HTB0.out, HPT0.out, HBW0.out, by simp⟩
        case round =>
          obtain ⟨k, u, ts, hkl, rfl, hTB, hPT, hBW, hmp⟩ := hrel
          clear HTB0 HPT0 HBW0 y0 y1 y2 y3 y4
          by_cases hlk : k < t.kids.length
          · have hltk : (k : Int) < (t.kids.length : Int) := by omega
            have hkw := HKT.out wr hBW
            obtain ⟨d', rfl, kb, ko, rfl, hkb, hkc⟩ := kt_open hkw (fun h => by rw [h] at hlk; simp at hlk)
            obtain ⟨qal, qcl, qak, qck, hqa, hqb, hql, hqk⟩ := hkc k hlk
            have hm := List.getElem_mem hlk
            have HTK := hideK (show (t.kids.take (k + 1)).map F = (t.kids.take k).map F ++ [F t.kids[k]] from by rw [List.take_succ_eq_append_getElem hlk, List.map_append]; rfl)
            generalize t.kids[k] = q at *
            have hB3 : B ≤ wr.heap.size := Nat.le_trans hB hBW.size
            have hA3 : Below wr.heap.size wr (wr.alloc (.cells #[.int .i64 q.kind, .int .i64 q.so, .string q.name, .slice qal q.labels.length qcl, .slice qak q.kids.length qck] 25)) := (Below.refl _ _).alloc (Nat.le_refl _) _
            have hPl : w.heap.size < wr.heap.size := by have := hTB.l1; have := hTB.l2; have := hTB.l3; omega
            have HPZ := hideK (show w.heap.size < (wr.alloc (.cells #[.int .i64 q.kind, .int .i64 q.so, .string q.name, .slice qal q.labels.length qcl, .slice qak q.kids.length qck] 25)).heap.size from by simp; omega)
            have HTB := hideK (hTB.below hA3)
            have HPT := hideK (hPT.keep hA3 hPl)
            have HBK := hideK (hBW.trans (hA3.mono hBW.size))
            have CQ := hideK (CF q qal qcl qak qck d' (wr.alloc (.cells #[.int .i64 q.kind, .int .i64 q.so, .string q.name, .slice qal q.labels.length qcl, .slice qak q.kids.length qck] 25)).drew hm HBK.out.drew hqb (hql.keep (hA3.drew.mono hB3)) (hqk.keep (hA3.drew.mono hB3)))
            have HKX := hideK (lit_ty wr q qal qcl qak qck)
            obtain ⟨y0, y1, y2, y3, y4⟩ := hqa
            obtain ⟨ua, uc, rfl⟩ := sliceH_own hTB.own
            have HMP := hideK hmp
            have h6 := HPD.out.2.2.2
            unfold RBPost at CQ
            simp only [tyVal] at CQ
            generalize F q = fq at *
            clear hTB hPT hBW hmp hkc hkw hqb hql hqk hA3 hm CF
            go_upto_region 10 with fail
            generalize wr.heap.size = kx at *
            generalize wr.alloc (.cells #[.int .i64 q.kind, .int .i64 q.so, .string q.name, .slice qal q.labels.length qcl, .slice qak q.kids.length qck] 25) = W3 at *
            obtain ⟨x0, x1, x2, x3, x4⟩ := HKX.out
            simp only [Nat.zero_add] at x1 x2 x3 x4
            have m4 := HTB.out.o4
            clear y0 y1 y2 y3 y4 HKX
            refine wp_region_any (by kernel_rfl) ?_
            change wpAny _ _ _ _ _ _ _ (World.drew _)
            refine wpAny_take (i := 0) (v := (.pointer (some ⟨tb, 4, none⟩))) rfl (by kernel_rfl) (by kernel_rfl) (by kernel_rfl) (fun _ _ _ h => h) (Or.inl ⟨by rfl, fun w => by go_simp⟩) ?_
            refine wpAny_take (i := 2) (v := .func (.func 32) #[] #[]) rfl (by kernel_rfl) (by kernel_rfl) (by kernel_rfl) (fun _ _ _ h => h) (Or.inl ⟨by rfl, fun w => by go_simp⟩) ?_
            refine wpAny_ready (rs := [1, 3]) (by kernel_rfl) (by simp) ?_
            refine (AllReady.cons rfl (fun K hK => ?_) (AllReady.cons rfl (fun K hK => ?_) AllReady.nil))
            · go_simp
              refine hK _ _ ?_
              clear hK K
              refine take_oneH1 3 (AllReady.cons rfl (fun K hK => ?_) AllReady.nil) (by kernel_rfl)
              go_simp
              refine hK _ _ ?_
              clear hK K
              refine take_oneH1 4 (AllReady.cons rfl (fun K hK => ?_) AllReady.nil) (by kernel_rfl)
              go_simp
              refine CQ.out.mono ?_
              rintro e w5 ⟨⟨al3, cl3, ak3, ck3, d3, rfl, hbd3, hlp3, hkp3⟩, hb5⟩
              have hbr : Below W3.heap.size W3 w5 := ((Below.refl _ _).drew).trans hb5
              have T5 := hideK (HTB.out.below hbr)
              have P5 := hideK (HPT.out.keep hbr HPZ.out)
              have B5 := hideK (HBK.out.trans (hbr.mono HBK.out.size))
              have m5 := T5.out.o4
              have X5 := hideK (show TyBd fq cl3 ck3 ∧ LP w5 (fun b => W3.heap.size ≤ b ∧ b < w5.heap.size) fq.labels al3 ∧ ∃ d, KP w5 (fun b => W3.heap.size ≤ b ∧ b < w5.heap.size) d fq.kids ak3 from ⟨hbd3, hlp3, d3, hkp3⟩)
              have hA5 : Below w5.heap.size w5 (w5.alloc (.cells #[.int .i64 fq.kind, .int .i64 fq.so, .string fq.name, .slice al3 fq.labels.length cl3, .slice ak3 fq.kids.length ck3] 25)) := (Below.refl _ _).alloc (Nat.le_refl _) _
              have O5 := hideK (own_belowG T5.out.own hA5)
              have L5 := hideK (show (w5.alloc (.cells #[.int .i64 fq.kind, .int .i64 fq.so, .string fq.name, .slice al3 fq.labels.length cl3, .slice ak3 fq.kids.length ck3] 25)).ownsRow base 25 5 (.slice (some ⟨w5.heap.size, 0, none⟩) 1 1) 1 (tC (fq, (al3, cl3), (ak3, ck3))) from World.ownsRow_lit (base := base) (e := 25) (size := 5) w5 #[.int .i64 fq.kind, .int .i64 fq.so, .string fq.name, .slice al3 fq.labels.length cl3, .slice ak3 fq.kids.length ck3] 1 T5.out.l3 (by decide) rfl)
              have o5 := T5.out.l3
              have l2 := T5.out.l2
              have l1 := T5.out.l1
              have m5a : (w5.alloc (.cells #[.int .i64 fq.kind, .int .i64 fq.so, .string fq.name, .slice al3 fq.labels.length cl3, .slice ak3 fq.kids.length ck3] 25)).cell? ⟨tb, 4, none⟩ = some (.slice ua k uc) := (World.cell?_alloc_past _ _ _ (show tb < w5.heap.size by omega)).trans m5
              have o5a : base ≤ (w5.alloc (.cells #[.int .i64 fq.kind, .int .i64 fq.so, .string fq.name, .slice al3 fq.labels.length cl3, .slice ak3 fq.kids.length ck3] 25)).heap.size := by simp; omega
              clear hb5 hbr hbd3 hlp3 hkp3
              refine hK _ _ ?_
              clear hK K
              refine take_oneH1 5 (AllReady.cons rfl (fun K hK => ?_) AllReady.nil) (by kernel_rfl)
              go_simp
              refine hK _ _ ?_
              clear hK K
              refine take_oneH1 6 (AllReady.cons rfl (fun K hK => ?_) AllReady.nil) (by kernel_rfl)
              refine step_append_rows _ rfl (.tmp 41) (.tmp 45) 23 rfl base base 25 j1 _ 5 80 Tryd.underlying23 hj hy0 hy1 hy2 rfl (by decide) _ _ _ rfl O5.out _ _ _ rfl L5.out (tC_one (fq, (al3, cl3), (ak3, ck3))) (by unfold maxLen; omega) (by omega) o5a ?_
              intro v7 w7 hO7 hg7 hat7
              have HUV := hideK (show ∀ b, (Value.slice ua k uc).ownBlock = some b → b < W3.heap.size from fun b e => (HTB.out.ul b e).2)
              have T7 := hideK (T5.out.app hA5 (V := W3.heap.size) HTB.out.l3 HUV.out X5.out hg7 hO7 hat7)
              have hgW := (World.grownBy_alloc w5 (.cells #[.int .i64 fq.kind, .int .i64 fq.so, .string fq.name, .slice al3 fq.labels.length cl3, .slice ak3 fq.kids.length ck3] 25) (Value.slice ua k uc).ownBlock).trans hg7
              have htn : ∀ b, b < base → (Value.slice ua k uc).ownBlock ≠ some b := fun b hb e => by have := (T5.out.ul b e).1; omega
              have m7 := (World.cell?_of_block (a := ⟨tb, 4, none⟩) (hgW.block tb (by omega) (fun e => htn tb l2 e.symm))).trans m5
              have f7 := (World.frozen?_of_block (a := ⟨tb, 4, none⟩) (hgW.block tb (by omega) (fun e => htn tb l2 e.symm))).trans (T5.out.fo 4)
              have B7 := hideK (below_app B5.out hA5 hg7 (fun b e => by have := (T5.out.ul b e).1; omega) (show w.heap.size ≤ tb by omega) 4 v7)
              have hk7 : ∀ o, (w7.setCell ⟨tb, 4, none⟩ v7).cell? ⟨w.heap.size, o, none⟩ = w5.cell? ⟨w.heap.size, o, none⟩ := fun o => (cell_set _ (.inl (by omega))).trans (World.cell?_of_block (a := ⟨w.heap.size, o, none⟩) (hgW.block w.heap.size (by omega) (fun e => htn _ (by omega) e.symm)))
              have P7 := hideK (P5.out.cells hk7)
              obtain ⟨va, vc, rfl⟩ := sliceH_own hO7
              clear hO7 hg7 hat7 hgW htn hA5 hk7
              refine hK _ _ ?_
              clear hK K
              refine take_oneH1 7 (AllReady.cons rfl (fun K hK => ?_) AllReady.nil) (by kernel_rfl)
              go_simp
              refine hK _ _ ?_
              clear hK K
              refine take_oneH1 8 (AllReady.cons rfl (fun K hK => ?_) AllReady.nil) (by kernel_rfl)
              go_simp
              refine hK _ _ ?_
              clear hK K
              refine wpAny_done (by kernel_rfl) ?_ _
              go_wp2_with fail
              go_roundw
              case rel => exact ⟨k + 1, .slice va (k + 1) vc, ts ++ [(fq, (al3, cl3), (ak3, ck3))], by omega, by go_num, T7.out, P7.out, B7.out, by rw [List.map_append, HMP.out, HTK.out]; rfl⟩
              case measure => simp [intOf]; omega
            · go_simp
              refine hK _ _ ?_
              clear hK K
              refine wpAny_ready (rs := [1, 4]) (by kernel_rfl) (by simp) ?_
              refine (AllReady.cons rfl (fun K hK => ?_) (AllReady.cons rfl (fun K hK => ?_) AllReady.nil))
              · go_simp
                refine hK _ _ ?_
                clear hK K
                refine take_oneH1 4 (AllReady.cons rfl (fun K hK => ?_) AllReady.nil) (by kernel_rfl)
                go_simp
                refine CQ.out.mono ?_
                rintro e w5 ⟨⟨al3, cl3, ak3, ck3, d3, rfl, hbd3, hlp3, hkp3⟩, hb5⟩
                have hbr : Below W3.heap.size W3 w5 := ((Below.refl _ _).drew).trans hb5
                have T5 := hideK (HTB.out.below hbr)
                have P5 := hideK (HPT.out.keep hbr HPZ.out)
                have B5 := hideK (HBK.out.trans (hbr.mono HBK.out.size))
                have m5 := T5.out.o4
                have X5 := hideK (show TyBd fq cl3 ck3 ∧ LP w5 (fun b => W3.heap.size ≤ b ∧ b < w5.heap.size) fq.labels al3 ∧ ∃ d, KP w5 (fun b => W3.heap.size ≤ b ∧ b < w5.heap.size) d fq.kids ak3 from ⟨hbd3, hlp3, d3, hkp3⟩)
                have hA5 : Below w5.heap.size w5 (w5.alloc (.cells #[.int .i64 fq.kind, .int .i64 fq.so, .string fq.name, .slice al3 fq.labels.length cl3, .slice ak3 fq.kids.length ck3] 25)) := (Below.refl _ _).alloc (Nat.le_refl _) _
                have O5 := hideK (own_belowG T5.out.own hA5)
                have L5 := hideK (show (w5.alloc (.cells #[.int .i64 fq.kind, .int .i64 fq.so, .string fq.name, .slice al3 fq.labels.length cl3, .slice ak3 fq.kids.length ck3] 25)).ownsRow base 25 5 (.slice (some ⟨w5.heap.size, 0, none⟩) 1 1) 1 (tC (fq, (al3, cl3), (ak3, ck3))) from World.ownsRow_lit (base := base) (e := 25) (size := 5) w5 #[.int .i64 fq.kind, .int .i64 fq.so, .string fq.name, .slice al3 fq.labels.length cl3, .slice ak3 fq.kids.length ck3] 1 T5.out.l3 (by decide) rfl)
                have o5 := T5.out.l3
                have l2 := T5.out.l2
                have l1 := T5.out.l1
                have m5a : (w5.alloc (.cells #[.int .i64 fq.kind, .int .i64 fq.so, .string fq.name, .slice al3 fq.labels.length cl3, .slice ak3 fq.kids.length ck3] 25)).cell? ⟨tb, 4, none⟩ = some (.slice ua k uc) := (World.cell?_alloc_past _ _ _ (show tb < w5.heap.size by omega)).trans m5
                have o5a : base ≤ (w5.alloc (.cells #[.int .i64 fq.kind, .int .i64 fq.so, .string fq.name, .slice al3 fq.labels.length cl3, .slice ak3 fq.kids.length ck3] 25)).heap.size := by simp; omega
                clear hb5 hbr hbd3 hlp3 hkp3
                refine hK _ _ ?_
                clear hK K
                refine take_oneH1 5 (AllReady.cons rfl (fun K hK => ?_) AllReady.nil) (by kernel_rfl)
                go_simp
                refine hK _ _ ?_
                clear hK K
                refine take_oneH1 6 (AllReady.cons rfl (fun K hK => ?_) AllReady.nil) (by kernel_rfl)
                refine step_append_rows _ rfl (.tmp 41) (.tmp 45) 23 rfl base base 25 j1 _ 5 80 Tryd.underlying23 hj hy0 hy1 hy2 rfl (by decide) _ _ _ rfl O5.out _ _ _ rfl L5.out (tC_one (fq, (al3, cl3), (ak3, ck3))) (by unfold maxLen; omega) (by omega) o5a ?_
                intro v7 w7 hO7 hg7 hat7
                have HUV := hideK (show ∀ b, (Value.slice ua k uc).ownBlock = some b → b < W3.heap.size from fun b e => (HTB.out.ul b e).2)
                have T7 := hideK (T5.out.app hA5 (V := W3.heap.size) HTB.out.l3 HUV.out X5.out hg7 hO7 hat7)
                have hgW := (World.grownBy_alloc w5 (.cells #[.int .i64 fq.kind, .int .i64 fq.so, .string fq.name, .slice al3 fq.labels.length cl3, .slice ak3 fq.kids.length ck3] 25) (Value.slice ua k uc).ownBlock).trans hg7
                have htn : ∀ b, b < base → (Value.slice ua k uc).ownBlock ≠ some b := fun b hb e => by have := (T5.out.ul b e).1; omega
                have m7 := (World.cell?_of_block (a := ⟨tb, 4, none⟩) (hgW.block tb (by omega) (fun e => htn tb l2 e.symm))).trans m5
                have f7 := (World.frozen?_of_block (a := ⟨tb, 4, none⟩) (hgW.block tb (by omega) (fun e => htn tb l2 e.symm))).trans (T5.out.fo 4)
                have B7 := hideK (below_app B5.out hA5 hg7 (fun b e => by have := (T5.out.ul b e).1; omega) (show w.heap.size ≤ tb by omega) 4 v7)
                have hk7 : ∀ o, (w7.setCell ⟨tb, 4, none⟩ v7).cell? ⟨w.heap.size, o, none⟩ = w5.cell? ⟨w.heap.size, o, none⟩ := fun o => (cell_set _ (.inl (by omega))).trans (World.cell?_of_block (a := ⟨w.heap.size, o, none⟩) (hgW.block w.heap.size (by omega) (fun e => htn _ (by omega) e.symm)))
                have P7 := hideK (P5.out.cells hk7)
                obtain ⟨va, vc, rfl⟩ := sliceH_own hO7
                clear hO7 hg7 hat7 hgW htn hA5 hk7
                refine hK _ _ ?_
                clear hK K
                refine take_oneH1 7 (AllReady.cons rfl (fun K hK => ?_) AllReady.nil) (by kernel_rfl)
                go_simp
                refine hK _ _ ?_
                clear hK K
                refine take_oneH1 8 (AllReady.cons rfl (fun K hK => ?_) AllReady.nil) (by kernel_rfl)
                go_simp
                refine hK _ _ ?_
                clear hK K
                refine wpAny_done (by kernel_rfl) ?_ _
                go_wp2_with fail
                go_roundw
                case rel => exact ⟨k + 1, .slice va (k + 1) vc, ts ++ [(fq, (al3, cl3), (ak3, ck3))], by omega, by go_num, T7.out, P7.out, B7.out, by rw [List.map_append, HMP.out, HTK.out]; rfl⟩
                case measure => simp [intOf]; omega
              · go_simp
                refine CQ.out.mono ?_
                rintro e w5 ⟨⟨al3, cl3, ak3, ck3, d3, rfl, hbd3, hlp3, hkp3⟩, hb5⟩
                have hbr : Below W3.heap.size W3 w5 := ((Below.refl _ _).drew).trans hb5
                have T5 := hideK (HTB.out.below hbr)
                have P5 := hideK (HPT.out.keep hbr HPZ.out)
                have B5 := hideK (HBK.out.trans (hbr.mono HBK.out.size))
                have m5 := T5.out.o4
                have X5 := hideK (show TyBd fq cl3 ck3 ∧ LP w5 (fun b => W3.heap.size ≤ b ∧ b < w5.heap.size) fq.labels al3 ∧ ∃ d, KP w5 (fun b => W3.heap.size ≤ b ∧ b < w5.heap.size) d fq.kids ak3 from ⟨hbd3, hlp3, d3, hkp3⟩)
                have hA5 : Below w5.heap.size w5 (w5.alloc (.cells #[.int .i64 fq.kind, .int .i64 fq.so, .string fq.name, .slice al3 fq.labels.length cl3, .slice ak3 fq.kids.length ck3] 25)) := (Below.refl _ _).alloc (Nat.le_refl _) _
                have O5 := hideK (own_belowG T5.out.own hA5)
                have L5 := hideK (show (w5.alloc (.cells #[.int .i64 fq.kind, .int .i64 fq.so, .string fq.name, .slice al3 fq.labels.length cl3, .slice ak3 fq.kids.length ck3] 25)).ownsRow base 25 5 (.slice (some ⟨w5.heap.size, 0, none⟩) 1 1) 1 (tC (fq, (al3, cl3), (ak3, ck3))) from World.ownsRow_lit (base := base) (e := 25) (size := 5) w5 #[.int .i64 fq.kind, .int .i64 fq.so, .string fq.name, .slice al3 fq.labels.length cl3, .slice ak3 fq.kids.length ck3] 1 T5.out.l3 (by decide) rfl)
                have o5 := T5.out.l3
                have l2 := T5.out.l2
                have l1 := T5.out.l1
                have m5a : (w5.alloc (.cells #[.int .i64 fq.kind, .int .i64 fq.so, .string fq.name, .slice al3 fq.labels.length cl3, .slice ak3 fq.kids.length ck3] 25)).cell? ⟨tb, 4, none⟩ = some (.slice ua k uc) := (World.cell?_alloc_past _ _ _ (show tb < w5.heap.size by omega)).trans m5
                have o5a : base ≤ (w5.alloc (.cells #[.int .i64 fq.kind, .int .i64 fq.so, .string fq.name, .slice al3 fq.labels.length cl3, .slice ak3 fq.kids.length ck3] 25)).heap.size := by simp; omega
                clear hb5 hbr hbd3 hlp3 hkp3
                refine hK _ _ ?_
                clear hK K
                refine wpAny_ready (rs := [1, 5]) (by kernel_rfl) (by simp) ?_
                refine (AllReady.cons rfl (fun K hK => ?_) (AllReady.cons rfl (fun K hK => ?_) AllReady.nil))
                · go_simp
                  refine hK _ _ ?_
                  clear hK K
                  refine take_oneH1 5 (AllReady.cons rfl (fun K hK => ?_) AllReady.nil) (by kernel_rfl)
                  go_simp
                  refine hK _ _ ?_
                  clear hK K
                  refine take_oneH1 6 (AllReady.cons rfl (fun K hK => ?_) AllReady.nil) (by kernel_rfl)
                  refine step_append_rows _ rfl (.tmp 41) (.tmp 45) 23 rfl base base 25 j1 _ 5 80 Tryd.underlying23 hj hy0 hy1 hy2 rfl (by decide) _ _ _ rfl O5.out _ _ _ rfl L5.out (tC_one (fq, (al3, cl3), (ak3, ck3))) (by unfold maxLen; omega) (by omega) o5a ?_
                  intro v7 w7 hO7 hg7 hat7
                  have HUV := hideK (show ∀ b, (Value.slice ua k uc).ownBlock = some b → b < W3.heap.size from fun b e => (HTB.out.ul b e).2)
                  have T7 := hideK (T5.out.app hA5 (V := W3.heap.size) HTB.out.l3 HUV.out X5.out hg7 hO7 hat7)
                  have hgW := (World.grownBy_alloc w5 (.cells #[.int .i64 fq.kind, .int .i64 fq.so, .string fq.name, .slice al3 fq.labels.length cl3, .slice ak3 fq.kids.length ck3] 25) (Value.slice ua k uc).ownBlock).trans hg7
                  have htn : ∀ b, b < base → (Value.slice ua k uc).ownBlock ≠ some b := fun b hb e => by have := (T5.out.ul b e).1; omega
                  have m7 := (World.cell?_of_block (a := ⟨tb, 4, none⟩) (hgW.block tb (by omega) (fun e => htn tb l2 e.symm))).trans m5
                  have f7 := (World.frozen?_of_block (a := ⟨tb, 4, none⟩) (hgW.block tb (by omega) (fun e => htn tb l2 e.symm))).trans (T5.out.fo 4)
                  have B7 := hideK (below_app B5.out hA5 hg7 (fun b e => by have := (T5.out.ul b e).1; omega) (show w.heap.size ≤ tb by omega) 4 v7)
                  have hk7 : ∀ o, (w7.setCell ⟨tb, 4, none⟩ v7).cell? ⟨w.heap.size, o, none⟩ = w5.cell? ⟨w.heap.size, o, none⟩ := fun o => (cell_set _ (.inl (by omega))).trans (World.cell?_of_block (a := ⟨w.heap.size, o, none⟩) (hgW.block w.heap.size (by omega) (fun e => htn _ (by omega) e.symm)))
                  have P7 := hideK (P5.out.cells hk7)
                  obtain ⟨va, vc, rfl⟩ := sliceH_own hO7
                  clear hO7 hg7 hat7 hgW htn hA5 hk7
                  refine hK _ _ ?_
                  clear hK K
                  refine take_oneH1 7 (AllReady.cons rfl (fun K hK => ?_) AllReady.nil) (by kernel_rfl)
                  go_simp
                  refine hK _ _ ?_
                  clear hK K
                  refine take_oneH1 8 (AllReady.cons rfl (fun K hK => ?_) AllReady.nil) (by kernel_rfl)
                  go_simp
                  refine hK _ _ ?_
                  clear hK K
                  refine wpAny_done (by kernel_rfl) ?_ _
                  go_wp2_with fail
                  go_roundw
                  case rel => exact ⟨k + 1, .slice va (k + 1) vc, ts ++ [(fq, (al3, cl3), (ak3, ck3))], by omega, by go_num, T7.out, P7.out, B7.out, by rw [List.map_append, HMP.out, HTK.out]; rfl⟩
                  case measure => simp [intOf]; omega
                · go_simp
                  refine hK _ _ ?_
                  clear hK K
                  refine take_oneH1 1 (AllReady.cons rfl (fun K hK => ?_) AllReady.nil) (by kernel_rfl)
                  go_simp
                  refine hK _ _ ?_
                  clear hK K
                  refine take_oneH1 6 (AllReady.cons rfl (fun K hK => ?_) AllReady.nil) (by kernel_rfl)
                  refine step_append_rows _ rfl (.tmp 41) (.tmp 45) 23 rfl base base 25 j1 _ 5 80 Tryd.underlying23 hj hy0 hy1 hy2 rfl (by decide) _ _ _ rfl O5.out _ _ _ rfl L5.out (tC_one (fq, (al3, cl3), (ak3, ck3))) (by unfold maxLen; omega) (by omega) o5a ?_
                  intro v7 w7 hO7 hg7 hat7
                  have HUV := hideK (show ∀ b, (Value.slice ua k uc).ownBlock = some b → b < W3.heap.size from fun b e => (HTB.out.ul b e).2)
                  have T7 := hideK (T5.out.app hA5 (V := W3.heap.size) HTB.out.l3 HUV.out X5.out hg7 hO7 hat7)
                  have hgW := (World.grownBy_alloc w5 (.cells #[.int .i64 fq.kind, .int .i64 fq.so, .string fq.name, .slice al3 fq.labels.length cl3, .slice ak3 fq.kids.length ck3] 25) (Value.slice ua k uc).ownBlock).trans hg7
                  have htn : ∀ b, b < base → (Value.slice ua k uc).ownBlock ≠ some b := fun b hb e => by have := (T5.out.ul b e).1; omega
                  have m7 := (World.cell?_of_block (a := ⟨tb, 4, none⟩) (hgW.block tb (by omega) (fun e => htn tb l2 e.symm))).trans m5
                  have f7 := (World.frozen?_of_block (a := ⟨tb, 4, none⟩) (hgW.block tb (by omega) (fun e => htn tb l2 e.symm))).trans (T5.out.fo 4)
                  have B7 := hideK (below_app B5.out hA5 hg7 (fun b e => by have := (T5.out.ul b e).1; omega) (show w.heap.size ≤ tb by omega) 4 v7)
                  have hk7 : ∀ o, (w7.setCell ⟨tb, 4, none⟩ v7).cell? ⟨w.heap.size, o, none⟩ = w5.cell? ⟨w.heap.size, o, none⟩ := fun o => (cell_set _ (.inl (by omega))).trans (World.cell?_of_block (a := ⟨w.heap.size, o, none⟩) (hgW.block w.heap.size (by omega) (fun e => htn _ (by omega) e.symm)))
                  have P7 := hideK (P5.out.cells hk7)
                  obtain ⟨va, vc, rfl⟩ := sliceH_own hO7
                  clear hO7 hg7 hat7 hgW htn hA5 hk7
                  refine hK _ _ ?_
                  clear hK K
                  refine take_oneH1 7 (AllReady.cons rfl (fun K hK => ?_) AllReady.nil) (by kernel_rfl)
                  go_simp
                  refine hK _ _ ?_
                  clear hK K
                  refine take_oneH1 8 (AllReady.cons rfl (fun K hK => ?_) AllReady.nil) (by kernel_rfl)
                  go_simp
                  refine hK _ _ ?_
                  clear hK K
                  refine wpAny_done (by kernel_rfl) ?_ _
                  go_wp2_with fail
                  go_roundw
                  case rel => exact ⟨k + 1, .slice va (k + 1) vc, ts ++ [(fq, (al3, cl3), (ak3, ck3))], by omega, by go_num, T7.out, P7.out, B7.out, by rw [List.map_append, HMP.out, HTK.out]; rfl⟩
                  case measure => simp [intOf]; omega
          · have hltk : ¬ (k : Int) < (t.kids.length : Int) := by omega
            obtain rfl : k = t.kids.length := by omega
            rw [List.take_length] at hmp
            have htl : ts.length = t.kids.length := by have := congrArg List.length hmp; simpa using this
            obtain ⟨ka, kc, dd, rfl, hkc, hkc2, hkp⟩ := kp_row hTB.own htl (hTB.tok.keep (fun _ _ _ => rfl) (Q := fun b => w.heap.size + 1 < b ∧ b < wr.heap.size) (fun b hb => ⟨by have := hTB.l1; have := hTB.l2; omega, hb.2.1⟩)) (fun b e => ⟨by have := (hTB.ul b e).1; have := hTB.l1; have := hTB.l2; omega, (hTB.ul b e).2⟩)
            rw [hmp] at hkp
            have HKP := hideK hkp
            have HLP := hideK (hTB.lp.keep (W' := wr) (fun _ _ _ => rfl) (Q := fun b => w.heap.size + 1 < b ∧ b < wr.heap.size) (fun b hb => ⟨hb.1, by have := hTB.l3; omega⟩))
            have HBD := hideK (show TyBd ⟨t.kind, t.so, t.name, t.labels, t.kids.map F⟩ lc kc from ⟨by have := HPD.out.1; simp only; omega, fun l hl => by have := HPD.out.2.2.1 l hl; omega, HCP.out.1, HCP.out.2, by simpa using hkc, hkc2⟩)
            obtain ⟨z0, z1, z2, z3, z4, zf, zl⟩ := hTB.r
            have f0 := zf 0
            have f1 := zf 1
            have f2 := zf 2
            have f3 := zf 3
            have f4 := zf 4
            have t0 := hTB.o0
            have t1 := hTB.o1
            have t2 := hTB.o2
            have t3 := hTB.o3
            have t4 := hTB.o4
            have HB9 := hideK (st5_below (w.heap.size + 1) 0 (.int .i64 t.kind) (.int .i64 t.so) (.string t.name) (.slice la t.labels.length lc) (.slice ka t.kids.length kc) hBW (by omega))
            have HTA := hideK (show TyAt (st5 wr (w.heap.size + 1) 0 (.int .i64 t.kind) (.int .i64 t.so) (.string t.name) (.slice la t.labels.length lc) (.slice ka t.kids.length kc)) (w.heap.size + 1) 0 ⟨t.kind, t.so, t.name, t.labels, t.kids.map F⟩ la lc ka kc from by
              have h := st5_at wr (w.heap.size + 1) 0 ⟨t.kind, t.so, t.name, t.labels, t.kids.map F⟩ la lc ka kc (fun j hj => by
                rw [Nat.zero_add]
                have : j = 0 ∨ j = 1 ∨ j = 2 ∨ j = 3 ∨ j = 4 := by omega
                rcases this with rfl | rfl | rfl | rfl | rfl
                · exact ⟨_, z0⟩
                · exact ⟨_, z1⟩
                · exact ⟨_, z2⟩
                · exact ⟨_, z3⟩
                · exact ⟨_, z4⟩)
              simp only [List.length_map] at h
              exact h)
            have HK9 := hideK (show ∀ b o, (w.heap.size + 1 < b ∧ b < wr.heap.size) → (st5 wr (w.heap.size + 1) 0 (.int .i64 t.kind) (.int .i64 t.so) (.string t.name) (.slice la t.labels.length lc) (.slice ka t.kids.length kc)).cell? ⟨b, o, none⟩ = wr.cell? ⟨b, o, none⟩ from fun b o hb => st5_other _ _ _ _ _ _ _ _ _ _ (.inl (by omega)))
            have HS9 := hideK (show (st5 wr (w.heap.size + 1) 0 (.int .i64 t.kind) (.int .i64 t.so) (.string t.name) (.slice la t.labels.length lc) (.slice ka t.kids.length kc)).heap.size = wr.heap.size from st5_size _ _ _ _ _ _ _ _)
            clear zf hTB hPT hBW hmp hkp htl hkc hkc2
            go_wp2_with fail
            change bodyPost _ _ _ _ _ (st5 wr (w.heap.size + 1) 0 (.int .i64 t.kind) (.int .i64 t.so) (.string t.name) (.slice la t.labels.length lc) (.slice ka t.kids.length kc))
            generalize (st5 wr (w.heap.size + 1) 0 (.int .i64 t.kind) (.int .i64 t.so) (.string t.name) (.slice la t.labels.length lc) (.slice ka t.kids.length kc)) = W9 at *
            obtain ⟨r0, r1, r2, r3, r4⟩ := HTA.out
            simp only [Nat.zero_add, List.length_map] at r0 r1 r2 r3 r4
            refine bodyPost_ret (v := .agg #[.int .i64 t.kind, .int .i64 t.so, .string t.name, .slice la t.labels.length lc, .slice ka t.kids.length kc]) (by simp [results, Tryd.results56, go_sem, r0, r1, r2, r3, r4]) rfl ?_
            have hs9 := HS9.out
            exact ⟨⟨la, lc, ka, kc, by first | rfl | simp [List.length_map], HBD.out, HLP.out.keep HK9.out (fun b hb => by omega), dd, HKP.out.keep HK9.out (fun b hb => by omega)⟩, HB9.out⟩
end Go.Proofs.YtnlpnbelkkgghaaDoor
