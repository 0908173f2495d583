/-
  The walk through the law WiresBack, for every two lists of events and every text.
-/
import Derived.Test.YtefdekfgmbgbbaaGreatDoorWiy
namespace Go.Proofs.YtefdekfgmbgbbaaGreatDoor
open Go.RowKit Go.Shelf

/-- the event of the law's first line -/
def evM : Ev := ⟨2, 1, -3, ⟨#[]⟩, noTy, ⟨#[]⟩⟩
theorem evM_w (V : ByteArray → Bool) : weZ V evM = 0 := by
  exact (if_pos (Or.inl rfl)).trans (chk_one V _)
theorem evM_z (V : ByteArray → Bool) : wwZ V [evM] = 0 := by
  unfold wwZ
  rw [if_neg (by simp)]
  exact (weL_all V _).2 (fun x hx => by rw [List.mem_singleton.1 hx]; exact evM_w V)
theorem evM_s (V : ByteArray → Bool) : wwS V [evM] = ⟨#[2, 1, 5]⟩ := by
  unfold wwS
  rw [if_pos (evM_z V)]
  rfl
theorem wiL_code (V : ByteArray → Bool) : ∀ (B : Nat) (L : List UInt8) (c : Int) (r : List UInt8), wiL V B L = .error (c, r) → c = 2 ∨ c = 3 := by
  intro B
  induction B with
  | zero =>
    intro L c r h
    cases L with
    | nil => rw [wiL_nil] at h; cases h
    | cons b q => rw [wiL_zero] at h; injection h with h; exact .inl (Prod.mk.inj h).1.symm
  | succ B ih =>
    intro L c r h
    cases L with
    | nil => rw [wiL_nil] at h; cases h
    | cons b q =>
      cases hn : wiE V (b :: q) with
      | error e => rw [wiL_bad V B b q e hn] at h; injection h with h; exact .inr (Prod.mk.inj h).1.symm
      | ok y =>
        obtain ⟨y, p⟩ := y
        rw [wiL_step V B _ _ _ (by simp) hn] at h
        cases hr : wiL V B p with
        | error e => rw [hr] at h; injection h with h; subst h; exact ih p c r hr
        | ok ys => rw [hr] at h; cases h
theorem wwZ_ok {V : ByteArray → Bool} {xs : List Ev} (h : ∀ x ∈ xs, weZ V x = 0) (hl : xs.length ≤ 200) : wwZ V xs = 0 := by
  unfold wwZ
  rw [if_neg (by omega)]
  exact (weL_all V xs).2 h
theorem bs_two (a b : List UInt8) : bs (a ++ b) = bs a ++ bs b := by
  apply ByteArray.ext; apply Array.toList_inj.1; simp [bs]
set_option maxRecDepth 100000 in
set_option maxHeartbeats 16000000 in
theorem wiresBack_law (evs evm : List Ev) (ae am : Option Addr) (ce cm : Nat) (s : ByteArray) (w : World) (hT0 : Tabs w) (hev : EVS w w.heap.size evs ae) (hem : EVS w w.heap.size evm am)
    (hbd : ∀ x ∈ evs, (-9223372036854775808 ≤ x.n ∧ x.n ≤ 9223372036854775807) ∧ x.label.size ≤ 9223372036854775807) (hbm : ∀ x ∈ evm, (-9223372036854775808 ≤ x.n ∧ x.n ≤ 9223372036854775807) ∧ x.label.size ≤ 9223372036854775807)
    (hlen : evs.length ≤ 9223372036854775807) (hlem : evm.length ≤ 9223372036854775807) (hs : s.size ≤ 281474976710656) :
    Calls Tryz.prog 3 #[.slice ae evs.length ce, .slice am evm.length cm, .string s] w fun e w' => e = .returned (.bool true) ∧ Below w.heap.size w w' := by
  obtain ⟨i0, hi, hz0, hz1, hz2⟩ := info_parts infoEv
  have hKK : ∀ w1 w2, AT w w1 → Below w.heap.size w1 w2 → AT w w2 := fun _ _ h hb => Below.trans h hb
  have CR := hideK (fun (s : ByteArray) (W : World) (hb : Below w.heap.size w W) (hs : s.size ≤ 281474976710656) => wread_any (at_v hT0) hKK s W hb hb.size hs)
  have CX := hideK (fun (xs : List Ev) (a : Option Addr) (c : Nat) (W : World) (hb : Below w.heap.size w W) (hx : EVS W W.heap.size xs a) (hxb : ∀ x ∈ xs, (-9223372036854775808 ≤ x.n ∧ x.n ≤ 9223372036854775807) ∧ x.label.size ≤ 9223372036854775807) (hl : xs.length ≤ 9223372036854775807) => wwrite_any (at_v hT0) hKK xs a c W hb hb.size hx hxb hl)
  have HEV := hideK hev
  have HEM := hideK hem
  have HBD := hideK hbd
  have HBM := hideK hbm
  have BL := (Below.refl w.heap.size w).alloc (Nat.le_refl _) (.cells (evL evM none 0 none 0).toArray 33)
  have C1 := CX.out [evM] (some ⟨w.heap.size, 0, none⟩) 1 (w.alloc (.cells (evL evM none 0 none 0).toArray 33)) BL (EvL.lit (d := 0) ⟨noTy_bd, .inl rfl, noTy_kt 0⟩ (by show (0 : Nat) ≤ _; omega) _ rfl) (fun x hx => by rw [List.mem_singleton.1 hx]; exact ⟨⟨by decide, by decide⟩, by show (0 : Nat) ≤ _; omega⟩) (by simp)
  rw [evM_s, evM_z] at C1
  have BL1 := hideK BL
  simp only [evL, evM, List.length_cons, List.length_nil, Nat.zero_add, noTy] at C1 BL1
  clear hev hem hbd hbm hT0 hKK BL
  go_enter Tryz.func3, Tryz.ntmps3
  go_upto_region 4 with (go_at_call 5; go_must (refine C1.mono ?_; rintro e w1 ⟨rfl, hb1⟩; have B1 := hideK (BL1.out.trans (hb1.mono BL1.out.size))))
  have C2 := CR.out s w1 B1.out hs
  rcases hX : wiL vD 200 s.data.toList with ⟨c, r⟩ | xs
  focus
    have hc := wiL_code vD 200 _ c r hX
    rw [hX] at C2
    simp only [RDPost] at C2
    clear hX
    have hc0 : (c == 0) = false := by simp; omega
    generalize ((s.size - r.length : Nat) : Int) = g at *
    clear hc
    go_upto_region 9 with (go_at_call 6; go_must (refine C2.mono ?_; rintro e w2 ⟨rfl, hb2⟩; have B2 := hideK ((B1.out.trans (hb2.mono B1.out.size)).alloc (by have := B1.out.size; have := hb2.size; omega) (.cells #[.int .i64 c, .int .i64 g] 35))))
    obtain ⟨W9, hW9⟩ : ∃ W, W = w2.alloc (.cells #[.int .i64 c, .int .i64 g] 35) := ⟨_, rfl⟩
    rw [← hW9] at B2 ⊢
    clear hW9 hb2 C2 hc0
    have B9 := B2
    clear B2
  rotate_left
  focus
    obtain ⟨hxo, hxw, hxl⟩ := wiL_conv vD 200 _ xs hX
    have hxb := wiL_lab vD 200 _ xs hX
    rw [hX] at C2
    simp only [RDPost] at C2
    have hzx : wwZ vD xs = 0 := wwZ_ok (fun x hx => (hxo x hx).1.1) hxl
    have hsx : wwS vD xs = s := by unfold wwS; rw [if_pos hzx, hxw, bs_of]
    have HXS := hideK (show ∀ x ∈ xs, x.s.size ≤ 9223372036854775807 from fun x hx => by have := (hxo x hx).2; omega)
    have CXX := hideK (fun (a : Option Addr) (c : Nat) (W : World) (hb : Below w.heap.size w W) (hx : EVS W W.heap.size xs a) => CX.out xs a c W hb hx (fun x hx => ⟨(hxo x hx).1.2, by have := hxb x hx; omega⟩) (by omega))
    rw [hzx, hsx] at CXX
    clear hX hxo hxw hxb hzx hsx hxl
    go_upto_region 9 with (first
      | (go_at_call 6; go_must (refine C2.mono ?_; rintro e w2 ⟨⟨av, cv, rfl, hx2⟩, hb2⟩; have HX2 := hideK ((hx2.evs HXS.out).up ((Below.refl _ _).alloc (Nat.le_refl _) (.cells #[.int .i64 0, .int .i64 0] 35))); have B2 := hideK ((B1.out.trans (hb2.mono B1.out.size)).alloc (by have := B1.out.size; have := hb2.size; omega) (.cells #[.int .i64 0, .int .i64 0] 35)); clear hx2 hb2))
      | (go_at_call 5; go_must (refine (CXX.out _ _ _ B2.out HX2.out).mono ?_; rintro e W9 ⟨rfl, hb3⟩; have B9 := hideK (B2.out.trans (hb3.mono B2.out.size)))))
    clear CXX HXS HX2 B2 hb3 C2
  all_goals
    by_cases hz : wwZ vD evs = 0
    rotate_left
    · have hzb : (wwZ vD evs != 0) = true := by simpa using hz
      have C3 := CX.out evs ae ce W9 B9.out (HEV.out.up B9.out) HBD.out hlen
      rw [show wwS vD evs = ⟨#[]⟩ by unfold wwS; rw [if_neg hz]] at C3
      generalize wwZ vD evs = z at *
      clear hz CX CR
      go_wp2_with (go_at_call 5; go_must (refine C3.mono ?_; rintro e w3 ⟨rfl, hb3⟩; have B3 := hideK (B9.out.trans (hb3.mono B9.out.size))))
      go_ret
      exact ⟨rfl, B3.out⟩
    have hl2 : evs.length ≤ 200 := by
      unfold wwZ at hz
      split at hz
      · omega
      · omega
    have hwe : weL vD evs = 0 := by
      unfold wwZ at hz
      rw [if_neg (by omega)] at hz
      exact hz
    have hok : ∀ x ∈ evs, evOK vD x := fun x hx => ⟨(weL_all vD evs).1 hwe x hx, (HBD.out x hx).1⟩
    have hws : wwS vD evs = bs (wrL evs) := by unfold wwS; rw [if_pos hz]
    have hll : (wrL evs).length ≤ 420000 := by
      have q := wrL_len vD evs evs.length (fun j hj _ => (hok _ (List.getElem_mem hj)).1)
      rw [List.take_length] at q
      omega
    have C3 := CX.out evs ae ce W9 B9.out (HEV.out.up B9.out) HBD.out hlen
    rw [hz, hws] at C3
    have hrb := wrL_back vD evs 200 hok hl2
    have CT := hideK (fun (W : World) (hb : Below w.heap.size w W) => CR.out (bs (wrL evs)) W hb (by rw [bs_size]; omega))
    rw [bs_list, hrb] at CT
    simp only [RDPost] at CT
    obtain ⟨ys, hys⟩ : ∃ ys, ys = evs.map bareV := ⟨_, rfl⟩
    obtain ⟨t, ht⟩ : ∃ t, t = bs (wrL evs) := ⟨_, rfl⟩
    rw [← ht] at C3 CT
    have hts : t.size ≤ 420000 := by rw [ht, bs_size]; exact hll
    rw [← hys] at CT
    have HYS := hideK (show ∀ x ∈ ys, x.s.size ≤ 9223372036854775807 from fun x hx => by
      rw [hys] at hx
      have := ((wiL_conv vD 200 _ _ hrb).1 x hx).2
      omega)
    have hyl : ys.length = evs.length := by rw [hys, List.length_map]
    have HYL := hideK hyl
    have HY := hideK hys
    have HT := hideK ht
    have HOK := hideK hok
    clear hys ht hok hws hll hrb hz hwe CR hyl
    go_upto_region 14 with (first
      | (go_at_call 5; go_must (refine C3.mono ?_; rintro e w3 ⟨rfl, hb3⟩; have B3 := hideK (B9.out.trans (hb3.mono B9.out.size))))
      | (go_at_call 6; go_must (refine (CT.out _ B3.out).mono ?_; rintro e w4 ⟨⟨av, cv, rfl, hx4⟩, hb4⟩; have HE4 := hideK ((hx4.evs HYS.out).up ((Below.refl _ _).alloc (Nat.le_refl _) (.cells #[.int .i64 0, .int .i64 0] 35))); have B4 := hideK ((B3.out.trans (hb4.mono B3.out.size)).alloc (by have := B3.out.size; have := hb4.size; omega) (.cells #[.int .i64 0, .int .i64 0] 35)); clear hx4 hb4)))
    have hf0 : (w4.alloc (.cells #[.int .i64 0, .int .i64 0] 35)).cell? ⟨w4.heap.size, 0, none⟩ = some (.int .i64 0) := by rw [World.cell?_alloc_new]; rfl
    have hfl : w4.heap.size < (w4.alloc (.cells #[.int .i64 0, .int .i64 0] 35)).heap.size := by simp
    obtain ⟨w5, hw5⟩ : ∃ W, W = w4.alloc (.cells #[.int .i64 0, .int .i64 0] 35) := ⟨_, rfl⟩
    rw [← hw5] at HE4 B4 hf0 hfl ⊢
    clear hw5 CT C3 hb3
    generalize w4.heap.size = fb at *
    have HEV5 := hideK (HEV.out.up B4.out)
    have hlz : (evs.length : Int) ≤ 200 := by omega
    go_wp2_with fail
    go_loopw [17, 19, 71] (fun v _ i wr => ∃ (es : List EvA) (av' : Option Addr) (cv' : Nat), v = .slice av' es.length cv' ∧ es.length ≤ evs.length ∧ i = .int .i64 (es.length : Int) ∧ es.map Prod.fst = (evs.take es.length).map bareV ∧ wr.ownsRow w5.heap.size 33 10 (.slice av' es.length cv') es.length (evsC es) ∧ (∀ e ∈ es, EvD wr w5.heap.size e) ∧ Below w5.heap.size w5 wr) (fun _ _ i _ => evs.length - (intOf i).toNat)
    case atStart => exact ⟨[], none, 0, rfl, by simp, rfl, rfl, World.ownsRow_nil _ _ _ _, (fun e he => by cases he), Below.refl _ _⟩
    case round =>
      obtain ⟨es, av', cv', rfl, hk, rfl, hfst, hown, hes, hb⟩ := hrel
      have HB := hideK hb
      have HO := hideK hown
      have HE := hideK hes
      have HF := hideK hfst
      by_cases hend : es.length = evs.length
      · have hlt : ¬ (es.length : Int) < (evs.length : Int) := by omega
        have hf1 := (hb.cell (p := ⟨fb, 0, none⟩) hfl).trans hf0
        obtain ⟨aw, cw, hv, hE⟩ := evs_row hown hes hb.size
        injection hv with hv1 _ hv2
        subst hv1 hv2
        rw [hfst, hend, List.take_length, ← HY.out] at hE
        have HW := hideK hE
        have hyl := HYL.out
        have hel : es.length = ys.length := by rw [hend, hyl]
        have CS := sameEvs_any ys av cv av' cv' wr (HE4.out.up HB.out) hE (by omega)
        have CS2 := hideK CS
        have HLE := hideK hel
        have C6 := hideK (fun (W : World) (hb : Below w.heap.size w W) => CX.out evm am cm W hb (HEM.out.up hb) HBM.out hlem)
        clear CS hend hel hE hown hes hfst hb HO HE HF hyl
        go_upto_region 19 with fail
        rw [HLE.out]
        clear hlt
        by_cases hzm : wwZ vD evm = 0
        rotate_left
        · have hzb : (wwZ vD evm != 0) = true := by simpa using hzm
          generalize wwZ vD evm = z at *
          generalize wwS vD evm = u at *
          clear hzm CX
          go_wp2_with (first
            | (go_at_call 8; go_must (refine CS2.out.mono ?_; rintro e w6 ⟨rfl, hb6⟩; have B6 := hideK (B4.out.trans ((HB.out.trans (hb6.mono HB.out.size)).mono B4.out.size))))
            | (go_at_call 5; go_must (refine (C6.out _ B6.out).mono ?_; rintro e w7 ⟨rfl, hb7⟩; have B7 := hideK (B6.out.trans (hb7.mono B6.out.size)))))
          go_ret
          exact ⟨rfl, B7.out⟩
        have hm2 : evm.length ≤ 200 := by
          unfold wwZ at hzm
          split at hzm
          · omega
          · omega
        have hmz : (evm.length : Int) ≤ 200 := by omega
        have hum : wwS vD evm = bs (wrL evm) := by unfold wwS; rw [if_pos hzm]
        rw [hzm] at C6
        by_cases hsum : evs.length + evm.length ≤ 200
        rotate_left
        · have hgt : (evs.length : Int) + (evm.length : Int) > 200 := by omega
          generalize wwS vD evm = u at *
          clear CX hum hzm
          go_wp2_with (first
            | (go_at_call 8; go_must (refine CS2.out.mono ?_; rintro e w6 ⟨rfl, hb6⟩; have B6 := hideK (B4.out.trans ((HB.out.trans (hb6.mono HB.out.size)).mono B4.out.size))))
            | (go_at_call 5; go_must (refine (C6.out _ B6.out).mono ?_; rintro e w7 ⟨rfl, hb7⟩; have B7 := hideK (B6.out.trans (hb7.mono B6.out.size)))))
          go_ret
          exact ⟨rfl, B7.out⟩
        have hgt : ¬ (evs.length : Int) + (evm.length : Int) > 200 := by omega
        have hwm : weL vD evm = 0 := by
          unfold wwZ at hzm
          rw [if_neg (by omega)] at hzm
          exact hzm
        have hzb : wwZ vD (evs ++ evm) = 0 := wwZ_ok (fun x hx => (List.mem_append.1 hx).elim (fun h => (HOK.out x h).1) ((weL_all vD evm).1 hwm x)) (by rw [List.length_append]; omega)
        obtain ⟨u, hu⟩ : ∃ u, u = wwS vD evm := ⟨_, rfl⟩
        have hsb : wwS vD (evs ++ evm) = t ++ u := by
          unfold wwS
          rw [if_pos hzb, wrL_app, bs_two, hu, hum, HT.out]
        have C9 := hideK (fun (a : Option Addr) (c : Nat) (W : World) (hb : Below w.heap.size w W) (hx : EVS W W.heap.size (evs ++ evm) a) => CX.out (evs ++ evm) a c W hb hx (fun x hx => (List.mem_append.1 hx).elim (HBD.out x) (HBM.out x)) (by rw [List.length_append]; omega))
        rw [hzb, hsb] at C9
        simp only [List.length_append] at C9
        rw [← hu] at C6
        have hus : u.size ≤ 420000 := by
          rw [hu, hum, bs_size]
          have q := wrL_len vD evm evm.length (fun j hj _ => (weL_all vD evm).1 hwm _ (List.getElem_mem hj))
          rw [List.take_length] at q
          omega
        have hcat : t.size + u.size ≤ 9223372036854775807 := by omega
        have CC := hideK (fun (W : World) (hb : Below w.heap.size w W) => cloneEv_any evs ae ce w.heap.size W (HEV.out.keep hb) (by omega))
        clear hu hsb hzb hwm hum hzm CX HOK HT HY
        go_upto_region 24 with (first
          | (go_at_call 8; go_must (refine CS2.out.mono ?_; rintro e w6 ⟨rfl, hb6⟩; have B6 := hideK (B4.out.trans ((HB.out.trans (hb6.mono HB.out.size)).mono B4.out.size))))
          | (go_at_call 5; go_must (refine (C6.out _ B6.out).mono ?_; rintro e w7 ⟨rfl, hb7⟩; have B7 := hideK (B6.out.trans (hb7.mono B6.out.size)))))
        clear hb6 hb7 B6 C6 CS2 HB B4 HE4 HEV5 HW
        go_wp2_with (first
          | (go_at_call 9; go_must (refine (CC.out _ B7.out).mono ?_; rintro e w8 ⟨⟨v8, es8, rfl, hf8, he8, ho8⟩, hb8⟩; have B8 := hideK (B7.out.trans (hb8.mono B7.out.size)); have E8 := hideK (fun e he => (he8 e he).keep (hb8.mono B7.out.size)); obtain ⟨fs, hfs, hfd, hf0, hfc⟩ := (HEM.out.keep B8.out).src))
          | (at_builtin; refine wpList_append_src _ rfl _ _ 22 rfl w7.heap.size 33 i0 (.agg #[.int .i64 0, .int .i64 0, .int .i64 0, .string ⟨#[]⟩, .int .i64 0, .int .i64 0, .string ⟨#[]⟩, .slice none 0 0, .slice none 0 0, .string ⟨#[]⟩]) 10 136 Tryz.underlying22 hi hz0 hz1 hz2 rfl (by decide) _ _ _ rfl ho8 am evm.length cm (evsC fs) rfl (by rw [evsC_len, ← hfs, List.length_map]) hf0 hfc (evsC_one fs) (by unfold maxLen; omega) (by omega) hb8.size ?_; intro v9 w9 hO9 hg9 hn9; have hl9 := ho8.lt; have hk9 : Below w.heap.size w8 w9 := (Below.refl _ _).grown hg9 B8.out.size (fun k hk => Nat.le_trans B7.out.size (hl9 k hk).1); obtain ⟨a9, c9, rfl, hE9⟩ := evs_both hf8 hfs hO9 (fun e he => (E8.out e he).keep hk9) (fun e he => (hfd e he).keep hk9) (Nat.le_trans B8.out.size hg9.size); have B9 := hideK (B8.out.trans hk9); have H9 := hideK hE9; clear hO9 hg9 hn9 hE9)
          | (go_at_call 5; go_must (refine (C9.out _ _ _ B9.out H9.out).mono ?_; rintro e w10 ⟨rfl, hb10⟩; have B10 := hideK (B9.out.trans (hb10.mono B9.out.size)))))
        go_ret
        exact ⟨rfl, B10.out⟩
      have hlt : (es.length : Int) < (evs.length : Int) := by omega
      have hke : es.length < evs.length := by omega
      rcases HEV.out.keep (B4.out.trans (hb.mono B4.out.size)) with hnil | ⟨b2, o2, e2, hb2, hall2⟩
      · rw [hnil] at hke; simp at hke
      subst e2
      obtain ⟨l2, m2, k2, n2, d2, hc2, hs2, ht2, hla2, hkt2⟩ := hall2 es.length hke
      obtain ⟨z, hz⟩ : ∃ z, z = evs[es.length] := ⟨_, rfl⟩
      rw [← hz] at hc2 hs2 ht2 hla2 hkt2
      have HZ := hideK hz
      have hw5 : w.heap.size ≤ w5.heap.size := B4.out.size
      have hal : Below wr.heap.size wr (wr.alloc (.cells #[.int .i64 z.kind, .int .i64 z.so, .int .i64 z.n, .string z.s, .int .i64 z.carry.kind, .int .i64 z.carry.so, .string z.carry.name, .slice l2 z.carry.labels.length m2, .slice k2 z.carry.kids.length n2, .string z.label] 33)) := (Below.refl _ _).alloc (Nat.le_refl _) _
      have HB1 := hideK (HB.out.alloc HB.out.size (.cells #[.int .i64 z.kind, .int .i64 z.so, .int .i64 z.n, .string z.s, .int .i64 z.carry.kind, .int .i64 z.carry.so, .string z.carry.name, .slice l2 z.carry.labels.length m2, .slice k2 z.carry.kids.length n2, .string z.label] 33))
      have O1 := hideK (HO.out.kept (FR.al (pb := wr.heap.size) (.cells #[.int .i64 z.kind, .int .i64 z.so, .int .i64 z.n, .string z.s, .int .i64 z.carry.kind, .int .i64 z.carry.so, .string z.carry.name, .slice l2 z.carry.labels.length m2, .slice k2 z.carry.kids.length n2, .string z.label] 33)) (by right; intro e; have := (HO.out.lt _ e).2; omega))
      have E1 := hideK (fun e he => (HE.out e he).keep (hal.mono HB.out.size))
      have ZL := hideK (show EvL (wr.alloc (.cells #[.int .i64 z.kind, .int .i64 z.so, .int .i64 z.n, .string z.s, .int .i64 z.carry.kind, .int .i64 z.carry.so, .string z.carry.name, .slice l2 z.carry.labels.length m2, .slice k2 z.carry.kids.length n2, .string z.label] 33)) w.heap.size d2 z l2 m2 k2 n2 from ⟨ht2, NAt.keep (hal.mono (Nat.le_trans hw5 HB.out.size)) hla2, KT.keep (hal.mono (Nat.le_trans hw5 HB.out.size)) hkt2⟩)
      obtain ⟨y, hy⟩ : ∃ y, y = bareV z := ⟨_, rfl⟩
      have CB := hideK (bareB_any w.heap.size d2 z l2 m2 k2 n2 (wr.alloc (.cells #[.int .i64 z.kind, .int .i64 z.so, .int .i64 z.n, .string z.s, .int .i64 z.carry.kind, .int .i64 z.carry.so, .string z.carry.name, .slice l2 z.carry.labels.length m2, .slice k2 z.carry.kids.length n2, .string z.label] 33)) (Nat.le_trans (Nat.le_trans hw5 HB.out.size) hal.size) ZL.out)
      rw [← hy] at CB
      have hys : y.s.size ≤ 9223372036854775807 := by
        rw [hy]
        unfold bareV
        split
        · exact hs2
        · split
          · show (0 : Nat) ≤ _; omega
          · show (0 : Nat) ≤ _; omega
      have HYB := hideK hy
      have HYS2 := hideK hys
      obtain ⟨x0, x1, x2, x3, x4, x5, x6, x7, x8, x9⟩ := hc2
      rw [Nat.add_zero] at x0
      simp only [evVal] at CB
      clear hal ht2 hla2 hkt2 hall2 hz hs2 hy hys hend hb hown hes hfst HB HO HE
      go_upto_region 17 with fail
      clear x0 x1 x2 x3 x4 x5 x6 x7 x8 x9
      have EZ := (EvB.new wr z l2 m2 k2 n2).cells
      obtain ⟨x0, x1, x2, x3, x4, x5, x6, x7, x8, x9⟩ := EZ
      generalize wr.alloc (.cells #[.int .i64 z.kind, .int .i64 z.so, .int .i64 z.n, .string z.s, .int .i64 z.carry.kind, .int .i64 z.carry.so, .string z.carry.name, .slice l2 z.carry.labels.length m2, .slice k2 z.carry.kids.length n2, .string z.label] 33) = W1 at *
      go_wp2_with (first
        | (go_at_call 7; go_must (refine CB.out.mono ?_; rintro e w6 ⟨⟨l3, m3, k3, n3, rfl, hg⟩, hb6⟩; have HB2 := hideK (HB1.out.trans (hb6.mono HB1.out.size)); have O2 := hideK (O1.out.kept (FR.of (pb := W1.heap.size) hb6) (by right; intro e; have := (O1.out.lt _ e).2; omega)); have hal6 : Below w6.heap.size w6 (w6.alloc (.cells #[.int .i64 y.kind, .int .i64 y.so, .int .i64 y.n, .string y.s, .int .i64 y.carry.kind, .int .i64 y.carry.so, .string y.carry.name, .slice l3 y.carry.labels.length m3, .slice k3 y.carry.kids.length n3, .string y.label] 33)) := (Below.refl _ _).alloc (Nat.le_refl _) _; have HB3 := hideK (HB2.out.alloc HB2.out.size (.cells #[.int .i64 y.kind, .int .i64 y.so, .int .i64 y.n, .string y.s, .int .i64 y.carry.kind, .int .i64 y.carry.so, .string y.carry.name, .slice l3 y.carry.labels.length m3, .slice k3 y.carry.kids.length n3, .string y.label] 33)); have O3 := hideK (O2.out.kept (FR.al (pb := w6.heap.size) (.cells #[.int .i64 y.kind, .int .i64 y.so, .int .i64 y.n, .string y.s, .int .i64 y.carry.kind, .int .i64 y.carry.so, .string y.carry.name, .slice l3 y.carry.labels.length m3, .slice k3 y.carry.kids.length n3, .string y.label] 33)) (by right; intro e; have := (O2.out.lt _ e).2; omega)); have L3 := hideK (lit_own w6 33 10 1 #[.int .i64 y.kind, .int .i64 y.so, .int .i64 y.n, .string y.s, .int .i64 y.carry.kind, .int .i64 y.carry.so, .string y.carry.name, .slice l3 y.carry.labels.length m3, .slice k3 y.carry.kids.length n3, .string y.label] rfl (by omega)); have E3 := hideK (fun e he => ((E1.out e he).keep (hb6.mono HB1.out.size)).keep (hal6.mono HB2.out.size)); have G3 := hideK (show EvD (w6.alloc (.cells #[.int .i64 y.kind, .int .i64 y.so, .int .i64 y.n, .string y.s, .int .i64 y.carry.kind, .int .i64 y.carry.so, .string y.carry.name, .slice l3 y.carry.labels.length m3, .slice k3 y.carry.kids.length n3, .string y.label] 33)) w5.heap.size ((y, l3, m3, k3, n3) : EvA) from ⟨d2, ⟨hg.1, NAt.mono hw5 (NAt.keep (hal6.mono (Nat.le_trans hw5 HB2.out.size)) hg.2.1), KT.mono hw5 (KT.keep (hal6.mono (Nat.le_trans hw5 HB2.out.size)) hg.2.2)⟩, HYS2.out⟩); clear hg hb6 O1 O2 E1 HB1 hal6))
        | (at_builtin; refine wpList_append_rows _ rfl _ _ 22 rfl _ _ 33 i0 (.agg #[.int .i64 0, .int .i64 0, .int .i64 0, .string ⟨#[]⟩, .int .i64 0, .int .i64 0, .string ⟨#[]⟩, .slice none 0 0, .slice none 0 0, .string ⟨#[]⟩]) 10 136 Tryz.underlying22 hi hz0 hz1 hz2 rfl (by decide) _ _ _ rfl O3.out _ _ _ rfl L3.out (evC_one (y, l3, m3, k3, n3)) (by unfold maxLen; omega) (by omega) HB3.out.size ?_; intro v8 w8 hO8 hg8 hn8))
      have HK8 := hideK (show Below w5.heap.size (w6.alloc (.cells #[.int .i64 y.kind, .int .i64 y.so, .int .i64 y.n, .string y.s, .int .i64 y.carry.kind, .int .i64 y.carry.so, .string y.carry.name, .slice l3 y.carry.labels.length m3, .slice k3 y.carry.kids.length n3, .string y.label] 33)) w8 from (Below.refl _ _).grown hg8 HB3.out.size (fun k hk => (O3.out.lt k hk).1))
      rcases own_cells hO8 with ⟨rfl, h0, _⟩ | ⟨g, cap, rfl, _⟩
      · omega
      go_roundw
      case rel =>
        have hm1 : (es ++ [((y, l3, m3, k3, n3) : EvA)]).length = es.length + 1 := by simp
        refine ⟨es ++ [(y, l3, m3, k3, n3)], some ⟨g, 0, none⟩, cap, by rw [hm1], by rw [hm1]; omega, by rw [hm1]; go_num, ?_, ?_, ?_, HB3.out.trans HK8.out⟩
        · rw [hm1, List.map_append, HF.out, ← List.take_append_getElem hke, List.map_append]
          show _ ++ [y] = _
          rw [HYB.out, HZ.out]
          rfl
        · rw [hm1, evsC_app]; exact hO8
        · intro e he
          rcases List.mem_append.1 he with he | he
          · exact (E3.out e he).keep HK8.out
          · rw [List.mem_singleton] at he
            subst he
            exact G3.out.keep HK8.out
      case measure => simp [intOf]; omega
end Go.Proofs.YtefdekfgmbgbbaaGreatDoor
