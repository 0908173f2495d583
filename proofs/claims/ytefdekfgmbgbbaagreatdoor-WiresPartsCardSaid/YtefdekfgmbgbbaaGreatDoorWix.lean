/-
  The walk through the law WiresParts, for every list of events and every place.
-/
import Derived.Test.YtefdekfgmbgbbaaGreatDoorWiw
import Derived.Test.YtefdekfgmbgbbaaGreatDoorKma
namespace Go.Proofs.YtefdekfgmbgbbaaGreatDoor
open Go.RowKit Go.Shelf

set_option maxRecDepth 100000 in
set_option maxHeartbeats 16000000 in
theorem wiresParts_law (evs : List Ev) (ae : Option Addr) (ce : Nat) (pl : Int) (w : World) (hT0 : Tabs w) (hev : EVS w w.heap.size evs ae) (hbd : ∀ x ∈ evs, (-9223372036854775808 ≤ x.n ∧ x.n ≤ 9223372036854775807) ∧ x.label.size ≤ 9223372036854775807) (hlen : evs.length ≤ 9223372036854775807) (hpl : -9223372036854775808 ≤ pl ∧ pl ≤ 9223372036854775807) :
    Calls Tryz.prog 4 #[.slice ae evs.length ce, .int .i64 pl] w fun e w' => e = .returned (.bool true) ∧ Below w.heap.size w w' := by
  have hKK : ∀ w1 w2, AT w w1 → Below w.heap.size w1 w2 → AT w w2 := fun _ _ h hb => Below.trans h hb
  have CR := hideK (fun (s : ByteArray) (W : World) (hb : Below w.heap.size w W) (hs : s.size ≤ 281474976710656) => wread_any (at_v hT0) hKK s W hb hb.size hs)
  have CW := hideK (fun (W : World) (hb : Below w.heap.size w W) => wwrite_any (at_v hT0) hKK evs ae ce W hb hb.size (hev.up hb) hbd hlen)
  have C4 := CR.out ⟨#[4]⟩ w (Below.refl _ _) (by show (1 : Nat) ≤ _; omega)
  rw [show (⟨#[4]⟩ : ByteArray).data.toList = [4] from rfl, read4] at C4
  simp only [RDPost] at C4
  rw [show (((⟨#[4]⟩ : ByteArray).size - ([] : List UInt8).length : Nat) : Int) = 1 from rfl] at C4
  have HEV := hideK hev
  have HBD := hideK hbd
  clear hev hbd hT0 hKK
  by_cases hz : wwZ vD evs = 0
  rotate_left
  · have hzb : (wwZ vD evs != 0) = true := by simpa using hz
    generalize wwZ vD evs = z at *
    generalize wwS vD evs = u at *
    clear hz
    go_enter Tryz.func4, Tryz.ntmps4
    go_wp2_with (first
      | (go_at_call 6; go_must (refine C4.mono ?_; rintro e w1 ⟨rfl, hb1⟩; have B1 := hideK (hb1.alloc hb1.size (.cells #[.int .i64 3, .int .i64 1] 35))))
      | (go_at_call 5; go_must (refine (CW.out _ B1.out).mono ?_; rintro e w2 ⟨rfl, hb2⟩; have B2 := hideK (B1.out.trans (hb2.mono B1.out.size)))))
    go_ret
    exact ⟨rfl, B2.out⟩
  have hl2 : evs.length ≤ 200 := by
    unfold wwZ at hz
    split at hz
    · omega
    · omega
  have hwe : weL vD evs = 0 := by
    unfold wwZ at hz
    rw [if_neg (by omega)] at hz
    exact hz
  have hok : ∀ x ∈ evs, evOK vD x := fun x hx => ⟨(weL_all vD evs).1 hwe x hx, (HBD.out x hx).1⟩
  have hws : wwS vD evs = bs (wrL evs) := by unfold wwS; rw [if_pos hz]
  have hll : (wrL evs).length ≤ 420000 := by
    have q := wrL_len vD evs evs.length (fun j hj _ => (hok _ (List.getElem_mem hj)).1)
    rw [List.take_length] at q
    omega
  by_cases hem : (wrL evs).length = 0
  · have hbe : (bs (wrL evs)).toList.isEmpty = true := by
      rw [List.length_eq_zero_iff.1 hem]; rw [ByteArray.toList_eq]; rfl
    rw [hz, hws] at CW
    clear hws hz hwe hok hll hem
    generalize bs (wrL evs) = u at *
    go_enter Tryz.func4, Tryz.ntmps4
    go_wp2_with (first
      | (go_at_call 6; go_must (refine C4.mono ?_; rintro e w1 ⟨rfl, hb1⟩; have B1 := hideK (hb1.alloc hb1.size (.cells #[.int .i64 3, .int .i64 1] 35))))
      | (go_at_call 5; go_must (refine (CW.out _ B1.out).mono ?_; rintro e w2 ⟨rfl, hb2⟩; have B2 := hideK (B1.out.trans (hb2.mono B1.out.size)))))
    go_ret
    exact ⟨rfl, B2.out⟩
  have hbe : (bs (wrL evs)).toList.isEmpty = false := by
    rw [ByteArray.toList_eq, bs_list]
    cases hq : wrL evs with
    | nil => rw [hq] at hem; simp at hem
    | cons b r => rfl
  have hbs : (bs (wrL evs)).size = (wrL evs).length := bs_size _
  have CP := hideK (fun (W : World) => pickW_any pl (wrL evs).length W hpl (by omega) (by omega))
  rw [← hbs] at CP
  have HPA := hideK (fun (q : Nat) (hq : q < (bs (wrL evs)).size) => wrL_parts vD evs 200 hok hl2 q (by rw [← hbs]; exact hq))
  have HXT := hideK (fun (q : Nat) (hq : q < (bs (wrL evs)).size) => show (bs (wrL evs)).extract 0 q = bs ((wrL evs).take q) by rw [ext_bs, bs_list])
  have hsz : (bs (wrL evs)).size ≤ 420000 := by omega
  have hszi : ((bs (wrL evs)).size : Int) ≤ 420000 := by omega
  rw [hz, hws] at CW
  have HLE := hideK hok
  clear hws hz hwe hok hll hem hbs hpl
  generalize wrL evs = L at *
  generalize bs L = u at *
  go_enter Tryz.func4, Tryz.ntmps4
  go_upto_region 8 with (first
    | (go_at_call 6; go_must (refine C4.mono ?_; rintro e w1 ⟨rfl, hb1⟩; have B1 := hideK (hb1.alloc hb1.size (.cells #[.int .i64 3, .int .i64 1] 35))))
    | (go_at_call 5; go_must (refine (CW.out _ B1.out).mono ?_; rintro e w2 ⟨rfl, hb2⟩; have B2 := hideK (B1.out.trans (hb2.mono B1.out.size))))
    | (go_at_call 10; go_must (refine (CP.out _).mono ?_; rintro e w3 ⟨⟨q, hq, rfl⟩, hw3⟩; rw [hw3]; clear hw3 w3)))
  have hqi : (q : Int) ≤ (u.size : Int) := by omega
  have hq0 : (0 : Int) ≤ (q : Int) := by omega
  have hxt := HXT.out q hq
  have hqs : (bs (L.take q)).size ≤ 420000 := by rw [bs_size, List.length_take]; omega
  have C5 := CR.out (bs (L.take q)) w2 B2.out (by omega)
  rw [bs_list] at C5
  have hbq := bs_size (L.take q)
  rw [List.length_take] at hbq
  rcases HPA.out q hq with ⟨r, hr⟩ | ⟨m, hm, hr⟩
  · rw [hr] at C5
    simp only [RDPost] at C5
    have hat : (((bs (L.take q)).size - r.length : Nat) : Int) ≤ (q : Int) := by omega
    clear hqs hbq
    generalize (((bs (L.take q)).size - r.length : Nat) : Int) = g at *
    generalize bs (L.take q) = u2 at *
    go_wp2_with (go_at_call 6; go_must (refine C5.mono ?_; rintro e w4 ⟨rfl, hb4⟩; have B4 := hideK ((B2.out.trans (hb4.mono B2.out.size)).alloc (by have := B2.out.size; have := hb4.size; omega) (.cells #[.int .i64 3, .int .i64 g] 35))))
    go_ret
    exact ⟨rfl, B4.out⟩
  · rw [hr] at C5
    simp only [RDPost] at C5
    have hxl : ((evs.take m).map bareV).length = m := by rw [List.length_map, List.length_take]; omega
    have HXK := hideK (fun (k : Nat) (hk : k < ((evs.take m).map bareV).length) (hk2 : k < evs.length) => show ((evs.take m).map bareV)[k] = bareV evs[k] by simp)
    have hxs : ∀ y ∈ (evs.take m).map bareV, y.s.size ≤ 9223372036854775807 := fun y hy => by
      obtain ⟨h1, _, _⟩ := wiL_conv vD 200 _ _ hr
      have := (h1 y hy).2
      omega
    have HXS := hideK hxs
    clear hxs hr hbq hqs HPA HXT
    generalize (evs.take m).map bareV = xs at *
    generalize bs (L.take q) = u2 at *
    have hmi : ¬ (xs.length : Int) ≥ (evs.length : Int) := by omega
    have hml : (xs.length : Int) ≤ 200 := by omega
    have hx200 : xs.length ≤ 200 := by omega
    have hxe : xs.length < evs.length := by omega
    clear hxl hm
    go_wp2_with (go_at_call 6; go_must (refine C5.mono ?_; rintro e w4 ⟨⟨av, cv, rfl, hev4⟩, hb4⟩; have HE4 := hideK ((hev4.evs HXS.out).up ((Below.refl _ _).alloc (Nat.le_refl _) (.cells #[.int .i64 0, .int .i64 0] 35))); have B4 := hideK ((B2.out.trans (hb4.mono B2.out.size)).alloc (by have := B2.out.size; have := hb4.size; omega) (.cells #[.int .i64 0, .int .i64 0] 35)); clear hev4 hb4))
    clear C5 CR CW CP
    obtain ⟨w5, hw5⟩ : ∃ W, W = w4.alloc (.cells #[.int .i64 0, .int .i64 0] 35) := ⟨_, rfl⟩
    rw [← hw5] at HE4 B4 ⊢
    clear hw5
    rw [show decide (evs.length ≤ xs.length) = false by simp; omega]
    go_loopw [12, 13, 77] (fun _ _ i wr => ∃ k : Nat, k ≤ xs.length ∧ i = .int .i64 (k : Int) ∧ Below w5.heap.size w5 wr) (fun _ _ i _ => xs.length - (intOf i).toNat)
    case atStart => exact ⟨0, by omega, rfl, Below.refl _ _⟩
    case round =>
      obtain ⟨k, hk, rfl, hb⟩ := hrel
      have HB := hideK hb
      clear hb
      by_cases hend : k = xs.length
      · have hlt : ¬ (k : Int) < (xs.length : Int) := by omega
        clear hend
        go_wp2_with fail
        go_ret
        exact ⟨rfl, B4.out.trans (HB.out.mono B4.out.size)⟩
      have hlt : (k : Int) < (xs.length : Int) := by omega
      have hlt2 : (k : Int) < (evs.length : Int) := by omega
      have hkx : k < xs.length := by omega
      have hke : k < evs.length := by omega
      have hyz := HXK.out k hkx hke
      have hys0 := HXS.out _ (List.getElem_mem hkx)
      rcases (HE4.out.up HB.out) with hnil | ⟨b1, o1, e1, hb1, hall1⟩
      · rw [hnil] at hkx; simp at hkx
      rcases (HEV.out.up (B4.out.trans (HB.out.mono B4.out.size))) with hnil | ⟨b2, o2, e2, hb2, hall2⟩
      · rw [hnil] at hke; simp at hke
      subst e1 e2
      obtain ⟨l1, m1, k1, n1, d1, hc1, _, ht1, hla1, hkt1⟩ := hall1 k hkx
      obtain ⟨l2, m2, k2, n2, d2, hc2, _, ht2, hla2, hkt2⟩ := hall2 k hke
      obtain ⟨y, hy⟩ : ∃ y, y = xs[k] := ⟨_, rfl⟩
      obtain ⟨z, hz⟩ : ∃ z, z = evs[k] := ⟨_, rfl⟩
      rw [← hy] at hyz hys0 hc1 ht1 hla1 hkt1
      rw [← hz] at hyz hc2 ht2 hla2 hkt2
      have hys := hys0
      have HYZ := hideK hyz
      clear hy hz hyz hall1 hall2 hys0
      have EY := hideK (EvB.new wr y l1 m1 k1 n1)
      have hal : Below wr.heap.size wr (wr.alloc (.cells #[.int .i64 y.kind, .int .i64 y.so, .int .i64 y.n, .string y.s, .int .i64 y.carry.kind, .int .i64 y.carry.so, .string y.carry.name, .slice l1 y.carry.labels.length m1, .slice k1 y.carry.kids.length n1, .string y.label] 33)) := (Below.refl _ _).alloc (Nat.le_refl _) _
      have YL := hideK (show EvL (wr.alloc (.cells #[.int .i64 y.kind, .int .i64 y.so, .int .i64 y.n, .string y.s, .int .i64 y.carry.kind, .int .i64 y.carry.so, .string y.carry.name, .slice l1 y.carry.labels.length m1, .slice k1 y.carry.kids.length n1, .string y.label] 33)) (wr.alloc (.cells #[.int .i64 y.kind, .int .i64 y.so, .int .i64 y.n, .string y.s, .int .i64 y.carry.kind, .int .i64 y.carry.so, .string y.carry.name, .slice l1 y.carry.labels.length m1, .slice k1 y.carry.kids.length n1, .string y.label] 33)).heap.size d1 y l1 m1 k1 n1 from EvL.up ⟨ht1, hla1, hkt1⟩ hal)
      have ZL := hideK (show EvL (wr.alloc (.cells #[.int .i64 y.kind, .int .i64 y.so, .int .i64 y.n, .string y.s, .int .i64 y.carry.kind, .int .i64 y.carry.so, .string y.carry.name, .slice l1 y.carry.labels.length m1, .slice k1 y.carry.kids.length n1, .string y.label] 33)) (wr.alloc (.cells #[.int .i64 y.kind, .int .i64 y.so, .int .i64 y.n, .string y.s, .int .i64 y.carry.kind, .int .i64 y.carry.so, .string y.carry.name, .slice l1 y.carry.labels.length m1, .slice k1 y.carry.kids.length n1, .string y.label] 33)).heap.size d2 z l2 m2 k2 n2 from EvL.up ⟨ht2, hla2, hkt2⟩ hal)
      have EZ := hideK (hc2.keep hal hb2)
      have hbz : b2 < (wr.alloc (.cells #[.int .i64 y.kind, .int .i64 y.so, .int .i64 y.n, .string y.s, .int .i64 y.carry.kind, .int .i64 y.carry.so, .string y.carry.name, .slice l1 y.carry.labels.length m1, .slice k1 y.carry.kids.length n1, .string y.label] 33)).heap.size := by simp; omega
      have HBW := hideK (HB.out.alloc HB.out.size (.cells #[.int .i64 y.kind, .int .i64 y.so, .int .i64 y.n, .string y.s, .int .i64 y.carry.kind, .int .i64 y.carry.so, .string y.carry.name, .slice l1 y.carry.labels.length m1, .slice k1 y.carry.kids.length n1, .string y.label] 33))
      obtain ⟨x0, x1, x2, x3, x4, x5, x6, x7, x8, x9⟩ := hc1
      rw [Nat.add_zero] at x0
      clear hal ht1 ht2 hla1 hla2 hkt1 hkt2 hc2
      go_upto_region 16 with fail
      have hS0 : Below (wr.alloc (.cells #[.int .i64 y.kind, .int .i64 y.so, .int .i64 y.n, .string y.s, .int .i64 y.carry.kind, .int .i64 y.carry.so, .string y.carry.name, .slice l1 y.carry.labels.length m1, .slice k1 y.carry.kids.length n1, .string y.label] 33)).heap.size (wr.alloc (.cells #[.int .i64 y.kind, .int .i64 y.so, .int .i64 y.n, .string y.s, .int .i64 y.carry.kind, .int .i64 y.carry.so, .string y.carry.name, .slice l1 y.carry.labels.length m1, .slice k1 y.carry.kids.length n1, .string y.label] 33)) (World.drew (wr.alloc (.cells #[.int .i64 y.kind, .int .i64 y.so, .int .i64 y.n, .string y.s, .int .i64 y.carry.kind, .int .i64 y.carry.so, .string y.carry.name, .slice l1 y.carry.labels.length m1, .slice k1 y.carry.kids.length n1, .string y.label] 33))) := (Below.refl _ _).drew
      clear x0 x1 x2 x3 x4 x5 x6 x7 x8 x9
      have hwr : wr.heap.size < (wr.alloc (.cells #[.int .i64 y.kind, .int .i64 y.so, .int .i64 y.n, .string y.s, .int .i64 y.carry.kind, .int .i64 y.carry.so, .string y.carry.name, .slice l1 y.carry.labels.length m1, .slice k1 y.carry.kids.length n1, .string y.label] 33)).heap.size := by simp
      generalize wr.alloc (.cells #[.int .i64 y.kind, .int .i64 y.so, .int .i64 y.n, .string y.s, .int .i64 y.carry.kind, .int .i64 y.carry.so, .string y.carry.name, .slice l1 y.carry.labels.length m1, .slice k1 y.carry.kids.length n1, .string y.label] 33) = V0 at *
      refine wp_region_held_drew (S := fun W : World => Below V0.heap.size V0 W) (by kernel_rfl) hS0 (fun hS => ?_)
      clear hS0
      generalize V0.drew = V at *
      have CB := hideK (fun (W : World) (hW : Below V0.heap.size V0 W) => bare_any d2 z l2 m2 k2 n2 W (ZL.out.up hW))
      rw [← HYZ.out] at CB
      simp only [evVal] at CB
      refine tkR 0 (.agg #[.int .i64 y.kind, .int .i64 y.so, .int .i64 y.n, .string y.s, .int .i64 y.carry.kind, .int .i64 y.carry.so, .string y.carry.name, .slice l1 y.carry.labels.length m1, .slice k1 y.carry.kids.length n1, .string y.label]) hS ?_ (hy := Or.inl ⟨by rfl, fun W hW => exec_load (by rfl) (by rfl) (load_evB (EY.out.keepF (FR.of (pb := V0.heap.size) hW) (by omega)))⟩)
      refine tkR 2 (.slice (some ⟨b2, o2, none⟩) evs.length ce) hS ?_
      refine tkR 3 (.int .i64 (k : Int)) hS ?_
      refine tkR 4 (.pointer (some ⟨b2, o2 + k * 10, none⟩)) hS ?_
      refine tkR 5 (.agg #[.int .i64 z.kind, .int .i64 z.so, .int .i64 z.n, .string z.s, .int .i64 z.carry.kind, .int .i64 z.carry.so, .string z.carry.name, .slice l2 z.carry.labels.length m2, .slice k2 z.carry.kids.length n2, .string z.label]) hS ?_ (hy := Or.inl ⟨by rfl, fun W hW => exec_load (by rfl) (by rfl) (EvC.load (EZ.out.keep hW hbz))⟩)
      refine ready_any [1, 6] ?_
      refine cY ?_ ?_
      refine opg 1 (fun K hK => ?_)
      have hbs : Below V.heap.size V (V.alloc (.cells #[.int .i64 y.kind, .int .i64 y.so, .int .i64 y.n, .string y.s, .int .i64 y.carry.kind, .int .i64 y.carry.so, .string y.carry.name, .slice l1 y.carry.labels.length m1, .slice k1 y.carry.kids.length n1, .string y.label] 33)) := (Below.refl _ _).alloc (Nat.le_refl _) _
      have hSn : Below V0.heap.size V0 (V.alloc (.cells #[.int .i64 y.kind, .int .i64 y.so, .int .i64 y.n, .string y.s, .int .i64 y.carry.kind, .int .i64 y.carry.so, .string y.carry.name, .slice l1 y.carry.labels.length m1, .slice k1 y.carry.kids.length n1, .string y.label] 33)) := hS.trans (hbs.mono hS.size)
      try replace G7 := hideK (G7.out.up hbs)
      try replace B6 := hideK (B6.out.up hbs)
      have G1 := hideK ((YL.out.up hS).lit hys (V.alloc (.cells #[.int .i64 y.kind, .int .i64 y.so, .int .i64 y.n, .string y.s, .int .i64 y.carry.kind, .int .i64 y.carry.so, .string y.carry.name, .slice l1 y.carry.labels.length m1, .slice k1 y.carry.kids.length n1, .string y.label] 33)) rfl)
      go_simp
      refine hK.out _ _ hSn ?_
      clear hbs
      clear hS hK K
      intro hS
      try simp only [Act.put, List.setIfInBounds_toArray, List.set_cons_zero, List.set_cons_succ]
      clear hSn
      generalize V.heap.size = g1 at G1 ⊢
      generalize World.alloc V _ = V at *
      refine ready_any [6] ?_
      refine cY ?_ cE
      refine opg 6 (fun K hK => ?_)
      go_simp
      refine (CB.out V hS).mono ?_
      rintro e V ⟨⟨l3, m3, k3, n3, rfl, hb6⟩, hb⟩
      have hSn : Below V0.heap.size V0 V := hS.trans (hb.mono hS.size)
      try replace G1 := hideK (G1.out.up hb)
      have B6 := hideK (show EvL V V.heap.size d2 y l3 m3 k3 n3 from ⟨hb6.1, NAt.mono hb.size hb6.2.1, KT.mono hb.size hb6.2.2⟩)
      refine hK.out _ _ hSn ?_
      clear hb hb6
      clear hS hK K
      intro hS
      try simp only [Act.put, List.setIfInBounds_toArray, List.set_cons_zero, List.set_cons_succ]
      clear hSn
      refine ready_any [7] ?_
      refine cY ?_ cE
      refine opg 7 (fun K hK => ?_)
      have hbs : Below V.heap.size V (V.alloc (.cells #[.int .i64 y.kind, .int .i64 y.so, .int .i64 y.n, .string y.s, .int .i64 y.carry.kind, .int .i64 y.carry.so, .string y.carry.name, .slice l3 y.carry.labels.length m3, .slice k3 y.carry.kids.length n3, .string y.label] 33)) := (Below.refl _ _).alloc (Nat.le_refl _) _
      have hSn : Below V0.heap.size V0 (V.alloc (.cells #[.int .i64 y.kind, .int .i64 y.so, .int .i64 y.n, .string y.s, .int .i64 y.carry.kind, .int .i64 y.carry.so, .string y.carry.name, .slice l3 y.carry.labels.length m3, .slice k3 y.carry.kids.length n3, .string y.label] 33)) := hS.trans (hbs.mono hS.size)
      try replace G1 := hideK (G1.out.up hbs)
      have G7 := hideK (B6.out.lit hys (V.alloc (.cells #[.int .i64 y.kind, .int .i64 y.so, .int .i64 y.n, .string y.s, .int .i64 y.carry.kind, .int .i64 y.carry.so, .string y.carry.name, .slice l3 y.carry.labels.length m3, .slice k3 y.carry.kids.length n3, .string y.label] 33)) rfl)
      go_simp
      refine hK.out _ _ hSn ?_
      clear hbs
      clear hS hK K
      intro hS
      try simp only [Act.put, List.setIfInBounds_toArray, List.set_cons_zero, List.set_cons_succ]
      clear hSn
      generalize V.heap.size = g7 at G7 ⊢
      generalize World.alloc V _ = V at *
      rotate_left
      refine cY ?_ cE
      refine opg 6 (fun K hK => ?_)
      go_simp
      refine (CB.out V hS).mono ?_
      rintro e V ⟨⟨l3, m3, k3, n3, rfl, hb6⟩, hb⟩
      have hSn : Below V0.heap.size V0 V := hS.trans (hb.mono hS.size)
      try replace G1 := hideK (G1.out.up hb)
      have B6 := hideK (show EvL V V.heap.size d2 y l3 m3 k3 n3 from ⟨hb6.1, NAt.mono hb.size hb6.2.1, KT.mono hb.size hb6.2.2⟩)
      refine hK.out _ _ hSn ?_
      clear hb hb6
      clear hS hK K
      intro hS
      try simp only [Act.put, List.setIfInBounds_toArray, List.set_cons_zero, List.set_cons_succ]
      clear hSn
      refine ready_any [1, 7] ?_
      refine cY ?_ ?_
      refine opg 1 (fun K hK => ?_)
      have hbs : Below V.heap.size V (V.alloc (.cells #[.int .i64 y.kind, .int .i64 y.so, .int .i64 y.n, .string y.s, .int .i64 y.carry.kind, .int .i64 y.carry.so, .string y.carry.name, .slice l1 y.carry.labels.length m1, .slice k1 y.carry.kids.length n1, .string y.label] 33)) := (Below.refl _ _).alloc (Nat.le_refl _) _
      have hSn : Below V0.heap.size V0 (V.alloc (.cells #[.int .i64 y.kind, .int .i64 y.so, .int .i64 y.n, .string y.s, .int .i64 y.carry.kind, .int .i64 y.carry.so, .string y.carry.name, .slice l1 y.carry.labels.length m1, .slice k1 y.carry.kids.length n1, .string y.label] 33)) := hS.trans (hbs.mono hS.size)
      try replace G7 := hideK (G7.out.up hbs)
      try replace B6 := hideK (B6.out.up hbs)
      have G1 := hideK ((YL.out.up hS).lit hys (V.alloc (.cells #[.int .i64 y.kind, .int .i64 y.so, .int .i64 y.n, .string y.s, .int .i64 y.carry.kind, .int .i64 y.carry.so, .string y.carry.name, .slice l1 y.carry.labels.length m1, .slice k1 y.carry.kids.length n1, .string y.label] 33)) rfl)
      go_simp
      refine hK.out _ _ hSn ?_
      clear hbs
      clear hS hK K
      intro hS
      try simp only [Act.put, List.setIfInBounds_toArray, List.set_cons_zero, List.set_cons_succ]
      clear hSn
      generalize V.heap.size = g1 at G1 ⊢
      generalize World.alloc V _ = V at *
      refine ready_any [7] ?_
      refine cY ?_ cE
      refine opg 7 (fun K hK => ?_)
      have hbs : Below V.heap.size V (V.alloc (.cells #[.int .i64 y.kind, .int .i64 y.so, .int .i64 y.n, .string y.s, .int .i64 y.carry.kind, .int .i64 y.carry.so, .string y.carry.name, .slice l3 y.carry.labels.length m3, .slice k3 y.carry.kids.length n3, .string y.label] 33)) := (Below.refl _ _).alloc (Nat.le_refl _) _
      have hSn : Below V0.heap.size V0 (V.alloc (.cells #[.int .i64 y.kind, .int .i64 y.so, .int .i64 y.n, .string y.s, .int .i64 y.carry.kind, .int .i64 y.carry.so, .string y.carry.name, .slice l3 y.carry.labels.length m3, .slice k3 y.carry.kids.length n3, .string y.label] 33)) := hS.trans (hbs.mono hS.size)
      try replace G1 := hideK (G1.out.up hbs)
      have G7 := hideK (B6.out.lit hys (V.alloc (.cells #[.int .i64 y.kind, .int .i64 y.so, .int .i64 y.n, .string y.s, .int .i64 y.carry.kind, .int .i64 y.carry.so, .string y.carry.name, .slice l3 y.carry.labels.length m3, .slice k3 y.carry.kids.length n3, .string y.label] 33)) rfl)
      go_simp
      refine hK.out _ _ hSn ?_
      clear hbs
      clear hS hK K
      intro hS
      try simp only [Act.put, List.setIfInBounds_toArray, List.set_cons_zero, List.set_cons_succ]
      clear hSn
      generalize V.heap.size = g7 at G7 ⊢
      generalize World.alloc V _ = V at *
      rotate_left
      refine cY ?_ cE
      refine opg 7 (fun K hK => ?_)
      have hbs : Below V.heap.size V (V.alloc (.cells #[.int .i64 y.kind, .int .i64 y.so, .int .i64 y.n, .string y.s, .int .i64 y.carry.kind, .int .i64 y.carry.so, .string y.carry.name, .slice l3 y.carry.labels.length m3, .slice k3 y.carry.kids.length n3, .string y.label] 33)) := (Below.refl _ _).alloc (Nat.le_refl _) _
      have hSn : Below V0.heap.size V0 (V.alloc (.cells #[.int .i64 y.kind, .int .i64 y.so, .int .i64 y.n, .string y.s, .int .i64 y.carry.kind, .int .i64 y.carry.so, .string y.carry.name, .slice l3 y.carry.labels.length m3, .slice k3 y.carry.kids.length n3, .string y.label] 33)) := hS.trans (hbs.mono hS.size)
      try replace G1 := hideK (G1.out.up hbs)
      have G7 := hideK (B6.out.lit hys (V.alloc (.cells #[.int .i64 y.kind, .int .i64 y.so, .int .i64 y.n, .string y.s, .int .i64 y.carry.kind, .int .i64 y.carry.so, .string y.carry.name, .slice l3 y.carry.labels.length m3, .slice k3 y.carry.kids.length n3, .string y.label] 33)) rfl)
      go_simp
      refine hK.out _ _ hSn ?_
      clear hbs
      clear hS hK K
      intro hS
      try simp only [Act.put, List.setIfInBounds_toArray, List.set_cons_zero, List.set_cons_succ]
      clear hSn
      generalize V.heap.size = g7 at G7 ⊢
      generalize World.alloc V _ = V at *
      refine ready_any [1] ?_
      refine cY ?_ cE
      refine opg 1 (fun K hK => ?_)
      have hbs : Below V.heap.size V (V.alloc (.cells #[.int .i64 y.kind, .int .i64 y.so, .int .i64 y.n, .string y.s, .int .i64 y.carry.kind, .int .i64 y.carry.so, .string y.carry.name, .slice l1 y.carry.labels.length m1, .slice k1 y.carry.kids.length n1, .string y.label] 33)) := (Below.refl _ _).alloc (Nat.le_refl _) _
      have hSn : Below V0.heap.size V0 (V.alloc (.cells #[.int .i64 y.kind, .int .i64 y.so, .int .i64 y.n, .string y.s, .int .i64 y.carry.kind, .int .i64 y.carry.so, .string y.carry.name, .slice l1 y.carry.labels.length m1, .slice k1 y.carry.kids.length n1, .string y.label] 33)) := hS.trans (hbs.mono hS.size)
      try replace G7 := hideK (G7.out.up hbs)
      try replace B6 := hideK (B6.out.up hbs)
      have G1 := hideK ((YL.out.up hS).lit hys (V.alloc (.cells #[.int .i64 y.kind, .int .i64 y.so, .int .i64 y.n, .string y.s, .int .i64 y.carry.kind, .int .i64 y.carry.so, .string y.carry.name, .slice l1 y.carry.labels.length m1, .slice k1 y.carry.kids.length n1, .string y.label] 33)) rfl)
      go_simp
      refine hK.out _ _ hSn ?_
      clear hbs
      clear hS hK K
      intro hS
      try simp only [Act.put, List.setIfInBounds_toArray, List.set_cons_zero, List.set_cons_succ]
      clear hSn
      generalize V.heap.size = g1 at G1 ⊢
      generalize World.alloc V _ = V at *
      all_goals
        refine ready_any [8] ?_
        refine cY ?_ cE
        refine opg 8 (fun K hK => ?_)
        go_simp
        refine (sameEvs_any [y] (some ⟨g1, 0, none⟩) 1 (some ⟨g7, 0, none⟩) 1 V G1.out G7.out (by simp)).mono ?_
        rintro e V ⟨rfl, hb⟩
        have hSn : Below V0.heap.size V0 V := hS.trans (hb.mono hS.size)
        refine hK.out _ _ hSn ?_
        clear hb G1 G7
        clear hS hK K
        intro hS
        try simp only [Act.put, List.setIfInBounds_toArray, List.set_cons_zero, List.set_cons_succ]
        clear hSn
        refine ready_any [9] ?_
        refine cY ?_ cE
        refine opg 9 (fun K hK => ?_)
        go_simp
        refine hK.out _ _ hS ?_
        clear hS hK K
        intro hS
        try simp only [Act.put, List.setIfInBounds_toArray, List.set_cons_zero, List.set_cons_succ]
        refine wpAnyH_done (by kernel_rfl) ?_ _
        have HBV := hideK (HBW.out.trans (hS.mono HBW.out.size))
        clear hS
        go_wp2_with fail
        go_roundw
        case rel => exact ⟨k + 1, by omega, by go_num, HBV.out⟩
        case measure => simp [intOf]; omega
end Go.Proofs.YtefdekfgmbgbbaaGreatDoor
