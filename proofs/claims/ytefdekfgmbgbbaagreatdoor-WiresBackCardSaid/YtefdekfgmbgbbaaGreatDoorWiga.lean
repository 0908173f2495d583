/-
  The contract of (*wires.reader).value.
-/
import Derived.Test.YtefdekfgmbgbbaaGreatDoorWig
namespace Go.Proofs.YtefdekfgmbgbbaaGreatDoor
open Go.RowKit Go.Shelf

section
variable {V : ByteArray → Bool} {Tabs : World → Prop} {B0 : Nat}
def valV (v : Int × Int × ByteArray) : Value := .agg #[.int .i64 v.1, .int .i64 v.2.1, .string v.2.2]
set_option maxRecDepth 100000 in
set_option maxHeartbeats 4000000 in
theorem value_read (hV : VSaid V Tabs) (hK : ∀ w w', Tabs w → Below B0 w w' → Tabs w') (rb p : Nat) (s : ByteArray) (w : World) (hB : B0 ≤ rb) (hT : Tabs w) (h : WRd w rb s p) :
    Calls Tryz.prog 31 #[.pointer (some ⟨rb, 0, none⟩)] w fun e w' => WPost s rb (fun _ v x => x = valV v) (wiV V (rs s p)) e w' ∧ FR rb w w' := by
  have hA : Below w.heap.size w (w.alloc (.cells #[.int .i64 0, .int .i64 0, .string ⟨#[]⟩] 27)) := (Below.refl _ _).alloc (Nat.le_refl _) _
  have H := hideK (h.keep hA)
  have hrl := h.lt
  have FA := hideK (FR.of (pb := rb) hA)
  have ZA := hideK (ZV.new w)
  clear h
  cases he : rs s p with
  | nil =>
    have cW := within_end rb p s 1 3 _ H.out he
    unfold wiV
    simp only [WPost]
    go_enter Tryz.func31, Tryz.ntmps31
    go_wp2_with (go_at_call 30; refine cW.mono ?_; rintro e w1 ⟨rfl, hf1⟩)
    exact ⟨rfl, rfl, FA.out.trans hf1⟩
  | cons b r =>
    rw [wiV_cons]
    by_cases h1 : b.toNat = 1
    · rw [if_pos h1]
      have CW := hideK (within_ok rb p s 1 3 _ H.out he (by omega) (by omega))
      rw [show (b.toNat : Int) = 1 by omega] at CW
      cases hN : wiN r with
      | error e =>
        simp only [WPost]
        go_enter Tryz.func31, Tryz.ntmps31
        go_wp2_with (first
          | (go_at_call 30; go_must (refine CW.out.mono ?_; rintro e w1 ⟨rfl, ⟨hq, hlq⟩, hf1⟩; have HQ := hideK hq; have F1 := hideK (FA.out.trans hf1); have Z1 := hideK (ZA.out.keep hf1 (by omega)); clear hq hf1))
          | (go_at_call 46; refine (number_bad hN rb (p + 1) s _ HQ.out hlq).mono ?_; rintro e w2 ⟨rfl, hf2⟩))
        exact ⟨rfl, rfl, F1.out.trans hf2⟩
      | ok x =>
        obtain ⟨n, q⟩ := x
        have hn64 := (wiN_conv hN).2
        simp only [WPost, valV]
        go_enter Tryz.func31, Tryz.ntmps31
        go_wp2_with (first
          | (go_at_call 30; go_must (refine CW.out.mono ?_; rintro e w1 ⟨rfl, ⟨hq, hlq⟩, hf1⟩; have HQ := hideK hq; have F1 := hideK (FA.out.trans hf1); have Z1 := hideK (ZA.out.keep hf1 (by omega)); clear hq hf1))
          | (go_at_call 46; go_must (refine (number_ok hN rb (p + 1) s _ HQ.out hlq).mono ?_; rintro e w2 ⟨rfl, ⟨p2, hq2, hl2⟩, hf2⟩; have Z2 := hideK (Z1.out.keep hf2 (by omega)); have F2 := hideK (F1.out.trans hf2)))
          | (go_at_call 45; go_must (refine (signed_any n hn64 _).mono ?_; rintro e w3 ⟨rfl, hw3⟩; rw [hw3]; clear hw3 w3; obtain ⟨zl, z0, z1, z2, y0, y1, y2⟩ := id Z2.out)))
        have HS := hideK (stV_at (W := w2) (b := w.heap.size) (u0 := .int .i64 0) (u1 := .int .i64 0) (u2 := .string ⟨#[]⟩) z0 z1 z2 (.int .i64 1) (.int .i64 (sgN n)) (.string ⟨#[]⟩))
        have HW := hideK (WRd.stV hq2 (b := w.heap.size) (by omega) (.int .i64 1) (.int .i64 (sgN n)) (.string ⟨#[]⟩))
        have HFR := hideK (FR.stV F2.out (b := w.heap.size) (Nat.le_refl _) (.int .i64 1) (.int .i64 (sgN n)) (.string ⟨#[]⟩))
        change bodyPost _ _ _ _ _ (stV w2 w.heap.size (.int .i64 1) (.int .i64 (sgN n)) (.string ⟨#[]⟩))
        generalize stV w2 w.heap.size (.int .i64 1) (.int .i64 (sgN n)) (.string ⟨#[]⟩) = W9 at HS HW HFR ⊢
        obtain ⟨r0, r1, r2⟩ := HS.out
        refine bodyPost_ret (v := .agg #[.int .i64 1, .int .i64 (sgN n), .string ⟨#[]⟩]) (by simp [results, Tryz.results31, go_sem, r0, r1, r2]) rfl ?_
        exact ⟨⟨_, rfl, rfl, p2, HW.out, hl2⟩, HFR.out⟩
    rw [if_neg h1]
    by_cases h2 : b.toNat = 2
    · rw [if_pos h2]
      have CW := hideK (within_ok rb p s 1 3 _ H.out he (by omega) (by omega))
      rw [show (b.toNat : Int) = 2 by omega] at CW
      cases hr : r with
      | nil =>
        simp only [WPost]
        go_enter Tryz.func31, Tryz.ntmps31
        go_wp2_with (first
          | (go_at_call 30; (refine C2.out.mono ?_; rintro e w2 ⟨rfl, hf2⟩))
          | (go_at_call 30; go_must (refine CW.out.mono ?_; rintro e w1 ⟨rfl, ⟨hq, hlq⟩, hf1⟩; have HQ := hideK hq; have F1 := hideK (FA.out.trans hf1); have C2 := hideK (within_end rb (p + 1) s 0 1 w1 hq (hlq.trans hr)); clear CW hq hf1)))
        exact ⟨rfl, rfl, F1.out.trans hf2⟩
      | cons c q =>
        simp only
        by_cases hc : c.toNat ≤ 1
        · rw [if_pos hc]
          simp only [WPost, valV]
          go_enter Tryz.func31, Tryz.ntmps31
          go_wp2_with (first
            | (go_at_call 30; (refine C2.out.mono ?_; rintro e w2 ⟨rfl, ⟨hq2, hl2⟩, hf2⟩; have Z2 := hideK (Z1.out.keep hf2 (by omega)); have F2 := hideK (F1.out.trans hf2); obtain ⟨zl, z0, z1, z2, y0, y1, y2⟩ := id Z2.out))
            | (go_at_call 30; go_must (refine CW.out.mono ?_; rintro e w1 ⟨rfl, ⟨hq, hlq⟩, hf1⟩; have F1 := hideK (FA.out.trans hf1); have Z1 := hideK (ZA.out.keep hf1 (by omega)); have C2 := hideK (within_ok rb (p + 1) s 0 1 w1 hq (hlq.trans hr) (by omega) (by omega)); clear CW hq hf1)))
          have HS := hideK (stV_at (W := w2) (b := w.heap.size) (u0 := .int .i64 0) (u1 := .int .i64 0) (u2 := .string ⟨#[]⟩) z0 z1 z2 (.int .i64 2) (.int .i64 (c.toNat : Int)) (.string ⟨#[]⟩))
          have HW := hideK (WRd.stV hq2 (b := w.heap.size) (by omega) (.int .i64 2) (.int .i64 (c.toNat : Int)) (.string ⟨#[]⟩))
          have HFR := hideK (FR.stV F2.out (b := w.heap.size) (Nat.le_refl _) (.int .i64 2) (.int .i64 (c.toNat : Int)) (.string ⟨#[]⟩))
          change bodyPost _ _ _ _ _ (stV w2 w.heap.size (.int .i64 2) (.int .i64 (c.toNat : Int)) (.string ⟨#[]⟩))
          generalize stV w2 w.heap.size (.int .i64 2) (.int .i64 (c.toNat : Int)) (.string ⟨#[]⟩) = W9 at HS HW HFR ⊢
          obtain ⟨r0, r1, r2⟩ := HS.out
          refine bodyPost_ret (v := .agg #[.int .i64 2, .int .i64 (c.toNat : Int), .string ⟨#[]⟩]) (by simp [results, Tryz.results31, go_sem, r0, r1, r2]) rfl ?_
          exact ⟨⟨_, rfl, rfl, p + 1 + 1, HW.out, hl2⟩, HFR.out⟩
        · rw [if_neg hc]
          simp only [WPost]
          go_enter Tryz.func31, Tryz.ntmps31
          go_wp2_with (first
            | (go_at_call 30; (refine C2.out.mono ?_; rintro e w2 ⟨rfl, hf2⟩))
            | (go_at_call 30; go_must (refine CW.out.mono ?_; rintro e w1 ⟨rfl, ⟨hq, hlq⟩, hf1⟩; have F1 := hideK (FA.out.trans hf1); have C2 := hideK (within_bad rb (p + 1) s 0 1 w1 hq (hlq.trans hr) (by omega)); clear CW hq hf1)))
          exact ⟨rfl, rfl, F1.out.trans hf2⟩
    rw [if_neg h2]
    by_cases h3 : b.toNat = 3
    · rw [if_pos h3]
      have CW := hideK (within_ok rb p s 1 3 _ H.out he (by omega) (by omega))
      rw [show (b.toNat : Int) = 3 by omega] at CW
      have CR := hideK (fun (W : World) (hf : FR rb w W) (hW : WRd W rb s (p + 1)) => readVl_any hV hK rb (p + 1) s W hB (hK w W hT ((hf.below (Nat.le_of_lt hrl)).mono hB)) hW)
      cases hN : wiT (asVal V) r with
      | error e =>
        simp only [WPost]
        go_enter Tryz.func31, Tryz.ntmps31
        go_wp2_with (first
          | (go_at_call 30; go_must (refine CW.out.mono ?_; rintro e w1 ⟨rfl, ⟨hq, hlq⟩, hf1⟩; have F1 := hideK (FA.out.trans hf1); have C2 := CR.out w1 F1.out hq; rw [hlq, hN] at C2; simp only [WPost] at C2; clear hq hf1))
          | (go_at_call 47; go_must (refine C2.mono ?_; rintro e w2 ⟨rfl, hf2⟩)))
        exact ⟨rfl, rfl, F1.out.trans hf2⟩
      | ok x =>
        obtain ⟨t, q⟩ := x
        simp only [WPost, valV]
        go_enter Tryz.func31, Tryz.ntmps31
        go_wp2_with (first
          | (go_at_call 30; go_must (refine CW.out.mono ?_; rintro e w1 ⟨rfl, ⟨hq, hlq⟩, hf1⟩; have F1 := hideK (FA.out.trans hf1); have Z1 := hideK (ZA.out.keep hf1 (by omega)); have C2 := CR.out w1 F1.out hq; rw [hlq, hN] at C2; simp only [WPost] at C2; clear hq hf1))
          | (go_at_call 47; go_must (refine C2.mono ?_; rintro e w2 ⟨⟨v9, rfl, rfl, p2, hq2, hl2⟩, hf2⟩; have Z2 := hideK (Z1.out.keep hf2 (by omega)); have F2 := hideK (F1.out.trans hf2); obtain ⟨zl, z0, z1, z2, y0, y1, y2⟩ := id Z2.out)))
        have HS := hideK (stV_at (W := w2) (b := w.heap.size) (u0 := .int .i64 0) (u1 := .int .i64 0) (u2 := .string ⟨#[]⟩) z0 z1 z2 (.int .i64 3) (.int .i64 0) (.string t))
        have HW := hideK (WRd.stV hq2 (b := w.heap.size) (by omega) (.int .i64 3) (.int .i64 0) (.string t))
        have HFR := hideK (FR.stV F2.out (b := w.heap.size) (Nat.le_refl _) (.int .i64 3) (.int .i64 0) (.string t))
        change bodyPost _ _ _ _ _ (stV w2 w.heap.size (.int .i64 3) (.int .i64 0) (.string t))
        generalize stV w2 w.heap.size (.int .i64 3) (.int .i64 0) (.string t) = W9 at HS HW HFR ⊢
        obtain ⟨r0, r1, r2⟩ := HS.out
        refine bodyPost_ret (v := .agg #[.int .i64 3, .int .i64 0, .string t]) (by simp [results, Tryz.results31, go_sem, r0, r1, r2]) rfl ?_
        exact ⟨⟨_, rfl, rfl, p2, HW.out, hl2⟩, HFR.out⟩
    rw [if_neg h3]
    have cW := within_bad rb p s 1 3 _ H.out he (by omega)
    simp only [WPost]
    go_enter Tryz.func31, Tryz.ntmps31
    go_wp2_with (go_at_call 30; refine cW.mono ?_; rintro e w1 ⟨rfl, hf1⟩)
    exact ⟨rfl, rfl, FA.out.trans hf1⟩
end
end Go.Proofs.YtefdekfgmbgbbaaGreatDoor
/-
  The contract of package wires' reading of a type.
-/
namespace Go.Proofs.YtefdekfgmbgbbaaGreatDoor
open Go.RowKit Go.Shelf

set_option maxRecDepth 100000 in
set_option maxHeartbeats 4000000 in
theorem readTy_any (rb p : Nat) (s : ByteArray) (w : World) (h : WRd w rb s p) :
    Calls Tryz.prog 32 #[.pointer (some ⟨rb, 0, none⟩), .func (.func 33) #[] #[]] w fun e w' => WPost s rb (TyR w 2001) (wiT asTy (rs s p)) e w' ∧ FR rb w w' := by
  have HT := hideK (thrown_at s p h.le)
  have hA : Below w.heap.size w (w.alloc (.cells #[.int .i64 0, .int .i64 0, .string ⟨#[]⟩, .slice none 0 0, .slice none 0 0] 31)) := (Below.refl _ _).alloc (Nat.le_refl _) _
  have H := hideK (h.keep hA)
  have hrl := h.lt
  have hsz := h.sz
  have FA := hideK (FR.of (pb := rb) hA)
  obtain ⟨c0, c1, fz, _, _⟩ := id H.out
  clear h
  unfold wiT
  cases hN : wiN (rs s p) with
  | error r =>
    simp only [WPost]
    go_enter Tryz.func32, Tryz.ntmps32
    go_wp2_with (go_at_call 46; refine (number_bad hN rb p s _ H.out rfl).mono ?_; rintro e w1 ⟨rfl, hf1⟩)
    exact ⟨rfl, rfl, FA.out.trans hf1⟩
  | ok x =>
    obtain ⟨n, r⟩ := x
    have CN := hideK (number_ok hN rb p s _ H.out rfl)
    have hn64 := (wiN_conv hN).2
    clear hN
    simp only
    by_cases hl : r.length < n
    · rw [if_pos hl]
      simp only [WPost]
      rw [HT.out]
      go_enter Tryz.func32, Tryz.ntmps32
      go_wp2_with (go_at_call 46; refine CN.out.mono ?_; rintro e w1 ⟨rfl, ⟨q, hq, hlq⟩, hf1⟩)
      obtain ⟨d0, d1, gz, hle2, hsz2⟩ := hq
      obtain ⟨hx, ht, hr, _⟩ := rest_facts (n := n) hle2 hlq
      have hz : (q : Int) ≤ (s.size : Int) := by omega
      have h0q : (0 : Int) ≤ (q : Int) := by omega
      have hgt : (n : Int) > ((bs r).size : Int) := by omega
      have hts : ((bs r).size : Int) ≤ 281474976710656 := by omega
      clear hlq ht hr hl
      generalize bs r = t at *
      go_quiet (fail)
      go_wp2_with (go_at_call 44; refine (cannotBe_any _ _).mono ?_; rintro e w2 ⟨rfl, hb2⟩)
      exact ⟨rfl, rfl, ((FA.out.trans hf1).trans (FR.of (belowN w1 _))).trans (FR.of hb2)⟩
    · rw [if_neg hl]
      cases hq0 : asTy (r.take n) with
      | none =>
        have hnm := hq0
        simp only [WPost]
        rw [HT.out]
        go_enter Tryz.func32, Tryz.ntmps32
        go_wp2_with (go_at_call 46; refine CN.out.mono ?_; rintro e w1 ⟨rfl, ⟨q, hq, hlq⟩, hf1⟩)
        obtain ⟨d0, d1, gz, hle2, hsz2⟩ := hq
        obtain ⟨hx, ht, hr, hx2⟩ := rest_facts (n := n) hle2 hlq
        have hz : (q : Int) ≤ (s.size : Int) := by omega
        have h0q : (0 : Int) ≤ (q : Int) := by omega
        have hgt : ¬ (n : Int) > ((bs r).size : Int) := by omega
        have hts : ((bs r).size : Int) ≤ 281474976710656 := by omega
        have hus : (bs (r.take n)).size ≤ 281474976710656 := by rw [bs_size, List.length_take]; omega
        have cC := hideK (fun W => cloneT_any (bs (r.take n)) W hus)
        have FB0 := hideK (FA.out.trans hf1)
        have cA := hideK (fun (W : World) => asType_no (bs (r.take n)) (by rw [bs_list]; exact hnm) W)
        clear hlq ht hr hl hq0 hus
        generalize bs (r.take n) = u at *
        generalize bs r = t at *
        go_quiet (fail)
        go_wp2_with (first
          | (go_at_call 49; refine (cC.out _).mono ?_; rintro e w2 ⟨rfl, hb2⟩; have F2 := hideK ((FB0.out.trans (FR.of (belowN w1 _))).trans (FR.of hb2)))
          | (go_at_call 33; refine (cA.out _).mono ?_; rintro e w3 ⟨⟨t9, al, cl, ak, ck, rfl⟩, hb3⟩)
          | (go_at_call 44; refine (cannotBe_any _ _).mono ?_; rintro e w4 ⟨rfl, hb4⟩))
        exact ⟨rfl, rfl, (F2.out.trans (FR.of hb3)).trans (((FR.al _)).trans (FR.of hb4))⟩
      | some a =>
        have hnm := hq0
        have HN := hideK (fun q (_ : WRd (w.alloc (.cells #[.int .i64 0, .int .i64 0, .string ⟨#[]⟩, .slice none 0 0, .slice none 0 0] 31)) rb s q) => True.intro)
        simp only [WPost]
        go_enter Tryz.func32, Tryz.ntmps32
        go_wp2_with (go_at_call 46; refine CN.out.mono ?_; rintro e w1 ⟨rfl, ⟨q, hq, hlq⟩, hf1⟩)
        clear HN
        have HQ := hideK hq
        have FB0 := hideK (FA.out.trans hf1)
        obtain ⟨d0, d1, gz, hle2, hsz2⟩ := hq
        obtain ⟨hx, ht, hr, hx2⟩ := rest_facts (n := n) hle2 hlq
        have hz : (q : Int) ≤ (s.size : Int) := by omega
        have h0q : (0 : Int) ≤ (q : Int) := by omega
        have hgt : ¬ (n : Int) > ((bs r).size : Int) := by omega
        have hts : ((bs r).size : Int) ≤ 281474976710656 := by omega
        have hus : (bs (r.take n)).size ≤ 281474976710656 := by rw [bs_size, List.length_take]; omega
        have cC := hideK (fun W => cloneT_any (bs (r.take n)) W hus)
        have cA := hideK (fun (W : World) => asType_yes (bs (r.take n)) a (by rw [bs_list]; exact hnm) W)
        have HN := hideK (show q + n ≤ s.size by omega)
        have HR := hideK (show rs s (q + n) = r.drop n by rw [rs_drop, hlq])
        have HI := hideK (show (q : Int) + (n : Int) = ((q + n : Nat) : Int) by omega)
        have hqn : (q : Int) + (n : Int) ≤ 281474976710656 := by omega
        have hnn : (n : Int) ≤ 281474976710656 := by omega
        have ZR := hideK ((ZT.new w).keep hf1 (by omega))
        clear hlq ht hr hl hq0 hus
        clear hnm
        generalize bs (r.take n) = u at *
        generalize bs r = t at *
        go_quiet (fail)
        go_upto_region 10 with (first
          | (go_at_call 49; refine (cC.out _).mono ?_; rintro e w2 ⟨rfl, hb2⟩; have H2 := hideK ((HQ.out.keep (belowN w1 _)).keep hb2); have F2 := hideK ((FB0.out.trans (FR.of (belowN w1 _))).trans (FR.of hb2)); have Z2 := hideK ((ZR.out.keep (FR.of (pb := rb) (belowN w1 _)) (by omega)).keep (FR.of (pb := rb) hb2) (by omega)))
          | (go_at_call 33; go_must (refine (cA.out _).mono ?_; rintro e w3 ⟨⟨al, cl, ak, ck, rfl, hg⟩, hb3⟩; have H3 := hideK (H2.out.keep hb3); have F3 := hideK (F2.out.trans (FR.of hb3)); have Z3 := hideK (Z2.out.keep (FR.of (pb := rb) hb3) (by omega)); have hlt3 := H3.out.lt; have hlt2 := H2.out.lt; have HL2 := hideK (Z2.out.lt); have HX3 := hideK hb3.size; have Z4 := hideK (Z3.out.keep (FR.set2 (pb := rb) 1 (.int .i64 ((q + n : Nat) : Int))) (by omega)); have G4 := hideK (hg.keep (FR.set2 (pb := rb) 1 (.int .i64 ((q + n : Nat) : Int))) hlt2); clear hg; obtain ⟨f0, f1, fz3, _, _⟩ := id H3.out)))
        rw [HI.out]
        have G5 := hideK (G4.out.keep (FR.al (pb := rb) (.cells #[.int .i64 a.kind, .int .i64 a.so, .string a.name, .slice al a.labels.length cl, .slice ak a.kids.length ck] 31)) hlt2)
        have Z5 := hideK (Z4.out.keep (FR.al (pb := rb) (.cells #[.int .i64 a.kind, .int .i64 a.so, .string a.name, .slice al a.labels.length cl, .slice ak a.kids.length ck] 31)) (by omega))
        have F5 := hideK ((F3.out.trans (FR.set2 1 (.int .i64 ((q + n : Nat) : Int)))).trans (FR.al (.cells #[.int .i64 a.kind, .int .i64 a.so, .string a.name, .slice al a.labels.length cl, .slice ak a.kids.length ck] 31)))
        have W5 := hideK ((H3.out.set _ HN.out).keep ((Below.refl _ _).alloc (Nat.le_refl _) (.cells #[.int .i64 a.kind, .int .i64 a.so, .string a.name, .slice al a.labels.length cl, .slice ak a.kids.length ck] 31)))
        have T5 := hideK (TyAt.lit (w3.setCell ⟨rb, 1, none⟩ (.int .i64 ((q + n : Nat) : Int))) a al cl ak ck)
        have e5 : (w3.setCell ⟨rb, 1, none⟩ (.int .i64 ((q + n : Nat) : Int))).heap.size = w3.heap.size := by simp
        rw [e5] at T5
        clear e5 G4 Z4 HX3 f0 f1 fz3 H3 F3 H2 F2 Z2 Z3 cA cC CN FB0 HQ hA H FA c0 c1 fz d0 d1 gz
        generalize (w3.setCell ⟨rb, 1, none⟩ (.int .i64 ((q + n : Nat) : Int))).alloc (.cells #[.int .i64 a.kind, .int .i64 a.so, .string a.name, .slice al a.labels.length cl, .slice ak a.kids.length ck] 31) = V5 at *
        obtain ⟨x0, x1, x2, x3, x4⟩ := id T5.out
        simp only [Nat.zero_add] at x1 x2 x3 x4
        obtain ⟨zl, z0, z1, z2, z3, z4, y0, y1, y2, y3, y4⟩ := id Z5.out
        go_wp2_with fail
        have HS := hideK (Z5.out.st a al cl ak ck)
        have HW := hideK (WRd.st W5.out (b := w.heap.size) (by omega) (.int .i64 a.kind) (.int .i64 a.so) (.string a.name) (.slice al a.labels.length cl) (.slice ak a.kids.length ck))
        have HFR := hideK (FR.st F5.out (b := w.heap.size) (Nat.le_refl _) (.int .i64 a.kind) (.int .i64 a.so) (.string a.name) (.slice al a.labels.length cl) (.slice ak a.kids.length ck))
        have HG := hideK ((G5.out).st (w := w) (b := w.heap.size) HL2.out (.int .i64 a.kind) (.int .i64 a.so) (.string a.name) (.slice al a.labels.length cl) (.slice ak a.kids.length ck) (Nat.le_of_lt HL2.out))
        change bodyPost _ _ _ _ _ (st5 V5 w.heap.size 0 (.int .i64 a.kind) (.int .i64 a.so) (.string a.name) (.slice al a.labels.length cl) (.slice ak a.kids.length ck))
        generalize st5 V5 w.heap.size 0 (.int .i64 a.kind) (.int .i64 a.so) (.string a.name) (.slice al a.labels.length cl) (.slice ak a.kids.length ck) = W9 at HS HW HFR HG ⊢
        obtain ⟨r0, r1, r2, r3, r4⟩ := HS.out
        simp only [Nat.zero_add] at r1 r2 r3 r4
        refine bodyPost_ret (v := .agg #[.int .i64 a.kind, .int .i64 a.so, .string a.name, .slice al a.labels.length cl, .slice ak a.kids.length ck]) (by simp [results, Tryz.results32, go_sem, r0, r1, r2, r3, r4]) rfl ?_
        exact ⟨⟨_, rfl, ⟨al, cl, ak, ck, rfl, HG.out⟩, _, HW.out, HR.out⟩, HFR.out⟩
end Go.Proofs.YtefdekfgmbgbbaaGreatDoor
