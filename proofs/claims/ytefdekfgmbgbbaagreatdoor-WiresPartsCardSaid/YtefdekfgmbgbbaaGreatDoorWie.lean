/-
  The contracts of package wires' reader: number, signed.
-/
import Derived.Test.YtefdekfgmbgbbaaGreatDoorWic
import Derived.Test.YtefdekfgmbgbbaaGreatDoorKm
namespace Go.Proofs.YtefdekfgmbgbbaaGreatDoor
open Go.RowKit Go.Shelf

theorem pow7 (k : Nat) : 2 ^ (7 * k) = 128 ^ k := by rw [Nat.pow_mul]
theorem or7 (m c k : Nat) (hm : m < 2 ^ (7 * k)) (hc : c * 2 ^ (7 * k) < 2 ^ 64) (hk : k ≤ 9) : bits BinOp.or IntKind.u64 (m : Int) (IntKind.u64.wrap ((c : Int) * 2 ^ (7 * k))) = ((m + c * 128 ^ k : Nat) : Int) := by
  have e0 : IntKind.u64.wrap ((c : Int) * 2 ^ (7 * k)) = ((c * 2 ^ (7 * k) : Nat) : Int) := by
    have e1 : ((c : Int) * 2 ^ (7 * k)) = ((c * 2 ^ (7 * k) : Nat) : Int) := by push_cast; rfl
    rw [e1]
    generalize c * 2 ^ (7 * k) = y at hc
    unfold IntKind.wrap; simp [IntKind.bits, IntKind.signed]; omega
  have hm2 : m < 2 ^ 64 := Nat.lt_of_lt_of_le hm (Nat.pow_le_pow_right (by omega) (by omega))
  rw [e0, u64_or_nat m (c * 2 ^ (7 * k)) (by omega) (by omega), Nat.or_comm, Nat.mul_comm c, ← Nat.two_pow_add_eq_or_of_lt hm c, Nat.add_comm, Nat.mul_comm, pow7]
theorem grp_lt (m z k : Nat) (hm : m < 2 ^ (7 * k)) : m + z % 128 * 128 ^ k < 2 ^ (7 * (k + 1)) := by
  have e : 2 ^ (7 * (k + 1)) = 128 * 2 ^ (7 * k) := by rw [show 7 * (k + 1) = 7 + 7 * k by omega, Nat.pow_add]
  rw [e, ← pow7]
  have h2 : z % 128 * 2 ^ (7 * k) ≤ 127 * 2 ^ (7 * k) := Nat.mul_le_mul_right _ (by omega)
  omega
theorem grp_in (z k : Nat) (h : k ≤ 8 ∨ (k = 9 ∧ z ≤ 1)) : z % 128 * 2 ^ (7 * k) < 2 ^ 64 := by
  rcases h with h | ⟨rfl, h⟩
  · have e : 2 ^ (7 * k) ≤ 2 ^ 56 := Nat.pow_le_pow_right (by omega) (by omega)
    have h2 : z % 128 * 2 ^ (7 * k) ≤ 127 * 2 ^ 56 := Nat.mul_le_mul (by omega) e
    omega
  · have : z = 0 ∨ z = 1 := by omega
    rcases this with rfl | rfl <;> decide
theorem wiG_nil (first : List UInt8) (f k m : Nat) : wiG first (f + 1) k m [] = .error [] := rfl
theorem wiG_cons (first : List UInt8) (f k m : Nat) (b : UInt8) (r : List UInt8) : wiG first (f + 1) k m (b :: r) = if (k = 9 ∧ 1 < b.toNat) ∨ (0 < k ∧ b.toNat = 0) then .error first else if b.toNat < 128 then .ok (m + b.toNat * 128 ^ k, r) else wiG first f (k + 1) (m + b.toNat % 128 * 128 ^ k) r := rfl
set_option maxRecDepth 100000 in
set_option maxHeartbeats 8000000 in
theorem number_any (rb p : Nat) (s : ByteArray) (w : World) (h : WRd w rb s p) :
    Calls Tryz.prog 46 #[.pointer (some ⟨rb, 0, none⟩)] w fun e w' => WPost s rb (fun _ n v => v = .int .u64 ((n : Nat) : Int)) (wiN (rs s p)) e w' ∧ FR rb w w' := by
  have H := hideK h
  have HT := hideK (thrown_at s p h.le)
  have cN := hideK (fun (w1 : World) (q : Nat) (h1 : WRd w1 rb s q) (he : rs s q = []) => next_end rb q s w1 h1 he)
  have cM := hideK (fun (w1 : World) (q : Nat) (h1 : WRd w1 rb s q) (b : UInt8) (r : List UInt8) (he : rs s q = b :: r) => next_more rb q s w1 h1 he)
  obtain ⟨c0, c1, fz, hle, hsz⟩ := h
  obtain ⟨X, hX⟩ : ∃ X, X = wiN (rs s p) := ⟨_, rfl⟩
  rw [← hX]
  go_enter Tryz.func46, Tryz.ntmps46
  go_wp2_with fail
  go_loopw [4, 5] (fun n sh wr => ∃ k m q : Nat, k ≤ 9 ∧ n = .int .u64 (m : Int) ∧ sh = .int .i64 (7 * k : Nat) ∧ m < 2 ^ (7 * k) ∧ WRd wr rb s q ∧ FR rb w wr ∧ X = wiG (rs s p) (10 - k) k m (rs s q)) (fun _ sh _ => 70 - (intOf sh).toNat)
  case atStart => exact ⟨0, 0, p, by omega, by go_num, by go_num, by omega, H.out.keep (Below.refl _ _), FR.refl _ _, hX⟩
  case round =>
    obtain ⟨k, m, q, hk, rfl, rfl, hm, hr, hf, hg⟩ := hrel
    have HR := hideK hr
    have HF := hideK hf
    rw [show 10 - k = (9 - k) + 1 by omega] at hg
    clear hr hf hX
    cases he : rs s q with
    | nil =>
      have CE := hideK (cN.out wr q HR.out he)
      rw [he, wiG_nil] at hg
      have HX := hideK hg
      clear hg he
      go_wp2_with (go_at_call 43; refine CE.out.mono ?_; rintro e w1 ⟨rfl, hf1⟩)
      refine ⟨rfl, ?_, HF.out.trans hf1⟩
      rw [HX.out]
      rfl
    | cons b r =>
      have CM := hideK (cM.out wr q HR.out b r he)
      rw [he, wiG_cons] at hg
      have hlt : (b.toNat : Int) < 256 := by have := b.toNat_lt; omega
      have h00 : (0 : Int) ≤ (b.toNat : Int) := by omega
      clear he
      obtain ⟨sh, hsh⟩ : ∃ sh : Int, sh = ((7 * k : Nat) : Int) := ⟨_, rfl⟩
      rw [← hsh]
      have hsn : sh.toNat = 7 * k := by omega
      have hsa : (0 : Int) ≤ sh := by omega
      have hsb : sh ≤ 63 := by omega
      have hsc : ¬ sh < 0 := by omega
      have HSH := hideK hsh
      by_cases hbad : (k = 9 ∧ 1 < b.toNat) ∨ (0 < k ∧ b.toNat = 0)
      · rw [if_pos hbad] at hg
        have HX := hideK hg
        clear hg
        by_cases hz0 : b.toNat = 0
        · have hk0 : 0 < k := by omega
          have hs1 : sh > 0 := by omega
          have e0 : (b.toNat : Int) = 0 := by omega
          rw [e0] at CM
          clear hbad hm hlt h00 hz0 e0
          by_cases h63 : sh = 63
          · subst h63
            go_wp2_with (first
              | (go_at_call 43; refine CM.out.mono ?_; rintro e w1 ⟨rfl, ⟨hr1, hl1⟩, hf1⟩)
              | (go_at_call 44; refine (cannotBe_any _ _).mono ?_; rintro e w2 ⟨rfl, hb2⟩))
            refine ⟨rfl, ?_, (HF.out.trans hf1).trans (FR.of hb2)⟩
            rw [HX.out]
            show Ending.panicked _ = Ending.panicked _
            rw [HT.out]
          · have hs2 : (sh == 63) = false := by simpa using h63
            clear h63 hsh hsn hk
            go_wp2_with (first
              | (go_at_call 43; refine CM.out.mono ?_; rintro e w1 ⟨rfl, ⟨hr1, hl1⟩, hf1⟩)
              | (go_at_call 44; refine (cannotBe_any _ _).mono ?_; rintro e w2 ⟨rfl, hb2⟩))
            refine ⟨rfl, ?_, (HF.out.trans hf1).trans (FR.of hb2)⟩
            rw [HX.out]
            show Ending.panicked _ = Ending.panicked _
            rw [HT.out]
        · have h9 : k = 9 := by omega
          have hz1 : 1 < b.toNat := by omega
          have h63 : sh = 63 := by omega
          have hzz : (b.toNat : Int) > 1 := by omega
          subst h63
          generalize (b.toNat : Int) = z at *
          clear hbad hm hz0 hz1 hsh hsn
          go_wp2_with (first
            | (go_at_call 43; refine CM.out.mono ?_; rintro e w1 ⟨rfl, ⟨hr1, hl1⟩, hf1⟩)
            | (go_at_call 44; refine (cannotBe_any _ _).mono ?_; rintro e w2 ⟨rfl, hb2⟩))
          refine ⟨rfl, ?_, (HF.out.trans hf1).trans (FR.of hb2)⟩
          rw [HX.out]
          show Ending.panicked _ = Ending.panicked _
          rw [HT.out]
      rw [if_neg hbad] at hg
      have HV := hideK (show Value.int .u64 (bits BinOp.or IntKind.u64 (m : Int) (IntKind.u64.wrap ((b.toNat : Int) % 128 * 2 ^ sh.toNat))) = .int .u64 ((m + b.toNat % 128 * 128 ^ k : Nat) : Int) by
        rw [hsn, ← or7 m (b.toNat % 128) k hm (grp_in b.toNat k (by omega)) hk, show ((b.toNat % 128 : Nat) : Int) = (b.toNat : Int) % 128 by omega])
      have HM := hideK (grp_lt m b.toNat k hm)
      by_cases h128 : b.toNat < 128
      · rw [if_pos h128] at hg
        have HX := hideK hg
        have hz2 : (b.toNat : Int) < 128 := by omega
        rw [show b.toNat % 128 * 128 ^ k = b.toNat * 128 ^ k by rw [Nat.mod_eq_of_lt h128]] at HV
        clear hg HM
        by_cases h9 : k = 9
        · have hs2 : (sh == 63) = true := by simp; omega
          have hs1 : sh > 0 := by omega
          have hz1 : ((b.toNat : Int) == 0) = false := by simp; omega
          have hz3 : ¬ (b.toNat : Int) > 1 := by omega
          clear hbad hm hsh hsn hk h9 h128
          generalize (b.toNat : Int) = z at *
          go_wp2_with (first
            | (go_at_call 43; refine CM.out.mono ?_; rintro e w1 ⟨rfl, ⟨hr1, hl1⟩, hf1⟩)
            | (go_at_call 44; refine (cannotBe_any _ _).mono ?_; rintro e w2 ⟨rfl, hb2⟩))
          go_ret
          refine ⟨?_, HF.out.trans hf1⟩
          rw [HX.out]
          exact ⟨_, rfl, HV.out, q + 1, hr1, hl1⟩
        have hs2 : (sh == 63) = false := by simp; omega
        by_cases h0 : k = 0
        · have hs1 : ¬ sh > 0 := by omega
          clear hbad hm hsh hsn hk h9 h128 h0
          generalize (b.toNat : Int) = z at *
          go_wp2_with (first
            | (go_at_call 43; refine CM.out.mono ?_; rintro e w1 ⟨rfl, ⟨hr1, hl1⟩, hf1⟩)
            | (go_at_call 44; refine (cannotBe_any _ _).mono ?_; rintro e w2 ⟨rfl, hb2⟩))
          go_ret
          refine ⟨?_, HF.out.trans hf1⟩
          rw [HX.out]
          exact ⟨_, rfl, HV.out, q + 1, hr1, hl1⟩
        · have hs1 : sh > 0 := by omega
          have hz1 : ((b.toNat : Int) == 0) = false := by simp; omega
          clear hbad hm hsh hsn hk h9 h128 h0
          generalize (b.toNat : Int) = z at *
          go_wp2_with (first
            | (go_at_call 43; refine CM.out.mono ?_; rintro e w1 ⟨rfl, ⟨hr1, hl1⟩, hf1⟩)
            | (go_at_call 44; refine (cannotBe_any _ _).mono ?_; rintro e w2 ⟨rfl, hb2⟩))
          go_ret
          refine ⟨?_, HF.out.trans hf1⟩
          rw [HX.out]
          exact ⟨_, rfl, HV.out, q + 1, hr1, hl1⟩
      · rw [if_neg h128] at hg
        have HX := hideK hg
        have hz2 : ¬ (b.toNat : Int) < 128 := by omega
        have hk8 : k ≤ 8 := by omega
        have HK := hideK (show k + 1 ≤ 9 by omega)
        have hs2 : (sh == 63) = false := by simp; omega
        have hs9 : sh ≤ 56 := by omega
        clear hg
        by_cases h0 : k = 0
        · have hs1 : ¬ sh > 0 := by omega
          clear hbad hm hsh hsn hk h128 h0 hk8
          generalize (b.toNat : Int) = z at *
          go_wp2_with (first
            | (go_at_call 43; refine CM.out.mono ?_; rintro e w1 ⟨rfl, ⟨hr1, hl1⟩, hf1⟩)
            | (go_at_call 44; refine (cannotBe_any _ _).mono ?_; rintro e w2 ⟨rfl, hb2⟩))
          go_roundw
          case rel => exact ⟨k + 1, _, q + 1, HK.out, HV.out, by rw [HSH.out]; go_num, HM.out, hr1, HF.out.trans hf1, by rw [HX.out, hl1, show 10 - (k + 1) = 9 - k by omega]⟩
          case measure => simp [intOf]; omega
        · have hs1 : sh > 0 := by omega
          have hz1 : ((b.toNat : Int) == 0) = false := by simp; omega
          clear hbad hm hsh hsn hk h128 h0 hk8
          generalize (b.toNat : Int) = z at *
          go_wp2_with (first
            | (go_at_call 43; refine CM.out.mono ?_; rintro e w1 ⟨rfl, ⟨hr1, hl1⟩, hf1⟩)
            | (go_at_call 44; refine (cannotBe_any _ _).mono ?_; rintro e w2 ⟨rfl, hb2⟩))
          go_roundw
          case rel => exact ⟨k + 1, _, q + 1, HK.out, HV.out, by rw [HSH.out]; go_num, HM.out, hr1, HF.out.trans hf1, by rw [HX.out, hl1, show 10 - (k + 1) = 9 - k by omega]⟩
          case measure => simp [intOf]; omega
end Go.Proofs.YtefdekfgmbgbbaaGreatDoor
/-
  The contracts of package wires' signed, asLabel and of a label's reading.
-/
namespace Go.Proofs.YtefdekfgmbgbbaaGreatDoor
open Go.RowKit Go.Shelf

set_option maxHeartbeats 1000000 in
theorem signed_any (n : Nat) (h : n < 2 ^ 64) (w : World) :
    Calls Tryz.prog 45 #[.int .u64 (n : Int)] w fun e w' => e = .returned (.int .i64 (sgN n)) ∧ w' = w := by
  have h1 : (n : Int) < 18446744073709551616 := by omega
  have h0 : (0 : Int) ≤ (n : Int) := by omega
  have hh : (n : Int) / 2 ≤ 9223372036854775807 := by omega
  have hh0 : (0 : Int) ≤ (n : Int) / 2 := by omega
  unfold sgN
  by_cases hb : n % 2 = 1
  · rw [if_pos hb]
    have hb2 : ((n : Int) % 2 == 1) = true := by simp; omega
    have HE := hideK (show -((n / 2 : Nat) : Int) - 1 = -((n : Int) / 2) - 1 by omega)
    clear hb h
    rw [HE.out]
    generalize (n : Int) = z at *
    go_enter Tryz.func45, Tryz.ntmps45
    go_wp2_with fail
    go_ret
    exact ⟨rfl, rfl⟩
  · rw [if_neg hb]
    have hb2 : ((n : Int) % 2 == 1) = false := by simp; omega
    have HE := hideK (show ((n / 2 : Nat) : Int) = (n : Int) / 2 by omega)
    clear hb h
    rw [HE.out]
    generalize (n : Int) = z at *
    go_enter Tryz.func45, Tryz.ntmps45
    go_wp2_with fail
    go_ret
    exact ⟨rfl, rfl⟩
set_option maxHeartbeats 1000000 in
theorem asLabel_any (s : ByteArray) (w : World) (hs : s.size ≤ 9223372036854775807) :
    Calls Tryz.prog 35 #[.string s] w fun e w' => e = .returned (.tuple #[.string s, .bool (isNm s.data.toList)]) ∧ Below w.heap.size w w' := by
  have cN := isName_any s w hs
  go_enter Tryz.func35, Tryz.ntmps35
  go_wp2_with (go_at_call 29; refine cN.mono ?_; rintro e w1 ⟨rfl, hb1⟩)
  go_ret2
  exact ⟨rfl, hb1⟩
theorem number_ok {l r : List UInt8} {n : Nat} (h : wiN l = .ok (n, r)) (rb p : Nat) (s : ByteArray) (w : World) (hr : WRd w rb s p) (hl : rs s p = l) :
    Calls Tryz.prog 46 #[.pointer (some ⟨rb, 0, none⟩)] w fun e w' => e = .returned (.int .u64 ((n : Nat) : Int)) ∧ (∃ p', WRd w' rb s p' ∧ rs s p' = r) ∧ FR rb w w' := by
  have c := number_any rb p s w hr
  rw [hl, h] at c
  simp only [WPost] at c
  exact c.mono fun e w' ⟨⟨v, e1, e2, h3⟩, h4⟩ => ⟨by rw [e1, e2], h3, h4⟩
theorem number_bad {l r : List UInt8} (h : wiN l = .error r) (rb p : Nat) (s : ByteArray) (w : World) (hr : WRd w rb s p) (hl : rs s p = l) :
    Calls Tryz.prog 46 #[.pointer (some ⟨rb, 0, none⟩)] w fun e w' => e = .panicked (thrown s r) ∧ FR rb w w' := by
  have c := number_any rb p s w hr
  rw [hl, h] at c
  simpa only [WPost] using c
theorem rs_drop' (s : ByteArray) (p n : Nat) : (rs s p).drop n = rs s (p + n) := (rs_drop s p n).symm
/-- what is known of a reading behind its number -/
theorem rest_facts {s : ByteArray} {q n : Nat} {r : List UInt8} (_ : q ≤ s.size) (hlq : rs s q = r) : s.extract q s.size = bs r ∧ ((bs r).size : Int) = (r.length : Int) ∧ r.length = s.size - q ∧ (bs r).extract 0 n = bs (r.take n) :=
  ⟨by rw [ext_rs, hlq], by rw [bs_size], by rw [← hlq, rs_len], by rw [ext_bs, bs_list]⟩
set_option maxRecDepth 100000 in
set_option maxHeartbeats 4000000 in
theorem readLb_any (rb p : Nat) (s : ByteArray) (w : World) (h : WRd w rb s p) :
    Calls Tryz.prog 34 #[.pointer (some ⟨rb, 0, none⟩), .func (.func 35) #[] #[]] w fun e w' => WPost s rb (fun _ a v => v = .string a) (wiT asLb (rs s p)) e w' ∧ FR rb w w' := by
  have HT := hideK (thrown_at s p h.le)
  have H := hideK h
  obtain ⟨c0, c1, fz, hle, hsz⟩ := h
  unfold wiT
  cases hN : wiN (rs s p) with
  | error r =>
    simp only [WPost]
    go_enter Tryz.func34, Tryz.ntmps34
    go_wp2_with (go_at_call 46; refine (number_bad hN rb p s _ H.out rfl).mono ?_; rintro e w1 ⟨rfl, hf1⟩)
    exact ⟨rfl, rfl, hf1⟩
  | ok x =>
    obtain ⟨n, r⟩ := x
    have CN := hideK (number_ok hN rb p s w H.out rfl)
    have hn64 := (wiN_conv hN).2
    clear hN
    simp only
    by_cases hl : r.length < n
    · rw [if_pos hl]
      simp only [WPost]
      rw [HT.out]
      go_enter Tryz.func34, Tryz.ntmps34
      go_wp2_with (go_at_call 46; refine CN.out.mono ?_; rintro e w1 ⟨rfl, ⟨q, hq, hlq⟩, hf1⟩)
      obtain ⟨d0, d1, gz, hle2, hsz2⟩ := hq
      obtain ⟨hx, ht, hr, _⟩ := rest_facts (n := n) hle2 hlq
      have hz : (q : Int) ≤ (s.size : Int) := by omega
      have h0q : (0 : Int) ≤ (q : Int) := by omega
      have hgt : (n : Int) > ((bs r).size : Int) := by omega
      have hts : ((bs r).size : Int) ≤ 281474976710656 := by omega
      clear hlq ht hr hl
      generalize bs r = t at *
      go_quiet (fail)
      go_wp2_with (go_at_call 44; refine (cannotBe_any _ _).mono ?_; rintro e w2 ⟨rfl, hb2⟩)
      exact ⟨rfl, rfl, (hf1.trans (FR.of (belowN w1 _))).trans (FR.of hb2)⟩
    · rw [if_neg hl]
      cases hq0 : asLb (r.take n) with
      | none =>
        have hnm : isNm (r.take n) = false := by
          unfold asLb at hq0
          split at hq0
          · cases hq0
          · next hh => simpa using hh
        simp only [WPost]
        rw [HT.out]
        go_enter Tryz.func34, Tryz.ntmps34
        go_wp2_with (go_at_call 46; refine CN.out.mono ?_; rintro e w1 ⟨rfl, ⟨q, hq, hlq⟩, hf1⟩)
        obtain ⟨d0, d1, gz, hle2, hsz2⟩ := hq
        obtain ⟨hx, ht, hr, hx2⟩ := rest_facts (n := n) hle2 hlq
        have hz : (q : Int) ≤ (s.size : Int) := by omega
        have h0q : (0 : Int) ≤ (q : Int) := by omega
        have hgt : ¬ (n : Int) > ((bs r).size : Int) := by omega
        have hts : ((bs r).size : Int) ≤ 281474976710656 := by omega
        have hus : (bs (r.take n)).size ≤ 281474976710656 := by rw [bs_size, List.length_take]; omega
        have cC := hideK (fun W => cloneT_any (bs (r.take n)) W hus)
        have cA := hideK (fun W => asLabel_any (bs (r.take n)) W (by omega))
        rw [bs_list, hnm] at cA
        clear hlq ht hr hl hq0 hnm hus
        generalize bs (r.take n) = u at *
        generalize bs r = t at *
        go_quiet (fail)
        go_wp2_with (first
          | (go_at_call 49; refine (cC.out _).mono ?_; rintro e w2 ⟨rfl, hb2⟩)
          | (go_at_call 35; refine (cA.out _).mono ?_; rintro e w3 ⟨rfl, hb3⟩)
          | (go_at_call 44; refine (cannotBe_any _ _).mono ?_; rintro e w4 ⟨rfl, hb4⟩))
        exact ⟨rfl, rfl, (((hf1.trans (FR.of (belowN w1 _))).trans (FR.of hb2)).trans (FR.of hb3)).trans (FR.of hb4)⟩
      | some a =>
        have hnm : isNm (r.take n) = true ∧ a = bs (r.take n) := by
          unfold asLb at hq0
          split at hq0
          · next hh => injection hq0 with hq0; exact ⟨hh, hq0.symm⟩
          · cases hq0
        obtain ⟨hnm, ha⟩ := hnm
        simp only [WPost]
        go_enter Tryz.func34, Tryz.ntmps34
        go_wp2_with (go_at_call 46; refine CN.out.mono ?_; rintro e w1 ⟨rfl, ⟨q, hq, hlq⟩, hf1⟩)
        have HQ := hideK hq
        obtain ⟨d0, d1, gz, hle2, hsz2⟩ := hq
        obtain ⟨hx, ht, hr, hx2⟩ := rest_facts (n := n) hle2 hlq
        have hz : (q : Int) ≤ (s.size : Int) := by omega
        have h0q : (0 : Int) ≤ (q : Int) := by omega
        have hgt : ¬ (n : Int) > ((bs r).size : Int) := by omega
        have hts : ((bs r).size : Int) ≤ 281474976710656 := by omega
        have hus : a.size ≤ 281474976710656 := by rw [ha, bs_size, List.length_take]; omega
        have cC := hideK (fun W => cloneT_any a W hus)
        have cA := hideK (fun W => asLabel_any a W (by omega))
        rw [show isNm a.data.toList = true by rw [ha, bs_list]; exact hnm] at cA
        rw [← ha] at hx2
        have HN := hideK (show q + n ≤ s.size by omega)
        have HR := hideK (show rs s (q + n) = r.drop n by rw [rs_drop, hlq])
        have HI := hideK (show (q : Int) + (n : Int) = ((q + n : Nat) : Int) by omega)
        have hqn : (q : Int) + (n : Int) ≤ 281474976710656 := by omega
        clear hlq ht hr hl hq0 hnm hus ha
        generalize bs r = t at *
        go_quiet (fail)
        go_wp2_with (first
          | (go_at_call 49; refine (cC.out _).mono ?_; rintro e w2 ⟨rfl, hb2⟩; have H2 := hideK ((HQ.out.keep (belowN w1 _)).keep hb2))
          | (go_at_call 35; refine (cA.out _).mono ?_; rintro e w3 ⟨rfl, hb3⟩; have H3 := hideK (H2.out.keep hb3); obtain ⟨f0, f1, fz3, _, _⟩ := id H3.out))
        rw [HI.out]
        go_ret
        exact ⟨⟨_, rfl, rfl, _, H3.out.set _ HN.out, HR.out⟩, (((hf1.trans (FR.of (belowN w1 _))).trans (FR.of hb2)).trans (FR.of hb3)).trans (FR.set2 1 _)⟩
end Go.Proofs.YtefdekfgmbgbbaaGreatDoor
