/-
  Plain mathematics: numbers as texts and back; texts between quotation marks as they are written and back, and that they are UTF-8 just if the text is; for every number of 64 bits and every list of bytes.
-/
import Derived.Test.YtfmegfgmkeicnaaDoorUb
import Derived.Lib.ParseIntBCases
import Derived.Lib.ItoaNum
namespace Go.Proofs.YtfmegfgmkeicnaaDoor
open Go Go.Lib

theorem dig_toNat (k : Nat) (h : k < 10) : (UInt8.ofNat (48 + k)).toNat = 48 + k := by simp; omega

theorem dec_head : ∀ (m u : Nat), u ≤ m → ∃ c r, decDigits u = c :: r ∧ 48 ≤ c.toNat ∧ c.toNat ≤ 57
  | m, u, hm => by
    by_cases h : u < 10
    · rw [decDigits, dif_pos h]
      exact ⟨_, _, rfl, by rw [dig_toNat u h]; omega, by rw [dig_toNat u h]; omega⟩
    · rw [decDigits, dif_neg h]
      match m, hm with
      | 0, hm => omega
      | m + 1, hm =>
        obtain ⟨c, r, e, h1, h2⟩ := dec_head m (u / 10) (by omega)
        exact ⟨c, r ++ [UInt8.ofNat (48 + u % 10)], by rw [e]; rfl, h1, h2⟩

theorem parse_dec : ∀ (m u : Nat) (r : List UInt8), u ≤ m → u ≤ 18446744073709551615 → parseUintM 18446744073709551615 0 (decDigits u ++ r) = parseUintM 18446744073709551615 u r
  | m, u, r, hm, hu => by
    by_cases h : u < 10
    · rw [decDigits, dif_pos h]
      show parseUintM _ 0 (UInt8.ofNat (48 + u) :: r) = _
      rw [parseUintM, dig_toNat u h, if_pos (by omega), if_neg (by omega), if_neg (by omega)]
      congr 1
      omega
    · rw [decDigits, dif_neg h]
      match m, hm with
      | 0, hm => omega
      | m + 1, hm =>
        rw [List.append_assoc, parse_dec m (u / 10) _ (by omega) (by omega)]
        show parseUintM _ (u / 10) (UInt8.ofNat (48 + u % 10) :: r) = _
        rw [parseUintM, dig_toNat (u % 10) (by omega), if_pos (by omega), if_neg (by omega), if_neg (by omega)]
        congr 1
        omega

theorem parseB_dec (u : Nat) (hu : u ≤ 18446744073709551615) : parseUintB 64 (decDigits u) = .ok u := by
  obtain ⟨c, r, e, _⟩ := dec_head u u (Nat.le_refl _)
  have := parse_dec u u [] (Nat.le_refl _) hu
  rw [List.append_nil] at this
  unfold parseUintB
  rw [if_neg (by rw [e]; simp)]
  show parseUintM 18446744073709551615 0 (decDigits u) = _
  rw [this]
  rfl

theorem parse_itoa (n : Int) (h0 : -9223372036854775808 ≤ n) (h1 : n ≤ 9223372036854775807) : parseIntB 64 (itoa n) = .ok n := by
  unfold itoa
  by_cases hn : n < 0
  · rw [if_pos hn, parseIntB_minus, parseB_dec _ (by omega)]
    show (if 2 ^ 63 < n.natAbs then NumEnd.range else .ok (-(n.natAbs : Int))) = _
    rw [if_neg (by omega)]
    congr 1
    omega
  · rw [if_neg hn]
    obtain ⟨c, r, e, h2, h3⟩ := dec_head n.toNat n.toNat (Nat.le_refl _)
    rw [e, parseIntB_plain 64 c r (by omega) (by omega), ← e, parseB_dec _ (by omega)]
    show (if 2 ^ 63 ≤ n.toNat then NumEnd.range else .ok (n.toNat : Int)) = _
    rw [if_neg (by omega)]
    congr 1
    omega

/-- a number's text opens with a digit or a minus -/
theorem itoa_head (n : Int) : ∃ c r, itoa n = c :: r ∧ (c.toNat = 45 ∨ (48 ≤ c.toNat ∧ c.toNat ≤ 57)) := by
  unfold itoa
  by_cases hn : n < 0
  · rw [if_pos hn]; exact ⟨45, _, rfl, .inl rfl⟩
  · rw [if_neg hn]
    obtain ⟨c, r, e, h2, h3⟩ := dec_head n.toNat n.toNat (Nat.le_refl _)
    exact ⟨c, r, e, .inr ⟨h2, h3⟩⟩

/-! ### texts as they are written -/
def esc1 (c : UInt8) : List UInt8 := if c = 92 then [92, 92] else if c = 34 then [92, 34] else if c = 10 then [92, 110] else [c]
def esc (l : List UInt8) : List UInt8 := l.flatMap esc1
def unesc (c : UInt8) : Option UInt8 := if c = 92 ∨ c = 34 then some c else if c = 110 then some 10 else none
def unq : List UInt8 → Option (List UInt8)
  | [] => some []
  | c :: r =>
    if c = 34 ∨ c = 10 then none
    else if c = 92 then
      match r with
      | [] => none
      | d :: r' => match unesc d with
        | none => none
        | some x => (unq r').map (x :: ·)
    else (unq r).map (c :: ·)

theorem esc_nil : esc [] = [] := rfl
theorem esc_cons (c : UInt8) (l : List UInt8) : esc (c :: l) = esc1 c ++ esc l := by simp [esc]
theorem esc_append (a b : List UInt8) : esc (a ++ b) = esc a ++ esc b := by simp [esc]
theorem esc1_plain (c : UInt8) (h1 : c ≠ 92) (h2 : c ≠ 34) (h3 : c ≠ 10) : esc1 c = [c] := by simp [esc1, h1, h2, h3]
theorem esc1_len (c : UInt8) : 1 ≤ (esc1 c).length ∧ (esc1 c).length ≤ 2 := by
  unfold esc1
  repeat' split
  all_goals simp
theorem esc_len : ∀ l : List UInt8, l.length ≤ (esc l).length ∧ (esc l).length ≤ 2 * l.length
  | [] => by simp [esc]
  | c :: l => by rw [esc_cons, List.length_append, List.length_cons]; have := esc1_len c; have := esc_len l; omega

theorem unq_esc : ∀ l : List UInt8, unq (esc l) = some l
  | [] => rfl
  | c :: l => by
    have ih := unq_esc l
    rw [esc_cons]
    unfold esc1
    by_cases h1 : c = 92
    · subst h1; simp [unq, unesc, ih]
    · by_cases h2 : c = 34
      · subst h2; simp [unq, unesc, ih]
      · by_cases h3 : c = 10
        · subst h3; simp [unq, unesc, ih]
        · rw [if_neg h1, if_neg h2, if_neg h3, List.cons_append, List.nil_append]
          unfold unq
          rw [if_neg (by simp [h2, h3]), if_neg h1, ih]
          rfl

theorem esc_unq : ∀ (n : Nat) (b t : List UInt8), b.length ≤ n → unq b = some t → b = esc t
  | _, [], t, _, h => by simp [unq] at h; subst h; rfl
  | 0, _ :: _, _, hn, _ => by simp at hn
  | n + 1, c :: r, t, hn, h => by
    have hn' : r.length ≤ n := by simpa using hn
    unfold unq at h
    by_cases h1 : c = 34 ∨ c = 10
    · rw [if_pos h1] at h; cases h
    · rw [if_neg h1] at h
      by_cases h2 : c = 92
      · rw [if_pos h2] at h
        subst h2
        match r, hn', h with
        | [], _, h => simp at h
        | d :: r', hn', h =>
          simp only at h
          unfold unesc at h
          by_cases h3 : d = 92 ∨ d = 34
          · rw [if_pos h3] at h
            simp only [Option.map_eq_some_iff] at h
            obtain ⟨u, hu, rfl⟩ := h
            have := esc_unq n r' u (by simp at hn'; omega) hu
            rw [this, esc_cons]
            rcases h3 with rfl | rfl <;> simp [esc1]
          · rw [if_neg h3] at h
            by_cases h4 : d = 110
            · rw [if_pos h4] at h
              subst h4
              simp only [Option.map_eq_some_iff] at h
              obtain ⟨u, hu, rfl⟩ := h
              have := esc_unq n r' u (by simp at hn'; omega) hu
              rw [this, esc_cons]
              simp [esc1]
            · rw [if_neg h4] at h; cases h
      · rw [if_neg h2] at h
        simp only [Option.map_eq_some_iff] at h
        obtain ⟨u, hu, rfl⟩ := h
        have := esc_unq n r u hn' hu
        rw [esc_cons, esc1_plain c h2 (fun e => h1 (.inl e)) (fun e => h1 (.inr e)), ← this]
        rfl

theorem high_ne (c k : UInt8) (h : 128 ≤ c.toNat) (hk : k.toNat < 128) : c ≠ k := fun e => by subst e; omega
theorem esc_high : ∀ (u l : List UInt8), (∀ c ∈ u, 128 ≤ c.toNat) → esc (u ++ l) = u ++ esc l
  | [], _, _ => rfl
  | c :: u, l, h => by
    have hc := h c (by simp)
    rw [List.cons_append, esc_cons, esc1_plain c (high_ne c 92 hc (by decide)) (high_ne c 34 hc (by decide)) (high_ne c 10 hc (by decide)), esc_high u l fun x hx => h x (by simp [hx])]
    rfl
theorem high_of_esc : ∀ (u t rest : List UInt8), (∀ c ∈ u, 128 ≤ c.toNat) → esc t ++ [34] = u ++ rest → ∃ t', t = u ++ t'
  | [], t, _, _, _ => ⟨t, rfl⟩
  | c :: u, [], rest, h, e => by
    have hc := h c (by simp)
    have := (List.cons.inj (show (34 : UInt8) :: [] = c :: (u ++ rest) from e)).1
    exact absurd this.symm (high_ne c 34 hc (by decide))
  | c :: u, b :: t, rest, h, e => by
    have hc := h c (by simp)
    rw [esc_cons] at e
    by_cases hb : b = 92 ∨ b = 34 ∨ b = 10
    · have : ∃ z, esc1 b = 92 :: z := by
        unfold esc1
        rcases hb with rfl | rfl | rfl
        · exact ⟨_, rfl⟩
        · exact ⟨_, rfl⟩
        · exact ⟨_, rfl⟩
      obtain ⟨z, hz⟩ := this
      rw [hz] at e
      have := (List.cons.inj (show (92 : UInt8) :: (z ++ esc t ++ [34]) = c :: (u ++ rest) by simpa using e)).1
      exact absurd this.symm (high_ne c 92 hc (by decide))
    · rw [esc1_plain b (fun x => hb (.inl x)) (fun x => hb (.inr (.inl x))) (fun x => hb (.inr (.inr x)))] at e
      have e' := List.cons.inj (show b :: (esc t ++ [34]) = c :: (u ++ rest) by simpa using e)
      obtain ⟨t', ht⟩ := high_of_esc u t rest (fun x hx => h x (by simp [hx])) e'.2
      exact ⟨t', by rw [e'.1, ht]; rfl⟩

/-- a letter from 128 on has no byte below 128 -/
theorem enc_high (r : Nat) (h : 128 ≤ r) : ∀ c ∈ encodeRune (r : Int), 128 ≤ c.toNat := by
  intro c hc
  unfold encodeRune at hc
  obtain ⟨z, hz, rfl⟩ := List.mem_map.1 hc
  have hb := encodeRuneZ_byte (r : Int) z hz
  have h128 : 128 ≤ z := by
    unfold encodeRuneZ at hz
    repeat' split at hz
    all_goals (simp at hz; omega)
  obtain ⟨m, rfl⟩ := Int.eq_ofNat_of_zero_le hb.1
  rw [byteN (m : Int) m rfl (by omega)]
  omega
theorem enc_low (r : Nat) (h : r < 128) : encodeRune (r : Int) = [UInt8.ofNat r] := by
  simp [encodeRune, encodeRuneZ_one (show (0 : Int) ≤ r by omega) (show (r : Int) ≤ 127 by omega)]
theorem enc_low_rl (r : Nat) (h : 128 ≤ r) (hr : IsR r) : 2 ≤ rl r := by
  unfold IsR at hr
  unfold rl encodeRune encodeRuneZ
  repeat' split
  all_goals first | omega | simp

theorem valid_esc1 (b : UInt8) (hb : b.toNat < 128) (z : List UInt8) : validD (esc1 b ++ z) = validD z := by
  unfold esc1
  repeat' split
  · rw [List.cons_append, List.cons_append, List.nil_append, validD_cons _ _ (by decide), validD_cons _ _ (by decide)]
  · rw [List.cons_append, List.cons_append, List.nil_append, validD_cons _ _ (by decide), validD_cons _ _ (by decide)]
  · rw [List.cons_append, List.cons_append, List.nil_append, validD_cons _ _ (by decide), validD_cons _ _ (by decide)]
  · rw [List.cons_append, List.nil_append, validD_cons _ _ hb]

set_option maxHeartbeats 1000000 in
theorem valid_q : ∀ (n : Nat) (t : List UInt8), t.length ≤ n → validD (esc t ++ [34]) = validD t
  | _, [], _ => by decide
  | 0, _ :: _, hn => by simp at hn
  | n + 1, b :: t, hn => by
    have hn' : t.length ≤ n := by simpa using hn
    by_cases hb : b.toNat < 128
    · rw [validD_cons b t hb, ← valid_q n t hn', esc_cons, List.append_assoc, valid_esc1 b hb]
    · have hne : (b :: t) ≠ [] := by simp
      have hne2 : esc (b :: t) ++ [34] ≠ [] := by simp
      rw [validD_step (b :: t) hne]
      by_cases hbad : (decodeL (b :: t)).1 = 65533 ∧ (decodeL (b :: t)).2 = 1
      · rw [if_pos hbad, validD_step _ hne2]
        by_cases hbad2 : (decodeL (esc (b :: t) ++ [34])).1 = 65533 ∧ (decodeL (esc (b :: t) ++ [34])).2 = 1
        · rw [if_pos hbad2]
        · exfalso
          have he := encode_decode _ hne2 hbad2
          have hR := dec_IsR (esc (b :: t) ++ [34])
          generalize hr : (decodeL (esc (b :: t) ++ [34])).1 = r at he hR
          generalize hk : (decodeL (esc (b :: t) ++ [34])).2 = k at he
          have hsplit : esc (b :: t) ++ [34] = encodeRune (r : Int) ++ (esc (b :: t) ++ [34]).drop k := by rw [he, List.take_append_drop]
          have hfirst : esc (b :: t) = b :: esc t := by
            have := esc_high [b] t (by intro c hc; simp at hc; subst hc; omega)
            simpa using this
          have hr128 : 128 ≤ r := by
            rcases Nat.lt_or_ge r 128 with hlt | hge
            · rw [enc_low r hlt, hfirst] at hsplit
              have := (List.cons.inj (show b :: (esc t ++ [34]) = UInt8.ofNat r :: _ from hsplit)).1
              rw [this] at hb
              simp at hb
              omega
            · exact hge
          obtain ⟨t', ht'⟩ := high_of_esc (encodeRune (r : Int)) (b :: t) _ (enc_high r hr128) hsplit
          have hd := decode_encode r hR t'
          rw [← ht'] at hd
          have h2 := enc_low_rl r hr128 hR
          rw [hd] at hbad
          have := hbad.2
          simp only at this
          omega
      · rw [if_neg hbad]
        have he := encode_decode _ hne hbad
        have hR := dec_IsR (b :: t)
        have hw := decodeL_width (b :: t)
        have hle := decodeL_le (b :: t) hne
        generalize hr : (decodeL (b :: t)).1 = r at he hR hbad
        generalize hk : (decodeL (b :: t)).2 = k at he hbad hw hle
        have hsplit : b :: t = encodeRune (r : Int) ++ (b :: t).drop k := by rw [he, List.take_append_drop]
        have hr128 : 128 ≤ r := by
          rcases Nat.lt_or_ge r 128 with hlt | hge
          · rw [enc_low r hlt] at hsplit
            have := (List.cons.inj (show b :: t = UInt8.ofNat r :: _ from hsplit)).1
            rw [this] at hb
            simp at hb
            omega
          · exact hge
        have hlen : ((b :: t).drop k).length ≤ n := by rw [List.length_drop, List.length_cons]; omega
        rw [← valid_q n _ hlen]
        rw [show esc (b :: t) = encodeRune (r : Int) ++ esc ((b :: t).drop k) by rw [← esc_high _ _ (enc_high r hr128), ← hsplit]]
        rw [List.append_assoc, validD_step _ (by have := rl_pos r; intro e; have := congrArg List.length e; simp only [List.length_append, List.length_nil] at this; unfold rl at *; omega), decode_encode r hR]
        have h2 := enc_low_rl r hr128 hR
        rw [if_neg (fun x => by have := x.2; simp only at this; omega)]
        congr 1
        simp [rl]

/-- a text between two quotation marks -/
def quo (t : List UInt8) : List UInt8 := 34 :: (esc t ++ [34])
theorem valid_quo (t : List UInt8) : validD (quo t) = validD t := by
  unfold quo
  rw [validD_cons _ _ (by decide)]
  exact valid_q _ t (Nat.le_refl _)
end Go.Proofs.YtfmegfgmkeicnaaDoor
