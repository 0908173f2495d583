/-
  Plain mathematics: what the document's package tells of a text that is read is what package values tells of it; for every list of bytes.
-/
import Derived.Test.YtbhgcfoplpjfjaaDoorBg
import Derived.Test.YtbhgcfoplpjfjaaDoorBh
import Derived.Test.YtbhgcfoplpjfjaaDoorBi
namespace Go.Proofs.YtbhgcfoplpjfjaaDoor
open Go

/-- a text behind its first mark, as far as its last one: how many bytes, and which text -/
def qn : List UInt8 → Option (Nat × List UInt8)
  | [] => none
  | c :: r =>
    if c = 34 then some (1, [])
    else if c = 10 then none
    else if c = 92 then
      match r with
      | [] => none
      | d :: r' => match unesc d with
        | none => none
        | some x => (qn r').map fun p => (p.1 + 2, x :: p.2)
    else (qn r).map fun p => (p.1 + 1, c :: p.2)
theorem qn_mark (r : List UInt8) : qn (34 :: r) = some (1, []) := by unfold qn; rw [if_pos rfl]
theorem qn_ten (r : List UInt8) : qn (10 :: r) = none := by unfold qn; rw [if_neg (by decide), if_pos rfl]
theorem qn_plain (c : UInt8) (r : List UInt8) (h1 : c ≠ 34) (h2 : c ≠ 10) (h3 : c ≠ 92) : qn (c :: r) = (qn r).map fun p => (p.1 + 1, c :: p.2) := by
  conv => lhs; unfold qn
  rw [if_neg h1, if_neg h2, if_neg h3]
theorem qn_e1 : qn [92] = none := by simp [qn]
theorem qn_e2 (d : UInt8) (r : List UInt8) : qn (92 :: d :: r) = match unesc d with | none => none | some x => (qn r).map fun p => (p.1 + 2, x :: p.2) := by
  conv => lhs; unfold qn
  rw [if_neg (by decide), if_neg (by decide), if_pos rfl]

theorem qn_unq : ∀ (n : Nat) (b t rest : List UInt8), b.length ≤ n → unq b = some t → qn (b ++ 34 :: rest) = some (b.length + 1, t)
  | _, [], t, rest, _, h => by simp [unq] at h; subst h; rw [List.nil_append, qn_mark]; rfl
  | 0, _ :: _, _, _, hn, _ => by simp at hn
  | n + 1, c :: r, t, rest, hn, h => by
    have hn' : r.length ≤ n := by simpa using hn
    by_cases h1 : c = 34 ∨ c = 10
    · rw [unq_end c r h1] at h; cases h
    · by_cases h2 : c = 92
      · subst h2
        match r, hn', h with
        | [], _, h => rw [unq_esc1] at h; cases h
        | d :: r', hn', h =>
          rw [unq_esc2] at h
          rw [List.cons_append, List.cons_append, qn_e2]
          cases hd : unesc d with
          | none => rw [hd] at h; cases h
          | some x =>
            rw [hd] at h
            simp only [Option.map_eq_some_iff] at h
            obtain ⟨u, hu, rfl⟩ := h
            simp only
            rw [qn_unq n r' u rest (by simp at hn'; omega) hu]
            simp
      · have ha : c ≠ 34 := fun e => h1 (.inl e)
        have hb : c ≠ 10 := fun e => h1 (.inr e)
        rw [unq_plain c r ha hb h2] at h
        simp only [Option.map_eq_some_iff] at h
        obtain ⟨u, hu, rfl⟩ := h
        rw [List.cons_append, qn_plain c _ ha hb h2, qn_unq n r u rest hn' hu]
        simp

theorem unq_qn : ∀ (n : Nat) (b t : List UInt8) (k : Nat), b.length ≤ n → qn b = some (k, t) → ∃ body rest, b = body ++ 34 :: rest ∧ k = body.length + 1 ∧ unq body = some t
  | _, [], t, k, _, h => by simp [qn] at h
  | 0, _ :: _, _, _, hn, _ => by simp at hn
  | n + 1, c :: r, t, k, hn, h => by
    have hn' : r.length ≤ n := by simpa using hn
    by_cases ha : c = 34
    · subst ha
      rw [qn_mark] at h
      simp at h
      obtain ⟨rfl, rfl⟩ := h
      exact ⟨[], r, rfl, rfl, by simp [unq]⟩
    · by_cases hb : c = 10
      · subst hb; rw [qn_ten] at h; cases h
      · by_cases h2 : c = 92
        · subst h2
          match r, hn', h with
          | [], _, h => rw [qn_e1] at h; cases h
          | d :: r', hn', h =>
            rw [qn_e2] at h
            cases hd : unesc d with
            | none => rw [hd] at h; cases h
            | some x =>
              rw [hd] at h
              simp only [Option.map_eq_some_iff] at h
              obtain ⟨⟨k', u⟩, hu, he⟩ := h
              simp at he
              obtain ⟨rfl, rfl⟩ := he
              obtain ⟨body, rest, e1, e2, e3⟩ := unq_qn n r' u k' (by simp at hn'; omega) hu
              refine ⟨92 :: d :: body, rest, by rw [e1]; rfl, by rw [e2]; simp, ?_⟩
              rw [unq_esc2, hd]
              simp only
              rw [e3]
              rfl
        · rw [qn_plain c r ha hb h2] at h
          simp only [Option.map_eq_some_iff] at h
          obtain ⟨⟨k', u⟩, hu, he⟩ := h
          simp at he
          obtain ⟨rfl, rfl⟩ := he
          obtain ⟨body, rest, e1, e2, e3⟩ := unq_qn n r u k' hn' hu
          refine ⟨c :: body, rest, by rw [e1]; rfl, by rw [e2]; simp, ?_⟩
          rw [unq_plain c _ ha hb h2, e3]
          rfl

/-- what duetref.Quoted tells -/
def quZ (l : List UInt8) : Int × List UInt8 :=
  match l with
  | [] => (-1, [])
  | c :: r => if c = 34 then
      match qn r with
      | none => (-1, [])
      | some p => if Lib.validD p.2 = true then ((p.1 : Int) + 1, p.2) else (-1, [])
    else (-1, [])

theorem esc_of_unq (b t : List UInt8) (h : unq b = some t) : b = esc t := esc_unq _ b t (Nat.le_refl _) h

/-- the whole is a written text -/
theorem qu_whole (t : List UInt8) (h : Lib.validD t = true) : quZ (quo t) = (((quo t).length : Int), t) := by
  unfold quZ quo
  simp only
  rw [if_pos trivial, qn_unq _ _ t [] (Nat.le_refl _) (unq_esc t)]
  simp only
  rw [if_pos h]
  simp
theorem qu_is (l t : List UInt8) (n : Int) (h : quZ l = (n, t)) (hn : n = (l.length : Int)) (h0 : 0 < n) : l = quo t ∧ Lib.validD t = true := by
  unfold quZ at h
  match l, h, hn with
  | [], h, hn => simp at hn; omega
  | c :: r, h, hn =>
    simp only at h
    by_cases hc : c = 34
    · subst hc
      rw [if_pos rfl] at h
      cases hq : qn r with
      | none => rw [hq] at h; simp at h; omega
      | some p =>
        rw [hq] at h
        simp only at h
        by_cases hv : Lib.validD p.2 = true
        · rw [if_pos hv] at h
          simp at h
          obtain ⟨h1, rfl⟩ := h
          obtain ⟨body, rest, e1, e2, e3⟩ := unq_qn _ r p.2 p.1 (Nat.le_refl _) hq
          have : rest = [] := by
            apply List.eq_nil_of_length_eq_zero
            have := congrArg List.length e1
            simp at this hn
            omega
          subst this
          refine ⟨?_, hv⟩
          unfold quo
          rw [e1, esc_of_unq _ _ e3]
        · rw [if_neg hv] at h; simp at h; omega
    · rw [if_neg hc] at h; simp at h; omega

/-! ### numbers -/
theorem dig_dec : ∀ (m u : Nat) (r : List UInt8), u ≤ m → dig (Lib.decDigits u ++ r) 0 = dig r u
  | m, u, r, hm => by
    by_cases h : u < 10
    · rw [Lib.decDigits, dif_pos h]
      show dig (UInt8.ofNat (48 + u) :: r) 0 = _
      rw [dig_pos _ _ _ (by rw [dig_toNat u h]; omega), dig_toNat u h]
      congr 1
      omega
    · rw [Lib.decDigits, dif_neg h]
      match m, hm with
      | 0, hm => omega
      | m + 1, hm =>
        rw [List.append_assoc, dig_dec m (u / 10) _ (by omega)]
        show dig (UInt8.ofNat (48 + u % 10) :: r) (u / 10) = _
        rw [dig_pos _ _ _ (by rw [dig_toNat (u % 10) (by omega)]; omega), dig_toNat (u % 10) (by omega)]
        congr 1
        omega
theorem dig_dec0 (u : Nat) : dig (Lib.decDigits u) 0 = some u := by
  have := dig_dec u u [] (Nat.le_refl _)
  rw [List.append_nil] at this
  rw [this]; rfl
theorem dec_len (u k : Nat) (h : u < 10 ^ (k + 1)) : (Lib.decDigits u).length ≤ k + 1 := by
  by_cases h0 : u = 0
  · subst h0; rw [Lib.decDigits]; simp
  · rw [← revd_dec u u (Nat.le_refl _) h0, List.length_reverse]
    exact revd_len (k + 1) u h
theorem dec_ne (u : Nat) : Lib.decDigits u ≠ [] := by
  obtain ⟨c, r, e, _⟩ := dec_head u u (Nat.le_refl _)
  rw [e]; simp

/-- what duetref.Number tells -/
def nuG (neg : Bool) (x : Nat) (l : List UInt8) : Option Int := if txt neg x = l ∧ (x < 9223372036854775808 ∨ (neg = true ∧ x = 9223372036854775808)) then some (sgn neg x) else none
def nuZ (l : List UInt8) : Option Int :=
  if 20 < l.length then none else if sbody l = [] then none else
    match dig (sbody l) 0 with
    | none => none
    | some x => nuG (sneg l && decide (x ≠ 0)) x l

theorem sb_itoa (v : Int) : sbody (Lib.itoa v) = Lib.decDigits v.natAbs ∧ sneg (Lib.itoa v) = decide (v < 0) := by
  unfold Lib.itoa
  by_cases h : v < 0
  · rw [if_pos h]
    refine ⟨?_, ?_⟩
    · simp [sbody]
    · show ((45 : UInt8) == 45) = _
      simp [h]
  · rw [if_neg h]
    have hn : v.toNat = v.natAbs := by omega
    rw [hn]
    obtain ⟨c, r, e, h1, h2⟩ := dec_head v.natAbs v.natAbs (Nat.le_refl _)
    have hc : ¬ (c = 45 ∨ c = 43) := by
      rintro (rfl | rfl)
      · exact absurd h1 (by decide)
      · exact absurd h1 (by decide)
    have hc1 : c ≠ 45 := fun e => hc (.inl e)
    rw [e]
    refine ⟨?_, ?_⟩
    · show (if c = 45 ∨ c = 43 then _ else _) = _
      rw [if_neg hc]
    · show (c == 45) = _
      simp [h, hc1]
theorem itoa_len (v : Int) (h0 : -9223372036854775808 ≤ v) (h1 : v ≤ 9223372036854775807) : (Lib.itoa v).length ≤ 20 := by
  have hn : v.natAbs < 10 ^ (18 + 1) := by
    have : (10 : Nat) ^ (18 + 1) = 10000000000000000000 := by decide
    omega
  have := dec_len v.natAbs 18 hn
  unfold Lib.itoa
  by_cases h : v < 0
  · rw [if_pos h, List.length_cons]; omega
  · rw [if_neg h, show v.toNat = v.natAbs by omega]; omega

theorem nu_itoa (v : Int) (h0 : -9223372036854775808 ≤ v) (h1 : v ≤ 9223372036854775807) : nuZ (Lib.itoa v) = some v := by
  unfold nuZ
  rw [if_neg (by have := itoa_len v h0 h1; omega), (sb_itoa v).1, (sb_itoa v).2, if_neg (dec_ne _), dig_dec0]
  simp only
  have hs : (decide (v < 0) && decide (v.natAbs ≠ 0)) = decide (v < 0) := by
    by_cases h : v < 0
    · simp [h]; omega
    · simp [h]
  rw [hs]
  unfold nuG
  have hr : v.natAbs < 9223372036854775808 ∨ (decide (v < 0) = true ∧ v.natAbs = 9223372036854775808) := by
    by_cases h : v < 0
    · simp [h]; omega
    · simp [h]; omega
  rw [if_pos ⟨txt_itoa v, hr⟩]
  unfold sgn
  by_cases h : v < 0
  · simp [h]; omega
  · simp [h]; omega
theorem nu_is (l : List UInt8) (v : Int) (h : nuZ l = some v) : l = Lib.itoa v ∧ -9223372036854775808 ≤ v ∧ v ≤ 9223372036854775807 := by
  unfold nuZ at h
  by_cases h1 : 20 < l.length
  · rw [if_pos h1] at h; cases h
  · rw [if_neg h1] at h
    by_cases h2 : sbody l = []
    · rw [if_pos h2] at h; cases h
    · rw [if_neg h2] at h
      cases hd : dig (sbody l) 0 with
      | none => rw [hd] at h; cases h
      | some x =>
        rw [hd] at h
        simp only at h
        unfold nuG at h
        generalize hg : (sneg l && decide (x ≠ 0)) = neg at h
        have hx0 : neg = true → x ≠ 0 := by
          intro hn
          rw [hn] at hg
          simp at hg
          exact hg.2
        by_cases hc : txt neg x = l ∧ (x < 9223372036854775808 ∨ (neg = true ∧ x = 9223372036854775808))
        · rw [if_pos hc] at h
          simp at h
          subst h
          rw [← hc.1, ← txt_itoa]
          cases neg with
          | true =>
            have := hx0 rfl
            have e1 : decide (sgn true x < 0) = true := by simp [sgn]; omega
            have e2 : (sgn true x).natAbs = x := by simp [sgn]
            rw [e1, e2]
            refine ⟨rfl, ?_, ?_⟩
            · have := hc.2; simp [sgn] at *; omega
            · unfold sgn; simp only [if_true]; omega
          | false =>
            have e1 : decide (sgn false x < 0) = false := by simp [sgn]
            have e2 : (sgn false x).natAbs = x := by simp [sgn]
            rw [e1, e2]
            refine ⟨rfl, ?_, ?_⟩
            · unfold sgn; simp only [Bool.false_eq_true, if_false]; omega
            · have := hc.2; simp [sgn] at *; omega
        · rw [if_neg hc] at h; cases h
theorem ri_nu (l : List UInt8) : riZ l = match nuZ l with | some v => (1, v, 0) | none => (0, 0, 3) := by
  cases h : nuZ l with
  | some v =>
    obtain ⟨rfl, h0, h1⟩ := nu_is l v h
    unfold riZ
    rw [parse_itoa v h0 h1]
    simp
  | none =>
    unfold riZ
    cases hp : Lib.parseIntB 64 l with
    | ok v =>
      simp only
      by_cases hi : Lib.itoa v = l
      · obtain ⟨h0, h1⟩ := parse_bd l v hp
        rw [← hi, nu_itoa v h0 h1] at h
        cases h
      · rw [if_neg hi]
    | _ => rfl

/-- what duetref.ReadValue tells: sort, number, text, error -/
def rfZ (l : List UInt8) : Int × Int × List UInt8 × Int :=
  if l = tru then (2, 1, [], 0)
  else if l = fls then (2, 0, [], 0)
  else if (quZ l).1 = (l.length : Int) ∧ 0 < (quZ l).1 then
    if 100 < (quZ l).2.length then (0, 0, [], 2) else (3, 0, (quZ l).2, 0)
  else match nuZ l with
    | some v => (1, v, [], 0)
    | none => (0, 0, [], 3)

theorem quo_rt (t : List UInt8) (h : Lib.validD t = true) : rtZ (quo t) = if 100 < t.length then (0, [], 2) else (3, t, 0) := by
  have hl : (quo t).length = (esc t).length + 2 := by unfold quo; simp
  have hlast : (quo t).getD ((quo t).length - 1) 0 = 34 := by
    rw [hl]
    unfold quo
    rw [show (esc t).length + 2 - 1 = (esc t).length + 1 by omega, List.getD_cons_succ, List.getD_eq_getElem?_getD, List.getElem?_append_right (Nat.le_refl _)]
    simp
  rw [rt_go _ (by omega) hlast (by rw [valid_quo]; exact h)]
  have : ((quo t).drop 1).take ((quo t).length - 2) = esc t := by
    rw [hl]
    unfold quo
    simp
  rw [this, unq_esc]

theorem hp_of (l : List UInt8) (h : Lib.hasPrefix l [34] = true) : ∃ r, l = 34 :: r := by
  match l, h with
  | [], h => simp [Lib.hasPrefix] at h
  | c :: r, h => simp [Lib.hasPrefix] at h; exact ⟨r, by rw [← h]⟩
theorem hp_34 (r : List UInt8) : Lib.hasPrefix (34 :: r) [34] = true := by simp [Lib.hasPrefix]

theorem rd_rf (l : List UInt8) : rdZ l = rfZ l := by
  unfold rdZ rfZ
  by_cases h1 : l = tru
  · rw [if_pos h1, if_pos h1]
  · rw [if_neg h1, if_neg h1]
    by_cases h2 : l = fls
    · rw [if_pos h2, if_pos h2]
    · rw [if_neg h2, if_neg h2]
      by_cases hq : (quZ l).1 = (l.length : Int) ∧ 0 < (quZ l).1
      · obtain ⟨e, hv⟩ := qu_is l (quZ l).2 (quZ l).1 rfl hq.1 hq.2
        rw [if_pos hq]
        generalize (quZ l).2 = t at *
        subst e
        rw [if_pos (show Lib.hasPrefix (quo t) [34] = true from hp_34 _), quo_rt t hv]
        by_cases hb : 100 < t.length
        · rw [if_pos hb, if_pos hb]
        · rw [if_neg hb, if_neg hb]
      · rw [if_neg hq]
        by_cases h3 : Lib.hasPrefix l [34] = true
        · rw [if_pos h3]
          obtain ⟨r, hr⟩ := hp_of l h3
          have hnu : nuZ l = none := by
            cases hn : nuZ l with
            | none => rfl
            | some v =>
              obtain ⟨c, r', e, hc⟩ := itoa_head v
              have := (nu_is l v hn).1
              rw [hr, e] at this
              have := (List.cons.inj this).1
              subst this
              exact absurd hc (by decide)
          rw [hnu]
          simp only
          have hrt : rtZ l = (0, [], 3) := by
            by_cases hs : l.length < 2
            · exact rt_short l hs
            · by_cases hl : l.getD (l.length - 1) 0 = 34
              · by_cases hv : Lib.validD l = true
                · rw [rt_go l hs hl hv]
                  cases hu : unq ((l.drop 1).take (l.length - 2)) with
                  | none => rfl
                  | some t =>
                    exfalso
                    have hp := quo_parts l hs hl h3
                    rw [esc_of_unq _ _ hu] at hp
                    have hp : l = quo t := hp
                    subst hp
                    rw [valid_quo] at hv
                    rw [qu_whole t hv] at hq
                    exact hq ⟨rfl, by simp only [quo, List.length_cons]; omega⟩
                · exact rt_utf l (by simpa using hv)
              · exact rt_last l hl
          rw [hrt]
        · rw [if_neg h3, ri_nu]
          cases nuZ l <;> rfl
end Go.Proofs.YtbhgcfoplpjfjaaDoor
