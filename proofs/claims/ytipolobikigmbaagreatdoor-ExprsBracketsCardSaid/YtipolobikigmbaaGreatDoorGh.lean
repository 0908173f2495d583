/-
  What values.Read makes of a piece, held against how far a piece goes: a text without its mark is none; what is written of a value is read as it, in whatever stands behind it.
-/
import Derived.Test.YtipolobikigmbaaGreatDoorUn
import Derived.Test.YtipolobikigmbaaGreatDoorGf
namespace Go.Proofs.YtipolobikigmbaaGreatDoor
open Go.RowKit Go.Shelf
/-- the mark behind what can be unquoted is the one that ends -/
theorem unq_mark (m : List UInt8) : ∀ (n : Nat) (b t : List UInt8), b.length ≤ n → unq b = some t → quE (b ++ 34 :: m) = true ∧ qlen (b ++ 34 :: m) = b.length + 1
  | _, [], t, _, _ => by cases m <;> simp [quE, qlen]
  | 0, c :: r, t, hn, _ => by simp at hn
  | n + 1, c :: r, t, hn, h => by
    have hn' : r.length ≤ n := by simpa using hn
    by_cases h34 : c = 34 ∨ c = 10
    · rw [unq_end c r h34] at h; cases h
    · have h1 : c ≠ 34 := fun h => h34 (.inl h)
      have h2 : c ≠ 10 := fun h => h34 (.inr h)
      by_cases h92 : c = 92
      · subst h92
        cases r with
        | nil => rw [unq_esc1] at h; cases h
        | cons d r =>
          rw [unq_esc2] at h
          cases hu : unesc d with
          | none => rw [hu] at h; cases h
          | some x =>
            rw [hu] at h
            simp only at h
            cases hr : unq r with
            | none => rw [hr] at h; cases h
            | some t' =>
              obtain ⟨i1, i2⟩ := unq_mark m n r t' (by simp at hn'; omega) hr
              simp only [List.cons_append, List.length_cons]
              unfold quE qlen
              rw [if_neg (by decide), if_pos rfl, if_neg (by decide), if_pos rfl]
              exact ⟨i1, by omega⟩
      · rw [unq_plain c r h1 h2 h92] at h
        cases hr : unq r with
        | none => rw [hr] at h; cases h
        | some t' =>
          obtain ⟨i1, i2⟩ := unq_mark m n r t' hn' hr
          cases r with
          | nil =>
            simp only [List.cons_append, List.nil_append, List.length_cons, List.length_nil] at i1 i2 ⊢
            unfold quE qlen
            rw [if_neg h1, if_neg h92, if_neg h1, if_neg h92]
            exact ⟨i1, by omega⟩
          | cons d r =>
            simp only [List.cons_append, List.length_cons] at i1 i2 ⊢
            unfold quE qlen
            rw [if_neg h1, if_neg h92, if_neg h1, if_neg h92]
            exact ⟨i1, by omega⟩
theorem qlen_all : ∀ l, quE l = false → qlen l = l.length
  | [], _ => rfl
  | [_], _ => rfl
  | c :: d :: l, h => by
    unfold quE at h
    unfold qlen
    have i1 := qlen_all l
    have i2 := qlen_all (d :: l)
    split
    · rename_i h1; rw [if_pos h1] at h; cases h
    · rename_i h1; rw [if_neg h1] at h
      split
      · rename_i h2; rw [if_pos h2] at h; rw [i1 h]; simp; omega
      · rename_i h2; rw [if_neg h2] at h; rw [i2 h]; simp; omega
theorem rdZ_mark : ZQ rdZ := by
  intro l hl hz
  cases hq : quE (l.drop 1) with
  | true => rfl
  | false =>
    exfalso
    have h1 := head_pos l 34 hl
    have ha : quAh l = l := by
      unfold quAh; rw [qlen_all _ hq, List.length_drop, show 1 + (l.length - 1) = l.length by omega, List.take_length]
    rw [ha] at hz
    have hpre : Lib.hasPrefix l [34] = true := by
      cases l with
      | nil => simp at h1
      | cons c l => simp at hl; subst hl; simp [Lib.hasPrefix]
    have n1 : l ≠ tru := by rintro rfl; revert hpre; decide
    have n2 : l ≠ fls := by rintro rfl; revert hpre; decide
    unfold rdZ at hz
    rw [if_neg n1, if_neg n2, if_pos hpre] at hz
    simp only at hz
    by_cases q1 : l.length < 2
    · rw [rt_short l q1] at hz; simp at hz
    · by_cases q2 : l.getD (l.length - 1) 0 = 34
      · cases q3 : Lib.validD l with
        | false => rw [rt_utf l q3] at hz; simp at hz
        | true =>
          rw [rt_go l q1 q2 q3] at hz
          have hp := quo_parts l q1 q2 hpre
          cases hu : unq ((l.drop 1).take (l.length - 2)) with
          | none => rw [hu] at hz; simp at hz
          | some t =>
            have := (unq_mark [] _ _ t (Nat.le_refl _) hu).1
            have hd : l.drop 1 = (l.drop 1).take (l.length - 2) ++ 34 :: [] := congrArg (List.drop 1) hp
            rw [← hd, hq] at this; cases this
      · rw [rt_last l q2] at hz; simp at hz
theorem dig_ofNat (k : Nat) (h : k < 10) : isDig (UInt8.ofNat (48 + k)) = true := by
  have : ∀ k : Fin 10, isDig (UInt8.ofNat (48 + k.val)) = true := by decide
  exact this ⟨k, h⟩
theorem dec_dig : ∀ (n u : Nat), u ≤ n → (Lib.decDigits u).all isDig = true ∧ 1 ≤ (Lib.decDigits u).length
  | 0, u, h => by
    have : u = 0 := by omega
    subst this
    rw [Lib.decDigits, dif_pos (by omega)]; simp; decide
  | n + 1, u, h => by
    rw [Lib.decDigits]
    split
    · rename_i hu
      simp only [List.all_cons, List.all_nil, Bool.and_true, List.length_cons, List.length_nil]
      exact ⟨dig_ofNat u hu, by omega⟩
    · have ih := dec_dig n (u / 10) (by omega)
      rw [List.all_append, ih.1, List.length_append]
      simp only [List.all_cons, List.all_nil, Bool.and_true, Bool.true_and, List.length_cons, List.length_nil]
      exact ⟨dig_ofNat _ (by omega), by omega⟩
theorem lead_run (p : UInt8 → Bool) (r : List UInt8) (hr : ∀ c, r.head? = some c → p c = false) : ∀ w : List UInt8, w.all p = true → lead p (w ++ r) = w.length
  | [], _ => by
    cases r with
    | nil => rfl
    | cons c r => simp [lead, hr c rfl]
  | c :: w, h => by
    simp at h
    rw [List.cons_append]
    unfold lead
    rw [h.1, lead_run p r hr w (by simp; exact h.2)]
    simp
theorem nx_dig (r : List UInt8) (h : nx r) : ∀ c, r.head? = some c → isDig c = false := by
  intro c hc
  rcases h with rfl | h | h
  · simp at hc
  · rw [h] at hc; injection hc with hc; subst hc; decide
  · rw [h] at hc; injection hc with hc; subst hc; decide
theorem dig_not (c : UInt8) (h : isDig c = true) : c ≠ 45 ∧ c ≠ 40 ∧ c ≠ 35 ∧ c ≠ 34 ∧ c ≠ 32 := by
  refine ⟨?_, ?_, ?_, ?_, ?_⟩ <;> (rintro rfl; revert h; decide)
theorem num_at (n : Int) (r : List UInt8) (hr : nx r) : numAh (Lib.itoa n ++ r) = Lib.itoa n ∧ Lib.itoa n ≠ [] ∧ ∃ c l, Lib.itoa n = c :: l ∧ c ≠ 40 ∧ c ≠ 35 ∧ c ≠ 34 ∧ c ≠ 32 := by
  unfold Lib.itoa
  split
  · obtain ⟨h1, h2⟩ := dec_dig _ n.natAbs (Nat.le_refl _)
    have hl := lead_run isDig r (nx_dig r hr) _ h1
    refine ⟨?_, by simp, 45, _, rfl, by decide, by decide, by decide, by decide⟩
    unfold numAh
    have hs : sg1 (45 :: Lib.decDigits n.natAbs ++ r) = 1 := by unfold sg1; simp
    rw [hs, List.cons_append, List.drop_succ_cons, List.drop_zero, hl, if_neg (by omega), show 1 + (Lib.decDigits n.natAbs).length = (Lib.decDigits n.natAbs).length + 1 by omega, List.take_succ_cons, List.take_left]
  · obtain ⟨h1, h2⟩ := dec_dig _ n.toNat (Nat.le_refl _)
    have hl := lead_run isDig r (nx_dig r hr) _ h1
    generalize Lib.decDigits n.toNat = w at *
    cases w with
    | nil => simp at h2
    | cons c w =>
      have hc : isDig c = true := by simp at h1; exact h1.1
      obtain ⟨d1, d2, d3, d4, d5⟩ := dig_not c hc
      refine ⟨?_, by simp, c, w, rfl, d2, d3, d4, d5⟩
      have hs : sg1 (c :: w ++ r) = 0 := by unfold sg1; rw [if_neg (by simpa using d1)]
      unfold numAh
      rw [hs, List.drop_zero, hl, if_neg (by simp), Nat.zero_add, List.take_left]
theorem rdVal_of (p r : List UInt8) (so n : Int) (s : ByteArray) (h : rdZ p = (so, n, s.data.toList, 0)) : rdVal rdZ (p ++ r) p = .ok (⟨1, ⟨#[]⟩, so, n, s, []⟩, skB r) := by
  unfold rdVal
  rw [h, if_pos rfl, List.drop_left, bs_back]
theorem rdZ_lit : ZL rdZ := by
  intro so n s h h0 h1 r hr
  have hz := wr_ok so n s h0 h1 h
  refine ⟨1, ?_⟩
  rw [rdX]
  rcases chk_sorts vD so n s h with rfl | rfl | rfl
  · have hw : wtL 1 n s = Lib.itoa n := rfl
    rw [hw] at hz ⊢
    obtain ⟨a1, a2, c, l, a3, a4, a5, a6, a7⟩ := num_at n r hr
    have hs : skB (Lib.itoa n ++ r) = Lib.itoa n ++ r := by rw [a3, List.cons_append, skB_cons c _ a7]
    have hh : (Lib.itoa n ++ r).head? = some c := by rw [a3]; rfl
    rw [hs]
    unfold rdOp
    rw [hh, if_neg (by simpa using a4), if_neg (by simpa using a5), if_neg (by simpa using a6), a1, if_pos a2]
    exact rdVal_of _ r 1 n s hz
  · have hb : ∃ w, wtL 2 n s = w ∧ (w = tru ∨ w = fls) := by
      refine ⟨_, rfl, ?_⟩
      show Lib.formatBool (n == 1) = tru ∨ Lib.formatBool (n == 1) = fls
      cases (n == 1)
      · exact .inr fb_false
      · exact .inl fb_true
    obtain ⟨w, hw, hb⟩ := hb
    rw [hw] at hz ⊢
    have hl : w.all isLow = true := by rcases hb with rfl | rfl <;> decide
    have hn : 1 ≤ w.length := by rcases hb with rfl | rfl <;> decide
    obtain ⟨h2, h3⟩ := word_at w r hl hn (nx_low r hr)
    rw [h2, rdOp_low rdZ _ _ _ _ hl hn]
    unfold rdWd
    rw [h3, if_pos (show w = [116, 114, 117, 101] ∨ w = [102, 97, 108, 115, 101] from hb)]
    exact rdVal_of _ r 2 n s hz
  · have hw : wtL 3 n s = quo s.data.toList := rfl
    rw [hw] at hz ⊢
    have hm := unq_mark r _ (esc s.data.toList) _ (Nat.le_refl _) (unq_esc _)
    have hq : quo s.data.toList ++ r = 34 :: (esc s.data.toList ++ 34 :: r) := by simp [quo]
    have hs : skB (quo s.data.toList ++ r) = quo s.data.toList ++ r := by rw [hq, skB_cons 34 _ (by decide)]
    have ha : quAh (quo s.data.toList ++ r) = quo s.data.toList := by
      unfold quAh
      rw [show (quo s.data.toList ++ r).drop 1 = esc s.data.toList ++ 34 :: r by rw [hq]; rfl, hm.2, show 1 + ((esc s.data.toList).length + 1) = (quo s.data.toList).length by simp [quo]; omega, List.take_left]
    have hh : (quo s.data.toList ++ r).head? = some 34 := by rw [hq]; rfl
    rw [hs]
    unfold rdOp
    rw [hh, if_neg (by decide), if_neg (by decide), if_pos rfl, ha]
    exact rdVal_of _ r 3 n s hz
end Go.Proofs.YtipolobikigmbaaGreatDoor
