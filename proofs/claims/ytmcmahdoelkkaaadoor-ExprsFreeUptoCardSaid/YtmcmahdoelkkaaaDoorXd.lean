/-
  The contracts of exprs.isLetter, leading (of letters) and IsName, each for every input.
-/
import Derived.Test.YtmcmahdoelkkaaaDoorXc
import Derived.Test.YtmcmahdoelkkaaaDoorXa
namespace Go.Proofs.YtmcmahdoelkkaaaDoor
open Go.RowKit

set_option maxHeartbeats 400000 in
theorem isLetter_any (c : UInt8) (w : World) :
    Calls Tryd.prog 89 #[.int .u8 (c.toNat : Int)] w fun e w' => e = .returned (.bool (isLow c)) ∧ w' = w := by
  have h5 : (c.toNat : Int) ≤ 255 := by have := c.toNat_lt; omega
  by_cases h1 : 97 ≤ c.toNat
  · have z1 : (97 : Int) ≤ (c.toNat : Int) := by omega
    by_cases h2 : c.toNat ≤ 122
    · have z2 : (c.toNat : Int) ≤ 122 := by omega
      have e : isLow c = true := by simp [isLow, h1, h2]
      rw [e]
      go_enter Tryd.func89, Tryd.ntmps89
      go_wp2
      go_ret
      exact ⟨rfl, rfl⟩
    · have z2 : ¬ (c.toNat : Int) ≤ 122 := by omega
      have e : isLow c = false := by simp [isLow]; omega
      rw [e]
      go_enter Tryd.func89, Tryd.ntmps89
      go_wp2
      go_ret
      exact ⟨by simp, rfl⟩
  · have z1 : ¬ (97 : Int) ≤ (c.toNat : Int) := by omega
    have e : isLow c = false := by simp [isLow]; omega
    rw [e]
    go_enter Tryd.func89, Tryd.ntmps89
    go_wp2
    go_ret
    exact ⟨by simp, rfl⟩

/-- how many such bytes stand first -/
def lead (p : UInt8 → Bool) : List UInt8 → Nat
  | [] => 0
  | c :: l => if p c then lead p l + 1 else 0
theorem lead_le (p : UInt8 → Bool) : ∀ l, lead p l ≤ l.length
  | [] => Nat.le_refl _
  | c :: l => by unfold lead; split <;> simp; exact lead_le p l
theorem lead_at (p : UInt8 → Bool) : ∀ (l : List UInt8) (k : Nat) (h : k < l.length), (∀ i (hi : i < k), p l[i] = true) → p l[k] = false → lead p l = k
  | c :: l, 0, _, _, h => by unfold lead; rw [if_neg (by simpa using h)]
  | c :: l, k + 1, hk, ha, h => by
    unfold lead
    rw [if_pos (show p c = true from ha 0 (by omega)), lead_at p l k (by simpa using hk) (fun i hi => by simpa using ha (i + 1) (by omega)) (by simpa using h)]
theorem lead_all (p : UInt8 → Bool) : ∀ (l : List UInt8), (∀ i (hi : i < l.length), p l[i] = true) → lead p l = l.length
  | [], _ => rfl
  | c :: l, ha => by
    unfold lead
    rw [if_pos (show p c = true from ha 0 (by simp)), lead_all p l (fun i hi => ha (i + 1) (by simpa using hi))]; rfl
theorem lead_iff (p : UInt8 → Bool) : ∀ (l : List UInt8), lead p l = l.length ↔ l.all p = true
  | [] => by simp [lead]
  | c :: l => by
    have := lead_iff p l
    unfold lead
    cases hp : p c
    · simp [hp]
    · simp [hp, ← this]

set_option maxHeartbeats 400000 in
theorem leading_letters (s : ByteArray) (w : World) (hs : s.size ≤ 9223372036854775807) :
    Calls Tryd.prog 88 #[.string s, .func (.func 89) #[] #[]] w fun e w' => e = .returned (.string (s.extract 0 (lead isLow s.data.toList))) ∧ w' = w := by
  go_enter Tryd.func88, Tryd.ntmps88
  go_wp2_with fail
  go_loop [8] (fun i => ∃ k : Nat, k ≤ s.size ∧ i = .int .i64 k ∧ ∀ j (hj : j < k) (hs : j < s.data.toList.length), isLow s.data.toList[j] = true) (fun i => s.size - (intOf i).toNat)
  case atStart => exact ⟨0, Nat.zero_le _, rfl, fun j hj => by omega⟩
  case round =>
    obtain ⟨k, hk, rfl, hall⟩ := hrel
    have HA : Hid (∀ j (hj : j < k) (hs : j < s.data.toList.length), isLow s.data.toList[j] = true) := hall
    clear hall
    by_cases hlt : k < s.size
    · have hltz : (k : Int) < (s.size : Int) := by omega
      have cL := isLetter_any s[k]
      have hk' : k < s.data.toList.length := by simpa using hlt
      have eb : s[k] = s.data.toList[k] := rfl
      cases hb : isLow s[k]
      · rw [hb] at cL
        have hfin : lead isLow s.data.toList = k := lead_at _ _ k hk' (fun i hi => HA.out i hi (by omega)) (by rw [← eb]; exact hb)
        have HF : Hid (lead isLow s.data.toList = k) := hfin
        clear hfin HA hb eb
        go_wp2_with fail
        refine (cL _).mono ?_
        rintro e w1 ⟨rfl, rfl⟩
        go_wp2_with fail
        go_ret
        exact ⟨by rw [HF.out]; rfl, rfl⟩
      · rw [hb] at cL
        have HB : Hid (isLow s.data.toList[k] = true) := by rw [← eb]; exact hb
        clear hb eb
        go_wp2_with fail
        refine (cL _).mono ?_
        rintro e w1 ⟨rfl, rfl⟩
        go_wp2_with fail
        go_round
        case rel =>
          refine ⟨k + 1, by omega, by go_num, fun j hj hjs => ?_⟩
          rcases Nat.lt_succ_iff_lt_or_eq.1 hj with h | rfl
          · exact HA.out j h hjs
          · exact HB.out
        case measure => simp [intOf]; omega
    · have hltz : ¬ (k : Int) < (s.size : Int) := by omega
      have hks : k = s.size := by omega
      have hfin : lead isLow s.data.toList = s.size := (lead_all _ _ (fun i hi => HA.out i (by simp at hi; omega) hi)).trans (by simp)
      have hx : s.extract 0 s.size = s := ByteArray.extract_zero_size
      have HF : Hid (s.extract 0 (lead isLow s.data.toList) = s) := by rw [hfin]; exact hx
      clear hfin hx HA hks
      go_wp2_with fail
      go_ret
      exact ⟨by rw [HF.out]; rfl, rfl⟩

theorem isNm_no (l : List UInt8) (h : l = [116, 114, 117, 101] ∨ l = [102, 97, 108, 115, 101] ∨ l = [97, 110, 100] ∨ l = [111, 114] ∨ l = [110, 111, 116]) : isNm l = false := by unfold isNm; rw [if_pos h]
theorem isNm_yes (l : List UInt8) (h : ¬ (l = [116, 114, 117, 101] ∨ l = [102, 97, 108, 115, 101] ∨ l = [97, 110, 100] ∨ l = [111, 114] ∨ l = [110, 111, 116])) : isNm l = (decide (1 ≤ l.length ∧ l.length ≤ 8) && l.all isLow) := by unfold isNm; rw [if_neg h]
set_option maxHeartbeats 400000 in
theorem isName_any (s : ByteArray) (w : World) (hs : s.size ≤ 9223372036854775807) :
    Calls Tryd.prog 70 #[.string s] w fun e w' => e = .returned (.bool (isNm s.data.toList)) ∧ w' = w := by
  have hlen : s.data.toList.length = s.size := by simp
  by_cases hkw : s.data.toList = [116, 114, 117, 101] ∨ s.data.toList = [102, 97, 108, 115, 101] ∨ s.data.toList = [97, 110, 100] ∨ s.data.toList = [111, 114] ∨ s.data.toList = [110, 111, 116]
  · rw [isNm_no _ hkw]
    clear hlen
    have e : ∀ l, s.data.toList = l → s = ⟨l.toArray⟩ := fun l h => ByteArray.ext (Array.toList_inj.1 (by simpa using h))
    rcases hkw with h | h | h | h | h
    all_goals
      have := e _ h
      subst this
      clear h e hs
      go_enter Tryd.func70, Tryd.ntmps70
      go_wp2_with fail
      go_ret
      exact ⟨rfl, rfl⟩
  · rw [isNm_yes _ hkw, hlen]
    have b1 : (s.toList == [116, 114, 117, 101]) = false := by rw [beqL]; simp; exact fun h => hkw (.inl h)
    have b2 : (s.toList == [102, 97, 108, 115, 101]) = false := by rw [beqL]; simp; exact fun h => hkw (.inr (.inl h))
    have b3 : (s.toList == [97, 110, 100]) = false := by rw [beqL]; simp; exact fun h => hkw (.inr (.inr (.inl h)))
    have b4 : (s.toList == [111, 114]) = false := by rw [beqL]; simp; exact fun h => hkw (.inr (.inr (.inr (.inl h))))
    have b5 : (s.toList == [110, 111, 116]) = false := by rw [beqL]; simp; exact fun h => hkw (.inr (.inr (.inr (.inr h))))
    clear hkw
    by_cases h1 : 1 ≤ s.size
    · by_cases h2 : s.size ≤ 8
      · have z1 : (1 : Int) ≤ (s.size : Int) := by omega
        have z2 : (s.size : Int) ≤ 8 := by omega
        have cL := leading_letters s w hs
        have hle := lead_le isLow s.data.toList
        have hiff := lead_iff isLow s.data.toList
        rw [hlen] at hle hiff
        generalize s.data.toList.all isLow = g at hiff ⊢
        generalize lead isLow s.data.toList = k at cL hle hiff
        have ht : (s.extract 0 k).size = k := by simp; omega
        generalize s.extract 0 k = t at cL ht
        have HT : Hid (t.size = k) := ht
        have HI : Hid (k = s.size ↔ g = true) := hiff
        have htz : (t.size : Int) ≤ 8 := by omega
        clear ht hiff hlen
        rw [show (decide (1 ≤ s.size ∧ s.size ≤ 8) && g) = g by simp [h1, h2]]
        go_enter Tryd.func70, Tryd.ntmps70
        go_wp2_with (go_at_call 88; refine cL.mono ?_; rintro e w1 ⟨rfl, rfl⟩)
        go_ret
        refine ⟨?_, rfl⟩
        have e1 := HT.out
        have e2 := HI.out
        show Ending.returned (Value.bool ((t.size : Int) == (s.size : Int))) = _
        rw [e1, show ((k : Int) == (s.size : Int)) = g by rw [Bool.eq_iff_iff, ← e2]; simp; omega]
      · have z1 : (1 : Int) ≤ (s.size : Int) := by omega
        have z2 : ¬ (s.size : Int) ≤ 8 := by omega
        rw [show (decide (1 ≤ s.size ∧ s.size ≤ 8) && s.data.toList.all isLow) = false by simp [h2]]
        clear hlen
        go_enter Tryd.func70, Tryd.ntmps70
        go_wp2_with fail
        go_ret
        exact ⟨rfl, rfl⟩
    · have z1 : ¬ (1 : Int) ≤ (s.size : Int) := by omega
      rw [show (decide (1 ≤ s.size ∧ s.size ≤ 8) && s.data.toList.all isLow) = false by simp [h1]]
      clear hlen
      go_enter Tryd.func70, Tryd.ntmps70
      go_wp2_with fail
      go_ret
      exact ⟨rfl, rfl⟩
end Go.Proofs.YtmcmahdoelkkaaaDoor
