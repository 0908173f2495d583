/-
  The contracts of duetref.small, IsName, levels and Level, for every text.
-/
import Derived.Test.YtpamhimmdoimoaaGreatDoorKc
import Derived.Test.YtpamhimmdoimoaaGreatDoorLid
import Derived.Test.YtpamhimmdoimoaaGreatDoorKa
namespace Go.Proofs.YtpamhimmdoimoaaGreatDoor
open Go.RowKit Go.Shelf Go.Sort
def smZ (l : List UInt8) : Bool := decide (1 ≤ l.length ∧ l.length ≤ 8) && l.all isLow
theorem Hid.mk'' {p : Prop} (h : p) : Hid p := h
theorem isNm_eq (l : List UInt8) : isNm l = (smZ l && !decide (l ∈ [[116, 114, 117, 101], [102, 97, 108, 115, 101], [97, 110, 100], [111, 114], [110, 111, 116]])) := by
 unfold isNm smZ;by_cases h : l = [116, 114, 117, 101] ∨ l = [102, 97, 108, 115, 101] ∨ l = [97, 110, 100] ∨ l = [111, 114] ∨ l = [110, 111, 116]
 ·rw [if_pos h]
  have : decide (l ∈ [[116, 114, 117, 101], [102, 97, 108, 115, 101], [97, 110, 100], [111, 114], [110, 111, 116]]) = true := by simpa using h
  rw [this]; simp
 ·rw [if_neg h]
  have : decide (l ∈ [[116, 114, 117, 101], [102, 97, 108, 115, 101], [97, 110, 100], [111, 114], [110, 111, 116]]) = false := by simpa using h
  rw [this]; simp
set_option maxHeartbeats 1000000 in
theorem small_any (s : ByteArray) (w : World) (hs : s.size ≤ 9223372036854775807) :
  Calls Tryz.prog 81 #[.string s] w fun e w' => e = .returned (.bool (smZ s.data.toList)) ∧ w' = w := by
 have hsz : s.data.toList.length = s.size := by simp
 have hsi : (s.size : Int) ≤ 9223372036854775807 := by omega
 go_enter Tryz.func81, Tryz.ntmps81
 go_wp2_with fail
 go_loopw [3] (fun i wr => ∃ k : Nat, k ≤ s.size ∧ i = .int .i64 (k : Int) ∧ (∀ j (h : j < s.data.toList.length), j < k → isLow s.data.toList[j] = true) ∧ wr = w) (fun i _ => s.size - (intOf i).toNat)
 case atStart => exact ⟨0, Nat.zero_le _, rfl, fun j h hj => absurd hj (Nat.not_lt_zero j), rfl⟩
 case round =>
  obtain ⟨k, hk, rfl, hA, rfl⟩ := hrel;by_cases hlt : k < s.size
  ·have hltz : (k : Int) < (s.size : Int) := by omega
   have hk' : k < s.data.toList.length := by omega
   have eb : s[k] = s.data.toList[k] := rfl;have h255 : (s[k].toNat : Int) ≤ 255 := by have := s[k].toNat_lt; omega
   have hno : isLow s[k] = false → smZ s.data.toList = false := fun h => by
    unfold smZ;rw [Bool.and_eq_false_iff];right
    rw [Bool.eq_false_iff];intro ha;have := List.all_eq_true.1 ha s.data.toList[k] (List.getElem_mem hk');rw [← eb, h] at this; cases this
   by_cases h1 : 97 ≤ s[k].toNat
   ·have z1 : ¬ (s[k].toNat : Int) < 97 := by omega
    by_cases h2 : s[k].toNat ≤ 122
    ·have z2 : ¬ (122 : Int) < (s[k].toNat : Int) := by omega
     have hb : isLow s[k] = true := by simp [isLow, h1, h2]
     have HA : Hid (∀ j (h : j < s.data.toList.length), j < k + 1 → isLow s.data.toList[j] = true) := fun j h hj => by
      rcases Nat.lt_succ_iff_lt_or_eq.1 hj with h' | rfl
      ·exact hA j h h'
      ·rw [← eb]; exact hb
     clear hA hb eb hno h1 h2;go_wp2_with fail
     go_roundw
     case rel => exact ⟨k + 1, by omega, by go_num, HA.out, by simp⟩
     case measure => simp [intOf]; omega
    ·have z2 : (122 : Int) < (s[k].toNat : Int) := by omega
     have HN := Hid.mk'' (hno (by simp [isLow]; omega))
     clear hA eb hno h1 h2;go_wp2_with fail
     go_ret
     exact ⟨by first | (rw [HN.out]; done) | (rw [HN.out]; rfl), rfl⟩
   ·have z1 : (s[k].toNat : Int) < 97 := by omega
    have HN := Hid.mk'' (hno (by simp [isLow]; omega))
    clear hA eb hno h1;go_wp2_with fail
    go_ret
    exact ⟨by first | (rw [HN.out]; done) | (rw [HN.out]; rfl), rfl⟩
  ·have hltz : ¬ (k : Int) < (s.size : Int) := by omega
   have hall : s.data.toList.all isLow = true := List.all_eq_true.2 fun c hc => by
    obtain ⟨j, hj, rfl⟩ := List.mem_iff_getElem.1 hc;exact hA j hj (by omega)
   have hsm : smZ s.data.toList = decide (1 ≤ s.size ∧ s.size ≤ 8) := by unfold smZ; rw [hall, hsz, Bool.and_true]
   have HS := Hid.mk'' hsm;clear hA hall hsm;by_cases h1 : 1 ≤ s.size
   ·have z1 : (1 : Int) ≤ (s.size : Int) := by omega
    by_cases h2 : s.size ≤ 8
    ·have z2 : (s.size : Int) ≤ 8 := by omega
     go_wp2_with fail
     go_ret
     exact ⟨by rw [HS.out]; simp [h1, h2], rfl⟩
    ·have z2 : ¬ (s.size : Int) ≤ 8 := by omega
     go_wp2_with fail
     go_ret
     exact ⟨by rw [HS.out]; simp [h1, h2], rfl⟩
   ·have z1 : ¬ (1 : Int) ≤ (s.size : Int) := by omega
    go_wp2_with fail
    go_ret
    exact ⟨by rw [HS.out]; simp [h1], rfl⟩
set_option maxRecDepth 100000 in
set_option maxHeartbeats 1000000 in
theorem refIsName_any (s : ByteArray) (w : World) (hs : s.size ≤ 9223372036854775807) :
  Calls Tryz.prog 63 #[.string s] w fun e w' => e = .returned (.bool (isNm s.data.toList)) ∧ Below w.heap.size w w' := by
 rw [isNm_eq];have c1 := small_any s w hs;have hO := World.ownsRow_lit (base := w.heap.size) (e := 9) (size := 1) w #[.string ⟨#[116, 114, 117, 101]⟩, .string ⟨#[102, 97, 108, 115, 101]⟩, .string ⟨#[97, 110, 100]⟩, .string ⟨#[111, 114]⟩, .string ⟨#[110, 111, 116]⟩] 5 (Nat.le_refl _) (by decide) rfl
 have c2 := containsS_any [[116, 114, 117, 101], [102, 97, 108, 115, 101], [97, 110, 100], [111, 114], [110, 111, 116]] s _ _ _ hO (by decide)
 generalize decide (s.data.toList ∈ [[116, 114, 117, 101], [102, 97, 108, 115, 101], [97, 110, 100], [111, 114], [110, 111, 116]]) = t at c2 ⊢;clear hO;cases h : smZ s.data.toList with
 | false =>
  rw [h] at c1;clear c2 h;go_enter Tryz.func63, Tryz.ntmps63
  go_wp2_with fail
  refine c1.mono ?_;rintro e w1 ⟨rfl, rfl⟩;go_wp2_with fail
  go_ret
  exact ⟨rfl, Below.refl _ _⟩
 | true =>
  rw [h] at c1;clear h;go_enter Tryz.func63, Tryz.ntmps63
  go_wp2_with fail
  refine c1.mono ?_;rintro e w1 ⟨rfl, rfl⟩;go_wp2_with fail
  refine c2.mono ?_;rintro e w2 ⟨rfl, hw2⟩;subst hw2;go_wp2_with fail
  go_ret
  exact ⟨by simp, (Below.refl _ _).alloc (Nat.le_refl _) _⟩
theorem own_keep0 {W W' : World} {base : Nat} {e : TypeId} {size : Nat} {v : Value} {n : Nat} {xs : List Value} (h : W.ownsRow base e size v n xs) (hb : Below W.heap.size W W') : W'.ownsRow base e size v n xs := by
 refine ⟨h.1, h.2.imp id ?_⟩;rintro ⟨g, cap, cur, h1, h2, h3, h4⟩;refine ⟨g, cap, cur, h1, h2, ?_, h4⟩;rw [hb.block g ?_]
 ·exact h3
 ·rcases Nat.lt_or_ge g W.heap.size with hlt | hge
  ·exact hlt
  ·rw [Array.getElem?_eq_none hge] at h3; cases h3
end Go.Proofs.YtpamhimmdoimoaaGreatDoor
