/-
  The contract of duetbig's Int.SetString at base 10, for every text of at most 20 bytes.
-/
import Derived.Test.YtbhgcfoplpjfjaaDoorBf
namespace Go.Proofs.YtbhgcfoplpjfjaaDoor
open Go.RowKit Go.Shelf

theorem NumAt.slot {W : World} {v : Value} {x : Nat} (h : NumAt W v x) : ∃ ao n c, v = .slice ao n c := by
  obtain ⟨ws, _, q⟩ := h
  obtain ⟨ao, c, e⟩ := q.slot
  exact ⟨ao, _, c, e⟩
theorem num_nil (W : World) : NumAt W (.slice none 0 0) 0 := ⟨[], ⟨by intro y hy; simp at hy, rfl, fun h => absurd rfl h⟩, .inl ⟨rfl, rfl⟩⟩
theorem mul10_20 (v vt : Value) (x : Nat) (w : World) (hx : x < 100000000000000000000) (h : NumAt w v x) (ht : NumAt w vt 10) :
    Calls Tryd.prog 76 #[v, vt] w fun e w' => ∃ v', e = .returned v' ∧ NumAt w' v' (10 * x) ∧ Below w.heap.size w w' :=
  mul10_any v vt x w (Nat.lt_trans hx (by decide)) h ht
theorem add_20 (v vt : Value) (x y : Nat) (w : World) (hx : x < 1000000000000000000000) (hy : y < 10) (h : NumAt w v x) (ht : NumAt w vt y) (hb : vt ≠ .slice none 0 0) :
    Calls Tryd.prog 75 #[v, vt] w fun e w' => ∃ v', e = .returned v' ∧ NumAt w' v' (x + y) ∧ Below w.heap.size w w' :=
  add_any v vt x y w (Nat.lt_trans hx (by decide)) (Nat.lt_trans hy (by decide)) h ht hb

/-- digits as a number -/
def dig : List UInt8 → Nat → Option Nat
  | [], a => some a
  | c :: r, a => if 48 ≤ c.toNat ∧ c.toNat ≤ 57 then dig r (10 * a + (c.toNat - 48)) else none
theorem dig_pos (c : UInt8) (r : List UInt8) (a : Nat) (h : 48 ≤ c.toNat ∧ c.toNat ≤ 57) : dig (c :: r) a = dig r (10 * a + (c.toNat - 48)) := by rw [dig, if_pos h]
theorem dig_neg (c : UInt8) (r : List UInt8) (a : Nat) (h : ¬ (48 ≤ c.toNat ∧ c.toNat ≤ 57)) : dig (c :: r) a = none := by rw [dig, if_neg h]

/-- what SetString tells of digits t, the sign being told -/
def SPost (zb : Nat) (neg : Bool) (t : List UInt8) (w : World) (e : Ending) (w' : World) : Prop :=
  (dig t 0 = none ∧ e = .returned (.tuple #[.pointer none, .bool false]) ∧ Below w.heap.size w w') ∨
  ∃ x, dig t 0 = some x ∧ e = .returned (.tuple #[.pointer (some ⟨zb, 0, none⟩), .bool true]) ∧ x < 100000000000000000000 ∧ IntAt w' zb (neg && decide (x ≠ 0)) x ∧ Below zb w w'

def sbody : List UInt8 → List UInt8
  | [] => []
  | c :: r => if c = 45 ∨ c = 43 then r else c :: r
def sneg : List UInt8 → Bool
  | [] => false
  | c :: _ => c == 45

set_option maxRecDepth 100000 in
set_option maxHeartbeats 2000000 in
theorem setString_any (zb : Nat) (s : ByteArray) (w : World) (b0 : Bool) (c1 : Value) (hs : s.size ≤ 20) (h0 : w.cell? ⟨zb, 0, none⟩ = some (.bool b0)) (h1 : w.cell? ⟨zb, 1, none⟩ = some c1) (f0 : w.frozen? ⟨zb, 0, none⟩ = false) (f1 : w.frozen? ⟨zb, 1, none⟩ = false) (hz : zb < w.heap.size) :
    Calls Tryd.prog 54 #[.pointer (some ⟨zb, 0, none⟩), .string s, .int .i64 10] w fun e w' => (sbody s.data.toList = [] ∧ e = .returned (.tuple #[.pointer none, .bool false]) ∧ w' = w) ∨ (sbody s.data.toList ≠ [] ∧ SPost zb (sneg s.data.toList) (sbody s.data.toList) w e w') := by
  by_cases hs0 : s.size = 0
  · have hl : s.data.toList = [] := List.eq_nil_of_length_eq_zero (by rw [← size_list]; exact hs0)
    rw [hl]
    have hsz : ((s.size : Int) == 0) = true := by rw [show (s.size : Int) = 0 by omega]; rfl
    have hsz2 : (s.size : Int) = 0 := by omega
    go_enter Tryd.func54, Tryd.ntmps54
    go_wp2
    go_ret2
    exact .inl ⟨rfl, rfl, rfl⟩
  · have hp : 0 < s.size := by omega
    have hpz : (s.size : Int) > 0 := by omega
    have hcons := drop_cons s 0 hp
    rw [List.drop_zero] at hcons
    by_cases h45 : s[0] = 45 ∨ s[0] = 43
    · have hsb : sbody s.data.toList = s.data.toList.drop 1 := by rw [hcons]; show (if s[0] = 45 ∨ s[0] = 43 then _ else _) = _; rw [if_pos h45]; rfl
      have hsn : sneg s.data.toList = (s[0] == 45) := by rw [hcons]; rfl
      have hex : (s.extract 1 s.size).data.toList = s.data.toList.drop 1 := by
        rw [ByteArray.data_extract, Array.toList_extract, List.extract_eq_take_drop, List.take_of_length_le]
        simp
      have hes : (s.extract 1 s.size).size = s.size - 1 := by rw [ByteArray.size_extract]; omega
      have hsz1 : (s.size : Int) ≥ 1 := by omega
      rw [hsb, hsn, ← hex]
      clear hsb hsn hex hcons
      generalize ht : s.extract 1 s.size = t at hes
      have HT : Hid (s.extract 1 s.size = t) := ht
      clear ht
      by_cases hm : s[0] = 45
      · have b45 : ((s[0].toNat : Int) == 45) = true := by rw [hm]; rfl
        rw [show (s[0] == 45) = true by rw [hm]; rfl]
        clear h45 hm
        by_cases ht0 : t.size = 0
        · have hl : t.data.toList = [] := List.eq_nil_of_length_eq_zero (by rw [← size_list]; exact ht0)
          rw [hl]
          have hsz : ((t.size : Int) == 0) = true := by rw [show (t.size : Int) = 0 by omega]; rfl
          clear hes
          go_enter Tryd.func54, Tryd.ntmps54
          go_wp2_with (rw [HT.out])
          go_wp2
          go_ret2
          exact .inl ⟨trivial, rfl, rfl⟩
        · have hne : t.data.toList ≠ [] := fun h => ht0 (by rw [size_list, h]; rfl)
          have hsz : ((t.size : Int) == 0) = false := by rw [beq_eq_false_iff_ne]; omega
          have ht20 : t.size ≤ 20 := by omega
          clear hes
          have key : Calls Tryd.prog 54 #[.pointer (some ⟨zb, 0, none⟩), .string s, .int .i64 10] w (SPost zb true t.data.toList w) := by
            go_enter Tryd.func54, Tryd.ntmps54
            go_wp2_with (rw [HT.out])

            go_wp2_with fail
            go_loopw [9, 10] (fun r i wr => ∃ (k x : Nat), k ≤ t.size ∧ i = .int .i64 (k : Int) ∧ dig t.data.toList 0 = dig (t.data.toList.drop k) x ∧ x < 10 ^ k ∧ NumAt wr r x ∧ Below w.heap.size w wr) (fun r i wr => t.size - (intOf i).toNat)
            case atStart => exact ⟨0, 0, Nat.zero_le _, rfl, by rw [List.drop_zero], by decide, num_nil w, Below.refl _ _⟩
            case round =>
              obtain ⟨k, x, hk, rfl, hdg, hxk, hnum, hbw⟩ := hrel
              have HD : Hid (dig t.data.toList 0 = dig (t.data.toList.drop k) x) := hdg
              have hx20 : x < 100000000000000000000 := Nat.lt_of_lt_of_le hxk (Nat.pow_le_pow_right (by omega) (by omega : k ≤ 20))
              clear hdg
              have hsz := hbw.size
              have hsr : ∃ ao n c, u9 = .slice ao n c := hnum.slot
              obtain ⟨ao9, n9, cap9, rfl⟩ := hsr
              by_cases hlt : k < t.size
              · have hkz : (k : Int) < (t.size : Int) := by omega
                have HDC : Hid (t.data.toList.drop k = t[k] :: t.data.toList.drop (k + 1)) := drop_cons t k hlt
                generalize hcc : t[k] = c at HDC
                have hcb : c.toNat < 256 := c.toNat_lt
                by_cases hdig : 48 ≤ c.toNat ∧ c.toNat ≤ 57
                · have hd1 : (c.toNat : Int) ≥ 48 := by omega
                  have hd2 : (c.toNat : Int) ≤ 57 := by omega
                  obtain ⟨d, hd⟩ : ∃ d, c.toNat = 48 + d := ⟨c.toNat - 48, by omega⟩
                  have HS : Hid (dig t.data.toList 0 = dig (t.data.toList.drop (k + 1)) (10 * x + d)) := by
                    show _ = _
                    rw [HD.out, HDC.out, dig_pos c _ _ hdig]
                    congr 1; omega
                  have hd9 : d ≤ 9 := by omega
                  have hd9z : (d : Int) ≤ 9 := by omega
                  have hxs : 10 * x + d < 10 ^ (k + 1) := by rw [Nat.pow_succ]; omega
                  rw [hd] at hd1 hd2
                  have ec : (c.toNat : Int) = 48 + (d : Int) := by omega
                  have HCC : Hid (t[k] = c) := hcc
                  clear hdig hd HD hxk
                  have CW10 : Hid (∀ W : World, Calls Tryd.prog 68 #[.int .u64 ((10 : Nat) : Int)] W fun e w' => ∃ v, e = .returned v ∧ BlkAt w' W.heap.size v 10 ∧ Below W.heap.size W w') := fun W => words_blk 10 W (by omega)
                  have CWd : Hid (∀ W : World, Calls Tryd.prog 68 #[.int .u64 (48 + (d : Int) - 48)] W fun e w' => ∃ v, e = .returned v ∧ BlkAt w' W.heap.size v d ∧ Below W.heap.size W w') := fun W => by
                    rw [show 48 + (d : Int) - 48 = (d : Int) by omega]; exact words_blk d W (by omega)
                  go_wp2_with (go_at_call 68; refine (CW10.out _).mono ?_)
                  rintro e w2 ⟨v2, rfl, hb2, hbw2⟩
                  obtain ⟨n2, cap2, rfl⟩ := hb2.slot
                  have CM := mul10_20 _ _ x w2 hx20 (hnum.keep hbw2) hb2.num
                  go_wp2_with (go_at_call 76; refine CM.mono ?_)
                  rintro e w3 ⟨v3, rfl, hn3, hbw3⟩
                  obtain ⟨ao3, n3, cap3, rfl⟩ := hn3.slot
                  go_wp2_with (go_at_call 68; refine (CWd.out _).mono ?_)
                  rintro e w4 ⟨v4, rfl, hb4, hbw4⟩
                  obtain ⟨n4, cap4, rfl⟩ := hb4.slot
                  have CA := add_20 _ _ (10 * x) d w4 (by omega) (by omega) (hn3.keep hbw4) hb4.num hb4.ne
                  go_wp2_with (go_at_call 75; refine CA.mono ?_)
                  rintro e w5 ⟨v5, rfl, hn5, hbw5⟩
                  obtain ⟨ao5, n5, cap5, rfl⟩ := hn5.slot
                  go_wp2
                  go_roundw
                  case rel => exact ⟨k + 1, 10 * x + d, by omega, by go_num, HS.out, hxs, hn5, hbw.trans ((hbw2.mono hsz).trans ((hbw3.mono (Nat.le_trans hsz hbw2.size)).trans ((hbw4.mono (Nat.le_trans hsz (Nat.le_trans hbw2.size hbw3.size))).trans (hbw5.mono (Nat.le_trans hsz (Nat.le_trans hbw2.size (Nat.le_trans hbw3.size hbw4.size)))))))⟩
                  case measure => simp [intOf]; omega
                · have HN : Hid (dig t.data.toList 0 = none) := by
                    show _ = _
                    rw [HD.out, HDC.out, dig_neg c _ _ hdig]
                  have hsel : (c.toNat : Int) < 48 ∨ (58 ≤ (c.toNat : Int) ∧ (c.toNat : Int) ≤ 64) ∨ (65 ≤ (c.toNat : Int) ∧ (c.toNat : Int) ≤ 90) ∨ (91 ≤ (c.toNat : Int) ∧ (c.toNat : Int) ≤ 96) ∨ (97 ≤ (c.toNat : Int) ∧ (c.toNat : Int) ≤ 122) ∨ 123 ≤ (c.toNat : Int) := by omega
                  have hc255 : (c.toNat : Int) ≤ 255 := by omega
                  have hc0 : (0 : Int) ≤ (c.toNat : Int) := by omega
                  have HCC : Hid (t[k] = c) := hcc
                  clear HD hdig hcb
                  rcases hsel with h | ⟨h, h'⟩ | ⟨h, h'⟩ | ⟨h, h'⟩ | ⟨h, h'⟩ | h
                  all_goals
                    go_wp2
                    go_ret2
                    exact .inl ⟨HN.out, rfl, hbw⟩
              · have hke : k = t.size := by omega
                have HE : Hid (dig t.data.toList 0 = some x) := by
                  show _ = _
                  rw [HD.out, show t.data.toList.drop k = [] by rw [List.drop_eq_nil_iff, ← size_list]; omega]; rfl
                have hkz : ¬ (k : Int) < (t.size : Int) := by omega
                have CG := give_any zb true _ x wr b0 c1 ((hbw.cell (p := ⟨zb, 0, none⟩) hz).trans h0) ((hbw.cell (p := ⟨zb, 1, none⟩) hz).trans h1) ((hbw.frozen (p := ⟨zb, 0, none⟩) hz).trans f0) ((hbw.frozen (p := ⟨zb, 1, none⟩) hz).trans f1) (Nat.lt_of_lt_of_le hz hbw.size) hnum
                go_wp2_with fail
                refine CG.mono ?_
                rintro e w2 ⟨rfl, q1, q2⟩
                go_wp2
                go_ret2
                exact .inr ⟨x, HE.out, rfl, hx20, q1, (hbw.mono (Nat.le_of_lt hz)).trans q2⟩

          exact key.mono fun e w' h => .inr ⟨hne, h⟩
      · have h43 : s[0] = 43 := by rcases h45 with h | h; exact absurd h hm; exact h
        have b45 : ((s[0].toNat : Int) == 45) = false := by rw [h43]; rfl
        have b43 : ((s[0].toNat : Int) == 43) = true := by rw [h43]; rfl
        rw [show (s[0] == 45) = false by rw [h43]; rfl]
        clear h45 hm h43
        by_cases ht0 : t.size = 0
        · have hl : t.data.toList = [] := List.eq_nil_of_length_eq_zero (by rw [← size_list]; exact ht0)
          rw [hl]
          have hsz : ((t.size : Int) == 0) = true := by rw [show (t.size : Int) = 0 by omega]; rfl
          clear hes
          go_enter Tryd.func54, Tryd.ntmps54
          go_wp2_with (rw [HT.out])
          go_wp2
          go_ret2
          exact .inl ⟨trivial, rfl, rfl⟩
        · have hne : t.data.toList ≠ [] := fun h => ht0 (by rw [size_list, h]; rfl)
          have hsz : ((t.size : Int) == 0) = false := by rw [beq_eq_false_iff_ne]; omega
          have ht20 : t.size ≤ 20 := by omega
          clear hes
          have key : Calls Tryd.prog 54 #[.pointer (some ⟨zb, 0, none⟩), .string s, .int .i64 10] w (SPost zb false t.data.toList w) := by
            go_enter Tryd.func54, Tryd.ntmps54
            go_wp2_with (rw [HT.out])

            go_wp2_with fail
            go_loopw [9, 10] (fun r i wr => ∃ (k x : Nat), k ≤ t.size ∧ i = .int .i64 (k : Int) ∧ dig t.data.toList 0 = dig (t.data.toList.drop k) x ∧ x < 10 ^ k ∧ NumAt wr r x ∧ Below w.heap.size w wr) (fun r i wr => t.size - (intOf i).toNat)
            case atStart => exact ⟨0, 0, Nat.zero_le _, rfl, by rw [List.drop_zero], by decide, num_nil w, Below.refl _ _⟩
            case round =>
              obtain ⟨k, x, hk, rfl, hdg, hxk, hnum, hbw⟩ := hrel
              have HD : Hid (dig t.data.toList 0 = dig (t.data.toList.drop k) x) := hdg
              have hx20 : x < 100000000000000000000 := Nat.lt_of_lt_of_le hxk (Nat.pow_le_pow_right (by omega) (by omega : k ≤ 20))
              clear hdg
              have hsz := hbw.size
              have hsr : ∃ ao n c, u9 = .slice ao n c := hnum.slot
              obtain ⟨ao9, n9, cap9, rfl⟩ := hsr
              by_cases hlt : k < t.size
              · have hkz : (k : Int) < (t.size : Int) := by omega
                have HDC : Hid (t.data.toList.drop k = t[k] :: t.data.toList.drop (k + 1)) := drop_cons t k hlt
                generalize hcc : t[k] = c at HDC
                have hcb : c.toNat < 256 := c.toNat_lt
                by_cases hdig : 48 ≤ c.toNat ∧ c.toNat ≤ 57
                · have hd1 : (c.toNat : Int) ≥ 48 := by omega
                  have hd2 : (c.toNat : Int) ≤ 57 := by omega
                  obtain ⟨d, hd⟩ : ∃ d, c.toNat = 48 + d := ⟨c.toNat - 48, by omega⟩
                  have HS : Hid (dig t.data.toList 0 = dig (t.data.toList.drop (k + 1)) (10 * x + d)) := by
                    show _ = _
                    rw [HD.out, HDC.out, dig_pos c _ _ hdig]
                    congr 1; omega
                  have hd9 : d ≤ 9 := by omega
                  have hd9z : (d : Int) ≤ 9 := by omega
                  have hxs : 10 * x + d < 10 ^ (k + 1) := by rw [Nat.pow_succ]; omega
                  rw [hd] at hd1 hd2
                  have ec : (c.toNat : Int) = 48 + (d : Int) := by omega
                  have HCC : Hid (t[k] = c) := hcc
                  clear hdig hd HD hxk
                  have CW10 : Hid (∀ W : World, Calls Tryd.prog 68 #[.int .u64 ((10 : Nat) : Int)] W fun e w' => ∃ v, e = .returned v ∧ BlkAt w' W.heap.size v 10 ∧ Below W.heap.size W w') := fun W => words_blk 10 W (by omega)
                  have CWd : Hid (∀ W : World, Calls Tryd.prog 68 #[.int .u64 (48 + (d : Int) - 48)] W fun e w' => ∃ v, e = .returned v ∧ BlkAt w' W.heap.size v d ∧ Below W.heap.size W w') := fun W => by
                    rw [show 48 + (d : Int) - 48 = (d : Int) by omega]; exact words_blk d W (by omega)
                  go_wp2_with (go_at_call 68; refine (CW10.out _).mono ?_)
                  rintro e w2 ⟨v2, rfl, hb2, hbw2⟩
                  obtain ⟨n2, cap2, rfl⟩ := hb2.slot
                  have CM := mul10_20 _ _ x w2 hx20 (hnum.keep hbw2) hb2.num
                  go_wp2_with (go_at_call 76; refine CM.mono ?_)
                  rintro e w3 ⟨v3, rfl, hn3, hbw3⟩
                  obtain ⟨ao3, n3, cap3, rfl⟩ := hn3.slot
                  go_wp2_with (go_at_call 68; refine (CWd.out _).mono ?_)
                  rintro e w4 ⟨v4, rfl, hb4, hbw4⟩
                  obtain ⟨n4, cap4, rfl⟩ := hb4.slot
                  have CA := add_20 _ _ (10 * x) d w4 (by omega) (by omega) (hn3.keep hbw4) hb4.num hb4.ne
                  go_wp2_with (go_at_call 75; refine CA.mono ?_)
                  rintro e w5 ⟨v5, rfl, hn5, hbw5⟩
                  obtain ⟨ao5, n5, cap5, rfl⟩ := hn5.slot
                  go_wp2
                  go_roundw
                  case rel => exact ⟨k + 1, 10 * x + d, by omega, by go_num, HS.out, hxs, hn5, hbw.trans ((hbw2.mono hsz).trans ((hbw3.mono (Nat.le_trans hsz hbw2.size)).trans ((hbw4.mono (Nat.le_trans hsz (Nat.le_trans hbw2.size hbw3.size))).trans (hbw5.mono (Nat.le_trans hsz (Nat.le_trans hbw2.size (Nat.le_trans hbw3.size hbw4.size)))))))⟩
                  case measure => simp [intOf]; omega
                · have HN : Hid (dig t.data.toList 0 = none) := by
                    show _ = _
                    rw [HD.out, HDC.out, dig_neg c _ _ hdig]
                  have hsel : (c.toNat : Int) < 48 ∨ (58 ≤ (c.toNat : Int) ∧ (c.toNat : Int) ≤ 64) ∨ (65 ≤ (c.toNat : Int) ∧ (c.toNat : Int) ≤ 90) ∨ (91 ≤ (c.toNat : Int) ∧ (c.toNat : Int) ≤ 96) ∨ (97 ≤ (c.toNat : Int) ∧ (c.toNat : Int) ≤ 122) ∨ 123 ≤ (c.toNat : Int) := by omega
                  have hc255 : (c.toNat : Int) ≤ 255 := by omega
                  have hc0 : (0 : Int) ≤ (c.toNat : Int) := by omega
                  have HCC : Hid (t[k] = c) := hcc
                  clear HD hdig hcb
                  rcases hsel with h | ⟨h, h'⟩ | ⟨h, h'⟩ | ⟨h, h'⟩ | ⟨h, h'⟩ | h
                  all_goals
                    go_wp2
                    go_ret2
                    exact .inl ⟨HN.out, rfl, hbw⟩
              · have hke : k = t.size := by omega
                have HE : Hid (dig t.data.toList 0 = some x) := by
                  show _ = _
                  rw [HD.out, show t.data.toList.drop k = [] by rw [List.drop_eq_nil_iff, ← size_list]; omega]; rfl
                have hkz : ¬ (k : Int) < (t.size : Int) := by omega
                have CG := give_any zb false _ x wr b0 c1 ((hbw.cell (p := ⟨zb, 0, none⟩) hz).trans h0) ((hbw.cell (p := ⟨zb, 1, none⟩) hz).trans h1) ((hbw.frozen (p := ⟨zb, 0, none⟩) hz).trans f0) ((hbw.frozen (p := ⟨zb, 1, none⟩) hz).trans f1) (Nat.lt_of_lt_of_le hz hbw.size) hnum
                go_wp2_with fail
                refine CG.mono ?_
                rintro e w2 ⟨rfl, q1, q2⟩
                go_wp2
                go_ret2
                exact .inr ⟨x, HE.out, rfl, hx20, q1, (hbw.mono (Nat.le_of_lt hz)).trans q2⟩

          exact key.mono fun e w' h => .inr ⟨hne, h⟩
    · have hsb : sbody s.data.toList = s.data.toList := by rw [hcons]; show (if s[0] = 45 ∨ s[0] = 43 then _ else _) = _; rw [if_neg h45]
      have hsn : sneg s.data.toList = false := by
        rw [hcons]; show (s[0] == 45) = false
        rw [beq_eq_false_iff_ne]; exact fun h => h45 (.inl h)
      have b45 : ((s[0].toNat : Int) == 45) = false := byte_ne s[0] 45 fun h => h45 (.inl h)
      have b43 : ((s[0].toNat : Int) == 43) = false := byte_ne s[0] 43 fun h => h45 (.inr h)
      rw [hsb, hsn]
      clear hsb hsn hcons h45
      have hne : s.data.toList ≠ [] := fun h => hs0 (by rw [size_list, h]; rfl)
      have hsz : ((s.size : Int) == 0) = false := by rw [beq_eq_false_iff_ne]; omega
      obtain ⟨t, ht⟩ : ∃ t, t = s := ⟨_, rfl⟩
      subst ht
      have ht20 : t.size ≤ 20 := hs
      have key : Calls Tryd.prog 54 #[.pointer (some ⟨zb, 0, none⟩), .string t, .int .i64 10] w (SPost zb false t.data.toList w) := by
        go_enter Tryd.func54, Tryd.ntmps54

        go_wp2_with fail
        go_loopw [9, 10] (fun r i wr => ∃ (k x : Nat), k ≤ t.size ∧ i = .int .i64 (k : Int) ∧ dig t.data.toList 0 = dig (t.data.toList.drop k) x ∧ x < 10 ^ k ∧ NumAt wr r x ∧ Below w.heap.size w wr) (fun r i wr => t.size - (intOf i).toNat)
        case atStart => exact ⟨0, 0, Nat.zero_le _, rfl, by rw [List.drop_zero], by decide, num_nil w, Below.refl _ _⟩
        case round =>
          obtain ⟨k, x, hk, rfl, hdg, hxk, hnum, hbw⟩ := hrel
          have HD : Hid (dig t.data.toList 0 = dig (t.data.toList.drop k) x) := hdg
          have hx20 : x < 100000000000000000000 := Nat.lt_of_lt_of_le hxk (Nat.pow_le_pow_right (by omega) (by omega : k ≤ 20))
          clear hdg
          have hsz := hbw.size
          have hsr : ∃ ao n c, u9 = .slice ao n c := hnum.slot
          obtain ⟨ao9, n9, cap9, rfl⟩ := hsr
          by_cases hlt : k < t.size
          · have hkz : (k : Int) < (t.size : Int) := by omega
            have HDC : Hid (t.data.toList.drop k = t[k] :: t.data.toList.drop (k + 1)) := drop_cons t k hlt
            generalize hcc : t[k] = c at HDC
            have hcb : c.toNat < 256 := c.toNat_lt
            by_cases hdig : 48 ≤ c.toNat ∧ c.toNat ≤ 57
            · have hd1 : (c.toNat : Int) ≥ 48 := by omega
              have hd2 : (c.toNat : Int) ≤ 57 := by omega
              obtain ⟨d, hd⟩ : ∃ d, c.toNat = 48 + d := ⟨c.toNat - 48, by omega⟩
              have HS : Hid (dig t.data.toList 0 = dig (t.data.toList.drop (k + 1)) (10 * x + d)) := by
                show _ = _
                rw [HD.out, HDC.out, dig_pos c _ _ hdig]
                congr 1; omega
              have hd9 : d ≤ 9 := by omega
              have hd9z : (d : Int) ≤ 9 := by omega
              have hxs : 10 * x + d < 10 ^ (k + 1) := by rw [Nat.pow_succ]; omega
              rw [hd] at hd1 hd2
              have ec : (c.toNat : Int) = 48 + (d : Int) := by omega
              have HCC : Hid (t[k] = c) := hcc
              clear hdig hd HD hxk
              have CW10 : Hid (∀ W : World, Calls Tryd.prog 68 #[.int .u64 ((10 : Nat) : Int)] W fun e w' => ∃ v, e = .returned v ∧ BlkAt w' W.heap.size v 10 ∧ Below W.heap.size W w') := fun W => words_blk 10 W (by omega)
              have CWd : Hid (∀ W : World, Calls Tryd.prog 68 #[.int .u64 (48 + (d : Int) - 48)] W fun e w' => ∃ v, e = .returned v ∧ BlkAt w' W.heap.size v d ∧ Below W.heap.size W w') := fun W => by
                rw [show 48 + (d : Int) - 48 = (d : Int) by omega]; exact words_blk d W (by omega)
              go_wp2_with (go_at_call 68; refine (CW10.out _).mono ?_)
              rintro e w2 ⟨v2, rfl, hb2, hbw2⟩
              obtain ⟨n2, cap2, rfl⟩ := hb2.slot
              have CM := mul10_20 _ _ x w2 hx20 (hnum.keep hbw2) hb2.num
              go_wp2_with (go_at_call 76; refine CM.mono ?_)
              rintro e w3 ⟨v3, rfl, hn3, hbw3⟩
              obtain ⟨ao3, n3, cap3, rfl⟩ := hn3.slot
              go_wp2_with (go_at_call 68; refine (CWd.out _).mono ?_)
              rintro e w4 ⟨v4, rfl, hb4, hbw4⟩
              obtain ⟨n4, cap4, rfl⟩ := hb4.slot
              have CA := add_20 _ _ (10 * x) d w4 (by omega) (by omega) (hn3.keep hbw4) hb4.num hb4.ne
              go_wp2_with (go_at_call 75; refine CA.mono ?_)
              rintro e w5 ⟨v5, rfl, hn5, hbw5⟩
              obtain ⟨ao5, n5, cap5, rfl⟩ := hn5.slot
              go_wp2
              go_roundw
              case rel => exact ⟨k + 1, 10 * x + d, by omega, by go_num, HS.out, hxs, hn5, hbw.trans ((hbw2.mono hsz).trans ((hbw3.mono (Nat.le_trans hsz hbw2.size)).trans ((hbw4.mono (Nat.le_trans hsz (Nat.le_trans hbw2.size hbw3.size))).trans (hbw5.mono (Nat.le_trans hsz (Nat.le_trans hbw2.size (Nat.le_trans hbw3.size hbw4.size)))))))⟩
              case measure => simp [intOf]; omega
            · have HN : Hid (dig t.data.toList 0 = none) := by
                show _ = _
                rw [HD.out, HDC.out, dig_neg c _ _ hdig]
              have hsel : (c.toNat : Int) < 48 ∨ (58 ≤ (c.toNat : Int) ∧ (c.toNat : Int) ≤ 64) ∨ (65 ≤ (c.toNat : Int) ∧ (c.toNat : Int) ≤ 90) ∨ (91 ≤ (c.toNat : Int) ∧ (c.toNat : Int) ≤ 96) ∨ (97 ≤ (c.toNat : Int) ∧ (c.toNat : Int) ≤ 122) ∨ 123 ≤ (c.toNat : Int) := by omega
              have hc255 : (c.toNat : Int) ≤ 255 := by omega
              have hc0 : (0 : Int) ≤ (c.toNat : Int) := by omega
              have HCC : Hid (t[k] = c) := hcc
              clear HD hdig hcb
              rcases hsel with h | ⟨h, h'⟩ | ⟨h, h'⟩ | ⟨h, h'⟩ | ⟨h, h'⟩ | h
              all_goals
                go_wp2
                go_ret2
                exact .inl ⟨HN.out, rfl, hbw⟩
          · have hke : k = t.size := by omega
            have HE : Hid (dig t.data.toList 0 = some x) := by
              show _ = _
              rw [HD.out, show t.data.toList.drop k = [] by rw [List.drop_eq_nil_iff, ← size_list]; omega]; rfl
            have hkz : ¬ (k : Int) < (t.size : Int) := by omega
            have CG := give_any zb false _ x wr b0 c1 ((hbw.cell (p := ⟨zb, 0, none⟩) hz).trans h0) ((hbw.cell (p := ⟨zb, 1, none⟩) hz).trans h1) ((hbw.frozen (p := ⟨zb, 0, none⟩) hz).trans f0) ((hbw.frozen (p := ⟨zb, 1, none⟩) hz).trans f1) (Nat.lt_of_lt_of_le hz hbw.size) hnum
            go_wp2_with fail
            refine CG.mono ?_
            rintro e w2 ⟨rfl, q1, q2⟩
            go_wp2
            go_ret2
            exact .inr ⟨x, HE.out, rfl, hx20, q1, (hbw.mono (Nat.le_of_lt hz)).trans q2⟩

      exact key.mono fun e w' h => .inr ⟨hne, h⟩
end Go.Proofs.YtbhgcfoplpjfjaaDoor
