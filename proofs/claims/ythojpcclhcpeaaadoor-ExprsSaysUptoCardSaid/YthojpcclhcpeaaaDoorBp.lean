/-
  The contract of duetref.ValueText: it tells of every value what values.Write writes.
-/
import Derived.Test.YthojpcclhcpeaaaDoorBf
import Derived.Test.YthojpcclhcpeaaaDoorWt
namespace Go.Proofs.YthojpcclhcpeaaaDoor
open Go.RowKit Go.Shelf

theorem int20 (n : Int) (h0 : -9223372036854775808 ≤ n) (h1 : n ≤ 9223372036854775807) : n.natAbs < 100000000000000000000 := by omega

set_option maxRecDepth 100000 in
set_option maxHeartbeats 1000000 in
theorem vtInt_any (n : Int) (s : ByteArray) (w : World) (h0 : -9223372036854775808 ≤ n) (h1 : n ≤ 9223372036854775807) :
    Calls Tryd.prog 34 #[.agg #[.int .i64 1, .int .i64 n, .string s]] w fun e w' => e = .returned (.string (bs (Lib.itoa n))) ∧ Below w.heap.size w w' := by
  have hx := int20 n h0 h1
  have ht := txt_itoa n
  have CN := fun W => newInt_any n W h0 h1
  have CS := fun W zb h => intString_any zb (decide (n < 0)) n.natAbs W h hx
  rw [ht] at CS
  generalize Lib.itoa n = t at *
  generalize decide (n < 0) = b at *
  generalize n.natAbs = m at *
  have HN : Hid (∀ W : World, Calls Tryd.prog 69 #[.int .i64 n] W fun e w' => e = .returned (.pointer (some ⟨W.heap.size, 0, none⟩)) ∧ IntAt w' W.heap.size b m ∧ Below W.heap.size W w') := CN
  have HS : Hid (∀ (W : World) (zb : Nat), IntAt W zb b m → Calls Tryd.prog 70 #[.pointer (some ⟨zb, 0, none⟩)] W fun e w' => e = .returned (.string ⟨t.toArray⟩) ∧ Below W.heap.size W w') := CS
  clear CN CS hx ht h0 h1
  go_enter Tryd.func34, Tryd.ntmps34
  go_wp2_with fail
  refine (HN.out _).mono ?_
  rintro e w1 ⟨rfl, hi, hb⟩
  have hsz := hb.size
  simp only [World.size_alloc] at hi
  go_wp2_with fail
  refine (HS.out w1 _ hi).mono ?_
  rintro e w2 ⟨rfl, hb2⟩
  go_wp2
  go_ret
  refine ⟨rfl, ?_⟩
  simp at hsz
  exact (((Below.refl w.heap.size w).alloc (Nat.le_refl _) _).trans (hb.mono (by simp))).trans (hb2.mono (by omega))

set_option maxHeartbeats 1000000 in
theorem vtBool_any (n : Int) (s : ByteArray) (w : World) (hn : n = 0 ∨ n = 1) :
    Calls Tryd.prog 34 #[.agg #[.int .i64 2, .int .i64 n, .string s]] w fun e w' => e = .returned (.string (bs (Lib.formatBool (n == 1)))) ∧ Below w.heap.size w w' := by
  rcases hn with rfl | rfl
  · rw [show bs (Lib.formatBool ((0 : Int) == 1)) = ⟨#[102, 97, 108, 115, 101]⟩ by decide]
    go_enter Tryd.func34, Tryd.ntmps34
    go_wp2
    go_ret
    refine ⟨rfl, ?_⟩
    go_grown
  · rw [show bs (Lib.formatBool ((1 : Int) == 1)) = ⟨#[116, 114, 117, 101]⟩ by decide]
    go_enter Tryd.func34, Tryd.ntmps34
    go_wp2
    go_ret
    refine ⟨rfl, ?_⟩
    go_grown

theorem take_next (s : ByteArray) (k : Nat) (h : k < s.size) : s.data.toList.take (k + 1) = s.data.toList.take k ++ [s[k]] := by
  rw [List.take_add_one, List.getElem?_eq_getElem (by rw [← size_list]; exact h)]; rfl
theorem esc_next (s : ByteArray) (k : Nat) (h : k < s.size) : esc (s.data.toList.take (k + 1)) = esc (s.data.toList.take k) ++ esc1 s[k] := by
  rw [take_next s k h, esc_append, esc_cons, esc_nil, List.append_nil]
theorem acc_next {acc a b : List UInt8} {x : List UInt8} (h : acc = 34 :: a) (h2 : b = a ++ x) : acc ++ x = 34 :: b := by rw [h, h2]; rfl

set_option maxRecDepth 100000 in
set_option maxHeartbeats 2000000 in
theorem vtText_any (n : Int) (s : ByteArray) (w : World) (hs : s.size ≤ 100) :
    Calls Tryd.prog 34 #[.agg #[.int .i64 3, .int .i64 n, .string s]] w fun e w' => e = .returned (.string (bs (quo s.data.toList))) ∧ Below w.heap.size w w' := by
  obtain ⟨i0, hi, hz0, hz1, hz2⟩ := info_parts infoByte
  obtain ⟨wb, hwb⟩ : ∃ wb, wb = w.alloc (.cells #[.int .i64 3, .int .i64 n, .string s] 23) := ⟨_, rfl⟩
  have HWB : Hid (wb = w.alloc (.cells #[.int .i64 3, .int .i64 n, .string s] 23)) := hwb
  have hbs : wb.heap.size = w.heap.size + 1 := by rw [hwb]; simp
  have hbc : wb.cell? ⟨w.heap.size, 2, none⟩ = some (.string s) := by rw [hwb]; go_cell
  have hbb : Below w.heap.size w wb := by rw [hwb]; exact (Below.refl _ _).alloc (Nat.le_refl _) _
  clear hwb
  go_enter Tryd.func34, Tryd.ntmps34
  go_wp2_with fail
  go_loopw [3, 4] (fun t i wr => ∃ (k : Nat) (acc : List UInt8), k ≤ s.size ∧ i = .int .i64 (k : Int) ∧ acc = 34 :: esc (s.data.toList.take k) ∧ wr.ownsRow (w.heap.size + 1) 5 1 t acc.length (Lib.byteCells acc) ∧ Below (w.heap.size + 1) wb wr) (fun t i wr => s.size - (intOf i).toNat)
  case atStart =>
    refine ⟨0, [34], Nat.zero_le _, rfl, rfl, ?_, ?_⟩
    · have := World.ownsRow_lit (base := w.heap.size + 1) (e := 5) (size := 1) (w.alloc (.cells #[.int .i64 3, .int .i64 n, .string s] 23)) #[.int .u8 34] 1 (by simp) (by unfold maxLen; omega) rfl
      simp only [World.size_alloc] at this
      exact this
    · rw [HWB.out]; exact (Below.refl _ _).alloc (by simp) _
  case round =>
    obtain ⟨k, acc, hk, rfl, hacc, hown, hbw⟩ := hrel
    have HACC : Hid (acc = 34 :: esc (s.data.toList.take k)) := hacc
    have hlen : acc.length ≤ 300 := by
      rw [hacc, List.length_cons]
      have := (esc_len (s.data.toList.take k)).2
      have := List.length_take_le k s.data.toList
      omega
    clear hacc
    have hc2 : wr.cell? ⟨w.heap.size, 2, none⟩ = some (.string s) := (hbw.cell (p := ⟨w.heap.size, 2, none⟩) (by simp)).trans hbc
    have hsz := hbw.size
    obtain ⟨ao, cap, rfl⟩ : ∃ ao cap, u3 = .slice ao acc.length cap := by
      rcases hown.2 with ⟨hv, h0⟩ | ⟨g, cap, cur, hv, _⟩
      · exact ⟨none, 0, by rw [hv, h0]⟩
      · exact ⟨_, _, hv⟩
    by_cases hlt : k < s.size
    · have hkz : (k : Int) < (s.size : Int) := by omega
      have hkb : (k : Int) ≤ 100 := by omega
      have HN : Hid (esc (s.data.toList.take (k + 1)) = esc (s.data.toList.take k) ++ esc1 s[k]) := esc_next s k hlt
      by_cases h10 : s[k] = 10
      · have b10 : ((s[k].toNat : Int) == 10) = true := by rw [h10]; rfl
        have HE : Hid (acc ++ [92, 110] = 34 :: esc (s.data.toList.take (k + 1))) := acc_next HACC.out (by rw [HN.out, h10]; rfl)
        clear h10
        go_wp2_with (at_builtin; refine wpList_append_own _ rfl _ _ 76 rfl (w.heap.size + 1) 5 i0 (.int .u8 0) 1 1 Tryd.underlying76 hi hz0 hz1 hz2 rfl (by decide) _ _ _ rfl (hown.alloc _) ⟨wr.heap.size, 0, none⟩ 2 2 [.int .u8 92, .int .u8 110] rfl rfl ?c1 ?c2 ?c3 ?c4 ?c5 ?_)
        case c1 =>
          intro j u hj
          match j, hj with
          | 0, hj => simp at hj; subst hj; simp [Addr.add]
          | 1, hj => simp at hj; subst hj; simp [Addr.add]
          | j + 2, hj => simp at hj
        case c2 => intro u hu; simp at hu; rcases hu with rfl | rfl <;> rfl
        case c3 => unfold maxLen; omega
        case c4 => omega
        case c5 => simp; omega
        intro v' w3 hown' hgrow _
        go_wp2
        go_roundw
        case rel =>
          refine ⟨k + 1, acc ++ [92, 110], by omega, by go_num, HE.out, ?_, (hbw.alloc (by omega) _).grown hgrow (by simp; omega) (fun q hq => (hown.lt q hq).1)⟩
          rw [Lib.byteCells_append, List.length_append]
          exact hown'
        case measure => simp [intOf]; omega
      · have b10 : ((s[k].toNat : Int) == 10) = false := byte_ne s[k] 10 h10
        by_cases h34 : s[k] = 34
        · have b34 : ((s[k].toNat : Int) == 34) = true := by rw [h34]; rfl
          have HE : Hid (acc ++ [92, s[k]] = 34 :: esc (s.data.toList.take (k + 1))) := acc_next HACC.out (by rw [HN.out, h34]; rfl)
          clear h10 h34
          go_wp2_with (at_builtin; refine wpList_append_own _ rfl _ _ 76 rfl (w.heap.size + 1) 5 i0 (.int .u8 0) 1 1 Tryd.underlying76 hi hz0 hz1 hz2 rfl (by decide) _ _ _ rfl (hown.alloc _) ⟨wr.heap.size, 0, none⟩ 2 2 [.int .u8 92, .int .u8 (s[k].toNat : Int)] rfl rfl ?c1 ?c2 ?c3 ?c4 ?c5 ?_)
          case c1 =>
            intro j u hj
            match j, hj with
            | 0, hj => simp at hj; subst hj; simp [Addr.add]
            | 1, hj => simp at hj; subst hj; simp [Addr.add]
            | j + 2, hj => simp at hj
          case c2 => intro u hu; simp at hu; rcases hu with rfl | rfl <;> rfl
          case c3 => unfold maxLen; omega
          case c4 => omega
          case c5 => simp; omega
          intro v' w3 hown' hgrow _
          go_wp2
          go_roundw
          case rel =>
            refine ⟨k + 1, acc ++ [92, s[k]], by omega, by go_num, HE.out, ?_, (hbw.alloc (by omega) _).grown hgrow (by simp; omega) (fun q hq => (hown.lt q hq).1)⟩
            rw [Lib.byteCells_append, List.length_append]
            exact hown'
          case measure => simp [intOf]; omega
        · have b34 : ((s[k].toNat : Int) == 34) = false := byte_ne s[k] 34 h34
          by_cases h92 : s[k] = 92
          · have b92 : ((s[k].toNat : Int) == 92) = true := by rw [h92]; rfl
            have HE : Hid (acc ++ [92, s[k]] = 34 :: esc (s.data.toList.take (k + 1))) := acc_next HACC.out (by rw [HN.out, h92]; rfl)
            clear h10 h34 h92
            go_wp2_with (at_builtin; refine wpList_append_own _ rfl _ _ 76 rfl (w.heap.size + 1) 5 i0 (.int .u8 0) 1 1 Tryd.underlying76 hi hz0 hz1 hz2 rfl (by decide) _ _ _ rfl (hown.alloc _) ⟨wr.heap.size, 0, none⟩ 2 2 [.int .u8 92, .int .u8 (s[k].toNat : Int)] rfl rfl ?c1 ?c2 ?c3 ?c4 ?c5 ?_)
            case c1 =>
              intro j u hj
              match j, hj with
              | 0, hj => simp at hj; subst hj; simp [Addr.add]
              | 1, hj => simp at hj; subst hj; simp [Addr.add]
              | j + 2, hj => simp at hj
            case c2 => intro u hu; simp at hu; rcases hu with rfl | rfl <;> rfl
            case c3 => unfold maxLen; omega
            case c4 => omega
            case c5 => simp; omega
            intro v' w3 hown' hgrow _
            go_wp2
            go_roundw
            case rel =>
              refine ⟨k + 1, acc ++ [92, s[k]], by omega, by go_num, HE.out, ?_, (hbw.alloc (by omega) _).grown hgrow (by simp; omega) (fun q hq => (hown.lt q hq).1)⟩
              rw [Lib.byteCells_append, List.length_append]
              exact hown'
            case measure => simp [intOf]; omega
          · have b92 : ((s[k].toNat : Int) == 92) = false := byte_ne s[k] 92 h92
            have HE : Hid (acc ++ [s[k]] = 34 :: esc (s.data.toList.take (k + 1))) := acc_next HACC.out (by rw [HN.out, esc1_plain _ h92 h34 h10])
            clear h10 h34 h92
            go_wp2_with (at_builtin; refine wpList_append_own _ rfl _ _ 76 rfl (w.heap.size + 1) 5 i0 (.int .u8 0) 1 1 Tryd.underlying76 hi hz0 hz1 hz2 rfl (by decide) _ _ _ rfl (hown.alloc _) ⟨wr.heap.size, 0, none⟩ 1 1 [.int .u8 (s[k].toNat : Int)] rfl rfl ?c1 ?c2 ?c3 ?c4 ?c5 ?_)
            case c1 =>
              intro j u hj
              match j, hj with
              | 0, hj => simp at hj; subst hj; simp [Addr.add]
            case c2 => intro u hu; simp at hu; subst hu; rfl
            case c3 => unfold maxLen; omega
            case c4 => omega
            case c5 => simp; omega
            intro v' w3 hown' hgrow _
            go_wp2
            go_roundw
            case rel =>
              refine ⟨k + 1, acc ++ [s[k]], by omega, by go_num, HE.out, ?_, (hbw.alloc (by omega) _).grown hgrow (by simp; omega) (fun q hq => (hown.lt q hq).1)⟩
              rw [Lib.byteCells_append, List.length_append]
              exact hown'
            case measure => simp [intOf]; omega
    · have hkz : ¬ (k : Int) < (s.size : Int) := by omega
      have HE : Hid (acc ++ [34] = quo s.data.toList) := by
        show _ = _
        rw [HACC.out, List.take_of_length_le (by rw [← size_list]; omega)]; rfl
      go_wp2_with (at_builtin; refine wpList_append_own _ rfl _ _ 76 rfl (w.heap.size + 1) 5 i0 (.int .u8 0) 1 1 Tryd.underlying76 hi hz0 hz1 hz2 rfl (by decide) _ _ _ rfl (hown.alloc _) ⟨wr.heap.size, 0, none⟩ 1 1 [.int .u8 34] rfl rfl ?c1 ?c2 ?c3 ?c4 ?c5 ?_)
      case c2 => rfl
      case c3 => unfold maxLen; omega
      case c4 => omega
      case c5 => omega
      intro v' w3 hown' hgrow _
      have hbf : Below w.heap.size w w3 := hbb.trans (((hbw.alloc (by omega) _).grown hgrow (by simp; omega) (fun q hq => (hown.lt q hq).1)).mono (by omega))
      have hown2 : w3.ownsRow (w.heap.size + 1) 5 1 v' (acc ++ [34]).length (Lib.byteCells (acc ++ [34])) := by
        rw [Lib.byteCells_append, List.length_append]; exact hown'
      have hconv := conv_row (World.ownsRowF_of hown2)
      rw [HE.out] at hconv
      clear hown' hown2 hgrow
      go_wp2
      go_ret
      exact ⟨rfl, hbf⟩
end Go.Proofs.YthojpcclhcpeaaaDoor
