/-
  The contract of duetref.Quoted, for every text of at most 2^20 bytes.
-/
import Derived.Test.YtbhgcfoplpjfjaaDoorBn
import Derived.BigQuiet
namespace Go.Proofs.YtbhgcfoplpjfjaaDoor
open Go.RowKit Go.Shelf

def QF : Option (Nat × List UInt8) → Int × List UInt8
  | none => (-1, [])
  | some p => if Lib.validD p.2 = true then ((p.1 : Int) + 1, p.2) else (-1, [])
theorem qu_QF (r : List UInt8) : quZ (34 :: r) = QF (qn r) := by
  unfold quZ
  simp only
  rw [if_pos trivial]
  unfold QF
  cases qn r <;> rfl
theorem qn_shift {U A B : Option (Nat × List UInt8)} {acc : List UInt8} {x : UInt8} {a m : Nat} (h : U = A.map fun p => (p.1 + a, acc ++ p.2)) (h2 : A = B.map fun p => (p.1 + m, x :: p.2)) : U = B.map fun p => (p.1 + (a + m), (acc ++ [x]) ++ p.2) := by
  rw [h, h2]
  cases B
  · rfl
  · simp; omega
theorem qn_none {U A : Option (Nat × List UInt8)} {acc : List UInt8} {a : Nat} (h : U = A.map fun p => (p.1 + a, acc ++ p.2)) (h2 : A = none) : U = none := by rw [h, h2]; rfl
theorem qn_start (U : Option (Nat × List UInt8)) : U = U.map fun p => (p.1 + 0, [] ++ p.2) := by cases U <;> simp

set_option maxRecDepth 100000 in
set_option maxHeartbeats 2000000 in
theorem quotedR_loop (s : ByteArray) (w : World) (hs : s.size ≤ 1048576) (hT : Tabs w) (h1 : 0 < s.size) (h34 : s[0] = 34) :
    Calls Tryd.prog 27 #[.string s] w fun e w' => e = .returned (.tuple #[.int .i64 (QF (qn (s.data.toList.drop 1))).1, .string (bs (QF (qn (s.data.toList.drop 1))).2)]) ∧ Below w.heap.size w w' := by
  obtain ⟨i0, hi, hz0, hz1, hz2⟩ := info_parts infoByte
  have hse : s.toList.isEmpty = false := by
    cases h : s.toList.isEmpty
    · rfl
    · have := empty_of h; subst this; exact absurd h1 (by decide)
  have h34z : ((s[0].toNat : Int)) = 34 := by rw [h34]; rfl
  clear h34
  generalize hU : qn (s.data.toList.drop 1) = U
  have HU0 : Hid (qn (s.data.toList.drop 1) = U) := hU
  clear hU
  go_enter Tryd.func27, Tryd.ntmps27
  go_wp2_with fail
  go_loopw [4, 5] (fun t i wr => ∃ (k : Nat) (acc : List UInt8), 1 ≤ k ∧ k ≤ s.size ∧ i = .int .i64 (k : Int) ∧ (U = (qn (s.data.toList.drop k)).map fun p => (p.1 + (k - 1), acc ++ p.2)) ∧ acc.length ≤ k ∧ wr.ownsRow w.heap.size 5 1 t acc.length (Lib.byteCells acc) ∧ Below w.heap.size w wr) (fun t i wr => s.size - (intOf i).toNat)
  case atStart => exact ⟨1, [], Nat.le_refl _, h1, rfl, by rw [HU0.out]; exact qn_start _, Nat.zero_le _, World.ownsRow_nil _ _ _ _, Below.refl _ _⟩
  case round =>
    obtain ⟨k, acc, hk1, hk, rfl, hun, hal, hown, hbw⟩ := hrel
    have HU : Hid (U = (qn (s.data.toList.drop k)).map fun p => (p.1 + (k - 1), acc ++ p.2)) := hun
    clear hun
    have hsz := hbw.size
    obtain ⟨ao, cap, rfl⟩ : ∃ ao cap, u4 = .slice ao acc.length cap := by
      rcases hown.2 with ⟨hv, h0⟩ | ⟨g, cap, cur, hv, _⟩
      · exact ⟨none, 0, by rw [hv, h0]⟩
      · exact ⟨_, _, hv⟩
    by_cases hlt : k < s.size
    · have hkz : (k : Int) < (s.size : Int) := by omega
      have hkb : (k : Int) ≤ 1048576 := by omega
      have HD : Hid (s.data.toList.drop k = s[k] :: s.data.toList.drop (k + 1)) := drop_cons s k hlt
      by_cases h34 : s[k] = 34
      · have b34 : ((s[k].toNat : Int) == 34) = true := by rw [h34]; rfl
        have HE : Hid (U = some (k, acc)) := by
          show _ = _
          rw [HU.out, HD.out, h34, qn_mark]
          simp; omega
        clear h34
        have hconv := conv_row (World.ownsRowF_of hown)
        have CL := letters_any (bs acc) wr (by rw [bs_size]; omega) (tabs_keep w wr hT hbw)
        go_wp2_with fail
        refine CL.mono ?_
        rintro e w2 ⟨hp, hb2⟩
        have hown2 := own_below hown hb2
        have hbw2 : Below w.heap.size w w2 := hbw.trans (hb2.mono hsz)
        have hconv2 : ∀ n, (convert 50 9 (.slice ao acc.length cap)).run Tryd.prog (w2.drewN n) = .ok (.string ⟨acc.toArray⟩) (w2.drewN n) := fun n => conv_row (World.ownsRowF_of (show (w2.drewN n).ownsRow w.heap.size 5 1 (.slice ao acc.length cap) acc.length (Lib.byteCells acc) by simpa [World.ownsRow] using hown2))
        rcases hp with ⟨hv, rfl⟩ | ⟨hv, rs, v, _, _, rfl, hownl⟩
        · have hq : QF U = (-1, []) := by
            rw [HE.out]; unfold QF; simp only; rw [bs_list] at hv; rw [if_neg (by rw [hv]; simp)]
          have HQ : Hid (QF U = (-1, [])) := hq
          clear hconv CL hconv2 hq
          go_wp2
          go_ret2
          exact ⟨by rw [HQ.out]; rfl, hbw2⟩
        · have hq : QF U = ((k : Int) + 1, acc) := by
            rw [HE.out]; unfold QF; simp only; rw [bs_list] at hv; rw [if_pos hv]
          have HQ : Hid (QF U = ((k : Int) + 1, acc)) := hq
          obtain ⟨ao2, cap2, rfl⟩ : ∃ ao cap, v = .slice ao rs.length cap := by
            rcases hownl.2 with ⟨hv, h0⟩ | ⟨g, cap, cur, hv, _⟩
            · exact ⟨none, 0, by rw [hv, h0]⟩
            · exact ⟨_, _, hv⟩
          clear hconv CL hownl hq
          go_wp2_with fail
          go_quiet (fail)
          go_wp2
          go_ret2
          exact ⟨by rw [HQ.out]; rfl, below_dn hbw2 _⟩
      · have b34 : ((s[k].toNat : Int) == 34) = false := byte_ne s[k] 34 h34
        by_cases h10 : s[k] = 10
        · have b10 : ((s[k].toNat : Int) == 10) = true := by rw [h10]; rfl
          have HN : Hid (U = none) := qn_none HU.out (by rw [HD.out, h10, qn_ten])
          clear h34 h10
          go_wp2
          go_ret2
          exact ⟨by rw [HN.out]; rfl, hbw⟩
        · have b10 : ((s[k].toNat : Int) == 10) = false := byte_ne s[k] 10 h10
          by_cases h92 : s[k] = 92
          · have b92 : ((s[k].toNat : Int) == 92) = true := by rw [h92]; rfl
            rw [h92] at HD
            clear h34 h10 h92
            by_cases hlt2 : k + 1 < s.size
            · have hkz2 : (k : Int) + 1 < (s.size : Int) := by omega
              have HD2 : Hid (s.data.toList.drop (k + 1) = s[k + 1] :: s.data.toList.drop (k + 1 + 1)) := drop_cons s (k + 1) hlt2
              by_cases d110 : s[k + 1] = 110
              · have c110 : ((s[k + 1].toNat : Int) == 110) = true := by rw [d110]; rfl
                have HS : Hid (U = (qn (s.data.toList.drop (k + 1 + 1))).map fun p => (p.1 + (k + 1 + 1 - 1), (acc ++ [10]) ++ p.2)) := by
                  show _ = _
                  rw [show k + 1 + 1 - 1 = (k - 1) + 2 by omega]
                  refine qn_shift HU.out ?_
                  rw [HD.out, HD2.out, qn_e2, d110]
                  rfl
                clear d110
                go_wp2_with (at_builtin; refine wpList_append_own _ rfl _ _ 50 rfl w.heap.size 5 i0 (.int .u8 0) 1 1 Tryd.underlying50 hi hz0 hz1 hz2 rfl (by decide) _ _ _ rfl (hown.alloc _) ⟨wr.heap.size, 0, none⟩ 1 1 [.int .u8 10] rfl rfl ?c1 ?c2 ?c3 ?c4 ?c5 ?_)
                case c1 =>
                  intro j u hj
                  match j, hj with
                  | 0, hj => simp at hj; subst hj; simp [Addr.add]
                case c2 => intro u hu; simp at hu; subst hu; rfl
                case c3 => unfold maxLen; omega
                case c4 => omega
                case c5 => simp; omega
                intro v' w3 hown' hgrow _
                go_wp2
                go_roundw
                case rel =>
                  refine ⟨k + 1 + 1, acc ++ [10], by omega, by omega, by go_num, HS.out, by simp; omega, ?_, (hbw.alloc hsz _).grown hgrow (by simp; omega) (fun q hq => (hown.lt q hq).1)⟩
                  rw [Lib.byteCells_append, List.length_append]
                  exact hown'
                case measure => simp [intOf]; omega
              · have c110 : ((s[k + 1].toNat : Int) == 110) = false := byte_ne s[k + 1] 110 d110
                by_cases d34 : s[k + 1] = 34 ∨ s[k + 1] = 92
                · have HS : Hid (U = (qn (s.data.toList.drop (k + 1 + 1))).map fun p => (p.1 + (k + 1 + 1 - 1), (acc ++ [s[k + 1]]) ++ p.2)) := by
                    show _ = _
                    rw [show k + 1 + 1 - 1 = (k - 1) + 2 by omega]
                    refine qn_shift HU.out ?_
                    rw [HD.out, HD2.out, qn_e2, show unesc s[k + 1] = some s[k + 1] by unfold unesc; rw [if_pos (Or.symm d34)]]
                  by_cases d34' : s[k + 1] = 34
                  · have c34 : ((s[k + 1].toNat : Int) == 34) = true := by rw [d34']; rfl
                    clear d110 d34 d34'
                    go_wp2_with (at_builtin; refine wpList_append_own _ rfl _ _ 50 rfl w.heap.size 5 i0 (.int .u8 0) 1 1 Tryd.underlying50 hi hz0 hz1 hz2 rfl (by decide) _ _ _ rfl (hown.alloc _) ⟨wr.heap.size, 0, none⟩ 1 1 [.int .u8 (s[k + 1].toNat : Int)] rfl rfl ?c1 ?c2 ?c3 ?c4 ?c5 ?_)
                    case c1 =>
                      intro j u hj
                      match j, hj with
                      | 0, hj => simp at hj; subst hj; simp [Addr.add]
                    case c2 => intro u hu; simp at hu; subst hu; rfl
                    case c3 => unfold maxLen; omega
                    case c4 => omega
                    case c5 => simp; omega
                    intro v' w3 hown' hgrow _
                    go_wp2
                    go_roundw
                    case rel =>
                      refine ⟨k + 1 + 1, acc ++ [s[k + 1]], by omega, by omega, by go_num, HS.out, by simp; omega, ?_, (hbw.alloc hsz _).grown hgrow (by simp; omega) (fun q hq => (hown.lt q hq).1)⟩
                      rw [Lib.byteCells_append, List.length_append]
                      exact hown'
                    case measure => simp [intOf]; omega
                  · have c34 : ((s[k + 1].toNat : Int) == 34) = false := byte_ne s[k + 1] 34 d34'
                    have c92 : ((s[k + 1].toNat : Int) == 92) = true := by rw [d34.resolve_left d34']; rfl
                    clear d110 d34 d34'
                    go_wp2_with (at_builtin; refine wpList_append_own _ rfl _ _ 50 rfl w.heap.size 5 i0 (.int .u8 0) 1 1 Tryd.underlying50 hi hz0 hz1 hz2 rfl (by decide) _ _ _ rfl (hown.alloc _) ⟨wr.heap.size, 0, none⟩ 1 1 [.int .u8 (s[k + 1].toNat : Int)] rfl rfl ?c1 ?c2 ?c3 ?c4 ?c5 ?_)
                    case c1 =>
                      intro j u hj
                      match j, hj with
                      | 0, hj => simp at hj; subst hj; simp [Addr.add]
                    case c2 => intro u hu; simp at hu; subst hu; rfl
                    case c3 => unfold maxLen; omega
                    case c4 => omega
                    case c5 => simp; omega
                    intro v' w3 hown' hgrow _
                    go_wp2
                    go_roundw
                    case rel =>
                      refine ⟨k + 1 + 1, acc ++ [s[k + 1]], by omega, by omega, by go_num, HS.out, by simp; omega, ?_, (hbw.alloc hsz _).grown hgrow (by simp; omega) (fun q hq => (hown.lt q hq).1)⟩
                      rw [Lib.byteCells_append, List.length_append]
                      exact hown'
                    case measure => simp [intOf]; omega
                · have c34 : ((s[k + 1].toNat : Int) == 34) = false := byte_ne s[k + 1] 34 (fun e => d34 (.inl e))
                  have c92 : ((s[k + 1].toNat : Int) == 92) = false := byte_ne s[k + 1] 92 (fun e => d34 (.inr e))
                  have HN : Hid (U = none) := qn_none HU.out (by rw [HD.out, HD2.out, qn_e2, show unesc s[k + 1] = none by unfold unesc; rw [if_neg (fun x => d34 (Or.symm x)), if_neg d110]])
                  clear d110 d34
                  go_wp2
                  go_ret2
                  exact ⟨by rw [HN.out]; rfl, hbw⟩
            · have hkz2 : ¬ (k : Int) + 1 < (s.size : Int) := by omega
              have HN : Hid (U = none) := qn_none HU.out (by rw [HD.out, show s.data.toList.drop (k + 1) = [] by rw [List.drop_eq_nil_iff, ← size_list]; omega, qn_e1])
              go_wp2
              go_ret2
              exact ⟨by rw [HN.out]; rfl, hbw⟩
          · have b92 : ((s[k].toNat : Int) == 92) = false := byte_ne s[k] 92 h92
            have HS : Hid (U = (qn (s.data.toList.drop (k + 1))).map fun p => (p.1 + (k + 1 - 1), (acc ++ [s[k]]) ++ p.2)) := by
              show _ = _
              rw [show k + 1 - 1 = (k - 1) + 1 by omega]
              refine qn_shift HU.out ?_
              rw [HD.out, qn_plain _ _ h34 h10 h92]
            clear h34 h10 h92
            go_wp2_with (at_builtin; refine wpList_append_own _ rfl _ _ 50 rfl w.heap.size 5 i0 (.int .u8 0) 1 1 Tryd.underlying50 hi hz0 hz1 hz2 rfl (by decide) _ _ _ rfl (hown.alloc _) ⟨wr.heap.size, 0, none⟩ 1 1 [.int .u8 (s[k].toNat : Int)] rfl rfl ?c1 ?c2 ?c3 ?c4 ?c5 ?_)
            case c1 =>
              intro j u hj
              match j, hj with
              | 0, hj => simp at hj; subst hj; simp [Addr.add]
            case c2 => intro u hu; simp at hu; subst hu; rfl
            case c3 => unfold maxLen; omega
            case c4 => omega
            case c5 => simp; omega
            intro v' w3 hown' hgrow _
            go_wp2
            go_roundw
            case rel =>
              refine ⟨k + 1, acc ++ [s[k]], by omega, by omega, by go_num, HS.out, by simp; omega, ?_, (hbw.alloc hsz _).grown hgrow (by simp; omega) (fun q hq => (hown.lt q hq).1)⟩
              rw [Lib.byteCells_append, List.length_append]
              exact hown'
            case measure => simp [intOf]; omega
    · have hkz : ¬ (k : Int) < (s.size : Int) := by omega
      have HN : Hid (U = none) := qn_none HU.out (by rw [show s.data.toList.drop k = [] by rw [List.drop_eq_nil_iff, ← size_list]; omega]; rfl)
      go_wp2
      go_ret2
      exact ⟨by rw [HN.out]; rfl, hbw⟩

set_option maxHeartbeats 400000 in
theorem quotedR_any (s : ByteArray) (w : World) (hs : s.size ≤ 1048576) (hT : Tabs w) :
    Calls Tryd.prog 27 #[.string s] w fun e w' => e = .returned (.tuple #[.int .i64 (quZ s.data.toList).1, .string (bs (quZ s.data.toList).2)]) ∧ Below w.heap.size w w' := by
  by_cases h0 : s.size = 0
  · have hl : s.data.toList = [] := List.eq_nil_of_length_eq_zero (by rw [← size_list]; exact h0)
    have hse : s.toList.isEmpty = true := by rw [ByteArray.toList_eq, hl]; rfl
    rw [hl, show quZ [] = (-1, []) from rfl]
    go_enter Tryd.func27, Tryd.ntmps27
    go_wp2
    go_ret2
    exact ⟨rfl, Below.refl _ _⟩
  · have h1 : 0 < s.size := by omega
    have hc := drop_cons s 0 h1
    rw [List.drop_zero] at hc
    by_cases h34 : s[0] = 34
    · rw [hc, h34, qu_QF]
      exact quotedR_loop s w hs hT h1 h34
    · have hq : quZ s.data.toList = (-1, []) := by rw [hc]; unfold quZ; simp only; rw [if_neg h34]
      rw [hq]
      have hse : s.toList.isEmpty = false := by
        cases h : s.toList.isEmpty
        · rfl
        · have := empty_of h; subst this; exact absurd h1 (by decide)
      have h34z : ¬ ((s[0].toNat : Int)) = 34 := fun e => h34 (UInt8.toNat_inj.1 (by have : (34 : UInt8).toNat = 34 := rfl; omega))
      clear hc h34 hq
      go_enter Tryd.func27, Tryd.ntmps27
      go_wp2
      go_ret2
      exact ⟨rfl, Below.refl _ _⟩
end Go.Proofs.YtbhgcfoplpjfjaaDoor
