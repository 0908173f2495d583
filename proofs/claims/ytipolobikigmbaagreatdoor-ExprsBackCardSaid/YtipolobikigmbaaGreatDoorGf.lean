/-
  The contract of values.Read, for every text of at most 2^48 bytes; the contracts of utf8.ValidString, strconv.FormatInt and strconv.ParseInt are hypotheses here.
-/
import Derived.Test.YtipolobikigmbaaGreatDoorRi
import Derived.Test.YtipolobikigmbaaGreatDoorXk
import Derived.Lib.ItoaLen
namespace Go.Proofs.YtipolobikigmbaaGreatDoor
open Go.RowKit Go.Shelf
variable (Tabs : World → Prop)

def tru : List UInt8 := [116, 114, 117, 101]
def fls : List UInt8 := [102, 97, 108, 115, 101]
/-- what values.Read tells: sort, number, text, error -/
def rdZ (l : List UInt8) : Int × Int × List UInt8 × Int :=
  if l = tru then (2, 1, [], 0)
  else if l = fls then (2, 0, [], 0)
  else if Lib.hasPrefix l [34] = true then ((rtZ l).1, 0, (rtZ l).2.1, (rtZ l).2.2)
  else ((riZ l).1, (riZ l).2.1, [], (riZ l).2.2)
def rdV (z : Int × Int × List UInt8 × Int) : Value := .tuple #[.agg #[.int .i64 z.1, .int .i64 z.2.1, .string ⟨z.2.2.1.toArray⟩], .int .i64 z.2.2.2]

theorem hasPrefix_any (s : ByteArray) (w : World) :
    Calls Tryz.prog 36 #[.string s, .string ⟨#[34]⟩] w fun e w' => e = .returned (.bool (Lib.hasPrefix s.data.toList [34])) ∧ w' = w :=
  Any.strings_HasPrefix Tryz.lays99 s ⟨#[34]⟩ w

set_option maxRecDepth 100000 in
set_option maxHeartbeats 1000000 in
theorem read_any (hV : VSaid vD Tabs) (hF : FSaid Tabs) (hP : PSaid Tabs) (hK : ∀ w w', Tabs w → Below w.heap.size w w' → Tabs w') (s : ByteArray) (w : World) (hs : s.size ≤ 281474976710656) (hT : Tabs w) :
    Calls Tryz.prog 131 #[.string s] w fun e w' => e = .returned (rdV (rdZ s.data.toList)) ∧ Below w.heap.size w w' := by
  have hT1 := hK w (w.alloc (Obj.cells #[Value.int IntKind.i64 0, Value.int IntKind.i64 0, Value.string { data := #[] }] 36)) hT ((Below.refl _ _).alloc (Nat.le_refl _) _)
  by_cases h1 : s.data.toList = tru
  · rw [show rdZ s.data.toList = (2, 1, [], 0) by unfold rdZ; rw [if_pos h1]]
    have b1 : (s.toList == [116, 114, 117, 101]) = true := by rw [ByteArray.toList_eq, h1]; rfl
    clear hV hF hP hK hT hT1 h1 hs
    go_enter Tryz.func131, Tryz.ntmps131
    go_wp2
    refine bodyPost_ret (v := rdV (2, 1, [], 0)) (by simp [results, Tryz.results131, go_sem, rdV]) rfl ⟨rfl, ?_⟩
    go_grown
  · have b1 : (s.toList == [116, 114, 117, 101]) = false := by rw [ByteArray.toList_eq, beq_eq_false_iff_ne]; exact h1
    by_cases h2 : s.data.toList = fls
    · rw [show rdZ s.data.toList = (2, 0, [], 0) by unfold rdZ; rw [if_neg h1, if_pos h2]]
      have b2 : (s.toList == [102, 97, 108, 115, 101]) = true := by rw [ByteArray.toList_eq, h2]; rfl
      clear hV hF hP hK hT hT1 h1 h2 hs
      go_enter Tryz.func131, Tryz.ntmps131
      go_wp2
      refine bodyPost_ret (v := rdV (2, 0, [], 0)) (by simp [results, Tryz.results131, go_sem, rdV]) rfl ⟨rfl, ?_⟩
      go_grown
    · have b2 : (s.toList == [102, 97, 108, 115, 101]) = false := by rw [ByteArray.toList_eq, beq_eq_false_iff_ne]; exact h2
      have cH := hasPrefix_any s
      cases h3 : Lib.hasPrefix s.data.toList [34] with
      | true =>
        rw [show rdZ s.data.toList = ((rtZ s.data.toList).1, 0, (rtZ s.data.toList).2.1, (rtZ s.data.toList).2.2) by unfold rdZ; rw [if_neg h1, if_neg h2, if_pos h3]]
        rw [h3] at cH
        have CH : Hid (∀ (W : World), Calls Tryz.prog 36 #[.string s, .string ⟨#[34]⟩] W fun e w' => e = .returned (.bool true) ∧ w' = W) := cH
        have cR := readText_any Tabs hV hK s _ hs hT1
        unfold rtV at cR
        generalize (rtZ s.data.toList).1 = zo at cR ⊢
        generalize (rtZ s.data.toList).2.1 = zt at cR ⊢
        generalize (rtZ s.data.toList).2.2 = ze at cR ⊢
        clear hV hF hP hK hT hT1 h1 h2 h3 cH hs
        go_enter Tryz.func131, Tryz.ntmps131
        go_wp2_with fail
        refine (CH.out _).mono ?_
        rintro e w1 ⟨rfl, rfl⟩
        go_wp2_with fail
        refine cR.mono ?_
        rintro e w1 ⟨rfl, hb1⟩
        have hbw : Below w.heap.size w w1 := ((Below.refl w.heap.size w).alloc (Nat.le_refl _) _).trans (hb1.mono (by simp))
        have hB : Box w1 w.heap.size 0 0 ⟨#[]⟩ := (Box.new w 0 0 ⟨#[]⟩ 36).keep hb1
        have f0 : w1.frozen? ⟨w.heap.size, 0, none⟩ = false := (hb1.frozen (p := ⟨w.heap.size, 0, none⟩) (by simp)).trans (by go_simp)
        have f1 : w1.frozen? ⟨w.heap.size, 1, none⟩ = false := (hb1.frozen (p := ⟨w.heap.size, 1, none⟩) (by simp)).trans (by go_simp)
        have f2 : w1.frozen? ⟨w.heap.size, 2, none⟩ = false := (hb1.frozen (p := ⟨w.heap.size, 2, none⟩) (by simp)).trans (by go_simp)
        obtain ⟨lt, r0, r1, r2⟩ := hB
        clear hb1 cR CH
        go_wp2
        refine bodyPost_ret (v := rdV (zo, 0, zt, ze)) (by simp [results, Tryz.results131, go_sem, rdV, r0, r1, r2]) rfl ⟨rfl, ?_⟩
        have hsz := hbw.size
        go_grown
      | false =>
        rw [show rdZ s.data.toList = ((riZ s.data.toList).1, (riZ s.data.toList).2.1, [], (riZ s.data.toList).2.2) by unfold rdZ; rw [if_neg h1, if_neg h2, if_neg (by rw [h3]; simp)]]
        rw [h3] at cH
        have CH : Hid (∀ (W : World), Calls Tryz.prog 36 #[.string s, .string ⟨#[34]⟩] W fun e w' => e = .returned (.bool false) ∧ w' = W) := cH
        have cR := readInt_any Tabs hF hP hK s _ hs hT1
        unfold riV at cR
        generalize (riZ s.data.toList).1 = zo at cR ⊢
        generalize (riZ s.data.toList).2.1 = zn at cR ⊢
        generalize (riZ s.data.toList).2.2 = ze at cR ⊢
        clear hV hF hP hK hT hT1 h1 h2 h3 cH hs
        go_enter Tryz.func131, Tryz.ntmps131
        go_wp2_with fail
        refine (CH.out _).mono ?_
        rintro e w1 ⟨rfl, rfl⟩
        go_wp2_with fail
        refine cR.mono ?_
        rintro e w1 ⟨rfl, hb1⟩
        have hbw : Below w.heap.size w w1 := ((Below.refl w.heap.size w).alloc (Nat.le_refl _) _).trans (hb1.mono (by simp))
        have hB : Box w1 w.heap.size 0 0 ⟨#[]⟩ := (Box.new w 0 0 ⟨#[]⟩ 36).keep hb1
        have f0 : w1.frozen? ⟨w.heap.size, 0, none⟩ = false := (hb1.frozen (p := ⟨w.heap.size, 0, none⟩) (by simp)).trans (by go_simp)
        have f1 : w1.frozen? ⟨w.heap.size, 1, none⟩ = false := (hb1.frozen (p := ⟨w.heap.size, 1, none⟩) (by simp)).trans (by go_simp)
        have f2 : w1.frozen? ⟨w.heap.size, 2, none⟩ = false := (hb1.frozen (p := ⟨w.heap.size, 2, none⟩) (by simp)).trans (by go_simp)
        obtain ⟨lt, r0, r1, r2⟩ := hB
        clear hb1 cR CH
        go_wp2
        refine bodyPost_ret (v := rdV (zo, zn, [], ze)) (by simp [results, Tryz.results131, go_sem, rdV, r0, r1, r2]) rfl ⟨rfl, ?_⟩
        have hsz := hbw.size
        go_grown
end Go.Proofs.YtipolobikigmbaaGreatDoor
/-
  Plain mathematics: what values.Read tells of a text and what values.Write makes of it are each other's ways back, for every text and every value.
-/
namespace Go.Proofs.YtipolobikigmbaaGreatDoor
open Go.RowKit Go.Shelf

theorem bstl (l : List UInt8) : (bs l).toList = l := by rw [ByteArray.toList_eq, bs_list]
theorem bsz (l : List UInt8) : (bs l).size = l.length := by rw [size_list, bs_list]
theorem empty_of {s : ByteArray} (h : s.toList.isEmpty = true) : s = ⟨#[]⟩ := by
  rw [ByteArray.toList_eq, List.isEmpty_iff] at h
  exact ByteArray.ext (Array.toList_inj.1 h)
theorem fb_true : Lib.formatBool true = tru := by decide
theorem fb_false : Lib.formatBool false = fls := by decide

theorem quo_parts (l : List UInt8) (h1 : ¬ l.length < 2) (h2 : l.getD (l.length - 1) 0 = 34) (h3 : Lib.hasPrefix l [34] = true) : l = 34 :: ((l.drop 1).take (l.length - 2) ++ [34]) := by
  match l, h1, h2, h3 with
  | [], h1, _, _ => simp at h1
  | c :: r, h1, h2, h3 =>
    have hc : c = 34 := by simp [Lib.hasPrefix] at h3; exact h3.symm
    subst hc
    rw [List.drop_one, List.tail_cons, List.length_cons]
    have hr : r ≠ [] := by intro e; subst e; simp at h1
    have hl : r.getLast hr = 34 := by
      rw [List.length_cons, List.getD] at h2
      have hlen : 0 < r.length := List.length_pos_iff.2 hr
      rw [show r.length + 1 - 1 = (r.length - 1) + 1 by omega, List.getElem?_cons_succ, List.getElem?_eq_getElem (by omega)] at h2
      rw [List.getLast_eq_getElem]
      exact h2
    have := List.dropLast_concat_getLast hr
    rw [hl] at this
    rw [show r.length + 1 - 2 = r.length - 1 by omega, ← List.dropLast_eq_take]
    rw [this]

/-- what is read well is written back -/
theorem rd_ok (l : List UInt8) (h : (rdZ l).2.2.2 = 0) : chkZ vD (rdZ l).1 (rdZ l).2.1 (bs (rdZ l).2.2.1) = 0 ∧ wtL (rdZ l).1 (rdZ l).2.1 (bs (rdZ l).2.2.1) = l ∧ -9223372036854775808 ≤ (rdZ l).2.1 ∧ (rdZ l).2.1 ≤ 9223372036854775807 ∧ (bs (rdZ l).2.2.1).size ≤ 100 := by
  have hemp : (bs []).toList.isEmpty = true := by rw [bstl]; rfl
  unfold rdZ at h ⊢
  by_cases h1 : l = tru
  · rw [if_pos h1]
    exact ⟨by simp [chkZ, argZ, hemp], by simp [wtL, fb_true, h1], by simp, by simp, by simp [bsz]⟩
  · rw [if_neg h1] at h ⊢
    by_cases h2 : l = fls
    · rw [if_pos h2]
      exact ⟨by simp [chkZ, argZ, hemp], by simp [wtL, fb_false, h2], by simp, by simp, by simp [bsz]⟩
    · rw [if_neg h2] at h ⊢
      by_cases h3 : Lib.hasPrefix l [34] = true
      · rw [if_pos h3] at h ⊢
        simp only at h ⊢
        by_cases q1 : l.length < 2
        · rw [rt_short l q1] at h; simp at h
        · by_cases q2 : l.getD (l.length - 1) 0 = 34
          · cases q3 : Lib.validD l with
            | false => rw [rt_utf l q3] at h; simp at h
            | true =>
              rw [rt_go l q1 q2 q3] at h ⊢
              have hp := quo_parts l q1 q2 h3
              cases hu : unq ((l.drop 1).take (l.length - 2)) with
              | none => rw [hu] at h; simp at h
              | some t =>
                rw [hu] at h
                simp only at h ⊢
                by_cases q4 : 100 < t.length
                · rw [if_pos q4] at h; simp at h
                · rw [if_neg q4]
                  have hb := esc_unq _ _ t (Nat.le_refl _) hu
                  have hq : l = quo t := by rw [hb] at hp; exact hp
                  have hv : vD (bs t) = true := by unfold vD; rw [bs_list, ← valid_quo, ← hq]; exact q3
                  refine ⟨(text_zero vD 0 (bs t)).2 ⟨rfl, by rw [bsz]; omega, hv⟩, ?_, by simp, by simp, by show (bs t).size ≤ 100; rw [bsz]; omega⟩
                  show quo (bs t).data.toList = l
                  rw [bs_list]; exact hq.symm
          · rw [rt_last l q2] at h; simp at h
      · rw [if_neg h3] at h ⊢
        simp only at h ⊢
        unfold riZ at h ⊢
        cases hp : Lib.parseIntB 64 l with
        | ok v =>
          rw [hp] at h
          simp only at h ⊢
          by_cases q : Lib.itoa v = l
          · rw [if_pos q]
            have := parse_bd l v hp
            exact ⟨by simp [chkZ, argZ, hemp], by simp [wtL, q], this.1, this.2, by simp [bsz]⟩
          · rw [if_neg q] at h; simp at h
        | _ => rw [hp] at h; simp at h

/-- what is written is read as it was -/
theorem wr_ok (so n : Int) (s : ByteArray) (h0 : -9223372036854775808 ≤ n) (h1 : n ≤ 9223372036854775807) (h : chkZ vD so n s = 0) : rdZ (wtL so n s) = (so, n, s.data.toList, 0) := by
  rcases chk_sorts vD so n s h with rfl | rfl | rfl
  · have hs : s = ⟨#[]⟩ := empty_of ((argZ_zero _).1 h)
    subst hs
    show rdZ (Lib.itoa n) = _
    obtain ⟨c, r, e, hc⟩ := itoa_head n
    have n1 : Lib.itoa n ≠ tru := by rw [e]; intro x; have := (List.cons.inj x).1; subst this; revert hc; decide
    have n2 : Lib.itoa n ≠ fls := by rw [e]; intro x; have := (List.cons.inj x).1; subst this; revert hc; decide
    have n3 : ¬ Lib.hasPrefix (Lib.itoa n) [34] = true := by
      rw [e]; simp [Lib.hasPrefix]; intro x; subst x; revert hc; decide
    unfold rdZ
    rw [if_neg n1, if_neg n2, if_neg n3]
    unfold riZ
    rw [parse_itoa n h0 h1]
    simp
  · have hq := (argZ_zero _).1 h
    simp only [Bool.and_eq_true, Bool.or_eq_true, beq_iff_eq] at hq
    have hs : s = ⟨#[]⟩ := empty_of hq.1
    subst hs
    rcases hq.2 with rfl | rfl
    · show rdZ (Lib.formatBool false) = _
      rw [fb_false]; decide
    · show rdZ (Lib.formatBool true) = _
      rw [fb_true]; decide
  · obtain ⟨rfl, hl, hv⟩ := (text_zero vD n s).1 h
    show rdZ (quo s.data.toList) = _
    have hv' : Lib.validD (quo s.data.toList) = true := by rw [valid_quo]; exact hv
    generalize ht : s.data.toList = t at *
    have hl' : t.length ≤ 100 := by rw [← ht, ← size_list]; exact hl
    have n1 : quo t ≠ tru := by intro x; exact absurd (List.cons.inj x).1 (by decide)
    have n2 : quo t ≠ fls := by intro x; exact absurd (List.cons.inj x).1 (by decide)
    have n3 : Lib.hasPrefix (quo t) [34] = true := by simp [Lib.hasPrefix, quo]
    have q1 : ¬ (quo t).length < 2 := by simp [quo]
    have q2 : (quo t).getD ((quo t).length - 1) 0 = 34 := by simp [quo]
    have hb : ((quo t).drop 1).take ((quo t).length - 2) = esc t := by simp [quo]
    unfold rdZ
    rw [if_neg n1, if_neg n2, if_pos n3, rt_go _ q1 q2 hv', hb, unq_esc]
    simp only
    rw [if_neg (by omega)]

end Go.Proofs.YtipolobikigmbaaGreatDoor
