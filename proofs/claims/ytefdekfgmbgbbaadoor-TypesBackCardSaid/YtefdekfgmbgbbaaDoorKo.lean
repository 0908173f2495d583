/-
  The contract of types.readWord, if that of types.read holds of shorter texts.
-/
import Derived.Test.YtefdekfgmbgbbaaDoorKn
namespace Go.Proofs.YtefdekfgmbgbbaaDoor
open Go.RowKit Go.Shelf

set_option maxRecDepth 100000 in
set_option maxHeartbeats 2000000 in
theorem readWord_any (n : Nat) (hR : RDSaid n) (rb p : Nat) (s : ByteArray) (w : World) (h : RS w rb s p) (hn : (rs s p).length < n + 1) :
    Calls Tryd.prog 37 #[.pointer (some ⟨rb, 0, none⟩)] w fun e w' => GPost s rb (TyR w (n + 1)) (rdWord (rdT n) (rs s p)) e w' ∧ FR rb w w' := by
  have hrl := h.lt
  have HA := hideK (h.al (.cells #[.int .i64 0, .int .i64 0, .string ⟨#[]⟩, .slice none 0 0, .slice none 0 0] 25))
  have HZ := hideK (ZT.new w)
  have HF := hideK (FR.al (pb := rb) (w := w) (.cells #[.int .i64 0, .int .i64 0, .string ⟨#[]⟩, .slice none 0 0, .slice none 0 0] 25))
  have cW := word_any rb p s _ HA.out
  have b1 : ((bs (wd (rs s p))).toList == [101, 110, 100]) = decide (wd (rs s p) = [101, 110, 100]) := by rw [beqL, bs_list]
  have b2 : ((bs (wd (rs s p))).toList == [114, 101, 99]) = decide (wd (rs s p) = [114, 101, 99]) := by rw [beqL, bs_list]
  have hwl := wd_at s p h.le
  rw [bs_size] at hwl
  unfold rdWord
  by_cases h1 : wd (rs s p) = [101, 110, 100]
  · rw [if_pos h1]
    rw [decide_eq_true h1] at b1
    rw [h1] at hwl
    have HP := hideK (fun (w1 : World) (h1 : RS w1 rb s p) => pass_any rb p 3 s w1 h1 hwl)
    simp only [GPost]
    clear h hwl h1 b2 hn
    generalize bs (wd (rs s p)) = t at *
    go_enter Tryd.func37, Tryd.ntmps37
    go_wp2_with (first
      | (go_at_call 58; refine cW.mono ?_; rintro e w1 ⟨rfl, hb1⟩; have H1 := hideK (HA.out.keep hb1); have F1 := hideK (HF.out.trans (FR.of hb1)); have Z1 := hideK (HZ.out.keep (FR.of hb1 (pb := rb)) (by omega)))
      | (go_at_call 33; refine (HP.out _ H1.out).mono ?_; rintro e w2 ⟨rfl, hx, hf⟩; have F2 := hideK (F1.out.trans hf); have Z2 := Z1.out.keep hf (by omega); obtain ⟨zl, z0, z1, z2, z3, z4, y0, y1, y2, y3, y4⟩ := id Z2))
    obtain ⟨q, hq1, hq2⟩ := hx
    have TA := Z2.st ⟨1, 0, ⟨#[]⟩, [], []⟩ none 0 none 0
    have R5 := hq1.st (b := w.heap.size) (by omega) (.int .i64 1) (.int .i64 0) (.string ⟨#[]⟩) (.slice none 0 0) (.slice none 0 0)
    have F5 := F2.out.st (Nat.le_refl _) (.int .i64 1) (.int .i64 0) (.string ⟨#[]⟩) (.slice none 0 0) (.slice none 0 0)
    change TyAt (st5 w2 w.heap.size 0 (.int .i64 1) (.int .i64 0) (.string ⟨#[]⟩) (.slice none 0 0) (.slice none 0 0)) _ _ _ _ _ _ _ at TA
    change bodyPost _ _ _ _ _ (st5 w2 w.heap.size 0 (.int .i64 1) (.int .i64 0) (.string ⟨#[]⟩) (.slice none 0 0) (.slice none 0 0))
    generalize st5 w2 w.heap.size 0 (.int .i64 1) (.int .i64 0) (.string ⟨#[]⟩) (.slice none 0 0) (.slice none 0 0) = W5 at *
    obtain ⟨r0, r1, r2, r3, r4⟩ := TA
    simp only [Nat.zero_add, List.length_nil] at r1 r2 r3 r4
    refine bodyPost_ret (v := tyVal ⟨1, 0, ⟨#[]⟩, [], []⟩ none 0 none 0) (by simp [results, Tryd.results37, go_sem, tyVal, r0, r1, r2, r3, r4]) rfl ?_
    exact ⟨⟨_, rfl, ⟨none, 0, none, 0, rfl, GT.leaf _ _ _ _ _ _ (by decide)⟩, q, R5, hq2⟩, F5⟩
  rw [if_neg h1]
  rw [decide_eq_false h1] at b1
  clear h1
  by_cases h2 : wd (rs s p) = [114, 101, 99]
  · rw [if_pos h2]
    rw [decide_eq_true h2] at b2
    rw [h2] at hwl
    have HP := hideK (fun (w1 : World) (h1 : RS w1 rb s p) => pass_any rb p 3 s w1 h1 hwl)
    have hs3 : (skB ((rs s p).drop 3)).length + 3 ≤ (rs s p).length := skd_len 3 _ (wd_pre _ _ h2)
    clear h hwl h2
    generalize bs (wd (rs s p)) = t at *
    generalize skB ((rs s p).drop 3) = l1 at *
    unfold rdRec
    cases hV : rdVar l1 with
    | error r =>
      simp only [GPost]
      go_enter Tryd.func37, Tryd.ntmps37
      go_wp2_with (first
          | (go_at_call 58; refine cW.mono ?_; rintro e w1 ⟨rfl, hb1⟩; have H1 := hideK (HA.out.keep hb1); have F1 := hideK (HF.out.trans (FR.of hb1)); have Z1 := hideK (HZ.out.keep (FR.of hb1 (pb := rb)) (by omega)))
          | (go_at_call 33; refine (HP.out _ H1.out).mono ?_; rintro e w2 ⟨rfl, ⟨q1, hq1, hl1⟩, hf2⟩; have F2 := hideK (F1.out.trans hf2); have Z2 := hideK (Z1.out.keep hf2 (by omega)))
          | (go_at_call 59; refine (readVar_bad hV rb q1 s _ hq1 hl1).mono ?_; rintro e w3 ⟨rfl, hf3⟩; have F3 := hideK (F2.out.trans hf3)))
      exact ⟨rfl, rfl, F3.out⟩
    | ok x =>
      obtain ⟨nm, l2⟩ := x
      have a1 := rdVar_ok hV
      have hnm : nm.size ≤ 9223372036854775807 := by have h8 := vr_len _ a1.1; have e : nm.size = nm.data.toList.length := (by simp); rw [e]; omega
      simp only
      cases hN : need 46 l2 with
      | error r =>
        simp only [GPost]
        clear hs3 hn a1
        go_enter Tryd.func37, Tryd.ntmps37
        go_wp2_with (first
          | (go_at_call 58; refine cW.mono ?_; rintro e w1 ⟨rfl, hb1⟩; have H1 := hideK (HA.out.keep hb1); have F1 := hideK (HF.out.trans (FR.of hb1)); have Z1 := hideK (HZ.out.keep (FR.of hb1 (pb := rb)) (by omega)))
          | (go_at_call 33; refine (HP.out _ H1.out).mono ?_; rintro e w2 ⟨rfl, ⟨q1, hq1, hl1⟩, hf2⟩; have F2 := hideK (F1.out.trans hf2); have Z2 := hideK (Z1.out.keep hf2 (by omega)))
          | (go_at_call 59; refine (readVar_ok hV rb q1 s _ hq1 hl1).mono ?_; rintro e w3 ⟨rfl, ⟨q2, hq2, hl2⟩, hf3⟩; have F3 := hideK (F2.out.trans hf3); have Z3 := hideK (Z2.out.keep hf3 (by omega)))
          | (go_at_call 54; refine (need_bad hN rb q2 s _ hq2 hl2).mono ?_; rintro e w4 ⟨rfl, hf4⟩; have F4 := hideK (F3.out.trans hf4)))
        exact ⟨rfl, rfl, F4.out⟩
      | ok l3 =>
        have a2 := need_ok hN
        simp only
        have hlt : l3.length < n := by omega
        cases hT : rdT n l3 with
        | error r =>
          simp only [GPost]
          clear hs3 hn a1 a2
          go_enter Tryd.func37, Tryd.ntmps37
          go_wp2_with (first
          | (go_at_call 58; refine cW.mono ?_; rintro e w1 ⟨rfl, hb1⟩; have H1 := hideK (HA.out.keep hb1); have F1 := hideK (HF.out.trans (FR.of hb1)); have Z1 := hideK (HZ.out.keep (FR.of hb1 (pb := rb)) (by omega)))
          | (go_at_call 33; refine (HP.out _ H1.out).mono ?_; rintro e w2 ⟨rfl, ⟨q1, hq1, hl1⟩, hf2⟩; have F2 := hideK (F1.out.trans hf2); have Z2 := hideK (Z1.out.keep hf2 (by omega)))
          | (go_at_call 59; refine (readVar_ok hV rb q1 s _ hq1 hl1).mono ?_; rintro e w3 ⟨rfl, ⟨q2, hq2, hl2⟩, hf3⟩; have F3 := hideK (F2.out.trans hf3); have Z3 := hideK (Z2.out.keep hf3 (by omega)))
          | (go_at_call 54; refine (need_good hN rb q2 s _ hq2 hl2).mono ?_; rintro e w4 ⟨rfl, ⟨q3, hq3, hl3⟩, hf4⟩; have F4 := hideK (F3.out.trans hf4); have Z4 := hideK (Z3.out.keep hf4 (by omega)))
          | (go_at_call 17; refine (read_bad hR hT hlt rb q3 s _ hq3 hl3).mono ?_; rintro e w5 ⟨rfl, hf5⟩; have F5 := hideK (F4.out.trans hf5)))
          exact ⟨rfl, rfl, F5.out⟩
        | ok x =>
          obtain ⟨d, l4⟩ := x
          simp only [GPost]
          clear hs3 hn a1 a2
          go_enter Tryd.func37, Tryd.ntmps37
          go_wp2_with (first
          | (go_at_call 58; refine cW.mono ?_; rintro e w1 ⟨rfl, hb1⟩; have H1 := hideK (HA.out.keep hb1); have F1 := hideK (HF.out.trans (FR.of hb1)); have Z1 := hideK (HZ.out.keep (FR.of hb1 (pb := rb)) (by omega)))
          | (go_at_call 33; refine (HP.out _ H1.out).mono ?_; rintro e w2 ⟨rfl, ⟨q1, hq1, hl1⟩, hf2⟩; have F2 := hideK (F1.out.trans hf2); have Z2 := hideK (Z1.out.keep hf2 (by omega)))
          | (go_at_call 59; refine (readVar_ok hV rb q1 s _ hq1 hl1).mono ?_; rintro e w3 ⟨rfl, ⟨q2, hq2, hl2⟩, hf3⟩; have F3 := hideK (F2.out.trans hf3); have Z3 := hideK (Z2.out.keep hf3 (by omega)))
          | (go_at_call 54; refine (need_good hN rb q2 s _ hq2 hl2).mono ?_; rintro e w4 ⟨rfl, ⟨q3, hq3, hl3⟩, hf4⟩; have F4 := hideK (F3.out.trans hf4); have Z4 := hideK (Z3.out.keep hf4 (by omega)))
          | (go_at_call 17; refine (read_ok hR hT hlt rb q3 s _ hq3 hl3).mono ?_; rintro e w5 ⟨⟨al, cl, ak, ck, rfl, hg⟩, ⟨q4, hq4, hl4⟩, hf5⟩; have F5 := hideK (F4.out.trans hf5); have Z5 := hideK (Z4.out.keep hf5 (by omega)); have Z6 := (Z5.out.keep (FR.al (pb := rb) (.cells #[.int .i64 d.kind, .int .i64 d.so, .string d.name, .slice al d.labels.length cl, .slice ak d.kids.length ck] 25)) (by omega)); obtain ⟨zl, z0, z1, z2, z3, z4, y0, y1, y2, y3, y4⟩ := id Z6))
          have TA := (Z6).st ⟨8, 0, nm, [], [d]⟩ none 0 (some ⟨w5.heap.size, 0, none⟩) 1
          have R9 := (hq4.al (.cells #[.int .i64 d.kind, .int .i64 d.so, .string d.name, .slice al d.labels.length cl, .slice ak d.kids.length ck] 25)).st (b := w.heap.size) (by omega) (.int .i64 8) (.int .i64 0) (.string nm) (.slice none 0 0) (.slice (some ⟨w5.heap.size, 0, none⟩) 1 1)
          have F9 := (F5.out.trans (FR.al (.cells #[.int .i64 d.kind, .int .i64 d.so, .string d.name, .slice al d.labels.length cl, .slice ak d.kids.length ck] 25))).st (Nat.le_refl _) (.int .i64 8) (.int .i64 0) (.string nm) (.slice none 0 0) (.slice (some ⟨w5.heap.size, 0, none⟩) 1 1)
          have G9 := hg.one (w := w) (b := w.heap.size) (Nat.le_refl _) Z4.out.lt hf5.size 8 0 nm hnm (.int .i64 8) (.int .i64 0) (.string nm) (.slice none 0 0) (.slice (some ⟨w5.heap.size, 0, none⟩) 1 1)
          change TyAt (st5 (w5.alloc (.cells #[.int .i64 d.kind, .int .i64 d.so, .string d.name, .slice al d.labels.length cl, .slice ak d.kids.length ck] 25)) w.heap.size 0 (.int .i64 8) (.int .i64 0) (.string nm) (.slice none 0 0) (.slice (some ⟨w5.heap.size, 0, none⟩) 1 1)) _ _ _ _ _ _ _ at TA
          change GT _ (st5 (w5.alloc (.cells #[.int .i64 d.kind, .int .i64 d.so, .string d.name, .slice al d.labels.length cl, .slice ak d.kids.length ck] 25)) w.heap.size 0 (.int .i64 8) (.int .i64 0) (.string nm) (.slice none 0 0) (.slice (some ⟨w5.heap.size, 0, none⟩) 1 1)) _ _ _ _ _ _ at G9
          change bodyPost _ _ _ _ _ (st5 (w5.alloc (.cells #[.int .i64 d.kind, .int .i64 d.so, .string d.name, .slice al d.labels.length cl, .slice ak d.kids.length ck] 25)) w.heap.size 0 (.int .i64 8) (.int .i64 0) (.string nm) (.slice none 0 0) (.slice (some ⟨w5.heap.size, 0, none⟩) 1 1))
          generalize st5 (w5.alloc (.cells #[.int .i64 d.kind, .int .i64 d.so, .string d.name, .slice al d.labels.length cl, .slice ak d.kids.length ck] 25)) w.heap.size 0 (.int .i64 8) (.int .i64 0) (.string nm) (.slice none 0 0) (.slice (some ⟨w5.heap.size, 0, none⟩) 1 1) = W9 at TA R9 F9 G9 ⊢
          obtain ⟨r0, r1, r2, r3, r4⟩ := TA
          simp only [Nat.zero_add, List.length_nil, List.length_cons] at r1 r2 r3 r4
          refine bodyPost_ret (v := tyVal ⟨8, 0, nm, [], [d]⟩ none 0 (some ⟨w5.heap.size, 0, none⟩) 1) (by simp [results, Tryd.results37, go_sem, tyVal, r0, r1, r2, r3, r4]) rfl ?_
          exact ⟨⟨_, rfl, ⟨_, _, _, _, rfl, G9⟩, q4, R9, hl4⟩, F9⟩
  rw [if_neg h2]
  rw [decide_eq_false h2] at b2
  clear h2 h hwl hn
  generalize bs (wd (rs s p)) = t at *
  unfold rdName
  cases hV : rdVar (rs s p) with
  | error r =>
    simp only [GPost]
    go_enter Tryd.func37, Tryd.ntmps37
    go_wp2_with (first
      | (go_at_call 58; refine cW.mono ?_; rintro e w1 ⟨rfl, hb1⟩; have H1 := hideK (HA.out.keep hb1); have F1 := hideK (HF.out.trans (FR.of hb1)); have Z1 := hideK (HZ.out.keep (FR.of hb1 (pb := rb)) (by omega)))
      | (go_at_call 59; refine (readVar_bad hV rb p s _ H1.out rfl).mono ?_; rintro e w3 ⟨rfl, hf3⟩; have F3 := hideK (F1.out.trans hf3)))
    exact ⟨rfl, rfl, F3.out⟩
  | ok x =>
    obtain ⟨nm, l2⟩ := x
    have a1 := rdVar_ok hV
    have hnm : nm.size ≤ 9223372036854775807 := by have h8 := vr_len _ a1.1; have e : nm.size = nm.data.toList.length := (by simp); rw [e]; omega
    simp only [GPost]
    clear a1
    go_enter Tryd.func37, Tryd.ntmps37
    go_wp2_with (first
      | (go_at_call 58; refine cW.mono ?_; rintro e w1 ⟨rfl, hb1⟩; have H1 := hideK (HA.out.keep hb1); have F1 := hideK (HF.out.trans (FR.of hb1)); have Z1 := hideK (HZ.out.keep (FR.of hb1 (pb := rb)) (by omega)))
      | (go_at_call 59; refine (readVar_ok hV rb p s _ H1.out rfl).mono ?_; rintro e w3 ⟨rfl, ⟨q2, hq2, hl2⟩, hf3⟩; have F3 := hideK (F1.out.trans hf3); have Z3 := (Z1.out.keep hf3 (by omega)); obtain ⟨zl, z0, z1, z2, z3, z4, y0, y1, y2, y3, y4⟩ := id Z3))
    have TA := (Z3).st ⟨9, 0, nm, [], []⟩ none 0 none 0
    have R9 := (hq2).st (b := w.heap.size) (by omega) (.int .i64 9) (.int .i64 0) (.string nm) (.slice none 0 0) (.slice none 0 0)
    have F9 := (F3.out).st (Nat.le_refl _) (.int .i64 9) (.int .i64 0) (.string nm) (.slice none 0 0) (.slice none 0 0)
    have G9 := GT.leaf w (st5 w3 w.heap.size 0 (.int .i64 9) (.int .i64 0) (.string nm) (.slice none 0 0) (.slice none 0 0)) (n + 1) 9 0 nm hnm
    change TyAt (st5 (w3) w.heap.size 0 (.int .i64 9) (.int .i64 0) (.string nm) (.slice none 0 0) (.slice none 0 0)) _ _ _ _ _ _ _ at TA
    change GT _ (st5 (w3) w.heap.size 0 (.int .i64 9) (.int .i64 0) (.string nm) (.slice none 0 0) (.slice none 0 0)) _ _ _ _ _ _ at G9
    change bodyPost _ _ _ _ _ (st5 (w3) w.heap.size 0 (.int .i64 9) (.int .i64 0) (.string nm) (.slice none 0 0) (.slice none 0 0))
    generalize st5 (w3) w.heap.size 0 (.int .i64 9) (.int .i64 0) (.string nm) (.slice none 0 0) (.slice none 0 0) = W9 at TA R9 F9 G9 ⊢
    obtain ⟨r0, r1, r2, r3, r4⟩ := TA
    simp only [Nat.zero_add, List.length_nil] at r1 r2 r3 r4
    refine bodyPost_ret (v := tyVal ⟨9, 0, nm, [], []⟩ none 0 none 0) (by simp [results, Tryd.results37, go_sem, tyVal, r0, r1, r2, r3, r4]) rfl ?_
    exact ⟨⟨_, rfl, ⟨_, _, _, _, rfl, G9⟩, q2, R9, hl2⟩, F9⟩
end Go.Proofs.YtefdekfgmbgbbaaDoor
