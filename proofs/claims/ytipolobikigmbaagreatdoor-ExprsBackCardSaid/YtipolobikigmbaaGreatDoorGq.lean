/-
  The contract of exprs.word, if that of operand holds of shorter texts.
-/
import Derived.Test.YtipolobikigmbaaGreatDoorGp
namespace Go.Proofs.YtipolobikigmbaaGreatDoor
open Go.RowKit Go.Shelf
set_option maxRecDepth 100000 in
set_option maxHeartbeats 2000000 in
theorem exprsWord_any {Tabs : World → Prop} {s : ByteArray} {rb n : Nat} (hF : ∀ w w', Tabs w → FR rb w w' → Tabs w') (hV : RVSaid Tabs) (hO : EOSaid Tabs s rb n) (p : Nat) (w : World) (hT : Tabs w) (h : RS w rb s p) (hn : 2 * (rs s p).length + 1 < n + 1) :
    Calls Tryz.prog 101 #[.pointer (some ⟨rb, 0, none⟩), .string (bs (wd (rs s p)))] w fun e w' => EPost s rb w (rdWd rdZ (rdX rdZ n none) (rs s p)) e w' ∧ FR rb w w' := by
  have hrl := h.lt
  have HA := hideK (h.al (.cells #[.int .i64 0, .string ⟨#[]⟩, .int .i64 0, .int .i64 0, .string ⟨#[]⟩, .slice none 0 0] 39))
  have HT := hideK (hF _ _ hT (FR.al (pb := rb) (.cells #[.int .i64 0, .string ⟨#[]⟩, .int .i64 0, .int .i64 0, .string ⟨#[]⟩, .slice none 0 0] 39)))
  have HZ := hideK (ZE.new w 39)
  have HF := hideK (FR.al (pb := rb) (w := w) (.cells #[.int .i64 0, .string ⟨#[]⟩, .int .i64 0, .int .i64 0, .string ⟨#[]⟩, .slice none 0 0] 39))
  have b1 : ((bs (wd (rs s p))).toList == [116, 114, 117, 101]) = decide (wd (rs s p) = [116, 114, 117, 101]) := by rw [beqL, bs_list]
  have b2 : ((bs (wd (rs s p))).toList == [102, 97, 108, 115, 101]) = decide (wd (rs s p) = [102, 97, 108, 115, 101]) := by rw [beqL, bs_list]
  have b3 : ((bs (wd (rs s p))).toList == [110, 111, 116]) = decide (wd (rs s p) = [110, 111, 116]) := by rw [beqL, bs_list]
  have hwl := wd_at s p h.le
  have hsz := h.sz
  unfold rdWd
  by_cases h1 : wd (rs s p) = [116, 114, 117, 101] ∨ wd (rs s p) = [102, 97, 108, 115, 101]
  · rw [if_pos h1]
    have cV := value_any hV (fun w w' h1 h2 => hF w w' h1 (FR.of h2)) (bs (wd (rs s p))) rb p s _ HT.out HA.out hwl
    rw [bs_list] at cV
    have hb : ((bs (wd (rs s p))).toList == [116, 114, 117, 101]) = true ∨ (((bs (wd (rs s p))).toList == [116, 114, 117, 101]) = false ∧ ((bs (wd (rs s p))).toList == [102, 97, 108, 115, 101]) = true) := by
      rw [b1, b2]
      rcases h1 with h1 | h1
      · exact .inl (decide_eq_true h1)
      · refine .inr ⟨decide_eq_false (fun h2 => ?_), decide_eq_true h1⟩
        rw [h1] at h2
        exact absurd h2 (by decide)
    clear b1 b2 b3 hwl h1 hn h hT
    generalize bs (wd (rs s p)) = t at *
    cases hX : rdVal rdZ (rs s p) (wd (rs s p)) with
    | error y =>
      obtain ⟨c, r⟩ := y
      rcases hb with hb | ⟨hb, hb2⟩
      all_goals
        go_enter Tryz.func101, Tryz.ntmps101
        go_wp2_with fail
        refine (post_bad cV hX).mono ?_
        rintro e w8 ⟨rfl, hf8⟩
        go_wp2_with fail
        exact ⟨rfl, EPost.no, HF.out.trans hf8⟩
    | ok y =>
      obtain ⟨x, r⟩ := y
      rcases hb with hb | ⟨hb, hb2⟩
      all_goals
        go_enter Tryz.func101, Tryz.ntmps101
        go_wp2_with fail
        refine (post_ok cV hX).mono ?_
        rintro e w8 ⟨⟨d, ao, cap, rfl, hg⟩, ⟨q8, hq8, hl8⟩, hf8⟩
        have Z8 := hideK (HZ.out.keepF hf8 (by omega))
        obtain ⟨zl, z0, z1, z2, z3, z4, z5, zf⟩ := id Z8.out
        have f0 := zf 0
        have f1 := zf 1
        have f2 := zf 2
        have f3 := zf 3
        have f4 := zf 4
        have f5 := zf 5
        have HG := hideK hg
        clear hg zf
        go_wp2_with fail
        have TA := st6_at (w8) w.heap.size 0 x (ao) (cap) (ZE.six Z8.out)
        have R9 := (hq8).st6 (b := w.heap.size) (by omega) (.int .i64 x.kind) (.string x.name) (.int .i64 x.so) (.int .i64 x.n) (.string x.s) (.slice ao x.kids.length cap)
        have F9 := ((HF.out.trans hf8)).st6 (b := w.heap.size) (Nat.le_refl _) (.int .i64 x.kind) (.string x.name) (.int .i64 x.so) (.int .i64 x.n) (.string x.s) (.slice ao x.kids.length cap)
        have G9 := (HG.out.st6 (w := w) (b := w.heap.size) HZ.out.lt (by have := HZ.out.lt; omega) (.int .i64 x.kind) (.string x.name) (.int .i64 x.so) (.int .i64 x.n) (.string x.s) (.slice ao x.kids.length cap))
        change ExAt (st6 (w8) w.heap.size 0 (.int .i64 x.kind) (.string x.name) (.int .i64 x.so) (.int .i64 x.n) (.string x.s) (.slice ao x.kids.length cap)) _ _ _ _ _ at TA
        change bodyPost _ _ _ _ _ (st6 (w8) w.heap.size 0 (.int .i64 x.kind) (.string x.name) (.int .i64 x.so) (.int .i64 x.n) (.string x.s) (.slice ao x.kids.length cap))
        change GE _ (st6 (w8) w.heap.size 0 (.int .i64 x.kind) (.string x.name) (.int .i64 x.so) (.int .i64 x.n) (.string x.s) (.slice ao x.kids.length cap)) _ _ _ _ at G9
        generalize st6 (w8) w.heap.size 0 (.int .i64 x.kind) (.string x.name) (.int .i64 x.so) (.int .i64 x.n) (.string x.s) (.slice ao x.kids.length cap) = W9 at TA R9 F9 G9 ⊢
        obtain ⟨r0, r1, r2, r3, r4, r5⟩ := TA
        simp only [Nat.zero_add] at r0 r1 r2 r3 r4 r5
        refine bodyPost_ret (v := .agg #[.int .i64 x.kind, .string x.name, .int .i64 x.so, .int .i64 x.n, .string x.s, .slice ao x.kids.length cap]) (by simp [results, Tryz.results101, go_sem, r0, r1, r2, r3, r4, r5]) rfl ?_
        exact ⟨EPost.yes ⟨_, _, _, rfl, G9⟩ R9 hl8, F9⟩
  rw [if_neg h1]
  have n1 : ((bs (wd (rs s p))).toList == [116, 114, 117, 101]) = false := b1.trans (decide_eq_false (fun e => h1 (.inl e)))
  have n2 : ((bs (wd (rs s p))).toList == [102, 97, 108, 115, 101]) = false := b2.trans (decide_eq_false (fun e => h1 (.inr e)))
  clear b1 b2
  by_cases h3 : wd (rs s p) = [110, 111, 116]
  · rw [if_pos h3]
    rw [decide_eq_true h3] at b3
    have hz3 : (bs (wd (rs s p))).size = 3 := by rw [bs_size, h3]; rfl
    have cO := ofOne_any hF hO [110, 111, 116] (by decide) 3 p _ HT.out HA.out (by decide) (by rw [hz3] at hwl; exact hwl) hn
    simp only [bs] at cO
    have hzi : ((bs (wd (rs s p))).size : Int) = 3 := by rw [hz3]; rfl
    clear hwl h1 h3 hn h hT hz3
    generalize bs (wd (rs s p)) = t at *
    cases hX : rdOne (rdX rdZ n none) [110, 111, 116] 3 (rs s p) with
    | error y =>
      obtain ⟨c, r⟩ := y
      go_enter Tryz.func101, Tryz.ntmps101
      go_wp2_with fail
      refine (post_bad cO hX).mono ?_
      rintro e w8 ⟨rfl, hf8⟩
      go_wp2_with fail
      exact ⟨rfl, EPost.no, HF.out.trans hf8⟩
    | ok y =>
      obtain ⟨x, r⟩ := y
      go_enter Tryz.func101, Tryz.ntmps101
      go_wp2_with fail
      refine (post_ok cO hX).mono ?_
      rintro e w8 ⟨⟨d, ao, cap, rfl, hg⟩, ⟨q8, hq8, hl8⟩, hf8⟩
      have Z8 := hideK (HZ.out.keepF hf8 (by omega))
      obtain ⟨zl, z0, z1, z2, z3, z4, z5, zf⟩ := id Z8.out
      have f0 := zf 0
      have f1 := zf 1
      have f2 := zf 2
      have f3 := zf 3
      have f4 := zf 4
      have f5 := zf 5
      have HG := hideK hg
      clear hg zf
      go_wp2_with fail
      have TA := st6_at (w8) w.heap.size 0 x (ao) (cap) (ZE.six Z8.out)
      have R9 := (hq8).st6 (b := w.heap.size) (by omega) (.int .i64 x.kind) (.string x.name) (.int .i64 x.so) (.int .i64 x.n) (.string x.s) (.slice ao x.kids.length cap)
      have F9 := ((HF.out.trans hf8)).st6 (b := w.heap.size) (Nat.le_refl _) (.int .i64 x.kind) (.string x.name) (.int .i64 x.so) (.int .i64 x.n) (.string x.s) (.slice ao x.kids.length cap)
      have G9 := (HG.out.st6 (w := w) (b := w.heap.size) HZ.out.lt (by have := HZ.out.lt; omega) (.int .i64 x.kind) (.string x.name) (.int .i64 x.so) (.int .i64 x.n) (.string x.s) (.slice ao x.kids.length cap))
      change ExAt (st6 (w8) w.heap.size 0 (.int .i64 x.kind) (.string x.name) (.int .i64 x.so) (.int .i64 x.n) (.string x.s) (.slice ao x.kids.length cap)) _ _ _ _ _ at TA
      change bodyPost _ _ _ _ _ (st6 (w8) w.heap.size 0 (.int .i64 x.kind) (.string x.name) (.int .i64 x.so) (.int .i64 x.n) (.string x.s) (.slice ao x.kids.length cap))
      change GE _ (st6 (w8) w.heap.size 0 (.int .i64 x.kind) (.string x.name) (.int .i64 x.so) (.int .i64 x.n) (.string x.s) (.slice ao x.kids.length cap)) _ _ _ _ at G9
      generalize st6 (w8) w.heap.size 0 (.int .i64 x.kind) (.string x.name) (.int .i64 x.so) (.int .i64 x.n) (.string x.s) (.slice ao x.kids.length cap) = W9 at TA R9 F9 G9 ⊢
      obtain ⟨r0, r1, r2, r3, r4, r5⟩ := TA
      simp only [Nat.zero_add] at r0 r1 r2 r3 r4 r5
      refine bodyPost_ret (v := .agg #[.int .i64 x.kind, .string x.name, .int .i64 x.so, .int .i64 x.n, .string x.s, .slice ao x.kids.length cap]) (by simp [results, Tryz.results101, go_sem, r0, r1, r2, r3, r4, r5]) rfl ?_
      exact ⟨EPost.yes ⟨_, _, _, rfl, G9⟩ R9 hl8, F9⟩
  rw [if_neg h3]
  rw [decide_eq_false h3] at b3
  have cN := isName_any (bs (wd (rs s p))) (w.alloc (.cells #[.int .i64 0, .string ⟨#[]⟩, .int .i64 0, .int .i64 0, .string ⟨#[]⟩, .slice none 0 0] 39)) (by omega)
  rw [bs_list] at cN
  clear h1 h3
  by_cases h4 : isNm (wd (rs s p)) = true
  · rw [if_pos h4]
    rw [h4] at cN
    have cC := hideK (fun w1 => cloneT_any (bs (wd (rs s p))) w1 (by omega))
    have HP := hideK (fun (w1 : World) (h1 : RS w1 rb s p) => pass_any rb p (bs (wd (rs s p))).size s w1 h1 hwl)
    rw [bs_size] at HP
    have hz : (bs (wd (rs s p))).size = (wd (rs s p)).length := bs_size _
    have hts : (bs (wd (rs s p))).size ≤ 9223372036854775807 := by omega
    clear h4 hwl hn h hT hsz
    generalize bs (wd (rs s p)) = t at *
    rw [← hz] at HP ⊢
    clear hz
    go_enter Tryz.func101, Tryz.ntmps101
    go_wp2_with fail
    refine cN.mono ?_
    rintro e w1 ⟨rfl, hb1⟩
    have R1 := hideK (HA.out.keep hb1)
    have F1 := hideK (HF.out.trans (FR.of (pb := rb) hb1))
    have Z1 := hideK (HZ.out.keep hb1)
    go_wp2_with fail
    refine (HP.out _ R1.out).mono ?_
    rintro e w2 ⟨rfl, ⟨q2, hq2, hl2⟩, hf2⟩
    have F2 := hideK (F1.out.trans hf2)
    have Z2 := hideK (Z1.out.keepF hf2 (by omega))
    go_wp2_with fail
    refine (cC.out _).mono ?_
    rintro e w3 ⟨rfl, hb3⟩
    have Z3 := hideK (Z2.out.keep hb3)
    obtain ⟨zl, z0, z1, z2, z3, z4, z5, zf⟩ := id Z3.out
    have f0 := zf 0
    have f1 := zf 1
    have f2 := zf 2
    have f3 := zf 3
    have f4 := zf 4
    have f5 := zf 5
    clear zf
    go_wp2_with fail
    have TA := st6_at (w3) w.heap.size 0 ⟨2, t, 0, 0, ⟨#[]⟩, []⟩ (none) (0) (ZE.six Z3.out)
    have R9 := ((hq2.keep hb3)).st6 (b := w.heap.size) (by omega) (.int .i64 2) (.string t) (.int .i64 0) (.int .i64 0) (.string ⟨#[]⟩) (.slice none 0 0)
    have F9 := ((F2.out.trans (FR.of (pb := rb) hb3))).st6 (b := w.heap.size) (Nat.le_refl _) (.int .i64 2) (.string t) (.int .i64 0) (.int .i64 0) (.string ⟨#[]⟩) (.slice none 0 0)
    have G9 := (GE.leaf (w := w) (d := 0) (W := st6 w3 w.heap.size 0 (.int .i64 2) (.string t) (.int .i64 0) (.int .i64 0) (.string ⟨#[]⟩) (.slice none 0 0)) (x := ⟨2, t, 0, 0, ⟨#[]⟩, []⟩) (cap := 0) ⟨hts, by show (⟨#[]⟩ : ByteArray).size ≤ _; decide, by show (-9223372036854775808 : Int) ≤ 0; decide, by show (0 : Int) ≤ _; decide, Nat.le_refl _, by decide⟩ rfl none)
    change ExAt (st6 (w3) w.heap.size 0 (.int .i64 2) (.string t) (.int .i64 0) (.int .i64 0) (.string ⟨#[]⟩) (.slice none 0 0)) _ _ _ _ _ at TA
    change bodyPost _ _ _ _ _ (st6 (w3) w.heap.size 0 (.int .i64 2) (.string t) (.int .i64 0) (.int .i64 0) (.string ⟨#[]⟩) (.slice none 0 0))
    change GE _ (st6 (w3) w.heap.size 0 (.int .i64 2) (.string t) (.int .i64 0) (.int .i64 0) (.string ⟨#[]⟩) (.slice none 0 0)) _ _ _ _ at G9
    generalize st6 (w3) w.heap.size 0 (.int .i64 2) (.string t) (.int .i64 0) (.int .i64 0) (.string ⟨#[]⟩) (.slice none 0 0) = W9 at TA R9 F9 G9 ⊢
    obtain ⟨r0, r1, r2, r3, r4, r5⟩ := TA
    simp only [Nat.zero_add, List.length_nil] at r0 r1 r2 r3 r4 r5
    refine bodyPost_ret (v := .agg #[.int .i64 2, .string t, .int .i64 0, .int .i64 0, .string ⟨#[]⟩, .slice none 0 0]) (by simp [results, Tryz.results101, go_sem, r0, r1, r2, r3, r4, r5]) rfl ?_
    exact ⟨EPost.yes ⟨_, _, _, rfl, G9⟩ R9 hl2, F9⟩
  · rw [if_neg h4]
    rw [Bool.not_eq_true] at h4
    rw [h4] at cN
    have cF := hideK (fun (w1 : World) (h1 : RS w1 rb s p) => fault_any rb p s 3 w1 h1)
    have HN := hideK (fun w' : World => EPost.no (s := s) (rb := rb) (w := w) (c := 3) (r := rs s p) (w' := w'))
    rw [thrownC_at s 3 p h.le] at HN
    clear h4 hwl hn h hT hsz
    generalize bs (wd (rs s p)) = t at *
    go_enter Tryz.func101, Tryz.ntmps101
    go_wp2_with fail
    refine cN.mono ?_
    rintro e w1 ⟨rfl, hb1⟩
    have R1 := hideK (HA.out.keep hb1)
    go_wp2_with fail
    refine (cF.out _ R1.out).mono ?_
    rintro e w2 ⟨rfl, hb2⟩
    go_wp2_with fail
    exact ⟨rfl, HN.out _, (HF.out.trans (FR.of (pb := rb) hb1)).trans (FR.of hb2)⟩
end Go.Proofs.YtipolobikigmbaaGreatDoor
