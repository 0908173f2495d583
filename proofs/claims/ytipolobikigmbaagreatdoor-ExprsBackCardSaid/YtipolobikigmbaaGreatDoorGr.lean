/-
  The contract of exprs.operand, if those of operand and expression hold of shorter texts.
-/
import Derived.Test.YtipolobikigmbaaGreatDoorGq
namespace Go.Proofs.YtipolobikigmbaaGreatDoor
open Go.RowKit Go.Shelf
theorem numAh_size (s : ByteArray) (p : Nat) (h : p ≤ s.size) : p + (bs (numAh (rs s p))).size ≤ s.size := by
  rw [bs_size]
  have := num_len (rs s p)
  rw [rs_len] at this
  unfold numAh
  split
  · simp; omega
  · rw [List.length_take, rs_len]; omega
theorem quAh_size (s : ByteArray) (p : Nat) (h : p ≤ s.size) : p + (bs (quAh (rs s p))).size ≤ s.size := by
  rw [bs_size]
  unfold quAh
  rw [List.length_take, rs_len]
  omega
theorem empty_bs (l : List UInt8) : (bs l).toList.isEmpty = decide (l = []) := by
  rw [ByteArray.toList_eq, bs_list]
  cases l <;> rfl
set_option maxRecDepth 100000 in
set_option maxHeartbeats 2000000 in
theorem operand_any {Tabs : World → Prop} {s : ByteArray} {rb n : Nat} (hF : ∀ w w', Tabs w → FR rb w w' → Tabs w') (hV : RVSaid Tabs) (hO : EOSaid Tabs s rb n) (hE : EESaid Tabs s rb n) (p : Nat) (w : World) (hT : Tabs w) (h : RS w rb s p) (hn : 2 * (rs s p).length + 1 < n + 1) :
    Calls Tryz.prog 61 #[.pointer (some ⟨rb, 0, none⟩)] w fun e w' => EPost s rb w (rdX rdZ (n + 1) none (rs s p)) e w' ∧ FR rb w w' := by
  have hrl := h.lt
  have HA := hideK (h.al (.cells #[.int .i64 0, .string ⟨#[]⟩, .int .i64 0, .int .i64 0, .string ⟨#[]⟩, .slice none 0 0] 39))
  have HT := hideK (hF _ _ hT (FR.al (pb := rb) (.cells #[.int .i64 0, .string ⟨#[]⟩, .int .i64 0, .int .i64 0, .string ⟨#[]⟩, .slice none 0 0] 39)))
  have HZ := hideK (ZE.new w 39)
  have HF := hideK (FR.al (pb := rb) (w := w) (.cells #[.int .i64 0, .string ⟨#[]⟩, .int .i64 0, .int .i64 0, .string ⟨#[]⟩, .slice none 0 0] 39))
  have hlen : (rs s p).length ≤ 2000 := by rw [rs_len]; have := h.sz; omega
  have hple := h.le
  have hK : ∀ w w', Tabs w → Below w.heap.size w w' → Tabs w' := fun w w' h1 h2 => hF w w' h1 (FR.of h2)
  have cR := rest_any rb p s _ HA.out
  have H40 := hideK (fun w1 => hasPrefix1 (rs s p) 40 w1 hlen)
  have H35 := hideK (fun w1 => hasPrefix1 (rs s p) 35 w1 hlen)
  have H34 := hideK (fun w1 => hasPrefix1 (rs s p) 34 w1 hlen)
  have H45 := hideK (fun w1 => hasPrefix1 (rs s p) 45 w1 hlen)
  have HNA := hideK (fun w1 => numberAhead_any (rs s p) w1 hlen)
  have HQA := hideK (fun w1 => quotedAhead_any (rs s p) w1 hlen)
  have HBR := hideK (fun w1 (hT1 : Tabs w1) (h1 : RS w1 rb s p) (hh : (rs s p).head? = some 40) => brackets_any hF hE p w1 hT1 h1 hh hn)
  have HO1 := hideK (fun w1 (hT1 : Tabs w1) (h1 : RS w1 rb s p) (op : List UInt8) (ho : op.length ≤ 100) (hp : p + 1 ≤ s.size) => ofOne_any hF hO op ho 1 p w1 hT1 h1 (by decide) hp hn)
  have HVA := hideK (fun w1 (hT1 : Tabs w1) (h1 : RS w1 rb s p) (t : ByteArray) (hp : p + t.size ≤ s.size) => value_any hV hK t rb p s w1 hT1 h1 hp)
  have HWD := hideK (fun w1 (hT1 : Tabs w1) (h1 : RS w1 rb s p) => exprsWord_any hF hV hO p w1 hT1 h1 hn)
  have HWO := hideK (fun (w1 : World) (h1 : RS w1 rb s p) => word_any rb p s w1 h1)
  rw [show rdX rdZ (n + 1) none (rs s p) = rdOp rdZ (rdX rdZ n none) (rdX rdZ n (some 1)) (rs s p) from rfl]
  unfold rdOp
  by_cases h1 : (rs s p).head? = some 40
  · rw [if_pos h1]
    rw [decide_eq_true h1] at H40
    replace HBR := hideK (fun w1 hT1 h1' => HBR.out w1 hT1 h1' h1)
    clear hn h hT hlen hV hO hE hK hple
    clear h1 H35 H34 H45 HNA HQA HO1 HVA HWD HWO
    generalize bs (rs s p) = t at *
    cases hX : rdBr (rdX rdZ n (some 1)) (rs s p) with
    | error y =>
      obtain ⟨c, r⟩ := y
      go_enter Tryz.func61, Tryz.ntmps61
      go_wp2_with fail
      refine cR.mono ?_
      rintro e w1 ⟨rfl, hb1⟩
      have RR := hideK (HA.out.keep hb1)
      have FF := hideK (HF.out.trans (FR.of (pb := rb) hb1))
      have ZZ := hideK (HZ.out.keep hb1)
      have TT := hideK (hF _ _ HT.out (FR.of (pb := rb) hb1))
      go_wp2_with fail
      refine (H40.out _).mono ?_
      rintro e w2 ⟨rfl, hw2⟩
      subst hw2
      go_wp2_with fail
      refine (post_bad (HBR.out _ TT.out RR.out) hX).mono ?_
      rintro e w8 ⟨rfl, hf8⟩
      go_wp2_with fail
      exact ⟨rfl, EPost.no, FF.out.trans hf8⟩
    | ok y =>
      obtain ⟨x, r⟩ := y
      go_enter Tryz.func61, Tryz.ntmps61
      go_wp2_with fail
      refine cR.mono ?_
      rintro e w1 ⟨rfl, hb1⟩
      have RR := hideK (HA.out.keep hb1)
      have FF := hideK (HF.out.trans (FR.of (pb := rb) hb1))
      have ZZ := hideK (HZ.out.keep hb1)
      have TT := hideK (hF _ _ HT.out (FR.of (pb := rb) hb1))
      go_wp2_with fail
      refine (H40.out _).mono ?_
      rintro e w2 ⟨rfl, hw2⟩
      subst hw2
      go_wp2_with fail
      refine (post_ok (HBR.out _ TT.out RR.out) hX).mono ?_
      rintro e w8 ⟨⟨d, ao, cap, rfl, hg⟩, ⟨q8, hq8, hl8⟩, hf8⟩
      have Z8 := hideK (ZZ.out.keepF hf8 (by omega))
      obtain ⟨zl, z0, z1, z2, z3, z4, z5, zf⟩ := id Z8.out
      have f0 := zf 0
      have f1 := zf 1
      have f2 := zf 2
      have f3 := zf 3
      have f4 := zf 4
      have f5 := zf 5
      have HG := hideK hg
      clear hg zf
      go_wp2_with fail
      have TA := st6_at (w8) w.heap.size 0 x (ao) (cap) (ZE.six Z8.out)
      have R9 := (hq8).st6 (b := w.heap.size) (by omega) (.int .i64 x.kind) (.string x.name) (.int .i64 x.so) (.int .i64 x.n) (.string x.s) (.slice ao x.kids.length cap)
      have F9 := ((FF.out.trans hf8)).st6 (b := w.heap.size) (Nat.le_refl _) (.int .i64 x.kind) (.string x.name) (.int .i64 x.so) (.int .i64 x.n) (.string x.s) (.slice ao x.kids.length cap)
      have G9 := (HG.out.st6 (w := w) (b := w.heap.size) ZZ.out.lt (by have := ZZ.out.lt; omega) (.int .i64 x.kind) (.string x.name) (.int .i64 x.so) (.int .i64 x.n) (.string x.s) (.slice ao x.kids.length cap))
      change ExAt (st6 (w8) w.heap.size 0 (.int .i64 x.kind) (.string x.name) (.int .i64 x.so) (.int .i64 x.n) (.string x.s) (.slice ao x.kids.length cap)) _ _ _ _ _ at TA
      change bodyPost _ _ _ _ _ (st6 (w8) w.heap.size 0 (.int .i64 x.kind) (.string x.name) (.int .i64 x.so) (.int .i64 x.n) (.string x.s) (.slice ao x.kids.length cap))
      change GE _ (st6 (w8) w.heap.size 0 (.int .i64 x.kind) (.string x.name) (.int .i64 x.so) (.int .i64 x.n) (.string x.s) (.slice ao x.kids.length cap)) _ _ _ _ at G9
      generalize st6 (w8) w.heap.size 0 (.int .i64 x.kind) (.string x.name) (.int .i64 x.so) (.int .i64 x.n) (.string x.s) (.slice ao x.kids.length cap) = W9 at TA R9 F9 G9 ⊢
      obtain ⟨r0, r1, r2, r3, r4, r5⟩ := TA
      simp only [Nat.zero_add] at r0 r1 r2 r3 r4 r5
      refine bodyPost_ret (v := .agg #[.int .i64 x.kind, .string x.name, .int .i64 x.so, .int .i64 x.n, .string x.s, .slice ao x.kids.length cap]) (by simp [results, Tryz.results61, go_sem, r0, r1, r2, r3, r4, r5]) rfl ?_
      exact ⟨EPost.yes ⟨_, _, _, rfl, G9⟩ R9 hl8, F9⟩
  rw [if_neg h1]
  rw [decide_eq_false h1] at H40
  clear h1 HBR
  by_cases h2 : (rs s p).head? = some 35
  · rw [if_pos h2]
    have hp1 : p + 1 ≤ s.size := by have := head_pos _ _ h2; rw [rs_len] at this; omega
    rw [decide_eq_true h2] at H35
    replace HO1 := hideK (fun w1 hT1 h1' => HO1.out w1 hT1 h1' [35] (by decide) hp1)
    simp only [bs] at HO1
    clear hn h hT hlen hV hO hE hK hple
    clear h2 H34 H45 HNA HQA HVA HWD HWO
    generalize bs (rs s p) = t at *
    cases hX : rdOne (rdX rdZ n none) [35] 1 (rs s p) with
    | error y =>
      obtain ⟨c, r⟩ := y
      go_enter Tryz.func61, Tryz.ntmps61
      go_wp2_with fail
      refine cR.mono ?_
      rintro e w1 ⟨rfl, hb1⟩
      have RR := hideK (HA.out.keep hb1)
      have FF := hideK (HF.out.trans (FR.of (pb := rb) hb1))
      have ZZ := hideK (HZ.out.keep hb1)
      have TT := hideK (hF _ _ HT.out (FR.of (pb := rb) hb1))
      go_wp2_with fail
      refine (H40.out _).mono ?_
      rintro e w2 ⟨rfl, hw2⟩
      subst hw2
      go_wp2_with fail
      refine (H35.out _).mono ?_
      rintro e w2 ⟨rfl, hw2⟩
      subst hw2
      go_wp2_with fail
      refine (post_bad (HO1.out _ TT.out RR.out) hX).mono ?_
      rintro e w8 ⟨rfl, hf8⟩
      go_wp2_with fail
      exact ⟨rfl, EPost.no, FF.out.trans hf8⟩
    | ok y =>
      obtain ⟨x, r⟩ := y
      go_enter Tryz.func61, Tryz.ntmps61
      go_wp2_with fail
      refine cR.mono ?_
      rintro e w1 ⟨rfl, hb1⟩
      have RR := hideK (HA.out.keep hb1)
      have FF := hideK (HF.out.trans (FR.of (pb := rb) hb1))
      have ZZ := hideK (HZ.out.keep hb1)
      have TT := hideK (hF _ _ HT.out (FR.of (pb := rb) hb1))
      go_wp2_with fail
      refine (H40.out _).mono ?_
      rintro e w2 ⟨rfl, hw2⟩
      subst hw2
      go_wp2_with fail
      refine (H35.out _).mono ?_
      rintro e w2 ⟨rfl, hw2⟩
      subst hw2
      go_wp2_with fail
      refine (post_ok (HO1.out _ TT.out RR.out) hX).mono ?_
      rintro e w8 ⟨⟨d, ao, cap, rfl, hg⟩, ⟨q8, hq8, hl8⟩, hf8⟩
      have Z8 := hideK (ZZ.out.keepF hf8 (by omega))
      obtain ⟨zl, z0, z1, z2, z3, z4, z5, zf⟩ := id Z8.out
      have f0 := zf 0
      have f1 := zf 1
      have f2 := zf 2
      have f3 := zf 3
      have f4 := zf 4
      have f5 := zf 5
      have HG := hideK hg
      clear hg zf
      go_wp2_with fail
      have TA := st6_at (w8) w.heap.size 0 x (ao) (cap) (ZE.six Z8.out)
      have R9 := (hq8).st6 (b := w.heap.size) (by omega) (.int .i64 x.kind) (.string x.name) (.int .i64 x.so) (.int .i64 x.n) (.string x.s) (.slice ao x.kids.length cap)
      have F9 := ((FF.out.trans hf8)).st6 (b := w.heap.size) (Nat.le_refl _) (.int .i64 x.kind) (.string x.name) (.int .i64 x.so) (.int .i64 x.n) (.string x.s) (.slice ao x.kids.length cap)
      have G9 := (HG.out.st6 (w := w) (b := w.heap.size) ZZ.out.lt (by have := ZZ.out.lt; omega) (.int .i64 x.kind) (.string x.name) (.int .i64 x.so) (.int .i64 x.n) (.string x.s) (.slice ao x.kids.length cap))
      change ExAt (st6 (w8) w.heap.size 0 (.int .i64 x.kind) (.string x.name) (.int .i64 x.so) (.int .i64 x.n) (.string x.s) (.slice ao x.kids.length cap)) _ _ _ _ _ at TA
      change bodyPost _ _ _ _ _ (st6 (w8) w.heap.size 0 (.int .i64 x.kind) (.string x.name) (.int .i64 x.so) (.int .i64 x.n) (.string x.s) (.slice ao x.kids.length cap))
      change GE _ (st6 (w8) w.heap.size 0 (.int .i64 x.kind) (.string x.name) (.int .i64 x.so) (.int .i64 x.n) (.string x.s) (.slice ao x.kids.length cap)) _ _ _ _ at G9
      generalize st6 (w8) w.heap.size 0 (.int .i64 x.kind) (.string x.name) (.int .i64 x.so) (.int .i64 x.n) (.string x.s) (.slice ao x.kids.length cap) = W9 at TA R9 F9 G9 ⊢
      obtain ⟨r0, r1, r2, r3, r4, r5⟩ := TA
      simp only [Nat.zero_add] at r0 r1 r2 r3 r4 r5
      refine bodyPost_ret (v := .agg #[.int .i64 x.kind, .string x.name, .int .i64 x.so, .int .i64 x.n, .string x.s, .slice ao x.kids.length cap]) (by simp [results, Tryz.results61, go_sem, r0, r1, r2, r3, r4, r5]) rfl ?_
      exact ⟨EPost.yes ⟨_, _, _, rfl, G9⟩ R9 hl8, F9⟩
  rw [if_neg h2]
  rw [decide_eq_false h2] at H35
  clear h2
  by_cases h3 : (rs s p).head? = some 34
  · rw [if_pos h3]
    rw [decide_eq_true h3] at H34
    replace HVA := hideK (fun w1 hT1 h1' => HVA.out w1 hT1 h1' (bs (quAh (rs s p))) (quAh_size s p hple))
    rw [bs_list] at HVA
    clear hn h hT hlen hV hO hE hK hple
    clear h3 H45 HNA HO1 HWD HWO
    generalize bs (quAh (rs s p)) = u at *
    generalize bs (rs s p) = t at *
    cases hX : rdVal rdZ (rs s p) (quAh (rs s p)) with
    | error y =>
      obtain ⟨c, r⟩ := y
      go_enter Tryz.func61, Tryz.ntmps61
      go_wp2_with fail
      refine cR.mono ?_
      rintro e w1 ⟨rfl, hb1⟩
      have RR := hideK (HA.out.keep hb1)
      have FF := hideK (HF.out.trans (FR.of (pb := rb) hb1))
      have ZZ := hideK (HZ.out.keep hb1)
      have TT := hideK (hF _ _ HT.out (FR.of (pb := rb) hb1))
      go_wp2_with fail
      refine (H40.out _).mono ?_
      rintro e w2 ⟨rfl, hw2⟩
      subst hw2
      go_wp2_with fail
      refine (H35.out _).mono ?_
      rintro e w2 ⟨rfl, hw2⟩
      subst hw2
      go_wp2_with fail
      refine (H34.out _).mono ?_
      rintro e w2 ⟨rfl, hw2⟩
      subst hw2
      go_wp2_with fail
      refine (HQA.out _).mono ?_
      rintro e w3 ⟨rfl, hb3⟩
      replace RR := hideK (RR.out.keep hb3)
      replace FF := hideK (FF.out.trans (FR.of (pb := rb) hb3))
      replace ZZ := hideK (ZZ.out.keep hb3)
      replace TT := hideK (hF _ _ TT.out (FR.of (pb := rb) hb3))
      go_wp2_with fail
      refine (post_bad (HVA.out _ TT.out RR.out) hX).mono ?_
      rintro e w8 ⟨rfl, hf8⟩
      go_wp2_with fail
      exact ⟨rfl, EPost.no, FF.out.trans hf8⟩
    | ok y =>
      obtain ⟨x, r⟩ := y
      go_enter Tryz.func61, Tryz.ntmps61
      go_wp2_with fail
      refine cR.mono ?_
      rintro e w1 ⟨rfl, hb1⟩
      have RR := hideK (HA.out.keep hb1)
      have FF := hideK (HF.out.trans (FR.of (pb := rb) hb1))
      have ZZ := hideK (HZ.out.keep hb1)
      have TT := hideK (hF _ _ HT.out (FR.of (pb := rb) hb1))
      go_wp2_with fail
      refine (H40.out _).mono ?_
      rintro e w2 ⟨rfl, hw2⟩
      subst hw2
      go_wp2_with fail
      refine (H35.out _).mono ?_
      rintro e w2 ⟨rfl, hw2⟩
      subst hw2
      go_wp2_with fail
      refine (H34.out _).mono ?_
      rintro e w2 ⟨rfl, hw2⟩
      subst hw2
      go_wp2_with fail
      refine (HQA.out _).mono ?_
      rintro e w3 ⟨rfl, hb3⟩
      replace RR := hideK (RR.out.keep hb3)
      replace FF := hideK (FF.out.trans (FR.of (pb := rb) hb3))
      replace ZZ := hideK (ZZ.out.keep hb3)
      replace TT := hideK (hF _ _ TT.out (FR.of (pb := rb) hb3))
      go_wp2_with fail
      refine (post_ok (HVA.out _ TT.out RR.out) hX).mono ?_
      rintro e w8 ⟨⟨d, ao, cap, rfl, hg⟩, ⟨q8, hq8, hl8⟩, hf8⟩
      have Z8 := hideK (ZZ.out.keepF hf8 (by omega))
      obtain ⟨zl, z0, z1, z2, z3, z4, z5, zf⟩ := id Z8.out
      have f0 := zf 0
      have f1 := zf 1
      have f2 := zf 2
      have f3 := zf 3
      have f4 := zf 4
      have f5 := zf 5
      have HG := hideK hg
      clear hg zf
      go_wp2_with fail
      have TA := st6_at (w8) w.heap.size 0 x (ao) (cap) (ZE.six Z8.out)
      have R9 := (hq8).st6 (b := w.heap.size) (by omega) (.int .i64 x.kind) (.string x.name) (.int .i64 x.so) (.int .i64 x.n) (.string x.s) (.slice ao x.kids.length cap)
      have F9 := ((FF.out.trans hf8)).st6 (b := w.heap.size) (Nat.le_refl _) (.int .i64 x.kind) (.string x.name) (.int .i64 x.so) (.int .i64 x.n) (.string x.s) (.slice ao x.kids.length cap)
      have G9 := (HG.out.st6 (w := w) (b := w.heap.size) ZZ.out.lt (by have := ZZ.out.lt; omega) (.int .i64 x.kind) (.string x.name) (.int .i64 x.so) (.int .i64 x.n) (.string x.s) (.slice ao x.kids.length cap))
      change ExAt (st6 (w8) w.heap.size 0 (.int .i64 x.kind) (.string x.name) (.int .i64 x.so) (.int .i64 x.n) (.string x.s) (.slice ao x.kids.length cap)) _ _ _ _ _ at TA
      change bodyPost _ _ _ _ _ (st6 (w8) w.heap.size 0 (.int .i64 x.kind) (.string x.name) (.int .i64 x.so) (.int .i64 x.n) (.string x.s) (.slice ao x.kids.length cap))
      change GE _ (st6 (w8) w.heap.size 0 (.int .i64 x.kind) (.string x.name) (.int .i64 x.so) (.int .i64 x.n) (.string x.s) (.slice ao x.kids.length cap)) _ _ _ _ at G9
      generalize st6 (w8) w.heap.size 0 (.int .i64 x.kind) (.string x.name) (.int .i64 x.so) (.int .i64 x.n) (.string x.s) (.slice ao x.kids.length cap) = W9 at TA R9 F9 G9 ⊢
      obtain ⟨r0, r1, r2, r3, r4, r5⟩ := TA
      simp only [Nat.zero_add] at r0 r1 r2 r3 r4 r5
      refine bodyPost_ret (v := .agg #[.int .i64 x.kind, .string x.name, .int .i64 x.so, .int .i64 x.n, .string x.s, .slice ao x.kids.length cap]) (by simp [results, Tryz.results61, go_sem, r0, r1, r2, r3, r4, r5]) rfl ?_
      exact ⟨EPost.yes ⟨_, _, _, rfl, G9⟩ R9 hl8, F9⟩
  rw [if_neg h3]
  rw [decide_eq_false h3] at H34
  clear h3 HQA
  by_cases h4 : numAh (rs s p) ≠ []
  · rw [if_pos h4]
    have he := empty_bs (numAh (rs s p))
    rw [decide_eq_false h4] at he
    replace HVA := hideK (fun w1 hT1 h1' => HVA.out w1 hT1 h1' (bs (numAh (rs s p))) (numAh_size s p hple))
    rw [bs_list] at HVA
    clear hn h hT hlen hV hO hE hK hple
    clear h4 H45 HO1 HWD HWO
    generalize bs (numAh (rs s p)) = u at *
    generalize bs (rs s p) = t at *
    cases hX : rdVal rdZ (rs s p) (numAh (rs s p)) with
    | error y =>
      obtain ⟨c, r⟩ := y
      go_enter Tryz.func61, Tryz.ntmps61
      go_wp2_with fail
      refine cR.mono ?_
      rintro e w1 ⟨rfl, hb1⟩
      have RR := hideK (HA.out.keep hb1)
      have FF := hideK (HF.out.trans (FR.of (pb := rb) hb1))
      have ZZ := hideK (HZ.out.keep hb1)
      have TT := hideK (hF _ _ HT.out (FR.of (pb := rb) hb1))
      go_wp2_with fail
      refine (H40.out _).mono ?_
      rintro e w2 ⟨rfl, hw2⟩
      subst hw2
      go_wp2_with fail
      refine (H35.out _).mono ?_
      rintro e w2 ⟨rfl, hw2⟩
      subst hw2
      go_wp2_with fail
      refine (H34.out _).mono ?_
      rintro e w2 ⟨rfl, hw2⟩
      subst hw2
      go_wp2_with fail
      refine (HNA.out _).mono ?_
      rintro e w3 ⟨rfl, hb3⟩
      replace RR := hideK (RR.out.keep hb3)
      replace FF := hideK (FF.out.trans (FR.of (pb := rb) hb3))
      replace ZZ := hideK (ZZ.out.keep hb3)
      replace TT := hideK (hF _ _ TT.out (FR.of (pb := rb) hb3))
      go_wp2_with fail
      refine (HNA.out _).mono ?_
      rintro e w4 ⟨rfl, hb4⟩
      replace RR := hideK (RR.out.keep hb4)
      replace FF := hideK (FF.out.trans (FR.of (pb := rb) hb4))
      replace ZZ := hideK (ZZ.out.keep hb4)
      replace TT := hideK (hF _ _ TT.out (FR.of (pb := rb) hb4))
      go_wp2_with fail
      refine (post_bad (HVA.out _ TT.out RR.out) hX).mono ?_
      rintro e w8 ⟨rfl, hf8⟩
      go_wp2_with fail
      exact ⟨rfl, EPost.no, FF.out.trans hf8⟩
    | ok y =>
      obtain ⟨x, r⟩ := y
      go_enter Tryz.func61, Tryz.ntmps61
      go_wp2_with fail
      refine cR.mono ?_
      rintro e w1 ⟨rfl, hb1⟩
      have RR := hideK (HA.out.keep hb1)
      have FF := hideK (HF.out.trans (FR.of (pb := rb) hb1))
      have ZZ := hideK (HZ.out.keep hb1)
      have TT := hideK (hF _ _ HT.out (FR.of (pb := rb) hb1))
      go_wp2_with fail
      refine (H40.out _).mono ?_
      rintro e w2 ⟨rfl, hw2⟩
      subst hw2
      go_wp2_with fail
      refine (H35.out _).mono ?_
      rintro e w2 ⟨rfl, hw2⟩
      subst hw2
      go_wp2_with fail
      refine (H34.out _).mono ?_
      rintro e w2 ⟨rfl, hw2⟩
      subst hw2
      go_wp2_with fail
      refine (HNA.out _).mono ?_
      rintro e w3 ⟨rfl, hb3⟩
      replace RR := hideK (RR.out.keep hb3)
      replace FF := hideK (FF.out.trans (FR.of (pb := rb) hb3))
      replace ZZ := hideK (ZZ.out.keep hb3)
      replace TT := hideK (hF _ _ TT.out (FR.of (pb := rb) hb3))
      go_wp2_with fail
      refine (HNA.out _).mono ?_
      rintro e w4 ⟨rfl, hb4⟩
      replace RR := hideK (RR.out.keep hb4)
      replace FF := hideK (FF.out.trans (FR.of (pb := rb) hb4))
      replace ZZ := hideK (ZZ.out.keep hb4)
      replace TT := hideK (hF _ _ TT.out (FR.of (pb := rb) hb4))
      go_wp2_with fail
      refine (post_ok (HVA.out _ TT.out RR.out) hX).mono ?_
      rintro e w8 ⟨⟨d, ao, cap, rfl, hg⟩, ⟨q8, hq8, hl8⟩, hf8⟩
      have Z8 := hideK (ZZ.out.keepF hf8 (by omega))
      obtain ⟨zl, z0, z1, z2, z3, z4, z5, zf⟩ := id Z8.out
      have f0 := zf 0
      have f1 := zf 1
      have f2 := zf 2
      have f3 := zf 3
      have f4 := zf 4
      have f5 := zf 5
      have HG := hideK hg
      clear hg zf
      go_wp2_with fail
      have TA := st6_at (w8) w.heap.size 0 x (ao) (cap) (ZE.six Z8.out)
      have R9 := (hq8).st6 (b := w.heap.size) (by omega) (.int .i64 x.kind) (.string x.name) (.int .i64 x.so) (.int .i64 x.n) (.string x.s) (.slice ao x.kids.length cap)
      have F9 := ((FF.out.trans hf8)).st6 (b := w.heap.size) (Nat.le_refl _) (.int .i64 x.kind) (.string x.name) (.int .i64 x.so) (.int .i64 x.n) (.string x.s) (.slice ao x.kids.length cap)
      have G9 := (HG.out.st6 (w := w) (b := w.heap.size) ZZ.out.lt (by have := ZZ.out.lt; omega) (.int .i64 x.kind) (.string x.name) (.int .i64 x.so) (.int .i64 x.n) (.string x.s) (.slice ao x.kids.length cap))
      change ExAt (st6 (w8) w.heap.size 0 (.int .i64 x.kind) (.string x.name) (.int .i64 x.so) (.int .i64 x.n) (.string x.s) (.slice ao x.kids.length cap)) _ _ _ _ _ at TA
      change bodyPost _ _ _ _ _ (st6 (w8) w.heap.size 0 (.int .i64 x.kind) (.string x.name) (.int .i64 x.so) (.int .i64 x.n) (.string x.s) (.slice ao x.kids.length cap))
      change GE _ (st6 (w8) w.heap.size 0 (.int .i64 x.kind) (.string x.name) (.int .i64 x.so) (.int .i64 x.n) (.string x.s) (.slice ao x.kids.length cap)) _ _ _ _ at G9
      generalize st6 (w8) w.heap.size 0 (.int .i64 x.kind) (.string x.name) (.int .i64 x.so) (.int .i64 x.n) (.string x.s) (.slice ao x.kids.length cap) = W9 at TA R9 F9 G9 ⊢
      obtain ⟨r0, r1, r2, r3, r4, r5⟩ := TA
      simp only [Nat.zero_add] at r0 r1 r2 r3 r4 r5
      refine bodyPost_ret (v := .agg #[.int .i64 x.kind, .string x.name, .int .i64 x.so, .int .i64 x.n, .string x.s, .slice ao x.kids.length cap]) (by simp [results, Tryz.results61, go_sem, r0, r1, r2, r3, r4, r5]) rfl ?_
      exact ⟨EPost.yes ⟨_, _, _, rfl, G9⟩ R9 hl8, F9⟩
  rw [if_neg h4]
  have he := empty_bs (numAh (rs s p))
  rw [decide_eq_true (Decidable.not_not.1 h4)] at he
  clear h4 HVA
  by_cases h5 : (rs s p).head? = some 45
  · rw [if_pos h5]
    have hp1 : p + 1 ≤ s.size := by have := head_pos _ _ h5; rw [rs_len] at this; omega
    rw [decide_eq_true h5] at H45
    replace HO1 := hideK (fun w1 hT1 h1' => HO1.out w1 hT1 h1' [110, 101, 103] (by decide) hp1)
    simp only [bs] at HO1
    clear hn h hT hlen hV hO hE hK hple
    clear h5 HWD HWO
    generalize bs (numAh (rs s p)) = u at *
    generalize bs (rs s p) = t at *
    cases hX : rdOne (rdX rdZ n none) [110, 101, 103] 1 (rs s p) with
    | error y =>
      obtain ⟨c, r⟩ := y
      go_enter Tryz.func61, Tryz.ntmps61
      go_wp2_with fail
      refine cR.mono ?_
      rintro e w1 ⟨rfl, hb1⟩
      have RR := hideK (HA.out.keep hb1)
      have FF := hideK (HF.out.trans (FR.of (pb := rb) hb1))
      have ZZ := hideK (HZ.out.keep hb1)
      have TT := hideK (hF _ _ HT.out (FR.of (pb := rb) hb1))
      go_wp2_with fail
      refine (H40.out _).mono ?_
      rintro e w2 ⟨rfl, hw2⟩
      subst hw2
      go_wp2_with fail
      refine (H35.out _).mono ?_
      rintro e w2 ⟨rfl, hw2⟩
      subst hw2
      go_wp2_with fail
      refine (H34.out _).mono ?_
      rintro e w2 ⟨rfl, hw2⟩
      subst hw2
      go_wp2_with fail
      refine (HNA.out _).mono ?_
      rintro e w3 ⟨rfl, hb3⟩
      replace RR := hideK (RR.out.keep hb3)
      replace FF := hideK (FF.out.trans (FR.of (pb := rb) hb3))
      replace ZZ := hideK (ZZ.out.keep hb3)
      replace TT := hideK (hF _ _ TT.out (FR.of (pb := rb) hb3))
      go_wp2_with fail
      refine (H45.out _).mono ?_
      rintro e w2 ⟨rfl, hw2⟩
      subst hw2
      go_wp2_with fail
      refine (post_bad (HO1.out _ TT.out RR.out) hX).mono ?_
      rintro e w8 ⟨rfl, hf8⟩
      go_wp2_with fail
      exact ⟨rfl, EPost.no, FF.out.trans hf8⟩
    | ok y =>
      obtain ⟨x, r⟩ := y
      go_enter Tryz.func61, Tryz.ntmps61
      go_wp2_with fail
      refine cR.mono ?_
      rintro e w1 ⟨rfl, hb1⟩
      have RR := hideK (HA.out.keep hb1)
      have FF := hideK (HF.out.trans (FR.of (pb := rb) hb1))
      have ZZ := hideK (HZ.out.keep hb1)
      have TT := hideK (hF _ _ HT.out (FR.of (pb := rb) hb1))
      go_wp2_with fail
      refine (H40.out _).mono ?_
      rintro e w2 ⟨rfl, hw2⟩
      subst hw2
      go_wp2_with fail
      refine (H35.out _).mono ?_
      rintro e w2 ⟨rfl, hw2⟩
      subst hw2
      go_wp2_with fail
      refine (H34.out _).mono ?_
      rintro e w2 ⟨rfl, hw2⟩
      subst hw2
      go_wp2_with fail
      refine (HNA.out _).mono ?_
      rintro e w3 ⟨rfl, hb3⟩
      replace RR := hideK (RR.out.keep hb3)
      replace FF := hideK (FF.out.trans (FR.of (pb := rb) hb3))
      replace ZZ := hideK (ZZ.out.keep hb3)
      replace TT := hideK (hF _ _ TT.out (FR.of (pb := rb) hb3))
      go_wp2_with fail
      refine (H45.out _).mono ?_
      rintro e w2 ⟨rfl, hw2⟩
      subst hw2
      go_wp2_with fail
      refine (post_ok (HO1.out _ TT.out RR.out) hX).mono ?_
      rintro e w8 ⟨⟨d, ao, cap, rfl, hg⟩, ⟨q8, hq8, hl8⟩, hf8⟩
      have Z8 := hideK (ZZ.out.keepF hf8 (by omega))
      obtain ⟨zl, z0, z1, z2, z3, z4, z5, zf⟩ := id Z8.out
      have f0 := zf 0
      have f1 := zf 1
      have f2 := zf 2
      have f3 := zf 3
      have f4 := zf 4
      have f5 := zf 5
      have HG := hideK hg
      clear hg zf
      go_wp2_with fail
      have TA := st6_at (w8) w.heap.size 0 x (ao) (cap) (ZE.six Z8.out)
      have R9 := (hq8).st6 (b := w.heap.size) (by omega) (.int .i64 x.kind) (.string x.name) (.int .i64 x.so) (.int .i64 x.n) (.string x.s) (.slice ao x.kids.length cap)
      have F9 := ((FF.out.trans hf8)).st6 (b := w.heap.size) (Nat.le_refl _) (.int .i64 x.kind) (.string x.name) (.int .i64 x.so) (.int .i64 x.n) (.string x.s) (.slice ao x.kids.length cap)
      have G9 := (HG.out.st6 (w := w) (b := w.heap.size) ZZ.out.lt (by have := ZZ.out.lt; omega) (.int .i64 x.kind) (.string x.name) (.int .i64 x.so) (.int .i64 x.n) (.string x.s) (.slice ao x.kids.length cap))
      change ExAt (st6 (w8) w.heap.size 0 (.int .i64 x.kind) (.string x.name) (.int .i64 x.so) (.int .i64 x.n) (.string x.s) (.slice ao x.kids.length cap)) _ _ _ _ _ at TA
      change bodyPost _ _ _ _ _ (st6 (w8) w.heap.size 0 (.int .i64 x.kind) (.string x.name) (.int .i64 x.so) (.int .i64 x.n) (.string x.s) (.slice ao x.kids.length cap))
      change GE _ (st6 (w8) w.heap.size 0 (.int .i64 x.kind) (.string x.name) (.int .i64 x.so) (.int .i64 x.n) (.string x.s) (.slice ao x.kids.length cap)) _ _ _ _ at G9
      generalize st6 (w8) w.heap.size 0 (.int .i64 x.kind) (.string x.name) (.int .i64 x.so) (.int .i64 x.n) (.string x.s) (.slice ao x.kids.length cap) = W9 at TA R9 F9 G9 ⊢
      obtain ⟨r0, r1, r2, r3, r4, r5⟩ := TA
      simp only [Nat.zero_add] at r0 r1 r2 r3 r4 r5
      refine bodyPost_ret (v := .agg #[.int .i64 x.kind, .string x.name, .int .i64 x.so, .int .i64 x.n, .string x.s, .slice ao x.kids.length cap]) (by simp [results, Tryz.results61, go_sem, r0, r1, r2, r3, r4, r5]) rfl ?_
      exact ⟨EPost.yes ⟨_, _, _, rfl, G9⟩ R9 hl8, F9⟩
  rw [if_neg h5]
  rw [decide_eq_false h5] at H45
  clear h5 HO1
  clear hn h hT hlen hV hO hE hK hple
  generalize bs (numAh (rs s p)) = u at *
  generalize bs (wd (rs s p)) = v at *
  generalize bs (rs s p) = t at *
  cases hX : rdWd rdZ (rdX rdZ n none) (rs s p) with
  | error y =>
    obtain ⟨c, r⟩ := y
    go_enter Tryz.func61, Tryz.ntmps61
    go_wp2_with fail
    refine cR.mono ?_
    rintro e w1 ⟨rfl, hb1⟩
    have RR := hideK (HA.out.keep hb1)
    have FF := hideK (HF.out.trans (FR.of (pb := rb) hb1))
    have ZZ := hideK (HZ.out.keep hb1)
    have TT := hideK (hF _ _ HT.out (FR.of (pb := rb) hb1))
    go_wp2_with fail
    refine (H40.out _).mono ?_
    rintro e w2 ⟨rfl, hw2⟩
    subst hw2
    go_wp2_with fail
    refine (H35.out _).mono ?_
    rintro e w2 ⟨rfl, hw2⟩
    subst hw2
    go_wp2_with fail
    refine (H34.out _).mono ?_
    rintro e w2 ⟨rfl, hw2⟩
    subst hw2
    go_wp2_with fail
    refine (HNA.out _).mono ?_
    rintro e w3 ⟨rfl, hb3⟩
    replace RR := hideK (RR.out.keep hb3)
    replace FF := hideK (FF.out.trans (FR.of (pb := rb) hb3))
    replace ZZ := hideK (ZZ.out.keep hb3)
    replace TT := hideK (hF _ _ TT.out (FR.of (pb := rb) hb3))
    go_wp2_with fail
    refine (H45.out _).mono ?_
    rintro e w2 ⟨rfl, hw2⟩
    subst hw2
    go_wp2_with fail
    refine (HWO.out _ RR.out).mono ?_
    rintro e w4 ⟨rfl, hb4⟩
    replace RR := hideK (RR.out.keep hb4)
    replace FF := hideK (FF.out.trans (FR.of (pb := rb) hb4))
    replace ZZ := hideK (ZZ.out.keep hb4)
    replace TT := hideK (hF _ _ TT.out (FR.of (pb := rb) hb4))
    go_wp2_with fail
    refine (post_bad (HWD.out _ TT.out RR.out) hX).mono ?_
    rintro e w8 ⟨rfl, hf8⟩
    go_wp2_with fail
    exact ⟨rfl, EPost.no, FF.out.trans hf8⟩
  | ok y =>
    obtain ⟨x, r⟩ := y
    go_enter Tryz.func61, Tryz.ntmps61
    go_wp2_with fail
    refine cR.mono ?_
    rintro e w1 ⟨rfl, hb1⟩
    have RR := hideK (HA.out.keep hb1)
    have FF := hideK (HF.out.trans (FR.of (pb := rb) hb1))
    have ZZ := hideK (HZ.out.keep hb1)
    have TT := hideK (hF _ _ HT.out (FR.of (pb := rb) hb1))
    go_wp2_with fail
    refine (H40.out _).mono ?_
    rintro e w2 ⟨rfl, hw2⟩
    subst hw2
    go_wp2_with fail
    refine (H35.out _).mono ?_
    rintro e w2 ⟨rfl, hw2⟩
    subst hw2
    go_wp2_with fail
    refine (H34.out _).mono ?_
    rintro e w2 ⟨rfl, hw2⟩
    subst hw2
    go_wp2_with fail
    refine (HNA.out _).mono ?_
    rintro e w3 ⟨rfl, hb3⟩
    replace RR := hideK (RR.out.keep hb3)
    replace FF := hideK (FF.out.trans (FR.of (pb := rb) hb3))
    replace ZZ := hideK (ZZ.out.keep hb3)
    replace TT := hideK (hF _ _ TT.out (FR.of (pb := rb) hb3))
    go_wp2_with fail
    refine (H45.out _).mono ?_
    rintro e w2 ⟨rfl, hw2⟩
    subst hw2
    go_wp2_with fail
    refine (HWO.out _ RR.out).mono ?_
    rintro e w4 ⟨rfl, hb4⟩
    replace RR := hideK (RR.out.keep hb4)
    replace FF := hideK (FF.out.trans (FR.of (pb := rb) hb4))
    replace ZZ := hideK (ZZ.out.keep hb4)
    replace TT := hideK (hF _ _ TT.out (FR.of (pb := rb) hb4))
    go_wp2_with fail
    refine (post_ok (HWD.out _ TT.out RR.out) hX).mono ?_
    rintro e w8 ⟨⟨d, ao, cap, rfl, hg⟩, ⟨q8, hq8, hl8⟩, hf8⟩
    have Z8 := hideK (ZZ.out.keepF hf8 (by omega))
    obtain ⟨zl, z0, z1, z2, z3, z4, z5, zf⟩ := id Z8.out
    have f0 := zf 0
    have f1 := zf 1
    have f2 := zf 2
    have f3 := zf 3
    have f4 := zf 4
    have f5 := zf 5
    have HG := hideK hg
    clear hg zf
    go_wp2_with fail
    have TA := st6_at (w8) w.heap.size 0 x (ao) (cap) (ZE.six Z8.out)
    have R9 := (hq8).st6 (b := w.heap.size) (by omega) (.int .i64 x.kind) (.string x.name) (.int .i64 x.so) (.int .i64 x.n) (.string x.s) (.slice ao x.kids.length cap)
    have F9 := ((FF.out.trans hf8)).st6 (b := w.heap.size) (Nat.le_refl _) (.int .i64 x.kind) (.string x.name) (.int .i64 x.so) (.int .i64 x.n) (.string x.s) (.slice ao x.kids.length cap)
    have G9 := (HG.out.st6 (w := w) (b := w.heap.size) ZZ.out.lt (by have := ZZ.out.lt; omega) (.int .i64 x.kind) (.string x.name) (.int .i64 x.so) (.int .i64 x.n) (.string x.s) (.slice ao x.kids.length cap))
    change ExAt (st6 (w8) w.heap.size 0 (.int .i64 x.kind) (.string x.name) (.int .i64 x.so) (.int .i64 x.n) (.string x.s) (.slice ao x.kids.length cap)) _ _ _ _ _ at TA
    change bodyPost _ _ _ _ _ (st6 (w8) w.heap.size 0 (.int .i64 x.kind) (.string x.name) (.int .i64 x.so) (.int .i64 x.n) (.string x.s) (.slice ao x.kids.length cap))
    change GE _ (st6 (w8) w.heap.size 0 (.int .i64 x.kind) (.string x.name) (.int .i64 x.so) (.int .i64 x.n) (.string x.s) (.slice ao x.kids.length cap)) _ _ _ _ at G9
    generalize st6 (w8) w.heap.size 0 (.int .i64 x.kind) (.string x.name) (.int .i64 x.so) (.int .i64 x.n) (.string x.s) (.slice ao x.kids.length cap) = W9 at TA R9 F9 G9 ⊢
    obtain ⟨r0, r1, r2, r3, r4, r5⟩ := TA
    simp only [Nat.zero_add] at r0 r1 r2 r3 r4 r5
    refine bodyPost_ret (v := .agg #[.int .i64 x.kind, .string x.name, .int .i64 x.so, .int .i64 x.n, .string x.s, .slice ao x.kids.length cap]) (by simp [results, Tryz.results61, go_sem, r0, r1, r2, r3, r4, r5]) rfl ?_
    exact ⟨EPost.yes ⟨_, _, _, rfl, G9⟩ R9 hl8, F9⟩
end Go.Proofs.YtipolobikigmbaaGreatDoor
