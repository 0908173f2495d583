/-
  The contracts of exprs.ofOne and exprs.brackets, if those of operand and expression hold of shorter texts.
-/
import Derived.Test.YtipolobikigmbaaGreatDoorGn
namespace Go.Proofs.YtipolobikigmbaaGreatDoor
open Go.RowKit Go.Shelf
theorem post_ok {f : FuncId} {args : Array Value} {s : ByteArray} {rb : Nat} {w : World} {X : RdE} (c : Calls Tryz.prog f args w fun e w' => EPost s rb w X e w' ∧ FR rb w w') {x : Ex} {r : List UInt8} (h : X = .ok (x, r)) :
    Calls Tryz.prog f args w fun e w' => (∃ d ao cap, e = .returned (.agg #[.int .i64 x.kind, .string x.name, .int .i64 x.so, .int .i64 x.n, .string x.s, .slice ao x.kids.length cap]) ∧ GE w w' d x ao cap) ∧ (∃ p', RS w' rb s p' ∧ rs s p' = r) ∧ FR rb w w' := by
  refine c.mono fun e w' ⟨h1, h2⟩ => ?_
  obtain ⟨v, e1, ⟨d, ao, cap, e2, hg⟩, h3⟩ := h1.1 _ _ h
  exact ⟨⟨d, ao, cap, by rw [e1, e2]; rfl, hg⟩, h3, h2⟩
theorem post_bad {f : FuncId} {args : Array Value} {s : ByteArray} {rb : Nat} {w : World} {X : RdE} (c : Calls Tryz.prog f args w fun e w' => EPost s rb w X e w' ∧ FR rb w w') {k : Int} {r : List UInt8} (h : X = .error (k, r)) :
    Calls Tryz.prog f args w fun e w' => e = .panicked (thrownC s k r) ∧ FR rb w w' :=
  c.mono fun _ _ ⟨h1, h2⟩ => ⟨h1.2 _ _ h, h2⟩
set_option maxRecDepth 100000 in
set_option maxHeartbeats 2000000 in
theorem ofOne_any {Tabs : World → Prop} {s : ByteArray} {rb n : Nat} (hF : ∀ w w', Tabs w → FR rb w w' → Tabs w') (hO : EOSaid Tabs s rb n) (op : List UInt8) (ho : op.length ≤ 100) (k p : Nat) (w : World) (hT : Tabs w) (h : RS w rb s p) (hk : 1 ≤ k) (hp : p + k ≤ s.size) (hn : 2 * (rs s p).length + 1 < n + 1) :
    Calls Tryz.prog 97 #[.pointer (some ⟨rb, 0, none⟩), .string (bs op), .int .i64 (k : Int)] w fun e w' => EPost s rb w (rdOne (rdX rdZ n none) op k (rs s p)) e w' ∧ FR rb w w' := by
  have hrl := h.lt
  have HA := hideK (h.al (.cells #[.int .i64 0, .string ⟨#[]⟩, .int .i64 0, .int .i64 0, .string ⟨#[]⟩, .slice none 0 0] 39))
  have HT := hideK (hF _ _ hT (FR.al (pb := rb) (.cells #[.int .i64 0, .string ⟨#[]⟩, .int .i64 0, .int .i64 0, .string ⟨#[]⟩, .slice none 0 0] 39)))
  have HZ := hideK (ZE.new w 39)
  have HF := hideK (FR.al (pb := rb) (w := w) (.cells #[.int .i64 0, .string ⟨#[]⟩, .int .i64 0, .int .i64 0, .string ⟨#[]⟩, .slice none 0 0] 39))
  have cP := pass_any rb p k s _ HA.out hp
  have hl : 2 * (skB ((rs s p).drop k)).length + 1 < n := by
    have := skd_len k (rs s p) (by rw [rs_len]; omega)
    omega
  have hos : (bs op).size ≤ 9223372036854775807 := by rw [bs_size]; omega
  unfold rdOne
  generalize skB ((rs s p).drop k) = l1 at *
  generalize bs op = opb at *
  clear hn hp ho h hT
  cases hX : rdX rdZ n none l1 with
  | error y =>
    obtain ⟨c, r⟩ := y
    simp only
    go_enter Tryz.func97, Tryz.ntmps97
    go_wp2_with fail
    refine cP.mono ?_
    rintro e w1 ⟨rfl, ⟨q1, hq1, hl1⟩, hf1⟩
    have F1 := hideK (HF.out.trans hf1)
    have T1 := hideK (hF _ _ HT.out hf1)
    have Z1 := hideK (HZ.out.keepF hf1 (by omega))
    go_wp2_with fail
    refine (operand_bad hO hX hl q1 w1 T1.out hq1 hl1).mono ?_
    rintro e w2 ⟨rfl, hf2⟩
    go_wp2_with fail
    exact ⟨rfl, EPost.no, F1.out.trans hf2⟩
  | ok y =>
    obtain ⟨x, r⟩ := y
    simp only
    go_enter Tryz.func97, Tryz.ntmps97
    go_wp2_with fail
    refine cP.mono ?_
    rintro e w1 ⟨rfl, ⟨q1, hq1, hl1⟩, hf1⟩
    have F1 := hideK (HF.out.trans hf1)
    have T1 := hideK (hF _ _ HT.out hf1)
    have Z1 := hideK (HZ.out.keepF hf1 (by omega))
    go_wp2_with fail
    refine (operand_ok hO hX hl q1 w1 T1.out hq1 hl1).mono ?_
    rintro e w2 ⟨⟨d, ao, cap, rfl, hg⟩, ⟨q2, hq2, hl2⟩, hf2⟩
    have HG := hideK hg
    clear hg
    go_wp2_with fail
    refine (operation_any opb (some ⟨w2.heap.size, 0, none⟩) 1 1 _).mono ?_
    rintro e w3 ⟨rfl, hb3⟩
    have Z3 := hideK (((Z1.out.keepF hf2 (by omega)).keepF (FR.al (pb := rb) (.cells #[.int .i64 x.kind, .string x.name, .int .i64 x.so, .int .i64 x.n, .string x.s, .slice ao x.kids.length cap] 39)) (by omega)).keep hb3)
    obtain ⟨zl, z0, z1, z2, z3, z4, z5, zf⟩ := id Z3.out
    have f0 := zf 0
    have f1 := zf 1
    have f2 := zf 2
    have f3 := zf 3
    have f4 := zf 4
    have f5 := zf 5
    clear zf
    have hw1 := Z1.out.lt
    have hq1l := hq1.lt
    have hs2 := hf2.size
    go_wp2_with fail
    have TA := st6_at (w3) w.heap.size 0 ⟨3, opb, 0, 0, ⟨#[]⟩, [x]⟩ (some ⟨w2.heap.size, 0, none⟩) (1) (ZE.six Z3.out)
    have R9 := (((hq2.al (.cells #[.int .i64 x.kind, .string x.name, .int .i64 x.so, .int .i64 x.n, .string x.s, .slice ao x.kids.length cap] 39)).keep hb3)).st6 (b := w.heap.size) (by omega) (.int .i64 3) (.string opb) (.int .i64 0) (.int .i64 0) (.string ⟨#[]⟩) (.slice (some ⟨w2.heap.size, 0, none⟩) 1 1)
    have F9 := ((((F1.out.trans hf2).trans (FR.al (.cells #[.int .i64 x.kind, .string x.name, .int .i64 x.so, .int .i64 x.n, .string x.s, .slice ao x.kids.length cap] 39))).trans (FR.of hb3))).st6 (b := w.heap.size) (Nat.le_refl _) (.int .i64 3) (.string opb) (.int .i64 0) (.int .i64 0) (.string ⟨#[]⟩) (.slice (some ⟨w2.heap.size, 0, none⟩) 1 1)
    have G9 := ((HG.out.one hq1l hs2 (FR.of (pb := rb) hb3) opb hos).st6 (w := w) (b := w.heap.size) hw1 (by omega) (.int .i64 3) (.string opb) (.int .i64 0) (.int .i64 0) (.string ⟨#[]⟩) (.slice (some ⟨w2.heap.size, 0, none⟩) 1 1))
    change ExAt (st6 (w3) w.heap.size 0 (.int .i64 3) (.string opb) (.int .i64 0) (.int .i64 0) (.string ⟨#[]⟩) (.slice (some ⟨w2.heap.size, 0, none⟩) 1 1)) _ _ _ _ _ at TA
    change bodyPost _ _ _ _ _ (st6 (w3) w.heap.size 0 (.int .i64 3) (.string opb) (.int .i64 0) (.int .i64 0) (.string ⟨#[]⟩) (.slice (some ⟨w2.heap.size, 0, none⟩) 1 1))
    change GE _ (st6 (w3) w.heap.size 0 (.int .i64 3) (.string opb) (.int .i64 0) (.int .i64 0) (.string ⟨#[]⟩) (.slice (some ⟨w2.heap.size, 0, none⟩) 1 1)) _ _ _ _ at G9
    generalize st6 (w3) w.heap.size 0 (.int .i64 3) (.string opb) (.int .i64 0) (.int .i64 0) (.string ⟨#[]⟩) (.slice (some ⟨w2.heap.size, 0, none⟩) 1 1) = W9 at TA R9 F9 G9 ⊢
    obtain ⟨r0, r1, r2, r3, r4, r5⟩ := TA
    simp only [Nat.zero_add, List.length_nil, List.length_cons] at r0 r1 r2 r3 r4 r5
    refine bodyPost_ret (v := .agg #[.int .i64 3, .string opb, .int .i64 0, .int .i64 0, .string ⟨#[]⟩, .slice (some ⟨w2.heap.size, 0, none⟩) 1 1]) (by simp [results, Tryz.results97, go_sem, r0, r1, r2, r3, r4, r5]) rfl ?_
    exact ⟨EPost.yes ⟨_, _, _, rfl, G9⟩ R9 hl2, F9⟩
set_option maxRecDepth 100000 in
set_option maxHeartbeats 2000000 in
theorem brackets_any {Tabs : World → Prop} {s : ByteArray} {rb n : Nat} (hF : ∀ w w', Tabs w → FR rb w w' → Tabs w') (hE : EESaid Tabs s rb n) (p : Nat) (w : World) (hT : Tabs w) (h : RS w rb s p) (hh : (rs s p).head? = some 40) (hn : 2 * (rs s p).length + 1 < n + 1) :
    Calls Tryz.prog 96 #[.pointer (some ⟨rb, 0, none⟩)] w fun e w' => EPost s rb w (rdBr (rdX rdZ n (some 1)) (rs s p)) e w' ∧ FR rb w w' := by
  have hrl := h.lt
  have HA := hideK (h.al (.cells #[.int .i64 0, .string ⟨#[]⟩, .int .i64 0, .int .i64 0, .string ⟨#[]⟩, .slice none 0 0] 39))
  have HT := hideK (hF _ _ hT (FR.al (pb := rb) (.cells #[.int .i64 0, .string ⟨#[]⟩, .int .i64 0, .int .i64 0, .string ⟨#[]⟩, .slice none 0 0] 39)))
  have HZ := hideK (ZE.new w 39)
  have HF := hideK (FR.al (pb := rb) (w := w) (.cells #[.int .i64 0, .string ⟨#[]⟩, .int .i64 0, .int .i64 0, .string ⟨#[]⟩, .slice none 0 0] 39))
  have hN1 : need 40 (rs s p) = .ok (skB ((rs s p).drop 1)) := by unfold need; rw [if_pos hh]
  have cN := need_good hN1 rb p s _ HA.out rfl
  have hl : 2 * (skB ((rs s p).drop 1)).length + 2 < n := by
    have := skd_len 1 (rs s p) (head_pos _ _ hh)
    omega
  unfold rdBr
  clear hN1 hn hh h hT
  generalize skB ((rs s p).drop 1) = l1 at *
  cases hX : rdX rdZ n (some 1) l1 with
  | error y =>
    obtain ⟨c, r⟩ := y
    simp only
    go_enter Tryz.func96, Tryz.ntmps96
    go_wp2_with fail
    refine cN.mono ?_
    rintro e w1 ⟨rfl, ⟨q1, hq1, hl1⟩, hf1⟩
    have F1 := hideK (HF.out.trans hf1)
    have T1 := hideK (hF _ _ HT.out hf1)
    have Z1 := hideK (HZ.out.keepF hf1 (by omega))
    go_wp2_with fail
    refine (expression_bad hE (by decide) (by decide) hX hl q1 w1 T1.out hq1 hl1).mono ?_
    rintro e w2 ⟨rfl, hf2⟩
    go_wp2_with fail
    exact ⟨rfl, EPost.no, F1.out.trans hf2⟩
  | ok y =>
    obtain ⟨x, r⟩ := y
    simp only
    cases hN : need 41 r with
    | error r2 =>
      simp only
      go_enter Tryz.func96, Tryz.ntmps96
      go_wp2_with fail
      refine cN.mono ?_
      rintro e w1 ⟨rfl, ⟨q1, hq1, hl1⟩, hf1⟩
      have F1 := hideK (HF.out.trans hf1)
      have T1 := hideK (hF _ _ HT.out hf1)
      have Z1 := hideK (HZ.out.keepF hf1 (by omega))
      go_wp2_with fail
      refine (expression_ok hE (by decide) (by decide) hX hl q1 w1 T1.out hq1 hl1).mono ?_
      rintro e w2 ⟨⟨d, ao, cap, rfl, hg⟩, ⟨q2, hq2, hl2⟩, hf2⟩
      have HG := hideK hg
      have C2 := hideK (ExAt.lit w2 x ao cap)
      have F2 := hideK ((F1.out.trans hf2).trans (FR.al (pb := rb) (.cells #[.int .i64 x.kind, .string x.name, .int .i64 x.so, .int .i64 x.n, .string x.s, .slice ao x.kids.length cap] 39)))
      have Z2 := hideK ((Z1.out.keepF hf2 (by omega)).keepF (FR.al (pb := rb) (.cells #[.int .i64 x.kind, .string x.name, .int .i64 x.so, .int .i64 x.n, .string x.s, .slice ao x.kids.length cap] 39)) (by omega))
      have hw1 := Z1.out.lt
      have hq1l := hq1.lt
      have hs2 := hf2.size
      clear hg
      go_wp2_with fail
      refine (need_bad hN rb q2 s _ (hq2.al _) hl2).mono ?_
      rintro e w3 ⟨rfl, hf3⟩
      go_wp2_with fail
      rw [← thrownC_3]
      exact ⟨rfl, EPost.no, F2.out.trans hf3⟩
    | ok r2 =>
      simp only
      go_enter Tryz.func96, Tryz.ntmps96
      go_wp2_with fail
      refine cN.mono ?_
      rintro e w1 ⟨rfl, ⟨q1, hq1, hl1⟩, hf1⟩
      have F1 := hideK (HF.out.trans hf1)
      have T1 := hideK (hF _ _ HT.out hf1)
      have Z1 := hideK (HZ.out.keepF hf1 (by omega))
      go_wp2_with fail
      refine (expression_ok hE (by decide) (by decide) hX hl q1 w1 T1.out hq1 hl1).mono ?_
      rintro e w2 ⟨⟨d, ao, cap, rfl, hg⟩, ⟨q2, hq2, hl2⟩, hf2⟩
      have HG := hideK hg
      have C2 := hideK (ExAt.lit w2 x ao cap)
      have F2 := hideK ((F1.out.trans hf2).trans (FR.al (pb := rb) (.cells #[.int .i64 x.kind, .string x.name, .int .i64 x.so, .int .i64 x.n, .string x.s, .slice ao x.kids.length cap] 39)))
      have Z2 := hideK ((Z1.out.keepF hf2 (by omega)).keepF (FR.al (pb := rb) (.cells #[.int .i64 x.kind, .string x.name, .int .i64 x.so, .int .i64 x.n, .string x.s, .slice ao x.kids.length cap] 39)) (by omega))
      have hw1 := Z1.out.lt
      have hq1l := hq1.lt
      have hs2 := hf2.size
      clear hg
      go_wp2_with fail
      refine (need_good hN rb q2 s _ (hq2.al _) hl2).mono ?_
      rintro e w3 ⟨rfl, ⟨q3, hq3, hl3⟩, hf3⟩
      have Z3 := hideK (Z2.out.keepF hf3 (by omega))
      obtain ⟨zl, z0, z1, z2, z3, z4, z5, zf⟩ := id Z3.out
      have f0 := zf 0
      have f1 := zf 1
      have f2 := zf 2
      have f3 := zf 3
      have f4 := zf 4
      have f5 := zf 5
      clear zf
      obtain ⟨x0, x1, x2, x3, x4, x5⟩ := C2.out.keepF hf3 (by omega) (by simp)
      simp only [Nat.zero_add] at x0 x1 x2 x3 x4 x5
      go_wp2_with fail
      have TA := st6_at (w3) w.heap.size 0 x (ao) (cap) (ZE.six Z3.out)
      have R9 := (hq3).st6 (b := w.heap.size) (by omega) (.int .i64 x.kind) (.string x.name) (.int .i64 x.so) (.int .i64 x.n) (.string x.s) (.slice ao x.kids.length cap)
      have F9 := ((F2.out.trans hf3)).st6 (b := w.heap.size) (Nat.le_refl _) (.int .i64 x.kind) (.string x.name) (.int .i64 x.so) (.int .i64 x.n) (.string x.s) (.slice ao x.kids.length cap)
      have G9 := (((HG.out.keep (FR.al (pb := rb) (.cells #[.int .i64 x.kind, .string x.name, .int .i64 x.so, .int .i64 x.n, .string x.s, .slice ao x.kids.length cap] 39)) hq1l).keep hf3 hq1l).st6 (w := w) (b := w.heap.size) hw1 (by omega) (.int .i64 x.kind) (.string x.name) (.int .i64 x.so) (.int .i64 x.n) (.string x.s) (.slice ao x.kids.length cap))
      change ExAt (st6 (w3) w.heap.size 0 (.int .i64 x.kind) (.string x.name) (.int .i64 x.so) (.int .i64 x.n) (.string x.s) (.slice ao x.kids.length cap)) _ _ _ _ _ at TA
      change bodyPost _ _ _ _ _ (st6 (w3) w.heap.size 0 (.int .i64 x.kind) (.string x.name) (.int .i64 x.so) (.int .i64 x.n) (.string x.s) (.slice ao x.kids.length cap))
      change GE _ (st6 (w3) w.heap.size 0 (.int .i64 x.kind) (.string x.name) (.int .i64 x.so) (.int .i64 x.n) (.string x.s) (.slice ao x.kids.length cap)) _ _ _ _ at G9
      generalize st6 (w3) w.heap.size 0 (.int .i64 x.kind) (.string x.name) (.int .i64 x.so) (.int .i64 x.n) (.string x.s) (.slice ao x.kids.length cap) = W9 at TA R9 F9 G9 ⊢
      obtain ⟨r0, r1, r2, r3, r4, r5⟩ := TA
      simp only [Nat.zero_add] at r0 r1 r2 r3 r4 r5
      refine bodyPost_ret (v := .agg #[.int .i64 x.kind, .string x.name, .int .i64 x.so, .int .i64 x.n, .string x.s, .slice ao x.kids.length cap]) (by simp [results, Tryz.results96, go_sem, r0, r1, r2, r3, r4, r5]) rfl ?_
      exact ⟨EPost.yes ⟨_, _, _, rfl, G9⟩ R9 hl3, F9⟩
end Go.Proofs.YtipolobikigmbaaGreatDoor
