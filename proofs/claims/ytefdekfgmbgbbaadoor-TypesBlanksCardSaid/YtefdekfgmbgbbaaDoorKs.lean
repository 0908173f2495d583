/-
  The contract of types.read: what is read is what the plain reading gives, wherever the reader stands.
-/
import Derived.Test.YtefdekfgmbgbbaaDoorKr
import Derived.Test.YtefdekfgmbgbbaaDoorKo
namespace Go.Proofs.YtefdekfgmbgbbaaDoor
open Go.RowKit Go.Shelf
theorem skip_yes {c : UInt8} {l : List UInt8} (h : l.head? = some c) (rb p : Nat) (s : ByteArray) (w : World) (hr : RS w rb s p) (hl : rs s p = l) :
    Calls Tryd.prog 34 #[.pointer (some ⟨rb, 0, none⟩), .string ⟨#[c]⟩] w fun e w' => e = .returned (.bool true) ∧ (∃ p', RS w' rb s p' ∧ rs s p' = skB (l.drop 1)) ∧ FR rb w w' := by
  have c := skip_any rb p s c w hr
  rw [hl, decide_eq_true h, if_pos h] at c
  exact c
theorem skip_no {c : UInt8} {l : List UInt8} (h : ¬ l.head? = some c) (rb p : Nat) (s : ByteArray) (w : World) (hr : RS w rb s p) (hl : rs s p = l) :
    Calls Tryd.prog 34 #[.pointer (some ⟨rb, 0, none⟩), .string ⟨#[c]⟩] w fun e w' => e = .returned (.bool false) ∧ (∃ p', RS w' rb s p' ∧ rs s p' = l) ∧ FR rb w w' := by
  have c := skip_any rb p s c w hr
  rw [hl, decide_eq_false h, if_neg h] at c
  exact c
/-- what a reading of a type hands back, cell by cell -/
def TyE (w : World) (d : Nat) (s : ByteArray) (rb : Nat) (t : Ty) (r : List UInt8) (e : Ending) (w' : World) : Prop :=
  (∃ al cl ak ck, e = .returned (.agg #[.int .i64 t.kind, .int .i64 t.so, .string t.name, .slice al t.labels.length cl, .slice ak t.kids.length ck]) ∧ GT w w' d t al cl ak ck) ∧ (∃ p', RS w' rb s p' ∧ rs s p' = r) ∧ FR rb w w'
theorem ty_ok {w w' : World} {d rb : Nat} {s : ByteArray} {t : Ty} {r : List UInt8} {e : Ending} (h : GPost s rb (TyR w d) (.ok (t, r)) e w' ∧ FR rb w w') : TyE w d s rb t r e w' := by
  obtain ⟨⟨v, e1, ⟨al, cl, ak, ck, e2, hg⟩, h3⟩, h4⟩ := h
  exact ⟨⟨al, cl, ak, ck, by rw [e1, e2]; rfl, hg⟩, h3, h4⟩
theorem readMsg_ok {n : Nat} (hR : RDSaid n) (a b : Int) {l r : List UInt8} {t : Ty} (h : rdMsg (rdT n) a b l = .ok (t, r)) (hn : l.length < n) (rb p : Nat) (s : ByteArray) (w : World) (hr : RS w rb s p) (hl : rs s p = l) :
    Calls Tryd.prog 35 #[.pointer (some ⟨rb, 0, none⟩), .int .i64 a, .int .i64 b] w fun e w' => TyE w (n + 1) s rb t r e w' := by
  have c := readMessage_any n hR rb p s a b w hr (by rw [hl]; exact hn)
  rw [hl, h] at c
  exact c.mono fun e w' h => ty_ok h
theorem readMsg_bad {n : Nat} (hR : RDSaid n) (a b : Int) {l r : List UInt8} (h : rdMsg (rdT n) a b l = .error r) (hn : l.length < n) (rb p : Nat) (s : ByteArray) (w : World) (hr : RS w rb s p) (hl : rs s p = l) :
    Calls Tryd.prog 35 #[.pointer (some ⟨rb, 0, none⟩), .int .i64 a, .int .i64 b] w fun e w' => e = .panicked (thrown s r) ∧ FR rb w w' := by
  have c := readMessage_any n hR rb p s a b w hr (by rw [hl]; exact hn)
  rw [hl, h] at c
  simpa only [GPost] using c
theorem readCho_ok {n : Nat} (hR : RDSaid n) (k : Int) {l r : List UInt8} {t : Ty} (h : rdCho (rdT n) k l = .ok (t, r)) (hn : l.length < n) (rb p : Nat) (s : ByteArray) (w : World) (hr : RS w rb s p) (hl : rs s p = l) :
    Calls Tryd.prog 36 #[.pointer (some ⟨rb, 0, none⟩), .int .i64 k] w fun e w' => TyE w (n + 1) s rb t r e w' := by
  have c := readChoice_any n hR rb p s k w hr (by rw [hl]; exact hn)
  rw [hl, h] at c
  exact c.mono fun e w' h => ty_ok h
theorem readCho_bad {n : Nat} (hR : RDSaid n) (k : Int) {l r : List UInt8} (h : rdCho (rdT n) k l = .error r) (hn : l.length < n) (rb p : Nat) (s : ByteArray) (w : World) (hr : RS w rb s p) (hl : rs s p = l) :
    Calls Tryd.prog 36 #[.pointer (some ⟨rb, 0, none⟩), .int .i64 k] w fun e w' => e = .panicked (thrown s r) ∧ FR rb w w' := by
  have c := readChoice_any n hR rb p s k w hr (by rw [hl]; exact hn)
  rw [hl, h] at c
  simpa only [GPost] using c
theorem readWord_ok {n : Nat} (hR : RDSaid n)  {l r : List UInt8} {t : Ty} (h : rdWord (rdT n) l = .ok (t, r)) (hn : l.length < n + 1) (rb p : Nat) (s : ByteArray) (w : World) (hr : RS w rb s p) (hl : rs s p = l) :
    Calls Tryd.prog 37 #[.pointer (some ⟨rb, 0, none⟩)] w fun e w' => TyE w (n + 1) s rb t r e w' := by
  have c := readWord_any n hR rb p s w hr (by rw [hl]; exact hn)
  rw [hl, h] at c
  exact c.mono fun e w' h => ty_ok h
theorem readWord_bad {n : Nat} (hR : RDSaid n)  {l r : List UInt8} (h : rdWord (rdT n) l = .error r) (hn : l.length < n + 1) (rb p : Nat) (s : ByteArray) (w : World) (hr : RS w rb s p) (hl : rs s p = l) :
    Calls Tryd.prog 37 #[.pointer (some ⟨rb, 0, none⟩)] w fun e w' => e = .panicked (thrown s r) ∧ FR rb w w' := by
  have c := readWord_any n hR rb p s w hr (by rw [hl]; exact hn)
  rw [hl, h] at c
  simpa only [GPost] using c
set_option maxRecDepth 100000 in
set_option maxHeartbeats 4000000 in
theorem read_step (n : Nat) (hR : RDSaid n) : RDSaid (n + 1) := by
  intro rb p s w h hn
  have hrl := h.lt
  have HA := hideK (h.al (.cells #[.int .i64 0, .int .i64 0, .string ⟨#[]⟩, .slice none 0 0, .slice none 0 0] 25))
  have HZ := hideK (ZT.new w)
  have HF := hideK (FR.al (pb := rb) (w := w) (.cells #[.int .i64 0, .int .i64 0, .string ⟨#[]⟩, .slice none 0 0, .slice none 0 0] 25))
  clear h
  generalize hl0 : rs s p = l at *
  unfold rdT
  by_cases h0 : l.head? = some 33
  · rw [if_pos h0]
    have hlt : (skB (l.drop 1)).length < n := by have := skd_len 1 l (head_pos _ _ h0); omega
    cases hT : rdMsg (rdT n) 2 4 (skB (l.drop 1)) with
    | error r =>
      simp only [GPost]
      go_enter Tryd.func17, Tryd.ntmps17
      go_wp2_with fail
      refine (skip_yes h0 rb p s _ HA.out hl0).mono ?_
      rintro e w0 ⟨rfl, ⟨q0, hq0, hl1⟩, hf0⟩
      have F0 := hideK ((HF.out).trans hf0)
      have Z0 := hideK ((HZ.out).keep hf0 (by omega))
      go_wp2_with fail
      refine (readMsg_bad hR 2 4 hT hlt rb q0 s _ hq0 hl1).mono ?_
      rintro e w9 ⟨rfl, hf9⟩
      go_wp2_with fail
      exact ⟨rfl, rfl, F0.out.trans hf9⟩
    | ok x =>
      obtain ⟨t, r⟩ := x
      simp only [GPost]
      go_enter Tryd.func17, Tryd.ntmps17
      go_wp2_with fail
      refine (skip_yes h0 rb p s _ HA.out hl0).mono ?_
      rintro e w0 ⟨rfl, ⟨q0, hq0, hl1⟩, hf0⟩
      have F0 := hideK ((HF.out).trans hf0)
      have Z0 := hideK ((HZ.out).keep hf0 (by omega))
      go_wp2_with fail
      refine (readMsg_ok hR 2 4 hT hlt rb q0 s _ hq0 hl1).mono ?_
      rintro e w9 ⟨⟨al, cl, ak, ck, rfl, hg⟩, ⟨q9, hq9, hl9⟩, hf9⟩
      have hw9 := Z0.out.lt
      have Z9 := Z0.out.keep hf9 (by omega)
      have FF := hideK (F0.out.trans hf9)
      obtain ⟨zl, z0, z1, z2, z3, z4, y0, y1, y2, y3, y4⟩ := id Z9
      obtain ⟨tk, tso, tnm, tls, tks⟩ := t
      simp only
      go_wp2_with fail
      have TA := (Z9).st ⟨tk, tso, tnm, tls, tks⟩ al cl ak ck
      have R9 := (hq9).st (b := w.heap.size) (by omega) (.int .i64 tk) (.int .i64 tso) (.string tnm) (.slice al tls.length cl) (.slice ak tks.length ck)
      have F9 := (FF.out).st (Nat.le_refl _) (.int .i64 tk) (.int .i64 tso) (.string tnm) (.slice al tls.length cl) (.slice ak tks.length ck)
      have G9 := hg.st (w := w) hw9 (.int .i64 tk) (.int .i64 tso) (.string tnm) (.slice al tls.length cl) (.slice ak tks.length ck) (by omega)
      change TyAt (st5 (w9) w.heap.size 0 (.int .i64 tk) (.int .i64 tso) (.string tnm) (.slice al tls.length cl) (.slice ak tks.length ck)) _ _ _ _ _ _ _ at TA
      change GT _ (st5 (w9) w.heap.size 0 (.int .i64 tk) (.int .i64 tso) (.string tnm) (.slice al tls.length cl) (.slice ak tks.length ck)) _ _ _ _ _ _ at G9
      change bodyPost _ _ _ _ _ (st5 (w9) w.heap.size 0 (.int .i64 tk) (.int .i64 tso) (.string tnm) (.slice al tls.length cl) (.slice ak tks.length ck))
      generalize st5 (w9) w.heap.size 0 (.int .i64 tk) (.int .i64 tso) (.string tnm) (.slice al tls.length cl) (.slice ak tks.length ck) = W9 at TA R9 F9 G9 ⊢
      obtain ⟨r0, r1, r2, r3, r4⟩ := TA
      simp only [Nat.zero_add] at r1 r2 r3 r4
      refine bodyPost_ret (v := tyVal ⟨tk, tso, tnm, tls, tks⟩ al cl ak ck) (by simp [results, Tryd.results17, go_sem, tyVal, r0, r1, r2, r3, r4]) rfl ?_
      exact ⟨⟨_, rfl, ⟨_, _, _, _, rfl, G9⟩, q9, R9, hl9⟩, F9⟩
  rw [if_neg h0]
  by_cases h1 : l.head? = some 63
  · rw [if_pos h1]
    have hlt : (skB (l.drop 1)).length < n := by have := skd_len 1 l (head_pos _ _ h1); omega
    cases hT : rdMsg (rdT n) 3 5 (skB (l.drop 1)) with
    | error r =>
      simp only [GPost]
      go_enter Tryd.func17, Tryd.ntmps17
      go_wp2_with fail
      refine (skip_no h0 rb p s _ HA.out hl0).mono ?_
      rintro e w0 ⟨rfl, ⟨q0, hq0, hl1⟩, hf0⟩
      have F0 := hideK ((HF.out).trans hf0)
      have Z0 := hideK ((HZ.out).keep hf0 (by omega))
      go_wp2_with fail
      refine (skip_yes h1 rb q0 s _ hq0 hl1).mono ?_
      rintro e w1 ⟨rfl, ⟨q1, hq1, hl2⟩, hf1⟩
      have F1 := hideK ((F0.out).trans hf1)
      have Z1 := hideK ((Z0.out).keep hf1 (by omega))
      go_wp2_with fail
      refine (readMsg_bad hR 3 5 hT hlt rb q1 s _ hq1 hl2).mono ?_
      rintro e w9 ⟨rfl, hf9⟩
      go_wp2_with fail
      exact ⟨rfl, rfl, F1.out.trans hf9⟩
    | ok x =>
      obtain ⟨t, r⟩ := x
      simp only [GPost]
      go_enter Tryd.func17, Tryd.ntmps17
      go_wp2_with fail
      refine (skip_no h0 rb p s _ HA.out hl0).mono ?_
      rintro e w0 ⟨rfl, ⟨q0, hq0, hl1⟩, hf0⟩
      have F0 := hideK ((HF.out).trans hf0)
      have Z0 := hideK ((HZ.out).keep hf0 (by omega))
      go_wp2_with fail
      refine (skip_yes h1 rb q0 s _ hq0 hl1).mono ?_
      rintro e w1 ⟨rfl, ⟨q1, hq1, hl2⟩, hf1⟩
      have F1 := hideK ((F0.out).trans hf1)
      have Z1 := hideK ((Z0.out).keep hf1 (by omega))
      go_wp2_with fail
      refine (readMsg_ok hR 3 5 hT hlt rb q1 s _ hq1 hl2).mono ?_
      rintro e w9 ⟨⟨al, cl, ak, ck, rfl, hg⟩, ⟨q9, hq9, hl9⟩, hf9⟩
      have hw9 := Z1.out.lt
      have Z9 := Z1.out.keep hf9 (by omega)
      have FF := hideK (F1.out.trans hf9)
      obtain ⟨zl, z0, z1, z2, z3, z4, y0, y1, y2, y3, y4⟩ := id Z9
      obtain ⟨tk, tso, tnm, tls, tks⟩ := t
      simp only
      go_wp2_with fail
      have TA := (Z9).st ⟨tk, tso, tnm, tls, tks⟩ al cl ak ck
      have R9 := (hq9).st (b := w.heap.size) (by omega) (.int .i64 tk) (.int .i64 tso) (.string tnm) (.slice al tls.length cl) (.slice ak tks.length ck)
      have F9 := (FF.out).st (Nat.le_refl _) (.int .i64 tk) (.int .i64 tso) (.string tnm) (.slice al tls.length cl) (.slice ak tks.length ck)
      have G9 := hg.st (w := w) hw9 (.int .i64 tk) (.int .i64 tso) (.string tnm) (.slice al tls.length cl) (.slice ak tks.length ck) (by omega)
      change TyAt (st5 (w9) w.heap.size 0 (.int .i64 tk) (.int .i64 tso) (.string tnm) (.slice al tls.length cl) (.slice ak tks.length ck)) _ _ _ _ _ _ _ at TA
      change GT _ (st5 (w9) w.heap.size 0 (.int .i64 tk) (.int .i64 tso) (.string tnm) (.slice al tls.length cl) (.slice ak tks.length ck)) _ _ _ _ _ _ at G9
      change bodyPost _ _ _ _ _ (st5 (w9) w.heap.size 0 (.int .i64 tk) (.int .i64 tso) (.string tnm) (.slice al tls.length cl) (.slice ak tks.length ck))
      generalize st5 (w9) w.heap.size 0 (.int .i64 tk) (.int .i64 tso) (.string tnm) (.slice al tls.length cl) (.slice ak tks.length ck) = W9 at TA R9 F9 G9 ⊢
      obtain ⟨r0, r1, r2, r3, r4⟩ := TA
      simp only [Nat.zero_add] at r1 r2 r3 r4
      refine bodyPost_ret (v := tyVal ⟨tk, tso, tnm, tls, tks⟩ al cl ak ck) (by simp [results, Tryd.results17, go_sem, tyVal, r0, r1, r2, r3, r4]) rfl ?_
      exact ⟨⟨_, rfl, ⟨_, _, _, _, rfl, G9⟩, q9, R9, hl9⟩, F9⟩
  rw [if_neg h1]
  by_cases h2 : l.head? = some 43
  · rw [if_pos h2]
    have hlt : (skB (l.drop 1)).length < n := by have := skd_len 1 l (head_pos _ _ h2); omega
    cases hT : rdCho (rdT n) 6 (skB (l.drop 1)) with
    | error r =>
      simp only [GPost]
      go_enter Tryd.func17, Tryd.ntmps17
      go_wp2_with fail
      refine (skip_no h0 rb p s _ HA.out hl0).mono ?_
      rintro e w0 ⟨rfl, ⟨q0, hq0, hl1⟩, hf0⟩
      have F0 := hideK ((HF.out).trans hf0)
      have Z0 := hideK ((HZ.out).keep hf0 (by omega))
      go_wp2_with fail
      refine (skip_no h1 rb q0 s _ hq0 hl1).mono ?_
      rintro e w1 ⟨rfl, ⟨q1, hq1, hl2⟩, hf1⟩
      have F1 := hideK ((F0.out).trans hf1)
      have Z1 := hideK ((Z0.out).keep hf1 (by omega))
      go_wp2_with fail
      refine (skip_yes h2 rb q1 s _ hq1 hl2).mono ?_
      rintro e w2 ⟨rfl, ⟨q2, hq2, hl3⟩, hf2⟩
      have F2 := hideK ((F1.out).trans hf2)
      have Z2 := hideK ((Z1.out).keep hf2 (by omega))
      go_wp2_with fail
      refine (readCho_bad hR 6 hT hlt rb q2 s _ hq2 hl3).mono ?_
      rintro e w9 ⟨rfl, hf9⟩
      go_wp2_with fail
      exact ⟨rfl, rfl, F2.out.trans hf9⟩
    | ok x =>
      obtain ⟨t, r⟩ := x
      simp only [GPost]
      go_enter Tryd.func17, Tryd.ntmps17
      go_wp2_with fail
      refine (skip_no h0 rb p s _ HA.out hl0).mono ?_
      rintro e w0 ⟨rfl, ⟨q0, hq0, hl1⟩, hf0⟩
      have F0 := hideK ((HF.out).trans hf0)
      have Z0 := hideK ((HZ.out).keep hf0 (by omega))
      go_wp2_with fail
      refine (skip_no h1 rb q0 s _ hq0 hl1).mono ?_
      rintro e w1 ⟨rfl, ⟨q1, hq1, hl2⟩, hf1⟩
      have F1 := hideK ((F0.out).trans hf1)
      have Z1 := hideK ((Z0.out).keep hf1 (by omega))
      go_wp2_with fail
      refine (skip_yes h2 rb q1 s _ hq1 hl2).mono ?_
      rintro e w2 ⟨rfl, ⟨q2, hq2, hl3⟩, hf2⟩
      have F2 := hideK ((F1.out).trans hf2)
      have Z2 := hideK ((Z1.out).keep hf2 (by omega))
      go_wp2_with fail
      refine (readCho_ok hR 6 hT hlt rb q2 s _ hq2 hl3).mono ?_
      rintro e w9 ⟨⟨al, cl, ak, ck, rfl, hg⟩, ⟨q9, hq9, hl9⟩, hf9⟩
      have hw9 := Z2.out.lt
      have Z9 := Z2.out.keep hf9 (by omega)
      have FF := hideK (F2.out.trans hf9)
      obtain ⟨zl, z0, z1, z2, z3, z4, y0, y1, y2, y3, y4⟩ := id Z9
      obtain ⟨tk, tso, tnm, tls, tks⟩ := t
      simp only
      go_wp2_with fail
      have TA := (Z9).st ⟨tk, tso, tnm, tls, tks⟩ al cl ak ck
      have R9 := (hq9).st (b := w.heap.size) (by omega) (.int .i64 tk) (.int .i64 tso) (.string tnm) (.slice al tls.length cl) (.slice ak tks.length ck)
      have F9 := (FF.out).st (Nat.le_refl _) (.int .i64 tk) (.int .i64 tso) (.string tnm) (.slice al tls.length cl) (.slice ak tks.length ck)
      have G9 := hg.st (w := w) hw9 (.int .i64 tk) (.int .i64 tso) (.string tnm) (.slice al tls.length cl) (.slice ak tks.length ck) (by omega)
      change TyAt (st5 (w9) w.heap.size 0 (.int .i64 tk) (.int .i64 tso) (.string tnm) (.slice al tls.length cl) (.slice ak tks.length ck)) _ _ _ _ _ _ _ at TA
      change GT _ (st5 (w9) w.heap.size 0 (.int .i64 tk) (.int .i64 tso) (.string tnm) (.slice al tls.length cl) (.slice ak tks.length ck)) _ _ _ _ _ _ at G9
      change bodyPost _ _ _ _ _ (st5 (w9) w.heap.size 0 (.int .i64 tk) (.int .i64 tso) (.string tnm) (.slice al tls.length cl) (.slice ak tks.length ck))
      generalize st5 (w9) w.heap.size 0 (.int .i64 tk) (.int .i64 tso) (.string tnm) (.slice al tls.length cl) (.slice ak tks.length ck) = W9 at TA R9 F9 G9 ⊢
      obtain ⟨r0, r1, r2, r3, r4⟩ := TA
      simp only [Nat.zero_add] at r1 r2 r3 r4
      refine bodyPost_ret (v := tyVal ⟨tk, tso, tnm, tls, tks⟩ al cl ak ck) (by simp [results, Tryd.results17, go_sem, tyVal, r0, r1, r2, r3, r4]) rfl ?_
      exact ⟨⟨_, rfl, ⟨_, _, _, _, rfl, G9⟩, q9, R9, hl9⟩, F9⟩
  rw [if_neg h2]
  by_cases h3 : l.head? = some 38
  · rw [if_pos h3]
    have hlt : (skB (l.drop 1)).length < n := by have := skd_len 1 l (head_pos _ _ h3); omega
    cases hT : rdCho (rdT n) 7 (skB (l.drop 1)) with
    | error r =>
      simp only [GPost]
      go_enter Tryd.func17, Tryd.ntmps17
      go_wp2_with fail
      refine (skip_no h0 rb p s _ HA.out hl0).mono ?_
      rintro e w0 ⟨rfl, ⟨q0, hq0, hl1⟩, hf0⟩
      have F0 := hideK ((HF.out).trans hf0)
      have Z0 := hideK ((HZ.out).keep hf0 (by omega))
      go_wp2_with fail
      refine (skip_no h1 rb q0 s _ hq0 hl1).mono ?_
      rintro e w1 ⟨rfl, ⟨q1, hq1, hl2⟩, hf1⟩
      have F1 := hideK ((F0.out).trans hf1)
      have Z1 := hideK ((Z0.out).keep hf1 (by omega))
      go_wp2_with fail
      refine (skip_no h2 rb q1 s _ hq1 hl2).mono ?_
      rintro e w2 ⟨rfl, ⟨q2, hq2, hl3⟩, hf2⟩
      have F2 := hideK ((F1.out).trans hf2)
      have Z2 := hideK ((Z1.out).keep hf2 (by omega))
      go_wp2_with fail
      refine (skip_yes h3 rb q2 s _ hq2 hl3).mono ?_
      rintro e w3 ⟨rfl, ⟨q3, hq3, hl4⟩, hf3⟩
      have F3 := hideK ((F2.out).trans hf3)
      have Z3 := hideK ((Z2.out).keep hf3 (by omega))
      go_wp2_with fail
      refine (readCho_bad hR 7 hT hlt rb q3 s _ hq3 hl4).mono ?_
      rintro e w9 ⟨rfl, hf9⟩
      go_wp2_with fail
      exact ⟨rfl, rfl, F3.out.trans hf9⟩
    | ok x =>
      obtain ⟨t, r⟩ := x
      simp only [GPost]
      go_enter Tryd.func17, Tryd.ntmps17
      go_wp2_with fail
      refine (skip_no h0 rb p s _ HA.out hl0).mono ?_
      rintro e w0 ⟨rfl, ⟨q0, hq0, hl1⟩, hf0⟩
      have F0 := hideK ((HF.out).trans hf0)
      have Z0 := hideK ((HZ.out).keep hf0 (by omega))
      go_wp2_with fail
      refine (skip_no h1 rb q0 s _ hq0 hl1).mono ?_
      rintro e w1 ⟨rfl, ⟨q1, hq1, hl2⟩, hf1⟩
      have F1 := hideK ((F0.out).trans hf1)
      have Z1 := hideK ((Z0.out).keep hf1 (by omega))
      go_wp2_with fail
      refine (skip_no h2 rb q1 s _ hq1 hl2).mono ?_
      rintro e w2 ⟨rfl, ⟨q2, hq2, hl3⟩, hf2⟩
      have F2 := hideK ((F1.out).trans hf2)
      have Z2 := hideK ((Z1.out).keep hf2 (by omega))
      go_wp2_with fail
      refine (skip_yes h3 rb q2 s _ hq2 hl3).mono ?_
      rintro e w3 ⟨rfl, ⟨q3, hq3, hl4⟩, hf3⟩
      have F3 := hideK ((F2.out).trans hf3)
      have Z3 := hideK ((Z2.out).keep hf3 (by omega))
      go_wp2_with fail
      refine (readCho_ok hR 7 hT hlt rb q3 s _ hq3 hl4).mono ?_
      rintro e w9 ⟨⟨al, cl, ak, ck, rfl, hg⟩, ⟨q9, hq9, hl9⟩, hf9⟩
      have hw9 := Z3.out.lt
      have Z9 := Z3.out.keep hf9 (by omega)
      have FF := hideK (F3.out.trans hf9)
      obtain ⟨zl, z0, z1, z2, z3, z4, y0, y1, y2, y3, y4⟩ := id Z9
      obtain ⟨tk, tso, tnm, tls, tks⟩ := t
      simp only
      go_wp2_with fail
      have TA := (Z9).st ⟨tk, tso, tnm, tls, tks⟩ al cl ak ck
      have R9 := (hq9).st (b := w.heap.size) (by omega) (.int .i64 tk) (.int .i64 tso) (.string tnm) (.slice al tls.length cl) (.slice ak tks.length ck)
      have F9 := (FF.out).st (Nat.le_refl _) (.int .i64 tk) (.int .i64 tso) (.string tnm) (.slice al tls.length cl) (.slice ak tks.length ck)
      have G9 := hg.st (w := w) hw9 (.int .i64 tk) (.int .i64 tso) (.string tnm) (.slice al tls.length cl) (.slice ak tks.length ck) (by omega)
      change TyAt (st5 (w9) w.heap.size 0 (.int .i64 tk) (.int .i64 tso) (.string tnm) (.slice al tls.length cl) (.slice ak tks.length ck)) _ _ _ _ _ _ _ at TA
      change GT _ (st5 (w9) w.heap.size 0 (.int .i64 tk) (.int .i64 tso) (.string tnm) (.slice al tls.length cl) (.slice ak tks.length ck)) _ _ _ _ _ _ at G9
      change bodyPost _ _ _ _ _ (st5 (w9) w.heap.size 0 (.int .i64 tk) (.int .i64 tso) (.string tnm) (.slice al tls.length cl) (.slice ak tks.length ck))
      generalize st5 (w9) w.heap.size 0 (.int .i64 tk) (.int .i64 tso) (.string tnm) (.slice al tls.length cl) (.slice ak tks.length ck) = W9 at TA R9 F9 G9 ⊢
      obtain ⟨r0, r1, r2, r3, r4⟩ := TA
      simp only [Nat.zero_add] at r1 r2 r3 r4
      refine bodyPost_ret (v := tyVal ⟨tk, tso, tnm, tls, tks⟩ al cl ak ck) (by simp [results, Tryd.results17, go_sem, tyVal, r0, r1, r2, r3, r4]) rfl ?_
      exact ⟨⟨_, rfl, ⟨_, _, _, _, rfl, G9⟩, q9, R9, hl9⟩, F9⟩
  rw [if_neg h3]
  have hlt := hn
  cases hT : rdWord (rdT n) l with
  | error r =>
    simp only [GPost]
    go_enter Tryd.func17, Tryd.ntmps17
    go_wp2_with fail
    refine (skip_no h0 rb p s _ HA.out hl0).mono ?_
    rintro e w0 ⟨rfl, ⟨q0, hq0, hl1⟩, hf0⟩
    have F0 := hideK ((HF.out).trans hf0)
    have Z0 := hideK ((HZ.out).keep hf0 (by omega))
    go_wp2_with fail
    refine (skip_no h1 rb q0 s _ hq0 hl1).mono ?_
    rintro e w1 ⟨rfl, ⟨q1, hq1, hl2⟩, hf1⟩
    have F1 := hideK ((F0.out).trans hf1)
    have Z1 := hideK ((Z0.out).keep hf1 (by omega))
    go_wp2_with fail
    refine (skip_no h2 rb q1 s _ hq1 hl2).mono ?_
    rintro e w2 ⟨rfl, ⟨q2, hq2, hl3⟩, hf2⟩
    have F2 := hideK ((F1.out).trans hf2)
    have Z2 := hideK ((Z1.out).keep hf2 (by omega))
    go_wp2_with fail
    refine (skip_no h3 rb q2 s _ hq2 hl3).mono ?_
    rintro e w3 ⟨rfl, ⟨q3, hq3, hl4⟩, hf3⟩
    have F3 := hideK ((F2.out).trans hf3)
    have Z3 := hideK ((Z2.out).keep hf3 (by omega))
    go_wp2_with fail
    refine (readWord_bad hR  hT hlt rb q3 s _ hq3 hl4).mono ?_
    rintro e w9 ⟨rfl, hf9⟩
    go_wp2_with fail
    exact ⟨rfl, rfl, F3.out.trans hf9⟩
  | ok x =>
    obtain ⟨t, r⟩ := x
    simp only [GPost]
    go_enter Tryd.func17, Tryd.ntmps17
    go_wp2_with fail
    refine (skip_no h0 rb p s _ HA.out hl0).mono ?_
    rintro e w0 ⟨rfl, ⟨q0, hq0, hl1⟩, hf0⟩
    have F0 := hideK ((HF.out).trans hf0)
    have Z0 := hideK ((HZ.out).keep hf0 (by omega))
    go_wp2_with fail
    refine (skip_no h1 rb q0 s _ hq0 hl1).mono ?_
    rintro e w1 ⟨rfl, ⟨q1, hq1, hl2⟩, hf1⟩
    have F1 := hideK ((F0.out).trans hf1)
    have Z1 := hideK ((Z0.out).keep hf1 (by omega))
    go_wp2_with fail
    refine (skip_no h2 rb q1 s _ hq1 hl2).mono ?_
    rintro e w2 ⟨rfl, ⟨q2, hq2, hl3⟩, hf2⟩
    have F2 := hideK ((F1.out).trans hf2)
    have Z2 := hideK ((Z1.out).keep hf2 (by omega))
    go_wp2_with fail
    refine (skip_no h3 rb q2 s _ hq2 hl3).mono ?_
    rintro e w3 ⟨rfl, ⟨q3, hq3, hl4⟩, hf3⟩
    have F3 := hideK ((F2.out).trans hf3)
    have Z3 := hideK ((Z2.out).keep hf3 (by omega))
    go_wp2_with fail
    refine (readWord_ok hR  hT hlt rb q3 s _ hq3 hl4).mono ?_
    rintro e w9 ⟨⟨al, cl, ak, ck, rfl, hg⟩, ⟨q9, hq9, hl9⟩, hf9⟩
    have hw9 := Z3.out.lt
    have Z9 := Z3.out.keep hf9 (by omega)
    have FF := hideK (F3.out.trans hf9)
    obtain ⟨zl, z0, z1, z2, z3, z4, y0, y1, y2, y3, y4⟩ := id Z9
    obtain ⟨tk, tso, tnm, tls, tks⟩ := t
    simp only
    go_wp2_with fail
    have TA := (Z9).st ⟨tk, tso, tnm, tls, tks⟩ al cl ak ck
    have R9 := (hq9).st (b := w.heap.size) (by omega) (.int .i64 tk) (.int .i64 tso) (.string tnm) (.slice al tls.length cl) (.slice ak tks.length ck)
    have F9 := (FF.out).st (Nat.le_refl _) (.int .i64 tk) (.int .i64 tso) (.string tnm) (.slice al tls.length cl) (.slice ak tks.length ck)
    have G9 := hg.st (w := w) hw9 (.int .i64 tk) (.int .i64 tso) (.string tnm) (.slice al tls.length cl) (.slice ak tks.length ck) (by omega)
    change TyAt (st5 (w9) w.heap.size 0 (.int .i64 tk) (.int .i64 tso) (.string tnm) (.slice al tls.length cl) (.slice ak tks.length ck)) _ _ _ _ _ _ _ at TA
    change GT _ (st5 (w9) w.heap.size 0 (.int .i64 tk) (.int .i64 tso) (.string tnm) (.slice al tls.length cl) (.slice ak tks.length ck)) _ _ _ _ _ _ at G9
    change bodyPost _ _ _ _ _ (st5 (w9) w.heap.size 0 (.int .i64 tk) (.int .i64 tso) (.string tnm) (.slice al tls.length cl) (.slice ak tks.length ck))
    generalize st5 (w9) w.heap.size 0 (.int .i64 tk) (.int .i64 tso) (.string tnm) (.slice al tls.length cl) (.slice ak tks.length ck) = W9 at TA R9 F9 G9 ⊢
    obtain ⟨r0, r1, r2, r3, r4⟩ := TA
    simp only [Nat.zero_add] at r1 r2 r3 r4
    refine bodyPost_ret (v := tyVal ⟨tk, tso, tnm, tls, tks⟩ al cl ak ck) (by simp [results, Tryd.results17, go_sem, tyVal, r0, r1, r2, r3, r4]) rfl ?_
    exact ⟨⟨_, rfl, ⟨_, _, _, _, rfl, G9⟩, q9, R9, hl9⟩, F9⟩
theorem read_all (n : Nat) : RDSaid n := by
  induction n with
  | zero => intro rb p s w _ hn; omega
  | succ n ih => exact read_step n ih
end Go.Proofs.YtefdekfgmbgbbaaDoor
