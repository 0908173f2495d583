/-
  PLAIN: a list of events as bytes: what is written is read, what is read was written so, and of a beginning no more is read than was written there.
-/
import Derived.Test.YtefdekfgmbgbbaaGreatDoorWis
import Derived.Test.YtefdekfgmbgbbaaGreatDoorWik
import Derived.Test.YtefdekfgmbgbbaaGreatDoorKw
namespace Go.Proofs.YtefdekfgmbgbbaaGreatDoor
open Go.RowKit Go.Shelf

section
variable (V : ByteArray → Bool)
/-- an event that may be written -/
def evOK (x : Ev) : Prop := weZ V x = 0 ∧ (-9223372036854775808 ≤ x.n ∧ x.n ≤ 9223372036854775807)
theorem wrL_cons (x : Ev) (r : List Ev) : wrL (x :: r) = wrE x ++ wrL r := rfl
theorem wrL_app (a b : List Ev) : wrL (a ++ b) = wrL a ++ wrL b := by unfold wrL; rw [List.flatMap_append]
theorem wrE_ne (x : Ev) : ∃ b r, wrE x = b :: r := ⟨_, _, rfl⟩
theorem wiL_step (B : Nat) (l q : List UInt8) (x : Ev) (hne : l ≠ []) (h : wiE V l = .ok (x, q)) : wiL V (B + 1) l = match wiL V B q with
    | .error e => .error e
    | .ok xs => .ok (x :: xs) := by
  cases l with
  | nil => exact absurd rfl hne
  | cons b r =>
    rw [wiL, h]
    rfl
theorem wrL_back : ∀ (evs : List Ev) (B : Nat), (∀ x ∈ evs, evOK V x) → evs.length ≤ B → wiL V B (wrL evs) = .ok (evs.map bareV) := by
  intro evs
  induction evs with
  | nil => intro B _ _; exact wiL_nil V B
  | cons x r ih =>
    intro B h hB
    obtain ⟨B', rfl⟩ : ∃ B', B = B' + 1 := ⟨B - 1, by simp at hB; omega⟩
    obtain ⟨h1, h2⟩ := h x (by simp)
    have h3 := wiE_back V h1 h2 (wrL r)
    obtain ⟨b, q, hb⟩ := wrE_ne x
    rw [wrL_cons, wiL_step V B' _ _ _ (by rw [hb]; simp) h3, ih B' (fun y hy => h y (by simp [hy])) (by simp at hB; omega)]
    rfl
/-- what is read of a beginning -/
theorem wrL_parts : ∀ (evs : List Ev) (B : Nat), (∀ x ∈ evs, evOK V x) → evs.length ≤ B → ∀ k, k < (wrL evs).length →
    (∃ r, wiL V B ((wrL evs).take k) = .error (3, r)) ∨ ∃ m, m < evs.length ∧ wiL V B ((wrL evs).take k) = .ok ((evs.take m).map bareV) := by
  intro evs
  induction evs with
  | nil => intro B _ _ k hk; simp [wrL] at hk
  | cons x r ih =>
    intro B h hB k hk
    obtain ⟨B', rfl⟩ : ∃ B', B = B' + 1 := ⟨B - 1, by simp at hB; omega⟩
    obtain ⟨h1, h2⟩ := h x (by simp)
    rw [wrL_cons] at hk ⊢
    by_cases h0 : k = 0
    · subst h0
      right
      exact ⟨0, by simp, by rw [List.take_zero, wiL_nil]; rfl⟩
    by_cases hs : k < (wrE x).length
    · left
      rw [List.take_append_of_le_length (by omega)]
      have hbk := wiE_back V h1 h2 []
      rw [List.append_nil] at hbk
      cases hq : (wrE x).take k with
      | nil =>
        have := congrArg List.length hq
        rw [List.length_take, List.length_nil] at this
        omega
      | cons b q =>
        cases hn : wiE V (b :: q) with
        | error e => exact ⟨e, wiL_bad V B' b q e hn⟩
        | ok y =>
          obtain ⟨y, r'⟩ := y
          have hx := wiE_ext V ((wrE x).drop k) hn
          rw [← hq, List.take_append_drop, hbk] at hx
          injection hx with hx
          injection hx with _ hx
          have := congrArg List.length hx
          rw [List.length_append, List.length_drop] at this
          simp at this
          omega
    · have hk2 : k - (wrE x).length < (wrL r).length := by rw [List.length_append] at hk; omega
      have e1 : (wrE x ++ wrL r).take k = wrE x ++ (wrL r).take (k - (wrE x).length) := by
        rw [List.take_append, List.take_of_length_le (by omega)]
      obtain ⟨b, q, hb⟩ := wrE_ne x
      rw [e1, wiL_step V B' _ _ _ (by rw [hb]; simp) (wiE_back V h1 h2 _)]
      rcases ih B' (fun y hy => h y (by simp [hy])) (by simp at hB; omega) _ hk2 with ⟨e, he⟩ | ⟨m, hm, he⟩
      · left
        rw [he]
        exact ⟨e, rfl⟩
      · right
        rw [he]
        exact ⟨m + 1, by simpa using hm, by simp⟩
/-- what has been read was written so -/
theorem wiL_conv : ∀ (B : Nat) (L : List UInt8) (xs : List Ev), wiL V B L = .ok xs → (∀ x ∈ xs, evOK V x ∧ x.s.size ≤ 100) ∧ wrL xs = L ∧ xs.length ≤ B := by
  intro B
  induction B with
  | zero =>
    intro L xs h
    cases L with
    | nil => rw [wiL_nil] at h; injection h with h; subst h; exact ⟨(fun x hx => by cases hx), rfl, by simp⟩
    | cons b r => cases h
  | succ B ih =>
    intro L xs h
    cases L with
    | nil => rw [wiL_nil] at h; injection h with h; subst h; exact ⟨(fun x hx => by cases hx), rfl, by simp⟩
    | cons b r =>
      cases hn : wiE V (b :: r) with
      | error e => rw [wiL_bad V B b r e hn] at h; cases h
      | ok y =>
        obtain ⟨y, q⟩ := y
        rw [wiL_step V B _ _ _ (by simp) hn] at h
        cases hr : wiL V B q with
        | error e => rw [hr] at h; cases h
        | ok ys =>
          rw [hr] at h
          injection h with h
          subst h
          obtain ⟨a1, a2, a3⟩ := ih q ys hr
          obtain ⟨b1, b2, b3, b4⟩ := wiE_conv V hn
          refine ⟨fun x hx => ?_, by rw [wrL_cons, a2, b2], by simp; omega⟩
          rcases List.mem_cons.1 hx with rfl | hx
          · exact ⟨⟨b1, b3⟩, b4⟩
          · exact a1 x hx
end
end Go.Proofs.YtefdekfgmbgbbaaGreatDoor
/-
  The contract of wires.Read, for every text.
-/
namespace Go.Proofs.YtefdekfgmbgbbaaGreatDoor
open Go.RowKit Go.Shelf

set_option maxRecDepth 100000 in
set_option maxHeartbeats 2000000 in
theorem caughtW_ok (b0 b1 : Nat) (w : World) (Φ : World → Prop) (hB : Calls Tryz.prog 14 #[.pointer (some ⟨b0, 0, none⟩), .pointer (some ⟨b1, 0, none⟩)] (w.alloc (.cells #[.int .i64 0, .int .i64 0] 35)) fun e W => e = .returned (.tuple #[]) ∧ FB W w.heap.size 0 0 ∧ Φ W) :
    Calls Tryz.prog 13 #[.func (.func 14) #[] #[.pointer (some ⟨b0, 0, none⟩), .pointer (some ⟨b1, 0, none⟩)]] w fun e w' => e = .returned (.agg #[.int .i64 0, .int .i64 0]) ∧ ∃ W, FB W w.heap.size 0 0 ∧ Φ W ∧ w' = st2 W w.heap.size 0 0 := by
  have hmf : ∀ (fn : Fn) (first cap : Array Value) (w : World), (Instr.makeFunc fn first cap).run Tryz.prog w = .ok (.func fn first cap) w := fun _ _ _ _ => rfl
  go_enter_defers Tryz.func13, Tryz.ntmps13
  go_wp2_with fail
  refine hB.mono ?_
  rintro e w2 ⟨rfl, hf, hφ⟩
  have HF := hideK hf
  have HΦ := hideK hφ
  obtain ⟨bl, c0, c1, g0, g1⟩ := hf
  clear hφ hB
  go_wp2_with fail
  have B9 := st2_at HF.out 0 0
  change bodyPostD _ _ _ _ _ (st2 w2 w.heap.size 0 0)
  obtain ⟨W9, hW⟩ : ∃ x, x = st2 w2 w.heap.size 0 0 := ⟨_, rfl⟩
  rw [← hW] at B9 ⊢
  obtain ⟨_, r0, r1, _, _⟩ := B9
  refine leaves_cons (f := 21) (args := #[.pointer (some ⟨w.heap.size, 0, none⟩)]) (by simp) (by simp [go_sem]) ?_
  refine (catch_none w.heap.size _).mono ?_
  rintro e u' w3 ⟨rfl, rfl, rfl⟩
  exact ⟨.agg #[.int .i64 0, .int .i64 0], by simp [results, Tryz.results13, go_sem, r0, r1], rfl, w2, HF.out, HΦ.out, hW⟩
set_option maxRecDepth 100000 in
set_option maxHeartbeats 2000000 in
theorem caughtW_bad (b0 b1 : Nat) (k z : Int) (w : World) (Φ : World → Prop) (hB : Calls Tryz.prog 14 #[.pointer (some ⟨b0, 0, none⟩), .pointer (some ⟨b1, 0, none⟩)] (w.alloc (.cells #[.int .i64 0, .int .i64 0] 35)) fun e W => e = .panicked (faultE k z) ∧ FB W w.heap.size 0 0 ∧ Φ W) :
    Calls Tryz.prog 13 #[.func (.func 14) #[] #[.pointer (some ⟨b0, 0, none⟩), .pointer (some ⟨b1, 0, none⟩)]] w fun e w' => e = .returned (.agg #[.int .i64 k, .int .i64 z]) ∧ ∃ W, FB W w.heap.size 0 0 ∧ Φ W ∧ w' = st2 W w.heap.size k z := by
  have hmf : ∀ (fn : Fn) (first cap : Array Value) (w : World), (Instr.makeFunc fn first cap).run Tryz.prog w = .ok (.func fn first cap) w := fun _ _ _ _ => rfl
  unfold faultE at hB
  go_enter_defers Tryz.func13, Tryz.ntmps13
  go_wp2_with fail
  refine hB.mono ?_
  rintro e w2 ⟨rfl, hf, hφ⟩
  have HF := hideK hf
  have HΦ := hideK hφ
  clear hf hφ hB
  go_wp2_with fail
  have B9 := st2_at HF.out k z
  refine leaves_cons (f := 21) (args := #[.pointer (some ⟨w.heap.size, 0, none⟩)]) (by simp) (by simp [go_sem]) ?_
  refine (catch_thrown w.heap.size k z 0 0 [] w2 HF.out.c0 HF.out.c1 HF.out.f0 HF.out.f1).mono ?_
  rintro e u' w3 ⟨rfl, rfl, rfl⟩
  change Leaves _ _ _ _ [] .returning (st2 w2 w.heap.size k z)
  obtain ⟨W9, hW⟩ : ∃ x, x = st2 w2 w.heap.size k z := ⟨_, rfl⟩
  rw [← hW] at B9 ⊢
  obtain ⟨_, r0, r1, _, _⟩ := B9
  exact ⟨.agg #[.int .i64 k, .int .i64 z], by simp [results, Tryz.results13, go_sem, r0, r1], rfl, w2, HF.out, HΦ.out, hW⟩
section
variable {V : ByteArray → Bool} {Tabs : World → Prop} {B0 : Nat}
/-- what the reading leaves: the events in their block, or what is thrown -/
def R1Post (w : World) (s : ByteArray) (lb : Nat) (X : Except (Int × List UInt8) (List Ev)) (e : Ending) (w' : World) : Prop :=
  match X with
  | .error (c, r) => e = .panicked (faultE c ((s.size - r.length : Nat) : Int)) ∧ FR lb w w' ∧ w'.cell? ⟨lb, 0, none⟩ = some (.slice none 0 0) ∧ w'.frozen? ⟨lb, 0, none⟩ = false
  | .ok xs => e = .returned (.tuple #[]) ∧ FR lb w w' ∧ ∃ av cv, w'.cell? ⟨lb, 0, none⟩ = some (.slice av xs.length cv) ∧ w'.frozen? ⟨lb, 0, none⟩ = false ∧ EvsR w w' xs av cv
theorem NX.old {w0 w W : World} {g : Option Nat} {b : Nat} (h : NX w W g b) (hw : w0.heap.size ≤ w.heap.size) : NX w0 W g b := ⟨Nat.le_trans hw h.1, h.2⟩
theorem EvsR.old {w0 w W : World} {xs : List Ev} {av : Option Addr} {cv : Nat} (h : EvsR w W xs av cv) (hw : w0.heap.size ≤ w.heap.size) : EvsR w0 W xs av cv := by
  obtain ⟨es, h1, h2, h3⟩ := h
  exact ⟨es, h1, ⟨h2.1, h2.2.imp id fun ⟨g, cap, cur, a1, a2, a3⟩ => ⟨g, cap, cur, a1, Nat.le_trans hw a2, a3⟩⟩, fun e he => ⟨(h3 e he).bd, (h3 e he).la.keep (fun _ _ _ => rfl) (fun _ hb => hb.old hw), (h3 e he).ka.keep (fun _ _ _ => rfl) (fun _ hb => hb.old hw)⟩⟩
theorem EvsR.keep {w W W' : World} {xs : List Ev} {av : Option Addr} {cv : Nat} {rb : Nat} (h : EvsR w W xs av cv) (hf : FR rb W W') (hr : rb < w.heap.size) : EvsR w W' xs av cv := by
  obtain ⟨es, h1, h2, h3⟩ := h
  exact ⟨es, h1, h2.kept hf (by right; intro e; have := (h2.lt _ e).1; omega), fun e he => (h3 e he).keep hf hr⟩
set_option maxRecDepth 100000 in
set_option maxHeartbeats 4000000 in
theorem wread1 (hV : VSaid V Tabs) (hK : ∀ w w', Tabs w → Below B0 w w' → Tabs w') (sb lb : Nat) (s : ByteArray) (w : World) (hT : Tabs w) (hB : B0 ≤ w.heap.size) (hs : s.size ≤ 281474976710656) (h0 : w.cell? ⟨sb, 0, none⟩ = some (.string s)) (h1 : w.cell? ⟨lb, 0, none⟩ = some (.slice none 0 0)) (f1 : w.frozen? ⟨lb, 0, none⟩ = false) :
    Calls Tryz.prog 14 #[.pointer (some ⟨sb, 0, none⟩), .pointer (some ⟨lb, 0, none⟩)] w fun e w' => R1Post w s lb (wiL V 200 s.data.toList) e w' := by
  have hA : Below w.heap.size w (w.alloc (.cells #[.string s, .int .i64 0] 52)) := (Below.refl _ _).alloc (Nat.le_refl _) _
  have hll := lt_of_cell h1
  have R0 : WRd (w.alloc (.cells #[.string s, .int .i64 0] 52)) w.heap.size s 0 := ⟨by go_cell, by go_cell, by go_simp, Nat.zero_le _, hs⟩
  have cE := events_read hV hK w.heap.size 0 s (w.alloc (.cells #[.string s, .int .i64 0] 52)) hB (hK _ _ hT (hA.mono hB)) R0
  rw [show rs s 0 = s.data.toList from rfl] at cE
  have HL := hideK ((hA.cell (p := ⟨lb, 0, none⟩) hll).trans h1)
  have HL2 := hideK ((hA.frozen (p := ⟨lb, 0, none⟩) hll).trans f1)
  cases hX : wiL V 200 s.data.toList with
  | error y =>
    obtain ⟨c, r⟩ := y
    rw [hX] at cE
    simp only [LPost, R1Post] at cE ⊢
    clear hX hT hV hK
    go_enter Tryz.func14, Tryz.ntmps14
    go_wp2_with (go_at_call 15; refine cE.mono ?_; rintro e w1 ⟨rfl, hf⟩)
    exact ⟨rfl, rfl, (FR.of hA).via hf (Nat.le_refl _), (hf.cellO (by simp; omega) (by omega)).trans HL.out, (hf.frozenO (by simp; omega) (by omega)).trans HL2.out⟩
  | ok xs =>
    rw [hX] at cE
    simp only [LPost, R1Post] at cE ⊢
    clear hX hT hV hK
    go_enter Tryz.func14, Tryz.ntmps14
    go_wp2_with (go_at_call 15; go_must (refine cE.mono ?_; rintro e w1 ⟨⟨av, cv, rfl, hv⟩, hf⟩; have l1 := (hf.cellO (b := lb) (o := 0) (by simp; omega) (by omega)).trans HL.out; have l2 := (hf.frozenO (b := lb) (o := 0) (by simp; omega) (by omega)).trans HL2.out; have HVV := hideK hv; have HF := hideK hf; clear hv hf))
    go_end0
    refine ⟨rfl, (((FR.of hA).via HF.out (Nat.le_refl _)).trans (FR.set2 0 _)), av, cv, World.cell?_setCell_same _ _ _ l1, by rw [World.frozen?_setCell]; exact l2, (HVV.out.keep (FR.set2 (pb := lb) 0 _) (by simp; omega)).old (by simp)⟩
end
end Go.Proofs.YtefdekfgmbgbbaaGreatDoor
