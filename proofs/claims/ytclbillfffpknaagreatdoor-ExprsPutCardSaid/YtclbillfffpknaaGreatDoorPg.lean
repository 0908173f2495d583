/-
  The contracts of slices.Clone of an environment, slices.Contains of texts, and duetlaw.Same of one text each.
-/
import Derived.Test.YtclbillfffpknaaGreatDoorPf
import Derived.Test.YtclbillfffpknaaGreatDoorPj
import Derived.Test.YtclbillfffpknaaGreatDoorXk
namespace Go.Proofs.YtclbillfffpknaaGreatDoor
open Go.RowKit Go.Shelf Go.Sort

/-- an environment's cells -/
def bC (p : ByteArray × Vl) : List Value := [.string p.1, .int .i64 p.2.so, .int .i64 p.2.n, .string p.2.s]
def bCs (bs : List (ByteArray × Vl)) : List Value := bs.flatMap bC
theorem bCs_len (bs : List (ByteArray × Vl)) : (bCs bs).length = bs.length * 4 := by
  unfold bCs
  induction bs with
  | nil => rfl
  | cons p r ih => simp only [List.flatMap_cons, List.length_append, ih, List.length_cons, bC, List.length_nil]; omega
theorem bCs_app (a b : List (ByteArray × Vl)) : bCs (a ++ b) = bCs a ++ bCs b := by unfold bCs; rw [List.flatMap_append]
theorem bCs_one (bs : List (ByteArray × Vl)) : ∀ y ∈ bCs bs, y.oneCell' = true := by
  intro y hy
  obtain ⟨p, _, hp⟩ := List.mem_flatMap.1 hy
  simp only [bC, List.mem_cons, List.not_mem_nil, or_false] at hp
  rcases hp with rfl | rfl | rfl | rfl <;> rfl
theorem bCs_at (bs : List (ByteArray × Vl)) : ∀ (i : Nat) (h : i < bs.length) (r : Nat), r < 4 → (bCs bs)[i * 4 + r]? = (bC bs[i])[r]? := by
  induction bs with
  | nil => intro i h; simp at h
  | cons p l ih =>
    intro i h r hr
    have e : bCs (p :: l) = bC p ++ bCs l := rfl
    have hl : (bC p).length = 4 := rfl
    rw [e]
    cases i with
    | zero => rw [Nat.zero_mul, Nat.zero_add, List.getElem?_append_left (by omega)]; rfl
    | succ i =>
      rw [List.getElem?_append_right (by omega), hl]
      have := ih i (by simpa using h) r hr
      rw [show (i + 1) * 4 + r - 4 = i * 4 + r by omega]
      exact this
theorem env_news {W : World} {B : Nat} {bs : List (ByteArray × Vl)} {a : Addr} (h : EnvAt W B bs (some a)) : ∀ j u, (bCs bs)[j]? = some u → W.cell? (a.add j) = some u ∧ a.block < B := by
  intro j u hj
  have hlt : j < (bCs bs).length := by
    rcases Nat.lt_or_ge j (bCs bs).length with hh | hh
    · exact hh
    · rw [List.getElem?_eq_none hh] at hj; cases hj
  rw [bCs_len] at hlt
  rcases h.c with rfl | ⟨b, o, he, hb, hc⟩
  · simp at hlt
  · injection he with he
    subst he
    have e : (⟨b, o, none⟩ : Addr).add j = ⟨b, o + j, none⟩ := by unfold Addr.add; split <;> simp_all
    rw [e]
    refine ⟨?_, hb⟩
    have hi : j / 4 < bs.length := by omega
    have hr : j % 4 < 4 := by omega
    have hjj : j = j / 4 * 4 + j % 4 := by omega
    obtain ⟨c0, c1, c2, c3⟩ := hc (j / 4) hi
    rw [hjj, bCs_at bs (j / 4) hi (j % 4) hr] at hj
    generalize j / 4 = i at *
    generalize j % 4 = r at *
    subst hjj
    have : r = 0 ∨ r = 1 ∨ r = 2 ∨ r = 3 := by omega
    rcases this with rfl | rfl | rfl | rfl
    · simp only [bC, List.getElem?_cons_zero, Option.some.injEq] at hj; subst hj; exact c0
    · simp only [bC, List.getElem?_cons_succ, List.getElem?_cons_zero, Option.some.injEq] at hj; subst hj; rw [← Nat.add_assoc]; exact c1
    · simp only [bC, List.getElem?_cons_succ, List.getElem?_cons_zero, Option.some.injEq] at hj; subst hj; rw [← Nat.add_assoc]; exact c2
    · simp only [bC, List.getElem?_cons_succ, List.getElem?_cons_zero, Option.some.injEq] at hj; subst hj; rw [← Nat.add_assoc]; exact c3
/-- a row of names and values that is owned is an environment -/
theorem env_of_own {W : World} {base : Nat} {v : Value} {bs : List (ByteArray × Vl)} (h : W.ownsRow base 40 4 v bs.length (bCs bs)) (hl : bs.length ≤ 9223372036854775806) :
    ∃ ae ce, v = .slice ae bs.length ce ∧ EnvAt W W.heap.size bs ae := by
  rcases own_cells h with ⟨rfl, h0, _⟩ | ⟨g, cap, rfl, _, hg, hc⟩
  · have : bs = [] := List.eq_nil_of_length_eq_zero h0
    subst this
    exact ⟨none, 0, rfl, by simp, .inl rfl⟩
  · refine ⟨some ⟨g, 0, none⟩, cap, rfl, hl, .inr ⟨g, 0, rfl, hg, fun i hi => ?_⟩⟩
    refine ⟨hc _ _ ?_, hc _ _ ?_, hc _ _ ?_, hc _ _ ?_⟩
    · rw [Nat.zero_add, ← Nat.add_zero (i * 4), bCs_at bs i hi 0 (by omega)]; rfl
    · rw [Nat.zero_add, bCs_at bs i hi 1 (by omega)]; rfl
    · rw [Nat.zero_add, bCs_at bs i hi 2 (by omega)]; rfl
    · rw [Nat.zero_add, bCs_at bs i hi 3 (by omega)]; rfl
theorem infoBd : (Tryz.prog.info? 40).map (fun i => (i.zero, i.size, i.bytes)) = some (some (.agg #[.string ⟨#[]⟩, .int .i64 0, .int .i64 0, .string ⟨#[]⟩]), 4, 48) := by kernel_rfl

set_option maxRecDepth 100000 in
set_option maxHeartbeats 1000000 in
theorem cloneB_some (bs : List (ByteArray × Vl)) (a : Addr) (ce : Nat) (w : World) (henv : EnvAt w w.heap.size bs (some a)) (hl : bs.length * 48 ≤ 140737488355328) :
    Calls Tryz.prog 10 #[.slice (some a) bs.length ce] w fun e w' => ∃ v, e = .returned v ∧ w'.ownsRow w.heap.size 40 4 v bs.length (bCs bs) ∧ Below w.heap.size w w' := by
  obtain ⟨i0, hi, hz0, hz1, hz2⟩ := info_parts infoBd
  have hn := env_news henv
  have hN := hide hn
  have hlen := bCs_len bs
  have h1 := bCs_one bs
  have hm : bs.length ≤ maxLen := by unfold maxLen; omega
  clear henv hn
  generalize bCs bs = news at *
  generalize bs.length = n at *
  have qB : ∀ (w : World) (a : Option Addr) (n c n' c' : Nat), (binOp .eql 27 (.slice a n c) (.slice none n' c')).run Tryz.prog w = .ok (.bool a.isNone) w := fun w a n c n' c' => Lib.run_eql_slice_nil w _ _ a n c n' c' Tryz.underlying27
  go_enter Tryz.func10, Tryz.ntmps10
  go_wp2_with (at_builtin; refine wpList_append_own _ rfl _ _ 27 rfl w.heap.size 40 i0 (.agg #[.string ⟨#[]⟩, .int .i64 0, .int .i64 0, .string ⟨#[]⟩]) 4 48 Tryz.underlying27 hi hz0 hz1 hz2 rfl (by decide) _ _ _ rfl (World.ownsRow_made w #[] 0 (Nat.le_refl _) (Nat.zero_le _) (by simp)) a n ce news rfl ?qc1 ?qc2 ?qc3 ?qc4 ?qc5 ?qc6 ?_)
  case qc1 => exact hlen
  case qc2 =>
    intro j u hj
    obtain ⟨q1, q2⟩ := hN.out j u hj
    exact Lib.cell?_alloc_some _ q1
  case qc3 => exact h1
  case qc4 => rw [Nat.zero_add]; exact hm
  case qc5 => rw [Nat.zero_add]; exact hl
  case qc6 => simp
  intro v' w1 hown hgrow hnil
  go_wp2_with fail
  go_ret
  refine ⟨v', rfl, by simpa using hown, ?_⟩
  exact ((Below.refl _ w).alloc (Nat.le_refl _) _).grown hgrow (by simp) (by intro k hk; simp [Value.ownBlock] at hk; omega)
set_option maxRecDepth 100000 in
set_option maxHeartbeats 1000000 in
theorem cloneB_none (ce : Nat) (w : World) :
    Calls Tryz.prog 10 #[.slice none 0 ce] w fun e w' => e = .returned (.slice none 0 0) ∧ w' = w := by
  have qB : ∀ (w : World) (a : Option Addr) (n c n' c' : Nat), (binOp .eql 27 (.slice a n c) (.slice none n' c')).run Tryz.prog w = .ok (.bool a.isNone) w := fun w a n c n' c' => Lib.run_eql_slice_nil w _ _ a n c n' c' Tryz.underlying27
  go_enter Tryz.func10, Tryz.ntmps10
  go_wp2_with fail
  go_ret
  exact ⟨rfl, rfl⟩
theorem cloneB_any (bs : List (ByteArray × Vl)) (ae : Option Addr) (ce : Nat) (w : World) (henv : EnvAt w w.heap.size bs ae) (hl : bs.length * 48 ≤ 140737488355328) :
    Calls Tryz.prog 10 #[.slice ae bs.length ce] w fun e w' => ∃ v, e = .returned v ∧ w'.ownsRow w.heap.size 40 4 v bs.length (bCs bs) ∧ Below w.heap.size w w' := by
  cases ae with
  | some a => exact cloneB_some bs a ce w henv hl
  | none =>
    have : bs = [] := by
      rcases henv.c with h | ⟨b, o, h, _⟩
      · exact h
      · cases h
    subst this
    exact (cloneB_none ce w).mono fun e w' ⟨h1, h2⟩ => ⟨_, h1, World.ownsRow_nil _ _ _ _, h2 ▸ Below.refl _ _⟩

set_option maxHeartbeats 1000000 in
theorem same1_any (g o c g' o' c' : Nat) (s : ByteArray) (w : World) (h1 : w.cell? ⟨g, o, none⟩ = some (.string s)) (h2 : w.cell? ⟨g', o', none⟩ = some (.string s)) :
    Calls Tryz.prog 6 #[.slice (some ⟨g, o, none⟩) 1 c, .slice (some ⟨g', o', none⟩) 1 c'] w fun e w' => e = .returned (.bool true) ∧ Below w.heap.size w w' := by
  have hbe : (s.toList == s.toList) = true := by simp
  go_enter Tryz.func6, Tryz.ntmps6
  go_wp2_with fail
  go_loopw [13] (fun i wr => ∃ k : Nat, k ≤ 1 ∧ i = .int .i64 (k : Int) ∧ Below w.heap.size w wr) (fun i _ => 1 - (intOf i).toNat)
  case atStart => exact ⟨0, Nat.zero_le _, rfl, Below.refl _ _⟩
  case round =>
    obtain ⟨k, hk, rfl, hbr⟩ := hrel
    have hg : g < w.heap.size := cell_lt h1
    have hg' : g' < w.heap.size := cell_lt h2
    by_cases hk0 : k = 0
    · subst hk0
      have d1 := (hbr.cell (p := ⟨g, o, none⟩) hg).trans h1
      have d2 := (hbr.cell (p := ⟨g', o', none⟩) hg').trans h2
      go_wp2_with fail
      go_region
      all_goals
        go_wp2_with fail
        go_roundw
        case rel => exact ⟨1, Nat.le_refl _, rfl, by go_grown⟩
        case measure => simp [intOf]
    · have hk1 : k = 1 := by omega
      subst hk1
      go_wp2_with fail
      go_ret
      exact ⟨rfl, hbr⟩
end Go.Proofs.YtclbillfffpknaaGreatDoor
