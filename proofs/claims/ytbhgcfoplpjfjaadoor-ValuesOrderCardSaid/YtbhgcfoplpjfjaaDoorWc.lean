/-
  duetkeep.ValuesOrder returns true, for every three values, over the contract of values.Order; utf8.ValidString's and strings.Compare's contracts are hypotheses here.
-/
import Derived.Test.YtbhgcfoplpjfjaaDoorWb
namespace Go.Proofs.YtbhgcfoplpjfjaaDoor
open Go.RowKit
variable (V : ByteArray → Bool) (Tabs : World → Prop)

theorem carry {W w1 : World} (hb : Below W.heap.size W w1) {b o : Nat} {v : Value} (hl : b < W.heap.size) (h : W.cell? ⟨b, o, none⟩ = some v) : w1.cell? ⟨b, o, none⟩ = some v := (hb.cell (p := ⟨b, o, none⟩) hl).trans h

theorem toList_inj {s t : ByteArray} (h : s.toList = t.toList) : s = t := by
  rw [ByteArray.toList_eq, ByteArray.toList_eq] at h
  exact ByteArray.ext (Array.toList_inj.1 h)

def OSaid (so n : Int) (s : ByteArray) (so' n' : Int) (s' : ByteArray) (x e : Int) : Prop :=
  ∀ (W : World), Tabs W → Calls Tryd.prog 14 #[.agg #[.int .i64 so, .int .i64 n, .string s], .agg #[.int .i64 so', .int .i64 n', .string s']] W fun r w' => r = .returned (.tuple #[.int .i64 x, .int .i64 e]) ∧ Below W.heap.size W w'

set_option maxHeartbeats 1000000 in
theorem law_walk (hK : ∀ w w', Tabs w → Below w.heap.size w w' → Tabs w') (so n so' n' so'' n'' : Int) (s s' s'' : ByteArray) (x y z v ex ey ez ev : Int) (w : World) (hT : Tabs w)
    (h0 : OSaid Tabs 1 1 ByteArray.empty 1 2 ByteArray.empty (-1) 0) (h1 : OSaid Tabs so n s so' n' s' x ex) (h2 : OSaid Tabs so' n' s' so n s y ey) (h3 : OSaid Tabs so' n' s' so'' n'' s'' z ez) (h4 : OSaid Tabs so n s so'' n'' s'' v ev)
    (HA : ex ≠ 0 → ey ≠ 0 ∧ x = 0 ∧ y = 0)
    (HB : ex = 0 → ey = 0 ∧ x = -y ∧ (x = 0 ↔ (so = so' ∧ n = n' ∧ s = s')) ∧ -1 ≤ y ∧ y ≤ 1 ∧ (ez = 0 → ev = 0 ∧ (0 < x ∨ 0 < z ∨ v = min x z))) :
    Calls Tryd.prog 5 #[.agg #[.int .i64 so, .int .i64 n, .string s], .agg #[.int .i64 so', .int .i64 n', .string s'], .agg #[.int .i64 so'', .int .i64 n'', .string s'']] w fun e w' => e = .returned (.bool true) ∧ Below w.heap.size w w' := by
  have hT3 : Tabs (((w.alloc (Obj.cells #[Value.int IntKind.i64 so, Value.int IntKind.i64 n, Value.string s] 23)).alloc
        (Obj.cells #[Value.int IntKind.i64 so', Value.int IntKind.i64 n', Value.string s'] 23)).alloc
        (Obj.cells #[Value.int IntKind.i64 so'', Value.int IntKind.i64 n'', Value.string s''] 23)) := hK _ _ hT ((((Below.refl _ _).alloc (Nat.le_refl _) _).alloc (by simp) _).alloc (by simp; omega) _)
  go_enter Tryd.func5, Tryd.ntmps5
  go_wp2_with fail
  refine (h0 _ hT3).mono ?_
  rintro e w1 ⟨rfl, hb1⟩
  have hT1 := hK _ _ hT3 hb1
  have hbw : Below w.heap.size w w1 := ((((Below.refl w.heap.size w).alloc (Nat.le_refl _) _).alloc (by simp) _).alloc (by simp; omega) _).trans (hb1.mono (by simp; omega))
  have hz1 : w.heap.size + 2 < w1.heap.size := by have := hb1.size; simp at this; omega
  obtain ⟨hc, hf⟩ := bcell hb1
  have a0 : w1.cell? ⟨w.heap.size, 0, none⟩ = some (.int .i64 so) := (hc _ 0 (by simp; omega)).trans (by go_cell)
  have a1 : w1.cell? ⟨w.heap.size, 1, none⟩ = some (.int .i64 n) := (hc _ 1 (by simp; omega)).trans (by go_cell)
  have a2 : w1.cell? ⟨w.heap.size, 2, none⟩ = some (.string s) := (hc _ 2 (by simp; omega)).trans (by go_cell)
  have b0 : w1.cell? ⟨w.heap.size + 1, 0, none⟩ = some (.int .i64 so') := (hc _ 0 (by simp)).trans (by go_cell)
  have b1 : w1.cell? ⟨w.heap.size + 1, 1, none⟩ = some (.int .i64 n') := (hc _ 1 (by simp)).trans (by go_cell)
  have b2 : w1.cell? ⟨w.heap.size + 1, 2, none⟩ = some (.string s') := (hc _ 2 (by simp)).trans (by go_cell)
  have c0 : w1.cell? ⟨w.heap.size + 1 + 1, 0, none⟩ = some (.int .i64 so'') := (hc _ 0 (by simp)).trans (by go_cell)
  have c1 : w1.cell? ⟨w.heap.size + 1 + 1, 1, none⟩ = some (.int .i64 n'') := (hc _ 1 (by simp)).trans (by go_cell)
  have c2 : w1.cell? ⟨w.heap.size + 1 + 1, 2, none⟩ = some (.string s'') := (hc _ 2 (by simp)).trans (by go_cell)
  clear hc hf hb1 hT3
  clear h0
  go_wp2_with fail
  refine (h1 _ hT1).mono ?_
  rintro e w2 ⟨rfl, hb2⟩
  have hT2 := hK _ _ hT1 hb2
  replace hbw : Below w.heap.size w w2 := hbw.trans (hb2.mono hbw.size)
  have hz2 : w.heap.size + 2 < w2.heap.size := by have := hb2.size; omega
  replace a0 := carry hb2 (by omega) a0
  replace a1 := carry hb2 (by omega) a1
  replace a2 := carry hb2 (by omega) a2
  replace b0 := carry hb2 (by omega) b0
  replace b1 := carry hb2 (by omega) b1
  replace b2 := carry hb2 (by omega) b2
  replace c0 := carry hb2 (by omega) c0
  replace c1 := carry hb2 (by omega) c1
  replace c2 := carry hb2 (by omega) c2
  clear hb2 hT1 hz1 h1
  go_wp2_with fail
  refine (h2 _ hT2).mono ?_
  rintro e w3 ⟨rfl, hb3⟩
  have hT3 := hK _ _ hT2 hb3
  replace hbw : Below w.heap.size w w3 := hbw.trans (hb3.mono hbw.size)
  have hz3 : w.heap.size + 2 < w3.heap.size := by have := hb3.size; omega
  replace a0 := carry hb3 (by omega) a0
  replace a1 := carry hb3 (by omega) a1
  replace a2 := carry hb3 (by omega) a2
  replace b0 := carry hb3 (by omega) b0
  replace b1 := carry hb3 (by omega) b1
  replace b2 := carry hb3 (by omega) b2
  replace c0 := carry hb3 (by omega) c0
  replace c1 := carry hb3 (by omega) c1
  replace c2 := carry hb3 (by omega) c2
  clear hb3 hT2 hz2 h2
  go_wp2_with fail
  refine (h3 _ hT3).mono ?_
  rintro e w4 ⟨rfl, hb4⟩
  have hT4 := hK _ _ hT3 hb4
  replace hbw : Below w.heap.size w w4 := hbw.trans (hb4.mono hbw.size)
  have hz4 : w.heap.size + 2 < w4.heap.size := by have := hb4.size; omega
  replace a0 := carry hb4 (by omega) a0
  replace a1 := carry hb4 (by omega) a1
  replace a2 := carry hb4 (by omega) a2
  replace b0 := carry hb4 (by omega) b0
  replace b1 := carry hb4 (by omega) b1
  replace b2 := carry hb4 (by omega) b2
  replace c0 := carry hb4 (by omega) c0
  replace c1 := carry hb4 (by omega) c1
  replace c2 := carry hb4 (by omega) c2
  clear hb4 hT3 hz3 h3
  go_wp2_with fail
  refine (h4 _ hT4).mono ?_
  rintro e w5 ⟨rfl, hb5⟩
  have hT5 := hK _ _ hT4 hb5
  replace hbw : Below w.heap.size w w5 := hbw.trans (hb5.mono hbw.size)
  have hz5 : w.heap.size + 2 < w5.heap.size := by have := hb5.size; omega
  replace a0 := carry hb5 (by omega) a0
  replace a1 := carry hb5 (by omega) a1
  replace a2 := carry hb5 (by omega) a2
  replace b0 := carry hb5 (by omega) b0
  replace b1 := carry hb5 (by omega) b1
  replace b2 := carry hb5 (by omega) b2
  replace c0 := carry hb5 (by omega) c0
  replace c1 := carry hb5 (by omega) c1
  replace c2 := carry hb5 (by omega) c2
  clear hb5 hT4 hz4 h4
  by_cases he : ex = 0
  · subst he
    obtain ⟨rfl, rfl, hxe, y0, y1, HC⟩ := HB rfl
    clear HA HB hK hT hT5
    have HX : Hid (-y = 0 ↔ (so = so' ∧ n = n' ∧ s = s')) := hxe
    clear hxe
    have HD : Hid (ez = 0 → ev = 0 ∧ (0 < -y ∨ 0 < z ∨ v = min (-y) z)) := HC
    clear HC
    have eqs : (y = 0 ∧ so = so' ∧ n = n' ∧ s = s') ∨ (y ≠ 0 ∧ so ≠ so') ∨ (y ≠ 0 ∧ so = so' ∧ n ≠ n') ∨ (y ≠ 0 ∧ so = so' ∧ n = n' ∧ s ≠ s') := by
      by_cases q : y = 0
      · exact .inl ⟨q, HX.out.1 (by omega)⟩
      · have q' : ¬ (so = so' ∧ n = n' ∧ s = s') := fun h => q (by have := HX.out.2 h; omega)
        by_cases q1 : so = so'
        · by_cases q2 : n = n'
          · exact .inr (.inr (.inr ⟨q, q1, q2, fun h => q' ⟨q1, q2, h⟩⟩))
          · exact .inr (.inr (.inl ⟨q, q1, q2⟩))
        · exact .inr (.inl ⟨q, q1⟩)
    have tail : (ez ≠ 0) ∨ (ez = 0 ∧ ev = 0 ∧ 0 < -y) ∨ (ez = 0 ∧ ev = 0 ∧ ¬ 0 < -y ∧ 0 < z) ∨ (ez = 0 ∧ ev = 0 ∧ ¬ 0 < -y ∧ ¬ 0 < z ∧ v = min (-y) z) := by
      by_cases q : ez = 0
      · have := HD.out q
        have hev := this.1
        have := this.2
        omega
      · exact .inl q
    clear HX HD
    rcases eqs with ⟨rfl, rfl, rfl, rfl⟩ | ⟨q, q1⟩ | ⟨q, rfl, q2⟩ | ⟨q, rfl, rfl, q3⟩
    · skip
      rcases tail with t | ⟨rfl, rfl, t⟩ | ⟨rfl, rfl, t, t2⟩ | ⟨rfl, rfl, t, t2, rfl⟩
      · have tb : (ez != 0) = true := by simpa using t
        go_wp2
        go_ret
        exact ⟨rfl, hbw⟩
      · exact absurd t (by omega)
      · go_wp2
        go_ret
        exact ⟨rfl, hbw⟩
      · go_wp2
        all_goals
          go_ret
          refine ⟨?_, hbw⟩
          first | rfl | (simp; done) | (simp; omega)
    · have q1b : (so == so') = false := by simpa using q1
      have qb : (-y == 0) = false := by simpa using q
      rcases tail with t | ⟨rfl, rfl, t⟩ | ⟨rfl, rfl, t, t2⟩ | ⟨rfl, rfl, t, t2, rfl⟩
      · have tb : (ez != 0) = true := by simpa using t
        go_wp2
        go_ret
        exact ⟨rfl, hbw⟩
      · go_wp2
        go_ret
        exact ⟨rfl, hbw⟩
      · go_wp2
        go_ret
        exact ⟨rfl, hbw⟩
      · go_wp2
        all_goals
          go_ret
          refine ⟨?_, hbw⟩
          first | rfl | (simp; done) | (simp; omega)
    · have q2b : (n == n') = false := by simpa using q2
      have qb : (-y == 0) = false := by simpa using q
      rcases tail with t | ⟨rfl, rfl, t⟩ | ⟨rfl, rfl, t, t2⟩ | ⟨rfl, rfl, t, t2, rfl⟩
      · have tb : (ez != 0) = true := by simpa using t
        go_wp2
        go_ret
        exact ⟨rfl, hbw⟩
      · go_wp2
        go_ret
        exact ⟨rfl, hbw⟩
      · go_wp2
        go_ret
        exact ⟨rfl, hbw⟩
      · go_wp2
        all_goals
          go_ret
          refine ⟨?_, hbw⟩
          first | rfl | (simp; done) | (simp; omega)
    · have q3b : ¬ s.toList = s'.toList := fun h => q3 (toList_inj h)
      have qb : (-y == 0) = false := by simpa using q
      rcases tail with t | ⟨rfl, rfl, t⟩ | ⟨rfl, rfl, t, t2⟩ | ⟨rfl, rfl, t, t2, rfl⟩
      · have tb : (ez != 0) = true := by simpa using t
        go_wp2
        go_ret
        exact ⟨rfl, hbw⟩
      · go_wp2
        go_ret
        exact ⟨rfl, hbw⟩
      · go_wp2
        go_ret
        exact ⟨rfl, hbw⟩
      · go_wp2
        all_goals
          go_ret
          refine ⟨?_, hbw⟩
          first | rfl | (simp; done) | (simp; omega)
  · obtain ⟨hy, rfl, rfl⟩ := HA he
    have d1 : (ex != 0) = true := by simpa using he
    have d2 : (ey != 0) = true := by simpa using hy
    clear HA HB hK hT hT5
    go_wp2
    go_ret
    exact ⟨rfl, hbw⟩
end Go.Proofs.YtbhgcfoplpjfjaaDoor
