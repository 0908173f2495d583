/-
  The contracts of values.checkAll (of one value) and values.needTexts (of one, of two), for every value; utf8.ValidString's contract is a hypothesis here.
-/
import Derived.Test.YtclbillfffpknaaGreatDoorWa
namespace Go.Proofs.YtclbillfffpknaaGreatDoor
open Go.RowKit
variable (V : ByteArray → Bool) (Tabs : World → Prop)

/-- what values.needTexts says of one value -/
def needZ1 (V : ByteArray → Bool) (so n : Int) (s : ByteArray) : Int := if chkZ V so n s = 0 then (if so = 3 then 0 else 5) else chkZ V so n s
/-- .. of two -/
def needZ2 (V : ByteArray → Bool) (so n : Int) (s : ByteArray) (so' n' : Int) (s' : ByteArray) : Int :=
  if firstNZ [chkZ V so n s, chkZ V so' n' s'] = 0 then (if so = 3 then (if so' = 3 then 0 else 5) else 5) else firstNZ [chkZ V so n s, chkZ V so' n' s']

set_option maxHeartbeats 400000 in
theorem checkAll1_any (hV : VSaid V Tabs) (hK : ∀ w w', Tabs w → Below w.heap.size w w' → Tabs w') (so n : Int) (s : ByteArray) (b : Nat) (w : World) (hs : s.size ≤ 9223372036854775807) (hT : Tabs w)
    (h0 : w.cell? ⟨b, 0, none⟩ = some (.int .i64 so)) (h1 : w.cell? ⟨b, 1, none⟩ = some (.int .i64 n)) (h2 : w.cell? ⟨b, 2, none⟩ = some (.string s)) :
    Calls Tryz.prog 83 #[.slice (some ⟨b, 0, none⟩) 1 1] w fun e w' => e = .returned (.int .i64 (chkZ V so n s)) ∧ Below w.heap.size w w' := by
  have c1 := check_any V Tabs hV hK so n s (w.alloc (.cells #[.int .i64 so, .int .i64 n, .string s] 23)) hs (hK _ _ hT ((Below.refl _ _).alloc (Nat.le_refl _) _))
  generalize chkZ V so n s = z1 at c1 ⊢
  clear hV hK hT
  go_enter Tryz.func83, Tryz.ntmps83
  go_wp2
  refine wp_loop_rounds 2 ?_
  rw [rounds_succ]
  go_wp2_with fail
  refine c1.mono ?_
  rintro e w1 ⟨rfl, hb1⟩
  have hbw : Below w.heap.size w w1 := ((Below.refl w.heap.size w).alloc (Nat.le_refl _) _).trans (hb1.mono (by simp))
  clear c1
  by_cases hz : z1 = 0
  · subst hz
    go_wp2_with fail
    rw [rounds_succ]
    go_wp2
    go_ret
    exact ⟨rfl, hbw⟩
  · have hzb : (z1 != 0) = true := by simpa using hz
    go_wp2
    go_ret
    exact ⟨rfl, hbw⟩

set_option maxHeartbeats 400000 in
theorem need1_any (hV : VSaid V Tabs) (hK : ∀ w w', Tabs w → Below w.heap.size w w' → Tabs w') (so n : Int) (s : ByteArray) (b : Nat) (w : World) (hs : s.size ≤ 9223372036854775807) (hT : Tabs w) (hb : b < w.heap.size)
    (h0 : w.cell? ⟨b, 0, none⟩ = some (.int .i64 so)) (h1 : w.cell? ⟨b, 1, none⟩ = some (.int .i64 n)) (h2 : w.cell? ⟨b, 2, none⟩ = some (.string s)) :
    Calls Tryz.prog 73 #[.slice (some ⟨b, 0, none⟩) 1 1] w fun e w' => e = .returned (.int .i64 (needZ1 V so n s)) ∧ Below w.heap.size w w' := by
  have c1 := checkAll1_any V Tabs hV hK so n s b w hs hT h0 h1 h2
  unfold needZ1
  generalize chkZ V so n s = z1 at c1 ⊢
  clear hV hK hT
  go_enter Tryz.func73, Tryz.ntmps73
  go_wp2_with fail
  refine c1.mono ?_
  rintro e w1 ⟨rfl, hbw⟩
  have g0 := hbw.cell (p := ⟨b, 0, none⟩) hb |>.trans h0
  have g1 := hbw.cell (p := ⟨b, 1, none⟩) hb |>.trans h1
  have g2 := hbw.cell (p := ⟨b, 2, none⟩) hb |>.trans h2
  have hsz := hbw.size
  clear c1
  by_cases hz : z1 = 0
  · subst hz
    by_cases h3 : so = 3
    · subst h3
      go_wp2_with fail
      refine wp_loop_rounds 2 ?_
      rw [rounds_succ]
      go_wp2_with fail
      rw [rounds_succ]
      go_wp2
      go_ret
      exact ⟨rfl, by go_grown⟩
    · have h3b : (so != 3) = true := by simpa using h3
      go_wp2_with fail
      refine wp_loop_rounds 2 ?_
      rw [rounds_succ]
      go_wp2
      go_ret
      exact ⟨rfl, by go_grown⟩
  · have hzb : (z1 != 0) = true := by simpa using hz
    go_wp2
    go_ret
    exact ⟨rfl, hbw⟩

set_option maxHeartbeats 400000 in
theorem need2_any (hV : VSaid V Tabs) (hK : ∀ w w', Tabs w → Below w.heap.size w w' → Tabs w') (so n so' n' : Int) (s s' : ByteArray) (b : Nat) (w : World) (hs : s.size ≤ 9223372036854775807) (hs' : s'.size ≤ 9223372036854775807) (hT : Tabs w) (hb : b < w.heap.size)
    (h0 : w.cell? ⟨b, 0, none⟩ = some (.int .i64 so)) (h1 : w.cell? ⟨b, 1, none⟩ = some (.int .i64 n)) (h2 : w.cell? ⟨b, 2, none⟩ = some (.string s))
    (h3 : w.cell? ⟨b, 3, none⟩ = some (.int .i64 so')) (h4 : w.cell? ⟨b, 4, none⟩ = some (.int .i64 n')) (h5 : w.cell? ⟨b, 5, none⟩ = some (.string s')) :
    Calls Tryz.prog 73 #[.slice (some ⟨b, 0, none⟩) 2 2] w fun e w' => e = .returned (.int .i64 (needZ2 V so n s so' n' s')) ∧ Below w.heap.size w w' := by
  have c1 := checkAll2_any V Tabs hV hK so n so' n' s s' b w hs hs' hT hb h0 h1 h2 h3 h4 h5
  unfold needZ2
  generalize firstNZ [chkZ V so n s, chkZ V so' n' s'] = z1 at c1 ⊢
  clear hV hK hT
  go_enter Tryz.func73, Tryz.ntmps73
  go_wp2_with fail
  refine c1.mono ?_
  rintro e w1 ⟨rfl, hbw⟩
  have hsz := hbw.size
  replace h0 := hbw.cell (p := ⟨b, 0, none⟩) hb |>.trans h0
  replace h1 := hbw.cell (p := ⟨b, 1, none⟩) hb |>.trans h1
  replace h2 := hbw.cell (p := ⟨b, 2, none⟩) hb |>.trans h2
  replace h3 := hbw.cell (p := ⟨b, 3, none⟩) hb |>.trans h3
  replace h4 := hbw.cell (p := ⟨b, 4, none⟩) hb |>.trans h4
  replace h5 := hbw.cell (p := ⟨b, 5, none⟩) hb |>.trans h5
  have hbb : b < w1.heap.size := by omega
  have hne : w1.heap.size ≠ b := by omega
  have k3 : (w1.alloc (Obj.cells #[Value.int IntKind.i64 3, Value.int IntKind.i64 n, Value.string s] 23)).cell? ⟨b, 3, none⟩ = some (.int .i64 so') := (((Below.refl w1.heap.size w1).alloc (Nat.le_refl _) _).cell (p := ⟨b, 3, none⟩) hbb).trans h3
  have k4 : (w1.alloc (Obj.cells #[Value.int IntKind.i64 3, Value.int IntKind.i64 n, Value.string s] 23)).cell? ⟨b, 4, none⟩ = some (.int .i64 n') := (((Below.refl w1.heap.size w1).alloc (Nat.le_refl _) _).cell (p := ⟨b, 4, none⟩) hbb).trans h4
  have k5 : (w1.alloc (Obj.cells #[Value.int IntKind.i64 3, Value.int IntKind.i64 n, Value.string s] 23)).cell? ⟨b, 5, none⟩ = some (.string s') := (((Below.refl w1.heap.size w1).alloc (Nat.le_refl _) _).cell (p := ⟨b, 5, none⟩) hbb).trans h5
  clear c1
  by_cases hz : z1 = 0
  · subst hz
    by_cases q3 : so = 3
    · subst q3
      by_cases q3' : so' = 3
      · subst q3'
        go_wp2_with fail
        refine wp_loop_rounds 3 ?_
        rw [rounds_succ]
        go_wp2_with fail
        rw [rounds_succ]
        go_wp2_with fail
        rw [rounds_succ]
        go_wp2
        go_ret
        exact ⟨rfl, by go_grown⟩
      · have h3b : (so' != 3) = true := by simpa using q3'
        go_wp2_with fail
        refine wp_loop_rounds 3 ?_
        rw [rounds_succ]
        go_wp2_with fail
        rw [rounds_succ]
        go_wp2
        go_ret
        exact ⟨rfl, by go_grown⟩
    · have h3b : (so != 3) = true := by simpa using q3
      go_wp2_with fail
      refine wp_loop_rounds 3 ?_
      rw [rounds_succ]
      go_wp2
      go_ret
      exact ⟨rfl, by go_grown⟩
  · have hzb : (z1 != 0) = true := by simpa using hz
    go_wp2
    go_ret
    exact ⟨rfl, hbw⟩
end Go.Proofs.YtclbillfffpknaaGreatDoor
