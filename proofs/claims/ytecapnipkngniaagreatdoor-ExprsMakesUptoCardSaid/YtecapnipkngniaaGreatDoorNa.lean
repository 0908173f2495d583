/-
  The contracts of the small functions on the road of values.Order: argUnless, checkText, Check, checkAll (of two values), cmp.Compare, cmp.Or, each for every input; utf8.ValidString's is a hypothesis here.
-/
import Derived.Test.YtecapnipkngniaaGreatDoorRows
import Derived.Test.YtecapnipkngniaaGreatDoorOm
import Derived.WalkKit
import Derived.WalkSpells
import Derived.WalkLawsBesides
import Derived.Deep.QuietTactic
import Derived.BigQuiet
import Derived.Handy
namespace Go.Proofs.YtecapnipkngniaaGreatDoor
open Go.RowKit
set_option maxHeartbeats 400000 in
theorem argUnless_any (b : Bool) (w : World) :
    Calls Tryz.prog 40 #[.bool b] w fun e w' => e = .returned (.int .i64 (if b then 0 else 1)) ∧ w' = w := by
  cases b
  all_goals
    go_enter Tryz.func40, Tryz.ntmps40
    go_wp2
    go_ret
    exact ⟨rfl, rfl⟩
def argZ (b : Bool) : Int := if b then 0 else 1
theorem argUnless_z (b : Bool) (w : World) :
    Calls Tryz.prog 40 #[.bool b] w fun e w' => e = .returned (.int .i64 (argZ b)) ∧ w' = w := argUnless_any b w

def textZ (V : ByteArray → Bool) (n : Int) (s : ByteArray) : Int := if n ≠ 0 then 1 else if 100 < s.size then 2 else argZ (V s)

variable (V : ByteArray → Bool) (Tabs : World → Prop)
def VSaid : Prop := ∀ (s : ByteArray) (w : World), s.size ≤ 9223372036854775807 → Tabs w → Calls Tryz.prog 68 #[.string s] w fun e w' => e = .returned (.bool (V s)) ∧ Below w.heap.size w w'

set_option maxHeartbeats 400000 in
theorem checkText_any (hV : VSaid V Tabs) (hK : ∀ w w', Tabs w → Below w.heap.size w w' → Tabs w') (so n : Int) (s : ByteArray) (w : World) (hs : s.size ≤ 9223372036854775807) (hT : Tabs w) :
    Calls Tryz.prog 41 #[.agg #[.int .i64 so, .int .i64 n, .string s]] w fun e w' => e = .returned (.int .i64 (textZ V n s)) ∧ Below w.heap.size w w' := by
  by_cases hn : n = 0
  · subst hn
    by_cases hl : 100 < s.size
    · have e1 : textZ V 0 s = 2 := by simp [textZ, hl]
      have hlz : (100 : Int) < (s.size : Int) := by omega
      rw [e1]; clear e1
      go_enter Tryz.func41, Tryz.ntmps41
      go_wp2
      go_ret
      exact ⟨rfl, (Below.refl _ _).alloc (Nat.le_refl _) _⟩
    · have e1 : textZ V 0 s = argZ (V s) := by simp [textZ, hl]
      have hlz : ¬ (100 : Int) < (s.size : Int) := by omega
      rw [e1]; clear e1
      generalize hv : V s = v
      have cV := hV s (w.alloc (.cells #[.int .i64 so, .int .i64 0, .string s] 23)) hs (hK _ _ hT ((Below.refl _ _).alloc (Nat.le_refl _) _))
      rw [hv] at cV
      clear hv hV hK
      go_enter Tryz.func41, Tryz.ntmps41
      go_wp2_with (first
        | (go_at_call 68; refine cV.mono ?_; rintro e w' ⟨rfl, hb⟩)
        | (go_at_call 40; refine (argUnless_z _ _).mono ?_; rintro e w' ⟨rfl, rfl⟩))
      go_ret
      refine ⟨rfl, ?_⟩
      exact ((Below.refl w.heap.size w).alloc (Nat.le_refl _) _).trans (hb.mono (by simp))
  · have e1 : textZ V n s = 1 := by simp [textZ, hn]
    have hnb : (n == 0) = false := by simpa using hn
    rw [e1]; clear e1
    go_enter Tryz.func41, Tryz.ntmps41
    go_wp2
    go_ret
    exact ⟨rfl, (Below.refl _ _).alloc (Nat.le_refl _) _⟩

/-- values.Check, over what a Value holds. -/
def chkZ (V : ByteArray → Bool) (so n : Int) (s : ByteArray) : Int :=
  if so = 1 then argZ s.toList.isEmpty
  else if so = 2 then argZ (s.toList.isEmpty && (n == 0 || n == 1))
  else if so = 3 then textZ V n s
  else 1

set_option maxHeartbeats 400000 in
theorem check_any (hV : VSaid V Tabs) (hK : ∀ w w', Tabs w → Below w.heap.size w w' → Tabs w') (so n : Int) (s : ByteArray) (w : World) (hs : s.size ≤ 9223372036854775807) (hT : Tabs w) :
    Calls Tryz.prog 20 #[.agg #[.int .i64 so, .int .i64 n, .string s]] w fun e w' => e = .returned (.int .i64 (chkZ V so n s)) ∧ Below w.heap.size w w' := by
  by_cases h1 : so = 1
  · subst h1
    have e1 : chkZ V 1 n s = argZ s.toList.isEmpty := rfl
    rw [e1]; clear e1
    go_enter Tryz.func20, Tryz.ntmps20
    go_wp2_with (go_at_call 40; go_must (refine (argUnless_z _ _).mono ?_; rintro e w' ⟨rfl, rfl⟩))
    go_ret
    exact ⟨rfl, (Below.refl _ _).alloc (Nat.le_refl _) _⟩
  · by_cases h2 : so = 2
    · subst h2
      have e1 : chkZ V 2 n s = argZ (s.toList.isEmpty && (n == 0 || n == 1)) := rfl
      rw [e1]; clear e1
      clear hV hK
      go_enter Tryz.func20, Tryz.ntmps20
      go_wp2_with (go_at_call 40; go_must (refine (argUnless_z _ _).mono ?_; rintro e w' ⟨rfl, rfl⟩))
      all_goals
        go_ret
        refine ⟨?_, (Below.refl _ _).alloc (Nat.le_refl _) _⟩
        first | (simp [*]; done) | (simp only [List.isEmpty_eq_false_iff.2 ‹¬ s.toList = []›, Bool.false_and]; rfl)
    · by_cases h3 : so = 3
      · subst h3
        have e1 : chkZ V 3 n s = textZ V n s := rfl
        rw [e1]; clear e1
        have cT := checkText_any V Tabs hV hK 3 n s (w.alloc (.cells #[.int .i64 3, .int .i64 n, .string s] 23)) hs (hK _ _ hT ((Below.refl _ _).alloc (Nat.le_refl _) _))
        generalize textZ V n s = z at cT ⊢
        clear hV hK
        go_enter Tryz.func20, Tryz.ntmps20
        go_wp2_with (go_at_call 41; go_must (refine cT.mono ?_; rintro e w' ⟨rfl, hb⟩))
        go_ret
        exact ⟨rfl, ((Below.refl w.heap.size w).alloc (Nat.le_refl _) _).trans (hb.mono (by simp))⟩
      · have e1 : chkZ V so n s = 1 := by simp [chkZ, h1, h2, h3]
        rw [e1]; clear e1
        have b1 : (so == 1) = false := by simpa using h1
        have b2 : (so == 2) = false := by simpa using h2
        have b3 : (so == 3) = false := by simpa using h3
        clear hV hK
        go_enter Tryz.func20, Tryz.ntmps20
        go_wp2
        go_ret
        exact ⟨rfl, (Below.refl _ _).alloc (Nat.le_refl _) _⟩


set_option maxHeartbeats 400000 in
theorem or_any (x y z : Int) (b : Nat) (w : World) (h0 : w.cell? ⟨b, 0, none⟩ = some (.int .i64 x)) (h1 : w.cell? ⟨b, 1, none⟩ = some (.int .i64 y)) (h2 : w.cell? ⟨b, 2, none⟩ = some (.int .i64 z)) :
    Calls Tryz.prog 128 #[.slice (some ⟨b, 0, none⟩) 3 3] w fun e w' => e = .returned (.int .i64 (firstNZ [x, y, z])) ∧ w' = w := by
  go_enter Tryz.func128, Tryz.ntmps128
  go_wp2
  go_rounds 4
  all_goals
    go_ret
    exact ⟨by simp_all [firstNZ], rfl⟩

theorem bcell {W w1 : World} (hb : Below W.heap.size W w1) : (∀ b o, b < W.heap.size → w1.cell? ⟨b, o, none⟩ = W.cell? ⟨b, o, none⟩) ∧ (∀ b o, b < W.heap.size → w1.frozen? ⟨b, o, none⟩ = W.frozen? ⟨b, o, none⟩) :=
  ⟨fun b o h => hb.cell (p := ⟨b, o, none⟩) h, fun b o h => hb.frozen (p := ⟨b, o, none⟩) h⟩

set_option maxHeartbeats 400000 in
theorem checkAll2_any (hV : VSaid V Tabs) (hK : ∀ w w', Tabs w → Below w.heap.size w w' → Tabs w') (so n so' n' : Int) (s s' : ByteArray) (b : Nat) (w : World) (hs : s.size ≤ 9223372036854775807) (hs' : s'.size ≤ 9223372036854775807) (hT : Tabs w) (hb : b < w.heap.size)
    (h0 : w.cell? ⟨b, 0, none⟩ = some (.int .i64 so)) (h1 : w.cell? ⟨b, 1, none⟩ = some (.int .i64 n)) (h2 : w.cell? ⟨b, 2, none⟩ = some (.string s))
    (h3 : w.cell? ⟨b, 3, none⟩ = some (.int .i64 so')) (h4 : w.cell? ⟨b, 4, none⟩ = some (.int .i64 n')) (h5 : w.cell? ⟨b, 5, none⟩ = some (.string s')) :
    Calls Tryz.prog 127 #[.slice (some ⟨b, 0, none⟩) 2 2] w fun e w' => e = .returned (.int .i64 (firstNZ [chkZ V so n s, chkZ V so' n' s'])) ∧ Below w.heap.size w w' := by
  have c1 := check_any V Tabs hV hK so n s (w.alloc (.cells #[.int .i64 so, .int .i64 n, .string s] 23)) hs (hK _ _ hT ((Below.refl _ _).alloc (Nat.le_refl _) _))
  have c2 := fun W hW => check_any V Tabs hV hK so' n' s' W hs' hW
  generalize chkZ V so n s = z1 at c1 ⊢
  generalize chkZ V so' n' s' = z2 at c2 ⊢
  have C2 : Hid (∀ (W : World), Tabs W → Calls Tryz.prog 20 #[.agg #[.int .i64 so', .int .i64 n', .string s']] W fun e w' => e = .returned (.int .i64 z2) ∧ Below W.heap.size W w') := c2
  clear c2
  go_enter Tryz.func127, Tryz.ntmps127
  go_wp2
  refine wp_loop_rounds 3 ?_
  rw [rounds_succ]
  go_wp2_with fail
  refine c1.mono ?_
  rintro e w1 ⟨rfl, hb1⟩
  have hT1 := hK _ _ (hK _ _ hT ((Below.refl _ _).alloc (Nat.le_refl _) _)) hb1
  have hbw : Below w.heap.size w w1 := ((Below.refl w.heap.size w).alloc (Nat.le_refl _) _).trans (hb1.mono (by simp))
  obtain ⟨hc, hf⟩ := bcell hbw
  have g3 := (hc b 3 hb).trans h3
  have g4 := (hc b 4 hb).trans h4
  have g5 := (hc b 5 hb).trans h5
  have c2 := C2.out (w1.alloc (.cells #[.int .i64 so', .int .i64 n', .string s'] 23)) (hK _ _ hT1 ((Below.refl _ _).alloc (Nat.le_refl _) _))
  clear hV hK hc hf C2 c1 hT1 hT
  by_cases hz : z1 = 0
  · subst hz
    go_wp2_with fail
    rw [rounds_succ]
    go_wp2_with fail
    refine c2.mono ?_
    rintro e w2 ⟨rfl, hb2⟩
    have hbw2 : Below w.heap.size w w2 := hbw.trans (((Below.refl w1.heap.size w1).alloc (Nat.le_refl _) _).trans (hb2.mono (by simp)) |>.mono hbw.size)
    clear c2
    by_cases hz2 : z2 = 0
    · subst hz2
      go_wp2_with fail
      rw [rounds_succ]
      go_wp2
      go_ret
      exact ⟨rfl, hbw2⟩
    · have hzb : (z2 != 0) = true := by simpa using hz2
      go_wp2
      go_ret
      exact ⟨by simp [firstNZ, hz2], hbw2⟩
  · have hzb : (z1 != 0) = true := by simpa using hz
    clear c2
    go_wp2
    go_ret
    exact ⟨by simp [firstNZ, hz], hbw⟩

set_option maxHeartbeats 400000 in
theorem isNaN_any (a : Int) (w : World) :
    Calls Tryz.prog 141 #[.int .i64 a] w fun e w' => e = .returned (.bool false) ∧ w' = w := by
  go_enter Tryz.func141, Tryz.ntmps141
  go_wp2
  go_ret
  exact ⟨by simp, rfl⟩

set_option maxHeartbeats 400000 in
theorem isNaN64_any (a : Int) (w : World) :
    Calls Tryz.prog 142 #[.int .i64 a] w fun e w' => e = .returned (.bool false) ∧ w' = w := by
  go_enter Tryz.func142, Tryz.ntmps142
  go_wp2
  go_ret
  exact ⟨by simp, rfl⟩

set_option maxHeartbeats 400000 in
theorem cmp_any (a b : Int) (w : World) :
    Calls Tryz.prog 129 #[.int .i64 a, .int .i64 b] w fun e w' => e = .returned (.int .i64 (cmpZ a b)) ∧ w' = w := by
  by_cases h1 : a < b
  · have e1 : cmpZ a b = -1 := by simp [cmpZ, h1]
    rw [e1]; clear e1
    go_enter Tryz.func129, Tryz.ntmps129
    go_wp2_with (go_at_call 141; refine (isNaN_any _ _).mono ?_; rintro e w' ⟨rfl, rfl⟩)
    go_ret
    exact ⟨rfl, rfl⟩
  · by_cases h2 : b < a
    · have e1 : cmpZ a b = 1 := by simp [cmpZ, h1, h2]
      rw [e1]; clear e1
      go_enter Tryz.func129, Tryz.ntmps129
      go_wp2_with (go_at_call 141; refine (isNaN_any _ _).mono ?_; rintro e w' ⟨rfl, rfl⟩)
      go_ret
      exact ⟨rfl, rfl⟩
    · have e1 : cmpZ a b = 0 := by simp [cmpZ, h1, h2]
      rw [e1]; clear e1
      go_enter Tryz.func129, Tryz.ntmps129
      go_wp2_with (go_at_call 141; refine (isNaN_any _ _).mono ?_; rintro e w' ⟨rfl, rfl⟩)
      go_ret
      exact ⟨rfl, rfl⟩

set_option maxHeartbeats 400000 in
theorem cmp64_any (a b : Int) (w : World) :
    Calls Tryz.prog 130 #[.int .i64 a, .int .i64 b] w fun e w' => e = .returned (.int .i64 (cmpZ a b)) ∧ w' = w := by
  by_cases h1 : a < b
  · have e1 : cmpZ a b = -1 := by simp [cmpZ, h1]
    rw [e1]; clear e1
    go_enter Tryz.func130, Tryz.ntmps130
    go_wp2_with (go_at_call 142; refine (isNaN64_any _ _).mono ?_; rintro e w' ⟨rfl, rfl⟩)
    go_ret
    exact ⟨rfl, rfl⟩
  · by_cases h2 : b < a
    · have e1 : cmpZ a b = 1 := by simp [cmpZ, h1, h2]
      rw [e1]; clear e1
      go_enter Tryz.func130, Tryz.ntmps130
      go_wp2_with (go_at_call 142; refine (isNaN64_any _ _).mono ?_; rintro e w' ⟨rfl, rfl⟩)
      go_ret
      exact ⟨rfl, rfl⟩
    · have e1 : cmpZ a b = 0 := by simp [cmpZ, h1, h2]
      rw [e1]; clear e1
      go_enter Tryz.func130, Tryz.ntmps130
      go_wp2_with (go_at_call 142; refine (isNaN64_any _ _).mono ?_; rintro e w' ⟨rfl, rfl⟩)
      go_ret
      exact ⟨rfl, rfl⟩
end Go.Proofs.YtecapnipkngniaaGreatDoor
/-
  The contracts of values.checkAll (of one value) and values.needTexts (of one, of two), for every value; utf8.ValidString's contract is a hypothesis here.
-/
namespace Go.Proofs.YtecapnipkngniaaGreatDoor
open Go.RowKit
variable (V : ByteArray → Bool) (Tabs : World → Prop)

/-- what values.needTexts says of one value -/
def needZ1 (V : ByteArray → Bool) (so n : Int) (s : ByteArray) : Int := if chkZ V so n s = 0 then (if so = 3 then 0 else 5) else chkZ V so n s
/-- .. of two -/
def needZ2 (V : ByteArray → Bool) (so n : Int) (s : ByteArray) (so' n' : Int) (s' : ByteArray) : Int :=
  if firstNZ [chkZ V so n s, chkZ V so' n' s'] = 0 then (if so = 3 then (if so' = 3 then 0 else 5) else 5) else firstNZ [chkZ V so n s, chkZ V so' n' s']

set_option maxHeartbeats 400000 in
theorem checkAll1_any (hV : VSaid V Tabs) (hK : ∀ w w', Tabs w → Below w.heap.size w w' → Tabs w') (so n : Int) (s : ByteArray) (b : Nat) (w : World) (hs : s.size ≤ 9223372036854775807) (hT : Tabs w)
    (h0 : w.cell? ⟨b, 0, none⟩ = some (.int .i64 so)) (h1 : w.cell? ⟨b, 1, none⟩ = some (.int .i64 n)) (h2 : w.cell? ⟨b, 2, none⟩ = some (.string s)) :
    Calls Tryz.prog 127 #[.slice (some ⟨b, 0, none⟩) 1 1] w fun e w' => e = .returned (.int .i64 (chkZ V so n s)) ∧ Below w.heap.size w w' := by
  have c1 := check_any V Tabs hV hK so n s (w.alloc (.cells #[.int .i64 so, .int .i64 n, .string s] 23)) hs (hK _ _ hT ((Below.refl _ _).alloc (Nat.le_refl _) _))
  generalize chkZ V so n s = z1 at c1 ⊢
  clear hV hK hT
  go_enter Tryz.func127, Tryz.ntmps127
  go_wp2
  refine wp_loop_rounds 2 ?_
  rw [rounds_succ]
  go_wp2_with fail
  refine c1.mono ?_
  rintro e w1 ⟨rfl, hb1⟩
  have hbw : Below w.heap.size w w1 := ((Below.refl w.heap.size w).alloc (Nat.le_refl _) _).trans (hb1.mono (by simp))
  clear c1
  by_cases hz : z1 = 0
  · subst hz
    go_wp2_with fail
    rw [rounds_succ]
    go_wp2
    go_ret
    exact ⟨rfl, hbw⟩
  · have hzb : (z1 != 0) = true := by simpa using hz
    go_wp2
    go_ret
    exact ⟨rfl, hbw⟩

set_option maxHeartbeats 400000 in
theorem need1_any (hV : VSaid V Tabs) (hK : ∀ w w', Tabs w → Below w.heap.size w w' → Tabs w') (so n : Int) (s : ByteArray) (b : Nat) (w : World) (hs : s.size ≤ 9223372036854775807) (hT : Tabs w) (hb : b < w.heap.size)
    (h0 : w.cell? ⟨b, 0, none⟩ = some (.int .i64 so)) (h1 : w.cell? ⟨b, 1, none⟩ = some (.int .i64 n)) (h2 : w.cell? ⟨b, 2, none⟩ = some (.string s)) :
    Calls Tryz.prog 105 #[.slice (some ⟨b, 0, none⟩) 1 1] w fun e w' => e = .returned (.int .i64 (needZ1 V so n s)) ∧ Below w.heap.size w w' := by
  have c1 := checkAll1_any V Tabs hV hK so n s b w hs hT h0 h1 h2
  unfold needZ1
  generalize chkZ V so n s = z1 at c1 ⊢
  clear hV hK hT
  go_enter Tryz.func105, Tryz.ntmps105
  go_wp2_with fail
  refine c1.mono ?_
  rintro e w1 ⟨rfl, hbw⟩
  have g0 := hbw.cell (p := ⟨b, 0, none⟩) hb |>.trans h0
  have g1 := hbw.cell (p := ⟨b, 1, none⟩) hb |>.trans h1
  have g2 := hbw.cell (p := ⟨b, 2, none⟩) hb |>.trans h2
  have hsz := hbw.size
  clear c1
  by_cases hz : z1 = 0
  · subst hz
    by_cases h3 : so = 3
    · subst h3
      go_wp2_with fail
      refine wp_loop_rounds 2 ?_
      rw [rounds_succ]
      go_wp2_with fail
      rw [rounds_succ]
      go_wp2
      go_ret
      exact ⟨rfl, by go_grown⟩
    · have h3b : (so != 3) = true := by simpa using h3
      go_wp2_with fail
      refine wp_loop_rounds 2 ?_
      rw [rounds_succ]
      go_wp2
      go_ret
      exact ⟨rfl, by go_grown⟩
  · have hzb : (z1 != 0) = true := by simpa using hz
    go_wp2
    go_ret
    exact ⟨rfl, hbw⟩

set_option maxHeartbeats 400000 in
theorem need2_any (hV : VSaid V Tabs) (hK : ∀ w w', Tabs w → Below w.heap.size w w' → Tabs w') (so n so' n' : Int) (s s' : ByteArray) (b : Nat) (w : World) (hs : s.size ≤ 9223372036854775807) (hs' : s'.size ≤ 9223372036854775807) (hT : Tabs w) (hb : b < w.heap.size)
    (h0 : w.cell? ⟨b, 0, none⟩ = some (.int .i64 so)) (h1 : w.cell? ⟨b, 1, none⟩ = some (.int .i64 n)) (h2 : w.cell? ⟨b, 2, none⟩ = some (.string s))
    (h3 : w.cell? ⟨b, 3, none⟩ = some (.int .i64 so')) (h4 : w.cell? ⟨b, 4, none⟩ = some (.int .i64 n')) (h5 : w.cell? ⟨b, 5, none⟩ = some (.string s')) :
    Calls Tryz.prog 105 #[.slice (some ⟨b, 0, none⟩) 2 2] w fun e w' => e = .returned (.int .i64 (needZ2 V so n s so' n' s')) ∧ Below w.heap.size w w' := by
  have c1 := checkAll2_any V Tabs hV hK so n so' n' s s' b w hs hs' hT hb h0 h1 h2 h3 h4 h5
  unfold needZ2
  generalize firstNZ [chkZ V so n s, chkZ V so' n' s'] = z1 at c1 ⊢
  clear hV hK hT
  go_enter Tryz.func105, Tryz.ntmps105
  go_wp2_with fail
  refine c1.mono ?_
  rintro e w1 ⟨rfl, hbw⟩
  have hsz := hbw.size
  replace h0 := hbw.cell (p := ⟨b, 0, none⟩) hb |>.trans h0
  replace h1 := hbw.cell (p := ⟨b, 1, none⟩) hb |>.trans h1
  replace h2 := hbw.cell (p := ⟨b, 2, none⟩) hb |>.trans h2
  replace h3 := hbw.cell (p := ⟨b, 3, none⟩) hb |>.trans h3
  replace h4 := hbw.cell (p := ⟨b, 4, none⟩) hb |>.trans h4
  replace h5 := hbw.cell (p := ⟨b, 5, none⟩) hb |>.trans h5
  have hbb : b < w1.heap.size := by omega
  have hne : w1.heap.size ≠ b := by omega
  have k3 : (w1.alloc (Obj.cells #[Value.int IntKind.i64 3, Value.int IntKind.i64 n, Value.string s] 23)).cell? ⟨b, 3, none⟩ = some (.int .i64 so') := (((Below.refl w1.heap.size w1).alloc (Nat.le_refl _) _).cell (p := ⟨b, 3, none⟩) hbb).trans h3
  have k4 : (w1.alloc (Obj.cells #[Value.int IntKind.i64 3, Value.int IntKind.i64 n, Value.string s] 23)).cell? ⟨b, 4, none⟩ = some (.int .i64 n') := (((Below.refl w1.heap.size w1).alloc (Nat.le_refl _) _).cell (p := ⟨b, 4, none⟩) hbb).trans h4
  have k5 : (w1.alloc (Obj.cells #[Value.int IntKind.i64 3, Value.int IntKind.i64 n, Value.string s] 23)).cell? ⟨b, 5, none⟩ = some (.string s') := (((Below.refl w1.heap.size w1).alloc (Nat.le_refl _) _).cell (p := ⟨b, 5, none⟩) hbb).trans h5
  clear c1
  by_cases hz : z1 = 0
  · subst hz
    by_cases q3 : so = 3
    · subst q3
      by_cases q3' : so' = 3
      · subst q3'
        go_wp2_with fail
        refine wp_loop_rounds 3 ?_
        rw [rounds_succ]
        go_wp2_with fail
        rw [rounds_succ]
        go_wp2_with fail
        rw [rounds_succ]
        go_wp2
        go_ret
        exact ⟨rfl, by go_grown⟩
      · have h3b : (so' != 3) = true := by simpa using q3'
        go_wp2_with fail
        refine wp_loop_rounds 3 ?_
        rw [rounds_succ]
        go_wp2_with fail
        rw [rounds_succ]
        go_wp2
        go_ret
        exact ⟨rfl, by go_grown⟩
    · have h3b : (so != 3) = true := by simpa using q3
      go_wp2_with fail
      refine wp_loop_rounds 3 ?_
      rw [rounds_succ]
      go_wp2
      go_ret
      exact ⟨rfl, by go_grown⟩
  · have hzb : (z1 != 0) = true := by simpa using hz
    go_wp2
    go_ret
    exact ⟨rfl, hbw⟩
end Go.Proofs.YtecapnipkngniaaGreatDoor
