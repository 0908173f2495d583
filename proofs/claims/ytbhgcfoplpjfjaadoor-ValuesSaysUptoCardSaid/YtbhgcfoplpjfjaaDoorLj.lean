/-
  duetkeep.ValuesJoin returns true over the contracts of values.Turned, values.Length and values.Joined, way by way.
-/
import Derived.Test.YtbhgcfoplpjfjaaDoorJo
import Derived.Deep.QuietTactic
import Derived.BigQuiet
namespace Go.Proofs.YtbhgcfoplpjfjaaDoor
open Go.RowKit Go.Shelf
variable (Tabs : World → Prop)

def TS (so n : Int) (s : ByteArray) (xo xn : Int) (xs : ByteArray) (e : Int) : Prop :=
  ∀ (W : World), Tabs W → Calls Tryd.prog 15 #[.agg #[.int .i64 so, .int .i64 n, .string s]] W fun r w' => r = .returned (.tuple #[.agg #[.int .i64 xo, .int .i64 xn, .string xs], .int .i64 e]) ∧ Below W.heap.size W w'
def LS (so n : Int) (s : ByteArray) (k e : Int) : Prop :=
  ∀ (W : World), Tabs W → Calls Tryd.prog 16 #[.agg #[.int .i64 so, .int .i64 n, .string s]] W fun r w' => r = .returned (.tuple #[.int .i64 k, .int .i64 e]) ∧ Below W.heap.size W w'
def JS (so n : Int) (s : ByteArray) (so' n' : Int) (s' : ByteArray) (xo xn : Int) (xs : ByteArray) (e : Int) : Prop :=
  ∀ (W : World), Tabs W → Calls Tryd.prog 17 #[.agg #[.int .i64 so, .int .i64 n, .string s], .agg #[.int .i64 so', .int .i64 n', .string s']] W fun r w' => r = .returned (.tuple #[.agg #[.int .i64 xo, .int .i64 xn, .string xs], .int .i64 e]) ∧ Below W.heap.size W w'

/-- a value in a block of its own -/
structure Box (W : World) (b : Nat) (so n : Int) (s : ByteArray) : Prop where
  lt : b < W.heap.size
  c0 : W.cell? ⟨b, 0, none⟩ = some (.int .i64 so)
  c1 : W.cell? ⟨b, 1, none⟩ = some (.int .i64 n)
  c2 : W.cell? ⟨b, 2, none⟩ = some (.string s)
theorem Box.keep {W W' : World} {b : Nat} {so n : Int} {s : ByteArray} (h : Box W b so n s) (hb : Below W.heap.size W W') : Box W' b so n s :=
  ⟨Nat.lt_of_lt_of_le h.lt hb.size, (hb.cell (p := ⟨b, 0, none⟩) h.lt).trans h.c0, (hb.cell (p := ⟨b, 1, none⟩) h.lt).trans h.c1, (hb.cell (p := ⟨b, 2, none⟩) h.lt).trans h.c2⟩
theorem Box.al {W : World} {b : Nat} {so n : Int} {s : ByteArray} (h : Box W b so n s) (o : Obj) : Box (W.alloc o) b so n s := h.keep ((Below.refl _ _).alloc (Nat.le_refl _) o)
theorem Box.new (W : World) (so n : Int) (s : ByteArray) (t : TypeId) : Box (W.alloc (.cells #[.int .i64 so, .int .i64 n, .string s] t)) W.heap.size so n s :=
  ⟨by simp, by go_cell, by go_cell, by go_cell⟩
theorem Box.facts {W : World} {b : Nat} {so n : Int} {s : ByteArray} (h : Box W b so n s) : (W.cell? ⟨b, 0, none⟩ = some (.int .i64 so) ∧ W.cell? ⟨b, 1, none⟩ = some (.int .i64 n) ∧ W.cell? ⟨b, 2, none⟩ = some (.string s)) ∧ (∀ o, (W.alloc o).cell? ⟨b, 0, none⟩ = some (.int .i64 so)) ∧ (∀ o, (W.alloc o).cell? ⟨b, 1, none⟩ = some (.int .i64 n)) ∧ (∀ o, (W.alloc o).cell? ⟨b, 2, none⟩ = some (.string s)) :=
  ⟨⟨h.c0, h.c1, h.c2⟩, fun o => (h.al o).c0, fun o => (h.al o).c1, fun o => (h.al o).c2⟩

theorem below_dn {B : Nat} {a w : World} (h : Below B a w) : ∀ q, Below B a (w.drewN q)
  | 0 => h
  | q + 1 => (below_dn h q).drew

set_option maxRecDepth 100000 in
set_option maxHeartbeats 4000000 in
theorem join_bad_a (hK : ∀ w w', Tabs w → Below w.heap.size w w' → Tabs w') (so n so' n' : Int) (s s' : ByteArray) (e : Int) (w : World) (hT : Tabs w)
    (h0 : TS Tabs 3 0 ⟨#[97, 98]⟩ 3 0 ⟨#[98, 97]⟩ 0) (h1 : TS Tabs so n s 0 0 ⟨#[]⟩ e) (he : e ≠ 0) :
    Calls Tryd.prog 6 #[.agg #[.int .i64 so, .int .i64 n, .string s], .agg #[.int .i64 so', .int .i64 n', .string s']] w fun e w' => e = .returned (.bool true) ∧ Below w.heap.size w w' := by
  have hbw0 : Below w.heap.size w ((w.alloc (.cells #[.int .i64 so, .int .i64 n, .string s] 23)).alloc (.cells #[.int .i64 so', .int .i64 n', .string s'] 23)) := ((Below.refl _ _).alloc (Nat.le_refl _) _).alloc (by simp) _
  have hT0 := hK _ _ hT hbw0
  have hA := (Box.new w so n s 23).al (.cells #[.int .i64 so', .int .i64 n', .string s'] 23)
  have hB := Box.new (w.alloc (.cells #[.int .i64 so, .int .i64 n, .string s] 23)) so' n' s' 23
  rw [show (w.alloc (.cells #[.int .i64 so, .int .i64 n, .string s] 23)).heap.size = w.heap.size + 1 by simp] at hB
  have heb : (e != 0) = true := by simpa using he
  go_enter Tryd.func6, Tryd.ntmps6
  go_wp2_with fail
  refine (h0 _ hT0).mono ?_
  rintro r w1 ⟨rfl, hb1⟩
  have hT1 := hK _ _ hT0 hb1
  replace hA := hA.keep hb1
  replace hB := hB.keep hb1
  have hbw1 : Below w.heap.size w w1 := hbw0.trans (hb1.mono hbw0.size)
  clear hb1 hbw0 hT0 hT
  obtain ⟨⟨a0, a1, a2⟩, a3, a4, a5⟩ := hA.facts
  obtain ⟨⟨b0, b1, b2⟩, b3, b4, b5⟩ := hB.facts
  go_wp2_with fail
  refine (h1 _ (hK _ _ hT1 ((Below.refl _ _).alloc (Nat.le_refl _) _))).mono ?_
  rintro r w2 ⟨rfl, hb2⟩
  have hT2 := hK _ _ (hK _ _ hT1 ((Below.refl _ _).alloc (Nat.le_refl _) _)) hb2
  have hbw2 : Below w.heap.size w w2 := (hbw1.alloc hbw1.size _).trans (hb2.mono (by have := hbw1.size; simp; omega))
  replace hA := (hA.al _).keep hb2
  replace hB := (hB.al _).keep hb2
  clear hb2 hbw1 hT1 a0 a1 a2 a3 a4 a5 b0 b1 b2 b3 b4 b5
  go_wp2
  go_ret
  refine ⟨rfl, ?_⟩
  have hsz := hbw2.size
  go_grown
set_option maxRecDepth 100000 in
set_option maxHeartbeats 4000000 in
theorem join_bad_b (hK : ∀ w w', Tabs w → Below w.heap.size w w' → Tabs w') (so n so' n' : Int) (s s' t : ByteArray) (k e : Int) (w : World) (hT : Tabs w)
    (h0 : TS Tabs 3 0 ⟨#[97, 98]⟩ 3 0 ⟨#[98, 97]⟩ 0) (h1 : TS Tabs so n s 3 0 t 0) (h2 : TS Tabs 3 0 t so n s 0) (h3 : LS Tabs so n s k 0) (h4 : LS Tabs 3 0 t k 0) (h5 : JS Tabs so n s so' n' s' 0 0 ⟨#[]⟩ e) (he : e ≠ 0) :
    Calls Tryd.prog 6 #[.agg #[.int .i64 so, .int .i64 n, .string s], .agg #[.int .i64 so', .int .i64 n', .string s']] w fun e w' => e = .returned (.bool true) ∧ Below w.heap.size w w' := by
  have hbw0 : Below w.heap.size w ((w.alloc (.cells #[.int .i64 so, .int .i64 n, .string s] 23)).alloc (.cells #[.int .i64 so', .int .i64 n', .string s'] 23)) := ((Below.refl _ _).alloc (Nat.le_refl _) _).alloc (by simp) _
  have hT0 := hK _ _ hT hbw0
  have hA := (Box.new w so n s 23).al (.cells #[.int .i64 so', .int .i64 n', .string s'] 23)
  have hB := Box.new (w.alloc (.cells #[.int .i64 so, .int .i64 n, .string s] 23)) so' n' s' 23
  rw [show (w.alloc (.cells #[.int .i64 so, .int .i64 n, .string s] 23)).heap.size = w.heap.size + 1 by simp] at hB
  have heb : (e != 0) = true := by simpa using he
  go_enter Tryd.func6, Tryd.ntmps6
  go_wp2_with fail
  refine (h0 _ hT0).mono ?_
  rintro r w1 ⟨rfl, hb1⟩
  have hT1 := hK _ _ hT0 hb1
  replace hA := hA.keep hb1
  replace hB := hB.keep hb1
  have hbw1 : Below w.heap.size w w1 := hbw0.trans (hb1.mono hbw0.size)
  clear hb1 hbw0 hT0 hT
  obtain ⟨⟨a0, a1, a2⟩, a3, a4, a5⟩ := hA.facts
  obtain ⟨⟨b0, b1, b2⟩, b3, b4, b5⟩ := hB.facts
  go_wp2_with fail
  refine (h1 _ (hK _ _ hT1 ((Below.refl _ _).alloc (Nat.le_refl _) _))).mono ?_
  rintro r w2 ⟨rfl, hb2⟩
  have hT2 := hK _ _ (hK _ _ hT1 ((Below.refl _ _).alloc (Nat.le_refl _) _)) hb2
  have hbw2 : Below w.heap.size w w2 := (hbw1.alloc hbw1.size _).trans (hb2.mono (by have := hbw1.size; simp; omega))
  replace hA := (hA.al _).keep hb2
  replace hB := (hB.al _).keep hb2
  clear hb2 hbw1 hT1 a0 a1 a2 a3 a4 a5 b0 b1 b2 b3 b4 b5
  obtain ⟨⟨a0, a1, a2⟩, a3, a4, a5⟩ := hA.facts
  obtain ⟨⟨b0, b1, b2⟩, b3, b4, b5⟩ := hB.facts
  go_wp2_with fail
  refine (h2 _ (hK _ _ hT2 ((Below.refl _ _).alloc (Nat.le_refl _) _))).mono ?_
  rintro r w3 ⟨rfl, hb3⟩
  have hT3 := hK _ _ (hK _ _ hT2 ((Below.refl _ _).alloc (Nat.le_refl _) _)) hb3
  have hbw3 : Below w.heap.size w w3 := (hbw2.alloc hbw2.size _).trans (hb3.mono (by have := hbw2.size; simp; omega))
  replace hA := (hA.al _).keep hb3
  replace hB := (hB.al _).keep hb3
  have hX := (Box.new w2 3 0 t 23).keep hb3
  clear hb3 hbw2 hT2 a0 a1 a2 a3 a4 a5 b0 b1 b2 b3 b4 b5
  obtain ⟨⟨a0, a1, a2⟩, a3, a4, a5⟩ := hA.facts
  obtain ⟨⟨b0, b1, b2⟩, b3, b4, b5⟩ := hB.facts
  obtain ⟨⟨x0, x1, x2⟩, x3, x4, x5⟩ := hX.facts
  go_wp2_with fail
  refine (h3 _ (hK _ _ hT3 ((Below.refl _ _).alloc (Nat.le_refl _) _))).mono ?_
  rintro r w4 ⟨rfl, hb4⟩
  have hT4 := hK _ _ (hK _ _ hT3 ((Below.refl _ _).alloc (Nat.le_refl _) _)) hb4
  have hbw4 : Below w.heap.size w w4 := (hbw3.alloc hbw3.size _).trans (hb4.mono (by have := hbw3.size; simp; omega))
  replace hA := (hA.al _).keep hb4
  replace hB := (hB.al _).keep hb4
  replace hX := (hX.al _).keep hb4
  have hY := (Box.new w3 so n s 23).keep hb4
  clear hb4 hbw3 hT3 a0 a1 a2 a3 a4 a5 b0 b1 b2 b3 b4 b5 x0 x1 x2 x3 x4 x5
  obtain ⟨⟨a0, a1, a2⟩, a3, a4, a5⟩ := hA.facts
  obtain ⟨⟨b0, b1, b2⟩, b3, b4, b5⟩ := hB.facts
  obtain ⟨⟨x0, x1, x2⟩, x3, x4, x5⟩ := hX.facts
  obtain ⟨⟨y0, y1, y2⟩, y3, y4, y5⟩ := hY.facts
  go_wp2_with fail
  refine (h4 _ hT4).mono ?_
  rintro r w5 ⟨rfl, hb5⟩
  have hT5 := hK _ _ hT4 hb5
  have hbw5 : Below w.heap.size w w5 := hbw4.trans (hb5.mono hbw4.size)
  replace hA := hA.keep hb5
  replace hB := hB.keep hb5
  replace hX := hX.keep hb5
  replace hY := hY.keep hb5
  clear hb5 hbw4 hT4 a0 a1 a2 a3 a4 a5 b0 b1 b2 b3 b4 b5 x0 x1 x2 x3 x4 x5 y0 y1 y2 y3 y4 y5
  obtain ⟨⟨a0, a1, a2⟩, a3, a4, a5⟩ := hA.facts
  obtain ⟨⟨b0, b1, b2⟩, b3, b4, b5⟩ := hB.facts
  obtain ⟨⟨x0, x1, x2⟩, x3, x4, x5⟩ := hX.facts
  obtain ⟨⟨y0, y1, y2⟩, y3, y4, y5⟩ := hY.facts
  go_wp2_with fail
  refine (h5 _ hT5).mono ?_
  rintro r w6 ⟨rfl, hb6⟩
  have hT6 := hK _ _ hT5 hb6
  have hbw6 : Below w.heap.size w w6 := hbw5.trans (hb6.mono hbw5.size)
  replace hA := hA.keep hb6
  replace hB := hB.keep hb6
  replace hX := hX.keep hb6
  replace hY := hY.keep hb6
  clear hb6 hbw5 hT5 a0 a1 a2 a3 a4 a5 b0 b1 b2 b3 b4 b5 x0 x1 x2 x3 x4 x5 y0 y1 y2 y3 y4 y5
  go_wp2
  go_ret
  refine ⟨rfl, ?_⟩
  have hsz := hbw6.size
  go_grown
set_option maxRecDepth 100000 in
set_option maxHeartbeats 4000000 in
theorem join_good1 (hK : ∀ w w', Tabs w → Below w.heap.size w w' → Tabs w') (so n so' n' : Int) (s s' t c : ByteArray) (k k' l : Int) (w : World) (hT : Tabs w)
    (h0 : TS Tabs 3 0 ⟨#[97, 98]⟩ 3 0 ⟨#[98, 97]⟩ 0) (h1 : TS Tabs so n s 3 0 t 0) (h2 : TS Tabs 3 0 t so n s 0) (h3 : LS Tabs so n s k 0) (h4 : LS Tabs 3 0 t k 0) (h5 : JS Tabs so n s so' n' s' 3 0 c 0) (h6 : LS Tabs so' n' s' k' 0) (h7 : LS Tabs 3 0 c l 0)
    (k0 : 0 ≤ k) (k1 : k ≤ 100) (k0' : 0 ≤ k') (k1' : k' ≤ 100) (hl : ¬ k + k' < l) (hs0 : s.size ≤ 100) (hs1 : s'.size ≤ 100) (hsc : s.size ≤ c.size) (hpre : c.extract 0 s.size = s) (hbig : 100 < s.size + s'.size) :
    Calls Tryd.prog 6 #[.agg #[.int .i64 so, .int .i64 n, .string s], .agg #[.int .i64 so', .int .i64 n', .string s']] w fun e w' => e = .returned (.bool true) ∧ Below w.heap.size w w' := by
  have hbw0 : Below w.heap.size w ((w.alloc (.cells #[.int .i64 so, .int .i64 n, .string s] 23)).alloc (.cells #[.int .i64 so', .int .i64 n', .string s'] 23)) := ((Below.refl _ _).alloc (Nat.le_refl _) _).alloc (by simp) _
  have hT0 := hK _ _ hT hbw0
  have hA := (Box.new w so n s 23).al (.cells #[.int .i64 so', .int .i64 n', .string s'] 23)
  have hB := Box.new (w.alloc (.cells #[.int .i64 so, .int .i64 n, .string s] 23)) so' n' s' 23
  rw [show (w.alloc (.cells #[.int .i64 so, .int .i64 n, .string s] 23)).heap.size = w.heap.size + 1 by simp] at hB
  have dl : decide (k + k' < l) = false := by simpa using hl
  have hwr : IntKind.i64.wrap (k + k') = k + k' := wrap_small _ (by omega) (by omega)
  have dz : decide ((c.size : Int) < (s.size : Int)) = false := by simp; omega
  have z2 : (s.size : Int) ≤ (c.size : Int) := by omega
  have z3 : (0 : Int) ≤ (s.size : Int) := by omega
  have z4 : (100 : Int) < (s.size : Int) + (s'.size : Int) := by omega
  go_enter Tryd.func6, Tryd.ntmps6
  go_wp2_with fail
  refine (h0 _ hT0).mono ?_
  rintro r w1 ⟨rfl, hb1⟩
  have hT1 := hK _ _ hT0 hb1
  replace hA := hA.keep hb1
  replace hB := hB.keep hb1
  have hbw1 : Below w.heap.size w w1 := hbw0.trans (hb1.mono hbw0.size)
  clear hb1 hbw0 hT0 hT
  obtain ⟨⟨a0, a1, a2⟩, a3, a4, a5⟩ := hA.facts
  obtain ⟨⟨b0, b1, b2⟩, b3, b4, b5⟩ := hB.facts
  go_wp2_with fail
  refine (h1 _ (hK _ _ hT1 ((Below.refl _ _).alloc (Nat.le_refl _) _))).mono ?_
  rintro r w2 ⟨rfl, hb2⟩
  have hT2 := hK _ _ (hK _ _ hT1 ((Below.refl _ _).alloc (Nat.le_refl _) _)) hb2
  have hbw2 : Below w.heap.size w w2 := (hbw1.alloc hbw1.size _).trans (hb2.mono (by have := hbw1.size; simp; omega))
  replace hA := (hA.al _).keep hb2
  replace hB := (hB.al _).keep hb2
  clear hb2 hbw1 hT1 a0 a1 a2 a3 a4 a5 b0 b1 b2 b3 b4 b5
  obtain ⟨⟨a0, a1, a2⟩, a3, a4, a5⟩ := hA.facts
  obtain ⟨⟨b0, b1, b2⟩, b3, b4, b5⟩ := hB.facts
  go_wp2_with fail
  refine (h2 _ (hK _ _ hT2 ((Below.refl _ _).alloc (Nat.le_refl _) _))).mono ?_
  rintro r w3 ⟨rfl, hb3⟩
  have hT3 := hK _ _ (hK _ _ hT2 ((Below.refl _ _).alloc (Nat.le_refl _) _)) hb3
  have hbw3 : Below w.heap.size w w3 := (hbw2.alloc hbw2.size _).trans (hb3.mono (by have := hbw2.size; simp; omega))
  replace hA := (hA.al _).keep hb3
  replace hB := (hB.al _).keep hb3
  have hX := (Box.new w2 3 0 t 23).keep hb3
  clear hb3 hbw2 hT2 a0 a1 a2 a3 a4 a5 b0 b1 b2 b3 b4 b5
  obtain ⟨⟨a0, a1, a2⟩, a3, a4, a5⟩ := hA.facts
  obtain ⟨⟨b0, b1, b2⟩, b3, b4, b5⟩ := hB.facts
  obtain ⟨⟨x0, x1, x2⟩, x3, x4, x5⟩ := hX.facts
  go_wp2_with fail
  refine (h3 _ (hK _ _ hT3 ((Below.refl _ _).alloc (Nat.le_refl _) _))).mono ?_
  rintro r w4 ⟨rfl, hb4⟩
  have hT4 := hK _ _ (hK _ _ hT3 ((Below.refl _ _).alloc (Nat.le_refl _) _)) hb4
  have hbw4 : Below w.heap.size w w4 := (hbw3.alloc hbw3.size _).trans (hb4.mono (by have := hbw3.size; simp; omega))
  replace hA := (hA.al _).keep hb4
  replace hB := (hB.al _).keep hb4
  replace hX := (hX.al _).keep hb4
  have hY := (Box.new w3 so n s 23).keep hb4
  clear hb4 hbw3 hT3 a0 a1 a2 a3 a4 a5 b0 b1 b2 b3 b4 b5 x0 x1 x2 x3 x4 x5
  obtain ⟨⟨a0, a1, a2⟩, a3, a4, a5⟩ := hA.facts
  obtain ⟨⟨b0, b1, b2⟩, b3, b4, b5⟩ := hB.facts
  obtain ⟨⟨x0, x1, x2⟩, x3, x4, x5⟩ := hX.facts
  obtain ⟨⟨y0, y1, y2⟩, y3, y4, y5⟩ := hY.facts
  go_wp2_with fail
  refine (h4 _ hT4).mono ?_
  rintro r w5 ⟨rfl, hb5⟩
  have hT5 := hK _ _ hT4 hb5
  have hbw5 : Below w.heap.size w w5 := hbw4.trans (hb5.mono hbw4.size)
  replace hA := hA.keep hb5
  replace hB := hB.keep hb5
  replace hX := hX.keep hb5
  replace hY := hY.keep hb5
  clear hb5 hbw4 hT4 a0 a1 a2 a3 a4 a5 b0 b1 b2 b3 b4 b5 x0 x1 x2 x3 x4 x5 y0 y1 y2 y3 y4 y5
  obtain ⟨⟨a0, a1, a2⟩, a3, a4, a5⟩ := hA.facts
  obtain ⟨⟨b0, b1, b2⟩, b3, b4, b5⟩ := hB.facts
  obtain ⟨⟨x0, x1, x2⟩, x3, x4, x5⟩ := hX.facts
  obtain ⟨⟨y0, y1, y2⟩, y3, y4, y5⟩ := hY.facts
  go_wp2_with fail
  refine (h5 _ hT5).mono ?_
  rintro r w6 ⟨rfl, hb6⟩
  have hT6 := hK _ _ hT5 hb6
  have hbw6 : Below w.heap.size w w6 := hbw5.trans (hb6.mono hbw5.size)
  replace hA := hA.keep hb6
  replace hB := hB.keep hb6
  replace hX := hX.keep hb6
  replace hY := hY.keep hb6
  clear hb6 hbw5 hT5 a0 a1 a2 a3 a4 a5 b0 b1 b2 b3 b4 b5 x0 x1 x2 x3 x4 x5 y0 y1 y2 y3 y4 y5
  obtain ⟨⟨a0, a1, a2⟩, a3, a4, a5⟩ := hA.facts
  obtain ⟨⟨b0, b1, b2⟩, b3, b4, b5⟩ := hB.facts
  obtain ⟨⟨x0, x1, x2⟩, x3, x4, x5⟩ := hX.facts
  go_wp2_with fail
  refine (h6 _ (hK _ _ hT6 ((Below.refl _ _).alloc (Nat.le_refl _) _))).mono ?_
  rintro r w7 ⟨rfl, hb7⟩
  have hT7 := hK _ _ (hK _ _ hT6 ((Below.refl _ _).alloc (Nat.le_refl _) _)) hb7
  have hbw7 : Below w.heap.size w w7 := (hbw6.alloc hbw6.size _).trans (hb7.mono (by have := hbw6.size; simp; omega))
  replace hA := (hA.al _).keep hb7
  replace hB := (hB.al _).keep hb7
  replace hX := (hX.al _).keep hb7
  have hC := (Box.new w6 3 0 c 23).keep hb7
  clear hb7 hbw6 hT6 a0 a1 a2 a3 a4 a5 b0 b1 b2 b3 b4 b5 x0 x1 x2 x3 x4 x5
  obtain ⟨⟨a0, a1, a2⟩, a3, a4, a5⟩ := hA.facts
  obtain ⟨⟨b0, b1, b2⟩, b3, b4, b5⟩ := hB.facts
  obtain ⟨⟨x0, x1, x2⟩, x3, x4, x5⟩ := hX.facts
  obtain ⟨⟨c0, c1, c2⟩, c3, c4, c5⟩ := hC.facts
  go_wp2_with fail
  refine (h7 _ hT7).mono ?_
  rintro r w8 ⟨rfl, hb8⟩
  have hT8 := hK _ _ hT7 hb8
  have hbw8 : Below w.heap.size w w8 := hbw7.trans (hb8.mono hbw7.size)
  replace hA := hA.keep hb8
  replace hB := hB.keep hb8
  replace hX := hX.keep hb8
  replace hC := hC.keep hb8
  clear hb8 hbw7 hT7 a0 a1 a2 a3 a4 a5 b0 b1 b2 b3 b4 b5 x0 x1 x2 x3 x4 x5 c0 c1 c2 c3 c4 c5
  obtain ⟨⟨a0, a1, a2⟩, a3, a4, a5⟩ := hA.facts
  obtain ⟨⟨b0, b1, b2⟩, b3, b4, b5⟩ := hB.facts
  obtain ⟨⟨c0, c1, c2⟩, c3, c4, c5⟩ := hC.facts
  go_wp2_with fail
  go_quiet (fail)
  go_wp2
  go_ret
  exact ⟨rfl, below_dn hbw8 _⟩
set_option maxRecDepth 100000 in
set_option maxHeartbeats 4000000 in
theorem join_good2 (hK : ∀ w w', Tabs w → Below w.heap.size w w' → Tabs w') (so n so' n' : Int) (s s' t c u d : ByteArray) (k k' l : Int) (w : World) (hT : Tabs w)
    (h0 : TS Tabs 3 0 ⟨#[97, 98]⟩ 3 0 ⟨#[98, 97]⟩ 0) (h1 : TS Tabs so n s 3 0 t 0) (h2 : TS Tabs 3 0 t so n s 0) (h3 : LS Tabs so n s k 0) (h4 : LS Tabs 3 0 t k 0) (h5 : JS Tabs so n s so' n' s' 3 0 c 0) (h6 : LS Tabs so' n' s' k' 0) (h7 : LS Tabs 3 0 c l 0)
    (k0 : 0 ≤ k) (k1 : k ≤ 100) (k0' : 0 ≤ k') (k1' : k' ≤ 100) (hl : ¬ k + k' < l) (hs0 : s.size ≤ 100) (hs1 : s'.size ≤ 100) (hsc : s.size ≤ c.size) (hpre : c.extract 0 s.size = s) (hbig : ¬ 100 < s.size + s'.size) (hle : l = k + k') (h8 : TS Tabs so' n' s' 3 0 u 0) (h9 : JS Tabs 3 0 u 3 0 t 3 0 d 0) (h10 : TS Tabs 3 0 c 3 0 d 0) :
    Calls Tryd.prog 6 #[.agg #[.int .i64 so, .int .i64 n, .string s], .agg #[.int .i64 so', .int .i64 n', .string s']] w fun e w' => e = .returned (.bool true) ∧ Below w.heap.size w w' := by
  have hbw0 : Below w.heap.size w ((w.alloc (.cells #[.int .i64 so, .int .i64 n, .string s] 23)).alloc (.cells #[.int .i64 so', .int .i64 n', .string s'] 23)) := ((Below.refl _ _).alloc (Nat.le_refl _) _).alloc (by simp) _
  have hT0 := hK _ _ hT hbw0
  have hA := (Box.new w so n s 23).al (.cells #[.int .i64 so', .int .i64 n', .string s'] 23)
  have hB := Box.new (w.alloc (.cells #[.int .i64 so, .int .i64 n, .string s] 23)) so' n' s' 23
  rw [show (w.alloc (.cells #[.int .i64 so, .int .i64 n, .string s] 23)).heap.size = w.heap.size + 1 by simp] at hB
  have dl : decide (k + k' < l) = false := by simpa using hl
  have hwr : IntKind.i64.wrap (k + k') = k + k' := wrap_small _ (by omega) (by omega)
  have dz : decide ((c.size : Int) < (s.size : Int)) = false := by simp; omega
  have z2 : (s.size : Int) ≤ (c.size : Int) := by omega
  have z3 : (0 : Int) ≤ (s.size : Int) := by omega
  have z4 : ¬ (100 : Int) < (s.size : Int) + (s'.size : Int) := by omega
  have HE : Hid (l = k + k') := hle
  clear hle
  go_enter Tryd.func6, Tryd.ntmps6
  go_wp2_with fail
  refine (h0 _ hT0).mono ?_
  rintro r w1 ⟨rfl, hb1⟩
  have hT1 := hK _ _ hT0 hb1
  replace hA := hA.keep hb1
  replace hB := hB.keep hb1
  have hbw1 : Below w.heap.size w w1 := hbw0.trans (hb1.mono hbw0.size)
  clear hb1 hbw0 hT0 hT
  obtain ⟨⟨a0, a1, a2⟩, a3, a4, a5⟩ := hA.facts
  obtain ⟨⟨b0, b1, b2⟩, b3, b4, b5⟩ := hB.facts
  go_wp2_with fail
  refine (h1 _ (hK _ _ hT1 ((Below.refl _ _).alloc (Nat.le_refl _) _))).mono ?_
  rintro r w2 ⟨rfl, hb2⟩
  have hT2 := hK _ _ (hK _ _ hT1 ((Below.refl _ _).alloc (Nat.le_refl _) _)) hb2
  have hbw2 : Below w.heap.size w w2 := (hbw1.alloc hbw1.size _).trans (hb2.mono (by have := hbw1.size; simp; omega))
  replace hA := (hA.al _).keep hb2
  replace hB := (hB.al _).keep hb2
  clear hb2 hbw1 hT1 a0 a1 a2 a3 a4 a5 b0 b1 b2 b3 b4 b5
  obtain ⟨⟨a0, a1, a2⟩, a3, a4, a5⟩ := hA.facts
  obtain ⟨⟨b0, b1, b2⟩, b3, b4, b5⟩ := hB.facts
  go_wp2_with fail
  refine (h2 _ (hK _ _ hT2 ((Below.refl _ _).alloc (Nat.le_refl _) _))).mono ?_
  rintro r w3 ⟨rfl, hb3⟩
  have hT3 := hK _ _ (hK _ _ hT2 ((Below.refl _ _).alloc (Nat.le_refl _) _)) hb3
  have hbw3 : Below w.heap.size w w3 := (hbw2.alloc hbw2.size _).trans (hb3.mono (by have := hbw2.size; simp; omega))
  replace hA := (hA.al _).keep hb3
  replace hB := (hB.al _).keep hb3
  have hX := (Box.new w2 3 0 t 23).keep hb3
  clear hb3 hbw2 hT2 a0 a1 a2 a3 a4 a5 b0 b1 b2 b3 b4 b5
  obtain ⟨⟨a0, a1, a2⟩, a3, a4, a5⟩ := hA.facts
  obtain ⟨⟨b0, b1, b2⟩, b3, b4, b5⟩ := hB.facts
  obtain ⟨⟨x0, x1, x2⟩, x3, x4, x5⟩ := hX.facts
  go_wp2_with fail
  refine (h3 _ (hK _ _ hT3 ((Below.refl _ _).alloc (Nat.le_refl _) _))).mono ?_
  rintro r w4 ⟨rfl, hb4⟩
  have hT4 := hK _ _ (hK _ _ hT3 ((Below.refl _ _).alloc (Nat.le_refl _) _)) hb4
  have hbw4 : Below w.heap.size w w4 := (hbw3.alloc hbw3.size _).trans (hb4.mono (by have := hbw3.size; simp; omega))
  replace hA := (hA.al _).keep hb4
  replace hB := (hB.al _).keep hb4
  replace hX := (hX.al _).keep hb4
  have hY := (Box.new w3 so n s 23).keep hb4
  clear hb4 hbw3 hT3 a0 a1 a2 a3 a4 a5 b0 b1 b2 b3 b4 b5 x0 x1 x2 x3 x4 x5
  obtain ⟨⟨a0, a1, a2⟩, a3, a4, a5⟩ := hA.facts
  obtain ⟨⟨b0, b1, b2⟩, b3, b4, b5⟩ := hB.facts
  obtain ⟨⟨x0, x1, x2⟩, x3, x4, x5⟩ := hX.facts
  obtain ⟨⟨y0, y1, y2⟩, y3, y4, y5⟩ := hY.facts
  go_wp2_with fail
  refine (h4 _ hT4).mono ?_
  rintro r w5 ⟨rfl, hb5⟩
  have hT5 := hK _ _ hT4 hb5
  have hbw5 : Below w.heap.size w w5 := hbw4.trans (hb5.mono hbw4.size)
  replace hA := hA.keep hb5
  replace hB := hB.keep hb5
  replace hX := hX.keep hb5
  replace hY := hY.keep hb5
  clear hb5 hbw4 hT4 a0 a1 a2 a3 a4 a5 b0 b1 b2 b3 b4 b5 x0 x1 x2 x3 x4 x5 y0 y1 y2 y3 y4 y5
  obtain ⟨⟨a0, a1, a2⟩, a3, a4, a5⟩ := hA.facts
  obtain ⟨⟨b0, b1, b2⟩, b3, b4, b5⟩ := hB.facts
  obtain ⟨⟨x0, x1, x2⟩, x3, x4, x5⟩ := hX.facts
  obtain ⟨⟨y0, y1, y2⟩, y3, y4, y5⟩ := hY.facts
  go_wp2_with fail
  refine (h5 _ hT5).mono ?_
  rintro r w6 ⟨rfl, hb6⟩
  have hT6 := hK _ _ hT5 hb6
  have hbw6 : Below w.heap.size w w6 := hbw5.trans (hb6.mono hbw5.size)
  replace hA := hA.keep hb6
  replace hB := hB.keep hb6
  replace hX := hX.keep hb6
  replace hY := hY.keep hb6
  clear hb6 hbw5 hT5 a0 a1 a2 a3 a4 a5 b0 b1 b2 b3 b4 b5 x0 x1 x2 x3 x4 x5 y0 y1 y2 y3 y4 y5
  obtain ⟨⟨a0, a1, a2⟩, a3, a4, a5⟩ := hA.facts
  obtain ⟨⟨b0, b1, b2⟩, b3, b4, b5⟩ := hB.facts
  obtain ⟨⟨x0, x1, x2⟩, x3, x4, x5⟩ := hX.facts
  go_wp2_with fail
  refine (h6 _ (hK _ _ hT6 ((Below.refl _ _).alloc (Nat.le_refl _) _))).mono ?_
  rintro r w7 ⟨rfl, hb7⟩
  have hT7 := hK _ _ (hK _ _ hT6 ((Below.refl _ _).alloc (Nat.le_refl _) _)) hb7
  have hbw7 : Below w.heap.size w w7 := (hbw6.alloc hbw6.size _).trans (hb7.mono (by have := hbw6.size; simp; omega))
  replace hA := (hA.al _).keep hb7
  replace hB := (hB.al _).keep hb7
  replace hX := (hX.al _).keep hb7
  have hC := (Box.new w6 3 0 c 23).keep hb7
  clear hb7 hbw6 hT6 a0 a1 a2 a3 a4 a5 b0 b1 b2 b3 b4 b5 x0 x1 x2 x3 x4 x5
  obtain ⟨⟨a0, a1, a2⟩, a3, a4, a5⟩ := hA.facts
  obtain ⟨⟨b0, b1, b2⟩, b3, b4, b5⟩ := hB.facts
  obtain ⟨⟨x0, x1, x2⟩, x3, x4, x5⟩ := hX.facts
  obtain ⟨⟨c0, c1, c2⟩, c3, c4, c5⟩ := hC.facts
  go_wp2_with fail
  refine (h7 _ hT7).mono ?_
  rintro r w8 ⟨rfl, hb8⟩
  have hT8 := hK _ _ hT7 hb8
  have hbw8 : Below w.heap.size w w8 := hbw7.trans (hb8.mono hbw7.size)
  replace hA := hA.keep hb8
  replace hB := hB.keep hb8
  replace hX := hX.keep hb8
  replace hC := hC.keep hb8
  clear hb8 hbw7 hT7 a0 a1 a2 a3 a4 a5 b0 b1 b2 b3 b4 b5 x0 x1 x2 x3 x4 x5 c0 c1 c2 c3 c4 c5
  obtain ⟨⟨a0, a1, a2⟩, a3, a4, a5⟩ := hA.facts
  obtain ⟨⟨b0, b1, b2⟩, b3, b4, b5⟩ := hB.facts
  obtain ⟨⟨c0, c1, c2⟩, c3, c4, c5⟩ := hC.facts
  go_wp2_with fail
  go_quiet (fail)
  clear a0 a1 a2 a3 a4 a5 b0 b1 b2 b3 b4 b5 c0 c1 c2 c3 c4 c5
  replace hbw8 := below_dn hbw8 nq
  replace hA := hA.keep (below_dn (Below.refl _ _) nq)
  replace hB := hB.keep (below_dn (Below.refl _ _) nq)
  replace hX := hX.keep (below_dn (Below.refl _ _) nq)
  replace hC := hC.keep (below_dn (Below.refl _ _) nq)
  replace hT8 := hK _ _ hT8 (below_dn (Below.refl _ _) nq)
  generalize w8.drewN nq = v8 at hbw8 hA hB hX hC hT8 ⊢
  obtain ⟨⟨a0, a1, a2⟩, a3, a4, a5⟩ := hA.facts
  obtain ⟨⟨b0, b1, b2⟩, b3, b4, b5⟩ := hB.facts
  obtain ⟨⟨x0, x1, x2⟩, x3, x4, x5⟩ := hX.facts
  obtain ⟨⟨c0, c1, c2⟩, c3, c4, c5⟩ := hC.facts
  go_wp2_with fail
  refine (h8 _ hT8).mono ?_
  rintro r w9 ⟨rfl, hb9⟩
  have hT9 := hK _ _ hT8 hb9
  have hbw9 : Below w.heap.size w w9 := hbw8.trans (hb9.mono hbw8.size)
  replace hA := hA.keep hb9
  replace hB := hB.keep hb9
  replace hX := hX.keep hb9
  replace hC := hC.keep hb9
  clear hb9 hbw8 hT8 a0 a1 a2 a3 a4 a5 b0 b1 b2 b3 b4 b5 x0 x1 x2 x3 x4 x5 c0 c1 c2 c3 c4 c5
  obtain ⟨⟨a0, a1, a2⟩, a3, a4, a5⟩ := hA.facts
  obtain ⟨⟨b0, b1, b2⟩, b3, b4, b5⟩ := hB.facts
  obtain ⟨⟨x0, x1, x2⟩, x3, x4, x5⟩ := hX.facts
  obtain ⟨⟨c0, c1, c2⟩, c3, c4, c5⟩ := hC.facts
  go_wp2_with fail
  refine (h9 _ (hK _ _ hT9 ((Below.refl _ _).alloc (Nat.le_refl _) _))).mono ?_
  rintro r w10 ⟨rfl, hb10⟩
  have hT10 := hK _ _ (hK _ _ hT9 ((Below.refl _ _).alloc (Nat.le_refl _) _)) hb10
  have hbw10 : Below w.heap.size w w10 := (hbw9.alloc hbw9.size _).trans (hb10.mono (by have := hbw9.size; simp; omega))
  replace hA := (hA.al _).keep hb10
  replace hB := (hB.al _).keep hb10
  replace hX := (hX.al _).keep hb10
  replace hC := (hC.al _).keep hb10
  have hP := (Box.new w9 3 0 u 23).keep hb10
  clear hb10 hbw9 hT9 a0 a1 a2 a3 a4 a5 b0 b1 b2 b3 b4 b5 x0 x1 x2 x3 x4 x5 c0 c1 c2 c3 c4 c5
  obtain ⟨⟨a0, a1, a2⟩, a3, a4, a5⟩ := hA.facts
  obtain ⟨⟨b0, b1, b2⟩, b3, b4, b5⟩ := hB.facts
  obtain ⟨⟨x0, x1, x2⟩, x3, x4, x5⟩ := hX.facts
  obtain ⟨⟨c0, c1, c2⟩, c3, c4, c5⟩ := hC.facts
  obtain ⟨⟨p0, p1, p2⟩, p3, p4, p5⟩ := hP.facts
  go_wp2_with fail
  refine (h10 _ (hK _ _ hT10 ((Below.refl _ _).alloc (Nat.le_refl _) _))).mono ?_
  rintro r w11 ⟨rfl, hb11⟩
  have hT11 := hK _ _ (hK _ _ hT10 ((Below.refl _ _).alloc (Nat.le_refl _) _)) hb11
  have hbw11 : Below w.heap.size w w11 := (hbw10.alloc hbw10.size _).trans (hb11.mono (by have := hbw10.size; simp; omega))
  replace hA := (hA.al _).keep hb11
  replace hB := (hB.al _).keep hb11
  replace hX := (hX.al _).keep hb11
  replace hC := (hC.al _).keep hb11
  replace hP := (hP.al _).keep hb11
  have hQ := (Box.new w10 3 0 d 23).keep hb11
  clear hb11 hbw10 hT10 a0 a1 a2 a3 a4 a5 b0 b1 b2 b3 b4 b5 x0 x1 x2 x3 x4 x5 c0 c1 c2 c3 c4 c5 p0 p1 p2 p3 p4 p5
  obtain ⟨⟨q0, q1, q2⟩, q3, q4, q5⟩ := hQ.facts
  have HE' := HE.out
  subst HE'
  go_wp2
  go_ret
  refine ⟨rfl, ?_⟩
  have hsz := hbw11.size
  go_grown
end Go.Proofs.YtbhgcfoplpjfjaaDoor
