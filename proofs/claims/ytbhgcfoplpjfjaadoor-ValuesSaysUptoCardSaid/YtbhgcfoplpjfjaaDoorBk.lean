/-
  duetkeep.ValuesBack returns true over the contracts of values.Write and values.Read, way by way.
-/
import Derived.Test.YtbhgcfoplpjfjaaDoorWt
namespace Go.Proofs.YtbhgcfoplpjfjaaDoor
open Go.RowKit Go.Shelf
variable (Tabs : World → Prop)

def WS (so n : Int) (s : ByteArray) (t : ByteArray) (e : Int) : Prop :=
  ∀ (W : World), Tabs W → Calls Tryd.prog 8 #[.agg #[.int .i64 so, .int .i64 n, .string s]] W fun r w' => r = .returned (.tuple #[.string t, .int .i64 e]) ∧ Below W.heap.size W w'
def RS (s : ByteArray) (xo xn : Int) (xs : ByteArray) (e : Int) : Prop :=
  ∀ (W : World), Tabs W → Calls Tryd.prog 10 #[.string s] W fun r w' => r = .returned (.tuple #[.agg #[.int .i64 xo, .int .i64 xn, .string xs], .int .i64 e]) ∧ Below W.heap.size W w'

set_option maxRecDepth 100000 in
set_option maxHeartbeats 2000000 in
theorem back_rw (hK : ∀ w w', Tabs w → Below w.heap.size w w' → Tabs w') (so n xo xn e1 : Int) (s z xs t : ByteArray) (w : World) (hT : Tabs w)
    (h0 : WS Tabs 3 0 ⟨#[97, 10]⟩ ⟨#[34, 97, 92, 110, 34]⟩ 0) (h1 : RS Tabs z xo xn xs e1) (he1 : e1 = 0) (h2 : WS Tabs xo xn xs z 0) (h3 : WS Tabs so n s t 0) (h4 : RS Tabs t so n s 0) :
    Calls Tryd.prog 4 #[.agg #[.int .i64 so, .int .i64 n, .string s], .string z] w fun e w' => e = .returned (.bool true) ∧ Below w.heap.size w w' := by
  have hbw0 : Below w.heap.size w (w.alloc (.cells #[.int .i64 so, .int .i64 n, .string s] 23)) := (Below.refl _ _).alloc (Nat.le_refl _) _
  have hT0 := hK _ _ hT hbw0
  have hA := Box.new w so n s 23
  subst he1
  go_enter Tryd.func4, Tryd.ntmps4
  go_wp2_with fail
  refine (h0 _ hT0).mono ?_
  rintro r w1 ⟨rfl, hb1⟩
  have hT1 := hK _ _ hT0 hb1
  replace hA := hA.keep hb1
  have hbw1 : Below w.heap.size w w1 := hbw0.trans (hb1.mono hbw0.size)
  clear hb1 hbw0 hT0 hT
  go_wp2_with fail
  refine (h1 _ hT1).mono ?_
  rintro r w2 ⟨rfl, hb2⟩
  have hT2 := hK _ _ hT1 hb2
  replace hA := hA.keep hb2
  have hbw2 : Below w.heap.size w w2 := hbw1.trans (hb2.mono hbw1.size)
  clear hb2 hbw1 hT1
  obtain ⟨⟨a0, a1, a2⟩, a3, a4, a5⟩ := hA.facts
  go_wp2_with fail
  refine (h2 _ (hK _ _ hT2 ((Below.refl _ _).alloc (Nat.le_refl _) _))).mono ?_
  rintro r w3 ⟨rfl, hb3⟩
  have hT3 := hK _ _ (hK _ _ hT2 ((Below.refl _ _).alloc (Nat.le_refl _) _)) hb3
  replace hA := (hA.al _).keep hb3
  have hbw3 : Below w.heap.size w w3 := (hbw2.alloc hbw2.size _).trans (hb3.mono (by have := hbw2.size; simp; omega))
  clear hb3 hbw2 hT2 a0 a1 a2 a3 a4 a5
  obtain ⟨⟨a0, a1, a2⟩, a3, a4, a5⟩ := hA.facts
  go_wp2_with fail
  refine (h3 _ hT3).mono ?_
  rintro r w4 ⟨rfl, hb4⟩
  have hT4 := hK _ _ hT3 hb4
  replace hA := hA.keep hb4
  have hbw4 : Below w.heap.size w w4 := hbw3.trans (hb4.mono hbw3.size)
  clear hb4 hbw3 hT3 a0 a1 a2 a3 a4 a5
  go_wp2_with fail
  refine (h4 _ hT4).mono ?_
  rintro r w5 ⟨rfl, hb5⟩
  replace hA := hA.keep hb5
  have hbw5 : Below w.heap.size w w5 := hbw4.trans (hb5.mono hbw4.size)
  clear hb5 hbw4 hT4
  obtain ⟨⟨a0, a1, a2⟩, a3, a4, a5⟩ := hA.facts
  go_wp2
  go_ret
  refine ⟨rfl, ?_⟩
  have hsz := hbw5.size
  go_grown

set_option maxRecDepth 100000 in
set_option maxHeartbeats 2000000 in
theorem back_r (hK : ∀ w w', Tabs w → Below w.heap.size w w' → Tabs w') (so n xo xn e1 e2 : Int) (s z xs : ByteArray) (w : World) (hT : Tabs w)
    (h0 : WS Tabs 3 0 ⟨#[97, 10]⟩ ⟨#[34, 97, 92, 110, 34]⟩ 0) (h1 : RS Tabs z xo xn xs e1) (he1 : e1 = 0) (h2 : WS Tabs xo xn xs z 0) (h3 : WS Tabs so n s ⟨#[]⟩ e2) (he2 : e2 ≠ 0) :
    Calls Tryd.prog 4 #[.agg #[.int .i64 so, .int .i64 n, .string s], .string z] w fun e w' => e = .returned (.bool true) ∧ Below w.heap.size w w' := by
  have hbw0 : Below w.heap.size w (w.alloc (.cells #[.int .i64 so, .int .i64 n, .string s] 23)) := (Below.refl _ _).alloc (Nat.le_refl _) _
  have hT0 := hK _ _ hT hbw0
  have hA := Box.new w so n s 23
  subst he1
  have he2b : (e2 != 0) = true := by simpa using he2
  go_enter Tryd.func4, Tryd.ntmps4
  go_wp2_with fail
  refine (h0 _ hT0).mono ?_
  rintro r w1 ⟨rfl, hb1⟩
  have hT1 := hK _ _ hT0 hb1
  replace hA := hA.keep hb1
  have hbw1 : Below w.heap.size w w1 := hbw0.trans (hb1.mono hbw0.size)
  clear hb1 hbw0 hT0 hT
  go_wp2_with fail
  refine (h1 _ hT1).mono ?_
  rintro r w2 ⟨rfl, hb2⟩
  have hT2 := hK _ _ hT1 hb2
  replace hA := hA.keep hb2
  have hbw2 : Below w.heap.size w w2 := hbw1.trans (hb2.mono hbw1.size)
  clear hb2 hbw1 hT1
  obtain ⟨⟨a0, a1, a2⟩, a3, a4, a5⟩ := hA.facts
  go_wp2_with fail
  refine (h2 _ (hK _ _ hT2 ((Below.refl _ _).alloc (Nat.le_refl _) _))).mono ?_
  rintro r w3 ⟨rfl, hb3⟩
  have hT3 := hK _ _ (hK _ _ hT2 ((Below.refl _ _).alloc (Nat.le_refl _) _)) hb3
  replace hA := (hA.al _).keep hb3
  have hbw3 : Below w.heap.size w w3 := (hbw2.alloc hbw2.size _).trans (hb3.mono (by have := hbw2.size; simp; omega))
  clear hb3 hbw2 hT2 a0 a1 a2 a3 a4 a5
  obtain ⟨⟨a0, a1, a2⟩, a3, a4, a5⟩ := hA.facts
  go_wp2_with fail
  refine (h3 _ hT3).mono ?_
  rintro r w4 ⟨rfl, hb4⟩
  have hT4 := hK _ _ hT3 hb4
  replace hA := hA.keep hb4
  have hbw4 : Below w.heap.size w w4 := hbw3.trans (hb4.mono hbw3.size)
  clear hb4 hbw3 hT3 a0 a1 a2 a3 a4 a5
  go_wp2
  go_ret
  exact ⟨rfl, hbw4⟩

set_option maxRecDepth 100000 in
set_option maxHeartbeats 2000000 in
theorem back_w (hK : ∀ w w', Tabs w → Below w.heap.size w w' → Tabs w') (so n xo xn e1 : Int) (s z xs t : ByteArray) (w : World) (hT : Tabs w)
    (h0 : WS Tabs 3 0 ⟨#[97, 10]⟩ ⟨#[34, 97, 92, 110, 34]⟩ 0) (h1 : RS Tabs z xo xn xs e1) (he1 : e1 ≠ 0) (h3 : WS Tabs so n s t 0) (h4 : RS Tabs t so n s 0) :
    Calls Tryd.prog 4 #[.agg #[.int .i64 so, .int .i64 n, .string s], .string z] w fun e w' => e = .returned (.bool true) ∧ Below w.heap.size w w' := by
  have hbw0 : Below w.heap.size w (w.alloc (.cells #[.int .i64 so, .int .i64 n, .string s] 23)) := (Below.refl _ _).alloc (Nat.le_refl _) _
  have hT0 := hK _ _ hT hbw0
  have hA := Box.new w so n s 23
  have he1b : (e1 == 0) = false := by simpa using he1
  go_enter Tryd.func4, Tryd.ntmps4
  go_wp2_with fail
  refine (h0 _ hT0).mono ?_
  rintro r w1 ⟨rfl, hb1⟩
  have hT1 := hK _ _ hT0 hb1
  replace hA := hA.keep hb1
  have hbw1 : Below w.heap.size w w1 := hbw0.trans (hb1.mono hbw0.size)
  clear hb1 hbw0 hT0 hT
  go_wp2_with fail
  refine (h1 _ hT1).mono ?_
  rintro r w2 ⟨rfl, hb2⟩
  have hT2 := hK _ _ hT1 hb2
  replace hA := hA.keep hb2
  have hbw2 : Below w.heap.size w w2 := hbw1.trans (hb2.mono hbw1.size)
  clear hb2 hbw1 hT1
  obtain ⟨⟨a0, a1, a2⟩, a3, a4, a5⟩ := hA.facts
  go_wp2_with fail
  refine (h3 _ (hK _ _ hT2 ((Below.refl _ _).alloc (Nat.le_refl _) _))).mono ?_
  rintro r w4 ⟨rfl, hb4⟩
  have hT4 := hK _ _ (hK _ _ hT2 ((Below.refl _ _).alloc (Nat.le_refl _) _)) hb4
  replace hA := (hA.al _).keep hb4
  have hbw4 : Below w.heap.size w w4 := (hbw2.alloc hbw2.size _).trans (hb4.mono (by have := hbw2.size; simp; omega))
  clear hb4 hbw2 hT2 a0 a1 a2 a3 a4 a5
  go_wp2_with fail
  refine (h4 _ hT4).mono ?_
  rintro r w5 ⟨rfl, hb5⟩
  replace hA := hA.keep hb5
  have hbw5 : Below w.heap.size w w5 := hbw4.trans (hb5.mono hbw4.size)
  clear hb5 hbw4 hT4
  obtain ⟨⟨a0, a1, a2⟩, a3, a4, a5⟩ := hA.facts
  go_wp2
  go_ret
  refine ⟨rfl, ?_⟩
  have hsz := hbw5.size
  go_grown

set_option maxRecDepth 100000 in
set_option maxHeartbeats 2000000 in
theorem back_no (hK : ∀ w w', Tabs w → Below w.heap.size w w' → Tabs w') (so n xo xn e1 e2 : Int) (s z xs : ByteArray) (w : World) (hT : Tabs w)
    (h0 : WS Tabs 3 0 ⟨#[97, 10]⟩ ⟨#[34, 97, 92, 110, 34]⟩ 0) (h1 : RS Tabs z xo xn xs e1) (he1 : e1 ≠ 0) (h3 : WS Tabs so n s ⟨#[]⟩ e2) (he2 : e2 ≠ 0) :
    Calls Tryd.prog 4 #[.agg #[.int .i64 so, .int .i64 n, .string s], .string z] w fun e w' => e = .returned (.bool true) ∧ Below w.heap.size w w' := by
  have hbw0 : Below w.heap.size w (w.alloc (.cells #[.int .i64 so, .int .i64 n, .string s] 23)) := (Below.refl _ _).alloc (Nat.le_refl _) _
  have hT0 := hK _ _ hT hbw0
  have hA := Box.new w so n s 23
  have he1b : (e1 == 0) = false := by simpa using he1
  have he2b : (e2 != 0) = true := by simpa using he2
  go_enter Tryd.func4, Tryd.ntmps4
  go_wp2_with fail
  refine (h0 _ hT0).mono ?_
  rintro r w1 ⟨rfl, hb1⟩
  have hT1 := hK _ _ hT0 hb1
  replace hA := hA.keep hb1
  have hbw1 : Below w.heap.size w w1 := hbw0.trans (hb1.mono hbw0.size)
  clear hb1 hbw0 hT0 hT
  go_wp2_with fail
  refine (h1 _ hT1).mono ?_
  rintro r w2 ⟨rfl, hb2⟩
  have hT2 := hK _ _ hT1 hb2
  replace hA := hA.keep hb2
  have hbw2 : Below w.heap.size w w2 := hbw1.trans (hb2.mono hbw1.size)
  clear hb2 hbw1 hT1
  obtain ⟨⟨a0, a1, a2⟩, a3, a4, a5⟩ := hA.facts
  go_wp2_with fail
  refine (h3 _ (hK _ _ hT2 ((Below.refl _ _).alloc (Nat.le_refl _) _))).mono ?_
  rintro r w4 ⟨rfl, hb4⟩
  have hT4 := hK _ _ (hK _ _ hT2 ((Below.refl _ _).alloc (Nat.le_refl _) _)) hb4
  replace hA := (hA.al _).keep hb4
  have hbw4 : Below w.heap.size w w4 := (hbw2.alloc hbw2.size _).trans (hb4.mono (by have := hbw2.size; simp; omega))
  clear hb4 hbw2 hT2 a0 a1 a2 a3 a4 a5
  go_wp2
  go_ret
  exact ⟨rfl, hbw4⟩

end Go.Proofs.YtbhgcfoplpjfjaaDoor
