/-
  duetlaw.ValuesSays returns true, for every value and every text of at most 2^20 bytes, where the library's listed variables hold what they should.
-/
import Derived.Test.YtbhgcfoplpjfjaaDoorBj
import Derived.Test.YtbhgcfoplpjfjaaDoorBp
import Derived.Test.YtbhgcfoplpjfjaaDoorBs
namespace Go.Proofs.YtbhgcfoplpjfjaaDoor
open Go.RowKit Go.Shelf

theorem text_ok (a : ByteArray) (w : World) :
    Calls Tryd.prog 13 #[.string a, .int .i64 0, .string a, .int .i64 0] w fun e w' => e = .returned (.bool true) ∧ w' = w := by
  go_enter Tryd.func13, Tryd.ntmps13
  go_wp2
  go_ret
  exact ⟨rfl, rfl⟩
theorem text_bad (z : Int) (t : ByteArray) (w : World) (hz : z ≠ 0) :
    Calls Tryd.prog 13 #[.string ⟨#[]⟩, .int .i64 z, .string t, .int .i64 z] w fun e w' => e = .returned (.bool true) ∧ w' = w := by
  go_enter Tryd.func13, Tryd.ntmps13
  go_wp2
  go_ret
  exact ⟨rfl, rfl⟩

def VKS (f : FuncId) (so n : Int) (s : ByteArray) (z : Int) : Prop :=
  ∀ (W : World), Env W → Calls Tryd.prog f #[.agg #[.int .i64 so, .int .i64 n, .string s]] W fun r w' => r = .returned (.int .i64 z) ∧ Below W.heap.size W w'
def VFS (s : ByteArray) (xo xn : Int) (xs : ByteArray) (e : Int) : Prop :=
  ∀ (W : World), Env W → Calls Tryd.prog 11 #[.string s] W fun r w' => r = .returned (.tuple #[.agg #[.int .i64 xo, .int .i64 xn, .string xs], .int .i64 e]) ∧ Below W.heap.size W w'
def VTS (so n : Int) (s t : ByteArray) : Prop :=
  ∀ (W : World), Calls Tryd.prog 9 #[.agg #[.int .i64 so, .int .i64 n, .string s]] W fun r w' => r = .returned (.string t) ∧ Below W.heap.size W w'

set_option maxRecDepth 100000 in
set_option maxHeartbeats 2000000 in
theorem says_good (so n xo xn e1 : Int) (s z xs t : ByteArray) (w : World) (hT : Env w)
    (h7 : VKS 7 so n s 0) (h8 : WS Env so n s t 0) (h9 : VTS so n s t) (h10 : RS Env z xo xn xs e1) (h11 : VFS z xo xn xs e1) (h12 : VKS 12 so n s 0) :
    Calls Tryd.prog 3 #[.agg #[.int .i64 so, .int .i64 n, .string s], .string z] w fun e w' => e = .returned (.bool true) ∧ Below w.heap.size w w' := by
  have hbw0 : Below w.heap.size w (w.alloc (.cells #[.int .i64 so, .int .i64 n, .string s] 23)) := (Below.refl _ _).alloc (Nat.le_refl _) _
  have hT0 := env_keep _ _ hT hbw0
  have hA := Box.new w so n s 23
  go_enter Tryd.func3, Tryd.ntmps3
  go_wp2_with fail
  refine (h7 _ hT0).mono ?_
  rintro r w1 ⟨rfl, hb1⟩
  have hT1 := env_keep _ _ hT0 hb1
  replace hA := hA.keep hb1
  have hbw1 : Below w.heap.size w w1 := hbw0.trans (hb1.mono hbw0.size)
  clear hb1 hbw0 hT0 hT
  obtain ⟨⟨a0, a1, a2⟩, a3, a4, a5⟩ := hA.facts
  go_wp2_with fail
  refine (h8 _ hT1).mono ?_
  rintro r w2 ⟨rfl, hb2⟩
  have hT2 := env_keep _ _ hT1 hb2
  replace hA := hA.keep hb2
  have hbw2 : Below w.heap.size w w2 := hbw1.trans (hb2.mono hbw1.size)
  clear hb2 hbw1 hT1 a0 a1 a2 a3 a4 a5
  obtain ⟨⟨a0, a1, a2⟩, a3, a4, a5⟩ := hA.facts
  go_wp2_with fail
  refine (h9 _).mono ?_
  rintro r w3 ⟨rfl, hb3⟩
  have hT3 := env_keep _ _ hT2 hb3
  replace hA := hA.keep hb3
  have hbw3 : Below w.heap.size w w3 := hbw2.trans (hb3.mono hbw2.size)
  clear hb3 hbw2 hT2 a0 a1 a2 a3 a4 a5
  go_wp2_with fail
  refine (h10 _ hT3).mono ?_
  rintro r w4 ⟨rfl, hb4⟩
  have hT4 := env_keep _ _ hT3 hb4
  replace hA := hA.keep hb4
  have hbw4 : Below w.heap.size w w4 := hbw3.trans (hb4.mono hbw3.size)
  clear hb4 hbw3 hT3
  go_wp2_with fail
  refine (h11 _ (env_keep _ _ hT4 ((Below.refl _ _).alloc (Nat.le_refl _) _))).mono ?_
  rintro r w5 ⟨rfl, hb5⟩
  have hT5 := env_keep _ _ (env_keep _ _ hT4 ((Below.refl _ _).alloc (Nat.le_refl _) _)) hb5
  replace hA := (hA.al _).keep hb5
  have hB := (Box.new w4 xo xn xs 23).keep hb5
  have hbw5 : Below w.heap.size w w5 := (hbw4.alloc hbw4.size _).trans (hb5.mono (by have := hbw4.size; simp; omega))
  clear hb5 hbw4 hT4
  obtain ⟨⟨a0, a1, a2⟩, a3, a4, a5⟩ := hA.facts
  go_wp2_with fail
  refine (h12 _ (env_keep _ _ hT5 ((Below.refl _ _).alloc (Nat.le_refl _) _))).mono ?_
  rintro r w6 ⟨rfl, hb6⟩
  replace hB := (hB.al _).keep hb6
  have hC := (Box.new w5 xo xn xs 23).keep hb6
  have hbw6 : Below w.heap.size w w6 := (hbw5.alloc hbw5.size _).trans (hb6.mono (by have := hbw5.size; simp; omega))
  clear hb6 hbw5 hT5 a0 a1 a2 a3 a4 a5 hA
  obtain ⟨⟨b0, b1, b2⟩, b3, b4, b5⟩ := hB.facts
  obtain ⟨⟨c0, c1, c2⟩, c3, c4, c5⟩ := hC.facts
  go_wp2_with fail
  refine (text_ok t w6).mono ?_
  rintro r w7 ⟨rfl, rfl⟩
  go_wp2
  go_ret
  exact ⟨rfl, hbw6⟩
set_option maxRecDepth 100000 in
set_option maxHeartbeats 2000000 in
theorem says_bad (so n xo xn e1 e2 : Int) (s z xs : ByteArray) (w : World) (hT : Env w)
    (he2 : e2 ≠ 0) (h7 : VKS 7 so n s e2) (h8 : WS Env so n s ⟨#[]⟩ e2) (h10 : RS Env z xo xn xs e1) (h11 : VFS z xo xn xs e1) (h12 : VKS 12 so n s e2) :
    Calls Tryd.prog 3 #[.agg #[.int .i64 so, .int .i64 n, .string s], .string z] w fun e w' => e = .returned (.bool true) ∧ Below w.heap.size w w' := by
  have hbw0 : Below w.heap.size w (w.alloc (.cells #[.int .i64 so, .int .i64 n, .string s] 23)) := (Below.refl _ _).alloc (Nat.le_refl _) _
  have hT0 := env_keep _ _ hT hbw0
  have hA := Box.new w so n s 23
  go_enter Tryd.func3, Tryd.ntmps3
  go_wp2_with fail
  refine (h7 _ hT0).mono ?_
  rintro r w1 ⟨rfl, hb1⟩
  have hT1 := env_keep _ _ hT0 hb1
  replace hA := hA.keep hb1
  have hbw1 : Below w.heap.size w w1 := hbw0.trans (hb1.mono hbw0.size)
  clear hb1 hbw0 hT0 hT
  obtain ⟨⟨a0, a1, a2⟩, a3, a4, a5⟩ := hA.facts
  go_wp2_with fail
  refine (h8 _ hT1).mono ?_
  rintro r w2 ⟨rfl, hb2⟩
  have hT2 := env_keep _ _ hT1 hb2
  replace hA := hA.keep hb2
  have hbw2 : Below w.heap.size w w2 := hbw1.trans (hb2.mono hbw1.size)
  clear hb2 hbw1 hT1 a0 a1 a2 a3 a4 a5
  go_wp2_with fail
  refine (h10 _ hT2).mono ?_
  rintro r w4 ⟨rfl, hb4⟩
  have hT4 := env_keep _ _ hT2 hb4
  replace hA := hA.keep hb4
  have hbw4 : Below w.heap.size w w4 := hbw2.trans (hb4.mono hbw2.size)
  clear hb4 hbw2 hT2
  go_wp2_with fail
  refine (h11 _ (env_keep _ _ hT4 ((Below.refl _ _).alloc (Nat.le_refl _) _))).mono ?_
  rintro r w5 ⟨rfl, hb5⟩
  have hT5 := env_keep _ _ (env_keep _ _ hT4 ((Below.refl _ _).alloc (Nat.le_refl _) _)) hb5
  replace hA := (hA.al _).keep hb5
  have hB := (Box.new w4 xo xn xs 23).keep hb5
  have hbw5 : Below w.heap.size w w5 := (hbw4.alloc hbw4.size _).trans (hb5.mono (by have := hbw4.size; simp; omega))
  clear hb5 hbw4 hT4
  obtain ⟨⟨a0, a1, a2⟩, a3, a4, a5⟩ := hA.facts
  go_wp2_with fail
  refine (h12 _ (env_keep _ _ hT5 ((Below.refl _ _).alloc (Nat.le_refl _) _))).mono ?_
  rintro r w6 ⟨rfl, hb6⟩
  replace hB := (hB.al _).keep hb6
  have hC := (Box.new w5 xo xn xs 23).keep hb6
  have hbw6 : Below w.heap.size w w6 := (hbw5.alloc hbw5.size _).trans (hb6.mono (by have := hbw5.size; simp; omega))
  clear hb6 hbw5 hT5 a0 a1 a2 a3 a4 a5 hA
  obtain ⟨⟨b0, b1, b2⟩, b3, b4, b5⟩ := hB.facts
  obtain ⟨⟨c0, c1, c2⟩, c3, c4, c5⟩ := hC.facts
  go_wp2_with fail
  refine (text_bad e2 ⟨#[]⟩ w6 he2).mono ?_
  rintro r w7 ⟨rfl, rfl⟩
  go_wp2
  go_ret
  exact ⟨rfl, hbw6⟩

theorem wt_text (so n : Int) (s : ByteArray) (h0 : -9223372036854775808 ≤ n) (h1 : n ≤ 9223372036854775807) (h : chkZ vD so n s = 0) : VTS so n s (bs (wtL so n s)) := by
  intro W
  rcases chk_sorts vD so n s h with rfl | rfl | rfl
  · exact vtInt_any n s W h0 h1
  · refine vtBool_any n s W ?_
    have h2 : argZ (s.toList.isEmpty && (n == 0 || n == 1)) = 0 := h
    cases hb : (s.toList.isEmpty && (n == 0 || n == 1)) with
    | false => rw [hb] at h2; exact absurd h2 (by decide)
    | true => simp at hb; exact hb.2
  · exact vtText_any n s W ((text_zero vD n s).1 h).2.1

theorem says_any (so n : Int) (s z : ByteArray) (w : World) (hs : s.size ≤ 9223372036854775807) (h0 : -9223372036854775808 ≤ n) (h1 : n ≤ 9223372036854775807) (hzs : z.size ≤ 1048576) (hT : Env w) :
    Calls Tryd.prog 3 #[.agg #[.int .i64 so, .int .i64 n, .string s], .string z] w fun e w' => e = .returned (.bool true) ∧ Below w.heap.size w w' := by
  have r10 := rs_any z (by omega)
  have r11 : VFS z (rdZ z.data.toList).1 (rdZ z.data.toList).2.1 (bs (rdZ z.data.toList).2.2.1) (rdZ z.data.toList).2.2.2 := by
    intro W hW
    have := refRead_any z W hzs hW.tabs
    rw [← rd_rf] at this
    exact this
  have r7 : VKS 7 so n s (chkZ vD so n s) := fun W hW => refValue_any so n s W hW.tabs
  have r12 : VKS 12 so n s (chkZ vD so n s) := fun W hW => check_any vD Env env_v env_keep so n s W hs hW
  by_cases hc : chkZ vD so n s = 0
  · rw [hc] at r7 r12
    exact says_good so n _ _ _ s z _ _ w hT r7 (ws_good so n s hs h0 h1 hc) (wt_text so n s h0 h1 hc) r10 r11 r12
  · exact says_bad so n _ _ _ _ s z _ w hT hc r7 (fun W hW => write_bad Env env_v env_keep so n s W hs hW hc) r10 r11 r12
end Go.Proofs.YtbhgcfoplpjfjaaDoor
