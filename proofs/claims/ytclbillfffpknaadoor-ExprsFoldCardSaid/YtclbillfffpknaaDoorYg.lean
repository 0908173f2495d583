/-
  The law ExprsFold, for every expression and every list of names.
-/
import Derived.Test.YtclbillfffpknaaDoorYe
import Derived.Test.YtclbillfffpknaaDoorYf
import Derived.Test.YtclbillfffpknaaDoorXv
import Derived.Test.YtclbillfffpknaaDoorLt
namespace Go.Proofs.YtclbillfffpknaaDoor
open Go.RowKit Go.Shelf

def neg7 : Ex := ⟨3, ⟨#[110, 101, 103]⟩, 0, 0, ⟨#[]⟩, [⟨1, ⟨#[]⟩, 1, 7, ⟨#[]⟩, []⟩]⟩
theorem chk_neg7 : chkX neg7 = 0 := by
  refine (chkX_iff _).2 ⟨?_, ?_⟩
  · refine wf_op _ _ ?_ ?_
    · intro k hk
      simp only [List.mem_singleton] at hk
      subst hk
      exact wf_lit ⟨1, 7, ⟨#[]⟩⟩ (good_num 7)
    · decide
  · rw [sizeX_eq]; simp [neg7, sizeX_eq]
theorem fold_neg7 : foldX neg7 = ⟨1, ⟨#[]⟩, 1, -7, ⟨#[]⟩, []⟩ := by
  have h1 : foldX ⟨1, ⟨#[]⟩, 1, 7, ⟨#[]⟩, []⟩ = ⟨1, ⟨#[]⟩, 1, 7, ⟨#[]⟩, []⟩ := by
    rw [foldX_eq]; exact foldN_same1 _ (by decide)
  rw [foldX_eq]
  simp only [neg7, List.map_cons, List.map_nil, h1]
  have hs : sortX E0 neg7 = (1, 0) := by
    rw [sort_one _ neg7 _ rfl rfl, sort_lit _ _ rfl]
    decide
  have hv : valX F0 neg7 = ⟨1, -7, ⟨#[]⟩⟩ := by
    rw [val_one _ neg7 _ rfl rfl, val_lit _ _ rfl]
    have : w64 (-7) = -7 := by unfold w64 wrap64; omega
    simp [oneV, neg7, numV, this]
  have := foldN_new neg7 rfl rfl (by rw [hs])
  unfold neg7 at this hv
  rw [this, hv]; rfl
theorem neg7_ka (W : World) : KA (W.alloc (.cells #[.int .i64 1, .string ⟨#[]⟩, .int .i64 1, .int .i64 7, .string ⟨#[]⟩, .slice none 0 0] 26)) (W.heap.size + 1) 1 neg7.kids (some ⟨W.heap.size, 0, none⟩) := by
  refine .inr ⟨W.heap.size, 0, rfl, by omega, fun i hi => ?_⟩
  have hi' : i = 0 := by simp only [neg7, List.length_cons, List.length_nil] at hi; omega
  subst hi'
  have hx : ExAt (W.alloc (.cells #[.int .i64 1, .string ⟨#[]⟩, .int .i64 1, .int .i64 7, .string ⟨#[]⟩, .slice none 0 0] 26)) W.heap.size 0 ⟨1, ⟨#[]⟩, 1, 7, ⟨#[]⟩, []⟩ none 0 := ⟨by go_cell, by go_cell, by go_cell, by go_cell, by go_cell, by go_cell⟩
  have hb : ExBd ⟨1, ⟨#[]⟩, 1, 7, ⟨#[]⟩, []⟩ 0 := ⟨by decide, by decide, by decide, by decide, by simp, by decide⟩
  exact ⟨none, 0, hx, hb, rfl⟩
theorem fold_eval (x : Ex) (bs : List (ByteArray × Vl)) (h : (evlR x bs).2 = 0) : evlR (foldX x) bs = evlR x bs := by
  have hc : chkX x = 0 := by
    unfold evlR at h
    by_cases hc : chkX x = 0
    · exact hc
    · rw [if_pos hc] at h; exact absurd h hc
  have hc2 := fold_chk x hc
  have hb : badL bs = 0 := by
    unfold evlR at h
    rw [if_neg (by simpa using hc)] at h
    by_cases hb : badL bs = 0
    · exact hb
    · rw [if_pos hb] at h; exact absurd h hb
  have hs : (sortX (lookS (bs.map (·.1)) (bs.map (·.2.so))) x).2 = 0 := by
    unfold evlR at h
    rw [if_neg (by simpa using hc), if_neg (by simpa using hb)] at h
    by_cases hs : (sortX (lookS (bs.map (·.1)) (bs.map (·.2.so))) x).2 = 0
    · exact hs
    · rw [if_pos hs] at h; exact absurd h hs
  obtain ⟨g1, g2⟩ := fold_same (lookS (bs.map (·.1)) (bs.map (·.2.so))) (lookV bs) x (chk_wf x 0 hc) _ (Prod.ext rfl hs)
  unfold evlR
  rw [if_neg (by simpa using hc2), if_neg (by simpa using hb), if_neg (by rw [g1]; simp), if_neg (by simpa using hc), if_neg (by simpa using hb), if_neg (by simpa using hs), g2]
set_option maxRecDepth 100000 in
set_option maxHeartbeats 4000000 in
theorem foldLaw_any (d : Nat) (x : Ex) (ao : Option Addr) (cap : Nat) (bs : List (ByteArray × Vl)) (ae : Option Addr) (ce : Nat) (w : World) (hbd : ExBd x cap) (hka : KA w w.heap.size d x.kids ao) (henv : EnvAt w w.heap.size bs ae) (hlen : bs.length ≤ 2932031007402) (hss : ∀ p ∈ bs, p.2.s.size ≤ 9223372036854775807) (h0 : Tabs w) :
    Calls Tryd.prog 4 #[exVal x ao cap, .slice ae bs.length ce] w fun e w' => e = .returned (.bool true) ∧ Below w.heap.size w w' := by
  have hv := at_v h0
  have hE0 : ExAt ((w.alloc (.cells #[.int .i64 x.kind, .string x.name, .int .i64 x.so, .int .i64 x.n, .string x.s, .slice ao x.kids.length cap] 26)).alloc (.cells #[.int .i64 1, .string ⟨#[]⟩, .int .i64 1, .int .i64 7, .string ⟨#[]⟩, .slice none 0 0] 26)) w.heap.size 0 x ao cap := ⟨by go_cell, by go_cell, by go_cell, by go_cell, by go_cell, by go_cell⟩
  have hT0 : AT w ((w.alloc (.cells #[.int .i64 x.kind, .string x.name, .int .i64 x.so, .int .i64 x.n, .string x.s, .slice ao x.kids.length cap] 26)).alloc (.cells #[.int .i64 1, .string ⟨#[]⟩, .int .i64 1, .int .i64 7, .string ⟨#[]⟩, .slice none 0 0] 26)) := ((Below.refl _ _).alloc (Nat.le_refl _) _).alloc (by simp) _
  have hN : KA ((w.alloc (.cells #[.int .i64 x.kind, .string x.name, .int .i64 x.so, .int .i64 x.n, .string x.s, .slice ao x.kids.length cap] 26)).alloc (.cells #[.int .i64 1, .string ⟨#[]⟩, .int .i64 1, .int .i64 7, .string ⟨#[]⟩, .slice none 0 0] 26)) ((w.alloc (.cells #[.int .i64 x.kind, .string x.name, .int .i64 x.so, .int .i64 x.n, .string x.s, .slice ao x.kids.length cap] 26)).alloc (.cells #[.int .i64 1, .string ⟨#[]⟩, .int .i64 1, .int .i64 7, .string ⟨#[]⟩, .slice none 0 0] 26)).heap.size 1 neg7.kids (some ⟨w.heap.size + 1, 0, none⟩) := by
    have := neg7_ka (w.alloc (.cells #[.int .i64 x.kind, .string x.name, .int .i64 x.so, .int .i64 x.n, .string x.s, .slice ao x.kids.length cap] 26))
    rw [World.size_alloc] at this
    simpa using this
  have c7 := fold_good (AT w) w.heap.size hv at_k at_k2 at_0 cSaid 1 neg7 (some ⟨w.heap.size + 1, 0, none⟩) 1 ((w.alloc (.cells #[.int .i64 x.kind, .string x.name, .int .i64 x.so, .int .i64 x.n, .string x.s, .slice ao x.kids.length cap] 26)).alloc (.cells #[.int .i64 1, .string ⟨#[]⟩, .int .i64 1, .int .i64 7, .string ⟨#[]⟩, .slice none 0 0] 26)) ⟨by decide, by decide, by decide, by decide, by decide, by decide⟩ hN hT0 chk_neg7
  rw [fold_neg7] at c7
  have cF := fun (W : World) (hT : AT w W) (hz : chkX x = 0) => fold_good (AT w) w.heap.size hv at_k at_k2 at_0 cSaid d x ao cap W hbd ((hka.keep hT).mono hT.size) hT hz
  have cG := fun (W : World) (hT : AT w W) (hz : chkX x ≠ 0) => fold_bad (AT w) w.heap.size hv at_k at_k2 at_0 d x ao cap W hbd ((hka.keep hT).mono hT.size) hT hz
  have cY := fun (W : World) (hT : AT w W) (ao2 : Option Addr) (cap2 : Nat) (hb2 : ExBd (foldX x) cap2) (hk2 : KA W W.heap.size d (foldX x).kids ao2) (hz : chkX x = 0) => fold_good (AT w) w.heap.size hv at_k at_k2 at_0 cSaid d (foldX x) ao2 cap2 W hb2 hk2 hT (fold_chk x hz)
  simp only [fold_twice] at cY
  have cE := fun (W : World) (hT : AT w W) => eval_any (AT w) w.heap.size hv at_k at_k2 at_0 cSaid d x ao cap bs ae ce W hbd ((hka.keep hT).mono hT.size) ((henv.keep hT).mono hT.size) hlen hss hT
  have cEy := fun (W : World) (hT : AT w W) (ao2 : Option Addr) (cap2 : Nat) (hb2 : ExBd (foldX x) cap2) (hk2 : KA W W.heap.size d (foldX x).kids ao2) => eval_any (AT w) w.heap.size hv at_k at_k2 at_0 cSaid d (foldX x) ao2 cap2 bs ae ce W hb2 hk2 ((henv.keep hT).mono hT.size) hlen hss hT
  have hp := fold_eval x bs
  generalize evlR x bs = r at cE hp
  generalize evlR (foldX x) bs = r' at cEy hp
  generalize foldX x = y at *
  obtain ⟨⟨v0, v1, v2⟩, e1⟩ := r
  obtain ⟨⟨v0', v1', v2'⟩, e2⟩ := r'
  simp only [exVal, vlV] at c7 cF cG cY cE cEy ⊢
  have CF := Hid.mk' cF
  have CG := Hid.mk' cG
  have CY := Hid.mk' cY
  have CE := Hid.mk' cE
  have CEY := Hid.mk' cEy
  have HP := Hid.mk' hp
  clear cF cG cY cE cEy hp hv hka henv hss hbd hN
  have e7 : neg7.name = ⟨#[110, 101, 103]⟩ := rfl
  simp only [neg7, List.length_cons, List.length_nil, Nat.zero_add] at c7
  go_enter Tryd.func4, Tryd.ntmps4
  go_wp2_with fail
  refine c7.mono ?_
  rintro e w1 ⟨⟨ao1, cap1, rfl, _, _⟩, hb1⟩
  have hT1 := at_k _ _ hT0 hb1
  have hE1 := hE0.keep hb1 (by simp; omega)
  obtain ⟨y0, y1, y2, y3, y4, y5⟩ := id hE1
  simp only [Nat.zero_add] at y0 y1 y2 y3 y4 y5
  have hs1 : w.heap.size < w1.heap.size := by have := hb1.size; simp at this; omega
  clear c7 hT0 hE0 e7
  go_wp2_with fail
  have hA1 : Below w1.heap.size w1 (w1.alloc (.cells #[.int .i64 1, .string ⟨#[]⟩, .int .i64 1, .int .i64 (-7), .string ⟨#[]⟩, .slice ao1 0 cap1] 26)) := (Below.refl _ _).alloc (Nat.le_refl _) _
  have hT2 := at_k _ _ hT1 hA1
  have hE2 := hE1.keep hA1 hs1
  have hs2 : w.heap.size < (w1.alloc (.cells #[.int .i64 1, .string ⟨#[]⟩, .int .i64 1, .int .i64 (-7), .string ⟨#[]⟩, .slice ao1 0 cap1] 26)).heap.size := Nat.lt_of_lt_of_le hs1 hA1.size
  clear hT1 hE1 y0 y1 y2 y3 y4 y5
  generalize w1.alloc (.cells #[.int .i64 1, .string ⟨#[]⟩, .int .i64 1, .int .i64 (-7), .string ⟨#[]⟩, .slice ao1 0 cap1] 26) = V2 at *
  by_cases hz : chkX x = 0
  · clear CG
    refine (CF.out _ hT2 hz).mono ?_
    rintro e w2 ⟨⟨ao2, cap2, rfl, hk2, hbd2⟩, hb2⟩
    have hT3 := at_k _ _ hT2 hb2
    have hE3 := hE2.keep hb2 hs2
    have hs3 : w.heap.size < w2.heap.size := Nat.lt_of_lt_of_le hs2 hb2.size
    have hA2 : Below w2.heap.size w2 (w2.alloc (.cells #[.int .i64 y.kind, .string y.name, .int .i64 y.so, .int .i64 y.n, .string y.s, .slice ao2 y.kids.length cap2] 26)) := (Below.refl _ _).alloc (Nat.le_refl _) _
    have hT4 := at_k _ _ hT3 hA2
    have hE4 := hE3.keep hA2 hs3
    have hY4 : ExAt (w2.alloc (.cells #[.int .i64 y.kind, .string y.name, .int .i64 y.so, .int .i64 y.n, .string y.s, .slice ao2 y.kids.length cap2] 26)) w2.heap.size 0 y ao2 cap2 := ⟨by go_cell, by go_cell, by go_cell, by go_cell, by go_cell, by go_cell⟩
    have hK4 := (hk2.keep hA2).mono hA2.size
    have C4 := CY.out _ hT4 ao2 cap2 hbd2 hK4 hz
    have hs4 : w2.heap.size < (w2.alloc (.cells #[.int .i64 y.kind, .string y.name, .int .i64 y.so, .int .i64 y.n, .string y.s, .slice ao2 y.kids.length cap2] 26)).heap.size := by simp
    clear hT2 hE2 hT3 hE3 CF CY hk2 hA1
    go_wp2_with fail
    generalize w2.alloc (.cells #[.int .i64 y.kind, .string y.name, .int .i64 y.so, .int .i64 y.n, .string y.s, .slice ao2 y.kids.length cap2] 26) = V4 at *
    refine C4.mono ?_
    rintro e w3 ⟨⟨ao3, cap3, rfl, hk3, hbd3⟩, hb3⟩
    have hT5 := at_k _ _ hT4 hb3
    have hE5 := hE4.keep hb3 (Nat.lt_trans hs3 hs4)
    have hY5 := hY4.keep hb3 hs4
    have hK5 := (hK4.keep hb3).mono hb3.size
    have hs5 : w2.heap.size < w3.heap.size := Nat.lt_of_lt_of_le hs4 hb3.size
    have hA3 : Below w3.heap.size w3 (w3.alloc (.cells #[.int .i64 y.kind, .string y.name, .int .i64 y.so, .int .i64 y.n, .string y.s, .slice ao3 y.kids.length cap3] 26)) := (Below.refl _ _).alloc (Nat.le_refl _) _
    have hT6 := at_k _ _ hT5 hA3
    have hE6 := hE5.keep hA3 (Nat.lt_trans hs3 hs5)
    have hY6 := hY5.keep hA3 hs5
    have hK6 := (hK5.keep hA3).mono hA3.size
    have hL6 := (hk3.keep hA3).mono hA3.size
    have hs6 : w2.heap.size < (w3.alloc (.cells #[.int .i64 y.kind, .string y.name, .int .i64 y.so, .int .i64 y.n, .string y.s, .slice ao3 y.kids.length cap3] 26)).heap.size := Nat.lt_of_lt_of_le hs5 hA3.size
    have cS := same_any d y ao2 ao3 cap2 cap3 _ _ hbd2 hbd3 hK6 hL6 (Nat.le_refl _)
    simp only [exVal] at cS
    obtain ⟨q0, q1, q2, q3, q4, q5⟩ := id hY5
    simp only [Nat.zero_add] at q0 q1 q2 q3 q4 q5
    clear hT4 hE4 hY4 hK4 C4 hT5 hE5 hk3
    go_wp2_with fail
    clear q0 q1 q2 q3 q4 q5 hY5
    generalize w3.alloc (.cells #[.int .i64 y.kind, .string y.name, .int .i64 y.so, .int .i64 y.n, .string y.s, .slice ao3 y.kids.length cap3] 26) = V6 at *
    refine cS.mono ?_
    rintro e w4 ⟨rfl, hb4⟩
    have hT7 := at_k _ _ hT6 hb4
    have hE7 := hE6.keep hb4 (Nat.lt_trans hs3 hs6)
    have hY7 := hY6.keep hb4 hs6
    have hK7 := (hK6.keep hb4).mono hb4.size
    have hs7 : w2.heap.size < w4.heap.size := Nat.lt_of_lt_of_le hs6 hb4.size
    have cE7 := CE.out _ hT7
    obtain ⟨y0, y1, y2, y3, y4, y5⟩ := id hE7
    simp only [Nat.zero_add] at y0 y1 y2 y3 y4 y5
    clear hT6 hE6 hY6 hK6 hL6 cS CE
    go_wp2_with fail
    refine cE7.mono ?_
    rintro e w5 ⟨rfl, hb5⟩
    have hA5 : Below w5.heap.size w5 (w5.alloc (.cells #[.int .i64 v0, .int .i64 v1, .string v2] 23)) := (Below.refl _ _).alloc (Nat.le_refl _) _
    have hT8 := at_k _ _ (at_k _ _ hT7 hb5) hA5
    have hs8 : w2.heap.size < w5.heap.size := Nat.lt_of_lt_of_le hs7 hb5.size
    have hY8 := (hY7.keep hb5 hs7).keep hA5 hs8
    have hK8 := (((hK7.keep hb5).mono hb5.size).keep hA5).mono hA5.size
    have cE8 := CEY.out _ hT8 ao2 cap2 hbd2 hK8
    obtain ⟨q0, q1, q2, q3, q4, q5⟩ := id (hY7.keep hb5 hs7)
    simp only [Nat.zero_add] at q0 q1 q2 q3 q4 q5
    clear y0 y1 y2 y3 y4 y5 hT7 hE7 hY7 hK7 cE7 CEY
    go_wp2_with fail
    refine cE8.mono ?_
    rintro e w6 ⟨rfl, hb6⟩
    have hT9 := at_k _ _ hT8 hb6
    have v0c : w6.cell? ⟨w5.heap.size, 0, none⟩ = some (.int .i64 v0) := (hb6.cell (p := ⟨w5.heap.size, 0, none⟩) (by simp)).trans (by go_cell)
    have v1c : w6.cell? ⟨w5.heap.size, 1, none⟩ = some (.int .i64 v1) := (hb6.cell (p := ⟨w5.heap.size, 1, none⟩) (by simp)).trans (by go_cell)
    have v2c : w6.cell? ⟨w5.heap.size, 2, none⟩ = some (.string v2) := (hb6.cell (p := ⟨w5.heap.size, 2, none⟩) (by simp)).trans (by go_cell)
    have hs9 : w5.heap.size < w6.heap.size := by have := hb6.size; simp at this; omega
    clear q0 q1 q2 q3 q4 q5 hT8 hY8 hK8 cE8
    by_cases he : e1 = 0
    · have h1 := HP.out he
      injection h1 with h1 h2
      injection h1 with h3 h4 h5
      subst he h2 h3 h4 h5
      clear HP
      go_wp2_with fail
      go_ret
      exact ⟨rfl, hT9.alloc hT9.size _⟩
    · have heb : (e1 != 0) = true := by simpa using he
      clear HP he
      go_wp2_with fail
      go_ret
      exact ⟨rfl, hT9.alloc hT9.size _⟩
  · have hG := CG.out _ hT2 hz
    generalize chkX x = c at *
    have hzb : (c != 0) = true := by simpa using hz
    clear CF CY
    refine hG.mono ?_
    rintro e w2 ⟨rfl, hb2⟩
    have hT3 := at_k _ _ hT2 hb2
    clear hG CG CE CEY HP
    go_wp2_with fail
    go_ret
    exact ⟨rfl, hT3.alloc hT3.size _⟩
end Go.Proofs.YtclbillfffpknaaDoor
