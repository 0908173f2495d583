/-
  ExprsBrackets: what it calls besides, the plain facts, and the walk through the law.
-/
import Derived.Test.YtipolobikigmbaaGreatDoorGx
import Derived.Test.YtipolobikigmbaaGreatDoorGh
import Derived.Test.YtipolobikigmbaaGreatDoorLie
namespace Go.Proofs.YtipolobikigmbaaGreatDoor
open Go.RowKit Go.Shelf Go.Joins
theorem extra105 : Builder.Extra Tryz.prog Tryz.lays105_ren := {
  sizeBuilder := by kernel_rfl
  liesBuilder := by kernel_rfl
  t5 := Tryz.underlying5
  a5 := Tryz.isAgg5
  z5 := Tryz.sizeOf5
  v5 := Tryz.zeroValue5
  infoByte := by kernel_rfl
  cellsByte := by kernel_rfl
  sizeByte := by kernel_rfl
  neB5 := by decide }
theorem repB (c : UInt8) (k : Nat) : Lib.repeatL [c] k = List.replicate k c := by
  induction k with
  | zero => rfl
  | succ k ih => rw [Lib.repeatL, ih]; rfl
theorem repeatB_any (c : UInt8) (k : Nat) (w : World) (hk : k ≤ 4) :
    Calls Tryz.prog 14 #[.string ⟨#[c]⟩, .int .i64 (k : Int)] w fun e w' => e = .returned (.string (bs (List.replicate k c))) ∧ Below w.heap.size w w' := by
  have cc := Any.strings_Repeat Tryz.lays105 extra105 ⟨#[c]⟩ k w (by omega) (by show 1 * k ≤ _; omega)
  refine cc.mono fun e w' ⟨h1, h2⟩ => ⟨?_, h2⟩
  rw [h1]
  show Ending.returned (Value.string ⟨(Lib.repeatL [c] k).toArray⟩) = _
  rw [repB]
  rfl
/-- which of five things a number speaks of -/
def pk5 (n : Int) : Nat := (if n < 0 then -(n + 1) else n).toNat % 5
set_option maxHeartbeats 400000 in
theorem pick5_any (n : Int) (w : World) (h0 : -9223372036854775808 ≤ n) (h1 : n ≤ 9223372036854775807) :
    Calls Tryz.prog 13 #[.int .i64 n, .int .i64 5] w fun e w' => e = .returned (.int .i64 (pk5 n : Int)) ∧ w' = w := by
  by_cases hn : n < 0
  · have ew : IntKind.i64.wrap (n + 1) = n + 1 := by unfold IntKind.wrap; simp [IntKind.bits, IntKind.signed]; omega
    have en : IntKind.i64.wrap (-(n + 1)) = -(n + 1) := by unfold IntKind.wrap; simp [IntKind.bits, IntKind.signed]; omega
    have er : -((n + 1).tmod 5) = (pk5 n : Int) := by
      unfold pk5
      rw [if_pos hn, ← Int.neg_tmod, Int.tmod_eq_emod_of_nonneg (by omega)]
      omega
    generalize pk5 n = K at er ⊢
    have HR := hideK er
    clear er
    go_enter Tryz.func13, Tryz.ntmps13
    go_wp2_with fail
    go_ret
    exact ⟨by rw [← HR.out]; rfl, rfl⟩
  · have er : n % 5 = (pk5 n : Int) := by
      unfold pk5
      rw [if_neg hn]
      omega
    generalize pk5 n = K at er ⊢
    have HR := hideK er
    clear er
    go_enter Tryz.func13, Tryz.ntmps13
    go_wp2_with fail
    go_ret
    exact ⟨by rw [← HR.out]; rfl, rfl⟩
theorem pk5_lt (n : Int) : pk5 n < 5 := Nat.mod_lt _ (by omega)
theorem bsX_cat (a b : List UInt8) : bs a ++ bs b = bs (a ++ b) := by
  apply ByteArray.ext
  apply Array.toList_inj.1
  simp [bs]
/-- what stands in brackets -/
def inBr (k : Nat) (l : List UInt8) : List UInt8 := List.replicate k 40 ++ (32 :: (l ++ 32 :: List.replicate k 41))
theorem inBr_len (k : Nat) (l : List UInt8) : (inBr k l).length = l.length + 2 * k + 2 := by unfold inBr; simp; omega
theorem inBr_cat (k : Nat) (s : ByteArray) : bs (List.replicate k 40) ++ ⟨#[32]⟩ ++ s ++ ⟨#[32]⟩ ++ bs (List.replicate k 41) = bs (inBr k s.data.toList) := by
  apply ByteArray.ext
  apply Array.toList_inj.1
  simp [bs, inBr]
theorem psX_br (k : Nat) (L : List UInt8) (x : Ex) (h : psX L = .ok x) (hl : (inBr k L).length ≤ 2000) : psX (inBr k L) = .ok x := by
  obtain ⟨h1, h2, h3⟩ := psX_ok L x h
  have hb := rdX_brackets rdZ rdZ_mark (2 * L.length + 3) L x k h2
  have e := inBr_len k L
  refine psX_of _ x hl ?_ h3
  exact rdX_more rdZ _ _ _ _ hb _ (by omega)
/-- the name x -/
def nmX : Ex := ⟨2, ⟨#[120]⟩, 0, 0, ⟨#[]⟩, []⟩
theorem nmX_wf : wfX nmX := by
  rw [wfX_eq]
  exact ⟨by decide, by intro h; exact absurd h (by decide), by intro k hk; cases hk⟩
theorem nmX_chk : chkX nmX = 0 := (chkX_iff nmX).2 ⟨nmX_wf, by rw [sizeX_eq]; simp [nmX]⟩
theorem rd_x : rdX rdZ 4 (some 1) (skB [120, 41, 41]) = .ok (nmX, [41, 41]) := by rfl
theorem psX_x : psX [40, 40, 120, 41, 41] = .ok nmX := by
  refine psX_of _ _ (by decide) ?_ nmX_chk
  have h := rdX_brs rdZ 4 [120, 41, 41] nmX 2 0 rd_x
  exact rdX_more rdZ _ _ _ _ h _ (by decide)
set_option maxRecDepth 100000 in
set_option maxHeartbeats 2000000 in
theorem exprsBrackets_law (s : ByteArray) (n : Int) (w : World) (h0 : -9223372036854775808 ≤ n) (h1 : n ≤ 9223372036854775807) (hE : EnvX w) :
    Calls Tryz.prog 5 #[.string s, .int .i64 n] w fun e w' => e = .returned (.bool true) ∧ Below w.heap.size w w' := by
  have H := env_tk hE
  have hT0 : AT w w := Below.refl _ _
  have cX := parseX_ok H ⟨#[40, 40, 120, 41, 41]⟩ nmX psX_x w hT0
  simp only [nmX, List.length_nil] at cX
  cases hS : psX s.data.toList with
  | error y =>
    obtain ⟨c, a⟩ := y
    have hc : (c != 0) = true := by simpa using psX_code _ _ _ hS
    have cE := hideK (fun W hT => parseX_err H s c a hS W hT)
    clear H hE hS
    go_enter Tryz.func5, Tryz.ntmps5
    go_wp2_with fail
    refine cX.mono ?_
    rintro e w1 ⟨⟨d0, ao0, cap0, rfl, _⟩, hb1⟩
    have A1 : AT w ((w1.alloc (.cells #[.int .i64 2, .string ⟨#[120]⟩, .int .i64 0, .int .i64 0, .string ⟨#[]⟩, .slice ao0 0 cap0] 39)).alloc (.cells #[.int .i64 0, .int .i64 0] 30)) := (Below.alloc hb1 hb1.size _).alloc (by have := hb1.size; simp; omega) _
    go_wp2_with fail
    refine (cE.out _ A1).mono ?_
    rintro e w2 ⟨rfl, hb2⟩
    go_wp2_with fail
    go_ret
    exact ⟨rfl, ((at_k _ _ A1 hb2 : AT w w2).alloc (at_k _ _ A1 hb2 : AT w w2).size _).alloc (by have := (at_k _ _ A1 hb2 : AT w w2).size; simp; omega) _⟩
  | ok x =>
    have cE := hideK (fun W hT => parseX_ok H s x hS W hT)
    have hk := pk5_lt n
    have cK := hideK (fun W => pick5_any n W h0 h1)
    have cL := hideK (fun W => repeatB_any 40 (pk5 n) W (by omega))
    have cR := hideK (fun W => repeatB_any 41 (pk5 n) W (by omega))
    have hs2 : s.size ≤ 2000 := by have := (psX_ok _ _ hS).1; simpa using this
    have hl1 : (bs (List.replicate (pk5 n) (40 : UInt8))).size ≤ 4 := by rw [bs_size]; simp; omega
    have hl2 : (bs (List.replicate (pk5 n) (41 : UInt8))).size ≤ 4 := by rw [bs_size]; simp; omega
    have hcat := hideK (inBr_cat (pk5 n) s)
    have hkz : ((pk5 n : Nat) : Int) ≤ 4 := by omega
    have htl : (bs (inBr (pk5 n) s.data.toList)).data.toList = inBr (pk5 n) s.data.toList := bs_list _
    have htz : (bs (inBr (pk5 n) s.data.toList)).size = (inBr (pk5 n) s.data.toList).length := bs_size _
    have hp2 := hideK (psX_large (inBr (pk5 n) s.data.toList))
    have hp0 := hideK (psX_br (pk5 n) s.data.toList x hS)
    clear hE hS hk
    generalize inBr (pk5 n) s.data.toList = t at *
    have cPl := hideK (fun (W : World) (hT : AT w W) (hl : 2000 < t.length) => parseX_err H (bs t) 2 0 (by rw [htl]; exact hp2.out hl) W hT)
    have cPs := hideK (fun (W : World) (hT : AT w W) (hl : t.length ≤ 2000) => parseX_ok H (bs t) x (by rw [htl]; exact hp0.out hl) W hT)
    rw [← htz] at cPl cPs
    generalize bs t = tb at *
    clear htl htz hp2 hp0 H
    generalize bs (List.replicate (pk5 n) (40 : UInt8)) = lb at *
    generalize bs (List.replicate (pk5 n) (41 : UInt8)) = rb at *
    generalize pk5 n = k at *
    have HC := hideK hcat.out.symm
    by_cases hl : 2000 < tb.size
    · have cP := hideK (fun W hT => cPl.out W hT hl)
      go_enter Tryz.func5, Tryz.ntmps5
      go_wp2_with fail
      refine cX.mono ?_
      rintro e w1 ⟨⟨d0, ao0, cap0, rfl, _⟩, hb1⟩
      have A1 : AT w ((w1.alloc (.cells #[.int .i64 2, .string ⟨#[120]⟩, .int .i64 0, .int .i64 0, .string ⟨#[]⟩, .slice ao0 0 cap0] 39)).alloc (.cells #[.int .i64 0, .int .i64 0] 30)) := (Below.alloc hb1 hb1.size _).alloc (by have := hb1.size; simp; omega) _
      go_wp2_with fail
      refine (cE.out _ A1).mono ?_
      rintro e w2 ⟨⟨d, ao, cap, rfl, hg⟩, hb2⟩
      have A2 : AT w w2 := at_k _ _ A1 hb2
      have X3 := hideK ((ExAt.lit w2 x ao cap).keepB (W' := (w2.alloc (.cells #[.int .i64 x.kind, .string x.name, .int .i64 x.so, .int .i64 x.n, .string x.s, .slice ao x.kids.length cap] 39)).alloc (.cells #[.int .i64 0, .int .i64 0] 30)) ((Below.refl _ _).alloc (by simp) _) (by simp))
      have F3 : Hid (FBX ((w2.alloc (.cells #[.int .i64 x.kind, .string x.name, .int .i64 x.so, .int .i64 x.n, .string x.s, .slice ao x.kids.length cap] 39)).alloc (.cells #[.int .i64 0, .int .i64 0] 30)) (w2.heap.size + 1) 0 0) := ⟨by simp, by go_cell, by go_cell, by go_simp, by go_simp⟩
      have V3 : Below w2.heap.size w2 ((w2.alloc (.cells #[.int .i64 x.kind, .string x.name, .int .i64 x.so, .int .i64 x.n, .string x.s, .slice ao x.kids.length cap] 39)).alloc (.cells #[.int .i64 0, .int .i64 0] 30)) := ((Below.refl _ _).alloc (Nat.le_refl _) _).alloc (by simp) _
      have A3 : Hid (AT w ((w2.alloc (.cells #[.int .i64 x.kind, .string x.name, .int .i64 x.so, .int .i64 x.n, .string x.s, .slice ao x.kids.length cap] 39)).alloc (.cells #[.int .i64 0, .int .i64 0] 30))) := at_k _ _ A2 V3
      have HG := hideK hg
      have HV3 := hideK V3
      clear hg hb1 A1 V3
      go_wp2_with fail
      refine (cK.out _).mono ?_
      rintro e w4 ⟨rfl, hw4⟩
      subst hw4
      go_wp2_with fail
      refine (cL.out _).mono ?_
      rintro e w5 ⟨rfl, hb5⟩
      go_wp2_with fail
      refine (cR.out _).mono ?_
      rintro e w6 ⟨rfl, hb6⟩
      have S6 := hb5.size
      have A6 := hideK (at_k _ _ (at_k _ _ A3.out hb5) hb6)
      have X6 := hideK ((X3.out.keepB hb5 (lt_of_cell X3.out.c0)).keepB hb6 (by have := lt_of_cell X3.out.c0; omega))
      have F6 := hideK ((F3.out.keep (FR.of (pb := 0) hb5) (by simp)).keep (FR.of (pb := 0) hb6) (by simp))
      have F6c := F6.out.c0
      go_wp2_with fail
      rw [hcat.out]
      refine (cP.out _ A6.out).mono ?_
      rintro e w7 ⟨rfl, hb7⟩
      have F7 := (F6.out.keep (FR.of (pb := 0) hb7) (by simp)).keep (FR.al (pb := 0) (.cells #[.int .i64 0, .string ⟨#[]⟩, .int .i64 0, .int .i64 0, .string ⟨#[]⟩, .slice none 0 0] 39)) (by simp)
      obtain ⟨fl, c0, c1, g0, g1⟩ := id F7
      have A7 : AT w (w7.alloc (.cells #[.int .i64 0, .string ⟨#[]⟩, .int .i64 0, .int .i64 0, .string ⟨#[]⟩, .slice none 0 0] 39)) := at_k _ _ (at_k _ _ A6.out hb7) ((Below.refl _ _).alloc (Nat.le_refl _) _)
      have hlz : (tb.size : Int) > 2000 := by omega
      have B9 := hideK (below_st2X A7 (w2.heap.size + 1) 2 0 (by have := A2.size; omega))
      clear F6c F7
      go_wp2_with fail
      go_ret
      exact ⟨rfl, B9.out⟩
    · have cP := hideK (fun W hT => cPs.out W hT (by omega))
      go_enter Tryz.func5, Tryz.ntmps5
      go_wp2_with fail
      refine cX.mono ?_
      rintro e w1 ⟨⟨d0, ao0, cap0, rfl, _⟩, hb1⟩
      have A1 : AT w ((w1.alloc (.cells #[.int .i64 2, .string ⟨#[120]⟩, .int .i64 0, .int .i64 0, .string ⟨#[]⟩, .slice ao0 0 cap0] 39)).alloc (.cells #[.int .i64 0, .int .i64 0] 30)) := (Below.alloc hb1 hb1.size _).alloc (by have := hb1.size; simp; omega) _
      go_wp2_with fail
      refine (cE.out _ A1).mono ?_
      rintro e w2 ⟨⟨d, ao, cap, rfl, hg⟩, hb2⟩
      have A2 : AT w w2 := at_k _ _ A1 hb2
      have X3 := hideK ((ExAt.lit w2 x ao cap).keepB (W' := (w2.alloc (.cells #[.int .i64 x.kind, .string x.name, .int .i64 x.so, .int .i64 x.n, .string x.s, .slice ao x.kids.length cap] 39)).alloc (.cells #[.int .i64 0, .int .i64 0] 30)) ((Below.refl _ _).alloc (by simp) _) (by simp))
      have F3 : Hid (FBX ((w2.alloc (.cells #[.int .i64 x.kind, .string x.name, .int .i64 x.so, .int .i64 x.n, .string x.s, .slice ao x.kids.length cap] 39)).alloc (.cells #[.int .i64 0, .int .i64 0] 30)) (w2.heap.size + 1) 0 0) := ⟨by simp, by go_cell, by go_cell, by go_simp, by go_simp⟩
      have V3 : Below w2.heap.size w2 ((w2.alloc (.cells #[.int .i64 x.kind, .string x.name, .int .i64 x.so, .int .i64 x.n, .string x.s, .slice ao x.kids.length cap] 39)).alloc (.cells #[.int .i64 0, .int .i64 0] 30)) := ((Below.refl _ _).alloc (Nat.le_refl _) _).alloc (by simp) _
      have A3 : Hid (AT w ((w2.alloc (.cells #[.int .i64 x.kind, .string x.name, .int .i64 x.so, .int .i64 x.n, .string x.s, .slice ao x.kids.length cap] 39)).alloc (.cells #[.int .i64 0, .int .i64 0] 30))) := at_k _ _ A2 V3
      have HG := hideK hg
      have HV3 := hideK V3
      clear hg hb1 A1 V3
      go_wp2_with fail
      refine (cK.out _).mono ?_
      rintro e w4 ⟨rfl, hw4⟩
      subst hw4
      go_wp2_with fail
      refine (cL.out _).mono ?_
      rintro e w5 ⟨rfl, hb5⟩
      go_wp2_with fail
      refine (cR.out _).mono ?_
      rintro e w6 ⟨rfl, hb6⟩
      have S6 := hb5.size
      have A6 := hideK (at_k _ _ (at_k _ _ A3.out hb5) hb6)
      have X6 := hideK ((X3.out.keepB hb5 (lt_of_cell X3.out.c0)).keepB hb6 (by have := lt_of_cell X3.out.c0; omega))
      have F6 := hideK ((F3.out.keep (FR.of (pb := 0) hb5) (by simp)).keep (FR.of (pb := 0) hb6) (by simp))
      have F6c := F6.out.c0
      go_wp2_with fail
      rw [hcat.out]
      refine (cP.out _ A6.out).mono ?_
      rintro e w7 ⟨⟨d2, ao2, cap2, rfl, hg2⟩, hb7⟩
      have V8 : Below w7.heap.size w7 (w7.alloc (.cells #[.int .i64 x.kind, .string x.name, .int .i64 x.so, .int .i64 x.n, .string x.s, .slice ao2 x.kids.length cap2] 39)) := (Below.refl _ _).alloc (Nat.le_refl _) _
      have F7 := (F6.out.keep (FR.of (pb := 0) hb7) (by simp)).keep (FR.al (pb := 0) (.cells #[.int .i64 x.kind, .string x.name, .int .i64 x.so, .int .i64 x.n, .string x.s, .slice ao2 x.kids.length cap2] 39)) (by simp)
      obtain ⟨fl, c0, c1, g0, g1⟩ := id F7
      have A7 : AT w (w7.alloc (.cells #[.int .i64 x.kind, .string x.name, .int .i64 x.so, .int .i64 x.n, .string x.s, .slice ao2 x.kids.length cap2] 39)) := at_k _ _ (at_k _ _ A6.out hb7) V8
      have hlz : ¬ (tb.size : Int) > 2000 := by omega
      have X7 := (X6.out.keepB hb7 (by have := lt_of_cell X6.out.c0; exact this)).keepB V8 (lt_of_cell (X6.out.keepB hb7 (lt_of_cell X6.out.c0)).c0)
      have Y7 := ExAt.lit w7 x ao2 cap2
      have B9 := below_st2X A7 (w2.heap.size + 1) 0 0 (by have := A2.size; omega)
      have hl7 : w2.heap.size + 1 < w7.heap.size := by have := F6.out.lt; have := hb7.size; omega
      have V9 : Below w2.heap.size w2 (w7.alloc (.cells #[.int .i64 x.kind, .string x.name, .int .i64 x.so, .int .i64 x.n, .string x.s, .slice ao2 x.kids.length cap2] 39)) := (((HV3.out.trans (hb5.mono (by simp; omega))).trans (hb6.mono (by simp at S6; omega))).trans (hb7.mono (by have := hb6.size; simp at S6; omega))).trans (V8.mono (by have := hb6.size; have := hb7.size; simp at S6; omega))
      have V10 := below_st2X V9 (w2.heap.size + 1) 0 0 (by omega)
      have KX := (HG.out.toKA.keep V10).mono V10.size
      have KY : KA (st2X (w7.alloc (.cells #[.int .i64 x.kind, .string x.name, .int .i64 x.so, .int .i64 x.n, .string x.s, .slice ao2 x.kids.length cap2] 39)) (w2.heap.size + 1) 0 0) (st2X (w7.alloc (.cells #[.int .i64 x.kind, .string x.name, .int .i64 x.so, .int .i64 x.n, .string x.s, .slice ao2 x.kids.length cap2] 39)) (w2.heap.size + 1) 0 0).heap.size d2 x.kids ao2 := by
        have h6 : w2.heap.size + 2 ≤ w6.heap.size := F6.out.lt
        refine (hg2.ka.keep (W' := st2X (w7.alloc (.cells #[.int .i64 x.kind, .string x.name, .int .i64 x.so, .int .i64 x.n, .string x.s, .slice ao2 x.kids.length cap2] 39)) (w2.heap.size + 1) 0 0) (Q := fun b => b < w7.heap.size) (fun b o hb => ?_) (fun b hb => hb.2)).toKA (fun b hb => ?_)
        · have := hb.1
          exact (st2X_other _ _ _ _ _ _ (by omega)).trans (V8.cell (p := ⟨b, o, none⟩) hb.2)
        · rw [st2X_size]; simp; omega
      have cS := hideK (sameX x d d2 ao ao2 cap cap2 _ _ HG.out.bd hg2.bd KX KY (Nat.le_refl _))
      obtain ⟨x0, x1, x2, x3, x4, x5⟩ := X7
      simp only [Nat.zero_add] at x0 x1 x2 x3 x4 x5
      obtain ⟨y0, y1, y2, y3, y4, y5⟩ := Y7
      simp only [Nat.zero_add] at y0 y1 y2 y3 y4 y5
      have n1 : ¬ w2.heap.size + 1 = w7.heap.size := by omega
      have n2 : ¬ w7.heap.size = w2.heap.size + 1 := by omega
      have HB9 := hideK B9
      clear V9 V10 KX KY B9 F7 hg2 F6c V8 A7 hl7
      simp only [st2X] at cS HB9
      go_wp2_with fail
      refine cS.out.mono ?_
      rintro e w9 ⟨rfl, hb9⟩
      go_wp2_with fail
      go_ret
      exact ⟨rfl, at_k _ _ HB9.out hb9⟩
end Go.Proofs.YtipolobikigmbaaGreatDoor
