/-
  ExprsBack: the plain facts, and the walk through the law, for every expression and every text.
-/
import Derived.Test.YtipolobikigmbaaGreatDoorGx
import Derived.Test.YtipolobikigmbaaGreatDoorGh
import Derived.Test.YtipolobikigmbaaGreatDoorEb
namespace Go.Proofs.YtipolobikigmbaaGreatDoor
open Go.RowKit Go.Shelf Go.Joins
/-- the numbers of an expression that lies in memory are of 64 bits -/
theorem inL_of {W : World} {B : Nat} : ∀ (d : Nat) (x : Ex) (ao : Option Addr) (cap : Nat), ExBd x cap → KA W B d x.kids ao → inL x
  | 0, x, ao, cap, hb, hk => by
    rw [inL_eq]
    refine ⟨⟨hb.n0, hb.n1⟩, fun k hk' => ?_⟩
    have : x.kids = [] := hk
    rw [this] at hk'
    cases hk'
  | d + 1, x, ao, cap, hb, hk => by
    rw [inL_eq]
    refine ⟨⟨hb.n0, hb.n1⟩, fun k hk' => ?_⟩
    rcases hk with h | ⟨b, o, h1, h2, h3⟩
    · rw [h] at hk'; cases hk'
    · obtain ⟨i, hi, rfl⟩ := List.mem_iff_getElem.1 hk'
      obtain ⟨ao', cap', _, f, g⟩ := h3 i hi
      exact inL_of d _ ao' cap' f g
/-- what is written of a right expression is read as it -/
theorem psX_back (x : Ex) (h : chkX x = 0) (hi : inL x) (hl : (wrX x).length ≤ 2000) : psX (wrX x) = .ok x := by
  obtain ⟨hw, _⟩ := (chkX_iff x).1 h
  obtain ⟨m, hm⟩ := wrX_back rdZ rdZ_lit x hw hi
  refine psX_of _ x hl ?_ h
  have := skB_len (wrX x)
  exact rdX_down rdZ _ m 1 _ _ (by decide) (by omega) hm
theorem writeX_good {W0 : World} (hE : EnvX W0) (d : Nat) (x : Ex) (ao : Option Addr) (cap : Nat) (w : World) (hbd : ExBd x cap) (hka : KA w w.heap.size d x.kids ao) (hT : AT W0 w) (h : chkX x = 0) :
    Calls Tryz.prog 10 #[.agg #[.int .i64 x.kind, .string x.name, .int .i64 x.so, .int .i64 x.n, .string x.s, .slice ao x.kids.length cap]] w fun e w' => e = .returned (.tuple #[.string (bs (wrX x)), .int .i64 0]) ∧ Below w.heap.size w w' := by
  have c := exprWrite_any (AT W0) W0.heap.size (at_v hE.tabs) (env_f hE) at_k at_k2 at_0 d x ao cap w hbd hka hT
  unfold wrR at c
  rw [if_pos h] at c
  exact c
theorem writeX_bad {W0 : World} (hE : EnvX W0) (d : Nat) (x : Ex) (ao : Option Addr) (cap : Nat) (w : World) (hbd : ExBd x cap) (hka : KA w w.heap.size d x.kids ao) (hT : AT W0 w) (h : chkX x ≠ 0) :
    Calls Tryz.prog 10 #[.agg #[.int .i64 x.kind, .string x.name, .int .i64 x.so, .int .i64 x.n, .string x.s, .slice ao x.kids.length cap]] w fun e w' => e = .returned (.tuple #[.string ⟨#[]⟩, .int .i64 (chkX x)]) ∧ Below w.heap.size w w' := by
  have c := exprWrite_any (AT W0) W0.heap.size (at_v hE.tabs) (env_f hE) at_k at_k2 at_0 d x ao cap w hbd hka hT
  unfold wrR at c
  rw [if_neg h] at c
  exact c
/-- the name x -/
def nmB : Ex := ⟨2, ⟨#[120]⟩, 0, 0, ⟨#[]⟩, []⟩
theorem nmB_wf : wfX nmB := by
  rw [wfX_eq]
  exact ⟨by decide, by intro h; exact absurd h (by decide), by intro k hk; cases hk⟩
theorem nmB_chk : chkX nmB = 0 := (chkX_iff nmB).2 ⟨nmB_wf, by rw [sizeX_eq]; simp [nmB]⟩
theorem nmB_wr : bs (wrX nmB) = ⟨#[120]⟩ := by rw [wr_name _ rfl]; rfl
theorem nmB_any {W0 : World} (hE : EnvX W0) (w : World) (hT : AT W0 w) :
    Calls Tryz.prog 10 #[.agg #[.int .i64 2, .string ⟨#[120]⟩, .int .i64 0, .int .i64 0, .string ⟨#[]⟩, .slice none 0 0]] w fun e w' => e = .returned (.tuple #[.string ⟨#[120]⟩, .int .i64 0]) ∧ Below w.heap.size w w' := by
  have c := writeX_good hE 0 nmB none 0 w ⟨by decide, by decide, by decide, by decide, by decide, by decide⟩ rfl hT nmB_chk
  rw [nmB_wr] at c
  exact c
set_option maxRecDepth 100000 in
set_option maxHeartbeats 8000000 in
theorem exprsBack_law (d : Nat) (x : Ex) (ao : Option Addr) (cap : Nat) (s : ByteArray) (w : World) (hbd : ExBd x cap) (hka : KA w w.heap.size d x.kids ao) (hE : EnvX w) :
    Calls Tryz.prog 4 #[.agg #[.int .i64 x.kind, .string x.name, .int .i64 x.so, .int .i64 x.n, .string x.s, .slice ao x.kids.length cap], .string s] w fun e w' => e = .returned (.bool true) ∧ Below w.heap.size w w' := by
  have H := env_tk hE
  have hA : AT w (w.alloc (.cells #[.int .i64 x.kind, .string x.name, .int .i64 x.so, .int .i64 x.n, .string x.s, .slice ao x.kids.length cap] 39)) := (Below.refl _ _).alloc (Nat.le_refl _) _
  have X0 := hideK (ExAt.lit w x ao cap)
  have hx0 := X0.out
  have cN := hideK (fun W hT => nmB_any hE W hT)
  have HI := hideK (inL_of d x ao cap hbd hka)
  have HK := hideK (fun (W : World) (hT : AT w W) => (hka.keep hT).mono hT.size)
  have HBD := hideK hbd
  have HWG := hideK (fun (W : World) (hT : AT w W) (h : chkX x = 0) => writeX_good hE d x ao cap W hbd (HK.out W hT) hT h)
  have HWB := hideK (fun (W : World) (hT : AT w W) (h : chkX x ≠ 0) => writeX_bad hE d x ao cap W hbd (HK.out W hT) hT h)
  have HYG := hideK (fun (y : Ex) (h : chkX y = 0) (d2 : Nat) (ao2 : Option Addr) (cap2 : Nat) (W : World) (hb2 : ExBd y cap2) (hk2 : KA W W.heap.size d2 y.kids ao2) (hT : AT w W) => writeX_good hE d2 y ao2 cap2 W hb2 hk2 hT h)
  have A0 := hideK hA
  clear hA hbd hka hx0 hE
  cases hS : psX s.data.toList with
  | error v =>
    obtain ⟨c, a⟩ := v
    have hcb : (c == 0) = false := by simpa using psX_code _ _ _ hS
    go_enter Tryz.func4, Tryz.ntmps4
    go_wp2_with fail
    refine (cN.out _ A0.out).mono ?_
    rintro e w1 ⟨rfl, hb1⟩
    have X1 := hideK (X0.out.keepB hb1 (lt_of_cell X0.out.c0))
    have A1 := hideK (at_k _ _ A0.out hb1)
    clear cN
    go_wp2_with fail
    refine (parseX_err H s c a hS w1 A1.out).mono ?_
    rintro e w2 ⟨rfl, hb2⟩
    have V2 : Below w2.heap.size w2 ((w2.alloc (.cells #[.int .i64 0, .string ⟨#[]⟩, .int .i64 0, .int .i64 0, .string ⟨#[]⟩, .slice none 0 0] 39)).alloc (.cells #[.int .i64 c, .int .i64 (a : Int)] 30)) := ((Below.refl _ _).alloc (Nat.le_refl _) _).alloc (by simp) _
    have A3 := hideK (at_k _ _ (at_k _ _ A1.out hb2) V2)
    have X2 := X1.out.keepB hb2 (lt_of_cell X1.out.c0)
    have X3 := hideK (X2.keepB V2 (lt_of_cell X2.c0))
    obtain ⟨x0, x1, x2, x3, x4, x5⟩ := X3.out
    simp only [Nat.zero_add] at x0 x1 x2 x3 x4 x5
    clear hS V2 X2
    go_wp2_with fail
    clear x0 x1 x2 x3 x4 x5
    by_cases hz : chkX x = 0
    · refine (HWG.out _ A3.out hz).mono ?_
      rintro e w5 ⟨rfl, hb5⟩
      have A5 := hideK (at_k _ _ A3.out hb5)
      have X5 := hideK (X3.out.keepB hb5 (lt_of_cell X3.out.c0))
      have hgs : (bs (wrX x)).size = (wrX x).length := bs_size _
      by_cases hl : (wrX x).length ≤ 2000
      · have hlz : ¬ ((bs (wrX x)).size : Int) > 2000 := by rw [hgs]; omega
        have cP := hideK (fun W hT => parseX_ok H (bs (wrX x)) x (by rw [bs_list]; exact psX_back x hz HI.out hl) W hT)
        clear hgs hz hl HYG HWG HWB HI H
        generalize bs (wrX x) = ws at *
        go_wp2_with fail
        refine (cP.out _ A5.out).mono ?_
        rintro e w6 ⟨⟨d6, ao6, cap6, rfl, hg6⟩, hb6⟩
        have A6 := at_k _ _ A5.out hb6
        have X6 := X5.out.keepB hb6 (lt_of_cell X5.out.c0)
        have V7 : Below w6.heap.size w6 ((w6.alloc (.cells #[.int .i64 x.kind, .string x.name, .int .i64 x.so, .int .i64 x.n, .string x.s, .slice ao6 x.kids.length cap6] 39)).alloc (.cells #[.int .i64 0, .int .i64 0] 30)) := ((Below.refl _ _).alloc (Nat.le_refl _) _).alloc (by simp) _
        have A7 := at_k _ _ A6 V7
        obtain ⟨q0, q1, q2, q3, q4, q5⟩ := X6.keepB V7 (lt_of_cell X6.c0)
        simp only [Nat.zero_add] at q0 q1 q2 q3 q4 q5
        have K7 := (hg6.toKA.keep V7).mono V7.size
        have cS := hideK (sameX x d d6 ao ao6 cap cap6 _ _ HBD.out hg6.bd (HK.out _ A7) K7 (Nat.le_refl _))
        have HA7 := hideK A7
        clear A6 X6 V7 A7 K7 hg6 HK HBD
        go_wp2_with fail
        refine cS.out.mono ?_
        rintro e w9 ⟨rfl, hb9⟩
        go_wp2_with fail
        go_ret
        exact ⟨rfl, at_k _ _ HA7.out hb9⟩
      · have hlz : ((bs (wrX x)).size : Int) > 2000 := by rw [hgs]; omega
        clear hgs hz HYG HWG HWB HI H
        generalize bs (wrX x) = ws at *
        go_wp2_with fail
        go_ret
        exact ⟨rfl, A5.out⟩
    · refine (HWB.out _ A3.out hz).mono ?_
      rintro e w5 ⟨rfl, hb5⟩
      have A5 := hideK (at_k _ _ A3.out hb5)
      have hzb : (chkX x != 0) = true := by simpa using hz
      have hzc : (chkX x == 0) = false := by simpa using hz
      clear HYG HWG HWB HI H
      generalize chkX x = z at *
      go_wp2_with fail
      go_ret
      exact ⟨rfl, A5.out⟩
  | ok y =>
    have hcy := (psX_ok _ _ hS).2.2
    go_enter Tryz.func4, Tryz.ntmps4
    go_wp2_with fail
    refine (cN.out _ A0.out).mono ?_
    rintro e w1 ⟨rfl, hb1⟩
    have X1 := hideK (X0.out.keepB hb1 (lt_of_cell X0.out.c0))
    have A1 := hideK (at_k _ _ A0.out hb1)
    clear cN
    go_wp2_with fail
    refine (parseX_ok H s y hS w1 A1.out).mono ?_
    rintro e w2 ⟨⟨d2, ao2, cap2, rfl, hg2⟩, hb2⟩
    have V2 : Below w2.heap.size w2 ((w2.alloc (.cells #[.int .i64 y.kind, .string y.name, .int .i64 y.so, .int .i64 y.n, .string y.s, .slice ao2 y.kids.length cap2] 39)).alloc (.cells #[.int .i64 0, .int .i64 0] 30)) := ((Below.refl _ _).alloc (Nat.le_refl _) _).alloc (by simp) _
    have A2 := at_k _ _ A1.out hb2
    have A3 := hideK (at_k _ _ A2 V2)
    have X2 := X1.out.keepB hb2 (lt_of_cell X1.out.c0)
    have X3 := hideK (X2.keepB V2 (lt_of_cell X2.c0))
    have Y3 := hideK ((ExAt.lit w2 y ao2 cap2).keepB (W' := (w2.alloc (.cells #[.int .i64 y.kind, .string y.name, .int .i64 y.so, .int .i64 y.n, .string y.s, .slice ao2 y.kids.length cap2] 39)).alloc (.cells #[.int .i64 0, .int .i64 0] 30)) ((Below.refl _ _).alloc (Nat.le_refl _) _) (by simp))
    have hk2 := hg2.toKA
    have HIY := hideK (inL_of d2 y ao2 cap2 hg2.bd hk2)
    have HKY := hideK (fun (W : World) (hb : Below w2.heap.size w2 W) => (hk2.keep hb).mono hb.size)
    have HBY := hideK hg2.bd
    have HV2 := hideK V2
    obtain ⟨y0, y1, y2, y3, y4, y5⟩ := Y3.out
    simp only [Nat.zero_add] at y0 y1 y2 y3 y4 y5
    clear hS V2 X2 A2 hg2 hk2
    go_wp2_with fail
    refine (HYG.out y hcy d2 ao2 cap2 _ HBY.out (HKY.out _ HV2.out) A3.out).mono ?_
    rintro e w4 ⟨rfl, hb4⟩
    have A4 := hideK (at_k _ _ A3.out hb4)
    have X4 := hideK (X3.out.keepB hb4 (lt_of_cell X3.out.c0))
    have Y4 := hideK (Y3.out.keepB hb4 (lt_of_cell Y3.out.c0))
    have HV4 := hideK (HV2.out.trans (hb4.mono HV2.out.size))
    have hgy : (bs (wrX y)).size = (wrX y).length := bs_size _
    clear y0 y1 y2 y3 y4 y5
    by_cases hly : (wrX y).length ≤ 2000
    · have hlz : ((bs (wrX y)).size : Int) ≤ 2000 := by rw [hgy]; omega
      have cQ := hideK (fun W hT => parseX_ok H (bs (wrX y)) y (by rw [bs_list]; exact psX_back y hcy HIY.out hly) W hT)
      clear hgy hly HIY hcy
      generalize bs (wrX y) = wy at *
      go_wp2_with fail
      refine (cQ.out _ A4.out).mono ?_
      rintro e wa ⟨⟨da, ao3, cap3, rfl, hga⟩, hba⟩
      have Va : Below wa.heap.size wa ((wa.alloc (.cells #[.int .i64 y.kind, .string y.name, .int .i64 y.so, .int .i64 y.n, .string y.s, .slice ao3 y.kids.length cap3] 39)).alloc (.cells #[.int .i64 0, .int .i64 0] 30)) := ((Below.refl _ _).alloc (Nat.le_refl _) _).alloc (by simp) _
      have Aa := hideK (at_k _ _ (at_k _ _ A4.out hba) Va)
      have Xa := X4.out.keepB hba (lt_of_cell X4.out.c0)
      have Xb := hideK (Xa.keepB Va (lt_of_cell Xa.c0))
      have Ya := Y4.out.keepB hba (lt_of_cell Y4.out.c0)
      obtain ⟨y0, y1, y2, y3, y4, y5⟩ := Ya.keepB Va (lt_of_cell Ya.c0)
      simp only [Nat.zero_add] at y0 y1 y2 y3 y4 y5
      have Kz := (hga.toKA.keep Va).mono Va.size
      have HVb := (HV4.out.trans (hba.mono HV4.out.size)).trans (Va.mono (Nat.le_trans HV4.out.size hba.size))
      have cS := hideK (sameX y d2 da ao2 ao3 cap2 cap3 _ _ HBY.out hga.bd (HKY.out _ HVb) Kz (Nat.le_refl _))
      clear Xa Ya Va Kz HVb hga HKY HBY
      go_wp2_with fail
      refine cS.out.mono ?_
      rintro e wb ⟨rfl, hbb⟩
      have Ab := hideK (at_k _ _ Aa.out hbb)
      have Xc := hideK (Xb.out.keepB hbb (lt_of_cell Xb.out.c0))
      obtain ⟨x0, x1, x2, x3, x4, x5⟩ := Xc.out
      simp only [Nat.zero_add] at x0 x1 x2 x3 x4 x5
      clear y0 y1 y2 y3 y4 y5
      go_wp2_with fail
      clear x0 x1 x2 x3 x4 x5
      by_cases hz : chkX x = 0
      · refine (HWG.out _ Ab.out hz).mono ?_
        rintro e w5 ⟨rfl, hb5⟩
        have A5 := hideK (at_k _ _ Ab.out hb5)
        have X5 := hideK (Xc.out.keepB hb5 (lt_of_cell Xc.out.c0))
        have hgs : (bs (wrX x)).size = (wrX x).length := bs_size _
        by_cases hl : (wrX x).length ≤ 2000
        · have hlz : ¬ ((bs (wrX x)).size : Int) > 2000 := by rw [hgs]; omega
          have cP := hideK (fun W hT => parseX_ok H (bs (wrX x)) x (by rw [bs_list]; exact psX_back x hz HI.out hl) W hT)
          clear hgs hz hl HYG HWG HWB HI H
          generalize bs (wrX x) = ws at *
          go_wp2_with fail
          refine (cP.out _ A5.out).mono ?_
          rintro e w6 ⟨⟨d6, ao6, cap6, rfl, hg6⟩, hb6⟩
          have A6 := at_k _ _ A5.out hb6
          have X6 := X5.out.keepB hb6 (lt_of_cell X5.out.c0)
          have V7 : Below w6.heap.size w6 ((w6.alloc (.cells #[.int .i64 x.kind, .string x.name, .int .i64 x.so, .int .i64 x.n, .string x.s, .slice ao6 x.kids.length cap6] 39)).alloc (.cells #[.int .i64 0, .int .i64 0] 30)) := ((Below.refl _ _).alloc (Nat.le_refl _) _).alloc (by simp) _
          have A7 := at_k _ _ A6 V7
          obtain ⟨q0, q1, q2, q3, q4, q5⟩ := X6.keepB V7 (lt_of_cell X6.c0)
          simp only [Nat.zero_add] at q0 q1 q2 q3 q4 q5
          have K7 := (hg6.toKA.keep V7).mono V7.size
          have cS := hideK (sameX x d d6 ao ao6 cap cap6 _ _ HBD.out hg6.bd (HK.out _ A7) K7 (Nat.le_refl _))
          have HA7 := hideK A7
          clear A6 X6 V7 A7 K7 hg6 HK HBD
          go_wp2_with fail
          refine cS.out.mono ?_
          rintro e w9 ⟨rfl, hb9⟩
          go_wp2_with fail
          go_ret
          exact ⟨rfl, at_k _ _ HA7.out hb9⟩
        · have hlz : ((bs (wrX x)).size : Int) > 2000 := by rw [hgs]; omega
          clear hgs hz HYG HWG HWB HI H
          generalize bs (wrX x) = ws at *
          go_wp2_with fail
          go_ret
          exact ⟨rfl, A5.out⟩
      · refine (HWB.out _ Ab.out hz).mono ?_
        rintro e w5 ⟨rfl, hb5⟩
        have A5 := hideK (at_k _ _ Ab.out hb5)
        have hzb : (chkX x != 0) = true := by simpa using hz
        have hzc : (chkX x == 0) = false := by simpa using hz
        clear HYG HWG HWB HI H
        generalize chkX x = z at *
        go_wp2_with fail
        go_ret
        exact ⟨rfl, A5.out⟩
    · have hlz : ¬ ((bs (wrX y)).size : Int) ≤ 2000 := by rw [hgy]; omega
      have cQ := hideK (fun W hT => parseX_err H (bs (wrX y)) 2 0 (by rw [bs_list]; exact psX_large _ (by omega)) W hT)
      clear hgy hly HIY hcy
      generalize bs (wrX y) = wy at *
      go_wp2_with fail
      refine (cQ.out _ A4.out).mono ?_
      rintro e wa ⟨rfl, hba⟩
      have Va : Below wa.heap.size wa ((wa.alloc (.cells #[.int .i64 0, .string ⟨#[]⟩, .int .i64 0, .int .i64 0, .string ⟨#[]⟩, .slice none 0 0] 39)).alloc (.cells #[.int .i64 2, .int .i64 0] 30)) := ((Below.refl _ _).alloc (Nat.le_refl _) _).alloc (by simp) _
      have Ab := hideK (at_k _ _ (at_k _ _ A4.out hba) Va)
      have Xa := X4.out.keepB hba (lt_of_cell X4.out.c0)
      have Xc := hideK (Xa.keepB Va (lt_of_cell Xa.c0))
      obtain ⟨x0, x1, x2, x3, x4, x5⟩ := Xc.out
      simp only [Nat.zero_add] at x0 x1 x2 x3 x4 x5
      clear Xa Va
      go_wp2_with fail
      clear x0 x1 x2 x3 x4 x5
      by_cases hz : chkX x = 0
      · refine (HWG.out _ Ab.out hz).mono ?_
        rintro e w5 ⟨rfl, hb5⟩
        have A5 := hideK (at_k _ _ Ab.out hb5)
        have X5 := hideK (Xc.out.keepB hb5 (lt_of_cell Xc.out.c0))
        have hgs : (bs (wrX x)).size = (wrX x).length := bs_size _
        by_cases hl : (wrX x).length ≤ 2000
        · have hlz : ¬ ((bs (wrX x)).size : Int) > 2000 := by rw [hgs]; omega
          have cP := hideK (fun W hT => parseX_ok H (bs (wrX x)) x (by rw [bs_list]; exact psX_back x hz HI.out hl) W hT)
          clear hgs hz hl HYG HWG HWB HI H
          generalize bs (wrX x) = ws at *
          go_wp2_with fail
          refine (cP.out _ A5.out).mono ?_
          rintro e w6 ⟨⟨d6, ao6, cap6, rfl, hg6⟩, hb6⟩
          have A6 := at_k _ _ A5.out hb6
          have X6 := X5.out.keepB hb6 (lt_of_cell X5.out.c0)
          have V7 : Below w6.heap.size w6 ((w6.alloc (.cells #[.int .i64 x.kind, .string x.name, .int .i64 x.so, .int .i64 x.n, .string x.s, .slice ao6 x.kids.length cap6] 39)).alloc (.cells #[.int .i64 0, .int .i64 0] 30)) := ((Below.refl _ _).alloc (Nat.le_refl _) _).alloc (by simp) _
          have A7 := at_k _ _ A6 V7
          obtain ⟨q0, q1, q2, q3, q4, q5⟩ := X6.keepB V7 (lt_of_cell X6.c0)
          simp only [Nat.zero_add] at q0 q1 q2 q3 q4 q5
          have K7 := (hg6.toKA.keep V7).mono V7.size
          have cS := hideK (sameX x d d6 ao ao6 cap cap6 _ _ HBD.out hg6.bd (HK.out _ A7) K7 (Nat.le_refl _))
          have HA7 := hideK A7
          clear A6 X6 V7 A7 K7 hg6 HK HBD
          go_wp2_with fail
          refine cS.out.mono ?_
          rintro e w9 ⟨rfl, hb9⟩
          go_wp2_with fail
          go_ret
          exact ⟨rfl, at_k _ _ HA7.out hb9⟩
        · have hlz : ((bs (wrX x)).size : Int) > 2000 := by rw [hgs]; omega
          clear hgs hz HYG HWG HWB HI H
          generalize bs (wrX x) = ws at *
          go_wp2_with fail
          go_ret
          exact ⟨rfl, A5.out⟩
      · refine (HWB.out _ Ab.out hz).mono ?_
        rintro e w5 ⟨rfl, hb5⟩
        have A5 := hideK (at_k _ _ Ab.out hb5)
        have hzb : (chkX x != 0) = true := by simpa using hz
        have hzc : (chkX x == 0) = false := by simpa using hz
        clear HYG HWG HWB HI H
        generalize chkX x = z at *
        go_wp2_with fail
        go_ret
        exact ⟨rfl, A5.out⟩
end Go.Proofs.YtipolobikigmbaaGreatDoor
