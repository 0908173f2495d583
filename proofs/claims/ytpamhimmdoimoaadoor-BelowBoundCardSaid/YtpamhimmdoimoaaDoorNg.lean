/-
  The law of duetkeep.BelowBound: whatever types are handed in it answers true.
-/
import Derived.Test.YtpamhimmdoimoaaDoorJh
namespace Go.Proofs.YtpamhimmdoimoaaDoor
open Go.RowKit Go.Shelf

theorem ofGoodG {t : Ty} {g : List Nd} (h : OFG t g) {w : World} {args : Array Value} (c : Calls Tryd.prog 6 args w (OFPost t w)) : Calls Tryd.prog 6 args w fun e w' => (∃ ag cg, e = .returned (.tuple #[.slice ag g.length cg, .int .i64 0]) ∧ GAt w' w'.heap.size g ag) ∧ Below w.heap.size w w' := by
  refine c.mono ?_
  rintro e w' ⟨q | q, hb⟩
  · exact absurd h.chk q.1
  · obtain ⟨g', ag, cg, hg, e, hG⟩ := q
    rw [hg.uniq h] at e hG
    exact ⟨⟨ag, cg, e, hG⟩, hb⟩
theorem ofBadG {t : Ty} (h : chkTy t ≠ 0) {w : World} {args : Array Value} (c : Calls Tryd.prog 6 args w (OFPost t w)) : Calls Tryd.prog 6 args w fun e w' => (∃ z : Int, z ≠ 0 ∧ e = .returned (.tuple #[.slice none 0 0, .int .i64 z])) ∧ Below w.heap.size w w' := by
  refine c.mono ?_
  rintro e w' ⟨q | q, hb⟩
  · exact ⟨⟨_, q.1, q.2⟩, hb⟩
  · obtain ⟨g', ag, cg, hg, _⟩ := q
    exact absurd hg.chk h
/-- Graphs of two graphs that lie in the world -/
theorem grs_any (g h : List Nd) (ag ah : Option Addr) (cg ch : Nat) (w : World) (hg : GN g) (hh : GN h) (hga : GAt w w.heap.size g ag) (hha : GAt w w.heap.size h ah) :
    Calls Tryd.prog 7 #[.slice ag g.length cg, .slice ah h.length ch] w fun e w' => (∃ b : Bool, e = .returned (.tuple #[.bool b, .int .i64 0]) ∧ (b = true ↔ ∀ k, bl k g h 0 0)) ∧ Below w.heap.size w w' := graphs_any g h ag ah cg ch w.heap.size w hg hh hga hha (Nat.le_refl _)
theorem grsYes {g h : List Nd} {w : World} {args : Array Value} (hb : ∀ k, bl k g h 0 0) (c : Calls Tryd.prog 7 args w fun e w' => (∃ b : Bool, e = .returned (.tuple #[.bool b, .int .i64 0]) ∧ (b = true ↔ ∀ k, bl k g h 0 0)) ∧ Below w.heap.size w w') : Calls Tryd.prog 7 args w fun e w' => e = .returned (.tuple #[.bool true, .int .i64 0]) ∧ Below w.heap.size w w' := by
  refine c.mono ?_
  rintro e w' ⟨⟨b, rfl, hq⟩, hb'⟩
  obtain rfl : b = true := hq.2 hb
  exact ⟨rfl, hb'⟩
set_option maxRecDepth 100000 in
set_option maxHeartbeats 32000000 in
theorem belowBound_law (ds dt du : Nat) (s t u : Ty) (sal : Option Addr) (scl : Nat) (sak : Option Addr) (sck : Nat) (al : Option Addr) (cl : Nat) (ak : Option Addr) (ck : Nat) (ual : Option Addr) (ucl : Nat) (uak : Option Addr) (uck : Nat) (w : World) (hs1 : TyBd s scl sck) (hs2 : LA w w.heap.size s.labels sal) (hs3 : KT w w.heap.size ds s.kids sak) (ht1 : TyBd t cl ck) (ht2 : LA w w.heap.size t.labels al) (ht3 : KT w w.heap.size dt t.kids ak) (hu1 : TyBd u ucl uck) (hu2 : LA w w.heap.size u.labels ual) (hu3 : KT w w.heap.size du u.kids uak) :
    Calls Tryd.prog 3 #[tyVal s sal scl sak sck, tyVal t al cl ak ck, tyVal u ual ucl uak uck] w fun e w' => e = .returned (.bool true) ∧ Below w.heap.size w w' := by
  have Q := hideK (BX3.new w s sal scl sak sck t al cl ak ck u ual ucl uak uck)
  have CE := hideK (fun (W : World) (_ : Below w.heap.size w W) => joinEnd W)
  have CJ := hideK (fun (W : World) (hb : Below w.heap.size w W) => join_any ds dt s t sal scl sak sck al cl ak ck W hs1 ((hs2.keep hb).mono hb.size) ((hs3.keep hb).mono hb.size) ht1 ((ht2.keep hb).mono hb.size) ((ht3.keep hb).mono hb.size))
  have CM := hideK (fun (W : World) (hb : Below w.heap.size w W) => meet_any ds dt s t sal scl sak sck al cl ak ck W hs1 ((hs2.keep hb).mono hb.size) ((hs3.keep hb).mono hb.size) ht1 ((ht2.keep hb).mono hb.size) ((ht3.keep hb).mono hb.size))
  have CS := hideK (fun (W : World) (hb : Below w.heap.size w W) => of_any ds s sal scl sak sck W hs1 ((hs2.keep hb).mono hb.size) ((hs3.keep hb).mono hb.size))
  have CT := hideK (fun (W : World) (hb : Below w.heap.size w W) => of_any dt t al cl ak ck W ht1 ((ht2.keep hb).mono hb.size) ((ht3.keep hb).mono hb.size))
  have CU := hideK (fun (W : World) (hb : Below w.heap.size w W) => of_any du u ual ucl uak uck W hu1 ((hu2.keep hb).mono hb.size) ((hu3.keep hb).mono hb.size))
  simp only [tyVal] at CJ CM CS CT CU ⊢
  clear hs1 hs2 hs3 ht1 ht2 ht3 hu1 hu2 hu3
  by_cases hz : chkTy s ≠ 0
  · obtain ⟨x0, x1, x2, x3, x4⟩ := Q.out.x
    obtain ⟨y0, y1, y2, y3, y4⟩ := Q.out.y
    obtain ⟨z0, z1, z2, z3, z4⟩ := Q.out.z
    simp only [Nat.zero_add] at x1 x2 x3 x4 y1 y2 y3 y4 z1 z2 z3 z4
    go_enter Tryd.func3, Tryd.ntmps3
    go_wp2_with fail
    refine (CE.out _ Q.out.bl).mono ?_
    rintro e w1 ⟨⟨ae, ce, rfl⟩, hb⟩
    replace Q := hideK (Q.out.keep hb)
    clear hb
    clear x0 x1 x2 x3 x4 y0 y1 y2 y3 y4 z0 z1 z2 z3 z4
    obtain ⟨x0, x1, x2, x3, x4⟩ := Q.out.x
    obtain ⟨y0, y1, y2, y3, y4⟩ := Q.out.y
    obtain ⟨z0, z1, z2, z3, z4⟩ := Q.out.z
    simp only [Nat.zero_add] at x1 x2 x3 x4 y1 y2 y3 y4 z1 z2 z3 z4
    go_wp2_with fail
    refine (jmBad (.inl hz) (CJ.out _ Q.out.bl)).mono ?_
    rintro e w2 ⟨⟨zj, hj, -, rfl⟩, hb⟩
    replace Q := hideK (Q.out.keep hb)
    clear hb
    clear x0 x1 x2 x3 x4 y0 y1 y2 y3 y4 z0 z1 z2 z3 z4
    obtain ⟨x0, x1, x2, x3, x4⟩ := Q.out.x
    obtain ⟨y0, y1, y2, y3, y4⟩ := Q.out.y
    obtain ⟨z0, z1, z2, z3, z4⟩ := Q.out.z
    simp only [Nat.zero_add] at x1 x2 x3 x4 y1 y2 y3 y4 z1 z2 z3 z4
    go_wp2_with fail
    refine (jmBad (.inl hz) (CM.out _ Q.out.bl)).mono ?_
    rintro e w3 ⟨⟨zm, hm, -, rfl⟩, hb⟩
    replace Q := hideK (Q.out.keep hb)
    clear hb
    clear x0 x1 x2 x3 x4 y0 y1 y2 y3 y4 z0 z1 z2 z3 z4
    obtain ⟨x0, x1, x2, x3, x4⟩ := Q.out.x
    obtain ⟨y0, y1, y2, y3, y4⟩ := Q.out.y
    obtain ⟨z0, z1, z2, z3, z4⟩ := Q.out.z
    simp only [Nat.zero_add] at x1 x2 x3 x4 y1 y2 y3 y4 z1 z2 z3 z4
    go_wp2_with fail
    refine (ofBadG hz (CS.out _ Q.out.bl)).mono ?_
    rintro e w4 ⟨⟨zq, h1, rfl⟩, hb⟩
    replace Q := hideK (Q.out.keep hb)
    clear hb
    clear x0 x1 x2 x3 x4 y0 y1 y2 y3 y4 z0 z1 z2 z3 z4
    obtain ⟨x0, x1, x2, x3, x4⟩ := Q.out.x
    obtain ⟨y0, y1, y2, y3, y4⟩ := Q.out.y
    obtain ⟨z0, z1, z2, z3, z4⟩ := Q.out.z
    simp only [Nat.zero_add] at x1 x2 x3 x4 y1 y2 y3 y4 z1 z2 z3 z4
    have h1b : (zq != 0) = true := by simpa using h1
    clear h1 hj hm
    go_wp2_with fail
    refine (CT.out _ Q.out.bl).mono ?_
    rintro e w5 ⟨hor, hb⟩
    replace Q := hideK (Q.out.keep hb)
    clear hb
    have HO : ∃ a n c z, e = .returned (.tuple #[.slice a n c, .int .i64 z]) := by
      rcases hor with ⟨_, q⟩ | ⟨_, _, _, _, q, _⟩
      · exact ⟨_, _, _, _, q⟩
      · exact ⟨_, _, _, _, q⟩
    clear hor
    obtain ⟨aq, nq, cq, zr, rfl⟩ := HO
    clear x0 x1 x2 x3 x4 y0 y1 y2 y3 y4 z0 z1 z2 z3 z4
    go_wp2_with fail
    go_ret
    exact ⟨rfl, Q.out.bl⟩
  · have hzs : chkTy s = 0 := Classical.byContradiction hz
    obtain ⟨g, hg⟩ := OFG_ex hzs
    clear hz hzs
    by_cases hz : chkTy t ≠ 0
    · obtain ⟨x0, x1, x2, x3, x4⟩ := Q.out.x
      obtain ⟨y0, y1, y2, y3, y4⟩ := Q.out.y
      obtain ⟨z0, z1, z2, z3, z4⟩ := Q.out.z
      simp only [Nat.zero_add] at x1 x2 x3 x4 y1 y2 y3 y4 z1 z2 z3 z4
      go_enter Tryd.func3, Tryd.ntmps3
      go_wp2_with fail
      refine (CE.out _ Q.out.bl).mono ?_
      rintro e w6 ⟨⟨ae, ce, rfl⟩, hb⟩
      replace Q := hideK (Q.out.keep hb)
      clear hb
      clear x0 x1 x2 x3 x4 y0 y1 y2 y3 y4 z0 z1 z2 z3 z4
      obtain ⟨x0, x1, x2, x3, x4⟩ := Q.out.x
      obtain ⟨y0, y1, y2, y3, y4⟩ := Q.out.y
      obtain ⟨z0, z1, z2, z3, z4⟩ := Q.out.z
      simp only [Nat.zero_add] at x1 x2 x3 x4 y1 y2 y3 y4 z1 z2 z3 z4
      go_wp2_with fail
      refine (jmBad (.inr hz) (CJ.out _ Q.out.bl)).mono ?_
      rintro e w7 ⟨⟨zj, hj, -, rfl⟩, hb⟩
      replace Q := hideK (Q.out.keep hb)
      clear hb
      clear x0 x1 x2 x3 x4 y0 y1 y2 y3 y4 z0 z1 z2 z3 z4
      obtain ⟨x0, x1, x2, x3, x4⟩ := Q.out.x
      obtain ⟨y0, y1, y2, y3, y4⟩ := Q.out.y
      obtain ⟨z0, z1, z2, z3, z4⟩ := Q.out.z
      simp only [Nat.zero_add] at x1 x2 x3 x4 y1 y2 y3 y4 z1 z2 z3 z4
      go_wp2_with fail
      refine (jmBad (.inr hz) (CM.out _ Q.out.bl)).mono ?_
      rintro e w8 ⟨⟨zm, hm, -, rfl⟩, hb⟩
      replace Q := hideK (Q.out.keep hb)
      clear hb
      clear x0 x1 x2 x3 x4 y0 y1 y2 y3 y4 z0 z1 z2 z3 z4
      obtain ⟨x0, x1, x2, x3, x4⟩ := Q.out.x
      obtain ⟨y0, y1, y2, y3, y4⟩ := Q.out.y
      obtain ⟨z0, z1, z2, z3, z4⟩ := Q.out.z
      simp only [Nat.zero_add] at x1 x2 x3 x4 y1 y2 y3 y4 z1 z2 z3 z4
      go_wp2_with fail
      refine (ofGoodG hg (CS.out _ Q.out.bl)).mono ?_
      rintro e w9 ⟨⟨ag, cg, rfl, -⟩, hb⟩
      replace Q := hideK (Q.out.keep hb)
      clear hb
      clear x0 x1 x2 x3 x4 y0 y1 y2 y3 y4 z0 z1 z2 z3 z4
      obtain ⟨x0, x1, x2, x3, x4⟩ := Q.out.x
      obtain ⟨y0, y1, y2, y3, y4⟩ := Q.out.y
      obtain ⟨z0, z1, z2, z3, z4⟩ := Q.out.z
      simp only [Nat.zero_add] at x1 x2 x3 x4 y1 y2 y3 y4 z1 z2 z3 z4
      go_wp2_with fail
      refine (ofBadG hz (CT.out _ Q.out.bl)).mono ?_
      rintro e w10 ⟨⟨zq, h1, rfl⟩, hb⟩
      replace Q := hideK (Q.out.keep hb)
      clear hb
      have h1b : (zq != 0) = true := by simpa using h1
      clear h1 hj hm
      clear x0 x1 x2 x3 x4 y0 y1 y2 y3 y4 z0 z1 z2 z3 z4
      go_wp2_with fail
      go_ret
      exact ⟨rfl, Q.out.bl⟩
    · have hzt : chkTy t = 0 := Classical.byContradiction hz
      obtain ⟨h, hh⟩ := OFG_ex hzt
      clear hz hzt
      obtain ⟨x0, x1, x2, x3, x4⟩ := Q.out.x
      obtain ⟨y0, y1, y2, y3, y4⟩ := Q.out.y
      obtain ⟨z0, z1, z2, z3, z4⟩ := Q.out.z
      simp only [Nat.zero_add] at x1 x2 x3 x4 y1 y2 y3 y4 z1 z2 z3 z4
      go_enter Tryd.func3, Tryd.ntmps3
      go_wp2_with fail
      refine (CE.out _ Q.out.bl).mono ?_
      rintro e w11 ⟨⟨ae, ce, rfl⟩, hb⟩
      replace Q := hideK (Q.out.keep hb)
      clear hb
      clear x0 x1 x2 x3 x4 y0 y1 y2 y3 y4 z0 z1 z2 z3 z4
      obtain ⟨x0, x1, x2, x3, x4⟩ := Q.out.x
      obtain ⟨y0, y1, y2, y3, y4⟩ := Q.out.y
      obtain ⟨z0, z1, z2, z3, z4⟩ := Q.out.z
      simp only [Nat.zero_add] at x1 x2 x3 x4 y1 y2 y3 y4 z1 z2 z3 z4
      go_wp2_with fail
      refine (jmGood hg hh (CJ.out _ Q.out.bl)).mono ?_
      rintro e w12 ⟨⟨aj, nj, cj, zj, rfl, hJ⟩, hb⟩
      replace Q := hideK (Q.out.keep hb)
      clear hb
      clear x0 x1 x2 x3 x4 y0 y1 y2 y3 y4 z0 z1 z2 z3 z4
      obtain ⟨x0, x1, x2, x3, x4⟩ := Q.out.x
      obtain ⟨y0, y1, y2, y3, y4⟩ := Q.out.y
      obtain ⟨z0, z1, z2, z3, z4⟩ := Q.out.z
      simp only [Nat.zero_add] at x1 x2 x3 x4 y1 y2 y3 y4 z1 z2 z3 z4
      have HJ := hideK hJ
      clear hJ
      go_wp2_with fail
      refine (jmGood hg hh (CM.out _ Q.out.bl)).mono ?_
      rintro e w13 ⟨⟨am, nm, cm, zm, rfl, hM⟩, hb⟩
      replace Q := hideK (Q.out.keep hb)
      replace HJ := hideK (HJ.out.keep hb)
      clear hb
      clear x0 x1 x2 x3 x4 y0 y1 y2 y3 y4 z0 z1 z2 z3 z4
      obtain ⟨x0, x1, x2, x3, x4⟩ := Q.out.x
      obtain ⟨y0, y1, y2, y3, y4⟩ := Q.out.y
      obtain ⟨z0, z1, z2, z3, z4⟩ := Q.out.z
      simp only [Nat.zero_add] at x1 x2 x3 x4 y1 y2 y3 y4 z1 z2 z3 z4
      have HM := hideK hM
      clear hM
      go_wp2_with fail
      refine (ofGoodG hg (CS.out _ Q.out.bl)).mono ?_
      rintro e w14 ⟨⟨ag, cg, rfl, hGA⟩, hb⟩
      replace Q := hideK (Q.out.keep hb)
      replace HJ := hideK (HJ.out.keep hb)
      replace HM := hideK (HM.out.keep hb)
      clear hb
      clear x0 x1 x2 x3 x4 y0 y1 y2 y3 y4 z0 z1 z2 z3 z4
      obtain ⟨x0, x1, x2, x3, x4⟩ := Q.out.x
      obtain ⟨y0, y1, y2, y3, y4⟩ := Q.out.y
      obtain ⟨z0, z1, z2, z3, z4⟩ := Q.out.z
      simp only [Nat.zero_add] at x1 x2 x3 x4 y1 y2 y3 y4 z1 z2 z3 z4
      have GA := hideK hGA
      clear hGA
      go_wp2_with fail
      refine (ofGoodG hh (CT.out _ Q.out.bl)).mono ?_
      rintro e w15 ⟨⟨ah, ch, rfl, hGB⟩, hb⟩
      replace Q := hideK (Q.out.keep hb)
      replace HJ := hideK (HJ.out.keep hb)
      replace HM := hideK (HM.out.keep hb)
      replace GA := hideK ((GA.out.keep hb).mono hb.size)
      clear hb
      have GB := hideK hGB
      clear hGB
      clear x0 x1 x2 x3 x4 y0 y1 y2 y3 y4 z0 z1 z2 z3 z4
      rcases HJ.out.three hg.gn hh.gn with ⟨rfl, rfl, rfl, hN⟩ | ⟨rfl, rfl, rfl⟩ | ⟨rfl, J, hI, hS, rfl, hG⟩
      · have hNJ := hideK hN
        clear hN HJ
        rcases HM.out.three hg.gn hh.gn with ⟨rfl, rfl, rfl, hN⟩ | ⟨rfl, rfl, rfl⟩ | ⟨rfl, M, hI, hS, rfl, hG⟩
        · have hNM := hideK hN
          clear hN HM
          obtain ⟨z0, z1, z2, z3, z4⟩ := Q.out.z
          simp only [Nat.zero_add] at z1 z2 z3 z4
          by_cases hzu : chkTy u = 0
          · obtain ⟨c, hc⟩ := OFG_ex hzu
            go_wp2_with fail
            refine (ofGoodG hc (CU.out _ Q.out.bl)).mono ?_
            rintro e w16 ⟨⟨ac, cc, rfl, hGC⟩, hb⟩
            replace Q := hideK (Q.out.keep hb)
            replace GA := hideK ((GA.out.keep hb).mono hb.size)
            replace GB := hideK ((GB.out.keep hb).mono hb.size)
            clear hb
            have GC := hideK hGC
            clear hGC z0 z1 z2 z3 z4
            go_wp2_with fail
            refine (grs_any _ _ _ _ _ _ _ hg.gn hc.gn GA.out GC.out).mono ?_
            rintro e w17 ⟨⟨p1, rfl, hp1⟩, hb⟩
            replace Q := hideK (Q.out.keep hb)
            replace GA := hideK ((GA.out.keep hb).mono hb.size)
            replace GB := hideK ((GB.out.keep hb).mono hb.size)
            replace GC := hideK ((GC.out.keep hb).mono hb.size)
            clear hb
            go_wp2_with fail
            refine (grs_any _ _ _ _ _ _ _ hh.gn hc.gn GB.out GC.out).mono ?_
            rintro e w18 ⟨⟨p2, rfl, hp2⟩, hb⟩
            replace Q := hideK (Q.out.keep hb)
            replace GA := hideK ((GA.out.keep hb).mono hb.size)
            replace GB := hideK ((GB.out.keep hb).mono hb.size)
            replace GC := hideK ((GC.out.keep hb).mono hb.size)
            clear hb
            have HP1 := hideK hp1
            have HP2 := hideK hp2
            clear hp1 hp2
            cases p1
            · go_wp2_with fail
              refine (grs_any _ _ _ _ _ _ _ hc.gn hg.gn GC.out GA.out).mono ?_
              rintro e w19 ⟨⟨p3, rfl, hp3⟩, hb⟩
              replace Q := hideK (Q.out.keep hb)
              replace GA := hideK ((GA.out.keep hb).mono hb.size)
              replace GB := hideK ((GB.out.keep hb).mono hb.size)
              replace GC := hideK ((GC.out.keep hb).mono hb.size)
              clear hb
              go_wp2_with fail
              refine (grs_any _ _ _ _ _ _ _ hc.gn hh.gn GC.out GB.out).mono ?_
              rintro e w20 ⟨⟨p4, rfl, hp4⟩, hb⟩
              replace Q := hideK (Q.out.keep hb)
              replace GA := hideK ((GA.out.keep hb).mono hb.size)
              replace GB := hideK ((GB.out.keep hb).mono hb.size)
              replace GC := hideK ((GC.out.keep hb).mono hb.size)
              clear hb
              have HP3 := hideK hp3
              have HP4 := hideK hp4
              clear hp3 hp4
              cases p3
              · go_wp2_with fail
                go_ret
                exact ⟨rfl, Q.out.bl⟩
              · cases p4
                · go_wp2_with fail
                  go_ret
                  exact ⟨rfl, Q.out.bl⟩
                · exact absurd (fun k => (blP_tt ..).2 (HP4.out.1 (by trivial) k)) (hNM.out _ hc.gn 0 hc.gn.pos (fun k => (blP_tt ..).2 (HP3.out.1 (by trivial) k)))
            · cases p2
              · go_wp2_with fail
                refine (grs_any _ _ _ _ _ _ _ hc.gn hg.gn GC.out GA.out).mono ?_
                rintro e w21 ⟨⟨p3, rfl, hp3⟩, hb⟩
                replace Q := hideK (Q.out.keep hb)
                replace GA := hideK ((GA.out.keep hb).mono hb.size)
                replace GB := hideK ((GB.out.keep hb).mono hb.size)
                replace GC := hideK ((GC.out.keep hb).mono hb.size)
                clear hb
                go_wp2_with fail
                refine (grs_any _ _ _ _ _ _ _ hc.gn hh.gn GC.out GB.out).mono ?_
                rintro e w22 ⟨⟨p4, rfl, hp4⟩, hb⟩
                replace Q := hideK (Q.out.keep hb)
                replace GA := hideK ((GA.out.keep hb).mono hb.size)
                replace GB := hideK ((GB.out.keep hb).mono hb.size)
                replace GC := hideK ((GC.out.keep hb).mono hb.size)
                clear hb
                have HP3 := hideK hp3
                have HP4 := hideK hp4
                clear hp3 hp4
                cases p3
                · go_wp2_with fail
                  go_ret
                  exact ⟨rfl, Q.out.bl⟩
                · cases p4
                  · go_wp2_with fail
                    go_ret
                    exact ⟨rfl, Q.out.bl⟩
                  · exact absurd (fun k => (blP_tt ..).2 (HP4.out.1 (by trivial) k)) (hNM.out _ hc.gn 0 hc.gn.pos (fun k => (blP_tt ..).2 (HP3.out.1 (by trivial) k)))
              · exact absurd (fun k => (blP_ff ..).2 (HP2.out.1 (by trivial) k)) (hNJ.out _ hc.gn 0 hc.gn.pos (fun k => (blP_ff ..).2 (HP1.out.1 (by trivial) k)))
          · go_wp2_with fail
            refine (ofBadG hzu (CU.out _ Q.out.bl)).mono ?_
            rintro e w23 ⟨⟨zu, h1, rfl⟩, hb⟩
            replace Q := hideK (Q.out.keep hb)
            replace GA := hideK ((GA.out.keep hb).mono hb.size)
            replace GB := hideK ((GB.out.keep hb).mono hb.size)
            clear hb
            have h1b : (zu != 0) = true := by simpa using h1
            clear h1 z0 z1 z2 z3 z4
            go_wp2_with fail
            go_ret
            exact ⟨rfl, Q.out.bl⟩
        · clear HM
          obtain ⟨z0, z1, z2, z3, z4⟩ := Q.out.z
          simp only [Nat.zero_add] at z1 z2 z3 z4
          by_cases hzu : chkTy u = 0
          · obtain ⟨c, hc⟩ := OFG_ex hzu
            go_wp2_with fail
            refine (ofGoodG hc (CU.out _ Q.out.bl)).mono ?_
            rintro e w24 ⟨⟨ac, cc, rfl, hGC⟩, hb⟩
            replace Q := hideK (Q.out.keep hb)
            replace GA := hideK ((GA.out.keep hb).mono hb.size)
            replace GB := hideK ((GB.out.keep hb).mono hb.size)
            clear hb
            have GC := hideK hGC
            clear hGC z0 z1 z2 z3 z4
            go_wp2_with fail
            refine (grs_any _ _ _ _ _ _ _ hg.gn hc.gn GA.out GC.out).mono ?_
            rintro e w25 ⟨⟨p1, rfl, hp1⟩, hb⟩
            replace Q := hideK (Q.out.keep hb)
            replace GA := hideK ((GA.out.keep hb).mono hb.size)
            replace GB := hideK ((GB.out.keep hb).mono hb.size)
            replace GC := hideK ((GC.out.keep hb).mono hb.size)
            clear hb
            go_wp2_with fail
            refine (grs_any _ _ _ _ _ _ _ hh.gn hc.gn GB.out GC.out).mono ?_
            rintro e w26 ⟨⟨p2, rfl, hp2⟩, hb⟩
            replace Q := hideK (Q.out.keep hb)
            replace GA := hideK ((GA.out.keep hb).mono hb.size)
            replace GB := hideK ((GB.out.keep hb).mono hb.size)
            replace GC := hideK ((GC.out.keep hb).mono hb.size)
            clear hb
            have HP1 := hideK hp1
            have HP2 := hideK hp2
            clear hp1 hp2
            cases p1
            · go_wp2_with fail
              refine (grs_any _ _ _ _ _ _ _ hc.gn hg.gn GC.out GA.out).mono ?_
              rintro e w27 ⟨⟨p3, rfl, hp3⟩, hb⟩
              replace Q := hideK (Q.out.keep hb)
              replace GA := hideK ((GA.out.keep hb).mono hb.size)
              replace GB := hideK ((GB.out.keep hb).mono hb.size)
              replace GC := hideK ((GC.out.keep hb).mono hb.size)
              clear hb
              go_wp2_with fail
              refine (grs_any _ _ _ _ _ _ _ hc.gn hh.gn GC.out GB.out).mono ?_
              rintro e w28 ⟨⟨p4, rfl, hp4⟩, hb⟩
              replace Q := hideK (Q.out.keep hb)
              replace GA := hideK ((GA.out.keep hb).mono hb.size)
              replace GB := hideK ((GB.out.keep hb).mono hb.size)
              replace GC := hideK ((GC.out.keep hb).mono hb.size)
              clear hb
              have HP3 := hideK hp3
              have HP4 := hideK hp4
              clear hp3 hp4
              cases p3
              · go_wp2_with fail
                go_ret
                exact ⟨rfl, Q.out.bl⟩
              · cases p4
                · go_wp2_with fail
                  go_ret
                  exact ⟨rfl, Q.out.bl⟩
                · go_wp2_with fail
                  go_ret
                  exact ⟨rfl, Q.out.bl⟩
            · cases p2
              · go_wp2_with fail
                refine (grs_any _ _ _ _ _ _ _ hc.gn hg.gn GC.out GA.out).mono ?_
                rintro e w29 ⟨⟨p3, rfl, hp3⟩, hb⟩
                replace Q := hideK (Q.out.keep hb)
                replace GA := hideK ((GA.out.keep hb).mono hb.size)
                replace GB := hideK ((GB.out.keep hb).mono hb.size)
                replace GC := hideK ((GC.out.keep hb).mono hb.size)
                clear hb
                go_wp2_with fail
                refine (grs_any _ _ _ _ _ _ _ hc.gn hh.gn GC.out GB.out).mono ?_
                rintro e w30 ⟨⟨p4, rfl, hp4⟩, hb⟩
                replace Q := hideK (Q.out.keep hb)
                replace GA := hideK ((GA.out.keep hb).mono hb.size)
                replace GB := hideK ((GB.out.keep hb).mono hb.size)
                replace GC := hideK ((GC.out.keep hb).mono hb.size)
                clear hb
                have HP3 := hideK hp3
                have HP4 := hideK hp4
                clear hp3 hp4
                cases p3
                · go_wp2_with fail
                  go_ret
                  exact ⟨rfl, Q.out.bl⟩
                · cases p4
                  · go_wp2_with fail
                    go_ret
                    exact ⟨rfl, Q.out.bl⟩
                  · go_wp2_with fail
                    go_ret
                    exact ⟨rfl, Q.out.bl⟩
              · exact absurd (fun k => (blP_ff ..).2 (HP2.out.1 (by trivial) k)) (hNJ.out _ hc.gn 0 hc.gn.pos (fun k => (blP_ff ..).2 (HP1.out.1 (by trivial) k)))
          · go_wp2_with fail
            refine (ofBadG hzu (CU.out _ Q.out.bl)).mono ?_
            rintro e w31 ⟨⟨zu, h1, rfl⟩, hb⟩
            replace Q := hideK (Q.out.keep hb)
            replace GA := hideK ((GA.out.keep hb).mono hb.size)
            replace GB := hideK ((GB.out.keep hb).mono hb.size)
            clear hb
            have h1b : (zu != 0) = true := by simpa using h1
            clear h1 z0 z1 z2 z3 z4
            go_wp2_with fail
            go_ret
            exact ⟨rfl, Q.out.bl⟩
        · have hIM := hideK hI
          have hSM := hideK hS
          have GM := hideK hG
          clear hI hS hG HM
          go_wp2_with fail
          refine (grsYes (fun k => (blP_tt ..).1 (hIM.out.u1 k)) (grs_any _ _ _ _ _ _ _ hSM.out.gn hg.gn GM.out GA.out)).mono ?_
          rintro e w32 ⟨rfl, hb⟩
          replace Q := hideK (Q.out.keep hb)
          replace GA := hideK ((GA.out.keep hb).mono hb.size)
          replace GB := hideK ((GB.out.keep hb).mono hb.size)
          replace GM := hideK ((GM.out.keep hb).mono hb.size)
          clear hb
          go_wp2_with fail
          refine (grsYes (fun k => (blP_tt ..).1 (hIM.out.u2 k)) (grs_any _ _ _ _ _ _ _ hSM.out.gn hh.gn GM.out GB.out)).mono ?_
          rintro e w33 ⟨rfl, hb⟩
          replace Q := hideK (Q.out.keep hb)
          replace GA := hideK ((GA.out.keep hb).mono hb.size)
          replace GB := hideK ((GB.out.keep hb).mono hb.size)
          replace GM := hideK ((GM.out.keep hb).mono hb.size)
          clear hb
          obtain ⟨z0, z1, z2, z3, z4⟩ := Q.out.z
          simp only [Nat.zero_add] at z1 z2 z3 z4
          by_cases hzu : chkTy u = 0
          · obtain ⟨c, hc⟩ := OFG_ex hzu
            go_wp2_with fail
            refine (ofGoodG hc (CU.out _ Q.out.bl)).mono ?_
            rintro e w34 ⟨⟨ac, cc, rfl, hGC⟩, hb⟩
            replace Q := hideK (Q.out.keep hb)
            replace GA := hideK ((GA.out.keep hb).mono hb.size)
            replace GB := hideK ((GB.out.keep hb).mono hb.size)
            replace GM := hideK ((GM.out.keep hb).mono hb.size)
            clear hb
            have GC := hideK hGC
            clear hGC z0 z1 z2 z3 z4
            go_wp2_with fail
            refine (grs_any _ _ _ _ _ _ _ hg.gn hc.gn GA.out GC.out).mono ?_
            rintro e w35 ⟨⟨p1, rfl, hp1⟩, hb⟩
            replace Q := hideK (Q.out.keep hb)
            replace GA := hideK ((GA.out.keep hb).mono hb.size)
            replace GB := hideK ((GB.out.keep hb).mono hb.size)
            replace GM := hideK ((GM.out.keep hb).mono hb.size)
            replace GC := hideK ((GC.out.keep hb).mono hb.size)
            clear hb
            go_wp2_with fail
            refine (grs_any _ _ _ _ _ _ _ hh.gn hc.gn GB.out GC.out).mono ?_
            rintro e w36 ⟨⟨p2, rfl, hp2⟩, hb⟩
            replace Q := hideK (Q.out.keep hb)
            replace GA := hideK ((GA.out.keep hb).mono hb.size)
            replace GB := hideK ((GB.out.keep hb).mono hb.size)
            replace GM := hideK ((GM.out.keep hb).mono hb.size)
            replace GC := hideK ((GC.out.keep hb).mono hb.size)
            clear hb
            have HP1 := hideK hp1
            have HP2 := hideK hp2
            clear hp1 hp2
            cases p1
            · go_wp2_with fail
              refine (grs_any _ _ _ _ _ _ _ hc.gn hg.gn GC.out GA.out).mono ?_
              rintro e w37 ⟨⟨p3, rfl, hp3⟩, hb⟩
              replace Q := hideK (Q.out.keep hb)
              replace GA := hideK ((GA.out.keep hb).mono hb.size)
              replace GB := hideK ((GB.out.keep hb).mono hb.size)
              replace GM := hideK ((GM.out.keep hb).mono hb.size)
              replace GC := hideK ((GC.out.keep hb).mono hb.size)
              clear hb
              go_wp2_with fail
              refine (grs_any _ _ _ _ _ _ _ hc.gn hh.gn GC.out GB.out).mono ?_
              rintro e w38 ⟨⟨p4, rfl, hp4⟩, hb⟩
              replace Q := hideK (Q.out.keep hb)
              replace GA := hideK ((GA.out.keep hb).mono hb.size)
              replace GB := hideK ((GB.out.keep hb).mono hb.size)
              replace GM := hideK ((GM.out.keep hb).mono hb.size)
              replace GC := hideK ((GC.out.keep hb).mono hb.size)
              clear hb
              have HP3 := hideK hp3
              have HP4 := hideK hp4
              clear hp3 hp4
              cases p3
              · go_wp2_with fail
                go_ret
                exact ⟨rfl, Q.out.bl⟩
              · cases p4
                · go_wp2_with fail
                  go_ret
                  exact ⟨rfl, Q.out.bl⟩
                · go_wp2_with fail
                  refine (grsYes (fun k => (blP_tt ..).1 (hIM.out.lo _ hc.gn 0 hc.gn.pos (fun k => (blP_tt ..).2 (HP3.out.1 (by trivial) k)) (fun k => (blP_tt ..).2 (HP4.out.1 (by trivial) k)) k)) (grs_any _ _ _ _ _ _ _ hc.gn hSM.out.gn GC.out GM.out)).mono ?_
                  rintro e w39 ⟨rfl, hb⟩
                  replace Q := hideK (Q.out.keep hb)
                  replace GA := hideK ((GA.out.keep hb).mono hb.size)
                  replace GB := hideK ((GB.out.keep hb).mono hb.size)
                  replace GM := hideK ((GM.out.keep hb).mono hb.size)
                  replace GC := hideK ((GC.out.keep hb).mono hb.size)
                  clear hb
                  go_wp2_with fail
                  go_ret
                  exact ⟨rfl, Q.out.bl⟩
            · cases p2
              · go_wp2_with fail
                refine (grs_any _ _ _ _ _ _ _ hc.gn hg.gn GC.out GA.out).mono ?_
                rintro e w40 ⟨⟨p3, rfl, hp3⟩, hb⟩
                replace Q := hideK (Q.out.keep hb)
                replace GA := hideK ((GA.out.keep hb).mono hb.size)
                replace GB := hideK ((GB.out.keep hb).mono hb.size)
                replace GM := hideK ((GM.out.keep hb).mono hb.size)
                replace GC := hideK ((GC.out.keep hb).mono hb.size)
                clear hb
                go_wp2_with fail
                refine (grs_any _ _ _ _ _ _ _ hc.gn hh.gn GC.out GB.out).mono ?_
                rintro e w41 ⟨⟨p4, rfl, hp4⟩, hb⟩
                replace Q := hideK (Q.out.keep hb)
                replace GA := hideK ((GA.out.keep hb).mono hb.size)
                replace GB := hideK ((GB.out.keep hb).mono hb.size)
                replace GM := hideK ((GM.out.keep hb).mono hb.size)
                replace GC := hideK ((GC.out.keep hb).mono hb.size)
                clear hb
                have HP3 := hideK hp3
                have HP4 := hideK hp4
                clear hp3 hp4
                cases p3
                · go_wp2_with fail
                  go_ret
                  exact ⟨rfl, Q.out.bl⟩
                · cases p4
                  · go_wp2_with fail
                    go_ret
                    exact ⟨rfl, Q.out.bl⟩
                  · go_wp2_with fail
                    refine (grsYes (fun k => (blP_tt ..).1 (hIM.out.lo _ hc.gn 0 hc.gn.pos (fun k => (blP_tt ..).2 (HP3.out.1 (by trivial) k)) (fun k => (blP_tt ..).2 (HP4.out.1 (by trivial) k)) k)) (grs_any _ _ _ _ _ _ _ hc.gn hSM.out.gn GC.out GM.out)).mono ?_
                    rintro e w42 ⟨rfl, hb⟩
                    replace Q := hideK (Q.out.keep hb)
                    replace GA := hideK ((GA.out.keep hb).mono hb.size)
                    replace GB := hideK ((GB.out.keep hb).mono hb.size)
                    replace GM := hideK ((GM.out.keep hb).mono hb.size)
                    replace GC := hideK ((GC.out.keep hb).mono hb.size)
                    clear hb
                    go_wp2_with fail
                    go_ret
                    exact ⟨rfl, Q.out.bl⟩
              · exact absurd (fun k => (blP_ff ..).2 (HP2.out.1 (by trivial) k)) (hNJ.out _ hc.gn 0 hc.gn.pos (fun k => (blP_ff ..).2 (HP1.out.1 (by trivial) k)))
          · go_wp2_with fail
            refine (ofBadG hzu (CU.out _ Q.out.bl)).mono ?_
            rintro e w43 ⟨⟨zu, h1, rfl⟩, hb⟩
            replace Q := hideK (Q.out.keep hb)
            replace GA := hideK ((GA.out.keep hb).mono hb.size)
            replace GB := hideK ((GB.out.keep hb).mono hb.size)
            replace GM := hideK ((GM.out.keep hb).mono hb.size)
            clear hb
            have h1b : (zu != 0) = true := by simpa using h1
            clear h1 z0 z1 z2 z3 z4
            go_wp2_with fail
            go_ret
            exact ⟨rfl, Q.out.bl⟩
      · clear HJ
        rcases HM.out.three hg.gn hh.gn with ⟨rfl, rfl, rfl, hN⟩ | ⟨rfl, rfl, rfl⟩ | ⟨rfl, M, hI, hS, rfl, hG⟩
        · have hNM := hideK hN
          clear hN HM
          obtain ⟨z0, z1, z2, z3, z4⟩ := Q.out.z
          simp only [Nat.zero_add] at z1 z2 z3 z4
          by_cases hzu : chkTy u = 0
          · obtain ⟨c, hc⟩ := OFG_ex hzu
            go_wp2_with fail
            refine (ofGoodG hc (CU.out _ Q.out.bl)).mono ?_
            rintro e w44 ⟨⟨ac, cc, rfl, hGC⟩, hb⟩
            replace Q := hideK (Q.out.keep hb)
            replace GA := hideK ((GA.out.keep hb).mono hb.size)
            replace GB := hideK ((GB.out.keep hb).mono hb.size)
            clear hb
            have GC := hideK hGC
            clear hGC z0 z1 z2 z3 z4
            go_wp2_with fail
            refine (grs_any _ _ _ _ _ _ _ hg.gn hc.gn GA.out GC.out).mono ?_
            rintro e w45 ⟨⟨p1, rfl, hp1⟩, hb⟩
            replace Q := hideK (Q.out.keep hb)
            replace GA := hideK ((GA.out.keep hb).mono hb.size)
            replace GB := hideK ((GB.out.keep hb).mono hb.size)
            replace GC := hideK ((GC.out.keep hb).mono hb.size)
            clear hb
            go_wp2_with fail
            refine (grs_any _ _ _ _ _ _ _ hh.gn hc.gn GB.out GC.out).mono ?_
            rintro e w46 ⟨⟨p2, rfl, hp2⟩, hb⟩
            replace Q := hideK (Q.out.keep hb)
            replace GA := hideK ((GA.out.keep hb).mono hb.size)
            replace GB := hideK ((GB.out.keep hb).mono hb.size)
            replace GC := hideK ((GC.out.keep hb).mono hb.size)
            clear hb
            have HP1 := hideK hp1
            have HP2 := hideK hp2
            clear hp1 hp2
            cases p1
            · go_wp2_with fail
              refine (grs_any _ _ _ _ _ _ _ hc.gn hg.gn GC.out GA.out).mono ?_
              rintro e w47 ⟨⟨p3, rfl, hp3⟩, hb⟩
              replace Q := hideK (Q.out.keep hb)
              replace GA := hideK ((GA.out.keep hb).mono hb.size)
              replace GB := hideK ((GB.out.keep hb).mono hb.size)
              replace GC := hideK ((GC.out.keep hb).mono hb.size)
              clear hb
              go_wp2_with fail
              refine (grs_any _ _ _ _ _ _ _ hc.gn hh.gn GC.out GB.out).mono ?_
              rintro e w48 ⟨⟨p4, rfl, hp4⟩, hb⟩
              replace Q := hideK (Q.out.keep hb)
              replace GA := hideK ((GA.out.keep hb).mono hb.size)
              replace GB := hideK ((GB.out.keep hb).mono hb.size)
              replace GC := hideK ((GC.out.keep hb).mono hb.size)
              clear hb
              have HP3 := hideK hp3
              have HP4 := hideK hp4
              clear hp3 hp4
              cases p3
              · go_wp2_with fail
                go_ret
                exact ⟨rfl, Q.out.bl⟩
              · cases p4
                · go_wp2_with fail
                  go_ret
                  exact ⟨rfl, Q.out.bl⟩
                · exact absurd (fun k => (blP_tt ..).2 (HP4.out.1 (by trivial) k)) (hNM.out _ hc.gn 0 hc.gn.pos (fun k => (blP_tt ..).2 (HP3.out.1 (by trivial) k)))
            · cases p2
              · go_wp2_with fail
                refine (grs_any _ _ _ _ _ _ _ hc.gn hg.gn GC.out GA.out).mono ?_
                rintro e w49 ⟨⟨p3, rfl, hp3⟩, hb⟩
                replace Q := hideK (Q.out.keep hb)
                replace GA := hideK ((GA.out.keep hb).mono hb.size)
                replace GB := hideK ((GB.out.keep hb).mono hb.size)
                replace GC := hideK ((GC.out.keep hb).mono hb.size)
                clear hb
                go_wp2_with fail
                refine (grs_any _ _ _ _ _ _ _ hc.gn hh.gn GC.out GB.out).mono ?_
                rintro e w50 ⟨⟨p4, rfl, hp4⟩, hb⟩
                replace Q := hideK (Q.out.keep hb)
                replace GA := hideK ((GA.out.keep hb).mono hb.size)
                replace GB := hideK ((GB.out.keep hb).mono hb.size)
                replace GC := hideK ((GC.out.keep hb).mono hb.size)
                clear hb
                have HP3 := hideK hp3
                have HP4 := hideK hp4
                clear hp3 hp4
                cases p3
                · go_wp2_with fail
                  go_ret
                  exact ⟨rfl, Q.out.bl⟩
                · cases p4
                  · go_wp2_with fail
                    go_ret
                    exact ⟨rfl, Q.out.bl⟩
                  · exact absurd (fun k => (blP_tt ..).2 (HP4.out.1 (by trivial) k)) (hNM.out _ hc.gn 0 hc.gn.pos (fun k => (blP_tt ..).2 (HP3.out.1 (by trivial) k)))
              · go_wp2_with fail
                refine (grs_any _ _ _ _ _ _ _ hc.gn hg.gn GC.out GA.out).mono ?_
                rintro e w51 ⟨⟨p3, rfl, hp3⟩, hb⟩
                replace Q := hideK (Q.out.keep hb)
                replace GA := hideK ((GA.out.keep hb).mono hb.size)
                replace GB := hideK ((GB.out.keep hb).mono hb.size)
                replace GC := hideK ((GC.out.keep hb).mono hb.size)
                clear hb
                go_wp2_with fail
                refine (grs_any _ _ _ _ _ _ _ hc.gn hh.gn GC.out GB.out).mono ?_
                rintro e w52 ⟨⟨p4, rfl, hp4⟩, hb⟩
                replace Q := hideK (Q.out.keep hb)
                replace GA := hideK ((GA.out.keep hb).mono hb.size)
                replace GB := hideK ((GB.out.keep hb).mono hb.size)
                replace GC := hideK ((GC.out.keep hb).mono hb.size)
                clear hb
                have HP3 := hideK hp3
                have HP4 := hideK hp4
                clear hp3 hp4
                cases p3
                · go_wp2_with fail
                  go_ret
                  exact ⟨rfl, Q.out.bl⟩
                · cases p4
                  · go_wp2_with fail
                    go_ret
                    exact ⟨rfl, Q.out.bl⟩
                  · exact absurd (fun k => (blP_tt ..).2 (HP4.out.1 (by trivial) k)) (hNM.out _ hc.gn 0 hc.gn.pos (fun k => (blP_tt ..).2 (HP3.out.1 (by trivial) k)))
          · go_wp2_with fail
            refine (ofBadG hzu (CU.out _ Q.out.bl)).mono ?_
            rintro e w53 ⟨⟨zu, h1, rfl⟩, hb⟩
            replace Q := hideK (Q.out.keep hb)
            replace GA := hideK ((GA.out.keep hb).mono hb.size)
            replace GB := hideK ((GB.out.keep hb).mono hb.size)
            clear hb
            have h1b : (zu != 0) = true := by simpa using h1
            clear h1 z0 z1 z2 z3 z4
            go_wp2_with fail
            go_ret
            exact ⟨rfl, Q.out.bl⟩
        · clear HM
          obtain ⟨z0, z1, z2, z3, z4⟩ := Q.out.z
          simp only [Nat.zero_add] at z1 z2 z3 z4
          by_cases hzu : chkTy u = 0
          · obtain ⟨c, hc⟩ := OFG_ex hzu
            go_wp2_with fail
            refine (ofGoodG hc (CU.out _ Q.out.bl)).mono ?_
            rintro e w54 ⟨⟨ac, cc, rfl, hGC⟩, hb⟩
            replace Q := hideK (Q.out.keep hb)
            replace GA := hideK ((GA.out.keep hb).mono hb.size)
            replace GB := hideK ((GB.out.keep hb).mono hb.size)
            clear hb
            have GC := hideK hGC
            clear hGC z0 z1 z2 z3 z4
            go_wp2_with fail
            refine (grs_any _ _ _ _ _ _ _ hg.gn hc.gn GA.out GC.out).mono ?_
            rintro e w55 ⟨⟨p1, rfl, hp1⟩, hb⟩
            replace Q := hideK (Q.out.keep hb)
            replace GA := hideK ((GA.out.keep hb).mono hb.size)
            replace GB := hideK ((GB.out.keep hb).mono hb.size)
            replace GC := hideK ((GC.out.keep hb).mono hb.size)
            clear hb
            go_wp2_with fail
            refine (grs_any _ _ _ _ _ _ _ hh.gn hc.gn GB.out GC.out).mono ?_
            rintro e w56 ⟨⟨p2, rfl, hp2⟩, hb⟩
            replace Q := hideK (Q.out.keep hb)
            replace GA := hideK ((GA.out.keep hb).mono hb.size)
            replace GB := hideK ((GB.out.keep hb).mono hb.size)
            replace GC := hideK ((GC.out.keep hb).mono hb.size)
            clear hb
            have HP1 := hideK hp1
            have HP2 := hideK hp2
            clear hp1 hp2
            cases p1
            · go_wp2_with fail
              refine (grs_any _ _ _ _ _ _ _ hc.gn hg.gn GC.out GA.out).mono ?_
              rintro e w57 ⟨⟨p3, rfl, hp3⟩, hb⟩
              replace Q := hideK (Q.out.keep hb)
              replace GA := hideK ((GA.out.keep hb).mono hb.size)
              replace GB := hideK ((GB.out.keep hb).mono hb.size)
              replace GC := hideK ((GC.out.keep hb).mono hb.size)
              clear hb
              go_wp2_with fail
              refine (grs_any _ _ _ _ _ _ _ hc.gn hh.gn GC.out GB.out).mono ?_
              rintro e w58 ⟨⟨p4, rfl, hp4⟩, hb⟩
              replace Q := hideK (Q.out.keep hb)
              replace GA := hideK ((GA.out.keep hb).mono hb.size)
              replace GB := hideK ((GB.out.keep hb).mono hb.size)
              replace GC := hideK ((GC.out.keep hb).mono hb.size)
              clear hb
              have HP3 := hideK hp3
              have HP4 := hideK hp4
              clear hp3 hp4
              cases p3
              · go_wp2_with fail
                go_ret
                exact ⟨rfl, Q.out.bl⟩
              · cases p4
                · go_wp2_with fail
                  go_ret
                  exact ⟨rfl, Q.out.bl⟩
                · go_wp2_with fail
                  go_ret
                  exact ⟨rfl, Q.out.bl⟩
            · cases p2
              · go_wp2_with fail
                refine (grs_any _ _ _ _ _ _ _ hc.gn hg.gn GC.out GA.out).mono ?_
                rintro e w59 ⟨⟨p3, rfl, hp3⟩, hb⟩
                replace Q := hideK (Q.out.keep hb)
                replace GA := hideK ((GA.out.keep hb).mono hb.size)
                replace GB := hideK ((GB.out.keep hb).mono hb.size)
                replace GC := hideK ((GC.out.keep hb).mono hb.size)
                clear hb
                go_wp2_with fail
                refine (grs_any _ _ _ _ _ _ _ hc.gn hh.gn GC.out GB.out).mono ?_
                rintro e w60 ⟨⟨p4, rfl, hp4⟩, hb⟩
                replace Q := hideK (Q.out.keep hb)
                replace GA := hideK ((GA.out.keep hb).mono hb.size)
                replace GB := hideK ((GB.out.keep hb).mono hb.size)
                replace GC := hideK ((GC.out.keep hb).mono hb.size)
                clear hb
                have HP3 := hideK hp3
                have HP4 := hideK hp4
                clear hp3 hp4
                cases p3
                · go_wp2_with fail
                  go_ret
                  exact ⟨rfl, Q.out.bl⟩
                · cases p4
                  · go_wp2_with fail
                    go_ret
                    exact ⟨rfl, Q.out.bl⟩
                  · go_wp2_with fail
                    go_ret
                    exact ⟨rfl, Q.out.bl⟩
              · go_wp2_with fail
                refine (grs_any _ _ _ _ _ _ _ hc.gn hg.gn GC.out GA.out).mono ?_
                rintro e w61 ⟨⟨p3, rfl, hp3⟩, hb⟩
                replace Q := hideK (Q.out.keep hb)
                replace GA := hideK ((GA.out.keep hb).mono hb.size)
                replace GB := hideK ((GB.out.keep hb).mono hb.size)
                replace GC := hideK ((GC.out.keep hb).mono hb.size)
                clear hb
                go_wp2_with fail
                refine (grs_any _ _ _ _ _ _ _ hc.gn hh.gn GC.out GB.out).mono ?_
                rintro e w62 ⟨⟨p4, rfl, hp4⟩, hb⟩
                replace Q := hideK (Q.out.keep hb)
                replace GA := hideK ((GA.out.keep hb).mono hb.size)
                replace GB := hideK ((GB.out.keep hb).mono hb.size)
                replace GC := hideK ((GC.out.keep hb).mono hb.size)
                clear hb
                have HP3 := hideK hp3
                have HP4 := hideK hp4
                clear hp3 hp4
                cases p3
                · go_wp2_with fail
                  go_ret
                  exact ⟨rfl, Q.out.bl⟩
                · cases p4
                  · go_wp2_with fail
                    go_ret
                    exact ⟨rfl, Q.out.bl⟩
                  · go_wp2_with fail
                    go_ret
                    exact ⟨rfl, Q.out.bl⟩
          · go_wp2_with fail
            refine (ofBadG hzu (CU.out _ Q.out.bl)).mono ?_
            rintro e w63 ⟨⟨zu, h1, rfl⟩, hb⟩
            replace Q := hideK (Q.out.keep hb)
            replace GA := hideK ((GA.out.keep hb).mono hb.size)
            replace GB := hideK ((GB.out.keep hb).mono hb.size)
            clear hb
            have h1b : (zu != 0) = true := by simpa using h1
            clear h1 z0 z1 z2 z3 z4
            go_wp2_with fail
            go_ret
            exact ⟨rfl, Q.out.bl⟩
        · have hIM := hideK hI
          have hSM := hideK hS
          have GM := hideK hG
          clear hI hS hG HM
          go_wp2_with fail
          refine (grsYes (fun k => (blP_tt ..).1 (hIM.out.u1 k)) (grs_any _ _ _ _ _ _ _ hSM.out.gn hg.gn GM.out GA.out)).mono ?_
          rintro e w64 ⟨rfl, hb⟩
          replace Q := hideK (Q.out.keep hb)
          replace GA := hideK ((GA.out.keep hb).mono hb.size)
          replace GB := hideK ((GB.out.keep hb).mono hb.size)
          replace GM := hideK ((GM.out.keep hb).mono hb.size)
          clear hb
          go_wp2_with fail
          refine (grsYes (fun k => (blP_tt ..).1 (hIM.out.u2 k)) (grs_any _ _ _ _ _ _ _ hSM.out.gn hh.gn GM.out GB.out)).mono ?_
          rintro e w65 ⟨rfl, hb⟩
          replace Q := hideK (Q.out.keep hb)
          replace GA := hideK ((GA.out.keep hb).mono hb.size)
          replace GB := hideK ((GB.out.keep hb).mono hb.size)
          replace GM := hideK ((GM.out.keep hb).mono hb.size)
          clear hb
          obtain ⟨z0, z1, z2, z3, z4⟩ := Q.out.z
          simp only [Nat.zero_add] at z1 z2 z3 z4
          by_cases hzu : chkTy u = 0
          · obtain ⟨c, hc⟩ := OFG_ex hzu
            go_wp2_with fail
            refine (ofGoodG hc (CU.out _ Q.out.bl)).mono ?_
            rintro e w66 ⟨⟨ac, cc, rfl, hGC⟩, hb⟩
            replace Q := hideK (Q.out.keep hb)
            replace GA := hideK ((GA.out.keep hb).mono hb.size)
            replace GB := hideK ((GB.out.keep hb).mono hb.size)
            replace GM := hideK ((GM.out.keep hb).mono hb.size)
            clear hb
            have GC := hideK hGC
            clear hGC z0 z1 z2 z3 z4
            go_wp2_with fail
            refine (grs_any _ _ _ _ _ _ _ hg.gn hc.gn GA.out GC.out).mono ?_
            rintro e w67 ⟨⟨p1, rfl, hp1⟩, hb⟩
            replace Q := hideK (Q.out.keep hb)
            replace GA := hideK ((GA.out.keep hb).mono hb.size)
            replace GB := hideK ((GB.out.keep hb).mono hb.size)
            replace GM := hideK ((GM.out.keep hb).mono hb.size)
            replace GC := hideK ((GC.out.keep hb).mono hb.size)
            clear hb
            go_wp2_with fail
            refine (grs_any _ _ _ _ _ _ _ hh.gn hc.gn GB.out GC.out).mono ?_
            rintro e w68 ⟨⟨p2, rfl, hp2⟩, hb⟩
            replace Q := hideK (Q.out.keep hb)
            replace GA := hideK ((GA.out.keep hb).mono hb.size)
            replace GB := hideK ((GB.out.keep hb).mono hb.size)
            replace GM := hideK ((GM.out.keep hb).mono hb.size)
            replace GC := hideK ((GC.out.keep hb).mono hb.size)
            clear hb
            have HP1 := hideK hp1
            have HP2 := hideK hp2
            clear hp1 hp2
            cases p1
            · go_wp2_with fail
              refine (grs_any _ _ _ _ _ _ _ hc.gn hg.gn GC.out GA.out).mono ?_
              rintro e w69 ⟨⟨p3, rfl, hp3⟩, hb⟩
              replace Q := hideK (Q.out.keep hb)
              replace GA := hideK ((GA.out.keep hb).mono hb.size)
              replace GB := hideK ((GB.out.keep hb).mono hb.size)
              replace GM := hideK ((GM.out.keep hb).mono hb.size)
              replace GC := hideK ((GC.out.keep hb).mono hb.size)
              clear hb
              go_wp2_with fail
              refine (grs_any _ _ _ _ _ _ _ hc.gn hh.gn GC.out GB.out).mono ?_
              rintro e w70 ⟨⟨p4, rfl, hp4⟩, hb⟩
              replace Q := hideK (Q.out.keep hb)
              replace GA := hideK ((GA.out.keep hb).mono hb.size)
              replace GB := hideK ((GB.out.keep hb).mono hb.size)
              replace GM := hideK ((GM.out.keep hb).mono hb.size)
              replace GC := hideK ((GC.out.keep hb).mono hb.size)
              clear hb
              have HP3 := hideK hp3
              have HP4 := hideK hp4
              clear hp3 hp4
              cases p3
              · go_wp2_with fail
                go_ret
                exact ⟨rfl, Q.out.bl⟩
              · cases p4
                · go_wp2_with fail
                  go_ret
                  exact ⟨rfl, Q.out.bl⟩
                · go_wp2_with fail
                  refine (grsYes (fun k => (blP_tt ..).1 (hIM.out.lo _ hc.gn 0 hc.gn.pos (fun k => (blP_tt ..).2 (HP3.out.1 (by trivial) k)) (fun k => (blP_tt ..).2 (HP4.out.1 (by trivial) k)) k)) (grs_any _ _ _ _ _ _ _ hc.gn hSM.out.gn GC.out GM.out)).mono ?_
                  rintro e w71 ⟨rfl, hb⟩
                  replace Q := hideK (Q.out.keep hb)
                  replace GA := hideK ((GA.out.keep hb).mono hb.size)
                  replace GB := hideK ((GB.out.keep hb).mono hb.size)
                  replace GM := hideK ((GM.out.keep hb).mono hb.size)
                  replace GC := hideK ((GC.out.keep hb).mono hb.size)
                  clear hb
                  go_wp2_with fail
                  go_ret
                  exact ⟨rfl, Q.out.bl⟩
            · cases p2
              · go_wp2_with fail
                refine (grs_any _ _ _ _ _ _ _ hc.gn hg.gn GC.out GA.out).mono ?_
                rintro e w72 ⟨⟨p3, rfl, hp3⟩, hb⟩
                replace Q := hideK (Q.out.keep hb)
                replace GA := hideK ((GA.out.keep hb).mono hb.size)
                replace GB := hideK ((GB.out.keep hb).mono hb.size)
                replace GM := hideK ((GM.out.keep hb).mono hb.size)
                replace GC := hideK ((GC.out.keep hb).mono hb.size)
                clear hb
                go_wp2_with fail
                refine (grs_any _ _ _ _ _ _ _ hc.gn hh.gn GC.out GB.out).mono ?_
                rintro e w73 ⟨⟨p4, rfl, hp4⟩, hb⟩
                replace Q := hideK (Q.out.keep hb)
                replace GA := hideK ((GA.out.keep hb).mono hb.size)
                replace GB := hideK ((GB.out.keep hb).mono hb.size)
                replace GM := hideK ((GM.out.keep hb).mono hb.size)
                replace GC := hideK ((GC.out.keep hb).mono hb.size)
                clear hb
                have HP3 := hideK hp3
                have HP4 := hideK hp4
                clear hp3 hp4
                cases p3
                · go_wp2_with fail
                  go_ret
                  exact ⟨rfl, Q.out.bl⟩
                · cases p4
                  · go_wp2_with fail
                    go_ret
                    exact ⟨rfl, Q.out.bl⟩
                  · go_wp2_with fail
                    refine (grsYes (fun k => (blP_tt ..).1 (hIM.out.lo _ hc.gn 0 hc.gn.pos (fun k => (blP_tt ..).2 (HP3.out.1 (by trivial) k)) (fun k => (blP_tt ..).2 (HP4.out.1 (by trivial) k)) k)) (grs_any _ _ _ _ _ _ _ hc.gn hSM.out.gn GC.out GM.out)).mono ?_
                    rintro e w74 ⟨rfl, hb⟩
                    replace Q := hideK (Q.out.keep hb)
                    replace GA := hideK ((GA.out.keep hb).mono hb.size)
                    replace GB := hideK ((GB.out.keep hb).mono hb.size)
                    replace GM := hideK ((GM.out.keep hb).mono hb.size)
                    replace GC := hideK ((GC.out.keep hb).mono hb.size)
                    clear hb
                    go_wp2_with fail
                    go_ret
                    exact ⟨rfl, Q.out.bl⟩
              · go_wp2_with fail
                refine (grs_any _ _ _ _ _ _ _ hc.gn hg.gn GC.out GA.out).mono ?_
                rintro e w75 ⟨⟨p3, rfl, hp3⟩, hb⟩
                replace Q := hideK (Q.out.keep hb)
                replace GA := hideK ((GA.out.keep hb).mono hb.size)
                replace GB := hideK ((GB.out.keep hb).mono hb.size)
                replace GM := hideK ((GM.out.keep hb).mono hb.size)
                replace GC := hideK ((GC.out.keep hb).mono hb.size)
                clear hb
                go_wp2_with fail
                refine (grs_any _ _ _ _ _ _ _ hc.gn hh.gn GC.out GB.out).mono ?_
                rintro e w76 ⟨⟨p4, rfl, hp4⟩, hb⟩
                replace Q := hideK (Q.out.keep hb)
                replace GA := hideK ((GA.out.keep hb).mono hb.size)
                replace GB := hideK ((GB.out.keep hb).mono hb.size)
                replace GM := hideK ((GM.out.keep hb).mono hb.size)
                replace GC := hideK ((GC.out.keep hb).mono hb.size)
                clear hb
                have HP3 := hideK hp3
                have HP4 := hideK hp4
                clear hp3 hp4
                cases p3
                · go_wp2_with fail
                  go_ret
                  exact ⟨rfl, Q.out.bl⟩
                · cases p4
                  · go_wp2_with fail
                    go_ret
                    exact ⟨rfl, Q.out.bl⟩
                  · go_wp2_with fail
                    refine (grsYes (fun k => (blP_tt ..).1 (hIM.out.lo _ hc.gn 0 hc.gn.pos (fun k => (blP_tt ..).2 (HP3.out.1 (by trivial) k)) (fun k => (blP_tt ..).2 (HP4.out.1 (by trivial) k)) k)) (grs_any _ _ _ _ _ _ _ hc.gn hSM.out.gn GC.out GM.out)).mono ?_
                    rintro e w77 ⟨rfl, hb⟩
                    replace Q := hideK (Q.out.keep hb)
                    replace GA := hideK ((GA.out.keep hb).mono hb.size)
                    replace GB := hideK ((GB.out.keep hb).mono hb.size)
                    replace GM := hideK ((GM.out.keep hb).mono hb.size)
                    replace GC := hideK ((GC.out.keep hb).mono hb.size)
                    clear hb
                    go_wp2_with fail
                    go_ret
                    exact ⟨rfl, Q.out.bl⟩
          · go_wp2_with fail
            refine (ofBadG hzu (CU.out _ Q.out.bl)).mono ?_
            rintro e w78 ⟨⟨zu, h1, rfl⟩, hb⟩
            replace Q := hideK (Q.out.keep hb)
            replace GA := hideK ((GA.out.keep hb).mono hb.size)
            replace GB := hideK ((GB.out.keep hb).mono hb.size)
            replace GM := hideK ((GM.out.keep hb).mono hb.size)
            clear hb
            have h1b : (zu != 0) = true := by simpa using h1
            clear h1 z0 z1 z2 z3 z4
            go_wp2_with fail
            go_ret
            exact ⟨rfl, Q.out.bl⟩
      · have hIJ := hideK hI
        have hSJ := hideK hS
        have GJ := hideK hG
        clear hI hS hG HJ
        go_wp2_with fail
        refine (grsYes (fun k => (blP_ff ..).1 (hIJ.out.u1 k)) (grs_any _ _ _ _ _ _ _ hg.gn hSJ.out.gn GA.out GJ.out)).mono ?_
        rintro e w79 ⟨rfl, hb⟩
        replace Q := hideK (Q.out.keep hb)
        replace HM := hideK (HM.out.keep hb)
        replace GA := hideK ((GA.out.keep hb).mono hb.size)
        replace GB := hideK ((GB.out.keep hb).mono hb.size)
        replace GJ := hideK ((GJ.out.keep hb).mono hb.size)
        clear hb
        go_wp2_with fail
        refine (grsYes (fun k => (blP_ff ..).1 (hIJ.out.u2 k)) (grs_any _ _ _ _ _ _ _ hh.gn hSJ.out.gn GB.out GJ.out)).mono ?_
        rintro e w80 ⟨rfl, hb⟩
        replace Q := hideK (Q.out.keep hb)
        replace HM := hideK (HM.out.keep hb)
        replace GA := hideK ((GA.out.keep hb).mono hb.size)
        replace GB := hideK ((GB.out.keep hb).mono hb.size)
        replace GJ := hideK ((GJ.out.keep hb).mono hb.size)
        clear hb
        rcases HM.out.three hg.gn hh.gn with ⟨rfl, rfl, rfl, hN⟩ | ⟨rfl, rfl, rfl⟩ | ⟨rfl, M, hI, hS, rfl, hG⟩
        · have hNM := hideK hN
          clear hN HM
          obtain ⟨z0, z1, z2, z3, z4⟩ := Q.out.z
          simp only [Nat.zero_add] at z1 z2 z3 z4
          by_cases hzu : chkTy u = 0
          · obtain ⟨c, hc⟩ := OFG_ex hzu
            go_wp2_with fail
            refine (ofGoodG hc (CU.out _ Q.out.bl)).mono ?_
            rintro e w81 ⟨⟨ac, cc, rfl, hGC⟩, hb⟩
            replace Q := hideK (Q.out.keep hb)
            replace GA := hideK ((GA.out.keep hb).mono hb.size)
            replace GB := hideK ((GB.out.keep hb).mono hb.size)
            replace GJ := hideK ((GJ.out.keep hb).mono hb.size)
            clear hb
            have GC := hideK hGC
            clear hGC z0 z1 z2 z3 z4
            go_wp2_with fail
            refine (grs_any _ _ _ _ _ _ _ hg.gn hc.gn GA.out GC.out).mono ?_
            rintro e w82 ⟨⟨p1, rfl, hp1⟩, hb⟩
            replace Q := hideK (Q.out.keep hb)
            replace GA := hideK ((GA.out.keep hb).mono hb.size)
            replace GB := hideK ((GB.out.keep hb).mono hb.size)
            replace GJ := hideK ((GJ.out.keep hb).mono hb.size)
            replace GC := hideK ((GC.out.keep hb).mono hb.size)
            clear hb
            go_wp2_with fail
            refine (grs_any _ _ _ _ _ _ _ hh.gn hc.gn GB.out GC.out).mono ?_
            rintro e w83 ⟨⟨p2, rfl, hp2⟩, hb⟩
            replace Q := hideK (Q.out.keep hb)
            replace GA := hideK ((GA.out.keep hb).mono hb.size)
            replace GB := hideK ((GB.out.keep hb).mono hb.size)
            replace GJ := hideK ((GJ.out.keep hb).mono hb.size)
            replace GC := hideK ((GC.out.keep hb).mono hb.size)
            clear hb
            have HP1 := hideK hp1
            have HP2 := hideK hp2
            clear hp1 hp2
            cases p1
            · go_wp2_with fail
              refine (grs_any _ _ _ _ _ _ _ hc.gn hg.gn GC.out GA.out).mono ?_
              rintro e w84 ⟨⟨p3, rfl, hp3⟩, hb⟩
              replace Q := hideK (Q.out.keep hb)
              replace GA := hideK ((GA.out.keep hb).mono hb.size)
              replace GB := hideK ((GB.out.keep hb).mono hb.size)
              replace GJ := hideK ((GJ.out.keep hb).mono hb.size)
              replace GC := hideK ((GC.out.keep hb).mono hb.size)
              clear hb
              go_wp2_with fail
              refine (grs_any _ _ _ _ _ _ _ hc.gn hh.gn GC.out GB.out).mono ?_
              rintro e w85 ⟨⟨p4, rfl, hp4⟩, hb⟩
              replace Q := hideK (Q.out.keep hb)
              replace GA := hideK ((GA.out.keep hb).mono hb.size)
              replace GB := hideK ((GB.out.keep hb).mono hb.size)
              replace GJ := hideK ((GJ.out.keep hb).mono hb.size)
              replace GC := hideK ((GC.out.keep hb).mono hb.size)
              clear hb
              have HP3 := hideK hp3
              have HP4 := hideK hp4
              clear hp3 hp4
              cases p3
              · go_wp2_with fail
                go_ret
                exact ⟨rfl, Q.out.bl⟩
              · cases p4
                · go_wp2_with fail
                  go_ret
                  exact ⟨rfl, Q.out.bl⟩
                · exact absurd (fun k => (blP_tt ..).2 (HP4.out.1 (by trivial) k)) (hNM.out _ hc.gn 0 hc.gn.pos (fun k => (blP_tt ..).2 (HP3.out.1 (by trivial) k)))
            · cases p2
              · go_wp2_with fail
                refine (grs_any _ _ _ _ _ _ _ hc.gn hg.gn GC.out GA.out).mono ?_
                rintro e w86 ⟨⟨p3, rfl, hp3⟩, hb⟩
                replace Q := hideK (Q.out.keep hb)
                replace GA := hideK ((GA.out.keep hb).mono hb.size)
                replace GB := hideK ((GB.out.keep hb).mono hb.size)
                replace GJ := hideK ((GJ.out.keep hb).mono hb.size)
                replace GC := hideK ((GC.out.keep hb).mono hb.size)
                clear hb
                go_wp2_with fail
                refine (grs_any _ _ _ _ _ _ _ hc.gn hh.gn GC.out GB.out).mono ?_
                rintro e w87 ⟨⟨p4, rfl, hp4⟩, hb⟩
                replace Q := hideK (Q.out.keep hb)
                replace GA := hideK ((GA.out.keep hb).mono hb.size)
                replace GB := hideK ((GB.out.keep hb).mono hb.size)
                replace GJ := hideK ((GJ.out.keep hb).mono hb.size)
                replace GC := hideK ((GC.out.keep hb).mono hb.size)
                clear hb
                have HP3 := hideK hp3
                have HP4 := hideK hp4
                clear hp3 hp4
                cases p3
                · go_wp2_with fail
                  go_ret
                  exact ⟨rfl, Q.out.bl⟩
                · cases p4
                  · go_wp2_with fail
                    go_ret
                    exact ⟨rfl, Q.out.bl⟩
                  · exact absurd (fun k => (blP_tt ..).2 (HP4.out.1 (by trivial) k)) (hNM.out _ hc.gn 0 hc.gn.pos (fun k => (blP_tt ..).2 (HP3.out.1 (by trivial) k)))
              · go_wp2_with fail
                refine (grsYes (fun k => (blP_ff ..).1 (hIJ.out.lo _ hc.gn 0 hc.gn.pos (fun k => (blP_ff ..).2 (HP1.out.1 (by trivial) k)) (fun k => (blP_ff ..).2 (HP2.out.1 (by trivial) k)) k)) (grs_any _ _ _ _ _ _ _ hSJ.out.gn hc.gn GJ.out GC.out)).mono ?_
                rintro e w88 ⟨rfl, hb⟩
                replace Q := hideK (Q.out.keep hb)
                replace GA := hideK ((GA.out.keep hb).mono hb.size)
                replace GB := hideK ((GB.out.keep hb).mono hb.size)
                replace GJ := hideK ((GJ.out.keep hb).mono hb.size)
                replace GC := hideK ((GC.out.keep hb).mono hb.size)
                clear hb
                go_wp2_with fail
                refine (grs_any _ _ _ _ _ _ _ hc.gn hg.gn GC.out GA.out).mono ?_
                rintro e w89 ⟨⟨p3, rfl, hp3⟩, hb⟩
                replace Q := hideK (Q.out.keep hb)
                replace GA := hideK ((GA.out.keep hb).mono hb.size)
                replace GB := hideK ((GB.out.keep hb).mono hb.size)
                replace GJ := hideK ((GJ.out.keep hb).mono hb.size)
                replace GC := hideK ((GC.out.keep hb).mono hb.size)
                clear hb
                go_wp2_with fail
                refine (grs_any _ _ _ _ _ _ _ hc.gn hh.gn GC.out GB.out).mono ?_
                rintro e w90 ⟨⟨p4, rfl, hp4⟩, hb⟩
                replace Q := hideK (Q.out.keep hb)
                replace GA := hideK ((GA.out.keep hb).mono hb.size)
                replace GB := hideK ((GB.out.keep hb).mono hb.size)
                replace GJ := hideK ((GJ.out.keep hb).mono hb.size)
                replace GC := hideK ((GC.out.keep hb).mono hb.size)
                clear hb
                have HP3 := hideK hp3
                have HP4 := hideK hp4
                clear hp3 hp4
                cases p3
                · go_wp2_with fail
                  go_ret
                  exact ⟨rfl, Q.out.bl⟩
                · cases p4
                  · go_wp2_with fail
                    go_ret
                    exact ⟨rfl, Q.out.bl⟩
                  · exact absurd (fun k => (blP_tt ..).2 (HP4.out.1 (by trivial) k)) (hNM.out _ hc.gn 0 hc.gn.pos (fun k => (blP_tt ..).2 (HP3.out.1 (by trivial) k)))
          · go_wp2_with fail
            refine (ofBadG hzu (CU.out _ Q.out.bl)).mono ?_
            rintro e w91 ⟨⟨zu, h1, rfl⟩, hb⟩
            replace Q := hideK (Q.out.keep hb)
            replace GA := hideK ((GA.out.keep hb).mono hb.size)
            replace GB := hideK ((GB.out.keep hb).mono hb.size)
            replace GJ := hideK ((GJ.out.keep hb).mono hb.size)
            clear hb
            have h1b : (zu != 0) = true := by simpa using h1
            clear h1 z0 z1 z2 z3 z4
            go_wp2_with fail
            go_ret
            exact ⟨rfl, Q.out.bl⟩
        · clear HM
          obtain ⟨z0, z1, z2, z3, z4⟩ := Q.out.z
          simp only [Nat.zero_add] at z1 z2 z3 z4
          by_cases hzu : chkTy u = 0
          · obtain ⟨c, hc⟩ := OFG_ex hzu
            go_wp2_with fail
            refine (ofGoodG hc (CU.out _ Q.out.bl)).mono ?_
            rintro e w92 ⟨⟨ac, cc, rfl, hGC⟩, hb⟩
            replace Q := hideK (Q.out.keep hb)
            replace GA := hideK ((GA.out.keep hb).mono hb.size)
            replace GB := hideK ((GB.out.keep hb).mono hb.size)
            replace GJ := hideK ((GJ.out.keep hb).mono hb.size)
            clear hb
            have GC := hideK hGC
            clear hGC z0 z1 z2 z3 z4
            go_wp2_with fail
            refine (grs_any _ _ _ _ _ _ _ hg.gn hc.gn GA.out GC.out).mono ?_
            rintro e w93 ⟨⟨p1, rfl, hp1⟩, hb⟩
            replace Q := hideK (Q.out.keep hb)
            replace GA := hideK ((GA.out.keep hb).mono hb.size)
            replace GB := hideK ((GB.out.keep hb).mono hb.size)
            replace GJ := hideK ((GJ.out.keep hb).mono hb.size)
            replace GC := hideK ((GC.out.keep hb).mono hb.size)
            clear hb
            go_wp2_with fail
            refine (grs_any _ _ _ _ _ _ _ hh.gn hc.gn GB.out GC.out).mono ?_
            rintro e w94 ⟨⟨p2, rfl, hp2⟩, hb⟩
            replace Q := hideK (Q.out.keep hb)
            replace GA := hideK ((GA.out.keep hb).mono hb.size)
            replace GB := hideK ((GB.out.keep hb).mono hb.size)
            replace GJ := hideK ((GJ.out.keep hb).mono hb.size)
            replace GC := hideK ((GC.out.keep hb).mono hb.size)
            clear hb
            have HP1 := hideK hp1
            have HP2 := hideK hp2
            clear hp1 hp2
            cases p1
            · go_wp2_with fail
              refine (grs_any _ _ _ _ _ _ _ hc.gn hg.gn GC.out GA.out).mono ?_
              rintro e w95 ⟨⟨p3, rfl, hp3⟩, hb⟩
              replace Q := hideK (Q.out.keep hb)
              replace GA := hideK ((GA.out.keep hb).mono hb.size)
              replace GB := hideK ((GB.out.keep hb).mono hb.size)
              replace GJ := hideK ((GJ.out.keep hb).mono hb.size)
              replace GC := hideK ((GC.out.keep hb).mono hb.size)
              clear hb
              go_wp2_with fail
              refine (grs_any _ _ _ _ _ _ _ hc.gn hh.gn GC.out GB.out).mono ?_
              rintro e w96 ⟨⟨p4, rfl, hp4⟩, hb⟩
              replace Q := hideK (Q.out.keep hb)
              replace GA := hideK ((GA.out.keep hb).mono hb.size)
              replace GB := hideK ((GB.out.keep hb).mono hb.size)
              replace GJ := hideK ((GJ.out.keep hb).mono hb.size)
              replace GC := hideK ((GC.out.keep hb).mono hb.size)
              clear hb
              have HP3 := hideK hp3
              have HP4 := hideK hp4
              clear hp3 hp4
              cases p3
              · go_wp2_with fail
                go_ret
                exact ⟨rfl, Q.out.bl⟩
              · cases p4
                · go_wp2_with fail
                  go_ret
                  exact ⟨rfl, Q.out.bl⟩
                · go_wp2_with fail
                  go_ret
                  exact ⟨rfl, Q.out.bl⟩
            · cases p2
              · go_wp2_with fail
                refine (grs_any _ _ _ _ _ _ _ hc.gn hg.gn GC.out GA.out).mono ?_
                rintro e w97 ⟨⟨p3, rfl, hp3⟩, hb⟩
                replace Q := hideK (Q.out.keep hb)
                replace GA := hideK ((GA.out.keep hb).mono hb.size)
                replace GB := hideK ((GB.out.keep hb).mono hb.size)
                replace GJ := hideK ((GJ.out.keep hb).mono hb.size)
                replace GC := hideK ((GC.out.keep hb).mono hb.size)
                clear hb
                go_wp2_with fail
                refine (grs_any _ _ _ _ _ _ _ hc.gn hh.gn GC.out GB.out).mono ?_
                rintro e w98 ⟨⟨p4, rfl, hp4⟩, hb⟩
                replace Q := hideK (Q.out.keep hb)
                replace GA := hideK ((GA.out.keep hb).mono hb.size)
                replace GB := hideK ((GB.out.keep hb).mono hb.size)
                replace GJ := hideK ((GJ.out.keep hb).mono hb.size)
                replace GC := hideK ((GC.out.keep hb).mono hb.size)
                clear hb
                have HP3 := hideK hp3
                have HP4 := hideK hp4
                clear hp3 hp4
                cases p3
                · go_wp2_with fail
                  go_ret
                  exact ⟨rfl, Q.out.bl⟩
                · cases p4
                  · go_wp2_with fail
                    go_ret
                    exact ⟨rfl, Q.out.bl⟩
                  · go_wp2_with fail
                    go_ret
                    exact ⟨rfl, Q.out.bl⟩
              · go_wp2_with fail
                refine (grsYes (fun k => (blP_ff ..).1 (hIJ.out.lo _ hc.gn 0 hc.gn.pos (fun k => (blP_ff ..).2 (HP1.out.1 (by trivial) k)) (fun k => (blP_ff ..).2 (HP2.out.1 (by trivial) k)) k)) (grs_any _ _ _ _ _ _ _ hSJ.out.gn hc.gn GJ.out GC.out)).mono ?_
                rintro e w99 ⟨rfl, hb⟩
                replace Q := hideK (Q.out.keep hb)
                replace GA := hideK ((GA.out.keep hb).mono hb.size)
                replace GB := hideK ((GB.out.keep hb).mono hb.size)
                replace GJ := hideK ((GJ.out.keep hb).mono hb.size)
                replace GC := hideK ((GC.out.keep hb).mono hb.size)
                clear hb
                go_wp2_with fail
                refine (grs_any _ _ _ _ _ _ _ hc.gn hg.gn GC.out GA.out).mono ?_
                rintro e w100 ⟨⟨p3, rfl, hp3⟩, hb⟩
                replace Q := hideK (Q.out.keep hb)
                replace GA := hideK ((GA.out.keep hb).mono hb.size)
                replace GB := hideK ((GB.out.keep hb).mono hb.size)
                replace GJ := hideK ((GJ.out.keep hb).mono hb.size)
                replace GC := hideK ((GC.out.keep hb).mono hb.size)
                clear hb
                go_wp2_with fail
                refine (grs_any _ _ _ _ _ _ _ hc.gn hh.gn GC.out GB.out).mono ?_
                rintro e w101 ⟨⟨p4, rfl, hp4⟩, hb⟩
                replace Q := hideK (Q.out.keep hb)
                replace GA := hideK ((GA.out.keep hb).mono hb.size)
                replace GB := hideK ((GB.out.keep hb).mono hb.size)
                replace GJ := hideK ((GJ.out.keep hb).mono hb.size)
                replace GC := hideK ((GC.out.keep hb).mono hb.size)
                clear hb
                have HP3 := hideK hp3
                have HP4 := hideK hp4
                clear hp3 hp4
                cases p3
                · go_wp2_with fail
                  go_ret
                  exact ⟨rfl, Q.out.bl⟩
                · cases p4
                  · go_wp2_with fail
                    go_ret
                    exact ⟨rfl, Q.out.bl⟩
                  · go_wp2_with fail
                    go_ret
                    exact ⟨rfl, Q.out.bl⟩
          · go_wp2_with fail
            refine (ofBadG hzu (CU.out _ Q.out.bl)).mono ?_
            rintro e w102 ⟨⟨zu, h1, rfl⟩, hb⟩
            replace Q := hideK (Q.out.keep hb)
            replace GA := hideK ((GA.out.keep hb).mono hb.size)
            replace GB := hideK ((GB.out.keep hb).mono hb.size)
            replace GJ := hideK ((GJ.out.keep hb).mono hb.size)
            clear hb
            have h1b : (zu != 0) = true := by simpa using h1
            clear h1 z0 z1 z2 z3 z4
            go_wp2_with fail
            go_ret
            exact ⟨rfl, Q.out.bl⟩
        · have hIM := hideK hI
          have hSM := hideK hS
          have GM := hideK hG
          clear hI hS hG HM
          go_wp2_with fail
          refine (grsYes (fun k => (blP_tt ..).1 (hIM.out.u1 k)) (grs_any _ _ _ _ _ _ _ hSM.out.gn hg.gn GM.out GA.out)).mono ?_
          rintro e w103 ⟨rfl, hb⟩
          replace Q := hideK (Q.out.keep hb)
          replace GA := hideK ((GA.out.keep hb).mono hb.size)
          replace GB := hideK ((GB.out.keep hb).mono hb.size)
          replace GJ := hideK ((GJ.out.keep hb).mono hb.size)
          replace GM := hideK ((GM.out.keep hb).mono hb.size)
          clear hb
          go_wp2_with fail
          refine (grsYes (fun k => (blP_tt ..).1 (hIM.out.u2 k)) (grs_any _ _ _ _ _ _ _ hSM.out.gn hh.gn GM.out GB.out)).mono ?_
          rintro e w104 ⟨rfl, hb⟩
          replace Q := hideK (Q.out.keep hb)
          replace GA := hideK ((GA.out.keep hb).mono hb.size)
          replace GB := hideK ((GB.out.keep hb).mono hb.size)
          replace GJ := hideK ((GJ.out.keep hb).mono hb.size)
          replace GM := hideK ((GM.out.keep hb).mono hb.size)
          clear hb
          obtain ⟨z0, z1, z2, z3, z4⟩ := Q.out.z
          simp only [Nat.zero_add] at z1 z2 z3 z4
          by_cases hzu : chkTy u = 0
          · obtain ⟨c, hc⟩ := OFG_ex hzu
            go_wp2_with fail
            refine (ofGoodG hc (CU.out _ Q.out.bl)).mono ?_
            rintro e w105 ⟨⟨ac, cc, rfl, hGC⟩, hb⟩
            replace Q := hideK (Q.out.keep hb)
            replace GA := hideK ((GA.out.keep hb).mono hb.size)
            replace GB := hideK ((GB.out.keep hb).mono hb.size)
            replace GJ := hideK ((GJ.out.keep hb).mono hb.size)
            replace GM := hideK ((GM.out.keep hb).mono hb.size)
            clear hb
            have GC := hideK hGC
            clear hGC z0 z1 z2 z3 z4
            go_wp2_with fail
            refine (grs_any _ _ _ _ _ _ _ hg.gn hc.gn GA.out GC.out).mono ?_
            rintro e w106 ⟨⟨p1, rfl, hp1⟩, hb⟩
            replace Q := hideK (Q.out.keep hb)
            replace GA := hideK ((GA.out.keep hb).mono hb.size)
            replace GB := hideK ((GB.out.keep hb).mono hb.size)
            replace GJ := hideK ((GJ.out.keep hb).mono hb.size)
            replace GM := hideK ((GM.out.keep hb).mono hb.size)
            replace GC := hideK ((GC.out.keep hb).mono hb.size)
            clear hb
            go_wp2_with fail
            refine (grs_any _ _ _ _ _ _ _ hh.gn hc.gn GB.out GC.out).mono ?_
            rintro e w107 ⟨⟨p2, rfl, hp2⟩, hb⟩
            replace Q := hideK (Q.out.keep hb)
            replace GA := hideK ((GA.out.keep hb).mono hb.size)
            replace GB := hideK ((GB.out.keep hb).mono hb.size)
            replace GJ := hideK ((GJ.out.keep hb).mono hb.size)
            replace GM := hideK ((GM.out.keep hb).mono hb.size)
            replace GC := hideK ((GC.out.keep hb).mono hb.size)
            clear hb
            have HP1 := hideK hp1
            have HP2 := hideK hp2
            clear hp1 hp2
            cases p1
            · go_wp2_with fail
              refine (grs_any _ _ _ _ _ _ _ hc.gn hg.gn GC.out GA.out).mono ?_
              rintro e w108 ⟨⟨p3, rfl, hp3⟩, hb⟩
              replace Q := hideK (Q.out.keep hb)
              replace GA := hideK ((GA.out.keep hb).mono hb.size)
              replace GB := hideK ((GB.out.keep hb).mono hb.size)
              replace GJ := hideK ((GJ.out.keep hb).mono hb.size)
              replace GM := hideK ((GM.out.keep hb).mono hb.size)
              replace GC := hideK ((GC.out.keep hb).mono hb.size)
              clear hb
              go_wp2_with fail
              refine (grs_any _ _ _ _ _ _ _ hc.gn hh.gn GC.out GB.out).mono ?_
              rintro e w109 ⟨⟨p4, rfl, hp4⟩, hb⟩
              replace Q := hideK (Q.out.keep hb)
              replace GA := hideK ((GA.out.keep hb).mono hb.size)
              replace GB := hideK ((GB.out.keep hb).mono hb.size)
              replace GJ := hideK ((GJ.out.keep hb).mono hb.size)
              replace GM := hideK ((GM.out.keep hb).mono hb.size)
              replace GC := hideK ((GC.out.keep hb).mono hb.size)
              clear hb
              have HP3 := hideK hp3
              have HP4 := hideK hp4
              clear hp3 hp4
              cases p3
              · go_wp2_with fail
                go_ret
                exact ⟨rfl, Q.out.bl⟩
              · cases p4
                · go_wp2_with fail
                  go_ret
                  exact ⟨rfl, Q.out.bl⟩
                · go_wp2_with fail
                  refine (grsYes (fun k => (blP_tt ..).1 (hIM.out.lo _ hc.gn 0 hc.gn.pos (fun k => (blP_tt ..).2 (HP3.out.1 (by trivial) k)) (fun k => (blP_tt ..).2 (HP4.out.1 (by trivial) k)) k)) (grs_any _ _ _ _ _ _ _ hc.gn hSM.out.gn GC.out GM.out)).mono ?_
                  rintro e w110 ⟨rfl, hb⟩
                  replace Q := hideK (Q.out.keep hb)
                  replace GA := hideK ((GA.out.keep hb).mono hb.size)
                  replace GB := hideK ((GB.out.keep hb).mono hb.size)
                  replace GJ := hideK ((GJ.out.keep hb).mono hb.size)
                  replace GM := hideK ((GM.out.keep hb).mono hb.size)
                  replace GC := hideK ((GC.out.keep hb).mono hb.size)
                  clear hb
                  go_wp2_with fail
                  go_ret
                  exact ⟨rfl, Q.out.bl⟩
            · cases p2
              · go_wp2_with fail
                refine (grs_any _ _ _ _ _ _ _ hc.gn hg.gn GC.out GA.out).mono ?_
                rintro e w111 ⟨⟨p3, rfl, hp3⟩, hb⟩
                replace Q := hideK (Q.out.keep hb)
                replace GA := hideK ((GA.out.keep hb).mono hb.size)
                replace GB := hideK ((GB.out.keep hb).mono hb.size)
                replace GJ := hideK ((GJ.out.keep hb).mono hb.size)
                replace GM := hideK ((GM.out.keep hb).mono hb.size)
                replace GC := hideK ((GC.out.keep hb).mono hb.size)
                clear hb
                go_wp2_with fail
                refine (grs_any _ _ _ _ _ _ _ hc.gn hh.gn GC.out GB.out).mono ?_
                rintro e w112 ⟨⟨p4, rfl, hp4⟩, hb⟩
                replace Q := hideK (Q.out.keep hb)
                replace GA := hideK ((GA.out.keep hb).mono hb.size)
                replace GB := hideK ((GB.out.keep hb).mono hb.size)
                replace GJ := hideK ((GJ.out.keep hb).mono hb.size)
                replace GM := hideK ((GM.out.keep hb).mono hb.size)
                replace GC := hideK ((GC.out.keep hb).mono hb.size)
                clear hb
                have HP3 := hideK hp3
                have HP4 := hideK hp4
                clear hp3 hp4
                cases p3
                · go_wp2_with fail
                  go_ret
                  exact ⟨rfl, Q.out.bl⟩
                · cases p4
                  · go_wp2_with fail
                    go_ret
                    exact ⟨rfl, Q.out.bl⟩
                  · go_wp2_with fail
                    refine (grsYes (fun k => (blP_tt ..).1 (hIM.out.lo _ hc.gn 0 hc.gn.pos (fun k => (blP_tt ..).2 (HP3.out.1 (by trivial) k)) (fun k => (blP_tt ..).2 (HP4.out.1 (by trivial) k)) k)) (grs_any _ _ _ _ _ _ _ hc.gn hSM.out.gn GC.out GM.out)).mono ?_
                    rintro e w113 ⟨rfl, hb⟩
                    replace Q := hideK (Q.out.keep hb)
                    replace GA := hideK ((GA.out.keep hb).mono hb.size)
                    replace GB := hideK ((GB.out.keep hb).mono hb.size)
                    replace GJ := hideK ((GJ.out.keep hb).mono hb.size)
                    replace GM := hideK ((GM.out.keep hb).mono hb.size)
                    replace GC := hideK ((GC.out.keep hb).mono hb.size)
                    clear hb
                    go_wp2_with fail
                    go_ret
                    exact ⟨rfl, Q.out.bl⟩
              · go_wp2_with fail
                refine (grsYes (fun k => (blP_ff ..).1 (hIJ.out.lo _ hc.gn 0 hc.gn.pos (fun k => (blP_ff ..).2 (HP1.out.1 (by trivial) k)) (fun k => (blP_ff ..).2 (HP2.out.1 (by trivial) k)) k)) (grs_any _ _ _ _ _ _ _ hSJ.out.gn hc.gn GJ.out GC.out)).mono ?_
                rintro e w114 ⟨rfl, hb⟩
                replace Q := hideK (Q.out.keep hb)
                replace GA := hideK ((GA.out.keep hb).mono hb.size)
                replace GB := hideK ((GB.out.keep hb).mono hb.size)
                replace GJ := hideK ((GJ.out.keep hb).mono hb.size)
                replace GM := hideK ((GM.out.keep hb).mono hb.size)
                replace GC := hideK ((GC.out.keep hb).mono hb.size)
                clear hb
                go_wp2_with fail
                refine (grs_any _ _ _ _ _ _ _ hc.gn hg.gn GC.out GA.out).mono ?_
                rintro e w115 ⟨⟨p3, rfl, hp3⟩, hb⟩
                replace Q := hideK (Q.out.keep hb)
                replace GA := hideK ((GA.out.keep hb).mono hb.size)
                replace GB := hideK ((GB.out.keep hb).mono hb.size)
                replace GJ := hideK ((GJ.out.keep hb).mono hb.size)
                replace GM := hideK ((GM.out.keep hb).mono hb.size)
                replace GC := hideK ((GC.out.keep hb).mono hb.size)
                clear hb
                go_wp2_with fail
                refine (grs_any _ _ _ _ _ _ _ hc.gn hh.gn GC.out GB.out).mono ?_
                rintro e w116 ⟨⟨p4, rfl, hp4⟩, hb⟩
                replace Q := hideK (Q.out.keep hb)
                replace GA := hideK ((GA.out.keep hb).mono hb.size)
                replace GB := hideK ((GB.out.keep hb).mono hb.size)
                replace GJ := hideK ((GJ.out.keep hb).mono hb.size)
                replace GM := hideK ((GM.out.keep hb).mono hb.size)
                replace GC := hideK ((GC.out.keep hb).mono hb.size)
                clear hb
                have HP3 := hideK hp3
                have HP4 := hideK hp4
                clear hp3 hp4
                cases p3
                · go_wp2_with fail
                  go_ret
                  exact ⟨rfl, Q.out.bl⟩
                · cases p4
                  · go_wp2_with fail
                    go_ret
                    exact ⟨rfl, Q.out.bl⟩
                  · go_wp2_with fail
                    refine (grsYes (fun k => (blP_tt ..).1 (hIM.out.lo _ hc.gn 0 hc.gn.pos (fun k => (blP_tt ..).2 (HP3.out.1 (by trivial) k)) (fun k => (blP_tt ..).2 (HP4.out.1 (by trivial) k)) k)) (grs_any _ _ _ _ _ _ _ hc.gn hSM.out.gn GC.out GM.out)).mono ?_
                    rintro e w117 ⟨rfl, hb⟩
                    replace Q := hideK (Q.out.keep hb)
                    replace GA := hideK ((GA.out.keep hb).mono hb.size)
                    replace GB := hideK ((GB.out.keep hb).mono hb.size)
                    replace GJ := hideK ((GJ.out.keep hb).mono hb.size)
                    replace GM := hideK ((GM.out.keep hb).mono hb.size)
                    replace GC := hideK ((GC.out.keep hb).mono hb.size)
                    clear hb
                    go_wp2_with fail
                    go_ret
                    exact ⟨rfl, Q.out.bl⟩
          · go_wp2_with fail
            refine (ofBadG hzu (CU.out _ Q.out.bl)).mono ?_
            rintro e w118 ⟨⟨zu, h1, rfl⟩, hb⟩
            replace Q := hideK (Q.out.keep hb)
            replace GA := hideK ((GA.out.keep hb).mono hb.size)
            replace GB := hideK ((GB.out.keep hb).mono hb.size)
            replace GJ := hideK ((GJ.out.keep hb).mono hb.size)
            replace GM := hideK ((GM.out.keep hb).mono hb.size)
            clear hb
            have h1b : (zu != 0) = true := by simpa using h1
            clear h1 z0 z1 z2 z3 z4
            go_wp2_with fail
            go_ret
            exact ⟨rfl, Q.out.bl⟩
end Go.Proofs.YtpamhimmdoimoaaDoor
