/-
  The contracts of dual.Graph and dual.Of.
-/
import Derived.Test.YtoieacgojkgjgabDoorJd
import Derived.Test.YtoieacgojkgjgabDoorIn
import Derived.Test.YtoieacgojkgjgabDoorVq
import Derived.Test.YtoieacgojkgjgabDoorIq
namespace Go.Proofs.YtoieacgojkgjgabDoor
open Go.RowKit Go.Shelf

set_option maxRecDepth 100000 in
set_option maxHeartbeats 2000000 in
theorem dualGraph_any (g : List Nd) (ag : Option Addr) (cg B : Nat) (w : World) (hg : GN g) (hl : g.length ≤ 100) (hga : GAt w B g ag) (hB : B ≤ w.heap.size) :
    Calls Tryd.prog 34 #[.slice ag g.length cg] w fun e w' => (∃ c, CLS (othG g) c ∧ ∃ ao co, e = .returned (.tuple #[.slice ao (leastG (othG g) c).length co, .int .i64 0]) ∧ GAt w' w'.heap.size (leastG (othG g) c) ao) ∧ Below w.heap.size w w' := by
  have c1 := checkG_any g ag cg B w hg hga hB
  have CO := hideK (fun (W : World) (hb : Below w.heap.size w W) => otherEnd_any g ag cg B W hg (hga.keep (hb.mono hB)) (Nat.le_trans hB hb.size))
  have CL := hideK (fun (W : World) ao co (hgo : GAt W W.heap.size (othG g) ao) => leastG_any (othG g) ao co W.heap.size W (oth_gn hg hl) hgo (Nat.le_refl _))
  have hlz : ¬ ((g.length : Int) > 100) := by omega
  have hlz2 : (g.length : Int) ≤ 100 := by omega
  clear hga hg
  go_enter Tryd.func34, Tryd.ntmps34
  go_wp2_with fail
  refine c1.mono ?_
  rintro e w1 ⟨rfl, hb1⟩
  have cO := CO.out w1 hb1
  have HB := hideK hb1
  clear c1 CO hb1
  go_wp2_with fail
  refine cO.mono ?_
  rintro e w2 ⟨⟨ao, co, rfl, hgo⟩, hb2⟩
  have cL := CL.out w2 ao co hgo
  have HB2 := hideK (HB.out.trans (hb2.mono HB.out.size))
  clear cO CL hgo hb2
  go_wp2_with fail
  refine cL.mono ?_
  rintro e w3 ⟨⟨c, hc, a3, c3, rfl, hg3⟩, hb3⟩
  have HC := hideK hc
  have HG3 := hideK hg3
  have HB3 := hideK (HB2.out.trans (hb3.mono HB2.out.size))
  clear cL hc hg3 hb3
  go_wp2_with fail
  go_ret2
  exact ⟨⟨c, HC.out, _, _, rfl, HG3.out⟩, HB3.out⟩
/-- what Of of the other end leaves -/
def DOPost (t : Ty) (w : World) (e : Ending) (w' : World) : Prop :=
  ((chkTy t ≠ 0 ∧ e = .returned (.tuple #[.slice none 0 0, .int .i64 (chkTy t)])) ∨ (∃ g, OFG t g ∧ ∃ c, CLS (othG g) c ∧ ∃ ao co, e = .returned (.tuple #[.slice ao (leastG (othG g) c).length co, .int .i64 0]) ∧ GAt w' w'.heap.size (leastG (othG g) c) ao)) ∧ Below w.heap.size w w'
set_option maxRecDepth 100000 in
set_option maxHeartbeats 2000000 in
theorem dualOf_any (d : Nat) (t : Ty) (al : Option Addr) (cl : Nat) (ak : Option Addr) (ck : Nat) (w : World) (hbd : TyBd t cl ck) (hla : LA w w.heap.size t.labels al) (hkt : KT w w.heap.size d t.kids ak) :
    Calls Tryd.prog 23 #[tyVal t al cl ak ck] w (DOPost t w) := by
  have hA : Below w.heap.size w (w.alloc (.cells #[.int .i64 t.kind, .int .i64 t.so, .string t.name, .slice al t.labels.length cl, .slice ak t.kids.length ck] 25)) := (Below.refl _ _).alloc (Nat.le_refl _) _
  have cO := of_any d t al cl ak ck _ hbd (NAt.mono hA.size (NAt.keep hA hla)) (KT.mono hA.size (KT.keep hA hkt))
  have b0 : TyAt (w.alloc (.cells #[.int .i64 t.kind, .int .i64 t.so, .string t.name, .slice al t.labels.length cl, .slice ak t.kids.length ck] 25)) w.heap.size 0 t al cl ak ck := ⟨by go_cell, by go_cell, by go_cell, by go_cell, by go_cell⟩
  obtain ⟨x0, x1, x2, x3, x4⟩ := b0
  simp only [Nat.zero_add] at x1 x2 x3 x4
  have HA := hideK hA
  unfold DOPost
  unfold OFPost at cO
  simp only [tyVal] at cO ⊢
  clear hbd hla hkt hA
  go_enter Tryd.func23, Tryd.ntmps23
  go_wp2_with fail
  refine cO.mono ?_
  rintro e w1 ⟨hor, hb1⟩
  have HB := hideK (HA.out.trans (hb1.mono HA.out.size))
  clear cO hb1 x0 x1 x2 x3 x4
  rcases hor with ⟨hz, rfl⟩ | ⟨g, ag, cg, hof, rfl, hga⟩
  · have hzb : (chkTy t != 0) = true := by simpa using hz
    have HZ := hideK hz
    clear hz
    go_wp2_with fail
    go_ret2
    exact ⟨.inl ⟨HZ.out, rfl⟩, HB.out⟩
  · have cD := dualGraph_any g ag cg w1.heap.size w1 hof.gn (by have := hof.le; omega) hga (Nat.le_refl _)
    have HOF := hideK hof
    clear hof hga
    go_wp2_with fail
    refine cD.mono ?_
    rintro e w2 ⟨⟨c, hc, ao, co, rfl, hg2⟩, hb2⟩
    have HB2 := hideK (HB.out.trans (hb2.mono HB.out.size))
    have HC := hideK hc
    have HG2 := hideK hg2
    clear cD hb2 hc hg2
    go_wp2_with fail
    go_ret2
    exact ⟨.inr ⟨g, HOF.out, c, HC.out, _, _, rfl, HG2.out⟩, HB2.out⟩
end Go.Proofs.YtoieacgojkgjgabDoor
/-
  The law of duetkeep.ComplyBelow: whatever types are handed in it answers true.
-/
namespace Go.Proofs.YtoieacgojkgjgabDoor
open Go.RowKit Go.Shelf

theorem doBad {s t : Ty} {w : World} (hz : chkTy s ≠ 0 ∨ chkTy t ≠ 0) {args : Array Value} (c : Calls Tryd.prog 20 args w (DCPost s t w)) : Calls Tryd.prog 20 args w fun e w' => (∃ z : Int, z ≠ 0 ∧ e = .returned (.tuple #[.bool false, .int .i64 z])) ∧ Below w.heap.size w w' := by
  refine c.mono ?_
  rintro e w' ⟨h | h | h, hb⟩
  · exact ⟨⟨_, h.1, h.2⟩, hb⟩
  · exact ⟨⟨_, h.2.1, h.2.2⟩, hb⟩
  · obtain ⟨g, h', hg, hh, _⟩ := h
    rcases hz with q | q
    · exact absurd hg.chk q
    · exact absurd hh.chk q
theorem doGood {s t : Ty} {w : World} (hs : chkTy s = 0) (ht : chkTy t = 0) {args : Array Value} (c : Calls Tryd.prog 20 args w (DCPost s t w)) : Calls Tryd.prog 20 args w fun e w' => (∃ b : Bool, e = .returned (.tuple #[.bool b, .int .i64 0]) ∧ (b = true ↔ CT s t)) ∧ Below w.heap.size w w' := by
  refine c.mono ?_
  rintro e w' ⟨h | h | h, hb⟩
  · exact absurd hs h.1
  · exact absurd ht h.2.1
  · obtain ⟨_, _, _, _, b, e, hq⟩ := h
    exact ⟨⟨b, e, hq⟩, hb⟩
theorem doSome {s t : Ty} {w : World} {args : Array Value} (c : Calls Tryd.prog 20 args w (DCPost s t w)) : Calls Tryd.prog 20 args w fun e w' => (∃ (b : Bool) (z : Int), e = .returned (.tuple #[.bool b, .int .i64 z])) ∧ Below w.heap.size w w' := by
  refine c.mono ?_
  rintro e w' ⟨h | h | h, hb⟩
  · exact ⟨⟨_, _, h.2⟩, hb⟩
  · exact ⟨⟨_, _, h.2.2⟩, hb⟩
  · obtain ⟨_, _, _, _, b, e, _⟩ := h
    exact ⟨⟨_, _, e⟩, hb⟩
theorem ofGood {t : Ty} {w : World} (ht : chkTy t = 0) {args : Array Value} (c : Calls Tryd.prog 10 args w (OFPost t w)) : Calls Tryd.prog 10 args w fun e w' => (∃ g, OFG t g ∧ ∃ ag cg, e = .returned (.tuple #[.slice ag g.length cg, .int .i64 0]) ∧ GAt w' w'.heap.size g ag) ∧ Below w.heap.size w w' := by
  refine c.mono ?_
  rintro e w' ⟨h | ⟨g, ag, cg, hg, he, hga⟩, hb⟩
  · exact absurd ht h.1
  · exact ⟨⟨g, hg, ag, cg, he, hga⟩, hb⟩
theorem dualGood {t : Ty} {w : World} (ht : chkTy t = 0) {args : Array Value} (c : Calls Tryd.prog 23 args w (DOPost t w)) : Calls Tryd.prog 23 args w fun e w' => (∃ g, OFG t g ∧ ∃ c, CLS (othG g) c ∧ ∃ ao co, e = .returned (.tuple #[.slice ao (leastG (othG g) c).length co, .int .i64 0]) ∧ GAt w' w'.heap.size (leastG (othG g) c) ao) ∧ Below w.heap.size w w' := by
  refine c.mono ?_
  rintro e w' ⟨h | h, hb⟩
  · exact absurd ht h.1
  · exact ⟨h, hb⟩
/-- who gets on gets on with what is above -/
theorem CT_below {s t u : Ty} (h1 : CT s t) (h2 : BT t u) : CT s u := by
  obtain ⟨g, h, hg, hh, hb⟩ := h1
  obtain ⟨h', f, hh', hf, hb2⟩ := h2
  rw [hh'.uniq hh] at hb2
  exact ⟨g, f, hg, hf, fun k => bl_trans k (othG f) (othG h) g 0 0 0 ((bl_dual hh.gn hf.gn (by have := hh.le; omega) (by have := hf.le; omega) k 0 0 hh.gn.pos hf.gn.pos).2 (hb2 k)) (hb k)⟩
theorem end_node {g : List Nd} (h : OFG endT g) : (nodeAt g 0).kind = 1 ∧ (nodeAt g 0).so = 0 ∧ (nodeAt g 0).labs = [] := by
  have h1 := h.does 1
  have h2 : den endT e0 1 = ⟨1, 0, [], []⟩ := by rw [den_node endT e0 (by decide) (by decide)]; rfl
  rw [h2] at h1
  have h3 : gT g 1 0 = ⟨(nodeAt g 0).kind, (nodeAt g 0).so, (nodeAt g 0).labs, (nodeAt g 0).to.map (gT g 0)⟩ := rfl
  rw [h3] at h1
  injection h1 with q1 q2 q3 _
  exact ⟨q1, q2, q3⟩
theorem CT_end {g : List Nd} (h : OFG endT g) : CT endT endT := by
  obtain ⟨k1, k2, k3⟩ := end_node h
  refine ⟨g, g, h, h, fun k => ?_⟩
  cases k with
  | zero => trivial
  | succ k =>
    rw [bl_succ, oth_at1 h.gn.pos]
    have e1 : (othT g.length (nodeAt g 0)).kind = 1 := by show kdD (nodeAt g 0).kind = 1; rw [k1]; rfl
    have e2 : (othT g.length (nodeAt g 0)).labs = [] := k3
    refine ⟨⟨by rw [e1, k1], rfl, by rw [e1, if_neg (by decide), k3]; intro l hl; cases hl⟩, fun q => by omega, fun q => by omega, fun q => by omega, fun x y l hx _ => by rw [e2] at hx; simp at hx⟩
/-- End and End get on -/
theorem doEnd (w : World) : Calls Tryd.prog 20 #[.agg #[.int .i64 1, .int .i64 0, .string ⟨#[]⟩, .slice none 0 0, .slice none 0 0], .agg #[.int .i64 1, .int .i64 0, .string ⟨#[]⟩, .slice none 0 0, .slice none 0 0]] w fun e w' => e = .returned (.tuple #[.bool true, .int .i64 0]) ∧ Below w.heap.size w w' := by
  have c := doGood end_chk end_chk (do_any 0 0 endT endT none 0 none 0 none 0 none 0 w end_bd (.inl rfl) rfl end_bd (.inl rfl) rfl)
  refine c.mono ?_
  rintro e w' ⟨⟨b, rfl, hq⟩, hb⟩
  obtain ⟨g, hg⟩ := OFG_ex end_chk
  obtain rfl : b = true := hq.2 (CT_end hg)
  exact ⟨rfl, hb⟩
set_option maxRecDepth 100000 in
set_option maxHeartbeats 16000000 in
theorem complyBelow_law (ds dt du : Nat) (s t u : Ty) (sal : Option Addr) (scl : Nat) (sak : Option Addr) (sck : Nat) (al : Option Addr) (cl : Nat) (ak : Option Addr) (ck : Nat) (ual : Option Addr) (ucl : Nat) (uak : Option Addr) (uck : Nat) (w : World) (hs1 : TyBd s scl sck) (hs2 : LA w w.heap.size s.labels sal) (hs3 : KT w w.heap.size ds s.kids sak) (ht1 : TyBd t cl ck) (ht2 : LA w w.heap.size t.labels al) (ht3 : KT w w.heap.size dt t.kids ak) (hu1 : TyBd u ucl uck) (hu2 : LA w w.heap.size u.labels ual) (hu3 : KT w w.heap.size du u.kids uak) :
    Calls Tryd.prog 6 #[tyVal s sal scl sak sck, tyVal t al cl ak ck, tyVal u ual ucl uak uck] w fun e w' => e = .returned (.bool true) ∧ Below w.heap.size w w' := by
  have Q0 := hideK (BX3.new w s sal scl sak sck t al cl ak ck u ual ucl uak uck)
  obtain ⟨x0, x1, x2, x3, x4⟩ := Q0.out.x
  obtain ⟨y0, y1, y2, y3, y4⟩ := Q0.out.y
  obtain ⟨z0, z1, z2, z3, z4⟩ := Q0.out.z
  simp only [Nat.zero_add] at x1 x2 x3 x4 y1 y2 y3 y4 z1 z2 z3 z4
  have CE := hideK (fun (W : World) (_ : Below w.heap.size w W) => doEnd W)
  by_cases hz : chkTy s = 0 ∧ chkTy t = 0
  · obtain ⟨hzs, hzt⟩ := hz
    have C1 := hideK (fun (W : World) (hb : Below w.heap.size w W) => doGood hzs hzt (do_any ds dt s t sal scl sak sck al cl ak ck W hs1 ((hs2.keep hb).mono hb.size) ((hs3.keep hb).mono hb.size) ht1 ((ht2.keep hb).mono hb.size) ((ht3.keep hb).mono hb.size)))
    have C2 := hideK (fun (W : World) (hb : Below w.heap.size w W) => dualGood hzt (dualOf_any dt t al cl ak ck W ht1 ((ht2.keep hb).mono hb.size) ((ht3.keep hb).mono hb.size)))
    have C3 := hideK (fun (W : World) (hb : Below w.heap.size w W) => ofGood hzs (of_any ds s sal scl sak sck W hs1 ((hs2.keep hb).mono hb.size) ((hs3.keep hb).mono hb.size)))
    have C5G := hideK (fun (hzu : chkTy u = 0) (W : World) (hb : Below w.heap.size w W) => isGood hzt hzu (is_any dt du t u al cl ak ck ual ucl uak uck W ht1 ((ht2.keep hb).mono hb.size) ((ht3.keep hb).mono hb.size) hu1 ((hu2.keep hb).mono hb.size) ((hu3.keep hb).mono hb.size)))
    have C5B := hideK (fun (hzu : chkTy u ≠ 0) (W : World) (hb : Below w.heap.size w W) => isBad (.inr hzu) (is_any dt du t u al cl ak ck ual ucl uak uck W ht1 ((ht2.keep hb).mono hb.size) ((ht3.keep hb).mono hb.size) hu1 ((hu2.keep hb).mono hb.size) ((hu3.keep hb).mono hb.size)))
    have C6G := hideK (fun (hzu : chkTy u = 0) (W : World) (hb : Below w.heap.size w W) => doGood hzs hzu (do_any ds du s u sal scl sak sck ual ucl uak uck W hs1 ((hs2.keep hb).mono hb.size) ((hs3.keep hb).mono hb.size) hu1 ((hu2.keep hb).mono hb.size) ((hu3.keep hb).mono hb.size)))
    have C6A := hideK (fun (W : World) (hb : Below w.heap.size w W) => doSome (do_any ds du s u sal scl sak sck ual ucl uak uck W hs1 ((hs2.keep hb).mono hb.size) ((hs3.keep hb).mono hb.size) hu1 ((hu2.keep hb).mono hb.size) ((hu3.keep hb).mono hb.size)))
    simp only [tyVal] at C1 C2 C3 C5G C5B C6G C6A ⊢
    clear hs1 hs2 hs3 ht1 ht2 ht3 hu1 hu2 hu3 hzs hzt
    go_enter Tryd.func6, Tryd.ntmps6
    go_wp2_with fail
    refine (CE.out _ Q0.out.bl).mono ?_
    rintro e w1 ⟨rfl, hb1⟩
    have Q1 := hideK (Q0.out.keep hb1)
    clear hb1
    clear x0 x1 x2 x3 x4 y0 y1 y2 y3 y4 z0 z1 z2 z3 z4
    obtain ⟨x0, x1, x2, x3, x4⟩ := Q1.out.x
    obtain ⟨y0, y1, y2, y3, y4⟩ := Q1.out.y
    obtain ⟨z0, z1, z2, z3, z4⟩ := Q1.out.z
    simp only [Nat.zero_add] at x1 x2 x3 x4 y1 y2 y3 y4 z1 z2 z3 z4
    go_wp2_with fail
    refine (C1.out _ Q1.out.bl).mono ?_
    rintro e w2 ⟨⟨ba, rfl, hba⟩, hb2⟩
    have Q2 := hideK (Q1.out.keep hb2)
    have HBA := hideK hba
    clear hba
    clear hb2
    clear x0 x1 x2 x3 x4 y0 y1 y2 y3 y4 z0 z1 z2 z3 z4
    obtain ⟨x0, x1, x2, x3, x4⟩ := Q2.out.x
    obtain ⟨y0, y1, y2, y3, y4⟩ := Q2.out.y
    obtain ⟨z0, z1, z2, z3, z4⟩ := Q2.out.z
    simp only [Nat.zero_add] at x1 x2 x3 x4 y1 y2 y3 y4 z1 z2 z3 z4
    go_wp2_with fail
    refine (C2.out _ Q2.out.bl).mono ?_
    rintro e w3 ⟨⟨h, hh, c, hc, ao, co, rfl, hga⟩, hb3⟩
    have Q3 := hideK (Q2.out.keep hb3)
    have HGD := hideK hga
    have HCH := hideK hh
    have HCC := hideK hc
    clear hga hh hc
    clear hb3
    clear x0 x1 x2 x3 x4 y0 y1 y2 y3 y4 z0 z1 z2 z3 z4
    obtain ⟨x0, x1, x2, x3, x4⟩ := Q3.out.x
    obtain ⟨y0, y1, y2, y3, y4⟩ := Q3.out.y
    obtain ⟨z0, z1, z2, z3, z4⟩ := Q3.out.z
    simp only [Nat.zero_add] at x1 x2 x3 x4 y1 y2 y3 y4 z1 z2 z3 z4
    go_wp2_with fail
    refine (C3.out _ Q3.out.bl).mono ?_
    rintro e w4 ⟨⟨g, hg, ag, cg, rfl, hga⟩, hb4⟩
    have Q4 := hideK (Q3.out.keep hb4)
    have HGS := hideK hga
    have HCG := hideK hg
    have HGD4 := hideK ((HGD.out.keep hb4).mono hb4.size)
    clear hga hg
    clear hb4
    clear x0 x1 x2 x3 x4 y0 y1 y2 y3 y4 z0 z1 z2 z3 z4
    obtain ⟨x0, x1, x2, x3, x4⟩ := Q4.out.x
    obtain ⟨y0, y1, y2, y3, y4⟩ := Q4.out.y
    obtain ⟨z0, z1, z2, z3, z4⟩ := Q4.out.z
    simp only [Nat.zero_add] at x1 x2 x3 x4 y1 y2 y3 y4 z1 z2 z3 z4
    have GD := hideK (least_gn (oth_gn HCH.out.gn (by have := HCH.out.le; omega)) HCC.out)
    have c4 := graphs_any (leastG (othG h) c) g ao ag co cg w4.heap.size w4 GD.out.1 HCG.out.gn HGD4.out HGS.out (Nat.le_refl _)
    have HEQ := hideK (show (∀ k, bl k (leastG (othG h) c) g 0 0) ↔ CT s t from by
      rw [CT_iff HCG.out HCH.out]
      have hO := oth_gn HCH.out.gn (by have := HCH.out.le; omega)
      exact ⟨fun H k => (bl_resp hO HCG.out.gn GD.out.1 HCG.out.gn hO.pos HCG.out.gn.pos GD.out.1.pos HCG.out.gn.pos (GD.out.2.1 k) rfl).1 (H k), fun H k => (bl_resp hO HCG.out.gn GD.out.1 HCG.out.gn hO.pos HCG.out.gn.pos GD.out.1.pos HCG.out.gn.pos (GD.out.2.1 k) rfl).2 (H k)⟩)
    generalize leastG (othG h) c = dd at *
    go_wp2_with fail
    refine c4.mono ?_
    rintro e w5 ⟨⟨b5, rfl, hb55⟩, hb5⟩
    have Q5 := hideK (Q4.out.keep hb5)
    obtain rfl : b5 = ba := by
      have h1 : b5 = true ↔ ba = true := hb55.trans (HEQ.out.trans HBA.out.symm)
      cases b5 <;> cases ba <;> simp at h1 ⊢
    clear c4 hb5 hb55 HGD HGD4 HGS GD HEQ
    clear x0 x1 x2 x3 x4 y0 y1 y2 y3 y4 z0 z1 z2 z3 z4
    obtain ⟨x0, x1, x2, x3, x4⟩ := Q5.out.x
    obtain ⟨y0, y1, y2, y3, y4⟩ := Q5.out.y
    obtain ⟨z0, z1, z2, z3, z4⟩ := Q5.out.z
    simp only [Nat.zero_add] at x1 x2 x3 x4 y1 y2 y3 y4 z1 z2 z3 z4
    cases b5 with
    | false =>
      by_cases hzu : chkTy u = 0
      · have C5 := hideK (C5G.out hzu)
        have C6 := hideK (C6G.out hzu)
        clear hzu C5G C5B C6G C6A
        go_wp2_with fail
        refine (C5.out _ Q5.out.bl).mono ?_
        rintro e w6 ⟨⟨bx, rfl, hbx⟩, hb6⟩
        have Q6 := hideK (Q5.out.keep hb6)
        have HBX := hideK hbx
        clear hbx
        clear hb6
        clear x0 x1 x2 x3 x4 y0 y1 y2 y3 y4 z0 z1 z2 z3 z4
        obtain ⟨x0, x1, x2, x3, x4⟩ := Q6.out.x
        obtain ⟨y0, y1, y2, y3, y4⟩ := Q6.out.y
        obtain ⟨z0, z1, z2, z3, z4⟩ := Q6.out.z
        simp only [Nat.zero_add] at x1 x2 x3 x4 y1 y2 y3 y4 z1 z2 z3 z4
        go_wp2_with fail
        refine (C6.out _ Q6.out.bl).mono ?_
        rintro e w7 ⟨⟨byy, rfl, hby⟩, hb7⟩
        have Q7 := hideK (Q6.out.keep hb7)
        have HBY := hideK hby
        clear hby
        clear hb7
        clear x0 x1 x2 x3 x4 y0 y1 y2 y3 y4 z0 z1 z2 z3 z4
        obtain ⟨x0, x1, x2, x3, x4⟩ := Q7.out.x
        obtain ⟨y0, y1, y2, y3, y4⟩ := Q7.out.y
        obtain ⟨z0, z1, z2, z3, z4⟩ := Q7.out.z
        simp only [Nat.zero_add] at x1 x2 x3 x4 y1 y2 y3 y4 z1 z2 z3 z4
        have HF := hideK (show false = true → bx = true → byy = true from fun q1 q2 => HBY.out.2 (CT_below (HBA.out.1 (by first | exact q1 | trivial)) (HBX.out.1 q2)))
        clear HBA HBX HBY
        cases bx <;> cases byy
        all_goals
          first
          | exact absurd (HF.out rfl rfl) (by decide)
          | (go_wp2_with fail
             go_ret
             exact ⟨rfl, Q7.out.bl⟩)
      · have C5 := hideK (C5B.out hzu)
        clear hzu C5G C5B C6G
        go_wp2_with fail
        refine (C5.out _ Q5.out.bl).mono ?_
        rintro e w6 ⟨⟨z5e, hz5, rfl⟩, hb6⟩
        have Q6 := hideK (Q5.out.keep hb6)
        have hzb5 : (z5e != 0) = true := by simpa using hz5
        clear hz5
        clear hb6
        clear x0 x1 x2 x3 x4 y0 y1 y2 y3 y4 z0 z1 z2 z3 z4
        obtain ⟨x0, x1, x2, x3, x4⟩ := Q6.out.x
        obtain ⟨y0, y1, y2, y3, y4⟩ := Q6.out.y
        obtain ⟨z0, z1, z2, z3, z4⟩ := Q6.out.z
        simp only [Nat.zero_add] at x1 x2 x3 x4 y1 y2 y3 y4 z1 z2 z3 z4
        go_wp2_with fail
        refine (C6A.out _ Q6.out.bl).mono ?_
        rintro e w7 ⟨⟨byy, z6e, rfl⟩, hb7⟩
        have Q7 := hideK (Q6.out.keep hb7)
        clear hb7
        clear x0 x1 x2 x3 x4 y0 y1 y2 y3 y4 z0 z1 z2 z3 z4
        obtain ⟨x0, x1, x2, x3, x4⟩ := Q7.out.x
        obtain ⟨y0, y1, y2, y3, y4⟩ := Q7.out.y
        obtain ⟨z0, z1, z2, z3, z4⟩ := Q7.out.z
        simp only [Nat.zero_add] at x1 x2 x3 x4 y1 y2 y3 y4 z1 z2 z3 z4
        go_wp2_with fail
        go_ret
        exact ⟨rfl, Q7.out.bl⟩
    | true =>
      by_cases hzu : chkTy u = 0
      · have C5 := hideK (C5G.out hzu)
        have C6 := hideK (C6G.out hzu)
        clear hzu C5G C5B C6G C6A
        go_wp2_with fail
        refine (C5.out _ Q5.out.bl).mono ?_
        rintro e w6 ⟨⟨bx, rfl, hbx⟩, hb6⟩
        have Q6 := hideK (Q5.out.keep hb6)
        have HBX := hideK hbx
        clear hbx
        clear hb6
        clear x0 x1 x2 x3 x4 y0 y1 y2 y3 y4 z0 z1 z2 z3 z4
        obtain ⟨x0, x1, x2, x3, x4⟩ := Q6.out.x
        obtain ⟨y0, y1, y2, y3, y4⟩ := Q6.out.y
        obtain ⟨z0, z1, z2, z3, z4⟩ := Q6.out.z
        simp only [Nat.zero_add] at x1 x2 x3 x4 y1 y2 y3 y4 z1 z2 z3 z4
        go_wp2_with fail
        refine (C6.out _ Q6.out.bl).mono ?_
        rintro e w7 ⟨⟨byy, rfl, hby⟩, hb7⟩
        have Q7 := hideK (Q6.out.keep hb7)
        have HBY := hideK hby
        clear hby
        clear hb7
        clear x0 x1 x2 x3 x4 y0 y1 y2 y3 y4 z0 z1 z2 z3 z4
        obtain ⟨x0, x1, x2, x3, x4⟩ := Q7.out.x
        obtain ⟨y0, y1, y2, y3, y4⟩ := Q7.out.y
        obtain ⟨z0, z1, z2, z3, z4⟩ := Q7.out.z
        simp only [Nat.zero_add] at x1 x2 x3 x4 y1 y2 y3 y4 z1 z2 z3 z4
        have HF := hideK (show true = true → bx = true → byy = true from fun q1 q2 => HBY.out.2 (CT_below (HBA.out.1 (by first | exact q1 | trivial)) (HBX.out.1 q2)))
        clear HBA HBX HBY
        cases bx <;> cases byy
        all_goals
          first
          | exact absurd (HF.out rfl rfl) (by decide)
          | (go_wp2_with fail
             go_ret
             exact ⟨rfl, Q7.out.bl⟩)
      · have C5 := hideK (C5B.out hzu)
        clear hzu C5G C5B C6G
        go_wp2_with fail
        refine (C5.out _ Q5.out.bl).mono ?_
        rintro e w6 ⟨⟨z5e, hz5, rfl⟩, hb6⟩
        have Q6 := hideK (Q5.out.keep hb6)
        have hzb5 : (z5e != 0) = true := by simpa using hz5
        clear hz5
        clear hb6
        clear x0 x1 x2 x3 x4 y0 y1 y2 y3 y4 z0 z1 z2 z3 z4
        obtain ⟨x0, x1, x2, x3, x4⟩ := Q6.out.x
        obtain ⟨y0, y1, y2, y3, y4⟩ := Q6.out.y
        obtain ⟨z0, z1, z2, z3, z4⟩ := Q6.out.z
        simp only [Nat.zero_add] at x1 x2 x3 x4 y1 y2 y3 y4 z1 z2 z3 z4
        go_wp2_with fail
        refine (C6A.out _ Q6.out.bl).mono ?_
        rintro e w7 ⟨⟨byy, z6e, rfl⟩, hb7⟩
        have Q7 := hideK (Q6.out.keep hb7)
        clear hb7
        clear x0 x1 x2 x3 x4 y0 y1 y2 y3 y4 z0 z1 z2 z3 z4
        obtain ⟨x0, x1, x2, x3, x4⟩ := Q7.out.x
        obtain ⟨y0, y1, y2, y3, y4⟩ := Q7.out.y
        obtain ⟨z0, z1, z2, z3, z4⟩ := Q7.out.z
        simp only [Nat.zero_add] at x1 x2 x3 x4 y1 y2 y3 y4 z1 z2 z3 z4
        go_wp2_with fail
        go_ret
        exact ⟨rfl, Q7.out.bl⟩
  · have hz : chkTy s ≠ 0 ∨ chkTy t ≠ 0 := by
      by_cases q : chkTy s = 0
      · exact .inr (fun q2 => hz ⟨q, q2⟩)
      · exact .inl q
    have C1 := hideK (fun (W : World) (hb : Below w.heap.size w W) => doBad hz (do_any ds dt s t sal scl sak sck al cl ak ck W hs1 ((hs2.keep hb).mono hb.size) ((hs3.keep hb).mono hb.size) ht1 ((ht2.keep hb).mono hb.size) ((ht3.keep hb).mono hb.size)))
    simp only [tyVal] at C1 ⊢
    clear hs1 hs2 hs3 ht1 ht2 ht3 hu1 hu2 hu3 hz
    go_enter Tryd.func6, Tryd.ntmps6
    go_wp2_with fail
    refine (CE.out _ Q0.out.bl).mono ?_
    rintro e w1 ⟨rfl, hb1⟩
    have Q1 := hideK (Q0.out.keep hb1)
    clear hb1
    clear x0 x1 x2 x3 x4 y0 y1 y2 y3 y4 z0 z1 z2 z3 z4
    obtain ⟨x0, x1, x2, x3, x4⟩ := Q1.out.x
    obtain ⟨y0, y1, y2, y3, y4⟩ := Q1.out.y
    obtain ⟨z0, z1, z2, z3, z4⟩ := Q1.out.z
    simp only [Nat.zero_add] at x1 x2 x3 x4 y1 y2 y3 y4 z1 z2 z3 z4
    go_wp2_with fail
    refine (C1.out _ Q1.out.bl).mono ?_
    rintro e w2 ⟨⟨z1e, hz1, rfl⟩, hb2⟩
    have Q2 := hideK (Q1.out.keep hb2)
    have hzb1 : (z1e != 0) = true := by simpa using hz1
    clear hz1
    clear hb2
    clear x0 x1 x2 x3 x4 y0 y1 y2 y3 y4 z0 z1 z2 z3 z4
    obtain ⟨x0, x1, x2, x3, x4⟩ := Q2.out.x
    obtain ⟨y0, y1, y2, y3, y4⟩ := Q2.out.y
    obtain ⟨z0, z1, z2, z3, z4⟩ := Q2.out.z
    simp only [Nat.zero_add] at x1 x2 x3 x4 y1 y2 y3 y4 z1 z2 z3 z4
    go_wp2_with fail
    go_ret
    exact ⟨rfl, Q2.out.bl⟩
end Go.Proofs.YtoieacgojkgjgabDoor
