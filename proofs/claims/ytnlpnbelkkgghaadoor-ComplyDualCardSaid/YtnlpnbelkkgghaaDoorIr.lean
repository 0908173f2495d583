/-
  The contracts of dual.Graph and dual.Of.
-/
import Derived.Test.YtnlpnbelkkgghaaDoorJd
import Derived.Test.YtnlpnbelkkgghaaDoorVw
import Derived.Test.YtnlpnbelkkgghaaDoorVq
import Derived.Test.YtnlpnbelkkgghaaDoorVc
namespace Go.Proofs.YtnlpnbelkkgghaaDoor
open Go.RowKit Go.Shelf

set_option maxRecDepth 100000 in
set_option maxHeartbeats 2000000 in
theorem dualGraph_any (g : List Nd) (ag : Option Addr) (cg B : Nat) (w : World) (hg : GN g) (hl : g.length ≤ 100) (hga : GAt w B g ag) (hB : B ≤ w.heap.size) :
    Calls Tryd.prog 46 #[.slice ag g.length cg] w fun e w' => (∃ c, CLS (othG g) c ∧ ∃ ao co, e = .returned (.tuple #[.slice ao (leastG (othG g) c).length co, .int .i64 0]) ∧ GAt w' w'.heap.size (leastG (othG g) c) ao) ∧ Below w.heap.size w w' := by
  have c1 := checkG_any g ag cg B w hg hga hB
  have CO := hideK (fun (W : World) (hb : Below w.heap.size w W) => otherEnd_any g ag cg B W hg (hga.keep (hb.mono hB)) (Nat.le_trans hB hb.size))
  have CL := hideK (fun (W : World) ao co (hgo : GAt W W.heap.size (othG g) ao) => leastG_any (othG g) ao co W.heap.size W (oth_gn hg hl) hgo (Nat.le_refl _))
  have hlz : ¬ ((g.length : Int) > 100) := by omega
  have hlz2 : (g.length : Int) ≤ 100 := by omega
  clear hga hg
  go_enter Tryd.func46, Tryd.ntmps46
  go_wp2_with fail
  refine c1.mono ?_
  rintro e w1 ⟨rfl, hb1⟩
  have cO := CO.out w1 hb1
  have HB := hideK hb1
  clear c1 CO hb1
  go_wp2_with fail
  refine cO.mono ?_
  rintro e w2 ⟨⟨ao, co, rfl, hgo⟩, hb2⟩
  have cL := CL.out w2 ao co hgo
  have HB2 := hideK (HB.out.trans (hb2.mono HB.out.size))
  clear cO CL hgo hb2
  go_wp2_with fail
  refine cL.mono ?_
  rintro e w3 ⟨⟨c, hc, a3, c3, rfl, hg3⟩, hb3⟩
  have HC := hideK hc
  have HG3 := hideK hg3
  have HB3 := hideK (HB2.out.trans (hb3.mono HB2.out.size))
  clear cL hc hg3 hb3
  go_wp2_with fail
  go_ret2
  exact ⟨⟨c, HC.out, _, _, rfl, HG3.out⟩, HB3.out⟩
/-- what Of of the other end leaves -/
def DOPost (t : Ty) (w : World) (e : Ending) (w' : World) : Prop :=
  ((chkTy t ≠ 0 ∧ e = .returned (.tuple #[.slice none 0 0, .int .i64 (chkTy t)])) ∨ (∃ g, OFG t g ∧ ∃ c, CLS (othG g) c ∧ ∃ ao co, e = .returned (.tuple #[.slice ao (leastG (othG g) c).length co, .int .i64 0]) ∧ GAt w' w'.heap.size (leastG (othG g) c) ao)) ∧ Below w.heap.size w w'
set_option maxRecDepth 100000 in
set_option maxHeartbeats 2000000 in
theorem dualOf_any (d : Nat) (t : Ty) (al : Option Addr) (cl : Nat) (ak : Option Addr) (ck : Nat) (w : World) (hbd : TyBd t cl ck) (hla : LA w w.heap.size t.labels al) (hkt : KT w w.heap.size d t.kids ak) :
    Calls Tryd.prog 23 #[tyVal t al cl ak ck] w (DOPost t w) := by
  have hA : Below w.heap.size w (w.alloc (.cells #[.int .i64 t.kind, .int .i64 t.so, .string t.name, .slice al t.labels.length cl, .slice ak t.kids.length ck] 25)) := (Below.refl _ _).alloc (Nat.le_refl _) _
  have cO := of_any d t al cl ak ck _ hbd (NAt.mono hA.size (NAt.keep hA hla)) (KT.mono hA.size (KT.keep hA hkt))
  have b0 : TyAt (w.alloc (.cells #[.int .i64 t.kind, .int .i64 t.so, .string t.name, .slice al t.labels.length cl, .slice ak t.kids.length ck] 25)) w.heap.size 0 t al cl ak ck := ⟨by go_cell, by go_cell, by go_cell, by go_cell, by go_cell⟩
  obtain ⟨x0, x1, x2, x3, x4⟩ := b0
  simp only [Nat.zero_add] at x1 x2 x3 x4
  have HA := hideK hA
  unfold DOPost
  unfold OFPost at cO
  simp only [tyVal] at cO ⊢
  clear hbd hla hkt hA
  go_enter Tryd.func23, Tryd.ntmps23
  go_wp2_with fail
  refine cO.mono ?_
  rintro e w1 ⟨hor, hb1⟩
  have HB := hideK (HA.out.trans (hb1.mono HA.out.size))
  clear cO hb1 x0 x1 x2 x3 x4
  rcases hor with ⟨hz, rfl⟩ | ⟨g, ag, cg, hof, rfl, hga⟩
  · have hzb : (chkTy t != 0) = true := by simpa using hz
    have HZ := hideK hz
    clear hz
    go_wp2_with fail
    go_ret2
    exact ⟨.inl ⟨HZ.out, rfl⟩, HB.out⟩
  · have cD := dualGraph_any g ag cg w1.heap.size w1 hof.gn (by have := hof.le; omega) hga (Nat.le_refl _)
    have HOF := hideK hof
    clear hof hga
    go_wp2_with fail
    refine cD.mono ?_
    rintro e w2 ⟨⟨c, hc, ao, co, rfl, hg2⟩, hb2⟩
    have HB2 := hideK (HB.out.trans (hb2.mono HB.out.size))
    have HC := hideK hc
    have HG2 := hideK hg2
    clear cD hb2 hc hg2
    go_wp2_with fail
    go_ret2
    exact ⟨.inr ⟨g, HOF.out, c, HC.out, _, _, rfl, HG2.out⟩, HB2.out⟩
end Go.Proofs.YtnlpnbelkkgghaaDoor
/-
  The law of duetkeep.ComplyBelow: whatever types are handed in it answers true.
-/
namespace Go.Proofs.YtnlpnbelkkgghaaDoor
open Go.RowKit Go.Shelf

theorem doBad {s t : Ty} {w : World} (hz : chkTy s ≠ 0 ∨ chkTy t ≠ 0) {args : Array Value} (c : Calls Tryd.prog 19 args w (DCPost s t w)) : Calls Tryd.prog 19 args w fun e w' => (∃ z : Int, z ≠ 0 ∧ e = .returned (.tuple #[.bool false, .int .i64 z])) ∧ Below w.heap.size w w' := by
  refine c.mono ?_
  rintro e w' ⟨h | h | h, hb⟩
  · exact ⟨⟨_, h.1, h.2⟩, hb⟩
  · exact ⟨⟨_, h.2.1, h.2.2⟩, hb⟩
  · obtain ⟨g, h', hg, hh, _⟩ := h
    rcases hz with q | q
    · exact absurd hg.chk q
    · exact absurd hh.chk q
theorem doGood {s t : Ty} {w : World} (hs : chkTy s = 0) (ht : chkTy t = 0) {args : Array Value} (c : Calls Tryd.prog 19 args w (DCPost s t w)) : Calls Tryd.prog 19 args w fun e w' => (∃ b : Bool, e = .returned (.tuple #[.bool b, .int .i64 0]) ∧ (b = true ↔ CT s t)) ∧ Below w.heap.size w w' := by
  refine c.mono ?_
  rintro e w' ⟨h | h | h, hb⟩
  · exact absurd hs h.1
  · exact absurd ht h.2.1
  · obtain ⟨_, _, _, _, b, e, hq⟩ := h
    exact ⟨⟨b, e, hq⟩, hb⟩
theorem doSome {s t : Ty} {w : World} {args : Array Value} (c : Calls Tryd.prog 19 args w (DCPost s t w)) : Calls Tryd.prog 19 args w fun e w' => (∃ (b : Bool) (z : Int), e = .returned (.tuple #[.bool b, .int .i64 z])) ∧ Below w.heap.size w w' := by
  refine c.mono ?_
  rintro e w' ⟨h | h | h, hb⟩
  · exact ⟨⟨_, _, h.2⟩, hb⟩
  · exact ⟨⟨_, _, h.2.2⟩, hb⟩
  · obtain ⟨_, _, _, _, b, e, _⟩ := h
    exact ⟨⟨_, _, e⟩, hb⟩
theorem ofGood {t : Ty} {w : World} (ht : chkTy t = 0) {args : Array Value} (c : Calls Tryd.prog 8 args w (OFPost t w)) : Calls Tryd.prog 8 args w fun e w' => (∃ g, OFG t g ∧ ∃ ag cg, e = .returned (.tuple #[.slice ag g.length cg, .int .i64 0]) ∧ GAt w' w'.heap.size g ag) ∧ Below w.heap.size w w' := by
  refine c.mono ?_
  rintro e w' ⟨h | ⟨g, ag, cg, hg, he, hga⟩, hb⟩
  · exact absurd ht h.1
  · exact ⟨⟨g, hg, ag, cg, he, hga⟩, hb⟩
theorem dualGood {t : Ty} {w : World} (ht : chkTy t = 0) {args : Array Value} (c : Calls Tryd.prog 23 args w (DOPost t w)) : Calls Tryd.prog 23 args w fun e w' => (∃ g, OFG t g ∧ ∃ c, CLS (othG g) c ∧ ∃ ao co, e = .returned (.tuple #[.slice ao (leastG (othG g) c).length co, .int .i64 0]) ∧ GAt w' w'.heap.size (leastG (othG g) c) ao) ∧ Below w.heap.size w w' := by
  refine c.mono ?_
  rintro e w' ⟨h | h, hb⟩
  · exact absurd ht h.1
  · exact ⟨h, hb⟩
/-- who gets on gets on with what is above -/
theorem CT_below {s t u : Ty} (h1 : CT s t) (h2 : BT t u) : CT s u := by
  obtain ⟨g, h, hg, hh, hb⟩ := h1
  obtain ⟨h', f, hh', hf, hb2⟩ := h2
  rw [hh'.uniq hh] at hb2
  exact ⟨g, f, hg, hf, fun k => bl_trans k (othG f) (othG h) g 0 0 0 ((bl_dual hh.gn hf.gn (by have := hh.le; omega) (by have := hf.le; omega) k 0 0 hh.gn.pos hf.gn.pos).2 (hb2 k)) (hb k)⟩
theorem end_node {g : List Nd} (h : OFG endT g) : (nodeAt g 0).kind = 1 ∧ (nodeAt g 0).so = 0 ∧ (nodeAt g 0).labs = [] := by
  have h1 := h.does 1
  have h2 : den endT e0 1 = ⟨1, 0, [], []⟩ := by rw [den_node endT e0 (by decide) (by decide)]; rfl
  rw [h2] at h1
  have h3 : gT g 1 0 = ⟨(nodeAt g 0).kind, (nodeAt g 0).so, (nodeAt g 0).labs, (nodeAt g 0).to.map (gT g 0)⟩ := rfl
  rw [h3] at h1
  injection h1 with q1 q2 q3 _
  exact ⟨q1, q2, q3⟩
theorem CT_end {g : List Nd} (h : OFG endT g) : CT endT endT := by
  obtain ⟨k1, k2, k3⟩ := end_node h
  refine ⟨g, g, h, h, fun k => ?_⟩
  cases k with
  | zero => trivial
  | succ k =>
    rw [bl_succ, oth_at1 h.gn.pos]
    have e1 : (othT g.length (nodeAt g 0)).kind = 1 := by show kdD (nodeAt g 0).kind = 1; rw [k1]; rfl
    have e2 : (othT g.length (nodeAt g 0)).labs = [] := k3
    refine ⟨⟨by rw [e1, k1], rfl, by rw [e1, if_neg (by decide), k3]; intro l hl; cases hl⟩, fun q => by omega, fun q => by omega, fun q => by omega, fun x y l hx _ => by rw [e2] at hx; simp at hx⟩
/-- End and End get on -/
theorem doEnd (w : World) : Calls Tryd.prog 19 #[.agg #[.int .i64 1, .int .i64 0, .string ⟨#[]⟩, .slice none 0 0, .slice none 0 0], .agg #[.int .i64 1, .int .i64 0, .string ⟨#[]⟩, .slice none 0 0, .slice none 0 0]] w fun e w' => e = .returned (.tuple #[.bool true, .int .i64 0]) ∧ Below w.heap.size w w' := by
  have c := doGood end_chk end_chk (do_any 0 0 endT endT none 0 none 0 none 0 none 0 w end_bd (.inl rfl) rfl end_bd (.inl rfl) rfl)
  refine c.mono ?_
  rintro e w' ⟨⟨b, rfl, hq⟩, hb⟩
  obtain ⟨g, hg⟩ := OFG_ex end_chk
  obtain rfl : b = true := hq.2 (CT_end hg)
  exact ⟨rfl, hb⟩
end Go.Proofs.YtnlpnbelkkgghaaDoor

/-
  The law of duetkeep.BelowDual: whatever types are handed in it answers true.
-/
namespace Go.Proofs.YtnlpnbelkkgghaaDoor
open Go.RowKit Go.Shelf

/-- two types in boxes -/
structure BXD (w : World) (s : Ty) (sal : Option Addr) (scl : Nat) (sak : Option Addr) (sck : Nat) (t : Ty) (al : Option Addr) (cl : Nat) (ak : Option Addr) (ck : Nat) (W : World) : Prop where
  x : TyAt W w.heap.size 0 s sal scl sak sck
  y : TyAt W (w.heap.size + 1) 0 t al cl ak ck
  lt : w.heap.size + 1 < W.heap.size
  bl : Below w.heap.size w W
theorem BXD.keep {w : World} {s : Ty} {sal : Option Addr} {scl : Nat} {sak : Option Addr} {sck : Nat} {t : Ty} {al : Option Addr} {cl : Nat} {ak : Option Addr} {ck : Nat} {W W' : World} (h : BXD w s sal scl sak sck t al cl ak ck W) (hb : Below W.heap.size W W') : BXD w s sal scl sak sck t al cl ak ck W' :=
  ⟨h.x.keep hb (by have := h.lt; omega), h.y.keep hb h.lt, Nat.lt_of_lt_of_le h.lt hb.size, h.bl.trans (hb.mono h.bl.size)⟩
theorem BXD.new (w : World) (s : Ty) (sal : Option Addr) (scl : Nat) (sak : Option Addr) (sck : Nat) (t : Ty) (al : Option Addr) (cl : Nat) (ak : Option Addr) (ck : Nat) : BXD w s sal scl sak sck t al cl ak ck ((w.alloc (.cells #[.int .i64 s.kind, .int .i64 s.so, .string s.name, .slice sal s.labels.length scl, .slice sak s.kids.length sck] 25)).alloc (.cells #[.int .i64 t.kind, .int .i64 t.so, .string t.name, .slice al t.labels.length cl, .slice ak t.kids.length ck] 25)) :=
  ⟨⟨by go_cell, by go_cell, by go_cell, by go_cell, by go_cell⟩, ⟨by go_cell, by go_cell, by go_cell, by go_cell, by go_cell⟩, by simp, (((Below.refl _ _).alloc (Nat.le_refl _) _).alloc (by simp) _)⟩
theorem dofGood {t : Ty} {w : World} {g : List Nd} (hg : OFG t g) {args : Array Value} (c : Calls Tryd.prog 23 args w (DOPost t w)) : Calls Tryd.prog 23 args w fun e w' => (∃ c, CLS (othG g) c ∧ ∃ ao co, e = .returned (.tuple #[.slice ao (leastG (othG g) c).length co, .int .i64 0]) ∧ GAt w' w'.heap.size (leastG (othG g) c) ao) ∧ Below w.heap.size w w' := by
  refine c.mono ?_
  rintro e w' ⟨hq | hq, hb⟩
  · exact absurd hg.chk hq.1
  · obtain ⟨g', hg', hr⟩ := hq
    obtain rfl := hg.uniq hg'
    exact ⟨hr, hb⟩
end Go.Proofs.YtnlpnbelkkgghaaDoor

/-
  The contract of duetlaw.Same of texts; why !int.end is not below !int.!int.end.
-/
namespace Go.Proofs.YtnlpnbelkkgghaaDoor
open Go.RowKit Go.Shelf

set_option maxRecDepth 100000 in
set_option maxHeartbeats 2000000 in
theorem sameStr_any (xs ys : List ByteArray) (a1 a2 : Option Addr) (c1 c2 B : Nat) (w : World) (h1 : LA w B xs a1) (h2 : LA w B ys a2) (hB : B ≤ w.heap.size) (hl : xs.length ≤ 100000) (hl2 : ys.length ≤ 100000) :
    Calls Tryd.prog 21 #[.slice a1 xs.length c1, .slice a2 ys.length c2] w fun e w' => e = .returned (.bool (decide (xs = ys))) ∧ Below w.heap.size w w' := by
  have hbd : (xs.length : Int) ≤ 100000 := by omega
  have hbd2 : (ys.length : Int) ≤ 100000 := by omega
  by_cases hlen : xs.length = ys.length
  · have hne : ((xs.length : Int) != (ys.length : Int)) = false := by rw [hlen]; simp
    have heq : ((xs.length : Int) == (ys.length : Int)) = true := by rw [hlen]; simp
    go_enter Tryd.func21, Tryd.ntmps21
    go_wp2_with fail
    go_loopw [13] (fun i wr => ∃ k : Nat, k ≤ xs.length ∧ i = .int .i64 (k : Int) ∧ xs.take k = ys.take k ∧ Below w.heap.size w wr) (fun i _ => xs.length - (intOf i).toNat)
    case atStart => exact ⟨0, Nat.zero_le _, rfl, rfl, Below.refl _ _⟩
    case round =>
      obtain ⟨k, hk, rfl, hpre, hb⟩ := hrel
      by_cases hlt : k < xs.length
      · have hltz : (k : Int) < (xs.length : Int) := by omega
        have hlt2 : k < ys.length := by omega
        have hltz2 : (k : Int) < (ys.length : Int) := by omega
        obtain ⟨b1, o1, rfl, l1, f1⟩ := h1.resolve_left (fun h => by have := congrArg List.length h; simp at this; rw [this] at hlt; simp at hlt)
        obtain ⟨b2, o2, rfl, l2, f2⟩ := h2.resolve_left (fun h => by have := congrArg List.length h; simp at this; rw [this] at hlt2; simp at hlt2)
        have e1 := (hb.cell (p := ⟨b1, o1 + k, none⟩) (by show b1 < w.heap.size; omega)).trans (f1 k (by simpa using hlt))
        have e2 := (hb.cell (p := ⟨b2, o2 + k, none⟩) (by show b2 < w.heap.size; omega)).trans (f2 k (by simpa using hlt2))
        rw [List.getElem_map] at e1 e2
        have HB := hideK hb
        have HP := hideK (show xs.take (k + 1) = xs.take k ++ [xs[k]] from List.take_succ_eq_append_getElem hlt)
        have HP2 := hideK (show ys.take (k + 1) = ys.take k ++ [ys[k]] from List.take_succ_eq_append_getElem hlt2)
        have HPR := hideK hpre
        by_cases he : xs[k] = ys[k]
        · have hx : (xs[k].toList == ys[k].toList) = true := by rw [he]; simp
          have HE := hideK he
          clear f1 f2 hb he
          generalize xs[k] = x at *
          generalize ys[k] = y at *
          go_wp2_with fail
          go_quiet (fail)
          have hb0 : Below wr.heap.size wr (wr.drewN nq) := below_drewN (Below.refl _ _) nq
          generalize wr.drewN nq = w0 at hb0 ⊢
          go_wp2_with fail
          go_roundw
          case rel => exact ⟨k + 1, by omega, by go_num, by rw [HP.out, HP2.out, HPR.out, HE.out], HB.out.trans (hb0.mono HB.out.size)⟩
          case measure => simp [intOf]; omega
        · have hx : (xs[k].toList == ys[k].toList) = false := by rw [ba_beq]; simpa using he
          have HD := hideK (show decide (xs = ys) = false from decide_eq_false (fun e => he (by subst e; rfl)))
          clear f1 f2 hb he
          generalize xs[k] = x at *
          generalize ys[k] = y at *
          go_wp2_with fail
          go_quiet (fail)
          have hb0 : Below wr.heap.size wr (wr.drewN nq) := below_drewN (Below.refl _ _) nq
          generalize wr.drewN nq = w0 at hb0 ⊢
          go_wp2_with fail
          go_ret
          exact ⟨by rw [HD.out]; rfl, HB.out.trans (hb0.mono HB.out.size)⟩
      · have hltz : ¬ (k : Int) < (xs.length : Int) := by omega
        have hkl : k = xs.length := by omega
        subst hkl
        have hxy : xs = ys := by rw [List.take_length, hlen, List.take_length] at hpre; exact hpre
        have HD := hideK (decide_eq_true hxy)
        clear hxy hpre
        go_wp2_with fail
        go_ret
        exact ⟨by rw [HD.out]; rfl, hb⟩
  · have hne : ((xs.length : Int) != (ys.length : Int)) = true := by simpa using fun h : (xs.length : Int) = (ys.length : Int) => hlen (by omega)
    have heq : ((xs.length : Int) == (ys.length : Int)) = false := by simpa using fun h : (xs.length : Int) = (ys.length : Int) => hlen (by omega)
    have hdec : decide (xs = ys) = false := decide_eq_false (fun e => hlen (by rw [e]))
    rw [hdec]
    clear hdec hlen
    go_enter Tryd.func21, Tryd.ntmps21
    go_wp2_with fail
    go_ret
    exact ⟨rfl, Below.refl _ _⟩
/-- !int.T -/
def sdT (t : Ty) : Ty := ⟨2, 1, ⟨#[]⟩, [], [t]⟩
theorem sd_part (t : Ty) : partT (sdT t) = true := by unfold partT sdT; simp
theorem sd_chk1 : chkTy (sdT endT) = 0 := by
  unfold chkTy
  have hp : partT endT = true := by unfold partT endT; simp
  rw [chkT_eq, if_neg (by decide), sd_part, if_neg (by decide), if_neg (by decide), if_neg (by decide)]
  show (chkTL _ [endT] (0, 1)).1 = 0
  rw [chkTL_cons, if_neg (by decide), chkT_eq, if_neg (by decide), hp, if_neg (by decide), if_neg (by decide), if_neg (by decide)]
  rfl
theorem sd_chk2 : chkTy (sdT (sdT endT)) = 0 := by
  unfold chkTy
  have hp : partT endT = true := by unfold partT endT; simp
  rw [chkT_eq, if_neg (by decide), sd_part, if_neg (by decide), if_neg (by decide), if_neg (by decide)]
  show (chkTL _ [sdT endT] (0, 1)).1 = 0
  rw [chkTL_cons, if_neg (by decide), chkT_eq, if_neg (by decide), sd_part, if_neg (by decide), if_neg (by decide), if_neg (by decide)]
  show (chkTL _ [] (chkTL _ [endT] (0, 2))).1 = 0
  rw [chkTL_cons, if_neg (by decide), chkT_eq, if_neg (by decide), hp, if_neg (by decide), if_neg (by decide), if_neg (by decide)]
  rfl
theorem den_end (k : Nat) : den endT e0 (k + 1) = ⟨1, 0, [], []⟩ := by rw [den_node endT e0 (by decide) (by decide)]; rfl
theorem den_sd (t : Ty) (k : Nat) : den (sdT t) e0 (k + 1) = ⟨2, 1, [], [den t e0 k]⟩ := by rw [den_node (sdT t) e0 (by show (2 : Int) ≠ 9; decide) (by show (2 : Int) ≠ 8; decide)]; rfl
/-- what a graph of !int.T does -/
theorem sd_node {g : List Nd} {i : Nat} {x : Tr} {k : Nat} (h : gT g (k + 1) i = ⟨2, 1, [], [x]⟩) : (nodeAt g i).kind = 2 ∧ (nodeAt g i).so = 1 ∧ (nodeAt g i).labs = [] ∧ gT g k (toAt (nodeAt g i) 0) = x := by
  rw [gT_succ, Tr.mk.injEq] at h
  obtain ⟨h1, h2, h3, h4⟩ := h
  refine ⟨h1, h2, h3, ?_⟩
  match hq : (nodeAt g i).to, h4 with
  | [a], h4 =>
    simp at h4
    unfold toAt
    rw [hq]
    exact h4
theorem why_dot {g h : List Nd} (hg : OFG (sdT endT) g) (hh : OFG (sdT (sdT endT)) h) : ∃ arr, srB g h 0 0 = (some 1, arr) ∧ (wayGA arr 1).reverse = [dotB] ∧ (wayGA arr 1).length = 1 := by
  have g2 := hg.does 2
  have h3 := hh.does 3
  rw [den_sd, den_end] at g2
  rw [den_sd, den_sd, den_end] at h3
  obtain ⟨a1, a2, a3, a4⟩ := sd_node g2
  obtain ⟨b1, b2, b3, b4⟩ := sd_node h3
  have ak : (nodeAt g (toAt (nodeAt g 0) 0)).kind = 1 := by
    rw [gT_succ, Tr.mk.injEq] at a4; exact a4.1
  have bk := (sd_node b4).1
  have hne : toAt (nodeAt g 0) 0 ≠ 0 := fun e => by rw [e, a1] at ak; exact absurd ak (by decide)
  have hgl : 2 ≤ g.length := by
    have lt := hg.gn.to_ (i := 0) 0 ((okN_len (hg.gn.at_ hg.gn.pos)).1 (.inl a1))
    omega
  have hf0 : failP g h (0, 0, false) = false := by
    rw [failP_iff]
    unfold okP
    simp only [Bool.false_eq_true, if_false]
    exact ⟨by rw [a1, b1], by rw [a2, b2], by rw [a3, b3, a1]; simp⟩
  have hns : nextS g h (0, 0, false) = [(dotB, toAt (nodeAt g 0) 0, toAt (nodeAt h 0) 0, false)] := by
    unfold nextS stepsP
    simp only
    rw [if_pos (.inl a1)]
  have hgo : onG (nextS g h) 0 [avG (0, 0, false)] (0, 0, false) = [avG (0, 0, false), ((dotB, toAt (nodeAt g 0) 0, toAt (nodeAt h 0) 0, false), 0)] := by
    unfold onG
    rw [hns]
    show addG [avG ((0, 0, false) : Pl)] _ 0 = _
    unfold addG
    rw [if_neg (by
      intro hm
      have : (toAt (nodeAt g 0) 0, toAt (nodeAt h 0) 0, false) = ((0, 0, false) : Pl) := by simpa [plG, avG] using hm
      exact hne (by injection this))]
    rfl
  have hf1 : failP g h (toAt (nodeAt g 0) 0, toAt (nodeAt h 0) 0, false) = true := by
    cases hq : failP g h (toAt (nodeAt g 0) 0, toAt (nodeAt h 0) 0, false) with
    | true => rfl
    | false =>
      rw [failP_iff] at hq
      unfold okP at hq
      simp only [Bool.false_eq_true, if_false] at hq
      have := hq.1
      rw [ak, bk] at this
      exact absurd this (by decide)
  have hfu : ∃ f, 2 * g.length * h.length = f + 1 + 1 := by
    have h1 := hh.gn.pos
    have h2 : 2 * g.length * 1 ≤ 2 * g.length * h.length := Nat.mul_le_mul_left _ h1
    exact ⟨2 * g.length * h.length - 2, by omega⟩
  obtain ⟨f, hf⟩ := hfu
  refine ⟨[avG (0, 0, false), ((dotB, toAt (nodeAt g 0) 0, toAt (nodeAt h 0) 0, false), 0)], ?_, rfl, rfl⟩
  unfold srB srGA
  rw [hf, srG_go (v := avG ((0, 0, false) : Pl)) rfl hf0]
  have hg' : onG (nextS g h) 0 [avG (0, 0, false)] (avG ((0, 0, false) : Pl)).1.2 = [avG (0, 0, false), ((dotB, toAt (nodeAt g 0) 0, toAt (nodeAt h 0) 0, false), 0)] := hgo
  rw [hg']
  exact srG_fail (v := ((dotB, toAt (nodeAt g 0) 0, toAt (nodeAt h 0) 0, false), 0)) rfl hf1
end Go.Proofs.YtnlpnbelkkgghaaDoor
