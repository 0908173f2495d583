/-
  The contracts of dual.Graph and dual.Of.
-/
import Derived.Test.YtnlpnbelkkgghaaDoorJd
import Derived.Test.YtnlpnbelkkgghaaDoorVw
import Derived.Test.YtnlpnbelkkgghaaDoorVq
import Derived.Test.YtnlpnbelkkgghaaDoorMc
import Derived.Test.YtnlpnbelkkgghaaDoorUl
namespace Go.Proofs.YtnlpnbelkkgghaaDoor
open Go.RowKit Go.Shelf

set_option maxRecDepth 100000 in
set_option maxHeartbeats 2000000 in
theorem dualGraph_any (g : List Nd) (ag : Option Addr) (cg B : Nat) (w : World) (hg : GN g) (hl : g.length ≤ 100) (hga : GAt w B g ag) (hB : B ≤ w.heap.size) :
    Calls Tryd.prog 46 #[.slice ag g.length cg] w fun e w' => (∃ c, CLS (othG g) c ∧ ∃ ao co, e = .returned (.tuple #[.slice ao (leastG (othG g) c).length co, .int .i64 0]) ∧ GAt w' w'.heap.size (leastG (othG g) c) ao) ∧ Below w.heap.size w w' := by
  have c1 := checkG_any g ag cg B w hg hga hB
  have CO := hideK (fun (W : World) (hb : Below w.heap.size w W) => otherEnd_any g ag cg B W hg (hga.keep (hb.mono hB)) (Nat.le_trans hB hb.size))
  have CL := hideK (fun (W : World) ao co (hgo : GAt W W.heap.size (othG g) ao) => leastG_any (othG g) ao co W.heap.size W (oth_gn hg hl) hgo (Nat.le_refl _))
  have hlz : ¬ ((g.length : Int) > 100) := by omega
  have hlz2 : (g.length : Int) ≤ 100 := by omega
  clear hga hg
  go_enter Tryd.func46, Tryd.ntmps46
  go_wp2_with fail
  refine c1.mono ?_
  rintro e w1 ⟨rfl, hb1⟩
  have cO := CO.out w1 hb1
  have HB := hideK hb1
  clear c1 CO hb1
  go_wp2_with fail
  refine cO.mono ?_
  rintro e w2 ⟨⟨ao, co, rfl, hgo⟩, hb2⟩
  have cL := CL.out w2 ao co hgo
  have HB2 := hideK (HB.out.trans (hb2.mono HB.out.size))
  clear cO CL hgo hb2
  go_wp2_with fail
  refine cL.mono ?_
  rintro e w3 ⟨⟨c, hc, a3, c3, rfl, hg3⟩, hb3⟩
  have HC := hideK hc
  have HG3 := hideK hg3
  have HB3 := hideK (HB2.out.trans (hb3.mono HB2.out.size))
  clear cL hc hg3 hb3
  go_wp2_with fail
  go_ret2
  exact ⟨⟨c, HC.out, _, _, rfl, HG3.out⟩, HB3.out⟩
/-- what Of of the other end leaves -/
def DOPost (t : Ty) (w : World) (e : Ending) (w' : World) : Prop :=
  ((chkTy t ≠ 0 ∧ e = .returned (.tuple #[.slice none 0 0, .int .i64 (chkTy t)])) ∨ (∃ g, OFG t g ∧ ∃ c, CLS (othG g) c ∧ ∃ ao co, e = .returned (.tuple #[.slice ao (leastG (othG g) c).length co, .int .i64 0]) ∧ GAt w' w'.heap.size (leastG (othG g) c) ao)) ∧ Below w.heap.size w w'
set_option maxRecDepth 100000 in
set_option maxHeartbeats 2000000 in
theorem dualOf_any (d : Nat) (t : Ty) (al : Option Addr) (cl : Nat) (ak : Option Addr) (ck : Nat) (w : World) (hbd : TyBd t cl ck) (hla : LA w w.heap.size t.labels al) (hkt : KT w w.heap.size d t.kids ak) :
    Calls Tryd.prog 23 #[tyVal t al cl ak ck] w (DOPost t w) := by
  have hA : Below w.heap.size w (w.alloc (.cells #[.int .i64 t.kind, .int .i64 t.so, .string t.name, .slice al t.labels.length cl, .slice ak t.kids.length ck] 25)) := (Below.refl _ _).alloc (Nat.le_refl _) _
  have cO := of_any d t al cl ak ck _ hbd (NAt.mono hA.size (NAt.keep hA hla)) (KT.mono hA.size (KT.keep hA hkt))
  have b0 : TyAt (w.alloc (.cells #[.int .i64 t.kind, .int .i64 t.so, .string t.name, .slice al t.labels.length cl, .slice ak t.kids.length ck] 25)) w.heap.size 0 t al cl ak ck := ⟨by go_cell, by go_cell, by go_cell, by go_cell, by go_cell⟩
  obtain ⟨x0, x1, x2, x3, x4⟩ := b0
  simp only [Nat.zero_add] at x1 x2 x3 x4
  have HA := hideK hA
  unfold DOPost
  unfold OFPost at cO
  simp only [tyVal] at cO ⊢
  clear hbd hla hkt hA
  go_enter Tryd.func23, Tryd.ntmps23
  go_wp2_with fail
  refine cO.mono ?_
  rintro e w1 ⟨hor, hb1⟩
  have HB := hideK (HA.out.trans (hb1.mono HA.out.size))
  clear cO hb1 x0 x1 x2 x3 x4
  rcases hor with ⟨hz, rfl⟩ | ⟨g, ag, cg, hof, rfl, hga⟩
  · have hzb : (chkTy t != 0) = true := by simpa using hz
    have HZ := hideK hz
    clear hz
    go_wp2_with fail
    go_ret2
    exact ⟨.inl ⟨HZ.out, rfl⟩, HB.out⟩
  · have cD := dualGraph_any g ag cg w1.heap.size w1 hof.gn (by have := hof.le; omega) hga (Nat.le_refl _)
    have HOF := hideK hof
    clear hof hga
    go_wp2_with fail
    refine cD.mono ?_
    rintro e w2 ⟨⟨c, hc, ao, co, rfl, hg2⟩, hb2⟩
    have HB2 := hideK (HB.out.trans (hb2.mono HB.out.size))
    have HC := hideK hc
    have HG2 := hideK hg2
    clear cD hb2 hc hg2
    go_wp2_with fail
    go_ret2
    exact ⟨.inr ⟨g, HOF.out, c, HC.out, _, _, rfl, HG2.out⟩, HB2.out⟩
end Go.Proofs.YtnlpnbelkkgghaaDoor
/-
  The law of duetkeep.ComplyBelow: whatever types are handed in it answers true.
-/
namespace Go.Proofs.YtnlpnbelkkgghaaDoor
open Go.RowKit Go.Shelf

theorem doBad {s t : Ty} {w : World} (hz : chkTy s ≠ 0 ∨ chkTy t ≠ 0) {args : Array Value} (c : Calls Tryd.prog 19 args w (DCPost s t w)) : Calls Tryd.prog 19 args w fun e w' => (∃ z : Int, z ≠ 0 ∧ e = .returned (.tuple #[.bool false, .int .i64 z])) ∧ Below w.heap.size w w' := by
  refine c.mono ?_
  rintro e w' ⟨h | h | h, hb⟩
  · exact ⟨⟨_, h.1, h.2⟩, hb⟩
  · exact ⟨⟨_, h.2.1, h.2.2⟩, hb⟩
  · obtain ⟨g, h', hg, hh, _⟩ := h
    rcases hz with q | q
    · exact absurd hg.chk q
    · exact absurd hh.chk q
theorem doGood {s t : Ty} {w : World} (hs : chkTy s = 0) (ht : chkTy t = 0) {args : Array Value} (c : Calls Tryd.prog 19 args w (DCPost s t w)) : Calls Tryd.prog 19 args w fun e w' => (∃ b : Bool, e = .returned (.tuple #[.bool b, .int .i64 0]) ∧ (b = true ↔ CT s t)) ∧ Below w.heap.size w w' := by
  refine c.mono ?_
  rintro e w' ⟨h | h | h, hb⟩
  · exact absurd hs h.1
  · exact absurd ht h.2.1
  · obtain ⟨_, _, _, _, b, e, hq⟩ := h
    exact ⟨⟨b, e, hq⟩, hb⟩
end Go.Proofs.YtnlpnbelkkgghaaDoor

/-
  The law of duetkeep.BelowDual: whatever types are handed in it answers true.
-/
namespace Go.Proofs.YtnlpnbelkkgghaaDoor
open Go.RowKit Go.Shelf

/-- two types in boxes -/
structure BXD (w : World) (s : Ty) (sal : Option Addr) (scl : Nat) (sak : Option Addr) (sck : Nat) (t : Ty) (al : Option Addr) (cl : Nat) (ak : Option Addr) (ck : Nat) (W : World) : Prop where
  x : TyAt W w.heap.size 0 s sal scl sak sck
  y : TyAt W (w.heap.size + 1) 0 t al cl ak ck
  lt : w.heap.size + 1 < W.heap.size
  bl : Below w.heap.size w W
theorem BXD.keep {w : World} {s : Ty} {sal : Option Addr} {scl : Nat} {sak : Option Addr} {sck : Nat} {t : Ty} {al : Option Addr} {cl : Nat} {ak : Option Addr} {ck : Nat} {W W' : World} (h : BXD w s sal scl sak sck t al cl ak ck W) (hb : Below W.heap.size W W') : BXD w s sal scl sak sck t al cl ak ck W' :=
  ⟨h.x.keep hb (by have := h.lt; omega), h.y.keep hb h.lt, Nat.lt_of_lt_of_le h.lt hb.size, h.bl.trans (hb.mono h.bl.size)⟩
theorem BXD.new (w : World) (s : Ty) (sal : Option Addr) (scl : Nat) (sak : Option Addr) (sck : Nat) (t : Ty) (al : Option Addr) (cl : Nat) (ak : Option Addr) (ck : Nat) : BXD w s sal scl sak sck t al cl ak ck ((w.alloc (.cells #[.int .i64 s.kind, .int .i64 s.so, .string s.name, .slice sal s.labels.length scl, .slice sak s.kids.length sck] 25)).alloc (.cells #[.int .i64 t.kind, .int .i64 t.so, .string t.name, .slice al t.labels.length cl, .slice ak t.kids.length ck] 25)) :=
  ⟨⟨by go_cell, by go_cell, by go_cell, by go_cell, by go_cell⟩, ⟨by go_cell, by go_cell, by go_cell, by go_cell, by go_cell⟩, by simp, (((Below.refl _ _).alloc (Nat.le_refl _) _).alloc (by simp) _)⟩
theorem dofGood {t : Ty} {w : World} {g : List Nd} (hg : OFG t g) {args : Array Value} (c : Calls Tryd.prog 23 args w (DOPost t w)) : Calls Tryd.prog 23 args w fun e w' => (∃ c, CLS (othG g) c ∧ ∃ ao co, e = .returned (.tuple #[.slice ao (leastG (othG g) c).length co, .int .i64 0]) ∧ GAt w' w'.heap.size (leastG (othG g) c) ao) ∧ Below w.heap.size w w' := by
  refine c.mono ?_
  rintro e w' ⟨hq | hq, hb⟩
  · exact absurd hg.chk hq.1
  · obtain ⟨g', hg', hr⟩ := hq
    obtain rfl := hg.uniq hg'
    exact ⟨hr, hb⟩
end Go.Proofs.YtnlpnbelkkgghaaDoor

/-
  The contract of duetlaw.Same of texts; why !int.end is not below !int.!int.end.
-/
namespace Go.Proofs.YtnlpnbelkkgghaaDoor
open Go.RowKit Go.Shelf

set_option maxRecDepth 100000 in
set_option maxHeartbeats 2000000 in
theorem sameStr_any (xs ys : List ByteArray) (a1 a2 : Option Addr) (c1 c2 B : Nat) (w : World) (h1 : LA w B xs a1) (h2 : LA w B ys a2) (hB : B ≤ w.heap.size) (hl : xs.length ≤ 100000) (hl2 : ys.length ≤ 100000) :
    Calls Tryd.prog 21 #[.slice a1 xs.length c1, .slice a2 ys.length c2] w fun e w' => e = .returned (.bool (decide (xs = ys))) ∧ Below w.heap.size w w' := by
  have hbd : (xs.length : Int) ≤ 100000 := by omega
  have hbd2 : (ys.length : Int) ≤ 100000 := by omega
  by_cases hlen : xs.length = ys.length
  · have hne : ((xs.length : Int) != (ys.length : Int)) = false := by rw [hlen]; simp
    have heq : ((xs.length : Int) == (ys.length : Int)) = true := by rw [hlen]; simp
    go_enter Tryd.func21, Tryd.ntmps21
    go_wp2_with fail
    go_loopw [13] (fun i wr => ∃ k : Nat, k ≤ xs.length ∧ i = .int .i64 (k : Int) ∧ xs.take k = ys.take k ∧ Below w.heap.size w wr) (fun i _ => xs.length - (intOf i).toNat)
    case atStart => exact ⟨0, Nat.zero_le _, rfl, rfl, Below.refl _ _⟩
    case round =>
      obtain ⟨k, hk, rfl, hpre, hb⟩ := hrel
      by_cases hlt : k < xs.length
      · have hltz : (k : Int) < (xs.length : Int) := by omega
        have hlt2 : k < ys.length := by omega
        have hltz2 : (k : Int) < (ys.length : Int) := by omega
        obtain ⟨b1, o1, rfl, l1, f1⟩ := h1.resolve_left (fun h => by have := congrArg List.length h; simp at this; rw [this] at hlt; simp at hlt)
        obtain ⟨b2, o2, rfl, l2, f2⟩ := h2.resolve_left (fun h => by have := congrArg List.length h; simp at this; rw [this] at hlt2; simp at hlt2)
        have e1 := (hb.cell (p := ⟨b1, o1 + k, none⟩) (by show b1 < w.heap.size; omega)).trans (f1 k (by simpa using hlt))
        have e2 := (hb.cell (p := ⟨b2, o2 + k, none⟩) (by show b2 < w.heap.size; omega)).trans (f2 k (by simpa using hlt2))
        rw [List.getElem_map] at e1 e2
        have HB := hideK hb
        have HP := hideK (show xs.take (k + 1) = xs.take k ++ [xs[k]] from List.take_succ_eq_append_getElem hlt)
        have HP2 := hideK (show ys.take (k + 1) = ys.take k ++ [ys[k]] from List.take_succ_eq_append_getElem hlt2)
        have HPR := hideK hpre
        by_cases he : xs[k] = ys[k]
        · have hx : (xs[k].toList == ys[k].toList) = true := by rw [he]; simp
          have HE := hideK he
          clear f1 f2 hb he
          generalize xs[k] = x at *
          generalize ys[k] = y at *
          go_wp2_with fail
          go_quiet (fail)
          have hb0 : Below wr.heap.size wr (wr.drewN nq) := below_drewN (Below.refl _ _) nq
          generalize wr.drewN nq = w0 at hb0 ⊢
          go_wp2_with fail
          go_roundw
          case rel => exact ⟨k + 1, by omega, by go_num, by rw [HP.out, HP2.out, HPR.out, HE.out], HB.out.trans (hb0.mono HB.out.size)⟩
          case measure => simp [intOf]; omega
        · have hx : (xs[k].toList == ys[k].toList) = false := by rw [ba_beq]; simpa using he
          have HD := hideK (show decide (xs = ys) = false from decide_eq_false (fun e => he (by subst e; rfl)))
          clear f1 f2 hb he
          generalize xs[k] = x at *
          generalize ys[k] = y at *
          go_wp2_with fail
          go_quiet (fail)
          have hb0 : Below wr.heap.size wr (wr.drewN nq) := below_drewN (Below.refl _ _) nq
          generalize wr.drewN nq = w0 at hb0 ⊢
          go_wp2_with fail
          go_ret
          exact ⟨by rw [HD.out]; rfl, HB.out.trans (hb0.mono HB.out.size)⟩
      · have hltz : ¬ (k : Int) < (xs.length : Int) := by omega
        have hkl : k = xs.length := by omega
        subst hkl
        have hxy : xs = ys := by rw [List.take_length, hlen, List.take_length] at hpre; exact hpre
        have HD := hideK (decide_eq_true hxy)
        clear hxy hpre
        go_wp2_with fail
        go_ret
        exact ⟨by rw [HD.out]; rfl, hb⟩
  · have hne : ((xs.length : Int) != (ys.length : Int)) = true := by simpa using fun h : (xs.length : Int) = (ys.length : Int) => hlen (by omega)
    have heq : ((xs.length : Int) == (ys.length : Int)) = false := by simpa using fun h : (xs.length : Int) = (ys.length : Int) => hlen (by omega)
    have hdec : decide (xs = ys) = false := decide_eq_false (fun e => hlen (by rw [e]))
    rw [hdec]
    clear hdec hlen
    go_enter Tryd.func21, Tryd.ntmps21
    go_wp2_with fail
    go_ret
    exact ⟨rfl, Below.refl _ _⟩
end Go.Proofs.YtnlpnbelkkgghaaDoor

/-
  The contract of duetkeep.put, for every type that is right in all its parts.
-/
namespace Go.Proofs.YtnlpnbelkkgghaaDoor
open Go.RowKit Go.Shelf

end Go.Proofs.YtnlpnbelkkgghaaDoor

/-
  The law of duetkeep.GraphUnique: whatever types are handed in it answers true.
-/
namespace Go.Proofs.YtnlpnbelkkgghaaDoor
open Go.RowKit Go.Shelf

/-- a Rec around what lies in a literal -/
theorem kt_lit {W : World} {d : Nat} {t : Ty} {al : Option Addr} {cl : Nat} {ak : Option Addr} {ck : Nat} (hbd : TyBd t cl ck) (hla : LA W W.heap.size t.labels al) (hkt : KT W W.heap.size d t.kids ak) : KT (W.alloc (.cells #[.int .i64 t.kind, .int .i64 t.so, .string t.name, .slice al t.labels.length cl, .slice ak t.kids.length ck] 25)) (W.alloc (.cells #[.int .i64 t.kind, .int .i64 t.so, .string t.name, .slice al t.labels.length cl, .slice ak t.kids.length ck] 25)).heap.size (d + 1) [t] (some ⟨W.heap.size, 0, none⟩) := by
  have hA : Below W.heap.size W (W.alloc (.cells #[.int .i64 t.kind, .int .i64 t.so, .string t.name, .slice al t.labels.length cl, .slice ak t.kids.length ck] 25)) := (Below.refl _ _).alloc (Nat.le_refl _) _
  refine .inr ⟨W.heap.size, 0, rfl, by simp, fun i hi => ?_⟩
  have hi' : i < [t].length := hi
  obtain rfl : i = 0 := by simp at hi'; omega
  exact ⟨al, cl, ak, ck, ⟨by go_cell, by go_cell, by go_cell, by go_cell, by go_cell⟩, hbd, (hla.keep hA).mono hA.size, (hkt.keep hA).mono hA.size⟩
end Go.Proofs.YtnlpnbelkkgghaaDoor
