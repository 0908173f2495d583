/-
  The contracts of dual.Graph and dual.Of.
-/
import Derived.Test.YtnlpnbelkkgghaaDoorJd
import Derived.Test.YtnlpnbelkkgghaaDoorMk
import Derived.Test.YtnlpnbelkkgghaaDoorMi
import Derived.Test.YtnlpnbelkkgghaaDoorUj
import Derived.Test.YtnlpnbelkkgghaaDoorRows
import Derived.Test.YtnlpnbelkkgghaaDoorLid
import Derived.ProofKit
import Derived.Lib.SmallJoins
import Derived.Lib.LaidU8T
import Derived.Lib.LaidIn
import Derived.PinnedBridge
import Derived.Lay
import Derived.SevenTiedAt
namespace Go.Proofs.YtnlpnbelkkgghaaDoor
open Go.RowKit Go.Shelf

set_option maxRecDepth 100000 in
set_option maxHeartbeats 2000000 in
theorem dualGraph_any (g : List Nd) (ag : Option Addr) (cg B : Nat) (w : World) (hg : GN g) (hl : g.length ≤ 100) (hga : GAt w B g ag) (hB : B ≤ w.heap.size) :
    Calls Tryd.prog 46 #[.slice ag g.length cg] w fun e w' => (∃ c, CLS (othG g) c ∧ ∃ ao co, e = .returned (.tuple #[.slice ao (leastG (othG g) c).length co, .int .i64 0]) ∧ GAt w' w'.heap.size (leastG (othG g) c) ao) ∧ Below w.heap.size w w' := by
  have c1 := checkG_any g ag cg B w hg hga hB
  have CO := hideK (fun (W : World) (hb : Below w.heap.size w W) => otherEnd_any g ag cg B W hg (hga.keep (hb.mono hB)) (Nat.le_trans hB hb.size))
  have CL := hideK (fun (W : World) ao co (hgo : GAt W W.heap.size (othG g) ao) => leastG_any (othG g) ao co W.heap.size W (oth_gn hg hl) hgo (Nat.le_refl _))
  have hlz : ¬ ((g.length : Int) > 100) := by omega
  have hlz2 : (g.length : Int) ≤ 100 := by omega
  clear hga hg
  go_enter Tryd.func46, Tryd.ntmps46
  go_wp2_with fail
  refine c1.mono ?_
  rintro e w1 ⟨rfl, hb1⟩
  have cO := CO.out w1 hb1
  have HB := hideK hb1
  clear c1 CO hb1
  go_wp2_with fail
  refine cO.mono ?_
  rintro e w2 ⟨⟨ao, co, rfl, hgo⟩, hb2⟩
  have cL := CL.out w2 ao co hgo
  have HB2 := hideK (HB.out.trans (hb2.mono HB.out.size))
  clear cO CL hgo hb2
  go_wp2_with fail
  refine cL.mono ?_
  rintro e w3 ⟨⟨c, hc, a3, c3, rfl, hg3⟩, hb3⟩
  have HC := hideK hc
  have HG3 := hideK hg3
  have HB3 := hideK (HB2.out.trans (hb3.mono HB2.out.size))
  clear cL hc hg3 hb3
  go_wp2_with fail
  go_ret2
  exact ⟨⟨c, HC.out, _, _, rfl, HG3.out⟩, HB3.out⟩
/-- what Of of the other end leaves -/
def DOPost (t : Ty) (w : World) (e : Ending) (w' : World) : Prop :=
  ((chkTy t ≠ 0 ∧ e = .returned (.tuple #[.slice none 0 0, .int .i64 (chkTy t)])) ∨ (∃ g, OFG t g ∧ ∃ c, CLS (othG g) c ∧ ∃ ao co, e = .returned (.tuple #[.slice ao (leastG (othG g) c).length co, .int .i64 0]) ∧ GAt w' w'.heap.size (leastG (othG g) c) ao)) ∧ Below w.heap.size w w'
set_option maxRecDepth 100000 in
set_option maxHeartbeats 2000000 in
theorem dualOf_any (d : Nat) (t : Ty) (al : Option Addr) (cl : Nat) (ak : Option Addr) (ck : Nat) (w : World) (hbd : TyBd t cl ck) (hla : LA w w.heap.size t.labels al) (hkt : KT w w.heap.size d t.kids ak) :
    Calls Tryd.prog 23 #[tyVal t al cl ak ck] w (DOPost t w) := by
  have hA : Below w.heap.size w (w.alloc (.cells #[.int .i64 t.kind, .int .i64 t.so, .string t.name, .slice al t.labels.length cl, .slice ak t.kids.length ck] 25)) := (Below.refl _ _).alloc (Nat.le_refl _) _
  have cO := of_any d t al cl ak ck _ hbd (NAt.mono hA.size (NAt.keep hA hla)) (KT.mono hA.size (KT.keep hA hkt))
  have b0 : TyAt (w.alloc (.cells #[.int .i64 t.kind, .int .i64 t.so, .string t.name, .slice al t.labels.length cl, .slice ak t.kids.length ck] 25)) w.heap.size 0 t al cl ak ck := ⟨by go_cell, by go_cell, by go_cell, by go_cell, by go_cell⟩
  obtain ⟨x0, x1, x2, x3, x4⟩ := b0
  simp only [Nat.zero_add] at x1 x2 x3 x4
  have HA := hideK hA
  unfold DOPost
  unfold OFPost at cO
  simp only [tyVal] at cO ⊢
  clear hbd hla hkt hA
  go_enter Tryd.func23, Tryd.ntmps23
  go_wp2_with fail
  refine cO.mono ?_
  rintro e w1 ⟨hor, hb1⟩
  have HB := hideK (HA.out.trans (hb1.mono HA.out.size))
  clear cO hb1 x0 x1 x2 x3 x4
  rcases hor with ⟨hz, rfl⟩ | ⟨g, ag, cg, hof, rfl, hga⟩
  · have hzb : (chkTy t != 0) = true := by simpa using hz
    have HZ := hideK hz
    clear hz
    go_wp2_with fail
    go_ret2
    exact ⟨.inl ⟨HZ.out, rfl⟩, HB.out⟩
  · have cD := dualGraph_any g ag cg w1.heap.size w1 hof.gn (by have := hof.le; omega) hga (Nat.le_refl _)
    have HOF := hideK hof
    clear hof hga
    go_wp2_with fail
    refine cD.mono ?_
    rintro e w2 ⟨⟨c, hc, ao, co, rfl, hg2⟩, hb2⟩
    have HB2 := hideK (HB.out.trans (hb2.mono HB.out.size))
    have HC := hideK hc
    have HG2 := hideK hg2
    clear cD hb2 hc hg2
    go_wp2_with fail
    go_ret2
    exact ⟨.inr ⟨g, HOF.out, c, HC.out, _, _, rfl, HG2.out⟩, HB2.out⟩
end Go.Proofs.YtnlpnbelkkgghaaDoor
/-
  The law of duetkeep.BelowDual: whatever types are handed in it answers true.
-/
namespace Go.Proofs.YtnlpnbelkkgghaaDoor
open Go.RowKit Go.Shelf

/-- two types in boxes -/
structure BXD (w : World) (s : Ty) (sal : Option Addr) (scl : Nat) (sak : Option Addr) (sck : Nat) (t : Ty) (al : Option Addr) (cl : Nat) (ak : Option Addr) (ck : Nat) (W : World) : Prop where
  x : TyAt W w.heap.size 0 s sal scl sak sck
  y : TyAt W (w.heap.size + 1) 0 t al cl ak ck
  lt : w.heap.size + 1 < W.heap.size
  bl : Below w.heap.size w W
theorem BXD.keep {w : World} {s : Ty} {sal : Option Addr} {scl : Nat} {sak : Option Addr} {sck : Nat} {t : Ty} {al : Option Addr} {cl : Nat} {ak : Option Addr} {ck : Nat} {W W' : World} (h : BXD w s sal scl sak sck t al cl ak ck W) (hb : Below W.heap.size W W') : BXD w s sal scl sak sck t al cl ak ck W' :=
  ⟨h.x.keep hb (by have := h.lt; omega), h.y.keep hb h.lt, Nat.lt_of_lt_of_le h.lt hb.size, h.bl.trans (hb.mono h.bl.size)⟩
theorem BXD.new (w : World) (s : Ty) (sal : Option Addr) (scl : Nat) (sak : Option Addr) (sck : Nat) (t : Ty) (al : Option Addr) (cl : Nat) (ak : Option Addr) (ck : Nat) : BXD w s sal scl sak sck t al cl ak ck ((w.alloc (.cells #[.int .i64 s.kind, .int .i64 s.so, .string s.name, .slice sal s.labels.length scl, .slice sak s.kids.length sck] 25)).alloc (.cells #[.int .i64 t.kind, .int .i64 t.so, .string t.name, .slice al t.labels.length cl, .slice ak t.kids.length ck] 25)) :=
  ⟨⟨by go_cell, by go_cell, by go_cell, by go_cell, by go_cell⟩, ⟨by go_cell, by go_cell, by go_cell, by go_cell, by go_cell⟩, by simp, (((Below.refl _ _).alloc (Nat.le_refl _) _).alloc (by simp) _)⟩
theorem dofGood {t : Ty} {w : World} {g : List Nd} (hg : OFG t g) {args : Array Value} (c : Calls Tryd.prog 23 args w (DOPost t w)) : Calls Tryd.prog 23 args w fun e w' => (∃ c, CLS (othG g) c ∧ ∃ ao co, e = .returned (.tuple #[.slice ao (leastG (othG g) c).length co, .int .i64 0]) ∧ GAt w' w'.heap.size (leastG (othG g) c) ao) ∧ Below w.heap.size w w' := by
  refine c.mono ?_
  rintro e w' ⟨hq | hq, hb⟩
  · exact absurd hg.chk hq.1
  · obtain ⟨g', hg', hr⟩ := hq
    obtain rfl := hg.uniq hg'
    exact ⟨hr, hb⟩
end Go.Proofs.YtnlpnbelkkgghaaDoor

/-
  The contract of duetkeep.put, for every type that is right in all its parts.
-/
namespace Go.Proofs.YtnlpnbelkkgghaaDoor
open Go.RowKit Go.Shelf

end Go.Proofs.YtnlpnbelkkgghaaDoor

/-
  The law of duetkeep.GraphUnique: whatever types are handed in it answers true.
-/
namespace Go.Proofs.YtnlpnbelkkgghaaDoor
open Go.RowKit Go.Shelf

theorem end_len {g : List Nd} (h : OFG endT g) : g.length = 1 := by
  have h1 := h.gn.pos
  obtain ⟨c, hc, rfl⟩ := h.src
  have h2 := (least_gn (lay_gn h.chk) hc).2.2
  obtain ⟨hw, _⟩ := chkTy_good _ h.chk
  have e := lay_size endT hw [] 0
  have e2 : sizeT endT = 1 := by rw [sizeT_eq]; rfl
  omega
/-- the graph of End has one node -/
theorem ofEnd (w : World) : Calls Tryd.prog 8 #[.agg #[.int .i64 1, .int .i64 0, .string ⟨#[]⟩, .slice none 0 0, .slice none 0 0]] w fun e w' => (∃ ag cg, e = .returned (.tuple #[.slice ag 1 cg, .int .i64 0])) ∧ Below w.heap.size w w' := by
  refine (of_any 0 endT none 0 none 0 w end_bd (.inl rfl) rfl).mono ?_
  rintro e w' ⟨h | ⟨g, ag, cg, hg, rfl, _⟩, hb⟩
  · exact absurd end_chk h.1
  · exact ⟨⟨ag, cg, by rw [end_len hg]⟩, hb⟩
/-- a Rec around what lies in a literal -/
theorem kt_lit {W : World} {d : Nat} {t : Ty} {al : Option Addr} {cl : Nat} {ak : Option Addr} {ck : Nat} (hbd : TyBd t cl ck) (hla : LA W W.heap.size t.labels al) (hkt : KT W W.heap.size d t.kids ak) : KT (W.alloc (.cells #[.int .i64 t.kind, .int .i64 t.so, .string t.name, .slice al t.labels.length cl, .slice ak t.kids.length ck] 25)) (W.alloc (.cells #[.int .i64 t.kind, .int .i64 t.so, .string t.name, .slice al t.labels.length cl, .slice ak t.kids.length ck] 25)).heap.size (d + 1) [t] (some ⟨W.heap.size, 0, none⟩) := by
  have hA : Below W.heap.size W (W.alloc (.cells #[.int .i64 t.kind, .int .i64 t.so, .string t.name, .slice al t.labels.length cl, .slice ak t.kids.length ck] 25)) := (Below.refl _ _).alloc (Nat.le_refl _) _
  refine .inr ⟨W.heap.size, 0, rfl, by simp, fun i hi => ?_⟩
  have hi' : i < [t].length := hi
  obtain rfl : i = 0 := by simp at hi'; omega
  exact ⟨al, cl, ak, ck, ⟨by go_cell, by go_cell, by go_cell, by go_cell, by go_cell⟩, hbd, (hla.keep hA).mono hA.size, (hkt.keep hA).mono hA.size⟩
end Go.Proofs.YtnlpnbelkkgghaaDoor

/-
  How a Value is read as data and back, what the two tables of utf8 hold, and utf8.ValidString's and strings.Compare's contracts at this program. Conditions: none.
-/
namespace Go.Proofs.YtnlpnbelkkgghaaDoor
open Go.RowKit Go.Shelf Go.Lib Go.Joins
open Go.ChangeShapes Go.WideShapes Go.ChangeAt

theorem own : ownKnob Tryd.prog.godebug = none := by kernel_rfl
abbrev Tabs (w : World) : Prop := Lib.Utf8Tabs (Tryd.lays196_ren.g 3) (Tryd.lays196_ren.g 4) w
theorem tabs_keep (w w' : World) (h : Tabs w) (hb : Below w.heap.size w w') : Tabs w' := Utf8Tabs_below h hb
theorem vSaid : VSaid vD Tabs := fun s w hs hT => Any.utf8_ValidString Tryd.lays196 s w hs hT

section
variable {H : Type} {enc : TypeId × Value → H}
end
theorem acc_eq : (Rows.laid_unicode_utf8_acceptRanges : DataW Unit) = Lib.acceptData := by kernel_rfl


/-- a world in which what lay in W0 still lies -/
def AT (W0 w : World) : Prop := Below W0.heap.size W0 w
theorem at_tabs {W0 w : World} (h0 : Tabs W0) (h : AT W0 w) : Tabs w := tabs_keep W0 w h0 h
theorem at_v {W0 : World} (h0 : Tabs W0) : VSaid vD (AT W0) := fun s w hs hT => vSaid s w hs (at_tabs h0 hT)
theorem at_k {W0 : World} : ∀ w w', AT W0 w → Below w.heap.size w w' → AT W0 w' := fun _ _ h hb => Below.trans h (hb.mono h.size)
end Go.Proofs.YtnlpnbelkkgghaaDoor
