/-
  The contracts of below.Nodes and below.Graphs, for graphs that Check lets by.
-/
import Derived.Test.YtpamhimmdoimoaaGreatDoorSz
import Derived.Test.YtpamhimmdoimoaaGreatDoorJb
import Derived.Test.YtpamhimmdoimoaaGreatDoorNf
import Derived.Test.YtpamhimmdoimoaaGreatDoorJd
namespace Go.Proofs.YtpamhimmdoimoaaGreatDoor
end Go.Proofs.YtpamhimmdoimoaaGreatDoor
namespace Go.Proofs.YtpamhimmdoimoaaGreatDoor
open Go.RowKit Go.Shelf
set_option maxRecDepth 100000 in
set_option maxHeartbeats 2000000 in
theorem dualGraph_any (g : List Nd) (ag : OAd) (cg B : Nat) (w : World) (hg : GN g) (hl : g.length ≤ 100) (hga : GAt w B g ag) (hB : B ≤ w.heap.size) :
  Calls Tryz.prog 10 #[.slice ag g.length cg] w fun e w' => (∃ c, CLS (othG g) c ∧ ∃ ao co, e = .returned (.tuple #[.slice ao (leastG (othG g) c).length co, .int .i64 0]) ∧ GAt w' w'.heap.size (leastG (othG g) c) ao) ∧ Below w.heap.size w w' := by
 have c1 := checkG_any g ag cg B w hg hga hB;have CO := hideK (fun (W : World) (hb : Below w.heap.size w W) => otherEnd_any g ag cg B W hg (hga.keep (hb.mono hB)) (Nat.le_trans hB hb.size))
 have CL := hideK (fun (W : World) ao co (hgo : GAt W W.heap.size (othG g) ao) => leastG_any (othG g) ao co W.heap.size W (oth_gn hg hl) hgo (Nat.le_refl _))
 have hlz : ¬ ((g.length : Int) > 100) := by omega
 have hlz2 : (g.length : Int) ≤ 100 := by omega
 clear hga hg;go_enter Tryz.func10, Tryz.ntmps10
 go_wp2_with fail
 refine c1.mono ?_;rintro e w1 ⟨rfl, hb1⟩;have cO := CO.out w1 hb1;have HB := hideK hb1;clear c1 CO hb1;go_wp2_with fail
 refine cO.mono ?_;rintro e w2 ⟨⟨ao, co, rfl, hgo⟩, hb2⟩;have cL := CL.out w2 ao co hgo;have HB2 := hideK (HB.out.trans (hb2.mono HB.out.size));clear cO CL hgo hb2;go_wp2_with fail
 refine cL.mono ?_;rintro e w3 ⟨⟨c, hc, a3, c3, rfl, hg3⟩, hb3⟩;have HC := hideK hc;have HG3 := hideK hg3;have HB3 := hideK (HB2.out.trans (hb3.mono HB2.out.size));clear cL hc hg3 hb3;go_wp2_with fail
 go_ret2
 exact ⟨⟨c, HC.out, _, _, rfl, HG3.out⟩, HB3.out⟩
def DOPost (t : Ty) (w : World) (e : Ending) (w' : World) : Prop :=
 ((chkTy t ≠ 0 ∧ e = .returned (.tuple #[.slice none 0 0, .int .i64 (chkTy t)])) ∨ (∃ g, OFG t g ∧ ∃ c, CLS (othG g) c ∧ ∃ ao co, e = .returned (.tuple #[.slice ao (leastG (othG g) c).length co, .int .i64 0]) ∧ GAt w' w'.heap.size (leastG (othG g) c) ao)) ∧ Below w.heap.size w w'
set_option maxRecDepth 100000 in
set_option maxHeartbeats 2000000 in
theorem dualOf_any (d : Nat) (t : Ty) (al : OAd) (cl : Nat) (ak : OAd) (ck : Nat) (w : World) (hbd : TyBd t cl ck) (hla : LA w w.heap.size t.labels al) (hkt : KT w w.heap.size d t.kids ak) :
  Calls Tryz.prog 9 #[tyVal t al cl ak ck] w (DOPost t w) := by
 have hA : Below w.heap.size w (w.alloc (.cells #[.int .i64 t.kind, .int .i64 t.so, .string t.name, .slice al t.labels.length cl, .slice ak t.kids.length ck] 25)) := (Below.refl _ _).alloc (Nat.le_refl _) _;have cO := of_any d t al cl ak ck _ hbd (NAt.mono hA.size (NAt.keep hA hla)) (KT.mono hA.size (KT.keep hA hkt));have b0 : TyAt (w.alloc (.cells #[.int .i64 t.kind, .int .i64 t.so, .string t.name, .slice al t.labels.length cl, .slice ak t.kids.length ck] 25)) w.heap.size 0 t al cl ak ck := ⟨by go_cell, by go_cell, by go_cell, by go_cell, by go_cell⟩
 obtain ⟨x0, x1, x2, x3, x4⟩ := b0;simp only [Nat.zero_add] at x1 x2 x3 x4;have HA := hideK hA;unfold DOPost;unfold OFPost at cO;simp only [tyVal] at cO ⊢;clear hbd hla hkt hA;go_enter Tryz.func9, Tryz.ntmps9
 go_wp2_with fail
 refine cO.mono ?_;rintro e w1 ⟨hor, hb1⟩;have HB := hideK (HA.out.trans (hb1.mono HA.out.size));clear cO hb1 x0 x1 x2 x3 x4;rcases hor with ⟨hz, rfl⟩ | ⟨g, ag, cg, hof, rfl, hga⟩
 ·have hzb : (chkTy t != 0) = true := by simpa using hz
  have HZ := hideK hz;clear hz;go_wp2_with fail
  go_ret2
  exact ⟨.inl ⟨HZ.out, rfl⟩, HB.out⟩
 ·have cD := dualGraph_any g ag cg w1.heap.size w1 hof.gn (by have := hof.le; omega) hga (Nat.le_refl _)
  have HOF := hideK hof;clear hof hga;go_wp2_with fail
  refine cD.mono ?_;rintro e w2 ⟨⟨c, hc, ao, co, rfl, hg2⟩, hb2⟩;have HB2 := hideK (HB.out.trans (hb2.mono HB.out.size));have HC := hideK hc;have HG2 := hideK hg2;clear cD hb2 hc hg2;go_wp2_with fail
  go_ret2
  exact ⟨.inr ⟨g, HOF.out, c, HC.out, _, _, rfl, HG2.out⟩, HB2.out⟩
end Go.Proofs.YtpamhimmdoimoaaGreatDoor
