/-
  The contracts of below.Is and below.Why, for every two types.
-/
import Derived.Test.YtoieacgojkgjgaaDoorVn
import Derived.Test.YtoieacgojkgjgaaDoorIh
import Derived.Test.YtoieacgojkgjgaaDoorJb
import Derived.Test.YtoieacgojkgjgaaDoorJd
namespace Go.Proofs.YtoieacgojkgjgaaDoor
open Go.RowKit Go.Shelf

theorem OFG.uniq {t : Ty} {g h : List Nd} (hg : OFG t g) (hh : OFG t h) : g = h := (hg.same hh).2 rfl
/-- one type is below another one -/
def BT (s t : Ty) : Prop := ∃ g h, OFG s g ∧ OFG t h ∧ ∀ k, bl k g h 0 0
theorem BT_iff {s t : Ty} {g h : List Nd} (hg : OFG s g) (hh : OFG t h) : BT s t ↔ ∀ k, bl k g h 0 0 := by
  constructor
  · rintro ⟨g', h', hg', hh', hb⟩
    rw [hg.uniq hg', hh.uniq hh']; exact hb
  · intro hb; exact ⟨g, h, hg, hh, hb⟩
def ISPost (s t : Ty) (w : World) (e : Ending) (w' : World) : Prop :=
  ((chkTy s ≠ 0 ∧ e = .returned (.tuple #[.bool false, .int .i64 (chkTy s)])) ∨ (chkTy s = 0 ∧ chkTy t ≠ 0 ∧ e = .returned (.tuple #[.bool false, .int .i64 (chkTy t)])) ∨
    (∃ g h, OFG s g ∧ OFG t h ∧ ∃ b : Bool, e = .returned (.tuple #[.bool b, .int .i64 0]) ∧ (b = true ↔ BT s t))) ∧ Below w.heap.size w w'
set_option maxRecDepth 100000 in
set_option maxHeartbeats 4000000 in
theorem is_any (ds dt : Nat) (s t : Ty) (sal : Option Addr) (scl : Nat) (sak : Option Addr) (sck : Nat) (al : Option Addr) (cl : Nat) (ak : Option Addr) (ck : Nat) (w : World) (hs1 : TyBd s scl sck) (hs2 : LA w w.heap.size s.labels sal) (hs3 : KT w w.heap.size ds s.kids sak) (ht1 : TyBd t cl ck) (ht2 : LA w w.heap.size t.labels al) (ht3 : KT w w.heap.size dt t.kids ak) :
    Calls Tryd.prog 18 #[tyVal s sal scl sak sck, tyVal t al cl ak ck] w (ISPost s t w) := by
  unfold ISPost
  have hA : Below w.heap.size w ((w.alloc (.cells #[.int .i64 s.kind, .int .i64 s.so, .string s.name, .slice sal s.labels.length scl, .slice sak s.kids.length sck] 25)).alloc (.cells #[.int .i64 t.kind, .int .i64 t.so, .string t.name, .slice al t.labels.length cl, .slice ak t.kids.length ck] 25)) := ((Below.refl _ _).alloc (Nat.le_refl _) _).alloc (by simp) _
  have hsz : ((w.alloc (.cells #[.int .i64 s.kind, .int .i64 s.so, .string s.name, .slice sal s.labels.length scl, .slice sak s.kids.length sck] 25)).alloc (.cells #[.int .i64 t.kind, .int .i64 t.so, .string t.name, .slice al t.labels.length cl, .slice ak t.kids.length ck] 25)).heap.size = w.heap.size + 1 + 1 := by simp
  have bs : TyAt ((w.alloc (.cells #[.int .i64 s.kind, .int .i64 s.so, .string s.name, .slice sal s.labels.length scl, .slice sak s.kids.length sck] 25)).alloc (.cells #[.int .i64 t.kind, .int .i64 t.so, .string t.name, .slice al t.labels.length cl, .slice ak t.kids.length ck] 25)) w.heap.size 0 s sal scl sak sck := ⟨by go_cell, by go_cell, by go_cell, by go_cell, by go_cell⟩
  have bt : TyAt ((w.alloc (.cells #[.int .i64 s.kind, .int .i64 s.so, .string s.name, .slice sal s.labels.length scl, .slice sak s.kids.length sck] 25)).alloc (.cells #[.int .i64 t.kind, .int .i64 t.so, .string t.name, .slice al t.labels.length cl, .slice ak t.kids.length ck] 25)) (w.heap.size + 1) 0 t al cl ak ck := ⟨by go_cell, by go_cell, by go_cell, by go_cell, by go_cell⟩
  have cG := graphsOf_any ds dt s t sal scl sak sck al cl ak ck ((w.alloc (.cells #[.int .i64 s.kind, .int .i64 s.so, .string s.name, .slice sal s.labels.length scl, .slice sak s.kids.length sck] 25)).alloc (.cells #[.int .i64 t.kind, .int .i64 t.so, .string t.name, .slice al t.labels.length cl, .slice ak t.kids.length ck] 25)) hs1 ((hs2.keep hA).mono hA.size) ((hs3.keep hA).mono hA.size) ht1 ((ht2.keep hA).mono hA.size) ((ht3.keep hA).mono hA.size)
  have HA := hideK hA
  simp only [tyVal] at cG ⊢
  unfold GOPost at cG
  obtain ⟨y0, y1, y2, y3, y4⟩ := bt
  obtain ⟨x0, x1, x2, x3, x4⟩ := bs
  simp only [Nat.zero_add] at x1 x2 x3 x4 y1 y2 y3 y4
  clear hs1 hs2 hs3 ht1 ht2 ht3 hA hsz
  go_enter Tryd.func18, Tryd.ntmps18
  go_wp2_with fail
  refine cG.mono ?_
  rintro e w1 ⟨hor, hb1⟩
  have HB1 := hideK (HA.out.trans (hb1.mono HA.out.size))
  clear x0 x1 x2 x3 x4 y0 y1 y2 y3 y4 hb1 cG
  rcases hor with ⟨hz, rfl⟩ | ⟨hz0, hz, rfl⟩ | ⟨g, h, ag, ah, cg, ch, hof, hof2, rfl, hga, hha⟩
  · have hzb : (chkTy s != 0) = true := by simpa using hz
    have HZ := hideK hz
    clear hz
    go_wp2_with fail
    go_ret2
    exact ⟨.inl ⟨HZ.out, rfl⟩, HB1.out⟩
  · have hzb : (chkTy t != 0) = true := by simpa using hz
    have HZ := hideK hz
    have HZ0 := hideK hz0
    clear hz hz0
    go_wp2_with fail
    go_ret2
    exact ⟨.inr (.inl ⟨HZ0.out, HZ.out, rfl⟩), HB1.out⟩
  · have cF := firstFailing_any g h ag ah cg ch w1.heap.size 0 0 w1 hof.gn hof2.gn hga hha (Nat.le_refl _) hof.gn.pos hof2.gn.pos
    unfold FFPost at cF
    simp only [Int.ofNat_zero] at cF
    have HOF := hideK hof
    have HOF2 := hideK hof2
    clear hof hof2 hga hha
    go_wp2_with fail
    refine cF.mono ?_
    rintro e w2 ⟨hor, hb2⟩
    have HB2 := hideK (HB1.out.trans (hb2.mono HB1.out.size))
    clear hb2 cF
    rcases hor with ⟨arr, hsr, rfl⟩ | ⟨k, arr, hsr, aw, cw, rfl, hla⟩
    · have HSR := hideK hsr
      clear hsr
      go_wp2_with fail
      go_ret2
      exact ⟨.inr (.inr ⟨g, h, HOF.out, HOF2.out, true, rfl, by simp only [true_iff]; rw [BT_iff HOF.out HOF2.out, ← srB_bl HOF.out.gn HOF2.out.gn HOF.out.gn.pos HOF2.out.gn.pos, HSR.out]⟩), HB2.out⟩
    · have HSR := hideK hsr
      clear hsr hla
      go_wp2_with fail
      go_ret2
      exact ⟨.inr (.inr ⟨g, h, HOF.out, HOF2.out, false, rfl, by rw [BT_iff HOF.out HOF2.out, ← srB_bl HOF.out.gn HOF2.out.gn HOF.out.gn.pos HOF2.out.gn.pos, HSR.out]; simp⟩), HB2.out⟩
/-- what Why leaves -/
def WYPost (s t : Ty) (w : World) (e : Ending) (w' : World) : Prop :=
  ((chkTy s ≠ 0 ∧ e = .returned (.tuple #[.slice none 0 0, .int .i64 (chkTy s)])) ∨ (chkTy s = 0 ∧ chkTy t ≠ 0 ∧ e = .returned (.tuple #[.slice none 0 0, .int .i64 (chkTy t)])) ∨
    (∃ g h, OFG s g ∧ OFG t h ∧ ((∃ arr, srB g h 0 0 = (none, arr) ∧ e = .returned (.tuple #[.slice none 0 0, .int .i64 8])) ∨ (∃ k arr, srB g h 0 0 = (some k, arr) ∧ ∃ aw cw, e = .returned (.tuple #[.slice aw (wayGA arr k).length cw, .int .i64 0]) ∧ LA w' w'.heap.size (wayGA arr k).reverse aw)))) ∧ Below w.heap.size w w'
end Go.Proofs.YtoieacgojkgjgaaDoor
/-
  The contracts of below.Nodes and below.Graphs, for graphs that Check lets by.
-/
namespace Go.Proofs.YtoieacgojkgjgaaDoor
open Go.RowKit Go.Shelf

set_option maxRecDepth 100000 in
set_option maxHeartbeats 2000000 in
theorem nodes_any (g h : List Nd) (ag ah : Option Addr) (cg ch B m n : Nat) (w : World) (hg : GN g) (hh : GN h) (hga : GAt w B g ag) (hha : GAt w B h ah) (hB : B ≤ w.heap.size) (hm : m < g.length) (hn : n < h.length) :
    Calls Tryd.prog 40 #[.slice ag g.length cg, .int .i64 (m : Int), .slice ah h.length ch, .int .i64 (n : Int)] w fun e w' => e = .returned (.tuple #[.bool (belB g h m n), .int .i64 0]) ∧ Below w.heap.size w w' := by
  have c1 := checkG_any g ag cg B w hg hga hB
  have C2 := hideK (fun (W : World) (hb : Below w.heap.size w W) => checkG_any h ah ch B W hh (hha.keep (hb.mono hB)) (Nat.le_trans hB hb.size))
  have C3 := hideK (fun (W : World) (hb : Below w.heap.size w W) => firstFailing_any g h ag ah cg ch B m n W hg hh (hga.keep (hb.mono hB)) (hha.keep (hb.mono hB)) (Nat.le_trans hB hb.size) hm hn)
  have HQ := hideK (show belB g h m n = (srB g h m n).1.isNone from rfl)
  have hmz : (m : Int) < (g.length : Int) := by omega
  have hnz : (n : Int) < (h.length : Int) := by omega
  unfold FFPost at C3
  clear hga hha hg hh
  go_enter Tryd.func40, Tryd.ntmps40
  go_wp2_with fail
  refine c1.mono ?_
  rintro e w1 ⟨rfl, hb1⟩
  have c2 := C2.out w1 hb1
  have HB := hideK hb1
  clear c1 C2 hb1
  go_wp2_with fail
  refine c2.mono ?_
  rintro e w2 ⟨rfl, hb2⟩
  have HB2 := hideK (HB.out.trans (hb2.mono HB.out.size))
  have c3 := C3.out w2 HB2.out
  clear c2 C3 hb2
  go_wp2_with fail
  refine c3.mono ?_
  rintro e w3 ⟨hor, hb3⟩
  have HB3 := hideK (HB2.out.trans (hb3.mono HB2.out.size))
  clear c3 hb3
  rcases hor with ⟨arr, hsr, rfl⟩ | ⟨k, arr, hsr, aw, cw, rfl, hla⟩
  · have HSR := hideK hsr
    clear hsr
    go_wp2_with fail
    go_ret2
    exact ⟨by rw [HQ.out, HSR.out]; rfl, HB3.out⟩
  · have HSR := hideK hsr
    clear hsr hla
    go_wp2_with fail
    go_ret2
    exact ⟨by rw [HQ.out, HSR.out]; rfl, HB3.out⟩
set_option maxRecDepth 100000 in
set_option maxHeartbeats 2000000 in
theorem graphs_any (g h : List Nd) (ag ah : Option Addr) (cg ch B : Nat) (w : World) (hg : GN g) (hh : GN h) (hga : GAt w B g ag) (hha : GAt w B h ah) (hB : B ≤ w.heap.size) :
    Calls Tryd.prog 20 #[.slice ag g.length cg, .slice ah h.length ch] w fun e w' => (∃ b : Bool, e = .returned (.tuple #[.bool b, .int .i64 0]) ∧ (b = true ↔ ∀ k, bl k g h 0 0)) ∧ Below w.heap.size w w' := by
  have c := nodes_any g h ag ah cg ch B 0 0 w hg hh hga hha hB hg.pos hh.pos
  have HQ := hideK (belB_iff hg hh hg.pos hh.pos)
  simp only [Int.ofNat_zero] at c
  generalize belB g h 0 0 = q at *
  clear hga hha hg hh
  go_enter Tryd.func20, Tryd.ntmps20
  go_wp2_with fail
  refine c.mono ?_
  rintro e w1 ⟨rfl, hb1⟩
  have HB := hideK hb1
  clear c hb1
  go_wp2_with fail
  go_ret2
  exact ⟨⟨q, rfl, HQ.out⟩, HB.out⟩
end Go.Proofs.YtoieacgojkgjgaaDoor

/-
  The contracts of dual.Graph and dual.Of.
-/
namespace Go.Proofs.YtoieacgojkgjgaaDoor
open Go.RowKit Go.Shelf

set_option maxRecDepth 100000 in
set_option maxHeartbeats 2000000 in
theorem dualGraph_any (g : List Nd) (ag : Option Addr) (cg B : Nat) (w : World) (hg : GN g) (hl : g.length ≤ 100) (hga : GAt w B g ag) (hB : B ≤ w.heap.size) :
    Calls Tryd.prog 39 #[.slice ag g.length cg] w fun e w' => (∃ c, CLS (othG g) c ∧ ∃ ao co, e = .returned (.tuple #[.slice ao (leastG (othG g) c).length co, .int .i64 0]) ∧ GAt w' w'.heap.size (leastG (othG g) c) ao) ∧ Below w.heap.size w w' := by
  have c1 := checkG_any g ag cg B w hg hga hB
  have CO := hideK (fun (W : World) (hb : Below w.heap.size w W) => otherEnd_any g ag cg B W hg (hga.keep (hb.mono hB)) (Nat.le_trans hB hb.size))
  have CL := hideK (fun (W : World) ao co (hgo : GAt W W.heap.size (othG g) ao) => leastG_any (othG g) ao co W.heap.size W (oth_gn hg hl) hgo (Nat.le_refl _))
  have hlz : ¬ ((g.length : Int) > 100) := by omega
  have hlz2 : (g.length : Int) ≤ 100 := by omega
  clear hga hg
  go_enter Tryd.func39, Tryd.ntmps39
  go_wp2_with fail
  refine c1.mono ?_
  rintro e w1 ⟨rfl, hb1⟩
  have cO := CO.out w1 hb1
  have HB := hideK hb1
  clear c1 CO hb1
  go_wp2_with fail
  refine cO.mono ?_
  rintro e w2 ⟨⟨ao, co, rfl, hgo⟩, hb2⟩
  have cL := CL.out w2 ao co hgo
  have HB2 := hideK (HB.out.trans (hb2.mono HB.out.size))
  clear cO CL hgo hb2
  go_wp2_with fail
  refine cL.mono ?_
  rintro e w3 ⟨⟨c, hc, a3, c3, rfl, hg3⟩, hb3⟩
  have HC := hideK hc
  have HG3 := hideK hg3
  have HB3 := hideK (HB2.out.trans (hb3.mono HB2.out.size))
  clear cL hc hg3 hb3
  go_wp2_with fail
  go_ret2
  exact ⟨⟨c, HC.out, _, _, rfl, HG3.out⟩, HB3.out⟩
/-- what Of of the other end leaves -/
def DOPost (t : Ty) (w : World) (e : Ending) (w' : World) : Prop :=
  ((chkTy t ≠ 0 ∧ e = .returned (.tuple #[.slice none 0 0, .int .i64 (chkTy t)])) ∨ (∃ g, OFG t g ∧ ∃ c, CLS (othG g) c ∧ ∃ ao co, e = .returned (.tuple #[.slice ao (leastG (othG g) c).length co, .int .i64 0]) ∧ GAt w' w'.heap.size (leastG (othG g) c) ao)) ∧ Below w.heap.size w w'
set_option maxRecDepth 100000 in
set_option maxHeartbeats 2000000 in
theorem dualOf_any (d : Nat) (t : Ty) (al : Option Addr) (cl : Nat) (ak : Option Addr) (ck : Nat) (w : World) (hbd : TyBd t cl ck) (hla : LA w w.heap.size t.labels al) (hkt : KT w w.heap.size d t.kids ak) :
    Calls Tryd.prog 19 #[tyVal t al cl ak ck] w (DOPost t w) := by
  have hA : Below w.heap.size w (w.alloc (.cells #[.int .i64 t.kind, .int .i64 t.so, .string t.name, .slice al t.labels.length cl, .slice ak t.kids.length ck] 25)) := (Below.refl _ _).alloc (Nat.le_refl _) _
  have cO := of_any d t al cl ak ck _ hbd (NAt.mono hA.size (NAt.keep hA hla)) (KT.mono hA.size (KT.keep hA hkt))
  have b0 : TyAt (w.alloc (.cells #[.int .i64 t.kind, .int .i64 t.so, .string t.name, .slice al t.labels.length cl, .slice ak t.kids.length ck] 25)) w.heap.size 0 t al cl ak ck := ⟨by go_cell, by go_cell, by go_cell, by go_cell, by go_cell⟩
  obtain ⟨x0, x1, x2, x3, x4⟩ := b0
  simp only [Nat.zero_add] at x1 x2 x3 x4
  have HA := hideK hA
  unfold DOPost
  unfold OFPost at cO
  simp only [tyVal] at cO ⊢
  clear hbd hla hkt hA
  go_enter Tryd.func19, Tryd.ntmps19
  go_wp2_with fail
  refine cO.mono ?_
  rintro e w1 ⟨hor, hb1⟩
  have HB := hideK (HA.out.trans (hb1.mono HA.out.size))
  clear cO hb1 x0 x1 x2 x3 x4
  rcases hor with ⟨hz, rfl⟩ | ⟨g, ag, cg, hof, rfl, hga⟩
  · have hzb : (chkTy t != 0) = true := by simpa using hz
    have HZ := hideK hz
    clear hz
    go_wp2_with fail
    go_ret2
    exact ⟨.inl ⟨HZ.out, rfl⟩, HB.out⟩
  · have cD := dualGraph_any g ag cg w1.heap.size w1 hof.gn (by have := hof.le; omega) hga (Nat.le_refl _)
    have HOF := hideK hof
    clear hof hga
    go_wp2_with fail
    refine cD.mono ?_
    rintro e w2 ⟨⟨c, hc, ao, co, rfl, hg2⟩, hb2⟩
    have HB2 := hideK (HB.out.trans (hb2.mono HB.out.size))
    have HC := hideK hc
    have HG2 := hideK hg2
    clear cD hb2 hc hg2
    go_wp2_with fail
    go_ret2
    exact ⟨.inr ⟨g, HOF.out, c, HC.out, _, _, rfl, HG2.out⟩, HB2.out⟩
end Go.Proofs.YtoieacgojkgjgaaDoor
