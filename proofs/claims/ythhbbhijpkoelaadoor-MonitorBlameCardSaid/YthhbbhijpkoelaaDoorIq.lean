/-
  The contracts of a monitor's Next and State.
-/
import Derived.Test.YthhbbhijpkoelaaDoorMf
import Derived.Test.YthhbbhijpkoelaaDoorVk
import Derived.Test.YthhbbhijpkoelaaDoorId
import Derived.Test.YthhbbhijpkoelaaDoorIg
import Derived.Laws.BytesString
import Derived.Test.YthhbbhijpkoelaaDoorZf
import Derived.Test.YthhbbhijpkoelaaDoorHm
import Derived.Test.YthhbbhijpkoelaaDoorJb
import Derived.Test.YthhbbhijpkoelaaDoorVn
import Derived.Test.YthhbbhijpkoelaaDoorIh
namespace Go.Proofs.YthhbbhijpkoelaaDoor
open Go.RowKit Go.Shelf

/-- the kind that is done next; 0, if somebody is to blame -/
def nxtZ (g : List Nd) (i : Nat) (bl : Int) : Int := if bl = 0 then (nodeAt g i).kind else 0
set_option maxRecDepth 100000 in
set_option maxHeartbeats 4000000 in
theorem next_any (g : List Nd) (ag : Option Addr) (cg B mb i : Nat) (dn bl : Int) (w : World) (hM : MN mb g.length ag cg i dn bl w) (hga : GAt w B g ag) (hB : B ≤ w.heap.size) (hi : i < g.length) (hgl : g.length ≤ 1000) :
    Calls Tryd.prog 8 #[.pointer (some ⟨mb, 0, none⟩)] w fun e w' => e = .returned (.int .i64 (nxtZ g i bl)) ∧ Below w.heap.size w w' := by
  have c1 := here_any g ag cg B mb i dn bl w hM hga hB hi hgl
  have m3 := hM.c3
  unfold nxtZ
  unfold ndVal at c1
  generalize nodeAt g i = nd at *
  clear hM hga
  by_cases hb : bl = 0
  · rw [if_pos hb]
    have hz : (bl != 0) = false := by simpa using hb
    clear hb
    go_enter Tryd.func8, Tryd.ntmps8
    go_wp2_with fail
    refine c1.mono ?_
    rintro e w1 ⟨⟨al, cl, at1, ct, rfl, _, _⟩, hb1⟩
    clear c1
    have hfl : ∀ W : World, (Instr.field 60 (.agg #[.int .i64 nd.kind, .int .i64 nd.so, .slice al nd.labs.length cl, .slice at1 nd.to.length ct]) 0).run Tryd.prog W = .ok (.int .i64 nd.kind) W := fun W => by kernel_rfl
    go_wp2_with fail
    go_ret
    exact ⟨rfl, hb1⟩
  · rw [if_neg hb]
    have hz : (bl != 0) = true := by simpa using hb
    clear hb c1
    go_enter Tryd.func8, Tryd.ntmps8
    go_wp2_with fail
    go_ret
    exact ⟨rfl, Below.refl _ _⟩
set_option maxRecDepth 100000 in
set_option maxHeartbeats 4000000 in
theorem state_any (g : List Nd) (ag : Option Addr) (cg B mb i : Nat) (dn bl : Int) (w : World) (hM : MN mb g.length ag cg i dn bl w) (hga : GAt w B g ag) (hB : B ≤ w.heap.size) (hi : i < g.length) (hgl : g.length ≤ 1000) :
    Calls Tryd.prog 5 #[.pointer (some ⟨mb, 0, none⟩)] w fun e w' => e = .returned (.tuple #[.int .i64 dn, .int .i64 bl, .bool (nxtZ g i bl == 1)]) ∧ Below w.heap.size w w' := by
  have CN := hideK (next_any g ag cg B mb i dn bl w.drew (hM.keep (Below.refl _ _).drew) (hga.keep (Below.refl _ _).drew) hB hi hgl)
  have HM := hideK hM
  have hMd := hM.keep (Below.refl _ _).drew
  obtain ⟨m0, m1, m2, m3, mf, ml⟩ := hM
  obtain ⟨n0, n1, n2, n3, nf, nl⟩ := hMd
  generalize nxtZ g i bl = z at *
  clear hga mf nf
  go_enter Tryd.func5, Tryd.ntmps5
  go_upto_region 1 with fail
  go_region_held3 (fun W => W.cell? ⟨mb, 2, none⟩ = some (.int .i64 dn) ∧ W.cell? ⟨mb, 3, none⟩ = some (.int .i64 bl)) (go_keep) (first | (go_at_call 8; go_must (first | (refine CN.out.mono ?_; rintro e w1 ⟨rfl, hb1⟩; have F1 := HM.out.keep ((Below.refl _ _).drew.trans hb1); obtain ⟨k0, k1, k2, k3, _, _⟩ := id F1))))
  go_wp2_with fail
  go_ret3
  exact ⟨rfl, (Below.refl _ _).drew.trans hb1⟩
end Go.Proofs.YthhbbhijpkoelaaDoor
/-
  Plain mathematics: what graph.Back makes of a graph: a type that does what the node does.
-/
namespace Go.Proofs.YthhbbhijpkoelaaDoor

def zT : Ty := ⟨0, 0, ⟨#[]⟩, [], []⟩
end Go.Proofs.YthhbbhijpkoelaaDoor

/-
  Plain mathematics: graph.Back's type is right, and does what the graph does.
-/
namespace Go.Proofs.YthhbbhijpkoelaaDoor
open Go.RowKit Go.Shelf

end Go.Proofs.YthhbbhijpkoelaaDoor

/-
  The contract of graph.nodeName.
-/
namespace Go.Proofs.YthhbbhijpkoelaaDoor
open Go.RowKit Go.Shelf

end Go.Proofs.YthhbbhijpkoelaaDoor

/-
  The memory of graph.Back's way: the graph, what it has come through, what it has come back to, how many parts are made.
-/
namespace Go.Proofs.YthhbbhijpkoelaaDoor
open Go.RowKit Go.Shelf

theorem cell_set {W : World} {b o b' o' : Nat} (v : Value) (h : b ≠ b' ∨ o ≠ o') : (W.setCell ⟨b', o', none⟩ v).cell? ⟨b, o, none⟩ = W.cell? ⟨b, o, none⟩ :=
  World.cell?_setCell_other _ _ _ _ (by intro e; injection e with e1 e2; rcases h with q | q; exact q e1.symm; exact q e2.symm)
/-- of what lay there, nothing but the way's own three blocks has changed -/
structure But3 (wb pb mb : Nat) (w W : World) : Prop where
  os : W.os = w.os
  tape : W.tape = w.tape
  output : W.output = w.output
  size : w.heap.size ≤ W.heap.size
  block : ∀ b, b < w.heap.size → b ≠ wb → b ≠ pb → b ≠ mb → W.heap[b]? = w.heap[b]?
theorem But3.refl (wb pb mb : Nat) (w : World) : But3 wb pb mb w w := ⟨rfl, rfl, rfl, Nat.le_refl _, fun _ _ _ _ _ => rfl⟩
theorem But3.trans {wb pb mb : Nat} {w W V : World} (h : But3 wb pb mb w W) (h2 : But3 wb pb mb W V) : But3 wb pb mb w V :=
  ⟨h2.os.trans h.os, h2.tape.trans h.tape, h2.output.trans h.output, Nat.le_trans h.size h2.size, fun b hb h1 h3 h4 => (h2.block b (Nat.lt_of_lt_of_le hb h.size) h1 h3 h4).trans (h.block b hb h1 h3 h4)⟩
theorem But3.below {wb pb mb : Nat} {w W : World} (h : Below w.heap.size w W) : But3 wb pb mb w W := ⟨h.os, h.tape, h.output, h.size, fun b hb _ _ _ => h.block b hb⟩
theorem But3.set {wb pb mb : Nat} {w W : World} (h : But3 wb pb mb w W) {b o : Nat} (hb : b = wb ∨ b = pb ∨ b = mb ∨ w.heap.size ≤ b) (v : Value) : But3 wb pb mb w (W.setCell ⟨b, o, none⟩ v) :=
  ⟨h.os, h.tape, h.output, by simpa using h.size, fun c hc h1 h2 h3 => by
    rw [Below.heap_setCell _ _ _ c (fun e => by have e : c = b := e; omega)]
    exact h.block c hc h1 h2 h3⟩
end Go.Proofs.YthhbbhijpkoelaaDoor

/-
  graph.typeFrom where there are too many parts, and where it has come back to a node.
-/
namespace Go.Proofs.YthhbbhijpkoelaaDoor
open Go.RowKit Go.Shelf

end Go.Proofs.YthhbbhijpkoelaaDoor

/-
  graph.typeFrom where it has come back to a node.
-/
namespace Go.Proofs.YthhbbhijpkoelaaDoor
open Go.RowKit Go.Shelf

end Go.Proofs.YthhbbhijpkoelaaDoor

/-
  The memory of graph.typeFrom at a node that it has not come through: the type that it makes, and its Kids.
-/
namespace Go.Proofs.YthhbbhijpkoelaaDoor
open Go.RowKit Go.Shelf

theorem But3.drew {wb pb mb : Nat} {w W : World} (h : But3 wb pb mb w W) : But3 wb pb mb w W.drew := ⟨h.os, h.tape, h.output, h.size, h.block⟩
end Go.Proofs.YthhbbhijpkoelaaDoor

/-
  How many parts graph.typeFrom can make; and what lies in memory while it makes the box of a type.
-/
namespace Go.Proofs.YthhbbhijpkoelaaDoor
open Go.RowKit Go.Shelf

theorem But3.bel {wb pb mb B : Nat} {w W : World} (h : But3 wb pb mb w W) (h0 : B ≤ w.heap.size) (h1 : B ≤ wb) (h2 : B ≤ pb) (h3 : B ≤ mb) : Below B w W := ⟨h.os, h.tape, h.output, h.size, fun b hb => h.block b (by omega) (by omega) (by omega) (by omega)⟩
end Go.Proofs.YthhbbhijpkoelaaDoor

/-
  graph.typeFrom at a node that it has not come through.
-/
namespace Go.Proofs.YthhbbhijpkoelaaDoor
open Go.RowKit Go.Shelf

end Go.Proofs.YthhbbhijpkoelaaDoor

/-
  The contracts of graph.typeFrom, for every node, and of graph.Back, for every graph that graph.Check lets by.
-/
namespace Go.Proofs.YthhbbhijpkoelaaDoor
open Go.RowKit Go.Shelf

theorem al3 (w : World) (a b c : Obj) : (((w.alloc a).alloc b).alloc c).drew.heap[w.heap.size]? = some a ∧ (((w.alloc a).alloc b).alloc c).drew.heap[w.heap.size + 1]? = some b ∧ (((w.alloc a).alloc b).alloc c).drew.heap[w.heap.size + 1 + 1]? = some c ∧ Below w.heap.size w (((w.alloc a).alloc b).alloc c).drew := by
  have s1 : (w.alloc a).heap.size = w.heap.size + 1 := by simp
  have s2 : ((w.alloc a).alloc b).heap.size = w.heap.size + 1 + 1 := by simp
  have h1 := heap_alloc_new w a
  have h2 := heap_alloc_new (w.alloc a) b
  have h3 := heap_alloc_new ((w.alloc a).alloc b) c
  rw [s1] at h2
  rw [s2] at h3
  refine ⟨?_, ?_, h3, ((((Below.refl _ _).alloc (Nat.le_refl _) _).alloc (by simp) _).alloc (by simp; omega) _).drew⟩
  · exact (heap_alloc_old _ _ (by simp; omega)).trans ((heap_alloc_old _ _ (by simp)).trans h1)
  · exact (heap_alloc_old _ _ (by simp)).trans h2
end Go.Proofs.YthhbbhijpkoelaaDoor

/-
  The contract of duetkeep.back.
-/
namespace Go.Proofs.YthhbbhijpkoelaaDoor
open Go.RowKit Go.Shelf

end Go.Proofs.YthhbbhijpkoelaaDoor

/-
  The contracts of below.Is and below.Why, for every two types.
-/
namespace Go.Proofs.YthhbbhijpkoelaaDoor
open Go.RowKit Go.Shelf

theorem OFG.uniq {t : Ty} {g h : List Nd} (hg : OFG t g) (hh : OFG t h) : g = h := (hg.same hh).2 rfl
/-- one type is below another one -/
def BT (s t : Ty) : Prop := ∃ g h, OFG s g ∧ OFG t h ∧ ∀ k, bl k g h 0 0
theorem BT_iff {s t : Ty} {g h : List Nd} (hg : OFG s g) (hh : OFG t h) : BT s t ↔ ∀ k, bl k g h 0 0 := by
  constructor
  · rintro ⟨g', h', hg', hh', hb⟩
    rw [hg.uniq hg', hh.uniq hh']; exact hb
  · intro hb; exact ⟨g, h, hg, hh, hb⟩
def ISPost (s t : Ty) (w : World) (e : Ending) (w' : World) : Prop :=
  ((chkTy s ≠ 0 ∧ e = .returned (.tuple #[.bool false, .int .i64 (chkTy s)])) ∨ (chkTy s = 0 ∧ chkTy t ≠ 0 ∧ e = .returned (.tuple #[.bool false, .int .i64 (chkTy t)])) ∨
    (∃ g h, OFG s g ∧ OFG t h ∧ ∃ b : Bool, e = .returned (.tuple #[.bool b, .int .i64 0]) ∧ (b = true ↔ BT s t))) ∧ Below w.heap.size w w'
set_option maxRecDepth 100000 in
set_option maxHeartbeats 4000000 in
theorem is_any (ds dt : Nat) (s t : Ty) (sal : Option Addr) (scl : Nat) (sak : Option Addr) (sck : Nat) (al : Option Addr) (cl : Nat) (ak : Option Addr) (ck : Nat) (w : World) (hs1 : TyBd s scl sck) (hs2 : LA w w.heap.size s.labels sal) (hs3 : KT w w.heap.size ds s.kids sak) (ht1 : TyBd t cl ck) (ht2 : LA w w.heap.size t.labels al) (ht3 : KT w w.heap.size dt t.kids ak) :
    Calls Tryd.prog 6 #[tyVal s sal scl sak sck, tyVal t al cl ak ck] w (ISPost s t w) := by
  unfold ISPost
  have hA : Below w.heap.size w ((w.alloc (.cells #[.int .i64 s.kind, .int .i64 s.so, .string s.name, .slice sal s.labels.length scl, .slice sak s.kids.length sck] 25)).alloc (.cells #[.int .i64 t.kind, .int .i64 t.so, .string t.name, .slice al t.labels.length cl, .slice ak t.kids.length ck] 25)) := ((Below.refl _ _).alloc (Nat.le_refl _) _).alloc (by simp) _
  have hsz : ((w.alloc (.cells #[.int .i64 s.kind, .int .i64 s.so, .string s.name, .slice sal s.labels.length scl, .slice sak s.kids.length sck] 25)).alloc (.cells #[.int .i64 t.kind, .int .i64 t.so, .string t.name, .slice al t.labels.length cl, .slice ak t.kids.length ck] 25)).heap.size = w.heap.size + 1 + 1 := by simp
  have bs : TyAt ((w.alloc (.cells #[.int .i64 s.kind, .int .i64 s.so, .string s.name, .slice sal s.labels.length scl, .slice sak s.kids.length sck] 25)).alloc (.cells #[.int .i64 t.kind, .int .i64 t.so, .string t.name, .slice al t.labels.length cl, .slice ak t.kids.length ck] 25)) w.heap.size 0 s sal scl sak sck := ⟨by go_cell, by go_cell, by go_cell, by go_cell, by go_cell⟩
  have bt : TyAt ((w.alloc (.cells #[.int .i64 s.kind, .int .i64 s.so, .string s.name, .slice sal s.labels.length scl, .slice sak s.kids.length sck] 25)).alloc (.cells #[.int .i64 t.kind, .int .i64 t.so, .string t.name, .slice al t.labels.length cl, .slice ak t.kids.length ck] 25)) (w.heap.size + 1) 0 t al cl ak ck := ⟨by go_cell, by go_cell, by go_cell, by go_cell, by go_cell⟩
  have cG := graphsOf_any ds dt s t sal scl sak sck al cl ak ck ((w.alloc (.cells #[.int .i64 s.kind, .int .i64 s.so, .string s.name, .slice sal s.labels.length scl, .slice sak s.kids.length sck] 25)).alloc (.cells #[.int .i64 t.kind, .int .i64 t.so, .string t.name, .slice al t.labels.length cl, .slice ak t.kids.length ck] 25)) hs1 ((hs2.keep hA).mono hA.size) ((hs3.keep hA).mono hA.size) ht1 ((ht2.keep hA).mono hA.size) ((ht3.keep hA).mono hA.size)
  have HA := hideK hA
  simp only [tyVal] at cG ⊢
  unfold GOPost at cG
  obtain ⟨y0, y1, y2, y3, y4⟩ := bt
  obtain ⟨x0, x1, x2, x3, x4⟩ := bs
  simp only [Nat.zero_add] at x1 x2 x3 x4 y1 y2 y3 y4
  clear hs1 hs2 hs3 ht1 ht2 ht3 hA hsz
  go_enter Tryd.func6, Tryd.ntmps6
  go_wp2_with fail
  refine cG.mono ?_
  rintro e w1 ⟨hor, hb1⟩
  have HB1 := hideK (HA.out.trans (hb1.mono HA.out.size))
  clear x0 x1 x2 x3 x4 y0 y1 y2 y3 y4 hb1 cG
  rcases hor with ⟨hz, rfl⟩ | ⟨hz0, hz, rfl⟩ | ⟨g, h, ag, ah, cg, ch, hof, hof2, rfl, hga, hha⟩
  · have hzb : (chkTy s != 0) = true := by simpa using hz
    have HZ := hideK hz
    clear hz
    go_wp2_with fail
    go_ret2
    exact ⟨.inl ⟨HZ.out, rfl⟩, HB1.out⟩
  · have hzb : (chkTy t != 0) = true := by simpa using hz
    have HZ := hideK hz
    have HZ0 := hideK hz0
    clear hz hz0
    go_wp2_with fail
    go_ret2
    exact ⟨.inr (.inl ⟨HZ0.out, HZ.out, rfl⟩), HB1.out⟩
  · have cF := firstFailing_any g h ag ah cg ch w1.heap.size 0 0 w1 hof.gn hof2.gn hga hha (Nat.le_refl _) hof.gn.pos hof2.gn.pos
    unfold FFPost at cF
    simp only [Int.ofNat_zero] at cF
    have HOF := hideK hof
    have HOF2 := hideK hof2
    clear hof hof2 hga hha
    go_wp2_with fail
    refine cF.mono ?_
    rintro e w2 ⟨hor, hb2⟩
    have HB2 := hideK (HB1.out.trans (hb2.mono HB1.out.size))
    clear hb2 cF
    rcases hor with ⟨arr, hsr, rfl⟩ | ⟨k, arr, hsr, aw, cw, rfl, hla⟩
    · have HSR := hideK hsr
      clear hsr
      go_wp2_with fail
      go_ret2
      exact ⟨.inr (.inr ⟨g, h, HOF.out, HOF2.out, true, rfl, by simp only [true_iff]; rw [BT_iff HOF.out HOF2.out, ← srB_bl HOF.out.gn HOF2.out.gn HOF.out.gn.pos HOF2.out.gn.pos, HSR.out]⟩), HB2.out⟩
    · have HSR := hideK hsr
      clear hsr hla
      go_wp2_with fail
      go_ret2
      exact ⟨.inr (.inr ⟨g, h, HOF.out, HOF2.out, false, rfl, by rw [BT_iff HOF.out HOF2.out, ← srB_bl HOF.out.gn HOF2.out.gn HOF.out.gn.pos HOF2.out.gn.pos, HSR.out]; simp⟩), HB2.out⟩
end Go.Proofs.YthhbbhijpkoelaaDoor

/-
  The law of duetkeep.BelowOrder: whatever types are handed in it answers true.
-/
namespace Go.Proofs.YthhbbhijpkoelaaDoor
open Go.RowKit Go.Shelf

theorem cls_ex {g : List Nd} (hs : shutG g) : ∃ c, CLS g c := by
  have : ∀ n k c, patG g k c → g.length - cnt c ≤ n → ∃ c, CLS g c := by
    intro n
    induction n with
    | zero =>
      intro k c hp hn
      by_cases he : (splitG g c).1.length = cnt c
      · exact ⟨_, cls_done hs hp he⟩
      · have := cls_more hs hp he; omega
    | succ n ih =>
      intro k c hp hn
      by_cases he : (splitG g c).1.length = cnt c
      · exact ⟨_, cls_done hs hp he⟩
      · have h1 := cls_more hs hp he
        have h2 := (split_inv g c).cn
        exact ih (k + 1) (splitG g c).2 (pat_split hs hp) (by omega)
  exact this _ 0 _ (pat_zero g) (Nat.le_refl _)
theorem OFG_ex {t : Ty} (h : chkTy t = 0) : ∃ g, OFG t g := by
  have hg := lay_gn h
  obtain ⟨c, hc⟩ : ∃ c, CLS (layP t [] 0).2 c := cls_ex hg.shut
  exact ⟨_, ⟨h, c, hc, rfl⟩⟩
theorem end_chk : chkTy endT = 0 := by
  unfold chkTy
  rw [chkT_eq, if_neg (by decide)]
  have hp : partT endT = true := by unfold partT endT; simp
  rw [hp, if_neg (by decide), if_neg (by decide), if_neg (by decide)]
  rfl
theorem end_bd : TyBd endT 0 0 := ⟨by decide, fun l hl => (by cases hl), by decide, by decide, by decide, by decide⟩
theorem isBad {s t : Ty} {w : World} (hz : chkTy s ≠ 0 ∨ chkTy t ≠ 0) {args : Array Value} (c : Calls Tryd.prog 6 args w (ISPost s t w)) : Calls Tryd.prog 6 args w fun e w' => (∃ z : Int, z ≠ 0 ∧ e = .returned (.tuple #[.bool false, .int .i64 z])) ∧ Below w.heap.size w w' := by
  refine c.mono ?_
  rintro e w' ⟨h | h | h, hb⟩
  · exact ⟨⟨_, h.1, h.2⟩, hb⟩
  · exact ⟨⟨_, h.2.1, h.2.2⟩, hb⟩
  · obtain ⟨g, h', hg, hh, _⟩ := h
    rcases hz with q | q
    · exact absurd hg.chk q
    · exact absurd hh.chk q
theorem isGood {s t : Ty} {w : World} (hs : chkTy s = 0) (ht : chkTy t = 0) {args : Array Value} (c : Calls Tryd.prog 6 args w (ISPost s t w)) : Calls Tryd.prog 6 args w fun e w' => (∃ b : Bool, e = .returned (.tuple #[.bool b, .int .i64 0]) ∧ (b = true ↔ BT s t)) ∧ Below w.heap.size w w' := by
  refine c.mono ?_
  rintro e w' ⟨h | h | h, hb⟩
  · exact absurd hs h.1
  · exact absurd ht h.2.1
  · obtain ⟨_, _, _, _, b, e, hq⟩ := h
    exact ⟨⟨b, e, hq⟩, hb⟩
end Go.Proofs.YthhbbhijpkoelaaDoor
