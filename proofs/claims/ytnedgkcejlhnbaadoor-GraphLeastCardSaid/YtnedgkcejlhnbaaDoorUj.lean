/-
  The memory of graph.Back's way: the graph, what it has come through, what it has come back to, how many parts are made.
-/
import Derived.Test.YtnedgkcejlhnbaaDoorVk
import Derived.Test.YtnedgkcejlhnbaaDoorVl
namespace Go.Proofs.YtnedgkcejlhnbaaDoor
open Go.RowKit Go.Shelf

structure WY (n : Nat) (ag : Option Addr) (cg wb pb mb : Nat) (ps : Nat → Bool) (st : SB) (W : World) : Prop where
  c0 : W.cell? ⟨wb, 0, none⟩ = some (.slice ag n cg)
  c1 : W.cell? ⟨wb, 1, none⟩ = some (.slice (some ⟨pb, 0, none⟩) n n)
  c2 : W.cell? ⟨wb, 2, none⟩ = some (.slice (some ⟨mb, 0, none⟩) n n)
  c3 : W.cell? ⟨wb, 3, none⟩ = some (.int .i64 (st.2 : Int))
  p : ∀ i, i < n → W.cell? ⟨pb, i, none⟩ = some (.bool (ps i))
  m : ∀ i, i < n → W.cell? ⟨mb, i, none⟩ = some (.bool (st.1 i))
  fw : ∀ o, W.frozen? ⟨wb, o, none⟩ = false
  fp : ∀ o, W.frozen? ⟨pb, o, none⟩ = false
  fm : ∀ o, W.frozen? ⟨mb, o, none⟩ = false
  wp : wb ≠ pb
  wm : wb ≠ mb
  pm : pb ≠ mb
  lw : wb < W.heap.size
  lp : pb < W.heap.size
  lm : mb < W.heap.size
theorem WY.keep {n : Nat} {ag : Option Addr} {cg wb pb mb : Nat} {ps : Nat → Bool} {st : SB} {W W' : World} (h : WY n ag cg wb pb mb ps st W) (hb : Below W.heap.size W W') : WY n ag cg wb pb mb ps st W' :=
  ⟨(hb.cell (p := ⟨wb, 0, none⟩) h.lw).trans h.c0, (hb.cell (p := ⟨wb, 1, none⟩) h.lw).trans h.c1, (hb.cell (p := ⟨wb, 2, none⟩) h.lw).trans h.c2, (hb.cell (p := ⟨wb, 3, none⟩) h.lw).trans h.c3, fun i hi => (hb.cell (p := ⟨pb, i, none⟩) h.lp).trans (h.p i hi), fun i hi => (hb.cell (p := ⟨mb, i, none⟩) h.lm).trans (h.m i hi), fun o => (hb.frozen (p := ⟨wb, o, none⟩) h.lw).trans (h.fw o), fun o => (hb.frozen (p := ⟨pb, o, none⟩) h.lp).trans (h.fp o), fun o => (hb.frozen (p := ⟨mb, o, none⟩) h.lm).trans (h.fm o), h.wp, h.wm, h.pm, Nat.lt_of_lt_of_le h.lw hb.size, Nat.lt_of_lt_of_le h.lp hb.size, Nat.lt_of_lt_of_le h.lm hb.size⟩
theorem cell_set {W : World} {b o b' o' : Nat} (v : Value) (h : b ≠ b' ∨ o ≠ o') : (W.setCell ⟨b', o', none⟩ v).cell? ⟨b, o, none⟩ = W.cell? ⟨b, o, none⟩ :=
  World.cell?_setCell_other _ _ _ _ (by intro e; injection e with e1 e2; rcases h with q | q; exact q e1.symm; exact q e2.symm)
/-- one part more -/
theorem WY.part {n : Nat} {ag : Option Addr} {cg wb pb mb : Nat} {ps : Nat → Bool} {st : SB} {W : World} (h : WY n ag cg wb pb mb ps st W) {z : Int} (hz : z = (st.2 + 1 : Nat)) : WY n ag cg wb pb mb ps (st.1, st.2 + 1) (W.setCell ⟨wb, 3, none⟩ (.int .i64 z)) := by
  subst hz
  exact ⟨(cell_set _ (.inr (by omega))).trans h.c0, (cell_set _ (.inr (by omega))).trans h.c1, (cell_set _ (.inr (by omega))).trans h.c2, World.cell?_setCell_same _ _ _ h.c3, fun i hi => (cell_set _ (.inl h.wp.symm)).trans (h.p i hi), fun i hi => (cell_set _ (.inl h.wm.symm)).trans (h.m i hi), fun o => (World.frozen?_setCell _ _ _ _).trans (h.fw o), fun o => (World.frozen?_setCell _ _ _ _).trans (h.fp o), fun o => (World.frozen?_setCell _ _ _ _).trans (h.fm o), h.wp, h.wm, h.pm, by simpa using h.lw, by simpa using h.lp, by simpa using h.lm⟩
/-- it has come through a node, or gone back from it -/
theorem WY.pass {n : Nat} {ag : Option Addr} {cg wb pb mb : Nat} {ps : Nat → Bool} {st : SB} {W : World} (h : WY n ag cg wb pb mb ps st W) {i : Nat} (hi : i < n) (b : Bool) : WY n ag cg wb pb mb (upB ps i b) st (W.setCell ⟨pb, i, none⟩ (.bool b)) := by
  refine ⟨(cell_set _ (.inl h.wp)).trans h.c0, (cell_set _ (.inl h.wp)).trans h.c1, (cell_set _ (.inl h.wp)).trans h.c2, (cell_set _ (.inl h.wp)).trans h.c3, fun j hj => ?_, fun i hi => (cell_set _ (.inl h.pm.symm)).trans (h.m i hi), fun o => (World.frozen?_setCell _ _ _ _).trans (h.fw o), fun o => (World.frozen?_setCell _ _ _ _).trans (h.fp o), fun o => (World.frozen?_setCell _ _ _ _).trans (h.fm o), h.wp, h.wm, h.pm, by simpa using h.lw, by simpa using h.lp, by simpa using h.lm⟩
  by_cases e : j = i
  · rw [e, upB_same]; exact World.cell?_setCell_same _ _ _ (h.p i hi)
  · rw [upB_other _ _ _ e]; exact (cell_set _ (.inr e)).trans (h.p j hj)
/-- it has come back to a node, or comes to it anew -/
theorem WY.meet {n : Nat} {ag : Option Addr} {cg wb pb mb : Nat} {ps : Nat → Bool} {st : SB} {W : World} (h : WY n ag cg wb pb mb ps st W) {i : Nat} (hi : i < n) (b : Bool) : WY n ag cg wb pb mb ps (upB st.1 i b, st.2) (W.setCell ⟨mb, i, none⟩ (.bool b)) := by
  refine ⟨(cell_set _ (.inl h.wm)).trans h.c0, (cell_set _ (.inl h.wm)).trans h.c1, (cell_set _ (.inl h.wm)).trans h.c2, (cell_set _ (.inl h.wm)).trans h.c3, fun i hi => (cell_set _ (.inl h.pm)).trans (h.p i hi), fun j hj => ?_, fun o => (World.frozen?_setCell _ _ _ _).trans (h.fw o), fun o => (World.frozen?_setCell _ _ _ _).trans (h.fp o), fun o => (World.frozen?_setCell _ _ _ _).trans (h.fm o), h.wp, h.wm, h.pm, by simpa using h.lw, by simpa using h.lp, by simpa using h.lm⟩
  by_cases e : j = i
  · rw [e]; show _ = some (Value.bool (upB st.1 i b i)); rw [upB_same]; exact World.cell?_setCell_same _ _ _ (h.m i hi)
  · show _ = some (Value.bool (upB st.1 i b j)); rw [upB_other _ _ _ e]; exact (cell_set _ (.inr e)).trans (h.m j hj)
/-- of what lay there, nothing but the way's own three blocks has changed -/
structure But3 (wb pb mb : Nat) (w W : World) : Prop where
  os : W.os = w.os
  tape : W.tape = w.tape
  output : W.output = w.output
  size : w.heap.size ≤ W.heap.size
  block : ∀ b, b < w.heap.size → b ≠ wb → b ≠ pb → b ≠ mb → W.heap[b]? = w.heap[b]?
theorem But3.refl (wb pb mb : Nat) (w : World) : But3 wb pb mb w w := ⟨rfl, rfl, rfl, Nat.le_refl _, fun _ _ _ _ _ => rfl⟩
theorem But3.trans {wb pb mb : Nat} {w W V : World} (h : But3 wb pb mb w W) (h2 : But3 wb pb mb W V) : But3 wb pb mb w V :=
  ⟨h2.os.trans h.os, h2.tape.trans h.tape, h2.output.trans h.output, Nat.le_trans h.size h2.size, fun b hb h1 h3 h4 => (h2.block b (Nat.lt_of_lt_of_le hb h.size) h1 h3 h4).trans (h.block b hb h1 h3 h4)⟩
theorem But3.below {wb pb mb : Nat} {w W : World} (h : Below w.heap.size w W) : But3 wb pb mb w W := ⟨h.os, h.tape, h.output, h.size, fun b hb _ _ _ => h.block b hb⟩
theorem But3.set {wb pb mb : Nat} {w W : World} (h : But3 wb pb mb w W) {b o : Nat} (hb : b = wb ∨ b = pb ∨ b = mb ∨ w.heap.size ≤ b) (v : Value) : But3 wb pb mb w (W.setCell ⟨b, o, none⟩ v) :=
  ⟨h.os, h.tape, h.output, by simpa using h.size, fun c hc h1 h2 h3 => by
    rw [Below.heap_setCell _ _ _ c (fun e => by have e : c = b := e; omega)]
    exact h.block c hc h1 h2 h3⟩
/-- what typeFrom answers -/
def BKPost (g : List Nd) (f : Nat) (ag : Option Addr) (cg wb pb mb : Nat) (ps : Nat → Bool) (i : Nat) (st : SB) (w : World) (e : Ending) (W : World) : Prop :=
  (∃ al cl ak ck d, e = .returned (tyVal (bkT g f ps i st).1 al cl ak ck) ∧ TyBd (bkT g f ps i st).1 cl ck ∧ LP W (fun b => w.heap.size ≤ b ∧ b < W.heap.size) (bkT g f ps i st).1.labels al ∧ KP W (fun b => w.heap.size ≤ b ∧ b < W.heap.size) d (bkT g f ps i st).1.kids ak) ∧ WY g.length ag cg wb pb mb ps (bkT g f ps i st).2 W ∧ But3 wb pb mb w W
end Go.Proofs.YtnedgkcejlhnbaaDoor
