/-
  Steps of a region in its written order (Of), whose values are found by themselves.
-/
import Derived.Test.YtfmegfgmkeicnaaDoorOf
import Derived.Test.YtfmegfgmkeicnaaDoorKa
import Derived.Deep.WholeRow
import Derived.Laws.IdiomCopy
namespace Go.Proofs.YtfmegfgmkeicnaaDoor

theorem uA {α : Type} (l : List α) (i : Nat) (x : α) : l.toArray.setIfInBounds i x = (l.set i x).toArray := List.setIfInBounds_toArray ..
theorem uB {α : Type} (a x : α) (l : List α) : (a :: l).set 0 x = x :: l := rfl
theorem uC {α : Type} (a x : α) (l : List α) (n : Nat) : (a :: l).set (n + 1) x = a :: l.set n x := rfl
/-- what comes behind an operation that yields v and keeps S -/
def KV (v : Value) (a : Act) (d : Option Tmp) (S : World → Prop) : Act → World → Prop := fun c w => c = a.put d v ∧ S w
theorem KV.mk {v : Value} {a : Act} {d : Option Tmp} {S : World → Prop} {w : World} (h : S w) : KV v a d S (a.put d v) w := ⟨rfl, h⟩
theorem KV.mk' {v : Value} {a c : Act} {d : Option Tmp} {S : World → Prop} {w : World} (e : c = a.put d v) (h : S w) : KV v a d S c w := ⟨e, h⟩
def QF : Exit → Act → World → Prop := fun _ _ _ => False
/-- an operation, and then the others -/
def StepS (P : Program) (ops : Array Oper) (S : World → Prop) (R : Act → Prop) (o : Oper) (l : List Nat) (a : Act) : Prop := ∀ i, ops[i]? = some o → SeqS P ops S R (i :: l) a
section
variable {P : Program} {ops : Array Oper} {S : World → Prop} {R : Act → Prop} {l : List Nat} {o : Oper} {a a' : Act}
theorem qO {i : Nat} (h : StepS P ops S R o l a) (ho : ops[i]? = some o := by rw [List.getElem?_toArray]; rfl) : SeqS P ops S R (i :: l) a := h i ho
theorem qN (h : SeqS P ops S R l a') (hw : Region.wanted o (yielded ops a.tmps) = false := by rfl) (hn : a.put o.dst undef = a' := by simp only [Act.put, uA, uB, uC]; rfl) : StepS P ops S R o l a := fun _ ho => SeqS.no ho hw (hn ▸ h)
theorem qV {v : Value} (h : SeqS P ops S R l a') (hw : Region.wanted o (yielded ops a.tmps) = true := by rfl)
    (hy : ∀ w, S w → o.wp P a w (KV v a o.dst S) QF := by intro W hW; go_simp; exact KV.mk hW) (hn : a.put o.dst v = a' := by simp only [Act.put, uA, uB, uC]; rfl) : StepS P ops S R o l a := fun _ ho => SeqS.one v ho hw hy (hn ▸ h)
theorem qC {v : Value} {f : Nat} {args : Array Value} {xs : Array Operand} {ts : Array TypeId} (hc : ∀ W, S W → Calls P f args W (fun e w' => e = .returned v ∧ S w')) (h : SeqS P ops S R l a') (_hf : o.op = .call { callee := .value (.func f), args := xs, argTypes := ts } := by rfl) (hw : Region.wanted o (yielded ops a.tmps) = true := by rfl)
    (hy : ∀ W, Calls P f args W (fun e w' => e = .returned v ∧ S w') → S W → o.wp P a W (KV v a o.dst S) QF := by intro W c hW; go_simp; with_reducible refine c.mono ?_; rintro e w' ⟨rfl, hb⟩; show KV _ _ _ _ _ _; refine KV.mk' ?_ hb; first | with_reducible rfl | simp only [Act.put, uA, uB, uC]) (hn : a.put o.dst v = a' := by simp only [Act.put, uA, uB, uC]; rfl) : StepS P ops S R o l a := fun _ ho => SeqS.one v ho hw (fun W hW => hy W (hc W hW) hW) (hn ▸ h)
end
end Go.Proofs.YtfmegfgmkeicnaaDoor
/-
  Structs loaded and stored whole, as operations; a box that is written whole.
-/
namespace Go.Proofs.YtfmegfgmkeicnaaDoor
open Go.RowKit Go.Shelf

theorem exec_load {P : Program} {T : TypeId} {x : Operand} {o : Oper} {a : Act} {pv v : Value} {W : World} (ho : o.op = .load T x) (hx : a.eval x = pv) (h : (Instr.loadAt T pv).run P W = .ok v W) : (execOp a.eval o).run P W = .ok (.value v) W := by
  simp [execOp, ho, hx, h, Result.andThen]
theorem wp_load {P : Program} {S : World → Prop} {T : TypeId} {x : Operand} {o : Oper} {a : Act} {pv v : Value} {W : World} (ho : o.op = .load T x) (hx : a.eval x = pv) (h : (Instr.loadAt T pv).run P W = .ok v W) (hS : S W) : o.wp P a W (fun c w' => c = a.put o.dst v ∧ S w') (fun _ _ _ => False) := by
  unfold Oper.wp
  rw [exec_load ho hx h]
  exact ⟨rfl, hS⟩
theorem wpList_loadW {P : Program} {ops : Array Oper} {Q : Exit → Act → World → Prop} {rest : List Oper} {T : TypeId} {x : Operand} {o : Oper} {a : Act} {pv v : Value} {W : World} (hg : o.guard = none) (ho : o.op = .load T x) (hx : a.eval x = pv) (h : (Instr.loadAt T pv).run P W = .ok v W) (hn : wpList P ops Q rest (a.put o.dst v) W) : wpList P ops Q (o :: rest) a W :=
  wpList_plain hg fun K hK => by
    unfold Oper.wp
    rw [exec_load ho hx h]
    exact hK _ _ hn
theorem wpList_storeW {P : Program} {ops : Array Oper} {Q : Exit → Act → World → Prop} {rest : List Oper} {T : TypeId} {x y : Operand} {o : Oper} {a : Act} {pv v : Value} {W W' : World} (hg : o.guard = none) (ho : o.op = .store T x y) (hx : a.eval x = pv) (hy : a.eval y = v) (h : (Instr.storeAt T pv v).run P W = .ok () W') (hn : wpList P ops Q rest (a.put o.dst undef) W') : wpList P ops Q (o :: rest) a W :=
  wpList_plain hg fun K hK => by
    unfold Oper.wp
    rw [show (execOp a.eval o).run P W = .ok .skip W' from by simp [execOp, ho, hx, hy, h, Result.andThen]]
    exact hK _ _ hn
theorem wpList_allocW {P : Program} {ops : Array Oper} {Q : Exit → Act → World → Prop} {rest : List Oper} {T : TypeId} {o : Oper} {a : Act} {v : Value} {W W' : World} (hg : o.guard = none) (ho : o.op = .alloc T) (h : (Instr.alloc T true (.tuple #[])).run P W = .ok v W') (hn : wpList P ops Q rest (a.put o.dst v) W') : wpList P ops Q (o :: rest) a W :=
  wpList_plain hg fun K hK => by
    unfold Oper.wp
    rw [show (execOp a.eval o).run P W = .ok (.value v) W' from by simp [execOp, ho, h, Result.andThen]]
    exact hK _ _ hn
theorem load_list {T : TypeId} {W : World} {b o n : Nat} {cs : List Value} (hn : cs.length = n) (hc : ∀ j v, cs[j]? = some v → W.cell? ⟨b, o + j, none⟩ = some v) (hg : ∀ l : Array Value, (loadCells ⟨b, o, none⟩ n).run Tryd.prog W = .ok l W → (Instr.loadAt T (.pointer (some ⟨b, o, none⟩))).run Tryd.prog W = .ok (.agg l) W) : (Instr.loadAt T (.pointer (some ⟨b, o, none⟩))).run Tryd.prog W = .ok (.agg cs.toArray) W := by
  subst hn
  exact hg _ (run_loadCells_list W ⟨b, o, none⟩ cs (fun j v hj => by rw [Go.WideShapes.add_plain]; exact hc j v hj))
/-- a box of n cells that may be written -/
structure BXN (W : World) (b n : Nat) : Prop where
  th : ∀ j, j < n → (W.cell? ⟨b, j, none⟩).isSome = true
  f : ∀ o, W.frozen? ⟨b, o, none⟩ = false
  lt : b < W.heap.size
theorem BXN.keep {W W' : World} {b n : Nat} (h : BXN W b n) (hb : Below W.heap.size W W') : BXN W' b n :=
  ⟨fun j hj => by rw [hb.cell (p := ⟨b, j, none⟩) h.lt]; exact h.th j hj, fun o => (hb.frozen (p := ⟨b, o, none⟩) h.lt).trans (h.f o), Nat.lt_of_lt_of_le h.lt hb.size⟩
theorem setCells_size (b : Nat) : ∀ (vs : List Value) (o : Nat) (w : World), (w.setCells b o vs).heap.size = w.heap.size
  | [], _, _ => rfl
  | v :: r, o, w => by rw [World.setCells, setCells_size b r, World.size_setCell]
theorem setCells_below {B b : Nat} {w0 : World} (hb : B ≤ b) : ∀ (vs : List Value) (o : Nat) (w : World), Below B w0 w → Below B w0 (w.setCells b o vs)
  | [], _, _, h => h
  | v :: r, o, w, h => by rw [World.setCells]; exact setCells_below hb r (o + 1) _ (h.setCell (p := ⟨b, o, none⟩) hb v)
/-- a box is written whole -/
theorem BXN.put {W : World} {b n : Nat} (h : BXN W b n) (vs : List Value) (hn : vs.length = n) : ∃ W9, W.setCells b 0 vs = W9 ∧ (∀ j (hj : j < vs.length), W9.cell? ⟨b, j, none⟩ = some vs[j]) ∧ (∀ b' o, b' ≠ b → W9.cell? ⟨b', o, none⟩ = W.cell? ⟨b', o, none⟩) ∧ W9.heap.size = W.heap.size ∧ ∀ w : World, w.heap.size ≤ b → Below w.heap.size w W → Below w.heap.size w W9 :=
  ⟨_, rfl, fun j hj => by
    have := World.cell?_setCells_in b vs 0 W (fun i hi => by rw [Nat.zero_add]; exact h.th i (by omega)) j hj
    rwa [Nat.zero_add] at this, fun b' o hb => World.cell?_setCells_out b vs 0 W _ (fun e => absurd e hb), setCells_size _ _ _ _, fun w hw hB => setCells_below hw _ _ _ hB⟩
theorem store_bx {W : World} {b n : Nat} (h : BXN W b n) (t : TypeId) (vs : List Value) (hn : vs.length = n) (hi : (Tryd.prog.info? t).map (·.size) = some n) (h1 : ∀ v ∈ vs, v.oneCell' = true) : (Instr.storeAt t (.pointer (some ⟨b, 0, none⟩)) (.agg vs.toArray)).run Tryd.prog W = .ok () (W.setCells b 0 vs) := by
  have hst := run_storeCells_cells (P := Tryd.prog) b 0 vs 0 W (fun j hj => by simpa using h.th j (by omega)) (fun j _ => by simpa using h.f j) h1
  rw [Nat.add_zero] at hst
  cases hq : Tryd.prog.info? t with
  | none => rw [hq] at hi; cases hi
  | some i =>
    have hs : i.size = n := by rw [hq] at hi; simpa using hi
    simp [Instr.storeAt, storeVar, sizeOf, typeInfo, hq, Value.cells, hs, hn, Instr.sureAddr, hst, Result.andThen]
theorem results_cell {P : Program} {fn : Func} {tmps : Array Value} {k : Nat} {t : TypeId} {p : Addr} {v : Value} {W : World} (hr : fn.results = #[.cell k t]) (hp : tmps.getD k undef = .pointer (some p)) (hv : (loadVar t p).run P W = .ok v W) : (results fn tmps).run P W = .ok v W := by
  rw [Array.getD_eq_getD_getElem?] at hp
  simp [results, hr, hp, asAddr, hv]
end Go.Proofs.YtfmegfgmkeicnaaDoor
