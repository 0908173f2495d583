/-
  Steps of a region in its written order (Of), whose values are found by themselves.
-/
import Derived.Test.YtefdekfgmbgbbaaDoorOf
import Derived.Deep.RegionHeld
namespace Go.Proofs.YtefdekfgmbgbbaaDoor

theorem uA {α : Type} (l : List α) (i : Nat) (x : α) : l.toArray.setIfInBounds i x = (l.set i x).toArray := List.setIfInBounds_toArray ..
theorem uB {α : Type} (a x : α) (l : List α) : (a :: l).set 0 x = x :: l := rfl
theorem uC {α : Type} (a x : α) (l : List α) (n : Nat) : (a :: l).set (n + 1) x = a :: l.set n x := rfl
/-- what comes behind an operation that yields v and keeps S -/
def KV (v : Value) (a : Act) (d : Option Tmp) (S : World → Prop) : Act → World → Prop := fun c w => c = a.put d v ∧ S w
theorem KV.mk {v : Value} {a : Act} {d : Option Tmp} {S : World → Prop} {w : World} (h : S w) : KV v a d S (a.put d v) w := ⟨rfl, h⟩
theorem KV.mk' {v : Value} {a c : Act} {d : Option Tmp} {S : World → Prop} {w : World} (e : c = a.put d v) (h : S w) : KV v a d S c w := ⟨e, h⟩
def QF : Exit → Act → World → Prop := fun _ _ _ => False
/-- an operation, and then the others -/
def StepS (P : Program) (ops : Array Oper) (S : World → Prop) (R : Act → Prop) (o : Oper) (l : List Nat) (a : Act) : Prop := ∀ i, ops[i]? = some o → SeqS P ops S R (i :: l) a
section
variable {P : Program} {ops : Array Oper} {S : World → Prop} {R : Act → Prop} {l : List Nat} {o : Oper} {a a' : Act}
theorem qO {i : Nat} (h : StepS P ops S R o l a) (ho : ops[i]? = some o := by rw [List.getElem?_toArray]; rfl) : SeqS P ops S R (i :: l) a := h i ho
theorem qN (h : SeqS P ops S R l a') (hw : Region.wanted o (yielded ops a.tmps) = false := by rfl) (hn : a.put o.dst undef = a' := by simp only [Act.put, uA, uB, uC]; rfl) : StepS P ops S R o l a := fun _ ho => SeqS.no ho hw (hn ▸ h)
theorem qV {v : Value} (h : SeqS P ops S R l a') (hw : Region.wanted o (yielded ops a.tmps) = true := by rfl)
    (hy : ∀ w, S w → o.wp P a w (KV v a o.dst S) QF := by intro W hW; go_simp; exact KV.mk hW) (hn : a.put o.dst v = a' := by simp only [Act.put, uA, uB, uC]; rfl) : StepS P ops S R o l a := fun _ ho => SeqS.one v ho hw hy (hn ▸ h)
theorem qC {v : Value} {f : Nat} {args : Array Value} {xs : Array Operand} {ts : Array TypeId} (hc : ∀ W, S W → Calls P f args W (fun e w' => e = .returned v ∧ S w')) (h : SeqS P ops S R l a') (_hf : o.op = .call { callee := .value (.func f), args := xs, argTypes := ts } := by rfl) (hw : Region.wanted o (yielded ops a.tmps) = true := by rfl)
    (hy : ∀ W, Calls P f args W (fun e w' => e = .returned v ∧ S w') → S W → o.wp P a W (KV v a o.dst S) QF := by intro W c hW; go_simp; with_reducible refine c.mono ?_; rintro e w' ⟨rfl, hb⟩; show KV _ _ _ _ _ _; refine KV.mk' ?_ hb; first | with_reducible rfl | simp only [Act.put, uA, uB, uC]) (hn : a.put o.dst v = a' := by simp only [Act.put, uA, uB, uC]; rfl) : StepS P ops S R o l a := fun _ ho => SeqS.one v ho hw (fun W hW => hy W (hc W hW) hW) (hn ▸ h)
end
end Go.Proofs.YtefdekfgmbgbbaaDoor
/-
  A region that draws its order: what may come up, one operation after another, each told by its number: so that one text serves every order.
-/
namespace Go.Proofs.YtefdekfgmbgbbaaDoor

section
variable {P : Program} {md : Region.Mode} {ops : Array Oper} {Q : Exit → Act → World → Prop} {S : World → Prop} {fuel : Nat} {listed : Array Bool} {a : Act} {w : World}
/-- what is to be shown of operation i -/
structure OpG (i : Nat) (p : Prop) : Prop where
  out : p
theorem opg (i : Nat) {p : Prop} (h : p) : OpG i p := ⟨h⟩
/-- each of these that may come up -/
structure AllC (P : Program) (md : Region.Mode) (ops : Array Oper) (Q : Exit → Act → World → Prop) (S : World → Prop) (fuel : Nat) (listed : Array Bool) (a : Act) (w : World) (cs : List Nat) : Prop where
  out : ∀ i ∈ cs, (Region.ready md ops listed).contains i = true → AllReadyH P md ops Q S fuel listed a w [i]
theorem cE : AllC P md ops Q S fuel listed a w [] := ⟨fun _ h => by cases h⟩
theorem cN {i : Nat} {cs : List Nat} (h : AllC P md ops Q S fuel listed a w cs) (hn : (Region.ready md ops listed).contains i = false := by decide +kernel) : AllC P md ops Q S fuel listed a w (i :: cs) := ⟨fun j hj hc => by
  rcases List.mem_cons.1 hj with rfl | hj
  · rw [hn] at hc; cases hc
  · exact h.out j hj hc⟩
theorem cY {i : Nat} {cs : List Nat} {o : Oper} (h : OpG i (∀ K' : Act → World → Prop, Shut (∀ a w, S w → (S w → wpAnyH P md ops Q S fuel (listed.setIfInBounds i true) a w) → K' a w) → if Region.wanted o (yielded ops a.tmps) = true then Oper.wp P o a w K' Q else K' (a.put o.dst undef) w))
    (hs : AllC P md ops Q S fuel listed a w cs) (ho : ops[i]? = some o := by rw [List.getElem?_toArray]; rfl) : AllC P md ops Q S fuel listed a w (i :: cs) := ⟨fun j hj hc => by
  rcases List.mem_cons.1 hj with rfl | hj
  · exact AllReadyH.cons ho h.out AllReadyH.nil
  · exact hs.out j hj hc⟩
theorem ready_any (cs : List Nat) (h : AllC P md ops Q S fuel listed a w cs) (hr : ((Region.ready md ops listed).all fun i => cs.contains i) = true := by kernel_rfl) (hne : (Region.ready md ops listed).isEmpty = false := by decide +kernel) : wpAnyH P md ops Q S (fuel + 1) listed a w :=
  wpAnyH_ready rfl (fun q => by rw [q] at hne; cases hne) (fun j hj => by
    have hc : cs.contains j = true := List.all_eq_true.1 hr j hj
    exact h.out j (by simpa using hc) (by simpa using hj) j (.head _))
theorem tkR (i : Nat) (v : Value) {oi : Oper} {a' : Act} (hS : S w) (h : wpAnyH P md ops Q S fuel (listed.setIfInBounds i true) a' w) (hr : (Region.ready md ops listed).contains i = true := by decide +kernel) (hi : ops[i]? = some oi := by rw [List.getElem?_toArray]; rfl) (hs : Region.noSelect ops = true := by kernel_rfl) (hf : Region.free md ops listed i = true := by kernel_rfl)
    (hQ : ∀ c a w, Q (.panic c) (a.put oi.dst v) w → Q (.panic c) a w := by exact fun _ _ _ h => h) (hy : YieldsIf P ops S oi v a := by exact Or.inl ⟨by rfl, fun W hW => by go_simp⟩) (hn : a.put oi.dst v = a' := by simp only [Act.put, uA, uB, uC]; rfl) : wpAnyH P md ops Q S (fuel + 1) listed a w := wpAnyH_take hi hs hf hr hQ hy hS (hn ▸ h)
end
end Go.Proofs.YtefdekfgmbgbbaaDoor
