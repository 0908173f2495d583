/-
  Two rows of names with values that a call owns, apart from one another, through appends and new blocks; append of an environment that came in; an expression in its block.
-/
import Derived.Test.YtclbillfffpknaaGreatDoorPq
namespace Go.Proofs.YtclbillfffpknaaGreatDoor
open Go.RowKit Go.Shelf

structure AB2 (V : World) (vm : Value) (nm : Nat) (xs : List Value) (vf : Value) (nf : Nat) (ys : List Value) (W : World) : Prop where
  hm : W.ownsRow V.heap.size 40 4 vm nm xs
  hf : W.ownsRow V.heap.size 40 4 vf nf ys
  ap : ∀ k, vm.ownBlock = some k → vf.ownBlock ≠ some k
  bl : Below V.heap.size V W
structure PB2 (p : Nat) (nm : ByteArray) (v : Vl) (vm vf : Value) (W : World) : Prop where
  b : BB W p nm v
  pm : vm.ownBlock ≠ some p
  pf : vf.ownBlock ≠ some p
section
variable {V W w1 : World} {vm vf : Value} {am af : Nat} {xs ys zs : List Value} {g nn cp p : Nat} {nm : ByteArray} {v : Vl}
theorem AB2.al (h : AB2 V vm am xs vf af ys W) (o : Obj) : AB2 V vm am xs vf af ys (W.alloc o) := ⟨h.hm.alloc _, h.hf.alloc _, h.ap, h.bl.alloc h.bl.size _⟩
theorem AB2.dr (h : AB2 V vm am xs vf af ys W) : AB2 V vm am xs vf af ys W.drew := ⟨h.hm.drew, h.hf.drew, h.ap, h.bl.drew⟩
theorem AB2.keep (h : AB2 V vm am xs vf af ys W) (hb : Below W.heap.size W w1) : AB2 V vm am xs vf af ys w1 := ⟨own_keep h.hm hb, own_keep h.hf hb, h.ap, below_chain h.bl hb⟩
theorem AB2.mApp (h : AB2 V vm am xs vf af ys W) (hg : W.grownBy w1 vm.ownBlock) (ho : w1.ownsRow V.heap.size 40 4 (.slice (some ⟨g, 0, none⟩) nn cp) nn zs) (hat : vm.ownBlock = some g ∨ g = W.heap.size) : AB2 V (.slice (some ⟨g, 0, none⟩) nn cp) nn zs vf af ys w1 := by
  refine ⟨ho, h.hf.kept hg ?_, fun k hk => ?_, below_app h.bl hg (own_from h.hm)⟩
  · cases e : vm.ownBlock with
    | none => cases vf.ownBlock <;> simp
    | some k => exact .inr (h.ap k e)
  · have hkg : g = k := by simpa [Value.ownBlock] using hk
    subst hkg
    rcases hat with hat | hat
    · exact h.ap g hat
    · rw [hat]; exact own_near h.hf (Nat.le_refl _)
theorem AB2.fApp (h : AB2 V vm am xs vf af ys W) (hg : W.grownBy w1 vf.ownBlock) (ho : w1.ownsRow V.heap.size 40 4 (.slice (some ⟨g, 0, none⟩) nn cp) nn zs) (hat : vf.ownBlock = some g ∨ g = W.heap.size) : AB2 V vm am xs (.slice (some ⟨g, 0, none⟩) nn cp) nn zs w1 := by
  refine ⟨h.hm.kept hg ?_, ho, fun k hk => ?_, below_app h.bl hg (own_from h.hf)⟩
  · cases e : vm.ownBlock with
    | none => exact .inl rfl
    | some k => exact .inr (fun e2 => h.ap k e e2.symm)
  · intro e
    have hkg : g = k := by simpa [Value.ownBlock] using e
    subst hkg
    rcases hat with hat | hat
    · exact h.ap g hk hat
    · rw [hat] at hk; exact own_near h.hm (Nat.le_refl _) hk
theorem PB2.al (h : PB2 p nm v vm vf W) (o : Obj) : PB2 p nm v vm vf (W.alloc o) := ⟨h.b.al o, h.pm, h.pf⟩
theorem PB2.dr (h : PB2 p nm v vm vf W) : PB2 p nm v vm vf W.drew := ⟨h.b.dr, h.pm, h.pf⟩
theorem BB.far (h : BB W p nm v) {row : Option Nat} (hg : W.grownBy w1 row) (hne : row ≠ some p) : BB w1 p nm v := by
  have hc : ∀ o, w1.cell? ⟨p, o, none⟩ = W.cell? ⟨p, o, none⟩ := fun o => hg.cell_far ⟨p, o, none⟩ h.lt (fun e => hne e.symm)
  exact ⟨Nat.lt_of_lt_of_le h.lt hg.size, (hc 0).trans h.c0, (hc 1).trans h.c1, (hc 2).trans h.c2, (hc 3).trans h.c3⟩
theorem PB2.mApp (h : PB2 p nm v vm vf W) (hg : W.grownBy w1 vm.ownBlock) (hat : vm.ownBlock = some g ∨ g = W.heap.size) : PB2 p nm v (.slice (some ⟨g, 0, none⟩) nn cp) vf w1 := by
  refine ⟨h.b.far hg h.pm, fun e => ?_, h.pf⟩
  have hkg : g = p := by simpa [Value.ownBlock] using e
  subst hkg
  rcases hat with hat | hat
  · exact h.pm hat
  · have := h.b.lt; omega
theorem PB2.fApp (h : PB2 p nm v vm vf W) (hg : W.grownBy w1 vf.ownBlock) (hat : vf.ownBlock = some g ∨ g = W.heap.size) : PB2 p nm v vm (.slice (some ⟨g, 0, none⟩) nn cp) w1 := by
  refine ⟨h.b.far hg h.pf, h.pm, fun e => ?_⟩
  have hkg : g = p := by simpa [Value.ownBlock] using e
  subst hkg
  rcases hat with hat | hat
  · exact h.pf hat
  · have := h.b.lt; omega
theorem AB2.new (h : AB2 V vm am xs vf af ys W) (nm : ByteArray) (v : Vl) : PB2 W.heap.size nm v vm vf (W.alloc (.cells #[.string nm, .int .i64 v.so, .int .i64 v.n, .string v.s] 40)) := ⟨BB.new W nm v _, own_near h.hm (Nat.le_refl _), own_near h.hf (Nat.le_refl _)⟩
end
/-- append of an environment that came in -/
theorem run_append_env (w : World) (base B : Nat) (i : TypeInfo) (hi : Tryz.prog.info? 40 = some i) (hz : i.zero = some (.agg #[.string ⟨#[]⟩, .int .i64 0, .int .i64 0, .string ⟨#[]⟩])) (hz1 : i.size = 4) (hz2 : i.bytes = 48) (ty : TypeId)
    (v : Value) (n : Nat) (xs : List Value) (hown : w.ownsRow base 40 4 v n xs) (bs : List (ByteArray × Vl)) (ae : Option Addr) (ce : Nat) (henv : EnvAt w B bs ae) (hnil : ae = none → ce = 0)
    (h63 : n + bs.length ≤ maxLen) (hbytes : (n + bs.length) * 48 ≤ 140737488355328) (hbase : base ≤ w.heap.size) :
    ∃ v' w', (Builtin.append_ #[27, 27] ty #[v, .slice ae bs.length ce]).run Tryz.prog w = .ok v' w' ∧ w'.ownsRow base 40 4 v' (n + bs.length) (xs ++ bCs bs) ∧ w.grownBy w' v.ownBlock := by
  cases ae with
  | none =>
    have h0 : bs = [] := by
      rcases henv.c with h | ⟨b, o, h, _⟩
      · exact h
      · cases h
    subst h0
    rw [hnil rfl]
    have hrun := run_append_owned_none (P := Tryz.prog) (w := w) base 27 ty 40 i 4 Tryz.underlying27 hi v n xs hown
    exact ⟨v, w, hrun, by simpa [bCs] using hown, World.grownBy.refl _ _⟩
  | some a =>
    obtain ⟨v', w', hr, h2, h3, _, _⟩ := run_append_own_at (P := Tryz.prog) w base 27 ty 40 i _ 4 48 Tryz.underlying27 hi hz hz1 hz2 rfl (by decide) v n xs hown a bs.length ce (bCs bs) (bCs_len bs)
      (fun j u hj => (env_news henv j u hj).1) (bCs_one bs) h63 hbytes hbase
    exact ⟨v', w', hr, h2, h3⟩
theorem wpList_append_env (w : World) {ops : Array Oper} {rest : List Oper} {o : Oper} {a : Act} {Q : Exit → Act → World → Prop} (hgd : o.guard = none) (s x : Operand)
    (ho : o.op = .call { callee := .builtin .append, args := #[s, x], argTypes := #[27, 27] })
    (base B : Nat) (i : TypeInfo) (hi : Tryz.prog.info? 40 = some i) (hz : i.zero = some (.agg #[.string ⟨#[]⟩, .int .i64 0, .int .i64 0, .string ⟨#[]⟩])) (hz1 : i.size = 4) (hz2 : i.bytes = 48)
    (v : Value) (n : Nat) (xs : List Value) (hs : a.eval s = v) (hown : w.ownsRow base 40 4 v n xs) (bs : List (ByteArray × Vl)) (ae : Option Addr) (ce : Nat) (hx : a.eval x = .slice ae bs.length ce) (henv : EnvAt w B bs ae) (hnil : ae = none → ce = 0)
    (h63 : n + bs.length ≤ maxLen) (hbytes : (n + bs.length) * 48 ≤ 140737488355328) (hbase : base ≤ w.heap.size)
    (h : ∀ v' w', w'.ownsRow base 40 4 v' (n + bs.length) (xs ++ bCs bs) → w.grownBy w' v.ownBlock → wpList Tryz.prog ops Q rest (a.put o.dst v') w') : wpList Tryz.prog ops Q (o :: rest) a w := by
  refine wpList_plain hgd fun K hK => ?_
  obtain ⟨v', w', hr, h2, h3⟩ := run_append_env w base B i hi hz hz1 hz2 o.type v n xs hown bs ae ce henv hnil h63 hbytes hbase
  unfold Oper.wp execOp
  simp only [ho, resolve, invoke, builtin, Sem.run_bind, Sem.run_pure, Result.andThen_ok, List.map_toArray, List.map_cons, List.map_nil, hs, hx, hr]
  exact hK _ _ (h v' w' h2 h3)
theorem env_drop {W : World} {B : Nat} {bs : List (ByteArray × Vl)} {b o : Nat} (h : EnvAt W B bs (some ⟨b, o, none⟩)) (j : Nat) : EnvAt W B (bs.drop j) (some ⟨b, o + j * 4, none⟩) := by
  refine ⟨by have := h.bd; rw [List.length_drop]; omega, ?_⟩
  rcases h.c with rfl | ⟨b', o', e, hb, hc⟩
  · exact .inl (by simp)
  · injection e with e
    injection e with e1 e2
    subst e1 e2
    refine .inr ⟨b, o + j * 4, rfl, hb, fun i hi => ?_⟩
    rw [List.length_drop] at hi
    have := hc (j + i) (by omega)
    rw [List.getElem_drop, show o + j * 4 + i * 4 = o + (j + i) * 4 by omega]
    exact this
theorem env_none {W : World} {B : Nat} {bs : List (ByteArray × Vl)} (h : bs = []) (a : Option Addr) : EnvAt W B bs a := ⟨by rw [h]; simp, .inl h⟩
/-- the step, at a world that is named -/
theorem at_world {P : Program} {ops : Array Oper} {o : Oper} {a : Act} {K : Act → World → Prop} {Q : Exit → Act → World → Prop} {E : Prop} (W : World) (h : if Region.wanted o (yielded ops a.tmps) = true then Oper.wp P o a W K Q else E) :
    if Region.wanted o (yielded ops a.tmps) = true then Oper.wp P o a W K Q else E := h
/-- an expression that came in, in its block -/
structure EW (w : World) (x : Ex) (ao : Option Addr) (cap : Nat) (W : World) : Prop where
  e : ExAt W w.heap.size 0 x ao cap
  lt : w.heap.size < W.heap.size
  bl : Below w.heap.size w W
theorem EW.keep {w W W' : World} {x : Ex} {ao : Option Addr} {cap : Nat} (h : EW w x ao cap W) (hb : Below W.heap.size W W') : EW w x ao cap W' :=
  ⟨h.e.keep hb h.lt, Nat.lt_of_lt_of_le h.lt hb.size, h.bl.trans (hb.mono h.bl.size)⟩
theorem EW.al {w W : World} {x : Ex} {ao : Option Addr} {cap : Nat} (h : EW w x ao cap W) (o : Obj) : EW w x ao cap (W.alloc o) := h.keep ((Below.refl _ _).alloc (Nat.le_refl _) _)
theorem EW.new (w : World) (x : Ex) (ao : Option Addr) (cap : Nat) : EW w x ao cap (w.alloc (.cells #[.int .i64 x.kind, .string x.name, .int .i64 x.so, .int .i64 x.n, .string x.s, .slice ao x.kids.length cap] 26)) :=
  ⟨⟨by go_cell, by go_cell, by go_cell, by go_cell, by go_cell, by go_cell⟩, by simp, by go_grown⟩
end Go.Proofs.YtclbillfffpknaaGreatDoor
