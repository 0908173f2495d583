/-
  Blocks that a law keeps beside one another: an expression and a value that came in, a name with its value, a value of zeros.
-/
import Derived.Test.YtclbillfffpknaaGreatDoorPg
import Derived.Test.YtclbillfffpknaaGreatDoorXi
namespace Go.Proofs.YtclbillfffpknaaGreatDoor
open Go.RowKit Go.Shelf

theorem ZB.al {W : World} {b : Nat} (h : ZB W b) (o : Obj) : ZB (W.alloc o) b := h.keep ((Below.refl _ _).alloc (Nat.le_refl _) _)
theorem ZB.dr {W : World} {b : Nat} (h : ZB W b) : ZB W.drew b := h.keep (Below.refl _ _).drew
theorem ZB.app {W W' : World} {b : Nat} {row : Option Nat} (h : ZB W b) (hg : W.grownBy W' row) (hne : row ≠ some b) : ZB W' b := by
  have hc : ∀ o, W'.cell? ⟨b, o, none⟩ = W.cell? ⟨b, o, none⟩ := fun o => hg.cell_far ⟨b, o, none⟩ h.lt (fun e => hne e.symm)
  have hf : ∀ o, W'.frozen? ⟨b, o, none⟩ = W.frozen? ⟨b, o, none⟩ := fun o => hg.frozen_far ⟨b, o, none⟩ h.lt (fun e => hne e.symm)
  exact ⟨Nat.lt_of_lt_of_le h.lt hg.size, (hc 0).trans h.c0, (hc 1).trans h.c1, (hc 2).trans h.c2, (hf 0).trans h.f0, (hf 1).trans h.f1, (hf 2).trans h.f2⟩
/-- a name with its value, in a block of its own -/
structure BB (W : World) (q : Nat) (nm : ByteArray) (v : Vl) : Prop where
  lt : q < W.heap.size
  c0 : W.cell? ⟨q, 0, none⟩ = some (.string nm)
  c1 : W.cell? ⟨q, 1, none⟩ = some (.int .i64 v.so)
  c2 : W.cell? ⟨q, 2, none⟩ = some (.int .i64 v.n)
  c3 : W.cell? ⟨q, 3, none⟩ = some (.string v.s)
theorem BB.keep {W W' : World} {q : Nat} {nm : ByteArray} {v : Vl} (h : BB W q nm v) (hb : Below W.heap.size W W') : BB W' q nm v :=
  ⟨Nat.lt_of_lt_of_le h.lt hb.size, (hb.cell (p := ⟨q, 0, none⟩) h.lt).trans h.c0, (hb.cell (p := ⟨q, 1, none⟩) h.lt).trans h.c1, (hb.cell (p := ⟨q, 2, none⟩) h.lt).trans h.c2, (hb.cell (p := ⟨q, 3, none⟩) h.lt).trans h.c3⟩
theorem BB.al {W : World} {q : Nat} {nm : ByteArray} {v : Vl} (h : BB W q nm v) (o : Obj) : BB (W.alloc o) q nm v := h.keep ((Below.refl _ _).alloc (Nat.le_refl _) _)
theorem BB.dr {W : World} {q : Nat} {nm : ByteArray} {v : Vl} (h : BB W q nm v) : BB W.drew q nm v := h.keep (Below.refl _ _).drew
theorem BB.new (W : World) (nm : ByteArray) (v : Vl) (t : TypeId) : BB (W.alloc (.cells #[.string nm, .int .i64 v.so, .int .i64 v.n, .string v.s] t)) W.heap.size nm v :=
  ⟨by simp, by go_cell, by go_cell, by go_cell, by go_cell⟩
theorem BB.news {W : World} {q : Nat} {nm : ByteArray} {v : Vl} (h : BB W q nm v) : ∀ j u, (bCs [(nm, v)])[j]? = some u → W.cell? ((⟨q, 0, none⟩ : Addr).add j) = some u := by
  intro j u hj
  have e : (⟨q, 0, none⟩ : Addr).add j = ⟨q, j, none⟩ := by unfold Addr.add; split <;> simp_all
  rw [e]
  have hb : bCs [(nm, v)] = [.string nm, .int .i64 v.so, .int .i64 v.n, .string v.s] := rfl
  rw [hb] at hj
  match j, hj with
  | 0, hj => simp at hj; subst hj; exact h.c0
  | 1, hj => simp at hj; subst hj; exact h.c1
  | 2, hj => simp at hj; subst hj; exact h.c2
  | 3, hj => simp at hj; subst hj; exact h.c3
  | j + 4, hj => simp at hj
/-- an expression and a value that came in, in their blocks -/
structure LW (w : World) (x : Ex) (ao : Option Addr) (cap : Nat) (v : Vl) (W : World) : Prop where
  e : ExAt W w.heap.size 0 x ao cap
  v0 : W.cell? ⟨w.heap.size + 1, 0, none⟩ = some (.int .i64 v.so)
  v1 : W.cell? ⟨w.heap.size + 1, 1, none⟩ = some (.int .i64 v.n)
  v2 : W.cell? ⟨w.heap.size + 1, 2, none⟩ = some (.string v.s)
  lt : w.heap.size + 1 < W.heap.size
  bl : Below w.heap.size w W
theorem LW.keep {w W W' : World} {x : Ex} {ao : Option Addr} {cap : Nat} {v : Vl} (h : LW w x ao cap v W) (hb : Below W.heap.size W W') : LW w x ao cap v W' :=
  ⟨h.e.keep hb (by have := h.lt; omega), (hb.cell (p := ⟨_, 0, none⟩) h.lt).trans h.v0, (hb.cell (p := ⟨_, 1, none⟩) h.lt).trans h.v1, (hb.cell (p := ⟨_, 2, none⟩) h.lt).trans h.v2, Nat.lt_of_lt_of_le h.lt hb.size, h.bl.trans (hb.mono h.bl.size)⟩
theorem LW.al {w W : World} {x : Ex} {ao : Option Addr} {cap : Nat} {v : Vl} (h : LW w x ao cap v W) (o : Obj) : LW w x ao cap v (W.alloc o) := h.keep ((Below.refl _ _).alloc (Nat.le_refl _) _)
theorem LW.new (w : World) (x : Ex) (ao : Option Addr) (cap : Nat) (v : Vl) : LW w x ao cap v ((w.alloc (.cells #[.int .i64 x.kind, .string x.name, .int .i64 x.so, .int .i64 x.n, .string x.s, .slice ao x.kids.length cap] 26)).alloc (.cells #[.int .i64 v.so, .int .i64 v.n, .string v.s] 23)) :=
  ⟨⟨by go_cell, by go_cell, by go_cell, by go_cell, by go_cell, by go_cell⟩, by go_cell, by go_cell, by go_cell, by simp, by go_grown⟩
/-- a row that a call has made lies behind what was there -/
theorem own_far {W : World} {B e size : Nat} {u : Value} {n : Nat} {xs : List Value} (h : W.ownsRow B e size u n xs) {q : Nat} (hq : q < B) : u.ownBlock ≠ some q := fun hk => by have := (h.lt q hk).1; omega
theorem own_near {W : World} {B e size : Nat} {u : Value} {n : Nat} {xs : List Value} (h : W.ownsRow B e size u n xs) {q : Nat} (hq : W.heap.size ≤ q) : u.ownBlock ≠ some q := fun hk => by have := (h.lt q hk).2; omega
theorem below_chain {V W W' : World} (h : Below V.heap.size V W) (h2 : Below W.heap.size W W') : Below V.heap.size V W' := h.trans (h2.mono h.size)
theorem below_app {V W W' : World} {row : Option Nat} (h : Below V.heap.size V W) (hg : W.grownBy W' row) (hr : ∀ k, row = some k → V.heap.size ≤ k) : Below V.heap.size V W' := h.grown hg h.size hr
theorem env_step {W W' : World} {bs : List (ByteArray × Vl)} {ae : Option Addr} (h : EnvAt W W.heap.size bs ae) (hb : Below W.heap.size W W') : EnvAt W' W'.heap.size bs ae := (h.keep hb).mono hb.size
theorem env_at_own {W : World} {base g m cap : Nat} {bs : List (ByteArray × Vl)} (h : W.ownsRow base 40 4 (.slice (some ⟨g, 0, none⟩) m cap) m (bCs bs)) (hm : m = bs.length) (hl : bs.length ≤ 9223372036854775806) : EnvAt W W.heap.size bs (some ⟨g, 0, none⟩) := by
  subst hm
  obtain ⟨ae, ce, e, hE⟩ := env_of_own h hl
  injection e with e1 _ _
  exact e1 ▸ hE
end Go.Proofs.YtclbillfffpknaaGreatDoor
