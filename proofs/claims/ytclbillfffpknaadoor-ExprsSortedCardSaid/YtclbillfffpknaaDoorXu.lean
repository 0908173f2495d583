/-
  Two rows that a call owns, apart from one another, through appends and new blocks.
-/
import Derived.Test.YtclbillfffpknaaDoorXm
import Derived.Deep.AppendLies
import Derived.Deep.DrawnRows
namespace Go.Proofs.YtclbillfffpknaaDoor
open Go.RowKit Go.Shelf Go.Deep
attribute [local go_sem ↓] Go.wp_at_zero Go.wp_at_succ

def nCells (bs : List (ByteArray × Vl)) : List Value := bs.map fun p => Value.string p.1
def zCells (bs : List (ByteArray × Vl)) : List Value := bs.map fun p => Value.int .i64 p.2.so

theorem own_apart {W : World} {B B' e e' : Nat} {u u' : Value} {n n' : Nat} {xs xs' : List Value} (he : e ≠ e') (h : W.ownsRow B e 1 u n xs) (h' : W.ownsRow B' e' 1 u' n' xs') : u'.ownBlock = none ∨ u'.ownBlock ≠ u.ownBlock := by
  rcases h'.2 with ⟨rfl, _⟩ | ⟨g, cap, cur, rfl, _, hg, _⟩
  · exact .inl rfl
  · right
    rcases h.2 with ⟨rfl, _⟩ | ⟨g2, cap2, cur2, rfl, _, hg2, _⟩
    · simp [Value.ownBlock]
    · simp only [Value.ownBlock, ne_eq, Option.some.injEq]
      rintro rfl
      rw [hg] at hg2
      injection hg2 with hg2
      injection hg2 with _ hg2
      exact he hg2.symm
theorem own_lt {W : World} {B e : Nat} {u : Value} {n : Nat} {xs : List Value} (h : W.ownsRow B e 1 u n xs) {q : Nat} (hq : W.heap.size ≤ q) : u.ownBlock ≠ some q := by
  rcases h.2 with ⟨rfl, _⟩ | ⟨g, cap, cur, rfl, _, hg, _⟩
  · simp [Value.ownBlock]
  · have := (Array.getElem?_eq_some_iff.1 hg).1
    simp only [Value.ownBlock, ne_eq, Option.some.injEq]; omega
/-- both rows as they are built, and what else must stay -/
structure AB (w : World) (B : Nat) (vn : Value) (an : Nat) (xs : List Value) (vz : Value) (az : Nat) (ys : List Value) (W : World) : Prop where
  hn : W.ownsRow B 9 1 vn an xs
  hz : W.ownsRow B 3 1 vz az ys
  bl : Below B w W
  le : B ≤ W.heap.size
structure PB (p o : Nat) (x : Value) (vn vz : Value) (W : World) : Prop where
  lt : p < W.heap.size
  c : W.cell? ⟨p, o, none⟩ = some x
  nq : vn.ownBlock ≠ some p
  zq : vz.ownBlock ≠ some p
section
variable {w W w1 : World} {B p o an az g cp nn : Nat} {x vn vz : Value} {xs ys zs : List Value}
theorem AB.al (h : AB w B vn an xs vz az ys W) (ob : Obj) : AB w B vn an xs vz az ys (W.alloc ob) := ⟨h.hn.alloc _, h.hz.alloc _, h.bl.alloc h.le _, by have := h.le; simp; omega⟩
theorem AB.dr (h : AB w B vn an xs vz az ys W) : AB w B vn an xs vz az ys W.drew := ⟨h.hn.drew, h.hz.drew, h.bl.drew, h.le⟩
theorem PB.al (h : PB p o x vn vz W) (ob : Obj) : PB p o x vn vz (W.alloc ob) := ⟨by have := h.lt; simp; omega, (World.cell?_alloc_past _ _ _ h.lt).trans h.c, h.nq, h.zq⟩
theorem PB.dr (h : PB p o x vn vz W) : PB p o x vn vz W.drew := ⟨h.lt, h.c, h.nq, h.zq⟩
theorem AB.nApp (h : AB w B vn an xs vz az ys W) (hg : W.grownBy w1 vn.ownBlock) (ho : w1.ownsRow B 9 1 (.slice (some ⟨g, 0, none⟩) nn cp) nn zs) (hr : ∀ k, vn.ownBlock = some k → B ≤ k) : AB w B (.slice (some ⟨g, 0, none⟩) nn cp) nn zs vz az ys w1 :=
  ⟨ho, h.hz.kept hg (own_apart (by decide) h.hn h.hz), h.bl.grown hg h.le hr, Nat.le_trans h.le hg.size⟩
theorem AB.zApp (h : AB w B vn an xs vz az ys W) (hg : W.grownBy w1 vz.ownBlock) (ho : w1.ownsRow B 3 1 (.slice (some ⟨g, 0, none⟩) nn cp) nn zs) (hr : ∀ k, vz.ownBlock = some k → B ≤ k) : AB w B vn an xs (.slice (some ⟨g, 0, none⟩) nn cp) nn zs w1 :=
  ⟨h.hn.kept hg (own_apart (by decide) h.hz h.hn), ho, h.bl.grown hg h.le hr, Nat.le_trans h.le hg.size⟩
theorem own_ge {W : World} {B e : Nat} {u : Value} {n : Nat} {xs : List Value} (h : W.ownsRow B e 1 u n xs) : ∀ k, u.ownBlock = some k → B ≤ k := by
  intro k hk
  rcases h.2 with ⟨rfl, _⟩ | ⟨g, cap, cur, rfl, hb, _⟩
  · simp [Value.ownBlock] at hk
  · simp [Value.ownBlock] at hk; omega
theorem PB.nApp (h : PB p o x vn vz W) (hg : W.grownBy w1 vn.ownBlock) (hat : vn.ownBlock = some g ∨ g = W.heap.size) : PB p o x (.slice (some ⟨g, 0, none⟩) nn cp) vz w1 :=
  ⟨Nat.lt_of_lt_of_le h.lt hg.size, (hg.cell_far ⟨p, o, none⟩ h.lt (Ne.symm h.nq)).trans h.c, by
    simp only [Value.ownBlock, ne_eq, Option.some.injEq]
    rintro rfl
    rcases hat with e | e
    · exact h.nq e
    · have := h.lt; omega, h.zq⟩
theorem PB.zApp (h : PB p o x vn vz W) (hg : W.grownBy w1 vz.ownBlock) (hat : vz.ownBlock = some g ∨ g = W.heap.size) : PB p o x vn (.slice (some ⟨g, 0, none⟩) nn cp) w1 :=
  ⟨Nat.lt_of_lt_of_le h.lt hg.size, (hg.cell_far ⟨p, o, none⟩ h.lt (Ne.symm h.zq)).trans h.c, h.nq, by
    simp only [Value.ownBlock, ne_eq, Option.some.injEq]
    rintro rfl
    rcases hat with e | e
    · exact h.zq e
    · have := h.lt; omega⟩
/-- a new block is none of the rows' -/
theorem AB.new (h : AB w B vn an xs vz az ys W) (y : Value) (t : TypeId) : PB W.heap.size 0 y vn vz (W.alloc (.cells #[y] t)) := ⟨by simp, by go_cell, own_lt h.hn (Nat.le_refl _), own_lt h.hz (Nat.le_refl _)⟩
theorem PB.news (h : PB p 0 x vn vz W) : ∀ j u, [x][j]? = some u → W.cell? ((⟨p, 0, none⟩ : Addr).add j) = some u := by
  intro j u hj
  match j, hj with
  | 0, hj => simp at hj; subst hj; simpa [Addr.add] using h.c
end

end Go.Proofs.YtclbillfffpknaaDoor
