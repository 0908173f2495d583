/-
  Steps of a region that draws its order, their conditions filled in by tactics; short names. Conditions: none.
-/
import Derived.Test.YtnedgkcejlhnbaaGreatDoorProg
import Derived.Deep.RegionHeld
namespace Go.Proofs.YtnedgkcejlhnbaaGreatDoor
abbrev OAd := Option Addr
theorem sA {α : Type} (l : List α) (i : Nat) (x : α) : l.toArray.setIfInBounds i x = (l.set i x).toArray := List.setIfInBounds_toArray ..
theorem sB {α : Type} (a x : α) (l : List α) : (a :: l).set 0 x = x :: l := rfl
theorem sC {α : Type} (a x : α) (l : List α) (n : Nat) : (a :: l).set (n + 1) x = a :: l.set n x := rfl
section
variable {P : Program} {ops : Array Oper} {Q : Exit → Act → World → Prop} {md : Region.Mode} {S : World → Prop}
theorem tkH (i : Nat) (v : Value) {oi : Oper} {f : Nat} {l : Array Bool} {a : Act} {w : World} (hS : S w) (h : wpAnyH P md ops Q S f (l.setIfInBounds i true) (a.put oi.dst v) w) (hi : ops[i]? = some oi := by rw [List.getElem?_toArray]; rfl)
    (hs : Region.noSelect ops = true := by kernel_rfl) (hf : Region.free md ops l i = true := by kernel_rfl) (hr : (Region.ready md ops l).contains i = true := by kernel_rfl)
    (hQ : ∀ c a w, Q (.panic c) (a.put oi.dst v) w → Q (.panic c) a w := by exact fun _ _ _ h => h) (hy : YieldsIf P ops S oi v a := by exact Or.inl ⟨by rfl, fun W hW => by go_simp⟩) : wpAnyH P md ops Q S (f + 1) l a w := wpAnyH_take hi hs hf hr hQ hy hS h
end
end Go.Proofs.YtnedgkcejlhnbaaGreatDoor
