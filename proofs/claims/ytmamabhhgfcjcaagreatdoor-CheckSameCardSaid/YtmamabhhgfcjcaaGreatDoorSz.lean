/-
  Steps of a region that draws its order, their conditions filled in by tactics; short names. Conditions: none.
-/
import Derived.Test.YtmamabhhgfcjcaaGreatDoorProg
import Derived.Deep.RegionHeld
import Derived.Below
namespace Go.Proofs.YtmamabhhgfcjcaaGreatDoor
abbrev OAd := Option Addr
theorem sA {α : Type} (l : List α) (i : Nat) (x : α) : l.toArray.setIfInBounds i x = (l.set i x).toArray := List.setIfInBounds_toArray ..
theorem sB {α : Type} (a x : α) (l : List α) : (a :: l).set 0 x = x :: l := rfl
theorem sC {α : Type} (a x : α) (l : List α) (n : Nat) : (a :: l).set (n + 1) x = a :: l.set n x := rfl
theorem nR (n : Nat) : n ≤ n := Nat.le_refl n
theorem nL {n m k : Nat} : n < m → m ≤ k → n < k := Nat.lt_of_lt_of_le
theorem bR (B : Nat) (w : World) : Go.RowKit.Below B w w := Go.RowKit.Below.refl B w
section
variable {P : Program} {ops : Array Oper} {Q : Exit → Act → World → Prop} {md : Region.Mode} {S : World → Prop}
theorem tkH (i : Nat) (v : Value) {oi : Oper} {f : Nat} {l : Array Bool} {a : Act} {w : World} (hS : S w) (h : wpAnyH P md ops Q S f (l.setIfInBounds i true) (a.put oi.dst v) w) (hi : ops[i]? = some oi := by rw [List.getElem?_toArray]; rfl)
    (hs : Region.noSelect ops = true := by kernel_rfl) (hf : Region.free md ops l i = true := by kernel_rfl) (hr : (Region.ready md ops l).contains i = true := by kernel_rfl)
    (hQ : ∀ c a w, Q (.panic c) (a.put oi.dst v) w → Q (.panic c) a w := by exact fun _ _ _ h => h) (hy : YieldsIf P ops S oi v a := by exact Or.inl ⟨by rfl, fun W hW => by go_simp⟩) : wpAnyH P md ops Q S (f + 1) l a w := wpAnyH_take hi hs hf hr hQ hy hS h
theorem aC{fuel:Nat}{listed:Array Bool}{a:Act}{w:World}{i:Nat}{o:Oper}{rs:List Nat}(h:∀K':Act→World→Prop,Shut (∀a w,S w→(S w→wpAnyH P md ops Q S fuel (listed.setIfInBounds i true) a w)→K' a w)→if Region.wanted o (yielded ops a.tmps)=true then Oper.wp P o a w K' Q else K' (a.put o.dst undef) w)(hs:AllReadyH P md ops Q S fuel listed a w rs)(ho:ops[i]? = some o:=by rw [List.getElem?_toArray];rfl):AllReadyH P md ops Q S fuel listed a w (i::rs):=AllReadyH.cons ho h hs
theorem aN{fuel:Nat}{listed:Array Bool}{a:Act}{w:World}:AllReadyH P md ops Q S fuel listed a w []:=AllReadyH.nil
theorem tkZ (i:Nat)(v:Value){oi:Oper}{f:Nat}{l:Array Bool}{a a':Act}{w:World}(hS:S w)(h:wpAnyH P md ops Q S f (l.setIfInBounds i true) a' w)(hi:ops[i]? = some oi:=by rw [List.getElem?_toArray];rfl)(hs:Region.noSelect ops=true:=by kernel_rfl)(hf:Region.free md ops l i=true:=by kernel_rfl)(hr:(Region.ready md ops l).contains i=true:=by kernel_rfl)(hQ:∀c a w,Q (.panic c) (a.put oi.dst v) w→Q (.panic c) a w:=by exact fun _ _ _ h=>h)(hy:YieldsIf P ops S oi v a:=by exact Or.inl ⟨by rfl,fun W hW=>by go_simp⟩)(hn:a.put oi.dst v=a':=by simp only [Act.put,sA,sB,sC];rfl):wpAnyH P md ops Q S (f+1) l a w:=wpAnyH_take hi hs hf hr hQ hy hS (hn ▸ h)
end
end Go.Proofs.YtmamabhhgfcjcaaGreatDoor
