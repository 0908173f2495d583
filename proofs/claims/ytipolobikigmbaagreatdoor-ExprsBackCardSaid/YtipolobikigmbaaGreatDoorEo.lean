/-
  The contracts of exprs.sortOfName, sortOfOperator and sortOf, for every right expression and every names and sorts.
-/
import Derived.Test.YtipolobikigmbaaGreatDoorXg
import Derived.Test.YtipolobikigmbaaGreatDoorOm
import Derived.Deep.Slices
import Derived.OpenShut
namespace Go.Proofs.YtipolobikigmbaaGreatDoor
open Go.RowKit

/-- the last of such a name -/
def lastOf {α : Type} (nm : ByteArray) : List (ByteArray × α) → Option α
  | [] => none
  | p :: r => match lastOf nm r with
    | some v => some v
    | none => if p.1 = nm then some p.2 else none
theorem lastOf_none {α : Type} (nm : ByteArray) : ∀ (l : List (ByteArray × α)), (∀ i (h : i < l.length), l[i].1 ≠ nm) → lastOf nm l = none
  | [], _ => rfl
  | p :: r, h => by
    unfold lastOf
    rw [lastOf_none nm r (fun i hi => h (i + 1) (by simpa using hi))]
    simp only
    rw [if_neg (show p.1 ≠ nm from h 0 (by simp))]
theorem lastOf_at {α : Type} (nm : ByteArray) : ∀ (l : List (ByteArray × α)) (k : Nat) (hk : k < l.length), l[k].1 = nm → (∀ i (h : i < l.length), k < i → l[i].1 ≠ nm) → lastOf nm l = some l[k].2
  | p :: r, 0, _, h, ha => by
    unfold lastOf
    rw [lastOf_none nm r (fun i hi => ha (i + 1) (by simpa using hi) (by omega))]
    simp only
    rw [if_pos (show p.1 = nm from h)]; rfl
  | p :: r, k + 1, hk, h, ha => by
    unfold lastOf
    rw [lastOf_at nm r k (by simpa using hk) h (fun i hi hl => ha (i + 1) (by simpa using hi) (by omega))]
    rfl
/-- names and sorts as sortOfName looks them up -/
def lookS (ns : List ByteArray) (zs : List Int) (nm : ByteArray) : Int × Int := match lastOf nm (ns.zip zs) with
  | some z => (z, 0)
  | none => (0, 4)
theorem lookS_none (ns : List ByteArray) (zs : List Int) (nm : ByteArray) (h : ∀ i (hi : i < ns.length), ns[i] ≠ nm) : lookS ns zs nm = (0, 4) := by
  unfold lookS; rw [lastOf_none nm _ (fun i hi => by simp at hi ⊢; exact h i (by omega))]
theorem lookS_at (ns : List ByteArray) (zs : List Int) (nm : ByteArray) (k : Nat) (hk : k < ns.length) (hz : k < zs.length) (h : ns[k] = nm) (ha : ∀ i (hi : i < ns.length), k < i → ns[i] ≠ nm) : lookS ns zs nm = (zs[k], 0) := by
  unfold lookS; rw [lastOf_at nm _ k (by simp; omega) (by simpa using h) (fun i hi hl => by simp at hi ⊢; exact ha i (by omega) hl)]; simp

structure NSAt (W : World) (B : Nat) (ns : List ByteArray) (zs : List Int) (an am : Option Addr) : Prop where
  len : zs.length = ns.length
  bd : ns.length ≤ 9223372036854775806
  cn : ns = [] ∨ ∃ b o, an = some ⟨b, o, none⟩ ∧ b < B ∧ ∀ i (h : i < ns.length), W.cell? ⟨b, o + i, none⟩ = some (.string ns[i])
  cz : zs = [] ∨ ∃ b o, am = some ⟨b, o, none⟩ ∧ b < B ∧ ∀ i (h : i < zs.length), W.cell? ⟨b, o + i, none⟩ = some (.int .i64 zs[i])
theorem NSAt.keep {W W' : World} {B : Nat} {ns : List ByteArray} {zs : List Int} {an am : Option Addr} (h : NSAt W B ns zs an am) (hb : Below B W W') : NSAt W' B ns zs an am :=
  ⟨h.len, h.bd, h.cn.imp id (fun ⟨b, o, e, hl, hc⟩ => ⟨b, o, e, hl, fun i hi => (hb.cell (p := ⟨b, o + i, none⟩) hl).trans (hc i hi)⟩), h.cz.imp id (fun ⟨b, o, e, hl, hc⟩ => ⟨b, o, e, hl, fun i hi => (hb.cell (p := ⟨b, o + i, none⟩) hl).trans (hc i hi)⟩)⟩
theorem NSAt.mono {W : World} {B B' : Nat} {ns : List ByteArray} {zs : List Int} {an am : Option Addr} (h : NSAt W B ns zs an am) (hB : B ≤ B') : NSAt W B' ns zs an am :=
  ⟨h.len, h.bd, h.cn.imp id (fun ⟨b, o, e, hl, hc⟩ => ⟨b, o, e, by omega, hc⟩), h.cz.imp id (fun ⟨b, o, e, hl, hc⟩ => ⟨b, o, e, by omega, hc⟩)⟩

theorem ba_beq (s t : ByteArray) : (s.toList == t.toList) = decide (s = t) := by
  rw [Bool.eq_iff_iff]; simp
  exact ⟨fun h => ByteArray.ext (Array.toList_inj.1 (by rwa [ByteArray.toList_eq, ByteArray.toList_eq] at h)), fun h => by rw [h]⟩

/-- an operator's Kids, as cells -/
theorem KA.one {W : World} {B d : Nat} {a : Ex} {ao : Option Addr} (h : KA W B d [a] ao) : ∃ d' b o ao' cap', d = d' + 1 ∧ ao = some ⟨b, o, none⟩ ∧ b < B ∧ ExAt W b o a ao' cap' ∧ ExBd a cap' ∧ KA W B d' a.kids ao' := by
  cases d with
  | zero => cases h
  | succ d =>
    rcases h with h | ⟨b, o, rfl, hl, h⟩
    · cases h
    · obtain ⟨ao', cap', h1, h2, h3⟩ := h 0 (by simp)
      exact ⟨d, b, o, ao', cap', rfl, rfl, hl, by simpa using h1, h2, h3⟩
theorem KA.two {W : World} {B d : Nat} {a a2 : Ex} {ao : Option Addr} (h : KA W B d [a, a2] ao) : ∃ d' b o ao' cap' ao2 cap2, d = d' + 1 ∧ ao = some ⟨b, o, none⟩ ∧ b < B ∧ ExAt W b o a ao' cap' ∧ ExBd a cap' ∧ KA W B d' a.kids ao' ∧ ExAt W b (o + 6) a2 ao2 cap2 ∧ ExBd a2 cap2 ∧ KA W B d' a2.kids ao2 := by
  cases d with
  | zero => cases h
  | succ d =>
    rcases h with h | ⟨b, o, rfl, hl, h⟩
    · cases h
    · obtain ⟨ao', cap', h1, h2, h3⟩ := h 0 (by simp)
      obtain ⟨ao2, cap2, k1, k2, k3⟩ := h 1 (by simp)
      exact ⟨d, b, o, ao', cap', ao2, cap2, rfl, rfl, hl, by simpa using h1, h2, h3, by simpa using k1, k2, k3⟩

end Go.Proofs.YtipolobikigmbaaGreatDoor
/-
  How a list of names and a list of sorts are read as data.
-/
namespace Go.Proofs.YtipolobikigmbaaGreatDoor
open Go.RowKit Go.Deep Go.Joins Go.ChangeShapes Go.WideShapes

section
variable {H : Type} {enc : TypeId × Value → H} {W : World} {base : Nat} {spare : Nat → Bool} {held : Bool}
/-- a list of one-cell values lies below block B -/
def NAt (W : World) (B : Nat) (vs : List Value) (an : Option Addr) : Prop := vs = [] ∨ ∃ b o, an = some ⟨b, o, none⟩ ∧ b < B ∧ ∀ i (h : i < vs.length), W.cell? ⟨b, o + i, none⟩ = some vs[i]
theorem cellsSt : Tryz.prog.cellsOf 9 = 1 := by kernel_rfl
theorem cellsIn : Tryz.prog.cellsOf 3 = 1 := by kernel_rfl
set_option maxRecDepth 100000 in
theorem openNames {r : Reach} {b0 : Nat} {v : Value} {d : DataW H} {p : List MemPlace} (hv : Value.okWide Tryz.prog W r b0 53 v) (h : DataW.Trod enc Tryz.prog W base spare held 53 v d p) :
    ∃ (ns : List ByteArray) (an : Option Addr) (cn : Nat), v = .slice an ns.length cn ∧ NAt W W.heap.size (ns.map Value.string) an ∧ (ns = [] ∨ ∃ elems rest, d = .slice elems rest ∧ elems.length = ns.length) := by
  obtain ⟨a0, len, cap, rfl⟩ := okWide_slice Tryz.underlying53 hv
  obtain ⟨fuel, hf⟩ := h
  rcases DataW.trod_slice Tryz.underlying53 hf with ⟨e5, _⟩ | ⟨a, len', cap', elems, rest, k, hk, e5, hx, hb, hlc, hcm, hle, hel, _, _⟩
  · simp [Value.cells] at e5
    obtain ⟨rfl, rfl, rfl⟩ := e5
    exact ⟨[], none, 0, rfl, .inl rfl, .inl rfl⟩
  · simp [Value.cells] at e5
    obtain ⟨rfl, rfl, rfl⟩ := e5
    rw [cellsSt] at hel
    have hall : ∀ i, i < len → ∃ s : ByteArray, W.cells? base (a.add (i * 1)) 1 = some [.string s] := by
      intro i hi
      have q := hel i hi
      rw [List.getElem?_eq_getElem (by omega)] at q
      obtain ⟨cs', q1, q2⟩ := Option.bind_eq_some_iff.1 q
      obtain ⟨s, e1, _, _⟩ := DataW.trod_string Tryz.underlying9 q2
      subst e1
      exact ⟨s, q1⟩
    haveI : Inhabited ByteArray := ⟨⟨#[]⟩⟩
    obtain ⟨f, hf⟩ := choose_lt hall
    refine ⟨(List.range len).map f, some a, cap, by simp, ?_, .inr ⟨elems.map (·.1), rest.map (·.1), (Prod.mk.inj hx).1, by simp [hle]⟩⟩
    by_cases hl0 : len = 0
    · exact .inl (by simp [hl0])
    · have q2 := (World.cells?_some (hf 0 (by omega))).2.2 0 (by omega)
      obtain ⟨b, o, spot⟩ := a
      have hsp : spot = none := by simpa [Addr.add] using World.cell?_spot q2
      subst hsp
      have hcell : ∀ i, i < len → W.cell? ⟨b, o + i, none⟩ = some (Value.string (f i)) := by
        intro i hi
        have := (World.cells?_some (hf i hi)).2.2 0 (by omega)
        rw [add_add, Go.WideShapes.add_plain] at this
        simpa using this
      refine .inr ⟨b, o, rfl, lt_of_cell ((hcell 0 (by omega)).trans rfl), fun i hi => ?_⟩
      have hi' : i < len := by simpa using hi
      rw [hcell i hi']
      simp
set_option maxRecDepth 100000 in
theorem openInts {r : Reach} {b0 : Nat} {v : Value} {d : DataW H} {p : List MemPlace} (hv : Value.okWide Tryz.prog W r b0 54 v) (h : DataW.Trod enc Tryz.prog W base spare held 54 v d p) :
    ∃ (zs : List Int) (an : Option Addr) (cn : Nat), v = .slice an zs.length cn ∧ NAt W W.heap.size (zs.map (Value.int .i64)) an ∧ (zs = [] ∨ ∃ elems rest, d = .slice elems rest ∧ elems.length = zs.length) := by
  obtain ⟨a0, len, cap, rfl⟩ := okWide_slice Tryz.underlying54 hv
  obtain ⟨fuel, hf⟩ := h
  rcases DataW.trod_slice Tryz.underlying54 hf with ⟨e5, _⟩ | ⟨a, len', cap', elems, rest, k, hk, e5, hx, hb, hlc, hcm, hle, hel, _, _⟩
  · simp [Value.cells] at e5
    obtain ⟨rfl, rfl, rfl⟩ := e5
    exact ⟨[], none, 0, rfl, .inl rfl, .inl rfl⟩
  · simp [Value.cells] at e5
    obtain ⟨rfl, rfl, rfl⟩ := e5
    rw [cellsIn] at hel
    have hall : ∀ i, i < len → ∃ z : Int, W.cells? base (a.add (i * 1)) 1 = some [.int .i64 z] := by
      intro i hi
      have q := hel i hi
      rw [List.getElem?_eq_getElem (by omega)] at q
      obtain ⟨cs', q1, q2⟩ := Option.bind_eq_some_iff.1 q
      obtain ⟨z, e1, _, _⟩ := DataW.trod_int Tryz.underlying3 q2
      subst e1
      exact ⟨z, q1⟩
    obtain ⟨f, hf⟩ := choose_lt hall
    refine ⟨(List.range len).map f, some a, cap, by simp, ?_, .inr ⟨elems.map (·.1), rest.map (·.1), (Prod.mk.inj hx).1, by simp [hle]⟩⟩
    by_cases hl0 : len = 0
    · exact .inl (by simp [hl0])
    · have q2 := (World.cells?_some (hf 0 (by omega))).2.2 0 (by omega)
      obtain ⟨b, o, spot⟩ := a
      have hsp : spot = none := by simpa [Addr.add] using World.cell?_spot q2
      subst hsp
      have hcell : ∀ i, i < len → W.cell? ⟨b, o + i, none⟩ = some (Value.int .i64 (f i)) := by
        intro i hi
        have := (World.cells?_some (hf i hi)).2.2 0 (by omega)
        rw [add_add, Go.WideShapes.add_plain] at this
        simpa using this
      refine .inr ⟨b, o, rfl, lt_of_cell ((hcell 0 (by omega)).trans rfl), fun i hi => ?_⟩
      have hi' : i < len := by simpa using hi
      rw [hcell i hi']
      simp
theorem ns_of {B : Nat} {ns : List ByteArray} {zs : List Int} {an am : Option Addr} (h1 : NAt W B (ns.map Value.string) an) (h2 : NAt W B (zs.map (Value.int .i64)) am) (hl : zs.length = ns.length) (hb : ns.length ≤ 9223372036854775806) : NSAt W B ns zs an am := by
  refine ⟨hl, hb, ?_, ?_⟩
  · rcases h1 with h | ⟨b, o, e, hlt, hc⟩
    · exact .inl (by simpa using h)
    · exact .inr ⟨b, o, e, hlt, fun i hi => by have := hc i (by simpa using hi); simpa using this⟩
  · rcases h2 with h | ⟨b, o, e, hlt, hc⟩
    · exact .inl (by simpa using h)
    · exact .inr ⟨b, o, e, hlt, fun i hi => by have := hc i (by simpa using hi); simpa using this⟩
end
end Go.Proofs.YtipolobikigmbaaGreatDoor
