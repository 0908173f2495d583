/-
  The contracts of exprs.sortOfName, sortOfOperator and sortOf, for every right expression and every names and sorts.
-/
import Derived.Test.YtefdekfgmbgbbaaDoorXg
namespace Go.Proofs.YtefdekfgmbgbbaaDoor
open Go.RowKit

/-- the last of such a name -/
def lastOf {α : Type} (nm : ByteArray) : List (ByteArray × α) → Option α
  | [] => none
  | p :: r => match lastOf nm r with
    | some v => some v
    | none => if p.1 = nm then some p.2 else none
theorem lastOf_none {α : Type} (nm : ByteArray) : ∀ (l : List (ByteArray × α)), (∀ i (h : i < l.length), l[i].1 ≠ nm) → lastOf nm l = none
  | [], _ => rfl
  | p :: r, h => by
    unfold lastOf
    rw [lastOf_none nm r (fun i hi => h (i + 1) (by simpa using hi))]
    simp only
    rw [if_neg (show p.1 ≠ nm from h 0 (by simp))]
theorem lastOf_at {α : Type} (nm : ByteArray) : ∀ (l : List (ByteArray × α)) (k : Nat) (hk : k < l.length), l[k].1 = nm → (∀ i (h : i < l.length), k < i → l[i].1 ≠ nm) → lastOf nm l = some l[k].2
  | p :: r, 0, _, h, ha => by
    unfold lastOf
    rw [lastOf_none nm r (fun i hi => ha (i + 1) (by simpa using hi) (by omega))]
    simp only
    rw [if_pos (show p.1 = nm from h)]; rfl
  | p :: r, k + 1, hk, h, ha => by
    unfold lastOf
    rw [lastOf_at nm r k (by simpa using hk) h (fun i hi hl => ha (i + 1) (by simpa using hi) (by omega))]
    rfl
/-- names and sorts as sortOfName looks them up -/
def lookS (ns : List ByteArray) (zs : List Int) (nm : ByteArray) : Int × Int := match lastOf nm (ns.zip zs) with
  | some z => (z, 0)
  | none => (0, 4)
theorem lookS_none (ns : List ByteArray) (zs : List Int) (nm : ByteArray) (h : ∀ i (hi : i < ns.length), ns[i] ≠ nm) : lookS ns zs nm = (0, 4) := by
  unfold lookS; rw [lastOf_none nm _ (fun i hi => by simp at hi ⊢; exact h i (by omega))]
theorem lookS_at (ns : List ByteArray) (zs : List Int) (nm : ByteArray) (k : Nat) (hk : k < ns.length) (hz : k < zs.length) (h : ns[k] = nm) (ha : ∀ i (hi : i < ns.length), k < i → ns[i] ≠ nm) : lookS ns zs nm = (zs[k], 0) := by
  unfold lookS; rw [lastOf_at nm _ k (by simp; omega) (by simpa using h) (fun i hi hl => by simp at hi ⊢; exact ha i (by omega) hl)]; simp

structure NSAt (W : World) (B : Nat) (ns : List ByteArray) (zs : List Int) (an am : Option Addr) : Prop where
  len : zs.length = ns.length
  bd : ns.length ≤ 9223372036854775806
  cn : ns = [] ∨ ∃ b o, an = some ⟨b, o, none⟩ ∧ b < B ∧ ∀ i (h : i < ns.length), W.cell? ⟨b, o + i, none⟩ = some (.string ns[i])
  cz : zs = [] ∨ ∃ b o, am = some ⟨b, o, none⟩ ∧ b < B ∧ ∀ i (h : i < zs.length), W.cell? ⟨b, o + i, none⟩ = some (.int .i64 zs[i])
theorem NSAt.keep {W W' : World} {B : Nat} {ns : List ByteArray} {zs : List Int} {an am : Option Addr} (h : NSAt W B ns zs an am) (hb : Below B W W') : NSAt W' B ns zs an am :=
  ⟨h.len, h.bd, h.cn.imp id (fun ⟨b, o, e, hl, hc⟩ => ⟨b, o, e, hl, fun i hi => (hb.cell (p := ⟨b, o + i, none⟩) hl).trans (hc i hi)⟩), h.cz.imp id (fun ⟨b, o, e, hl, hc⟩ => ⟨b, o, e, hl, fun i hi => (hb.cell (p := ⟨b, o + i, none⟩) hl).trans (hc i hi)⟩)⟩
theorem NSAt.mono {W : World} {B B' : Nat} {ns : List ByteArray} {zs : List Int} {an am : Option Addr} (h : NSAt W B ns zs an am) (hB : B ≤ B') : NSAt W B' ns zs an am :=
  ⟨h.len, h.bd, h.cn.imp id (fun ⟨b, o, e, hl, hc⟩ => ⟨b, o, e, by omega, hc⟩), h.cz.imp id (fun ⟨b, o, e, hl, hc⟩ => ⟨b, o, e, by omega, hc⟩)⟩

theorem ba_beq (s t : ByteArray) : (s.toList == t.toList) = decide (s = t) := by
  rw [Bool.eq_iff_iff]; simp
  exact ⟨fun h => ByteArray.ext (Array.toList_inj.1 (by rwa [ByteArray.toList_eq, ByteArray.toList_eq] at h)), fun h => by rw [h]⟩

/-- an operator's Kids, as cells -/
theorem KA.one {W : World} {B d : Nat} {a : Ex} {ao : Option Addr} (h : KA W B d [a] ao) : ∃ d' b o ao' cap', d = d' + 1 ∧ ao = some ⟨b, o, none⟩ ∧ b < B ∧ ExAt W b o a ao' cap' ∧ ExBd a cap' ∧ KA W B d' a.kids ao' := by
  cases d with
  | zero => cases h
  | succ d =>
    rcases h with h | ⟨b, o, rfl, hl, h⟩
    · cases h
    · obtain ⟨ao', cap', h1, h2, h3⟩ := h 0 (by simp)
      exact ⟨d, b, o, ao', cap', rfl, rfl, hl, by simpa using h1, h2, h3⟩
theorem KA.two {W : World} {B d : Nat} {a a2 : Ex} {ao : Option Addr} (h : KA W B d [a, a2] ao) : ∃ d' b o ao' cap' ao2 cap2, d = d' + 1 ∧ ao = some ⟨b, o, none⟩ ∧ b < B ∧ ExAt W b o a ao' cap' ∧ ExBd a cap' ∧ KA W B d' a.kids ao' ∧ ExAt W b (o + 6) a2 ao2 cap2 ∧ ExBd a2 cap2 ∧ KA W B d' a2.kids ao2 := by
  cases d with
  | zero => cases h
  | succ d =>
    rcases h with h | ⟨b, o, rfl, hl, h⟩
    · cases h
    · obtain ⟨ao', cap', h1, h2, h3⟩ := h 0 (by simp)
      obtain ⟨ao2, cap2, k1, k2, k3⟩ := h 1 (by simp)
      exact ⟨d, b, o, ao', cap', ao2, cap2, rfl, rfl, hl, by simpa using h1, h2, h3, by simpa using k1, k2, k3⟩

end Go.Proofs.YtefdekfgmbgbbaaDoor
