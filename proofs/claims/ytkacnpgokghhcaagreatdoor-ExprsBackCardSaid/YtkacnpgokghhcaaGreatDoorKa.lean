/-
  The contracts of exprs.sortOfName, sortOfOperator and sortOf, for every right expression and every names and sorts.
-/
import Derived.Test.YtkacnpgokghhcaaGreatDoorXg
import Derived.Test.YtkacnpgokghhcaaGreatDoorXb
import Derived.Deep.Slices
import Derived.OpenShut
namespace Go.Proofs.YtkacnpgokghhcaaGreatDoor
open Go.RowKit

/-- the last of such a name -/
def lastOf {α : Type} (nm : ByteArray) : List (ByteArray × α) → Option α
  | [] => none
  | p :: r => match lastOf nm r with
    | some v => some v
    | none => if p.1 = nm then some p.2 else none
theorem lastOf_none {α : Type} (nm : ByteArray) : ∀ (l : List (ByteArray × α)), (∀ i (h : i < l.length), l[i].1 ≠ nm) → lastOf nm l = none
  | [], _ => rfl
  | p :: r, h => by
    unfold lastOf
    rw [lastOf_none nm r (fun i hi => h (i + 1) (by simpa using hi))]
    simp only
    rw [if_neg (show p.1 ≠ nm from h 0 (by simp))]
theorem lastOf_at {α : Type} (nm : ByteArray) : ∀ (l : List (ByteArray × α)) (k : Nat) (hk : k < l.length), l[k].1 = nm → (∀ i (h : i < l.length), k < i → l[i].1 ≠ nm) → lastOf nm l = some l[k].2
  | p :: r, 0, _, h, ha => by
    unfold lastOf
    rw [lastOf_none nm r (fun i hi => ha (i + 1) (by simpa using hi) (by omega))]
    simp only
    rw [if_pos (show p.1 = nm from h)]; rfl
  | p :: r, k + 1, hk, h, ha => by
    unfold lastOf
    rw [lastOf_at nm r k (by simpa using hk) h (fun i hi hl => ha (i + 1) (by simpa using hi) (by omega))]
    rfl
/-- names and sorts as sortOfName looks them up -/
def lookS (ns : List ByteArray) (zs : List Int) (nm : ByteArray) : Int × Int := match lastOf nm (ns.zip zs) with
  | some z => (z, 0)
  | none => (0, 4)
theorem lookS_none (ns : List ByteArray) (zs : List Int) (nm : ByteArray) (h : ∀ i (hi : i < ns.length), ns[i] ≠ nm) : lookS ns zs nm = (0, 4) := by
  unfold lookS; rw [lastOf_none nm _ (fun i hi => by simp at hi ⊢; exact h i (by omega))]
theorem lookS_at (ns : List ByteArray) (zs : List Int) (nm : ByteArray) (k : Nat) (hk : k < ns.length) (hz : k < zs.length) (h : ns[k] = nm) (ha : ∀ i (hi : i < ns.length), k < i → ns[i] ≠ nm) : lookS ns zs nm = (zs[k], 0) := by
  unfold lookS; rw [lastOf_at nm _ k (by simp; omega) (by simpa using h) (fun i hi hl => by simp at hi ⊢; exact ha i (by omega) hl)]; simp

structure NSAt (W : World) (B : Nat) (ns : List ByteArray) (zs : List Int) (an am : Option Addr) : Prop where
  len : zs.length = ns.length
  bd : ns.length ≤ 9223372036854775806
  cn : ns = [] ∨ ∃ b o, an = some ⟨b, o, none⟩ ∧ b < B ∧ ∀ i (h : i < ns.length), W.cell? ⟨b, o + i, none⟩ = some (.string ns[i])
  cz : zs = [] ∨ ∃ b o, am = some ⟨b, o, none⟩ ∧ b < B ∧ ∀ i (h : i < zs.length), W.cell? ⟨b, o + i, none⟩ = some (.int .i64 zs[i])
theorem NSAt.keep {W W' : World} {B : Nat} {ns : List ByteArray} {zs : List Int} {an am : Option Addr} (h : NSAt W B ns zs an am) (hb : Below B W W') : NSAt W' B ns zs an am :=
  ⟨h.len, h.bd, h.cn.imp id (fun ⟨b, o, e, hl, hc⟩ => ⟨b, o, e, hl, fun i hi => (hb.cell (p := ⟨b, o + i, none⟩) hl).trans (hc i hi)⟩), h.cz.imp id (fun ⟨b, o, e, hl, hc⟩ => ⟨b, o, e, hl, fun i hi => (hb.cell (p := ⟨b, o + i, none⟩) hl).trans (hc i hi)⟩)⟩
theorem NSAt.mono {W : World} {B B' : Nat} {ns : List ByteArray} {zs : List Int} {an am : Option Addr} (h : NSAt W B ns zs an am) (hB : B ≤ B') : NSAt W B' ns zs an am :=
  ⟨h.len, h.bd, h.cn.imp id (fun ⟨b, o, e, hl, hc⟩ => ⟨b, o, e, by omega, hc⟩), h.cz.imp id (fun ⟨b, o, e, hl, hc⟩ => ⟨b, o, e, by omega, hc⟩)⟩

theorem ba_beq (s t : ByteArray) : (s.toList == t.toList) = decide (s = t) := by
  rw [Bool.eq_iff_iff]; simp
  exact ⟨fun h => ByteArray.ext (Array.toList_inj.1 (by rwa [ByteArray.toList_eq, ByteArray.toList_eq] at h)), fun h => by rw [h]⟩

/-- an operator's Kids, as cells -/
theorem KA.one {W : World} {B d : Nat} {a : Ex} {ao : Option Addr} (h : KA W B d [a] ao) : ∃ d' b o ao' cap', d = d' + 1 ∧ ao = some ⟨b, o, none⟩ ∧ b < B ∧ ExAt W b o a ao' cap' ∧ ExBd a cap' ∧ KA W B d' a.kids ao' := by
  cases d with
  | zero => cases h
  | succ d =>
    rcases h with h | ⟨b, o, rfl, hl, h⟩
    · cases h
    · obtain ⟨ao', cap', h1, h2, h3⟩ := h 0 (by simp)
      exact ⟨d, b, o, ao', cap', rfl, rfl, hl, by simpa using h1, h2, h3⟩
theorem KA.two {W : World} {B d : Nat} {a a2 : Ex} {ao : Option Addr} (h : KA W B d [a, a2] ao) : ∃ d' b o ao' cap' ao2 cap2, d = d' + 1 ∧ ao = some ⟨b, o, none⟩ ∧ b < B ∧ ExAt W b o a ao' cap' ∧ ExBd a cap' ∧ KA W B d' a.kids ao' ∧ ExAt W b (o + 6) a2 ao2 cap2 ∧ ExBd a2 cap2 ∧ KA W B d' a2.kids ao2 := by
  cases d with
  | zero => cases h
  | succ d =>
    rcases h with h | ⟨b, o, rfl, hl, h⟩
    · cases h
    · obtain ⟨ao', cap', h1, h2, h3⟩ := h 0 (by simp)
      obtain ⟨ao2, cap2, k1, k2, k3⟩ := h 1 (by simp)
      exact ⟨d, b, o, ao', cap', ao2, cap2, rfl, rfl, hl, by simpa using h1, h2, h3, by simpa using k1, k2, k3⟩

end Go.Proofs.YtkacnpgokghhcaaGreatDoor
/-
  How a list of names and a list of sorts are read as data.
-/
namespace Go.Proofs.YtkacnpgokghhcaaGreatDoor
open Go.RowKit Go.Deep Go.Joins Go.ChangeShapes Go.WideShapes

section
variable {H : Type} {enc : TypeId × Value → H} {W : World} {base : Nat} {spare : Nat → Bool} {held : Bool}
/-- a list of one-cell values lies below block B -/
def NAt (W : World) (B : Nat) (vs : List Value) (an : Option Addr) : Prop := vs = [] ∨ ∃ b o, an = some ⟨b, o, none⟩ ∧ b < B ∧ ∀ i (h : i < vs.length), W.cell? ⟨b, o + i, none⟩ = some vs[i]
theorem cellsSt : Tryz.prog.cellsOf 9 = 1 := by kernel_rfl
theorem cellsIn : Tryz.prog.cellsOf 3 = 1 := by kernel_rfl
theorem ns_of {B : Nat} {ns : List ByteArray} {zs : List Int} {an am : Option Addr} (h1 : NAt W B (ns.map Value.string) an) (h2 : NAt W B (zs.map (Value.int .i64)) am) (hl : zs.length = ns.length) (hb : ns.length ≤ 9223372036854775806) : NSAt W B ns zs an am := by
  refine ⟨hl, hb, ?_, ?_⟩
  · rcases h1 with h | ⟨b, o, e, hlt, hc⟩
    · exact .inl (by simpa using h)
    · exact .inr ⟨b, o, e, hlt, fun i hi => by have := hc i (by simpa using hi); simpa using this⟩
  · rcases h2 with h | ⟨b, o, e, hlt, hc⟩
    · exact .inl (by simpa using h)
    · exact .inr ⟨b, o, e, hlt, fun i hi => by have := hc i (by simpa using hi); simpa using this⟩
end
end Go.Proofs.YtkacnpgokghhcaaGreatDoor

/-
  Types as data: a type with its labels and its Kids, how it lies in memory, and that every type handed in lies so.
-/
namespace Go.Proofs.YtkacnpgokghhcaaGreatDoor
open Go.RowKit Go.Deep Go.Joins Go.ChangeShapes Go.WideShapes

structure Ty where
  kind : Int
  so : Int
  name : ByteArray
  labels : List ByteArray
  kids : List Ty
def sizeT : Ty → Nat
  | ⟨_, _, _, _, ks⟩ => 1 + (ks.map sizeT).sum
theorem sizeT_eq (t : Ty) : sizeT t = 1 + (t.kids.map sizeT).sum := by cases t; rw [sizeT]
theorem sizeT_kid {t k : Ty} (h : k ∈ t.kids) : sizeT k < sizeT t := by
  rw [sizeT_eq t]
  have : ∀ l : List Ty, k ∈ l → sizeT k ≤ (l.map sizeT).sum := by
    intro l
    induction l with
    | nil => intro h; cases h
    | cons a l ih =>
      intro h
      simp only [List.map_cons, List.sum_cons]
      rcases List.mem_cons.1 h with rfl | h
      · omega
      · have := ih h; omega
  have := this _ h
  omega
/-- what holds of a type where it holds of its Kids holds of all -/
theorem tyInd {P : Ty → Prop} (h : ∀ t, (∀ k ∈ t.kids, P k) → P t) : ∀ t, P t := by
  have : ∀ n t, sizeT t ≤ n → P t := by
    intro n
    induction n with
    | zero => intro t ht; have := sizeT_eq t; omega
    | succ n ih => intro t ht; exact h t (fun k hk => ih k (by have := sizeT_kid hk; omega))
  exact fun t => this _ t (Nat.le_refl _)

/-- the five cells of a type -/
structure TyAt (W : World) (b o : Nat) (t : Ty) (al : Option Addr) (cl : Nat) (ak : Option Addr) (ck : Nat) : Prop where
  c0 : W.cell? ⟨b, o, none⟩ = some (.int .i64 t.kind)
  c1 : W.cell? ⟨b, o + 1, none⟩ = some (.int .i64 t.so)
  c2 : W.cell? ⟨b, o + 2, none⟩ = some (.string t.name)
  c3 : W.cell? ⟨b, o + 3, none⟩ = some (.slice al t.labels.length cl)
  c4 : W.cell? ⟨b, o + 4, none⟩ = some (.slice ak t.kids.length ck)
/-- what fits into a word -/
structure TyBd (t : Ty) (cl ck : Nat) : Prop where
  name : t.name.size ≤ 9223372036854775807
  labs : ∀ l ∈ t.labels, l.size ≤ 9223372036854775807
  labels : t.labels.length ≤ cl
  cl : cl ≤ 9223372036854775807
  kids : t.kids.length ≤ ck
  ck : ck ≤ 9223372036854775807
/-- a list of names lies below block B -/
abbrev LA (W : World) (B : Nat) (ls : List ByteArray) (al : Option Addr) : Prop := NAt W B (ls.map Value.string) al
/-- a list of types, of so many levels at most, lies below block B -/
def KT (W : World) (B : Nat) : Nat → List Ty → Option Addr → Prop
  | 0, ks, _ => ks = []
  | d + 1, ks, ak => ks = [] ∨ ∃ b o, ak = some ⟨b, o, none⟩ ∧ b < B ∧ ∀ i (h : i < ks.length), ∃ al cl ak' ck', TyAt W b (o + i * 5) ks[i] al cl ak' ck' ∧ TyBd ks[i] cl ck' ∧ LA W B ks[i].labels al ∧ KT W B d ks[i].kids ak'

theorem NAt.keep {W W' : World} {B : Nat} {vs : List Value} {an : Option Addr} (hb : Below B W W') (h : NAt W B vs an) : NAt W' B vs an :=
  h.imp id fun ⟨b, o, e, hl, hc⟩ => ⟨b, o, e, hl, fun i hi => (hb.cell (p := ⟨b, o + i, none⟩) hl).trans (hc i hi)⟩
theorem NAt.mono {W : World} {B B' : Nat} {vs : List Value} {an : Option Addr} (hB : B ≤ B') (h : NAt W B vs an) : NAt W B' vs an :=
  h.imp id fun ⟨b, o, e, hl, hc⟩ => ⟨b, o, e, by omega, hc⟩
theorem TyAt.keep {W W' : World} {B b o : Nat} {t : Ty} {al : Option Addr} {cl : Nat} {ak : Option Addr} {ck : Nat} (h : TyAt W b o t al cl ak ck) (hb : Below B W W') (hl : b < B) : TyAt W' b o t al cl ak ck :=
  ⟨(hb.cell (p := ⟨b, o, none⟩) hl).trans h.c0, (hb.cell (p := ⟨b, o + 1, none⟩) hl).trans h.c1, (hb.cell (p := ⟨b, o + 2, none⟩) hl).trans h.c2, (hb.cell (p := ⟨b, o + 3, none⟩) hl).trans h.c3, (hb.cell (p := ⟨b, o + 4, none⟩) hl).trans h.c4⟩
theorem KT.keep {W W' : World} {B : Nat} (hb : Below B W W') : ∀ {d : Nat} {ks : List Ty} {ak : Option Addr}, KT W B d ks ak → KT W' B d ks ak
  | 0, _, _, h => h
  | d + 1, ks, ak, h => by
    rcases h with h | ⟨b, o, rfl, hl, h⟩
    · exact .inl h
    · exact .inr ⟨b, o, rfl, hl, fun i hi => by
        obtain ⟨al, cl, ak', ck', h1, h2, h3, h4⟩ := h i hi
        exact ⟨al, cl, ak', ck', h1.keep hb hl, h2, NAt.keep hb h3, KT.keep hb h4⟩⟩
theorem KT.mono {W : World} {B B' : Nat} (hB : B ≤ B') : ∀ {d : Nat} {ks : List Ty} {ak : Option Addr}, KT W B d ks ak → KT W B' d ks ak
  | 0, _, _, h => h
  | d + 1, ks, ak, h => by
    rcases h with h | ⟨b, o, rfl, hl, h⟩
    · exact .inl h
    · exact .inr ⟨b, o, rfl, by omega, fun i hi => by
        obtain ⟨al, cl, ak', ck', h1, h2, h3, h4⟩ := h i hi
        exact ⟨al, cl, ak', ck', h1, h2, NAt.mono hB h3, KT.mono hB h4⟩⟩
theorem KT.up {W : World} {B : Nat} : ∀ {d e : Nat} {ks : List Ty} {ak : Option Addr}, d ≤ e → KT W B d ks ak → KT W B e ks ak
  | 0, 0, _, _, _, h => h
  | 0, e + 1, _, _, _, h => .inl h
  | d + 1, 0, _, _, hd, _ => by omega
  | d + 1, e + 1, ks, ak, hd, h => by
    rcases h with h | ⟨b, o, rfl, hl, h⟩
    · exact .inl h
    · exact .inr ⟨b, o, rfl, hl, fun i hi => by
        obtain ⟨al, cl, ak', ck', h1, h2, h3, h4⟩ := h i hi
        exact ⟨al, cl, ak', ck', h1, h2, h3, KT.up (by omega) h4⟩⟩

/-- a type as a value -/
def tyVal (t : Ty) (al : Option Addr) (cl : Nat) (ak : Option Addr) (ck : Nat) : Value := .agg #[.int .i64 t.kind, .int .i64 t.so, .string t.name, .slice al t.labels.length cl, .slice ak t.kids.length ck]

section
variable {H : Type} {enc : TypeId × Value → H} {W : World} {base : Nat} {spare : Nat → Bool} {held : Bool}
end
end Go.Proofs.YtkacnpgokghhcaaGreatDoor
