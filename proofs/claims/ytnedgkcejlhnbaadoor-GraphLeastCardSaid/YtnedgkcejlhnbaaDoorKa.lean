/-
  The contract of exprs.isPart, for every expression.
-/
import Derived.Test.YtnedgkcejlhnbaaDoorXd
import Derived.Test.YtnedgkcejlhnbaaDoorXb
import Derived.Deep.LoopGhost
import Derived.Deep.Slices
import Derived.OpenShut
namespace Go.Proofs.YtnedgkcejlhnbaaDoor
open Go.RowKit

theorem empty_toList (s : ByteArray) : s.toList.isEmpty = decide (s = ⟨#[]⟩) := by
  rw [Bool.eq_iff_iff, ByteArray.toList_eq]
  simp
  constructor
  · intro h; exact ByteArray.ext h
  · rintro rfl; rfl

end Go.Proofs.YtnedgkcejlhnbaaDoor
/-
  The contracts of exprs.checkParts and exprs.Check, for every expression; utf8.ValidString's contract is a hypothesis here.
-/
namespace Go.Proofs.YtnedgkcejlhnbaaDoor
open Go.RowKit
variable (Tabs : World → Prop) (B0 : Nat)

/-- the count of parts lies in a block of its own -/
structure PC (W : World) (b : Nat) (c : Nat) : Prop where
  lt : b < W.heap.size
  cell : W.cell? ⟨b, 0, none⟩ = some (.int .i64 (c : Int))
  free : W.frozen? ⟨b, 0, none⟩ = false
theorem PC.keep {W W' : World} {b c : Nat} (h : PC W b c) {B : Nat} (hb : Below B W W') (hl : b < B) : PC W' b c :=
  ⟨Nat.lt_of_lt_of_le h.lt hb.size, (hb.cell (p := ⟨b, 0, none⟩) hl).trans h.cell, (hb.frozen (p := ⟨b, 0, none⟩) hl).trans h.free⟩
theorem PC.al {W : World} {b c : Nat} (h : PC W b c) (o : Obj) : PC (W.alloc o) b c := h.keep ((Below.refl _ _).alloc (Nat.le_refl _) o) h.lt
theorem PC.set {W : World} {b c : Nat} (h : PC W b c) (k : Nat) : PC (W.setCell ⟨b, 0, none⟩ (.int .i64 (k : Int))) b k := by
  refine ⟨by simpa using h.lt, ?_, ?_⟩
  · exact World.cell?_setCell_same _ _ _ h.cell
  · simpa using h.free

end Go.Proofs.YtnedgkcejlhnbaaDoor

/-
  The contracts of exprs.sortOfName, sortOfOperator and sortOf, for every right expression and every names and sorts.
-/
namespace Go.Proofs.YtnedgkcejlhnbaaDoor
open Go.RowKit

structure NSAt (W : World) (B : Nat) (ns : List ByteArray) (zs : List Int) (an am : Option Addr) : Prop where
  len : zs.length = ns.length
  bd : ns.length ≤ 9223372036854775806
  cn : ns = [] ∨ ∃ b o, an = some ⟨b, o, none⟩ ∧ b < B ∧ ∀ i (h : i < ns.length), W.cell? ⟨b, o + i, none⟩ = some (.string ns[i])
  cz : zs = [] ∨ ∃ b o, am = some ⟨b, o, none⟩ ∧ b < B ∧ ∀ i (h : i < zs.length), W.cell? ⟨b, o + i, none⟩ = some (.int .i64 zs[i])
theorem NSAt.keep {W W' : World} {B : Nat} {ns : List ByteArray} {zs : List Int} {an am : Option Addr} (h : NSAt W B ns zs an am) (hb : Below B W W') : NSAt W' B ns zs an am :=
  ⟨h.len, h.bd, h.cn.imp id (fun ⟨b, o, e, hl, hc⟩ => ⟨b, o, e, hl, fun i hi => (hb.cell (p := ⟨b, o + i, none⟩) hl).trans (hc i hi)⟩), h.cz.imp id (fun ⟨b, o, e, hl, hc⟩ => ⟨b, o, e, hl, fun i hi => (hb.cell (p := ⟨b, o + i, none⟩) hl).trans (hc i hi)⟩)⟩
theorem NSAt.mono {W : World} {B B' : Nat} {ns : List ByteArray} {zs : List Int} {an am : Option Addr} (h : NSAt W B ns zs an am) (hB : B ≤ B') : NSAt W B' ns zs an am :=
  ⟨h.len, h.bd, h.cn.imp id (fun ⟨b, o, e, hl, hc⟩ => ⟨b, o, e, by omega, hc⟩), h.cz.imp id (fun ⟨b, o, e, hl, hc⟩ => ⟨b, o, e, by omega, hc⟩)⟩

theorem ba_beq (s t : ByteArray) : (s.toList == t.toList) = decide (s = t) := by
  rw [Bool.eq_iff_iff]; simp
  exact ⟨fun h => ByteArray.ext (Array.toList_inj.1 (by rwa [ByteArray.toList_eq, ByteArray.toList_eq] at h)), fun h => by rw [h]⟩

/-- an operator's Kids, as cells -/
theorem KA.one {W : World} {B d : Nat} {a : Ex} {ao : Option Addr} (h : KA W B d [a] ao) : ∃ d' b o ao' cap', d = d' + 1 ∧ ao = some ⟨b, o, none⟩ ∧ b < B ∧ ExAt W b o a ao' cap' ∧ ExBd a cap' ∧ KA W B d' a.kids ao' := by
  cases d with
  | zero => cases h
  | succ d =>
    rcases h with h | ⟨b, o, rfl, hl, h⟩
    · cases h
    · obtain ⟨ao', cap', h1, h2, h3⟩ := h 0 (by simp)
      exact ⟨d, b, o, ao', cap', rfl, rfl, hl, by simpa using h1, h2, h3⟩
end Go.Proofs.YtnedgkcejlhnbaaDoor

/-
  How a list of names and a list of sorts are read as data.
-/
namespace Go.Proofs.YtnedgkcejlhnbaaDoor
open Go.RowKit Go.Deep Go.Joins Go.ChangeShapes Go.WideShapes

section
variable {H : Type} {enc : TypeId × Value → H} {W : World} {base : Nat} {spare : Nat → Bool} {held : Bool}
/-- a list of one-cell values lies below block B -/
def NAt (W : World) (B : Nat) (vs : List Value) (an : Option Addr) : Prop := vs = [] ∨ ∃ b o, an = some ⟨b, o, none⟩ ∧ b < B ∧ ∀ i (h : i < vs.length), W.cell? ⟨b, o + i, none⟩ = some vs[i]
theorem cellsSt : Tryd.prog.cellsOf 9 = 1 := by kernel_rfl
theorem cellsIn : Tryd.prog.cellsOf 3 = 1 := by kernel_rfl
end
end Go.Proofs.YtnedgkcejlhnbaaDoor

/-
  Types as data: a type with its labels and its Kids, how it lies in memory, and that every type handed in lies so.
-/
namespace Go.Proofs.YtnedgkcejlhnbaaDoor
open Go.RowKit Go.Deep Go.Joins Go.ChangeShapes Go.WideShapes

structure Ty where
  kind : Int
  so : Int
  name : ByteArray
  labels : List ByteArray
  kids : List Ty
def sizeT : Ty → Nat
  | ⟨_, _, _, _, ks⟩ => 1 + (ks.map sizeT).sum
theorem sizeT_eq (t : Ty) : sizeT t = 1 + (t.kids.map sizeT).sum := by cases t; rw [sizeT]
theorem sizeT_kid {t k : Ty} (h : k ∈ t.kids) : sizeT k < sizeT t := by
  rw [sizeT_eq t]
  have : ∀ l : List Ty, k ∈ l → sizeT k ≤ (l.map sizeT).sum := by
    intro l
    induction l with
    | nil => intro h; cases h
    | cons a l ih =>
      intro h
      simp only [List.map_cons, List.sum_cons]
      rcases List.mem_cons.1 h with rfl | h
      · omega
      · have := ih h; omega
  have := this _ h
  omega
/-- what holds of a type where it holds of its Kids holds of all -/
theorem tyInd {P : Ty → Prop} (h : ∀ t, (∀ k ∈ t.kids, P k) → P t) : ∀ t, P t := by
  have : ∀ n t, sizeT t ≤ n → P t := by
    intro n
    induction n with
    | zero => intro t ht; have := sizeT_eq t; omega
    | succ n ih => intro t ht; exact h t (fun k hk => ih k (by have := sizeT_kid hk; omega))
  exact fun t => this _ t (Nat.le_refl _)

/-- the five cells of a type -/
structure TyAt (W : World) (b o : Nat) (t : Ty) (al : Option Addr) (cl : Nat) (ak : Option Addr) (ck : Nat) : Prop where
  c0 : W.cell? ⟨b, o, none⟩ = some (.int .i64 t.kind)
  c1 : W.cell? ⟨b, o + 1, none⟩ = some (.int .i64 t.so)
  c2 : W.cell? ⟨b, o + 2, none⟩ = some (.string t.name)
  c3 : W.cell? ⟨b, o + 3, none⟩ = some (.slice al t.labels.length cl)
  c4 : W.cell? ⟨b, o + 4, none⟩ = some (.slice ak t.kids.length ck)
/-- what fits into a word -/
structure TyBd (t : Ty) (cl ck : Nat) : Prop where
  name : t.name.size ≤ 9223372036854775807
  labs : ∀ l ∈ t.labels, l.size ≤ 9223372036854775807
  labels : t.labels.length ≤ cl
  cl : cl ≤ 9223372036854775807
  kids : t.kids.length ≤ ck
  ck : ck ≤ 9223372036854775807
/-- a list of names lies below block B -/
abbrev LA (W : World) (B : Nat) (ls : List ByteArray) (al : Option Addr) : Prop := NAt W B (ls.map Value.string) al
/-- a list of types, of so many levels at most, lies below block B -/
def KT (W : World) (B : Nat) : Nat → List Ty → Option Addr → Prop
  | 0, ks, _ => ks = []
  | d + 1, ks, ak => ks = [] ∨ ∃ b o, ak = some ⟨b, o, none⟩ ∧ b < B ∧ ∀ i (h : i < ks.length), ∃ al cl ak' ck', TyAt W b (o + i * 5) ks[i] al cl ak' ck' ∧ TyBd ks[i] cl ck' ∧ LA W B ks[i].labels al ∧ KT W B d ks[i].kids ak'

theorem NAt.keep {W W' : World} {B : Nat} {vs : List Value} {an : Option Addr} (hb : Below B W W') (h : NAt W B vs an) : NAt W' B vs an :=
  h.imp id fun ⟨b, o, e, hl, hc⟩ => ⟨b, o, e, hl, fun i hi => (hb.cell (p := ⟨b, o + i, none⟩) hl).trans (hc i hi)⟩
theorem NAt.mono {W : World} {B B' : Nat} {vs : List Value} {an : Option Addr} (hB : B ≤ B') (h : NAt W B vs an) : NAt W B' vs an :=
  h.imp id fun ⟨b, o, e, hl, hc⟩ => ⟨b, o, e, by omega, hc⟩
theorem TyAt.keep {W W' : World} {B b o : Nat} {t : Ty} {al : Option Addr} {cl : Nat} {ak : Option Addr} {ck : Nat} (h : TyAt W b o t al cl ak ck) (hb : Below B W W') (hl : b < B) : TyAt W' b o t al cl ak ck :=
  ⟨(hb.cell (p := ⟨b, o, none⟩) hl).trans h.c0, (hb.cell (p := ⟨b, o + 1, none⟩) hl).trans h.c1, (hb.cell (p := ⟨b, o + 2, none⟩) hl).trans h.c2, (hb.cell (p := ⟨b, o + 3, none⟩) hl).trans h.c3, (hb.cell (p := ⟨b, o + 4, none⟩) hl).trans h.c4⟩
theorem KT.keep {W W' : World} {B : Nat} (hb : Below B W W') : ∀ {d : Nat} {ks : List Ty} {ak : Option Addr}, KT W B d ks ak → KT W' B d ks ak
  | 0, _, _, h => h
  | d + 1, ks, ak, h => by
    rcases h with h | ⟨b, o, rfl, hl, h⟩
    · exact .inl h
    · exact .inr ⟨b, o, rfl, hl, fun i hi => by
        obtain ⟨al, cl, ak', ck', h1, h2, h3, h4⟩ := h i hi
        exact ⟨al, cl, ak', ck', h1.keep hb hl, h2, NAt.keep hb h3, KT.keep hb h4⟩⟩
theorem KT.mono {W : World} {B B' : Nat} (hB : B ≤ B') : ∀ {d : Nat} {ks : List Ty} {ak : Option Addr}, KT W B d ks ak → KT W B' d ks ak
  | 0, _, _, h => h
  | d + 1, ks, ak, h => by
    rcases h with h | ⟨b, o, rfl, hl, h⟩
    · exact .inl h
    · exact .inr ⟨b, o, rfl, by omega, fun i hi => by
        obtain ⟨al, cl, ak', ck', h1, h2, h3, h4⟩ := h i hi
        exact ⟨al, cl, ak', ck', h1, h2, NAt.mono hB h3, KT.mono hB h4⟩⟩
theorem KT.up {W : World} {B : Nat} : ∀ {d e : Nat} {ks : List Ty} {ak : Option Addr}, d ≤ e → KT W B d ks ak → KT W B e ks ak
  | 0, 0, _, _, _, h => h
  | 0, e + 1, _, _, _, h => .inl h
  | d + 1, 0, _, _, hd, _ => by omega
  | d + 1, e + 1, ks, ak, hd, h => by
    rcases h with h | ⟨b, o, rfl, hl, h⟩
    · exact .inl h
    · exact .inr ⟨b, o, rfl, hl, fun i hi => by
        obtain ⟨al, cl, ak', ck', h1, h2, h3, h4⟩ := h i hi
        exact ⟨al, cl, ak', ck', h1, h2, h3, KT.up (by omega) h4⟩⟩

/-- a type as a value -/
def tyVal (t : Ty) (al : Option Addr) (cl : Nat) (ak : Option Addr) (ck : Nat) : Value := .agg #[.int .i64 t.kind, .int .i64 t.so, .string t.name, .slice al t.labels.length cl, .slice ak t.kids.length ck]

section
variable {H : Type} {enc : TypeId × Value → H} {W : World} {base : Nat} {spare : Nat → Bool} {held : Bool}
set_option maxRecDepth 100000 in
theorem openLabs (fuel : Nat) (v : Value) (y : DataW H × List MemPlace) (h : DataW.trod enc Tryd.prog W base spare held fuel 26 [v] = some y) :
    ∃ (ls : List ByteArray) (al : Option Addr) (cl : Nat), v = .slice al ls.length cl ∧ (∀ l ∈ ls, l.size ≤ 9223372036854775807) ∧ ls.length ≤ cl ∧ cl ≤ 9223372036854775807 ∧ LA W W.heap.size ls al := by
  rcases DataW.trod_slice Tryd.underlying26 h with ⟨e5, _⟩ | ⟨a, len, cap, elems, rest, k, hk, e5, hx, hb, hlc, hcm, hle, hel, _, _⟩
  · simp at e5
    subst e5
    exact ⟨[], none, 0, rfl, fun l hl => (by cases hl), Nat.le_refl _, by omega, .inl rfl⟩
  · simp at e5
    subst e5
    rw [cellsSt] at hel
    unfold maxLen at hcm
    have hall : ∀ i, i < len → ∃ s : ByteArray, W.cells? base (a.add (i * 1)) 1 = some [.string s] ∧ s.size ≤ 9223372036854775807 := by
      intro i hi
      have q := hel i hi
      rw [List.getElem?_eq_getElem (by omega)] at q
      obtain ⟨cs', q1, q2⟩ := Option.bind_eq_some_iff.1 q
      obtain ⟨s, e1, _, ws⟩ := DataW.trod_string Tryd.underlying9 q2
      subst e1
      unfold maxLen at ws
      exact ⟨s, q1, by omega⟩
    haveI : Inhabited ByteArray := ⟨⟨#[]⟩⟩
    obtain ⟨f, hf⟩ := choose_lt hall
    refine ⟨(List.range len).map f, some a, cap, by simp, ?_, by simpa using hlc, by omega, ?_⟩
    · intro l hl
      obtain ⟨i, hi, rfl⟩ := List.mem_map.1 hl
      exact (hf i (by simpa using hi)).2
    by_cases hl0 : len = 0
    · exact .inl (by simp [hl0])
    · have q2 := (World.cells?_some (hf 0 (by omega)).1).2.2 0 (by omega)
      obtain ⟨b, o, spot⟩ := a
      have hsp : spot = none := by simpa [Addr.add] using World.cell?_spot q2
      subst hsp
      have hcell : ∀ i, i < len → W.cell? ⟨b, o + i, none⟩ = some (Value.string (f i)) := by
        intro i hi
        have := (World.cells?_some (hf i hi).1).2.2 0 (by omega)
        rw [add_add, Go.WideShapes.add_plain] at this
        simpa using this
      refine .inr ⟨b, o, rfl, lt_of_cell ((hcell 0 (by omega)).trans rfl), fun i hi => ?_⟩
      have hi' : i < len := by simpa using hi
      rw [hcell i hi']
      simp
end
end Go.Proofs.YtnedgkcejlhnbaaDoor
