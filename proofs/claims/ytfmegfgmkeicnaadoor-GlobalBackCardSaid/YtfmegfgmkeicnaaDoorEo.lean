/-
  The contract of exprs.isPart, for every expression.
-/
import Derived.Test.YtfmegfgmkeicnaaDoorXd
import Derived.Test.YtfmegfgmkeicnaaDoorNa
import Derived.Deep.LoopGhost
import Derived.Deep.Slices
import Derived.OpenShut
namespace Go.Proofs.YtfmegfgmkeicnaaDoor
open Go.RowKit

theorem empty_toList (s : ByteArray) : s.toList.isEmpty = decide (s = ⟨#[]⟩) := by
  rw [Bool.eq_iff_iff, ByteArray.toList_eq]
  simp
  constructor
  · intro h; exact ByteArray.ext h
  · rintro rfl; rfl

theorem zero_cases (so n : Int) (s : ByteArray) : (so = 0 ∧ n = 0 ∧ s = ⟨#[]⟩) ∨ so ≠ 0 ∨ (so = 0 ∧ n ≠ 0) ∨ (so = 0 ∧ n = 0 ∧ s ≠ ⟨#[]⟩) := by
  by_cases h1 : so = 0
  · by_cases h2 : n = 0
    · by_cases h3 : s = ⟨#[]⟩
      · exact .inl ⟨h1, h2, h3⟩
      · exact .inr (.inr (.inr ⟨h1, h2, h3⟩))
    · exact .inr (.inr (.inl ⟨h1, h2⟩))
  · exact .inr (.inl h1)

theorem keep6 {w w1 : World} {v0 v1 v2 v3 v4 v5 : Value} {T : TypeId} (hb : Below (w.alloc (.cells #[v0, v1, v2, v3, v4, v5] T)).heap.size (w.alloc (.cells #[v0, v1, v2, v3, v4, v5] T)) w1) :
    w1.cell? ⟨w.heap.size, 0, none⟩ = some v0 ∧ w1.cell? ⟨w.heap.size, 1, none⟩ = some v1 ∧ w1.cell? ⟨w.heap.size, 2, none⟩ = some v2 ∧ w1.cell? ⟨w.heap.size, 3, none⟩ = some v3 ∧ w1.cell? ⟨w.heap.size, 4, none⟩ = some v4 ∧ w1.cell? ⟨w.heap.size, 5, none⟩ = some v5 ∧ Below w.heap.size w w1 := by
  obtain ⟨hc1, _⟩ := bcell hb
  exact ⟨(hc1 _ 0 (by simp)).trans (by go_cell), (hc1 _ 1 (by simp)).trans (by go_cell), (hc1 _ 2 (by simp)).trans (by go_cell), (hc1 _ 3 (by simp)).trans (by go_cell), (hc1 _ 4 (by simp)).trans (by go_cell), (hc1 _ 5 (by simp)).trans (by go_cell), ((Below.refl _ _).alloc (Nat.le_refl _) _).trans (hb.mono (by simp))⟩

end Go.Proofs.YtfmegfgmkeicnaaDoor
/-
  The contracts of exprs.checkParts and exprs.Check, for every expression; utf8.ValidString's contract is a hypothesis here.
-/
namespace Go.Proofs.YtfmegfgmkeicnaaDoor
open Go.RowKit
variable (Tabs : World → Prop) (B0 : Nat)

/-- the count of parts lies in a block of its own -/
structure PC (W : World) (b : Nat) (c : Nat) : Prop where
  lt : b < W.heap.size
  cell : W.cell? ⟨b, 0, none⟩ = some (.int .i64 (c : Int))
  free : W.frozen? ⟨b, 0, none⟩ = false
theorem PC.keep {W W' : World} {b c : Nat} (h : PC W b c) {B : Nat} (hb : Below B W W') (hl : b < B) : PC W' b c :=
  ⟨Nat.lt_of_lt_of_le h.lt hb.size, (hb.cell (p := ⟨b, 0, none⟩) hl).trans h.cell, (hb.frozen (p := ⟨b, 0, none⟩) hl).trans h.free⟩
theorem PC.al {W : World} {b c : Nat} (h : PC W b c) (o : Obj) : PC (W.alloc o) b c := h.keep ((Below.refl _ _).alloc (Nat.le_refl _) o) h.lt
theorem PC.set {W : World} {b c : Nat} (h : PC W b c) (k : Nat) : PC (W.setCell ⟨b, 0, none⟩ (.int .i64 (k : Int))) b k := by
  refine ⟨by simpa using h.lt, ?_, ?_⟩
  · exact World.cell?_setCell_same _ _ _ h.cell
  · simpa using h.free

theorem chkL_cnt (ks : List Ex) : ∀ (a : Int × Nat), (∀ k ∈ ks, ∀ c, c ≤ 60 → (chkP k c).1 = 0 → (chkP k c).2 ≤ 60) → a.2 ≤ 60 → (chkL ks a).1 = 0 → (chkL ks a).2 ≤ 60 := by
  induction ks with
  | nil => intro a _ h _; exact h
  | cons x ks ih =>
    intro a hk h h0
    rw [chkL_cons] at h0 ⊢
    by_cases ha : a.1 ≠ 0
    · rw [if_pos ha] at h0 ⊢
      exact ih a (fun k hm => hk k (.tail _ hm)) h h0
    · rw [if_neg ha] at h0 ⊢
      by_cases hx : (chkP x a.2).1 = 0
      · exact ih _ (fun k hm => hk k (.tail _ hm)) (hk x (.head _) _ h hx) h0
      · rw [chkL_bad _ _ hx] at h0; exact absurd h0 hx
theorem chkP_cnt : ∀ x : Ex, ∀ c, c ≤ 60 → (chkP x c).1 = 0 → (chkP x c).2 ≤ 60 := by
  apply exInd
  intro x ih c hc h
  rw [chkP_eq] at h ⊢
  by_cases h1 : 60 < c + 1
  · rw [if_pos h1] at h; exact absurd h (by simp)
  · rw [if_neg h1] at h ⊢
    split at h
    · exact absurd h (by simp)
    · split at h
      · rw [if_neg ‹_›, if_pos ‹_›]; show c + 1 ≤ 60; omega
      · rw [if_neg ‹_›, if_neg ‹_›]
        exact chkL_cnt x.kids (0, c + 1) ih (by show c + 1 ≤ 60; omega) h
theorem chkL_snoc (ks : List Ex) (x : Ex) (a : Int × Nat) : chkL (ks ++ [x]) a = if (chkL ks a).1 ≠ 0 then chkL ks a else chkP x (chkL ks a).2 := by
  unfold chkL; rw [List.foldl_append]; rfl
theorem chkL_split (ks : List Ex) (k : Nat) (a : Int × Nat) (h : (chkL (ks.take k) a).1 ≠ 0) : chkL ks a = chkL (ks.take k) a := by
  have e : chkL ks a = chkL (ks.drop k) (chkL (ks.take k) a) := by
    conv => lhs; rw [← List.take_append_drop k ks]
    unfold chkL; rw [List.foldl_append]
  rw [e, chkL_bad _ _ h]

end Go.Proofs.YtfmegfgmkeicnaaDoor

/-
  The contracts of exprs.sortOfName, sortOfOperator and sortOf, for every right expression and every names and sorts.
-/
namespace Go.Proofs.YtfmegfgmkeicnaaDoor
open Go.RowKit

/-- the last of such a name -/
def lastOf {α : Type} (nm : ByteArray) : List (ByteArray × α) → Option α
  | [] => none
  | p :: r => match lastOf nm r with
    | some v => some v
    | none => if p.1 = nm then some p.2 else none
theorem lastOf_none {α : Type} (nm : ByteArray) : ∀ (l : List (ByteArray × α)), (∀ i (h : i < l.length), l[i].1 ≠ nm) → lastOf nm l = none
  | [], _ => rfl
  | p :: r, h => by
    unfold lastOf
    rw [lastOf_none nm r (fun i hi => h (i + 1) (by simpa using hi))]
    simp only
    rw [if_neg (show p.1 ≠ nm from h 0 (by simp))]
theorem lastOf_at {α : Type} (nm : ByteArray) : ∀ (l : List (ByteArray × α)) (k : Nat) (hk : k < l.length), l[k].1 = nm → (∀ i (h : i < l.length), k < i → l[i].1 ≠ nm) → lastOf nm l = some l[k].2
  | p :: r, 0, _, h, ha => by
    unfold lastOf
    rw [lastOf_none nm r (fun i hi => ha (i + 1) (by simpa using hi) (by omega))]
    simp only
    rw [if_pos (show p.1 = nm from h)]; rfl
  | p :: r, k + 1, hk, h, ha => by
    unfold lastOf
    rw [lastOf_at nm r k (by simpa using hk) h (fun i hi hl => ha (i + 1) (by simpa using hi) (by omega))]
    rfl
/-- names and sorts as sortOfName looks them up -/
def lookS (ns : List ByteArray) (zs : List Int) (nm : ByteArray) : Int × Int := match lastOf nm (ns.zip zs) with
  | some z => (z, 0)
  | none => (0, 4)
theorem lookS_none (ns : List ByteArray) (zs : List Int) (nm : ByteArray) (h : ∀ i (hi : i < ns.length), ns[i] ≠ nm) : lookS ns zs nm = (0, 4) := by
  unfold lookS; rw [lastOf_none nm _ (fun i hi => by simp at hi ⊢; exact h i (by omega))]
theorem lookS_at (ns : List ByteArray) (zs : List Int) (nm : ByteArray) (k : Nat) (hk : k < ns.length) (hz : k < zs.length) (h : ns[k] = nm) (ha : ∀ i (hi : i < ns.length), k < i → ns[i] ≠ nm) : lookS ns zs nm = (zs[k], 0) := by
  unfold lookS; rw [lastOf_at nm _ k (by simp; omega) (by simpa using h) (fun i hi hl => by simp at hi ⊢; exact ha i (by omega) hl)]; simp

structure NSAt (W : World) (B : Nat) (ns : List ByteArray) (zs : List Int) (an am : Option Addr) : Prop where
  len : zs.length = ns.length
  bd : ns.length ≤ 9223372036854775806
  cn : ns = [] ∨ ∃ b o, an = some ⟨b, o, none⟩ ∧ b < B ∧ ∀ i (h : i < ns.length), W.cell? ⟨b, o + i, none⟩ = some (.string ns[i])
  cz : zs = [] ∨ ∃ b o, am = some ⟨b, o, none⟩ ∧ b < B ∧ ∀ i (h : i < zs.length), W.cell? ⟨b, o + i, none⟩ = some (.int .i64 zs[i])
theorem NSAt.keep {W W' : World} {B : Nat} {ns : List ByteArray} {zs : List Int} {an am : Option Addr} (h : NSAt W B ns zs an am) (hb : Below B W W') : NSAt W' B ns zs an am :=
  ⟨h.len, h.bd, h.cn.imp id (fun ⟨b, o, e, hl, hc⟩ => ⟨b, o, e, hl, fun i hi => (hb.cell (p := ⟨b, o + i, none⟩) hl).trans (hc i hi)⟩), h.cz.imp id (fun ⟨b, o, e, hl, hc⟩ => ⟨b, o, e, hl, fun i hi => (hb.cell (p := ⟨b, o + i, none⟩) hl).trans (hc i hi)⟩)⟩
theorem NSAt.mono {W : World} {B B' : Nat} {ns : List ByteArray} {zs : List Int} {an am : Option Addr} (h : NSAt W B ns zs an am) (hB : B ≤ B') : NSAt W B' ns zs an am :=
  ⟨h.len, h.bd, h.cn.imp id (fun ⟨b, o, e, hl, hc⟩ => ⟨b, o, e, by omega, hc⟩), h.cz.imp id (fun ⟨b, o, e, hl, hc⟩ => ⟨b, o, e, by omega, hc⟩)⟩

theorem ba_beq (s t : ByteArray) : (s.toList == t.toList) = decide (s = t) := by
  rw [Bool.eq_iff_iff]; simp
  exact ⟨fun h => ByteArray.ext (Array.toList_inj.1 (by rwa [ByteArray.toList_eq, ByteArray.toList_eq] at h)), fun h => by rw [h]⟩

/-- an operator's Kids, as cells -/
theorem KA.one {W : World} {B d : Nat} {a : Ex} {ao : Option Addr} (h : KA W B d [a] ao) : ∃ d' b o ao' cap', d = d' + 1 ∧ ao = some ⟨b, o, none⟩ ∧ b < B ∧ ExAt W b o a ao' cap' ∧ ExBd a cap' ∧ KA W B d' a.kids ao' := by
  cases d with
  | zero => cases h
  | succ d =>
    rcases h with h | ⟨b, o, rfl, hl, h⟩
    · cases h
    · obtain ⟨ao', cap', h1, h2, h3⟩ := h 0 (by simp)
      exact ⟨d, b, o, ao', cap', rfl, rfl, hl, by simpa using h1, h2, h3⟩
theorem KA.two {W : World} {B d : Nat} {a a2 : Ex} {ao : Option Addr} (h : KA W B d [a, a2] ao) : ∃ d' b o ao' cap' ao2 cap2, d = d' + 1 ∧ ao = some ⟨b, o, none⟩ ∧ b < B ∧ ExAt W b o a ao' cap' ∧ ExBd a cap' ∧ KA W B d' a.kids ao' ∧ ExAt W b (o + 6) a2 ao2 cap2 ∧ ExBd a2 cap2 ∧ KA W B d' a2.kids ao2 := by
  cases d with
  | zero => cases h
  | succ d =>
    rcases h with h | ⟨b, o, rfl, hl, h⟩
    · cases h
    · obtain ⟨ao', cap', h1, h2, h3⟩ := h 0 (by simp)
      obtain ⟨ao2, cap2, k1, k2, k3⟩ := h 1 (by simp)
      exact ⟨d, b, o, ao', cap', ao2, cap2, rfl, rfl, hl, by simpa using h1, h2, h3, by simpa using k1, k2, k3⟩

end Go.Proofs.YtfmegfgmkeicnaaDoor

/-
  How a list of names and a list of sorts are read as data.
-/
namespace Go.Proofs.YtfmegfgmkeicnaaDoor
open Go.RowKit Go.Deep Go.Joins Go.ChangeShapes Go.WideShapes

section
variable {H : Type} {enc : TypeId × Value → H} {W : World} {base : Nat} {spare : Nat → Bool} {held : Bool}
/-- a list of one-cell values lies below block B -/
def NAt (W : World) (B : Nat) (vs : List Value) (an : Option Addr) : Prop := vs = [] ∨ ∃ b o, an = some ⟨b, o, none⟩ ∧ b < B ∧ ∀ i (h : i < vs.length), W.cell? ⟨b, o + i, none⟩ = some vs[i]
theorem cellsSt : Tryd.prog.cellsOf 9 = 1 := by kernel_rfl
theorem cellsIn : Tryd.prog.cellsOf 3 = 1 := by kernel_rfl
set_option maxRecDepth 100000 in
theorem openNames {r : Reach} {b0 : Nat} {v : Value} {d : DataW H} {p : List MemPlace} (hv : Value.okWide Tryd.prog W r b0 22 v) (h : DataW.Trod enc Tryd.prog W base spare held 22 v d p) :
    ∃ (ns : List ByteArray) (an : Option Addr) (cn : Nat), v = .slice an ns.length cn ∧ NAt W W.heap.size (ns.map Value.string) an ∧ (ns = [] ∨ ∃ elems rest, d = .slice elems rest ∧ elems.length = ns.length) := by
  obtain ⟨a0, len, cap, rfl⟩ := okWide_slice Tryd.underlying22 hv
  obtain ⟨fuel, hf⟩ := h
  rcases DataW.trod_slice Tryd.underlying22 hf with ⟨e5, _⟩ | ⟨a, len', cap', elems, rest, k, hk, e5, hx, hb, hlc, hcm, hle, hel, _, _⟩
  · simp [Value.cells] at e5
    obtain ⟨rfl, rfl, rfl⟩ := e5
    exact ⟨[], none, 0, rfl, .inl rfl, .inl rfl⟩
  · simp [Value.cells] at e5
    obtain ⟨rfl, rfl, rfl⟩ := e5
    rw [cellsSt] at hel
    have hall : ∀ i, i < len → ∃ s : ByteArray, W.cells? base (a.add (i * 1)) 1 = some [.string s] := by
      intro i hi
      have q := hel i hi
      rw [List.getElem?_eq_getElem (by omega)] at q
      obtain ⟨cs', q1, q2⟩ := Option.bind_eq_some_iff.1 q
      obtain ⟨s, e1, _, _⟩ := DataW.trod_string Tryd.underlying9 q2
      subst e1
      exact ⟨s, q1⟩
    haveI : Inhabited ByteArray := ⟨⟨#[]⟩⟩
    obtain ⟨f, hf⟩ := choose_lt hall
    refine ⟨(List.range len).map f, some a, cap, by simp, ?_, .inr ⟨elems.map (·.1), rest.map (·.1), (Prod.mk.inj hx).1, by simp [hle]⟩⟩
    by_cases hl0 : len = 0
    · exact .inl (by simp [hl0])
    · have q2 := (World.cells?_some (hf 0 (by omega))).2.2 0 (by omega)
      obtain ⟨b, o, spot⟩ := a
      have hsp : spot = none := by simpa [Addr.add] using World.cell?_spot q2
      subst hsp
      have hcell : ∀ i, i < len → W.cell? ⟨b, o + i, none⟩ = some (Value.string (f i)) := by
        intro i hi
        have := (World.cells?_some (hf i hi)).2.2 0 (by omega)
        rw [add_add, Go.WideShapes.add_plain] at this
        simpa using this
      refine .inr ⟨b, o, rfl, lt_of_cell ((hcell 0 (by omega)).trans rfl), fun i hi => ?_⟩
      have hi' : i < len := by simpa using hi
      rw [hcell i hi']
      simp
theorem ns_of {B : Nat} {ns : List ByteArray} {zs : List Int} {an am : Option Addr} (h1 : NAt W B (ns.map Value.string) an) (h2 : NAt W B (zs.map (Value.int .i64)) am) (hl : zs.length = ns.length) (hb : ns.length ≤ 9223372036854775806) : NSAt W B ns zs an am := by
  refine ⟨hl, hb, ?_, ?_⟩
  · rcases h1 with h | ⟨b, o, e, hlt, hc⟩
    · exact .inl (by simpa using h)
    · exact .inr ⟨b, o, e, hlt, fun i hi => by have := hc i (by simpa using hi); simpa using this⟩
  · rcases h2 with h | ⟨b, o, e, hlt, hc⟩
    · exact .inl (by simpa using h)
    · exact .inr ⟨b, o, e, hlt, fun i hi => by have := hc i (by simpa using hi); simpa using this⟩
end
end Go.Proofs.YtfmegfgmkeicnaaDoor
