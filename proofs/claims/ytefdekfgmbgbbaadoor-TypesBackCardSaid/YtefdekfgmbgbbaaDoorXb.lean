/-
  Plain: a value and an expression as data.
-/
import Derived.WalkKit
import Derived.Test.YtefdekfgmbgbbaaDoorProg
import Derived.Handy
import Derived.Deep.Slices
import Derived.Lib.SmallJoins
import Derived.OpenShut
namespace Go.Proofs.YtefdekfgmbgbbaaDoor

structure Vl where
  so : Int
  n : Int
  s : ByteArray
structure Ex where
  kind : Int
  name : ByteArray
  so : Int
  n : Int
  s : ByteArray
  kids : List Ex
end Go.Proofs.YtefdekfgmbgbbaaDoor
/-
  How an expression lies in memory, that it stays so where nothing old is turned, and that every expression that is handed in lies so.
-/
namespace Go.Proofs.YtefdekfgmbgbbaaDoor
open Go.RowKit Go.Deep Go.Joins Go.ChangeShapes Go.WideShapes

/-- the six cells of an expression -/
structure ExAt (W : World) (b o : Nat) (x : Ex) (ao : Option Addr) (cap : Nat) : Prop where
  c0 : W.cell? ⟨b, o, none⟩ = some (.int .i64 x.kind)
  c1 : W.cell? ⟨b, o + 1, none⟩ = some (.string x.name)
  c2 : W.cell? ⟨b, o + 2, none⟩ = some (.int .i64 x.so)
  c3 : W.cell? ⟨b, o + 3, none⟩ = some (.int .i64 x.n)
  c4 : W.cell? ⟨b, o + 4, none⟩ = some (.string x.s)
  c5 : W.cell? ⟨b, o + 5, none⟩ = some (.slice ao x.kids.length cap)
/-- what fits into a word -/
structure ExBd (x : Ex) (cap : Nat) : Prop where
  name : x.name.size ≤ 9223372036854775807
  s : x.s.size ≤ 9223372036854775807
  n0 : -9223372036854775808 ≤ x.n
  n1 : x.n ≤ 9223372036854775807
  kids : x.kids.length ≤ cap
  cap : cap ≤ 9223372036854775807

/-- a list of expressions, of so many levels at most, lies below block B -/
def KA (W : World) (B : Nat) : Nat → List Ex → Option Addr → Prop
  | 0, ks, _ => ks = []
  | d + 1, ks, ao => ks = [] ∨ ∃ b o, ao = some ⟨b, o, none⟩ ∧ b < B ∧ ∀ i (h : i < ks.length), ∃ ao' cap', ExAt W b (o + i * 6) ks[i] ao' cap' ∧ ExBd ks[i] cap' ∧ KA W B d ks[i].kids ao'

theorem ExAt.keep {W W' : World} {B b o : Nat} {x : Ex} {ao : Option Addr} {cap : Nat} (h : ExAt W b o x ao cap) (hb : Below B W W') (hl : b < B) : ExAt W' b o x ao cap :=
  ⟨(hb.cell (p := ⟨b, o, none⟩) hl).trans h.c0, (hb.cell (p := ⟨b, o + 1, none⟩) hl).trans h.c1, (hb.cell (p := ⟨b, o + 2, none⟩) hl).trans h.c2, (hb.cell (p := ⟨b, o + 3, none⟩) hl).trans h.c3, (hb.cell (p := ⟨b, o + 4, none⟩) hl).trans h.c4, (hb.cell (p := ⟨b, o + 5, none⟩) hl).trans h.c5⟩
theorem KA.keep {W W' : World} {B : Nat} (hb : Below B W W') : ∀ {d : Nat} {ks : List Ex} {ao : Option Addr}, KA W B d ks ao → KA W' B d ks ao
  | 0, _, _, h => h
  | d + 1, ks, ao, h => by
    rcases h with h | ⟨b, o, rfl, hl, h⟩
    · exact .inl h
    · exact .inr ⟨b, o, rfl, hl, fun i hi => by
        obtain ⟨ao', cap', h1, h2, h3⟩ := h i hi
        exact ⟨ao', cap', h1.keep hb hl, h2, KA.keep hb h3⟩⟩
theorem KA.mono {W : World} {B B' : Nat} (hB : B ≤ B') : ∀ {d : Nat} {ks : List Ex} {ao : Option Addr}, KA W B d ks ao → KA W B' d ks ao
  | 0, _, _, h => h
  | d + 1, ks, ao, h => by
    rcases h with h | ⟨b, o, rfl, hl, h⟩
    · exact .inl h
    · exact .inr ⟨b, o, rfl, by omega, fun i hi => by
        obtain ⟨ao', cap', h1, h2, h3⟩ := h i hi
        exact ⟨ao', cap', h1, h2, KA.mono hB h3⟩⟩
theorem KA.up {W : World} {B : Nat} : ∀ {d e : Nat} {ks : List Ex} {ao : Option Addr}, d ≤ e → KA W B d ks ao → KA W B e ks ao
  | 0, 0, _, _, _, h => h
  | 0, e + 1, _, _, _, h => .inl h
  | d + 1, 0, _, _, hd, _ => by omega
  | d + 1, e + 1, ks, ao, hd, h => by
    rcases h with h | ⟨b, o, rfl, hl, h⟩
    · exact .inl h
    · exact .inr ⟨b, o, rfl, hl, fun i hi => by
        obtain ⟨ao', cap', h1, h2, h3⟩ := h i hi
        exact ⟨ao', cap', h1, h2, KA.up (by omega) h3⟩⟩
theorem lt_of_cell {W : World} {b o : Nat} {v : Value} (h : W.cell? ⟨b, o, none⟩ = some v) : b < W.heap.size := by
  unfold World.cell? at h
  apply Classical.byContradiction
  intro hn
  have : W.heap[b]? = none := by simp; omega
  simp [this] at h
theorem KA.low {W : World} {B : Nat} : ∀ {d : Nat} {ks : List Ex} {ao : Option Addr}, KA W B d ks ao → KA W W.heap.size d ks ao
  | 0, _, _, h => h
  | d + 1, ks, ao, h => by
    rcases h with h | ⟨b, o, rfl, hl, h⟩
    · exact .inl h
    · by_cases hk : ks = []
      · exact .inl hk
      · have hp : 0 < ks.length := List.length_pos_iff.2 hk
        obtain ⟨_, _, h1, _, _⟩ := h 0 hp
        exact .inr ⟨b, o, rfl, lt_of_cell h1.c0, fun i hi => by
          obtain ⟨ao', cap', h1, h2, h3⟩ := h i hi
          exact ⟨ao', cap', h1, h2, KA.low h3⟩⟩

/-- an expression as a value -/
def exVal (x : Ex) (ao : Option Addr) (cap : Nat) : Value := .agg #[.int .i64 x.kind, .string x.name, .int .i64 x.so, .int .i64 x.n, .string x.s, .slice ao x.kids.length cap]

section
variable {H : Type} {enc : TypeId × Value → H} {W : World} {base : Nat} {spare : Nat → Bool} {held : Bool}
end
end Go.Proofs.YtefdekfgmbgbbaaDoor
