/-
  The contract of values.Length, for every value; utf8.ValidString's contract is a hypothesis here.
-/
import Derived.Test.YtefdekfgmbgbbaaDoorNa
import Derived.Test.YtefdekfgmbgbbaaDoorBu
import Derived.Test.YtefdekfgmbgbbaaDoorUb
import Derived.Lib.OwnBridge
import Derived.BigCall
import Derived.Deep.QuietTactic
import Derived.BigQuiet
namespace Go.Proofs.YtefdekfgmbgbbaaDoor
open Go.RowKit Go.Shelf
variable (V : ByteArray → Bool) (Tabs : World → Prop)

theorem count_any (s : ByteArray) (w : World) (hs : s.size < 9223372036854775807) :
    Calls Tryd.prog 63 #[.string s] w fun e w' => e = .returned (.int .i64 (Lib.runeCount s)) ∧ Below w.heap.size w w' :=
  (Any.utf8_RuneCountInString Tryd.lays195 s w hs).mono (by
    rintro e w' ⟨rfl, pos, rfl⟩
    exact ⟨rfl, (Below.refl _ _).alloc (Nat.le_refl _) _⟩)

/-- what values.Length tells of a value that may be any -/
def lenZ (V : ByteArray → Bool) (so n : Int) (s : ByteArray) : Int := if needZ1 V so n s = 0 then (Lib.runeCount s : Int) else 0

end Go.Proofs.YtefdekfgmbgbbaaDoor
/-
  The contract of values.Joined, for every two values; utf8.ValidString's contract is a hypothesis here.
-/
namespace Go.Proofs.YtefdekfgmbgbbaaDoor
open Go.RowKit Go.Shelf
variable (V : ByteArray → Bool) (Tabs : World → Prop)

/-- what function number 14 rests on -/
theorem extra169 : Builder.Extra Tryd.prog Tryd.lays169_ren := {
  sizeBuilder := by kernel_rfl
  liesBuilder := by kernel_rfl
  t5 := Tryd.underlying5
  a5 := Tryd.isAgg5
  z5 := Tryd.sizeOf5
  v5 := Tryd.zeroValue5
  infoByte := by kernel_rfl
  cellsByte := by kernel_rfl
  sizeByte := by kernel_rfl
  neB5 := by decide }

theorem string_any (B b : Nat) (l : List UInt8) (w : World) (h : Lib.IsBuilderF 45 5 B b (Lib.byteCells l) w) (hBw : B ≤ w.heap.size) :
    Calls Tryd.prog 14 #[.pointer (some ⟨b, 0, none⟩)] w fun e w' => e = .returned (.string ⟨l.toArray⟩) ∧ (Lib.IsBuilderF 45 5 B b (Lib.byteCells l) w' ∧ Below B w w' ∧ Lib.OthersKept 5 (some b) w w') :=
  Any.Builder_String_any_k Tryd.lays169 extra169 B b l w h hBw
theorem len_any (B b : Nat) (bs : List Value) (w : World) (h : Lib.IsBuilderF 45 5 B b bs w) :
    Calls Tryd.prog 25 #[.pointer (some ⟨b, 0, none⟩)] w fun e w' => e = .returned (.int .i64 bs.length) ∧ w' = w :=
  Any.Builder_Len_f Tryd.lays170 B b bs w h
end Go.Proofs.YtefdekfgmbgbbaaDoor

/-
  A value in a block of its own, carried from world to world; what the calls of values.Length and values.Joined say.
-/
namespace Go.Proofs.YtefdekfgmbgbbaaDoor
open Go.RowKit Go.Shelf
variable (Tabs : World → Prop)

/-- a value in a block of its own -/
structure Box (W : World) (b : Nat) (so n : Int) (s : ByteArray) : Prop where
  lt : b < W.heap.size
  c0 : W.cell? ⟨b, 0, none⟩ = some (.int .i64 so)
  c1 : W.cell? ⟨b, 1, none⟩ = some (.int .i64 n)
  c2 : W.cell? ⟨b, 2, none⟩ = some (.string s)
theorem Box.keep {W W' : World} {b : Nat} {so n : Int} {s : ByteArray} (h : Box W b so n s) (hb : Below W.heap.size W W') : Box W' b so n s :=
  ⟨Nat.lt_of_lt_of_le h.lt hb.size, (hb.cell (p := ⟨b, 0, none⟩) h.lt).trans h.c0, (hb.cell (p := ⟨b, 1, none⟩) h.lt).trans h.c1, (hb.cell (p := ⟨b, 2, none⟩) h.lt).trans h.c2⟩
theorem Box.al {W : World} {b : Nat} {so n : Int} {s : ByteArray} (h : Box W b so n s) (o : Obj) : Box (W.alloc o) b so n s := h.keep ((Below.refl _ _).alloc (Nat.le_refl _) o)
theorem Box.new (W : World) (so n : Int) (s : ByteArray) (t : TypeId) : Box (W.alloc (.cells #[.int .i64 so, .int .i64 n, .string s] t)) W.heap.size so n s :=
  ⟨by simp, by go_cell, by go_cell, by go_cell⟩
theorem Box.facts {W : World} {b : Nat} {so n : Int} {s : ByteArray} (h : Box W b so n s) : (W.cell? ⟨b, 0, none⟩ = some (.int .i64 so) ∧ W.cell? ⟨b, 1, none⟩ = some (.int .i64 n) ∧ W.cell? ⟨b, 2, none⟩ = some (.string s)) ∧ (∀ o, (W.alloc o).cell? ⟨b, 0, none⟩ = some (.int .i64 so)) ∧ (∀ o, (W.alloc o).cell? ⟨b, 1, none⟩ = some (.int .i64 n)) ∧ (∀ o, (W.alloc o).cell? ⟨b, 2, none⟩ = some (.string s)) :=
  ⟨⟨h.c0, h.c1, h.c2⟩, fun o => (h.al o).c0, fun o => (h.al o).c1, fun o => (h.al o).c2⟩

theorem below_dn {B : Nat} {a w : World} (h : Below B a w) : ∀ q, Below B a (w.drewN q)
  | 0 => h
  | q + 1 => (below_dn h q).drew
end Go.Proofs.YtefdekfgmbgbbaaDoor
