/-
  The contract of values.Length, for every value; utf8.ValidString's contract is a hypothesis here.
-/
import Derived.Test.YtclbillfffpknaaGreatDoorNa
import Derived.Test.YtclbillfffpknaaGreatDoorBu
import Derived.Test.YtclbillfffpknaaGreatDoorUb
import Derived.Lib.OwnBridge
namespace Go.Proofs.YtclbillfffpknaaGreatDoor
open Go.RowKit Go.Shelf
variable (V : ByteArray → Bool) (Tabs : World → Prop)

theorem count_any (s : ByteArray) (w : World) (hs : s.size < 9223372036854775807) :
    Calls Tryz.prog 74 #[.string s] w fun e w' => e = .returned (.int .i64 (Lib.runeCount s)) ∧ Below w.heap.size w w' :=
  (Any.utf8_RuneCountInString Tryz.lays195 s w hs).mono (by
    rintro e w' ⟨rfl, pos, rfl⟩
    exact ⟨rfl, (Below.refl _ _).alloc (Nat.le_refl _) _⟩)

/-- what values.Length tells of a value that may be any -/
def lenZ (V : ByteArray → Bool) (so n : Int) (s : ByteArray) : Int := if needZ1 V so n s = 0 then (Lib.runeCount s : Int) else 0

set_option maxHeartbeats 400000 in
theorem length_any (hV : VSaid V Tabs) (hK : ∀ w w', Tabs w → Below w.heap.size w w' → Tabs w') (so n : Int) (s : ByteArray) (w : World) (hs : s.size < 9223372036854775807) (hT : Tabs w) :
    Calls Tryz.prog 58 #[.agg #[.int .i64 so, .int .i64 n, .string s]] w fun e w' => e = .returned (.tuple #[.int .i64 (lenZ V so n s), .int .i64 (needZ1 V so n s)]) ∧ Below w.heap.size w w' := by
  have hT2 : Tabs ((w.alloc (Obj.cells #[Value.int IntKind.i64 so, Value.int IntKind.i64 n, Value.string s] 23)).alloc (Obj.cells #[Value.int IntKind.i64 so, Value.int IntKind.i64 n, Value.string s] 23)) :=
    hK _ _ hT (((Below.refl _ _).alloc (Nat.le_refl _) _).alloc (by simp) _)
  have cN := fun (B : Nat) (W : World) => need1_any V Tabs hV hK so n s B W (by omega)
  unfold lenZ
  generalize needZ1 V so n s = z at cN ⊢
  have cC := count_any s
  generalize Lib.runeCount s = k at cC ⊢
  have CN : Hid (∀ (B : Nat) (W : World), Tabs W → B < W.heap.size → W.cell? ⟨B, 0, none⟩ = some (.int .i64 so) → W.cell? ⟨B, 1, none⟩ = some (.int .i64 n) → W.cell? ⟨B, 2, none⟩ = some (.string s) → Calls Tryz.prog 73 #[.slice (some ⟨B, 0, none⟩) 1 1] W fun e w' => e = .returned (.int .i64 z) ∧ Below W.heap.size W w') := cN
  have CC : Hid (∀ (W : World), s.size < 9223372036854775807 → Calls Tryz.prog 74 #[.string s] W fun e w' => e = .returned (.int .i64 k) ∧ Below W.heap.size W w') := cC
  clear hV hK hT cN cC
  go_enter Tryz.func58, Tryz.ntmps58
  go_wp2_with fail
  refine (CN.out _ _ hT2 (by simp) (by go_cell) (by go_cell) (by go_cell)).mono ?_
  rintro e w1 ⟨rfl, hb1⟩
  have hbw : Below w.heap.size w w1 := (((Below.refl w.heap.size w).alloc (Nat.le_refl _) _).alloc (by simp) _).trans (hb1.mono (by simp; omega))
  have a2 : w1.cell? ⟨w.heap.size, 2, none⟩ = some (.string s) := (hb1.cell (p := ⟨w.heap.size, 2, none⟩) (by simp; omega)).trans (by go_cell)
  clear hb1 hT2 CN
  by_cases hz : z = 0
  · subst hz
    go_wp2_with (go_at_call 74; go_must (refine (CC.out _ hs).mono ?_; rintro e w2 ⟨rfl, hb2⟩))
    go_ret2
    exact ⟨rfl, hbw.trans (hb2.mono hbw.size)⟩
  · have hzb : (z != 0) = true := by simpa using hz
    go_wp2
    go_ret2
    exact ⟨rfl, hbw⟩
end Go.Proofs.YtclbillfffpknaaGreatDoor
