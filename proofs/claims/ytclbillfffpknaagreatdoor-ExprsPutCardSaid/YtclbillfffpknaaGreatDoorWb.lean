/-
  The contract of values.Order, for every two values: what it tells, and that nothing old has turned; utf8.ValidString's and strings.Compare's contracts are hypotheses here.
-/
import Derived.Test.YtclbillfffpknaaGreatDoorWa
import Derived.Deep.RegionHeld3
import Derived.Deep.DeepFit
import Derived.Lib.Bytealg
namespace Go.Proofs.YtclbillfffpknaaGreatDoor
open Go.RowKit
variable (V : ByteArray → Bool) (Tabs : World → Prop)
def CSaid : Prop := ∀ (a b : ByteArray) (w : World), Calls Tryz.prog 87 #[.string a, .string b] w fun e w' => e = .returned (.int .i64 (Lib.compareBytes a.data.toList b.data.toList)) ∧ w' = w

/-- what values.Order tells -/
def ordZ (so n : Int) (s : ByteArray) (so' n' : Int) (s' : ByteArray) : Int := firstNZ [cmpZ so so', cmpZ n n', Lib.compareBytes s.data.toList s'.data.toList]

set_option maxHeartbeats 400000 in
theorem order_any (hV : VSaid V Tabs) (hK : ∀ w w', Tabs w → Below w.heap.size w w' → Tabs w') (hC : CSaid) (so n so' n' : Int) (s s' : ByteArray) (w : World) (hs : s.size ≤ 9223372036854775807) (hs' : s'.size ≤ 9223372036854775807) (hT : Tabs w) :
    Calls Tryz.prog 75 #[.agg #[.int .i64 so, .int .i64 n, .string s], .agg #[.int .i64 so', .int .i64 n', .string s']] w fun e w' =>
      e = .returned (.tuple #[.int .i64 (if firstNZ [chkZ V so n s, chkZ V so' n' s'] = 0 then ordZ so n s so' n' s' else 0), .int .i64 (firstNZ [chkZ V so n s, chkZ V so' n' s'])]) ∧ Below w.heap.size w w' := by
  have cA := fun (B : Nat) (W : World) => checkAll2_any V Tabs hV hK so n so' n' s s' B W hs hs'
  generalize firstNZ [chkZ V so n s, chkZ V so' n' s'] = zc at cA ⊢
  have CA : Hid (∀ (B : Nat) (W : World), Tabs W → B < W.heap.size → W.cell? ⟨B, 0, none⟩ = some (.int .i64 so) → W.cell? ⟨B, 1, none⟩ = some (.int .i64 n) → W.cell? ⟨B, 2, none⟩ = some (.string s) → W.cell? ⟨B, 3, none⟩ = some (.int .i64 so') → W.cell? ⟨B, 4, none⟩ = some (.int .i64 n') → W.cell? ⟨B, 5, none⟩ = some (.string s') → Calls Tryz.prog 83 #[.slice (some ⟨B, 0, none⟩) 2 2] W fun e w' => e = .returned (.int .i64 zc) ∧ Below W.heap.size W w') := cA
  clear cA
  have hT3 : Tabs (((w.alloc (Obj.cells #[Value.int IntKind.i64 so, Value.int IntKind.i64 n, Value.string s] 23)).alloc
        (Obj.cells #[Value.int IntKind.i64 so', Value.int IntKind.i64 n', Value.string s'] 23)).alloc
    (Obj.cells
      #[Value.int IntKind.i64 so, Value.int IntKind.i64 n, Value.string s, Value.int IntKind.i64 so',
        Value.int IntKind.i64 n', Value.string s']
      23)) := hK _ _ hT ((((Below.refl _ _).alloc (Nat.le_refl _) _).alloc (by simp) _).alloc (by simp; omega) _)
  have cS := hC s s'
  unfold ordZ
  have c33 := cmp_any so so'
  have c34 := cmp64_any n n'
  generalize cmpZ so so' = x at c33 ⊢
  generalize cmpZ n n' = y at c34 ⊢
  generalize Lib.compareBytes s.data.toList s'.data.toList = z at cS ⊢
  have C33 : Hid (∀ (W : World), Calls Tryz.prog 85 #[.int .i64 so, .int .i64 so'] W fun e w' => e = .returned (.int .i64 x) ∧ w' = W) := c33
  have C34 : Hid (∀ (W : World), Calls Tryz.prog 86 #[.int .i64 n, .int .i64 n'] W fun e w' => e = .returned (.int .i64 y) ∧ w' = W) := c34
  have C35 : Hid (∀ (W : World), Calls Tryz.prog 87 #[.string s, .string s'] W fun e w' => e = .returned (.int .i64 z) ∧ w' = W) := cS
  clear c33 c34 cS hC
  clear hV hK hT
  go_enter Tryz.func75, Tryz.ntmps75
  go_wp2_with fail
  refine (CA.out _ _ hT3 (by simp) (by go_cell) (by go_cell) (by go_cell) (by go_cell) (by go_cell) (by go_cell)).mono ?_
  rintro e w1 ⟨rfl, hb1⟩
  have hbw : Below w.heap.size w w1 := ((((Below.refl w.heap.size w).alloc (Nat.le_refl _) _).alloc (by simp) _).alloc (by simp; omega) _).trans (hb1.mono (by simp; omega))
  obtain ⟨hc, hf⟩ := bcell hb1
  clear hf CA hT3
  have a0 : w1.cell? ⟨w.heap.size, 0, none⟩ = some (.int .i64 so) := (hc _ 0 (by simp; omega)).trans (by go_cell)
  have a1 : w1.cell? ⟨w.heap.size, 1, none⟩ = some (.int .i64 n) := (hc _ 1 (by simp; omega)).trans (by go_cell)
  have a2 : w1.cell? ⟨w.heap.size, 2, none⟩ = some (.string s) := (hc _ 2 (by simp; omega)).trans (by go_cell)
  have b0 : w1.cell? ⟨w.heap.size + 1, 0, none⟩ = some (.int .i64 so') := (hc _ 0 (by simp)).trans (by go_cell)
  have b1 : w1.cell? ⟨w.heap.size + 1, 1, none⟩ = some (.int .i64 n') := (hc _ 1 (by simp)).trans (by go_cell)
  have b2 : w1.cell? ⟨w.heap.size + 1, 2, none⟩ = some (.string s') := (hc _ 2 (by simp)).trans (by go_cell)
  clear hc hb1
  by_cases hz : zc = 0
  · subst hz
    go_wp2_with fail
    go_region_held3 (fun w' => w'.cell? ⟨w.heap.size, 0, none⟩ = some (.int .i64 so) ∧ w'.cell? ⟨w.heap.size, 1, none⟩ = some (.int .i64 n) ∧ w'.cell? ⟨w.heap.size, 2, none⟩ = some (.string s) ∧ w'.cell? ⟨w.heap.size + 1, 0, none⟩ = some (.int .i64 so') ∧ w'.cell? ⟨w.heap.size + 1, 1, none⟩ = some (.int .i64 n') ∧ w'.cell? ⟨w.heap.size + 1, 2, none⟩ = some (.string s')) (go_keep) (first
      | (go_at_call 85; go_must (refine (C33.out _).mono ?_; rintro e w' ⟨rfl, rfl⟩))
      | (go_at_call 86; go_must (refine (C34.out _).mono ?_; rintro e w' ⟨rfl, rfl⟩))
      | (go_at_call 87; go_must (refine (C35.out _).mono ?_; rintro e w' ⟨rfl, rfl⟩))
      | (go_at_call 84; go_must (refine (or_any x y z _ _ (by go_cell) (by go_cell) (by go_cell)).mono ?_; rintro e w' ⟨rfl, rfl⟩)))
    go_wp2
    go_ret2
    refine ⟨rfl, ?_⟩
    have hsz := hbw.size
    go_grown
  · have hzb : (zc != 0) = true := by simpa using hz
    go_wp2
    go_ret2
    exact ⟨rfl, hbw⟩
end Go.Proofs.YtclbillfffpknaaGreatDoor
