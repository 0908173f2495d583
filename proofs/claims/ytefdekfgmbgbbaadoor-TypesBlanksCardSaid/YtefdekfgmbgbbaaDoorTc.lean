/-
  TypesBlanks: the walk through the law, for every type and every number.
-/
import Derived.Test.YtefdekfgmbgbbaaDoorTa
import Derived.Test.YtefdekfgmbgbbaaDoorTb
import Derived.Test.YtefdekfgmbgbbaaDoorLie
namespace Go.Proofs.YtefdekfgmbgbbaaDoor
open Go.RowKit Go.Shelf
theorem extra105 : Builder.Extra Tryd.prog Tryd.lays105_ren := {
  sizeBuilder := by kernel_rfl
  liesBuilder := by kernel_rfl
  t5 := Tryd.underlying5
  a5 := Tryd.isAgg5
  z5 := Tryd.sizeOf5
  v5 := Tryd.zeroValue5
  infoByte := by kernel_rfl
  cellsByte := by kernel_rfl
  sizeByte := by kernel_rfl
  neB5 := by decide }
theorem extra155 : Builder.Extra Tryd.prog Tryd.lays155_ren := {
  sizeBuilder := by kernel_rfl
  liesBuilder := by kernel_rfl
  t5 := Tryd.underlying5
  a5 := Tryd.isAgg5
  z5 := Tryd.sizeOf5
  v5 := Tryd.zeroValue5
  infoByte := by kernel_rfl
  cellsByte := by kernel_rfl
  sizeByte := by kernel_rfl
  neB5 := by decide }
/-- a cell that holds the length that a search of the library's asks for -/
def MaxC (w : World) : Prop := ∃ m, w.cell? ⟨Tryd.lays155_ren.g 1, 0, none⟩ = some (.int .i64 m)
theorem MaxC.keep {w w' : World} (h : MaxC w) (hb : Below w.heap.size w w') : MaxC w' := h.imp fun _ hm => (hb.cell (p := ⟨Tryd.lays155_ren.g 1, 0, none⟩) (lt_of_cell hm)).trans hm
theorem repLen (k : Nat) : Lib.repeatL [32] k = List.replicate k 32 := by
  induction k with
  | zero => rfl
  | succ k ih => rw [Lib.repeatL, ih]; rfl
theorem repeat_any (k : Nat) (w : World) (hk : k ≤ 3) :
    Calls Tryd.prog 9 #[.string ⟨#[32]⟩, .int .i64 (k : Int)] w fun e w' => e = .returned (.string (bs (List.replicate k 32))) ∧ Below w.heap.size w w' := by
  have c := Any.strings_Repeat Tryd.lays105 extra105 ⟨#[32]⟩ k w (by omega) (by show 1 * k ≤ _; omega)
  refine c.mono fun e w' ⟨h1, h2⟩ => ⟨?_, h2⟩
  rw [h1]
  show Ending.returned (Value.string ⟨(Lib.repeatL [32] k).toArray⟩) = _
  rw [repLen]
  rfl
theorem replace_any (s : List UInt8) (c : UInt8) (k : Nat) (w : World) (hk : 1 ≤ k) (hk3 : k ≤ 3) (hs : s.length ≤ 100000) (hm : MaxC w) :
    Calls Tryd.prog 11 #[.string (bs s), .string ⟨#[c]⟩, .string (bs (wide k c))] w fun e w' => e = .returned (.string (bs (s.flatMap (inPl c (wide k c))))) ∧ Below w.heap.size w w' := by
  obtain ⟨m, hm⟩ := hm
  have hcnt : Lib.countB (bs s) ⟨#[c]⟩ ≤ s.length := by
    show Lib.count (bs s).data.toList [c] ≤ _
    rw [Lib.count_one, bs_list]
    exact List.count_le_length
  have hw : (bs (wide k c)).size ≤ 7 := by rw [bs_size]; simp [wide]; omega
  have c := Any.strings_ReplaceAll Tryd.lays155 extra155 (bs s) ⟨#[c]⟩ (bs (wide k c)) m w (by rw [bs_size]; omega) hm (Nat.le_refl _) (by
    have h7 := Nat.mul_le_mul hcnt hw
    rw [show (bs s).size = s.length from bs_size s]
    omega)
  refine c.mono fun e w' ⟨h1, h2⟩ => ⟨?_, h2⟩
  rw [h1, bs_list, bs_list]
  show Ending.returned (Value.string ⟨(Lib.replaceAll s [_] _).toArray⟩) = _
  rw [repAll_one _ _ _ (wide_ne k _ hk)]
  rfl
/-- which of three things a number speaks of -/
def pk3 (n : Int) : Nat := (if n < 0 then -(n + 1) else n).toNat % 3
set_option maxHeartbeats 400000 in
theorem pick_any (n : Int) (w : World) (h0 : -9223372036854775808 ≤ n) (h1 : n ≤ 9223372036854775807) :
    Calls Tryd.prog 10 #[.int .i64 n, .int .i64 3] w fun e w' => e = .returned (.int .i64 (pk3 n : Int)) ∧ w' = w := by
  by_cases hn : n < 0
  · have ew : IntKind.i64.wrap (n + 1) = n + 1 := by unfold IntKind.wrap; simp [IntKind.bits, IntKind.signed]; omega
    have en : IntKind.i64.wrap (-(n + 1)) = -(n + 1) := by unfold IntKind.wrap; simp [IntKind.bits, IntKind.signed]; omega
    have er : -((n + 1).tmod 3) = (pk3 n : Int) := by
      unfold pk3
      rw [if_pos hn, ← Int.neg_tmod, Int.tmod_eq_emod_of_nonneg (by omega)]
      omega
    generalize pk3 n = K at er ⊢
    have HR := hideK er
    clear er
    go_enter Tryd.func10, Tryd.ntmps10
    go_wp2_with fail
    go_ret
    exact ⟨by rw [← HR.out]; rfl, rfl⟩
  · have er : n % 3 = (pk3 n : Int) := by
      unfold pk3
      rw [if_neg hn]
      omega
    generalize pk3 n = K at er ⊢
    have HR := hideK er
    clear er
    go_enter Tryd.func10, Tryd.ntmps10
    go_wp2_with fail
    go_ret
    exact ⟨by rw [← HR.out]; rfl, rfl⟩
theorem pk3_lt (n : Int) : pk3 n < 3 := Nat.mod_lt _ (by omega)
end Go.Proofs.YtefdekfgmbgbbaaDoor
