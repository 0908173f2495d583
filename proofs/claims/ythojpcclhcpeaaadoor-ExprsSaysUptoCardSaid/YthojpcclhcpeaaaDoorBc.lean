/-
  The contract of duetbig.add, for every two lists of at most 1000 words.
-/
import Derived.Test.YthojpcclhcpeaaaDoorBb
namespace Go.Proofs.YthojpcclhcpeaaaDoor
open Go.RowKit

theorem getD_set_self (rs : List Nat) (k y : Nat) (h : k < rs.length) : (rs.set k y).getD k 0 = y := by simp [List.getD, h]
theorem val_take_succ (ws : List Nat) (k : Nat) (h : k < ws.length) : val (ws.take (k + 1)) = val (ws.take k) + 4294967296 ^ k * ws.getD k 0 := by
  rw [List.take_succ_eq_append_getElem h, val_append, List.length_take, Nat.min_eq_left (by omega), List.getD, List.getElem?_eq_getElem h]
  simp [val]
theorem val_take_over (ws : List Nat) (k : Nat) (h : ws.length ≤ k) : val (ws.take (k + 1)) = val (ws.take k) := by
  rw [List.take_of_length_le (by omega), List.take_of_length_le h]
theorem take_set_same (rs : List Nat) (k y : Nat) : (rs.set k y).take k = rs.take k := by
  rw [List.take_set, List.set_eq_of_length_le]
  rw [List.length_take]; omega
theorem small_set {rs : List Nat} (h : Small rs) (k y : Nat) (hy : y < 4294967296) : Small (rs.set k y) := by
  intro z hz
  rcases List.mem_or_eq_of_mem_set hz with h' | rfl
  · exact h z h'
  · exact hy
theorem small_rep (n : Nat) : Small (List.replicate n 0) := by intro y hy; simp at hy; omega
/-- one step of a sum: what is kept and what goes on -/
theorem carry_step (T c p P A B : Nat) (a b : Nat) (hT : c + a + b = T) (h : P + p * c = A + B) : (P + p * (T % 4294967296)) + p * 4294967296 * (T / 4294967296) = (A + p * a) + (B + p * b) := by
  have e : p * (T % 4294967296) + p * 4294967296 * (T / 4294967296) = p * T := by
    rw [Nat.mul_assoc, ← Nat.mul_add]
    congr 1
    omega
  have e2 : p * T = p * c + p * a + p * b := by rw [← hT, Nat.mul_add, Nat.mul_add]
  omega

end Go.Proofs.YthojpcclhcpeaaaDoor
