/-
  The contract of what pieces.Caught defers: a fault that is thrown is caught.
-/
import Derived.Test.YtfmegfgmkeicnaaDoorKl
import Derived.Defers
import Derived.Recover
namespace Go.Proofs.YtfmegfgmkeicnaaDoor
open Go.RowKit Go.Shelf
def faultE (c : Int) (a : Int) : List PanicEntry := [{ v := .iface 30 (.agg #[.int .i64 c, .int .i64 a]), recovered := false }]

set_option maxRecDepth 100000 in
theorem catch_thrown (p : Nat) (c a c0 a0 : Int) (older : List PanicEntry) (w : World) (h0 : w.cell? ⟨p, 0, none⟩ = some (.int .i64 c0)) (h1 : w.cell? ⟨p, 1, none⟩ = some (.int .i64 a0)) (f0 : w.frozen? ⟨p, 0, none⟩ = false) (f1 : w.frozen? ⟨p, 1, none⟩ = false) :
    CallsD Tryd.prog 93 #[.pointer (some ⟨p, 0, none⟩)] (.panicking ({ v := .iface 30 (.agg #[.int .i64 c, .int .i64 a]), recovered := false } :: older)) w fun e u' w' =>
      e = .returned (.tuple #[]) ∧ u' = .panicking ({ v := .iface 30 (.agg #[.int .i64 c, .int .i64 a]), recovered := true } :: older) ∧ w' = (w.setCell ⟨p, 0, none⟩ (.int .i64 c)).setCell ⟨p, 1, none⟩ (.int .i64 a) := by
  have hta : ∀ w1 : World, (Instr.typeAssert (.iface 30 (.agg #[.int .i64 c, .int .i64 a])) 20 30 false).run Tryd.prog w1 = .ok (.agg #[.int .i64 c, .int .i64 a]) w1 := fun _ => by kernel_rfl
  refine callsD_of_wpS Tryd.func93 rfl fun c₀ cs hu => ?_
  apply wpS_seq
  apply wpS_region
  simp [wpOpsS, go_sem, recoverD, hu, Tryd.ntmps93, Exit.thenS]
  refine wpS_of_wp ?_
  change Code.wp _ _ _ { tmps := #[.pointer (some ⟨p, 0, none⟩), .iface 30 (.agg #[.int .i64 c, .int .i64 a]), .iface 30 (.agg #[.int .i64 c, .int .i64 a]), undef, undef, undef, undef], defers := [] } w
  go_wp2_with fail
  exact ⟨rfl, _, rfl, .tuple #[], by simp [results, Tryd.results93, go_sem], rfl, rfl, rfl⟩
set_option maxRecDepth 100000 in
theorem catch_none (p : Nat) (w : World) :
    CallsD Tryd.prog 93 #[.pointer (some ⟨p, 0, none⟩)] .returning w fun e u' w' => e = .returned (.tuple #[]) ∧ u' = .returning ∧ w' = w := by
  refine callsD_of_wpS Tryd.func93 rfl fun c₀ cs hu => ?_
  apply wpS_seq
  apply wpS_region
  simp [wpOpsS, go_sem, recoverD, hu, Tryd.ntmps93, Exit.thenS]
  refine wpS_of_wp ?_
  change Code.wp _ _ _ { tmps := #[.pointer (some ⟨p, 0, none⟩), .nilIface, .nilIface, undef, undef, undef, undef], defers := [] } w
  go_wp2_with fail
  refine ⟨rfl, .returning, ?_, .tuple #[], by simp [results, Tryd.results93, go_sem], rfl, rfl, rfl⟩
  cases c₀
  simp only at hu
  subst hu
  rfl
end Go.Proofs.YtfmegfgmkeicnaaDoor
