/-
  The contract of exprs.Sort, for every expression, every names and sorts; utf8.ValidString's and strings.Compare's contracts are hypotheses here.
-/
import Derived.Test.YtclbillfffpknaaDoorXl
namespace Go.Proofs.YtclbillfffpknaaDoor
open Go.RowKit Go.Shelf
variable (Tabs : World → Prop) (B0 : Nat)

set_option maxHeartbeats 1000000 in
theorem sort_any (hV : VSaid vD Tabs) (hK : ∀ w w', Tabs w → Below w.heap.size w w' → Tabs w') (hK2 : ∀ B w w', B0 ≤ B → Tabs w → Below B w w' → Tabs w') (hB0 : ∀ w, Tabs w → B0 ≤ w.heap.size)
    (d : Nat) (x : Ex) (ao : Option Addr) (cap : Nat) (ns : List ByteArray) (zs : List Int) (an am : Option Addr) (cn cm : Nat) (w : World) (hbd : ExBd x cap) (hka : KA w w.heap.size d x.kids ao) (hns : NSAt w w.heap.size ns zs an am) (hT : Tabs w) :
    Calls Tryd.prog 7 #[exVal x ao cap, .slice an ns.length cn, .slice am ns.length cm] w fun e w' => e = .returned (.tuple #[.int .i64 (srtR x ns zs).1, .int .i64 (srtR x ns zs).2]) ∧ Below w.heap.size w w' := by
  have hw1 : Below w.heap.size w (w.alloc (.cells #[.int .i64 x.kind, .string x.name, .int .i64 x.so, .int .i64 x.n, .string x.s, .slice ao x.kids.length cap] 26)) := (Below.refl _ _).alloc (Nat.le_refl _) _
  have cK := chk_any Tabs B0 hV hK hK2 hB0 d x ao cap _ hbd ((hka.keep hw1).mono (by simp)) (hK _ _ hT hw1)
  have cS := fun (h : wfX x) (W : World) (hW : Below w.heap.size w W) => sortOf_any ns zs an am cn cm d x ao cap w.heap.size W h hbd (hka.keep hW) (hns.keep hW) hW.size
  have hcw : chkX x = 0 → wfX x := fun h => chk_wf x 0 h
  have hbz : (ns.length : Int) ≤ 9223372036854775806 := by have := hns.bd; omega
  unfold srtR
  generalize chkX x = z at cK hcw ⊢
  generalize sortX (lookS ns zs) x = r at cS ⊢
  simp only [exVal] at cK cS ⊢
  have HW : Hid (Below w.heap.size w (w.alloc (.cells #[.int .i64 x.kind, .string x.name, .int .i64 x.so, .int .i64 x.n, .string x.s, .slice ao x.kids.length cap] 26))) := hw1
  clear hV hK hK2 hB0 hka hns hT hw1 hbd
  by_cases hz : z = 0
  · subst hz
    have cS2 := cS (hcw rfl)
    rw [if_pos rfl]
    have CS : Hid (∀ (W : World), Below w.heap.size w W → Calls Tryd.prog 15 #[.agg #[.int .i64 x.kind, .string x.name, .int .i64 x.so, .int .i64 x.n, .string x.s, .slice ao x.kids.length cap], .slice an ns.length cn, .slice am ns.length cm] W fun e w' => e = .returned (.tuple #[.int .i64 r.1, .int .i64 r.2]) ∧ Below W.heap.size W w') := cS2
    have hne : ((ns.length : Int) != (ns.length : Int)) = false := by simp
    clear cS cS2 hcw
    go_enter Tryd.func7, Tryd.ntmps7
    go_wp2_with fail
    refine cK.mono ?_
    rintro e w1 ⟨rfl, hb1⟩
    have hbw : Below w.heap.size w w1 := HW.out.trans (hb1.mono (by simp))
    obtain ⟨hc, _⟩ := bcell hb1
    have x0 : w1.cell? ⟨w.heap.size, 0, none⟩ = some (.int .i64 x.kind) := (hc _ 0 (by simp)).trans (by go_cell)
    have x1 : w1.cell? ⟨w.heap.size, 1, none⟩ = some (.string x.name) := (hc _ 1 (by simp)).trans (by go_cell)
    have x2 : w1.cell? ⟨w.heap.size, 2, none⟩ = some (.int .i64 x.so) := (hc _ 2 (by simp)).trans (by go_cell)
    have x3 : w1.cell? ⟨w.heap.size, 3, none⟩ = some (.int .i64 x.n) := (hc _ 3 (by simp)).trans (by go_cell)
    have x4 : w1.cell? ⟨w.heap.size, 4, none⟩ = some (.string x.s) := (hc _ 4 (by simp)).trans (by go_cell)
    have x5 : w1.cell? ⟨w.heap.size, 5, none⟩ = some (.slice ao x.kids.length cap) := (hc _ 5 (by simp)).trans (by go_cell)
    clear hc hb1 cK
    go_wp2_with fail
    refine (CS.out _ hbw).mono ?_
    rintro e w2 ⟨rfl, hb2⟩
    go_wp2_with fail
    go_ret2
    exact ⟨rfl, hbw.trans (hb2.mono hbw.size)⟩
  · rw [if_neg hz]
    have hzb : (z != 0) = true := by simpa using hz
    clear cS hcw
    go_enter Tryd.func7, Tryd.ntmps7
    go_wp2_with fail
    refine cK.mono ?_
    rintro e w1 ⟨rfl, hb1⟩
    go_wp2_with fail
    go_ret2
    exact ⟨rfl, HW.out.trans (hb1.mono (by simp))⟩
end Go.Proofs.YtclbillfffpknaaDoor
