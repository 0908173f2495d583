/-
  The contracts of graph.Check and graph.Least, for graphs that Check lets by.
-/
import Derived.Test.YtlphhlnoemlbaaaDoorJa
namespace Go.Proofs.YtlphhlnoemlbaaaDoor
open Go.RowKit Go.Shelf

set_option maxRecDepth 100000 in
set_option maxHeartbeats 4000000 in
theorem checkG_any (g : List Nd) (ag : Option Addr) (cg B : Nat) (w : World) (hg : GN g) (hga : GAt w B g ag) (hB : B ≤ w.heap.size) :
    Calls Tryd.prog 11 #[.slice ag g.length cg] w fun e w' => e = .returned (.int .i64 0) ∧ Below w.heap.size w w' := by
  have hl := hg.le
  have hp := hg.pos
  have hz0 : ((g.length : Int) == 0) = false := by rw [beq_eq_false_iff_ne]; omega
  have hz1 : ¬ ((g.length : Int) > 200) := by omega
  have hz2 : (g.length : Int) ≤ 200 := by omega
  obtain ⟨gb, go, rfl, hgB, hgc⟩ := hga.resolve_left (fun q => by rw [q] at hp; simp at hp)
  have HGC := hideK hgc
  have HG := hideK hg
  clear hga hgc hg
  go_enter Tryd.func11, Tryd.ntmps11
  go_wp2_with fail
  go_loopw [15] (fun i wr => ∃ k : Nat, k ≤ g.length ∧ i = .int .i64 (k : Int) ∧ Below w.heap.size w wr) (fun i _ => g.length - (intOf i).toNat)
  case atStart => exact ⟨0, Nat.zero_le _, rfl, Below.refl _ _⟩
  case round =>
    obtain ⟨k, hk, rfl, hb⟩ := hrel
    by_cases hlt : k < g.length
    · have hltz : (k : Int) < (g.length : Int) := by omega
      obtain ⟨a1, c1, a2, c2, hN, hL, hT⟩ := HGC.out k hlt
      have hbB := hb.mono hB
      obtain ⟨m0, m1, m2, m3⟩ := hN.keep hbB hgB
      have hA := hb.alloc hb.size (.cells #[.int .i64 g[k].kind, .int .i64 g[k].so, .slice a1 g[k].labs.length c1, .slice a2 g[k].to.length c2] 53)
      have c := isNode_any g[k] g.length a1 a2 c1 c2 B (wr.alloc (.cells #[.int .i64 g[k].kind, .int .i64 g[k].so, .slice a1 g[k].labs.length c1, .slice a2 g[k].to.length c2] 53)) (hL.keep (hA.mono hB)) (hT.keep (hA.mono hB)) (Nat.le_trans hB hA.size) (HG.out.ok _ (List.getElem_mem hlt)) (fun t ht => HG.out.shut _ (List.getElem_mem hlt) t ht)
      simp only [ndVal] at c
      have HA := hideK hA
      clear hN hL hT hbB hb hA
      generalize g[k] = n at *
      go_wp2_with fail
      refine c.mono ?_
      rintro e w1 ⟨rfl, hb1⟩
      have HB1 := hideK (HA.out.trans (hb1.mono HA.out.size))
      clear c hb1 m0 m1 m2 m3
      go_wp2_with fail
      go_roundw
      case rel => exact ⟨k + 1, by omega, by go_num, HB1.out⟩
      case measure => simp [intOf]; omega
    · have hltz : ¬ (k : Int) < (g.length : Int) := by omega
      go_wp2_with fail
      go_ret
      exact ⟨rfl, hb⟩
set_option maxRecDepth 100000 in
set_option maxHeartbeats 2000000 in
theorem leastG_any (g : List Nd) (ag : Option Addr) (cg B : Nat) (w : World) (hg : GN g) (hga : GAt w B g ag) (hB : B ≤ w.heap.size) :
    Calls Tryd.prog 19 #[.slice ag g.length cg] w fun e w' => (∃ c, CLS g c ∧ ∃ ao co, e = .returned (.tuple #[.slice ao (leastG g c).length co, .int .i64 0]) ∧ GAt w' w'.heap.size (leastG g c) ao) ∧ Below w.heap.size w w' := by
  have c1 := checkG_any g ag cg B w hg hga hB
  have CL := hideK (fun (W : World) (hb : Below w.heap.size w W) => least_loop g ag cg B W hg.gr (hga.keep (hb.mono hB)) (Nat.le_trans hB hb.size))
  clear hga hg
  go_enter Tryd.func19, Tryd.ntmps19
  go_wp2_with fail
  refine c1.mono ?_
  rintro e w1 ⟨rfl, hb1⟩
  have cL := CL.out w1 hb1
  have HB := hideK hb1
  clear c1 CL hb1
  go_wp2_with fail
  refine cL.mono ?_
  rintro e w2 ⟨⟨c, hc, ao, co, rfl, hg2⟩, hb2⟩
  have HC := hideK hc
  have HG2 := hideK hg2
  have HB2 := hideK (HB.out.trans (hb2.mono HB.out.size))
  clear cL hc hg2 hb2
  go_wp2_with fail
  go_ret2
  exact ⟨⟨c, HC.out, _, _, rfl, HG2.out⟩, HB2.out⟩
end Go.Proofs.YtlphhlnoemlbaaaDoor
