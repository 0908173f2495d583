/-
  The contracts of below.Nodes and below.Graphs, for graphs that Check lets by.
-/
import Derived.Test.YthhbbhijpkoelaaDoorJb
import Derived.Test.YthhbbhijpkoelaaDoorVn
import Derived.Test.YthhbbhijpkoelaaDoorHm
import Derived.Deep.RegionHeld3
namespace Go.Proofs.YthhbbhijpkoelaaDoor
open Go.RowKit Go.Shelf

set_option maxRecDepth 100000 in
set_option maxHeartbeats 2000000 in
theorem nodes_any (g h : List Nd) (ag ah : Option Addr) (cg ch B m n : Nat) (w : World) (hg : GN g) (hh : GN h) (hga : GAt w B g ag) (hha : GAt w B h ah) (hB : B ≤ w.heap.size) (hm : m < g.length) (hn : n < h.length) :
    Calls Tryd.prog 50 #[.slice ag g.length cg, .int .i64 (m : Int), .slice ah h.length ch, .int .i64 (n : Int)] w fun e w' => e = .returned (.tuple #[.bool (belB g h m n), .int .i64 0]) ∧ Below w.heap.size w w' := by
  have c1 := checkG_any g ag cg B w hg hga hB
  have C2 := hideK (fun (W : World) (hb : Below w.heap.size w W) => checkG_any h ah ch B W hh (hha.keep (hb.mono hB)) (Nat.le_trans hB hb.size))
  have C3 := hideK (fun (W : World) (hb : Below w.heap.size w W) => firstFailing_any g h ag ah cg ch B m n W hg hh (hga.keep (hb.mono hB)) (hha.keep (hb.mono hB)) (Nat.le_trans hB hb.size) hm hn)
  have HQ := hideK (show belB g h m n = (srB g h m n).1.isNone from rfl)
  have hmz : (m : Int) < (g.length : Int) := by omega
  have hnz : (n : Int) < (h.length : Int) := by omega
  unfold FFPost at C3
  clear hga hha hg hh
  go_enter Tryd.func50, Tryd.ntmps50
  go_wp2_with fail
  refine c1.mono ?_
  rintro e w1 ⟨rfl, hb1⟩
  have c2 := C2.out w1 hb1
  have HB := hideK hb1
  clear c1 C2 hb1
  go_wp2_with fail
  refine c2.mono ?_
  rintro e w2 ⟨rfl, hb2⟩
  have HB2 := hideK (HB.out.trans (hb2.mono HB.out.size))
  have c3 := C3.out w2 HB2.out
  clear c2 C3 hb2
  go_wp2_with fail
  refine c3.mono ?_
  rintro e w3 ⟨hor, hb3⟩
  have HB3 := hideK (HB2.out.trans (hb3.mono HB2.out.size))
  clear c3 hb3
  rcases hor with ⟨arr, hsr, rfl⟩ | ⟨k, arr, hsr, aw, cw, rfl, hla⟩
  · have HSR := hideK hsr
    clear hsr
    go_wp2_with fail
    go_ret2
    exact ⟨by rw [HQ.out, HSR.out]; rfl, HB3.out⟩
  · have HSR := hideK hsr
    clear hsr hla
    go_wp2_with fail
    go_ret2
    exact ⟨by rw [HQ.out, HSR.out]; rfl, HB3.out⟩
end Go.Proofs.YthhbbhijpkoelaaDoor
/-
  The memory of a monitor; the contracts of here, Next and State.
-/
namespace Go.Proofs.YthhbbhijpkoelaaDoor
open Go.RowKit Go.Shelf

/-- a monitor in its block -/
structure MN (mb n : Nat) (ag : Option Addr) (cg i : Nat) (dn bl : Int) (W : World) : Prop where
  c0 : W.cell? ⟨mb, 0, none⟩ = some (.slice ag n cg)
  c1 : W.cell? ⟨mb, 1, none⟩ = some (.int .i64 (i : Int))
  c2 : W.cell? ⟨mb, 2, none⟩ = some (.int .i64 dn)
  c3 : W.cell? ⟨mb, 3, none⟩ = some (.int .i64 bl)
  f : ∀ o, W.frozen? ⟨mb, o, none⟩ = false
  lt : mb < W.heap.size
theorem MN.blk {mb n : Nat} {ag : Option Addr} {cg i : Nat} {dn bl : Int} {W W' : World} (h : MN mb n ag cg i dn bl W) (hb : W'.heap[mb]? = W.heap[mb]?) (hs : W.heap.size ≤ W'.heap.size) : MN mb n ag cg i dn bl W' :=
  have c : ∀ o, W'.cell? ⟨mb, o, none⟩ = W.cell? ⟨mb, o, none⟩ := fun o => World.cell?_of_block (a := ⟨mb, o, none⟩) hb
  ⟨(c 0).trans h.c0, (c 1).trans h.c1, (c 2).trans h.c2, (c 3).trans h.c3, fun o => (World.frozen?_of_block (a := ⟨mb, o, none⟩) hb).trans (h.f o), Nat.lt_of_lt_of_le h.lt hs⟩
theorem MN.keep {mb n : Nat} {ag : Option Addr} {cg i : Nat} {dn bl : Int} {W W' : World} (h : MN mb n ag cg i dn bl W) (hb : Below W.heap.size W W') : MN mb n ag cg i dn bl W' := h.blk (hb.block mb h.lt) hb.size
theorem st4_cells {W : World} {mb : Nat} {x0 x1 x2 x3 v0 v1 v2 v3 : Value} (z0 : W.cell? ⟨mb, 0, none⟩ = some x0) (z1 : W.cell? ⟨mb, 1, none⟩ = some x1) (z2 : W.cell? ⟨mb, 2, none⟩ = some x2) (z3 : W.cell? ⟨mb, 3, none⟩ = some x3) : (st4 W mb v0 v1 v2 v3).cell? ⟨mb, 0, none⟩ = some v0 ∧ (st4 W mb v0 v1 v2 v3).cell? ⟨mb, 1, none⟩ = some v1 ∧ (st4 W mb v0 v1 v2 v3).cell? ⟨mb, 2, none⟩ = some v2 ∧ (st4 W mb v0 v1 v2 v3).cell? ⟨mb, 3, none⟩ = some v3 := by
  have ne : ∀ i j : Nat, i ≠ j → (⟨mb, i, none⟩ : Addr) ≠ ⟨mb, j, none⟩ := fun i j h e => by injection e with _ e; exact h e
  refine ⟨?_, ?_, ?_, ?_⟩
  · unfold st4
    rw [World.cell?_setCell_other _ _ _ _ (ne 3 0 (by omega)), World.cell?_setCell_other _ _ _ _ (ne 2 0 (by omega)), World.cell?_setCell_other _ _ _ _ (ne 1 0 (by omega))]
    exact World.cell?_setCell_same _ _ _ z0
  · unfold st4
    rw [World.cell?_setCell_other _ _ _ _ (ne 3 1 (by omega)), World.cell?_setCell_other _ _ _ _ (ne 2 1 (by omega))]
    exact World.cell?_setCell_same _ _ _ ((World.cell?_setCell_other _ _ _ _ (ne 0 1 (by omega))).trans z1)
  · unfold st4
    rw [World.cell?_setCell_other _ _ _ _ (ne 3 2 (by omega))]
    exact World.cell?_setCell_same _ _ _ ((World.cell?_setCell_other _ _ _ _ (ne 1 2 (by omega))).trans ((World.cell?_setCell_other _ _ _ _ (ne 0 2 (by omega))).trans z2))
  · unfold st4
    exact World.cell?_setCell_same _ _ _ ((World.cell?_setCell_other _ _ _ _ (ne 2 3 (by omega))).trans ((World.cell?_setCell_other _ _ _ _ (ne 1 3 (by omega))).trans ((World.cell?_setCell_other _ _ _ _ (ne 0 3 (by omega))).trans z3)))
set_option maxRecDepth 100000 in
set_option maxHeartbeats 4000000 in
theorem here_any (g : List Nd) (ag : Option Addr) (cg B mb i : Nat) (dn bl : Int) (w : World) (hM : MN mb g.length ag cg i dn bl w) (hga : GAt w B g ag) (hB : B ≤ w.heap.size) (hi : i < g.length) (hgl : g.length ≤ 1000) :
    Calls Tryd.prog 17 #[.pointer (some ⟨mb, 0, none⟩)] w fun e w' => (∃ al cl at1 ct, e = .returned (ndVal (nodeAt g i) al cl at1 ct) ∧ LA w B (nodeAt g i).labs al ∧ NI w B (nodeAt g i).to at1) ∧ Below w.heap.size w w' := by
  obtain ⟨gb, go1, rfl, hgb, hgc⟩ := hga.resolve_left (fun h => by rw [h] at hi; simp at hi)
  obtain ⟨al, cl, at1, ct, hnd, hla, hta⟩ := hgc i hi
  rw [← nodeAt_lt g i hi] at hnd hla hta
  have hA : Below w.heap.size w (w.alloc (.cells #[.int .i64 0, .int .i64 0, .slice none 0 0, .slice none 0 0] 60)) := (Below.refl _ _).alloc (Nat.le_refl _) _
  obtain ⟨m0, m1, m2, m3, mf, ml⟩ := hM.keep hA
  obtain ⟨c0, c1, c2, c3⟩ := hnd.keep (hA.mono hB) hgb
  have z0 : (w.alloc (.cells #[.int .i64 0, .int .i64 0, .slice none 0 0, .slice none 0 0] 60)).cell? ⟨w.heap.size, 0, none⟩ = some (.int .i64 0) := by go_cell
  have z1 : (w.alloc (.cells #[.int .i64 0, .int .i64 0, .slice none 0 0, .slice none 0 0] 60)).cell? ⟨w.heap.size, 1, none⟩ = some (.int .i64 0) := by go_cell
  have z2 : (w.alloc (.cells #[.int .i64 0, .int .i64 0, .slice none 0 0, .slice none 0 0] 60)).cell? ⟨w.heap.size, 2, none⟩ = some (.slice none 0 0) := by go_cell
  have z3 : (w.alloc (.cells #[.int .i64 0, .int .i64 0, .slice none 0 0, .slice none 0 0] 60)).cell? ⟨w.heap.size, 3, none⟩ = some (.slice none 0 0) := by go_cell
  have zf : ∀ o, (w.alloc (.cells #[.int .i64 0, .int .i64 0, .slice none 0 0, .slice none 0 0] 60)).frozen? ⟨w.heap.size, o, none⟩ = false := fun o => by go_simp
  have f0 := zf 0
  have f1 := zf 1
  have f2 := zf 2
  have f3 := zf 3
  have HL := hideK (And.intro hla hta)
  have HA := hideK hA
  have hiz : ¬ ((i : Int) ≥ (g.length : Int)) := by omega
  have hiz1 : (i : Int) < (g.length : Int) := by omega
  have hgz : (g.length : Int) ≤ 1000 := by omega
  generalize nodeAt g i = nd at *
  clear hM hga hgc hnd hla hta hA zf mf
  unfold ndVal
  go_enter Tryd.func17, Tryd.ntmps17
  go_upto_region 1 with fail
  generalize (w.alloc (.cells #[.int .i64 0, .int .i64 0, .slice none 0 0, .slice none 0 0] 60)) = W0 at *
  go_region
  go_upto_region 3 with fail
  have HB9 := hideK (show Below w.heap.size w (st4 W0 w.heap.size (.int .i64 nd.kind) (.int .i64 nd.so) (.slice al nd.labs.length cl) (.slice at1 nd.to.length ct)).drew.drew from by
    unfold st4
    exact ((((HA.out.setCell (p := ⟨w.heap.size, 0, none⟩) (Nat.le_refl _) _).setCell (p := ⟨w.heap.size, 1, none⟩) (Nat.le_refl _) _).setCell (p := ⟨w.heap.size, 2, none⟩) (Nat.le_refl _) _).setCell (p := ⟨w.heap.size, 3, none⟩) (Nat.le_refl _) _).drew.drew)
  have HTA := hideK (show (st4 W0 w.heap.size (.int .i64 nd.kind) (.int .i64 nd.so) (.slice al nd.labs.length cl) (.slice at1 nd.to.length ct)).drew.drew.cell? ⟨w.heap.size, 0, none⟩ = some (.int .i64 nd.kind) ∧ (st4 W0 w.heap.size (.int .i64 nd.kind) (.int .i64 nd.so) (.slice al nd.labs.length cl) (.slice at1 nd.to.length ct)).drew.drew.cell? ⟨w.heap.size, 1, none⟩ = some (.int .i64 nd.so) ∧ (st4 W0 w.heap.size (.int .i64 nd.kind) (.int .i64 nd.so) (.slice al nd.labs.length cl) (.slice at1 nd.to.length ct)).drew.drew.cell? ⟨w.heap.size, 2, none⟩ = some (.slice al nd.labs.length cl) ∧ (st4 W0 w.heap.size (.int .i64 nd.kind) (.int .i64 nd.so) (.slice al nd.labs.length cl) (.slice at1 nd.to.length ct)).drew.drew.cell? ⟨w.heap.size, 3, none⟩ = some (.slice at1 nd.to.length ct) from st4_cells (v0 := .int .i64 nd.kind) (v1 := .int .i64 nd.so) (v2 := .slice al nd.labs.length cl) (v3 := .slice at1 nd.to.length ct) z0 z1 z2 z3)
  go_region
  go_wp2_with fail
  change bodyPost _ _ _ _ _ (st4 W0 w.heap.size (.int .i64 nd.kind) (.int .i64 nd.so) (.slice al nd.labs.length cl) (.slice at1 nd.to.length ct)).drew.drew
  generalize (st4 W0 w.heap.size (.int .i64 nd.kind) (.int .i64 nd.so) (.slice al nd.labs.length cl) (.slice at1 nd.to.length ct)).drew.drew = W9 at *
  obtain ⟨r0, r1, r2, r3⟩ := HTA.out
  refine bodyPost_ret (v := .agg #[.int .i64 nd.kind, .int .i64 nd.so, .slice al nd.labs.length cl, .slice at1 nd.to.length ct]) (by simp [results, Tryd.results17, go_sem, r0, r1, r2, r3]) rfl ?_
  exact ⟨⟨al, cl, at1, ⟨ct, rfl⟩, HL.out.1, HL.out.2⟩, HB9.out⟩
end Go.Proofs.YthhbbhijpkoelaaDoor
