/-
  The contract of below.failsItself; steps in memory; below.stepsFrom of nodes without labels.
-/
import Derived.Test.YthhbbhijpkoelaaDoorIh
namespace Go.Proofs.YthhbbhijpkoelaaDoor
open Go.RowKit Go.Shelf

set_option maxRecDepth 100000 in
set_option maxHeartbeats 4000000 in
theorem failsItself_any (m n : Nd) (a1 a2 a3 a4 : Option Addr) (c1 c2 c3 c4 B : Nat) (w : World) (h1 : LA w B m.labs a1) (h3 : LA w B n.labs a3) (hB : B ≤ w.heap.size) (l1 : m.labs.length ≤ 1000) (l3 : n.labs.length ≤ 1000) :
    Calls Tryd.prog 27 #[ndVal m a1 c1 a2 c2, ndVal n a3 c3 a4 c4] w fun e w' => e = .returned (.bool (failB m n)) ∧ Below w.heap.size w w' := by
  have cA := hideK (fun W (hb : Below w.heap.size w W) => hasAll_any m.labs n.labs a1 c1 a3 c3 B W (h1.keep (hb.mono hB)) (h3.keep (hb.mono hB)) (Nat.le_trans hB hb.size) l1 l3)
  have cB := hideK (fun W (hb : Below w.heap.size w W) => hasAll_any n.labs m.labs a3 c3 a1 c1 B W (h3.keep (hb.mono hB)) (h1.keep (hb.mono hB)) (Nat.le_trans hB hb.size) l3 l1)
  have E0 := hideK (EB.new w m n a1 a2 a3 a4 c1 c2 c3 c4)
  obtain ⟨x0, x1, x2, x3⟩ := E0.out.x
  obtain ⟨y0, y1, y2, y3⟩ := E0.out.y
  simp only [Nat.zero_add] at x1 x2 x3 y1 y2 y3
  simp only [ndVal]
  clear h1 h3
  by_cases hk : m.kind = n.kind
  · have hkb : (m.kind != n.kind) = false := by rw [hk]; simp
    by_cases hs : m.so = n.so
    · have hsb : (m.so != n.so) = false := by rw [hs]; simp
      by_cases h7 : m.kind = 7
      · have h7b : (m.kind == 7) = true := by rw [h7]; rfl
        have HD := hideK (show failB m n = !(m.labs.all fun l => hasN n.labs l) from by unfold failB; rw [if_neg (fun h => h.elim (fun h => h hk) (fun h => h hs)), if_pos h7])
        generalize (m.labs.all fun l => hasN n.labs l) = q at *
        clear hk hs h7 cB
        go_enter Tryd.func27, Tryd.ntmps27
        go_wp2_with fail
        refine (cA.out _ E0.out.bl).mono ?_
        rintro e w1 ⟨rfl, hb1⟩
        have HB := hideK (E0.out.keep hb1).bl
        clear x0 x1 x2 x3 y0 y1 y2 y3 hb1
        go_wp2_with fail
        go_ret
        exact ⟨by rw [HD.out]; rfl, HB.out⟩
      · have h7b : (m.kind == 7) = false := by simpa using h7
        have HD := hideK (show failB m n = !(n.labs.all fun l => hasN m.labs l) from by unfold failB; rw [if_neg (fun h => h.elim (fun h => h hk) (fun h => h hs)), if_neg h7])
        generalize (n.labs.all fun l => hasN m.labs l) = q at *
        clear hk hs h7 cA
        go_enter Tryd.func27, Tryd.ntmps27
        go_wp2_with fail
        refine (cB.out _ E0.out.bl).mono ?_
        rintro e w1 ⟨rfl, hb1⟩
        have HB := hideK (E0.out.keep hb1).bl
        clear x0 x1 x2 x3 y0 y1 y2 y3 hb1
        go_wp2_with fail
        go_ret
        exact ⟨by rw [HD.out]; rfl, HB.out⟩
    · have hsb : (m.so != n.so) = true := by simpa using hs
      have HD := hideK (show failB m n = true from by unfold failB; rw [if_pos (.inr hs)])
      have HB := hideK E0.out.bl
      clear hk hs
      go_enter Tryd.func27, Tryd.ntmps27
      go_wp2_with fail
      go_ret
      exact ⟨by rw [HD.out]; rfl, HB.out⟩
  · have hkb : (m.kind != n.kind) = true := by simpa using hk
    have HD := hideK (show failB m n = true from by unfold failB; rw [if_pos (.inl hk)])
    have HB := hideK E0.out.bl
    clear hk
    go_enter Tryd.func27, Tryd.ntmps27
    go_wp2_with fail
    go_ret
    exact ⟨by rw [HD.out]; rfl, HB.out⟩
/-- the cells of a step -/
def sCs (s : Stp) : List Value := [.string s.1, .int .i64 (s.2.1 : Int), .int .i64 (s.2.2.1 : Int), .bool s.2.2.2]
def stCs (ss : List Stp) : List Value := ss.flatMap sCs
/-- steps in memory -/
def STL (W : World) (L B : Nat) (ss : List Stp) (a : Option Addr) : Prop := ss = [] ∨ ∃ b o, a = some ⟨b, o, none⟩ ∧ (L ≤ b ∧ b < B) ∧ ∀ i (h : i < ss.length), W.cell? ⟨b, o + i * 4, none⟩ = some (.string ss[i].1) ∧ W.cell? ⟨b, o + i * 4 + 1, none⟩ = some (.int .i64 (ss[i].2.1 : Int)) ∧ W.cell? ⟨b, o + i * 4 + 2, none⟩ = some (.int .i64 (ss[i].2.2.1 : Int)) ∧ W.cell? ⟨b, o + i * 4 + 3, none⟩ = some (.bool ss[i].2.2.2)
theorem toAt_cell {W : World} {B : Nat} {n : Nd} {at1 : Option Addr} (h : NI W B n.to at1) {i : Nat} (hi : i < n.to.length) : ∃ b o, at1 = some ⟨b, o, none⟩ ∧ b < B ∧ W.cell? ⟨b, o + i, none⟩ = some (.int .i64 (toAt n i : Int)) := by
  obtain ⟨b, o, rfl, hb, hc⟩ := h.resolve_left (fun q => by have := congrArg List.length q; simp at this; rw [this] at hi; simp at hi)
  refine ⟨b, o, rfl, hb, ?_⟩
  rw [hc i (by simpa using hi), List.getElem_map]
  unfold toAt
  rw [List.getElem?_eq_getElem hi]; rfl
theorem stl_one (W : World) (L : Nat) (hL : L ≤ W.heap.size) (s : Stp) (ty : TypeId) : STL (W.alloc (.cells #[.string s.1, .int .i64 (s.2.1 : Int), .int .i64 (s.2.2.1 : Int), .bool s.2.2.2] ty)).drew L (W.alloc (.cells #[.string s.1, .int .i64 (s.2.1 : Int), .int .i64 (s.2.2.1 : Int), .bool s.2.2.2] ty)).drew.heap.size [s] (some ⟨W.heap.size, 0, none⟩) := by
  refine .inr ⟨W.heap.size, 0, rfl, ⟨hL, by simp⟩, fun i hi => ?_⟩
  obtain rfl : i = 0 := by simp at hi; omega
  exact ⟨by go_cell, by go_cell, by go_cell, by go_cell⟩
theorem stl_two (W : World) (L : Nat) (hL : L ≤ W.heap.size) (s r : Stp) (ty : TypeId) : STL (W.alloc (.cells #[.string s.1, .int .i64 (s.2.1 : Int), .int .i64 (s.2.2.1 : Int), .bool s.2.2.2, .string r.1, .int .i64 (r.2.1 : Int), .int .i64 (r.2.2.1 : Int), .bool r.2.2.2] ty)).drew L (W.alloc (.cells #[.string s.1, .int .i64 (s.2.1 : Int), .int .i64 (s.2.2.1 : Int), .bool s.2.2.2, .string r.1, .int .i64 (r.2.1 : Int), .int .i64 (r.2.2.1 : Int), .bool r.2.2.2] ty)).drew.heap.size [s, r] (some ⟨W.heap.size, 0, none⟩) := by
  refine .inr ⟨W.heap.size, 0, rfl, ⟨hL, by simp⟩, fun i hi => ?_⟩
  have h2 : i = 0 ∨ i = 1 := by simp at hi; omega
  rcases h2 with rfl | rfl
  · exact ⟨by go_cell, by go_cell, by go_cell, by go_cell⟩
  · exact ⟨by go_cell, by go_cell, by go_cell, by go_cell⟩
set_option maxRecDepth 100000 in
set_option maxHeartbeats 4000000 in
theorem steps_one (m n : Nd) (t : Bool) (a1 a2 a3 a4 : Option Addr) (c1 c2 c3 c4 B : Nat) (w : World) (h2 : NI w B m.to a2) (h4 : NI w B n.to a4) (hB : B ≤ w.heap.size) (hk : m.kind = 2 ∨ m.kind = 3) (l2 : m.to.length = 1) (l4 : n.to.length = 1) :
    Calls Tryd.prog 29 #[ndVal m a1 c1 a2 c2, ndVal n a3 c3 a4 c4, .bool t] w fun e w' => (∃ ast cst, e = .returned (.slice ast (stepsP m n t).length cst) ∧ STL w' w.heap.size w'.heap.size (stepsP m n t) ast) ∧ Below w.heap.size w w' := by
  have hst : stepsP m n t = [(dotB, toAt m 0, toAt n 0, t)] := by unfold stepsP; rw [if_pos hk]
  rw [hst]
  have E0 := hideK (EB.new w m n a1 a2 a3 a4 c1 c2 c3 c4)
  obtain ⟨x0, x1, x2, x3⟩ := E0.out.x
  obtain ⟨y0, y1, y2, y3⟩ := E0.out.y
  simp only [Nat.zero_add] at x1 x2 x3 y1 y2 y3
  have hbB := E0.out.bl.mono hB
  obtain ⟨b2, o2, rfl, hb2, d2⟩ := toAt_cell (h2.keep hbB) (i := 0) (by omega)
  obtain ⟨b4, o4, rfl, hb4, d4⟩ := toAt_cell (h4.keep hbB) (i := 0) (by omega)
  rw [Nat.add_zero] at d2 d4
  rw [l2, l4] at E0 x0 x1 x2 x3 y0 y1 y2 y3 d2 d4
  simp only [ndVal, l2, l4]
  generalize toAt m 0 = p at *
  generalize toAt n 0 = q at *
  have sk : ∀ (W W' : World), (fun W : World => W.cell? ⟨w.heap.size, 3, none⟩ = some (.slice (some ⟨b2, o2, none⟩) 1 c2) ∧ W.cell? ⟨w.heap.size + 1, 3, none⟩ = some (.slice (some ⟨b4, o4, none⟩) 1 c4) ∧ W.cell? ⟨b2, o2, none⟩ = some (.int .i64 (p : Int)) ∧ W.cell? ⟨b4, o4, none⟩ = some (.int .i64 (q : Int))) W → Below (w.heap.size + 1 + 1) W W' → (fun W : World => W.cell? ⟨w.heap.size, 3, none⟩ = some (.slice (some ⟨b2, o2, none⟩) 1 c2) ∧ W.cell? ⟨w.heap.size + 1, 3, none⟩ = some (.slice (some ⟨b4, o4, none⟩) 1 c4) ∧ W.cell? ⟨b2, o2, none⟩ = some (.int .i64 (p : Int)) ∧ W.cell? ⟨b4, o4, none⟩ = some (.int .i64 (q : Int))) W' := fun W W' hs hb => ⟨(hb.cell (p := ⟨w.heap.size, 3, none⟩) (by show w.heap.size < _; omega)).trans hs.1, (hb.cell (p := ⟨w.heap.size + 1, 3, none⟩) (by show w.heap.size + 1 < _; omega)).trans hs.2.1, (hb.cell (p := ⟨b2, o2, none⟩) (by show b2 < _; omega)).trans hs.2.2.1, (hb.cell (p := ⟨b4, o4, none⟩) (by show b4 < _; omega)).trans hs.2.2.2⟩
  have HS0 := hideK (show (fun W : World => W.cell? ⟨w.heap.size, 3, none⟩ = some (.slice (some ⟨b2, o2, none⟩) 1 c2) ∧ W.cell? ⟨w.heap.size + 1, 3, none⟩ = some (.slice (some ⟨b4, o4, none⟩) 1 c4) ∧ W.cell? ⟨b2, o2, none⟩ = some (.int .i64 (p : Int)) ∧ W.cell? ⟨b4, o4, none⟩ = some (.int .i64 (q : Int))) ((w.alloc (.cells #[.int .i64 m.kind, .int .i64 m.so, .slice a1 m.labs.length c1, .slice (some ⟨b2, o2, none⟩) 1 c2] 60)).alloc (.cells #[.int .i64 n.kind, .int .i64 n.so, .slice a3 n.labs.length c3, .slice (some ⟨b4, o4, none⟩) 1 c4] 60)).drew from ⟨x3, y3, d2, d4⟩)
  have HSX := hideK (show ∀ o : Obj, (fun W : World => W.cell? ⟨w.heap.size, 3, none⟩ = some (.slice (some ⟨b2, o2, none⟩) 1 c2) ∧ W.cell? ⟨w.heap.size + 1, 3, none⟩ = some (.slice (some ⟨b4, o4, none⟩) 1 c4) ∧ W.cell? ⟨b2, o2, none⟩ = some (.int .i64 (p : Int)) ∧ W.cell? ⟨b4, o4, none⟩ = some (.int .i64 (q : Int))) (((w.alloc (.cells #[.int .i64 m.kind, .int .i64 m.so, .slice a1 m.labs.length c1, .slice (some ⟨b2, o2, none⟩) 1 c2] 60)).alloc (.cells #[.int .i64 n.kind, .int .i64 n.so, .slice a3 n.labs.length c3, .slice (some ⟨b4, o4, none⟩) 1 c4] 60)).alloc o).drew from fun o => sk _ _ HS0.out (by rw [← alloc_drew]; exact (Below.refl _ _).alloc (by simp) _))
  have HF := hideK (stl_one ((w.alloc (.cells #[.int .i64 m.kind, .int .i64 m.so, .slice a1 m.labs.length c1, .slice (some ⟨b2, o2, none⟩) 1 c2] 60)).alloc (.cells #[.int .i64 n.kind, .int .i64 n.so, .slice a3 n.labs.length c3, .slice (some ⟨b4, o4, none⟩) 1 c4] 60)) w.heap.size (by simp; omega) (dotB, p, q, t) 78)
  have HB := hideK (show Below w.heap.size w (((w.alloc (.cells #[.int .i64 m.kind, .int .i64 m.so, .slice a1 m.labs.length c1, .slice (some ⟨b2, o2, none⟩) 1 c2] 60)).alloc (.cells #[.int .i64 n.kind, .int .i64 n.so, .slice a3 n.labs.length c3, .slice (some ⟨b4, o4, none⟩) 1 c4] 60)).alloc (.cells #[.string dotB, .int .i64 (p : Int), .int .i64 (q : Int), .bool t] 78)).drew from (E0.out.bl.alloc E0.out.bl.size _).drew)
  have hsz : ((w.alloc (.cells #[.int .i64 m.kind, .int .i64 m.so, .slice a1 m.labs.length c1, .slice (some ⟨b2, o2, none⟩) 1 c2] 60)).alloc (.cells #[.int .i64 n.kind, .int .i64 n.so, .slice a3 n.labs.length c3, .slice (some ⟨b4, o4, none⟩) 1 c4] 60)).heap.size = w.heap.size + 1 + 1 := by simp
  rw [hsz] at HF
  have hk2 : (m.kind == 2) = true ∨ ((m.kind == 2) = false ∧ (m.kind == 3) = true) := by
    rcases hk with h | h
    · exact .inl (by rw [h]; rfl)
    · exact .inr ⟨by rw [h]; rfl, by rw [h]; rfl⟩
  clear h2 h4 hk hbB hst l2 l4 d2 d4 sk hsz
  rcases hk2 with k2 | ⟨k2, k3⟩
  all_goals
    go_enter Tryd.func29, Tryd.ntmps29
    go_wp2_with fail
    go_region_held3 (fun W : World => W.cell? ⟨w.heap.size, 3, none⟩ = some (.slice (some ⟨b2, o2, none⟩) 1 c2) ∧ W.cell? ⟨w.heap.size + 1, 3, none⟩ = some (.slice (some ⟨b4, o4, none⟩) 1 c4) ∧ W.cell? ⟨b2, o2, none⟩ = some (.int .i64 (p : Int)) ∧ W.cell? ⟨b4, o4, none⟩ = some (.int .i64 (q : Int))) (first | exact HS0.out | exact HSX.out _ | assumption) (fail)
    go_wp2_with fail
    go_ret
    exact ⟨⟨_, _, rfl, HF.out⟩, HB.out⟩
set_option maxRecDepth 100000 in
set_option maxHeartbeats 4000000 in
theorem steps_two (m n : Nd) (t : Bool) (a1 a2 a3 a4 : Option Addr) (c1 c2 c3 c4 B : Nat) (w : World) (h2 : NI w B m.to a2) (h4 : NI w B n.to a4) (hB : B ≤ w.heap.size) (hk : m.kind = 4 ∨ m.kind = 5) (l2 : m.to.length = 2) (l4 : n.to.length = 2) :
    Calls Tryd.prog 29 #[ndVal m a1 c1 a2 c2, ndVal n a3 c3 a4 c4, .bool t] w fun e w' => (∃ ast cst, e = .returned (.slice ast (stepsP m n t).length cst) ∧ STL w' w.heap.size w'.heap.size (stepsP m n t) ast) ∧ Below w.heap.size w w' := by
  have hst : stepsP m n t = [(capB, toAt m 0, toAt n 0, t != (m.kind == 4)), (dotB, toAt m 1, toAt n 1, t)] := by
    unfold stepsP
    rw [if_neg (by omega), if_pos hk]
    rfl
  rw [hst]
  have E0 := hideK (EB.new w m n a1 a2 a3 a4 c1 c2 c3 c4)
  obtain ⟨x0, x1, x2, x3⟩ := E0.out.x
  obtain ⟨y0, y1, y2, y3⟩ := E0.out.y
  simp only [Nat.zero_add] at x1 x2 x3 y1 y2 y3
  have hbB := E0.out.bl.mono hB
  obtain ⟨b2, o2, rfl, hb2, d2⟩ := toAt_cell (h2.keep hbB) (i := 0) (by omega)
  obtain ⟨b4, o4, rfl, hb4, d4⟩ := toAt_cell (h4.keep hbB) (i := 0) (by omega)
  obtain ⟨b2', o2', e2, _, f2⟩ := toAt_cell (h2.keep hbB) (i := 1) (by omega)
  obtain ⟨b4', o4', e4, _, f4⟩ := toAt_cell (h4.keep hbB) (i := 1) (by omega)
  simp only [Option.some.injEq, Addr.mk.injEq, and_true] at e2 e4
  obtain ⟨rfl, rfl⟩ := e2
  obtain ⟨rfl, rfl⟩ := e4
  rw [Nat.add_zero] at d2 d4
  rw [l2, l4] at E0 x0 x1 x2 x3 y0 y1 y2 y3 d2 d4 f2 f4
  simp only [ndVal, l2, l4]
  generalize toAt m 0 = p at *
  generalize toAt n 0 = q at *
  generalize toAt m 1 = p2 at *
  generalize toAt n 1 = q2 at *
  have sk : ∀ (W W' : World), (fun W : World => W.cell? ⟨w.heap.size, 0, none⟩ = some (.int .i64 m.kind) ∧ W.cell? ⟨w.heap.size, 3, none⟩ = some (.slice (some ⟨b2, o2, none⟩) 2 c2) ∧ W.cell? ⟨w.heap.size + 1, 3, none⟩ = some (.slice (some ⟨b4, o4, none⟩) 2 c4) ∧ W.cell? ⟨b2, o2, none⟩ = some (.int .i64 (p : Int)) ∧ W.cell? ⟨b4, o4, none⟩ = some (.int .i64 (q : Int)) ∧ W.cell? ⟨b2, o2 + 1, none⟩ = some (.int .i64 (p2 : Int)) ∧ W.cell? ⟨b4, o4 + 1, none⟩ = some (.int .i64 (q2 : Int))) W → Below (w.heap.size + 1 + 1) W W' → (fun W : World => W.cell? ⟨w.heap.size, 0, none⟩ = some (.int .i64 m.kind) ∧ W.cell? ⟨w.heap.size, 3, none⟩ = some (.slice (some ⟨b2, o2, none⟩) 2 c2) ∧ W.cell? ⟨w.heap.size + 1, 3, none⟩ = some (.slice (some ⟨b4, o4, none⟩) 2 c4) ∧ W.cell? ⟨b2, o2, none⟩ = some (.int .i64 (p : Int)) ∧ W.cell? ⟨b4, o4, none⟩ = some (.int .i64 (q : Int)) ∧ W.cell? ⟨b2, o2 + 1, none⟩ = some (.int .i64 (p2 : Int)) ∧ W.cell? ⟨b4, o4 + 1, none⟩ = some (.int .i64 (q2 : Int))) W' := fun W W' hs hb => ⟨(hb.cell (p := ⟨w.heap.size, 0, none⟩) (by show w.heap.size < _; omega)).trans hs.1, (hb.cell (p := ⟨w.heap.size, 3, none⟩) (by show w.heap.size < _; omega)).trans hs.2.1, (hb.cell (p := ⟨w.heap.size + 1, 3, none⟩) (by show w.heap.size + 1 < _; omega)).trans hs.2.2.1, (hb.cell (p := ⟨b2, o2, none⟩) (by show b2 < _; omega)).trans hs.2.2.2.1, (hb.cell (p := ⟨b4, o4, none⟩) (by show b4 < _; omega)).trans hs.2.2.2.2.1, (hb.cell (p := ⟨b2, o2 + 1, none⟩) (by show b2 < _; omega)).trans hs.2.2.2.2.2.1, (hb.cell (p := ⟨b4, o4 + 1, none⟩) (by show b4 < _; omega)).trans hs.2.2.2.2.2.2⟩
  have sk3 : ∀ (bb : Bool) (W W' : World), (fun W : World => W.cell? ⟨w.heap.size, 3, none⟩ = some (.slice (some ⟨b2, o2, none⟩) 2 c2) ∧ W.cell? ⟨w.heap.size + 1, 3, none⟩ = some (.slice (some ⟨b4, o4, none⟩) 2 c4) ∧ W.cell? ⟨b2, o2 + 1, none⟩ = some (.int .i64 (p2 : Int)) ∧ W.cell? ⟨b4, o4 + 1, none⟩ = some (.int .i64 (q2 : Int)) ∧ W.cell? ⟨w.heap.size + 1 + 1, 0, none⟩ = some (.int .i64 (p : Int)) ∧ W.cell? ⟨w.heap.size + 1 + 1, 1, none⟩ = some (.int .i64 (q : Int)) ∧ W.cell? ⟨w.heap.size + 1 + 1, 2, none⟩ = some (.bool bb)) W → Below (w.heap.size + 1 + 1 + 1) W W' → (fun W : World => W.cell? ⟨w.heap.size, 3, none⟩ = some (.slice (some ⟨b2, o2, none⟩) 2 c2) ∧ W.cell? ⟨w.heap.size + 1, 3, none⟩ = some (.slice (some ⟨b4, o4, none⟩) 2 c4) ∧ W.cell? ⟨b2, o2 + 1, none⟩ = some (.int .i64 (p2 : Int)) ∧ W.cell? ⟨b4, o4 + 1, none⟩ = some (.int .i64 (q2 : Int)) ∧ W.cell? ⟨w.heap.size + 1 + 1, 0, none⟩ = some (.int .i64 (p : Int)) ∧ W.cell? ⟨w.heap.size + 1 + 1, 1, none⟩ = some (.int .i64 (q : Int)) ∧ W.cell? ⟨w.heap.size + 1 + 1, 2, none⟩ = some (.bool bb)) W' := fun bb => by exact fun W W' hs hb => ⟨(hb.cell (p := ⟨w.heap.size, 3, none⟩) (by show w.heap.size < _; omega)).trans hs.1, (hb.cell (p := ⟨w.heap.size + 1, 3, none⟩) (by show w.heap.size + 1 < _; omega)).trans hs.2.1, (hb.cell (p := ⟨b2, o2 + 1, none⟩) (by show b2 < _; omega)).trans hs.2.2.1, (hb.cell (p := ⟨b4, o4 + 1, none⟩) (by show b4 < _; omega)).trans hs.2.2.2.1, (hb.cell (p := ⟨w.heap.size + 1 + 1, 0, none⟩) (by show w.heap.size + 1 + 1 < _; omega)).trans hs.2.2.2.2.1, (hb.cell (p := ⟨w.heap.size + 1 + 1, 1, none⟩) (by show w.heap.size + 1 + 1 < _; omega)).trans hs.2.2.2.2.2.1, (hb.cell (p := ⟨w.heap.size + 1 + 1, 2, none⟩) (by show w.heap.size + 1 + 1 < _; omega)).trans hs.2.2.2.2.2.2⟩
  have HS0 := hideK (show (fun W : World => W.cell? ⟨w.heap.size, 0, none⟩ = some (.int .i64 m.kind) ∧ W.cell? ⟨w.heap.size, 3, none⟩ = some (.slice (some ⟨b2, o2, none⟩) 2 c2) ∧ W.cell? ⟨w.heap.size + 1, 3, none⟩ = some (.slice (some ⟨b4, o4, none⟩) 2 c4) ∧ W.cell? ⟨b2, o2, none⟩ = some (.int .i64 (p : Int)) ∧ W.cell? ⟨b4, o4, none⟩ = some (.int .i64 (q : Int)) ∧ W.cell? ⟨b2, o2 + 1, none⟩ = some (.int .i64 (p2 : Int)) ∧ W.cell? ⟨b4, o4 + 1, none⟩ = some (.int .i64 (q2 : Int))) ((w.alloc (.cells #[.int .i64 m.kind, .int .i64 m.so, .slice a1 m.labs.length c1, .slice (some ⟨b2, o2, none⟩) 2 c2] 60)).alloc (.cells #[.int .i64 n.kind, .int .i64 n.so, .slice a3 n.labs.length c3, .slice (some ⟨b4, o4, none⟩) 2 c4] 60)).drew from ⟨x0, x3, y3, d2, d4, f2, f4⟩)
  have HSX := hideK (show ∀ o : Obj, (fun W : World => W.cell? ⟨w.heap.size, 0, none⟩ = some (.int .i64 m.kind) ∧ W.cell? ⟨w.heap.size, 3, none⟩ = some (.slice (some ⟨b2, o2, none⟩) 2 c2) ∧ W.cell? ⟨w.heap.size + 1, 3, none⟩ = some (.slice (some ⟨b4, o4, none⟩) 2 c4) ∧ W.cell? ⟨b2, o2, none⟩ = some (.int .i64 (p : Int)) ∧ W.cell? ⟨b4, o4, none⟩ = some (.int .i64 (q : Int)) ∧ W.cell? ⟨b2, o2 + 1, none⟩ = some (.int .i64 (p2 : Int)) ∧ W.cell? ⟨b4, o4 + 1, none⟩ = some (.int .i64 (q2 : Int))) (((w.alloc (.cells #[.int .i64 m.kind, .int .i64 m.so, .slice a1 m.labs.length c1, .slice (some ⟨b2, o2, none⟩) 2 c2] 60)).alloc (.cells #[.int .i64 n.kind, .int .i64 n.so, .slice a3 n.labs.length c3, .slice (some ⟨b4, o4, none⟩) 2 c4] 60)).alloc o).drew from fun o => sk _ _ HS0.out (by rw [← alloc_drew]; exact (Below.refl _ _).alloc (by simp) _))
  have HS3 := hideK (show ∀ bb : Bool, (fun W : World => W.cell? ⟨w.heap.size, 3, none⟩ = some (.slice (some ⟨b2, o2, none⟩) 2 c2) ∧ W.cell? ⟨w.heap.size + 1, 3, none⟩ = some (.slice (some ⟨b4, o4, none⟩) 2 c4) ∧ W.cell? ⟨b2, o2 + 1, none⟩ = some (.int .i64 (p2 : Int)) ∧ W.cell? ⟨b4, o4 + 1, none⟩ = some (.int .i64 (q2 : Int)) ∧ W.cell? ⟨w.heap.size + 1 + 1, 0, none⟩ = some (.int .i64 (p : Int)) ∧ W.cell? ⟨w.heap.size + 1 + 1, 1, none⟩ = some (.int .i64 (q : Int)) ∧ W.cell? ⟨w.heap.size + 1 + 1, 2, none⟩ = some (.bool bb)) (((w.alloc (.cells #[.int .i64 m.kind, .int .i64 m.so, .slice a1 m.labs.length c1, .slice (some ⟨b2, o2, none⟩) 2 c2] 60)).alloc (.cells #[.int .i64 n.kind, .int .i64 n.so, .slice a3 n.labs.length c3, .slice (some ⟨b4, o4, none⟩) 2 c4] 60)).alloc (.cells #[.int .i64 (p : Int), .int .i64 (q : Int), .bool bb] 57)).drew.drew from fun bb => ⟨(HSX.out _).2.1, (HSX.out _).2.2.1, (HSX.out _).2.2.2.2.2.1, (HSX.out _).2.2.2.2.2.2, by go_cell, by go_cell, by go_cell⟩)
  have HSY := hideK (show ∀ (bb : Bool) (o : Obj), (fun W : World => W.cell? ⟨w.heap.size, 3, none⟩ = some (.slice (some ⟨b2, o2, none⟩) 2 c2) ∧ W.cell? ⟨w.heap.size + 1, 3, none⟩ = some (.slice (some ⟨b4, o4, none⟩) 2 c4) ∧ W.cell? ⟨b2, o2 + 1, none⟩ = some (.int .i64 (p2 : Int)) ∧ W.cell? ⟨b4, o4 + 1, none⟩ = some (.int .i64 (q2 : Int)) ∧ W.cell? ⟨w.heap.size + 1 + 1, 0, none⟩ = some (.int .i64 (p : Int)) ∧ W.cell? ⟨w.heap.size + 1 + 1, 1, none⟩ = some (.int .i64 (q : Int)) ∧ W.cell? ⟨w.heap.size + 1 + 1, 2, none⟩ = some (.bool bb)) ((((w.alloc (.cells #[.int .i64 m.kind, .int .i64 m.so, .slice a1 m.labs.length c1, .slice (some ⟨b2, o2, none⟩) 2 c2] 60)).alloc (.cells #[.int .i64 n.kind, .int .i64 n.so, .slice a3 n.labs.length c3, .slice (some ⟨b4, o4, none⟩) 2 c4] 60)).alloc (.cells #[.int .i64 (p : Int), .int .i64 (q : Int), .bool bb] 57)).alloc o).drew.drew from fun bb o => sk3 bb _ _ (HS3.out bb) (by rw [← alloc_drew, ← alloc_drew]; exact (Below.refl _ _).alloc (by simp) _))
  have HF := hideK (fun bb : Bool => stl_two (((w.alloc (.cells #[.int .i64 m.kind, .int .i64 m.so, .slice a1 m.labs.length c1, .slice (some ⟨b2, o2, none⟩) 2 c2] 60)).alloc (.cells #[.int .i64 n.kind, .int .i64 n.so, .slice a3 n.labs.length c3, .slice (some ⟨b4, o4, none⟩) 2 c4] 60)).alloc (.cells #[.int .i64 (p : Int), .int .i64 (q : Int), .bool bb] 57)) w.heap.size (by simp; omega) (capB, p, q, bb) (dotB, p2, q2, t) 78)
  have HB := hideK (show ∀ (bb : Bool) (o : Obj), Below w.heap.size w ((((w.alloc (.cells #[.int .i64 m.kind, .int .i64 m.so, .slice a1 m.labs.length c1, .slice (some ⟨b2, o2, none⟩) 2 c2] 60)).alloc (.cells #[.int .i64 n.kind, .int .i64 n.so, .slice a3 n.labs.length c3, .slice (some ⟨b4, o4, none⟩) 2 c4] 60)).alloc (.cells #[.int .i64 (p : Int), .int .i64 (q : Int), .bool bb] 57)).alloc o).drew.drew from fun bb o => ((E0.out.bl.alloc E0.out.bl.size _).alloc (E0.out.bl.alloc E0.out.bl.size _).size _).drew.drew)
  have hsz : ∀ bb : Bool, (((w.alloc (.cells #[.int .i64 m.kind, .int .i64 m.so, .slice a1 m.labs.length c1, .slice (some ⟨b2, o2, none⟩) 2 c2] 60)).alloc (.cells #[.int .i64 n.kind, .int .i64 n.so, .slice a3 n.labs.length c3, .slice (some ⟨b4, o4, none⟩) 2 c4] 60)).alloc (.cells #[.int .i64 (p : Int), .int .i64 (q : Int), .bool bb] 57)).heap.size = w.heap.size + 1 + 1 + 1 := fun bb => by simp
  simp only [hsz] at HF
  have hk2 : (m.kind == 2) = false ∧ (m.kind == 3) = false := by
    rcases hk with h | h
    · exact ⟨by rw [h]; rfl, by rw [h]; rfl⟩
    · exact ⟨by rw [h]; rfl, by rw [h]; rfl⟩
  obtain ⟨k2, k3⟩ := hk2
  have hk4 : (m.kind == 4) = true ∨ ((m.kind == 4) = false ∧ (m.kind == 5) = true) := by
    rcases hk with h | h
    · exact .inl (by rw [h]; rfl)
    · exact .inr ⟨by rw [h]; rfl, by rw [h]; rfl⟩
  clear h2 h4 hk hbB hst l2 l4 d2 d4 f2 f4 sk sk3 hsz
  rcases hk4 with k4 | ⟨k4, k5⟩
  · rw [show (t != (m.kind == 4)) = (!t) from by rw [k4]; cases t <;> rfl]
    go_enter Tryd.func29, Tryd.ntmps29
    go_wp2_with fail
    go_region_held3 (fun W : World => W.cell? ⟨w.heap.size, 0, none⟩ = some (.int .i64 m.kind) ∧ W.cell? ⟨w.heap.size, 3, none⟩ = some (.slice (some ⟨b2, o2, none⟩) 2 c2) ∧ W.cell? ⟨w.heap.size + 1, 3, none⟩ = some (.slice (some ⟨b4, o4, none⟩) 2 c4) ∧ W.cell? ⟨b2, o2, none⟩ = some (.int .i64 (p : Int)) ∧ W.cell? ⟨b4, o4, none⟩ = some (.int .i64 (q : Int)) ∧ W.cell? ⟨b2, o2 + 1, none⟩ = some (.int .i64 (p2 : Int)) ∧ W.cell? ⟨b4, o4 + 1, none⟩ = some (.int .i64 (q2 : Int))) (first | exact HS0.out | exact HSX.out _ | assumption) (fail)
    go_wp2_with fail
    go_region_held3 (fun W : World => W.cell? ⟨w.heap.size, 3, none⟩ = some (.slice (some ⟨b2, o2, none⟩) 2 c2) ∧ W.cell? ⟨w.heap.size + 1, 3, none⟩ = some (.slice (some ⟨b4, o4, none⟩) 2 c4) ∧ W.cell? ⟨b2, o2 + 1, none⟩ = some (.int .i64 (p2 : Int)) ∧ W.cell? ⟨b4, o4 + 1, none⟩ = some (.int .i64 (q2 : Int)) ∧ W.cell? ⟨w.heap.size + 1 + 1, 0, none⟩ = some (.int .i64 (p : Int)) ∧ W.cell? ⟨w.heap.size + 1 + 1, 1, none⟩ = some (.int .i64 (q : Int)) ∧ W.cell? ⟨w.heap.size + 1 + 1, 2, none⟩ = some (.bool (!t))) (first | exact HS3.out _ | exact HSY.out _ _ | assumption) (fail)
    go_wp2_with fail
    go_ret
    exact ⟨⟨_, _, rfl, HF.out _⟩, HB.out _ _⟩
  · rw [show (t != (m.kind == 4)) = t from by rw [k4]; cases t <;> rfl]
    go_enter Tryd.func29, Tryd.ntmps29
    go_wp2_with fail
    go_region_held3 (fun W : World => W.cell? ⟨w.heap.size, 0, none⟩ = some (.int .i64 m.kind) ∧ W.cell? ⟨w.heap.size, 3, none⟩ = some (.slice (some ⟨b2, o2, none⟩) 2 c2) ∧ W.cell? ⟨w.heap.size + 1, 3, none⟩ = some (.slice (some ⟨b4, o4, none⟩) 2 c4) ∧ W.cell? ⟨b2, o2, none⟩ = some (.int .i64 (p : Int)) ∧ W.cell? ⟨b4, o4, none⟩ = some (.int .i64 (q : Int)) ∧ W.cell? ⟨b2, o2 + 1, none⟩ = some (.int .i64 (p2 : Int)) ∧ W.cell? ⟨b4, o4 + 1, none⟩ = some (.int .i64 (q2 : Int))) (first | exact HS0.out | exact HSX.out _ | assumption) (fail)
    go_wp2_with fail
    go_region_held3 (fun W : World => W.cell? ⟨w.heap.size, 3, none⟩ = some (.slice (some ⟨b2, o2, none⟩) 2 c2) ∧ W.cell? ⟨w.heap.size + 1, 3, none⟩ = some (.slice (some ⟨b4, o4, none⟩) 2 c4) ∧ W.cell? ⟨b2, o2 + 1, none⟩ = some (.int .i64 (p2 : Int)) ∧ W.cell? ⟨b4, o4 + 1, none⟩ = some (.int .i64 (q2 : Int)) ∧ W.cell? ⟨w.heap.size + 1 + 1, 0, none⟩ = some (.int .i64 (p : Int)) ∧ W.cell? ⟨w.heap.size + 1 + 1, 1, none⟩ = some (.int .i64 (q : Int)) ∧ W.cell? ⟨w.heap.size + 1 + 1, 2, none⟩ = some (.bool t)) (first | exact HS3.out _ | exact HSY.out _ _ | assumption) (fail)
    go_wp2_with fail
    go_ret
    exact ⟨⟨_, _, rfl, HF.out _⟩, HB.out _ _⟩
end Go.Proofs.YthhbbhijpkoelaaDoor
