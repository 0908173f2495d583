/-
  The contract of comply.stepsFrom, for every two nodes that get on.
-/
import Derived.Test.YtnlpnbelkkgghaaDoorVq
import Derived.Test.YtnlpnbelkkgghaaDoorIj
namespace Go.Proofs.YtnlpnbelkkgghaaDoor
open Go.RowKit Go.Shelf

def sCC (s : Sg Pc) : List Value := [.string s.1, .int .i64 (s.2.1 : Int), .int .i64 (s.2.2 : Int)]
def stCC (ss : List (Sg Pc)) : List Value := ss.flatMap sCC
/-- steps in memory -/
def STC (W : World) (L B : Nat) (ss : List (Sg Pc)) (a : Option Addr) : Prop := ss = [] ∨ ∃ b o, a = some ⟨b, o, none⟩ ∧ (L ≤ b ∧ b < B) ∧ ∀ i (h : i < ss.length), W.cell? ⟨b, o + i * 3, none⟩ = some (.string ss[i].1) ∧ W.cell? ⟨b, o + i * 3 + 1, none⟩ = some (.int .i64 (ss[i].2.1 : Int)) ∧ W.cell? ⟨b, o + i * 3 + 2, none⟩ = some (.int .i64 (ss[i].2.2 : Int))
theorem stc_one (W : World) (L : Nat) (hL : L ≤ W.heap.size) (s : Sg Pc) (ty : TypeId) : STC (W.alloc (.cells #[.string s.1, .int .i64 (s.2.1 : Int), .int .i64 (s.2.2 : Int)] ty)).drew L (W.alloc (.cells #[.string s.1, .int .i64 (s.2.1 : Int), .int .i64 (s.2.2 : Int)] ty)).drew.heap.size [s] (some ⟨W.heap.size, 0, none⟩) := by
  refine .inr ⟨W.heap.size, 0, rfl, ⟨hL, by simp⟩, fun i hi => ?_⟩
  obtain rfl : i = 0 := by simp at hi; omega
  exact ⟨by go_cell, by go_cell, by go_cell⟩
set_option maxRecDepth 100000 in
set_option maxHeartbeats 4000000 in
theorem stepsC_one (m n : Nd) (a1 a2 a3 a4 : Option Addr) (c1 c2 c3 c4 B : Nat) (w : World) (h2 : NI w B m.to a2) (h4 : NI w B n.to a4) (hB : B ≤ w.heap.size) (hk : m.kind = 2 ∨ m.kind = 3) (l2 : m.to.length = 1) (l4 : n.to.length = 1) :
    Calls Tryd.prog 116 #[ndVal m a1 c1 a2 c2, ndVal n a3 c3 a4 c4] w fun e w' => (∃ ast cst, e = .returned (.slice ast (stepsC m n).length cst) ∧ STC w' w.heap.size w'.heap.size (stepsC m n) ast) ∧ Below w.heap.size w w' := by
  have hst : stepsC m n = [(dotB, toAt m 0, toAt n 0)] := by unfold stepsC; rw [if_pos hk]
  rw [hst]
  have E0 := hideK (EB.new w m n a1 a2 a3 a4 c1 c2 c3 c4)
  obtain ⟨x0, x1, x2, x3⟩ := E0.out.x
  obtain ⟨y0, y1, y2, y3⟩ := E0.out.y
  simp only [Nat.zero_add] at x1 x2 x3 y1 y2 y3
  have hbB := E0.out.bl.mono hB
  obtain ⟨b2, o2, rfl, hb2, d2⟩ := toAt_cell (h2.keep hbB) (i := 0) (by omega)
  obtain ⟨b4, o4, rfl, hb4, d4⟩ := toAt_cell (h4.keep hbB) (i := 0) (by omega)
  rw [Nat.add_zero] at d2 d4
  rw [l2, l4] at E0 x0 x1 x2 x3 y0 y1 y2 y3 d2 d4
  simp only [ndVal, l2, l4]
  generalize toAt m 0 = p at *
  generalize toAt n 0 = q at *
  have sk : ∀ (W W' : World), (fun W : World => W.cell? ⟨w.heap.size, 3, none⟩ = some (.slice (some ⟨b2, o2, none⟩) 1 c2) ∧ W.cell? ⟨w.heap.size + 1, 3, none⟩ = some (.slice (some ⟨b4, o4, none⟩) 1 c4) ∧ W.cell? ⟨b2, o2, none⟩ = some (.int .i64 (p : Int)) ∧ W.cell? ⟨b4, o4, none⟩ = some (.int .i64 (q : Int))) W → Below (w.heap.size + 1 + 1) W W' → (fun W : World => W.cell? ⟨w.heap.size, 3, none⟩ = some (.slice (some ⟨b2, o2, none⟩) 1 c2) ∧ W.cell? ⟨w.heap.size + 1, 3, none⟩ = some (.slice (some ⟨b4, o4, none⟩) 1 c4) ∧ W.cell? ⟨b2, o2, none⟩ = some (.int .i64 (p : Int)) ∧ W.cell? ⟨b4, o4, none⟩ = some (.int .i64 (q : Int))) W' := fun W W' hs hb => ⟨(hb.cell (p := ⟨w.heap.size, 3, none⟩) (by show w.heap.size < _; omega)).trans hs.1, (hb.cell (p := ⟨w.heap.size + 1, 3, none⟩) (by show w.heap.size + 1 < _; omega)).trans hs.2.1, (hb.cell (p := ⟨b2, o2, none⟩) (by show b2 < _; omega)).trans hs.2.2.1, (hb.cell (p := ⟨b4, o4, none⟩) (by show b4 < _; omega)).trans hs.2.2.2⟩
  have HS0 := hideK (show (fun W : World => W.cell? ⟨w.heap.size, 3, none⟩ = some (.slice (some ⟨b2, o2, none⟩) 1 c2) ∧ W.cell? ⟨w.heap.size + 1, 3, none⟩ = some (.slice (some ⟨b4, o4, none⟩) 1 c4) ∧ W.cell? ⟨b2, o2, none⟩ = some (.int .i64 (p : Int)) ∧ W.cell? ⟨b4, o4, none⟩ = some (.int .i64 (q : Int))) ((w.alloc (.cells #[.int .i64 m.kind, .int .i64 m.so, .slice a1 m.labs.length c1, .slice (some ⟨b2, o2, none⟩) 1 c2] 41)).alloc (.cells #[.int .i64 n.kind, .int .i64 n.so, .slice a3 n.labs.length c3, .slice (some ⟨b4, o4, none⟩) 1 c4] 41)).drew from ⟨x3, y3, d2, d4⟩)
  have HSX := hideK (show ∀ o : Obj, (fun W : World => W.cell? ⟨w.heap.size, 3, none⟩ = some (.slice (some ⟨b2, o2, none⟩) 1 c2) ∧ W.cell? ⟨w.heap.size + 1, 3, none⟩ = some (.slice (some ⟨b4, o4, none⟩) 1 c4) ∧ W.cell? ⟨b2, o2, none⟩ = some (.int .i64 (p : Int)) ∧ W.cell? ⟨b4, o4, none⟩ = some (.int .i64 (q : Int))) (((w.alloc (.cells #[.int .i64 m.kind, .int .i64 m.so, .slice a1 m.labs.length c1, .slice (some ⟨b2, o2, none⟩) 1 c2] 41)).alloc (.cells #[.int .i64 n.kind, .int .i64 n.so, .slice a3 n.labs.length c3, .slice (some ⟨b4, o4, none⟩) 1 c4] 41)).alloc o).drew from fun o => sk _ _ HS0.out (by rw [← alloc_drew]; exact (Below.refl _ _).alloc (by simp) _))
  have HF := hideK (stc_one ((w.alloc (.cells #[.int .i64 m.kind, .int .i64 m.so, .slice a1 m.labs.length c1, .slice (some ⟨b2, o2, none⟩) 1 c2] 41)).alloc (.cells #[.int .i64 n.kind, .int .i64 n.so, .slice a3 n.labs.length c3, .slice (some ⟨b4, o4, none⟩) 1 c4] 41)) w.heap.size (by simp; omega) (dotB, p, q) 190)
  have HB := hideK (show Below w.heap.size w (((w.alloc (.cells #[.int .i64 m.kind, .int .i64 m.so, .slice a1 m.labs.length c1, .slice (some ⟨b2, o2, none⟩) 1 c2] 41)).alloc (.cells #[.int .i64 n.kind, .int .i64 n.so, .slice a3 n.labs.length c3, .slice (some ⟨b4, o4, none⟩) 1 c4] 41)).alloc (.cells #[.string dotB, .int .i64 (p : Int), .int .i64 (q : Int)] 190)).drew from (E0.out.bl.alloc E0.out.bl.size _).drew)
  have hsz : ((w.alloc (.cells #[.int .i64 m.kind, .int .i64 m.so, .slice a1 m.labs.length c1, .slice (some ⟨b2, o2, none⟩) 1 c2] 41)).alloc (.cells #[.int .i64 n.kind, .int .i64 n.so, .slice a3 n.labs.length c3, .slice (some ⟨b4, o4, none⟩) 1 c4] 41)).heap.size = w.heap.size + 1 + 1 := by simp
  rw [hsz] at HF
  have hk2 : (m.kind == 2) = true ∨ ((m.kind == 2) = false ∧ (m.kind == 3) = true) := by
    rcases hk with h | h
    · exact .inl (by rw [h]; rfl)
    · exact .inr ⟨by rw [h]; rfl, by rw [h]; rfl⟩
  clear h2 h4 hk hbB hst l2 l4 d2 d4 sk hsz
  rcases hk2 with k2 | ⟨k2, k3⟩
  all_goals
    go_enter Tryd.func116, Tryd.ntmps116
    go_wp2_with fail
    go_region_held3 (fun W : World => W.cell? ⟨w.heap.size, 3, none⟩ = some (.slice (some ⟨b2, o2, none⟩) 1 c2) ∧ W.cell? ⟨w.heap.size + 1, 3, none⟩ = some (.slice (some ⟨b4, o4, none⟩) 1 c4) ∧ W.cell? ⟨b2, o2, none⟩ = some (.int .i64 (p : Int)) ∧ W.cell? ⟨b4, o4, none⟩ = some (.int .i64 (q : Int))) (first | exact HS0.out | exact HSX.out _ | assumption) (fail)
    go_wp2_with fail
    go_ret
    exact ⟨⟨_, _, rfl, HF.out⟩, HB.out⟩
set_option maxRecDepth 100000 in
set_option maxHeartbeats 4000000 in
theorem stepsC_two (m n : Nd) (a1 a2 a3 a4 : Option Addr) (c1 c2 c3 c4 B : Nat) (w : World) (h2 : NI w B m.to a2) (h4 : NI w B n.to a4) (hB : B ≤ w.heap.size) (hk : m.kind = 4 ∨ m.kind = 5) (l2 : m.to.length = 2) (l4 : n.to.length = 2) :
    Calls Tryd.prog 116 #[ndVal m a1 c1 a2 c2, ndVal n a3 c3 a4 c4] w fun e w' => (∃ ast cst, e = .returned (.slice ast (stepsC m n).length cst) ∧ STC w' w.heap.size w'.heap.size (stepsC m n) ast) ∧ Below w.heap.size w w' := by
  have hst : stepsC m n = [(dotB, toAt m 1, toAt n 1)] := by unfold stepsC; rw [if_neg (by omega), if_pos hk]
  rw [hst]
  have E0 := hideK (EB.new w m n a1 a2 a3 a4 c1 c2 c3 c4)
  obtain ⟨x0, x1, x2, x3⟩ := E0.out.x
  obtain ⟨y0, y1, y2, y3⟩ := E0.out.y
  simp only [Nat.zero_add] at x1 x2 x3 y1 y2 y3
  have hbB := E0.out.bl.mono hB
  obtain ⟨b2, o2, rfl, hb2, d2⟩ := toAt_cell (h2.keep hbB) (i := 1) (by omega)
  obtain ⟨b4, o4, rfl, hb4, d4⟩ := toAt_cell (h4.keep hbB) (i := 1) (by omega)
  rw [l2, l4] at E0 x0 x1 x2 x3 y0 y1 y2 y3 d2 d4
  simp only [ndVal, l2, l4]
  generalize toAt m 1 = p at *
  generalize toAt n 1 = q at *
  have sk : ∀ (W W' : World), (fun W : World => W.cell? ⟨w.heap.size, 3, none⟩ = some (.slice (some ⟨b2, o2, none⟩) 2 c2) ∧ W.cell? ⟨w.heap.size + 1, 3, none⟩ = some (.slice (some ⟨b4, o4, none⟩) 2 c4) ∧ W.cell? ⟨b2, o2 + 1, none⟩ = some (.int .i64 (p : Int)) ∧ W.cell? ⟨b4, o4 + 1, none⟩ = some (.int .i64 (q : Int))) W → Below (w.heap.size + 1 + 1) W W' → (fun W : World => W.cell? ⟨w.heap.size, 3, none⟩ = some (.slice (some ⟨b2, o2, none⟩) 2 c2) ∧ W.cell? ⟨w.heap.size + 1, 3, none⟩ = some (.slice (some ⟨b4, o4, none⟩) 2 c4) ∧ W.cell? ⟨b2, o2 + 1, none⟩ = some (.int .i64 (p : Int)) ∧ W.cell? ⟨b4, o4 + 1, none⟩ = some (.int .i64 (q : Int))) W' := fun W W' hs hb => ⟨(hb.cell (p := ⟨w.heap.size, 3, none⟩) (by show w.heap.size < _; omega)).trans hs.1, (hb.cell (p := ⟨w.heap.size + 1, 3, none⟩) (by show w.heap.size + 1 < _; omega)).trans hs.2.1, (hb.cell (p := ⟨b2, o2 + 1, none⟩) (by show b2 < _; omega)).trans hs.2.2.1, (hb.cell (p := ⟨b4, o4 + 1, none⟩) (by show b4 < _; omega)).trans hs.2.2.2⟩
  have HS0 := hideK (show (fun W : World => W.cell? ⟨w.heap.size, 3, none⟩ = some (.slice (some ⟨b2, o2, none⟩) 2 c2) ∧ W.cell? ⟨w.heap.size + 1, 3, none⟩ = some (.slice (some ⟨b4, o4, none⟩) 2 c4) ∧ W.cell? ⟨b2, o2 + 1, none⟩ = some (.int .i64 (p : Int)) ∧ W.cell? ⟨b4, o4 + 1, none⟩ = some (.int .i64 (q : Int))) ((w.alloc (.cells #[.int .i64 m.kind, .int .i64 m.so, .slice a1 m.labs.length c1, .slice (some ⟨b2, o2, none⟩) 2 c2] 41)).alloc (.cells #[.int .i64 n.kind, .int .i64 n.so, .slice a3 n.labs.length c3, .slice (some ⟨b4, o4, none⟩) 2 c4] 41)).drew from ⟨x3, y3, d2, d4⟩)
  have HSX := hideK (show ∀ o : Obj, (fun W : World => W.cell? ⟨w.heap.size, 3, none⟩ = some (.slice (some ⟨b2, o2, none⟩) 2 c2) ∧ W.cell? ⟨w.heap.size + 1, 3, none⟩ = some (.slice (some ⟨b4, o4, none⟩) 2 c4) ∧ W.cell? ⟨b2, o2 + 1, none⟩ = some (.int .i64 (p : Int)) ∧ W.cell? ⟨b4, o4 + 1, none⟩ = some (.int .i64 (q : Int))) (((w.alloc (.cells #[.int .i64 m.kind, .int .i64 m.so, .slice a1 m.labs.length c1, .slice (some ⟨b2, o2, none⟩) 2 c2] 41)).alloc (.cells #[.int .i64 n.kind, .int .i64 n.so, .slice a3 n.labs.length c3, .slice (some ⟨b4, o4, none⟩) 2 c4] 41)).alloc o).drew from fun o => sk _ _ HS0.out (by rw [← alloc_drew]; exact (Below.refl _ _).alloc (by simp) _))
  have HF := hideK (stc_one ((w.alloc (.cells #[.int .i64 m.kind, .int .i64 m.so, .slice a1 m.labs.length c1, .slice (some ⟨b2, o2, none⟩) 2 c2] 41)).alloc (.cells #[.int .i64 n.kind, .int .i64 n.so, .slice a3 n.labs.length c3, .slice (some ⟨b4, o4, none⟩) 2 c4] 41)) w.heap.size (by simp; omega) (dotB, p, q) 190)
  have HB := hideK (show Below w.heap.size w (((w.alloc (.cells #[.int .i64 m.kind, .int .i64 m.so, .slice a1 m.labs.length c1, .slice (some ⟨b2, o2, none⟩) 2 c2] 41)).alloc (.cells #[.int .i64 n.kind, .int .i64 n.so, .slice a3 n.labs.length c3, .slice (some ⟨b4, o4, none⟩) 2 c4] 41)).alloc (.cells #[.string dotB, .int .i64 (p : Int), .int .i64 (q : Int)] 190)).drew from (E0.out.bl.alloc E0.out.bl.size _).drew)
  have hsz : ((w.alloc (.cells #[.int .i64 m.kind, .int .i64 m.so, .slice a1 m.labs.length c1, .slice (some ⟨b2, o2, none⟩) 2 c2] 41)).alloc (.cells #[.int .i64 n.kind, .int .i64 n.so, .slice a3 n.labs.length c3, .slice (some ⟨b4, o4, none⟩) 2 c4] 41)).heap.size = w.heap.size + 1 + 1 := by simp
  rw [hsz] at HF
  have hk2 : ((m.kind == 2) = false ∧ (m.kind == 3) = false ∧ (m.kind == 4) = true) ∨ ((m.kind == 2) = false ∧ (m.kind == 3) = false ∧ (m.kind == 4) = false ∧ (m.kind == 5) = true) := by
    rcases hk with h | h
    · exact .inl ⟨by rw [h]; rfl, by rw [h]; rfl, by rw [h]; rfl⟩
    · exact .inr ⟨by rw [h]; rfl, by rw [h]; rfl, by rw [h]; rfl, by rw [h]; rfl⟩
  clear h2 h4 hk hbB hst l2 l4 d2 d4 sk hsz
  rcases hk2 with ⟨k2, k3, k4⟩ | ⟨k2, k3, k4, k5⟩
  all_goals
    go_enter Tryd.func116, Tryd.ntmps116
    go_wp2_with fail
    go_region_held3 (fun W : World => W.cell? ⟨w.heap.size, 3, none⟩ = some (.slice (some ⟨b2, o2, none⟩) 2 c2) ∧ W.cell? ⟨w.heap.size + 1, 3, none⟩ = some (.slice (some ⟨b4, o4, none⟩) 2 c4) ∧ W.cell? ⟨b2, o2 + 1, none⟩ = some (.int .i64 (p : Int)) ∧ W.cell? ⟨b4, o4 + 1, none⟩ = some (.int .i64 (q : Int))) (first | exact HS0.out | exact HSX.out _ | assumption) (fail)
    go_wp2_with fail
    go_ret
    exact ⟨⟨_, _, rfl, HF.out⟩, HB.out⟩
theorem infoStepC : (Tryd.prog.info? 190).map (fun i => (i.zero, i.size, i.bytes)) = some (some (.agg #[.string ⟨#[]⟩, .int .i64 0, .int .i64 0]), 3, 32) := by kernel_rfl
theorem stCC_at : ∀ (ss : List (Sg Pc)) (i : Nat) (h : i < ss.length) (j : Nat), j < 3 → (stCC ss)[i * 3 + j]? = (sCC ss[i])[j]?
  | [], i, h, _, _ => by simp at h
  | s :: ss, 0, _, j, hj => by
    have e : stCC (s :: ss) = sCC s ++ stCC ss := rfl
    rw [e, List.getElem?_append_left (by simp [sCC]; omega)]
    simp
  | s :: ss, i + 1, h, j, hj => by
    have e : stCC (s :: ss) = sCC s ++ stCC ss := rfl
    have hl : (sCC s).length = 3 := rfl
    rw [e, List.getElem?_append_right (by rw [hl]; omega), hl, show (i + 1) * 3 + j - 3 = i * 3 + j by omega]
    exact stCC_at ss i (by simpa using h) j hj
theorem stCC_snoc (ss : List (Sg Pc)) (s : Sg Pc) : stCC (ss ++ [s]) = stCC ss ++ sCC s := by simp [stCC]
theorem stc_of {W : World} {B : Nat} {u : Value} {ss : List (Sg Pc)} (ho : W.ownsRow B 190 3 u ss.length (stCC ss)) : ∃ a c, u = .slice a ss.length c ∧ STC W B W.heap.size ss a := by
  rcases own_cells ho with ⟨rfl, h0, _⟩ | ⟨g, cap, rfl, hgB, hg, hc⟩
  · exact ⟨none, 0, by rw [h0], .inl (List.length_eq_zero_iff.1 h0)⟩
  · refine ⟨_, _, rfl, .inr ⟨g, 0, rfl, ⟨hgB, hg⟩, fun i hi => ?_⟩⟩
    rw [Nat.zero_add]
    exact ⟨hc (i * 3 + 0) _ ((stCC_at ss i hi 0 (by omega)).trans rfl), hc _ _ ((stCC_at ss i hi 1 (by omega)).trans rfl), hc _ _ ((stCC_at ss i hi 2 (by omega)).trans rfl)⟩
def stLC (m n : Nd) (k : Nat) : List (Sg Pc) := (List.range k).filterMap (labSc m n)
theorem stLC_yes {m n : Nd} {k : Nat} {s : Sg Pc} (h : labSc m n k = some s) : stLC m n (k + 1) = stLC m n k ++ [s] := by
  unfold stLC; rw [List.range_succ, List.filterMap_append]; simp [h]
theorem stLC_no {m n : Nd} {k : Nat} (h : labSc m n k = none) : stLC m n (k + 1) = stLC m n k := by
  unfold stLC; rw [List.range_succ, List.filterMap_append]; simp [h]
theorem stLC_len (m n : Nd) (k : Nat) : (stLC m n k).length ≤ k := by
  have := List.length_filterMap_le (labSc m n) (List.range k)
  simpa [stLC] using this
set_option maxRecDepth 100000 in
set_option maxHeartbeats 8000000 in
theorem stepsC_labs (m n : Nd) (a1 a2 a3 a4 : Option Addr) (c1 c2 c3 c4 B : Nat) (w : World) (h1 : LA w B m.labs a1) (h2 : NI w B m.to a2) (h3 : LA w B n.labs a3) (h4 : NI w B n.to a4) (hB : B ≤ w.heap.size) (hk : m.kind ≠ 2 ∧ m.kind ≠ 3 ∧ m.kind ≠ 4 ∧ m.kind ≠ 5) (l1 : m.labs.length ≤ 6) (l2 : ∀ x, x < m.labs.length → x < m.to.length) (l3 : n.labs.length ≤ 6) (l4 : ∀ x, x < n.labs.length → x < n.to.length) :
    Calls Tryd.prog 116 #[ndVal m a1 c1 a2 c2, ndVal n a3 c3 a4 c4] w fun e w' => (∃ ast cst, e = .returned (.slice ast (stepsC m n).length cst) ∧ STC w' w.heap.size w'.heap.size (stepsC m n) ast) ∧ Below w.heap.size w w' := by
  obtain ⟨i1, hj, hy0, hy1, hy2⟩ := info_parts infoStepC
  have hst : stepsC m n = stLC m n m.labs.length := by unfold stepsC; rw [if_neg (by omega), if_neg (by omega)]; rfl
  rw [hst]
  have E0 := hideK (EB.new w m n a1 a2 a3 a4 c1 c2 c3 c4)
  obtain ⟨x0, x1, x2, x3⟩ := E0.out.x
  obtain ⟨y0, y1, y2, y3⟩ := E0.out.y
  simp only [Nat.zero_add] at x1 x2 x3 y1 y2 y3
  simp only [ndVal]
  have k2 : (m.kind == 2) = false := by simpa using hk.1
  have k3 : (m.kind == 3) = false := by simpa using hk.2.1
  have k4 : (m.kind == 4) = false := by simpa using hk.2.2.1
  have k5 : (m.kind == 5) = false := by simpa using hk.2.2.2
  have l1z : (m.labs.length : Int) ≤ 6 := by omega
  have H1 := hideK h1
  have H2 := hideK h2
  have H3 := hideK h3
  have H4 := hideK h4
  clear hk hst h1 h2 h3 h4
  go_enter Tryd.func116, Tryd.ntmps116
  go_wp2_with fail
  clear x0 x1 x2 x3 y0 y1 y2 y3
  go_loopw [5, 42] (fun u i wr => ∃ k : Nat, k ≤ m.labs.length ∧ i = .int .i64 (k : Int) ∧ wr.ownsRow (w.heap.size + 1 + 1) 190 3 u (stLC m n k).length (stCC (stLC m n k)) ∧ EB w m n a1 a2 a3 a4 c1 c2 c3 c4 wr) (fun _ i _ => m.labs.length - (intOf i).toNat)
  case atStart => exact ⟨0, Nat.zero_le _, rfl, World.ownsRow_nil _ _ _ _, E0.out⟩
  case round =>
    obtain ⟨k, hkl, rfl, hO, hE⟩ := hrel
    by_cases hlt : k < m.labs.length
    · have hltz : (k : Int) < (m.labs.length : Int) := by omega
      have hwrs := hE.lt
      have hbB := hE.bl.mono hB
      obtain ⟨bl, ol, rfl, hbl, hcl⟩ := (H1.out.keep hbB).resolve_left (fun q => by have := congrArg List.length q; simp at this; rw [this] at hlt; simp at hlt)
      have d0 := hcl k (by simpa using hlt)
      rw [List.getElem_map] at d0
      obtain ⟨x0, x1, x2, x3⟩ := hE.x
      obtain ⟨y0, y1, y2, y3⟩ := hE.y
      simp only [Nat.zero_add] at x1 x2 x3 y1 y2 y3
      have hlk : labAtN m k = m.labs[k] := by unfold labAtN; rw [List.getElem?_eq_getElem hlt]; rfl
      have cI := index_any n.labs m.labs[k] a3 c3 B wr (H3.out.keep hbB) (by omega)
      cases hq : hasN n.labs m.labs[k] with
      | false =>
        have ez : idxZ n.labs m.labs[k] = -1 := by unfold idxZ; rw [if_neg (by rw [hq]; simp)]
        rw [ez] at cI
        have HNO := hideK (stLC_no (m := m) (n := n) (k := k) (by unfold labSc; rw [hlk, if_neg (by rw [hq]; simp)]))
        have HO := hideK hO
        have HE := hideK hE
        clear hcl ez hq hlk hbB hO hE
        generalize m.labs[k] = l at *
        go_wp2_with fail
        refine cI.mono ?_
        rintro e w1 ⟨rfl, rfl⟩
        clear cI
        go_wp2_with fail
        go_roundw
        case rel => exact ⟨k + 1, by omega, by go_num, by rw [HNO.out]; exact HO.out, HE.out⟩
        case measure => simp [intOf]; omega
      | true =>
        have hjl := idxB_lt ((hasN_iff _ _).1 hq)
        have ez : idxZ n.labs m.labs[k] = ((idxB n.labs m.labs[k] : Nat) : Int) := by unfold idxZ; rw [if_pos hq]
        rw [ez] at cI
        obtain ⟨b2, o2, rfl, hb2, d2⟩ := toAt_cell (H2.out.keep hbB) (l2 k hlt)
        obtain ⟨b4, o4, rfl, hb4, d4⟩ := toAt_cell (H4.out.keep hbB) (l4 _ hjl)
        have HYES := hideK (stLC_yes (m := m) (n := n) (k := k) (s := (m.labs[k], toAt m k, toAt n (idxB n.labs m.labs[k]))) (by unfold labSc; rw [hlk, if_pos hq]))
        have hjt := l4 _ hjl
        have hkt := l2 k hlt
        have hsl := stLC_len m n k
        clear hcl ez hq hlk
        generalize m.labs[k] = l at *
        generalize idxB n.labs l = j at *
        generalize toAt m k = p at *
        generalize toAt n j = q at *
        generalize stLC m n k = ss at *
        have hjz : (j : Int) < (n.to.length : Int) := by omega
        have hkz : (k : Int) < (m.to.length : Int) := by omega
        have hj0 : (0 : Int) ≤ (j : Int) := by omega
        have hdj : decide ((j : Int) ≥ 0) = true := by simp
        have sk : ∀ (W W' : World), (fun W : World => W.cell? ⟨w.heap.size, 3, none⟩ = some (.slice (some ⟨b2, o2, none⟩) m.to.length c2) ∧ W.cell? ⟨w.heap.size + 1, 3, none⟩ = some (.slice (some ⟨b4, o4, none⟩) n.to.length c4) ∧ W.cell? ⟨b2, o2 + k, none⟩ = some (.int .i64 (p : Int)) ∧ W.cell? ⟨b4, o4 + j, none⟩ = some (.int .i64 (q : Int))) W → Below (w.heap.size + 1 + 1) W W' → (fun W : World => W.cell? ⟨w.heap.size, 3, none⟩ = some (.slice (some ⟨b2, o2, none⟩) m.to.length c2) ∧ W.cell? ⟨w.heap.size + 1, 3, none⟩ = some (.slice (some ⟨b4, o4, none⟩) n.to.length c4) ∧ W.cell? ⟨b2, o2 + k, none⟩ = some (.int .i64 (p : Int)) ∧ W.cell? ⟨b4, o4 + j, none⟩ = some (.int .i64 (q : Int))) W' := fun W W' hs hb => ⟨(hb.cell (p := ⟨w.heap.size, 3, none⟩) (by show w.heap.size < _; omega)).trans hs.1, (hb.cell (p := ⟨w.heap.size + 1, 3, none⟩) (by show w.heap.size + 1 < _; omega)).trans hs.2.1, (hb.cell (p := ⟨b2, o2 + k, none⟩) (by show b2 < _; omega)).trans hs.2.2.1, (hb.cell (p := ⟨b4, o4 + j, none⟩) (by show b4 < _; omega)).trans hs.2.2.2⟩
        have sg : ∀ (W W' : World) (r : Option Nat), (fun W : World => W.cell? ⟨w.heap.size, 3, none⟩ = some (.slice (some ⟨b2, o2, none⟩) m.to.length c2) ∧ W.cell? ⟨w.heap.size + 1, 3, none⟩ = some (.slice (some ⟨b4, o4, none⟩) n.to.length c4) ∧ W.cell? ⟨b2, o2 + k, none⟩ = some (.int .i64 (p : Int)) ∧ W.cell? ⟨b4, o4 + j, none⟩ = some (.int .i64 (q : Int))) W → W.grownBy W' r → w.heap.size + 1 < W.heap.size → (∀ b, b < w.heap.size + 1 + 1 → some b ≠ r) → (fun W : World => W.cell? ⟨w.heap.size, 3, none⟩ = some (.slice (some ⟨b2, o2, none⟩) m.to.length c2) ∧ W.cell? ⟨w.heap.size + 1, 3, none⟩ = some (.slice (some ⟨b4, o4, none⟩) n.to.length c4) ∧ W.cell? ⟨b2, o2 + k, none⟩ = some (.int .i64 (p : Int)) ∧ W.cell? ⟨b4, o4 + j, none⟩ = some (.int .i64 (q : Int))) W' := fun W W' r hs hg hz hr => ⟨(World.cell?_of_block (a := ⟨w.heap.size, 3, none⟩) (hg.block _ (by show w.heap.size < _; omega) (hr (w.heap.size) (by omega)))).trans hs.1, (World.cell?_of_block (a := ⟨w.heap.size + 1, 3, none⟩) (hg.block _ (by show w.heap.size + 1 < _; omega) (hr (w.heap.size + 1) (by omega)))).trans hs.2.1, (World.cell?_of_block (a := ⟨b2, o2 + k, none⟩) (hg.block _ (by show b2 < _; omega) (hr (b2) (by omega)))).trans hs.2.2.1, (World.cell?_of_block (a := ⟨b4, o4 + j, none⟩) (hg.block _ (by show b4 < _; omega) (hr (b4) (by omega)))).trans hs.2.2.2⟩
        have HS0 := hideK (show (fun W : World => W.cell? ⟨w.heap.size, 3, none⟩ = some (.slice (some ⟨b2, o2, none⟩) m.to.length c2) ∧ W.cell? ⟨w.heap.size + 1, 3, none⟩ = some (.slice (some ⟨b4, o4, none⟩) n.to.length c4) ∧ W.cell? ⟨b2, o2 + k, none⟩ = some (.int .i64 (p : Int)) ∧ W.cell? ⟨b4, o4 + j, none⟩ = some (.int .i64 (q : Int))) wr.drew from ⟨x3, y3, d2, d4⟩)
        have HSX := hideK (show ∀ o : Obj, (fun W : World => W.cell? ⟨w.heap.size, 3, none⟩ = some (.slice (some ⟨b2, o2, none⟩) m.to.length c2) ∧ W.cell? ⟨w.heap.size + 1, 3, none⟩ = some (.slice (some ⟨b4, o4, none⟩) n.to.length c4) ∧ W.cell? ⟨b2, o2 + k, none⟩ = some (.int .i64 (p : Int)) ∧ W.cell? ⟨b4, o4 + j, none⟩ = some (.int .i64 (q : Int))) (wr.alloc o).drew from fun o => sk _ _ HS0.out (by rw [← alloc_drew]; exact (Below.refl _ _).alloc (by show w.heap.size + 1 + 1 ≤ wr.heap.size; omega) _))
        have HSG := hideK (show ∀ W', (wr.alloc (.cells #[.string l, .int .i64 (p : Int), .int .i64 (q : Int)] 190)).drew.grownBy W' (Value.ownBlock u5) → (fun W : World => W.cell? ⟨w.heap.size, 3, none⟩ = some (.slice (some ⟨b2, o2, none⟩) m.to.length c2) ∧ W.cell? ⟨w.heap.size + 1, 3, none⟩ = some (.slice (some ⟨b4, o4, none⟩) n.to.length c4) ∧ W.cell? ⟨b2, o2 + k, none⟩ = some (.int .i64 (p : Int)) ∧ W.cell? ⟨b4, o4 + j, none⟩ = some (.int .i64 (q : Int))) W' from fun W' hg => sg _ W' _ (HSX.out _) hg (by simp; omega) (fun b hb e => by have := (hO.lt b e.symm).1; omega))
        have OA := hideK (own_belowG (own_belowG hO ((Below.refl _ _).alloc (Nat.le_refl _) (.cells #[.string l, .int .i64 (p : Int), .int .i64 (q : Int)] 190))) (Below.refl _ _).drew)
        have LR := hideK (own_belowG (World.ownsRow_lit (base := w.heap.size + 1 + 1) (e := 190) (size := 3) wr #[.string l, .int .i64 (p : Int), .int .i64 (q : Int)] 1 (by omega) (by decide) rfl) (Below.refl _ _).drew)
        have HOW := hideK (show ∀ b, Value.ownBlock u5 = some b → w.heap.size + 1 + 1 ≤ b from fun b hb => (hO.lt b hb).1)
        have HEB := hideK (show ∀ W', (wr.alloc (.cells #[.string l, .int .i64 (p : Int), .int .i64 (q : Int)] 190)).drew.grownBy W' (Value.ownBlock u5) → EB w m n (some ⟨bl, ol, none⟩) (some ⟨b2, o2, none⟩) a3 (some ⟨b4, o4, none⟩) c1 c2 c3 c4 W' from fun W' hg => hE.below ((((Below.refl _ _).alloc (by show w.heap.size + 1 + 1 ≤ wr.heap.size; omega) _).drew).grown hg (by simp; omega) HOW.out))
        clear sk sg hE hO hbB
        go_wp2_with fail
        refine cI.mono ?_
        rintro e w1 ⟨rfl, rfl⟩
        clear cI
        go_wp2_with fail
        go_region_held3 (fun W : World => W.cell? ⟨w.heap.size, 3, none⟩ = some (.slice (some ⟨b2, o2, none⟩) m.to.length c2) ∧ W.cell? ⟨w.heap.size + 1, 3, none⟩ = some (.slice (some ⟨b4, o4, none⟩) n.to.length c4) ∧ W.cell? ⟨b2, o2 + k, none⟩ = some (.int .i64 (p : Int)) ∧ W.cell? ⟨b4, o4 + j, none⟩ = some (.int .i64 (q : Int))) (first | exact HS0.out | exact HSX.out _ | exact HSG.out _ HG7.out | assumption) ((refine step_append_rows _ rfl (.tmp 53) (.tmp 67) 187 rfl (w.heap.size + 1 + 1) (w.heap.size + 1 + 1) 190 i1 _ 3 32 Tryd.underlying187 hj hy0 hy1 hy2 rfl (by decide) _ _ _ rfl OA.out _ _ _ rfl LR.out (by simp [Value.oneCell']) (by unfold maxLen; omega) (by omega) (by simp; omega) ?_; intro v7 w7 hO7 hg7 hat7; have HG7 := hideK hg7; have HO7 := hideK hO7; clear hO7 hg7 hat7))
        have HE7 := hideK (HEB.out _ HG7.out)
        clear x0 x1 x2 x3 y0 y1 y2 y3 d0 d2 d4
        go_wp2_with fail
        go_roundw
        case rel =>
          refine ⟨k + 1, by omega, by go_num, ?_, HE7.out⟩
          rw [HYES.out, List.length_append, stCC_snoc]
          exact HO7.out
        case measure => simp [intOf]; omega
    · have hltz : ¬ (k : Int) < (m.labs.length : Int) := by omega
      have hkk : k = m.labs.length := by omega
      subst hkk
      obtain ⟨a, c, rfl, hstl⟩ := stc_of hO
      have HSL := hideK (hstl.imp id fun ⟨b, o, e, hl, hc⟩ => ⟨b, o, e, ⟨by omega, hl.2⟩, hc⟩ : STC wr w.heap.size wr.heap.size (stLC m n m.labs.length) a)
      have HB := hideK hE.bl
      clear hO hE hstl
      go_wp2_with fail
      go_ret
      first | exact ⟨⟨_, _, rfl, HSL.out⟩, HB.out⟩ | exact ⟨⟨_, rfl, HSL.out⟩, HB.out⟩ | exact ⟨⟨_, ⟨_, rfl⟩, HSL.out⟩, HB.out⟩
theorem stepsC_len {m n : Nd} (h : okN m) : (stepsC m n).length ≤ 6 := by
  unfold stepsC
  split
  · simp
  split
  · simp
  · have h1 := List.length_filterMap_le (labSc m n) (List.range m.labs.length)
    have h2 := (shp_len (okN_shp h)).1
    rw [List.length_range] at h1
    omega
/-- comply.stepsFrom of every two nodes of kinds that belong together -/
theorem stepsC_any (m n : Nd) (a1 a2 a3 a4 : Option Addr) (c1 c2 c3 c4 B : Nat) (w : World) (h1 : LA w B m.labs a1) (h2 : NI w B m.to a2) (h3 : LA w B n.labs a3) (h4 : NI w B n.to a4) (hB : B ≤ w.heap.size) (hm : okN m) (hn : okN n) (hk : n.kind = kdD m.kind) :
    Calls Tryd.prog 116 #[ndVal m a1 c1 a2 c2, ndVal n a3 c3 a4 c4] w fun e w' => (∃ ast cst, e = .returned (.slice ast (stepsC m n).length cst) ∧ STC w' w.heap.size w'.heap.size (stepsC m n) ast) ∧ Below w.heap.size w w' := by
  have sm := shp_len (okN_shp hm)
  have sn := shp_len (okN_shp hn)
  have kt := kd_turn hm hk
  rcases okN_cases hm with ⟨p1, _, _, p4⟩ | ⟨p1, _, _, p4⟩ | ⟨p1, _, _, p4⟩ | ⟨p1, _, _, p4⟩
  · exact stepsC_labs m n a1 a2 a3 a4 c1 c2 c3 c4 B w h1 h2 h3 h4 hB ⟨by omega, by omega, by omega, by omega⟩ sm.1 (okN_len hm).2.2 sn.1 (okN_len hn).2.2
  · refine stepsC_one m n a1 a2 a3 a4 c1 c2 c3 c4 B w h2 h4 hB p1 p4 ?_
    have q := kt.1
    have q' := kt.2.1
    rcases okN_cases hn with ⟨q1, _, _, q4⟩ | ⟨q1, _, _, q4⟩ | ⟨q1, _, _, q4⟩ | ⟨q1, _, _, q4⟩ <;> omega
  · refine stepsC_two m n a1 a2 a3 a4 c1 c2 c3 c4 B w h2 h4 hB p1 p4 ?_
    have q := kt.2.2.1
    have q' := kt.2.2.2.1
    rcases okN_cases hn with ⟨q1, _, _, q4⟩ | ⟨q1, _, _, q4⟩ | ⟨q1, _, _, q4⟩ | ⟨q1, _, _, q4⟩ <;> omega
  · exact stepsC_labs m n a1 a2 a3 a4 c1 c2 c3 c4 B w h1 h2 h3 h4 hB ⟨by omega, by omega, by omega, by omega⟩ sm.1 (okN_len hm).2.2 sn.1 (okN_len hn).2.2
end Go.Proofs.YtnlpnbelkkgghaaDoor
