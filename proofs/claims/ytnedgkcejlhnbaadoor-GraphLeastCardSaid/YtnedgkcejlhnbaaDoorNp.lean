/-
  Counts of ways in groups of digits: plain mathematics, and the contract of graph.count's plus.
-/
import Derived.Test.YtnedgkcejlhnbaaDoorXb
import Derived.Deep.RegionHeld3
import Derived.Below
import Derived.Lib.SmallJoins
namespace Go.Proofs.YtnedgkcejlhnbaaDoor
open Go.RowKit

theorem hideP {p : Prop} (h : p) : Hid p := h
def gpB : Nat := 1000000000000000000
/-- groups of digits, the lowest first, with what is carried -/
def plusL : List Nat → List Nat → Nat → List Nat
  | a :: c, b :: d, k => ((a + b + k) % gpB) :: plusL c d ((a + b + k) / gpB)
  | _, _, _ => []
def zero9 : List Nat := [0, 0, 0, 0, 0, 0, 0, 0, 0]
def one9 : List Nat := [1, 0, 0, 0, 0, 0, 0, 0, 0]
theorem plusL_len : ∀ (c d : List Nat) (k : Nat), c.length = d.length → (plusL c d k).length = c.length
  | [], [], _, _ => rfl
  | a :: c, b :: d, k, h => by
    rw [plusL, List.length_cons, plusL_len c d _ (by simpa using h), List.length_cons]
theorem plusL_lt : ∀ (c d : List Nat) (k : Nat), ∀ x ∈ plusL c d k, x < gpB
  | [], _, _, x, h => by simp [plusL] at h
  | _ :: _, [], _, x, h => by simp [plusL] at h
  | a :: c, b :: d, k, x, h => by
    rw [plusL] at h
    rcases List.mem_cons.1 h with rfl | h
    · exact Nat.mod_lt _ (by decide)
    · exact plusL_lt c d _ x h
/-- what is carried into group i -/
def cyL : List Nat → List Nat → Nat → Nat → Nat
  | a :: c, b :: d, k, i + 1 => cyL c d ((a + b + k) / gpB) i
  | _, _, k, _ => k
theorem cyL_zero (c d : List Nat) (k : Nat) : cyL c d k 0 = k := by cases c <;> cases d <;> rfl
theorem cyL_succ : ∀ (i : Nat) (c d : List Nat) (k : Nat), i < c.length → c.length = d.length → cyL c d k (i + 1) = (c.getD i 0 + d.getD i 0 + cyL c d k i) / gpB
  | _, [], _, _, h, _ => by simp at h
  | _, _ :: _, [], _, _, h => by simp at h
  | 0, a :: c, b :: d, k, _, _ => by rw [cyL, cyL_zero, cyL_zero]; rfl
  | i + 1, a :: c, b :: d, k, h, e => by
    rw [cyL, cyL_succ i c d _ (by simpa using h) (by simpa using e), cyL]
    simp only [List.getD_cons_succ]
theorem plusL_at : ∀ (i : Nat) (c d : List Nat) (k : Nat), i < c.length → c.length = d.length → (plusL c d k).getD i 0 = (c.getD i 0 + d.getD i 0 + cyL c d k i) % gpB
  | _, [], _, _, h, _ => by simp at h
  | _, _ :: _, [], _, _, h => by simp at h
  | 0, a :: c, b :: d, k, _, _ => by rw [plusL, cyL_zero]; rfl
  | i + 1, a :: c, b :: d, k, h, e => by
    rw [plusL, cyL]
    simp only [List.getD_cons_succ]
    exact plusL_at i c d _ (by simpa using h) (by simpa using e)
theorem cyL_le : ∀ (i : Nat) (c d : List Nat) (k : Nat), k ≤ 1 → (∀ x ∈ c, x < gpB) → (∀ x ∈ d, x < gpB) → cyL c d k i ≤ 1
  | 0, c, d, k, h, _, _ => by rw [cyL_zero]; exact h
  | i + 1, [], _, k, h, _, _ => by rw [cyL]; exact h; simp
  | i + 1, _ :: _, [], k, h, _, _ => by rw [cyL]; exact h; simp
  | i + 1, a :: c, b :: d, k, h, hc, hd => by
    rw [cyL]
    refine cyL_le i c d _ ?_ (fun x hx => hc x (List.mem_cons_of_mem _ hx)) (fun x hx => hd x (List.mem_cons_of_mem _ hx))
    have h1 := hc a (List.mem_cons_self ..)
    have h2 := hd b (List.mem_cons_self ..)
    have : (a + b + k) / gpB < 2 := Nat.div_lt_of_lt_mul (by omega)
    omega
theorem getD_lt {c : List Nat} (h : ∀ x ∈ c, x < gpB) (i : Nat) : c.getD i 0 < gpB := by
  rw [List.getD_eq_getElem?_getD]
  cases e : c[i]? with
  | none => decide
  | some x => exact h x (List.mem_of_getElem? e)
/-- group j -/
def ga (c : List Nat) (j : Nat) : Nat := c.getD j 0
theorem ga_lt {c : List Nat} (h : ∀ x ∈ c, x < gpB) (i : Nat) : ga c i < gpB := getD_lt h i
theorem ga_plus {c d : List Nat} {i : Nat} (hc : i < c.length) (hd : c.length = d.length) : ga (plusL c d 0) i = (ga c i + ga d i + cyL c d 0 i) % gpB := plusL_at i c d 0 hc hd
theorem ga_succ {c d : List Nat} {i : Nat} (hc : i < c.length) (hd : c.length = d.length) : cyL c d 0 (i + 1) = (ga c i + ga d i + cyL c d 0 i) / gpB := cyL_succ i c d 0 hc hd
/-- a count in memory -/
structure CtAt (W : World) (b o : Nat) (c : List Nat) : Prop where
  q0 : W.cell? ⟨b, o, none⟩ = some (.int .u64 (ga c 0 : Int))
  q1 : W.cell? ⟨b, o + 1, none⟩ = some (.int .u64 (ga c 1 : Int))
  q2 : W.cell? ⟨b, o + 2, none⟩ = some (.int .u64 (ga c 2 : Int))
  q3 : W.cell? ⟨b, o + 3, none⟩ = some (.int .u64 (ga c 3 : Int))
  q4 : W.cell? ⟨b, o + 4, none⟩ = some (.int .u64 (ga c 4 : Int))
  q5 : W.cell? ⟨b, o + 5, none⟩ = some (.int .u64 (ga c 5 : Int))
  q6 : W.cell? ⟨b, o + 6, none⟩ = some (.int .u64 (ga c 6 : Int))
  q7 : W.cell? ⟨b, o + 7, none⟩ = some (.int .u64 (ga c 7 : Int))
  q8 : W.cell? ⟨b, o + 8, none⟩ = some (.int .u64 (ga c 8 : Int))
theorem ct_of {W : World} {b o : Nat} {c : List Nat} (h : ∀ j, j < 9 → W.cell? ⟨b, o + j, none⟩ = some (.int .u64 (ga c j : Int))) : CtAt W b o c :=
  ⟨h 0 (by omega), h 1 (by omega), h 2 (by omega), h 3 (by omega), h 4 (by omega), h 5 (by omega), h 6 (by omega), h 7 (by omega), h 8 (by omega)⟩
theorem CtAt.at {W : World} {b o : Nat} {c : List Nat} (h : CtAt W b o c) : ∀ j, j < 9 → W.cell? ⟨b, o + j, none⟩ = some (.int .u64 (ga c j : Int))
  | 0, _ => h.q0
  | 1, _ => h.q1
  | 2, _ => h.q2
  | 3, _ => h.q3
  | 4, _ => h.q4
  | 5, _ => h.q5
  | 6, _ => h.q6
  | 7, _ => h.q7
  | 8, _ => h.q8
  | _ + 9, h => by omega
theorem CtAt.keep {W W' : World} {b o B : Nat} {c : List Nat} (h : CtAt W b o c) (hb : Below B W W') (hl : b < B) : CtAt W' b o c := ct_of fun j hj => (hb.cell (p := ⟨b, o + j, none⟩) hl).trans (h.at j hj)
theorem CtAt.drew {W : World} {b o : Nat} {c : List Nat} (h : CtAt W b o c) : CtAt W.drew b o c := ⟨h.q0, h.q1, h.q2, h.q3, h.q4, h.q5, h.q6, h.q7, h.q8⟩
/-- a count as a value -/
def ctVal (c : List Nat) : Value := .agg #[.int .u64 (ga c 0 : Int), .int .u64 (ga c 1 : Int), .int .u64 (ga c 2 : Int), .int .u64 (ga c 3 : Int), .int .u64 (ga c 4 : Int), .int .u64 (ga c 5 : Int), .int .u64 (ga c 6 : Int), .int .u64 (ga c 7 : Int), .int .u64 (ga c 8 : Int)]
theorem cell_setP {W : World} {b o b' o' : Nat} (v : Value) (h : b ≠ b' ∨ o ≠ o') : (W.setCell ⟨b', o', none⟩ v).cell? ⟨b, o, none⟩ = W.cell? ⟨b, o, none⟩ :=
  World.cell?_setCell_other _ _ _ _ (by intro e; injection e with e1 e2; rcases h with q | q; exact q e1.symm; exact q e2.symm)
/-- a count is put where there is room for one -/
def st9 (W : World) (b o : Nat) (c : List Nat) : World := ((((((((W.setCell ⟨b, o, none⟩ (.int .u64 (ga c 0 : Int))).setCell ⟨b, o + 1, none⟩ (.int .u64 (ga c 1 : Int))).setCell ⟨b, o + 2, none⟩ (.int .u64 (ga c 2 : Int))).setCell ⟨b, o + 3, none⟩ (.int .u64 (ga c 3 : Int))).setCell ⟨b, o + 4, none⟩ (.int .u64 (ga c 4 : Int))).setCell ⟨b, o + 5, none⟩ (.int .u64 (ga c 5 : Int))).setCell ⟨b, o + 6, none⟩ (.int .u64 (ga c 6 : Int))).setCell ⟨b, o + 7, none⟩ (.int .u64 (ga c 7 : Int))).setCell ⟨b, o + 8, none⟩ (.int .u64 (ga c 8 : Int))
theorem st9_other {W : World} {b o : Nat} {c : List Nat} {b' o' : Nat} (h : b' ≠ b ∨ o' < o ∨ o + 9 ≤ o') : (st9 W b o c).cell? ⟨b', o', none⟩ = W.cell? ⟨b', o', none⟩ := by
  unfold st9
  rw [cell_setP _ (by omega), cell_setP _ (by omega), cell_setP _ (by omega), cell_setP _ (by omega), cell_setP _ (by omega), cell_setP _ (by omega), cell_setP _ (by omega), cell_setP _ (by omega), cell_setP _ (by omega)]
theorem st9_at {W : World} {b o : Nat} {c : List Nat} {v : Nat → Value} (h : ∀ j, j < 9 → W.cell? ⟨b, o + j, none⟩ = some (v j)) : CtAt (st9 W b o c) b o c := by
  unfold st9
  refine ⟨?_, ?_, ?_, ?_, ?_, ?_, ?_, ?_, ?_⟩
  · rw [cell_setP _ (.inr (by omega)), cell_setP _ (.inr (by omega)), cell_setP _ (.inr (by omega)), cell_setP _ (.inr (by omega)), cell_setP _ (.inr (by omega)), cell_setP _ (.inr (by omega)), cell_setP _ (.inr (by omega)), cell_setP _ (.inr (by omega))]
    exact World.cell?_setCell_same _ _ _ ((h 0 (by omega)))
  · rw [cell_setP _ (.inr (by omega)), cell_setP _ (.inr (by omega)), cell_setP _ (.inr (by omega)), cell_setP _ (.inr (by omega)), cell_setP _ (.inr (by omega)), cell_setP _ (.inr (by omega)), cell_setP _ (.inr (by omega))]
    exact World.cell?_setCell_same _ _ _ ((cell_setP _ (.inr (by omega))).trans (h 1 (by omega)))
  · rw [cell_setP _ (.inr (by omega)), cell_setP _ (.inr (by omega)), cell_setP _ (.inr (by omega)), cell_setP _ (.inr (by omega)), cell_setP _ (.inr (by omega)), cell_setP _ (.inr (by omega))]
    exact World.cell?_setCell_same _ _ _ ((cell_setP _ (.inr (by omega))).trans ((cell_setP _ (.inr (by omega))).trans (h 2 (by omega))))
  · rw [cell_setP _ (.inr (by omega)), cell_setP _ (.inr (by omega)), cell_setP _ (.inr (by omega)), cell_setP _ (.inr (by omega)), cell_setP _ (.inr (by omega))]
    exact World.cell?_setCell_same _ _ _ ((cell_setP _ (.inr (by omega))).trans ((cell_setP _ (.inr (by omega))).trans ((cell_setP _ (.inr (by omega))).trans (h 3 (by omega)))))
  · rw [cell_setP _ (.inr (by omega)), cell_setP _ (.inr (by omega)), cell_setP _ (.inr (by omega)), cell_setP _ (.inr (by omega))]
    exact World.cell?_setCell_same _ _ _ ((cell_setP _ (.inr (by omega))).trans ((cell_setP _ (.inr (by omega))).trans ((cell_setP _ (.inr (by omega))).trans ((cell_setP _ (.inr (by omega))).trans (h 4 (by omega))))))
  · rw [cell_setP _ (.inr (by omega)), cell_setP _ (.inr (by omega)), cell_setP _ (.inr (by omega))]
    exact World.cell?_setCell_same _ _ _ ((cell_setP _ (.inr (by omega))).trans ((cell_setP _ (.inr (by omega))).trans ((cell_setP _ (.inr (by omega))).trans ((cell_setP _ (.inr (by omega))).trans ((cell_setP _ (.inr (by omega))).trans (h 5 (by omega)))))))
  · rw [cell_setP _ (.inr (by omega)), cell_setP _ (.inr (by omega))]
    exact World.cell?_setCell_same _ _ _ ((cell_setP _ (.inr (by omega))).trans ((cell_setP _ (.inr (by omega))).trans ((cell_setP _ (.inr (by omega))).trans ((cell_setP _ (.inr (by omega))).trans ((cell_setP _ (.inr (by omega))).trans ((cell_setP _ (.inr (by omega))).trans (h 6 (by omega))))))))
  · rw [cell_setP _ (.inr (by omega))]
    exact World.cell?_setCell_same _ _ _ ((cell_setP _ (.inr (by omega))).trans ((cell_setP _ (.inr (by omega))).trans ((cell_setP _ (.inr (by omega))).trans ((cell_setP _ (.inr (by omega))).trans ((cell_setP _ (.inr (by omega))).trans ((cell_setP _ (.inr (by omega))).trans ((cell_setP _ (.inr (by omega))).trans (h 7 (by omega)))))))))
  · exact World.cell?_setCell_same _ _ _ ((cell_setP _ (.inr (by omega))).trans ((cell_setP _ (.inr (by omega))).trans ((cell_setP _ (.inr (by omega))).trans ((cell_setP _ (.inr (by omega))).trans ((cell_setP _ (.inr (by omega))).trans ((cell_setP _ (.inr (by omega))).trans ((cell_setP _ (.inr (by omega))).trans ((cell_setP _ (.inr (by omega))).trans (h 8 (by omega))))))))))
theorem st9_frozen {W : World} {b o : Nat} {c : List Nat} (p : Addr) : (st9 W b o c).frozen? p = W.frozen? p := by
  unfold st9
  simp only [World.frozen?_setCell]
theorem st9_below {w W : World} {B b o : Nat} {c : List Nat} (h : Below B w W) (hb : B ≤ b) : Below B w (st9 W b o c) :=
  ((((((((h.setCell hb _).setCell hb _).setCell hb _).setCell hb _).setCell hb _).setCell hb _).setCell hb _).setCell hb _).setCell hb _
theorem st9_size {W : World} {b o : Nat} {c : List Nat} : (st9 W b o c).heap.size = W.heap.size := by
  unfold st9
  simp
/-- while two counts are added: group i is next, k is carried -/
structure PLS (w wr : World) (c d : List Nat) (i k : Nat) : Prop where
  le : i ≤ 9
  cy : k = cyL c d 0 i
  bl : Below w.heap.size w wr
  c : ∀ j, j < 9 → wr.cell? ⟨w.heap.size, j, none⟩ = some (.int .u64 ((if j < i then ga (plusL c d 0) j else ga c j : Nat) : Int))
  d : ∀ j, j < 9 → wr.cell? ⟨w.heap.size + 1, j, none⟩ = some (.int .u64 (ga d j : Int))
  r : ∀ j, j < 9 → wr.cell? ⟨w.heap.size + 1 + 1, j, none⟩ = some (.int .u64 0)
  f : ∀ o, wr.frozen? ⟨w.heap.size, o, none⟩ = false
  g : ∀ o, wr.frozen? ⟨w.heap.size + 1 + 1, o, none⟩ = false
theorem PLS.drew {w wr : World} {c d : List Nat} {i k : Nat} (h : PLS w wr c d i k) : PLS w wr.drew c d i k := ⟨h.le, h.cy, h.bl.drew, h.c, h.d, h.r, h.f, h.g⟩
theorem PLS.next {w wr : World} {c d : List Nat} {i k : Nat} (h : PLS w wr c d i k) (hi : i < 9) (hc : c.length = 9) (hd : d.length = 9) :
    PLS w (wr.setCell ⟨w.heap.size, i, none⟩ (.int .u64 (((ga c i + ga d i + k) % gpB : Nat) : Int))) c d (i + 1) ((ga c i + ga d i + k) / gpB) := by
  have hk := h.cy
  refine ⟨by omega, by rw [ga_succ (by omega) (by omega), ← hk], h.bl.setCell (Nat.le_refl _) _, fun j hj => ?_, fun j hj => (cell_setP _ (.inl (by omega))).trans (h.d j hj), fun j hj => (cell_setP _ (.inl (by omega))).trans (h.r j hj), fun o => (World.frozen?_setCell _ _ _ _).trans (h.f o), fun o => (World.frozen?_setCell _ _ _ _).trans (h.g o)⟩
  by_cases e : j = i
  · subst e
    rw [if_pos (by omega), ga_plus (by omega) (by omega), ← hk]
    exact World.cell?_setCell_same _ _ _ (h.c j hj)
  · refine (cell_setP _ (.inr e)).trans ((h.c j hj).trans ?_)
    by_cases l : j < i
    · rw [if_pos l, if_pos (by omega)]
    · rw [if_neg l, if_neg (by omega)]
set_option maxRecDepth 100000 in
set_option maxHeartbeats 4000000 in
theorem plus_any (c d : List Nat) (w : World) (hc : c.length = 9) (hd : d.length = 9) (hcb : ∀ x ∈ c, x < gpB) (hdb : ∀ x ∈ d, x < gpB) :
    Calls Tryd.prog 63 #[ctVal c, ctVal d] w fun e w' => e = .returned (ctVal (plusL c d 0)) ∧ Below w.heap.size w w' := by
  have H0 := hideP (show ∀ V : World, V = ((w.alloc (.cells #[.int .u64 (ga c 0 : Int), .int .u64 (ga c 1 : Int), .int .u64 (ga c 2 : Int), .int .u64 (ga c 3 : Int), .int .u64 (ga c 4 : Int), .int .u64 (ga c 5 : Int), .int .u64 (ga c 6 : Int), .int .u64 (ga c 7 : Int), .int .u64 (ga c 8 : Int)] 62)).alloc (.cells #[.int .u64 (ga d 0 : Int), .int .u64 (ga d 1 : Int), .int .u64 (ga d 2 : Int), .int .u64 (ga d 3 : Int), .int .u64 (ga d 4 : Int), .int .u64 (ga d 5 : Int), .int .u64 (ga d 6 : Int), .int .u64 (ga d 7 : Int), .int .u64 (ga d 8 : Int)] 62)).alloc (.cells #[.int .u64 0, .int .u64 0, .int .u64 0, .int .u64 0, .int .u64 0, .int .u64 0, .int .u64 0, .int .u64 0, .int .u64 0] 62) → PLS w V c d 0 0 from fun V hV => by
    subst hV
    refine ⟨by omega, (cyL_zero c d 0).symm, (((Below.refl _ _).alloc (Nat.le_refl _) _).alloc (by simp) _).alloc (by simp; omega) _, fun j hj => ?_, fun j hj => ?_, fun j hj => ?_, fun o => ?_, fun o => ?_⟩
    · rw [if_neg (by omega)]
      match j, hj with
      | 0, _ | 1, _ | 2, _ | 3, _ | 4, _ | 5, _ | 6, _ | 7, _ | 8, _ => go_cell
    · match j, hj with
      | 0, _ | 1, _ | 2, _ | 3, _ | 4, _ | 5, _ | 6, _ | 7, _ | 8, _ => go_cell
    · match j, hj with
      | 0, _ | 1, _ | 2, _ | 3, _ | 4, _ | 5, _ | 6, _ | 7, _ | 8, _ => go_cell
    · go_cell
    · go_cell)
  simp only [ctVal]
  go_enter Tryd.func63, Tryd.ntmps63
  go_wp2_with fail
  go_loopw [5, 8] (fun v5 v8 wr => ∃ i k : Nat, v8 = .int .i64 (i : Int) ∧ v5 = .int .u64 (k : Int) ∧ PLS w wr c d i k) (fun _ v8 _ => 9 - (intOf v8).toNat)
  case atStart => exact ⟨0, 0, rfl, rfl, H0.out _ rfl⟩
  case round =>
    obtain ⟨i, k, rfl, rfl, hP⟩ := hrel
    have HP := hideP hP
    have hle := hP.le
    by_cases hi : i < 9
    · have hltz : (i : Int) < 9 := by omega
      have e1 := hP.c i hi
      rw [if_neg (by omega)] at e1
      have e2 := hP.d i hi
      have e3 := hP.f i
      have HN := hideP (hP.next hi hc hd)
      have hk1 : k ≤ 1 := by rw [hP.cy]; exact cyL_le i c d 0 (by omega) hcb hdb
      have ha := ga_lt hcb i
      have hb := ga_lt hdb i
      clear hP H0 HP
      generalize ga c i = a at *
      generalize ga d i = b at *
      unfold gpB at ha hb
      have w1 : IntKind.u64.wrap ((a : Int) + (b : Int)) = ((a + b : Nat) : Int) := by simp [IntKind.wrap, IntKind.bits, IntKind.signed]; omega
      have w2 : IntKind.u64.wrap (((a + b : Nat) : Int) + (k : Int)) = ((a + b + k : Nat) : Int) := by simp [IntKind.wrap, IntKind.bits, IntKind.signed]; omega
      go_wp2_with fail
      go_region
      go_wp2_with fail
      have x1 : ((a : Int) + (b : Int) + (k : Int)) / 1000000000000000000 = (((a + b + k) / gpB : Nat) : Int) := by unfold gpB; omega
      have x2 : ((a : Int) + (b : Int) + (k : Int)) % 1000000000000000000 = (((a + b + k) % gpB : Nat) : Int) := by unfold gpB; omega
      rw [x1, x2]
      exact ⟨⟨i + 1, _, by go_num, rfl, HN.out.drew⟩, by simp [intOf]; omega⟩
    · have hltz : ¬ (i : Int) < 9 := by omega
      have hi9 : i = 9 := by omega
      subst hi9
      have hCt := ct_of (W := wr) (b := w.heap.size) (o := 0) (c := plusL c d 0) (fun j hj => by rw [Nat.zero_add, hP.c j hj, if_pos hj])
      obtain ⟨q0, q1, q2, q3, q4, q5, q6, q7, q8⟩ := hCt
      simp only [Nat.zero_add] at q1 q2 q3 q4 q5 q6 q7 q8
      have r0 := hP.r 0 (by omega)
      have r1 := hP.r 1 (by omega)
      have r2 := hP.r 2 (by omega)
      have r3 := hP.r 3 (by omega)
      have r4 := hP.r 4 (by omega)
      have r5 := hP.r 5 (by omega)
      have r6 := hP.r 6 (by omega)
      have r7 := hP.r 7 (by omega)
      have r8 := hP.r 8 (by omega)
      have hg := hP.g
      have HB := hideP hP.bl
      have HR := hideP hP.r
      clear hP H0
      go_wp2_with fail
      have hS := st9_at (W := wr) (b := w.heap.size + 1 + 1) (o := 0) (c := plusL c d 0) (v := fun _ => .int .u64 0) (fun j hj => by rw [Nat.zero_add]; exact HR.out j hj)
      have hB9 := st9_below (b := w.heap.size + 1 + 1) (o := 0) (c := plusL c d 0) HB.out (by omega)
      change bodyPost _ _ _ _ _ (st9 wr (w.heap.size + 1 + 1) 0 (plusL c d 0))
      generalize st9 wr (w.heap.size + 1 + 1) 0 (plusL c d 0) = W9 at hS hB9 ⊢
      obtain ⟨s0, s1, s2, s3, s4, s5, s6, s7, s8⟩ := hS
      simp only [Nat.zero_add] at s1 s2 s3 s4 s5 s6 s7 s8
      refine bodyPost_ret (v := ctVal (plusL c d 0)) (by simp [results, Tryd.results63, go_sem, ctVal, s0, s1, s2, s3, s4, s5, s6, s7, s8]) rfl ?_
      exact ⟨rfl, hB9⟩
end Go.Proofs.YtnedgkcejlhnbaaDoor
