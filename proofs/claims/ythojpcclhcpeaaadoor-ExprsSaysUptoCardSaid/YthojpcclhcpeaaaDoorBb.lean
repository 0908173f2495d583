/-
  The contracts of duetbig.words and duetbig.small, for every number of 64 bits, every list of words and every divisor of one word.
-/
import Derived.Test.YthojpcclhcpeaaaDoorBa
import Derived.Laws.MakeOwn
import Derived.Laws.OwnMore
import Derived.Laws.BitsAllLaws
namespace Go.Proofs.YthojpcclhcpeaaaDoor
open Go.RowKit

theorem info32 : (Tryd.prog.info? 118).map (fun i => (i.zero, i.size, i.bytes)) = some (some (.int .u32 0), 1, 4) := by kernel_rfl
theorem make32 (n : Nat) (hn : n ≤ 1000000) : ∃ Z : Array Value, Z.toList = List.replicate n (.int .u32 0) ∧ ∀ w : World, (Instr.makeSlice 131 (.int .i64 (n : Int)) (.int .i64 (n : Int))).run Tryd.prog w = .ok (.slice (some ⟨w.heap.size, 0, none⟩) n n) (w.alloc (.cells Z 118)) := by
  obtain ⟨i, hi, hx⟩ := Option.map_eq_some_iff.1 info32
  simp only [Prod.mk.injEq] at hx
  obtain ⟨h1, h2, h3⟩ := hx
  refine ⟨madeCells (Value.int .u32 0).cells (n * i.size), ?_, fun w => ?_⟩
  · rw [h2, Nat.mul_one]; exact toList_madeCells_one _ n
  · have := run_make (P := Tryd.prog) w 131 118 i (.int .u32 0) Tryd.underlying131 hi h1 .i64 .i64 (n : Int) (n : Int) (by omega) (by omega) (by rw [h3]; omega) (by omega)
    simpa using this

/-- a row of words that may be written -/
def Row (W : World) (g : Nat) (qs : List Nat) : Prop := ∀ j, j < qs.length → W.cell? ⟨g, j, none⟩ = some (.int .u32 (qs.getD j 0 : Nat)) ∧ W.frozen? ⟨g, j, none⟩ = false
theorem row_new (W : World) (Z : Array Value) (n : Nat) (hZ : Z.toList = List.replicate n (.int .u32 0)) : Row (W.alloc (.cells Z 118)) W.heap.size (List.replicate n 0) := by
  intro j hj
  have hj' : j < n := by simpa using hj
  have h : (W.alloc (.cells Z 118)).heap[W.heap.size]? = some (.cells Z 118) := by
    show (W.heap.push _)[W.heap.size]? = _
    simp
  constructor
  · unfold World.cell?
    rw [h]
    simp only
    rw [← Array.getElem?_toList, hZ]
    simp [hj', List.getD]
  · unfold World.frozen?
    rw [h]
    simp
theorem Row.set {W : World} {g : Nat} {qs : List Nat} (h : Row W g qs) (k x : Nat) (hk : k < qs.length) : Row (W.setCell ⟨g, k, none⟩ (.int .u32 (x : Nat))) g (qs.set k x) := by
  intro j hj
  rw [List.length_set] at hj
  constructor
  · by_cases e : k = j
    · subst e
      rw [World.cell?_setCell_same W _ _ (h k hk).1]
      simp [List.getD, hk]
    · rw [World.cell?_setCell_other W _ _ _ (by intro c; injection c; omega), (h j hj).1]
      simp [List.getD, e]
  · rw [World.frozen?_setCell]
    exact (h j hj).2
theorem Row.u32 {W : World} {g cap : Nat} {qs : List Nat} (h : Row W g qs) (hg : g < W.heap.size) (hc : qs.length ≤ cap) : U32 W (.slice (some ⟨g, 0, none⟩) qs.length cap) qs :=
  .inr ⟨g, cap, rfl, hc, hg, fun j hj => (h j hj).1⟩

set_option maxHeartbeats 400000 in
theorem words_any (x : Nat) (w : World) (hx : x < 18446744073709551616) :
    Calls Tryd.prog 130 #[.int .u64 (x : Int)] w fun e w' => ∃ v, e = .returned v ∧ NumAt w' v x ∧ Below w.heap.size w w' := by
  have hv : val [x % 4294967296, x / 4294967296] = x := by simp [val]; omega
  have cT := trim_any w.heap.size 2 [x % 4294967296, x / 4294967296] (w.alloc (Obj.cells #[Value.int IntKind.u32 ((x : Int) % 4294967296), Value.int IntKind.u32 ((x : Int) / 4294967296)] 118)) (by intro y hy; simp at hy; omega) (by simp) (by simp) (by simp) (by
    intro j hj
    match j, hj with
    | 0, _ => go_cell
    | 1, _ => go_cell
    | j + 2, hj => simp at hj; omega)
  rw [hv] at cT
  go_enter Tryd.func130, Tryd.ntmps130
  go_wp2_with fail
  refine cT.mono ?_
  rintro e w1 ⟨v, rfl, hn, rfl⟩
  go_wp2
  go_ret
  exact ⟨_, rfl, hn, (Below.refl _ _).alloc (Nat.le_refl _) _⟩

theorem wrap_u64_nat (n : Nat) (h : n < 18446744073709551616) : IntKind.u64.wrap (n : Int) = (n : Int) := by
  unfold IntKind.wrap
  simp [IntKind.bits, IntKind.signed]
  omega
theorem val_drop (ws : List Nat) (k : Nat) (h : k < ws.length) : val (ws.drop k) = ws.getD k 0 + 4294967296 * val (ws.drop (k + 1)) := by
  rw [List.drop_eq_getElem_cons h, val, List.getD, List.getElem?_eq_getElem h]; rfl
theorem div_step (x V d r N : Nat) (hd : 0 < d) (hr : V % d = r) (hN : r * 4294967296 + x = N) : (x + 4294967296 * V) / d = N / d + 4294967296 * (V / d) ∧ (x + 4294967296 * V) % d = N % d := by
  have e : x + 4294967296 * V = N + d * (4294967296 * (V / d)) := by
    have h1 := Nat.div_add_mod V d
    rw [hr] at h1
    have h2 : d * (4294967296 * (V / d)) = 4294967296 * (d * (V / d)) := by rw [← Nat.mul_assoc, Nat.mul_comm d, Nat.mul_assoc]
    omega
  rw [e]
  exact ⟨by rw [Nat.add_mul_div_left _ _ hd], by rw [Nat.add_mul_mod_self_left]⟩
theorem quo_lt (r x d N : Nat) (hd : 0 < d) (hr : r < d) (hx : x < 4294967296) (hN : r * 4294967296 + x = N) : N / d < 4294967296 := by
  rw [Nat.div_lt_iff_lt_mul hd]
  have : (r + 1) * 4294967296 ≤ d * 4294967296 := Nat.mul_le_mul_right _ hr
  rw [Nat.mul_comm 4294967296 d]
  omega

theorem or32 (r x : Nat) (hr : r < 4294967296) (hx : x < 4294967296) : bits BinOp.or IntKind.u64 ((r : Int) * 4294967296) (x : Int) = ((r * 4294967296 + x : Nat) : Int) := by
  have h := u64_or_nat (r * 4294967296) x (by omega) (by omega)
  have e := Nat.two_pow_add_eq_or_of_lt (i := 32) (b := x) (by omega) r
  rw [show ((r : Int) * 4294967296) = ((r * 4294967296 : Nat) : Int) by omega, h, Nat.mul_comm r, show (4294967296 : Nat) = 2 ^ 32 from rfl, ← e]

set_option maxRecDepth 100000 in
set_option maxHeartbeats 400000 in
theorem bsmall_any (g cap : Nat) (ws : List Nat) (d : Nat) (w : World) (hs : Small ws) (hlen : ws.length ≤ 1000000) (hg : g < w.heap.size) (hd : 0 < d) (hd2 : d < 4294967296) (hc : ∀ j, j < ws.length → w.cell? ⟨g, j, none⟩ = some (.int .u32 (ws.getD j 0 : Nat))) :
    Calls Tryd.prog 132 #[.slice (some ⟨g, 0, none⟩) ws.length cap, .int .u32 (d : Int)] w fun e w' => ∃ v, e = .returned (.tuple #[v, .int .u32 ((val ws % d : Nat) : Int)]) ∧ NumAt w' v (val ws / d) ∧ Below w.heap.size w w' := by
  obtain ⟨Z, hZ, hmk⟩ := make32 ws.length hlen
  have hrow := row_new w Z ws.length hZ
  have HC : Hid (∀ j, j < ws.length → w.cell? ⟨g, j, none⟩ = some (.int .u32 (ws.getD j 0 : Nat))) := hc
  clear hc hZ
  go_enter Tryd.func132, Tryd.ntmps132
  go_wp2_with fail
  go_loopw [7, 8] (fun r i wr => ∃ (m : Nat) (qs : List Nat), m ≤ ws.length ∧ i = .int .i64 ((m : Int) - 1) ∧ qs.length = ws.length ∧ Row wr w.heap.size qs ∧ r = .int .u64 ((val (ws.drop m) % d : Nat) : Int) ∧ val (qs.drop m) = val (ws.drop m) / d ∧ Small qs ∧ Below w.heap.size w wr ∧ w.heap.size < wr.heap.size) (fun r i wr => (intOf i + 1).toNat)
  case atStart => exact ⟨ws.length, List.replicate ws.length 0, Nat.le_refl _, rfl, by simp, hrow, by simp [val], by simp [val], by intro y hy; simp at hy; omega, (Below.refl _ _).alloc (Nat.le_refl _) _, by simp⟩
  case round =>
    obtain ⟨m, qs, hm, rfl, hql, hr, rfl, hvq, hsq, hbw, hlt⟩ := hrel
    have HV : Hid (val (qs.drop m) = val (ws.drop m) / d) := hvq
    have HR : Hid (Row wr w.heap.size qs) := hr
    clear hvq hr
    by_cases h0 : m = 0
    · subst h0
      have HV0 : Hid (val qs = val ws / d) := by have := HV.out; rw [List.drop_zero, List.drop_zero] at this; exact this
      have cT := trim_any w.heap.size qs.length qs wr hsq (Nat.le_refl _) (by omega) hlt (fun j hj => (HR.out j hj).1)
      rw [HV0.out, hql] at cT
      have hmd : IntKind.u64.wrap ((val ws % d : Nat) : Int) = ((val ws % d : Nat) : Int) := wrap_u64_nat _ (by have := Nat.mod_lt (val ws) hd; omega)
      have hmd2 : val ws % d < 4294967296 := by have := Nat.mod_lt (val ws) hd; omega
      rw [List.drop_zero]
      go_wp2_with fail
      refine cT.mono ?_
      rintro e w2 ⟨v, rfl, hnum, rfl⟩
      go_wp2
      go_ret2
      refine ⟨v, ?_, hnum, hbw⟩
      simp
    · obtain ⟨k, rfl⟩ : ∃ k, m = k + 1 := ⟨m - 1, by omega⟩
      have hca : wr.cell? ⟨g, k, none⟩ = some (.int .u32 (ws.getD k 0 : Nat)) := (hbw.cell (p := ⟨g, k, none⟩) hg).trans (HC.out k (by omega))
      have hcq := (HR.out k (by omega)).1
      have hfq := (HR.out k (by omega)).2
      generalize hx : ws.getD k 0 = x at hca
      generalize hy : qs.getD k 0 = y at hcq
      generalize hrr : val (ws.drop (k + 1)) % d = r
      have hx2 : x < 4294967296 := by rw [← hx]; exact hs _ (getD_mem ws k (by omega))
      have hr2 : r < d := by rw [← hrr]; exact Nat.mod_lt _ hd
      have hkz : (k : Int) < (ws.length : Int) := by omega
      have e0 : ((k + 1 : Nat) : Int) - 1 = (k : Int) := by omega
      rw [e0]
      have hor := or32 r x (by omega) hx2
      generalize hN : r * 4294967296 + x = N at hor
      have HN : Hid (r * 4294967296 + x = N) := hN
      have HRR : Hid (val (ws.drop (k + 1)) % d = r) := hrr
      have HX : Hid (ws.getD k 0 = x) := hx
      clear hN hrr hx hy e0
      have hql := quo_lt r x d N hd hr2 hx2 HN.out
      have hqq : IntKind.u64.wrap ((N : Int) / (d : Int)) % 4294967296 = ((N / d : Nat) : Int) := by
        rw [show ((N : Int) / (d : Int)) = ((N / d : Nat) : Int) by simp]
        generalize N / d = Q at hql ⊢
        rw [wrap_u64_nat Q (by omega)]
        omega
      go_wp2_with fail
      go_roundw
      case rel =>
        have hst := div_step x _ d r N hd HRR.out HN.out
        refine ⟨k, qs.set k (N / d), by omega, rfl, by rw [List.length_set]; omega, HR.out.set k (N / d) (by omega), ?_, ?_, ?_, hbw.setCell (Nat.le_refl _) _, by simpa using hlt⟩
        · rw [val_drop ws k (by omega), HX.out, hst.2]; simp
        · rw [val_drop ws k (by omega), HX.out, hst.1, val_drop _ k (by rw [List.length_set]; omega)]
          rw [show (qs.set k (N / d)).getD k 0 = N / d by simp [List.getD, show k < qs.length by omega]]
          rw [List.drop_set_of_lt (by omega), HV.out]
        · intro y hy
          rcases List.mem_or_eq_of_mem_set hy with h | rfl
          · exact hsq y h
          · exact hql
      case measure => simp [intOf]
end Go.Proofs.YthojpcclhcpeaaaDoor
