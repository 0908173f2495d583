/-
  The contracts of slices.Equal of ints and of strings, of graph.areEqual and of graph.Equal.
-/
import Derived.Test.YtnedgkcejlhnbaaDoorHn
import Derived.Deep.Quiet
namespace Go.Proofs.YtnedgkcejlhnbaaDoor
open Go.RowKit Go.Shelf

set_option maxRecDepth 100000 in
set_option maxHeartbeats 2000000 in
theorem eqInts_any (xs ys : List Nat) (a1 a2 : Option Addr) (c1 c2 B : Nat) (w : World) (h1 : NI w B xs a1) (h2 : NI w B ys a2) (hB : B ≤ w.heap.size) (hl : xs.length ≤ 1000) (hl2 : ys.length ≤ 1000) :
    Calls Tryd.prog 45 #[.slice a1 xs.length c1, .slice a2 ys.length c2] w fun e w' => e = .returned (.bool (decide (xs = ys))) ∧ Below w.heap.size w w' := by
  have hbd : (xs.length : Int) ≤ 1000 := by omega
  have hbd2 : (ys.length : Int) ≤ 1000 := by omega
  by_cases hlen : xs.length = ys.length
  · have hne : ((xs.length : Int) != (ys.length : Int)) = false := by rw [hlen]; simp
    have heq : ((xs.length : Int) == (ys.length : Int)) = true := by rw [hlen]; simp
    go_enter Tryd.func45, Tryd.ntmps45
    go_wp2_with fail
    go_loopw [13] (fun i wr => ∃ k : Nat, k ≤ xs.length ∧ i = .int .i64 (k : Int) ∧ xs.take k = ys.take k ∧ Below w.heap.size w wr) (fun i _ => xs.length - (intOf i).toNat)
    case atStart => exact ⟨0, Nat.zero_le _, rfl, rfl, Below.refl _ _⟩
    case round =>
      obtain ⟨k, hk, rfl, hpre, hb⟩ := hrel
      by_cases hlt : k < xs.length
      · have hltz : (k : Int) < (xs.length : Int) := by omega
        have hlt2 : k < ys.length := by omega
        have hltz2 : (k : Int) < (ys.length : Int) := by omega
        obtain ⟨b1, o1, rfl, l1, f1⟩ := h1.resolve_left (fun h => by have := congrArg List.length h; simp at this; rw [this] at hlt; simp at hlt)
        obtain ⟨b2, o2, rfl, l2, f2⟩ := h2.resolve_left (fun h => by have := congrArg List.length h; simp at this; rw [this] at hlt2; simp at hlt2)
        have e1 := (hb.cell (p := ⟨b1, o1 + k, none⟩) (by show b1 < w.heap.size; omega)).trans (f1 k (by simpa using hlt))
        have e2 := (hb.cell (p := ⟨b2, o2 + k, none⟩) (by show b2 < w.heap.size; omega)).trans (f2 k (by simpa using hlt2))
        rw [List.getElem_map] at e1 e2
        have HB := hideK hb
        have HP := hideK (show xs.take (k + 1) = xs.take k ++ [xs[k]] from List.take_succ_eq_append_getElem hlt)
        have HP2 := hideK (show ys.take (k + 1) = ys.take k ++ [ys[k]] from List.take_succ_eq_append_getElem hlt2)
        have HPR := hideK hpre
        by_cases he : xs[k] = ys[k]
        · have hx : ((xs[k] : Int) == (ys[k] : Int)) = true := by rw [he]; simp
          have hx2 : ((xs[k] : Int) != (ys[k] : Int)) = false := by rw [he]; simp
          have HE := hideK he
          clear f1 f2 hb he
          generalize xs[k] = x at *
          generalize ys[k] = y at *
          go_wp2_with fail
          go_quiet (fail)
          have hb0 : Below wr.heap.size wr (wr.drewN nq) := below_drewN (Below.refl _ _) nq
          generalize wr.drewN nq = w0 at hb0 ⊢
          go_wp2_with fail
          go_roundw
          case rel => exact ⟨k + 1, by omega, by go_num, by rw [HP.out, HP2.out, HPR.out, HE.out], HB.out.trans (hb0.mono HB.out.size)⟩
          case measure => simp [intOf]; omega
        · have hx : ((xs[k] : Int) == (ys[k] : Int)) = false := by simpa using fun h : (xs[k] : Int) = (ys[k] : Int) => he (by omega)
          have hx2 : ((xs[k] : Int) != (ys[k] : Int)) = true := by simpa using fun h : (xs[k] : Int) = (ys[k] : Int) => he (by omega)
          have HD := hideK (show decide (xs = ys) = false from decide_eq_false (fun e => he (by subst e; rfl)))
          clear f1 f2 hb he
          generalize xs[k] = x at *
          generalize ys[k] = y at *
          go_wp2_with fail
          go_quiet (fail)
          have hb0 : Below wr.heap.size wr (wr.drewN nq) := below_drewN (Below.refl _ _) nq
          generalize wr.drewN nq = w0 at hb0 ⊢
          go_wp2_with fail
          go_ret
          exact ⟨by rw [HD.out]; rfl, HB.out.trans (hb0.mono HB.out.size)⟩
      · have hltz : ¬ (k : Int) < (xs.length : Int) := by omega
        have hkl : k = xs.length := by omega
        subst hkl
        have hxy : xs = ys := by rw [List.take_length, hlen, List.take_length] at hpre; exact hpre
        have HD := hideK (decide_eq_true hxy)
        clear hxy hpre
        go_wp2_with fail
        go_ret
        exact ⟨by rw [HD.out]; rfl, hb⟩
  · have hne : ((xs.length : Int) != (ys.length : Int)) = true := by simpa using fun h : (xs.length : Int) = (ys.length : Int) => hlen (by omega)
    have heq : ((xs.length : Int) == (ys.length : Int)) = false := by simpa using fun h : (xs.length : Int) = (ys.length : Int) => hlen (by omega)
    have hdec : decide (xs = ys) = false := decide_eq_false (fun e => hlen (by rw [e]))
    rw [hdec]
    clear hdec hlen
    go_enter Tryd.func45, Tryd.ntmps45
    go_wp2_with fail
    go_ret
    exact ⟨rfl, Below.refl _ _⟩

set_option maxRecDepth 100000 in
set_option maxHeartbeats 2000000 in
theorem eqStrs_any (xs ys : List ByteArray) (a1 a2 : Option Addr) (c1 c2 B : Nat) (w : World) (h1 : LA w B xs a1) (h2 : LA w B ys a2) (hB : B ≤ w.heap.size) (hl : xs.length ≤ 1000) (hl2 : ys.length ≤ 1000) :
    Calls Tryd.prog 44 #[.slice a1 xs.length c1, .slice a2 ys.length c2] w fun e w' => e = .returned (.bool (decide (xs = ys))) ∧ Below w.heap.size w w' := by
  have hbd : (xs.length : Int) ≤ 1000 := by omega
  have hbd2 : (ys.length : Int) ≤ 1000 := by omega
  by_cases hlen : xs.length = ys.length
  · have hne : ((xs.length : Int) != (ys.length : Int)) = false := by rw [hlen]; simp
    have heq : ((xs.length : Int) == (ys.length : Int)) = true := by rw [hlen]; simp
    go_enter Tryd.func44, Tryd.ntmps44
    go_wp2_with fail
    go_loopw [13] (fun i wr => ∃ k : Nat, k ≤ xs.length ∧ i = .int .i64 (k : Int) ∧ xs.take k = ys.take k ∧ Below w.heap.size w wr) (fun i _ => xs.length - (intOf i).toNat)
    case atStart => exact ⟨0, Nat.zero_le _, rfl, rfl, Below.refl _ _⟩
    case round =>
      obtain ⟨k, hk, rfl, hpre, hb⟩ := hrel
      by_cases hlt : k < xs.length
      · have hltz : (k : Int) < (xs.length : Int) := by omega
        have hlt2 : k < ys.length := by omega
        have hltz2 : (k : Int) < (ys.length : Int) := by omega
        obtain ⟨b1, o1, rfl, l1, f1⟩ := h1.resolve_left (fun h => by have := congrArg List.length h; simp at this; rw [this] at hlt; simp at hlt)
        obtain ⟨b2, o2, rfl, l2, f2⟩ := h2.resolve_left (fun h => by have := congrArg List.length h; simp at this; rw [this] at hlt2; simp at hlt2)
        have e1 := (hb.cell (p := ⟨b1, o1 + k, none⟩) (by show b1 < w.heap.size; omega)).trans (f1 k (by simpa using hlt))
        have e2 := (hb.cell (p := ⟨b2, o2 + k, none⟩) (by show b2 < w.heap.size; omega)).trans (f2 k (by simpa using hlt2))
        rw [List.getElem_map] at e1 e2
        have HB := hideK hb
        have HP := hideK (show xs.take (k + 1) = xs.take k ++ [xs[k]] from List.take_succ_eq_append_getElem hlt)
        have HP2 := hideK (show ys.take (k + 1) = ys.take k ++ [ys[k]] from List.take_succ_eq_append_getElem hlt2)
        have HPR := hideK hpre
        by_cases he : xs[k] = ys[k]
        · have hx : (xs[k].toList == ys[k].toList) = true := by rw [he]; simp
          have HE := hideK he
          clear f1 f2 hb he
          generalize xs[k] = x at *
          generalize ys[k] = y at *
          go_wp2_with fail
          go_quiet (fail)
          have hb0 : Below wr.heap.size wr (wr.drewN nq) := below_drewN (Below.refl _ _) nq
          generalize wr.drewN nq = w0 at hb0 ⊢
          go_wp2_with fail
          go_roundw
          case rel => exact ⟨k + 1, by omega, by go_num, by rw [HP.out, HP2.out, HPR.out, HE.out], HB.out.trans (hb0.mono HB.out.size)⟩
          case measure => simp [intOf]; omega
        · have hx : (xs[k].toList == ys[k].toList) = false := by rw [ba_beq]; simpa using he
          have HD := hideK (show decide (xs = ys) = false from decide_eq_false (fun e => he (by subst e; rfl)))
          clear f1 f2 hb he
          generalize xs[k] = x at *
          generalize ys[k] = y at *
          go_wp2_with fail
          go_quiet (fail)
          have hb0 : Below wr.heap.size wr (wr.drewN nq) := below_drewN (Below.refl _ _) nq
          generalize wr.drewN nq = w0 at hb0 ⊢
          go_wp2_with fail
          go_ret
          exact ⟨by rw [HD.out]; rfl, HB.out.trans (hb0.mono HB.out.size)⟩
      · have hltz : ¬ (k : Int) < (xs.length : Int) := by omega
        have hkl : k = xs.length := by omega
        subst hkl
        have hxy : xs = ys := by rw [List.take_length, hlen, List.take_length] at hpre; exact hpre
        have HD := hideK (decide_eq_true hxy)
        clear hxy hpre
        go_wp2_with fail
        go_ret
        exact ⟨by rw [HD.out]; rfl, hb⟩
  · have hne : ((xs.length : Int) != (ys.length : Int)) = true := by simpa using fun h : (xs.length : Int) = (ys.length : Int) => hlen (by omega)
    have heq : ((xs.length : Int) == (ys.length : Int)) = false := by simpa using fun h : (xs.length : Int) = (ys.length : Int) => hlen (by omega)
    have hdec : decide (xs = ys) = false := decide_eq_false (fun e => hlen (by rw [e]))
    rw [hdec]
    clear hdec hlen
    go_enter Tryd.func44, Tryd.ntmps44
    go_wp2_with fail
    go_ret
    exact ⟨rfl, Below.refl _ _⟩
end Go.Proofs.YtnedgkcejlhnbaaDoor
