/-
  The contract of duetlaw.Same of texts; why !int.end is not below !int.!int.end.
-/
import Derived.Test.YtoieacgojkgjgabDoorIq
namespace Go.Proofs.YtoieacgojkgjgabDoor
open Go.RowKit Go.Shelf

set_option maxRecDepth 100000 in
set_option maxHeartbeats 2000000 in
theorem sameStr_any (xs ys : List ByteArray) (a1 a2 : Option Addr) (c1 c2 B : Nat) (w : World) (h1 : LA w B xs a1) (h2 : LA w B ys a2) (hB : B ≤ w.heap.size) (hl : xs.length ≤ 1000) (hl2 : ys.length ≤ 1000) :
    Calls Tryd.prog 8 #[.slice a1 xs.length c1, .slice a2 ys.length c2] w fun e w' => e = .returned (.bool (decide (xs = ys))) ∧ Below w.heap.size w w' := by
  have hbd : (xs.length : Int) ≤ 1000 := by omega
  have hbd2 : (ys.length : Int) ≤ 1000 := by omega
  by_cases hlen : xs.length = ys.length
  · have hne : ((xs.length : Int) != (ys.length : Int)) = false := by rw [hlen]; simp
    have heq : ((xs.length : Int) == (ys.length : Int)) = true := by rw [hlen]; simp
    go_enter Tryd.func8, Tryd.ntmps8
    go_wp2_with fail
    go_loopw [13] (fun i wr => ∃ k : Nat, k ≤ xs.length ∧ i = .int .i64 (k : Int) ∧ xs.take k = ys.take k ∧ Below w.heap.size w wr) (fun i _ => xs.length - (intOf i).toNat)
    case atStart => exact ⟨0, Nat.zero_le _, rfl, rfl, Below.refl _ _⟩
    case round =>
      obtain ⟨k, hk, rfl, hpre, hb⟩ := hrel
      by_cases hlt : k < xs.length
      · have hltz : (k : Int) < (xs.length : Int) := by omega
        have hlt2 : k < ys.length := by omega
        have hltz2 : (k : Int) < (ys.length : Int) := by omega
        obtain ⟨b1, o1, rfl, l1, f1⟩ := h1.resolve_left (fun h => by have := congrArg List.length h; simp at this; rw [this] at hlt; simp at hlt)
        obtain ⟨b2, o2, rfl, l2, f2⟩ := h2.resolve_left (fun h => by have := congrArg List.length h; simp at this; rw [this] at hlt2; simp at hlt2)
        have e1 := (hb.cell (p := ⟨b1, o1 + k, none⟩) (by show b1 < w.heap.size; omega)).trans (f1 k (by simpa using hlt))
        have e2 := (hb.cell (p := ⟨b2, o2 + k, none⟩) (by show b2 < w.heap.size; omega)).trans (f2 k (by simpa using hlt2))
        rw [List.getElem_map] at e1 e2
        have HB := hideK hb
        have HP := hideK (show xs.take (k + 1) = xs.take k ++ [xs[k]] from List.take_succ_eq_append_getElem hlt)
        have HP2 := hideK (show ys.take (k + 1) = ys.take k ++ [ys[k]] from List.take_succ_eq_append_getElem hlt2)
        have HPR := hideK hpre
        by_cases he : xs[k] = ys[k]
        · have hx : (xs[k].toList == ys[k].toList) = true := by rw [he]; simp
          have HE := hideK he
          clear f1 f2 hb he
          generalize xs[k] = x at *
          generalize ys[k] = y at *
          go_wp2_with fail
          go_quiet (fail)
          have hb0 : Below wr.heap.size wr (wr.drewN nq) := below_drewN (Below.refl _ _) nq
          generalize wr.drewN nq = w0 at hb0 ⊢
          go_wp2_with fail
          go_roundw
          case rel => exact ⟨k + 1, by omega, by go_num, by rw [HP.out, HP2.out, HPR.out, HE.out], HB.out.trans (hb0.mono HB.out.size)⟩
          case measure => simp [intOf]; omega
        · have hx : (xs[k].toList == ys[k].toList) = false := by rw [ba_beq]; simpa using he
          have HD := hideK (show decide (xs = ys) = false from decide_eq_false (fun e => he (by subst e; rfl)))
          clear f1 f2 hb he
          generalize xs[k] = x at *
          generalize ys[k] = y at *
          go_wp2_with fail
          go_quiet (fail)
          have hb0 : Below wr.heap.size wr (wr.drewN nq) := below_drewN (Below.refl _ _) nq
          generalize wr.drewN nq = w0 at hb0 ⊢
          go_wp2_with fail
          go_ret
          exact ⟨by rw [HD.out]; rfl, HB.out.trans (hb0.mono HB.out.size)⟩
      · have hltz : ¬ (k : Int) < (xs.length : Int) := by omega
        have hkl : k = xs.length := by omega
        subst hkl
        have hxy : xs = ys := by rw [List.take_length, hlen, List.take_length] at hpre; exact hpre
        have HD := hideK (decide_eq_true hxy)
        clear hxy hpre
        go_wp2_with fail
        go_ret
        exact ⟨by rw [HD.out]; rfl, hb⟩
  · have hne : ((xs.length : Int) != (ys.length : Int)) = true := by simpa using fun h : (xs.length : Int) = (ys.length : Int) => hlen (by omega)
    have heq : ((xs.length : Int) == (ys.length : Int)) = false := by simpa using fun h : (xs.length : Int) = (ys.length : Int) => hlen (by omega)
    have hdec : decide (xs = ys) = false := decide_eq_false (fun e => hlen (by rw [e]))
    rw [hdec]
    clear hdec hlen
    go_enter Tryd.func8, Tryd.ntmps8
    go_wp2_with fail
    go_ret
    exact ⟨rfl, Below.refl _ _⟩
/-- !int.T -/
def sdT (t : Ty) : Ty := ⟨2, 1, ⟨#[]⟩, [], [t]⟩
theorem sd_part (t : Ty) : partT (sdT t) = true := by unfold partT sdT; simp
theorem sd_chk1 : chkTy (sdT endT) = 0 := by
  unfold chkTy
  have hp : partT endT = true := by unfold partT endT; simp
  rw [chkT_eq, if_neg (by decide), sd_part, if_neg (by decide), if_neg (by decide), if_neg (by decide)]
  show (chkTL _ [endT] (0, 1)).1 = 0
  rw [chkTL_cons, if_neg (by decide), chkT_eq, if_neg (by decide), hp, if_neg (by decide), if_neg (by decide), if_neg (by decide)]
  rfl
theorem sd_chk2 : chkTy (sdT (sdT endT)) = 0 := by
  unfold chkTy
  have hp : partT endT = true := by unfold partT endT; simp
  rw [chkT_eq, if_neg (by decide), sd_part, if_neg (by decide), if_neg (by decide), if_neg (by decide)]
  show (chkTL _ [sdT endT] (0, 1)).1 = 0
  rw [chkTL_cons, if_neg (by decide), chkT_eq, if_neg (by decide), sd_part, if_neg (by decide), if_neg (by decide), if_neg (by decide)]
  show (chkTL _ [] (chkTL _ [endT] (0, 2))).1 = 0
  rw [chkTL_cons, if_neg (by decide), chkT_eq, if_neg (by decide), hp, if_neg (by decide), if_neg (by decide), if_neg (by decide)]
  rfl
theorem den_end (k : Nat) : den endT e0 (k + 1) = ⟨1, 0, [], []⟩ := by rw [den_node endT e0 (by decide) (by decide)]; rfl
theorem den_sd (t : Ty) (k : Nat) : den (sdT t) e0 (k + 1) = ⟨2, 1, [], [den t e0 k]⟩ := by rw [den_node (sdT t) e0 (by show (2 : Int) ≠ 9; decide) (by show (2 : Int) ≠ 8; decide)]; rfl
/-- what a graph of !int.T does -/
theorem sd_node {g : List Nd} {i : Nat} {x : Tr} {k : Nat} (h : gT g (k + 1) i = ⟨2, 1, [], [x]⟩) : (nodeAt g i).kind = 2 ∧ (nodeAt g i).so = 1 ∧ (nodeAt g i).labs = [] ∧ gT g k (toAt (nodeAt g i) 0) = x := by
  rw [gT_succ, Tr.mk.injEq] at h
  obtain ⟨h1, h2, h3, h4⟩ := h
  refine ⟨h1, h2, h3, ?_⟩
  match hq : (nodeAt g i).to, h4 with
  | [a], h4 =>
    simp at h4
    unfold toAt
    rw [hq]
    exact h4
theorem why_dot {g h : List Nd} (hg : OFG (sdT endT) g) (hh : OFG (sdT (sdT endT)) h) : ∃ arr, srB g h 0 0 = (some 1, arr) ∧ (wayGA arr 1).reverse = [dotB] ∧ (wayGA arr 1).length = 1 := by
  have g2 := hg.does 2
  have h3 := hh.does 3
  rw [den_sd, den_end] at g2
  rw [den_sd, den_sd, den_end] at h3
  obtain ⟨a1, a2, a3, a4⟩ := sd_node g2
  obtain ⟨b1, b2, b3, b4⟩ := sd_node h3
  have ak : (nodeAt g (toAt (nodeAt g 0) 0)).kind = 1 := by
    rw [gT_succ, Tr.mk.injEq] at a4; exact a4.1
  have bk := (sd_node b4).1
  have hne : toAt (nodeAt g 0) 0 ≠ 0 := fun e => by rw [e, a1] at ak; exact absurd ak (by decide)
  have hgl : 2 ≤ g.length := by
    have lt := hg.gn.to_ (i := 0) 0 ((okN_len (hg.gn.at_ hg.gn.pos)).1 (.inl a1))
    omega
  have hf0 : failP g h (0, 0, false) = false := by
    rw [failP_iff]
    unfold okP
    simp only [Bool.false_eq_true, if_false]
    exact ⟨by rw [a1, b1], by rw [a2, b2], by rw [a3, b3, a1]; simp⟩
  have hns : nextS g h (0, 0, false) = [(dotB, toAt (nodeAt g 0) 0, toAt (nodeAt h 0) 0, false)] := by
    unfold nextS stepsP
    simp only
    rw [if_pos (.inl a1)]
  have hgo : onG (nextS g h) 0 [avG (0, 0, false)] (0, 0, false) = [avG (0, 0, false), ((dotB, toAt (nodeAt g 0) 0, toAt (nodeAt h 0) 0, false), 0)] := by
    unfold onG
    rw [hns]
    show addG [avG ((0, 0, false) : Pl)] _ 0 = _
    unfold addG
    rw [if_neg (by
      intro hm
      have : (toAt (nodeAt g 0) 0, toAt (nodeAt h 0) 0, false) = ((0, 0, false) : Pl) := by simpa [plG, avG] using hm
      exact hne (by injection this))]
    rfl
  have hf1 : failP g h (toAt (nodeAt g 0) 0, toAt (nodeAt h 0) 0, false) = true := by
    cases hq : failP g h (toAt (nodeAt g 0) 0, toAt (nodeAt h 0) 0, false) with
    | true => rfl
    | false =>
      rw [failP_iff] at hq
      unfold okP at hq
      simp only [Bool.false_eq_true, if_false] at hq
      have := hq.1
      rw [ak, bk] at this
      exact absurd this (by decide)
  have hfu : ∃ f, 2 * g.length * h.length = f + 1 + 1 := by
    have h1 := hh.gn.pos
    have h2 : 2 * g.length * 1 ≤ 2 * g.length * h.length := Nat.mul_le_mul_left _ h1
    exact ⟨2 * g.length * h.length - 2, by omega⟩
  obtain ⟨f, hf⟩ := hfu
  refine ⟨[avG (0, 0, false), ((dotB, toAt (nodeAt g 0) 0, toAt (nodeAt h 0) 0, false), 0)], ?_, rfl, rfl⟩
  unfold srB srGA
  rw [hf, srG_go (v := avG ((0, 0, false) : Pl)) rfl hf0]
  have hg' : onG (nextS g h) 0 [avG (0, 0, false)] (avG ((0, 0, false) : Pl)).1.2 = [avG (0, 0, false), ((dotB, toAt (nodeAt g 0) 0, toAt (nodeAt h 0) 0, false), 0)] := hgo
  rw [hg']
  exact srG_fail (v := ((dotB, toAt (nodeAt g 0) 0, toAt (nodeAt h 0) 0, false), 0)) rfl hf1
end Go.Proofs.YtoieacgojkgjgabDoor
