/-
  The contracts of graph.countWays and graph.Runs.
-/
import Derived.Test.YtnedgkcejlhnbaaDoorNv
namespace Go.Proofs.YtnedgkcejlhnbaaDoor
open Go.RowKit Go.Shelf Go.Lib

theorem way_succ (g : List Nd) (k : Nat) : nxW g (wayN g k) = wayN g (k + 1) := by funext i; rw [wayN]; rfl
/-- the result's room, while ways are counted -/
structure RB (wr : World) (rb : Nat) : Prop where
  r : ∀ j, j < 9 → wr.cell? ⟨rb, j, none⟩ = some (.int .u64 0)
  f : ∀ o, wr.frozen? ⟨rb, o, none⟩ = false
  lt : rb < wr.heap.size
theorem RB.keep {wr wr' : World} {rb : Nat} (h : RB wr rb) (hb : Below wr.heap.size wr wr') : RB wr' rb :=
  ⟨fun j hj => (hb.cell (p := ⟨rb, j, none⟩) h.lt).trans (h.r j hj), fun o => (hb.frozen (p := ⟨rb, o, none⟩) h.lt).trans (h.f o), Nat.lt_of_lt_of_le h.lt hb.size⟩
theorem RB.st {wr : World} {rb b o : Nat} {c : List Nat} (h : RB wr rb) (hb : rb ≠ b) : RB (st9 wr b o c) rb :=
  ⟨fun j hj => (st9_other (.inl hb)).trans (h.r j hj), fun o => (st9_frozen _).trans (h.f o), by rw [st9_size]; exact h.lt⟩
set_option maxRecDepth 100000 in
set_option maxHeartbeats 4000000 in
theorem countWays_any (g : List Nd) (ag : Option Addr) (cg B : Nat) (w : World) (k : Nat) (hg : GN g) (hga : GAK w B g ag) (hB : B ≤ w.heap.size) (hk : k ≤ 200) :
    Calls Tryd.prog 20 #[.slice ag g.length cg, .int .i64 (k : Int)] w fun e w' => e = .returned (ctVal (wayN g k 0)) ∧ Below w.heap.size w w' := by
  have hpos := hg.pos
  have hle := hg.le
  have HGA := hideP hga
  obtain ⟨gb, go, rfl, hgB, hgc⟩ := hga.resolve_left (fun q => by rw [q] at hpos; simp at hpos)
  obtain ⟨Z, hZ, hmk⟩ := makeC g.length (by omega)
  have hl0 := (LG.made (w := w) (V := w.alloc (.cells #[.int .u64 0, .int .u64 0, .int .u64 0, .int .u64 0, .int .u64 0, .int .u64 0, .int .u64 0, .int .u64 0, .int .u64 0] 62)) (n := g.length) ((Below.refl w.heap.size w).alloc (Nat.le_refl _) _) hZ)
  rw [show (w.alloc (.cells #[.int .u64 0, .int .u64 0, .int .u64 0, .int .u64 0, .int .u64 0, .int .u64 0, .int .u64 0, .int .u64 0, .int .u64 0] 62)).heap.size = w.heap.size + 1 by simp] at hl0
  have HL0 := hideP hl0
  clear hl0
  have HR0 := hideP (show RB ((w.alloc (.cells #[.int .u64 0, .int .u64 0, .int .u64 0, .int .u64 0, .int .u64 0, .int .u64 0, .int .u64 0, .int .u64 0, .int .u64 0] 62)).alloc (.cells Z 62)) w.heap.size from RB.keep (wr := w.alloc (.cells #[.int .u64 0, .int .u64 0, .int .u64 0, .int .u64 0, .int .u64 0, .int .u64 0, .int .u64 0, .int .u64 0, .int .u64 0] 62)) ⟨fun j hj => by
    match j, hj with
    | 0, _ | 1, _ | 2, _ | 3, _ | 4, _ | 5, _ | 6, _ | 7, _ | 8, _ => go_cell, fun o => by go_cell, by simp⟩ ((Below.refl _ _).alloc (Nat.le_refl _) _))
  have HG := hideP hg
  have HGC := hideP hgc
  clear hg hgc hga hZ
  go_enter Tryd.func20, Tryd.ntmps20
  go_wp2_with fail
  go_loopw [13] (fun v wr => ∃ m : Nat, m ≤ g.length ∧ v = .int .i64 (m : Int) ∧ LG w wr (w.heap.size + 1) g.length (fun i => if i < m ∧ (nodeAt g i).kind = 1 then one9 else zero9) ∧ RB wr w.heap.size) (fun v _ => g.length - (intOf v).toNat)
  case atStart => exact ⟨0, Nat.zero_le _, rfl, HL0.out.congr fun i _ => (if_neg (by omega)).symm, HR0.out⟩
  case round =>
    obtain ⟨m, hm, rfl, hL, hR⟩ := hrel
    by_cases hlt : m < g.length
    · have hltz : (m : Int) < (g.length : Int) := by omega
      obtain ⟨a1, c1, a2, c2, hN, _⟩ := HGC.out m hlt
      obtain ⟨m0, m1, m2, m3⟩ := hN.keep (hL.bl.mono hB) hgB
      have HX := hideP (nodeAt_lt g m hlt)
      have HLX := hideP (hL.keep ((Below.refl wr.heap.size wr).alloc (Nat.le_refl _) (.cells #[.int .i64 g[m].kind, .int .i64 g[m].so, .slice a1 g[m].labs.length c1, .slice a2 g[m].to.length c2] 29)))
      have HRX := hideP (hR.keep ((Below.refl wr.heap.size wr).alloc (Nat.le_refl _) (.cells #[.int .i64 g[m].kind, .int .i64 g[m].so, .slice a1 g[m].labs.length c1, .slice a2 g[m].to.length c2] 29)))
      clear hN hL hR
      generalize g[m] = nd at *
      by_cases hk : nd.kind = 1
      · have hkb : (nd.kind == 1) = true := by rw [hk]; rfl
        obtain ⟨p0, p1, p2, p3, p4, p5, p6, p7, p8⟩ := HLX.out.row m hlt
        have hfz := HLX.out.fz
        have hob := HLX.out.lt
        have HPUT := hideP (HLX.out.put hlt one9)
        have HRP := hideP (HRX.out.st (b := w.heap.size + 1) (o := m * 9) (c := one9) (by omega))
        have HNX := hideP (show ∀ i, i < g.length → upC (fun i => if i < m ∧ (nodeAt g i).kind = 1 then one9 else zero9) m one9 i = (if i < m + 1 ∧ (nodeAt g i).kind = 1 then one9 else zero9) from fun i _ => by
          unfold upC
          by_cases e : i = m
          · rw [if_pos e, if_pos ⟨by omega, by rw [e, HX.out]; exact hk⟩]
          · rw [if_neg e]
            show (if i < m ∧ (nodeAt g i).kind = 1 then one9 else zero9) = _
            by_cases l : i < m ∧ (nodeAt g i).kind = 1
            · rw [if_pos l, if_pos ⟨by omega, l.2⟩]
            · rw [if_neg l, if_neg (fun q => l ⟨by omega, q.2⟩)])
        clear hk
        go_wp2_with fail
        exact ⟨⟨m + 1, by omega, by go_num, HPUT.out.congr HNX.out, HRP.out⟩, by simp [intOf]; omega⟩
      · have hkb : (nd.kind == 1) = false := by rw [beq_eq_false_iff_ne]; exact hk
        have HNX := hideP (HLX.out.congr (G := fun i => if i < m + 1 ∧ (nodeAt g i).kind = 1 then one9 else zero9) fun i _ => by
          show (if i < m ∧ (nodeAt g i).kind = 1 then one9 else zero9) = _
          by_cases l : i < m ∧ (nodeAt g i).kind = 1
          · rw [if_pos l, if_pos ⟨by omega, l.2⟩]
          · rw [if_neg l, if_neg (fun q => l ⟨by
              by_cases e : i = m
              · subst e; rw [HX.out] at q; exact absurd q.2 hk
              · omega, q.2⟩)])
        clear hk
        go_wp2_with fail
        go_roundw
        case rel => exact ⟨m + 1, by omega, by go_num, HNX.out, HRX.out⟩
        case measure => simp [intOf]; omega
    · have hltz : ¬ (m : Int) < (g.length : Int) := by omega
      have hme : m = g.length := by omega
      have HL1 := hideP (show LG w wr (w.heap.size + 1) g.length (wayN g 0) from hL.congr fun i hi => by
        rw [wayN]
        by_cases e : (nodeAt g i).kind = 1
        · rw [if_pos e, if_pos ⟨by omega, e⟩]
        · rw [if_neg e, if_neg (fun q => e q.2)])
      have HR1 := hideP hR
      clear hL hR HL0 HR0
      go_wp2_with fail
      go_loopw [5, 27] (fun v5 v27 wr => ∃ j ob : Nat, j ≤ k ∧ v27 = .int .i64 (j : Int) ∧ v5 = .slice (some ⟨ob, 0, none⟩) g.length g.length ∧ LG w wr ob g.length (wayN g j) ∧ RB wr w.heap.size) (fun _ v27 _ => k - (intOf v27).toNat)
      case atStart => exact ⟨0, _, Nat.zero_le _, rfl, rfl, HL1.out, HR1.out⟩
      case round =>
        obtain ⟨j, ob, hj, rfl, rfl, hL, hR⟩ := hrel
        by_cases hjk : j < k
        · have hjz : (j : Int) < (k : Int) := by omega
          have c := longer_any g (some ⟨gb, go, none⟩) cg B wr HG.out (HGA.out.keep (hL.bl.mono hB)) (Nat.le_trans hB hL.bl.size) (wayN g j) ob hL.row hL.lt (wayN_len g j) (wayN_lt g j)
          rw [way_succ] at c
          have HLJ := hideP hL
          have HRJ := hideP hR
          clear hL hR HL1 HR1
          go_wp2_with fail
          refine c.mono ?_
          rintro e w1 ⟨o1, rfl, hl1⟩
          have HL2 := hideP (show LG w w1 o1 g.length (wayN g (j + 1)) from ⟨hl1.row, hl1.fz, hl1.lt, Nat.le_trans HLJ.out.bl.size hl1.ge, HLJ.out.bl.trans (hl1.bl.mono HLJ.out.bl.size)⟩)
          have HR2 := hideP (HRJ.out.keep hl1.bl)
          clear c hl1
          go_wp2_with fail
          go_roundw
          case rel => exact ⟨j + 1, o1, by omega, by go_num, rfl, HL2.out, HR2.out⟩
          case measure => simp [intOf]; omega
        · have hjz : ¬ (j : Int) < (k : Int) := by omega
          obtain rfl : j = k := by omega
          have hposz : (0 : Int) < (g.length : Int) := by omega
          obtain ⟨q0, q1, q2, q3, q4, q5, q6, q7, q8⟩ := hL.row 0 hpos
          simp only [Nat.zero_mul, Nat.zero_add] at q0 q1 q2 q3 q4 q5 q6 q7 q8
          have r0 := hR.r 0 (by omega)
          have r1 := hR.r 1 (by omega)
          have r2 := hR.r 2 (by omega)
          have r3 := hR.r 3 (by omega)
          have r4 := hR.r 4 (by omega)
          have r5 := hR.r 5 (by omega)
          have r6 := hR.r 6 (by omega)
          have r7 := hR.r 7 (by omega)
          have r8 := hR.r 8 (by omega)
          have hrf := hR.f
          have HB1 := hideP hL.bl
          have HRR := hideP hR.r
          clear hL hR HL1 HR1
          go_wp2_with fail
          have hS := st9_at (W := wr) (b := w.heap.size) (o := 0) (c := wayN g j 0) (v := fun _ => .int .u64 0) (fun j hj => by rw [Nat.zero_add]; exact HRR.out j hj)
          have hB9 := st9_below (b := w.heap.size) (o := 0) (c := wayN g j 0) HB1.out (Nat.le_refl _)
          change bodyPost _ _ _ _ _ (st9 wr w.heap.size 0 (wayN g j 0))
          generalize st9 wr w.heap.size 0 (wayN g j 0) = W9 at hS hB9 ⊢
          obtain ⟨s0, s1, s2, s3, s4, s5, s6, s7, s8⟩ := hS
          simp only [Nat.zero_add] at s1 s2 s3 s4 s5 s6 s7 s8
          refine bodyPost_ret (v := ctVal (wayN g j 0)) (by simp [results, Tryd.results20, go_sem, ctVal, s0, s1, s2, s3, s4, s5, s6, s7, s8]) rfl ?_
          exact ⟨rfl, hB9⟩
/-- what Runs answers -/
def runV (g : List Nd) (k : Int) : Value := if k < 0 ∨ 200 < k then .tuple #[.string ⟨#[]⟩, .int .i64 1] else .tuple #[.string ⟨(decS (wayN g k.toNat 0)).toArray⟩, .int .i64 0]
set_option maxRecDepth 100000 in
set_option maxHeartbeats 2000000 in
theorem runs_any (g : List Nd) (ag : Option Addr) (cg B : Nat) (w : World) (k : Int) (hg : GN g) (hga : GAK w B g ag) (hB : B ≤ w.heap.size) (htab : PowU w) :
    Calls Tryd.prog 5 #[.slice ag g.length cg, .int .i64 k] w fun e w' => e = .returned (runV g k) ∧ Below w.heap.size w w' := by
  have c1 := checkG_any g ag cg B w hg hga.gat hB
  by_cases hk : k < 0 ∨ 200 < k
  · have HV := hideP (show runV g k = .tuple #[.string ⟨#[]⟩, .int .i64 1] from if_pos hk)
    clear hga hg htab
    by_cases h0 : k < 0
    · clear hk
      go_enter Tryd.func5, Tryd.ntmps5
      go_wp2_with fail
      refine c1.mono ?_
      rintro e w1 ⟨rfl, hb1⟩
      have HB1 := hideP hb1
      clear c1 hb1
      go_wp2_with fail
      go_ret2
      exact ⟨by rw [HV.out]; rfl, HB1.out⟩
    · have h2 : 200 < k := hk.resolve_left h0
      clear hk
      go_enter Tryd.func5, Tryd.ntmps5
      go_wp2_with fail
      refine c1.mono ?_
      rintro e w1 ⟨rfl, hb1⟩
      have HB1 := hideP hb1
      clear c1 hb1
      go_wp2_with fail
      go_ret2
      exact ⟨by rw [HV.out]; rfl, HB1.out⟩
  · obtain ⟨n, rfl⟩ : ∃ n : Nat, k = n := ⟨k.toNat, by omega⟩
    have HV := hideP (show runV g (n : Int) = .tuple #[.string ⟨(decS (wayN g n 0)).toArray⟩, .int .i64 0] from if_neg hk)
    have h0 : ¬ (n : Int) < 0 := by omega
    have h2 : ¬ 200 < (n : Int) := by omega
    have hn : n ≤ 200 := by omega
    have C2 := hideP (fun (W : World) (hb : Below w.heap.size w W) => countWays_any g ag cg B W n hg (hga.keep (hb.mono hB)) (Nat.le_trans hB hb.size) hn)
    have C3 := hideP (fun (W : World) (hb : Below w.heap.size w W) => decimal_any (wayN g n 0) W (wayN_lt g n 0) (Go.Joins.tab_stays gPowU htab hb (Nat.le_refl _)))
    clear hk hga hg htab
    go_enter Tryd.func5, Tryd.ntmps5
    go_wp2_with fail
    refine c1.mono ?_
    rintro e w1 ⟨rfl, hb1⟩
    have c2 := C2.out w1 hb1
    have HB1 := hideP hb1
    clear c1 hb1 C2
    go_wp2_with fail
    refine c2.mono ?_
    rintro e w2 ⟨rfl, hb2⟩
    have hb3 := HB1.out.trans (hb2.mono HB1.out.size)
    have c3 := C3.out w2 hb3
    have HB2 := hideP hb3
    clear c2 hb2 hb3 C3
    go_wp2_with fail
    refine c3.mono ?_
    rintro e w3 ⟨rfl, hb4⟩
    have HB3 := hideP (HB2.out.trans (hb4.mono HB2.out.size))
    clear c3 hb4
    go_wp2_with fail
    go_ret2
    exact ⟨by rw [HV.out]; rfl, HB3.out⟩
end Go.Proofs.YtnedgkcejlhnbaaDoor
