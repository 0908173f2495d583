/-
  The contracts of graph.areEqual and of graph.Equal: two graphs are one and the same.
-/
import Derived.Test.YtnedgkcejlhnbaaDoorHo
namespace Go.Proofs.YtnedgkcejlhnbaaDoor
open Go.RowKit Go.Shelf

def eqN (n m : Nd) : Bool := decide (n.kind = m.kind) && (decide (n.so = m.so) && (decide (n.labs = m.labs) && decide (n.to = m.to)))
theorem eqN_iff (n m : Nd) : eqN n m = true ↔ n = m := by
  unfold eqN
  cases n
  cases m
  simp only [Bool.and_eq_true, decide_eq_true_eq, Nd.mk.injEq]
/-- two nodes' blocks -/
structure EB (w : World) (n m : Nd) (a1 a2 a3 a4 : Option Addr) (c1 c2 c3 c4 : Nat) (W : World) : Prop where
  x : NdAt W w.heap.size 0 n a1 c1 a2 c2
  y : NdAt W (w.heap.size + 1) 0 m a3 c3 a4 c4
  lt : w.heap.size + 1 < W.heap.size
  bl : Below w.heap.size w W
theorem EB.new (w : World) (n m : Nd) (a1 a2 a3 a4 : Option Addr) (c1 c2 c3 c4 : Nat) : EB w n m a1 a2 a3 a4 c1 c2 c3 c4 ((w.alloc (.cells #[.int .i64 n.kind, .int .i64 n.so, .slice a1 n.labs.length c1, .slice a2 n.to.length c2] 29)).alloc (.cells #[.int .i64 m.kind, .int .i64 m.so, .slice a3 m.labs.length c3, .slice a4 m.to.length c4] 29)) :=
  ⟨⟨by go_cell, by go_cell, by go_cell, by go_cell⟩, ⟨by go_cell, by go_cell, by go_cell, by go_cell⟩, by simp, by go_grown⟩
theorem EB.keep {w : World} {n m : Nd} {a1 a2 a3 a4 : Option Addr} {c1 c2 c3 c4 : Nat} {W W' : World} (h : EB w n m a1 a2 a3 a4 c1 c2 c3 c4 W) (hb : Below W.heap.size W W') : EB w n m a1 a2 a3 a4 c1 c2 c3 c4 W' :=
  ⟨h.x.keep hb (by have := h.lt; omega), h.y.keep hb h.lt, Nat.lt_of_lt_of_le h.lt hb.size, h.bl.trans (hb.mono h.bl.size)⟩
set_option maxRecDepth 100000 in
set_option maxHeartbeats 4000000 in
theorem areEqual_any (n m : Nd) (a1 a2 a3 a4 : Option Addr) (c1 c2 c3 c4 B : Nat) (w : World) (h1 : LA w B n.labs a1) (h2 : NI w B n.to a2) (h3 : LA w B m.labs a3) (h4 : NI w B m.to a4) (hB : B ≤ w.heap.size) (l1 : n.labs.length ≤ 1000) (l2 : n.to.length ≤ 1000) (l3 : m.labs.length ≤ 1000) (l4 : m.to.length ≤ 1000) :
    Calls Tryd.prog 24 #[ndVal n a1 c1 a2 c2, ndVal m a3 c3 a4 c4] w fun e w' => e = .returned (.bool (eqN n m)) ∧ Below w.heap.size w w' := by
  have cS := hideK (fun W (hb : Below w.heap.size w W) => eqStrs_any n.labs m.labs a1 a3 c1 c3 B W (h1.keep (hb.mono hB)) (h3.keep (hb.mono hB)) (Nat.le_trans hB hb.size) l1 l3)
  have cI := hideK (fun W (hb : Below w.heap.size w W) => eqInts_any n.to m.to a2 a4 c2 c4 B W (h2.keep (hb.mono hB)) (h4.keep (hb.mono hB)) (Nat.le_trans hB hb.size) l2 l4)
  have E0 := hideK (EB.new w n m a1 a2 a3 a4 c1 c2 c3 c4)
  obtain ⟨x0, x1, x2, x3⟩ := E0.out.x
  obtain ⟨y0, y1, y2, y3⟩ := E0.out.y
  simp only [Nat.zero_add] at x1 x2 x3 y1 y2 y3
  simp only [ndVal]
  clear h1 h2 h3 h4
  by_cases hk : n.kind = m.kind
  · have hkb : (n.kind == m.kind) = true := by rw [hk]; simp
    by_cases hs : n.so = m.so
    · have hsb : (n.so == m.so) = true := by rw [hs]; simp
      by_cases hl : n.labs = m.labs
      · have HD := hideK (show eqN n m = decide (n.to = m.to) from by unfold eqN; simp [hk, hs, hl])
        have hlb : decide (n.labs = m.labs) = true := decide_eq_true hl
        rw [hlb] at cS
        clear hk hs hl hlb
        go_enter Tryd.func24, Tryd.ntmps24
        go_wp2_with fail
        refine (cS.out _ E0.out.bl).mono ?_
        rintro e w1 ⟨rfl, hb1⟩
        have E1 := hideK (E0.out.keep hb1)
        obtain ⟨p0, p1, p2, p3⟩ := E1.out.x
        obtain ⟨q0, q1, q2, q3⟩ := E1.out.y
        simp only [Nat.zero_add] at p1 p2 p3 q1 q2 q3
        clear x0 x1 x2 x3 y0 y1 y2 y3 hb1
        go_wp2_with fail
        refine (cI.out _ E1.out.bl).mono ?_
        rintro e w2 ⟨rfl, hb2⟩
        have HB := hideK (E1.out.keep hb2).bl
        clear p0 p1 p2 p3 q0 q1 q2 q3 hb2
        go_wp2_with fail
        go_ret
        exact ⟨by rw [HD.out]; rfl, HB.out⟩
      · have HD := hideK (show eqN n m = false from by unfold eqN; simp [hl])
        have hlb : decide (n.labs = m.labs) = false := decide_eq_false hl
        rw [hlb] at cS
        clear hk hs hl hlb
        go_enter Tryd.func24, Tryd.ntmps24
        go_wp2_with fail
        refine (cS.out _ E0.out.bl).mono ?_
        rintro e w1 ⟨rfl, hb1⟩
        have HB := hideK (E0.out.keep hb1).bl
        clear x0 x1 x2 x3 y0 y1 y2 y3 hb1
        go_wp2_with fail
        go_ret
        exact ⟨by rw [HD.out]; rfl, HB.out⟩
    · have hsb : (n.so == m.so) = false := by simpa using hs
      have HD := hideK (show eqN n m = false from by unfold eqN; simp [hs])
      have HB := hideK E0.out.bl
      clear hk hs
      go_enter Tryd.func24, Tryd.ntmps24
      go_wp2_with fail
      go_ret
      exact ⟨by rw [HD.out]; rfl, HB.out⟩
  · have hkb : (n.kind == m.kind) = false := by simpa using hk
    have HD := hideK (show eqN n m = false from by unfold eqN; simp [hk])
    have HB := hideK E0.out.bl
    clear hk
    go_enter Tryd.func24, Tryd.ntmps24
    go_wp2_with fail
    go_ret
    exact ⟨by rw [HD.out]; rfl, HB.out⟩
/-- two graphs are one and the same -/
def eqG : List Nd → List Nd → Bool
  | [], [] => true
  | n :: g, m :: h => eqN n m && eqG g h
  | _, _ => false
theorem eqG_iff : ∀ g h : List Nd, eqG g h = true ↔ g = h
  | [], [] => by simp [eqG]
  | [], _ :: _ => by simp [eqG]
  | _ :: _, [] => by simp [eqG]
  | n :: g, m :: h => by
    rw [eqG, Bool.and_eq_true, eqN_iff, eqG_iff g h, List.cons.injEq]
set_option maxRecDepth 100000 in
set_option maxHeartbeats 4000000 in
theorem equalG_any (g h : List Nd) (ag ah : Option Addr) (cg ch B : Nat) (w : World) (hg : GAt w B g ag) (hh : GAt w B h ah) (hB : B ≤ w.heap.size) (hl : g.length ≤ 1000) (hl2 : h.length ≤ 1000) (sg : ∀ n ∈ g, n.labs.length ≤ 1000 ∧ n.to.length ≤ 1000) (sh : ∀ n ∈ h, n.labs.length ≤ 1000 ∧ n.to.length ≤ 1000) :
    Calls Tryd.prog 23 #[.slice ag g.length cg, .slice ah h.length ch, .func (.func 24) #[] #[]] w fun e w' => e = .returned (.bool (eqG g h)) ∧ Below w.heap.size w w' := by
  have hbd : (g.length : Int) ≤ 1000 := by omega
  have hbd2 : (h.length : Int) ≤ 1000 := by omega
  by_cases hlen : g.length = h.length
  · have heq : ((g.length : Int) == (h.length : Int)) = true := by rw [hlen]; simp
    have hne : ((g.length : Int) != (h.length : Int)) = false := by rw [hlen]; simp
    have HLEN := hideK hlen
    clear hlen
    go_enter Tryd.func23, Tryd.ntmps23
    go_wp2_with fail
    go_loopw [17] (fun i wr => ∃ k : Nat, k ≤ g.length ∧ i = .int .i64 (k : Int) ∧ g.take k = h.take k ∧ Below w.heap.size w wr) (fun i _ => g.length - (intOf i).toNat)
    case atStart => exact ⟨0, Nat.zero_le _, rfl, rfl, Below.refl _ _⟩
    case round =>
      obtain ⟨k, hk, rfl, hpre, hb⟩ := hrel
      by_cases hlt : k < g.length
      · have hltz : (k : Int) < (g.length : Int) := by omega
        have hlt2 : k < h.length := by have := HLEN.out; omega
        have hltz2 : (k : Int) < (h.length : Int) := by omega
        obtain ⟨b1, o1, rfl, l1, f1⟩ := hg.resolve_left (fun q => by rw [q] at hlt; simp at hlt)
        obtain ⟨b2, o2, rfl, l2, f2⟩ := hh.resolve_left (fun q => by rw [q] at hlt2; simp at hlt2)
        obtain ⟨a1, c1, a2, c2, n1, n2, n3⟩ := f1 k hlt
        obtain ⟨a3, c3, a4, c4, m1, m2, m3⟩ := f2 k hlt2
        have hbB := hb.mono hB
        obtain ⟨x0, x1, x2, x3⟩ := n1.keep hbB l1
        obtain ⟨y0, y1, y2, y3⟩ := m1.keep hbB l2
        have CA := hideK (fun W (hW : Below wr.heap.size wr W) => areEqual_any g[k] h[k] a1 a2 a3 a4 c1 c2 c3 c4 B W ((n2.keep hbB).keep (hW.mono (by have := hb.size; omega))) ((n3.keep hbB).keep (hW.mono (by have := hb.size; omega))) ((m2.keep hbB).keep (hW.mono (by have := hb.size; omega))) ((m3.keep hbB).keep (hW.mono (by have := hb.size; omega))) (by have := hb.size; have := hW.size; omega) (sg _ (List.getElem_mem hlt)).1 (sg _ (List.getElem_mem hlt)).2 (sh _ (List.getElem_mem hlt2)).1 (sh _ (List.getElem_mem hlt2)).2)
        have HB := hideK hb
        have HP := hideK (show g.take (k + 1) = g.take k ++ [g[k]] from List.take_succ_eq_append_getElem hlt)
        have HP2 := hideK (show h.take (k + 1) = h.take k ++ [h[k]] from List.take_succ_eq_append_getElem hlt2)
        have HPR := hideK hpre
        have HEX := hideK (eqN_iff g[k] h[k])
        have HNE := hideK (show ¬ g[k] = h[k] → eqG g h = false from fun q => by rw [Bool.eq_false_iff]; intro c; have e := (eqG_iff g h).1 c; subst e; exact q rfl)
        clear f1 f2 n1 n2 n3 m1 m2 m3 hbB hpre
        generalize g[k] = n at *
        generalize h[k] = m at *
        have E0 := hideK (EB.new wr n m a1 a2 a3 a4 c1 c2 c3 c4)
        simp only [ndVal] at CA
        have hb2l : b2 < wr.heap.size := by have := HB.out.size; omega
        have hal : ∀ o, (wr.alloc (.cells #[.int .i64 n.kind, .int .i64 n.so, .slice a1 n.labs.length c1, .slice a2 n.to.length c2] 29)).cell? ⟨b2, o, none⟩ = wr.cell? ⟨b2, o, none⟩ := fun o => World.cell?_of_block (a := ⟨b2, o, none⟩) (heap_alloc_old wr _ hb2l)
        have z0 := (hal _).trans y0
        have z1 := (hal _).trans y1
        have z2 := (hal _).trans y2
        have z3 := (hal _).trans y3
        clear hal
        cases hq : eqN n m with
        | true =>
          rw [hq] at CA HEX
          have HE := hideK (HEX.out.1 rfl)
          clear hq HEX HNE hb
          go_wp2_with fail
          refine (CA.out _ E0.out.bl).mono ?_
          rintro e w1 ⟨rfl, hb1⟩
          have HB1 := hideK ((HB.out.trans (E0.out.bl.mono HB.out.size)).trans (hb1.mono (by have := HB.out.size; have := E0.out.lt; omega)))
          clear hb1 x0 x1 x2 x3 y0 y1 y2 y3 z0 z1 z2 z3
          go_wp2_with fail
          go_roundw
          case rel => exact ⟨k + 1, by omega, by go_num, by rw [HP.out, HP2.out, HPR.out, HE.out], HB1.out⟩
          case measure => simp [intOf]; omega
        | false =>
          rw [hq] at CA HEX
          have HE := hideK (HNE.out (fun c => by have := HEX.out.2 c; cases this))
          clear hq HEX HNE hb
          go_wp2_with fail
          refine (CA.out _ E0.out.bl).mono ?_
          rintro e w1 ⟨rfl, hb1⟩
          have HB1 := hideK ((HB.out.trans (E0.out.bl.mono HB.out.size)).trans (hb1.mono (by have := HB.out.size; have := E0.out.lt; omega)))
          clear hb1 x0 x1 x2 x3 y0 y1 y2 y3 z0 z1 z2 z3
          go_wp2_with fail
          go_ret
          exact ⟨by rw [HE.out]; rfl, HB1.out⟩
      · have hltz : ¬ (k : Int) < (g.length : Int) := by omega
        have hkl : k = g.length := by omega
        subst hkl
        have hxy : g = h := by rw [List.take_length, HLEN.out, List.take_length] at hpre; exact hpre
        have HD := hideK ((eqG_iff g h).2 hxy)
        clear hxy hpre
        go_wp2_with fail
        go_ret
        exact ⟨by rw [HD.out]; rfl, hb⟩
  · have hne : ((g.length : Int) != (h.length : Int)) = true := by simpa using fun q : (g.length : Int) = (h.length : Int) => hlen (by omega)
    have heq : ((g.length : Int) == (h.length : Int)) = false := by simpa using fun q : (g.length : Int) = (h.length : Int) => hlen (by omega)
    have HD := hideK (show eqG g h = false from by rw [Bool.eq_false_iff]; intro c; exact hlen (by rw [(eqG_iff g h).1 c]))
    clear hlen
    go_enter Tryd.func23, Tryd.ntmps23
    go_wp2_with fail
    go_ret
    exact ⟨by rw [HD.out]; rfl, Below.refl _ _⟩
theorem graphEqual_any (g h : List Nd) (ag ah : Option Addr) (cg ch B : Nat) (w : World) (hg : GAt w B g ag) (hh : GAt w B h ah) (hB : B ≤ w.heap.size) (hl : g.length ≤ 1000) (hl2 : h.length ≤ 1000) (sg : ∀ n ∈ g, n.labs.length ≤ 1000 ∧ n.to.length ≤ 1000) (sh : ∀ n ∈ h, n.labs.length ≤ 1000 ∧ n.to.length ≤ 1000) :
    Calls Tryd.prog 7 #[.slice ag g.length cg, .slice ah h.length ch] w fun e w' => e = .returned (.bool (eqG g h)) ∧ Below w.heap.size w w' := by
  have c := equalG_any g h ag ah cg ch B w hg hh hB hl hl2 sg sh
  go_enter Tryd.func7, Tryd.ntmps7
  go_wp2_with fail
  refine c.mono ?_
  rintro e w1 ⟨rfl, hb1⟩
  go_wp2_with fail
  go_ret
  exact ⟨rfl, hb1⟩
end Go.Proofs.YtnedgkcejlhnbaaDoor
