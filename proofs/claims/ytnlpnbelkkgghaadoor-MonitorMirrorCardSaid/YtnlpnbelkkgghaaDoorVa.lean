/-
  The contracts of graph.isNode, graph.Check and graph.Least, for graphs that Check lets by.
-/
import Derived.Test.YtnlpnbelkkgghaaDoorIg
import Derived.Test.YtnlpnbelkkgghaaDoorHj
namespace Go.Proofs.YtnlpnbelkkgghaaDoor
open Go.RowKit Go.Shelf

theorem toAt_cellA {W : World} {B : Nat} {n : Nd} {at1 : Option Addr} (h : NI W B n.to at1) {i : Nat} (hi : i < n.to.length) : ∃ b o, at1 = some ⟨b, o, none⟩ ∧ b < B ∧ W.cell? ⟨b, o + i, none⟩ = some (.int .i64 (toAt n i : Int)) := by
  obtain ⟨b, o, rfl, hb, hc⟩ := h.resolve_left (fun q => by have := congrArg List.length q; simp at this; rw [this] at hi; simp at hi)
  refine ⟨b, o, rfl, hb, ?_⟩
  rw [hc i (by simpa using hi), List.getElem_map]
  unfold toAt
  rw [List.getElem?_eq_getElem hi]; rfl
theorem infoTyp : (Tryd.prog.info? 25).map (fun i => (i.zero, i.size, i.bytes)) = some (some (.agg #[.int .i64 0, .int .i64 0, .string ⟨#[]⟩, .slice none 0 0, .slice none 0 0]), 5, 80) := by kernel_rfl
def eC : List Value := [.int .i64 1, .int .i64 0, .string ⟨#[]⟩, .slice none 0 0, .slice none 0 0]
def eCs1 : Nat → List Value
  | 0 => []
  | k + 1 => eCs1 k ++ eC
theorem eCs1_len : ∀ k, (eCs1 k).length = k * 5
  | 0 => rfl
  | k + 1 => by rw [eCs1, List.length_append, eCs1_len k]; show k * 5 + 5 = _; omega
theorem eCs1_at : ∀ (k i : Nat), i < k → ∀ j, j < 5 → (eCs1 k)[i * 5 + j]? = eC[j]?
  | 0, _, h, _, _ => by omega
  | k + 1, i, h, j, hj => by
    rw [eCs1]
    by_cases hi : i < k
    · rw [List.getElem?_append_left (by rw [eCs1_len]; omega)]
      exact eCs1_at k i hi j hj
    · obtain rfl : i = k := by omega
      rw [List.getElem?_append_right (by rw [eCs1_len]; omega), eCs1_len, Nat.add_sub_cancel_left]
/-- the part that a node were, with so many Ends -/
def nTy (n : Nd) (k : Nat) : Ty := ⟨n.kind, n.so, ⟨#[]⟩, n.labs, List.replicate k endT⟩
theorem map_rep (l : List Nat) : (l.map fun _ => endT) = List.replicate l.length endT := by
  induction l with
  | nil => rfl
  | cons a l ih => rw [List.map_cons, ih]; rfl
theorem ends_chk (ar : List ByteArray) : ∀ (k c : Nat), k + c ≤ 60 → (chkTL ar (List.replicate k endT) (0, c)).1 = 0
  | 0, _, _ => rfl
  | k + 1, c, h => by
    have hp : partT endT = true := by unfold partT endT; simp
    have e : chkT endT ar c = (0, c + 1) := by
      rw [chkT_eq, if_neg (by omega), hp, if_neg (by decide), if_neg (by rintro ⟨h, _⟩; exact absurd h (by decide)), if_neg (by rintro ⟨h, _⟩; exact absurd h (by decide))]
      rfl
    rw [List.replicate_succ, chkTL_cons, if_neg (by simp), e]
    exact ends_chk ar k (c + 1) (by omega)
theorem node_chk {n : Nd} (h : okN n) : chkTy (nTy n n.to.length) = 0 := by
  have h6 := (shp_len (okN_shp h)).2.1
  have hc := okN_cases h
  unfold okN at h
  rw [map_rep] at h
  unfold chkTy
  rw [chkT_eq, if_neg (by decide)]
  have hp : partT (nTy n n.to.length) = true := h
  have hk : (nTy n n.to.length).kind = n.kind := rfl
  rw [hp, if_neg (by decide), hk, if_neg (by omega), if_neg (by omega), if_neg (by omega)]
  exact ends_chk _ n.to.length (0 + 1) (by omega)
/-- while a node's part is made -/
structure PN (w : World) (n : Nd) (a1 : Option Addr) (c1 k : Nat) (u : Value) (W : World) : Prop where
  p0 : W.cell? ⟨w.heap.size + 1, 0, none⟩ = some (.int .i64 n.kind)
  p1 : W.cell? ⟨w.heap.size + 1, 1, none⟩ = some (.int .i64 n.so)
  p2 : W.cell? ⟨w.heap.size + 1, 2, none⟩ = some (.string ⟨#[]⟩)
  p3 : W.cell? ⟨w.heap.size + 1, 3, none⟩ = some (.slice a1 n.labs.length c1)
  p4 : W.cell? ⟨w.heap.size + 1, 4, none⟩ = some u
  pf : W.frozen? ⟨w.heap.size + 1, 4, none⟩ = false
  own : W.ownsRow (w.heap.size + 1 + 1) 25 5 u k (eCs1 k)
  sz : w.heap.size + 1 + 1 ≤ W.heap.size
  bl : Below w.heap.size w W
theorem PN.app {w W w7 : World} {n : Nd} {a1 : Option Addr} {c1 k : Nat} {u v7 : Value} {ob : Obj} (h : PN w n a1 c1 k u W) (hg : (W.alloc ob).grownBy w7 u.ownBlock) (hO : w7.ownsRow (w.heap.size + 1 + 1) 25 5 v7 (k + 1) (eCs1 k ++ eC)) : PN w n a1 c1 (k + 1) v7 (w7.setCell ⟨w.heap.size + 1, 4, none⟩ v7) := by
  have q := h.sz
  have hlow : ∀ b, b < w.heap.size + 1 + 1 → some b ≠ u.ownBlock := fun b hb e => by have := (h.own.lt b e.symm).1; omega
  have hs7 : W.heap.size + 1 ≤ w7.heap.size := by have := hg.size; simp at this; omega
  have hblk : ∀ b, b < w.heap.size + 1 + 1 → w7.heap[b]? = W.heap[b]? := fun b hb => (hg.block b (by simp; omega) (hlow b hb)).trans (heap_alloc_old W ob (by omega))
  have hc : ∀ o, w7.cell? ⟨w.heap.size + 1, o, none⟩ = W.cell? ⟨w.heap.size + 1, o, none⟩ := fun o => World.cell?_of_block (a := ⟨w.heap.size + 1, o, none⟩) (hblk (w.heap.size + 1) (by omega))
  have hf : ∀ o, w7.frozen? ⟨w.heap.size + 1, o, none⟩ = W.frozen? ⟨w.heap.size + 1, o, none⟩ := fun o => World.frozen?_of_block (a := ⟨w.heap.size + 1, o, none⟩) (hblk (w.heap.size + 1) (by omega))
  have ho : ∀ o, o ≠ 4 → (w7.setCell ⟨w.heap.size + 1, 4, none⟩ v7).cell? ⟨w.heap.size + 1, o, none⟩ = W.cell? ⟨w.heap.size + 1, o, none⟩ := fun o hn => (World.cell?_setCell_other _ _ _ _ (by intro e; injection e with _ e; exact hn e.symm)).trans (hc o)
  refine ⟨(ho 0 (by omega)).trans h.p0, (ho 1 (by omega)).trans h.p1, (ho 2 (by omega)).trans h.p2, (ho 3 (by omega)).trans h.p3, World.cell?_setCell_same _ _ _ ((hc 4).trans h.p4), (World.frozen?_setCell _ _ _ _).trans ((hf 4).trans h.pf), own_setB hO (by omega) v7, by simp; omega, ?_⟩
  refine ⟨hg.os.trans h.bl.os, hg.tape.trans h.bl.tape, hg.output.trans h.bl.output, by simp; omega, fun b hb => ?_⟩
  rw [Below.heap_setCell _ _ _ b (fun e => by have e : b = w.heap.size + 1 := e; omega), hblk b (by omega)]
  exact h.bl.block b hb
theorem PN.kt {w W : World} {n : Nd} {a1 : Option Addr} {c1 k : Nat} {u : Value} (h : PN w n a1 c1 k u W) : ∃ ak ck, u = .slice ak k ck ∧ KT W W.heap.size 1 (List.replicate k endT) ak := by
  rcases own_cells h.own with ⟨rfl, h0, _⟩ | ⟨g, cap, rfl, _, hg, hc⟩
  · subst h0; exact ⟨none, 0, rfl, .inl rfl⟩
  · refine ⟨_, _, rfl, .inr ⟨g, 0, rfl, hg, fun i hi => ?_⟩⟩
    have hi' : i < k := by simpa using hi
    have e : (List.replicate k endT)[i] = endT := by simp
    rw [e, Nat.zero_add]
    exact ⟨none, 0, none, 0, ⟨hc (i * 5 + 0) _ ((eCs1_at k i hi' 0 (by omega)).trans rfl), hc _ _ ((eCs1_at k i hi' 1 (by omega)).trans rfl), hc _ _ ((eCs1_at k i hi' 2 (by omega)).trans rfl), hc _ _ ((eCs1_at k i hi' 3 (by omega)).trans rfl), hc _ _ ((eCs1_at k i hi' 4 (by omega)).trans rfl)⟩, ⟨by decide, fun l hl => (by cases hl), by decide, by decide, by decide, by decide⟩, .inl rfl, rfl⟩
set_option maxRecDepth 100000 in
set_option maxHeartbeats 4000000 in
theorem isNode_any (n : Nd) (N : Nat) (a1 a2 : Option Addr) (c1 c2 B : Nat) (w : World) (h1 : LA w B n.labs a1) (h2 : NI w B n.to a2) (hB : B ≤ w.heap.size) (hn : okN n) (ht : ∀ t ∈ n.to, t < N) :
    Calls Tryd.prog 58 #[ndVal n a1 c1 a2 c2, .int .i64 (N : Int)] w fun e w' => e = .returned (.bool true) ∧ Below w.heap.size w w' := by
  obtain ⟨i1, hj, hy0, hy1, hy2⟩ := info_parts infoTyp
  have h6 := (shp_len (okN_shp hn)).2.1
  have h6l := (shp_len (okN_shp hn)).1
  have h6z : (n.to.length : Int) ≤ 6 := by omega
  have b0 : NdAt (w.alloc (.cells #[.int .i64 n.kind, .int .i64 n.so, .slice a1 n.labs.length c1, .slice a2 n.to.length c2] 41)) w.heap.size 0 n a1 c1 a2 c2 := ⟨by go_cell, by go_cell, by go_cell, by go_cell⟩
  obtain ⟨x0, x1, x2, x3⟩ := b0
  simp only [Nat.zero_add] at x1 x2 x3
  have P0 := hideK (show PN w n a1 c1 0 (.slice none 0 0) ((w.alloc (.cells #[.int .i64 n.kind, .int .i64 n.so, .slice a1 n.labs.length c1, .slice a2 n.to.length c2] 41)).alloc (.cells #[.int .i64 n.kind, .int .i64 n.so, .string ⟨#[]⟩, .slice a1 n.labs.length c1, .slice none 0 0] 25)) from
    ⟨by go_cell, by go_cell, by go_cell, by go_cell, by go_cell, by go_simp, World.ownsRow_nil _ _ _ _, by simp, ((Below.refl _ _).alloc (Nat.le_refl _) _).alloc (by simp) _⟩)
  have H2 := hideK h2
  have H1 := hideK h1
  have HT := hideK ht
  have HCK := hideK (node_chk hn)
  have HLB := hideK (show ∀ l ∈ n.labs, l.size ≤ 9223372036854775807 from fun l hl => by have := ((okN_shp hn).2.1 l hl).2; omega)
  simp only [ndVal]
  clear h1 h2 ht hn
  go_enter Tryd.func58, Tryd.ntmps58
  go_wp2_with fail
  go_loopw [22] (fun i wr => ∃ (k : Nat) (u : Value), k ≤ n.to.length ∧ i = .int .i64 (k : Int) ∧ PN w n a1 c1 k u wr) (fun i _ => n.to.length - (intOf i).toNat)
  case atStart => exact ⟨0, _, Nat.zero_le _, rfl, P0.out⟩
  case round =>
    obtain ⟨k, u, hk, rfl, hP⟩ := hrel
    clear P0 x0 x1 x2 x3
    by_cases hlt : k < n.to.length
    · have hltz : (k : Int) < (n.to.length : Int) := by omega
      obtain ⟨tb, tof, rfl, htb, d0⟩ := toAt_cellA (H2.out.keep (hP.bl.mono hB)) hlt
      have htN : toAt n k < N := by
        unfold toAt
        rw [List.getElem?_eq_getElem hlt]
        exact HT.out _ (List.getElem_mem hlt)
      generalize toAt n k = tv at *
      have ht1 : ¬ ((tv : Int) < 0) := by omega
      have ht2 : (tv : Int) < (N : Int) := by omega
      have ht3 : ¬ ((tv : Int) ≥ (N : Int)) := by omega
      have p4 := hP.p4
      have LR := hideK (World.ownsRow_lit (base := w.heap.size + 1 + 1) (e := 25) (size := 5) wr #[.int .i64 1, .int .i64 0, .string ⟨#[]⟩, .slice none 0 0, .slice none 0 0] 1 hP.sz (by decide) rfl)
      have OA := hideK (own_belowG hP.own ((Below.refl _ _).alloc (Nat.le_refl _) (.cells #[.int .i64 1, .int .i64 0, .string ⟨#[]⟩, .slice none 0 0, .slice none 0 0] 25)))
      have HP := hideK hP
      have hsz := hP.sz
      have HAPP := hideK (fun (w7 : World) (v7 : Value) (hg : (wr.alloc (.cells #[.int .i64 1, .int .i64 0, .string ⟨#[]⟩, .slice none 0 0, .slice none 0 0] 25)).grownBy w7 u.ownBlock) (hO : w7.ownsRow (w.heap.size + 1 + 1) 25 5 v7 (k + 1) (eCs1 k ++ eC)) => hP.app (v7 := v7) hg hO)
      have HLOW := hideK (show ∀ b, b < w.heap.size + 1 + 1 → some b ≠ u.ownBlock from fun b hb e => by have := (hP.own.lt b e.symm).1; omega)
      obtain ⟨ua, uc, rfl⟩ := sliceH_own hP.own
      clear hP
      go_wp2_with (at_builtin; refine wpList_append_rows _ rfl (.tmp 34) (.tmp 36) 23 rfl (w.heap.size + 1 + 1) (w.heap.size + 1 + 1) 25 i1 _ 5 80 Tryd.underlying23 hj hy0 hy1 hy2 rfl (by decide) _ _ _ rfl OA.out _ _ _ rfl LR.out (by simp [Value.oneCell']) (by unfold maxLen; omega) (by omega) (by simp; omega) ?_; intro v7 w7 hO7 hg7 hat7; have pc7 := (World.cell?_of_block (a := ⟨w.heap.size + 1, 4, none⟩) (hg7.block (w.heap.size + 1) (by simp; omega) (HLOW.out _ (by omega)))).trans ((World.cell?_of_block (a := ⟨w.heap.size + 1, 4, none⟩) (heap_alloc_old wr _ (by show w.heap.size + 1 < _; omega))).trans HP.out.p4); have pf7 := (World.frozen?_of_block (a := ⟨w.heap.size + 1, 4, none⟩) (hg7.block (w.heap.size + 1) (by simp; omega) (HLOW.out _ (by omega)))).trans ((World.frozen?_of_block (a := ⟨w.heap.size + 1, 4, none⟩) (heap_alloc_old wr _ (by show w.heap.size + 1 < _; omega))).trans HP.out.pf); have HP7 := hideK (HAPP.out w7 v7 hg7 hO7); obtain ⟨va, vc, rfl⟩ := sliceH_own hO7; clear hO7 hg7 hat7)
      go_roundw
      case rel => exact ⟨k + 1, _, by omega, by go_num, HP7.out⟩
      case measure => simp [intOf]; omega
    · have hltz : ¬ (k : Int) < (n.to.length : Int) := by omega
      have hkl : k = n.to.length := by omega
      subst hkl
      obtain ⟨ak, ck, rfl, hkt⟩ := hP.kt
      have cC := typesCheck_w 1 (nTy n n.to.length) a1 c1 ak ck wr ⟨by show (0 : Nat) ≤ _; omega, HLB.out, by show n.labs.length ≤ _; omega, by show (List.replicate n.to.length endT).length ≤ _; rw [List.length_replicate]; omega⟩ ((H1.out.keep (hP.bl.mono hB)).mono (Nat.le_trans hB hP.bl.size)) hkt
      rw [HCK.out] at cC
      have q0 := hP.p0
      have q1 := hP.p1
      have q2 := hP.p2
      have q3 := hP.p3
      have q4 := hP.p4
      have HB := hideK hP.bl
      simp only [tyVal, nTy, List.length_replicate] at cC
      clear hP hkt
      go_wp2_with fail
      refine cC.mono ?_
      rintro e w2 ⟨rfl, hb2⟩
      have HB2 := hideK (HB.out.trans (hb2.mono HB.out.size))
      clear cC hb2 q0 q1 q2 q3 q4
      go_wp2_with fail
      go_ret
      exact ⟨rfl, HB2.out⟩
end Go.Proofs.YtnlpnbelkkgghaaDoor
/-
  The contracts of graph.Check and graph.Least, for graphs that Check lets by.
-/
namespace Go.Proofs.YtnlpnbelkkgghaaDoor
open Go.RowKit Go.Shelf

set_option maxRecDepth 100000 in
set_option maxHeartbeats 4000000 in
theorem checkG_any (g : List Nd) (ag : Option Addr) (cg B : Nat) (w : World) (hg : GN g) (hga : GAt w B g ag) (hB : B ≤ w.heap.size) :
    Calls Tryd.prog 36 #[.slice ag g.length cg] w fun e w' => e = .returned (.int .i64 0) ∧ Below w.heap.size w w' := by
  have hl := hg.le
  have hp := hg.pos
  have hz0 : ((g.length : Int) == 0) = false := by rw [beq_eq_false_iff_ne]; omega
  have hz1 : ¬ ((g.length : Int) > 200) := by omega
  have hz2 : (g.length : Int) ≤ 200 := by omega
  obtain ⟨gb, go, rfl, hgB, hgc⟩ := hga.resolve_left (fun q => by rw [q] at hp; simp at hp)
  have HGC := hideK hgc
  have HG := hideK hg
  clear hga hgc hg
  go_enter Tryd.func36, Tryd.ntmps36
  go_wp2_with fail
  go_loopw [15] (fun i wr => ∃ k : Nat, k ≤ g.length ∧ i = .int .i64 (k : Int) ∧ Below w.heap.size w wr) (fun i _ => g.length - (intOf i).toNat)
  case atStart => exact ⟨0, Nat.zero_le _, rfl, Below.refl _ _⟩
  case round =>
    obtain ⟨k, hk, rfl, hb⟩ := hrel
    by_cases hlt : k < g.length
    · have hltz : (k : Int) < (g.length : Int) := by omega
      obtain ⟨a1, c1, a2, c2, hN, hL, hT⟩ := HGC.out k hlt
      have hbB := hb.mono hB
      obtain ⟨m0, m1, m2, m3⟩ := hN.keep hbB hgB
      have hA := hb.alloc hb.size (.cells #[.int .i64 g[k].kind, .int .i64 g[k].so, .slice a1 g[k].labs.length c1, .slice a2 g[k].to.length c2] 41)
      have c := isNode_any g[k] g.length a1 a2 c1 c2 B (wr.alloc (.cells #[.int .i64 g[k].kind, .int .i64 g[k].so, .slice a1 g[k].labs.length c1, .slice a2 g[k].to.length c2] 41)) (hL.keep (hA.mono hB)) (hT.keep (hA.mono hB)) (Nat.le_trans hB hA.size) (HG.out.ok _ (List.getElem_mem hlt)) (fun t ht => HG.out.shut _ (List.getElem_mem hlt) t ht)
      simp only [ndVal] at c
      have HA := hideK hA
      clear hN hL hT hbB hb hA
      generalize g[k] = n at *
      go_wp2_with fail
      refine c.mono ?_
      rintro e w1 ⟨rfl, hb1⟩
      have HB1 := hideK (HA.out.trans (hb1.mono HA.out.size))
      clear c hb1 m0 m1 m2 m3
      go_wp2_with fail
      go_roundw
      case rel => exact ⟨k + 1, by omega, by go_num, HB1.out⟩
      case measure => simp [intOf]; omega
    · have hltz : ¬ (k : Int) < (g.length : Int) := by omega
      go_wp2_with fail
      go_ret
      exact ⟨rfl, hb⟩
set_option maxRecDepth 100000 in
set_option maxHeartbeats 2000000 in
theorem leastG_any (g : List Nd) (ag : Option Addr) (cg B : Nat) (w : World) (hg : GN g) (hga : GAt w B g ag) (hB : B ≤ w.heap.size) :
    Calls Tryd.prog 14 #[.slice ag g.length cg] w fun e w' => (∃ c, CLS g c ∧ ∃ ao co, e = .returned (.tuple #[.slice ao (leastG g c).length co, .int .i64 0]) ∧ GAt w' w'.heap.size (leastG g c) ao) ∧ Below w.heap.size w w' := by
  have c1 := checkG_any g ag cg B w hg hga hB
  have CL := hideK (fun (W : World) (hb : Below w.heap.size w W) => least_loop g ag cg B W hg.gr (hga.keep (hb.mono hB)) (Nat.le_trans hB hb.size))
  clear hga hg
  go_enter Tryd.func14, Tryd.ntmps14
  go_wp2_with fail
  refine c1.mono ?_
  rintro e w1 ⟨rfl, hb1⟩
  have cL := CL.out w1 hb1
  have HB := hideK hb1
  clear c1 CL hb1
  go_wp2_with fail
  refine cL.mono ?_
  rintro e w2 ⟨⟨c, hc, ao, co, rfl, hg2⟩, hb2⟩
  have HC := hideK hc
  have HG2 := hideK hg2
  have HB2 := hideK (HB.out.trans (hb2.mono HB.out.size))
  clear cL hc hg2 hb2
  go_wp2_with fail
  go_ret2
  exact ⟨⟨c, HC.out, _, _, rfl, HG2.out⟩, HB2.out⟩
end Go.Proofs.YtnlpnbelkkgghaaDoor

/-
  Plain mathematics: a search that comes to each place once, on the first of the shortest ways; what it tells.
-/
namespace Go.Proofs.YtnlpnbelkkgghaaDoor

section
variable {α : Type}
abbrev Sg (α : Type) := ByteArray × α
abbrev Ag (α : Type) := Sg α × Nat
def plG (arr : List (Ag α)) : List α := arr.map fun v => v.1.2
def addG [DecidableEq α] (arr : List (Ag α)) (s : Sg α) (k : Nat) : List (Ag α) := if s.2 ∈ plG arr then arr else arr ++ [(s, k)]
def onG [DecidableEq α] (next : α → List (Sg α)) (k : Nat) (arr : List (Ag α)) (p : α) : List (Ag α) := (next p).foldl (fun a s => addG a s k) arr
def srG [DecidableEq α] (fail : α → Bool) (next : α → List (Sg α)) : Nat → Nat → List (Ag α) → Option Nat × List (Ag α)
  | 0, _, arr => (none, arr)
  | f + 1, k, arr => match arr[k]? with
    | none => (none, arr)
    | some v => if fail v.1.2 = true then (some k, arr) else srG fail next f (k + 1) (onG next k arr v.1.2)
def avG (p : α) : Ag α := ((⟨#[]⟩, p), 0)
theorem srG_stop [DecidableEq α] {fail : α → Bool} {next : α → List (Sg α)} {f k : Nat} {arr : List (Ag α)} (h : arr.length ≤ k) : srG fail next f k arr = (none, arr) := by
  cases f with
  | zero => rfl
  | succ f => unfold srG; rw [List.getElem?_eq_none h]
theorem srG_fail [DecidableEq α] {fail : α → Bool} {next : α → List (Sg α)} {f k : Nat} {arr : List (Ag α)} {v : Ag α} (hv : arr[k]? = some v) (hf : fail v.1.2 = true) : srG fail next (f + 1) k arr = (some k, arr) := by
  unfold srG; rw [hv]; simp only; rw [if_pos hf]
theorem srG_go [DecidableEq α] {fail : α → Bool} {next : α → List (Sg α)} {f k : Nat} {arr : List (Ag α)} {v : Ag α} (hv : arr[k]? = some v) (hf : fail v.1.2 = false) : srG fail next (f + 1) k arr = srG fail next f (k + 1) (onG next k arr v.1.2) := by
  conv => lhs; unfold srG
  rw [hv]; simp only; rw [if_neg (by rw [hf]; decide)]
/-- p is come to from p0 by n steps, none of which starts where it fails -/
def rch (fail : α → Bool) (next : α → List (Sg α)) (p0 : α) : Nat → α → Prop
  | 0, p => p = p0
  | n + 1, p => ∃ q, rch fail next p0 n q ∧ fail q = false ∧ ∃ s ∈ next q, s.2 = p
/-- what is known of the search's places -/
structure WLD (fail : α → Bool) (next : α → List (Sg α)) (ok : α → Prop) (num : α → Nat) (M : Nat) : Prop where
  step : ∀ p, ok p → fail p = false → ∀ s ∈ next p, ok s.2
  lt : ∀ p, ok p → num p < M
  inj : ∀ p q, ok p → ok q → num p = num q → p = q
/-- what is known while it is searched -/
structure SRg (fail : α → Bool) (next : α → List (Sg α)) (ok : α → Prop) (p0 : α) (k : Nat) (arr : List (Ag α)) : Prop where
  hd : arr[0]? = some (avG p0)
  nd : (plG arr).Nodup
  lt : ∀ p ∈ plG arr, ok p
  done : ∀ (i : Nat) (v : Ag α), i < k → arr[i]? = some v → fail v.1.2 = false ∧ ∀ s ∈ next v.1.2, s.2 ∈ plG arr
  src : ∀ p ∈ plG arr, ∃ n, rch fail next p0 n p
  way : ∀ (i : Nat) (v : Ag α), arr[i]? = some v → 0 < i → v.2 < i
  few : ∀ (i : Nat) (v : Ag α), arr[i]? = some v → v.2 ≤ k
variable {fail : α → Bool} {next : α → List (Sg α)} {ok : α → Prop} {num : α → Nat} {M : Nat}
theorem SRg.start {p0 : α} (h : ok p0) : SRg fail next ok p0 0 [avG p0] :=
  ⟨rfl, by simp [plG], fun p hp => by
    have : p = p0 := by simpa [plG, avG] using hp
    subst this; exact h, fun i v hi => absurd hi (Nat.not_lt_zero _), fun p hp => by
    have : p = p0 := by simpa [plG, avG] using hp
    subst this; exact ⟨0, rfl⟩, fun i v hv hi => by
    cases i with
    | zero => omega
    | succ i => simp at hv, fun i v hv => by
    cases i with
    | zero => simp at hv; subst hv; exact Nat.le_refl _
    | succ i => simp at hv⟩
theorem SRg.len (hW : WLD fail next ok num M) {p0 : α} {k : Nat} {arr : List (Ag α)} (hs : SRg fail next ok p0 k arr) : arr.length ≤ M := by
  have hn : ((plG arr).map num).Nodup := by
    have : ∀ l : List α, (∀ p ∈ l, ok p) → l.Nodup → (l.map num).Nodup := by
      intro l
      induction l with
      | nil => intro _ _; exact List.nodup_nil
      | cons p l ih =>
        intro hl hn
        rw [List.nodup_cons] at hn
        rw [List.map_cons, List.nodup_cons]
        refine ⟨fun hm => ?_, ih (fun q hq => hl q (.tail _ hq)) hn.2⟩
        obtain ⟨q, hq, e⟩ := List.mem_map.1 hm
        rw [hW.inj q p (hl q (.tail _ hq)) (hl p (.head _)) e] at hq
        exact hn.1 hq
    exact this _ hs.lt hs.nd
  have := nodup_le M _ hn (fun x hx => by
    obtain ⟨p, hp, rfl⟩ := List.mem_map.1 hx
    exact hW.lt p (hs.lt p hp))
  simpa [plG] using this
theorem addG_mem [DecidableEq α] (arr : List (Ag α)) (s : Sg α) (k : Nat) (p : α) : p ∈ plG (addG arr s k) ↔ p ∈ plG arr ∨ p = s.2 := by
  unfold addG
  split
  · rename_i hm
    constructor
    · exact .inl
    · rintro (h | rfl)
      · exact h
      · exact hm
  · simp [plG]
theorem addG_at [DecidableEq α] {arr : List (Ag α)} {s : Sg α} {k i : Nat} {v : Ag α} (h : (addG arr s k)[i]? = some v) : arr[i]? = some v ∨ (i = arr.length ∧ v = (s, k)) := by
  unfold addG at h
  split at h
  · exact .inl h
  · rw [List.getElem?_append] at h
    split at h
    · exact .inl h
    · rename_i hi
      have hil : i - arr.length = 0 := by
        have := (List.getElem?_eq_some_iff.1 h).1
        simp at this
        omega
      rw [hil] at h
      simp at h
      exact .inr ⟨by omega, h.symm⟩
theorem addG_old [DecidableEq α] {arr : List (Ag α)} {s : Sg α} {k i : Nat} {v : Ag α} (h : arr[i]? = some v) : (addG arr s k)[i]? = some v := by
  unfold addG
  split
  · exact h
  · rw [List.getElem?_append_left (List.getElem?_eq_some_iff.1 h).1]; exact h
/-- one place more -/
theorem SRg.add [DecidableEq α] (hW : WLD fail next ok num M) {p0 : α} {k : Nat} {arr : List (Ag α)} (hs : SRg fail next ok p0 k arr) {s : Sg α} {u : Ag α} (hk : arr[k]? = some u) (hf : fail u.1.2 = false) (hm : s ∈ next u.1.2) : SRg fail next ok p0 k (addG arr s k) := by
  have hmu : u.1.2 ∈ plG arr := List.mem_map.2 ⟨u, List.mem_of_getElem? hk, rfl⟩
  refine ⟨addG_old hs.hd, ?_, fun p hp => ?_, fun i v hi hv => ?_, fun p hp => ?_, fun i v hv h0 => ?_, fun i v hv => ?_⟩
  · unfold addG
    split
    · exact hs.nd
    · rename_i hn
      have e : plG (arr ++ [(s, k)]) = plG arr ++ [s.2] := by simp [plG]
      rw [e, List.nodup_append]
      refine ⟨hs.nd, by simp, fun a ha b hb => ?_⟩
      rw [List.mem_singleton] at hb
      subst hb
      rintro rfl
      exact hn ha
  · rcases (addG_mem arr s k p).1 hp with h1 | rfl
    · exact hs.lt p h1
    · exact hW.step _ (hs.lt _ hmu) hf s hm
  · rcases addG_at hv with h1 | ⟨rfl, _⟩
    · have := hs.done i v hi h1
      exact ⟨this.1, fun q hq => (addG_mem arr s k _).2 (.inl (this.2 q hq))⟩
    · have := (List.getElem?_eq_some_iff.1 hk).1
      omega
  · rcases (addG_mem arr s k p).1 hp with h1 | rfl
    · exact hs.src p h1
    · obtain ⟨n, hn⟩ := hs.src u.1.2 hmu
      exact ⟨n + 1, u.1.2, hn, hf, s, hm, rfl⟩
  · rcases addG_at hv with h1 | ⟨rfl, rfl⟩
    · exact hs.way i v h1 h0
    · exact (List.getElem?_eq_some_iff.1 hk).1
  · rcases addG_at hv with h1 | ⟨rfl, rfl⟩
    · exact hs.few i v h1
    · exact Nat.le_refl _
theorem foldG [DecidableEq α] {k : Nat} : ∀ (ss : List (Sg α)) (arr : List (Ag α)), (∀ (i : Nat) (v : Ag α), arr[i]? = some v → (ss.foldl (fun arr s => addG arr s k) arr)[i]? = some v) ∧ (∀ s ∈ ss, s.2 ∈ plG (ss.foldl (fun arr s => addG arr s k) arr)) ∧ ∀ p ∈ plG arr, p ∈ plG (ss.foldl (fun arr s => addG arr s k) arr)
  | [], arr => ⟨fun _ _ h => h, fun s hs => (by cases hs), fun _ h => h⟩
  | s :: ss, arr => by
    obtain ⟨h1, h2, h3⟩ := foldG (k := k) ss (addG arr s k)
    refine ⟨fun i v hv => h1 i v (addG_old hv), fun q hq => ?_, fun p hp => h3 p ((addG_mem arr s k p).2 (.inl hp))⟩
    rcases List.mem_cons.1 hq with rfl | hq
    · exact h3 _ ((addG_mem arr q k _).2 (.inr rfl))
    · exact h2 q hq
theorem SRg.fold [DecidableEq α] (hW : WLD fail next ok num M) {p0 : α} {k : Nat} {u : Ag α} (hf : fail u.1.2 = false) : ∀ (ss : List (Sg α)) (arr : List (Ag α)), SRg fail next ok p0 k arr → arr[k]? = some u → (∀ s ∈ ss, s ∈ next u.1.2) → SRg fail next ok p0 k (ss.foldl (fun arr s => addG arr s k) arr)
  | [], _, hs, _, _ => hs
  | s :: ss, arr, hs, hk, hm => SRg.fold hW hf ss (addG arr s k) (hs.add hW hk hf (hm s (.head _))) (addG_old hk) (fun q hq => hm q (.tail _ hq))
theorem SRg.on [DecidableEq α] (hW : WLD fail next ok num M) {p0 : α} {k : Nat} {arr : List (Ag α)} (hs : SRg fail next ok p0 k arr) {u : Ag α} (hk : arr[k]? = some u) (hf : fail u.1.2 = false) : SRg fail next ok p0 (k + 1) (onG next k arr u.1.2) := by
  have h1 := SRg.fold hW hf (next u.1.2) arr hs hk (fun s h => h)
  obtain ⟨f1, f2, f3⟩ := foldG (k := k) (next u.1.2) arr
  refine ⟨h1.hd, h1.nd, h1.lt, fun i v hi hv => ?_, h1.src, h1.way, fun i v hv => Nat.le_succ_of_le (h1.few i v hv)⟩
  by_cases e : i = k
  · subst e
    have : v = u := by
      have := f1 i u hk
      unfold onG at hv
      rw [this] at hv
      exact (Option.some.inj hv).symm
    subst this
    exact ⟨hf, f2⟩
  · exact h1.done i v (by omega) hv
theorem SRg.shut {p0 : α} {k : Nat} {arr : List (Ag α)} (hs : SRg fail next ok p0 k arr) (hk : arr.length ≤ k) : p0 ∈ plG arr ∧ ∀ p ∈ plG arr, fail p = false ∧ ∀ s ∈ next p, s.2 ∈ plG arr := by
  refine ⟨List.mem_map.2 ⟨avG p0, List.mem_of_getElem? hs.hd, rfl⟩, fun p hp => ?_⟩
  obtain ⟨v, hv, rfl⟩ := List.mem_map.1 hp
  obtain ⟨i, hi, e⟩ := List.mem_iff_getElem.1 hv
  exact hs.done i v (by omega) (by rw [List.getElem?_eq_getElem hi, e])
/-- what the search tells -/
theorem srG_tells [DecidableEq α] (hW : WLD fail next ok num M) {p0 : α} : ∀ (f k : Nat) (arr : List (Ag α)), SRg fail next ok p0 k arr → k ≤ arr.length → M ≤ f + k →
    (∀ j A, srG fail next f k arr = (some j, A) → j < A.length ∧ A.length ≤ M ∧ SRg fail next ok p0 j A ∧ ∃ v, A[j]? = some v ∧ fail v.1.2 = true) ∧ (∀ A, srG fail next f k arr = (none, A) → SRg fail next ok p0 A.length A)
  | 0, k, arr, hs, hk, hf => by
    unfold srG
    refine ⟨fun j A e => (by simp at e), fun A e => ?_⟩
    have hl := hs.len hW
    obtain rfl : arr = A := (Prod.mk.inj e).2
    have : k = arr.length := by omega
    subst this
    exact hs
  | f + 1, k, arr, hs, hk, hf => by
    by_cases hlt : k < arr.length
    · have hv : arr[k]? = some arr[k] := List.getElem?_eq_getElem hlt
      cases hfl : fail arr[k].1.2 with
      | true =>
        rw [srG_fail hv hfl]
        refine ⟨fun j A e => ?_, fun A e => (by simp at e)⟩
        simp only [Prod.mk.injEq, Option.some.injEq] at e
        obtain ⟨rfl, rfl⟩ := e
        exact ⟨hlt, hs.len hW, hs, _, hv, hfl⟩
      | false =>
        rw [srG_go hv hfl]
        refine srG_tells hW f (k + 1) _ (hs.on hW hv hfl) ?_ (by omega)
        have := (foldG (k := k) (next arr[k].1.2) arr).1 k arr[k] hv
        exact (List.getElem?_eq_some_iff.1 this).1
    · rw [srG_stop (by omega)]
      refine ⟨fun j A e => (by simp at e), fun A e => ?_⟩
      obtain rfl : arr = A := (Prod.mk.inj e).2
      have : k = arr.length := by omega
      subst this
      exact hs
/-- the whole search -/
def srGA [DecidableEq α] (fail : α → Bool) (next : α → List (Sg α)) (M : Nat) (p0 : α) : Option Nat × List (Ag α) := srG fail next M 0 [avG p0]
theorem srGA_none [DecidableEq α] (hW : WLD fail next ok num M) {p0 : α} (h0 : ok p0) {A : List (Ag α)} (h : srGA fail next M p0 = (none, A)) : SRg fail next ok p0 A.length A :=
  (srG_tells hW M 0 [avG p0] (SRg.start h0) (Nat.zero_le _) (by omega)).2 A h
theorem srGA_some [DecidableEq α] (hW : WLD fail next ok num M) {p0 : α} (h0 : ok p0) {A : List (Ag α)} {j : Nat} (h : srGA fail next M p0 = (some j, A)) : j < A.length ∧ A.length ≤ M ∧ SRg fail next ok p0 j A ∧ ∃ v, A[j]? = some v ∧ fail v.1.2 = true :=
  (srG_tells hW M 0 [avG p0] (SRg.start h0) (Nat.zero_le _) (by omega)).1 j A h
/-- what holds of all that is come to, if nothing fails; and is refuted by what fails -/
theorem srGA_iff [DecidableEq α] (hW : WLD fail next ok num M) {p0 : α} (h0 : ok p0) (B : Nat → α → Prop) (b0 : ∀ p, B 0 p) (bs : ∀ n p, ok p → fail p = false → (∀ s ∈ next p, B n s.2) → B (n + 1) p) (bn : ∀ n p, B (n + 1) p → fail p = false ∧ ∀ s ∈ next p, B n s.2) :
    (srGA fail next M p0).1 = none ↔ ∀ n, B n p0 := by
  cases e : srGA fail next M p0 with
  | mk o A =>
    cases o with
    | none =>
      refine ⟨fun _ => ?_, fun _ => rfl⟩
      have hs := srGA_none hW h0 e
      obtain ⟨h1, h2⟩ := hs.shut (Nat.le_refl _)
      have : ∀ n, ∀ p ∈ plG A, B n p := by
        intro n
        induction n with
        | zero => intro p _; exact b0 p
        | succ n ih => intro p hp; exact bs n p (hs.lt p hp) (h2 p hp).1 fun s hq => ih _ ((h2 p hp).2 s hq)
      exact fun n => this n p0 h1
    | some j =>
      refine ⟨fun h => (by cases h), fun hb => ?_⟩
      obtain ⟨_, _, hs, v, hv, hf⟩ := srGA_some hW h0 e
      obtain ⟨n, hn⟩ := hs.src v.1.2 (List.mem_map.2 ⟨v, List.mem_of_getElem? hv, rfl⟩)
      have : ∀ n p, rch fail next p0 n p → ∀ N, B N p := by
        intro n
        induction n with
        | zero => intro p hp N; rw [show p = p0 from hp]; exact hb N
        | succ n ih =>
          rintro p ⟨q, hq, _, s, hsm, rfl⟩ N
          exact (bn N q (ih q hq (N + 1))).2 s hsm
      have := (bn 0 _ (this n _ hn 1)).1
      rw [this] at hf; cases hf
/-- nothing fails that is come to by so many steps -/
def allG (fail : α → Bool) (next : α → List (Sg α)) : Nat → α → Prop
  | 0, _ => True
  | n + 1, p => fail p = false ∧ ∀ s ∈ next p, allG fail next n s.2
theorem srGA_all [DecidableEq α] (hW : WLD fail next ok num M) {p0 : α} (h0 : ok p0) : (srGA fail next M p0).1 = none ↔ ∀ n, allG fail next n p0 :=
  srGA_iff hW h0 (allG fail next) (fun _ => trivial) (fun _ _ _ hf hs => ⟨hf, hs⟩) (fun _ _ h => h)
/-- the way to an arrival, backwards -/
def wayG (arr : List (Ag α)) : Nat → Nat → List ByteArray
  | 0, _ => []
  | f + 1, k => if k = 0 then [] else match arr[k]? with
    | none => []
    | some v => v.1.1 :: wayG arr f v.2
theorem wayG_step {arr : List (Ag α)} {f k : Nat} {v : Ag α} (h0 : k ≠ 0) (hv : arr[k]? = some v) : wayG arr (f + 1) k = v.1.1 :: wayG arr f v.2 := by
  conv => lhs; unfold wayG
  rw [if_neg h0, hv]
theorem wayG_len (arr : List (Ag α)) (hw : ∀ (i : Nat) (v : Ag α), arr[i]? = some v → 0 < i → v.2 < i) : ∀ f k, k < arr.length → (wayG arr f k).length ≤ k
  | 0, k, _ => by simp [wayG]
  | f + 1, k, hk => by
    by_cases h0 : k = 0
    · subst h0; simp [wayG]
    · have hv : arr[k]? = some arr[k] := List.getElem?_eq_getElem hk
      have h1 := hw k arr[k] hv (by omega)
      rw [wayG_step h0 hv]
      have := wayG_len arr hw f arr[k].2 (by omega)
      simp only [List.length_cons]
      omega
theorem wayG_fuel {arr : List (Ag α)} (hw : ∀ (i : Nat) (v : Ag α), arr[i]? = some v → 0 < i → v.2 < i) : ∀ f k, k < arr.length → k ≤ f → wayG arr f k = wayG arr k k
  | 0, k, _, hf => by
    obtain rfl : k = 0 := by omega
    rfl
  | f + 1, 0, _, _ => by simp [wayG]
  | f + 1, k + 1, hk, hf => by
    have hv : arr[k + 1]? = some arr[k + 1] := List.getElem?_eq_getElem hk
    have h1 := hw (k + 1) arr[k + 1] hv (by omega)
    rw [wayG_step (by omega) hv, wayG_step (by omega) hv]
    have e1 := wayG_fuel hw f arr[k + 1].2 (by omega) (by omega)
    have e2 := wayG_fuel hw k arr[k + 1].2 (by omega) (by omega)
    rw [e1, e2]
def wayGA (arr : List (Ag α)) (k : Nat) : List ByteArray := wayG arr k k
theorem wayGA_step {arr : List (Ag α)} (hw : ∀ (i : Nat) (v : Ag α), arr[i]? = some v → 0 < i → v.2 < i) {k : Nat} {v : Ag α} (h0 : 0 < k) (hv : arr[k]? = some v) : wayGA arr k = v.1.1 :: wayGA arr v.2 := by
  have hk := (List.getElem?_eq_some_iff.1 hv).1
  have h1 := hw k v hv h0
  obtain ⟨k, rfl⟩ : ∃ j, k = j + 1 := ⟨k - 1, by omega⟩
  unfold wayGA
  rw [wayG_step (by omega) hv, wayG_fuel hw k v.2 (by omega) (by omega)]
end
end Go.Proofs.YtnlpnbelkkgghaaDoor
