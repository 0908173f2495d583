/-
  The contracts of graph.isNode, graph.Check and graph.Least, for graphs that Check lets by.
-/
import Derived.Test.YthhbbhijpkoelaaDoorIg
namespace Go.Proofs.YthhbbhijpkoelaaDoor
open Go.RowKit Go.Shelf

theorem toAt_cellA {W : World} {B : Nat} {n : Nd} {at1 : Option Addr} (h : NI W B n.to at1) {i : Nat} (hi : i < n.to.length) : ∃ b o, at1 = some ⟨b, o, none⟩ ∧ b < B ∧ W.cell? ⟨b, o + i, none⟩ = some (.int .i64 (toAt n i : Int)) := by
  obtain ⟨b, o, rfl, hb, hc⟩ := h.resolve_left (fun q => by have := congrArg List.length q; simp at this; rw [this] at hi; simp at hi)
  refine ⟨b, o, rfl, hb, ?_⟩
  rw [hc i (by simpa using hi), List.getElem_map]
  unfold toAt
  rw [List.getElem?_eq_getElem hi]; rfl
theorem infoTyp : (Tryd.prog.info? 25).map (fun i => (i.zero, i.size, i.bytes)) = some (some (.agg #[.int .i64 0, .int .i64 0, .string ⟨#[]⟩, .slice none 0 0, .slice none 0 0]), 5, 80) := by kernel_rfl
def eC : List Value := [.int .i64 1, .int .i64 0, .string ⟨#[]⟩, .slice none 0 0, .slice none 0 0]
def eCs1 : Nat → List Value
  | 0 => []
  | k + 1 => eCs1 k ++ eC
theorem eCs1_len : ∀ k, (eCs1 k).length = k * 5
  | 0 => rfl
  | k + 1 => by rw [eCs1, List.length_append, eCs1_len k]; show k * 5 + 5 = _; omega
theorem eCs1_at : ∀ (k i : Nat), i < k → ∀ j, j < 5 → (eCs1 k)[i * 5 + j]? = eC[j]?
  | 0, _, h, _, _ => by omega
  | k + 1, i, h, j, hj => by
    rw [eCs1]
    by_cases hi : i < k
    · rw [List.getElem?_append_left (by rw [eCs1_len]; omega)]
      exact eCs1_at k i hi j hj
    · obtain rfl : i = k := by omega
      rw [List.getElem?_append_right (by rw [eCs1_len]; omega), eCs1_len, Nat.add_sub_cancel_left]
/-- the part that a node were, with so many Ends -/
def nTy (n : Nd) (k : Nat) : Ty := ⟨n.kind, n.so, ⟨#[]⟩, n.labs, List.replicate k endT⟩
theorem map_rep (l : List Nat) : (l.map fun _ => endT) = List.replicate l.length endT := by
  induction l with
  | nil => rfl
  | cons a l ih => rw [List.map_cons, ih]; rfl
theorem ends_chk (ar : List ByteArray) : ∀ (k c : Nat), k + c ≤ 60 → (chkTL ar (List.replicate k endT) (0, c)).1 = 0
  | 0, _, _ => rfl
  | k + 1, c, h => by
    have hp : partT endT = true := by unfold partT endT; simp
    have e : chkT endT ar c = (0, c + 1) := by
      rw [chkT_eq, if_neg (by omega), hp, if_neg (by decide), if_neg (by rintro ⟨h, _⟩; exact absurd h (by decide)), if_neg (by rintro ⟨h, _⟩; exact absurd h (by decide))]
      rfl
    rw [List.replicate_succ, chkTL_cons, if_neg (by simp), e]
    exact ends_chk ar k (c + 1) (by omega)
theorem node_chk {n : Nd} (h : okN n) : chkTy (nTy n n.to.length) = 0 := by
  have h6 := (shp_len (okN_shp h)).2.1
  have hc := okN_cases h
  unfold okN at h
  rw [map_rep] at h
  unfold chkTy
  rw [chkT_eq, if_neg (by decide)]
  have hp : partT (nTy n n.to.length) = true := h
  have hk : (nTy n n.to.length).kind = n.kind := rfl
  rw [hp, if_neg (by decide), hk, if_neg (by omega), if_neg (by omega), if_neg (by omega)]
  exact ends_chk _ n.to.length (0 + 1) (by omega)
/-- while a node's part is made -/
structure PN (w : World) (n : Nd) (a1 : Option Addr) (c1 k : Nat) (u : Value) (W : World) : Prop where
  p0 : W.cell? ⟨w.heap.size + 1, 0, none⟩ = some (.int .i64 n.kind)
  p1 : W.cell? ⟨w.heap.size + 1, 1, none⟩ = some (.int .i64 n.so)
  p2 : W.cell? ⟨w.heap.size + 1, 2, none⟩ = some (.string ⟨#[]⟩)
  p3 : W.cell? ⟨w.heap.size + 1, 3, none⟩ = some (.slice a1 n.labs.length c1)
  p4 : W.cell? ⟨w.heap.size + 1, 4, none⟩ = some u
  pf : W.frozen? ⟨w.heap.size + 1, 4, none⟩ = false
  own : W.ownsRow (w.heap.size + 1 + 1) 25 5 u k (eCs1 k)
  sz : w.heap.size + 1 + 1 ≤ W.heap.size
  bl : Below w.heap.size w W
theorem PN.app {w W w7 : World} {n : Nd} {a1 : Option Addr} {c1 k : Nat} {u v7 : Value} {ob : Obj} (h : PN w n a1 c1 k u W) (hg : (W.alloc ob).grownBy w7 u.ownBlock) (hO : w7.ownsRow (w.heap.size + 1 + 1) 25 5 v7 (k + 1) (eCs1 k ++ eC)) : PN w n a1 c1 (k + 1) v7 (w7.setCell ⟨w.heap.size + 1, 4, none⟩ v7) := by
  have q := h.sz
  have hlow : ∀ b, b < w.heap.size + 1 + 1 → some b ≠ u.ownBlock := fun b hb e => by have := (h.own.lt b e.symm).1; omega
  have hs7 : W.heap.size + 1 ≤ w7.heap.size := by have := hg.size; simp at this; omega
  have hblk : ∀ b, b < w.heap.size + 1 + 1 → w7.heap[b]? = W.heap[b]? := fun b hb => (hg.block b (by simp; omega) (hlow b hb)).trans (heap_alloc_old W ob (by omega))
  have hc : ∀ o, w7.cell? ⟨w.heap.size + 1, o, none⟩ = W.cell? ⟨w.heap.size + 1, o, none⟩ := fun o => World.cell?_of_block (a := ⟨w.heap.size + 1, o, none⟩) (hblk (w.heap.size + 1) (by omega))
  have hf : ∀ o, w7.frozen? ⟨w.heap.size + 1, o, none⟩ = W.frozen? ⟨w.heap.size + 1, o, none⟩ := fun o => World.frozen?_of_block (a := ⟨w.heap.size + 1, o, none⟩) (hblk (w.heap.size + 1) (by omega))
  have ho : ∀ o, o ≠ 4 → (w7.setCell ⟨w.heap.size + 1, 4, none⟩ v7).cell? ⟨w.heap.size + 1, o, none⟩ = W.cell? ⟨w.heap.size + 1, o, none⟩ := fun o hn => (World.cell?_setCell_other _ _ _ _ (by intro e; injection e with _ e; exact hn e.symm)).trans (hc o)
  refine ⟨(ho 0 (by omega)).trans h.p0, (ho 1 (by omega)).trans h.p1, (ho 2 (by omega)).trans h.p2, (ho 3 (by omega)).trans h.p3, World.cell?_setCell_same _ _ _ ((hc 4).trans h.p4), (World.frozen?_setCell _ _ _ _).trans ((hf 4).trans h.pf), own_setB hO (by omega) v7, by simp; omega, ?_⟩
  refine ⟨hg.os.trans h.bl.os, hg.tape.trans h.bl.tape, hg.output.trans h.bl.output, by simp; omega, fun b hb => ?_⟩
  rw [Below.heap_setCell _ _ _ b (fun e => by have e : b = w.heap.size + 1 := e; omega), hblk b (by omega)]
  exact h.bl.block b hb
theorem PN.kt {w W : World} {n : Nd} {a1 : Option Addr} {c1 k : Nat} {u : Value} (h : PN w n a1 c1 k u W) : ∃ ak ck, u = .slice ak k ck ∧ KT W W.heap.size 1 (List.replicate k endT) ak := by
  rcases own_cells h.own with ⟨rfl, h0, _⟩ | ⟨g, cap, rfl, _, hg, hc⟩
  · subst h0; exact ⟨none, 0, rfl, .inl rfl⟩
  · refine ⟨_, _, rfl, .inr ⟨g, 0, rfl, hg, fun i hi => ?_⟩⟩
    have hi' : i < k := by simpa using hi
    have e : (List.replicate k endT)[i] = endT := by simp
    rw [e, Nat.zero_add]
    exact ⟨none, 0, none, 0, ⟨hc (i * 5 + 0) _ ((eCs1_at k i hi' 0 (by omega)).trans rfl), hc _ _ ((eCs1_at k i hi' 1 (by omega)).trans rfl), hc _ _ ((eCs1_at k i hi' 2 (by omega)).trans rfl), hc _ _ ((eCs1_at k i hi' 3 (by omega)).trans rfl), hc _ _ ((eCs1_at k i hi' 4 (by omega)).trans rfl)⟩, ⟨by decide, fun l hl => (by cases hl), by decide, by decide, by decide, by decide⟩, .inl rfl, rfl⟩
set_option maxRecDepth 100000 in
set_option maxHeartbeats 4000000 in
theorem isNode_any (n : Nd) (N : Nat) (a1 a2 : Option Addr) (c1 c2 B : Nat) (w : World) (h1 : LA w B n.labs a1) (h2 : NI w B n.to a2) (hB : B ≤ w.heap.size) (hn : okN n) (ht : ∀ t ∈ n.to, t < N) :
    Calls Tryd.prog 66 #[ndVal n a1 c1 a2 c2, .int .i64 (N : Int)] w fun e w' => e = .returned (.bool true) ∧ Below w.heap.size w w' := by
  obtain ⟨i1, hj, hy0, hy1, hy2⟩ := info_parts infoTyp
  have h6 := (shp_len (okN_shp hn)).2.1
  have h6l := (shp_len (okN_shp hn)).1
  have h6z : (n.to.length : Int) ≤ 6 := by omega
  have b0 : NdAt (w.alloc (.cells #[.int .i64 n.kind, .int .i64 n.so, .slice a1 n.labs.length c1, .slice a2 n.to.length c2] 60)) w.heap.size 0 n a1 c1 a2 c2 := ⟨by go_cell, by go_cell, by go_cell, by go_cell⟩
  obtain ⟨x0, x1, x2, x3⟩ := b0
  simp only [Nat.zero_add] at x1 x2 x3
  have P0 := hideK (show PN w n a1 c1 0 (.slice none 0 0) ((w.alloc (.cells #[.int .i64 n.kind, .int .i64 n.so, .slice a1 n.labs.length c1, .slice a2 n.to.length c2] 60)).alloc (.cells #[.int .i64 n.kind, .int .i64 n.so, .string ⟨#[]⟩, .slice a1 n.labs.length c1, .slice none 0 0] 25)) from
    ⟨by go_cell, by go_cell, by go_cell, by go_cell, by go_cell, by go_simp, World.ownsRow_nil _ _ _ _, by simp, ((Below.refl _ _).alloc (Nat.le_refl _) _).alloc (by simp) _⟩)
  have H2 := hideK h2
  have H1 := hideK h1
  have HT := hideK ht
  have HCK := hideK (node_chk hn)
  have HLB := hideK (show ∀ l ∈ n.labs, l.size ≤ 9223372036854775807 from fun l hl => by have := ((okN_shp hn).2.1 l hl).2; omega)
  simp only [ndVal]
  clear h1 h2 ht hn
  go_enter Tryd.func66, Tryd.ntmps66
  go_wp2_with fail
  go_loopw [22] (fun i wr => ∃ (k : Nat) (u : Value), k ≤ n.to.length ∧ i = .int .i64 (k : Int) ∧ PN w n a1 c1 k u wr) (fun i _ => n.to.length - (intOf i).toNat)
  case atStart => exact ⟨0, _, Nat.zero_le _, rfl, P0.out⟩
  case round =>
    obtain ⟨k, u, hk, rfl, hP⟩ := hrel
    clear P0 x0 x1 x2 x3
    by_cases hlt : k < n.to.length
    · have hltz : (k : Int) < (n.to.length : Int) := by omega
      obtain ⟨tb, tof, rfl, htb, d0⟩ := toAt_cellA (H2.out.keep (hP.bl.mono hB)) hlt
      have htN : toAt n k < N := by
        unfold toAt
        rw [List.getElem?_eq_getElem hlt]
        exact HT.out _ (List.getElem_mem hlt)
      generalize toAt n k = tv at *
      have ht1 : ¬ ((tv : Int) < 0) := by omega
      have ht2 : (tv : Int) < (N : Int) := by omega
      have ht3 : ¬ ((tv : Int) ≥ (N : Int)) := by omega
      have p4 := hP.p4
      have LR := hideK (World.ownsRow_lit (base := w.heap.size + 1 + 1) (e := 25) (size := 5) wr #[.int .i64 1, .int .i64 0, .string ⟨#[]⟩, .slice none 0 0, .slice none 0 0] 1 hP.sz (by decide) rfl)
      have OA := hideK (own_belowG hP.own ((Below.refl _ _).alloc (Nat.le_refl _) (.cells #[.int .i64 1, .int .i64 0, .string ⟨#[]⟩, .slice none 0 0, .slice none 0 0] 25)))
      have HP := hideK hP
      have hsz := hP.sz
      have HAPP := hideK (fun (w7 : World) (v7 : Value) (hg : (wr.alloc (.cells #[.int .i64 1, .int .i64 0, .string ⟨#[]⟩, .slice none 0 0, .slice none 0 0] 25)).grownBy w7 u.ownBlock) (hO : w7.ownsRow (w.heap.size + 1 + 1) 25 5 v7 (k + 1) (eCs1 k ++ eC)) => hP.app (v7 := v7) hg hO)
      have HLOW := hideK (show ∀ b, b < w.heap.size + 1 + 1 → some b ≠ u.ownBlock from fun b hb e => by have := (hP.own.lt b e.symm).1; omega)
      obtain ⟨ua, uc, rfl⟩ := sliceH_own hP.own
      clear hP
      go_wp2_with (at_builtin; refine wpList_append_rows _ rfl (.tmp 34) (.tmp 36) 23 rfl (w.heap.size + 1 + 1) (w.heap.size + 1 + 1) 25 i1 _ 5 80 Tryd.underlying23 hj hy0 hy1 hy2 rfl (by decide) _ _ _ rfl OA.out _ _ _ rfl LR.out (by simp [Value.oneCell']) (by unfold maxLen; omega) (by omega) (by simp; omega) ?_; intro v7 w7 hO7 hg7 hat7; have pc7 := (World.cell?_of_block (a := ⟨w.heap.size + 1, 4, none⟩) (hg7.block (w.heap.size + 1) (by simp; omega) (HLOW.out _ (by omega)))).trans ((World.cell?_of_block (a := ⟨w.heap.size + 1, 4, none⟩) (heap_alloc_old wr _ (by show w.heap.size + 1 < _; omega))).trans HP.out.p4); have pf7 := (World.frozen?_of_block (a := ⟨w.heap.size + 1, 4, none⟩) (hg7.block (w.heap.size + 1) (by simp; omega) (HLOW.out _ (by omega)))).trans ((World.frozen?_of_block (a := ⟨w.heap.size + 1, 4, none⟩) (heap_alloc_old wr _ (by show w.heap.size + 1 < _; omega))).trans HP.out.pf); have HP7 := hideK (HAPP.out w7 v7 hg7 hO7); obtain ⟨va, vc, rfl⟩ := sliceH_own hO7; clear hO7 hg7 hat7)
      go_roundw
      case rel => exact ⟨k + 1, _, by omega, by go_num, HP7.out⟩
      case measure => simp [intOf]; omega
    · have hltz : ¬ (k : Int) < (n.to.length : Int) := by omega
      have hkl : k = n.to.length := by omega
      subst hkl
      obtain ⟨ak, ck, rfl, hkt⟩ := hP.kt
      have cC := typesCheck_w 1 (nTy n n.to.length) a1 c1 ak ck wr ⟨by show (0 : Nat) ≤ _; omega, HLB.out, by show n.labs.length ≤ _; omega, by show (List.replicate n.to.length endT).length ≤ _; rw [List.length_replicate]; omega⟩ ((H1.out.keep (hP.bl.mono hB)).mono (Nat.le_trans hB hP.bl.size)) hkt
      rw [HCK.out] at cC
      have q0 := hP.p0
      have q1 := hP.p1
      have q2 := hP.p2
      have q3 := hP.p3
      have q4 := hP.p4
      have HB := hideK hP.bl
      simp only [tyVal, nTy, List.length_replicate] at cC
      clear hP hkt
      go_wp2_with fail
      refine cC.mono ?_
      rintro e w2 ⟨rfl, hb2⟩
      have HB2 := hideK (HB.out.trans (hb2.mono HB.out.size))
      clear cC hb2 q0 q1 q2 q3 q4
      go_wp2_with fail
      go_ret
      exact ⟨rfl, HB2.out⟩
end Go.Proofs.YthhbbhijpkoelaaDoor
/-
  The contracts of graph.Check and graph.Least, for graphs that Check lets by.
-/
namespace Go.Proofs.YthhbbhijpkoelaaDoor
open Go.RowKit Go.Shelf

set_option maxRecDepth 100000 in
set_option maxHeartbeats 4000000 in
theorem checkG_any (g : List Nd) (ag : Option Addr) (cg B : Nat) (w : World) (hg : GN g) (hga : GAt w B g ag) (hB : B ≤ w.heap.size) :
    Calls Tryd.prog 60 #[.slice ag g.length cg] w fun e w' => e = .returned (.int .i64 0) ∧ Below w.heap.size w w' := by
  have hl := hg.le
  have hp := hg.pos
  have hz0 : ((g.length : Int) == 0) = false := by rw [beq_eq_false_iff_ne]; omega
  have hz1 : ¬ ((g.length : Int) > 200) := by omega
  have hz2 : (g.length : Int) ≤ 200 := by omega
  obtain ⟨gb, go, rfl, hgB, hgc⟩ := hga.resolve_left (fun q => by rw [q] at hp; simp at hp)
  have HGC := hideK hgc
  have HG := hideK hg
  clear hga hgc hg
  go_enter Tryd.func60, Tryd.ntmps60
  go_wp2_with fail
  go_loopw [15] (fun i wr => ∃ k : Nat, k ≤ g.length ∧ i = .int .i64 (k : Int) ∧ Below w.heap.size w wr) (fun i _ => g.length - (intOf i).toNat)
  case atStart => exact ⟨0, Nat.zero_le _, rfl, Below.refl _ _⟩
  case round =>
    obtain ⟨k, hk, rfl, hb⟩ := hrel
    by_cases hlt : k < g.length
    · have hltz : (k : Int) < (g.length : Int) := by omega
      obtain ⟨a1, c1, a2, c2, hN, hL, hT⟩ := HGC.out k hlt
      have hbB := hb.mono hB
      obtain ⟨m0, m1, m2, m3⟩ := hN.keep hbB hgB
      have hA := hb.alloc hb.size (.cells #[.int .i64 g[k].kind, .int .i64 g[k].so, .slice a1 g[k].labs.length c1, .slice a2 g[k].to.length c2] 60)
      have c := isNode_any g[k] g.length a1 a2 c1 c2 B (wr.alloc (.cells #[.int .i64 g[k].kind, .int .i64 g[k].so, .slice a1 g[k].labs.length c1, .slice a2 g[k].to.length c2] 60)) (hL.keep (hA.mono hB)) (hT.keep (hA.mono hB)) (Nat.le_trans hB hA.size) (HG.out.ok _ (List.getElem_mem hlt)) (fun t ht => HG.out.shut _ (List.getElem_mem hlt) t ht)
      simp only [ndVal] at c
      have HA := hideK hA
      clear hN hL hT hbB hb hA
      generalize g[k] = n at *
      go_wp2_with fail
      refine c.mono ?_
      rintro e w1 ⟨rfl, hb1⟩
      have HB1 := hideK (HA.out.trans (hb1.mono HA.out.size))
      clear c hb1 m0 m1 m2 m3
      go_wp2_with fail
      go_roundw
      case rel => exact ⟨k + 1, by omega, by go_num, HB1.out⟩
      case measure => simp [intOf]; omega
    · have hltz : ¬ (k : Int) < (g.length : Int) := by omega
      go_wp2_with fail
      go_ret
      exact ⟨rfl, hb⟩
end Go.Proofs.YthhbbhijpkoelaaDoor
