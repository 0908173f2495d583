/-
  The contracts of graph.Check and graph.Least, for graphs that Check lets by.
-/
import Derived.Test.YtnedgkcejlhnbaaDoorJa
namespace Go.Proofs.YtnedgkcejlhnbaaDoor
open Go.RowKit Go.Shelf

set_option maxRecDepth 100000 in
set_option maxHeartbeats 4000000 in
theorem checkG_any (g : List Nd) (ag : Option Addr) (cg B : Nat) (w : World) (hg : GN g) (hga : GAt w B g ag) (hB : B ≤ w.heap.size) :
    Calls Tryd.prog 19 #[.slice ag g.length cg] w fun e w' => e = .returned (.int .i64 0) ∧ Below w.heap.size w w' := by
  have hl := hg.le
  have hp := hg.pos
  have hz0 : ((g.length : Int) == 0) = false := by rw [beq_eq_false_iff_ne]; omega
  have hz1 : ¬ ((g.length : Int) > 200) := by omega
  have hz2 : (g.length : Int) ≤ 200 := by omega
  obtain ⟨gb, go, rfl, hgB, hgc⟩ := hga.resolve_left (fun q => by rw [q] at hp; simp at hp)
  have HGC := hideK hgc
  have HG := hideK hg
  clear hga hgc hg
  go_enter Tryd.func19, Tryd.ntmps19
  go_wp2_with fail
  go_loopw [15] (fun i wr => ∃ k : Nat, k ≤ g.length ∧ i = .int .i64 (k : Int) ∧ Below w.heap.size w wr) (fun i _ => g.length - (intOf i).toNat)
  case atStart => exact ⟨0, Nat.zero_le _, rfl, Below.refl _ _⟩
  case round =>
    obtain ⟨k, hk, rfl, hb⟩ := hrel
    by_cases hlt : k < g.length
    · have hltz : (k : Int) < (g.length : Int) := by omega
      obtain ⟨a1, c1, a2, c2, hN, hL, hT⟩ := HGC.out k hlt
      have hbB := hb.mono hB
      obtain ⟨m0, m1, m2, m3⟩ := hN.keep hbB hgB
      have hA := hb.alloc hb.size (.cells #[.int .i64 g[k].kind, .int .i64 g[k].so, .slice a1 g[k].labs.length c1, .slice a2 g[k].to.length c2] 29)
      have c := isNode_any g[k] g.length a1 a2 c1 c2 B (wr.alloc (.cells #[.int .i64 g[k].kind, .int .i64 g[k].so, .slice a1 g[k].labs.length c1, .slice a2 g[k].to.length c2] 29)) (hL.keep (hA.mono hB)) (hT.keep (hA.mono hB)) (Nat.le_trans hB hA.size) (HG.out.ok _ (List.getElem_mem hlt)) (fun t ht => HG.out.shut _ (List.getElem_mem hlt) t ht)
      simp only [ndVal] at c
      have HA := hideK hA
      clear hN hL hT hbB hb hA
      generalize g[k] = n at *
      go_wp2_with fail
      refine c.mono ?_
      rintro e w1 ⟨rfl, hb1⟩
      have HB1 := hideK (HA.out.trans (hb1.mono HA.out.size))
      clear c hb1 m0 m1 m2 m3
      go_wp2_with fail
      go_roundw
      case rel => exact ⟨k + 1, by omega, by go_num, HB1.out⟩
      case measure => simp [intOf]; omega
    · have hltz : ¬ (k : Int) < (g.length : Int) := by omega
      go_wp2_with fail
      go_ret
      exact ⟨rfl, hb⟩
set_option maxRecDepth 100000 in
set_option maxHeartbeats 2000000 in
theorem leastK_any (g : List Nd) (ag : Option Addr) (cg B : Nat) (w : World) (hg : GN g) (hga : GAt w B g ag) (hB : B ≤ w.heap.size) :
    Calls Tryd.prog 6 #[.slice ag g.length cg] w fun e w' => (∃ c, CLS g c ∧ ∃ ao co, e = .returned (.tuple #[.slice ao (leastG g c).length co, .int .i64 0]) ∧ GAK w' w'.heap.size (leastG g c) ao) ∧ Below w.heap.size w w' := by
  have c1 := checkG_any g ag cg B w hg hga hB
  have CL := hideK (fun (W : World) (hb : Below w.heap.size w W) => least_loopK g ag cg B W hg.gr (hga.keep (hb.mono hB)) (Nat.le_trans hB hb.size))
  clear hga hg
  go_enter Tryd.func6, Tryd.ntmps6
  go_wp2_with fail
  refine c1.mono ?_
  rintro e w1 ⟨rfl, hb1⟩
  have cL := CL.out w1 hb1
  have HB := hideK hb1
  clear c1 CL hb1
  go_wp2_with fail
  refine cL.mono ?_
  rintro e w2 ⟨⟨c, hc, ao, co, rfl, hg2⟩, hb2⟩
  have HC := hideK hc
  have HG2 := hideK hg2
  have HB2 := hideK (HB.out.trans (hb2.mono HB.out.size))
  clear cL hc hg2 hb2
  go_wp2_with fail
  go_ret2
  exact ⟨⟨c, HC.out, _, _, rfl, HG2.out⟩, HB2.out⟩
theorem leastG_any (g : List Nd) (ag : Option Addr) (cg B : Nat) (w : World) (hg : GN g) (hga : GAt w B g ag) (hB : B ≤ w.heap.size) :
    Calls Tryd.prog 6 #[.slice ag g.length cg] w fun e w' => (∃ c, CLS g c ∧ ∃ ao co, e = .returned (.tuple #[.slice ao (leastG g c).length co, .int .i64 0]) ∧ GAt w' w'.heap.size (leastG g c) ao) ∧ Below w.heap.size w w' :=
  (leastK_any g ag cg B w hg hga hB).mono fun _ _ ⟨⟨c, hc, ao, co, e, h⟩, hb⟩ => ⟨⟨c, hc, ao, co, e, h.gat⟩, hb⟩
end Go.Proofs.YtnedgkcejlhnbaaDoor
/-
  The contracts of graph.isNode and graph.Check, for whatever nodes are handed in.
-/
namespace Go.Proofs.YtnedgkcejlhnbaaDoor
open Go.RowKit Go.Shelf

/-- numbers in memory, of whatever sign -/
def ZA (W : World) (B : Nat) (zs : List Int) (a : Option Addr) : Prop := zs = [] ∨ ∃ b o, a = some ⟨b, o, none⟩ ∧ b < B ∧ ∀ i (h : i < zs.length), W.cell? ⟨b, o + i, none⟩ = some (.int .i64 zs[i])
theorem ZA.keep {W W' : World} {B : Nat} {zs : List Int} {a : Option Addr} (hb : Below B W W') (h : ZA W B zs a) : ZA W' B zs a := h.imp id fun ⟨b, o, e, hl, hc⟩ => ⟨b, o, e, hl, fun i hi => (hb.cell (p := ⟨b, o + i, none⟩) hl).trans (hc i hi)⟩
def inR (zs : List Int) (N : Nat) : Bool := zs.all fun z => decide (0 ≤ z ∧ z < (N : Int))
/-- is it a node of a graph of N nodes? -/
def okR (n : Nd) (zs : List Int) (N : Nat) : Bool := decide (n.to.length ≤ 6) && inR zs N && decide (chkTy (nTy n n.to.length) = 0)
theorem okR_6 {n : Nd} {zs : List Int} {N : Nat} (h : 6 < n.to.length) : okR n zs N = false := by unfold okR; rw [decide_eq_false (by omega)]; rfl
theorem okR_z {n : Nd} {zs : List Int} {N i : Nat} (hi : i < zs.length) (h : zs[i] < 0 ∨ (N : Int) ≤ zs[i]) : okR n zs N = false := by
  unfold okR
  have : inR zs N = false := by
    unfold inR
    rw [List.all_eq_false]
    exact ⟨zs[i], List.getElem_mem hi, by rw [decide_eq_true_eq]; omega⟩
  rw [this]; simp
theorem okR_end {n : Nd} {zs : List Int} {N : Nat} (h6 : n.to.length ≤ 6) (h : ∀ i (hi : i < zs.length), 0 ≤ zs[i] ∧ zs[i] < (N : Int)) : okR n zs N = decide (chkTy (nTy n n.to.length) = 0) := by
  unfold okR
  have : inR zs N = true := by
    unfold inR
    rw [List.all_eq_true]
    intro z hz
    obtain ⟨i, hi, rfl⟩ := List.mem_iff_getElem.1 hz
    exact decide_eq_true (h i hi)
  rw [this, decide_eq_true h6]; simp
set_option maxRecDepth 100000 in
set_option maxHeartbeats 4000000 in
theorem isNodeR_any (n : Nd) (zs : List Int) (N : Nat) (a1 a2 : Option Addr) (c1 c2 B : Nat) (w : World) (h1 : LA w B n.labs a1) (h2 : ZA w B zs a2) (hzl : zs.length = n.to.length) (hB : B ≤ w.heap.size) (hlb : ∀ l ∈ n.labs, l.size ≤ 9223372036854775807) (hll : n.labs.length ≤ 9223372036854775807) :
    Calls Tryd.prog 35 #[ndVal n a1 c1 a2 c2, .int .i64 (N : Int)] w fun e w' => e = .returned (.bool (okR n zs N)) ∧ Below w.heap.size w w' := by
  obtain ⟨i1, hj, hy0, hy1, hy2⟩ := info_parts infoTyp
  have b0 : NdAt (w.alloc (.cells #[.int .i64 n.kind, .int .i64 n.so, .slice a1 n.labs.length c1, .slice a2 n.to.length c2] 29)) w.heap.size 0 n a1 c1 a2 c2 := ⟨by go_cell, by go_cell, by go_cell, by go_cell⟩
  obtain ⟨x0, x1, x2, x3⟩ := b0
  simp only [Nat.zero_add] at x1 x2 x3
  have HB1 := hideK (show Below w.heap.size w (w.alloc (.cells #[.int .i64 n.kind, .int .i64 n.so, .slice a1 n.labs.length c1, .slice a2 n.to.length c2] 29)) from (Below.refl _ _).alloc (Nat.le_refl _) _)
  by_cases h6 : 6 < n.to.length
  · have h6z : (6 : Int) < (n.to.length : Int) := by omega
    have HE := hideK (okR_6 (zs := zs) (N := N) h6)
    simp only [ndVal]
    clear h1 h2 hzl hlb h6
    go_enter Tryd.func35, Tryd.ntmps35
    go_wp2_with fail
    go_ret
    exact ⟨by rw [HE.out]; rfl, HB1.out⟩
  have h6' : n.to.length ≤ 6 := by omega
  have h6z : (n.to.length : Int) ≤ 6 := by omega
  have P0 := hideK (show PN w n a1 c1 0 (.slice none 0 0) ((w.alloc (.cells #[.int .i64 n.kind, .int .i64 n.so, .slice a1 n.labs.length c1, .slice a2 n.to.length c2] 29)).alloc (.cells #[.int .i64 n.kind, .int .i64 n.so, .string ⟨#[]⟩, .slice a1 n.labs.length c1, .slice none 0 0] 35)) from
    ⟨by go_cell, by go_cell, by go_cell, by go_cell, by go_cell, by go_simp, World.ownsRow_nil _ _ _ _, by simp, ((Below.refl _ _).alloc (Nat.le_refl _) _).alloc (by simp) _⟩)
  have H2 := hideK h2
  have H1 := hideK h1
  have HLB := hideK hlb
  have HZL := hideK hzl
  simp only [ndVal]
  clear h1 h2 hlb hzl h6 HB1
  go_enter Tryd.func35, Tryd.ntmps35
  go_wp2_with fail
  go_loopw [22] (fun i wr => ∃ (k : Nat) (u : Value), k ≤ n.to.length ∧ i = .int .i64 (k : Int) ∧ PN w n a1 c1 k u wr ∧ ∀ j (hj : j < zs.length), j < k → 0 ≤ zs[j] ∧ zs[j] < (N : Int)) (fun i _ => n.to.length - (intOf i).toNat)
  case atStart => exact ⟨0, _, Nat.zero_le _, rfl, P0.out, fun j _ h => by omega⟩
  case round =>
    obtain ⟨k, u, hk, rfl, hP, hin⟩ := hrel
    clear P0 x0 x1 x2 x3
    have HIN := hideK hin
    clear hin
    by_cases hlt : k < n.to.length
    · have hltz : (k : Int) < (n.to.length : Int) := by omega
      have hkz : k < zs.length := by rw [HZL.out]; exact hlt
      obtain ⟨tb, tof, rfl, htb, hcs⟩ := (H2.out.keep (hP.bl.mono hB)).resolve_left (fun q => by rw [q] at hkz; simp at hkz)
      have d0 := hcs k hkz
      have HBD := hideK (fun (q : zs[k] < 0 ∨ (N : Int) ≤ zs[k]) => okR_z (n := n) hkz q)
      have HOKR := hideK (fun (q : ¬ (zs[k] < 0) ∧ zs[k] < (N : Int)) => show ∀ j (hj : j < zs.length), j < k + 1 → 0 ≤ zs[j] ∧ zs[j] < (N : Int) from fun j hj hjk => by
        by_cases e : j = k
        · subst e; omega
        · exact HIN.out j hj (by omega))
      clear hcs
      generalize zs[k] = tv at *
      by_cases ht1 : tv < 0
      · have HB := hideK hP.bl
        have HE := hideK (HBD.out (.inl ht1))
        clear hP HOKR
        go_wp2_with fail
        go_ret
        exact ⟨by rw [HE.out]; rfl, HB.out⟩
      by_cases ht3 : (N : Int) ≤ tv
      · have ht2 : ¬ (tv < (N : Int)) := by omega
        have HB := hideK hP.bl
        have HE := hideK (HBD.out (.inr ht3))
        clear hP HOKR
        go_wp2_with fail
        go_ret
        exact ⟨by rw [HE.out]; rfl, HB.out⟩
      have ht2 : tv < (N : Int) := by omega
      have HIN2 := hideK (HOKR.out ⟨ht1, ht2⟩)
      clear HOKR
      have p4 := hP.p4
      have LR := hideK (World.ownsRow_lit (base := w.heap.size + 1 + 1) (e := 35) (size := 5) wr #[.int .i64 1, .int .i64 0, .string ⟨#[]⟩, .slice none 0 0, .slice none 0 0] 1 hP.sz (by decide) rfl)
      have OA := hideK (own_belowG hP.own ((Below.refl _ _).alloc (Nat.le_refl _) (.cells #[.int .i64 1, .int .i64 0, .string ⟨#[]⟩, .slice none 0 0, .slice none 0 0] 35)))
      have HP := hideK hP
      have hsz := hP.sz
      have HAPP := hideK (fun (w7 : World) (v7 : Value) (hg : (wr.alloc (.cells #[.int .i64 1, .int .i64 0, .string ⟨#[]⟩, .slice none 0 0, .slice none 0 0] 35)).grownBy w7 u.ownBlock) (hO : w7.ownsRow (w.heap.size + 1 + 1) 35 5 v7 (k + 1) (eCs1 k ++ eC)) => hP.app (v7 := v7) hg hO)
      have HLOW := hideK (show ∀ b, b < w.heap.size + 1 + 1 → some b ≠ u.ownBlock from fun b hb e => by have := (hP.own.lt b e.symm).1; omega)
      obtain ⟨ua, uc, rfl⟩ := sliceH_own hP.own
      clear hP
      go_wp2_with (at_builtin; refine wpList_append_rows _ rfl (.tmp 34) (.tmp 36) 33 rfl (w.heap.size + 1 + 1) (w.heap.size + 1 + 1) 35 i1 _ 5 80 Tryd.underlying33 hj hy0 hy1 hy2 rfl (by decide) _ _ _ rfl OA.out _ _ _ rfl LR.out (by simp [Value.oneCell']) (by unfold maxLen; omega) (by omega) (by simp; omega) ?_; intro v7 w7 hO7 hg7 hat7; have pc7 := (World.cell?_of_block (a := ⟨w.heap.size + 1, 4, none⟩) (hg7.block (w.heap.size + 1) (by simp; omega) (HLOW.out _ (by omega)))).trans ((World.cell?_of_block (a := ⟨w.heap.size + 1, 4, none⟩) (heap_alloc_old wr _ (by show w.heap.size + 1 < _; omega))).trans HP.out.p4); have pf7 := (World.frozen?_of_block (a := ⟨w.heap.size + 1, 4, none⟩) (hg7.block (w.heap.size + 1) (by simp; omega) (HLOW.out _ (by omega)))).trans ((World.frozen?_of_block (a := ⟨w.heap.size + 1, 4, none⟩) (heap_alloc_old wr _ (by show w.heap.size + 1 < _; omega))).trans HP.out.pf); have HP7 := hideK (HAPP.out w7 v7 hg7 hO7); obtain ⟨va, vc, rfl⟩ := sliceH_own hO7; clear hO7 hg7 hat7)
      go_roundw
      case rel => exact ⟨k + 1, _, by omega, by go_num, HP7.out, HIN2.out⟩
      case measure => simp [intOf]; omega
    · have hltz : ¬ (k : Int) < (n.to.length : Int) := by omega
      have hkl : k = n.to.length := by omega
      subst hkl
      have HE := hideK (okR_end (n := n) (zs := zs) (N := N) h6' (fun i hi => HIN.out i hi (by rw [← HZL.out]; exact hi)))
      obtain ⟨ak, ck, rfl, hkt⟩ := hP.kt
      have cC := typesCheck_w 1 (nTy n n.to.length) a1 c1 ak ck wr ⟨by show (0 : Nat) ≤ _; omega, HLB.out, hll, by show (List.replicate n.to.length endT).length ≤ _; rw [List.length_replicate]; omega⟩ ((H1.out.keep (hP.bl.mono hB)).mono (Nat.le_trans hB hP.bl.size)) hkt
      have q0 := hP.p0
      have q1 := hP.p1
      have q2 := hP.p2
      have q3 := hP.p3
      have q4 := hP.p4
      have HB := hideK hP.bl
      generalize hcz : chkTy (nTy n n.to.length) = cz at *
      simp only [tyVal, nTy, List.length_replicate] at cC
      clear hP hkt hcz
      go_wp2_with fail
      refine cC.mono ?_
      rintro e w2 ⟨rfl, hb2⟩
      have HB2 := hideK (HB.out.trans (hb2.mono HB.out.size))
      clear cC hb2 q0 q1 q2 q3 q4
      go_wp2_with fail
      go_ret
      exact ⟨by rw [HE.out]; first | rfl | simp, HB2.out⟩
end Go.Proofs.YtnedgkcejlhnbaaDoor
