/-
  The contract of a monitor's behind.
-/
import Derived.Test.YthhbbhijpkoelaaDoorMi
namespace Go.Proofs.YthhbbhijpkoelaaDoor
open Go.RowKit Go.Shelf

/-- an event is fine at a node, and leads to another one -/
def goesE (g : List Nd) (i : Nat) (x : Ev) (j : Nat) : Prop :=
  (nodeAt g i).kind = x.kind ∧ (((x.kind = 2 ∨ x.kind = 3) ∧ (nodeAt g i).so = x.so ∧ j = toAt (nodeAt g i) 0) ∨ ((x.kind = 4 ∨ x.kind = 5) ∧ mayC g (toAt (nodeAt g i) 0) x.carry ∧ j = toAt (nodeAt g i) 1) ∨ ((x.kind = 6 ∨ x.kind = 7) ∧ x.label ∈ (nodeAt g i).labs ∧ j = toAt (nodeAt g i) (idxB (nodeAt g i).labs x.label)))
/-- an event in its box -/
structure EvAt (W : World) (b : Nat) (x : Ev) (al : Option Addr) (cl : Nat) (ak : Option Addr) (ck : Nat) : Prop where
  c0 : W.cell? ⟨b, 0, none⟩ = some (.int .i64 x.kind)
  c1 : W.cell? ⟨b, 1, none⟩ = some (.int .i64 x.so)
  c2 : W.cell? ⟨b, 2, none⟩ = some (.int .i64 x.n)
  c3 : W.cell? ⟨b, 3, none⟩ = some (.string x.s)
  c4 : W.cell? ⟨b, 4, none⟩ = some (.int .i64 x.carry.kind)
  c5 : W.cell? ⟨b, 5, none⟩ = some (.int .i64 x.carry.so)
  c6 : W.cell? ⟨b, 6, none⟩ = some (.string x.carry.name)
  c7 : W.cell? ⟨b, 7, none⟩ = some (.slice al x.carry.labels.length cl)
  c8 : W.cell? ⟨b, 8, none⟩ = some (.slice ak x.carry.kids.length ck)
  c9 : W.cell? ⟨b, 9, none⟩ = some (.string x.label)
theorem EvAt.keep {W W' : World} {b : Nat} {x : Ev} {al : Option Addr} {cl : Nat} {ak : Option Addr} {ck : Nat} (h : EvAt W b x al cl ak ck) (hb : Below W.heap.size W W') (hl : b < W.heap.size) : EvAt W' b x al cl ak ck :=
  ⟨(hb.cell (p := ⟨b, 0, none⟩) hl).trans h.c0, (hb.cell (p := ⟨b, 1, none⟩) hl).trans h.c1, (hb.cell (p := ⟨b, 2, none⟩) hl).trans h.c2, (hb.cell (p := ⟨b, 3, none⟩) hl).trans h.c3, (hb.cell (p := ⟨b, 4, none⟩) hl).trans h.c4, (hb.cell (p := ⟨b, 5, none⟩) hl).trans h.c5, (hb.cell (p := ⟨b, 6, none⟩) hl).trans h.c6, (hb.cell (p := ⟨b, 7, none⟩) hl).trans h.c7, (hb.cell (p := ⟨b, 8, none⟩) hl).trans h.c8, (hb.cell (p := ⟨b, 9, none⟩) hl).trans h.c9⟩
def BHPost (g : List Nd) (i : Nat) (x : Ev) (w : World) (e : Ending) (w' : World) : Prop :=
  ((∃ j, goesE g i x j ∧ e = .returned (.tuple #[.int .i64 (j : Int), .bool true])) ∨ ((∀ j, ¬ goesE g i x j) ∧ ∃ z : Int, e = .returned (.tuple #[.int .i64 z, .bool false]))) ∧ Below w.heap.size w w'
theorem ni_cell {W : World} {B : Nat} {ts : List Nat} {a : Option Addr} (h : NI W B ts a) {k : Nat} (hk : k < ts.length) : ∃ b o, a = some ⟨b, o, none⟩ ∧ W.cell? ⟨b, o + k, none⟩ = some (.int .i64 (ts[k] : Int)) := by
  rcases h with h | ⟨b, o, e, _, hc⟩
  · have := congrArg List.length h
    simp at this
    rw [this] at hk; simp at hk
  · exact ⟨b, o, e, by have := hc k (by simpa using hk); rw [List.getElem_map] at this; exact this⟩
theorem toAt_get (n : Nd) {k : Nat} (hk : k < n.to.length) : toAt n k = n.to[k] := by
  unfold toAt
  rw [List.getElem?_eq_getElem hk]
  rfl
set_option maxRecDepth 100000 in
set_option maxHeartbeats 8000000 in
theorem behind_any (g : List Nd) (hg : GN g) (ag : Option Addr) (cg B mb i : Nat) (dn bl : Int) (d : Nat) (x : Ev) (al : Option Addr) (cl : Nat) (ak : Option Addr) (ck : Nat) (w : World) (hM : MN mb g.length ag cg i dn bl w) (hga : GAt w B g ag) (hB : B ≤ w.heap.size) (hi : i < g.length) (hbd : TyBd x.carry cl ck) (hla : LA w w.heap.size x.carry.labels al) (hkt : KT w w.heap.size d x.carry.kids ak) (hx : 2 ≤ x.kind ∧ x.kind ≤ 7) :
    Calls Tryd.prog 20 #[.pointer (some ⟨mb, 0, none⟩), evVal x al cl ak ck] w (BHPost g i x w) := by
  unfold BHPost goesE
  have hA : Below w.heap.size w (w.alloc (.cells #[.int .i64 x.kind, .int .i64 x.so, .int .i64 x.n, .string x.s, .int .i64 x.carry.kind, .int .i64 x.carry.so, .string x.carry.name, .slice al x.carry.labels.length cl, .slice ak x.carry.kids.length ck, .string x.label] 39)) := (Below.refl _ _).alloc (Nat.le_refl _) _
  have c1 := here_any g ag cg B mb i dn bl (w.alloc (.cells #[.int .i64 x.kind, .int .i64 x.so, .int .i64 x.n, .string x.s, .int .i64 x.carry.kind, .int .i64 x.carry.so, .string x.carry.name, .slice al x.carry.labels.length cl, .slice ak x.carry.kids.length ck, .string x.label] 39)) (hM.keep hA) (hga.keep (hA.mono hB)) (by simp; omega) hi (by have := hg.le; omega)
  have HE0 := hideK (show EvAt (w.alloc (.cells #[.int .i64 x.kind, .int .i64 x.so, .int .i64 x.n, .string x.s, .int .i64 x.carry.kind, .int .i64 x.carry.so, .string x.carry.name, .slice al x.carry.labels.length cl, .slice ak x.carry.kids.length ck, .string x.label] 39)) w.heap.size x al cl ak ck from ⟨by go_cell, by go_cell, by go_cell, by go_cell, by go_cell, by go_cell, by go_cell, by go_cell, by go_cell, by go_cell⟩)
  have HA := hideK hA
  have hok := hg.at_ hi
  have CC := hideK (fun (W : World) (hb : Below w.heap.size w W) (hj : toAt (nodeAt g i) 0 < g.length) => mayCarry_any g hg ag cg B mb i (toAt (nodeAt g i) 0) dn bl d x.carry al cl ak ck W (hM.blk (hb.block mb hM.lt) hb.size) (hga.keep (hb.mono hB)) (Nat.le_trans hB hb.size) hj hbd ((hla.keep hb).mono hb.size) ((hkt.keep hb).mono hb.size))
  have HTO := hideK (fun k (hk : k < (nodeAt g i).to.length) => hg.to_ k (i := i) hk)
  unfold ndVal at c1
  unfold tyVal at CC
  have hL := okN_len hok
  have hK := okN_cases hok
  generalize nodeAt g i = nd at *
  have HS0 := hideK (show (w.alloc (.cells #[.int .i64 x.kind, .int .i64 x.so, .int .i64 x.n, .string x.s, .int .i64 x.carry.kind, .int .i64 x.carry.so, .string x.carry.name, .slice al x.carry.labels.length cl, .slice ak x.carry.kids.length ck, .string x.label] 39)).heap.size = w.heap.size + 1 from by simp)
  clear hM hga hbd hla hkt hA
  unfold evVal
  go_enter Tryd.func20, Tryd.ntmps20
  go_wp2_with fail
  generalize w.alloc (.cells #[.int .i64 x.kind, .int .i64 x.so, .int .i64 x.n, .string x.s, .int .i64 x.carry.kind, .int .i64 x.carry.so, .string x.carry.name, .slice al x.carry.labels.length cl, .slice ak x.carry.kids.length ck, .string x.label] 39) = W0 at *
  refine c1.mono ?_
  rintro e w1 ⟨⟨nl, nlc, nt, ntc, rfl, hnl, hnt⟩, hb1⟩
  have hs0 := HS0.out
  have hs1 := hb1.size
  have HB1 := hideK ((HA.out.trans (hb1.mono HA.out.size)).alloc (by omega) (.cells #[.int .i64 nd.kind, .int .i64 nd.so, .slice nl nd.labs.length nlc, .slice nt nd.to.length ntc] 60))
  have HN := hideK (show (w1.alloc (.cells #[.int .i64 nd.kind, .int .i64 nd.so, .slice nl nd.labs.length nlc, .slice nt nd.to.length ntc] 60)).cell? ⟨w1.heap.size, 0, none⟩ = some (.int .i64 nd.kind) ∧ (w1.alloc (.cells #[.int .i64 nd.kind, .int .i64 nd.so, .slice nl nd.labs.length nlc, .slice nt nd.to.length ntc] 60)).cell? ⟨w1.heap.size, 1, none⟩ = some (.int .i64 nd.so) ∧ (w1.alloc (.cells #[.int .i64 nd.kind, .int .i64 nd.so, .slice nl nd.labs.length nlc, .slice nt nd.to.length ntc] 60)).cell? ⟨w1.heap.size, 2, none⟩ = some (.slice nl nd.labs.length nlc) ∧ (w1.alloc (.cells #[.int .i64 nd.kind, .int .i64 nd.so, .slice nl nd.labs.length nlc, .slice nt nd.to.length ntc] 60)).cell? ⟨w1.heap.size, 3, none⟩ = some (.slice nt nd.to.length ntc) from ⟨by go_cell, by go_cell, by go_cell, by go_cell⟩)
  have HE := hideK ((HE0.out.keep hb1 (by omega)).keep ((Below.refl _ _).alloc (Nat.le_refl _) (.cells #[.int .i64 nd.kind, .int .i64 nd.so, .slice nl nd.labs.length nlc, .slice nt nd.to.length ntc] 60)) (by omega))
  have HNT := hideK (show NI (w1.alloc (.cells #[.int .i64 nd.kind, .int .i64 nd.so, .slice nl nd.labs.length nlc, .slice nt nd.to.length ntc] 60)) B nd.to nt from (NAt.keep (hb1.mono (by omega)) hnt).keep (((Below.refl _ _).alloc (Nat.le_refl _) (.cells #[.int .i64 nd.kind, .int .i64 nd.so, .slice nl nd.labs.length nlc, .slice nt nd.to.length ntc] 60)).mono (by omega)))
  have HNL := hideK (show LA (w1.alloc (.cells #[.int .i64 nd.kind, .int .i64 nd.so, .slice nl nd.labs.length nlc, .slice nt nd.to.length ntc] 60)) B nd.labs nl from (NAt.keep (hb1.mono (by omega)) hnl).keep (((Below.refl _ _).alloc (Nat.le_refl _) (.cells #[.int .i64 nd.kind, .int .i64 nd.so, .slice nl nd.labs.length nlc, .slice nt nd.to.length ntc] 60)).mono (by omega)))
  have HLT := hideK (show w.heap.size < (w1.alloc (.cells #[.int .i64 nd.kind, .int .i64 nd.so, .slice nl nd.labs.length nlc, .slice nt nd.to.length ntc] 60)).heap.size ∧ w1.heap.size < (w1.alloc (.cells #[.int .i64 nd.kind, .int .i64 nd.so, .slice nl nd.labs.length nlc, .slice nt nd.to.length ntc] 60)).heap.size from ⟨by simp; omega, by simp⟩)
  clear c1 hb1 hnl hnt HA HE0
  go_upto_region 2 with fail
  generalize w1.heap.size = nb at *
  generalize w1.alloc (.cells #[.int .i64 nd.kind, .int .i64 nd.so, .slice nl nd.labs.length nlc, .slice nt nd.to.length ntc] 60) = W1 at *
  have h67 : x.kind = 2 ∨ x.kind = 3 ∨ x.kind = 4 ∨ x.kind = 5 ∨ x.kind = 6 ∨ x.kind = 7 := by omega
  by_cases hke : nd.kind = x.kind
  · have kne : (nd.kind != x.kind) = false := by simpa using hke
    rcases h67 with hk | hk | hk | hk | hk | hk
    · have h0 : 0 < nd.to.length := hL.1 (by omega)
      obtain ⟨tb, to1, rfl, ht0⟩ := ni_cell HNT.out h0
      have hta : toAt nd 0 = nd.to[0] := toAt_get nd h0
      rw [Nat.add_zero] at ht0
      rw [← hta] at ht0
      clear hta
      have h0z : (0 : Int) < (nd.to.length : Int) := by omega
      have k2 : (x.kind == 2) = true := by rw [hk]; rfl
      have e0 : W1.cell? ⟨w.heap.size, 0, none⟩ = some (.int .i64 x.kind) := HE.out.c0
      have e1 : W1.cell? ⟨w.heap.size, 1, none⟩ = some (.int .i64 x.so) := HE.out.c1
      have e2 : W1.cell? ⟨w.heap.size, 2, none⟩ = some (.int .i64 x.n) := HE.out.c2
      have e3 : W1.cell? ⟨w.heap.size, 3, none⟩ = some (.string x.s) := HE.out.c3
      have e4 : W1.cell? ⟨w.heap.size, 4, none⟩ = some (.int .i64 x.carry.kind) := HE.out.c4
      have e5 : W1.cell? ⟨w.heap.size, 5, none⟩ = some (.int .i64 x.carry.so) := HE.out.c5
      have e6 : W1.cell? ⟨w.heap.size, 6, none⟩ = some (.string x.carry.name) := HE.out.c6
      have e7 : W1.cell? ⟨w.heap.size, 7, none⟩ = some (.slice al x.carry.labels.length cl) := HE.out.c7
      have e8 : W1.cell? ⟨w.heap.size, 8, none⟩ = some (.slice ak x.carry.kids.length ck) := HE.out.c8
      have e9 : W1.cell? ⟨w.heap.size, 9, none⟩ = some (.string x.label) := HE.out.c9
      have n0 := HN.out.1
      have n1 := HN.out.2.1
      have n2 := HN.out.2.2.1
      have n3 := HN.out.2.2.2
      by_cases hso : nd.so = x.so
      · have kso : (nd.so == x.so) = true := by simpa using hso
        have HF := hideK (show nd.kind = x.kind ∧ nd.so = x.so ∧ (x.kind = 2 ∨ x.kind = 3) from ⟨hke, hso, by omega⟩)
        clear hke hso hk hK hL
        go_upto_region 7 with fail
        go_region
        go_wp2_with fail
        go_ret2
        exact ⟨.inl ⟨toAt nd 0, ⟨HF.out.1, .inl ⟨HF.out.2.2, HF.out.2.1, rfl⟩⟩, rfl⟩, HB1.out.drew⟩
      · have kso : (nd.so == x.so) = false := by simpa using hso
        have HF := hideK (show nd.so ≠ x.so ∧ x.kind = 2 from ⟨hso, hk⟩)
        clear hke hso hk hK hL
        go_upto_region 7 with fail
        go_region
        go_wp2_with fail
        go_ret2
        exact ⟨.inr ⟨fun j hj => by
          have hk := HF.out.2
          rcases hj.2 with q | q | q
          · exact HF.out.1 q.2.1
          · omega
          · omega, _, rfl⟩, HB1.out.drew⟩
    · have h0 : 0 < nd.to.length := hL.1 (by omega)
      obtain ⟨tb, to1, rfl, ht0⟩ := ni_cell HNT.out h0
      have hta : toAt nd 0 = nd.to[0] := toAt_get nd h0
      rw [Nat.add_zero] at ht0
      rw [← hta] at ht0
      clear hta
      have h0z : (0 : Int) < (nd.to.length : Int) := by omega
      have k2 : (x.kind == 2) = false := by rw [hk]; rfl
      have k3 : (x.kind == 3) = true := by rw [hk]; rfl
      have e0 : W1.cell? ⟨w.heap.size, 0, none⟩ = some (.int .i64 x.kind) := HE.out.c0
      have e1 : W1.cell? ⟨w.heap.size, 1, none⟩ = some (.int .i64 x.so) := HE.out.c1
      have e2 : W1.cell? ⟨w.heap.size, 2, none⟩ = some (.int .i64 x.n) := HE.out.c2
      have e3 : W1.cell? ⟨w.heap.size, 3, none⟩ = some (.string x.s) := HE.out.c3
      have e4 : W1.cell? ⟨w.heap.size, 4, none⟩ = some (.int .i64 x.carry.kind) := HE.out.c4
      have e5 : W1.cell? ⟨w.heap.size, 5, none⟩ = some (.int .i64 x.carry.so) := HE.out.c5
      have e6 : W1.cell? ⟨w.heap.size, 6, none⟩ = some (.string x.carry.name) := HE.out.c6
      have e7 : W1.cell? ⟨w.heap.size, 7, none⟩ = some (.slice al x.carry.labels.length cl) := HE.out.c7
      have e8 : W1.cell? ⟨w.heap.size, 8, none⟩ = some (.slice ak x.carry.kids.length ck) := HE.out.c8
      have e9 : W1.cell? ⟨w.heap.size, 9, none⟩ = some (.string x.label) := HE.out.c9
      have n0 := HN.out.1
      have n1 := HN.out.2.1
      have n2 := HN.out.2.2.1
      have n3 := HN.out.2.2.2
      by_cases hso : nd.so = x.so
      · have kso : (nd.so == x.so) = true := by simpa using hso
        have HF := hideK (show nd.kind = x.kind ∧ nd.so = x.so ∧ (x.kind = 2 ∨ x.kind = 3) from ⟨hke, hso, by omega⟩)
        clear hke hso hk hK hL
        go_upto_region 7 with fail
        go_region
        go_wp2_with fail
        go_ret2
        exact ⟨.inl ⟨toAt nd 0, ⟨HF.out.1, .inl ⟨HF.out.2.2, HF.out.2.1, rfl⟩⟩, rfl⟩, HB1.out.drew⟩
      · have kso : (nd.so == x.so) = false := by simpa using hso
        have HF := hideK (show nd.so ≠ x.so ∧ x.kind = 3 from ⟨hso, hk⟩)
        clear hke hso hk hK hL
        go_upto_region 7 with fail
        go_region
        go_wp2_with fail
        go_ret2
        exact ⟨.inr ⟨fun j hj => by
          have hk := HF.out.2
          rcases hj.2 with q | q | q
          · exact HF.out.1 q.2.1
          · omega
          · omega, _, rfl⟩, HB1.out.drew⟩
    · have h1 : 1 < nd.to.length := hL.2.1 (by omega)
      obtain ⟨tb, to1, rfl, ht0⟩ := ni_cell HNT.out (show 0 < nd.to.length by omega)
      obtain ⟨tb', to1', e1, ht1⟩ := ni_cell HNT.out h1
      injection e1 with e1
      injection e1 with e1 e2
      subst e1 e2
      rw [← toAt_get nd (show 0 < nd.to.length by omega), Nat.add_zero] at ht0
      rw [← toAt_get nd h1] at ht1
      have h0z : (1 : Int) < (nd.to.length : Int) := by omega
      have h00 : (0 : Int) < (nd.to.length : Int) := by omega
      have h0n : 0 < nd.to.length := by omega
      have CM := hideK (CC.out W1.drew HB1.out.drew (HTO.out 0 (by omega)))
      have k2 : (x.kind == 2) = false := by rw [hk]; rfl
      have k3 : (x.kind == 3) = false := by rw [hk]; rfl
      have k4 : (x.kind == 4) = true := by rw [hk]; rfl
      have e0 : W1.cell? ⟨w.heap.size, 0, none⟩ = some (.int .i64 x.kind) := HE.out.c0
      have e1 : W1.cell? ⟨w.heap.size, 1, none⟩ = some (.int .i64 x.so) := HE.out.c1
      have e2 : W1.cell? ⟨w.heap.size, 2, none⟩ = some (.int .i64 x.n) := HE.out.c2
      have e3 : W1.cell? ⟨w.heap.size, 3, none⟩ = some (.string x.s) := HE.out.c3
      have e4 : W1.cell? ⟨w.heap.size, 4, none⟩ = some (.int .i64 x.carry.kind) := HE.out.c4
      have e5 : W1.cell? ⟨w.heap.size, 5, none⟩ = some (.int .i64 x.carry.so) := HE.out.c5
      have e6 : W1.cell? ⟨w.heap.size, 6, none⟩ = some (.string x.carry.name) := HE.out.c6
      have e7 : W1.cell? ⟨w.heap.size, 7, none⟩ = some (.slice al x.carry.labels.length cl) := HE.out.c7
      have e8 : W1.cell? ⟨w.heap.size, 8, none⟩ = some (.slice ak x.carry.kids.length ck) := HE.out.c8
      have e9 : W1.cell? ⟨w.heap.size, 9, none⟩ = some (.string x.label) := HE.out.c9
      have n0 := HN.out.1
      have n1 := HN.out.2.1
      have n2 := HN.out.2.2.1
      have n3 := HN.out.2.2.2
      have HF := hideK (show nd.kind = x.kind ∧ x.kind = 4 from ⟨hke, hk⟩)
      clear hke hk hK hL
      go_upto_region 10 with fail
      go_region_held3 (fun W => W.cell? ⟨nb, 3, none⟩ = some (.slice (some ⟨tb, to1, none⟩) nd.to.length ntc) ∧ W.cell? ⟨tb, to1, none⟩ = some (.int .i64 (toAt nd 0 : Int)) ∧ W.cell? ⟨tb, to1 + 1, none⟩ = some (.int .i64 (toAt nd 1 : Int)) ∧ W.cell? ⟨w.heap.size, 4, none⟩ = some (.int .i64 x.carry.kind) ∧ W.cell? ⟨w.heap.size, 5, none⟩ = some (.int .i64 x.carry.so) ∧ W.cell? ⟨w.heap.size, 6, none⟩ = some (.string x.carry.name) ∧ W.cell? ⟨w.heap.size, 7, none⟩ = some (.slice al x.carry.labels.length cl) ∧ W.cell? ⟨w.heap.size, 8, none⟩ = some (.slice ak x.carry.kids.length ck)) (go_keep) (first | (go_at_call 37; go_must (first | (refine CM.out.mono ?_; rintro e w5 ⟨⟨qb, rfl, hqb⟩, hb5⟩; have hb6 : Below W1.heap.size W1 w5 := (Below.refl _ _).drew.trans hb5; have u3 := (hb6.cell (p := ⟨nb, 3, none⟩) HLT.out.2).trans n3; have u4 := (hb6.cell (p := ⟨tb, to1, none⟩) (lt_of_cell ht0)).trans ht0; have u5 := (hb6.cell (p := ⟨tb, to1 + 1, none⟩) (lt_of_cell ht1)).trans ht1; have v4 := (hb6.cell (p := ⟨w.heap.size, 4, none⟩) HLT.out.1).trans e4; have v5 := (hb6.cell (p := ⟨w.heap.size, 5, none⟩) HLT.out.1).trans e5; have v6 := (hb6.cell (p := ⟨w.heap.size, 6, none⟩) HLT.out.1).trans e6; have v7 := (hb6.cell (p := ⟨w.heap.size, 7, none⟩) HLT.out.1).trans e7; have v8 := (hb6.cell (p := ⟨w.heap.size, 8, none⟩) HLT.out.1).trans e8))))
      have HB5 := hideK (HB1.out.trans (hb6.mono HB1.out.size))
      have HQ := hideK hqb
      cases qb with
      | true =>
        go_wp2_with fail
        go_ret2
        exact ⟨.inl ⟨toAt nd 1, ⟨HF.out.1, .inr (.inl ⟨by have := HF.out.2; omega, by first | exact HQ.out.1 rfl | simpa using HQ.out, rfl⟩)⟩, rfl⟩, HB5.out⟩
      | false =>
        go_wp2_with fail
        go_ret2
        exact ⟨.inr ⟨fun j hj => by
          have hk := HF.out.2
          rcases hj.2 with q | q | q
          · omega
          · first | exact absurd (HQ.out.2 q.2.1) (by decide) | (have := HQ.out; simp at this; exact this q.2.1)
          · omega, _, rfl⟩, HB5.out⟩
    · have h1 : 1 < nd.to.length := hL.2.1 (by omega)
      obtain ⟨tb, to1, rfl, ht0⟩ := ni_cell HNT.out (show 0 < nd.to.length by omega)
      obtain ⟨tb', to1', e1, ht1⟩ := ni_cell HNT.out h1
      injection e1 with e1
      injection e1 with e1 e2
      subst e1 e2
      rw [← toAt_get nd (show 0 < nd.to.length by omega), Nat.add_zero] at ht0
      rw [← toAt_get nd h1] at ht1
      have h0z : (1 : Int) < (nd.to.length : Int) := by omega
      have h00 : (0 : Int) < (nd.to.length : Int) := by omega
      have h0n : 0 < nd.to.length := by omega
      have CM := hideK (CC.out W1.drew HB1.out.drew (HTO.out 0 (by omega)))
      have k2 : (x.kind == 2) = false := by rw [hk]; rfl
      have k3 : (x.kind == 3) = false := by rw [hk]; rfl
      have k4 : (x.kind == 4) = false := by rw [hk]; rfl
      have k5 : (x.kind == 5) = true := by rw [hk]; rfl
      have e0 : W1.cell? ⟨w.heap.size, 0, none⟩ = some (.int .i64 x.kind) := HE.out.c0
      have e1 : W1.cell? ⟨w.heap.size, 1, none⟩ = some (.int .i64 x.so) := HE.out.c1
      have e2 : W1.cell? ⟨w.heap.size, 2, none⟩ = some (.int .i64 x.n) := HE.out.c2
      have e3 : W1.cell? ⟨w.heap.size, 3, none⟩ = some (.string x.s) := HE.out.c3
      have e4 : W1.cell? ⟨w.heap.size, 4, none⟩ = some (.int .i64 x.carry.kind) := HE.out.c4
      have e5 : W1.cell? ⟨w.heap.size, 5, none⟩ = some (.int .i64 x.carry.so) := HE.out.c5
      have e6 : W1.cell? ⟨w.heap.size, 6, none⟩ = some (.string x.carry.name) := HE.out.c6
      have e7 : W1.cell? ⟨w.heap.size, 7, none⟩ = some (.slice al x.carry.labels.length cl) := HE.out.c7
      have e8 : W1.cell? ⟨w.heap.size, 8, none⟩ = some (.slice ak x.carry.kids.length ck) := HE.out.c8
      have e9 : W1.cell? ⟨w.heap.size, 9, none⟩ = some (.string x.label) := HE.out.c9
      have n0 := HN.out.1
      have n1 := HN.out.2.1
      have n2 := HN.out.2.2.1
      have n3 := HN.out.2.2.2
      have HF := hideK (show nd.kind = x.kind ∧ x.kind = 5 from ⟨hke, hk⟩)
      clear hke hk hK hL
      go_upto_region 10 with fail
      go_region_held3 (fun W => W.cell? ⟨nb, 3, none⟩ = some (.slice (some ⟨tb, to1, none⟩) nd.to.length ntc) ∧ W.cell? ⟨tb, to1, none⟩ = some (.int .i64 (toAt nd 0 : Int)) ∧ W.cell? ⟨tb, to1 + 1, none⟩ = some (.int .i64 (toAt nd 1 : Int)) ∧ W.cell? ⟨w.heap.size, 4, none⟩ = some (.int .i64 x.carry.kind) ∧ W.cell? ⟨w.heap.size, 5, none⟩ = some (.int .i64 x.carry.so) ∧ W.cell? ⟨w.heap.size, 6, none⟩ = some (.string x.carry.name) ∧ W.cell? ⟨w.heap.size, 7, none⟩ = some (.slice al x.carry.labels.length cl) ∧ W.cell? ⟨w.heap.size, 8, none⟩ = some (.slice ak x.carry.kids.length ck)) (go_keep) (first | (go_at_call 37; go_must (first | (refine CM.out.mono ?_; rintro e w5 ⟨⟨qb, rfl, hqb⟩, hb5⟩; have hb6 : Below W1.heap.size W1 w5 := (Below.refl _ _).drew.trans hb5; have u3 := (hb6.cell (p := ⟨nb, 3, none⟩) HLT.out.2).trans n3; have u4 := (hb6.cell (p := ⟨tb, to1, none⟩) (lt_of_cell ht0)).trans ht0; have u5 := (hb6.cell (p := ⟨tb, to1 + 1, none⟩) (lt_of_cell ht1)).trans ht1; have v4 := (hb6.cell (p := ⟨w.heap.size, 4, none⟩) HLT.out.1).trans e4; have v5 := (hb6.cell (p := ⟨w.heap.size, 5, none⟩) HLT.out.1).trans e5; have v6 := (hb6.cell (p := ⟨w.heap.size, 6, none⟩) HLT.out.1).trans e6; have v7 := (hb6.cell (p := ⟨w.heap.size, 7, none⟩) HLT.out.1).trans e7; have v8 := (hb6.cell (p := ⟨w.heap.size, 8, none⟩) HLT.out.1).trans e8))))
      have HB5 := hideK (HB1.out.trans (hb6.mono HB1.out.size))
      have HQ := hideK hqb
      cases qb with
      | true =>
        go_wp2_with fail
        go_ret2
        exact ⟨.inl ⟨toAt nd 1, ⟨HF.out.1, .inr (.inl ⟨by have := HF.out.2; omega, by first | exact HQ.out.1 rfl | simpa using HQ.out, rfl⟩)⟩, rfl⟩, HB5.out⟩
      | false =>
        go_wp2_with fail
        go_ret2
        exact ⟨.inr ⟨fun j hj => by
          have hk := HF.out.2
          rcases hj.2 with q | q | q
          · omega
          · first | exact absurd (HQ.out.2 q.2.1) (by decide) | (have := HQ.out; simp at this; exact this q.2.1)
          · omega, _, rfl⟩, HB5.out⟩
    · have k2 : (x.kind == 2) = false := by rw [hk]; rfl
      have k3 : (x.kind == 3) = false := by rw [hk]; rfl
      have k4 : (x.kind == 4) = false := by rw [hk]; rfl
      have k5 : (x.kind == 5) = false := by rw [hk]; rfl
      have k2 : (x.kind == 2) = false := by rw [hk]; rfl
      have k3 : (x.kind == 3) = false := by rw [hk]; rfl
      have k4 : (x.kind == 4) = false := by rw [hk]; rfl
      have k5 : (x.kind == 5) = false := by rw [hk]; rfl
      have e0 : W1.cell? ⟨w.heap.size, 0, none⟩ = some (.int .i64 x.kind) := HE.out.c0
      have e1 : W1.cell? ⟨w.heap.size, 1, none⟩ = some (.int .i64 x.so) := HE.out.c1
      have e2 : W1.cell? ⟨w.heap.size, 2, none⟩ = some (.int .i64 x.n) := HE.out.c2
      have e3 : W1.cell? ⟨w.heap.size, 3, none⟩ = some (.string x.s) := HE.out.c3
      have e4 : W1.cell? ⟨w.heap.size, 4, none⟩ = some (.int .i64 x.carry.kind) := HE.out.c4
      have e5 : W1.cell? ⟨w.heap.size, 5, none⟩ = some (.int .i64 x.carry.so) := HE.out.c5
      have e6 : W1.cell? ⟨w.heap.size, 6, none⟩ = some (.string x.carry.name) := HE.out.c6
      have e7 : W1.cell? ⟨w.heap.size, 7, none⟩ = some (.slice al x.carry.labels.length cl) := HE.out.c7
      have e8 : W1.cell? ⟨w.heap.size, 8, none⟩ = some (.slice ak x.carry.kids.length ck) := HE.out.c8
      have e9 : W1.cell? ⟨w.heap.size, 9, none⟩ = some (.string x.label) := HE.out.c9
      have n0 := HN.out.1
      have n1 := HN.out.2.1
      have n2 := HN.out.2.2.1
      have n3 := HN.out.2.2.2
      have cI := index_any nd.labs x.label nl nlc B W1 HNL.out (by have := (shp_len (okN_shp hok)).1; omega)
      have HF := hideK (show nd.kind = x.kind ∧ x.kind = 6 from ⟨hke, hk⟩)
      by_cases hm : x.label ∈ nd.labs
      · have hlt := idxB_lt hm
        have hlt2 := hL.2.2 _ hlt
        obtain ⟨tb, to1, rfl, ht0⟩ := ni_cell HNT.out hlt2
        rw [← toAt_get nd hlt2] at ht0
        rw [show idxZ nd.labs x.label = (idxB nd.labs x.label : Int) from if_pos ((hasN_iff _ _).2 hm)] at cI
        have hz1 : ((idxB nd.labs x.label : Nat) : Int) < (nd.to.length : Int) := by omega
        have HM := hideK hm
        have HLN := hideK (shp_len (okN_shp hok))
        have hz2 : ((idxB nd.labs x.label : Nat) : Int) ≤ 1000 := by have := HLN.out.1; omega
        generalize hix : idxB nd.labs x.label = ix at *
        have HIX := hideK hix
        clear hix
        clear hke hk hK hL hm hlt hlt2 hok
        go_wp2_with fail
        refine cI.mono ?_
        rintro e w5 ⟨rfl, rfl⟩
        go_wp2_with fail
        go_ret2
        exact ⟨.inl ⟨toAt nd ix, ⟨HF.out.1, .inr (.inr ⟨by have := HF.out.2; omega, HM.out, by rw [HIX.out]⟩)⟩, rfl⟩, HB1.out⟩
      · rw [show idxZ nd.labs x.label = -1 from if_neg (fun q => hm ((hasN_iff _ _).1 q))] at cI
        have HM := hideK hm
        clear hke hk hK hL hm hok
        go_wp2_with fail
        refine cI.mono ?_
        rintro e w5 ⟨rfl, rfl⟩
        go_wp2_with fail
        go_ret2
        exact ⟨.inr ⟨fun j hj => by
          have hk := HF.out.2
          rcases hj.2 with q | q | q
          · omega
          · omega
          · exact HM.out q.2.1, _, rfl⟩, HB1.out⟩
    · have k2 : (x.kind == 2) = false := by rw [hk]; rfl
      have k3 : (x.kind == 3) = false := by rw [hk]; rfl
      have k4 : (x.kind == 4) = false := by rw [hk]; rfl
      have k5 : (x.kind == 5) = false := by rw [hk]; rfl
      have k2 : (x.kind == 2) = false := by rw [hk]; rfl
      have k3 : (x.kind == 3) = false := by rw [hk]; rfl
      have k4 : (x.kind == 4) = false := by rw [hk]; rfl
      have k5 : (x.kind == 5) = false := by rw [hk]; rfl
      have e0 : W1.cell? ⟨w.heap.size, 0, none⟩ = some (.int .i64 x.kind) := HE.out.c0
      have e1 : W1.cell? ⟨w.heap.size, 1, none⟩ = some (.int .i64 x.so) := HE.out.c1
      have e2 : W1.cell? ⟨w.heap.size, 2, none⟩ = some (.int .i64 x.n) := HE.out.c2
      have e3 : W1.cell? ⟨w.heap.size, 3, none⟩ = some (.string x.s) := HE.out.c3
      have e4 : W1.cell? ⟨w.heap.size, 4, none⟩ = some (.int .i64 x.carry.kind) := HE.out.c4
      have e5 : W1.cell? ⟨w.heap.size, 5, none⟩ = some (.int .i64 x.carry.so) := HE.out.c5
      have e6 : W1.cell? ⟨w.heap.size, 6, none⟩ = some (.string x.carry.name) := HE.out.c6
      have e7 : W1.cell? ⟨w.heap.size, 7, none⟩ = some (.slice al x.carry.labels.length cl) := HE.out.c7
      have e8 : W1.cell? ⟨w.heap.size, 8, none⟩ = some (.slice ak x.carry.kids.length ck) := HE.out.c8
      have e9 : W1.cell? ⟨w.heap.size, 9, none⟩ = some (.string x.label) := HE.out.c9
      have n0 := HN.out.1
      have n1 := HN.out.2.1
      have n2 := HN.out.2.2.1
      have n3 := HN.out.2.2.2
      have cI := index_any nd.labs x.label nl nlc B W1 HNL.out (by have := (shp_len (okN_shp hok)).1; omega)
      have HF := hideK (show nd.kind = x.kind ∧ x.kind = 7 from ⟨hke, hk⟩)
      by_cases hm : x.label ∈ nd.labs
      · have hlt := idxB_lt hm
        have hlt2 := hL.2.2 _ hlt
        obtain ⟨tb, to1, rfl, ht0⟩ := ni_cell HNT.out hlt2
        rw [← toAt_get nd hlt2] at ht0
        rw [show idxZ nd.labs x.label = (idxB nd.labs x.label : Int) from if_pos ((hasN_iff _ _).2 hm)] at cI
        have hz1 : ((idxB nd.labs x.label : Nat) : Int) < (nd.to.length : Int) := by omega
        have HM := hideK hm
        have HLN := hideK (shp_len (okN_shp hok))
        have hz2 : ((idxB nd.labs x.label : Nat) : Int) ≤ 1000 := by have := HLN.out.1; omega
        generalize hix : idxB nd.labs x.label = ix at *
        have HIX := hideK hix
        clear hix
        clear hke hk hK hL hm hlt hlt2 hok
        go_wp2_with fail
        refine cI.mono ?_
        rintro e w5 ⟨rfl, rfl⟩
        go_wp2_with fail
        go_ret2
        exact ⟨.inl ⟨toAt nd ix, ⟨HF.out.1, .inr (.inr ⟨by have := HF.out.2; omega, HM.out, by rw [HIX.out]⟩)⟩, rfl⟩, HB1.out⟩
      · rw [show idxZ nd.labs x.label = -1 from if_neg (fun q => hm ((hasN_iff _ _).1 q))] at cI
        have HM := hideK hm
        clear hke hk hK hL hm hok
        go_wp2_with fail
        refine cI.mono ?_
        rintro e w5 ⟨rfl, rfl⟩
        go_wp2_with fail
        go_ret2
        exact ⟨.inr ⟨fun j hj => by
          have hk := HF.out.2
          rcases hj.2 with q | q | q
          · omega
          · omega
          · exact HM.out q.2.1, _, rfl⟩, HB1.out⟩
  · have kne : (nd.kind != x.kind) = true := by simpa using hke
    have e0 := HE.out.c0
    have n0 := HN.out.1
    have HF := hideK hke
    clear hke hK hL h67
    go_wp2_with fail
    go_ret2
    exact ⟨.inr ⟨fun j hj => HF.out hj.1, _, rfl⟩, HB1.out⟩
end Go.Proofs.YthhbbhijpkoelaaDoor
