/-
  graph.Of and monitor.New once more: what they make lies in new memory.
-/
import Derived.Test.YtnlpnbelkkgghaaDoorMq
import Derived.Test.YtnlpnbelkkgghaaDoorMk
import Derived.Test.YtnlpnbelkkgghaaDoorUg
import Derived.Test.YtnlpnbelkkgghaaDoorProg
import Derived.Ground.Names2Prog
import Derived.Shelf.Slices.Clone
import Derived.Test.YtnlpnbelkkgghaaDoorJb
import Derived.Test.YtnlpnbelkkgghaaDoorJf
namespace Go.Proofs.YtnlpnbelkkgghaaDoor
open Go.RowKit Go.Shelf

def OXPost (t : Ty) (w : World) (e : Ending) (w' : World) : Prop :=
  ((chkTy t ≠ 0 ∧ e = .returned (.tuple #[.slice none 0 0, .int .i64 (chkTy t)])) ∨ (∃ g ag cg, OFG t g ∧ e = .returned (.tuple #[.slice ag g.length cg, .int .i64 0]) ∧ GAx w w' g ag)) ∧ Below w.heap.size w w'
theorem GAx.size_le {w W : World} {g : List Nd} {ag : Option Addr} (h : GAx w W g ag) (hp : 0 < g.length) : w.heap.size ≤ W.heap.size := by
  rcases h with h | ⟨b, o, e, hl, _⟩
  · rw [h] at hp; simp at hp
  · omega
theorem GAx.low {w v W : World} {g : List Nd} {ag : Option Addr} (h : GAx v W g ag) (hw : w.heap.size ≤ v.heap.size) : GAx w W g ag :=
  h.imp id fun ⟨b, o, e, hl, hc⟩ => ⟨b, o, e, ⟨by omega, hl.2⟩, fun i hi => by
    obtain ⟨al, cl, at1, ct, h1, h2, h3⟩ := hc i hi
    exact ⟨al, cl, at1, ct, h1, h2.keep (fun _ _ _ => rfl) (fun b hb => ⟨by omega, hb.2⟩), h3.keep (fun _ _ _ => rfl) (fun b hb => ⟨by omega, hb.2⟩)⟩⟩
set_option maxRecDepth 100000 in
set_option maxHeartbeats 2000000 in
theorem ofX_any (d : Nat) (t : Ty) (al : Option Addr) (cl : Nat) (ak : Option Addr) (ck : Nat) (w : World) (hbd : TyBd t cl ck) (hla : LA w w.heap.size t.labels al) (hkt : KT w w.heap.size d t.kids ak) :
    Calls Tryd.prog 8 #[tyVal t al cl ak ck] w (OXPost t w) := by
  have hA : Below w.heap.size w (w.alloc (.cells #[.int .i64 t.kind, .int .i64 t.so, .string t.name, .slice al t.labels.length cl, .slice ak t.kids.length ck] 25)) := (Below.refl _ _).alloc (Nat.le_refl _) _
  have cC := typesCheck_any d t al cl ak ck _ hbd (NAt.mono hA.size (NAt.keep hA hla)) (KT.mono hA.size (KT.keep hA hkt))
  have HA := hideK hA
  unfold OXPost
  by_cases hz : chkTy t = 0
  · rw [hz] at cC
    obtain ⟨hw, hsz⟩ := chkTy_good t hz
    have CW := hideK (fun (W : World) (hb : Below w.heap.size w W) => laid_any d t al cl ak ck W hbd ((hla.keep hb).mono hb.size) ((hkt.keep hb).mono hb.size) hw hsz)
    have CL := hideK (fun (W : World) ag cg (hga : GAt W W.heap.size (layP t [] 0).2 ag) => least_loopX (layP t [] 0).2 ag cg W.heap.size W (lay_gn hz).gr hga (Nat.le_refl _))
    simp only [tyVal] at cC CW ⊢
    have HZ := hideK hz
    clear hbd hla hkt hz hw hsz hA
    go_enter Tryd.func8, Tryd.ntmps8
    go_wp2_with fail
    refine cC.mono ?_
    rintro e w1 ⟨rfl, hb1⟩
    obtain ⟨x0, x1, x2, x3, x4, hbw⟩ := keep5 hb1
    have cW := CW.out w1 hbw
    have HB := hideK hbw
    clear cC CW hbw
    go_wp2_with fail
    refine cW.mono ?_
    rintro e w2 ⟨⟨ag, cg, rfl, hga⟩, hb2⟩
    have cL := CL.out w2 ag cg hga
    have HB2 := hideK (HB.out.trans (hb2.mono HB.out.size))
    clear cW CL hga hb2
    generalize hG : (layP t [] 0).2 = G at *
    go_wp2_with fail
    refine cL.mono ?_
    rintro e w3 ⟨⟨c, hc, ao, co, rfl, hg3⟩, hb3⟩
    have HB3 := hideK (HB2.out.trans (hb3.mono HB2.out.size))
    have HC := hideK hc
    have HG3 := hideK (hg3.low (w := w) HB2.out.size)
    clear cL hc hg3 hb3
    generalize hgl : leastG G c = g at *
    go_wp2_with fail
    go_ret2
    exact ⟨.inr ⟨g, _, _, ⟨HZ.out, c, by rw [hG]; exact HC.out, by rw [hG]; exact hgl.symm⟩, rfl, HG3.out⟩, HB3.out⟩
  · have hzb : (chkTy t != 0) = true := by simpa using hz
    simp only [tyVal] at cC ⊢
    have HZ := hideK hz
    clear hbd hla hkt hz hA
    generalize hgz : chkTy t = z at cC hzb ⊢
    go_enter Tryd.func8, Tryd.ntmps8
    go_wp2_with fail
    refine cC.mono ?_
    rintro e w1 ⟨rfl, hb1⟩
    obtain ⟨x0, x1, x2, x3, x4, hbw⟩ := keep5 hb1
    clear cC
    go_wp2_with fail
    go_ret2
    exact ⟨.inl ⟨by rw [← hgz]; exact HZ.out, rfl⟩, hbw⟩
/-- what monitor.New answers -/
def NXPost (t : Ty) (w : World) (e : Ending) (w' : World) : Prop :=
  ((chkTy t ≠ 0 ∧ e = .returned (.tuple #[.pointer none, .int .i64 (chkTy t)])) ∨ (∃ g ag cg mb, OFG t g ∧ e = .returned (.tuple #[.pointer (some ⟨mb, 0, none⟩), .int .i64 0]) ∧ MN mb g.length ag cg 0 0 0 w' ∧ w.heap.size ≤ mb ∧ ∃ W, GAx w W g ag ∧ W.heap.size ≤ mb ∧ (∀ b, b < W.heap.size → w'.heap[b]? = W.heap[b]?))) ∧ Below w.heap.size w w'
set_option maxRecDepth 100000 in
set_option maxHeartbeats 4000000 in
theorem newX_any (d : Nat) (t : Ty) (al : Option Addr) (cl : Nat) (ak : Option Addr) (ck : Nat) (w : World) (hbd : TyBd t cl ck) (hla : LA w w.heap.size t.labels al) (hkt : KT w w.heap.size d t.kids ak) :
    Calls Tryd.prog 24 #[tyVal t al cl ak ck] w (NXPost t w) := by
  unfold NXPost
  have hA : Below w.heap.size w (w.alloc (.cells #[.int .i64 t.kind, .int .i64 t.so, .string t.name, .slice al t.labels.length cl, .slice ak t.kids.length ck] 25)) := (Below.refl _ _).alloc (Nat.le_refl _) _
  have c1 := ofX_any d t al cl ak ck (w.alloc (.cells #[.int .i64 t.kind, .int .i64 t.so, .string t.name, .slice al t.labels.length cl, .slice ak t.kids.length ck] 25)) hbd ((hla.keep hA).mono hA.size) ((hkt.keep hA).mono hA.size)
  have HA := hideK hA
  unfold OXPost at c1
  simp only [tyVal] at c1 ⊢
  clear hbd hla hkt hA
  go_enter Tryd.func24, Tryd.ntmps24
  go_wp2_with fail
  refine c1.mono ?_
  rintro e w1 ⟨hor, hb1⟩
  have HB1 := hideK (HA.out.trans (hb1.mono HA.out.size))
  have HLW := hideK HA.out.size
  clear c1 hb1 HA
  rcases hor with ⟨hz, rfl⟩ | ⟨g, ag, cg, hg, rfl, hga⟩
  · have hzb : (chkTy t != 0) = true := by simpa using hz
    have HZ := hideK hz
    clear hz
    go_wp2_with fail
    go_ret2
    exact ⟨.inl ⟨HZ.out, rfl⟩, HB1.out⟩
  · have HG := hideK hg
    have HM := hideK (show MN w1.heap.size g.length ag cg 0 0 0 (w1.alloc (.cells #[.slice ag g.length cg, .int .i64 0, .int .i64 0, .int .i64 0] 96)) from ⟨by go_cell, by go_cell, by go_cell, by go_cell, fun o => by go_simp, by simp⟩)
    have HGA := hideK (hga.low (w := w) HLW.out)
    have HKX := hideK (show ∀ b, b < w1.heap.size → (w1.alloc (.cells #[.slice ag g.length cg, .int .i64 0, .int .i64 0, .int .i64 0] 96)).heap[b]? = w1.heap[b]? from fun b hb => heap_alloc_old w1 _ hb)
    have HB2 := hideK (HB1.out.alloc HB1.out.size (.cells #[.slice ag g.length cg, .int .i64 0, .int .i64 0, .int .i64 0] 96))
    have hsz := HB1.out.size
    clear hg hga
    go_wp2_with fail
    go_ret2
    exact ⟨.inr ⟨g, ag, cg, w1.heap.size, HG.out, rfl, HM.out, hsz, w1, HGA.out, Nat.le_refl _, HKX.out⟩, HB2.out⟩
end Go.Proofs.YtnlpnbelkkgghaaDoor
/-
  The graphs of !int.end and ?int.end, worked out.
-/
namespace Go.Proofs.YtnlpnbelkkgghaaDoor
open Go.RowKit Go.Shelf

def sndT : Ty := ⟨2, 1, ⟨#[]⟩, [], [endT]⟩
def rcvT : Ty := ⟨3, 1, ⟨#[]⟩, [], [endT]⟩
def sndG : List Nd := [⟨2, 1, [], [1]⟩, ⟨1, 0, [], []⟩]
def rcvG : List Nd := [⟨3, 1, [], [1]⟩, ⟨1, 0, [], []⟩]
theorem end_gd : gdT endT := by
  rw [gdT_eq]
  refine ⟨?_, fun h => ?_, fun k hk => ?_⟩
  · unfold partT endT; simp
  · exact absurd h (by decide)
  · cases hk
theorem end_sz : sizeT endT = 1 := by rw [sizeT_eq]; rfl
theorem one_chk (k : Int) (hk : k = 2 ∨ k = 3) : chkTy ⟨k, 1, ⟨#[]⟩, [], [endT]⟩ = 0 := by
  have hg : gdT ⟨k, 1, ⟨#[]⟩, [], [endT]⟩ := by
    rw [gdT_eq]
    refine ⟨?_, fun h => ?_, fun q hq => ?_⟩
    · unfold partT
      rcases hk with rfl | rfl <;> simp
    · simp only at h; omega
    · obtain rfl := List.mem_singleton.1 hq
      exact end_gd
  have hc : clT ⟨k, 1, ⟨#[]⟩, [], [endT]⟩ [] := by
    rw [clT_eq]
    refine ⟨fun h => ?_, fun q hq => ?_⟩
    · simp only at h; omega
    · obtain rfl := List.mem_singleton.1 hq
      rw [clT_eq]
      exact ⟨fun h => absurd h (by decide), fun q hq => by cases hq⟩
  have hs : sizeT ⟨k, 1, ⟨#[]⟩, [], [endT]⟩ = 2 := by
    rw [sizeT_eq]
    simp only [List.map_cons, List.map_nil, end_sz]
    rfl
  rcases chkTy_or hg hc (by rw [hs]; decide) with q | q
  · exact q
  · rw [hs] at q; omega
theorem snd_chk : chkTy sndT = 0 := one_chk 2 (.inl rfl)
theorem rcv_chk : chkTy rcvT = 0 := one_chk 3 (.inr rfl)
theorem one_lay (k : Int) (hk : k = 2 ∨ k = 3) : layP ⟨k, 1, ⟨#[]⟩, [], [endT]⟩ [] 0 = (0, [⟨k, 1, [], [1]⟩, ⟨1, 0, [], []⟩]) := by
  have e1 : layP endT [] (1 + 0) = (1, [⟨1, 0, [], []⟩]) := by
    rw [layP_node endT [] _ (by decide) (by decide)]; rfl
  have e2 : layL [] (0 + 1) [endT] = ([1], [⟨1, 0, [], []⟩]) := by
    unfold layL
    rw [List.foldl_cons, List.foldl_nil]
    show ([] ++ [(layP endT [] (1 + 0)).1], [] ++ (layP endT [] (1 + 0)).2) = _
    rw [e1]; rfl
  rw [layP_node _ [] 0 (by simp only; omega) (by simp only; omega)]
  simp only
  rw [e2]
theorem snd_of : OFG sndT sndG := by
  have e : (layP sndT [] 0).2 = sndG := by
    have := one_lay 2 (.inl rfl)
    show (layP ⟨2, 1, ⟨#[]⟩, [], [endT]⟩ [] 0).2 = _
    rw [this]; rfl
  have hs := (lay_gn snd_chk).shut
  rw [e] at hs
  have hc := cls_done hs (pat_split hs (pat_zero sndG)) (by kernel_rfl)
  exact ⟨snd_chk, _, by rw [e]; exact hc, by rw [e]; kernel_rfl⟩
theorem rcv_of : OFG rcvT rcvG := by
  have e : (layP rcvT [] 0).2 = rcvG := by
    have := one_lay 3 (.inr rfl)
    show (layP ⟨3, 1, ⟨#[]⟩, [], [endT]⟩ [] 0).2 = _
    rw [this]; rfl
  have hs := (lay_gn rcv_chk).shut
  rw [e] at hs
  have hc := cls_done hs (pat_split hs (pat_zero rcvG)) (by kernel_rfl)
  exact ⟨rcv_chk, _, by rw [e]; exact hc, by rw [e]; kernel_rfl⟩
end Go.Proofs.YtnlpnbelkkgghaaDoor

/-
  The contracts of the shelf's functions, in plain words. Conditions: none.
-/
namespace Go.Proofs
open Go.Shelf
def Tryd.laysNm215_ren : Go.Shelf.Ren := ⟨fun | 15 => 147 | n => n, fun | 22 => 39 | 3 => 3 | 4 => 4 | n => n, fun | n => n⟩
theorem Tryd.laysNm215 : Go.Proofs.Lays2.n15 Tryd.prog Tryd.laysNm215_ren := {
  mixed := by kernel_rfl
  f15 := Tryd.func147.trans (congrArg some (by kernel_rfl))
  t3 := Tryd.underlying3
  a3 := Tryd.isAgg3
  z3 := Tryd.sizeOf3
  v3 := Tryd.zeroValue3
  t4 := Tryd.underlying4
  a4 := Tryd.isAgg4
  z4 := Tryd.sizeOf4
  v4 := Tryd.zeroValue4
  t22 := Tryd.underlying39
  a22 := Tryd.isAgg39
  z22 := Tryd.sizeOf39
  v22 := Tryd.zeroValue39
  i3 := by kernel_rfl }
end Go.Proofs

/-
  The contracts of dual.Kind, slices.Clone of ints, dual.turnedTo and dual.keptTo.
-/
namespace Go.Proofs.YtnlpnbelkkgghaaDoor
open Go.RowKit Go.Shelf

set_option maxHeartbeats 1000000 in
theorem kind_any (z : Int) (w : World) : Calls Tryd.prog 26 #[.int .i64 z] w fun e w' => e = .returned (.int .i64 (kdD z)) ∧ w' = w := by
  by_cases h2 : z = 2
  · subst h2
    go_enter Tryd.func26, Tryd.ntmps26
    go_wp2_with fail
    go_ret
    exact ⟨rfl, rfl⟩
  by_cases h3 : z = 3
  · subst h3
    go_enter Tryd.func26, Tryd.ntmps26
    go_wp2_with fail
    go_ret
    exact ⟨rfl, rfl⟩
  by_cases h4 : z = 4
  · subst h4
    go_enter Tryd.func26, Tryd.ntmps26
    go_wp2_with fail
    go_ret
    exact ⟨rfl, rfl⟩
  by_cases h5 : z = 5
  · subst h5
    go_enter Tryd.func26, Tryd.ntmps26
    go_wp2_with fail
    go_ret
    exact ⟨rfl, rfl⟩
  by_cases h6 : z = 6
  · subst h6
    go_enter Tryd.func26, Tryd.ntmps26
    go_wp2_with fail
    go_ret
    exact ⟨rfl, rfl⟩
  by_cases h7 : z = 7
  · subst h7
    go_enter Tryd.func26, Tryd.ntmps26
    go_wp2_with fail
    go_ret
    exact ⟨rfl, rfl⟩
  have HK := hideK (show kdD z = z from by unfold kdD; rw [if_neg h2, if_neg h3, if_neg h4, if_neg h5, if_neg h6, if_neg h7])
  have b2 : (z == 2) = false := by simpa using h2
  have b3 : (z == 3) = false := by simpa using h3
  have b4 : (z == 4) = false := by simpa using h4
  have b5 : (z == 5) = false := by simpa using h5
  have b6 : (z == 6) = false := by simpa using h6
  have b7 : (z == 7) = false := by simpa using h7
  go_enter Tryd.func26, Tryd.ntmps26
  go_wp2_with fail
  go_ret
  exact ⟨by rw [HK.out]; rfl, rfl⟩
def iV (t : Nat) : Value := .int .i64 (t : Int)
/-- a row of ints that lies in memory, copied: a row of its own -/
theorem cloneI_any (ts : List Nat) (at1 : Option Addr) (ct B : Nat) (w : World) (h : NI w B ts at1) (hl : ts.length ≤ 1000) :
    Calls Tryd.prog 147 #[.slice at1 ts.length ct] w fun e w' => ∃ v, e = .returned v ∧ w'.ownsRow w.heap.size 3 1 v ts.length (ts.map iV) ∧ Below w.heap.size w w' := by
  rcases h with h | ⟨b, o, rfl, _, hc⟩
  · have : ts = [] := by simpa using h
    subst this
    cases at1 with
    | none =>
      refine (Any.slices_Clone_int_nil Tryd.laysNm215 _ ct w).mono ?_
      rintro e w' ⟨rfl, rfl⟩
      exact ⟨_, rfl, World.ownsRow_nil _ _ _ _, Below.refl _ _⟩
    | some a =>
      refine (Any.slices_Clone_int_zero Tryd.laysNm215 a ct w).mono ?_
      rintro e w' ⟨v, rfl, hO, _, hb⟩
      exact ⟨v, rfl, hO, hb⟩
  · refine (Any.slices_Clone_int Tryd.laysNm215 b o ts.length ct (ts.map fun t : Nat => (t : Int)) w (by simp) (by omega) ?_).mono ?_
    · intro j hj
      have hj' : j < ts.length := by simpa using hj
      rw [hc j (by simpa using hj')]
      simp [List.getD_eq_getElem?_getD, hj']
    · rintro e w' ⟨v, rfl, hO, _, hb⟩
      rw [List.take_of_length_le (by simp), List.map_map] at hO
      exact ⟨v, rfl, hO, hb⟩
/-- a list of ints in new memory -/
def NF (w W : World) (ts : List Nat) (a : Option Addr) : Prop := NP W (fun b => w.heap.size ≤ b ∧ b < W.heap.size) (ts.map fun t : Nat => Value.int .i64 (t : Int)) a
theorem cloneI_cells {w W : World} {v : Value} {ts : List Nat} (h : W.ownsRow w.heap.size 3 1 v ts.length (ts.map iV)) (h0 : 0 < ts.length) : ∃ b c, v = .slice (some ⟨b, 0, none⟩) ts.length c ∧ w.heap.size ≤ b ∧ b < W.heap.size ∧ (∀ j (hj : j < ts.length), W.cell? ⟨b, j, none⟩ = some (iV ts[j])) ∧ ∀ j, j < ts.length → W.frozen? ⟨b, j, none⟩ = false := by
  have hv : v ≠ .slice none 0 0 := by
    rintro rfl
    rcases h.2 with ⟨_, h⟩ | ⟨g, c, cur, h, _⟩
    · omega
    · cases h
  obtain ⟨g, cp, rfl, hbg, hgl, _, _, _, hH⟩ := Lib.holds_of_ownsRow h hv
  refine ⟨g, cp, rfl, hbg, hgl, fun j hj => ?_, fun j hj => ?_⟩
  · have := (hH j (by simpa using hj)).1
    rw [Nat.zero_add] at this
    rw [this]
    simp [hj]
  · have := (hH j (by simpa using hj)).2
    rw [Nat.zero_add] at this
    exact this
set_option maxRecDepth 100000 in
set_option maxHeartbeats 4000000 in
theorem keptTo_any (n : Nd) (N : Nat) (a1 a2 : Option Addr) (c1 c2 B : Nat) (w : World) (h2 : NI w B n.to a2) (hB : B ≤ w.heap.size) (h6 : n.to.length ≤ 6) (hN : N ≤ 1000) (ht : ∀ t ∈ n.to, t ≤ 1000) :
    Calls Tryd.prog 119 #[ndVal n a1 c1 a2 c2, .int .i64 (N : Int)] w fun e w' => (∃ a c, e = .returned (.slice a (keL n N).length c) ∧ NF w w' (keL n N) a) ∧ Below w.heap.size w w' := by
  have hA : Below w.heap.size w (w.alloc (.cells #[.int .i64 n.kind, .int .i64 n.so, .slice a1 n.labs.length c1, .slice a2 n.to.length c2] 41)) := (Below.refl _ _).alloc (Nat.le_refl _) _
  have b0 : NdAt (w.alloc (.cells #[.int .i64 n.kind, .int .i64 n.so, .slice a1 n.labs.length c1, .slice a2 n.to.length c2] 41)) w.heap.size 0 n a1 c1 a2 c2 := ⟨by go_cell, by go_cell, by go_cell, by go_cell⟩
  obtain ⟨x0, x1, x2, x3⟩ := b0
  simp only [Nat.zero_add] at x1 x2 x3
  have cC := cloneI_any n.to a2 c2 B _ (h2.keep (hA.mono hB)) (by omega)
  have hkl : (keL n N).length = n.to.length := by simp [keL]
  have HT := hideK ht
  have HA := hideK hA
  have hNz : (N : Int) ≤ 1000 := by omega
  have h6z : (n.to.length : Int) ≤ 6 := by omega
  rw [hkl]
  simp only [ndVal]
  clear h2 hA ht hkl
  go_enter Tryd.func119, Tryd.ntmps119
  go_wp2_with fail
  refine cC.mono ?_
  rintro e w1 ⟨v, rfl, hO, hb1⟩
  have HB1 := hideK (HA.out.trans (hb1.mono HA.out.size))
  clear cC x0 x1 x2 x3 hb1
  by_cases h0 : 0 < n.to.length
  · obtain ⟨b, c, rfl, hbl, hbg, hcell, hfz⟩ := cloneI_cells hO h0
    have hbl2 : w.heap.size ≤ b := Nat.le_trans HA.out.size hbl
    have HC := hideK hcell
    have HF := hideK hfz
    clear hO hcell hfz
    go_wp2_with fail
    go_loopw [12] (fun i wr => ∃ k : Nat, k ≤ n.to.length ∧ i = .int .i64 (k : Int) ∧ b < wr.heap.size ∧ (∀ j (hj : j < n.to.length), wr.cell? ⟨b, j, none⟩ = some (iV (if j < k then n.to[j] + N else n.to[j]))) ∧ (∀ j, j < n.to.length → wr.frozen? ⟨b, j, none⟩ = false) ∧ Below w.heap.size w wr) (fun i _ => n.to.length - (intOf i).toNat)
    case atStart => exact ⟨0, Nat.zero_le _, rfl, hbg, fun j hj => by rw [if_neg (by omega)]; exact HC.out j hj, HF.out, HB1.out⟩
    case round =>
      obtain ⟨k, hk, rfl, hbw, hcw, hfw, hb⟩ := hrel
      by_cases hlt : k < n.to.length
      · have hltz : (k : Int) < (n.to.length : Int) := by omega
        have d0 := hcw k hlt
        rw [if_neg (by omega)] at d0
        unfold iV at d0
        have d1 := hfw k hlt
        have htv := HT.out _ (List.getElem_mem hlt)
        have HCW := hideK (show ∀ j (hj : j < n.to.length), (wr.setCell ⟨b, k, none⟩ (.int .i64 (((n.to[k] + N : Nat) : Int)))).cell? ⟨b, j, none⟩ = some (iV (if j < k + 1 then n.to[j] + N else n.to[j])) from fun j hj => by
          by_cases e : j = k
          · subst e
            rw [if_pos (by omega)]
            exact World.cell?_setCell_same _ _ _ (hcw j hj)
          · rw [World.cell?_setCell_other _ _ _ _ (by intro q; injection q with _ q; exact e q.symm), hcw j hj]
            by_cases q : j < k
            · rw [if_pos q, if_pos (by omega)]
            · rw [if_neg q, if_neg (by omega)])
        have HFW := hideK (show ∀ j, j < n.to.length → (wr.setCell ⟨b, k, none⟩ (.int .i64 (((n.to[k] + N : Nat) : Int)))).frozen? ⟨b, j, none⟩ = false from fun j hj => (World.frozen?_setCell _ _ _ _).trans (hfw j hj))
        have HBW := hideK (show Below w.heap.size w (wr.setCell ⟨b, k, none⟩ (.int .i64 (((n.to[k] + N : Nat) : Int)))) from hb.setCell (by show w.heap.size ≤ b; exact hbl2) _)
        clear hcw hfw hb
        generalize n.to[k] = tv at *
        have htz : (tv : Int) ≤ 1000 := by omega
        simp only [Int.natCast_add] at HCW HFW HBW
        go_wp2_with fail
        go_roundw
        case rel => exact ⟨k + 1, by omega, by go_num, by simpa using hbw, HCW.out, HFW.out, HBW.out⟩
        case measure => simp [intOf]; omega
      · have hltz : ¬ (k : Int) < (n.to.length : Int) := by omega
        have hke : k = n.to.length := by omega
        subst hke
        have HNF := hideK (show NF w wr (keL n N) (some ⟨b, 0, none⟩) from .inr ⟨b, 0, rfl, ⟨hbl2, hbw⟩, fun i hi => by
          have hi' : i < n.to.length := by simpa [keL] using hi
          rw [Nat.zero_add, hcw i hi', if_pos hi']
          simp [keL, iV]⟩)
        have HB := hideK hb
        clear hcw hfw hb
        go_wp2_with fail
        go_ret
        exact ⟨⟨some ⟨b, 0, none⟩, ⟨c, rfl⟩, HNF.out⟩, HB.out⟩
  · have hz : n.to = [] := List.length_eq_zero_iff.1 (by omega)
    have hl0 : n.to.length = 0 := by omega
    have HNF := hideK (show ∀ a, NF w w1 (keL n N) a from fun a => .inl (by unfold keL; rw [hz]; rfl))
    obtain ⟨va, vc, rfl⟩ := sliceH_own hO
    rw [hl0]
    clear hO hz HT h0
    go_wp2_with fail
    go_loopw [12] (fun i wr => i = .int .i64 0 ∧ wr = w1) (fun _ _ => 0)
    case atStart => exact ⟨rfl, rfl⟩
    case round =>
      obtain ⟨rfl, rfl⟩ := hrel
      go_wp2_with fail
      go_ret
      exact ⟨⟨va, vc, by rw [hl0]; rfl, HNF.out _⟩, HB1.out⟩
set_option maxRecDepth 100000 in
set_option maxHeartbeats 4000000 in
theorem turnedTo_any (n : Nd) (N : Nat) (a1 a2 : Option Addr) (c1 c2 B : Nat) (w : World) (h2 : NI w B n.to a2) (hB : B ≤ w.heap.size) (hn : okN n) (hN : N ≤ 1000) (ht : ∀ t ∈ n.to, t ≤ 1000) :
    Calls Tryd.prog 118 #[ndVal n a1 c1 a2 c2, .int .i64 (N : Int)] w fun e w' => (∃ a c, e = .returned (.slice a (tuL n N).length c) ∧ NF w w' (tuL n N) a) ∧ Below w.heap.size w w' := by
  have h6 := (shp_len (okN_shp hn)).2.1
  have hA : Below w.heap.size w (w.alloc (.cells #[.int .i64 n.kind, .int .i64 n.so, .slice a1 n.labs.length c1, .slice a2 n.to.length c2] 41)) := (Below.refl _ _).alloc (Nat.le_refl _) _
  have b0 : NdAt (w.alloc (.cells #[.int .i64 n.kind, .int .i64 n.so, .slice a1 n.labs.length c1, .slice a2 n.to.length c2] 41)) w.heap.size 0 n a1 c1 a2 c2 := ⟨by go_cell, by go_cell, by go_cell, by go_cell⟩
  have cC := cloneI_any n.to a2 c2 B _ (h2.keep (hA.mono hB)) (by omega)
  have HB0 := hideK b0
  obtain ⟨x0, x1, x2, x3⟩ := b0
  simp only [Nat.zero_add] at x1 x2 x3
  have HA := hideK hA
  have hNz : (N : Int) ≤ 1000 := by omega
  rw [tuL_len]
  simp only [ndVal]
  by_cases hk : n.kind = 4 ∨ n.kind = 5
  · have hl2 : n.to.length = 2 := by
      rcases okN_cases hn with ⟨q, _⟩ | ⟨q, _⟩ | ⟨_, _, _, q⟩ | ⟨q, _⟩ <;> omega
    have HTU := hideK (show ∀ a b, n.to = [a, b] → tuL n N = [a + N, b] from fun a b e => by unfold tuL; rw [if_pos hk, e])
    obtain ⟨ta, tb, hto⟩ : ∃ ta tb, n.to = [ta, tb] := by
      match hq : n.to, hl2 with
      | [a, b], _ => exact ⟨a, b, rfl⟩
    have hta := ht ta (by rw [hto]; exact .head _)
    have htz : (ta : Int) ≤ 1000 := by omega
    have HTO := hideK hto
    have hkb : (n.kind == 4) = true ∨ ((n.kind == 4) = false ∧ (n.kind == 5) = true) := by
      rcases hk with h | h
      · exact .inl (by rw [h]; rfl)
      · exact .inr ⟨by rw [h]; rfl, by rw [h]; rfl⟩
    have HL := hideK hl2
    clear h2 hA ht hto hk hn hl2
    rcases hkb with k4 | ⟨k4, k5⟩
    all_goals
      go_enter Tryd.func118, Tryd.ntmps118
      go_wp2_with fail
      refine cC.mono ?_
      rintro e w1 ⟨v, rfl, hO, hb1⟩
      have hl2 := HL.out
      have HB1 := hideK (HA.out.trans (hb1.mono HA.out.size))
      obtain ⟨y0, y1, y2, y3⟩ := HB0.out.keep hb1 (by simp)
      simp only [Nat.zero_add] at y1 y2 y3
      obtain ⟨b, c, rfl, hbl, hbg, hcell, hfz⟩ := cloneI_cells hO (by omega)
      have hbl2 : w.heap.size ≤ b := Nat.le_trans HA.out.size hbl
      have d0 := hcell 0 (by omega)
      have d1 := hcell 1 (by omega)
      have f0 := hfz 0 (by omega)
      simp only [HTO.out, iV] at d0 d1
      simp only [List.getElem_cons_zero, List.getElem_cons_succ] at d0 d1
      have HNF := hideK (show NF w (w1.setCell ⟨b, 0, none⟩ (.int .i64 ((ta : Int) + (N : Int)))) (tuL n N) (some ⟨b, 0, none⟩) from .inr ⟨b, 0, rfl, ⟨hbl2, by simpa using hbg⟩, fun i hi => by
        rw [HTU.out ta tb HTO.out] at hi
        simp only [HTU.out ta tb HTO.out]
        have hi2 : i = 0 ∨ i = 1 := by simp at hi; omega
        rcases hi2 with rfl | rfl
        · rw [World.cell?_setCell_same _ _ _ d0]; simp
        · rw [World.cell?_setCell_other _ _ _ _ (by intro q; injection q with _ q; omega)]; exact d1⟩)
      have HBS := hideK (show Below w.heap.size w (w1.setCell ⟨b, 0, none⟩ (.int .i64 ((ta : Int) + (N : Int)))) from HB1.out.setCell (by show w.heap.size ≤ b; exact hbl2) _)
      clear cC hO hcell hfz hb1 x0 x1 x2 x3
      go_wp2_with fail
      go_ret
      exact ⟨⟨some ⟨b, 0, none⟩, c, by first | rfl | (rw [hl2]; rfl), HNF.out⟩, HBS.out⟩
  · have HTU := hideK (show tuL n N = n.to from by unfold tuL; rw [if_neg hk])
    have k4 : (n.kind == 4) = false := by simpa using fun q => hk (.inl q)
    have k5 : (n.kind == 5) = false := by simpa using fun q => hk (.inr q)
    clear h2 hA ht hk hn
    go_enter Tryd.func118, Tryd.ntmps118
    go_wp2_with fail
    refine cC.mono ?_
    rintro e w1 ⟨v, rfl, hO, hb1⟩
    have HB1 := hideK (HA.out.trans (hb1.mono HA.out.size))
    obtain ⟨y0, y1, y2, y3⟩ := HB0.out.keep hb1 (by simp)
    simp only [Nat.zero_add] at y1 y2 y3
    have HNF := hideK (show ∃ a c, v = .slice a n.to.length c ∧ NF w w1 (tuL n N) a from by
      rw [HTU.out]
      rcases own_cells hO with ⟨rfl, h0, _⟩ | ⟨g, cap, rfl, hg1, hg, hc⟩
      · exact ⟨none, 0, by rw [h0], .inl (by rw [List.length_eq_zero_iff.1 h0]; rfl)⟩
      · refine ⟨_, _, rfl, .inr ⟨g, 0, rfl, ⟨Nat.le_trans HA.out.size hg1, hg⟩, fun i hi => ?_⟩⟩
        rw [Nat.zero_add]
        exact hc i _ (List.getElem?_eq_getElem hi))
    obtain ⟨va, vc, rfl, hnf⟩ := HNF.out
    have HN2 := hideK hnf
    clear cC hO hb1 x0 x1 x2 x3 HNF hnf
    go_wp2_with fail
    go_ret
    exact ⟨⟨va, vc, rfl, HN2.out⟩, HB1.out⟩
end Go.Proofs.YtnlpnbelkkgghaaDoor
