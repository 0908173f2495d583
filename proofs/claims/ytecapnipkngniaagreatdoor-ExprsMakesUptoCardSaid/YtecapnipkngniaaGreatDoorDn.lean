/-
  The law ExprsMakes of an expression that is right.
-/
import Derived.Test.YtecapnipkngniaaGreatDoorDm
import Derived.Test.YtecapnipkngniaaGreatDoorPe
import Derived.Deep.RegionHeld3
namespace Go.Proofs.YtecapnipkngniaaGreatDoor
open Go.RowKit Go.Shelf Go.Sort

theorem take_oneH {P : Program} {ops : Array Oper} {md : Region.Mode} {Q : Exit → Act → World → Prop} {S : World → Prop} {fuel : Nat} {listed : Array Bool} {a : Act} {w : World} (i : Nat) (h : AllReadyH P md ops Q S fuel listed a w [i]) (hr : Region.ready md ops listed = [i]) : wpAnyH P md ops Q S (fuel + 1) listed a w := wpAnyH_ready hr (by simp) h

set_option maxRecDepth 100000 in
set_option maxHeartbeats 8000000 in
theorem makes_good (d : Nat) (x yp yf : Ex) (ns : List ByteArray) (ao ae : Option Addr) (cap n ce : Nat) (nm : ByteArray) (v r : Vl) (er z : Int) (w : World) (hnl : ns.length ≤ 9223372036854775806) (hz : z = 0) (her : er ≠ 0 → r = ⟨0, 0, ⟨#[]⟩⟩)
    (cR : CQ 4 #[exVal x ao cap] w (.int .i64 0)) (cE : CQ 5 #[exVal x ao cap, .slice ae n ce] w (.tuple #[vlV r, .int .i64 er])) (cF : CQ 6 #[exVal x ao cap, .slice ae n ce] w (.tuple #[vlV r, .int .i64 er]))
    (cV : CQ 8 #[vlV v] w (.int .i64 z))
    (cA : ∀ W, Below w.heap.size w W → Calls Tryz.prog 9 #[exVal x ao cap, .string nm, vlV v] W fun e w' => (∃ ao' cap', e = .returned (exVal yp ao' cap') ∧ KR w' (fun b => W.heap.size ≤ b ∧ b < w'.heap.size) d yp.kids ao' ∧ ExBd yp cap') ∧ Below W.heap.size W w')
    (cB : ∀ W, Below w.heap.size w W → Calls Tryz.prog 10 #[exVal x ao cap] W fun e w' => (∃ ao' cap', e = .returned (exVal yf ao' cap') ∧ KR w' (fun b => W.heap.size ≤ b ∧ b < w'.heap.size) d yf.kids ao' ∧ ExBd yf cap') ∧ Below W.heap.size W w')
    (cC : ∀ W, Below w.heap.size w W → Calls Tryz.prog 11 #[exVal x ao cap] W fun e w' => ∃ u, e = .returned u ∧ w'.ownsRow W.heap.size 9 1 u ns.length (ns.map Value.string) ∧ Below W.heap.size W w')
    (cP : ∀ W, Below w.heap.size w W → Calls Tryz.prog 12 #[exVal x ao cap, .string nm, vlV v] W fun e w' => (∃ ao' cap', e = .returned (.tuple #[exVal yp ao' cap', .int .i64 0]) ∧ KA w' w'.heap.size d yp.kids ao' ∧ ExBd yp cap') ∧ Below W.heap.size W w')
    (cN : ∀ W, Below w.heap.size w W → Calls Tryz.prog 13 #[exVal x ao cap] W fun e w' => ∃ u, e = .returned (.tuple #[u, .int .i64 0]) ∧ w'.ownsRow W.heap.size 9 1 u ns.length (ns.map Value.string) ∧ Below W.heap.size W w')
    (cG : ∀ W, Below w.heap.size w W → Calls Tryz.prog 14 #[exVal x ao cap] W fun e w' => (∃ ao' cap', e = .returned (.tuple #[exVal yf ao' cap', .int .i64 0]) ∧ KA w' w'.heap.size d yf.kids ao' ∧ ExBd yf cap') ∧ Below W.heap.size W w') :
    Calls Tryz.prog 3 #[exVal x ao cap, .slice ae n ce, .string nm, vlV v] w fun e w' => e = .returned (.bool true) ∧ Below w.heap.size w w' := by
  subst hz
  have cY := fun (W : World) a1 c1 a2 c2 h1 h2 k1 k2 => lawExpr_two yp d d a1 a2 c1 c2 W.heap.size W h1 h2 k1 k2 (Nat.le_refl _)
  simp only [exVal] at cY
  have CY := hideC cY
  clear cY
  have cX := fun (W : World) a1 c1 a2 c2 h1 h2 k1 k2 => lawExpr_two yf d d a1 a2 c1 c2 W.heap.size W h1 h2 k1 k2 (Nat.le_refl _)
  have cL := fun (W : World) (v1 v2 : Value) (b1 b2 : Nat) h1 h2 => lawList_same ns v1 v2 b1 b2 W hnl h1 h2
  simp only [exVal, vlV] at cV cA cB cC cP cN cG cX
  have CV := hideC cV
  have CA := hideC cA
  have CB := hideC cB
  have CC := hideC cC
  have CP := hideC cP
  have CN := hideC cN
  have CG := hideC cG
  have CX := hideC cX
  have CL := hideC cL
  clear cV cA cB cC cP cN cG cX cL hnl
  have t0 := LQ.new w x ao cap v
  have cO := fun (W : World) => oneVl_any r er W her
  simp only [exVal, vlV] at cR cE cF cO ⊢
  have CR := hideC cR
  have CE := hideC cE
  have CF := hideC cF
  have CO := hideC cO
  clear cR cE cF cO her
  have T0 := hideC t0
  go_enter Tryz.func3, Tryz.ntmps3
  obtain ⟨x0, x1, x2, x3, x4, x5, y0, y1, y2⟩ := t0.cells
  clear t0
  go_wp2_with fail
  refine (CR.out _ T0.out.bl).mono ?_
  rintro e w1 ⟨rfl, hb⟩
  have T1 := hideC (T0.out.keep hb)
  clear x0 x1 x2 x3 x4 x5 y0 y1 y2 hb T0 CR
  obtain ⟨x0, x1, x2, x3, x4, x5, y0, y1, y2⟩ := T1.out.cells
  go_wp2_with fail
  refine (CE.out _ T1.out.bl).mono ?_
  rintro e w2 ⟨rfl, hb⟩
  have T2 := hideC ((T1.out.keep hb).al (.cells #[.int .i64 r.so, .int .i64 r.n, .string r.s] 23))
  have A2 := hideC (Box.new w2 r.so r.n r.s 23)
  clear x0 x1 x2 x3 x4 x5 y0 y1 y2 hb T1 CE
  obtain ⟨x0, x1, x2, x3, x4, x5, y0, y1, y2⟩ := T2.out.cells
  go_wp2_with fail
  refine (CF.out _ T2.out.bl).mono ?_
  rintro e w3 ⟨rfl, hb⟩
  have T3 := hideC ((T2.out.keep hb).al (.cells #[.int .i64 r.so, .int .i64 r.n, .string r.s] 23))
  have A3 := hideC ((A2.out.keep hb).keep ((Below.refl _ _).alloc (Nat.le_refl _) (.cells #[.int .i64 r.so, .int .i64 r.n, .string r.s] 23)))
  have B3 := hideC (Box.new w3 r.so r.n r.s 23)
  clear x0 x1 x2 x3 x4 x5 y0 y1 y2 hb T2 CF A2
  obtain ⟨_, a0, a1, a2⟩ := A3.out
  obtain ⟨_, b0, b1, b2⟩ := B3.out
  go_wp2_with fail
  refine (CO.out _).mono ?_
  rintro e w4 ⟨rfl, hb⟩
  have T4 := hideC (T3.out.keep hb)
  clear hb T3 CO A3 B3 a0 a1 a2 b0 b1 b2
  obtain ⟨x0, x1, x2, x3, x4, x5, y0, y1, y2⟩ := T4.out.cells
  go_wp2_with fail
  refine (CV.out _ T4.out.bl).mono ?_
  rintro e w5 ⟨rfl, hb⟩
  have T5 := hideC (((T4.out.keep hb).al (.cells #[.int .i64 0, .string ⟨#[]⟩, .int .i64 0, .int .i64 0, .string ⟨#[]⟩, .slice none 0 0] 26)).al (.cells #[.int .i64 0, .string ⟨#[]⟩, .int .i64 0, .int .i64 0, .string ⟨#[]⟩, .slice none 0 0] 26))
  have P5 := hideC ((ZE.new w5 26).keep ((Below.refl _ _).alloc (Nat.le_refl _) (.cells #[.int .i64 0, .string ⟨#[]⟩, .int .i64 0, .int .i64 0, .string ⟨#[]⟩, .slice none 0 0] 26)))
  have q5 := ZE.new (w5.alloc (.cells #[.int .i64 0, .string ⟨#[]⟩, .int .i64 0, .int .i64 0, .string ⟨#[]⟩, .slice none 0 0] 26)) 26
  rw [World.size_alloc] at q5
  have Q5 := hideC q5
  clear q5
  have hl5 : w.heap.size + 1 < w5.heap.size := (T4.out.keep hb).lt
  clear x0 x1 x2 x3 x4 x5 y0 y1 y2 T4 hb CV
  obtain ⟨x0, x1, x2, x3, x4, x5, y0, y1, y2⟩ := T5.out.cells
  go_wp2_with fail
  clear x0 x1 x2 x3 x4 x5 y0 y1 y2
  refine wp_region_held_drew (S := LQ w x ao cap v) (by kernel_rfl) T5.out.dr (fun hS => ?_)
  refine wpAnyH_take (i := 0) (v := .agg #[.int .i64 x.kind, .string x.name, .int .i64 x.so, .int .i64 x.n, .string x.s, .slice ao x.kids.length cap]) rfl (by kernel_rfl) (by kernel_rfl) (by kernel_rfl) (fun _ _ _ h => h) (Or.inl ⟨by rfl, fun W hW => by obtain ⟨x0, x1, x2, x3, x4, x5, y0, y1, y2⟩ := hW.cells; go_simp⟩) hS ?_
  refine wpAnyH_take (i := 1) (v := .string nm) rfl (by kernel_rfl) (by kernel_rfl) (by kernel_rfl) (fun _ _ _ h => h) (Or.inl ⟨by rfl, fun W hW => by obtain ⟨x0, x1, x2, x3, x4, x5, y0, y1, y2⟩ := hW.cells; go_simp⟩) hS ?_
  refine wpAnyH_take (i := 2) (v := .agg #[.int .i64 v.so, .int .i64 v.n, .string v.s]) rfl (by kernel_rfl) (by kernel_rfl) (by kernel_rfl) (fun _ _ _ h => h) (Or.inl ⟨by rfl, fun W hW => by obtain ⟨x0, x1, x2, x3, x4, x5, y0, y1, y2⟩ := hW.cells; go_simp⟩) hS ?_
  refine wpAnyH_take (i := 4) (v := .agg #[.int .i64 x.kind, .string x.name, .int .i64 x.so, .int .i64 x.n, .string x.s, .slice ao x.kids.length cap]) rfl (by kernel_rfl) (by kernel_rfl) (by kernel_rfl) (fun _ _ _ h => h) (Or.inl ⟨by rfl, fun W hW => by obtain ⟨x0, x1, x2, x3, x4, x5, y0, y1, y2⟩ := hW.cells; go_simp⟩) hS ?_
  refine wpAnyH_take (i := 6) (v := .agg #[.int .i64 x.kind, .string x.name, .int .i64 x.so, .int .i64 x.n, .string x.s, .slice ao x.kids.length cap]) rfl (by kernel_rfl) (by kernel_rfl) (by kernel_rfl) (fun _ _ _ h => h) (Or.inl ⟨by rfl, fun W hW => by obtain ⟨x0, x1, x2, x3, x4, x5, y0, y1, y2⟩ := hW.cells; go_simp⟩) hS ?_
  clear hS
  refine take_oneH 3 (AllReadyH.cons rfl (fun K hK => ?_) AllReadyH.nil) (by kernel_rfl)
  go_simp
  refine (CA.out _ T5.out.dr.bl).mono ?_
  rintro e w6 ⟨⟨aop, capp, rfl, hkr, hbd⟩, hb⟩
  have T6 := hideC (T5.out.dr.keep hb)
  have P6 := hideC ((P5.out.keep (Below.refl _ _).drew).keep hb)
  have Q6 := hideC ((Q5.out.keep (Below.refl _ _).drew).keep hb)
  have hs6 : w5.heap.size + 2 ≤ w6.heap.size := by have := hb.size; simp at this; omega
  have K6 := hideC (hkr.keep (Q := fun b => w5.heap.size + 1 < b ∧ b < w6.heap.size) (fun _ _ _ => rfl) (fun b hq => ⟨by have := hq.1; simp at this; omega, hq.2⟩))
  have D6 := hideC hbd
  clear hkr hbd hb T5 P5 Q5
  refine hK.out _ _ T6.out (fun _ => ?_)
  clear hK K
  refine take_oneH 5 (AllReadyH.cons rfl (fun K hK => ?_) AllReadyH.nil) (by kernel_rfl)
  go_simp
  refine (CB.out _ T6.out.bl).mono ?_
  rintro e w7 ⟨⟨aof, capf, rfl, hkr, hbd⟩, hb⟩
  have T7 := hideC (T6.out.keep hb)
  have P7 := hideC (P6.out.keep hb)
  have Q7 := hideC (Q6.out.keep hb)
  have hs7 : w5.heap.size + 2 ≤ w7.heap.size := by have := hb.size; omega
  have K7 := hideC (K6.out.keep (Q := fun b => w5.heap.size + 1 < b ∧ b < w7.heap.size) (fun b o hq => hb.cell (p := ⟨b, o, none⟩) hq.2) (fun b hq => ⟨hq.1, Nat.lt_of_lt_of_le hq.2 hb.size⟩))
  have L7 := hideC (hkr.keep (Q := fun b => w5.heap.size + 1 < b ∧ b < w7.heap.size) (fun _ _ _ => rfl) (fun b hq => ⟨by have := hq.1; omega, hq.2⟩))
  have E7 := hideC hbd
  clear hkr hbd hb T6 P6 Q6 K6
  refine hK.out _ _ T7.out (fun _ => ?_)
  clear hK K
  refine take_oneH 7 (AllReadyH.cons rfl (fun K hK => ?_) AllReadyH.nil) (by kernel_rfl)
  go_simp
  refine (CC.out _ T7.out.bl).mono ?_
  rintro e w8 ⟨un, rfl, hO, hb⟩
  have T8 := hideC (T7.out.keep hb)
  have P8 := hideC (P7.out.keep hb)
  have Q8 := hideC (Q7.out.keep hb)
  have hs8 : w5.heap.size + 2 ≤ w8.heap.size := by have := hb.size; omega
  have K8 := hideC (K7.out.keep (Q := fun b => w5.heap.size + 1 < b ∧ b < w8.heap.size) (fun b o hq => hb.cell (p := ⟨b, o, none⟩) hq.2) (fun b hq => ⟨hq.1, Nat.lt_of_lt_of_le hq.2 hb.size⟩))
  have L8 := hideC (L7.out.keep (Q := fun b => w5.heap.size + 1 < b ∧ b < w8.heap.size) (fun b o hq => hb.cell (p := ⟨b, o, none⟩) hq.2) (fun b hq => ⟨hq.1, Nat.lt_of_lt_of_le hq.2 hb.size⟩))
  have O8 := hideC (own_mono hO hs7)
  clear hO hb T7 P7 Q7 K7 L7
  have T9 := hideC (T8.out.st w5.heap.size hl5 (.int .i64 yp.kind) (.string yp.name) (.int .i64 yp.so) (.int .i64 yp.n) (.string yp.s) (.slice aop yp.kids.length capp))
  have T10 := hideC (T9.out.st (w5.heap.size + 1) (by omega) (.int .i64 yf.kind) (.string yf.name) (.int .i64 yf.so) (.int .i64 yf.n) (.string yf.s) (.slice aof yf.kids.length capf))
  have PX := hideC (st6_atQ w8 w5.heap.size yp aop capp P8.out)
  have Q9 := hideC (Q8.out.keepO (W' := (st6 w8 w5.heap.size 0 (.int .i64 yp.kind) (.string yp.name) (.int .i64 yp.so) (.int .i64 yp.n) (.string yp.s) (.slice aop yp.kids.length capp))) (by rw [st6_size]; omega) (fun o => st6_other _ _ _ _ _ _ _ _ _ _ _ (.inl (by omega))) (fun o => st6_frozen _ _ _ _ _ _ _ _ _ _))
  have FX := hideC (st6_atQ (st6 w8 w5.heap.size 0 (.int .i64 yp.kind) (.string yp.name) (.int .i64 yp.so) (.int .i64 yp.n) (.string yp.s) (.slice aop yp.kids.length capp)) (w5.heap.size + 1) yf aof capf Q9.out)
  obtain ⟨_, p0, p1, p2, p3, p4, p5, pf⟩ := P8.out
  have pf0 := pf 0
  have pf1 := pf 1
  have pf2 := pf 2
  have pf3 := pf 3
  have pf4 := pf 4
  have pf5 := pf 5
  obtain ⟨_, q0, q1, q2, q3, q4, q5, qf⟩ := Q9.out
  have qf0 := qf 0
  have qf1 := qf 1
  have qf2 := qf 2
  have qf3 := qf 3
  have qf4 := qf 4
  have qf5 := qf 5
  unfold st6 at q0 q1 q2 q3 q4 q5 qf0 qf1 qf2 qf3 qf4 qf5
  clear pf qf
  refine hK.out _ _ T8.out (fun _ => ?_)
  clear hK K
  refine take_oneH 8 (AllReadyH.cons rfl (fun K hK => ?_) AllReadyH.nil) (by kernel_rfl)
  go_simp
  refine hK.out _ _ T9.out (fun _ => ?_)
  clear hK K p0 p1 p2 p3 p4 p5 pf0 pf1 pf2 pf3 pf4 pf5
  refine take_oneH 9 (AllReadyH.cons rfl (fun K hK => ?_) AllReadyH.nil) (by kernel_rfl)
  go_simp
  refine hK.out _ _ T10.out (fun _ => ?_)
  clear hK K q0 q1 q2 q3 q4 q5 qf0 qf1 qf2 qf3 qf4 qf5
  refine take_oneH 10 (AllReadyH.cons rfl (fun K hK => ?_) AllReadyH.nil) (by kernel_rfl)
  go_simp
  refine hK.out _ _ T10.out (fun _ => ?_)
  clear hK K
  refine wpAnyH_done (by kernel_rfl) ?_ _
  obtain ⟨W9, hW9⟩ : ∃ W, W = (st6 (st6 w8 w5.heap.size 0 (.int .i64 yp.kind) (.string yp.name) (.int .i64 yp.so) (.int .i64 yp.n) (.string yp.s) (.slice aop yp.kids.length capp)) (w5.heap.size + 1) 0 (.int .i64 yf.kind) (.string yf.name) (.int .i64 yf.so) (.int .i64 yf.n) (.string yf.s) (.slice aof yf.kids.length capf)) := ⟨_, rfl⟩
  have hz9 : W9.heap.size = w8.heap.size := by rw [hW9, st6_size, st6_size]
  have hc9 : ∀ b o, w5.heap.size + 1 < b → W9.cell? ⟨b, o, none⟩ = w8.cell? ⟨b, o, none⟩ := fun b o hq => by rw [hW9, st6_other _ _ _ _ _ _ _ _ _ _ _ (.inl (by omega)), st6_other _ _ _ _ _ _ _ _ _ _ _ (.inl (by omega))]
  have TA := hideC (show LQ w x ao cap v W9 from hW9 ▸ T10.out)
  have PA := hideC (show XQ W9 w5.heap.size yp aop capp from ⟨by rw [hz9]; omega, (hW9 ▸ PX.out.keepO (fun o => st6_other _ _ _ _ _ _ _ _ _ _ _ (.inl (by omega))))⟩)
  have FA := hideC (show XQ W9 (w5.heap.size + 1) yf aof capf from ⟨by rw [hz9]; omega, hW9 ▸ FX.out⟩)
  have KPA := hideC ((K8.out.keep (W' := W9) (Q := fun b => b < W9.heap.size) (fun b o hq => hc9 b o hq.1) (fun b hq => by rw [hz9]; exact hq.2)).toKA (B := W9.heap.size) (fun b hb => hb))
  have KFA := hideC ((L8.out.keep (W' := W9) (Q := fun b => b < W9.heap.size) (fun b o hq => hc9 b o hq.1) (fun b hq => by rw [hz9]; exact hq.2)).toKA (B := W9.heap.size) (fun b hb => hb))
  have OA := hideC (show W9.ownsRow (w5.heap.size + 2) 9 1 un ns.length (ns.map Value.string) from hW9 ▸ own_st6Q (own_st6Q O8.out _ (by omega) _ _ _ _ _ _) _ (by omega) _ _ _ _ _ _)
  unfold st6 at hW9
  rw [← hW9]
  clear hW9 hz9 hc9 T8 T9 T10 PX FX K8 L8 O8 P8 Q8 Q9 hs6 hs7 hs8
  obtain ⟨x0, x1, x2, x3, x4, x5, y0, y1, y2⟩ := TA.out.cells
  go_wp2_with fail
  refine (CP.out _ TA.out.bl).mono ?_
  rintro e w10 ⟨⟨ao3, cap3, rfl, hk3, hb3⟩, hb⟩
  have TB := hideC ((TA.out.keep hb).al (.cells #[.int .i64 yp.kind, .string yp.name, .int .i64 yp.so, .int .i64 yp.n, .string yp.s, .slice ao3 yp.kids.length cap3] 26))
  have PB := hideC ((PA.out.keep hb).al (.cells #[.int .i64 yp.kind, .string yp.name, .int .i64 yp.so, .int .i64 yp.n, .string yp.s, .slice ao3 yp.kids.length cap3] 26))
  have FB := hideC ((FA.out.keep hb).al (.cells #[.int .i64 yp.kind, .string yp.name, .int .i64 yp.so, .int .i64 yp.n, .string yp.s, .slice ao3 yp.kids.length cap3] 26))
  have KPB := hideC (ka_up (ka_up KPA.out hb) ((Below.refl _ _).alloc (Nat.le_refl _) (.cells #[.int .i64 yp.kind, .string yp.name, .int .i64 yp.so, .int .i64 yp.n, .string yp.s, .slice ao3 yp.kids.length cap3] 26)))
  have KFB := hideC (ka_up (ka_up KFA.out hb) ((Below.refl _ _).alloc (Nat.le_refl _) (.cells #[.int .i64 yp.kind, .string yp.name, .int .i64 yp.so, .int .i64 yp.n, .string yp.s, .slice ao3 yp.kids.length cap3] 26)))
  have OB := hideC (own_below (own_below OA.out hb) ((Below.refl _ _).alloc (Nat.le_refl _) (.cells #[.int .i64 yp.kind, .string yp.name, .int .i64 yp.so, .int .i64 yp.n, .string yp.s, .slice ao3 yp.kids.length cap3] 26)))
  have RB := hideC (XQ.new w10 yp ao3 cap3)
  have KRB := hideC (ka_up hk3 ((Below.refl _ _).alloc (Nat.le_refl _) (.cells #[.int .i64 yp.kind, .string yp.name, .int .i64 yp.so, .int .i64 yp.n, .string yp.s, .slice ao3 yp.kids.length cap3] 26)))
  have D3 := hideC hb3
  clear hk3 hb3
  clear x0 x1 x2 x3 x4 x5 y0 y1 y2 hb TA PA FA KPA KFA OA CP
  obtain ⟨x0, x1, x2, x3, x4, x5, y0, y1, y2⟩ := TB.out.cells
  go_wp2_with fail
  refine (CN.out _ TB.out.bl).mono ?_
  rintro e w11 ⟨uq, rfl, hO, hb⟩
  have TC := hideC (TB.out.keep hb)
  have PC := hideC (PB.out.keep hb)
  have FC := hideC (FB.out.keep hb)
  have KPC := hideC (ka_up KPB.out hb)
  have KFC := hideC (ka_up KFB.out hb)
  have OC := hideC (own_below OB.out hb)
  have RC := hideC (RB.out.keep hb)
  have KRC := hideC (ka_up KRB.out hb)
  have UC := hideC hO
  clear x0 x1 x2 x3 x4 x5 y0 y1 y2 hb hO TB PB FB KPB KFB OB RB CN KRB
  obtain ⟨x0, x1, x2, x3, x4, x5, y0, y1, y2⟩ := TC.out.cells
  go_wp2_with fail
  refine (CG.out _ TC.out.bl).mono ?_
  rintro e w12 ⟨⟨ao4, cap4, rfl, hk4, hb4⟩, hb⟩
  have TD := hideC ((TC.out.keep hb).al (.cells #[.int .i64 yf.kind, .string yf.name, .int .i64 yf.so, .int .i64 yf.n, .string yf.s, .slice ao4 yf.kids.length cap4] 26))
  have PD := hideC ((PC.out.keep hb).al (.cells #[.int .i64 yf.kind, .string yf.name, .int .i64 yf.so, .int .i64 yf.n, .string yf.s, .slice ao4 yf.kids.length cap4] 26))
  have FD := hideC ((FC.out.keep hb).al (.cells #[.int .i64 yf.kind, .string yf.name, .int .i64 yf.so, .int .i64 yf.n, .string yf.s, .slice ao4 yf.kids.length cap4] 26))
  have KPD := hideC (ka_up (ka_up KPC.out hb) ((Below.refl _ _).alloc (Nat.le_refl _) (.cells #[.int .i64 yf.kind, .string yf.name, .int .i64 yf.so, .int .i64 yf.n, .string yf.s, .slice ao4 yf.kids.length cap4] 26)))
  have KFD := hideC (ka_up (ka_up KFC.out hb) ((Below.refl _ _).alloc (Nat.le_refl _) (.cells #[.int .i64 yf.kind, .string yf.name, .int .i64 yf.so, .int .i64 yf.n, .string yf.s, .slice ao4 yf.kids.length cap4] 26)))
  have OD := hideC (own_below (own_below OC.out hb) ((Below.refl _ _).alloc (Nat.le_refl _) (.cells #[.int .i64 yf.kind, .string yf.name, .int .i64 yf.so, .int .i64 yf.n, .string yf.s, .slice ao4 yf.kids.length cap4] 26)))
  have UD := hideC (own_below (own_below UC.out hb) ((Below.refl _ _).alloc (Nat.le_refl _) (.cells #[.int .i64 yf.kind, .string yf.name, .int .i64 yf.so, .int .i64 yf.n, .string yf.s, .slice ao4 yf.kids.length cap4] 26)))
  have RD := hideC ((RC.out.keep hb).al (.cells #[.int .i64 yf.kind, .string yf.name, .int .i64 yf.so, .int .i64 yf.n, .string yf.s, .slice ao4 yf.kids.length cap4] 26))
  have KRD := hideC (ka_up (ka_up KRC.out hb) ((Below.refl _ _).alloc (Nat.le_refl _) (.cells #[.int .i64 yf.kind, .string yf.name, .int .i64 yf.so, .int .i64 yf.n, .string yf.s, .slice ao4 yf.kids.length cap4] 26)))
  have SD := hideC (XQ.new w12 yf ao4 cap4)
  have KSD := hideC (ka_up hk4 ((Below.refl _ _).alloc (Nat.le_refl _) (.cells #[.int .i64 yf.kind, .string yf.name, .int .i64 yf.so, .int .i64 yf.n, .string yf.s, .slice ao4 yf.kids.length cap4] 26)))
  have D4 := hideC hb4
  clear x0 x1 x2 x3 x4 x5 y0 y1 y2 hb hk4 hb4 TC PC FC KPC KFC OC UC RC CG KRC
  obtain ⟨x0, x1, x2, x3, x4, x5⟩ := RD.out.cells
  obtain ⟨y0, y1, y2, y3, y4, y5⟩ := PD.out.cells
  go_wp2_with fail
  refine (CY.out _ ao3 cap3 aop capp D3.out D6.out KRD.out KPD.out).mono ?_
  rintro e w13 ⟨rfl, hb⟩
  have TE := hideC (TD.out.keep hb)
  have FE := hideC (FD.out.keep hb)
  have SE := hideC (SD.out.keep hb)
  have KFE := hideC (ka_up KFD.out hb)
  have KSE := hideC (ka_up KSD.out hb)
  have OE := hideC (own_below OD.out hb)
  have UE := hideC (own_below UD.out hb)
  clear x0 x1 x2 x3 x4 x5 y0 y1 y2 y3 y4 y5 hb TD FD SD KFD KSD OD UD RD PD KPD CY
  go_wp2_with fail
  refine (CL.out _ uq un _ _ UE.out OE.out).mono ?_
  rintro e w14 ⟨rfl, hb⟩
  have TF := hideC (TE.out.keep hb)
  have FF := hideC (FE.out.keep hb)
  have SF := hideC (SE.out.keep hb)
  have KFF := hideC (ka_up KFE.out hb)
  have KSF := hideC (ka_up KSE.out hb)
  clear hb TE FE SE KFE KSE OE UE CL
  obtain ⟨x0, x1, x2, x3, x4, x5⟩ := SF.out.cells
  obtain ⟨y0, y1, y2, y3, y4, y5⟩ := FF.out.cells
  go_wp2_with fail
  refine (CX.out _ ao4 cap4 aof capf D4.out E7.out KSF.out KFF.out).mono ?_
  rintro e w15 ⟨rfl, hb⟩
  have TG := hideC (TF.out.keep hb)
  clear x0 x1 x2 x3 x4 x5 y0 y1 y2 y3 y4 y5 hb TF FF SF KFF KSF
  go_wp2_with fail
  go_ret
  exact ⟨rfl, TG.out.bl⟩

set_option maxRecDepth 100000 in
set_option maxHeartbeats 8000000 in
theorem makes_wrong (d : Nat) (x yp yf : Ex) (ns : List ByteArray) (ao ae : Option Addr) (cap n ce : Nat) (nm : ByteArray) (v r : Vl) (er z : Int) (w : World) (hnl : ns.length ≤ 9223372036854775806) (hz : z ≠ 0) (her : er ≠ 0 → r = ⟨0, 0, ⟨#[]⟩⟩)
    (cR : CQ 4 #[exVal x ao cap] w (.int .i64 0)) (cE : CQ 5 #[exVal x ao cap, .slice ae n ce] w (.tuple #[vlV r, .int .i64 er])) (cF : CQ 6 #[exVal x ao cap, .slice ae n ce] w (.tuple #[vlV r, .int .i64 er]))
    (cV : CQ 8 #[vlV v] w (.int .i64 z))
    (cA : ∀ W, Below w.heap.size w W → Calls Tryz.prog 9 #[exVal x ao cap, .string nm, vlV v] W fun e w' => (∃ ao' cap', e = .returned (exVal yp ao' cap') ∧ KR w' (fun b => W.heap.size ≤ b ∧ b < w'.heap.size) d yp.kids ao' ∧ ExBd yp cap') ∧ Below W.heap.size W w')
    (cB : ∀ W, Below w.heap.size w W → Calls Tryz.prog 10 #[exVal x ao cap] W fun e w' => (∃ ao' cap', e = .returned (exVal yf ao' cap') ∧ KR w' (fun b => W.heap.size ≤ b ∧ b < w'.heap.size) d yf.kids ao' ∧ ExBd yf cap') ∧ Below W.heap.size W w')
    (cC : ∀ W, Below w.heap.size w W → Calls Tryz.prog 11 #[exVal x ao cap] W fun e w' => ∃ u, e = .returned u ∧ w'.ownsRow W.heap.size 9 1 u ns.length (ns.map Value.string) ∧ Below W.heap.size W w')
    (cP : CQ 12 #[exVal x ao cap, .string nm, vlV v] w (.tuple #[.agg #[.int .i64 0, .string ⟨#[]⟩, .int .i64 0, .int .i64 0, .string ⟨#[]⟩, .slice none 0 0], .int .i64 z]))
    (cN : ∀ W, Below w.heap.size w W → Calls Tryz.prog 13 #[exVal x ao cap] W fun e w' => ∃ u, e = .returned (.tuple #[u, .int .i64 0]) ∧ w'.ownsRow W.heap.size 9 1 u ns.length (ns.map Value.string) ∧ Below W.heap.size W w')
    (cG : ∀ W, Below w.heap.size w W → Calls Tryz.prog 14 #[exVal x ao cap] W fun e w' => (∃ ao' cap', e = .returned (.tuple #[exVal yf ao' cap', .int .i64 0]) ∧ KA w' w'.heap.size d yf.kids ao' ∧ ExBd yf cap') ∧ Below W.heap.size W w') :
    Calls Tryz.prog 3 #[exVal x ao cap, .slice ae n ce, .string nm, vlV v] w fun e w' => e = .returned (.bool true) ∧ Below w.heap.size w w' := by
  have cY := fun (W : World) a2 c2 => lawExpr_err z hz yp a2 c2 W
  simp only [exVal] at cY
  have CY := hideC cY
  have hzb : (z == 0) = false := by simpa using hz
  clear cY hz
  have cX := fun (W : World) a1 c1 a2 c2 h1 h2 k1 k2 => lawExpr_two yf d d a1 a2 c1 c2 W.heap.size W h1 h2 k1 k2 (Nat.le_refl _)
  have cL := fun (W : World) (v1 v2 : Value) (b1 b2 : Nat) h1 h2 => lawList_same ns v1 v2 b1 b2 W hnl h1 h2
  simp only [exVal, vlV] at cV cA cB cC cP cN cG cX
  have CV := hideC cV
  have CA := hideC cA
  have CB := hideC cB
  have CC := hideC cC
  have CP := hideC cP
  have CN := hideC cN
  have CG := hideC cG
  have CX := hideC cX
  have CL := hideC cL
  clear cV cA cB cC cP cN cG cX cL hnl
  have t0 := LQ.new w x ao cap v
  have cO := fun (W : World) => oneVl_any r er W her
  simp only [exVal, vlV] at cR cE cF cO ⊢
  have CR := hideC cR
  have CE := hideC cE
  have CF := hideC cF
  have CO := hideC cO
  clear cR cE cF cO her
  have T0 := hideC t0
  go_enter Tryz.func3, Tryz.ntmps3
  obtain ⟨x0, x1, x2, x3, x4, x5, y0, y1, y2⟩ := t0.cells
  clear t0
  go_wp2_with fail
  refine (CR.out _ T0.out.bl).mono ?_
  rintro e w1 ⟨rfl, hb⟩
  have T1 := hideC (T0.out.keep hb)
  clear x0 x1 x2 x3 x4 x5 y0 y1 y2 hb T0 CR
  obtain ⟨x0, x1, x2, x3, x4, x5, y0, y1, y2⟩ := T1.out.cells
  go_wp2_with fail
  refine (CE.out _ T1.out.bl).mono ?_
  rintro e w2 ⟨rfl, hb⟩
  have T2 := hideC ((T1.out.keep hb).al (.cells #[.int .i64 r.so, .int .i64 r.n, .string r.s] 23))
  have A2 := hideC (Box.new w2 r.so r.n r.s 23)
  clear x0 x1 x2 x3 x4 x5 y0 y1 y2 hb T1 CE
  obtain ⟨x0, x1, x2, x3, x4, x5, y0, y1, y2⟩ := T2.out.cells
  go_wp2_with fail
  refine (CF.out _ T2.out.bl).mono ?_
  rintro e w3 ⟨rfl, hb⟩
  have T3 := hideC ((T2.out.keep hb).al (.cells #[.int .i64 r.so, .int .i64 r.n, .string r.s] 23))
  have A3 := hideC ((A2.out.keep hb).keep ((Below.refl _ _).alloc (Nat.le_refl _) (.cells #[.int .i64 r.so, .int .i64 r.n, .string r.s] 23)))
  have B3 := hideC (Box.new w3 r.so r.n r.s 23)
  clear x0 x1 x2 x3 x4 x5 y0 y1 y2 hb T2 CF A2
  obtain ⟨_, a0, a1, a2⟩ := A3.out
  obtain ⟨_, b0, b1, b2⟩ := B3.out
  go_wp2_with fail
  refine (CO.out _).mono ?_
  rintro e w4 ⟨rfl, hb⟩
  have T4 := hideC (T3.out.keep hb)
  clear hb T3 CO A3 B3 a0 a1 a2 b0 b1 b2
  obtain ⟨x0, x1, x2, x3, x4, x5, y0, y1, y2⟩ := T4.out.cells
  go_wp2_with fail
  refine (CV.out _ T4.out.bl).mono ?_
  rintro e w5 ⟨rfl, hb⟩
  have T5 := hideC (((T4.out.keep hb).al (.cells #[.int .i64 0, .string ⟨#[]⟩, .int .i64 0, .int .i64 0, .string ⟨#[]⟩, .slice none 0 0] 26)).al (.cells #[.int .i64 0, .string ⟨#[]⟩, .int .i64 0, .int .i64 0, .string ⟨#[]⟩, .slice none 0 0] 26))
  have P5 := hideC ((ZE.new w5 26).keep ((Below.refl _ _).alloc (Nat.le_refl _) (.cells #[.int .i64 0, .string ⟨#[]⟩, .int .i64 0, .int .i64 0, .string ⟨#[]⟩, .slice none 0 0] 26)))
  have q5 := ZE.new (w5.alloc (.cells #[.int .i64 0, .string ⟨#[]⟩, .int .i64 0, .int .i64 0, .string ⟨#[]⟩, .slice none 0 0] 26)) 26
  rw [World.size_alloc] at q5
  have Q5 := hideC q5
  clear q5
  have hl5 : w.heap.size + 1 < w5.heap.size := (T4.out.keep hb).lt
  clear x0 x1 x2 x3 x4 x5 y0 y1 y2 T4 hb CV
  obtain ⟨x0, x1, x2, x3, x4, x5, y0, y1, y2⟩ := T5.out.cells
  go_wp2_with fail
  clear x0 x1 x2 x3 x4 x5 y0 y1 y2
  refine wp_region_held_drew (S := LQ w x ao cap v) (by kernel_rfl) T5.out.dr (fun hS => ?_)
  refine wpAnyH_take (i := 0) (v := .agg #[.int .i64 x.kind, .string x.name, .int .i64 x.so, .int .i64 x.n, .string x.s, .slice ao x.kids.length cap]) rfl (by kernel_rfl) (by kernel_rfl) (by kernel_rfl) (fun _ _ _ h => h) (Or.inl ⟨by rfl, fun W hW => by obtain ⟨x0, x1, x2, x3, x4, x5, y0, y1, y2⟩ := hW.cells; go_simp⟩) hS ?_
  refine wpAnyH_take (i := 1) (v := .string nm) rfl (by kernel_rfl) (by kernel_rfl) (by kernel_rfl) (fun _ _ _ h => h) (Or.inl ⟨by rfl, fun W hW => by obtain ⟨x0, x1, x2, x3, x4, x5, y0, y1, y2⟩ := hW.cells; go_simp⟩) hS ?_
  refine wpAnyH_take (i := 2) (v := .agg #[.int .i64 v.so, .int .i64 v.n, .string v.s]) rfl (by kernel_rfl) (by kernel_rfl) (by kernel_rfl) (fun _ _ _ h => h) (Or.inl ⟨by rfl, fun W hW => by obtain ⟨x0, x1, x2, x3, x4, x5, y0, y1, y2⟩ := hW.cells; go_simp⟩) hS ?_
  refine wpAnyH_take (i := 4) (v := .agg #[.int .i64 x.kind, .string x.name, .int .i64 x.so, .int .i64 x.n, .string x.s, .slice ao x.kids.length cap]) rfl (by kernel_rfl) (by kernel_rfl) (by kernel_rfl) (fun _ _ _ h => h) (Or.inl ⟨by rfl, fun W hW => by obtain ⟨x0, x1, x2, x3, x4, x5, y0, y1, y2⟩ := hW.cells; go_simp⟩) hS ?_
  refine wpAnyH_take (i := 6) (v := .agg #[.int .i64 x.kind, .string x.name, .int .i64 x.so, .int .i64 x.n, .string x.s, .slice ao x.kids.length cap]) rfl (by kernel_rfl) (by kernel_rfl) (by kernel_rfl) (fun _ _ _ h => h) (Or.inl ⟨by rfl, fun W hW => by obtain ⟨x0, x1, x2, x3, x4, x5, y0, y1, y2⟩ := hW.cells; go_simp⟩) hS ?_
  clear hS
  refine take_oneH 3 (AllReadyH.cons rfl (fun K hK => ?_) AllReadyH.nil) (by kernel_rfl)
  go_simp
  refine (CA.out _ T5.out.dr.bl).mono ?_
  rintro e w6 ⟨⟨aop, capp, rfl, hkr, hbd⟩, hb⟩
  have T6 := hideC (T5.out.dr.keep hb)
  have P6 := hideC ((P5.out.keep (Below.refl _ _).drew).keep hb)
  have Q6 := hideC ((Q5.out.keep (Below.refl _ _).drew).keep hb)
  have hs6 : w5.heap.size + 2 ≤ w6.heap.size := by have := hb.size; simp at this; omega
  have K6 := hideC (hkr.keep (Q := fun b => w5.heap.size + 1 < b ∧ b < w6.heap.size) (fun _ _ _ => rfl) (fun b hq => ⟨by have := hq.1; simp at this; omega, hq.2⟩))
  have D6 := hideC hbd
  clear hkr hbd hb T5 P5 Q5
  refine hK.out _ _ T6.out (fun _ => ?_)
  clear hK K
  refine take_oneH 5 (AllReadyH.cons rfl (fun K hK => ?_) AllReadyH.nil) (by kernel_rfl)
  go_simp
  refine (CB.out _ T6.out.bl).mono ?_
  rintro e w7 ⟨⟨aof, capf, rfl, hkr, hbd⟩, hb⟩
  have T7 := hideC (T6.out.keep hb)
  have P7 := hideC (P6.out.keep hb)
  have Q7 := hideC (Q6.out.keep hb)
  have hs7 : w5.heap.size + 2 ≤ w7.heap.size := by have := hb.size; omega
  have K7 := hideC (K6.out.keep (Q := fun b => w5.heap.size + 1 < b ∧ b < w7.heap.size) (fun b o hq => hb.cell (p := ⟨b, o, none⟩) hq.2) (fun b hq => ⟨hq.1, Nat.lt_of_lt_of_le hq.2 hb.size⟩))
  have L7 := hideC (hkr.keep (Q := fun b => w5.heap.size + 1 < b ∧ b < w7.heap.size) (fun _ _ _ => rfl) (fun b hq => ⟨by have := hq.1; omega, hq.2⟩))
  have E7 := hideC hbd
  clear hkr hbd hb T6 P6 Q6 K6
  refine hK.out _ _ T7.out (fun _ => ?_)
  clear hK K
  refine take_oneH 7 (AllReadyH.cons rfl (fun K hK => ?_) AllReadyH.nil) (by kernel_rfl)
  go_simp
  refine (CC.out _ T7.out.bl).mono ?_
  rintro e w8 ⟨un, rfl, hO, hb⟩
  have T8 := hideC (T7.out.keep hb)
  have P8 := hideC (P7.out.keep hb)
  have Q8 := hideC (Q7.out.keep hb)
  have hs8 : w5.heap.size + 2 ≤ w8.heap.size := by have := hb.size; omega
  have K8 := hideC (K7.out.keep (Q := fun b => w5.heap.size + 1 < b ∧ b < w8.heap.size) (fun b o hq => hb.cell (p := ⟨b, o, none⟩) hq.2) (fun b hq => ⟨hq.1, Nat.lt_of_lt_of_le hq.2 hb.size⟩))
  have L8 := hideC (L7.out.keep (Q := fun b => w5.heap.size + 1 < b ∧ b < w8.heap.size) (fun b o hq => hb.cell (p := ⟨b, o, none⟩) hq.2) (fun b hq => ⟨hq.1, Nat.lt_of_lt_of_le hq.2 hb.size⟩))
  have O8 := hideC (own_mono hO hs7)
  clear hO hb T7 P7 Q7 K7 L7
  have T9 := hideC (T8.out.st w5.heap.size hl5 (.int .i64 yp.kind) (.string yp.name) (.int .i64 yp.so) (.int .i64 yp.n) (.string yp.s) (.slice aop yp.kids.length capp))
  have T10 := hideC (T9.out.st (w5.heap.size + 1) (by omega) (.int .i64 yf.kind) (.string yf.name) (.int .i64 yf.so) (.int .i64 yf.n) (.string yf.s) (.slice aof yf.kids.length capf))
  have PX := hideC (st6_atQ w8 w5.heap.size yp aop capp P8.out)
  have Q9 := hideC (Q8.out.keepO (W' := (st6 w8 w5.heap.size 0 (.int .i64 yp.kind) (.string yp.name) (.int .i64 yp.so) (.int .i64 yp.n) (.string yp.s) (.slice aop yp.kids.length capp))) (by rw [st6_size]; omega) (fun o => st6_other _ _ _ _ _ _ _ _ _ _ _ (.inl (by omega))) (fun o => st6_frozen _ _ _ _ _ _ _ _ _ _))
  have FX := hideC (st6_atQ (st6 w8 w5.heap.size 0 (.int .i64 yp.kind) (.string yp.name) (.int .i64 yp.so) (.int .i64 yp.n) (.string yp.s) (.slice aop yp.kids.length capp)) (w5.heap.size + 1) yf aof capf Q9.out)
  obtain ⟨_, p0, p1, p2, p3, p4, p5, pf⟩ := P8.out
  have pf0 := pf 0
  have pf1 := pf 1
  have pf2 := pf 2
  have pf3 := pf 3
  have pf4 := pf 4
  have pf5 := pf 5
  obtain ⟨_, q0, q1, q2, q3, q4, q5, qf⟩ := Q9.out
  have qf0 := qf 0
  have qf1 := qf 1
  have qf2 := qf 2
  have qf3 := qf 3
  have qf4 := qf 4
  have qf5 := qf 5
  unfold st6 at q0 q1 q2 q3 q4 q5 qf0 qf1 qf2 qf3 qf4 qf5
  clear pf qf
  refine hK.out _ _ T8.out (fun _ => ?_)
  clear hK K
  refine take_oneH 8 (AllReadyH.cons rfl (fun K hK => ?_) AllReadyH.nil) (by kernel_rfl)
  go_simp
  refine hK.out _ _ T9.out (fun _ => ?_)
  clear hK K p0 p1 p2 p3 p4 p5 pf0 pf1 pf2 pf3 pf4 pf5
  refine take_oneH 9 (AllReadyH.cons rfl (fun K hK => ?_) AllReadyH.nil) (by kernel_rfl)
  go_simp
  refine hK.out _ _ T10.out (fun _ => ?_)
  clear hK K q0 q1 q2 q3 q4 q5 qf0 qf1 qf2 qf3 qf4 qf5
  refine take_oneH 10 (AllReadyH.cons rfl (fun K hK => ?_) AllReadyH.nil) (by kernel_rfl)
  go_simp
  refine hK.out _ _ T10.out (fun _ => ?_)
  clear hK K
  refine wpAnyH_done (by kernel_rfl) ?_ _
  obtain ⟨W9, hW9⟩ : ∃ W, W = (st6 (st6 w8 w5.heap.size 0 (.int .i64 yp.kind) (.string yp.name) (.int .i64 yp.so) (.int .i64 yp.n) (.string yp.s) (.slice aop yp.kids.length capp)) (w5.heap.size + 1) 0 (.int .i64 yf.kind) (.string yf.name) (.int .i64 yf.so) (.int .i64 yf.n) (.string yf.s) (.slice aof yf.kids.length capf)) := ⟨_, rfl⟩
  have hz9 : W9.heap.size = w8.heap.size := by rw [hW9, st6_size, st6_size]
  have hc9 : ∀ b o, w5.heap.size + 1 < b → W9.cell? ⟨b, o, none⟩ = w8.cell? ⟨b, o, none⟩ := fun b o hq => by rw [hW9, st6_other _ _ _ _ _ _ _ _ _ _ _ (.inl (by omega)), st6_other _ _ _ _ _ _ _ _ _ _ _ (.inl (by omega))]
  have TA := hideC (show LQ w x ao cap v W9 from hW9 ▸ T10.out)
  have PA := hideC (show XQ W9 w5.heap.size yp aop capp from ⟨by rw [hz9]; omega, (hW9 ▸ PX.out.keepO (fun o => st6_other _ _ _ _ _ _ _ _ _ _ _ (.inl (by omega))))⟩)
  have FA := hideC (show XQ W9 (w5.heap.size + 1) yf aof capf from ⟨by rw [hz9]; omega, hW9 ▸ FX.out⟩)
  have KPA := hideC ((K8.out.keep (W' := W9) (Q := fun b => b < W9.heap.size) (fun b o hq => hc9 b o hq.1) (fun b hq => by rw [hz9]; exact hq.2)).toKA (B := W9.heap.size) (fun b hb => hb))
  have KFA := hideC ((L8.out.keep (W' := W9) (Q := fun b => b < W9.heap.size) (fun b o hq => hc9 b o hq.1) (fun b hq => by rw [hz9]; exact hq.2)).toKA (B := W9.heap.size) (fun b hb => hb))
  have OA := hideC (show W9.ownsRow (w5.heap.size + 2) 9 1 un ns.length (ns.map Value.string) from hW9 ▸ own_st6Q (own_st6Q O8.out _ (by omega) _ _ _ _ _ _) _ (by omega) _ _ _ _ _ _)
  unfold st6 at hW9
  rw [← hW9]
  clear hW9 hz9 hc9 T8 T9 T10 PX FX K8 L8 O8 P8 Q8 Q9 hs6 hs7 hs8
  obtain ⟨x0, x1, x2, x3, x4, x5, y0, y1, y2⟩ := TA.out.cells
  go_wp2_with fail
  refine (CP.out _ TA.out.bl).mono ?_
  rintro e w10 ⟨rfl, hb⟩
  have TB := hideC ((TA.out.keep hb).al (.cells #[.int .i64 0, .string ⟨#[]⟩, .int .i64 0, .int .i64 0, .string ⟨#[]⟩, .slice none 0 0] 26))
  have PB := hideC ((PA.out.keep hb).al (.cells #[.int .i64 0, .string ⟨#[]⟩, .int .i64 0, .int .i64 0, .string ⟨#[]⟩, .slice none 0 0] 26))
  have FB := hideC ((FA.out.keep hb).al (.cells #[.int .i64 0, .string ⟨#[]⟩, .int .i64 0, .int .i64 0, .string ⟨#[]⟩, .slice none 0 0] 26))
  have KPB := hideC (ka_up (ka_up KPA.out hb) ((Below.refl _ _).alloc (Nat.le_refl _) (.cells #[.int .i64 0, .string ⟨#[]⟩, .int .i64 0, .int .i64 0, .string ⟨#[]⟩, .slice none 0 0] 26)))
  have KFB := hideC (ka_up (ka_up KFA.out hb) ((Below.refl _ _).alloc (Nat.le_refl _) (.cells #[.int .i64 0, .string ⟨#[]⟩, .int .i64 0, .int .i64 0, .string ⟨#[]⟩, .slice none 0 0] 26)))
  have OB := hideC (own_below (own_below OA.out hb) ((Below.refl _ _).alloc (Nat.le_refl _) (.cells #[.int .i64 0, .string ⟨#[]⟩, .int .i64 0, .int .i64 0, .string ⟨#[]⟩, .slice none 0 0] 26)))
  have RB := hideC ((ZE.new w10 26).toX)
  clear x0 x1 x2 x3 x4 x5 y0 y1 y2 hb TA PA FA KPA KFA OA CP
  obtain ⟨x0, x1, x2, x3, x4, x5, y0, y1, y2⟩ := TB.out.cells
  go_wp2_with fail
  refine (CN.out _ TB.out.bl).mono ?_
  rintro e w11 ⟨uq, rfl, hO, hb⟩
  have TC := hideC (TB.out.keep hb)
  have PC := hideC (PB.out.keep hb)
  have FC := hideC (FB.out.keep hb)
  have KPC := hideC (ka_up KPB.out hb)
  have KFC := hideC (ka_up KFB.out hb)
  have OC := hideC (own_below OB.out hb)
  have RC := hideC (RB.out.keep hb)
  have UC := hideC hO
  clear x0 x1 x2 x3 x4 x5 y0 y1 y2 hb hO TB PB FB KPB KFB OB RB CN
  obtain ⟨x0, x1, x2, x3, x4, x5, y0, y1, y2⟩ := TC.out.cells
  go_wp2_with fail
  refine (CG.out _ TC.out.bl).mono ?_
  rintro e w12 ⟨⟨ao4, cap4, rfl, hk4, hb4⟩, hb⟩
  have TD := hideC ((TC.out.keep hb).al (.cells #[.int .i64 yf.kind, .string yf.name, .int .i64 yf.so, .int .i64 yf.n, .string yf.s, .slice ao4 yf.kids.length cap4] 26))
  have PD := hideC ((PC.out.keep hb).al (.cells #[.int .i64 yf.kind, .string yf.name, .int .i64 yf.so, .int .i64 yf.n, .string yf.s, .slice ao4 yf.kids.length cap4] 26))
  have FD := hideC ((FC.out.keep hb).al (.cells #[.int .i64 yf.kind, .string yf.name, .int .i64 yf.so, .int .i64 yf.n, .string yf.s, .slice ao4 yf.kids.length cap4] 26))
  have KPD := hideC (ka_up (ka_up KPC.out hb) ((Below.refl _ _).alloc (Nat.le_refl _) (.cells #[.int .i64 yf.kind, .string yf.name, .int .i64 yf.so, .int .i64 yf.n, .string yf.s, .slice ao4 yf.kids.length cap4] 26)))
  have KFD := hideC (ka_up (ka_up KFC.out hb) ((Below.refl _ _).alloc (Nat.le_refl _) (.cells #[.int .i64 yf.kind, .string yf.name, .int .i64 yf.so, .int .i64 yf.n, .string yf.s, .slice ao4 yf.kids.length cap4] 26)))
  have OD := hideC (own_below (own_below OC.out hb) ((Below.refl _ _).alloc (Nat.le_refl _) (.cells #[.int .i64 yf.kind, .string yf.name, .int .i64 yf.so, .int .i64 yf.n, .string yf.s, .slice ao4 yf.kids.length cap4] 26)))
  have UD := hideC (own_below (own_below UC.out hb) ((Below.refl _ _).alloc (Nat.le_refl _) (.cells #[.int .i64 yf.kind, .string yf.name, .int .i64 yf.so, .int .i64 yf.n, .string yf.s, .slice ao4 yf.kids.length cap4] 26)))
  have RD := hideC ((RC.out.keep hb).al (.cells #[.int .i64 yf.kind, .string yf.name, .int .i64 yf.so, .int .i64 yf.n, .string yf.s, .slice ao4 yf.kids.length cap4] 26))
  have SD := hideC (XQ.new w12 yf ao4 cap4)
  have KSD := hideC (ka_up hk4 ((Below.refl _ _).alloc (Nat.le_refl _) (.cells #[.int .i64 yf.kind, .string yf.name, .int .i64 yf.so, .int .i64 yf.n, .string yf.s, .slice ao4 yf.kids.length cap4] 26)))
  have D4 := hideC hb4
  clear x0 x1 x2 x3 x4 x5 y0 y1 y2 hb hk4 hb4 TC PC FC KPC KFC OC UC RC CG
  obtain ⟨x0, x1, x2, x3, x4, x5⟩ := RD.out.cells
  obtain ⟨y0, y1, y2, y3, y4, y5⟩ := PD.out.cells
  simp only [zX, List.length_nil] at x0 x1 x2 x3 x4 x5
  go_wp2_with fail
  refine (CY.out _ aop capp).mono ?_
  rintro e w13 ⟨rfl, hb⟩
  have TE := hideC (TD.out.keep hb)
  have FE := hideC (FD.out.keep hb)
  have SE := hideC (SD.out.keep hb)
  have KFE := hideC (ka_up KFD.out hb)
  have KSE := hideC (ka_up KSD.out hb)
  have OE := hideC (own_below OD.out hb)
  have UE := hideC (own_below UD.out hb)
  clear x0 x1 x2 x3 x4 x5 y0 y1 y2 y3 y4 y5 hb TD FD SD KFD KSD OD UD RD PD KPD CY
  go_wp2_with fail
  refine (CL.out _ uq un _ _ UE.out OE.out).mono ?_
  rintro e w14 ⟨rfl, hb⟩
  have TF := hideC (TE.out.keep hb)
  have FF := hideC (FE.out.keep hb)
  have SF := hideC (SE.out.keep hb)
  have KFF := hideC (ka_up KFE.out hb)
  have KSF := hideC (ka_up KSE.out hb)
  clear hb TE FE SE KFE KSE OE UE CL
  obtain ⟨x0, x1, x2, x3, x4, x5⟩ := SF.out.cells
  obtain ⟨y0, y1, y2, y3, y4, y5⟩ := FF.out.cells
  go_wp2_with fail
  refine (CX.out _ ao4 cap4 aof capf D4.out E7.out KSF.out KFF.out).mono ?_
  rintro e w15 ⟨rfl, hb⟩
  have TG := hideC (TF.out.keep hb)
  clear x0 x1 x2 x3 x4 x5 y0 y1 y2 y3 y4 y5 hb TF FF SF KFF KSF
  go_wp2_with fail
  go_ret
  exact ⟨rfl, TG.out.bl⟩
end Go.Proofs.YtecapnipkngniaaGreatDoor
