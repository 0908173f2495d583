/-
  duetref.ValueOf of an operation of one part.
-/
import Derived.Test.YtecapnipkngniaaGreatDoorCq
import Derived.Deep.RegionHeld3
namespace Go.Proofs.YtecapnipkngniaaGreatDoor
open Go.RowKit Go.Shelf

set_option maxRecDepth 100000 in
set_option maxHeartbeats 4000000 in
theorem rval_not (bs : List (ByteArray × Vl)) (ae : Option Addr) (ce d : Nat) (hE : ∀ nm so, lookS (bs.map (·.1)) (bs.map (·.2.so)) nm = (so, 0) → (lookV bs nm).good ∧ (lookV bs nm).so = so) (hI : ∀ nm, in64 (lookV bs nm).n) (ih : ∀ d', d' < d → RVal bs ae ce d')
    (nm : ByteArray) (so n : Int) (s : ByteArray) (a : Ex) (ao : Option Addr) (cap B : Nat) (w : World) (sx : Int) (ha : wfX a) (hz : inZ a) (hka : KA w B d [a] ao) (henv : EnvAt w B bs ae) (hB : B ≤ w.heap.size) (hT : Tabs w) (hs : sortX (lookS (bs.map (·.1)) (bs.map (·.2.so))) ⟨3, nm, so, n, s, [a]⟩ = (sx, 0)) (hop : nm.data.toList = [110, 111, 116]) :
    Calls Tryz.prog 24 #[exVal ⟨3, nm, so, n, s, [a]⟩ ao cap, .slice ae bs.length ce] w fun e w' => e = .returned (vlV (oneV nm.data.toList (valX (lookV bs) a))) ∧ Below w.heap.size w w' := by
  have hs1 := one_right _ ⟨3, nm, so, n, s, [a]⟩ a sx rfl rfl hs
  obtain ⟨ga, sa⟩ := sort_val _ (lookV bs) hE a ha _ hs1
  obtain ⟨d', b, o, ao', cap', rfl, rfl, hbB, hex, hxb, hkk⟩ := hka.one
  have F0 := QV.new w nm (.slice (some ⟨b, o, none⟩) 1 cap) so n s
  have cA := ih d' (by omega) a ao' cap' B _ _ ha hz hxb (hkk.keep (F0.bl.mono hB)) (henv.keep (F0.bl.mono hB)) (Nat.le_trans hB F0.bl.size) (tabs_keep w _ hT F0.bl) hs1
  have i1 := val_in (lookV bs) hI a ha hz
  rw [show (⟨3, nm, so, n, s, [a]⟩ : Ex).name = nm from rfl, hop] at sa
  generalize sortX (lookS (bs.map (·.1)) (bs.map (·.2.so))) a = S1 at *
  generalize valX (lookV bs) a = R1 at *
  have HX := hideC hex
  have hbw : b < w.heap.size := Nat.lt_of_lt_of_le hbB hB
  have FH := hideC F0
  have HT := hideC hT
  have y5 := F0.c5
  obtain ⟨y0, y1, y2, y3, y4, y6⟩ := HX.out.keep F0.bl hbw
  clear ih hka henv hex hkk hE hI hs hs1 hT hz ha hxb F0
  simp only [vlV, exVal, List.length_cons, List.length_nil, Nat.zero_add] at cA ⊢
  have CN := hideC (nums_said R1 ⟨0, 0, ⟨#[]⟩⟩ i1 zero64)
  rw [hop]
  have sa2 : R1.so = 2 := sa
  have hv := bool_vl R1 ga sa2
  obtain ⟨T, hT1⟩ : ∃ T : Int, T = (if (R1.n != 1) then 1 else 0) := ⟨_, rfl⟩
  have HR := hideC (show vlV (oneV [110, 111, 116] R1) = .agg #[.int .i64 2, .int .i64 T, .string ⟨#[]⟩] by
    have e : (R1.n == 0) = (R1.n != 1) := by rcases hv with h | h <;> rw [h] <;> rfl
    show vlV (truV (R1.n == 0)) = _
    rw [e, hT1]; rfl)
  have CT := hideC (fun W => by have := refTruth_any (R1.n != 1) W; rw [← hT1] at this; exact this)
  clear hv sa2 hT1
  clear ga sa i1
  have nb0 : (nm.toList == [110, 111, 116]) = true := by rw [beqL, hop]; decide
  clear hop
  go_enter Tryz.func24, Tryz.ntmps24
  go_wp2_with fail
  refine cA.mono ?_
  rintro e w1 ⟨rfl, hb1⟩
  clear cA
  have F1 := (FH.out.keep hb1).putA R1
  have D1 := hideC F1
  have u5 := (FH.out.keep hb1).c5
  obtain ⟨_, a0, a1, a2', f0, f1, f2⟩ := (FH.out.keep hb1).a
  have v5 := F1.c5
  clear F1 hb1 FH y0 y1 y2 y3 y4 y5 y6
  unfold st3 at v5
  go_wp2_with fail
  have D3 := D1.out
  unfold st3 at D3
  generalize ((w1.setCell ⟨w.heap.size + 1 + 1, 0, none⟩ (.int .i64 R1.so)).setCell ⟨w.heap.size + 1 + 1, 1, none⟩ (.int .i64 R1.n)).setCell ⟨w.heap.size + 1 + 1, 2, none⟩ (.string R1.s) = W2 at D3 ⊢
  clear D1 a0 a1 a2' f0 f1 f2 
  have p1 := D3.a.c1
  have q1 := D3.b.c1
  have HD := hideC D3
  have MK := hideC trivial
  clear D3 v5 u5
  go_region_held3 (fun w' => w'.cell? ⟨w.heap.size + 1 + 1, 1, none⟩ = some (.int .i64 R1.n) ∧ w'.cell? ⟨w.heap.size + 1 + 1 + 1, 1, none⟩ = some (.int .i64 0)) (go_keep) (first
    | (go_at_call 47; have mk := MK; clear mk MK; go_must (refine (CN.out _ _ (by first | exact .inl rfl | exact .inr rfl)).mono ?_; rintro e w3 ⟨rfl, hI1, hb3⟩; have D4 := hideC ((HD.out.keep (by go_grown)).keep hb3); have I1 := hideC hI1; have p2 := D4.out.a.c1; have q2 := D4.out.b.c1; clear hI1))
    | (go_at_call 47; go_must (refine (CN.out _ _ (by first | exact .inl rfl | exact .inr rfl)).mono ?_; rintro e w4 ⟨rfl, hI2, hb4⟩; have D5 := hideC (D4.out.keep hb4); have I3 := hideC (I1.out.keep hb4); have I4 := hideC hI2; have p3 := D5.out.a.c1; have q3 := D5.out.b.c1; clear hI2)))
  all_goals
    have k1 := D5.out.c1
    obtain ⟨_, A0, A1, A2, _, _, _⟩ := D5.out.a
    obtain ⟨_, B0, B1, B2, _, _, _⟩ := D5.out.b
    go_wp2_with fail
    refine (CT.out _).mono ?_
    rintro e w5 ⟨rfl, hb5⟩
    have DE := hideC (D5.out.keep hb5)
    obtain ⟨_, r0, r1, r2, g0, g1, g2⟩ := DE.out.z
    have hbe := DE.out.bl
    go_wp2_with fail
    refine bodyPost_ret (v := vlV (oneV [110, 111, 116] R1)) (by simp [results, Tryz.results24, go_sem, r0, r1, r2, HR.out]) rfl ⟨rfl, ?_⟩
    have hsz := hbe.size
    go_grown
set_option maxRecDepth 100000 in
set_option maxHeartbeats 4000000 in
theorem rval_len (bs : List (ByteArray × Vl)) (ae : Option Addr) (ce d : Nat) (hE : ∀ nm so, lookS (bs.map (·.1)) (bs.map (·.2.so)) nm = (so, 0) → (lookV bs nm).good ∧ (lookV bs nm).so = so) (hI : ∀ nm, in64 (lookV bs nm).n) (ih : ∀ d', d' < d → RVal bs ae ce d')
    (nm : ByteArray) (so n : Int) (s : ByteArray) (a : Ex) (ao : Option Addr) (cap B : Nat) (w : World) (sx : Int) (ha : wfX a) (hz : inZ a) (hka : KA w B d [a] ao) (henv : EnvAt w B bs ae) (hB : B ≤ w.heap.size) (hT : Tabs w) (hs : sortX (lookS (bs.map (·.1)) (bs.map (·.2.so))) ⟨3, nm, so, n, s, [a]⟩ = (sx, 0)) (hop : nm.data.toList = [35]) :
    Calls Tryz.prog 24 #[exVal ⟨3, nm, so, n, s, [a]⟩ ao cap, .slice ae bs.length ce] w fun e w' => e = .returned (vlV (oneV nm.data.toList (valX (lookV bs) a))) ∧ Below w.heap.size w w' := by
  have hs1 := one_right _ ⟨3, nm, so, n, s, [a]⟩ a sx rfl rfl hs
  obtain ⟨ga, sa⟩ := sort_val _ (lookV bs) hE a ha _ hs1
  obtain ⟨d', b, o, ao', cap', rfl, rfl, hbB, hex, hxb, hkk⟩ := hka.one
  have F0 := QV.new w nm (.slice (some ⟨b, o, none⟩) 1 cap) so n s
  have cA := ih d' (by omega) a ao' cap' B _ _ ha hz hxb (hkk.keep (F0.bl.mono hB)) (henv.keep (F0.bl.mono hB)) (Nat.le_trans hB F0.bl.size) (tabs_keep w _ hT F0.bl) hs1
  have i1 := val_in (lookV bs) hI a ha hz
  rw [show (⟨3, nm, so, n, s, [a]⟩ : Ex).name = nm from rfl, hop] at sa
  generalize sortX (lookS (bs.map (·.1)) (bs.map (·.2.so))) a = S1 at *
  generalize valX (lookV bs) a = R1 at *
  have HX := hideC hex
  have hbw : b < w.heap.size := Nat.lt_of_lt_of_le hbB hB
  have FH := hideC F0
  have HT := hideC hT
  have y5 := F0.c5
  obtain ⟨y0, y1, y2, y3, y4, y6⟩ := HX.out.keep F0.bl hbw
  clear ih hka henv hex hkk hE hI hs hs1 hT hz ha hxb F0
  simp only [vlV, exVal, List.length_cons, List.length_nil, Nat.zero_add] at cA ⊢
  have CN := hideC (nums_said R1 ⟨0, 0, ⟨#[]⟩⟩ i1 zero64)
  rw [hop]
  have sa2 : R1.so = 3 := sa
  obtain ⟨rs, hr, hl, he⟩ := text_vl R1 ga sa2
  have HR := hideC (show vlV (oneV [35] R1) = .agg #[.int .i64 1, .int .i64 (rs.length : Int), .string ⟨#[]⟩] by rw [he]; show vlV (numV (lenZ vD 3 0 (str rs))) = _; rw [text_need rs hr hl]; rfl)
  have HS := hideC (show R1.s = str rs by rw [he])
  have CL := hideC (fun W hb => refLength_any rs hr hl W (tabs_keep w W HT.out hb))
  clear he hr hl sa2
  clear ga sa i1
  have nb0 : (nm.toList == [110, 111, 116]) = false := by rw [beqL, hop]; decide
  have nb1 : (nm.toList == [35]) = true := by rw [beqL, hop]; decide
  clear hop
  go_enter Tryz.func24, Tryz.ntmps24
  go_wp2_with fail
  refine cA.mono ?_
  rintro e w1 ⟨rfl, hb1⟩
  clear cA
  have F1 := (FH.out.keep hb1).putA R1
  have D1 := hideC F1
  have u5 := (FH.out.keep hb1).c5
  obtain ⟨_, a0, a1, a2', f0, f1, f2⟩ := (FH.out.keep hb1).a
  have v5 := F1.c5
  clear F1 hb1 FH y0 y1 y2 y3 y4 y5 y6
  unfold st3 at v5
  go_wp2_with fail
  have D3 := D1.out
  unfold st3 at D3
  generalize ((w1.setCell ⟨w.heap.size + 1 + 1, 0, none⟩ (.int .i64 R1.so)).setCell ⟨w.heap.size + 1 + 1, 1, none⟩ (.int .i64 R1.n)).setCell ⟨w.heap.size + 1 + 1, 2, none⟩ (.string R1.s) = W2 at D3 ⊢
  clear D1 a0 a1 a2' f0 f1 f2 
  have p1 := D3.a.c1
  have q1 := D3.b.c1
  have HD := hideC D3
  have MK := hideC trivial
  clear D3 v5 u5
  go_region_held3 (fun w' => w'.cell? ⟨w.heap.size + 1 + 1, 1, none⟩ = some (.int .i64 R1.n) ∧ w'.cell? ⟨w.heap.size + 1 + 1 + 1, 1, none⟩ = some (.int .i64 0)) (go_keep) (first
    | (go_at_call 47; have mk := MK; clear mk MK; go_must (refine (CN.out _ _ (by first | exact .inl rfl | exact .inr rfl)).mono ?_; rintro e w3 ⟨rfl, hI1, hb3⟩; have D4 := hideC ((HD.out.keep (by go_grown)).keep hb3); have I1 := hideC hI1; have p2 := D4.out.a.c1; have q2 := D4.out.b.c1; clear hI1))
    | (go_at_call 47; go_must (refine (CN.out _ _ (by first | exact .inl rfl | exact .inr rfl)).mono ?_; rintro e w4 ⟨rfl, hI2, hb4⟩; have D5 := hideC (D4.out.keep hb4); have I3 := hideC (I1.out.keep hb4); have I4 := hideC hI2; have p3 := D5.out.a.c1; have q3 := D5.out.b.c1; clear hI2)))
  all_goals
    have k1 := D5.out.c1
    obtain ⟨_, A0, A1, A2, _, _, _⟩ := D5.out.a
    obtain ⟨_, B0, B1, B2, _, _, _⟩ := D5.out.b
    rw [HS.out] at A2
    go_wp2_with fail
    refine (CL.out _ D5.out.bl).mono ?_
    rintro e w5 ⟨rfl, hb5⟩
    have DE := hideC (D5.out.keep hb5)
    obtain ⟨_, r0, r1, r2, g0, g1, g2⟩ := DE.out.z
    have hbe := DE.out.bl
    go_wp2_with fail
    refine bodyPost_ret (v := vlV (oneV [35] R1)) (by simp [results, Tryz.results24, go_sem, r0, r1, r2, HR.out]) rfl ⟨rfl, ?_⟩
    have hsz := hbe.size
    go_grown
set_option maxRecDepth 100000 in
set_option maxHeartbeats 4000000 in
theorem rval_neg (bs : List (ByteArray × Vl)) (ae : Option Addr) (ce d : Nat) (hE : ∀ nm so, lookS (bs.map (·.1)) (bs.map (·.2.so)) nm = (so, 0) → (lookV bs nm).good ∧ (lookV bs nm).so = so) (hI : ∀ nm, in64 (lookV bs nm).n) (ih : ∀ d', d' < d → RVal bs ae ce d')
    (nm : ByteArray) (so n : Int) (s : ByteArray) (a : Ex) (ao : Option Addr) (cap B : Nat) (w : World) (sx : Int) (ha : wfX a) (hz : inZ a) (hka : KA w B d [a] ao) (henv : EnvAt w B bs ae) (hB : B ≤ w.heap.size) (hT : Tabs w) (hs : sortX (lookS (bs.map (·.1)) (bs.map (·.2.so))) ⟨3, nm, so, n, s, [a]⟩ = (sx, 0)) (hop : nm.data.toList = [110, 101, 103]) :
    Calls Tryz.prog 24 #[exVal ⟨3, nm, so, n, s, [a]⟩ ao cap, .slice ae bs.length ce] w fun e w' => e = .returned (vlV (oneV nm.data.toList (valX (lookV bs) a))) ∧ Below w.heap.size w w' := by
  have hs1 := one_right _ ⟨3, nm, so, n, s, [a]⟩ a sx rfl rfl hs
  obtain ⟨ga, sa⟩ := sort_val _ (lookV bs) hE a ha _ hs1
  obtain ⟨d', b, o, ao', cap', rfl, rfl, hbB, hex, hxb, hkk⟩ := hka.one
  have F0 := QV.new w nm (.slice (some ⟨b, o, none⟩) 1 cap) so n s
  have cA := ih d' (by omega) a ao' cap' B _ _ ha hz hxb (hkk.keep (F0.bl.mono hB)) (henv.keep (F0.bl.mono hB)) (Nat.le_trans hB F0.bl.size) (tabs_keep w _ hT F0.bl) hs1
  have i1 := val_in (lookV bs) hI a ha hz
  rw [show (⟨3, nm, so, n, s, [a]⟩ : Ex).name = nm from rfl, hop] at sa
  generalize sortX (lookS (bs.map (·.1)) (bs.map (·.2.so))) a = S1 at *
  generalize valX (lookV bs) a = R1 at *
  have HX := hideC hex
  have hbw : b < w.heap.size := Nat.lt_of_lt_of_le hbB hB
  have FH := hideC F0
  have HT := hideC hT
  have y5 := F0.c5
  obtain ⟨y0, y1, y2, y3, y4, y6⟩ := HX.out.keep F0.bl hbw
  clear ih hka henv hex hkk hE hI hs hs1 hT hz ha hxb F0
  simp only [vlV, exVal, List.length_cons, List.length_nil, Nat.zero_add] at cA ⊢
  have CN := hideC (nums_said R1 ⟨0, 0, ⟨#[]⟩⟩ i1 zero64)
  rw [hop]
  have HR := hideC (show vlV (oneV [110, 101, 103] R1) = .agg #[.int .i64 1, .int .i64 (wrap64 (-R1.n)), .string ⟨#[]⟩] from rfl)
  have i1' := i1
  clear ga sa i1
  have nb0 : (nm.toList == [110, 111, 116]) = false := by rw [beqL, hop]; decide
  have nb1 : (nm.toList == [35]) = false := by rw [beqL, hop]; decide
  have nb2 : (nm.toList == [110, 101, 103]) = true := by rw [beqL, hop]; decide
  clear hop
  go_enter Tryz.func24, Tryz.ntmps24
  go_wp2_with fail
  refine cA.mono ?_
  rintro e w1 ⟨rfl, hb1⟩
  clear cA
  have F1 := (FH.out.keep hb1).putA R1
  have D1 := hideC F1
  have u5 := (FH.out.keep hb1).c5
  obtain ⟨_, a0, a1, a2', f0, f1, f2⟩ := (FH.out.keep hb1).a
  have v5 := F1.c5
  clear F1 hb1 FH y0 y1 y2 y3 y4 y5 y6
  unfold st3 at v5
  go_wp2_with fail
  have D3 := D1.out
  unfold st3 at D3
  generalize ((w1.setCell ⟨w.heap.size + 1 + 1, 0, none⟩ (.int .i64 R1.so)).setCell ⟨w.heap.size + 1 + 1, 1, none⟩ (.int .i64 R1.n)).setCell ⟨w.heap.size + 1 + 1, 2, none⟩ (.string R1.s) = W2 at D3 ⊢
  clear D1 a0 a1 a2' f0 f1 f2 
  have p1 := D3.a.c1
  have q1 := D3.b.c1
  have HD := hideC D3
  have MK := hideC trivial
  clear D3 v5 u5
  go_region_held3 (fun w' => w'.cell? ⟨w.heap.size + 1 + 1, 1, none⟩ = some (.int .i64 R1.n) ∧ w'.cell? ⟨w.heap.size + 1 + 1 + 1, 1, none⟩ = some (.int .i64 0)) (go_keep) (first
    | (go_at_call 47; have mk := MK; clear mk MK; go_must (refine (CN.out _ _ (by first | exact .inl rfl | exact .inr rfl)).mono ?_; rintro e w3 ⟨rfl, hI1, hb3⟩; have D4 := hideC ((HD.out.keep (by go_grown)).keep hb3); have I1 := hideC hI1; have p2 := D4.out.a.c1; have q2 := D4.out.b.c1; clear hI1))
    | (go_at_call 47; go_must (refine (CN.out _ _ (by first | exact .inl rfl | exact .inr rfl)).mono ?_; rintro e w4 ⟨rfl, hI2, hb4⟩; have D5 := hideC (D4.out.keep hb4); have I3 := hideC (I1.out.keep hb4); have I4 := hideC hI2; have p3 := D5.out.a.c1; have q3 := D5.out.b.c1; clear hI2)))
  all_goals
    have k1 := D5.out.c1
    obtain ⟨_, A0, A1, A2, _, _, _⟩ := D5.out.a
    obtain ⟨_, B0, B1, B2, _, _, _⟩ := D5.out.b
    go_wp2_with fail
    refine (neg_any _ _ _ _ I3.out (abs_64 _ i1')).mono ?_
    rintro e w5 ⟨rfl, ⟨nn, mm, hi5, hs5, hm5⟩, hb5⟩
    have D6 := hideC (D5.out.keepB hb5 (by first | exact HD.out.b.lt | (have := HD.out.b.lt; simp; omega)))
    go_wp2_with fail
    refine (whole_any _ nn mm _ hi5 hm5).mono ?_
    rintro e w6 ⟨rfl, hb6⟩
    have DE := hideC (D6.out.keep hb6)
    rw [hs5, sg_of]
    obtain ⟨_, r0, r1, r2, g0, g1, g2⟩ := DE.out.z
    have hbe := DE.out.bl
    go_wp2_with fail
    refine bodyPost_ret (v := vlV (oneV [110, 101, 103] R1)) (by simp [results, Tryz.results24, go_sem, r0, r1, r2, HR.out]) rfl ⟨rfl, ?_⟩
    have hsz := hbe.size
    go_grown
end Go.Proofs.YtecapnipkngniaaGreatDoor
