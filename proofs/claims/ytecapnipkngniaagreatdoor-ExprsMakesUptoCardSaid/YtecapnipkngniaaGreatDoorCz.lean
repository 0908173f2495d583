/-
  duetref.ValueOf of an operation of two parts: / %.
-/
import Derived.Test.YtecapnipkngniaaGreatDoorCq
import Derived.Test.YtecapnipkngniaaGreatDoorCf
import Derived.Test.YtecapnipkngniaaGreatDoorCg
import Derived.Test.YtecapnipkngniaaGreatDoorCh
import Derived.Deep.RegionHeld3
import Derived.Test.YtecapnipkngniaaGreatDoorCr
import Derived.Test.YtecapnipkngniaaGreatDoorCs
import Derived.Test.YtecapnipkngniaaGreatDoorCt
import Derived.Test.YtecapnipkngniaaGreatDoorCv
import Derived.Test.YtecapnipkngniaaGreatDoorRc
namespace Go.Proofs.YtecapnipkngniaaGreatDoor
open Go.RowKit Go.Shelf

set_option maxRecDepth 100000 in
set_option maxHeartbeats 4000000 in
theorem rval_quo (bs : List (ByteArray × Vl)) (ae : Option Addr) (ce d : Nat) (hE : ∀ nm so, lookS (bs.map (·.1)) (bs.map (·.2.so)) nm = (so, 0) → (lookV bs nm).good ∧ (lookV bs nm).so = so) (hI : ∀ nm, in64 (lookV bs nm).n) (ih : ∀ d', d' < d → RVal bs ae ce d')
    (nm : ByteArray) (so n : Int) (s : ByteArray) (a : Ex) (a2 : Ex) (ao : Option Addr) (cap B : Nat) (w : World) (sx : Int) (ha : wfX a) (hz : inZ a) (ha2 : wfX a2) (hz2 : inZ a2) (hka : KA w B d [a, a2] ao) (henv : EnvAt w B bs ae) (hB : B ≤ w.heap.size) (hT : Tabs w) (hs : sortX (lookS (bs.map (·.1)) (bs.map (·.2.so))) ⟨3, nm, so, n, s, [a, a2]⟩ = (sx, 0)) (hop : nm.data.toList = [47]) :
    Calls Tryz.prog 24 #[exVal ⟨3, nm, so, n, s, [a, a2]⟩ ao cap, .slice ae bs.length ce] w fun e w' => e = .returned (vlV (twoV nm.data.toList (valX (lookV bs) a) (valX (lookV bs) a2))) ∧ Below w.heap.size w w' := by
  obtain ⟨hs1, hs2⟩ := two_right _ ⟨3, nm, so, n, s, [a, a2]⟩ a a2 sx rfl rfl hs
  obtain ⟨ga, sa⟩ := sort_val _ (lookV bs) hE a ha _ hs1
  obtain ⟨gb, sb⟩ := sort_val _ (lookV bs) hE a2 ha2 _ hs2
  obtain ⟨d', b, o, ao', cap', ao2, cap2, rfl, rfl, hbB, hex, hxb, hkk, hex2, hxb2, hkk2⟩ := hka.two
  have F0 := QV.new w nm (.slice (some ⟨b, o, none⟩) 2 cap) so n s
  have cA := ih d' (by omega) a ao' cap' B _ _ ha hz hxb (hkk.keep (F0.bl.mono hB)) (henv.keep (F0.bl.mono hB)) (Nat.le_trans hB F0.bl.size) (tabs_keep w _ hT F0.bl) hs1
  have i1 := val_in (lookV bs) hI a ha hz
  have cB := fun (W : World) (hW : Below w.heap.size w W) => ih d' (by omega) a2 ao2 cap2 B W _ ha2 hz2 hxb2 (hkk2.keep (hW.mono hB)) (henv.keep (hW.mono hB)) (Nat.le_trans hB hW.size) (tabs_keep w _ hT hW) hs2
  have i2 := val_in (lookV bs) hI a2 ha2 hz2
  rw [show (⟨3, nm, so, n, s, [a, a2]⟩ : Ex).name = nm from rfl, hop] at sa sb
  generalize sortX (lookS (bs.map (·.1)) (bs.map (·.2.so))) a = S1 at *
  generalize sortX (lookS (bs.map (·.1)) (bs.map (·.2.so))) a2 = S2 at *
  generalize valX (lookV bs) a = R1 at *
  generalize valX (lookV bs) a2 = R2 at *
  have HX := hideC hex
  have HX2 := hideC hex2
  have CB := hideC cB
  have hbw : b < w.heap.size := Nat.lt_of_lt_of_le hbB hB
  have FH := hideC F0
  have HT := hideC hT
  have y5 := F0.c5
  obtain ⟨y0, y1, y2, y3, y4, y6⟩ := HX.out.keep F0.bl hbw
  clear ih hka henv hex hkk hE hI hs hs1 hT hz ha hxb F0 hex2 hkk2 hxb2 hs2 hz2 ha2 cB
  simp only [vlV, exVal, List.length_cons, List.length_nil, Nat.zero_add] at cA ⊢
  have CN := hideC (nums_said R1 R2 i1 i2)
  rw [hop]
  have sa2 : R1.so = 1 := sa
  have HN := hideC (int_vl R1 ga sa2)
  have HZ := hideC (fun h : R2.n = 0 => show vlV (twoV [47] R1 R2) = .agg #[.int .i64 1, .int .i64 0, .string ⟨#[]⟩] by show vlV (numV (numZ [47] R1.n R2.n)) = _; rw [h, quo_zero]; rfl)
  have HR := hideC (fun h : R2.n ≠ 0 => show vlV (twoV [47] R1 R2) = .agg #[.int .i64 1, .int .i64 (wrap64 (R1.n.tdiv R2.n)), .string ⟨#[]⟩] by show vlV (numV (numZ [47] R1.n R2.n)) = _; rw [quo_num _ _ h]; rfl)
  have i1' := i1
  have i2' := i2
  clear sa2
  clear ga gb sa sb i1 i2
  have nb0 : (nm.toList == [110, 111, 116]) = false := by rw [beqL, hop]; decide
  have nb1 : (nm.toList == [35]) = false := by rw [beqL, hop]; decide
  have nb2 : (nm.toList == [110, 101, 103]) = false := by rw [beqL, hop]; decide
  have nb3 : (nm.toList == [111, 114]) = false := by rw [beqL, hop]; decide
  have nb4 : (nm.toList == [97, 110, 100]) = false := by rw [beqL, hop]; decide
  have nb5 : (nm.toList == [61, 61]) = false := by rw [beqL, hop]; decide
  have nb6 : (nm.toList == [60]) = false := by rw [beqL, hop]; decide
  have nb7 : (nm.toList == [60, 61]) = false := by rw [beqL, hop]; decide
  have nb8 : (nm.toList == [43, 43]) = false := by rw [beqL, hop]; decide
  have nb9 : (nm.toList == [43]) = false := by rw [beqL, hop]; decide
  have nb10 : (nm.toList == [45]) = false := by rw [beqL, hop]; decide
  have nb11 : (nm.toList == [42]) = false := by rw [beqL, hop]; decide
  have nbq : (nm.toList == [47]) = true := by rw [beqL, hop]; decide
  clear hop
  go_enter Tryz.func24, Tryz.ntmps24
  go_wp2_with fail
  refine cA.mono ?_
  rintro e w1 ⟨rfl, hb1⟩
  clear cA
  have F1 := (FH.out.keep hb1).putA R1
  have D1 := hideC F1
  have u5 := (FH.out.keep hb1).c5
  obtain ⟨_, a0, a1, a2', f0, f1, f2⟩ := (FH.out.keep hb1).a
  have v5 := F1.c5
  clear F1 hb1 FH y0 y1 y2 y3 y4 y5 y6
  obtain ⟨y0, y1, y2, y3, y4, y6⟩ := HX2.out.keep D1.out.bl hbw
  have cB := CB.out _ D1.out.bl
  simp only [vlV, exVal] at cB
  unfold st3 at v5 y0 y1 y2 y3 y4 y6 cB
  go_wp2_with fail
  refine cB.mono ?_
  rintro e w2 ⟨rfl, hb2⟩
  clear cB y0 y1 y2 y3 y4 y6 v5 a0 a1 a2' f0 f1 f2 u5 CB
  have F2 := (D1.out.keep hb2).putB R2
  have D2 := hideC F2
  obtain ⟨_, a0, a1, a2', f0, f1, f2⟩ := (D1.out.keep hb2).b
  clear F2 hb2 D1
  go_wp2_with fail
  have D3 := D2.out
  unfold st3 at D3
  generalize ((w2.setCell ⟨w.heap.size + 1 + 1 + 1, 0, none⟩ (.int .i64 R2.so)).setCell ⟨w.heap.size + 1 + 1 + 1, 1, none⟩ (.int .i64 R2.n)).setCell ⟨w.heap.size + 1 + 1 + 1, 2, none⟩ (.string R2.s) = W2 at D3 ⊢
  clear D2 a0 a1 a2' f0 f1 f2 
  have p1 := D3.a.c1
  have q1 := D3.b.c1
  have HD := hideC D3
  have MK := hideC trivial
  clear D3
  go_region_held3 (fun w' => w'.cell? ⟨w.heap.size + 1 + 1, 1, none⟩ = some (.int .i64 R1.n) ∧ w'.cell? ⟨w.heap.size + 1 + 1 + 1, 1, none⟩ = some (.int .i64 R2.n)) (go_keep) (first
    | (go_at_call 47; have mk := MK; clear mk MK; go_must (refine (CN.out _ _ (by first | exact .inl rfl | exact .inr rfl)).mono ?_; rintro e w3 ⟨rfl, hI1, hb3⟩; have D4 := hideC ((HD.out.keep (by go_grown)).keep hb3); have I1 := hideC hI1; have p2 := D4.out.a.c1; have q2 := D4.out.b.c1; clear hI1))
    | (go_at_call 47; go_must (refine (CN.out _ _ (by first | exact .inl rfl | exact .inr rfl)).mono ?_; rintro e w4 ⟨rfl, hI2, hb4⟩; have D5 := hideC (D4.out.keep hb4); have I3 := hideC (I1.out.keep hb4); have I4 := hideC hI2; have p3 := D5.out.a.c1; have q3 := D5.out.b.c1; clear hI2)))
  all_goals
    have k1 := D5.out.c1
    obtain ⟨_, A0, A1, A2, _, _, _⟩ := D5.out.a
    obtain ⟨_, B0, B1, B2, _, _, _⟩ := D5.out.b
    by_cases h0 : R2.n = 0
    · have h0b : (R2.n == 0) = true := by simpa using h0
      have HZ2 := hideC (HZ.out h0)
      obtain ⟨_, r0, r1, r2, g0, g1, g2⟩ := D5.out.z
      have hbe := D5.out.bl
      clear h0
      go_wp2_with fail
      refine bodyPost_ret (v := vlV (twoV [47] R1 R2)) (by rw [HZ2.out]; simp [results, Tryz.results24, go_sem, r0, r1, r2]) rfl ⟨rfl, ?_⟩
      have hsz := hbe.size
      go_grown
    · have h0b : (R2.n == 0) = false := by simpa using h0
      have HR2 := hideC (HR.out h0)
      have hn0 : R2.n.natAbs ≠ 0 := by omega
      have HN0 := hideC hn0
      clear h0 hn0
      go_wp2_with fail
      refine (quo_any _ _ _ _ _ _ _ I3.out I4.out (abs_64 _ i1') (abs_64 _ i2') HN0.out).mono ?_
      rintro e w5 ⟨rfl, ⟨nn, mm, hi5, hs5, hm5⟩, hb5⟩
      have D6 := hideC (D5.out.keepB hb5 (by first | exact HD.out.b.lt | (have := HD.out.b.lt; simp; omega)))
      go_wp2_with fail
      refine (whole_any _ nn mm _ hi5 hm5).mono ?_
      rintro e w6 ⟨rfl, hb6⟩
      have DE := hideC (D6.out.keep hb6)
      rw [hs5, sg_of, sg_of]
      obtain ⟨_, r0, r1, r2, g0, g1, g2⟩ := DE.out.z
      have hbe := DE.out.bl
      go_wp2_with fail
      refine bodyPost_ret (v := vlV (twoV [47] R1 R2)) (by simp [results, Tryz.results24, go_sem, r0, r1, r2, HR2.out]) rfl ⟨rfl, ?_⟩
      have hsz := hbe.size
      go_grown
set_option maxRecDepth 100000 in
set_option maxHeartbeats 4000000 in
theorem rval_rem (bs : List (ByteArray × Vl)) (ae : Option Addr) (ce d : Nat) (hE : ∀ nm so, lookS (bs.map (·.1)) (bs.map (·.2.so)) nm = (so, 0) → (lookV bs nm).good ∧ (lookV bs nm).so = so) (hI : ∀ nm, in64 (lookV bs nm).n) (ih : ∀ d', d' < d → RVal bs ae ce d')
    (nm : ByteArray) (so n : Int) (s : ByteArray) (a : Ex) (a2 : Ex) (ao : Option Addr) (cap B : Nat) (w : World) (sx : Int) (ha : wfX a) (hz : inZ a) (ha2 : wfX a2) (hz2 : inZ a2) (hka : KA w B d [a, a2] ao) (henv : EnvAt w B bs ae) (hB : B ≤ w.heap.size) (hT : Tabs w) (hs : sortX (lookS (bs.map (·.1)) (bs.map (·.2.so))) ⟨3, nm, so, n, s, [a, a2]⟩ = (sx, 0)) (hop : nm.data.toList = [37]) :
    Calls Tryz.prog 24 #[exVal ⟨3, nm, so, n, s, [a, a2]⟩ ao cap, .slice ae bs.length ce] w fun e w' => e = .returned (vlV (twoV nm.data.toList (valX (lookV bs) a) (valX (lookV bs) a2))) ∧ Below w.heap.size w w' := by
  obtain ⟨hs1, hs2⟩ := two_right _ ⟨3, nm, so, n, s, [a, a2]⟩ a a2 sx rfl rfl hs
  obtain ⟨ga, sa⟩ := sort_val _ (lookV bs) hE a ha _ hs1
  obtain ⟨gb, sb⟩ := sort_val _ (lookV bs) hE a2 ha2 _ hs2
  obtain ⟨d', b, o, ao', cap', ao2, cap2, rfl, rfl, hbB, hex, hxb, hkk, hex2, hxb2, hkk2⟩ := hka.two
  have F0 := QV.new w nm (.slice (some ⟨b, o, none⟩) 2 cap) so n s
  have cA := ih d' (by omega) a ao' cap' B _ _ ha hz hxb (hkk.keep (F0.bl.mono hB)) (henv.keep (F0.bl.mono hB)) (Nat.le_trans hB F0.bl.size) (tabs_keep w _ hT F0.bl) hs1
  have i1 := val_in (lookV bs) hI a ha hz
  have cB := fun (W : World) (hW : Below w.heap.size w W) => ih d' (by omega) a2 ao2 cap2 B W _ ha2 hz2 hxb2 (hkk2.keep (hW.mono hB)) (henv.keep (hW.mono hB)) (Nat.le_trans hB hW.size) (tabs_keep w _ hT hW) hs2
  have i2 := val_in (lookV bs) hI a2 ha2 hz2
  rw [show (⟨3, nm, so, n, s, [a, a2]⟩ : Ex).name = nm from rfl, hop] at sa sb
  generalize sortX (lookS (bs.map (·.1)) (bs.map (·.2.so))) a = S1 at *
  generalize sortX (lookS (bs.map (·.1)) (bs.map (·.2.so))) a2 = S2 at *
  generalize valX (lookV bs) a = R1 at *
  generalize valX (lookV bs) a2 = R2 at *
  have HX := hideC hex
  have HX2 := hideC hex2
  have CB := hideC cB
  have hbw : b < w.heap.size := Nat.lt_of_lt_of_le hbB hB
  have FH := hideC F0
  have HT := hideC hT
  have y5 := F0.c5
  obtain ⟨y0, y1, y2, y3, y4, y6⟩ := HX.out.keep F0.bl hbw
  clear ih hka henv hex hkk hE hI hs hs1 hT hz ha hxb F0 hex2 hkk2 hxb2 hs2 hz2 ha2 cB
  simp only [vlV, exVal, List.length_cons, List.length_nil, Nat.zero_add] at cA ⊢
  have CN := hideC (nums_said R1 R2 i1 i2)
  rw [hop]
  have sa2 : R1.so = 1 := sa
  have HN := hideC (int_vl R1 ga sa2)
  have HZ := hideC (fun h : R2.n = 0 => show vlV (twoV [37] R1 R2) = vlV R1 by show vlV (numV (numZ [37] R1.n R2.n)) = _; rw [h, rem_zero _ i1]; rw [← int_vl R1 ga sa2])
  have HR := hideC (fun h : R2.n ≠ 0 => show vlV (twoV [37] R1 R2) = .agg #[.int .i64 1, .int .i64 (wrap64 (R1.n.tmod R2.n)), .string ⟨#[]⟩] by show vlV (numV (numZ [37] R1.n R2.n)) = _; rw [rem_num _ _ h]; rfl)
  have i1' := i1
  have i2' := i2
  clear sa2
  clear ga gb sa sb i1 i2
  have nb0 : (nm.toList == [110, 111, 116]) = false := by rw [beqL, hop]; decide
  have nb1 : (nm.toList == [35]) = false := by rw [beqL, hop]; decide
  have nb2 : (nm.toList == [110, 101, 103]) = false := by rw [beqL, hop]; decide
  have nb3 : (nm.toList == [111, 114]) = false := by rw [beqL, hop]; decide
  have nb4 : (nm.toList == [97, 110, 100]) = false := by rw [beqL, hop]; decide
  have nb5 : (nm.toList == [61, 61]) = false := by rw [beqL, hop]; decide
  have nb6 : (nm.toList == [60]) = false := by rw [beqL, hop]; decide
  have nb7 : (nm.toList == [60, 61]) = false := by rw [beqL, hop]; decide
  have nb8 : (nm.toList == [43, 43]) = false := by rw [beqL, hop]; decide
  have nb9 : (nm.toList == [43]) = false := by rw [beqL, hop]; decide
  have nb10 : (nm.toList == [45]) = false := by rw [beqL, hop]; decide
  have nb11 : (nm.toList == [42]) = false := by rw [beqL, hop]; decide
  have nbq : (nm.toList == [47]) = false := by rw [beqL, hop]; decide
  clear hop
  go_enter Tryz.func24, Tryz.ntmps24
  go_wp2_with fail
  refine cA.mono ?_
  rintro e w1 ⟨rfl, hb1⟩
  clear cA
  have F1 := (FH.out.keep hb1).putA R1
  have D1 := hideC F1
  have u5 := (FH.out.keep hb1).c5
  obtain ⟨_, a0, a1, a2', f0, f1, f2⟩ := (FH.out.keep hb1).a
  have v5 := F1.c5
  clear F1 hb1 FH y0 y1 y2 y3 y4 y5 y6
  obtain ⟨y0, y1, y2, y3, y4, y6⟩ := HX2.out.keep D1.out.bl hbw
  have cB := CB.out _ D1.out.bl
  simp only [vlV, exVal] at cB
  unfold st3 at v5 y0 y1 y2 y3 y4 y6 cB
  go_wp2_with fail
  refine cB.mono ?_
  rintro e w2 ⟨rfl, hb2⟩
  clear cB y0 y1 y2 y3 y4 y6 v5 a0 a1 a2' f0 f1 f2 u5 CB
  have F2 := (D1.out.keep hb2).putB R2
  have D2 := hideC F2
  obtain ⟨_, a0, a1, a2', f0, f1, f2⟩ := (D1.out.keep hb2).b
  clear F2 hb2 D1
  go_wp2_with fail
  have D3 := D2.out
  unfold st3 at D3
  generalize ((w2.setCell ⟨w.heap.size + 1 + 1 + 1, 0, none⟩ (.int .i64 R2.so)).setCell ⟨w.heap.size + 1 + 1 + 1, 1, none⟩ (.int .i64 R2.n)).setCell ⟨w.heap.size + 1 + 1 + 1, 2, none⟩ (.string R2.s) = W2 at D3 ⊢
  clear D2 a0 a1 a2' f0 f1 f2 
  have p1 := D3.a.c1
  have q1 := D3.b.c1
  have HD := hideC D3
  have MK := hideC trivial
  clear D3
  go_region_held3 (fun w' => w'.cell? ⟨w.heap.size + 1 + 1, 1, none⟩ = some (.int .i64 R1.n) ∧ w'.cell? ⟨w.heap.size + 1 + 1 + 1, 1, none⟩ = some (.int .i64 R2.n)) (go_keep) (first
    | (go_at_call 47; have mk := MK; clear mk MK; go_must (refine (CN.out _ _ (by first | exact .inl rfl | exact .inr rfl)).mono ?_; rintro e w3 ⟨rfl, hI1, hb3⟩; have D4 := hideC ((HD.out.keep (by go_grown)).keep hb3); have I1 := hideC hI1; have p2 := D4.out.a.c1; have q2 := D4.out.b.c1; clear hI1))
    | (go_at_call 47; go_must (refine (CN.out _ _ (by first | exact .inl rfl | exact .inr rfl)).mono ?_; rintro e w4 ⟨rfl, hI2, hb4⟩; have D5 := hideC (D4.out.keep hb4); have I3 := hideC (I1.out.keep hb4); have I4 := hideC hI2; have p3 := D5.out.a.c1; have q3 := D5.out.b.c1; clear hI2)))
  all_goals
    have k1 := D5.out.c1
    obtain ⟨_, A0, A1, A2, _, _, _⟩ := D5.out.a
    obtain ⟨_, B0, B1, B2, _, _, _⟩ := D5.out.b
    by_cases h0 : R2.n = 0
    · have h0b : (R2.n == 0) = true := by simpa using h0
      have HZ2 := hideC (HZ.out h0)
      obtain ⟨_, r0, r1, r2, g0, g1, g2⟩ := D5.out.z
      have hbe := D5.out.bl
      clear h0
      go_wp2_with fail
      refine bodyPost_ret (v := vlV (twoV [37] R1 R2)) (by rw [HZ2.out]; simp [results, Tryz.results24, go_sem, r0, r1, r2, vlV]) rfl ⟨rfl, ?_⟩
      have hsz := hbe.size
      go_grown
    · have h0b : (R2.n == 0) = false := by simpa using h0
      have HR2 := hideC (HR.out h0)
      have hn0 : R2.n.natAbs ≠ 0 := by omega
      have HN0 := hideC hn0
      clear h0 hn0
      go_wp2_with fail
      refine (rem_any _ _ _ _ _ _ _ I3.out I4.out (abs_64 _ i1') (abs_64 _ i2') HN0.out).mono ?_
      rintro e w5 ⟨rfl, ⟨nn, mm, hi5, hs5, hm5⟩, hb5⟩
      have D6 := hideC (D5.out.keepB hb5 (by first | exact HD.out.b.lt | (have := HD.out.b.lt; simp; omega)))
      go_wp2_with fail
      refine (whole_any _ nn mm _ hi5 hm5).mono ?_
      rintro e w6 ⟨rfl, hb6⟩
      have DE := hideC (D6.out.keep hb6)
      rw [hs5, sg_of, sg_of]
      obtain ⟨_, r0, r1, r2, g0, g1, g2⟩ := DE.out.z
      have hbe := DE.out.bl
      go_wp2_with fail
      refine bodyPost_ret (v := vlV (twoV [37] R1 R2)) (by simp [results, Tryz.results24, go_sem, r0, r1, r2, HR2.out]) rfl ⟨rfl, ?_⟩
      have hsz := hbe.size
      go_grown
end Go.Proofs.YtecapnipkngniaaGreatDoor
/-
  The contract of duetref.ValueOf, for every right expression whose sort is right.
-/
namespace Go.Proofs.YtecapnipkngniaaGreatDoor
open Go.RowKit Go.Shelf

theorem rval_all (bs : List (ByteArray × Vl)) (ae : Option Addr) (ce : Nat) (hE : ∀ nm so, lookS (bs.map (·.1)) (bs.map (·.2.so)) nm = (so, 0) → (lookV bs nm).good ∧ (lookV bs nm).so = so) (hI : ∀ nm, in64 (lookV bs nm).n) (d : Nat) : RVal bs ae ce d := by
  induction d using Nat.strongRecOn with
  | _ d ih =>
    intro x ao cap B w sx hw hz hbd hka henv hB hT hs
    have hzk := ((inZ_eq x).1 hz).2
    rcases wf_cases x hw with ⟨h, hk, _⟩ | ⟨h, hk, _⟩ | ⟨h, a, hk, ha, hop⟩ | ⟨h, a, a2, hk, ha, ha2, hop⟩
    · rw [val_lit _ x h]; exact rval_lit x ao ae cap bs.length ce w h
    · rw [val_name _ x h]; exact rval_name bs ae ce x ao cap B w h henv hB
    · rw [val_one _ x a h hk]
      obtain ⟨kd, nm, so, n, s, ks⟩ := x
      simp only at h hk hop hka hzk ⊢
      subst h hk
      have hz1 := hzk a (.head _)
      rcases hop with e | e | e
      · exact rval_not bs ae ce d hE hI ih nm so n s a ao cap B w sx ha hz1 hka henv hB hT hs e
      · exact rval_neg bs ae ce d hE hI ih nm so n s a ao cap B w sx ha hz1 hka henv hB hT hs e
      · exact rval_len bs ae ce d hE hI ih nm so n s a ao cap B w sx ha hz1 hka henv hB hT hs e
    · rw [val_two _ x a a2 h hk]
      obtain ⟨kd, nm, so, n, s, ks⟩ := x
      simp only at h hk hop hka hzk ⊢
      subst h hk
      have hz1 := hzk a (.head _)
      have hz2 := hzk a2 (.tail _ (.head _))
      rcases lvl_pos _ hop with e | e | e | e | e | e | e | e | e | e | e
      · exact rval_or bs ae ce d hE hI ih nm so n s a a2 ao cap B w sx ha hz1 ha2 hz2 hka henv hB hT hs e
      · exact rval_and bs ae ce d hE hI ih nm so n s a a2 ao cap B w sx ha hz1 ha2 hz2 hka henv hB hT hs e
      · exact rval_eq bs ae ce d hE hI ih nm so n s a a2 ao cap B w sx ha hz1 ha2 hz2 hka henv hB hT hs e
      · exact rval_lt bs ae ce d hE hI ih nm so n s a a2 ao cap B w sx ha hz1 ha2 hz2 hka henv hB hT hs e
      · exact rval_le bs ae ce d hE hI ih nm so n s a a2 ao cap B w sx ha hz1 ha2 hz2 hka henv hB hT hs e
      · exact rval_add bs ae ce d hE hI ih nm so n s a a2 ao cap B w sx ha hz1 ha2 hz2 hka henv hB hT hs e
      · exact rval_sub bs ae ce d hE hI ih nm so n s a a2 ao cap B w sx ha hz1 ha2 hz2 hka henv hB hT hs e
      · exact rval_cat bs ae ce d hE hI ih nm so n s a a2 ao cap B w sx ha hz1 ha2 hz2 hka henv hB hT hs e
      · exact rval_mul bs ae ce d hE hI ih nm so n s a a2 ao cap B w sx ha hz1 ha2 hz2 hka henv hB hT hs e
      · exact rval_quo bs ae ce d hE hI ih nm so n s a a2 ao cap B w sx ha hz1 ha2 hz2 hka henv hB hT hs e
      · exact rval_rem bs ae ce d hE hI ih nm so n s a a2 ao cap B w sx ha hz1 ha2 hz2 hka henv hB hT hs e
end Go.Proofs.YtecapnipkngniaaGreatDoor

/-
  An expression while its Kids are appended one by one: what lies in memory; a Kid more; the end.
-/
namespace Go.Proofs.YtecapnipkngniaaGreatDoor
open Go.RowKit Go.Shelf

theorem eCs_atQ : ∀ (ts : List Tk) (i : Nat) (h : i < ts.length) (j : Nat), j < 6 → (eCs ts)[i * 6 + j]? = (eC ts[i])[j]?
  | [], i, h, _, _ => by simp at h
  | t :: ts, 0, _, j, hj => by
    have e : eCs (t :: ts) = eC t ++ eCs ts := rfl
    rw [e, Nat.zero_mul, Nat.zero_add, List.getElem?_append_left (show j < (eC t).length from hj)]
    rfl
  | t :: ts, i + 1, h, j, hj => by
    have e : eCs (t :: ts) = eC t ++ eCs ts := rfl
    have hl : (eC t).length = 6 := rfl
    rw [e, List.getElem?_append_right (by omega), hl, show (i + 1) * 6 + j - 6 = i * 6 + j by omega, eCs_atQ ts i (by simpa using h) j hj]
    rfl
theorem exAt_row {W : World} {g : Nat} {ts : List Tk} (hc : ∀ j y, (eCs ts)[j]? = some y → W.cell? ⟨g, j, none⟩ = some y) (i : Nat) (h : i < ts.length) : ExAt W g (i * 6) ts[i].1 ts[i].2.1 ts[i].2.2 :=
  ⟨hc (i * 6 + 0) _ ((eCs_atQ ts i h 0 (by omega)).trans rfl), hc _ _ ((eCs_atQ ts i h 1 (by omega)).trans rfl), hc _ _ ((eCs_atQ ts i h 2 (by omega)).trans rfl), hc _ _ ((eCs_atQ ts i h 3 (by omega)).trans rfl), hc _ _ ((eCs_atQ ts i h 4 (by omega)).trans rfl), hc _ _ ((eCs_atQ ts i h 5 (by omega)).trans rfl)⟩
/-- an expression in block pb to which the first k Kids, each turned by G, are appended -/
structure BL (w : World) (x : Ex) (ao : Option Addr) (cap : Nat) (G : Ex → Ex) (d zb pb k : Nat) (tks : List Tk) (u : Value) (W : World) : Prop where
  xa : ExAt W w.heap.size 0 x ao cap
  z : ZE W zb
  o0 : W.cell? ⟨pb, 0, none⟩ = some (.int .i64 x.kind)
  o1 : W.cell? ⟨pb, 1, none⟩ = some (.string x.name)
  o2 : W.cell? ⟨pb, 2, none⟩ = some (.int .i64 x.so)
  o3 : W.cell? ⟨pb, 3, none⟩ = some (.int .i64 x.n)
  o4 : W.cell? ⟨pb, 4, none⟩ = some (.string x.s)
  o5 : W.cell? ⟨pb, 5, none⟩ = some u
  fr : ∀ o, W.frozen? ⟨pb, o, none⟩ = false
  bw : w.heap.size ≤ zb
  zl : zb < pb
  xl : w.heap.size < pb
  pl : pb < W.heap.size
  own : W.ownsRow (pb + 1) 26 6 u k (eCs tks)
  map : tks.map (·.1) = (x.kids.take k).map G
  kid : ∀ t ∈ tks, ExBd t.1 t.2.2 ∧ KR W (fun b => pb < b ∧ b < W.heap.size ∧ u.ownBlock ≠ some b) d t.1.kids t.2.1
  bl : Below w.heap.size w W
theorem ExAt.keepO {W W' : World} {b o : Nat} {x : Ex} {ao : Option Addr} {cap : Nat} (h : ExAt W b o x ao cap) (hc : ∀ o, W'.cell? ⟨b, o, none⟩ = W.cell? ⟨b, o, none⟩) : ExAt W' b o x ao cap :=
  ⟨(hc _).trans h.c0, (hc _).trans h.c1, (hc _).trans h.c2, (hc _).trans h.c3, (hc _).trans h.c4, (hc _).trans h.c5⟩
theorem ZE.keepO {W W' : World} {b : Nat} (h : ZE W b) (hl : b < W'.heap.size) (hc : ∀ o, W'.cell? ⟨b, o, none⟩ = W.cell? ⟨b, o, none⟩) (hf : ∀ o, W'.frozen? ⟨b, o, none⟩ = W.frozen? ⟨b, o, none⟩) : ZE W' b :=
  ⟨hl, (hc _).trans h.c0, (hc _).trans h.c1, (hc _).trans h.c2, (hc _).trans h.c3, (hc _).trans h.c4, (hc _).trans h.c5, fun o => (hf o).trans (h.f o)⟩
theorem BL.keep {w : World} {x : Ex} {ao : Option Addr} {cap : Nat} {G : Ex → Ex} {d zb pb k : Nat} {tks : List Tk} {u : Value} {W W' : World} (h : BL w x ao cap G d zb pb k tks u W) (hb : Below W.heap.size W W') : BL w x ao cap G d zb pb k tks u W' := by
  have hl := h.pl
  have hx := h.xl
  have hz := h.zl
  have hs := hb.size
  have hc : ∀ b o, b < W.heap.size → W'.cell? ⟨b, o, none⟩ = W.cell? ⟨b, o, none⟩ := fun b o hq => hb.cell (p := ⟨b, o, none⟩) hq
  have hf : ∀ b o, b < W.heap.size → W'.frozen? ⟨b, o, none⟩ = W.frozen? ⟨b, o, none⟩ := fun b o hq => hb.frozen (p := ⟨b, o, none⟩) hq
  exact ⟨h.xa.keepO (fun o => hc _ o (by omega)), h.z.keep hb, (hc _ _ hl).trans h.o0, (hc _ _ hl).trans h.o1, (hc _ _ hl).trans h.o2, (hc _ _ hl).trans h.o3, (hc _ _ hl).trans h.o4, (hc _ _ hl).trans h.o5, fun o => (hf _ o hl).trans (h.fr o), h.bw, h.zl, h.xl, by omega, own_below h.own hb, h.map,
    fun t ht => ⟨(h.kid t ht).1, (h.kid t ht).2.keep (fun b o hq => hc b o hq.2.1) (fun b hq => ⟨hq.1, by omega, hq.2.2⟩)⟩, h.bl.trans (hb.mono h.bl.size)⟩
theorem BL.add {w : World} {x : Ex} {ao : Option Addr} {cap : Nat} {G : Ex → Ex} {d zb pb k : Nat} {tks : List Tk} {u : Value} {W : World} (h : BL w x ao cap G d zb pb k tks u W) (t : Tk) (hk : k < x.kids.length) (ht : t.1 = G x.kids[k]) (hbd : ExBd t.1 t.2.2) (H : Nat) (hkr : KR W (fun b => H ≤ b ∧ b < W.heap.size) d t.1.kids t.2.1) (hH : ∀ g, u.ownBlock = some g → g < H) (hpH : pb < H)
    {ob : Obj} {W4 : World} {u4 : Value} (hg : (W.alloc ob).grownBy W4 u.ownBlock) (hO : W4.ownsRow (pb + 1) 26 6 u4 (k + 1) (eCs tks ++ eC t)) (hn : u4.ownBlock = u.ownBlock ∨ u4.ownBlock = some (W.alloc ob).heap.size) :
    BL w x ao cap G d zb pb (k + 1) (tks ++ [t]) u4 (W4.setCell ⟨pb, 5, none⟩ u4) := by
  have hl := h.pl
  have hx := h.xl
  have hz := h.zl
  have hbw := h.bw
  have hs : W.heap.size < W4.heap.size := by have := hg.size; simp at this; omega
  have hs4 : (W4.setCell ⟨pb, 5, none⟩ u4).heap.size = W4.heap.size := by simp
  have hblk : ∀ b, b < W.heap.size → u.ownBlock ≠ some b → W4.heap[b]? = W.heap[b]? := fun b h1 h2 => (hg.block b (by simp; omega) (fun e => h2 e.symm)).trans (heap_alloc_old W ob h1)
  have hpo : u.ownBlock ≠ some pb := fun e => by have := (h.own.lt pb e).1; omega
  have hp4 : ∀ o, W4.cell? ⟨pb, o, none⟩ = W.cell? ⟨pb, o, none⟩ := fun o => World.cell?_of_block (a := ⟨pb, o, none⟩) (hblk pb hl hpo)
  have hpf : ∀ o, W4.frozen? ⟨pb, o, none⟩ = W.frozen? ⟨pb, o, none⟩ := fun o => World.frozen?_of_block (a := ⟨pb, o, none⟩) (hblk pb hl hpo)
  have hc : ∀ b o, b < W.heap.size → u.ownBlock ≠ some b → b ≠ pb → (W4.setCell ⟨pb, 5, none⟩ u4).cell? ⟨b, o, none⟩ = W.cell? ⟨b, o, none⟩ := fun b o h1 h2 h3 => (World.cell?_setCell_other _ _ _ _ (by intro c; injection c; omega)).trans (World.cell?_of_block (a := ⟨b, o, none⟩) (hblk b h1 h2))
  have hf : ∀ b o, b < W.heap.size → u.ownBlock ≠ some b → (W4.setCell ⟨pb, 5, none⟩ u4).frozen? ⟨b, o, none⟩ = W.frozen? ⟨b, o, none⟩ := fun b o h1 h2 => (World.frozen?_setCell _ _ _ _).trans (World.frozen?_of_block (a := ⟨b, o, none⟩) (hblk b h1 h2))
  have hoth : ∀ o, o ≠ 5 → (W4.setCell ⟨pb, 5, none⟩ u4).cell? ⟨pb, o, none⟩ = W.cell? ⟨pb, o, none⟩ := fun o ho => (World.cell?_setCell_other _ _ _ _ (by intro c; injection c; omega)).trans (hp4 o)
  have hlow : ∀ b, b ≤ pb → u.ownBlock ≠ some b := fun b hb e => by have := (h.own.lt b e).1; omega
  have hnew : ∀ b, b < W.heap.size → u.ownBlock ≠ some b → u4.ownBlock ≠ some b := fun b h1 h2 e => by
    rcases hn with e1 | e1
    · rw [e1] at e; exact h2 e
    · rw [e1] at e; injection e with e; simp at e; omega
  refine ⟨h.xa.keepO (fun o => hc _ o (by omega) (hlow _ (by omega)) (by omega)), h.z.keepO (by omega) (fun o => hc _ o (by omega) (hlow _ (by omega)) (by omega)) (fun o => hf _ o (by omega) (hlow _ (by omega))), (hoth 0 (by omega)).trans h.o0, (hoth 1 (by omega)).trans h.o1, (hoth 2 (by omega)).trans h.o2, (hoth 3 (by omega)).trans h.o3, (hoth 4 (by omega)).trans h.o4, World.cell?_setCell_same _ _ _ ((hp4 5).trans h.o5), fun o => (hf _ o hl hpo).trans (h.fr o), h.bw, h.zl, h.xl, by omega, ?_, ?_, ?_, ?_⟩
  · rw [eCs_app]
    refine ownsRow_setCell_below (e := 26) ?_ (show pb < pb + 1 by omega) u4
    simpa [eCs] using hO
  · rw [List.map_append, h.map, List.take_succ_eq_append_getElem hk, List.map_append]
    simp [ht]
  · intro t' ht'
    rcases List.mem_append.1 ht' with h1 | h1
    · exact ⟨(h.kid t' h1).1, (h.kid t' h1).2.keep (fun b o hq => hc b o hq.2.1 hq.2.2 (by omega)) (fun b hq => ⟨hq.1, by omega, hnew b hq.2.1 hq.2.2⟩)⟩
    · rw [List.mem_singleton] at h1
      subst h1
      exact ⟨hbd, hkr.keep (fun b o hq => hc b o hq.2 (fun e => by have := hH b e; omega) (by omega)) (fun b hq => ⟨by omega, by omega, hnew b hq.2 (fun e => by have := hH b e; omega)⟩)⟩
  · have hB : Below w.heap.size w (W.alloc ob) := h.bl.alloc h.bl.size _
    have hB4 : Below w.heap.size w W4 := hB.grown hg hB.size (fun q hq => by have := (h.own.lt q hq).1; omega)
    exact hB4.setCell (p := ⟨pb, 5, none⟩) (by show w.heap.size ≤ pb; omega) u4
/-- all Kids are there -/
theorem BL.done {w : World} {x : Ex} {ao : Option Addr} {cap : Nat} {G : Ex → Ex} {d zb pb : Nat} {tks : List Tk} {u : Value} {W W' : World} (h : BL w x ao cap G d zb pb x.kids.length tks u W) (hx : ExBd x cap) (hs : W'.heap.size = W.heap.size) (hc : ∀ b o, pb < b → W'.cell? ⟨b, o, none⟩ = W.cell? ⟨b, o, none⟩) :
    ∃ ao' cap', u = .slice ao' x.kids.length cap' ∧ KR W' (fun b => w.heap.size ≤ b ∧ b < W'.heap.size) (d + 1) (x.kids.map G) ao' ∧ ExBd ⟨x.kind, x.name, x.so, x.n, x.s, x.kids.map G⟩ cap' := by
  have hxl := h.xl
  have hm := h.map
  rw [List.take_length] at hm
  have hlen : tks.length = x.kids.length := by have := congrArg List.length hm; simpa using this
  have hO := h.own
  rcases hO.2 with ⟨rfl, h0⟩ | ⟨g, c, cur, rfl, hb, hg, hnc, hmx, _⟩
  · refine ⟨none, 0, by rw [h0], KR.of_nil (by rw [List.length_eq_zero_iff.1 h0]; rfl), ⟨hx.name, hx.s, hx.n0, hx.n1, by simp [h0], by decide⟩⟩
  · obtain ⟨g', c', e, hb', hgl, hcell⟩ := (own_cells hO).resolve_left (fun h => by cases h.1)
    injection e with e1 _ e3
    injection e1 with e1; injection e1 with e1
    subst e1 e3
    refine ⟨_, _, rfl, ?_, ⟨hx.name, hx.s, hx.n0, hx.n1, by simpa using hnc, by unfold maxLen at hmx; omega⟩⟩
    refine .inr ⟨g, 0, rfl, ⟨by omega, by omega⟩, fun i hi => ?_⟩
    have hi' : i < tks.length := by rw [hlen]; simpa using hi
    have ei : (x.kids.map G)[i] = tks[i].1 := by
      have := List.getElem_of_eq hm.symm hi
      rw [this, List.getElem_map]
    rw [ei, Nat.zero_add]
    have hk := h.kid tks[i] (List.getElem_mem hi')
    exact ⟨_, _, (exAt_row hcell i hi').keepO (fun o => hc g o (by omega)), hk.1, hk.2.keep (fun b o hq => hc b o hq.1) (fun b hq => ⟨by omega, by omega⟩)⟩
end Go.Proofs.YtecapnipkngniaaGreatDoor
