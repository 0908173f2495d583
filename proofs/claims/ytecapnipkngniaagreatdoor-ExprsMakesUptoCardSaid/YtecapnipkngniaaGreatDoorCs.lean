/-
  duetref.ValueOf of an operation of two parts: or and.
-/
import Derived.Test.YtecapnipkngniaaGreatDoorCq
import Derived.Test.YtecapnipkngniaaGreatDoorCf
import Derived.Test.YtecapnipkngniaaGreatDoorCg
import Derived.Test.YtecapnipkngniaaGreatDoorCh
import Derived.Deep.RegionHeld3
namespace Go.Proofs.YtecapnipkngniaaGreatDoor
open Go.RowKit Go.Shelf

set_option maxRecDepth 100000 in
set_option maxHeartbeats 4000000 in
theorem rval_or (bs : List (ByteArray × Vl)) (ae : Option Addr) (ce d : Nat) (hE : ∀ nm so, lookS (bs.map (·.1)) (bs.map (·.2.so)) nm = (so, 0) → (lookV bs nm).good ∧ (lookV bs nm).so = so) (hI : ∀ nm, in64 (lookV bs nm).n) (ih : ∀ d', d' < d → RVal bs ae ce d')
    (nm : ByteArray) (so n : Int) (s : ByteArray) (a : Ex) (a2 : Ex) (ao : Option Addr) (cap B : Nat) (w : World) (sx : Int) (ha : wfX a) (hz : inZ a) (ha2 : wfX a2) (hz2 : inZ a2) (hka : KA w B d [a, a2] ao) (henv : EnvAt w B bs ae) (hB : B ≤ w.heap.size) (hT : Tabs w) (hs : sortX (lookS (bs.map (·.1)) (bs.map (·.2.so))) ⟨3, nm, so, n, s, [a, a2]⟩ = (sx, 0)) (hop : nm.data.toList = [111, 114]) :
    Calls Tryz.prog 24 #[exVal ⟨3, nm, so, n, s, [a, a2]⟩ ao cap, .slice ae bs.length ce] w fun e w' => e = .returned (vlV (twoV nm.data.toList (valX (lookV bs) a) (valX (lookV bs) a2))) ∧ Below w.heap.size w w' := by
  obtain ⟨hs1, hs2⟩ := two_right _ ⟨3, nm, so, n, s, [a, a2]⟩ a a2 sx rfl rfl hs
  obtain ⟨ga, sa⟩ := sort_val _ (lookV bs) hE a ha _ hs1
  obtain ⟨gb, sb⟩ := sort_val _ (lookV bs) hE a2 ha2 _ hs2
  obtain ⟨d', b, o, ao', cap', ao2, cap2, rfl, rfl, hbB, hex, hxb, hkk, hex2, hxb2, hkk2⟩ := hka.two
  have F0 := QV.new w nm (.slice (some ⟨b, o, none⟩) 2 cap) so n s
  have cA := ih d' (by omega) a ao' cap' B _ _ ha hz hxb (hkk.keep (F0.bl.mono hB)) (henv.keep (F0.bl.mono hB)) (Nat.le_trans hB F0.bl.size) (tabs_keep w _ hT F0.bl) hs1
  have i1 := val_in (lookV bs) hI a ha hz
  have cB := fun (W : World) (hW : Below w.heap.size w W) => ih d' (by omega) a2 ao2 cap2 B W _ ha2 hz2 hxb2 (hkk2.keep (hW.mono hB)) (henv.keep (hW.mono hB)) (Nat.le_trans hB hW.size) (tabs_keep w _ hT hW) hs2
  have i2 := val_in (lookV bs) hI a2 ha2 hz2
  rw [show (⟨3, nm, so, n, s, [a, a2]⟩ : Ex).name = nm from rfl, hop] at sa sb
  generalize sortX (lookS (bs.map (·.1)) (bs.map (·.2.so))) a = S1 at *
  generalize sortX (lookS (bs.map (·.1)) (bs.map (·.2.so))) a2 = S2 at *
  generalize valX (lookV bs) a = R1 at *
  generalize valX (lookV bs) a2 = R2 at *
  have HX := hideC hex
  have HX2 := hideC hex2
  have CB := hideC cB
  have hbw : b < w.heap.size := Nat.lt_of_lt_of_le hbB hB
  have FH := hideC F0
  have HT := hideC hT
  have y5 := F0.c5
  obtain ⟨y0, y1, y2, y3, y4, y6⟩ := HX.out.keep F0.bl hbw
  clear ih hka henv hex hkk hE hI hs hs1 hT hz ha hxb F0 hex2 hkk2 hxb2 hs2 hz2 ha2 cB
  simp only [vlV, exVal, List.length_cons, List.length_nil, Nat.zero_add] at cA ⊢
  have CN := hideC (nums_said R1 R2 i1 i2)
  rw [hop]
  have HR := hideC (show vlV (twoV [111, 114] R1 R2) = vlV (truV (R1.n == 1 || R2.n == 1)) from rfl)
  clear ga gb sa sb i1 i2
  have nb0 : (nm.toList == [110, 111, 116]) = false := by rw [beqL, hop]; decide
  have nb1 : (nm.toList == [35]) = false := by rw [beqL, hop]; decide
  have nb2 : (nm.toList == [110, 101, 103]) = false := by rw [beqL, hop]; decide
  have nb3 : (nm.toList == [111, 114]) = true := by rw [beqL, hop]; decide
  clear hop
  go_enter Tryz.func24, Tryz.ntmps24
  go_wp2_with fail
  refine cA.mono ?_
  rintro e w1 ⟨rfl, hb1⟩
  clear cA
  have F1 := (FH.out.keep hb1).putA R1
  have D1 := hideC F1
  have u5 := (FH.out.keep hb1).c5
  obtain ⟨_, a0, a1, a2', f0, f1, f2⟩ := (FH.out.keep hb1).a
  have v5 := F1.c5
  clear F1 hb1 FH y0 y1 y2 y3 y4 y5 y6
  obtain ⟨y0, y1, y2, y3, y4, y6⟩ := HX2.out.keep D1.out.bl hbw
  have cB := CB.out _ D1.out.bl
  simp only [vlV, exVal] at cB
  unfold st3 at v5 y0 y1 y2 y3 y4 y6 cB
  go_wp2_with fail
  refine cB.mono ?_
  rintro e w2 ⟨rfl, hb2⟩
  clear cB y0 y1 y2 y3 y4 y6 v5 a0 a1 a2' f0 f1 f2 u5 CB
  have F2 := (D1.out.keep hb2).putB R2
  have D2 := hideC F2
  obtain ⟨_, a0, a1, a2', f0, f1, f2⟩ := (D1.out.keep hb2).b
  clear F2 hb2 D1
  go_wp2_with fail
  have D3 := D2.out
  unfold st3 at D3
  generalize ((w2.setCell ⟨w.heap.size + 1 + 1 + 1, 0, none⟩ (.int .i64 R2.so)).setCell ⟨w.heap.size + 1 + 1 + 1, 1, none⟩ (.int .i64 R2.n)).setCell ⟨w.heap.size + 1 + 1 + 1, 2, none⟩ (.string R2.s) = W2 at D3 ⊢
  clear D2 a0 a1 a2' f0 f1 f2 
  have p1 := D3.a.c1
  have q1 := D3.b.c1
  have HD := hideC D3
  have MK := hideC trivial
  clear D3
  go_region_held3 (fun w' => w'.cell? ⟨w.heap.size + 1 + 1, 1, none⟩ = some (.int .i64 R1.n) ∧ w'.cell? ⟨w.heap.size + 1 + 1 + 1, 1, none⟩ = some (.int .i64 R2.n)) (go_keep) (first
    | (go_at_call 47; have mk := MK; clear mk MK; go_must (refine (CN.out _ _ (by first | exact .inl rfl | exact .inr rfl)).mono ?_; rintro e w3 ⟨rfl, hI1, hb3⟩; have D4 := hideC ((HD.out.keep (by go_grown)).keep hb3); have I1 := hideC hI1; have p2 := D4.out.a.c1; have q2 := D4.out.b.c1; clear hI1))
    | (go_at_call 47; go_must (refine (CN.out _ _ (by first | exact .inl rfl | exact .inr rfl)).mono ?_; rintro e w4 ⟨rfl, hI2, hb4⟩; have D5 := hideC (D4.out.keep hb4); have I3 := hideC (I1.out.keep hb4); have I4 := hideC hI2; have p3 := D5.out.a.c1; have q3 := D5.out.b.c1; clear hI2)))
  all_goals
    have k1 := D5.out.c1
    obtain ⟨_, A0, A1, A2, _, _, _⟩ := D5.out.a
    obtain ⟨_, B0, B1, B2, _, _, _⟩ := D5.out.b
    cases hx : (R1.n == 1) <;> cases hy : (R2.n == 1)
    all_goals
      have HR2 := HR.out
      rw [hx, hy] at HR2
      have HR3 := hideC HR2
      clear HR2
      go_wp2_with fail
      refine (refTruth_any _ _).mono ?_
      rintro e w5 ⟨rfl, hb5⟩
      have DE := hideC (D5.out.keep hb5)
      obtain ⟨_, r0, r1, r2, g0, g1, g2⟩ := DE.out.z
      have hbe := DE.out.bl
      go_wp2_with fail
      refine bodyPost_ret (v := vlV (twoV [111, 114] R1 R2)) (by rw [HR3.out]; simp [results, Tryz.results24, go_sem, r0, r1, r2, vlV, truV]) rfl ⟨rfl, ?_⟩
      have hsz := hbe.size
      go_grown
set_option maxRecDepth 100000 in
set_option maxHeartbeats 4000000 in
theorem rval_and (bs : List (ByteArray × Vl)) (ae : Option Addr) (ce d : Nat) (hE : ∀ nm so, lookS (bs.map (·.1)) (bs.map (·.2.so)) nm = (so, 0) → (lookV bs nm).good ∧ (lookV bs nm).so = so) (hI : ∀ nm, in64 (lookV bs nm).n) (ih : ∀ d', d' < d → RVal bs ae ce d')
    (nm : ByteArray) (so n : Int) (s : ByteArray) (a : Ex) (a2 : Ex) (ao : Option Addr) (cap B : Nat) (w : World) (sx : Int) (ha : wfX a) (hz : inZ a) (ha2 : wfX a2) (hz2 : inZ a2) (hka : KA w B d [a, a2] ao) (henv : EnvAt w B bs ae) (hB : B ≤ w.heap.size) (hT : Tabs w) (hs : sortX (lookS (bs.map (·.1)) (bs.map (·.2.so))) ⟨3, nm, so, n, s, [a, a2]⟩ = (sx, 0)) (hop : nm.data.toList = [97, 110, 100]) :
    Calls Tryz.prog 24 #[exVal ⟨3, nm, so, n, s, [a, a2]⟩ ao cap, .slice ae bs.length ce] w fun e w' => e = .returned (vlV (twoV nm.data.toList (valX (lookV bs) a) (valX (lookV bs) a2))) ∧ Below w.heap.size w w' := by
  obtain ⟨hs1, hs2⟩ := two_right _ ⟨3, nm, so, n, s, [a, a2]⟩ a a2 sx rfl rfl hs
  obtain ⟨ga, sa⟩ := sort_val _ (lookV bs) hE a ha _ hs1
  obtain ⟨gb, sb⟩ := sort_val _ (lookV bs) hE a2 ha2 _ hs2
  obtain ⟨d', b, o, ao', cap', ao2, cap2, rfl, rfl, hbB, hex, hxb, hkk, hex2, hxb2, hkk2⟩ := hka.two
  have F0 := QV.new w nm (.slice (some ⟨b, o, none⟩) 2 cap) so n s
  have cA := ih d' (by omega) a ao' cap' B _ _ ha hz hxb (hkk.keep (F0.bl.mono hB)) (henv.keep (F0.bl.mono hB)) (Nat.le_trans hB F0.bl.size) (tabs_keep w _ hT F0.bl) hs1
  have i1 := val_in (lookV bs) hI a ha hz
  have cB := fun (W : World) (hW : Below w.heap.size w W) => ih d' (by omega) a2 ao2 cap2 B W _ ha2 hz2 hxb2 (hkk2.keep (hW.mono hB)) (henv.keep (hW.mono hB)) (Nat.le_trans hB hW.size) (tabs_keep w _ hT hW) hs2
  have i2 := val_in (lookV bs) hI a2 ha2 hz2
  rw [show (⟨3, nm, so, n, s, [a, a2]⟩ : Ex).name = nm from rfl, hop] at sa sb
  generalize sortX (lookS (bs.map (·.1)) (bs.map (·.2.so))) a = S1 at *
  generalize sortX (lookS (bs.map (·.1)) (bs.map (·.2.so))) a2 = S2 at *
  generalize valX (lookV bs) a = R1 at *
  generalize valX (lookV bs) a2 = R2 at *
  have HX := hideC hex
  have HX2 := hideC hex2
  have CB := hideC cB
  have hbw : b < w.heap.size := Nat.lt_of_lt_of_le hbB hB
  have FH := hideC F0
  have HT := hideC hT
  have y5 := F0.c5
  obtain ⟨y0, y1, y2, y3, y4, y6⟩ := HX.out.keep F0.bl hbw
  clear ih hka henv hex hkk hE hI hs hs1 hT hz ha hxb F0 hex2 hkk2 hxb2 hs2 hz2 ha2 cB
  simp only [vlV, exVal, List.length_cons, List.length_nil, Nat.zero_add] at cA ⊢
  have CN := hideC (nums_said R1 R2 i1 i2)
  rw [hop]
  have HR := hideC (show vlV (twoV [97, 110, 100] R1 R2) = vlV (truV (R1.n == 1 && R2.n == 1)) from rfl)
  clear ga gb sa sb i1 i2
  have nb0 : (nm.toList == [110, 111, 116]) = false := by rw [beqL, hop]; decide
  have nb1 : (nm.toList == [35]) = false := by rw [beqL, hop]; decide
  have nb2 : (nm.toList == [110, 101, 103]) = false := by rw [beqL, hop]; decide
  have nb3 : (nm.toList == [111, 114]) = false := by rw [beqL, hop]; decide
  have nb4 : (nm.toList == [97, 110, 100]) = true := by rw [beqL, hop]; decide
  clear hop
  go_enter Tryz.func24, Tryz.ntmps24
  go_wp2_with fail
  refine cA.mono ?_
  rintro e w1 ⟨rfl, hb1⟩
  clear cA
  have F1 := (FH.out.keep hb1).putA R1
  have D1 := hideC F1
  have u5 := (FH.out.keep hb1).c5
  obtain ⟨_, a0, a1, a2', f0, f1, f2⟩ := (FH.out.keep hb1).a
  have v5 := F1.c5
  clear F1 hb1 FH y0 y1 y2 y3 y4 y5 y6
  obtain ⟨y0, y1, y2, y3, y4, y6⟩ := HX2.out.keep D1.out.bl hbw
  have cB := CB.out _ D1.out.bl
  simp only [vlV, exVal] at cB
  unfold st3 at v5 y0 y1 y2 y3 y4 y6 cB
  go_wp2_with fail
  refine cB.mono ?_
  rintro e w2 ⟨rfl, hb2⟩
  clear cB y0 y1 y2 y3 y4 y6 v5 a0 a1 a2' f0 f1 f2 u5 CB
  have F2 := (D1.out.keep hb2).putB R2
  have D2 := hideC F2
  obtain ⟨_, a0, a1, a2', f0, f1, f2⟩ := (D1.out.keep hb2).b
  clear F2 hb2 D1
  go_wp2_with fail
  have D3 := D2.out
  unfold st3 at D3
  generalize ((w2.setCell ⟨w.heap.size + 1 + 1 + 1, 0, none⟩ (.int .i64 R2.so)).setCell ⟨w.heap.size + 1 + 1 + 1, 1, none⟩ (.int .i64 R2.n)).setCell ⟨w.heap.size + 1 + 1 + 1, 2, none⟩ (.string R2.s) = W2 at D3 ⊢
  clear D2 a0 a1 a2' f0 f1 f2 
  have p1 := D3.a.c1
  have q1 := D3.b.c1
  have HD := hideC D3
  have MK := hideC trivial
  clear D3
  go_region_held3 (fun w' => w'.cell? ⟨w.heap.size + 1 + 1, 1, none⟩ = some (.int .i64 R1.n) ∧ w'.cell? ⟨w.heap.size + 1 + 1 + 1, 1, none⟩ = some (.int .i64 R2.n)) (go_keep) (first
    | (go_at_call 47; have mk := MK; clear mk MK; go_must (refine (CN.out _ _ (by first | exact .inl rfl | exact .inr rfl)).mono ?_; rintro e w3 ⟨rfl, hI1, hb3⟩; have D4 := hideC ((HD.out.keep (by go_grown)).keep hb3); have I1 := hideC hI1; have p2 := D4.out.a.c1; have q2 := D4.out.b.c1; clear hI1))
    | (go_at_call 47; go_must (refine (CN.out _ _ (by first | exact .inl rfl | exact .inr rfl)).mono ?_; rintro e w4 ⟨rfl, hI2, hb4⟩; have D5 := hideC (D4.out.keep hb4); have I3 := hideC (I1.out.keep hb4); have I4 := hideC hI2; have p3 := D5.out.a.c1; have q3 := D5.out.b.c1; clear hI2)))
  all_goals
    have k1 := D5.out.c1
    obtain ⟨_, A0, A1, A2, _, _, _⟩ := D5.out.a
    obtain ⟨_, B0, B1, B2, _, _, _⟩ := D5.out.b
    cases hx : (R1.n == 1) <;> cases hy : (R2.n == 1)
    all_goals
      have HR2 := HR.out
      rw [hx, hy] at HR2
      have HR3 := hideC HR2
      clear HR2
      go_wp2_with fail
      refine (refTruth_any _ _).mono ?_
      rintro e w5 ⟨rfl, hb5⟩
      have DE := hideC (D5.out.keep hb5)
      obtain ⟨_, r0, r1, r2, g0, g1, g2⟩ := DE.out.z
      have hbe := DE.out.bl
      go_wp2_with fail
      refine bodyPost_ret (v := vlV (twoV [97, 110, 100] R1 R2)) (by rw [HR3.out]; simp [results, Tryz.results24, go_sem, r0, r1, r2, vlV, truV]) rfl ⟨rfl, ?_⟩
      have hsz := hbe.size
      go_grown
end Go.Proofs.YtecapnipkngniaaGreatDoor
