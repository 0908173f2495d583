/-
  The contract of duetref.ReadValue, for every text of at most 2^20 bytes: it tells what values.Read tells.
-/
import Derived.Test.YtbhgcfoplpjfjaaDoorBq
import Derived.Test.YtbhgcfoplpjfjaaDoorBr
namespace Go.Proofs.YtbhgcfoplpjfjaaDoor
open Go.RowKit Go.Shelf

theorem rf_tru (l : List UInt8) (h : l = tru) : rfZ l = (2, 1, [], 0) := by unfold rfZ; rw [if_pos h]
theorem rf_fls (l : List UInt8) (h1 : l ≠ tru) (h : l = fls) : rfZ l = (2, 0, [], 0) := by unfold rfZ; rw [if_neg h1, if_pos h]
theorem rf_big (l : List UInt8) (h1 : l ≠ tru) (h2 : l ≠ fls) (hq : (quZ l).1 = (l.length : Int) ∧ 0 < (quZ l).1) (hb : 100 < (quZ l).2.length) : rfZ l = (0, 0, [], 2) := by unfold rfZ; rw [if_neg h1, if_neg h2, if_pos hq, if_pos hb]
theorem rf_txt (l : List UInt8) (h1 : l ≠ tru) (h2 : l ≠ fls) (hq : (quZ l).1 = (l.length : Int) ∧ 0 < (quZ l).1) (hb : ¬ 100 < (quZ l).2.length) : rfZ l = (3, 0, (quZ l).2, 0) := by unfold rfZ; rw [if_neg h1, if_neg h2, if_pos hq, if_neg hb]
theorem rf_num (l : List UInt8) (h1 : l ≠ tru) (h2 : l ≠ fls) (hq : ¬ ((quZ l).1 = (l.length : Int) ∧ 0 < (quZ l).1)) (v : Int) (hv : nuZ l = some v) : rfZ l = (1, v, [], 0) := by unfold rfZ; rw [if_neg h1, if_neg h2, if_neg hq, hv]
theorem rf_no (l : List UInt8) (h1 : l ≠ tru) (h2 : l ≠ fls) (hq : ¬ ((quZ l).1 = (l.length : Int) ∧ 0 < (quZ l).1)) (hv : nuZ l = none) : rfZ l = (0, 0, [], 3) := by unfold rfZ; rw [if_neg h1, if_neg h2, if_neg hq, hv]

set_option maxRecDepth 100000 in
set_option maxHeartbeats 2000000 in
theorem refRead_any (s : ByteArray) (w : World) (hs : s.size ≤ 1048576) (hT : Tabs w) :
    Calls Tryd.prog 11 #[.string s] w fun e w' => e = .returned (rdV (rfZ s.data.toList)) ∧ Below w.heap.size w w' := by
  have hT1 := tabs_keep w (w.alloc (Obj.cells #[Value.int IntKind.i64 0, Value.int IntKind.i64 0, Value.string { data := #[] }] 23)) hT ((Below.refl _ _).alloc (Nat.le_refl _) _)
  by_cases h1 : s.data.toList = tru
  · rw [rf_tru _ h1]
    have b1 : (s.toList == [116, 114, 117, 101]) = true := by rw [ByteArray.toList_eq, h1]; rfl
    clear hT hT1 h1 hs
    go_enter Tryd.func11, Tryd.ntmps11
    go_wp2
    refine bodyPost_ret (v := rdV (2, 1, [], 0)) (by simp [results, Tryd.results11, go_sem, rdV]) rfl ⟨rfl, ?_⟩
    go_grown
  · have b1 : (s.toList == [116, 114, 117, 101]) = false := by rw [ByteArray.toList_eq, beq_eq_false_iff_ne]; exact h1
    by_cases h2 : s.data.toList = fls
    · rw [rf_fls _ h1 h2]
      have b2 : (s.toList == [102, 97, 108, 115, 101]) = true := by rw [ByteArray.toList_eq, h2]; rfl
      clear hT hT1 h1 h2 hs
      go_enter Tryd.func11, Tryd.ntmps11
      go_wp2
      refine bodyPost_ret (v := rdV (2, 0, [], 0)) (by simp [results, Tryd.results11, go_sem, rdV]) rfl ⟨rfl, ?_⟩
      go_grown
    · have b2 : (s.toList == [102, 97, 108, 115, 101]) = false := by rw [ByteArray.toList_eq, beq_eq_false_iff_ne]; exact h2
      have CQ := quotedR_any s _ hs hT1
      by_cases hq : (quZ s.data.toList).1 = (s.data.toList.length : Int) ∧ 0 < (quZ s.data.toList).1
      · obtain ⟨q, hqe⟩ : ∃ q, (quZ s.data.toList).1 = q := ⟨_, rfl⟩
        obtain ⟨t, hte⟩ : ∃ t, (quZ s.data.toList).2 = t := ⟨_, rfl⟩
        rw [hqe, hte] at CQ
        have hq1 : (q == (s.size : Int)) = true := by rw [beq_iff_eq, size_list, ← hqe]; exact hq.1
        have hq2 : q > 0 := by rw [← hqe]; exact hq.2
        obtain ⟨T, hTe⟩ : ∃ T, bs t = T := ⟨_, rfl⟩
        have hTs : T.size = t.length := by rw [← hTe, bs_size]
        rw [hTe] at CQ
        by_cases hb : 100 < t.length
        · rw [rf_big _ h1 h2 hq (by rw [hte]; exact hb)]
          have hbz : (T.size : Int) > 100 := by omega
          clear hT hT1 h1 h2 hs hq hqe hte hTe hTs hb
          go_enter Tryd.func11, Tryd.ntmps11
          go_wp2_with fail
          refine CQ.mono ?_
          rintro e w1 ⟨rfl, hb1⟩
          have hbw : Below w.heap.size w w1 := ((Below.refl w.heap.size w).alloc (Nat.le_refl _) _).trans (hb1.mono (by simp))
          have hB : Box w1 w.heap.size 0 0 ⟨#[]⟩ := (Box.new w 0 0 ⟨#[]⟩ 23).keep hb1
          have f0 : w1.frozen? ⟨w.heap.size, 0, none⟩ = false := (hb1.frozen (p := ⟨w.heap.size, 0, none⟩) (by simp)).trans (by go_simp)
          have f1 : w1.frozen? ⟨w.heap.size, 1, none⟩ = false := (hb1.frozen (p := ⟨w.heap.size, 1, none⟩) (by simp)).trans (by go_simp)
          have f2 : w1.frozen? ⟨w.heap.size, 2, none⟩ = false := (hb1.frozen (p := ⟨w.heap.size, 2, none⟩) (by simp)).trans (by go_simp)
          obtain ⟨lt, r0, r1, r2⟩ := hB
          clear hb1 CQ
          go_wp2
          refine bodyPost_ret (v := rdV (0, 0, [], 2)) (by simp [results, Tryd.results11, go_sem, rdV, r0, r1, r2]) rfl ⟨rfl, ?_⟩
          have hsz := hbw.size
          go_grown
        · rw [rf_txt _ h1 h2 hq (by rw [hte]; exact hb), hte]
          have hbz : ¬ (T.size : Int) > 100 := by omega
          have HT : Hid (rdV (3, 0, t, 0) = .tuple #[.agg #[.int .i64 3, .int .i64 0, .string T], .int .i64 0]) := by
            show _ = _
            rw [← hTe]; rfl
          rw [HT.out]
          clear hT hT1 h1 h2 hs hq hqe hte hTe hTs hb
          go_enter Tryd.func11, Tryd.ntmps11
          go_wp2_with fail
          refine CQ.mono ?_
          rintro e w1 ⟨rfl, hb1⟩
          have hbw : Below w.heap.size w w1 := ((Below.refl w.heap.size w).alloc (Nat.le_refl _) _).trans (hb1.mono (by simp))
          have hB : Box w1 w.heap.size 0 0 ⟨#[]⟩ := (Box.new w 0 0 ⟨#[]⟩ 23).keep hb1
          have f0 : w1.frozen? ⟨w.heap.size, 0, none⟩ = false := (hb1.frozen (p := ⟨w.heap.size, 0, none⟩) (by simp)).trans (by go_simp)
          have f1 : w1.frozen? ⟨w.heap.size, 1, none⟩ = false := (hb1.frozen (p := ⟨w.heap.size, 1, none⟩) (by simp)).trans (by go_simp)
          have f2 : w1.frozen? ⟨w.heap.size, 2, none⟩ = false := (hb1.frozen (p := ⟨w.heap.size, 2, none⟩) (by simp)).trans (by go_simp)
          obtain ⟨lt, r0, r1, r2⟩ := hB
          clear hb1 CQ HT
          go_wp2
          refine bodyPost_ret (v := .tuple #[.agg #[.int .i64 3, .int .i64 0, .string T], .int .i64 0]) (by simp [results, Tryd.results11, go_sem, r0, r1, r2]) rfl ⟨rfl, ?_⟩
          have hsz := hbw.size
          go_grown
      · have CN := fun W => number_any s W
        obtain ⟨q, hqe⟩ : ∃ q, (quZ s.data.toList).1 = q := ⟨_, rfl⟩
        obtain ⟨T, hTe⟩ : ∃ T, bs (quZ s.data.toList).2 = T := ⟨_, rfl⟩
        rw [hqe, hTe] at CQ
        have hqq : (q == (s.size : Int)) = false ∨ ((q == (s.size : Int)) = true ∧ ¬ q > 0) := by
          by_cases e : q = (s.size : Int)
          · exact .inr ⟨by rw [beq_iff_eq]; exact e, fun c => hq ⟨by rw [hqe, e, size_list], by rw [hqe]; exact c⟩⟩
          · exact .inl (by rw [beq_eq_false_iff_ne]; exact e)
        cases hn : nuZ s.data.toList with
        | some v =>
          rw [rf_num _ h1 h2 hq v hn]
          rw [hn, NV_some] at CN
          have HC : Hid (∀ W : World, Calls Tryd.prog 28 #[.string s] W fun e w' => e = .returned (.tuple #[.int .i64 v, .bool true]) ∧ Below W.heap.size W w') := CN
          clear hT hT1 h1 h2 hs hq hqe hTe CN hn
          rcases hqq with hq1 | ⟨hq1, hq2⟩
          all_goals
            go_enter Tryd.func11, Tryd.ntmps11
            go_wp2_with fail
            refine CQ.mono ?_
            rintro e w1 ⟨rfl, hb1⟩
            have hbw : Below w.heap.size w w1 := ((Below.refl w.heap.size w).alloc (Nat.le_refl _) _).trans (hb1.mono (by simp))
            have hB : Box w1 w.heap.size 0 0 ⟨#[]⟩ := (Box.new w 0 0 ⟨#[]⟩ 23).keep hb1
            have f0 : w1.frozen? ⟨w.heap.size, 0, none⟩ = false := (hb1.frozen (p := ⟨w.heap.size, 0, none⟩) (by simp)).trans (by go_simp)
            have f1 : w1.frozen? ⟨w.heap.size, 1, none⟩ = false := (hb1.frozen (p := ⟨w.heap.size, 1, none⟩) (by simp)).trans (by go_simp)
            have f2 : w1.frozen? ⟨w.heap.size, 2, none⟩ = false := (hb1.frozen (p := ⟨w.heap.size, 2, none⟩) (by simp)).trans (by go_simp)
            clear hb1 CQ
            go_wp2_with fail
            refine (HC.out w1).mono ?_
            rintro e w2 ⟨rfl, hb2⟩
            replace f0 := (hb2.frozen (p := ⟨w.heap.size, 0, none⟩) hB.lt).trans f0
            replace f1 := (hb2.frozen (p := ⟨w.heap.size, 1, none⟩) hB.lt).trans f1
            replace f2 := (hb2.frozen (p := ⟨w.heap.size, 2, none⟩) hB.lt).trans f2
            replace hB := hB.keep hb2
            have hbw2 : Below w.heap.size w w2 := hbw.trans (hb2.mono hbw.size)
            obtain ⟨lt, r0, r1, r2⟩ := hB
            clear hbw hb2 HC
            go_wp2
            refine bodyPost_ret (v := rdV (1, v, [], 0)) (by simp [results, Tryd.results11, go_sem, rdV, r0, r1, r2]) rfl ⟨rfl, ?_⟩
            have hsz := hbw2.size
            go_grown
        | none =>
          rw [rf_no _ h1 h2 hq hn]
          rw [hn, NV_none] at CN
          have HC : Hid (∀ W : World, Calls Tryd.prog 28 #[.string s] W fun e w' => e = .returned (.tuple #[.int .i64 0, .bool false]) ∧ Below W.heap.size W w') := CN
          clear hT hT1 h1 h2 hs hq hqe hTe CN hn
          rcases hqq with hq1 | ⟨hq1, hq2⟩
          all_goals
            go_enter Tryd.func11, Tryd.ntmps11
            go_wp2_with fail
            refine CQ.mono ?_
            rintro e w1 ⟨rfl, hb1⟩
            have hbw : Below w.heap.size w w1 := ((Below.refl w.heap.size w).alloc (Nat.le_refl _) _).trans (hb1.mono (by simp))
            have hB : Box w1 w.heap.size 0 0 ⟨#[]⟩ := (Box.new w 0 0 ⟨#[]⟩ 23).keep hb1
            have f0 : w1.frozen? ⟨w.heap.size, 0, none⟩ = false := (hb1.frozen (p := ⟨w.heap.size, 0, none⟩) (by simp)).trans (by go_simp)
            have f1 : w1.frozen? ⟨w.heap.size, 1, none⟩ = false := (hb1.frozen (p := ⟨w.heap.size, 1, none⟩) (by simp)).trans (by go_simp)
            have f2 : w1.frozen? ⟨w.heap.size, 2, none⟩ = false := (hb1.frozen (p := ⟨w.heap.size, 2, none⟩) (by simp)).trans (by go_simp)
            clear hb1 CQ
            go_wp2_with fail
            refine (HC.out w1).mono ?_
            rintro e w2 ⟨rfl, hb2⟩
            replace f0 := (hb2.frozen (p := ⟨w.heap.size, 0, none⟩) hB.lt).trans f0
            replace f1 := (hb2.frozen (p := ⟨w.heap.size, 1, none⟩) hB.lt).trans f1
            replace f2 := (hb2.frozen (p := ⟨w.heap.size, 2, none⟩) hB.lt).trans f2
            replace hB := hB.keep hb2
            have hbw2 : Below w.heap.size w w2 := hbw.trans (hb2.mono hbw.size)
            obtain ⟨lt, r0, r1, r2⟩ := hB
            clear hbw hb2 HC
            go_wp2
            refine bodyPost_ret (v := rdV (0, 0, [], 3)) (by simp [results, Tryd.results11, go_sem, rdV, r0, r1, r2]) rfl ⟨rfl, ?_⟩
            have hsz := hbw2.size
            go_grown
end Go.Proofs.YtbhgcfoplpjfjaaDoor
