/-
  The contract of values.readText, for every text of at most 2^48 bytes; utf8.ValidString's contract is a hypothesis here.
-/
import Derived.Test.YtipolobikigmbaaGreatDoorUn
import Derived.Test.YtipolobikigmbaaGreatDoorWb
import Derived.Test.YtipolobikigmbaaGreatDoorFs
namespace Go.Proofs.YtipolobikigmbaaGreatDoor
open Go.RowKit Go.Shelf
variable (V : ByteArray → Bool) (Tabs : World → Prop)

/-- what values.readText tells: sort, text, error -/
def rtZ (l : List UInt8) : Int × List UInt8 × Int :=
  if l.length < 2 ∨ l.getD (l.length - 1) 0 ≠ 34 ∨ Lib.validD l = false then (0, [], 3)
  else match unq ((l.drop 1).take (l.length - 2)) with
    | none => (0, [], 3)
    | some t => if 100 < t.length then (0, [], 2) else (3, t, 0)
theorem rt_short (l : List UInt8) (h : l.length < 2) : rtZ l = (0, [], 3) := by unfold rtZ; rw [if_pos (.inl h)]
theorem rt_last (l : List UInt8) (h : l.getD (l.length - 1) 0 ≠ 34) : rtZ l = (0, [], 3) := by unfold rtZ; rw [if_pos (.inr (.inl h))]
theorem rt_utf (l : List UInt8) (h : Lib.validD l = false) : rtZ l = (0, [], 3) := by unfold rtZ; rw [if_pos (.inr (.inr h))]
theorem rt_go (l : List UInt8) (h1 : ¬ l.length < 2) (h2 : l.getD (l.length - 1) 0 = 34) (h3 : Lib.validD l = true) : rtZ l = match unq ((l.drop 1).take (l.length - 2)) with
    | none => (0, [], 3)
    | some t => if 100 < t.length then (0, [], 2) else (3, t, 0) := by
  unfold rtZ; rw [if_neg (by rintro (h | h | h); exact h1 h; exact h h2; rw [h3] at h; cases h)]

/-- the value and the error that are told -/
def rtV (z : Int × List UInt8 × Int) : Value := .tuple #[.agg #[.int .i64 z.1, .int .i64 0, .string ⟨z.2.1.toArray⟩], .int .i64 z.2.2]

set_option maxRecDepth 100000 in
set_option maxHeartbeats 1000000 in
theorem readText_any (hV : VSaid vD Tabs) (hK : ∀ w w', Tabs w → Below w.heap.size w w' → Tabs w') (s : ByteArray) (w : World) (hs : s.size ≤ 281474976710656) (hT : Tabs w) :
    Calls Tryz.prog 169 #[.string s] w fun e w' => e = .returned (rtV (rtZ s.data.toList)) ∧ Below w.heap.size w w' := by
  by_cases h2 : s.size < 2
  · rw [rt_short _ (by rw [← size_list]; exact h2)]
    have h2z : (s.size : Int) < 2 := by omega
    clear hV hK hT
    go_enter Tryz.func169, Tryz.ntmps169
    go_wp2
    refine bodyPost_ret (v := rtV (0, [], 3)) (by simp [results, Tryz.results169, go_sem, rtV]) rfl ⟨rfl, ?_⟩
    go_grown
  · have h2z : ¬ (s.size : Int) < 2 := by omega
    have hp1 : (0 : Int) ≤ (s.size : Int) - 1 := by omega
    have hp2 : (s.size : Int) - 1 < (s.size : Int) := by omega
    have hbd : (s.size : Int) ≤ 281474976710656 := by omega
    have hgl : s.data.toList.getD (s.data.toList.length - 1) 0 = s[s.size - 1]'(by omega) := by
      rw [← size_list, List.getD, List.getElem?_eq_getElem (by rw [← size_list]; omega)]; rfl
    by_cases hq : s[s.size - 1]'(by omega) = 34
    · have hqz : ((s[s.size - 1]'(by omega)).toNat : Int) = 34 := by rw [hq]; rfl
      have cV := hV s (w.alloc (Obj.cells #[Value.int IntKind.i64 0, Value.int IntKind.i64 0, Value.string { data := #[] }] 36)) (by omega) (hK _ _ hT ((Below.refl _ _).alloc (Nat.le_refl _) _))
      have hgl2 := hgl.trans hq
      by_cases hv : vD s = true
      · rw [rt_go _ (by rw [← size_list]; exact h2) hgl2 hv]
        rw [hv] at cV
        have hbody : (s.extract 1 (s.size - 1)).data.toList = (s.data.toList.drop 1).take (s.data.toList.length - 2) := by
          rw [ByteArray.data_extract, Array.toList_extract, ← size_list, List.extract_eq_take_drop]
          congr 1
        have hbs : (s.extract 1 (s.size - 1)).size ≤ 281474976710656 := by rw [ByteArray.size_extract]; omega
        generalize hb0 : s.extract 1 (s.size - 1) = b at hbody hbs
        rw [← hbody]
        clear hbody hgl hgl2 hq hv hV hK hT
        have cU := fun W => unquoted_any b W hbs
        cases hu : unq b.data.toList with
        | none =>
          have CU : Hid (∀ W : World, Calls Tryz.prog 188 #[.string b] W fun e w' => UPost W.heap.size (unq b.data.toList) e w' ∧ Below W.heap.size W w') := cU
          have HU : Hid (unq b.data.toList = none) := hu
          have HB0 : Hid (s.extract 1 (s.size - 1) = b) := hb0
          clear cU hu hb0
          simp only
          go_enter Tryz.func169, Tryz.ntmps169
          go_wp2_with fail
          refine cV.mono ?_
          rintro e w1 ⟨rfl, hb1⟩
          have hbw : Below w.heap.size w w1 := ((Below.refl w.heap.size w).alloc (Nat.le_refl _) _).trans (hb1.mono (by simp))
          have hB : Box w1 w.heap.size 0 0 ⟨#[]⟩ := (Box.new w 0 0 ⟨#[]⟩ 36).keep hb1
          have f0 : w1.frozen? ⟨w.heap.size, 0, none⟩ = false := (hb1.frozen (p := ⟨w.heap.size, 0, none⟩) (by simp)).trans (by go_simp)
          have f1 : w1.frozen? ⟨w.heap.size, 1, none⟩ = false := (hb1.frozen (p := ⟨w.heap.size, 1, none⟩) (by simp)).trans (by go_simp)
          have f2 : w1.frozen? ⟨w.heap.size, 2, none⟩ = false := (hb1.frozen (p := ⟨w.heap.size, 2, none⟩) (by simp)).trans (by go_simp)
          clear hb1 cV
          go_wp2_with fail
          rw [HB0.out]
          refine (CU.out w1).mono ?_
          rintro e w2 ⟨hup, hb2⟩
          replace f0 := (hb2.frozen (p := ⟨w.heap.size, 0, none⟩) hB.lt).trans f0
          replace f1 := (hb2.frozen (p := ⟨w.heap.size, 1, none⟩) hB.lt).trans f1
          replace f2 := (hb2.frozen (p := ⟨w.heap.size, 2, none⟩) hB.lt).trans f2
          replace hB := hB.keep hb2
          have hbw2 : Below w.heap.size w w2 := hbw.trans (hb2.mono hbw.size)
          obtain ⟨lt, r0, r1, r2⟩ := hB
          clear hbw hb2 CU
          have he := hup.1 HU.out
          subst he
          clear hup
          go_wp2
          refine bodyPost_ret (v := rtV (0, [], 3)) (by simp [results, Tryz.results169, go_sem, rtV, r0, r1, r2]) rfl ⟨rfl, ?_⟩
          have hsz := hbw2.size
          go_grown
        | some t =>
          have CU : Hid (∀ W : World, Calls Tryz.prog 188 #[.string b] W fun e w' => UPost W.heap.size (unq b.data.toList) e w' ∧ Below W.heap.size W w') := cU
          have HU : Hid (unq b.data.toList = some t) := hu
          have HB0 : Hid (s.extract 1 (s.size - 1) = b) := hb0
          clear cU hu hb0
          simp only
          by_cases hbig : 100 < t.length
          · rw [if_pos hbig]
            go_enter Tryz.func169, Tryz.ntmps169
            go_wp2_with fail
            refine cV.mono ?_
            rintro e w1 ⟨rfl, hb1⟩
            have hbw : Below w.heap.size w w1 := ((Below.refl w.heap.size w).alloc (Nat.le_refl _) _).trans (hb1.mono (by simp))
            have hB : Box w1 w.heap.size 0 0 ⟨#[]⟩ := (Box.new w 0 0 ⟨#[]⟩ 36).keep hb1
            have f0 : w1.frozen? ⟨w.heap.size, 0, none⟩ = false := (hb1.frozen (p := ⟨w.heap.size, 0, none⟩) (by simp)).trans (by go_simp)
            have f1 : w1.frozen? ⟨w.heap.size, 1, none⟩ = false := (hb1.frozen (p := ⟨w.heap.size, 1, none⟩) (by simp)).trans (by go_simp)
            have f2 : w1.frozen? ⟨w.heap.size, 2, none⟩ = false := (hb1.frozen (p := ⟨w.heap.size, 2, none⟩) (by simp)).trans (by go_simp)
            clear hb1 cV
            go_wp2_with fail
            rw [HB0.out]
            refine (CU.out w1).mono ?_
            rintro e w2 ⟨hup, hb2⟩
            replace f0 := (hb2.frozen (p := ⟨w.heap.size, 0, none⟩) hB.lt).trans f0
            replace f1 := (hb2.frozen (p := ⟨w.heap.size, 1, none⟩) hB.lt).trans f1
            replace f2 := (hb2.frozen (p := ⟨w.heap.size, 2, none⟩) hB.lt).trans f2
            replace hB := hB.keep hb2
            have hbw2 : Below w.heap.size w w2 := hbw.trans (hb2.mono hbw.size)
            obtain ⟨lt, r0, r1, r2⟩ := hB
            clear hbw hb2 CU
            obtain ⟨v, rfl, hown⟩ := hup.2 t HU.out
            clear hup
            obtain ⟨tl, htl⟩ : ∃ tl, t.take 101 = tl := ⟨_, rfl⟩
            rw [htl] at hown
            have hlm : tl.length = min 101 t.length := by rw [← htl, List.length_take]
            obtain ⟨ao, cap, rfl⟩ : ∃ ao cap, v = .slice ao tl.length cap := by
              rcases hown.2 with ⟨hv, h0⟩ | ⟨g, cap, cur, fz, hv, _⟩
              · exact ⟨none, 0, by rw [hv, h0]⟩
              · exact ⟨_, _, hv⟩
            have hbz : (100 : Int) < (tl.length : Int) := by omega
            clear htl hlm hown hbig
            go_wp2
            refine bodyPost_ret (v := rtV (0, [], 2)) (by simp [results, Tryz.results169, go_sem, rtV, r0, r1, r2]) rfl ⟨rfl, ?_⟩
            have hsz := hbw2.size
            go_grown
          · rw [if_neg hbig]
            go_enter Tryz.func169, Tryz.ntmps169
            go_wp2_with fail
            refine cV.mono ?_
            rintro e w1 ⟨rfl, hb1⟩
            have hbw : Below w.heap.size w w1 := ((Below.refl w.heap.size w).alloc (Nat.le_refl _) _).trans (hb1.mono (by simp))
            have hB : Box w1 w.heap.size 0 0 ⟨#[]⟩ := (Box.new w 0 0 ⟨#[]⟩ 36).keep hb1
            have f0 : w1.frozen? ⟨w.heap.size, 0, none⟩ = false := (hb1.frozen (p := ⟨w.heap.size, 0, none⟩) (by simp)).trans (by go_simp)
            have f1 : w1.frozen? ⟨w.heap.size, 1, none⟩ = false := (hb1.frozen (p := ⟨w.heap.size, 1, none⟩) (by simp)).trans (by go_simp)
            have f2 : w1.frozen? ⟨w.heap.size, 2, none⟩ = false := (hb1.frozen (p := ⟨w.heap.size, 2, none⟩) (by simp)).trans (by go_simp)
            clear hb1 cV
            go_wp2_with fail
            rw [HB0.out]
            refine (CU.out w1).mono ?_
            rintro e w2 ⟨hup, hb2⟩
            replace f0 := (hb2.frozen (p := ⟨w.heap.size, 0, none⟩) hB.lt).trans f0
            replace f1 := (hb2.frozen (p := ⟨w.heap.size, 1, none⟩) hB.lt).trans f1
            replace f2 := (hb2.frozen (p := ⟨w.heap.size, 2, none⟩) hB.lt).trans f2
            replace hB := hB.keep hb2
            have hbw2 : Below w.heap.size w w2 := hbw.trans (hb2.mono hbw.size)
            obtain ⟨lt, r0, r1, r2⟩ := hB
            clear hbw hb2 CU
            obtain ⟨v, rfl, hown⟩ := hup.2 t HU.out
            clear hup
            obtain ⟨tl, htl⟩ : ∃ tl, t.take 101 = tl := ⟨_, rfl⟩
            rw [htl] at hown
            have hlm : tl.length = min 101 t.length := by rw [← htl, List.length_take]
            obtain ⟨ao, cap, rfl⟩ : ∃ ao cap, v = .slice ao tl.length cap := by
              rcases hown.2 with ⟨hv, h0⟩ | ⟨g, cap, cur, fz, hv, _⟩
              · exact ⟨none, 0, by rw [hv, h0]⟩
              · exact ⟨_, _, hv⟩
            have hbz : ¬ (100 : Int) < (tl.length : Int) := by omega
            have htt : tl = t := by rw [← htl]; exact List.take_of_length_le (by omega)
            subst htt
            have hconv := conv_row hown
            clear htl hlm hown hbig
            go_wp2
            refine bodyPost_ret (v := rtV (3, tl, 0)) (by simp [results, Tryz.results169, go_sem, rtV, r0, r1, r2]) rfl ⟨rfl, ?_⟩
            have hsz := hbw2.size
            go_grown
      · have hv' : vD s = false := by simpa using hv
        rw [rt_utf _ hv']
        rw [hv'] at cV
        clear hgl hgl2 hq hv hv' hV hK hT
        go_enter Tryz.func169, Tryz.ntmps169
        go_wp2_with fail
        refine cV.mono ?_
        rintro e w1 ⟨rfl, hb1⟩
        have hbw : Below w.heap.size w w1 := ((Below.refl w.heap.size w).alloc (Nat.le_refl _) _).trans (hb1.mono (by simp))
        have hB : Box w1 w.heap.size 0 0 ⟨#[]⟩ := (Box.new w 0 0 ⟨#[]⟩ 36).keep hb1
        have f0 : w1.frozen? ⟨w.heap.size, 0, none⟩ = false := (hb1.frozen (p := ⟨w.heap.size, 0, none⟩) (by simp)).trans (by go_simp)
        have f1 : w1.frozen? ⟨w.heap.size, 1, none⟩ = false := (hb1.frozen (p := ⟨w.heap.size, 1, none⟩) (by simp)).trans (by go_simp)
        have f2 : w1.frozen? ⟨w.heap.size, 2, none⟩ = false := (hb1.frozen (p := ⟨w.heap.size, 2, none⟩) (by simp)).trans (by go_simp)
        obtain ⟨lt, r0, r1, r2⟩ := hB
        clear hb1 cV
        go_wp2
        refine bodyPost_ret (v := rtV (0, [], 3)) (by simp [results, Tryz.results169, go_sem, rtV, r0, r1, r2]) rfl ⟨rfl, ?_⟩
        have hsz := hbw.size
        go_grown
    · rw [rt_last _ (by rw [hgl]; exact hq)]
      have hqz : ¬ ((s[s.size - 1]'(by omega)).toNat : Int) = 34 := fun e => hq (UInt8.toNat_inj.1 (by have : (34 : UInt8).toNat = 34 := rfl; omega))
      clear hV hK hT hgl hq
      go_enter Tryz.func169, Tryz.ntmps169
      go_wp2
      refine bodyPost_ret (v := rtV (0, [], 3)) (by simp [results, Tryz.results169, go_sem, rtV]) rfl ⟨rfl, ?_⟩
      go_grown
end Go.Proofs.YtipolobikigmbaaGreatDoor
