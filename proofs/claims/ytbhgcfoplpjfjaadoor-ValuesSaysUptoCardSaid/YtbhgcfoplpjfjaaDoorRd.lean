/-
  The contract of values.Read, for every text of at most 2^48 bytes; the contracts of utf8.ValidString, strconv.FormatInt and strconv.ParseInt are hypotheses here.
-/
import Derived.Test.YtbhgcfoplpjfjaaDoorRi
namespace Go.Proofs.YtbhgcfoplpjfjaaDoor
open Go.RowKit Go.Shelf
variable (Tabs : World → Prop)

def tru : List UInt8 := [116, 114, 117, 101]
def fls : List UInt8 := [102, 97, 108, 115, 101]
/-- what values.Read tells: sort, number, text, error -/
def rdZ (l : List UInt8) : Int × Int × List UInt8 × Int :=
  if l = tru then (2, 1, [], 0)
  else if l = fls then (2, 0, [], 0)
  else if Lib.hasPrefix l [34] = true then ((rtZ l).1, 0, (rtZ l).2.1, (rtZ l).2.2)
  else ((riZ l).1, (riZ l).2.1, [], (riZ l).2.2)
def rdV (z : Int × Int × List UInt8 × Int) : Value := .tuple #[.agg #[.int .i64 z.1, .int .i64 z.2.1, .string ⟨z.2.2.1.toArray⟩], .int .i64 z.2.2.2]

theorem hasPrefix_any (s : ByteArray) (w : World) :
    Calls Tryd.prog 24 #[.string s, .string ⟨#[34]⟩] w fun e w' => e = .returned (.bool (Lib.hasPrefix s.data.toList [34])) ∧ w' = w :=
  Any.strings_HasPrefix Tryd.lays99 s ⟨#[34]⟩ w

set_option maxRecDepth 100000 in
set_option maxHeartbeats 1000000 in
theorem read_any (hV : VSaid vD Tabs) (hF : FSaid Tabs) (hP : PSaid Tabs) (hK : ∀ w w', Tabs w → Below w.heap.size w w' → Tabs w') (s : ByteArray) (w : World) (hs : s.size ≤ 281474976710656) (hT : Tabs w) :
    Calls Tryd.prog 10 #[.string s] w fun e w' => e = .returned (rdV (rdZ s.data.toList)) ∧ Below w.heap.size w w' := by
  have hT1 := hK w (w.alloc (Obj.cells #[Value.int IntKind.i64 0, Value.int IntKind.i64 0, Value.string { data := #[] }] 23)) hT ((Below.refl _ _).alloc (Nat.le_refl _) _)
  by_cases h1 : s.data.toList = tru
  · rw [show rdZ s.data.toList = (2, 1, [], 0) by unfold rdZ; rw [if_pos h1]]
    have b1 : (s.toList == [116, 114, 117, 101]) = true := by rw [ByteArray.toList_eq, h1]; rfl
    clear hV hF hP hK hT hT1 h1 hs
    go_enter Tryd.func10, Tryd.ntmps10
    go_wp2
    refine bodyPost_ret (v := rdV (2, 1, [], 0)) (by simp [results, Tryd.results10, go_sem, rdV]) rfl ⟨rfl, ?_⟩
    go_grown
  · have b1 : (s.toList == [116, 114, 117, 101]) = false := by rw [ByteArray.toList_eq, beq_eq_false_iff_ne]; exact h1
    by_cases h2 : s.data.toList = fls
    · rw [show rdZ s.data.toList = (2, 0, [], 0) by unfold rdZ; rw [if_neg h1, if_pos h2]]
      have b2 : (s.toList == [102, 97, 108, 115, 101]) = true := by rw [ByteArray.toList_eq, h2]; rfl
      clear hV hF hP hK hT hT1 h1 h2 hs
      go_enter Tryd.func10, Tryd.ntmps10
      go_wp2
      refine bodyPost_ret (v := rdV (2, 0, [], 0)) (by simp [results, Tryd.results10, go_sem, rdV]) rfl ⟨rfl, ?_⟩
      go_grown
    · have b2 : (s.toList == [102, 97, 108, 115, 101]) = false := by rw [ByteArray.toList_eq, beq_eq_false_iff_ne]; exact h2
      have cH := hasPrefix_any s
      cases h3 : Lib.hasPrefix s.data.toList [34] with
      | true =>
        rw [show rdZ s.data.toList = ((rtZ s.data.toList).1, 0, (rtZ s.data.toList).2.1, (rtZ s.data.toList).2.2) by unfold rdZ; rw [if_neg h1, if_neg h2, if_pos h3]]
        rw [h3] at cH
        have CH : Hid (∀ (W : World), Calls Tryd.prog 24 #[.string s, .string ⟨#[34]⟩] W fun e w' => e = .returned (.bool true) ∧ w' = W) := cH
        have cR := readText_any Tabs hV hK s _ hs hT1
        unfold rtV at cR
        generalize (rtZ s.data.toList).1 = zo at cR ⊢
        generalize (rtZ s.data.toList).2.1 = zt at cR ⊢
        generalize (rtZ s.data.toList).2.2 = ze at cR ⊢
        clear hV hF hP hK hT hT1 h1 h2 h3 cH hs
        go_enter Tryd.func10, Tryd.ntmps10
        go_wp2_with fail
        refine (CH.out _).mono ?_
        rintro e w1 ⟨rfl, rfl⟩
        go_wp2_with fail
        refine cR.mono ?_
        rintro e w1 ⟨rfl, hb1⟩
        have hbw : Below w.heap.size w w1 := ((Below.refl w.heap.size w).alloc (Nat.le_refl _) _).trans (hb1.mono (by simp))
        have hB : Box w1 w.heap.size 0 0 ⟨#[]⟩ := (Box.new w 0 0 ⟨#[]⟩ 23).keep hb1
        have f0 : w1.frozen? ⟨w.heap.size, 0, none⟩ = false := (hb1.frozen (p := ⟨w.heap.size, 0, none⟩) (by simp)).trans (by go_simp)
        have f1 : w1.frozen? ⟨w.heap.size, 1, none⟩ = false := (hb1.frozen (p := ⟨w.heap.size, 1, none⟩) (by simp)).trans (by go_simp)
        have f2 : w1.frozen? ⟨w.heap.size, 2, none⟩ = false := (hb1.frozen (p := ⟨w.heap.size, 2, none⟩) (by simp)).trans (by go_simp)
        obtain ⟨lt, r0, r1, r2⟩ := hB
        clear hb1 cR CH
        go_wp2
        refine bodyPost_ret (v := rdV (zo, 0, zt, ze)) (by simp [results, Tryd.results10, go_sem, rdV, r0, r1, r2]) rfl ⟨rfl, ?_⟩
        have hsz := hbw.size
        go_grown
      | false =>
        rw [show rdZ s.data.toList = ((riZ s.data.toList).1, (riZ s.data.toList).2.1, [], (riZ s.data.toList).2.2) by unfold rdZ; rw [if_neg h1, if_neg h2, if_neg (by rw [h3]; simp)]]
        rw [h3] at cH
        have CH : Hid (∀ (W : World), Calls Tryd.prog 24 #[.string s, .string ⟨#[34]⟩] W fun e w' => e = .returned (.bool false) ∧ w' = W) := cH
        have cR := readInt_any Tabs hF hP hK s _ hs hT1
        unfold riV at cR
        generalize (riZ s.data.toList).1 = zo at cR ⊢
        generalize (riZ s.data.toList).2.1 = zn at cR ⊢
        generalize (riZ s.data.toList).2.2 = ze at cR ⊢
        clear hV hF hP hK hT hT1 h1 h2 h3 cH hs
        go_enter Tryd.func10, Tryd.ntmps10
        go_wp2_with fail
        refine (CH.out _).mono ?_
        rintro e w1 ⟨rfl, rfl⟩
        go_wp2_with fail
        refine cR.mono ?_
        rintro e w1 ⟨rfl, hb1⟩
        have hbw : Below w.heap.size w w1 := ((Below.refl w.heap.size w).alloc (Nat.le_refl _) _).trans (hb1.mono (by simp))
        have hB : Box w1 w.heap.size 0 0 ⟨#[]⟩ := (Box.new w 0 0 ⟨#[]⟩ 23).keep hb1
        have f0 : w1.frozen? ⟨w.heap.size, 0, none⟩ = false := (hb1.frozen (p := ⟨w.heap.size, 0, none⟩) (by simp)).trans (by go_simp)
        have f1 : w1.frozen? ⟨w.heap.size, 1, none⟩ = false := (hb1.frozen (p := ⟨w.heap.size, 1, none⟩) (by simp)).trans (by go_simp)
        have f2 : w1.frozen? ⟨w.heap.size, 2, none⟩ = false := (hb1.frozen (p := ⟨w.heap.size, 2, none⟩) (by simp)).trans (by go_simp)
        obtain ⟨lt, r0, r1, r2⟩ := hB
        clear hb1 cR CH
        go_wp2
        refine bodyPost_ret (v := rdV (zo, zn, [], ze)) (by simp [results, Tryd.results10, go_sem, rdV, r0, r1, r2]) rfl ⟨rfl, ?_⟩
        have hsz := hbw.size
        go_grown
end Go.Proofs.YtbhgcfoplpjfjaaDoor
