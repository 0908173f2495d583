/-
  The contract of values.Write, for every value; the contracts of utf8.ValidString and strconv.FormatInt are hypotheses here.
-/
import Derived.Test.YthojpcclhcpeaaaDoorWr
import Derived.Test.YthojpcclhcpeaaaDoorFs
import Derived.Test.YthojpcclhcpeaaaDoorJm
import Derived.Test.YthojpcclhcpeaaaDoorLid
namespace Go.Proofs.YthojpcclhcpeaaaDoor
open Go.RowKit Go.Shelf
variable (Tabs : World → Prop)

/-- a value's text -/
def wtL (so n : Int) (s : ByteArray) : List UInt8 := if so = 1 then Lib.itoa n else if so = 2 then Lib.formatBool (n == 1) else quo s.data.toList
theorem formatBool_any (b : Bool) (w : World) : Calls Tryd.prog 101 #[.bool b] w fun e w' => e = .returned (.string ⟨(Lib.formatBool b).toArray⟩) ∧ w' = w := Any.strconv_FormatBool Tryd.lays121 b w

theorem chk_sorts (V : ByteArray → Bool) (so n : Int) (s : ByteArray) (h : chkZ V so n s = 0) : so = 1 ∨ so = 2 ∨ so = 3 := by
  unfold chkZ at h
  by_cases h1 : so = 1
  · exact .inl h1
  · by_cases h2 : so = 2
    · exact .inr (.inl h2)
    · by_cases h3 : so = 3
      · exact .inr (.inr h3)
      · simp [h1, h2, h3] at h

set_option maxRecDepth 100000 in
set_option maxHeartbeats 1000000 in
theorem write_bad (hV : VSaid vD Tabs) (hK : ∀ w w', Tabs w → Below w.heap.size w w' → Tabs w') (so n : Int) (s : ByteArray) (w : World) (hs : s.size ≤ 9223372036854775807) (hT : Tabs w) (hz : chkZ vD so n s ≠ 0) :
    Calls Tryd.prog 62 #[.agg #[.int .i64 so, .int .i64 n, .string s]] w fun e w' => e = .returned (.tuple #[.string ⟨#[]⟩, .int .i64 (chkZ vD so n s)]) ∧ Below w.heap.size w w' := by
  have c1 := check_any vD Tabs hV hK so n s (w.alloc (.cells #[.int .i64 so, .int .i64 n, .string s] 23)) hs (hK _ _ hT ((Below.refl _ _).alloc (Nat.le_refl _) _))
  generalize chkZ vD so n s = z at c1 hz ⊢
  have hzb : (z != 0) = true := by simpa using hz
  clear hV hK hT
  go_enter Tryd.func62, Tryd.ntmps62
  go_wp2_with fail
  refine c1.mono ?_
  rintro e w1 ⟨rfl, hb1⟩
  have hbw : Below w.heap.size w w1 := ((Below.refl w.heap.size w).alloc (Nat.le_refl _) _).trans (hb1.mono (by simp))
  clear hb1 c1
  go_wp2
  go_ret2
  exact ⟨rfl, hbw⟩

set_option maxRecDepth 100000 in
set_option maxHeartbeats 1000000 in
theorem write_good (hV : VSaid vD Tabs) (hF : FSaid Tabs) (hK : ∀ w w', Tabs w → Below w.heap.size w w' → Tabs w') (so n : Int) (s : ByteArray) (w : World) (hs : s.size ≤ 9223372036854775807) (hn0 : -9223372036854775808 ≤ n) (hn1 : n ≤ 9223372036854775807) (hT : Tabs w) (hz : chkZ vD so n s = 0) :
    Calls Tryd.prog 62 #[.agg #[.int .i64 so, .int .i64 n, .string s]] w fun e w' => e = .returned (.tuple #[.string (bs (wtL so n s)), .int .i64 0]) ∧ Below w.heap.size w w' := by
  have hT1 := hK w (w.alloc (.cells #[.int .i64 so, .int .i64 n, .string s] 23)) hT ((Below.refl _ _).alloc (Nat.le_refl _) _)
  have c1 := check_any vD Tabs hV hK so n s (w.alloc (.cells #[.int .i64 so, .int .i64 n, .string s] 23)) hs hT1
  rw [hz] at c1
  rcases chk_sorts vD so n s hz with rfl | rfl | rfl
  · rw [show wtL 1 n s = Lib.itoa n from rfl]
    have CF : Hid (∀ W, Tabs W → Calls Tryd.prog 100 #[.int .i64 n, .int .i64 10] W fun e w' => e = .returned (.string (bs (Lib.itoa n))) ∧ Below W.heap.size W w') := fun W hW => hF n W hn0 hn1 hW
    generalize bs (Lib.itoa n) = F at CF ⊢
    clear hV hF hT hz
    go_enter Tryd.func62, Tryd.ntmps62
    go_wp2_with fail
    refine c1.mono ?_
    rintro e w1 ⟨rfl, hb1⟩
    have hbw : Below w.heap.size w w1 := ((Below.refl w.heap.size w).alloc (Nat.le_refl _) _).trans (hb1.mono (by simp))
    obtain ⟨lt, r0, r1, r2⟩ := (Box.new w 1 n s 23).keep hb1
    have hT2 := hK _ _ hT1 hb1
    clear hb1 c1 hT1 hK
    go_wp2_with fail
    refine (CF.out _ hT2).mono ?_
    rintro e w2 ⟨rfl, hb2⟩
    go_wp2
    go_ret2
    exact ⟨rfl, hbw.trans (hb2.mono hbw.size)⟩
  · rw [show wtL 2 n s = Lib.formatBool (n == 1) from rfl]
    have CB : Hid (∀ (b : Bool) (W : World), Calls Tryd.prog 101 #[.bool b] W fun e w' => e = .returned (.string (bs (Lib.formatBool b))) ∧ w' = W) := formatBool_any
    clear hV hF hT hz
    go_enter Tryd.func62, Tryd.ntmps62
    go_wp2_with fail
    refine c1.mono ?_
    rintro e w1 ⟨rfl, hb1⟩
    have hbw : Below w.heap.size w w1 := ((Below.refl w.heap.size w).alloc (Nat.le_refl _) _).trans (hb1.mono (by simp))
    obtain ⟨lt, r0, r1, r2⟩ := (Box.new w 2 n s 23).keep hb1
    clear hb1 c1 hT1 hK
    go_wp2_with fail
    refine (CB.out _ _).mono ?_
    rintro e w2 ⟨rfl, rfl⟩
    go_wp2
    go_ret2
    exact ⟨rfl, hbw⟩
  · rw [show wtL 3 n s = quo s.data.toList from rfl]
    have hsz : s.size ≤ 100 := ((text_zero vD n s).1 hz).2.1
    have CQ : Hid (∀ (W : World), Calls Tryd.prog 102 #[.string s] W fun e w' => e = .returned (.string (bs (quo s.data.toList))) ∧ Below W.heap.size W w') := fun W => quoted_any s W hsz
    generalize bs (quo s.data.toList) = F at CQ ⊢
    clear hV hF hT hz
    go_enter Tryd.func62, Tryd.ntmps62
    go_wp2_with fail
    refine c1.mono ?_
    rintro e w1 ⟨rfl, hb1⟩
    have hbw : Below w.heap.size w w1 := ((Below.refl w.heap.size w).alloc (Nat.le_refl _) _).trans (hb1.mono (by simp))
    obtain ⟨lt, r0, r1, r2⟩ := (Box.new w 3 n s 23).keep hb1
    clear hb1 c1 hT1 hK
    go_wp2_with fail
    refine (CQ.out _).mono ?_
    rintro e w2 ⟨rfl, hb2⟩
    go_wp2
    go_ret2
    exact ⟨rfl, hbw.trans (hb2.mono hbw.size)⟩
end Go.Proofs.YthojpcclhcpeaaaDoor
