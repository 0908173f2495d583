/-
  The contract of values.Write, for every value; the contracts of utf8.ValidString and strconv.FormatInt are hypotheses here.
-/
import Derived.Test.YtipolobikigmbaaGreatDoorFs
import Derived.Test.YtipolobikigmbaaGreatDoorWb
import Derived.Test.YtipolobikigmbaaGreatDoorXd
import Derived.Test.YtipolobikigmbaaGreatDoorEo
import Derived.Test.YtipolobikigmbaaGreatDoorBu
import Derived.Deep.RegionHeld3
namespace Go.Proofs.YtipolobikigmbaaGreatDoor
open Go.RowKit Go.Shelf
variable (Tabs : World → Prop)

/-- a value's text -/
def wtL (so n : Int) (s : ByteArray) : List UInt8 := if so = 1 then Lib.itoa n else if so = 2 then Lib.formatBool (n == 1) else quo s.data.toList
theorem formatBool_any (b : Bool) (w : World) : Calls Tryz.prog 93 #[.bool b] w fun e w' => e = .returned (.string ⟨(Lib.formatBool b).toArray⟩) ∧ w' = w := Any.strconv_FormatBool Tryz.lays121 b w

theorem chk_sorts (V : ByteArray → Bool) (so n : Int) (s : ByteArray) (h : chkZ V so n s = 0) : so = 1 ∨ so = 2 ∨ so = 3 := by
  unfold chkZ at h
  by_cases h1 : so = 1
  · exact .inl h1
  · by_cases h2 : so = 2
    · exact .inr (.inl h2)
    · by_cases h3 : so = 3
      · exact .inr (.inr h3)
      · simp [h1, h2, h3] at h

set_option maxRecDepth 100000 in
set_option maxHeartbeats 1000000 in
theorem write_bad (hV : VSaid vD Tabs) (hK : ∀ w w', Tabs w → Below w.heap.size w w' → Tabs w') (so n : Int) (s : ByteArray) (w : World) (hs : s.size ≤ 9223372036854775807) (hT : Tabs w) (hz : chkZ vD so n s ≠ 0) :
    Calls Tryz.prog 56 #[.agg #[.int .i64 so, .int .i64 n, .string s]] w fun e w' => e = .returned (.tuple #[.string ⟨#[]⟩, .int .i64 (chkZ vD so n s)]) ∧ Below w.heap.size w w' := by
  have c1 := check_any vD Tabs hV hK so n s (w.alloc (.cells #[.int .i64 so, .int .i64 n, .string s] 36)) hs (hK _ _ hT ((Below.refl _ _).alloc (Nat.le_refl _) _))
  generalize chkZ vD so n s = z at c1 hz ⊢
  have hzb : (z != 0) = true := by simpa using hz
  clear hV hK hT
  go_enter Tryz.func56, Tryz.ntmps56
  go_wp2_with fail
  refine c1.mono ?_
  rintro e w1 ⟨rfl, hb1⟩
  have hbw : Below w.heap.size w w1 := ((Below.refl w.heap.size w).alloc (Nat.le_refl _) _).trans (hb1.mono (by simp))
  clear hb1 c1
  go_wp2
  go_ret2
  exact ⟨rfl, hbw⟩

set_option maxRecDepth 100000 in
set_option maxHeartbeats 1000000 in
theorem write_good (hV : VSaid vD Tabs) (hF : FSaid Tabs) (hK : ∀ w w', Tabs w → Below w.heap.size w w' → Tabs w') (so n : Int) (s : ByteArray) (w : World) (hs : s.size ≤ 9223372036854775807) (hn0 : -9223372036854775808 ≤ n) (hn1 : n ≤ 9223372036854775807) (hT : Tabs w) (hz : chkZ vD so n s = 0) :
    Calls Tryz.prog 56 #[.agg #[.int .i64 so, .int .i64 n, .string s]] w fun e w' => e = .returned (.tuple #[.string (bs (wtL so n s)), .int .i64 0]) ∧ Below w.heap.size w w' := by
  have hT1 := hK w (w.alloc (.cells #[.int .i64 so, .int .i64 n, .string s] 36)) hT ((Below.refl _ _).alloc (Nat.le_refl _) _)
  have c1 := check_any vD Tabs hV hK so n s (w.alloc (.cells #[.int .i64 so, .int .i64 n, .string s] 36)) hs hT1
  rw [hz] at c1
  rcases chk_sorts vD so n s hz with rfl | rfl | rfl
  · rw [show wtL 1 n s = Lib.itoa n from rfl]
    have CF : Hid (∀ W, Tabs W → Calls Tryz.prog 92 #[.int .i64 n, .int .i64 10] W fun e w' => e = .returned (.string (bs (Lib.itoa n))) ∧ Below W.heap.size W w') := fun W hW => hF n W hn0 hn1 hW
    generalize bs (Lib.itoa n) = F at CF ⊢
    clear hV hF hT hz
    go_enter Tryz.func56, Tryz.ntmps56
    go_wp2_with fail
    refine c1.mono ?_
    rintro e w1 ⟨rfl, hb1⟩
    have hbw : Below w.heap.size w w1 := ((Below.refl w.heap.size w).alloc (Nat.le_refl _) _).trans (hb1.mono (by simp))
    obtain ⟨lt, r0, r1, r2⟩ := (Box.new w 1 n s 36).keep hb1
    have hT2 := hK _ _ hT1 hb1
    clear hb1 c1 hT1 hK
    go_wp2_with fail
    refine (CF.out _ hT2).mono ?_
    rintro e w2 ⟨rfl, hb2⟩
    go_wp2
    go_ret2
    exact ⟨rfl, hbw.trans (hb2.mono hbw.size)⟩
  · rw [show wtL 2 n s = Lib.formatBool (n == 1) from rfl]
    have CB : Hid (∀ (b : Bool) (W : World), Calls Tryz.prog 93 #[.bool b] W fun e w' => e = .returned (.string (bs (Lib.formatBool b))) ∧ w' = W) := formatBool_any
    clear hV hF hT hz
    go_enter Tryz.func56, Tryz.ntmps56
    go_wp2_with fail
    refine c1.mono ?_
    rintro e w1 ⟨rfl, hb1⟩
    have hbw : Below w.heap.size w w1 := ((Below.refl w.heap.size w).alloc (Nat.le_refl _) _).trans (hb1.mono (by simp))
    obtain ⟨lt, r0, r1, r2⟩ := (Box.new w 2 n s 36).keep hb1
    clear hb1 c1 hT1 hK
    go_wp2_with fail
    refine (CB.out _ _).mono ?_
    rintro e w2 ⟨rfl, rfl⟩
    go_wp2
    go_ret2
    exact ⟨rfl, hbw⟩
  · rw [show wtL 3 n s = quo s.data.toList from rfl]
    have hsz : s.size ≤ 100 := ((text_zero vD n s).1 hz).2.1
    have CQ : Hid (∀ (W : World), Calls Tryz.prog 94 #[.string s] W fun e w' => e = .returned (.string (bs (quo s.data.toList))) ∧ Below W.heap.size W w') := fun W => quoted_any s W hsz
    generalize bs (quo s.data.toList) = F at CQ ⊢
    clear hV hF hT hz
    go_enter Tryz.func56, Tryz.ntmps56
    go_wp2_with fail
    refine c1.mono ?_
    rintro e w1 ⟨rfl, hb1⟩
    have hbw : Below w.heap.size w w1 := ((Below.refl w.heap.size w).alloc (Nat.le_refl _) _).trans (hb1.mono (by simp))
    obtain ⟨lt, r0, r1, r2⟩ := (Box.new w 3 n s 36).keep hb1
    clear hb1 c1 hT1 hK
    go_wp2_with fail
    refine (CQ.out _).mono ?_
    rintro e w2 ⟨rfl, hb2⟩
    go_wp2
    go_ret2
    exact ⟨rfl, hbw.trans (hb2.mono hbw.size)⟩
end Go.Proofs.YtipolobikigmbaaGreatDoor
/-
  The contracts of strings.Clone, exprs.copied, compared, reckonOne and reckonTwo, each for every value; utf8.ValidString's and strings.Compare's contracts are hypotheses here.
-/
namespace Go.Proofs.YtipolobikigmbaaGreatDoor
open Go.RowKit Go.Shelf
variable (Tabs : World → Prop)

def vlV (v : Vl) : Value := .agg #[.int .i64 v.so, .int .i64 v.n, .string v.s]
/-- a Value of zeros in a block of its own -/
structure ZB (W : World) (b : Nat) : Prop where
  lt : b < W.heap.size
  c0 : W.cell? ⟨b, 0, none⟩ = some (.int .i64 0)
  c1 : W.cell? ⟨b, 1, none⟩ = some (.int .i64 0)
  c2 : W.cell? ⟨b, 2, none⟩ = some (.string ⟨#[]⟩)
  f0 : W.frozen? ⟨b, 0, none⟩ = false
  f1 : W.frozen? ⟨b, 1, none⟩ = false
  f2 : W.frozen? ⟨b, 2, none⟩ = false
theorem ZB.keep {W W' : World} {b : Nat} (h : ZB W b) (hb : Below W.heap.size W W') : ZB W' b :=
  ⟨Nat.lt_of_lt_of_le h.lt hb.size, (hb.cell (p := ⟨b, 0, none⟩) h.lt).trans h.c0, (hb.cell (p := ⟨b, 1, none⟩) h.lt).trans h.c1, (hb.cell (p := ⟨b, 2, none⟩) h.lt).trans h.c2,
    (hb.frozen (p := ⟨b, 0, none⟩) h.lt).trans h.f0, (hb.frozen (p := ⟨b, 1, none⟩) h.lt).trans h.f1, (hb.frozen (p := ⟨b, 2, none⟩) h.lt).trans h.f2⟩
theorem ZB.new (W : World) (t : TypeId) : ZB (W.alloc (.cells #[.int .i64 0, .int .i64 0, .string ⟨#[]⟩] t)) W.heap.size :=
  ⟨by simp, by go_cell, by go_cell, by go_cell, by go_simp, by go_simp, by go_simp⟩

theorem lite_any (s : ByteArray) (w : World) (hs : s.size ≤ 281474976710656) :
    Calls Tryz.prog 95 #[.string s] w fun e w' => e = .returned (.string s) ∧ Below w.heap.size w w' := Any.stringslite_Clone Tryz.laysM316 s w hs
set_option maxHeartbeats 400000 in
theorem clone_any (s : ByteArray) (w : World) (hs : s.size ≤ 281474976710656) :
    Calls Tryz.prog 57 #[.string s] w fun e w' => e = .returned (.string s) ∧ Below w.heap.size w w' := by
  have c := lite_any s w hs
  go_enter Tryz.func57, Tryz.ntmps57
  go_wp2_with fail
  refine c.mono ?_
  rintro e w1 ⟨rfl, hb⟩
  go_wp2_with fail
  go_ret
  exact ⟨rfl, hb⟩

theorem tru_val (b : Bool) : vlV (truV b) = .agg #[.int .i64 2, .int .i64 (if b then 1 else 0), .string ⟨#[]⟩] := rfl
theorem num_val (z : Int) : vlV (numV z) = .agg #[.int .i64 1, .int .i64 z, .string ⟨#[]⟩] := rfl
end Go.Proofs.YtipolobikigmbaaGreatDoor

/-
  The contract of exprs.reckonTwo, for every two values; utf8.ValidString's and strings.Compare's contracts are hypotheses here.
-/
namespace Go.Proofs.YtipolobikigmbaaGreatDoor
open Go.RowKit Go.Shelf
variable (Tabs : World → Prop)

theorem cmp_lists (l : List UInt8) (h : ¬ (l = [61, 61] ∨ l = [60] ∨ l = [60, 61])) : l ≠ [61, 61] ∧ l ≠ [60] ∧ l ≠ [60, 61] := ⟨fun e => h (.inl e), fun e => h (.inr (.inl e)), fun e => h (.inr (.inr e))⟩

end Go.Proofs.YtipolobikigmbaaGreatDoor

/-
  The contracts of exprs.valueOfName and valueOf, for every right expression and every environment of values; utf8.ValidString's and strings.Compare's contracts are hypotheses here.
-/
namespace Go.Proofs.YtipolobikigmbaaGreatDoor
open Go.RowKit Go.Shelf
variable (Tabs : World → Prop)

/-- what a name stands for -/
def lookV (bs : List (ByteArray × Vl)) (nm : ByteArray) : Vl := match lastOf nm bs with
  | some v => v
  | none => ⟨0, 0, ⟨#[]⟩⟩
theorem lookV_none (bs : List (ByteArray × Vl)) (nm : ByteArray) (h : ∀ i (hi : i < bs.length), bs[i].1 ≠ nm) : lookV bs nm = ⟨0, 0, ⟨#[]⟩⟩ := by
  unfold lookV; rw [lastOf_none nm _ h]
theorem lookV_at (bs : List (ByteArray × Vl)) (nm : ByteArray) (k : Nat) (hk : k < bs.length) (h : bs[k].1 = nm) (ha : ∀ i (hi : i < bs.length), k < i → bs[i].1 ≠ nm) : lookV bs nm = bs[k].2 := by
  unfold lookV; rw [lastOf_at nm _ k hk h ha]
theorem lastOf_mem {α : Type} (nm : ByteArray) : ∀ (l : List (ByteArray × α)) (v : α), lastOf nm l = some v → ∃ p ∈ l, p.2 = v ∧ p.1 = nm
  | [], v, h => by cases h
  | p :: r, v, h => by
    unfold lastOf at h
    cases hr : lastOf nm r with
    | some u => rw [hr] at h; obtain ⟨q, hq, e⟩ := lastOf_mem nm r u hr; cases h; exact ⟨q, .tail _ hq, e⟩
    | none =>
      rw [hr] at h
      simp only at h
      split at h
      · cases h; exact ⟨p, .head _, rfl, ‹_›⟩
      · cases h
theorem empB : (⟨#[]⟩ : ByteArray).size ≤ 100 := by decide
theorem lookV_size (bs : List (ByteArray × Vl)) (h : ∀ p ∈ bs, p.2.s.size ≤ 100) (nm : ByteArray) : (lookV bs nm).s.size ≤ 100 := by
  unfold lookV
  cases e : lastOf nm bs with
  | none => exact empB
  | some v => obtain ⟨p, hp, rfl, _⟩ := lastOf_mem nm bs v e; exact h p hp

/-- values by their names, as binds -/
structure EnvAt (W : World) (B : Nat) (bs : List (ByteArray × Vl)) (ae : Option Addr) : Prop where
  bd : bs.length ≤ 9223372036854775806
  c : bs = [] ∨ ∃ b o, ae = some ⟨b, o, none⟩ ∧ b < B ∧ ∀ i (h : i < bs.length), W.cell? ⟨b, o + i * 4, none⟩ = some (.string bs[i].1) ∧ W.cell? ⟨b, o + i * 4 + 1, none⟩ = some (.int .i64 bs[i].2.so) ∧ W.cell? ⟨b, o + i * 4 + 2, none⟩ = some (.int .i64 bs[i].2.n) ∧ W.cell? ⟨b, o + i * 4 + 3, none⟩ = some (.string bs[i].2.s)
theorem EnvAt.keep {W W' : World} {B : Nat} {bs : List (ByteArray × Vl)} {ae : Option Addr} (h : EnvAt W B bs ae) (hb : Below B W W') : EnvAt W' B bs ae :=
  ⟨h.bd, h.c.imp id (fun ⟨b, o, e, hl, hc⟩ => ⟨b, o, e, hl, fun i hi => ⟨(hb.cell (p := ⟨b, o + i * 4, none⟩) hl).trans (hc i hi).1, (hb.cell (p := ⟨b, o + i * 4 + 1, none⟩) hl).trans (hc i hi).2.1, (hb.cell (p := ⟨b, o + i * 4 + 2, none⟩) hl).trans (hc i hi).2.2.1, (hb.cell (p := ⟨b, o + i * 4 + 3, none⟩) hl).trans (hc i hi).2.2.2⟩⟩)⟩
theorem EnvAt.mono {W : World} {B B' : Nat} {bs : List (ByteArray × Vl)} {ae : Option Addr} (h : EnvAt W B bs ae) (hB : B ≤ B') : EnvAt W B' bs ae :=
  ⟨h.bd, h.c.imp id (fun ⟨b, o, e, hl, hc⟩ => ⟨b, o, e, by omega, hc⟩)⟩

theorem chk_size (so n : Int) (s : ByteArray) (h : chkZ vD so n s = 0) : s.size ≤ 100 := by
  unfold chkZ at h
  have he : ∀ b : Bool, argZ (s.toList.isEmpty && b) = 0 → s.size ≤ 100 := by
    intro b hb
    have := (argZ_zero _).1 hb
    rw [empty_toList] at this
    simp at this
    rw [this.1]; exact empB
  split at h
  · exact he true (by simpa using h)
  · split at h
    · exact he _ h
    · split at h
      · exact ((text_zero _ _ _).1 h).2.1
      · simp at h
theorem join_size (a b : ByteArray) : (joinS a b).size ≤ 100 := by
  unfold joinS; rw [str_size]; have := fit_len 0 (letS a ++ letS b) (by omega); omega
theorem val_size (F : ByteArray → Vl) (hF : ∀ nm, (F nm).s.size ≤ 100) : ∀ x : Ex, wfX x → (valX F x).s.size ≤ 100 := by
  intro x hw
  rcases wf_cases x hw with ⟨h, _, hg⟩ | ⟨h, _, _⟩ | ⟨h, a, hk, ha, hop⟩ | ⟨h, a, b, hk, ha, hb, hop⟩
  · rw [val_lit F x h]; exact chk_size _ _ _ hg
  · rw [val_name F x h]; exact hF _
  · rw [val_one F x a h hk]
    unfold oneV
    split
    · exact empB
    · split <;> exact empB
  · rw [val_two F x a b h hk]
    unfold twoV
    split
    · exact empB
    · split
      · exact empB
      · split
        · unfold cmpV; split
          · exact empB
          · split <;> exact empB
        · split
          · unfold joinV; split
            · exact join_size _ _
            · exact empB
          · exact empB

/-- what the last statement of valueOf reads -/
structure R9 (w : World) (nm : ByteArray) (sl : Value) (q b o : Nat) (z : Vl) (a : Ex) (ao : Option Addr) (cap : Nat) (W : World) : Prop where
  c1 : W.cell? ⟨w.heap.size, 1, none⟩ = some (.string nm)
  c5 : W.cell? ⟨w.heap.size, 5, none⟩ = some sl
  bx : Box W q z.so z.n z.s
  ex : ExAt W b (o + 6) a ao cap
  zb : ZB W (w.heap.size + 1)
  tb : Tabs W
  bl : Below w.heap.size w W
theorem R9.keep (hK : ∀ w w', Tabs w → Below w.heap.size w w' → Tabs w') {w : World} {nm : ByteArray} {sl : Value} {q b o : Nat} {z : Vl} {a : Ex} {ao : Option Addr} {cap : Nat} {W W' : World} (h : R9 Tabs w nm sl q b o z a ao cap W) (hb : Below W.heap.size W W') : R9 Tabs w nm sl q b o z a ao cap W' :=
  ⟨(hb.cell (p := ⟨w.heap.size, 1, none⟩) (Nat.lt_trans (Nat.lt_succ_self _) h.zb.lt)).trans h.c1, (hb.cell (p := ⟨w.heap.size, 5, none⟩) (Nat.lt_trans (Nat.lt_succ_self _) h.zb.lt)).trans h.c5, h.bx.keep hb, h.ex.keep hb (lt_of_cell h.ex.c0), h.zb.keep hb, hK _ _ h.tb hb, h.bl.trans (hb.mono h.bl.size)⟩

end Go.Proofs.YtipolobikigmbaaGreatDoor
