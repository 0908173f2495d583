/-
  The contracts of strings.Clone, exprs.copied, compared, reckonOne and reckonTwo, each for every value; utf8.ValidString's and strings.Compare's contracts are hypotheses here.
-/
import Derived.Test.YthojpcclhcpeaaaDoorXh
import Derived.Test.YthojpcclhcpeaaaDoorLib
import Derived.Test.YthojpcclhcpeaaaDoorBx
import Derived.Deep.RegionHeld3
namespace Go.Proofs.YthojpcclhcpeaaaDoor
open Go.RowKit Go.Shelf
variable (Tabs : World → Prop)

def vlV (v : Vl) : Value := .agg #[.int .i64 v.so, .int .i64 v.n, .string v.s]
/-- a Value of zeros in a block of its own -/
structure ZB (W : World) (b : Nat) : Prop where
  lt : b < W.heap.size
  c0 : W.cell? ⟨b, 0, none⟩ = some (.int .i64 0)
  c1 : W.cell? ⟨b, 1, none⟩ = some (.int .i64 0)
  c2 : W.cell? ⟨b, 2, none⟩ = some (.string ⟨#[]⟩)
  f0 : W.frozen? ⟨b, 0, none⟩ = false
  f1 : W.frozen? ⟨b, 1, none⟩ = false
  f2 : W.frozen? ⟨b, 2, none⟩ = false
theorem ZB.keep {W W' : World} {b : Nat} (h : ZB W b) (hb : Below W.heap.size W W') : ZB W' b :=
  ⟨Nat.lt_of_lt_of_le h.lt hb.size, (hb.cell (p := ⟨b, 0, none⟩) h.lt).trans h.c0, (hb.cell (p := ⟨b, 1, none⟩) h.lt).trans h.c1, (hb.cell (p := ⟨b, 2, none⟩) h.lt).trans h.c2,
    (hb.frozen (p := ⟨b, 0, none⟩) h.lt).trans h.f0, (hb.frozen (p := ⟨b, 1, none⟩) h.lt).trans h.f1, (hb.frozen (p := ⟨b, 2, none⟩) h.lt).trans h.f2⟩
theorem ZB.new (W : World) (t : TypeId) : ZB (W.alloc (.cells #[.int .i64 0, .int .i64 0, .string ⟨#[]⟩] t)) W.heap.size :=
  ⟨by simp, by go_cell, by go_cell, by go_cell, by go_simp, by go_simp, by go_simp⟩

theorem lite_any (s : ByteArray) (w : World) (hs : s.size ≤ 281474976710656) :
    Calls Tryd.prog 103 #[.string s] w fun e w' => e = .returned (.string s) ∧ Below w.heap.size w w' := Any.stringslite_Clone Tryd.laysM316 s w hs
set_option maxHeartbeats 400000 in
theorem clone_any (s : ByteArray) (w : World) (hs : s.size ≤ 281474976710656) :
    Calls Tryd.prog 63 #[.string s] w fun e w' => e = .returned (.string s) ∧ Below w.heap.size w w' := by
  have c := lite_any s w hs
  go_enter Tryd.func63, Tryd.ntmps63
  go_wp2_with fail
  refine c.mono ?_
  rintro e w1 ⟨rfl, hb⟩
  go_wp2_with fail
  go_ret
  exact ⟨rfl, hb⟩

theorem tru_val (b : Bool) : vlV (truV b) = .agg #[.int .i64 2, .int .i64 (if b then 1 else 0), .string ⟨#[]⟩] := rfl
theorem num_val (z : Int) : vlV (numV z) = .agg #[.int .i64 1, .int .i64 z, .string ⟨#[]⟩] := rfl
end Go.Proofs.YthojpcclhcpeaaaDoor
/-
  The contract of exprs.reckonTwo, for every two values; utf8.ValidString's and strings.Compare's contracts are hypotheses here.
-/
namespace Go.Proofs.YthojpcclhcpeaaaDoor
open Go.RowKit Go.Shelf
variable (Tabs : World → Prop)

theorem cmp_lists (l : List UInt8) (h : ¬ (l = [61, 61] ∨ l = [60] ∨ l = [60, 61])) : l ≠ [61, 61] ∧ l ≠ [60] ∧ l ≠ [60, 61] := ⟨fun e => h (.inl e), fun e => h (.inr (.inl e)), fun e => h (.inr (.inr e))⟩

end Go.Proofs.YthojpcclhcpeaaaDoor

/-
  The contracts of exprs.valueOfName and valueOf, for every right expression and every environment of values; utf8.ValidString's and strings.Compare's contracts are hypotheses here.
-/
namespace Go.Proofs.YthojpcclhcpeaaaDoor
open Go.RowKit Go.Shelf
variable (Tabs : World → Prop)

/-- what a name stands for -/
def lookV (bs : List (ByteArray × Vl)) (nm : ByteArray) : Vl := match lastOf nm bs with
  | some v => v
  | none => ⟨0, 0, ⟨#[]⟩⟩
theorem lookV_none (bs : List (ByteArray × Vl)) (nm : ByteArray) (h : ∀ i (hi : i < bs.length), bs[i].1 ≠ nm) : lookV bs nm = ⟨0, 0, ⟨#[]⟩⟩ := by
  unfold lookV; rw [lastOf_none nm _ h]
theorem lookV_at (bs : List (ByteArray × Vl)) (nm : ByteArray) (k : Nat) (hk : k < bs.length) (h : bs[k].1 = nm) (ha : ∀ i (hi : i < bs.length), k < i → bs[i].1 ≠ nm) : lookV bs nm = bs[k].2 := by
  unfold lookV; rw [lastOf_at nm _ k hk h ha]
theorem lastOf_mem {α : Type} (nm : ByteArray) : ∀ (l : List (ByteArray × α)) (v : α), lastOf nm l = some v → ∃ p ∈ l, p.2 = v ∧ p.1 = nm
  | [], v, h => by cases h
  | p :: r, v, h => by
    unfold lastOf at h
    cases hr : lastOf nm r with
    | some u => rw [hr] at h; obtain ⟨q, hq, e⟩ := lastOf_mem nm r u hr; cases h; exact ⟨q, .tail _ hq, e⟩
    | none =>
      rw [hr] at h
      simp only at h
      split at h
      · cases h; exact ⟨p, .head _, rfl, ‹_›⟩
      · cases h
theorem e0 : (⟨#[]⟩ : ByteArray).size ≤ 100 := by decide
theorem lookV_size (bs : List (ByteArray × Vl)) (h : ∀ p ∈ bs, p.2.s.size ≤ 100) (nm : ByteArray) : (lookV bs nm).s.size ≤ 100 := by
  unfold lookV
  cases e : lastOf nm bs with
  | none => exact e0
  | some v => obtain ⟨p, hp, rfl, _⟩ := lastOf_mem nm bs v e; exact h p hp

/-- values by their names, as binds -/
structure EnvAt (W : World) (B : Nat) (bs : List (ByteArray × Vl)) (ae : Option Addr) : Prop where
  bd : bs.length ≤ 9223372036854775806
  c : bs = [] ∨ ∃ b o, ae = some ⟨b, o, none⟩ ∧ b < B ∧ ∀ i (h : i < bs.length), W.cell? ⟨b, o + i * 4, none⟩ = some (.string bs[i].1) ∧ W.cell? ⟨b, o + i * 4 + 1, none⟩ = some (.int .i64 bs[i].2.so) ∧ W.cell? ⟨b, o + i * 4 + 2, none⟩ = some (.int .i64 bs[i].2.n) ∧ W.cell? ⟨b, o + i * 4 + 3, none⟩ = some (.string bs[i].2.s)
theorem EnvAt.keep {W W' : World} {B : Nat} {bs : List (ByteArray × Vl)} {ae : Option Addr} (h : EnvAt W B bs ae) (hb : Below B W W') : EnvAt W' B bs ae :=
  ⟨h.bd, h.c.imp id (fun ⟨b, o, e, hl, hc⟩ => ⟨b, o, e, hl, fun i hi => ⟨(hb.cell (p := ⟨b, o + i * 4, none⟩) hl).trans (hc i hi).1, (hb.cell (p := ⟨b, o + i * 4 + 1, none⟩) hl).trans (hc i hi).2.1, (hb.cell (p := ⟨b, o + i * 4 + 2, none⟩) hl).trans (hc i hi).2.2.1, (hb.cell (p := ⟨b, o + i * 4 + 3, none⟩) hl).trans (hc i hi).2.2.2⟩⟩)⟩
theorem EnvAt.mono {W : World} {B B' : Nat} {bs : List (ByteArray × Vl)} {ae : Option Addr} (h : EnvAt W B bs ae) (hB : B ≤ B') : EnvAt W B' bs ae :=
  ⟨h.bd, h.c.imp id (fun ⟨b, o, e, hl, hc⟩ => ⟨b, o, e, by omega, hc⟩)⟩

theorem chk_size (so n : Int) (s : ByteArray) (h : chkZ vD so n s = 0) : s.size ≤ 100 := by
  unfold chkZ at h
  have he : ∀ b : Bool, argZ (s.toList.isEmpty && b) = 0 → s.size ≤ 100 := by
    intro b hb
    have := (argZ_zero _).1 hb
    rw [empty_toList] at this
    simp at this
    rw [this.1]; exact e0
  split at h
  · exact he true (by simpa using h)
  · split at h
    · exact he _ h
    · split at h
      · exact ((text_zero _ _ _).1 h).2.1
      · simp at h
theorem join_size (a b : ByteArray) : (joinS a b).size ≤ 100 := by
  unfold joinS; rw [str_size]; have := fit_len 0 (letS a ++ letS b) (by omega); omega
theorem val_size (F : ByteArray → Vl) (hF : ∀ nm, (F nm).s.size ≤ 100) : ∀ x : Ex, wfX x → (valX F x).s.size ≤ 100 := by
  intro x hw
  rcases wf_cases x hw with ⟨h, _, hg⟩ | ⟨h, _, _⟩ | ⟨h, a, hk, ha, hop⟩ | ⟨h, a, b, hk, ha, hb, hop⟩
  · rw [val_lit F x h]; exact chk_size _ _ _ hg
  · rw [val_name F x h]; exact hF _
  · rw [val_one F x a h hk]
    unfold oneV
    split
    · exact e0
    · split <;> exact e0
  · rw [val_two F x a b h hk]
    unfold twoV
    split
    · exact e0
    · split
      · exact e0
      · split
        · unfold cmpV; split
          · exact e0
          · split <;> exact e0
        · split
          · unfold joinV; split
            · exact join_size _ _
            · exact e0
          · exact e0

/-- what the last statement of valueOf reads -/
structure R9 (w : World) (nm : ByteArray) (sl : Value) (q b o : Nat) (z : Vl) (a : Ex) (ao : Option Addr) (cap : Nat) (W : World) : Prop where
  c1 : W.cell? ⟨w.heap.size, 1, none⟩ = some (.string nm)
  c5 : W.cell? ⟨w.heap.size, 5, none⟩ = some sl
  bx : Box W q z.so z.n z.s
  ex : ExAt W b (o + 6) a ao cap
  zb : ZB W (w.heap.size + 1)
  tb : Tabs W
  bl : Below w.heap.size w W
theorem R9.keep (hK : ∀ w w', Tabs w → Below w.heap.size w w' → Tabs w') {w : World} {nm : ByteArray} {sl : Value} {q b o : Nat} {z : Vl} {a : Ex} {ao : Option Addr} {cap : Nat} {W W' : World} (h : R9 Tabs w nm sl q b o z a ao cap W) (hb : Below W.heap.size W W') : R9 Tabs w nm sl q b o z a ao cap W' :=
  ⟨(hb.cell (p := ⟨w.heap.size, 1, none⟩) (Nat.lt_trans (Nat.lt_succ_self _) h.zb.lt)).trans h.c1, (hb.cell (p := ⟨w.heap.size, 5, none⟩) (Nat.lt_trans (Nat.lt_succ_self _) h.zb.lt)).trans h.c5, h.bx.keep hb, h.ex.keep hb (lt_of_cell h.ex.c0), h.zb.keep hb, hK _ _ h.tb hb, h.bl.trans (hb.mono h.bl.size)⟩

end Go.Proofs.YthojpcclhcpeaaaDoor
