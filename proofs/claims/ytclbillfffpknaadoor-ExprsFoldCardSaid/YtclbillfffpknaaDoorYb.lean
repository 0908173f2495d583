/-
  The contracts of exprs.isNoLiteral, slices.IndexFunc and slices.ContainsFunc with it, and exprs.literal and exprs.folded, for every right part; utf8.ValidString's and strings.Compare's contracts are hypotheses here.
-/
import Derived.Test.YtclbillfffpknaaDoorYa
namespace Go.Proofs.YtclbillfffpknaaDoor
open Go.RowKit Go.Shelf
variable (Tabs : World → Prop)

set_option maxHeartbeats 400000 in
theorem noLit_any (y : Ex) (ao : Option Addr) (cap : Nat) (w : World) :
    Calls Tryd.prog 34 #[exVal y ao cap] w fun e w' => e = .returned (.bool (y.kind != 1)) ∧ Below w.heap.size w w' := by
  simp only [exVal]
  go_enter Tryd.func34, Tryd.ntmps34
  go_wp2
  go_ret
  exact ⟨rfl, by go_grown⟩

def isNL (k : Ex) : Bool := k.kind != 1
def anyNL (ks : List Ex) : Bool := ks.any isNL
set_option maxHeartbeats 1000000 in
theorem indexNL_any (d : Nat) (ks : List Ex) (ao : Option Addr) (cap B : Nat) (w : World) (hka : KA w B d ks ao) (hB : B ≤ w.heap.size) (hl : ks.length ≤ 9223372036854775806) :
    Calls Tryd.prog 48 #[.slice ao ks.length cap, .func (.func 34) #[] #[]] w fun e w' => (∃ z : Int, e = .returned (.int .i64 z) ∧ (0 ≤ z ↔ anyNL ks = true)) ∧ Below w.heap.size w w' := by
  have hnz : (ks.length : Int) ≤ 9223372036854775806 := by omega
  go_enter Tryd.func48, Tryd.ntmps48
  go_wp2_with fail
  go_loopw [8] (fun i wr => ∃ k : Nat, k ≤ ks.length ∧ i = .int .i64 (k : Int) ∧ anyNL (ks.take k) = false ∧ Below w.heap.size w wr) (fun i _ => ks.length - (intOf i).toNat)
  case atStart => exact ⟨0, Nat.zero_le _, rfl, rfl, Below.refl _ _⟩
  case round =>
    obtain ⟨k, hk, rfl, hno, hbr⟩ := hrel
    by_cases hlt : k < ks.length
    · have hltz : (k : Int) < (ks.length : Int) := by omega
      obtain ⟨d', rfl⟩ : ∃ d', d = d' + 1 := by
        cases d with
        | zero => simp only [KA] at hka; subst hka; simp at hlt
        | succ d' => exact ⟨d', rfl⟩
      rcases hka with e | ⟨b, o, rfl, hbB, hc⟩
      · subst e; simp at hlt
      · obtain ⟨ao', cap', hex, hxb, hkk⟩ := hc k hlt
        obtain ⟨y0, y1, y2, y3, y4, y5⟩ := hex.keep (hbr.mono hB) hbB
        have hsn : anyNL (ks.take (k + 1)) = isNL ks[k] := by unfold anyNL at hno ⊢; rw [List.take_succ_eq_append_getElem hlt, List.any_append, hno]; simp
        have HA : Hid (isNL ks[k] = true → anyNL ks = true) := fun h => List.any_eq_true.2 ⟨ks[k], List.getElem_mem hlt, h⟩
        have cF := noLit_any ks[k] ao' cap' wr
        have eF : (ks[k].kind != 1) = isNL ks[k] := rfl
        rw [eF] at cF
        simp only [exVal] at cF
        clear hc hex hkk eF
        have HN : Hid (anyNL (ks.take (k + 1)) = isNL ks[k]) := hsn
        clear hsn hno
        cases hq : isNL ks[k]
        · rw [hq] at cF
          have HQ : Hid (isNL ks[k] = false) := hq
          clear hq HA
          go_wp2_with fail
          refine cF.mono ?_
          rintro e w2 ⟨rfl, hb2⟩
          have hbr2 := hbr.trans (hb2.mono hbr.size)
          clear cF y0 y1 y2 y3 y4 y5
          go_wp2_with fail
          go_roundw
          case rel => exact ⟨k + 1, by omega, by go_num, HN.out.trans HQ.out, hbr2⟩
          case measure => simp [intOf]; omega
        · rw [hq] at cF
          have HQ : Hid (anyNL ks = true) := HA.out hq
          clear hq HA HN
          go_wp2_with fail
          refine cF.mono ?_
          rintro e w2 ⟨rfl, hb2⟩
          have hbr2 := hbr.trans (hb2.mono hbr.size)
          clear cF y0 y1 y2 y3 y4 y5
          go_wp2_with fail
          go_ret
          exact ⟨⟨_, rfl, fun _ => HQ.out, fun _ => by omega⟩, hbr2⟩
    · have hltz : ¬ (k : Int) < (ks.length : Int) := by omega
      have hkl : k = ks.length := by omega
      subst hkl
      rw [List.take_length] at hno
      have HB : Hid (anyNL ks = false) := hno
      clear hno hka
      go_wp2_with fail
      go_ret
      exact ⟨⟨_, rfl, fun h => by omega, fun h => by rw [HB.out] at h; cases h⟩, hbr⟩

set_option maxHeartbeats 400000 in
theorem hasNL_any (d : Nat) (ks : List Ex) (ao : Option Addr) (cap B : Nat) (w : World) (hka : KA w B d ks ao) (hB : B ≤ w.heap.size) (hl : ks.length ≤ 9223372036854775806) :
    Calls Tryd.prog 33 #[.slice ao ks.length cap, .func (.func 34) #[] #[]] w fun e w' => e = .returned (.bool (anyNL ks)) ∧ Below w.heap.size w w' := by
  have c := indexNL_any d ks ao cap B w hka hB hl
  go_enter Tryd.func33, Tryd.ntmps33
  go_wp2_with fail
  refine c.mono ?_
  rintro e w1 ⟨⟨z, rfl, hz⟩, hb⟩
  have HZ : Hid (0 ≤ z ↔ anyNL ks = true) := hz
  clear hz
  go_wp2_with fail
  go_ret
  refine ⟨?_, hb⟩
  have e1 : decide (0 ≤ z) = anyNL ks := by rw [Bool.eq_iff_iff]; simpa using HZ.out
  show Ending.returned (Value.bool (decide (0 ≤ z))) = _
  rw [e1]

/-- an expression of zeros in a block of its own -/
structure ZE (W : World) (b : Nat) : Prop where
  lt : b < W.heap.size
  c0 : W.cell? ⟨b, 0, none⟩ = some (.int .i64 0)
  c1 : W.cell? ⟨b, 1, none⟩ = some (.string ⟨#[]⟩)
  c2 : W.cell? ⟨b, 2, none⟩ = some (.int .i64 0)
  c3 : W.cell? ⟨b, 3, none⟩ = some (.int .i64 0)
  c4 : W.cell? ⟨b, 4, none⟩ = some (.string ⟨#[]⟩)
  c5 : W.cell? ⟨b, 5, none⟩ = some (.slice none 0 0)
  f : ∀ o, W.frozen? ⟨b, o, none⟩ = false
theorem ZE.keep {W W' : World} {b : Nat} (h : ZE W b) (hb : Below W.heap.size W W') : ZE W' b :=
  ⟨Nat.lt_of_lt_of_le h.lt hb.size, (hb.cell (p := ⟨b, 0, none⟩) h.lt).trans h.c0, (hb.cell (p := ⟨b, 1, none⟩) h.lt).trans h.c1, (hb.cell (p := ⟨b, 2, none⟩) h.lt).trans h.c2, (hb.cell (p := ⟨b, 3, none⟩) h.lt).trans h.c3, (hb.cell (p := ⟨b, 4, none⟩) h.lt).trans h.c4, (hb.cell (p := ⟨b, 5, none⟩) h.lt).trans h.c5, fun o => (hb.frozen (p := ⟨b, o, none⟩) h.lt).trans (h.f o)⟩
theorem ZE.new (W : World) (t : TypeId) : ZE (W.alloc (.cells #[.int .i64 0, .string ⟨#[]⟩, .int .i64 0, .int .i64 0, .string ⟨#[]⟩, .slice none 0 0] t)) W.heap.size :=
  ⟨by simp, by go_cell, by go_cell, by go_cell, by go_cell, by go_cell, by go_cell, fun o => by go_simp⟩

set_option maxHeartbeats 400000 in
theorem literal_any (v : Vl) (w : World) :
    Calls Tryd.prog 35 #[vlV v] w fun e w' => e = .returned (exVal (Ex.lit v) none 0) ∧ Below w.heap.size w w' := by
  obtain ⟨so, n, s⟩ := v
  simp only [vlV, exVal, Ex.lit, List.length_nil]
  go_enter Tryd.func35, Tryd.ntmps35
  go_wp2
  refine bodyPost_ret (v := .agg #[.int .i64 1, .string ⟨#[]⟩, .int .i64 so, .int .i64 n, .string s, .slice none 0 0]) (by simp [results, Tryd.results35, go_sem]) rfl ⟨rfl, ?_⟩
  go_grown
end Go.Proofs.YtclbillfffpknaaDoor
