/-
  The contract of duetref.SameExpr at two expressions that are the same, wherever they lie.
-/
import Derived.Test.YtkacnpgokghhcaaGreatDoorXk
namespace Go.Proofs.YtkacnpgokghhcaaGreatDoor
open Go.RowKit Go.Shelf

def SESaid (d : Nat) : Prop := ∀ (x : Ex) (ao ao2 : Option Addr) (cap cap2 B : Nat) (w : World), ExBd x cap → ExBd x cap2 → KA w B d x.kids ao → KA w B d x.kids ao2 → B ≤ w.heap.size →
  Calls Tryz.prog 7 #[exVal x ao cap, exVal x ao2 cap2] w fun e w' => e = .returned (.bool true) ∧ Below w.heap.size w w'

set_option maxRecDepth 100000 in
set_option maxHeartbeats 4000000 in
theorem same_step (d : Nat) (ih : ∀ d', d' < d → SESaid d') : SESaid d := by
  intro x ao ao2 cap cap2 B w hb hb2 hka hka2 hB
  have hkl : (x.kids.length : Int) ≤ 9223372036854775807 := by have := hb.kids; have := hb.cap; omega
  obtain ⟨kd, nm, so, n, s, ks⟩ := x
  simp only at hkl hka hka2
  have hw2 : Below w.heap.size w ((w.alloc (.cells #[.int .i64 kd, .string nm, .int .i64 so, .int .i64 n, .string s, .slice ao ks.length cap] 26)).alloc (.cells #[.int .i64 kd, .string nm, .int .i64 so, .int .i64 n, .string s, .slice ao2 ks.length cap2] 26)) := ((Below.refl _ _).alloc (Nat.le_refl _) _).alloc (by simp) _
  have k5 : ((w.alloc (.cells #[.int .i64 kd, .string nm, .int .i64 so, .int .i64 n, .string s, .slice ao ks.length cap] 26)).alloc (.cells #[.int .i64 kd, .string nm, .int .i64 so, .int .i64 n, .string s, .slice ao2 ks.length cap2] 26)).cell? ⟨w.heap.size, 5, none⟩ = some (.slice ao ks.length cap) := by go_cell
  have l5 : ((w.alloc (.cells #[.int .i64 kd, .string nm, .int .i64 so, .int .i64 n, .string s, .slice ao ks.length cap] 26)).alloc (.cells #[.int .i64 kd, .string nm, .int .i64 so, .int .i64 n, .string s, .slice ao2 ks.length cap2] 26)).cell? ⟨w.heap.size + 1, 5, none⟩ = some (.slice ao2 ks.length cap2) := by go_cell
  have hsz : ((w.alloc (.cells #[.int .i64 kd, .string nm, .int .i64 so, .int .i64 n, .string s, .slice ao ks.length cap] 26)).alloc (.cells #[.int .i64 kd, .string nm, .int .i64 so, .int .i64 n, .string s, .slice ao2 ks.length cap2] 26)).heap.size = w.heap.size + 2 := by simp
  have HK5 : Hid (World.cell? _ _ = _) := k5
  have HL5 : Hid (World.cell? _ _ = _) := l5
  have HSZ : Hid (Array.size _ = _) := hsz
  have HW2 : Hid (Below w.heap.size w _) := hw2
  clear k5 l5 hsz hw2
  simp only [exVal]
  go_enter Tryz.func7, Tryz.ntmps7
  go_wp2_with fail
  generalize (w.alloc (.cells #[.int .i64 kd, .string nm, .int .i64 so, .int .i64 n, .string s, .slice ao ks.length cap] 26)).alloc (.cells #[.int .i64 kd, .string nm, .int .i64 so, .int .i64 n, .string s, .slice ao2 ks.length cap2] 26) = V at *
  have hka' := hka.keep (HW2.out.mono hB)
  have hka2' := hka2.keep (HW2.out.mono hB)
  have hVs := HSZ.out
  have hBV : B ≤ V.heap.size := by omega
  go_loopw [5] (fun i wr => ∃ k : Nat, k ≤ ks.length ∧ i = .int .i64 (k : Int) ∧ Below V.heap.size V wr) (fun i _ => ks.length - (intOf i).toNat)
  case atStart => exact ⟨0, Nat.zero_le _, rfl, Below.refl _ _⟩
  case round =>
    obtain ⟨k, hk, rfl, hbr⟩ := hrel
    have k5 := (hbr.cell (p := ⟨w.heap.size, 5, none⟩) (by show w.heap.size < V.heap.size; omega)).trans HK5.out
    have l5 := (hbr.cell (p := ⟨w.heap.size + 1, 5, none⟩) (by show w.heap.size + 1 < V.heap.size; omega)).trans HL5.out
    by_cases hlt : k < ks.length
    · have hltz : (k : Int) < (ks.length : Int) := by omega
      have hkz : (0 : Int) ≤ (k : Int) := by omega
      obtain ⟨d', rfl⟩ : ∃ d', d = d' + 1 := by
        cases d with
        | zero => simp only [KA] at hka; subst hka; simp at hlt
        | succ d' => exact ⟨d', rfl⟩
      rcases hka' with e | ⟨b, o, rfl, hbB, hc⟩
      · subst e; simp at hlt
      · rcases hka2' with e | ⟨b2, o2, rfl, hbB2, hc2⟩
        · subst e; simp at hlt
        · obtain ⟨ao', cap', hex, hxb, hkk⟩ := hc k hlt
          obtain ⟨ao2', cap2', hex2, hxb2, hkk2⟩ := hc2 k hlt
          have hbr' := hbr.mono (show B ≤ V.heap.size from hBV)
          obtain ⟨y0, y1, y2, y3, y4, y5⟩ := hex.keep hbr' hbB
          obtain ⟨z0, z1, z2, z3, z4, z5⟩ := hex2.keep hbr' hbB2
          have hle := hbr.size
          have cR := ih d' (by omega) ks[k] ao' ao2' cap' cap2' B wr.drew hxb hxb2 ((hkk.keep hbr').keep (Below.refl _ _).drew) ((hkk2.keep hbr').keep (Below.refl _ _).drew) (by show B ≤ wr.heap.size; omega)
          simp only [exVal] at cR
          generalize ks[k] = y at *
          clear hex hex2 hkk hkk2 hc hc2 hka hka2 ih
          have hq1 : b < wr.drew.heap.size := by show b < wr.heap.size; omega
          have hq2 : b2 < wr.drew.heap.size := by show b2 < wr.heap.size; omega
          have hq3 : w.heap.size < wr.drew.heap.size := by show w.heap.size < wr.heap.size; omega
          have hq4 : w.heap.size + 1 < wr.drew.heap.size := by show w.heap.size + 1 < wr.heap.size; omega
          have HBR : Hid (Below V.heap.size V wr) := hbr
          clear hbr hbr'
          go_wp2_with fail
          go_region_held3 (fun w' => w'.cell? ⟨b, o + k * 6, none⟩ = some (.int .i64 y.kind) ∧ w'.cell? ⟨b, o + k * 6 + 1, none⟩ = some (.string y.name) ∧ w'.cell? ⟨b, o + k * 6 + 2, none⟩ = some (.int .i64 y.so) ∧ w'.cell? ⟨b, o + k * 6 + 3, none⟩ = some (.int .i64 y.n) ∧ w'.cell? ⟨b, o + k * 6 + 4, none⟩ = some (.string y.s) ∧ w'.cell? ⟨b, o + k * 6 + 5, none⟩ = some (.slice ao' y.kids.length cap') ∧ w'.cell? ⟨b2, o2 + k * 6, none⟩ = some (.int .i64 y.kind) ∧ w'.cell? ⟨b2, o2 + k * 6 + 1, none⟩ = some (.string y.name) ∧ w'.cell? ⟨b2, o2 + k * 6 + 2, none⟩ = some (.int .i64 y.so) ∧ w'.cell? ⟨b2, o2 + k * 6 + 3, none⟩ = some (.int .i64 y.n) ∧ w'.cell? ⟨b2, o2 + k * 6 + 4, none⟩ = some (.string y.s) ∧ w'.cell? ⟨b2, o2 + k * 6 + 5, none⟩ = some (.slice ao2' y.kids.length cap2') ∧ w'.cell? ⟨w.heap.size, 5, none⟩ = some (.slice (some ⟨b, o, none⟩) ks.length cap) ∧ w'.cell? ⟨w.heap.size + 1, 5, none⟩ = some (.slice (some ⟨b2, o2, none⟩) ks.length cap2)) (go_keep) (first | (go_at_call 7; go_must (refine cR.mono ?_; rintro e w2 ⟨rfl, hb2⟩; have y0' := (hb2.cell (p := ⟨b, o + k * 6, none⟩) hq1).trans y0; have y1' := (hb2.cell (p := ⟨b, o + k * 6 + 1, none⟩) hq1).trans y1; have y2' := (hb2.cell (p := ⟨b, o + k * 6 + 2, none⟩) hq1).trans y2; have y3' := (hb2.cell (p := ⟨b, o + k * 6 + 3, none⟩) hq1).trans y3; have y4' := (hb2.cell (p := ⟨b, o + k * 6 + 4, none⟩) hq1).trans y4; have y5' := (hb2.cell (p := ⟨b, o + k * 6 + 5, none⟩) hq1).trans y5; have z0' := (hb2.cell (p := ⟨b2, o2 + k * 6, none⟩) hq2).trans z0; have z1' := (hb2.cell (p := ⟨b2, o2 + k * 6 + 1, none⟩) hq2).trans z1; have z2' := (hb2.cell (p := ⟨b2, o2 + k * 6 + 2, none⟩) hq2).trans z2; have z3' := (hb2.cell (p := ⟨b2, o2 + k * 6 + 3, none⟩) hq2).trans z3; have z4' := (hb2.cell (p := ⟨b2, o2 + k * 6 + 4, none⟩) hq2).trans z4; have z5' := (hb2.cell (p := ⟨b2, o2 + k * 6 + 5, none⟩) hq2).trans z5; have k5' := (hb2.cell (p := ⟨w.heap.size, 5, none⟩) hq3).trans k5; have l5' := (hb2.cell (p := ⟨w.heap.size + 1, 5, none⟩) hq4).trans l5)))
          have hbF : Below V.heap.size V w2 := (HBR.out.drew).trans (hb2.mono (by show V.heap.size ≤ wr.heap.size; omega))
          go_wp2_with fail
          go_roundw
          case rel => exact ⟨k + 1, by omega, by go_num, hbF⟩
          case measure => simp [intOf]; omega
    · have hltz : ¬ (k : Int) < (ks.length : Int) := by omega
      clear hka hka2 hka' hka2' ih
      go_wp2_with fail
      go_ret
      exact ⟨rfl, HW2.out.trans (hbr.mono (by omega))⟩
theorem same_any (d : Nat) : SESaid d := by
  induction d using Nat.strongRecOn with
  | _ d ih => exact same_step d ih
end Go.Proofs.YtkacnpgokghhcaaGreatDoor
