/-
  The contract of global.Write, for every conversation.
-/
import Derived.Test.YtfmegfgmkeicnaaDoorCyc
import Derived.Test.YtfmegfgmkeicnaaDoorCyd
import Derived.Test.YtfmegfgmkeicnaaDoorWb
import Derived.Test.YtfmegfgmkeicnaaDoorKa
import Derived.Test.YtfmegfgmkeicnaaDoorXd
import Derived.Deep.LoopGhost
import Derived.Deep.DeepCutAuto
import Derived.Deep.RegionHeld3
namespace Go.Proofs.YtfmegfgmkeicnaaDoor
open Go.RowKit Go.Shelf
set_option maxRecDepth 100000 in
set_option maxHeartbeats 2000000 in
theorem writeC_good (d : Nat) (t : Cv) (al : Option Addr) (cl : Nat) (ak : Option Addr) (ck : Nat) (w : World) (hM : MCv w w.heap.size d t al cl ak ck) (hz : chkCv t = 0) :
    Calls Tryd.prog 7 #[.agg #[.int .i64 t.kind, .string t.fm, .string t.tt, .int .i64 t.so, .string t.name, .slice al t.labels.length cl, .slice ak t.kids.length ck]] w fun e w' => e = .returned (.tuple #[.string (bs (wrCv t)), .int .i64 0]) ∧ Below w.heap.size w w' := by
  have hA : Below w.heap.size w (w.alloc (.cells #[.int .i64 t.kind, .string t.fm, .string t.tt, .int .i64 t.so, .string t.name, .slice al t.labels.length cl, .slice ak t.kids.length ck] 25)) := (Below.refl _ _).alloc (Nat.le_refl _) _
  have cC := globalCheck_any d t al cl ak ck _ hM.bd (NAt.mono hA.size (NAt.keep hA hM.la)) (KCv.mono hA.size (KCv.keep hA hM.ka))
  have HA := hideK hA
  rw [hz] at cC
  obtain ⟨hw, hsz⟩ := chkCv_good t hz
  have hlen := wrC_len t hw
  have CW := hideK (fun (W : World) (hb : Below w.heap.size w W) (B b : Nat) (hB : w.heap.size ≤ B) (h : Lib.IsBuilderF 61 5 B b (Lib.byteCells []) W) (hBW : B ≤ W.heap.size) => writeC_all d t al cl ak ck B b [] W hw hM.bd (NAt.mono hB (NAt.keep hb hM.la)) (KCv.mono hB (KCv.keep hb hM.ka)) h (by simp; omega) hBW)
  simp only [valCv] at cC CW
  clear hM hz hw hsz hA hlen
  generalize wrCv t = G at *
  go_enter Tryd.func7, Tryd.ntmps7
  go_wp2_with fail
  refine cC.mono ?_
  rintro e w1 ⟨rfl, hb1⟩
  obtain ⟨x0, x1, x2, x3, x4, x5, x6, hbw⟩ := keep7 hb1
  have HB := hideK hbw
  have hlt : w.heap.size < w1.heap.size := by have := hb1.size; simp at this; omega
  clear cC hbw hb1
  go_wp2_with fail
  refine (CW.out _ (HB.out.alloc HB.out.size _) w1.heap.size w1.heap.size HB.out.size (Lib.IsBuilderF.of (Lib.fresh_isBuilder 61 5 w1)) (by simp)).mono ?_
  rintro e w2 ⟨rfl, h1, h2, h3⟩
  rw [List.nil_append] at h1
  have H2 := hideK (((Below.refl w1.heap.size w1).alloc (Nat.le_refl _) _).trans h2)
  clear h2 h3
  go_wp2_with fail
  refine (string_any _ _ G w2 h1 H2.out.size).mono ?_
  rintro e w3 ⟨rfl, _, h4, _⟩
  go_wp2_with fail
  go_ret2
  exact ⟨rfl, HB.out.trans ((H2.out.trans h4).mono HB.out.size)⟩
set_option maxRecDepth 100000 in
set_option maxHeartbeats 2000000 in
theorem writeC_bad (d : Nat) (t : Cv) (al : Option Addr) (cl : Nat) (ak : Option Addr) (ck : Nat) (w : World) (hM : MCv w w.heap.size d t al cl ak ck) (hz : chkCv t ≠ 0) :
    Calls Tryd.prog 7 #[.agg #[.int .i64 t.kind, .string t.fm, .string t.tt, .int .i64 t.so, .string t.name, .slice al t.labels.length cl, .slice ak t.kids.length ck]] w fun e w' => e = .returned (.tuple #[.string ⟨#[]⟩, .int .i64 (chkCv t)]) ∧ Below w.heap.size w w' := by
  have hA : Below w.heap.size w (w.alloc (.cells #[.int .i64 t.kind, .string t.fm, .string t.tt, .int .i64 t.so, .string t.name, .slice al t.labels.length cl, .slice ak t.kids.length ck] 25)) := (Below.refl _ _).alloc (Nat.le_refl _) _
  have cC := globalCheck_any d t al cl ak ck _ hM.bd (NAt.mono hA.size (NAt.keep hA hM.la)) (KCv.mono hA.size (KCv.keep hA hM.ka))
  have hzb : (chkCv t != 0) = true := by simpa using hz
  simp only [valCv] at cC
  generalize chkCv t = z at cC hzb ⊢
  clear hM hz hA
  go_enter Tryd.func7, Tryd.ntmps7
  go_wp2_with fail
  refine cC.mono ?_
  rintro e w1 ⟨rfl, hb1⟩
  obtain ⟨x0, x1, x2, x3, x4, x5, x6, hbw⟩ := keep7 hb1
  clear cC
  go_wp2_with fail
  go_ret2
  exact ⟨rfl, hbw⟩
end Go.Proofs.YtfmegfgmkeicnaaDoor
/-
  The contract of duetref.SameType at two types that are the same, wherever they lie.
-/
namespace Go.Proofs.YtfmegfgmkeicnaaDoor
open Go.RowKit Go.Shelf
theorem hideF {p : Prop} (h : p) : Hid p := h

def SYSaid (d : Nat) : Prop := ∀ (t : Ty) (al : Option Addr) (cl : Nat) (ak : Option Addr) (ck : Nat) (al2 : Option Addr) (cl2 : Nat) (ak2 : Option Addr) (ck2 B : Nat) (w : World),
  TyBd t cl ck → TyBd t cl2 ck2 → LA w B t.labels al → LA w B t.labels al2 → KT w B d t.kids ak → KT w B d t.kids ak2 → B ≤ w.heap.size →
  Calls Tryd.prog 17 #[tyVal t al cl ak ck, tyVal t al2 cl2 ak2 ck2] w fun e w' => e = .returned (.bool true) ∧ Below w.heap.size w w'
theorem keepTT {w : World} {v0 v1 v2 v3 v4 u0 u1 u2 u3 u4 : Value} {T : TypeId} :
    ((w.alloc (.cells #[v0, v1, v2, v3, v4] T)).alloc (.cells #[u0, u1, u2, u3, u4] T)).cell? ⟨w.heap.size, 3, none⟩ = some v3 ∧ ((w.alloc (.cells #[v0, v1, v2, v3, v4] T)).alloc (.cells #[u0, u1, u2, u3, u4] T)).cell? ⟨w.heap.size, 4, none⟩ = some v4 ∧
    ((w.alloc (.cells #[v0, v1, v2, v3, v4] T)).alloc (.cells #[u0, u1, u2, u3, u4] T)).cell? ⟨w.heap.size + 1, 3, none⟩ = some u3 ∧ ((w.alloc (.cells #[v0, v1, v2, v3, v4] T)).alloc (.cells #[u0, u1, u2, u3, u4] T)).cell? ⟨w.heap.size + 1, 4, none⟩ = some u4 ∧
    ((w.alloc (.cells #[v0, v1, v2, v3, v4] T)).alloc (.cells #[u0, u1, u2, u3, u4] T)).heap.size = w.heap.size + 2 ∧ Below w.heap.size w ((w.alloc (.cells #[v0, v1, v2, v3, v4] T)).alloc (.cells #[u0, u1, u2, u3, u4] T)) :=
  ⟨by go_cell, by go_cell, by go_cell, by go_cell, by simp, ((Below.refl _ _).alloc (Nat.le_refl _) _).alloc (by simp) _⟩

set_option maxRecDepth 100000 in
set_option maxHeartbeats 4000000 in
theorem sameT_step (d : Nat) (ih : ∀ d', d' < d → SYSaid d') : SYSaid d := by
  intro t al cl ak ck al2 cl2 ak2 ck2 B w hb hb2 hla hla2 hkt hkt2 hB
  have hkl : (t.kids.length : Int) ≤ 9223372036854775807 := by have := hb.kids; have := hb.ck; omega
  have hll : (t.labels.length : Int) ≤ 9223372036854775807 := by have := hb.labels; have := hb.cl; omega
  obtain ⟨kd, so, nm, ls, ks⟩ := t
  simp only at hkl hll hla hla2 hkt hkt2
  have hV0 := keepTT (w := w) (v0 := .int .i64 kd) (v1 := .int .i64 so) (v2 := .string nm) (v3 := .slice al ls.length cl) (v4 := .slice ak ks.length ck) (u0 := .int .i64 kd) (u1 := .int .i64 so) (u2 := .string nm) (u3 := .slice al2 ls.length cl2) (u4 := .slice ak2 ks.length ck2) (T := 45)
  have HV0 := hideF hV0
  simp only [tyVal]
  clear hb hb2 hV0
  go_enter Tryd.func17, Tryd.ntmps17
  go_wp2_with fail
  generalize (w.alloc (.cells #[.int .i64 kd, .int .i64 so, .string nm, .slice al ls.length cl, .slice ak ks.length ck] 45)).alloc (.cells #[.int .i64 kd, .int .i64 so, .string nm, .slice al2 ls.length cl2, .slice ak2 ks.length ck2] 45) = V at *
  obtain ⟨v3, v4, u3, u4, hVs, hW2⟩ := HV0.out
  have HL := hideF (NAt.keep (hW2.mono hB) hla)
  have HL2 := hideF (NAt.keep (hW2.mono hB) hla2)
  have HK := hideF (KT.keep (hW2.mono hB) hkt)
  have HK2 := hideF (KT.keep (hW2.mono hB) hkt2)
  have H3 := hideF v3
  have H4 := hideF v4
  have H5 := hideF u3
  have H6 := hideF u4
  have HW2 := hideF hW2
  have hBV : B ≤ V.heap.size := by omega
  clear hla hla2 hkt hkt2 v3 v4 u3 u4 hW2 HV0
  go_loopw [5] (fun i wr => ∃ k : Nat, k ≤ ls.length ∧ i = .int .i64 (k : Int) ∧ Below V.heap.size V wr) (fun i _ => ls.length - (intOf i).toNat)
  case atStart => exact ⟨0, Nat.zero_le _, rfl, Below.refl _ _⟩
  case round =>
    obtain ⟨k, hk, rfl, hbr⟩ := hrel
    have c3 := (hbr.cell (p := ⟨w.heap.size, 3, none⟩) (by show w.heap.size < V.heap.size; omega)).trans H3.out
    have d3 := (hbr.cell (p := ⟨w.heap.size + 1, 3, none⟩) (by show w.heap.size + 1 < V.heap.size; omega)).trans H5.out
    have c4 := (hbr.cell (p := ⟨w.heap.size, 4, none⟩) (by show w.heap.size < V.heap.size; omega)).trans H4.out
    have d4 := (hbr.cell (p := ⟨w.heap.size + 1, 4, none⟩) (by show w.heap.size + 1 < V.heap.size; omega)).trans H6.out
    have HBR := hideF hbr
    by_cases hlt : k < ls.length
    · have hltz : (k : Int) < (ls.length : Int) := by omega
      have hkz : (0 : Int) ≤ (k : Int) := by omega
      have hl1 := HL.out
      have hl2 := HL2.out
      rcases hl1 with e | ⟨b, o, rfl, hbB, hc⟩
      · simp at e; subst e; simp at hlt
      · rcases hl2 with e | ⟨b2, o2, rfl, hbB2, hc2⟩
        · simp at e; subst e; simp at hlt
        · have y := (hbr.cell (p := ⟨b, o + k, none⟩) (by show b < V.heap.size; omega)).trans (hc k (by simpa using hlt))
          have z := (hbr.cell (p := ⟨b2, o2 + k, none⟩) (by show b2 < V.heap.size; omega)).trans (hc2 k (by simpa using hlt))
          simp only [List.getElem_map] at y z
          generalize ls[k] = l at *
          have hll2 : (l.toList == l.toList) = true := by simp
          clear hc hc2 hbr ih HL HL2
          go_wp2_with fail
          go_region_held3 (fun w' => w'.cell? ⟨b, o + k, none⟩ = some (.string l) ∧ w'.cell? ⟨b2, o2 + k, none⟩ = some (.string l) ∧ w'.cell? ⟨w.heap.size, 3, none⟩ = some (.slice (some ⟨b, o, none⟩) ls.length cl) ∧ w'.cell? ⟨w.heap.size + 1, 3, none⟩ = some (.slice (some ⟨b2, o2, none⟩) ls.length cl2)) (go_keep) (fail)
          all_goals
            go_wp2_with fail
            go_roundw
            case rel => exact ⟨k + 1, by omega, by go_num, HBR.out.drew⟩
            case measure => simp [intOf]; omega
    · have hltz : ¬ (k : Int) < (ls.length : Int) := by omega
      clear hbr HL HL2
      go_wp2_with fail
      clear c3 d3
      have H4' := hideF c4
      have H6' := hideF d4
      have HKr := hideF (KT.keep (HBR.out.mono hBV) HK.out)
      have HKr2 := hideF (KT.keep (HBR.out.mono hBV) HK2.out)
      have hVr := HBR.out.size
      have HBF := hideF (HW2.out.trans (HBR.out.mono (by omega)))
      clear c4 d4 HK HK2 H3 H4 H5 H6 HBR HW2 hltz hk
      have hBr : B ≤ wr.heap.size := by omega
      have hwr : w.heap.size + 2 ≤ wr.heap.size := by omega
      clear hVr hVs hBV
      generalize hwV : wr = V2 at *
      clear hwV
      go_loopw [6] (fun i wr => ∃ k : Nat, k ≤ ks.length ∧ i = .int .i64 (k : Int) ∧ Below V2.heap.size V2 wr) (fun i _ => ks.length - (intOf i).toNat)
      case atStart => exact ⟨0, Nat.zero_le _, rfl, Below.refl _ _⟩
      case round =>
        obtain ⟨k, hk, rfl, hbr⟩ := hrel
        have c4 := (hbr.cell (p := ⟨w.heap.size, 4, none⟩) (by show w.heap.size < V2.heap.size; omega)).trans H4'.out
        have d4 := (hbr.cell (p := ⟨w.heap.size + 1, 4, none⟩) (by show w.heap.size + 1 < V2.heap.size; omega)).trans H6'.out
        by_cases hlt : k < ks.length
        · have hltz : (k : Int) < (ks.length : Int) := by omega
          have hkz : (0 : Int) ≤ (k : Int) := by omega
          obtain ⟨d', rfl⟩ : ∃ d', d = d' + 1 := by
            cases d with
            | zero => have := HKr.out; simp only [KT] at this; subst this; simp at hlt
            | succ d' => exact ⟨d', rfl⟩
          have hk1 := HKr.out
          have hk2 := HKr2.out
          rcases hk1 with e | ⟨b, o, rfl, hbB, hc⟩
          · subst e; simp at hlt
          · rcases hk2 with e | ⟨b2, o2, rfl, hbB2, hc2⟩
            · subst e; simp at hlt
            · obtain ⟨al', cl', ak', ck', hty, htb, htl, htk⟩ := hc k hlt
              obtain ⟨al2', cl2', ak2', ck2', hty2, htb2, htl2, htk2⟩ := hc2 k hlt
              have hbr' := hbr.mono hBr
              have hbd' := hbr'.drew
              obtain ⟨y0, y1, y2, y3, y4⟩ := hty.keep hbr' hbB
              obtain ⟨z0, z1, z2, z3, z4⟩ := hty2.keep hbr' hbB2
              have hle := hbr.size
              have cR := ih d' (by omega) ks[k] al' cl' ak' ck' al2' cl2' ak2' ck2' B wr.drew htb htb2 (NAt.keep hbd' htl) (NAt.keep hbd' htl2) (KT.keep hbd' htk) (KT.keep hbd' htk2) (by show B ≤ wr.heap.size; omega)
              simp only [tyVal] at cR
              generalize ks[k] = y at *
              clear hty hty2 htb htb2 htl htl2 htk htk2 hc hc2 ih HKr HKr2
              have hq1 : b < wr.drew.heap.size := by show b < wr.heap.size; omega
              have hq2 : b2 < wr.drew.heap.size := by show b2 < wr.heap.size; omega
              have hq3 : w.heap.size < wr.drew.heap.size := by show w.heap.size < wr.heap.size; omega
              have hq4 : w.heap.size + 1 < wr.drew.heap.size := by show w.heap.size + 1 < wr.heap.size; omega
              have HBR := hideF hbr
              clear hbr hbr' hbd'
              go_wp2_with fail
              go_region_held3 (fun w' => w'.cell? ⟨b, o + k * 5, none⟩ = some (.int .i64 y.kind) ∧ w'.cell? ⟨b, o + k * 5 + 1, none⟩ = some (.int .i64 y.so) ∧ w'.cell? ⟨b, o + k * 5 + 2, none⟩ = some (.string y.name) ∧ w'.cell? ⟨b, o + k * 5 + 3, none⟩ = some (.slice al' y.labels.length cl') ∧ w'.cell? ⟨b, o + k * 5 + 4, none⟩ = some (.slice ak' y.kids.length ck') ∧ w'.cell? ⟨b2, o2 + k * 5, none⟩ = some (.int .i64 y.kind) ∧ w'.cell? ⟨b2, o2 + k * 5 + 1, none⟩ = some (.int .i64 y.so) ∧ w'.cell? ⟨b2, o2 + k * 5 + 2, none⟩ = some (.string y.name) ∧ w'.cell? ⟨b2, o2 + k * 5 + 3, none⟩ = some (.slice al2' y.labels.length cl2') ∧ w'.cell? ⟨b2, o2 + k * 5 + 4, none⟩ = some (.slice ak2' y.kids.length ck2') ∧ w'.cell? ⟨w.heap.size, 4, none⟩ = some (.slice (some ⟨b, o, none⟩) ks.length ck) ∧ w'.cell? ⟨w.heap.size + 1, 4, none⟩ = some (.slice (some ⟨b2, o2, none⟩) ks.length ck2)) (go_keep) (first | (go_at_call 17; go_must (refine cR.mono ?_; rintro e w2 ⟨rfl, hb2⟩; have y0' := (hb2.cell (p := ⟨b, o + k * 5, none⟩) hq1).trans y0; have y1' := (hb2.cell (p := ⟨b, o + k * 5 + 1, none⟩) hq1).trans y1; have y2' := (hb2.cell (p := ⟨b, o + k * 5 + 2, none⟩) hq1).trans y2; have y3' := (hb2.cell (p := ⟨b, o + k * 5 + 3, none⟩) hq1).trans y3; have y4' := (hb2.cell (p := ⟨b, o + k * 5 + 4, none⟩) hq1).trans y4; have z0' := (hb2.cell (p := ⟨b2, o2 + k * 5, none⟩) hq2).trans z0; have z1' := (hb2.cell (p := ⟨b2, o2 + k * 5 + 1, none⟩) hq2).trans z1; have z2' := (hb2.cell (p := ⟨b2, o2 + k * 5 + 2, none⟩) hq2).trans z2; have z3' := (hb2.cell (p := ⟨b2, o2 + k * 5 + 3, none⟩) hq2).trans z3; have z4' := (hb2.cell (p := ⟨b2, o2 + k * 5 + 4, none⟩) hq2).trans z4; have c4' := (hb2.cell (p := ⟨w.heap.size, 4, none⟩) hq3).trans c4; have d4' := (hb2.cell (p := ⟨w.heap.size + 1, 4, none⟩) hq4).trans d4)))
              have hbF : Below V2.heap.size V2 w2 := (HBR.out.drew).trans (hb2.mono (by show V2.heap.size ≤ wr.heap.size; omega))
              go_wp2_with fail
              go_roundw
              case rel => exact ⟨k + 1, by omega, by go_num, hbF⟩
              case measure => simp [intOf]; omega
        · have hltz : ¬ (k : Int) < (ks.length : Int) := by omega
          clear ih HKr HKr2
          go_wp2_with fail
          go_ret
          exact ⟨rfl, HBF.out.trans (hbr.mono (by omega))⟩
theorem sameT_any (d : Nat) : SYSaid d := by
  induction d using Nat.strongRecOn with
  | _ d ih => exact sameT_step d ih
end Go.Proofs.YtfmegfgmkeicnaaDoor
