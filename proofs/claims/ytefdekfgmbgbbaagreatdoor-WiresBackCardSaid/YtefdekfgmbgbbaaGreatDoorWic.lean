/-
  The contract of duetref.SameType at two types that are the same, wherever they lie.
-/
import Derived.Test.YtefdekfgmbgbbaaGreatDoorKa
import Derived.Test.YtefdekfgmbgbbaaGreatDoorXd
import Derived.Deep.LoopGhost
import Derived.Deep.DeepCutAuto
import Derived.Deep.RegionHeld3
import Derived.Test.YtefdekfgmbgbbaaGreatDoorKx
import Derived.Test.YtefdekfgmbgbbaaGreatDoorKy
import Derived.Test.YtefdekfgmbgbbaaGreatDoorWia
import Derived.Test.YtefdekfgmbgbbaaGreatDoorKl
namespace Go.Proofs.YtefdekfgmbgbbaaGreatDoor
open Go.RowKit Go.Shelf
theorem hideF {p : Prop} (h : p) : Hid p := h

def SYSaid (d : Nat) : Prop := ∀ (t : Ty) (al : Option Addr) (cl : Nat) (ak : Option Addr) (ck : Nat) (al2 : Option Addr) (cl2 : Nat) (ak2 : Option Addr) (ck2 B : Nat) (w : World),
  TyBd t cl ck → TyBd t cl2 ck2 → LA w B t.labels al → LA w B t.labels al2 → KT w B d t.kids ak → KT w B d t.kids ak2 → B ≤ w.heap.size →
  Calls Tryz.prog 16 #[tyVal t al cl ak ck, tyVal t al2 cl2 ak2 ck2] w fun e w' => e = .returned (.bool true) ∧ Below w.heap.size w w'
theorem keepTT {w : World} {v0 v1 v2 v3 v4 u0 u1 u2 u3 u4 : Value} {T : TypeId} :
    ((w.alloc (.cells #[v0, v1, v2, v3, v4] T)).alloc (.cells #[u0, u1, u2, u3, u4] T)).cell? ⟨w.heap.size, 3, none⟩ = some v3 ∧ ((w.alloc (.cells #[v0, v1, v2, v3, v4] T)).alloc (.cells #[u0, u1, u2, u3, u4] T)).cell? ⟨w.heap.size, 4, none⟩ = some v4 ∧
    ((w.alloc (.cells #[v0, v1, v2, v3, v4] T)).alloc (.cells #[u0, u1, u2, u3, u4] T)).cell? ⟨w.heap.size + 1, 3, none⟩ = some u3 ∧ ((w.alloc (.cells #[v0, v1, v2, v3, v4] T)).alloc (.cells #[u0, u1, u2, u3, u4] T)).cell? ⟨w.heap.size + 1, 4, none⟩ = some u4 ∧
    ((w.alloc (.cells #[v0, v1, v2, v3, v4] T)).alloc (.cells #[u0, u1, u2, u3, u4] T)).heap.size = w.heap.size + 2 ∧ Below w.heap.size w ((w.alloc (.cells #[v0, v1, v2, v3, v4] T)).alloc (.cells #[u0, u1, u2, u3, u4] T)) :=
  ⟨by go_cell, by go_cell, by go_cell, by go_cell, by simp, ((Below.refl _ _).alloc (Nat.le_refl _) _).alloc (by simp) _⟩

set_option maxRecDepth 100000 in
set_option maxHeartbeats 4000000 in
theorem sameT_step (d : Nat) (ih : ∀ d', d' < d → SYSaid d') : SYSaid d := by
  intro t al cl ak ck al2 cl2 ak2 ck2 B w hb hb2 hla hla2 hkt hkt2 hB
  have hkl : (t.kids.length : Int) ≤ 9223372036854775807 := by have := hb.kids; have := hb.ck; omega
  have hll : (t.labels.length : Int) ≤ 9223372036854775807 := by have := hb.labels; have := hb.cl; omega
  obtain ⟨kd, so, nm, ls, ks⟩ := t
  simp only at hkl hll hla hla2 hkt hkt2
  have hV0 := keepTT (w := w) (v0 := .int .i64 kd) (v1 := .int .i64 so) (v2 := .string nm) (v3 := .slice al ls.length cl) (v4 := .slice ak ks.length ck) (u0 := .int .i64 kd) (u1 := .int .i64 so) (u2 := .string nm) (u3 := .slice al2 ls.length cl2) (u4 := .slice ak2 ks.length ck2) (T := 31)
  have HV0 := hideF hV0
  simp only [tyVal]
  clear hb hb2 hV0
  go_enter Tryz.func16, Tryz.ntmps16
  go_wp2_with fail
  generalize (w.alloc (.cells #[.int .i64 kd, .int .i64 so, .string nm, .slice al ls.length cl, .slice ak ks.length ck] 31)).alloc (.cells #[.int .i64 kd, .int .i64 so, .string nm, .slice al2 ls.length cl2, .slice ak2 ks.length ck2] 31) = V at *
  obtain ⟨v3, v4, u3, u4, hVs, hW2⟩ := HV0.out
  have HL := hideF (NAt.keep (hW2.mono hB) hla)
  have HL2 := hideF (NAt.keep (hW2.mono hB) hla2)
  have HK := hideF (KT.keep (hW2.mono hB) hkt)
  have HK2 := hideF (KT.keep (hW2.mono hB) hkt2)
  have H3 := hideF v3
  have H4 := hideF v4
  have H5 := hideF u3
  have H6 := hideF u4
  have HW2 := hideF hW2
  have hBV : B ≤ V.heap.size := by omega
  clear hla hla2 hkt hkt2 v3 v4 u3 u4 hW2 HV0
  go_loopw [5] (fun i wr => ∃ k : Nat, k ≤ ls.length ∧ i = .int .i64 (k : Int) ∧ Below V.heap.size V wr) (fun i _ => ls.length - (intOf i).toNat)
  case atStart => exact ⟨0, Nat.zero_le _, rfl, Below.refl _ _⟩
  case round =>
    obtain ⟨k, hk, rfl, hbr⟩ := hrel
    have c3 := (hbr.cell (p := ⟨w.heap.size, 3, none⟩) (by show w.heap.size < V.heap.size; omega)).trans H3.out
    have d3 := (hbr.cell (p := ⟨w.heap.size + 1, 3, none⟩) (by show w.heap.size + 1 < V.heap.size; omega)).trans H5.out
    have c4 := (hbr.cell (p := ⟨w.heap.size, 4, none⟩) (by show w.heap.size < V.heap.size; omega)).trans H4.out
    have d4 := (hbr.cell (p := ⟨w.heap.size + 1, 4, none⟩) (by show w.heap.size + 1 < V.heap.size; omega)).trans H6.out
    have HBR := hideF hbr
    by_cases hlt : k < ls.length
    · have hltz : (k : Int) < (ls.length : Int) := by omega
      have hkz : (0 : Int) ≤ (k : Int) := by omega
      have hl1 := HL.out
      have hl2 := HL2.out
      rcases hl1 with e | ⟨b, o, rfl, hbB, hc⟩
      · simp at e; subst e; simp at hlt
      · rcases hl2 with e | ⟨b2, o2, rfl, hbB2, hc2⟩
        · simp at e; subst e; simp at hlt
        · have y := (hbr.cell (p := ⟨b, o + k, none⟩) (by show b < V.heap.size; omega)).trans (hc k (by simpa using hlt))
          have z := (hbr.cell (p := ⟨b2, o2 + k, none⟩) (by show b2 < V.heap.size; omega)).trans (hc2 k (by simpa using hlt))
          simp only [List.getElem_map] at y z
          generalize ls[k] = l at *
          have hll2 : (l.toList == l.toList) = true := by simp
          clear hc hc2 hbr ih HL HL2
          go_wp2_with fail
          go_region_held3 (fun w' => w'.cell? ⟨b, o + k, none⟩ = some (.string l) ∧ w'.cell? ⟨b2, o2 + k, none⟩ = some (.string l) ∧ w'.cell? ⟨w.heap.size, 3, none⟩ = some (.slice (some ⟨b, o, none⟩) ls.length cl) ∧ w'.cell? ⟨w.heap.size + 1, 3, none⟩ = some (.slice (some ⟨b2, o2, none⟩) ls.length cl2)) (go_keep) (fail)
          all_goals
            go_wp2_with fail
            go_roundw
            case rel => exact ⟨k + 1, by omega, by go_num, HBR.out.drew⟩
            case measure => simp [intOf]; omega
    · have hltz : ¬ (k : Int) < (ls.length : Int) := by omega
      clear hbr HL HL2
      go_wp2_with fail
      clear c3 d3
      have H4' := hideF c4
      have H6' := hideF d4
      have HKr := hideF (KT.keep (HBR.out.mono hBV) HK.out)
      have HKr2 := hideF (KT.keep (HBR.out.mono hBV) HK2.out)
      have hVr := HBR.out.size
      have HBF := hideF (HW2.out.trans (HBR.out.mono (by omega)))
      clear c4 d4 HK HK2 H3 H4 H5 H6 HBR HW2 hltz hk
      have hBr : B ≤ wr.heap.size := by omega
      have hwr : w.heap.size + 2 ≤ wr.heap.size := by omega
      clear hVr hVs hBV
      generalize hwV : wr = V2 at *
      clear hwV
      go_loopw [6] (fun i wr => ∃ k : Nat, k ≤ ks.length ∧ i = .int .i64 (k : Int) ∧ Below V2.heap.size V2 wr) (fun i _ => ks.length - (intOf i).toNat)
      case atStart => exact ⟨0, Nat.zero_le _, rfl, Below.refl _ _⟩
      case round =>
        obtain ⟨k, hk, rfl, hbr⟩ := hrel
        have c4 := (hbr.cell (p := ⟨w.heap.size, 4, none⟩) (by show w.heap.size < V2.heap.size; omega)).trans H4'.out
        have d4 := (hbr.cell (p := ⟨w.heap.size + 1, 4, none⟩) (by show w.heap.size + 1 < V2.heap.size; omega)).trans H6'.out
        by_cases hlt : k < ks.length
        · have hltz : (k : Int) < (ks.length : Int) := by omega
          have hkz : (0 : Int) ≤ (k : Int) := by omega
          obtain ⟨d', rfl⟩ : ∃ d', d = d' + 1 := by
            cases d with
            | zero => have := HKr.out; simp only [KT] at this; subst this; simp at hlt
            | succ d' => exact ⟨d', rfl⟩
          have hk1 := HKr.out
          have hk2 := HKr2.out
          rcases hk1 with e | ⟨b, o, rfl, hbB, hc⟩
          · subst e; simp at hlt
          · rcases hk2 with e | ⟨b2, o2, rfl, hbB2, hc2⟩
            · subst e; simp at hlt
            · obtain ⟨al', cl', ak', ck', hty, htb, htl, htk⟩ := hc k hlt
              obtain ⟨al2', cl2', ak2', ck2', hty2, htb2, htl2, htk2⟩ := hc2 k hlt
              have hbr' := hbr.mono hBr
              have hbd' := hbr'.drew
              obtain ⟨y0, y1, y2, y3, y4⟩ := hty.keep hbr' hbB
              obtain ⟨z0, z1, z2, z3, z4⟩ := hty2.keep hbr' hbB2
              have hle := hbr.size
              have cR := ih d' (by omega) ks[k] al' cl' ak' ck' al2' cl2' ak2' ck2' B wr.drew htb htb2 (NAt.keep hbd' htl) (NAt.keep hbd' htl2) (KT.keep hbd' htk) (KT.keep hbd' htk2) (by show B ≤ wr.heap.size; omega)
              simp only [tyVal] at cR
              generalize ks[k] = y at *
              clear hty hty2 htb htb2 htl htl2 htk htk2 hc hc2 ih HKr HKr2
              have hq1 : b < wr.drew.heap.size := by show b < wr.heap.size; omega
              have hq2 : b2 < wr.drew.heap.size := by show b2 < wr.heap.size; omega
              have hq3 : w.heap.size < wr.drew.heap.size := by show w.heap.size < wr.heap.size; omega
              have hq4 : w.heap.size + 1 < wr.drew.heap.size := by show w.heap.size + 1 < wr.heap.size; omega
              have HBR := hideF hbr
              clear hbr hbr' hbd'
              go_wp2_with fail
              go_region_held3 (fun w' => w'.cell? ⟨b, o + k * 5, none⟩ = some (.int .i64 y.kind) ∧ w'.cell? ⟨b, o + k * 5 + 1, none⟩ = some (.int .i64 y.so) ∧ w'.cell? ⟨b, o + k * 5 + 2, none⟩ = some (.string y.name) ∧ w'.cell? ⟨b, o + k * 5 + 3, none⟩ = some (.slice al' y.labels.length cl') ∧ w'.cell? ⟨b, o + k * 5 + 4, none⟩ = some (.slice ak' y.kids.length ck') ∧ w'.cell? ⟨b2, o2 + k * 5, none⟩ = some (.int .i64 y.kind) ∧ w'.cell? ⟨b2, o2 + k * 5 + 1, none⟩ = some (.int .i64 y.so) ∧ w'.cell? ⟨b2, o2 + k * 5 + 2, none⟩ = some (.string y.name) ∧ w'.cell? ⟨b2, o2 + k * 5 + 3, none⟩ = some (.slice al2' y.labels.length cl2') ∧ w'.cell? ⟨b2, o2 + k * 5 + 4, none⟩ = some (.slice ak2' y.kids.length ck2') ∧ w'.cell? ⟨w.heap.size, 4, none⟩ = some (.slice (some ⟨b, o, none⟩) ks.length ck) ∧ w'.cell? ⟨w.heap.size + 1, 4, none⟩ = some (.slice (some ⟨b2, o2, none⟩) ks.length ck2)) (go_keep) (first | (go_at_call 16; go_must (refine cR.mono ?_; rintro e w2 ⟨rfl, hb2⟩; have y0' := (hb2.cell (p := ⟨b, o + k * 5, none⟩) hq1).trans y0; have y1' := (hb2.cell (p := ⟨b, o + k * 5 + 1, none⟩) hq1).trans y1; have y2' := (hb2.cell (p := ⟨b, o + k * 5 + 2, none⟩) hq1).trans y2; have y3' := (hb2.cell (p := ⟨b, o + k * 5 + 3, none⟩) hq1).trans y3; have y4' := (hb2.cell (p := ⟨b, o + k * 5 + 4, none⟩) hq1).trans y4; have z0' := (hb2.cell (p := ⟨b2, o2 + k * 5, none⟩) hq2).trans z0; have z1' := (hb2.cell (p := ⟨b2, o2 + k * 5 + 1, none⟩) hq2).trans z1; have z2' := (hb2.cell (p := ⟨b2, o2 + k * 5 + 2, none⟩) hq2).trans z2; have z3' := (hb2.cell (p := ⟨b2, o2 + k * 5 + 3, none⟩) hq2).trans z3; have z4' := (hb2.cell (p := ⟨b2, o2 + k * 5 + 4, none⟩) hq2).trans z4; have c4' := (hb2.cell (p := ⟨w.heap.size, 4, none⟩) hq3).trans c4; have d4' := (hb2.cell (p := ⟨w.heap.size + 1, 4, none⟩) hq4).trans d4)))
              have hbF : Below V2.heap.size V2 w2 := (HBR.out.drew).trans (hb2.mono (by show V2.heap.size ≤ wr.heap.size; omega))
              go_wp2_with fail
              go_roundw
              case rel => exact ⟨k + 1, by omega, by go_num, hbF⟩
              case measure => simp [intOf]; omega
        · have hltz : ¬ (k : Int) < (ks.length : Int) := by omega
          clear ih HKr HKr2
          go_wp2_with fail
          go_ret
          exact ⟨rfl, HBF.out.trans (hbr.mono (by omega))⟩
theorem sameT_any (d : Nat) : SYSaid d := by
  induction d using Nat.strongRecOn with
  | _ d ih => exact sameT_step d ih
end Go.Proofs.YtefdekfgmbgbbaaGreatDoor
/-
  TypesBack: the plain facts, and the walk through the law.
-/
namespace Go.Proofs.YtefdekfgmbgbbaaGreatDoor
open Go.RowKit Go.Shelf

theorem parse_new (s : ByteArray) (t : Ty) (h : psT s.data.toList = .ok t) (w : World) :
    Calls Tryz.prog 50 #[.string s] w fun e w' => (∃ al cl ak ck, e = .returned (.tuple #[.agg #[.int .i64 t.kind, .int .i64 t.so, .string t.name, .slice al t.labels.length cl, .slice ak t.kids.length ck], .agg #[.int .i64 0, .int .i64 0]]) ∧ GT w w' 2001 t al cl ak ck) ∧ Below w.heap.size w w' := by
  have c := parse_any s w
  rw [h] at c
  exact c
theorem parse_ok (s : ByteArray) (t : Ty) (h : psT s.data.toList = .ok t) (w : World) :
    Calls Tryz.prog 50 #[.string s] w fun e w' => (∃ al cl ak ck, e = .returned (.tuple #[.agg #[.int .i64 t.kind, .int .i64 t.so, .string t.name, .slice al t.labels.length cl, .slice ak t.kids.length ck], .agg #[.int .i64 0, .int .i64 0]]) ∧ TyBd t cl ck ∧ LA w' w'.heap.size t.labels al ∧ KT w' w'.heap.size 2001 t.kids ak) ∧ Below w.heap.size w w' :=
  (parse_new s t h w).mono fun _ _ ⟨⟨al, cl, ak, ck, h1, h2⟩, h3⟩ => ⟨⟨al, cl, ak, ck, h1, h2.bd, h2.la.toLA (fun _ hb => hb.2), h2.ka.toKT (fun _ hb => hb.2)⟩, h3⟩
theorem parse_err (s : ByteArray) (c : Int) (a : Nat) (h : psT s.data.toList = .error (c, a)) (w : World) :
    Calls Tryz.prog 50 #[.string s] w fun e w' => e = .returned (.tuple #[.agg #[.int .i64 0, .int .i64 0, .string ⟨#[]⟩, .slice none 0 0, .slice none 0 0], .agg #[.int .i64 c, .int .i64 (a : Int)]]) ∧ Below w.heap.size w w' := by
  have cc := parse_any s w
  rw [h] at cc
  exact cc
theorem write_good (d : Nat) (t : Ty) (al : Option Addr) (cl : Nat) (ak : Option Addr) (ck : Nat) (w : World) (hbd : TyBd t cl ck) (hla : LA w w.heap.size t.labels al) (hkt : KT w w.heap.size d t.kids ak) (h : chkTy t = 0) :
    Calls Tryz.prog 28 #[.agg #[.int .i64 t.kind, .int .i64 t.so, .string t.name, .slice al t.labels.length cl, .slice ak t.kids.length ck]] w fun e w' => e = .returned (.tuple #[.string (bs (wrT t)), .int .i64 0]) ∧ Below w.heap.size w w' := by
  have c := typesWrite_any d t al cl ak ck w hbd hla hkt
  unfold wrR at c
  rw [if_pos h] at c
  exact c
theorem write_bad (d : Nat) (t : Ty) (al : Option Addr) (cl : Nat) (ak : Option Addr) (ck : Nat) (w : World) (hbd : TyBd t cl ck) (hla : LA w w.heap.size t.labels al) (hkt : KT w w.heap.size d t.kids ak) (h : chkTy t ≠ 0) :
    Calls Tryz.prog 28 #[.agg #[.int .i64 t.kind, .int .i64 t.so, .string t.name, .slice al t.labels.length cl, .slice ak t.kids.length ck]] w fun e w' => e = .returned (.tuple #[.string ⟨#[]⟩, .int .i64 (chkTy t)]) ∧ Below w.heap.size w w' := by
  have c := typesWrite_any d t al cl ak ck w hbd hla hkt
  unfold wrR at c
  rw [if_neg h] at c
  exact c
end Go.Proofs.YtefdekfgmbgbbaaGreatDoor

/-
  The contracts of package wires' reader: next, within, number, signed and cannotBe, wherever the reader stands.
-/
namespace Go.Proofs.YtefdekfgmbgbbaaGreatDoor
open Go.RowKit Go.Shelf

/-- a reader of bytes, at byte p -/
structure WRd (W : World) (rb : Nat) (s : ByteArray) (p : Nat) : Prop where
  c0 : W.cell? ⟨rb, 0, none⟩ = some (.string s)
  c1 : W.cell? ⟨rb, 1, none⟩ = some (.int .i64 (p : Int))
  fz : W.frozen? ⟨rb, 1, none⟩ = false
  le : p ≤ s.size
  sz : s.size ≤ 281474976710656
theorem WRd.lt {W : World} {rb : Nat} {s : ByteArray} {p : Nat} (h : WRd W rb s p) : rb < W.heap.size := lt_of_cell h.c0
theorem WRd.keep {W W' : World} {rb : Nat} {s : ByteArray} {p : Nat} (h : WRd W rb s p) (hb : Below W.heap.size W W') : WRd W' rb s p :=
  ⟨(hb.cell (p := ⟨rb, 0, none⟩) h.lt).trans h.c0, (hb.cell (p := ⟨rb, 1, none⟩) h.lt).trans h.c1, (hb.frozen (p := ⟨rb, 1, none⟩) h.lt).trans h.fz, h.le, h.sz⟩
theorem WRd.set {W : World} {rb : Nat} {s : ByteArray} {p : Nat} (h : WRd W rb s p) (q : Nat) (hq : q ≤ s.size) : WRd (W.setCell ⟨rb, 1, none⟩ (.int .i64 (q : Int))) rb s q :=
  ⟨(World.cell?_setCell_other _ _ _ _ (by simp)).trans h.c0, World.cell?_setCell_same _ _ _ h.c1, by rw [World.frozen?_setCell]; exact h.fz, hq, h.sz⟩
/-- what a reading leaves -/
def WPost {α : Type} (s : ByteArray) (rb : Nat) (V : World → α → Value → Prop) (x : Except (List UInt8) (α × List UInt8)) (e : Ending) (w' : World) : Prop :=
  match x with
  | .error r => e = .panicked (thrown s r)
  | .ok (a, r) => ∃ v, e = .returned v ∧ V w' a v ∧ ∃ p', WRd w' rb s p' ∧ rs s p' = r
theorem rs_nil {s : ByteArray} {p : Nat} (h : p ≤ s.size) : rs s p = [] ↔ p = s.size := by
  constructor
  · intro e; have := congrArg List.length e; rw [rs_len] at this; simp at this; omega
  · intro e; exact List.length_eq_zero_iff.1 (by rw [rs_len]; omega)
theorem rs_cons {s : ByteArray} {p : Nat} (h : p < s.size) : ∃ b, s.data[p]? = some b ∧ rs s p = b :: rs s (p + 1) := by
  have hl : p < s.data.toList.length := by simpa using h
  refine ⟨s.data.toList[p], ?_, ?_⟩
  · rw [← Array.getElem?_toList]; exact List.getElem?_eq_getElem hl
  · unfold rs; exact List.drop_eq_getElem_cons hl
theorem belowN (w : World) (n : Nat) : Below w.heap.size w (w.drewN n) := ⟨rfl, rfl, rfl, Nat.le_refl _, fun _ _ => rfl⟩
set_option maxHeartbeats 400000 in
theorem cannotBe_any (a : Int) (w : World) :
    Calls Tryz.prog 44 #[.int .i64 a] w fun e w' => e = .returned (.agg #[.int .i64 3, .int .i64 a]) ∧ Below w.heap.size w w' := by
  go_enter Tryz.func44, Tryz.ntmps44
  go_wp2_with fail
  have r0 : (w.alloc (.cells #[.int .i64 3, .int .i64 a] 35)).cell? ⟨w.heap.size, 0, none⟩ = some (.int .i64 3) := by go_cell
  have r1 : (w.alloc (.cells #[.int .i64 3, .int .i64 a] 35)).cell? ⟨w.heap.size, 1, none⟩ = some (.int .i64 a) := by go_cell
  refine bodyPost_ret (v := .agg #[.int .i64 3, .int .i64 a]) (by simp [results, Tryz.results44, go_sem, r0, r1]) rfl ?_
  exact ⟨rfl, (Below.refl _ _).alloc (Nat.le_refl _) _⟩
set_option maxRecDepth 100000 in
set_option maxHeartbeats 1000000 in
theorem next_end (rb p : Nat) (s : ByteArray) (w : World) (h : WRd w rb s p) (he : rs s p = []) :
    Calls Tryz.prog 43 #[.pointer (some ⟨rb, 0, none⟩)] w fun e w' => e = .panicked (thrown s []) ∧ FR rb w w' := by
  have hp := (rs_nil h.le).1 he
  rw [← he, thrown_at s p h.le]
  obtain ⟨c0, c1, fz, hle, hsz⟩ := h
  have hq : ((p : Int) == (s.size : Int)) = true := by rw [hp]; simp
  clear he hp
  go_enter Tryz.func43, Tryz.ntmps43
  go_wp2_with fail
  go_quiet (fail)
  go_wp2_with (go_at_call 44; refine (cannotBe_any _ _).mono ?_; rintro e w1 ⟨rfl, hb1⟩)
  exact ⟨rfl, rfl, (FR.of (belowN w _)).trans (FR.of hb1)⟩
set_option maxRecDepth 100000 in
set_option maxHeartbeats 1000000 in
theorem next_more (rb p : Nat) (s : ByteArray) (w : World) (h : WRd w rb s p) {b : UInt8} {r : List UInt8} (he : rs s p = b :: r) :
    Calls Tryz.prog 43 #[.pointer (some ⟨rb, 0, none⟩)] w fun e w' => e = .returned (.int .u8 (b.toNat : Int)) ∧ (WRd w' rb s (p + 1) ∧ rs s (p + 1) = r) ∧ FR rb w w' := by
  have hlt : p < s.size := by
    have := congrArg List.length he
    rw [rs_len] at this; simp at this; omega
  obtain ⟨b', hb, hr⟩ := rs_cons hlt
  rw [he] at hr
  injection hr with e1 e2
  subst e1
  have HS := hideK h
  obtain ⟨c0, c1, fz, hle, hsz⟩ := h
  have hq : ((p : Int) == (s.size : Int)) = false := by simp; omega
  have hx : ∀ w1 : World, (Instr.index 9 (.string s) (.int .i64 (p : Int))).run Tryz.prog w1 = .ok (.int .u8 (b.toNat : Int)) w1 := by
    intro w1
    have hbd : p < s.size := hlt
    have hbb : s[p] = b := by
      have := Array.getElem?_eq_some_iff.1 hb
      exact this.2
    simp [go_sem]
    rw [dif_pos hbd, hbb]
  have hE2 := hideK e2
  have HW := hideK (show (p : Int) + 1 = ((p + 1 : Nat) : Int) by omega)
  have HL := hideK (show p + 1 ≤ s.size by omega)
  clear he hb e2
  go_enter Tryz.func43, Tryz.ntmps43
  go_wp2_with fail
  go_quiet (fail)
  go_wp2_with fail
  go_quiet (fail)
  go_wp2_with fail
  rw [HW.out]
  go_ret
  exact ⟨rfl, ⟨(HS.out.keep (belowN w _)).set _ HL.out, hE2.out.symm⟩, (FR.of (belowN w _)).trans (FR.set2 1 _)⟩
set_option maxRecDepth 100000 in
set_option maxHeartbeats 1000000 in
theorem within_end (rb p : Nat) (s : ByteArray) (lo hi : Int) (w : World) (h : WRd w rb s p) (he : rs s p = []) :
    Calls Tryz.prog 30 #[.pointer (some ⟨rb, 0, none⟩), .int .i64 lo, .int .i64 hi] w fun e w' => e = .panicked (thrown s []) ∧ FR rb w w' := by
  have cN := next_end rb p s w h he
  obtain ⟨c0, c1, fz, hle, hsz⟩ := h
  clear he
  go_enter Tryz.func30, Tryz.ntmps30
  go_wp2_with (go_at_call 43; refine cN.mono ?_; rintro e w1 ⟨rfl, hf⟩)
  exact ⟨rfl, rfl, hf⟩
set_option maxRecDepth 100000 in
set_option maxHeartbeats 1000000 in
theorem within_bad (rb p : Nat) (s : ByteArray) (lo hi : Int) (w : World) (h : WRd w rb s p) {b : UInt8} {r : List UInt8} (he : rs s p = b :: r) (hb : (b.toNat : Int) < lo ∨ hi < (b.toNat : Int)) :
    Calls Tryz.prog 30 #[.pointer (some ⟨rb, 0, none⟩), .int .i64 lo, .int .i64 hi] w fun e w' => e = .panicked (thrown s (b :: r)) ∧ FR rb w w' := by
  have cN := next_more rb p s w h he
  have hT := thrown_at s p h.le
  rw [he] at hT
  rw [hT]
  obtain ⟨c0, c1, fz, hle, hsz⟩ := h
  have hlt : (b.toNat : Int) < 256 := by have := b.toNat_lt; omega
  have h00 : (0 : Int) ≤ (b.toNat : Int) := by omega
  clear he hT
  rcases hb with hb | hb
  · generalize (b.toNat : Int) = z at *
    go_enter Tryz.func30, Tryz.ntmps30
    go_wp2_with (first
      | (go_at_call 43; refine cN.mono ?_; rintro e w1 ⟨rfl, hx, hf⟩)
      | (go_at_call 44; refine (cannotBe_any _ _).mono ?_; rintro e w2 ⟨rfl, hb2⟩))
    exact ⟨rfl, rfl, hf.trans (FR.of hb2)⟩
  · by_cases hl : (b.toNat : Int) < lo
    · generalize (b.toNat : Int) = z at *
      go_enter Tryz.func30, Tryz.ntmps30
      go_wp2_with (first
        | (go_at_call 43; refine cN.mono ?_; rintro e w1 ⟨rfl, hx, hf⟩)
        | (go_at_call 44; refine (cannotBe_any _ _).mono ?_; rintro e w2 ⟨rfl, hb2⟩))
      exact ⟨rfl, rfl, hf.trans (FR.of hb2)⟩
    · have hg : (b.toNat : Int) > hi := hb
      generalize (b.toNat : Int) = z at *
      go_enter Tryz.func30, Tryz.ntmps30
      go_wp2_with (first
        | (go_at_call 43; refine cN.mono ?_; rintro e w1 ⟨rfl, hx, hf⟩)
        | (go_at_call 44; refine (cannotBe_any _ _).mono ?_; rintro e w2 ⟨rfl, hb2⟩))
      exact ⟨rfl, rfl, hf.trans (FR.of hb2)⟩
set_option maxRecDepth 100000 in
set_option maxHeartbeats 1000000 in
theorem within_ok (rb p : Nat) (s : ByteArray) (lo hi : Int) (w : World) (h : WRd w rb s p) {b : UInt8} {r : List UInt8} (he : rs s p = b :: r) (hl : lo ≤ (b.toNat : Int)) (hh : (b.toNat : Int) ≤ hi) :
    Calls Tryz.prog 30 #[.pointer (some ⟨rb, 0, none⟩), .int .i64 lo, .int .i64 hi] w fun e w' => e = .returned (.int .i64 (b.toNat : Int)) ∧ (WRd w' rb s (p + 1) ∧ rs s (p + 1) = r) ∧ FR rb w w' := by
  have cN := next_more rb p s w h he
  obtain ⟨c0, c1, fz, hle, hsz⟩ := h
  have h1 : ¬ (b.toNat : Int) < lo := by omega
  have h2 : ¬ (b.toNat : Int) > hi := by omega
  have hlt : (b.toNat : Int) < 256 := by have := b.toNat_lt; omega
  have h00 : (0 : Int) ≤ (b.toNat : Int) := by omega
  clear he hl hh
  generalize (b.toNat : Int) = z at *
  go_enter Tryz.func30, Tryz.ntmps30
  go_wp2_with (first
    | (go_at_call 43; refine cN.mono ?_; rintro e w1 ⟨rfl, hx, hf⟩))
  go_ret
  exact ⟨rfl, hx, hf⟩
end Go.Proofs.YtefdekfgmbgbbaaGreatDoor
