/-
  The contract of duetref.SameExpr at two expressions that are the same, wherever they lie.
-/
import Derived.Test.YtipolobikigmbaaGreatDoorXk
import Derived.Test.YtipolobikigmbaaGreatDoorRows
import Derived.Test.YtipolobikigmbaaGreatDoorWb
import Derived.Test.YtipolobikigmbaaGreatDoorBu
import Derived.ProofKit
import Derived.Lib.SmallJoins
import Derived.Lib.LaidU8T
import Derived.Lib.LaidIn
import Derived.PinnedBridge
import Derived.Lay
import Derived.SevenTiedAt
import Derived.Test.YtipolobikigmbaaGreatDoorGw
import Derived.Stop.LaidErr
import Derived.Lib.LaidTab
import Derived.Lib.AppendIntMem
namespace Go.Proofs.YtipolobikigmbaaGreatDoor
open Go.RowKit Go.Shelf

def SESaid (d : Nat) : Prop := ∀ (x : Ex) (ao ao2 : Option Addr) (cap cap2 B : Nat) (w : World), ExBd x cap → ExBd x cap2 → KA w B d x.kids ao → KA w B d x.kids ao2 → B ≤ w.heap.size →
  Calls Tryz.prog 12 #[exVal x ao cap, exVal x ao2 cap2] w fun e w' => e = .returned (.bool true) ∧ Below w.heap.size w w'

set_option maxRecDepth 100000 in
set_option maxHeartbeats 4000000 in
theorem same_step (d : Nat) (ih : ∀ d', d' < d → SESaid d') : SESaid d := by
  intro x ao ao2 cap cap2 B w hb hb2 hka hka2 hB
  have hkl : (x.kids.length : Int) ≤ 9223372036854775807 := by have := hb.kids; have := hb.cap; omega
  obtain ⟨kd, nm, so, n, s, ks⟩ := x
  simp only at hkl hka hka2
  have hw2 : Below w.heap.size w ((w.alloc (.cells #[.int .i64 kd, .string nm, .int .i64 so, .int .i64 n, .string s, .slice ao ks.length cap] 39)).alloc (.cells #[.int .i64 kd, .string nm, .int .i64 so, .int .i64 n, .string s, .slice ao2 ks.length cap2] 39)) := ((Below.refl _ _).alloc (Nat.le_refl _) _).alloc (by simp) _
  have k5 : ((w.alloc (.cells #[.int .i64 kd, .string nm, .int .i64 so, .int .i64 n, .string s, .slice ao ks.length cap] 39)).alloc (.cells #[.int .i64 kd, .string nm, .int .i64 so, .int .i64 n, .string s, .slice ao2 ks.length cap2] 39)).cell? ⟨w.heap.size, 5, none⟩ = some (.slice ao ks.length cap) := by go_cell
  have l5 : ((w.alloc (.cells #[.int .i64 kd, .string nm, .int .i64 so, .int .i64 n, .string s, .slice ao ks.length cap] 39)).alloc (.cells #[.int .i64 kd, .string nm, .int .i64 so, .int .i64 n, .string s, .slice ao2 ks.length cap2] 39)).cell? ⟨w.heap.size + 1, 5, none⟩ = some (.slice ao2 ks.length cap2) := by go_cell
  have hsz : ((w.alloc (.cells #[.int .i64 kd, .string nm, .int .i64 so, .int .i64 n, .string s, .slice ao ks.length cap] 39)).alloc (.cells #[.int .i64 kd, .string nm, .int .i64 so, .int .i64 n, .string s, .slice ao2 ks.length cap2] 39)).heap.size = w.heap.size + 2 := by simp
  have HK5 : Hid (World.cell? _ _ = _) := k5
  have HL5 : Hid (World.cell? _ _ = _) := l5
  have HSZ : Hid (Array.size _ = _) := hsz
  have HW2 : Hid (Below w.heap.size w _) := hw2
  clear k5 l5 hsz hw2
  simp only [exVal]
  go_enter Tryz.func12, Tryz.ntmps12
  go_wp2_with fail
  generalize (w.alloc (.cells #[.int .i64 kd, .string nm, .int .i64 so, .int .i64 n, .string s, .slice ao ks.length cap] 39)).alloc (.cells #[.int .i64 kd, .string nm, .int .i64 so, .int .i64 n, .string s, .slice ao2 ks.length cap2] 39) = V at *
  have hka' := hka.keep (HW2.out.mono hB)
  have hka2' := hka2.keep (HW2.out.mono hB)
  have hVs := HSZ.out
  have hBV : B ≤ V.heap.size := by omega
  go_loopw [5] (fun i wr => ∃ k : Nat, k ≤ ks.length ∧ i = .int .i64 (k : Int) ∧ Below V.heap.size V wr) (fun i _ => ks.length - (intOf i).toNat)
  case atStart => exact ⟨0, Nat.zero_le _, rfl, Below.refl _ _⟩
  case round =>
    obtain ⟨k, hk, rfl, hbr⟩ := hrel
    have k5 := (hbr.cell (p := ⟨w.heap.size, 5, none⟩) (by show w.heap.size < V.heap.size; omega)).trans HK5.out
    have l5 := (hbr.cell (p := ⟨w.heap.size + 1, 5, none⟩) (by show w.heap.size + 1 < V.heap.size; omega)).trans HL5.out
    by_cases hlt : k < ks.length
    · have hltz : (k : Int) < (ks.length : Int) := by omega
      have hkz : (0 : Int) ≤ (k : Int) := by omega
      obtain ⟨d', rfl⟩ : ∃ d', d = d' + 1 := by
        cases d with
        | zero => simp only [KA] at hka; subst hka; simp at hlt
        | succ d' => exact ⟨d', rfl⟩
      rcases hka' with e | ⟨b, o, rfl, hbB, hc⟩
      · subst e; simp at hlt
      · rcases hka2' with e | ⟨b2, o2, rfl, hbB2, hc2⟩
        · subst e; simp at hlt
        · obtain ⟨ao', cap', hex, hxb, hkk⟩ := hc k hlt
          obtain ⟨ao2', cap2', hex2, hxb2, hkk2⟩ := hc2 k hlt
          have hbr' := hbr.mono (show B ≤ V.heap.size from hBV)
          obtain ⟨y0, y1, y2, y3, y4, y5⟩ := hex.keep hbr' hbB
          obtain ⟨z0, z1, z2, z3, z4, z5⟩ := hex2.keep hbr' hbB2
          have hle := hbr.size
          have cR := ih d' (by omega) ks[k] ao' ao2' cap' cap2' B wr.drew hxb hxb2 ((hkk.keep hbr').keep (Below.refl _ _).drew) ((hkk2.keep hbr').keep (Below.refl _ _).drew) (by show B ≤ wr.heap.size; omega)
          simp only [exVal] at cR
          generalize ks[k] = y at *
          clear hex hex2 hkk hkk2 hc hc2 hka hka2 ih
          have hq1 : b < wr.drew.heap.size := by show b < wr.heap.size; omega
          have hq2 : b2 < wr.drew.heap.size := by show b2 < wr.heap.size; omega
          have hq3 : w.heap.size < wr.drew.heap.size := by show w.heap.size < wr.heap.size; omega
          have hq4 : w.heap.size + 1 < wr.drew.heap.size := by show w.heap.size + 1 < wr.heap.size; omega
          have HBR : Hid (Below V.heap.size V wr) := hbr
          clear hbr hbr'
          go_wp2_with fail
          go_region_held3 (fun w' => w'.cell? ⟨b, o + k * 6, none⟩ = some (.int .i64 y.kind) ∧ w'.cell? ⟨b, o + k * 6 + 1, none⟩ = some (.string y.name) ∧ w'.cell? ⟨b, o + k * 6 + 2, none⟩ = some (.int .i64 y.so) ∧ w'.cell? ⟨b, o + k * 6 + 3, none⟩ = some (.int .i64 y.n) ∧ w'.cell? ⟨b, o + k * 6 + 4, none⟩ = some (.string y.s) ∧ w'.cell? ⟨b, o + k * 6 + 5, none⟩ = some (.slice ao' y.kids.length cap') ∧ w'.cell? ⟨b2, o2 + k * 6, none⟩ = some (.int .i64 y.kind) ∧ w'.cell? ⟨b2, o2 + k * 6 + 1, none⟩ = some (.string y.name) ∧ w'.cell? ⟨b2, o2 + k * 6 + 2, none⟩ = some (.int .i64 y.so) ∧ w'.cell? ⟨b2, o2 + k * 6 + 3, none⟩ = some (.int .i64 y.n) ∧ w'.cell? ⟨b2, o2 + k * 6 + 4, none⟩ = some (.string y.s) ∧ w'.cell? ⟨b2, o2 + k * 6 + 5, none⟩ = some (.slice ao2' y.kids.length cap2') ∧ w'.cell? ⟨w.heap.size, 5, none⟩ = some (.slice (some ⟨b, o, none⟩) ks.length cap) ∧ w'.cell? ⟨w.heap.size + 1, 5, none⟩ = some (.slice (some ⟨b2, o2, none⟩) ks.length cap2)) (go_keep) (first | (go_at_call 12; go_must (refine cR.mono ?_; rintro e w2 ⟨rfl, hb2⟩; have y0' := (hb2.cell (p := ⟨b, o + k * 6, none⟩) hq1).trans y0; have y1' := (hb2.cell (p := ⟨b, o + k * 6 + 1, none⟩) hq1).trans y1; have y2' := (hb2.cell (p := ⟨b, o + k * 6 + 2, none⟩) hq1).trans y2; have y3' := (hb2.cell (p := ⟨b, o + k * 6 + 3, none⟩) hq1).trans y3; have y4' := (hb2.cell (p := ⟨b, o + k * 6 + 4, none⟩) hq1).trans y4; have y5' := (hb2.cell (p := ⟨b, o + k * 6 + 5, none⟩) hq1).trans y5; have z0' := (hb2.cell (p := ⟨b2, o2 + k * 6, none⟩) hq2).trans z0; have z1' := (hb2.cell (p := ⟨b2, o2 + k * 6 + 1, none⟩) hq2).trans z1; have z2' := (hb2.cell (p := ⟨b2, o2 + k * 6 + 2, none⟩) hq2).trans z2; have z3' := (hb2.cell (p := ⟨b2, o2 + k * 6 + 3, none⟩) hq2).trans z3; have z4' := (hb2.cell (p := ⟨b2, o2 + k * 6 + 4, none⟩) hq2).trans z4; have z5' := (hb2.cell (p := ⟨b2, o2 + k * 6 + 5, none⟩) hq2).trans z5; have k5' := (hb2.cell (p := ⟨w.heap.size, 5, none⟩) hq3).trans k5; have l5' := (hb2.cell (p := ⟨w.heap.size + 1, 5, none⟩) hq4).trans l5)))
          have hbF : Below V.heap.size V w2 := (HBR.out.drew).trans (hb2.mono (by show V.heap.size ≤ wr.heap.size; omega))
          go_wp2_with fail
          go_roundw
          case rel => exact ⟨k + 1, by omega, by go_num, hbF⟩
          case measure => simp [intOf]; omega
    · have hltz : ¬ (k : Int) < (ks.length : Int) := by omega
      clear hka hka2 hka' hka2' ih
      go_wp2_with fail
      go_ret
      exact ⟨rfl, HW2.out.trans (hbr.mono (by omega))⟩
theorem same_any (d : Nat) : SESaid d := by
  induction d using Nat.strongRecOn with
  | _ d ih => exact same_step d ih
end Go.Proofs.YtipolobikigmbaaGreatDoor
/-
  How a Value is read as data and back, what the two tables of utf8 hold, and utf8.ValidString's and strings.Compare's contracts at this program. Conditions: none.
-/
namespace Go.Proofs.YtipolobikigmbaaGreatDoor
open Go.RowKit Go.Shelf Go.Lib Go.Joins
open Go.ChangeShapes Go.WideShapes Go.ChangeAt

theorem own : ownKnob Tryz.prog.godebug = none := by kernel_rfl
theorem cells23 : Tryz.prog.cellsOf 36 = 3 := by kernel_rfl
abbrev Tabs (w : World) : Prop := Lib.Utf8Tabs (Tryz.lays196_ren.g 3) (Tryz.lays196_ren.g 4) w
theorem tabs_keep (w w' : World) (h : Tabs w) (hb : Below w.heap.size w w') : Tabs w' := Utf8Tabs_below h hb
theorem vSaid : VSaid vD Tabs := fun s w hs hT => Any.utf8_ValidString Tryz.lays196 s w hs hT

section
variable {H : Type} {enc : TypeId × Value → H}
set_option maxRecDepth 100000 in
theorem openValue {W : World} {r : Reach} {b0 base : Nat} {spare : Nat → Bool} {held : Bool} {v : Value} {d : DataW H} {p : List MemPlace} (hv : Value.okWide Tryz.prog W r b0 36 v) (h : DataW.Trod enc Tryz.prog W base spare held 36 v d p) :
    ∃ (so n : Int) (s : ByteArray), v = .agg #[.int .i64 so, .int .i64 n, .string s] ∧ d = .agg [.lit (.int .i64 so), .lit (.int .i64 n), .lit (.string s.data.toList)] ∧ p = [] ∧ (Lit.int .i64 so).wf = true ∧ (Lit.int .i64 n).wf = true ∧ s.size ≤ maxLen := by
  obtain ⟨c0, c1, c2, y0, y1, y2, m, rfl, rfl, rfl, hy0, hy1, hy2⟩ := open_agg3 Tryz.underlying36 (by kernel_rfl) cells23 hv h
  obtain ⟨so, e0, rfl, wa⟩ := DataW.trod_int Tryz.underlying3 hy0
  obtain ⟨n, e1, rfl, wb⟩ := DataW.trod_int Tryz.underlying2 hy1
  obtain ⟨s, e2, rfl, ws⟩ := DataW.trod_string Tryz.underlying9 hy2
  simp at e0 e1 e2
  subst e0 e1 e2
  exact ⟨so, n, s, rfl, rfl, rfl, wa, wb, ws⟩
set_option maxRecDepth 100000 in
theorem shutValue {W : World} {base : Nat} {spare : Nat → Bool} {held : Bool} {so n : Int} {s : ByteArray} (wa : (Lit.int .i64 so).wf = true) (wb : (Lit.int .i64 n).wf = true) (ws : s.size ≤ maxLen) :
    DataW.Trod enc Tryz.prog W base spare held 36 (.agg #[.int .i64 so, .int .i64 n, .string s]) (.agg [.lit (.int .i64 so), .lit (.int .i64 n), .lit (.string s.data.toList)]) [] :=
  shut_agg3 (y0 := (.lit (.int .i64 so), [])) (y1 := (.lit (.int .i64 n), [])) (y2 := (.lit (.string s.data.toList), [])) Tryz.underlying36 (by kernel_rfl) cells23
    ⟨1, by simp [DataW.trod, Tryz.underlying3, wa]⟩ ⟨1, by simp [DataW.trod, Tryz.underlying2, wb]⟩ ⟨1, by simp [DataW.trod, Tryz.underlying9, ws]⟩
end
theorem acc_eq : (Rows.laid_unicode_utf8_acceptRanges : DataW Unit) = Lib.acceptData := by kernel_rfl


/-- a world in which what lay in W0 still lies -/
def AT (W0 w : World) : Prop := Below W0.heap.size W0 w
theorem at_tabs {W0 w : World} (h0 : Tabs W0) (h : AT W0 w) : Tabs w := tabs_keep W0 w h0 h
theorem at_v {W0 : World} (h0 : Tabs W0) : VSaid vD (AT W0) := fun s w hs hT => vSaid s w hs (at_tabs h0 hT)
theorem at_k {W0 : World} : ∀ w w', AT W0 w → Below w.heap.size w w' → AT W0 w' := fun _ _ h hb => Below.trans h (hb.mono h.size)
theorem at_k2 {W0 : World} : ∀ B w w', W0.heap.size ≤ B → AT W0 w → Below B w w' → AT W0 w' := fun _ _ _ hB h hb => Below.trans h (hb.mono hB)
theorem at_0 {W0 : World} : ∀ w, AT W0 w → W0.heap.size ≤ w.heap.size := fun _ h => h.size
end Go.Proofs.YtipolobikigmbaaGreatDoor

/-
  What the library's own variables hold, kept from call to call; exprs.Parse's contract by its two ways.
-/
namespace Go.Proofs.YtipolobikigmbaaGreatDoor
open Go.RowKit Go.Shelf Go.Joins

theorem gPow : Tryz.prog.globalNamed "internal/strconv.uint64pow10" = some 3 := by kernel_rfl
theorem gPowType : (Tryz.prog.globals[3]?).map (·.type) = some 195 := by kernel_rfl
theorem gSyn : Tryz.prog.globalNamed "strconv.ErrSyntax" = some 6 := by kernel_rfl
theorem gSynType : (Tryz.prog.globals[6]?).map (·.type) = some 64 := by kernel_rfl
theorem gRan : Tryz.prog.globalNamed "strconv.ErrRange" = some 7 := by kernel_rfl
theorem gRanType : (Tryz.prog.globals[7]?).map (·.type) = some 64 := by kernel_rfl
theorem starES : "*" ++ "errors.errorString" = "*errors.errorString" := by decide
theorem rowES (u : TypeId) (h : Tryz.prog.typeName? 3 u = some "*errors.errorString") : u = 223 :=
  typeName_ptr_named (nm := "errors.errorString") (by rw [starES]; kernel_rfl) (by kernel_rfl) (by decide) u (by rw [starES]; exact h)
/-- what the calls read of the library's own variables -/
structure EnvX (w : World) : Prop where
  tabs : Tabs w
  pow : Lib.TabIs Tryz.prog w "internal/strconv.uint64pow10" .u64 Lib.pow10Tab
  syn : ∃ tp p, w.var? Tryz.prog "strconv.ErrSyntax" = some #[.iface tp p]
  ran : ∃ tp p, w.var? Tryz.prog "strconv.ErrRange" = some #[.iface tp p]
theorem EnvX.keep {w w' : World} (h : EnvX w) (hb : Below w.heap.size w w') : EnvX w' :=
  ⟨tabs_keep w w' h.tabs hb, tab_stays gPow h.pow hb (Nat.le_refl _),
   h.syn.elim fun tp q => q.elim fun p e => ⟨tp, p, var_stays gSyn e hb (Nat.le_refl _)⟩,
   h.ran.elim fun tp q => q.elim fun p e => ⟨tp, p, var_stays gRan e hb (Nat.le_refl _)⟩⟩
theorem env_f {W0 : World} (hE : EnvX W0) : FSaid (AT W0) := fun n w h0 h1 h => (Any.strconv_FormatInt_10 Tryz.laysM173 n h0 h1 w (hE.keep h).pow).mono (by
  rintro e w' ⟨rfl, k, os, rfl⟩
  exact ⟨rfl, Lib.below_grow _ w (Nat.le_refl _) k os⟩)
theorem env_p {W0 : World} (hE : EnvX W0) : PSaid (AT W0) := fun s w hs h => by
  cases hp : Lib.parseIntB 64 s.data.toList
  · rename_i v
    refine (Any.strconv_ParseInt_10_at64_ok Tryz.laysC174 s (by omega) v hp w).mono ?_
    rintro e w' ⟨rfl, hw⟩
    refine ⟨⟨fun v' h' => ?_, fun hn => absurd hp (hn v)⟩, ?_⟩
    · rw [hp] at h'; cases h'; rfl
    · rcases hw with rfl | ⟨t, rfl⟩
      · exact Below.refl _ _
      · exact below_bytesWorld _ _ _ _ (Nat.le_refl _)
  · obtain ⟨tp, p, hv⟩ := (hE.keep h).syn
    refine (Any.strconv_ParseInt_10_at64_syntax_var Tryz.laysC174 s hs hp tp p w hv).mono ?_
    rintro e w' ⟨N, rfl, _, _, hb⟩
    exact ⟨⟨fun v' h' => (by rw [hp] at h'; cases h'), fun _ => ⟨_, N, rfl⟩⟩, hb⟩
  · obtain ⟨tp, p, hv⟩ := (hE.keep h).ran
    refine (Any.strconv_ParseInt_10_at64_range_var Tryz.laysC174 s hs hp tp p w hv).mono ?_
    rintro e w' ⟨N, rfl, _, _, hb⟩
    exact ⟨⟨fun v' h' => (by rw [hp] at h'; cases h'), fun _ => ⟨_, N, rfl⟩⟩, hb⟩
theorem env_tk {W0 : World} (hE : EnvX W0) : TK (AT W0) W0.heap.size :=
  ⟨at_v hE.tabs, fun s w hs hT => read_any (AT W0) (at_v hE.tabs) (env_f hE) (env_p hE) at_k s w hs hT, at_k, at_k2, at_0⟩
/- plain -/
theorem psX_ok (L : List UInt8) (x : Ex) (h : psX L = .ok x) : L.length ≤ 2000 ∧ rdX rdZ (2 * L.length + 3) (some 1) (skB L) = .ok (x, []) ∧ chkX x = 0 := by
  unfold psX at h
  split at h
  · cases h
  rename_i hL
  split at h
  · cases h
  rename_i x' r hT
  split at h
  · rename_i hr
    split at h
    · rename_i hc
      injection h with h
      subst h hr
      exact ⟨by omega, hT, hc⟩
    · cases h
  · cases h
theorem psX_of (L : List UInt8) (x : Ex) (hL : L.length ≤ 2000) (h : rdX rdZ (2 * L.length + 3) (some 1) (skB L) = .ok (x, [])) (hc : chkX x = 0) : psX L = .ok x := by
  unfold psX
  rw [if_neg (by omega), h]
  simp only
  rw [if_pos trivial, if_pos hc]
theorem psX_code (L : List UInt8) (c : Int) (a : Nat) (h : psX L = .error (c, a)) : c ≠ 0 := by
  unfold psX at h
  split at h
  · injection h with h; injection h with h1 _; omega
  split at h
  · rename_i c' r hx
    injection h with h; injection h with h1 _
    rintro rfl
    subst h1
    have hs := skB_len L
    exact (rdX_nf rdZ (2 * L.length + 3)).2 1 (skB L) (by decide) (by omega) r hx
  split at h
  · split at h
    · cases h
    · rename_i hc
      injection h with h; injection h with h1 _; rw [← h1]; exact hc
  · injection h with h; injection h with h1 _; omega
theorem psX_large (L : List UInt8) (h : 2000 < L.length) : psX L = .error (2, 0) := by unfold psX; rw [if_pos h]
theorem parseX_ok {W0 : World} (H : TK (AT W0) W0.heap.size) (s : ByteArray) (x : Ex) (h : psX s.data.toList = .ok x) (w : World) (hT : AT W0 w) :
    Calls Tryz.prog 11 #[.string s] w fun e w' => (∃ d ao cap, e = .returned (.tuple #[.agg #[.int .i64 x.kind, .string x.name, .int .i64 x.so, .int .i64 x.n, .string x.s, .slice ao x.kids.length cap], .agg #[.int .i64 0, .int .i64 0]]) ∧ GE w w' d x ao cap) ∧ Below w.heap.size w w' := by
  have c := parseX_any H s w hT
  rw [h] at c
  exact c
theorem parseX_err {W0 : World} (H : TK (AT W0) W0.heap.size) (s : ByteArray) (c : Int) (a : Nat) (h : psX s.data.toList = .error (c, a)) (w : World) (hT : AT W0 w) :
    Calls Tryz.prog 11 #[.string s] w fun e w' => e = .returned (.tuple #[.agg #[.int .i64 0, .string ⟨#[]⟩, .int .i64 0, .int .i64 0, .string ⟨#[]⟩, .slice none 0 0], .agg #[.int .i64 c, .int .i64 (a : Int)]]) ∧ Below w.heap.size w w' := by
  have cc := parseX_any H s w hT
  rw [h] at cc
  exact cc
theorem KA.more {W : World} {B : Nat} : ∀ {d : Nat} {ks : List Ex} {ao : Option Addr} (k : Nat), KA W B d ks ao → KA W B (d + k) ks ao
  | 0, ks, ao, k, h => by
    have h' : ks = [] := h
    cases k with
    | zero => exact h'
    | succ k => rw [Nat.zero_add]; exact .inl h'
  | d + 1, ks, ao, k, h => by
    rw [Nat.add_right_comm]
    rcases h with h | ⟨b, o, h1, h2, h3⟩
    · exact .inl h
    · refine .inr ⟨b, o, h1, h2, fun i hi => ?_⟩
      obtain ⟨ao', cap', e, f, g⟩ := h3 i hi
      exact ⟨ao', cap', e, f, KA.more k g⟩
/-- SameExpr of one expression that lies twice -/
theorem sameX (x : Ex) (d d2 : Nat) (ao ao2 : Option Addr) (cap cap2 B : Nat) (w : World) (h1 : ExBd x cap) (h2 : ExBd x cap2) (k1 : KA w B d x.kids ao) (k2 : KA w B d2 x.kids ao2) (hB : B ≤ w.heap.size) :
    Calls Tryz.prog 12 #[.agg #[.int .i64 x.kind, .string x.name, .int .i64 x.so, .int .i64 x.n, .string x.s, .slice ao x.kids.length cap], .agg #[.int .i64 x.kind, .string x.name, .int .i64 x.so, .int .i64 x.n, .string x.s, .slice ao2 x.kids.length cap2]] w fun e w' => e = .returned (.bool true) ∧ Below w.heap.size w w' := by
  have a1 := k1.more d2
  have a2 := k2.more d
  rw [Nat.add_comm] at a2
  exact same_any (d + d2) x ao ao2 cap cap2 B w h1 h2 a1 a2 hB
end Go.Proofs.YtipolobikigmbaaGreatDoor
