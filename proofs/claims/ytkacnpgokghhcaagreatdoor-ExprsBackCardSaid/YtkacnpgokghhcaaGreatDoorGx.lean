/-
  How a Value is read as data and back, what the two tables of utf8 hold, and utf8.ValidString's and strings.Compare's contracts at this program. Conditions: none.
-/
import Derived.Test.YtkacnpgokghhcaaGreatDoorRows
import Derived.Test.YtkacnpgokghhcaaGreatDoorWb
import Derived.Test.YtkacnpgokghhcaaGreatDoorBu
import Derived.ProofKit
import Derived.Lib.SmallJoins
import Derived.Lib.LaidU8T
import Derived.Lib.LaidIn
import Derived.PinnedBridge
import Derived.Lay
import Derived.SevenTiedAt
import Derived.Test.YtkacnpgokghhcaaGreatDoorGw
import Derived.Test.YtkacnpgokghhcaaGreatDoorYf
import Derived.Stop.LaidErr
import Derived.Lib.LaidTab
import Derived.Lib.AppendIntMem
namespace Go.Proofs.YtkacnpgokghhcaaGreatDoor
open Go.RowKit Go.Shelf Go.Lib Go.Joins
open Go.ChangeShapes Go.WideShapes Go.ChangeAt

theorem own : ownKnob Tryz.prog.godebug = none := by kernel_rfl
theorem cells23 : Tryz.prog.cellsOf 23 = 3 := by kernel_rfl
abbrev Tabs (w : World) : Prop := Lib.Utf8Tabs (Tryz.lays196_ren.g 3) (Tryz.lays196_ren.g 4) w
theorem tabs_keep (w w' : World) (h : Tabs w) (hb : Below w.heap.size w w') : Tabs w' := Utf8Tabs_below h hb
theorem vSaid : VSaid vD Tabs := fun s w hs hT => Any.utf8_ValidString Tryz.lays196 s w hs hT

section
variable {H : Type} {enc : TypeId × Value → H}
set_option maxRecDepth 100000 in
theorem openValue {W : World} {r : Reach} {b0 base : Nat} {spare : Nat → Bool} {held : Bool} {v : Value} {d : DataW H} {p : List MemPlace} (hv : Value.okWide Tryz.prog W r b0 23 v) (h : DataW.Trod enc Tryz.prog W base spare held 23 v d p) :
    ∃ (so n : Int) (s : ByteArray), v = .agg #[.int .i64 so, .int .i64 n, .string s] ∧ d = .agg [.lit (.int .i64 so), .lit (.int .i64 n), .lit (.string s.data.toList)] ∧ p = [] ∧ (Lit.int .i64 so).wf = true ∧ (Lit.int .i64 n).wf = true ∧ s.size ≤ maxLen := by
  obtain ⟨c0, c1, c2, y0, y1, y2, m, rfl, rfl, rfl, hy0, hy1, hy2⟩ := open_agg3 Tryz.underlying23 (by kernel_rfl) cells23 hv h
  obtain ⟨so, e0, rfl, wa⟩ := DataW.trod_int Tryz.underlying3 hy0
  obtain ⟨n, e1, rfl, wb⟩ := DataW.trod_int Tryz.underlying2 hy1
  obtain ⟨s, e2, rfl, ws⟩ := DataW.trod_string Tryz.underlying9 hy2
  simp at e0 e1 e2
  subst e0 e1 e2
  exact ⟨so, n, s, rfl, rfl, rfl, wa, wb, ws⟩
set_option maxRecDepth 100000 in
theorem shutValue {W : World} {base : Nat} {spare : Nat → Bool} {held : Bool} {so n : Int} {s : ByteArray} (wa : (Lit.int .i64 so).wf = true) (wb : (Lit.int .i64 n).wf = true) (ws : s.size ≤ maxLen) :
    DataW.Trod enc Tryz.prog W base spare held 23 (.agg #[.int .i64 so, .int .i64 n, .string s]) (.agg [.lit (.int .i64 so), .lit (.int .i64 n), .lit (.string s.data.toList)]) [] :=
  shut_agg3 (y0 := (.lit (.int .i64 so), [])) (y1 := (.lit (.int .i64 n), [])) (y2 := (.lit (.string s.data.toList), [])) Tryz.underlying23 (by kernel_rfl) cells23
    ⟨1, by simp [DataW.trod, Tryz.underlying3, wa]⟩ ⟨1, by simp [DataW.trod, Tryz.underlying2, wb]⟩ ⟨1, by simp [DataW.trod, Tryz.underlying9, ws]⟩
end
theorem acc_eq : (Rows.laid_unicode_utf8_acceptRanges : DataW Unit) = Lib.acceptData := by kernel_rfl


/-- a world in which what lay in W0 still lies -/
def AT (W0 w : World) : Prop := Below W0.heap.size W0 w
theorem at_tabs {W0 w : World} (h0 : Tabs W0) (h : AT W0 w) : Tabs w := tabs_keep W0 w h0 h
theorem at_v {W0 : World} (h0 : Tabs W0) : VSaid vD (AT W0) := fun s w hs hT => vSaid s w hs (at_tabs h0 hT)
theorem at_k {W0 : World} : ∀ w w', AT W0 w → Below w.heap.size w w' → AT W0 w' := fun _ _ h hb => Below.trans h (hb.mono h.size)
theorem at_k2 {W0 : World} : ∀ B w w', W0.heap.size ≤ B → AT W0 w → Below B w w' → AT W0 w' := fun _ _ _ hB h hb => Below.trans h (hb.mono hB)
theorem at_0 {W0 : World} : ∀ w, AT W0 w → W0.heap.size ≤ w.heap.size := fun _ h => h.size
end Go.Proofs.YtkacnpgokghhcaaGreatDoor
/-
  What the library's own variables hold, kept from call to call; exprs.Parse's contract by its two ways.
-/
namespace Go.Proofs.YtkacnpgokghhcaaGreatDoor
open Go.RowKit Go.Shelf Go.Joins

theorem gPow : Tryz.prog.globalNamed "internal/strconv.uint64pow10" = some 3 := by kernel_rfl
theorem gPowType : (Tryz.prog.globals[3]?).map (·.type) = some 117 := by kernel_rfl
theorem gSyn : Tryz.prog.globalNamed "strconv.ErrSyntax" = some 6 := by kernel_rfl
theorem gSynType : (Tryz.prog.globals[6]?).map (·.type) = some 56 := by kernel_rfl
theorem gRan : Tryz.prog.globalNamed "strconv.ErrRange" = some 7 := by kernel_rfl
theorem gRanType : (Tryz.prog.globals[7]?).map (·.type) = some 56 := by kernel_rfl
theorem starES : "*" ++ "errors.errorString" = "*errors.errorString" := by decide
theorem rowES (u : TypeId) (h : Tryz.prog.typeName? 3 u = some "*errors.errorString") : u = 149 :=
  typeName_ptr_named (nm := "errors.errorString") (by rw [starES]; kernel_rfl) (by kernel_rfl) (by decide) u (by rw [starES]; exact h)
/-- what the calls read of the library's own variables -/
structure EnvX (w : World) : Prop where
  tabs : Tabs w
  pow : Lib.TabIs Tryz.prog w "internal/strconv.uint64pow10" .u64 Lib.pow10Tab
  syn : ∃ tp p, w.var? Tryz.prog "strconv.ErrSyntax" = some #[.iface tp p]
  ran : ∃ tp p, w.var? Tryz.prog "strconv.ErrRange" = some #[.iface tp p]
theorem EnvX.keep {w w' : World} (h : EnvX w) (hb : Below w.heap.size w w') : EnvX w' :=
  ⟨tabs_keep w w' h.tabs hb, tab_stays gPow h.pow hb (Nat.le_refl _),
   h.syn.elim fun tp q => q.elim fun p e => ⟨tp, p, var_stays gSyn e hb (Nat.le_refl _)⟩,
   h.ran.elim fun tp q => q.elim fun p e => ⟨tp, p, var_stays gRan e hb (Nat.le_refl _)⟩⟩
theorem env_f {W0 : World} (hE : EnvX W0) : FSaid (AT W0) := fun n w h0 h1 h => (Any.strconv_FormatInt_10 Tryz.laysM173 n h0 h1 w (hE.keep h).pow).mono (by
  rintro e w' ⟨rfl, k, os, rfl⟩
  exact ⟨rfl, Lib.below_grow _ w (Nat.le_refl _) k os⟩)
theorem env_p {W0 : World} (hE : EnvX W0) : PSaid (AT W0) := fun s w hs h => by
  cases hp : Lib.parseIntB 64 s.data.toList
  · rename_i v
    refine (Any.strconv_ParseInt_10_at64_ok Tryz.laysC174 s (by omega) v hp w).mono ?_
    rintro e w' ⟨rfl, hw⟩
    refine ⟨⟨fun v' h' => ?_, fun hn => absurd hp (hn v)⟩, ?_⟩
    · rw [hp] at h'; cases h'; rfl
    · rcases hw with rfl | ⟨t, rfl⟩
      · exact Below.refl _ _
      · exact below_bytesWorld _ _ _ _ (Nat.le_refl _)
  · obtain ⟨tp, p, hv⟩ := (hE.keep h).syn
    refine (Any.strconv_ParseInt_10_at64_syntax_var Tryz.laysC174 s hs hp tp p w hv).mono ?_
    rintro e w' ⟨N, rfl, _, _, hb⟩
    exact ⟨⟨fun v' h' => (by rw [hp] at h'; cases h'), fun _ => ⟨_, N, rfl⟩⟩, hb⟩
  · obtain ⟨tp, p, hv⟩ := (hE.keep h).ran
    refine (Any.strconv_ParseInt_10_at64_range_var Tryz.laysC174 s hs hp tp p w hv).mono ?_
    rintro e w' ⟨N, rfl, _, _, hb⟩
    exact ⟨⟨fun v' h' => (by rw [hp] at h'; cases h'), fun _ => ⟨_, N, rfl⟩⟩, hb⟩
theorem env_tk {W0 : World} (hE : EnvX W0) : TK (AT W0) W0.heap.size :=
  ⟨at_v hE.tabs, fun s w hs hT => read_any (AT W0) (at_v hE.tabs) (env_f hE) (env_p hE) at_k s w hs hT, at_k, at_k2, at_0⟩
/- plain -/
theorem psX_ok (L : List UInt8) (x : Ex) (h : psX L = .ok x) : L.length ≤ 2000 ∧ rdX rdZ (2 * L.length + 3) (some 1) (skB L) = .ok (x, []) ∧ chkX x = 0 := by
  unfold psX at h
  split at h
  · cases h
  rename_i hL
  split at h
  · cases h
  rename_i x' r hT
  split at h
  · rename_i hr
    split at h
    · rename_i hc
      injection h with h
      subst h hr
      exact ⟨by omega, hT, hc⟩
    · cases h
  · cases h
theorem psX_of (L : List UInt8) (x : Ex) (hL : L.length ≤ 2000) (h : rdX rdZ (2 * L.length + 3) (some 1) (skB L) = .ok (x, [])) (hc : chkX x = 0) : psX L = .ok x := by
  unfold psX
  rw [if_neg (by omega), h]
  simp only
  rw [if_pos trivial, if_pos hc]
theorem psX_code (L : List UInt8) (c : Int) (a : Nat) (h : psX L = .error (c, a)) : c ≠ 0 := by
  unfold psX at h
  split at h
  · injection h with h; injection h with h1 _; omega
  split at h
  · rename_i c' r hx
    injection h with h; injection h with h1 _
    rintro rfl
    subst h1
    have hs := skB_len L
    exact (rdX_nf rdZ (2 * L.length + 3)).2 1 (skB L) (by decide) (by omega) r hx
  split at h
  · split at h
    · cases h
    · rename_i hc
      injection h with h; injection h with h1 _; rw [← h1]; exact hc
  · injection h with h; injection h with h1 _; omega
theorem psX_large (L : List UInt8) (h : 2000 < L.length) : psX L = .error (2, 0) := by unfold psX; rw [if_pos h]
theorem parseX_ok {W0 : World} (H : TK (AT W0) W0.heap.size) (s : ByteArray) (x : Ex) (h : psX s.data.toList = .ok x) (w : World) (hT : AT W0 w) :
    Calls Tryz.prog 6 #[.string s] w fun e w' => (∃ d ao cap, e = .returned (.tuple #[.agg #[.int .i64 x.kind, .string x.name, .int .i64 x.so, .int .i64 x.n, .string x.s, .slice ao x.kids.length cap], .agg #[.int .i64 0, .int .i64 0]]) ∧ GE w w' d x ao cap) ∧ Below w.heap.size w w' := by
  have c := parseX_any H s w hT
  rw [h] at c
  exact c
theorem parseX_err {W0 : World} (H : TK (AT W0) W0.heap.size) (s : ByteArray) (c : Int) (a : Nat) (h : psX s.data.toList = .error (c, a)) (w : World) (hT : AT W0 w) :
    Calls Tryz.prog 6 #[.string s] w fun e w' => e = .returned (.tuple #[.agg #[.int .i64 0, .string ⟨#[]⟩, .int .i64 0, .int .i64 0, .string ⟨#[]⟩, .slice none 0 0], .agg #[.int .i64 c, .int .i64 (a : Int)]]) ∧ Below w.heap.size w w' := by
  have cc := parseX_any H s w hT
  rw [h] at cc
  exact cc
theorem KA.more {W : World} {B : Nat} : ∀ {d : Nat} {ks : List Ex} {ao : Option Addr} (k : Nat), KA W B d ks ao → KA W B (d + k) ks ao
  | 0, ks, ao, k, h => by
    have h' : ks = [] := h
    cases k with
    | zero => exact h'
    | succ k => rw [Nat.zero_add]; exact .inl h'
  | d + 1, ks, ao, k, h => by
    rw [Nat.add_right_comm]
    rcases h with h | ⟨b, o, h1, h2, h3⟩
    · exact .inl h
    · refine .inr ⟨b, o, h1, h2, fun i hi => ?_⟩
      obtain ⟨ao', cap', e, f, g⟩ := h3 i hi
      exact ⟨ao', cap', e, f, KA.more k g⟩
/-- SameExpr of one expression that lies twice -/
theorem sameX (x : Ex) (d d2 : Nat) (ao ao2 : Option Addr) (cap cap2 B : Nat) (w : World) (h1 : ExBd x cap) (h2 : ExBd x cap2) (k1 : KA w B d x.kids ao) (k2 : KA w B d2 x.kids ao2) (hB : B ≤ w.heap.size) :
    Calls Tryz.prog 7 #[.agg #[.int .i64 x.kind, .string x.name, .int .i64 x.so, .int .i64 x.n, .string x.s, .slice ao x.kids.length cap], .agg #[.int .i64 x.kind, .string x.name, .int .i64 x.so, .int .i64 x.n, .string x.s, .slice ao2 x.kids.length cap2]] w fun e w' => e = .returned (.bool true) ∧ Below w.heap.size w w' := by
  have a1 := k1.more d2
  have a2 := k2.more d
  rw [Nat.add_comm] at a2
  exact same_any (d + d2) x ao ao2 cap cap2 B w h1 h2 a1 a2 hB
end Go.Proofs.YtkacnpgokghhcaaGreatDoor
