/-
  What the library's own variables hold, kept from call to call; exprs.Parse's contract by its two ways.
-/
import Derived.Test.YtkacnpgokghhcaaGreatDoorGw
import Derived.Test.YtkacnpgokghhcaaGreatDoorLt
import Derived.Stop.LaidErr
import Derived.Lib.LaidTab
import Derived.Lib.AppendIntMem
import Derived.Test.YtkacnpgokghhcaaGreatDoorProg
import Derived.Ground.NamesProg
import Derived.Shelf.LaysM
import Derived.Shelf.Strings.Replace
import Derived.Shelf.Strings.Repeat
namespace Go.Proofs.YtkacnpgokghhcaaGreatDoor
open Go.RowKit Go.Shelf Go.Joins

theorem gPow : Tryz.prog.globalNamed "internal/strconv.uint64pow10" = some 3 := by kernel_rfl
theorem gPowType : (Tryz.prog.globals[3]?).map (·.type) = some 117 := by kernel_rfl
theorem gSyn : Tryz.prog.globalNamed "strconv.ErrSyntax" = some 6 := by kernel_rfl
theorem gSynType : (Tryz.prog.globals[6]?).map (·.type) = some 56 := by kernel_rfl
theorem gRan : Tryz.prog.globalNamed "strconv.ErrRange" = some 7 := by kernel_rfl
theorem gRanType : (Tryz.prog.globals[7]?).map (·.type) = some 56 := by kernel_rfl
theorem starES : "*" ++ "errors.errorString" = "*errors.errorString" := by decide
theorem rowES (u : TypeId) (h : Tryz.prog.typeName? 3 u = some "*errors.errorString") : u = 149 :=
  typeName_ptr_named (nm := "errors.errorString") (by rw [starES]; kernel_rfl) (by kernel_rfl) (by decide) u (by rw [starES]; exact h)
/-- what the calls read of the library's own variables -/
structure EnvX (w : World) : Prop where
  tabs : Tabs w
  pow : Lib.TabIs Tryz.prog w "internal/strconv.uint64pow10" .u64 Lib.pow10Tab
  syn : ∃ tp p, w.var? Tryz.prog "strconv.ErrSyntax" = some #[.iface tp p]
  ran : ∃ tp p, w.var? Tryz.prog "strconv.ErrRange" = some #[.iface tp p]
theorem EnvX.keep {w w' : World} (h : EnvX w) (hb : Below w.heap.size w w') : EnvX w' :=
  ⟨tabs_keep w w' h.tabs hb, tab_stays gPow h.pow hb (Nat.le_refl _),
   h.syn.elim fun tp q => q.elim fun p e => ⟨tp, p, var_stays gSyn e hb (Nat.le_refl _)⟩,
   h.ran.elim fun tp q => q.elim fun p e => ⟨tp, p, var_stays gRan e hb (Nat.le_refl _)⟩⟩
theorem env_f {W0 : World} (hE : EnvX W0) : FSaid (AT W0) := fun n w h0 h1 h => (Any.strconv_FormatInt_10 Tryz.laysM173 n h0 h1 w (hE.keep h).pow).mono (by
  rintro e w' ⟨rfl, k, os, rfl⟩
  exact ⟨rfl, Lib.below_grow _ w (Nat.le_refl _) k os⟩)
theorem env_p {W0 : World} (hE : EnvX W0) : PSaid (AT W0) := fun s w hs h => by
  cases hp : Lib.parseIntB 64 s.data.toList
  · rename_i v
    refine (Any.strconv_ParseInt_10_at64_ok Tryz.laysC174 s (by omega) v hp w).mono ?_
    rintro e w' ⟨rfl, hw⟩
    refine ⟨⟨fun v' h' => ?_, fun hn => absurd hp (hn v)⟩, ?_⟩
    · rw [hp] at h'; cases h'; rfl
    · rcases hw with rfl | ⟨t, rfl⟩
      · exact Below.refl _ _
      · exact below_bytesWorld _ _ _ _ (Nat.le_refl _)
  · obtain ⟨tp, p, hv⟩ := (hE.keep h).syn
    refine (Any.strconv_ParseInt_10_at64_syntax_var Tryz.laysC174 s hs hp tp p w hv).mono ?_
    rintro e w' ⟨N, rfl, _, _, hb⟩
    exact ⟨⟨fun v' h' => (by rw [hp] at h'; cases h'), fun _ => ⟨_, N, rfl⟩⟩, hb⟩
  · obtain ⟨tp, p, hv⟩ := (hE.keep h).ran
    refine (Any.strconv_ParseInt_10_at64_range_var Tryz.laysC174 s hs hp tp p w hv).mono ?_
    rintro e w' ⟨N, rfl, _, _, hb⟩
    exact ⟨⟨fun v' h' => (by rw [hp] at h'; cases h'), fun _ => ⟨_, N, rfl⟩⟩, hb⟩
theorem env_tk {W0 : World} (hE : EnvX W0) : TK (AT W0) W0.heap.size :=
  ⟨at_v hE.tabs, fun s w hs hT => read_any (AT W0) (at_v hE.tabs) (env_f hE) (env_p hE) at_k s w hs hT, at_k, at_k2, at_0⟩
/- plain -/
theorem psX_ok (L : List UInt8) (x : Ex) (h : psX L = .ok x) : L.length ≤ 2000 ∧ rdX rdZ (2 * L.length + 3) (some 1) (skB L) = .ok (x, []) ∧ chkX x = 0 := by
  unfold psX at h
  split at h
  · cases h
  rename_i hL
  split at h
  · cases h
  rename_i x' r hT
  split at h
  · rename_i hr
    split at h
    · rename_i hc
      injection h with h
      subst h hr
      exact ⟨by omega, hT, hc⟩
    · cases h
  · cases h
theorem psX_of (L : List UInt8) (x : Ex) (hL : L.length ≤ 2000) (h : rdX rdZ (2 * L.length + 3) (some 1) (skB L) = .ok (x, [])) (hc : chkX x = 0) : psX L = .ok x := by
  unfold psX
  rw [if_neg (by omega), h]
  simp only
  rw [if_pos trivial, if_pos hc]
theorem psX_code (L : List UInt8) (c : Int) (a : Nat) (h : psX L = .error (c, a)) : c ≠ 0 := by
  unfold psX at h
  split at h
  · injection h with h; injection h with h1 _; omega
  split at h
  · rename_i c' r hx
    injection h with h; injection h with h1 _
    rintro rfl
    subst h1
    have hs := skB_len L
    exact (rdX_nf rdZ (2 * L.length + 3)).2 1 (skB L) (by decide) (by omega) r hx
  split at h
  · split at h
    · cases h
    · rename_i hc
      injection h with h; injection h with h1 _; rw [← h1]; exact hc
  · injection h with h; injection h with h1 _; omega
theorem psX_large (L : List UInt8) (h : 2000 < L.length) : psX L = .error (2, 0) := by unfold psX; rw [if_pos h]
theorem parseX_ok {W0 : World} (H : TK (AT W0) W0.heap.size) (s : ByteArray) (x : Ex) (h : psX s.data.toList = .ok x) (w : World) (hT : AT W0 w) :
    Calls Tryz.prog 6 #[.string s] w fun e w' => (∃ d ao cap, e = .returned (.tuple #[.agg #[.int .i64 x.kind, .string x.name, .int .i64 x.so, .int .i64 x.n, .string x.s, .slice ao x.kids.length cap], .agg #[.int .i64 0, .int .i64 0]]) ∧ GE w w' d x ao cap) ∧ Below w.heap.size w w' := by
  have c := parseX_any H s w hT
  rw [h] at c
  exact c
theorem parseX_err {W0 : World} (H : TK (AT W0) W0.heap.size) (s : ByteArray) (c : Int) (a : Nat) (h : psX s.data.toList = .error (c, a)) (w : World) (hT : AT W0 w) :
    Calls Tryz.prog 6 #[.string s] w fun e w' => e = .returned (.tuple #[.agg #[.int .i64 0, .string ⟨#[]⟩, .int .i64 0, .int .i64 0, .string ⟨#[]⟩, .slice none 0 0], .agg #[.int .i64 c, .int .i64 (a : Int)]]) ∧ Below w.heap.size w w' := by
  have cc := parseX_any H s w hT
  rw [h] at cc
  exact cc
theorem KA.more {W : World} {B : Nat} : ∀ {d : Nat} {ks : List Ex} {ao : Option Addr} (k : Nat), KA W B d ks ao → KA W B (d + k) ks ao
  | 0, ks, ao, k, h => by
    have h' : ks = [] := h
    cases k with
    | zero => exact h'
    | succ k => rw [Nat.zero_add]; exact .inl h'
  | d + 1, ks, ao, k, h => by
    rw [Nat.add_right_comm]
    rcases h with h | ⟨b, o, h1, h2, h3⟩
    · exact .inl h
    · refine .inr ⟨b, o, h1, h2, fun i hi => ?_⟩
      obtain ⟨ao', cap', e, f, g⟩ := h3 i hi
      exact ⟨ao', cap', e, f, KA.more k g⟩
/-- SameExpr of one expression that lies twice -/
theorem sameX (x : Ex) (d d2 : Nat) (ao ao2 : Option Addr) (cap cap2 B : Nat) (w : World) (h1 : ExBd x cap) (h2 : ExBd x cap2) (k1 : KA w B d x.kids ao) (k2 : KA w B d2 x.kids ao2) (hB : B ≤ w.heap.size) :
    Calls Tryz.prog 7 #[.agg #[.int .i64 x.kind, .string x.name, .int .i64 x.so, .int .i64 x.n, .string x.s, .slice ao x.kids.length cap], .agg #[.int .i64 x.kind, .string x.name, .int .i64 x.so, .int .i64 x.n, .string x.s, .slice ao2 x.kids.length cap2]] w fun e w' => e = .returned (.bool true) ∧ Below w.heap.size w w' := by
  have a1 := k1.more d2
  have a2 := k2.more d
  rw [Nat.add_comm] at a2
  exact same_any (d + d2) x ao ao2 cap cap2 B w h1 h2 a1 a2 hB
end Go.Proofs.YtkacnpgokghhcaaGreatDoor
/-
  Repeat and ReplaceAll of the library at this program. Conditions: none.
-/
namespace Go.Proofs
open Go.Shelf
def Tryz.lays105_ren : Go.Shelf.Ren := ⟨fun | 105 => 9 | 212 => 17 | 99 => 18 | 165 => 19 | 166 => 20 | 170 => 21 | 169 => 22 | 263 => 36 | 264 => 37 | 206 => 38 | 240 => 39 | 241 => 40 | 276 => 55 | 277 => 56 | n => n, fun | 9 => 9 | 3 => 3 | 4 => 4 | 20 => 20 | 0 => 0 | 46 => 46 | 109 => 47 | 5 => 5 | 72 => 53 | 76 => 57 | 51 => 72 | 146 => 73 | 53 => 75 | 148 => 76 | 70 => 50 | 37 => 51 | 75 => 56 | 127 => 78 | 164 => 87 | 80 => 60 | n => n, fun | n => n⟩
theorem Tryz.lays105 : Go.Proofs.Lays.n105 Tryz.prog Tryz.lays105_ren := {
  mixed := by kernel_rfl
  f99 := Tryz.func18.trans (congrArg some (by kernel_rfl))
  f105 := Tryz.func9.trans (congrArg some (by kernel_rfl))
  f165 := Tryz.func19.trans (congrArg some (by kernel_rfl))
  f166 := Tryz.func20.trans (congrArg some (by kernel_rfl))
  f169 := Tryz.func22.trans (congrArg some (by kernel_rfl))
  f170 := Tryz.func21.trans (congrArg some (by kernel_rfl))
  f206 := Tryz.func38.trans (congrArg some (by kernel_rfl))
  f212 := Tryz.func17.trans (congrArg some (by kernel_rfl))
  f240 := Tryz.func39.trans (congrArg some (by kernel_rfl))
  f241 := Tryz.func40.trans (congrArg some (by kernel_rfl))
  f263 := Tryz.func36.trans (congrArg some (by kernel_rfl))
  f264 := Tryz.func37.trans (congrArg some (by kernel_rfl))
  f276 := Tryz.func55.trans (congrArg some (by kernel_rfl))
  f277 := Tryz.func56.trans (congrArg some (by kernel_rfl))
  t0 := Tryz.underlying0
  a0 := Tryz.isAgg0
  z0 := Tryz.sizeOf0
  v0 := Tryz.zeroValue0
  t3 := Tryz.underlying3
  a3 := Tryz.isAgg3
  z3 := Tryz.sizeOf3
  v3 := Tryz.zeroValue3
  t4 := Tryz.underlying4
  a4 := Tryz.isAgg4
  z4 := Tryz.sizeOf4
  v4 := Tryz.zeroValue4
  t5 := Tryz.underlying5
  a5 := Tryz.isAgg5
  z5 := Tryz.sizeOf5
  v5 := Tryz.zeroValue5
  t9 := Tryz.underlying9
  a9 := Tryz.isAgg9
  z9 := Tryz.sizeOf9
  v9 := Tryz.zeroValue9
  t20 := Tryz.underlying20
  a20 := Tryz.isAgg20
  z20 := Tryz.sizeOf20
  v20 := Tryz.zeroValue20
  t37 := Tryz.underlying51
  a37 := Tryz.isAgg51
  z37 := Tryz.sizeOf51
  v37 := Tryz.zeroValue51
  t46 := Tryz.underlying46
  a46 := Tryz.isAgg46
  z46 := Tryz.sizeOf46
  v46 := Tryz.zeroValue46
  t51 := Tryz.underlying72
  a51 := Tryz.isAgg72
  z51 := Tryz.sizeOf72
  v51 := Tryz.zeroValue72
  t53 := Tryz.underlying75
  a53 := Tryz.isAgg75
  z53 := Tryz.sizeOf75
  v53 := Tryz.zeroValue75
  t70 := Tryz.underlying50
  a70 := Tryz.isAgg50
  z70 := Tryz.sizeOf50
  v70 := Tryz.zeroValue50
  t72 := Tryz.underlying53
  a72 := Tryz.isAgg53
  z72 := Tryz.sizeOf53
  v72 := Tryz.zeroValue53
  t75 := Tryz.underlying56
  a75 := Tryz.isAgg56
  z75 := Tryz.sizeOf56
  v75 := Tryz.zeroValue56
  t76 := Tryz.underlying57
  a76 := Tryz.isAgg57
  z76 := Tryz.sizeOf57
  v76 := Tryz.zeroValue57
  t109 := Tryz.underlying47
  a109 := Tryz.isAgg47
  z109 := Tryz.sizeOf47
  v109 := Tryz.zeroValue47
  t127 := Tryz.underlying78
  a127 := Tryz.isAgg78
  z127 := Tryz.sizeOf78
  v127 := Tryz.zeroValue78
  t146 := Tryz.underlying73
  a146 := Tryz.isAgg73
  z146 := Tryz.sizeOf73
  v146 := Tryz.zeroValue73
  t148 := Tryz.underlying76
  a148 := Tryz.isAgg76
  z148 := Tryz.sizeOf76
  v148 := Tryz.zeroValue76
  t164 := Tryz.underlying87
  a164 := Tryz.isAgg87
  z164 := Tryz.sizeOf87
  v164 := Tryz.zeroValue87 }
end Go.Proofs
