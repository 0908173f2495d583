/-
  duetkeep.ExprsFree returns true and leaves its arguments as they were, for every expression and every two environments that are together of bulk at most 1048576 (the second form), where utf8.first and utf8.acceptRanges hold what the program's text lays (the card ties them to it). Conditions: none beside these.
-/
import Derived.Test.YtclbillfffpknaaGreatDoorFc
import Derived.Test.YtclbillfffpknaaGreatDoorXs
import Derived.Test.YtclbillfffpknaaGreatDoorTie
import Derived.Test.YtclbillfffpknaaGreatDoorCards
import Derived.OpenShut
import Derived.Deep.DeepHandedRow
namespace Go.Proofs.YtclbillfffpknaaGreatDoor
open Go.RowKit Go.Shelf Go.Lib Go.Joins
open Go.ChangeShapes Go.WideShapes Go.ChangeAt

theorem laidOut : laidOutB Tryz.prog = true := by kernel_rfl
section
variable {H : Type} {enc : TypeId × Value → H} {W : World} {base : Nat} {spare : Nat → Bool} {held : Bool}
theorem envShape {ae : Option Addr} {n ce : Nat} {d : DataW H} {p : List MemPlace} (h : DataW.Trod enc Tryz.prog W base spare held 27 (.slice ae n ce) d p) : (ae = none → ce = 0) ∧ n ≤ ce := by
  obtain ⟨fuel, hf⟩ := h
  rcases DataW.trod_slice Tryz.underlying27 hf with ⟨e5, _⟩ | ⟨a, len', cap', elems, rest, k, hk, e5, hx, hb, hlc, hcm, hle, hel, _, _⟩
  · simp [Value.cells] at e5
    obtain ⟨rfl, rfl, rfl⟩ := e5
    exact ⟨fun _ => rfl, Nat.le_refl _⟩
  · simp [Value.cells] at e5
    obtain ⟨rfl, rfl, rfl⟩ := e5
    exact ⟨fun h => (by cases h), hlc⟩
end
theorem bulk_len {H : Type} (l : List (DataW H)) : l.length ≤ Rows.uptoBulkAll l := by
  induction l with
  | nil => simp [Rows.uptoBulkAll]
  | cons x r ih =>
    have h1 : 1 ≤ Rows.uptoBulk x := by
      cases x with
      | lit l => cases l <;> simp [Rows.uptoBulk]
      | nil => simp [Rows.uptoBulk]
      | ptr d => simp [Rows.uptoBulk]
      | slice elems spare => simp [Rows.uptoBulk]
      | agg parts => simp [Rows.uptoBulk]
      | iface t d => simp [Rows.uptoBulk]
      | map entries => simp [Rows.uptoBulk]
      | held h => simp [Rows.uptoBulk]
    simp only [Rows.uptoBulkAll, List.length_cons]; omega
theorem bulk_env {H : Type} {bs : List (ByteArray × Vl)} {d : DataW H} (h : bs = [] ∨ ∃ elems rest, d = .slice elems rest ∧ elems.length = bs.length) (hk : Rows.uptoBulk d ≤ 1048576) : bs.length ≤ 1048576 := by
  rcases h with rfl | ⟨elems, rest, rfl, he⟩
  · simp
  · have := bulk_len elems
    simp only [Rows.uptoBulk] at hk
    omega

def freeArgs : Array Value := #[.agg #[.int .i64 0, .string ⟨#[]⟩, .int .i64 0, .int .i64 0, .string ⟨#[]⟩, .slice none 0 0], .slice none 0 0, .slice none 0 0]
theorem free_reads (os : Os) {H : Type} (enc : TypeId × Value → H) : ∃ places, DataW.whole enc Tryz.prog ((World.laidAll Tryz.prog os Rows.exprsFreeUptoRow.laid).forCall (fun _ _ => 0) ⟨#[], freeArgs, []⟩).memory Tryz.f4.params.toList Rows.exprsFreeSpec.vars false freeArgs.toList 8 = some ([.agg [.lit (.int .i64 0), .lit (.string []), .agg [.lit (.int .i64 0), .lit (.int .i64 0), .lit (.string [])], .nil], .nil, .nil], [], places) :=
  ⟨[], by kernel_rfl⟩

set_option maxRecDepth 100000 in
set_option maxHeartbeats 1000000 in
theorem exprsFree_lifted (os : Os) (started : os.Started) (H : Type) (enc : TypeId × Value → H) (F : Stop.Interp) :
    ReturnsInHanded {} Tryz.checked os 4 .any ((Rows.OpenSpec.upto Rows.exprsFreeSpec).preRow enc Tryz.prog Tryz.f4 Rows.exprsFreeUptoRow.domain false Rows.exprsFreeUptoRow.laid)
      (((Rows.OpenSpec.upto Rows.exprsFreeSpec).at F).post enc Tryz.prog Tryz.f4 false true false false) := by
  obtain ⟨places, hx⟩ := free_reads os enc
  have hok : Input.okWideB Tryz.prog ((World.laidAll Tryz.prog os Rows.exprsFreeUptoRow.laid).forCall (fun _ _ => 0) ⟨#[], freeArgs, []⟩) 4 ⟨#[], freeArgs, []⟩ = true := by kernel_rfl
  refine returnsInHanded_of_row (C := Tryz.checked) (s := Rows.OpenSpec.upto Rows.exprsFreeSpec) own started (by kernel_rfl) Tryz.func4
    ⟨(World.laidAll Tryz.prog os Rows.exprsFreeUptoRow.laid), fun _ _ => 0, ⟨#[], freeArgs, []⟩, World.laidAll_os _ _ _, World.shaped_of_ZipB (by kernel_rfl) (by kernel_rfl), (Input.okWide_of_okWideB (base := 0) hok).1, (Input.okWide_of_okWideB hok).2,
      OpenSpec.preRow_of_cond 8 hx (by kernel_rfl) (fun k hk => by cases hk; kernel_rfl) (by kernel_rfl)
        (by rw [MakeChecks.laidMetH_plain _ _ _ (by kernel_rfl)]; exact laidMet_laidAll _ (by kernel_rfl) (by kernel_rfl)), by
      simp only [Assume.holds]
      exact ⟨by simp, by simp, fun _ => Modest.zero, by simp, by simp⟩⟩ ?_
  intro W base args ds gs before hval0 hW _ hcond _ hL _ _
  have hval : ∀ (j : Nat) t v, Tryz.f4.params[j]? = some t → args[j]? = some v → Value.okWide Tryz.prog W .any base t v := hval0
  have hW' := hW
  obtain ⟨p, q, hA0, hV, rfl, _, _⟩ := hW
  have hA : DataW.TrodAll enc Tryz.prog W 0 (fun _ => true) true Tryz.f4.params.toList args.toList ds p := hA0
  rw [Tryz.params4] at hA hval
  obtain ⟨v0, v1, v2, d0, d1, d2, p0, p1, p2, rfl, rfl, rfl, h0, h1, h2⟩ := trodAll_three hA
  obtain ⟨rfl, rfl⟩ := trodVars_none hV
  obtain ⟨x, ao, cap, dp, rfl, hbd, hka⟩ := openExpr (hval 0 26 v0 rfl rfl) h0
  obtain ⟨env, ae, ce, rfl, henv, hs1, hd1⟩ := openEnv (hval 1 27 v1 rfl rfl) h1
  obtain ⟨oth, af, cf, rfl, hoth, hs2, hd2⟩ := openEnv (hval 2 27 v2 rfl rfl) h2
  have sh1 := envShape h1
  have sh2 := envShape h2
  clear hA0 hV hval0
  rw [MakeChecks.laidMetH_plain _ _ _ (by kernel_rfl)] at hL
  have hT : Tabs W := utf8Tabs_of_readsT (U8Types.of196 Tryz.lays196) ⟨by kernel_rfl, by kernel_rfl, by kernel_rfl, by kernel_rfl, by kernel_rfl, by kernel_rfl, by kernel_rfl⟩
    (Pinned.utf8First_eq ▸ Lib.laidMet.reads hL (.tail _ (.head _))) (acc_eq ▸ Lib.laidMet.reads hL (.head _))
  have hbk := of_decide_eq_true (hcond _ rfl)
  simp only [List.append_nil, Rows.uptoBulkAll] at hbk
  have hl1 := bulk_env hd1 (by omega)
  have hl2 := bulk_env hd2 (by omega)
  clear hbk hcond
  refine (freeLaw_any dp x ao cap env oth ae af ce cf W hbd hka (henv (by omega)) (hoth (by omega)) sh1.1 sh1.2 sh2.1 (by omega) (by omega) hs1 hs2 hT).mono fun e W' ⟨he, hb⟩ => ?_
  subst he
  have l0 : ∀ z ∈ p0, z.block < W.heap.size := fun z hz => by simpa using hW'.lt z (by simp [hz])
  have l1 : ∀ z ∈ p1, z.block < W.heap.size := fun z hz => by simpa using hW'.lt z (by simp [hz])
  have l2 : ∀ z ∈ p2, z.block < W.heap.size := fun z hz => by simpa using hW'.lt z (by simp [hz])
  exact ⟨_, rfl, _, _, _, [], p0 ++ (p1 ++ p2), [], hW', trodAll_mk1 (shut_bool Tryz.underlying4 _), trodAll_mk3 (Below.trod laidOut (by kernel_rfl) (of_decide_eq_true (by kernel_rfl)) h0 hb l0) (Below.trod laidOut (by kernel_rfl) (of_decide_eq_true (by kernel_rfl)) h1 hb l1) (Below.trod laidOut (by kernel_rfl) (of_decide_eq_true (by kernel_rfl)) h2 hb l2), rfl, hb.frame _, fun h => by cases h⟩

theorem exprsFree_row : Rows.ExprsFreeUptoSaid :=
  OpenClaim.holds_of_cond 4 Tryz.f4 rfl rfl rfl rfl rfl rfl rfl ⟨rfl, rfl, rfl, rfl, rfl⟩ rfl rfl rfl rfl rfl (by kernel_rfl) Tryz.func4 (by kernel_rfl)
    (of_decide_eq_true (by kernel_rfl)) (by unfold Func.isWrapper; rw [if_neg (of_decide_eq_false (by kernel_rfl))]; exact ⟨rfl, rfl⟩)
    (fun os started H enc _ F => by rw [OpenClaim.pre_eq_preRow]; exact exprsFree_lifted os started H enc F)

theorem exprsFree_holds : Rows.ExprsFreeUptoCardSaid :=
  Claim7.holds_tied_plain_at .later [] _ _ _ _ exprsFree_row (fun _ h => by cases h) (by kernel_rfl) (fun _ h => by cases h) exprsFreeUpto_row_tie rfl ⟨rfl, rfl⟩ (by kernel_rfl) rfl
    (fun f fn hf hfn => by
      obtain rfl : f = 4 := Option.some.inj ((show Tryz.prog.funcNamed Rows.exprsFreeUptoRow.func = some 4 by kernel_rfl).symm.trans hf) |>.symm
      obtain rfl : fn = Tryz.f4 := (Option.some.inj (Tryz.func4.symm.trans hfn)).symm
      exact ⟨by kernel_rfl, fun j t ht => by
        rw [Tryz.params4] at ht
        have hm : t ∈ [26, 27, 27] := by simpa using Array.mem_of_getElem? ht
        have hall : ([26, 27, 27].all fun u => !Tryz.prog.wantsStandIn u) = true := by kernel_rfl
        exact (show Tryz.prog.wantsStandIn t = false by simpa using List.all_eq_true.1 hall t hm)⟩)
    (by kernel_rfl)
#print axioms exprsFree_holds
end Go.Proofs.YtclbillfffpknaaGreatDoor
