/-
  duetkeep.ExprsPut returns true and leaves its arguments as they were, for every expression, every name, every value and every environment, where utf8.first and utf8.acceptRanges hold what the program's text lays (the card ties them to it). Conditions: none beside the card's own.
-/
import Derived.Test.YtclbillfffpknaaGreatDoorPh
import Derived.Test.YtclbillfffpknaaGreatDoorXs
import Derived.Test.YtclbillfffpknaaGreatDoorTie
import Derived.Test.YtclbillfffpknaaGreatDoorCards
import Derived.Carry
namespace Go.Proofs.YtclbillfffpknaaGreatDoor
open Go.RowKit Go.Shelf Go.Lib Go.Joins
open Go.ChangeShapes Go.WideShapes Go.ChangeAt
open Go.ChangeMaps (open_string shut_string)

theorem bytesBd : Tryz.prog.bytesOf 40 = 48 := by kernel_rfl
theorem laidOut : laidOutB Tryz.prog = true := by kernel_rfl

set_option maxRecDepth 100000 in
set_option maxHeartbeats 1000000 in
theorem exprsPut_lifted (os : Os) (started : os.Started) (H : Type) (enc : TypeId × Value → H) :
    ReturnsInHanded {} Tryz.checked os 3 .any (fun w args => (Rows.exprsPutSpec.pre enc Tryz.prog Tryz.f3 [] false w args ∧ laidMetH Tryz.prog Rows.exprsPutRow.laid w) ∧ sizedMet enc Tryz.prog Tryz.f3 (OpenSpec.ofChange Rows.exprsPutSpec) false w args)
      (Rows.exprsPutSpec.post enc Tryz.prog Tryz.f3 false true false false) := by
  refine returnsInHanded_of_change_and (C := Tryz.checked) (X := fun w _ => laidMetH Tryz.prog Rows.exprsPutRow.laid w) (fun _ _ _ hh h => h.of_heap hh) own started (by kernel_rfl) Tryz.func3
    (ChangeSpec.witness_shaped (enc := enc) (C := Tryz.checked) (os := os) (X := fun w _ => laidMetH Tryz.prog Rows.exprsPutRow.laid w) false (World.laidAll Tryz.prog os Rows.exprsPutRow.laid)
      #[.agg #[.int .i64 0, .string ⟨#[]⟩, .int .i64 0, .int .i64 0, .string ⟨#[]⟩, .slice none 0 0], .string ⟨#[]⟩, .agg #[.int .i64 0, .int .i64 0, .string ⟨#[]⟩], .slice none 0 0] 8 (World.laidAll_os _ _ _)
      (World.shaped_of_ZipB (by kernel_rfl) (by kernel_rfl)) (by kernel_rfl) (by kernel_rfl) (by kernel_rfl)
      (by rw [MakeChecks.laidMetH_plain _ _ _ (by kernel_rfl)]; exact laidMet_laidAll _ (by kernel_rfl) (by kernel_rfl))) ?_
  intro W base args ds gs before hval0 hW _ hsz hL _
  have hval : ∀ (j : Nat) t v, Tryz.f3.params[j]? = some t → args[j]? = some v → Value.okWide Tryz.prog W .any base t v := hval0
  have hW' := hW
  obtain ⟨p, q, hA0, hV, rfl, _, _⟩ := hW
  have hA : DataW.TrodAll enc Tryz.prog W 0 (fun _ => true) true Tryz.f3.params.toList args.toList ds p := hA0
  rw [Tryz.params3] at hA hval
  obtain ⟨v0, v2, v3, v1, d0, d2, d3, d1, p0, p2, p3, p1, rfl, rfl, rfl, h0, h2, h3, h1⟩ := trodAll_four hA
  obtain ⟨rfl, rfl⟩ := trodVars_none hV
  obtain ⟨x, ao, cap, dp, rfl, hbd, hka⟩ := openExpr (hval 0 26 v0 rfl rfl) h0
  obtain ⟨bs, ae, ce, rfl, henv, hss, hdl⟩ := openEnv (hval 3 27 v1 rfl rfl) h1
  obtain ⟨nm, rfl, rfl, rfl, wz⟩ := open_string Tryz.underlying9 (hval 1 9 v2 rfl rfl) h2
  obtain ⟨so, nn, s, rfl, rfl, rfl, wa, wb, ws⟩ := openValue (hval 2 23 v3 rfl rfl) h3
  have wb1 := bounds_i64 wb
  have ws1 := ws
  unfold maxLen at ws1
  clear hA0 hV hval0
  rw [MakeChecks.laidMetH_plain _ _ _ (by kernel_rfl)] at hL
  have hT : Tabs W := utf8Tabs_of_readsT (U8Types.of196 Tryz.lays196) ⟨by kernel_rfl, by kernel_rfl, by kernel_rfl, by kernel_rfl, by kernel_rfl, by kernel_rfl, by kernel_rfl⟩
    (Pinned.utf8First_eq ▸ Lib.laidMet.reads hL (.tail _ (.head _))) (acc_eq ▸ Lib.laidMet.reads hL (.head _))
  have hlen : bs.length ≤ 2932031007400 := by
    rcases hdl with rfl | ⟨elems, rest, rfl, he⟩
    · simp
    · have hk : (elems.length + rest.length) * Tryz.prog.bytesOf 40 ≤ reachBytes := sized_slice hsz (j := 3) (t := 27) (e := 40) rfl rfl Tryz.underlying27
      rw [bytesBd] at hk
      unfold reachBytes at hk
      omega
  refine (putLaw_any dp x ao cap nm ⟨so, nn, s⟩ bs ae ce W hbd hka (henv (by omega)) hlen hss wb1.1 wb1.2 ws1 hT).mono fun e W' ⟨he, hb⟩ => ?_
  subst he
  have l0 : ∀ z ∈ p0, z.block < W.heap.size := fun z hz => by simpa using hW'.lt z (by simp [hz])
  have l1 : ∀ z ∈ p1, z.block < W.heap.size := fun z hz => by simpa using hW'.lt z (by simp [hz])
  exact ⟨_, rfl, _, _, _, [], p0 ++ ([] ++ ([] ++ p1)), [], hW', trodAll_mk1 (shut_bool Tryz.underlying4 _), trodAll_mk4 (Below.trod laidOut (by kernel_rfl) (of_decide_eq_true (by kernel_rfl)) h0 hb l0) (shut_string Tryz.underlying9 wz) (shutValue wa wb ws) (Below.trod laidOut (by kernel_rfl) (of_decide_eq_true (by kernel_rfl)) h1 hb l1), rfl, hb.frame _, fun h => by cases h⟩

theorem exprsPut_row : Rows.ExprsPutSaid :=
  OpenClaim.holds_of_wide 3 Tryz.f3 rfl rfl rfl rfl rfl rfl rfl ⟨rfl, rfl, rfl, rfl, rfl⟩ rfl rfl rfl rfl rfl (by kernel_rfl) Tryz.func3 (by kernel_rfl)
    (of_decide_eq_true (by kernel_rfl)) (by unfold Func.isWrapper; rw [if_neg (of_decide_eq_false (by kernel_rfl))]; exact ⟨rfl, rfl⟩)
    (fun os started H enc _ => exprsPut_lifted os started H enc)

theorem exprsPut_holds : Rows.ExprsPutCardSaid :=
  Claim7.holds_tied_plain_at .later [] [.data, .pinned] true (true, "4862b3cea8ee9f362ec218668ee7c49634b4ac7c0495e8da556d0afdf3a6cbbf") false exprsPut_row (fun _ h => by cases h) (by kernel_rfl) (fun _ h => by cases h) exprsPut_row_tie rfl ⟨rfl, rfl⟩ (by kernel_rfl) rfl
    (fun f fn hf hfn => by
      obtain rfl : f = 3 := Option.some.inj ((show Tryz.prog.funcNamed Rows.exprsPutRow.func = some 3 by kernel_rfl).symm.trans hf) |>.symm
      obtain rfl : fn = Tryz.f3 := (Option.some.inj (Tryz.func3.symm.trans hfn)).symm
      exact ⟨by kernel_rfl, fun j t ht => by
        rw [Tryz.params3] at ht
        have hm : t ∈ [26, 9, 23, 27] := by simpa using Array.mem_of_getElem? ht
        have hall : ([26, 9, 23, 27].all fun u => !Tryz.prog.wantsStandIn u) = true := by kernel_rfl
        exact (show Tryz.prog.wantsStandIn t = false by simpa using List.all_eq_true.1 hall t hm)⟩)
    (by kernel_rfl)
#print axioms exprsPut_holds
end Go.Proofs.YtclbillfffpknaaGreatDoor
