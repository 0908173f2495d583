/-
  The law of duetkeep.BelowDual: whatever types are handed in it answers true.
-/
import Derived.Test.YtoieacgojkgjgaaDoorJe
import Derived.Test.YtoieacgojkgjgaaDoorIq
import Derived.Test.YtoieacgojkgjgaaDoorTie
import Derived.Test.YtoieacgojkgjgaaDoorCards
import Derived.ProofKit
import Derived.Lib.SmallJoins
import Derived.Lib.LaidU8T
import Derived.Lib.LaidIn
import Derived.PinnedBridge
import Derived.Lay
import Derived.SevenTiedAt
import Derived.OpenShut
namespace Go.Proofs.YtoieacgojkgjgaaDoor
open Go.RowKit Go.Shelf

/-- two types in boxes -/
structure BXD (w : World) (s : Ty) (sal : Option Addr) (scl : Nat) (sak : Option Addr) (sck : Nat) (t : Ty) (al : Option Addr) (cl : Nat) (ak : Option Addr) (ck : Nat) (W : World) : Prop where
  x : TyAt W w.heap.size 0 s sal scl sak sck
  y : TyAt W (w.heap.size + 1) 0 t al cl ak ck
  lt : w.heap.size + 1 < W.heap.size
  bl : Below w.heap.size w W
theorem BXD.keep {w : World} {s : Ty} {sal : Option Addr} {scl : Nat} {sak : Option Addr} {sck : Nat} {t : Ty} {al : Option Addr} {cl : Nat} {ak : Option Addr} {ck : Nat} {W W' : World} (h : BXD w s sal scl sak sck t al cl ak ck W) (hb : Below W.heap.size W W') : BXD w s sal scl sak sck t al cl ak ck W' :=
  ⟨h.x.keep hb (by have := h.lt; omega), h.y.keep hb h.lt, Nat.lt_of_lt_of_le h.lt hb.size, h.bl.trans (hb.mono h.bl.size)⟩
theorem BXD.new (w : World) (s : Ty) (sal : Option Addr) (scl : Nat) (sak : Option Addr) (sck : Nat) (t : Ty) (al : Option Addr) (cl : Nat) (ak : Option Addr) (ck : Nat) : BXD w s sal scl sak sck t al cl ak ck ((w.alloc (.cells #[.int .i64 s.kind, .int .i64 s.so, .string s.name, .slice sal s.labels.length scl, .slice sak s.kids.length sck] 25)).alloc (.cells #[.int .i64 t.kind, .int .i64 t.so, .string t.name, .slice al t.labels.length cl, .slice ak t.kids.length ck] 25)) :=
  ⟨⟨by go_cell, by go_cell, by go_cell, by go_cell, by go_cell⟩, ⟨by go_cell, by go_cell, by go_cell, by go_cell, by go_cell⟩, by simp, (((Below.refl _ _).alloc (Nat.le_refl _) _).alloc (by simp) _)⟩
theorem dofGood {t : Ty} {w : World} {g : List Nd} (hg : OFG t g) {args : Array Value} (c : Calls Tryd.prog 19 args w (DOPost t w)) : Calls Tryd.prog 19 args w fun e w' => (∃ c, CLS (othG g) c ∧ ∃ ao co, e = .returned (.tuple #[.slice ao (leastG (othG g) c).length co, .int .i64 0]) ∧ GAt w' w'.heap.size (leastG (othG g) c) ao) ∧ Below w.heap.size w w' := by
  refine c.mono ?_
  rintro e w' ⟨hq | hq, hb⟩
  · exact absurd hg.chk hq.1
  · obtain ⟨g', hg', hr⟩ := hq
    obtain rfl := hg.uniq hg'
    exact ⟨hr, hb⟩
set_option maxRecDepth 100000 in
set_option maxHeartbeats 16000000 in
theorem belowDual_law (ds dt : Nat) (s t : Ty) (sal : Option Addr) (scl : Nat) (sak : Option Addr) (sck : Nat) (al : Option Addr) (cl : Nat) (ak : Option Addr) (ck : Nat) (w : World) (hs1 : TyBd s scl sck) (hs2 : LA w w.heap.size s.labels sal) (hs3 : KT w w.heap.size ds s.kids sak) (ht1 : TyBd t cl ck) (ht2 : LA w w.heap.size t.labels al) (ht3 : KT w w.heap.size dt t.kids ak) :
    Calls Tryd.prog 8 #[tyVal s sal scl sak sck, tyVal t al cl ak ck] w fun e w' => e = .returned (.bool true) ∧ Below w.heap.size w w' := by
  have Q0 := hideK (BXD.new w s sal scl sak sck t al cl ak ck)
  obtain ⟨x0, x1, x2, x3, x4⟩ := Q0.out.x
  obtain ⟨y0, y1, y2, y3, y4⟩ := Q0.out.y
  simp only [Nat.zero_add] at x1 x2 x3 x4 y1 y2 y3 y4
  have CE := hideK (fun (W : World) (_ : Below w.heap.size w W) => isEnd W)
  by_cases hz : chkTy s = 0 ∧ chkTy t = 0
  · obtain ⟨hzs, hzt⟩ := hz
    obtain ⟨g, hg⟩ := OFG_ex hzs
    obtain ⟨h, hh⟩ := OFG_ex hzt
    have C1 := hideK (fun (W : World) (hb : Below w.heap.size w W) => isGood hzs hzt (is_any ds dt s t sal scl sak sck al cl ak ck W hs1 ((hs2.keep hb).mono hb.size) ((hs3.keep hb).mono hb.size) ht1 ((ht2.keep hb).mono hb.size) ((ht3.keep hb).mono hb.size)))
    have C2 := hideK (fun (W : World) (hb : Below w.heap.size w W) => dofGood hg (dualOf_any ds s sal scl sak sck W hs1 ((hs2.keep hb).mono hb.size) ((hs3.keep hb).mono hb.size)))
    have C3 := hideK (fun (W : World) (hb : Below w.heap.size w W) => dofGood hh (dualOf_any dt t al cl ak ck W ht1 ((ht2.keep hb).mono hb.size) ((ht3.keep hb).mono hb.size)))
    have HBT := hideK (BT_iff hg hh)
    have HDU := hideK (fun k => bl_dual hg.gn hh.gn (by have := hg.le; omega) (by have := hh.le; omega) k 0 0 hg.gn.pos hh.gn.pos)
    have HOS := hideK (oth_gn hg.gn (by have := hg.le; omega))
    have HOT := hideK (oth_gn hh.gn (by have := hh.le; omega))
    simp only [tyVal] at C1 C2 C3 ⊢
    clear hs1 hs2 hs3 ht1 ht2 ht3 hzs hzt hg hh
    go_enter Tryd.func8, Tryd.ntmps8
    go_wp2_with fail
    refine (CE.out _ Q0.out.bl).mono ?_
    rintro e w1 ⟨rfl, hb1⟩
    have Q1 := hideK (Q0.out.keep hb1)
    clear x0 x1 x2 x3 x4 y0 y1 y2 y3 y4
    obtain ⟨x0, x1, x2, x3, x4⟩ := Q1.out.x
    obtain ⟨y0, y1, y2, y3, y4⟩ := Q1.out.y
    simp only [Nat.zero_add] at x1 x2 x3 x4 y1 y2 y3 y4
    clear hb1
    go_wp2_with fail
    refine (C1.out _ Q1.out.bl).mono ?_
    rintro e w2 ⟨⟨ba, rfl, hba⟩, hb2⟩
    have Q2 := hideK (Q1.out.keep hb2)
    clear x0 x1 x2 x3 x4 y0 y1 y2 y3 y4
    obtain ⟨x0, x1, x2, x3, x4⟩ := Q2.out.x
    obtain ⟨y0, y1, y2, y3, y4⟩ := Q2.out.y
    simp only [Nat.zero_add] at x1 x2 x3 x4 y1 y2 y3 y4
    have HBA := hideK hba
    clear hba
    clear hb2
    go_wp2_with fail
    refine (C2.out _ Q2.out.bl).mono ?_
    rintro e w3 ⟨⟨cs, hcs, as2, cs2, rfl, hgs⟩, hb3⟩
    have Q3 := hideK (Q2.out.keep hb3)
    clear x0 x1 x2 x3 x4 y0 y1 y2 y3 y4
    obtain ⟨x0, x1, x2, x3, x4⟩ := Q3.out.x
    obtain ⟨y0, y1, y2, y3, y4⟩ := Q3.out.y
    simp only [Nat.zero_add] at x1 x2 x3 x4 y1 y2 y3 y4
    have HCS := hideK hcs
    have HGS := hideK hgs
    clear hcs hgs
    clear hb3
    go_wp2_with fail
    refine (C3.out _ Q3.out.bl).mono ?_
    rintro e w4 ⟨⟨ct, hct, at2, ct2, rfl, hgt⟩, hb4⟩
    have Q4 := hideK (Q3.out.keep hb4)
    clear x0 x1 x2 x3 x4 y0 y1 y2 y3 y4
    obtain ⟨x0, x1, x2, x3, x4⟩ := Q4.out.x
    obtain ⟨y0, y1, y2, y3, y4⟩ := Q4.out.y
    simp only [Nat.zero_add] at x1 x2 x3 x4 y1 y2 y3 y4
    have HGS4 := hideK ((HGS.out.keep hb4).mono hb4.size)
    have HGT := hideK hgt
    have HCT := hideK hct
    clear hgt hct
    clear hb4
    have GS := hideK (least_gn HOS.out HCS.out)
    have GT := hideK (least_gn HOT.out HCT.out)
    have c5 := graphs_any (leastG (othG h) ct) (leastG (othG g) cs) at2 as2 ct2 cs2 w4.heap.size w4 GT.out.1 GS.out.1 HGT.out HGS4.out (Nat.le_refl _)
    have HEQ := hideK (show (∀ k, bl k (leastG (othG h) ct) (leastG (othG g) cs) 0 0) ↔ BT s t from by
      rw [HBT.out]
      exact forall_congr' fun k => (bl_resp HOT.out HOS.out GT.out.1 GS.out.1 HOT.out.pos HOS.out.pos GT.out.1.pos GS.out.1.pos (GT.out.2.1 k) (GS.out.2.1 k)).trans (HDU.out k))
    generalize leastG (othG h) ct = glt at *
    generalize leastG (othG g) cs = gls at *
    go_wp2_with fail
    refine c5.mono ?_
    rintro e w5 ⟨⟨bd, rfl, hbd⟩, hb5⟩
    have Q5 := hideK (Q4.out.keep hb5)
    obtain rfl : bd = ba := by rw [Bool.eq_iff_iff, hbd, HEQ.out, HBA.out]
    clear hb5 hbd c5 x0 x1 x2 x3 x4 y0 y1 y2 y3 y4
    cases bd with
    | true =>
      go_wp2_with fail
      go_ret
      exact ⟨rfl, Q5.out.bl⟩
    | false =>
      go_wp2_with fail
      go_ret
      exact ⟨rfl, Q5.out.bl⟩
  · have hz2 : chkTy s ≠ 0 ∨ chkTy t ≠ 0 := by
      by_cases q : chkTy s = 0
      · exact .inr fun e => hz ⟨q, e⟩
      · exact .inl q
    have C1 := hideK (fun (W : World) (hb : Below w.heap.size w W) => isBad hz2 (is_any ds dt s t sal scl sak sck al cl ak ck W hs1 ((hs2.keep hb).mono hb.size) ((hs3.keep hb).mono hb.size) ht1 ((ht2.keep hb).mono hb.size) ((ht3.keep hb).mono hb.size)))
    simp only [tyVal] at C1 ⊢
    clear hs1 hs2 hs3 ht1 ht2 ht3 hz hz2
    go_enter Tryd.func8, Tryd.ntmps8
    go_wp2_with fail
    refine (CE.out _ Q0.out.bl).mono ?_
    rintro e w1 ⟨rfl, hb1⟩
    have Q1 := hideK (Q0.out.keep hb1)
    clear x0 x1 x2 x3 x4 y0 y1 y2 y3 y4
    obtain ⟨x0, x1, x2, x3, x4⟩ := Q1.out.x
    obtain ⟨y0, y1, y2, y3, y4⟩ := Q1.out.y
    simp only [Nat.zero_add] at x1 x2 x3 x4 y1 y2 y3 y4
    clear hb1
    go_wp2_with fail
    refine (C1.out _ Q1.out.bl).mono ?_
    rintro e w2 ⟨⟨z1, hz1, rfl⟩, hb2⟩
    have Q2 := hideK (Q1.out.keep hb2)
    clear x0 x1 x2 x3 x4 y0 y1 y2 y3 y4
    obtain ⟨x0, x1, x2, x3, x4⟩ := Q2.out.x
    obtain ⟨y0, y1, y2, y3, y4⟩ := Q2.out.y
    simp only [Nat.zero_add] at x1 x2 x3 x4 y1 y2 y3 y4
    have hzb : (z1 != 0) = true := by simpa using hz1
    clear hz1
    clear hb2
    go_wp2_with fail
    go_ret
    exact ⟨rfl, Q2.out.bl⟩
end Go.Proofs.YtoieacgojkgjgaaDoor
/-
  duetkeep.BelowDual returns true and leaves its arguments as they were, for every two types, where utf8.first and utf8.acceptRanges hold what the program's text lays (the card ties them to it). Conditions: none beside the card's own.
-/
namespace Go.Proofs.YtoieacgojkgjgaaDoor
open Go.RowKit Go.Shelf Go.Lib Go.Joins
open Go.ChangeShapes Go.WideShapes Go.ChangeAt
open Go.ChangeMaps (open_string shut_string)

theorem laidOut : laidOutB Tryd.prog = true := by kernel_rfl
theorem own : ownKnob Tryd.prog.godebug = none := by kernel_rfl

set_option maxRecDepth 100000 in
set_option maxHeartbeats 1000000 in
theorem belowDual_lifted (os : Os) (started : os.Started) (H : Type) (enc : TypeId × Value → H) :
    ReturnsInHanded {} Tryd.checked os 8 .any (fun w args => (Rows.belowDualSpec.pre enc Tryd.prog Tryd.f8 [] false w args ∧ laidMetH Tryd.prog Rows.belowDualRow.laid w) ∧ sizedMet enc Tryd.prog Tryd.f8 (OpenSpec.ofChange Rows.belowDualSpec) false w args)
      (Rows.belowDualSpec.post enc Tryd.prog Tryd.f8 false true false false) := by
  refine returnsInHanded_of_change_and (C := Tryd.checked) (X := fun w _ => laidMetH Tryd.prog Rows.belowDualRow.laid w) (fun _ _ _ hh h => h.of_heap hh) own started (by kernel_rfl) Tryd.func8
    (ChangeSpec.witness_shaped (enc := enc) (C := Tryd.checked) (os := os) (X := fun w _ => laidMetH Tryd.prog Rows.belowDualRow.laid w) false (World.laidAll Tryd.prog os Rows.belowDualRow.laid)
      #[.agg #[.int .i64 0, .int .i64 0, .string ⟨#[]⟩, .slice none 0 0, .slice none 0 0], .agg #[.int .i64 0, .int .i64 0, .string ⟨#[]⟩, .slice none 0 0, .slice none 0 0]] 8 (World.laidAll_os _ _ _)
      (World.shaped_of_ZipB (by kernel_rfl) (by kernel_rfl)) (by kernel_rfl) (by kernel_rfl) (by kernel_rfl)
      (by rw [MakeChecks.laidMetH_plain _ _ _ (by kernel_rfl)]; exact laidMet_laidAll _ (by kernel_rfl) (by kernel_rfl))) ?_
  intro W base args ds gs before hval0 hW _ hsz hL _
  have hval : ∀ (j : Nat) t v, Tryd.f8.params[j]? = some t → args[j]? = some v → Value.okWide Tryd.prog W .any base t v := hval0
  have hW' := hW
  obtain ⟨p, q, hA0, hV, rfl, _, _⟩ := hW
  have hA : DataW.TrodAll enc Tryd.prog W 0 (fun _ => true) true Tryd.f8.params.toList args.toList ds p := hA0
  rw [Tryd.params8] at hA hval
  obtain ⟨v0, v1, d0, d1, p0, p1, rfl, rfl, rfl, h0, h1⟩ := trodAll_two hA
  obtain ⟨rfl, rfl⟩ := trodVars_none hV
  obtain ⟨s, sal, scl, sak, sck, ds, rfl, hs1, hs2, hs3⟩ := openType (hval 0 25 v0 rfl rfl) h0
  obtain ⟨t, al, cl, ak, ck, dt, rfl, ht1, ht2, ht3⟩ := openType (hval 1 25 v1 rfl rfl) h1
  clear hA0 hV hval0
  refine (belowDual_law ds dt s t sal scl sak sck al cl ak ck W hs1 hs2 hs3 ht1 ht2 ht3).mono fun e W' ⟨he, hb⟩ => ?_
  subst he
  have l0 : ∀ z ∈ p0, z.block < W.heap.size := fun z hz => by simpa using hW'.lt z (by simp [hz])
  have l1 : ∀ z ∈ p1, z.block < W.heap.size := fun z hz => by simpa using hW'.lt z (by simp [hz])
  exact ⟨_, rfl, _, _, _, [], p0 ++ p1, [], hW', trodAll_mk1 (shut_bool Tryd.underlying4 _), trodAll_mk2 (Below.trod laidOut (by kernel_rfl) (of_decide_eq_true (by kernel_rfl)) h0 hb l0) (Below.trod laidOut (by kernel_rfl) (of_decide_eq_true (by kernel_rfl)) h1 hb l1), rfl, hb.frame _, fun h => by cases h⟩

theorem belowDual_row : Rows.BelowDualSaid :=
  OpenClaim.holds_of_wide 8 Tryd.f8 rfl rfl rfl rfl rfl rfl rfl ⟨rfl, rfl, rfl, rfl, rfl⟩ rfl rfl rfl rfl rfl (by kernel_rfl) Tryd.func8 (by kernel_rfl)
    (of_decide_eq_true (by kernel_rfl)) (by unfold Func.isWrapper; rw [if_neg (of_decide_eq_false (by kernel_rfl))]; exact ⟨rfl, rfl⟩)
    (fun os started H enc _ => belowDual_lifted os started H enc)

theorem belowDual_holds : Rows.BelowDualCardSaid :=
  Claim7.holds_tied_plain_at .later [] [.data, .pinned] true (true, "fb09b9d4c1e07b09428de4fdd6b8a2bdc848e7c42578964094ad19f855055e5c") false belowDual_row (fun _ h => by cases h) (by kernel_rfl) (fun _ h => by cases h) belowDual_row_tie rfl ⟨rfl, rfl⟩ (by kernel_rfl) rfl
    (fun f fn hf hfn => by
      obtain rfl : f = 8 := Option.some.inj ((show Tryd.prog.funcNamed Rows.belowDualRow.func = some 8 by kernel_rfl).symm.trans hf) |>.symm
      obtain rfl : fn = Tryd.f8 := (Option.some.inj (Tryd.func8.symm.trans hfn)).symm
      exact ⟨by kernel_rfl, fun j t ht => by
        rw [Tryd.params8] at ht
        have hm : t ∈ [25, 25] := by simpa using Array.mem_of_getElem? ht
        have hall : ([25, 25].all fun u => !Tryd.prog.wantsStandIn u) = true := by kernel_rfl
        exact (show Tryd.prog.wantsStandIn t = false by simpa using List.all_eq_true.1 hall t hm)⟩)
    (by kernel_rfl)
#print axioms belowDual_holds
end Go.Proofs.YtoieacgojkgjgaaDoor
