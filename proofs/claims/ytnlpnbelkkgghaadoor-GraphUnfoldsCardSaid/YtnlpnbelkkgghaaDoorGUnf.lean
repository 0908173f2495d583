/-
  duetkeep.GraphUnfolds returns true and leaves its arguments as they were, for every type, where utf8.first and utf8.acceptRanges hold what the program's text lays (the card ties them to it). Conditions: none beside the card's own.
-/
import Derived.Test.YtnlpnbelkkgghaaDoorAg
import Derived.Test.YtnlpnbelkkgghaaDoorVu
import Derived.Test.YtnlpnbelkkgghaaDoorIh
import Derived.Test.YtnlpnbelkkgghaaDoorHq
import Derived.Test.YtnlpnbelkkgghaaDoorTie
import Derived.Test.YtnlpnbelkkgghaaDoorCards
import Derived.ProofKit
import Derived.Lib.SmallJoins
import Derived.Lib.LaidU8T
import Derived.Lib.LaidIn
import Derived.PinnedBridge
import Derived.Lay
import Derived.SevenTiedAt
import Derived.OpenShut
namespace Go.Proofs.YtnlpnbelkkgghaaDoor
open Go.RowKit Go.Shelf

theorem ofGoodU {t : Ty} {w : World} (ht : chkTy t = 0) {args : Array Value} (c : Calls Tryd.prog 8 args w (OFPost t w)) : Calls Tryd.prog 8 args w fun e w' => (∃ g, OFG t g ∧ ∃ ag cg, e = .returned (.tuple #[.slice ag g.length cg, .int .i64 0]) ∧ GAt w' w'.heap.size g ag) ∧ Below w.heap.size w w' := by
  refine c.mono ?_
  rintro e w' ⟨h | ⟨g, ag, cg, hg, he, hga⟩, hb⟩
  · exact absurd ht h.1
  · exact ⟨⟨g, hg, ag, cg, he, hga⟩, hb⟩
/-- the type's box; the world of its graph lies behind -/
structure BXU (w : World) (t : Ty) (al : Option Addr) (cl : Nat) (ak : Option Addr) (ck : Nat) (w5 W : World) : Prop where
  x : TyAt W w.heap.size 0 t al cl ak ck
  lt : w.heap.size < W.heap.size
  bl : Below w.heap.size w W
  k5 : Below w5.heap.size w5 W
theorem BXU.keep {w : World} {t : Ty} {al : Option Addr} {cl : Nat} {ak : Option Addr} {ck : Nat} {w5 W W' : World} (h : BXU w t al cl ak ck w5 W) (hb : Below W.heap.size W W') : BXU w t al cl ak ck w5 W' :=
  ⟨h.x.keep hb h.lt, Nat.lt_of_lt_of_le h.lt hb.size, h.bl.trans (hb.mono h.bl.size), h.k5.trans (hb.mono h.k5.size)⟩
set_option maxRecDepth 100000 in
set_option maxHeartbeats 16000000 in
theorem graphUnfolds_law (d : Nat) (t : Ty) (al : Option Addr) (cl : Nat) (ak : Option Addr) (ck : Nat) (w : World) (ht1 : TyBd t cl ck) (ht2 : LA w w.heap.size t.labels al) (ht3 : KT w w.heap.size d t.kids ak) :
    Calls Tryd.prog 3 #[tyVal t al cl ak ck] w fun e w' => e = .returned (.bool true) ∧ Below w.heap.size w w' := by
  have Q0 := hideK (show BXU w t al cl ak ck w (w.alloc (.cells #[.int .i64 t.kind, .int .i64 t.so, .string t.name, .slice al t.labels.length cl, .slice ak t.kids.length ck] 25)) from ⟨lit_ty w t al cl ak ck, by simp, (Below.refl _ _).alloc (Nat.le_refl _) _, (Below.refl _ _).alloc (Nat.le_refl _) _⟩)
  have CE := hideK (fun W : World => ofEnd W)
  have C1 := hideK (fun (W : World) (hb : Below w.heap.size w W) => of_any d t al cl ak ck W ht1 ((ht2.keep hb).mono hb.size) ((ht3.keep hb).mono hb.size))
  have C2 := hideK (fun (W : World) (hb : Below w.heap.size w W) => unfold_any d t al cl ak ck W ht1 ((ht2.keep hb).mono hb.size) ((ht3.keep hb).mono hb.size))
  have C3 := hideK (fun (ud : Nat) (u : Ty) (ual : Option Addr) (ucl : Nat) (uak : Option Addr) (uck : Nat) (W : World) (hb : Below w.heap.size w W) (h1 : TyBd u ucl uck) (h2 : LA W W.heap.size u.labels ual) (h3 : KT W W.heap.size ud u.kids uak) => same_any d ud t u al cl ak ck ual ucl uak uck W ht1 ((ht2.keep hb).mono hb.size) ((ht3.keep hb).mono hb.size) h1 h2 h3)
  unfold OFPost at C1
  unfold UFPost at C2
  simp only [tyVal] at C1 C2 ⊢
  clear ht1 ht2 ht3
  go_enter Tryd.func3, Tryd.ntmps3
  go_upto_region 1 with fail
  generalize w.alloc (.cells #[.int .i64 t.kind, .int .i64 t.so, .string t.name, .slice al t.labels.length cl, .slice ak t.kids.length ck] 25) = W0 at *
  go_wp2_with fail
  refine (CE.out _).mono ?_
  rintro e w1 ⟨⟨a0, c0, rfl⟩, hb1⟩
  have Q1 := hideK (Q0.out.keep hb1)
  clear hb1
  obtain ⟨x0, x1, x2, x3, x4⟩ := Q1.out.x
  simp only [Nat.zero_add] at x1 x2 x3 x4
  go_wp2_with fail
  refine (C1.out _ Q1.out.bl).mono ?_
  rintro e w5 ⟨hor, hb5⟩
  have Q5 := hideK (show BXU w t al cl ak ck w5 w5 from ⟨(Q1.out.keep hb5).x, (Q1.out.keep hb5).lt, (Q1.out.keep hb5).bl, Below.refl _ _⟩)
  clear hb5
  clear x0 x1 x2 x3 x4
  obtain ⟨x0, x1, x2, x3, x4⟩ := Q5.out.x
  simp only [Nat.zero_add] at x1 x2 x3 x4
  rcases hor with ⟨hz, rfl⟩ | ⟨g, ag, cg, hg, rfl, hga⟩
  · have hzb : (chkTy t != 0) = true := by simpa using hz
    clear hz
    go_wp2_with fail
    go_ret
    exact ⟨rfl, Q5.out.bl⟩
  · have HG := hideK hg
    have HGA := hideK hga
    clear hg hga
    go_wp2_with fail
    refine (C2.out _ Q5.out.bl).mono ?_
    rintro e w6 ⟨hor, hb6⟩
    have Q6 := hideK (Q5.out.keep hb6)
    clear hb6
    clear x0 x1 x2 x3 x4
    rcases hor with ⟨hz, rfl⟩ | ⟨_, rfl⟩ | ⟨_, u, ual, ucl, uak, uck, ud, rfl, hu0, hu8, hud, hu1, hu2, hu3⟩
    · exact absurd HG.out.chk hz
    · have Q6a := hideK (Q6.out.keep ((Below.refl w6.heap.size w6).alloc (Nat.le_refl _) (.cells #[.int .i64 0, .int .i64 0, .string ⟨#[]⟩, .slice none 0 0, .slice none 0 0] 25)))
      go_upto_region 12 with fail
      generalize w6.alloc (.cells #[.int .i64 0, .int .i64 0, .string ⟨#[]⟩, .slice none 0 0, .slice none 0 0] 25) = W6 at *
      have HGB := hideK ((HGA.out.keep Q6a.out.k5).mono Q6a.out.k5.size)
      have c7 := back_any g HG.out.gn ag cg W6.heap.size W6 HGB.out (Nat.le_refl _)
      unfold BCPost at c7
      go_wp2_with fail
      refine c7.mono ?_
      rintro e w7 ⟨hor, hb7⟩
      have Q7 := hideK (Q6a.out.keep hb7)
      clear c7 HGB
      rcases hbk : backP g with ⟨b, bm, bp⟩
      rw [hbk] at hor
      simp only at hor
      rcases hor with ⟨hq, rfl⟩ | ⟨hq, bal, bcl, bak, bck, bd, rfl, hbd, hlp, hkp⟩
      · have Q8 := hideK (Q7.out.keep ((Below.refl w7.heap.size w7).alloc (Nat.le_refl _) (.cells #[.int .i64 0, .int .i64 0, .string ⟨#[]⟩, .slice none 0 0, .slice none 0 0] 25)))
        clear hq hbk hb7
        go_wp2_with fail
        go_ret
        exact ⟨rfl, Q8.out.bl⟩
      · have hok := back_ok HG.out.gn HG.out.gn.le (by rw [hbk]; exact hq)
        rw [hbk] at hok
        simp only at hok
        have hA8 : Below w7.heap.size w7 (w7.alloc (.cells #[.int .i64 b.kind, .int .i64 b.so, .string b.name, .slice bal b.labels.length bcl, .slice bak b.kids.length bck] 25)) := (Below.refl _ _).alloc (Nat.le_refl _) _
        have Q8 := hideK (Q7.out.keep hA8)
        have hla8 : LA (w7.alloc (.cells #[.int .i64 b.kind, .int .i64 b.so, .string b.name, .slice bal b.labels.length bcl, .slice bak b.kids.length bck] 25)) (w7.alloc (.cells #[.int .i64 b.kind, .int .i64 b.so, .string b.name, .slice bal b.labels.length bcl, .slice bak b.kids.length bck] 25)).heap.size b.labels bal := ((hlp.la (fun x hx => hx.2)).keep hA8).mono hA8.size
        have hkt8 : KT (w7.alloc (.cells #[.int .i64 b.kind, .int .i64 b.so, .string b.name, .slice bal b.labels.length bcl, .slice bak b.kids.length bck] 25)) (w7.alloc (.cells #[.int .i64 b.kind, .int .i64 b.so, .string b.name, .slice bal b.labels.length bcl, .slice bak b.kids.length bck] 25)).heap.size bd b.kids bak := ((hkp.kt (fun x hx => hx.2)).keep hA8).mono hA8.size
        have c8 := ofGoodU hok.1 (of_any bd b bal bcl bak bck (w7.alloc (.cells #[.int .i64 b.kind, .int .i64 b.so, .string b.name, .slice bal b.labels.length bcl, .slice bak b.kids.length bck] 25)) hbd hla8 hkt8)
        have HDN := hideK hok.2
        simp only [tyVal] at c8 ⊢
        clear hq hbk hb7 hbd hlp hkp hok hA8 hla8 hkt8
        go_wp2_with fail
        refine c8.mono ?_
        rintro e w9 ⟨⟨h, hh, ah, ch, rfl, hga9⟩, hb9⟩
        have Q9 := hideK (Q8.out.keep hb9)
        have HEQ := hideK (show g = h from (HG.out.same hh).2 (by rw [HDN.out]; exact (funext HG.out.does).symm))
        obtain rfl := HEQ.out
        have hg9 := (HGA.out.keep Q9.out.k5).mono Q9.out.k5.size
        have hln : ∀ n ∈ g, n.labs.length ≤ 1000 ∧ n.to.length ≤ 1000 := fun n hn => by have := shp_len (okN_shp (HG.out.gn.ok n hn)); omega
        have c9 := graphEqual_any g g ag ah cg ch w9.heap.size w9 hg9 hga9 (Nat.le_refl _) (by have := HG.out.gn.le; omega) (by have := HG.out.gn.le; omega) hln hln
        rw [(eqG_iff g g).2 rfl] at c9
        clear c8 hb9 hga9 hg9 hln
        go_wp2_with fail
        refine c9.mono ?_
        rintro e w10 ⟨rfl, hb10⟩
        have Q10 := hideK (Q9.out.keep hb10)
        clear c9 hb10
        go_wp2_with fail
        go_ret
        exact ⟨rfl, Q10.out.bl⟩
    · have hA6 : Below w6.heap.size w6 (w6.alloc (.cells #[.int .i64 u.kind, .int .i64 u.so, .string u.name, .slice ual u.labels.length ucl, .slice uak u.kids.length uck] 25)) := (Below.refl _ _).alloc (Nat.le_refl _) _
      have Q6a := hideK (Q6.out.keep hA6)
      have c3 := C3.out ud u ual ucl uak uck (w6.alloc (.cells #[.int .i64 u.kind, .int .i64 u.so, .string u.name, .slice ual u.labels.length ucl, .slice uak u.kids.length uck] 25)) Q6a.out.bl hu1 ((hu2.keep hA6).mono hA6.size) ((hu3.keep hA6).mono hA6.size)
      unfold SMPost at c3
      have HX := hideK (lit_ty w6 u ual ucl uak uck)
      have k8 : (u.kind == 8) = false := by simpa using hu8
      have HUD := hideK hud
      have HU0 := hideK hu0
      have HL6 := hideK (show w6.heap.size < (w6.alloc (.cells #[.int .i64 u.kind, .int .i64 u.so, .string u.name, .slice ual u.labels.length ucl, .slice uak u.kids.length uck] 25)).heap.size from by simp)
      simp only [tyVal] at c3 ⊢
      clear hu0 hu8 hud hu1 hu2 hu3 hA6
      go_upto_region 8 with fail
      generalize w6.heap.size = ub at *
      generalize w6.alloc (.cells #[.int .i64 u.kind, .int .i64 u.so, .string u.name, .slice ual u.labels.length ucl, .slice uak u.kids.length uck] 25) = W6 at *
      obtain ⟨x0, x1, x2, x3, x4⟩ := Q6a.out.x
      simp only [Nat.zero_add] at x1 x2 x3 x4
      obtain ⟨v0, v1, v2, v3, v4⟩ := HX.out
      simp only [Nat.zero_add] at v1 v2 v3 v4
      go_wp2_with fail
      refine c3.mono ?_
      rintro e w6b ⟨hor, hb6⟩
      have Q6b := hideK (Q6a.out.keep hb6)
      have HXb := hideK (HX.out.keep hb6 HL6.out)
      clear c3 hb6 v0 v1 v2 v3 v4
      clear x0 x1 x2 x3 x4
      obtain ⟨v0, v1, v2, v3, v4⟩ := HXb.out
      simp only [Nat.zero_add] at v1 v2 v3 v4
      rcases hor with ⟨hz, _⟩ | ⟨_, hz, _⟩ | ⟨_, _, b0, rfl, hb0⟩
      · exact absurd HG.out.chk hz
      · exact absurd HU0.out hz
      · obtain rfl : b0 = true := hb0.2 HUD.out.symm
        clear hb0
        go_upto_region 12 with fail
        clear v0 v1 v2 v3 v4
        have HGB := hideK ((HGA.out.keep Q6b.out.k5).mono Q6b.out.k5.size)
        have c7 := back_any g HG.out.gn ag cg w6b.heap.size w6b HGB.out (Nat.le_refl _)
        unfold BCPost at c7
        go_wp2_with fail
        refine c7.mono ?_
        rintro e w7 ⟨hor, hb7⟩
        have Q7 := hideK (Q6b.out.keep hb7)
        clear c7 HGB
        rcases hbk : backP g with ⟨b, bm, bp⟩
        rw [hbk] at hor
        simp only at hor
        rcases hor with ⟨hq, rfl⟩ | ⟨hq, bal, bcl, bak, bck, bd, rfl, hbd, hlp, hkp⟩
        · have Q8 := hideK (Q7.out.keep ((Below.refl w7.heap.size w7).alloc (Nat.le_refl _) (.cells #[.int .i64 0, .int .i64 0, .string ⟨#[]⟩, .slice none 0 0, .slice none 0 0] 25)))
          clear hq hbk hb7
          go_wp2_with fail
          go_ret
          exact ⟨rfl, Q8.out.bl⟩
        · have hok := back_ok HG.out.gn HG.out.gn.le (by rw [hbk]; exact hq)
          rw [hbk] at hok
          simp only at hok
          have hA8 : Below w7.heap.size w7 (w7.alloc (.cells #[.int .i64 b.kind, .int .i64 b.so, .string b.name, .slice bal b.labels.length bcl, .slice bak b.kids.length bck] 25)) := (Below.refl _ _).alloc (Nat.le_refl _) _
          have Q8 := hideK (Q7.out.keep hA8)
          have hla8 : LA (w7.alloc (.cells #[.int .i64 b.kind, .int .i64 b.so, .string b.name, .slice bal b.labels.length bcl, .slice bak b.kids.length bck] 25)) (w7.alloc (.cells #[.int .i64 b.kind, .int .i64 b.so, .string b.name, .slice bal b.labels.length bcl, .slice bak b.kids.length bck] 25)).heap.size b.labels bal := ((hlp.la (fun x hx => hx.2)).keep hA8).mono hA8.size
          have hkt8 : KT (w7.alloc (.cells #[.int .i64 b.kind, .int .i64 b.so, .string b.name, .slice bal b.labels.length bcl, .slice bak b.kids.length bck] 25)) (w7.alloc (.cells #[.int .i64 b.kind, .int .i64 b.so, .string b.name, .slice bal b.labels.length bcl, .slice bak b.kids.length bck] 25)).heap.size bd b.kids bak := ((hkp.kt (fun x hx => hx.2)).keep hA8).mono hA8.size
          have c8 := ofGoodU hok.1 (of_any bd b bal bcl bak bck (w7.alloc (.cells #[.int .i64 b.kind, .int .i64 b.so, .string b.name, .slice bal b.labels.length bcl, .slice bak b.kids.length bck] 25)) hbd hla8 hkt8)
          have HDN := hideK hok.2
          simp only [tyVal] at c8 ⊢
          clear hq hbk hb7 hbd hlp hkp hok hA8 hla8 hkt8
          go_wp2_with fail
          refine c8.mono ?_
          rintro e w9 ⟨⟨h, hh, ah, ch, rfl, hga9⟩, hb9⟩
          have Q9 := hideK (Q8.out.keep hb9)
          have HEQ := hideK (show g = h from (HG.out.same hh).2 (by rw [HDN.out]; exact (funext HG.out.does).symm))
          obtain rfl := HEQ.out
          have hg9 := (HGA.out.keep Q9.out.k5).mono Q9.out.k5.size
          have hln : ∀ n ∈ g, n.labs.length ≤ 1000 ∧ n.to.length ≤ 1000 := fun n hn => by have := shp_len (okN_shp (HG.out.gn.ok n hn)); omega
          have c9 := graphEqual_any g g ag ah cg ch w9.heap.size w9 hg9 hga9 (Nat.le_refl _) (by have := HG.out.gn.le; omega) (by have := HG.out.gn.le; omega) hln hln
          rw [(eqG_iff g g).2 rfl] at c9
          clear c8 hb9 hga9 hg9 hln
          go_wp2_with fail
          refine c9.mono ?_
          rintro e w10 ⟨rfl, hb10⟩
          have Q10 := hideK (Q9.out.keep hb10)
          clear c9 hb10
          go_wp2_with fail
          go_ret
          exact ⟨rfl, Q10.out.bl⟩
end Go.Proofs.YtnlpnbelkkgghaaDoor
/-
  The card.
-/
namespace Go.Proofs.YtnlpnbelkkgghaaDoor
open Go.RowKit Go.Shelf Go.Lib Go.Joins
open Go.ChangeShapes Go.WideShapes Go.ChangeAt
open Go.ChangeMaps (open_string shut_string)

theorem laidOut : laidOutB Tryd.prog = true := by kernel_rfl
theorem own : ownKnob Tryd.prog.godebug = none := by kernel_rfl

set_option maxRecDepth 100000 in
set_option maxHeartbeats 1000000 in
theorem graphUnfolds_lifted (os : Os) (started : os.Started) (H : Type) (enc : TypeId × Value → H) :
    ReturnsInHanded {} Tryd.checked os 3 .any (fun w args => (Rows.graphUnfoldsSpec.pre enc Tryd.prog Tryd.f3 [] false w args ∧ laidMetH Tryd.prog Rows.graphUnfoldsRow.laid w) ∧ sizedMet enc Tryd.prog Tryd.f3 (OpenSpec.ofChange Rows.graphUnfoldsSpec) false w args)
      (Rows.graphUnfoldsSpec.post enc Tryd.prog Tryd.f3 false true false false) := by
  refine returnsInHanded_of_change_and (C := Tryd.checked) (X := fun w _ => laidMetH Tryd.prog Rows.graphUnfoldsRow.laid w) (fun _ _ _ hh h => h.of_heap hh) own started (by kernel_rfl) Tryd.func3
    (ChangeSpec.witness_shaped (enc := enc) (C := Tryd.checked) (os := os) (X := fun w _ => laidMetH Tryd.prog Rows.graphUnfoldsRow.laid w) false (World.laidAll Tryd.prog os Rows.graphUnfoldsRow.laid)
      #[.agg #[.int .i64 0, .int .i64 0, .string ⟨#[]⟩, .slice none 0 0, .slice none 0 0]] 8 (World.laidAll_os _ _ _)
      (World.shaped_of_ZipB (by kernel_rfl) (by kernel_rfl)) (by kernel_rfl) (by kernel_rfl) (by kernel_rfl)
      (by rw [MakeChecks.laidMetH_plain _ _ _ (by kernel_rfl)]; exact laidMet_laidAll _ (by kernel_rfl) (by kernel_rfl))) ?_
  intro W base args ds gs before hval0 hW _ hsz hL _
  have hval : ∀ (j : Nat) t v, Tryd.f3.params[j]? = some t → args[j]? = some v → Value.okWide Tryd.prog W .any base t v := hval0
  have hW' := hW
  obtain ⟨p, q, hA0, hV, rfl, _, _⟩ := hW
  have hA : DataW.TrodAll enc Tryd.prog W 0 (fun _ => true) true Tryd.f3.params.toList args.toList ds p := hA0
  rw [Tryd.params3] at hA hval
  obtain ⟨v0, d0, rfl, rfl, h0⟩ := trodAll_one hA
  obtain ⟨rfl, rfl⟩ := trodVars_none hV
  obtain ⟨s, sal, scl, sak, sck, ds, rfl, hs1, hs2, hs3⟩ := openType (hval 0 25 v0 rfl rfl) h0
  clear hA0 hV hval0
  refine (graphUnfolds_law ds s sal scl sak sck W hs1 hs2 hs3).mono fun e W' ⟨he, hb⟩ => ?_
  subst he
  have l0 : ∀ z ∈ p, z.block < W.heap.size := fun z hz => by simpa using hW'.lt z (by simp [hz])
  exact ⟨_, rfl, _, _, _, [], p, [], hW', trodAll_mk1 (shut_bool Tryd.underlying4 _), trodAll_mk1 (Below.trod laidOut (by kernel_rfl) (of_decide_eq_true (by kernel_rfl)) h0 hb l0), rfl, hb.frame _, fun h => by cases h⟩

theorem graphUnfolds_row : Rows.GraphUnfoldsSaid :=
  OpenClaim.holds_of_wide 3 Tryd.f3 rfl rfl rfl rfl rfl rfl rfl ⟨rfl, rfl, rfl, rfl, rfl⟩ rfl rfl rfl rfl rfl (by kernel_rfl) Tryd.func3 (by kernel_rfl)
    (of_decide_eq_true (by kernel_rfl)) (by unfold Func.isWrapper; rw [if_neg (of_decide_eq_false (by kernel_rfl))]; exact ⟨rfl, rfl⟩)
    (fun os started H enc _ => graphUnfolds_lifted os started H enc)

theorem graphUnfolds_holds : Rows.GraphUnfoldsCardSaid :=
  Claim7.holds_tied_plain_at .later [] [.data, .pinned] true (true, "32ce0c1687e7e25a881a0f0e83d3e43d27aee8b7d3da2dbb0f17f26590da5604") false graphUnfolds_row (fun _ h => by cases h) (by kernel_rfl) (fun _ h => by cases h) graphUnfolds_row_tie rfl ⟨rfl, rfl⟩ (by kernel_rfl) rfl
    (fun f fn hf hfn => by
      obtain rfl : f = 3 := Option.some.inj ((show Tryd.prog.funcNamed Rows.graphUnfoldsRow.func = some 3 by kernel_rfl).symm.trans hf) |>.symm
      obtain rfl : fn = Tryd.f3 := (Option.some.inj (Tryd.func3.symm.trans hfn)).symm
      exact ⟨by kernel_rfl, fun j t ht => by
        rw [Tryd.params3] at ht
        have hm : t ∈ [25] := by simpa using Array.mem_of_getElem? ht
        have hall : ([25].all fun u => !Tryd.prog.wantsStandIn u) = true := by kernel_rfl
        exact (show Tryd.prog.wantsStandIn t = false by simpa using List.all_eq_true.1 hall t hm)⟩)
    (by kernel_rfl)
#print axioms graphUnfolds_holds
end Go.Proofs.YtnlpnbelkkgghaaDoor
