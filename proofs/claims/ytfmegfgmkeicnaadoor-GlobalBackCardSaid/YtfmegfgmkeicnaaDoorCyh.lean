/-
  The contract of global.read, for every text; how it is read with as much fuel as it has letters.
-/
import Derived.Test.YtfmegfgmkeicnaaDoorCyg
namespace Go.Proofs.YtfmegfgmkeicnaaDoor
open Go.RowKit Go.Shelf
/-- what read keeps: the block of what is handed back -/
structure SE (w : World) (rb : Nat) (W : World) : Prop where
  z : ZCv W w.heap.size
  fr : FR rb w W
theorem SE.keep {w : World} {rb : Nat} {W W' : World} (h : SE w rb W) (hf : FR rb W W') (hr : rb < w.heap.size) : SE w rb W' := ⟨h.z.keep hf (by omega), h.fr.trans hf⟩
set_option maxRecDepth 100000 in
set_option maxHeartbeats 8000000 in
theorem readE_step (n : Nat) (hR : RESaid n) : RESaid (n + 1) := by
  intro rb p s w h hn
  have hrl := h.lt
  have HA := hideK (h.al (.cells #[.int .i64 0, .string ⟨#[]⟩, .string ⟨#[]⟩, .int .i64 0, .string ⟨#[]⟩, .slice none 0 0, .slice none 0 0] 25))
  have HS : Hid (SE w rb (w.alloc (.cells #[.int .i64 0, .string ⟨#[]⟩, .string ⟨#[]⟩, .int .i64 0, .string ⟨#[]⟩, .slice none 0 0, .slice none 0 0] 25))) := ⟨ZCv.new w, FR.al _⟩
  have cW := word_any rb p s _ HA.out
  have b1 : ((bs (wd (rs s p))).toList == [101, 110, 100]) = decide (wd (rs s p) = [101, 110, 100]) := by rw [beqL, bs_list]
  have b2 : ((bs (wd (rs s p))).toList == [114, 101, 99]) = decide (wd (rs s p) = [114, 101, 99]) := by rw [beqL, bs_list]
  have hwl := wd_at s p h.le
  rw [bs_size] at hwl
  unfold rdE
  by_cases h1 : wd (rs s p) = [101, 110, 100]
  · rw [if_pos h1]
    rw [decide_eq_true h1] at b1
    rw [h1] at hwl
    have HP := hideK (fun (w1 : World) (h1 : RS w1 rb s p) => pass_any rb p 3 s w1 h1 hwl)
    simp only [GPost]
    clear h hwl h1 b2 hn
    generalize bs (wd (rs s p)) = x at *
    go_enter Tryd.func27, Tryd.ntmps27
    go_wp2_with fail
    refine cW.mono ?_
    rintro e w1 ⟨rfl, hb1⟩
    have H1 := hideK (HA.out.keep hb1)
    have S1 := hideK (HS.out.keep (FR.of hb1) hrl)
    go_wp2_with fail
    refine (HP.out _ H1.out).mono ?_
    rintro e w2 ⟨rfl, ⟨q, hq1, hq2⟩, hf⟩
    have S2 := hideK (S1.out.keep hf hrl)
    clear cW HA HS HP H1 S1 hb1 hf
    obtain ⟨zl, z0, z1, z2, z3, z4, z5, z6, zf⟩ := id S2.out.z
    have y0 := zf 0
    have y1 := zf 1
    have y2 := zf 2
    have y3 := zf 3
    have y4 := zf 4
    have y5 := zf 5
    have y6 := zf 6
    clear zf
    go_wp2_with fail
    have TA := S2.out.z.st ⟨1, ⟨#[]⟩, ⟨#[]⟩, 0, ⟨#[]⟩, [], []⟩ none 0 none 0
    have R9 := hq1.stCv (b := w.heap.size) (by omega) (.int .i64 1) (.string ⟨#[]⟩) (.string ⟨#[]⟩) (.int .i64 0) (.string ⟨#[]⟩) (.slice none 0 0) (.slice none 0 0)
    have F9 := S2.out.fr.stCv (b := w.heap.size) (Nat.le_refl _) (.int .i64 1) (.string ⟨#[]⟩) (.string ⟨#[]⟩) (.int .i64 0) (.string ⟨#[]⟩) (.slice none 0 0) (.slice none 0 0)
    change CvAt (st7Cv w2 w.heap.size 0 (.int .i64 1) (.string ⟨#[]⟩) (.string ⟨#[]⟩) (.int .i64 0) (.string ⟨#[]⟩) (.slice none 0 0) (.slice none 0 0)) _ _ _ _ _ _ _ at TA
    change bodyPost _ _ _ _ _ (st7Cv w2 w.heap.size 0 (.int .i64 1) (.string ⟨#[]⟩) (.string ⟨#[]⟩) (.int .i64 0) (.string ⟨#[]⟩) (.slice none 0 0) (.slice none 0 0))
    generalize st7Cv w2 w.heap.size 0 (.int .i64 1) (.string ⟨#[]⟩) (.string ⟨#[]⟩) (.int .i64 0) (.string ⟨#[]⟩) (.slice none 0 0) (.slice none 0 0) = W9 at TA R9 F9 ⊢
    refine bodyPost_ret (results_cell rfl rfl (load_cv TA)) rfl ?_
    exact ⟨⟨_, rfl, ⟨none, 0, none, 0, rfl, GCv.leaf _ _ _ 1 ⟨#[]⟩ ⟨#[]⟩ 0 ⟨#[]⟩ (by decide) (by decide) (by decide)⟩, q, R9, hq2⟩, F9⟩
  rw [if_neg h1]
  rw [decide_eq_false h1] at b1
  clear h1
  by_cases h2 : wd (rs s p) = [114, 101, 99]
  · rw [if_pos h2]
    rw [decide_eq_true h2] at b2
    rw [h2] at hwl
    have HP := hideK (fun (w1 : World) (h1 : RS w1 rb s p) => pass_any rb p 3 s w1 h1 hwl)
    have hs3 : (skB ((rs s p).drop 3)).length + 3 ≤ (rs s p).length := skd_len 3 _ (wd_pre _ _ h2)
    clear h hwl h2
    generalize bs (wd (rs s p)) = x at *
    generalize skB ((rs s p).drop 3) = l1 at *
    generalize hX : reRec (rdE n) l1 = X
    unfold reRec at hX
    go_enter Tryd.func27, Tryd.ntmps27
    go_wp2_with fail
    refine cW.mono ?_
    rintro e w1 ⟨rfl, hb1⟩
    have H1 := hideK (HA.out.keep hb1)
    have S1 := hideK (HS.out.keep (FR.of hb1) hrl)
    go_wp2_with fail
    refine (HP.out _ H1.out).mono ?_
    rintro e w2 ⟨rfl, ⟨q1, hq1, hl1⟩, hf2⟩
    have S2 := hideK (S1.out.keep hf2 hrl)
    clear cW HA HS HP H1 S1 hb1 hf2 b1 b2
    cases hV : rdVar l1 with
    | error r =>
      rw [hV] at hX
      simp only at hX
      subst hX
      go_wp2_with fail
      refine (readVar_bad hV rb q1 s _ hq1 hl1).mono ?_
      rintro e w3 ⟨rfl, hf3⟩
      go_wp2_with fail
      exact ⟨rfl, rfl, S2.out.fr.trans hf3⟩
    | ok y =>
      obtain ⟨nm, l2⟩ := y
      rw [hV] at hX
      simp only at hX
      have a1 := rdVar_ok hV
      have hnm : nm.size ≤ 9223372036854775807 := by have h8 := vr_len _ a1.1; rw [ba_len]; omega
      have HL2 := hideK a1.2.2.2
      clear a1
      go_wp2_with fail
      refine (readVar_ok hV rb q1 s _ hq1 hl1).mono ?_
      rintro e w3 ⟨rfl, ⟨q2, hq2, hl2⟩, hf3⟩
      have S3 := hideK (S2.out.keep hf3 hrl)
      clear S2 hq1 hl1 hf3 hV
      cases hN : need 46 l2 with
      | error r =>
        rw [hN] at hX
        simp only at hX
        subst hX
        go_wp2_with fail
        refine (need_bad hN rb q2 s _ hq2 hl2).mono ?_
        rintro e w4 ⟨rfl, hf4⟩
        go_wp2_with fail
        exact ⟨rfl, rfl, S3.out.fr.trans hf4⟩
      | ok l3 =>
        rw [hN] at hX
        simp only at hX
        have a2 := need_ok hN
        have hlt : l3.length < n := by have := HL2.out; omega
        go_wp2_with fail
        refine (need_good hN rb q2 s _ hq2 hl2).mono ?_
        rintro e w4 ⟨rfl, ⟨q3, hq3, hl3⟩, hf4⟩
        have S4 := hideK (S3.out.keep hf4 hrl)
        clear S3 hq2 hl2 hf4 hN a2
        cases hT : rdE n l3 with
        | error r =>
          rw [hT] at hX
          simp only at hX
          subst hX
          go_wp2_with fail
          refine (readE_bad hR hT hlt rb q3 s _ hq3 hl3).mono ?_
          rintro e w5 ⟨rfl, hf5⟩
          go_wp2_with fail
          exact ⟨rfl, rfl, S4.out.fr.trans hf5⟩
        | ok y =>
          obtain ⟨t, l4⟩ := y
          rw [hT] at hX
          simp only at hX
          subst hX
          go_wp2_with fail
          refine (readE_ok hR hT hlt rb q3 s _ hq3 hl3).mono ?_
          rintro e w5 ⟨⟨al, cl, ak, ck, rfl, hg⟩, ⟨q5, hq5, hl5⟩, hf5⟩
          have S5 := hideK (S4.out.keep hf5 hrl)
          have HG := hideK hg
          have Q5 := hideK hq5
          have HW4 : Hid (w.heap.size < w4.heap.size) := S4.out.z.lt
          have HW5 : Hid (w4.heap.size ≤ w5.heap.size) := hf5.size
          have Z6 := hideK (S5.out.z.keep (FR.al (pb := rb) (.cells #[.int .i64 t.kind, .string t.fm, .string t.tt, .int .i64 t.so, .string t.name, .slice al t.labels.length cl, .slice ak t.kids.length ck] 25)) (by omega))
          clear hg hq5 hf5 hT S4 hq3 hl3
          have TA := hideK (Z6.out.st ⟨8, ⟨#[]⟩, ⟨#[]⟩, 0, nm, [], [t]⟩ none 0 (some ⟨w5.heap.size, 0, none⟩) 1)
          have R9 := hideK ((Q5.out.al (.cells #[.int .i64 t.kind, .string t.fm, .string t.tt, .int .i64 t.so, .string t.name, .slice al t.labels.length cl, .slice ak t.kids.length ck] 25)).stCv (b := w.heap.size) (by omega) (.int .i64 8) (.string ⟨#[]⟩) (.string ⟨#[]⟩) (.int .i64 0) (.string nm) (.slice none 0 0) (.slice (some ⟨w5.heap.size, 0, none⟩) 1 1))
          have F9 := hideK ((FR.trans S5.out.fr (FR.al (pb := rb) (.cells #[.int .i64 t.kind, .string t.fm, .string t.tt, .int .i64 t.so, .string t.name, .slice al t.labels.length cl, .slice ak t.kids.length ck] 25))).stCv (b := w.heap.size) (Nat.le_refl _) (.int .i64 8) (.string ⟨#[]⟩) (.string ⟨#[]⟩) (.int .i64 0) (.string nm) (.slice none 0 0) (.slice (some ⟨w5.heap.size, 0, none⟩) 1 1))
          have G9 := hideK (HG.out.one (w := w) (b := w.heap.size) (Nat.le_refl _) HW4.out HW5.out 8 ⟨#[]⟩ ⟨#[]⟩ 0 nm (by decide) (by decide) hnm (.int .i64 8) (.string ⟨#[]⟩) (.string ⟨#[]⟩) (.int .i64 0) (.string nm) (.slice none 0 0) (.slice (some ⟨w5.heap.size, 0, none⟩) 1 1))
          change Hid (CvAt (st7Cv (w5.alloc (.cells #[.int .i64 t.kind, .string t.fm, .string t.tt, .int .i64 t.so, .string t.name, .slice al t.labels.length cl, .slice ak t.kids.length ck] 25)) w.heap.size 0 (.int .i64 8) (.string ⟨#[]⟩) (.string ⟨#[]⟩) (.int .i64 0) (.string nm) (.slice none 0 0) (.slice (some ⟨w5.heap.size, 0, none⟩) 1 1)) _ _ _ _ _ _ _) at TA
          rename_i hL
          refine hL _ _ ?_
          clear hL
          refine wpList_plain rfl fun K hK => ?_
          go_simp
          refine hK _ _ ?_
          clear hK K
          refine wpList_plain rfl fun K hK => ?_
          go_simp
          refine hK _ _ ?_
          clear hK K
          refine wpList_storeW rfl rfl rfl rfl (store_cv Z6.out.bx (.int .i64 8) (.string ⟨#[]⟩) (.string ⟨#[]⟩) (.int .i64 0) (.string nm) (.slice none 0 0) (.slice (some ⟨w5.heap.size, 0, none⟩) 1 1) (one_cv _ _ _ _ _ _ _ _ _ _ _)) ?_
          generalize st7Cv (w5.alloc (.cells #[.int .i64 t.kind, .string t.fm, .string t.tt, .int .i64 t.so, .string t.name, .slice al t.labels.length cl, .slice ak t.kids.length ck] 25)) w.heap.size 0 (.int .i64 8) (.string ⟨#[]⟩) (.string ⟨#[]⟩) (.int .i64 0) (.string nm) (.slice none 0 0) (.slice (some ⟨w5.heap.size, 0, none⟩) 1 1) = W9 at TA R9 F9 G9 ⊢
          go_wp2_with fail
          refine bodyPost_ret (results_cell rfl rfl (load_cv TA.out)) rfl ?_
          exact ⟨⟨_, rfl, ⟨_, _, _, _, rfl, G9.out⟩, q5, R9.out, hl5⟩, F9.out⟩
  rw [if_neg h2]
  rw [decide_eq_false h2] at b2
  clear h2
  generalize hX : reName (rdE n) (rs s p) = X
  unfold reName at hX
  clear hwl
  generalize hx : bs (wd (rs s p)) = x at *
  go_enter Tryd.func27, Tryd.ntmps27
  go_wp2_with fail
  refine cW.mono ?_
  rintro e w1 ⟨rfl, hb1⟩
  have H1 := hideK (HA.out.keep hb1)
  have S1 := hideK (HS.out.keep (FR.of hb1) hrl)
  clear cW HA HS hb1
  cases hV : rdVar (rs s p) with
  | error r =>
    rw [hV] at hX
    simp only at hX
    subst hX
    go_wp2_with fail
    refine (readVar_bad hV rb p s _ H1.out rfl).mono ?_
    rintro e w3 ⟨rfl, hf3⟩
    go_wp2_with fail
    exact ⟨rfl, rfl, S1.out.fr.trans hf3⟩
  | ok y =>
    obtain ⟨nm, l2⟩ := y
    rw [hV] at hX
    simp only at hX
    have a1 := rdVar_ok hV
    have hnm : nm.size ≤ 9223372036854775807 := by have h8 := vr_len _ a1.1; rw [ba_len]; omega
    have HLN := hideK a1.2.2.2
    clear a1 hx
    have CR := hideK (fun W => isRole_any nm W hnm)
    go_wp2_with fail
    refine (readVar_ok hV rb p s _ H1.out rfl).mono ?_
    rintro e w2 ⟨rfl, ⟨q2, hq2, hl2⟩, hf2⟩
    have S2 := hideK (S1.out.keep hf2 hrl)
    clear S1 H1 hf2 hV
    by_cases hr : isRl nm.data.toList = true
    · rw [hr] at CR
      have HR1 := hideK hr
      have hlen := (rl_low hr).2
      have hll := HLN.out
      have hl2n : l2.length < n := by omega
      have HQ2 := hideK hq2
      clear hlen hll HLN
      have cK := fun W (hW : RS W rb s q2) => skip_any rb q2 s 62 W hW
      rw [hl2] at cK
      by_cases h62 : l2.head? = some 62
      · rw [if_pos ⟨hr, h62⟩] at hX
        simp only [h62, decide_true, if_true] at cK
        generalize hl3 : skB (l2.drop 1) = l3 at *
        have hdl : l3.length ≤ l2.length := by have := skB_len (l2.drop 1); rw [List.length_drop] at this; rw [← hl3]; omega
        have hlt : l3.length < n := by omega
        have CK := hideK cK
        clear hr h62 hl3 hdl hl2n cK
        go_wp2_with fail
        refine (CR.out _).mono ?_
        rintro e w3 ⟨rfl, rfl⟩
        go_wp2_with fail
        refine (CK.out _ hq2).mono ?_
        rintro e w4 ⟨rfl, ⟨q4, hq4, hl4⟩, hf4⟩
        have S4 := hideK (S2.out.keep hf4 hrl)
        have cS := readSaid_any n hR rb q4 s nm w4 hq4 HR1.out (by rw [hl4]; exact hlt)
        rw [hl4, hX] at cS
        have HW4 : Hid (w.heap.size < w4.heap.size) := S4.out.z.lt
        clear CK CR S2 hf4 hq2 hl2 hq4 hl4 HQ2
        cases X with
        | error r =>
          simp only [GPost] at cS ⊢
          go_wp2_with fail
          refine cS.mono ?_
          rintro e w5 ⟨rfl, hf5⟩
          go_wp2_with fail
          exact ⟨rfl, rfl, S4.out.fr.trans hf5⟩
        | ok y =>
          obtain ⟨t, l5⟩ := y
          simp only [GPost] at cS ⊢
          go_wp2_with fail
          refine cS.mono ?_
          rintro e w5 ⟨⟨z, rfl, ⟨al, cl, ak, ck, rfl, hg⟩, q5, hq5, hl5⟩, hf5⟩
          have S5 := hideK (S4.out.keep hf5 hrl)
          have HG := hideK hg
          have Q5 := hideK hq5
          simp only [valCv]
          clear cS hg hq5 hf5
          obtain ⟨zl, z0, z1, z2, z3, z4, z5, z6, zf⟩ := id S5.out.z
          have y0 := zf 0
          have y1 := zf 1
          have y2 := zf 2
          have y3 := zf 3
          have y4 := zf 4
          have y5 := zf 5
          have y6 := zf 6
          clear zf
          go_wp2_with fail
          have TA := S5.out.z.st t al cl ak ck
          have R9 := Q5.out.stCv (b := w.heap.size) (by omega) (.int .i64 t.kind) (.string t.fm) (.string t.tt) (.int .i64 t.so) (.string t.name) (.slice al t.labels.length cl) (.slice ak t.kids.length ck)
          have F9 := S5.out.fr.stCv (b := w.heap.size) (Nat.le_refl _) (.int .i64 t.kind) (.string t.fm) (.string t.tt) (.int .i64 t.so) (.string t.name) (.slice al t.labels.length cl) (.slice ak t.kids.length ck)
          have G9 := HG.out.st (w := w) (b := w.heap.size) HW4.out (.int .i64 t.kind) (.string t.fm) (.string t.tt) (.int .i64 t.so) (.string t.name) (.slice al t.labels.length cl) (.slice ak t.kids.length ck) (Nat.le_of_lt HW4.out)
          change CvAt (st7Cv w5 w.heap.size 0 (.int .i64 t.kind) (.string t.fm) (.string t.tt) (.int .i64 t.so) (.string t.name) (.slice al t.labels.length cl) (.slice ak t.kids.length ck)) _ _ _ _ _ _ _ at TA
          change bodyPost _ _ _ _ _ (st7Cv w5 w.heap.size 0 (.int .i64 t.kind) (.string t.fm) (.string t.tt) (.int .i64 t.so) (.string t.name) (.slice al t.labels.length cl) (.slice ak t.kids.length ck))
          generalize st7Cv w5 w.heap.size 0 (.int .i64 t.kind) (.string t.fm) (.string t.tt) (.int .i64 t.so) (.string t.name) (.slice al t.labels.length cl) (.slice ak t.kids.length ck) = W9 at TA R9 F9 G9 ⊢
          refine bodyPost_ret (results_cell rfl rfl (load_cv TA)) rfl ?_
          exact ⟨⟨_, rfl, ⟨_, _, _, _, rfl, G9⟩, q5, R9, hl5⟩, F9⟩
      · rw [if_neg (fun q => h62 q.2)] at hX
        subst hX
        simp only [h62, decide_false, if_false] at cK
        have CK := hideK cK
        clear hr h62 hl2n cK
        go_wp2_with fail
        refine (CR.out _).mono ?_
        rintro e w3 ⟨rfl, rfl⟩
        go_wp2_with fail
        refine (CK.out _ hq2).mono ?_
        rintro e w4 ⟨rfl, ⟨q4, hq4, hl4⟩, hf4⟩
        have S4 := hideK (S2.out.keep hf4 hrl)
        clear CK CR S2 hf4 hq2 hl2 HQ2
        obtain ⟨zl, z0, z1, z2, z3, z4, z5, z6, zf⟩ := id S4.out.z
        have y0 := zf 0
        have y1 := zf 1
        have y2 := zf 2
        have y3 := zf 3
        have y4 := zf 4
        have y5 := zf 5
        have y6 := zf 6
        clear zf
        go_wp2_with fail
        have TA := S4.out.z.st ⟨9, ⟨#[]⟩, ⟨#[]⟩, 0, nm, [], []⟩ none 0 none 0
        have R9 := hq4.stCv (b := w.heap.size) (by omega) (.int .i64 9) (.string ⟨#[]⟩) (.string ⟨#[]⟩) (.int .i64 0) (.string nm) (.slice none 0 0) (.slice none 0 0)
        have F9 := S4.out.fr.stCv (b := w.heap.size) (Nat.le_refl _) (.int .i64 9) (.string ⟨#[]⟩) (.string ⟨#[]⟩) (.int .i64 0) (.string nm) (.slice none 0 0) (.slice none 0 0)
        change CvAt (st7Cv w4 w.heap.size 0 (.int .i64 9) (.string ⟨#[]⟩) (.string ⟨#[]⟩) (.int .i64 0) (.string nm) (.slice none 0 0) (.slice none 0 0)) _ _ _ _ _ _ _ at TA
        change bodyPost _ _ _ _ _ (st7Cv w4 w.heap.size 0 (.int .i64 9) (.string ⟨#[]⟩) (.string ⟨#[]⟩) (.int .i64 0) (.string nm) (.slice none 0 0) (.slice none 0 0))
        generalize st7Cv w4 w.heap.size 0 (.int .i64 9) (.string ⟨#[]⟩) (.string ⟨#[]⟩) (.int .i64 0) (.string nm) (.slice none 0 0) (.slice none 0 0) = W9 at TA R9 F9 ⊢
        refine bodyPost_ret (results_cell rfl rfl (load_cv TA)) rfl ?_
        exact ⟨⟨_, rfl, ⟨none, 0, none, 0, rfl, GCv.leaf _ _ _ 9 ⟨#[]⟩ ⟨#[]⟩ 0 nm (by decide) (by decide) hnm⟩, q4, R9, hl4⟩, F9⟩
    · rw [if_neg (fun q => hr q.1)] at hX
      subst hX
      have hrf : isRl nm.data.toList = false := by simpa using hr
      rw [hrf] at CR
      clear hr hrf HLN
      go_wp2_with fail
      refine (CR.out _).mono ?_
      rintro e w3 ⟨rfl, rfl⟩
      clear CR
      obtain ⟨zl, z0, z1, z2, z3, z4, z5, z6, zf⟩ := id S2.out.z
      have y0 := zf 0
      have y1 := zf 1
      have y2 := zf 2
      have y3 := zf 3
      have y4 := zf 4
      have y5 := zf 5
      have y6 := zf 6
      clear zf
      go_wp2_with fail
      have TA := S2.out.z.st ⟨9, ⟨#[]⟩, ⟨#[]⟩, 0, nm, [], []⟩ none 0 none 0
      have R9 := hq2.stCv (b := w.heap.size) (by omega) (.int .i64 9) (.string ⟨#[]⟩) (.string ⟨#[]⟩) (.int .i64 0) (.string nm) (.slice none 0 0) (.slice none 0 0)
      have F9 := S2.out.fr.stCv (b := w.heap.size) (Nat.le_refl _) (.int .i64 9) (.string ⟨#[]⟩) (.string ⟨#[]⟩) (.int .i64 0) (.string nm) (.slice none 0 0) (.slice none 0 0)
      change CvAt (st7Cv w3 w.heap.size 0 (.int .i64 9) (.string ⟨#[]⟩) (.string ⟨#[]⟩) (.int .i64 0) (.string nm) (.slice none 0 0) (.slice none 0 0)) _ _ _ _ _ _ _ at TA
      change bodyPost _ _ _ _ _ (st7Cv w3 w.heap.size 0 (.int .i64 9) (.string ⟨#[]⟩) (.string ⟨#[]⟩) (.int .i64 0) (.string nm) (.slice none 0 0) (.slice none 0 0))
      generalize st7Cv w3 w.heap.size 0 (.int .i64 9) (.string ⟨#[]⟩) (.string ⟨#[]⟩) (.int .i64 0) (.string nm) (.slice none 0 0) (.slice none 0 0) = W9 at TA R9 F9 ⊢
      refine bodyPost_ret (results_cell rfl rfl (load_cv TA)) rfl ?_
      exact ⟨⟨_, rfl, ⟨none, 0, none, 0, rfl, GCv.leaf _ _ _ 9 ⟨#[]⟩ ⟨#[]⟩ 0 nm (by decide) (by decide) hnm⟩, q2, R9, hl2⟩, F9⟩
theorem readE_all (n : Nat) : RESaid n := by
  induction n with
  | zero => intro rb p s w _ h; exact absurd h (by omega)
  | succ n ih => exact readE_step n ih
end Go.Proofs.YtfmegfgmkeicnaaDoor
