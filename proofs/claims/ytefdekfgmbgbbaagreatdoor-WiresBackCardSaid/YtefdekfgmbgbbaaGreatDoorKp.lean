/-
  The contract of types.readMessage, if that of types.read holds of shorter texts.
-/
import Derived.Test.YtefdekfgmbgbbaaGreatDoorKn
import Derived.Deep.RegionHeld3
namespace Go.Proofs.YtefdekfgmbgbbaaGreatDoor
open Go.RowKit Go.Shelf

/-- a type of two parts, which lie in a literal -/
theorem GT.two {w w1 w2 W : World} {n b : Nat} {c d : Ty} {al : Option Addr} {cl : Nat} {ak : Option Addr} {ck : Nat} {al2 : Option Addr} {cl2 : Nat} {ak2 : Option Addr} {ck2 : Nat} (hg : GT w1 W n c al cl ak ck) (hg2 : GT w2 W n d al2 cl2 ak2 ck2) (hw : w.heap.size ≤ b) (hb : b < w1.heap.size) (hb2 : b < w2.heap.size) (h1 : w1.heap.size ≤ W.heap.size) (k : Int) (v0 v1 v2 v3 v4 : Value) :
    GT w (st5 (W.alloc (.cells #[.int .i64 c.kind, .int .i64 c.so, .string c.name, .slice al c.labels.length cl, .slice ak c.kids.length ck, .int .i64 d.kind, .int .i64 d.so, .string d.name, .slice al2 d.labels.length cl2, .slice ak2 d.kids.length ck2] 31)) b 0 v0 v1 v2 v3 v4) (n + 1) ⟨k, 0, ⟨#[]⟩, [], [c, d]⟩ none 0 (some ⟨W.heap.size, 0, none⟩) 2 := by
  have hn : ∀ o, (st5 (W.alloc (.cells #[.int .i64 c.kind, .int .i64 c.so, .string c.name, .slice al c.labels.length cl, .slice ak c.kids.length ck, .int .i64 d.kind, .int .i64 d.so, .string d.name, .slice al2 d.labels.length cl2, .slice ak2 d.kids.length ck2] 31)) b 0 v0 v1 v2 v3 v4).cell? ⟨W.heap.size, o, none⟩ = (#[.int .i64 c.kind, .int .i64 c.so, .string c.name, .slice al c.labels.length cl, .slice ak c.kids.length ck, .int .i64 d.kind, .int .i64 d.so, .string d.name, .slice al2 d.labels.length cl2, .slice ak2 d.kids.length ck2] : Array Value)[o]? := fun o =>
    (st5_other _ _ _ _ _ _ _ _ _ _ (.inl (by omega))).trans (World.cell?_alloc_new _ _ _ _)
  have hk : ∀ b' o, (NW w1 W b' ∨ NW w2 W b') → (st5 (W.alloc (.cells #[.int .i64 c.kind, .int .i64 c.so, .string c.name, .slice al c.labels.length cl, .slice ak c.kids.length ck, .int .i64 d.kind, .int .i64 d.so, .string d.name, .slice al2 d.labels.length cl2, .slice ak2 d.kids.length ck2] 31)) b 0 v0 v1 v2 v3 v4).cell? ⟨b', o, none⟩ = W.cell? ⟨b', o, none⟩ := fun b' o hb' =>
    (st5_other _ _ _ _ _ _ _ _ _ _ (.inl (by rcases hb' with h | h <;> (have := h.1; omega)))).trans ((FR.al (pb := W.heap.size) _).cellO (by rcases hb' with h | h <;> exact h.2) (by rcases hb' with h | h <;> (have := h.2; omega)))
  have hq : ∀ b', (NW w1 W b' ∨ NW w2 W b') → NW w (st5 (W.alloc (.cells #[.int .i64 c.kind, .int .i64 c.so, .string c.name, .slice al c.labels.length cl, .slice ak c.kids.length ck, .int .i64 d.kind, .int .i64 d.so, .string d.name, .slice al2 d.labels.length cl2, .slice ak2 d.kids.length ck2] 31)) b 0 v0 v1 v2 v3 v4) b' := fun b' hb' => ⟨by rcases hb' with h | h <;> (have := h.1; omega), by rw [st5_size]; rcases hb' with h | h <;> (have := h.2; simp; omega)⟩
  refine ⟨⟨by show (⟨#[]⟩ : ByteArray).size ≤ _; decide, fun l hl => (by cases hl), Nat.le_refl _, by omega, Nat.le_refl _, by omega⟩, .inl rfl, .inr ⟨W.heap.size, 0, rfl, ⟨by omega, by rw [st5_size]; simp⟩, fun i hi => ?_⟩⟩
  have h0 : i = 0 ∨ i = 1 := by simp at hi; omega
  rcases h0 with rfl | rfl
  · exact ⟨al, cl, ak, ck, ⟨hn 0, hn 1, hn 2, hn 3, hn 4⟩, hg.bd, hg.la.keep (fun b' o h => hk b' o (.inl h)) (fun b' h => hq b' (.inl h)), hg.ka.keep (fun b' o h => hk b' o (.inl h)) (fun b' h => hq b' (.inl h))⟩
  · exact ⟨al2, cl2, ak2, ck2, ⟨hn 5, hn 6, hn 7, hn 8, hn 9⟩, hg2.bd, hg2.la.keep (fun b' o h => hk b' o (.inr h)) (fun b' h => hq b' (.inr h)), hg2.ka.keep (fun b' o h => hk b' o (.inr h)) (fun b' h => hq b' (.inr h))⟩

theorem TyAt.lit (W : World) (t : Ty) (al : Option Addr) (cl : Nat) (ak : Option Addr) (ck : Nat) : TyAt (W.alloc (.cells #[.int .i64 t.kind, .int .i64 t.so, .string t.name, .slice al t.labels.length cl, .slice ak t.kids.length ck] 31)) W.heap.size 0 t al cl ak ck :=
  ⟨by go_cell, by go_cell, by go_cell, by go_cell, by go_cell⟩
theorem TyAt.keepF {W W' : World} {rb b o : Nat} {t : Ty} {al : Option Addr} {cl : Nat} {ak : Option Addr} {ck : Nat} (h : TyAt W b o t al cl ak ck) (hf : FR rb W W') (hn : b ≠ rb) (hl : b < W.heap.size) : TyAt W' b o t al cl ak ck :=
  ⟨(hf.cellO hl hn).trans h.c0, (hf.cellO hl hn).trans h.c1, (hf.cellO hl hn).trans h.c2, (hf.cellO hl hn).trans h.c3, (hf.cellO hl hn).trans h.c4⟩
theorem take_one {P : Program} {ops : Array Oper} {md : Region.Mode} {Q : Exit → Act → World → Prop} {fuel : Nat} {listed : Array Bool} {a : Act} {w : World} (i : Nat) (h : AllReady P md ops Q fuel listed a w [i]) (hr : Region.ready md ops listed = [i]) : wpAny P md ops Q (fuel + 1) listed a w := wpAny_ready hr (by simp) h

set_option maxRecDepth 100000 in
set_option maxHeartbeats 4000000 in
theorem readMessage_any (n : Nat) (hR : RDSaid n) (rb p : Nat) (s : ByteArray) (a b : Int) (w : World) (h : RS w rb s p) (hn : (rs s p).length < n) :
    Calls Tryz.prog 75 #[.pointer (some ⟨rb, 0, none⟩), .int .i64 a, .int .i64 b] w fun e w' => GPost s rb (TyR w (n + 1)) (rdMsg (rdT n) a b (rs s p)) e w' ∧ FR rb w w' := by
  have hrl := h.lt
  have HA := hideK (h.al (.cells #[.int .i64 0, .int .i64 0, .string ⟨#[]⟩, .slice none 0 0, .slice none 0 0] 31))
  have HZ := hideK (ZT.new w)
  have HF := hideK (FR.al (pb := rb) (w := w) (.cells #[.int .i64 0, .int .i64 0, .string ⟨#[]⟩, .slice none 0 0, .slice none 0 0] 31))
  have cK := skip_any rb p s 123 _ HA.out
  unfold rdMsg
  clear h
  by_cases hh : (rs s p).head? = some 123
  · rw [if_pos hh]
    rw [decide_eq_true hh, if_pos hh] at cK
    have hs1 := skd_len 1 _ (head_pos _ _ hh)
    clear hh
    generalize skB ((rs s p).drop 1) = l1 at *
    have hlt1 : l1.length < n := by omega
    unfold rdGive
    cases hT1 : rdT n l1 with
    | error r =>
      simp only [GPost]
      go_enter Tryz.func75, Tryz.ntmps75
      go_wp2_with fail
      refine cK.mono ?_
      rintro e w1 ⟨rfl, ⟨q1, hq1, hl1⟩, hf1⟩
      have F1 := hideK (HF.out.trans hf1)
      have Z1 := hideK (HZ.out.keep hf1 (by omega))
      go_wp2_with fail
      refine (read_bad hR hT1 hlt1 rb q1 s _ hq1 hl1).mono ?_
      rintro e w2 ⟨rfl, hf2⟩
      have F2 := hideK (F1.out.trans hf2)
      go_wp2_with fail
      exact ⟨rfl, rfl, F2.out⟩
    | ok x =>
      obtain ⟨c, l2⟩ := x
      have a1 := rdT_short n _ _ _ hT1
      simp only
      cases hN2 : need 125 l2 with
      | error r =>
        simp only [GPost]
        clear a1 hs1 hn
        go_enter Tryz.func75, Tryz.ntmps75
        go_wp2_with fail
        refine cK.mono ?_
        rintro e w1 ⟨rfl, ⟨q1, hq1, hl1⟩, hf1⟩
        have F1 := hideK (HF.out.trans hf1)
        have Z1 := hideK (HZ.out.keep hf1 (by omega))
        go_wp2_with fail
        refine (read_ok hR hT1 hlt1 rb q1 s _ hq1 hl1).mono ?_
        rintro e w2 ⟨⟨al, cl, ak, ck, rfl, hg1⟩, ⟨q2, hq2, hl2⟩, hf2⟩
        have F2 := hideK (F1.out.trans hf2)
        have Z2 := hideK (Z1.out.keep hf2 (by omega))
        have C2 := hideK (TyAt.lit w2 c al cl ak ck)
        go_wp2_with fail
        refine (need_bad hN2 rb q2 s _ (hq2.al _) hl2).mono ?_
        rintro e w3 ⟨rfl, hf3⟩
        have F3 := hideK ((F2.out.trans (FR.al _)).trans hf3)
        go_wp2_with fail
        exact ⟨rfl, rfl, F3.out⟩
      | ok l3 =>
        have a2 := need_ok hN2
        simp only
        cases hN3 : need 46 l3 with
        | error r =>
          simp only [GPost]
          clear a1 a2 hs1 hn
          go_enter Tryz.func75, Tryz.ntmps75
          go_wp2_with fail
          refine cK.mono ?_
          rintro e w1 ⟨rfl, ⟨q1, hq1, hl1⟩, hf1⟩
          have F1 := hideK (HF.out.trans hf1)
          have Z1 := hideK (HZ.out.keep hf1 (by omega))
          go_wp2_with fail
          refine (read_ok hR hT1 hlt1 rb q1 s _ hq1 hl1).mono ?_
          rintro e w2 ⟨⟨al, cl, ak, ck, rfl, hg1⟩, ⟨q2, hq2, hl2⟩, hf2⟩
          have F2 := hideK (F1.out.trans hf2)
          have Z2 := hideK (Z1.out.keep hf2 (by omega))
          have C2 := hideK (TyAt.lit w2 c al cl ak ck)
          go_wp2_with fail
          refine (need_good hN2 rb q2 s _ (hq2.al _) hl2).mono ?_
          rintro e w3 ⟨rfl, ⟨q3, hq3, hl3⟩, hf3⟩
          have F3 := hideK ((F2.out.trans (FR.al _)).trans hf3)
          have Z3 := hideK ((Z2.out.keep (FR.al (pb := rb) _) (by omega)).keep hf3 (by omega))
          have hrl2 := hq2.lt
          have C3 := hideK (C2.out.keepF hf3 (by omega) (by simp))
          go_wp2_with fail
          refine (need_bad hN3 rb q3 s _ hq3 hl3).mono ?_
          rintro e w4 ⟨rfl, hf4⟩
          have F4 := hideK (F3.out.trans hf4)
          go_wp2_with fail
          exact ⟨rfl, rfl, F4.out⟩
        | ok l4 =>
          have a3 := need_ok hN3
          have hlt4 : l4.length < n := by omega
          simp only
          cases hT4 : rdT n l4 with
          | error r =>
            simp only [GPost]
            clear a1 a2 a3 hs1 hn
            go_enter Tryz.func75, Tryz.ntmps75
            go_wp2_with fail
            refine cK.mono ?_
            rintro e w1 ⟨rfl, ⟨q1, hq1, hl1⟩, hf1⟩
            have F1 := hideK (HF.out.trans hf1)
            have Z1 := hideK (HZ.out.keep hf1 (by omega))
            go_wp2_with fail
            refine (read_ok hR hT1 hlt1 rb q1 s _ hq1 hl1).mono ?_
            rintro e w2 ⟨⟨al, cl, ak, ck, rfl, hg1⟩, ⟨q2, hq2, hl2⟩, hf2⟩
            have F2 := hideK (F1.out.trans hf2)
            have Z2 := hideK (Z1.out.keep hf2 (by omega))
            have C2 := hideK (TyAt.lit w2 c al cl ak ck)
            go_wp2_with fail
            refine (need_good hN2 rb q2 s _ (hq2.al _) hl2).mono ?_
            rintro e w3 ⟨rfl, ⟨q3, hq3, hl3⟩, hf3⟩
            have F3 := hideK ((F2.out.trans (FR.al _)).trans hf3)
            have Z3 := hideK ((Z2.out.keep (FR.al (pb := rb) _) (by omega)).keep hf3 (by omega))
            have hrl2 := hq2.lt
            have C3 := hideK (C2.out.keepF hf3 (by omega) (by simp))
            go_wp2_with fail
            refine (need_good hN3 rb q3 s _ hq3 hl3).mono ?_
            rintro e w4 ⟨rfl, ⟨q4, hq4, hl4⟩, hf4⟩
            have F4 := hideK (F3.out.trans hf4)
            have Z4 := hideK (Z3.out.keep hf4 (by omega))
            have C4 := hideK (C3.out.keepF hf4 (by omega) (by have := hf3.size; simp at this; omega))
            go_wp2_with fail
            obtain ⟨x0, x1, x2, x3, x4⟩ := C4.out
            simp only [Nat.zero_add] at x1 x2 x3 x4
            have Rd := hideK (hq4.keep (Below.refl w4.heap.size w4).drew)
            have Fd := hideK (F4.out.trans (FR.of (Below.refl w4.heap.size w4).drew))
            refine wp_region_any (by kernel_rfl) ?_
            change wpAny _ _ _ _ _ _ _ (World.drew _)
            refine wpAny_take (i := 0) (v := .int .i64 b) rfl (by kernel_rfl) (by kernel_rfl) (by kernel_rfl) (fun _ _ _ h => h) (Or.inl ⟨by rfl, fun w => by go_simp⟩) ?_
            refine wpAny_take (i := 2) (v := .pointer (some ⟨rb, 0, none⟩)) rfl (by kernel_rfl) (by kernel_rfl) (by kernel_rfl) (fun _ _ _ h => h) (Or.inl ⟨by rfl, fun w => by go_simp⟩) ?_
            refine wpAny_ready (rs := [1, 3]) (by kernel_rfl) (by simp) ?_
            refine AllReady.cons rfl (fun K hK => ?_) (AllReady.cons rfl (fun K hK => ?_) AllReady.nil)
            · go_simp
              refine hK _ _ ?_
              clear hK K
              refine take_one 3 (AllReady.cons rfl (fun K hK => ?_) AllReady.nil) (by kernel_rfl)
              go_simp
              refine (read_bad hR hT4 hlt4 rb q4 s _ Rd.out hl4).mono ?_
              rintro e w5 ⟨rfl, hf5⟩
              exact ⟨rfl, rfl, Fd.out.trans hf5⟩
            · go_simp
              refine (read_bad hR hT4 hlt4 rb q4 s _ Rd.out hl4).mono ?_
              rintro e w5 ⟨rfl, hf5⟩
              exact ⟨rfl, rfl, Fd.out.trans hf5⟩
          | ok x =>
            obtain ⟨d, l5⟩ := x
            simp only [GPost]
            clear a1 a2 a3 hs1 hn
            go_enter Tryz.func75, Tryz.ntmps75
            go_wp2_with fail
            refine cK.mono ?_
            rintro e w1 ⟨rfl, ⟨q1, hq1, hl1⟩, hf1⟩
            have F1 := hideK (HF.out.trans hf1)
            have Z1 := hideK (HZ.out.keep hf1 (by omega))
            go_wp2_with fail
            refine (read_ok hR hT1 hlt1 rb q1 s _ hq1 hl1).mono ?_
            rintro e w2 ⟨⟨al, cl, ak, ck, rfl, hg1⟩, ⟨q2, hq2, hl2⟩, hf2⟩
            have F2 := hideK (F1.out.trans hf2)
            have Z2 := hideK (Z1.out.keep hf2 (by omega))
            have C2 := hideK (TyAt.lit w2 c al cl ak ck)
            go_wp2_with fail
            refine (need_good hN2 rb q2 s _ (hq2.al _) hl2).mono ?_
            rintro e w3 ⟨rfl, ⟨q3, hq3, hl3⟩, hf3⟩
            have F3 := hideK ((F2.out.trans (FR.al _)).trans hf3)
            have Z3 := hideK ((Z2.out.keep (FR.al (pb := rb) _) (by omega)).keep hf3 (by omega))
            have hrl2 := hq2.lt
            have C3 := hideK (C2.out.keepF hf3 (by omega) (by simp))
            go_wp2_with fail
            refine (need_good hN3 rb q3 s _ hq3 hl3).mono ?_
            rintro e w4 ⟨rfl, ⟨q4, hq4, hl4⟩, hf4⟩
            have F4 := hideK (F3.out.trans hf4)
            have Z4 := hideK (Z3.out.keep hf4 (by omega))
            have C4 := hideK (C3.out.keepF hf4 (by omega) (by have := hf3.size; simp at this; omega))
            go_wp2_with fail
            obtain ⟨x0, x1, x2, x3, x4⟩ := C4.out
            simp only [Nat.zero_add] at x1 x2 x3 x4
            have Rd := hideK (hq4.keep (Below.refl w4.heap.size w4).drew)
            have Fd := hideK (F4.out.trans (FR.of (Below.refl w4.heap.size w4).drew))
            have Zd := hideK (Z4.out.keep (FR.of (pb := rb) (Below.refl w4.heap.size w4).drew) (by omega))
            have Cd := hideK (C4.out.keepF (FR.of (pb := rb) (Below.refl w4.heap.size w4).drew) (by omega) (lt_of_cell x0))
            have hz2 := Z2.out.lt
            have hcl : w2.heap.size < w4.drew.heap.size := lt_of_cell x0
            have n1 : ¬ w.heap.size = w2.heap.size := by omega
            have n2 : ¬ w2.heap.size = w.heap.size := by omega
            have HG1 := hideK hg1
            clear hg1
            go_region_held3 (fun w' => w'.cell? ⟨w2.heap.size, 0, none⟩ = some (.int .i64 c.kind) ∧ w'.cell? ⟨w2.heap.size, 1, none⟩ = some (.int .i64 c.so) ∧ w'.cell? ⟨w2.heap.size, 2, none⟩ = some (.string c.name) ∧ w'.cell? ⟨w2.heap.size, 3, none⟩ = some (.slice al c.labels.length cl) ∧ w'.cell? ⟨w2.heap.size, 4, none⟩ = some (.slice ak c.kids.length ck)) (go_keep) (first
              | (go_at_call 60; go_must (refine (read_ok hR hT4 hlt4 rb q4 s _ Rd.out hl4).mono ?_; rintro e w5 ⟨⟨al2, cl2, ak2, ck2, rfl, hg2⟩, ⟨q5, hq5, hl5⟩, hf5⟩; obtain ⟨u0, u1, u2, u3, u4⟩ := Cd.out.keepF hf5 (by omega) hcl; simp only [Nat.zero_add] at u1 u2 u3 u4; have Z5 := Zd.out.keep hf5 (by omega); have Z6 := Z5.keep (FR.al (pb := rb) (.cells #[.int .i64 c.kind, .int .i64 c.so, .string c.name, .slice al c.labels.length cl, .slice ak c.kids.length ck, .int .i64 d.kind, .int .i64 d.so, .string d.name, .slice al2 d.labels.length cl2, .slice ak2 d.kids.length ck2] 31)) (by omega); obtain ⟨zl, z0, z1, z2, z3, z4, y0, y1, y2, y3, y4⟩ := id Z6; have m1 : ¬ w5.heap.size = w2.heap.size := (by have := hf5.size; omega); have m2 : ¬ w2.heap.size = w5.heap.size := (by have := hf5.size; omega))))
            all_goals
              go_wp2_with fail
              have TA := (Z6).st ⟨b, 0, ⟨#[]⟩, [], [c, d]⟩ none 0 (some ⟨w5.heap.size, 0, none⟩) 2
              have R9 := (hq5.al (.cells #[.int .i64 c.kind, .int .i64 c.so, .string c.name, .slice al c.labels.length cl, .slice ak c.kids.length ck, .int .i64 d.kind, .int .i64 d.so, .string d.name, .slice al2 d.labels.length cl2, .slice ak2 d.kids.length ck2] 31)).st (b := w.heap.size) (by omega) (.int .i64 b) (.int .i64 0) (.string ⟨#[]⟩) (.slice none 0 0) (.slice (some ⟨w5.heap.size, 0, none⟩) 2 2)
              have F9 := ((Fd.out.trans hf5).trans (FR.al (.cells #[.int .i64 c.kind, .int .i64 c.so, .string c.name, .slice al c.labels.length cl, .slice ak c.kids.length ck, .int .i64 d.kind, .int .i64 d.so, .string d.name, .slice al2 d.labels.length cl2, .slice ak2 d.kids.length ck2] 31))).st (Nat.le_refl _) (.int .i64 b) (.int .i64 0) (.string ⟨#[]⟩) (.slice none 0 0) (.slice (some ⟨w5.heap.size, 0, none⟩) 2 2)
              have G9 := ((((HG1.out.keep (rb := rb) (FR.al _) (by have := hf1.size; simp at this; omega)).keep hf3 (by have := hf1.size; simp at this; omega)).keep hf4 (by have := hf1.size; simp at this; omega)).keep ((FR.of (Below.refl w4.heap.size w4).drew).trans hf5) (by have := hf1.size; simp at this; omega)).two (w := w) (b := w.heap.size) hg2 (Nat.le_refl _) (by have := hf1.size; simp at this; omega) (by have := Zd.out.lt; omega) (by have := hf2.size; have := hf3.size; have := hf4.size; have := hf5.size; simp at *; omega) b (.int .i64 b) (.int .i64 0) (.string ⟨#[]⟩) (.slice none 0 0) (.slice (some ⟨w5.heap.size, 0, none⟩) 2 2)
              change TyAt (st5 (w5.alloc (.cells #[.int .i64 c.kind, .int .i64 c.so, .string c.name, .slice al c.labels.length cl, .slice ak c.kids.length ck, .int .i64 d.kind, .int .i64 d.so, .string d.name, .slice al2 d.labels.length cl2, .slice ak2 d.kids.length ck2] 31)) w.heap.size 0 (.int .i64 b) (.int .i64 0) (.string ⟨#[]⟩) (.slice none 0 0) (.slice (some ⟨w5.heap.size, 0, none⟩) 2 2)) _ _ _ _ _ _ _ at TA
              change GT _ (st5 (w5.alloc (.cells #[.int .i64 c.kind, .int .i64 c.so, .string c.name, .slice al c.labels.length cl, .slice ak c.kids.length ck, .int .i64 d.kind, .int .i64 d.so, .string d.name, .slice al2 d.labels.length cl2, .slice ak2 d.kids.length ck2] 31)) w.heap.size 0 (.int .i64 b) (.int .i64 0) (.string ⟨#[]⟩) (.slice none 0 0) (.slice (some ⟨w5.heap.size, 0, none⟩) 2 2)) _ _ _ _ _ _ at G9
              change bodyPost _ _ _ _ _ (st5 (w5.alloc (.cells #[.int .i64 c.kind, .int .i64 c.so, .string c.name, .slice al c.labels.length cl, .slice ak c.kids.length ck, .int .i64 d.kind, .int .i64 d.so, .string d.name, .slice al2 d.labels.length cl2, .slice ak2 d.kids.length ck2] 31)) w.heap.size 0 (.int .i64 b) (.int .i64 0) (.string ⟨#[]⟩) (.slice none 0 0) (.slice (some ⟨w5.heap.size, 0, none⟩) 2 2))
              generalize st5 (w5.alloc (.cells #[.int .i64 c.kind, .int .i64 c.so, .string c.name, .slice al c.labels.length cl, .slice ak c.kids.length ck, .int .i64 d.kind, .int .i64 d.so, .string d.name, .slice al2 d.labels.length cl2, .slice ak2 d.kids.length ck2] 31)) w.heap.size 0 (.int .i64 b) (.int .i64 0) (.string ⟨#[]⟩) (.slice none 0 0) (.slice (some ⟨w5.heap.size, 0, none⟩) 2 2) = W9 at TA R9 F9 G9 ⊢
              obtain ⟨r0, r1, r2, r3, r4⟩ := TA
              simp only [Nat.zero_add, List.length_nil, List.length_cons] at r1 r2 r3 r4
              refine bodyPost_ret (v := tyVal ⟨b, 0, ⟨#[]⟩, [], [c, d]⟩ none 0 (some ⟨w5.heap.size, 0, none⟩) 2) (by simp [results, Tryz.results75, go_sem, tyVal, r0, r1, r2, r3, r4]) rfl ?_
              exact ⟨⟨_, rfl, ⟨_, _, _, _, rfl, G9⟩, q5, R9, hl5⟩, F9⟩
  · rw [if_neg hh]
    rw [decide_eq_false hh, if_neg hh] at cK
    clear hh
    generalize rs s p = l1 at *
    unfold rdSend
    cases hS : rdSort l1 with
    | error r =>
      simp only [GPost]
      go_enter Tryz.func75, Tryz.ntmps75
      go_wp2_with fail
      refine cK.mono ?_
      rintro e w1 ⟨rfl, ⟨q1, hq1, hl1⟩, hf1⟩
      have F1 := hideK (HF.out.trans hf1)
      have Z1 := hideK (HZ.out.keep hf1 (by omega))
      go_wp2_with fail
      refine (readSort_bad hS rb q1 s _ hq1 hl1).mono ?_
      rintro e w2 ⟨rfl, hf2⟩
      have F2 := hideK (F1.out.trans hf2)
      go_wp2_with fail
      exact ⟨rfl, rfl, F2.out⟩
    | ok x =>
      obtain ⟨so, l2⟩ := x
      have a1 := rdSort_ok hS
      simp only
      cases hN2 : need 46 l2 with
      | error r =>
        simp only [GPost]
        clear a1
        go_enter Tryz.func75, Tryz.ntmps75
        go_wp2_with fail
        refine cK.mono ?_
        rintro e w1 ⟨rfl, ⟨q1, hq1, hl1⟩, hf1⟩
        have F1 := hideK (HF.out.trans hf1)
        have Z1 := hideK (HZ.out.keep hf1 (by omega))
        go_wp2_with fail
        refine (readSort_ok hS rb q1 s _ hq1 hl1).mono ?_
        rintro e w2 ⟨rfl, ⟨q2, hq2, hl2⟩, hf2⟩
        have F2 := hideK (F1.out.trans hf2)
        have Z2 := hideK (Z1.out.keep hf2 (by omega))
        go_wp2_with fail
        refine (need_bad hN2 rb q2 s _ hq2 hl2).mono ?_
        rintro e w3 ⟨rfl, hf3⟩
        have F3 := hideK (F2.out.trans hf3)
        go_wp2_with fail
        exact ⟨rfl, rfl, F3.out⟩
      | ok l3 =>
        have a2 := need_ok hN2
        have hlt : l3.length < n := by omega
        simp only
        cases hT : rdT n l3 with
        | error r =>
          simp only [GPost]
          clear a1 a2
          go_enter Tryz.func75, Tryz.ntmps75
          go_wp2_with fail
          refine cK.mono ?_
          rintro e w1 ⟨rfl, ⟨q1, hq1, hl1⟩, hf1⟩
          have F1 := hideK (HF.out.trans hf1)
          have Z1 := hideK (HZ.out.keep hf1 (by omega))
          go_wp2_with fail
          refine (readSort_ok hS rb q1 s _ hq1 hl1).mono ?_
          rintro e w2 ⟨rfl, ⟨q2, hq2, hl2⟩, hf2⟩
          have F2 := hideK (F1.out.trans hf2)
          have Z2 := hideK (Z1.out.keep hf2 (by omega))
          go_wp2_with fail
          refine (need_good hN2 rb q2 s _ hq2 hl2).mono ?_
          rintro e w3 ⟨rfl, ⟨q3, hq3, hl3⟩, hf3⟩
          have F3 := hideK (F2.out.trans hf3)
          have Z3 := hideK (Z2.out.keep hf3 (by omega))
          go_wp2_with fail
          refine (read_bad hR hT hlt rb q3 s _ hq3 hl3).mono ?_
          rintro e w4 ⟨rfl, hf4⟩
          have F4 := hideK (F3.out.trans hf4)
          go_wp2_with fail
          exact ⟨rfl, rfl, F4.out⟩
        | ok x =>
          obtain ⟨d, l4⟩ := x
          simp only [GPost]
          clear a1 a2
          go_enter Tryz.func75, Tryz.ntmps75
          go_wp2_with fail
          refine cK.mono ?_
          rintro e w1 ⟨rfl, ⟨q1, hq1, hl1⟩, hf1⟩
          have F1 := hideK (HF.out.trans hf1)
          have Z1 := hideK (HZ.out.keep hf1 (by omega))
          go_wp2_with fail
          refine (readSort_ok hS rb q1 s _ hq1 hl1).mono ?_
          rintro e w2 ⟨rfl, ⟨q2, hq2, hl2⟩, hf2⟩
          have F2 := hideK (F1.out.trans hf2)
          have Z2 := hideK (Z1.out.keep hf2 (by omega))
          go_wp2_with fail
          refine (need_good hN2 rb q2 s _ hq2 hl2).mono ?_
          rintro e w3 ⟨rfl, ⟨q3, hq3, hl3⟩, hf3⟩
          have F3 := hideK (F2.out.trans hf3)
          have Z3 := hideK (Z2.out.keep hf3 (by omega))
          go_wp2_with fail
          refine (read_ok hR hT hlt rb q3 s _ hq3 hl3).mono ?_
          rintro e w4 ⟨⟨al, cl, ak, ck, rfl, hg⟩, ⟨q4, hq4, hl4⟩, hf4⟩
          have F4 := hideK (F3.out.trans hf4)
          have Z4 := hideK (Z3.out.keep hf4 (by omega))
          have Z6 := (Z4.out.keep (FR.al (pb := rb) (.cells #[.int .i64 d.kind, .int .i64 d.so, .string d.name, .slice al d.labels.length cl, .slice ak d.kids.length ck] 31)) (by omega))
          obtain ⟨zl, z0, z1, z2, z3, z4, y0, y1, y2, y3, y4⟩ := id Z6
          go_wp2_with fail
          have TA := (Z6).st ⟨a, so, ⟨#[]⟩, [], [d]⟩ none 0 (some ⟨w4.heap.size, 0, none⟩) 1
          have R9 := (hq4.al (.cells #[.int .i64 d.kind, .int .i64 d.so, .string d.name, .slice al d.labels.length cl, .slice ak d.kids.length ck] 31)).st (b := w.heap.size) (by omega) (.int .i64 a) (.int .i64 so) (.string ⟨#[]⟩) (.slice none 0 0) (.slice (some ⟨w4.heap.size, 0, none⟩) 1 1)
          have F9 := (F4.out.trans (FR.al (.cells #[.int .i64 d.kind, .int .i64 d.so, .string d.name, .slice al d.labels.length cl, .slice ak d.kids.length ck] 31))).st (Nat.le_refl _) (.int .i64 a) (.int .i64 so) (.string ⟨#[]⟩) (.slice none 0 0) (.slice (some ⟨w4.heap.size, 0, none⟩) 1 1)
          have G9 := hg.one (w := w) (b := w.heap.size) (Nat.le_refl _) Z3.out.lt hf4.size a so ⟨#[]⟩ (by decide) (.int .i64 a) (.int .i64 so) (.string ⟨#[]⟩) (.slice none 0 0) (.slice (some ⟨w4.heap.size, 0, none⟩) 1 1)
          change TyAt (st5 (w4.alloc (.cells #[.int .i64 d.kind, .int .i64 d.so, .string d.name, .slice al d.labels.length cl, .slice ak d.kids.length ck] 31)) w.heap.size 0 (.int .i64 a) (.int .i64 so) (.string ⟨#[]⟩) (.slice none 0 0) (.slice (some ⟨w4.heap.size, 0, none⟩) 1 1)) _ _ _ _ _ _ _ at TA
          change GT _ (st5 (w4.alloc (.cells #[.int .i64 d.kind, .int .i64 d.so, .string d.name, .slice al d.labels.length cl, .slice ak d.kids.length ck] 31)) w.heap.size 0 (.int .i64 a) (.int .i64 so) (.string ⟨#[]⟩) (.slice none 0 0) (.slice (some ⟨w4.heap.size, 0, none⟩) 1 1)) _ _ _ _ _ _ at G9
          change bodyPost _ _ _ _ _ (st5 (w4.alloc (.cells #[.int .i64 d.kind, .int .i64 d.so, .string d.name, .slice al d.labels.length cl, .slice ak d.kids.length ck] 31)) w.heap.size 0 (.int .i64 a) (.int .i64 so) (.string ⟨#[]⟩) (.slice none 0 0) (.slice (some ⟨w4.heap.size, 0, none⟩) 1 1))
          generalize st5 (w4.alloc (.cells #[.int .i64 d.kind, .int .i64 d.so, .string d.name, .slice al d.labels.length cl, .slice ak d.kids.length ck] 31)) w.heap.size 0 (.int .i64 a) (.int .i64 so) (.string ⟨#[]⟩) (.slice none 0 0) (.slice (some ⟨w4.heap.size, 0, none⟩) 1 1) = W9 at TA R9 F9 G9 ⊢
          obtain ⟨r0, r1, r2, r3, r4⟩ := TA
          simp only [Nat.zero_add, List.length_nil, List.length_cons] at r1 r2 r3 r4
          refine bodyPost_ret (v := tyVal ⟨a, so, ⟨#[]⟩, [], [d]⟩ none 0 (some ⟨w4.heap.size, 0, none⟩) 1) (by simp [results, Tryz.results75, go_sem, tyVal, r0, r1, r2, r3, r4]) rfl ?_
          exact ⟨⟨_, rfl, ⟨_, _, _, _, rfl, G9⟩, q4, R9, hl4⟩, F9⟩
end Go.Proofs.YtefdekfgmbgbbaaGreatDoor
