/-
  The contract of global.readSaid, if that of global.read holds of shorter texts.
-/
import Derived.Test.YtfmegfgmkeicnaaDoorCyf
import Derived.Test.YtfmegfgmkeicnaaDoorBxs
import Derived.Test.YtfmegfgmkeicnaaDoorKma
import Derived.Deep.RegionHeld
import Derived.Test.YtfmegfgmkeicnaaDoorKyp
namespace Go.Proofs.YtfmegfgmkeicnaaDoor
open Go.RowKit Go.Shelf
set_option maxRecDepth 100000 in
set_option maxHeartbeats 1000000 in
theorem said1_any (fb : Nat) (a x : ByteArray) (w : World) (hf : w.cell? ⟨fb, 0, none⟩ = some (.string a)) (ha : a.size ≤ 9223372036854775807) (hx : x.size ≤ 9223372036854775807) :
    Calls Tryd.prog 96 #[.string x, .pointer (some ⟨fb, 0, none⟩)] w fun e w' => e = .returned (.bool (isRl a.data.toList && isRl x.data.toList && !decide (a = x))) ∧ Below w.heap.size w w' := by
  have c := hideK (fun W => areTwoRoles_any a x W ha hx)
  generalize (isRl a.data.toList && isRl x.data.toList && !decide (a = x)) = q at c ⊢
  go_enter Tryd.func96, Tryd.ntmps96
  go_wp2_with fail
  refine (c.out _).mono ?_
  rintro e w1 ⟨rfl, rfl⟩
  go_wp2_with fail
  go_ret
  exact ⟨rfl, Below.refl _ _⟩
set_option maxRecDepth 100000 in
set_option maxHeartbeats 1000000 in
theorem takeSaid_yes (rb p : Nat) (s : ByteArray) (w : World) (fb : Nat) (h : RS w rb s p)
    (cV : ∀ w1, Below w.heap.size w w1 → Calls Tryd.prog 96 #[.string (bs (wd (rs s p))), .pointer (some ⟨fb, 0, none⟩)] w1 fun e w' => e = .returned (.bool true) ∧ Below w1.heap.size w1 w') :
    Calls Tryd.prog 59 #[.pointer (some ⟨rb, 0, none⟩), .func (.func 96) #[] #[.pointer (some ⟨fb, 0, none⟩)]] w fun e w' => e = .returned (.string (bs (wd (rs s p)))) ∧ (∃ p', RS w' rb s p' ∧ rs s p' = skB ((rs s p).drop (wd (rs s p)).length)) ∧ FR rb w w' := by
  have hsz := h.sz
  have hwl := wd_at s p h.le
  have cW := word_any rb p s w h
  have cC := hideK (fun w1 => cloneT_any (bs (wd (rs s p))) w1 (by omega))
  have HP := hideK (fun (w1 : World) (h1 : RS w1 rb s p) => pass_any rb p (bs (wd (rs s p))).size s w1 h1 hwl)
  have HR := hideK h
  have HV := hideK cV
  rw [← bs_size (wd (rs s p))]
  clear h hwl hsz cV
  generalize bs (wd (rs s p)) = t at *
  go_enter Tryd.func59, Tryd.ntmps59
  go_wp2_with (first
    | (go_at_call 58; refine cW.mono ?_; rintro e w1 ⟨rfl, hb1⟩; have H1 := hideK (HR.out.keep hb1))
    | (go_at_call 96; refine (HV.out _ hb1).mono ?_; rintro e w3 ⟨rfl, hb3⟩; have H3 := hideK (H1.out.keep hb3))
    | (go_at_call 57; refine (HP.out _ H3.out).mono ?_; rintro e w4 ⟨rfl, ⟨q, hq, hl⟩, hf⟩)
    | (go_at_call 31; refine (cC.out _).mono ?_; rintro e w2 ⟨rfl, hb2⟩))
  go_ret
  exact ⟨rfl, ⟨q, hq.keep hb2, hl⟩, (((FR.of hb1).trans (FR.of hb3)).trans hf).trans (FR.of hb2)⟩
set_option maxRecDepth 100000 in
set_option maxHeartbeats 1000000 in
theorem takeSaid_no (rb p : Nat) (s : ByteArray) (w : World) (fb : Nat) (h : RS w rb s p)
    (cV : ∀ w1, Below w.heap.size w w1 → Calls Tryd.prog 96 #[.string (bs (wd (rs s p))), .pointer (some ⟨fb, 0, none⟩)] w1 fun e w' => e = .returned (.bool false) ∧ Below w1.heap.size w1 w') :
    Calls Tryd.prog 59 #[.pointer (some ⟨rb, 0, none⟩), .func (.func 96) #[] #[.pointer (some ⟨fb, 0, none⟩)]] w fun e w' => e = .panicked (thrown s (rs s p)) ∧ FR rb w w' := by
  have cW := word_any rb p s w h
  have cF := hideK (fun (w1 : World) (h1 : RS w1 rb s p) => fault_any rb p s 3 w1 h1)
  rw [thrown_at s p h.le]
  have HR := hideK h
  have HV := hideK cV
  clear h cV
  generalize bs (wd (rs s p)) = t at *
  go_enter Tryd.func59, Tryd.ntmps59
  go_wp2_with (first
    | (go_at_call 58; refine cW.mono ?_; rintro e w1 ⟨rfl, hb1⟩; have H1 := hideK (HR.out.keep hb1))
    | (go_at_call 96; refine (HV.out _ hb1).mono ?_; rintro e w3 ⟨rfl, hb3⟩; have H3 := hideK (H1.out.keep hb3))
    | (go_at_call 66; refine (cF.out _ H3.out).mono ?_; rintro e w4 ⟨rfl, hb4⟩))
  exact ⟨rfl, rfl, ((FR.of hb1).trans (FR.of hb3)).trans (FR.of hb4)⟩
/-- what readSaid keeps: the first role in its block, the block of what is handed back -/
structure SD (w : World) (rb : Nat) (a : ByteArray) (W : World) : Prop where
  c : W.cell? ⟨w.heap.size, 0, none⟩ = some (.string a)
  z : ZCv W (w.heap.size + 1)
  fr : FR rb w W
theorem SD.keep {w : World} {rb : Nat} {a : ByteArray} {W W' : World} (h : SD w rb a W) (hf : FR rb W W') (hr : rb < w.heap.size) : SD w rb a W' :=
  ⟨(hf.cellO (by have := h.z.lt; omega) (by omega)).trans h.c, h.z.keep hf (by omega), h.fr.trans hf⟩
theorem SD.new (w : World) (rb : Nat) (a : ByteArray) : SD w rb a ((w.alloc (.cells #[.string a] 9)).alloc (.cells #[.int .i64 0, .string ⟨#[]⟩, .string ⟨#[]⟩, .int .i64 0, .string ⟨#[]⟩, .slice none 0 0, .slice none 0 0] 25)) :=
  ⟨by go_cell, by have := ZCv.new (w.alloc (.cells #[.string a] 9)); simpa using this, (FR.al _).trans (FR.al _)⟩
theorem load_cv {W : World} {b o : Nat} {t : Cv} {al : Option Addr} {cl : Nat} {ak : Option Addr} {ck : Nat} (h : CvAt W b o t al cl ak ck) : (loadVar 25 ⟨b, o, none⟩).run Tryd.prog W = .ok (valCv t al cl ak ck) W := by
  have h2 := load_list (T := 25) (n := 7) (cs := [.int .i64 t.kind, .string t.fm, .string t.tt, .int .i64 t.so, .string t.name, .slice al t.labels.length cl, .slice ak t.kids.length ck]) rfl (fun j v hj => by
    obtain ⟨h0, h1, h2, h3, h4, h5, h6⟩ := h
    match j, hj with
    | 0, hj => exact h0.trans hj
    | 1, hj => exact h1.trans hj
    | 2, hj => exact h2.trans hj
    | 3, hj => exact h3.trans hj
    | 4, hj => exact h4.trans hj
    | 5, hj => exact h5.trans hj
    | 6, hj => exact h6.trans hj
    | n + 7, hj => simp at hj) (fun l hl => by
    unfold Instr.loadAt loadVar
    simp [Instr.sureAddr, hl, Result.andThen])
  simpa [valCv, Instr.loadAt, Instr.sureAddr] using h2
theorem ZCv.bx {W : World} {b : Nat} (h : ZCv W b) : BXN W b 7 :=
  ⟨fun j hj => by
    have : j = 0 ∨ j = 1 ∨ j = 2 ∨ j = 3 ∨ j = 4 ∨ j = 5 ∨ j = 6 := by omega
    rcases this with rfl | rfl | rfl | rfl | rfl | rfl | rfl
    · rw [h.c0]; rfl
    · rw [h.c1]; rfl
    · rw [h.c2]; rfl
    · rw [h.c3]; rfl
    · rw [h.c4]; rfl
    · rw [h.c5]; rfl
    · rw [h.c6]; rfl, h.f, h.lt⟩
theorem store_cv {W : World} {b : Nat} (h : BXN W b 7) (v0 v1 v2 v3 v4 v5 v6 : Value) (h1 : ∀ v ∈ [v0, v1, v2, v3, v4, v5, v6], v.oneCell' = true) : (Instr.storeAt 25 (.pointer (some ⟨b, 0, none⟩)) (.agg #[v0, v1, v2, v3, v4, v5, v6])).run Tryd.prog W = .ok () (st7Cv W b 0 v0 v1 v2 v3 v4 v5 v6) :=
  store_bx h 25 [v0, v1, v2, v3, v4, v5, v6] rfl (by kernel_rfl) h1
theorem wp_storeW {P : Program} {K : Act → World → Prop} {Q : Exit → Act → World → Prop} {T : TypeId} {x y : Operand} {o : Oper} {a : Act} {pv v : Value} {W W' : World} (ho : o.op = .store T x y) (hx : a.eval x = pv) (hy : a.eval y = v) (h : (Instr.storeAt T pv v).run P W = .ok () W') (hn : K (a.put o.dst undef) W') : Oper.wp P o a W K Q := by
  unfold Oper.wp
  rw [show (execOp a.eval o).run P W = .ok .skip W' from by simp [execOp, ho, hx, hy, h, Result.andThen]]
  exact hn
theorem one_cv (k so : Int) (p q nm : ByteArray) (x y : Option Addr) (a b c d : Nat) : ∀ v ∈ [Value.int .i64 k, .string p, .string q, .int .i64 so, .string nm, .slice x a b, .slice y c d], v.oneCell' = true := by
  intro v hv
  simp only [List.mem_cons, List.not_mem_nil, or_false] at hv
  rcases hv with rfl | rfl | rfl | rfl | rfl | rfl | rfl <;> rfl
theorem reAlts_labs {R : List UInt8 → RdE} : ∀ m ls ks l ls' ks' r, reAlts R m ls ks l = .ok ((ls', ks'), r) → labsOK ls' = true := by
  intro m
  induction m with
  | zero => intro ls ks l ls' ks' r h; cases h
  | succ m ih =>
    intro ls ks l ls' ks' r h
    unfold reAlts at h
    split at h
    · cases h
    rename_i lab _ h1
    have a1 := (rdLab_ok h1).1
    split at h
    · cases h
    split at h
    · cases h
    split at h
    · injection h with h
      injection h with h _
      injection h with e _
      rw [← e]; exact a1
    · split at h
      · cases h
      · exact ih _ _ _ _ _ _ h
theorem reCho_labs {R : List UInt8 → RdE} {l : List UInt8} {ls : List ByteArray} {ks : List Cv} {r : List UInt8} (h : reCho R l = .ok ((ls, ks), r)) : ∀ x ∈ ls, x.size ≤ 9223372036854775807 := by
  unfold reCho at h
  split at h
  · cases h
  · intro x hx
    have := (labs_len _ (reAlts_labs _ _ _ _ _ _ _ h)).2 x hx
    rw [ba_len]; omega
set_option maxRecDepth 100000 in
set_option maxHeartbeats 8000000 in
theorem readSaid_any (n : Nat) (hR : RESaid n) (rb p : Nat) (s a : ByteArray) (w : World) (h : RS w rb s p) (ha : isRl a.data.toList = true) (hn : (rs s p).length < n) :
    Calls Tryd.prog 64 #[.pointer (some ⟨rb, 0, none⟩), .string a] w fun e w' => GPost s rb (CvR w (n + 1)) (reSaid (rdE n) a (rs s p)) e w' ∧ FR rb w w' := by
  have hmf : ∀ (fn : Fn) (first cap : Array Value) (w : World), (Instr.makeFunc fn first cap).run Tryd.prog w = .ok (.func fn first cap) w := fun _ _ _ _ => rfl
  have hrl := h.lt
  have HS := hideK (SD.new w rb a)
  have HA := hideK ((h.al (.cells #[.string a] 9)).al (.cells #[.int .i64 0, .string ⟨#[]⟩, .string ⟨#[]⟩, .int .i64 0, .string ⟨#[]⟩, .slice none 0 0, .slice none 0 0] 25))
  have hsz := h.sz
  have hwl := wd_at s p h.le
  have has : a.size ≤ 9223372036854775807 := by rw [ba_len, (rl_low ha).2]; omega
  have HV := hideK (fun (w1 : World) (hc : w1.cell? ⟨w.heap.size, 0, none⟩ = some (.string a)) => said1_any w.heap.size a (bs (wd (rs s p))) w1 hc has (by omega))
  rw [bs_list, ha, Bool.true_and] at HV
  unfold reSaid
  clear h hsz
  by_cases hc : isRl (wd (rs s p)) = true ∧ a ≠ bs (wd (rs s p))
  · rw [if_pos hc]
    have hq : (isRl (wd (rs s p)) && !decide (a = bs (wd (rs s p)))) = true := by simp [hc.1, hc.2]
    rw [hq] at HV
    simp only
    have hrlx := rl_low hc.1
    have hdl : (skB ((rs s p).drop (wd (rs s p)).length)).length ≤ (rs s p).length := by have := skB_len ((rs s p).drop (wd (rs s p)).length); rw [List.length_drop] at this; omega
    have CT := hideK (takeSaid_yes rb p s _ w.heap.size HA.out (fun w1 hb => HV.out w1 (by have hz := HS.out.z.lt; exact (hb.cell (p := ⟨w.heap.size, 0, none⟩) (by show w.heap.size < _; omega)).trans HS.out.c)))
    have hxs : (bs (wd (rs s p))).size = 1 := by rw [bs_size]; exact hrlx.2
    generalize hl1 : skB ((rs s p).drop (wd (rs s p)).length) = l1 at *
    generalize bs (wd (rs s p)) = x at *
    clear hc hq HV hwl hrlx
    by_cases h58 : l1.head? = some 58
    · rw [if_pos h58]
      generalize hl2 : skB (l1.drop 1) = l2
      generalize hX : reSend (rdE n) a x l2 = X
      have hdl2 : l2.length ≤ l1.length := by have := skB_len (l1.drop 1); rw [List.length_drop] at this; rw [← hl2]; omega
      unfold reSend at hX
      go_enter Tryd.func64, Tryd.ntmps64
      go_wp2_with fail
      refine CT.out.mono ?_
      rintro e w1 ⟨rfl, ⟨q1, hq1, hq1l⟩, hf1⟩
      have S1 := hideK (HS.out.keep hf1 hrl)
      have cK := skip_any rb q1 s 58 w1 hq1
      rw [hq1l, h58] at cK
      simp only [decide_true, if_true] at cK
      clear HS HA CT hq1 hf1 hq1l
      go_wp2_with fail
      refine cK.mono ?_
      rintro e w2 ⟨rfl, ⟨q2, hq2, hq2l⟩, hf2⟩
      rw [hl2] at hq2l
      have S2 := hideK (S1.out.keep hf2 hrl)
      clear cK S1 hf2 hl2 h58
      cases hS : rdSort l2 with
      | error r =>
        rw [hS] at hX
        simp only at hX
        subst hX
        go_wp2_with fail
        refine (readSort_bad hS rb q2 s _ hq2 hq2l).mono ?_
        rintro e w3 ⟨rfl, hf3⟩
        go_wp2_with fail
        exact ⟨rfl, rfl, S2.out.fr.trans hf3⟩
      | ok y =>
        obtain ⟨so, l3⟩ := y
        have a3 := (rdSort_ok hS).2.2.2
        rw [hS] at hX
        simp only at hX
        go_wp2_with fail
        refine (readSort_ok hS rb q2 s _ hq2 hq2l).mono ?_
        rintro e w3 ⟨rfl, ⟨q3, hq3, hq3l⟩, hf3⟩
        have S3 := hideK (S2.out.keep hf3 hrl)
        clear S2 hq2 hq2l hf3 hS
        cases hN : need 46 l3 with
        | error r =>
          rw [hN] at hX
          simp only at hX
          subst hX
          go_wp2_with fail
          refine (need_bad hN rb q3 s _ hq3 hq3l).mono ?_
          rintro e w4 ⟨rfl, hf4⟩
          go_wp2_with fail
          exact ⟨rfl, rfl, S3.out.fr.trans hf4⟩
        | ok l4 =>
          have a4 := (need_ok hN).2.2
          rw [hN] at hX
          simp only at hX
          have hlt : l4.length < n := by omega
          go_wp2_with fail
          refine (need_good hN rb q3 s _ hq3 hq3l).mono ?_
          rintro e w4 ⟨rfl, ⟨q4, hq4, hq4l⟩, hf4⟩
          have S4 := hideK (S3.out.keep hf4 hrl)
          clear S3 hq3 hq3l hf4 hN
          have c4 := S4.out.c
          cases hT : rdE n l4 with
          | error r =>
            rw [hT] at hX
            simp only at hX
            subst hX
            have hS0 : w4.drew.cell? ⟨w.heap.size, 0, none⟩ = some (.string a) := c4
            have Q4 := hideK (show RS w4.drew rb s q4 from hq4.keep (Below.refl w4.heap.size w4).drew)
            have F4 := hideK (show FR rb w w4.drew from S4.out.fr.trans (FR.of (Below.refl w4.heap.size w4).drew))
            clear c4 S4 hq4
            go_upto_region 5 with fail
            refine wp_region_held_drew (S := fun W : World => W.cell? ⟨w.heap.size, 0, none⟩ = some (.string a)) (by kernel_rfl) hS0 (fun hS => ?_)
            refine tkR 0 (.string a) hS ?_ (hy := Or.inl ⟨by rfl, fun W hW => by go_simp⟩)
            refine tkR 1 (.string x) hS ?_
            refine tkR 2 (.int .i64 so) hS ?_
            refine tkR 3 (.pointer (some ⟨rb, 0, none⟩)) hS ?_
            refine ready_any [4] ?_
            refine cY ?_ cE
            refine opg 4 (fun K hK => ?_)
            go_simp
            refine (readE_bad hR hT hlt rb q4 s _ Q4.out hq4l).mono ?_
            rintro e w5 ⟨rfl, hf5⟩
            exact ⟨rfl, rfl, F4.out.trans hf5⟩
          | ok y =>
            obtain ⟨t, l5⟩ := y
            rw [hT] at hX
            simp only at hX
            subst hX
            have hS0 : w4.drew.cell? ⟨w.heap.size, 0, none⟩ = some (.string a) := c4
            have Q4 := hideK (show RS w4.drew rb s q4 from hq4.keep (Below.refl w4.heap.size w4).drew)
            have S4d := hideK (S4.out.keep (FR.of (Below.refl w4.heap.size w4).drew) hrl)
            clear c4 S4 hq4
            go_upto_region 5 with fail
            refine wp_region_held_drew (S := fun W : World => W.cell? ⟨w.heap.size, 0, none⟩ = some (.string a)) (by kernel_rfl) hS0 (fun hS => ?_)
            refine tkR 0 (.string a) hS ?_ (hy := Or.inl ⟨by rfl, fun W hW => by go_simp⟩)
            refine tkR 1 (.string x) hS ?_
            refine tkR 2 (.int .i64 so) hS ?_
            refine tkR 3 (.pointer (some ⟨rb, 0, none⟩)) hS ?_
            refine ready_any [4] ?_
            refine cY ?_ cE
            refine opg 4 (fun K hK => ?_)
            go_simp
            refine (readE_ok hR hT hlt rb q4 s _ Q4.out hq4l).mono ?_
            rintro e w5 ⟨⟨al, cl, ak, ck, rfl, hg⟩, ⟨q5, hq5, hq5l⟩, hf5⟩
            have S5 := hideK (S4d.out.keep hf5 hrl)
            have HG := hideK hg
            have Q5 := hideK hq5
            have HW4 : Hid (w.heap.size + 1 < w4.drew.heap.size) := S4d.out.z.lt
            have HW5 : Hid (w4.drew.heap.size ≤ w5.heap.size) := hf5.size
            refine hK.out _ _ S5.out.c ?_
            clear hS hK K hS0 hg hq5 hf5 S4d Q4 hT
            intro hS
            try simp only [Act.put, List.setIfInBounds_toArray, List.set_cons_zero, List.set_cons_succ]
            refine ready_any [5] ?_
            refine cY ?_ cE
            refine opg 5 (fun K hK => ?_)
            have hSn : (w5.alloc (.cells #[.int .i64 t.kind, .string t.fm, .string t.tt, .int .i64 t.so, .string t.name, .slice al t.labels.length cl, .slice ak t.kids.length ck] 25)).cell? ⟨w.heap.size, 0, none⟩ = some (.string a) := (World.cell?_alloc_past _ _ _ (by have := S5.out.z.lt; show w.heap.size < _; omega)).trans S5.out.c
            go_simp
            refine hK.out _ _ hSn ?_
            clear hS hK K
            intro hS
            clear hSn
            try simp only [Act.put, List.setIfInBounds_toArray, List.set_cons_zero, List.set_cons_succ]
            refine ready_any [6] ?_
            refine cY ?_ cE
            refine opg 6 (fun K hK => ?_)
            go_simp
            refine hK.out _ _ hS ?_
            clear hS hK K
            intro hS
            try simp only [Act.put, List.setIfInBounds_toArray, List.set_cons_zero, List.set_cons_succ]
            refine ready_any [7] ?_
            refine cY ?_ cE
            refine opg 7 (fun K hK => ?_)
            rw [if_pos (by rfl)]
            have F6 := hideK (FR.trans S5.out.fr (FR.al (pb := rb) (.cells #[.int .i64 t.kind, .string t.fm, .string t.tt, .int .i64 t.so, .string t.name, .slice al t.labels.length cl, .slice ak t.kids.length ck] 25)))
            have Z6 := S5.out.z.keep (FR.al (pb := rb) (.cells #[.int .i64 t.kind, .string t.fm, .string t.tt, .int .i64 t.so, .string t.name, .slice al t.labels.length cl, .slice ak t.kids.length ck] 25)) (by omega)
            have TA := Z6.st ⟨2, a, x, so, ⟨#[]⟩, [], [t]⟩ none 0 (some ⟨w5.heap.size, 0, none⟩) 1
            have R9 := (Q5.out.al (.cells #[.int .i64 t.kind, .string t.fm, .string t.tt, .int .i64 t.so, .string t.name, .slice al t.labels.length cl, .slice ak t.kids.length ck] 25)).stCv (b := w.heap.size + 1) (by omega) (.int .i64 2) (.string a) (.string x) (.int .i64 so) (.string ⟨#[]⟩) (.slice none 0 0) (.slice (some ⟨w5.heap.size, 0, none⟩) 1 1)
            have F9 := F6.out.stCv (b := w.heap.size + 1) (by omega) (.int .i64 2) (.string a) (.string x) (.int .i64 so) (.string ⟨#[]⟩) (.slice none 0 0) (.slice (some ⟨w5.heap.size, 0, none⟩) 1 1)
            have G9 := HG.out.one (w := w) (b := w.heap.size + 1) (by omega) HW4.out HW5.out 2 a x so ⟨#[]⟩ has (by omega) (by decide) (.int .i64 2) (.string a) (.string x) (.int .i64 so) (.string ⟨#[]⟩) (.slice none 0 0) (.slice (some ⟨w5.heap.size, 0, none⟩) 1 1)
            refine wp_storeW rfl rfl rfl (store_cv Z6.bx (.int .i64 2) (.string a) (.string x) (.int .i64 so) (.string ⟨#[]⟩) (.slice none 0 0) (.slice (some ⟨w5.heap.size, 0, none⟩) 1 1) (one_cv _ _ _ _ _ _ _ _ _ _ _)) ?_
            have hS9 : (st7Cv (w5.alloc (.cells #[.int .i64 t.kind, .string t.fm, .string t.tt, .int .i64 t.so, .string t.name, .slice al t.labels.length cl, .slice ak t.kids.length ck] 25)) (w.heap.size + 1) 0 (.int .i64 2) (.string a) (.string x) (.int .i64 so) (.string ⟨#[]⟩) (.slice none 0 0) (.slice (some ⟨w5.heap.size, 0, none⟩) 1 1)).cell? ⟨w.heap.size, 0, none⟩ = some (.string a) := (st7Cv_other _ _ _ _ _ _ _ _ _ _ _ _ (.inl (by omega))).trans hS
            change CvAt (st7Cv (w5.alloc (.cells #[.int .i64 t.kind, .string t.fm, .string t.tt, .int .i64 t.so, .string t.name, .slice al t.labels.length cl, .slice ak t.kids.length ck] 25)) (w.heap.size + 1) 0 (.int .i64 2) (.string a) (.string x) (.int .i64 so) (.string ⟨#[]⟩) (.slice none 0 0) (.slice (some ⟨w5.heap.size, 0, none⟩) 1 1)) _ _ _ _ _ _ _ at TA
            generalize st7Cv (w5.alloc (.cells #[.int .i64 t.kind, .string t.fm, .string t.tt, .int .i64 t.so, .string t.name, .slice al t.labels.length cl, .slice ak t.kids.length ck] 25)) (w.heap.size + 1) 0 (.int .i64 2) (.string a) (.string x) (.int .i64 so) (.string ⟨#[]⟩) (.slice none 0 0) (.slice (some ⟨w5.heap.size, 0, none⟩) 1 1) = W9 at *
            refine hK.out _ _ hS9 ?_
            clear hS hK K Z6 F6
            intro hS
            try simp only [Act.put]
            refine wpAnyH_done (by kernel_rfl) ?_ _
            have TA2 := hideK TA
            have G92 := hideK G9
            have F92 := hideK F9
            have R92 := hideK R9
            clear TA G9 F9 R9 hS hS9
            go_wp2_with fail
            refine bodyPost_ret (results_cell rfl rfl (load_cv TA2.out)) rfl ?_
            exact ⟨⟨_, rfl, ⟨_, _, _, _, rfl, G92.out⟩, q5, R92.out, hq5l⟩, F92.out⟩
    · rw [if_neg h58]
      generalize hX : reCho (rdE n) l1 = X
      go_enter Tryd.func64, Tryd.ntmps64
      go_wp2_with fail
      refine CT.out.mono ?_
      rintro e w1 ⟨rfl, ⟨q1, hq1, hq1l⟩, hf1⟩
      have S1 := hideK (HS.out.keep hf1 hrl)
      have cK := skip_any rb q1 s 58 w1 hq1
      rw [hq1l] at cK
      simp only [h58, decide_false, if_false] at cK
      have HW1 : Hid (w.heap.size + 1 < w1.heap.size) := S1.out.z.lt
      clear HS HA CT hq1 hf1 hq1l
      go_wp2_with fail
      refine cK.mono ?_
      rintro e w2 ⟨rfl, ⟨q2, hq2, hq2l⟩, hf2⟩
      have S2 := hideK (S1.out.keep hf2 hrl)
      have HW2 : Hid (w.heap.size + 1 < w2.heap.size) := S2.out.z.lt
      have cR := readChoiceC_any n hR rb q2 s w2 hq2 (by rw [hq2l]; omega)
      rw [hq2l, hX] at cR
      clear cK S1 hf2 h58 hq2 hq2l HW1
      cases X with
      | error r =>
        simp only [GPost] at cR ⊢
        go_wp2_with fail
        refine cR.mono ?_
        rintro e w3 ⟨rfl, hf3⟩
        go_wp2_with fail
        exact ⟨rfl, rfl, S2.out.fr.trans hf3⟩
      | ok y =>
        obtain ⟨⟨ls, ks⟩, l3⟩ := y
        simp only [GPost] at cR ⊢
        go_wp2_with fail
        refine cR.mono ?_
        rintro e w3 ⟨⟨z, rfl, ⟨v, u, rfl, hch⟩, q3, hq3, hq3l⟩, hf3⟩
        obtain ⟨al, cl, ak, ck, rfl, rfl, g1, g2, g3, g4, g5, g6⟩ := hch.ex
        have S3 := hideK (S2.out.keep hf3 hrl)
        have Q3 := hideK hq3
        have G5 := hideK g5
        have G6 := hideK g6
        have c3 := S3.out.c
        clear cR hch g5 g6 hf3 hq3
        have HZ3 := hideK S3.out.z
        obtain ⟨zl, z0, z1, z2, z3, z4, z5, z6, zf⟩ := id S3.out.z
        have y0 := zf 0
        have y1 := zf 1
        have y2 := zf 2
        have y3 := zf 3
        have y4 := zf 4
        have y5 := zf 5
        have y6 := zf 6
        clear zf
        have hw23 : Hid (w.heap.size ≤ w2.heap.size) := by have := HW2.out; show _ ≤ _; omega
        go_wp2_with fail
        have GG : GCv w2 w3 (n + 1) ⟨6, a, x, 0, ⟨#[]⟩, ls, ks⟩ al cl ak ck := ⟨⟨has, by show x.size ≤ _; omega, by show (⟨#[]⟩ : ByteArray).size ≤ _; decide, reCho_labs hX, g1, g2, g3, g4⟩, G5.out, G6.out⟩
        have TA := HZ3.out.st ⟨6, a, x, 0, ⟨#[]⟩, ls, ks⟩ al cl ak ck
        have R9 := Q3.out.stCv (b := w.heap.size + 1) (by omega) (.int .i64 6) (.string a) (.string x) (.int .i64 0) (.string ⟨#[]⟩) (.slice al ls.length cl) (.slice ak ks.length ck)
        have F9 := S3.out.fr.stCv (b := w.heap.size + 1) (by omega) (.int .i64 6) (.string a) (.string x) (.int .i64 0) (.string ⟨#[]⟩) (.slice al ls.length cl) (.slice ak ks.length ck)
        have G9 := GG.st (w := w) (b := w.heap.size + 1) HW2.out (.int .i64 6) (.string a) (.string x) (.int .i64 0) (.string ⟨#[]⟩) (.slice al ls.length cl) (.slice ak ks.length ck) hw23.out
        change CvAt (st7Cv w3 (w.heap.size + 1) 0 (.int .i64 6) (.string a) (.string x) (.int .i64 0) (.string ⟨#[]⟩) (.slice al ls.length cl) (.slice ak ks.length ck)) _ _ _ _ _ _ _ at TA
        change bodyPost _ _ _ _ _ (st7Cv w3 (w.heap.size + 1) 0 (.int .i64 6) (.string a) (.string x) (.int .i64 0) (.string ⟨#[]⟩) (.slice al ls.length cl) (.slice ak ks.length ck))
        generalize st7Cv w3 (w.heap.size + 1) 0 (.int .i64 6) (.string a) (.string x) (.int .i64 0) (.string ⟨#[]⟩) (.slice al ls.length cl) (.slice ak ks.length ck) = W9 at TA R9 F9 G9 ⊢
        refine bodyPost_ret (results_cell rfl rfl (load_cv TA)) rfl ?_
        exact ⟨⟨_, rfl, ⟨_, _, _, _, rfl, G9⟩, q3, R9, hq3l⟩, F9⟩
  · rw [if_neg hc]
    have hq : (isRl (wd (rs s p)) && !decide (a = bs (wd (rs s p)))) = false := by
      cases hi : isRl (wd (rs s p)) with
      | false => rfl
      | true =>
        have : a = bs (wd (rs s p)) := Classical.not_not.1 (fun h => hc ⟨hi, h⟩)
        simp [← this]
    rw [hq] at HV
    simp only [GPost]
    have CT := hideK (takeSaid_no rb p s _ w.heap.size HA.out (fun w1 hb => HV.out w1 (by have hz := HS.out.z.lt; exact (hb.cell (p := ⟨w.heap.size, 0, none⟩) (by show w.heap.size < _; omega)).trans HS.out.c)))
    clear HV hc hq hwl
    go_enter Tryd.func64, Tryd.ntmps64
    go_wp2_with fail
    refine CT.out.mono ?_
    rintro e w1 ⟨rfl, hf1⟩
    go_wp2_with fail
    exact ⟨rfl, rfl, HS.out.fr.trans hf1⟩
end Go.Proofs.YtfmegfgmkeicnaaDoor
