/-
  The contract of words.ReadChoice of conversations, if that of global.read holds of shorter texts.
-/
import Derived.Test.YtfmegfgmkeicnaaDoorCwc
import Derived.Test.YtfmegfgmkeicnaaDoorCye
import Derived.Deep.LoopGhost
import Derived.Deep.DeepCutAuto
namespace Go.Proofs.YtfmegfgmkeicnaaDoor
open Go.RowKit Go.Shelf
theorem readLabelC_ok {ls : List ByteArray} {l r : List UInt8} {nm : ByteArray} (h : rdLab ls l = .ok (nm, r)) (rb p base : Nat) (s : ByteArray) (v : Value) (w : World) (hr : RS w rb s p) (hl : rs s p = l) (hv : w.ownsRow base 9 1 v ls.length (nCs ls)) (h6 : ls.length ≤ 6) (hs : ∀ l ∈ ls, l.size ≤ 2000) :
    Calls Tryd.prog 124 #[.pointer (some ⟨rb, 0, none⟩), v, .func (.func 92) #[] #[]] w fun e w' => e = .returned (.string nm) ∧ (∃ p', RS w' rb s p' ∧ rs s p' = r) ∧ FR rb w w' := by
  have c := readLabel_any rb p base s ls v w hr hv h6 hs
  rw [hl, h] at c
  simp only [GPost] at c
  exact c.mono fun e w' ⟨⟨v, e1, e2, h3⟩, h4⟩ => ⟨by rw [e1, e2], h3, h4⟩
theorem readLabelC_bad {ls : List ByteArray} {l r : List UInt8} (h : rdLab ls l = .error r) (rb p base : Nat) (s : ByteArray) (v : Value) (w : World) (hr : RS w rb s p) (hl : rs s p = l) (hv : w.ownsRow base 9 1 v ls.length (nCs ls)) (h6 : ls.length ≤ 6) (hs : ∀ l ∈ ls, l.size ≤ 2000) :
    Calls Tryd.prog 124 #[.pointer (some ⟨rb, 0, none⟩), v, .func (.func 92) #[] #[]] w fun e w' => e = .panicked (thrown s r) ∧ FR rb w w' := by
  have c := readLabel_any rb p base s ls v w hr hv h6 hs
  rw [hl, h] at c
  simpa only [GPost] using c
def RESaid (n : Nat) : Prop := ∀ (rb p : Nat) (s : ByteArray) (w : World), RS w rb s p → (rs s p).length < n →
  Calls Tryd.prog 27 #[.pointer (some ⟨rb, 0, none⟩)] w fun e w' => GPost s rb (CvR w n) (rdE n (rs s p)) e w' ∧ FR rb w w'
theorem readE_ok {n : Nat} (hR : RESaid n) {l r : List UInt8} {t : Cv} (h : rdE n l = .ok (t, r)) (hn : l.length < n) (rb p : Nat) (s : ByteArray) (w : World) (hr : RS w rb s p) (hl : rs s p = l) :
    Calls Tryd.prog 27 #[.pointer (some ⟨rb, 0, none⟩)] w fun e w' => (∃ al cl ak ck, e = .returned (.agg #[.int .i64 t.kind, .string t.fm, .string t.tt, .int .i64 t.so, .string t.name, .slice al t.labels.length cl, .slice ak t.kids.length ck]) ∧ GCv w w' n t al cl ak ck) ∧ (∃ p', RS w' rb s p' ∧ rs s p' = r) ∧ FR rb w w' := by
  have c := hR rb p s w hr (by rw [hl]; exact hn)
  rw [hl, h] at c
  simp only [GPost] at c
  exact c.mono fun e w' ⟨⟨v, e1, ⟨al, cl, ak, ck, e2, hg⟩, h3⟩, h4⟩ => ⟨⟨al, cl, ak, ck, by rw [e1, e2]; rfl, hg⟩, h3, h4⟩
theorem readE_bad {n : Nat} (hR : RESaid n) {l r : List UInt8} (h : rdE n l = .error r) (hn : l.length < n) (rb p : Nat) (s : ByteArray) (w : World) (hr : RS w rb s p) (hl : rs s p = l) :
    Calls Tryd.prog 27 #[.pointer (some ⟨rb, 0, none⟩)] w fun e w' => e = .panicked (thrown s r) ∧ FR rb w w' := by
  have c := hR rb p s w hr (by rw [hl]; exact hn)
  rw [hl, h] at c
  simpa only [GPost] using c
def ShortE (R : List UInt8 → RdE) : Prop := ∀ l t r, R l = .ok (t, r) → r.length ≤ l.length
theorem reAlts_len {R : List UInt8 → RdE} (hR : ShortE R) : ∀ m ls ks l x r, reAlts R m ls ks l = .ok (x, r) → r.length ≤ l.length := by
  intro m
  induction m with
  | zero => intro ls ks l x r h; cases h
  | succ m ih =>
    intro ls ks l x r h
    unfold reAlts at h
    split at h
    · cases h
    split at h
    · cases h
    split at h
    · cases h
    rename_i h1 _ _ h2 _ _ _ h3
    have a1 := (rdLab_ok h1).2.2.2
    have a2 := (need_ok h2).2.2
    have a3 := hR _ _ _ h3
    split at h
    · injection h with h
      injection h with _ e
      rw [← e]
      rename_i l3 _ _
      have := skB_len (l3.drop 1)
      rw [List.length_drop] at this
      omega
    · split at h
      · cases h
      · rename_i h4
        have a4 := (need_ok h4).2.2
        have a5 := ih _ _ _ _ _ h
        omega
theorem rdE_short : ∀ n, ShortE (rdE n) := by
  intro n
  induction n with
  | zero => intro l t r h; cases h
  | succ n ih =>
    intro l t r h
    have hd : ∀ k, (skB (l.drop k)).length ≤ l.length := fun k => by have := skB_len (l.drop k); rw [List.length_drop] at this; omega
    unfold rdE at h
    split at h
    · injection h with h
      injection h with _ e
      rw [← e]
      exact hd 3
    split at h
    · unfold reRec at h
      split at h
      · cases h
      split at h
      · cases h
      split at h
      · cases h
      rename_i h1 _ _ h2 _ _ _ h3
      injection h with h
      injection h with _ e
      subst e
      have a1 := (rdVar_ok h1).2.2.2
      have a2 := (need_ok h2).2.2
      have a3 := ih _ _ _ h3
      have := hd 3
      omega
    · unfold reName at h
      split at h
      · cases h
      rename_i nm l1 h1
      have a1 := (rdVar_ok h1).2.2.2
      split at h
      · have hd1 : (skB (l1.drop 1)).length ≤ l1.length := by have := skB_len (l1.drop 1); rw [List.length_drop] at this; omega
        unfold reSaid at h
        split at h
        · simp only at h
          generalize skB (l1.drop 1) = m at h hd1
          have hd2 : (skB (m.drop (wd m).length)).length ≤ m.length := by have := skB_len (m.drop (wd m).length); rw [List.length_drop] at this; omega
          generalize skB (m.drop (wd m).length) = m2 at h hd2
          split at h
          · have hd3 : (skB (m2.drop 1)).length ≤ m2.length := by have := skB_len (m2.drop 1); rw [List.length_drop] at this; omega
            unfold reSend at h
            split at h
            · cases h
            split at h
            · cases h
            split at h
            · cases h
            rename_i q1 _ _ q2 _ _ _ q3
            injection h with h
            injection h with _ e
            subst e
            have b1 := (rdSort_ok q1).2.2.2
            have b2 := (need_ok q2).2.2
            have b3 := ih _ _ _ q3
            omega
          · split at h
            · cases h
            · rename_i hk
              injection h with h
              injection h with _ e
              subst e
              unfold reCho at hk
              split at hk
              · cases hk
              · rename_i hn
                have b1 := (need_ok hn).2.2
                have b2 := reAlts_len ih _ _ _ _ _ _ hk
                omega
        · cases h
      · injection h with h
        injection h with _ e
        rw [← e]
        omega
theorem RS.blockC {W W' : World} {rb : Nat} {s : ByteArray} {p : Nat} (h : RS W rb s p) (hb : W'.heap[rb]? = W.heap[rb]?) : RS W' rb s p :=
  ⟨(World.cell?_of_block (a := ⟨rb, 0, none⟩) hb).trans h.c0, (World.cell?_of_block (a := ⟨rb, 1, none⟩) hb).trans h.c1, (World.cell?_of_block (a := ⟨rb, 2, none⟩) hb).trans h.c2, (World.frozen?_of_block (a := ⟨rb, 2, none⟩) hb).trans h.fz, h.le, h.sz⟩
/-- what a choice hands back -/
def ChoR (w : World) (n : Nat) (W : World) (x : List ByteArray × List Cv) (z : Value) : Prop := ∃ v u, z = .tuple #[v, u] ∧ CHG w W n x.1 x.2 v u
theorem slice_ownC {W : World} {base : Nat} {e : TypeId} {size : Nat} {v : Value} {n : Nat} {xs : List Value} (h : W.ownsRow base e size v n xs) : ∃ a m c, v = .slice a m c := by
  rcases h.2 with ⟨rfl, _⟩ | ⟨g, cap, cur, rfl, _⟩
  · exact ⟨_, _, _, rfl⟩
  · exact ⟨_, _, _, rfl⟩
theorem infoCv : (Tryd.prog.info? 25).map (fun i => (i.zero, i.size, i.bytes)) = some (some (.agg #[.int .i64 0, .string ⟨#[]⟩, .string ⟨#[]⟩, .int .i64 0, .string ⟨#[]⟩, .slice none 0 0, .slice none 0 0]), 7, 112) := by kernel_rfl
set_option maxRecDepth 100000 in
set_option maxHeartbeats 8000000 in
theorem readChoiceC_any (n : Nat) (hR : RESaid n) (rb p : Nat) (s : ByteArray) (w : World) (h : RS w rb s p) (hn : (rs s p).length < n) :
    Calls Tryd.prog 98 #[.pointer (some ⟨rb, 0, none⟩), .func (.func 27) #[] #[]] w fun e w' => GPost s rb (ChoR w n) (reCho (rdE n) (rs s p)) e w' ∧ FR rb w w' := by
  obtain ⟨i0, hi, hz0, hz1, hz2⟩ := info_parts infoSt
  obtain ⟨i1, hi1, hy0, hy1, hy2⟩ := info_parts infoCv
  have hrl := h.lt
  have HC := hideK (CHC.new w rb n)
  have HA := hideK h
  clear h
  unfold reCho
  cases hN0 : need 123 (rs s p) with
  | error r =>
    simp only [GPost]
    go_enter Tryd.func98, Tryd.ntmps98
    go_wp2_with fail
    refine (need_bad hN0 rb p s _ HA.out rfl).mono ?_
    rintro e w1 ⟨rfl, hf1⟩
    go_wp2_with fail
    exact ⟨rfl, rfl, hf1⟩
  | ok l1 =>
    have a0 := need_ok hN0
    simp only
    have hlt0 : l1.length < n := by omega
    generalize hX : reAlts (rdE n) 7 [] [] l1 = X
    go_enter Tryd.func98, Tryd.ntmps98
    go_wp2_with fail
    refine (need_good hN0 rb p s _ HA.out rfl).mono ?_
    rintro e w1 ⟨rfl, ⟨q1, hq1, hl1⟩, hf1⟩
    have C1 := hideK (HC.out.keep hf1 hrl)
    clear HC HA hN0 a0
    go_wp2_with fail
    go_loopg [4, 5] 7 (fun m v u wr => ∃ (ls : List ByteArray) (xs : List KVc) (q : Nat), CHC w rb n ls xs v u wr ∧ RS wr rb s q ∧ ls.length + m = 7 ∧ ls.length ≤ 6 ∧ xs.length = ls.length ∧ (∀ l ∈ ls, l.size ≤ 2000) ∧ (rs s q).length < n ∧ reAlts (rdE n) m ls (xs.map (·.1)) (rs s q) = X)
    case atStart => exact ⟨[], [], q1, C1.out, hq1, rfl, Nat.zero_le _, rfl, fun l hl => (by cases hl), by rw [hl1]; exact hlt0, by rw [hl1]; exact hX⟩
    case round =>
      obtain ⟨ls, xs, q, hC, hq, hm, h6, hxl, hsl, hqn, hXr⟩ := hrel
      obtain ⟨m, rfl⟩ : ∃ m, gk = m + 1 := ⟨gk - 1, by omega⟩
      have HSL := hideK hsl
      have CD := hideK hC
      have RD := hideK hq
      clear hX hlt0 hl1 hq1 C1 hf1 hsl hC hq
      unfold reAlts at hXr
      cases hL : rdLab ls (rs s q) with
      | error r =>
        rw [hL] at hXr
        simp only at hXr
        subst hXr
        go_wp2_with fail
        refine (readLabelC_bad hL rb q w.heap.size s _ _ RD.out rfl CD.out.ol h6 HSL.out).mono ?_
        rintro e w2 ⟨rfl, hf2⟩
        exact ⟨rfl, rfl, CD.out.fr.trans hf2⟩
      | ok x =>
        obtain ⟨lab, l2⟩ := x
        rw [hL] at hXr
        simp only at hXr
        have a1 := rdLab_ok hL
        have hab : lab.size ≤ 2000 := by
          have h8 := nm_len8 _ (labs_nm _ a1.1 lab (by simp))
          have e : lab.size = lab.data.toList.length := by simp
          omega
        have h7 : (ls ++ [lab]).length ≤ 6 := (labs_len _ a1.1).1
        have b1 := a1.2.2.2
        clear a1
        go_wp2_with fail
        refine (readLabelC_ok hL rb q w.heap.size s _ _ RD.out rfl CD.out.ol h6 HSL.out).mono ?_
        rintro e w2 ⟨rfl, ⟨q2, hq2, hl2⟩, hf2⟩
        have C2 := hideK (CD.out.keep hf2 hrl)
        have L3 := hideK (lit_own w2 9 1 1 #[.string lab] rfl (by omega))
        have U3 := hideK (C2.out.ol.kept (FR.al (pb := w2.heap.size) (.cells #[.string lab] 9)) (.inr (fun e => by have := (C2.out.ol.lt _ e).2; omega)))
        have hw2 : w.heap.size ≤ w2.heap.size := C2.out.fr.size
        have Q2 := hideK hq2
        have HSL2 : Hid (∀ l ∈ ls ++ [lab], l.size ≤ 2000) := by
          intro l hl
          rcases List.mem_append.1 hl with hl | hl
          · exact HSL.out l hl
          · have : l = lab := by simpa using hl
            subst this; exact hab
        clear CD RD HSL hq2 hf2 hab hL
        go_wp2_with (at_builtin; refine wpList_append_rows _ rfl (.tmp 8) (.tmp 12) 22 rfl w.heap.size w2.heap.size 9 i0 (.string ⟨#[]⟩) 1 16 Tryd.underlying22 hi hz0 hz1 hz2 rfl (by decide) _ _ _ rfl U3.out _ _ _ rfl L3.out (by intro y hy; simp at hy; subst hy; rfl) (by unfold maxLen; omega) (by omega) (by simp; omega) ?_; intro v4 w4 hO4 hg4 hn4)
        replace hg4 : (w2.alloc (.cells #[.string lab] 9)).grownBy w4 u4.ownBlock := hg4
        replace hn4 : v4.ownBlock = u4.ownBlock ∨ v4.ownBlock = some (w2.alloc (.cells #[.string lab] 9)).heap.size := hn4
        have C4 := hideK (C2.out.lab (.cells #[.string lab] 9) lab hg4 hO4 hn4)
        have Q4 := hideK (Q2.out.blockC (step_cellsC hg4 rb Q2.out.lt (fun e => by have := (C2.out.ol.lt _ e).1; omega)))
        clear hO4 hg4 hn4 U3 L3 C2 Q2 hw2
        cases hN : need 58 l2 with
        | error r =>
          rw [hN] at hXr
          simp only at hXr
          subst hXr
          refine (need_bad hN rb q2 s _ Q4.out hl2).mono ?_
          rintro e w3 ⟨rfl, hf3⟩
          go_wp2_with fail
          exact ⟨rfl, rfl, C4.out.fr.trans hf3⟩
        | ok l3 =>
          rw [hN] at hXr
          simp only at hXr
          have b2 := (need_ok hN).2.2
          have hlt : l3.length < n := by omega
          refine (need_good hN rb q2 s _ Q4.out hl2).mono ?_
          rintro e w3 ⟨rfl, ⟨q3, hq3, hl3⟩, hf3⟩
          have C3 := hideK (C4.out.keep hf3 hrl)
          have Q3 := hideK hq3
          clear C4 Q4 hN hq3 hf3
          cases hT : rdE n l3 with
          | error r =>
            rw [hT] at hXr
            simp only at hXr
            subst hXr
            go_wp2_with fail
            refine (readE_bad hR hT hlt rb q3 s _ Q3.out hl3).mono ?_
            rintro e w4 ⟨rfl, hf4⟩
            go_wp2_with fail
            exact ⟨rfl, rfl, C3.out.fr.trans hf4⟩
          | ok x =>
            obtain ⟨t, l4⟩ := x
            rw [hT] at hXr
            simp only at hXr
            have a3 := rdE_short n _ _ _ hT
            go_wp2_with fail
            refine (readE_ok hR hT hlt rb q3 s _ Q3.out hl3).mono ?_
            rintro e w5 ⟨⟨al, cl, ak, ck, rfl, hg⟩, ⟨q5, hq5, hl5⟩, hf5⟩
            have C5 := hideK (C3.out.keep hf5 hrl)
            have HG := hideK hg
            have Q5 := hideK hq5
            have L5 := hideK (lit_own w5 25 7 1 #[.int .i64 t.kind, .string t.fm, .string t.tt, .int .i64 t.so, .string t.name, .slice al t.labels.length cl, .slice ak t.kids.length ck] rfl (by omega))
            have U5 := hideK (C5.out.ok.kept (FR.al (pb := w5.heap.size) (.cells #[.int .i64 t.kind, .string t.fm, .string t.tt, .int .i64 t.so, .string t.name, .slice al t.labels.length cl, .slice ak t.kids.length ck] 25)) (.inr (fun e => by have := (C5.out.ok.lt _ e).2; omega)))
            have hw5 : w.heap.size ≤ w5.heap.size := C5.out.fr.size
            clear hg hq5 hf5 hT
            go_wp2_with (at_builtin; refine wpList_append_rows _ rfl (.tmp 16) (.tmp 20) 23 rfl w.heap.size w5.heap.size 25 i1 (.agg #[.int .i64 0, .string ⟨#[]⟩, .string ⟨#[]⟩, .int .i64 0, .string ⟨#[]⟩, .slice none 0 0, .slice none 0 0]) 7 112 Tryd.underlying23 hi1 hy0 hy1 hy2 rfl (by decide) _ _ _ rfl U5.out _ _ _ rfl L5.out (kvD_one (t, al, cl, ak, ck)) (by unfold maxLen; omega) (by omega) (by simp; omega) ?_; intro v6 w6 hO6 hg6 hn6)
            replace hg6 : (w5.alloc (.cells #[.int .i64 t.kind, .string t.fm, .string t.tt, .int .i64 t.so, .string t.name, .slice al t.labels.length cl, .slice ak t.kids.length ck] 25)).grownBy w6 u5.ownBlock := hg6
            replace hn6 : v6.ownBlock = u5.ownBlock ∨ v6.ownBlock = some (w5.alloc (.cells #[.int .i64 t.kind, .string t.fm, .string t.tt, .int .i64 t.so, .string t.name, .slice al t.labels.length cl, .slice ak t.kids.length ck] 25)).heap.size := hn6
            have C6 := hideK (C5.out.kid _ (t, al, cl, ak, ck) hg6 HG.out C3.out hO6 hn6)
            have Q6 := hideK (Q5.out.blockC (step_cellsC hg6 rb Q5.out.lt (fun e => by have := (C5.out.ok.lt _ e).1; omega)))
            clear hO6 hg6 hn6 U5 L5 C5 Q5 hw5 C3 Q3 HG
            have cK := skip_any rb q5 s 125 w6 Q6.out
            rw [hl5] at cK
            by_cases h125 : l4.head? = some 125
            · rw [if_pos h125] at hXr
              subst hXr
              simp only [h125, decide_true, if_true] at cK
              refine cK.mono ?_
              rintro e w7 ⟨rfl, ⟨q7, hq7, hl7⟩, hf7⟩
              have G7 := hideK (C6.out.keep hf7 hrl).got
              have F7 := hideK ((C6.out.fr).trans hf7)
              have Q7 := hideK hq7
              clear cK C6 Q6 hq7 hf7
              go_wp2_with fail
              go_ret2
              refine ⟨⟨.tuple #[v4, v6], rfl, ⟨v4, v6, rfl, ?_⟩, q7, Q7.out, hl7⟩, F7.out⟩
              have := G7.out
              simpa using this
            · rw [if_neg h125] at hXr
              simp only [h125, decide_false, if_false] at cK
              refine cK.mono ?_
              rintro e w7 ⟨rfl, ⟨q7, hq7, hl7⟩, hf7⟩
              have C7 := hideK (C6.out.keep hf7 hrl)
              have Q7 := hideK hq7
              clear cK C6 Q6 hq7 hf7
              cases hM : need 44 l4 with
              | error r =>
                rw [hM] at hXr
                simp only at hXr
                subst hXr
                go_wp2_with fail
                refine (need_bad hM rb q7 s _ Q7.out hl7).mono ?_
                rintro e w8 ⟨rfl, hf8⟩
                go_wp2_with fail
                exact ⟨rfl, rfl, C7.out.fr.trans hf8⟩
              | ok l5 =>
                rw [hM] at hXr
                simp only at hXr
                have b4 := (need_ok hM).2.2
                go_wp2_with fail
                refine (need_good hM rb q7 s _ Q7.out hl7).mono ?_
                rintro e w8 ⟨rfl, ⟨q8, hq8, hl8⟩, hf8⟩
                have C8 := hideK (C7.out.keep hf8 hrl)
                have Q8 := hideK hq8
                clear C7 Q7 hq8 hf8
                go_wp2_with fail
                go_roundg m
                case rel => exact ⟨ls ++ [lab], xs ++ [(t, al, cl, ak, ck)], q8, C8.out, Q8.out, by simp; omega, h7, by simp; omega, HSL2.out, by rw [hl8]; omega, by rw [hl8]; simpa using hXr⟩
                case measure => omega
end Go.Proofs.YtfmegfgmkeicnaaDoor
