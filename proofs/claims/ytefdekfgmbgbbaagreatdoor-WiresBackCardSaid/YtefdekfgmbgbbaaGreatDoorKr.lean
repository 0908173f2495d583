/-
  The contract of types.readChoice, if that of types.read holds of shorter texts.
-/
import Derived.Test.YtefdekfgmbgbbaaGreatDoorKq
import Derived.Test.YtefdekfgmbgbbaaGreatDoorKp
import Derived.Deep.LoopGhost
import Derived.Deep.DeepCutAuto
namespace Go.Proofs.YtefdekfgmbgbbaaGreatDoor
open Go.RowKit Go.Shelf
theorem readLabel_ok {ls : List ByteArray} {l r : List UInt8} {nm : ByteArray} (h : rdLab ls l = .ok (nm, r)) (rb p base : Nat) (s : ByteArray) (v : Value) (w : World) (hr : RS w rb s p) (hl : rs s p = l) (hv : w.ownsRow base 9 1 v ls.length (nCs ls)) (h6 : ls.length ≤ 6) (hs : ∀ l ∈ ls, l.size ≤ 2000) :
    Calls Tryz.prog 89 #[.pointer (some ⟨rb, 0, none⟩), v, .func (.func 80) #[] #[]] w fun e w' => e = .returned (.string nm) ∧ (∃ p', RS w' rb s p' ∧ rs s p' = r) ∧ FR rb w w' := by
  have c := readLabel_any rb p base s ls v w hr hv h6 hs
  rw [hl, h] at c
  simp only [GPost] at c
  exact c.mono fun e w' ⟨⟨v, e1, e2, h3⟩, h4⟩ => ⟨by rw [e1, e2], h3, h4⟩
theorem readLabel_bad {ls : List ByteArray} {l r : List UInt8} (h : rdLab ls l = .error r) (rb p base : Nat) (s : ByteArray) (v : Value) (w : World) (hr : RS w rb s p) (hl : rs s p = l) (hv : w.ownsRow base 9 1 v ls.length (nCs ls)) (h6 : ls.length ≤ 6) (hs : ∀ l ∈ ls, l.size ≤ 2000) :
    Calls Tryz.prog 89 #[.pointer (some ⟨rb, 0, none⟩), v, .func (.func 80) #[] #[]] w fun e w' => e = .panicked (thrown s r) ∧ FR rb w w' := by
  have c := readLabel_any rb p base s ls v w hr hv h6 hs
  rw [hl, h] at c
  simpa only [GPost] using c
theorem RS.block {W W' : World} {rb : Nat} {s : ByteArray} {p : Nat} (h : RS W rb s p) (hb : W'.heap[rb]? = W.heap[rb]?) : RS W' rb s p :=
  ⟨(World.cell?_of_block (a := ⟨rb, 0, none⟩) hb).trans h.c0, (World.cell?_of_block (a := ⟨rb, 1, none⟩) hb).trans h.c1, (World.cell?_of_block (a := ⟨rb, 2, none⟩) hb).trans h.c2, (World.frozen?_of_block (a := ⟨rb, 2, none⟩) hb).trans h.fz, h.le, h.sz⟩
theorem slice_own {W : World} {base : Nat} {e : TypeId} {size : Nat} {v : Value} {n : Nat} {xs : List Value} (h : W.ownsRow base e size v n xs) : ∃ a m c, v = .slice a m c := by
  rcases h.2 with ⟨rfl, _⟩ | ⟨g, cap, cur, rfl, _⟩
  · exact ⟨_, _, _, rfl⟩
  · exact ⟨_, _, _, rfl⟩
theorem infoTy : (Tryz.prog.info? 31).map (fun i => (i.zero, i.size, i.bytes)) = some (some (.agg #[.int .i64 0, .int .i64 0, .string ⟨#[]⟩, .slice none 0 0, .slice none 0 0]), 5, 80) := by kernel_rfl
set_option maxRecDepth 100000 in
set_option maxHeartbeats 8000000 in
theorem readChoice_any (n : Nat) (hR : RDSaid n) (rb p : Nat) (s : ByteArray) (k : Int) (w : World) (h : RS w rb s p) (hn : (rs s p).length < n) :
    Calls Tryz.prog 76 #[.pointer (some ⟨rb, 0, none⟩), .int .i64 k] w fun e w' => GPost s rb (TyR w (n + 1)) (rdCho (rdT n) k (rs s p)) e w' ∧ FR rb w w' := by
  obtain ⟨i0, hi, hz0, hz1, hz2⟩ := info_parts infoSt
  obtain ⟨i1, hi1, hy0, hy1, hy2⟩ := info_parts infoTy
  have hrl := h.lt
  have HC := hideK (CH.new w rb n k)
  have HA := hideK ((h.al (.cells #[.int .i64 0, .int .i64 0, .string ⟨#[]⟩, .slice none 0 0, .slice none 0 0] 31)).al (.cells #[.int .i64 k, .int .i64 0, .string ⟨#[]⟩, .slice none 0 0, .slice none 0 0] 31))
  clear h
  unfold rdCho
  cases hN0 : need 123 (rs s p) with
  | error r =>
    simp only [GPost]
    go_enter Tryz.func76, Tryz.ntmps76
    go_wp2_with fail
    refine (need_bad hN0 rb p s _ HA.out rfl).mono ?_
    rintro e w1 ⟨rfl, hf1⟩
    go_wp2_with fail
    exact ⟨rfl, rfl, HC.out.fr.trans hf1⟩
  | ok l1 =>
    have a0 := need_ok hN0
    simp only
    have hlt0 : l1.length < n := by omega
    generalize hX : rdAlts (rdT n) k 7 [] [] l1 = X
    go_enter Tryz.func76, Tryz.ntmps76
    go_wp2_with fail
    refine (need_good hN0 rb p s _ HA.out rfl).mono ?_
    rintro e w1 ⟨rfl, ⟨q1, hq1, hl1⟩, hf1⟩
    have C1 := hideK (HC.out.keep hf1 hrl)
    clear HC HA hN0 a0
    go_wp2_with fail
    go_loopg [] 7 (fun m wr => ∃ (ls : List ByteArray) (xs : List KVt) (v u : Value) (q : Nat), CH w rb n k ls xs v u wr ∧ RS wr rb s q ∧ ls.length + m = 7 ∧ ls.length ≤ 6 ∧ xs.length = ls.length ∧ (∀ l ∈ ls, l.size ≤ 2000) ∧ (rs s q).length < n ∧ rdAlts (rdT n) k m ls (xs.map (·.1)) (rs s q) = X)
    case atStart => exact ⟨[], [], _, _, q1, C1.out, hq1, rfl, Nat.zero_le _, rfl, fun l hl => (by cases hl), by rw [hl1]; exact hlt0, by rw [hl1]; exact hX⟩
    case round =>
      obtain ⟨ls, xs, v, u, q, hC, hq, hm, h6, hxl, hsl, hqn, hXr⟩ := hrel
      obtain ⟨m, rfl⟩ : ∃ m, gk = m + 1 := ⟨gk - 1, by omega⟩
      have HSL := hideK hsl
      clear hX hlt0 hl1 hq1 C1 hf1 hsl
      have CD := hideK (hC.keep (FR.of (pb := rb) (Below.refl wr.heap.size wr).drew) hrl)
      have RD := hideK (hq.keep (Below.refl wr.heap.size wr).drew)
      have c3 := hC.c3
      clear hC hq
      unfold rdAlts at hXr
      cases hL : rdLab ls (rs s q) with
      | error r =>
        rw [hL] at hXr
        simp only at hXr
        subst hXr
        go_wp2_with fail
        refine wp_region_any (by kernel_rfl) ?_
        change wpAny _ _ _ _ _ _ _ (World.drew _)
        refine wpAny_take (i := 0) (v := (.pointer (some ⟨w.heap.size + 1, 3, none⟩))) rfl (by kernel_rfl) (by kernel_rfl) (by kernel_rfl) (fun _ _ _ h => h) (Or.inl ⟨by rfl, fun w => by go_simp⟩) ?_
        refine wpAny_take (i := 2) (v := (.pointer (some ⟨rb, 0, none⟩))) rfl (by kernel_rfl) (by kernel_rfl) (by kernel_rfl) (fun _ _ _ h => h) (Or.inl ⟨by rfl, fun w => by go_simp⟩) ?_
        refine wpAny_take (i := 3) (v := (.pointer (some ⟨w.heap.size + 1, 3, none⟩))) rfl (by kernel_rfl) (by kernel_rfl) (by kernel_rfl) (fun _ _ _ h => h) (Or.inl ⟨by rfl, fun w => by go_simp⟩) ?_
        refine wpAny_ready (rs := [1, 4]) (by kernel_rfl) (by simp) ?_
        refine (AllReady.cons rfl (fun K hK => ?_) (AllReady.cons rfl (fun K hK => ?_) AllReady.nil))
        · go_simp
          refine hK _ _ ?_
          clear hK K
          refine take_one 4 (AllReady.cons rfl (fun K hK => ?_) AllReady.nil) (by kernel_rfl)
          go_simp
          refine hK _ _ ?_
          clear hK K
          refine take_one 5 (AllReady.cons rfl (fun K hK => ?_) AllReady.nil) (by kernel_rfl)
          go_simp
          refine (readLabel_bad hL rb q (w.heap.size + 2) s v _ RD.out rfl CD.out.ol h6 HSL.out).mono ?_
          rintro e w2 ⟨rfl, hf2⟩
          exact ⟨rfl, rfl, CD.out.fr.trans hf2⟩
        · go_simp
          refine hK _ _ ?_
          clear hK K
          refine wpAny_ready (rs := [1, 5]) (by kernel_rfl) (by simp) ?_
          refine (AllReady.cons rfl (fun K hK => ?_) (AllReady.cons rfl (fun K hK => ?_) AllReady.nil))
          · go_simp
            refine hK _ _ ?_
            clear hK K
            refine take_one 5 (AllReady.cons rfl (fun K hK => ?_) AllReady.nil) (by kernel_rfl)
            go_simp
            refine (readLabel_bad hL rb q (w.heap.size + 2) s v _ RD.out rfl CD.out.ol h6 HSL.out).mono ?_
            rintro e w2 ⟨rfl, hf2⟩
            exact ⟨rfl, rfl, CD.out.fr.trans hf2⟩
          · go_simp
            refine (readLabel_bad hL rb q (w.heap.size + 2) s v _ RD.out rfl CD.out.ol h6 HSL.out).mono ?_
            rintro e w2 ⟨rfl, hf2⟩
            exact ⟨rfl, rfl, CD.out.fr.trans hf2⟩
      | ok x =>
        obtain ⟨lab, l2⟩ := x
        rw [hL] at hXr
        simp only at hXr
        have a1 := rdLab_ok hL
        have hab : lab.size ≤ 2000 := by
          have h8 := nm_len8 _ (labs_nm _ a1.1 lab (by simp))
          have e : lab.size = lab.data.toList.length := by simp
          omega
        have h7 : (ls ++ [lab]).length ≤ 6 := (labs_len _ a1.1).1
        have b1 := a1.2.2.2
        clear a1
        go_upto_region 3 with fail
        go_cut [] (fun wx => ∃ v' q', CH w rb n k (ls ++ [lab]) xs v' u wx ∧ RS wx rb s q' ∧ rs s q' = l2)
        case first =>
          refine wp_region_any (by kernel_rfl) ?_
          change wpAny _ _ _ _ _ _ _ (World.drew _)
          refine wpAny_take (i := 0) (v := (.pointer (some ⟨w.heap.size + 1, 3, none⟩))) rfl (by kernel_rfl) (by kernel_rfl) (by kernel_rfl) (fun _ _ _ h => h) (Or.inl ⟨by rfl, fun w => by go_simp⟩) ?_
          refine wpAny_take (i := 2) (v := (.pointer (some ⟨rb, 0, none⟩))) rfl (by kernel_rfl) (by kernel_rfl) (by kernel_rfl) (fun _ _ _ h => h) (Or.inl ⟨by rfl, fun w => by go_simp⟩) ?_
          refine wpAny_take (i := 3) (v := (.pointer (some ⟨w.heap.size + 1, 3, none⟩))) rfl (by kernel_rfl) (by kernel_rfl) (by kernel_rfl) (fun _ _ _ h => h) (Or.inl ⟨by rfl, fun w => by go_simp⟩) ?_
          refine wpAny_ready (rs := [1, 4]) (by kernel_rfl) (by simp) ?_
          refine (AllReady.cons rfl (fun K hK => ?_) (AllReady.cons rfl (fun K hK => ?_) AllReady.nil))
          · go_simp
            refine hK _ _ ?_
            clear hK K
            refine take_one 4 (AllReady.cons rfl (fun K hK => ?_) AllReady.nil) (by kernel_rfl)
            go_simp
            refine hK _ _ ?_
            clear hK K
            refine take_one 5 (AllReady.cons rfl (fun K hK => ?_) AllReady.nil) (by kernel_rfl)
            go_simp
            refine (readLabel_ok hL rb q (w.heap.size + 2) s v _ RD.out rfl CD.out.ol h6 HSL.out).mono ?_
            rintro e w2 ⟨rfl, ⟨q2, hq2, hl2⟩, hf2⟩
            have C2 := hideK (CD.out.keep hf2 hrl)
            have d3 := C2.out.c3
            have e3 : (w2.alloc (.cells #[.string lab] 9)).cell? ⟨w.heap.size + 1, 3, none⟩ = some v := ((FR.al (pb := w2.heap.size) _).cellO C2.out.lt (by have := C2.out.lt; omega)).trans C2.out.c3
            have L3 := hideK (lit_own w2 9 1 1 #[.string lab] rfl (by omega))
            have U3 := hideK (C2.out.ol.kept (FR.al (pb := w2.heap.size) (.cells #[.string lab] 9)) (.inr (fun e => by have := (C2.out.ol.lt _ e).2; omega)))
            have hw2 : w.heap.size + 2 ≤ w2.heap.size := by have := C2.out.lt; omega
            refine hK _ _ ?_
            clear hK K
            refine take_one 6 (AllReady.cons rfl (fun K hK => ?_) AllReady.nil) (by kernel_rfl)
            go_simp
            refine hK _ _ ?_
            clear hK K
            refine take_one 7 (AllReady.cons rfl (fun K hK => ?_) AllReady.nil) (by kernel_rfl)
            refine step_append_rows _ rfl _ _ 28 rfl _ _ 9 i0 (.string ⟨#[]⟩) 1 16 Tryz.underlying28 hi hz0 hz1 hz2 rfl (by decide) _ _ _ rfl U3.out _ _ _ rfl L3.out (by intro y hy; simp at hy; subst hy; rfl) (by unfold maxLen; omega) (by omega) (by simp; omega) ?_
            intro v4 w4 hO4 hg4 hn4
            replace hg4 : (w2.alloc (.cells #[.string lab] 9)).grownBy w4 v.ownBlock := hg4
            replace hn4 : v4.ownBlock = v.ownBlock ∨ v4.ownBlock = some (w2.alloc (.cells #[.string lab] 9)).heap.size := hn4
            have C4 := hideK (C2.out.lab (.cells #[.string lab] 9) lab hg4 hO4 hn4)
            have hv4 : v.ownBlock ≠ some (w.heap.size + 1) := fun e => by have := (C2.out.ol.lt _ e).1; omega
            have hb4 : w4.heap[w.heap.size + 1]? = w2.heap[w.heap.size + 1]? := (hg4.block _ (by simp; omega) (fun e => hv4 e.symm)).trans (heap_alloc_old w2 (.cells #[.string lab] 9) C2.out.lt)
            have g3 := (World.cell?_of_block (a := ⟨w.heap.size + 1, 3, none⟩) hb4).trans C2.out.c3
            have gf3 := (World.frozen?_of_block (a := ⟨w.heap.size + 1, 3, none⟩) hb4).trans C2.out.f3
            have hR4 := hideK (hq2.block (W' := w4.setCell ⟨w.heap.size + 1, 3, none⟩ v4) (step_cells hg4 rb hq2.lt (fun e => by have := (C2.out.ol.lt _ e).1; omega) (by omega)))
            obtain ⟨a4, n4, cp4, rfl⟩ := slice_own hO4
            clear hO4 hg4 hn4 hb4 hv4
            refine hK _ _ ?_
            clear hK K
            refine take_one 8 (AllReady.cons rfl (fun K hK => ?_) AllReady.nil) (by kernel_rfl)
            go_simp
            refine hK _ _ ?_
            clear hK K
            refine take_one 9 (AllReady.cons rfl (fun K hK => ?_) AllReady.nil) (by kernel_rfl)
            go_simp
            refine hK _ _ ?_
            clear hK K
            refine wpAny_done (by kernel_rfl) ?_ _
            go_wp2_with fail
            go_meet
            case rel => exact ⟨_, q2, C4.out, hR4.out, hl2⟩
          · go_simp
            refine hK _ _ ?_
            clear hK K
            refine wpAny_ready (rs := [1, 5]) (by kernel_rfl) (by simp) ?_
            refine (AllReady.cons rfl (fun K hK => ?_) (AllReady.cons rfl (fun K hK => ?_) AllReady.nil))
            · go_simp
              refine hK _ _ ?_
              clear hK K
              refine take_one 5 (AllReady.cons rfl (fun K hK => ?_) AllReady.nil) (by kernel_rfl)
              go_simp
              refine (readLabel_ok hL rb q (w.heap.size + 2) s v _ RD.out rfl CD.out.ol h6 HSL.out).mono ?_
              rintro e w2 ⟨rfl, ⟨q2, hq2, hl2⟩, hf2⟩
              have C2 := hideK (CD.out.keep hf2 hrl)
              have d3 := C2.out.c3
              have e3 : (w2.alloc (.cells #[.string lab] 9)).cell? ⟨w.heap.size + 1, 3, none⟩ = some v := ((FR.al (pb := w2.heap.size) _).cellO C2.out.lt (by have := C2.out.lt; omega)).trans C2.out.c3
              have L3 := hideK (lit_own w2 9 1 1 #[.string lab] rfl (by omega))
              have U3 := hideK (C2.out.ol.kept (FR.al (pb := w2.heap.size) (.cells #[.string lab] 9)) (.inr (fun e => by have := (C2.out.ol.lt _ e).2; omega)))
              have hw2 : w.heap.size + 2 ≤ w2.heap.size := by have := C2.out.lt; omega
              refine hK _ _ ?_
              clear hK K
              refine take_one 6 (AllReady.cons rfl (fun K hK => ?_) AllReady.nil) (by kernel_rfl)
              go_simp
              refine hK _ _ ?_
              clear hK K
              refine take_one 7 (AllReady.cons rfl (fun K hK => ?_) AllReady.nil) (by kernel_rfl)
              refine step_append_rows _ rfl _ _ 28 rfl _ _ 9 i0 (.string ⟨#[]⟩) 1 16 Tryz.underlying28 hi hz0 hz1 hz2 rfl (by decide) _ _ _ rfl U3.out _ _ _ rfl L3.out (by intro y hy; simp at hy; subst hy; rfl) (by unfold maxLen; omega) (by omega) (by simp; omega) ?_
              intro v4 w4 hO4 hg4 hn4
              replace hg4 : (w2.alloc (.cells #[.string lab] 9)).grownBy w4 v.ownBlock := hg4
              replace hn4 : v4.ownBlock = v.ownBlock ∨ v4.ownBlock = some (w2.alloc (.cells #[.string lab] 9)).heap.size := hn4
              have C4 := hideK (C2.out.lab (.cells #[.string lab] 9) lab hg4 hO4 hn4)
              have hv4 : v.ownBlock ≠ some (w.heap.size + 1) := fun e => by have := (C2.out.ol.lt _ e).1; omega
              have hb4 : w4.heap[w.heap.size + 1]? = w2.heap[w.heap.size + 1]? := (hg4.block _ (by simp; omega) (fun e => hv4 e.symm)).trans (heap_alloc_old w2 (.cells #[.string lab] 9) C2.out.lt)
              have g3 := (World.cell?_of_block (a := ⟨w.heap.size + 1, 3, none⟩) hb4).trans C2.out.c3
              have gf3 := (World.frozen?_of_block (a := ⟨w.heap.size + 1, 3, none⟩) hb4).trans C2.out.f3
              have hR4 := hideK (hq2.block (W' := w4.setCell ⟨w.heap.size + 1, 3, none⟩ v4) (step_cells hg4 rb hq2.lt (fun e => by have := (C2.out.ol.lt _ e).1; omega) (by omega)))
              obtain ⟨a4, n4, cp4, rfl⟩ := slice_own hO4
              clear hO4 hg4 hn4 hb4 hv4
              refine hK _ _ ?_
              clear hK K
              refine take_one 8 (AllReady.cons rfl (fun K hK => ?_) AllReady.nil) (by kernel_rfl)
              go_simp
              refine hK _ _ ?_
              clear hK K
              refine take_one 9 (AllReady.cons rfl (fun K hK => ?_) AllReady.nil) (by kernel_rfl)
              go_simp
              refine hK _ _ ?_
              clear hK K
              refine wpAny_done (by kernel_rfl) ?_ _
              go_wp2_with fail
              go_meet
              case rel => exact ⟨_, q2, C4.out, hR4.out, hl2⟩
            · go_simp
              refine (readLabel_ok hL rb q (w.heap.size + 2) s v _ RD.out rfl CD.out.ol h6 HSL.out).mono ?_
              rintro e w2 ⟨rfl, ⟨q2, hq2, hl2⟩, hf2⟩
              have C2 := hideK (CD.out.keep hf2 hrl)
              have d3 := C2.out.c3
              have e3 : (w2.alloc (.cells #[.string lab] 9)).cell? ⟨w.heap.size + 1, 3, none⟩ = some v := ((FR.al (pb := w2.heap.size) _).cellO C2.out.lt (by have := C2.out.lt; omega)).trans C2.out.c3
              have L3 := hideK (lit_own w2 9 1 1 #[.string lab] rfl (by omega))
              have U3 := hideK (C2.out.ol.kept (FR.al (pb := w2.heap.size) (.cells #[.string lab] 9)) (.inr (fun e => by have := (C2.out.ol.lt _ e).2; omega)))
              have hw2 : w.heap.size + 2 ≤ w2.heap.size := by have := C2.out.lt; omega
              refine hK _ _ ?_
              clear hK K
              refine wpAny_ready (rs := [1, 6]) (by kernel_rfl) (by simp) ?_
              refine (AllReady.cons rfl (fun K hK => ?_) (AllReady.cons rfl (fun K hK => ?_) AllReady.nil))
              · go_simp
                refine hK _ _ ?_
                clear hK K
                refine take_one 6 (AllReady.cons rfl (fun K hK => ?_) AllReady.nil) (by kernel_rfl)
                go_simp
                refine hK _ _ ?_
                clear hK K
                refine take_one 7 (AllReady.cons rfl (fun K hK => ?_) AllReady.nil) (by kernel_rfl)
                refine step_append_rows _ rfl _ _ 28 rfl _ _ 9 i0 (.string ⟨#[]⟩) 1 16 Tryz.underlying28 hi hz0 hz1 hz2 rfl (by decide) _ _ _ rfl U3.out _ _ _ rfl L3.out (by intro y hy; simp at hy; subst hy; rfl) (by unfold maxLen; omega) (by omega) (by simp; omega) ?_
                intro v4 w4 hO4 hg4 hn4
                replace hg4 : (w2.alloc (.cells #[.string lab] 9)).grownBy w4 v.ownBlock := hg4
                replace hn4 : v4.ownBlock = v.ownBlock ∨ v4.ownBlock = some (w2.alloc (.cells #[.string lab] 9)).heap.size := hn4
                have C4 := hideK (C2.out.lab (.cells #[.string lab] 9) lab hg4 hO4 hn4)
                have hv4 : v.ownBlock ≠ some (w.heap.size + 1) := fun e => by have := (C2.out.ol.lt _ e).1; omega
                have hb4 : w4.heap[w.heap.size + 1]? = w2.heap[w.heap.size + 1]? := (hg4.block _ (by simp; omega) (fun e => hv4 e.symm)).trans (heap_alloc_old w2 (.cells #[.string lab] 9) C2.out.lt)
                have g3 := (World.cell?_of_block (a := ⟨w.heap.size + 1, 3, none⟩) hb4).trans C2.out.c3
                have gf3 := (World.frozen?_of_block (a := ⟨w.heap.size + 1, 3, none⟩) hb4).trans C2.out.f3
                have hR4 := hideK (hq2.block (W' := w4.setCell ⟨w.heap.size + 1, 3, none⟩ v4) (step_cells hg4 rb hq2.lt (fun e => by have := (C2.out.ol.lt _ e).1; omega) (by omega)))
                obtain ⟨a4, n4, cp4, rfl⟩ := slice_own hO4
                clear hO4 hg4 hn4 hb4 hv4
                refine hK _ _ ?_
                clear hK K
                refine take_one 8 (AllReady.cons rfl (fun K hK => ?_) AllReady.nil) (by kernel_rfl)
                go_simp
                refine hK _ _ ?_
                clear hK K
                refine take_one 9 (AllReady.cons rfl (fun K hK => ?_) AllReady.nil) (by kernel_rfl)
                go_simp
                refine hK _ _ ?_
                clear hK K
                refine wpAny_done (by kernel_rfl) ?_ _
                go_wp2_with fail
                go_meet
                case rel => exact ⟨_, q2, C4.out, hR4.out, hl2⟩
              · go_simp
                refine hK _ _ ?_
                clear hK K
                refine take_one 1 (AllReady.cons rfl (fun K hK => ?_) AllReady.nil) (by kernel_rfl)
                go_simp
                refine hK _ _ ?_
                clear hK K
                refine take_one 7 (AllReady.cons rfl (fun K hK => ?_) AllReady.nil) (by kernel_rfl)
                refine step_append_rows _ rfl _ _ 28 rfl _ _ 9 i0 (.string ⟨#[]⟩) 1 16 Tryz.underlying28 hi hz0 hz1 hz2 rfl (by decide) _ _ _ rfl U3.out _ _ _ rfl L3.out (by intro y hy; simp at hy; subst hy; rfl) (by unfold maxLen; omega) (by omega) (by simp; omega) ?_
                intro v4 w4 hO4 hg4 hn4
                replace hg4 : (w2.alloc (.cells #[.string lab] 9)).grownBy w4 v.ownBlock := hg4
                replace hn4 : v4.ownBlock = v.ownBlock ∨ v4.ownBlock = some (w2.alloc (.cells #[.string lab] 9)).heap.size := hn4
                have C4 := hideK (C2.out.lab (.cells #[.string lab] 9) lab hg4 hO4 hn4)
                have hv4 : v.ownBlock ≠ some (w.heap.size + 1) := fun e => by have := (C2.out.ol.lt _ e).1; omega
                have hb4 : w4.heap[w.heap.size + 1]? = w2.heap[w.heap.size + 1]? := (hg4.block _ (by simp; omega) (fun e => hv4 e.symm)).trans (heap_alloc_old w2 (.cells #[.string lab] 9) C2.out.lt)
                have g3 := (World.cell?_of_block (a := ⟨w.heap.size + 1, 3, none⟩) hb4).trans C2.out.c3
                have gf3 := (World.frozen?_of_block (a := ⟨w.heap.size + 1, 3, none⟩) hb4).trans C2.out.f3
                have hR4 := hideK (hq2.block (W' := w4.setCell ⟨w.heap.size + 1, 3, none⟩ v4) (step_cells hg4 rb hq2.lt (fun e => by have := (C2.out.ol.lt _ e).1; omega) (by omega)))
                obtain ⟨a4, n4, cp4, rfl⟩ := slice_own hO4
                clear hO4 hg4 hn4 hb4 hv4
                refine hK _ _ ?_
                clear hK K
                refine take_one 8 (AllReady.cons rfl (fun K hK => ?_) AllReady.nil) (by kernel_rfl)
                go_simp
                refine hK _ _ ?_
                clear hK K
                refine take_one 9 (AllReady.cons rfl (fun K hK => ?_) AllReady.nil) (by kernel_rfl)
                go_simp
                refine hK _ _ ?_
                clear hK K
                refine wpAny_done (by kernel_rfl) ?_ _
                go_wp2_with fail
                go_meet
                case rel => exact ⟨_, q2, C4.out, hR4.out, hl2⟩
        case rest =>
          obtain ⟨v', q2, hC2, hq2, hl2⟩ := hcut
          have HSL2 : Hid (∀ l ∈ ls ++ [lab], l.size ≤ 2000) := by
            intro l hl
            rcases List.mem_append.1 hl with hl | hl
            · exact HSL.out l hl
            · have : l = lab := by simpa using hl
              subst this; exact hab
          have HC2 := hideK hC2
          clear CD RD c3 hL HSL hab hC2
          cases hN : need 58 l2 with
          | error r =>
            rw [hN] at hXr
            simp only at hXr
            subst hXr
            go_wp2_with fail
            refine (need_bad hN rb q2 s _ hq2 hl2).mono ?_
            rintro e w3 ⟨rfl, hf3⟩
            go_wp2_with fail
            exact ⟨rfl, rfl, HC2.out.fr.trans hf3⟩
          | ok l3 =>
            rw [hN] at hXr
            simp only at hXr
            have b2 := (need_ok hN).2.2
            have hlt : l3.length < n := by omega
            go_wp2_with fail
            refine (need_good hN rb q2 s _ hq2 hl2).mono ?_
            rintro e w3 ⟨rfl, ⟨q3, hq3, hl3⟩, hf3⟩
            have C3 := hideK (HC2.out.keep hf3 hrl)
            have c4 := C3.out.c4
            have CD3 := hideK (C3.out.keep (FR.of (pb := rb) (Below.refl w3.heap.size w3).drew) hrl)
            have RD3 := hideK (hq3.keep (Below.refl w3.heap.size w3).drew)
            cases hT : rdT n l3 with
            | error r =>
              rw [hT] at hXr
              simp only at hXr
              subst hXr
              go_wp2_with fail
              refine wp_region_any (by kernel_rfl) ?_
              change wpAny _ _ _ _ _ _ _ (World.drew _)
              refine wpAny_take (i := 0) (v := (.pointer (some ⟨w.heap.size + 1, 4, none⟩))) rfl (by kernel_rfl) (by kernel_rfl) (by kernel_rfl) (fun _ _ _ h => h) (Or.inl ⟨by rfl, fun w => by go_simp⟩) ?_
              refine wpAny_take (i := 2) (v := (.pointer (some ⟨rb, 0, none⟩))) rfl (by kernel_rfl) (by kernel_rfl) (by kernel_rfl) (fun _ _ _ h => h) (Or.inl ⟨by rfl, fun w => by go_simp⟩) ?_
              refine wpAny_ready (rs := [1, 3]) (by kernel_rfl) (by simp) ?_
              refine (AllReady.cons rfl (fun K hK => ?_) (AllReady.cons rfl (fun K hK => ?_) AllReady.nil))
              · go_simp
                refine hK _ _ ?_
                clear hK K
                refine take_one 3 (AllReady.cons rfl (fun K hK => ?_) AllReady.nil) (by kernel_rfl)
                go_simp
                refine (read_bad hR hT hlt rb q3 s _ RD3.out hl3).mono ?_
                rintro e w4 ⟨rfl, hf4⟩
                exact ⟨rfl, rfl, CD3.out.fr.trans hf4⟩
              · go_simp
                refine (read_bad hR hT hlt rb q3 s _ RD3.out hl3).mono ?_
                rintro e w4 ⟨rfl, hf4⟩
                exact ⟨rfl, rfl, CD3.out.fr.trans hf4⟩
            | ok x =>
              obtain ⟨t, l4⟩ := x
              rw [hT] at hXr
              simp only at hXr
              have a3 := rdT_short n _ _ _ hT
              go_upto_region 5 with fail
              go_cut [] (fun wx => ∃ x u' q', CH w rb n k (ls ++ [lab]) (xs ++ [x]) v' u' wx ∧ x.1 = t ∧ RS wx rb s q' ∧ rs s q' = l4)
              case first =>
                refine wp_region_any (by kernel_rfl) ?_
                change wpAny _ _ _ _ _ _ _ (World.drew _)
                refine wpAny_take (i := 0) (v := (.pointer (some ⟨w.heap.size + 1, 4, none⟩))) rfl (by kernel_rfl) (by kernel_rfl) (by kernel_rfl) (fun _ _ _ h => h) (Or.inl ⟨by rfl, fun w => by go_simp⟩) ?_
                refine wpAny_take (i := 2) (v := (.pointer (some ⟨rb, 0, none⟩))) rfl (by kernel_rfl) (by kernel_rfl) (by kernel_rfl) (fun _ _ _ h => h) (Or.inl ⟨by rfl, fun w => by go_simp⟩) ?_
                refine wpAny_ready (rs := [1, 3]) (by kernel_rfl) (by simp) ?_
                refine (AllReady.cons rfl (fun K hK => ?_) (AllReady.cons rfl (fun K hK => ?_) AllReady.nil))
                · go_simp
                  refine hK _ _ ?_
                  clear hK K
                  refine take_one 3 (AllReady.cons rfl (fun K hK => ?_) AllReady.nil) (by kernel_rfl)
                  go_simp
                  refine (read_ok hR hT hlt rb q3 s _ RD3.out hl3).mono ?_
                  rintro e w4 ⟨⟨al, cl, ak, ck, rfl, hg⟩, ⟨q4, hq4, hl4⟩, hf4⟩
                  have C4 := hideK (CD3.out.keep hf4 hrl)
                  have HG := hideK hg
                  have d4 := C4.out.c4
                  have e4 : (w4.alloc (.cells #[.int .i64 t.kind, .int .i64 t.so, .string t.name, .slice al t.labels.length cl, .slice ak t.kids.length ck] 31)).cell? ⟨w.heap.size + 1, 4, none⟩ = some u := ((FR.al (pb := w4.heap.size) _).cellO C4.out.lt (by have := C4.out.lt; omega)).trans C4.out.c4
                  have L4 := hideK (lit_own w4 31 5 1 #[.int .i64 t.kind, .int .i64 t.so, .string t.name, .slice al t.labels.length cl, .slice ak t.kids.length ck] rfl (by omega))
                  have U4 := hideK (C4.out.ok.kept (FR.al (pb := w4.heap.size) (.cells #[.int .i64 t.kind, .int .i64 t.so, .string t.name, .slice al t.labels.length cl, .slice ak t.kids.length ck] 31)) (.inr (fun e => by have := (C4.out.ok.lt _ e).2; omega)))
                  have hw4 : w.heap.size + 2 ≤ w4.heap.size := by have := C4.out.lt; omega
                  clear hg
                  refine hK _ _ ?_
                  clear hK K
                  refine take_one 4 (AllReady.cons rfl (fun K hK => ?_) AllReady.nil) (by kernel_rfl)
                  go_simp
                  refine hK _ _ ?_
                  clear hK K
                  refine take_one 5 (AllReady.cons rfl (fun K hK => ?_) AllReady.nil) (by kernel_rfl)
                  refine step_append_rows _ rfl _ _ 29 rfl _ _ 31 i1 (.agg #[.int .i64 0, .int .i64 0, .string ⟨#[]⟩, .slice none 0 0, .slice none 0 0]) 5 80 Tryz.underlying29 hi1 hy0 hy1 hy2 rfl (by decide) _ _ _ rfl U4.out _ _ _ rfl L4.out (kvC_one (t, al, cl, ak, ck)) (by unfold maxLen; omega) (by omega) (by simp; omega) ?_
                  intro v6 w6 hO6 hg6 hn6
                  replace hg6 : (w4.alloc (.cells #[.int .i64 t.kind, .int .i64 t.so, .string t.name, .slice al t.labels.length cl, .slice ak t.kids.length ck] 31)).grownBy w6 u.ownBlock := hg6
                  replace hn6 : v6.ownBlock = u.ownBlock ∨ v6.ownBlock = some (w4.alloc (.cells #[.int .i64 t.kind, .int .i64 t.so, .string t.name, .slice al t.labels.length cl, .slice ak t.kids.length ck] 31)).heap.size := hn6
                  have C6 := hideK (C4.out.kid (.cells #[.int .i64 t.kind, .int .i64 t.so, .string t.name, .slice al t.labels.length cl, .slice ak t.kids.length ck] 31) (t, al, cl, ak, ck) hg6 HG.out CD3.out hO6 hn6)
                  have hv6 : u.ownBlock ≠ some (w.heap.size + 1) := fun e => by have := (C4.out.ok.lt _ e).1; omega
                  have hb6 : w6.heap[w.heap.size + 1]? = w4.heap[w.heap.size + 1]? := (hg6.block _ (by simp; omega) (fun e => hv6 e.symm)).trans (heap_alloc_old w4 (.cells #[.int .i64 t.kind, .int .i64 t.so, .string t.name, .slice al t.labels.length cl, .slice ak t.kids.length ck] 31) C4.out.lt)
                  have g4 := (World.cell?_of_block (a := ⟨w.heap.size + 1, 4, none⟩) hb6).trans C4.out.c4
                  have gf4 := (World.frozen?_of_block (a := ⟨w.heap.size + 1, 4, none⟩) hb6).trans C4.out.f4
                  have hR6 := hideK (hq4.block (W' := w6.setCell ⟨w.heap.size + 1, 4, none⟩ v6) (step_cells hg6 rb hq4.lt (fun e => by have := (C4.out.ok.lt _ e).1; omega) (by omega)))
                  obtain ⟨a6, n6, cp6, rfl⟩ := slice_own hO6
                  clear hO6 hg6 hn6 hb6 hv6
                  refine hK _ _ ?_
                  clear hK K
                  refine take_one 6 (AllReady.cons rfl (fun K hK => ?_) AllReady.nil) (by kernel_rfl)
                  go_simp
                  refine hK _ _ ?_
                  clear hK K
                  refine take_one 7 (AllReady.cons rfl (fun K hK => ?_) AllReady.nil) (by kernel_rfl)
                  go_simp
                  refine hK _ _ ?_
                  clear hK K
                  refine wpAny_done (by kernel_rfl) ?_ _
                  go_wp2_with fail
                  go_meet
                  case rel => exact ⟨_, _, q4, C6.out, rfl, hR6.out, hl4⟩
                · go_simp
                  refine (read_ok hR hT hlt rb q3 s _ RD3.out hl3).mono ?_
                  rintro e w4 ⟨⟨al, cl, ak, ck, rfl, hg⟩, ⟨q4, hq4, hl4⟩, hf4⟩
                  have C4 := hideK (CD3.out.keep hf4 hrl)
                  have HG := hideK hg
                  have d4 := C4.out.c4
                  have e4 : (w4.alloc (.cells #[.int .i64 t.kind, .int .i64 t.so, .string t.name, .slice al t.labels.length cl, .slice ak t.kids.length ck] 31)).cell? ⟨w.heap.size + 1, 4, none⟩ = some u := ((FR.al (pb := w4.heap.size) _).cellO C4.out.lt (by have := C4.out.lt; omega)).trans C4.out.c4
                  have L4 := hideK (lit_own w4 31 5 1 #[.int .i64 t.kind, .int .i64 t.so, .string t.name, .slice al t.labels.length cl, .slice ak t.kids.length ck] rfl (by omega))
                  have U4 := hideK (C4.out.ok.kept (FR.al (pb := w4.heap.size) (.cells #[.int .i64 t.kind, .int .i64 t.so, .string t.name, .slice al t.labels.length cl, .slice ak t.kids.length ck] 31)) (.inr (fun e => by have := (C4.out.ok.lt _ e).2; omega)))
                  have hw4 : w.heap.size + 2 ≤ w4.heap.size := by have := C4.out.lt; omega
                  clear hg
                  refine hK _ _ ?_
                  clear hK K
                  refine wpAny_ready (rs := [1, 4]) (by kernel_rfl) (by simp) ?_
                  refine (AllReady.cons rfl (fun K hK => ?_) (AllReady.cons rfl (fun K hK => ?_) AllReady.nil))
                  · go_simp
                    refine hK _ _ ?_
                    clear hK K
                    refine take_one 4 (AllReady.cons rfl (fun K hK => ?_) AllReady.nil) (by kernel_rfl)
                    go_simp
                    refine hK _ _ ?_
                    clear hK K
                    refine take_one 5 (AllReady.cons rfl (fun K hK => ?_) AllReady.nil) (by kernel_rfl)
                    refine step_append_rows _ rfl _ _ 29 rfl _ _ 31 i1 (.agg #[.int .i64 0, .int .i64 0, .string ⟨#[]⟩, .slice none 0 0, .slice none 0 0]) 5 80 Tryz.underlying29 hi1 hy0 hy1 hy2 rfl (by decide) _ _ _ rfl U4.out _ _ _ rfl L4.out (kvC_one (t, al, cl, ak, ck)) (by unfold maxLen; omega) (by omega) (by simp; omega) ?_
                    intro v6 w6 hO6 hg6 hn6
                    replace hg6 : (w4.alloc (.cells #[.int .i64 t.kind, .int .i64 t.so, .string t.name, .slice al t.labels.length cl, .slice ak t.kids.length ck] 31)).grownBy w6 u.ownBlock := hg6
                    replace hn6 : v6.ownBlock = u.ownBlock ∨ v6.ownBlock = some (w4.alloc (.cells #[.int .i64 t.kind, .int .i64 t.so, .string t.name, .slice al t.labels.length cl, .slice ak t.kids.length ck] 31)).heap.size := hn6
                    have C6 := hideK (C4.out.kid (.cells #[.int .i64 t.kind, .int .i64 t.so, .string t.name, .slice al t.labels.length cl, .slice ak t.kids.length ck] 31) (t, al, cl, ak, ck) hg6 HG.out CD3.out hO6 hn6)
                    have hv6 : u.ownBlock ≠ some (w.heap.size + 1) := fun e => by have := (C4.out.ok.lt _ e).1; omega
                    have hb6 : w6.heap[w.heap.size + 1]? = w4.heap[w.heap.size + 1]? := (hg6.block _ (by simp; omega) (fun e => hv6 e.symm)).trans (heap_alloc_old w4 (.cells #[.int .i64 t.kind, .int .i64 t.so, .string t.name, .slice al t.labels.length cl, .slice ak t.kids.length ck] 31) C4.out.lt)
                    have g4 := (World.cell?_of_block (a := ⟨w.heap.size + 1, 4, none⟩) hb6).trans C4.out.c4
                    have gf4 := (World.frozen?_of_block (a := ⟨w.heap.size + 1, 4, none⟩) hb6).trans C4.out.f4
                    have hR6 := hideK (hq4.block (W' := w6.setCell ⟨w.heap.size + 1, 4, none⟩ v6) (step_cells hg6 rb hq4.lt (fun e => by have := (C4.out.ok.lt _ e).1; omega) (by omega)))
                    obtain ⟨a6, n6, cp6, rfl⟩ := slice_own hO6
                    clear hO6 hg6 hn6 hb6 hv6
                    refine hK _ _ ?_
                    clear hK K
                    refine take_one 6 (AllReady.cons rfl (fun K hK => ?_) AllReady.nil) (by kernel_rfl)
                    go_simp
                    refine hK _ _ ?_
                    clear hK K
                    refine take_one 7 (AllReady.cons rfl (fun K hK => ?_) AllReady.nil) (by kernel_rfl)
                    go_simp
                    refine hK _ _ ?_
                    clear hK K
                    refine wpAny_done (by kernel_rfl) ?_ _
                    go_wp2_with fail
                    go_meet
                    case rel => exact ⟨_, _, q4, C6.out, rfl, hR6.out, hl4⟩
                  · go_simp
                    refine hK _ _ ?_
                    clear hK K
                    refine take_one 1 (AllReady.cons rfl (fun K hK => ?_) AllReady.nil) (by kernel_rfl)
                    go_simp
                    refine hK _ _ ?_
                    clear hK K
                    refine take_one 5 (AllReady.cons rfl (fun K hK => ?_) AllReady.nil) (by kernel_rfl)
                    refine step_append_rows _ rfl _ _ 29 rfl _ _ 31 i1 (.agg #[.int .i64 0, .int .i64 0, .string ⟨#[]⟩, .slice none 0 0, .slice none 0 0]) 5 80 Tryz.underlying29 hi1 hy0 hy1 hy2 rfl (by decide) _ _ _ rfl U4.out _ _ _ rfl L4.out (kvC_one (t, al, cl, ak, ck)) (by unfold maxLen; omega) (by omega) (by simp; omega) ?_
                    intro v6 w6 hO6 hg6 hn6
                    replace hg6 : (w4.alloc (.cells #[.int .i64 t.kind, .int .i64 t.so, .string t.name, .slice al t.labels.length cl, .slice ak t.kids.length ck] 31)).grownBy w6 u.ownBlock := hg6
                    replace hn6 : v6.ownBlock = u.ownBlock ∨ v6.ownBlock = some (w4.alloc (.cells #[.int .i64 t.kind, .int .i64 t.so, .string t.name, .slice al t.labels.length cl, .slice ak t.kids.length ck] 31)).heap.size := hn6
                    have C6 := hideK (C4.out.kid (.cells #[.int .i64 t.kind, .int .i64 t.so, .string t.name, .slice al t.labels.length cl, .slice ak t.kids.length ck] 31) (t, al, cl, ak, ck) hg6 HG.out CD3.out hO6 hn6)
                    have hv6 : u.ownBlock ≠ some (w.heap.size + 1) := fun e => by have := (C4.out.ok.lt _ e).1; omega
                    have hb6 : w6.heap[w.heap.size + 1]? = w4.heap[w.heap.size + 1]? := (hg6.block _ (by simp; omega) (fun e => hv6 e.symm)).trans (heap_alloc_old w4 (.cells #[.int .i64 t.kind, .int .i64 t.so, .string t.name, .slice al t.labels.length cl, .slice ak t.kids.length ck] 31) C4.out.lt)
                    have g4 := (World.cell?_of_block (a := ⟨w.heap.size + 1, 4, none⟩) hb6).trans C4.out.c4
                    have gf4 := (World.frozen?_of_block (a := ⟨w.heap.size + 1, 4, none⟩) hb6).trans C4.out.f4
                    have hR6 := hideK (hq4.block (W' := w6.setCell ⟨w.heap.size + 1, 4, none⟩ v6) (step_cells hg6 rb hq4.lt (fun e => by have := (C4.out.ok.lt _ e).1; omega) (by omega)))
                    obtain ⟨a6, n6, cp6, rfl⟩ := slice_own hO6
                    clear hO6 hg6 hn6 hb6 hv6
                    refine hK _ _ ?_
                    clear hK K
                    refine take_one 6 (AllReady.cons rfl (fun K hK => ?_) AllReady.nil) (by kernel_rfl)
                    go_simp
                    refine hK _ _ ?_
                    clear hK K
                    refine take_one 7 (AllReady.cons rfl (fun K hK => ?_) AllReady.nil) (by kernel_rfl)
                    go_simp
                    refine hK _ _ ?_
                    clear hK K
                    refine wpAny_done (by kernel_rfl) ?_ _
                    go_wp2_with fail
                    go_meet
                    case rel => exact ⟨_, _, q4, C6.out, rfl, hR6.out, hl4⟩
              case rest =>
                obtain ⟨x, u', q4, hC4, hx, hq4, hl4⟩ := hcut
                have cK := skip_any rb q4 s 125 _ hq4
                rw [hl4] at cK
                clear C3 c4 CD3 RD3 hT hN HC2 hf3 hq3 hl3 hq2 hl2 hq4
                have HC4 := hideK hC4
                clear hC4
                by_cases hh : l4.head? = some 125
                · rw [if_pos hh] at hXr
                  rw [decide_eq_true hh, if_pos hh] at cK
                  subst hXr
                  clear hh
                  go_wp2_with fail
                  refine cK.mono ?_
                  rintro e w7 ⟨rfl, ⟨q7, hq7, hl7⟩, hf7⟩
                  have C7 := HC4.out.keep hf7 hrl
                  obtain ⟨hz7, x0, x1, x2, x3, x4, _, _, hl7', _, _, _, hfr7⟩ := id C7
                  obtain ⟨zl, z0, z1, z2, z3, z4, y0, y1, y2, y3, y4⟩ := id hz7
                  obtain ⟨al, cl, ak, ck, rfl, rfl, hG⟩ := C7.got HSL2.out (.int .i64 k) (.int .i64 0) (.string ⟨#[]⟩) v' u'
                  have HG := hideK hG
                  have HC7 := hideK C7
                  clear hG C7
                  go_wp2_with fail
                  have e1 : (ls ++ [lab]).length = ls.length + 1 := by simp
                  have e2 : (xs ++ [x]).length = ls.length + 1 := by simp; omega
                  have e3 : (xs.map (·.1) ++ [t]).length = ls.length + 1 := by simp; omega
                  have e4 : (xs ++ [x]).map (·.1) = xs.map (·.1) ++ [t] := by rw [List.map_append, List.map_cons, List.map_nil, hx]
                  have G9 := HG.out
                  rw [e1, e2, e4] at G9
                  have TA := hz7.st ⟨k, 0, ⟨#[]⟩, ls ++ [lab], xs.map (·.1) ++ [t]⟩ al cl ak ck
                  change TyAt (st5 w7 w.heap.size 0 (.int .i64 k) (.int .i64 0) (.string ⟨#[]⟩) (.slice al (ls ++ [lab]).length cl) (.slice ak (xs.map (·.1) ++ [t]).length ck)) _ _ _ _ _ _ _ at TA
                  rw [e1, e3] at TA
                  have R9 := hq7.st (b := w.heap.size) (by omega) (.int .i64 k) (.int .i64 0) (.string ⟨#[]⟩) (.slice al (ls.length + 1) cl) (.slice ak (ls.length + 1) ck)
                  have F9 := hfr7.st (Nat.le_refl _) (.int .i64 k) (.int .i64 0) (.string ⟨#[]⟩) (.slice al (ls.length + 1) cl) (.slice ak (ls.length + 1) ck)
                  change bodyPost _ _ _ _ _ (st5 w7 w.heap.size 0 (.int .i64 k) (.int .i64 0) (.string ⟨#[]⟩) (.slice al (ls.length + 1) cl) (.slice ak (ls.length + 1) ck))
                  generalize st5 w7 w.heap.size 0 (.int .i64 k) (.int .i64 0) (.string ⟨#[]⟩) (.slice al (ls.length + 1) cl) (.slice ak (ls.length + 1) ck) = W9 at TA R9 F9 G9 ⊢
                  obtain ⟨r0, r1, r2, r3, r4⟩ := TA
                  simp only [Nat.zero_add] at r1 r2 r3 r4
                  refine bodyPost_ret (v := tyVal ⟨k, 0, ⟨#[]⟩, ls ++ [lab], xs.map (·.1) ++ [t]⟩ al cl ak ck) (by simp [results, Tryz.results76, go_sem, tyVal, r0, r1, r2, r3, r4]) rfl ?_
                  exact ⟨⟨_, rfl, ⟨_, _, _, _, rfl, G9⟩, q7, R9, hl7⟩, F9⟩
                · rw [if_neg hh] at hXr
                  rw [decide_eq_false hh, if_neg hh] at cK
                  clear hh
                  cases hN4 : need 44 l4 with
                  | error r =>
                    rw [hN4] at hXr
                    simp only at hXr
                    subst hXr
                    go_wp2_with fail
                    refine cK.mono ?_
                    rintro e w7 ⟨rfl, ⟨q7, hq7, hl7⟩, hf7⟩
                    go_wp2_with fail
                    refine (need_bad hN4 rb q7 s _ hq7 hl7).mono ?_
                    rintro e w8 ⟨rfl, hf8⟩
                    go_wp2_with fail
                    exact ⟨rfl, rfl, (HC4.out.fr.trans hf7).trans hf8⟩
                  | ok l5 =>
                    rw [hN4] at hXr
                    simp only at hXr
                    have b5 := (need_ok hN4).2.2
                    go_wp2_with fail
                    refine cK.mono ?_
                    rintro e w7 ⟨rfl, ⟨q7, hq7, hl7⟩, hf7⟩
                    go_wp2_with fail
                    refine (need_good hN4 rb q7 s _ hq7 hl7).mono ?_
                    rintro e w8 ⟨rfl, ⟨q8, hq8, hl8⟩, hf8⟩
                    go_wp2_with fail
                    go_roundg m
                    case measure => omega
                    case rel =>
                      refine ⟨ls ++ [lab], xs ++ [x], v', u', q8, (HC4.out.keep hf7 hrl).keep hf8 hrl, hq8, by simp; omega, h7, by simp; omega, HSL2.out, by rw [hl8]; omega, ?_⟩
                      rw [hl8, List.map_append]
                      simp only [List.map_cons, List.map_nil, hx]
                      exact hXr
end Go.Proofs.YtefdekfgmbgbbaaGreatDoor
