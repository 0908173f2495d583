/-
  A region that draws its order: what may come up, one operation after another, each told by its number: so that one text serves every order.
-/
import Derived.Test.YtfmegfgmkeicnaaDoorBxs
import Derived.Deep.RegionHeld
import Derived.Test.YtfmegfgmkeicnaaDoorKm
namespace Go.Proofs.YtfmegfgmkeicnaaDoor

section
variable {P : Program} {md : Region.Mode} {ops : Array Oper} {Q : Exit → Act → World → Prop} {S : World → Prop} {fuel : Nat} {listed : Array Bool} {a : Act} {w : World}
/-- what is to be shown of operation i -/
structure OpG (i : Nat) (p : Prop) : Prop where
  out : p
theorem opg (i : Nat) {p : Prop} (h : p) : OpG i p := ⟨h⟩
/-- each of these that may come up -/
structure AllC (P : Program) (md : Region.Mode) (ops : Array Oper) (Q : Exit → Act → World → Prop) (S : World → Prop) (fuel : Nat) (listed : Array Bool) (a : Act) (w : World) (cs : List Nat) : Prop where
  out : ∀ i ∈ cs, (Region.ready md ops listed).contains i = true → AllReadyH P md ops Q S fuel listed a w [i]
theorem cE : AllC P md ops Q S fuel listed a w [] := ⟨fun _ h => by cases h⟩
theorem cN {i : Nat} {cs : List Nat} (h : AllC P md ops Q S fuel listed a w cs) (hn : (Region.ready md ops listed).contains i = false := by decide +kernel) : AllC P md ops Q S fuel listed a w (i :: cs) := ⟨fun j hj hc => by
  rcases List.mem_cons.1 hj with rfl | hj
  · rw [hn] at hc; cases hc
  · exact h.out j hj hc⟩
theorem cY {i : Nat} {cs : List Nat} {o : Oper} (h : OpG i (∀ K' : Act → World → Prop, Shut (∀ a w, S w → (S w → wpAnyH P md ops Q S fuel (listed.setIfInBounds i true) a w) → K' a w) → if Region.wanted o (yielded ops a.tmps) = true then Oper.wp P o a w K' Q else K' (a.put o.dst undef) w))
    (hs : AllC P md ops Q S fuel listed a w cs) (ho : ops[i]? = some o := by rw [List.getElem?_toArray]; rfl) : AllC P md ops Q S fuel listed a w (i :: cs) := ⟨fun j hj hc => by
  rcases List.mem_cons.1 hj with rfl | hj
  · exact AllReadyH.cons ho h.out AllReadyH.nil
  · exact hs.out j hj hc⟩
theorem ready_any (cs : List Nat) (h : AllC P md ops Q S fuel listed a w cs) (hr : ((Region.ready md ops listed).all fun i => cs.contains i) = true := by kernel_rfl) (hne : (Region.ready md ops listed).isEmpty = false := by decide +kernel) : wpAnyH P md ops Q S (fuel + 1) listed a w :=
  wpAnyH_ready rfl (fun q => by rw [q] at hne; cases hne) (fun j hj => by
    have hc : cs.contains j = true := List.all_eq_true.1 hr j hj
    exact h.out j (by simpa using hc) (by simpa using hj) j (.head _))
theorem tkR (i : Nat) (v : Value) {oi : Oper} {a' : Act} (hS : S w) (h : wpAnyH P md ops Q S fuel (listed.setIfInBounds i true) a' w) (hr : (Region.ready md ops listed).contains i = true := by decide +kernel) (hi : ops[i]? = some oi := by rw [List.getElem?_toArray]; rfl) (hs : Region.noSelect ops = true := by kernel_rfl) (hf : Region.free md ops listed i = true := by kernel_rfl)
    (hQ : ∀ c a w, Q (.panic c) (a.put oi.dst v) w → Q (.panic c) a w := by exact fun _ _ _ h => h) (hy : YieldsIf P ops S oi v a := by exact Or.inl ⟨by rfl, fun W hW => by go_simp⟩) (hn : a.put oi.dst v = a' := by simp only [Act.put, uA, uB, uC]; rfl) : wpAnyH P md ops Q S (fuel + 1) listed a w := wpAnyH_take hi hs hf hr hQ hy hS (hn ▸ h)
end
end Go.Proofs.YtfmegfgmkeicnaaDoor
/-
  The contract of words.ReadLabel, wherever a reader stands.
-/
namespace Go.Proofs.YtfmegfgmkeicnaaDoor
open Go.RowKit Go.Shelf

set_option maxRecDepth 100000 in
set_option maxHeartbeats 1000000 in
theorem takeLab_yes (rb p : Nat) (s : ByteArray) (w : World) (mb ab : Nat) (h : RS w rb s p)
    (cV : ∀ w1, Below w.heap.size w w1 → Calls Tryd.prog 140 #[.string (bs (wd (rs s p))), .pointer (some ⟨mb, 0, none⟩), .pointer (some ⟨ab, 0, none⟩)] w1 fun e w' => e = .returned (.bool true) ∧ Below w1.heap.size w1 w') :
    Calls Tryd.prog 59 #[.pointer (some ⟨rb, 0, none⟩), .func (.func 140) #[] #[.pointer (some ⟨mb, 0, none⟩), .pointer (some ⟨ab, 0, none⟩)]] w fun e w' => e = .returned (.string (bs (wd (rs s p)))) ∧ (∃ p', RS w' rb s p' ∧ rs s p' = skB ((rs s p).drop (wd (rs s p)).length)) ∧ FR rb w w' := by
  have hsz := h.sz
  have hwl := wd_at s p h.le
  have cW := word_any rb p s w h
  have cC := hideK (fun w1 => cloneT_any (bs (wd (rs s p))) w1 (by omega))
  have HP := hideK (fun (w1 : World) (h1 : RS w1 rb s p) => pass_any rb p (bs (wd (rs s p))).size s w1 h1 hwl)
  have HR := hideK h
  have HV := hideK cV
  rw [← bs_size (wd (rs s p))]
  clear h hwl hsz cV
  generalize bs (wd (rs s p)) = t at *
  go_enter Tryd.func59, Tryd.ntmps59
  go_wp2_with (first
    | (go_at_call 58; refine cW.mono ?_; rintro e w1 ⟨rfl, hb1⟩; have H1 := hideK (HR.out.keep hb1))
    | (go_at_call 140; refine (HV.out _ hb1).mono ?_; rintro e w3 ⟨rfl, hb3⟩; have H3 := hideK (H1.out.keep hb3))
    | (go_at_call 57; refine (HP.out _ H3.out).mono ?_; rintro e w4 ⟨rfl, ⟨q, hq, hl⟩, hf⟩)
    | (go_at_call 31; refine (cC.out _).mono ?_; rintro e w2 ⟨rfl, hb2⟩))
  go_ret
  exact ⟨rfl, ⟨q, hq.keep hb2, hl⟩, (((FR.of hb1).trans (FR.of hb3)).trans hf).trans (FR.of hb2)⟩
set_option maxRecDepth 100000 in
set_option maxHeartbeats 1000000 in
theorem takeLab_no (rb p : Nat) (s : ByteArray) (w : World) (mb ab : Nat) (h : RS w rb s p)
    (cV : ∀ w1, Below w.heap.size w w1 → Calls Tryd.prog 140 #[.string (bs (wd (rs s p))), .pointer (some ⟨mb, 0, none⟩), .pointer (some ⟨ab, 0, none⟩)] w1 fun e w' => e = .returned (.bool false) ∧ Below w1.heap.size w1 w') :
    Calls Tryd.prog 59 #[.pointer (some ⟨rb, 0, none⟩), .func (.func 140) #[] #[.pointer (some ⟨mb, 0, none⟩), .pointer (some ⟨ab, 0, none⟩)]] w fun e w' => e = .panicked (thrown s (rs s p)) ∧ FR rb w w' := by
  have cW := word_any rb p s w h
  have cF := hideK (fun (w1 : World) (h1 : RS w1 rb s p) => fault_any rb p s 3 w1 h1)
  rw [thrown_at s p h.le]
  have HR := hideK h
  have HV := hideK cV
  clear h cV
  generalize bs (wd (rs s p)) = t at *
  go_enter Tryd.func59, Tryd.ntmps59
  go_wp2_with (first
    | (go_at_call 58; refine cW.mono ?_; rintro e w1 ⟨rfl, hb1⟩; have H1 := hideK (HR.out.keep hb1))
    | (go_at_call 140; refine (HV.out _ hb1).mono ?_; rintro e w3 ⟨rfl, hb3⟩; have H3 := hideK (H1.out.keep hb3))
    | (go_at_call 66; refine (cF.out _ H3.out).mono ?_; rintro e w4 ⟨rfl, hb4⟩))
  exact ⟨rfl, rfl, ((FR.of hb1).trans (FR.of hb3)).trans (FR.of hb4)⟩
theorem own_keep {W W' : World} {base n : Nat} {v : Value} {xs : List Value} (h : W.ownsRow base 9 1 v n xs) (hb : Below W.heap.size W W') : W'.ownsRow base 9 1 v n xs :=
  h.kept (FR.of (pb := W.heap.size) hb) (by right; intro e; have := (h.lt _ e).2; omega)
set_option maxRecDepth 100000 in
set_option maxHeartbeats 2000000 in
theorem lab1_any (mb ab base : Nat) (ls : List ByteArray) (nm : ByteArray) (v : Value) (w : World) (hm : w.cell? ⟨mb, 0, none⟩ = some (.func (.func 92) #[] #[])) (ha : w.cell? ⟨ab, 0, none⟩ = some v)
    (hv : w.ownsRow base 9 1 v ls.length (nCs ls)) (hl : ls.length ≤ 6) (hs : ∀ l ∈ ls, l.size ≤ 2000) (hnm : nm.size ≤ 2000) :
    Calls Tryd.prog 140 #[.string nm, .pointer (some ⟨mb, 0, none⟩), .pointer (some ⟨ab, 0, none⟩)] w fun e w' => e = .returned (.bool (labsOK (ls ++ [nm]))) ∧ Below w.heap.size w w' := by
  obtain ⟨i0, hi, hz0, hz1, hz2⟩ := info_parts infoSt
  have hS0 : Below w.heap.size w w.drew := (Below.refl _ _).drew
  have hml := lt_of_cell hm
  have hal := lt_of_cell ha
  have cN := hideK (fun (W : World) (hb : Below w.heap.size w W) => cloneN_own ls v base W (own_keep hv hb) hl)
  have HM := hideK (fun (W : World) (hb : Below w.heap.size w W) => (hb.cell (p := ⟨mb, 0, none⟩) hml).trans hm)
  have HA := hideK (fun (W : World) (hb : Below w.heap.size w W) => (hb.cell (p := ⟨ab, 0, none⟩) hal).trans ha)
  have cA : Hid (∀ (u : Value) (b1 : Nat) (w1 : World), w1.ownsRow b1 9 1 u (ls.length + 1) (nCs ls ++ [.string nm]) → Calls Tryd.prog 92 #[u] w1 fun e w' => e = .returned (.bool (labsOK (ls ++ [nm]))) ∧ Below w1.heap.size w1 w') := by
    intro u b1 w1 hu
    have e : (ls ++ [nm]).length = ls.length + 1 := by simp
    have e2 : nCs (ls ++ [nm]) = nCs ls ++ [.string nm] := by simp
    rw [← e, ← e2] at hu
    obtain ⟨al, cl, rfl, hla⟩ := la_own _ _ _ _ hu
    refine areLabels_any _ al cl w1 (fun l hm => ?_) (by rw [e]; omega) hla
    rcases List.mem_append.1 hm with hm | hm
    · have := hs l hm; omega
    · have : l = nm := by simpa using hm
      subst this
      omega
  clear hm ha hv hs hnm
  go_enter Tryd.func140, Tryd.ntmps140
  go_upto_region 1 with fail
  refine wp_region_held_drew (S := fun W : World => Below w.heap.size w W) (by kernel_rfl) hS0 (fun hS => ?_)
  clear hS0
  obtain ⟨V, hVV⟩ : ∃ x : World, x = w.drew := ⟨_, rfl⟩
  rw [← hVV] at hS ⊢
  clear hVV
  refine tkR 0 (.func (.func 92) #[] #[]) hS ?_ (hy := Or.inl ⟨by rfl, fun W hW => by have q := HM.out W hW; go_simp⟩)
  refine tkR 1 v hS ?_ (hy := Or.inl ⟨by rfl, fun W hW => by have q := HA.out W hW; go_simp⟩)
  refine tkR 3 (.string nm) hS ?_
  refine ready_any [2, 4] ?_
  refine cY ?_ ?_
  refine opg 2 (fun K hK => ?_)
  go_simp
  refine (cN.out V hS).mono ?_
  rintro e V ⟨u, rfl, hu, hb2⟩
  have hSn : Below w.heap.size w V := hS.trans (hb2.mono hS.size)
  obtain ⟨bu, hbu, hbv, U2⟩ : ∃ bu, w.heap.size ≤ bu ∧ Hid (bu ≤ V.heap.size) ∧ Hid (V.ownsRow bu 9 1 u ls.length (nCs ls)) := ⟨_, hS.size, hb2.size, hu⟩
  try replace L4 := hideK (own_keep L4.out hb2)
  refine hK.out _ _ hSn ?_
  clear hS hK K hb2 hu
  intro hS
  clear hSn
  try simp only [Act.put, List.setIfInBounds_toArray, List.set_cons_zero, List.set_cons_succ]
  refine ready_any [4] ?_
  refine cY ?_ cE
  refine opg 4 (fun K hK => ?_)
  have hbs : Below V.heap.size V (V.alloc (.cells #[.string nm] 9)) := (Below.refl _ _).alloc (Nat.le_refl _) _
  have hSn : Below w.heap.size w (V.alloc (.cells #[.string nm] 9)) := hS.trans (hbs.mono hS.size)
  try replace U2 := hideK (own_keep U2.out hbs)
  try replace hbv := hideK (Nat.le_trans hbv.out hbs.size)
  have L4 := hideK (lit_own V 9 1 1 #[.string nm] rfl (by omega))
  go_simp
  refine hK.out _ _ hSn ?_
  clear hS hK K hbs
  intro hS
  clear hSn
  try simp only [Act.put, List.setIfInBounds_toArray, List.set_cons_zero, List.set_cons_succ]
  generalize V.heap.size = g4 at L4 ⊢
  generalize World.alloc V _ = V at *
  rotate_left
  refine cY ?_ cE
  refine opg 4 (fun K hK => ?_)
  have hbs : Below V.heap.size V (V.alloc (.cells #[.string nm] 9)) := (Below.refl _ _).alloc (Nat.le_refl _) _
  have hSn : Below w.heap.size w (V.alloc (.cells #[.string nm] 9)) := hS.trans (hbs.mono hS.size)
  try replace U2 := hideK (own_keep U2.out hbs)
  try replace hbv := hideK (Nat.le_trans hbv.out hbs.size)
  have L4 := hideK (lit_own V 9 1 1 #[.string nm] rfl (by omega))
  go_simp
  refine hK.out _ _ hSn ?_
  clear hS hK K hbs
  intro hS
  clear hSn
  try simp only [Act.put, List.setIfInBounds_toArray, List.set_cons_zero, List.set_cons_succ]
  generalize V.heap.size = g4 at L4 ⊢
  generalize World.alloc V _ = V at *
  refine ready_any [2] ?_
  refine cY ?_ cE
  refine opg 2 (fun K hK => ?_)
  go_simp
  refine (cN.out V hS).mono ?_
  rintro e V ⟨u, rfl, hu, hb2⟩
  have hSn : Below w.heap.size w V := hS.trans (hb2.mono hS.size)
  obtain ⟨bu, hbu, hbv, U2⟩ : ∃ bu, w.heap.size ≤ bu ∧ Hid (bu ≤ V.heap.size) ∧ Hid (V.ownsRow bu 9 1 u ls.length (nCs ls)) := ⟨_, hS.size, hb2.size, hu⟩
  try replace L4 := hideK (own_keep L4.out hb2)
  refine hK.out _ _ hSn ?_
  clear hS hK K hb2 hu
  intro hS
  clear hSn
  try simp only [Act.put, List.setIfInBounds_toArray, List.set_cons_zero, List.set_cons_succ]
  all_goals
    refine ready_any [5] ?_
    refine cY ?_ cE
    refine opg 5 (fun K hK => ?_)
    refine step_append_rows _ rfl (.tmp 7) (.tmp 9) 22 rfl _ _ 9 i0 (.string ⟨#[]⟩) 1 16 Tryd.underlying22 hi hz0 hz1 hz2 rfl (by decide) _ _ _ rfl U2.out _ _ _ rfl L4.out (by intro y hy; simp at hy; subst hy; rfl) (by unfold maxLen; omega) (by omega) hbv.out ?_
    intro v7 V hO7 hg7 _
    have hb7 : Below w.heap.size w V := hS.grown hg7 hS.size (fun k hk => Nat.le_trans hbu (U2.out.lt k hk).1)
    refine hK.out _ _ hb7 ?_
    clear hS hK K
    intro hS
    clear hb7 hg7 U2 L4
    try simp only [Act.put, List.setIfInBounds_toArray, List.set_cons_zero, List.set_cons_succ]
    refine ready_any [6] ?_
    refine cY ?_ cE
    refine opg 6 (fun K hK => ?_)
    go_simp
    refine (cA.out _ _ _ hO7).mono ?_
    rintro e V ⟨rfl, hb8⟩
    have hS8 : Below w.heap.size w V := hS.trans (hb8.mono hS.size)
    refine hK.out _ _ hS8 ?_
    clear hS hK K hO7 hb8
    intro hS
    clear hS8
    try simp only [Act.put, List.setIfInBounds_toArray, List.set_cons_zero, List.set_cons_succ]
    refine ready_any [7] ?_
    refine cY ?_ cE
    refine opg 7 (fun K hK => ?_)
    go_simp
    refine hK.out _ _ hS ?_
    clear hS hK K
    intro hS
    try simp only [Act.put, List.setIfInBounds_toArray, List.set_cons_zero, List.set_cons_succ]
    refine wpAnyH_done (by kernel_rfl) ?_ _
    go_wp2_with fail
    go_ret
    exact ⟨rfl, hS⟩
set_option maxRecDepth 100000 in
set_option maxHeartbeats 2000000 in
theorem readLabel_any (rb p base : Nat) (s : ByteArray) (ls : List ByteArray) (v : Value) (w : World) (h : RS w rb s p) (hv : w.ownsRow base 9 1 v ls.length (nCs ls)) (hl : ls.length ≤ 6) (hs : ∀ l ∈ ls, l.size ≤ 2000) :
    Calls Tryd.prog 124 #[.pointer (some ⟨rb, 0, none⟩), v, .func (.func 92) #[] #[]] w fun e w' => GPost s rb (fun _ nm v => v = .string nm) (rdLab ls (rs s p)) e w' ∧ FR rb w w' := by
  have hmf : ∀ (fn : Fn) (first cap : Array Value) (w : World), (Instr.makeFunc fn first cap).run Tryd.prog w = .ok (.func fn first cap) w := fun _ _ _ _ => rfl
  obtain ⟨al, cl, rfl, _⟩ := la_own ls v base w hv
  have hsz := h.sz
  have hwl := wd_at s p h.le
  have hrl := h.lt
  have hb : Below w.heap.size w ((w.alloc (.cells #[.slice al ls.length cl] 22)).alloc (.cells #[.func (.func 92) #[] #[]] 71)) := ((Below.refl _ _).alloc (Nat.le_refl _) _).alloc (by simp) _
  unfold rdLab
  cases hq : labsOK (ls ++ [bs (wd (rs s p))])
  · rw [if_neg (by simp)]
    simp only [GPost]
    have cT := takeLab_no rb p s _ (w.heap.size + 1) w.heap.size (h.keep hb) (fun w1 hb1 => by
      have c := lab1_any (w.heap.size + 1) w.heap.size base ls (bs (wd (rs s p))) (.slice al ls.length cl) w1 ((hb1.cell (p := ⟨w.heap.size + 1, 0, none⟩) (by simp)).trans (by go_cell)) ((hb1.cell (p := ⟨w.heap.size, 0, none⟩) (by simp; omega)).trans (by go_cell)) (own_keep (own_keep hv hb) hb1) hl hs (by omega)
      rw [hq] at c
      exact c)
    have HB := hideK hb
    have HRL := hideK hrl
    clear hb hv h hs hl hq hwl hsz hrl
    go_enter Tryd.func124, Tryd.ntmps124
    go_wp2_with fail
    refine cT.mono ?_
    rintro e w1 ⟨rfl, hf⟩
    exact ⟨rfl, rfl, (FR.of HB.out).trans hf⟩
  · rw [if_pos rfl]
    simp only [GPost]
    have cT := takeLab_yes rb p s _ (w.heap.size + 1) w.heap.size (h.keep hb) (fun w1 hb1 => by
      have c := lab1_any (w.heap.size + 1) w.heap.size base ls (bs (wd (rs s p))) (.slice al ls.length cl) w1 ((hb1.cell (p := ⟨w.heap.size + 1, 0, none⟩) (by simp)).trans (by go_cell)) ((hb1.cell (p := ⟨w.heap.size, 0, none⟩) (by simp; omega)).trans (by go_cell)) (own_keep (own_keep hv hb) hb1) hl hs (by omega)
      rw [hq] at c
      exact c)
    have HB := hideK hb
    have HRL := hideK hrl
    clear hb hv h hs hl hq hwl hsz hrl
    generalize bs (wd (rs s p)) = t at *
    go_enter Tryd.func124, Tryd.ntmps124
    go_wp2_with fail
    refine cT.mono ?_
    rintro e w1 ⟨rfl, hx, hf⟩
    go_wp2_with fail
    go_ret
    exact ⟨⟨_, rfl, rfl, hx⟩, (FR.of HB.out).trans hf⟩
end Go.Proofs.YtfmegfgmkeicnaaDoor
