/-
  The contract of wires.Read, for every text.
-/
import Derived.Test.YtefdekfgmbgbbaaGreatDoorWil
namespace Go.Proofs.YtefdekfgmbgbbaaGreatDoor
open Go.RowKit Go.Shelf

section
variable {V : ByteArray → Bool} {Tabs : World → Prop} {B0 : Nat}
theorem World.alloc_size1 (w : World) (o : Obj) : (w.alloc o).heap.size = w.heap.size + 1 := by simp
/-- the boxes of Read -/
def wrB (s : ByteArray) (w : World) : World := (((w.alloc (.cells #[.string s] 9)).alloc (.cells #[.slice none 0 0] 22)).alloc (.cells #[.int .i64 0, .int .i64 0] 35))
theorem wrB_bl (s : ByteArray) (w : World) : Below w.heap.size w (wrB s w) := (((Below.refl _ _).alloc (Nat.le_refl _) _).alloc (by simp) _).alloc (by simp; omega) _
theorem wrB_size (s : ByteArray) (w : World) : (wrB s w).heap.size = w.heap.size + 3 := by simp [wrB]
theorem wrB_at (s : ByteArray) (w : World) : (wrB s w).cell? ⟨w.heap.size, 0, none⟩ = some (.string s) ∧ (wrB s w).cell? ⟨w.heap.size + 1, 0, none⟩ = some (.slice none 0 0) ∧ (wrB s w).frozen? ⟨w.heap.size + 1, 0, none⟩ = false := by
  unfold wrB
  exact ⟨by go_cell, by go_cell, by go_simp⟩
theorem wrB_fb (s : ByteArray) (w : World) : FB (wrB s w) (w.heap.size + 1 + 1) 0 0 := by
  unfold wrB
  exact ⟨by simp, by go_cell, by go_cell, by go_simp, by go_simp⟩
/-- what Read hands back, in its boxes -/
structure RDX (w : World) (u : Value) (c a : Int) (Φ : World → Prop) (W : World) : Prop where
  bl : Below w.heap.size w W
  sz : w.heap.size + 3 ≤ W.heap.size
  l0 : W.cell? ⟨w.heap.size + 1, 0, none⟩ = some u
  lf : W.frozen? ⟨w.heap.size + 1, 0, none⟩ = false
  c0 : W.cell? ⟨w.heap.size + 1 + 1, 0, none⟩ = some (.int .i64 c)
  c1 : W.cell? ⟨w.heap.size + 1 + 1, 1, none⟩ = some (.int .i64 a)
  g0 : W.frozen? ⟨w.heap.size + 1 + 1, 0, none⟩ = false
  g1 : W.frozen? ⟨w.heap.size + 1 + 1, 1, none⟩ = false
  ph : Φ W
theorem RDX.putF {w : World} {u : Value} {c a : Int} {Φ : World → Prop} {W : World} (hΦ : ∀ W b o v, b = w.heap.size + 1 ∨ b = w.heap.size + 1 + 1 → Φ W → Φ (W.setCell ⟨b, o, none⟩ v)) (hbl : Below w.heap.size w W) (hsz : w.heap.size + 3 ≤ W.heap.size) (l0 : W.cell? ⟨w.heap.size + 1, 0, none⟩ = some u) (lf : W.frozen? ⟨w.heap.size + 1, 0, none⟩ = false) (hp : Φ W) {c' a' : Int} (F : FB W (w.heap.size + 1 + 1) c' a') : RDX w u c a Φ (st2 W (w.heap.size + 1 + 1) c a) := by
  have F9 := st2_at F c a
  refine ⟨?_, by rw [st2_size]; exact hsz, (st2_other _ _ _ _ _ _ (by omega)).trans l0, by rw [st2_frozen]; exact lf, F9.c0, F9.c1, F9.f0, F9.f1, ?_⟩
  · unfold st2
    exact (hbl.setCell (p := ⟨w.heap.size + 1 + 1, 0, none⟩) (by simp only; omega) _).setCell (p := ⟨w.heap.size + 1 + 1, 1, none⟩) (by simp only; omega) _
  · unfold st2
    exact hΦ _ _ _ _ (.inr rfl) (hΦ _ _ _ _ (.inr rfl) hp)
theorem RDX.putL {w : World} {u : Value} {c a : Int} {Φ : World → Prop} {W : World} (hΦ : ∀ W b o v, b = w.heap.size + 1 ∨ b = w.heap.size + 1 + 1 → Φ W → Φ (W.setCell ⟨b, o, none⟩ v)) (h : RDX w u c a Φ W) : RDX w u c a Φ (W.setCell ⟨w.heap.size + 1, 0, none⟩ u) :=
  ⟨h.bl.setCell (p := ⟨w.heap.size + 1, 0, none⟩) (by simp only; omega) _, by rw [World.size_setCell]; exact h.sz, World.cell?_setCell_same _ _ _ h.l0, by rw [World.frozen?_setCell]; exact h.lf, (World.cell?_setCell_other _ _ _ _ (fun e => by injection e with e _; omega)).trans h.c0, (World.cell?_setCell_other _ _ _ _ (fun e => by injection e with e _; omega)).trans h.c1, by rw [World.frozen?_setCell]; exact h.g0, by rw [World.frozen?_setCell]; exact h.g1, hΦ _ _ _ _ (.inl rfl) h.ph⟩
theorem RDX.putF' {w : World} {u : Value} {c a : Int} {Φ : World → Prop} {W : World} (hΦ : ∀ W b o v, b = w.heap.size + 1 ∨ b = w.heap.size + 1 + 1 → Φ W → Φ (W.setCell ⟨b, o, none⟩ v)) (h : RDX w u c a Φ W) : RDX w u c a Φ (st2 W (w.heap.size + 1 + 1) c a) :=
  RDX.putF hΦ h.bl h.sz h.l0 h.lf h.ph (c' := c) (a' := a) ⟨by have := h.sz; omega, h.c0, h.c1, h.g0, h.g1⟩
theorem RDX.dr {w : World} {u : Value} {c a : Int} {Φ : World → Prop} {W : World} (hΦ : ∀ W, Φ W → Φ W.drew) (h : RDX w u c a Φ W) : RDX w u c a Φ W.drew :=
  ⟨h.bl.drew, h.sz, h.l0, h.lf, h.c0, h.c1, h.g0, h.g1, hΦ _ h.ph⟩
def EvF (s : ByteArray) (w : World) (xs : List Ev) (av : Option Addr) (cv : Nat) (W : World) : Prop := EvsR ((wrB s w).alloc (.cells #[.int .i64 0, .int .i64 0] 35)) W xs av cv
theorem EvF.set {s : ByteArray} {w : World} {xs : List Ev} {av : Option Addr} {cv : Nat} : ∀ W b o v, b = w.heap.size + 1 ∨ b = w.heap.size + 1 + 1 → EvF s w xs av cv W → EvF s w xs av cv (W.setCell ⟨b, o, none⟩ v) :=
  fun _ b o v hb h => EvsR.keep h (FR.set2 (pb := b) o v) (by rw [World.alloc_size1, wrB_size]; omega)
theorem EvF.dr {s : ByteArray} {w : World} {xs : List Ev} {av : Option Addr} {cv : Nat} : ∀ W, EvF s w xs av cv W → EvF s w xs av cv W.drew :=
  fun _ h => EvsR.keep h (FR.of (pb := w.heap.size) (Below.refl _ _).drew) (by rw [World.alloc_size1, wrB_size]; omega)
theorem EvF.out {s : ByteArray} {w : World} {xs : List Ev} {av : Option Addr} {cv : Nat} {W : World} (h : EvF s w xs av cv W) : EvsR w W xs av cv := EvsR.old h (by rw [World.alloc_size1, wrB_size]; omega)
def RDPost (w : World) (s : ByteArray) (X : Except (Int × List UInt8) (List Ev)) (e : Ending) (w' : World) : Prop :=
  match X with
  | .error (c, r) => e = .returned (.tuple #[.slice none 0 0, .agg #[.int .i64 c, .int .i64 ((s.size - r.length : Nat) : Int)]])
  | .ok xs => ∃ av cv, e = .returned (.tuple #[.slice av xs.length cv, .agg #[.int .i64 0, .int .i64 0]]) ∧ EvsR w w' xs av cv
set_option maxRecDepth 100000 in
set_option maxHeartbeats 4000000 in
theorem wread_any (hV : VSaid V Tabs) (hK : ∀ w w', Tabs w → Below B0 w w' → Tabs w') (s : ByteArray) (w : World) (hT : Tabs w) (hB : B0 ≤ w.heap.size) (hs : s.size ≤ 281474976710656) :
    Calls Tryz.prog 6 #[.string s] w fun e w' => RDPost w s (wiL V 200 s.data.toList) e w' ∧ Below w.heap.size w w' := by
  have hmf : ∀ (fn : Fn) (first cap : Array Value) (w : World), (Instr.makeFunc fn first cap).run Tryz.prog w = .ok (.func fn first cap) w := fun _ _ _ _ => rfl
  have hA : Below w.heap.size w ((wrB s w).alloc (.cells #[.int .i64 0, .int .i64 0] 35)) := (wrB_bl s w).alloc (by rw [wrB_size]; omega) _
  have hal : ∀ b, b < (wrB s w).heap.size → ((wrB s w).alloc (.cells #[.int .i64 0, .int .i64 0] 35)).cell? ⟨b, 0, none⟩ = (wrB s w).cell? ⟨b, 0, none⟩ := fun b hb => World.cell?_alloc_past _ _ _ hb
  have A8 := wrB_at s w
  have cR := wread1 hV hK w.heap.size (w.heap.size + 1) s ((wrB s w).alloc (.cells #[.int .i64 0, .int .i64 0] 35)) (hK _ _ hT (hA.mono hB)) (by rw [World.alloc_size1, wrB_size]; omega) hs ((hal _ (by rw [wrB_size]; omega)).trans A8.1) ((hal _ (by rw [wrB_size]; omega)).trans A8.2.1) ((FR.al (pb := w.heap.size) _).frozenO (by rw [wrB_size]; omega) (by omega) |>.trans A8.2.2)
  clear hal hA A8 hV hK hT
  cases hX : wiL V 200 s.data.toList with
  | error y =>
    obtain ⟨c, r⟩ := y
    rw [hX] at cR
    simp only [R1Post, RDPost] at cR ⊢
    clear hX
    have cC := caughtW_bad w.heap.size (w.heap.size + 1) c ((s.size - r.length : Nat) : Int) (wrB s w) (fun W => FR (w.heap.size + 1) ((wrB s w).alloc (.cells #[.int .i64 0, .int .i64 0] 35)) W ∧ W.cell? ⟨w.heap.size + 1, 0, none⟩ = some (.slice none 0 0) ∧ W.frozen? ⟨w.heap.size + 1, 0, none⟩ = false) (cR.mono fun e W ⟨h1, h2, h3⟩ => ⟨h1, FB.keep (pb := w.heap.size + 1) (al_fb _) h2 (by rw [wrB_size]; omega), h2, h3⟩)
    clear cR
    have HFB := hideK (wrB_fb s w)
    have HBL := hideK (wrB_bl s w)
    simp only [wrB] at cC
    go_enter Tryz.func6, Tryz.ntmps6
    go_wp2_with fail
    refine cC.mono ?_
    rintro e W' ⟨rfl, W, hfb, hΦ, hW'⟩
    obtain ⟨h2, h3, h4⟩ := hΦ
    have hn := wrB_size s w
    have F1 : FR (w.heap.size + 1) (wrB s w) W' := by
      rw [hW']
      exact ((FR.al (pb := w.heap.size + 1) (w := wrB s w) (.cells #[.int .i64 0, .int .i64 0] 35)).trans h2).st2 (Nat.le_refl _) _ _
    have F4 := HFB.out.keep F1 (by omega)
    have hX : RDX w (.slice none 0 0) c ((s.size - r.length : Nat) : Int) (fun _ => True) (st2 W' (w.heap.size + 1 + 1) c ((s.size - r.length : Nat) : Int)) := by
      refine RDX.putF (fun _ _ _ _ _ h => h) (HBL.out.trans ((F1.below (by rw [wrB_size]; omega)).mono (by omega))) (by have := F1.size; rw [wrB_size] at this; omega) ?_ ?_ trivial F4
      · rw [hW']; exact (st2_other _ _ _ _ _ _ (by simp <;> omega)).trans h3
      · rw [hW', st2_frozen]; exact h4
    have HX := hideK hX
    clear hX h2 h3 h4 hW' hfb HFB HBL F1
    obtain ⟨bl, c0, c1, g0, g1⟩ := F4
    go_upto_region 2 with fail
    have e2 : (st2 W' (w.heap.size + 1 + 1) c ((s.size - r.length : Nat) : Int)) = ((W'.setCell ⟨w.heap.size + 1 + 1, 0, none⟩ (.int .i64 c)).setCell ⟨w.heap.size + 1 + 1, 1, none⟩ (.int .i64 ((s.size - r.length : Nat) : Int))) := rfl
    rw [e2] at HX
    generalize ((W'.setCell ⟨w.heap.size + 1 + 1, 0, none⟩ (.int .i64 c)).setCell ⟨w.heap.size + 1 + 1, 1, none⟩ (.int .i64 ((s.size - r.length : Nat) : Int))) = V2 at *
    clear e2 bl c0 c1 g0 g1
    have hS0 : RDX w (.slice none 0 0) c ((s.size - r.length : Nat) : Int) (fun _ => True) V2.drew := HX.out.dr (hΦ := (fun _ h => h))
    refine wp_region_held_drew (S := fun W : World => RDX w (.slice none 0 0) c ((s.size - r.length : Nat) : Int) (fun _ => True) W) (by kernel_rfl) hS0 (fun hS => ?_)
    clear hS0 HX
    generalize V2.drew = V3 at *
    refine tkR 0 (.slice none 0 0) hS ?_ (hy := Or.inl ⟨by rfl, fun W hW => by obtain ⟨_, _, q0, _, _, _, _, _, _⟩ := id hW; go_simp⟩)
    refine tkR 1 (.agg #[.int .i64 c, .int .i64 ((s.size - r.length : Nat) : Int)]) hS ?_ (hy := Or.inl ⟨by rfl, fun W hW => by obtain ⟨_, _, _, _, q0, q1, _, _, _⟩ := id hW; go_simp⟩)
    refine ready_any [2] ?_
    refine cY ?_ cE
    refine opg 2 (fun K hK => ?_)
    obtain ⟨_, _, q0, q1, _, _, _, _, _⟩ := id hS
    have HS := hideK (RDX.putL (fun _ _ _ _ _ h => h) hS)
    go_simp
    refine hK.out _ (V3.setCell ⟨w.heap.size + 1, 0, none⟩ (.slice none 0 0)) HS.out ?_
    clear hS hK K q0 q1
    intro hS
    clear HS
    try simp only [Act.put, List.setIfInBounds_toArray, List.set_cons_zero, List.set_cons_succ]
    generalize V3.setCell ⟨w.heap.size + 1, 0, none⟩ (.slice none 0 0) = V4 at *
    refine ready_any [3] ?_
    refine cY ?_ cE
    refine opg 3 (fun K hK => ?_)
    obtain ⟨_, _, _, _, q0, q1, q2, q3, _⟩ := id hS
    have HS := hideK (RDX.putF' (fun _ _ _ _ _ h => h) hS)
    go_simp
    refine hK.out _ (st2 V4 (w.heap.size + 1 + 1) c ((s.size - r.length : Nat) : Int)) HS.out ?_
    clear hS hK K q0 q1 q2 q3
    intro hS
    clear HS
    try simp only [Act.put, List.setIfInBounds_toArray, List.set_cons_zero, List.set_cons_succ]
    generalize st2 V4 (w.heap.size + 1 + 1) c ((s.size - r.length : Nat) : Int) = V5 at *
    refine wpAnyH_done (by kernel_rfl) ?_ _
    go_wp2_with fail
    obtain ⟨hbl, _, r0, _, s0, s1, _, _, hph⟩ := hS
    refine bodyPost_ret (v := .tuple #[(.slice none 0 0), .agg #[.int .i64 c, .int .i64 ((s.size - r.length : Nat) : Int)]]) (by simp [results, Tryz.results6, go_sem, r0, s0, s1]) rfl ?_
    exact ⟨rfl, hbl⟩
  | ok xs =>
    rw [hX] at cR
    simp only [R1Post, RDPost] at cR ⊢
    clear hX
    have cC := caughtW_ok w.heap.size (w.heap.size + 1) (wrB s w) (fun W => FR (w.heap.size + 1) ((wrB s w).alloc (.cells #[.int .i64 0, .int .i64 0] 35)) W ∧ ∃ av cv, W.cell? ⟨w.heap.size + 1, 0, none⟩ = some (.slice av xs.length cv) ∧ W.frozen? ⟨w.heap.size + 1, 0, none⟩ = false ∧ EvsR ((wrB s w).alloc (.cells #[.int .i64 0, .int .i64 0] 35)) W xs av cv) (cR.mono fun e W ⟨h1, h2, h3⟩ => ⟨h1, FB.keep (pb := w.heap.size + 1) (al_fb _) h2 (by rw [wrB_size]; omega), h2, h3⟩)
    clear cR
    have HFB := hideK (wrB_fb s w)
    have HBL := hideK (wrB_bl s w)
    simp only [wrB] at cC
    go_enter Tryz.func6, Tryz.ntmps6
    go_wp2_with fail
    refine cC.mono ?_
    rintro e W' ⟨rfl, W, hfb, hΦ, hW'⟩
    obtain ⟨h2, av, cv, h3, h4, h5⟩ := hΦ
    have hn := wrB_size s w
    have F1 : FR (w.heap.size + 1) (wrB s w) W' := by
      rw [hW']
      exact ((FR.al (pb := w.heap.size + 1) (w := wrB s w) (.cells #[.int .i64 0, .int .i64 0] 35)).trans h2).st2 (Nat.le_refl _) _ _
    have F4 := HFB.out.keep F1 (by omega)
    have hX : RDX w (.slice av xs.length cv) 0 0 (EvF s w xs av cv) (st2 W' (w.heap.size + 1 + 1) 0 0) := by
      refine RDX.putF EvF.set (HBL.out.trans ((F1.below (by rw [wrB_size]; omega)).mono (by omega))) (by have := F1.size; rw [wrB_size] at this; omega) ?_ ?_ (show EvF s w xs av cv W' by rw [hW']; exact EvsR.keep (EvsR.keep h5 (FR.set2 (pb := (wrB s w).heap.size) 0 _) (by rw [World.alloc_size1]; exact Nat.lt_succ_self _)) (FR.set2 (pb := (wrB s w).heap.size) 1 _) (by rw [World.alloc_size1]; exact Nat.lt_succ_self _)) F4
      · rw [hW']; exact (st2_other _ _ _ _ _ _ (by simp <;> omega)).trans h3
      · rw [hW', st2_frozen]; exact h4
    have HX := hideK hX
    clear hX h2 h3 h4 h5 hW' hfb HFB HBL F1
    obtain ⟨bl, c0, c1, g0, g1⟩ := F4
    go_upto_region 2 with fail
    have e2 : (st2 W' (w.heap.size + 1 + 1) 0 0) = ((W'.setCell ⟨w.heap.size + 1 + 1, 0, none⟩ (.int .i64 0)).setCell ⟨w.heap.size + 1 + 1, 1, none⟩ (.int .i64 0)) := rfl
    rw [e2] at HX
    generalize ((W'.setCell ⟨w.heap.size + 1 + 1, 0, none⟩ (.int .i64 0)).setCell ⟨w.heap.size + 1 + 1, 1, none⟩ (.int .i64 0)) = V2 at *
    clear e2 bl c0 c1 g0 g1
    have hS0 : RDX w (.slice av xs.length cv) 0 0 (EvF s w xs av cv) V2.drew := HX.out.dr (hΦ := EvF.dr)
    refine wp_region_held_drew (S := fun W : World => RDX w (.slice av xs.length cv) 0 0 (EvF s w xs av cv) W) (by kernel_rfl) hS0 (fun hS => ?_)
    clear hS0 HX
    generalize V2.drew = V3 at *
    refine tkR 0 (.slice av xs.length cv) hS ?_ (hy := Or.inl ⟨by rfl, fun W hW => by obtain ⟨_, _, q0, _, _, _, _, _, _⟩ := id hW; go_simp⟩)
    refine tkR 1 (.agg #[.int .i64 0, .int .i64 0]) hS ?_ (hy := Or.inl ⟨by rfl, fun W hW => by obtain ⟨_, _, _, _, q0, q1, _, _, _⟩ := id hW; go_simp⟩)
    refine ready_any [2] ?_
    refine cY ?_ cE
    refine opg 2 (fun K hK => ?_)
    obtain ⟨_, _, q0, q1, _, _, _, _, _⟩ := id hS
    have HS := hideK (RDX.putL EvF.set hS)
    go_simp
    refine hK.out _ (V3.setCell ⟨w.heap.size + 1, 0, none⟩ (.slice av xs.length cv)) HS.out ?_
    clear hS hK K q0 q1
    intro hS
    clear HS
    try simp only [Act.put, List.setIfInBounds_toArray, List.set_cons_zero, List.set_cons_succ]
    generalize V3.setCell ⟨w.heap.size + 1, 0, none⟩ (.slice av xs.length cv) = V4 at *
    refine ready_any [3] ?_
    refine cY ?_ cE
    refine opg 3 (fun K hK => ?_)
    obtain ⟨_, _, _, _, q0, q1, q2, q3, _⟩ := id hS
    have HS := hideK (RDX.putF' EvF.set hS)
    go_simp
    refine hK.out _ (st2 V4 (w.heap.size + 1 + 1) 0 0) HS.out ?_
    clear hS hK K q0 q1 q2 q3
    intro hS
    clear HS
    try simp only [Act.put, List.setIfInBounds_toArray, List.set_cons_zero, List.set_cons_succ]
    generalize st2 V4 (w.heap.size + 1 + 1) 0 0 = V5 at *
    refine wpAnyH_done (by kernel_rfl) ?_ _
    go_wp2_with fail
    obtain ⟨hbl, _, r0, _, s0, s1, _, _, hph⟩ := hS
    refine bodyPost_ret (v := .tuple #[(.slice av xs.length cv), .agg #[.int .i64 0, .int .i64 0]]) (by simp [results, Tryz.results6, go_sem, r0, s0, s1]) rfl ?_
    exact ⟨⟨av, cv, rfl, hph.out⟩, hbl⟩
end
end Go.Proofs.YtefdekfgmbgbbaaGreatDoor
