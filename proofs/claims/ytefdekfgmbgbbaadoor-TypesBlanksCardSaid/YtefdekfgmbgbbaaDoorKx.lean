/-
  The contract of types.Parse, for every text.
-/
import Derived.Test.YtefdekfgmbgbbaaDoorKw
namespace Go.Proofs.YtefdekfgmbgbbaaDoor
open Go.RowKit Go.Shelf
/-- what Parse hands back -/
def PPost (w : World) (x : Except (Int × Nat) Ty) (e : Ending) (w' : World) : Prop :=
  match x with
  | .ok t => ∃ al cl ak ck, e = .returned (.tuple #[.agg #[.int .i64 t.kind, .int .i64 t.so, .string t.name, .slice al t.labels.length cl, .slice ak t.kids.length ck], .agg #[.int .i64 0, .int .i64 0]]) ∧ GT w w' 2001 t al cl ak ck
  | .error (c, a) => e = .returned (.tuple #[.agg #[.int .i64 0, .int .i64 0, .string ⟨#[]⟩, .slice none 0 0, .slice none 0 0], .agg #[.int .i64 c, .int .i64 (a : Int)]])
theorem below_st2 {w W : World} (h : Below w.heap.size w W) (b : Nat) (c a : Int) (hb : w.heap.size ≤ b) : Below w.heap.size w (st2 W b c a) := by
  unfold st2
  exact (h.setCell (p := ⟨b, 0, none⟩) hb _).setCell (p := ⟨b, 1, none⟩) hb _
theorem par_end {w V : World} {c a : Int} (hz : ∀ j, j < 5 → ∃ v, V.cell? ⟨w.heap.size, 0 + j, none⟩ = some v) (hb : FB V (w.heap.size + 1) c a) (hbl : Below w.heap.size w V) (t : Ty) (al : Option Addr) (cl : Nat) (ak : Option Addr) (ck : Nat) :
    TyAt (st2 (st5 V w.heap.size 0 (.int .i64 t.kind) (.int .i64 t.so) (.string t.name) (.slice al t.labels.length cl) (.slice ak t.kids.length ck)) (w.heap.size + 1) c a).drew w.heap.size 0 t al cl ak ck ∧
    FB (st2 (st5 V w.heap.size 0 (.int .i64 t.kind) (.int .i64 t.so) (.string t.name) (.slice al t.labels.length cl) (.slice ak t.kids.length ck)) (w.heap.size + 1) c a).drew (w.heap.size + 1) c a ∧
    Below w.heap.size w (st2 (st5 V w.heap.size 0 (.int .i64 t.kind) (.int .i64 t.so) (.string t.name) (.slice al t.labels.length cl) (.slice ak t.kids.length ck)) (w.heap.size + 1) c a).drew ∧
    (∀ b o, w.heap.size + 2 ≤ b → (st2 (st5 V w.heap.size 0 (.int .i64 t.kind) (.int .i64 t.so) (.string t.name) (.slice al t.labels.length cl) (.slice ak t.kids.length ck)) (w.heap.size + 1) c a).drew.cell? ⟨b, o, none⟩ = V.cell? ⟨b, o, none⟩) ∧
    (st2 (st5 V w.heap.size 0 (.int .i64 t.kind) (.int .i64 t.so) (.string t.name) (.slice al t.labels.length cl) (.slice ak t.kids.length ck)) (w.heap.size + 1) c a).drew.heap.size = V.heap.size := by
  have T1 := st5_at V w.heap.size 0 t al cl ak ck hz
  have B1 : FB (st5 V w.heap.size 0 (.int .i64 t.kind) (.int .i64 t.so) (.string t.name) (.slice al t.labels.length cl) (.slice ak t.kids.length ck)) (w.heap.size + 1) c a :=
    ⟨by rw [st5_size]; exact hb.lt, (st5_other _ _ _ _ _ _ _ _ _ _ (.inl (by omega))).trans hb.c0, (st5_other _ _ _ _ _ _ _ _ _ _ (.inl (by omega))).trans hb.c1, by rw [st5_frozen]; exact hb.f0, by rw [st5_frozen]; exact hb.f1⟩
  have L1 := st5_below w.heap.size 0 (.int .i64 t.kind) (.int .i64 t.so) (.string t.name) (.slice al t.labels.length cl) (.slice ak t.kids.length ck) hbl (Nat.le_refl _)
  have S1 := st5_size V w.heap.size 0 (.int .i64 t.kind) (.int .i64 t.so) (.string t.name) (.slice al t.labels.length cl) (.slice ak t.kids.length ck)
  have O1 : ∀ b o, w.heap.size + 2 ≤ b → (st5 V w.heap.size 0 (.int .i64 t.kind) (.int .i64 t.so) (.string t.name) (.slice al t.labels.length cl) (.slice ak t.kids.length ck)).cell? ⟨b, o, none⟩ = V.cell? ⟨b, o, none⟩ := fun b o h => st5_other _ _ _ _ _ _ _ _ _ _ (.inl (by omega))
  generalize st5 V w.heap.size 0 (.int .i64 t.kind) (.int .i64 t.so) (.string t.name) (.slice al t.labels.length cl) (.slice ak t.kids.length ck) = U at *
  have B2 := st2_at B1 c a
  refine ⟨⟨(st2_other _ _ _ _ _ _ (by omega)).trans T1.c0, (st2_other _ _ _ _ _ _ (by omega)).trans T1.c1, (st2_other _ _ _ _ _ _ (by omega)).trans T1.c2, (st2_other _ _ _ _ _ _ (by omega)).trans T1.c3, (st2_other _ _ _ _ _ _ (by omega)).trans T1.c4⟩, ⟨B2.lt, B2.c0, B2.c1, B2.f0, B2.f1⟩, (below_st2 L1 _ c a (by omega)).drew, fun b o h => (st2_other _ _ _ _ _ _ (by omega)).trans (O1 b o h), (st2_size U _ c a).trans S1⟩
theorem five_at {V : World} {b : Nat} {v0 v1 v2 v3 v4 : Value} (h0 : V.cell? ⟨b, 0, none⟩ = some v0) (h1 : V.cell? ⟨b, 1, none⟩ = some v1) (h2 : V.cell? ⟨b, 2, none⟩ = some v2) (h3 : V.cell? ⟨b, 3, none⟩ = some v3) (h4 : V.cell? ⟨b, 4, none⟩ = some v4) : ∀ j, j < 5 → ∃ v, V.cell? ⟨b, 0 + j, none⟩ = some v := by
  intro j hj
  rw [Nat.zero_add]
  have : j = 0 ∨ j = 1 ∨ j = 2 ∨ j = 3 ∨ j = 4 := by omega
  rcases this with rfl | rfl | rfl | rfl | rfl
  · exact ⟨_, h0⟩
  · exact ⟨_, h1⟩
  · exact ⟨_, h2⟩
  · exact ⟨_, h3⟩
  · exact ⟨_, h4⟩
set_option maxRecDepth 100000 in
set_option maxHeartbeats 4000000 in
theorem parse_any (s : ByteArray) (w : World) :
    Calls Tryd.prog 6 #[.string s] w fun e w' => PPost w (psT s.data.toList) e w' ∧ Below w.heap.size w w' := by
  have hmf : ∀ (fn : Fn) (first cap : Array Value) (w : World), (Instr.makeFunc fn first cap).run Tryd.prog w = .ok (.func fn first cap) w := fun _ _ _ _ => rfl
  have Z0 := (ZT.new w).keep (FR.al (pb := w.heap.size + 1) (.cells #[.int .i64 0, .int .i64 0] 30)) (by omega)
  have B0 : FB ((w.alloc (.cells #[.int .i64 0, .int .i64 0, .string ⟨#[]⟩, .slice none 0 0, .slice none 0 0] 25)).alloc (.cells #[.int .i64 0, .int .i64 0] 30)) (w.heap.size + 1) 0 0 := ⟨by simp, by go_cell, by go_cell, by go_simp, by go_simp⟩
  have HA : Below w.heap.size w ((w.alloc (.cells #[.int .i64 0, .int .i64 0, .string ⟨#[]⟩, .slice none 0 0, .slice none 0 0] 25)).alloc (.cells #[.int .i64 0, .int .i64 0] 30)) := ((Below.refl _ _).alloc (Nat.le_refl _) _).alloc (by simp) _
  have cR := readP_any w.heap.size s _ Z0
  have HB := hideK B0
  have HA' := hideK HA
  clear Z0 B0 HA
  cases hX : psT s.data.toList with
  | error x =>
    obtain ⟨c, a⟩ := x
    rw [hX] at cR
    simp only [RPost] at cR
    simp only [PPost]
    go_enter Tryd.func6, Tryd.ntmps6
    go_wp2_with fail
    refine cR.mono ?_
    rintro e w1 ⟨rfl, hf1, hz1⟩
    obtain ⟨bl, b0, b1, g0, g1⟩ := HB.out.keep hf1 (by omega)
    have ZV := hz1.st2 (b := w.heap.size + 1) (by omega) c (a : Int)
    obtain ⟨zl, z0, z1, z2, z3, z4, y0, y1, y2, y3, y4⟩ := id ZV
    have HBl := hideK (HA'.out.trans (hf1.below (by simp; omega)))
    have F2 := hideK (FB.mk bl b0 b1 g0 g1)
    go_wp2_with fail
    have D := st2_at F2.out (c) ((a : Int))
    obtain ⟨dl, d0, d1, e0, e1⟩ := id D
    have Bv := hideK (below_st2 HBl.out (w.heap.size + 1) (c) ((a : Int)) (by omega))
    change Code.wp _ _ _ _ (st2 w1 (w.heap.size + 1) (c) ((a : Int)))
    generalize st2 w1 (w.heap.size + 1) (c) ((a : Int)) = V at *
    have n1 : ¬ w.heap.size = w.heap.size + 1 := by omega
    have n2 : ¬ w.heap.size + 1 = w.heap.size := by omega
    have E8 := hideK (par_end (w := w) (V := V) (five_at z0 z1 z2 z3 z4) D Bv.out ⟨0, 0, ⟨#[]⟩, [], []⟩ none 0 none 0)
    refine wp_region_any (by kernel_rfl) ?_
    change wpAny _ _ _ _ _ _ _ (World.drew _)
    refine wpAny_ready (rs := [0, 1]) (by kernel_rfl) (by simp) ?_
    refine (AllReady.cons rfl (fun K hK => ?_) (AllReady.cons rfl (fun K hK => ?_) AllReady.nil))
    · go_simp
      refine hK _ _ ?_
      clear hK K
      refine wpAny_ready (rs := [1, 2]) (by kernel_rfl) (by simp) ?_
      refine (AllReady.cons rfl (fun K hK => ?_) (AllReady.cons rfl (fun K hK => ?_) AllReady.nil))
      · go_simp
        refine hK _ _ ?_
        clear hK K
        refine take_one 2 (AllReady.cons rfl (fun K hK => ?_) AllReady.nil) (by kernel_rfl)
        go_simp
        refine hK _ _ ?_
        clear hK K
        refine take_one 3 (AllReady.cons rfl (fun K hK => ?_) AllReady.nil) (by kernel_rfl)
        go_simp
        refine hK _ _ ?_
        clear hK K
        refine wpAny_done (by kernel_rfl) ?_ _
        go_wp2_with fail
        change bodyPost _ _ _ _ _ ((st2 (st5 V w.heap.size 0 (.int .i64 0) (.int .i64 0) (.string ⟨#[]⟩) (.slice none 0 0) (.slice none 0 0)) (w.heap.size + 1) (c) ((a : Int))).drew)
        have E9 := E8.out
        change TyAt ((st2 (st5 V w.heap.size 0 (.int .i64 0) (.int .i64 0) (.string ⟨#[]⟩) (.slice none 0 0) (.slice none 0 0)) (w.heap.size + 1) (c) ((a : Int))).drew) _ _ _ _ _ _ _ ∧ FB ((st2 (st5 V w.heap.size 0 (.int .i64 0) (.int .i64 0) (.string ⟨#[]⟩) (.slice none 0 0) (.slice none 0 0)) (w.heap.size + 1) (c) ((a : Int))).drew) _ _ _ ∧ Below _ _ ((st2 (st5 V w.heap.size 0 (.int .i64 0) (.int .i64 0) (.string ⟨#[]⟩) (.slice none 0 0) (.slice none 0 0)) (w.heap.size + 1) (c) ((a : Int))).drew) ∧ (∀ b o, _ → ((st2 (st5 V w.heap.size 0 (.int .i64 0) (.int .i64 0) (.string ⟨#[]⟩) (.slice none 0 0) (.slice none 0 0)) (w.heap.size + 1) (c) ((a : Int))).drew).cell? _ = _) ∧ ((st2 (st5 V w.heap.size 0 (.int .i64 0) (.int .i64 0) (.string ⟨#[]⟩) (.slice none 0 0) (.slice none 0 0)) (w.heap.size + 1) (c) ((a : Int))).drew).heap.size = _ at E9
        generalize (st2 (st5 V w.heap.size 0 (.int .i64 0) (.int .i64 0) (.string ⟨#[]⟩) (.slice none 0 0) (.slice none 0 0)) (w.heap.size + 1) (c) ((a : Int))).drew = W9 at E9 ⊢
        obtain ⟨⟨r0, r1, r2, r3, r4⟩, ⟨_, s0, s1, _, _⟩, hB9, hK9, hS9⟩ := E9
        simp only [Nat.zero_add, List.length_nil] at r1 r2 r3 r4
        refine bodyPost_ret (v := .tuple #[.agg #[.int .i64 0, .int .i64 0, .string ⟨#[]⟩, .slice none 0 0, .slice none 0 0], .agg #[.int .i64 c, .int .i64 (a : Int)]]) (by simp [results, Tryd.results6, go_sem, r0, r1, r2, r3, r4, s0, s1]) rfl ?_
        exact ⟨rfl, hB9⟩
      · go_simp
        refine hK _ _ ?_
        clear hK K
        refine take_one 1 (AllReady.cons rfl (fun K hK => ?_) AllReady.nil) (by kernel_rfl)
        go_simp
        refine hK _ _ ?_
        clear hK K
        refine take_one 3 (AllReady.cons rfl (fun K hK => ?_) AllReady.nil) (by kernel_rfl)
        go_simp
        refine hK _ _ ?_
        clear hK K
        refine wpAny_done (by kernel_rfl) ?_ _
        go_wp2_with fail
        change bodyPost _ _ _ _ _ ((st2 (st5 V w.heap.size 0 (.int .i64 0) (.int .i64 0) (.string ⟨#[]⟩) (.slice none 0 0) (.slice none 0 0)) (w.heap.size + 1) (c) ((a : Int))).drew)
        have E9 := E8.out
        change TyAt ((st2 (st5 V w.heap.size 0 (.int .i64 0) (.int .i64 0) (.string ⟨#[]⟩) (.slice none 0 0) (.slice none 0 0)) (w.heap.size + 1) (c) ((a : Int))).drew) _ _ _ _ _ _ _ ∧ FB ((st2 (st5 V w.heap.size 0 (.int .i64 0) (.int .i64 0) (.string ⟨#[]⟩) (.slice none 0 0) (.slice none 0 0)) (w.heap.size + 1) (c) ((a : Int))).drew) _ _ _ ∧ Below _ _ ((st2 (st5 V w.heap.size 0 (.int .i64 0) (.int .i64 0) (.string ⟨#[]⟩) (.slice none 0 0) (.slice none 0 0)) (w.heap.size + 1) (c) ((a : Int))).drew) ∧ (∀ b o, _ → ((st2 (st5 V w.heap.size 0 (.int .i64 0) (.int .i64 0) (.string ⟨#[]⟩) (.slice none 0 0) (.slice none 0 0)) (w.heap.size + 1) (c) ((a : Int))).drew).cell? _ = _) ∧ ((st2 (st5 V w.heap.size 0 (.int .i64 0) (.int .i64 0) (.string ⟨#[]⟩) (.slice none 0 0) (.slice none 0 0)) (w.heap.size + 1) (c) ((a : Int))).drew).heap.size = _ at E9
        generalize (st2 (st5 V w.heap.size 0 (.int .i64 0) (.int .i64 0) (.string ⟨#[]⟩) (.slice none 0 0) (.slice none 0 0)) (w.heap.size + 1) (c) ((a : Int))).drew = W9 at E9 ⊢
        obtain ⟨⟨r0, r1, r2, r3, r4⟩, ⟨_, s0, s1, _, _⟩, hB9, hK9, hS9⟩ := E9
        simp only [Nat.zero_add, List.length_nil] at r1 r2 r3 r4
        refine bodyPost_ret (v := .tuple #[.agg #[.int .i64 0, .int .i64 0, .string ⟨#[]⟩, .slice none 0 0, .slice none 0 0], .agg #[.int .i64 c, .int .i64 (a : Int)]]) (by simp [results, Tryd.results6, go_sem, r0, r1, r2, r3, r4, s0, s1]) rfl ?_
        exact ⟨rfl, hB9⟩
    · go_simp
      refine hK _ _ ?_
      clear hK K
      refine take_one 0 (AllReady.cons rfl (fun K hK => ?_) AllReady.nil) (by kernel_rfl)
      go_simp
      refine hK _ _ ?_
      clear hK K
      refine take_one 2 (AllReady.cons rfl (fun K hK => ?_) AllReady.nil) (by kernel_rfl)
      go_simp
      refine hK _ _ ?_
      clear hK K
      refine take_one 3 (AllReady.cons rfl (fun K hK => ?_) AllReady.nil) (by kernel_rfl)
      go_simp
      refine hK _ _ ?_
      clear hK K
      refine wpAny_done (by kernel_rfl) ?_ _
      go_wp2_with fail
      change bodyPost _ _ _ _ _ ((st2 (st5 V w.heap.size 0 (.int .i64 0) (.int .i64 0) (.string ⟨#[]⟩) (.slice none 0 0) (.slice none 0 0)) (w.heap.size + 1) (c) ((a : Int))).drew)
      have E9 := E8.out
      change TyAt ((st2 (st5 V w.heap.size 0 (.int .i64 0) (.int .i64 0) (.string ⟨#[]⟩) (.slice none 0 0) (.slice none 0 0)) (w.heap.size + 1) (c) ((a : Int))).drew) _ _ _ _ _ _ _ ∧ FB ((st2 (st5 V w.heap.size 0 (.int .i64 0) (.int .i64 0) (.string ⟨#[]⟩) (.slice none 0 0) (.slice none 0 0)) (w.heap.size + 1) (c) ((a : Int))).drew) _ _ _ ∧ Below _ _ ((st2 (st5 V w.heap.size 0 (.int .i64 0) (.int .i64 0) (.string ⟨#[]⟩) (.slice none 0 0) (.slice none 0 0)) (w.heap.size + 1) (c) ((a : Int))).drew) ∧ (∀ b o, _ → ((st2 (st5 V w.heap.size 0 (.int .i64 0) (.int .i64 0) (.string ⟨#[]⟩) (.slice none 0 0) (.slice none 0 0)) (w.heap.size + 1) (c) ((a : Int))).drew).cell? _ = _) ∧ ((st2 (st5 V w.heap.size 0 (.int .i64 0) (.int .i64 0) (.string ⟨#[]⟩) (.slice none 0 0) (.slice none 0 0)) (w.heap.size + 1) (c) ((a : Int))).drew).heap.size = _ at E9
      generalize (st2 (st5 V w.heap.size 0 (.int .i64 0) (.int .i64 0) (.string ⟨#[]⟩) (.slice none 0 0) (.slice none 0 0)) (w.heap.size + 1) (c) ((a : Int))).drew = W9 at E9 ⊢
      obtain ⟨⟨r0, r1, r2, r3, r4⟩, ⟨_, s0, s1, _, _⟩, hB9, hK9, hS9⟩ := E9
      simp only [Nat.zero_add, List.length_nil] at r1 r2 r3 r4
      refine bodyPost_ret (v := .tuple #[.agg #[.int .i64 0, .int .i64 0, .string ⟨#[]⟩, .slice none 0 0, .slice none 0 0], .agg #[.int .i64 c, .int .i64 (a : Int)]]) (by simp [results, Tryd.results6, go_sem, r0, r1, r2, r3, r4, s0, s1]) rfl ?_
      exact ⟨rfl, hB9⟩
  | ok t =>
    rw [hX] at cR
    simp only [RPost] at cR
    simp only [PPost]
    go_enter Tryd.func6, Tryd.ntmps6
    go_wp2_with fail
    refine cR.mono ?_
    rintro e w1 ⟨rfl, ⟨al, cl, ak, ck, ht1, hg1, hfz⟩, hf1⟩
    obtain ⟨bl, b0, b1, g0, g1⟩ := HB.out.keep hf1 (by omega)
    have TV : TyAt (st2 w1 (w.heap.size + 1) 0 0) w.heap.size 0 t al cl ak ck := ⟨(st2_other _ _ _ _ _ _ (by omega)).trans ht1.c0, (st2_other _ _ _ _ _ _ (by omega)).trans ht1.c1, (st2_other _ _ _ _ _ _ (by omega)).trans ht1.c2, (st2_other _ _ _ _ _ _ (by omega)).trans ht1.c3, (st2_other _ _ _ _ _ _ (by omega)).trans ht1.c4⟩
    obtain ⟨z0, z1, z2, z3, z4⟩ := id TV
    simp only [Nat.zero_add] at z1 z2 z3 z4
    have fz : ∀ o, o < 5 → (st2 w1 (w.heap.size + 1) 0 0).frozen? ⟨w.heap.size, o, none⟩ = false := fun o ho => by rw [st2_frozen]; exact hfz o ho
    have y0 := fz 0 (by omega)
    have y1 := fz 1 (by omega)
    have y2 := fz 2 (by omega)
    have y3 := fz 3 (by omega)
    have y4 := fz 4 (by omega)
    have G1 := hideK hg1
    have KV1 : Hid (∀ b o, w.heap.size + 2 ≤ b → (st2 w1 (w.heap.size + 1) 0 0).cell? ⟨b, o, none⟩ = w1.cell? ⟨b, o, none⟩) := fun b o hb => st2_other _ _ _ _ _ _ (by omega)
    have SV1 : Hid ((st2 w1 (w.heap.size + 1) 0 0).heap.size = w1.heap.size) := st2_size _ _ _ _
    clear fz hg1 hfz TV
    have HBl := hideK (HA'.out.trans (hf1.below (by simp; omega)))
    have F2 := hideK (FB.mk bl b0 b1 g0 g1)
    go_wp2_with fail
    have D := st2_at F2.out (0) (0)
    obtain ⟨dl, d0, d1, e0, e1⟩ := id D
    have Bv := hideK (below_st2 HBl.out (w.heap.size + 1) (0) (0) (by omega))
    change Code.wp _ _ _ _ (st2 w1 (w.heap.size + 1) (0) (0))
    generalize st2 w1 (w.heap.size + 1) (0) (0) = V at *
    have n1 : ¬ w.heap.size = w.heap.size + 1 := by omega
    have n2 : ¬ w.heap.size + 1 = w.heap.size := by omega
    have E8 := hideK (par_end (w := w) (V := V) (five_at z0 z1 z2 z3 z4) D Bv.out t al cl ak ck)
    refine wp_region_any (by kernel_rfl) ?_
    change wpAny _ _ _ _ _ _ _ (World.drew _)
    refine wpAny_ready (rs := [0, 1]) (by kernel_rfl) (by simp) ?_
    refine (AllReady.cons rfl (fun K hK => ?_) (AllReady.cons rfl (fun K hK => ?_) AllReady.nil))
    · go_simp
      refine hK _ _ ?_
      clear hK K
      refine wpAny_ready (rs := [1, 2]) (by kernel_rfl) (by simp) ?_
      refine (AllReady.cons rfl (fun K hK => ?_) (AllReady.cons rfl (fun K hK => ?_) AllReady.nil))
      · go_simp
        refine hK _ _ ?_
        clear hK K
        refine take_one 2 (AllReady.cons rfl (fun K hK => ?_) AllReady.nil) (by kernel_rfl)
        go_simp
        refine hK _ _ ?_
        clear hK K
        refine take_one 3 (AllReady.cons rfl (fun K hK => ?_) AllReady.nil) (by kernel_rfl)
        go_simp
        refine hK _ _ ?_
        clear hK K
        refine wpAny_done (by kernel_rfl) ?_ _
        go_wp2_with fail
        change bodyPost _ _ _ _ _ ((st2 (st5 V w.heap.size 0 (.int .i64 t.kind) (.int .i64 t.so) (.string t.name) (.slice al t.labels.length cl) (.slice ak t.kids.length ck)) (w.heap.size + 1) (0) (0)).drew)
        have E9 := E8.out
        change TyAt ((st2 (st5 V w.heap.size 0 (.int .i64 t.kind) (.int .i64 t.so) (.string t.name) (.slice al t.labels.length cl) (.slice ak t.kids.length ck)) (w.heap.size + 1) (0) (0)).drew) _ _ _ _ _ _ _ ∧ FB ((st2 (st5 V w.heap.size 0 (.int .i64 t.kind) (.int .i64 t.so) (.string t.name) (.slice al t.labels.length cl) (.slice ak t.kids.length ck)) (w.heap.size + 1) (0) (0)).drew) _ _ _ ∧ Below _ _ ((st2 (st5 V w.heap.size 0 (.int .i64 t.kind) (.int .i64 t.so) (.string t.name) (.slice al t.labels.length cl) (.slice ak t.kids.length ck)) (w.heap.size + 1) (0) (0)).drew) ∧ (∀ b o, _ → ((st2 (st5 V w.heap.size 0 (.int .i64 t.kind) (.int .i64 t.so) (.string t.name) (.slice al t.labels.length cl) (.slice ak t.kids.length ck)) (w.heap.size + 1) (0) (0)).drew).cell? _ = _) ∧ ((st2 (st5 V w.heap.size 0 (.int .i64 t.kind) (.int .i64 t.so) (.string t.name) (.slice al t.labels.length cl) (.slice ak t.kids.length ck)) (w.heap.size + 1) (0) (0)).drew).heap.size = _ at E9
        generalize (st2 (st5 V w.heap.size 0 (.int .i64 t.kind) (.int .i64 t.so) (.string t.name) (.slice al t.labels.length cl) (.slice ak t.kids.length ck)) (w.heap.size + 1) (0) (0)).drew = W9 at E9 ⊢
        obtain ⟨⟨r0, r1, r2, r3, r4⟩, ⟨_, s0, s1, _, _⟩, hB9, hK9, hS9⟩ := E9
        simp only [Nat.zero_add] at r1 r2 r3 r4
        refine bodyPost_ret (v := .tuple #[.agg #[.int .i64 t.kind, .int .i64 t.so, .string t.name, .slice al t.labels.length cl, .slice ak t.kids.length ck], .agg #[.int .i64 0, .int .i64 0]]) (by simp [results, Tryd.results6, go_sem, r0, r1, r2, r3, r4, s0, s1]) rfl ?_
        have hk : ∀ b o, NW ((w.alloc (.cells #[.int .i64 0, .int .i64 0, .string ⟨#[]⟩, .slice none 0 0, .slice none 0 0] 25)).alloc (.cells #[.int .i64 0, .int .i64 0] 30)) w1 b → W9.cell? ⟨b, o, none⟩ = w1.cell? ⟨b, o, none⟩ := fun b o hb => by
          have h1 := hb.1
          simp at h1
          exact (hK9 b o (by omega)).trans (KV1.out b o (by omega))
        have hq : ∀ b, NW ((w.alloc (.cells #[.int .i64 0, .int .i64 0, .string ⟨#[]⟩, .slice none 0 0, .slice none 0 0] 25)).alloc (.cells #[.int .i64 0, .int .i64 0] 30)) w1 b → b < W9.heap.size := fun b hb => by rw [hS9, SV1.out]; exact hb.2
        exact ⟨⟨al, cl, ak, ck, rfl, G1.out.bd, G1.out.la.keep hk (fun b hb => ⟨by have h1 := hb.1; simp at h1; omega, hq b hb⟩), G1.out.ka.keep hk (fun b hb => ⟨by have h1 := hb.1; simp at h1; omega, hq b hb⟩)⟩, hB9⟩
      · go_simp
        refine hK _ _ ?_
        clear hK K
        refine take_one 1 (AllReady.cons rfl (fun K hK => ?_) AllReady.nil) (by kernel_rfl)
        go_simp
        refine hK _ _ ?_
        clear hK K
        refine take_one 3 (AllReady.cons rfl (fun K hK => ?_) AllReady.nil) (by kernel_rfl)
        go_simp
        refine hK _ _ ?_
        clear hK K
        refine wpAny_done (by kernel_rfl) ?_ _
        go_wp2_with fail
        change bodyPost _ _ _ _ _ ((st2 (st5 V w.heap.size 0 (.int .i64 t.kind) (.int .i64 t.so) (.string t.name) (.slice al t.labels.length cl) (.slice ak t.kids.length ck)) (w.heap.size + 1) (0) (0)).drew)
        have E9 := E8.out
        change TyAt ((st2 (st5 V w.heap.size 0 (.int .i64 t.kind) (.int .i64 t.so) (.string t.name) (.slice al t.labels.length cl) (.slice ak t.kids.length ck)) (w.heap.size + 1) (0) (0)).drew) _ _ _ _ _ _ _ ∧ FB ((st2 (st5 V w.heap.size 0 (.int .i64 t.kind) (.int .i64 t.so) (.string t.name) (.slice al t.labels.length cl) (.slice ak t.kids.length ck)) (w.heap.size + 1) (0) (0)).drew) _ _ _ ∧ Below _ _ ((st2 (st5 V w.heap.size 0 (.int .i64 t.kind) (.int .i64 t.so) (.string t.name) (.slice al t.labels.length cl) (.slice ak t.kids.length ck)) (w.heap.size + 1) (0) (0)).drew) ∧ (∀ b o, _ → ((st2 (st5 V w.heap.size 0 (.int .i64 t.kind) (.int .i64 t.so) (.string t.name) (.slice al t.labels.length cl) (.slice ak t.kids.length ck)) (w.heap.size + 1) (0) (0)).drew).cell? _ = _) ∧ ((st2 (st5 V w.heap.size 0 (.int .i64 t.kind) (.int .i64 t.so) (.string t.name) (.slice al t.labels.length cl) (.slice ak t.kids.length ck)) (w.heap.size + 1) (0) (0)).drew).heap.size = _ at E9
        generalize (st2 (st5 V w.heap.size 0 (.int .i64 t.kind) (.int .i64 t.so) (.string t.name) (.slice al t.labels.length cl) (.slice ak t.kids.length ck)) (w.heap.size + 1) (0) (0)).drew = W9 at E9 ⊢
        obtain ⟨⟨r0, r1, r2, r3, r4⟩, ⟨_, s0, s1, _, _⟩, hB9, hK9, hS9⟩ := E9
        simp only [Nat.zero_add] at r1 r2 r3 r4
        refine bodyPost_ret (v := .tuple #[.agg #[.int .i64 t.kind, .int .i64 t.so, .string t.name, .slice al t.labels.length cl, .slice ak t.kids.length ck], .agg #[.int .i64 0, .int .i64 0]]) (by simp [results, Tryd.results6, go_sem, r0, r1, r2, r3, r4, s0, s1]) rfl ?_
        have hk : ∀ b o, NW ((w.alloc (.cells #[.int .i64 0, .int .i64 0, .string ⟨#[]⟩, .slice none 0 0, .slice none 0 0] 25)).alloc (.cells #[.int .i64 0, .int .i64 0] 30)) w1 b → W9.cell? ⟨b, o, none⟩ = w1.cell? ⟨b, o, none⟩ := fun b o hb => by
          have h1 := hb.1
          simp at h1
          exact (hK9 b o (by omega)).trans (KV1.out b o (by omega))
        have hq : ∀ b, NW ((w.alloc (.cells #[.int .i64 0, .int .i64 0, .string ⟨#[]⟩, .slice none 0 0, .slice none 0 0] 25)).alloc (.cells #[.int .i64 0, .int .i64 0] 30)) w1 b → b < W9.heap.size := fun b hb => by rw [hS9, SV1.out]; exact hb.2
        exact ⟨⟨al, cl, ak, ck, rfl, G1.out.bd, G1.out.la.keep hk (fun b hb => ⟨by have h1 := hb.1; simp at h1; omega, hq b hb⟩), G1.out.ka.keep hk (fun b hb => ⟨by have h1 := hb.1; simp at h1; omega, hq b hb⟩)⟩, hB9⟩
    · go_simp
      refine hK _ _ ?_
      clear hK K
      refine take_one 0 (AllReady.cons rfl (fun K hK => ?_) AllReady.nil) (by kernel_rfl)
      go_simp
      refine hK _ _ ?_
      clear hK K
      refine take_one 2 (AllReady.cons rfl (fun K hK => ?_) AllReady.nil) (by kernel_rfl)
      go_simp
      refine hK _ _ ?_
      clear hK K
      refine take_one 3 (AllReady.cons rfl (fun K hK => ?_) AllReady.nil) (by kernel_rfl)
      go_simp
      refine hK _ _ ?_
      clear hK K
      refine wpAny_done (by kernel_rfl) ?_ _
      go_wp2_with fail
      change bodyPost _ _ _ _ _ ((st2 (st5 V w.heap.size 0 (.int .i64 t.kind) (.int .i64 t.so) (.string t.name) (.slice al t.labels.length cl) (.slice ak t.kids.length ck)) (w.heap.size + 1) (0) (0)).drew)
      have E9 := E8.out
      change TyAt ((st2 (st5 V w.heap.size 0 (.int .i64 t.kind) (.int .i64 t.so) (.string t.name) (.slice al t.labels.length cl) (.slice ak t.kids.length ck)) (w.heap.size + 1) (0) (0)).drew) _ _ _ _ _ _ _ ∧ FB ((st2 (st5 V w.heap.size 0 (.int .i64 t.kind) (.int .i64 t.so) (.string t.name) (.slice al t.labels.length cl) (.slice ak t.kids.length ck)) (w.heap.size + 1) (0) (0)).drew) _ _ _ ∧ Below _ _ ((st2 (st5 V w.heap.size 0 (.int .i64 t.kind) (.int .i64 t.so) (.string t.name) (.slice al t.labels.length cl) (.slice ak t.kids.length ck)) (w.heap.size + 1) (0) (0)).drew) ∧ (∀ b o, _ → ((st2 (st5 V w.heap.size 0 (.int .i64 t.kind) (.int .i64 t.so) (.string t.name) (.slice al t.labels.length cl) (.slice ak t.kids.length ck)) (w.heap.size + 1) (0) (0)).drew).cell? _ = _) ∧ ((st2 (st5 V w.heap.size 0 (.int .i64 t.kind) (.int .i64 t.so) (.string t.name) (.slice al t.labels.length cl) (.slice ak t.kids.length ck)) (w.heap.size + 1) (0) (0)).drew).heap.size = _ at E9
      generalize (st2 (st5 V w.heap.size 0 (.int .i64 t.kind) (.int .i64 t.so) (.string t.name) (.slice al t.labels.length cl) (.slice ak t.kids.length ck)) (w.heap.size + 1) (0) (0)).drew = W9 at E9 ⊢
      obtain ⟨⟨r0, r1, r2, r3, r4⟩, ⟨_, s0, s1, _, _⟩, hB9, hK9, hS9⟩ := E9
      simp only [Nat.zero_add] at r1 r2 r3 r4
      refine bodyPost_ret (v := .tuple #[.agg #[.int .i64 t.kind, .int .i64 t.so, .string t.name, .slice al t.labels.length cl, .slice ak t.kids.length ck], .agg #[.int .i64 0, .int .i64 0]]) (by simp [results, Tryd.results6, go_sem, r0, r1, r2, r3, r4, s0, s1]) rfl ?_
      have hk : ∀ b o, NW ((w.alloc (.cells #[.int .i64 0, .int .i64 0, .string ⟨#[]⟩, .slice none 0 0, .slice none 0 0] 25)).alloc (.cells #[.int .i64 0, .int .i64 0] 30)) w1 b → W9.cell? ⟨b, o, none⟩ = w1.cell? ⟨b, o, none⟩ := fun b o hb => by
        have h1 := hb.1
        simp at h1
        exact (hK9 b o (by omega)).trans (KV1.out b o (by omega))
      have hq : ∀ b, NW ((w.alloc (.cells #[.int .i64 0, .int .i64 0, .string ⟨#[]⟩, .slice none 0 0, .slice none 0 0] 25)).alloc (.cells #[.int .i64 0, .int .i64 0] 30)) w1 b → b < W9.heap.size := fun b hb => by rw [hS9, SV1.out]; exact hb.2
      exact ⟨⟨al, cl, ak, ck, rfl, G1.out.bd, G1.out.la.keep hk (fun b hb => ⟨by have h1 := hb.1; simp at h1; omega, hq b hb⟩), G1.out.ka.keep hk (fun b hb => ⟨by have h1 := hb.1; simp at h1; omega, hq b hb⟩)⟩, hB9⟩
end Go.Proofs.YtefdekfgmbgbbaaDoor
