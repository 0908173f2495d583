/-
  The contract of exprs.Parse, for every text.
-/
import Derived.Test.YtipolobikigmbaaGreatDoorGv
namespace Go.Proofs.YtipolobikigmbaaGreatDoor
open Go.RowKit Go.Shelf
/-- what Parse hands back -/
def PXPost (w : World) (x : Except (Int × Nat) Ex) (e : Ending) (w' : World) : Prop :=
  match x with
  | .ok x => ∃ d ao cap, e = .returned (.tuple #[.agg #[.int .i64 x.kind, .string x.name, .int .i64 x.so, .int .i64 x.n, .string x.s, .slice ao x.kids.length cap], .agg #[.int .i64 0, .int .i64 0]]) ∧ GE w w' d x ao cap
  | .error (c, a) => e = .returned (.tuple #[.agg #[.int .i64 0, .string ⟨#[]⟩, .int .i64 0, .int .i64 0, .string ⟨#[]⟩, .slice none 0 0], .agg #[.int .i64 c, .int .i64 (a : Int)]])
theorem below_st2X {w W : World} (h : Below w.heap.size w W) (b : Nat) (c a : Int) (hb : w.heap.size ≤ b) : Below w.heap.size w (st2X W b c a) := by
  unfold st2X
  exact (h.setCell (p := ⟨b, 0, none⟩) hb _).setCell (p := ⟨b, 1, none⟩) hb _
theorem parX_end {w V : World} {c a : Int} (hz : ∀ j, j < 6 → ∃ v, V.cell? ⟨w.heap.size, 0 + j, none⟩ = some v) (hb : FBX V (w.heap.size + 1) c a) (hbl : Below w.heap.size w V) (x : Ex) (ao : Option Addr) (cap : Nat) :
    ExAt (st2X (st6 V w.heap.size 0 (.int .i64 x.kind) (.string x.name) (.int .i64 x.so) (.int .i64 x.n) (.string x.s) (.slice ao x.kids.length cap)) (w.heap.size + 1) c a).drew w.heap.size 0 x ao cap ∧
    FBX (st2X (st6 V w.heap.size 0 (.int .i64 x.kind) (.string x.name) (.int .i64 x.so) (.int .i64 x.n) (.string x.s) (.slice ao x.kids.length cap)) (w.heap.size + 1) c a).drew (w.heap.size + 1) c a ∧
    Below w.heap.size w (st2X (st6 V w.heap.size 0 (.int .i64 x.kind) (.string x.name) (.int .i64 x.so) (.int .i64 x.n) (.string x.s) (.slice ao x.kids.length cap)) (w.heap.size + 1) c a).drew ∧
    (∀ b o, w.heap.size + 2 ≤ b → ((st2X (st6 V w.heap.size 0 (.int .i64 x.kind) (.string x.name) (.int .i64 x.so) (.int .i64 x.n) (.string x.s) (.slice ao x.kids.length cap)) (w.heap.size + 1) c a).drew).cell? ⟨b, o, none⟩ = V.cell? ⟨b, o, none⟩) ∧
    ((st2X (st6 V w.heap.size 0 (.int .i64 x.kind) (.string x.name) (.int .i64 x.so) (.int .i64 x.n) (.string x.s) (.slice ao x.kids.length cap)) (w.heap.size + 1) c a).drew).heap.size = V.heap.size := by
  have T1 := st6_at V w.heap.size 0 x ao cap hz
  have B1 : FBX (st6 V w.heap.size 0 (.int .i64 x.kind) (.string x.name) (.int .i64 x.so) (.int .i64 x.n) (.string x.s) (.slice ao x.kids.length cap)) (w.heap.size + 1) c a :=
    ⟨by rw [st6_size]; exact hb.lt, (st6_other _ _ _ _ _ _ _ _ _ _ _ (.inl (by omega))).trans hb.c0, (st6_other _ _ _ _ _ _ _ _ _ _ _ (.inl (by omega))).trans hb.c1, by rw [st6_frozen]; exact hb.f0, by rw [st6_frozen]; exact hb.f1⟩
  have L1 := st6_below w.heap.size w V w.heap.size 0 (.int .i64 x.kind) (.string x.name) (.int .i64 x.so) (.int .i64 x.n) (.string x.s) (.slice ao x.kids.length cap) hbl (Nat.le_refl _)
  have S1 := st6_size V w.heap.size 0 (.int .i64 x.kind) (.string x.name) (.int .i64 x.so) (.int .i64 x.n) (.string x.s) (.slice ao x.kids.length cap)
  have O1 : ∀ b o, w.heap.size + 2 ≤ b → (st6 V w.heap.size 0 (.int .i64 x.kind) (.string x.name) (.int .i64 x.so) (.int .i64 x.n) (.string x.s) (.slice ao x.kids.length cap)).cell? ⟨b, o, none⟩ = V.cell? ⟨b, o, none⟩ := fun b o h => st6_other _ _ _ _ _ _ _ _ _ _ _ (.inl (by omega))
  generalize st6 V w.heap.size 0 (.int .i64 x.kind) (.string x.name) (.int .i64 x.so) (.int .i64 x.n) (.string x.s) (.slice ao x.kids.length cap) = U at *
  have B2 := st2X_at B1 c a
  refine ⟨⟨(st2X_other _ _ _ _ _ _ (by omega)).trans T1.c0, (st2X_other _ _ _ _ _ _ (by omega)).trans T1.c1, (st2X_other _ _ _ _ _ _ (by omega)).trans T1.c2, (st2X_other _ _ _ _ _ _ (by omega)).trans T1.c3, (st2X_other _ _ _ _ _ _ (by omega)).trans T1.c4, (st2X_other _ _ _ _ _ _ (by omega)).trans T1.c5⟩, ⟨B2.lt, B2.c0, B2.c1, B2.f0, B2.f1⟩, (below_st2X L1 _ c a (by omega)).drew, fun b o h => (st2X_other _ _ _ _ _ _ (by omega)).trans (O1 b o h), (st2X_size U _ c a).trans S1⟩
theorem six_at {V : World} {b : Nat} {v0 v1 v2 v3 v4 v5 : Value} (h0 : V.cell? ⟨b, 0, none⟩ = some v0) (h1 : V.cell? ⟨b, 1, none⟩ = some v1) (h2 : V.cell? ⟨b, 2, none⟩ = some v2) (h3 : V.cell? ⟨b, 3, none⟩ = some v3) (h4 : V.cell? ⟨b, 4, none⟩ = some v4) (h5 : V.cell? ⟨b, 5, none⟩ = some v5) : ∀ j, j < 6 → ∃ v, V.cell? ⟨b, 0 + j, none⟩ = some v := by
  intro j hj
  rw [Nat.zero_add]
  have : j = 0 ∨ j = 1 ∨ j = 2 ∨ j = 3 ∨ j = 4 ∨ j = 5 := by omega
  rcases this with rfl | rfl | rfl | rfl | rfl | rfl
  · exact ⟨_, h0⟩
  · exact ⟨_, h1⟩
  · exact ⟨_, h2⟩
  · exact ⟨_, h3⟩
  · exact ⟨_, h4⟩
  · exact ⟨_, h5⟩
set_option maxRecDepth 100000 in
set_option maxHeartbeats 4000000 in
theorem parseX_any {Tabs : World → Prop} {B0 : Nat} (H : TK Tabs B0) (s : ByteArray) (w : World) (hT : Tabs w) :
    Calls Tryz.prog 11 #[.string s] w fun e w' => PXPost w (psX s.data.toList) e w' ∧ Below w.heap.size w w' := by
  have hmf : ∀ (fn : Fn) (first cap : Array Value) (w : World), (Instr.makeFunc fn first cap).run Tryz.prog w = .ok (.func fn first cap) w := fun _ _ _ _ => rfl
  have Z0 := (ZE.new w 39).keepF (FR.al (pb := w.heap.size + 1) (.cells #[.int .i64 0, .int .i64 0] 30)) (by omega)
  have B0 : FBX ((w.alloc (.cells #[.int .i64 0, .string ⟨#[]⟩, .int .i64 0, .int .i64 0, .string ⟨#[]⟩, .slice none 0 0] 39)).alloc (.cells #[.int .i64 0, .int .i64 0] 30)) (w.heap.size + 1) 0 0 := ⟨by simp, by go_cell, by go_cell, by go_simp, by go_simp⟩
  have HA : Below w.heap.size w ((w.alloc (.cells #[.int .i64 0, .string ⟨#[]⟩, .int .i64 0, .int .i64 0, .string ⟨#[]⟩, .slice none 0 0] 39)).alloc (.cells #[.int .i64 0, .int .i64 0] 30)) := ((Below.refl _ _).alloc (Nat.le_refl _) _).alloc (by simp) _
  have cR := readX_any H w.heap.size s _ (H.k _ _ hT HA) Z0
  have HB := hideK B0
  have HA' := hideK HA
  clear Z0 B0 HA H hT
  cases hX : psX s.data.toList with
  | error y =>
    obtain ⟨c, a⟩ := y
    rw [hX] at cR
    simp only [XPost] at cR
    simp only [PXPost]
    go_enter Tryz.func11, Tryz.ntmps11
    go_wp2_with fail
    refine cR.mono ?_
    rintro e w1 ⟨rfl, hf1, hz1⟩
    obtain ⟨bl, b0, b1, g0, g1⟩ := HB.out.keep hf1 (by omega)
    have ZV := hz1.st2X (b := w.heap.size + 1) (by omega) c (a : Int)
    obtain ⟨zl, z0, z1, z2, z3, z4, z5, zf⟩ := id ZV
    have f0 := zf 0
    have f1 := zf 1
    have f2 := zf 2
    have f3 := zf 3
    have f4 := zf 4
    have f5 := zf 5
    clear zf
    clear ZV hz1
    have HBl := hideK (HA'.out.trans (hf1.below (by simp; omega)))
    have F2 := hideK (FBX.mk bl b0 b1 g0 g1)
    go_wp2_with fail
    have D := st2X_at F2.out (c) ((a : Int))
    obtain ⟨dl, d0, d1, e0, e1⟩ := id D
    have Bv := hideK (below_st2X HBl.out (w.heap.size + 1) (c) ((a : Int)) (by omega))
    change Code.wp _ _ _ _ (st2X w1 (w.heap.size + 1) (c) ((a : Int)))
    generalize st2X w1 (w.heap.size + 1) (c) ((a : Int)) = V at *
    have n1 : ¬ w.heap.size = w.heap.size + 1 := by omega
    have n2 : ¬ w.heap.size + 1 = w.heap.size := by omega
    have E8 := hideK (parX_end (w := w) (V := V) (six_at z0 z1 z2 z3 z4 z5) D Bv.out ⟨0, ⟨#[]⟩, 0, 0, ⟨#[]⟩, []⟩ none 0)
    refine wp_region_any (by kernel_rfl) ?_
    change wpAny _ _ _ _ _ _ _ (World.drew _)
    refine wpAny_ready (rs := [0, 1]) (by kernel_rfl) (by simp) ?_
    refine (AllReady.cons rfl (fun K hK => ?_) (AllReady.cons rfl (fun K hK => ?_) AllReady.nil))
    · go_simp
      refine hK _ _ ?_
      clear hK K
      refine wpAny_ready (rs := [1, 2]) (by kernel_rfl) (by simp) ?_
      refine (AllReady.cons rfl (fun K hK => ?_) (AllReady.cons rfl (fun K hK => ?_) AllReady.nil))
      · go_simp
        refine hK _ _ ?_
        clear hK K
        refine take_oneE 2 (AllReady.cons rfl (fun K hK => ?_) AllReady.nil) (by kernel_rfl)
        go_simp
        refine hK _ _ ?_
        clear hK K
        refine take_oneE 3 (AllReady.cons rfl (fun K hK => ?_) AllReady.nil) (by kernel_rfl)
        go_simp
        refine hK _ _ ?_
        clear hK K
        refine wpAny_done (by kernel_rfl) ?_ _
        go_wp2_with fail
        change bodyPost _ _ _ _ _ ((st2X (st6 V w.heap.size 0 (.int .i64 0) (.string ⟨#[]⟩) (.int .i64 0) (.int .i64 0) (.string ⟨#[]⟩) (.slice none 0 0)) (w.heap.size + 1) (c) ((a : Int))).drew)
        have E9 := E8.out
        change ExAt ((st2X (st6 V w.heap.size 0 (.int .i64 0) (.string ⟨#[]⟩) (.int .i64 0) (.int .i64 0) (.string ⟨#[]⟩) (.slice none 0 0)) (w.heap.size + 1) (c) ((a : Int))).drew) _ _ _ _ _ ∧ FBX ((st2X (st6 V w.heap.size 0 (.int .i64 0) (.string ⟨#[]⟩) (.int .i64 0) (.int .i64 0) (.string ⟨#[]⟩) (.slice none 0 0)) (w.heap.size + 1) (c) ((a : Int))).drew) _ _ _ ∧ Below _ _ ((st2X (st6 V w.heap.size 0 (.int .i64 0) (.string ⟨#[]⟩) (.int .i64 0) (.int .i64 0) (.string ⟨#[]⟩) (.slice none 0 0)) (w.heap.size + 1) (c) ((a : Int))).drew) ∧ (∀ b o, _ → ((st2X (st6 V w.heap.size 0 (.int .i64 0) (.string ⟨#[]⟩) (.int .i64 0) (.int .i64 0) (.string ⟨#[]⟩) (.slice none 0 0)) (w.heap.size + 1) (c) ((a : Int))).drew).cell? _ = _) ∧ ((st2X (st6 V w.heap.size 0 (.int .i64 0) (.string ⟨#[]⟩) (.int .i64 0) (.int .i64 0) (.string ⟨#[]⟩) (.slice none 0 0)) (w.heap.size + 1) (c) ((a : Int))).drew).heap.size = _ at E9
        generalize (st2X (st6 V w.heap.size 0 (.int .i64 0) (.string ⟨#[]⟩) (.int .i64 0) (.int .i64 0) (.string ⟨#[]⟩) (.slice none 0 0)) (w.heap.size + 1) (c) ((a : Int))).drew = W9 at E9 ⊢
        obtain ⟨⟨r0, r1, r2, r3, r4, r5⟩, ⟨_, s0, s1, _, _⟩, hB9, hK9, hS9⟩ := E9
        simp only [Nat.zero_add, List.length_nil] at r0 r1 r2 r3 r4 r5
        refine bodyPost_ret (v := .tuple #[.agg #[.int .i64 0, .string ⟨#[]⟩, .int .i64 0, .int .i64 0, .string ⟨#[]⟩, .slice none 0 0], .agg #[.int .i64 c, .int .i64 (a : Int)]]) (by simp [results, Tryz.results11, go_sem, r0, r1, r2, r3, r4, r5, s0, s1]) rfl ?_
        exact ⟨rfl, hB9⟩
      · go_simp
        refine hK _ _ ?_
        clear hK K
        refine take_oneE 1 (AllReady.cons rfl (fun K hK => ?_) AllReady.nil) (by kernel_rfl)
        go_simp
        refine hK _ _ ?_
        clear hK K
        refine take_oneE 3 (AllReady.cons rfl (fun K hK => ?_) AllReady.nil) (by kernel_rfl)
        go_simp
        refine hK _ _ ?_
        clear hK K
        refine wpAny_done (by kernel_rfl) ?_ _
        go_wp2_with fail
        change bodyPost _ _ _ _ _ ((st2X (st6 V w.heap.size 0 (.int .i64 0) (.string ⟨#[]⟩) (.int .i64 0) (.int .i64 0) (.string ⟨#[]⟩) (.slice none 0 0)) (w.heap.size + 1) (c) ((a : Int))).drew)
        have E9 := E8.out
        change ExAt ((st2X (st6 V w.heap.size 0 (.int .i64 0) (.string ⟨#[]⟩) (.int .i64 0) (.int .i64 0) (.string ⟨#[]⟩) (.slice none 0 0)) (w.heap.size + 1) (c) ((a : Int))).drew) _ _ _ _ _ ∧ FBX ((st2X (st6 V w.heap.size 0 (.int .i64 0) (.string ⟨#[]⟩) (.int .i64 0) (.int .i64 0) (.string ⟨#[]⟩) (.slice none 0 0)) (w.heap.size + 1) (c) ((a : Int))).drew) _ _ _ ∧ Below _ _ ((st2X (st6 V w.heap.size 0 (.int .i64 0) (.string ⟨#[]⟩) (.int .i64 0) (.int .i64 0) (.string ⟨#[]⟩) (.slice none 0 0)) (w.heap.size + 1) (c) ((a : Int))).drew) ∧ (∀ b o, _ → ((st2X (st6 V w.heap.size 0 (.int .i64 0) (.string ⟨#[]⟩) (.int .i64 0) (.int .i64 0) (.string ⟨#[]⟩) (.slice none 0 0)) (w.heap.size + 1) (c) ((a : Int))).drew).cell? _ = _) ∧ ((st2X (st6 V w.heap.size 0 (.int .i64 0) (.string ⟨#[]⟩) (.int .i64 0) (.int .i64 0) (.string ⟨#[]⟩) (.slice none 0 0)) (w.heap.size + 1) (c) ((a : Int))).drew).heap.size = _ at E9
        generalize (st2X (st6 V w.heap.size 0 (.int .i64 0) (.string ⟨#[]⟩) (.int .i64 0) (.int .i64 0) (.string ⟨#[]⟩) (.slice none 0 0)) (w.heap.size + 1) (c) ((a : Int))).drew = W9 at E9 ⊢
        obtain ⟨⟨r0, r1, r2, r3, r4, r5⟩, ⟨_, s0, s1, _, _⟩, hB9, hK9, hS9⟩ := E9
        simp only [Nat.zero_add, List.length_nil] at r0 r1 r2 r3 r4 r5
        refine bodyPost_ret (v := .tuple #[.agg #[.int .i64 0, .string ⟨#[]⟩, .int .i64 0, .int .i64 0, .string ⟨#[]⟩, .slice none 0 0], .agg #[.int .i64 c, .int .i64 (a : Int)]]) (by simp [results, Tryz.results11, go_sem, r0, r1, r2, r3, r4, r5, s0, s1]) rfl ?_
        exact ⟨rfl, hB9⟩
    · go_simp
      refine hK _ _ ?_
      clear hK K
      refine take_oneE 0 (AllReady.cons rfl (fun K hK => ?_) AllReady.nil) (by kernel_rfl)
      go_simp
      refine hK _ _ ?_
      clear hK K
      refine take_oneE 2 (AllReady.cons rfl (fun K hK => ?_) AllReady.nil) (by kernel_rfl)
      go_simp
      refine hK _ _ ?_
      clear hK K
      refine take_oneE 3 (AllReady.cons rfl (fun K hK => ?_) AllReady.nil) (by kernel_rfl)
      go_simp
      refine hK _ _ ?_
      clear hK K
      refine wpAny_done (by kernel_rfl) ?_ _
      go_wp2_with fail
      change bodyPost _ _ _ _ _ ((st2X (st6 V w.heap.size 0 (.int .i64 0) (.string ⟨#[]⟩) (.int .i64 0) (.int .i64 0) (.string ⟨#[]⟩) (.slice none 0 0)) (w.heap.size + 1) (c) ((a : Int))).drew)
      have E9 := E8.out
      change ExAt ((st2X (st6 V w.heap.size 0 (.int .i64 0) (.string ⟨#[]⟩) (.int .i64 0) (.int .i64 0) (.string ⟨#[]⟩) (.slice none 0 0)) (w.heap.size + 1) (c) ((a : Int))).drew) _ _ _ _ _ ∧ FBX ((st2X (st6 V w.heap.size 0 (.int .i64 0) (.string ⟨#[]⟩) (.int .i64 0) (.int .i64 0) (.string ⟨#[]⟩) (.slice none 0 0)) (w.heap.size + 1) (c) ((a : Int))).drew) _ _ _ ∧ Below _ _ ((st2X (st6 V w.heap.size 0 (.int .i64 0) (.string ⟨#[]⟩) (.int .i64 0) (.int .i64 0) (.string ⟨#[]⟩) (.slice none 0 0)) (w.heap.size + 1) (c) ((a : Int))).drew) ∧ (∀ b o, _ → ((st2X (st6 V w.heap.size 0 (.int .i64 0) (.string ⟨#[]⟩) (.int .i64 0) (.int .i64 0) (.string ⟨#[]⟩) (.slice none 0 0)) (w.heap.size + 1) (c) ((a : Int))).drew).cell? _ = _) ∧ ((st2X (st6 V w.heap.size 0 (.int .i64 0) (.string ⟨#[]⟩) (.int .i64 0) (.int .i64 0) (.string ⟨#[]⟩) (.slice none 0 0)) (w.heap.size + 1) (c) ((a : Int))).drew).heap.size = _ at E9
      generalize (st2X (st6 V w.heap.size 0 (.int .i64 0) (.string ⟨#[]⟩) (.int .i64 0) (.int .i64 0) (.string ⟨#[]⟩) (.slice none 0 0)) (w.heap.size + 1) (c) ((a : Int))).drew = W9 at E9 ⊢
      obtain ⟨⟨r0, r1, r2, r3, r4, r5⟩, ⟨_, s0, s1, _, _⟩, hB9, hK9, hS9⟩ := E9
      simp only [Nat.zero_add, List.length_nil] at r0 r1 r2 r3 r4 r5
      refine bodyPost_ret (v := .tuple #[.agg #[.int .i64 0, .string ⟨#[]⟩, .int .i64 0, .int .i64 0, .string ⟨#[]⟩, .slice none 0 0], .agg #[.int .i64 c, .int .i64 (a : Int)]]) (by simp [results, Tryz.results11, go_sem, r0, r1, r2, r3, r4, r5, s0, s1]) rfl ?_
      exact ⟨rfl, hB9⟩
  | ok x =>
    rw [hX] at cR
    simp only [XPost] at cR
    simp only [PXPost]
    go_enter Tryz.func11, Tryz.ntmps11
    go_wp2_with fail
    refine cR.mono ?_
    rintro e w1 ⟨rfl, ⟨d, ao, cap, ht1, hg1, hfz⟩, hf1⟩
    obtain ⟨bl, b0, b1, g0, g1⟩ := HB.out.keep hf1 (by omega)
    have TV : ExAt (st2X w1 (w.heap.size + 1) 0 0) w.heap.size 0 x ao cap := ⟨(st2X_other _ _ _ _ _ _ (by omega)).trans ht1.c0, (st2X_other _ _ _ _ _ _ (by omega)).trans ht1.c1, (st2X_other _ _ _ _ _ _ (by omega)).trans ht1.c2, (st2X_other _ _ _ _ _ _ (by omega)).trans ht1.c3, (st2X_other _ _ _ _ _ _ (by omega)).trans ht1.c4, (st2X_other _ _ _ _ _ _ (by omega)).trans ht1.c5⟩
    obtain ⟨z0, z1, z2, z3, z4, z5⟩ := id TV
    simp only [Nat.zero_add] at z0 z1 z2 z3 z4 z5
    have zf : ∀ o, (st2X w1 (w.heap.size + 1) 0 0).frozen? ⟨w.heap.size, o, none⟩ = false := fun o => by rw [st2X_frozen]; exact hfz o
    have f0 := zf 0
    have f1 := zf 1
    have f2 := zf 2
    have f3 := zf 3
    have f4 := zf 4
    have f5 := zf 5
    clear zf
    have G1 := hideK hg1
    have KV1 : Hid (∀ b o, w.heap.size + 2 ≤ b → (st2X w1 (w.heap.size + 1) 0 0).cell? ⟨b, o, none⟩ = w1.cell? ⟨b, o, none⟩) := fun b o hb => st2X_other _ _ _ _ _ _ (by omega)
    have SV1 : Hid ((st2X w1 (w.heap.size + 1) 0 0).heap.size = w1.heap.size) := st2X_size _ _ _ _
    clear hg1 hfz TV
    have HBl := hideK (HA'.out.trans (hf1.below (by simp; omega)))
    have F2 := hideK (FBX.mk bl b0 b1 g0 g1)
    go_wp2_with fail
    have D := st2X_at F2.out (0) (0)
    obtain ⟨dl, d0, d1, e0, e1⟩ := id D
    have Bv := hideK (below_st2X HBl.out (w.heap.size + 1) (0) (0) (by omega))
    change Code.wp _ _ _ _ (st2X w1 (w.heap.size + 1) (0) (0))
    generalize st2X w1 (w.heap.size + 1) (0) (0) = V at *
    have n1 : ¬ w.heap.size = w.heap.size + 1 := by omega
    have n2 : ¬ w.heap.size + 1 = w.heap.size := by omega
    have E8 := hideK (parX_end (w := w) (V := V) (six_at z0 z1 z2 z3 z4 z5) D Bv.out x ao cap)
    refine wp_region_any (by kernel_rfl) ?_
    change wpAny _ _ _ _ _ _ _ (World.drew _)
    refine wpAny_ready (rs := [0, 1]) (by kernel_rfl) (by simp) ?_
    refine (AllReady.cons rfl (fun K hK => ?_) (AllReady.cons rfl (fun K hK => ?_) AllReady.nil))
    · go_simp
      refine hK _ _ ?_
      clear hK K
      refine wpAny_ready (rs := [1, 2]) (by kernel_rfl) (by simp) ?_
      refine (AllReady.cons rfl (fun K hK => ?_) (AllReady.cons rfl (fun K hK => ?_) AllReady.nil))
      · go_simp
        refine hK _ _ ?_
        clear hK K
        refine take_oneE 2 (AllReady.cons rfl (fun K hK => ?_) AllReady.nil) (by kernel_rfl)
        go_simp
        refine hK _ _ ?_
        clear hK K
        refine take_oneE 3 (AllReady.cons rfl (fun K hK => ?_) AllReady.nil) (by kernel_rfl)
        go_simp
        refine hK _ _ ?_
        clear hK K
        refine wpAny_done (by kernel_rfl) ?_ _
        go_wp2_with fail
        change bodyPost _ _ _ _ _ ((st2X (st6 V w.heap.size 0 (.int .i64 x.kind) (.string x.name) (.int .i64 x.so) (.int .i64 x.n) (.string x.s) (.slice ao x.kids.length cap)) (w.heap.size + 1) (0) (0)).drew)
        have E9 := E8.out
        change ExAt ((st2X (st6 V w.heap.size 0 (.int .i64 x.kind) (.string x.name) (.int .i64 x.so) (.int .i64 x.n) (.string x.s) (.slice ao x.kids.length cap)) (w.heap.size + 1) (0) (0)).drew) _ _ _ _ _ ∧ FBX ((st2X (st6 V w.heap.size 0 (.int .i64 x.kind) (.string x.name) (.int .i64 x.so) (.int .i64 x.n) (.string x.s) (.slice ao x.kids.length cap)) (w.heap.size + 1) (0) (0)).drew) _ _ _ ∧ Below _ _ ((st2X (st6 V w.heap.size 0 (.int .i64 x.kind) (.string x.name) (.int .i64 x.so) (.int .i64 x.n) (.string x.s) (.slice ao x.kids.length cap)) (w.heap.size + 1) (0) (0)).drew) ∧ (∀ b o, _ → ((st2X (st6 V w.heap.size 0 (.int .i64 x.kind) (.string x.name) (.int .i64 x.so) (.int .i64 x.n) (.string x.s) (.slice ao x.kids.length cap)) (w.heap.size + 1) (0) (0)).drew).cell? _ = _) ∧ ((st2X (st6 V w.heap.size 0 (.int .i64 x.kind) (.string x.name) (.int .i64 x.so) (.int .i64 x.n) (.string x.s) (.slice ao x.kids.length cap)) (w.heap.size + 1) (0) (0)).drew).heap.size = _ at E9
        generalize (st2X (st6 V w.heap.size 0 (.int .i64 x.kind) (.string x.name) (.int .i64 x.so) (.int .i64 x.n) (.string x.s) (.slice ao x.kids.length cap)) (w.heap.size + 1) (0) (0)).drew = W9 at E9 ⊢
        obtain ⟨⟨r0, r1, r2, r3, r4, r5⟩, ⟨_, s0, s1, _, _⟩, hB9, hK9, hS9⟩ := E9
        simp only [Nat.zero_add] at r0 r1 r2 r3 r4 r5
        refine bodyPost_ret (v := .tuple #[.agg #[.int .i64 x.kind, .string x.name, .int .i64 x.so, .int .i64 x.n, .string x.s, .slice ao x.kids.length cap], .agg #[.int .i64 0, .int .i64 0]]) (by simp [results, Tryz.results11, go_sem, r0, r1, r2, r3, r4, r5, s0, s1]) rfl ?_
        have hk : ∀ b o, NW ((w.alloc (.cells #[.int .i64 0, .string ⟨#[]⟩, .int .i64 0, .int .i64 0, .string ⟨#[]⟩, .slice none 0 0] 39)).alloc (.cells #[.int .i64 0, .int .i64 0] 30)) w1 b → W9.cell? ⟨b, o, none⟩ = w1.cell? ⟨b, o, none⟩ := fun b o hb => by
          have h1 := hb.1
          simp at h1
          exact (hK9 b o (by omega)).trans (KV1.out b o (by omega))
        have hq : ∀ b, NW ((w.alloc (.cells #[.int .i64 0, .string ⟨#[]⟩, .int .i64 0, .int .i64 0, .string ⟨#[]⟩, .slice none 0 0] 39)).alloc (.cells #[.int .i64 0, .int .i64 0] 30)) w1 b → NW w W9 b := fun b hb => ⟨by have h1 := hb.1; simp at h1; omega, by rw [hS9, SV1.out]; exact hb.2⟩
        exact ⟨⟨d, ao, cap, rfl, G1.out.bd, G1.out.ka.keep hk hq⟩, hB9⟩
      · go_simp
        refine hK _ _ ?_
        clear hK K
        refine take_oneE 1 (AllReady.cons rfl (fun K hK => ?_) AllReady.nil) (by kernel_rfl)
        go_simp
        refine hK _ _ ?_
        clear hK K
        refine take_oneE 3 (AllReady.cons rfl (fun K hK => ?_) AllReady.nil) (by kernel_rfl)
        go_simp
        refine hK _ _ ?_
        clear hK K
        refine wpAny_done (by kernel_rfl) ?_ _
        go_wp2_with fail
        change bodyPost _ _ _ _ _ ((st2X (st6 V w.heap.size 0 (.int .i64 x.kind) (.string x.name) (.int .i64 x.so) (.int .i64 x.n) (.string x.s) (.slice ao x.kids.length cap)) (w.heap.size + 1) (0) (0)).drew)
        have E9 := E8.out
        change ExAt ((st2X (st6 V w.heap.size 0 (.int .i64 x.kind) (.string x.name) (.int .i64 x.so) (.int .i64 x.n) (.string x.s) (.slice ao x.kids.length cap)) (w.heap.size + 1) (0) (0)).drew) _ _ _ _ _ ∧ FBX ((st2X (st6 V w.heap.size 0 (.int .i64 x.kind) (.string x.name) (.int .i64 x.so) (.int .i64 x.n) (.string x.s) (.slice ao x.kids.length cap)) (w.heap.size + 1) (0) (0)).drew) _ _ _ ∧ Below _ _ ((st2X (st6 V w.heap.size 0 (.int .i64 x.kind) (.string x.name) (.int .i64 x.so) (.int .i64 x.n) (.string x.s) (.slice ao x.kids.length cap)) (w.heap.size + 1) (0) (0)).drew) ∧ (∀ b o, _ → ((st2X (st6 V w.heap.size 0 (.int .i64 x.kind) (.string x.name) (.int .i64 x.so) (.int .i64 x.n) (.string x.s) (.slice ao x.kids.length cap)) (w.heap.size + 1) (0) (0)).drew).cell? _ = _) ∧ ((st2X (st6 V w.heap.size 0 (.int .i64 x.kind) (.string x.name) (.int .i64 x.so) (.int .i64 x.n) (.string x.s) (.slice ao x.kids.length cap)) (w.heap.size + 1) (0) (0)).drew).heap.size = _ at E9
        generalize (st2X (st6 V w.heap.size 0 (.int .i64 x.kind) (.string x.name) (.int .i64 x.so) (.int .i64 x.n) (.string x.s) (.slice ao x.kids.length cap)) (w.heap.size + 1) (0) (0)).drew = W9 at E9 ⊢
        obtain ⟨⟨r0, r1, r2, r3, r4, r5⟩, ⟨_, s0, s1, _, _⟩, hB9, hK9, hS9⟩ := E9
        simp only [Nat.zero_add] at r0 r1 r2 r3 r4 r5
        refine bodyPost_ret (v := .tuple #[.agg #[.int .i64 x.kind, .string x.name, .int .i64 x.so, .int .i64 x.n, .string x.s, .slice ao x.kids.length cap], .agg #[.int .i64 0, .int .i64 0]]) (by simp [results, Tryz.results11, go_sem, r0, r1, r2, r3, r4, r5, s0, s1]) rfl ?_
        have hk : ∀ b o, NW ((w.alloc (.cells #[.int .i64 0, .string ⟨#[]⟩, .int .i64 0, .int .i64 0, .string ⟨#[]⟩, .slice none 0 0] 39)).alloc (.cells #[.int .i64 0, .int .i64 0] 30)) w1 b → W9.cell? ⟨b, o, none⟩ = w1.cell? ⟨b, o, none⟩ := fun b o hb => by
          have h1 := hb.1
          simp at h1
          exact (hK9 b o (by omega)).trans (KV1.out b o (by omega))
        have hq : ∀ b, NW ((w.alloc (.cells #[.int .i64 0, .string ⟨#[]⟩, .int .i64 0, .int .i64 0, .string ⟨#[]⟩, .slice none 0 0] 39)).alloc (.cells #[.int .i64 0, .int .i64 0] 30)) w1 b → NW w W9 b := fun b hb => ⟨by have h1 := hb.1; simp at h1; omega, by rw [hS9, SV1.out]; exact hb.2⟩
        exact ⟨⟨d, ao, cap, rfl, G1.out.bd, G1.out.ka.keep hk hq⟩, hB9⟩
    · go_simp
      refine hK _ _ ?_
      clear hK K
      refine take_oneE 0 (AllReady.cons rfl (fun K hK => ?_) AllReady.nil) (by kernel_rfl)
      go_simp
      refine hK _ _ ?_
      clear hK K
      refine take_oneE 2 (AllReady.cons rfl (fun K hK => ?_) AllReady.nil) (by kernel_rfl)
      go_simp
      refine hK _ _ ?_
      clear hK K
      refine take_oneE 3 (AllReady.cons rfl (fun K hK => ?_) AllReady.nil) (by kernel_rfl)
      go_simp
      refine hK _ _ ?_
      clear hK K
      refine wpAny_done (by kernel_rfl) ?_ _
      go_wp2_with fail
      change bodyPost _ _ _ _ _ ((st2X (st6 V w.heap.size 0 (.int .i64 x.kind) (.string x.name) (.int .i64 x.so) (.int .i64 x.n) (.string x.s) (.slice ao x.kids.length cap)) (w.heap.size + 1) (0) (0)).drew)
      have E9 := E8.out
      change ExAt ((st2X (st6 V w.heap.size 0 (.int .i64 x.kind) (.string x.name) (.int .i64 x.so) (.int .i64 x.n) (.string x.s) (.slice ao x.kids.length cap)) (w.heap.size + 1) (0) (0)).drew) _ _ _ _ _ ∧ FBX ((st2X (st6 V w.heap.size 0 (.int .i64 x.kind) (.string x.name) (.int .i64 x.so) (.int .i64 x.n) (.string x.s) (.slice ao x.kids.length cap)) (w.heap.size + 1) (0) (0)).drew) _ _ _ ∧ Below _ _ ((st2X (st6 V w.heap.size 0 (.int .i64 x.kind) (.string x.name) (.int .i64 x.so) (.int .i64 x.n) (.string x.s) (.slice ao x.kids.length cap)) (w.heap.size + 1) (0) (0)).drew) ∧ (∀ b o, _ → ((st2X (st6 V w.heap.size 0 (.int .i64 x.kind) (.string x.name) (.int .i64 x.so) (.int .i64 x.n) (.string x.s) (.slice ao x.kids.length cap)) (w.heap.size + 1) (0) (0)).drew).cell? _ = _) ∧ ((st2X (st6 V w.heap.size 0 (.int .i64 x.kind) (.string x.name) (.int .i64 x.so) (.int .i64 x.n) (.string x.s) (.slice ao x.kids.length cap)) (w.heap.size + 1) (0) (0)).drew).heap.size = _ at E9
      generalize (st2X (st6 V w.heap.size 0 (.int .i64 x.kind) (.string x.name) (.int .i64 x.so) (.int .i64 x.n) (.string x.s) (.slice ao x.kids.length cap)) (w.heap.size + 1) (0) (0)).drew = W9 at E9 ⊢
      obtain ⟨⟨r0, r1, r2, r3, r4, r5⟩, ⟨_, s0, s1, _, _⟩, hB9, hK9, hS9⟩ := E9
      simp only [Nat.zero_add] at r0 r1 r2 r3 r4 r5
      refine bodyPost_ret (v := .tuple #[.agg #[.int .i64 x.kind, .string x.name, .int .i64 x.so, .int .i64 x.n, .string x.s, .slice ao x.kids.length cap], .agg #[.int .i64 0, .int .i64 0]]) (by simp [results, Tryz.results11, go_sem, r0, r1, r2, r3, r4, r5, s0, s1]) rfl ?_
      have hk : ∀ b o, NW ((w.alloc (.cells #[.int .i64 0, .string ⟨#[]⟩, .int .i64 0, .int .i64 0, .string ⟨#[]⟩, .slice none 0 0] 39)).alloc (.cells #[.int .i64 0, .int .i64 0] 30)) w1 b → W9.cell? ⟨b, o, none⟩ = w1.cell? ⟨b, o, none⟩ := fun b o hb => by
        have h1 := hb.1
        simp at h1
        exact (hK9 b o (by omega)).trans (KV1.out b o (by omega))
      have hq : ∀ b, NW ((w.alloc (.cells #[.int .i64 0, .string ⟨#[]⟩, .int .i64 0, .int .i64 0, .string ⟨#[]⟩, .slice none 0 0] 39)).alloc (.cells #[.int .i64 0, .int .i64 0] 30)) w1 b → NW w W9 b := fun b hb => ⟨by have h1 := hb.1; simp at h1; omega, by rw [hS9, SV1.out]; exact hb.2⟩
      exact ⟨⟨d, ao, cap, rfl, G1.out.bd, G1.out.ka.keep hk hq⟩, hB9⟩
end Go.Proofs.YtipolobikigmbaaGreatDoor
