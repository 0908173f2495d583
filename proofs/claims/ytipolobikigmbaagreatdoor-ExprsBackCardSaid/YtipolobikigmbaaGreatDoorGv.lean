/-
  The contract of pieces.Read as exprs.Parse calls it, for every text.
-/
import Derived.Test.YtipolobikigmbaaGreatDoorGu
import Derived.Test.YtipolobikigmbaaGreatDoorKwg
namespace Go.Proofs.YtipolobikigmbaaGreatDoor
open Go.RowKit Go.Shelf
/-- the block of the fault that is told -/
structure FBX (W : World) (b : Nat) (c a : Int) : Prop where
  lt : b < W.heap.size
  c0 : W.cell? ⟨b, 0, none⟩ = some (.int .i64 c)
  c1 : W.cell? ⟨b, 1, none⟩ = some (.int .i64 a)
  f0 : W.frozen? ⟨b, 0, none⟩ = false
  f1 : W.frozen? ⟨b, 1, none⟩ = false
theorem FBX.keep {W W' : World} {pb b : Nat} {c a : Int} (h : FBX W b c a) (hf : FR pb W W') (hn : b ≠ pb) : FBX W' b c a :=
  ⟨Nat.lt_of_lt_of_le h.lt hf.size, (hf.cellO h.lt hn).trans h.c0, (hf.cellO h.lt hn).trans h.c1, (hf.frozenO h.lt hn).trans h.f0, (hf.frozenO h.lt hn).trans h.f1⟩
theorem al_fbX (w : World) : FBX (w.alloc (.cells #[.int .i64 0, .int .i64 0] 30)) w.heap.size 0 0 := ⟨by simp, by go_cell, by go_cell, by go_simp, by go_simp⟩
/-- the fault's two cells, stored one after the other -/
def st2X (W : World) (b : Nat) (c a : Int) : World := (W.setCell ⟨b, 0, none⟩ (.int .i64 c)).setCell ⟨b, 1, none⟩ (.int .i64 a)
theorem st2X_other (W : World) (b : Nat) (c a : Int) (b' o : Nat) (h : b' ≠ b) : (st2X W b c a).cell? ⟨b', o, none⟩ = W.cell? ⟨b', o, none⟩ := by
  unfold st2X
  rw [World.cell?_setCell_other _ _ _ _ (by intro e; simp only [Addr.mk.injEq] at e; omega), World.cell?_setCell_other _ _ _ _ (by intro e; simp only [Addr.mk.injEq] at e; omega)]
theorem st2X_frozen (W : World) (b : Nat) (c a : Int) (p : Addr) : (st2X W b c a).frozen? p = W.frozen? p := by unfold st2X; simp only [World.frozen?_setCell]
theorem st2X_size (W : World) (b : Nat) (c a : Int) : (st2X W b c a).heap.size = W.heap.size := by unfold st2X; simp
theorem st2X_at {W : World} {b : Nat} {c0 a0 : Int} (h : FBX W b c0 a0) (c a : Int) : FBX (st2X W b c a) b c a := by
  obtain ⟨hl, h0, h1, f0, f1⟩ := h
  exact ⟨by rw [st2X_size]; exact hl, by unfold st2X; go_cell, by unfold st2X; go_cell, by rw [st2X_frozen]; exact f0, by rw [st2X_frozen]; exact f1⟩
theorem FR.st2X {tb b : Nat} {w W : World} (h : FR tb w W) (hb : w.heap.size ≤ b) (c a : Int) : FR tb w (st2X W b c a) := by
  unfold Go.Proofs.YtipolobikigmbaaGreatDoor.st2X
  exact (h.setN hb _).setN hb _
theorem ZE.st2X {W : World} {tb b : Nat} (h : ZE W tb) (hn : tb ≠ b) (c a : Int) : ZE (st2X W b c a) tb :=
  ⟨by rw [st2X_size]; exact h.lt, (st2X_other _ _ _ _ _ _ hn).trans h.c0, (st2X_other _ _ _ _ _ _ hn).trans h.c1, (st2X_other _ _ _ _ _ _ hn).trans h.c2, (st2X_other _ _ _ _ _ _ hn).trans h.c3, (st2X_other _ _ _ _ _ _ hn).trans h.c4, (st2X_other _ _ _ _ _ _ hn).trans h.c5, fun o => by rw [st2X_frozen]; exact h.f o⟩
theorem InXb.st2X {w w1 W : World} {tb b : Nat} {x : Ex} (h : InXb w1 tb x W) (hw : w.heap.size ≤ w1.heap.size) (hb : b < w1.heap.size) (hn : tb ≠ b) (c a : Int) : InXb w tb x (st2X W b c a) := by
  obtain ⟨d, ao, cap, h1, h2, h3⟩ := h
  have hk : ∀ b' o, NW w1 W b' → (Go.Proofs.YtipolobikigmbaaGreatDoor.st2X W b c a).cell? ⟨b', o, none⟩ = W.cell? ⟨b', o, none⟩ := fun b' o hb' => st2X_other _ _ _ _ _ _ (by have := hb'.1; omega)
  have hq : ∀ b', NW w1 W b' → NW w (Go.Proofs.YtipolobikigmbaaGreatDoor.st2X W b c a) b' := fun b' hb' => ⟨Nat.le_trans hw hb'.1, by rw [st2X_size]; exact hb'.2⟩
  exact ⟨d, ao, cap, ⟨(st2X_other _ _ _ _ _ _ hn).trans h1.c0, (st2X_other _ _ _ _ _ _ hn).trans h1.c1, (st2X_other _ _ _ _ _ _ hn).trans h1.c2, (st2X_other _ _ _ _ _ _ hn).trans h1.c3, (st2X_other _ _ _ _ _ _ hn).trans h1.c4, (st2X_other _ _ _ _ _ _ hn).trans h1.c5⟩, ⟨h2.bd, h2.ka.keep hk hq⟩, fun o => by rw [st2X_frozen]; exact h3 o⟩
theorem rsX_all (s : ByteArray) : (rs s 0).drop 0 = s.data.toList := rfl
theorem InXb.old {w w1 W : World} {tb : Nat} {x : Ex} (h : InXb w1 tb x W) (hw : w.heap.size ≤ w1.heap.size) : InXb w tb x W := by
  obtain ⟨d, ao, cap, h1, h2, h3⟩ := h
  exact ⟨d, ao, cap, h1, h2.old hw, h3⟩
/-- what Read leaves: the expression in its block, or the fault -/
def XPost (w : World) (tb : Nat) (x : Except (Int × Nat) Ex) (e : Ending) (w' : World) : Prop :=
  match x with
  | .ok x => e = .returned (.agg #[.int .i64 0, .int .i64 0]) ∧ InXb w tb x w' ∧ FR tb w w'
  | .error (c, a) => e = .returned (.agg #[.int .i64 c, .int .i64 (a : Int)]) ∧ FR tb w w' ∧ ZE w' tb
theorem readX_any {Tabs : World → Prop} {B0 : Nat} (H : TK Tabs B0) (tb : Nat) (s : ByteArray) (w : World) (hT : Tabs w) (hz : ZE w tb) : Calls Tryz.prog 22 #[.string s, .string ⟨#[32]⟩, .int .i64 0, .func (.func 31) #[] #[.pointer (some ⟨tb, 0, none⟩)]] w fun e w' => XPost w tb (psX s.data.toList) e w' := by
  have hsz : s.data.toList.length = s.size := by simp
  have hcf : ∀ args W, (callFunc 31 args).run Tryz.prog W = .ok (.enter 31 args) W := fun _ _ => by kernel_rfl
  have hzl := hz.lt
  have hb0 := H.b0 w hT
  have hTT : ∀ k, k = tb → k < w.heap.size := fun k e => by omega
  have hrs : skB (rs s 0) = skB s.data.toList := rfl
  unfold psX
  by_cases h2 : 2000 < s.size
  · rw [if_pos (by rw [hsz]; exact h2)]
    exact (readG_large 31 (.pointer (some ⟨tb, 0, none⟩)) s 0 w (fun _ => False) h2).mono fun e w' ⟨h1, h3⟩ => ⟨h1, h3.to (fun _ t => t.elim), hz.keepF (rb := w'.heap.size) (h3.to (fun _ t => t.elim)) (by have := h3.size; omega)⟩
  · rw [if_neg (by rw [hsz]; exact h2)]
    simp only [hsz]
    have BAD : ∀ (c : Int) (z : Int), (∀ q w0 w1, w.heap.size + 5 < w0.heap.size → Below w.heap.size w w0 → Below w0.heap.size w0 w1 → RS w1 w0.heap.size s q → rs s q = skB s.data.toList → Calls Tryz.prog 31 #[.pointer (some ⟨w0.heap.size, 0, none⟩), .pointer (some ⟨tb, 0, none⟩)] w1 fun e w2 => e = .panicked (faultE c z) ∧ FR tb w0 w2 ∧ ZE w2 tb) →
        Calls Tryz.prog 22 #[.string s, .string ⟨#[32]⟩, .int .i64 0, .func (.func 31) #[] #[.pointer (some ⟨tb, 0, none⟩)]] w fun e w' => e = .returned (.agg #[.int .i64 c, .int .i64 z]) ∧ FR tb w w' ∧ ZE w' tb := fun c z h =>
      (readG_bad 31 (.pointer (some ⟨tb, 0, none⟩)) c z s 0 0 0 w (fun k => k = tb) (fun W => ZE W tb) hTT (fun W b c z hb _ hW => ZE.st2X hW (by omega) c z) rfl (by omega) (by omega) hcf
        (fun q w0 w1 h1 h2 h3 h4 h5 => (h q w0 w1 h1 h2 h3 h4 (h5.trans hrs)).mono fun e w2 ⟨a1, a2, a3⟩ => ⟨a1, FX.fr a2 rfl, a3⟩)).mono fun e w' ⟨a1, a2, a3⟩ => ⟨a1, a2.to (fun _ t => t), a3⟩
    cases hX : rdX rdZ (2 * s.size + 3) (some 1) (skB s.data.toList) with
    | error y =>
      obtain ⟨c, r⟩ := y
      exact BAD c _ (fun q w0 w1 h1 h2 h3 h4 h5 => parseX1_bad H w0.heap.size tb q s w0 w1 (H.k _ _ hT (h2.trans (h3.mono (by omega)))) (by omega) h4 (hz.keepF (rb := w0.heap.size) (FR.of (h2.trans (h3.mono (by omega)))) (by omega)) (by omega) (FR.of h3) (Nat.le_refl _) (N := 2 * s.size + 3) (by omega) (by rw [h5]; exact hX))
    | ok y =>
      obtain ⟨x, r⟩ := y
      simp only
      by_cases hr : r = []
      · subst hr
        rw [if_pos rfl]
        by_cases hc : chkX x = 0
        · rw [if_pos hc]
          exact (readG_ok 31 (.pointer (some ⟨tb, 0, none⟩)) s 0 0 0 w (fun k => k = tb) (fun W => ∃ u : World, w.heap.size + 6 ≤ u.heap.size ∧ InXb u tb x W) hTT (fun W b c z hb hb2 ⟨u, hu, hW⟩ => ⟨u, hu, InXb.st2X hW (Nat.le_refl _) (by omega) (by omega) c z⟩) rfl (by omega) (by omega) hcf
            (fun q w0 w1 h1 h2 h3 h4 h5 => (parseX1_good H w0.heap.size tb q s w0 w1 (H.k _ _ hT (h2.trans (h3.mono (by omega)))) (by omega) h4 (hz.keepF (rb := w0.heap.size) (FR.of (h2.trans (h3.mono (by omega)))) (by omega)) (by omega) (FR.of h3) (Nat.le_refl _) (N := 2 * s.size + 3) (by omega) (by rw [h5]; exact hX) hc).mono fun e w2 ⟨a1, a2, a3⟩ => ⟨a1, FX.fr a3 rfl, w1, by have := h3.size; omega, a2⟩)).mono fun e w' ⟨a1, a2, u, hu, a3⟩ => ⟨a1, a3.old (by omega), a2.to (fun _ t => t)⟩
        · rw [if_neg hc]
          exact BAD _ _ (fun q w0 w1 h1 h2 h3 h4 h5 => parseX1_wrong H w0.heap.size tb q s w0 w1 (H.k _ _ hT (h2.trans (h3.mono (by omega)))) (by omega) h4 (hz.keepF (rb := w0.heap.size) (FR.of (h2.trans (h3.mono (by omega)))) (by omega)) (by omega) (FR.of h3) (Nat.le_refl _) (N := 2 * s.size + 3) (by omega) (by rw [h5]; exact hX) hc)
      · rw [if_neg hr]
        exact BAD _ _ (fun q w0 w1 h1 h2 h3 h4 h5 => parseX1_more H w0.heap.size tb q s w0 w1 (H.k _ _ hT (h2.trans (h3.mono (by omega)))) (by omega) h4 (hz.keepF (rb := w0.heap.size) (FR.of (h2.trans (h3.mono (by omega)))) (by omega)) (by omega) (FR.of h3) (Nat.le_refl _) (N := 2 * s.size + 3) (by omega) (by rw [h5]; exact hX) hr)
end Go.Proofs.YtipolobikigmbaaGreatDoor
