/-
  The contract of exprs.rebuilt with a change that keeps the rules, for every right expression.
-/
import Derived.Test.YtclbillfffpknaaGreatDoorYd
namespace Go.Proofs.YtclbillfffpknaaGreatDoor
open Go.RowKit Go.Shelf
variable (Tabs : World → Prop)
/-- the part with its Kids changed -/
def ptF (x : Ex) : Ex := ⟨x.kind, x.name, x.so, x.n, x.s, x.kids.map foldX⟩
theorem fold_pt (x : Ex) : foldX x = foldN (ptF x) := foldX_eq x
theorem op_small (l : List UInt8) (k : Nat) (h : isOp l k = true) : l.length ≤ 3 := by
  unfold isOp at h
  split at h
  · rename_i h1
    simp only [decide_eq_true_eq] at h
    rcases h with h | h | h <;> rw [h] <;> simp
  · split at h
    · simp only [decide_eq_true_eq] at h
      rcases lvl_pos l h with h | h | h | h | h | h | h | h | h | h | h <;> rw [h] <;> simp
    · cases h
theorem wf_small (x : Ex) (h : wfX x) : x.name.size ≤ 281474976710656 ∧ x.s.size ≤ 281474976710656 := by
  have hsz : ∀ s : ByteArray, s.size = s.data.toList.length := fun s => by simp
  have h0 : (⟨#[]⟩ : ByteArray).size = 0 := rfl
  obtain ⟨hp, hv, _⟩ := (wfX_eq x).1 h
  unfold partOK at hp
  split at hp
  · rename_i h1
    simp only [decide_eq_true_eq] at hp
    have := chk_size _ _ _ (hv h1)
    rw [hp.1, h0]
    omega
  · split at hp
    · simp only [Bool.and_eq_true, decide_eq_true_eq] at hp
      have : x.name.data.toList.length ≤ 8 := by
        have h1 := hp.1
        unfold isNm at h1
        split at h1
        · cases h1
        · simp only [Bool.and_eq_true, decide_eq_true_eq] at h1; exact h1.1.2
      rw [hsz x.name, hp.2.2.2.1, h0]
      omega
    · split at hp
      · simp only [Bool.and_eq_true, decide_eq_true_eq] at hp
        have := op_small _ _ hp.2
        rw [hsz x.name, hp.1.2.2, h0]
        omega
      · cases hp
theorem ro_ka (W : World) (p d : Nat) (ks : List Ex) (am : Option Addr) (hm : MK W p ks.length am) (h : RO foldX W (d - 1) ks ks.length am) (hd : ks = [] ∨ 0 < d) : KR W (fun b => p < b ∧ b < W.heap.size) d (ks.map foldX) am := by
  by_cases hk : ks = []
  · subst hk; exact KR.of_nil rfl
  · have hd' : 0 < d := hd.resolve_left hk
    obtain ⟨d', rfl⟩ : ∃ d', d = d' + 1 := ⟨d - 1, by omega⟩
    rcases hm with ⟨h0, _⟩ | ⟨m, rfl, h1, h2, _⟩
    · exact absurd (List.length_eq_zero_iff.1 h0) hk
    · refine .inr ⟨m, 0, rfl, ⟨h1, h2⟩, fun i hi => ?_⟩
      have hi' : i < ks.length := by simpa using hi
      obtain ⟨m', ao, cap, e, x1, x2, x3⟩ := h i hi' hi'
      injection e with e; injection e with e
      subst e
      rw [List.getElem_map, Nat.zero_add]
      exact ⟨ao, cap, x1, x2, x3.keep (fun _ _ _ => rfl) (fun b hb => ⟨by omega, hb.2⟩)⟩

theorem RB.set5 {w W : World} {x : Ex} {ao : Option Addr} {cap p : Nat} {y5 : Value} (h : RB w x ao cap p y5 W) (v : Value) : RB w x ao cap p v (W.setCell ⟨p, 5, none⟩ v) := by
  have hg := h.pg
  have hc : ∀ b o, (b ≠ p ∨ o ≠ 5) → (W.setCell ⟨p, 5, none⟩ v).cell? ⟨b, o, none⟩ = W.cell? ⟨b, o, none⟩ := by
    intro b o hb
    refine World.cell?_setCell_other _ _ _ _ ?_
    intro e
    simp only [Addr.mk.injEq] at e
    omega
  obtain ⟨ul, u0, u1, u2, u3, u4, u5, uf⟩ := h.z
  exact ⟨(hc _ _ (.inl (by omega))).trans h.k5, ⟨by simpa using ul, (hc _ _ (.inl (by omega))).trans u0, (hc _ _ (.inl (by omega))).trans u1, (hc _ _ (.inl (by omega))).trans u2, (hc _ _ (.inl (by omega))).trans u3, (hc _ _ (.inl (by omega))).trans u4, (hc _ _ (.inl (by omega))).trans u5, fun o => by rw [World.frozen?_setCell]; exact uf o⟩, (hc _ _ (.inr (by omega))).trans h.p0, (hc _ _ (.inr (by omega))).trans h.p1, (hc _ _ (.inr (by omega))).trans h.p2, (hc _ _ (.inr (by omega))).trans h.p3, (hc _ _ (.inr (by omega))).trans h.p4, World.cell?_setCell_same _ _ _ h.p5, by rw [World.frozen?_setCell]; exact h.pf, by simpa using h.pl, hg, h.bl.setCell (p := ⟨p, 5, none⟩) (show w.heap.size ≤ p by omega) v⟩
theorem made_kids {w W : World} {x : Ex} {ao : Option Addr} {cap p : Nat} {y5 : Value} (h : RB w x ao cap p y5 W) (n : Nat) (Z : Array Value) (hZ : Z.size = n * 6) : ∃ am, RB w x ao cap p (.slice am n n) ((W.setCell ⟨p, 5, none⟩ (.slice (some ⟨W.heap.size, 0, none⟩) n n)).alloc (.cells Z 26)) ∧ MK ((W.setCell ⟨p, 5, none⟩ (.slice (some ⟨W.heap.size, 0, none⟩) n n)).alloc (.cells Z 26)) p n am := by
  refine ⟨some ⟨W.heap.size, 0, none⟩, (h.set5 _).keep ((Below.refl _ _).alloc (Nat.le_refl _) _), ?_⟩
  have := MK.new (W.setCell ⟨p, 5, none⟩ (.slice (some ⟨W.heap.size, 0, none⟩) n n)) Z p n hZ (by simpa using h.pl)
  simpa using this
/-- the round's end: the Kid is stored -/
theorem round_end {w W : World} {x : Ex} {ao : Option Addr} {cap p m k e : Nat} {ao' : Option Addr} {cap' : Nat} (hk : k < x.kids.length) (R : RB w x ao cap p (.slice (some ⟨m, 0, none⟩) x.kids.length x.kids.length) W) (M : MK W p x.kids.length (some ⟨m, 0, none⟩)) (O : RO foldX W e x.kids k (some ⟨m, 0, none⟩)) (E : ExBd (foldX x.kids[k]) cap') (K : KR W (fun b => m < b ∧ b < W.heap.size) e (foldX x.kids[k]).kids ao')
    (W' : World) (hW : W' = st6 W m (k * 6) (.int .i64 (foldX x.kids[k]).kind) (.string (foldX x.kids[k]).name) (.int .i64 (foldX x.kids[k]).so) (.int .i64 (foldX x.kids[k]).n) (.string (foldX x.kids[k]).s) (.slice ao' (foldX x.kids[k]).kids.length cap')) :
    RB w x ao cap p (.slice (some ⟨m, 0, none⟩) x.kids.length x.kids.length) W' ∧ MK W' p x.kids.length (some ⟨m, 0, none⟩) ∧ RO foldX W' e x.kids (k + 1) (some ⟨m, 0, none⟩) := by
  have hc : ∀ b o, (b ≠ m ∨ o < k * 6 ∨ k * 6 + 6 ≤ o) → W'.cell? ⟨b, o, none⟩ = W.cell? ⟨b, o, none⟩ := by intro b o hb; rw [hW]; exact st6_other _ _ _ _ _ _ _ _ _ _ _ hb
  have hf : ∀ q, W'.frozen? q = W.frozen? q := by intro q; rw [hW]; exact st6_frozen _ _ _ _ _ _ _ _ _ _
  have hsz : W'.heap.size = W.heap.size := by rw [hW]; exact st6_size _ _ _ _ _ _ _ _ _
  rcases M with ⟨_, h⟩ | ⟨m', h, h1, h2, h3⟩
  · cases h
  · injection h with h; injection h with h; subst h
    have hx : ExAt W' m (k * 6) (foldX x.kids[k]) ao' cap' := by
      rw [hW]; exact st6_at W m (k * 6) _ ao' cap' (fun j hj => (h3 _ (by omega)).1)
    have hg := R.pg
    have hbl : Below w.heap.size w W' := by rw [hW]; exact st6_below _ _ _ _ _ _ _ _ _ _ _ R.bl (by omega)
    obtain ⟨ul, u0, u1, u2, u3, u4, u5, uf⟩ := R.z
    refine ⟨⟨(hc _ _ (.inl (by omega))).trans R.k5, ⟨by omega, (hc _ _ (.inl (by omega))).trans u0, (hc _ _ (.inl (by omega))).trans u1, (hc _ _ (.inl (by omega))).trans u2, (hc _ _ (.inl (by omega))).trans u3, (hc _ _ (.inl (by omega))).trans u4, (hc _ _ (.inl (by omega))).trans u5, fun o => (hf _).trans (uf o)⟩, (hc _ _ (.inl (by omega))).trans R.p0, (hc _ _ (.inl (by omega))).trans R.p1, (hc _ _ (.inl (by omega))).trans R.p2, (hc _ _ (.inl (by omega))).trans R.p3, (hc _ _ (.inl (by omega))).trans R.p4, (hc _ _ (.inl (by omega))).trans R.p5, (hf _).trans R.pf, by have := R.pl; omega, hg, hbl⟩, .inr ⟨m, rfl, h1, by omega, fun j hj => ⟨?_, (hf _).trans (h3 j hj).2⟩⟩, ?_⟩
    · by_cases hj2 : j < k * 6 ∨ k * 6 + 6 ≤ j
      · obtain ⟨v, hv⟩ := (h3 j hj).1
        exact ⟨v, (hc _ _ (.inr hj2)).trans hv⟩
      · have : j = k * 6 ∨ j = k * 6 + 1 ∨ j = k * 6 + 2 ∨ j = k * 6 + 3 ∨ j = k * 6 + 4 ∨ j = k * 6 + 5 := by omega
        rcases this with rfl | rfl | rfl | rfl | rfl | rfl
        · exact ⟨_, hx.c0⟩
        · exact ⟨_, hx.c1⟩
        · exact ⟨_, hx.c2⟩
        · exact ⟨_, hx.c3⟩
        · exact ⟨_, hx.c4⟩
        · exact ⟨_, hx.c5⟩
    · intro i hi hik
      have hkr : ∀ {ks : List Ex} {ao : Option Addr}, KR W (fun b => m < b ∧ b < W.heap.size) e ks ao → KR W' (fun b => m < b ∧ b < W'.heap.size) e ks ao := fun h => h.keep (fun b o hb => hc b o (.inl (by omega))) (fun b hb => ⟨hb.1, by omega⟩)
      by_cases hl : i < k
      · obtain ⟨m', a, c, g1, g2, g3, g4⟩ := O i hi hl
        injection g1 with g1; injection g1 with g1; subst g1
        exact ⟨m, a, c, rfl, ⟨(hc _ _ (.inr (by omega))).trans g2.c0, (hc _ _ (.inr (by omega))).trans g2.c1, (hc _ _ (.inr (by omega))).trans g2.c2, (hc _ _ (.inr (by omega))).trans g2.c3, (hc _ _ (.inr (by omega))).trans g2.c4, (hc _ _ (.inr (by omega))).trans g2.c5⟩, g3, hkr g4⟩
      · have : i = k := by omega
        subst this
        exact ⟨m, ao', cap', rfl, hx, E, hkr K⟩

theorem kr_end (w wr w2 : World) (d p : Nat) (x : Ex) (am ao2 : Option Addr) (hp : w.heap.size + 2 ≤ p) {W' : World} (hs : W'.heap.size = w2.heap.size) (hc : ∀ b o, b ≠ w.heap.size + 1 → W'.cell? ⟨b, o, none⟩ = w2.cell? ⟨b, o, none⟩) (h : KR wr (fun b => p < b ∧ b < wr.heap.size) d (x.kids.map foldX) am) (hb : Below wr.heap.size wr w2)
    (h2 : (foldX x).kids = [] ∨ foldX x = ⟨x.kind, x.name, x.so, x.n, x.s, x.kids.map foldX⟩ ∧ ao2 = am) : KR W' (fun b => w.heap.size ≤ b ∧ b < W'.heap.size) d (foldX x).kids ao2 := by
  rcases h2 with h2 | ⟨h2, rfl⟩
  · exact KR.of_nil h2
  · rw [h2]
    have := hb.size
    exact h.keep (fun b o hq => (hc b o (by omega)).trans (hb.cell (p := ⟨b, o, none⟩) hq.2)) (fun b hq => ⟨by omega, by omega⟩)
end Go.Proofs.YtclbillfffpknaaGreatDoor
