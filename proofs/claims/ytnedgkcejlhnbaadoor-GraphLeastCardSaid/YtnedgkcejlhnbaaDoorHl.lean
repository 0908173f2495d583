/-
  What lies in memory between two nodes that graph.least makes.
-/
import Derived.Test.YtnedgkcejlhnbaaDoorHk
namespace Go.Proofs.YtnedgkcejlhnbaaDoor
open Go.RowKit Go.Shelf

structure LSt (w : World) (g : List Nd) (B2 cb nb rb fb n : Nat) (ac : Option Addr) (c R : List Nat) (u uo : Value) (m : Nat) (ts : List TkN) (W : World) : Prop where
  rc : RC W B2 cb nb rb fb n ac c R u
  ri : RInv g c R m
  le : m ≤ R.length
  out : W.ownsRow B2 29 4 uo m (ndCs ts)
  map : ts.map (·.1) = (R.take m).map (mkN g c R)
  tks : TKS W (fun b => B2 ≤ b ∧ b < W.heap.size ∧ u.ownBlock ≠ some b ∧ uo.ownBlock ≠ some b) ts
  d1 : apt uo.ownBlock u.ownBlock
  bl : Below w.heap.size w W
  b0 : w.heap.size ≤ cb
  cp : ∀ t ∈ ts, t.1.to.length ≤ t.2.2.2
theorem LSt.make {w : World} {g : List Nd} {B2 cb nb rb fb n : Nat} {ac : Option Addr} {c R : List Nat} {u uo : Value} {m : Nat} {ts : List TkN} {W W3 : World} (h : LSt w g B2 cb nb rb fb n ac c R u uo m ts W) (hb : Below W.heap.size W W3) {mb : Nat} (hm : W.heap.size ≤ mb ∧ mb < W3.heap.size) {kd so : Int} {ls : List ByteArray} {la : Option Addr} {lc : Nat}
    (m0 : W3.cell? ⟨mb, 0, none⟩ = some (.int .i64 kd)) (m1 : W3.cell? ⟨mb, 1, none⟩ = some (.int .i64 so)) (m2 : W3.cell? ⟨mb, 2, none⟩ = some (.slice la ls.length lc)) (m3 : W3.cell? ⟨mb, 3, none⟩ = some (.slice none 0 0)) (mf : ∀ o, W3.frozen? ⟨mb, o, none⟩ = false)
    (hl : NP W3 (fun b => W.heap.size ≤ b ∧ b < W3.heap.size ∧ b ≠ mb) (ls.map Value.string) la) : IS w B2 cb nb rb fb n ac c R u uo m ts mb kd so ls la lc (.slice none 0 0) [] W3 := by
  have o5 := h.rc.o5
  have hs := hb.size
  have hbu : ∀ b, W.heap.size ≤ b → u.ownBlock ≠ some b := fun b h1 e => by have := (h.rc.own.lt b e).2; omega
  have hbo : ∀ b, W.heap.size ≤ b → uo.ownBlock ≠ some b := fun b h1 e => by have := (h.out.lt b e).2; omega
  refine ⟨h.rc.kept (below_grown hb none) (fun k hk => by cases hk) (fun k _ e => by cases e), own_belowG h.out hb, h.tks.keep (fun b o hq => hb.cell (p := ⟨b, o, none⟩) hq.2.1) (fun b hq => ⟨hq.1, by omega, hq.2.2.1, hq.2.2.2, by simp [Value.ownBlock], by omega⟩), hl.keep (fun _ _ _ => rfl) (fun b hq => ⟨by omega, hq.2.1, hbu b hq.1, hbo b hq.1, by simp [Value.ownBlock], hq.2.2⟩), m0, m1, m2, m3, mf, ⟨by omega, hm.2⟩, ⟨hbu mb hm.1, hbo mb hm.1, by simp [Value.ownBlock]⟩, World.ownsRow_nil _ _ _ _, h.d1, fun k hk => by simp [Value.ownBlock] at hk, fun k hk => by simp [Value.ownBlock] at hk, h.bl.trans (hb.mono h.bl.size), h.b0⟩
theorem IS.done {w : World} {g : List Nd} {B2 cb nb rb fb n : Nat} {ac : Option Addr} {c R : List Nat} {u u' uo uo' : Value} {m : Nat} {ts : List TkN} {mb lc : Nat} {la ta : Option Addr} {tc : Nat} {W0 W W4 : World} {ob : Obj} (h0 : LSt w g B2 cb nb rb fb n ac c R u uo m ts W0) (hs : shutG g) (hm : m < R.length)
    (h : IS w B2 cb nb rb fb n ac c ((nodeAt g R[m]).to.foldl (addR c) R) u' uo m ts mb (nodeAt g R[m]).kind (nodeAt g R[m]).so (nodeAt g R[m]).labs la lc (.slice ta (nodeAt g R[m]).to.length tc) ((nodeAt g R[m]).to.map (idxR c ((nodeAt g R[m]).to.foldl (addR c) R))) W)
    (hg : (W.alloc ob).grownBy W4 uo.ownBlock) (hO : W4.ownsRow B2 29 4 uo' (m + 1) (ndCs ts ++ nC (mkN g c ((nodeAt g R[m]).to.foldl (addR c) R) R[m], (la, lc), (ta, tc)))) (hn : uo'.ownBlock = uo.ownBlock ∨ uo'.ownBlock = some (W.alloc ob).heap.size) :
    LSt w g B2 cb nb rb fb n ac c ((nodeAt g R[m]).to.foldl (addR c) R) u' uo' (m + 1) (ts ++ [(mkN g c ((nodeAt g R[m]).to.foldl (addR c) R) R[m], (la, lc), (ta, tc))]) W4 := by
  obtain ⟨e, he⟩ := fold_pre c (nodeAt g R[m]).to R
  have hri := h0.ri.next hs hm
  generalize hR' : (nodeAt g R[m]).to.foldl (addR c) R = R' at *
  have hgW : W.grownBy W4 uo.ownBlock := (World.grownBy_alloc W ob _).trans hg
  have hn' : uo'.ownBlock = uo.ownBlock ∨ ∀ k, uo'.ownBlock = some k → W.heap.size ≤ k := hn.imp id fun e k hk => by rw [e] at hk; injection hk with hk; simp at hk; omega
  have hss := hgW.size
  have b0 := h.b0
  have o1 := h.rc.o1
  have o2 := h.rc.o2
  have o3 := h.rc.o3
  have o4 := h.rc.o4
  have hcell : ∀ b o, b < W.heap.size → uo.ownBlock ≠ some b → W4.cell? ⟨b, o, none⟩ = W.cell? ⟨b, o, none⟩ := fun b o h2 h3 => World.cell?_of_block (a := ⟨b, o, none⟩) (hgW.block b h2 (fun e => h3 e.symm))
  have hq : ∀ b, (B2 ≤ b ∧ b < W.heap.size ∧ u'.ownBlock ≠ some b ∧ uo.ownBlock ≠ some b) → (B2 ≤ b ∧ b < W4.heap.size ∧ u'.ownBlock ≠ some b ∧ uo'.ownBlock ≠ some b) := fun b hb => ⟨hb.1, by omega, hb.2.2.1, fresh_ne hn' hb.2.1 hb.2.2.2⟩
  have hmR : m < R'.length := by rw [he]; simp; omega
  have hRm : R'[m] = R[m] := by rw [List.getElem_of_eq he, List.getElem_append_left hm]
  refine ⟨h.rc.kept hgW (fun k hk => (h.out.lt k hk).1) h.d1.symm, hri, hmR, by rw [ndCs_snoc]; exact hO, ?_, ?_, (fresh_apt hn' (fun k hk => (h.rc.own.lt k hk).2) h.d1.symm).symm, h.bl.grown hgW h.bl.size (fun k hk => by have := (h.out.lt k hk).1; omega), h.b0, ?_⟩
  · rw [List.map_append, h0.map, List.take_succ_eq_append_getElem hmR, List.map_append, hRm]
    congr 1
    have ht : R'.take m = R.take m := by rw [he, List.take_append_of_le_length (by omega)]
    rw [ht, he]
    refine List.map_congr_left fun i hi => (mk_more g c R e i ?_).symm
    obtain ⟨k, hk, rfl⟩ := List.mem_iff_getElem.1 hi
    have hk' : k < m := by rw [List.length_take] at hk; omega
    rw [List.getElem_take]
    exact h0.ri.sh k (by omega) hk'
  · intro t ht
    rcases List.mem_append.1 ht with ht | ht
    · have := h.tks t ht
      have hk : ∀ {vs : List Value} {a : Option Addr}, NP W (fun b => B2 ≤ b ∧ b < W.heap.size ∧ u'.ownBlock ≠ some b ∧ uo.ownBlock ≠ some b ∧ (Value.slice ta (nodeAt g R[m]).to.length tc).ownBlock ≠ some b ∧ b ≠ mb) vs a → NP W4 (fun b => B2 ≤ b ∧ b < W4.heap.size ∧ u'.ownBlock ≠ some b ∧ uo'.ownBlock ≠ some b) vs a := fun hx => hx.keep (fun b o hb => hcell b o hb.2.1 hb.2.2.2.1) (fun b hb => hq b ⟨hb.1, hb.2.1, hb.2.2.1, hb.2.2.2.1⟩)
      exact ⟨hk this.1, hk this.2⟩
    · rw [List.mem_singleton] at ht
      subst ht
      refine ⟨h.lab.keep (fun b o hb => hcell b o hb.2.1 hb.2.2.2.1) (fun b hb => hq b ⟨hb.1, hb.2.1, hb.2.2.1, hb.2.2.2.1⟩), ?_⟩
      rcases own_cells h.row with ⟨_, _, e2⟩ | ⟨gg, cp, e1, hb1, hg1, hc1⟩
      · exact .inl e2
      · injection e1 with e1 _ _
        refine .inr ⟨gg, 0, e1, hq gg ⟨hb1, hg1, fun e3 => h.d2 gg (by rw [e1]; rfl) e3, fun e3 => h.d3 gg (by rw [e1]; rfl) e3⟩, fun i hi => ?_⟩
        rw [Nat.zero_add, hcell gg i hg1 (fun e3 => h.d3 gg (by rw [e1]; rfl) e3)]
        exact hc1 i _ (List.getElem?_eq_getElem hi)
  · intro t ht
    rcases List.mem_append.1 ht with ht | ht
    · exact h0.cp t ht
    · rw [List.mem_singleton] at ht
      subst ht
      have hw := h.row
      rw [List.length_map] at hw
      have := own_capK hw
      unfold mkN
      rw [List.length_map]
      exact this
theorem lst_step {g : List Nd} {c R : List Nat} {m : Nat} (hm : m < R.length) (hg : m < g.length) {X : List Nat} (h : lstR g c (g.length - m) m R = X) : lstR g c (g.length - (m + 1)) (m + 1) ((nodeAt g R[m]).to.foldl (addR c) R) = X := by
  rw [show g.length - m = (g.length - (m + 1)) + 1 by omega] at h
  unfold lstR at h
  rw [List.getElem?_eq_getElem hm] at h
  exact h
theorem lst_stop {g : List Nd} {c R : List Nat} {m : Nat} (hm : R.length ≤ m) {X : List Nat} (h : lstR g c (g.length - m) m R = X) : R = X := by
  cases hq : g.length - m with
  | zero => rw [hq] at h; exact h
  | succ f =>
    rw [hq] at h
    unfold lstR at h
    rw [List.getElem?_eq_none hm] at h
    exact h
end Go.Proofs.YtnedgkcejlhnbaaDoor
