/-
  Plain mathematics: two ends, one below the other, that are driven side by side (WADLER, FINDLER).
-/
import Derived.Test.YthhbbhijpkoelaaDoorQb
import Derived.Test.YthhbbhijpkoelaaDoorMl
import Derived.Test.YthhbbhijpkoelaaDoorIq
namespace Go.Proofs.YthhbbhijpkoelaaDoor

/-- what stands outermost is what its node does -/
theorem head_node {g : List Nd} {i : Nat} {T : Ty} (hd : ∀ k, gT g k i = den T e0 k) (h9 : T.kind ≠ 9) (h8 : T.kind ≠ 8) :
    (nodeAt g i).kind = T.kind ∧ (nodeAt g i).so = T.so ∧ (nodeAt g i).labs = T.labels ∧ (nodeAt g i).to.length = T.kids.length ∧ ∀ x (hx : x < T.kids.length) k, gT g k (toAt (nodeAt g i) x) = den T.kids[x] e0 k := by
  have H : ∀ k, (nodeAt g i).kind = T.kind ∧ (nodeAt g i).so = T.so ∧ (nodeAt g i).labs = T.labels ∧ (nodeAt g i).to.map (gT g k) = T.kids.map fun q => den q e0 k := fun k => by
    have h1 := hd (k + 1)
    have h2 : den T e0 (k + 1) = ⟨T.kind, T.so, T.labels, T.kids.map fun q => den q e0 k⟩ := by
      rw [den_node _ e0 h9 h8]
      show (⟨T.kind, T.so, T.labels, (T.kids.map fun q => den q e0).map fun f => f k⟩ : Tr) = _
      rw [List.map_map]
      rfl
    rw [h2] at h1
    have h3 : gT g (k + 1) i = ⟨(nodeAt g i).kind, (nodeAt g i).so, (nodeAt g i).labs, (nodeAt g i).to.map (gT g k)⟩ := rfl
    rw [h3] at h1
    injection h1 with q1 q2 q3 q4
    exact ⟨q1, q2, q3, q4⟩
  have hl : (nodeAt g i).to.length = T.kids.length := by have := congrArg List.length (H 0).2.2.2; simpa using this
  refine ⟨(H 0).1, (H 0).2.1, (H 0).2.2.1, hl, fun x hx k => ?_⟩
  have h4 := congrArg (fun l => l[x]?) (H k).2.2.2
  simp only [List.getElem?_map] at h4
  rw [List.getElem?_eq_getElem hx, List.getElem?_eq_getElem (by omega)] at h4
  simp only [Option.map_some, Option.some.injEq] at h4
  unfold toAt
  rw [List.getElem?_eq_getElem (by omega)]
  exact h4
theorem closed_id {t : Ty} (hg : gdT t) (hc : clT t []) : idT t = false := by
  by_cases h9 : t.kind = 9
  · exact absurd (((clT_eq t []).1 hc).1 h9) (by simp)
  by_cases h8 : t.kind = 8
  · exact ((gdT_eq t).1 hg).2.1 h8
  · exact idT_node t h9 h8
theorem UFI.no9 {t T : Ty} (h : UFI t T) : T.kind ≠ 9 := fun h9 => absurd (((clT_eq T []).1 h.cl).1 h9) (by simp)
theorem UFI.kid {t T : Ty} (h : UFI t T) (h8 : T.kind ≠ 8) {q : Ty} (hq : q ∈ T.kids) : UFI q q := by
  have g1 := ((gdT_eq T).1 h.gd).2.2 q hq
  have c1 := ((clT_eq T []).1 h.cl).2 q hq
  rw [if_neg h8] at c1
  exact ⟨g1, c1, closed_id g1 c1, rfl⟩
/-- two ends: the one's type, that the monitor watches, is below the other one's -/
structure BLI (g h : List Nd) (i j : Nat) (S T : Ty) : Prop where
  gg : GN g
  gh : GN h
  hi : i < g.length
  hj : j < h.length
  uS : UFI S S
  uT : UFI T T
  dS : ∀ k, gT g k i = den S e0 k
  dT : ∀ k, gT h k j = den T e0 k
  bl : ∀ k, bl k g h i j
/-- both, with what stands outermost -/
structure BLH (g h : List Nd) (i j : Nat) (A Bt : Ty) : Prop where
  kd : A.kind = (nodeAt g i).kind
  k2 : A.kind = Bt.kind
  ok : okN (nodeAt g i)
  okh : okN (nodeAt h j)
  so : A.so = (nodeAt g i).so
  la : A.labels = (nodeAt g i).labs
  lb : Bt.labels = (nodeAt h j).labs
  na : A.kids.length = (nodeAt g i).to.length
  nb : Bt.kids.length = (nodeAt h j).to.length
  sub : if A.kind = 7 then ∀ l ∈ A.labels, l ∈ Bt.labels else ∀ l ∈ Bt.labels, l ∈ A.labels
theorem BLI.head {g h : List Nd} {i j : Nat} {S T A Bt : Ty} (H : BLI g h i j S T) (ha : UFI S A) (a8 : A.kind ≠ 8) (hb : UFI T Bt) (b8 : Bt.kind ≠ 8) :
    BLH g h i j A Bt ∧ (∀ x (hx : x < A.kids.length) k, gT g k (toAt (nodeAt g i) x) = den A.kids[x] e0 k) ∧ (∀ x (hx : x < Bt.kids.length) k, gT h k (toAt (nodeAt h j) x) = den Bt.kids[x] e0 k) := by
  obtain ⟨a1, a2, a3, a4, a5⟩ := head_node (g := g) (i := i) (T := A) (fun k => by rw [H.dS k, ha.dn]) ha.no9 a8
  obtain ⟨b1, b2, b3, b4, b5⟩ := head_node (g := h) (i := j) (T := Bt) (fun k => by rw [H.dT k, hb.dn]) hb.no9 b8
  have ok := ((bl_succ 0 g h i j).1 (H.bl 1)).1
  refine ⟨⟨a1.symm, by rw [← a1, ← b1]; exact ok.1, H.gg.at_ H.hi, H.gh.at_ H.hj, a2.symm, a3.symm, b3.symm, a4.symm, b4.symm, ?_⟩, a5, b5⟩
  have := ok.2.2
  rw [a1, a3, b3] at this
  exact this
theorem BLI.next {g h : List Nd} {i j : Nat} {S T A Bt : Ty} (H : BLI g h i j S T) (ha : UFI S A) (a8 : A.kind ≠ 8) (hb : UFI T Bt) (b8 : Bt.kind ≠ 8) {p q : Nat} (hp : p < A.kids.length) (hq : q < Bt.kids.length) (hbl : ∀ k, _root_.Go.Proofs.YthhbbhijpkoelaaDoor.bl k g h (toAt (nodeAt g i) p) (toAt (nodeAt h j) q)) :
    BLI g h (toAt (nodeAt g i) p) (toAt (nodeAt h j) q) A.kids[p] Bt.kids[q] := by
  obtain ⟨B, a5, b5⟩ := H.head ha a8 hb b8
  exact ⟨H.gg, H.gh, H.gg.to_ p (by rw [← B.na]; exact hp), H.gh.to_ q (by rw [← B.nb]; exact hq), ha.kid a8 (List.getElem_mem hp), hb.kid b8 (List.getElem_mem hq), a5 p hp, b5 q hq, hbl⟩
theorem BLI.one {g h : List Nd} {i j : Nat} {S T A Bt : Ty} (H : BLI g h i j S T) (ha : UFI S A) (a8 : A.kind ≠ 8) (hb : UFI T Bt) (b8 : Bt.kind ≠ 8) (hk : A.kind = 2 ∨ A.kind = 3) (hp : 0 < A.kids.length) (hq : 0 < Bt.kids.length) :
    BLI g h (toAt (nodeAt g i) 0) (toAt (nodeAt h j) 0) A.kids[0] Bt.kids[0] := by
  obtain ⟨B, _, _⟩ := H.head ha a8 hb b8
  exact H.next ha a8 hb b8 hp hq fun k => ((bl_succ k g h i j).1 (H.bl (k + 1))).2.1 (by rw [← B.kd]; exact hk)
theorem BLI.two {g h : List Nd} {i j : Nat} {S T A Bt : Ty} (H : BLI g h i j S T) (ha : UFI S A) (a8 : A.kind ≠ 8) (hb : UFI T Bt) (b8 : Bt.kind ≠ 8) (hk : A.kind = 4 ∨ A.kind = 5) (hp : 1 < A.kids.length) (hq : 1 < Bt.kids.length) :
    BLI g h (toAt (nodeAt g i) 1) (toAt (nodeAt h j) 1) A.kids[1] Bt.kids[1] := by
  obtain ⟨B, _, _⟩ := H.head ha a8 hb b8
  refine H.next ha a8 hb b8 hp hq fun k => ?_
  have hs := (bl_succ k g h i j).1 (H.bl (k + 1))
  rw [← B.kd] at hs
  rcases hk with e | e
  · exact (hs.2.2.1 e).2
  · exact (hs.2.2.2.1 e).2
theorem BLI.lab {g h : List Nd} {i j : Nat} {S T A Bt : Ty} (H : BLI g h i j S T) (ha : UFI S A) (a8 : A.kind ≠ 8) (hb : UFI T Bt) (b8 : Bt.kind ≠ 8) {p q : Nat} (hp : p < A.kids.length) (hq : q < Bt.kids.length) {l : ByteArray} (e1 : A.labels[p]? = some l) (e2 : Bt.labels[q]? = some l) :
    BLI g h (toAt (nodeAt g i) p) (toAt (nodeAt h j) q) A.kids[p] Bt.kids[q] := by
  obtain ⟨B, _, _⟩ := H.head ha a8 hb b8
  exact H.next ha a8 hb b8 hp hq fun k => ((bl_succ k g h i j).1 (H.bl (k + 1))).2.2.2.2 p q l (by rw [← B.la]; exact e1) (by rw [← B.lb]; exact e2)
/-- what is given may be carried -/
theorem BLI.give {g h : List Nd} {i j : Nat} {S T A Bt : Ty} (H : BLI g h i j S T) (ha : UFI S A) (a8 : A.kind ≠ 8) (hb : UFI T Bt) (b8 : Bt.kind ≠ 8) (hk : A.kind = 4) (hq : 0 < Bt.kids.length) (hz : chkTy Bt.kids[0] = 0) : mayC g (toAt (nodeAt g i) 0) Bt.kids[0] := by
  obtain ⟨B, _, b5⟩ := H.head ha a8 hb b8
  obtain ⟨c, hc⟩ := OFG_ex hz
  have hl := (okN_len B.ok).2.1 (.inl (by rw [← B.kd]; exact hk))
  refine ⟨c, hc, fun k => ?_⟩
  have hs := (bl_succ k g h i j).1 (H.bl (k + 1))
  rw [← B.kd] at hs
  have hjj : toAt (nodeAt h j) 0 < h.length := H.gh.to_ 0 (by rw [← B.nb]; exact hq)
  exact bl_trans k c h g 0 (toAt (nodeAt h j) 0) (toAt (nodeAt g i) 0) (bl_alike k c h 0 _ hc.gn H.gh hc.gn.pos hjj (by rw [hc.does k, b5 0 hq k])) (hs.2.2.1 hk).1
theorem BLI.take {g h : List Nd} {i j : Nat} {S T A Bt : Ty} (H : BLI g h i j S T) (ha : UFI S A) (a8 : A.kind ≠ 8) (hb : UFI T Bt) (b8 : Bt.kind ≠ 8) (hp : 0 < A.kids.length) (hz : chkTy A.kids[0] = 0) : mayC g (toAt (nodeAt g i) 0) A.kids[0] := by
  obtain ⟨B, a5, _⟩ := H.head ha a8 hb b8
  obtain ⟨c, hc⟩ := OFG_ex hz
  refine ⟨c, hc, fun k => ?_⟩
  exact bl_alike k c g 0 _ hc.gn H.gg hc.gn.pos (H.gg.to_ 0 (by rw [← B.na]; exact hp)) (by rw [hc.does k, a5 0 hp k])
end Go.Proofs.YthhbbhijpkoelaaDoor
