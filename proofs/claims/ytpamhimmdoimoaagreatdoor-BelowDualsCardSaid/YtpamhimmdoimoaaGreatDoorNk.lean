/-
  Plain mathematics: graphs of any size; the other end of the other end; the other end of a Join is the Meet of both other ends.
-/
import Derived.Test.YtpamhimmdoimoaaGreatDoorSz
import Derived.Test.YtpamhimmdoimoaaGreatDoorNf
namespace Go.Proofs.YtpamhimmdoimoaaGreatDoor
structure GW (g : List Nd) : Prop where
 pos : 0 < g.length
 ok : ∀ n ∈ g, okN n
 shut : shutG g
theorem GN.w {g : List Nd} (h : GN g) : GW g := ⟨h.pos, h.ok, h.shut⟩
theorem GW.at_ {g : List Nd} (h : GW g) {i : Nat} (hi : i < g.length) : okN (nodeAt g i) := by rw [nodeAt_lt g i hi]; exact h.ok _ (List.getElem_mem hi)
theorem GW.to_ {g : List Nd} (h : GW g) {i : Nat} (x : Nat) (hx : x < (nodeAt g i).to.length) : toAt (nodeAt g i) x < g.length := by
 unfold toAt;rw [List.getElem?_eq_getElem hx];exact shut_at h.shut i _ (List.getElem_mem hx)
theorem bl_alikeW : ∀ (k : Nat) (g h : List Nd) (i j : Nat), GW g → GW h → i < g.length → j < h.length → gT g k i = gT h k j → bl k g h i j
 | 0, _, _, _, _, _, _, _, _, _ => trivial
 | k + 1, g, h, i, j, hg, hh, hi, hj, e => by
  rw [gT_eq_iff] at e;obtain ⟨e1, e2, e3, e4⟩ := e;have ng := hg.at_ hi;have nh := hh.at_ hj;have lg := okN_len ng;have lh := okN_len nh;rw [bl_succ];refine ⟨⟨e1, e2, by rw [e3]; split <;> exact fun l hl => hl⟩, fun h' => ?_, fun h' => ?_, fun h' => ?_, fun x y lb hx hy => ?_⟩
  ·exact bl_alikeW k g h _ _ hg hh (hg.to_ 0 (lg.1 h')) (hh.to_ 0 (lh.1 (by rw [← e1]; exact h'))) (to_alike e4 (lg.1 h'))
  ·have q := lg.2.1 (.inl h')
   have q2 := lh.2.1 (by rw [← e1]; exact .inl h')
   exact ⟨bl_alikeW k h g _ _ hh hg (hh.to_ 0 (by omega)) (hg.to_ 0 (by omega)) (to_alike e4 (by omega)).symm, bl_alikeW k g h _ _ hg hh (hg.to_ 1 q) (hh.to_ 1 q2) (to_alike e4 q)⟩
  ·have q := lg.2.1 (.inr h')
   have q2 := lh.2.1 (by rw [← e1]; exact .inr h')
   exact ⟨bl_alikeW k g h _ _ hg hh (hg.to_ 0 (by omega)) (hh.to_ 0 (by omega)) (to_alike e4 (by omega)), bl_alikeW k g h _ _ hg hh (hg.to_ 1 q) (hh.to_ 1 q2) (to_alike e4 q)⟩
  ·rw [← e3] at hy
   obtain rfl := rises_idx (okN_rises ng) hx hy;have q := lg.2.2 x (List.getElem?_eq_some_iff.1 hx).1;have hl : (nodeAt g i).to.length = (nodeAt h j).to.length := by have := congrArg List.length e4; simpa using this
   exact bl_alikeW k g h _ _ hg hh (hg.to_ x q) (hh.to_ x (by omega)) (to_alike e4 q)
theorem blP_stepW {g h : List Nd} (hg : GW g) (hh : GW h) {p : Pl} (h1 : p.1 < g.length) (h2 : p.2.1 < h.length) {k : Nat} (ho : okP g h p) (hs : ∀ s ∈ stepsP (nodeAt g p.1) (nodeAt h p.2.1) p.2.2, blP g h k s.2) : blP g h (k + 1) p := by
 obtain ⟨a, b, t⟩ := p;have ra := okN_rises (hg.at_ h1);have rb := okN_rises (hh.at_ h2);have oa := okN_cases (hg.at_ h1);simp only at hs ra rb oa h1 h2;have hnl : (nodeAt g a).kind = 2 ∨ (nodeAt g a).kind = 3 ∨ (nodeAt g a).kind = 4 ∨ (nodeAt g a).kind = 5 → (nodeAt g a).labs = [] := fun hk => by
  rcases oa with ⟨_, _, h, _⟩ | ⟨_, _, h, _⟩ | ⟨_, _, h, _⟩ | ⟨h, _⟩
  ·exact h
  ·exact h
  ·exact h
  ·omega
 cases t with
 | false =>
  unfold okP at ho;unfold blP;simp only [Bool.false_eq_true, if_false] at ho ⊢;rw [bl_succ];unfold stepsP at hs;refine ⟨ho, fun hk => ?_, fun hk => ?_, fun hk => ?_, fun x y l hx hy => ?_⟩
  ·rw [if_pos hk] at hs
   have := hs _ (.head _);simpa [blP] using this
  ·rw [if_neg (by omega), if_pos (.inl hk)] at hs
   have q1 := hs _ (.head _);have q2 := hs _ (.tail _ (.head _));rw [hk] at q1;exact ⟨by simpa [blP] using q1, by simpa [blP] using q2⟩
  ·rw [if_neg (by omega), if_pos (.inr hk)] at hs
   have q1 := hs _ (.head _);have q2 := hs _ (.tail _ (.head _));rw [hk] at q1;exact ⟨by simpa [blP] using q1, by simpa [blP] using q2⟩
  ·have hk : ¬ ((nodeAt g a).kind = 2 ∨ (nodeAt g a).kind = 3) ∧ ¬ ((nodeAt g a).kind = 4 ∨ (nodeAt g a).kind = 5) := by
    constructor <;> intro hk <;> (rw [hnl (by omega)] at hx; simp at hx)
   rw [if_neg hk.1, if_neg hk.2] at hs;have := hs _ (mem_lab.2 ⟨x, l, hx, List.mem_of_getElem? hy, rfl⟩);rw [idx_rises rb hy] at this;simpa [blP] using this
 | true =>
  unfold okP at ho;unfold blP;simp only [if_true] at ho ⊢;rw [bl_succ];unfold stepsP at hs;have hkk := ho.1;refine ⟨ho, fun hk => ?_, fun hk => ?_, fun hk => ?_, fun x y l hx hy => ?_⟩
  ·rw [hkk] at hk
   rw [if_pos hk] at hs;have := hs _ (.head _);simpa [blP] using this
  ·rw [hkk] at hk
   rw [if_neg (by omega), if_pos (.inl hk)] at hs
   have q1 := hs _ (.head _);have q2 := hs _ (.tail _ (.head _));rw [hk] at q1;exact ⟨by simpa [blP] using q1, by simpa [blP] using q2⟩
  ·rw [hkk] at hk
   rw [if_neg (by omega), if_pos (.inr hk)] at hs
   have q1 := hs _ (.head _);have q2 := hs _ (.tail _ (.head _));rw [hk] at q1;exact ⟨by simpa [blP] using q1, by simpa [blP] using q2⟩
  ·have hk : ¬ ((nodeAt g a).kind = 2 ∨ (nodeAt g a).kind = 3) ∧ ¬ ((nodeAt g a).kind = 4 ∨ (nodeAt g a).kind = 5) := by
    constructor <;> intro hk <;> (rw [hnl (by omega)] at hy; simp at hy)
   rw [if_neg hk.1, if_neg hk.2] at hs;have := hs _ (mem_lab.2 ⟨y, l, hy, List.mem_of_getElem? hx, rfl⟩);rw [idx_rises rb hx] at this;simpa [blP] using this
theorem nst_ltW {g : List Nd} (hg : GW g) {i : Nat} (hi : i < g.length) {t : Bool} {w : ByteArray} {u : Nat} {b : Bool} (h : (w, u, b) ∈ nst (nodeAt g i) t) : u < g.length := by
 have L := okN_len (hg.at_ hi);by_cases h1 : (nodeAt g i).kind = 2 ∨ (nodeAt g i).kind = 3
 ·rw [nst_one h1] at h
  simp only [List.mem_singleton, Prod.mk.injEq] at h;rw [h.2.1];exact hg.to_ 0 (L.1 h1)
 ·by_cases h2 : (nodeAt g i).kind = 4 ∨ (nodeAt g i).kind = 5
  ·rw [nst_two h2] at h
   have := L.2.1 h2;simp only [List.mem_cons, List.not_mem_nil, or_false, Prod.mk.injEq] at h;rcases h with ⟨_, rfl, _⟩ | ⟨_, rfl, _⟩
   ·exact hg.to_ 0 (by omega)
   ·exact hg.to_ 1 this
  ·rw [mem_nst h1 h2] at h
   obtain ⟨x, hx, rfl, _⟩ := h;exact hg.to_ x (L.2.2 x (List.getElem?_eq_some_iff.1 hx).1)
theorem oth_gw {g : List Nd} (hg : GW g) : GW (othG g) := by
 refine ⟨by rw [oth_len]; have := hg.pos; omega, fun n hn => ?_, fun n hn t ht => ?_⟩
 ·unfold othG at hn
  rcases List.mem_append.1 hn with hn | hn
  ·obtain ⟨m, hm, rfl⟩ := List.mem_map.1 hn; exact (oth_ok _ (hg.ok m hm)).1
  ·obtain ⟨m, hm, rfl⟩ := List.mem_map.1 hn; exact (oth_ok _ (hg.ok m hm)).2
 ·rw [oth_len]
  unfold othG at hn;rcases List.mem_append.1 hn with hn | hn
  ·obtain ⟨m, hm, rfl⟩ := List.mem_map.1 hn
   exact tuL_lt (fun t ht => hg.shut m hm t ht) t ht
  ·obtain ⟨m, hm, rfl⟩ := List.mem_map.1 hn
   obtain ⟨x, hx, rfl⟩ := List.mem_map.1 ht;have := hg.shut m hm x hx;omega
theorem oth_keptW {g : List Nd} (hg : GW g) : ∀ (k i : Nat), i < g.length → gT (othG g) k (i + g.length) = gT g k i
 | 0, _, _ => rfl
 | k + 1, i, hi => by
  rw [gT_eq_iff, oth_at2 hi];refine ⟨rfl, rfl, rfl, ?_⟩;show (((nodeAt g i).to.map fun t => t + g.length).map _) = _
  rw [List.map_map];exact List.map_congr_left fun t ht => oth_keptW hg k t (shut_at hg.shut i t ht)
theorem bl_respW {g h g' h' : List Nd} (Hg : GW g) (Hh : GW h) (Hg' : GW g') (Hh' : GW h') {k i j i' j' : Nat} (hi : i < g.length) (hj : j < h.length) (hi' : i' < g'.length) (hj' : j' < h'.length) (e1 : gT g' k i' = gT g k i) (e2 : gT h' k j' = gT h k j) : bl k g' h' i' j' ↔ bl k g h i j := by
 constructor
 ·intro hb
  exact bl_trans k g g' h i i' j (bl_alikeW k g g' i i' Hg Hg' hi hi' e1.symm) (bl_trans k g' h' h i' j' j hb (bl_alikeW k h' h j' j Hh' Hh hj' hj e2))
 ·intro hb
  exact bl_trans k g' g h' i' i j' (bl_alikeW k g' g i' i Hg' Hg hi' hi e1) (bl_trans k g h h' i j j' hb (bl_alikeW k h h' j j' Hh Hh' hj hj' e2.symm))
theorem bl_dualW {g h : List Nd} (hg : GW g) (hh : GW h) : ∀ (k i j : Nat), i < g.length → j < h.length → (bl k (othG h) (othG g) j i ↔ bl k g h i j)
 | 0, _, _, _, _ => ⟨fun _ => trivial, fun _ => trivial⟩
 | k + 1, i, j, hi, hj => by
  have og := oth_gw hg;have oh := oth_gw hh;have ng := hg.at_ hi;have nh := hh.at_ hj;have cg := okN_cases ng;have ch := okN_cases nh;have Lg := okN_len ng;have Lh := okN_len nh;have kg := kdD_cases (nodeAt g i).kind;have kh := kdD_cases (nodeAt h j).kind;have kept : ∀ a b, a < g.length → b < h.length → (bl k (othG g) (othG h) (a + g.length) (b + h.length) ↔ bl k g h a b) := fun a b ha hb => bl_respW hg hh og oh ha hb (by rw [oth_len]; omega) (by rw [oth_len]; omega) (oth_keptW hg k a ha) (oth_keptW hh k b hb)
  have kept2 : ∀ a b, a < g.length → b < h.length → (bl k (othG h) (othG g) (b + h.length) (a + g.length) ↔ bl k h g b a) := fun a b ha hb => bl_respW hh hg oh og hb ha (by rw [oth_len]; omega) (by rw [oth_len]; omega) (oth_keptW hh k b hb) (oth_keptW hg k a ha)
  rw [bl_succ, bl_succ, oth_at1 hi, oth_at1 hj];have hkind : kdD (nodeAt h j).kind = kdD (nodeAt g i).kind ↔ (nodeAt g i).kind = (nodeAt h j).kind := ⟨fun e => (kdD_inj nh ng e).symm, fun e => by rw [e]⟩
  by_cases hK : (nodeAt g i).kind = (nodeAt h j).kind
  ·have hlabs : okI (othT h.length (nodeAt h j)) (othT g.length (nodeAt g i)) ↔ okI (nodeAt g i) (nodeAt h j) := by
    unfold okI othT;simp only;rw [hkind];refine and_congr_right fun _ => and_congr (eq_comm) ?_
    rcases cg with ⟨c1, _, c3, _⟩ | ⟨c1, _, c3, _⟩ | ⟨c1, _, c3, _⟩ | ⟨c1 | c1, _, _, _⟩
    ·have : (nodeAt h j).labs = [] := by rcases ch with ⟨_, _, d3, _⟩ | ⟨_, _, d3, _⟩ | ⟨_, _, d3, _⟩ | ⟨d1, _⟩ <;> first | exact d3 | omega
     rw [c3, this]; simp
    ·have : (nodeAt h j).labs = [] := by rcases ch with ⟨_, _, d3, _⟩ | ⟨_, _, d3, _⟩ | ⟨_, _, d3, _⟩ | ⟨d1, _⟩ <;> first | exact d3 | omega
     rw [c3, this]; simp
    ·have : (nodeAt h j).labs = [] := by rcases ch with ⟨_, _, d3, _⟩ | ⟨_, _, d3, _⟩ | ⟨_, _, d3, _⟩ | ⟨d1, _⟩ <;> first | exact d3 | omega
     rw [c3, this]; simp
    ·rw [kh.2.2.2.2.1 (by rw [← hK]; exact c1), if_pos rfl, c1, if_neg (by decide)]
    ·rw [kh.2.2.2.2.2.1 (by rw [← hK]; exact c1), if_neg (by decide), c1, if_pos rfl]
   rw [hlabs];refine and_congr_right fun _ => ?_
   have ek : (othT h.length (nodeAt h j)).kind = kdD (nodeAt h j).kind := rfl;have el1 : (othT h.length (nodeAt h j)).labs = (nodeAt h j).labs := rfl;have el2 : (othT g.length (nodeAt g i)).labs = (nodeAt g i).labs := rfl;rw [ek, el1, el2];rcases cg with ⟨c1, _, c3, c4⟩ | ⟨c1, _, c3, c4⟩ | ⟨c1 | c1, _, c3, c4⟩ | ⟨c1, _, _, c4⟩
   ·have k1 : kdD (nodeAt h j).kind = 1 := kh.2.2.2.2.2.2 (by rw [← hK]; exact c1)
    rw [k1, c1, c3];constructor
    ·intro _
     exact ⟨fun h => by omega, fun h => by omega, fun h => by omega, fun x y l hx => by simp at hx⟩
    ·intro _
     exact ⟨fun h => by omega, fun h => by omega, fun h => by omega, fun x y l _ hy => by simp at hy⟩
   ·have e1 := tuL_x (n := nodeAt g i) (N := g.length) (by omega)
    have e2 := tuL_x (n := nodeAt h j) (N := h.length) (by omega)
    have D := bl_dualW hg hh k (toAt (nodeAt g i) 0) (toAt (nodeAt h j) 0) (hg.to_ 0 (by omega)) (hh.to_ 0 (Lh.1 (by rw [← hK]; exact c1)))
    have k1 : kdD (nodeAt h j).kind = 2 ∨ kdD (nodeAt h j).kind = 3 := c1.elim (fun e => .inr (kh.1 (by rw [← hK]; exact e))) (fun e => .inl (kh.2.1 (by rw [← hK]; exact e)))
    rw [e1, e2, c3];constructor
    ·rintro ⟨q1, _⟩
     exact ⟨fun _ => D.1 (q1 k1), fun h => by omega, fun h => by omega, fun x y l hx => by simp at hx⟩
    ·rintro ⟨q1, _⟩
     exact ⟨fun _ => D.2 (q1 c1), fun h => by omega, fun h => by omega, fun x y l _ hy => by simp at hy⟩
   ·have e1 := tuL_0 (N := g.length) (.inl c1) (Lg.2.1 (.inl c1))
    have hm4 : (nodeAt h j).kind = 4 := by rw [← hK]; exact c1
    have e2 := tuL_0 (N := h.length) (.inl hm4) (Lh.2.1 (.inl hm4));have l2 := Lh.2.1 (.inl hm4);have D := bl_dualW hg hh k (toAt (nodeAt g i) 1) (toAt (nodeAt h j) 1) (hg.to_ 1 (by omega)) (hh.to_ 1 l2)
    have Kp := kept2 (toAt (nodeAt g i) 0) (toAt (nodeAt h j) 0) (hg.to_ 0 (by omega)) (hh.to_ 0 (by omega))
    have k1 : kdD (nodeAt h j).kind = 5 := kh.2.2.1 hm4;rw [e1.1, e1.2, e2.1, e2.2, c3, k1, c1];constructor
    ·rintro ⟨_, _, q3, _⟩
     exact ⟨fun h => by omega, fun _ => ⟨Kp.1 (q3 rfl).1, D.1 (q3 rfl).2⟩, fun h => by omega, fun x y l hx => by simp at hx⟩
    ·rintro ⟨_, q2, _, _⟩
     exact ⟨fun h => by omega, fun h => by omega, fun _ => ⟨Kp.2 (q2 rfl).1, D.2 (q2 rfl).2⟩, fun x y l _ hy => by simp at hy⟩
   ·have e1 := tuL_0 (N := g.length) (.inr c1) (Lg.2.1 (.inr c1))
    have hm4 : (nodeAt h j).kind = 5 := by rw [← hK]; exact c1
    have e2 := tuL_0 (N := h.length) (.inr hm4) (Lh.2.1 (.inr hm4));have l2 := Lh.2.1 (.inr hm4);have D := bl_dualW hg hh k (toAt (nodeAt g i) 1) (toAt (nodeAt h j) 1) (hg.to_ 1 (by omega)) (hh.to_ 1 l2)
    have Kp := kept (toAt (nodeAt g i) 0) (toAt (nodeAt h j) 0) (hg.to_ 0 (by omega)) (hh.to_ 0 (by omega))
    have k1 : kdD (nodeAt h j).kind = 4 := kh.2.2.2.1 hm4;rw [e1.1, e1.2, e2.1, e2.2, c3, k1, c1];constructor
    ·rintro ⟨_, q2, _, _⟩
     exact ⟨fun h => by omega, fun h => by omega, fun _ => ⟨Kp.1 (q2 rfl).1, D.1 (q2 rfl).2⟩, fun x y l hx => by simp at hx⟩
    ·rintro ⟨_, _, q3, _⟩
     exact ⟨fun h => by omega, fun _ => ⟨Kp.2 (q3 rfl).1, D.2 (q3 rfl).2⟩, fun h => by omega, fun x y l _ hy => by simp at hy⟩
   ·have e1 := tuL_x (n := nodeAt g i) (N := g.length) (by omega)
    have e2 := tuL_x (n := nodeAt h j) (N := h.length) (by omega)
    have k1 : kdD (nodeAt h j).kind = 6 ∨ kdD (nodeAt h j).kind = 7 := c1.elim (fun e => .inr (kh.2.2.2.2.1 (by rw [← hK]; exact e))) (fun e => .inl (kh.2.2.2.2.2.1 (by rw [← hK]; exact e)))
    have D : ∀ x y l, (nodeAt g i).labs[x]? = some l → (nodeAt h j).labs[y]? = some l → (bl k (othG h) (othG g) (toAt (nodeAt h j) y) (toAt (nodeAt g i) x) ↔ bl k g h (toAt (nodeAt g i) x) (toAt (nodeAt h j) y)) := fun x y l hx hy => bl_dualW hg hh k _ _ (hg.to_ x (Lg.2.2 x (List.getElem?_eq_some_iff.1 hx).1)) (hh.to_ y (Lh.2.2 y (List.getElem?_eq_some_iff.1 hy).1))
    constructor
    ·rintro ⟨_, _, _, q4⟩
     exact ⟨fun h => by omega, fun h => by omega, fun h => by omega, fun x y l hx hy => (D x y l hx hy).1 (by have := q4 y x l hy hx; rw [e1, e2] at this; exact this)⟩
    ·rintro ⟨_, _, _, q4⟩
     exact ⟨fun h => by omega, fun h => by omega, fun h => by omega, fun x y l hx hy => by rw [e1, e2]; exact (D y x l hy hx).2 (q4 y x l hy hx)⟩
  ·constructor
   ·rintro ⟨o, _⟩
    exact absurd (hkind.1 o.1) hK
   ·rintro ⟨o, _⟩
    exact absurd o.1 hK
theorem next_hasBW {g h c : List Nd} (hg : GN g) (hh : GN h) (hc : GW c) {p : Pz} (o : okZ g h p) (hs : 0 ≤ (drP g h p).spare) {m : Nat} (hm : m < c.length) (hb : ∀ σ, sI p σ ≠ -1 → ∀ k, blP (sG g h σ) c k ((sI p σ).toNat, m, p.2.2)) {w : ByteArray} {q : Pz} (hd : (w, q) ∈ dst (drP g h p)) {v : Nat} {b : Bool} (hv : (w, v, b) ∈ nst (nodeAt c m) p.2.2) :
  v < c.length ∧ q.2.2 = b ∧ ∀ σ, sI q σ ≠ -1 → ∀ k, blP (sG g h σ) c k ((sI q σ).toNat, v, q.2.2) := by
 have K := kd_any hg hh o hs;obtain ⟨oq, hq⟩ := K.st _ _ hd;have key : ∀ σ, sI q σ ≠ -1 → q.2.2 = b ∧ ∀ k, blP (sG g h σ) c k ((sI q σ).toNat, v, q.2.2) := fun σ hσ => by
  obtain ⟨hp, hn⟩ := (hq σ).1 hσ;have h1 := (blP_next (hb σ hp 1)).1;have oM : okN (nodeAt (sG g h σ) (sI p σ).toNat) := o.nd hg hh hp;have hk := ((okP_w oM (hc.at_ hm)).1 h1).1;have hf := nst_flag hk hn hv;refine ⟨hf, fun k => ?_⟩
  exact (blP_next (hb σ hp (k + 1))).2 (w, (sI q σ).toNat, v, q.2.2) ((stepsP_iff oM (hc.at_ hm) hk _ _).2 ⟨hn, by rw [hf]; exact hv⟩)
 obtain ⟨σ, hσ⟩ := oq.2;exact ⟨nst_ltW hc hm hv, (key σ hσ).1, fun τ hτ => (key τ hτ).2⟩
theorem low_blW {g h c : List Nd} (hg : GN g) (hh : GN h) (hc : GW c) {al : Pz → Bool} {G : List Nd} {pl : Nat → Pz} (H : GP g h al G pl) (hA : ∀ x, x < G.length → ∀ w q, (w, q) ∈ dst (drP g h (pl x)) → hasB g h c q → al q = true) :
  ∀ k x m, x < G.length → m < c.length → (∀ σ, sI (pl x) σ ≠ -1 → ∀ k, blP (sG g h σ) c k ((sI (pl x) σ).toNat, m, (pl x).2.2)) → blP G c k (x, m, (pl x).2.2)
 | 0, _, _, _, _, _ => blP_zero _ _ _
 | k + 1, x, m, hx, hm, hb => by
  have o := H.ok x hx;have hs := H.sp x hx;have K := kd_any hg hh o hs;have oX := H.gn.at_ hx;have oC := hc.at_ hm;obtain ⟨σ0, hσ0⟩ := o.2;obtain ⟨kk, ks⟩ := K.kd σ0 hσ0;obtain ⟨gk, gs⟩ := H.kd x hx;have side : ∀ σ, sI (pl x) σ ≠ -1 → (sN g h (pl x) σ).kind = (nodeAt c m).kind ∧ (sN g h (pl x) σ).so = (nodeAt c m).so ∧ (if wideB (sN g h (pl x) σ).kind (pl x).2.2 = true then ∀ l ∈ (sN g h (pl x) σ).labs, l ∈ (nodeAt c m).labs else ∀ l ∈ (nodeAt c m).labs, l ∈ (sN g h (pl x) σ).labs) := fun σ hσ => (okP_w (p := ((sI (pl x) σ).toNat, m, (pl x).2.2)) (o.nd hg hh hσ) oC).1 (blP_next (hb σ hσ 1)).1
  obtain ⟨s1, s2, s3⟩ := side σ0 hσ0;have hk : (nodeAt G x).kind = (nodeAt c m).kind := gk.trans (kk.trans s1);refine blP_stepW H.gn.w hc hx hm ((okP_w oX oC).2 ⟨hk, gs.trans (ks.trans s2), ?_⟩) fun s hsm => ?_
  ·simp only
   have eX : (nodeAt G x).kind = (drP g h (pl x)).kind := gk;split
   ·rename_i hw
    intro l hl;have hk6 := wide_kind hw;obtain ⟨u, b, hu⟩ := (nst_lab (t := (pl x).2.2) hk6).2 hl;obtain ⟨_, hd⟩ := (H.nst hg hh hx _).1 _ _ _ hu;obtain ⟨oq, hq⟩ := K.st _ _ hd;obtain ⟨σ, hσ⟩ := oq.2;obtain ⟨hp, hn⟩ := (hq σ).1 hσ;obtain ⟨t1, t2, t3⟩ := side σ hp;have e1 : (sN g h (pl x) σ).kind = (nodeAt G x).kind := t1.trans hk.symm;rw [e1, if_pos hw] at t3;exact t3 l ((nst_lab (by rw [e1]; exact hk6)).1 ⟨_, _, hn⟩)
   ·rename_i hw
    intro l hl;have hk6 : (nodeAt c m).kind = 6 ∨ (nodeAt c m).kind = 7 := by
     rcases okN_cases oC with ⟨_, _, q, _⟩ | ⟨_, _, q, _⟩ | ⟨_, _, q, _⟩ | ⟨q, _⟩
     ·rw [q] at hl; cases hl
     ·rw [q] at hl; cases hl
     ·rw [q] at hl; cases hl
     ·exact q
    have hall : ∀ σ, sI (pl x) σ ≠ -1 → l ∈ (sN g h (pl x) σ).labs := fun σ hσ => by
     obtain ⟨t1, t2, t3⟩ := side σ hσ;have e1 : (sN g h (pl x) σ).kind = (nodeAt G x).kind := t1.trans hk.symm;rw [e1, if_neg hw] at t3;exact t3 l hl
    have hld := K.nw (by rw [← eX]; simpa using hw) l hall
    have hwd : wrd (drP g h (pl x)).kind (drP g h (pl x)).labs = (drP g h (pl x)).labs := by unfold wrd; rw [if_neg (by omega), if_neg (by omega)]
    have ln := K.ln;rw [hwd] at ln;obtain ⟨i, hi, rfl⟩ := List.mem_iff_getElem.1 hld;have hi2 : i < (drP g h (pl x)).nxt.length := by omega
    have hd : ((drP g h (pl x)).labs[i], (drP g h (pl x)).nxt[i]) ∈ dst (drP g h (pl x)) := by
     unfold dst;rw [hwd, List.mem_iff_getElem];exact ⟨i, by rw [List.length_zip]; omega, by rw [List.getElem_zip]⟩
    obtain ⟨v, b, hv⟩ := (nst_lab (t := (pl x).2.2) hk6).2 hl;obtain ⟨v1, v2, v3⟩ := next_hasBW hg hh hc o hs hm hb hd hv;obtain ⟨y, b', hy, _, hyn⟩ := (H.nst hg hh hx (pl x).2.2).2 _ _ hd (hA x hx _ _ hd ⟨v, v1, v3⟩);exact (nst_lab (by rw [hk]; exact hk6)).1 ⟨_, _, hyn⟩
  ·obtain ⟨q1, q2⟩ := (stepsP_iff oX oC hk _ s).1 hsm
   obtain ⟨hy, hd⟩ := (H.nst hg hh hx (pl x).2.2).1 _ _ _ q1;obtain ⟨v1, v2, v3⟩ := next_hasBW hg hh hc o hs hm hb hd q2;have := low_blW hg hh hc H hA k s.2.1 s.2.2.1 hy v1 v3;rw [v2] at this;exact this
theorem noB_closedW {g h c : List Nd} (hg : GN g) (hh : GN h) (hc : GW c) {S : Pz → Bool} (hS : NoB g h c S) (huni : ∀ m n : Nd, (uniL m n).Nodup) {p : Pz} (o : okZ g h p) (hn : S p = false) : 0 ≤ (drP g h p).spare ∧ (((drP g h p).nxt.filter S).length : Int) ≤ (drP g h p).spare := by
 have none_of : ∀ d : Dr, (∀ q ∈ d.nxt, S q = false) → d.nxt.filter S = [] := fun d hd => List.filter_eq_nil_iff.2 fun q hq => by rw [hd q hq]; simp
 unfold drP;by_cases h2 : p.2.1 = -1
 ·rw [if_pos h2, none_of]
  ·exact ⟨by show (0 : Int) ≤ 0; omega, by show (0 : Int) ≤ 0; omega⟩
  ·intro q hq
   obtain ⟨s, _, rfl⟩ := List.mem_map.1 hq;rw [Bool.eq_false_iff, Ne, hS];exact fun q => q.2.1 rfl
 ·rw [if_neg h2]
  by_cases h1 : p.1 = -1
  ·rw [if_pos h1, none_of]
   ·exact ⟨by show (0 : Int) ≤ 0; omega, by show (0 : Int) ≤ 0; omega⟩
   ·intro q hq
    obtain ⟨s, _, rfl⟩ := List.mem_map.1 hq;rw [Bool.eq_false_iff, Ne, hS];exact fun q => q.1 rfl
  ·rw [if_neg h1]
   have hB : hasB g h c p := Classical.byContradiction fun q => by
    rw [(hS p).2 ⟨h1, h2, q⟩] at hn;cases hn
   obtain ⟨m, hm, hb⟩ := hB;have oM : okN (sN g h p false) := o.nd hg hh (σ := false) h1;have oN : okN (sN g h p true) := o.nd hg hh (σ := true) h2;have oC := hc.at_ hm;obtain ⟨a1, a2, a3⟩ := (okP_w (p := ((sI p false).toNat, m, p.2.2)) oM oC).1 (blP_next (hb false h1 1)).1;obtain ⟨b1, b2, b3⟩ := (okP_w (p := ((sI p true).toNat, m, p.2.2)) oN oC).1 (blP_next (hb true h2 1)).1;have a3' : if wideB (sN g h p false).kind p.2.2 = true then ∀ l ∈ (sN g h p false).labs, l ∈ (nodeAt c m).labs else ∀ l ∈ (nodeAt c m).labs, l ∈ (sN g h p false).labs := a3
   have b3' : if wideB (sN g h p true).kind p.2.2 = true then ∀ l ∈ (sN g h p true).labs, l ∈ (nodeAt c m).labs else ∀ l ∈ (nodeAt c m).labs, l ∈ (sN g h p true).labs := b3
   have hk : (sN g h p false).kind = (sN g h p true).kind := a1.trans b1.symm;have hso : (sN g h p false).so = (sN g h p true).so := a2.trans b2.symm;have kc : (sN g h p false).kind = (nodeAt c m).kind := a1;have edr : drP g h p = drMN (sN g h p false) (sN g h p true) p.2.2 := by unfold drP; rw [if_neg h2, if_neg h1]; rfl
   have nxt : 0 ≤ (drP g h p).spare → ∀ w q v b, (w, q) ∈ dst (drP g h p) → (w, v, b) ∈ nst (nodeAt c m) p.2.2 → S q = false := fun hs w q v b hd hv => by
    obtain ⟨v1, _, v3⟩ := next_hasBW hg hh hc o hs hm hb hd hv;rw [Bool.eq_false_iff, Ne, hS];exact fun q => q.2.2 ⟨v, v1, v3⟩
   have dpos : ∀ q, q ∈ (drP g h p).nxt → 0 ≤ (drP g h p).spare → ∃ w, (w, q) ∈ dst (drP g h p) := fun q hq hs => by
    have ln := (kd_any hg hh o hs).ln;obtain ⟨i, hi, rfl⟩ := List.mem_iff_getElem.1 hq;exact ⟨(wrd (drP g h p).kind (drP g h p).labs)[i]'(by omega), by
     unfold dst;rw [List.mem_iff_getElem];exact ⟨i, by rw [List.length_zip]; omega, by rw [List.getElem_zip]⟩⟩
   have goal : ∀ d, drP g h p = d → 0 ≤ d.spare ∧ ((d.nxt.filter S).length : Int) ≤ d.spare := fun d hd => by
    by_cases hw : wideB (sN g h p false).kind p.2.2 = true
    ·have hk6 := wide_kind hw
     rw [if_pos hw] at a3';rw [← hk, if_pos hw] at b3';have hlen : (uniL (sN g h p false) (sN g h p true)).length ≤ 6 := by
      have := nodup_sub _ (nodeAt c m).labs (huni (sN g h p false) (sN g h p true)) fun l hl => (mem_uniL.1 hl).elim (a3' l) (b3' l)
      have h6 := (shp_len (okN_shp oC)).1;omega
     have e : drP g h p = ⟨(sN g h p false).kind, 0, uniL (sN g h p false) (sN g h p true), (uniL (sN g h p false) (sN g h p true)).map fun l => (behI (sN g h p false) l, behI (sN g h p true) l, p.2.2), 0⟩ := by
      rw [edr];unfold drMN;rw [if_neg (by rw [hk, hso]; simp), if_pos hw]
      unfold eithD;rw [if_neg (by omega)]
     have hs : 0 ≤ (drP g h p).spare := by rw [e]; exact Int.le_refl 0
     rw [← hd, none_of]
     ·exact ⟨hs, by rw [e]; exact Int.le_refl 0⟩
     ·intro q hq
      obtain ⟨w, hwd⟩ := dpos q hq hs;have hwl : w ∈ (drP g h p).labs := by
       have := (List.of_mem_zip hwd).1;rw [e] at this ⊢;unfold wrd at this;rw [if_neg (by simp only; omega), if_neg (by simp only; omega)] at this
       exact this
      rw [e] at hwl;have hcl : w ∈ (nodeAt c m).labs := (mem_uniL.1 hwl).elim (a3' w) (b3' w);obtain ⟨v, b, hv⟩ := (nst_lab (n := nodeAt c m) (t := p.2.2) (by rw [← kc]; exact hk6)).2 hcl
      exact nxt hs w q v b hwd hv
    ·rw [if_neg hw] at a3'
     rw [← hk, if_neg hw] at b3';have e : drP g h p = bothD (sN g h p false) (sN g h p true) p.2.2 := by
      rw [edr];unfold drMN;rw [if_neg (by rw [hk, hso]; simp), if_neg hw]
     by_cases h0 : (sN g h p false).labs.length = 0
     ·have hs0 : (drP g h p).spare = 0 := by rw [e]; unfold bothD; simp only; rw [if_pos h0]
      rw [← hd, none_of]
      ·exact ⟨by omega, by rw [hs0]; exact Int.le_refl 0⟩
      ·intro q hq
       obtain ⟨w, hwd⟩ := dpos q hq (by omega)
       have hd2 := hwd;rw [e, dst_both oM, List.mem_map] at hd2;obtain ⟨s, hs1, e1⟩ := hd2;simp only [Prod.mk.injEq] at e1;obtain ⟨rfl, rfl⟩ := e1;obtain ⟨q1, _⟩ := (stepsP_iff oM oN hk _ s).1 hs1;obtain ⟨v, hv⟩ := nst_word kc (List.length_eq_zero_iff.1 h0) q1;exact nxt (by omega) _ _ v _ hwd hv
     ·have hk6 : (sN g h p false).kind = 6 ∨ (sN g h p false).kind = 7 := by
       rcases okN_cases oM with ⟨_, _, q, _⟩ | ⟨_, _, q, _⟩ | ⟨_, _, q, _⟩ | ⟨q, _⟩
       ·rw [q] at h0; exact absurd rfl h0
       ·rw [q] at h0; exact absurd rfl h0
       ·rw [q] at h0; exact absurd rfl h0
       ·exact q
      have hcl : 0 < (nodeAt c m).labs.length := by
       rcases okN_cases oC with ⟨q, _⟩ | ⟨q, _⟩ | ⟨q, _⟩ | ⟨_, _, q, _⟩
       ·omega
       ·omega
       ·omega
       ·unfold labsOK at q
        rw [Bool.and_eq_true, decide_eq_true_eq] at q;omega
      have hl := List.getElem_mem hcl;obtain ⟨u, b, hu⟩ := (nst_lab (t := p.2.2) hk6).2 (a3' _ hl);obtain ⟨u', b', hu'⟩ := (nst_lab (n := sN g h p true) (t := p.2.2) (by rw [← hk]; exact hk6)).2 (b3' _ hl)
      obtain ⟨v, b2, hv⟩ := (nst_lab (n := nodeAt c m) (t := p.2.2) (by rw [← kc]; exact hk6)).2 hl
      obtain rfl := nst_flag hk hu hu';have hst := (stepsP_iff oM oN hk p.2.2 ((nodeAt c m).labs[0], u, u', b)).2 ⟨hu, hu'⟩;have hlp := List.length_pos_of_mem hst;have hsp : (drP g h p).spare = ((stepsP (sN g h p false) (sN g h p true) p.2.2).length : Int) - 1 := by rw [e]; unfold bothD; simp only; rw [if_neg h0]
      have hs : 0 ≤ (drP g h p).spare := by omega
      have hin : zC ((nodeAt c m).labs[0], u, u', b) ∈ (drP g h p).nxt := by rw [e]; exact List.mem_map.2 ⟨_, hst, rfl⟩
      have hnot := nxt hs (nodeAt c m).labs[0] (zC ((nodeAt c m).labs[0], u, u', b)) v b2 (by rw [e, dst_both oM]; exact List.mem_map.2 ⟨_, hst, rfl⟩) hv
      have hlt := (List.length_filter_lt_length_iff_exists (p := S)).2 ⟨_, hin, by rw [hnot]; simp⟩
      have hnl : (drP g h p).nxt.length = (stepsP (sN g h p false) (sN g h p true) p.2.2).length := by rw [e]; unfold bothD; simp
      rw [← hd];exact ⟨hs, by omega⟩
   exact goal _ (by unfold drP; rw [if_neg h2, if_neg h1])
theorem alive_ofW {g h c : List Nd} (hg : GN g) (hh : GN h) (hc : GW c) {p0 : Pz} {ps : List Pz} {al : Pz → Bool} (B : BND g h p0 ps al) {p : Pz} (hp : p ∈ ps) (hb : hasB g h c p) : al p = true := by
 obtain ⟨S, hS⟩ := noB_ex g h c;have huni : ∀ m n : Nd, (uniL m n).Nodup := fun m n => (uni_rises m n).imp fun {a b} hab e => by rw [e] at hab; exact ltB_irr _ hab
 rcases Bool.eq_false_or_eq_true (al p) with h1 | h1
 ·exact h1
 ·have h2 := B.dd S (fun p hp hs => noB_closedW hg hh hc hS huni (B.ok p hp) hs) p hp h1
  exact absurd hb ((hS p).1 h2).2.2
theorem kdD_kdD {n : Nd} (on : okN n) : kdD (kdD n.kind) = n.kind := by
 have kd := kdD_cases n.kind;rcases okN_cases on with ⟨h1, _⟩ | ⟨h1 | h1, _⟩ | ⟨h1 | h1, _⟩ | ⟨h1 | h1, _⟩ <;> rw [h1] <;> decide
theorem oth_oth {g : List Nd} (hg : GW g) : ∀ (k i : Nat), i < g.length → gT (othG (othG g)) k i = gT g k i
 | 0, _, _ => rfl
 | k + 1, i, hi => by
  have og := oth_gw hg;have on := hg.at_ hi;have hl := oth_len g;rw [gT_eq_iff, oth_at1 (show i < (othG g).length by omega), oth_at1 hi]
  refine ⟨kdD_kdD on, rfl, rfl, ?_⟩;show (tuL (othT g.length (nodeAt g i)) (othG g).length).map _ = _
  by_cases hk : (nodeAt g i).kind = 4 ∨ (nodeAt g i).kind = 5
  ·have hk2 : (othT g.length (nodeAt g i)).kind = 4 ∨ (othT g.length (nodeAt g i)).kind = 5 := by
    have kd := kdD_cases (nodeAt g i).kind;exact hk.elim (fun e => .inr (kd.2.2.1 e)) (fun e => .inl (kd.2.2.2.1 e))
   have hsh := shut_at hg.shut i;rcases okN_cases on with ⟨c, _⟩ | ⟨c, _⟩ | ⟨_, _, _, c4⟩ | ⟨c, _⟩
   ·omega
   ·omega
   ·unfold tuL
    rw [if_pos hk2];show List.map _ (match (tuL (nodeAt g i) g.length) with | [] => [] | a :: r => (a + (othG g).length) :: r) = _
    unfold tuL;rw [if_pos hk];match hq : (nodeAt g i).to, c4 with
    | [a, b], _ =>
     rw [hq] at hsh;have ha := hsh a (by simp)
     have hb := hsh b (by simp)
     simp only [List.map_cons, List.map_nil];rw [oth_keptW og k (a + g.length) (by omega), oth_keptW hg k a ha, oth_oth hg k b hb]
   ·omega
  ·have hk2 : ¬ ((othT g.length (nodeAt g i)).kind = 4 ∨ (othT g.length (nodeAt g i)).kind = 5) := by
    show ¬ (kdD (nodeAt g i).kind = 4 ∨ kdD (nodeAt g i).kind = 5)
    have kd := kdD_cases (nodeAt g i).kind;rcases okN_cases on with ⟨c, _⟩ | ⟨c, _⟩ | ⟨c, _⟩ | ⟨c, _⟩
    ·rw [kd.2.2.2.2.2.2 c]; decide
    ·rcases c with c | c
     ·rw [kd.1 c]; decide
     ·rw [kd.2.1 c]; decide
    ·omega
    ·rcases c with c | c
     ·rw [kd.2.2.2.2.1 c]; decide
     ·rw [kd.2.2.2.2.2.1 c]; decide
   unfold tuL;rw [if_neg hk2];show List.map _ (tuL (nodeAt g i) g.length) = _
   unfold tuL;rw [if_neg hk];exact List.map_congr_left fun t ht => oth_oth hg k t (shut_at hg.shut i t ht)
theorem bl_swap {a b : List Nd} (ha : GW a) (hb : GW b) (h : ∀ k, bl k a (othG b) 0 0) : ∀ k, bl k b (othG a) 0 0 := fun k => by
 have ob := oth_gw hb;have oa := oth_gw ha;have oob := oth_gw ob;have h1 := (bl_dualW ha ob k 0 0 ha.pos ob.pos).2 (h k);exact bl_trans k _ _ _ _ _ _ (bl_alikeW k b (othG (othG b)) 0 0 hb oob hb.pos oob.pos (oth_oth hb k 0 hb.pos).symm) h1
theorem bnd_isW {g h : List Nd} (hg : GN g) (hh : GN h) {t : Bool} {ps : List Pz} {al : Pz → Bool} {Q : List Pz} (B : BND g h (0, 0, t) ps al) (R : RCH g h (0, 0, t) ps al Q) (hl : Q.length ≤ 200) :
  ∀ c, GW c → ∀ m, m < c.length → (∀ k, blP g c k (0, m, t)) → (∀ k, blP h c k (0, m, t)) → ∀ k, blP (lfG g h al Q) c k (0, m, t) := by
 obtain ⟨H, h0⟩ := gp_of hg hh B R hl;have hp : 0 < (lfG g h al Q).length := H.gn.pos;intro c hc m hm h1 h2 k;have := low_blW hg hh hc H (fun x hx w q hd hb => ?_) k 0 m hp hm (fun σ hσ => ?_)
 ·rw [h0] at this
  exact this
 ·have hx' : x < Q.length := by have := hx; unfold lfG at this; rwa [List.length_map] at this
  have hin := R.inn _ (lf_at g h al Q (0, 0, t) hx').2;exact alive_ofW hg hh hc B (B.sh _ hin q (List.of_mem_zip hd).2) hb
 ·rw [h0] at hσ ⊢
  cases σ
  ·exact h1
  ·exact h2
theorem BDR.low {g h L : List Nd} (hg : GN g) (hh : GN h) {t : Bool} {n : Nat} {a : OAd} {w' : World} (H : BDR g h t n a 0 w') (hI : isBnd g h t L) : ∀ c, GW c → ∀ m, m < c.length → (∀ k, blP g c k (0, m, t)) → (∀ k, blP h c k (0, m, t)) → ∀ k, blP L c k (0, m, t) := by
 obtain ⟨ps, al, B, ⟨_, _, _, h4⟩ | ⟨Q, R, ⟨_, _, _, h4⟩ | ⟨h1, _⟩⟩⟩ := H
 ·cases h4
 ·cases h4
 ·intro c hc m hm q1 q2 k
  have hJ := bnd_is hg hh B R h1;exact blP_trans (blP_alike hI.gn hJ.gn hI.gn.pos hJ.gn.pos (hI.uniq hJ) k t) (bnd_isW hg hh B R h1 c hc m hm q1 q2 k)
theorem BDR.none_ {g h : List Nd} (hg : GN g) (hh : GN h) {t : Bool} {n : Nat} {a : OAd} {w' : World} (H : BDR g h t n a 8 w') {c : List Nd} (hc : GW c) {m : Nat} (hm : m < c.length) (h1 : ∀ k, blP g c k (0, m, t)) (h2 : ∀ k, blP h c k (0, m, t)) : False := by
 obtain ⟨ps, al, B, ⟨q, _⟩ | ⟨Q, R, ⟨_, _, _, h4⟩ | ⟨_, h4, _⟩⟩⟩ := H
 ·have := alive_ofW hg hh hc B B.p0 ⟨m, hm, fun σ _ => by cases σ; exact h1; exact h2⟩
  rw [q] at this;cases this
 ·cases h4
 ·cases h4
structure DUO (g h G H : List Nd) : Prop where
 na : GN g
 nb : GN h
 lg : g.length ≤ 100
 lh : h.length ≤ 100
 nc : GN G
 nd : GN H
 eg : alikeG G (othG g) 0 0
 eh : alikeG H (othG h) 0 0
theorem DUO.up {g h G H : List Nd} (D : DUO g h G H) {M : List Nd} (hM : GW M) : ((∀ k, bl k M G 0 0) → ∀ k, bl k g (othG M) 0 0) ∧ ((∀ k, bl k M H 0 0) → ∀ k, bl k h (othG M) 0 0) := by
 have og := oth_gn D.na D.lg;have oh := oth_gn D.nb D.lh;refine ⟨fun q => bl_swap hM D.na.w fun k => ?_, fun q => bl_swap hM D.nb.w fun k => ?_⟩
 ·exact bl_trans k _ _ _ _ _ _ (q k) (bl_alike k G (othG g) 0 0 D.nc og D.nc.pos og.pos (D.eg k))
 ·exact bl_trans k _ _ _ _ _ _ (q k) (bl_alike k H (othG h) 0 0 D.nd oh D.nd.pos oh.pos (D.eh k))
theorem DUO.dn {g h G H : List Nd} (D : DUO g h G H) {J : List Nd} (hJ : GN J) (lJ : J.length ≤ 100) : ((∀ k, bl k g J 0 0) → ∀ k, bl k (othG J) G 0 0) ∧ ((∀ k, bl k h J 0 0) → ∀ k, bl k (othG J) H 0 0) := by
 have og := oth_gn D.na D.lg;have oh := oth_gn D.nb D.lh;refine ⟨fun q k => ?_, fun q k => ?_⟩
 ·exact bl_trans k _ _ _ _ _ _ ((bl_dual D.na hJ D.lg lJ k 0 0 D.na.pos hJ.pos).2 (q k)) (bl_alike k (othG g) G 0 0 og D.nc og.pos D.nc.pos (D.eg k).symm)
 ·exact bl_trans k _ _ _ _ _ _ ((bl_dual D.nb hJ D.lh lJ k 0 0 D.nb.pos hJ.pos).2 (q k)) (bl_alike k (othG h) H 0 0 oh D.nd oh.pos D.nd.pos (D.eh k).symm)
theorem DUO.no1 {g h G H : List Nd} (D : DUO g h G H) {n : Nat} {a : OAd} {w' : World} (K : BDR g h false n a 8 w') {M : List Nd} (I : isBnd G H true M) : False := by
 have om := oth_gw I.gn.w;exact K.none_ D.na D.nb om om.pos (fun k => (blP_ff ..).2 ((D.up I.gn.w).1 (fun k => (blP_tt ..).1 (I.u1 k)) k)) (fun k => (blP_ff ..).2 ((D.up I.gn.w).2 (fun k => (blP_tt ..).1 (I.u2 k)) k))
theorem DUO.no2 {g h G H : List Nd} (D : DUO g h G H) {n : Nat} {a : OAd} {w' : World} (K : BDR G H true n a 8 w') {J : List Nd} (I : isBnd g h false J) (lJ : J.length ≤ 100) : False := by
 have oj := oth_gn I.gn lJ;exact K.none_ D.nc D.nd oj.w oj.pos (fun k => (blP_tt ..).2 ((D.dn I.gn lJ).1 (fun k => (blP_ff ..).1 (I.u1 k)) k)) (fun k => (blP_tt ..).2 ((D.dn I.gn lJ).2 (fun k => (blP_ff ..).1 (I.u2 k)) k))
theorem DUO.is {g h G H : List Nd} (D : DUO g h G H) {n : Nat} {a : OAd} {w' : World} (K : BDR g h false n a 0 w') {J M : List Nd} (I : isBnd g h false J) (lJ : J.length ≤ 100) (I2 : isBnd G H true M) : alikeG (othG J) M 0 0 := fun k => by
 have oj := oth_gn I.gn lJ;have om := oth_gw I2.gn.w;have h1 : ∀ k, bl k (othG J) M 0 0 := fun k => (blP_tt ..).1 (I2.lo _ oj 0 oj.pos (fun k => (blP_tt ..).2 ((D.dn I.gn lJ).1 (fun k => (blP_ff ..).1 (I.u1 k)) k)) (fun k => (blP_tt ..).2 ((D.dn I.gn lJ).2 (fun k => (blP_ff ..).1 (I.u2 k)) k)) k)
 have h2 : ∀ k, bl k J (othG M) 0 0 := fun k => (blP_ff ..).1 (K.low D.na D.nb I _ om 0 om.pos (fun k => (blP_ff ..).2 ((D.up I2.gn.w).1 (fun k => (blP_tt ..).1 (I2.u1 k)) k)) (fun k => (blP_ff ..).2 ((D.up I2.gn.w).2 (fun k => (blP_tt ..).1 (I2.u2 k)) k)) k)
 exact bl_anti k (othG J) M 0 0 oj I2.gn oj.pos I2.gn.pos (h1 k) (bl_swap I.gn.w I2.gn.w h2 k)
end Go.Proofs.YtpamhimmdoimoaaGreatDoor
