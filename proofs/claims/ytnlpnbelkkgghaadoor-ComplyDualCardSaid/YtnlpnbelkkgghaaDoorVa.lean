/-
  Plain mathematics: the least graph: it does the same, it is one and the same for all graphs that do the same, and it has no more nodes.
-/
import Derived.Test.YtnlpnbelkkgghaaDoorHb
namespace Go.Proofs.YtnlpnbelkkgghaaDoor

/-- a node is reached: it is noted where no one of its class is -/
def addR (c R : List Nat) (t : Nat) : List Nat := if clAt c t ∈ R.map (clAt c) then R else R ++ [t]
/-- the number of a node's class, in the order in which they are reached -/
def idxR (c R : List Nat) (t : Nat) : Nat := (R.map (clAt c)).idxOf (clAt c t)
/-- those that are reached from the m-th on -/
def lstR (g : List Nd) (c : List Nat) : Nat → Nat → List Nat → List Nat
  | 0, _, R => R
  | f + 1, m, R => match R[m]? with
    | none => R
    | some i => lstR g c f (m + 1) ((nodeAt g i).to.foldl (addR c) R)
def mkN (g : List Nd) (c R : List Nat) (i : Nat) : Nd := ⟨(nodeAt g i).kind, (nodeAt g i).so, (nodeAt g i).labs, (nodeAt g i).to.map (idxR c R)⟩
def leastG (g : List Nd) (c : List Nat) : List Nd := (lstR g c g.length 0 [0]).map (mkN g c (lstR g c g.length 0 [0]))

/-- what stands while nodes are reached -/
structure RInv (g : List Nd) (c R : List Nat) (m : Nat) : Prop where
  hd : R[0]? = some 0
  lt : ∀ i ∈ R, i < g.length
  nd : (R.map (clAt c)).Nodup
  sh : ∀ k (h : k < R.length), k < m → ∀ t ∈ (nodeAt g R[k]).to, clAt c t ∈ R.map (clAt c)
theorem nodup_le : ∀ (n : Nat) (l : List Nat), l.Nodup → (∀ x ∈ l, x < n) → l.length ≤ n
  | 0, l, _, h => by
    cases l with
    | nil => simp
    | cons a l => exact absurd (h a (.head _)) (Nat.not_lt_zero _)
  | n + 1, l, hn, h => by
    have h1 : (l.erase n).Nodup := hn.erase n
    have h2 : ∀ x ∈ l.erase n, x < n := fun x hx => by
      have := (hn.mem_erase_iff).1 hx
      have := h x this.2
      omega
    have := nodup_le n _ h1 h2
    have h3 := List.length_erase (a := n) (l := l)
    split at h3 <;> omega
theorem RInv.len {g : List Nd} {c R : List Nat} {m : Nat} (h : RInv g c R m) (hc : CLS g c) : R.length ≤ g.length := by
  have := nodup_le g.length (R.map (clAt c)) h.nd (fun x hx => by
    obtain ⟨i, hi, rfl⟩ := List.mem_map.1 hx
    exact hc.lt i (h.lt i hi))
  simpa using this
theorem RInv.pos {g : List Nd} {c R : List Nat} {m : Nat} (h : RInv g c R m) : 0 < R.length := by
  rcases Nat.eq_zero_or_pos R.length with h0 | h0
  · have := h.hd; rw [List.getElem?_eq_none (by omega)] at this; cases this
  · exact h0
theorem addR_mem (c R : List Nat) (t : Nat) : clAt c t ∈ (addR c R t).map (clAt c) := by
  unfold addR; split
  · assumption
  · simp
theorem addR_pre (c R : List Nat) (t : Nat) : ∃ e, addR c R t = R ++ e := by
  unfold addR; split
  · exact ⟨[], by simp⟩
  · exact ⟨[t], rfl⟩
theorem fold_pre (c : List Nat) : ∀ (ts R : List Nat), ∃ e, ts.foldl (addR c) R = R ++ e
  | [], R => ⟨[], by simp⟩
  | t :: ts, R => by
    obtain ⟨e1, h1⟩ := addR_pre c R t
    obtain ⟨e2, h2⟩ := fold_pre c ts (addR c R t)
    exact ⟨e1 ++ e2, by rw [List.foldl_cons, h2, h1, List.append_assoc]⟩
theorem fold_mem (c : List Nat) : ∀ (ts R : List Nat), ∀ t ∈ ts, clAt c t ∈ (ts.foldl (addR c) R).map (clAt c)
  | [], _, t, h => by cases h
  | s :: ts, R, t, h => by
    rcases List.mem_cons.1 h with rfl | h
    · obtain ⟨e, he⟩ := fold_pre c ts (addR c R t)
      rw [List.foldl_cons, he, List.map_append]
      exact List.mem_append_left _ (addR_mem c R t)
    · exact fold_mem c ts _ t h
theorem RInv.pre {g : List Nd} {c R : List Nat} {m : Nat} (h : RInv g c R m) {e : List Nat} (hl : ∀ i ∈ R ++ e, i < g.length) (hn : ((R ++ e).map (clAt c)).Nodup) (hm : m ≤ R.length) : RInv g c (R ++ e) m := by
  refine ⟨?_, hl, hn, fun k hk hkm t ht => ?_⟩
  · rw [List.getElem?_append_left h.pos]; exact h.hd
  · rw [List.getElem_append_left (by omega)] at ht
    rw [List.map_append]
    exact List.mem_append_left _ (h.sh k (by omega) hkm t ht)
theorem RInv.add {g : List Nd} {c R : List Nat} {m : Nat} (h : RInv g c R m) (hm : m ≤ R.length) (t : Nat) (ht : t < g.length) : RInv g c (addR c R t) m := by
  unfold addR
  split
  · exact h
  · rename_i hn
    refine h.pre (fun i hi => ?_) ?_ hm
    · rcases List.mem_append.1 hi with hi | hi
      · exact h.lt i hi
      · rw [List.mem_singleton] at hi; subst hi; exact ht
    · rw [List.map_append, List.nodup_append]
      refine ⟨h.nd, by simp, fun a ha b hb => ?_⟩
      simp only [List.map_cons, List.map_nil, List.mem_singleton] at hb
      subst hb
      rintro rfl
      exact hn ha
theorem RInv.fold {g : List Nd} {c : List Nat} {m : Nat} : ∀ (ts R : List Nat), RInv g c R m → m ≤ R.length → (∀ t ∈ ts, t < g.length) → RInv g c (ts.foldl (addR c) R) m
  | [], R, h, _, _ => h
  | t :: ts, R, h, hm, ht => by
    obtain ⟨e, he⟩ := addR_pre c R t
    refine RInv.fold ts (addR c R t) (h.add hm t (ht t (.head _))) ?_ (fun s hs => ht s (.tail _ hs))
    rw [he]; simp; omega
theorem RInv.next {g : List Nd} {c R : List Nat} {m : Nat} (hs : shutG g) (h : RInv g c R m) (hm : m < R.length) : RInv g c ((nodeAt g R[m]).to.foldl (addR c) R) (m + 1) := by
  have h1 := RInv.fold (nodeAt g R[m]).to R h (Nat.le_of_lt hm) (fun t ht => shut_at hs _ t ht)
  refine ⟨h1.hd, h1.lt, h1.nd, fun k hk hkm t ht => ?_⟩
  by_cases e : k = m
  · subst e
    obtain ⟨x, hx⟩ := fold_pre c (nodeAt g R[k]).to R
    have : ((nodeAt g R[k]).to.foldl (addR c) R)[k] = R[k] := by
      rw [List.getElem_of_eq hx, List.getElem_append_left hm]
    rw [this] at ht
    exact fold_mem c _ R t ht
  · exact h1.sh k hk (by omega) t ht
theorem RInv.start {g : List Nd} {c : List Nat} (h0 : 0 < g.length) : RInv g c [0] 0 :=
  ⟨rfl, fun i hi => by rw [List.mem_singleton] at hi; omega, by simp, fun k _ h => absurd h (Nat.not_lt_zero _)⟩
/-- with as much fuel as there are nodes all is reached -/
theorem lst_inv {g : List Nd} {c : List Nat} (hs : shutG g) (hc : CLS g c) : ∀ (f m : Nat) (R : List Nat), RInv g c R m → m ≤ R.length → g.length ≤ f + m → ∃ M, RInv g c (lstR g c f m R) M ∧ (lstR g c f m R).length ≤ M
  | 0, m, R, h, _, hf => ⟨m, h, by have := h.len hc; simp only [lstR]; omega⟩
  | f + 1, m, R, h, hm, hf => by
    unfold lstR
    by_cases hlt : m < R.length
    · rw [List.getElem?_eq_getElem hlt]
      obtain ⟨e, he⟩ := fold_pre c (nodeAt g R[m]).to R
      exact lst_inv hs hc f (m + 1) _ (h.next hs hlt) (by rw [he]; simp; omega) (by omega)
    · rw [List.getElem?_eq_none (by omega)]
      exact ⟨m, h, Nat.le_of_not_lt hlt⟩
theorem idx_lt {c R : List Nat} {t : Nat} (h : clAt c t ∈ R.map (clAt c)) : idxR c R t < R.length := by
  have := List.idxOf_lt_length_of_mem h
  unfold idxR
  simpa using this
theorem idx_at {c R : List Nat} {t : Nat} (h : clAt c t ∈ R.map (clAt c)) : clAt c (R[idxR c R t]'(idx_lt h)) = clAt c t := by
  have := List.getElem_idxOf (List.idxOf_lt_length_of_mem h)
  rw [List.getElem_map] at this
  exact this
/-- the graph of what is reached does the same -/
theorem made_alike {g : List Nd} {c R : List Nat} {M : Nat} (hs : shutG g) (hc : CLS g c) (h : RInv g c R M) (hM : R.length ≤ M) : ∀ k m (hm : m < R.length), gT (R.map (mkN g c R)) k m = gT g k R[m]
  | 0, _, _ => rfl
  | k + 1, m, hm => by
    rw [gT_eq_iff]
    have e : nodeAt (R.map (mkN g c R)) m = mkN g c R R[m] := by rw [nodeAt_lt _ m (by simpa using hm), List.getElem_map]
    rw [e]
    refine ⟨rfl, rfl, rfl, ?_⟩
    show ((nodeAt g R[m]).to.map (idxR c R)).map _ = _
    rw [List.map_map]
    refine List.map_congr_left fun t ht => ?_
    have hmem := h.sh m hm (by omega) t ht
    show gT _ k (idxR c R t) = _
    rw [made_alike hs hc h hM k _ (idx_lt hmem)]
    exact (hc.eq _ _ (h.lt _ (List.getElem_mem _)) (shut_at hs _ t ht)).1 (idx_at hmem) k
theorem least_alike {g : List Nd} {c : List Nat} (hs : shutG g) (hc : CLS g c) (h0 : 0 < g.length) : alikeG (leastG g c) g 0 0 ∧ shutG (leastG g c) ∧ 0 < (leastG g c).length ∧ (leastG g c).length ≤ g.length := by
  obtain ⟨M, h, hM⟩ := lst_inv hs hc g.length 0 [0] (RInv.start h0) (Nat.zero_le _) (by omega)
  unfold leastG
  generalize lstR g c g.length 0 [0] = R at *
  have hp := h.pos
  refine ⟨fun k => ?_, fun n hn t ht => ?_, by simpa using hp, by simpa using h.len hc⟩
  · have := made_alike hs hc h hM k 0 hp
    have e : R[0] = 0 := by have := h.hd; rw [List.getElem?_eq_getElem hp] at this; exact Option.some.inj this
    rw [e] at this
    exact this
  · obtain ⟨i, hi, rfl⟩ := List.mem_map.1 hn
    obtain ⟨s, hs', rfl⟩ := List.mem_map.1 ht
    obtain ⟨k, hk, rfl⟩ := List.mem_iff_getElem.1 hi
    rw [List.length_map]
    exact idx_lt (h.sh k hk (by omega) s hs')

/-! ### One and the same -/
theorem idx_same : ∀ (l l' : List Nat) (a a' : Nat), l.length = l'.length → (∀ k (h : k < l.length) (h' : k < l'.length), l[k] = a ↔ l'[k] = a') → l.idxOf a = l'.idxOf a'
  | [], [], _, _, _, _ => rfl
  | [], b :: l', _, _, h, _ => by simp at h
  | b :: l, [], _, _, h, _ => by simp at h
  | b :: l, b' :: l', a, a', hl, h => by
    have h0 : b = a ↔ b' = a' := h 0 (by simp) (by simp)
    have ih := idx_same l l' a a' (by simpa using hl) (fun k hk hk' => h (k + 1) (by simpa using hk) (by simpa using hk'))
    rw [List.idxOf_cons, List.idxOf_cons]
    by_cases e : b = a
    · have e' := h0.1 e
      subst e e'
      simp
    · have e' : ¬ b' = a' := fun x => e (h0.2 x)
      have q1 : (b == a) = false := by simpa using e
      have q2 : (b' == a') = false := by simpa using e'
      rw [q1, q2, ih]
/-- two rows of nodes do the same, one by one -/
def corG (g h : List Nd) (R R' : List Nat) : Prop := R.length = R'.length ∧ ∀ k (hk : k < R.length) (hk' : k < R'.length), alikeG g h R[k] R'[k]
structure Two (g h : List Nd) (c c' : List Nat) : Prop where
  sg : shutG g
  sh : shutG h
  cg : CLS g c
  ch : CLS h c'
theorem cor_iff {g h : List Nd} {c c' : List Nat} (T : Two g h c c') {R R' : List Nat} (hl : ∀ i ∈ R, i < g.length) (hl' : ∀ i ∈ R', i < h.length) (hR : corG g h R R') {t t' : Nat} (ht : t < g.length) (ht' : t' < h.length) (e : alikeG g h t t') (k : Nat) (hk : k < R.length) (hk' : k < R'.length) : clAt c R[k] = clAt c t ↔ clAt c' R'[k] = clAt c' t' := by
  rw [T.cg.eq _ _ (hl _ (List.getElem_mem hk)) ht, T.ch.eq _ _ (hl' _ (List.getElem_mem hk')) ht']
  have := hR.2 k hk hk'
  exact ⟨fun x => alike_trans (alike_symm this) (alike_trans x e), fun x => alike_trans this (alike_trans x (alike_symm e))⟩
theorem cor_idx {g h : List Nd} {c c' : List Nat} (T : Two g h c c') {R R' : List Nat} (hl : ∀ i ∈ R, i < g.length) (hl' : ∀ i ∈ R', i < h.length) (hR : corG g h R R') {t t' : Nat} (ht : t < g.length) (ht' : t' < h.length) (e : alikeG g h t t') : idxR c R t = idxR c' R' t' := by
  unfold idxR
  refine idx_same _ _ _ _ (by simpa using hR.1) (fun k hk hk' => ?_)
  rw [List.getElem_map, List.getElem_map]
  exact cor_iff T hl hl' hR ht ht' e k (by simpa using hk) (by simpa using hk')
theorem mem_idx (c R : List Nat) (t : Nat) : clAt c t ∈ R.map (clAt c) ↔ idxR c R t < R.length := by
  constructor
  · exact idx_lt
  · intro h
    unfold idxR at h
    exact List.idxOf_lt_length_iff.1 (by simpa using h)
theorem cor_add {g h : List Nd} {c c' : List Nat} (T : Two g h c c') {R R' : List Nat} (hl : ∀ i ∈ R, i < g.length) (hl' : ∀ i ∈ R', i < h.length) (hR : corG g h R R') {t t' : Nat} (ht : t < g.length) (ht' : t' < h.length) (e : alikeG g h t t') : corG g h (addR c R t) (addR c' R' t') := by
  have hm : clAt c t ∈ R.map (clAt c) ↔ clAt c' t' ∈ R'.map (clAt c') := by
    rw [mem_idx, mem_idx, cor_idx T hl hl' hR ht ht' e, hR.1]
  unfold addR
  by_cases h1 : clAt c t ∈ R.map (clAt c)
  · rw [if_pos h1, if_pos (hm.1 h1)]; exact hR
  · rw [if_neg h1, if_neg (fun x => h1 (hm.2 x))]
    refine ⟨by simp [hR.1], fun k hk hk' => ?_⟩
    by_cases hkl : k < R.length
    · rw [List.getElem_append_left hkl, List.getElem_append_left (by rw [← hR.1]; exact hkl)]
      exact hR.2 k hkl (by rw [← hR.1]; exact hkl)
    · obtain rfl : k = R.length := by simp at hk; omega
      rw [List.getElem_append_right (Nat.le_refl _), List.getElem_append_right (by rw [hR.1]; exact Nat.le_refl _)]
      simpa using e
theorem addR_lt {g : List Nd} {c R : List Nat} {t : Nat} (hl : ∀ i ∈ R, i < g.length) (ht : t < g.length) : ∀ i ∈ addR c R t, i < g.length := by
  intro i hi
  unfold addR at hi
  split at hi
  · exact hl i hi
  · rcases List.mem_append.1 hi with hi | hi
    · exact hl i hi
    · rw [List.mem_singleton] at hi; subst hi; exact ht
theorem cor_fold {g h : List Nd} {c c' : List Nat} (T : Two g h c c') : ∀ (ts ts' R R' : List Nat), (∀ i ∈ R, i < g.length) → (∀ i ∈ R', i < h.length) → corG g h R R' → (∀ t ∈ ts, t < g.length) → (∀ t ∈ ts', t < h.length) → corG g h ts ts' →
    corG g h (ts.foldl (addR c) R) (ts'.foldl (addR c') R') ∧ (∀ i ∈ ts.foldl (addR c) R, i < g.length) ∧ (∀ i ∈ ts'.foldl (addR c') R', i < h.length)
  | [], [], R, R', hl, hl', hR, _, _, _ => ⟨hR, hl, hl'⟩
  | [], b :: ts', _, _, _, _, _, _, _, h => by have := h.1; simp at this
  | a :: ts, [], _, _, _, _, _, _, _, h => by have := h.1; simp at this
  | a :: ts, b :: ts', R, R', hl, hl', hR, ht, ht', hts => by
    have e : alikeG g h a b := hts.2 0 (by simp) (by simp)
    refine cor_fold T ts ts' (addR c R a) (addR c' R' b) (addR_lt hl (ht a (.head _))) (addR_lt hl' (ht' b (.head _))) (cor_add T hl hl' hR (ht a (.head _)) (ht' b (.head _)) e) (fun t h => ht t (.tail _ h)) (fun t h => ht' t (.tail _ h)) ⟨by have := hts.1; simpa using this, fun k hk hk' => ?_⟩
    exact hts.2 (k + 1) (by simpa using hk) (by simpa using hk')
theorem cor_lst {g h : List Nd} {c c' : List Nat} (T : Two g h c c') : ∀ (f m : Nat) (R R' : List Nat), (∀ i ∈ R, i < g.length) → (∀ i ∈ R', i < h.length) → corG g h R R' → corG g h (lstR g c f m R) (lstR h c' f m R')
  | 0, _, _, _, _, _, hR => hR
  | f + 1, m, R, R', hl, hl', hR => by
    unfold lstR
    by_cases hm : m < R.length
    · have hm' : m < R'.length := by rw [← hR.1]; exact hm
      rw [List.getElem?_eq_getElem hm, List.getElem?_eq_getElem hm']
      obtain ⟨_, _, _, hln, hn⟩ := alike_next (hR.2 m hm hm')
      obtain ⟨h1, h2, h3⟩ := cor_fold T (nodeAt g R[m]).to (nodeAt h R'[m]).to R R' hl hl' hR (fun t ht => shut_at T.sg _ t ht) (fun t ht => shut_at T.sh _ t ht) ⟨hln, hn⟩
      exact cor_lst T f (m + 1) _ _ h2 h3 h1
    · rw [List.getElem?_eq_none (by omega), List.getElem?_eq_none (by have := hR.1; omega)]
      exact hR
/-- fuel beyond what is wanted changes nothing -/
theorem lst_more {g : List Nd} {c : List Nat} (hs : shutG g) (hc : CLS g c) : ∀ (f f' m : Nat) (R : List Nat), RInv g c R m → m ≤ R.length → g.length ≤ f + m → f ≤ f' → lstR g c f' m R = lstR g c f m R
  | 0, f', m, R, h, hm, hf, _ => by
    have := h.len hc
    cases f' with
    | zero => rfl
    | succ f' => unfold lstR; rw [List.getElem?_eq_none (by omega)]
  | f + 1, 0, _, _, _, _, _, h => by omega
  | f + 1, f' + 1, m, R, h, hm, hf, hff => by
    unfold lstR
    by_cases hlt : m < R.length
    · rw [List.getElem?_eq_getElem hlt]
      obtain ⟨e, he⟩ := fold_pre c (nodeAt g R[m]).to R
      exact lst_more hs hc f f' (m + 1) _ (h.next hs hlt) (by rw [he]; simp; omega) (by omega) (by omega)
    · rw [List.getElem?_eq_none (by omega)]
/-- MYHILL, NERODE: graphs that do the same have one and the same least graph -/
theorem least_canon {g h : List Nd} {c c' : List Nat} (T : Two g h c c') (h0 : 0 < g.length) (h0' : 0 < h.length) (e : alikeG g h 0 0) : leastG g c = leastG h c' := by
  have H := cor_lst T (g.length + h.length) 0 [0] [0] (fun i hi => by rw [List.mem_singleton] at hi; omega) (fun i hi => by rw [List.mem_singleton] at hi; omega) ⟨rfl, fun k hk hk' => by
    obtain rfl : k = 0 := by simp at hk; omega
    exact e⟩
  rw [lst_more T.sg T.cg g.length _ 0 [0] (RInv.start h0) (Nat.zero_le _) (by omega) (by omega), lst_more T.sh T.ch h.length _ 0 [0] (RInv.start h0') (Nat.zero_le _) (by omega) (by omega)] at H
  obtain ⟨M, hI, hM⟩ := lst_inv T.sg T.cg g.length 0 [0] (RInv.start h0) (Nat.zero_le _) (by omega)
  obtain ⟨M', hI', hM'⟩ := lst_inv T.sh T.ch h.length 0 [0] (RInv.start h0') (Nat.zero_le _) (by omega)
  unfold leastG
  generalize lstR g c g.length 0 [0] = R at *
  generalize lstR h c' h.length 0 [0] = R' at *
  refine List.ext_getElem (by simpa using H.1) fun k hk hk' => ?_
  rw [List.getElem_map, List.getElem_map]
  have hkR : k < R.length := by simpa using hk
  have hkR' : k < R'.length := by simpa using hk'
  obtain ⟨a1, a2, a3, a4, a5⟩ := alike_next (H.2 k hkR hkR')
  unfold mkN
  rw [a1, a2, a3]
  congr 1
  refine List.ext_getElem (by simpa using a4) fun q hq hq' => ?_
  rw [List.getElem_map, List.getElem_map]
  have q1 : q < (nodeAt g R[k]).to.length := by simpa using hq
  have q2 : q < (nodeAt h R'[k]).to.length := by simpa using hq'
  exact cor_idx T hI.lt hI'.lt H (shut_at T.sg _ _ (List.getElem_mem q1)) (shut_at T.sh _ _ (List.getElem_mem q2)) (a5 q q1 q2)
theorem least_same {g h : List Nd} {c c' : List Nat} (T : Two g h c c') (h0 : 0 < g.length) (h0' : 0 < h.length) : leastG g c = leastG h c' ↔ alikeG g h 0 0 := by
  refine ⟨fun e => ?_, least_canon T h0 h0'⟩
  have h1 := (least_alike T.sg T.cg h0).1
  have h2 := (least_alike T.sh T.ch h0').1
  rw [← e] at h2
  exact alike_trans (alike_symm h1) h2
end Go.Proofs.YtnlpnbelkkgghaaDoor
/-
  Plain mathematics: a search that comes to each place once, on the first of the shortest ways; what it tells.
-/
namespace Go.Proofs.YtnlpnbelkkgghaaDoor

section
variable {α : Type}
abbrev Sg (α : Type) := ByteArray × α
abbrev Ag (α : Type) := Sg α × Nat
def plG (arr : List (Ag α)) : List α := arr.map fun v => v.1.2
def addG [DecidableEq α] (arr : List (Ag α)) (s : Sg α) (k : Nat) : List (Ag α) := if s.2 ∈ plG arr then arr else arr ++ [(s, k)]
def onG [DecidableEq α] (next : α → List (Sg α)) (k : Nat) (arr : List (Ag α)) (p : α) : List (Ag α) := (next p).foldl (fun a s => addG a s k) arr
def srG [DecidableEq α] (fail : α → Bool) (next : α → List (Sg α)) : Nat → Nat → List (Ag α) → Option Nat × List (Ag α)
  | 0, _, arr => (none, arr)
  | f + 1, k, arr => match arr[k]? with
    | none => (none, arr)
    | some v => if fail v.1.2 = true then (some k, arr) else srG fail next f (k + 1) (onG next k arr v.1.2)
def avG (p : α) : Ag α := ((⟨#[]⟩, p), 0)
theorem srG_stop [DecidableEq α] {fail : α → Bool} {next : α → List (Sg α)} {f k : Nat} {arr : List (Ag α)} (h : arr.length ≤ k) : srG fail next f k arr = (none, arr) := by
  cases f with
  | zero => rfl
  | succ f => unfold srG; rw [List.getElem?_eq_none h]
theorem srG_fail [DecidableEq α] {fail : α → Bool} {next : α → List (Sg α)} {f k : Nat} {arr : List (Ag α)} {v : Ag α} (hv : arr[k]? = some v) (hf : fail v.1.2 = true) : srG fail next (f + 1) k arr = (some k, arr) := by
  unfold srG; rw [hv]; simp only; rw [if_pos hf]
theorem srG_go [DecidableEq α] {fail : α → Bool} {next : α → List (Sg α)} {f k : Nat} {arr : List (Ag α)} {v : Ag α} (hv : arr[k]? = some v) (hf : fail v.1.2 = false) : srG fail next (f + 1) k arr = srG fail next f (k + 1) (onG next k arr v.1.2) := by
  conv => lhs; unfold srG
  rw [hv]; simp only; rw [if_neg (by rw [hf]; decide)]
/-- p is come to from p0 by n steps, none of which starts where it fails -/
def rch (fail : α → Bool) (next : α → List (Sg α)) (p0 : α) : Nat → α → Prop
  | 0, p => p = p0
  | n + 1, p => ∃ q, rch fail next p0 n q ∧ fail q = false ∧ ∃ s ∈ next q, s.2 = p
/-- what is known of the search's places -/
structure WLD (fail : α → Bool) (next : α → List (Sg α)) (ok : α → Prop) (num : α → Nat) (M : Nat) : Prop where
  step : ∀ p, ok p → fail p = false → ∀ s ∈ next p, ok s.2
  lt : ∀ p, ok p → num p < M
  inj : ∀ p q, ok p → ok q → num p = num q → p = q
/-- what is known while it is searched -/
structure SRg (fail : α → Bool) (next : α → List (Sg α)) (ok : α → Prop) (p0 : α) (k : Nat) (arr : List (Ag α)) : Prop where
  hd : arr[0]? = some (avG p0)
  nd : (plG arr).Nodup
  lt : ∀ p ∈ plG arr, ok p
  done : ∀ (i : Nat) (v : Ag α), i < k → arr[i]? = some v → fail v.1.2 = false ∧ ∀ s ∈ next v.1.2, s.2 ∈ plG arr
  src : ∀ p ∈ plG arr, ∃ n, rch fail next p0 n p
  way : ∀ (i : Nat) (v : Ag α), arr[i]? = some v → 0 < i → v.2 < i
  few : ∀ (i : Nat) (v : Ag α), arr[i]? = some v → v.2 ≤ k
variable {fail : α → Bool} {next : α → List (Sg α)} {ok : α → Prop} {num : α → Nat} {M : Nat}
theorem SRg.start {p0 : α} (h : ok p0) : SRg fail next ok p0 0 [avG p0] :=
  ⟨rfl, by simp [plG], fun p hp => by
    have : p = p0 := by simpa [plG, avG] using hp
    subst this; exact h, fun i v hi => absurd hi (Nat.not_lt_zero _), fun p hp => by
    have : p = p0 := by simpa [plG, avG] using hp
    subst this; exact ⟨0, rfl⟩, fun i v hv hi => by
    cases i with
    | zero => omega
    | succ i => simp at hv, fun i v hv => by
    cases i with
    | zero => simp at hv; subst hv; exact Nat.le_refl _
    | succ i => simp at hv⟩
theorem SRg.len (hW : WLD fail next ok num M) {p0 : α} {k : Nat} {arr : List (Ag α)} (hs : SRg fail next ok p0 k arr) : arr.length ≤ M := by
  have hn : ((plG arr).map num).Nodup := by
    have : ∀ l : List α, (∀ p ∈ l, ok p) → l.Nodup → (l.map num).Nodup := by
      intro l
      induction l with
      | nil => intro _ _; exact List.nodup_nil
      | cons p l ih =>
        intro hl hn
        rw [List.nodup_cons] at hn
        rw [List.map_cons, List.nodup_cons]
        refine ⟨fun hm => ?_, ih (fun q hq => hl q (.tail _ hq)) hn.2⟩
        obtain ⟨q, hq, e⟩ := List.mem_map.1 hm
        rw [hW.inj q p (hl q (.tail _ hq)) (hl p (.head _)) e] at hq
        exact hn.1 hq
    exact this _ hs.lt hs.nd
  have := nodup_le M _ hn (fun x hx => by
    obtain ⟨p, hp, rfl⟩ := List.mem_map.1 hx
    exact hW.lt p (hs.lt p hp))
  simpa [plG] using this
theorem addG_mem [DecidableEq α] (arr : List (Ag α)) (s : Sg α) (k : Nat) (p : α) : p ∈ plG (addG arr s k) ↔ p ∈ plG arr ∨ p = s.2 := by
  unfold addG
  split
  · rename_i hm
    constructor
    · exact .inl
    · rintro (h | rfl)
      · exact h
      · exact hm
  · simp [plG]
theorem addG_at [DecidableEq α] {arr : List (Ag α)} {s : Sg α} {k i : Nat} {v : Ag α} (h : (addG arr s k)[i]? = some v) : arr[i]? = some v ∨ (i = arr.length ∧ v = (s, k)) := by
  unfold addG at h
  split at h
  · exact .inl h
  · rw [List.getElem?_append] at h
    split at h
    · exact .inl h
    · rename_i hi
      have hil : i - arr.length = 0 := by
        have := (List.getElem?_eq_some_iff.1 h).1
        simp at this
        omega
      rw [hil] at h
      simp at h
      exact .inr ⟨by omega, h.symm⟩
theorem addG_old [DecidableEq α] {arr : List (Ag α)} {s : Sg α} {k i : Nat} {v : Ag α} (h : arr[i]? = some v) : (addG arr s k)[i]? = some v := by
  unfold addG
  split
  · exact h
  · rw [List.getElem?_append_left (List.getElem?_eq_some_iff.1 h).1]; exact h
/-- one place more -/
theorem SRg.add [DecidableEq α] (hW : WLD fail next ok num M) {p0 : α} {k : Nat} {arr : List (Ag α)} (hs : SRg fail next ok p0 k arr) {s : Sg α} {u : Ag α} (hk : arr[k]? = some u) (hf : fail u.1.2 = false) (hm : s ∈ next u.1.2) : SRg fail next ok p0 k (addG arr s k) := by
  have hmu : u.1.2 ∈ plG arr := List.mem_map.2 ⟨u, List.mem_of_getElem? hk, rfl⟩
  refine ⟨addG_old hs.hd, ?_, fun p hp => ?_, fun i v hi hv => ?_, fun p hp => ?_, fun i v hv h0 => ?_, fun i v hv => ?_⟩
  · unfold addG
    split
    · exact hs.nd
    · rename_i hn
      have e : plG (arr ++ [(s, k)]) = plG arr ++ [s.2] := by simp [plG]
      rw [e, List.nodup_append]
      refine ⟨hs.nd, by simp, fun a ha b hb => ?_⟩
      rw [List.mem_singleton] at hb
      subst hb
      rintro rfl
      exact hn ha
  · rcases (addG_mem arr s k p).1 hp with h1 | rfl
    · exact hs.lt p h1
    · exact hW.step _ (hs.lt _ hmu) hf s hm
  · rcases addG_at hv with h1 | ⟨rfl, _⟩
    · have := hs.done i v hi h1
      exact ⟨this.1, fun q hq => (addG_mem arr s k _).2 (.inl (this.2 q hq))⟩
    · have := (List.getElem?_eq_some_iff.1 hk).1
      omega
  · rcases (addG_mem arr s k p).1 hp with h1 | rfl
    · exact hs.src p h1
    · obtain ⟨n, hn⟩ := hs.src u.1.2 hmu
      exact ⟨n + 1, u.1.2, hn, hf, s, hm, rfl⟩
  · rcases addG_at hv with h1 | ⟨rfl, rfl⟩
    · exact hs.way i v h1 h0
    · exact (List.getElem?_eq_some_iff.1 hk).1
  · rcases addG_at hv with h1 | ⟨rfl, rfl⟩
    · exact hs.few i v h1
    · exact Nat.le_refl _
theorem foldG [DecidableEq α] {k : Nat} : ∀ (ss : List (Sg α)) (arr : List (Ag α)), (∀ (i : Nat) (v : Ag α), arr[i]? = some v → (ss.foldl (fun arr s => addG arr s k) arr)[i]? = some v) ∧ (∀ s ∈ ss, s.2 ∈ plG (ss.foldl (fun arr s => addG arr s k) arr)) ∧ ∀ p ∈ plG arr, p ∈ plG (ss.foldl (fun arr s => addG arr s k) arr)
  | [], arr => ⟨fun _ _ h => h, fun s hs => (by cases hs), fun _ h => h⟩
  | s :: ss, arr => by
    obtain ⟨h1, h2, h3⟩ := foldG (k := k) ss (addG arr s k)
    refine ⟨fun i v hv => h1 i v (addG_old hv), fun q hq => ?_, fun p hp => h3 p ((addG_mem arr s k p).2 (.inl hp))⟩
    rcases List.mem_cons.1 hq with rfl | hq
    · exact h3 _ ((addG_mem arr q k _).2 (.inr rfl))
    · exact h2 q hq
theorem SRg.fold [DecidableEq α] (hW : WLD fail next ok num M) {p0 : α} {k : Nat} {u : Ag α} (hf : fail u.1.2 = false) : ∀ (ss : List (Sg α)) (arr : List (Ag α)), SRg fail next ok p0 k arr → arr[k]? = some u → (∀ s ∈ ss, s ∈ next u.1.2) → SRg fail next ok p0 k (ss.foldl (fun arr s => addG arr s k) arr)
  | [], _, hs, _, _ => hs
  | s :: ss, arr, hs, hk, hm => SRg.fold hW hf ss (addG arr s k) (hs.add hW hk hf (hm s (.head _))) (addG_old hk) (fun q hq => hm q (.tail _ hq))
theorem SRg.on [DecidableEq α] (hW : WLD fail next ok num M) {p0 : α} {k : Nat} {arr : List (Ag α)} (hs : SRg fail next ok p0 k arr) {u : Ag α} (hk : arr[k]? = some u) (hf : fail u.1.2 = false) : SRg fail next ok p0 (k + 1) (onG next k arr u.1.2) := by
  have h1 := SRg.fold hW hf (next u.1.2) arr hs hk (fun s h => h)
  obtain ⟨f1, f2, f3⟩ := foldG (k := k) (next u.1.2) arr
  refine ⟨h1.hd, h1.nd, h1.lt, fun i v hi hv => ?_, h1.src, h1.way, fun i v hv => Nat.le_succ_of_le (h1.few i v hv)⟩
  by_cases e : i = k
  · subst e
    have : v = u := by
      have := f1 i u hk
      unfold onG at hv
      rw [this] at hv
      exact (Option.some.inj hv).symm
    subst this
    exact ⟨hf, f2⟩
  · exact h1.done i v (by omega) hv
theorem SRg.shut {p0 : α} {k : Nat} {arr : List (Ag α)} (hs : SRg fail next ok p0 k arr) (hk : arr.length ≤ k) : p0 ∈ plG arr ∧ ∀ p ∈ plG arr, fail p = false ∧ ∀ s ∈ next p, s.2 ∈ plG arr := by
  refine ⟨List.mem_map.2 ⟨avG p0, List.mem_of_getElem? hs.hd, rfl⟩, fun p hp => ?_⟩
  obtain ⟨v, hv, rfl⟩ := List.mem_map.1 hp
  obtain ⟨i, hi, e⟩ := List.mem_iff_getElem.1 hv
  exact hs.done i v (by omega) (by rw [List.getElem?_eq_getElem hi, e])
/-- what the search tells -/
theorem srG_tells [DecidableEq α] (hW : WLD fail next ok num M) {p0 : α} : ∀ (f k : Nat) (arr : List (Ag α)), SRg fail next ok p0 k arr → k ≤ arr.length → M ≤ f + k →
    (∀ j A, srG fail next f k arr = (some j, A) → j < A.length ∧ A.length ≤ M ∧ SRg fail next ok p0 j A ∧ ∃ v, A[j]? = some v ∧ fail v.1.2 = true) ∧ (∀ A, srG fail next f k arr = (none, A) → SRg fail next ok p0 A.length A)
  | 0, k, arr, hs, hk, hf => by
    unfold srG
    refine ⟨fun j A e => (by simp at e), fun A e => ?_⟩
    have hl := hs.len hW
    obtain rfl : arr = A := (Prod.mk.inj e).2
    have : k = arr.length := by omega
    subst this
    exact hs
  | f + 1, k, arr, hs, hk, hf => by
    by_cases hlt : k < arr.length
    · have hv : arr[k]? = some arr[k] := List.getElem?_eq_getElem hlt
      cases hfl : fail arr[k].1.2 with
      | true =>
        rw [srG_fail hv hfl]
        refine ⟨fun j A e => ?_, fun A e => (by simp at e)⟩
        simp only [Prod.mk.injEq, Option.some.injEq] at e
        obtain ⟨rfl, rfl⟩ := e
        exact ⟨hlt, hs.len hW, hs, _, hv, hfl⟩
      | false =>
        rw [srG_go hv hfl]
        refine srG_tells hW f (k + 1) _ (hs.on hW hv hfl) ?_ (by omega)
        have := (foldG (k := k) (next arr[k].1.2) arr).1 k arr[k] hv
        exact (List.getElem?_eq_some_iff.1 this).1
    · rw [srG_stop (by omega)]
      refine ⟨fun j A e => (by simp at e), fun A e => ?_⟩
      obtain rfl : arr = A := (Prod.mk.inj e).2
      have : k = arr.length := by omega
      subst this
      exact hs
/-- the whole search -/
def srGA [DecidableEq α] (fail : α → Bool) (next : α → List (Sg α)) (M : Nat) (p0 : α) : Option Nat × List (Ag α) := srG fail next M 0 [avG p0]
theorem srGA_none [DecidableEq α] (hW : WLD fail next ok num M) {p0 : α} (h0 : ok p0) {A : List (Ag α)} (h : srGA fail next M p0 = (none, A)) : SRg fail next ok p0 A.length A :=
  (srG_tells hW M 0 [avG p0] (SRg.start h0) (Nat.zero_le _) (by omega)).2 A h
theorem srGA_some [DecidableEq α] (hW : WLD fail next ok num M) {p0 : α} (h0 : ok p0) {A : List (Ag α)} {j : Nat} (h : srGA fail next M p0 = (some j, A)) : j < A.length ∧ A.length ≤ M ∧ SRg fail next ok p0 j A ∧ ∃ v, A[j]? = some v ∧ fail v.1.2 = true :=
  (srG_tells hW M 0 [avG p0] (SRg.start h0) (Nat.zero_le _) (by omega)).1 j A h
/-- what holds of all that is come to, if nothing fails; and is refuted by what fails -/
theorem srGA_iff [DecidableEq α] (hW : WLD fail next ok num M) {p0 : α} (h0 : ok p0) (B : Nat → α → Prop) (b0 : ∀ p, B 0 p) (bs : ∀ n p, ok p → fail p = false → (∀ s ∈ next p, B n s.2) → B (n + 1) p) (bn : ∀ n p, B (n + 1) p → fail p = false ∧ ∀ s ∈ next p, B n s.2) :
    (srGA fail next M p0).1 = none ↔ ∀ n, B n p0 := by
  cases e : srGA fail next M p0 with
  | mk o A =>
    cases o with
    | none =>
      refine ⟨fun _ => ?_, fun _ => rfl⟩
      have hs := srGA_none hW h0 e
      obtain ⟨h1, h2⟩ := hs.shut (Nat.le_refl _)
      have : ∀ n, ∀ p ∈ plG A, B n p := by
        intro n
        induction n with
        | zero => intro p _; exact b0 p
        | succ n ih => intro p hp; exact bs n p (hs.lt p hp) (h2 p hp).1 fun s hq => ih _ ((h2 p hp).2 s hq)
      exact fun n => this n p0 h1
    | some j =>
      refine ⟨fun h => (by cases h), fun hb => ?_⟩
      obtain ⟨_, _, hs, v, hv, hf⟩ := srGA_some hW h0 e
      obtain ⟨n, hn⟩ := hs.src v.1.2 (List.mem_map.2 ⟨v, List.mem_of_getElem? hv, rfl⟩)
      have : ∀ n p, rch fail next p0 n p → ∀ N, B N p := by
        intro n
        induction n with
        | zero => intro p hp N; rw [show p = p0 from hp]; exact hb N
        | succ n ih =>
          rintro p ⟨q, hq, _, s, hsm, rfl⟩ N
          exact (bn N q (ih q hq (N + 1))).2 s hsm
      have := (bn 0 _ (this n _ hn 1)).1
      rw [this] at hf; cases hf
/-- nothing fails that is come to by so many steps -/
def allG (fail : α → Bool) (next : α → List (Sg α)) : Nat → α → Prop
  | 0, _ => True
  | n + 1, p => fail p = false ∧ ∀ s ∈ next p, allG fail next n s.2
theorem srGA_all [DecidableEq α] (hW : WLD fail next ok num M) {p0 : α} (h0 : ok p0) : (srGA fail next M p0).1 = none ↔ ∀ n, allG fail next n p0 :=
  srGA_iff hW h0 (allG fail next) (fun _ => trivial) (fun _ _ _ hf hs => ⟨hf, hs⟩) (fun _ _ h => h)
/-- the way to an arrival, backwards -/
def wayG (arr : List (Ag α)) : Nat → Nat → List ByteArray
  | 0, _ => []
  | f + 1, k => if k = 0 then [] else match arr[k]? with
    | none => []
    | some v => v.1.1 :: wayG arr f v.2
theorem wayG_step {arr : List (Ag α)} {f k : Nat} {v : Ag α} (h0 : k ≠ 0) (hv : arr[k]? = some v) : wayG arr (f + 1) k = v.1.1 :: wayG arr f v.2 := by
  conv => lhs; unfold wayG
  rw [if_neg h0, hv]
theorem wayG_len (arr : List (Ag α)) (hw : ∀ (i : Nat) (v : Ag α), arr[i]? = some v → 0 < i → v.2 < i) : ∀ f k, k < arr.length → (wayG arr f k).length ≤ k
  | 0, k, _ => by simp [wayG]
  | f + 1, k, hk => by
    by_cases h0 : k = 0
    · subst h0; simp [wayG]
    · have hv : arr[k]? = some arr[k] := List.getElem?_eq_getElem hk
      have h1 := hw k arr[k] hv (by omega)
      rw [wayG_step h0 hv]
      have := wayG_len arr hw f arr[k].2 (by omega)
      simp only [List.length_cons]
      omega
theorem wayG_fuel {arr : List (Ag α)} (hw : ∀ (i : Nat) (v : Ag α), arr[i]? = some v → 0 < i → v.2 < i) : ∀ f k, k < arr.length → k ≤ f → wayG arr f k = wayG arr k k
  | 0, k, _, hf => by
    obtain rfl : k = 0 := by omega
    rfl
  | f + 1, 0, _, _ => by simp [wayG]
  | f + 1, k + 1, hk, hf => by
    have hv : arr[k + 1]? = some arr[k + 1] := List.getElem?_eq_getElem hk
    have h1 := hw (k + 1) arr[k + 1] hv (by omega)
    rw [wayG_step (by omega) hv, wayG_step (by omega) hv]
    have e1 := wayG_fuel hw f arr[k + 1].2 (by omega) (by omega)
    have e2 := wayG_fuel hw k arr[k + 1].2 (by omega) (by omega)
    rw [e1, e2]
def wayGA (arr : List (Ag α)) (k : Nat) : List ByteArray := wayG arr k k
theorem wayGA_step {arr : List (Ag α)} (hw : ∀ (i : Nat) (v : Ag α), arr[i]? = some v → 0 < i → v.2 < i) {k : Nat} {v : Ag α} (h0 : 0 < k) (hv : arr[k]? = some v) : wayGA arr k = v.1.1 :: wayGA arr v.2 := by
  have hk := (List.getElem?_eq_some_iff.1 hv).1
  have h1 := hw k v hv h0
  obtain ⟨k, rfl⟩ : ∃ j, k = j + 1 := ⟨k - 1, by omega⟩
  unfold wayGA
  rw [wayG_step (by omega) hv, wayG_fuel hw k v.2 (by omega) (by omega)]
end
end Go.Proofs.YtnlpnbelkkgghaaDoor
