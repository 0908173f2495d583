/-
  A region that draws its order, whose last operations wait for all ahead of them: the first ones in their written order, then the last ones one after another.
-/
import Derived.Test.YtfmegfgmkeicnaaDoorOf
namespace Go.Proofs.YtfmegfgmkeicnaaDoor

section
variable {P : Program} {ops : Array Oper} {Q : Exit → Act → World → Prop} {S : World → Prop}

/-- from number m on each operation waits for all ahead of it -/
def tailOK (ops : Array Oper) (m : Nat) : Bool := ops.toList.zipIdx.all fun q => decide (q.2 < m) || (List.range q.2).all fun j => waitsFor q.1 j
theorem tailOK_spec {m : Nat} (h : tailOK ops m = true) {i : Nat} {o : Oper} (hi : ops[i]? = some o) (hm : m ≤ i) {j : Nat} (hj : j < i) : waitsFor o j = true := by
  unfold tailOK at h
  have hi' : ops.toList[i]? = some o := by rw [Array.getElem?_toList]; exact hi
  have h1 := List.all_eq_true.1 h _ (mem_zip hi')
  simp only [Bool.or_eq_true, decide_eq_true_eq] at h1
  rcases h1 with h1 | h1
  · omega
  · exact List.all_eq_true.1 h1 j (List.mem_range.2 hj)
theorem any_tail (hOK : seqOK ops = true) {m : Nat} (hT : tailOK ops m = true) : ∀ (t : List Oper) (k : Nat), ops.toList.drop k = t → m ≤ k → ∀ (L : Array Bool), L.size = ops.size → (∀ i, i < ops.size → (L.getD i false = true ↔ i < k)) → ∀ (n : Nat), ops.size - k ≤ n → ∀ (a : Act) (w : World), wpList P ops Q t a w → wpAny P .any ops Q n L a w := by
  intro t
  induction t with
  | nil =>
    intro k hk _ L hL hl n _ a w h
    have hkn : ops.size ≤ k := by
      have := List.drop_eq_nil_iff.1 hk
      simpa using this
    refine wpAny_done ?_ h n
    unfold Region.ready
    rw [List.filter_eq_nil_iff]
    intro i hi
    have hi' := List.mem_range.1 hi
    have := (hl i hi').2 (by omega)
    rw [getD_bool (by omega) false true] at this
    simp [this]
  | cons o t ih =>
    intro k hk hmk L hL hl n hn a w h
    have hkn : k < ops.size := by
      apply Classical.byContradiction
      intro hge
      have : ops.toList.drop k = [] := List.drop_eq_nil_iff.2 (by simp; omega)
      rw [this] at hk; cases hk
    have hd := List.drop_eq_getElem_cons (l := ops.toList) (i := k) (by simpa using hkn)
    rw [hk] at hd
    have ho : ops[k]? = some o := by
      rw [Array.getElem?_eq_getElem hkn]
      have := (List.cons.inj hd).1
      rw [this]; simp
    have ht : ops.toList.drop (k + 1) = t := (List.cons.inj hd).2.symm
    obtain ⟨n, rfl⟩ : ∃ n', n = n' + 1 := ⟨n - 1, by omega⟩
    have hkm : k ∈ Region.ready .any ops L := mem_ready.2 ⟨by
      rw [getD_bool (by omega) true false]
      cases hq : L.getD k false with
      | false => rfl
      | true => exact absurd ((hl k hkn).1 hq) (Nat.lt_irrefl _), o, ho, fun e he hb => by
      have hlt := (seqOK_spec hOK ho).2.1 e he hb
      exact (hl e.on (by omega)).2 hlt⟩
    refine ⟨fun h0 => (by rw [h0] at hkm; cases hkm), fun i hi => ?_⟩
    obtain ⟨hun, oi, hoi, hdep⟩ := mem_ready.1 hi
    have hil : i < ops.size := (Array.getElem?_eq_some_iff.1 hoi).1
    have hik : i = k := by
      rw [getD_bool (by omega) true false] at hun
      rcases Nat.lt_trichotomy i k with q | q | q
      · rw [(hl i hil).2 q] at hun; cases hun
      · exact q
      · exfalso
        obtain ⟨e, he, hb, hon⟩ := waitsFor_iff.1 (tailOK_spec hT hoi (by omega) q)
        have := hdep e he hb
        rw [hon] at this
        exact absurd ((hl k hkn).1 this) (Nat.lt_irrefl _)
    subst hik
    have next : ∀ a' w', wpList P ops Q t a' w' → wpAny P .any ops Q n (L.setIfInBounds i true) a' w' := fun a' w' h' => ih (i + 1) ht (by omega) _ (by simp [hL]) (fun j hj => by
      by_cases hij : i = j
      · subst hij
        rw [set_at (by omega)]
        exact ⟨fun _ => Nat.lt_succ_self _, fun _ => rfl⟩
      · rw [getD_set_ne false hij, hl j hj]; omega) n (by omega) a' w' h'
    unfold wpOp
    simp only [ho]
    unfold wpList at h
    split
    · rename_i hw
      rw [if_pos hw] at h
      exact h.imp (Oper.wp_mono next) id
    · rename_i hw
      rw [if_neg hw] at h
      exact next _ _ h
set_option maxHeartbeats 1000000 in
theorem any_of_seqT (hOK : seqOK ops = true) {m : Nat} (hm : m ≤ ops.size) (hT : tailOK ops m = true) {a : Act} {A : Nat → Act} {V : Nat → Value} (h0 : A 0 = a) (h1 : ∀ i, i < m → ∃ o, ops[i]? = some o ∧ YldS P ops S o (V i) (A i) ∧ A (i + 1) = (A i).put o.dst (V i)) (h2 : ∀ w, S w → wpList P ops Q (ops.toList.drop m) (A m) w) :
    ∀ (n : Nat) (L : Array Bool) (b : Act) (w : World), SInvR ops a (A m) L b → (∀ i, m ≤ i → i < ops.size → L.getD i false = false) → S w → ((List.range m).filter fun i => !L.getD i true).length + (ops.size - m) ≤ n → wpAny P .any ops Q n L b w := by
  have hput : ∀ i o, i < m → ops[i]? = some o → A (i + 1) = (A i).put o.dst (V i) := fun i o him ho => by
    obtain ⟨o', q1, _, q3⟩ := h1 i him
    rw [ho] at q1; cases q1; exact q3
  have hdfs : ∀ i, i ≤ m → (A i).defers = a.defers ∧ (A i).tmps.size = a.tmps.size := by
    intro i
    induction i with
    | zero => intro _; rw [h0]; exact ⟨rfl, rfl⟩
    | succ i ih =>
      intro hi
      obtain ⟨o, q1, _, q3⟩ := h1 i hi
      rw [q3, put_dfs, act_size]; exact ih (by omega)
  have F1 : ∀ i, i ≤ m → ∀ t, (∀ k o, k < i → ops[k]? = some o → o.dst ≠ some t) → (A i).tmps[t]? = a.tmps[t]? := by
    intro i
    induction i with
    | zero => intro _ t _; rw [h0]
    | succ i ih =>
      intro hi t ht
      obtain ⟨o, q1, _, q3⟩ := h1 i hi
      rw [q3, put_ne _ _ _ _ (ht i o (Nat.lt_succ_self _) q1)]
      exact ih (by omega) t (fun k o hk => ht k o (by omega))
  have F2 : ∀ k o t, ops[k]? = some o → o.dst = some t → ∀ i, k + 1 ≤ i → i ≤ m → (A i).tmps[t]? = (A (k + 1)).tmps[t]? := by
    intro k o t hk hd i
    induction i with
    | zero => intro hi _; omega
    | succ i ih =>
      intro hki hi
      by_cases hq : i = k
      · subst hq; rfl
      obtain ⟨o', q1, _, q3⟩ := h1 i hi
      rw [q3, put_ne]
      · exact ih (by omega) (by omega)
      · intro q
        rcases ((seqOK_spec hOK q1).2.2 k o t hk hd).1 with e | e
        · omega
        · exact e q
  have fin : ∀ (n : Nat) (L : Array Bool) (b : Act) (w : World), SInvR ops a (A m) L b → (∀ i, m ≤ i → i < ops.size → L.getD i false = false) → S w → (∀ i, i < m → L.getD i false = true) → ops.size - m ≤ n → wpAny P .any ops Q n L b w := by
    intro n L b w hI hno hS hall hn
    have : b = A m := by
      have hd := hI.dfs.trans (hdfs _ (Nat.le_refl _)).1.symm
      have ht : b.tmps = (A m).tmps := by
        apply Array.ext_getElem?
        intro t
        by_cases hx : ∃ (i : Nat) (o : Oper), i < m ∧ ops[i]? = some o ∧ o.dst = some t
        · obtain ⟨i, o, him, q1, q2⟩ := hx
          exact hI.done i o t q1 q2 (hall i him)
        · have hn' : ∀ (i : Nat) (o : Oper), i < m → ops[i]? = some o → o.dst ≠ some t := fun i o him q1 q2 => hx ⟨i, o, him, q1, q2⟩
          rw [hI.rest t (fun i o q1 q2 => by
            by_cases him : i < m
            · exact absurd q2 (hn' i o him q1)
            · exact hno i (by omega) (Array.getElem?_eq_some_iff.1 q1).1), F1 _ (Nat.le_refl _) t (fun k o hk q => hn' k o hk q)]
      cases b; cases hA : A m; rw [hA] at hd ht; simp only at hd ht; rw [hd, ht]
    subst this
    exact any_tail hOK hT _ m rfl (Nat.le_refl _) L hI.size (fun i hi => ⟨fun q => Classical.byContradiction fun hge => (by
      rw [hno i (by omega) hi] at q; cases q), fun q => hall i q⟩) n hn _ w (h2 w hS)
  intro n
  induction n with
  | zero =>
    intro L b w hI hno hS hc
    exact fin 0 L b w hI hno hS (fun i hi => by
      have hnil : ((List.range m).filter fun i => !L.getD i true) = [] := List.length_eq_zero_iff.1 (by omega)
      have := List.filter_eq_nil_iff.1 hnil i (List.mem_range.2 hi)
      rw [getD_bool (by rw [hI.size]; omega) false true]
      simpa using this) (by omega)
  | succ n ih =>
    intro L b w hI hno hS hc
    by_cases hall : ∀ i, i < m → L.getD i false = true
    · exact fin (n + 1) L b w hI hno hS hall (by omega)
    have least : Region.ready .any ops L = [] → False := by
      intro hr
      apply hall
      intro i
      induction i using Nat.strongRecOn with
      | _ i ih =>
        intro hi
        have hi' : i < ops.size := by omega
        cases hq : L.getD i false with
        | true => rfl
        | false =>
          exfalso
          have hmm : i ∈ Region.ready .any ops L := mem_ready.2 ⟨by rw [getD_bool (by rw [hI.size]; exact hi') true false]; exact hq, ops[i], Array.getElem?_eq_getElem hi', fun e he hb => by
            have hlt := (seqOK_spec hOK (Array.getElem?_eq_getElem hi')).2.1 e he hb
            exact ih e.on hlt (by omega)⟩
          rw [hr] at hmm; cases hmm
    refine ⟨fun hr => (least hr).elim, fun j hj => ?_⟩
    obtain ⟨hun, oj, hoj, hdep⟩ := mem_ready.1 hj
    have hjl : j < ops.size := (Array.getElem?_eq_some_iff.1 hoj).1
    have hjm : j < m := by
      apply Classical.byContradiction
      intro hge
      apply hall
      intro i hi
      obtain ⟨e, he, hb, hon⟩ := waitsFor_iff.1 (tailOK_spec hT hoj (by omega) (show i < j by omega))
      have := hdep e he hb
      rw [hon] at this
      exact this
    have hunf : L.getD j false = false := by rw [getD_bool (by rw [hI.size]; exact hjl) false true]; exact hun
    obtain ⟨hsel, _, hpair⟩ := seqOK_spec hOK hoj
    obtain ⟨o', q1, hY, hA⟩ := h1 j hjm
    rw [hoj] at q1; cases q1
    have hlook : ∀ t ∈ oj.looksAt ops, b.tmps[t]? = (A j).tmps[t]? := by
      intro t ht
      by_cases hx : ∃ (i : Nat) (o : Oper), ops[i]? = some o ∧ o.dst = some t
      · obtain ⟨i, oi, hi, hd⟩ := hx
        have hil := (Array.getElem?_eq_some_iff.1 hi).1
        rcases (hpair i oi t hi hd).2 ht with ⟨hlt, hw⟩ | ⟨hlt, hw⟩
        · obtain ⟨e, he, hb, hon⟩ := waitsFor_iff.1 hw
          have hLi := hdep e he hb
          rw [hon] at hLi
          rw [hI.done i oi t hi hd hLi, F2 i oi t hi hd m (by omega) (Nat.le_refl _), F2 i oi t hi hd j (by omega) (by omega)]
        · have only : ∀ k o, ops[k]? = some o → o.dst = some t → k = i := fun k o hk hkd => by
            rcases ((seqOK_spec hOK hk).2.2 i oi t hi hd).1 with e | e
            · exact e.symm
            · exact absurd hkd e
          rw [hI.rest t (fun k o hk hkd => by
            obtain rfl := only k o hk hkd
            rw [hi] at hk; cases hk
            cases hq : L.getD k false with
            | false => rfl
            | true =>
              obtain ⟨e, he, hb, hon⟩ := waitsFor_iff.1 hw
              have := hI.shut k _ hi hq e he hb
              rw [hon, hunf] at this; cases this), F1 j (by omega) t (fun k o hk hko hkd => by
            have := only k o hko hkd; omega)]
      · have hn : ∀ (i : Nat) (o : Oper), ops[i]? = some o → o.dst ≠ some t := fun i o q1 q2 => hx ⟨i, o, q1, q2⟩
        rw [hI.rest t (fun i o q1 q2 => absurd q2 (hn i o q1)), F1 j (by omega) t (fun k o _ q => hn k o q)]
    have hszj := (hdfs j (by omega)).2
    have next : ∀ w', S w' → wpAny P .any ops Q n (L.setIfInBounds j true) (b.put oj.dst (V j)) w' := by
      intro w' hS'
      refine ih _ _ w' ⟨by simp [hI.size], ?_, ?_, ?_, by rw [put_dfs]; exact hI.dfs, by rw [act_size]; exact hI.sz⟩ (fun i h1 h2 => by rw [getD_set_ne false (by omega)]; exact hno i h1 h2) hS' ?_
      · intro i o hi hLi e he hb
        by_cases hij : j = i
        · subst hij
          rw [hoj] at hi; cases hi
          exact getD_set_true (hdep e he hb)
        · rw [getD_set_ne false hij] at hLi
          exact getD_set_true (hI.shut i o hi hLi e he hb)
      · intro i o t hi hd hLi
        by_cases hij : j = i
        · subst hij
          rw [hoj] at hi; cases hi
          rw [hd, F2 j oj t hoj hd m (by omega) (Nat.le_refl _), hput j oj hjm hoj, hd]
          exact put_at _ _ _ _ (by rw [hI.sz, hszj])
        · rw [getD_set_ne false hij] at hLi
          rw [put_ne _ _ _ _ (fun q => by
            rcases (hpair i o t hi hd).1 with e | e
            · exact hij e.symm
            · exact e q)]
          exact hI.done i o t hi hd hLi
      · intro t ht
        rw [put_ne _ _ _ _ (fun q => by
          have := ht j oj hoj q
          rw [set_at (by rw [hI.size]; exact hjl)] at this; cases this)]
        exact hI.rest t (fun i o hi hd => by
          have := ht i o hi hd
          by_cases hij : j = i
          · subst hij; exact hunf
          · rw [getD_set_ne false hij] at this; exact this)
      · have := count_less (p := fun i => !L.getD i true) (q := fun i => !(L.setIfInBounds j true).getD i true) (List.range m) (fun x _ hx => by
          by_cases hij : j = x
          · subst hij; rw [hun]; rfl
          · rw [getD_set_ne true hij] at hx; exact hx) ⟨j, List.mem_range.2 hjm, by rw [hun]; rfl, by rw [set_at (by rw [hI.size]; exact hjl)]; rfl⟩
        omega
    unfold wpOp
    simp only [hoj]
    rw [wanted_same (c := A j) hlook]
    rcases hY with ⟨hw, hy⟩ | ⟨hw, hv⟩
    · rw [if_pos hw]
      refine .inl ?_
      have := hy w hS
      unfold Oper.wp at this ⊢
      rw [exec_same hsel hlook]
      exact upon_turn (by rw [hI.sz, hszj]) next this
    · rw [if_neg (by rw [hw]; simp), ← hv]
      exact next w hS
theorem region_seqT {id : Nat} {a : Act} {w : World} (S : World → Prop) (m : Nat) (l : List Nat) (hl : List.range m = l) (hmm : decide (m ≤ ops.size) = true) (hm : P.follows .mixedOrders = true) (hOK : seqOK ops = true) (hT : tailOK ops m = true) (hS : S w.drew) (h : SeqS P ops S (fun a => ∀ w, S w → wpList P ops Q (ops.toList.drop m) a w) l a) : (Code.region id ops true).wp P Q a w := by
  rw [← hl, List.range_eq_range'] at h
  have hmo : m ≤ ops.size := of_decide_eq_true hmm
  obtain ⟨A, V, h0, h1, h2⟩ := SeqS.acts m 0 a h
  refine wp_region_any hm (any_of_seqT hOK hmo hT h0 (fun i hi => by simpa using h1 i hi) h2 ops.size _ a _ ⟨by simp, ?_, ?_, ?_, rfl, rfl⟩ ?_ hS ?_)
  · intro i o hi hL; simp [Array.getD] at hL
  · intro i o t hi hd hL; simp [Array.getD] at hL
  · intro t _; rfl
  · intro i _ hi; simp [Array.getD]
  · have := List.length_filter_le (fun i => !(Array.replicate ops.size false).getD i true) (List.range m)
    simp only [List.length_range] at this
    omega
end
end Go.Proofs.YtfmegfgmkeicnaaDoor
