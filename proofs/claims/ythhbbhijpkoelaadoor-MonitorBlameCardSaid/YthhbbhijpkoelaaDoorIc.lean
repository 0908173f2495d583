/-
  Plain mathematics: what is laid for a type does what the type does; it is a graph of the right shape.
-/
import Derived.Test.YthhbbhijpkoelaaDoorIa
import Derived.Test.YthhbbhijpkoelaaDoorHq
import Derived.Sort.Walk0
namespace Go.Proofs.YthhbbhijpkoelaaDoor

theorem layL_acc (ar : Ar) (n : Nat) : ∀ (ks : List Ty) (a : List Nat × List Nd), ks.foldl (fun (a : List Nat × List Nd) k => (a.1 ++ [(layP k ar (n + a.2.length)).1], a.2 ++ (layP k ar (n + a.2.length)).2)) a = (a.1 ++ (layL ar (n + a.2.length) ks).1, a.2 ++ (layL ar (n + a.2.length) ks).2)
  | [], a => by simp [layL]
  | k :: ks, a => by
    rw [List.foldl_cons, layL_acc ar n ks]
    have e : layL ar (n + a.2.length) (k :: ks) = ks.foldl (fun (b : List Nat × List Nd) k => (b.1 ++ [(layP k ar (n + a.2.length + b.2.length)).1], b.2 ++ (layP k ar (n + a.2.length + b.2.length)).2)) ([(layP k ar (n + a.2.length)).1], (layP k ar (n + a.2.length)).2) := rfl
    rw [e, layL_acc ar (n + a.2.length) ks]
    simp only [List.length_append, List.append_assoc, Nat.add_assoc]
theorem layL_cons (ar : Ar) (n : Nat) (k : Ty) (ks : List Ty) : layL ar n (k :: ks) = ((layP k ar n).1 :: (layL ar (n + (layP k ar n).2.length) ks).1, (layP k ar n).2 ++ (layL ar (n + (layP k ar n).2.length) ks).2) := by
  have e : layL ar n (k :: ks) = ks.foldl (fun (b : List Nat × List Nd) k => (b.1 ++ [(layP k ar (n + b.2.length)).1], b.2 ++ (layP k ar (n + b.2.length)).2)) ([(layP k ar n).1], (layP k ar n).2) := rfl
  rw [e, layL_acc ar n ks]
  rfl
/-- nodes stand in a graph from number n on -/
def inG (G : List Nd) (n : Nat) (l : List Nd) : Prop := ∀ i x, l[i]? = some x → G[n + i]? = some x
theorem inG.left {G : List Nd} {n : Nat} {l l' : List Nd} (h : inG G n (l ++ l')) : inG G n l := fun i x hx => h i x (by
  rw [List.getElem?_append_left (List.getElem?_eq_some_iff.1 hx).1]; exact hx)
theorem inG.right {G : List Nd} {n : Nat} {l l' : List Nd} (h : inG G n (l ++ l')) : inG G (n + l.length) l' := fun i x hx => by
  rw [Nat.add_assoc]
  exact h _ x (by rw [List.getElem?_append_right (by omega), Nat.add_sub_cancel_left]; exact hx)
theorem lay_idx : ∀ t : Ty, gdT t → idT t = false → ∀ ar n, (layP t ar n).1 = n := by
  apply tyInd
  intro t ih hg hi ar n
  by_cases h9 : t.kind = 9
  · rw [idT_var t h9] at hi; cases hi
  by_cases h8 : t.kind = 8
  · obtain ⟨q, hq, hgq, hiq⟩ := rec_parts hg h8
    rw [layP_rec t ar n h8 q hq]
    exact ih q (by rw [hq]; exact .head _) hgq hiq _ n
  · rw [layP_node t ar n h9 h8]
theorem meant_snoc (ar : Ar) (x y : ByteArray) (n : Nat) : meantP y (ar ++ [(x, n)]) = if x = y then n else meantP y ar := by
  unfold meantP; rw [List.foldl_append]; rfl
def envG (G : List Nd) (ar : Ar) : ByteArray → Dn := fun x k => gT G k (meantP x ar)
theorem env_snoc (G : List Nd) (ar : Ar) (x : ByteArray) (n : Nat) : envG G (ar ++ [(x, n)]) = upD (envG G ar) x (fun k => gT G k n) := by
  funext y k
  unfold envG upD
  rw [meant_snoc]
  by_cases h : x = y
  · rw [if_pos h, if_pos h.symm]
  · rw [if_neg h, if_neg (fun e => h e.symm)]
theorem nodeAt_some {G : List Nd} {n : Nat} {x : Nd} (h : G[n]? = some x) : nodeAt G n = x := by unfold nodeAt; rw [h]; rfl
/-- what is laid for a type does what the type does -/
theorem lay_den (G : List Nd) : ∀ t : Ty, gdT t → ∀ ar n, inG G n (layP t ar n).2 → den t (envG G ar) = fun k => gT G k (layP t ar n).1 := by
  apply tyInd
  intro t ih hg ar n hin
  obtain ⟨hp, _, hk⟩ := (gdT_eq t).1 hg
  by_cases h9 : t.kind = 9
  · rw [den_var t _ h9, layP_var t ar n h9]; rfl
  by_cases h8 : t.kind = 8
  · obtain ⟨q, hq, hgq, hiq⟩ := rec_parts hg h8
    have hm : q ∈ t.kids := by rw [hq]; exact .head _
    rw [layP_rec t ar n h8 q hq] at hin ⊢
    have h1 := ih q hm hgq (ar ++ [(t.name, n)]) n hin
    rw [lay_idx q hgq hiq] at h1 ⊢
    rw [env_snoc] at h1
    exact (den_one hg h8 hq (envG G ar) h1.symm).symm
  · rw [den_node t _ h9 h8]
    rw [layP_node t ar n h9 h8] at hin ⊢
    have h0 := nodeAt_some (hin 0 _ rfl)
    have hin1 : inG G (n + 1) (layL ar (n + 1) t.kids).2 := fun i x hx => by
      have := hin (i + 1) x hx
      rw [show n + (i + 1) = n + 1 + i by omega] at this
      exact this
    have hall : ∀ (ks : List Ty) (m : Nat), (∀ q ∈ ks, q ∈ t.kids) → inG G m (layL ar m ks).2 → (ks.map fun q => den q (envG G ar)) = (layL ar m ks).1.map fun x k => gT G k x := by
      intro ks
      induction ks with
      | nil => intro m _ _; rfl
      | cons q ks ihk =>
        intro m hm hin
        rw [layL_cons] at hin ⊢
        rw [List.map_cons, List.map_cons, ih q (hm q (.head _)) (hk q (hm q (.head _))) ar m hin.left, ihk _ (fun x hx => hm x (.tail _ hx)) hin.right]
    funext k
    cases k with
    | zero => rfl
    | succ k =>
      rw [hall t.kids (n + 1) (fun q hq => hq) hin1]
      show stD _ _ _ _ (k + 1) = gT G (k + 1) n
      rw [gT_succ, Nat.add_zero] at *
      rw [h0]
      simp only [stD, List.map_map]
      rfl
theorem lay_pos : ∀ t : Ty, gdT t → idT t = false → ∀ ar n, 0 < (layP t ar n).2.length := by
  apply tyInd
  intro t ih hg hi ar n
  by_cases h9 : t.kind = 9
  · rw [idT_var t h9] at hi; cases hi
  by_cases h8 : t.kind = 8
  · obtain ⟨q, hq, hgq, hiq⟩ := rec_parts hg h8
    rw [layP_rec t ar n h8 q hq]
    exact ih q (by rw [hq]; exact .head _) hgq hiq _ n
  · rw [layP_node t ar n h9 h8]; simp
/-- all that is laid leads to what is there -/
theorem lay_shut (N : Nat) : ∀ t : Ty, gdT t → ∀ ar n ns, clT t ns → (∀ x ∈ ns, meantP x ar < N) → n + (layP t ar n).2.length ≤ N → (idT t = false → n < N → (layP t ar n).1 < N) ∧ (idT t = true → (layP t ar n).1 < N) ∧ ∀ x ∈ (layP t ar n).2, ∀ y ∈ x.to, y < N := by
  apply tyInd
  intro t ih hg ar n ns hc hns hN
  obtain ⟨hp, _, hk⟩ := (gdT_eq t).1 hg
  obtain ⟨c1, c2⟩ := (clT_eq t ns).1 hc
  by_cases h9 : t.kind = 9
  · rw [layP_var t ar n h9]
    exact ⟨fun h => by (rw [idT_var t h9] at h; cases h), fun _ => hns _ (c1 h9), fun x hx => by cases hx⟩
  by_cases h8 : t.kind = 8
  · obtain ⟨q, hq, hgq, hiq⟩ := rec_parts hg h8
    have hm : q ∈ t.kids := by rw [hq]; exact .head _
    have hcq := c2 q hm
    rw [if_pos h8] at hcq
    rw [layP_rec t ar n h8 q hq] at hN ⊢
    have hnN : n < N := by have := lay_pos q hgq hiq (ar ++ [(t.name, n)]) n; omega
    have h1 := ih q hm hgq (ar ++ [(t.name, n)]) n (ns ++ [t.name]) hcq (fun x hx => by
      rw [meant_snoc]
      split
      · exact hnN
      · rename_i hne
        rcases List.mem_append.1 hx with hx | hx
        · exact hns x hx
        · exact absurd (List.mem_singleton.1 hx).symm hne) hN
    refine ⟨fun _ _ => h1.1 hiq hnN, fun h => ?_, h1.2.2⟩
    rw [idT_rec t h8 q hq, hiq] at h; cases h
  · rw [layP_node t ar n h9 h8] at hN ⊢
    simp only [List.length_cons] at hN
    have hall : ∀ (ks : List Ty) (m : Nat), (∀ q ∈ ks, q ∈ t.kids) → m + (layL ar m ks).2.length ≤ N → (∀ y ∈ (layL ar m ks).1, y < N) ∧ ∀ x ∈ (layL ar m ks).2, ∀ y ∈ x.to, y < N := by
      intro ks
      induction ks with
      | nil => intro m _ _; exact ⟨fun y hy => (by cases hy), fun x hx => (by cases hx)⟩
      | cons q ks ihk =>
        intro m hm hN
        rw [layL_cons] at hN ⊢
        simp only [List.length_append] at hN
        have hcq := c2 q (hm q (.head _))
        rw [if_neg h8] at hcq
        have hgq := hk q (hm q (.head _))
        obtain ⟨a1, a2, a3⟩ := ih q (hm q (.head _)) hgq ar m ns hcq hns (by omega)
        obtain ⟨b1, b2⟩ := ihk (m + (layP q ar m).2.length) (fun x hx => hm x (.tail _ hx)) (by omega)
        have hq1 : (layP q ar m).1 < N := by
          cases hi : idT q with
          | true => exact a2 hi
          | false =>
            exact a1 hi (by have := lay_pos q hgq hi ar m; omega)
        refine ⟨fun y hy => ?_, fun x hx => ?_⟩
        · rcases List.mem_cons.1 hy with rfl | hy
          · exact hq1
          · exact b1 y hy
        · rcases List.mem_append.1 hx with hx | hx
          · exact a3 x hx
          · exact b2 x hx
    obtain ⟨a1, a2⟩ := hall t.kids (n + 1) (fun q hq => hq) (by omega)
    refine ⟨fun _ h => h, fun h => by (rw [idT_node t h9 h8] at h; cases h), fun x hx => ?_⟩
    rcases List.mem_cons.1 hx with rfl | hx
    · exact a1
    · exact a2 x hx
/-- each node that is laid is a part of the type -/
theorem lay_parts (Q : Nd → Prop) (hQ : ∀ t : Ty, partT t = true → t.kind ≠ 9 → t.kind ≠ 8 → ∀ tos : List Nat, tos.length = t.kids.length → Q ⟨t.kind, t.so, t.labels, tos⟩) : ∀ t : Ty, gdT t → ∀ ar n, ∀ x ∈ (layP t ar n).2, Q x := by
  apply tyInd
  intro t ih hg ar n
  obtain ⟨hp, _, hk⟩ := (gdT_eq t).1 hg
  by_cases h9 : t.kind = 9
  · rw [layP_var t ar n h9]; intro x hx; cases hx
  by_cases h8 : t.kind = 8
  · obtain ⟨q, hq, hgq, hiq⟩ := rec_parts hg h8
    rw [layP_rec t ar n h8 q hq]
    exact ih q (by rw [hq]; exact .head _) hgq _ n
  · rw [layP_node t ar n h9 h8]
    have hall : ∀ (ks : List Ty) (m : Nat), (∀ q ∈ ks, q ∈ t.kids) → ∀ x ∈ (layL ar m ks).2, Q x := by
      intro ks
      induction ks with
      | nil => intro m _ x hx; cases hx
      | cons q ks ihk =>
        intro m hm x hx
        rw [layL_cons] at hx
        rcases List.mem_append.1 hx with hx | hx
        · exact ih q (hm q (.head _)) (hk q (hm q (.head _))) ar m x hx
        · exact ihk _ (fun x hx => hm x (.tail _ hx)) x hx
    intro x hx
    rcases List.mem_cons.1 hx with rfl | hx
    · exact hQ t hp h9 h8 _ (layL_len ar (n + 1) t.kids)
    · exact hall t.kids (n + 1) (fun q hq => hq) x hx
theorem isNm_size {l : ByteArray} (h : isNm l.data.toList = true) : l.size ≠ 0 ∧ l.size ≤ 1000 := by
  have e : l.size = l.data.toList.length := by rw [Array.length_toList]; rfl
  unfold isNm at h
  split at h
  · cases h
  · rw [Bool.and_eq_true, decide_eq_true_eq] at h
    omega
theorem labsOK_all {ls : List ByteArray} (h : labsOK ls = true) : ls.length ≤ 6 ∧ ∀ l ∈ ls, l.size ≠ 0 ∧ l.size ≤ 1000 := by
  unfold labsOK at h
  rw [Bool.and_eq_true, decide_eq_true_eq, List.all_eq_true] at h
  refine ⟨h.1.2, fun l hl => ?_⟩
  obtain ⟨i, hi, rfl⟩ := List.mem_iff_getElem.1 hl
  have := h.2 i (List.mem_range.2 hi)
  unfold labAt at this
  rw [Bool.and_eq_true, getD_at ls i hi] at this
  exact isNm_size this.1
theorem part_shp {t : Ty} (hp : partT t = true) (h9 : t.kind ≠ 9) (h8 : t.kind ≠ 8) (tos : List Nat) (hl : tos.length = t.kids.length) : shpN ⟨t.kind, t.so, t.labels, tos⟩ := by
  unfold partT at hp
  unfold shpN in64z
  simp only
  split at hp
  · rename_i h
    simp only [Bool.and_eq_true, decide_eq_true_eq] at hp
    have hn : t.labels = [] := List.length_eq_zero_iff.1 hp.1.2
    exact ⟨.inl ⟨h, by omega, hn⟩, by (rw [hn]; intro l hl; cases hl), by omega⟩
  split at hp
  · rename_i h
    simp only [Bool.and_eq_true, decide_eq_true_eq] at hp
    have hn : t.labels = [] := List.length_eq_zero_iff.1 hp.1.2
    exact ⟨.inr (.inl ⟨h, by omega, hn⟩), by (rw [hn]; intro l hl; cases hl), by omega⟩
  split at hp
  · rename_i h
    simp only [Bool.and_eq_true, decide_eq_true_eq] at hp
    have hn : t.labels = [] := List.length_eq_zero_iff.1 hp.1.2
    exact ⟨.inr (.inr (.inl ⟨h, by omega, hn⟩)), by (rw [hn]; intro l hl; cases hl), by omega⟩
  split at hp
  · rename_i h
    simp only [Bool.and_eq_true, decide_eq_true_eq] at hp
    obtain ⟨a1, a2⟩ := labsOK_all hp.1.2
    exact ⟨.inr (.inr (.inr ⟨h, by omega, a1⟩)), a2, by omega⟩
  · cases hp
theorem lay_gr {t : Ty} (h : chkTy t = 0) : GR1 (layP t [] 0).2 ∧ den t (fun _ _ => tr0) = fun k => gT (layP t [] 0).2 k 0 := by
  obtain ⟨hg, hc, hi⟩ := chkTy_gd t h
  obtain ⟨hw, hs⟩ := chkTy_good t h
  have hl := lay_size t hw [] 0
  have h1 := lay_shut (layP t [] 0).2.length t hg [] 0 [] hc (fun x hx => by cases hx) (by omega)
  have h2 := lay_den (layP t [] 0).2 t hg [] 0 (fun i x hx => by rw [Nat.zero_add]; exact hx)
  rw [lay_idx t hg hi] at h2
  refine ⟨⟨?_, by omega, lay_parts shpN (fun t hp h9 h8 tos hl => part_shp hp h9 h8 tos hl) t hg [] 0, fun x hx y hy => h1.2.2 x hx y hy⟩, ?_⟩
  · exact lay_pos t hg hi [] 0
  · rw [← h2]
    exact den_cl t hw [] _ _ hc (fun x hx => by cases hx)
end Go.Proofs.YthhbbhijpkoelaaDoor
/-
  Plain mathematics: nodes as Check lets them by; their labels rise; which is below which (GAY, HOLE) up to each depth: an order.
-/
namespace Go.Proofs.YthhbbhijpkoelaaDoor

def endT : Ty := ⟨1, 0, ⟨#[]⟩, [], []⟩
/-- a node as Check lets it by -/
def okN (n : Nd) : Prop := partT ⟨n.kind, n.so, ⟨#[]⟩, n.labs, n.to.map fun _ => endT⟩ = true
theorem okN_cases {n : Nd} (h : okN n) : (n.kind = 1 ∧ n.so = 0 ∧ n.labs = [] ∧ n.to.length = 0) ∨ ((n.kind = 2 ∨ n.kind = 3) ∧ (n.so = 1 ∨ n.so = 2 ∨ n.so = 3) ∧ n.labs = [] ∧ n.to.length = 1) ∨ ((n.kind = 4 ∨ n.kind = 5) ∧ n.so = 0 ∧ n.labs = [] ∧ n.to.length = 2) ∨ ((n.kind = 6 ∨ n.kind = 7) ∧ n.so = 0 ∧ labsOK n.labs = true ∧ n.to.length = n.labs.length) := by
  unfold okN partT at h
  simp only at h
  split at h
  · simp only [Bool.and_eq_true, decide_eq_true_eq, List.length_map] at h
    exact .inl ⟨‹_›, h.1.1.1, List.length_eq_zero_iff.1 h.1.2, h.2⟩
  split at h
  · simp only [Bool.and_eq_true, decide_eq_true_eq, List.length_map] at h
    exact .inr (.inl ⟨‹_›, h.1.1.1, List.length_eq_zero_iff.1 h.1.2, h.2⟩)
  split at h
  · simp only [Bool.and_eq_true, decide_eq_true_eq, List.length_map] at h
    exact .inr (.inr (.inl ⟨‹_›, h.1.1.1, List.length_eq_zero_iff.1 h.1.2, h.2⟩))
  split at h
  · simp only [Bool.and_eq_true, decide_eq_true_eq, List.length_map] at h
    exact .inr (.inr (.inr ⟨‹_›, h.1.1.1, h.1.2, h.2⟩))
  split at h
  · simp only [Bool.and_eq_true, decide_eq_true_eq] at h
    exact absurd h.1.1.2 (by decide)
  split at h
  · simp only [Bool.and_eq_true, decide_eq_true_eq] at h
    exact absurd h.1.1.2 (by decide)
  · cases h
theorem okN_shp {n : Nd} (h : okN n) : shpN n := by
  have hc := okN_cases h
  have := part_shp (t := ⟨n.kind, n.so, ⟨#[]⟩, n.labs, n.to.map fun _ => endT⟩) h (by simp only; omega) (by simp only; omega) n.to (by simp)
  exact this
theorem part_okN {t : Ty} (hp : partT t = true) (h9 : t.kind ≠ 9) (h8 : t.kind ≠ 8) (tos : List Nat) (hl : tos.length = t.kids.length) : okN ⟨t.kind, t.so, t.labels, tos⟩ := by
  unfold okN partT
  unfold partT at hp
  simp only [List.length_map, hl]
  rw [if_neg h8, if_neg h9] at hp
  rw [if_neg h8, if_neg h9]
  have he : (⟨#[]⟩ : ByteArray).toList.isEmpty = true := by rw [ByteArray.toList_eq]; rfl
  rw [he]
  split
  · rename_i h; rw [if_pos h] at hp; simp only [Bool.and_eq_true] at hp ⊢; exact ⟨⟨⟨hp.1.1.1, trivial⟩, hp.1.2⟩, hp.2⟩
  rename_i g1; rw [if_neg g1] at hp
  split
  · rename_i h; rw [if_pos h] at hp; simp only [Bool.and_eq_true] at hp ⊢; exact ⟨⟨⟨hp.1.1.1, trivial⟩, hp.1.2⟩, hp.2⟩
  rename_i g2; rw [if_neg g2] at hp
  split
  · rename_i h; rw [if_pos h] at hp; simp only [Bool.and_eq_true] at hp ⊢; exact ⟨⟨⟨hp.1.1.1, trivial⟩, hp.1.2⟩, hp.2⟩
  rename_i g3; rw [if_neg g3] at hp
  split
  · rename_i h; rw [if_pos h] at hp; simp only [Bool.and_eq_true] at hp ⊢; exact ⟨⟨⟨hp.1.1.1, trivial⟩, hp.1.2⟩, hp.2⟩
  rename_i g4; rw [if_neg g4] at hp
  exact hp

/-! ### Labels that rise -/
def ltB (a b : ByteArray) : Prop := a.toList < b.toList
theorem ltB_trans {a b c : ByteArray} (h : ltB a b) (h2 : ltB b c) : ltB a c := List.lt_trans h h2
theorem ltB_irr (a : ByteArray) : ¬ ltB a a := List.lt_irrefl _
theorem leB_no {a b : ByteArray} (h : leB a b = false) : ltB b a := by
  unfold leB at h
  rw [Bool.or_eq_false_iff, bytesLess_eq] at h
  have h1 : ¬ a.toList < b.toList := by simpa using h.1
  have h2 : a.toList ≠ b.toList := by simpa using h.2
  rcases Std.Trichotomous.rel_or_eq_or_rel_swap (r := (· < · : List UInt8 → List UInt8 → Prop)) (a := a.toList) (b := b.toList) with h' | h' | h'
  · exact absurd h' h1
  · exact absurd h' h2
  · exact h'
def rises (ls : List ByteArray) : Prop := ls.Pairwise ltB
theorem rises_of {ls : List ByteArray} (h : labsOK ls = true) : rises ls := by
  unfold labsOK at h
  rw [Bool.and_eq_true, List.all_eq_true] at h
  have hst : ∀ i (hi : i + 1 < ls.length), ltB ls[i] ls[i + 1] := by
    intro i hi
    have := h.2 (i + 1) (List.mem_range.2 hi)
    unfold labAt at this
    rw [Bool.and_eq_true, getD_at ls (i + 1) hi, Nat.add_sub_cancel, getD_at ls i (by omega)] at this
    have h2 := this.2
    simp at h2
    exact leB_no h2
  have hall : ∀ d i (hi : i + d + 1 < ls.length), ltB ls[i] ls[i + d + 1] := by
    intro d
    induction d with
    | zero => intro i hi; exact hst i hi
    | succ d ih => intro i hi; exact ltB_trans (ih i (by omega)) (hst (i + d + 1) (by omega))
  unfold rises
  rw [List.pairwise_iff_getElem]
  intro i j hi hj hij
  have := hall (j - i - 1) i (by omega)
  have e : i + (j - i - 1) + 1 = j := by omega
  simp only [e] at this
  exact this
theorem okN_rises {n : Nd} (h : okN n) : rises n.labs := by
  rcases okN_cases h with ⟨_, _, h3, _⟩ | ⟨_, _, h3, _⟩ | ⟨_, _, h3, _⟩ | ⟨_, _, h3, _⟩
  · rw [h3]; exact List.Pairwise.nil
  · rw [h3]; exact List.Pairwise.nil
  · rw [h3]; exact List.Pairwise.nil
  · exact rises_of h3
theorem rises_inj {ls : List ByteArray} (h : rises ls) {i j : Nat} (hi : i < ls.length) (hj : j < ls.length) (e : ls[i] = ls[j]) : i = j := by
  unfold rises at h
  rw [List.pairwise_iff_getElem] at h
  rcases Nat.lt_trichotomy i j with h1 | h1 | h1
  · have := h i j hi hj h1; rw [e] at this; exact absurd this (ltB_irr _)
  · exact h1
  · have := h j i hj hi h1; rw [e] at this; exact absurd this (ltB_irr _)
/-! ### Below -/
/-- what stands there itself does not speak against it -/
def okI (m n : Nd) : Prop := m.kind = n.kind ∧ m.so = n.so ∧ if m.kind = 7 then ∀ l ∈ m.labs, l ∈ n.labs else ∀ l ∈ n.labs, l ∈ m.labs
def toAt (n : Nd) (i : Nat) : Nat := (n.to[i]?).getD 0
end Go.Proofs.YthhbbhijpkoelaaDoor
