/-
  Plain mathematics: what Put makes of an expression, and the names in it; for every right expression.
-/
import Derived.Test.YtclbillfffpknaaGreatDoorYa
namespace Go.Proofs.YtclbillfffpknaaGreatDoor
open Go.RowKit

/-- what put makes of a part -/
def putN (nm : ByteArray) (v : Vl) (p : Ex) : Ex := if p.kind = 2 ∧ p.name = nm then Ex.lit v else p
def putX (nm : ByteArray) (v : Vl) : Ex → Ex
  | ⟨kd, n, so, z, s, ks⟩ => putN nm v ⟨kd, n, so, z, s, ks.map (putX nm v)⟩
theorem putX_eq (nm : ByteArray) (v : Vl) (x : Ex) : putX nm v x = putN nm v ⟨x.kind, x.name, x.so, x.n, x.s, x.kids.map (putX nm v)⟩ := by cases x; rw [putX]
theorem putN_cases (nm : ByteArray) (v : Vl) (p : Ex) : (p.kind = 2 ∧ p.name = nm ∧ putN nm v p = Ex.lit v) ∨ (¬ (p.kind = 2 ∧ p.name = nm) ∧ putN nm v p = p) := by
  unfold putN
  by_cases h : p.kind = 2 ∧ p.name = nm
  · rw [if_pos h]; exact .inl ⟨h.1, h.2, rfl⟩
  · rw [if_neg h]; exact .inr ⟨h, rfl⟩
theorem map_wf (G : Ex → Ex) (x : Ex) (h : wfX x) (ih : ∀ k ∈ x.kids, wfX (G k)) : wfX ⟨x.kind, x.name, x.so, x.n, x.s, x.kids.map G⟩ := by
  by_cases h3 : x.kind = 3
  · obtain ⟨a, b, c, d⟩ := wf_form x h h3
    rw [h3, a, b, c]
    refine wf_op _ _ ?_ (by simpa using d)
    intro k hk
    obtain ⟨y, hy, rfl⟩ := List.mem_map.1 hk
    exact ih y hy
  · have : x.kids = [] := by
      rcases wf_cases x h with ⟨_, hk, _⟩ | ⟨_, hk, _⟩ | ⟨h', _⟩ | ⟨h', _⟩
      · exact hk
      · exact hk
      · exact absurd h' h3
      · exact absurd h' h3
    rw [this, List.map_nil, ← this]; cases x; exact h
theorem put_wf (nm : ByteArray) (v : Vl) (hv : v.good) : ∀ x : Ex, wfX x → wfX (putX nm v x) := by
  apply exInd
  intro x ih h
  have hp := map_wf (putX nm v) x h fun k hk => ih k hk (((wfX_eq x).1 h).2.2 k hk)
  rw [putX_eq]
  rcases putN_cases nm v ⟨x.kind, x.name, x.so, x.n, x.s, x.kids.map (putX nm v)⟩ with ⟨_, _, e⟩ | ⟨_, e⟩
  · rw [e]; exact wf_lit v hv
  · rw [e]; exact hp
theorem putN_size (nm : ByteArray) (v : Vl) (p : Ex) : sizeX (putN nm v p) ≤ sizeX p := by
  rcases putN_cases nm v p with ⟨_, _, e⟩ | ⟨_, e⟩
  · rw [e, sizeX_eq p, sizeX_eq (Ex.lit _)]; simp [Ex.lit]
  · rw [e]; exact Nat.le_refl _
theorem sum_leG (G : Ex → Ex) (ks : List Ex) (h : ∀ k ∈ ks, sizeX (G k) ≤ sizeX k) : ((ks.map G).map sizeX).sum ≤ (ks.map sizeX).sum := by
  induction ks with
  | nil => exact Nat.le_refl _
  | cons x ks ih =>
    simp only [List.map_cons, List.sum_cons]
    have h1 := h x (.head _)
    have h2 := ih (fun k hk => h k (.tail _ hk))
    omega
theorem put_size (nm : ByteArray) (v : Vl) : ∀ x : Ex, sizeX (putX nm v x) ≤ sizeX x := by
  apply exInd
  intro x ih
  rw [putX_eq, sizeX_eq x]
  refine Nat.le_trans (putN_size nm v _) ?_
  rw [sizeX_eq]
  have := sum_leG (putX nm v) x.kids ih
  simp only; omega
theorem put_chk (nm : ByteArray) (v : Vl) (hv : v.good) (x : Ex) (h : chkX x = 0) : chkX (putX nm v x) = 0 := by
  obtain ⟨h1, h2⟩ := (chkX_iff x).1 h
  exact (chkX_iff _).2 ⟨put_wf nm v hv x h1, Nat.le_trans (put_size nm v x) h2⟩
theorem put_leaf (nm : ByteArray) (v : Vl) (x : Ex) (h : ¬ (x.kind = 2 ∧ x.name = nm)) (hk : x.kids = []) : putX nm v x = x := by
  rw [putX_eq, hk, List.map_nil, ← hk]
  rcases putN_cases nm v ⟨x.kind, x.name, x.so, x.n, x.s, x.kids⟩ with ⟨a, b, _⟩ | ⟨_, e⟩
  · exact absurd ⟨a, b⟩ h
  · refine e.trans ?_; cases x; rfl
theorem put_hit (nm : ByteArray) (v : Vl) (x : Ex) (h : x.kind = 2) (h2 : x.name = nm) : putX nm v x = Ex.lit v := by
  rw [putX_eq]
  rcases putN_cases nm v ⟨x.kind, x.name, x.so, x.n, x.s, x.kids.map (putX nm v)⟩ with ⟨_, _, e⟩ | ⟨a, _⟩
  · exact e
  · exact absurd ⟨h, h2⟩ a
theorem put_op (nm : ByteArray) (v : Vl) (x : Ex) (h : x.kind = 3) : putX nm v x = ⟨x.kind, x.name, x.so, x.n, x.s, x.kids.map (putX nm v)⟩ := by
  rw [putX_eq]
  rcases putN_cases nm v ⟨x.kind, x.name, x.so, x.n, x.s, x.kids.map (putX nm v)⟩ with ⟨a, _, _⟩ | ⟨_, e⟩
  · exact absurd (show x.kind = 2 from a) (by omega)
  · exact e
/-- a name's place taken by a value: as if the name had that value -/
theorem put_same (nm : ByteArray) (v : Vl) (E E' : ByteArray → Int × Int) (F F' : ByteArray → Vl) (h1 : E' nm = (v.so, 0)) (h2 : F' nm = v) (h3 : ∀ n, n ≠ nm → E' n = E n) (h4 : ∀ n, n ≠ nm → F' n = F n) :
    ∀ x : Ex, wfX x → sortX E (putX nm v x) = sortX E' x ∧ valX F (putX nm v x) = valX F' x := by
  apply exInd
  intro x ih hw
  rcases wf_cases x hw with ⟨h, hk, _⟩ | ⟨h, hk, _⟩ | ⟨h, a, hk, ha, _⟩ | ⟨h, a, b, hk, ha, hb, _⟩
  · rw [put_leaf nm v x (by omega) hk, sort_lit E x h, sort_lit E' x h, val_lit F x h, val_lit F' x h]; exact ⟨rfl, rfl⟩
  · by_cases hn : x.name = nm
    · rw [put_hit nm v x h hn, sort_lit E _ rfl, val_lit F _ rfl, sort_name E' x h, val_name F' x h, hn, h1, h2]; exact ⟨rfl, rfl⟩
    · rw [put_leaf nm v x (fun e => hn e.2) hk, sort_name E x h, sort_name E' x h, val_name F x h, val_name F' x h, h3 _ hn, h4 _ hn]; exact ⟨rfl, rfl⟩
  · obtain ⟨s1, v1⟩ := ih a (by rw [hk]; exact .head _) ha
    rw [put_op nm v x h, hk, List.map_cons, List.map_nil, sort_one E ⟨x.kind, x.name, x.so, x.n, x.s, [putX nm v a]⟩ (putX nm v a) h rfl, val_one F ⟨x.kind, x.name, x.so, x.n, x.s, [putX nm v a]⟩ (putX nm v a) h rfl, sort_one E' x a h hk, val_one F' x a h hk, s1, v1]
    exact ⟨rfl, rfl⟩
  · obtain ⟨s1, v1⟩ := ih a (by rw [hk]; exact .head _) ha
    obtain ⟨s2, v2⟩ := ih b (by rw [hk]; exact .tail _ (.head _)) hb
    rw [put_op nm v x h, hk, List.map_cons, List.map_cons, List.map_nil, sort_two E ⟨x.kind, x.name, x.so, x.n, x.s, [putX nm v a, putX nm v b]⟩ (putX nm v a) (putX nm v b) h rfl, val_two F ⟨x.kind, x.name, x.so, x.n, x.s, [putX nm v a, putX nm v b]⟩ (putX nm v a) (putX nm v b) h rfl, sort_two E' x a b h hk, val_two F' x a b h hk, s1, v1, s2, v2]
    exact ⟨rfl, rfl⟩

/-- the names, as they stand -/
def nmsX : Ex → List ByteArray
  | ⟨kd, n, _, _, _, ks⟩ => if kd = 2 then [n] else (ks.map nmsX).flatten
theorem nmsX_eq (x : Ex) : nmsX x = if x.kind = 2 then [x.name] else (x.kids.map nmsX).flatten := by cases x; rw [nmsX]
theorem nms_small : ∀ x : Ex, wfX x → ∀ n ∈ nmsX x, n.size ≤ 8 := by
  apply exInd
  intro x ih hw n hn
  rw [nmsX_eq] at hn
  by_cases h : x.kind = 2
  · rw [if_pos h] at hn
    simp only [List.mem_singleton] at hn
    subst hn
    rcases wf_cases x hw with ⟨h', _⟩ | ⟨_, _, h1⟩ | ⟨h', _⟩ | ⟨h', _⟩
    · omega
    · unfold isNm at h1
      split at h1
      · cases h1
      · simp only [Bool.and_eq_true, decide_eq_true_eq] at h1
        have : x.name.size = x.name.data.toList.length := by simp
        omega
    · omega
    · omega
  · rw [if_neg h] at hn
    obtain ⟨l, hl, hn⟩ := List.mem_flatten.1 hn
    obtain ⟨k, hk, rfl⟩ := List.mem_map.1 hl
    exact ih k hk (((wfX_eq x).1 hw).2.2 k hk) n hn
theorem nms_len : ∀ x : Ex, (nmsX x).length ≤ sizeX x := by
  apply exInd
  intro x ih
  rw [nmsX_eq, sizeX_eq]
  by_cases h : x.kind = 2
  · rw [if_pos h]; simp
  · rw [if_neg h]
    have : ∀ ks : List Ex, (∀ k ∈ ks, (nmsX k).length ≤ sizeX k) → (ks.map nmsX).flatten.length ≤ (ks.map sizeX).sum := by
      intro ks
      induction ks with
      | nil => intro _; simp
      | cons y ks ihk =>
        intro hh
        have h1 := hh y (.head _)
        have h2 := ihk fun k hk => hh k (.tail _ hk)
        simp only [List.map_cons, List.flatten_cons, List.length_append, List.sum_cons]
        omega
    have := this x.kids ih
    omega
/-- the name is not in it any more -/
theorem put_gone (nm : ByteArray) (v : Vl) : ∀ x : Ex, wfX x → nm ∉ nmsX (putX nm v x) := by
  apply exInd
  intro x ih hw hn
  rcases wf_cases x hw with ⟨h, hk, _⟩ | ⟨h, hk, _⟩ | h'
  · rw [put_leaf nm v x (by omega) hk, nmsX_eq, if_neg (by omega), hk] at hn; simp at hn
  · by_cases he : x.name = nm
    · rw [put_hit nm v x h he, nmsX_eq, if_neg (by simp [Ex.lit])] at hn; simp [Ex.lit] at hn
    · rw [put_leaf nm v x (fun e => he e.2) hk, nmsX_eq, if_pos h] at hn
      simp only [List.mem_singleton] at hn
      exact he hn.symm
  · have h : x.kind = 3 := by rcases h' with h' | h' <;> exact h'.1
    rw [put_op nm v x h, nmsX_eq, if_neg (by simp only; omega)] at hn
    obtain ⟨l, hl, hn⟩ := List.mem_flatten.1 hn
    obtain ⟨y, hy, rfl⟩ := List.mem_map.1 hl
    obtain ⟨k, hk, rfl⟩ := List.mem_map.1 hy
    exact ih k hk (((wfX_eq x).1 hw).2.2 k hk) hn
/-- what hangs on the names alone -/
theorem names_same (E E' : ByteArray → Int × Int) (F F' : ByteArray → Vl) : ∀ x : Ex, wfX x → (∀ n ∈ nmsX x, E' n = E n ∧ F' n = F n) → sortX E x = sortX E' x ∧ valX F x = valX F' x := by
  apply exInd
  intro x ih hw hn
  rw [nmsX_eq] at hn
  rcases wf_cases x hw with ⟨h, hk, _⟩ | ⟨h, hk, _⟩ | ⟨h, a, hk, ha, _⟩ | ⟨h, a, b, hk, ha, hb, _⟩
  · rw [sort_lit E x h, sort_lit E' x h, val_lit F x h, val_lit F' x h]; exact ⟨rfl, rfl⟩
  · rw [if_pos h] at hn
    obtain ⟨e1, e2⟩ := hn x.name (.head _)
    rw [sort_name E x h, sort_name E' x h, val_name F x h, val_name F' x h, e1, e2]; exact ⟨rfl, rfl⟩
  · rw [if_neg (by omega), hk] at hn
    obtain ⟨s1, v1⟩ := ih a (by rw [hk]; exact .head _) ha (fun n h => hn n (by simp [h]))
    rw [sort_one E x a h hk, sort_one E' x a h hk, val_one F x a h hk, val_one F' x a h hk, s1, v1]; exact ⟨rfl, rfl⟩
  · rw [if_neg (by omega), hk] at hn
    obtain ⟨s1, v1⟩ := ih a (by rw [hk]; exact .head _) ha (fun n h => hn n (by simp [h]))
    obtain ⟨s2, v2⟩ := ih b (by rw [hk]; exact .tail _ (.head _)) hb (fun n h => hn n (by simp [h]))
    rw [sort_two E x a b h hk, sort_two E' x a b h hk, val_two F x a b h hk, val_two F' x a b h hk, s1, v1, s2, v2]; exact ⟨rfl, rfl⟩
end Go.Proofs.YtclbillfffpknaaGreatDoor
