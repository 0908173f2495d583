/-
  Plain mathematics: the search of the first place at which one graph fails to be below another one, and what it tells.
-/
import Derived.Test.YtnlpnbelkkgghaaDoorId
import Derived.Test.YtnlpnbelkkgghaaDoorVa
namespace Go.Proofs.YtnlpnbelkkgghaaDoor

def failB (m n : Nd) : Bool := if m.kind ≠ n.kind ∨ m.so ≠ n.so then true else if m.kind = 7 then !(m.labs.all fun l => hasN n.labs l) else !(n.labs.all fun l => hasN m.labs l)
theorem failB_iff (m n : Nd) : failB m n = false ↔ okI m n := by
  unfold failB okI
  by_cases h1 : m.kind ≠ n.kind ∨ m.so ≠ n.so
  · rw [if_pos h1]
    constructor
    · intro h; cases h
    · rintro ⟨a, b, _⟩; rcases h1 with h1 | h1
      · exact absurd a h1
      · exact absurd b h1
  · rw [if_neg h1]
    have a : m.kind = n.kind := Decidable.byContradiction fun h => h1 (.inl h)
    have b : m.so = n.so := Decidable.byContradiction fun h => h1 (.inr h)
    by_cases h7 : m.kind = 7
    · rw [if_pos h7, if_pos h7]
      simp only [Bool.not_eq_false', List.all_eq_true, hasN_iff]
      exact ⟨fun h => ⟨a, b, h⟩, fun h => h.2.2⟩
    · rw [if_neg h7, if_neg h7]
      simp only [Bool.not_eq_false', List.all_eq_true, hasN_iff]
      exact ⟨fun h => ⟨a, b, h⟩, fun h => h.2.2⟩
def failP (g h : List Nd) (p : Pl) : Bool := if p.2.2 = true then failB (nodeAt h p.2.1) (nodeAt g p.1) else failB (nodeAt g p.1) (nodeAt h p.2.1)
theorem failP_iff (g h : List Nd) (p : Pl) : failP g h p = false ↔ okP g h p := by
  unfold failP okP
  split
  · exact failB_iff _ _
  · exact failB_iff _ _
def nextS (g h : List Nd) (p : Pl) : List Stp := stepsP (nodeAt g p.1) (nodeAt h p.2.1) p.2.2
def numP (h : Nat) (p : Pl) : Nat := (p.1 * h + p.2.1) * 2 + if p.2.2 = true then 1 else 0
theorem numP_lt {g h : Nat} {p : Pl} (h1 : p.1 < g) (h2 : p.2.1 < h) : numP h p < 2 * g * h := by
  unfold numP
  have : p.1 * h + h ≤ g * h := by
    have := Nat.mul_le_mul_right h (show p.1 + 1 ≤ g from h1)
    rw [Nat.add_mul, Nat.one_mul] at this
    exact this
  have e : 2 * g * h = 2 * (g * h) := Nat.mul_assoc 2 g h
  rw [e]
  split <;> omega
theorem numP_inj {h : Nat} {p q : Pl} (h1 : p.2.1 < h) (h2 : q.2.1 < h) (e : numP h p = numP h q) : p = q := by
  obtain ⟨a, b, t⟩ := p
  obtain ⟨a', b', t'⟩ := q
  unfold numP at e
  simp only at e h1 h2
  have e1 : a * h + b = a' * h + b' ∧ t = t' := by
    cases t <;> cases t' <;> simp at e ⊢ <;> omega
  have e2 : a = a' := by
    rcases Nat.lt_trichotomy a a' with hl | hl | hl
    · have := Nat.mul_le_mul_right h (show a + 1 ≤ a' from hl)
      rw [Nat.add_mul, Nat.one_mul] at this
      omega
    · exact hl
    · have := Nat.mul_le_mul_right h (show a' + 1 ≤ a from hl)
      rw [Nat.add_mul, Nat.one_mul] at this
      omega
  subst e2
  have e3 : b = b' := by omega
  rw [e3, e1.2]
theorem step_lt {g h : List Nd} (hg : GN g) (hh : GN h) {p : Pl} (h1 : p.1 < g.length) (h2 : p.2.1 < h.length) (ho : okP g h p) : ∀ s ∈ nextS g h p, s.2.1 < g.length ∧ s.2.2.1 < h.length := by
  have hk : (nodeAt g p.1).kind = (nodeAt h p.2.1).kind := by
    unfold okP at ho
    split at ho
    · exact ho.1.symm
    · exact ho.1
  have lg := okN_len (hg.at_ h1)
  have lh := okN_len (hh.at_ h2)
  intro s hs
  unfold nextS stepsP at hs
  split at hs
  · rename_i hc
    rw [List.mem_singleton] at hs; subst hs
    exact ⟨hg.to_ 0 (lg.1 hc), hh.to_ 0 (lh.1 (by rw [← hk]; exact hc))⟩
  split at hs
  · rename_i hc
    have q1 := lg.2.1 hc
    have q2 := lh.2.1 (by rw [← hk]; exact hc)
    rcases List.mem_cons.1 hs with rfl | hs
    · exact ⟨hg.to_ 0 (by omega), hh.to_ 0 (by omega)⟩
    · rw [List.mem_singleton] at hs; subst hs
      exact ⟨hg.to_ 1 q1, hh.to_ 1 q2⟩
  · obtain ⟨x, l, hx, hm, rfl⟩ := mem_lab.1 hs
    exact ⟨hg.to_ x (lg.2.2 x (List.getElem?_eq_some_iff.1 hx).1), hh.to_ _ (lh.2.2 _ (idxB_lt hm))⟩
end Go.Proofs.YtnlpnbelkkgghaaDoor
/-
  Plain mathematics: the search of below's places, from wherever it begins.
-/
namespace Go.Proofs.YtnlpnbelkkgghaaDoor

def okB (g h : List Nd) (p : Pl) : Prop := p.1 < g.length ∧ p.2.1 < h.length
theorem below_wld {g h : List Nd} (hg : GN g) (hh : GN h) : WLD (failP g h) (nextS g h) (okB g h) (numP h.length) (2 * g.length * h.length) :=
  ⟨fun p hp hf s hs => step_lt hg hh hp.1 hp.2 ((failP_iff g h p).1 hf) s hs, fun _ hp => numP_lt hp.1 hp.2, fun _ _ hp hq e => numP_inj hp.2 hq.2 e⟩
/-- the whole search from nodes m and n on -/
def srB (g h : List Nd) (m n : Nat) : Option Nat × List Av := srGA (failP g h) (nextS g h) (2 * g.length * h.length) (m, n, false)
theorem srB_bl {g h : List Nd} (hg : GN g) (hh : GN h) {m n : Nat} (hm : m < g.length) (hn : n < h.length) : (srB g h m n).1 = none ↔ ∀ k, bl k g h m n := by
  have := srGA_iff (below_wld hg hh) (p0 := (m, n, false)) ⟨hm, hn⟩ (fun k p => blP g h k p) (fun p => by unfold blP; split <;> trivial)
    (fun k p hp hf hs => blP_step hg hh hp.1 hp.2 ((failP_iff g h p).1 hf) hs) (fun k p hb => ⟨(failP_iff g h p).2 (blP_next hb).1, (blP_next hb).2⟩)
  unfold srB
  rw [this]
  constructor
  · intro h k; simpa [blP] using h k
  · intro h k; simpa [blP] using h k
def belB (g h : List Nd) (m n : Nat) : Bool := (srB g h m n).1.isNone
theorem belB_iff {g h : List Nd} (hg : GN g) (hh : GN h) {m n : Nat} (hm : m < g.length) (hn : n < h.length) : belB g h m n = true ↔ ∀ k, bl k g h m n := by
  unfold belB
  rw [Option.isNone_iff_eq_none]
  exact srB_bl hg hh hm hn
end Go.Proofs.YtnlpnbelkkgghaaDoor

/-
  Plain mathematics: the other end of a graph; one is below another one just if the other one's other end is below the one's (GAY, HOLE).
-/
namespace Go.Proofs.YtnlpnbelkkgghaaDoor

def kdD (k : Int) : Int := if k = 2 then 3 else if k = 3 then 2 else if k = 4 then 5 else if k = 5 then 4 else if k = 6 then 7 else if k = 7 then 6 else k
def tuL (n : Nd) (N : Nat) : List Nat := if n.kind = 4 ∨ n.kind = 5 then (match n.to with | [] => [] | a :: r => (a + N) :: r) else n.to
def keL (n : Nd) (N : Nat) : List Nat := n.to.map fun t => t + N
def othT (N : Nat) (n : Nd) : Nd := ⟨kdD n.kind, n.so, n.labs, tuL n N⟩
def othK (N : Nat) (n : Nd) : Nd := ⟨n.kind, n.so, n.labs, keL n N⟩
/-- each node turned, and behind all of these each as it is -/
def othG (g : List Nd) : List Nd := g.map (othT g.length) ++ g.map (othK g.length)
theorem okN_mk {n : Nd} (h : (n.kind = 1 ∧ n.so = 0 ∧ n.labs = [] ∧ n.to.length = 0) ∨ ((n.kind = 2 ∨ n.kind = 3) ∧ (n.so = 1 ∨ n.so = 2 ∨ n.so = 3) ∧ n.labs = [] ∧ n.to.length = 1) ∨ ((n.kind = 4 ∨ n.kind = 5) ∧ n.so = 0 ∧ n.labs = [] ∧ n.to.length = 2) ∨ ((n.kind = 6 ∨ n.kind = 7) ∧ n.so = 0 ∧ labsOK n.labs = true ∧ n.to.length = n.labs.length)) : okN n := by
  unfold okN partT
  have he : (⟨#[]⟩ : ByteArray).toList.isEmpty = true := by rw [ByteArray.toList_eq]; rfl
  simp only [List.length_map, he]
  rcases h with ⟨h1, h2, h3, h4⟩ | ⟨h1, h2, h3, h4⟩ | ⟨h1, h2, h3, h4⟩ | ⟨h1, h2, h3, h4⟩
  · rw [if_pos h1]; simp [h2, h3, h4]
  · rw [if_neg (by omega), if_pos h1]; simp [h2, h3, h4]
  · rw [if_neg (by omega), if_neg (by omega), if_pos h1]; simp [h2, h3, h4]
  · rw [if_neg (by omega), if_neg (by omega), if_neg (by omega), if_pos h1]; simp [h2, h3, h4]
theorem kdD_cases (k : Int) : (k = 2 → kdD k = 3) ∧ (k = 3 → kdD k = 2) ∧ (k = 4 → kdD k = 5) ∧ (k = 5 → kdD k = 4) ∧ (k = 6 → kdD k = 7) ∧ (k = 7 → kdD k = 6) ∧ (k = 1 → kdD k = 1) := by
  refine ⟨?_, ?_, ?_, ?_, ?_, ?_, ?_⟩ <;> (intro h; subst h; decide)
theorem tuL_len (n : Nd) (N : Nat) : (tuL n N).length = n.to.length := by
  unfold tuL
  split
  · split
    · rename_i e; rw [e]
    · rename_i e; rw [e]; rfl
  · rfl
theorem oth_ok {n : Nd} (N : Nat) (h : okN n) : okN (othT N n) ∧ okN (othK N n) := by
  have kd := kdD_cases n.kind
  have hl := tuL_len n N
  have hk : (keL n N).length = n.to.length := by simp [keL]
  constructor
  · refine okN_mk ?_
    show (kdD n.kind = 1 ∧ n.so = 0 ∧ n.labs = [] ∧ (tuL n N).length = 0) ∨ _
    rw [hl]
    rcases okN_cases h with ⟨h1, h2, h3, h4⟩ | ⟨h1, h2, h3, h4⟩ | ⟨h1, h2, h3, h4⟩ | ⟨h1, h2, h3, h4⟩
    · exact .inl ⟨kd.2.2.2.2.2.2 h1, h2, h3, h4⟩
    · exact .inr (.inl ⟨h1.elim (fun e => .inr (kd.1 e)) (fun e => .inl (kd.2.1 e)), h2, h3, by show (tuL n N).length = 1; omega⟩)
    · exact .inr (.inr (.inl ⟨h1.elim (fun e => .inr (kd.2.2.1 e)) (fun e => .inl (kd.2.2.2.1 e)), h2, h3, by show (tuL n N).length = 2; omega⟩))
    · exact .inr (.inr (.inr ⟨h1.elim (fun e => .inr (kd.2.2.2.2.1 e)) (fun e => .inl (kd.2.2.2.2.2.1 e)), h2, h3, by show (tuL n N).length = n.labs.length; omega⟩))
  · refine okN_mk ?_
    have := okN_cases h
    show (n.kind = 1 ∧ n.so = 0 ∧ n.labs = [] ∧ (keL n N).length = 0) ∨ ((n.kind = 2 ∨ n.kind = 3) ∧ (n.so = 1 ∨ n.so = 2 ∨ n.so = 3) ∧ n.labs = [] ∧ (keL n N).length = 1) ∨ ((n.kind = 4 ∨ n.kind = 5) ∧ n.so = 0 ∧ n.labs = [] ∧ (keL n N).length = 2) ∨ ((n.kind = 6 ∨ n.kind = 7) ∧ n.so = 0 ∧ labsOK n.labs = true ∧ (keL n N).length = n.labs.length)
    rw [hk]
    exact this
theorem oth_len (g : List Nd) : (othG g).length = 2 * g.length := by simp [othG]; omega
theorem tuL_lt {n : Nd} {N : Nat} (h : ∀ t ∈ n.to, t < N) : ∀ t ∈ tuL n N, t < 2 * N := by
  intro t ht
  unfold tuL at ht
  split at ht
  · split at ht
    · cases ht
    · rename_i a r e
      rcases List.mem_cons.1 ht with rfl | ht
      · have := h a (by rw [e]; exact .head _); omega
      · have := h t (by rw [e]; exact .tail _ ht); omega
  · have := h t ht; omega
theorem oth_gn {g : List Nd} (hg : GN g) (hl : g.length ≤ 100) : GN (othG g) := by
  refine ⟨by rw [oth_len]; have := hg.pos; omega, by rw [oth_len]; omega, fun n hn => ?_, fun n hn t ht => ?_⟩
  · unfold othG at hn
    rcases List.mem_append.1 hn with hn | hn
    · obtain ⟨m, hm, rfl⟩ := List.mem_map.1 hn; exact (oth_ok _ (hg.ok m hm)).1
    · obtain ⟨m, hm, rfl⟩ := List.mem_map.1 hn; exact (oth_ok _ (hg.ok m hm)).2
  · rw [oth_len]
    unfold othG at hn
    rcases List.mem_append.1 hn with hn | hn
    · obtain ⟨m, hm, rfl⟩ := List.mem_map.1 hn
      exact tuL_lt (fun t ht => hg.shut m hm t ht) t ht
    · obtain ⟨m, hm, rfl⟩ := List.mem_map.1 hn
      obtain ⟨x, hx, rfl⟩ := List.mem_map.1 ht
      have := hg.shut m hm x hx
      omega
theorem oth_at1 {g : List Nd} {i : Nat} (hi : i < g.length) : nodeAt (othG g) i = othT g.length (nodeAt g i) := by
  rw [nodeAt_lt g i hi]
  refine nodeAt_some ?_
  unfold othG
  rw [List.getElem?_append_left (by simpa using hi), List.getElem?_map, List.getElem?_eq_getElem hi]
  rfl
theorem oth_at2 {g : List Nd} {i : Nat} (hi : i < g.length) : nodeAt (othG g) (i + g.length) = othK g.length (nodeAt g i) := by
  rw [nodeAt_lt g i hi]
  refine nodeAt_some ?_
  unfold othG
  rw [List.getElem?_append_right (by simp), List.length_map, Nat.add_sub_cancel, List.getElem?_map, List.getElem?_eq_getElem hi]
  rfl
/-- what is kept does the same -/
theorem oth_kept {g : List Nd} (hg : GN g) : ∀ (k i : Nat), i < g.length → gT (othG g) k (i + g.length) = gT g k i
  | 0, _, _ => rfl
  | k + 1, i, hi => by
    rw [gT_eq_iff, oth_at2 hi]
    refine ⟨rfl, rfl, rfl, ?_⟩
    show (((nodeAt g i).to.map fun t => t + g.length).map _) = _
    rw [List.map_map]
    exact List.map_congr_left fun t ht => oth_kept hg k t (shut_at hg.shut i t ht)
theorem bl_resp {g h g' h' : List Nd} (Hg : GN g) (Hh : GN h) (Hg' : GN g') (Hh' : GN h') {k i j i' j' : Nat} (hi : i < g.length) (hj : j < h.length) (hi' : i' < g'.length) (hj' : j' < h'.length) (e1 : gT g' k i' = gT g k i) (e2 : gT h' k j' = gT h k j) : bl k g' h' i' j' ↔ bl k g h i j := by
  constructor
  · intro hb
    exact bl_trans k g g' h i i' j (bl_alike k g g' i i' Hg Hg' hi hi' e1.symm) (bl_trans k g' h' h i' j' j hb (bl_alike k h' h j' j Hh' Hh hj' hj e2))
  · intro hb
    exact bl_trans k g' g h' i' i j' (bl_alike k g' g i' i Hg' Hg hi' hi e1) (bl_trans k g h h' i j j' hb (bl_alike k h h' j j' Hh Hh' hj hj' e2.symm))
theorem tuL_0 {n : Nd} {N : Nat} (hk : n.kind = 4 ∨ n.kind = 5) (hl : 1 < n.to.length) : toAt (othT N n) 0 = toAt n 0 + N ∧ toAt (othT N n) 1 = toAt n 1 := by
  unfold toAt othT tuL
  simp only
  rw [if_pos hk]
  match hq : n.to, hl with
  | a :: b :: r, _ => exact ⟨rfl, rfl⟩
theorem tuL_x {n : Nd} {N : Nat} (hk : ¬ (n.kind = 4 ∨ n.kind = 5)) (x : Nat) : toAt (othT N n) x = toAt n x := by
  unfold toAt othT tuL
  simp only
  rw [if_neg hk]
end Go.Proofs.YtnlpnbelkkgghaaDoor
