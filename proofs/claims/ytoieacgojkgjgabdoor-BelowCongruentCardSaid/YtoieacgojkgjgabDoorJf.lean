/-
  Plain mathematics: the other end of a graph; one is below another one just if the other one's other end is below the one's (GAY, HOLE).
-/
import Derived.Test.YtoieacgojkgjgabDoorIe
namespace Go.Proofs.YtoieacgojkgjgabDoor

def kdD (k : Int) : Int := if k = 2 then 3 else if k = 3 then 2 else if k = 4 then 5 else if k = 5 then 4 else if k = 6 then 7 else if k = 7 then 6 else k
def tuL (n : Nd) (N : Nat) : List Nat := if n.kind = 4 ∨ n.kind = 5 then (match n.to with | [] => [] | a :: r => (a + N) :: r) else n.to
def keL (n : Nd) (N : Nat) : List Nat := n.to.map fun t => t + N
def othT (N : Nat) (n : Nd) : Nd := ⟨kdD n.kind, n.so, n.labs, tuL n N⟩
def othK (N : Nat) (n : Nd) : Nd := ⟨n.kind, n.so, n.labs, keL n N⟩
/-- each node turned, and behind all of these each as it is -/
def othG (g : List Nd) : List Nd := g.map (othT g.length) ++ g.map (othK g.length)
theorem okN_mk {n : Nd} (h : (n.kind = 1 ∧ n.so = 0 ∧ n.labs = [] ∧ n.to.length = 0) ∨ ((n.kind = 2 ∨ n.kind = 3) ∧ (n.so = 1 ∨ n.so = 2 ∨ n.so = 3) ∧ n.labs = [] ∧ n.to.length = 1) ∨ ((n.kind = 4 ∨ n.kind = 5) ∧ n.so = 0 ∧ n.labs = [] ∧ n.to.length = 2) ∨ ((n.kind = 6 ∨ n.kind = 7) ∧ n.so = 0 ∧ labsOK n.labs = true ∧ n.to.length = n.labs.length)) : okN n := by
  unfold okN partT
  have he : (⟨#[]⟩ : ByteArray).toList.isEmpty = true := by rw [ByteArray.toList_eq]; rfl
  simp only [List.length_map, he]
  rcases h with ⟨h1, h2, h3, h4⟩ | ⟨h1, h2, h3, h4⟩ | ⟨h1, h2, h3, h4⟩ | ⟨h1, h2, h3, h4⟩
  · rw [if_pos h1]; simp [h2, h3, h4]
  · rw [if_neg (by omega), if_pos h1]; simp [h2, h3, h4]
  · rw [if_neg (by omega), if_neg (by omega), if_pos h1]; simp [h2, h3, h4]
  · rw [if_neg (by omega), if_neg (by omega), if_neg (by omega), if_pos h1]; simp [h2, h3, h4]
theorem kdD_cases (k : Int) : (k = 2 → kdD k = 3) ∧ (k = 3 → kdD k = 2) ∧ (k = 4 → kdD k = 5) ∧ (k = 5 → kdD k = 4) ∧ (k = 6 → kdD k = 7) ∧ (k = 7 → kdD k = 6) ∧ (k = 1 → kdD k = 1) := by
  refine ⟨?_, ?_, ?_, ?_, ?_, ?_, ?_⟩ <;> (intro h; subst h; decide)
theorem tuL_len (n : Nd) (N : Nat) : (tuL n N).length = n.to.length := by
  unfold tuL
  split
  · split
    · rename_i e; rw [e]
    · rename_i e; rw [e]; rfl
  · rfl
theorem oth_ok {n : Nd} (N : Nat) (h : okN n) : okN (othT N n) ∧ okN (othK N n) := by
  have kd := kdD_cases n.kind
  have hl := tuL_len n N
  have hk : (keL n N).length = n.to.length := by simp [keL]
  constructor
  · refine okN_mk ?_
    show (kdD n.kind = 1 ∧ n.so = 0 ∧ n.labs = [] ∧ (tuL n N).length = 0) ∨ _
    rw [hl]
    rcases okN_cases h with ⟨h1, h2, h3, h4⟩ | ⟨h1, h2, h3, h4⟩ | ⟨h1, h2, h3, h4⟩ | ⟨h1, h2, h3, h4⟩
    · exact .inl ⟨kd.2.2.2.2.2.2 h1, h2, h3, h4⟩
    · exact .inr (.inl ⟨h1.elim (fun e => .inr (kd.1 e)) (fun e => .inl (kd.2.1 e)), h2, h3, by show (tuL n N).length = 1; omega⟩)
    · exact .inr (.inr (.inl ⟨h1.elim (fun e => .inr (kd.2.2.1 e)) (fun e => .inl (kd.2.2.2.1 e)), h2, h3, by show (tuL n N).length = 2; omega⟩))
    · exact .inr (.inr (.inr ⟨h1.elim (fun e => .inr (kd.2.2.2.2.1 e)) (fun e => .inl (kd.2.2.2.2.2.1 e)), h2, h3, by show (tuL n N).length = n.labs.length; omega⟩))
  · refine okN_mk ?_
    have := okN_cases h
    show (n.kind = 1 ∧ n.so = 0 ∧ n.labs = [] ∧ (keL n N).length = 0) ∨ ((n.kind = 2 ∨ n.kind = 3) ∧ (n.so = 1 ∨ n.so = 2 ∨ n.so = 3) ∧ n.labs = [] ∧ (keL n N).length = 1) ∨ ((n.kind = 4 ∨ n.kind = 5) ∧ n.so = 0 ∧ n.labs = [] ∧ (keL n N).length = 2) ∨ ((n.kind = 6 ∨ n.kind = 7) ∧ n.so = 0 ∧ labsOK n.labs = true ∧ (keL n N).length = n.labs.length)
    rw [hk]
    exact this
theorem oth_len (g : List Nd) : (othG g).length = 2 * g.length := by simp [othG]; omega
theorem tuL_lt {n : Nd} {N : Nat} (h : ∀ t ∈ n.to, t < N) : ∀ t ∈ tuL n N, t < 2 * N := by
  intro t ht
  unfold tuL at ht
  split at ht
  · split at ht
    · cases ht
    · rename_i a r e
      rcases List.mem_cons.1 ht with rfl | ht
      · have := h a (by rw [e]; exact .head _); omega
      · have := h t (by rw [e]; exact .tail _ ht); omega
  · have := h t ht; omega
theorem oth_gn {g : List Nd} (hg : GN g) (hl : g.length ≤ 100) : GN (othG g) := by
  refine ⟨by rw [oth_len]; have := hg.pos; omega, by rw [oth_len]; omega, fun n hn => ?_, fun n hn t ht => ?_⟩
  · unfold othG at hn
    rcases List.mem_append.1 hn with hn | hn
    · obtain ⟨m, hm, rfl⟩ := List.mem_map.1 hn; exact (oth_ok _ (hg.ok m hm)).1
    · obtain ⟨m, hm, rfl⟩ := List.mem_map.1 hn; exact (oth_ok _ (hg.ok m hm)).2
  · rw [oth_len]
    unfold othG at hn
    rcases List.mem_append.1 hn with hn | hn
    · obtain ⟨m, hm, rfl⟩ := List.mem_map.1 hn
      exact tuL_lt (fun t ht => hg.shut m hm t ht) t ht
    · obtain ⟨m, hm, rfl⟩ := List.mem_map.1 hn
      obtain ⟨x, hx, rfl⟩ := List.mem_map.1 ht
      have := hg.shut m hm x hx
      omega
theorem oth_at1 {g : List Nd} {i : Nat} (hi : i < g.length) : nodeAt (othG g) i = othT g.length (nodeAt g i) := by
  rw [nodeAt_lt g i hi]
  refine nodeAt_some ?_
  unfold othG
  rw [List.getElem?_append_left (by simpa using hi), List.getElem?_map, List.getElem?_eq_getElem hi]
  rfl
theorem oth_at2 {g : List Nd} {i : Nat} (hi : i < g.length) : nodeAt (othG g) (i + g.length) = othK g.length (nodeAt g i) := by
  rw [nodeAt_lt g i hi]
  refine nodeAt_some ?_
  unfold othG
  rw [List.getElem?_append_right (by simp), List.length_map, Nat.add_sub_cancel, List.getElem?_map, List.getElem?_eq_getElem hi]
  rfl
/-- what is kept does the same -/
theorem oth_kept {g : List Nd} (hg : GN g) : ∀ (k i : Nat), i < g.length → gT (othG g) k (i + g.length) = gT g k i
  | 0, _, _ => rfl
  | k + 1, i, hi => by
    rw [gT_eq_iff, oth_at2 hi]
    refine ⟨rfl, rfl, rfl, ?_⟩
    show (((nodeAt g i).to.map fun t => t + g.length).map _) = _
    rw [List.map_map]
    exact List.map_congr_left fun t ht => oth_kept hg k t (shut_at hg.shut i t ht)
theorem bl_resp {g h g' h' : List Nd} (Hg : GN g) (Hh : GN h) (Hg' : GN g') (Hh' : GN h') {k i j i' j' : Nat} (hi : i < g.length) (hj : j < h.length) (hi' : i' < g'.length) (hj' : j' < h'.length) (e1 : gT g' k i' = gT g k i) (e2 : gT h' k j' = gT h k j) : bl k g' h' i' j' ↔ bl k g h i j := by
  constructor
  · intro hb
    exact bl_trans k g g' h i i' j (bl_alike k g g' i i' Hg Hg' hi hi' e1.symm) (bl_trans k g' h' h i' j' j hb (bl_alike k h' h j' j Hh' Hh hj' hj e2))
  · intro hb
    exact bl_trans k g' g h' i' i j' (bl_alike k g' g i' i Hg' Hg hi' hi e1) (bl_trans k g h h' i j j' hb (bl_alike k h h' j j' Hh Hh' hj hj' e2.symm))
theorem tuL_0 {n : Nd} {N : Nat} (hk : n.kind = 4 ∨ n.kind = 5) (hl : 1 < n.to.length) : toAt (othT N n) 0 = toAt n 0 + N ∧ toAt (othT N n) 1 = toAt n 1 := by
  unfold toAt othT tuL
  simp only
  rw [if_pos hk]
  match hq : n.to, hl with
  | a :: b :: r, _ => exact ⟨rfl, rfl⟩
theorem tuL_x {n : Nd} {N : Nat} (hk : ¬ (n.kind = 4 ∨ n.kind = 5)) (x : Nat) : toAt (othT N n) x = toAt n x := by
  unfold toAt othT tuL
  simp only
  rw [if_neg hk]
theorem kdD_inj {n m : Nd} (hn : okN n) (hm : okN m) (h : kdD n.kind = kdD m.kind) : n.kind = m.kind := by
  have a := okN_cases hn
  have b := okN_cases hm
  unfold kdD at h
  split at h <;> split at h <;> (try omega) <;> (repeat' split at h) <;> omega
/-- GAY, HOLE: turned round -/
theorem bl_dual {g h : List Nd} (hg : GN g) (hh : GN h) (lg : g.length ≤ 100) (lh : h.length ≤ 100) : ∀ (k i j : Nat), i < g.length → j < h.length → (bl k (othG h) (othG g) j i ↔ bl k g h i j)
  | 0, _, _, _, _ => ⟨fun _ => trivial, fun _ => trivial⟩
  | k + 1, i, j, hi, hj => by
    have og := oth_gn hg lg
    have oh := oth_gn hh lh
    have ng := hg.at_ hi
    have nh := hh.at_ hj
    have cg := okN_cases ng
    have ch := okN_cases nh
    have Lg := okN_len ng
    have Lh := okN_len nh
    have kg := kdD_cases (nodeAt g i).kind
    have kh := kdD_cases (nodeAt h j).kind
    have kept : ∀ a b, a < g.length → b < h.length → (bl k (othG g) (othG h) (a + g.length) (b + h.length) ↔ bl k g h a b) := fun a b ha hb => bl_resp hg hh og oh ha hb (by rw [oth_len]; omega) (by rw [oth_len]; omega) (oth_kept hg k a ha) (oth_kept hh k b hb)
    have kept2 : ∀ a b, a < g.length → b < h.length → (bl k (othG h) (othG g) (b + h.length) (a + g.length) ↔ bl k h g b a) := fun a b ha hb => bl_resp hh hg oh og hb ha (by rw [oth_len]; omega) (by rw [oth_len]; omega) (oth_kept hh k b hb) (oth_kept hg k a ha)
    rw [bl_succ, bl_succ, oth_at1 hi, oth_at1 hj]
    have hkind : kdD (nodeAt h j).kind = kdD (nodeAt g i).kind ↔ (nodeAt g i).kind = (nodeAt h j).kind := ⟨fun e => (kdD_inj nh ng e).symm, fun e => by rw [e]⟩
    by_cases hK : (nodeAt g i).kind = (nodeAt h j).kind
    · have hlabs : okI (othT h.length (nodeAt h j)) (othT g.length (nodeAt g i)) ↔ okI (nodeAt g i) (nodeAt h j) := by
        unfold okI othT
        simp only
        rw [hkind]
        refine and_congr_right fun _ => and_congr (eq_comm) ?_
        rcases cg with ⟨c1, _, c3, _⟩ | ⟨c1, _, c3, _⟩ | ⟨c1, _, c3, _⟩ | ⟨c1 | c1, _, _, _⟩
        · have : (nodeAt h j).labs = [] := by rcases ch with ⟨_, _, d3, _⟩ | ⟨_, _, d3, _⟩ | ⟨_, _, d3, _⟩ | ⟨d1, _⟩ <;> first | exact d3 | omega
          rw [c3, this]; simp
        · have : (nodeAt h j).labs = [] := by rcases ch with ⟨_, _, d3, _⟩ | ⟨_, _, d3, _⟩ | ⟨_, _, d3, _⟩ | ⟨d1, _⟩ <;> first | exact d3 | omega
          rw [c3, this]; simp
        · have : (nodeAt h j).labs = [] := by rcases ch with ⟨_, _, d3, _⟩ | ⟨_, _, d3, _⟩ | ⟨_, _, d3, _⟩ | ⟨d1, _⟩ <;> first | exact d3 | omega
          rw [c3, this]; simp
        · rw [kh.2.2.2.2.1 (by rw [← hK]; exact c1), if_pos rfl, c1, if_neg (by decide)]
        · rw [kh.2.2.2.2.2.1 (by rw [← hK]; exact c1), if_neg (by decide), c1, if_pos rfl]
      rw [hlabs]
      refine and_congr_right fun _ => ?_
      have ek : (othT h.length (nodeAt h j)).kind = kdD (nodeAt h j).kind := rfl
      have el1 : (othT h.length (nodeAt h j)).labs = (nodeAt h j).labs := rfl
      have el2 : (othT g.length (nodeAt g i)).labs = (nodeAt g i).labs := rfl
      rw [ek, el1, el2]
      rcases cg with ⟨c1, _, c3, c4⟩ | ⟨c1, _, c3, c4⟩ | ⟨c1 | c1, _, c3, c4⟩ | ⟨c1, _, _, c4⟩
      · have k1 : kdD (nodeAt h j).kind = 1 := kh.2.2.2.2.2.2 (by rw [← hK]; exact c1)
        rw [k1, c1, c3]
        constructor
        · intro _
          exact ⟨fun h => by omega, fun h => by omega, fun h => by omega, fun x y l hx => by simp at hx⟩
        · intro _
          exact ⟨fun h => by omega, fun h => by omega, fun h => by omega, fun x y l _ hy => by simp at hy⟩
      · have e1 := tuL_x (n := nodeAt g i) (N := g.length) (by omega)
        have e2 := tuL_x (n := nodeAt h j) (N := h.length) (by omega)
        have D := bl_dual hg hh lg lh k (toAt (nodeAt g i) 0) (toAt (nodeAt h j) 0) (hg.to_ 0 (by omega)) (hh.to_ 0 (Lh.1 (by rw [← hK]; exact c1)))
        have k1 : kdD (nodeAt h j).kind = 2 ∨ kdD (nodeAt h j).kind = 3 := c1.elim (fun e => .inr (kh.1 (by rw [← hK]; exact e))) (fun e => .inl (kh.2.1 (by rw [← hK]; exact e)))
        rw [e1, e2, c3]
        constructor
        · rintro ⟨q1, _⟩
          exact ⟨fun _ => D.1 (q1 k1), fun h => by omega, fun h => by omega, fun x y l hx => by simp at hx⟩
        · rintro ⟨q1, _⟩
          exact ⟨fun _ => D.2 (q1 c1), fun h => by omega, fun h => by omega, fun x y l _ hy => by simp at hy⟩
      · have e1 := tuL_0 (N := g.length) (.inl c1) (Lg.2.1 (.inl c1))
        have hm4 : (nodeAt h j).kind = 4 := by rw [← hK]; exact c1
        have e2 := tuL_0 (N := h.length) (.inl hm4) (Lh.2.1 (.inl hm4))
        have l2 := Lh.2.1 (.inl hm4)
        have D := bl_dual hg hh lg lh k (toAt (nodeAt g i) 1) (toAt (nodeAt h j) 1) (hg.to_ 1 (by omega)) (hh.to_ 1 l2)
        have Kp := kept2 (toAt (nodeAt g i) 0) (toAt (nodeAt h j) 0) (hg.to_ 0 (by omega)) (hh.to_ 0 (by omega))
        have k1 : kdD (nodeAt h j).kind = 5 := kh.2.2.1 hm4
        rw [e1.1, e1.2, e2.1, e2.2, c3, k1, c1]
        constructor
        · rintro ⟨_, _, q3, _⟩
          exact ⟨fun h => by omega, fun _ => ⟨Kp.1 (q3 rfl).1, D.1 (q3 rfl).2⟩, fun h => by omega, fun x y l hx => by simp at hx⟩
        · rintro ⟨_, q2, _, _⟩
          exact ⟨fun h => by omega, fun h => by omega, fun _ => ⟨Kp.2 (q2 rfl).1, D.2 (q2 rfl).2⟩, fun x y l _ hy => by simp at hy⟩
      · have e1 := tuL_0 (N := g.length) (.inr c1) (Lg.2.1 (.inr c1))
        have hm4 : (nodeAt h j).kind = 5 := by rw [← hK]; exact c1
        have e2 := tuL_0 (N := h.length) (.inr hm4) (Lh.2.1 (.inr hm4))
        have l2 := Lh.2.1 (.inr hm4)
        have D := bl_dual hg hh lg lh k (toAt (nodeAt g i) 1) (toAt (nodeAt h j) 1) (hg.to_ 1 (by omega)) (hh.to_ 1 l2)
        have Kp := kept (toAt (nodeAt g i) 0) (toAt (nodeAt h j) 0) (hg.to_ 0 (by omega)) (hh.to_ 0 (by omega))
        have k1 : kdD (nodeAt h j).kind = 4 := kh.2.2.2.1 hm4
        rw [e1.1, e1.2, e2.1, e2.2, c3, k1, c1]
        constructor
        · rintro ⟨_, q2, _, _⟩
          exact ⟨fun h => by omega, fun h => by omega, fun _ => ⟨Kp.1 (q2 rfl).1, D.1 (q2 rfl).2⟩, fun x y l hx => by simp at hx⟩
        · rintro ⟨_, _, q3, _⟩
          exact ⟨fun h => by omega, fun _ => ⟨Kp.2 (q3 rfl).1, D.2 (q3 rfl).2⟩, fun h => by omega, fun x y l _ hy => by simp at hy⟩
      · have e1 := tuL_x (n := nodeAt g i) (N := g.length) (by omega)
        have e2 := tuL_x (n := nodeAt h j) (N := h.length) (by omega)
        have k1 : kdD (nodeAt h j).kind = 6 ∨ kdD (nodeAt h j).kind = 7 := c1.elim (fun e => .inr (kh.2.2.2.2.1 (by rw [← hK]; exact e))) (fun e => .inl (kh.2.2.2.2.2.1 (by rw [← hK]; exact e)))
        have D : ∀ x y l, (nodeAt g i).labs[x]? = some l → (nodeAt h j).labs[y]? = some l → (bl k (othG h) (othG g) (toAt (nodeAt h j) y) (toAt (nodeAt g i) x) ↔ bl k g h (toAt (nodeAt g i) x) (toAt (nodeAt h j) y)) := fun x y l hx hy => bl_dual hg hh lg lh k _ _ (hg.to_ x (Lg.2.2 x (List.getElem?_eq_some_iff.1 hx).1)) (hh.to_ y (Lh.2.2 y (List.getElem?_eq_some_iff.1 hy).1))
        constructor
        · rintro ⟨_, _, _, q4⟩
          exact ⟨fun h => by omega, fun h => by omega, fun h => by omega, fun x y l hx hy => (D x y l hx hy).1 (by have := q4 y x l hy hx; rw [e1, e2] at this; exact this)⟩
        · rintro ⟨_, _, _, q4⟩
          exact ⟨fun h => by omega, fun h => by omega, fun h => by omega, fun x y l hx hy => by rw [e1, e2]; exact (D y x l hy hx).2 (q4 y x l hy hx)⟩
    · constructor
      · rintro ⟨o, _⟩
        exact absurd (hkind.1 o.1) hK
      · rintro ⟨o, _⟩
        exact absurd o.1 hK
end Go.Proofs.YtoieacgojkgjgabDoor
