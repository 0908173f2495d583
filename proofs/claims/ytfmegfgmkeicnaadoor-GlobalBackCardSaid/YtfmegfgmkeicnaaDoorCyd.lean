/-
  What Check lets by has at most 60 parts, each right; PLAIN.
-/
import Derived.Test.YtfmegfgmkeicnaaDoorCvb
namespace Go.Proofs.YtfmegfgmkeicnaaDoor
open Go.RowKit Go.Shelf
theorem empty_ba {s : ByteArray} (h : s.toList.isEmpty = true) : s = ⟨#[]⟩ := by
  rw [ByteArray.toList_eq, List.isEmpty_iff] at h
  exact ByteArray.ext (Array.toList_inj.1 h)
theorem unsaid_iff (t : Cv) : unsaidB t = true ↔ t.fm = ⟨#[]⟩ ∧ t.tt = ⟨#[]⟩ ∧ t.so = 0 ∧ t.labels = [] := by
  unfold unsaidB
  simp only [Bool.and_eq_true, beq_iff_eq]
  constructor
  · rintro ⟨⟨⟨h1, h2⟩, h3⟩, h4⟩
    exact ⟨empty_ba h1, empty_ba h2, h3, List.length_eq_zero_iff.1 (by omega)⟩
  · rintro ⟨h1, h2, h3, h4⟩
    rw [h1, h2, h3, h4]
    exact ⟨⟨⟨by simp [ByteArray.toList_eq], by simp [ByteArray.toList_eq]⟩, rfl⟩, rfl⟩
theorem said_iff (t : Cv) : saidB t = true ↔ rls t.fm t.tt := by
  unfold saidB rls
  simp only [Bool.and_eq_true, Bool.not_eq_true', decide_eq_false_iff_not, and_assoc]
/-- right, part by part -/
theorem part_iffC (t : Cv) : partCB t = true ↔ partCv t := by
  have hU := unsaid_iff t
  have hS := said_iff t
  have hE : t.name.toList.isEmpty = true ↔ t.name = ⟨#[]⟩ := ⟨empty_ba, fun h => by rw [h]; simp [ByteArray.toList_eq]⟩
  have hW := swB_empty t.so
  obtain ⟨kd, fm, tt, so, nm, ls, ks⟩ := t
  simp only at hU hS hE hW
  unfold partCB partCv
  simp only
  constructor
  · intro h
    by_cases h1 : kd = 1
    · subst h1
      simp only [reduceIte, Bool.and_eq_true, beq_iff_eq] at h
      obtain ⟨⟨h1, h2⟩, h3⟩ := h
      obtain ⟨rfl, rfl, rfl, rfl⟩ := hU.1 h1
      have := hE.1 h2
      have : ks = [] := List.length_eq_zero_iff.1 (by omega)
      subst this
      exact .inl (by simp [hE.1 h2])
    · rw [if_neg h1] at h
      by_cases h2 : kd = 2
      · subst h2
        simp only [reduceIte, Bool.and_eq_true, beq_iff_eq] at h
        obtain ⟨⟨⟨⟨h1, h2⟩, h3⟩, h4⟩, h5⟩ := h
        have hr := hS.1 h1
        have hn := hE.1 h3
        have hl : ls = [] := List.length_eq_zero_iff.1 (by omega)
        obtain ⟨k, hk⟩ : ∃ k, ks = [k] := List.length_eq_one_iff.1 (by omega)
        rw [hW] at h2
        simp at h2
        subst hl hk hn
        exact .inr (.inr (.inr (.inl ⟨fm, tt, so, k, hr, h2, rfl⟩)))
      · rw [if_neg h2] at h
        by_cases h6 : kd = 6
        · subst h6
          simp only [reduceIte, Bool.and_eq_true, beq_iff_eq] at h
          obtain ⟨⟨⟨⟨h1, h2⟩, h3⟩, h4⟩, h5⟩ := h
          have hn := hE.1 h3
          subst hn h2
          exact .inr (.inr (.inr (.inr ⟨fm, tt, ls, ks, hS.1 h1, h4, by omega, rfl⟩)))
        · rw [if_neg h6] at h
          by_cases h8 : kd = 8
          · subst h8
            simp only [reduceIte, Bool.and_eq_true, beq_iff_eq] at h
            obtain ⟨⟨h1, h2⟩, h3⟩ := h
            obtain ⟨rfl, rfl, rfl, rfl⟩ := hU.1 h1
            obtain ⟨k, hk⟩ : ∃ k, ks = [k] := List.length_eq_one_iff.1 (by omega)
            subst hk
            exact .inr (.inr (.inl ⟨nm, k, h2, rfl⟩))
          · rw [if_neg h8] at h
            by_cases h9 : kd = 9
            · subst h9
              simp only [reduceIte, Bool.and_eq_true, beq_iff_eq] at h
              obtain ⟨⟨h1, h2⟩, h3⟩ := h
              obtain ⟨rfl, rfl, rfl, rfl⟩ := hU.1 h1
              have : ks = [] := List.length_eq_zero_iff.1 (by omega)
              subst this
              exact .inr (.inl ⟨nm, h2, rfl⟩)
            · rw [if_neg h9] at h; cases h
  · rintro (h | ⟨nm', hv, h⟩ | ⟨nm', k, hv, h⟩ | ⟨a, b, so', k, hr, hs, h⟩ | ⟨a, b, ls', ks', hr, hls, hkl, h⟩)
    · cases h; simp [hU]
    · cases h; simp [hU, hv]
    · cases h; simp [hU, hv]
    · cases h
      simp [hS.2 hr, hW, hs]
    · cases h
      simp [hS.2 hr, hls, hkl]
theorem chkCL_all (ar : List ByteArray) (ks : List Cv) : ∀ (a : Int × Nat), (∀ k ∈ ks, ∀ ar c, (chkC k ar c).1 = 0 → wfCv k ∧ (chkC k ar c).2 = c + sizeCv k) → (chkCL ar ks a).1 = 0 → (∀ k ∈ ks, wfCv k) ∧ (chkCL ar ks a).2 = a.2 + (ks.map sizeCv).sum := by
  induction ks with
  | nil => intro a _ _; exact ⟨fun k hk => (by cases hk), rfl⟩
  | cons x ks ih =>
    intro a hk h0
    rw [chkCL_cons] at h0 ⊢
    by_cases ha : a.1 ≠ 0
    · rw [if_pos ha, chkCL_bad _ _ _ ha] at h0; exact absurd h0 ha
    · rw [if_neg ha] at h0 ⊢
      by_cases hx : (chkC x ar a.2).1 = 0
      · have h1 := hk x (.head _) ar a.2 hx
        have h2 := ih _ (fun k hm => hk k (.tail _ hm)) h0
        refine ⟨fun k hm => ?_, ?_⟩
        · rcases List.mem_cons.1 hm with rfl | hm
          · exact h1.1
          · exact h2.1 k hm
        · rw [h2.2, h1.2]; simp only [List.map_cons, List.sum_cons]; omega
      · rw [chkCL_bad _ _ _ hx] at h0; exact absurd h0 hx
theorem chkC_all : ∀ t : Cv, ∀ ar c, (chkC t ar c).1 = 0 → wfCv t ∧ (chkC t ar c).2 = c + sizeCv t := by
  apply cvInd
  intro t ih ar c h
  have hs := sizeCv_eq t
  rw [chkC_eq] at h ⊢
  by_cases h1 : 60 < c + 1
  · rw [if_pos h1] at h; exact absurd h (by simp)
  rw [if_neg h1] at h ⊢
  by_cases h2 : partCB t = false
  · rw [if_pos h2] at h; exact absurd h (by simp)
  rw [if_neg h2] at h ⊢
  by_cases h3 : t.kind = 9 ∧ hasN ar t.name = false
  · rw [if_pos h3] at h; exact absurd h (by simp)
  rw [if_neg h3] at h ⊢
  by_cases h4 : t.kind = 8 ∧ idleC 65536 t = true
  · rw [if_pos h4] at h; exact absurd h (by simp)
  rw [if_neg h4] at h ⊢
  have := chkCL_all _ t.kids (0, c + 1) ih h
  refine ⟨(wfCv_eq t).2 ⟨(part_iffC t).1 (by simpa using h2), this.1⟩, ?_⟩
  rw [this.2, hs]; simp only; omega
theorem chkCv_good (t : Cv) (h : chkCv t = 0) : wfCv t ∧ sizeCv t ≤ 60 := by
  have h1 := chkC_all t [] 0 h
  have h2 := chkC_cnt t [] 0 (by omega) h
  exact ⟨h1.1, by omega⟩
theorem wrC_len : ∀ t : Cv, wfCv t → (wrCv t).length ≤ 100 * sizeCv t := by
  apply cvInd
  intro t ih hw
  obtain ⟨hp, hk⟩ := (wfCv_eq t).1 hw
  have hs := sizeCv_eq t
  rcases hp with rfl | ⟨nm, hv, rfl⟩ | ⟨nm, k, hv, rfl⟩ | ⟨p, q, so, k, hr, hso, rfl⟩ | ⟨p, q, ls, ks, hr, hls, hkl, rfl⟩
  · rw [wc_end]; simp at hs; simp; omega
  · rw [wc_var]; have := vr_len _ hv; simp only [List.map_nil, List.sum_nil] at hs; omega
  · have i1 := ih k (by simp) (hk k (by simp))
    have := vr_len _ hv
    rw [wc_rec]; simp at hs; simp only [List.length_append, List.length_cons, List.length_nil]; omega
  · have i1 := ih k (by simp) (hk k (by simp))
    have := sw_len so
    have h1 := (rl_low hr.1).2
    have h2 := (rl_low hr.2.1).2
    rw [wc_send]; simp at hs; simp only [List.length_append, List.length_cons, List.length_nil]; omega
  · obtain ⟨h6, h8⟩ := labs_len _ hls
    have h1 := (rl_low hr.1).2
    have h2 := (rl_low hr.2.1).2
    simp only at hs ih hk
    have hcl : ∀ (ps : List (ByteArray × List UInt8)) (pre : List UInt8), pre.length ≤ 4 → (∀ p ∈ ps, p.1.data.toList.length ≤ 8) → (choL pre ps).length ≤ 13 * ps.length + (ps.map fun p => p.2.length).sum := by
      intro ps
      induction ps with
      | nil => intro pre _ _; simp [choL]
      | cons p r ih =>
        intro pre hp hl
        have h1 := ih [44] (by simp) (fun q hq => hl q (.tail _ hq))
        have h2 := hl p (.head _)
        simp only [choL, List.length_append, List.length_cons, List.length_nil, List.map_cons, List.sum_cons]
        omega
    rw [wc_pick, List.length_append]
    have g1 := hcl (ls.zip (ks.map wrCv)) (p.data.toList ++ [62] ++ q.data.toList ++ [123]) (by simp only [List.length_append, List.length_cons, List.length_nil]; omega) (fun p hpm => h8 _ (List.of_mem_zip hpm).1)
    have g2 := zip_sum ls (ks.map wrCv)
    have g3 : ((ks.map wrCv).map List.length).sum ≤ 100 * (ks.map sizeCv).sum := by
      have : ∀ l : List Cv, (∀ k ∈ l, (wrCv k).length ≤ 100 * sizeCv k) → ((l.map wrCv).map List.length).sum ≤ 100 * (l.map sizeCv).sum := by
        intro l
        induction l with
        | nil => intro _; simp
        | cons x l ihl =>
          intro hx
          have a1 := hx x (.head _)
          have a2 := ihl (fun k hk => hx k (.tail _ hk))
          simp only [List.map_cons, List.sum_cons]; omega
      exact this _ (fun k hkm => ih k hkm (hk k hkm))
    have g4 : (ls.zip (ks.map wrCv)).length ≤ 6 := by simp; omega
    simp only [List.length_cons, List.length_nil]
    omega
end Go.Proofs.YtfmegfgmkeicnaaDoor
