/-
  What is written of a right type is read as that type, with blanks around its signs or without.
-/
import Derived.Test.YtfmegfgmkeicnaaDoorKh
namespace Go.Proofs.YtfmegfgmkeicnaaDoor
open Go.RowKit Go.Shelf

/- what is written is read, with blanks around signs or without -/
def isSg (c : UInt8) : Bool := decide (c = 46 ∨ c = 58 ∨ c = 44 ∨ c = 123 ∨ c = 125 ∨ c = 33 ∨ c = 63 ∨ c = 43 ∨ c = 38)
def sp (n : Nat) (c : UInt8) : List UInt8 := if isSg c = true then List.replicate n 32 ++ [c] ++ List.replicate n 32 else [c]
def spL (n : Nat) (l : List UInt8) : List UInt8 := l.flatMap (sp n)
theorem sp_zero (c : UInt8) : sp 0 c = [c] := by unfold sp; split <;> rfl
theorem spL_zero (l : List UInt8) : spL 0 l = l := by
  unfold spL
  induction l with
  | nil => rfl
  | cons c l ih => rw [List.flatMap_cons, sp_zero, ih]; rfl
theorem spL_append (n : Nat) (a b : List UInt8) : spL n (a ++ b) = spL n a ++ spL n b := by unfold spL; rw [List.flatMap_append]
theorem spL_one (n : Nat) (c : UInt8) : spL n [c] = sp n c := by unfold spL; simp
theorem spL_nil (n : Nat) : spL n [] = [] := rfl
theorem skB_rep (n : Nat) (r : List UInt8) : skB (List.replicate n 32 ++ r) = skB r := by
  induction n with
  | zero => rfl
  | succ n ih =>
    rw [List.replicate_succ, List.cons_append, ← ih]
    unfold skB
    rw [show lead bl (32 :: (List.replicate n 32 ++ r)) = lead bl (List.replicate n 32 ++ r) + 1 by rw [lead, if_pos (by decide)]]
    rfl
theorem skB_cons (c : UInt8) (r : List UInt8) (h : c ≠ 32) : skB (c :: r) = c :: r := by
  unfold skB
  rw [lead, if_neg (by simpa [bl] using h)]
  rfl
theorem skB_skB (r : List UInt8) : skB (skB r) = skB r := by
  unfold skB
  rw [lead_stop]
  rfl
theorem sg_not32 (c : UInt8) (h : isSg c = true) : c ≠ 32 := by rintro rfl; revert h; decide
theorem sg_notLow (c : UInt8) (h : isSg c = true) : isLow c = false := by
  unfold isSg at h
  rw [decide_eq_true_eq] at h
  rcases h with rfl | rfl | rfl | rfl | rfl | rfl | rfl | rfl | rfl <;> decide
theorem low_not32 (c : UInt8) (h : isLow c = true) : c ≠ 32 := by rintro rfl; revert h; decide
theorem low_notSg (c : UInt8) (h : isLow c = true) : isSg c = false := by
  cases hs : isSg c
  · rfl
  · rw [sg_notLow c hs] at h; cases h
theorem skB_sp (n : Nat) (c : UInt8) (h : isSg c = true) (r : List UInt8) : skB (sp n c ++ r) = c :: (List.replicate n 32 ++ r) := by
  unfold sp
  rw [if_pos h, List.append_assoc, List.append_assoc, skB_rep]
  exact skB_cons c _ (sg_not32 c h)
/-- behind a sign, at the next piece -/
theorem sp_drop (n : Nat) (c : UInt8) (h : isSg c = true) (r : List UInt8) : skB ((skB (sp n c ++ r)).drop 1) = skB r := by
  rw [skB_sp n c h, List.drop_one, List.tail_cons, skB_rep]
theorem sp_head (n : Nat) (c : UInt8) (h : isSg c = true) (r : List UInt8) : (skB (sp n c ++ r)).head? = some c := by rw [skB_sp n c h]; rfl
theorem need_sp (n : Nat) (c : UInt8) (h : isSg c = true) (r : List UInt8) : need c (skB (sp n c ++ r)) = .ok (skB r) := by
  unfold need
  rw [if_pos (sp_head n c h r), sp_drop n c h]
theorem spL_low (n : Nat) (l : List UInt8) (h : l.all isLow = true) : spL n l = l := by
  unfold spL
  induction l with
  | nil => rfl
  | cons c l ih =>
    simp only [List.all_cons, Bool.and_eq_true] at h
    rw [List.flatMap_cons, ih h.2, sp, if_neg (by rw [low_notSg c h.1]; simp)]
    rfl
/-- no letter stands ahead -/
def noLow (r : List UInt8) : Prop := ∀ c, r.head? = some c → isLow c = false
theorem lead_word (w r : List UInt8) (hw : w.all isLow = true) (hr : noLow r) : lead isLow (w ++ r) = w.length := by
  induction w with
  | nil =>
    cases r with
    | nil => rfl
    | cons c r => rw [List.nil_append, lead, if_neg (by rw [hr c rfl]; simp)]; rfl
  | cons c w ih =>
    simp only [List.all_cons, Bool.and_eq_true] at hw
    rw [List.cons_append, lead, if_pos hw.1, ih hw.2]; rfl
theorem word_at (w r : List UInt8) (hw : w.all isLow = true) (h1 : 1 ≤ w.length) (hr : noLow r) : skB (w ++ r) = w ++ r ∧ wd (w ++ r) = w := by
  constructor
  · cases w with
    | nil => simp at h1
    | cons c w =>
      simp only [List.all_cons, Bool.and_eq_true] at hw
      exact skB_cons c _ (low_not32 c hw.1)
  · unfold wd; rw [lead_word w r hw hr]; simp
theorem noLow_sp (n : Nat) (c : UInt8) (h : isSg c = true) (r : List UInt8) : noLow (sp n c ++ r) := by
  intro d hd
  unfold sp at hd
  rw [if_pos h] at hd
  cases n with
  | zero => simp at hd; subst hd; exact sg_notLow _ h
  | succ n => simp [List.replicate_succ] at hd; subst hd; decide
theorem noLow_blank (r : List UInt8) : noLow (32 :: r) := by intro d hd; simp at hd; subst hd; decide
theorem nm_low (l : List UInt8) (h : isNm l = true) : l.all isLow = true ∧ 1 ≤ l.length := by
  unfold isNm at h
  split at h
  · cases h
  · simp only [Bool.and_eq_true, decide_eq_true_eq] at h; exact ⟨h.2, h.1.1⟩
theorem vr_nm (l : List UInt8) (h : isVr l = true) : isNm l = true ∧ l ≠ [101, 110, 100] ∧ l ≠ [114, 101, 99] := by
  unfold isVr at h
  simpa using h
theorem head_low (w r : List UInt8) (hw : w.all isLow = true) (h1 : 1 ≤ w.length) (c : UInt8) (hc : isLow c = false) : (w ++ r).head? ≠ some c := by
  cases w with
  | nil => simp at h1
  | cons d w =>
    simp only [List.all_cons, Bool.and_eq_true] at hw
    intro e
    simp at e
    subst e
    rw [hw.1] at hc; cases hc
/-- of a text that begins with a word it is a word that is read -/
theorem rdT_word (fuel : Nat) (l : List UInt8) (h33 : l.head? ≠ some 33) (h63 : l.head? ≠ some 63) (h43 : l.head? ≠ some 43) (h38 : l.head? ≠ some 38) : rdT (fuel + 1) l = rdWord (rdT fuel) l := by
  rw [rdT, if_neg h33, if_neg h63, if_neg h43, if_neg h38]
theorem rdT_low (fuel : Nat) (w r : List UInt8) (hw : w.all isLow = true) (h1 : 1 ≤ w.length) : rdT (fuel + 1) (w ++ r) = rdWord (rdT fuel) (w ++ r) :=
  rdT_word fuel _ (head_low w r hw h1 _ (by decide)) (head_low w r hw h1 _ (by decide)) (head_low w r hw h1 _ (by decide)) (head_low w r hw h1 _ (by decide))
theorem rdVar_at (w : ByteArray) (r : List UInt8) (hv : isVr w.data.toList = true) (hr : noLow r) : rdVar (skB (w.data.toList ++ r)) = .ok (w, skB r) := by
  obtain ⟨hn, _, _⟩ := vr_nm _ hv
  obtain ⟨hl, h1⟩ := nm_low _ hn
  obtain ⟨e1, e2⟩ := word_at _ r hl h1 hr
  unfold rdVar
  rw [e1, e2, if_pos hv, bs_of, List.drop_left]
theorem rdLab_at (ls : List ByteArray) (w : ByteArray) (r : List UInt8) (hv : labsOK (ls ++ [w]) = true) (hn : isNm w.data.toList = true) (hr : noLow r) : rdLab ls (skB (w.data.toList ++ r)) = .ok (w, skB r) := by
  obtain ⟨hl, h1⟩ := nm_low _ hn
  obtain ⟨e1, e2⟩ := word_at _ r hl h1 hr
  unfold rdLab
  rw [e1, e2, bs_of, if_pos hv, List.drop_left]
theorem rdSort_at (so : Int) (r : List UInt8) (h : so = 1 ∨ so = 2 ∨ so = 3) (hr : noLow r) : rdSort (skB ((swB so).data.toList ++ r)) = .ok (so, skB r) := by
  rcases h with rfl | rfl | rfl
  · obtain ⟨e1, e2⟩ := word_at [105, 110, 116] r (by decide) (by decide) hr
    show rdSort (skB ([105, 110, 116] ++ r)) = _
    unfold rdSort
    rw [e1, e2, if_pos rfl]; rfl
  · obtain ⟨e1, e2⟩ := word_at [98, 111, 111, 108] r (by decide) (by decide) hr
    show rdSort (skB ([98, 111, 111, 108] ++ r)) = _
    unfold rdSort
    rw [e1, e2, if_neg (by decide), if_pos rfl]; rfl
  · obtain ⟨e1, e2⟩ := word_at [116, 101, 120, 116] r (by decide) (by decide) hr
    show rdSort (skB ([116, 101, 120, 116] ++ r)) = _
    unfold rdSort
    rw [e1, e2, if_neg (by decide), if_neg (by decide), if_pos rfl]; rfl
theorem sw_low (so : Int) : (swB so).data.toList.all isLow = true := by unfold swB; (repeat' split) <;> decide
theorem sg_is (k : Int) (h : k = 2 ∨ k = 3 ∨ k = 4 ∨ k = 5 ∨ k = 6 ∨ k = 7) : ∃ c, (sgB k).data.toList = [c] ∧ isSg c = true := by
  rcases h with rfl | rfl | rfl | rfl | rfl | rfl
  · exact ⟨33, rfl, by decide⟩
  · exact ⟨63, rfl, by decide⟩
  · exact ⟨33, rfl, by decide⟩
  · exact ⟨63, rfl, by decide⟩
  · exact ⟨43, rfl, by decide⟩
  · exact ⟨38, rfl, by decide⟩
/-- the forms of a right part -/
theorem part_full (t : Ty) (h : partT t = true) : t = ⟨1, 0, ⟨#[]⟩, [], []⟩ ∨ (∃ nm, isVr nm.data.toList = true ∧ t = ⟨9, 0, nm, [], []⟩) ∨ (∃ nm a, isVr nm.data.toList = true ∧ t = ⟨8, 0, nm, [], [a]⟩) ∨
    (∃ k so a, (k = 2 ∨ k = 3) ∧ (so = 1 ∨ so = 2 ∨ so = 3) ∧ t = ⟨k, so, ⟨#[]⟩, [], [a]⟩) ∨ (∃ k a b, (k = 4 ∨ k = 5) ∧ t = ⟨k, 0, ⟨#[]⟩, [], [a, b]⟩) ∨
    (∃ k ls ks, (k = 6 ∨ k = 7) ∧ labsOK ls = true ∧ ks.length = ls.length ∧ t = ⟨k, 0, ⟨#[]⟩, ls, ks⟩) := by
  obtain ⟨k, so, nm, ls, ks⟩ := t
  have emp : ∀ s : ByteArray, s.toList.isEmpty = true → s = ⟨#[]⟩ := by
    intro s hs
    rw [ByteArray.toList_eq] at hs
    have : s.data.toList = [] := by simpa using hs
    exact ByteArray.ext (Array.toList_inj.1 (by simpa using this))
  have nil : ∀ {A : Type} (l : List A), l.length = 0 → l = [] := fun l h => List.length_eq_zero_iff.1 h
  have one : ∀ ks : List Ty, ks.length = 1 → ∃ a, ks = [a] := fun ks h => List.length_eq_one_iff.1 h
  have two : ∀ ks : List Ty, ks.length = 2 → ∃ a b, ks = [a, b] := fun ks h => by
    match ks, h with
    | [a, b], _ => exact ⟨a, b, rfl⟩
  unfold partT at h
  simp only at h
  split at h
  · rename_i hk
    simp only [Bool.and_eq_true, decide_eq_true_eq] at h
    obtain ⟨⟨⟨a, b⟩, c⟩, d⟩ := h
    rw [hk, a, emp _ b, nil _ c, nil _ d]
    exact .inl rfl
  split at h
  · rename_i hk
    simp only [Bool.and_eq_true, decide_eq_true_eq] at h
    obtain ⟨⟨⟨a, b⟩, c⟩, d⟩ := h
    obtain ⟨x, rfl⟩ := one _ d
    rw [emp _ b, nil _ c]
    exact .inr (.inr (.inr (.inl ⟨k, so, x, hk, a, rfl⟩)))
  split at h
  · rename_i hk
    simp only [Bool.and_eq_true, decide_eq_true_eq] at h
    obtain ⟨⟨⟨a, b⟩, c⟩, d⟩ := h
    obtain ⟨x, y, rfl⟩ := two _ d
    rw [a, emp _ b, nil _ c]
    exact .inr (.inr (.inr (.inr (.inl ⟨k, x, y, hk, rfl⟩))))
  split at h
  · rename_i hk
    simp only [Bool.and_eq_true, decide_eq_true_eq] at h
    obtain ⟨⟨⟨a, b⟩, c⟩, d⟩ := h
    rw [a, emp _ b]
    exact .inr (.inr (.inr (.inr (.inr ⟨k, ls, ks, hk, c, d, rfl⟩))))
  split at h
  · rename_i hk
    simp only [Bool.and_eq_true, decide_eq_true_eq] at h
    obtain ⟨⟨⟨a, b⟩, c⟩, d⟩ := h
    obtain ⟨x, rfl⟩ := one _ d
    rw [hk, a, nil _ c]
    exact .inr (.inr (.inl ⟨nm, x, b, rfl⟩))
  split at h
  · rename_i hk
    simp only [Bool.and_eq_true, decide_eq_true_eq] at h
    obtain ⟨⟨⟨a, b⟩, c⟩, d⟩ := h
    rw [hk, a, nil _ c, nil _ d]
    exact .inr (.inl ⟨nm, b, rfl⟩)
  · cases h
/-- labels of which some are taken off at the end -/
theorem labs_take (a b : List ByteArray) (h : labsOK (a ++ b) = true) (h1 : 1 ≤ a.length) : labsOK a = true := by
  unfold labsOK at h
  simp only [Bool.and_eq_true, decide_eq_true_eq, List.length_append] at h
  refine labs_yes a h1 (by omega) (fun j hj => ?_)
  have := List.all_eq_true.1 h.2 j (by simp; omega)
  have e : ∀ i, i < a.length → (a ++ b).getD i ⟨#[]⟩ = a.getD i ⟨#[]⟩ := by
    intro i hi
    rw [getD_at _ _ (by rw [List.length_append]; omega), getD_at _ _ hi, List.getElem_append_left hi]
  unfold labAt at this ⊢
  rw [e j hj] at this
  by_cases h0 : 0 < j
  · rw [e (j - 1) (by omega)] at this; exact this
  · simpa [h0] using this
theorem labs_nm (ls : List ByteArray) (h : labsOK ls = true) (l : ByteArray) (hl : l ∈ ls) : isNm l.data.toList = true := by
  unfold labsOK at h
  simp only [Bool.and_eq_true, decide_eq_true_eq] at h
  obtain ⟨i, hi, rfl⟩ := List.getElem_of_mem hl
  have := List.all_eq_true.1 h.2 i (by simpa using hi)
  unfold labAt at this
  rw [getD_at ls i hi] at this
  simp only [Bool.and_eq_true] at this
  exact this.1
/-- a reading that reads what is written -/
def Backs (n : Nat) (R : List UInt8 → RdT) (t : Ty) : Prop := ∀ r, noLow r → R (skB (spL n (wrT t) ++ r)) = .ok (t, skB r)
theorem alts_back (n : Nat) (R : List UInt8 → RdT) (k : Int) : ∀ (m : Nat) (l : ByteArray) (t : Ty) (ls ls' : List ByteArray) (ks ks' : List Ty) (r : List UInt8), ls'.length < m → ks'.length = ls'.length → labsOK (ls ++ l :: ls') = true → (∀ x ∈ t :: ks', Backs n R x) → noLow r →
    rdAlts R k m ls ks (skB (spL n (l.data.toList ++ [58] ++ wrT t ++ choL [44] (ls'.zip (ks'.map wrT)) ++ [125]) ++ r)) = .ok (⟨k, 0, ⟨#[]⟩, ls ++ l :: ls', ks ++ t :: ks'⟩, skB r) := by
  intro m
  induction m with
  | zero => intro l t ls ls' ks ks' r h; omega
  | succ m ih =>
    intro l t ls ls' ks ks' r hm hk hl hb hr
    have hn : isNm l.data.toList = true := labs_nm _ hl l (by simp)
    have hlow := nm_low _ hn
    have e0 : spL n (l.data.toList ++ [58] ++ wrT t ++ choL [44] (ls'.zip (ks'.map wrT)) ++ [125]) ++ r = l.data.toList ++ (sp n 58 ++ (spL n (wrT t) ++ (spL n (choL [44] (ls'.zip (ks'.map wrT)) ++ [125]) ++ r))) := by
      simp only [spL_append, spL_one, spL_low n _ hlow.1, List.append_assoc]
    have hlab : labsOK (ls ++ [l]) = true := labs_take _ ls' (by simpa using hl) (by simp)
    rw [e0]
    unfold rdAlts
    rw [rdLab_at ls l _ hlab hn (noLow_sp n 58 (by decide) _)]
    simp only
    rw [need_sp n 58 (by decide)]
    simp only
    match ls', ks', hk with
    | [], [], _ =>
      have e1 : spL n (choL [44] (([] : List ByteArray).zip (([] : List Ty).map wrT)) ++ [125]) ++ r = sp n 125 ++ r := by
        show spL n ([] ++ [125]) ++ r = _; rw [List.nil_append, spL_one]
      rw [e1, hb t (by simp) _ (noLow_sp n 125 (by decide) r)]
      simp only
      rw [if_pos (sp_head n 125 (by decide) r), sp_drop n 125 (by decide)]
    | l2 :: ls2, t2 :: ks2, hk =>
      have e1 : spL n (choL [44] ((l2 :: ls2).zip ((t2 :: ks2).map wrT)) ++ [125]) ++ r = sp n 44 ++ (spL n (l2.data.toList ++ [58] ++ wrT t2 ++ choL [44] (ls2.zip (ks2.map wrT)) ++ [125]) ++ r) := by
        rw [List.map_cons, List.zip_cons_cons, choL]
        simp only [spL_append, spL_one, List.append_assoc]
      rw [e1, hb t (by simp) _ (noLow_sp n 44 (by decide) _)]
      simp only
      rw [if_neg (by rw [sp_head n 44 (by decide)]; decide), need_sp n 44 (by decide)]
      simp only
      rw [ih l2 t2 (ls ++ [l]) ls2 (ks ++ [t]) ks2 r (by simp at hm; omega) (by simpa using hk) (by simpa using hl) (fun x hx => hb x (.tail _ hx)) hr]
      simp
theorem rdT_msg (fuel : Nat) (k : Int) (h : k = 2 ∨ k = 3 ∨ k = 4 ∨ k = 5) (n : Nat) (r : List UInt8) : rdT (fuel + 1) (skB (spL n (sgB k).data.toList ++ r)) = rdMsg (rdT fuel) (if k = 2 ∨ k = 4 then 2 else 3) (if k = 2 ∨ k = 4 then 4 else 5) (skB r) := by
  have h1 : ∀ c, isSg c = true → (sgB k).data.toList = [c] → skB (spL n (sgB k).data.toList ++ r) = c :: (List.replicate n 32 ++ r) ∧ skB ((skB (spL n (sgB k).data.toList ++ r)).drop 1) = skB r := by
    intro c hc e
    rw [e, spL_one]
    exact ⟨skB_sp n c hc r, sp_drop n c hc r⟩
  rw [rdT]
  rcases h with rfl | rfl | rfl | rfl
  · obtain ⟨e1, e2⟩ := h1 33 (by decide) rfl
    rw [e2, e1, if_pos List.head?_cons, if_pos (by decide), if_pos (by decide)]
  · obtain ⟨e1, e2⟩ := h1 63 (by decide) rfl
    rw [e2, e1, if_neg (by simp), if_pos List.head?_cons, if_neg (by decide), if_neg (by decide)]
  · obtain ⟨e1, e2⟩ := h1 33 (by decide) rfl
    rw [e2, e1, if_pos List.head?_cons, if_pos (by decide), if_pos (by decide)]
  · obtain ⟨e1, e2⟩ := h1 63 (by decide) rfl
    rw [e2, e1, if_neg (by simp), if_pos List.head?_cons, if_neg (by decide), if_neg (by decide)]
theorem rdT_cho (fuel : Nat) (k : Int) (h : k = 6 ∨ k = 7) (n : Nat) (r : List UInt8) : rdT (fuel + 1) (skB (spL n (sgB k).data.toList ++ r)) = rdCho (rdT fuel) k (skB r) := by
  have h1 : ∀ c, isSg c = true → (sgB k).data.toList = [c] → skB (spL n (sgB k).data.toList ++ r) = c :: (List.replicate n 32 ++ r) ∧ skB ((skB (spL n (sgB k).data.toList ++ r)).drop 1) = skB r := by
    intro c hc e
    rw [e, spL_one]
    exact ⟨skB_sp n c hc r, sp_drop n c hc r⟩
  rw [rdT]
  rcases h with rfl | rfl
  · obtain ⟨e1, e2⟩ := h1 43 (by decide) rfl
    rw [e2, e1, if_neg (by simp), if_neg (by simp), if_pos List.head?_cons]
  · obtain ⟨e1, e2⟩ := h1 38 (by decide) rfl
    rw [e2, e1, if_neg (by simp), if_neg (by simp), if_neg (by simp), if_pos List.head?_cons]
/-- HOW DEEP a type is -/
theorem wrT_back (n : Nat) : ∀ t : Ty, wfT t → ∀ fuel, sizeT t < fuel → Backs n (rdT fuel) t := by
  apply tyInd
  intro t ih hw fuel hf
  obtain ⟨hp, hk⟩ := (wfT_eq t).1 hw
  obtain ⟨f, rfl⟩ : ∃ f, fuel = f + 1 := ⟨fuel - 1, by omega⟩
  have hkid : ∀ k ∈ t.kids, Backs n (rdT f) k := fun k hm => ih k hm (hk k hm) f (by have := sizeT_kid hm; omega)
  clear ih hk hf hw
  intro r hr
  rcases part_full t hp with rfl | ⟨nm, hv, rfl⟩ | ⟨nm, a, hv, rfl⟩ | ⟨k, so, a, hk, hso, rfl⟩ | ⟨k, a, b, hk, rfl⟩ | ⟨k, ls, ks, hk, hls, hlen, rfl⟩
  · rw [wt_end _ rfl, spL_low n _ (by decide)]
    obtain ⟨e1, e2⟩ := word_at [101, 110, 100] r (by decide) (by decide) hr
    rw [e1, rdT_low f _ r (by decide) (by decide)]
    unfold rdWord
    rw [e2, if_pos rfl]; rfl
  · obtain ⟨hn, h3, h4⟩ := vr_nm _ hv
    obtain ⟨hl, h1⟩ := nm_low _ hn
    rw [wt_var _ rfl]
    simp only
    rw [spL_low n _ hl]
    obtain ⟨e1, e2⟩ := word_at _ r hl h1 hr
    have hrv := rdVar_at nm r hv hr
    rw [e1] at hrv
    rw [e1, rdT_low f _ r hl h1]
    unfold rdWord
    rw [e2, if_neg h3, if_neg h4]
    unfold rdName
    rw [hrv]
  · obtain ⟨hn, h3, h4⟩ := vr_nm _ hv
    obtain ⟨hl, h1⟩ := nm_low _ hn
    rw [wt_rec _ a rfl rfl]
    simp only
    have e0 : spL n ([114, 101, 99, 32] ++ nm.data.toList ++ [46] ++ wrT a) ++ r = [114, 101, 99] ++ (32 :: (nm.data.toList ++ (sp n 46 ++ (spL n (wrT a) ++ r)))) := by
      have e1 : spL n [114, 101, 99, 32] = [114, 101, 99] ++ [32] := rfl
      simp only [spL_append, spL_one, spL_low n _ hl, e1, List.append_assoc]
      rfl
    rw [e0]
    obtain ⟨e1, e2⟩ := word_at [114, 101, 99] (32 :: (nm.data.toList ++ (sp n 46 ++ (spL n (wrT a) ++ r)))) (by decide) (by decide) (noLow_blank _)
    rw [e1, rdT_low f _ _ (by decide) (by decide)]
    unfold rdWord
    rw [e2, if_neg (by decide), if_pos rfl]
    have e3 : skB (([114, 101, 99] ++ (32 :: (nm.data.toList ++ (sp n 46 ++ (spL n (wrT a) ++ r))))).drop 3) = skB (nm.data.toList ++ (sp n 46 ++ (spL n (wrT a) ++ r))) := skB_rep 1 _
    rw [e3]
    unfold rdRec
    rw [rdVar_at nm _ hv (noLow_sp n 46 (by decide) _)]
    simp only
    rw [need_sp n 46 (by decide)]
    simp only
    rw [hkid a (by simp) r hr]
  · rw [wt_msg _ a hk rfl]
    simp only
    have e0 : spL n ((sgB k).data.toList ++ (swB so).data.toList ++ [46] ++ wrT a) ++ r = spL n (sgB k).data.toList ++ ((swB so).data.toList ++ (sp n 46 ++ (spL n (wrT a) ++ r))) := by
      simp only [spL_append, spL_one, spL_low n _ (sw_low so), List.append_assoc]
    rw [e0, rdT_msg f k (by omega)]
    have hso1 : 1 ≤ (swB so).data.toList.length := by rcases hso with rfl | rfl | rfl <;> decide
    have hka : (if k = 2 ∨ k = 4 then (2 : Int) else 3) = k := by rcases hk with rfl | rfl <;> rfl
    rw [hka]
    unfold rdMsg
    have hh := head_low _ (sp n 46 ++ (spL n (wrT a) ++ r)) (sw_low so) hso1 123 (by decide)
    obtain ⟨e1, _⟩ := word_at _ (sp n 46 ++ (spL n (wrT a) ++ r)) (sw_low so) hso1 (noLow_sp n 46 (by decide) _)
    have hsrt := rdSort_at so (sp n 46 ++ (spL n (wrT a) ++ r)) hso (noLow_sp n 46 (by decide) _)
    rw [e1] at hsrt
    rw [e1, if_neg hh]
    unfold rdSend
    rw [hsrt]
    simp only
    rw [need_sp n 46 (by decide)]
    simp only
    rw [hkid a (by simp) r hr]
  · rw [wt_give _ a b hk rfl]
    simp only
    have e0 : spL n ((sgB k).data.toList ++ [123] ++ wrT a ++ [125, 46] ++ wrT b) ++ r = spL n (sgB k).data.toList ++ (sp n 123 ++ (spL n (wrT a) ++ (sp n 125 ++ (sp n 46 ++ (spL n (wrT b) ++ r))))) := by
      have : ([125, 46] : List UInt8) = [125] ++ [46] := rfl
      rw [this]
      simp only [spL_append, spL_one, List.append_assoc]
    rw [e0, rdT_msg f k (by omega)]
    have hka : (if k = 2 ∨ k = 4 then (4 : Int) else 5) = k := by rcases hk with rfl | rfl <;> rfl
    rw [hka]
    unfold rdMsg
    rw [if_pos (sp_head n 123 (by decide) _), sp_drop n 123 (by decide)]
    unfold rdGive
    rw [hkid a (by simp) _ (noLow_sp n 125 (by decide) _)]
    simp only
    rw [need_sp n 125 (by decide)]
    simp only
    rw [need_sp n 46 (by decide)]
    simp only
    rw [hkid b (by simp) r hr]
  · rw [wt_cho _ hk]
    simp only
    have hl1 : 1 ≤ ls.length ∧ ls.length ≤ 6 := by
      unfold labsOK at hls
      simp only [Bool.and_eq_true, decide_eq_true_eq] at hls
      exact hls.1
    match ls, ks, hlen with
    | [], [], _ => simp at hl1
    | l :: ls', x :: ks', hlen =>
      rw [List.map_cons, List.zip_cons_cons, choL]
      simp only
      have e0 : spL n ((sgB k).data.toList ++ [123] ++ l.data.toList ++ [58] ++ wrT x ++ choL [44] (ls'.zip (ks'.map wrT)) ++ [125]) ++ r = spL n (sgB k).data.toList ++ (sp n 123 ++ (spL n (l.data.toList ++ [58] ++ wrT x ++ choL [44] (ls'.zip (ks'.map wrT)) ++ [125]) ++ r)) := by
        simp only [spL_append, spL_one, List.append_assoc]
      rw [e0, rdT_cho f k hk]
      unfold rdCho
      rw [need_sp n 123 (by decide)]
      simp only
      rw [alts_back n (rdT f) k 7 l x [] ls' [] ks' r (by simp at hl1; omega) (by simpa using hlen) hls (fun y hy => hkid y hy) hr]
      rfl
end Go.Proofs.YtfmegfgmkeicnaaDoor
