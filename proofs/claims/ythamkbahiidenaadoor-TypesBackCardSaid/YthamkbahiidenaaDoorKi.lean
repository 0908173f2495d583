/-
  How a type is read, as a function on bytes; what is read takes no less text than it is written with.
-/
import Derived.Test.YthamkbahiidenaaDoorKg
namespace Go.Proofs.YthamkbahiidenaaDoor
open Go.RowKit Go.Shelf

/-- blanks at the head are gone -/
def bl (c : UInt8) : Bool := decide (c = 32)
def skB (l : List UInt8) : List UInt8 := l.drop (lead bl l)
/-- the word at the head -/
def wd (l : List UInt8) : List UInt8 := l.take (lead isLow l)
def need (c : UInt8) (l : List UInt8) : Except (List UInt8) (List UInt8) := if l.head? = some c then .ok (skB (l.drop 1)) else .error l
def rdSort (l : List UInt8) : Except (List UInt8) (Int × List UInt8) :=
  if wd l = [105, 110, 116] then .ok (1, skB (l.drop 3)) else if wd l = [98, 111, 111, 108] then .ok (2, skB (l.drop 4)) else if wd l = [116, 101, 120, 116] then .ok (3, skB (l.drop 4)) else .error l
def rdVar (l : List UInt8) : Except (List UInt8) (ByteArray × List UInt8) :=
  if isVr (wd l) = true then .ok (bs (wd l), skB (l.drop (wd l).length)) else .error l
def rdLab (ls : List ByteArray) (l : List UInt8) : Except (List UInt8) (ByteArray × List UInt8) :=
  if labsOK (ls ++ [bs (wd l)]) = true then .ok (bs (wd l), skB (l.drop (wd l).length)) else .error l
/-- what is read: the type and what is left, or where it can't go on -/
abbrev RdT := Except (List UInt8) (Ty × List UInt8)
def rdGive (R : List UInt8 → RdT) (k : Int) (l : List UInt8) : RdT :=
  match R l with
  | .error e => .error e
  | .ok (c, l1) => match need 125 l1 with
    | .error e => .error e
    | .ok l2 => match need 46 l2 with
      | .error e => .error e
      | .ok l3 => match R l3 with
        | .error e => .error e
        | .ok (d, l4) => .ok (⟨k, 0, ⟨#[]⟩, [], [c, d]⟩, l4)
def rdSend (R : List UInt8 → RdT) (k : Int) (l : List UInt8) : RdT :=
  match rdSort l with
  | .error e => .error e
  | .ok (so, l1) => match need 46 l1 with
    | .error e => .error e
    | .ok l2 => match R l2 with
      | .error e => .error e
      | .ok (d, l3) => .ok (⟨k, so, ⟨#[]⟩, [], [d]⟩, l3)
def rdMsg (R : List UInt8 → RdT) (a b : Int) (l : List UInt8) : RdT :=
  if l.head? = some 123 then rdGive R b (skB (l.drop 1)) else rdSend R a l
def rdAlts (R : List UInt8 → RdT) (k : Int) : Nat → List ByteArray → List Ty → List UInt8 → RdT
  | 0, _, _, l => .error l
  | m + 1, ls, ks, l =>
    match rdLab ls l with
    | .error e => .error e
    | .ok (lab, l1) => match need 58 l1 with
      | .error e => .error e
      | .ok l2 => match R l2 with
        | .error e => .error e
        | .ok (t, l3) =>
          if l3.head? = some 125 then .ok (⟨k, 0, ⟨#[]⟩, ls ++ [lab], ks ++ [t]⟩, skB (l3.drop 1))
          else match need 44 l3 with
            | .error e => .error e
            | .ok l4 => rdAlts R k m (ls ++ [lab]) (ks ++ [t]) l4
def rdCho (R : List UInt8 → RdT) (k : Int) (l : List UInt8) : RdT :=
  match need 123 l with
  | .error e => .error e
  | .ok l1 => rdAlts R k 7 [] [] l1
def rdRec (R : List UInt8 → RdT) (l : List UInt8) : RdT :=
  match rdVar l with
  | .error e => .error e
  | .ok (nm, l1) => match need 46 l1 with
    | .error e => .error e
    | .ok l2 => match R l2 with
      | .error e => .error e
      | .ok (d, l3) => .ok (⟨8, 0, nm, [], [d]⟩, l3)
def rdName (l : List UInt8) : RdT :=
  match rdVar l with
  | .error e => .error e
  | .ok (nm, l1) => .ok (⟨9, 0, nm, [], []⟩, l1)
def rdWord (R : List UInt8 → RdT) (l : List UInt8) : RdT :=
  if wd l = [101, 110, 100] then .ok (⟨1, 0, ⟨#[]⟩, [], []⟩, skB (l.drop 3)) else if wd l = [114, 101, 99] then rdRec R (skB (l.drop 3)) else rdName l
def rdT : Nat → List UInt8 → RdT
  | 0, l => .error l
  | n + 1, l =>
    if l.head? = some 33 then rdMsg (rdT n) 2 4 (skB (l.drop 1)) else if l.head? = some 63 then rdMsg (rdT n) 3 5 (skB (l.drop 1))
    else if l.head? = some 43 then rdCho (rdT n) 6 (skB (l.drop 1)) else if l.head? = some 38 then rdCho (rdT n) 7 (skB (l.drop 1))
    else rdWord (rdT n) l

/- what is written of what was read is no longer than what was read -/
theorem skB_len (l : List UInt8) : (skB l).length ≤ l.length := by unfold skB; simp
theorem wd_len (l : List UInt8) : (wd l).length = lead isLow l := by unfold wd; rw [List.length_take]; have := lead_le isLow l; omega
theorem wd_le (l : List UInt8) : (wd l).length ≤ l.length := by rw [wd_len]; exact lead_le _ _
theorem skd_len (n : Nat) (l : List UInt8) (h : n ≤ l.length) : (skB (l.drop n)).length + n ≤ l.length := by
  have := skB_len (l.drop n)
  rw [List.length_drop] at this
  omega
theorem head_pos (l : List UInt8) (c : UInt8) (h : l.head? = some c) : 1 ≤ l.length := by cases l <;> simp_all
theorem need_ok {c : UInt8} {l r : List UInt8} (h : need c l = .ok r) : l.head? = some c ∧ r = skB (l.drop 1) ∧ r.length + 1 ≤ l.length := by
  unfold need at h
  split at h
  · rename_i hh
    injection h with h
    subst h
    exact ⟨hh, rfl, skd_len 1 l (head_pos l c hh)⟩
  · cases h
theorem wd_pre (l w : List UInt8) (h : wd l = w) : w.length ≤ l.length := by rw [← h]; exact wd_le l
theorem rdSort_ok {l r : List UInt8} {so : Int} (h : rdSort l = .ok (so, r)) : (so = 1 ∨ so = 2 ∨ so = 3) ∧ r = skB (l.drop (swB so).data.toList.length) ∧ wd l = (swB so).data.toList ∧ (swB so).data.toList.length + r.length ≤ l.length := by
  unfold rdSort at h
  split at h
  · rename_i hh
    injection h with h; injection h with h1 h2
    subst h1 h2
    exact ⟨.inl rfl, rfl, hh, by have := skd_len 3 l (wd_pre _ _ hh); show 3 + _ ≤ _; omega⟩
  · split at h
    · rename_i hh
      injection h with h; injection h with h1 h2
      subst h1 h2
      exact ⟨.inr (.inl rfl), rfl, hh, by have := skd_len 4 l (wd_pre _ _ hh); show 4 + _ ≤ _; omega⟩
    · split at h
      · rename_i hh
        injection h with h; injection h with h1 h2
        subst h1 h2
        exact ⟨.inr (.inr rfl), rfl, hh, by have := skd_len 4 l (wd_pre _ _ hh); show 4 + _ ≤ _; omega⟩
      · cases h
theorem rdVar_ok {l r : List UInt8} {nm : ByteArray} (h : rdVar l = .ok (nm, r)) : isVr nm.data.toList = true ∧ nm = bs (wd l) ∧ r = skB (l.drop nm.data.toList.length) ∧ nm.data.toList.length + r.length ≤ l.length := by
  unfold rdVar at h
  split at h
  · rename_i hh
    injection h with h; injection h with h1 h2
    subst h1 h2
    rw [bs_list]
    exact ⟨hh, rfl, rfl, by have := skd_len _ l (wd_le l); omega⟩
  · cases h
theorem rdLab_ok {ls : List ByteArray} {l r : List UInt8} {nm : ByteArray} (h : rdLab ls l = .ok (nm, r)) : labsOK (ls ++ [nm]) = true ∧ nm = bs (wd l) ∧ r = skB (l.drop nm.data.toList.length) ∧ nm.data.toList.length + r.length ≤ l.length := by
  unfold rdLab at h
  split at h
  · rename_i hh
    injection h with h; injection h with h1 h2
    subst h1 h2
    rw [bs_list]
    exact ⟨hh, rfl, rfl, by have := skd_len _ l (wd_le l); omega⟩
  · cases h
/-- what a reading gives takes as much text as it is written with -/
def Short (R : List UInt8 → RdT) : Prop := ∀ l t r, R l = .ok (t, r) → (wrT t).length + r.length ≤ l.length ∧ 1 ≤ (wrT t).length
theorem sg_one (k : Int) (h : k = 2 ∨ k = 3 ∨ k = 4 ∨ k = 5 ∨ k = 6 ∨ k = 7) : (sgB k).data.toList.length = 1 := by
  rcases h with rfl | rfl | rfl | rfl | rfl | rfl <;> rfl
theorem short_give {R : List UInt8 → RdT} (hR : Short R) (k : Int) (hk : k = 4 ∨ k = 5) (l r : List UInt8) (t : Ty) (h : rdGive R k l = .ok (t, r)) : (wrT t).length + r.length ≤ l.length + 2 := by
  unfold rdGive at h
  split at h
  · cases h
  rename_i c l1 h1
  split at h
  · cases h
  rename_i l2 h2
  split at h
  · cases h
  rename_i l3 h3
  split at h
  · cases h
  rename_i d l4 h4
  injection h with h; injection h with e1 e2
  subst e1 e2
  have a1 := hR _ _ _ h1
  have a2 := need_ok h2
  have a3 := need_ok h3
  have a4 := hR _ _ _ h4
  rw [wt_give _ c d hk rfl]
  have a5 := sg_one k (by omega)
  simp only [List.length_append, List.length_cons, List.length_nil]
  omega
theorem short_send {R : List UInt8 → RdT} (hR : Short R) (k : Int) (hk : k = 2 ∨ k = 3) (l r : List UInt8) (t : Ty) (h : rdSend R k l = .ok (t, r)) : (wrT t).length + r.length ≤ l.length + 1 := by
  unfold rdSend at h
  split at h
  · cases h
  rename_i so l1 h1
  split at h
  · cases h
  rename_i l2 h2
  split at h
  · cases h
  rename_i d l3 h3
  injection h with h; injection h with e1 e2
  subst e1 e2
  have a1 := rdSort_ok h1
  have a2 := need_ok h2
  have a3 := hR _ _ _ h3
  rw [wt_msg _ d hk rfl]
  have a5 := sg_one k (by omega)
  simp only [List.length_append, List.length_cons, List.length_nil]
  omega
theorem zip_snoc {A B : Type} (ls : List A) (ts : List B) (a : A) (b : B) (h : ts.length = ls.length) : (ls ++ [a]).zip (ts ++ [b]) = ls.zip ts ++ [(a, b)] := by
  rw [List.zip_append h.symm]; rfl
theorem cho_append (ps : List (ByteArray × List UInt8)) : ∀ (pre : List UInt8) (q : ByteArray × List UInt8), choL pre (ps ++ [q]) = choL pre ps ++ (if ps = [] then pre else [44]) ++ q.1.data.toList ++ [58] ++ q.2 := by
  induction ps with
  | nil => intro pre q; simp [choL]
  | cons p ps ih =>
    intro pre q
    rw [List.cons_append, choL, ih, choL]
    by_cases h : ps = []
    · subst h; simp [choL]
    · simp [h]
theorem short_alts {R : List UInt8 → RdT} (hR : Short R) (k : Int) (hk : k = 6 ∨ k = 7) : ∀ (m : Nat) (ls : List ByteArray) (ks : List Ty) (l r : List UInt8) (t : Ty), ks.length = ls.length → rdAlts R k m ls ks l = .ok (t, r) →
    (wrT t).length + r.length ≤ l.length + (choL ((sgB k).data.toList ++ [123]) (ls.zip (ks.map wrT))).length + (if ls = [] then 2 else 1) := by
  intro m
  induction m with
  | zero => intro ls ks l r t _ h; cases h
  | succ m ih =>
    intro ls ks l r t hl h
    unfold rdAlts at h
    split at h
    · cases h
    rename_i lab l1 h1
    split at h
    · cases h
    rename_i l2 h2
    split at h
    · cases h
    rename_i t1 l3 h3
    have a1 := rdLab_ok h1
    have a2 := need_ok h2
    have a3 := hR _ _ _ h3
    have a5 := sg_one k (by omega)
    have hz : (ls ++ [lab]).zip ((ks ++ [t1]).map wrT) = ls.zip (ks.map wrT) ++ [(lab, wrT t1)] := by
      rw [List.map_append]; exact zip_snoc _ _ _ _ (by simpa using hl)
    have hzn : ls.zip (ks.map wrT) = [] ↔ ls = [] := by
      constructor
      · intro e
        have := congrArg List.length e
        rw [List.length_zip, List.length_map, hl] at this
        exact List.length_eq_zero_iff.1 (by simpa using this)
      · rintro rfl; rfl
    have hlen : (choL ((sgB k).data.toList ++ [123]) ((ls ++ [lab]).zip ((ks ++ [t1]).map wrT))).length = (choL ((sgB k).data.toList ++ [123]) (ls.zip (ks.map wrT))).length + (if ls = [] then 2 else 1) + lab.data.toList.length + 1 + (wrT t1).length := by
      rw [hz, cho_append]
      by_cases e : ls = []
      · rw [if_pos (hzn.2 e), if_pos e]; simp only [List.length_append, List.length_cons, List.length_nil]; omega
      · rw [if_neg (fun q => e (hzn.1 q)), if_neg e]; simp only [List.length_append, List.length_cons, List.length_nil]
    split at h
    · rename_i hh
      injection h with h; injection h with e1 e2
      subst e1 e2
      have a4 := skd_len 1 l3 (head_pos _ _ hh)
      rw [wt_cho _ hk, List.length_append]
      simp only [List.length_cons, List.length_nil]
      omega
    · split at h
      · cases h
      rename_i l4 h4
      have a4 := need_ok h4
      have := ih (ls ++ [lab]) (ks ++ [t1]) l4 r t (by simp [hl]) h
      rw [if_neg (show ls ++ [lab] ≠ [] by simp)] at this
      omega
theorem short_cho {R : List UInt8 → RdT} (hR : Short R) (k : Int) (hk : k = 6 ∨ k = 7) (l r : List UInt8) (t : Ty) (h : rdCho R k l = .ok (t, r)) : (wrT t).length + r.length ≤ l.length + 1 := by
  unfold rdCho at h
  split at h
  · cases h
  rename_i l1 h1
  have a1 := need_ok h1
  have := short_alts hR k hk 7 [] [] l1 r t rfl h
  rw [if_pos rfl] at this
  have e : (choL ((sgB k).data.toList ++ [123]) (([] : List ByteArray).zip (([] : List Ty).map wrT))).length = 0 := rfl
  omega
theorem lead_stop (p : UInt8 → Bool) : ∀ l : List UInt8, lead p (l.drop (lead p l)) = 0
  | [] => rfl
  | c :: l => by
    have ih := lead_stop p l
    by_cases h : p c
    · have e : lead p (c :: l) = lead p l + 1 := by rw [lead, if_pos h]
      rw [e, List.drop_succ_cons]; exact ih
    · have e : lead p (c :: l) = 0 := by rw [lead, if_neg h]
      rw [e, List.drop_zero, e]
theorem vr_pos (l : List UInt8) (h : isVr l = true) : 1 ≤ l.length := by
  unfold isVr at h
  simp only [Bool.and_eq_true] at h
  have := h.1
  unfold isNm at this
  split at this
  · cases this
  · simp only [Bool.and_eq_true, decide_eq_true_eq] at this; exact this.1.1
/-- behind a word, a blank stands ahead of another one -/
theorem rec_gap (l : List UInt8) (h : 1 ≤ (wd (skB (l.drop (wd l).length))).length) : (skB (l.drop (wd l).length)).length + (wd l).length + 1 ≤ l.length := by
  have h1 : lead isLow (l.drop (wd l).length) = 0 := by rw [wd_len]; exact lead_stop _ _
  have h2 := wd_le l
  generalize (wd l).length = n at *
  have h3 : (l.drop n).length = l.length - n := List.length_drop
  generalize l.drop n = m at *
  by_cases e : lead bl m = 0
  · have : skB m = m := by unfold skB; rw [e]; rfl
    rw [this, wd_len, h1] at h
    omega
  · have : (skB m).length = m.length - lead bl m := by unfold skB; rw [List.length_drop]
    have := lead_le bl m
    omega
theorem short_rec {R : List UInt8 → RdT} (hR : Short R) (l r : List UInt8) (t : Ty) (hw : wd l = [114, 101, 99]) (h : rdRec R (skB (l.drop 3)) = .ok (t, r)) : (wrT t).length + r.length ≤ l.length := by
  unfold rdRec at h
  split at h
  · cases h
  rename_i nm l1 h1
  split at h
  · cases h
  rename_i l2 h2
  split at h
  · cases h
  rename_i d l3 h3
  injection h with h; injection h with e1 e2
  subst e1 e2
  have a1 := rdVar_ok h1
  have a2 := need_ok h2
  have a3 := hR _ _ _ h3
  have hg := rec_gap l (by rw [hw]; have := vr_pos _ a1.1; rw [a1.2.1, bs_list] at this; exact this)
  rw [hw] at hg
  replace hg : (skB (l.drop 3)).length + 3 + 1 ≤ l.length := hg
  rw [wt_rec _ d rfl rfl]
  simp only [List.length_append, List.length_cons, List.length_nil]
  omega
theorem wt_pos (t : Ty) (h : t.kind = 2 ∨ t.kind = 3 ∨ t.kind = 4 ∨ t.kind = 5 ∨ t.kind = 6 ∨ t.kind = 7 ∨ t.kind = 8) : 1 ≤ (wrT t).length := by
  rw [wrT_eq]
  unfold wrTN
  rw [if_neg (by omega), if_neg (by omega)]
  split
  · simp only [List.length_append, List.length_cons, List.length_nil]; omega
  · split
    · simp only [List.length_append, List.length_cons, List.length_nil]; omega
    · split
      · simp only [List.length_append, List.length_cons, List.length_nil]; omega
      · simp only [List.length_append, List.length_cons, List.length_nil]; omega
theorem kind_give {R : List UInt8 → RdT} {k : Int} {l r : List UInt8} {t : Ty} (h : rdGive R k l = .ok (t, r)) : t.kind = k := by
  unfold rdGive at h
  split at h
  · cases h
  split at h
  · cases h
  split at h
  · cases h
  split at h
  · cases h
  injection h with h; injection h with e1 e2
  subst e1; rfl
theorem kind_send {R : List UInt8 → RdT} {k : Int} {l r : List UInt8} {t : Ty} (h : rdSend R k l = .ok (t, r)) : t.kind = k := by
  unfold rdSend at h
  split at h
  · cases h
  split at h
  · cases h
  split at h
  · cases h
  injection h with h; injection h with e1 e2
  subst e1; rfl
theorem kind_rec {R : List UInt8 → RdT} {l r : List UInt8} {t : Ty} (h : rdRec R l = .ok (t, r)) : t.kind = 8 := by
  unfold rdRec at h
  split at h
  · cases h
  split at h
  · cases h
  split at h
  · cases h
  injection h with h; injection h with e1 e2
  subst e1; rfl
theorem kind_alts {R : List UInt8 → RdT} {k : Int} : ∀ (m : Nat) (ls : List ByteArray) (ks : List Ty) (l r : List UInt8) (t : Ty), rdAlts R k m ls ks l = .ok (t, r) → t.kind = k := by
  intro m
  induction m with
  | zero => intro ls ks l r t h; cases h
  | succ m ih =>
    intro ls ks l r t h
    unfold rdAlts at h
    split at h
    · cases h
    split at h
    · cases h
    split at h
    · cases h
    split at h
    · injection h with h; injection h with e1 e2
      subst e1; rfl
    · split at h
      · cases h
      · exact ih _ _ _ _ _ h
theorem kind_cho {R : List UInt8 → RdT} {k : Int} {l r : List UInt8} {t : Ty} (h : rdCho R k l = .ok (t, r)) : t.kind = k := by
  unfold rdCho at h
  split at h
  · cases h
  · exact kind_alts _ _ _ _ _ _ h
theorem short_msg {R : List UInt8 → RdT} (hR : Short R) (a b : Int) (ha : a = 2 ∨ a = 3) (hb : b = 4 ∨ b = 5) (l r : List UInt8) (t : Ty) (h : rdMsg R a b l = .ok (t, r)) : (wrT t).length + r.length ≤ l.length + 1 ∧ 1 ≤ (wrT t).length := by
  unfold rdMsg at h
  split at h
  · rename_i hh
    have := short_give hR b hb _ r t h
    have h2 := skd_len 1 l (head_pos _ _ hh)
    exact ⟨by omega, wt_pos t (by rw [kind_give h]; omega)⟩
  · exact ⟨short_send hR a ha l r t h, wt_pos t (by rw [kind_send h]; omega)⟩
theorem rdT_short : ∀ n, Short (rdT n) := by
  intro n
  induction n with
  | zero => intro l t r h; cases h
  | succ n ih =>
    intro l t r h
    unfold rdT at h
    split at h
    · rename_i hh
      have h2 := skd_len 1 l (head_pos _ _ hh)
      have := short_msg ih 2 4 (.inl rfl) (.inl rfl) _ r t h
      exact ⟨by omega, this.2⟩
    split at h
    · rename_i hh
      have h2 := skd_len 1 l (head_pos _ _ hh)
      have := short_msg ih 3 5 (.inr rfl) (.inr rfl) _ r t h
      exact ⟨by omega, this.2⟩
    split at h
    · rename_i hh
      have h2 := skd_len 1 l (head_pos _ _ hh)
      have := short_cho ih 6 (.inl rfl) _ r t h
      exact ⟨by omega, wt_pos t (by rw [kind_cho h]; omega)⟩
    split at h
    · rename_i hh
      have h2 := skd_len 1 l (head_pos _ _ hh)
      have := short_cho ih 7 (.inr rfl) _ r t h
      exact ⟨by omega, wt_pos t (by rw [kind_cho h]; omega)⟩
    unfold rdWord at h
    split at h
    · rename_i hw
      injection h with h; injection h with e1 e2
      subst e1 e2
      have := skd_len 3 l (wd_pre _ _ hw)
      rw [wt_end _ rfl]
      simp only [List.length_cons, List.length_nil]
      omega
    split at h
    · rename_i hw
      exact ⟨short_rec ih l r t hw h, wt_pos t (by rw [kind_rec h]; omega)⟩
    unfold rdName at h
    split at h
    · cases h
    rename_i nm l1 h1
    injection h with h; injection h with e1 e2
    subst e1 e2
    have a1 := rdVar_ok h1
    have := vr_pos _ a1.1
    rw [wt_var _ rfl]
    simp only
    omega
end Go.Proofs.YthamkbahiidenaaDoor
/-
  What is written of a right type is read as that type, with blanks around its signs or without.
-/
namespace Go.Proofs.YthamkbahiidenaaDoor
open Go.RowKit Go.Shelf

/- what is written is read, with blanks around signs or without -/
def isSg (c : UInt8) : Bool := decide (c = 46 ∨ c = 58 ∨ c = 44 ∨ c = 123 ∨ c = 125 ∨ c = 33 ∨ c = 63 ∨ c = 43 ∨ c = 38)
def sp (n : Nat) (c : UInt8) : List UInt8 := if isSg c = true then List.replicate n 32 ++ [c] ++ List.replicate n 32 else [c]
def spL (n : Nat) (l : List UInt8) : List UInt8 := l.flatMap (sp n)
theorem sp_zero (c : UInt8) : sp 0 c = [c] := by unfold sp; split <;> rfl
theorem spL_zero (l : List UInt8) : spL 0 l = l := by
  unfold spL
  induction l with
  | nil => rfl
  | cons c l ih => rw [List.flatMap_cons, sp_zero, ih]; rfl
theorem spL_append (n : Nat) (a b : List UInt8) : spL n (a ++ b) = spL n a ++ spL n b := by unfold spL; rw [List.flatMap_append]
theorem spL_one (n : Nat) (c : UInt8) : spL n [c] = sp n c := by unfold spL; simp
theorem spL_nil (n : Nat) : spL n [] = [] := rfl
theorem skB_rep (n : Nat) (r : List UInt8) : skB (List.replicate n 32 ++ r) = skB r := by
  induction n with
  | zero => rfl
  | succ n ih =>
    rw [List.replicate_succ, List.cons_append, ← ih]
    unfold skB
    rw [show lead bl (32 :: (List.replicate n 32 ++ r)) = lead bl (List.replicate n 32 ++ r) + 1 by rw [lead, if_pos (by decide)]]
    rfl
theorem skB_cons (c : UInt8) (r : List UInt8) (h : c ≠ 32) : skB (c :: r) = c :: r := by
  unfold skB
  rw [lead, if_neg (by simpa [bl] using h)]
  rfl
theorem skB_skB (r : List UInt8) : skB (skB r) = skB r := by
  unfold skB
  rw [lead_stop]
  rfl
theorem sg_not32 (c : UInt8) (h : isSg c = true) : c ≠ 32 := by rintro rfl; revert h; decide
theorem sg_notLow (c : UInt8) (h : isSg c = true) : isLow c = false := by
  unfold isSg at h
  rw [decide_eq_true_eq] at h
  rcases h with rfl | rfl | rfl | rfl | rfl | rfl | rfl | rfl | rfl <;> decide
theorem low_not32 (c : UInt8) (h : isLow c = true) : c ≠ 32 := by rintro rfl; revert h; decide
theorem low_notSg (c : UInt8) (h : isLow c = true) : isSg c = false := by
  cases hs : isSg c
  · rfl
  · rw [sg_notLow c hs] at h; cases h
theorem skB_sp (n : Nat) (c : UInt8) (h : isSg c = true) (r : List UInt8) : skB (sp n c ++ r) = c :: (List.replicate n 32 ++ r) := by
  unfold sp
  rw [if_pos h, List.append_assoc, List.append_assoc, skB_rep]
  exact skB_cons c _ (sg_not32 c h)
/-- behind a sign, at the next piece -/
theorem sp_drop (n : Nat) (c : UInt8) (h : isSg c = true) (r : List UInt8) : skB ((skB (sp n c ++ r)).drop 1) = skB r := by
  rw [skB_sp n c h, List.drop_one, List.tail_cons, skB_rep]
theorem sp_head (n : Nat) (c : UInt8) (h : isSg c = true) (r : List UInt8) : (skB (sp n c ++ r)).head? = some c := by rw [skB_sp n c h]; rfl
theorem need_sp (n : Nat) (c : UInt8) (h : isSg c = true) (r : List UInt8) : need c (skB (sp n c ++ r)) = .ok (skB r) := by
  unfold need
  rw [if_pos (sp_head n c h r), sp_drop n c h]
theorem spL_low (n : Nat) (l : List UInt8) (h : l.all isLow = true) : spL n l = l := by
  unfold spL
  induction l with
  | nil => rfl
  | cons c l ih =>
    simp only [List.all_cons, Bool.and_eq_true] at h
    rw [List.flatMap_cons, ih h.2, sp, if_neg (by rw [low_notSg c h.1]; simp)]
    rfl
/-- no letter stands ahead -/
def noLow (r : List UInt8) : Prop := ∀ c, r.head? = some c → isLow c = false
theorem lead_word (w r : List UInt8) (hw : w.all isLow = true) (hr : noLow r) : lead isLow (w ++ r) = w.length := by
  induction w with
  | nil =>
    cases r with
    | nil => rfl
    | cons c r => rw [List.nil_append, lead, if_neg (by rw [hr c rfl]; simp)]; rfl
  | cons c w ih =>
    simp only [List.all_cons, Bool.and_eq_true] at hw
    rw [List.cons_append, lead, if_pos hw.1, ih hw.2]; rfl
theorem word_at (w r : List UInt8) (hw : w.all isLow = true) (h1 : 1 ≤ w.length) (hr : noLow r) : skB (w ++ r) = w ++ r ∧ wd (w ++ r) = w := by
  constructor
  · cases w with
    | nil => simp at h1
    | cons c w =>
      simp only [List.all_cons, Bool.and_eq_true] at hw
      exact skB_cons c _ (low_not32 c hw.1)
  · unfold wd; rw [lead_word w r hw hr]; simp
theorem noLow_sp (n : Nat) (c : UInt8) (h : isSg c = true) (r : List UInt8) : noLow (sp n c ++ r) := by
  intro d hd
  unfold sp at hd
  rw [if_pos h] at hd
  cases n with
  | zero => simp at hd; subst hd; exact sg_notLow _ h
  | succ n => simp [List.replicate_succ] at hd; subst hd; decide
theorem noLow_blank (r : List UInt8) : noLow (32 :: r) := by intro d hd; simp at hd; subst hd; decide
theorem nm_low (l : List UInt8) (h : isNm l = true) : l.all isLow = true ∧ 1 ≤ l.length := by
  unfold isNm at h
  split at h
  · cases h
  · simp only [Bool.and_eq_true, decide_eq_true_eq] at h; exact ⟨h.2, h.1.1⟩
theorem vr_nm (l : List UInt8) (h : isVr l = true) : isNm l = true ∧ l ≠ [101, 110, 100] ∧ l ≠ [114, 101, 99] := by
  unfold isVr at h
  simpa using h
theorem head_low (w r : List UInt8) (hw : w.all isLow = true) (h1 : 1 ≤ w.length) (c : UInt8) (hc : isLow c = false) : (w ++ r).head? ≠ some c := by
  cases w with
  | nil => simp at h1
  | cons d w =>
    simp only [List.all_cons, Bool.and_eq_true] at hw
    intro e
    simp at e
    subst e
    rw [hw.1] at hc; cases hc
/-- of a text that begins with a word it is a word that is read -/
theorem rdT_word (fuel : Nat) (l : List UInt8) (h33 : l.head? ≠ some 33) (h63 : l.head? ≠ some 63) (h43 : l.head? ≠ some 43) (h38 : l.head? ≠ some 38) : rdT (fuel + 1) l = rdWord (rdT fuel) l := by
  rw [rdT, if_neg h33, if_neg h63, if_neg h43, if_neg h38]
theorem rdT_low (fuel : Nat) (w r : List UInt8) (hw : w.all isLow = true) (h1 : 1 ≤ w.length) : rdT (fuel + 1) (w ++ r) = rdWord (rdT fuel) (w ++ r) :=
  rdT_word fuel _ (head_low w r hw h1 _ (by decide)) (head_low w r hw h1 _ (by decide)) (head_low w r hw h1 _ (by decide)) (head_low w r hw h1 _ (by decide))
theorem rdVar_at (w : ByteArray) (r : List UInt8) (hv : isVr w.data.toList = true) (hr : noLow r) : rdVar (skB (w.data.toList ++ r)) = .ok (w, skB r) := by
  obtain ⟨hn, _, _⟩ := vr_nm _ hv
  obtain ⟨hl, h1⟩ := nm_low _ hn
  obtain ⟨e1, e2⟩ := word_at _ r hl h1 hr
  unfold rdVar
  rw [e1, e2, if_pos hv, bs_of, List.drop_left]
theorem rdLab_at (ls : List ByteArray) (w : ByteArray) (r : List UInt8) (hv : labsOK (ls ++ [w]) = true) (hn : isNm w.data.toList = true) (hr : noLow r) : rdLab ls (skB (w.data.toList ++ r)) = .ok (w, skB r) := by
  obtain ⟨hl, h1⟩ := nm_low _ hn
  obtain ⟨e1, e2⟩ := word_at _ r hl h1 hr
  unfold rdLab
  rw [e1, e2, bs_of, if_pos hv, List.drop_left]
theorem rdSort_at (so : Int) (r : List UInt8) (h : so = 1 ∨ so = 2 ∨ so = 3) (hr : noLow r) : rdSort (skB ((swB so).data.toList ++ r)) = .ok (so, skB r) := by
  rcases h with rfl | rfl | rfl
  · obtain ⟨e1, e2⟩ := word_at [105, 110, 116] r (by decide) (by decide) hr
    show rdSort (skB ([105, 110, 116] ++ r)) = _
    unfold rdSort
    rw [e1, e2, if_pos rfl]; rfl
  · obtain ⟨e1, e2⟩ := word_at [98, 111, 111, 108] r (by decide) (by decide) hr
    show rdSort (skB ([98, 111, 111, 108] ++ r)) = _
    unfold rdSort
    rw [e1, e2, if_neg (by decide), if_pos rfl]; rfl
  · obtain ⟨e1, e2⟩ := word_at [116, 101, 120, 116] r (by decide) (by decide) hr
    show rdSort (skB ([116, 101, 120, 116] ++ r)) = _
    unfold rdSort
    rw [e1, e2, if_neg (by decide), if_neg (by decide), if_pos rfl]; rfl
theorem sw_low (so : Int) : (swB so).data.toList.all isLow = true := by unfold swB; (repeat' split) <;> decide
theorem sg_is (k : Int) (h : k = 2 ∨ k = 3 ∨ k = 4 ∨ k = 5 ∨ k = 6 ∨ k = 7) : ∃ c, (sgB k).data.toList = [c] ∧ isSg c = true := by
  rcases h with rfl | rfl | rfl | rfl | rfl | rfl
  · exact ⟨33, rfl, by decide⟩
  · exact ⟨63, rfl, by decide⟩
  · exact ⟨33, rfl, by decide⟩
  · exact ⟨63, rfl, by decide⟩
  · exact ⟨43, rfl, by decide⟩
  · exact ⟨38, rfl, by decide⟩
/-- the forms of a right part -/
theorem part_full (t : Ty) (h : partT t = true) : t = ⟨1, 0, ⟨#[]⟩, [], []⟩ ∨ (∃ nm, isVr nm.data.toList = true ∧ t = ⟨9, 0, nm, [], []⟩) ∨ (∃ nm a, isVr nm.data.toList = true ∧ t = ⟨8, 0, nm, [], [a]⟩) ∨
    (∃ k so a, (k = 2 ∨ k = 3) ∧ (so = 1 ∨ so = 2 ∨ so = 3) ∧ t = ⟨k, so, ⟨#[]⟩, [], [a]⟩) ∨ (∃ k a b, (k = 4 ∨ k = 5) ∧ t = ⟨k, 0, ⟨#[]⟩, [], [a, b]⟩) ∨
    (∃ k ls ks, (k = 6 ∨ k = 7) ∧ labsOK ls = true ∧ ks.length = ls.length ∧ t = ⟨k, 0, ⟨#[]⟩, ls, ks⟩) := by
  obtain ⟨k, so, nm, ls, ks⟩ := t
  have emp : ∀ s : ByteArray, s.toList.isEmpty = true → s = ⟨#[]⟩ := by
    intro s hs
    rw [ByteArray.toList_eq] at hs
    have : s.data.toList = [] := by simpa using hs
    exact ByteArray.ext (Array.toList_inj.1 (by simpa using this))
  have nil : ∀ {A : Type} (l : List A), l.length = 0 → l = [] := fun l h => List.length_eq_zero_iff.1 h
  have one : ∀ ks : List Ty, ks.length = 1 → ∃ a, ks = [a] := fun ks h => List.length_eq_one_iff.1 h
  have two : ∀ ks : List Ty, ks.length = 2 → ∃ a b, ks = [a, b] := fun ks h => by
    match ks, h with
    | [a, b], _ => exact ⟨a, b, rfl⟩
  unfold partT at h
  simp only at h
  split at h
  · rename_i hk
    simp only [Bool.and_eq_true, decide_eq_true_eq] at h
    obtain ⟨⟨⟨a, b⟩, c⟩, d⟩ := h
    rw [hk, a, emp _ b, nil _ c, nil _ d]
    exact .inl rfl
  split at h
  · rename_i hk
    simp only [Bool.and_eq_true, decide_eq_true_eq] at h
    obtain ⟨⟨⟨a, b⟩, c⟩, d⟩ := h
    obtain ⟨x, rfl⟩ := one _ d
    rw [emp _ b, nil _ c]
    exact .inr (.inr (.inr (.inl ⟨k, so, x, hk, a, rfl⟩)))
  split at h
  · rename_i hk
    simp only [Bool.and_eq_true, decide_eq_true_eq] at h
    obtain ⟨⟨⟨a, b⟩, c⟩, d⟩ := h
    obtain ⟨x, y, rfl⟩ := two _ d
    rw [a, emp _ b, nil _ c]
    exact .inr (.inr (.inr (.inr (.inl ⟨k, x, y, hk, rfl⟩))))
  split at h
  · rename_i hk
    simp only [Bool.and_eq_true, decide_eq_true_eq] at h
    obtain ⟨⟨⟨a, b⟩, c⟩, d⟩ := h
    rw [a, emp _ b]
    exact .inr (.inr (.inr (.inr (.inr ⟨k, ls, ks, hk, c, d, rfl⟩))))
  split at h
  · rename_i hk
    simp only [Bool.and_eq_true, decide_eq_true_eq] at h
    obtain ⟨⟨⟨a, b⟩, c⟩, d⟩ := h
    obtain ⟨x, rfl⟩ := one _ d
    rw [hk, a, nil _ c]
    exact .inr (.inr (.inl ⟨nm, x, b, rfl⟩))
  split at h
  · rename_i hk
    simp only [Bool.and_eq_true, decide_eq_true_eq] at h
    obtain ⟨⟨⟨a, b⟩, c⟩, d⟩ := h
    rw [hk, a, nil _ c, nil _ d]
    exact .inr (.inl ⟨nm, b, rfl⟩)
  · cases h
/-- labels of which some are taken off at the end -/
theorem labs_take (a b : List ByteArray) (h : labsOK (a ++ b) = true) (h1 : 1 ≤ a.length) : labsOK a = true := by
  unfold labsOK at h
  simp only [Bool.and_eq_true, decide_eq_true_eq, List.length_append] at h
  refine labs_yes a h1 (by omega) (fun j hj => ?_)
  have := List.all_eq_true.1 h.2 j (by simp; omega)
  have e : ∀ i, i < a.length → (a ++ b).getD i ⟨#[]⟩ = a.getD i ⟨#[]⟩ := by
    intro i hi
    rw [getD_at _ _ (by rw [List.length_append]; omega), getD_at _ _ hi, List.getElem_append_left hi]
  unfold labAt at this ⊢
  rw [e j hj] at this
  by_cases h0 : 0 < j
  · rw [e (j - 1) (by omega)] at this; exact this
  · simpa [h0] using this
theorem labs_nm (ls : List ByteArray) (h : labsOK ls = true) (l : ByteArray) (hl : l ∈ ls) : isNm l.data.toList = true := by
  unfold labsOK at h
  simp only [Bool.and_eq_true, decide_eq_true_eq] at h
  obtain ⟨i, hi, rfl⟩ := List.getElem_of_mem hl
  have := List.all_eq_true.1 h.2 i (by simpa using hi)
  unfold labAt at this
  rw [getD_at ls i hi] at this
  simp only [Bool.and_eq_true] at this
  exact this.1
/-- a reading that reads what is written -/
def Backs (n : Nat) (R : List UInt8 → RdT) (t : Ty) : Prop := ∀ r, noLow r → R (skB (spL n (wrT t) ++ r)) = .ok (t, skB r)
theorem alts_back (n : Nat) (R : List UInt8 → RdT) (k : Int) : ∀ (m : Nat) (l : ByteArray) (t : Ty) (ls ls' : List ByteArray) (ks ks' : List Ty) (r : List UInt8), ls'.length < m → ks'.length = ls'.length → labsOK (ls ++ l :: ls') = true → (∀ x ∈ t :: ks', Backs n R x) → noLow r →
    rdAlts R k m ls ks (skB (spL n (l.data.toList ++ [58] ++ wrT t ++ choL [44] (ls'.zip (ks'.map wrT)) ++ [125]) ++ r)) = .ok (⟨k, 0, ⟨#[]⟩, ls ++ l :: ls', ks ++ t :: ks'⟩, skB r) := by
  intro m
  induction m with
  | zero => intro l t ls ls' ks ks' r h; omega
  | succ m ih =>
    intro l t ls ls' ks ks' r hm hk hl hb hr
    have hn : isNm l.data.toList = true := labs_nm _ hl l (by simp)
    have hlow := nm_low _ hn
    have e0 : spL n (l.data.toList ++ [58] ++ wrT t ++ choL [44] (ls'.zip (ks'.map wrT)) ++ [125]) ++ r = l.data.toList ++ (sp n 58 ++ (spL n (wrT t) ++ (spL n (choL [44] (ls'.zip (ks'.map wrT)) ++ [125]) ++ r))) := by
      simp only [spL_append, spL_one, spL_low n _ hlow.1, List.append_assoc]
    have hlab : labsOK (ls ++ [l]) = true := labs_take _ ls' (by simpa using hl) (by simp)
    rw [e0]
    unfold rdAlts
    rw [rdLab_at ls l _ hlab hn (noLow_sp n 58 (by decide) _)]
    simp only
    rw [need_sp n 58 (by decide)]
    simp only
    match ls', ks', hk with
    | [], [], _ =>
      have e1 : spL n (choL [44] (([] : List ByteArray).zip (([] : List Ty).map wrT)) ++ [125]) ++ r = sp n 125 ++ r := by
        show spL n ([] ++ [125]) ++ r = _; rw [List.nil_append, spL_one]
      rw [e1, hb t (by simp) _ (noLow_sp n 125 (by decide) r)]
      simp only
      rw [if_pos (sp_head n 125 (by decide) r), sp_drop n 125 (by decide)]
    | l2 :: ls2, t2 :: ks2, hk =>
      have e1 : spL n (choL [44] ((l2 :: ls2).zip ((t2 :: ks2).map wrT)) ++ [125]) ++ r = sp n 44 ++ (spL n (l2.data.toList ++ [58] ++ wrT t2 ++ choL [44] (ls2.zip (ks2.map wrT)) ++ [125]) ++ r) := by
        rw [List.map_cons, List.zip_cons_cons, choL]
        simp only [spL_append, spL_one, List.append_assoc]
      rw [e1, hb t (by simp) _ (noLow_sp n 44 (by decide) _)]
      simp only
      rw [if_neg (by rw [sp_head n 44 (by decide)]; decide), need_sp n 44 (by decide)]
      simp only
      rw [ih l2 t2 (ls ++ [l]) ls2 (ks ++ [t]) ks2 r (by simp at hm; omega) (by simpa using hk) (by simpa using hl) (fun x hx => hb x (.tail _ hx)) hr]
      simp
theorem rdT_msg (fuel : Nat) (k : Int) (h : k = 2 ∨ k = 3 ∨ k = 4 ∨ k = 5) (n : Nat) (r : List UInt8) : rdT (fuel + 1) (skB (spL n (sgB k).data.toList ++ r)) = rdMsg (rdT fuel) (if k = 2 ∨ k = 4 then 2 else 3) (if k = 2 ∨ k = 4 then 4 else 5) (skB r) := by
  have h1 : ∀ c, isSg c = true → (sgB k).data.toList = [c] → skB (spL n (sgB k).data.toList ++ r) = c :: (List.replicate n 32 ++ r) ∧ skB ((skB (spL n (sgB k).data.toList ++ r)).drop 1) = skB r := by
    intro c hc e
    rw [e, spL_one]
    exact ⟨skB_sp n c hc r, sp_drop n c hc r⟩
  rw [rdT]
  rcases h with rfl | rfl | rfl | rfl
  · obtain ⟨e1, e2⟩ := h1 33 (by decide) rfl
    rw [e2, e1, if_pos List.head?_cons, if_pos (by decide), if_pos (by decide)]
  · obtain ⟨e1, e2⟩ := h1 63 (by decide) rfl
    rw [e2, e1, if_neg (by simp), if_pos List.head?_cons, if_neg (by decide), if_neg (by decide)]
  · obtain ⟨e1, e2⟩ := h1 33 (by decide) rfl
    rw [e2, e1, if_pos List.head?_cons, if_pos (by decide), if_pos (by decide)]
  · obtain ⟨e1, e2⟩ := h1 63 (by decide) rfl
    rw [e2, e1, if_neg (by simp), if_pos List.head?_cons, if_neg (by decide), if_neg (by decide)]
theorem rdT_cho (fuel : Nat) (k : Int) (h : k = 6 ∨ k = 7) (n : Nat) (r : List UInt8) : rdT (fuel + 1) (skB (spL n (sgB k).data.toList ++ r)) = rdCho (rdT fuel) k (skB r) := by
  have h1 : ∀ c, isSg c = true → (sgB k).data.toList = [c] → skB (spL n (sgB k).data.toList ++ r) = c :: (List.replicate n 32 ++ r) ∧ skB ((skB (spL n (sgB k).data.toList ++ r)).drop 1) = skB r := by
    intro c hc e
    rw [e, spL_one]
    exact ⟨skB_sp n c hc r, sp_drop n c hc r⟩
  rw [rdT]
  rcases h with rfl | rfl
  · obtain ⟨e1, e2⟩ := h1 43 (by decide) rfl
    rw [e2, e1, if_neg (by simp), if_neg (by simp), if_pos List.head?_cons]
  · obtain ⟨e1, e2⟩ := h1 38 (by decide) rfl
    rw [e2, e1, if_neg (by simp), if_neg (by simp), if_neg (by simp), if_pos List.head?_cons]
/-- HOW DEEP a type is -/
theorem wrT_back (n : Nat) : ∀ t : Ty, wfT t → ∀ fuel, sizeT t < fuel → Backs n (rdT fuel) t := by
  apply tyInd
  intro t ih hw fuel hf
  obtain ⟨hp, hk⟩ := (wfT_eq t).1 hw
  obtain ⟨f, rfl⟩ : ∃ f, fuel = f + 1 := ⟨fuel - 1, by omega⟩
  have hkid : ∀ k ∈ t.kids, Backs n (rdT f) k := fun k hm => ih k hm (hk k hm) f (by have := sizeT_kid hm; omega)
  clear ih hk hf hw
  intro r hr
  rcases part_full t hp with rfl | ⟨nm, hv, rfl⟩ | ⟨nm, a, hv, rfl⟩ | ⟨k, so, a, hk, hso, rfl⟩ | ⟨k, a, b, hk, rfl⟩ | ⟨k, ls, ks, hk, hls, hlen, rfl⟩
  · rw [wt_end _ rfl, spL_low n _ (by decide)]
    obtain ⟨e1, e2⟩ := word_at [101, 110, 100] r (by decide) (by decide) hr
    rw [e1, rdT_low f _ r (by decide) (by decide)]
    unfold rdWord
    rw [e2, if_pos rfl]; rfl
  · obtain ⟨hn, h3, h4⟩ := vr_nm _ hv
    obtain ⟨hl, h1⟩ := nm_low _ hn
    rw [wt_var _ rfl]
    simp only
    rw [spL_low n _ hl]
    obtain ⟨e1, e2⟩ := word_at _ r hl h1 hr
    have hrv := rdVar_at nm r hv hr
    rw [e1] at hrv
    rw [e1, rdT_low f _ r hl h1]
    unfold rdWord
    rw [e2, if_neg h3, if_neg h4]
    unfold rdName
    rw [hrv]
  · obtain ⟨hn, h3, h4⟩ := vr_nm _ hv
    obtain ⟨hl, h1⟩ := nm_low _ hn
    rw [wt_rec _ a rfl rfl]
    simp only
    have e0 : spL n ([114, 101, 99, 32] ++ nm.data.toList ++ [46] ++ wrT a) ++ r = [114, 101, 99] ++ (32 :: (nm.data.toList ++ (sp n 46 ++ (spL n (wrT a) ++ r)))) := by
      have e1 : spL n [114, 101, 99, 32] = [114, 101, 99] ++ [32] := rfl
      simp only [spL_append, spL_one, spL_low n _ hl, e1, List.append_assoc]
      rfl
    rw [e0]
    obtain ⟨e1, e2⟩ := word_at [114, 101, 99] (32 :: (nm.data.toList ++ (sp n 46 ++ (spL n (wrT a) ++ r)))) (by decide) (by decide) (noLow_blank _)
    rw [e1, rdT_low f _ _ (by decide) (by decide)]
    unfold rdWord
    rw [e2, if_neg (by decide), if_pos rfl]
    have e3 : skB (([114, 101, 99] ++ (32 :: (nm.data.toList ++ (sp n 46 ++ (spL n (wrT a) ++ r))))).drop 3) = skB (nm.data.toList ++ (sp n 46 ++ (spL n (wrT a) ++ r))) := skB_rep 1 _
    rw [e3]
    unfold rdRec
    rw [rdVar_at nm _ hv (noLow_sp n 46 (by decide) _)]
    simp only
    rw [need_sp n 46 (by decide)]
    simp only
    rw [hkid a (by simp) r hr]
  · rw [wt_msg _ a hk rfl]
    simp only
    have e0 : spL n ((sgB k).data.toList ++ (swB so).data.toList ++ [46] ++ wrT a) ++ r = spL n (sgB k).data.toList ++ ((swB so).data.toList ++ (sp n 46 ++ (spL n (wrT a) ++ r))) := by
      simp only [spL_append, spL_one, spL_low n _ (sw_low so), List.append_assoc]
    rw [e0, rdT_msg f k (by omega)]
    have hso1 : 1 ≤ (swB so).data.toList.length := by rcases hso with rfl | rfl | rfl <;> decide
    have hka : (if k = 2 ∨ k = 4 then (2 : Int) else 3) = k := by rcases hk with rfl | rfl <;> rfl
    rw [hka]
    unfold rdMsg
    have hh := head_low _ (sp n 46 ++ (spL n (wrT a) ++ r)) (sw_low so) hso1 123 (by decide)
    obtain ⟨e1, _⟩ := word_at _ (sp n 46 ++ (spL n (wrT a) ++ r)) (sw_low so) hso1 (noLow_sp n 46 (by decide) _)
    have hsrt := rdSort_at so (sp n 46 ++ (spL n (wrT a) ++ r)) hso (noLow_sp n 46 (by decide) _)
    rw [e1] at hsrt
    rw [e1, if_neg hh]
    unfold rdSend
    rw [hsrt]
    simp only
    rw [need_sp n 46 (by decide)]
    simp only
    rw [hkid a (by simp) r hr]
  · rw [wt_give _ a b hk rfl]
    simp only
    have e0 : spL n ((sgB k).data.toList ++ [123] ++ wrT a ++ [125, 46] ++ wrT b) ++ r = spL n (sgB k).data.toList ++ (sp n 123 ++ (spL n (wrT a) ++ (sp n 125 ++ (sp n 46 ++ (spL n (wrT b) ++ r))))) := by
      have : ([125, 46] : List UInt8) = [125] ++ [46] := rfl
      rw [this]
      simp only [spL_append, spL_one, List.append_assoc]
    rw [e0, rdT_msg f k (by omega)]
    have hka : (if k = 2 ∨ k = 4 then (4 : Int) else 5) = k := by rcases hk with rfl | rfl <;> rfl
    rw [hka]
    unfold rdMsg
    rw [if_pos (sp_head n 123 (by decide) _), sp_drop n 123 (by decide)]
    unfold rdGive
    rw [hkid a (by simp) _ (noLow_sp n 125 (by decide) _)]
    simp only
    rw [need_sp n 125 (by decide)]
    simp only
    rw [need_sp n 46 (by decide)]
    simp only
    rw [hkid b (by simp) r hr]
  · rw [wt_cho _ hk]
    simp only
    have hl1 : 1 ≤ ls.length ∧ ls.length ≤ 6 := by
      unfold labsOK at hls
      simp only [Bool.and_eq_true, decide_eq_true_eq] at hls
      exact hls.1
    match ls, ks, hlen with
    | [], [], _ => simp at hl1
    | l :: ls', x :: ks', hlen =>
      rw [List.map_cons, List.zip_cons_cons, choL]
      simp only
      have e0 : spL n ((sgB k).data.toList ++ [123] ++ l.data.toList ++ [58] ++ wrT x ++ choL [44] (ls'.zip (ks'.map wrT)) ++ [125]) ++ r = spL n (sgB k).data.toList ++ (sp n 123 ++ (spL n (l.data.toList ++ [58] ++ wrT x ++ choL [44] (ls'.zip (ks'.map wrT)) ++ [125]) ++ r)) := by
        simp only [spL_append, spL_one, List.append_assoc]
      rw [e0, rdT_cho f k hk]
      unfold rdCho
      rw [need_sp n 123 (by decide)]
      simp only
      rw [alts_back n (rdT f) k 7 l x [] ls' [] ks' r (by simp at hl1; omega) (by simpa using hlen) hls (fun y hy => hkid y hy) hr]
      rfl
end Go.Proofs.YthamkbahiidenaaDoor
