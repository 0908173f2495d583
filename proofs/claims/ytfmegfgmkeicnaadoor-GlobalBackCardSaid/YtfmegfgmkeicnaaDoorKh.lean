/-
  How a type is read, as a function on bytes; what is read takes no less text than it is written with.
-/
import Derived.Test.YtfmegfgmkeicnaaDoorKg
namespace Go.Proofs.YtfmegfgmkeicnaaDoor
open Go.RowKit Go.Shelf

/-- blanks at the head are gone -/
def bl (c : UInt8) : Bool := decide (c = 32)
def skB (l : List UInt8) : List UInt8 := l.drop (lead bl l)
/-- the word at the head -/
def wd (l : List UInt8) : List UInt8 := l.take (lead isLow l)
def need (c : UInt8) (l : List UInt8) : Except (List UInt8) (List UInt8) := if l.head? = some c then .ok (skB (l.drop 1)) else .error l
def rdSort (l : List UInt8) : Except (List UInt8) (Int × List UInt8) :=
  if wd l = [105, 110, 116] then .ok (1, skB (l.drop 3)) else if wd l = [98, 111, 111, 108] then .ok (2, skB (l.drop 4)) else if wd l = [116, 101, 120, 116] then .ok (3, skB (l.drop 4)) else .error l
def rdVar (l : List UInt8) : Except (List UInt8) (ByteArray × List UInt8) :=
  if isVr (wd l) = true then .ok (bs (wd l), skB (l.drop (wd l).length)) else .error l
def rdLab (ls : List ByteArray) (l : List UInt8) : Except (List UInt8) (ByteArray × List UInt8) :=
  if labsOK (ls ++ [bs (wd l)]) = true then .ok (bs (wd l), skB (l.drop (wd l).length)) else .error l
/-- what is read: the type and what is left, or where it can't go on -/
abbrev RdT := Except (List UInt8) (Ty × List UInt8)
def rdGive (R : List UInt8 → RdT) (k : Int) (l : List UInt8) : RdT :=
  match R l with
  | .error e => .error e
  | .ok (c, l1) => match need 125 l1 with
    | .error e => .error e
    | .ok l2 => match need 46 l2 with
      | .error e => .error e
      | .ok l3 => match R l3 with
        | .error e => .error e
        | .ok (d, l4) => .ok (⟨k, 0, ⟨#[]⟩, [], [c, d]⟩, l4)
def rdSend (R : List UInt8 → RdT) (k : Int) (l : List UInt8) : RdT :=
  match rdSort l with
  | .error e => .error e
  | .ok (so, l1) => match need 46 l1 with
    | .error e => .error e
    | .ok l2 => match R l2 with
      | .error e => .error e
      | .ok (d, l3) => .ok (⟨k, so, ⟨#[]⟩, [], [d]⟩, l3)
def rdMsg (R : List UInt8 → RdT) (a b : Int) (l : List UInt8) : RdT :=
  if l.head? = some 123 then rdGive R b (skB (l.drop 1)) else rdSend R a l
def rdAlts (R : List UInt8 → RdT) (k : Int) : Nat → List ByteArray → List Ty → List UInt8 → RdT
  | 0, _, _, l => .error l
  | m + 1, ls, ks, l =>
    match rdLab ls l with
    | .error e => .error e
    | .ok (lab, l1) => match need 58 l1 with
      | .error e => .error e
      | .ok l2 => match R l2 with
        | .error e => .error e
        | .ok (t, l3) =>
          if l3.head? = some 125 then .ok (⟨k, 0, ⟨#[]⟩, ls ++ [lab], ks ++ [t]⟩, skB (l3.drop 1))
          else match need 44 l3 with
            | .error e => .error e
            | .ok l4 => rdAlts R k m (ls ++ [lab]) (ks ++ [t]) l4
def rdCho (R : List UInt8 → RdT) (k : Int) (l : List UInt8) : RdT :=
  match need 123 l with
  | .error e => .error e
  | .ok l1 => rdAlts R k 7 [] [] l1
def rdRec (R : List UInt8 → RdT) (l : List UInt8) : RdT :=
  match rdVar l with
  | .error e => .error e
  | .ok (nm, l1) => match need 46 l1 with
    | .error e => .error e
    | .ok l2 => match R l2 with
      | .error e => .error e
      | .ok (d, l3) => .ok (⟨8, 0, nm, [], [d]⟩, l3)
def rdName (l : List UInt8) : RdT :=
  match rdVar l with
  | .error e => .error e
  | .ok (nm, l1) => .ok (⟨9, 0, nm, [], []⟩, l1)
def rdWord (R : List UInt8 → RdT) (l : List UInt8) : RdT :=
  if wd l = [101, 110, 100] then .ok (⟨1, 0, ⟨#[]⟩, [], []⟩, skB (l.drop 3)) else if wd l = [114, 101, 99] then rdRec R (skB (l.drop 3)) else rdName l
def rdT : Nat → List UInt8 → RdT
  | 0, l => .error l
  | n + 1, l =>
    if l.head? = some 33 then rdMsg (rdT n) 2 4 (skB (l.drop 1)) else if l.head? = some 63 then rdMsg (rdT n) 3 5 (skB (l.drop 1))
    else if l.head? = some 43 then rdCho (rdT n) 6 (skB (l.drop 1)) else if l.head? = some 38 then rdCho (rdT n) 7 (skB (l.drop 1))
    else rdWord (rdT n) l

/- what is written of what was read is no longer than what was read -/
theorem skB_len (l : List UInt8) : (skB l).length ≤ l.length := by unfold skB; simp
theorem wd_len (l : List UInt8) : (wd l).length = lead isLow l := by unfold wd; rw [List.length_take]; have := lead_le isLow l; omega
theorem wd_le (l : List UInt8) : (wd l).length ≤ l.length := by rw [wd_len]; exact lead_le _ _
theorem skd_len (n : Nat) (l : List UInt8) (h : n ≤ l.length) : (skB (l.drop n)).length + n ≤ l.length := by
  have := skB_len (l.drop n)
  rw [List.length_drop] at this
  omega
theorem head_pos (l : List UInt8) (c : UInt8) (h : l.head? = some c) : 1 ≤ l.length := by cases l <;> simp_all
theorem need_ok {c : UInt8} {l r : List UInt8} (h : need c l = .ok r) : l.head? = some c ∧ r = skB (l.drop 1) ∧ r.length + 1 ≤ l.length := by
  unfold need at h
  split at h
  · rename_i hh
    injection h with h
    subst h
    exact ⟨hh, rfl, skd_len 1 l (head_pos l c hh)⟩
  · cases h
theorem wd_pre (l w : List UInt8) (h : wd l = w) : w.length ≤ l.length := by rw [← h]; exact wd_le l
theorem rdSort_ok {l r : List UInt8} {so : Int} (h : rdSort l = .ok (so, r)) : (so = 1 ∨ so = 2 ∨ so = 3) ∧ r = skB (l.drop (swB so).data.toList.length) ∧ wd l = (swB so).data.toList ∧ (swB so).data.toList.length + r.length ≤ l.length := by
  unfold rdSort at h
  split at h
  · rename_i hh
    injection h with h; injection h with h1 h2
    subst h1 h2
    exact ⟨.inl rfl, rfl, hh, by have := skd_len 3 l (wd_pre _ _ hh); show 3 + _ ≤ _; omega⟩
  · split at h
    · rename_i hh
      injection h with h; injection h with h1 h2
      subst h1 h2
      exact ⟨.inr (.inl rfl), rfl, hh, by have := skd_len 4 l (wd_pre _ _ hh); show 4 + _ ≤ _; omega⟩
    · split at h
      · rename_i hh
        injection h with h; injection h with h1 h2
        subst h1 h2
        exact ⟨.inr (.inr rfl), rfl, hh, by have := skd_len 4 l (wd_pre _ _ hh); show 4 + _ ≤ _; omega⟩
      · cases h
theorem rdVar_ok {l r : List UInt8} {nm : ByteArray} (h : rdVar l = .ok (nm, r)) : isVr nm.data.toList = true ∧ nm = bs (wd l) ∧ r = skB (l.drop nm.data.toList.length) ∧ nm.data.toList.length + r.length ≤ l.length := by
  unfold rdVar at h
  split at h
  · rename_i hh
    injection h with h; injection h with h1 h2
    subst h1 h2
    rw [bs_list]
    exact ⟨hh, rfl, rfl, by have := skd_len _ l (wd_le l); omega⟩
  · cases h
theorem rdLab_ok {ls : List ByteArray} {l r : List UInt8} {nm : ByteArray} (h : rdLab ls l = .ok (nm, r)) : labsOK (ls ++ [nm]) = true ∧ nm = bs (wd l) ∧ r = skB (l.drop nm.data.toList.length) ∧ nm.data.toList.length + r.length ≤ l.length := by
  unfold rdLab at h
  split at h
  · rename_i hh
    injection h with h; injection h with h1 h2
    subst h1 h2
    rw [bs_list]
    exact ⟨hh, rfl, rfl, by have := skd_len _ l (wd_le l); omega⟩
  · cases h
/-- what a reading gives takes as much text as it is written with -/
def Short (R : List UInt8 → RdT) : Prop := ∀ l t r, R l = .ok (t, r) → (wrT t).length + r.length ≤ l.length ∧ 1 ≤ (wrT t).length
theorem sg_one (k : Int) (h : k = 2 ∨ k = 3 ∨ k = 4 ∨ k = 5 ∨ k = 6 ∨ k = 7) : (sgB k).data.toList.length = 1 := by
  rcases h with rfl | rfl | rfl | rfl | rfl | rfl <;> rfl
theorem short_give {R : List UInt8 → RdT} (hR : Short R) (k : Int) (hk : k = 4 ∨ k = 5) (l r : List UInt8) (t : Ty) (h : rdGive R k l = .ok (t, r)) : (wrT t).length + r.length ≤ l.length + 2 := by
  unfold rdGive at h
  split at h
  · cases h
  rename_i c l1 h1
  split at h
  · cases h
  rename_i l2 h2
  split at h
  · cases h
  rename_i l3 h3
  split at h
  · cases h
  rename_i d l4 h4
  injection h with h; injection h with e1 e2
  subst e1 e2
  have a1 := hR _ _ _ h1
  have a2 := need_ok h2
  have a3 := need_ok h3
  have a4 := hR _ _ _ h4
  rw [wt_give _ c d hk rfl]
  have a5 := sg_one k (by omega)
  simp only [List.length_append, List.length_cons, List.length_nil]
  omega
theorem short_send {R : List UInt8 → RdT} (hR : Short R) (k : Int) (hk : k = 2 ∨ k = 3) (l r : List UInt8) (t : Ty) (h : rdSend R k l = .ok (t, r)) : (wrT t).length + r.length ≤ l.length + 1 := by
  unfold rdSend at h
  split at h
  · cases h
  rename_i so l1 h1
  split at h
  · cases h
  rename_i l2 h2
  split at h
  · cases h
  rename_i d l3 h3
  injection h with h; injection h with e1 e2
  subst e1 e2
  have a1 := rdSort_ok h1
  have a2 := need_ok h2
  have a3 := hR _ _ _ h3
  rw [wt_msg _ d hk rfl]
  have a5 := sg_one k (by omega)
  simp only [List.length_append, List.length_cons, List.length_nil]
  omega
theorem zip_snoc {A B : Type} (ls : List A) (ts : List B) (a : A) (b : B) (h : ts.length = ls.length) : (ls ++ [a]).zip (ts ++ [b]) = ls.zip ts ++ [(a, b)] := by
  rw [List.zip_append h.symm]; rfl
theorem cho_append (ps : List (ByteArray × List UInt8)) : ∀ (pre : List UInt8) (q : ByteArray × List UInt8), choL pre (ps ++ [q]) = choL pre ps ++ (if ps = [] then pre else [44]) ++ q.1.data.toList ++ [58] ++ q.2 := by
  induction ps with
  | nil => intro pre q; simp [choL]
  | cons p ps ih =>
    intro pre q
    rw [List.cons_append, choL, ih, choL]
    by_cases h : ps = []
    · subst h; simp [choL]
    · simp [h]
theorem short_alts {R : List UInt8 → RdT} (hR : Short R) (k : Int) (hk : k = 6 ∨ k = 7) : ∀ (m : Nat) (ls : List ByteArray) (ks : List Ty) (l r : List UInt8) (t : Ty), ks.length = ls.length → rdAlts R k m ls ks l = .ok (t, r) →
    (wrT t).length + r.length ≤ l.length + (choL ((sgB k).data.toList ++ [123]) (ls.zip (ks.map wrT))).length + (if ls = [] then 2 else 1) := by
  intro m
  induction m with
  | zero => intro ls ks l r t _ h; cases h
  | succ m ih =>
    intro ls ks l r t hl h
    unfold rdAlts at h
    split at h
    · cases h
    rename_i lab l1 h1
    split at h
    · cases h
    rename_i l2 h2
    split at h
    · cases h
    rename_i t1 l3 h3
    have a1 := rdLab_ok h1
    have a2 := need_ok h2
    have a3 := hR _ _ _ h3
    have a5 := sg_one k (by omega)
    have hz : (ls ++ [lab]).zip ((ks ++ [t1]).map wrT) = ls.zip (ks.map wrT) ++ [(lab, wrT t1)] := by
      rw [List.map_append]; exact zip_snoc _ _ _ _ (by simpa using hl)
    have hzn : ls.zip (ks.map wrT) = [] ↔ ls = [] := by
      constructor
      · intro e
        have := congrArg List.length e
        rw [List.length_zip, List.length_map, hl] at this
        exact List.length_eq_zero_iff.1 (by simpa using this)
      · rintro rfl; rfl
    have hlen : (choL ((sgB k).data.toList ++ [123]) ((ls ++ [lab]).zip ((ks ++ [t1]).map wrT))).length = (choL ((sgB k).data.toList ++ [123]) (ls.zip (ks.map wrT))).length + (if ls = [] then 2 else 1) + lab.data.toList.length + 1 + (wrT t1).length := by
      rw [hz, cho_append]
      by_cases e : ls = []
      · rw [if_pos (hzn.2 e), if_pos e]; simp only [List.length_append, List.length_cons, List.length_nil]; omega
      · rw [if_neg (fun q => e (hzn.1 q)), if_neg e]; simp only [List.length_append, List.length_cons, List.length_nil]
    split at h
    · rename_i hh
      injection h with h; injection h with e1 e2
      subst e1 e2
      have a4 := skd_len 1 l3 (head_pos _ _ hh)
      rw [wt_cho _ hk, List.length_append]
      simp only [List.length_cons, List.length_nil]
      omega
    · split at h
      · cases h
      rename_i l4 h4
      have a4 := need_ok h4
      have := ih (ls ++ [lab]) (ks ++ [t1]) l4 r t (by simp [hl]) h
      rw [if_neg (show ls ++ [lab] ≠ [] by simp)] at this
      omega
theorem short_cho {R : List UInt8 → RdT} (hR : Short R) (k : Int) (hk : k = 6 ∨ k = 7) (l r : List UInt8) (t : Ty) (h : rdCho R k l = .ok (t, r)) : (wrT t).length + r.length ≤ l.length + 1 := by
  unfold rdCho at h
  split at h
  · cases h
  rename_i l1 h1
  have a1 := need_ok h1
  have := short_alts hR k hk 7 [] [] l1 r t rfl h
  rw [if_pos rfl] at this
  have e : (choL ((sgB k).data.toList ++ [123]) (([] : List ByteArray).zip (([] : List Ty).map wrT))).length = 0 := rfl
  omega
theorem lead_stop (p : UInt8 → Bool) : ∀ l : List UInt8, lead p (l.drop (lead p l)) = 0
  | [] => rfl
  | c :: l => by
    have ih := lead_stop p l
    by_cases h : p c
    · have e : lead p (c :: l) = lead p l + 1 := by rw [lead, if_pos h]
      rw [e, List.drop_succ_cons]; exact ih
    · have e : lead p (c :: l) = 0 := by rw [lead, if_neg h]
      rw [e, List.drop_zero, e]
theorem vr_pos (l : List UInt8) (h : isVr l = true) : 1 ≤ l.length := by
  unfold isVr at h
  simp only [Bool.and_eq_true] at h
  have := h.1
  unfold isNm at this
  split at this
  · cases this
  · simp only [Bool.and_eq_true, decide_eq_true_eq] at this; exact this.1.1
/-- behind a word, a blank stands ahead of another one -/
theorem rec_gap (l : List UInt8) (h : 1 ≤ (wd (skB (l.drop (wd l).length))).length) : (skB (l.drop (wd l).length)).length + (wd l).length + 1 ≤ l.length := by
  have h1 : lead isLow (l.drop (wd l).length) = 0 := by rw [wd_len]; exact lead_stop _ _
  have h2 := wd_le l
  generalize (wd l).length = n at *
  have h3 : (l.drop n).length = l.length - n := List.length_drop
  generalize l.drop n = m at *
  by_cases e : lead bl m = 0
  · have : skB m = m := by unfold skB; rw [e]; rfl
    rw [this, wd_len, h1] at h
    omega
  · have : (skB m).length = m.length - lead bl m := by unfold skB; rw [List.length_drop]
    have := lead_le bl m
    omega
theorem short_rec {R : List UInt8 → RdT} (hR : Short R) (l r : List UInt8) (t : Ty) (hw : wd l = [114, 101, 99]) (h : rdRec R (skB (l.drop 3)) = .ok (t, r)) : (wrT t).length + r.length ≤ l.length := by
  unfold rdRec at h
  split at h
  · cases h
  rename_i nm l1 h1
  split at h
  · cases h
  rename_i l2 h2
  split at h
  · cases h
  rename_i d l3 h3
  injection h with h; injection h with e1 e2
  subst e1 e2
  have a1 := rdVar_ok h1
  have a2 := need_ok h2
  have a3 := hR _ _ _ h3
  have hg := rec_gap l (by rw [hw]; have := vr_pos _ a1.1; rw [a1.2.1, bs_list] at this; exact this)
  rw [hw] at hg
  replace hg : (skB (l.drop 3)).length + 3 + 1 ≤ l.length := hg
  rw [wt_rec _ d rfl rfl]
  simp only [List.length_append, List.length_cons, List.length_nil]
  omega
theorem wt_pos (t : Ty) (h : t.kind = 2 ∨ t.kind = 3 ∨ t.kind = 4 ∨ t.kind = 5 ∨ t.kind = 6 ∨ t.kind = 7 ∨ t.kind = 8) : 1 ≤ (wrT t).length := by
  rw [wrT_eq]
  unfold wrTN
  rw [if_neg (by omega), if_neg (by omega)]
  split
  · simp only [List.length_append, List.length_cons, List.length_nil]; omega
  · split
    · simp only [List.length_append, List.length_cons, List.length_nil]; omega
    · split
      · simp only [List.length_append, List.length_cons, List.length_nil]; omega
      · simp only [List.length_append, List.length_cons, List.length_nil]; omega
theorem kind_give {R : List UInt8 → RdT} {k : Int} {l r : List UInt8} {t : Ty} (h : rdGive R k l = .ok (t, r)) : t.kind = k := by
  unfold rdGive at h
  split at h
  · cases h
  split at h
  · cases h
  split at h
  · cases h
  split at h
  · cases h
  injection h with h; injection h with e1 e2
  subst e1; rfl
theorem kind_send {R : List UInt8 → RdT} {k : Int} {l r : List UInt8} {t : Ty} (h : rdSend R k l = .ok (t, r)) : t.kind = k := by
  unfold rdSend at h
  split at h
  · cases h
  split at h
  · cases h
  split at h
  · cases h
  injection h with h; injection h with e1 e2
  subst e1; rfl
theorem kind_rec {R : List UInt8 → RdT} {l r : List UInt8} {t : Ty} (h : rdRec R l = .ok (t, r)) : t.kind = 8 := by
  unfold rdRec at h
  split at h
  · cases h
  split at h
  · cases h
  split at h
  · cases h
  injection h with h; injection h with e1 e2
  subst e1; rfl
theorem kind_alts {R : List UInt8 → RdT} {k : Int} : ∀ (m : Nat) (ls : List ByteArray) (ks : List Ty) (l r : List UInt8) (t : Ty), rdAlts R k m ls ks l = .ok (t, r) → t.kind = k := by
  intro m
  induction m with
  | zero => intro ls ks l r t h; cases h
  | succ m ih =>
    intro ls ks l r t h
    unfold rdAlts at h
    split at h
    · cases h
    split at h
    · cases h
    split at h
    · cases h
    split at h
    · injection h with h; injection h with e1 e2
      subst e1; rfl
    · split at h
      · cases h
      · exact ih _ _ _ _ _ h
theorem kind_cho {R : List UInt8 → RdT} {k : Int} {l r : List UInt8} {t : Ty} (h : rdCho R k l = .ok (t, r)) : t.kind = k := by
  unfold rdCho at h
  split at h
  · cases h
  · exact kind_alts _ _ _ _ _ _ h
theorem short_msg {R : List UInt8 → RdT} (hR : Short R) (a b : Int) (ha : a = 2 ∨ a = 3) (hb : b = 4 ∨ b = 5) (l r : List UInt8) (t : Ty) (h : rdMsg R a b l = .ok (t, r)) : (wrT t).length + r.length ≤ l.length + 1 ∧ 1 ≤ (wrT t).length := by
  unfold rdMsg at h
  split at h
  · rename_i hh
    have := short_give hR b hb _ r t h
    have h2 := skd_len 1 l (head_pos _ _ hh)
    exact ⟨by omega, wt_pos t (by rw [kind_give h]; omega)⟩
  · exact ⟨short_send hR a ha l r t h, wt_pos t (by rw [kind_send h]; omega)⟩
theorem rdT_short : ∀ n, Short (rdT n) := by
  intro n
  induction n with
  | zero => intro l t r h; cases h
  | succ n ih =>
    intro l t r h
    unfold rdT at h
    split at h
    · rename_i hh
      have h2 := skd_len 1 l (head_pos _ _ hh)
      have := short_msg ih 2 4 (.inl rfl) (.inl rfl) _ r t h
      exact ⟨by omega, this.2⟩
    split at h
    · rename_i hh
      have h2 := skd_len 1 l (head_pos _ _ hh)
      have := short_msg ih 3 5 (.inr rfl) (.inr rfl) _ r t h
      exact ⟨by omega, this.2⟩
    split at h
    · rename_i hh
      have h2 := skd_len 1 l (head_pos _ _ hh)
      have := short_cho ih 6 (.inl rfl) _ r t h
      exact ⟨by omega, wt_pos t (by rw [kind_cho h]; omega)⟩
    split at h
    · rename_i hh
      have h2 := skd_len 1 l (head_pos _ _ hh)
      have := short_cho ih 7 (.inr rfl) _ r t h
      exact ⟨by omega, wt_pos t (by rw [kind_cho h]; omega)⟩
    unfold rdWord at h
    split at h
    · rename_i hw
      injection h with h; injection h with e1 e2
      subst e1 e2
      have := skd_len 3 l (wd_pre _ _ hw)
      rw [wt_end _ rfl]
      simp only [List.length_cons, List.length_nil]
      omega
    split at h
    · rename_i hw
      exact ⟨short_rec ih l r t hw h, wt_pos t (by rw [kind_rec h]; omega)⟩
    unfold rdName at h
    split at h
    · cases h
    rename_i nm l1 h1
    injection h with h; injection h with e1 e2
    subst e1 e2
    have a1 := rdVar_ok h1
    have := vr_pos _ a1.1
    rw [wt_var _ rfl]
    simp only
    omega
end Go.Proofs.YtfmegfgmkeicnaaDoor
