/-
  PLAIN: a conversation, what is right of one, how it is written and how it is read, on bytes.
-/
import Derived.Test.YtfmegfgmkeicnaaDoorKi
namespace Go.Proofs.YtfmegfgmkeicnaaDoor
open Go.RowKit Go.Shelf

structure Cv where
  kind : Int
  fm : ByteArray
  tt : ByteArray
  so : Int
  name : ByteArray
  labels : List ByteArray
  kids : List Cv
def sizeCv : Cv → Nat
  | ⟨_, _, _, _, _, _, ks⟩ => 1 + (ks.map sizeCv).sum
theorem sizeCv_eq (t : Cv) : sizeCv t = 1 + (t.kids.map sizeCv).sum := by cases t; rw [sizeCv]
theorem sizeCv_kid {t k : Cv} (h : k ∈ t.kids) : sizeCv k < sizeCv t := by
  rw [sizeCv_eq t]
  have : ∀ l : List Cv, k ∈ l → sizeCv k ≤ (l.map sizeCv).sum := by
    intro l
    induction l with
    | nil => intro h; cases h
    | cons a l ih =>
      intro h
      simp only [List.map_cons, List.sum_cons]
      rcases List.mem_cons.1 h with rfl | h
      · omega
      · have := ih h; omega
  have := this _ h
  omega
theorem cvInd {P : Cv → Prop} (h : ∀ t, (∀ k ∈ t.kids, P k) → P t) : ∀ t, P t := by
  have : ∀ n t, sizeCv t ≤ n → P t := by
    intro n
    induction n with
    | zero => intro t ht; have := sizeCv_eq t; omega
    | succ n ih => intro t ht; exact h t (fun k hk => ih k (by have := sizeCv_kid hk; omega))
  exact fun t => this _ t (Nat.le_refl _)
/-- a role -/
def isRl (l : List UInt8) : Bool := match l with
  | [c] => decide (97 ≤ c.toNat ∧ c.toNat ≤ 104)
  | _ => false
theorem rl_one {l : List UInt8} (h : isRl l = true) : ∃ c : UInt8, l = [c] ∧ 97 ≤ c.toNat ∧ c.toNat ≤ 104 := by
  unfold isRl at h
  split at h
  · next c => exact ⟨c, rfl, by simpa using h⟩
  · cases h
theorem rl_low {l : List UInt8} (h : isRl l = true) : l.all isLow = true ∧ l.length = 1 := by
  obtain ⟨c, rfl, h1, h2⟩ := rl_one h
  refine ⟨?_, rfl⟩
  rw [List.all_cons, List.all_nil, Bool.and_true]
  unfold isLow
  simp only [decide_eq_true_eq]
  omega
/-- two roles that are not one -/
def rls (a b : ByteArray) : Prop := isRl a.data.toList = true ∧ isRl b.data.toList = true ∧ a ≠ b
/-- what is right of a part -/
def partCv (t : Cv) : Prop :=
  (t = ⟨1, ⟨#[]⟩, ⟨#[]⟩, 0, ⟨#[]⟩, [], []⟩) ∨
  (∃ nm, isVr nm.data.toList = true ∧ t = ⟨9, ⟨#[]⟩, ⟨#[]⟩, 0, nm, [], []⟩) ∨
  (∃ nm k, isVr nm.data.toList = true ∧ t = ⟨8, ⟨#[]⟩, ⟨#[]⟩, 0, nm, [], [k]⟩) ∨
  (∃ a b so k, rls a b ∧ (so = 1 ∨ so = 2 ∨ so = 3) ∧ t = ⟨2, a, b, so, ⟨#[]⟩, [], [k]⟩) ∨
  (∃ a b ls ks, rls a b ∧ labsOK ls = true ∧ ks.length = ls.length ∧ t = ⟨6, a, b, 0, ⟨#[]⟩, ls, ks⟩)
def wfCv : Cv → Prop
  | ⟨kd, a, b, so, nm, ls, ks⟩ => partCv ⟨kd, a, b, so, nm, ls, ks⟩ ∧ ∀ k ∈ ks, wfCv k
theorem wfCv_eq (t : Cv) : wfCv t ↔ partCv t ∧ ∀ k ∈ t.kids, wfCv k := by cases t; rw [wfCv]
def wrCvN (kd : Int) (a b : ByteArray) (so : Int) (nm : ByteArray) (ls : List ByteArray) (ts : List (List UInt8)) : List UInt8 :=
  if kd = 1 then [101, 110, 100] else if kd = 9 then nm.data.toList else if kd = 8 then [114, 101, 99, 32] ++ nm.data.toList ++ [46] ++ ts.getD 0 []
  else if kd = 2 then a.data.toList ++ [62] ++ b.data.toList ++ [58] ++ (swB so).data.toList ++ [46] ++ ts.getD 0 []
  else choL (a.data.toList ++ [62] ++ b.data.toList ++ [123]) (ls.zip ts) ++ [125]
/-- what a conversation is written as -/
def wrCv : Cv → List UInt8
  | ⟨kd, a, b, so, nm, ls, ks⟩ => wrCvN kd a b so nm ls (ks.map wrCv)
theorem wrCv_eq (t : Cv) : wrCv t = wrCvN t.kind t.fm t.tt t.so t.name t.labels (t.kids.map wrCv) := by cases t; rw [wrCv]
abbrev RdCv := Option (Cv × List UInt8)
def rdCvSend (R : List UInt8 → RdCv) (a b : ByteArray) (l : List UInt8) : RdCv :=
  match rdSort l with
  | .error _ => none
  | .ok (so, l1) => match need 46 l1 with
    | .error _ => none
    | .ok l2 => match R l2 with
      | none => none
      | some (d, l3) => some (⟨2, a, b, so, ⟨#[]⟩, [], [d]⟩, l3)
def rdCvAlts (R : List UInt8 → RdCv) (a b : ByteArray) : Nat → List ByteArray → List Cv → List UInt8 → RdCv
  | 0, _, _, _ => none
  | m + 1, ls, ks, l =>
    match rdLab ls l with
    | .error _ => none
    | .ok (lab, l1) => match need 58 l1 with
      | .error _ => none
      | .ok l2 => match R l2 with
        | none => none
        | some (t, l3) =>
          if l3.head? = some 125 then some (⟨6, a, b, 0, ⟨#[]⟩, ls ++ [lab], ks ++ [t]⟩, skB (l3.drop 1))
          else match need 44 l3 with
            | .error _ => none
            | .ok l4 => rdCvAlts R a b m (ls ++ [lab]) (ks ++ [t]) l4
/-- behind the first role and its sign -/
def rdCvTalk (R : List UInt8 → RdCv) (a : ByteArray) (l : List UInt8) : RdCv :=
  if isRl (wd l) = true ∧ bs (wd l) ≠ a then
    let l1 := skB (l.drop (wd l).length)
    if l1.head? = some 58 then rdCvSend R a (bs (wd l)) (skB (l1.drop 1))
    else match need 123 l1 with
      | .error _ => none
      | .ok l2 => rdCvAlts R a (bs (wd l)) 7 [] [] l2
  else none
def rdCvRec (R : List UInt8 → RdCv) (l : List UInt8) : RdCv :=
  match rdVar l with
  | .error _ => none
  | .ok (nm, l1) => match need 46 l1 with
    | .error _ => none
    | .ok l2 => match R l2 with
      | none => none
      | some (d, l3) => some (⟨8, ⟨#[]⟩, ⟨#[]⟩, 0, nm, [], [d]⟩, l3)
/-- a word that is neither end nor rec: a role, if its sign stands behind it, else a name -/
def rdCvName (R : List UInt8 → RdCv) (l : List UInt8) : RdCv :=
  let l1 := skB (l.drop (wd l).length)
  if l1.head? = some 62 then (if isRl (wd l) = true then rdCvTalk R (bs (wd l)) (skB (l1.drop 1)) else none)
  else match rdVar l with
    | .error _ => none
    | .ok (nm, l1) => some (⟨9, ⟨#[]⟩, ⟨#[]⟩, 0, nm, [], []⟩, l1)
def rdCv : Nat → List UInt8 → RdCv
  | 0, _ => none
  | n + 1, l =>
    if wd l = [101, 110, 100] then some (⟨1, ⟨#[]⟩, ⟨#[]⟩, 0, ⟨#[]⟩, [], []⟩, skB (l.drop 3)) else if wd l = [114, 101, 99] then rdCvRec (rdCv n) (skB (l.drop 3)) else rdCvName (rdCv n) l
theorem wc_end : wrCv ⟨1, ⟨#[]⟩, ⟨#[]⟩, 0, ⟨#[]⟩, [], []⟩ = [101, 110, 100] := by rw [wrCv_eq]; rfl
theorem wc_var (nm : ByteArray) : wrCv ⟨9, ⟨#[]⟩, ⟨#[]⟩, 0, nm, [], []⟩ = nm.data.toList := by rw [wrCv_eq]; rfl
theorem wc_rec (nm : ByteArray) (k : Cv) : wrCv ⟨8, ⟨#[]⟩, ⟨#[]⟩, 0, nm, [], [k]⟩ = [114, 101, 99, 32] ++ nm.data.toList ++ [46] ++ wrCv k := by rw [wrCv_eq]; rfl
theorem wc_send (a b : ByteArray) (so : Int) (k : Cv) : wrCv ⟨2, a, b, so, ⟨#[]⟩, [], [k]⟩ = a.data.toList ++ [62] ++ b.data.toList ++ [58] ++ (swB so).data.toList ++ [46] ++ wrCv k := by rw [wrCv_eq]; rfl
theorem wc_pick (a b : ByteArray) (ls : List ByteArray) (ks : List Cv) : wrCv ⟨6, a, b, 0, ⟨#[]⟩, ls, ks⟩ = choL (a.data.toList ++ [62] ++ b.data.toList ++ [123]) (ls.zip (ks.map wrCv)) ++ [125] := by rw [wrCv_eq]; rfl
/-- what a reading gives takes as much text as it is written with -/
def ShortCv (R : List UInt8 → RdCv) : Prop := ∀ l t r, R l = some (t, r) → (wrCv t).length + r.length ≤ l.length ∧ 1 ≤ (wrCv t).length
theorem shortCv_alts {R : List UInt8 → RdCv} (hR : ShortCv R) (a b : ByteArray) (ha : a.data.toList.length = 1) (hb : b.data.toList.length = 1) : ∀ (m : Nat) (ls : List ByteArray) (ks : List Cv) (l r : List UInt8) (t : Cv), ks.length = ls.length → rdCvAlts R a b m ls ks l = some (t, r) →
    (wrCv t).length + r.length ≤ l.length + (choL (a.data.toList ++ [62] ++ b.data.toList ++ [123]) (ls.zip (ks.map wrCv))).length + (if ls = [] then 4 else 1) ∧ 1 ≤ (wrCv t).length := by
  intro m
  induction m with
  | zero => intro ls ks l r t _ h; cases h
  | succ m ih =>
    intro ls ks l r t hl h
    unfold rdCvAlts at h
    split at h
    · cases h
    rename_i lab l1 h1
    split at h
    · cases h
    rename_i l2 h2
    split at h
    · cases h
    rename_i t1 l3 h3
    have a1 := rdLab_ok h1
    have a2 := need_ok h2
    have a3 := hR _ _ _ h3
    have hz : (ls ++ [lab]).zip ((ks ++ [t1]).map wrCv) = ls.zip (ks.map wrCv) ++ [(lab, wrCv t1)] := by
      rw [List.map_append]; exact zip_snoc _ _ _ _ (by simpa using hl)
    have hzn : ls.zip (ks.map wrCv) = [] ↔ ls = [] := by
      constructor
      · intro e
        have := congrArg List.length e
        rw [List.length_zip, List.length_map, hl] at this
        exact List.length_eq_zero_iff.1 (by simpa using this)
      · rintro rfl; rfl
    have hlen : (choL (a.data.toList ++ [62] ++ b.data.toList ++ [123]) ((ls ++ [lab]).zip ((ks ++ [t1]).map wrCv))).length = (choL (a.data.toList ++ [62] ++ b.data.toList ++ [123]) (ls.zip (ks.map wrCv))).length + (if ls = [] then 4 else 1) + lab.data.toList.length + 1 + (wrCv t1).length := by
      rw [hz, cho_append]
      by_cases e : ls = []
      · rw [if_pos (hzn.2 e), if_pos e]; simp only [List.length_append, List.length_cons, List.length_nil]; omega
      · rw [if_neg (fun q => e (hzn.1 q)), if_neg e]; simp only [List.length_append, List.length_cons, List.length_nil]
    split at h
    · rename_i hh
      injection h with h; injection h with e1 e2
      subst e1 e2
      have a4 := skd_len 1 l3 (head_pos _ _ hh)
      rw [wc_pick, List.length_append]
      simp only [List.length_cons, List.length_nil]
      omega
    · split at h
      · cases h
      rename_i l4 h4
      have a4 := need_ok h4
      have := ih (ls ++ [lab]) (ks ++ [t1]) l4 r t (by simp [hl]) h
      rw [if_neg (show ls ++ [lab] ≠ [] by simp)] at this
      omega
theorem shortCv_talk {R : List UInt8 → RdCv} (hR : ShortCv R) (a : ByteArray) (ha : a.data.toList.length = 1) (l r : List UInt8) (t : Cv) (h : rdCvTalk R a l = some (t, r)) : (wrCv t).length + r.length ≤ l.length + 2 ∧ 1 ≤ (wrCv t).length := by
  unfold rdCvTalk at h
  split at h
  · rename_i hw
    have hb : (bs (wd l)).data.toList.length = 1 := by rw [bs_list]; exact (rl_low hw.1).2
    have h1 : (wd l).length = 1 := (rl_low hw.1).2
    have h2 := skd_len 1 l (by rw [← h1]; exact wd_le l)
    simp only [h1] at h
    split at h
    · rename_i hh
      have h3 := skd_len 1 _ (head_pos _ _ hh)
      unfold rdCvSend at h
      split at h
      · cases h
      rename_i so l3 h4
      split at h
      · cases h
      rename_i l4 h5
      split at h
      · cases h
      rename_i d l5 h6
      injection h with h; injection h with e1 e2
      subst e1 e2
      have a1 := rdSort_ok h4
      have a2 := need_ok h5
      have a3 := hR _ _ _ h6
      rw [wc_send]
      simp only [List.length_append, List.length_cons, List.length_nil]
      omega
    · split at h
      · cases h
      rename_i l3 h4
      have a2 := need_ok h4
      have := shortCv_alts hR a (bs (wd l)) ha hb 7 [] [] l3 r t rfl h
      rw [if_pos rfl] at this
      have e : (choL (a.data.toList ++ [62] ++ (bs (wd l)).data.toList ++ [123]) (([] : List ByteArray).zip (([] : List Cv).map wrCv))).length = 0 := rfl
      omega
  · cases h
theorem rdCv_short : ∀ n, ShortCv (rdCv n) := by
  intro n
  induction n with
  | zero => intro l t r h; cases h
  | succ n ih =>
    intro l t r h
    unfold rdCv at h
    split at h
    · rename_i hw
      injection h with h; injection h with e1 e2
      subst e1 e2
      have := skd_len 3 l (wd_pre _ _ hw)
      rw [wc_end]
      simp only [List.length_cons, List.length_nil]
      omega
    split at h
    · rename_i hw
      unfold rdCvRec at h
      split at h
      · cases h
      rename_i nm l1 h1
      split at h
      · cases h
      rename_i l2 h2
      split at h
      · cases h
      rename_i d l3 h3
      injection h with h; injection h with e1 e2
      subst e1 e2
      have a1 := rdVar_ok h1
      have a2 := need_ok h2
      have a3 := ih _ _ _ h3
      have hg := rec_gap l (by rw [hw]; have := vr_pos _ a1.1; rw [a1.2.1, bs_list] at this; exact this)
      rw [hw] at hg
      replace hg : (skB (l.drop 3)).length + 3 + 1 ≤ l.length := hg
      rw [wc_rec]
      simp only [List.length_append, List.length_cons, List.length_nil]
      omega
    unfold rdCvName at h
    simp only at h
    split at h
    · rename_i hh
      split at h
      · rename_i hw
        have h1 : (wd l).length = 1 := (rl_low hw).2
        rw [h1] at h hh
        have h2 := skd_len 1 l (by rw [← h1]; exact wd_le l)
        have h3 := skd_len 1 _ (head_pos _ _ hh)
        have := shortCv_talk ih (bs (wd l)) (by rw [bs_list]; exact h1) _ r t h
        exact ⟨by omega, this.2⟩
      · cases h
    · split at h
      · cases h
      rename_i nm l1 h1
      injection h with h; injection h with e1 e2
      subst e1 e2
      have a1 := rdVar_ok h1
      have := vr_pos _ a1.1
      rw [wc_var]
      omega
end Go.Proofs.YtfmegfgmkeicnaaDoor
