/-
  PLAIN: how a conversation is read, as the code goes, with where it can't go on; that it is the document's reading (Cva).
-/
import Derived.Test.YtfmegfgmkeicnaaDoorCyd
import Derived.Test.YtfmegfgmkeicnaaDoorCvb
namespace Go.Proofs.YtfmegfgmkeicnaaDoor
open Go.RowKit Go.Shelf
abbrev RdE := Except (List UInt8) (Cv × List UInt8)
abbrev RdK := Except (List UInt8) ((List ByteArray × List Cv) × List UInt8)
def reAlts (R : List UInt8 → RdE) : Nat → List ByteArray → List Cv → List UInt8 → RdK
  | 0, _, _, l => .error l
  | m + 1, ls, ks, l =>
    match rdLab ls l with
    | .error e => .error e
    | .ok (lab, l1) => match need 58 l1 with
      | .error e => .error e
      | .ok l2 => match R l2 with
        | .error e => .error e
        | .ok (t, l3) =>
          if l3.head? = some 125 then .ok ((ls ++ [lab], ks ++ [t]), skB (l3.drop 1))
          else match need 44 l3 with
            | .error e => .error e
            | .ok l4 => reAlts R m (ls ++ [lab]) (ks ++ [t]) l4
def reCho (R : List UInt8 → RdE) (l : List UInt8) : RdK :=
  match need 123 l with
  | .error e => .error e
  | .ok l1 => reAlts R 7 [] [] l1
def reSend (R : List UInt8 → RdE) (a b : ByteArray) (l : List UInt8) : RdE :=
  match rdSort l with
  | .error e => .error e
  | .ok (so, l1) => match need 46 l1 with
    | .error e => .error e
    | .ok l2 => match R l2 with
      | .error e => .error e
      | .ok (d, l3) => .ok (⟨2, a, b, so, ⟨#[]⟩, [], [d]⟩, l3)
/-- behind the sign that stands behind the first role -/
def reSaid (R : List UInt8 → RdE) (a : ByteArray) (l : List UInt8) : RdE :=
  if isRl (wd l) = true ∧ a ≠ bs (wd l) then
    let l1 := skB (l.drop (wd l).length)
    if l1.head? = some 58 then reSend R a (bs (wd l)) (skB (l1.drop 1))
    else match reCho R l1 with
      | .error e => .error e
      | .ok ((ls, ks), l2) => .ok (⟨6, a, bs (wd l), 0, ⟨#[]⟩, ls, ks⟩, l2)
  else .error l
def reRec (R : List UInt8 → RdE) (l : List UInt8) : RdE :=
  match rdVar l with
  | .error e => .error e
  | .ok (nm, l1) => match need 46 l1 with
    | .error e => .error e
    | .ok l2 => match R l2 with
      | .error e => .error e
      | .ok (d, l3) => .ok (⟨8, ⟨#[]⟩, ⟨#[]⟩, 0, nm, [], [d]⟩, l3)
def reName (R : List UInt8 → RdE) (l : List UInt8) : RdE :=
  match rdVar l with
  | .error e => .error e
  | .ok (nm, l1) => if isRl nm.data.toList = true ∧ l1.head? = some 62 then reSaid R nm (skB (l1.drop 1)) else .ok (⟨9, ⟨#[]⟩, ⟨#[]⟩, 0, nm, [], []⟩, l1)
def rdE : Nat → List UInt8 → RdE
  | 0, l => .error l
  | n + 1, l => if wd l = [101, 110, 100] then .ok (⟨1, ⟨#[]⟩, ⟨#[]⟩, 0, ⟨#[]⟩, [], []⟩, skB (l.drop 3))
    else if wd l = [114, 101, 99] then reRec (rdE n) (skB (l.drop 3)) else reName (rdE n) l
def HE1 (R : List UInt8 → RdE) (Q : List UInt8 → RdCv) : Prop := ∀ l t r, R l = .ok (t, r) → r.head? ≠ some 62 → Q l = some (t, r)
def HE2 (R : List UInt8 → RdE) (Q : List UInt8 → RdCv) : Prop := ∀ l t r, Q l = some (t, r) → R l = .ok (t, r)
theorem re1_alts {R : List UInt8 → RdE} {Q : List UInt8 → RdCv} (h : HE1 R Q) (a b : ByteArray) : ∀ m ls ks l ls' ks' r, reAlts R m ls ks l = .ok ((ls', ks'), r) → rdCvAlts Q a b m ls ks l = some (⟨6, a, b, 0, ⟨#[]⟩, ls', ks'⟩, r) := by
  intro m
  induction m with
  | zero => intro ls ks l ls' ks' r h; cases h
  | succ m ih =>
    intro ls ks l ls' ks' r hr
    unfold reAlts at hr
    unfold rdCvAlts
    cases h1 : rdLab ls l with
    | error e => rw [h1] at hr; cases hr
    | ok x =>
      obtain ⟨lab, l1⟩ := x
      rw [h1] at hr
      simp only at hr ⊢
      cases h2 : need 58 l1 with
      | error e => rw [h2] at hr; cases hr
      | ok l2 =>
        rw [h2] at hr
        simp only at hr ⊢
        cases h3 : R l2 with
        | error e => rw [h3] at hr; cases hr
        | ok y =>
          obtain ⟨t, l3⟩ := y
          rw [h3] at hr
          simp only at hr ⊢
          by_cases h5 : l3.head? = some 125
          · rw [if_pos h5] at hr
            rw [h l2 t l3 h3 (by rw [h5]; decide)]
            simp only
            rw [if_pos h5]
            injection hr with hr
            injection hr with e1 e2
            injection e1 with e3 e4
            rw [e2, ← e3, ← e4]
          · rw [if_neg h5] at hr
            cases h4 : need 44 l3 with
            | error e => rw [h4] at hr; cases hr
            | ok l4 =>
              rw [h4] at hr
              have h6 := (need_ok h4).1
              rw [h l2 t l3 h3 (by rw [h6]; decide)]
              simp only
              rw [if_neg h5, h4]
              exact ih _ _ _ _ _ _ hr
theorem re2_alts {R : List UInt8 → RdE} {Q : List UInt8 → RdCv} (h : HE2 R Q) (a b : ByteArray) : ∀ m ls ks l t r, rdCvAlts Q a b m ls ks l = some (t, r) → ∃ ls' ks', t = ⟨6, a, b, 0, ⟨#[]⟩, ls', ks'⟩ ∧ reAlts R m ls ks l = .ok ((ls', ks'), r) := by
  intro m
  induction m with
  | zero => intro ls ks l t r h; cases h
  | succ m ih =>
    intro ls ks l t r hr
    unfold rdCvAlts at hr
    unfold reAlts
    cases h1 : rdLab ls l with
    | error e => rw [h1] at hr; cases hr
    | ok x =>
      obtain ⟨lab, l1⟩ := x
      rw [h1] at hr
      simp only at hr ⊢
      cases h2 : need 58 l1 with
      | error e => rw [h2] at hr; cases hr
      | ok l2 =>
        rw [h2] at hr
        simp only at hr ⊢
        cases h3 : Q l2 with
        | none => rw [h3] at hr; cases hr
        | some y =>
          obtain ⟨t1, l3⟩ := y
          rw [h3] at hr
          simp only at hr
          rw [h l2 t1 l3 h3]
          simp only
          by_cases h5 : l3.head? = some 125
          · rw [if_pos h5] at hr ⊢
            injection hr with hr
            injection hr with e1 e2
            exact ⟨_, _, e1.symm, by rw [e2]⟩
          · rw [if_neg h5] at hr ⊢
            cases h4 : need 44 l3 with
            | error e => rw [h4] at hr; cases hr
            | ok l4 => rw [h4] at hr; exact ih _ _ _ _ _ hr
theorem re1_send {R : List UInt8 → RdE} {Q : List UInt8 → RdCv} (h : HE1 R Q) (a b : ByteArray) (l : List UInt8) (t : Cv) (r : List UInt8) (hr : reSend R a b l = .ok (t, r)) (h62 : r.head? ≠ some 62) : rdCvSend Q a b l = some (t, r) := by
  unfold reSend at hr
  unfold rdCvSend
  split at hr
  · cases hr
  split at hr
  · cases hr
  split at hr
  · cases hr
  injection hr with hr
  injection hr with e1 e2
  subst e1 e2
  rename_i h1 _ _ h2 _ _ _ h3
  rw [h1]
  simp only
  rw [h2]
  simp only
  rw [h _ _ _ h3 h62]
theorem re2_send {R : List UInt8 → RdE} {Q : List UInt8 → RdCv} (h : HE2 R Q) (a b : ByteArray) (l : List UInt8) (t : Cv) (r : List UInt8) (hr : rdCvSend Q a b l = some (t, r)) : reSend R a b l = .ok (t, r) := by
  unfold rdCvSend at hr
  unfold reSend
  split at hr
  · cases hr
  split at hr
  · cases hr
  split at hr
  · cases hr
  injection hr with hr
  injection hr with e1 e2
  subst e1 e2
  rename_i h1 _ _ h2 _ _ _ h3
  rw [h1]
  simp only
  rw [h2]
  simp only
  rw [h _ _ _ h3]
theorem re1_said {R : List UInt8 → RdE} {Q : List UInt8 → RdCv} (h : HE1 R Q) (a : ByteArray) (l : List UInt8) (t : Cv) (r : List UInt8) (hr : reSaid R a l = .ok (t, r)) (h62 : r.head? ≠ some 62) : rdCvTalk Q a l = some (t, r) := by
  unfold reSaid at hr
  unfold rdCvTalk
  split at hr
  · rename_i hc
    rw [if_pos ⟨hc.1, Ne.symm hc.2⟩]
    simp only at hr ⊢
    split at hr
    · rename_i h58
      rw [if_pos h58]
      exact re1_send h _ _ _ _ _ hr h62
    · rename_i h58
      rw [if_neg h58]
      split at hr
      · cases hr
      · rename_i ls ks l2 hk
        injection hr with hr
        injection hr with e1 e2
        subst e1 e2
        unfold reCho at hk
        split at hk
        · cases hk
        · rename_i l1 hn
          rw [hn]
          exact re1_alts h _ _ _ _ _ _ _ _ _ hk
  · cases hr
theorem re2_said {R : List UInt8 → RdE} {Q : List UInt8 → RdCv} (h : HE2 R Q) (a : ByteArray) (l : List UInt8) (t : Cv) (r : List UInt8) (hr : rdCvTalk Q a l = some (t, r)) : reSaid R a l = .ok (t, r) := by
  unfold rdCvTalk at hr
  unfold reSaid
  split at hr
  · rename_i hc
    rw [if_pos ⟨hc.1, Ne.symm hc.2⟩]
    simp only at hr ⊢
    split at hr
    · rename_i h58
      rw [if_pos h58]
      exact re2_send h _ _ _ _ _ hr
    · rename_i h58
      rw [if_neg h58]
      split at hr
      · cases hr
      · rename_i l2 hn
        obtain ⟨ls', ks', rfl, hk⟩ := re2_alts h _ _ _ _ _ _ _ _ hr
        unfold reCho
        rw [hn]
        simp only
        rw [hk]
  · cases hr
theorem rd_e1 : ∀ n, HE1 (rdE n) (rdCv n) := by
  intro n
  induction n with
  | zero => intro l t r h; cases h
  | succ n ih =>
    intro l t r h h62
    unfold rdE at h
    unfold rdCv
    split at h
    · rename_i hw
      rw [if_pos hw]
      injection h with h
      rw [h]
    · rename_i hw
      rw [if_neg hw]
      split at h
      · rename_i hr
        rw [if_pos hr]
        unfold reRec at h
        unfold rdCvRec
        split at h
        · cases h
        split at h
        · cases h
        split at h
        · cases h
        injection h with h
        injection h with e1 e2
        subst e1 e2
        rename_i h1 _ _ h2 _ _ _ h3
        rw [h1]
        simp only
        rw [h2]
        simp only
        rw [ih _ _ _ h3 h62]
      · rename_i hr
        rw [if_neg hr]
        unfold reName at h
        unfold rdCvName
        cases hv : rdVar l with
        | error e => rw [hv] at h; cases h
        | ok x =>
          obtain ⟨nm, l1⟩ := x
          rw [hv] at h
          obtain ⟨_, e1, e2, _⟩ := rdVar_ok hv
          have e3 : nm.data.toList = wd l := by rw [e1, bs_list]
          have e4 : l1 = skB (l.drop (wd l).length) := by rw [e2, e3]
          simp only at h ⊢
          rw [← e4]
          split at h
          · rename_i hc
            rw [if_pos hc.2, if_pos (e3 ▸ hc.1)]
            rw [← e1]
            exact re1_said ih _ _ _ _ h h62
          · rename_i hc
            injection h with h
            injection h with q1 q2
            subst q1 q2
            rw [if_neg h62]
theorem rd_e2 : ∀ n, HE2 (rdE n) (rdCv n) := by
  intro n
  induction n with
  | zero => intro l t r h; cases h
  | succ n ih =>
    intro l t r h
    unfold rdCv at h
    unfold rdE
    split at h
    · rename_i hw
      rw [if_pos hw]
      injection h with h
      rw [h]
    · rename_i hw
      rw [if_neg hw]
      split at h
      · rename_i hr
        rw [if_pos hr]
        unfold rdCvRec at h
        unfold reRec
        split at h
        · cases h
        split at h
        · cases h
        split at h
        · cases h
        injection h with h
        injection h with e1 e2
        subst e1 e2
        rename_i h1 _ _ h2 _ _ _ h3
        rw [h1]
        simp only
        rw [h2]
        simp only
        rw [ih _ _ _ h3]
      · rename_i hr
        rw [if_neg hr]
        unfold rdCvName at h
        unfold reName
        simp only at h
        by_cases hc : (skB (l.drop (wd l).length)).head? = some 62
        · rw [if_pos hc] at h
          split at h
          · rename_i hl
            have hvr : isVr (wd l) = true := by
              obtain ⟨c, e, _⟩ := rl_one hl
              have hlow := (rl_low hl).1
              rw [e] at hlow ⊢
              simp only [List.all_cons, List.all_nil, Bool.and_true] at hlow
              unfold isVr isNm
              simp [hlow]
            have hv : rdVar l = .ok (bs (wd l), skB (l.drop (wd l).length)) := by unfold rdVar; rw [if_pos hvr]
            rw [hv]
            simp only
            rw [if_pos ⟨by rw [bs_list]; exact hl, hc⟩]
            exact re2_said ih _ _ _ _ h
          · cases h
        · rw [if_neg hc] at h
          cases hv : rdVar l with
          | error e => rw [hv] at h; cases h
          | ok x =>
            obtain ⟨nm, l1⟩ := x
            rw [hv] at h
            simp only at h ⊢
            obtain ⟨_, e1, e2, _⟩ := rdVar_ok hv
            have e3 : nm.data.toList = wd l := by rw [e1, bs_list]
            have e4 : l1 = skB (l.drop (wd l).length) := by rw [e2, e3]
            rw [if_neg (fun q => hc (e4 ▸ q.2))]
            injection h with h
            rw [h]
/-- what Parse comes to -/
def psC (L : List UInt8) : Except (Int × Nat) Cv :=
  if 2000 < L.length then .error (2, 0) else
  match rdE 2001 (skB L) with
  | .error r => .error (3, L.length - r.length)
  | .ok (t, r) => if r = [] then (if chkCv t = 0 then .ok t else .error (chkCv t, 0)) else .error (3, L.length - r.length)
theorem psC_back (t : Cv) (h : chkCv t = 0) (hl : (wrCv t).length ≤ 2000) : psC (wrCv t) = .ok t := by
  obtain ⟨hw, hs⟩ := chkCv_good t h
  have hb := wrCv_back t hw 2001 (by omega) [] (fun _ h => (by cases h)) (by decide)
  rw [List.append_nil] at hb
  have hb2 := rd_e2 2001 _ _ _ hb
  unfold psC
  rw [if_neg (by omega), hb2]
  simp only
  rw [if_pos (show skB [] = [] from rfl), if_pos h]
theorem psC_ok (L : List UInt8) (t : Cv) (h : psC L = .ok t) : chkCv t = 0 ∧ (wrCv t).length ≤ L.length ∧ L.length ≤ 2000 := by
  unfold psC at h
  split at h
  · cases h
  rename_i hL
  split at h
  · cases h
  rename_i t' r hT
  split at h
  · rename_i hr
    split at h
    · rename_i hc
      injection h with h
      subst h
      have := rdCv_short 2001 _ _ _ (rd_e1 2001 _ _ _ hT (by rw [hr]; decide))
      have h2 := skB_len L
      exact ⟨hc, by omega, by omega⟩
    · cases h
  · cases h
theorem psC_code (L : List UInt8) (c : Int) (a : Nat) (h : psC L = .error (c, a)) : c ≠ 0 := by
  unfold psC at h
  split at h
  · injection h with h; injection h with h1 _; omega
  split at h
  · injection h with h; injection h with h1 _; omega
  split at h
  · split at h
    · cases h
    · rename_i hc
      injection h with h; injection h with h1 _; rw [← h1]; exact hc
  · injection h with h; injection h with h1 _; omega
end Go.Proofs.YtfmegfgmkeicnaaDoor
