/-
  The contracts of global.IsRole, areTwoRoles and isPart, for every conversation.
-/
import Derived.Test.YtfmegfgmkeicnaaDoorCwa
import Derived.Test.YtfmegfgmkeicnaaDoorKdi
namespace Go.Proofs.YtfmegfgmkeicnaaDoor
open Go.RowKit Go.Shelf
set_option maxRecDepth 100000 in
set_option maxHeartbeats 2000000 in
theorem isRole_any (s : ByteArray) (w : World) (hs : s.size ≤ 9223372036854775807) :
    Calls Tryd.prog 62 #[.string s] w fun e w' => e = .returned (.bool (isRl s.data.toList)) ∧ w' = w := by
  have hsz : s.data.toList.length = s.size := by simp
  have hsz0 : (s.size : Int) ≤ 9223372036854775807 := by omega
  by_cases h1 : s.size = 1
  · have h1z : ((s.size : Int) == 1) = true := by simp [h1]
    have h1y : (0 : Int) < (s.size : Int) := by omega
    obtain ⟨c, hc⟩ : ∃ c, s.data.toList = [c] := List.length_eq_one_iff.1 (by omega)
    have hb : isRl s.data.toList = decide (97 ≤ c.toNat ∧ c.toNat ≤ 104) := by rw [hc]; rfl
    rw [hb]
    go_enter Tryd.func62, Tryd.ntmps62
    have HE : Hid (s[0].toNat = c.toNat) := by
      show s[0].toNat = c.toNat
      have : s.data.toList[0]'(by omega) = c := by simp only [hc]; rfl
      rw [← this]
      rfl
    clear hb hc
    go_wp2_with fail
    · have h2 := HE.out
      have e : decide (97 ≤ c.toNat ∧ c.toNat ≤ 104) = decide ((s[0].toNat : Int) ≤ 104) := by
        rw [Bool.eq_iff_iff]; simp; omega
      rw [e]
      go_ret
      exact ⟨rfl, rfl⟩
    · have h2 := HE.out
      have e : (decide (97 ≤ c.toNat) && decide (c.toNat ≤ 104)) = false := by simp; omega
      rw [e]
      go_ret
      exact ⟨rfl, rfl⟩
  · have h1z : ((s.size : Int) == 1) = false := by simp; omega
    have hb : isRl s.data.toList = false := by
      cases hd : s.data.toList with
      | nil => rfl
      | cons a l => cases l with
        | nil => rw [hd] at hsz; simp at hsz; omega
        | cons b l => rfl
    rw [hb]
    go_enter Tryd.func62, Tryd.ntmps62
    go_wp2_with fail
    go_ret
    exact ⟨rfl, rfl⟩
set_option maxRecDepth 100000 in
set_option maxHeartbeats 2000000 in
theorem areTwoRoles_any (a b : ByteArray) (w : World) (ha : a.size ≤ 9223372036854775807) (hb : b.size ≤ 9223372036854775807) :
    Calls Tryd.prog 91 #[.string a, .string b] w fun e w' => e = .returned (.bool (isRl a.data.toList && isRl b.data.toList && !decide (a = b))) ∧ w' = w := by
  have c1 := isRole_any a w ha
  have c2 := isRole_any b w hb
  have b1 : (a.toList == b.toList) = decide (a = b) := by
    rw [Bool.eq_iff_iff]; simp
    constructor
    · intro h; rw [ByteArray.toList_eq, ByteArray.toList_eq] at h; exact ByteArray.ext (Array.toList_inj.1 h)
    · intro h; rw [h]
  generalize isRl a.data.toList = q1 at c1 ⊢
  generalize isRl b.data.toList = q2 at c2 ⊢
  generalize decide (a = b) = q3 at b1 ⊢
  cases q1
  rotate_left
  cases q2
  rotate_left
  cases q3
  all_goals
    go_enter Tryd.func91, Tryd.ntmps91
    go_wp2_with fail
    refine c1.mono ?_
    rintro e w1 ⟨rfl, rfl⟩
    go_wp2_with (first | (refine c2.mono ?_; rintro e w2 ⟨rfl, rfl⟩))
    go_ret
    exact ⟨rfl, rfl⟩
/-- what of a conversation fits into a word, whatever room there is behind its lists -/
structure CvBw (t : Cv) : Prop where
  name : t.name.size ≤ 9223372036854775807
  fm : t.fm.size ≤ 9223372036854775807
  tt : t.tt.size ≤ 9223372036854775807
  labs : ∀ l ∈ t.labels, l.size ≤ 9223372036854775807
  labels : t.labels.length ≤ 9223372036854775807
  kids : t.kids.length ≤ 9223372036854775807
theorem CvBd.w {t : Cv} {cl ck : Nat} (h : CvBd t cl ck) : CvBw t := ⟨h.name, h.fm, h.tt, h.labs, Nat.le_trans h.labels h.cl, Nat.le_trans h.kids h.ck⟩
def idleC : Nat → Cv → Bool
  | 0, t => decide (t.kind = 9)
  | n + 1, t => if t.kind = 8 then (if h : t.kids.length = 1 then idleC n (t.kids[0]'(by omega)) else false) else decide (t.kind = 9)
theorem idleC_stop (n : Nat) (t : Cv) (h : t.kind ≠ 8) : idleC n t = decide (t.kind = 9) := by
  cases n with
  | zero => rfl
  | succ n => rw [idleC, if_neg h]
theorem idleC_odd (n : Nat) (t : Cv) (h : t.kind = 8) (hk : t.kids.length ≠ 1) : idleC n t = false := by
  cases n with
  | zero => simp [idleC, h]
  | succ n => rw [idleC, if_pos h, dif_neg hk]
theorem idleC_go (n : Nat) (t : Cv) (h : t.kind = 8) (hk : t.kids.length = 1) : idleC (n + 1) t = idleC n (t.kids[0]'(by omega)) := by
  rw [idleC, if_pos h, dif_pos hk]
def saidB (t : Cv) : Bool := isRl t.fm.data.toList && isRl t.tt.data.toList && !decide (t.fm = t.tt)
def unsaidB (t : Cv) : Bool := t.fm.toList.isEmpty && t.tt.toList.isEmpty && (t.so == 0) && ((t.labels.length : Int) == 0)
/-- a part of a conversation has just what its kind has -/
def partCB (t : Cv) : Bool :=
  if t.kind = 1 then unsaidB t && t.name.toList.isEmpty && ((t.kids.length : Int) == 0)
  else if t.kind = 2 then saidB t && !(swB t.so).toList.isEmpty && t.name.toList.isEmpty && ((t.labels.length : Int) == 0) && ((t.kids.length : Int) == 1)
  else if t.kind = 6 then saidB t && (t.so == 0) && t.name.toList.isEmpty && labsOK t.labels && ((t.kids.length : Int) == (t.labels.length : Int))
  else if t.kind = 8 then unsaidB t && isVr t.name.data.toList && ((t.kids.length : Int) == 1)
  else if t.kind = 9 then unsaidB t && isVr t.name.data.toList && ((t.kids.length : Int) == 0)
  else false
theorem keep7 {w w1 : World} {v0 v1 v2 v3 v4 v5 v6 : Value} {T : TypeId} (hb : Below (w.alloc (.cells #[v0, v1, v2, v3, v4, v5, v6] T)).heap.size (w.alloc (.cells #[v0, v1, v2, v3, v4, v5, v6] T)) w1) :
    w1.cell? ⟨w.heap.size, 0, none⟩ = some v0 ∧ w1.cell? ⟨w.heap.size, 1, none⟩ = some v1 ∧ w1.cell? ⟨w.heap.size, 2, none⟩ = some v2 ∧ w1.cell? ⟨w.heap.size, 3, none⟩ = some v3 ∧ w1.cell? ⟨w.heap.size, 4, none⟩ = some v4 ∧ w1.cell? ⟨w.heap.size, 5, none⟩ = some v5 ∧ w1.cell? ⟨w.heap.size, 6, none⟩ = some v6 ∧ Below w.heap.size w w1 := by
  obtain ⟨hc1, _⟩ := bcell hb
  exact ⟨(hc1 _ 0 (by simp)).trans (by go_cell), (hc1 _ 1 (by simp)).trans (by go_cell), (hc1 _ 2 (by simp)).trans (by go_cell), (hc1 _ 3 (by simp)).trans (by go_cell), (hc1 _ 4 (by simp)).trans (by go_cell), (hc1 _ 5 (by simp)).trans (by go_cell), (hc1 _ 6 (by simp)).trans (by go_cell), ((Below.refl _ _).alloc (Nat.le_refl _) _).trans (hb.mono (by simp))⟩
set_option maxRecDepth 100000 in
set_option maxHeartbeats 8000000 in
theorem isPartC_any (t : Cv) (al : Option Addr) (cl : Nat) (ak : Option Addr) (ck : Nat) (w : World) (hbd : CvBw t) (hla : LA w w.heap.size t.labels al) :
    Calls Tryd.prog 51 #[valCv t al cl ak ck] w fun e w' => e = .returned (.bool (partCB t)) ∧ Below w.heap.size w w' := by
  obtain ⟨kd, fm, tt, so, nm, ls, ks⟩ := t
  have hA : Below w.heap.size w (w.alloc (.cells #[.int .i64 kd, .string fm, .string tt, .int .i64 so, .string nm, .slice al ls.length cl, .slice ak ks.length ck] 25)) := (Below.refl _ _).alloc (Nat.le_refl _) _
  have CR := hideK (fun (W : World) => areTwoRoles_any fm tt W hbd.fm hbd.tt)
  have CW := hideK (fun (W : World) => sortWord_any so W)
  have CV := hideK (fun (W : World) => isVar_any nm W hbd.name)
  have CL := hideK (areLabels_any ls al cl (w.alloc (.cells #[.int .i64 kd, .string fm, .string tt, .int .i64 so, .string nm, .slice al ls.length cl, .slice ak ks.length ck] 25)) hbd.labs (by have := hbd.labels; simp only at *; omega) (NAt.mono hA.size (NAt.keep hA hla)))
  simp only [valCv]
  have hlz : (ls.length : Int) ≤ 9223372036854775807 := by have := hbd.labels; simp only at *; omega
  have hkz : (ks.length : Int) ≤ 9223372036854775807 := by have := hbd.kids; simp only at *; omega
  have HA := hideK hA
  have SB : saidB ⟨kd, fm, tt, so, nm, ls, ks⟩ = (isRl fm.data.toList && isRl tt.data.toList && !decide (fm = tt)) := rfl
  have UB : unsaidB ⟨kd, fm, tt, so, nm, ls, ks⟩ = (fm.toList.isEmpty && tt.toList.isEmpty && (so == 0) && ((ls.length : Int) == 0)) := rfl
  have hqa : (isRl fm.data.toList && isRl tt.data.toList && !decide (fm = tt)) = true → fm.toList.isEmpty = false := by
    intro h
    simp only [Bool.and_eq_true] at h
    have h1 := (rl_low h.1.1).2
    rw [ByteArray.toList_eq]
    cases hd : fm.data.toList with
    | nil => rw [hd] at h1; cases h1
    | cons a l => rfl
  unfold partCB
  rw [SB, UB]
  simp only
  clear hbd hla hA SB UB
  generalize (isRl fm.data.toList && isRl tt.data.toList && !decide (fm = tt)) = qs at CR hqa ⊢
  generalize h0 : fm.toList.isEmpty = q0 at hqa ⊢
  generalize h1 : tt.toList.isEmpty = q1
  generalize h2 : (so == 0) = q2
  generalize h3 : ((ls.length : Int) == 0) = q3
  generalize h4 : nm.toList.isEmpty = q4
  have HQA := hideK hqa
  clear hqa
  by_cases hkd : kd = 1
  · subst hkd
    simp only [Int.reduceEq, reduceIte]
    generalize h5 : ((ks.length : Int) == 0) = q5
    cases q0
    rotate_left
    cases q1
    rotate_left
    cases q2
    rotate_left
    cases q3
    rotate_left
    cases q4
    rotate_left
    cases q5
    all_goals (
      go_enter Tryd.func51, Tryd.ntmps51
      go_wp2_with (first
        | (go_at_call 91; go_must (refine (CR.out _).mono ?_; rintro e w1 ⟨rfl, rfl⟩))
        | (go_at_call 53; go_must (refine (CW.out _).mono ?_; rintro e w1 ⟨rfl, rfl⟩))
        | (go_at_call 60; go_must (refine (CV.out _).mono ?_; rintro e w1 ⟨rfl, hb1⟩; obtain ⟨x0, x1, x2, x3, x4, x5, x6, hbw⟩ := keep7 hb1; clear hb1))
        | (go_at_call 92; go_must (refine CL.out.mono ?_; rintro e w1 ⟨rfl, hb1⟩; obtain ⟨x0, x1, x2, x3, x4, x5, x6, hbw⟩ := keep7 hb1; clear hb1)))
      go_ret
      exact ⟨rfl, by first | exact hbw | exact HA.out⟩)
  by_cases hkd : kd = 8
  · subst hkd
    simp only [Int.reduceEq, reduceIte]
    generalize isVr nm.data.toList = qv at CV ⊢
    generalize h5 : ((ks.length : Int) == 1) = q5
    cases q0
    rotate_left
    cases q1
    rotate_left
    cases q2
    rotate_left
    cases q3
    rotate_left
    cases qv
    rotate_left
    cases q5
    all_goals (
      go_enter Tryd.func51, Tryd.ntmps51
      go_wp2_with (first
        | (go_at_call 91; go_must (refine (CR.out _).mono ?_; rintro e w1 ⟨rfl, rfl⟩))
        | (go_at_call 53; go_must (refine (CW.out _).mono ?_; rintro e w1 ⟨rfl, rfl⟩))
        | (go_at_call 60; go_must (refine (CV.out _).mono ?_; rintro e w1 ⟨rfl, hb1⟩; obtain ⟨x0, x1, x2, x3, x4, x5, x6, hbw⟩ := keep7 hb1; clear hb1))
        | (go_at_call 92; go_must (refine CL.out.mono ?_; rintro e w1 ⟨rfl, hb1⟩; obtain ⟨x0, x1, x2, x3, x4, x5, x6, hbw⟩ := keep7 hb1; clear hb1)))
      go_ret
      exact ⟨rfl, by first | exact hbw | exact HA.out⟩)
  by_cases hkd : kd = 9
  · subst hkd
    simp only [Int.reduceEq, reduceIte]
    generalize isVr nm.data.toList = qv at CV ⊢
    generalize h5 : ((ks.length : Int) == 0) = q5
    cases q0
    rotate_left
    cases q1
    rotate_left
    cases q2
    rotate_left
    cases q3
    rotate_left
    cases qv
    rotate_left
    cases q5
    all_goals (
      go_enter Tryd.func51, Tryd.ntmps51
      go_wp2_with (first
        | (go_at_call 91; go_must (refine (CR.out _).mono ?_; rintro e w1 ⟨rfl, rfl⟩))
        | (go_at_call 53; go_must (refine (CW.out _).mono ?_; rintro e w1 ⟨rfl, rfl⟩))
        | (go_at_call 60; go_must (refine (CV.out _).mono ?_; rintro e w1 ⟨rfl, hb1⟩; obtain ⟨x0, x1, x2, x3, x4, x5, x6, hbw⟩ := keep7 hb1; clear hb1))
        | (go_at_call 92; go_must (refine CL.out.mono ?_; rintro e w1 ⟨rfl, hb1⟩; obtain ⟨x0, x1, x2, x3, x4, x5, x6, hbw⟩ := keep7 hb1; clear hb1)))
      go_ret
      exact ⟨rfl, by first | exact hbw | exact HA.out⟩)
  by_cases hkd : kd = 2
  · subst hkd
    simp only [Int.reduceEq, reduceIte]
    generalize hw : (!(swB so).toList.isEmpty) = qw
    have hw' : (swB so).toList.isEmpty = !qw := by rw [← hw]; simp
    clear hw
    generalize h5 : ((ks.length : Int) == 1) = q5
    cases qs
    rotate_left
    obtain rfl : q0 = false := HQA.out rfl
    cases qw
    rotate_left
    cases q4
    rotate_left
    cases q3
    rotate_left
    cases q5
    rotate_left 2
    cases q0
    rotate_left
    cases q1
    rotate_left
    cases q2
    rotate_left
    cases q3
    all_goals (
      go_enter Tryd.func51, Tryd.ntmps51
      go_wp2_with (first
        | (go_at_call 91; go_must (refine (CR.out _).mono ?_; rintro e w1 ⟨rfl, rfl⟩))
        | (go_at_call 53; go_must (refine (CW.out _).mono ?_; rintro e w1 ⟨rfl, rfl⟩))
        | (go_at_call 60; go_must (refine (CV.out _).mono ?_; rintro e w1 ⟨rfl, hb1⟩; obtain ⟨x0, x1, x2, x3, x4, x5, x6, hbw⟩ := keep7 hb1; clear hb1))
        | (go_at_call 92; go_must (refine CL.out.mono ?_; rintro e w1 ⟨rfl, hb1⟩; obtain ⟨x0, x1, x2, x3, x4, x5, x6, hbw⟩ := keep7 hb1; clear hb1)))
      go_ret
      exact ⟨rfl, by first | exact hbw | exact HA.out⟩)
  by_cases hkd : kd = 6
  · subst hkd
    simp only [Int.reduceEq, reduceIte]
    generalize labsOK ls = qw at CL ⊢
    generalize h5 : ((ks.length : Int) == (ls.length : Int)) = q5
    cases qs
    rotate_left
    obtain rfl : q0 = false := HQA.out rfl
    cases q2
    rotate_left
    cases q4
    rotate_left
    cases qw
    rotate_left
    cases q5
    rotate_left 2
    cases q0
    rotate_left
    cases q1
    rotate_left
    cases q2
    rotate_left
    cases q3
    all_goals (
      go_enter Tryd.func51, Tryd.ntmps51
      go_wp2_with (first
        | (go_at_call 91; go_must (refine (CR.out _).mono ?_; rintro e w1 ⟨rfl, rfl⟩))
        | (go_at_call 53; go_must (refine (CW.out _).mono ?_; rintro e w1 ⟨rfl, rfl⟩))
        | (go_at_call 60; go_must (refine (CV.out _).mono ?_; rintro e w1 ⟨rfl, hb1⟩; obtain ⟨x0, x1, x2, x3, x4, x5, x6, hbw⟩ := keep7 hb1; clear hb1))
        | (go_at_call 92; go_must (refine CL.out.mono ?_; rintro e w1 ⟨rfl, hb1⟩; obtain ⟨x0, x1, x2, x3, x4, x5, x6, hbw⟩ := keep7 hb1; clear hb1)))
      go_ret
      exact ⟨rfl, by first | exact hbw | exact HA.out⟩)
  have k1 : (kd == 1) = false := by simpa using by assumption
  have k2 : (kd == 2) = false := by simpa using by assumption
  have k6 : (kd == 6) = false := by simpa using by assumption
  have k8 : (kd == 8) = false := by simpa using by assumption
  have k9 : (kd == 9) = false := by simpa using by assumption
  rw [if_neg (by assumption), if_neg (by assumption), if_neg (by assumption), if_neg (by assumption), if_neg (by assumption)]
  cases q0
  rotate_left
  cases q1
  rotate_left
  cases q2
  rotate_left
  cases q3
  all_goals (
      go_enter Tryd.func51, Tryd.ntmps51
      go_wp2_with (first
        | (go_at_call 91; go_must (refine (CR.out _).mono ?_; rintro e w1 ⟨rfl, rfl⟩))
        | (go_at_call 53; go_must (refine (CW.out _).mono ?_; rintro e w1 ⟨rfl, rfl⟩))
        | (go_at_call 60; go_must (refine (CV.out _).mono ?_; rintro e w1 ⟨rfl, hb1⟩; obtain ⟨x0, x1, x2, x3, x4, x5, x6, hbw⟩ := keep7 hb1; clear hb1))
        | (go_at_call 92; go_must (refine CL.out.mono ?_; rintro e w1 ⟨rfl, hb1⟩; obtain ⟨x0, x1, x2, x3, x4, x5, x6, hbw⟩ := keep7 hb1; clear hb1)))
      go_ret
      exact ⟨rfl, by first | exact hbw | exact HA.out⟩)
end Go.Proofs.YtfmegfgmkeicnaaDoor
