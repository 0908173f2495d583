/-
  Plain mathematics: expressions as trees, what Check, Sort and Eval say of them, and that what has a sort has a value of that sort (MILNER); for every tree.
-/
import Derived.Test.YtfmegfgmkeicnaaDoorWb
import Derived.Test.YtfmegfgmkeicnaaDoorNa
namespace Go.Proofs.YtfmegfgmkeicnaaDoor
open Go.RowKit

def partOK (x : Ex) : Bool :=
  if x.kind = 1 then decide (x.name = ⟨#[]⟩ ∧ x.kids.length = 0)
  else if x.kind = 2 then isNm x.name.data.toList && decide (x.so = 0 ∧ x.n = 0 ∧ x.s = ⟨#[]⟩ ∧ x.kids.length = 0)
  else if x.kind = 3 then decide (x.so = 0 ∧ x.n = 0 ∧ x.s = ⟨#[]⟩) && isOp x.name.data.toList x.kids.length
  else false

/-- checkParts: the error, and how many parts have been met -/
def chkP : Ex → Nat → Int × Nat
  | ⟨kd, nm, so, n, s, ks⟩, c =>
    if 60 < c + 1 then (2, c + 1) else if partOK ⟨kd, nm, so, n, s, ks⟩ = false then (1, c + 1) else if kd = 1 then (chkZ vD so n s, c + 1)
    else ks.foldl (fun a k => if a.1 ≠ 0 then a else chkP k a.2) (0, c + 1)
def chkL (ks : List Ex) (a : Int × Nat) : Int × Nat := ks.foldl (fun a k => if a.1 ≠ 0 then a else chkP k a.2) a
theorem chkP_eq (x : Ex) (c : Nat) : chkP x c = if 60 < c + 1 then (2, c + 1) else if partOK x = false then (1, c + 1) else if x.kind = 1 then (chkZ vD x.so x.n x.s, c + 1) else chkL x.kids (0, c + 1) := by
  cases x; rw [chkP]; rfl
theorem chkL_nil (a : Int × Nat) : chkL [] a = a := rfl
theorem chkL_cons (x : Ex) (ks : List Ex) (a : Int × Nat) : chkL (x :: ks) a = chkL ks (if a.1 ≠ 0 then a else chkP x a.2) := rfl
theorem chkL_bad (ks : List Ex) (a : Int × Nat) (h : a.1 ≠ 0) : chkL ks a = a := by
  induction ks with
  | nil => rfl
  | cons x ks ih => rw [chkL_cons, if_pos h]; exact ih
/-- what Check says -/
def chkX (x : Ex) : Int := (chkP x 0).1

/-- right in all its parts -/
def wfX : Ex → Prop
  | ⟨kd, nm, so, n, s, ks⟩ => partOK ⟨kd, nm, so, n, s, ks⟩ = true ∧ (kd = 1 → chkZ vD so n s = 0) ∧ ∀ k, k ∈ ks → wfX k
theorem wfX_eq (x : Ex) : wfX x ↔ partOK x = true ∧ (x.kind = 1 → chkZ vD x.so x.n x.s = 0) ∧ ∀ k ∈ x.kids, wfX k := by
  cases x; rw [wfX]

theorem exInd (P : Ex → Prop) (h : ∀ x : Ex, (∀ k ∈ x.kids, P k) → P x) : ∀ x, P x := by
  intro x
  induction x using Ex.rec (motive_2 := fun l => ∀ x ∈ l, P x) with
  | mk kd nm so n s ks ih => exact h ⟨kd, nm, so, n, s, ks⟩ ih
  | nil => simp at *
  | cons a l ha hl =>
    rename_i y hy
    rcases List.mem_cons.1 hy with rfl | hx
    · exact ha
    · exact hl _ hx

theorem kind1_kids (x : Ex) (h : partOK x = true) (hk : x.kind = 1) : x.kids = [] := by
  unfold partOK at h; rw [if_pos hk] at h; have := of_decide_eq_true h; exact List.eq_nil_of_length_eq_zero this.2
theorem chk_wf : ∀ x : Ex, ∀ c, (chkP x c).1 = 0 → wfX x := by
  apply exInd
  intro x ih c h
  rw [chkP_eq] at h
  by_cases h1 : 60 < c + 1
  · rw [if_pos h1] at h; simp at h
  · rw [if_neg h1] at h
    by_cases h2 : partOK x = false
    · rw [if_pos h2] at h; simp at h
    · rw [if_neg h2] at h
      have hp : partOK x = true := by simpa using h2
      rw [wfX_eq]
      by_cases h3 : x.kind = 1
      · rw [if_pos h3] at h
        refine ⟨hp, fun _ => h, ?_⟩
        rw [kind1_kids x hp h3]; intro k hk; cases hk
      · rw [if_neg h3] at h
        refine ⟨hp, fun e => absurd e h3, ?_⟩
        have : ∀ (ks : List Ex) (a : Int × Nat), (∀ k ∈ ks, k ∈ x.kids) → (chkL ks a).1 = 0 → ∀ k ∈ ks, wfX k := by
          intro ks
          induction ks with
          | nil => intro a _ _ k hk; cases hk
          | cons y ks ihk =>
            intro a hs h0 k hk
            rw [chkL_cons] at h0
            have ha : (if a.1 ≠ 0 then a else chkP y a.2).1 = 0 := by
              apply Classical.byContradiction; intro hn; rw [chkL_bad _ _ hn] at h0; exact hn h0
            rcases List.mem_cons.1 hk with rfl | hk
            · by_cases ha0 : a.1 ≠ 0
              · rw [if_pos ha0] at ha; exact absurd ha ha0
              · rw [if_neg ha0] at ha; exact ih _ (hs _ (.head _)) _ ha
            · exact ihk _ (fun k hk => hs k (.tail _ hk)) h0 k hk
        exact this x.kids (0, c + 1) (fun k hk => hk) h

/-- the sort, and the error -/
def sortX (E : ByteArray → Int × Int) : Ex → Int × Int
  | ⟨kd, nm, so, _, _, ks⟩ =>
    if kd = 1 then (so, 0) else if kd = 2 then E nm else
    match ks with
    | [] => ((opS nm.data.toList).2, 0)
    | [a] => if (sortX E a).2 ≠ 0 then (0, (sortX E a).2) else
        if (sortX E a).1 ≠ (if isCmp nm.data.toList then (sortX E a).1 else (opS nm.data.toList).1) then (0, 5) else ((opS nm.data.toList).2, 0)
    | a :: b :: _ => if (sortX E a).2 ≠ 0 then (0, (sortX E a).2) else
        if (sortX E a).1 ≠ (if isCmp nm.data.toList then (sortX E a).1 else (opS nm.data.toList).1) then (0, 5) else
        if (sortX E b).2 ≠ 0 then (0, (sortX E b).2) else
        if (sortX E b).1 ≠ (if isCmp nm.data.toList then (sortX E a).1 else (opS nm.data.toList).1) then (0, 5) else ((opS nm.data.toList).2, 0)

def truV (b : Bool) : Vl := ⟨2, if b then 1 else 0, ⟨#[]⟩⟩
def numV (z : Int) : Vl := ⟨1, z, ⟨#[]⟩⟩
def oneV (l : List UInt8) (a : Vl) : Vl :=
  if l = [110, 111, 116] then truV (a.n == 0) else if l = [110, 101, 103] then numV (w64 (-a.n)) else numV (lenZ vD a.so a.n a.s)
def bad2 (a b : Vl) : Int := firstNZ [chkZ vD a.so a.n a.s, chkZ vD b.so b.n b.s]
def ordV (a b : Vl) : Int := if bad2 a b = 0 then ordZ a.so a.n a.s b.so b.n b.s else 0
def cmpV (l : List UInt8) (a b : Vl) : Vl :=
  if l = [61, 61] then truV (ordV a b == 0) else if l = [60] then truV (decide (ordV a b < 0)) else truV (decide (ordV a b ≤ 0))
/-- letters of a text -/
def letL : Nat → List UInt8 → List Nat
  | 0, _ => []
  | _ + 1, [] => []
  | f + 1, c :: l => (Lib.decodeL (c :: l)).1 :: letL f ((c :: l).drop (Lib.decodeL (c :: l)).2)
def letS (s : ByteArray) : List Nat := letL s.size s.data.toList
def joinS (a b : ByteArray) : ByteArray := str (fit 0 (letS a ++ letS b))
def joinV (a b : Vl) : Vl := if needZ2 vD a.so a.n a.s b.so b.n b.s = 0 then ⟨3, 0, joinS a.s b.s⟩ else ⟨0, 0, ⟨#[]⟩⟩
def twoV (l : List UInt8) (a b : Vl) : Vl :=
  if l = [111, 114] then truV (a.n == 1 || b.n == 1) else if l = [97, 110, 100] then truV (a.n == 1 && b.n == 1)
  else if l = [61, 61] ∨ l = [60] ∨ l = [60, 61] then cmpV l a b else if l = [43, 43] then joinV a b else numV (numZ l a.n b.n)
def valX (F : ByteArray → Vl) : Ex → Vl
  | ⟨kd, nm, so, n, s, ks⟩ =>
    if kd = 1 then ⟨so, n, s⟩ else if kd = 2 then F nm else
    match ks with
    | [] => ⟨0, 0, ⟨#[]⟩⟩
    | [a] => oneV nm.data.toList (valX F a)
    | a :: b :: _ => twoV nm.data.toList (valX F a) (valX F b)

def Vl.good (v : Vl) : Prop := chkZ vD v.so v.n v.s = 0
theorem good_tru (b : Bool) : (truV b).good := by cases b <;> simp [Vl.good, truV, chkZ, argZ]
theorem good_num (z : Int) : (numV z).good := by simp [Vl.good, numV, chkZ, argZ]

theorem letL_enc : ∀ (rs : List Nat) (f : Nat), (∀ r ∈ rs, IsR r) → (enc rs).length ≤ f → letL f (enc rs) = rs
  | [], 0, _, _ => rfl
  | [], f + 1, _, _ => rfl
  | r :: rs, 0, _, h => by rw [enc_len_cons] at h; have := (rl_pos r).1; omega
  | r :: rs, f + 1, hr, h => by
    have hd := decode_encode r (hr r (.head _)) (enc rs)
    rw [enc_len_cons] at h
    have hp := (rl_pos r).1
    rw [enc_cons]
    obtain ⟨c, l, hcl⟩ : ∃ c l, Lib.encodeRune (r : Int) ++ enc rs = c :: l := by
      cases he : Lib.encodeRune (r : Int) ++ enc rs with
      | nil => have : (Lib.encodeRune (r : Int) ++ enc rs).length = 0 := by rw [he]; rfl
               rw [List.length_append] at this; unfold rl at hp; omega
      | cons c l => exact ⟨c, l, rfl⟩
    rw [hcl] at hd ⊢
    show (Lib.decodeL (c :: l)).1 :: letL f ((c :: l).drop (Lib.decodeL (c :: l)).2) = _
    rw [hd, ← hcl]
    show r :: letL f ((Lib.encodeRune (r : Int) ++ enc rs).drop (rl r)) = _
    rw [List.drop_left' (show (Lib.encodeRune (r : Int)).length = rl r from rfl), letL_enc rs f (fun x hx => hr x (.tail _ hx)) (by omega)]
theorem letS_str (rs : List Nat) (h : ∀ r ∈ rs, IsR r) : letS (str rs) = rs := by
  unfold letS; rw [str_list, str_size]; exact letL_enc rs _ h (Nat.le_refl _)
theorem join_good (a b : Vl) (ha : needZ1 vD a.so a.n a.s = 0) (hb : needZ1 vD b.so b.n b.s = 0) : (joinV a b).good ∧ (joinV a b).so = 3 := by
  have h2 := (need2_zero vD a.so a.n a.s b.so b.n b.s).2 ⟨ha, hb⟩
  obtain ⟨_, _, la, va⟩ := (need1_zero _ _ _ _).1 ha
  obtain ⟨_, _, lb, vb⟩ := (need1_zero _ _ _ _).1 hb
  obtain ⟨ra, hra, ea⟩ := str_all _ va
  obtain ⟨rb, hrb, eb⟩ := str_all _ vb
  unfold joinV
  rw [if_pos h2]
  refine ⟨?_, rfl⟩
  show chkZ vD 3 0 (joinS a.s b.s) = 0
  rw [chk3, text_zero]
  have hR : ∀ r ∈ fit 0 (ra ++ rb), IsR r := fun r hr => (List.mem_append.1 (fit_mem _ _ _ hr)).elim (hra r) (hrb r)
  have e : joinS a.s b.s = str (fit 0 (ra ++ rb)) := by unfold joinS; rw [ea, eb, letS_str ra hra, letS_str rb hrb]
  rw [e]
  have := fit_len 0 (ra ++ rb) (by omega)
  exact ⟨rfl, by rw [str_size]; omega, str_vD _ hR⟩
theorem lvl_pos (l : List UInt8) (h : 0 < lvl l) : l = [111, 114] ∨ l = [97, 110, 100] ∨ l = [61, 61] ∨ l = [60] ∨ l = [60, 61] ∨ l = [43] ∨ l = [45] ∨ l = [43, 43] ∨ l = [42] ∨ l = [47] ∨ l = [37] := by
  unfold lvl at h
  repeat' split at h
  all_goals first | (exfalso; simp at h; done) | (simp_all; done) | (rcases ‹_ ∨ _ ∨ _› with e | e | e <;> subst e <;> decide)
/-- what a right expression is -/
theorem wf_cases (x : Ex) (h : wfX x) : (x.kind = 1 ∧ x.kids = [] ∧ chkZ vD x.so x.n x.s = 0) ∨ (x.kind = 2 ∧ x.kids = [] ∧ isNm x.name.data.toList = true) ∨
    (x.kind = 3 ∧ ∃ a, x.kids = [a] ∧ wfX a ∧ (x.name.data.toList = [110, 111, 116] ∨ x.name.data.toList = [110, 101, 103] ∨ x.name.data.toList = [35])) ∨
    (x.kind = 3 ∧ ∃ a b, x.kids = [a, b] ∧ wfX a ∧ wfX b ∧ 0 < lvl x.name.data.toList) := by
  obtain ⟨hp, hv, hk⟩ := (wfX_eq x).1 h
  by_cases h1 : x.kind = 1
  · exact .inl ⟨h1, kind1_kids x hp h1, hv h1⟩
  · unfold partOK at hp
    rw [if_neg h1] at hp
    by_cases h2 : x.kind = 2
    · rw [if_pos h2] at hp
      simp only [Bool.and_eq_true, decide_eq_true_eq] at hp
      exact .inr (.inl ⟨h2, List.eq_nil_of_length_eq_zero hp.2.2.2.2, hp.1⟩)
    · rw [if_neg h2] at hp
      by_cases h3 : x.kind = 3
      · rw [if_pos h3] at hp
        simp only [Bool.and_eq_true, decide_eq_true_eq] at hp
        obtain ⟨_, ho⟩ := hp
        unfold isOp at ho
        by_cases l1 : x.kids.length = 1
        · rw [if_pos l1] at ho
          obtain ⟨a, ha⟩ := List.length_eq_one_iff.1 l1
          exact .inr (.inr (.inl ⟨h3, a, ha, hk a (by rw [ha]; exact .head _), of_decide_eq_true ho⟩))
        · rw [if_neg l1] at ho
          by_cases l2 : x.kids.length = 2
          · rw [if_pos l2] at ho
            obtain ⟨a, b, ha⟩ : ∃ a b, x.kids = [a, b] := by
              match hq : x.kids, l2 with
              | [a, b], _ => exact ⟨a, b, rfl⟩
            exact .inr (.inr (.inr ⟨h3, a, b, ha, hk a (by rw [ha]; exact .head _), hk b (by rw [ha]; exact .tail _ (.head _)), of_decide_eq_true ho⟩))
          · rw [if_neg l2] at ho; cases ho
      · rw [if_neg h3] at hp; cases hp

theorem sort_lit (E : ByteArray → Int × Int) (x : Ex) (h : x.kind = 1) : sortX E x = (x.so, 0) := by cases x; subst h; rw [sortX.eq_def]; simp
theorem sort_name (E : ByteArray → Int × Int) (x : Ex) (h : x.kind = 2) : sortX E x = E x.name := by cases x; subst h; rw [sortX.eq_def]; simp
theorem val_lit (F : ByteArray → Vl) (x : Ex) (h : x.kind = 1) : valX F x = ⟨x.so, x.n, x.s⟩ := by cases x; subst h; rw [valX.eq_def]; simp
theorem val_name (F : ByteArray → Vl) (x : Ex) (h : x.kind = 2) : valX F x = F x.name := by cases x; subst h; rw [valX.eq_def]; simp
theorem val_one (F : ByteArray → Vl) (x a : Ex) (h : x.kind = 3) (hk : x.kids = [a]) : valX F x = oneV x.name.data.toList (valX F a) := by cases x; subst h; simp only at hk; subst hk; rw [valX.eq_def]; simp
theorem val_two (F : ByteArray → Vl) (x a b : Ex) (h : x.kind = 3) (hk : x.kids = [a, b]) : valX F x = twoV x.name.data.toList (valX F a) (valX F b) := by cases x; subst h; simp only at hk; subst hk; rw [valX.eq_def]; simp
/-- what is asked of a first Kid -/
def want1 (l : List UInt8) (z : Int) : Int := if isCmp l then z else (opS l).1
def sort1 (l : List UInt8) (p : Int × Int) : Int × Int := if p.2 ≠ 0 then (0, p.2) else if p.1 ≠ want1 l p.1 then (0, 5) else ((opS l).2, 0)
def sort2 (l : List UInt8) (p q : Int × Int) : Int × Int := if p.2 ≠ 0 then (0, p.2) else if p.1 ≠ want1 l p.1 then (0, 5) else if q.2 ≠ 0 then (0, q.2) else if q.1 ≠ want1 l p.1 then (0, 5) else ((opS l).2, 0)
theorem sort_one (E : ByteArray → Int × Int) (x a : Ex) (h : x.kind = 3) (hk : x.kids = [a]) : sortX E x = sort1 x.name.data.toList (sortX E a) := by
  cases x; subst h; simp only at hk; subst hk; rw [sortX.eq_def]; simp [sort1, want1]
theorem sort_two (E : ByteArray → Int × Int) (x a b : Ex) (h : x.kind = 3) (hk : x.kids = [a, b]) : sortX E x = sort2 x.name.data.toList (sortX E a) (sortX E b) := by
  cases x; subst h; simp only at hk; subst hk; rw [sortX.eq_def]; simp [sort2, want1]

/-- MILNER -/
theorem sort_val (E : ByteArray → Int × Int) (F : ByteArray → Vl) (hE : ∀ nm so, E nm = (so, 0) → (F nm).good ∧ (F nm).so = so) :
    ∀ x : Ex, wfX x → ∀ n, sortX E x = (n, 0) → (valX F x).good ∧ (valX F x).so = n := by
  apply exInd
  intro x ih hw n hs
  rcases wf_cases x hw with ⟨h, _, hg⟩ | ⟨h, _, _⟩ | ⟨h, a, hk, ha, hop⟩ | ⟨h, a, b, hk, ha, hb, hop⟩
  · rw [sort_lit E x h] at hs
    rw [val_lit F x h]
    exact ⟨hg, (Prod.mk.inj hs).1⟩
  · rw [sort_name E x h] at hs
    rw [val_name F x h]
    exact hE _ _ hs
  · rw [sort_one E x a h hk] at hs
    rw [val_one F x a h hk]
    have hn : n = (opS x.name.data.toList).2 := by
      unfold sort1 at hs
      split at hs
      · exact absurd (Prod.mk.inj hs).2 ‹_›
      · split at hs
        · exact absurd (Prod.mk.inj hs).2 (by decide)
        · exact (Prod.mk.inj hs).1.symm
    subst hn
    rcases hop with e | e | e <;> rw [e]
    · exact ⟨good_tru _, rfl⟩
    · exact ⟨good_num _, rfl⟩
    · exact ⟨good_num _, rfl⟩
  · rw [sort_two E x a b h hk] at hs
    rw [val_two F x a b h hk]
    obtain ⟨hn, pa, pb, qa, qb⟩ : n = (opS x.name.data.toList).2 ∧ (sortX E a).2 = 0 ∧ (sortX E b).2 = 0 ∧ (sortX E a).1 = want1 x.name.data.toList (sortX E a).1 ∧ (sortX E b).1 = want1 x.name.data.toList (sortX E a).1 := by
      unfold sort2 at hs
      split at hs
      · exact absurd (Prod.mk.inj hs).2 ‹_›
      · split at hs
        · exact absurd (Prod.mk.inj hs).2 (by decide)
        · split at hs
          · exact absurd (Prod.mk.inj hs).2 ‹_›
          · split at hs
            · exact absurd (Prod.mk.inj hs).2 (by decide)
            · rename_i q1 q2 q3 q4
              exact ⟨(Prod.mk.inj hs).1.symm, Decidable.not_not.1 q1, Decidable.not_not.1 q3, Decidable.not_not.1 q2, Decidable.not_not.1 q4⟩
    subst hn
    rcases lvl_pos _ hop with e | e | e | e | e | e | e | e | e | e | e <;> rw [e]
    · exact ⟨good_tru _, rfl⟩
    · exact ⟨good_tru _, rfl⟩
    · exact ⟨good_tru _, rfl⟩
    · exact ⟨good_tru _, rfl⟩
    · exact ⟨good_tru _, rfl⟩
    · exact ⟨good_num _, rfl⟩
    · exact ⟨good_num _, rfl⟩
    · rw [e] at qa qb
      have wa : (sortX E a).1 = 3 := qa
      have wb : (sortX E b).1 = 3 := qb
      obtain ⟨ga, sa⟩ := ih a (by rw [hk]; exact .head _) ha 3 (Prod.ext wa pa)
      obtain ⟨gb, sb⟩ := ih b (by rw [hk]; exact .tail _ (.head _)) hb 3 (Prod.ext wb pb)
      have na : needZ1 vD (valX F a).so (valX F a).n (valX F a).s = 0 := by unfold needZ1; rw [if_pos (show chkZ vD _ _ _ = 0 from ga), if_pos sa]
      have nb : needZ1 vD (valX F b).so (valX F b).n (valX F b).s = 0 := by unfold needZ1; rw [if_pos (show chkZ vD _ _ _ = 0 from gb), if_pos sb]
      exact join_good _ _ na nb
    · exact ⟨good_num _, rfl⟩
    · exact ⟨good_num _, rfl⟩
    · exact ⟨good_num _, rfl⟩
end Go.Proofs.YtfmegfgmkeicnaaDoor
