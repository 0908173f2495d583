/-
  Plain mathematics: expressions as trees, what Check, Sort and Eval say of them, and that what has a sort has a value of that sort (MILNER); for every tree.
-/
import Derived.Test.YtecapnipkngniaaGreatDoorXe
import Derived.Test.YtecapnipkngniaaGreatDoorOm
import Derived.Test.YtecapnipkngniaaGreatDoorProg
import Derived.Ground.NamesProg
import Derived.Shelf.LaysM
import Derived.Shelf.Small.Wraps
import Derived.Shelf.Strconv.Itoa4
import Derived.Shelf.Strings.SlTrimAscii
namespace Go.Proofs.YtecapnipkngniaaGreatDoor
open Go.RowKit

def partOK (x : Ex) : Bool :=
  if x.kind = 1 then decide (x.name = ⟨#[]⟩ ∧ x.kids.length = 0)
  else if x.kind = 2 then isNm x.name.data.toList && decide (x.so = 0 ∧ x.n = 0 ∧ x.s = ⟨#[]⟩ ∧ x.kids.length = 0)
  else if x.kind = 3 then decide (x.so = 0 ∧ x.n = 0 ∧ x.s = ⟨#[]⟩) && isOp x.name.data.toList x.kids.length
  else false

/-- checkParts: the error, and how many parts have been met -/
def chkP : Ex → Nat → Int × Nat
  | ⟨kd, nm, so, n, s, ks⟩, c =>
    if 60 < c + 1 then (2, c + 1) else if partOK ⟨kd, nm, so, n, s, ks⟩ = false then (1, c + 1) else if kd = 1 then (chkZ vD so n s, c + 1)
    else ks.foldl (fun a k => if a.1 ≠ 0 then a else chkP k a.2) (0, c + 1)
def chkL (ks : List Ex) (a : Int × Nat) : Int × Nat := ks.foldl (fun a k => if a.1 ≠ 0 then a else chkP k a.2) a
theorem chkP_eq (x : Ex) (c : Nat) : chkP x c = if 60 < c + 1 then (2, c + 1) else if partOK x = false then (1, c + 1) else if x.kind = 1 then (chkZ vD x.so x.n x.s, c + 1) else chkL x.kids (0, c + 1) := by
  cases x; rw [chkP]; rfl
theorem chkL_nil (a : Int × Nat) : chkL [] a = a := rfl
theorem chkL_cons (x : Ex) (ks : List Ex) (a : Int × Nat) : chkL (x :: ks) a = chkL ks (if a.1 ≠ 0 then a else chkP x a.2) := rfl
theorem chkL_bad (ks : List Ex) (a : Int × Nat) (h : a.1 ≠ 0) : chkL ks a = a := by
  induction ks with
  | nil => rfl
  | cons x ks ih => rw [chkL_cons, if_pos h]; exact ih
/-- what Check says -/
def chkX (x : Ex) : Int := (chkP x 0).1

/-- right in all its parts -/
def wfX : Ex → Prop
  | ⟨kd, nm, so, n, s, ks⟩ => partOK ⟨kd, nm, so, n, s, ks⟩ = true ∧ (kd = 1 → chkZ vD so n s = 0) ∧ ∀ k, k ∈ ks → wfX k
theorem wfX_eq (x : Ex) : wfX x ↔ partOK x = true ∧ (x.kind = 1 → chkZ vD x.so x.n x.s = 0) ∧ ∀ k ∈ x.kids, wfX k := by
  cases x; rw [wfX]

theorem exInd (P : Ex → Prop) (h : ∀ x : Ex, (∀ k ∈ x.kids, P k) → P x) : ∀ x, P x := by
  intro x
  induction x using Ex.rec (motive_2 := fun l => ∀ x ∈ l, P x) with
  | mk kd nm so n s ks ih => exact h ⟨kd, nm, so, n, s, ks⟩ ih
  | nil => simp at *
  | cons a l ha hl =>
    rename_i y hy
    rcases List.mem_cons.1 hy with rfl | hx
    · exact ha
    · exact hl _ hx

theorem kind1_kids (x : Ex) (h : partOK x = true) (hk : x.kind = 1) : x.kids = [] := by
  unfold partOK at h; rw [if_pos hk] at h; have := of_decide_eq_true h; exact List.eq_nil_of_length_eq_zero this.2
theorem chk_wf : ∀ x : Ex, ∀ c, (chkP x c).1 = 0 → wfX x := by
  apply exInd
  intro x ih c h
  rw [chkP_eq] at h
  by_cases h1 : 60 < c + 1
  · rw [if_pos h1] at h; simp at h
  · rw [if_neg h1] at h
    by_cases h2 : partOK x = false
    · rw [if_pos h2] at h; simp at h
    · rw [if_neg h2] at h
      have hp : partOK x = true := by simpa using h2
      rw [wfX_eq]
      by_cases h3 : x.kind = 1
      · rw [if_pos h3] at h
        refine ⟨hp, fun _ => h, ?_⟩
        rw [kind1_kids x hp h3]; intro k hk; cases hk
      · rw [if_neg h3] at h
        refine ⟨hp, fun e => absurd e h3, ?_⟩
        have : ∀ (ks : List Ex) (a : Int × Nat), (∀ k ∈ ks, k ∈ x.kids) → (chkL ks a).1 = 0 → ∀ k ∈ ks, wfX k := by
          intro ks
          induction ks with
          | nil => intro a _ _ k hk; cases hk
          | cons y ks ihk =>
            intro a hs h0 k hk
            rw [chkL_cons] at h0
            have ha : (if a.1 ≠ 0 then a else chkP y a.2).1 = 0 := by
              apply Classical.byContradiction; intro hn; rw [chkL_bad _ _ hn] at h0; exact hn h0
            rcases List.mem_cons.1 hk with rfl | hk
            · by_cases ha0 : a.1 ≠ 0
              · rw [if_pos ha0] at ha; exact absurd ha ha0
              · rw [if_neg ha0] at ha; exact ih _ (hs _ (.head _)) _ ha
            · exact ihk _ (fun k hk => hs k (.tail _ hk)) h0 k hk
        exact this x.kids (0, c + 1) (fun k hk => hk) h

/-- the sort, and the error -/
def sortX (E : ByteArray → Int × Int) : Ex → Int × Int
  | ⟨kd, nm, so, _, _, ks⟩ =>
    if kd = 1 then (so, 0) else if kd = 2 then E nm else
    match ks with
    | [] => ((opS nm.data.toList).2, 0)
    | [a] => if (sortX E a).2 ≠ 0 then (0, (sortX E a).2) else
        if (sortX E a).1 ≠ (if isCmp nm.data.toList then (sortX E a).1 else (opS nm.data.toList).1) then (0, 5) else ((opS nm.data.toList).2, 0)
    | a :: b :: _ => if (sortX E a).2 ≠ 0 then (0, (sortX E a).2) else
        if (sortX E a).1 ≠ (if isCmp nm.data.toList then (sortX E a).1 else (opS nm.data.toList).1) then (0, 5) else
        if (sortX E b).2 ≠ 0 then (0, (sortX E b).2) else
        if (sortX E b).1 ≠ (if isCmp nm.data.toList then (sortX E a).1 else (opS nm.data.toList).1) then (0, 5) else ((opS nm.data.toList).2, 0)

def truV (b : Bool) : Vl := ⟨2, if b then 1 else 0, ⟨#[]⟩⟩
def numV (z : Int) : Vl := ⟨1, z, ⟨#[]⟩⟩
def oneV (l : List UInt8) (a : Vl) : Vl :=
  if l = [110, 111, 116] then truV (a.n == 0) else if l = [110, 101, 103] then numV (w64 (-a.n)) else numV (lenZ vD a.so a.n a.s)
def bad2 (a b : Vl) : Int := firstNZ [chkZ vD a.so a.n a.s, chkZ vD b.so b.n b.s]
def ordV (a b : Vl) : Int := if bad2 a b = 0 then ordZ a.so a.n a.s b.so b.n b.s else 0
def cmpV (l : List UInt8) (a b : Vl) : Vl :=
  if l = [61, 61] then truV (ordV a b == 0) else if l = [60] then truV (decide (ordV a b < 0)) else truV (decide (ordV a b ≤ 0))
/-- letters of a text -/
def letL : Nat → List UInt8 → List Nat
  | 0, _ => []
  | _ + 1, [] => []
  | f + 1, c :: l => (Lib.decodeL (c :: l)).1 :: letL f ((c :: l).drop (Lib.decodeL (c :: l)).2)
def letS (s : ByteArray) : List Nat := letL s.size s.data.toList
def joinS (a b : ByteArray) : ByteArray := str (fit 0 (letS a ++ letS b))
def joinV (a b : Vl) : Vl := if needZ2 vD a.so a.n a.s b.so b.n b.s = 0 then ⟨3, 0, joinS a.s b.s⟩ else ⟨0, 0, ⟨#[]⟩⟩
def twoV (l : List UInt8) (a b : Vl) : Vl :=
  if l = [111, 114] then truV (a.n == 1 || b.n == 1) else if l = [97, 110, 100] then truV (a.n == 1 && b.n == 1)
  else if l = [61, 61] ∨ l = [60] ∨ l = [60, 61] then cmpV l a b else if l = [43, 43] then joinV a b else numV (numZ l a.n b.n)
def valX (F : ByteArray → Vl) : Ex → Vl
  | ⟨kd, nm, so, n, s, ks⟩ =>
    if kd = 1 then ⟨so, n, s⟩ else if kd = 2 then F nm else
    match ks with
    | [] => ⟨0, 0, ⟨#[]⟩⟩
    | [a] => oneV nm.data.toList (valX F a)
    | a :: b :: _ => twoV nm.data.toList (valX F a) (valX F b)

def Vl.good (v : Vl) : Prop := chkZ vD v.so v.n v.s = 0
theorem good_tru (b : Bool) : (truV b).good := by cases b <;> simp [Vl.good, truV, chkZ, argZ]
theorem good_num (z : Int) : (numV z).good := by simp [Vl.good, numV, chkZ, argZ]

theorem letL_enc : ∀ (rs : List Nat) (f : Nat), (∀ r ∈ rs, IsR r) → (enc rs).length ≤ f → letL f (enc rs) = rs
  | [], 0, _, _ => rfl
  | [], f + 1, _, _ => rfl
  | r :: rs, 0, _, h => by rw [enc_len_cons] at h; have := (rl_pos r).1; omega
  | r :: rs, f + 1, hr, h => by
    have hd := decode_encode r (hr r (.head _)) (enc rs)
    rw [enc_len_cons] at h
    have hp := (rl_pos r).1
    rw [enc_cons]
    obtain ⟨c, l, hcl⟩ : ∃ c l, Lib.encodeRune (r : Int) ++ enc rs = c :: l := by
      cases he : Lib.encodeRune (r : Int) ++ enc rs with
      | nil => have : (Lib.encodeRune (r : Int) ++ enc rs).length = 0 := by rw [he]; rfl
               rw [List.length_append] at this; unfold rl at hp; omega
      | cons c l => exact ⟨c, l, rfl⟩
    rw [hcl] at hd ⊢
    show (Lib.decodeL (c :: l)).1 :: letL f ((c :: l).drop (Lib.decodeL (c :: l)).2) = _
    rw [hd, ← hcl]
    show r :: letL f ((Lib.encodeRune (r : Int) ++ enc rs).drop (rl r)) = _
    rw [List.drop_left' (show (Lib.encodeRune (r : Int)).length = rl r from rfl), letL_enc rs f (fun x hx => hr x (.tail _ hx)) (by omega)]
theorem letS_str (rs : List Nat) (h : ∀ r ∈ rs, IsR r) : letS (str rs) = rs := by
  unfold letS; rw [str_list, str_size]; exact letL_enc rs _ h (Nat.le_refl _)
theorem join_good (a b : Vl) (ha : needZ1 vD a.so a.n a.s = 0) (hb : needZ1 vD b.so b.n b.s = 0) : (joinV a b).good ∧ (joinV a b).so = 3 := by
  have h2 := (need2_zero vD a.so a.n a.s b.so b.n b.s).2 ⟨ha, hb⟩
  obtain ⟨_, _, la, va⟩ := (need1_zero _ _ _ _).1 ha
  obtain ⟨_, _, lb, vb⟩ := (need1_zero _ _ _ _).1 hb
  obtain ⟨ra, hra, ea⟩ := str_all _ va
  obtain ⟨rb, hrb, eb⟩ := str_all _ vb
  unfold joinV
  rw [if_pos h2]
  refine ⟨?_, rfl⟩
  show chkZ vD 3 0 (joinS a.s b.s) = 0
  rw [chk3, text_zero]
  have hR : ∀ r ∈ fit 0 (ra ++ rb), IsR r := fun r hr => (List.mem_append.1 (fit_mem _ _ _ hr)).elim (hra r) (hrb r)
  have e : joinS a.s b.s = str (fit 0 (ra ++ rb)) := by unfold joinS; rw [ea, eb, letS_str ra hra, letS_str rb hrb]
  rw [e]
  have := fit_len 0 (ra ++ rb) (by omega)
  exact ⟨rfl, by rw [str_size]; omega, str_vD _ hR⟩
theorem lvl_pos (l : List UInt8) (h : 0 < lvl l) : l = [111, 114] ∨ l = [97, 110, 100] ∨ l = [61, 61] ∨ l = [60] ∨ l = [60, 61] ∨ l = [43] ∨ l = [45] ∨ l = [43, 43] ∨ l = [42] ∨ l = [47] ∨ l = [37] := by
  unfold lvl at h
  repeat' split at h
  all_goals first | (exfalso; simp at h; done) | (simp_all; done) | (rcases ‹_ ∨ _ ∨ _› with e | e | e <;> subst e <;> decide)
/-- what a right expression is -/
theorem wf_cases (x : Ex) (h : wfX x) : (x.kind = 1 ∧ x.kids = [] ∧ chkZ vD x.so x.n x.s = 0) ∨ (x.kind = 2 ∧ x.kids = [] ∧ isNm x.name.data.toList = true) ∨
    (x.kind = 3 ∧ ∃ a, x.kids = [a] ∧ wfX a ∧ (x.name.data.toList = [110, 111, 116] ∨ x.name.data.toList = [110, 101, 103] ∨ x.name.data.toList = [35])) ∨
    (x.kind = 3 ∧ ∃ a b, x.kids = [a, b] ∧ wfX a ∧ wfX b ∧ 0 < lvl x.name.data.toList) := by
  obtain ⟨hp, hv, hk⟩ := (wfX_eq x).1 h
  by_cases h1 : x.kind = 1
  · exact .inl ⟨h1, kind1_kids x hp h1, hv h1⟩
  · unfold partOK at hp
    rw [if_neg h1] at hp
    by_cases h2 : x.kind = 2
    · rw [if_pos h2] at hp
      simp only [Bool.and_eq_true, decide_eq_true_eq] at hp
      exact .inr (.inl ⟨h2, List.eq_nil_of_length_eq_zero hp.2.2.2.2, hp.1⟩)
    · rw [if_neg h2] at hp
      by_cases h3 : x.kind = 3
      · rw [if_pos h3] at hp
        simp only [Bool.and_eq_true, decide_eq_true_eq] at hp
        obtain ⟨_, ho⟩ := hp
        unfold isOp at ho
        by_cases l1 : x.kids.length = 1
        · rw [if_pos l1] at ho
          obtain ⟨a, ha⟩ := List.length_eq_one_iff.1 l1
          exact .inr (.inr (.inl ⟨h3, a, ha, hk a (by rw [ha]; exact .head _), of_decide_eq_true ho⟩))
        · rw [if_neg l1] at ho
          by_cases l2 : x.kids.length = 2
          · rw [if_pos l2] at ho
            obtain ⟨a, b, ha⟩ : ∃ a b, x.kids = [a, b] := by
              match hq : x.kids, l2 with
              | [a, b], _ => exact ⟨a, b, rfl⟩
            exact .inr (.inr (.inr ⟨h3, a, b, ha, hk a (by rw [ha]; exact .head _), hk b (by rw [ha]; exact .tail _ (.head _)), of_decide_eq_true ho⟩))
          · rw [if_neg l2] at ho; cases ho
      · rw [if_neg h3] at hp; cases hp

theorem sort_lit (E : ByteArray → Int × Int) (x : Ex) (h : x.kind = 1) : sortX E x = (x.so, 0) := by cases x; subst h; rw [sortX.eq_def]; simp
theorem sort_name (E : ByteArray → Int × Int) (x : Ex) (h : x.kind = 2) : sortX E x = E x.name := by cases x; subst h; rw [sortX.eq_def]; simp
theorem val_lit (F : ByteArray → Vl) (x : Ex) (h : x.kind = 1) : valX F x = ⟨x.so, x.n, x.s⟩ := by cases x; subst h; rw [valX.eq_def]; simp
theorem val_name (F : ByteArray → Vl) (x : Ex) (h : x.kind = 2) : valX F x = F x.name := by cases x; subst h; rw [valX.eq_def]; simp
theorem val_one (F : ByteArray → Vl) (x a : Ex) (h : x.kind = 3) (hk : x.kids = [a]) : valX F x = oneV x.name.data.toList (valX F a) := by cases x; subst h; simp only at hk; subst hk; rw [valX.eq_def]; simp
theorem val_two (F : ByteArray → Vl) (x a b : Ex) (h : x.kind = 3) (hk : x.kids = [a, b]) : valX F x = twoV x.name.data.toList (valX F a) (valX F b) := by cases x; subst h; simp only at hk; subst hk; rw [valX.eq_def]; simp
/-- what is asked of a first Kid -/
def want1 (l : List UInt8) (z : Int) : Int := if isCmp l then z else (opS l).1
def sort1 (l : List UInt8) (p : Int × Int) : Int × Int := if p.2 ≠ 0 then (0, p.2) else if p.1 ≠ want1 l p.1 then (0, 5) else ((opS l).2, 0)
def sort2 (l : List UInt8) (p q : Int × Int) : Int × Int := if p.2 ≠ 0 then (0, p.2) else if p.1 ≠ want1 l p.1 then (0, 5) else if q.2 ≠ 0 then (0, q.2) else if q.1 ≠ want1 l p.1 then (0, 5) else ((opS l).2, 0)
theorem sort_one (E : ByteArray → Int × Int) (x a : Ex) (h : x.kind = 3) (hk : x.kids = [a]) : sortX E x = sort1 x.name.data.toList (sortX E a) := by
  cases x; subst h; simp only at hk; subst hk; rw [sortX.eq_def]; simp [sort1, want1]
theorem sort_two (E : ByteArray → Int × Int) (x a b : Ex) (h : x.kind = 3) (hk : x.kids = [a, b]) : sortX E x = sort2 x.name.data.toList (sortX E a) (sortX E b) := by
  cases x; subst h; simp only at hk; subst hk; rw [sortX.eq_def]; simp [sort2, want1]

/-- MILNER -/
theorem sort_val (E : ByteArray → Int × Int) (F : ByteArray → Vl) (hE : ∀ nm so, E nm = (so, 0) → (F nm).good ∧ (F nm).so = so) :
    ∀ x : Ex, wfX x → ∀ n, sortX E x = (n, 0) → (valX F x).good ∧ (valX F x).so = n := by
  apply exInd
  intro x ih hw n hs
  rcases wf_cases x hw with ⟨h, _, hg⟩ | ⟨h, _, _⟩ | ⟨h, a, hk, ha, hop⟩ | ⟨h, a, b, hk, ha, hb, hop⟩
  · rw [sort_lit E x h] at hs
    rw [val_lit F x h]
    exact ⟨hg, (Prod.mk.inj hs).1⟩
  · rw [sort_name E x h] at hs
    rw [val_name F x h]
    exact hE _ _ hs
  · rw [sort_one E x a h hk] at hs
    rw [val_one F x a h hk]
    have hn : n = (opS x.name.data.toList).2 := by
      unfold sort1 at hs
      split at hs
      · exact absurd (Prod.mk.inj hs).2 ‹_›
      · split at hs
        · exact absurd (Prod.mk.inj hs).2 (by decide)
        · exact (Prod.mk.inj hs).1.symm
    subst hn
    rcases hop with e | e | e <;> rw [e]
    · exact ⟨good_tru _, rfl⟩
    · exact ⟨good_num _, rfl⟩
    · exact ⟨good_num _, rfl⟩
  · rw [sort_two E x a b h hk] at hs
    rw [val_two F x a b h hk]
    obtain ⟨hn, pa, pb, qa, qb⟩ : n = (opS x.name.data.toList).2 ∧ (sortX E a).2 = 0 ∧ (sortX E b).2 = 0 ∧ (sortX E a).1 = want1 x.name.data.toList (sortX E a).1 ∧ (sortX E b).1 = want1 x.name.data.toList (sortX E a).1 := by
      unfold sort2 at hs
      split at hs
      · exact absurd (Prod.mk.inj hs).2 ‹_›
      · split at hs
        · exact absurd (Prod.mk.inj hs).2 (by decide)
        · split at hs
          · exact absurd (Prod.mk.inj hs).2 ‹_›
          · split at hs
            · exact absurd (Prod.mk.inj hs).2 (by decide)
            · rename_i q1 q2 q3 q4
              exact ⟨(Prod.mk.inj hs).1.symm, Decidable.not_not.1 q1, Decidable.not_not.1 q3, Decidable.not_not.1 q2, Decidable.not_not.1 q4⟩
    subst hn
    rcases lvl_pos _ hop with e | e | e | e | e | e | e | e | e | e | e <;> rw [e]
    · exact ⟨good_tru _, rfl⟩
    · exact ⟨good_tru _, rfl⟩
    · exact ⟨good_tru _, rfl⟩
    · exact ⟨good_tru _, rfl⟩
    · exact ⟨good_tru _, rfl⟩
    · exact ⟨good_num _, rfl⟩
    · exact ⟨good_num _, rfl⟩
    · rw [e] at qa qb
      have wa : (sortX E a).1 = 3 := qa
      have wb : (sortX E b).1 = 3 := qb
      obtain ⟨ga, sa⟩ := ih a (by rw [hk]; exact .head _) ha 3 (Prod.ext wa pa)
      obtain ⟨gb, sb⟩ := ih b (by rw [hk]; exact .tail _ (.head _)) hb 3 (Prod.ext wb pb)
      have na : needZ1 vD (valX F a).so (valX F a).n (valX F a).s = 0 := by unfold needZ1; rw [if_pos (show chkZ vD _ _ _ = 0 from ga), if_pos sa]
      have nb : needZ1 vD (valX F b).so (valX F b).n (valX F b).s = 0 := by unfold needZ1; rw [if_pos (show chkZ vD _ _ _ = 0 from gb), if_pos sb]
      exact join_good _ _ na nb
    · exact ⟨good_num _, rfl⟩
    · exact ⟨good_num _, rfl⟩
    · exact ⟨good_num _, rfl⟩
end Go.Proofs.YtecapnipkngniaaGreatDoor
/-
  Library contracts of strconv and strings. Conditions: none.
-/
namespace Go.Proofs
open Go.Shelf
def Tryz.lays161_ren : Go.Shelf.Ren := ⟨fun | 161 => 140 | 231 => 146 | 227 => 147 | 233 => 148 | 235 => 149 | 228 => 151 | 197 => 60 | 151 => 152 | 260 => 87 | 152 => 153 | 137 => 154 | 119 => 155 | 224 => 156 | 225 => 157 | 217 => 158 | 266 => 159 | n => n, fun | 9 => 9 | 4 => 4 | 3 => 3 | 5 => 5 | 117 => 175 | 116 => 174 | 0 => 0 | 124 => 178 | 105 => 83 | 21 => 21 | 119 => 127 | 46 => 88 | 139 => 130 | 138 => 129 | n => n, fun | 3 => 0 | 4 => 1 | n => n⟩
theorem Tryz.lays161 : Go.Proofs.Lays.n161 Tryz.prog Tryz.lays161_ren := {
  mixed := by kernel_rfl
  f119 := Tryz.func155.trans (congrArg some (by kernel_rfl))
  f137 := Tryz.func154.trans (congrArg some (by kernel_rfl))
  f151 := Tryz.func152.trans (congrArg some (by kernel_rfl))
  f152 := Tryz.func153.trans (congrArg some (by kernel_rfl))
  f161 := Tryz.func140.trans (congrArg some (by kernel_rfl))
  f197 := Tryz.func60.trans (congrArg some (by kernel_rfl))
  f217 := Tryz.func158.trans (congrArg some (by kernel_rfl))
  f224 := Tryz.func156.trans (congrArg some (by kernel_rfl))
  f225 := Tryz.func157.trans (congrArg some (by kernel_rfl))
  f227 := Tryz.func147.trans (congrArg some (by kernel_rfl))
  f228 := Tryz.func151.trans (congrArg some (by kernel_rfl))
  f231 := Tryz.func146.trans (congrArg some (by kernel_rfl))
  f233 := Tryz.func148.trans (congrArg some (by kernel_rfl))
  f235 := Tryz.func149.trans (congrArg some (by kernel_rfl))
  f260 := Tryz.func87.trans (congrArg some (by kernel_rfl))
  f266 := Tryz.func159.trans (congrArg some (by kernel_rfl))
  t0 := Tryz.underlying0
  a0 := Tryz.isAgg0
  z0 := Tryz.sizeOf0
  v0 := Tryz.zeroValue0
  t3 := Tryz.underlying3
  a3 := Tryz.isAgg3
  z3 := Tryz.sizeOf3
  v3 := Tryz.zeroValue3
  t4 := Tryz.underlying4
  a4 := Tryz.isAgg4
  z4 := Tryz.sizeOf4
  v4 := Tryz.zeroValue4
  t5 := Tryz.underlying5
  a5 := Tryz.isAgg5
  z5 := Tryz.sizeOf5
  v5 := Tryz.zeroValue5
  t9 := Tryz.underlying9
  a9 := Tryz.isAgg9
  z9 := Tryz.sizeOf9
  v9 := Tryz.zeroValue9
  t21 := Tryz.underlying21
  a21 := Tryz.isAgg21
  z21 := Tryz.sizeOf21
  v21 := Tryz.zeroValue21
  t46 := Tryz.underlying88
  a46 := Tryz.isAgg88
  z46 := Tryz.sizeOf88
  v46 := Tryz.zeroValue88
  t105 := Tryz.underlying83
  a105 := Tryz.isAgg83
  z105 := Tryz.sizeOf83
  v105 := Tryz.zeroValue83
  t116 := Tryz.underlying174
  a116 := Tryz.isAgg174
  z116 := Tryz.sizeOf174
  t117 := Tryz.underlying175
  a117 := Tryz.isAgg175
  z117 := Tryz.sizeOf175
  v117 := Tryz.zeroValue175
  t119 := Tryz.underlying127
  a119 := Tryz.isAgg127
  z119 := Tryz.sizeOf127
  t124 := Tryz.underlying178
  a124 := Tryz.isAgg178
  z124 := Tryz.sizeOf178
  v124 := Tryz.zeroValue178
  t138 := Tryz.underlying129
  a138 := Tryz.isAgg129
  z138 := Tryz.sizeOf129
  v138 := Tryz.zeroValue129
  t139 := Tryz.underlying130
  a139 := Tryz.isAgg130
  z139 := Tryz.sizeOf130
  v139 := Tryz.zeroValue130
  g3 := by kernel_rfl
  g4 := by kernel_rfl }
end Go.Proofs

/-
  The contracts of pieces.Leading and exprs.IsName, each for every input.
-/
namespace Go.Proofs.YtecapnipkngniaaGreatDoor
open Go.RowKit Go.Shelf

/-- how many such bytes stand first -/
def lead (p : UInt8 → Bool) : List UInt8 → Nat
  | [] => 0
  | c :: l => if p c then lead p l + 1 else 0
theorem lead_le (p : UInt8 → Bool) : ∀ l, lead p l ≤ l.length
  | [] => Nat.le_refl _
  | c :: l => by unfold lead; split <;> simp; exact lead_le p l
theorem lead_at (p : UInt8 → Bool) : ∀ (l : List UInt8) (k : Nat) (h : k < l.length), (∀ i (hi : i < k), p l[i] = true) → p l[k] = false → lead p l = k
  | c :: l, 0, _, _, h => by unfold lead; rw [if_neg (by simpa using h)]
  | c :: l, k + 1, hk, ha, h => by
    unfold lead
    rw [if_pos (show p c = true from ha 0 (by omega)), lead_at p l k (by simpa using hk) (fun i hi => by simpa using ha (i + 1) (by omega)) (by simpa using h)]
theorem lead_all (p : UInt8 → Bool) : ∀ (l : List UInt8), (∀ i (hi : i < l.length), p l[i] = true) → lead p l = l.length
  | [], _ => rfl
  | c :: l, ha => by
    unfold lead
    rw [if_pos (show p c = true from ha 0 (by simp)), lead_all p l (fun i hi => ha (i + 1) (by simpa using hi))]; rfl
theorem lead_iff (p : UInt8 → Bool) : ∀ (l : List UInt8), lead p l = l.length ↔ l.all p = true
  | [] => by simp [lead]
  | c :: l => by
    have := lead_iff p l
    unfold lead
    cases hp : p c
    · simp [hp]
    · simp [hp, ← this]

/-- the letters a to z -/
def lows : ByteArray := ⟨#[97, 98, 99, 100, 101, 102, 103, 104, 105, 106, 107, 108, 109, 110, 111, 112, 113, 114, 115, 116, 117, 118, 119, 120, 121, 122]⟩
set_option maxRecDepth 100000 in
theorem lows_has (c : UInt8) : lows.data.toList.contains c = isLow c := by
  have h : ∀ n : Fin 256, lows.data.toList.contains (UInt8.ofNat n.val) = isLow (UInt8.ofNat n.val) := by decide
  have := h ⟨c.toNat, c.toNat_lt⟩
  rwa [show UInt8.ofNat c.toNat = c from UInt8.ofNat_toNat] at this
theorem trim_lead (cs : List UInt8) : ∀ l : List UInt8, Lib.trimLeftS l cs = l.drop (lead (fun c => cs.contains c) l)
  | [] => rfl
  | c :: l => by
    have ih := trim_lead cs l
    unfold Lib.trimLeftS at ih ⊢
    unfold lead
    rw [List.dropWhile_cons]
    cases h : cs.contains c
    · simp
    · simpa using ih
theorem lead_congr (p q : UInt8 → Bool) (h : ∀ c, p c = q c) (l : List UInt8) : lead p l = lead q l := by rw [show p = q from funext h]
theorem two_beq (s t : ByteArray) : (s.toList == t.toList) = decide (s = t) := by
  rw [Bool.eq_iff_iff, ByteArray.toList_eq, ByteArray.toList_eq]
  simp
  constructor
  · intro h; exact ByteArray.ext h
  · rintro rfl; rfl
theorem info256 : (Tryz.prog.info? (Tryz.lays161_ren.t 116)).map (fun i => (i.zero, i.size)) = some (some (.agg (Array.replicate 256 (.bool false))), 256) := by kernel_rfl

set_option maxHeartbeats 400000 in
theorem leading_any (s cs : ByteArray) (w : World) (hs : s.size ≤ 9223372036854775807) (hcs : cs.size < 4294967281) (ha : cs.data.toList.all (fun b => decide (b.toNat < 128)) = true) :
    Calls Tryz.prog 126 #[.string s, .string cs] w fun e w' => e = .returned (.string (s.extract 0 (lead (fun c => cs.data.toList.contains c) s.data.toList))) ∧ Below w.heap.size w w' := by
  have cT : Calls Tryz.prog 140 #[.string s, .string cs] w fun e w' => e = .returned (.string ⟨(Lib.trimLeftS s.data.toList cs.data.toList).toArray⟩) ∧ Below w.heap.size w w' := Any.strings_TrimLeft_laid Tryz.lays161 info256 s cs w hcs (ascii_of_all ha)
  have hle := lead_le (fun c => cs.data.toList.contains c) s.data.toList
  have hsz : (⟨(Lib.trimLeftS s.data.toList cs.data.toList).toArray⟩ : ByteArray).size = s.size - lead (fun c => cs.data.toList.contains c) s.data.toList := by
    rw [trim_lead]; show ((s.data.toList.drop _).toArray).size = _
    rw [List.size_toArray, List.length_drop, Array.length_toList]; rfl
  generalize lead (fun c => cs.data.toList.contains c) s.data.toList = k at hle hsz ⊢
  generalize (⟨(Lib.trimLeftS s.data.toList cs.data.toList).toArray⟩ : ByteArray) = t at cT hsz
  have hk : k ≤ s.size := by simpa using hle
  have htz : (t.size : Int) ≤ (s.size : Int) := by omega
  have hkz : (s.size : Int) - (t.size : Int) = (k : Int) := by omega
  clear hle hcs ha
  go_enter Tryz.func126, Tryz.ntmps126
  go_wp2_with fail
  refine cT.mono ?_
  rintro e w1 ⟨rfl, hb⟩
  go_wp2_with fail
  go_ret
  refine ⟨?_, hb⟩
  show Ending.returned (Value.string (s.extract 0 (s.size - (s.size - k)))) = _
  rw [show s.size - (s.size - k) = k by omega]

theorem isNm_no (l : List UInt8) (h : l = [116, 114, 117, 101] ∨ l = [102, 97, 108, 115, 101] ∨ l = [97, 110, 100] ∨ l = [111, 114] ∨ l = [110, 111, 116]) : isNm l = false := by unfold isNm; rw [if_pos h]
theorem isNm_yes (l : List UInt8) (h : ¬ (l = [116, 114, 117, 101] ∨ l = [102, 97, 108, 115, 101] ∨ l = [97, 110, 100] ∨ l = [111, 114] ∨ l = [110, 111, 116])) : isNm l = (decide (1 ≤ l.length ∧ l.length ≤ 8) && l.all isLow) := by unfold isNm; rw [if_neg h]
set_option maxHeartbeats 400000 in
theorem isName_any (s : ByteArray) (w : World) (hs : s.size ≤ 9223372036854775807) :
    Calls Tryz.prog 101 #[.string s] w fun e w' => e = .returned (.bool (isNm s.data.toList)) ∧ Below w.heap.size w w' := by
  have hlen : s.data.toList.length = s.size := by simp
  by_cases hkw : s.data.toList = [116, 114, 117, 101] ∨ s.data.toList = [102, 97, 108, 115, 101] ∨ s.data.toList = [97, 110, 100] ∨ s.data.toList = [111, 114] ∨ s.data.toList = [110, 111, 116]
  · rw [isNm_no _ hkw]
    clear hlen
    have e : ∀ l, s.data.toList = l → s = ⟨l.toArray⟩ := fun l h => ByteArray.ext (Array.toList_inj.1 (by simpa using h))
    rcases hkw with h | h | h | h | h
    all_goals
      have := e _ h
      subst this
      clear h e hs
      go_enter Tryz.func101, Tryz.ntmps101
      go_wp2_with fail
      go_ret
      exact ⟨rfl, Below.refl _ _⟩
  · rw [isNm_yes _ hkw, hlen]
    have b1 : (s.toList == [116, 114, 117, 101]) = false := by rw [beqL]; simp; exact fun h => hkw (.inl h)
    have b2 : (s.toList == [102, 97, 108, 115, 101]) = false := by rw [beqL]; simp; exact fun h => hkw (.inr (.inl h))
    have b3 : (s.toList == [97, 110, 100]) = false := by rw [beqL]; simp; exact fun h => hkw (.inr (.inr (.inl h)))
    have b4 : (s.toList == [111, 114]) = false := by rw [beqL]; simp; exact fun h => hkw (.inr (.inr (.inr (.inl h))))
    have b5 : (s.toList == [110, 111, 116]) = false := by rw [beqL]; simp; exact fun h => hkw (.inr (.inr (.inr (.inr h))))
    clear hkw
    by_cases h1 : 1 ≤ s.size
    · by_cases h2 : s.size ≤ 8
      · have z1 : (1 : Int) ≤ (s.size : Int) := by omega
        have z2 : (s.size : Int) ≤ 8 := by omega
        have cL := leading_any s lows w hs (by decide) (by decide)
        rw [lead_congr _ isLow lows_has] at cL
        have hle := lead_le isLow s.data.toList
        have hiff := lead_iff isLow s.data.toList
        rw [hlen] at hle hiff
        generalize s.data.toList.all isLow = g at hiff ⊢
        generalize lead isLow s.data.toList = k at cL hle hiff
        have hg : ((s.extract 0 k).toList == s.toList) = g := by
          rw [two_beq, Bool.eq_iff_iff, ← hiff, decide_eq_true_eq]
          constructor
          · intro h; have := congrArg ByteArray.size h; simp at this; omega
          · intro h; subst h; exact ByteArray.extract_zero_size
        generalize s.extract 0 k = t at cL hg
        clear hiff hlen hle
        rw [show (decide (1 ≤ s.size ∧ s.size ≤ 8) && g) = g by simp [h1, h2]]
        simp only [lows] at cL
        have HG : Hid ((t.toList == s.toList) = g) := hg
        clear hg
        go_enter Tryz.func101, Tryz.ntmps101
        go_wp2_with (go_at_call 126; refine cL.mono ?_; rintro e w1 ⟨rfl, hb⟩)
        go_ret
        exact ⟨by rw [← HG.out]; rfl, hb⟩
      · have z1 : (1 : Int) ≤ (s.size : Int) := by omega
        have z2 : ¬ (s.size : Int) ≤ 8 := by omega
        rw [show (decide (1 ≤ s.size ∧ s.size ≤ 8) && s.data.toList.all isLow) = false by simp [h2]]
        clear hlen
        go_enter Tryz.func101, Tryz.ntmps101
        go_wp2_with fail
        go_ret
        exact ⟨rfl, Below.refl _ _⟩
    · have z1 : ¬ (1 : Int) ≤ (s.size : Int) := by omega
      rw [show (decide (1 ≤ s.size ∧ s.size ≤ 8) && s.data.toList.all isLow) = false by simp [h1]]
      clear hlen
      go_enter Tryz.func101, Tryz.ntmps101
      go_wp2_with fail
      go_ret
      exact ⟨rfl, Below.refl _ _⟩
end Go.Proofs.YtecapnipkngniaaGreatDoor
