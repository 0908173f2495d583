/-
  How an expression is read, as a function on bytes; a blank and what begins no operator behind it change nothing of what is read.
  Z is what a value's text comes to: sort, number, text, error.
-/
import Derived.Test.YtipolobikigmbaaGreatDoorKi
namespace Go.Proofs.YtipolobikigmbaaGreatDoor
open Go.RowKit Go.Shelf

/-- the signs of two, the longer ones ahead -/
def sgs : List (List UInt8) := [[61, 61], [60, 61], [43, 43], [60], [43], [45], [42], [47], [37]]
def opAh (l : List UInt8) : List UInt8 :=
  if wd l = [111, 114] then [111, 114] else if wd l = [97, 110, 100] then [97, 110, 100] else (sgs.find? fun o => o.isPrefixOf l).getD []
def isDig (c : UInt8) : Bool := decide (48 ≤ c.toNat ∧ c.toNat ≤ 57)
def sg1 (l : List UInt8) : Nat := if l.head? = some 45 then 1 else 0
def numAh (l : List UInt8) : List UInt8 := if lead isDig (l.drop (sg1 l)) = 0 then [] else l.take (sg1 l + lead isDig (l.drop (sg1 l)))
/-- how many bytes to the mark that ends, with it -/
def qlen : List UInt8 → Nat
  | [] => 0
  | [_] => 1
  | c :: d :: l => if c = 34 then 1 else if c = 92 then 2 + qlen l else 1 + qlen (d :: l)
/-- there is such a mark -/
def quE : List UInt8 → Bool
  | [] => false
  | [c] => decide (c = 34)
  | c :: d :: l => if c = 34 then true else if c = 92 then quE l else quE (d :: l)
def quAh (l : List UInt8) : List UInt8 := l.take (1 + qlen (l.drop 1))
/-- what is read: the expression and what is left, or the error and where -/
abbrev RdE := Except (Int × List UInt8) (Ex × List UInt8)
section
variable (Z : List UInt8 → Int × Int × List UInt8 × Int)
def rdVal (l p : List UInt8) : RdE := if (Z p).2.2.2 = 0 then .ok (⟨1, ⟨#[]⟩, (Z p).1, (Z p).2.1, bs (Z p).2.2.1, []⟩, skB (l.drop p.length)) else .error ((Z p).2.2.2, l)
def rdOne (O : List UInt8 → RdE) (op : List UInt8) (n : Nat) (l : List UInt8) : RdE :=
  match O (skB (l.drop n)) with
  | .error e => .error e
  | .ok (x, r) => .ok (⟨3, bs op, 0, 0, ⟨#[]⟩, [x]⟩, r)
def rdWd (O : List UInt8 → RdE) (l : List UInt8) : RdE :=
  if wd l = [116, 114, 117, 101] ∨ wd l = [102, 97, 108, 115, 101] then rdVal Z l (wd l)
  else if wd l = [110, 111, 116] then rdOne O [110, 111, 116] 3 l
  else if isNm (wd l) = true then .ok (⟨2, bs (wd l), 0, 0, ⟨#[]⟩, []⟩, skB (l.drop (wd l).length)) else .error (3, l)
def rdBr (E : List UInt8 → RdE) (l : List UInt8) : RdE :=
  match E (skB (l.drop 1)) with
  | .error e => .error e
  | .ok (x, r) => match need 41 r with
    | .error e => .error (3, e)
    | .ok r' => .ok (x, r')
def rdOp (O E : List UInt8 → RdE) (l : List UInt8) : RdE :=
  if l.head? = some 40 then rdBr E l else if l.head? = some 35 then rdOne O [35] 1 l
  else if l.head? = some 34 then rdVal Z l (quAh l)
  else if numAh l ≠ [] then rdVal Z l (numAh l)
  else if l.head? = some 45 then rdOne O [110, 101, 103] 1 l
  else rdWd Z O l
def rdLp (E : Int → List UInt8 → RdE) (least : Int) : Nat → Ex → List UInt8 → RdE
  | 0, _, l => .error (0, l)
  | m + 1, x, l =>
    if lvl (opAh l) < least then .ok (x, l)
    else match E (lvl (opAh l) + 1) (skB (l.drop (opAh l).length)) with
      | .error e => .error e
      | .ok (y, r) => rdLp E least m ⟨3, bs (opAh l), 0, 0, ⟨#[]⟩, [x, y]⟩ r
/-- none: an operand; some least: an expression -/
def rdX : Nat → Option Int → List UInt8 → RdE
  | 0, _, l => .error (0, l)
  | n + 1, none, l => rdOp Z (rdX n none) (rdX n (some 1)) l
  | n + 1, some least, l =>
    match rdX n none l with
    | .error e => .error e
    | .ok (x, r) => rdLp (fun k => rdX n (some k)) least n x r
end

/- a blank behind -/
/-- what begins no operator and no blank -/
def Stp (t : List UInt8) : Prop := t = [] ∨ t.head? = some 41
def ap (l t : List UInt8) : List UInt8 := if l = [] then t else l ++ 32 :: t
theorem ap_nil (t : List UInt8) : ap [] t = t := if_pos rfl
theorem ap_cons (c : UInt8) (l t : List UInt8) : ap (c :: l) t = c :: l ++ 32 :: t := if_neg (by simp)
theorem stp_sk (t : List UInt8) (h : Stp t) : skB t = t := by
  rcases h with rfl | h
  · rfl
  · cases t with
    | nil => rfl
    | cons c t => simp at h; subst h; exact skB_cons 41 t (by decide)
theorem skB_32 (l : List UInt8) : skB (32 :: l) = skB l := by have := skB_rep 1 l; simpa using this
theorem skB_ap (t : List UInt8) (h : Stp t) : ∀ l, skB (l ++ 32 :: t) = ap (skB l) t
  | [] => by rw [List.nil_append, skB_32, stp_sk t h, show skB [] = [] from rfl, ap_nil]
  | c :: l => by
    by_cases hc : c = 32
    · subst hc; rw [List.cons_append, skB_32, skB_32]; exact skB_ap t h l
    · rw [List.cons_append, skB_cons c _ hc, skB_cons c _ hc, ap_cons]; rfl
theorem lead_ap (p : UInt8 → Bool) (hp : p 32 = false) (t : List UInt8) : ∀ l, lead p (l ++ 32 :: t) = lead p l
  | [] => by simp [lead, hp]
  | c :: l => by rw [List.cons_append]; unfold lead; rw [lead_ap p hp t l]
theorem wd_ap (l t : List UInt8) : wd (l ++ 32 :: t) = wd l := by
  unfold wd
  rw [lead_ap isLow (by decide), List.take_append_of_le_length (lead_le _ _)]
theorem pre_ap (t : List UInt8) : ∀ (o l : List UInt8), 32 ∉ o → o.isPrefixOf (l ++ 32 :: t) = o.isPrefixOf l
  | [], l, _ => by simp
  | c :: o, [], h => by
    simp only [List.nil_append, List.isPrefixOf]
    have : (c == 32) = false := by rw [beq_eq_false_iff_ne]; rintro rfl; simp at h
    rw [this]; rfl
  | c :: o, d :: l, h => by
    simp only [List.cons_append, List.isPrefixOf]
    rw [pre_ap t o l (by simp at h; exact h.2)]
theorem sgs_32 : ∀ o ∈ sgs, 32 ∉ o := by decide
theorem find_eq (p q : List UInt8 → Bool) : ∀ L : List (List UInt8), (∀ o ∈ L, p o = q o) → L.find? p = L.find? q
  | [], _ => rfl
  | a :: L, h => by rw [List.find?_cons, List.find?_cons, h a (by simp), find_eq p q L (fun o ho => h o (by simp [ho]))]
theorem opAh_app (l t : List UInt8) : opAh (l ++ 32 :: t) = opAh l := by
  unfold opAh
  rw [wd_ap, find_eq _ (fun o => o.isPrefixOf l) sgs (fun o ho => pre_ap t o l (sgs_32 o ho))]
theorem opAh_nil : opAh [] = [] := by decide
theorem opAh_stp (t : List UInt8) (h : Stp t) : opAh t = [] := by
  rcases h with rfl | h
  · exact opAh_nil
  · cases t with
    | nil => exact opAh_nil
    | cons c t =>
      simp at h; subst h
      have hw : wd (41 :: t) = [] := by unfold wd lead; rw [if_neg (by decide)]; rfl
      unfold opAh
      rw [hw]
      simp [sgs, List.find?, List.isPrefixOf]
theorem opAh_ap (l t : List UInt8) (h : Stp t) : opAh (ap l t) = opAh l := by
  cases l with
  | nil => rw [ap_nil, opAh_stp t h, opAh_nil]
  | cons c l => rw [ap_cons, opAh_app]
theorem opAh_len (l : List UInt8) : (opAh l).length ≤ l.length := by
  unfold opAh
  split
  · rename_i h; have := wd_le l; rw [h] at this; exact this
  · split
    · rename_i h; have := wd_le l; rw [h] at this; exact this
    · cases hf : sgs.find? fun o => o.isPrefixOf l with
      | none => simp
      | some o => have := List.find?_some hf; rw [List.isPrefixOf_iff_prefix] at this; exact this.length_le
theorem sg1_app (l t : List UInt8) : sg1 (l ++ 32 :: t) = sg1 l := by
  unfold sg1; cases l <;> simp
theorem sg1_le (l : List UInt8) : sg1 l ≤ l.length := by
  unfold sg1; cases l with
  | nil => simp
  | cons c l => split <;> simp
theorem drop_app (n : Nat) (l t : List UInt8) (h : n ≤ l.length) : (l ++ t).drop n = l.drop n ++ t := by rw [List.drop_append_of_le_length h]
theorem num_len (l : List UInt8) : sg1 l + lead isDig (l.drop (sg1 l)) ≤ l.length := by
  have h1 := lead_le isDig (l.drop (sg1 l))
  have h2 := sg1_le l
  rw [List.length_drop] at h1
  omega
theorem numAh_app (l t : List UInt8) : numAh (l ++ 32 :: t) = numAh l := by
  unfold numAh
  rw [sg1_app, drop_app _ _ _ (sg1_le l), lead_ap isDig (by decide), List.take_append_of_le_length (num_len l)]
theorem qlen_le : ∀ l, qlen l ≤ l.length
  | [] => by simp [qlen]
  | [_] => by simp [qlen]
  | c :: d :: l => by
    unfold qlen
    have h1 := qlen_le l
    have h2 := qlen_le (d :: l)
    simp only [List.length_cons] at h2 ⊢
    split
    · omega
    · split <;> omega
theorem qlen_app (m : List UInt8) : ∀ l, quE l = true → qlen (l ++ m) = qlen l
  | [], h => by simp [quE] at h
  | [c], h => by
    simp [quE] at h; subst h
    cases m <;> simp [qlen]
  | c :: d :: l, h => by
    unfold quE at h
    simp only [List.cons_append]
    unfold qlen
    split
    · rfl
    · rename_i h1; rw [if_neg h1] at h
      split
      · rename_i h2; rw [if_pos h2] at h; rw [qlen_app m l h]
      · rename_i h2; rw [if_neg h2] at h
        have := qlen_app m (d :: l) h
        rw [List.cons_append] at this
        rw [this]
theorem quAh_len (l : List UInt8) : 1 ≤ l.length → 1 + qlen (l.drop 1) ≤ l.length := fun h => by
  have := qlen_le (l.drop 1); rw [List.length_drop] at this; omega
theorem quAh_app (l m : List UInt8) (h1 : 1 ≤ l.length) (h : quE (l.drop 1) = true) : quAh (l ++ m) = quAh l := by
  unfold quAh
  rw [drop_app 1 l m h1, qlen_app m _ h, List.take_append_of_le_length (quAh_len l h1)]
end Go.Proofs.YtipolobikigmbaaGreatDoor
