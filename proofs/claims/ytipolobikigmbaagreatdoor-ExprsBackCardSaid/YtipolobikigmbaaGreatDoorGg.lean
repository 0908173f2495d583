/-
  What is left behind a reading of an expression is no longer than what was there.
-/
import Derived.Test.YtipolobikigmbaaGreatDoorGa
import Derived.Test.YtipolobikigmbaaGreatDoorGc
namespace Go.Proofs.YtipolobikigmbaaGreatDoor
open Go.RowKit Go.Shelf
theorem skB_len_le (l : List UInt8) (n : Nat) : (skB (l.drop n)).length ≤ l.length := by
  unfold skB
  rw [List.length_drop, List.length_drop]
  omega
theorem need_len {c : UInt8} {l r : List UInt8} (h : need c l = .ok r) : r.length ≤ l.length := by
  unfold need at h
  split at h
  · injection h with h; subst h; exact skB_len_le l 1
  · cases h
/-- no longer -/
def Sh (f : List UInt8 → RdE) : Prop := ∀ l x r, f l = .ok (x, r) → r.length ≤ l.length
section
variable (Z : List UInt8 → Int × Int × List UInt8 × Int)
theorem rdVal_sh (l p : List UInt8) (x : Ex) (r : List UInt8) (h : rdVal Z l p = .ok (x, r)) : r.length ≤ l.length := by
  unfold rdVal at h
  split at h
  · injection h with h; injection h with h1 h2; subst h2; exact skB_len_le l _
  · cases h
theorem rdOne_sh {O : List UInt8 → RdE} (hO : Sh O) (op : List UInt8) (n : Nat) : Sh (rdOne O op n) := by
  intro l x r h
  unfold rdOne at h
  split at h
  · cases h
  · rename_i y r' hy
    injection h with h; injection h with h1 h2; subst h2
    exact Nat.le_trans (hO _ _ _ hy) (skB_len_le l n)
theorem rdWd_sh {O : List UInt8 → RdE} (hO : Sh O) : Sh (rdWd Z O) := by
  intro l x r h
  unfold rdWd at h
  split at h
  · exact rdVal_sh Z l _ x r h
  · split at h
    · exact rdOne_sh hO _ _ l x r h
    · split at h
      · injection h with h; injection h with h1 h2; subst h2; exact skB_len_le l _
      · cases h
theorem rdBr_sh {E : List UInt8 → RdE} (hE : Sh E) : Sh (rdBr E) := by
  intro l x r h
  unfold rdBr at h
  split at h
  · cases h
  · rename_i y r' hy
    split at h
    · cases h
    · rename_i r2 hr2
      injection h with h; injection h with h1 h2; subst h2
      exact Nat.le_trans (need_len hr2) (Nat.le_trans (hE _ _ _ hy) (skB_len_le l 1))
theorem rdOp_sh {O E : List UInt8 → RdE} (hO : Sh O) (hE : Sh E) : Sh (rdOp Z O E) := by
  intro l x r h
  unfold rdOp at h
  split at h
  · exact rdBr_sh hE l x r h
  · split at h
    · exact rdOne_sh hO _ _ l x r h
    · split at h
      · exact rdVal_sh Z l _ x r h
      · split at h
        · exact rdVal_sh Z l _ x r h
        · split at h
          · exact rdOne_sh hO _ _ l x r h
          · exact rdWd_sh Z hO l x r h
theorem rdLp_sh {E : Int → List UInt8 → RdE} (hE : ∀ k, Sh (E k)) (least : Int) : ∀ (m : Nat) (x : Ex), Sh (rdLp E least m x)
  | 0, _ => fun l x r h => by cases h
  | m + 1, y => fun l x r h => by
    unfold rdLp at h
    split at h
    · injection h with h; injection h with h1 h2; subst h2; exact Nat.le_refl _
    · split at h
      · cases h
      · rename_i z r' hz
        exact Nat.le_trans (rdLp_sh hE least m _ r' x r h) (Nat.le_trans (hE _ _ _ _ hz) (skB_len_le l _))
theorem rdX_sh : ∀ (n : Nat) (k : Option Int), Sh (rdX Z n k)
  | 0, _ => fun l x r h => by cases h
  | n + 1, none => fun l x r h => rdOp_sh Z (rdX_sh n none) (rdX_sh n (some 1)) l x r h
  | n + 1, some least => fun l x r h => by
    unfold rdX at h
    split at h
    · cases h
    · rename_i y r' hy
      exact Nat.le_trans (rdLp_sh (fun k => rdX_sh n (some k)) least n y r' x r h) (rdX_sh n none _ _ _ hy)
end
theorem rdX_le {Z : List UInt8 → Int × Int × List UInt8 × Int} (n : Nat) (k : Option Int) (l : List UInt8) (x : Ex) (r : List UInt8) (h : rdX Z n k l = .ok (x, r)) : r.length ≤ l.length := rdX_sh Z n k l x r h
end Go.Proofs.YtipolobikigmbaaGreatDoor
/-
  A reading of an expression with enough fuel does not run out of it, and comes to the same with any more.
-/
namespace Go.Proofs.YtipolobikigmbaaGreatDoor
open Go.RowKit Go.Shelf
theorem opAh_lvl (l : List UInt8) (k : Int) (h1 : 1 ≤ k) (h : ¬ lvl (opAh l) < k) : 1 ≤ (opAh l).length ∧ lvl (opAh l) ≤ 5 := by
  unfold opAh at h ⊢
  by_cases a1 : wd l = [111, 114]
  · rw [if_pos a1]; exact ⟨by decide, by decide⟩
  · rw [if_neg a1] at h ⊢
    by_cases a2 : wd l = [97, 110, 100]
    · rw [if_pos a2]; exact ⟨by decide, by decide⟩
    · rw [if_neg a2] at h ⊢
      cases hf : sgs.find? fun o => o.isPrefixOf l with
      | none =>
        rw [hf] at h
        have h0 : lvl [] = 0 := by decide
        exact absurd (show lvl [] < k by omega) h
      | some o =>
        have hm := List.mem_of_find?_eq_some hf
        have : ∀ o ∈ sgs, 1 ≤ o.length ∧ lvl o ≤ 5 := by decide
        exact this o hm
theorem opAh_le100 (l : List UInt8) : (opAh l).length ≤ 100 := by
  unfold opAh
  split
  · decide
  · split
    · decide
    · cases hf : sgs.find? fun o => o.isPrefixOf l with
      | none => decide
      | some o =>
        have : ∀ o ∈ sgs, o.length ≤ 100 := by decide
        exact this o (List.mem_of_find?_eq_some hf)
/-- what does not run out of fuel -/
def nf (X : RdE) : Prop := ∀ r, X ≠ .error (0, r)
def Lz (f g : List UInt8 → RdE) : Prop := ∀ l, nf (f l) → g l = f l
section
variable (Z : List UInt8 → Int × Int × List UInt8 × Int)
theorem rdOne_lz {O O' : List UInt8 → RdE} (h : Lz O O') (op : List UInt8) (n : Nat) : Lz (rdOne O op n) (rdOne O' op n) := by
  intro l hl
  unfold rdOne at hl ⊢
  have hO : nf (O (skB (l.drop n))) := fun r hr => hl r (by rw [hr])
  rw [h _ hO]
theorem rdBr_lz {E E' : List UInt8 → RdE} (h : Lz E E') : Lz (rdBr E) (rdBr E') := by
  intro l hl
  unfold rdBr at hl ⊢
  have hO : nf (E (skB (l.drop 1))) := fun r hr => hl r (by rw [hr])
  rw [h _ hO]
theorem rdWd_lz {O O' : List UInt8 → RdE} (h : Lz O O') : Lz (rdWd Z O) (rdWd Z O') := by
  intro l hl
  unfold rdWd at hl ⊢
  by_cases h1 : wd l = [116, 114, 117, 101] ∨ wd l = [102, 97, 108, 115, 101]
  · simp only [if_pos h1]
  · simp only [if_neg h1] at hl ⊢
    by_cases h2 : wd l = [110, 111, 116]
    · simp only [if_pos h2] at hl ⊢
      exact rdOne_lz h _ _ l hl
    · simp only [if_neg h2]
theorem rdOp_lz {O O' E E' : List UInt8 → RdE} (hO : Lz O O') (hE : Lz E E') : Lz (rdOp Z O E) (rdOp Z O' E') := by
  intro l hl
  unfold rdOp at hl ⊢
  by_cases h1 : l.head? = some 40
  · simp only [if_pos h1] at hl ⊢; exact rdBr_lz hE l hl
  simp only [if_neg h1] at hl ⊢
  by_cases h2 : l.head? = some 35
  · simp only [if_pos h2] at hl ⊢; exact rdOne_lz hO _ _ l hl
  simp only [if_neg h2] at hl ⊢
  by_cases h3 : l.head? = some 34
  · simp only [if_pos h3]
  simp only [if_neg h3] at hl ⊢
  by_cases h4 : numAh l ≠ []
  · simp only [if_pos h4]
  simp only [if_neg h4] at hl ⊢
  by_cases h5 : l.head? = some 45
  · simp only [if_pos h5] at hl ⊢; exact rdOne_lz hO _ _ l hl
  simp only [if_neg h5] at hl ⊢
  exact rdWd_lz Z hO l hl
theorem rdLp_lz {E E' : Int → List UInt8 → RdE} (h : ∀ k, Lz (E k) (E' k)) (least : Int) : ∀ (m : Nat) (x : Ex), Lz (rdLp E least m x) (rdLp E' least (m + 1) x)
  | 0, x => fun l hl => absurd rfl (hl l)
  | m + 1, x => fun l hl => by
    rw [show rdLp E' least (m + 1 + 1) x l = (if lvl (opAh l) < least then .ok (x, l) else match E' (lvl (opAh l) + 1) (skB (l.drop (opAh l).length)) with | .error e => .error e | .ok (y, r) => rdLp E' least (m + 1) ⟨3, bs (opAh l), 0, 0, ⟨#[]⟩, [x, y]⟩ r) from rfl]
    unfold rdLp at hl ⊢
    by_cases h1 : lvl (opAh l) < least
    · simp only [if_pos h1]
    · simp only [if_neg h1] at hl ⊢
      have hO : nf (E (lvl (opAh l) + 1) (skB (l.drop (opAh l).length))) := fun r hr => hl r (by rw [hr])
      rw [h _ _ hO]
      cases hx : E (lvl (opAh l) + 1) (skB (l.drop (opAh l).length)) with
      | error e => rfl
      | ok v =>
        obtain ⟨y, r⟩ := v
        simp only [hx] at hl
        exact rdLp_lz h least m _ r hl
theorem rdX_lz : ∀ (n : Nat) (k : Option Int), Lz (rdX Z n k) (rdX Z (n + 1) k)
  | 0, _ => fun l hl => absurd rfl (hl l)
  | n + 1, none => fun l hl => rdOp_lz Z (rdX_lz n none) (rdX_lz n (some 1)) l hl
  | n + 1, some least => fun l hl => by
    rw [show rdX Z (n + 1 + 1) (some least) l = (match rdX Z (n + 1) none l with | .error e => .error e | .ok (x, r) => rdLp (fun k => rdX Z (n + 1) (some k)) least (n + 1) x r) from rfl]
    have e1 : rdX Z (n + 1) (some least) l = (match rdX Z n none l with | .error e => .error e | .ok (x, r) => rdLp (fun k => rdX Z n (some k)) least n x r) := rfl
    rw [e1] at hl ⊢
    have hO : nf (rdX Z n none l) := fun r hr => hl r (by rw [hr])
    rw [rdX_lz n none l hO]
    cases hx : rdX Z n none l with
    | error e => rfl
    | ok v =>
      obtain ⟨y, r⟩ := v
      simp only [hx] at hl
      exact rdLp_lz (fun k => rdX_lz n (some k)) least n y r hl
theorem rdX_fix (n : Nat) (k : Option Int) (l : List UInt8) (h : nf (rdX Z n k l)) : ∀ j, rdX Z (n + j) k l = rdX Z n k l
  | 0 => rfl
  | j + 1 => by
    have ih := rdX_fix n k l h j
    have := rdX_lz Z (n + j) k l (by rw [ih]; exact h)
    rw [show n + (j + 1) = n + j + 1 from rfl, this, ih]
theorem rdVal_nf (l p : List UInt8) : nf (rdVal Z l p) := by
  intro r h
  unfold rdVal at h
  split at h
  · cases h
  · rename_i hz
    injection h with h
    injection h with h1 h2
    exact hz h1
theorem need_nf {l : List UInt8} (x : Ex) : nf (match need 41 l with | .error e => .error (3, e) | .ok r' => .ok (x, r')) := by
  intro r h
  split at h
  · injection h with h; injection h with h1; omega
  · cases h
theorem rdOne_nf {O : List UInt8 → RdE} {op : List UInt8} {n : Nat} {l : List UInt8} (h : nf (O (skB (l.drop n)))) : nf (rdOne O op n l) := by
  intro r hr
  unfold rdOne at hr
  split at hr
  · rename_i e he
    injection hr with hr
    subst hr
    exact h r he
  · cases hr
theorem rdBr_nf {E : List UInt8 → RdE} {l : List UInt8} (h : nf (E (skB (l.drop 1)))) : nf (rdBr E l) := by
  intro r hr
  unfold rdBr at hr
  split at hr
  · rename_i e he
    injection hr with hr
    subst hr
    exact h r he
  · exact need_nf _ r hr
theorem rdX_nf : ∀ (n : Nat), (∀ l, 2 * l.length + 1 < n → nf (rdX Z n none l)) ∧ (∀ k l, 1 ≤ k → 2 * l.length + 2 < n → nf (rdX Z n (some k) l))
  | 0 => ⟨fun l h => absurd h (Nat.not_lt_zero _), fun k l _ h => absurd h (Nat.not_lt_zero _)⟩
  | n + 1 => by
    obtain ⟨ih1, ih2⟩ := rdX_nf n
    constructor
    · intro l hl
      show nf (rdOp Z (rdX Z n none) (rdX Z n (some 1)) l)
      unfold rdOp
      have h1 : ∀ c, l.head? = some c → 2 * (skB (l.drop 1)).length + 2 < n := fun c hc => by
        have := skd_len 1 l (head_pos _ _ hc); omega
      split
      · rename_i hc; exact rdBr_nf (ih2 1 _ (by decide) (h1 _ hc))
      split
      · rename_i hc; exact rdOne_nf (ih1 _ (by have := h1 _ hc; omega))
      split
      · exact rdVal_nf Z _ _
      split
      · exact rdVal_nf Z _ _
      split
      · rename_i hc; exact rdOne_nf (ih1 _ (by have := h1 _ hc; omega))
      unfold rdWd
      split
      · exact rdVal_nf Z _ _
      split
      · rename_i hc
        have h3 : 3 ≤ l.length := by have := wd_le l; rw [hc] at this; exact this
        exact rdOne_nf (ih1 _ (by have := skd_len 3 l h3; omega))
      split
      · intro r h; cases h
      · intro r h; injection h with h; injection h with h1; omega
    · intro k l hk hl
      have h0 := ih1 l (by omega)
      intro r hr
      unfold rdX at hr
      split at hr
      · rename_i e he
        injection hr with hr; subst hr
        exact h0 r he
      · rename_i x r' hx
        have hle := rdX_le n none l x r' hx
        have hm : ∀ (m : Nat) (x : Ex) (l' : List UInt8), l'.length < m → 2 * l'.length + 1 < n → nf (rdLp (fun k => rdX Z n (some k)) k m x l') := by
          intro m
          induction m with
          | zero => intro x l' h _; exact absurd h (Nat.not_lt_zero _)
          | succ m ih =>
            intro x l' h1 h2 r hr
            unfold rdLp at hr
            split at hr
            · cases hr
            · rename_i hlv
              have ho := opAh_lvl l' k hk hlv
              have hs := skd_len (opAh l').length l' (opAh_len l')
              split at hr
              · rename_i e he
                injection hr with hr; subst hr
                exact ih2 _ _ (by omega) (by omega) r he
              · rename_i y r2 hy
                have hle2 := rdX_le n _ _ y r2 hy
                exact ih _ r2 (by omega) (by omega) r hr
        exact hm n x r' (by omega) (by omega) r hr
/-- with enough fuel it comes to what it comes to with any -/
theorem rdX_down (n m : Nat) (k : Int) (l : List UInt8) (v : Ex × List UInt8) (hk : 1 ≤ k) (hn : 2 * l.length + 2 < n) (h : rdX Z m (some k) l = .ok v) : rdX Z n (some k) l = .ok v := by
  by_cases hnm : n ≤ m
  · obtain ⟨j, rfl⟩ := Nat.exists_eq_add_of_le hnm
    rw [rdX_fix Z n (some k) l ((rdX_nf Z n).2 k l hk hn) j] at h
    exact h
  · exact rdX_more Z m (some k) l v h n (by omega)
end
end Go.Proofs.YtipolobikigmbaaGreatDoor
