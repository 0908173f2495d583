/-
  What is read of an expression stays, with a blank and a bracket (or nothing) behind: Z is what a value's text comes to; a text that has no mark at its end is none.
-/
import Derived.Test.YtipolobikigmbaaGreatDoorGa
namespace Go.Proofs.YtipolobikigmbaaGreatDoor
open Go.RowKit Go.Shelf
/-- a text without its mark is no value -/
def ZQ (Z : List UInt8 → Int × Int × List UInt8 × Int) : Prop := ∀ l, l.head? = some 34 → (Z (quAh l)).2.2.2 = 0 → quE (l.drop 1) = true
section
variable (Z : List UInt8 → Int × Int × List UInt8 × Int)
def Keeps (t : List UInt8) (R : List UInt8 → RdE) : Prop := ∀ l x r, R l = .ok (x, r) → R (ap l t) = .ok (x, ap r t)
theorem ap_ne {l : List UInt8} (t : List UInt8) (h : 1 ≤ l.length) : ap l t = l ++ 32 :: t := if_neg (by rintro rfl; simp at h)
theorem sk_ap (t : List UInt8) (h : Stp t) (n : Nat) (l : List UInt8) (hn : n ≤ l.length) : skB ((l ++ 32 :: t).drop n) = ap (skB (l.drop n)) t := by
  rw [drop_app n l _ hn, skB_ap t h]
theorem val_ap (t : List UInt8) (h : Stp t) (l p : List UInt8) (x : Ex) (r : List UInt8) (hn : p.length ≤ l.length) (hr : rdVal Z l p = .ok (x, r)) : rdVal Z (l ++ 32 :: t) p = .ok (x, ap r t) := by
  unfold rdVal at hr ⊢
  split at hr
  · rename_i hz
    rw [if_pos hz, sk_ap t h _ l hn]
    injection hr with hr; injection hr with h1 h2
    subst h1 h2; rfl
  · cases hr
theorem one_ap (t : List UInt8) (h : Stp t) (O : List UInt8 → RdE) (hO : Keeps t O) (op : List UInt8) (n : Nat) (l : List UInt8) (x : Ex) (r : List UInt8) (hn : n ≤ l.length) (hr : rdOne O op n l = .ok (x, r)) : rdOne O op n (l ++ 32 :: t) = .ok (x, ap r t) := by
  unfold rdOne at hr ⊢
  rw [sk_ap t h _ l hn]
  split at hr
  · cases hr
  · rename_i y r' he
    rw [hO _ _ _ he]
    injection hr with hr; injection hr with h1 h2
    subst h1 h2; rfl
theorem wd_ap' (t : List UInt8) (h : Stp t) (O : List UInt8 → RdE) (hO : Keeps t O) (l : List UInt8) (x : Ex) (r : List UInt8) (hr : rdWd Z O l = .ok (x, r)) : rdWd Z O (l ++ 32 :: t) = .ok (x, ap r t) := by
  unfold rdWd at hr ⊢
  rw [wd_ap]
  split at hr
  · rename_i h1; rw [if_pos h1]; exact val_ap Z t h l _ x r (wd_le l) hr
  · rename_i h1; rw [if_neg h1]
    split at hr
    · rename_i h2; rw [if_pos h2]; exact one_ap t h O hO _ _ l x r (by have := wd_le l; rw [h2] at this; exact this) hr
    · rename_i h2; rw [if_neg h2]
      split at hr
      · rename_i h3; rw [if_pos h3, sk_ap t h _ l (wd_le l)]
        injection hr with hr; injection hr with h1 h2
        subst h1 h2; rfl
      · cases hr
theorem need_ap (t : List UInt8) (h : Stp t) (c : UInt8) (l r : List UInt8) (hr : need c l = .ok r) : need c (ap l t) = .ok (ap r t) := by
  obtain ⟨h1, h2, _⟩ := need_ok hr
  have hp := head_pos l c h1
  rw [ap_ne t hp]
  unfold need
  rw [if_pos (by cases l with | nil => simp at hp | cons d l => simpa using h1), sk_ap t h 1 l hp, h2]
theorem br_ap (t : List UInt8) (h : Stp t) (E : List UInt8 → RdE) (hE : Keeps t E) (l : List UInt8) (x : Ex) (r : List UInt8) (hn : 1 ≤ l.length) (hr : rdBr E l = .ok (x, r)) : rdBr E (l ++ 32 :: t) = .ok (x, ap r t) := by
  unfold rdBr at hr ⊢
  rw [sk_ap t h _ l hn]
  split at hr
  · cases hr
  · rename_i y r' he
    rw [hE _ _ _ he]
    dsimp only
    split at hr
    · cases hr
    · rename_i r2 hn2
      rw [need_ap t h 41 _ _ hn2]
      injection hr with hr; injection hr with h1 h2
      subst h1 h2; rfl
theorem rdOp_nil (O E : List UInt8 → RdE) (x : Ex) (r : List UInt8) (hr : rdOp Z O E [] = .ok (x, r)) : False := by
  unfold rdOp at hr
  rw [if_neg (by simp), if_neg (by simp), if_neg (by simp), if_neg (by decide), if_neg (by simp)] at hr
  unfold rdWd at hr
  rw [if_neg (by decide), if_neg (by decide), if_neg (by decide)] at hr
  cases hr
theorem op_ap (hZ : ZQ Z) (t : List UInt8) (h : Stp t) (O E : List UInt8 → RdE) (hO : Keeps t O) (hE : Keeps t E) : Keeps t (rdOp Z O E) := by
  intro l x r hr
  cases l with
  | nil => exact (rdOp_nil Z O E x r hr).elim
  | cons c l =>
    have hp : 1 ≤ (c :: l).length := by simp
    rw [ap_ne t hp]
    have hh : (c :: l ++ 32 :: t).head? = (c :: l).head? := rfl
    generalize c :: l = m at *
    unfold rdOp at hr ⊢
    rw [hh, numAh_app]
    split at hr
    · rename_i h1; rw [if_pos h1]; exact br_ap t h E hE m x r hp hr
    · rename_i h1; rw [if_neg h1]
      split at hr
      · rename_i h2; rw [if_pos h2]; exact one_ap t h O hO _ _ m x r hp hr
      · rename_i h2; rw [if_neg h2]
        split at hr
        · rename_i h3; rw [if_pos h3]
          have hq : quE (m.drop 1) = true := by
            apply hZ m h3
            unfold rdVal at hr
            split at hr
            · assumption
            · cases hr
          rw [quAh_app m _ hp hq]
          exact val_ap Z t h m _ x r (by unfold quAh; rw [List.length_take]; omega) hr
        · rename_i h3; rw [if_neg h3]
          split at hr
          · rename_i h4; rw [if_pos h4]; exact val_ap Z t h m _ x r (by unfold numAh; split; simp; rw [List.length_take]; omega) hr
          · rename_i h4; rw [if_neg h4]
            split at hr
            · rename_i h5; rw [if_pos h5]; exact one_ap t h O hO _ _ m x r hp hr
            · rename_i h5; rw [if_neg h5]; exact wd_ap' Z t h O hO m x r hr
theorem lp_ap (t : List UInt8) (h : Stp t) (E : Int → List UInt8 → RdE) (hE : ∀ k, 1 ≤ k → Keeps t (E k)) (least : Int) (hl : 1 ≤ least) : ∀ (m : Nat) (x : Ex) (l : List UInt8) (y : Ex) (r : List UInt8), rdLp E least m x l = .ok (y, r) → rdLp E least m x (ap l t) = .ok (y, ap r t)
  | 0, x, l, y, r, hr => by unfold rdLp at hr; cases hr
  | m + 1, x, l, y, r, hr => by
    unfold rdLp at hr ⊢
    rw [opAh_ap l t h]
    split at hr
    · rename_i h1; rw [if_pos h1]
      injection hr with hr; injection hr with h1 h2
      subst h1 h2; rfl
    · rename_i h1; rw [if_neg h1]
      have hp : 1 ≤ l.length := by
        cases l with
        | nil => exact (h1 (by rw [opAh_nil]; show lvl [] < least; have : lvl [] = 0 := by decide
                               omega)).elim
        | cons c l => simp
      rw [ap_ne t hp, sk_ap t h _ l (opAh_len l)]
      split at hr
      · cases hr
      · rename_i z r2 he
        rw [hE _ (by omega) _ _ _ he]
        exact lp_ap t h E hE least hl m _ r2 y r hr
theorem rdX_ap (hZ : ZQ Z) (t : List UInt8) (h : Stp t) : ∀ (n : Nat), Keeps t (rdX Z n none) ∧ ∀ k, 1 ≤ k → Keeps t (rdX Z n (some k))
  | 0 => ⟨(fun l x r hr => by rw [rdX] at hr; cases hr), (fun k _ l x r hr => by rw [rdX] at hr; cases hr)⟩
  | n + 1 => by
    obtain ⟨hO, hE⟩ := rdX_ap hZ t h n
    refine ⟨?_, ?_⟩
    · intro l x r hr
      rw [rdX] at hr ⊢
      exact op_ap Z hZ t h _ _ hO (hE 1 (by omega)) l x r hr
    · intro k hk l x r hr
      rw [rdX] at hr ⊢
      split at hr
      · cases hr
      · rename_i y r2 he
        rw [hO _ _ _ he]
        exact lp_ap t h _ (fun k' hk' => hE k' hk') k hk n y r2 x r hr
end
end Go.Proofs.YtipolobikigmbaaGreatDoor
/-
  More fuel reads the same; brackets around what is read.
-/
namespace Go.Proofs.YtipolobikigmbaaGreatDoor
open Go.RowKit Go.Shelf
section
variable (Z : List UInt8 → Int × Int × List UInt8 × Int)
/-- what one reads the other reads -/
def Lq (R S : List UInt8 → RdE) : Prop := ∀ l v, R l = .ok v → S l = .ok v
theorem one_lq {O P : List UInt8 → RdE} (h : Lq O P) (op : List UInt8) (n : Nat) : Lq (rdOne O op n) (rdOne P op n) := by
  intro l v hv
  unfold rdOne at hv ⊢
  split at hv
  · cases hv
  · rename_i x r he; rw [h _ _ he]; exact hv
theorem wd_lq {O P : List UInt8 → RdE} (h : Lq O P) : Lq (rdWd Z O) (rdWd Z P) := by
  intro l v hv
  unfold rdWd at hv ⊢
  split at hv
  · rename_i h1; rw [if_pos h1]; exact hv
  · rename_i h1; rw [if_neg h1]
    split at hv
    · rename_i h2; rw [if_pos h2]; exact one_lq h _ _ _ _ hv
    · rename_i h2; rw [if_neg h2]; exact hv
theorem br_lq {O P : List UInt8 → RdE} (h : Lq O P) : Lq (rdBr O) (rdBr P) := by
  intro l v hv
  unfold rdBr at hv ⊢
  split at hv
  · cases hv
  · rename_i x r he; rw [h _ _ he]; exact hv
theorem op_lq {O P E F : List UInt8 → RdE} (h : Lq O P) (hE : Lq E F) : Lq (rdOp Z O E) (rdOp Z P F) := by
  intro l v hv
  unfold rdOp at hv ⊢
  split at hv
  · rename_i h1; rw [if_pos h1]; exact br_lq hE _ _ hv
  · rename_i h1; rw [if_neg h1]
    split at hv
    · rename_i h2; rw [if_pos h2]; exact one_lq h _ _ _ _ hv
    · rename_i h2; rw [if_neg h2]
      split at hv
      · rename_i h3; rw [if_pos h3]; exact hv
      · rename_i h3; rw [if_neg h3]
        split at hv
        · rename_i h4; rw [if_pos h4]; exact hv
        · rename_i h4; rw [if_neg h4]
          split at hv
          · rename_i h5; rw [if_pos h5]; exact one_lq h _ _ _ _ hv
          · rename_i h5; rw [if_neg h5]; exact wd_lq Z h _ _ hv
theorem lp_lq {E F : Int → List UInt8 → RdE} (h : ∀ k, Lq (E k) (F k)) (least : Int) : ∀ (m : Nat) (x : Ex) (l : List UInt8) (v : Ex × List UInt8), rdLp E least m x l = .ok v → rdLp F least (m + 1) x l = .ok v
  | 0, x, l, v, hv => by rw [rdLp] at hv; cases hv
  | m + 1, x, l, v, hv => by
    rw [rdLp] at hv ⊢
    split at hv
    · rename_i h1; rw [if_pos h1]; exact hv
    · rename_i h1; rw [if_neg h1]
      split at hv
      · cases hv
      · rename_i y r he
        rw [h _ _ _ he]
        exact lp_lq h least m _ r v hv
theorem rdX_lq : ∀ (n : Nat) (k : Option Int), Lq (rdX Z n k) (rdX Z (n + 1) k)
  | 0, k => fun l v hv => by rw [rdX] at hv; cases hv
  | n + 1, none => fun l v hv => by
    rw [rdX] at hv ⊢
    exact op_lq Z (rdX_lq n none) (rdX_lq n (some 1)) l v hv
  | n + 1, some k => fun l v hv => by
    rw [rdX] at hv ⊢
    split at hv
    · cases hv
    · rename_i x r he
      rw [rdX_lq n none _ _ he]
      exact lp_lq (fun k' => rdX_lq n (some k')) k n x r v hv
theorem rdX_more (n : Nat) (k : Option Int) (l : List UInt8) (v : Ex × List UInt8) (hv : rdX Z n k l = .ok v) : ∀ m, n ≤ m → rdX Z m k l = .ok v := by
  intro m hm
  obtain ⟨d, rfl⟩ := Nat.exists_eq_add_of_le hm
  clear hm
  induction d with
  | zero => exact hv
  | succ d ih => exact rdX_lq Z (n + d) k l v ih
/-- what is within brackets: its fuel grows by two with every bracket -/
theorem rdX_br (n : Nat) (l : List UInt8) (x : Ex) (t : List UInt8) (h : Stp (skB t)) (hv : rdX Z n (some 1) (skB l) = .ok (x, 41 :: t)) : rdX Z (n + 2) (some 1) (40 :: l) = .ok (x, skB t) := by
  have h1 : rdX Z (n + 1) none (40 :: l) = .ok (x, skB t) := by
    rw [rdX]
    unfold rdOp
    rw [if_pos (by simp)]
    unfold rdBr
    simp only [List.drop_succ_cons, List.drop_zero]
    rw [hv]
    simp [need]
  show rdX Z (n + 1 + 1) (some 1) _ = _
  rw [rdX, h1]
  show rdLp _ 1 (n + 1) x _ = _
  rw [rdLp, opAh_stp _ h, if_pos (by decide)]
theorem rep_41 (k : Nat) : Stp (skB (List.replicate k 41)) ∧ skB (List.replicate k 41) = List.replicate k 41 := by
  cases k with
  | zero => exact ⟨.inl rfl, rfl⟩
  | succ k => rw [List.replicate_succ, skB_cons 41 _ (by decide)]; exact ⟨.inr rfl, rfl⟩
theorem skB_40 (k : Nat) (l : List UInt8) : skB (List.replicate (k + 1) 40 ++ l) = List.replicate (k + 1) 40 ++ l := by
  rw [List.replicate_succ, List.cons_append, skB_cons 40 _ (by decide)]
/-- within k brackets, more behind -/
theorem rdX_brs (n : Nat) (l : List UInt8) (x : Ex) : ∀ (k j : Nat), rdX Z n (some 1) (skB l) = .ok (x, List.replicate (k + j) 41) → rdX Z (n + 2 * k) (some 1) (skB (List.replicate k 40 ++ l)) = .ok (x, List.replicate j 41)
  | 0, j, h => by simpa using h
  | k + 1, j, h => by
    have := rdX_brs n l x k (j + 1) (by rw [show k + (j + 1) = k + 1 + j by omega]; exact h)
    rw [List.replicate_succ] at this
    have := rdX_br Z (n + 2 * k) (List.replicate k 40 ++ l) x (List.replicate j 41) (rep_41 j).1 this
    rw [skB_40, List.replicate_succ, List.cons_append, show n + 2 * (k + 1) = n + 2 * k + 2 by omega, this, (rep_41 j).2]
/-- P7: brackets, and blanks around what is in them, change nothing -/
theorem rdX_brackets (hZ : ZQ Z) (n : Nat) (s : List UInt8) (x : Ex) (k : Nat) (h : rdX Z n (some 1) (skB s) = .ok (x, [])) :
    rdX Z (n + 2 * k) (some 1) (skB (List.replicate k 40 ++ (32 :: (s ++ 32 :: List.replicate k 41)))) = .ok (x, []) := by
  have hs := rep_41 k
  rw [hs.2] at hs
  have h1 := (rdX_ap Z hZ _ hs.1 n).2 1 (by omega) _ _ _ h
  rw [← skB_ap _ hs.1, ap_nil] at h1
  exact rdX_brs Z n _ x k 0 (by rw [skB_32]; simpa using h1)
end
end Go.Proofs.YtipolobikigmbaaGreatDoor
