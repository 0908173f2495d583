/-
  PLAIN: what a type's reading comes to, over all of a text; what is written of a right type is read as it; a right type's text is short.
-/
import Derived.Test.YtefdekfgmbgbbaaGreatDoorKi
import Derived.Test.YtefdekfgmbgbbaaGreatDoorKa
namespace Go.Proofs.YtefdekfgmbgbbaaGreatDoor
open Go.RowKit Go.Shelf

/-- what a type's reading comes to, over all of a text: the error and the byte, or the type -/
def psT (L : List UInt8) : Except (Int × Nat) Ty :=
  if 2000 < L.length then .error (2, 0) else
  match rdT 2001 (skB L) with
  | .error r => .error (3, L.length - r.length)
  | .ok (t, r) => if r = [] then (if chkTy t = 0 then .ok t else .error (chkTy t, 0)) else .error (3, L.length - r.length)
theorem noLow_nil : noLow [] := fun _ h => (by cases h)
/-- what is written of a right type is read as it -/
theorem ps_back (t : Ty) (h : chkTy t = 0) (hl : (wrT t).length ≤ 2000) : psT (wrT t) = .ok t := by
  obtain ⟨hw, hs⟩ := chkTy_good t h
  have hb := wrT_back 0 t hw 2001 (by omega) [] noLow_nil
  rw [spL_zero, List.append_nil] at hb
  unfold psT
  rw [if_neg (by omega), hb]
  simp only
  rw [if_pos (show skB [] = [] from rfl), if_pos h]
/-- what is read is right, and written no longer -/
theorem ps_ok (L : List UInt8) (t : Ty) (h : psT L = .ok t) : chkTy t = 0 ∧ (wrT t).length ≤ L.length ∧ L.length ≤ 2000 := by
  unfold psT at h
  split at h
  · cases h
  rename_i hL
  split at h
  · cases h
  rename_i t' r hT
  split at h
  · rename_i hr
    split at h
    · rename_i hc
      injection h with h
      subst h
      have := rdT_short 2001 _ _ _ hT
      have h2 := skB_len L
      exact ⟨hc, by omega, by omega⟩
    · cases h
  · cases h
theorem ps_code (L : List UInt8) (c : Int) (a : Nat) (h : psT L = .error (c, a)) : c ≠ 0 := by
  unfold psT at h
  split at h
  · injection h with h; injection h with h1 _; omega
  split at h
  · injection h with h; injection h with h1 _; omega
  split at h
  · split at h
    · cases h
    · rename_i hc
      injection h with h; injection h with h1 _; rw [← h1]; exact hc
  · injection h with h; injection h with h1 _; omega
theorem cho_sum (ps : List (ByteArray × List UInt8)) : ∀ pre, (ps.map fun p => p.2.length).sum ≤ (choL pre ps).length := by
  induction ps with
  | nil => intro pre; simp
  | cons p ps ih =>
    intro pre
    have := ih [44]
    simp only [choL, List.length_append, List.map_cons, List.sum_cons]
    omega
theorem zip_sum2 (ls : List ByteArray) : ∀ ts : List (List UInt8), ts.length = ls.length → ((ls.zip ts).map fun p => p.2.length).sum = (ts.map List.length).sum := by
  induction ls with
  | nil => intro ts h; have : ts = [] := List.length_eq_zero_iff.1 (by simpa using h); subst this; rfl
  | cons l ls ih =>
    intro ts h
    cases ts with
    | nil => simp at h
    | cons x ts => have := ih ts (by simpa using h); simp only [List.zip_cons_cons, List.map_cons, List.sum_cons]; omega
theorem sum_le (l : List Ty) : (∀ k ∈ l, sizeT k ≤ (wrT k).length) → (l.map sizeT).sum ≤ ((l.map wrT).map List.length).sum := by
  induction l with
  | nil => intro _; simp
  | cons x l ih =>
    intro h
    have a := h x (.head _)
    have b := ih (fun k hk => h k (.tail _ hk))
    simp only [List.map_cons, List.sum_cons]; omega
/-- a type has no more parts than letters -/
theorem size_le : ∀ t : Ty, wfT t → sizeT t ≤ (wrT t).length := by
  apply tyInd
  intro t ih hw
  obtain ⟨hp, hk⟩ := (wfT_eq t).1 hw
  have hs := sizeT_eq t
  rcases part_full t hp with rfl | ⟨nm, hv, rfl⟩ | ⟨nm, a, hv, rfl⟩ | ⟨k, so, a, hkd, hso, rfl⟩ | ⟨k, a, c, hkd, rfl⟩ | ⟨k, ls, ks, hkd, hls, hlen, rfl⟩
  · rw [wt_end _ rfl]; simp at hs; simp; omega
  · rw [wt_var _ rfl]; have := vr_pos _ hv; simp at hs; simp only; omega
  · have i1 := ih a (by simp) (hk a (by simp))
    rw [wt_rec _ a rfl rfl]; simp at hs; simp only [List.length_append, List.length_cons, List.length_nil]; omega
  · have i1 := ih a (by simp) (hk a (by simp))
    rw [wt_msg _ a hkd rfl]; simp at hs; simp only [List.length_append, List.length_cons, List.length_nil]; omega
  · have i1 := ih a (by simp) (hk a (by simp))
    have i2 := ih c (by simp) (hk c (by simp))
    rw [wt_give _ a c hkd rfl]; simp at hs; simp only [List.length_append, List.length_cons, List.length_nil]; omega
  · have i1 := sum_le ks (fun x hx => ih x hx (hk x hx))
    rw [wt_cho _ hkd]
    simp only at hs ⊢
    have i2 := cho_sum (ls.zip (ks.map wrT)) ((sgB k).data.toList ++ [123])
    rw [zip_sum2 ls _ (by simpa using hlen)] at i2
    simp only [List.length_append, List.length_cons, List.length_nil]
    omega
theorem cho_lenS (ps : List (ByteArray × List UInt8)) : ∀ (pre : List UInt8), 1 ≤ pre.length → (∀ p ∈ ps, p.1.data.toList.length ≤ 8) → (choL pre ps).length ≤ pre.length + 10 * ps.length + (ps.map fun p => p.2.length).sum := by
  induction ps with
  | nil => intro pre _ _; simp [choL]
  | cons p r ih =>
    intro pre hp hl
    have h1 := ih [44] (by simp) (fun q hq => hl q (.tail _ hq))
    have h2 := hl p (.head _)
    simp only [choL, List.length_append, List.length_cons, List.length_nil, List.map_cons, List.sum_cons] at h1 ⊢
    omega
/-- a right type's text has at most 23 letters a part -/
theorem wrT_short : ∀ t : Ty, wfT t → (wrT t).length + 10 ≤ 23 * sizeT t := by
  apply tyInd
  intro t ih hw
  obtain ⟨hp, hk⟩ := (wfT_eq t).1 hw
  have hs := sizeT_eq t
  rcases part_cases t hp with ⟨h, e⟩ | ⟨h, e, hn⟩ | ⟨h, hn, a, e⟩ | ⟨h, a, e⟩ | ⟨h, a, b, e⟩ | ⟨h, hl, hkl⟩
  · rw [wt_end t h]; simp; omega
  · rw [wt_var t h]; have := vr_len _ hn; omega
  · have i1 := ih a (by rw [e]; simp) (hk a (by rw [e]; simp))
    have := vr_len _ hn
    rw [wt_rec t a h e]; rw [e] at hs; simp at hs; simp only [List.length_append, List.length_cons, List.length_nil]; omega
  · have i1 := ih a (by rw [e]; simp) (hk a (by rw [e]; simp))
    have := sg_len t.kind
    have := sw_len t.so
    rw [wt_msg t a h e]; rw [e] at hs; simp at hs; simp only [List.length_append, List.length_cons, List.length_nil]; omega
  · have i1 := ih a (by rw [e]; simp) (hk a (by rw [e]; simp))
    have i2 := ih b (by rw [e]; simp) (hk b (by rw [e]; simp))
    have := sg_len t.kind
    rw [wt_give t a b h e]; rw [e] at hs; simp at hs; simp only [List.length_append, List.length_cons, List.length_nil]; omega
  · obtain ⟨h6, h8⟩ := labs_len _ hl
    have := sg_len t.kind
    rw [wt_cho t h, List.length_append]
    have h1 := cho_lenS (t.labels.zip (t.kids.map wrT)) ((sgB t.kind).data.toList ++ [123]) (by rw [List.length_append]; simp only [List.length_cons, List.length_nil]; omega) (fun p hpm => h8 _ (List.of_mem_zip hpm).1)
    rw [zip_sum2 t.labels _ (by simpa using hkl)] at h1
    have h3 : ((t.kids.map wrT).map List.length).sum + 10 * t.kids.length ≤ 23 * (t.kids.map sizeT).sum := by
      have : ∀ l : List Ty, (∀ k ∈ l, (wrT k).length + 10 ≤ 23 * sizeT k) → ((l.map wrT).map List.length).sum + 10 * l.length ≤ 23 * (l.map sizeT).sum := by
        intro l
        induction l with
        | nil => intro _; simp
        | cons x l ihl =>
          intro hx
          have a1 := hx x (.head _)
          have a2 := ihl (fun k hk => hx k (.tail _ hk))
          simp only [List.map_cons, List.sum_cons, List.length_cons]; omega
      exact this _ (fun k hkm => ih k hkm (hk k hkm))
    have h4 : (t.labels.zip (t.kids.map wrT)).length = t.kids.length := by simp; omega
    rw [h4] at h1
    simp only [List.length_append, List.length_cons, List.length_nil] at h1 ⊢
    omega
/-- the text of a type that Check lets by is read as it -/
theorem ps_full (t : Ty) (h : chkTy t = 0) : psT (wrT t) = .ok t := by
  obtain ⟨hw, hs⟩ := chkTy_good t h
  have := wrT_short t hw
  exact ps_back t h (by omega)
end Go.Proofs.YtefdekfgmbgbbaaGreatDoor
/-
  An event.
-/
namespace Go.Proofs.YtefdekfgmbgbbaaGreatDoor
open Go.RowKit Go.Shelf

/-- an event -/
structure Ev where
  kind : Int
  so : Int
  n : Int
  s : ByteArray
  carry : Ty
  label : ByteArray
def evVal (x : Ev) (al : Option Addr) (cl : Nat) (ak : Option Addr) (ck : Nat) : Value := .agg #[.int .i64 x.kind, .int .i64 x.so, .int .i64 x.n, .string x.s, .int .i64 x.carry.kind, .int .i64 x.carry.so, .string x.carry.name, .slice al x.carry.labels.length cl, .slice ak x.carry.kids.length ck, .string x.label]
end Go.Proofs.YtefdekfgmbgbbaaGreatDoor
