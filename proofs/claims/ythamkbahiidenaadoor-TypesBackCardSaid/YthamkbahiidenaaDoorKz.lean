/-
  TypesBack: the plain facts, and the walk through the law.
-/
import Derived.Test.YthamkbahiidenaaDoorKx
import Derived.Test.YthamkbahiidenaaDoorKy
import Derived.Test.YthamkbahiidenaaDoorKf
namespace Go.Proofs.YthamkbahiidenaaDoor
open Go.RowKit Go.Shelf

theorem noLow_nil : noLow [] := fun _ h => (by cases h)
/-- what is written of a right type is read as it -/
theorem ps_back (t : Ty) (h : chkTy t = 0) (hl : (wrT t).length ≤ 2000) : psT (wrT t) = .ok t := by
  obtain ⟨hw, hs⟩ := chkTy_good t h
  have hb := wrT_back 0 t hw 2001 (by omega) [] noLow_nil
  rw [spL_zero, List.append_nil] at hb
  unfold psT
  rw [if_neg (by omega), hb]
  simp only
  rw [if_pos (show skB [] = [] from rfl), if_pos h]
/-- what is read is right, and written no longer -/
theorem ps_ok (L : List UInt8) (t : Ty) (h : psT L = .ok t) : chkTy t = 0 ∧ (wrT t).length ≤ L.length ∧ L.length ≤ 2000 := by
  unfold psT at h
  split at h
  · cases h
  rename_i hL
  split at h
  · cases h
  rename_i t' r hT
  split at h
  · rename_i hr
    split at h
    · rename_i hc
      injection h with h
      subst h
      have := rdT_short 2001 _ _ _ hT
      have h2 := skB_len L
      exact ⟨hc, by omega, by omega⟩
    · cases h
  · cases h
theorem ps_code (L : List UInt8) (c : Int) (a : Nat) (h : psT L = .error (c, a)) : c ≠ 0 := by
  unfold psT at h
  split at h
  · injection h with h; injection h with h1 _; omega
  split at h
  · injection h with h; injection h with h1 _; omega
  split at h
  · split at h
    · cases h
    · rename_i hc
      injection h with h; injection h with h1 _; rw [← h1]; exact hc
  · injection h with h; injection h with h1 _; omega
theorem cho_sum (ps : List (ByteArray × List UInt8)) : ∀ pre, (ps.map fun p => p.2.length).sum ≤ (choL pre ps).length := by
  induction ps with
  | nil => intro pre; simp
  | cons p ps ih =>
    intro pre
    have := ih [44]
    simp only [choL, List.length_append, List.map_cons, List.sum_cons]
    omega
theorem zip_sum2 (ls : List ByteArray) : ∀ ts : List (List UInt8), ts.length = ls.length → ((ls.zip ts).map fun p => p.2.length).sum = (ts.map List.length).sum := by
  induction ls with
  | nil => intro ts h; have : ts = [] := List.length_eq_zero_iff.1 (by simpa using h); subst this; rfl
  | cons l ls ih =>
    intro ts h
    cases ts with
    | nil => simp at h
    | cons x ts => have := ih ts (by simpa using h); simp only [List.zip_cons_cons, List.map_cons, List.sum_cons]; omega
theorem sum_le (l : List Ty) : (∀ k ∈ l, sizeT k ≤ (wrT k).length) → (l.map sizeT).sum ≤ ((l.map wrT).map List.length).sum := by
  induction l with
  | nil => intro _; simp
  | cons x l ih =>
    intro h
    have a := h x (.head _)
    have b := ih (fun k hk => h k (.tail _ hk))
    simp only [List.map_cons, List.sum_cons]; omega
/-- a type has no more parts than letters -/
theorem size_le : ∀ t : Ty, wfT t → sizeT t ≤ (wrT t).length := by
  apply tyInd
  intro t ih hw
  obtain ⟨hp, hk⟩ := (wfT_eq t).1 hw
  have hs := sizeT_eq t
  rcases part_full t hp with rfl | ⟨nm, hv, rfl⟩ | ⟨nm, a, hv, rfl⟩ | ⟨k, so, a, hkd, hso, rfl⟩ | ⟨k, a, c, hkd, rfl⟩ | ⟨k, ls, ks, hkd, hls, hlen, rfl⟩
  · rw [wt_end _ rfl]; simp at hs; simp; omega
  · rw [wt_var _ rfl]; have := vr_pos _ hv; simp at hs; simp only; omega
  · have i1 := ih a (by simp) (hk a (by simp))
    rw [wt_rec _ a rfl rfl]; simp at hs; simp only [List.length_append, List.length_cons, List.length_nil]; omega
  · have i1 := ih a (by simp) (hk a (by simp))
    rw [wt_msg _ a hkd rfl]; simp at hs; simp only [List.length_append, List.length_cons, List.length_nil]; omega
  · have i1 := ih a (by simp) (hk a (by simp))
    have i2 := ih c (by simp) (hk c (by simp))
    rw [wt_give _ a c hkd rfl]; simp at hs; simp only [List.length_append, List.length_cons, List.length_nil]; omega
  · have i1 := sum_le ks (fun x hx => ih x hx (hk x hx))
    rw [wt_cho _ hkd]
    simp only at hs ⊢
    have i2 := cho_sum (ls.zip (ks.map wrT)) ((sgB k).data.toList ++ [123])
    rw [zip_sum2 ls _ (by simpa using hlen)] at i2
    simp only [List.length_append, List.length_cons, List.length_nil]
    omega
theorem parse_ok (s : ByteArray) (t : Ty) (h : psT s.data.toList = .ok t) (w : World) :
    Calls Tryd.prog 6 #[.string s] w fun e w' => (∃ al cl ak ck, e = .returned (.tuple #[.agg #[.int .i64 t.kind, .int .i64 t.so, .string t.name, .slice al t.labels.length cl, .slice ak t.kids.length ck], .agg #[.int .i64 0, .int .i64 0]]) ∧ TyBd t cl ck ∧ LA w' w'.heap.size t.labels al ∧ KT w' w'.heap.size 2001 t.kids ak) ∧ Below w.heap.size w w' := by
  have c := parse_any s w
  rw [h] at c
  exact c
theorem parse_err (s : ByteArray) (c : Int) (a : Nat) (h : psT s.data.toList = .error (c, a)) (w : World) :
    Calls Tryd.prog 6 #[.string s] w fun e w' => e = .returned (.tuple #[.agg #[.int .i64 0, .int .i64 0, .string ⟨#[]⟩, .slice none 0 0, .slice none 0 0], .agg #[.int .i64 c, .int .i64 (a : Int)]]) ∧ Below w.heap.size w w' := by
  have cc := parse_any s w
  rw [h] at cc
  exact cc
theorem write_good (d : Nat) (t : Ty) (al : Option Addr) (cl : Nat) (ak : Option Addr) (ck : Nat) (w : World) (hbd : TyBd t cl ck) (hla : LA w w.heap.size t.labels al) (hkt : KT w w.heap.size d t.kids ak) (h : chkTy t = 0) :
    Calls Tryd.prog 5 #[.agg #[.int .i64 t.kind, .int .i64 t.so, .string t.name, .slice al t.labels.length cl, .slice ak t.kids.length ck]] w fun e w' => e = .returned (.tuple #[.string (bs (wrT t)), .int .i64 0]) ∧ Below w.heap.size w w' := by
  have c := typesWrite_any d t al cl ak ck w hbd hla hkt
  unfold wrR at c
  rw [if_pos h] at c
  exact c
theorem write_bad (d : Nat) (t : Ty) (al : Option Addr) (cl : Nat) (ak : Option Addr) (ck : Nat) (w : World) (hbd : TyBd t cl ck) (hla : LA w w.heap.size t.labels al) (hkt : KT w w.heap.size d t.kids ak) (h : chkTy t ≠ 0) :
    Calls Tryd.prog 5 #[.agg #[.int .i64 t.kind, .int .i64 t.so, .string t.name, .slice al t.labels.length cl, .slice ak t.kids.length ck]] w fun e w' => e = .returned (.tuple #[.string ⟨#[]⟩, .int .i64 (chkTy t)]) ∧ Below w.heap.size w w' := by
  have c := typesWrite_any d t al cl ak ck w hbd hla hkt
  unfold wrR at c
  rw [if_neg h] at c
  exact c
end Go.Proofs.YthamkbahiidenaaDoor
