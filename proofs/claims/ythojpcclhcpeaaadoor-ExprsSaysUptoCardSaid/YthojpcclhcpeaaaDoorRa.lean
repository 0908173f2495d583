/-
  Plain: a list of parts that are looked at one after another, each one's Kids put ahead of the others: what it finds is what Check says, for every expression. Memory: a list of expressions as a row of cells.
-/
import Derived.Test.YthojpcclhcpeaaaDoorYa
import Derived.Test.YthojpcclhcpeaaaDoorXb
import Derived.Test.YthojpcclhcpeaaaDoorPn
import Derived.OpenShut
import Derived.Deep.Slices
namespace Go.Proofs.YthojpcclhcpeaaaDoor
open Go.RowKit Go.Deep Go.Joins Go.ChangeShapes Go.WideShapes

/-- what is wrong with a part alone -/
def prtZ (p : Ex) : Int := if partOK p = false then 1 else if p.kind = 1 then chkZ vD p.so p.n p.s else 0
theorem chkL_app (a b : List Ex) (s : Int × Nat) : chkL (a ++ b) s = chkL b (chkL a s) := by unfold chkL; rw [List.foldl_append]
theorem chkL_full (p : Ex) (r : List Ex) : (chkL (p :: r) (0, 60)).1 = 2 := by
  rw [chkL_cons, if_neg (by simp), chkP_eq, if_pos (by omega), chkL_bad _ _ (by simp)]
theorem chkL_part (p : Ex) (r : List Ex) (n : Nat) (hn : n < 60) (h : prtZ p ≠ 0) : (chkL (p :: r) (0, n)).1 = prtZ p := by
  rw [chkL_cons, if_neg (by simp), chkP_eq, if_neg (by omega)]
  unfold prtZ at h ⊢
  by_cases h1 : partOK p = false
  · rw [if_pos h1, if_pos h1, chkL_bad _ _ (by simp)]
  · rw [if_neg h1] at h ⊢
    rw [if_neg h1]
    by_cases h2 : p.kind = 1
    · rw [if_pos h2] at h ⊢
      rw [if_pos h2, chkL_bad _ _ (by simpa using h)]
    · rw [if_neg h2] at h; exact absurd rfl h
theorem chkL_step (p : Ex) (r : List Ex) (n : Nat) (hn : n < 60) (h : prtZ p = 0) : chkL (p :: r) (0, n) = chkL (p.kids ++ r) (0, n + 1) := by
  rw [chkL_cons, if_neg (by simp), chkP_eq, if_neg (by omega), chkL_app]
  unfold prtZ at h
  by_cases h1 : partOK p = false
  · rw [if_pos h1] at h; exact absurd h (by decide)
  · rw [if_neg h1] at h ⊢
    by_cases h2 : p.kind = 1
    · rw [if_pos h2] at h ⊢
      rw [kind1_kids p (by simpa using h1) h2, h]; rfl
    · rw [if_neg h2]
theorem chkL_one (x : Ex) : (chkL [x] (0, 0)).1 = chkX x := rfl
theorem size_pos (x : Ex) : 1 ≤ sizeX x := by rw [sizeX_eq]; omega
theorem sizes_step (p : Ex) (r : List Ex) : ((p.kids ++ r).map sizeX).sum + 1 = ((p :: r).map sizeX).sum := by
  rw [List.map_append, List.sum_append, List.map_cons, List.sum_cons, sizeX_eq p]; omega
theorem len_sizes : ∀ l : List Ex, l.length ≤ (l.map sizeX).sum
  | [] => Nat.le_refl _
  | x :: r => by
    have h1 := size_pos x
    have h2 := len_sizes r
    simp only [List.length_cons, List.map_cons, List.sum_cons]; omega

/-- an expression's cells, and a list's -/
abbrev Tk := Ex × Option Addr × Nat
def eC (t : Tk) : List Value := [.int .i64 t.1.kind, .string t.1.name, .int .i64 t.1.so, .int .i64 t.1.n, .string t.1.s, .slice t.2.1 t.1.kids.length t.2.2]
def eCs (ts : List Tk) : List Value := ts.flatMap eC
theorem eCs_len (ts : List Tk) : (eCs ts).length = ts.length * 6 := by
  unfold eCs
  induction ts with
  | nil => rfl
  | cons p r ih => simp only [List.flatMap_cons, List.length_append, ih, List.length_cons, eC, List.length_nil]; omega
theorem eCs_app (a b : List Tk) : eCs (a ++ b) = eCs a ++ eCs b := by unfold eCs; rw [List.flatMap_append]
theorem eCs_one (ts : List Tk) : ∀ y ∈ eCs ts, y.oneCell' = true := by
  intro y hy
  obtain ⟨p, _, hp⟩ := List.mem_flatMap.1 hy
  simp only [eC, List.mem_cons, List.not_mem_nil, or_false] at hp
  rcases hp with rfl | rfl | rfl | rfl | rfl | rfl <;> rfl
theorem eCs_at (ts : List Tk) : ∀ (i : Nat) (h : i < ts.length) (r : Nat), r < 6 → (eCs ts)[i * 6 + r]? = (eC ts[i])[r]? := by
  induction ts with
  | nil => intro i h; simp at h
  | cons p l ih =>
    intro i h r hr
    have e : eCs (p :: l) = eC p ++ eCs l := rfl
    have hl : (eC p).length = 6 := rfl
    rw [e]
    cases i with
    | zero => rw [Nat.zero_mul, Nat.zero_add, List.getElem?_append_left (by omega)]; rfl
    | succ i =>
      rw [List.getElem?_append_right (by omega), hl]
      have := ih i (by simpa using h) r hr
      rw [show (i + 1) * 6 + r - 6 = i * 6 + r by omega]
      exact this
/-- such that their Kids lie below block B -/
def TOK (W : World) (B : Nat) (ts : List Tk) : Prop := ∀ t ∈ ts, ExBd t.1 t.2.2 ∧ ∃ d, KA W B d t.1.kids t.2.1
theorem ka_list {W : World} {B d : Nat} {ks : List Ex} {ao : Option Addr} (h : KA W B d ks ao) :
    ∃ ts : List Tk, ts.map (·.1) = ks ∧ TOK W B ts ∧ (ks = [] ∨ ∃ b o, ao = some ⟨b, o, none⟩ ∧ b < B ∧ ∀ j u, (eCs ts)[j]? = some u → W.cell? ⟨b, o + j, none⟩ = some u) := by
  by_cases hk : ks = []
  · subst hk; exact ⟨[], rfl, fun t ht => (by cases ht), .inl rfl⟩
  · cases d with
    | zero => exact absurd h hk
    | succ d =>
      rcases h with h | ⟨b, o, rfl, hb, hc⟩
      · exact absurd h hk
      · have hall : ∀ i, i < ks.length → ∃ q : Tk, ks[i]? = some q.1 ∧ ExAt W b (o + i * 6) q.1 q.2.1 q.2.2 ∧ ExBd q.1 q.2.2 ∧ KA W B d q.1.kids q.2.1 := by
          intro i hi
          obtain ⟨ao', cap', h1, h2, h3⟩ := hc i hi
          exact ⟨(ks[i], ao', cap'), List.getElem?_eq_getElem hi, h1, h2, h3⟩
        haveI : Inhabited Tk := ⟨(⟨0, ⟨#[]⟩, 0, 0, ⟨#[]⟩, []⟩, none, 0)⟩
        obtain ⟨f, hf⟩ := choose_lt hall
        refine ⟨(List.range ks.length).map f, ?_, ?_, .inr ⟨b, o, rfl, hb, ?_⟩⟩
        · apply List.ext_getElem
          · simp
          · intro i h1 h2
            have := (hf i h2).1
            rw [List.getElem?_eq_getElem h2] at this
            simp only [List.getElem_map, List.getElem_range]
            exact (Option.some.inj this).symm
        · intro t ht
          obtain ⟨i, hi, rfl⟩ := List.mem_map.1 ht
          have := hf i (List.mem_range.1 hi)
          exact ⟨this.2.2.1, d, this.2.2.2⟩
        · intro j u hj
          have hlt : j < (eCs ((List.range ks.length).map f)).length := by
            rcases Nat.lt_or_ge j (eCs ((List.range ks.length).map f)).length with hh | hh
            · exact hh
            · rw [List.getElem?_eq_none hh] at hj; cases hj
          rw [eCs_len, List.length_map, List.length_range] at hlt
          have hi : j / 6 < ((List.range ks.length).map f).length := by simp; omega
          have hjj : j = j / 6 * 6 + j % 6 := by omega
          have hr : j % 6 < 6 := by omega
          rw [hjj, eCs_at _ (j / 6) hi (j % 6) hr] at hj
          have hx := (hf (j / 6) (by omega)).2.1
          have eq : ((List.range ks.length).map f)[j / 6] = f (j / 6) := by simp
          rw [eq] at hj
          rw [show o + j = o + j / 6 * 6 + j % 6 by omega]
          generalize j % 6 = r at *
          have : r = 0 ∨ r = 1 ∨ r = 2 ∨ r = 3 ∨ r = 4 ∨ r = 5 := by omega
          rcases this with rfl | rfl | rfl | rfl | rfl | rfl
          · simp only [eC, List.getElem?_cons_zero, Option.some.injEq] at hj; subst hj; exact hx.c0
          · simp only [eC, List.getElem?_cons_succ, List.getElem?_cons_zero, Option.some.injEq] at hj; subst hj; exact hx.c1
          · simp only [eC, List.getElem?_cons_succ, List.getElem?_cons_zero, Option.some.injEq] at hj; subst hj; exact hx.c2
          · simp only [eC, List.getElem?_cons_succ, List.getElem?_cons_zero, Option.some.injEq] at hj; subst hj; exact hx.c3
          · simp only [eC, List.getElem?_cons_succ, List.getElem?_cons_zero, Option.some.injEq] at hj; subst hj; exact hx.c4
          · simp only [eC, List.getElem?_cons_succ, List.getElem?_cons_zero, Option.some.injEq] at hj; subst hj; exact hx.c5
end Go.Proofs.YthojpcclhcpeaaaDoor
