/-
  append of a row that a call owns onto another one, nil or not: at a walk's step, and at a step of a region that draws its order.
-/
import Derived.Test.YtecapnipkngniaaGreatDoorProg
import Derived.WalkKit
import Derived.Deep.AppendLies
import Derived.Laws.AppendOwnNone
import Derived.Laws.OwnMore
import Derived.Test.YtecapnipkngniaaGreatDoorYa
import Derived.Test.YtecapnipkngniaaGreatDoorXf
import Derived.OpenShut
import Derived.Deep.Slices
namespace Go.Proofs.YtecapnipkngniaaGreatDoor
open Go.RowKit

/-- the cells of a row that is owned, where it lies -/
theorem own_cells {w : World} {base : Nat} {e : TypeId} {size : Nat} {u : Value} {m : Nat} {ys : List Value} (h : w.ownsRow base e size u m ys) :
    (u = .slice none 0 0 ∧ m = 0 ∧ ys = []) ∨ ∃ g cap, u = .slice (some ⟨g, 0, none⟩) m cap ∧ base ≤ g ∧ g < w.heap.size ∧ ∀ j y, ys[j]? = some y → w.cell? ⟨g, j, none⟩ = some y := by
  obtain ⟨hl, h | ⟨g, cap, cur, rfl, hb, hg, h1, h2, h3, h4⟩⟩ := h
  · obtain ⟨rfl, rfl⟩ := h
    exact .inl ⟨rfl, rfl, List.eq_nil_of_length_eq_zero (by simpa using hl)⟩
  · refine .inr ⟨g, cap, rfl, hb, ?_, fun j y hy => ?_⟩
    · rcases Nat.lt_or_ge g w.heap.size with hlt | hge
      · exact hlt
      · rw [Array.getElem?_eq_none hge] at hg; cases hg
    · have := cell_of_row w g j cur e (0, 0) hg
      rw [this, ← Array.getElem?_toList]
      rw [← h4] at hy
      rw [List.getElem?_take] at hy
      split at hy
      · exact hy
      · cases hy
theorem run_append_rows {P : Program} (w : World) (t ty e : TypeId) (base base2 : Nat) (i : TypeInfo) (z : Value) (size bytes : Nat) (ht : P.underlying t = some (.slice e)) (hi : P.info? e = some i) (hz : i.zero = some z)
    (hsize : i.size = size) (hby : i.bytes = bytes) (hzs : z.cells.size = size) (hsz : 0 < size)
    (v : Value) (n : Nat) (xs : List Value) (hown : w.ownsRow base e size v n xs) (u : Value) (m : Nat) (ys : List Value) (hu : w.ownsRow base2 e size u m ys)
    (h1 : ∀ y ∈ ys, y.oneCell' = true) (h63 : n + m ≤ maxLen) (hbytes : (n + m) * bytes ≤ 140737488355328) (hbase : base ≤ w.heap.size) :
    ∃ v' w', (Builtin.append_ #[t, t] ty #[v, u]).run P w = .ok v' w' ∧ w'.ownsRow base e size v' (n + m) (xs ++ ys) ∧ w.grownBy w' v.ownBlock ∧ (v'.ownBlock = v.ownBlock ∨ v'.ownBlock = some w.heap.size) := by
  rcases own_cells hu with ⟨rfl, rfl, rfl⟩ | ⟨g, cap, rfl, _, _, hc⟩
  · have hrun := run_append_owned_none (P := P) (w := w) base t ty e i size ht hi v n xs hown
    refine ⟨v, w, hrun, by simpa using hown, World.grownBy.refl _ _, .inl rfl⟩
  · obtain ⟨v', w', hr, h2, h3, _, h5⟩ := run_append_own_at (P := P) w base t ty e i z size bytes ht hi hz hsize hby hzs hsz v n xs hown ⟨g, 0, none⟩ m cap ys hu.1
      (fun j y hy => by
        have e : (⟨g, 0, none⟩ : Addr).add j = ⟨g, j, none⟩ := by unfold Addr.add; split <;> simp_all
        rw [e]; exact hc j y hy) h1 h63 hbytes hbase
    exact ⟨v', w', hr, h2, h3, h5⟩
theorem wp_append_rows {P : Program} (w : World) {o : Oper} {a : Act} {K : Act → World → Prop} {Q : Exit → Act → World → Prop} (s x : Operand) (t : TypeId)
    (ho : o.op = .call { callee := .builtin .append, args := #[s, x], argTypes := #[t, t] })
    (base base2 : Nat) (e : TypeId) (i : TypeInfo) (z : Value) (size bytes : Nat) (ht : P.underlying t = some (.slice e)) (hi : P.info? e = some i) (hz : i.zero = some z)
    (hsize : i.size = size) (hby : i.bytes = bytes) (hzs : z.cells.size = size) (hsz : 0 < size)
    (v : Value) (n : Nat) (xs : List Value) (hs : a.eval s = v) (hown : w.ownsRow base e size v n xs) (u : Value) (m : Nat) (ys : List Value) (hx : a.eval x = u) (hu : w.ownsRow base2 e size u m ys)
    (h1 : ∀ y ∈ ys, y.oneCell' = true) (h63 : n + m ≤ maxLen) (hbytes : (n + m) * bytes ≤ 140737488355328) (hbase : base ≤ w.heap.size)
    (h : ∀ v' w', w'.ownsRow base e size v' (n + m) (xs ++ ys) → w.grownBy w' v.ownBlock → (v'.ownBlock = v.ownBlock ∨ v'.ownBlock = some w.heap.size) → K (a.put o.dst v') w') : o.wp P a w K Q := by
  obtain ⟨v', w', hr, h2, h3, h4⟩ := run_append_rows (P := P) w t o.type e base base2 i z size bytes ht hi hz hsize hby hzs hsz v n xs hown u m ys hu h1 h63 hbytes hbase
  unfold Oper.wp execOp
  simp only [ho, resolve, invoke, builtin, Sem.run_bind, Sem.run_pure, Result.andThen_ok, List.map_toArray, List.map_cons, List.map_nil, hs, hx, hr]
  exact h v' w' h2 h3 h4
theorem wpList_append_rows {P : Program} (w : World) {ops : Array Oper} {rest : List Oper} {o : Oper} {a : Act} {Q : Exit → Act → World → Prop} (hgd : o.guard = none) (s x : Operand) (t : TypeId)
    (ho : o.op = .call { callee := .builtin .append, args := #[s, x], argTypes := #[t, t] })
    (base base2 : Nat) (e : TypeId) (i : TypeInfo) (z : Value) (size bytes : Nat) (ht : P.underlying t = some (.slice e)) (hi : P.info? e = some i) (hz : i.zero = some z)
    (hsize : i.size = size) (hby : i.bytes = bytes) (hzs : z.cells.size = size) (hsz : 0 < size)
    (v : Value) (n : Nat) (xs : List Value) (hs : a.eval s = v) (hown : w.ownsRow base e size v n xs) (u : Value) (m : Nat) (ys : List Value) (hx : a.eval x = u) (hu : w.ownsRow base2 e size u m ys)
    (h1 : ∀ y ∈ ys, y.oneCell' = true) (h63 : n + m ≤ maxLen) (hbytes : (n + m) * bytes ≤ 140737488355328) (hbase : base ≤ w.heap.size)
    (h : ∀ v' w', w'.ownsRow base e size v' (n + m) (xs ++ ys) → w.grownBy w' v.ownBlock → (v'.ownBlock = v.ownBlock ∨ v'.ownBlock = some w.heap.size) → wpList P ops Q rest (a.put o.dst v') w') : wpList P ops Q (o :: rest) a w :=
  wpList_plain hgd fun _ hK => wp_append_rows w s x t ho base base2 e i z size bytes ht hi hz hsize hby hzs hsz v n xs hs hown u m ys hx hu h1 h63 hbytes hbase fun v' w' h2 h3 h4 => hK _ _ (h v' w' h2 h3 h4)
theorem step_append_rows {P : Program} (w : World) {ops : Array Oper} {o : Oper} {a : Act} {K : Act → World → Prop} {Q : Exit → Act → World → Prop} {E : Prop} (hgd : o.guard = none) (s x : Operand) (t : TypeId)
    (ho : o.op = .call { callee := .builtin .append, args := #[s, x], argTypes := #[t, t] })
    (base base2 : Nat) (e : TypeId) (i : TypeInfo) (z : Value) (size bytes : Nat) (ht : P.underlying t = some (.slice e)) (hi : P.info? e = some i) (hz : i.zero = some z)
    (hsize : i.size = size) (hby : i.bytes = bytes) (hzs : z.cells.size = size) (hsz : 0 < size)
    (v : Value) (n : Nat) (xs : List Value) (hs : a.eval s = v) (hown : w.ownsRow base e size v n xs) (u : Value) (m : Nat) (ys : List Value) (hx : a.eval x = u) (hu : w.ownsRow base2 e size u m ys)
    (h1 : ∀ y ∈ ys, y.oneCell' = true) (h63 : n + m ≤ maxLen) (hbytes : (n + m) * bytes ≤ 140737488355328) (hbase : base ≤ w.heap.size)
    (h : ∀ v' w', w'.ownsRow base e size v' (n + m) (xs ++ ys) → w.grownBy w' v.ownBlock → (v'.ownBlock = v.ownBlock ∨ v'.ownBlock = some w.heap.size) → K (a.put o.dst v') w') :
    if Region.wanted o (yielded ops a.tmps) = true then Oper.wp P o a w K Q else E := by
  have hw : Region.wanted o (yielded ops a.tmps) = true := by simp [Region.wanted, hgd]
  rw [if_pos hw]
  exact wp_append_rows w s x t ho base base2 e i z size bytes ht hi hz hsize hby hzs hsz v n xs hs hown u m ys hx hu h1 h63 hbytes hbase h
end Go.Proofs.YtecapnipkngniaaGreatDoor
/-
  Plain: a list of parts that are looked at one after another, each one's Kids put ahead of the others: what it finds is what Check says, for every expression. Memory: a list of expressions as a row of cells.
-/
namespace Go.Proofs.YtecapnipkngniaaGreatDoor
open Go.RowKit Go.Deep Go.Joins Go.ChangeShapes Go.WideShapes

/-- what is wrong with a part alone -/
def prtZ (p : Ex) : Int := if partOK p = false then 1 else if p.kind = 1 then chkZ vD p.so p.n p.s else 0
theorem chkL_app (a b : List Ex) (s : Int × Nat) : chkL (a ++ b) s = chkL b (chkL a s) := by unfold chkL; rw [List.foldl_append]
theorem chkL_full (p : Ex) (r : List Ex) : (chkL (p :: r) (0, 60)).1 = 2 := by
  rw [chkL_cons, if_neg (by simp), chkP_eq, if_pos (by omega), chkL_bad _ _ (by simp)]
theorem chkL_part (p : Ex) (r : List Ex) (n : Nat) (hn : n < 60) (h : prtZ p ≠ 0) : (chkL (p :: r) (0, n)).1 = prtZ p := by
  rw [chkL_cons, if_neg (by simp), chkP_eq, if_neg (by omega)]
  unfold prtZ at h ⊢
  by_cases h1 : partOK p = false
  · rw [if_pos h1, if_pos h1, chkL_bad _ _ (by simp)]
  · rw [if_neg h1] at h ⊢
    rw [if_neg h1]
    by_cases h2 : p.kind = 1
    · rw [if_pos h2] at h ⊢
      rw [if_pos h2, chkL_bad _ _ (by simpa using h)]
    · rw [if_neg h2] at h; exact absurd rfl h
theorem chkL_step (p : Ex) (r : List Ex) (n : Nat) (hn : n < 60) (h : prtZ p = 0) : chkL (p :: r) (0, n) = chkL (p.kids ++ r) (0, n + 1) := by
  rw [chkL_cons, if_neg (by simp), chkP_eq, if_neg (by omega), chkL_app]
  unfold prtZ at h
  by_cases h1 : partOK p = false
  · rw [if_pos h1] at h; exact absurd h (by decide)
  · rw [if_neg h1] at h ⊢
    by_cases h2 : p.kind = 1
    · rw [if_pos h2] at h ⊢
      rw [kind1_kids p (by simpa using h1) h2, h]; rfl
    · rw [if_neg h2]
theorem chkL_one (x : Ex) : (chkL [x] (0, 0)).1 = chkX x := rfl
theorem size_pos (x : Ex) : 1 ≤ sizeX x := by rw [sizeX_eq]; omega
theorem sizes_step (p : Ex) (r : List Ex) : ((p.kids ++ r).map sizeX).sum + 1 = ((p :: r).map sizeX).sum := by
  rw [List.map_append, List.sum_append, List.map_cons, List.sum_cons, sizeX_eq p]; omega
theorem len_sizes : ∀ l : List Ex, l.length ≤ (l.map sizeX).sum
  | [] => Nat.le_refl _
  | x :: r => by
    have h1 := size_pos x
    have h2 := len_sizes r
    simp only [List.length_cons, List.map_cons, List.sum_cons]; omega

/-- an expression's cells, and a list's -/
abbrev Tk := Ex × Option Addr × Nat
def eC (t : Tk) : List Value := [.int .i64 t.1.kind, .string t.1.name, .int .i64 t.1.so, .int .i64 t.1.n, .string t.1.s, .slice t.2.1 t.1.kids.length t.2.2]
def eCs (ts : List Tk) : List Value := ts.flatMap eC
theorem eCs_len (ts : List Tk) : (eCs ts).length = ts.length * 6 := by
  unfold eCs
  induction ts with
  | nil => rfl
  | cons p r ih => simp only [List.flatMap_cons, List.length_append, ih, List.length_cons, eC, List.length_nil]; omega
theorem eCs_app (a b : List Tk) : eCs (a ++ b) = eCs a ++ eCs b := by unfold eCs; rw [List.flatMap_append]
theorem eCs_one (ts : List Tk) : ∀ y ∈ eCs ts, y.oneCell' = true := by
  intro y hy
  obtain ⟨p, _, hp⟩ := List.mem_flatMap.1 hy
  simp only [eC, List.mem_cons, List.not_mem_nil, or_false] at hp
  rcases hp with rfl | rfl | rfl | rfl | rfl | rfl <;> rfl
theorem eCs_at (ts : List Tk) : ∀ (i : Nat) (h : i < ts.length) (r : Nat), r < 6 → (eCs ts)[i * 6 + r]? = (eC ts[i])[r]? := by
  induction ts with
  | nil => intro i h; simp at h
  | cons p l ih =>
    intro i h r hr
    have e : eCs (p :: l) = eC p ++ eCs l := rfl
    have hl : (eC p).length = 6 := rfl
    rw [e]
    cases i with
    | zero => rw [Nat.zero_mul, Nat.zero_add, List.getElem?_append_left (by omega)]; rfl
    | succ i =>
      rw [List.getElem?_append_right (by omega), hl]
      have := ih i (by simpa using h) r hr
      rw [show (i + 1) * 6 + r - 6 = i * 6 + r by omega]
      exact this
/-- such that their Kids lie below block B -/
def TOK (W : World) (B : Nat) (ts : List Tk) : Prop := ∀ t ∈ ts, ExBd t.1 t.2.2 ∧ ∃ d, KA W B d t.1.kids t.2.1
theorem ka_list {W : World} {B d : Nat} {ks : List Ex} {ao : Option Addr} (h : KA W B d ks ao) :
    ∃ ts : List Tk, ts.map (·.1) = ks ∧ TOK W B ts ∧ (ks = [] ∨ ∃ b o, ao = some ⟨b, o, none⟩ ∧ b < B ∧ ∀ j u, (eCs ts)[j]? = some u → W.cell? ⟨b, o + j, none⟩ = some u) := by
  by_cases hk : ks = []
  · subst hk; exact ⟨[], rfl, fun t ht => (by cases ht), .inl rfl⟩
  · cases d with
    | zero => exact absurd h hk
    | succ d =>
      rcases h with h | ⟨b, o, rfl, hb, hc⟩
      · exact absurd h hk
      · have hall : ∀ i, i < ks.length → ∃ q : Tk, ks[i]? = some q.1 ∧ ExAt W b (o + i * 6) q.1 q.2.1 q.2.2 ∧ ExBd q.1 q.2.2 ∧ KA W B d q.1.kids q.2.1 := by
          intro i hi
          obtain ⟨ao', cap', h1, h2, h3⟩ := hc i hi
          exact ⟨(ks[i], ao', cap'), List.getElem?_eq_getElem hi, h1, h2, h3⟩
        haveI : Inhabited Tk := ⟨(⟨0, ⟨#[]⟩, 0, 0, ⟨#[]⟩, []⟩, none, 0)⟩
        obtain ⟨f, hf⟩ := choose_lt hall
        refine ⟨(List.range ks.length).map f, ?_, ?_, .inr ⟨b, o, rfl, hb, ?_⟩⟩
        · apply List.ext_getElem
          · simp
          · intro i h1 h2
            have := (hf i h2).1
            rw [List.getElem?_eq_getElem h2] at this
            simp only [List.getElem_map, List.getElem_range]
            exact (Option.some.inj this).symm
        · intro t ht
          obtain ⟨i, hi, rfl⟩ := List.mem_map.1 ht
          have := hf i (List.mem_range.1 hi)
          exact ⟨this.2.2.1, d, this.2.2.2⟩
        · intro j u hj
          have hlt : j < (eCs ((List.range ks.length).map f)).length := by
            rcases Nat.lt_or_ge j (eCs ((List.range ks.length).map f)).length with hh | hh
            · exact hh
            · rw [List.getElem?_eq_none hh] at hj; cases hj
          rw [eCs_len, List.length_map, List.length_range] at hlt
          have hi : j / 6 < ((List.range ks.length).map f).length := by simp; omega
          have hjj : j = j / 6 * 6 + j % 6 := by omega
          have hr : j % 6 < 6 := by omega
          rw [hjj, eCs_at _ (j / 6) hi (j % 6) hr] at hj
          have hx := (hf (j / 6) (by omega)).2.1
          have eq : ((List.range ks.length).map f)[j / 6] = f (j / 6) := by simp
          rw [eq] at hj
          rw [show o + j = o + j / 6 * 6 + j % 6 by omega]
          generalize j % 6 = r at *
          have : r = 0 ∨ r = 1 ∨ r = 2 ∨ r = 3 ∨ r = 4 ∨ r = 5 := by omega
          rcases this with rfl | rfl | rfl | rfl | rfl | rfl
          · simp only [eC, List.getElem?_cons_zero, Option.some.injEq] at hj; subst hj; exact hx.c0
          · simp only [eC, List.getElem?_cons_succ, List.getElem?_cons_zero, Option.some.injEq] at hj; subst hj; exact hx.c1
          · simp only [eC, List.getElem?_cons_succ, List.getElem?_cons_zero, Option.some.injEq] at hj; subst hj; exact hx.c2
          · simp only [eC, List.getElem?_cons_succ, List.getElem?_cons_zero, Option.some.injEq] at hj; subst hj; exact hx.c3
          · simp only [eC, List.getElem?_cons_succ, List.getElem?_cons_zero, Option.some.injEq] at hj; subst hj; exact hx.c4
          · simp only [eC, List.getElem?_cons_succ, List.getElem?_cons_zero, Option.some.injEq] at hj; subst hj; exact hx.c5
end Go.Proofs.YtecapnipkngniaaGreatDoor
