/-
  Plain: a list of parts, each with the names around it, that are looked at one after another, each one's Kids put ahead of the others: it finds nothing just if Check finds nothing.
-/
import Derived.Test.YtoieacgojkgjgabDoorIa
import Derived.Test.YtoieacgojkgjgabDoorJv
import Derived.Deep.Slices
namespace Go.Proofs.YtoieacgojkgjgabDoor
open Go.RowKit

theorem idle_mono : ∀ (n : Nat) (t : Ty), idleN n t = true → idleN (n + 1) t = true
  | 0, t, h => by
    have hk : t.kind = 9 := by simpa [idleN] using h
    rw [idle_stop _ _ (by omega)]; simpa using hk
  | n + 1, t, h => by
    by_cases h8 : t.kind = 8
    · by_cases hk : t.kids.length = 1
      · rw [idle_go _ _ h8 hk] at h ⊢; exact idle_mono n _ h
      · rw [idle_odd _ _ h8 hk] at h; cases h
    · rw [idle_stop _ _ h8] at h ⊢; exact h
theorem idle_le {n m : Nat} (hle : n ≤ m) (t : Ty) (h : idleN n t = true) : idleN m t = true := by
  induction hle with
  | refl => exact h
  | step _ ih => exact idle_mono _ _ ih
theorem idle_size : ∀ (n : Nat) (t : Ty), idleN n t = true → idleN (sizeT t) t = true
  | 0, t, h => idle_le (Nat.zero_le _) t h
  | n + 1, t, h => by
    by_cases h8 : t.kind = 8
    · by_cases hk : t.kids.length = 1
      · rw [idle_go _ _ h8 hk] at h
        have ih := idle_size n _ h
        have hs : sizeT t = sizeT (t.kids[0]'(by omega)) + 1 := by
          obtain ⟨x, hx⟩ := List.length_eq_one_iff.1 hk
          have e : t.kids[0]'(by omega) = x := by simp [hx]
          rw [e, sizeT_eq t, hx]; simp; omega
        rw [hs, idle_go _ _ h8 hk]; exact ih
      · rw [idle_odd _ _ h8 hk] at h; cases h
    · rw [idle_stop _ _ h8] at h ⊢; exact h
/-- behind some Recs there is a Var: Check lets it not by -/
theorem idle_bad {n : Nat} {t : Ty} (h8 : t.kind = 8) (h : idleN n t = true) (ar : List ByteArray) (c : Nat) (hc : c ≤ 60) : (chkT t ar c).1 ≠ 0 := by
  intro h0
  have h1 := (chkT_all t ar c h0).2
  have h2 := (chkT_cnt t ar c hc h0).2
  have hi := idle_le (m := 65536) (by omega) t (idle_size n t h)
  rw [chkT_eq] at h0
  by_cases q1 : 60 < c + 1
  · rw [if_pos q1] at h0; exact absurd h0 (by simp)
  rw [if_neg q1] at h0
  by_cases q2 : partT t = false
  · rw [if_pos q2] at h0; exact absurd h0 (by simp)
  rw [if_neg q2, if_neg (by omega), if_pos ⟨h8, hi⟩] at h0
  exact absurd h0 (by simp)
/-- a part with the names around it -/
abbrev Wk := Ty × List ByteArray
def chkW (l : List Wk) (a : Int × Nat) : Int × Nat := l.foldl (fun a x => if a.1 ≠ 0 then a else chkT x.1 x.2 a.2) a
theorem chkW_cons (x : Wk) (l : List Wk) (a : Int × Nat) : chkW (x :: l) a = chkW l (if a.1 ≠ 0 then a else chkT x.1 x.2 a.2) := rfl
theorem chkW_bad (l : List Wk) (a : Int × Nat) (h : a.1 ≠ 0) : chkW l a = a := by
  induction l with
  | nil => rfl
  | cons x l ih => rw [chkW_cons, if_pos h]; exact ih
theorem chkW_app (l r : List Wk) (a : Int × Nat) : chkW (l ++ r) a = chkW r (chkW l a) := by unfold chkW; rw [List.foldl_append]
theorem chkW_kids (ar : List ByteArray) (ks : List Ty) (a : Int × Nat) : chkW (ks.map fun k => (k, ar)) a = chkTL ar ks a := by
  unfold chkW chkTL; rw [List.foldl_map]
theorem chkW_head (x : Wk) (r : List Wk) (n : Nat) (h : (chkT x.1 x.2 n).1 ≠ 0) : (chkW (x :: r) (0, n)).1 ≠ 0 := by
  rw [chkW_cons, if_neg (by simp)]
  show (chkW r (chkT x.1 x.2 n)).1 ≠ 0
  rw [chkW_bad _ _ h]; exact h
theorem chkW_full (x : Wk) (r : List Wk) : (chkW (x :: r) (0, 60)).1 ≠ 0 := chkW_head x r 60 (by rw [chkT_eq, if_pos (by omega)]; simp)
theorem chkW_part (x : Wk) (r : List Wk) (n : Nat) (hn : n < 60) (h : partT x.1 = false) : (chkW (x :: r) (0, n)).1 ≠ 0 :=
  chkW_head x r n (by rw [chkT_eq, if_neg (by omega), if_pos h]; simp)
theorem chkW_var (x : Wk) (r : List Wk) (n : Nat) (hn : n < 60) (hp : partT x.1 = true) (h : x.1.kind = 9) (hh : hasN x.2 x.1.name = false) : (chkW (x :: r) (0, n)).1 ≠ 0 :=
  chkW_head x r n (by rw [chkT_eq, if_neg (by omega), if_neg (by simp [hp]), if_pos ⟨h, hh⟩]; simp)
theorem chkW_idle (x : Wk) (r : List Wk) (n m : Nat) (hn : n < 60) (h : x.1.kind = 8) (hi : idleN m x.1 = true) : (chkW (x :: r) (0, n)).1 ≠ 0 :=
  chkW_head x r n (idle_bad h hi x.2 n (by omega))
/-- the names around a part's Kids -/
def inner (x : Wk) : List ByteArray := if x.1.kind = 8 then x.2 ++ [x.1.name] else x.2
theorem chkW_step (x : Wk) (r : List Wk) (n : Nat) (hn : n < 60) (hp : partT x.1 = true) (hv : x.1.kind = 9 → hasN x.2 x.1.name = true) (hi : x.1.kind = 8 → ∀ m, idleN m x.1 = false) :
    chkW (x :: r) (0, n) = chkW ((x.1.kids.map fun k => (k, inner x)) ++ r) (0, n + 1) := by
  rw [chkW_cons, if_neg (by simp), chkW_app, chkW_kids]
  show chkW r (chkT x.1 x.2 n) = _
  rw [chkT_eq, if_neg (by omega), if_neg (by simp [hp]), if_neg (fun q => by rw [hv q.1] at q; exact absurd q.2 (by simp)), if_neg (fun q => by rw [hi q.1 65536] at q; exact absurd q.2 (by simp))]
  rfl
theorem chkW_one (t : Ty) : (chkW [(t, [])] (0, 0)).1 = chkTy t := rfl
theorem chkW_none (n : Nat) : (chkW [] (0, n)).1 = 0 := rfl
/-- the walk down the Recs ends: at a Var just if it is idle -/
theorem idle_none {t : Ty} (h8 : t.kind ≠ 8 ∨ t.kids.length ≠ 1) (h9 : t.kind ≠ 9) (m : Nat) : idleN m t = false := by
  by_cases h : t.kind = 8
  · exact idle_odd m t h (h8.resolve_left (fun q => q h))
  · rw [idle_stop m t h]; simpa using h9
/-- one Rec less -/
theorem idle_down {t : Ty} (h8 : t.kind = 8) (hk : t.kids.length = 1) : (∃ m, idleN m t = true) ↔ ∃ m, idleN m (t.kids[0]'(by omega)) = true := by
  constructor
  · rintro ⟨m, h⟩
    cases m with
    | zero => simp [idleN, h8] at h
    | succ m => exact ⟨m, by rw [← idle_go m t h8 hk]; exact h⟩
  · rintro ⟨m, h⟩
    exact ⟨m + 1, by rw [idle_go m t h8 hk]; exact h⟩
end Go.Proofs.YtoieacgojkgjgabDoor
/-
  append onto a row that a call owns, from whatever lies in memory: at a walk's step and at a step of a region that draws its order. The list of parts that duetref.Type looks at: cells, and where what they name lies.
-/
namespace Go.Proofs.YtoieacgojkgjgabDoor
open Go.RowKit Go.Shelf

theorem run_append_none {P : Program} (w : World) (base : Nat) (t ty e : TypeId) (i : TypeInfo) (size : Nat) (ht : P.underlying t = some (.slice e)) (hi : P.info? e = some i) (c : Nat)
    (v : Value) (n : Nat) (xs : List Value) (hown : w.ownsRow base e size v n xs) :
    (Builtin.append_ #[t, t] ty #[v, .slice none 0 c]).run P w = .ok v w := by
  rcases hown.2 with ⟨rfl, rfl⟩ | ⟨g, cap, cur, rfl, _, _, hnc, _⟩
  · simp [Builtin.append_, run_underlying ht, sizeOf, typeInfo, hi, Builtin.lenOf, Builtin.firstCells]
  · simp [Builtin.append_, run_underlying ht, sizeOf, typeInfo, hi, Builtin.lenOf, Builtin.firstCells, hnc, storeCells]
theorem run_append_src {P : Program} (w : World) (t ty e : TypeId) (base : Nat) (i : TypeInfo) (z : Value) (size bytes : Nat) (ht : P.underlying t = some (.slice e)) (hi : P.info? e = some i) (hz : i.zero = some z)
    (hsize : i.size = size) (hby : i.bytes = bytes) (hzs : z.cells.size = size) (hsz : 0 < size)
    (v : Value) (n : Nat) (xs : List Value) (hown : w.ownsRow base e size v n xs) (sa : Option Addr) (m c : Nat) (news : List Value) (hl : news.length = m * size) (h0 : sa = none → m = 0)
    (hnews : ∀ ad, sa = some ad → ∀ j u, news[j]? = some u → w.cell? (ad.add j) = some u) (h1 : ∀ u ∈ news, u.oneCell' = true) (h63 : n + m ≤ maxLen) (hbytes : (n + m) * bytes ≤ 140737488355328) (hbase : base ≤ w.heap.size) :
    ∃ v' w', (Builtin.append_ #[t, t] ty #[v, .slice sa m c]).run P w = .ok v' w' ∧ w'.ownsRow base e size v' (n + m) (xs ++ news) ∧ w.grownBy w' v.ownBlock ∧ (v'.ownBlock = v.ownBlock ∨ v'.ownBlock = some w.heap.size) := by
  cases sa with
  | none =>
    have hm := h0 rfl
    subst hm
    have hn : news = [] := List.eq_nil_of_length_eq_zero (by simpa using hl)
    subst hn
    exact ⟨v, w, run_append_none w base _ _ e i size ht hi c v n xs hown, by simpa using hown, World.grownBy.refl _ _, .inl rfl⟩
  | some ad =>
    obtain ⟨v', w', hr, h2, h3, _, h5⟩ := run_append_own_at (P := P) w base t ty e i z size bytes ht hi hz hsize hby hzs hsz v n xs hown ad m c news hl (hnews ad rfl) h1 h63 hbytes hbase
    exact ⟨v', w', hr, h2, h3, h5⟩
theorem wp_append_src {P : Program} (w : World) {o : Oper} {a : Act} {K : Act → World → Prop} {Q : Exit → Act → World → Prop} (s x : Operand) (t : TypeId)
    (ho : o.op = .call { callee := .builtin .append, args := #[s, x], argTypes := #[t, t] })
    (base : Nat) (e : TypeId) (i : TypeInfo) (z : Value) (size bytes : Nat) (ht : P.underlying t = some (.slice e)) (hi : P.info? e = some i) (hz : i.zero = some z)
    (hsize : i.size = size) (hby : i.bytes = bytes) (hzs : z.cells.size = size) (hsz : 0 < size)
    (v : Value) (n : Nat) (xs : List Value) (hs : a.eval s = v) (hown : w.ownsRow base e size v n xs) (sa : Option Addr) (m c : Nat) (news : List Value) (hx : a.eval x = .slice sa m c) (hl : news.length = m * size) (h0 : sa = none → m = 0)
    (hnews : ∀ ad, sa = some ad → ∀ j u, news[j]? = some u → w.cell? (ad.add j) = some u) (h1 : ∀ u ∈ news, u.oneCell' = true) (h63 : n + m ≤ maxLen) (hbytes : (n + m) * bytes ≤ 140737488355328) (hbase : base ≤ w.heap.size)
    (h : ∀ v' w', w'.ownsRow base e size v' (n + m) (xs ++ news) → w.grownBy w' v.ownBlock → (v'.ownBlock = v.ownBlock ∨ v'.ownBlock = some w.heap.size) → K (a.put o.dst v') w') : o.wp P a w K Q := by
  obtain ⟨v', w', hr, h2, h3, h4⟩ := run_append_src (P := P) w t o.type e base i z size bytes ht hi hz hsize hby hzs hsz v n xs hown sa m c news hl h0 hnews h1 h63 hbytes hbase
  unfold Oper.wp execOp
  simp only [ho, resolve, invoke, builtin, Sem.run_bind, Sem.run_pure, Result.andThen_ok, List.map_toArray, List.map_cons, List.map_nil, hs, hx, hr]
  exact h v' w' h2 h3 h4
theorem wpList_append_src {P : Program} (w : World) {ops : Array Oper} {rest : List Oper} {o : Oper} {a : Act} {Q : Exit → Act → World → Prop} (hgd : o.guard = none) (s x : Operand) (t : TypeId)
    (ho : o.op = .call { callee := .builtin .append, args := #[s, x], argTypes := #[t, t] })
    (base : Nat) (e : TypeId) (i : TypeInfo) (z : Value) (size bytes : Nat) (ht : P.underlying t = some (.slice e)) (hi : P.info? e = some i) (hz : i.zero = some z)
    (hsize : i.size = size) (hby : i.bytes = bytes) (hzs : z.cells.size = size) (hsz : 0 < size)
    (v : Value) (n : Nat) (xs : List Value) (hs : a.eval s = v) (hown : w.ownsRow base e size v n xs) (sa : Option Addr) (m c : Nat) (news : List Value) (hx : a.eval x = .slice sa m c) (hl : news.length = m * size) (h0 : sa = none → m = 0)
    (hnews : ∀ ad, sa = some ad → ∀ j u, news[j]? = some u → w.cell? (ad.add j) = some u) (h1 : ∀ u ∈ news, u.oneCell' = true) (h63 : n + m ≤ maxLen) (hbytes : (n + m) * bytes ≤ 140737488355328) (hbase : base ≤ w.heap.size)
    (h : ∀ v' w', w'.ownsRow base e size v' (n + m) (xs ++ news) → w.grownBy w' v.ownBlock → (v'.ownBlock = v.ownBlock ∨ v'.ownBlock = some w.heap.size) → wpList P ops Q rest (a.put o.dst v') w') : wpList P ops Q (o :: rest) a w :=
  wpList_plain hgd fun _ hK => wp_append_src w s x t ho base e i z size bytes ht hi hz hsize hby hzs hsz v n xs hs hown sa m c news hx hl h0 hnews h1 h63 hbytes hbase fun v' w' h2 h3 h4 => hK _ _ (h v' w' h2 h3 h4)
theorem stepAppSrc {P : Program} (w : World) {ops : Array Oper} {o : Oper} {a : Act} {K : Act → World → Prop} {Q : Exit → Act → World → Prop} {E : Prop} (hgd : o.guard = none) (s x : Operand) (t : TypeId)
    (ho : o.op = .call { callee := .builtin .append, args := #[s, x], argTypes := #[t, t] })
    (base : Nat) (e : TypeId) (i : TypeInfo) (z : Value) (size bytes : Nat) (ht : P.underlying t = some (.slice e)) (hi : P.info? e = some i) (hz : i.zero = some z)
    (hsize : i.size = size) (hby : i.bytes = bytes) (hzs : z.cells.size = size) (hsz : 0 < size)
    (v : Value) (n : Nat) (xs : List Value) (hs : a.eval s = v) (hown : w.ownsRow base e size v n xs) (sa : Option Addr) (m c : Nat) (news : List Value) (hx : a.eval x = .slice sa m c) (hl : news.length = m * size) (h0 : sa = none → m = 0)
    (hnews : ∀ ad, sa = some ad → ∀ j u, news[j]? = some u → w.cell? (ad.add j) = some u) (h1 : ∀ u ∈ news, u.oneCell' = true) (h63 : n + m ≤ maxLen) (hbytes : (n + m) * bytes ≤ 140737488355328) (hbase : base ≤ w.heap.size)
    (h : ∀ v' w', w'.ownsRow base e size v' (n + m) (xs ++ news) → w.grownBy w' v.ownBlock → (v'.ownBlock = v.ownBlock ∨ v'.ownBlock = some w.heap.size) → K (a.put o.dst v') w') :
    if Region.wanted o (yielded ops a.tmps) = true then Oper.wp P o a w K Q else E := by
  have hw : Region.wanted o (yielded ops a.tmps) = true := by simp [Region.wanted, hgd]
  rw [if_pos hw]
  exact wp_append_src w s x t ho base e i z size bytes ht hi hz hsize hby hzs hsz v n xs hs hown sa m c news hx hl h0 hnews h1 h63 hbytes hbase h
theorem infoTodo : (Tryd.prog.info? 54).map (fun i => (i.zero, i.size, i.bytes)) = some (some (.agg #[.int .i64 0, .int .i64 0, .string ⟨#[]⟩, .slice none 0 0, .slice none 0 0, .slice none 0 0]), 6, 104) := by kernel_rfl

/-- a part on the list: a type, where its Labels and its Kids lie; the names around it, and where they lie -/
abbrev WTk := Ty × (Option Addr × Nat) × (Option Addr × Nat) × List ByteArray × (Option Addr × Nat)
def wkOf (t : WTk) : Wk := (t.1, t.2.2.2.1)
def wC (t : WTk) : List Value := [.int .i64 t.1.kind, .int .i64 t.1.so, .string t.1.name, .slice t.2.1.1 t.1.labels.length t.2.1.2, .slice t.2.2.1.1 t.1.kids.length t.2.2.1.2, .slice t.2.2.2.2.1 t.2.2.2.1.length t.2.2.2.2.2]
def wCs (ts : List WTk) : List Value := ts.flatMap wC
theorem wCs_len (ts : List WTk) : (wCs ts).length = ts.length * 6 := by
  unfold wCs
  induction ts with
  | nil => rfl
  | cons p r ih => simp only [List.flatMap_cons, List.length_append, ih, List.length_cons, wC, List.length_nil]; omega
theorem wCs_app (a b : List WTk) : wCs (a ++ b) = wCs a ++ wCs b := by unfold wCs; rw [List.flatMap_append]
theorem wCs_one (ts : List WTk) : ∀ y ∈ wCs ts, y.oneCell' = true := by
  intro y hy
  obtain ⟨p, _, hp⟩ := List.mem_flatMap.1 hy
  simp only [wC, List.mem_cons, List.not_mem_nil, or_false] at hp
  rcases hp with rfl | rfl | rfl | rfl | rfl | rfl <;> rfl
/-- what the parts on the list name lies in memory: of the type below block B, of the names now -/
def TOW (w : World) (W : World) (ts : List WTk) : Prop := ∀ t ∈ ts, TyBw t.1 ∧ LA w w.heap.size t.1.labels t.2.1.1 ∧ (∃ d, KT w w.heap.size d t.1.kids t.2.2.1.1) ∧ LA W W.heap.size t.2.2.2.1 t.2.2.2.2.1 ∧ t.2.2.2.1.length ≤ 60
theorem TOW.keep {w W W' : World} {ts : List WTk} (h : TOW w W ts) (hb : Below W.heap.size W W') : TOW w W' ts := fun t ht =>
  have q := h t ht
  ⟨q.1, q.2.1, q.2.2.1, NAt.mono hb.size (NAt.keep hb q.2.2.2.1), q.2.2.2.2⟩
theorem TOW.app {w W : World} {a b : List WTk} (h1 : TOW w W a) (h2 : TOW w W b) : TOW w W (a ++ b) := fun t ht => (List.mem_append.1 ht).elim (h1 t) (h2 t)
/-- the first one's cells, and the others' -/
theorem own_first {W : World} {base : Nat} {u : Value} {t : WTk} {r : List WTk} (h : W.ownsRow base 54 6 u (r.length + 1) (wCs (t :: r))) :
    ∃ g c, u = .slice (some ⟨g, 0, none⟩) (r.length + 1) c ∧ base ≤ g ∧ g < W.heap.size ∧ (∀ j y, (wC t)[j]? = some y → W.cell? ⟨g, j, none⟩ = some y) ∧ ∀ j y, (wCs r)[j]? = some y → W.cell? ⟨g, 6 + j, none⟩ = some y := by
  obtain ⟨g, c, e, h1, h2, hc⟩ := (own_cells h).resolve_left (fun h => by have := h.2.1; omega)
  have ea : wCs (t :: r) = wC t ++ wCs r := rfl
  have hl : (wC t).length = 6 := rfl
  refine ⟨g, c, e, h1, h2, fun j y hj => hc j y ?_, fun j y hj => hc (6 + j) y ?_⟩
  · rw [ea, List.getElem?_append_left]
    · exact hj
    · rcases Nat.lt_or_ge j (wC t).length with q | q
      · exact q
      · rw [List.getElem?_eq_none q] at hj; cases hj
  · rw [ea, List.getElem?_append_right (by omega), hl]
    simpa using hj
end Go.Proofs.YtoieacgojkgjgabDoor
