/-
  The memory of types.rebuilt: the type that it makes, its labels and its Kids so far.
-/
import Derived.Test.YtnlpnbelkkgghaaDoorUr
import Derived.Test.YtnlpnbelkkgghaaDoorHn
namespace Go.Proofs.YtnlpnbelkkgghaaDoor
open Go.RowKit Go.Shelf

theorem below_app {w W2 W3 w7 : World} (h : Below w.heap.size w W2) (hb : Below W2.heap.size W2 W3) {u : Option Nat} (hg : W3.grownBy w7 u) (hu : ∀ b, u = some b → w.heap.size ≤ b) {tb : Nat} (ht : w.heap.size ≤ tb) (o : Nat) (v : Value) : Below w.heap.size w (w7.setCell ⟨tb, o, none⟩ v) := by
  have h1 := h.size
  have h2 := hb.size
  have h3 := hg.size
  refine Below.setCell (p := ⟨tb, o, none⟩) ?_ ht v
  exact ⟨hg.os.trans (hb.os.trans h.os), hg.tape.trans (hb.tape.trans h.tape), hg.output.trans (hb.output.trans h.output), by omega, fun b hb' => (hg.block b (by omega) (fun e => by have := hu b e.symm; omega)).trans ((hb.block b (by omega)).trans (h.block b hb'))⟩
theorem part_bd {t : Ty} (h : partT t = true) : t.name.size ≤ 1000 ∧ t.labels.length ≤ 6 ∧ (∀ l ∈ t.labels, l.size ≤ 1000) ∧ t.kids.length ≤ 6 := by
  have hE : ∀ b : ByteArray, b.toList.isEmpty = true → b.size ≤ 1000 := fun b hb => by
    rw [empty_toList] at hb
    rw [of_decide_eq_true hb]
    show (0 : Nat) ≤ 1000
    omega
  have hV : ∀ b : ByteArray, isVr b.data.toList = true → b.size ≤ 1000 := fun b hb => by
    unfold isVr at hb
    rw [Bool.and_eq_true] at hb
    exact (isNm_size hb.1).2
  have hN : t.labels.length = 0 → t.labels.length ≤ 6 ∧ ∀ l ∈ t.labels, l.size ≤ 1000 := fun e => by
    rw [List.length_eq_zero_iff.1 e]
    exact ⟨by simp, fun l hl => by cases hl⟩
  unfold partT at h
  split at h
  · simp only [Bool.and_eq_true, decide_eq_true_eq] at h
    obtain ⟨a, b⟩ := hN h.1.2
    exact ⟨hE _ h.1.1.2, a, b, by omega⟩
  split at h
  · simp only [Bool.and_eq_true, decide_eq_true_eq] at h
    obtain ⟨a, b⟩ := hN h.1.2
    exact ⟨hE _ h.1.1.2, a, b, by omega⟩
  split at h
  · simp only [Bool.and_eq_true, decide_eq_true_eq] at h
    obtain ⟨a, b⟩ := hN h.1.2
    exact ⟨hE _ h.1.1.2, a, b, by omega⟩
  split at h
  · simp only [Bool.and_eq_true, decide_eq_true_eq] at h
    obtain ⟨a1, a2⟩ := labsOK_all h.1.2
    exact ⟨hE _ h.1.1.2, a1, fun l hl => (a2 l hl).2, by omega⟩
  split at h
  · simp only [Bool.and_eq_true, decide_eq_true_eq] at h
    obtain ⟨a, b⟩ := hN h.1.2
    exact ⟨hV _ h.1.1.2, a, b, by omega⟩
  split at h
  · simp only [Bool.and_eq_true, decide_eq_true_eq] at h
    obtain ⟨a, b⟩ := hN h.1.2
    exact ⟨hV _ h.1.1.2, a, b, by omega⟩
  · cases h
/-- a type that is made anew -/
def RBPost (r : Ty) (w : World) (e : Ending) (w' : World) : Prop := (∃ al cl ak ck d, e = .returned (tyVal r al cl ak ck) ∧ TyBd r cl ck ∧ LP w' (fun b => w.heap.size ≤ b ∧ b < w'.heap.size) r.labels al ∧ KP w' (fun b => w.heap.size ≤ b ∧ b < w'.heap.size) d r.kids ak) ∧ Below w.heap.size w w'
/-- the box of the type that is made, its Kids so far, and the result's box -/
structure TBZ (rb : Nat) (t0 : Ty) (la : Option Addr) (lc tb base : Nat) (u : Value) (k : Nat) (ts : List TTk) (W : World) : Prop where
  r : RBX W rb
  o0 : W.cell? ⟨tb, 0, none⟩ = some (.int .i64 t0.kind)
  o1 : W.cell? ⟨tb, 1, none⟩ = some (.int .i64 t0.so)
  o2 : W.cell? ⟨tb, 2, none⟩ = some (.string t0.name)
  o3 : W.cell? ⟨tb, 3, none⟩ = some (.slice la t0.labels.length lc)
  o4 : W.cell? ⟨tb, 4, none⟩ = some u
  fo : ∀ o, W.frozen? ⟨tb, o, none⟩ = false
  lp : LP W (fun b => rb < b ∧ b < base ∧ b ≠ tb) t0.labels la
  own : W.ownsRow base 25 5 u k (tCs ts)
  tok : TOK W (fun b => base ≤ b ∧ b < W.heap.size ∧ u.ownBlock ≠ some b) ts
  ul : ∀ b, u.ownBlock = some b → base ≤ b ∧ b < W.heap.size
  l1 : rb < tb
  l2 : tb < base
  l3 : base ≤ W.heap.size
theorem TBZ.keep {rb : Nat} {t0 : Ty} {la : Option Addr} {lc tb base : Nat} {u : Value} {k : Nat} {ts : List TTk} {W W' : World} (h : TBZ rb t0 la lc tb base u k ts W) (hc : ∀ b, rb ≤ b → b < W.heap.size → W'.heap[b]? = W.heap[b]?) (hs : W.heap.size ≤ W'.heap.size) : TBZ rb t0 la lc tb base u k ts W' := by
  have h1 := h.l1
  have h2 := h.l2
  have h3 := h.l3
  have c : ∀ b o, rb ≤ b → b < W.heap.size → W'.cell? ⟨b, o, none⟩ = W.cell? ⟨b, o, none⟩ := fun b o hb hb' => World.cell?_of_block (a := ⟨b, o, none⟩) (hc b hb hb')
  refine ⟨h.r.blk (hc _ (Nat.le_refl _) (by omega)) hs, (c _ _ (by omega) (by omega)).trans h.o0, (c _ _ (by omega) (by omega)).trans h.o1, (c _ _ (by omega) (by omega)).trans h.o2, (c _ _ (by omega) (by omega)).trans h.o3, (c _ _ (by omega) (by omega)).trans h.o4, fun o => (World.frozen?_of_block (a := ⟨tb, o, none⟩) (hc tb (by omega) (by omega))).trans (h.fo o), h.lp.keep (fun b o hb => c b o (by omega) (by omega)) (fun _ hb => hb), ?_, h.tok.keep (fun b o hb => c b o (by omega) hb.2.1) (fun b hb => ⟨hb.1, by omega, hb.2.2⟩), fun b e => ⟨(h.ul b e).1, by have := (h.ul b e).2; omega⟩, h1, h2, by omega⟩
  refine ⟨h.own.1, h.own.2.imp id fun ⟨g, cp, cur, q1, q2, q3, q4⟩ => ⟨g, cp, cur, q1, q2, ?_, q4⟩⟩
  have hg := h.ul g (by rw [q1]; rfl)
  rw [hc g (by omega) hg.2]
  exact q3
theorem TBZ.below {rb : Nat} {t0 : Ty} {la : Option Addr} {lc tb base : Nat} {u : Value} {k : Nat} {ts : List TTk} {W W' : World} (h : TBZ rb t0 la lc tb base u k ts W) (hb : Below W.heap.size W W') : TBZ rb t0 la lc tb base u k ts W' :=
  h.keep (fun b _ hb2 => hb.block b hb2) hb.size
/-- one Kid more -/
theorem TBZ.app {rb : Nat} {t0 : Ty} {la : Option Addr} {lc tb base : Nat} {u : Value} {k : Nat} {ts : List TTk} {W2 W3 w7 : World} {v7 : Value} {x : TTk} {V : Nat} (h : TBZ rb t0 la lc tb base u k ts W2) (hb : Below W2.heap.size W2 W3) (hV : base ≤ V) (hu : ∀ b, u.ownBlock = some b → b < V)
    (hx : TyBd x.1 x.2.1.2 x.2.2.2 ∧ LP W2 (fun b => V ≤ b ∧ b < W2.heap.size) x.1.labels x.2.1.1 ∧ ∃ d, KP W2 (fun b => V ≤ b ∧ b < W2.heap.size) d x.1.kids x.2.2.1) (hg : W3.grownBy w7 u.ownBlock) (hO : w7.ownsRow base 25 5 v7 (k + 1) (tCs ts ++ tC x)) (hat : v7.ownBlock = u.ownBlock ∨ v7.ownBlock = some W3.heap.size) : TBZ rb t0 la lc tb base v7 (k + 1) (ts ++ [x]) (w7.setCell ⟨tb, 4, none⟩ v7) := by
  have h1 := h.l1
  have h2 := h.l2
  have h3 := h.l3
  have hs3 := hb.size
  have hs7 := hg.size
  have hfr : ∀ b, b < W2.heap.size → u.ownBlock ≠ some b → v7.ownBlock ≠ some b := fun b hb' hn e => by
    rcases hat with q | q
    · exact hn (q ▸ e)
    · rw [q] at e; injection e with e; omega
  have hk : ∀ b, b < W2.heap.size → u.ownBlock ≠ some b → w7.heap[b]? = W2.heap[b]? := fun b hb' hn => (hg.block b (by omega) (fun e => hn e.symm)).trans (hb.block b hb')
  have hnu : ∀ b, b < base → u.ownBlock ≠ some b := fun b hb' e => by have := (h.ul b e).1; omega
  have c : ∀ b o, b < W2.heap.size → u.ownBlock ≠ some b → (b ≠ tb ∨ o ≠ 4) → (w7.setCell ⟨tb, 4, none⟩ v7).cell? ⟨b, o, none⟩ = W2.cell? ⟨b, o, none⟩ := fun b o hb' hn hne => (cell_set _ hne).trans (World.cell?_of_block (a := ⟨b, o, none⟩) (hk b hb' hn))
  have fz : ∀ b o, b < W2.heap.size → u.ownBlock ≠ some b → (w7.setCell ⟨tb, 4, none⟩ v7).frozen? ⟨b, o, none⟩ = W2.frozen? ⟨b, o, none⟩ := fun b o hb' hn => (World.frozen?_setCell _ _ _ _).trans (World.frozen?_of_block (a := ⟨b, o, none⟩) (hk b hb' hn))
  have tbn := hnu tb h2
  have rn := hnu rb (by omega)
  refine ⟨?_, (c _ _ (by omega) tbn (.inr (by omega))).trans h.o0, (c _ _ (by omega) tbn (.inr (by omega))).trans h.o1, (c _ _ (by omega) tbn (.inr (by omega))).trans h.o2, (c _ _ (by omega) tbn (.inr (by omega))).trans h.o3, World.cell?_setCell_same _ _ _ ((World.cell?_of_block (a := ⟨tb, 4, none⟩) (hk tb (by omega) tbn)).trans h.o4), fun o => (fz _ _ (by omega) tbn).trans (h.fo o), h.lp.keep (fun b o hb' => c b o (by omega) (hnu b hb'.2.1) (.inl hb'.2.2)) (fun _ hb' => hb'), ?_, ?_, ?_, h1, h2, by simp; omega⟩
  · have hr := h.r
    exact ⟨(c _ _ (by omega) rn (.inl (by omega))).trans hr.c0, (c _ _ (by omega) rn (.inl (by omega))).trans hr.c1, (c _ _ (by omega) rn (.inl (by omega))).trans hr.c2, (c _ _ (by omega) rn (.inl (by omega))).trans hr.c3, (c _ _ (by omega) rn (.inl (by omega))).trans hr.c4, fun o => (fz _ _ (by omega) rn).trans (hr.f o), by simp; omega⟩
  · rw [tCs_snoc]
    refine ⟨hO.1, hO.2.imp id fun ⟨g, cp, cur, q1, q2, q3, q4⟩ => ⟨g, cp, cur, q1, q2, ?_, q4⟩⟩
    rw [Below.heap_setCell _ _ _ g (fun e => by have e : g = tb := e; omega)]
    exact q3
  · intro q hq
    have hsz : (w7.setCell ⟨tb, 4, none⟩ v7).heap.size = w7.heap.size := by simp
    rw [hsz]
    rcases List.mem_append.1 hq with hq | hq
    · refine h.tok.keep (W' := w7.setCell ⟨tb, 4, none⟩ v7) (fun b o hb' => c b o hb'.2.1 hb'.2.2 (.inl (by omega))) (fun b hb' => ⟨hb'.1, by omega, hfr b hb'.2.1 hb'.2.2⟩) q hq
    · obtain rfl := List.mem_singleton.1 hq
      have k0 : ∀ b, V ≤ b → u.ownBlock ≠ some b := fun b hb' e => by have := hu b e; omega
      have k1 : ∀ b o, (V ≤ b ∧ b < W2.heap.size) → (w7.setCell ⟨tb, 4, none⟩ v7).cell? ⟨b, o, none⟩ = W2.cell? ⟨b, o, none⟩ := fun b o hb' => c b o hb'.2 (k0 b hb'.1) (.inl (by omega))
      have k2 : ∀ b, (V ≤ b ∧ b < W2.heap.size) → (base ≤ b ∧ b < w7.heap.size ∧ v7.ownBlock ≠ some b) := fun b hb' => ⟨by omega, by omega, hfr b hb'.2 (k0 b hb'.1)⟩
      obtain ⟨d, hd⟩ := hx.2.2
      exact ⟨hx.1, hx.2.1.keep k1 k2, d, hd.keep k1 k2⟩
  · intro b e
    have hsz : (w7.setCell ⟨tb, 4, none⟩ v7).heap.size = w7.heap.size := by simp
    rw [hsz]
    rcases hO.2 with ⟨q, _⟩ | ⟨g, cp, cur, q1, q2, q3, q4⟩
    · rw [q] at e; cases e
    · rw [q1] at e
      injection e with e
      have e : g = b := e
      subst e
      exact ⟨q2, (Array.getElem?_eq_some_iff.1 q3).1⟩
/-- the box while the labels are made -/
structure LBZ (rb : Nat) (t0 : Ty) (tb base : Nat) (lv : Value) (j : Nat) (W : World) : Prop where
  r : RBX W rb
  o0 : W.cell? ⟨tb, 0, none⟩ = some (.int .i64 t0.kind)
  o1 : W.cell? ⟨tb, 1, none⟩ = some (.int .i64 t0.so)
  o2 : W.cell? ⟨tb, 2, none⟩ = some (.string t0.name)
  o3 : W.cell? ⟨tb, 3, none⟩ = some lv
  o4 : W.cell? ⟨tb, 4, none⟩ = some (.slice none 0 0)
  fo : ∀ o, W.frozen? ⟨tb, o, none⟩ = false
  own : W.ownsRow base 9 1 lv j ((t0.labels.take j).map Value.string)
  ll : ∀ b, lv.ownBlock = some b → base ≤ b ∧ b < W.heap.size
  l1 : rb < tb
  l2 : tb < base
  l3 : base ≤ W.heap.size
theorem LBZ.keep {rb : Nat} {t0 : Ty} {tb base : Nat} {lv : Value} {j : Nat} {W W' : World} (h : LBZ rb t0 tb base lv j W) (hb : Below W.heap.size W W') : LBZ rb t0 tb base lv j W' := by
  have h1 := h.l1
  have h2 := h.l2
  have h3 := h.l3
  have c : ∀ o, W'.cell? ⟨tb, o, none⟩ = W.cell? ⟨tb, o, none⟩ := fun o => hb.cell (p := ⟨tb, o, none⟩) (by show tb < _; omega)
  exact ⟨h.r.keep hb, (c _).trans h.o0, (c _).trans h.o1, (c _).trans h.o2, (c _).trans h.o3, (c _).trans h.o4, fun o => (hb.frozen (p := ⟨tb, o, none⟩) (by show tb < _; omega)).trans (h.fo o), own_belowG h.own hb, fun b e => ⟨(h.ll b e).1, Nat.lt_of_lt_of_le (h.ll b e).2 hb.size⟩, h1, h2, Nat.le_trans h3 hb.size⟩
/-- one label more -/
theorem LBZ.app {rb : Nat} {t0 : Ty} {tb base : Nat} {lv v7 : Value} {j : Nat} {W2 W3 w7 : World} (h : LBZ rb t0 tb base lv j W2) (hb : Below W2.heap.size W2 W3) (hg : W3.grownBy w7 lv.ownBlock) {xs : List Value} (hO : w7.ownsRow base 9 1 v7 (j + 1) xs) (hx : xs = (t0.labels.take (j + 1)).map Value.string) : LBZ rb t0 tb base v7 (j + 1) (w7.setCell ⟨tb, 3, none⟩ v7) := by
  subst hx
  have h1 := h.l1
  have h2 := h.l2
  have h3 := h.l3
  have hs3 := hb.size
  have hs7 := hg.size
  have hk : ∀ b, b < base → w7.heap[b]? = W2.heap[b]? := fun b hb' => (hg.block b (by omega) (fun e => by have := (h.ll b e.symm).1; omega)).trans (hb.block b (by omega))
  have c : ∀ b o, b < base → (b ≠ tb ∨ o ≠ 3) → (w7.setCell ⟨tb, 3, none⟩ v7).cell? ⟨b, o, none⟩ = W2.cell? ⟨b, o, none⟩ := fun b o hb' hne => (cell_set _ hne).trans (World.cell?_of_block (a := ⟨b, o, none⟩) (hk b hb'))
  have fz : ∀ b o, b < base → (w7.setCell ⟨tb, 3, none⟩ v7).frozen? ⟨b, o, none⟩ = W2.frozen? ⟨b, o, none⟩ := fun b o hb' => (World.frozen?_setCell _ _ _ _).trans (World.frozen?_of_block (a := ⟨b, o, none⟩) (hk b hb'))
  have hr := h.r
  refine ⟨⟨(c _ _ (by omega) (.inl (by omega))).trans hr.c0, (c _ _ (by omega) (.inl (by omega))).trans hr.c1, (c _ _ (by omega) (.inl (by omega))).trans hr.c2, (c _ _ (by omega) (.inl (by omega))).trans hr.c3, (c _ _ (by omega) (.inl (by omega))).trans hr.c4, fun o => (fz _ _ (by omega)).trans (hr.f o), by simp; omega⟩, (c _ _ h2 (.inr (by omega))).trans h.o0, (c _ _ h2 (.inr (by omega))).trans h.o1, (c _ _ h2 (.inr (by omega))).trans h.o2, World.cell?_setCell_same _ _ _ ((World.cell?_of_block (a := ⟨tb, 3, none⟩) (hk tb h2)).trans h.o3), (c _ _ h2 (.inr (by omega))).trans h.o4, fun o => (fz _ _ h2).trans (h.fo o), ?_, ?_, h1, h2, by simp; omega⟩
  · refine ⟨hO.1, hO.2.imp id fun ⟨g, cp, cur, q1, q2, q3, q4⟩ => ⟨g, cp, cur, q1, q2, ?_, q4⟩⟩
    rw [Below.heap_setCell _ _ _ g (fun e => by have e : g = tb := e; omega)]
    exact q3
  · intro b e
    have hsz : (w7.setCell ⟨tb, 3, none⟩ v7).heap.size = w7.heap.size := by simp
    rw [hsz]
    rcases hO.2 with ⟨q, _⟩ | ⟨g, cp, cur, q1, q2, q3, q4⟩
    · rw [q] at e; cases e
    · rw [q1] at e
      injection e with e
      have e : g = b := e
      subst e
      exact ⟨q2, (Array.getElem?_eq_some_iff.1 q3).1⟩
/-- all labels are made -/
theorem LBZ.done {rb : Nat} {t0 : Ty} {tb base : Nat} {la : Option Addr} {lc : Nat} {W : World} (h : LBZ rb t0 tb base (.slice la t0.labels.length lc) t0.labels.length W) : TBZ rb t0 la lc tb W.heap.size (.slice none 0 0) 0 [] W := by
  have h1 := h.l1
  have h2 := h.l2
  have h3 := h.l3
  have ho := h.own
  rw [List.take_length] at ho
  exact ⟨h.r, h.o0, h.o1, h.o2, h.o3, h.o4, h.fo, lp_own ho (fun b hb hb2 => ⟨by omega, hb2, by omega⟩), World.ownsRow_nil _ _ _ _, fun q hq => (by cases hq), fun b e => (by cases e), h1, by omega, Nat.le_refl _⟩
/-- the box of the type, filled -/
theorem LBZ.make {rb : Nat} {t0 : Ty} {tb : Nat} {V : World} (hz : ZTX V tb) (hr : RBX V rb) (h1 : rb < tb) (h2 : tb < V.heap.size) : LBZ rb t0 tb V.heap.size (.slice none 0 0) 0 (st5 V tb 0 (.int .i64 t0.kind) (.int .i64 t0.so) (.string t0.name) (.slice none 0 0) (.slice none 0 0)) := by
  have ta := st5_at V tb 0 ⟨t0.kind, t0.so, t0.name, [], []⟩ none 0 none 0 (fun j hj => by
    rw [Nat.zero_add]
    have : j = 0 ∨ j = 1 ∨ j = 2 ∨ j = 3 ∨ j = 4 := by omega
    rcases this with rfl | rfl | rfl | rfl | rfl
    · exact ⟨_, hz.z0⟩
    · exact ⟨_, hz.z1⟩
    · exact ⟨_, hz.z2⟩
    · exact ⟨_, hz.z3⟩
    · exact ⟨_, hz.z4⟩)
  obtain ⟨t0', t1, t2, t3, t4⟩ := ta
  have c : ∀ b' o, b' ≠ tb → (st5 V tb 0 (.int .i64 t0.kind) (.int .i64 t0.so) (.string t0.name) (.slice none 0 0) (.slice none 0 0)).cell? ⟨b', o, none⟩ = V.cell? ⟨b', o, none⟩ := fun b' o q => st5_other _ _ _ _ _ _ _ _ _ _ (.inl q)
  refine ⟨⟨(c _ _ (by omega)).trans hr.c0, (c _ _ (by omega)).trans hr.c1, (c _ _ (by omega)).trans hr.c2, (c _ _ (by omega)).trans hr.c3, (c _ _ (by omega)).trans hr.c4, fun o => (st5_frozen _ _ _ _ _ _ _ _ _).trans (hr.f o), by rw [st5_size]; exact hr.lt⟩, t0', t1, t2, t3, t4, fun o => (st5_frozen _ _ _ _ _ _ _ _ _).trans (hz.zf o), ?_, fun b e => (by cases e), h1, h2, by rw [st5_size]; exact Nat.le_refl _⟩
  rw [List.take_zero]
  exact World.ownsRow_nil _ _ _ _
end Go.Proofs.YtnlpnbelkkgghaaDoor
