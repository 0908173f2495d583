/-
  How a choice lies in memory while it is read.
-/
import Derived.Test.YtefdekfgmbgbbaaGreatDoorKn
namespace Go.Proofs.YtefdekfgmbgbbaaGreatDoor
open Go.RowKit Go.Shelf

/-- a type and where its labels and its parts lie -/
abbrev KVt := Ty × Option Addr × Nat × Option Addr × Nat
def kvC (x : KVt) : List Value := [.int .i64 x.1.kind, .int .i64 x.1.so, .string x.1.name, .slice x.2.1 x.1.labels.length x.2.2.1, .slice x.2.2.2.1 x.1.kids.length x.2.2.2.2]
def kvCs (xs : List KVt) : List Value := xs.flatMap kvC
theorem kvCs_nil : kvCs [] = [] := rfl
theorem kvCs_app (xs : List KVt) (x : KVt) : kvCs (xs ++ [x]) = kvCs xs ++ kvC x := by unfold kvCs; simp
theorem kvCs_len (xs : List KVt) : (kvCs xs).length = xs.length * 5 := by
  unfold kvCs
  induction xs with
  | nil => rfl
  | cons x xs ih => rw [List.flatMap_cons, List.length_append, ih]; simp [kvC]; omega
theorem kvC_one (x : KVt) : ∀ y ∈ kvC x, y.oneCell' = true := by intro y hy; simp [kvC] at hy; rcases hy with rfl | rfl | rfl | rfl | rfl <;> rfl
theorem kvCs_at : ∀ (xs : List KVt) (i : Nat) (h : i < xs.length) (j : Nat), j < 5 → (kvCs xs)[i * 5 + j]? = (kvC xs[i])[j]?
  | x :: xs, 0, _, j, hj => by
    unfold kvCs
    rw [List.flatMap_cons, List.getElem?_append_left (by simp [kvC]; omega)]
    simp
  | x :: xs, i + 1, h, j, hj => by
    have ih := kvCs_at xs i (by simpa using h) j hj
    unfold kvCs at ih ⊢
    rw [List.flatMap_cons, List.getElem?_append_right (by simp [kvC]; omega)]
    have e : (i + 1) * 5 + j - (kvC x).length = i * 5 + j := by simp [kvC]; omega
    rw [e, ih]
    rfl
/-- new since w, and neither the labels' block nor the parts' -/
def OB (w W : World) (v u : Value) (b : Nat) : Prop := w.heap.size + 2 ≤ b ∧ b < W.heap.size ∧ v.ownBlock ≠ some b ∧ u.ownBlock ≠ some b
structure CH (w : World) (rb n : Nat) (k : Int) (ls : List ByteArray) (xs : List KVt) (v u : Value) (W : World) : Prop where
  z : ZT W w.heap.size
  c0 : W.cell? ⟨w.heap.size + 1, 0, none⟩ = some (.int .i64 k)
  c1 : W.cell? ⟨w.heap.size + 1, 1, none⟩ = some (.int .i64 0)
  c2 : W.cell? ⟨w.heap.size + 1, 2, none⟩ = some (.string ⟨#[]⟩)
  c3 : W.cell? ⟨w.heap.size + 1, 3, none⟩ = some v
  c4 : W.cell? ⟨w.heap.size + 1, 4, none⟩ = some u
  f3 : W.frozen? ⟨w.heap.size + 1, 3, none⟩ = false
  f4 : W.frozen? ⟨w.heap.size + 1, 4, none⟩ = false
  lt : w.heap.size + 1 < W.heap.size
  ol : W.ownsRow (w.heap.size + 2) 9 1 v ls.length (nCs ls)
  ok : W.ownsRow (w.heap.size + 2) 31 5 u xs.length (kvCs xs)
  kd : ∀ x ∈ xs, TyBd x.1 x.2.2.1 x.2.2.2.2 ∧ LQ W (OB w W v u) x.1.labels x.2.1 ∧ KQ W (OB w W v u) n x.1.kids x.2.2.2.1
  fr : FR rb w W
theorem own_type {W : World} {base : Nat} {e : TypeId} {size : Nat} {v : Value} {n : Nat} {xs : List Value} (h : W.ownsRow base e size v n xs) (g : Nat) (hg : v.ownBlock = some g) : ∃ cur, W.heap[g]? = some (.cells cur e (0, 0)) := by
  rcases h.2 with ⟨rfl, _⟩ | ⟨g', cap, cur, rfl, _, hc, _⟩
  · cases hg
  · simp [Value.ownBlock] at hg
    subst hg
    exact ⟨cur, hc⟩
theorem CH.apart {w : World} {rb n : Nat} {k : Int} {ls : List ByteArray} {xs : List KVt} {v u : Value} {W : World} (h : CH w rb n k ls xs v u W) (g : Nat) (hv : v.ownBlock = some g) : u.ownBlock ≠ some g := by
  intro hu
  obtain ⟨c1, h1⟩ := own_type h.ol g hv
  obtain ⟨c2, h2⟩ := own_type h.ok g hu
  rw [h1] at h2
  injection h2 with h2
  injection h2 with _ h2
  exact absurd h2 (by decide)
/-- nothing that the choice is made of has changed -/
theorem CH.keep {w : World} {rb n : Nat} {k : Int} {ls : List ByteArray} {xs : List KVt} {v u : Value} {W W' : World} (h : CH w rb n k ls xs v u W) (hf : FR rb W W') (hr : rb < w.heap.size) : CH w rb n k ls xs v u W' := by
  have hl := h.lt
  have hne : ∀ {e size} {x : Value} {m : Nat} {ys : List Value}, W.ownsRow (w.heap.size + 2) e size x m ys → x.ownBlock = none ∨ x.ownBlock ≠ some rb := fun ho => .inr (fun e => by have := (ho.lt _ e).1; omega)
  refine ⟨h.z.keep hf (by omega), (hf.cellO hl (by omega)).trans h.c0, (hf.cellO hl (by omega)).trans h.c1, (hf.cellO hl (by omega)).trans h.c2, (hf.cellO hl (by omega)).trans h.c3, (hf.cellO hl (by omega)).trans h.c4, (hf.frozenO hl (by omega)).trans h.f3, (hf.frozenO hl (by omega)).trans h.f4, Nat.lt_of_lt_of_le hl hf.size, h.ol.kept hf (hne h.ol), h.ok.kept hf (hne h.ok), fun x hx => ?_, h.fr.trans hf⟩
  obtain ⟨a, b, c⟩ := h.kd x hx
  have hk : ∀ b o, OB w W v u b → W'.cell? ⟨b, o, none⟩ = W.cell? ⟨b, o, none⟩ := fun b o hb => hf.cellO hb.2.1 (by have := hb.1; omega)
  have hq : ∀ b, OB w W v u b → OB w W' v u b := fun b hb => ⟨hb.1, Nat.lt_of_lt_of_le hb.2.1 hf.size, hb.2.2⟩
  exact ⟨a, b.keep hk hq, c.keep hk hq⟩
/-- what an append and a store into the choice's own block leave -/
theorem step_cells {W1 W3 : World} {o : Obj} {row : Option Nat} (hg : (W1.alloc o).grownBy W3 row) {tb oo : Nat} {x : Value} : ∀ b, b < W1.heap.size → row ≠ some b → b ≠ tb → (W3.setCell ⟨tb, oo, none⟩ x).heap[b]? = W1.heap[b]? := by
  intro b hb hr ht
  rw [Below.heap_setCell _ _ _ _ (fun e => ht (by simpa using e)), hg.block b (by simp; omega) (fun e => hr e.symm)]
  exact heap_alloc_old W1 o hb
theorem row_set {W : World} {tb oo base e size m : Nat} {x v : Value} {ys : List Value} (h : W.ownsRow base e size v m ys) (hb : tb < base) : (W.setCell ⟨tb, oo, none⟩ x).ownsRow base e size v m ys :=
  h.kept (row := some tb) (FR.set2 oo x) (.inr (fun e => by have := (h.lt _ e).1; omega))
theorem CH.lab {w : World} {rb n : Nat} {k : Int} {ls : List ByteArray} {xs : List KVt} {v u v' : Value} {W1 W3 : World} (h : CH w rb n k ls xs v u W1) (o : Obj) (lab : ByteArray) (hg : (W1.alloc o).grownBy W3 v.ownBlock)
    (ho : W3.ownsRow (w.heap.size + 2) 9 1 v' (ls.length + 1) (nCs ls ++ [.string lab])) (hn : v'.ownBlock = v.ownBlock ∨ v'.ownBlock = some (W1.alloc o).heap.size) : CH w rb n k (ls ++ [lab]) xs v' u (W3.setCell ⟨w.heap.size + 1, 3, none⟩ v') := by
  have hl := h.lt
  have hbase : ∀ g, v.ownBlock = some g → w.heap.size + 2 ≤ g := fun g e => (h.ol.lt g e).1
  have hsz : W1.heap.size < W3.heap.size := by have := hg.size; simp at this; omega
  have hblk := step_cells hg (tb := w.heap.size + 1) (oo := 3) (x := v')
  have hcel : ∀ b oo, b < W1.heap.size → v.ownBlock ≠ some b → b ≠ w.heap.size + 1 → (W3.setCell ⟨w.heap.size + 1, 3, none⟩ v').cell? ⟨b, oo, none⟩ = W1.cell? ⟨b, oo, none⟩ := fun b oo h1 h2 h3 => World.cell?_of_block (a := ⟨b, oo, none⟩) (hblk b h1 h2 h3)
  have hfro : ∀ b oo, b < W1.heap.size → v.ownBlock ≠ some b → b ≠ w.heap.size + 1 → (W3.setCell ⟨w.heap.size + 1, 3, none⟩ v').frozen? ⟨b, oo, none⟩ = W1.frozen? ⟨b, oo, none⟩ := fun b oo h1 h2 h3 => World.frozen?_of_block (a := ⟨b, oo, none⟩) (hblk b h1 h2 h3)
  have htb : v.ownBlock ≠ some (w.heap.size + 1) := fun e => by have := hbase _ e; omega
  have hzb : v.ownBlock ≠ some w.heap.size := fun e => by have := hbase _ e; omega
  have ht3 : ∀ oo, W3.cell? ⟨w.heap.size + 1, oo, none⟩ = W1.cell? ⟨w.heap.size + 1, oo, none⟩ := fun oo => World.cell?_of_block (a := ⟨w.heap.size + 1, oo, none⟩) ((hg.block _ (by simp; omega) (fun e => htb e.symm)).trans (heap_alloc_old W1 o hl))
  have hf3 : ∀ oo, W3.frozen? ⟨w.heap.size + 1, oo, none⟩ = W1.frozen? ⟨w.heap.size + 1, oo, none⟩ := fun oo => World.frozen?_of_block (a := ⟨w.heap.size + 1, oo, none⟩) ((hg.block _ (by simp; omega) (fun e => htb e.symm)).trans (heap_alloc_old W1 o hl))
  have hoth : ∀ oo, oo ≠ 3 → (W3.setCell ⟨w.heap.size + 1, 3, none⟩ v').cell? ⟨w.heap.size + 1, oo, none⟩ = W1.cell? ⟨w.heap.size + 1, oo, none⟩ := fun oo hoo => (World.cell?_setCell_other _ _ _ _ (by intro e; simp only [Addr.mk.injEq] at e; omega)).trans (ht3 oo)
  have hzl := h.z.lt
  refine ⟨⟨by simp; omega, (hcel _ _ hzl hzb (by omega)).trans h.z.c0, (hcel _ _ hzl hzb (by omega)).trans h.z.c1, (hcel _ _ hzl hzb (by omega)).trans h.z.c2, (hcel _ _ hzl hzb (by omega)).trans h.z.c3, (hcel _ _ hzl hzb (by omega)).trans h.z.c4, (hfro _ _ hzl hzb (by omega)).trans h.z.f0, (hfro _ _ hzl hzb (by omega)).trans h.z.f1, (hfro _ _ hzl hzb (by omega)).trans h.z.f2, (hfro _ _ hzl hzb (by omega)).trans h.z.f3, (hfro _ _ hzl hzb (by omega)).trans h.z.f4⟩,
    (hoth 0 (by omega)).trans h.c0, (hoth 1 (by omega)).trans h.c1, (hoth 2 (by omega)).trans h.c2, World.cell?_setCell_same _ _ _ ((ht3 3).trans h.c3), (hoth 4 (by omega)).trans h.c4, by rw [World.frozen?_setCell, hf3]; exact h.f3, by rw [World.frozen?_setCell, hf3]; exact h.f4, by simp; omega, ?_, ?_, ?_, ?_⟩
  · have := row_set (tb := w.heap.size + 1) (oo := 3) (x := v') ho (by omega)
    simpa using this
  · have h1 : W3.ownsRow (w.heap.size + 2) 31 5 u xs.length (kvCs xs) := (h.ok.kept (FR.al (pb := W1.heap.size) o) (.inr (fun e => by have := (h.ok.lt _ e).2; omega))).kept hg (by
      cases hu : u.ownBlock with
      | none => exact .inl rfl
      | some g => exact .inr (fun e => h.apart g e.symm hu))
    exact row_set h1 (by omega)
  · intro x hx
    obtain ⟨a, b, c⟩ := h.kd x hx
    have hk : ∀ b oo, OB w W1 v u b → (W3.setCell ⟨w.heap.size + 1, 3, none⟩ v').cell? ⟨b, oo, none⟩ = W1.cell? ⟨b, oo, none⟩ := fun b oo hb => hcel b oo hb.2.1 hb.2.2.1 (by have := hb.1; omega)
    have hq : ∀ b, OB w W1 v u b → OB w (W3.setCell ⟨w.heap.size + 1, 3, none⟩ v') v' u b := fun b hb => ⟨hb.1, by have := hb.2.1; simp; omega, by
      rcases hn with e | e
      · rw [e]; exact hb.2.2.1
      · rw [e]; intro e'; injection e' with e'; have := hb.2.1; simp at e'; omega, hb.2.2.2⟩
    exact ⟨a, b.keep hk hq, c.keep hk hq⟩
  · refine ⟨hg.os.trans h.fr.os, hg.tape.trans h.fr.tape, hg.output.trans h.fr.output, by have := h.fr.size; simp; omega, fun j hj hr => ?_⟩
    have hjs := h.fr.size
    rw [hblk j (by omega) (fun e => by have := hbase _ e; omega) (by omega)]
    exact h.fr.block j hj hr
theorem CH.kid {w : World} {rb n : Nat} {k : Int} {ls : List ByteArray} {xs : List KVt} {v u u' : Value} {W1 W0 W3 : World} (h : CH w rb n k ls xs v u W1) (o : Obj) (x : KVt) (hg : (W1.alloc o).grownBy W3 u.ownBlock)
    (hx : GT W0 W1 n x.1 x.2.1 x.2.2.1 x.2.2.2.1 x.2.2.2.2) (h0 : CH w rb n k ls xs v u W0)
    (ho : W3.ownsRow (w.heap.size + 2) 31 5 u' (xs.length + 1) (kvCs xs ++ kvC x)) (hn : u'.ownBlock = u.ownBlock ∨ u'.ownBlock = some (W1.alloc o).heap.size) : CH w rb n k ls (xs ++ [x]) v u' (W3.setCell ⟨w.heap.size + 1, 4, none⟩ u') := by
  have hl := h.lt
  have hbase : ∀ g, u.ownBlock = some g → w.heap.size + 2 ≤ g := fun g e => (h.ok.lt g e).1
  have hsz : W1.heap.size < W3.heap.size := by have := hg.size; simp at this; omega
  have hblk := step_cells hg (tb := w.heap.size + 1) (oo := 4) (x := u')
  have hcel : ∀ b oo, b < W1.heap.size → u.ownBlock ≠ some b → b ≠ w.heap.size + 1 → (W3.setCell ⟨w.heap.size + 1, 4, none⟩ u').cell? ⟨b, oo, none⟩ = W1.cell? ⟨b, oo, none⟩ := fun b oo h1 h2 h3 => World.cell?_of_block (a := ⟨b, oo, none⟩) (hblk b h1 h2 h3)
  have hfro : ∀ b oo, b < W1.heap.size → u.ownBlock ≠ some b → b ≠ w.heap.size + 1 → (W3.setCell ⟨w.heap.size + 1, 4, none⟩ u').frozen? ⟨b, oo, none⟩ = W1.frozen? ⟨b, oo, none⟩ := fun b oo h1 h2 h3 => World.frozen?_of_block (a := ⟨b, oo, none⟩) (hblk b h1 h2 h3)
  have htb : u.ownBlock ≠ some (w.heap.size + 1) := fun e => by have := hbase _ e; omega
  have hzb : u.ownBlock ≠ some w.heap.size := fun e => by have := hbase _ e; omega
  have ht3 : ∀ oo, W3.cell? ⟨w.heap.size + 1, oo, none⟩ = W1.cell? ⟨w.heap.size + 1, oo, none⟩ := fun oo => World.cell?_of_block (a := ⟨w.heap.size + 1, oo, none⟩) ((hg.block _ (by simp; omega) (fun e => htb e.symm)).trans (heap_alloc_old W1 o hl))
  have hf3 : ∀ oo, W3.frozen? ⟨w.heap.size + 1, oo, none⟩ = W1.frozen? ⟨w.heap.size + 1, oo, none⟩ := fun oo => World.frozen?_of_block (a := ⟨w.heap.size + 1, oo, none⟩) ((hg.block _ (by simp; omega) (fun e => htb e.symm)).trans (heap_alloc_old W1 o hl))
  have hoth : ∀ oo, oo ≠ 4 → (W3.setCell ⟨w.heap.size + 1, 4, none⟩ u').cell? ⟨w.heap.size + 1, oo, none⟩ = W1.cell? ⟨w.heap.size + 1, oo, none⟩ := fun oo hoo => (World.cell?_setCell_other _ _ _ _ (by intro e; simp only [Addr.mk.injEq] at e; omega)).trans (ht3 oo)
  have hzl := h.z.lt
  refine ⟨⟨by simp; omega, (hcel _ _ hzl hzb (by omega)).trans h.z.c0, (hcel _ _ hzl hzb (by omega)).trans h.z.c1, (hcel _ _ hzl hzb (by omega)).trans h.z.c2, (hcel _ _ hzl hzb (by omega)).trans h.z.c3, (hcel _ _ hzl hzb (by omega)).trans h.z.c4, (hfro _ _ hzl hzb (by omega)).trans h.z.f0, (hfro _ _ hzl hzb (by omega)).trans h.z.f1, (hfro _ _ hzl hzb (by omega)).trans h.z.f2, (hfro _ _ hzl hzb (by omega)).trans h.z.f3, (hfro _ _ hzl hzb (by omega)).trans h.z.f4⟩,
    (hoth 0 (by omega)).trans h.c0, (hoth 1 (by omega)).trans h.c1, (hoth 2 (by omega)).trans h.c2, (hoth 3 (by omega)).trans h.c3, World.cell?_setCell_same _ _ _ ((ht3 4).trans h.c4), by rw [World.frozen?_setCell, hf3]; exact h.f3, by rw [World.frozen?_setCell, hf3]; exact h.f4, by simp; omega, ?_, ?_, ?_, ?_⟩
  · have h1 : W3.ownsRow (w.heap.size + 2) 9 1 v ls.length (nCs ls) := (h.ol.kept (FR.al (pb := W1.heap.size) o) (.inr (fun e => by have := (h.ol.lt _ e).2; omega))).kept hg (by
      cases hv : v.ownBlock with
      | none => exact .inl rfl
      | some g => exact .inr (fun e => h.apart g hv e.symm))
    exact row_set h1 (by omega)
  · have := row_set (tb := w.heap.size + 1) (oo := 4) (x := u') ho (by omega)
    rw [kvCs_app]
    simpa using this
  · have hk : ∀ b oo, OB w W1 v u b → (W3.setCell ⟨w.heap.size + 1, 4, none⟩ u').cell? ⟨b, oo, none⟩ = W1.cell? ⟨b, oo, none⟩ := fun b oo hb => hcel b oo hb.2.1 hb.2.2.2 (by have := hb.1; omega)
    have hq : ∀ b, OB w W1 v u b → OB w (W3.setCell ⟨w.heap.size + 1, 4, none⟩ u') v u' b := fun b hb => ⟨hb.1, by have := hb.2.1; simp; omega, hb.2.2.1, by
      rcases hn with e | e
      · rw [e]; exact hb.2.2.2
      · rw [e]; intro e'; injection e' with e'; have := hb.2.1; simp at e'; omega⟩
    intro y hy
    rcases List.mem_append.1 hy with hy | hy
    · obtain ⟨a, b, c⟩ := h.kd y hy
      exact ⟨a, b.keep hk hq, c.keep hk hq⟩
    · have : y = x := by simpa using hy
      subst this
      have hob : ∀ b, NW W0 W1 b → OB w W1 v u b := fun b hb => ⟨by have := h0.lt; have := hb.1; omega, hb.2, fun e => by have := (h0.ol.lt _ e).2; have := hb.1; omega, fun e => by have := (h0.ok.lt _ e).2; have := hb.1; omega⟩
      exact ⟨hx.bd, hx.la.keep (fun b oo hb => hk b oo (hob b hb)) (fun b hb => hq b (hob b hb)), hx.ka.keep (fun b oo hb => hk b oo (hob b hb)) (fun b hb => hq b (hob b hb))⟩
  · refine ⟨hg.os.trans h.fr.os, hg.tape.trans h.fr.tape, hg.output.trans h.fr.output, by have := h.fr.size; simp; omega, fun j hj hr => ?_⟩
    have hjs := h.fr.size
    rw [hblk j (by omega) (fun e => by have := hbase _ e; omega) (by omega)]
    exact h.fr.block j hj hr
/-- at the start -/
theorem CH.new (w : World) (rb n : Nat) (k : Int) : CH w rb n k [] [] (.slice none 0 0) (.slice none 0 0) ((w.alloc (.cells #[.int .i64 0, .int .i64 0, .string ⟨#[]⟩, .slice none 0 0, .slice none 0 0] 31)).alloc (.cells #[.int .i64 k, .int .i64 0, .string ⟨#[]⟩, .slice none 0 0, .slice none 0 0] 31)) :=
  ⟨(ZT.new w).keep (FR.al (pb := w.heap.size + 1) _) (by omega), by go_cell, by go_cell, by go_cell, by go_cell, by go_cell, by go_simp, by go_simp, by simp, World.ownsRow_nil _ _ _ _, World.ownsRow_nil _ _ _ _, fun x hx => (by cases hx), (FR.al _).trans (FR.al _)⟩
/-- at the end: the choice in the block of what is handed back -/
theorem CH.got {w : World} {rb n : Nat} {k : Int} {ls : List ByteArray} {xs : List KVt} {v u : Value} {W : World} (h : CH w rb n k ls xs v u W) (hs : ∀ l ∈ ls, l.size ≤ 2000) (v0 v1 v2 v3 v4 : Value) :
    ∃ al cl ak ck, v = .slice al ls.length cl ∧ u = .slice ak xs.length ck ∧ GT w (st5 W w.heap.size 0 v0 v1 v2 v3 v4) (n + 1) ⟨k, 0, ⟨#[]⟩, ls, xs.map (·.1)⟩ al cl ak ck := by
  have hq : ∀ b, OB w W v u b → NW w (st5 W w.heap.size 0 v0 v1 v2 v3 v4) b := fun b hb => ⟨by have := hb.1; omega, by rw [st5_size]; exact hb.2.1⟩
  have hk : ∀ b oo, w.heap.size + 2 ≤ b → (st5 W w.heap.size 0 v0 v1 v2 v3 v4).cell? ⟨b, oo, none⟩ = W.cell? ⟨b, oo, none⟩ := fun b oo hb => st5_other _ _ _ _ _ _ _ _ _ _ (.inl (by omega))
  have hcap : ∀ {e size m} {x : Value} {ys : List Value}, W.ownsRow (w.heap.size + 2) e size x m ys → ∃ a c, x = .slice a m c ∧ m ≤ c ∧ c ≤ 9223372036854775807 := by
    intro e size m x ys ho
    rcases ho.2 with ⟨rfl, rfl⟩ | ⟨g, cap, cur, rfl, _, _, h1, h2, _⟩
    · exact ⟨none, 0, rfl, Nat.le_refl _, by omega⟩
    · unfold maxLen at h2; exact ⟨_, cap, rfl, h1, by omega⟩
  obtain ⟨al, cl, rfl, hc1, hc2⟩ := hcap h.ol
  obtain ⟨ak, ck, rfl, hd1, hd2⟩ := hcap h.ok
  refine ⟨al, cl, ak, ck, rfl, rfl, ⟨by show (⟨#[]⟩ : ByteArray).size ≤ _; decide, fun l hl => by have := hs l hl; omega, hc1, hc2, by simpa using hd1, hd2⟩, ?_, ?_⟩
  · rcases own_cells h.ol with ⟨_, h0, _⟩ | ⟨g, cap, e, hb, hg, hc⟩
    · exact .inl (List.length_eq_zero_iff.1 h0)
    · injection e with e _ _
      subst e
      exact .inr ⟨g, 0, rfl, ⟨by omega, by rw [st5_size]; exact hg⟩, fun i hi => (hk g _ hb).trans (by rw [Nat.zero_add]; exact hc i _ (by simp [hi]))⟩
  · rcases own_cells h.ok with ⟨_, h0, _⟩ | ⟨g, cap, e, hb, hg, hc⟩
    · have : xs = [] := List.length_eq_zero_iff.1 h0
      subst this
      exact .inl rfl
    · injection e with e _ _
      subst e
      refine .inr ⟨g, 0, rfl, ⟨by omega, by rw [st5_size]; exact hg⟩, fun i hi => ?_⟩
      have hi' : i < xs.length := by simpa using hi
      have e : (xs.map (·.1))[i] = xs[i].1 := by simp
      simp only [e]
      obtain ⟨a, b, c⟩ := h.kd xs[i] (List.getElem_mem hi')
      have hcell : ∀ j, j < 5 → (st5 W w.heap.size 0 v0 v1 v2 v3 v4).cell? ⟨g, 0 + i * 5 + j, none⟩ = (kvC xs[i])[j]? := by
        intro j hj
        rw [hk g _ hb, Nat.zero_add]
        have h1 := kvCs_at xs i hi' j hj
        have h2 : ∃ y, (kvC xs[i])[j]? = some y := by
          have : j < (kvC xs[i]).length := by simp [kvC]; omega
          exact ⟨_, List.getElem?_eq_getElem this⟩
        obtain ⟨y, hy⟩ := h2
        rw [hy] at h1 ⊢
        exact hc _ _ h1
      exact ⟨_, _, _, _, ⟨hcell 0 (by omega), hcell 1 (by omega), hcell 2 (by omega), hcell 3 (by omega), hcell 4 (by omega)⟩, a, b.keep (fun b' oo hb' => hk b' oo hb'.1) hq, c.keep (fun b' oo hb' => hk b' oo hb'.1) hq⟩
end Go.Proofs.YtefdekfgmbgbbaaGreatDoor
