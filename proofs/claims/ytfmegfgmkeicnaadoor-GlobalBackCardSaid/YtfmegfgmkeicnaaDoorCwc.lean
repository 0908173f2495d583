/-
  A choice of conversations while it is read or made: its labels and its parts in rows that a call owns.
-/
import Derived.Test.YtfmegfgmkeicnaaDoorCwb
import Derived.Test.YtfmegfgmkeicnaaDoorKma
namespace Go.Proofs.YtfmegfgmkeicnaaDoor
open Go.RowKit Go.Shelf
/-- a conversation and where its labels and its parts lie -/
abbrev KVc := Cv × Option Addr × Nat × Option Addr × Nat
def kvD (x : KVc) : List Value := [.int .i64 x.1.kind, .string x.1.fm, .string x.1.tt, .int .i64 x.1.so, .string x.1.name, .slice x.2.1 x.1.labels.length x.2.2.1, .slice x.2.2.2.1 x.1.kids.length x.2.2.2.2]
def kvDs (xs : List KVc) : List Value := xs.flatMap kvD
theorem kvDs_app (xs : List KVc) (x : KVc) : kvDs (xs ++ [x]) = kvDs xs ++ kvD x := by unfold kvDs; simp
theorem kvDs_len (xs : List KVc) : (kvDs xs).length = xs.length * 7 := by
  unfold kvDs
  induction xs with
  | nil => rfl
  | cons x xs ih => rw [List.flatMap_cons, List.length_append, ih]; simp [kvD]; omega
theorem kvD_one (x : KVc) : ∀ y ∈ kvD x, y.oneCell' = true := by intro y hy; simp [kvD] at hy; rcases hy with rfl | rfl | rfl | rfl | rfl | rfl | rfl <;> rfl
theorem kvDs_at : ∀ (xs : List KVc) (i : Nat) (h : i < xs.length) (j : Nat), j < 7 → (kvDs xs)[i * 7 + j]? = (kvD xs[i])[j]?
  | x :: xs, 0, _, j, hj => by
    unfold kvDs
    rw [List.flatMap_cons, List.getElem?_append_left (by simp [kvD]; omega)]
    simp
  | x :: xs, i + 1, h, j, hj => by
    have ih := kvDs_at xs i (by simpa using h) j hj
    unfold kvDs at ih ⊢
    rw [List.flatMap_cons, List.getElem?_append_right (by simp [kvD]; omega)]
    have e : (i + 1) * 7 + j - (kvD x).length = i * 7 + j := by simp [kvD]; omega
    rw [e, ih]
    rfl
/-- new since w, and neither the labels' block nor the parts' -/
def OBc (w W : World) (v u : Value) (b : Nat) : Prop := w.heap.size ≤ b ∧ b < W.heap.size ∧ v.ownBlock ≠ some b ∧ u.ownBlock ≠ some b
structure CHC (w : World) (rb n : Nat) (ls : List ByteArray) (xs : List KVc) (v u : Value) (W : World) : Prop where
  ol : W.ownsRow w.heap.size 9 1 v ls.length (nCs ls)
  ok : W.ownsRow w.heap.size 25 7 u xs.length (kvDs xs)
  kd : ∀ x ∈ xs, CvBd x.1 x.2.2.1 x.2.2.2.2 ∧ LQ W (OBc w W v u) x.1.labels x.2.1 ∧ QCv W (OBc w W v u) n x.1.kids x.2.2.2.1
  fr : FR rb w W
theorem own_typeC {W : World} {base : Nat} {e : TypeId} {size : Nat} {v : Value} {n : Nat} {xs : List Value} (h : W.ownsRow base e size v n xs) (g : Nat) (hg : v.ownBlock = some g) : ∃ cur, W.heap[g]? = some (.cells cur e (0, 0)) := by
  rcases h.2 with ⟨rfl, _⟩ | ⟨g', cap, cur, rfl, _, hc, _⟩
  · cases hg
  · simp [Value.ownBlock] at hg
    subst hg
    exact ⟨cur, hc⟩
theorem CHC.apart {w : World} {rb n : Nat} {ls : List ByteArray} {xs : List KVc} {v u : Value} {W : World} (h : CHC w rb n ls xs v u W) (g : Nat) (hv : v.ownBlock = some g) : u.ownBlock ≠ some g := by
  intro hu
  obtain ⟨c1, h1⟩ := own_typeC h.ol g hv
  obtain ⟨c2, h2⟩ := own_typeC h.ok g hu
  rw [h1] at h2
  injection h2 with h2
  injection h2 with _ h2
  exact absurd h2 (by decide)
/-- nothing that the choice is made of has changed -/
theorem CHC.keep {w : World} {rb n : Nat} {ls : List ByteArray} {xs : List KVc} {v u : Value} {W W' : World} (h : CHC w rb n ls xs v u W) (hf : FR rb W W') (hr : rb < w.heap.size) : CHC w rb n ls xs v u W' := by
  have hne : ∀ {e size} {x : Value} {m : Nat} {ys : List Value}, W.ownsRow w.heap.size e size x m ys → x.ownBlock = none ∨ x.ownBlock ≠ some rb := fun ho => .inr (fun e => by have := (ho.lt _ e).1; omega)
  refine ⟨h.ol.kept hf (hne h.ol), h.ok.kept hf (hne h.ok), fun x hx => ?_, h.fr.trans hf⟩
  obtain ⟨a, b, c⟩ := h.kd x hx
  have hk : ∀ b o, OBc w W v u b → W'.cell? ⟨b, o, none⟩ = W.cell? ⟨b, o, none⟩ := fun b o hb => hf.cellO hb.2.1 (by have := hb.1; omega)
  have hq : ∀ b, OBc w W v u b → OBc w W' v u b := fun b hb => ⟨hb.1, Nat.lt_of_lt_of_le hb.2.1 hf.size, hb.2.2⟩
  exact ⟨a, b.keep hk hq, c.keep hk hq⟩
theorem step_cellsC {W1 W3 : World} {o : Obj} {row : Option Nat} (hg : (W1.alloc o).grownBy W3 row) : ∀ b, b < W1.heap.size → row ≠ some b → W3.heap[b]? = W1.heap[b]? := by
  intro b hb hr
  rw [hg.block b (by simp; omega) (fun e => hr e.symm)]
  exact heap_alloc_old W1 o hb
theorem CHC.lab {w : World} {rb n : Nat} {ls : List ByteArray} {xs : List KVc} {v u v' : Value} {W1 W3 : World} (h : CHC w rb n ls xs v u W1) (o : Obj) (lab : ByteArray) (hg : (W1.alloc o).grownBy W3 v.ownBlock)
    (ho : W3.ownsRow w.heap.size 9 1 v' (ls.length + 1) (nCs ls ++ [.string lab])) (hn : v'.ownBlock = v.ownBlock ∨ v'.ownBlock = some (W1.alloc o).heap.size) : CHC w rb n (ls ++ [lab]) xs v' u W3 := by
  have hbase : ∀ g, v.ownBlock = some g → w.heap.size ≤ g := fun g e => (h.ol.lt g e).1
  have hsz : W1.heap.size < W3.heap.size := by have := hg.size; simp at this; omega
  have hblk := step_cellsC hg
  have hcel : ∀ b oo, b < W1.heap.size → v.ownBlock ≠ some b → W3.cell? ⟨b, oo, none⟩ = W1.cell? ⟨b, oo, none⟩ := fun b oo h1 h2 => World.cell?_of_block (a := ⟨b, oo, none⟩) (hblk b h1 h2)
  refine ⟨by simpa using ho, ?_, ?_, ?_⟩
  · exact (h.ok.kept (FR.al (pb := W1.heap.size) o) (.inr (fun e => by have := (h.ok.lt _ e).2; omega))).kept hg (by
      cases hu : u.ownBlock with
      | none => exact .inl rfl
      | some g => exact .inr (fun e => h.apart g e.symm hu))
  · intro x hx
    obtain ⟨a, b, c⟩ := h.kd x hx
    have hk : ∀ b oo, OBc w W1 v u b → W3.cell? ⟨b, oo, none⟩ = W1.cell? ⟨b, oo, none⟩ := fun b oo hb => hcel b oo hb.2.1 hb.2.2.1
    have hq : ∀ b, OBc w W1 v u b → OBc w W3 v' u b := fun b hb => ⟨hb.1, by have := hb.2.1; omega, by
      rcases hn with e | e
      · rw [e]; exact hb.2.2.1
      · rw [e]; intro e'; injection e' with e'; have := hb.2.1; simp at e'; omega, hb.2.2.2⟩
    exact ⟨a, b.keep hk hq, c.keep hk hq⟩
  · refine ⟨hg.os.trans h.fr.os, hg.tape.trans h.fr.tape, hg.output.trans h.fr.output, by have := h.fr.size; omega, fun j hj hr => ?_⟩
    have hjs := h.fr.size
    rw [hblk j (by omega) (fun e => by have := hbase _ e; omega)]
    exact h.fr.block j hj hr
theorem CHC.kid {w : World} {rb n : Nat} {ls : List ByteArray} {xs : List KVc} {v u u' : Value} {W1 W0 W3 : World} (h : CHC w rb n ls xs v u W1) (o : Obj) (x : KVc) (hg : (W1.alloc o).grownBy W3 u.ownBlock)
    (hx : GCv W0 W1 n x.1 x.2.1 x.2.2.1 x.2.2.2.1 x.2.2.2.2) (h0 : CHC w rb n ls xs v u W0)
    (ho : W3.ownsRow w.heap.size 25 7 u' (xs.length + 1) (kvDs xs ++ kvD x)) (hn : u'.ownBlock = u.ownBlock ∨ u'.ownBlock = some (W1.alloc o).heap.size) : CHC w rb n ls (xs ++ [x]) v u' W3 := by
  have hbase : ∀ g, u.ownBlock = some g → w.heap.size ≤ g := fun g e => (h.ok.lt g e).1
  have hsz : W1.heap.size < W3.heap.size := by have := hg.size; simp at this; omega
  have hblk := step_cellsC hg
  have hcel : ∀ b oo, b < W1.heap.size → u.ownBlock ≠ some b → W3.cell? ⟨b, oo, none⟩ = W1.cell? ⟨b, oo, none⟩ := fun b oo h1 h2 => World.cell?_of_block (a := ⟨b, oo, none⟩) (hblk b h1 h2)
  refine ⟨?_, by rw [kvDs_app]; simpa using ho, ?_, ?_⟩
  · exact (h.ol.kept (FR.al (pb := W1.heap.size) o) (.inr (fun e => by have := (h.ol.lt _ e).2; omega))).kept hg (by
      cases hv : v.ownBlock with
      | none => exact .inl rfl
      | some g => exact .inr (fun e => h.apart g hv e.symm))
  · have hk : ∀ b oo, OBc w W1 v u b → W3.cell? ⟨b, oo, none⟩ = W1.cell? ⟨b, oo, none⟩ := fun b oo hb => hcel b oo hb.2.1 hb.2.2.2
    have hq : ∀ b, OBc w W1 v u b → OBc w W3 v u' b := fun b hb => ⟨hb.1, by have := hb.2.1; omega, hb.2.2.1, by
      rcases hn with e | e
      · rw [e]; exact hb.2.2.2
      · rw [e]; intro e'; injection e' with e'; have := hb.2.1; simp at e'; omega⟩
    intro y hy
    rcases List.mem_append.1 hy with hy | hy
    · obtain ⟨a, b, c⟩ := h.kd y hy
      exact ⟨a, b.keep hk hq, c.keep hk hq⟩
    · have : y = x := by simpa using hy
      subst this
      have hob : ∀ b, NW W0 W1 b → OBc w W1 v u b := fun b hb => ⟨by have := h0.fr.size; have := hb.1; omega, hb.2, fun e => by have := (h0.ol.lt _ e).2; have := hb.1; omega, fun e => by have := (h0.ok.lt _ e).2; have := hb.1; omega⟩
      exact ⟨hx.bd, hx.la.keep (fun b oo hb => hk b oo (hob b hb)) (fun b hb => hq b (hob b hb)), hx.ka.keep (fun b oo hb => hk b oo (hob b hb)) (fun b hb => hq b (hob b hb))⟩
  · refine ⟨hg.os.trans h.fr.os, hg.tape.trans h.fr.tape, hg.output.trans h.fr.output, by have := h.fr.size; omega, fun j hj hr => ?_⟩
    have hjs := h.fr.size
    rw [hblk j (by omega) (fun e => by have := hbase _ e; omega)]
    exact h.fr.block j hj hr
/-- at the start -/
theorem CHC.new (w : World) (rb n : Nat) : CHC w rb n [] [] (.slice none 0 0) (.slice none 0 0) w :=
  ⟨World.ownsRow_nil _ _ _ _, World.ownsRow_nil _ _ _ _, fun x hx => (by cases hx), FR.refl _ _⟩
/-- a choice's labels and parts, in new memory -/
structure CHG (w W : World) (n : Nat) (ls : List ByteArray) (ks : List Cv) (v u : Value) : Prop where
  ex : ∃ al cl ak ck, v = .slice al ls.length cl ∧ u = .slice ak ks.length ck ∧ ls.length ≤ cl ∧ cl ≤ 9223372036854775807 ∧ ks.length ≤ ck ∧ ck ≤ 9223372036854775807 ∧ LQ W (NW w W) ls al ∧ QCv W (NW w W) (n + 1) ks ak
theorem CHC.got {w : World} {rb n : Nat} {ls : List ByteArray} {xs : List KVc} {v u : Value} {W : World} (h : CHC w rb n ls xs v u W) : CHG w W n ls (xs.map (·.1)) v u := by
  have hq : ∀ b, OBc w W v u b → NW w W b := fun b hb => ⟨hb.1, hb.2.1⟩
  have hcap : ∀ {e size m} {x : Value} {ys : List Value}, W.ownsRow w.heap.size e size x m ys → ∃ a c, x = .slice a m c ∧ m ≤ c ∧ c ≤ 9223372036854775807 := by
    intro e size m x ys ho
    rcases ho.2 with ⟨rfl, rfl⟩ | ⟨g, cap, cur, rfl, _, _, h1, h2, _⟩
    · exact ⟨none, 0, rfl, Nat.le_refl _, by omega⟩
    · unfold maxLen at h2; exact ⟨_, cap, rfl, h1, by omega⟩
  obtain ⟨al, cl, rfl, hc1, hc2⟩ := hcap h.ol
  obtain ⟨ak, ck, rfl, hd1, hd2⟩ := hcap h.ok
  refine ⟨al, cl, ak, ck, rfl, by simp, hc1, hc2, by simpa using hd1, hd2, ?_, ?_⟩
  · rcases own_cells h.ol with ⟨_, h0, _⟩ | ⟨g, cap, e, hb, hg, hc⟩
    · exact .inl (List.length_eq_zero_iff.1 h0)
    · injection e with e _ _
      subst e
      exact .inr ⟨g, 0, rfl, ⟨hb, hg⟩, fun i hi => by rw [Nat.zero_add]; exact hc i _ (by simp [hi])⟩
  · rcases own_cells h.ok with ⟨_, h0, _⟩ | ⟨g, cap, e, hb, hg, hc⟩
    · have : xs = [] := List.length_eq_zero_iff.1 h0
      subst this
      exact .inl rfl
    · injection e with e _ _
      subst e
      refine .inr ⟨g, 0, rfl, ⟨hb, hg⟩, fun i hi => ?_⟩
      have hi' : i < xs.length := by simpa using hi
      have e : (xs.map (·.1))[i] = xs[i].1 := by simp
      simp only [e]
      obtain ⟨a, b, c⟩ := h.kd xs[i] (List.getElem_mem hi')
      have hcell : ∀ j, j < 7 → W.cell? ⟨g, 0 + i * 7 + j, none⟩ = (kvD xs[i])[j]? := by
        intro j hj
        rw [Nat.zero_add]
        have h1 := kvDs_at xs i hi' j hj
        have h2 : ∃ y, (kvD xs[i])[j]? = some y := by
          have : j < (kvD xs[i]).length := by simp [kvD]; omega
          exact ⟨_, List.getElem?_eq_getElem this⟩
        obtain ⟨y, hy⟩ := h2
        rw [hy] at h1 ⊢
        exact hc _ _ h1
      exact ⟨_, _, _, _, ⟨hcell 0 (by omega), hcell 1 (by omega), hcell 2 (by omega), hcell 3 (by omega), hcell 4 (by omega), hcell 5 (by omega), hcell 6 (by omega)⟩, a, b.keep (fun _ _ _ => rfl) hq, c.keep (fun _ _ _ => rfl) hq⟩
end Go.Proofs.YtfmegfgmkeicnaaDoor
