/-
  The search in memory; the contract of (*below.search).arrive.
-/
import Derived.Test.YtlphhlnoemlbaaaDoorIj
namespace Go.Proofs.YtlphhlnoemlbaaaDoor
open Go.RowKit Go.Shelf

def knB (n : Nat) (arr : List Av) (x : Nat) : Bool := (placesA arr).any fun p => decide (numP n p = x)
theorem knB_iff {n : Nat} {arr : List Av} (hr : ∀ p ∈ placesA arr, p.2.1 < n) {p : Pl} (hp : p.2.1 < n) : knB n arr (numP n p) = true ↔ p ∈ placesA arr := by
  unfold knB
  rw [List.any_eq_true]
  constructor
  · rintro ⟨q, hq, e⟩
    rw [decide_eq_true_eq] at e
    rw [← numP_inj (hr q hq) hp e]; exact hq
  · intro h; exact ⟨p, h, by simp⟩
theorem knB_add (n : Nat) (arr : List Av) (s : Stp) (k x : Nat) : knB n (arr ++ [(s, k)]) x = if x = numP n s.2 then true else knB n arr x := by
  unfold knB placesA
  rw [List.map_append, List.any_append]
  by_cases h : x = numP n s.2
  · rw [if_pos h]; simp [h]
  · rw [if_neg h]
    have : ¬ numP n s.2 = x := fun e => h e.symm
    simp [this]
/-- the cells of an arrival -/
def aC (v : Av) : List Value := [.string v.1.1, .int .i64 (v.1.2.1 : Int), .int .i64 (v.1.2.2.1 : Int), .bool v.1.2.2.2, .int .i64 (v.2 : Int)]
def avCs (arr : List Av) : List Value := arr.flatMap aC
theorem aC_one (v : Av) : ∀ y ∈ aC v, y.oneCell' = true := by
  intro y hy
  simp only [aC, List.mem_cons, List.not_mem_nil, or_false] at hy
  rcases hy with rfl | rfl | rfl | rfl | rfl <;> rfl
theorem avCs_snoc (arr : List Av) (v : Av) : avCs (arr ++ [v]) = avCs arr ++ aC v := by simp [avCs]
theorem avCs_at : ∀ (ss : List Av) (i : Nat) (h : i < ss.length) (j : Nat), j < 5 → (avCs ss)[i * 5 + j]? = (aC ss[i])[j]?
  | [], i, h, _, _ => by simp at h
  | s :: ss, 0, _, j, hj => by
    have e : avCs (s :: ss) = aC s ++ avCs ss := rfl
    rw [e, List.getElem?_append_left (by simp [aC]; omega)]
    simp
  | s :: ss, i + 1, h, j, hj => by
    have e : avCs (s :: ss) = aC s ++ avCs ss := rfl
    have hl : (aC s).length = 5 := rfl
    rw [e, List.getElem?_append_right (by rw [hl]; omega), hl, show (i + 1) * 5 + j - 5 = i * 5 + j by omega]
    exact avCs_at ss i (by simpa using h) j hj
theorem infoAv : (Tryd.prog.info? 50).map (fun i => (i.zero, i.size, i.bytes)) = some (some (.agg #[.string ⟨#[]⟩, .int .i64 0, .int .i64 0, .bool false, .int .i64 0]), 5, 48) := by kernel_rfl
/-- the search: its graphs, what is known, the arrivals -/
structure SE (w0 : World) (g h : List Nd) (ag ah : Option Addr) (cg ch : Nat) (arr : List Av) (u : Value) (W : World) : Prop where
  ca : W.cell? ⟨w0.heap.size + 1, 0, none⟩ = some (.slice ag g.length cg)
  cb : W.cell? ⟨w0.heap.size + 1, 1, none⟩ = some (.slice ah h.length ch)
  ck : W.cell? ⟨w0.heap.size + 1, 2, none⟩ = some (.slice (some ⟨w0.heap.size, 0, none⟩) (2 * g.length * h.length) (2 * g.length * h.length))
  cu : W.cell? ⟨w0.heap.size + 1, 3, none⟩ = some u
  fu : W.frozen? ⟨w0.heap.size + 1, 3, none⟩ = false
  kn : ∀ x, x < 2 * g.length * h.length → W.cell? ⟨w0.heap.size, x, none⟩ = some (.bool (knB h.length arr x))
  fk : ∀ x, W.frozen? ⟨w0.heap.size, x, none⟩ = false
  own : W.ownsRow (w0.heap.size + 1 + 1) 50 5 u arr.length (avCs arr)
  sz : w0.heap.size + 1 + 1 ≤ W.heap.size
  bl : Below w0.heap.size w0 W
theorem SE.kept {w0 : World} {g h : List Nd} {ag ah : Option Addr} {cg ch : Nat} {arr : List Av} {u : Value} {W W' : World} (hs : SE w0 g h ag ah cg ch arr u W) (hb : Below W.heap.size W W') : SE w0 g h ag ah cg ch arr u W' := by
  have q := hs.sz
  have hc : ∀ b o, b < w0.heap.size + 1 + 1 → W'.cell? ⟨b, o, none⟩ = W.cell? ⟨b, o, none⟩ := fun b o h => hb.cell (p := ⟨b, o, none⟩) (by show b < _; omega)
  have hf : ∀ b o, b < w0.heap.size + 1 + 1 → W'.frozen? ⟨b, o, none⟩ = W.frozen? ⟨b, o, none⟩ := fun b o h => hb.frozen (p := ⟨b, o, none⟩) (by show b < _; omega)
  exact ⟨(hc _ _ (by omega)).trans hs.ca, (hc _ _ (by omega)).trans hs.cb, (hc _ _ (by omega)).trans hs.ck, (hc _ _ (by omega)).trans hs.cu, (hf _ _ (by omega)).trans hs.fu, fun x hx => (hc _ _ (by omega)).trans (hs.kn x hx), fun x => (hf _ _ (by omega)).trans (hs.fk x), own_belowG hs.own hb, Nat.le_trans q hb.size, hs.bl.trans (hb.mono hs.bl.size)⟩
theorem SE.put {w0 : World} {g h : List Nd} {ag ah : Option Addr} {cg ch : Nat} {arr : List Av} {u v7 : Value} {w w7 : World} {bo ob : Obj} {s : Stp} {k x : Nat} (hs : SE w0 g h ag ah cg ch arr u w) (hxe : x = numP h.length s.2) (hx : x < 2 * g.length * h.length)
    (hg : ((((w.alloc bo).setCell ⟨w0.heap.size, x, none⟩ (.bool true)).alloc ob).drew.drew).grownBy w7 u.ownBlock) (hO : w7.ownsRow (w0.heap.size + 1 + 1) 50 5 v7 (arr.length + 1) (avCs arr ++ aC (s, k))) (hat : v7.ownBlock = u.ownBlock ∨ v7.ownBlock = some (((w.alloc bo).setCell ⟨w0.heap.size, x, none⟩ (.bool true)).alloc ob).drew.drew.heap.size) :
    SE w0 g h ag ah cg ch (arr ++ [(s, k)]) v7 (w7.setCell ⟨w0.heap.size + 1, 3, none⟩ v7) ∧ RF w0.heap.size (w0.heap.size + 1) u.ownBlock w (w7.setCell ⟨w0.heap.size + 1, 3, none⟩ v7) ∧ (v7.ownBlock = u.ownBlock ∨ ∀ j, v7.ownBlock = some j → w.heap.size ≤ j) := by
  have q := hs.sz
  have hs7 : w.heap.size + 2 ≤ w7.heap.size := by have := hg.size; simp at this; omega
  have hlow : ∀ b, b < w0.heap.size + 1 + 1 → some b ≠ u.ownBlock := fun b hb e => by have := (hs.own.lt b e.symm).1; omega
  have hblk : ∀ b, b < w.heap.size → b ≠ w0.heap.size → some b ≠ u.ownBlock → w7.heap[b]? = w.heap[b]? := fun b hb hn hu => by
    have e1 := hg.block b (by simp; omega) hu
    have e2 : ((((w.alloc bo).setCell ⟨w0.heap.size, x, none⟩ (.bool true)).alloc ob).drew.drew).heap[b]? = ((w.alloc bo).setCell ⟨w0.heap.size, x, none⟩ (.bool true)).heap[b]? := heap_alloc_old _ ob (by simp; omega)
    have e3 : ((w.alloc bo).setCell ⟨w0.heap.size, x, none⟩ (.bool true)).heap[b]? = (w.alloc bo).heap[b]? := Below.heap_setCell _ _ _ b (fun e => hn e)
    rw [e1, e2, e3]
    exact heap_alloc_old w bo hb
  have hfbk : w7.heap[w0.heap.size]? = ((w.alloc bo).setCell ⟨w0.heap.size, x, none⟩ (.bool true)).heap[w0.heap.size]? := by
    have e1 := hg.block w0.heap.size (by simp; omega) (hlow _ (by omega))
    rw [e1]
    exact heap_alloc_old _ ob (by simp; omega)
  have hcf : ∀ o, w7.cell? ⟨w0.heap.size, o, none⟩ = ((w.alloc bo).setCell ⟨w0.heap.size, x, none⟩ (.bool true)).cell? ⟨w0.heap.size, o, none⟩ := fun o => World.cell?_of_block (a := ⟨w0.heap.size, o, none⟩) hfbk
  have hff : ∀ o, w7.frozen? ⟨w0.heap.size, o, none⟩ = ((w.alloc bo).setCell ⟨w0.heap.size, x, none⟩ (.bool true)).frozen? ⟨w0.heap.size, o, none⟩ := fun o => World.frozen?_of_block (a := ⟨w0.heap.size, o, none⟩) hfbk
  have hca : ∀ o, (w.alloc bo).cell? ⟨w0.heap.size, o, none⟩ = w.cell? ⟨w0.heap.size, o, none⟩ := fun o => World.cell?_of_block (a := ⟨w0.heap.size, o, none⟩) (heap_alloc_old w bo (by show w0.heap.size < _; omega))
  have hfa : ∀ o, (w.alloc bo).frozen? ⟨w0.heap.size, o, none⟩ = w.frozen? ⟨w0.heap.size, o, none⟩ := fun o => World.frozen?_of_block (a := ⟨w0.heap.size, o, none⟩) (heap_alloc_old w bo (by show w0.heap.size < _; omega))
  have hcs : ∀ o, w7.cell? ⟨w0.heap.size + 1, o, none⟩ = w.cell? ⟨w0.heap.size + 1, o, none⟩ := fun o => World.cell?_of_block (a := ⟨w0.heap.size + 1, o, none⟩) (hblk (w0.heap.size + 1) (by omega) (by omega) (hlow (w0.heap.size + 1) (by omega)))
  have hfs : ∀ o, w7.frozen? ⟨w0.heap.size + 1, o, none⟩ = w.frozen? ⟨w0.heap.size + 1, o, none⟩ := fun o => World.frozen?_of_block (a := ⟨w0.heap.size + 1, o, none⟩) (hblk (w0.heap.size + 1) (by omega) (by omega) (hlow (w0.heap.size + 1) (by omega)))
  have hset : ∀ o, o ≠ 3 → (w7.setCell ⟨w0.heap.size + 1, 3, none⟩ v7).cell? ⟨w0.heap.size + 1, o, none⟩ = w.cell? ⟨w0.heap.size + 1, o, none⟩ := fun o ho => (World.cell?_setCell_other _ _ _ _ (by intro e; injection e with _ e; exact ho e.symm)).trans (hcs o)
  refine ⟨⟨(hset 0 (by omega)).trans hs.ca, (hset 1 (by omega)).trans hs.cb, (hset 2 (by omega)).trans hs.ck, World.cell?_setCell_same _ _ _ ((hcs 3).trans hs.cu), (World.frozen?_setCell _ _ _ _).trans ((hfs 3).trans hs.fu), fun y hy => ?_, fun y => ?_, ?_, by simp; omega, ?_⟩, ?_, ?_⟩
  · rw [World.cell?_setCell_other _ _ _ _ (by intro e; injection e with e; omega), hcf y, knB_add, ← hxe]
    by_cases e : y = x
    · subst e
      rw [if_pos rfl]
      exact World.cell?_setCell_same _ _ _ ((hca y).trans (hs.kn y hy))
    · rw [if_neg e, World.cell?_setCell_other _ _ _ _ (by intro q; injection q with _ q; exact e q.symm), hca y]
      exact hs.kn y hy
  · rw [World.frozen?_setCell, hff y, World.frozen?_setCell, hfa y]; exact hs.fk y
  · have := own_setB hO (b := w0.heap.size + 1) (o := 3) (by omega) v7
    rw [avCs_snoc, List.length_append]
    exact this
  · refine ⟨hg.os.trans hs.bl.os, hg.tape.trans hs.bl.tape, hg.output.trans hs.bl.output, by simp; omega, fun b hb => ?_⟩
    rw [Below.heap_setCell _ _ _ b (fun e => by have e : b = w0.heap.size + 1 := e; omega), hblk b (by omega) (by omega) (hlow b (by omega))]
    exact hs.bl.block b hb
  · refine ⟨hg.os, hg.tape, hg.output, by simp; omega, fun b hb h1 h2 h3 => ?_⟩
    rw [Below.heap_setCell _ _ _ b (fun e => h2 e)]
    exact hblk b hb h1 h3
  · rcases hat with e | e
    · exact .inl e
    · exact .inr fun j hj => by rw [e] at hj; injection hj with hj; simp at hj; omega
/-- the box of a step -/
def BOXS (bx : Nat) (s : Stp) (W : World) : Prop := W.cell? ⟨bx, 0, none⟩ = some (.string s.1) ∧ W.cell? ⟨bx, 1, none⟩ = some (.int .i64 (s.2.1 : Int)) ∧ W.cell? ⟨bx, 2, none⟩ = some (.int .i64 (s.2.2.1 : Int)) ∧ W.cell? ⟨bx, 3, none⟩ = some (.bool s.2.2.2)
theorem BOXS.keep {bx : Nat} {s : Stp} {W W' : World} (h : BOXS bx s W) (hb : ∀ o, W'.cell? ⟨bx, o, none⟩ = W.cell? ⟨bx, o, none⟩) : BOXS bx s W' := ⟨(hb 0).trans h.1, (hb 1).trans h.2.1, (hb 2).trans h.2.2.1, (hb 3).trans h.2.2.2⟩
def avO (s : Stp) (k : Nat) : Obj := .cells #[.string s.1, .int .i64 (s.2.1 : Int), .int .i64 (s.2.2.1 : Int), .bool s.2.2.2, .int .i64 (k : Int)] 50
structure AVF (w0 w V : World) (g h : List Nd) (ag ah : Option Addr) (cg ch : Nat) (arr : List Av) (u : Value) (s : Stp) (k : Nat) : Prop where
  hs6 : BOXS w.heap.size s V.drew.drew
  hsx : ∀ o : Obj, BOXS w.heap.size s (V.alloc o).drew.drew
  hsg : ∀ w7 : World, (V.alloc (avO s k)).drew.drew.grownBy w7 u.ownBlock → BOXS w.heap.size s w7
  hss : ∀ (W : World) (v : Value), BOXS w.heap.size s W → BOXS w.heap.size s (W.setCell ⟨w0.heap.size + 1, 3, none⟩ v)
  pcA : V.drew.drew.cell? ⟨w0.heap.size + 1, 3, none⟩ = some u
  pcB : (V.alloc (avO s k)).drew.drew.cell? ⟨w0.heap.size + 1, 3, none⟩ = some u
  pc : ∀ w7 : World, (V.alloc (avO s k)).drew.drew.grownBy w7 u.ownBlock → w7.cell? ⟨w0.heap.size + 1, 3, none⟩ = some u
  pf : ∀ w7 : World, (V.alloc (avO s k)).drew.drew.grownBy w7 u.ownBlock → w7.frozen? ⟨w0.heap.size + 1, 3, none⟩ = false
  oa : (V.alloc (avO s k)).drew.drew.ownsRow (w0.heap.size + 1 + 1) 50 5 u arr.length (avCs arr)
  lr : (V.alloc (avO s k)).drew.drew.ownsRow (w0.heap.size + 1 + 1) 50 5 (.slice (some ⟨w.heap.size + 1, 0, none⟩) 1 1) 1 (aC (s, k))
  sz : V.heap.size = w.heap.size + 1
  put : ∀ (w7 : World) (v7 : Value), (V.alloc (avO s k)).drew.drew.grownBy w7 u.ownBlock → w7.ownsRow (w0.heap.size + 1 + 1) 50 5 v7 (arr.length + 1) (avCs arr ++ aC (s, k)) → (v7.ownBlock = u.ownBlock ∨ v7.ownBlock = some (V.alloc (avO s k)).drew.drew.heap.size) →
    SE w0 g h ag ah cg ch (arr ++ [(s, k)]) v7 (w7.setCell ⟨w0.heap.size + 1, 3, none⟩ v7) ∧ RF w0.heap.size (w0.heap.size + 1) u.ownBlock w (w7.setCell ⟨w0.heap.size + 1, 3, none⟩ v7) ∧ (v7.ownBlock = u.ownBlock ∨ ∀ j, v7.ownBlock = some j → w.heap.size ≤ j)
theorem arrive_facts {w0 : World} {g h : List Nd} {ag ah : Option Addr} {cg ch : Nat} {arr : List Av} {u : Value} {w : World} {s : Stp} {k x : Nat} (hs : SE w0 g h ag ah cg ch arr u w) (hxe : x = numP h.length s.2) (hx : x < 2 * g.length * h.length) :
    AVF w0 w ((w.alloc (.cells #[.string s.1, .int .i64 (s.2.1 : Int), .int .i64 (s.2.2.1 : Int), .bool s.2.2.2] 48)).setCell ⟨w0.heap.size, x, none⟩ (.bool true)) g h ag ah cg ch arr u s k := by
  have q := hs.sz
  have hlow : ∀ b, b < w0.heap.size + 1 + 1 → some b ≠ u.ownBlock := fun b hb e => by have := (hs.own.lt b e.symm).1; omega
  have hup : some w.heap.size ≠ u.ownBlock := fun e => by have := (hs.own.lt _ e.symm).2; omega
  have b0 : BOXS w.heap.size s (w.alloc (.cells #[.string s.1, .int .i64 (s.2.1 : Int), .int .i64 (s.2.2.1 : Int), .bool s.2.2.2] 48)) := ⟨by go_cell, by go_cell, by go_cell, by go_cell⟩
  have b1 : BOXS w.heap.size s ((w.alloc (.cells #[.string s.1, .int .i64 (s.2.1 : Int), .int .i64 (s.2.2.1 : Int), .bool s.2.2.2] 48)).setCell ⟨w0.heap.size, x, none⟩ (.bool true)) := b0.keep fun o => World.cell?_setCell_other _ _ _ _ (by intro e; injection e with e; omega)
  have sz : ((w.alloc (.cells #[.string s.1, .int .i64 (s.2.1 : Int), .int .i64 (s.2.2.1 : Int), .bool s.2.2.2] 48)).setCell ⟨w0.heap.size, x, none⟩ (.bool true)).heap.size = w.heap.size + 1 := by simp
  have hblk : ∀ b, b < w.heap.size → b ≠ w0.heap.size → ((w.alloc (.cells #[.string s.1, .int .i64 (s.2.1 : Int), .int .i64 (s.2.2.1 : Int), .bool s.2.2.2] 48)).setCell ⟨w0.heap.size, x, none⟩ (.bool true)).heap[b]? = w.heap[b]? := fun b hb hn => (Below.heap_setCell _ _ _ b (fun e => hn e)).trans (heap_alloc_old w _ hb)
  have own1 : ((w.alloc (.cells #[.string s.1, .int .i64 (s.2.1 : Int), .int .i64 (s.2.2.1 : Int), .bool s.2.2.2] 48)).setCell ⟨w0.heap.size, x, none⟩ (.bool true)).ownsRow (w0.heap.size + 1 + 1) 50 5 u arr.length (avCs arr) := own_setB (own_belowG hs.own ((Below.refl _ _).alloc (Nat.le_refl _) _)) (by omega) _
  have PUT := fun (w7 : World) (v7 : Value) => SE.put (w7 := w7) (v7 := v7) (bo := .cells #[.string s.1, .int .i64 (s.2.1 : Int), .int .i64 (s.2.2.1 : Int), .bool s.2.2.2] 48) (ob := avO s k) (k := k) hs hxe hx
  generalize (w.alloc (.cells #[.string s.1, .int .i64 (s.2.1 : Int), .int .i64 (s.2.2.1 : Int), .bool s.2.2.2] 48)).setCell ⟨w0.heap.size, x, none⟩ (.bool true) = V at *
  have hcs : V.cell? ⟨w0.heap.size + 1, 3, none⟩ = some u := (World.cell?_of_block (a := ⟨w0.heap.size + 1, 3, none⟩) (hblk (w0.heap.size + 1) (by omega) (by omega))).trans hs.cu
  have hfs : V.frozen? ⟨w0.heap.size + 1, 3, none⟩ = false := (World.frozen?_of_block (a := ⟨w0.heap.size + 1, 3, none⟩) (hblk (w0.heap.size + 1) (by omega) (by omega))).trans hs.fu
  have hal : ∀ (ob : Obj) b o, b < w.heap.size + 1 → (V.alloc ob).drew.drew.cell? ⟨b, o, none⟩ = V.cell? ⟨b, o, none⟩ := fun ob b o hb => World.cell?_of_block (a := ⟨b, o, none⟩) (heap_alloc_old V ob (by rw [sz]; exact hb))
  have half : ∀ (ob : Obj) b o, b < w.heap.size + 1 → (V.alloc ob).drew.drew.frozen? ⟨b, o, none⟩ = V.frozen? ⟨b, o, none⟩ := fun ob b o hb => World.frozen?_of_block (a := ⟨b, o, none⟩) (heap_alloc_old V ob (by rw [sz]; exact hb))
  have hsz2 : ∀ ob : Obj, (V.alloc ob).drew.drew.heap.size = w.heap.size + 1 + 1 := fun ob => by simp [sz]
  refine ⟨b1, fun o => b1.keep fun q => hal o w.heap.size q (by omega), fun w7 hg => b1.keep fun q => (World.cell?_of_block (a := ⟨w.heap.size, q, none⟩) (hg.block w.heap.size (by rw [hsz2]; omega) hup)).trans (hal _ w.heap.size q (by omega)), fun W v hW => hW.keep fun q => World.cell?_setCell_other _ _ _ _ (by intro e; injection e with e; omega), hcs, (hal _ (w0.heap.size + 1) 3 (by omega)).trans hcs, fun w7 hg => (World.cell?_of_block (a := ⟨w0.heap.size + 1, 3, none⟩) (hg.block (w0.heap.size + 1) (by rw [hsz2]; omega) (hlow (w0.heap.size + 1) (by omega)))).trans ((hal _ (w0.heap.size + 1) 3 (by omega)).trans hcs), fun w7 hg => (World.frozen?_of_block (a := ⟨w0.heap.size + 1, 3, none⟩) (hg.block (w0.heap.size + 1) (by rw [hsz2]; omega) (hlow (w0.heap.size + 1) (by omega)))).trans ((half _ (w0.heap.size + 1) 3 (by omega)).trans hfs), own_belowG (own_belowG own1 ((Below.refl _ _).alloc (Nat.le_refl _) _)) (Below.refl _ _).drew.drew, ?_, sz, fun w7 v7 hg hO hat => PUT w7 v7 hg hO hat⟩
  have := own_belowG (World.ownsRow_lit (base := w0.heap.size + 1 + 1) (e := 50) (size := 5) V #[.string s.1, .int .i64 (s.2.1 : Int), .int .i64 (s.2.2.1 : Int), .bool s.2.2.2, .int .i64 (k : Int)] 1 (by rw [sz]; omega) (by decide) rfl) (Below.refl _ _).drew.drew
  rw [sz] at this
  exact this
theorem RF.refl (fb rb : Nat) (row : Option Nat) (w : World) : RF fb rb row w w := ⟨rfl, rfl, rfl, Nat.le_refl _, fun _ _ _ _ _ => rfl⟩
set_option maxRecDepth 100000 in
set_option maxHeartbeats 16000000 in
theorem arrive_any (w0 : World) (g h : List Nd) (ag ah : Option Addr) (cg ch : Nat) (arr : List Av) (u : Value) (s : Stp) (k : Nat) (w : World) (hs : SE w0 g h ag ah cg ch arr u w) (ha : s.2.1 < g.length) (hb : s.2.2.1 < h.length) (hg : g.length ≤ 200) (hh : h.length ≤ 200) (hl : arr.length ≤ 80000) (hr : ∀ p ∈ placesA arr, p.2.1 < h.length) :
    Calls Tryd.prog 12 #[.pointer (some ⟨w0.heap.size + 1, 0, none⟩), .agg #[.string s.1, .int .i64 (s.2.1 : Int), .int .i64 (s.2.2.1 : Int), .bool s.2.2.2], .int .i64 (k : Int)] w fun e w' => e = .returned (.tuple #[]) ∧ ∃ u', SE w0 g h ag ah cg ch (arrP arr s k) u' w' ∧ RF w0.heap.size (w0.heap.size + 1) u.ownBlock w w' ∧ (u'.ownBlock = u.ownBlock ∨ ∀ j, u'.ownBlock = some j → w.heap.size ≤ j) := by
  obtain ⟨i1, hj, hy0, hy1, hy2⟩ := info_parts infoAv
  obtain ⟨wd, pa, pb, tt⟩ := s
  simp only at ha hb ⊢
  have hq := hs.sz
  have hN := numP_lt (p := (pa, pb, tt)) ha hb
  have HKI := hideK (knB_iff (p := (pa, pb, tt)) hr hb)
  have hNb : 2 * g.length * h.length ≤ 80000 := by
    have h1 := Nat.mul_le_mul_left 2 hg
    have h2 := Nat.mul_le_mul h1 hh
    omega
  have hab : pa * h.length ≤ 40000 := Nat.mul_le_mul (Nat.le_trans (Nat.le_of_lt ha) hg) hh
  have hw1 : IntKind.i64.wrap ((pa : Int) * (h.length : Int)) = (pa : Int) * (h.length : Int) := wrap_small _ (by rw [← Int.natCast_mul]; omega) (by rw [← Int.natCast_mul]; omega)
  have hw2 : IntKind.i64.wrap ((pa : Int) * (h.length : Int) + (pb : Int)) = (pa : Int) * (h.length : Int) + (pb : Int) := wrap_small _ (by rw [← Int.natCast_mul]; omega) (by rw [← Int.natCast_mul]; omega)
  have hw3 : IntKind.i64.wrap (((pa : Int) * (h.length : Int) + (pb : Int)) * 2) = ((pa : Int) * (h.length : Int) + (pb : Int)) * 2 := wrap_small _ (by rw [← Int.natCast_mul]; omega) (by rw [← Int.natCast_mul]; omega)
  have HE := hideK (show ((pa : Int) * (h.length : Int) + (pb : Int)) * 2 = ((2 * (pa * h.length + pb) : Nat) : Int) from by rw [← Int.natCast_mul]; omega)
  have hzx : numP h.length (pa, pb, tt) = 2 * (pa * h.length + pb) + if tt = true then 1 else 0 := by unfold numP; simp only; omega
  have hA : Below w.heap.size w (w.alloc (.cells #[.string wd, .int .i64 (pa : Int), .int .i64 (pb : Int), .bool tt] 48)) := (Below.refl _ _).alloc (Nat.le_refl _) _
  have sA := hs.kept hA
  have HSA := hideK sA
  have HSE := hideK hs
  have HA := hideK hA
  have c1 : (w.alloc (.cells #[.string wd, .int .i64 (pa : Int), .int .i64 (pb : Int), .bool tt] 48)).drew.cell? ⟨w0.heap.size + 1, 1, none⟩ = some (.slice ah h.length ch) := sA.cb
  have c2 : (w.alloc (.cells #[.string wd, .int .i64 (pa : Int), .int .i64 (pb : Int), .bool tt] 48)).drew.cell? ⟨w0.heap.size + 1, 2, none⟩ = some (.slice (some ⟨w0.heap.size, 0, none⟩) (2 * g.length * h.length) (2 * g.length * h.length)) := sA.ck
  have HS1 := hideK (show (fun W : World => W.cell? ⟨w.heap.size, 1, none⟩ = some (.int .i64 (pa : Int)) ∧ W.cell? ⟨w.heap.size, 2, none⟩ = some (.int .i64 (pb : Int)) ∧ W.cell? ⟨w0.heap.size + 1, 1, none⟩ = some (.slice ah h.length ch)) (w.alloc (.cells #[.string wd, .int .i64 (pa : Int), .int .i64 (pb : Int), .bool tt] 48)).drew from ⟨by go_cell, by go_cell, sA.cb⟩)
  have d0 := sA.kn _ hN
  have f0 := sA.fk (numP h.length (pa, pb, tt))
  have HAP := hideK (show arrP arr (wd, pa, pb, tt) k = if (pa, pb, tt) ∈ placesA arr then arr else arr ++ [((wd, pa, pb, tt), k)] from rfl)
  have hzl : 2 * (pa * h.length + pb) ≤ 80000 := by omega
  have HXX := hideK hzx.symm
  have HNX := hideK (show 2 * (pa * h.length + pb) + (if tt = true then 1 else 0) < 2 * g.length * h.length from by rw [← hzx]; exact hN)
  rw [hzx] at d0 f0 hN HKI
  generalize hzg : 2 * (pa * h.length + pb) = z at *
  generalize hNg : 2 * g.length * h.length = N at *
  clear hs hA sA hab
  cases tt with
  | false =>
    simp only [Bool.false_eq_true, if_false, Nat.add_zero] at d0 f0 hN HKI HXX HNX
    have hzN : (z : Int) < (N : Int) := by omega
    have d1 : (w.alloc (.cells #[.string wd, .int .i64 (pa : Int), .int .i64 (pb : Int), .bool false] 48)).drew.cell? ⟨w0.heap.size, z, none⟩ = some (.bool (knB h.length arr z)) := d0
    cases hkn : knB h.length arr (z) with
    | true =>
      rw [hkn] at d1 HKI
      have HR := hideK (show arrP arr (wd, pa, pb, false) k = arr from by rw [HAP.out, if_pos (HKI.out.1 rfl)])
      go_enter Tryd.func12, Tryd.ntmps12
      go_wp2_with fail
      go_region_held3 (fun W : World => W.cell? ⟨w.heap.size, 1, none⟩ = some (.int .i64 (pa : Int)) ∧ W.cell? ⟨w.heap.size, 2, none⟩ = some (.int .i64 (pb : Int)) ∧ W.cell? ⟨w0.heap.size + 1, 1, none⟩ = some (.slice ah h.length ch)) (first | exact HS1.out | assumption) (fail)
      simp only [HE.out]
      go_wp2_with fail
      refine bodyPost_ret (results_none rfl _ _ _) rfl ?_
      exact ⟨rfl, u, by rw [HR.out]; exact HSA.out.kept (Below.refl _ _).drew, RF.of HA.out.drew, .inl rfl⟩
    | false =>
      rw [hkn] at d1 HKI
      have HR := hideK (show arrP arr (wd, pa, pb, false) k = arr ++ [((wd, pa, pb, false), k)] from by rw [HAP.out, if_neg (fun q => by have := HKI.out.2 q; cases this)])
      have f1 : (w.alloc (.cells #[.string wd, .int .i64 (pa : Int), .int .i64 (pb : Int), .bool false] 48)).drew.frozen? ⟨w0.heap.size, z, none⟩ = false := f0
      have HVF := hideK (arrive_facts (s := (wd, pa, pb, false)) (x := z) (k := k) HSE.out HXX.out (by rw [hNg]; exact HNX.out))
      go_enter Tryd.func12, Tryd.ntmps12
      go_wp2_with fail
      go_region_held3 (fun W : World => W.cell? ⟨w.heap.size, 1, none⟩ = some (.int .i64 (pa : Int)) ∧ W.cell? ⟨w.heap.size, 2, none⟩ = some (.int .i64 (pb : Int)) ∧ W.cell? ⟨w0.heap.size + 1, 1, none⟩ = some (.slice ah h.length ch)) (first | exact HS1.out | assumption) (fail)
      simp only [HE.out]
      go_wp2_with fail
      clear d0 d1 f0 f1 c1 c2 HA HSA HSE
      generalize (w.alloc (.cells #[.string wd, .int .i64 (pa : Int), .int .i64 (pb : Int), .bool false] 48)).setCell ⟨w0.heap.size, z, none⟩ (.bool true) = V at *
      have hpA := HVF.out.pcA
      have hpB := HVF.out.pcB
      have hVs := HVF.out.sz
      have hVs2 : V.drew.drew.heap.size = w.heap.size + 1 := hVs
      simp only [avO] at hpB
      refine wp_region_held_drew (S := (BOXS w.heap.size (wd, pa, pb, false))) (by kernel_rfl) HVF.out.hs6 (fun hS => ?_)
      refine wpAnyH_take (i := 0) (v := (.pointer (some ⟨w0.heap.size + 1, 0, none⟩))) (by rw [List.getElem?_toArray]; rfl) (by kernel_rfl) (by kernel_rfl) (by kernel_rfl) (by exact fun _ _ _ h => h) (Or.inl ⟨by rfl, fun W hW => by go_simp⟩) hS ?_
      simp only [Act.put, List.setIfInBounds_toArray, List.set_cons_zero, List.set_cons_succ]
      refine wpAnyH_take (i := 1) (v := (.pointer (some ⟨w0.heap.size + 1, 0, none⟩))) (by rw [List.getElem?_toArray]; rfl) (by kernel_rfl) (by kernel_rfl) (by kernel_rfl) (by exact fun _ _ _ h => h) (Or.inl ⟨by rfl, fun W hW => by go_simp⟩) hS ?_
      simp only [Act.put, List.setIfInBounds_toArray, List.set_cons_zero, List.set_cons_succ]
      refine wpAnyH_take (i := 2) (v := (.pointer (some ⟨w0.heap.size + 1, 0, none⟩))) (by rw [List.getElem?_toArray]; rfl) (by kernel_rfl) (by kernel_rfl) (by kernel_rfl) (by exact fun _ _ _ h => h) (Or.inl ⟨by rfl, fun W hW => by go_simp⟩) hS ?_
      simp only [Act.put, List.setIfInBounds_toArray, List.set_cons_zero, List.set_cons_succ]
      refine wpAnyH_take (i := 3) (v := (.pointer (some ⟨w0.heap.size + 1, 3, none⟩))) (by rw [List.getElem?_toArray]; rfl) (by kernel_rfl) (by kernel_rfl) (by kernel_rfl) (by exact fun _ _ _ h => h) (Or.inl ⟨by rfl, fun W hW => by go_simp⟩) hS ?_
      simp only [Act.put, List.setIfInBounds_toArray, List.set_cons_zero, List.set_cons_succ]
      refine wpAnyH_take (i := 5) (v := (.agg #[.string wd, .int .i64 (pa : Int), .int .i64 (pb : Int), .bool false])) (by rw [List.getElem?_toArray]; rfl) (by kernel_rfl) (by kernel_rfl) (by kernel_rfl) (by exact fun _ _ _ h => h) (Or.inl ⟨by rfl, fun W hW => by obtain ⟨x0, x1, x2, x3⟩ := hW; go_simp⟩) hS ?_
      simp only [Act.put, List.setIfInBounds_toArray, List.set_cons_zero, List.set_cons_succ]
      refine wpAnyH_take (i := 6) (v := (.int .i64 (k : Int))) (by rw [List.getElem?_toArray]; rfl) (by kernel_rfl) (by kernel_rfl) (by kernel_rfl) (by exact fun _ _ _ h => h) (Or.inl ⟨by rfl, fun W hW => by go_simp⟩) hS ?_
      simp only [Act.put, List.setIfInBounds_toArray, List.set_cons_zero, List.set_cons_succ]
      refine wpAnyH_take (i := 7) (v := (.agg #[.string wd, .int .i64 (pa : Int), .int .i64 (pb : Int), .bool false, .int .i64 (k : Int)])) (by rw [List.getElem?_toArray]; rfl) (by kernel_rfl) (by kernel_rfl) (by kernel_rfl) (by exact fun _ _ _ h => h) (Or.inl ⟨by rfl, fun W hW => by go_simp⟩) hS ?_
      simp only [Act.put, List.setIfInBounds_toArray, List.set_cons_zero, List.set_cons_succ]
      refine wpAnyH_ready (rs := [4, 8]) (by kernel_rfl) (by simp) (AllReadyH.cons (by rw [List.getElem?_toArray]; rfl) (fun K hK => ?_) (AllReadyH.cons (by rw [List.getElem?_toArray]; rfl) (fun K hK => ?_) AllReadyH.nil))
      · go_simp
        have hSn := hS
        refine hK.out _ _ hSn ?_
        clear hS hK K hSn
        intro hS
        refine take_oneHL 8 (AllReadyH.cons (by rw [List.getElem?_toArray]; rfl) (fun K hK => ?_) AllReadyH.nil) (by kernel_rfl)
        go_simp
        have hSn := HVF.out.hsx (.cells #[.string wd, .int .i64 (pa : Int), .int .i64 (pb : Int), .bool false, .int .i64 (k : Int)] 50)
        refine hK.out _ _ hSn ?_
        clear hS hK K hSn
        intro hS
        refine take_oneHL 9 (AllReadyH.cons (by rw [List.getElem?_toArray]; rfl) (fun K hK => ?_) AllReadyH.nil) (by kernel_rfl)
        refine step_append_rows _ rfl (.tmp 43) (.tmp 47) 41 rfl (w0.heap.size + 1 + 1) (w0.heap.size + 1 + 1) 50 i1 _ 5 48 Tryd.underlying41 hj hy0 hy1 hy2 rfl (by decide) _ _ _ rfl HVF.out.oa _ _ _ rfl HVF.out.lr (aC_one _) (by unfold maxLen; omega) (by omega) (by simp [hVs]; omega) ?_
        intro v7 w7 hO7 hg7 hat7
        have hSn := HVF.out.hsg _ hg7
        refine hK.out _ _ hSn ?_
        clear hS hK K hSn
        intro hS
        simp only [Act.put, List.setIfInBounds_toArray, List.set_cons_zero, List.set_cons_succ]
        refine wpAnyH_take (i := 10) (v := (.pointer (some ⟨w0.heap.size + 1, 0, none⟩))) (by rw [List.getElem?_toArray]; rfl) (by kernel_rfl) (by kernel_rfl) (by kernel_rfl) (by exact fun _ _ _ h => h) (Or.inl ⟨by rfl, fun W hW => by go_simp⟩) hS ?_
        simp only [Act.put, List.setIfInBounds_toArray, List.set_cons_zero, List.set_cons_succ]
        refine wpAnyH_take (i := 11) (v := (.pointer (some ⟨w0.heap.size + 1, 3, none⟩))) (by rw [List.getElem?_toArray]; rfl) (by kernel_rfl) (by kernel_rfl) (by kernel_rfl) (by exact fun _ _ _ h => h) (Or.inl ⟨by rfl, fun W hW => by go_simp⟩) hS ?_
        simp only [Act.put, List.setIfInBounds_toArray, List.set_cons_zero, List.set_cons_succ]
        have pc7 := HVF.out.pc w7 hg7
        have pf7 := HVF.out.pf w7 hg7
        have HP7 := hideK (HVF.out.put w7 v7 hg7 hO7 hat7)
        obtain ⟨va, vc, rfl⟩ := sliceH_own hO7
        clear hO7 hg7 hat7
        refine take_oneHL 12 (AllReadyH.cons (by rw [List.getElem?_toArray]; rfl) (fun K hK => ?_) AllReadyH.nil) (by kernel_rfl)
        go_simp
        have hSn := HVF.out.hss _ (.slice va (arr.length + 1) vc) hS
        refine hK.out _ _ hSn ?_
        clear hS hK K hSn
        intro hS
        refine wpAnyH_done (by kernel_rfl) ?_ _
        go_wp2_with fail
        go_end0
        exact ⟨rfl, _, by rw [HR.out]; exact HP7.out.1, HP7.out.2.1, HP7.out.2.2⟩
      · go_simp
        have hSn := HVF.out.hsx (.cells #[.string wd, .int .i64 (pa : Int), .int .i64 (pb : Int), .bool false, .int .i64 (k : Int)] 50)
        refine hK.out _ _ hSn ?_
        clear hS hK K hSn
        intro hS
        refine take_oneHL 4 (AllReadyH.cons (by rw [List.getElem?_toArray]; rfl) (fun K hK => ?_) AllReadyH.nil) (by kernel_rfl)
        go_simp
        have hSn := hS
        refine hK.out _ _ hSn ?_
        clear hS hK K hSn
        intro hS
        refine take_oneHL 9 (AllReadyH.cons (by rw [List.getElem?_toArray]; rfl) (fun K hK => ?_) AllReadyH.nil) (by kernel_rfl)
        refine step_append_rows _ rfl (.tmp 43) (.tmp 47) 41 rfl (w0.heap.size + 1 + 1) (w0.heap.size + 1 + 1) 50 i1 _ 5 48 Tryd.underlying41 hj hy0 hy1 hy2 rfl (by decide) _ _ _ rfl HVF.out.oa _ _ _ rfl HVF.out.lr (aC_one _) (by unfold maxLen; omega) (by omega) (by simp [hVs]; omega) ?_
        intro v7 w7 hO7 hg7 hat7
        have hSn := HVF.out.hsg _ hg7
        refine hK.out _ _ hSn ?_
        clear hS hK K hSn
        intro hS
        simp only [Act.put, List.setIfInBounds_toArray, List.set_cons_zero, List.set_cons_succ]
        refine wpAnyH_take (i := 10) (v := (.pointer (some ⟨w0.heap.size + 1, 0, none⟩))) (by rw [List.getElem?_toArray]; rfl) (by kernel_rfl) (by kernel_rfl) (by kernel_rfl) (by exact fun _ _ _ h => h) (Or.inl ⟨by rfl, fun W hW => by go_simp⟩) hS ?_
        simp only [Act.put, List.setIfInBounds_toArray, List.set_cons_zero, List.set_cons_succ]
        refine wpAnyH_take (i := 11) (v := (.pointer (some ⟨w0.heap.size + 1, 3, none⟩))) (by rw [List.getElem?_toArray]; rfl) (by kernel_rfl) (by kernel_rfl) (by kernel_rfl) (by exact fun _ _ _ h => h) (Or.inl ⟨by rfl, fun W hW => by go_simp⟩) hS ?_
        simp only [Act.put, List.setIfInBounds_toArray, List.set_cons_zero, List.set_cons_succ]
        have pc7 := HVF.out.pc w7 hg7
        have pf7 := HVF.out.pf w7 hg7
        have HP7 := hideK (HVF.out.put w7 v7 hg7 hO7 hat7)
        obtain ⟨va, vc, rfl⟩ := sliceH_own hO7
        clear hO7 hg7 hat7
        refine take_oneHL 12 (AllReadyH.cons (by rw [List.getElem?_toArray]; rfl) (fun K hK => ?_) AllReadyH.nil) (by kernel_rfl)
        go_simp
        have hSn := HVF.out.hss _ (.slice va (arr.length + 1) vc) hS
        refine hK.out _ _ hSn ?_
        clear hS hK K hSn
        intro hS
        refine wpAnyH_done (by kernel_rfl) ?_ _
        go_wp2_with fail
        go_end0
        exact ⟨rfl, _, by rw [HR.out]; exact HP7.out.1, HP7.out.2.1, HP7.out.2.2⟩
  | true =>
    simp only [if_true] at d0 f0 hN HKI HXX HNX
    have hzN : (z : Int) + 1 < (N : Int) := by omega
    have hz8 : (z : Int) ≤ 80000 := by omega
    have d1 : (w.alloc (.cells #[.string wd, .int .i64 (pa : Int), .int .i64 (pb : Int), .bool true] 48)).drew.cell? ⟨w0.heap.size, z + 1, none⟩ = some (.bool (knB h.length arr (z + 1))) := d0
    cases hkn : knB h.length arr (z + 1) with
    | true =>
      rw [hkn] at d1 HKI
      have HR := hideK (show arrP arr (wd, pa, pb, true) k = arr from by rw [HAP.out, if_pos (HKI.out.1 rfl)])
      go_enter Tryd.func12, Tryd.ntmps12
      go_wp2_with fail
      go_region_held3 (fun W : World => W.cell? ⟨w.heap.size, 1, none⟩ = some (.int .i64 (pa : Int)) ∧ W.cell? ⟨w.heap.size, 2, none⟩ = some (.int .i64 (pb : Int)) ∧ W.cell? ⟨w0.heap.size + 1, 1, none⟩ = some (.slice ah h.length ch)) (first | exact HS1.out | assumption) (fail)
      simp only [HE.out]
      go_wp2_with fail
      refine bodyPost_ret (results_none rfl _ _ _) rfl ?_
      exact ⟨rfl, u, by rw [HR.out]; exact HSA.out.kept (Below.refl _ _).drew, RF.of HA.out.drew, .inl rfl⟩
    | false =>
      rw [hkn] at d1 HKI
      have HR := hideK (show arrP arr (wd, pa, pb, true) k = arr ++ [((wd, pa, pb, true), k)] from by rw [HAP.out, if_neg (fun q => by have := HKI.out.2 q; cases this)])
      have f1 : (w.alloc (.cells #[.string wd, .int .i64 (pa : Int), .int .i64 (pb : Int), .bool true] 48)).drew.frozen? ⟨w0.heap.size, z + 1, none⟩ = false := f0
      have HVF := hideK (arrive_facts (s := (wd, pa, pb, true)) (x := z + 1) (k := k) HSE.out HXX.out (by rw [hNg]; exact HNX.out))
      go_enter Tryd.func12, Tryd.ntmps12
      go_wp2_with fail
      go_region_held3 (fun W : World => W.cell? ⟨w.heap.size, 1, none⟩ = some (.int .i64 (pa : Int)) ∧ W.cell? ⟨w.heap.size, 2, none⟩ = some (.int .i64 (pb : Int)) ∧ W.cell? ⟨w0.heap.size + 1, 1, none⟩ = some (.slice ah h.length ch)) (first | exact HS1.out | assumption) (fail)
      simp only [HE.out]
      go_wp2_with fail
      clear d0 d1 f0 f1 c1 c2 HA HSA HSE
      generalize (w.alloc (.cells #[.string wd, .int .i64 (pa : Int), .int .i64 (pb : Int), .bool true] 48)).setCell ⟨w0.heap.size, z + 1, none⟩ (.bool true) = V at *
      have hpA := HVF.out.pcA
      have hpB := HVF.out.pcB
      have hVs := HVF.out.sz
      have hVs2 : V.drew.drew.heap.size = w.heap.size + 1 := hVs
      simp only [avO] at hpB
      refine wp_region_held_drew (S := (BOXS w.heap.size (wd, pa, pb, true))) (by kernel_rfl) HVF.out.hs6 (fun hS => ?_)
      refine wpAnyH_take (i := 0) (v := (.pointer (some ⟨w0.heap.size + 1, 0, none⟩))) (by rw [List.getElem?_toArray]; rfl) (by kernel_rfl) (by kernel_rfl) (by kernel_rfl) (by exact fun _ _ _ h => h) (Or.inl ⟨by rfl, fun W hW => by go_simp⟩) hS ?_
      simp only [Act.put, List.setIfInBounds_toArray, List.set_cons_zero, List.set_cons_succ]
      refine wpAnyH_take (i := 1) (v := (.pointer (some ⟨w0.heap.size + 1, 0, none⟩))) (by rw [List.getElem?_toArray]; rfl) (by kernel_rfl) (by kernel_rfl) (by kernel_rfl) (by exact fun _ _ _ h => h) (Or.inl ⟨by rfl, fun W hW => by go_simp⟩) hS ?_
      simp only [Act.put, List.setIfInBounds_toArray, List.set_cons_zero, List.set_cons_succ]
      refine wpAnyH_take (i := 2) (v := (.pointer (some ⟨w0.heap.size + 1, 0, none⟩))) (by rw [List.getElem?_toArray]; rfl) (by kernel_rfl) (by kernel_rfl) (by kernel_rfl) (by exact fun _ _ _ h => h) (Or.inl ⟨by rfl, fun W hW => by go_simp⟩) hS ?_
      simp only [Act.put, List.setIfInBounds_toArray, List.set_cons_zero, List.set_cons_succ]
      refine wpAnyH_take (i := 3) (v := (.pointer (some ⟨w0.heap.size + 1, 3, none⟩))) (by rw [List.getElem?_toArray]; rfl) (by kernel_rfl) (by kernel_rfl) (by kernel_rfl) (by exact fun _ _ _ h => h) (Or.inl ⟨by rfl, fun W hW => by go_simp⟩) hS ?_
      simp only [Act.put, List.setIfInBounds_toArray, List.set_cons_zero, List.set_cons_succ]
      refine wpAnyH_take (i := 5) (v := (.agg #[.string wd, .int .i64 (pa : Int), .int .i64 (pb : Int), .bool true])) (by rw [List.getElem?_toArray]; rfl) (by kernel_rfl) (by kernel_rfl) (by kernel_rfl) (by exact fun _ _ _ h => h) (Or.inl ⟨by rfl, fun W hW => by obtain ⟨x0, x1, x2, x3⟩ := hW; go_simp⟩) hS ?_
      simp only [Act.put, List.setIfInBounds_toArray, List.set_cons_zero, List.set_cons_succ]
      refine wpAnyH_take (i := 6) (v := (.int .i64 (k : Int))) (by rw [List.getElem?_toArray]; rfl) (by kernel_rfl) (by kernel_rfl) (by kernel_rfl) (by exact fun _ _ _ h => h) (Or.inl ⟨by rfl, fun W hW => by go_simp⟩) hS ?_
      simp only [Act.put, List.setIfInBounds_toArray, List.set_cons_zero, List.set_cons_succ]
      refine wpAnyH_take (i := 7) (v := (.agg #[.string wd, .int .i64 (pa : Int), .int .i64 (pb : Int), .bool true, .int .i64 (k : Int)])) (by rw [List.getElem?_toArray]; rfl) (by kernel_rfl) (by kernel_rfl) (by kernel_rfl) (by exact fun _ _ _ h => h) (Or.inl ⟨by rfl, fun W hW => by go_simp⟩) hS ?_
      simp only [Act.put, List.setIfInBounds_toArray, List.set_cons_zero, List.set_cons_succ]
      refine wpAnyH_ready (rs := [4, 8]) (by kernel_rfl) (by simp) (AllReadyH.cons (by rw [List.getElem?_toArray]; rfl) (fun K hK => ?_) (AllReadyH.cons (by rw [List.getElem?_toArray]; rfl) (fun K hK => ?_) AllReadyH.nil))
      · go_simp
        have hSn := hS
        refine hK.out _ _ hSn ?_
        clear hS hK K hSn
        intro hS
        refine take_oneHL 8 (AllReadyH.cons (by rw [List.getElem?_toArray]; rfl) (fun K hK => ?_) AllReadyH.nil) (by kernel_rfl)
        go_simp
        have hSn := HVF.out.hsx (.cells #[.string wd, .int .i64 (pa : Int), .int .i64 (pb : Int), .bool true, .int .i64 (k : Int)] 50)
        refine hK.out _ _ hSn ?_
        clear hS hK K hSn
        intro hS
        refine take_oneHL 9 (AllReadyH.cons (by rw [List.getElem?_toArray]; rfl) (fun K hK => ?_) AllReadyH.nil) (by kernel_rfl)
        refine step_append_rows _ rfl (.tmp 43) (.tmp 47) 41 rfl (w0.heap.size + 1 + 1) (w0.heap.size + 1 + 1) 50 i1 _ 5 48 Tryd.underlying41 hj hy0 hy1 hy2 rfl (by decide) _ _ _ rfl HVF.out.oa _ _ _ rfl HVF.out.lr (aC_one _) (by unfold maxLen; omega) (by omega) (by simp [hVs]; omega) ?_
        intro v7 w7 hO7 hg7 hat7
        have hSn := HVF.out.hsg _ hg7
        refine hK.out _ _ hSn ?_
        clear hS hK K hSn
        intro hS
        simp only [Act.put, List.setIfInBounds_toArray, List.set_cons_zero, List.set_cons_succ]
        refine wpAnyH_take (i := 10) (v := (.pointer (some ⟨w0.heap.size + 1, 0, none⟩))) (by rw [List.getElem?_toArray]; rfl) (by kernel_rfl) (by kernel_rfl) (by kernel_rfl) (by exact fun _ _ _ h => h) (Or.inl ⟨by rfl, fun W hW => by go_simp⟩) hS ?_
        simp only [Act.put, List.setIfInBounds_toArray, List.set_cons_zero, List.set_cons_succ]
        refine wpAnyH_take (i := 11) (v := (.pointer (some ⟨w0.heap.size + 1, 3, none⟩))) (by rw [List.getElem?_toArray]; rfl) (by kernel_rfl) (by kernel_rfl) (by kernel_rfl) (by exact fun _ _ _ h => h) (Or.inl ⟨by rfl, fun W hW => by go_simp⟩) hS ?_
        simp only [Act.put, List.setIfInBounds_toArray, List.set_cons_zero, List.set_cons_succ]
        have pc7 := HVF.out.pc w7 hg7
        have pf7 := HVF.out.pf w7 hg7
        have HP7 := hideK (HVF.out.put w7 v7 hg7 hO7 hat7)
        obtain ⟨va, vc, rfl⟩ := sliceH_own hO7
        clear hO7 hg7 hat7
        refine take_oneHL 12 (AllReadyH.cons (by rw [List.getElem?_toArray]; rfl) (fun K hK => ?_) AllReadyH.nil) (by kernel_rfl)
        go_simp
        have hSn := HVF.out.hss _ (.slice va (arr.length + 1) vc) hS
        refine hK.out _ _ hSn ?_
        clear hS hK K hSn
        intro hS
        refine wpAnyH_done (by kernel_rfl) ?_ _
        go_wp2_with fail
        go_end0
        exact ⟨rfl, _, by rw [HR.out]; exact HP7.out.1, HP7.out.2.1, HP7.out.2.2⟩
      · go_simp
        have hSn := HVF.out.hsx (.cells #[.string wd, .int .i64 (pa : Int), .int .i64 (pb : Int), .bool true, .int .i64 (k : Int)] 50)
        refine hK.out _ _ hSn ?_
        clear hS hK K hSn
        intro hS
        refine take_oneHL 4 (AllReadyH.cons (by rw [List.getElem?_toArray]; rfl) (fun K hK => ?_) AllReadyH.nil) (by kernel_rfl)
        go_simp
        have hSn := hS
        refine hK.out _ _ hSn ?_
        clear hS hK K hSn
        intro hS
        refine take_oneHL 9 (AllReadyH.cons (by rw [List.getElem?_toArray]; rfl) (fun K hK => ?_) AllReadyH.nil) (by kernel_rfl)
        refine step_append_rows _ rfl (.tmp 43) (.tmp 47) 41 rfl (w0.heap.size + 1 + 1) (w0.heap.size + 1 + 1) 50 i1 _ 5 48 Tryd.underlying41 hj hy0 hy1 hy2 rfl (by decide) _ _ _ rfl HVF.out.oa _ _ _ rfl HVF.out.lr (aC_one _) (by unfold maxLen; omega) (by omega) (by simp [hVs]; omega) ?_
        intro v7 w7 hO7 hg7 hat7
        have hSn := HVF.out.hsg _ hg7
        refine hK.out _ _ hSn ?_
        clear hS hK K hSn
        intro hS
        simp only [Act.put, List.setIfInBounds_toArray, List.set_cons_zero, List.set_cons_succ]
        refine wpAnyH_take (i := 10) (v := (.pointer (some ⟨w0.heap.size + 1, 0, none⟩))) (by rw [List.getElem?_toArray]; rfl) (by kernel_rfl) (by kernel_rfl) (by kernel_rfl) (by exact fun _ _ _ h => h) (Or.inl ⟨by rfl, fun W hW => by go_simp⟩) hS ?_
        simp only [Act.put, List.setIfInBounds_toArray, List.set_cons_zero, List.set_cons_succ]
        refine wpAnyH_take (i := 11) (v := (.pointer (some ⟨w0.heap.size + 1, 3, none⟩))) (by rw [List.getElem?_toArray]; rfl) (by kernel_rfl) (by kernel_rfl) (by kernel_rfl) (by exact fun _ _ _ h => h) (Or.inl ⟨by rfl, fun W hW => by go_simp⟩) hS ?_
        simp only [Act.put, List.setIfInBounds_toArray, List.set_cons_zero, List.set_cons_succ]
        have pc7 := HVF.out.pc w7 hg7
        have pf7 := HVF.out.pf w7 hg7
        have HP7 := hideK (HVF.out.put w7 v7 hg7 hO7 hat7)
        obtain ⟨va, vc, rfl⟩ := sliceH_own hO7
        clear hO7 hg7 hat7
        refine take_oneHL 12 (AllReadyH.cons (by rw [List.getElem?_toArray]; rfl) (fun K hK => ?_) AllReadyH.nil) (by kernel_rfl)
        go_simp
        have hSn := HVF.out.hss _ (.slice va (arr.length + 1) vc) hS
        refine hK.out _ _ hSn ?_
        clear hS hK K hSn
        intro hS
        refine wpAnyH_done (by kernel_rfl) ?_ _
        go_wp2_with fail
        go_end0
        exact ⟨rfl, _, by rw [HR.out]; exact HP7.out.1, HP7.out.2.1, HP7.out.2.2⟩
end Go.Proofs.YtlphhlnoemlbaaaDoor
