/-
  What lies in memory while graph.least makes its nodes.
-/
import Derived.Test.YthhbbhijpkoelaaDoorHj
namespace Go.Proofs.YthhbbhijpkoelaaDoor
open Go.RowKit Go.Shelf

abbrev TkN := Nd × (Option Addr × Nat) × (Option Addr × Nat)
def nC (t : TkN) : List Value := [.int .i64 t.1.kind, .int .i64 t.1.so, .slice t.2.1.1 t.1.labs.length t.2.1.2, .slice t.2.2.1 t.1.to.length t.2.2.2]
def ndCs (ts : List TkN) : List Value := ts.flatMap nC
theorem ndCs_at : ∀ (ts : List TkN) (i : Nat) (h : i < ts.length) (j : Nat), j < 4 → (ndCs ts)[i * 4 + j]? = (nC ts[i])[j]?
  | [], i, h, _, _ => by simp at h
  | t :: ts, 0, _, j, hj => by
    have e : ndCs (t :: ts) = nC t ++ ndCs ts := rfl
    rw [e, Nat.zero_mul, Nat.zero_add, List.getElem?_append_left (show j < (nC t).length from hj)]
    rfl
  | t :: ts, i + 1, h, j, hj => by
    have e : ndCs (t :: ts) = nC t ++ ndCs ts := rfl
    have hl : (nC t).length = 4 := rfl
    rw [e, List.getElem?_append_right (by omega), hl, show (i + 1) * 4 + j - 4 = i * 4 + j by omega, ndCs_at ts i (by simpa using h) j hj]
    rfl
theorem ndCs_snoc (ts : List TkN) (t : TkN) : ndCs (ts ++ [t]) = ndCs ts ++ nC t := by simp [ndCs]
/-- a row of values in a block of which P holds -/
def NP (W : World) (P : Nat → Prop) (vs : List Value) (a : Option Addr) : Prop := vs = [] ∨ ∃ b o, a = some ⟨b, o, none⟩ ∧ P b ∧ ∀ i (h : i < vs.length), W.cell? ⟨b, o + i, none⟩ = some vs[i]
theorem NP.keep {W W' : World} {P Q : Nat → Prop} {vs : List Value} {a : Option Addr} (hc : ∀ b o, P b → W'.cell? ⟨b, o, none⟩ = W.cell? ⟨b, o, none⟩) (hq : ∀ b, P b → Q b) (h : NP W P vs a) : NP W' Q vs a :=
  h.imp id fun ⟨b, o, e, hp, hh⟩ => ⟨b, o, e, hq b hp, fun i hi => (hc b _ hp).trans (hh i hi)⟩
def TKS (W : World) (P : Nat → Prop) (ts : List TkN) : Prop := ∀ t ∈ ts, NP W P (t.1.labs.map Value.string) t.2.1.1 ∧ NP W P (t.1.to.map fun t : Nat => Value.int .i64 (t : Int)) t.2.2.1
theorem TKS.keep {W W' : World} {P Q : Nat → Prop} {ts : List TkN} (hc : ∀ b o, P b → W'.cell? ⟨b, o, none⟩ = W.cell? ⟨b, o, none⟩) (hq : ∀ b, P b → Q b) (h : TKS W P ts) : TKS W' Q ts := fun t ht => ⟨(h t ht).1.keep hc hq, (h t ht).2.keep hc hq⟩
/-- two rows lie apart -/
def apt (a b : Option Nat) : Prop := ∀ k, a = some k → b ≠ some k
theorem apt.symm {a b : Option Nat} (h : apt a b) : apt b a := fun k hb ha => h k ha hb
theorem apt.or {a b : Option Nat} (h : apt a b) : a = none ∨ a ≠ b := by
  cases a with
  | none => exact .inl rfl
  | some k => exact .inr fun e => h k rfl e.symm
theorem gat_of {W : World} {B : Nat} {u : Value} {ts : List TkN} (ho : W.ownsRow B 60 4 u ts.length (ndCs ts)) {P : Nat → Prop} (ht : TKS W P ts) (hP : ∀ b, P b → b < W.heap.size) : ∃ ag cg, u = .slice ag ts.length cg ∧ GAt W W.heap.size (ts.map (·.1)) ag := by
  rcases own_cells ho with ⟨rfl, h0, _⟩ | ⟨g, cap, rfl, _, hg, hc⟩
  · refine ⟨none, 0, by rw [h0], .inl ?_⟩
    rw [List.length_eq_zero_iff.1 h0]; rfl
  · refine ⟨_, _, rfl, .inr ⟨g, 0, rfl, hg, fun i hi => ?_⟩⟩
    have hi' : i < ts.length := by simpa using hi
    rw [List.getElem_map]
    have np : ∀ {vs : List Value} {a : Option Addr}, NP W P vs a → NAt W W.heap.size vs a := fun h => h.imp id fun ⟨b, o, e, hp, hh⟩ => ⟨b, o, e, hP b hp, hh⟩
    refine ⟨ts[i].2.1.1, ts[i].2.1.2, ts[i].2.2.1, ts[i].2.2.2, ⟨?_, ?_, ?_, ?_⟩, np (ht _ (List.getElem_mem hi')).1, np (ht _ (List.getElem_mem hi')).2⟩
    · rw [Nat.zero_add]; exact hc (i * 4 + 0) _ ((ndCs_at ts i hi' 0 (by omega)).trans rfl)
    · rw [Nat.zero_add]; exact hc _ _ ((ndCs_at ts i hi' 1 (by omega)).trans rfl)
    · rw [Nat.zero_add]; exact hc _ _ ((ndCs_at ts i hi' 2 (by omega)).trans rfl)
    · rw [Nat.zero_add]; exact hc _ _ ((ndCs_at ts i hi' 3 (by omega)).trans rfl)
/-- a graph in memory, with room for the To of each node -/
def GAK (W : World) (B : Nat) (g : List Nd) (ag : Option Addr) : Prop := g = [] ∨ ∃ b o, ag = some ⟨b, o, none⟩ ∧ b < B ∧ ∀ i (h : i < g.length), ∃ al cl at1 ct, NdAt W b (o + i * 4) g[i] al cl at1 ct ∧ LA W B g[i].labs al ∧ NI W B g[i].to at1 ∧ g[i].to.length ≤ ct
theorem GAK.gat {W : World} {B : Nat} {g : List Nd} {ag : Option Addr} (h : GAK W B g ag) : GAt W B g ag :=
  h.imp id fun ⟨b, o, e, hb, hc⟩ => ⟨b, o, e, hb, fun i hi => by obtain ⟨al, cl, at1, ct, h1, h2, h3, _⟩ := hc i hi; exact ⟨al, cl, at1, ct, h1, h2, h3⟩⟩
theorem gak_of {W : World} {B : Nat} {u : Value} {ts : List TkN} (ho : W.ownsRow B 60 4 u ts.length (ndCs ts)) {P : Nat → Prop} (ht : TKS W P ts) (hP : ∀ b, P b → b < W.heap.size) (hk : ∀ t ∈ ts, t.1.to.length ≤ t.2.2.2) : ∃ ag cg, u = .slice ag ts.length cg ∧ GAK W W.heap.size (ts.map (·.1)) ag := by
  rcases own_cells ho with ⟨rfl, h0, _⟩ | ⟨g, cap, rfl, _, hg, hc⟩
  · refine ⟨none, 0, by rw [h0], .inl ?_⟩
    rw [List.length_eq_zero_iff.1 h0]; rfl
  · refine ⟨_, _, rfl, .inr ⟨g, 0, rfl, hg, fun i hi => ?_⟩⟩
    have hi' : i < ts.length := by simpa using hi
    rw [List.getElem_map]
    have np : ∀ {vs : List Value} {a : Option Addr}, NP W P vs a → NAt W W.heap.size vs a := fun h => h.imp id fun ⟨b, o, e, hp, hh⟩ => ⟨b, o, e, hP b hp, hh⟩
    refine ⟨ts[i].2.1.1, ts[i].2.1.2, ts[i].2.2.1, ts[i].2.2.2, ⟨?_, ?_, ?_, ?_⟩, np (ht _ (List.getElem_mem hi')).1, np (ht _ (List.getElem_mem hi')).2, hk _ (List.getElem_mem hi')⟩
    · rw [Nat.zero_add]; exact hc (i * 4 + 0) _ ((ndCs_at ts i hi' 0 (by omega)).trans rfl)
    · rw [Nat.zero_add]; exact hc _ _ ((ndCs_at ts i hi' 1 (by omega)).trans rfl)
    · rw [Nat.zero_add]; exact hc _ _ ((ndCs_at ts i hi' 2 (by omega)).trans rfl)
    · rw [Nat.zero_add]; exact hc _ _ ((ndCs_at ts i hi' 3 (by omega)).trans rfl)
theorem own_capK {W : World} {B : Nat} {e : TypeId} {z n c : Nat} {a : Option Addr} {xs : List Value} (h : W.ownsRow B e z (.slice a n c) n xs) : n ≤ c := by
  obtain ⟨_, ⟨e1, e2⟩ | ⟨g, cap, cur, e1, _, _, h1, _⟩⟩ := h
  · omega
  · injection e1 with _ _ e3; omega
theorem idx_more (c R e : List Nat) (t : Nat) (h : clAt c t ∈ R.map (clAt c)) : idxR c (R ++ e) t = idxR c R t := by
  unfold idxR
  rw [List.map_append, List.idxOf_append, if_pos h]
theorem mk_more (g : List Nd) (c R e : List Nat) (i : Nat) (h : ∀ t ∈ (nodeAt g i).to, clAt c t ∈ R.map (clAt c)) : mkN g c (R ++ e) i = mkN g c R i := by
  unfold mkN
  congr 1
  exact List.map_congr_left fun t ht => idx_more c R e t (h t ht)
/-- while a node's To are made -/
structure IS (w : World) (B2 cb nb rb fb n : Nat) (ac : Option Addr) (c R : List Nat) (u uo : Value) (m : Nat) (ts : List TkN) (mb : Nat) (kd so : Int) (ls : List ByteArray) (la : Option Addr) (lc : Nat) (ut : Value) (qs : List Nat) (W : World) : Prop where
  rc : RC W B2 cb nb rb fb n ac c R u
  out : W.ownsRow B2 60 4 uo m (ndCs ts)
  tks : TKS W (fun b => B2 ≤ b ∧ b < W.heap.size ∧ u.ownBlock ≠ some b ∧ uo.ownBlock ≠ some b ∧ ut.ownBlock ≠ some b ∧ b ≠ mb) ts
  lab : NP W (fun b => B2 ≤ b ∧ b < W.heap.size ∧ u.ownBlock ≠ some b ∧ uo.ownBlock ≠ some b ∧ ut.ownBlock ≠ some b ∧ b ≠ mb) (ls.map Value.string) la
  m0 : W.cell? ⟨mb, 0, none⟩ = some (.int .i64 kd)
  m1 : W.cell? ⟨mb, 1, none⟩ = some (.int .i64 so)
  m2 : W.cell? ⟨mb, 2, none⟩ = some (.slice la ls.length lc)
  m3 : W.cell? ⟨mb, 3, none⟩ = some ut
  mf : ∀ o, W.frozen? ⟨mb, o, none⟩ = false
  ml : B2 ≤ mb ∧ mb < W.heap.size
  mu : u.ownBlock ≠ some mb ∧ uo.ownBlock ≠ some mb ∧ ut.ownBlock ≠ some mb
  row : W.ownsRow B2 3 1 ut qs.length (qs.map fun t : Nat => Value.int .i64 (t : Int))
  d1 : apt uo.ownBlock u.ownBlock
  d2 : apt ut.ownBlock u.ownBlock
  d3 : apt ut.ownBlock uo.ownBlock
  bl : Below w.heap.size w W
  b0 : w.heap.size ≤ cb
theorem fresh_ne {u u' : Option Nat} {N : Nat} (h : u' = u ∨ ∀ k, u' = some k → N ≤ k) {b : Nat} (hb : b < N) (hu : u ≠ some b) : u' ≠ some b := by
  rcases h with h | h
  · rw [h]; exact hu
  · intro e; have := h b e; omega
theorem fresh_apt {u u' a : Option Nat} {N : Nat} (h : u' = u ∨ ∀ k, u' = some k → N ≤ k) (ha : ∀ k, a = some k → k < N) (hu : apt a u) : apt a u' := fun k hk => fresh_ne h (ha k hk) (hu k hk)
theorem IS.reach {w : World} {B2 cb nb rb fb n : Nat} {ac : Option Addr} {c R R' : List Nat} {u u' uo : Value} {m : Nat} {ts : List TkN} {mb : Nat} {kd so : Int} {ls : List ByteArray} {la : Option Addr} {lc : Nat} {ut : Value} {qs : List Nat} {W W' : World} (h : IS w B2 cb nb rb fb n ac c R u uo m ts mb kd so ls la lc ut qs W)
    (hr : RC W' B2 cb nb rb fb n ac c R' u') (hf : RF fb rb u.ownBlock W W') (hn : u'.ownBlock = u.ownBlock ∨ ∀ k, u'.ownBlock = some k → W.heap.size ≤ k) : IS w B2 cb nb rb fb n ac c R' u' uo m ts mb kd so ls la lc ut qs W' := by
  have o2 := h.rc.o2
  have o3 := h.rc.o3
  have o4 := h.rc.o4
  have o5 := h.rc.o5
  have b0 := h.b0
  have o1 := h.rc.o1
  have hs := hf.size
  have hcell : ∀ b o, B2 ≤ b → b < W.heap.size → u.ownBlock ≠ some b → W'.cell? ⟨b, o, none⟩ = W.cell? ⟨b, o, none⟩ := fun b o h1 h2 h3 => hf.cell h2 (by omega) (by omega) (fun e => h3 e.symm)
  have hq : ∀ b, (B2 ≤ b ∧ b < W.heap.size ∧ u.ownBlock ≠ some b ∧ uo.ownBlock ≠ some b ∧ ut.ownBlock ≠ some b ∧ b ≠ mb) → (B2 ≤ b ∧ b < W'.heap.size ∧ u'.ownBlock ≠ some b ∧ uo.ownBlock ≠ some b ∧ ut.ownBlock ≠ some b ∧ b ≠ mb) := fun b hb => ⟨hb.1, by omega, fresh_ne hn hb.2.1 hb.2.2.1, hb.2.2.2⟩
  exact ⟨hr, hf.own h.out (by omega) (by omega) h.d1.or, h.tks.keep (fun b o hb => hcell b o hb.1 hb.2.1 hb.2.2.1) hq, h.lab.keep (fun b o hb => hcell b o hb.1 hb.2.1 hb.2.2.1) hq,
    (hcell mb 0 h.ml.1 h.ml.2 h.mu.1).trans h.m0, (hcell mb 1 h.ml.1 h.ml.2 h.mu.1).trans h.m1, (hcell mb 2 h.ml.1 h.ml.2 h.mu.1).trans h.m2, (hcell mb 3 h.ml.1 h.ml.2 h.mu.1).trans h.m3,
    fun o => (hf.frozen h.ml.2 (by have := h.ml.1; omega) (by have := h.ml.1; omega) (fun e => h.mu.1 e.symm)).trans (h.mf o), ⟨h.ml.1, by have := h.ml.2; omega⟩, ⟨fresh_ne hn h.ml.2 h.mu.1, h.mu.2⟩, hf.own h.row (by omega) (by omega) h.d2.or,
    fresh_apt hn (fun k hk => (h.out.lt k hk).2) h.d1, fresh_apt hn (fun k hk => (h.row.lt k hk).2) h.d2, h.d3, hf.below h.bl h.bl.size (by omega) (by omega) (fun k hk => by have := (h.rc.own.lt k hk).1; omega), h.b0⟩
theorem RC.kept {W W' : World} {B2 cb nb rb fb n : Nat} {ac : Option Addr} {c R : List Nat} {u : Value} (h : RC W B2 cb nb rb fb n ac c R u) {row : Option Nat} (hg : W.grownBy W' row) (hr : ∀ k, row = some k → B2 ≤ k) (hd : apt u.ownBlock row) : RC W' B2 cb nb rb fb n ac c R u := by
  have o1 := h.o1
  have o2 := h.o2
  have o3 := h.o3
  have o4 := h.o4
  have o5 := h.o5
  have hc : ∀ b o, b < B2 → W'.cell? ⟨b, o, none⟩ = W.cell? ⟨b, o, none⟩ := fun b o hb => World.cell?_of_block (a := ⟨b, o, none⟩) (hg.block b (by omega) (fun e => by have := hr b e.symm; omega))
  have hf : ∀ b o, b < B2 → W'.frozen? ⟨b, o, none⟩ = W.frozen? ⟨b, o, none⟩ := fun b o hb => World.frozen?_of_block (a := ⟨b, o, none⟩) (hg.block b (by omega) (fun e => by have := hr b e.symm; omega))
  exact ⟨(hc cb 0 (by omega)).trans h.hc, (hc nb 0 (by omega)).trans h.hn, (hc rb 0 (by omega)).trans h.hr, (hf rb 0 (by omega)).trans h.hrf, h.cls.imp id fun ⟨b, o, e, hb, hh⟩ => ⟨b, o, e, hb, fun i hi => (hc b _ (by omega)).trans (hh i hi)⟩, fun x hx => (hc fb x (by omega)).trans (h.num x hx), fun x => (hf fb x (by omega)).trans (h.numf x), h.own.kept hg hd.or, o1, o2, o3, o4, Nat.le_trans o5 hg.size, h.cl⟩
theorem IS.app {w : World} {B2 cb nb rb fb n : Nat} {ac : Option Addr} {c R : List Nat} {u uo : Value} {m : Nat} {ts : List TkN} {mb : Nat} {kd so : Int} {ls : List ByteArray} {la : Option Addr} {lc : Nat} {ut ut' : Value} {qs : List Nat} {W W4 : World} {ob : Obj} (h : IS w B2 cb nb rb fb n ac c R u uo m ts mb kd so ls la lc ut qs W) (x : Nat)
    (hg : (W.alloc ob).grownBy W4 ut.ownBlock) (hO : W4.ownsRow B2 3 1 ut' (qs.length + 1) ((qs.map fun t : Nat => Value.int .i64 (t : Int)) ++ [.int .i64 (x : Int)])) (hn : ut'.ownBlock = ut.ownBlock ∨ ut'.ownBlock = some (W.alloc ob).heap.size) :
    IS w B2 cb nb rb fb n ac c R u uo m ts mb kd so ls la lc ut' (qs ++ [x]) (W4.setCell ⟨mb, 3, none⟩ ut') := by
  have o4 := h.rc.o4
  have o5 := h.rc.o5
  have b0 := h.b0
  have o1 := h.rc.o1
  have o2 := h.rc.o2
  have o3 := h.rc.o3
  have hgW : W.grownBy W4 ut.ownBlock := (World.grownBy_alloc W ob _).trans hg
  have hn' : ut'.ownBlock = ut.ownBlock ∨ ∀ k, ut'.ownBlock = some k → W.heap.size ≤ k := hn.imp id fun e k hk => by rw [e] at hk; injection hk with hk; simp at hk; omega
  have hs := hgW.size
  have hml := h.ml
  have hcell : ∀ b o, b < W.heap.size → ut.ownBlock ≠ some b → b ≠ mb → (W4.setCell ⟨mb, 3, none⟩ ut').cell? ⟨b, o, none⟩ = W.cell? ⟨b, o, none⟩ := fun b o h2 h3 h4 => (World.cell?_setCell_other _ _ _ _ (by intro e; injection e with e; exact h4 e.symm)).trans (World.cell?_of_block (a := ⟨b, o, none⟩) (hgW.block b h2 (fun e => h3 e.symm)))
  have hmc : ∀ o, o ≠ 3 → (W4.setCell ⟨mb, 3, none⟩ ut').cell? ⟨mb, o, none⟩ = W.cell? ⟨mb, o, none⟩ := fun o ho => (World.cell?_setCell_other _ _ _ _ (by intro e; injection e with _ e; exact ho e.symm)).trans (World.cell?_of_block (a := ⟨mb, o, none⟩) (hgW.block mb hml.2 (fun e => h.mu.2.2 e.symm)))
  have hq : ∀ b, (B2 ≤ b ∧ b < W.heap.size ∧ u.ownBlock ≠ some b ∧ uo.ownBlock ≠ some b ∧ ut.ownBlock ≠ some b ∧ b ≠ mb) → (B2 ≤ b ∧ b < (W4.setCell ⟨mb, 3, none⟩ ut').heap.size ∧ u.ownBlock ≠ some b ∧ uo.ownBlock ≠ some b ∧ ut'.ownBlock ≠ some b ∧ b ≠ mb) := fun b hb => ⟨hb.1, by simp; omega, hb.2.2.1, hb.2.2.2.1, fresh_ne hn' hb.2.1 hb.2.2.2.2.1, hb.2.2.2.2.2⟩
  have hrow : ∀ k, ut.ownBlock = some k → B2 ≤ k := fun k hk => (h.row.lt k hk).1
  have hset := grown_set W4 mb 3 ut'
  have hmk : ∀ k, some mb = some k → B2 ≤ k := fun k hk => by injection hk with hk; omega
  have hf4 : ∀ o, (W4.setCell ⟨mb, 3, none⟩ ut').frozen? ⟨mb, o, none⟩ = false := fun o => by
    rw [World.frozen?_setCell, World.frozen?_of_block (a := ⟨mb, o, none⟩) (hgW.block mb hml.2 (fun e => h.mu.2.2 e.symm))]
    exact h.mf o
  refine ⟨(h.rc.kept hgW hrow h.d2.symm).kept hset hmk (fun k hk e => by injection e with e; subst e; exact h.mu.1 hk), (h.out.kept hgW (apt.or h.d3.symm)).kept hset (apt.or (fun k hk e => by injection e with e; subst e; exact h.mu.2.1 hk)),
    h.tks.keep (fun b o hb => hcell b o hb.2.1 hb.2.2.2.2.1 hb.2.2.2.2.2) hq, h.lab.keep (fun b o hb => hcell b o hb.2.1 hb.2.2.2.2.1 hb.2.2.2.2.2) hq, (hmc 0 (by omega)).trans h.m0, (hmc 1 (by omega)).trans h.m1, (hmc 2 (by omega)).trans h.m2, ?_, hf4, ⟨hml.1, by simp; omega⟩, ⟨h.mu.1, h.mu.2.1, fresh_ne hn' hml.2 h.mu.2.2⟩, ?_, h.d1, ?_, ?_, ?_, h.b0⟩
  · exact World.cell?_setCell_same _ _ _ ((World.cell?_of_block (a := ⟨mb, 3, none⟩) (hgW.block mb hml.2 (fun e => h.mu.2.2 e.symm))).trans h.m3)
  · have := hO.kept hset (apt.or (fun k hk e => by injection e with e; subst e; exact fresh_ne hn' hml.2 h.mu.2.2 hk))
    simpa using this
  · exact (fresh_apt hn' (fun k hk => (h.rc.own.lt k hk).2) h.d2.symm).symm
  · exact (fresh_apt hn' (fun k hk => (h.out.lt k hk).2) h.d3.symm).symm
  · exact (h.bl.grown hgW h.bl.size (fun k hk => by have := hrow k hk; omega)).setCell (p := ⟨mb, 3, none⟩) (by show w.heap.size ≤ mb; omega) ut'
end Go.Proofs.YthhbbhijpkoelaaDoor
/-
  What lies in memory between two nodes that graph.least makes.
-/
namespace Go.Proofs.YthhbbhijpkoelaaDoor
open Go.RowKit Go.Shelf

structure LSt (w : World) (g : List Nd) (B2 cb nb rb fb n : Nat) (ac : Option Addr) (c R : List Nat) (u uo : Value) (m : Nat) (ts : List TkN) (W : World) : Prop where
  rc : RC W B2 cb nb rb fb n ac c R u
  ri : RInv g c R m
  le : m ≤ R.length
  out : W.ownsRow B2 60 4 uo m (ndCs ts)
  map : ts.map (·.1) = (R.take m).map (mkN g c R)
  tks : TKS W (fun b => B2 ≤ b ∧ b < W.heap.size ∧ u.ownBlock ≠ some b ∧ uo.ownBlock ≠ some b) ts
  d1 : apt uo.ownBlock u.ownBlock
  bl : Below w.heap.size w W
  b0 : w.heap.size ≤ cb
  cp : ∀ t ∈ ts, t.1.to.length ≤ t.2.2.2
theorem LSt.make {w : World} {g : List Nd} {B2 cb nb rb fb n : Nat} {ac : Option Addr} {c R : List Nat} {u uo : Value} {m : Nat} {ts : List TkN} {W W3 : World} (h : LSt w g B2 cb nb rb fb n ac c R u uo m ts W) (hb : Below W.heap.size W W3) {mb : Nat} (hm : W.heap.size ≤ mb ∧ mb < W3.heap.size) {kd so : Int} {ls : List ByteArray} {la : Option Addr} {lc : Nat}
    (m0 : W3.cell? ⟨mb, 0, none⟩ = some (.int .i64 kd)) (m1 : W3.cell? ⟨mb, 1, none⟩ = some (.int .i64 so)) (m2 : W3.cell? ⟨mb, 2, none⟩ = some (.slice la ls.length lc)) (m3 : W3.cell? ⟨mb, 3, none⟩ = some (.slice none 0 0)) (mf : ∀ o, W3.frozen? ⟨mb, o, none⟩ = false)
    (hl : NP W3 (fun b => W.heap.size ≤ b ∧ b < W3.heap.size ∧ b ≠ mb) (ls.map Value.string) la) : IS w B2 cb nb rb fb n ac c R u uo m ts mb kd so ls la lc (.slice none 0 0) [] W3 := by
  have o5 := h.rc.o5
  have hs := hb.size
  have hbu : ∀ b, W.heap.size ≤ b → u.ownBlock ≠ some b := fun b h1 e => by have := (h.rc.own.lt b e).2; omega
  have hbo : ∀ b, W.heap.size ≤ b → uo.ownBlock ≠ some b := fun b h1 e => by have := (h.out.lt b e).2; omega
  refine ⟨h.rc.kept (below_grown hb none) (fun k hk => by cases hk) (fun k _ e => by cases e), own_belowG h.out hb, h.tks.keep (fun b o hq => hb.cell (p := ⟨b, o, none⟩) hq.2.1) (fun b hq => ⟨hq.1, by omega, hq.2.2.1, hq.2.2.2, by simp [Value.ownBlock], by omega⟩), hl.keep (fun _ _ _ => rfl) (fun b hq => ⟨by omega, hq.2.1, hbu b hq.1, hbo b hq.1, by simp [Value.ownBlock], hq.2.2⟩), m0, m1, m2, m3, mf, ⟨by omega, hm.2⟩, ⟨hbu mb hm.1, hbo mb hm.1, by simp [Value.ownBlock]⟩, World.ownsRow_nil _ _ _ _, h.d1, fun k hk => by simp [Value.ownBlock] at hk, fun k hk => by simp [Value.ownBlock] at hk, h.bl.trans (hb.mono h.bl.size), h.b0⟩
theorem IS.done {w : World} {g : List Nd} {B2 cb nb rb fb n : Nat} {ac : Option Addr} {c R : List Nat} {u u' uo uo' : Value} {m : Nat} {ts : List TkN} {mb lc : Nat} {la ta : Option Addr} {tc : Nat} {W0 W W4 : World} {ob : Obj} (h0 : LSt w g B2 cb nb rb fb n ac c R u uo m ts W0) (hs : shutG g) (hm : m < R.length)
    (h : IS w B2 cb nb rb fb n ac c ((nodeAt g R[m]).to.foldl (addR c) R) u' uo m ts mb (nodeAt g R[m]).kind (nodeAt g R[m]).so (nodeAt g R[m]).labs la lc (.slice ta (nodeAt g R[m]).to.length tc) ((nodeAt g R[m]).to.map (idxR c ((nodeAt g R[m]).to.foldl (addR c) R))) W)
    (hg : (W.alloc ob).grownBy W4 uo.ownBlock) (hO : W4.ownsRow B2 60 4 uo' (m + 1) (ndCs ts ++ nC (mkN g c ((nodeAt g R[m]).to.foldl (addR c) R) R[m], (la, lc), (ta, tc)))) (hn : uo'.ownBlock = uo.ownBlock ∨ uo'.ownBlock = some (W.alloc ob).heap.size) :
    LSt w g B2 cb nb rb fb n ac c ((nodeAt g R[m]).to.foldl (addR c) R) u' uo' (m + 1) (ts ++ [(mkN g c ((nodeAt g R[m]).to.foldl (addR c) R) R[m], (la, lc), (ta, tc))]) W4 := by
  obtain ⟨e, he⟩ := fold_pre c (nodeAt g R[m]).to R
  have hri := h0.ri.next hs hm
  generalize hR' : (nodeAt g R[m]).to.foldl (addR c) R = R' at *
  have hgW : W.grownBy W4 uo.ownBlock := (World.grownBy_alloc W ob _).trans hg
  have hn' : uo'.ownBlock = uo.ownBlock ∨ ∀ k, uo'.ownBlock = some k → W.heap.size ≤ k := hn.imp id fun e k hk => by rw [e] at hk; injection hk with hk; simp at hk; omega
  have hss := hgW.size
  have b0 := h.b0
  have o1 := h.rc.o1
  have o2 := h.rc.o2
  have o3 := h.rc.o3
  have o4 := h.rc.o4
  have hcell : ∀ b o, b < W.heap.size → uo.ownBlock ≠ some b → W4.cell? ⟨b, o, none⟩ = W.cell? ⟨b, o, none⟩ := fun b o h2 h3 => World.cell?_of_block (a := ⟨b, o, none⟩) (hgW.block b h2 (fun e => h3 e.symm))
  have hq : ∀ b, (B2 ≤ b ∧ b < W.heap.size ∧ u'.ownBlock ≠ some b ∧ uo.ownBlock ≠ some b) → (B2 ≤ b ∧ b < W4.heap.size ∧ u'.ownBlock ≠ some b ∧ uo'.ownBlock ≠ some b) := fun b hb => ⟨hb.1, by omega, hb.2.2.1, fresh_ne hn' hb.2.1 hb.2.2.2⟩
  have hmR : m < R'.length := by rw [he]; simp; omega
  have hRm : R'[m] = R[m] := by rw [List.getElem_of_eq he, List.getElem_append_left hm]
  refine ⟨h.rc.kept hgW (fun k hk => (h.out.lt k hk).1) h.d1.symm, hri, hmR, by rw [ndCs_snoc]; exact hO, ?_, ?_, (fresh_apt hn' (fun k hk => (h.rc.own.lt k hk).2) h.d1.symm).symm, h.bl.grown hgW h.bl.size (fun k hk => by have := (h.out.lt k hk).1; omega), h.b0, ?_⟩
  · rw [List.map_append, h0.map, List.take_succ_eq_append_getElem hmR, List.map_append, hRm]
    congr 1
    have ht : R'.take m = R.take m := by rw [he, List.take_append_of_le_length (by omega)]
    rw [ht, he]
    refine List.map_congr_left fun i hi => (mk_more g c R e i ?_).symm
    obtain ⟨k, hk, rfl⟩ := List.mem_iff_getElem.1 hi
    have hk' : k < m := by rw [List.length_take] at hk; omega
    rw [List.getElem_take]
    exact h0.ri.sh k (by omega) hk'
  · intro t ht
    rcases List.mem_append.1 ht with ht | ht
    · have := h.tks t ht
      have hk : ∀ {vs : List Value} {a : Option Addr}, NP W (fun b => B2 ≤ b ∧ b < W.heap.size ∧ u'.ownBlock ≠ some b ∧ uo.ownBlock ≠ some b ∧ (Value.slice ta (nodeAt g R[m]).to.length tc).ownBlock ≠ some b ∧ b ≠ mb) vs a → NP W4 (fun b => B2 ≤ b ∧ b < W4.heap.size ∧ u'.ownBlock ≠ some b ∧ uo'.ownBlock ≠ some b) vs a := fun hx => hx.keep (fun b o hb => hcell b o hb.2.1 hb.2.2.2.1) (fun b hb => hq b ⟨hb.1, hb.2.1, hb.2.2.1, hb.2.2.2.1⟩)
      exact ⟨hk this.1, hk this.2⟩
    · rw [List.mem_singleton] at ht
      subst ht
      refine ⟨h.lab.keep (fun b o hb => hcell b o hb.2.1 hb.2.2.2.1) (fun b hb => hq b ⟨hb.1, hb.2.1, hb.2.2.1, hb.2.2.2.1⟩), ?_⟩
      rcases own_cells h.row with ⟨_, _, e2⟩ | ⟨gg, cp, e1, hb1, hg1, hc1⟩
      · exact .inl e2
      · injection e1 with e1 _ _
        refine .inr ⟨gg, 0, e1, hq gg ⟨hb1, hg1, fun e3 => h.d2 gg (by rw [e1]; rfl) e3, fun e3 => h.d3 gg (by rw [e1]; rfl) e3⟩, fun i hi => ?_⟩
        rw [Nat.zero_add, hcell gg i hg1 (fun e3 => h.d3 gg (by rw [e1]; rfl) e3)]
        exact hc1 i _ (List.getElem?_eq_getElem hi)
  · intro t ht
    rcases List.mem_append.1 ht with ht | ht
    · exact h0.cp t ht
    · rw [List.mem_singleton] at ht
      subst ht
      have hw := h.row
      rw [List.length_map] at hw
      have := own_capK hw
      unfold mkN
      rw [List.length_map]
      exact this
theorem lst_step {g : List Nd} {c R : List Nat} {m : Nat} (hm : m < R.length) (hg : m < g.length) {X : List Nat} (h : lstR g c (g.length - m) m R = X) : lstR g c (g.length - (m + 1)) (m + 1) ((nodeAt g R[m]).to.foldl (addR c) R) = X := by
  rw [show g.length - m = (g.length - (m + 1)) + 1 by omega] at h
  unfold lstR at h
  rw [List.getElem?_eq_getElem hm] at h
  exact h
theorem lst_stop {g : List Nd} {c R : List Nat} {m : Nat} (hm : R.length ≤ m) {X : List Nat} (h : lstR g c (g.length - m) m R = X) : R = X := by
  cases hq : g.length - m with
  | zero => rw [hq] at h; exact h
  | succ f =>
    rw [hq] at h
    unfold lstR at h
    rw [List.getElem?_eq_none hm] at h
    exact h
end Go.Proofs.YthhbbhijpkoelaaDoor
