/-
  The memory of graph.typeFrom at a node that it has not come through: the type that it makes, and its Kids.
-/
import Derived.Test.YtnedgkcejlhnbaaDoorUl
import Derived.Test.YtnedgkcejlhnbaaDoorHm
namespace Go.Proofs.YtnedgkcejlhnbaaDoor
open Go.RowKit Go.Shelf

theorem But3.drew {wb pb mb : Nat} {w W : World} (h : But3 wb pb mb w W) : But3 wb pb mb w W.drew := ⟨h.os, h.tape, h.output, h.size, h.block⟩
/-- the box of the type that is made, its Kids so far, and the result's box -/
structure TBX (w : World) (n : Nd) (la : Option Addr) (lc tb base : Nat) (u : Value) (k : Nat) (ts : List TTk) (W : World) : Prop where
  r : RBX W w.heap.size
  o0 : W.cell? ⟨tb, 0, none⟩ = some (.int .i64 n.kind)
  o1 : W.cell? ⟨tb, 1, none⟩ = some (.int .i64 n.so)
  o2 : W.cell? ⟨tb, 2, none⟩ = some (.string ⟨#[]⟩)
  o3 : W.cell? ⟨tb, 3, none⟩ = some (.slice la n.labs.length lc)
  o4 : W.cell? ⟨tb, 4, none⟩ = some u
  fo : ∀ o, W.frozen? ⟨tb, o, none⟩ = false
  lp : LP W (fun b => w.heap.size < b ∧ b < base ∧ b ≠ tb) n.labs la
  own : W.ownsRow base 35 5 u k (tCs ts)
  tok : TOK W (fun b => base ≤ b ∧ b < W.heap.size ∧ u.ownBlock ≠ some b) ts
  ul : ∀ b, u.ownBlock = some b → base ≤ b ∧ b < W.heap.size
  l1 : w.heap.size < tb
  l2 : tb < base
  l3 : base ≤ W.heap.size
theorem RBX.blk {W W' : World} {b : Nat} (h : RBX W b) (hb : W'.heap[b]? = W.heap[b]?) (hs : W.heap.size ≤ W'.heap.size) : RBX W' b :=
  have c : ∀ o, W'.cell? ⟨b, o, none⟩ = W.cell? ⟨b, o, none⟩ := fun o => World.cell?_of_block (a := ⟨b, o, none⟩) hb
  ⟨(c 0).trans h.c0, (c 1).trans h.c1, (c 2).trans h.c2, (c 3).trans h.c3, (c 4).trans h.c4, fun o => (World.frozen?_of_block (a := ⟨b, o, none⟩) hb).trans (h.f o), Nat.lt_of_lt_of_le h.lt hs⟩
theorem TBX.keep {w : World} {n : Nd} {la : Option Addr} {lc tb base : Nat} {u : Value} {k : Nat} {ts : List TTk} {W W' : World} (h : TBX w n la lc tb base u k ts W) (hc : ∀ b, w.heap.size ≤ b → b < W.heap.size → W'.heap[b]? = W.heap[b]?) (hs : W.heap.size ≤ W'.heap.size) : TBX w n la lc tb base u k ts W' := by
  have h1 := h.l1
  have h2 := h.l2
  have h3 := h.l3
  have c : ∀ b o, w.heap.size ≤ b → b < W.heap.size → W'.cell? ⟨b, o, none⟩ = W.cell? ⟨b, o, none⟩ := fun b o hb hb' => World.cell?_of_block (a := ⟨b, o, none⟩) (hc b hb hb')
  refine ⟨h.r.blk (hc _ (Nat.le_refl _) (by omega)) hs, (c _ _ (by omega) (by omega)).trans h.o0, (c _ _ (by omega) (by omega)).trans h.o1, (c _ _ (by omega) (by omega)).trans h.o2, (c _ _ (by omega) (by omega)).trans h.o3, (c _ _ (by omega) (by omega)).trans h.o4, fun o => (World.frozen?_of_block (a := ⟨tb, o, none⟩) (hc tb (by omega) (by omega))).trans (h.fo o), h.lp.keep (fun b o hb => c b o (by omega) (by omega)) (fun _ hb => hb), ?_, h.tok.keep (fun b o hb => c b o (by omega) hb.2.1) (fun b hb => ⟨hb.1, by omega, hb.2.2⟩), fun b e => ⟨(h.ul b e).1, by have := (h.ul b e).2; omega⟩, h1, h2, by omega⟩
  refine ⟨h.own.1, h.own.2.imp id fun ⟨g, cp, cur, q1, q2, q3, q4⟩ => ⟨g, cp, cur, q1, q2, ?_, q4⟩⟩
  have hg := h.ul g (by rw [q1]; rfl)
  rw [hc g (by omega) hg.2]
  exact q3
theorem TBX.but {w : World} {n : Nd} {la : Option Addr} {lc tb base : Nat} {u : Value} {k : Nat} {ts : List TTk} {W W' : World} (h : TBX w n la lc tb base u k ts W) {wb pb mb : Nat} (h1 : wb < w.heap.size) (h2 : pb < w.heap.size) (h3 : mb < w.heap.size) (hb : But3 wb pb mb W W') : TBX w n la lc tb base u k ts W' :=
  h.keep (fun b hb1 hb2 => hb.block b hb2 (by omega) (by omega) (by omega)) hb.size
theorem TBX.below {w : World} {n : Nd} {la : Option Addr} {lc tb base : Nat} {u : Value} {k : Nat} {ts : List TTk} {W W' : World} (h : TBX w n la lc tb base u k ts W) (hb : Below W.heap.size W W') : TBX w n la lc tb base u k ts W' :=
  h.keep (fun b _ hb2 => hb.block b hb2) hb.size
/-- one Kid more -/
theorem TBX.app {w : World} {n : Nd} {la : Option Addr} {lc tb base : Nat} {u : Value} {k : Nat} {ts : List TTk} {W2 W3 w7 : World} {v7 : Value} {x : TTk} {V : Nat} (h : TBX w n la lc tb base u k ts W2) (hb : Below W2.heap.size W2 W3) (hV : base ≤ V) (hu : ∀ b, u.ownBlock = some b → b < V)
    (hx : TyBd x.1 x.2.1.2 x.2.2.2 ∧ LP W2 (fun b => V ≤ b ∧ b < W2.heap.size) x.1.labels x.2.1.1 ∧ ∃ d, KP W2 (fun b => V ≤ b ∧ b < W2.heap.size) d x.1.kids x.2.2.1) (hg : W3.grownBy w7 u.ownBlock) (hO : w7.ownsRow base 35 5 v7 (k + 1) (tCs ts ++ tC x)) (hat : v7.ownBlock = u.ownBlock ∨ v7.ownBlock = some W3.heap.size) : TBX w n la lc tb base v7 (k + 1) (ts ++ [x]) (w7.setCell ⟨tb, 4, none⟩ v7) := by
  have h1 := h.l1
  have h2 := h.l2
  have h3 := h.l3
  have hs3 := hb.size
  have hs7 := hg.size
  have hfr : ∀ b, b < W2.heap.size → u.ownBlock ≠ some b → v7.ownBlock ≠ some b := fun b hb' hn e => by
    rcases hat with q | q
    · exact hn (q ▸ e)
    · rw [q] at e; injection e with e; omega
  have hk : ∀ b, b < W2.heap.size → u.ownBlock ≠ some b → w7.heap[b]? = W2.heap[b]? := fun b hb' hn => (hg.block b (by omega) (fun e => hn e.symm)).trans (hb.block b hb')
  have hnu : ∀ b, b < base → u.ownBlock ≠ some b := fun b hb' e => by have := (h.ul b e).1; omega
  have c : ∀ b o, b < W2.heap.size → u.ownBlock ≠ some b → (b ≠ tb ∨ o ≠ 4) → (w7.setCell ⟨tb, 4, none⟩ v7).cell? ⟨b, o, none⟩ = W2.cell? ⟨b, o, none⟩ := fun b o hb' hn hne => (cell_set _ hne).trans (World.cell?_of_block (a := ⟨b, o, none⟩) (hk b hb' hn))
  have fz : ∀ b o, b < W2.heap.size → u.ownBlock ≠ some b → (w7.setCell ⟨tb, 4, none⟩ v7).frozen? ⟨b, o, none⟩ = W2.frozen? ⟨b, o, none⟩ := fun b o hb' hn => (World.frozen?_setCell _ _ _ _).trans (World.frozen?_of_block (a := ⟨b, o, none⟩) (hk b hb' hn))
  have tbn := hnu tb h2
  have rn := hnu w.heap.size (by omega)
  refine ⟨?_, (c _ _ (by omega) tbn (.inr (by omega))).trans h.o0, (c _ _ (by omega) tbn (.inr (by omega))).trans h.o1, (c _ _ (by omega) tbn (.inr (by omega))).trans h.o2, (c _ _ (by omega) tbn (.inr (by omega))).trans h.o3, World.cell?_setCell_same _ _ _ ((World.cell?_of_block (a := ⟨tb, 4, none⟩) (hk tb (by omega) tbn)).trans h.o4), fun o => (fz _ _ (by omega) tbn).trans (h.fo o), h.lp.keep (fun b o hb' => c b o (by omega) (hnu b hb'.2.1) (.inl hb'.2.2)) (fun _ hb' => hb'), ?_, ?_, ?_, h1, h2, by simp; omega⟩
  · have hr := h.r
    exact ⟨(c _ _ (by omega) rn (.inl (by omega))).trans hr.c0, (c _ _ (by omega) rn (.inl (by omega))).trans hr.c1, (c _ _ (by omega) rn (.inl (by omega))).trans hr.c2, (c _ _ (by omega) rn (.inl (by omega))).trans hr.c3, (c _ _ (by omega) rn (.inl (by omega))).trans hr.c4, fun o => (fz _ _ (by omega) rn).trans (hr.f o), by simp; omega⟩
  · rw [tCs_snoc]
    refine ⟨hO.1, hO.2.imp id fun ⟨g, cp, cur, q1, q2, q3, q4⟩ => ⟨g, cp, cur, q1, q2, ?_, q4⟩⟩
    rw [Below.heap_setCell _ _ _ g (fun e => by have e : g = tb := e; omega)]
    exact q3
  · intro q hq
    have hsz : (w7.setCell ⟨tb, 4, none⟩ v7).heap.size = w7.heap.size := by simp
    rw [hsz]
    rcases List.mem_append.1 hq with hq | hq
    · refine h.tok.keep (W' := w7.setCell ⟨tb, 4, none⟩ v7) (fun b o hb' => c b o hb'.2.1 hb'.2.2 (.inl (by omega))) (fun b hb' => ⟨hb'.1, by omega, hfr b hb'.2.1 hb'.2.2⟩) q hq
    · obtain rfl := List.mem_singleton.1 hq
      have k0 : ∀ b, V ≤ b → u.ownBlock ≠ some b := fun b hb' e => by have := hu b e; omega
      have k1 : ∀ b o, (V ≤ b ∧ b < W2.heap.size) → (w7.setCell ⟨tb, 4, none⟩ v7).cell? ⟨b, o, none⟩ = W2.cell? ⟨b, o, none⟩ := fun b o hb' => c b o hb'.2 (k0 b hb'.1) (.inl (by omega))
      have k2 : ∀ b, (V ≤ b ∧ b < W2.heap.size) → (base ≤ b ∧ b < w7.heap.size ∧ v7.ownBlock ≠ some b) := fun b hb' => ⟨by omega, by omega, hfr b hb'.2 (k0 b hb'.1)⟩
      obtain ⟨d, hd⟩ := hx.2.2
      exact ⟨hx.1, hx.2.1.keep k1 k2, d, hd.keep k1 k2⟩
  · intro b e
    have hsz : (w7.setCell ⟨tb, 4, none⟩ v7).heap.size = w7.heap.size := by simp
    rw [hsz]
    rcases hO.2 with ⟨q, _⟩ | ⟨g, cp, cur, q1, q2, q3, q4⟩
    · rw [q] at e; cases e
    · rw [q1] at e
      injection e with e
      have e : g = b := e
      subst e
      exact ⟨q2, (Array.getElem?_eq_some_iff.1 q3).1⟩
end Go.Proofs.YtnedgkcejlhnbaaDoor
/-
  How many parts graph.typeFrom can make; and what lies in memory while it makes the box of a type.
-/
namespace Go.Proofs.YtnedgkcejlhnbaaDoor
open Go.RowKit Go.Shelf

def phiB (p : Nat) : Nat := p + 8 * (61 - p)
theorem bkL_phi {F : Nat → SB → Ty × SB} (h : ∀ j st, phiB (F j st).2.2 ≤ phiB st.2 + 1) : ∀ (tos : List Nat) (a : List Ty × SB), phiB (bkL F tos a).2.2 ≤ phiB a.2.2 + tos.length
  | [], _ => Nat.le_refl _
  | j :: tos, a => by
    rw [bkL_cons, List.length_cons]
    have h1 := bkL_phi h tos (stB F a j)
    have h2 : phiB (stB F a j).2.2 ≤ phiB a.2.2 + 1 := h j a.2
    omega
theorem bk_phi (g : List Nd) (hg : ∀ i, (nodeAt g i).to.length ≤ 6) : ∀ (f : Nat) (ps : Nat → Bool) (i : Nat) (st : SB), phiB (bkT g f ps i st).2.2 ≤ phiB st.2 + 1
  | 0, _, _, _ => Nat.le_succ _
  | f + 1, ps, i, st => by
    have hL := bkL_phi (bk_phi g hg f (upB ps i true)) (nodeAt g i).to ([], (upB st.1 i false, st.2 + 1))
    have hL' : phiB (bkL (bkT g f (upB ps i true)) (nodeAt g i).to ([], (upB st.1 i false, st.2 + 1))).2.2 ≤ phiB (st.2 + 1) + (nodeAt g i).to.length := hL
    have h6 := hg i
    rw [bkT]
    split
    · show phiB (st.2 + 1) ≤ phiB st.2 + 1
      unfold phiB; omega
    · rename_i h60
      split
      · show phiB (st.2 + 1) ≤ phiB st.2 + 1
        unfold phiB; omega
      · generalize bkL (bkT g f (upB ps i true)) (nodeAt g i).to ([], (upB st.1 i false, st.2 + 1)) = L at *
        split
        · show phiB (L.2.2 + 1) ≤ phiB st.2 + 1
          unfold phiB at *; omega
        · show phiB L.2.2 ≤ phiB st.2 + 1
          unfold phiB at *; omega
theorem to6 {g : List Nd} (hg : GN g) (i : Nat) : (nodeAt g i).to.length ≤ 6 := by
  by_cases hi : i < g.length
  · exact (shp_len (okN_shp (hg.at_ hi))).2.1
  · have : nodeAt g i = nd0 := by unfold nodeAt; rw [List.getElem?_eq_none (by omega)]; rfl
    rw [this]; decide
theorem But3.bel {wb pb mb B : Nat} {w W : World} (h : But3 wb pb mb w W) (h0 : B ≤ w.heap.size) (h1 : B ≤ wb) (h2 : B ≤ pb) (h3 : B ≤ mb) : Below B w W := ⟨h.os, h.tape, h.output, h.size, fun b hb => h.block b (by omega) (by omega) (by omega) (by omega)⟩
/-- the node's own box, the way, and the result's box -/
structure NBX (w : World) (nd : Nd) (al : Option Addr) (cl : Nat) (at1 : Option Addr) (ct nb wb pb mb n : Nat) (ag : Option Addr) (cg : Nat) (ps : Nat → Bool) (st : SB) (W : World) : Prop where
  n0 : W.cell? ⟨nb, 0, none⟩ = some (.int .i64 nd.kind)
  n1 : W.cell? ⟨nb, 1, none⟩ = some (.int .i64 nd.so)
  n2 : W.cell? ⟨nb, 2, none⟩ = some (.slice al nd.labs.length cl)
  n3 : W.cell? ⟨nb, 3, none⟩ = some (.slice at1 nd.to.length ct)
  wy : WY n ag cg wb pb mb ps st W
  b3 : But3 wb pb mb w W
  r : RBX W w.heap.size
  l1 : w.heap.size < nb
  l2 : nb < W.heap.size
theorem NBX.keep {w : World} {nd : Nd} {al : Option Addr} {cl : Nat} {at1 : Option Addr} {ct nb wb pb mb n : Nat} {ag : Option Addr} {cg : Nat} {ps : Nat → Bool} {st : SB} {W W' : World} (h : NBX w nd al cl at1 ct nb wb pb mb n ag cg ps st W) (hb : Below W.heap.size W W') : NBX w nd al cl at1 ct nb wb pb mb n ag cg ps st W' :=
  ⟨(hb.cell (p := ⟨nb, 0, none⟩) h.l2).trans h.n0, (hb.cell (p := ⟨nb, 1, none⟩) h.l2).trans h.n1, (hb.cell (p := ⟨nb, 2, none⟩) h.l2).trans h.n2, (hb.cell (p := ⟨nb, 3, none⟩) h.l2).trans h.n3, h.wy.keep hb, h.b3.trans (But3.below hb), h.r.keep hb, h.l1, Nat.lt_of_lt_of_le h.l2 hb.size⟩
/-- the new box of the type, zero -/
structure ZTX (W : World) (b : Nat) : Prop where
  z0 : W.cell? ⟨b, 0, none⟩ = some (.int .i64 0)
  z1 : W.cell? ⟨b, 1, none⟩ = some (.int .i64 0)
  z2 : W.cell? ⟨b, 2, none⟩ = some (.string ⟨#[]⟩)
  z3 : W.cell? ⟨b, 3, none⟩ = some (.slice none 0 0)
  z4 : W.cell? ⟨b, 4, none⟩ = some (.slice none 0 0)
  zf : ∀ o, W.frozen? ⟨b, o, none⟩ = false
theorem ZTX.new (w : World) : ZTX (w.alloc (.cells #[.int .i64 0, .int .i64 0, .string ⟨#[]⟩, .slice none 0 0, .slice none 0 0] 35)) w.heap.size := ⟨by go_cell, by go_cell, by go_cell, by go_cell, by go_cell, fun o => by go_simp⟩
theorem ZTX.keep {W W' : World} {b : Nat} (h : ZTX W b) (hb : Below W.heap.size W W') (hl : b < W.heap.size) : ZTX W' b :=
  ⟨(hb.cell (p := ⟨b, 0, none⟩) hl).trans h.z0, (hb.cell (p := ⟨b, 1, none⟩) hl).trans h.z1, (hb.cell (p := ⟨b, 2, none⟩) hl).trans h.z2, (hb.cell (p := ⟨b, 3, none⟩) hl).trans h.z3, (hb.cell (p := ⟨b, 4, none⟩) hl).trans h.z4, fun o => (hb.frozen (p := ⟨b, o, none⟩) hl).trans (h.zf o)⟩
theorem NBX.st {w : World} {nd : Nd} {al : Option Addr} {cl : Nat} {at1 : Option Addr} {ct nb wb pb mb n : Nat} {ag : Option Addr} {cg : Nat} {ps : Nat → Bool} {st : SB} {W : World} (h : NBX w nd al cl at1 ct nb wb pb mb n ag cg ps st W) (h1 : wb < w.heap.size) (h2 : pb < w.heap.size) (h3 : mb < w.heap.size) {b : Nat} (hb : w.heap.size < b) (hn : b ≠ nb) (v0 v1 v2 v3 v4 : Value) : NBX w nd al cl at1 ct nb wb pb mb n ag cg ps st (st5 W b 0 v0 v1 v2 v3 v4) := by
  have c : ∀ b' o, b' ≠ b → (st5 W b 0 v0 v1 v2 v3 v4).cell? ⟨b', o, none⟩ = W.cell? ⟨b', o, none⟩ := fun b' o q => st5_other _ _ _ _ _ _ _ _ _ _ (.inl q)
  exact ⟨(c _ _ hn.symm).trans h.n0, (c _ _ hn.symm).trans h.n1, (c _ _ hn.symm).trans h.n2, (c _ _ hn.symm).trans h.n3, h.wy.st (by omega) (by omega) (by omega) _ _ _ _ _, h.b3.st (by omega) _ _ _ _ _, ⟨(c _ _ (by omega)).trans h.r.c0, (c _ _ (by omega)).trans h.r.c1, (c _ _ (by omega)).trans h.r.c2, (c _ _ (by omega)).trans h.r.c3, (c _ _ (by omega)).trans h.r.c4, fun o => (st5_frozen _ _ _ _ _ _ _ _ _).trans (h.r.f o), by rw [st5_size]; exact h.r.lt⟩, h.l1, by rw [st5_size]; exact h.l2⟩
/-- the box of the type, filled -/
theorem TBX.make {w : World} {nd : Nd} {la : Option Addr} {lc tb : Nat} {V : World} (hz : ZTX V tb) (hr : RBX V w.heap.size) (hl : LP V (fun b => w.heap.size < b ∧ b < V.heap.size ∧ b ≠ tb) nd.labs la) (h1 : w.heap.size < tb) (h2 : tb < V.heap.size) : TBX w nd la lc tb V.heap.size (.slice none 0 0) 0 [] (st5 V tb 0 (.int .i64 nd.kind) (.int .i64 nd.so) (.string ⟨#[]⟩) (.slice la nd.labs.length lc) (.slice none 0 0)) := by
  have ta := st5_at V tb 0 (ndT nd []) la lc none 0 (fun j hj => by
    rw [Nat.zero_add]
    have : j = 0 ∨ j = 1 ∨ j = 2 ∨ j = 3 ∨ j = 4 := by omega
    rcases this with rfl | rfl | rfl | rfl | rfl
    · exact ⟨_, hz.z0⟩
    · exact ⟨_, hz.z1⟩
    · exact ⟨_, hz.z2⟩
    · exact ⟨_, hz.z3⟩
    · exact ⟨_, hz.z4⟩)
  obtain ⟨t0, t1, t2, t3, t4⟩ := ta
  have c : ∀ b' o, b' ≠ tb → (st5 V tb 0 (.int .i64 nd.kind) (.int .i64 nd.so) (.string ⟨#[]⟩) (.slice la nd.labs.length lc) (.slice none 0 0)).cell? ⟨b', o, none⟩ = V.cell? ⟨b', o, none⟩ := fun b' o q => st5_other _ _ _ _ _ _ _ _ _ _ (.inl q)
  refine ⟨⟨(c _ _ (by omega)).trans hr.c0, (c _ _ (by omega)).trans hr.c1, (c _ _ (by omega)).trans hr.c2, (c _ _ (by omega)).trans hr.c3, (c _ _ (by omega)).trans hr.c4, fun o => (st5_frozen _ _ _ _ _ _ _ _ _).trans (hr.f o), by rw [st5_size]; exact hr.lt⟩, t0, t1, t2, t3, t4, fun o => (st5_frozen _ _ _ _ _ _ _ _ _).trans (hz.zf o), hl.keep (fun b o hb => c b o hb.2.2) (fun _ hb => hb), World.ownsRow_nil _ _ _ _, fun q hq => (by cases hq), fun b e => (by cases e), h1, h2, by rw [st5_size]; exact Nat.le_refl _⟩
theorem lp_own {W : World} {base : Nat} {ls : List ByteArray} {la : Option Addr} {lc : Nat} {P : Nat → Prop} (hO : W.ownsRow base 9 1 (.slice la ls.length lc) ls.length (ls.map Value.string)) (hP : ∀ b, base ≤ b → b < W.heap.size → P b) : LP W P ls la := by
  rcases own_cells hO with ⟨_, _, e⟩ | ⟨gg, cp, e1, hb1, hg1, hc1⟩
  · exact .inl (List.map_eq_nil_iff.1 e)
  · injection e1 with e1 _ _
    refine .inr ⟨gg, 0, e1, hP gg hb1 hg1, fun i hi => ?_⟩
    rw [Nat.zero_add]
    exact hc1 i _ (by rw [List.getElem?_map, List.getElem?_eq_getElem hi]; rfl)
end Go.Proofs.YtnedgkcejlhnbaaDoor
