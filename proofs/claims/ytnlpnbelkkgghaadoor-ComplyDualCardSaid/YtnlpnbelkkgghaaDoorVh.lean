/-
  The search of package ways in memory, for the places of comply.place: a map of those that are known, and the row of arrivals.
-/
import Derived.Test.YtnlpnbelkkgghaaDoorVd
import Derived.Test.YtnlpnbelkkgghaaDoorHm
import Derived.Test.YtnlpnbelkkgghaaDoorHs
namespace Go.Proofs.YtnlpnbelkkgghaaDoor
open Go.RowKit Go.Shelf

def pkC (p : Pc) : Value := .agg #[.int .i64 (p.1 : Int), .int .i64 (p.2 : Int)]
theorem pkC_inj {p q : Pc} (h : pkC p = pkC q) : p = q := by
  simp [pkC] at h
  exact Prod.ext (by omega) (by omega)
theorem keyLawC : WideMaps.KeyLaw Tryd.prog 184 := deep_law_laid (m := 3) laidOutG (by decide) (of_decide_eq_true (by kernel_rfl)) (by kernel_rfl) (by kernel_rfl)
def smC (p : Pc) : Prop := p.1 ≤ 1000000 ∧ p.2 ≤ 1000000
theorem key_ofC (p : Pc) (h : smC p) : ∃ l, keyOf Tryd.prog 184 (pkC p) = some l := by
  have hm : Tryd.prog.types.size + 1 = (Tryd.prog.types.size - 1) + 2 := by kernel_rfl
  have c0 : Tryd.prog.cellsOf 184 = 2 := by kernel_rfl
  have c3 : Tryd.prog.cellsOf 3 = 1 := by kernel_rfl
  have kt : Tryd.prog.keyType 184 = true := by kernel_rfl
  unfold keyOf pkC
  rw [hm]
  generalize Tryd.prog.types.size - 1 = d
  have e3 := kl_int d (p.1 : Int) (by unfold in64z; have := h.1; omega)
  have e4 := kl_int d (p.2 : Int) (by unfold in64z; have := h.2; omega)
  rw [Tryd.underlying184]
  simp only
  rw [if_pos]
  · rw [Program.keyLits.eq_def]
    simp only [Tryd.underlying184]
    simp [c0, c3, Value.cells, e3, e4]
  · rw [kt]
    simp [Value.formed]
    exact c0.symm
/-- a map that has just these places -/
def MPC (W : World) (mb : Nat) (ps : List Pc) : Prop := ∃ es clock, W.heap[mb]? = some (.map es clock) ∧ es.size = ps.length ∧ ∀ i (h : i < ps.length), ∃ e, es[i]? = some e ∧ e.key = pkC ps[i] ∧ e.val = .agg #[]
theorem mpC_keys {ps : List Pc} {es : Array MapEntry} (hsz : es.size = ps.length) (hes : ∀ i (h : i < ps.length), ∃ e, es[i]? = some e ∧ e.key = pkC ps[i] ∧ e.val = .agg #[]) (hk : ∀ p ∈ ps, smC p) : ∀ e ∈ es.toList, ∃ l, keyOf Tryd.prog 184 e.key = some l := by
  intro e he
  obtain ⟨i, hi, rfl⟩ := List.mem_iff_getElem.1 he
  have hi' : i < ps.length := by rw [← hsz]; simpa using hi
  obtain ⟨e', h1, h2, _⟩ := hes i hi'
  have : es.toList[i] = e' := by
    have h3 : es[i]? = some es.toList[i] := by
      rw [← Array.getElem?_toList]; exact List.getElem?_eq_getElem hi
    rw [h3] at h1; exact Option.some.inj h1
  rw [this, h2]
  exact key_ofC _ (hk _ (List.getElem_mem hi'))
theorem lookC_in {W : World} {mb : Nat} {ps : List Pc} (hm : MPC W mb ps) (hk : ∀ p ∈ ps, smC p) {p : Pc} (hp : p ∈ ps) :
    (Instr.lookup 228 (.map (some mb)) (pkC p) true).run Tryd.prog W = .ok (.tuple #[.agg #[], .bool true]) W := by
  obtain ⟨es, clock, hb, hsz, hes⟩ := hm
  have K := keyLawC
  obtain ⟨kl, hkey⟩ := key_ofC p (hk p hp)
  rcases K.find W hkey es.toList (mpC_keys hsz hes hk) with ⟨h1, h2⟩ | ⟨i, e0, h1, h2, h3⟩
  · obtain ⟨j, hj, e⟩ := List.mem_iff_getElem.1 hp
    obtain ⟨e, he, hek, _⟩ := hes j hj
    exact absurd (hek.trans (by rw [‹ps[j] = p›])) (h2 e (by rw [Array.mem_toList_iff, Array.mem_iff_getElem?]; exact ⟨j, he⟩))
  · have hil : i < ps.length := by
      have := (List.getElem?_eq_some_iff.1 h2).1
      rw [← hsz]; simpa using this
    obtain ⟨e, he, hek, hev⟩ := hes i hil
    have : e = e0 := by rw [← Array.getElem?_toList] at he; rw [he] at h2; exact Option.some.inj h2
    subst this
    rw [hev] at h1
    simp [Instr.lookup, run_underlying Tryd.underlying228, MapKept.run_getObj_map hb, K.check W _ hkey, h1, Result.andThen]
theorem lookC_out {W : World} {mb : Nat} {ps : List Pc} (hm : MPC W mb ps) (hk : ∀ p ∈ ps, smC p) {p : Pc} (hs : smC p) (hp : p ∉ ps) :
    (Instr.lookup 228 (.map (some mb)) (pkC p) true).run Tryd.prog W = .ok (.tuple #[.agg #[], .bool false]) W ∧
    ∃ W', (Instr.mapUpdate 228 (.map (some mb)) (pkC p) (.agg #[])).run Tryd.prog W = .ok () W' ∧ W.grownBy W' (some mb) ∧ W'.heap.size = W.heap.size ∧ MPC W' mb (ps ++ [p]) := by
  obtain ⟨es, clock, hb, hsz, hes⟩ := hm
  have K := keyLawC
  obtain ⟨kl, hkey⟩ := key_ofC p hs
  rcases K.find W hkey es.toList (mpC_keys hsz hes hk) with ⟨h1, h2⟩ | ⟨i, e0, h1, h2, h3⟩
  · refine ⟨by simp [Instr.lookup, run_underlying Tryd.underlying228, MapKept.run_getObj_map hb, K.check W _ hkey, h1, Result.andThen], { W with heap := W.heap.setIfInBounds mb (.map (es.push { key := pkC p, val := .agg #[], born := clock }) (clock + 1)) }, ?_, ?_⟩
    · simp [Instr.mapUpdate, run_underlying Tryd.underlying228, MapKept.run_getObj_map hb, K.check W _ hkey, h1, MapKept.run_setObj_map _ hb, Result.andThen]
    · refine ⟨⟨rfl, rfl, rfl, by simp, fun k hk' hne => (MapKept.heap_set hb).2 k (fun e => hne (by rw [e]))⟩, by simp, _, _, (MapKept.heap_set hb).1, by simp [hsz], fun i hi => ?_⟩
      by_cases hi' : i < ps.length
      · obtain ⟨e, he, hek, hev⟩ := hes i hi'
        refine ⟨e, ?_, by rw [List.getElem_append_left hi']; exact hek, hev⟩
        rw [Array.getElem?_push, if_neg (by omega)]; exact he
      · obtain rfl : i = ps.length := by simp at hi; omega
        exact ⟨_, by rw [Array.getElem?_push, if_pos hsz.symm], by simp, rfl⟩
  · exfalso
    have hil : i < ps.length := by
      have := (List.getElem?_eq_some_iff.1 h2).1
      rw [← hsz]; simpa using this
    obtain ⟨e, he, hek, hev⟩ := hes i hil
    have : e = e0 := by rw [← Array.getElem?_toList] at he; rw [he] at h2; exact Option.some.inj h2
    subst this
    have : pkC ps[i] = pkC p := by rw [← h3, hek]
    exact hp (by rw [← pkC_inj this]; exact List.getElem_mem hil)
theorem MPC.new (W : World) : MPC (W.alloc (.map #[] 0)) W.heap.size [] := ⟨_, _, heap_alloc_new W _, rfl, fun _ h => absurd h (Nat.not_lt_zero _)⟩
theorem MPC.blk {W W' : World} {mb : Nat} {ps : List Pc} (hm : MPC W mb ps) (h : W'.heap[mb]? = W.heap[mb]?) : MPC W' mb ps := by
  obtain ⟨es, clock, hb, hsz, hes⟩ := hm
  exact ⟨es, clock, h.trans hb, hsz, hes⟩
theorem MPC.lt {W : World} {mb : Nat} {ps : List Pc} (hm : MPC W mb ps) : mb < W.heap.size := by
  obtain ⟨es, clock, hb, _⟩ := hm
  exact (Array.getElem?_eq_some_iff.1 hb).1
/-- the cells of an arrival -/
def aCC (v : Ag Pc) : List Value := [.int .i64 (v.1.2.1 : Int), .int .i64 (v.1.2.2 : Int), .string v.1.1, .int .i64 (v.2 : Int)]
def avC (arr : List (Ag Pc)) : List Value := arr.flatMap aCC
theorem aCC_one (v : Ag Pc) : ∀ y ∈ aCC v, y.oneCell' = true := by
  intro y hy
  simp only [aCC, List.mem_cons, List.not_mem_nil, or_false] at hy
  rcases hy with rfl | rfl | rfl | rfl <;> rfl
theorem avC_snoc (arr : List (Ag Pc)) (v : Ag Pc) : avC (arr ++ [v]) = avC arr ++ aCC v := by simp [avC]
theorem avC_at : ∀ (ss : List (Ag Pc)) (i : Nat) (h : i < ss.length) (j : Nat), j < 4 → (avC ss)[i * 4 + j]? = (aCC ss[i])[j]?
  | [], i, h, _, _ => by simp at h
  | s :: ss, 0, _, j, hj => by
    have e : avC (s :: ss) = aCC s ++ avC ss := rfl
    rw [e, List.getElem?_append_left (by simp [aCC]; omega)]
    simp
  | s :: ss, i + 1, h, j, hj => by
    have e : avC (s :: ss) = aCC s ++ avC ss := rfl
    have hl : (aCC s).length = 4 := rfl
    rw [e, List.getElem?_append_right (by rw [hl]; omega), hl, show (i + 1) * 4 + j - 4 = i * 4 + j by omega]
    exact avC_at ss i (by simpa using h) j hj
theorem infoAvC : (Tryd.prog.info? 230).map (fun i => (i.zero, i.size, i.bytes)) = some (some (.agg #[.int .i64 0, .int .i64 0, .string ⟨#[]⟩, .int .i64 0]), 4, 40) := by kernel_rfl
/-- the search -/
structure SVC (w0 : World) (sb mb : Nat) (ps : List Pc) (arr : List (Ag Pc)) (u : Value) (W : World) : Prop where
  c0 : W.cell? ⟨sb, 0, none⟩ = some (.map (some mb))
  c1 : W.cell? ⟨sb, 1, none⟩ = some u
  f1 : W.frozen? ⟨sb, 1, none⟩ = false
  mp : MPC W mb ps
  own : W.ownsRow w0.heap.size 230 4 u arr.length (avC arr)
  ns : sb ≠ mb
  hs : w0.heap.size ≤ sb
  hm : w0.heap.size ≤ mb
  us : u.ownBlock ≠ some sb
  um : u.ownBlock ≠ some mb
  ls : sb < W.heap.size
  bl : Below w0.heap.size w0 W
abbrev SWC (w0 : World) (sb mb : Nat) (arr : List (Ag Pc)) (u : Value) (W : World) : Prop := SVC w0 sb mb (plG arr) arr u W
theorem SVC.kept {w0 : World} {sb mb : Nat} {ps : List Pc} {arr : List (Ag Pc)} {u : Value} {W W' : World} (h : SVC w0 sb mb ps arr u W) (hb : Below W.heap.size W W') : SVC w0 sb mb ps arr u W' :=
  ⟨(hb.cell (p := ⟨sb, 0, none⟩) h.ls).trans h.c0, (hb.cell (p := ⟨sb, 1, none⟩) h.ls).trans h.c1, (hb.frozen (p := ⟨sb, 1, none⟩) h.ls).trans h.f1, h.mp.blk (hb.block mb h.mp.lt), own_belowG h.own hb, h.ns, h.hs, h.hm, h.us, h.um, Nat.lt_of_lt_of_le h.ls hb.size, h.bl.trans (hb.mono h.bl.size)⟩
/-- arrivals in memory -/
theorem SVC.at_ {w0 : World} {sb mb : Nat} {ps : List Pc} {arr : List (Ag Pc)} {u : Value} {W : World} (h : SVC w0 sb mb ps arr u W) {k : Nat} (hk : k < arr.length) : ∃ b c, u = .slice (some ⟨b, 0, none⟩) arr.length c ∧ u.ownBlock = some b ∧ b < W.heap.size ∧ ∀ j y, (aCC arr[k])[j]? = some y → W.cell? ⟨b, k * 4 + j, none⟩ = some y := by
  rcases own_cells h.own with ⟨rfl, h0, _⟩ | ⟨g, cap, rfl, _, hg, hc⟩
  · omega
  · refine ⟨g, cap, rfl, rfl, hg, fun j y hy => ?_⟩
    have hj : j < 4 := (List.getElem?_eq_some_iff.1 hy).1
    exact hc _ _ ((avC_at arr k hk j hj).trans hy)
/-- one place more is known -/
theorem SVC.upd {w0 : World} {sb mb : Nat} {ps ps' : List Pc} {arr : List (Ag Pc)} {u : Value} {W W' : World} (h : SVC w0 sb mb ps arr u W) (hg : W.grownBy W' (some mb)) (hm : MPC W' mb ps') : SVC w0 sb mb ps' arr u W' := by
  have hk : ∀ b, b < W.heap.size → b ≠ mb → W'.heap[b]? = W.heap[b]? := fun b hb hn => hg.block b hb (fun e => hn (by injection e))
  refine ⟨(World.cell?_of_block (a := ⟨sb, 0, none⟩) (hk sb h.ls h.ns)).trans h.c0, (World.cell?_of_block (a := ⟨sb, 1, none⟩) (hk sb h.ls h.ns)).trans h.c1, (World.frozen?_of_block (a := ⟨sb, 1, none⟩) (hk sb h.ls h.ns)).trans h.f1, hm, ?_, h.ns, h.hs, h.hm, h.us, h.um, Nat.lt_of_lt_of_le h.ls hg.size, ?_⟩
  · refine ⟨h.own.1, h.own.2.imp id fun ⟨g, c, cur, e1, hb, hc, r⟩ => ⟨g, c, cur, e1, hb, ?_, r⟩⟩
    rw [hk g (Array.getElem?_eq_some_iff.1 hc).1 (fun e => h.um (by rw [e1, ← e]; rfl))]
    exact hc
  · refine h.bl.trans ⟨hg.os, hg.tape, hg.output, hg.size, fun b hb => hk b (Nat.lt_of_lt_of_le hb h.bl.size) (by have := h.hm; omega)⟩
/-- and it is an arrival -/
theorem SVC.put {w0 : World} {sb mb : Nat} {ps : List Pc} {arr : List (Ag Pc)} {u v7 : Value} {V w7 : World} {ob : Obj} {s : Sg Pc} {k : Nat} (h : SVC w0 sb mb ps arr u V) (hps : ps = plG arr ++ [s.2])
    (hg : (V.alloc ob).grownBy w7 u.ownBlock) (hO : w7.ownsRow w0.heap.size 230 4 v7 (arr.length + 1) (avC arr ++ aCC (s, k))) (hat : v7.ownBlock = u.ownBlock ∨ v7.ownBlock = some (V.alloc ob).heap.size) :
    SWC w0 sb mb (arr ++ [(s, k)]) v7 (w7.setCell ⟨sb, 1, none⟩ v7) ∧ RF mb sb u.ownBlock V (w7.setCell ⟨sb, 1, none⟩ v7) ∧ (v7.ownBlock = u.ownBlock ∨ ∀ j, v7.ownBlock = some j → V.heap.size ≤ j) := by
  have hsz : (V.alloc ob).heap.size = V.heap.size + 1 := by simp
  have hk : ∀ b, b < V.heap.size → some b ≠ u.ownBlock → w7.heap[b]? = V.heap[b]? := fun b hb hn => (hg.block b (by omega) hn).trans (heap_alloc_old V ob hb)
  have hS := hk sb h.ls (fun e => h.us e.symm)
  have hM := hk mb h.mp.lt (fun e => h.um e.symm)
  have hs7 := hg.size
  have hfr : v7.ownBlock = u.ownBlock ∨ ∀ j, v7.ownBlock = some j → V.heap.size ≤ j := hat.imp id fun e j hj => by rw [e] at hj; injection hj with hj; omega
  have hne : ∀ b, b < V.heap.size → u.ownBlock ≠ some b → v7.ownBlock ≠ some b := fun b hb hn e => by
    rcases hfr with q | q
    · exact hn (q ▸ e)
    · have := q b e; omega
  have hus := hne sb h.ls h.us
  have hum := hne mb h.mp.lt h.um
  refine ⟨⟨?_, World.cell?_setCell_same _ _ _ ((World.cell?_of_block (a := ⟨sb, 1, none⟩) hS).trans h.c1), (World.frozen?_setCell _ _ _ _).trans ((World.frozen?_of_block (a := ⟨sb, 1, none⟩) hS).trans h.f1), ?_, ?_, h.ns, h.hs, h.hm, hus, hum, by simp; have := h.ls; omega, ?_⟩, ?_, hfr⟩
  · rw [World.cell?_setCell_other _ _ _ _ (by intro e; injection e with _ e; cases e)]
    exact (World.cell?_of_block (a := ⟨sb, 0, none⟩) hS).trans h.c0
  · have e : plG (arr ++ [(s, k)]) = ps := by rw [hps]; simp [plG]
    rw [e]
    exact h.mp.blk ((Below.heap_setCell _ _ _ mb (fun e => h.ns e.symm)).trans hM)
  · rw [avC_snoc, List.length_append]
    refine ⟨hO.1, hO.2.imp id fun ⟨g, c, cur, e1, hb, hc, r⟩ => ⟨g, c, cur, e1, hb, ?_, r⟩⟩
    rw [Below.heap_setCell _ _ _ g (fun e => hus (by have e : g = sb := e; rw [e1, e]; rfl))]
    exact hc
  · refine ⟨hg.os.trans h.bl.os, hg.tape.trans h.bl.tape, hg.output.trans h.bl.output, by simp; have := h.bl.size; omega, fun b hb => ?_⟩
    rw [Below.heap_setCell _ _ _ b (fun e => by have e : b = sb := e; have := h.hs; omega), hk b (Nat.lt_of_lt_of_le hb h.bl.size) (fun e => by have := (h.own.lt b e.symm).1; omega)]
    exact h.bl.block b hb
  · refine ⟨hg.os, hg.tape, hg.output, by simp; omega, fun b hb h1 h2 h3 => ?_⟩
    rw [Below.heap_setCell _ _ _ b (fun e => h2 e)]
    exact hk b hb h3
theorem RF.drewLC {fb rb : Nat} {row : Option Nat} {w w' : World} (h : RF fb rb row w.drew w') : RF fb rb row w w' := ⟨h.os, h.tape, h.output, h.size, h.block⟩
/-- the box of a place -/
def PBC (bx : Nat) (p : Pc) (W : World) : Prop := W.cell? ⟨bx, 0, none⟩ = some (.int .i64 (p.1 : Int)) ∧ W.cell? ⟨bx, 1, none⟩ = some (.int .i64 (p.2 : Int))
theorem PBC.keep {bx : Nat} {p : Pc} {W W' : World} (h : PBC bx p W) (hb : ∀ o, W'.cell? ⟨bx, o, none⟩ = W.cell? ⟨bx, o, none⟩) : PBC bx p W' := ⟨(hb 0).trans h.1, (hb 1).trans h.2⟩
theorem stepUpdC {P : Program} {w w' : World} {ops : Array Oper} {o : Oper} {a : Act} {K : Act → World → Prop} {Q : Exit → Act → World → Prop} {E : Prop} (hgd : o.guard = none) (m x y : Operand) (t : TypeId) (ho : o.op = Op.mapUpdate t m x y ∨ o.op = Op.insert t m x y) {mv key v : Value}
    (hm : a.eval m = mv) (hx : a.eval x = key) (hy : a.eval y = v) (hrun : (Instr.mapUpdate t mv key v).run P w = .ok () w') (h : K (a.put o.dst undef) w') : if Region.wanted o (yielded ops a.tmps) = true then Oper.wp P o a w K Q else E := by
  have hw : Region.wanted o (yielded ops a.tmps) = true := by simp [Region.wanted, hgd]
  rw [if_pos hw]
  unfold Oper.wp
  rcases ho with ho | ho <;> (simp [execOp, ho, hm, hx, hy, hrun, Result.andThen]; exact h)
end Go.Proofs.YtnlpnbelkkgghaaDoor
