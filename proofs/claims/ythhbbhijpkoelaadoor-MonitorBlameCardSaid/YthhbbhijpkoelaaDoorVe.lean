/-
  Plain mathematics: the search of below's places, from wherever it begins.
-/
import Derived.Test.YthhbbhijpkoelaaDoorVa
import Derived.Test.YthhbbhijpkoelaaDoorIg
import Derived.Test.YthhbbhijpkoelaaDoorHm
import Derived.Test.YthhbbhijpkoelaaDoorHs
namespace Go.Proofs.YthhbbhijpkoelaaDoor

def okB (g h : List Nd) (p : Pl) : Prop := p.1 < g.length ∧ p.2.1 < h.length
theorem below_wld {g h : List Nd} (hg : GN g) (hh : GN h) : WLD (failP g h) (nextS g h) (okB g h) (numP h.length) (2 * g.length * h.length) :=
  ⟨fun p hp hf s hs => step_lt hg hh hp.1 hp.2 ((failP_iff g h p).1 hf) s hs, fun _ hp => numP_lt hp.1 hp.2, fun _ _ hp hq e => numP_inj hp.2 hq.2 e⟩
/-- the whole search from nodes m and n on -/
def srB (g h : List Nd) (m n : Nat) : Option Nat × List Av := srGA (failP g h) (nextS g h) (2 * g.length * h.length) (m, n, false)
theorem srB_bl {g h : List Nd} (hg : GN g) (hh : GN h) {m n : Nat} (hm : m < g.length) (hn : n < h.length) : (srB g h m n).1 = none ↔ ∀ k, bl k g h m n := by
  have := srGA_iff (below_wld hg hh) (p0 := (m, n, false)) ⟨hm, hn⟩ (fun k p => blP g h k p) (fun p => by unfold blP; split <;> trivial)
    (fun k p hp hf hs => blP_step hg hh hp.1 hp.2 ((failP_iff g h p).1 hf) hs) (fun k p hb => ⟨(failP_iff g h p).2 (blP_next hb).1, (blP_next hb).2⟩)
  unfold srB
  rw [this]
  constructor
  · intro h k; simpa [blP] using h k
  · intro h k; simpa [blP] using h k
def belB (g h : List Nd) (m n : Nat) : Bool := (srB g h m n).1.isNone
theorem belB_iff {g h : List Nd} (hg : GN g) (hh : GN h) {m n : Nat} (hm : m < g.length) (hn : n < h.length) : belB g h m n = true ↔ ∀ k, bl k g h m n := by
  unfold belB
  rw [Option.isNone_iff_eq_none]
  exact srB_bl hg hh hm hn
end Go.Proofs.YthhbbhijpkoelaaDoor
/-
  The search of package ways in memory, for the places of below.place: a map of those that are known, and the row of arrivals.
-/
namespace Go.Proofs.YthhbbhijpkoelaaDoor
open Go.RowKit Go.Shelf

def pkB (p : Pl) : Value := .agg #[.int .i64 (p.1 : Int), .int .i64 (p.2.1 : Int), .bool p.2.2]
theorem pkB_inj {p q : Pl} (h : pkB p = pkB q) : p = q := by
  simp [pkB] at h
  exact Prod.ext (by omega) (Prod.ext (by omega) h.2.2)
theorem keyLawB : WideMaps.KeyLaw Tryd.prog 57 := deep_law_laid (m := 3) laidOutG (by decide) (of_decide_eq_true (by kernel_rfl)) (by kernel_rfl) (by kernel_rfl)
def smB (p : Pl) : Prop := p.1 ≤ 1000000 ∧ p.2.1 ≤ 1000000
theorem key_ofB (p : Pl) (h : smB p) : ∃ l, keyOf Tryd.prog 57 (pkB p) = some l := by
  have hm : Tryd.prog.types.size + 1 = (Tryd.prog.types.size - 1) + 2 := by kernel_rfl
  have c0 : Tryd.prog.cellsOf 57 = 3 := by kernel_rfl
  have c3 : Tryd.prog.cellsOf 3 = 1 := by kernel_rfl
  have c4 : Tryd.prog.cellsOf 4 = 1 := by kernel_rfl
  have kt : Tryd.prog.keyType 57 = true := by kernel_rfl
  unfold keyOf pkB
  rw [hm]
  generalize Tryd.prog.types.size - 1 = d
  have e3 := kl_int d (p.1 : Int) (by unfold in64z; have := h.1; omega)
  have e4 := kl_int d (p.2.1 : Int) (by unfold in64z; have := h.2; omega)
  have e5 : Tryd.prog.keyLits (d + 1) 4 [.bool p.2.2] = some [.bool p.2.2] := by simp [Program.keyLits, Tryd.underlying4]
  rw [Tryd.underlying57]
  simp only
  rw [if_pos]
  · rw [Program.keyLits.eq_def]
    simp only [Tryd.underlying57]
    simp [c0, c3, c4, Value.cells, e3, e4, e5]
  · rw [kt]
    simp [Value.formed]
    exact c0.symm
/-- a map that has just these places -/
def MPB (W : World) (mb : Nat) (ps : List Pl) : Prop := ∃ es clock, W.heap[mb]? = some (.map es clock) ∧ es.size = ps.length ∧ ∀ i (h : i < ps.length), ∃ e, es[i]? = some e ∧ e.key = pkB ps[i] ∧ e.val = .agg #[]
theorem mpB_keys {ps : List Pl} {es : Array MapEntry} (hsz : es.size = ps.length) (hes : ∀ i (h : i < ps.length), ∃ e, es[i]? = some e ∧ e.key = pkB ps[i] ∧ e.val = .agg #[]) (hk : ∀ p ∈ ps, smB p) : ∀ e ∈ es.toList, ∃ l, keyOf Tryd.prog 57 e.key = some l := by
  intro e he
  obtain ⟨i, hi, rfl⟩ := List.mem_iff_getElem.1 he
  have hi' : i < ps.length := by rw [← hsz]; simpa using hi
  obtain ⟨e', h1, h2, _⟩ := hes i hi'
  have : es.toList[i] = e' := by
    have h3 : es[i]? = some es.toList[i] := by
      rw [← Array.getElem?_toList]; exact List.getElem?_eq_getElem hi
    rw [h3] at h1; exact Option.some.inj h1
  rw [this, h2]
  exact key_ofB _ (hk _ (List.getElem_mem hi'))
theorem lookB_in {W : World} {mb : Nat} {ps : List Pl} (hm : MPB W mb ps) (hk : ∀ p ∈ ps, smB p) {p : Pl} (hp : p ∈ ps) :
    (Instr.lookup 90 (.map (some mb)) (pkB p) true).run Tryd.prog W = .ok (.tuple #[.agg #[], .bool true]) W := by
  obtain ⟨es, clock, hb, hsz, hes⟩ := hm
  have K := keyLawB
  obtain ⟨kl, hkey⟩ := key_ofB p (hk p hp)
  rcases K.find W hkey es.toList (mpB_keys hsz hes hk) with ⟨h1, h2⟩ | ⟨i, e0, h1, h2, h3⟩
  · obtain ⟨j, hj, e⟩ := List.mem_iff_getElem.1 hp
    obtain ⟨e, he, hek, _⟩ := hes j hj
    exact absurd (hek.trans (by rw [‹ps[j] = p›])) (h2 e (by rw [Array.mem_toList_iff, Array.mem_iff_getElem?]; exact ⟨j, he⟩))
  · have hil : i < ps.length := by
      have := (List.getElem?_eq_some_iff.1 h2).1
      rw [← hsz]; simpa using this
    obtain ⟨e, he, hek, hev⟩ := hes i hil
    have : e = e0 := by rw [← Array.getElem?_toList] at he; rw [he] at h2; exact Option.some.inj h2
    subst this
    rw [hev] at h1
    simp [Instr.lookup, run_underlying Tryd.underlying90, MapKept.run_getObj_map hb, K.check W _ hkey, h1, Result.andThen]
theorem lookB_out {W : World} {mb : Nat} {ps : List Pl} (hm : MPB W mb ps) (hk : ∀ p ∈ ps, smB p) {p : Pl} (hs : smB p) (hp : p ∉ ps) :
    (Instr.lookup 90 (.map (some mb)) (pkB p) true).run Tryd.prog W = .ok (.tuple #[.agg #[], .bool false]) W ∧
    ∃ W', (Instr.mapUpdate 90 (.map (some mb)) (pkB p) (.agg #[])).run Tryd.prog W = .ok () W' ∧ W.grownBy W' (some mb) ∧ W'.heap.size = W.heap.size ∧ MPB W' mb (ps ++ [p]) := by
  obtain ⟨es, clock, hb, hsz, hes⟩ := hm
  have K := keyLawB
  obtain ⟨kl, hkey⟩ := key_ofB p hs
  rcases K.find W hkey es.toList (mpB_keys hsz hes hk) with ⟨h1, h2⟩ | ⟨i, e0, h1, h2, h3⟩
  · refine ⟨by simp [Instr.lookup, run_underlying Tryd.underlying90, MapKept.run_getObj_map hb, K.check W _ hkey, h1, Result.andThen], { W with heap := W.heap.setIfInBounds mb (.map (es.push { key := pkB p, val := .agg #[], born := clock }) (clock + 1)) }, ?_, ?_⟩
    · simp [Instr.mapUpdate, run_underlying Tryd.underlying90, MapKept.run_getObj_map hb, K.check W _ hkey, h1, MapKept.run_setObj_map _ hb, Result.andThen]
    · refine ⟨⟨rfl, rfl, rfl, by simp, fun k hk' hne => (MapKept.heap_set hb).2 k (fun e => hne (by rw [e]))⟩, by simp, _, _, (MapKept.heap_set hb).1, by simp [hsz], fun i hi => ?_⟩
      by_cases hi' : i < ps.length
      · obtain ⟨e, he, hek, hev⟩ := hes i hi'
        refine ⟨e, ?_, by rw [List.getElem_append_left hi']; exact hek, hev⟩
        rw [Array.getElem?_push, if_neg (by omega)]; exact he
      · obtain rfl : i = ps.length := by simp at hi; omega
        exact ⟨_, by rw [Array.getElem?_push, if_pos hsz.symm], by simp, rfl⟩
  · exfalso
    have hil : i < ps.length := by
      have := (List.getElem?_eq_some_iff.1 h2).1
      rw [← hsz]; simpa using this
    obtain ⟨e, he, hek, hev⟩ := hes i hil
    have : e = e0 := by rw [← Array.getElem?_toList] at he; rw [he] at h2; exact Option.some.inj h2
    subst this
    have : pkB ps[i] = pkB p := by rw [← h3, hek]
    exact hp (by rw [← pkB_inj this]; exact List.getElem_mem hil)
theorem MPB.new (W : World) : MPB (W.alloc (.map #[] 0)) W.heap.size [] := ⟨_, _, heap_alloc_new W _, rfl, fun _ h => absurd h (Nat.not_lt_zero _)⟩
theorem MPB.blk {W W' : World} {mb : Nat} {ps : List Pl} (hm : MPB W mb ps) (h : W'.heap[mb]? = W.heap[mb]?) : MPB W' mb ps := by
  obtain ⟨es, clock, hb, hsz, hes⟩ := hm
  exact ⟨es, clock, h.trans hb, hsz, hes⟩
theorem MPB.lt {W : World} {mb : Nat} {ps : List Pl} (hm : MPB W mb ps) : mb < W.heap.size := by
  obtain ⟨es, clock, hb, _⟩ := hm
  exact (Array.getElem?_eq_some_iff.1 hb).1
/-- the cells of an arrival -/
def aCB (v : Ag Pl) : List Value := [.int .i64 (v.1.2.1 : Int), .int .i64 (v.1.2.2.1 : Int), .bool v.1.2.2.2, .string v.1.1, .int .i64 (v.2 : Int)]
def avB (arr : List (Ag Pl)) : List Value := arr.flatMap aCB
theorem aCB_one (v : Ag Pl) : ∀ y ∈ aCB v, y.oneCell' = true := by
  intro y hy
  simp only [aCB, List.mem_cons, List.not_mem_nil, or_false] at hy
  rcases hy with rfl | rfl | rfl | rfl | rfl <;> rfl
theorem avB_snoc (arr : List (Ag Pl)) (v : Ag Pl) : avB (arr ++ [v]) = avB arr ++ aCB v := by simp [avB]
theorem avB_at : ∀ (ss : List (Ag Pl)) (i : Nat) (h : i < ss.length) (j : Nat), j < 5 → (avB ss)[i * 5 + j]? = (aCB ss[i])[j]?
  | [], i, h, _, _ => by simp at h
  | s :: ss, 0, _, j, hj => by
    have e : avB (s :: ss) = aCB s ++ avB ss := rfl
    rw [e, List.getElem?_append_left (by simp [aCB]; omega)]
    simp
  | s :: ss, i + 1, h, j, hj => by
    have e : avB (s :: ss) = aCB s ++ avB ss := rfl
    have hl : (aCB s).length = 5 := rfl
    rw [e, List.getElem?_append_right (by rw [hl]; omega), hl, show (i + 1) * 5 + j - 5 = i * 5 + j by omega]
    exact avB_at ss i (by simpa using h) j hj
theorem infoAvB : (Tryd.prog.info? 92).map (fun i => (i.zero, i.size, i.bytes)) = some (some (.agg #[.int .i64 0, .int .i64 0, .bool false, .string ⟨#[]⟩, .int .i64 0]), 5, 48) := by kernel_rfl
/-- the search -/
structure SVB (w0 : World) (sb mb : Nat) (ps : List Pl) (arr : List (Ag Pl)) (u : Value) (W : World) : Prop where
  c0 : W.cell? ⟨sb, 0, none⟩ = some (.map (some mb))
  c1 : W.cell? ⟨sb, 1, none⟩ = some u
  f1 : W.frozen? ⟨sb, 1, none⟩ = false
  mp : MPB W mb ps
  own : W.ownsRow w0.heap.size 92 5 u arr.length (avB arr)
  ns : sb ≠ mb
  hs : w0.heap.size ≤ sb
  hm : w0.heap.size ≤ mb
  us : u.ownBlock ≠ some sb
  um : u.ownBlock ≠ some mb
  ls : sb < W.heap.size
  bl : Below w0.heap.size w0 W
abbrev SWB (w0 : World) (sb mb : Nat) (arr : List (Ag Pl)) (u : Value) (W : World) : Prop := SVB w0 sb mb (plG arr) arr u W
theorem SVB.kept {w0 : World} {sb mb : Nat} {ps : List Pl} {arr : List (Ag Pl)} {u : Value} {W W' : World} (h : SVB w0 sb mb ps arr u W) (hb : Below W.heap.size W W') : SVB w0 sb mb ps arr u W' :=
  ⟨(hb.cell (p := ⟨sb, 0, none⟩) h.ls).trans h.c0, (hb.cell (p := ⟨sb, 1, none⟩) h.ls).trans h.c1, (hb.frozen (p := ⟨sb, 1, none⟩) h.ls).trans h.f1, h.mp.blk (hb.block mb h.mp.lt), own_belowG h.own hb, h.ns, h.hs, h.hm, h.us, h.um, Nat.lt_of_lt_of_le h.ls hb.size, h.bl.trans (hb.mono h.bl.size)⟩
/-- arrivals in memory -/
theorem SVB.at_ {w0 : World} {sb mb : Nat} {ps : List Pl} {arr : List (Ag Pl)} {u : Value} {W : World} (h : SVB w0 sb mb ps arr u W) {k : Nat} (hk : k < arr.length) : ∃ b c, u = .slice (some ⟨b, 0, none⟩) arr.length c ∧ u.ownBlock = some b ∧ b < W.heap.size ∧ ∀ j y, (aCB arr[k])[j]? = some y → W.cell? ⟨b, k * 5 + j, none⟩ = some y := by
  rcases own_cells h.own with ⟨rfl, h0, _⟩ | ⟨g, cap, rfl, _, hg, hc⟩
  · omega
  · refine ⟨g, cap, rfl, rfl, hg, fun j y hy => ?_⟩
    have hj : j < 5 := (List.getElem?_eq_some_iff.1 hy).1
    exact hc _ _ ((avB_at arr k hk j hj).trans hy)
/-- one place more is known -/
theorem SVB.upd {w0 : World} {sb mb : Nat} {ps ps' : List Pl} {arr : List (Ag Pl)} {u : Value} {W W' : World} (h : SVB w0 sb mb ps arr u W) (hg : W.grownBy W' (some mb)) (hm : MPB W' mb ps') : SVB w0 sb mb ps' arr u W' := by
  have hk : ∀ b, b < W.heap.size → b ≠ mb → W'.heap[b]? = W.heap[b]? := fun b hb hn => hg.block b hb (fun e => hn (by injection e))
  refine ⟨(World.cell?_of_block (a := ⟨sb, 0, none⟩) (hk sb h.ls h.ns)).trans h.c0, (World.cell?_of_block (a := ⟨sb, 1, none⟩) (hk sb h.ls h.ns)).trans h.c1, (World.frozen?_of_block (a := ⟨sb, 1, none⟩) (hk sb h.ls h.ns)).trans h.f1, hm, ?_, h.ns, h.hs, h.hm, h.us, h.um, Nat.lt_of_lt_of_le h.ls hg.size, ?_⟩
  · refine ⟨h.own.1, h.own.2.imp id fun ⟨g, c, cur, e1, hb, hc, r⟩ => ⟨g, c, cur, e1, hb, ?_, r⟩⟩
    rw [hk g (Array.getElem?_eq_some_iff.1 hc).1 (fun e => h.um (by rw [e1, ← e]; rfl))]
    exact hc
  · refine h.bl.trans ⟨hg.os, hg.tape, hg.output, hg.size, fun b hb => hk b (Nat.lt_of_lt_of_le hb h.bl.size) (by have := h.hm; omega)⟩
/-- and it is an arrival -/
theorem SVB.put {w0 : World} {sb mb : Nat} {ps : List Pl} {arr : List (Ag Pl)} {u v7 : Value} {V w7 : World} {ob : Obj} {s : Sg Pl} {k : Nat} (h : SVB w0 sb mb ps arr u V) (hps : ps = plG arr ++ [s.2])
    (hg : (V.alloc ob).grownBy w7 u.ownBlock) (hO : w7.ownsRow w0.heap.size 92 5 v7 (arr.length + 1) (avB arr ++ aCB (s, k))) (hat : v7.ownBlock = u.ownBlock ∨ v7.ownBlock = some (V.alloc ob).heap.size) :
    SWB w0 sb mb (arr ++ [(s, k)]) v7 (w7.setCell ⟨sb, 1, none⟩ v7) ∧ RF mb sb u.ownBlock V (w7.setCell ⟨sb, 1, none⟩ v7) ∧ (v7.ownBlock = u.ownBlock ∨ ∀ j, v7.ownBlock = some j → V.heap.size ≤ j) := by
  have hsz : (V.alloc ob).heap.size = V.heap.size + 1 := by simp
  have hk : ∀ b, b < V.heap.size → some b ≠ u.ownBlock → w7.heap[b]? = V.heap[b]? := fun b hb hn => (hg.block b (by omega) hn).trans (heap_alloc_old V ob hb)
  have hS := hk sb h.ls (fun e => h.us e.symm)
  have hM := hk mb h.mp.lt (fun e => h.um e.symm)
  have hs7 := hg.size
  have hfr : v7.ownBlock = u.ownBlock ∨ ∀ j, v7.ownBlock = some j → V.heap.size ≤ j := hat.imp id fun e j hj => by rw [e] at hj; injection hj with hj; omega
  have hne : ∀ b, b < V.heap.size → u.ownBlock ≠ some b → v7.ownBlock ≠ some b := fun b hb hn e => by
    rcases hfr with q | q
    · exact hn (q ▸ e)
    · have := q b e; omega
  have hus := hne sb h.ls h.us
  have hum := hne mb h.mp.lt h.um
  refine ⟨⟨?_, World.cell?_setCell_same _ _ _ ((World.cell?_of_block (a := ⟨sb, 1, none⟩) hS).trans h.c1), (World.frozen?_setCell _ _ _ _).trans ((World.frozen?_of_block (a := ⟨sb, 1, none⟩) hS).trans h.f1), ?_, ?_, h.ns, h.hs, h.hm, hus, hum, by simp; have := h.ls; omega, ?_⟩, ?_, hfr⟩
  · rw [World.cell?_setCell_other _ _ _ _ (by intro e; injection e with _ e; cases e)]
    exact (World.cell?_of_block (a := ⟨sb, 0, none⟩) hS).trans h.c0
  · have e : plG (arr ++ [(s, k)]) = ps := by rw [hps]; simp [plG]
    rw [e]
    exact h.mp.blk ((Below.heap_setCell _ _ _ mb (fun e => h.ns e.symm)).trans hM)
  · rw [avB_snoc, List.length_append]
    refine ⟨hO.1, hO.2.imp id fun ⟨g, c, cur, e1, hb, hc, r⟩ => ⟨g, c, cur, e1, hb, ?_, r⟩⟩
    rw [Below.heap_setCell _ _ _ g (fun e => hus (by have e : g = sb := e; rw [e1, e]; rfl))]
    exact hc
  · refine ⟨hg.os.trans h.bl.os, hg.tape.trans h.bl.tape, hg.output.trans h.bl.output, by simp; have := h.bl.size; omega, fun b hb => ?_⟩
    rw [Below.heap_setCell _ _ _ b (fun e => by have e : b = sb := e; have := h.hs; omega), hk b (Nat.lt_of_lt_of_le hb h.bl.size) (fun e => by have := (h.own.lt b e.symm).1; omega)]
    exact h.bl.block b hb
  · refine ⟨hg.os, hg.tape, hg.output, by simp; omega, fun b hb h1 h2 h3 => ?_⟩
    rw [Below.heap_setCell _ _ _ b (fun e => h2 e)]
    exact hk b hb h3
theorem RF.drewLB {fb rb : Nat} {row : Option Nat} {w w' : World} (h : RF fb rb row w.drew w') : RF fb rb row w w' := ⟨h.os, h.tape, h.output, h.size, h.block⟩
/-- the box of a place -/
def PBB (bx : Nat) (p : Pl) (W : World) : Prop := W.cell? ⟨bx, 0, none⟩ = some (.int .i64 (p.1 : Int)) ∧ W.cell? ⟨bx, 1, none⟩ = some (.int .i64 (p.2.1 : Int)) ∧ W.cell? ⟨bx, 2, none⟩ = some (.bool p.2.2)
theorem PBB.keep {bx : Nat} {p : Pl} {W W' : World} (h : PBB bx p W) (hb : ∀ o, W'.cell? ⟨bx, o, none⟩ = W.cell? ⟨bx, o, none⟩) : PBB bx p W' := ⟨(hb 0).trans h.1, (hb 1).trans h.2.1, (hb 2).trans h.2.2⟩
theorem stepUpdB {P : Program} {w w' : World} {ops : Array Oper} {o : Oper} {a : Act} {K : Act → World → Prop} {Q : Exit → Act → World → Prop} {E : Prop} (hgd : o.guard = none) (m x y : Operand) (t : TypeId) (ho : o.op = Op.mapUpdate t m x y ∨ o.op = Op.insert t m x y) {mv key v : Value}
    (hm : a.eval m = mv) (hx : a.eval x = key) (hy : a.eval y = v) (hrun : (Instr.mapUpdate t mv key v).run P w = .ok () w') (h : K (a.put o.dst undef) w') : if Region.wanted o (yielded ops a.tmps) = true then Oper.wp P o a w K Q else E := by
  have hw : Region.wanted o (yielded ops a.tmps) = true := by simp [Region.wanted, hgd]
  rw [if_pos hw]
  unfold Oper.wp
  rcases ho with ho | ho <;> (simp [execOp, ho, hm, hx, hy, hrun, Result.andThen]; exact h)
end Go.Proofs.YthhbbhijpkoelaaDoor
