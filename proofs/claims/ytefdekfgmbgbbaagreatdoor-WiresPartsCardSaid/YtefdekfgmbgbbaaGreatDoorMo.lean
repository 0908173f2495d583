/-
  The contracts of package wires' writeLabel, writeType, writeValue.
-/
import Derived.Test.YtefdekfgmbgbbaaGreatDoorWin
import Derived.Test.YtefdekfgmbgbbaaGreatDoorWic
import Derived.Test.YtefdekfgmbgbbaaGreatDoorWif
import Derived.Test.YtefdekfgmbgbbaaGreatDoorKa
import Derived.Deep.WholeRow
import Derived.Laws.IdiomCopy
import Derived.Test.YtefdekfgmbgbbaaGreatDoorEvt
namespace Go.Proofs.YtefdekfgmbgbbaaGreatDoor
open Go.RowKit Go.Shelf

theorem ib_below {B b : Nat} {bs : List Value} {W W' : World} (h : Lib.IsBuilderF 47 5 B b bs W) (hb : Below W.heap.size W W') : Lib.IsBuilderF 47 5 B b bs W' := by
  have hf : FR W.heap.size W W' := FR.of hb
  rcases h with ⟨hB, v, hk, ho, hn⟩ | ⟨hB, v, hk, ho, hn⟩
  · exact .inl ⟨hB, v, (hb.block b (Array.getElem?_eq_some_iff.1 hk).1).trans hk, ho.kept hf (by right; intro e; have := (ho.lt _ e).2; omega), hn⟩
  · exact .inr ⟨hB, v, (hb.block b (Array.getElem?_eq_some_iff.1 hk).1).trans hk, ho.kept hf (by right; intro e; have := (ho.lt _ e).2; omega), hn⟩
theorem WKP.al {B b : Nat} {l : List UInt8} {w : World} (h : Lib.IsBuilderF 47 5 B b (Lib.byteCells l) w) (hB : B ≤ w.heap.size) (o : Obj) : WKP B b l w (w.alloc o) :=
  ⟨ib_below h ((Below.refl _ _).alloc (Nat.le_refl _) o), (Below.refl _ _).alloc hB _, (Lib.OthersKept.refl _ _ _).alloc _⟩
theorem WKP.belowA {B b : Nat} {l : List UInt8} {w w' : World} (h : Lib.IsBuilderF 47 5 B b (Lib.byteCells l) w) (hb : Below w.heap.size w w') (hB : B ≤ w.heap.size) : WKP B b l w w' :=
  ⟨ib_below h hb, hb.mono hB, fun k _ hk _ _ => (hb.block k (Array.getElem?_eq_some_iff.1 hk).1).trans hk⟩
set_option maxHeartbeats 1000000 in
theorem writeLabel_ok (B b : Nat) (l : List UInt8) (s : ByteArray) (w : World) (h : Lib.IsBuilderF 47 5 B b (Lib.byteCells l) w) (hs : isNm s.data.toList = true) (hlen : l.length ≤ 130000000000000) (hBw : B ≤ w.heap.size) :
    Calls Tryz.prog 20 #[.pointer (some ⟨b, 0, none⟩), .string s] w fun e w' => e = .returned (.int .i64 0) ∧ WKP B b (l ++ txW s.data.toList) w w' := by
  have hsz : s.size ≤ 8 := by have := nm_len _ hs; have : s.data.toList.length = s.size := (by simp); omega
  have cN := isName_any s w (by omega)
  rw [hs] at cN
  have cT := hideK (fun (W : World) (hW : WKP B b l w W) => writeText_any B b l s W hW.1 (by omega) hlen (Nat.le_trans hBw hW.2.1.size))
  have HI := hideK h
  clear h hs
  go_enter Tryz.func20, Tryz.ntmps20
  go_wp2_with (first
    | (go_at_call 29; refine cN.mono ?_; rintro e w1 ⟨rfl, hb1⟩; have h1 := WKP.belowA HI.out hb1 hBw)
    | (go_at_call 27; refine (cT.out _ h1).mono ?_; rintro e w2 ⟨rfl, h2⟩))
  go_ret
  exact ⟨rfl, h1.trans h2⟩
set_option maxHeartbeats 1000000 in
theorem writeLabel_bad (b : Nat) (s : ByteArray) (w : World) (hs : isNm s.data.toList = false) (hsz : s.size ≤ 9223372036854775807) :
    Calls Tryz.prog 20 #[.pointer (some ⟨b, 0, none⟩), .string s] w fun e w' => e = .returned (.int .i64 1) ∧ Below w.heap.size w w' := by
  have cN := isName_any s w hsz
  rw [hs] at cN
  go_enter Tryz.func20, Tryz.ntmps20
  go_wp2_with (go_at_call 29; refine cN.mono ?_; rintro e w1 ⟨rfl, hb1⟩)
  go_ret
  exact ⟨rfl, hb1⟩
set_option maxRecDepth 100000 in
set_option maxHeartbeats 2000000 in
theorem writeType_ok (B b d : Nat) (l : List UInt8) (t : Ty) (al : Option Addr) (cl : Nat) (ak : Option Addr) (ck : Nat) (w : World) (h : Lib.IsBuilderF 47 5 B b (Lib.byteCells l) w) (hbd : TyBd t cl ck) (hla : LA w B t.labels al) (hkt : KT w B d t.kids ak) (hc : chkTy t = 0) (hlen : l.length ≤ 130000000000000) (hBw : B ≤ w.heap.size) :
    Calls Tryz.prog 19 #[.pointer (some ⟨b, 0, none⟩), .agg #[.int .i64 t.kind, .int .i64 t.so, .string t.name, .slice al t.labels.length cl, .slice ak t.kids.length ck]] w fun e w' => e = .returned (.int .i64 0) ∧ WKP B b (l ++ txW (wrT t)) w w' := by
  have hA := WKP.al h hBw (.cells #[.int .i64 t.kind, .int .i64 t.so, .string t.name, .slice al t.labels.length cl, .slice ak t.kids.length ck] 31)
  have cW := write_good d t al cl ak ck (w.alloc (.cells #[.int .i64 t.kind, .int .i64 t.so, .string t.name, .slice al t.labels.length cl, .slice ak t.kids.length ck] 31)) hbd (NAt.mono hA.2.1.size (NAt.mono hBw (NAt.keep hA.2.1 hla))) (KT.mono hA.2.1.size (KT.mono hBw (KT.keep hA.2.1 hkt))) hc
  have hws : (bs (wrT t)).size ≤ 2000 := by obtain ⟨hw, hs⟩ := chkTy_good t hc; have := wrT_short t hw; rw [bs_size]; omega
  have cT := hideK (fun (W : World) (hW : WKP B b l w W) => writeText_any B b l (bs (wrT t)) W hW.1 (by omega) hlen (Nat.le_trans hBw hW.2.1.size))
  rw [bs_list] at cT
  have HA := hideK hA
  clear h hbd hla hkt hc hA hws
  go_enter Tryz.func19, Tryz.ntmps19
  go_wp2_with (first
    | (go_at_call 28; refine cW.mono ?_; rintro e w1 ⟨rfl, hb1⟩; have h1 := HA.out.trans (WKP.belowA HA.out.1 hb1 (Nat.le_trans hBw HA.out.2.1.size)))
    | (go_at_call 27; refine (cT.out _ h1).mono ?_; rintro e w2 ⟨rfl, h2⟩))
  go_ret
  exact ⟨rfl, h1.trans h2⟩
set_option maxRecDepth 100000 in
set_option maxHeartbeats 2000000 in
theorem writeType_bad (B b d : Nat) (t : Ty) (al : Option Addr) (cl : Nat) (ak : Option Addr) (ck : Nat) (w : World) (hbd : TyBd t cl ck) (hla : LA w B t.labels al) (hkt : KT w B d t.kids ak) (hc : chkTy t ≠ 0) (hBw : B ≤ w.heap.size) :
    Calls Tryz.prog 19 #[.pointer (some ⟨b, 0, none⟩), .agg #[.int .i64 t.kind, .int .i64 t.so, .string t.name, .slice al t.labels.length cl, .slice ak t.kids.length ck]] w fun e w' => e = .returned (.int .i64 (chkTy t)) ∧ Below w.heap.size w w' := by
  have hA : Below w.heap.size w (w.alloc (.cells #[.int .i64 t.kind, .int .i64 t.so, .string t.name, .slice al t.labels.length cl, .slice ak t.kids.length ck] 31)) := (Below.refl _ _).alloc (Nat.le_refl _) _
  have cW := write_bad d t al cl ak ck (w.alloc (.cells #[.int .i64 t.kind, .int .i64 t.so, .string t.name, .slice al t.labels.length cl, .slice ak t.kids.length ck] 31)) hbd (NAt.mono hA.size (NAt.mono hBw (NAt.keep (hA.mono hBw) hla))) (KT.mono hA.size (KT.mono hBw (KT.keep (hA.mono hBw) hkt))) hc
  have hcb : (chkTy t != 0) = true := by simpa using hc
  have HA := hideK hA
  generalize chkTy t = z at *
  clear hbd hla hkt hc hA
  go_enter Tryz.func19, Tryz.ntmps19
  go_wp2_with (go_at_call 28; refine cW.mono ?_; rintro e w1 ⟨rfl, hb1⟩)
  go_ret
  exact ⟨rfl, HA.out.trans (hb1.mono HA.out.size)⟩
end Go.Proofs.YtefdekfgmbgbbaaGreatDoor
/-
  Structs loaded and stored whole, as operations; a box that is written whole.
-/
namespace Go.Proofs.YtefdekfgmbgbbaaGreatDoor
open Go.RowKit Go.Shelf

theorem exec_load {P : Program} {T : TypeId} {x : Operand} {o : Oper} {a : Act} {pv v : Value} {W : World} (ho : o.op = .load T x) (hx : a.eval x = pv) (h : (Instr.loadAt T pv).run P W = .ok v W) : (execOp a.eval o).run P W = .ok (.value v) W := by
  simp [execOp, ho, hx, h, Result.andThen]
theorem wp_load {P : Program} {S : World → Prop} {T : TypeId} {x : Operand} {o : Oper} {a : Act} {pv v : Value} {W : World} (ho : o.op = .load T x) (hx : a.eval x = pv) (h : (Instr.loadAt T pv).run P W = .ok v W) (hS : S W) : o.wp P a W (fun c w' => c = a.put o.dst v ∧ S w') (fun _ _ _ => False) := by
  unfold Oper.wp
  rw [exec_load ho hx h]
  exact ⟨rfl, hS⟩
theorem wpList_loadW {P : Program} {ops : Array Oper} {Q : Exit → Act → World → Prop} {rest : List Oper} {T : TypeId} {x : Operand} {o : Oper} {a : Act} {pv v : Value} {W : World} (hg : o.guard = none) (ho : o.op = .load T x) (hx : a.eval x = pv) (h : (Instr.loadAt T pv).run P W = .ok v W) (hn : wpList P ops Q rest (a.put o.dst v) W) : wpList P ops Q (o :: rest) a W :=
  wpList_plain hg fun K hK => by
    unfold Oper.wp
    rw [exec_load ho hx h]
    exact hK _ _ hn
theorem wpList_storeW {P : Program} {ops : Array Oper} {Q : Exit → Act → World → Prop} {rest : List Oper} {T : TypeId} {x y : Operand} {o : Oper} {a : Act} {pv v : Value} {W W' : World} (hg : o.guard = none) (ho : o.op = .store T x y) (hx : a.eval x = pv) (hy : a.eval y = v) (h : (Instr.storeAt T pv v).run P W = .ok () W') (hn : wpList P ops Q rest (a.put o.dst undef) W') : wpList P ops Q (o :: rest) a W :=
  wpList_plain hg fun K hK => by
    unfold Oper.wp
    rw [show (execOp a.eval o).run P W = .ok .skip W' from by simp [execOp, ho, hx, hy, h, Result.andThen]]
    exact hK _ _ hn
theorem wpList_allocW {P : Program} {ops : Array Oper} {Q : Exit → Act → World → Prop} {rest : List Oper} {T : TypeId} {o : Oper} {a : Act} {v : Value} {W W' : World} (hg : o.guard = none) (ho : o.op = .alloc T) (h : (Instr.alloc T true (.tuple #[])).run P W = .ok v W') (hn : wpList P ops Q rest (a.put o.dst v) W') : wpList P ops Q (o :: rest) a W :=
  wpList_plain hg fun K hK => by
    unfold Oper.wp
    rw [show (execOp a.eval o).run P W = .ok (.value v) W' from by simp [execOp, ho, h, Result.andThen]]
    exact hK _ _ hn
theorem load_list {T : TypeId} {W : World} {b o n : Nat} {cs : List Value} (hn : cs.length = n) (hc : ∀ j v, cs[j]? = some v → W.cell? ⟨b, o + j, none⟩ = some v) (hg : ∀ l : Array Value, (loadCells ⟨b, o, none⟩ n).run Tryz.prog W = .ok l W → (Instr.loadAt T (.pointer (some ⟨b, o, none⟩))).run Tryz.prog W = .ok (.agg l) W) : (Instr.loadAt T (.pointer (some ⟨b, o, none⟩))).run Tryz.prog W = .ok (.agg cs.toArray) W := by
  subst hn
  exact hg _ (run_loadCells_list W ⟨b, o, none⟩ cs (fun j v hj => by rw [Go.WideShapes.add_plain]; exact hc j v hj))
/-- a box of n cells that may be written -/
structure BXN (W : World) (b n : Nat) : Prop where
  th : ∀ j, j < n → (W.cell? ⟨b, j, none⟩).isSome = true
  f : ∀ o, W.frozen? ⟨b, o, none⟩ = false
  lt : b < W.heap.size
theorem BXN.keep {W W' : World} {b n : Nat} (h : BXN W b n) (hb : Below W.heap.size W W') : BXN W' b n :=
  ⟨fun j hj => by rw [hb.cell (p := ⟨b, j, none⟩) h.lt]; exact h.th j hj, fun o => (hb.frozen (p := ⟨b, o, none⟩) h.lt).trans (h.f o), Nat.lt_of_lt_of_le h.lt hb.size⟩
theorem setCells_size (b : Nat) : ∀ (vs : List Value) (o : Nat) (w : World), (w.setCells b o vs).heap.size = w.heap.size
  | [], _, _ => rfl
  | v :: r, o, w => by rw [World.setCells, setCells_size b r, World.size_setCell]
theorem setCells_below {B b : Nat} {w0 : World} (hb : B ≤ b) : ∀ (vs : List Value) (o : Nat) (w : World), Below B w0 w → Below B w0 (w.setCells b o vs)
  | [], _, _, h => h
  | v :: r, o, w, h => by rw [World.setCells]; exact setCells_below hb r (o + 1) _ (h.setCell (p := ⟨b, o, none⟩) hb v)
/-- a box is written whole -/
theorem BXN.put {W : World} {b n : Nat} (h : BXN W b n) (vs : List Value) (hn : vs.length = n) : ∃ W9, W.setCells b 0 vs = W9 ∧ (∀ j (hj : j < vs.length), W9.cell? ⟨b, j, none⟩ = some vs[j]) ∧ (∀ b' o, b' ≠ b → W9.cell? ⟨b', o, none⟩ = W.cell? ⟨b', o, none⟩) ∧ W9.heap.size = W.heap.size ∧ ∀ w : World, w.heap.size ≤ b → Below w.heap.size w W → Below w.heap.size w W9 :=
  ⟨_, rfl, fun j hj => by
    have := World.cell?_setCells_in b vs 0 W (fun i hi => by rw [Nat.zero_add]; exact h.th i (by omega)) j hj
    rwa [Nat.zero_add] at this, fun b' o hb => World.cell?_setCells_out b vs 0 W _ (fun e => absurd e hb), setCells_size _ _ _ _, fun w hw hB => setCells_below hw _ _ _ hB⟩
theorem store_bx {W : World} {b n : Nat} (h : BXN W b n) (t : TypeId) (vs : List Value) (hn : vs.length = n) (hi : (Tryz.prog.info? t).map (·.size) = some n) (h1 : ∀ v ∈ vs, v.oneCell' = true) : (Instr.storeAt t (.pointer (some ⟨b, 0, none⟩)) (.agg vs.toArray)).run Tryz.prog W = .ok () (W.setCells b 0 vs) := by
  have hst := run_storeCells_cells (P := Tryz.prog) b 0 vs 0 W (fun j hj => by simpa using h.th j (by omega)) (fun j _ => by simpa using h.f j) h1
  rw [Nat.add_zero] at hst
  cases hq : Tryz.prog.info? t with
  | none => rw [hq] at hi; cases hi
  | some i =>
    have hs : i.size = n := by rw [hq] at hi; simpa using hi
    simp [Instr.storeAt, storeVar, sizeOf, typeInfo, hq, Value.cells, hs, hn, Instr.sureAddr, hst, Result.andThen]
theorem results_cell {P : Program} {fn : Func} {tmps : Array Value} {k : Nat} {t : TypeId} {p : Addr} {v : Value} {W : World} (hr : fn.results = #[.cell k t]) (hp : tmps.getD k undef = .pointer (some p)) (hv : (loadVar t p).run P W = .ok v W) : (results fn tmps).run P W = .ok v W := by
  rw [Array.getD_eq_getD_getElem?] at hp
  simp [results, hr, hp, asAddr, hv]
end Go.Proofs.YtefdekfgmbgbbaaGreatDoor

/-
  Events that are handed in.
-/
namespace Go.Proofs.YtefdekfgmbgbbaaGreatDoor
open Go.RowKit Go.Deep Go.Joins Go.ChangeShapes Go.WideShapes

/-- an event's ten cells -/
structure EvC (W : World) (b o : Nat) (x : Ev) (al : Option Addr) (cl : Nat) (ak : Option Addr) (ck : Nat) : Prop where
  c0 : W.cell? ⟨b, o + 0, none⟩ = some (.int .i64 x.kind)
  c1 : W.cell? ⟨b, o + 1, none⟩ = some (.int .i64 x.so)
  c2 : W.cell? ⟨b, o + 2, none⟩ = some (.int .i64 x.n)
  c3 : W.cell? ⟨b, o + 3, none⟩ = some (.string x.s)
  c4 : W.cell? ⟨b, o + 4, none⟩ = some (.int .i64 x.carry.kind)
  c5 : W.cell? ⟨b, o + 5, none⟩ = some (.int .i64 x.carry.so)
  c6 : W.cell? ⟨b, o + 6, none⟩ = some (.string x.carry.name)
  c7 : W.cell? ⟨b, o + 7, none⟩ = some (.slice al x.carry.labels.length cl)
  c8 : W.cell? ⟨b, o + 8, none⟩ = some (.slice ak x.carry.kids.length ck)
  c9 : W.cell? ⟨b, o + 9, none⟩ = some (.string x.label)
theorem EvC.keep {W W' : World} {B b o : Nat} {x : Ev} {al : Option Addr} {cl : Nat} {ak : Option Addr} {ck : Nat} (h : EvC W b o x al cl ak ck) (hb : Below B W W') (hl : b < B) : EvC W' b o x al cl ak ck :=
  ⟨(hb.cell (p := ⟨b, o + 0, none⟩) hl).trans h.c0, (hb.cell (p := ⟨b, o + 1, none⟩) hl).trans h.c1, (hb.cell (p := ⟨b, o + 2, none⟩) hl).trans h.c2, (hb.cell (p := ⟨b, o + 3, none⟩) hl).trans h.c3, (hb.cell (p := ⟨b, o + 4, none⟩) hl).trans h.c4, (hb.cell (p := ⟨b, o + 5, none⟩) hl).trans h.c5, (hb.cell (p := ⟨b, o + 6, none⟩) hl).trans h.c6, (hb.cell (p := ⟨b, o + 7, none⟩) hl).trans h.c7, (hb.cell (p := ⟨b, o + 8, none⟩) hl).trans h.c8, (hb.cell (p := ⟨b, o + 9, none⟩) hl).trans h.c9⟩
/-- a list of events -/
def EVS (W : World) (B : Nat) (evs : List Ev) (ae : Option Addr) : Prop := evs = [] ∨ ∃ b o, ae = some ⟨b, o, none⟩ ∧ b < B ∧ ∀ k (h : k < evs.length), ∃ al cl ak ck d, EvC W b (o + k * 10) evs[k] al cl ak ck ∧ evs[k].s.size ≤ 9223372036854775807 ∧ TyBd evs[k].carry cl ck ∧ LA W B evs[k].carry.labels al ∧ KT W B d evs[k].carry.kids ak
theorem EVS.keep {W W' : World} {B : Nat} {evs : List Ev} {ae : Option Addr} (hb : Below B W W') (h : EVS W B evs ae) : EVS W' B evs ae :=
  h.imp id fun ⟨b, o, e, hl, hc⟩ => ⟨b, o, e, hl, fun k hk => by
    obtain ⟨al, cl, ak, ck, d, h1, h2, h3, h4, h5⟩ := hc k hk
    exact ⟨al, cl, ak, ck, d, h1.keep hb hl, h2, h3, h4.keep hb, h5.keep hb⟩⟩
section
variable {H : Type} {enc : TypeId × Value → H} {W : World} {base : Nat} {spare : Nat → Bool} {held : Bool}
theorem cellsEv : Tryz.prog.cellsOf 33 = 10 := by kernel_rfl
set_option maxRecDepth 100000 in
theorem openEvent (fuel : Nat) (cs : List Value) (y : DataW H × List MemPlace) (h : DataW.trod enc Tryz.prog W base spare held fuel 33 cs = some y) :
    ∃ (x : Ev) (al : Option Addr) (cl : Nat) (ak : Option Addr) (ck d : Nat), cs = [.int .i64 x.kind, .int .i64 x.so, .int .i64 x.n, .string x.s, .int .i64 x.carry.kind, .int .i64 x.carry.so, .string x.carry.name, .slice al x.carry.labels.length cl, .slice ak x.carry.kids.length ck, .string x.label] ∧ x.s.size ≤ 9223372036854775807 ∧ TyBd x.carry cl ck ∧ LA W W.heap.size x.carry.labels al ∧ KT W W.heap.size d x.carry.kids ak := by
  obtain ⟨xs, n, rfl, hy, hlen, hxs, hf⟩ := DataW.trod_struct Tryz.underlying33 h
  have h0 : DataW.trod enc Tryz.prog W base spare held n 3 (List.take 1 (List.drop 0 cs)) = xs[0]? := hf 0 _ rfl
  have h1 : DataW.trod enc Tryz.prog W base spare held n 27 (List.take 3 (List.drop 1 cs)) = xs[1]? := hf 1 _ rfl
  have h2 : DataW.trod enc Tryz.prog W base spare held n 31 (List.take 5 (List.drop 4 cs)) = xs[2]? := hf 2 _ rfl
  have h3 : DataW.trod enc Tryz.prog W base spare held n 9 (List.take 1 (List.drop 9 cs)) = xs[3]? := hf 3 _ rfl
  clear hf hy
  rw [cellsEv] at hlen
  match cs, hlen with
  | [a0, a1, a2, a3, a4, a5, a6, a7, a8, a9], _ =>
  match xs, hxs with
  | [x0, x1, x2, x3], _ =>
  simp at h0 h1 h2 h3
  obtain ⟨kd, e0, _, _⟩ := DataW.trod_int Tryz.underlying3 h0
  obtain ⟨lb, e9, _, _⟩ := DataW.trod_string Tryz.underlying9 h3
  obtain ⟨ys, m, rfl, _, _, hys, hg⟩ := DataW.trod_struct Tryz.underlying27 h1
  have g0 : DataW.trod enc Tryz.prog W base spare held m 3 (List.take 1 (List.drop 0 [a1, a2, a3])) = ys[0]? := hg 0 _ rfl
  have g1 : DataW.trod enc Tryz.prog W base spare held m 2 (List.take 1 (List.drop 1 [a1, a2, a3])) = ys[1]? := hg 1 _ rfl
  have g2 : DataW.trod enc Tryz.prog W base spare held m 9 (List.take 1 (List.drop 2 [a1, a2, a3])) = ys[2]? := hg 2 _ rfl
  match ys, hys with
  | [y0, y1, y2], _ =>
  simp at g0 g1 g2
  obtain ⟨so, e1, _, _⟩ := DataW.trod_int Tryz.underlying3 g0
  obtain ⟨nn, e2, _, _⟩ := DataW.trod_int Tryz.underlying2 g1
  obtain ⟨s, e3, _, ws⟩ := DataW.trod_string Tryz.underlying9 g2
  obtain ⟨t, al, cl, ak, ck, et, b1, b2, b3⟩ := openCellsT _ _ _ h2
  simp at e0 e1 e2 e3 e9 et
  obtain ⟨e4, e5, e6, e7, e8⟩ := et
  subst e0 e1 e2 e3 e9 e4 e5 e6 e7 e8
  unfold maxLen at ws
  exact ⟨⟨kd, so, nn, s, t, lb⟩, al, cl, ak, ck, _, rfl, ws, b1, b2, b3⟩
set_option maxRecDepth 100000 in
/-- events that are handed in -/
theorem openEvents {r : Reach} {b0 : Nat} {v : Value} {d : DataW H} {p : List MemPlace} (hv : Value.okWide Tryz.prog W r b0 22 v) (h : DataW.Trod enc Tryz.prog W base spare held 22 v d p) :
    ∃ (evs : List Ev) (ae : Option Addr) (ce : Nat), v = .slice ae evs.length ce ∧ evs.length ≤ 9223372036854775807 ∧ EVS W W.heap.size evs ae := by
  obtain ⟨a0, len, cap, rfl⟩ := okWide_slice Tryz.underlying22 hv
  obtain ⟨fuel, hf⟩ := h
  rcases DataW.trod_slice Tryz.underlying22 hf with ⟨e5, _⟩ | ⟨a, len', cap', elems, rest, k, hk, e5, hx, hb, hlc, hcm, hle, hel, _, _⟩
  · simp [Value.cells] at e5
    obtain ⟨rfl, rfl, rfl⟩ := e5
    exact ⟨[], none, 0, rfl, by simp, .inl rfl⟩
  · simp [Value.cells] at e5
    obtain ⟨rfl, rfl, rfl⟩ := e5
    rw [cellsEv] at hel
    unfold maxLen at hcm
    have hall : ∀ i, i < len → ∃ p : Ev × Option Addr × Nat × Option Addr × Nat × Nat, W.cells? base (a.add (i * 10)) 10 = some [.int .i64 p.1.kind, .int .i64 p.1.so, .int .i64 p.1.n, .string p.1.s, .int .i64 p.1.carry.kind, .int .i64 p.1.carry.so, .string p.1.carry.name, .slice p.2.1 p.1.carry.labels.length p.2.2.1, .slice p.2.2.2.1 p.1.carry.kids.length p.2.2.2.2.1, .string p.1.label] ∧ p.1.s.size ≤ 9223372036854775807 ∧ TyBd p.1.carry p.2.2.1 p.2.2.2.2.1 ∧ LA W W.heap.size p.1.carry.labels p.2.1 ∧ KT W W.heap.size p.2.2.2.2.2 p.1.carry.kids p.2.2.2.1 := by
      intro i hi
      have q := hel i hi
      rw [List.getElem?_eq_getElem (by omega)] at q
      obtain ⟨cs', q1, q2⟩ := Option.bind_eq_some_iff.1 q
      obtain ⟨x, al, cl, ak, ck, d, rfl, h1, h2, h3, h4⟩ := openEvent k cs' _ q2
      exact ⟨(x, al, cl, ak, ck, d), q1, h1, h2, h3, h4⟩
    haveI : Inhabited (Ev × Option Addr × Nat × Option Addr × Nat × Nat) := ⟨(⟨0, 0, 0, ⟨#[]⟩, ⟨0, 0, ⟨#[]⟩, [], []⟩, ⟨#[]⟩⟩, none, 0, none, 0, 0)⟩
    obtain ⟨f, hf⟩ := choose_lt hall
    refine ⟨(List.range len).map fun i => (f i).1, some a, cap, by simp, by simp; omega, ?_⟩
    by_cases hl0 : len = 0
    · exact .inl (by simp [hl0])
    · obtain ⟨q1, _⟩ := hf 0 (by omega)
      have q2 := (World.cells?_some q1).2.2 0 (by omega)
      obtain ⟨b, o, spot⟩ := a
      have hsp : spot = none := by simpa [Addr.add] using World.cell?_spot q2
      subst hsp
      have hcell : ∀ i j, i < len → j < 10 → W.cell? ⟨b, o + i * 10 + j, none⟩ = [Value.int .i64 (f i).1.kind, .int .i64 (f i).1.so, .int .i64 (f i).1.n, .string (f i).1.s, .int .i64 (f i).1.carry.kind, .int .i64 (f i).1.carry.so, .string (f i).1.carry.name, .slice (f i).2.1 (f i).1.carry.labels.length (f i).2.2.1, .slice (f i).2.2.2.1 (f i).1.carry.kids.length (f i).2.2.2.2.1, .string (f i).1.label][j]? := by
        intro i j hi hj
        obtain ⟨q1, _⟩ := hf i hi
        have := (World.cells?_some q1).2.2 j hj
        rw [add_add, Go.WideShapes.add_plain] at this
        rw [Nat.add_assoc]; exact this
      refine .inr ⟨b, o, rfl, lt_of_cell ((hcell 0 0 (by omega) (by omega)).trans rfl), fun i hi => ?_⟩
      have hi' : i < len := by simpa using hi
      have e : ((List.range len).map fun i => (f i).1)[i] = (f i).1 := by simp
      simp only [e]
      obtain ⟨_, h1, h2, h3, h4⟩ := hf i hi'
      exact ⟨(f i).2.1, (f i).2.2.1, (f i).2.2.2.1, (f i).2.2.2.2.1, (f i).2.2.2.2.2, ⟨(hcell i 0 hi' (by omega)).trans rfl, (hcell i 1 hi' (by omega)).trans rfl, (hcell i 2 hi' (by omega)).trans rfl, (hcell i 3 hi' (by omega)).trans rfl, (hcell i 4 hi' (by omega)).trans rfl, (hcell i 5 hi' (by omega)).trans rfl, (hcell i 6 hi' (by omega)).trans rfl, (hcell i 7 hi' (by omega)).trans rfl, (hcell i 8 hi' (by omega)).trans rfl, (hcell i 9 hi' (by omega)).trans rfl⟩, h1, h2, h3, h4⟩
end
end Go.Proofs.YtefdekfgmbgbbaaGreatDoor
