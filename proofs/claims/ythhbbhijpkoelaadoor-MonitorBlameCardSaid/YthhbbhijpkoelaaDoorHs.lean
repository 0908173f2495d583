/-
  What lies in memory while graph.lay lays the Kids of a node.
-/
import Derived.Test.YthhbbhijpkoelaaDoorHr
namespace Go.Proofs.YthhbbhijpkoelaaDoor
open Go.RowKit Go.Shelf

structure LY (w : World) (pg tb kn : Nat) (u : Value) (toks : List TkN) (sf : TkN) (B k : Nat) (tos : List Nat) (new : List TkN) (u' : Value) (W : World) : Prop where
  pgp : PG W pg u' (toks ++ [sf] ++ new)
  fi : FI W tb kn k tos
  tkl : TKL W B (fun b => tb < b ∧ b < W.heap.size ∧ u'.ownBlock ≠ some b) new
  rf : RF pg pg u.ownBlock w W
  fr : u'.ownBlock = u.ownBlock ∨ ∀ j, u'.ownBlock = some j → w.heap.size ≤ j
  tbu : u'.ownBlock ≠ some tb
  tbp : pg < tb ∧ w.heap.size ≤ tb
  bp : B ≤ pg
theorem RF.set {fb rb : Nat} {row : Option Nat} {w W : World} (h : RF fb rb row w W) {b : Nat} (o : Nat) (v : Value) (hb : b = fb ∨ w.heap.size ≤ b) : RF fb rb row w (W.setCell ⟨b, o, none⟩ v) :=
  ⟨h.os, h.tape, h.output, by simpa using h.size, fun k hk h1 h2 h3 => (Below.heap_setCell W _ v k (fun e => by
    have e : k = b := e
    rcases hb with hb | hb
    · exact h1 (e.trans hb)
    · omega)).trans (h.block k hk h1 h2 h3)⟩
theorem RF.fi {pg : Nat} {row : Option Nat} {W W' : World} (h : RF pg pg row W W') {tb kn k : Nat} {tos : List Nat} (hf : FI W tb kn k tos) (h1 : tb ≠ pg) (h2 : row ≠ some tb) : FI W' tb kn k tos :=
  ⟨Nat.lt_of_lt_of_le hf.lt h.size, fun j hj => (h.cell hf.lt h1 h1 (fun e => h2 e.symm)).trans (hf.cell j hj), fun j => (h.frozen hf.lt h1 h1 (fun e => h2 e.symm)).trans (hf.fr j)⟩
theorem LY.start {w V w7 : World} {pg tb kn : Nat} {u v7 : Value} {toks : List TkN} {sf : TkN} {B : Nat} {ob : Obj} (hp : PG w pg u toks) (hV : Below w.heap.size w V) (hfi : FI V tb kn 0 []) (htb : w.heap.size ≤ tb) (hg : (V.alloc ob).grownBy w7 u.ownBlock) (hO : w7.ownsRow (pg + 1) 60 4 v7 (toks.length + 1) (ndCs toks ++ nC sf)) (hat : v7.ownBlock = u.ownBlock ∨ v7.ownBlock = some (V.alloc ob).heap.size) (hB : B ≤ pg) :
    LY w pg tb kn u toks sf B 0 [] [] v7 (w7.setCell ⟨pg, 0, none⟩ v7) := by
  have hpl := hp.lt
  have hvs := hV.size
  have hgV : V.grownBy w7 u.ownBlock := (World.grownBy_alloc V ob _).trans hg
  have hs7 := hgV.size
  have hpo : u.ownBlock ≠ some pg := fun e => by have := (hp.own.lt pg e).1; omega
  have hto : u.ownBlock ≠ some tb := fun e => by have := (hp.own.lt tb e).2; omega
  have hfl := hfi.lt
  have hn7 : v7.ownBlock = u.ownBlock ∨ ∀ j, v7.ownBlock = some j → V.heap.size ≤ j := hat.imp id fun e j hj => by rw [e] at hj; injection hj with hj; simp at hj; omega
  have hv7 : v7.ownBlock ≠ some tb := fresh_ne hn7 hfl hto
  have hc7 : w7.cell? ⟨pg, 0, none⟩ = some u := ((World.cell?_of_block (a := ⟨pg, 0, none⟩) (hgV.block pg (by omega) (fun e => hpo e.symm))).trans (hV.cell (p := ⟨pg, 0, none⟩) hpl)).trans hp.c
  have hf7 : w7.frozen? ⟨pg, 0, none⟩ = false := ((World.frozen?_of_block (a := ⟨pg, 0, none⟩) (hgV.block pg (by omega) (fun e => hpo e.symm))).trans (hV.frozen (p := ⟨pg, 0, none⟩) hpl)).trans hp.f
  refine ⟨⟨World.cell?_setCell_same _ _ _ hc7, (World.frozen?_setCell _ _ _ _).trans hf7, ?_, by simp; omega⟩, ?_, fun t ht => (by cases ht), ?_, hn7.imp id (fun h j hj => Nat.le_trans hvs (h j hj)), hv7, ⟨by omega, htb⟩, hB⟩
  · have := own_setB hO (b := pg) (o := 0) (by omega) v7
    rw [List.append_nil, ndCs_snoc, List.length_append]
    exact this
  · exact (hfi.kept hgV (fun e => hto e.symm)).kept (grown_set w7 pg 0 v7) (by intro e; injection e with e; omega)
  · have h1 : RF pg pg u.ownBlock w w7 := ⟨hgV.os.trans hV.os, hgV.tape.trans hV.tape, hgV.output.trans hV.output, by omega, fun k hk _ _ h3 => (hgV.block k (by omega) h3).trans (hV.block k hk)⟩
    exact h1.set 0 v7 (.inl rfl)
theorem LY.step {w W W1 w5 : World} {pg tb kn : Nat} {u u' u5 : Value} {toks new new2 : List TkN} {sf : TkN} {B k : Nat} {tos : List Nat} (h : LY w pg tb kn u toks sf B k tos new u' W) (hk : k < kn) (hl : tos.length = k) (hb : Below W.heap.size W W1) (x : Nat)
    (hp5 : PG w5 pg u5 (toks ++ [sf] ++ new ++ new2)) (ht5 : TKL w5 B (fun b => W1.heap.size ≤ b ∧ b < w5.heap.size ∧ u5.ownBlock ≠ some b) new2) (hr5 : RF pg pg u'.ownBlock W1 w5) (hu5 : u5.ownBlock = u'.ownBlock ∨ ∀ j, u5.ownBlock = some j → W1.heap.size ≤ j) :
    LY w pg tb kn u toks sf B (k + 1) (tos ++ [x]) (new ++ new2) u5 (w5.setCell ⟨tb, k, none⟩ (.int .i64 (x : Int))) := by
  have hbs := hb.size
  have h5s := hr5.size
  have hfl := h.fi.lt
  have htp := h.tbp
  have hbp := h.bp
  have hrW : RF pg pg u'.ownBlock W w5 := (RF.of hb).trans hr5 (.inl rfl)
  have hu5W : u5.ownBlock = u'.ownBlock ∨ ∀ j, u5.ownBlock = some j → W.heap.size ≤ j := hu5.imp id fun h j hj => Nat.le_trans hbs (h j hj)
  have htb5 : u5.ownBlock ≠ some tb := fresh_ne hu5W hfl h.tbu
  have hset := grown_set w5 tb k (.int .i64 (x : Int))
  have hown5 : ∀ j, u5.ownBlock = some j → pg + 1 ≤ j := fun j hj => (hp5.own.lt j hj).1
  refine ⟨⟨?_, ?_, ?_, by have := hp5.lt; simpa using this⟩, (hrW.fi h.fi (by omega) h.tbu).put hk hl x, ?_, ?_, ?_, htb5, htp, hbp⟩
  · rw [World.cell?_setCell_other _ _ _ _ (by intro e; injection e with e; omega)]; exact hp5.c
  · rw [World.frozen?_setCell]; exact hp5.f
  · rw [← List.append_assoc]
    exact hp5.own.kept hset (apt.or (fun j hj e => by injection e with e; subst e; exact htb5 hj))
  · have hbB : Below B w5 (w5.setCell ⟨tb, k, none⟩ (.int .i64 (x : Int))) := (Below.refl B w5).setCell (p := ⟨tb, k, none⟩) (by show B ≤ tb; omega) _
    have hcs : ∀ b o, tb < b → (w5.setCell ⟨tb, k, none⟩ (.int .i64 (x : Int))).cell? ⟨b, o, none⟩ = w5.cell? ⟨b, o, none⟩ := fun b o hq => World.cell?_setCell_other _ _ _ _ (by intro e; injection e with e; omega)
    intro t ht
    rcases List.mem_append.1 ht with ht | ht
    · have hbW : Below B W w5 := ⟨hrW.os, hrW.tape, hrW.output, hrW.size, fun j hj => hrW.block j (by omega) (by omega) (by omega) (fun e => by
        have := (h.pgp.own.lt j e.symm).1
        omega)⟩
      have := h.tkl.keep hbW (fun b o hq => hrW.cell hq.2.1 (by omega) (by omega) (fun e => hq.2.2 e.symm)) (Q := fun b => tb < b ∧ b < w5.heap.size ∧ u5.ownBlock ≠ some b) (fun b hq => ⟨hq.1, by omega, fresh_ne hu5W hq.2.1 hq.2.2⟩)
      exact (this.keep hbB (fun b o hq => hcs b o hq.1) (fun b hq => ⟨hq.1, by simpa using hq.2.1, hq.2.2⟩)) t ht
    · exact (ht5.keep hbB (fun b o hq => hcs b o (by omega)) (fun b hq => ⟨by omega, by simpa using hq.2.1, hq.2.2⟩)) t ht
  · exact (h.rf.trans hrW h.fr).set k _ (.inr htp.2)
  · rcases hu5W with e | e
    · rw [e]; exact h.fr
    · refine .inr fun j hj => ?_
      have := e j hj
      have := h.rf.size
      omega
theorem LY.done {w W : World} {pg tb : Nat} {u u' : Value} {toks new : List TkN} {B : Nat} {t : Ty} {ar : Ar} {al : Option Addr} {cl ct : Nat} (h : LY w pg tb t.kids.length u toks (⟨t.kind, t.so, t.labels, (layL ar (toks.length + 1) t.kids).1⟩, (al, cl), (some ⟨tb, 0, none⟩, ct)) B t.kids.length (layL ar (toks.length + 1) t.kids).1 new u' W) (hn : new.map (·.1) = (layL ar (toks.length + 1) t.kids).2) (hla : LA w B t.labels al) (h9 : t.kind ≠ 9) (h8 : t.kind ≠ 8) (hwpg : pg < w.heap.size) (hrow : ∀ j, u.ownBlock = some j → pg + 1 ≤ j) :
    LYPost t ar pg u toks B w (.returned (.int .i64 (toks.length : Int))) W := by
  have hbp := h.bp
  have hbw : Below B w W := ⟨h.rf.os, h.rf.tape, h.rf.output, h.rf.size, fun j hj => h.rf.block j (by omega) (by omega) (by omega) (fun e => by have := hrow j e.symm; omega)⟩
  refine ⟨by rw [layP_node t ar toks.length h9 h8], (⟨t.kind, t.so, t.labels, (layL ar (toks.length + 1) t.kids).1⟩, (al, cl), (some ⟨tb, 0, none⟩, ct)) :: new, u', by rw [layP_node t ar toks.length h9 h8, List.map_cons, hn], ?_, fun q hq => ?_, h.rf, h.fr⟩
  · have := h.pgp
    rw [List.append_assoc] at this
    exact this
  · rcases List.mem_cons.1 hq with rfl | hq
    · refine ⟨hla.keep hbw, .inr ⟨tb, 0, rfl, ⟨h.tbp.2, h.fi.lt, h.tbu⟩, fun i hi => ?_⟩⟩
      have hi' : i < t.kids.length := by rw [← layL_len ar (toks.length + 1) t.kids]; simpa using hi
      rw [Nat.zero_add, h.fi.cell i hi', if_pos hi', List.getElem_map]
      unfold clAt
      rw [List.getElem?_eq_getElem (by rw [layL_len]; exact hi')]; rfl
    · exact (h.tkl.keep (Below.refl _ _) (fun _ _ _ => rfl) (fun b hb => ⟨by have := h.tbp.2; omega, hb.2⟩)) q hq
end Go.Proofs.YthhbbhijpkoelaaDoor
