/-
  The contract of duetkeep.free: does a name stand in a type that no Rec in it binds?
-/
import Derived.Test.YtpamhimmdoimoaaGreatDoorSz
import Derived.Test.YtpamhimmdoimoaaGreatDoorUi
import Derived.Test.YtpamhimmdoimoaaGreatDoorJw
namespace Go.Proofs.YtpamhimmdoimoaaGreatDoor
end Go.Proofs.YtpamhimmdoimoaaGreatDoor
namespace Go.Proofs.YtpamhimmdoimoaaGreatDoor
open Go.RowKit Go.Shelf
def LP (W : World) (P : Nat → Prop) (ls : List ByteArray) (al : OAd) : Prop :=
 ls = [] ∨ ∃ b o, al = some ⟨b, o, none⟩ ∧ P b ∧ ∀ i (h : i < ls.length), W.cell? ⟨b, o + i, none⟩ = some (.string ls[i])
def KP (W : World) (P : Nat → Prop) : Nat → List Ty → OAd → Prop
 | 0, ks, _ => ks = []
 | d + 1, ks, ak => ks = [] ∨ ∃ b o, ak = some ⟨b, o, none⟩ ∧ P b ∧ ∀ i (h : i < ks.length), ∃ al cl ak' ck', TyAt W b (o + i * 5) ks[i] al cl ak' ck' ∧ TyBd ks[i] cl ck' ∧ LP W P ks[i].labels al ∧ KP W P d ks[i].kids ak'
theorem LP.keep {W W' : World} {P Q : Nat → Prop} (hb : ∀ b o, P b → W'.cell? ⟨b, o, none⟩ = W.cell? ⟨b, o, none⟩) (hq : ∀ b, P b → Q b) {ls : List ByteArray} {al : OAd} (h : LP W P ls al) : LP W' Q ls al :=
 h.imp id fun ⟨b, o, e, hp, hc⟩ => ⟨b, o, e, hq b hp, fun i hi => (hb b _ hp).trans (hc i hi)⟩
theorem KP.keep {W W' : World} {P Q : Nat → Prop} (hb : ∀ b o, P b → W'.cell? ⟨b, o, none⟩ = W.cell? ⟨b, o, none⟩) (hq : ∀ b, P b → Q b) : ∀ {d : Nat} {ks : List Ty} {ak : OAd}, KP W P d ks ak → KP W' Q d ks ak
 | 0, _, _, h => h
 | d + 1, ks, ak, h => by
  rcases h with h | ⟨b, o, h1, h2, h3⟩
  ·exact .inl h
  ·refine .inr ⟨b, o, h1, hq b h2, fun i hi => ?_⟩
   obtain ⟨al, cl, ak', ck', e, f, g, k⟩ := h3 i hi;exact ⟨al, cl, ak', ck', ⟨(hb b _ h2).trans e.c0, (hb b _ h2).trans e.c1, (hb b _ h2).trans e.c2, (hb b _ h2).trans e.c3, (hb b _ h2).trans e.c4⟩, f, LP.keep hb hq g, KP.keep hb hq k⟩
theorem KP.up {W : World} {P : Nat → Prop} : ∀ {d e : Nat} {ks : List Ty} {ak : OAd}, d ≤ e → KP W P d ks ak → KP W P e ks ak
 | 0, 0, _, _, _, h => h
 | 0, e + 1, _, _, _, h => .inl h
 | d + 1, 0, _, _, hd, _ => by omega
 | d + 1, e + 1, ks, ak, hd, h => by
  rcases h with h | ⟨b, o, h1, hl, h⟩
  ·exact .inl h
  ·exact .inr ⟨b, o, h1, hl, fun i hi => by
    obtain ⟨al, cl, ak', ck', h1, h2, h3, h4⟩ := h i hi;exact ⟨al, cl, ak', ck', h1, h2, h3, KP.up (by omega) h4⟩⟩
theorem LP.la {W : World} {P : Nat → Prop} {B : Nat} (hq : ∀ b, P b → b < B) {ls : List ByteArray} {al : OAd} (h : LP W P ls al) : LA W B ls al := by
 rcases h with rfl | ⟨b, o, e, hp, hc⟩
 ·exact .inl rfl
 ·exact .inr ⟨b, o, e, hq b hp, fun i hi => by rw [List.length_map] at hi; rw [List.getElem_map]; exact hc i hi⟩
theorem KP.kt {W : World} {P : Nat → Prop} {B : Nat} (hq : ∀ b, P b → b < B) : ∀ {d : Nat} {ks : List Ty} {ak : OAd}, KP W P d ks ak → KT W B d ks ak
 | 0, _, _, h => h
 | d + 1, ks, ak, h => by
  rcases h with h | ⟨b, o, h1, h2, h3⟩
  ·exact .inl h
  ·refine .inr ⟨b, o, h1, hq b h2, fun i hi => ?_⟩
   obtain ⟨al, cl, ak', ck', e, f, g, k⟩ := h3 i hi;exact ⟨al, cl, ak', ck', e, f, g.la hq, KP.kt hq k⟩
abbrev TTk := Ty × (OAd × Nat) × (OAd × Nat)
def tC (t : TTk) : List Value := [.int .i64 t.1.kind, .int .i64 t.1.so, .string t.1.name, .slice t.2.1.1 t.1.labels.length t.2.1.2, .slice t.2.2.1 t.1.kids.length t.2.2.2]
def tCs (ts : List TTk) : List Value := ts.flatMap tC
theorem tCs_snoc (ts : List TTk) (x : TTk) : tCs (ts ++ [x]) = tCs ts ++ tC x := by simp [tCs]
theorem tC_one (t : TTk) : ∀ y ∈ tC t, y.oneCell' = true := by
 intro y hy;simp only [tC, List.mem_cons, List.not_mem_nil, or_false] at hy;rcases hy with rfl | rfl | rfl | rfl | rfl <;> rfl
theorem tCs_at : ∀ (ss : List TTk) (i : Nat) (h : i < ss.length) (j : Nat), j < 5 → (tCs ss)[i * 5 + j]? = (tC ss[i])[j]?
 | [], i, h, _, _ => by simp at h
 | s :: ss, 0, _, j, hj => by
  have e : tCs (s :: ss) = tC s ++ tCs ss := rfl;rw [e, List.getElem?_append_left (by simp [tC]; omega)]
  simp
 | s :: ss, i + 1, h, j, hj => by
  have e : tCs (s :: ss) = tC s ++ tCs ss := rfl;have hl : (tC s).length = 5 := rfl;rw [e, List.getElem?_append_right (by rw [hl]; omega), hl, show (i + 1) * 5 + j - 5 = i * 5 + j by omega]
  exact tCs_at ss i (by simpa using h) j hj
def TOK (W : World) (P : Nat → Prop) (ts : List TTk) : Prop := ∀ q ∈ ts, TyBd q.1 q.2.1.2 q.2.2.2 ∧ LP W P q.1.labels q.2.1.1 ∧ ∃ d, KP W P d q.1.kids q.2.2.1
theorem TOK.keep {W W' : World} {P Q : Nat → Prop} {ts : List TTk} (h : TOK W P ts) (hb : ∀ b o, P b → W'.cell? ⟨b, o, none⟩ = W.cell? ⟨b, o, none⟩) (hq : ∀ b, P b → Q b) : TOK W' Q ts :=
 fun q hm => ⟨(h q hm).1, (h q hm).2.1.keep hb hq, by obtain ⟨d, hd⟩ := (h q hm).2.2; exact ⟨d, hd.keep hb hq⟩⟩
theorem tok_depth {W : World} {P : Nat → Prop} : ∀ {ts : List TTk}, TOK W P ts → ∃ D, ∀ q ∈ ts, KP W P D q.1.kids q.2.2.1
 | [], _ => ⟨0, fun q hq => by cases hq⟩
 | x :: ts, h => by
  obtain ⟨D, hD⟩ := tok_depth (ts := ts) fun q hq => h q (.tail _ hq)
  obtain ⟨d, hd⟩ := (h x (.head _)).2.2;exact ⟨D + d, fun q hq => by
   rcases List.mem_cons.1 hq with rfl | hq
   ·exact hd.up (by omega)
   ·exact (hD q hq).up (by omega)⟩
theorem kp_row {W : World} {base n : Nat} {v : Value} {ts : List TTk} {P : Nat → Prop} (ho : W.ownsRow base 25 5 v n (tCs ts)) (hn : ts.length = n) (ht : TOK W P ts) (hv : ∀ b, v.ownBlock = some b → P b) : ∃ ak ck d, v = .slice ak n ck ∧ n ≤ ck ∧ ck ≤ 9223372036854775807 ∧ KP W P d (ts.map fun q => q.1) ak := by
 obtain ⟨D, hD⟩ := tok_depth ht;rcases ho.2 with ⟨rfl, h0⟩ | ⟨g, cap, cur, rfl, _, hc, h1, h2, _, _⟩
 ·have : ts = [] := List.eq_nil_of_length_eq_zero (by omega)
  subst this;exact ⟨none, 0, 0, by rw [h0], by omega, by omega, rfl⟩
 ·unfold maxLen at h2
  obtain ⟨g', c', e, _, _, hcell⟩ := (own_cells ho).resolve_left (fun q => by cases q.1)
  injection e with e1 _ e3
  injection e1 with e1
  injection e1 with e1
  subst e1 e3;refine ⟨_, cap, D + 1, rfl, h1, by omega, .inr ⟨g, 0, rfl, hv g rfl, fun i hi => ?_⟩⟩
  have hi' : i < ts.length := by simpa using hi
  have ge : (ts.map fun q => q.1)[i] = ts[i].1 := by simp
  rw [ge];have hm := List.getElem_mem hi';have hcl : ∀ j y, j < 5 → (tC ts[i])[j]? = some y → W.cell? ⟨g, 0 + i * 5 + j, none⟩ = some y := fun j y hj hy => by
   rw [Nat.zero_add];exact hcell _ _ ((tCs_at ts i hi' j hj).trans hy)
  exact ⟨ts[i].2.1.1, ts[i].2.1.2, ts[i].2.2.1, ts[i].2.2.2, ⟨hcl 0 _ (by omega) rfl, hcl 1 _ (by omega) rfl, hcl 2 _ (by omega) rfl, hcl 3 _ (by omega) rfl, hcl 4 _ (by omega) rfl⟩, (ht _ hm).1, (ht _ hm).2.1, hD _ hm⟩
theorem infoTy : (Tryz.prog.info? 25).map (fun i => (i.zero, i.size, i.bytes)) = some (some (.agg #[.int .i64 0, .int .i64 0, .string ⟨#[]⟩, .slice none 0 0, .slice none 0 0]), 5, 80) := by kernel_rfl
end Go.Proofs.YtpamhimmdoimoaaGreatDoor
namespace Go.Proofs.YtpamhimmdoimoaaGreatDoor
open Go.RowKit Go.Shelf
structure WY (n : Nat) (ag : OAd) (cg wb pb mb : Nat) (ps : Nat → Bool) (st : SB) (W : World) : Prop where
 c0 : W.cell? ⟨wb, 0, none⟩ = some (.slice ag n cg)
 c1 : W.cell? ⟨wb, 1, none⟩ = some (.slice (some ⟨pb, 0, none⟩) n n)
 c2 : W.cell? ⟨wb, 2, none⟩ = some (.slice (some ⟨mb, 0, none⟩) n n)
 c3 : W.cell? ⟨wb, 3, none⟩ = some (.int .i64 (st.2 : Int))
 p : ∀ i, i < n → W.cell? ⟨pb, i, none⟩ = some (.bool (ps i))
 m : ∀ i, i < n → W.cell? ⟨mb, i, none⟩ = some (.bool (st.1 i))
 fw : ∀ o, W.frozen? ⟨wb, o, none⟩ = false
 fp : ∀ o, W.frozen? ⟨pb, o, none⟩ = false
 fm : ∀ o, W.frozen? ⟨mb, o, none⟩ = false
 wp : wb ≠ pb
 wm : wb ≠ mb
 pm : pb ≠ mb
 lw : wb < W.heap.size
 lp : pb < W.heap.size
 lm : mb < W.heap.size
theorem WY.keep {n : Nat} {ag : OAd} {cg wb pb mb : Nat} {ps : Nat → Bool} {st : SB} {W W' : World} (h : WY n ag cg wb pb mb ps st W) (hb : Below W.heap.size W W') : WY n ag cg wb pb mb ps st W' :=
 ⟨(hb.cell (p := ⟨wb, 0, none⟩) h.lw).trans h.c0, (hb.cell (p := ⟨wb, 1, none⟩) h.lw).trans h.c1, (hb.cell (p := ⟨wb, 2, none⟩) h.lw).trans h.c2, (hb.cell (p := ⟨wb, 3, none⟩) h.lw).trans h.c3, fun i hi => (hb.cell (p := ⟨pb, i, none⟩) h.lp).trans (h.p i hi), fun i hi => (hb.cell (p := ⟨mb, i, none⟩) h.lm).trans (h.m i hi), fun o => (hb.frozen (p := ⟨wb, o, none⟩) h.lw).trans (h.fw o), fun o => (hb.frozen (p := ⟨pb, o, none⟩) h.lp).trans (h.fp o), fun o => (hb.frozen (p := ⟨mb, o, none⟩) h.lm).trans (h.fm o), h.wp, h.wm, h.pm, Nat.lt_of_lt_of_le h.lw hb.size, Nat.lt_of_lt_of_le h.lp hb.size, Nat.lt_of_lt_of_le h.lm hb.size⟩
theorem cell_set {W : World} {b o b' o' : Nat} (v : Value) (h : b ≠ b' ∨ o ≠ o') : (W.setCell ⟨b', o', none⟩ v).cell? ⟨b, o, none⟩ = W.cell? ⟨b, o, none⟩ :=
 World.cell?_setCell_other _ _ _ _ (by intro e; injection e with e1 e2; rcases h with q | q; exact q e1.symm; exact q e2.symm)
theorem WY.part {n : Nat} {ag : OAd} {cg wb pb mb : Nat} {ps : Nat → Bool} {st : SB} {W : World} (h : WY n ag cg wb pb mb ps st W) {z : Int} (hz : z = (st.2 + 1 : Nat)) : WY n ag cg wb pb mb ps (st.1, st.2 + 1) (W.setCell ⟨wb, 3, none⟩ (.int .i64 z)) := by
 subst hz;exact ⟨(cell_set _ (.inr (by omega))).trans h.c0, (cell_set _ (.inr (by omega))).trans h.c1, (cell_set _ (.inr (by omega))).trans h.c2, World.cell?_setCell_same _ _ _ h.c3, fun i hi => (cell_set _ (.inl h.wp.symm)).trans (h.p i hi), fun i hi => (cell_set _ (.inl h.wm.symm)).trans (h.m i hi), fun o => (World.frozen?_setCell _ _ _ _).trans (h.fw o), fun o => (World.frozen?_setCell _ _ _ _).trans (h.fp o), fun o => (World.frozen?_setCell _ _ _ _).trans (h.fm o), h.wp, h.wm, h.pm, by simpa using h.lw, by simpa using h.lp, by simpa using h.lm⟩
theorem WY.pass {n : Nat} {ag : OAd} {cg wb pb mb : Nat} {ps : Nat → Bool} {st : SB} {W : World} (h : WY n ag cg wb pb mb ps st W) {i : Nat} (hi : i < n) (b : Bool) : WY n ag cg wb pb mb (upB ps i b) st (W.setCell ⟨pb, i, none⟩ (.bool b)) := by
 refine ⟨(cell_set _ (.inl h.wp)).trans h.c0, (cell_set _ (.inl h.wp)).trans h.c1, (cell_set _ (.inl h.wp)).trans h.c2, (cell_set _ (.inl h.wp)).trans h.c3, fun j hj => ?_, fun i hi => (cell_set _ (.inl h.pm.symm)).trans (h.m i hi), fun o => (World.frozen?_setCell _ _ _ _).trans (h.fw o), fun o => (World.frozen?_setCell _ _ _ _).trans (h.fp o), fun o => (World.frozen?_setCell _ _ _ _).trans (h.fm o), h.wp, h.wm, h.pm, by simpa using h.lw, by simpa using h.lp, by simpa using h.lm⟩
 by_cases e : j = i
 ·rw [e, upB_same]; exact World.cell?_setCell_same _ _ _ (h.p i hi)
 ·rw [upB_other _ _ _ e]; exact (cell_set _ (.inr e)).trans (h.p j hj)
theorem WY.meet {n : Nat} {ag : OAd} {cg wb pb mb : Nat} {ps : Nat → Bool} {st : SB} {W : World} (h : WY n ag cg wb pb mb ps st W) {i : Nat} (hi : i < n) (b : Bool) : WY n ag cg wb pb mb ps (upB st.1 i b, st.2) (W.setCell ⟨mb, i, none⟩ (.bool b)) := by
 refine ⟨(cell_set _ (.inl h.wm)).trans h.c0, (cell_set _ (.inl h.wm)).trans h.c1, (cell_set _ (.inl h.wm)).trans h.c2, (cell_set _ (.inl h.wm)).trans h.c3, fun i hi => (cell_set _ (.inl h.pm)).trans (h.p i hi), fun j hj => ?_, fun o => (World.frozen?_setCell _ _ _ _).trans (h.fw o), fun o => (World.frozen?_setCell _ _ _ _).trans (h.fp o), fun o => (World.frozen?_setCell _ _ _ _).trans (h.fm o), h.wp, h.wm, h.pm, by simpa using h.lw, by simpa using h.lp, by simpa using h.lm⟩
 by_cases e : j = i
 ·rw [e]; show _ = some (Value.bool (upB st.1 i b i)); rw [upB_same]; exact World.cell?_setCell_same _ _ _ (h.m i hi)
 ·show _ = some (Value.bool (upB st.1 i b j)); rw [upB_other _ _ _ e]; exact (cell_set _ (.inr e)).trans (h.m j hj)
structure But3 (wb pb mb : Nat) (w W : World) : Prop where
 os : W.os = w.os
 tape : W.tape = w.tape
 output : W.output = w.output
 size : w.heap.size ≤ W.heap.size
 block : ∀ b, b < w.heap.size → b ≠ wb → b ≠ pb → b ≠ mb → W.heap[b]? = w.heap[b]?
theorem But3.refl (wb pb mb : Nat) (w : World) : But3 wb pb mb w w := ⟨rfl, rfl, rfl, Nat.le_refl _, fun _ _ _ _ _ => rfl⟩
theorem But3.trans {wb pb mb : Nat} {w W V : World} (h : But3 wb pb mb w W) (h2 : But3 wb pb mb W V) : But3 wb pb mb w V :=
 ⟨h2.os.trans h.os, h2.tape.trans h.tape, h2.output.trans h.output, Nat.le_trans h.size h2.size, fun b hb h1 h3 h4 => (h2.block b (Nat.lt_of_lt_of_le hb h.size) h1 h3 h4).trans (h.block b hb h1 h3 h4)⟩
theorem But3.below {wb pb mb : Nat} {w W : World} (h : Below w.heap.size w W) : But3 wb pb mb w W := ⟨h.os, h.tape, h.output, h.size, fun b hb _ _ _ => h.block b hb⟩
theorem But3.set {wb pb mb : Nat} {w W : World} (h : But3 wb pb mb w W) {b o : Nat} (hb : b = wb ∨ b = pb ∨ b = mb ∨ w.heap.size ≤ b) (v : Value) : But3 wb pb mb w (W.setCell ⟨b, o, none⟩ v) :=
 ⟨h.os, h.tape, h.output, by simpa using h.size, fun c hc h1 h2 h3 => by
  rw [Below.heap_setCell _ _ _ c (fun e => by have e : c = b := e; omega)]
  exact h.block c hc h1 h2 h3⟩
def BKPost (g : List Nd) (f : Nat) (ag : OAd) (cg wb pb mb : Nat) (ps : Nat → Bool) (i : Nat) (st : SB) (w : World) (e : Ending) (W : World) : Prop :=
 (∃ al cl ak ck d, e = .returned (tyVal (bkT g f ps i st).1 al cl ak ck) ∧ TyBd (bkT g f ps i st).1 cl ck ∧ LP W (fun b => w.heap.size ≤ b ∧ b < W.heap.size) (bkT g f ps i st).1.labels al ∧ KP W (fun b => w.heap.size ≤ b ∧ b < W.heap.size) d (bkT g f ps i st).1.kids ak) ∧ WY g.length ag cg wb pb mb ps (bkT g f ps i st).2 W ∧ But3 wb pb mb w W
end Go.Proofs.YtpamhimmdoimoaaGreatDoor
namespace Go.Proofs.YtpamhimmdoimoaaGreatDoor
open Go.RowKit Go.Shelf
structure RBX (W : World) (b : Nat) : Prop where
 c0 : W.cell? ⟨b, 0, none⟩ = some (.int .i64 0)
 c1 : W.cell? ⟨b, 1, none⟩ = some (.int .i64 0)
 c2 : W.cell? ⟨b, 2, none⟩ = some (.string ⟨#[]⟩)
 c3 : W.cell? ⟨b, 3, none⟩ = some (.slice none 0 0)
 c4 : W.cell? ⟨b, 4, none⟩ = some (.slice none 0 0)
 f : ∀ o, W.frozen? ⟨b, o, none⟩ = false
 lt : b < W.heap.size
theorem RBX.new (w : World) : RBX (w.alloc (.cells #[.int .i64 0, .int .i64 0, .string ⟨#[]⟩, .slice none 0 0, .slice none 0 0] 25)) w.heap.size :=
 ⟨by go_cell, by go_cell, by go_cell, by go_cell, by go_cell, fun o => by go_simp, by simp⟩
theorem RBX.set {W : World} {b : Nat} (h : RBX W b) {b' o' : Nat} (hn : b ≠ b') (v : Value) : RBX (W.setCell ⟨b', o', none⟩ v) b :=
 ⟨(cell_set _ (.inl hn)).trans h.c0, (cell_set _ (.inl hn)).trans h.c1, (cell_set _ (.inl hn)).trans h.c2, (cell_set _ (.inl hn)).trans h.c3, (cell_set _ (.inl hn)).trans h.c4, fun o => (World.frozen?_setCell _ _ _ _).trans (h.f o), by simpa using h.lt⟩
theorem WY.st {n : Nat} {ag : OAd} {cg wb pb mb : Nat} {ps : Nat → Bool} {st : SB} {W : World} (h : WY n ag cg wb pb mb ps st W) {b : Nat} (h1 : wb ≠ b) (h2 : pb ≠ b) (h3 : mb ≠ b) (v0 v1 v2 v3 v4 : Value) : WY n ag cg wb pb mb ps st (st5 W b 0 v0 v1 v2 v3 v4) :=
 ⟨(st5_other _ _ _ _ _ _ _ _ _ _ (.inl h1)).trans h.c0, (st5_other _ _ _ _ _ _ _ _ _ _ (.inl h1)).trans h.c1, (st5_other _ _ _ _ _ _ _ _ _ _ (.inl h1)).trans h.c2, (st5_other _ _ _ _ _ _ _ _ _ _ (.inl h1)).trans h.c3, fun i hi => (st5_other _ _ _ _ _ _ _ _ _ _ (.inl h2)).trans (h.p i hi), fun i hi => (st5_other _ _ _ _ _ _ _ _ _ _ (.inl h3)).trans (h.m i hi), fun o => (st5_frozen _ _ _ _ _ _ _ _ _).trans (h.fw o), fun o => (st5_frozen _ _ _ _ _ _ _ _ _).trans (h.fp o), fun o => (st5_frozen _ _ _ _ _ _ _ _ _).trans (h.fm o), h.wp, h.wm, h.pm, by rw [st5_size]; exact h.lw, by rw [st5_size]; exact h.lp, by rw [st5_size]; exact h.lm⟩
theorem But3.st {wb pb mb : Nat} {w W : World} (h : But3 wb pb mb w W) {b : Nat} (hb : w.heap.size ≤ b) (v0 v1 v2 v3 v4 : Value) : But3 wb pb mb w (st5 W b 0 v0 v1 v2 v3 v4) := by
 unfold st5;exact ((((h.set (.inr (.inr (.inr hb))) _).set (.inr (.inr (.inr hb))) _).set (.inr (.inr (.inr hb))) _).set (.inr (.inr (.inr hb))) _).set (.inr (.inr (.inr hb))) _
set_option maxRecDepth 100000 in
set_option maxHeartbeats 4000000 in
theorem typeFrom_over (g : List Nd) (f : Nat) (ag : OAd) (cg wb pb mb : Nat) (ps : Nat → Bool) (i : Nat) (met : Nat → Bool) (q : Nat) (w : World) (h60 : 60 < q + 1) (hq : q ≤ 100000) (hW : WY g.length ag cg wb pb mb ps (met, q) w) :
  Calls Tryz.prog 33 #[.pointer (some ⟨wb, 0, none⟩), .int .i64 (i : Int)] w (BKPost g (f + 1) ag cg wb pb mb ps i (met, q) w) := by
 have hbk : bkT g (f + 1) ps i (met, q) = (zT, (met, q + 1)) := by rw [bkT, if_pos h60]
 unfold BKPost;rw [hbk];have hlt := hW.lw;have hlp := hW.lp;have hlm := hW.lm;have W1 := hideK (hW.keep ((Below.refl _ _).alloc (Nat.le_refl _) (.cells #[.int .i64 0, .int .i64 0, .string ⟨#[]⟩, .slice none 0 0, .slice none 0 0] 25)));have c3 := W1.out.c3;have f3 := W1.out.fw 3;have hs' : (w.setCell ⟨wb, 3, none⟩ (.int .i64 ((q : Int) + 1))).heap.size = w.heap.size := by simp
 have HF := hideK ((hW.part (z := (q : Int) + 1) (by omega)).keep ((Below.refl _ _).alloc (Nat.le_refl _) (.cells #[.int .i64 0, .int .i64 0, .string ⟨#[]⟩, .slice none 0 0, .slice none 0 0] 25)))
 have HR := hideK (show RBX _ w.heap.size from hs' ▸ RBX.new (w.setCell ⟨wb, 3, none⟩ (.int .i64 ((q : Int) + 1))))
 have HB := hideK (((But3.refl wb pb mb w).set (b := wb) (o := 3) (.inl rfl) (.int .i64 ((q : Int) + 1))).trans (But3.below ((Below.refl _ _).alloc (Nat.le_refl _) (.cells #[.int .i64 0, .int .i64 0, .string ⟨#[]⟩, .slice none 0 0, .slice none 0 0] 25))));have hz : (60 : Int) < (q : Int) + 1 := by omega
 have hz2 : (q : Int) ≤ 100000 := by omega
 have c3' : ((w.setCell ⟨wb, 3, none⟩ (.int .i64 ((q : Int) + 1))).alloc (.cells #[.int .i64 0, .int .i64 0, .string ⟨#[]⟩, .slice none 0 0, .slice none 0 0] 25)).cell? ⟨wb, 3, none⟩ = some (.int .i64 ((q : Int) + 1)) := HF.out.c3;clear hW hbk;simp only [tyVal, zT, List.length_nil];go_enter Tryz.func33, Tryz.ntmps33
 go_upto_region 2 with fail
 generalize ((w.setCell ⟨wb, 3, none⟩ (.int .i64 ((q : Int) + 1))).alloc (.cells #[.int .i64 0, .int .i64 0, .string ⟨#[]⟩, .slice none 0 0, .slice none 0 0] 25)) = W2 at *;clear c3 f3 W1;obtain ⟨z0, z1, z2, z3, z4, zf, _⟩ := HR.out;have f0 := zf 0;have f1 := zf 1;have f2 := zf 2;have f3 := zf 3;have f4 := zf 4;clear zf;have HF2 := hideK (HF.out.st (b := w.heap.size) (by omega) (by omega) (by omega) (.int .i64 0) (.int .i64 0) (.string ⟨#[]⟩) (.slice none 0 0) (.slice none 0 0))
 have HB2 := hideK (HB.out.st (b := w.heap.size) (Nat.le_refl _) (.int .i64 0) (.int .i64 0) (.string ⟨#[]⟩) (.slice none 0 0) (.slice none 0 0));have HTA := hideK (show TyAt (st5 W2 w.heap.size 0 (.int .i64 0) (.int .i64 0) (.string ⟨#[]⟩) (.slice none 0 0) (.slice none 0 0)) w.heap.size 0 zT none 0 none 0 from st5_at W2 _ 0 zT none 0 none 0 (fun j hj => by
  rw [Nat.zero_add];have : j = 0 ∨ j = 1 ∨ j = 2 ∨ j = 3 ∨ j = 4 := by omega
  rcases this with rfl | rfl | rfl | rfl | rfl
  ·exact ⟨_, z0⟩
  ·exact ⟨_, z1⟩
  ·exact ⟨_, z2⟩
  ·exact ⟨_, z3⟩
  ·exact ⟨_, z4⟩))
 go_wp2_with fail
 change bodyPost _ _ _ _ _ (st5 W2 w.heap.size 0 (.int .i64 0) (.int .i64 0) (.string ⟨#[]⟩) (.slice none 0 0) (.slice none 0 0))
 generalize st5 W2 w.heap.size 0 (.int .i64 0) (.int .i64 0) (.string ⟨#[]⟩) (.slice none 0 0) (.slice none 0 0) = W9 at *;obtain ⟨r0, r1, r2, r3, r4⟩ := HTA.out;simp only [Nat.zero_add, zT, List.length_nil] at r0 r1 r2 r3 r4;refine bodyPost_ret (v := .agg #[.int .i64 0, .int .i64 0, .string ⟨#[]⟩, .slice none 0 0, .slice none 0 0]) (by simp [results, Tryz.results33, go_sem, r0, r1, r2, r3, r4]) rfl ?_
 exact ⟨⟨none, 0, none, 0, rfl, ⟨by decide, (fun l hl => by cases hl), Nat.le_refl _, by decide, Nat.le_refl _, by decide⟩, .inl rfl, 0, rfl⟩, HF2.out, HB2.out⟩
end Go.Proofs.YtpamhimmdoimoaaGreatDoor
namespace Go.Proofs.YtpamhimmdoimoaaGreatDoor
open Go.RowKit Go.Shelf
theorem RBX.keep {W W' : World} {b : Nat} (h : RBX W b) (hb : Below W.heap.size W W') : RBX W' b :=
 ⟨(hb.cell (p := ⟨b, 0, none⟩) h.lt).trans h.c0, (hb.cell (p := ⟨b, 1, none⟩) h.lt).trans h.c1, (hb.cell (p := ⟨b, 2, none⟩) h.lt).trans h.c2, (hb.cell (p := ⟨b, 3, none⟩) h.lt).trans h.c3, (hb.cell (p := ⟨b, 4, none⟩) h.lt).trans h.c4, fun o => (hb.frozen (p := ⟨b, o, none⟩) h.lt).trans (h.f o), Nat.lt_of_lt_of_le h.lt hb.size⟩
theorem nmN_size (i : Nat) : (nmN i).size ≤ 9223372036854775807 := by
 unfold nmN;split
 ·show (1 : Nat) ≤ _; omega
 ·show (2 : Nat) ≤ _; omega
set_option maxRecDepth 100000 in
set_option maxHeartbeats 4000000 in
theorem typeFrom_var (g : List Nd) (f : Nat) (ag : OAd) (cg wb pb mb : Nat) (ps : Nat → Bool) (i : Nat) (met : Nat → Bool) (q : Nat) (w : World) (h60 : ¬ 60 < q + 1) (hi : i < g.length) (hg : g.length ≤ 200) (hps : ps i = true) (hW : WY g.length ag cg wb pb mb ps (met, q) w) :
  Calls Tryz.prog 33 #[.pointer (some ⟨wb, 0, none⟩), .int .i64 (i : Int)] w (BKPost g (f + 1) ag cg wb pb mb ps i (met, q) w) := by
 have hbk : bkT g (f + 1) ps i (met, q) = (varT (nmN i), (upB met i true, q + 1)) := by rw [bkT, if_neg h60, if_pos hps]
 unfold BKPost;rw [hbk];have hlt := hW.lw;have hlp := hW.lp;have hlm := hW.lm;have W1 := hideK (hW.keep ((Below.refl _ _).alloc (Nat.le_refl _) (.cells #[.int .i64 0, .int .i64 0, .string ⟨#[]⟩, .slice none 0 0, .slice none 0 0] 25)));have c3 := W1.out.c3;have f3 := W1.out.fw 3;have hs' : (w.setCell ⟨wb, 3, none⟩ (.int .i64 ((q : Int) + 1))).heap.size = w.heap.size := by simp
 have HF := hideK ((hW.part (z := (q : Int) + 1) (by omega)).keep ((Below.refl _ _).alloc (Nat.le_refl _) (.cells #[.int .i64 0, .int .i64 0, .string ⟨#[]⟩, .slice none 0 0, .slice none 0 0] 25)))
 have HR := hideK (show RBX _ w.heap.size from hs' ▸ RBX.new (w.setCell ⟨wb, 3, none⟩ (.int .i64 ((q : Int) + 1))))
 have HB := hideK (((But3.refl wb pb mb w).set (b := wb) (o := 3) (.inl rfl) (.int .i64 ((q : Int) + 1))).trans (But3.below ((Below.refl _ _).alloc (Nat.le_refl _) (.cells #[.int .i64 0, .int .i64 0, .string ⟨#[]⟩, .slice none 0 0, .slice none 0 0] 25))));have hz : ¬ (60 : Int) < (q : Int) + 1 := by omega
 have hz2 : (q : Int) ≤ 100000 := by omega
 have hi0 : (0 : Int) ≤ (i : Int) := by omega
 have hin : (i : Int) < (g.length : Int) := by omega
 have HC := hideK (fun W => nodeName_any i (by omega) W)
 have c3' : ((w.setCell ⟨wb, 3, none⟩ (.int .i64 ((q : Int) + 1))).alloc (.cells #[.int .i64 0, .int .i64 0, .string ⟨#[]⟩, .slice none 0 0, .slice none 0 0] 25)).cell? ⟨wb, 3, none⟩ = some (.int .i64 ((q : Int) + 1)) := HF.out.c3;clear hW hbk;simp only [tyVal, varT, List.length_nil];go_enter Tryz.func33, Tryz.ntmps33
 go_upto_region 2 with fail
 generalize ((w.setCell ⟨wb, 3, none⟩ (.int .i64 ((q : Int) + 1))).alloc (.cells #[.int .i64 0, .int .i64 0, .string ⟨#[]⟩, .slice none 0 0, .slice none 0 0] 25)) = W2 at *;clear c3 f3 W1;have p1 := HF.out.c1;have p2 := HF.out.p i hi;rw [hps] at p2;have m1 := HF.out.c2;have m2 := HF.out.m i hi;have m3 := HF.out.fm i;have HF3 := hideK (HF.out.meet hi true);have HB3 := hideK (HB.out.set (b := mb) (o := i) (.inr (.inr (.inl rfl))) (.bool true));have HR3 := hideK (HR.out.set (b' := mb) (o' := i) (by omega) (.bool true))
 go_upto_region 6 with fail
 generalize W2.setCell ⟨mb, i, none⟩ (.bool true) = W3 at *;clear p1 p2 m1 m2 m3 HF HB HR c3';go_wp2_with fail
 refine (HC.out _).mono ?_;rintro e w4 ⟨rfl, hb4⟩;have HF4 := hideK (HF3.out.keep hb4);have HB4 := hideK (HB3.out.trans (But3.below hb4));obtain ⟨z0, z1, z2, z3, z4, zf, _⟩ := HR3.out.keep hb4;have f0 := zf 0;have f1 := zf 1;have f2 := zf 2;have f3 := zf 3;have f4 := zf 4;clear zf hb4 HF3 HB3 HR3 HC;have HF5 := hideK (HF4.out.st (b := w.heap.size) (by omega) (by omega) (by omega) (.int .i64 9) (.int .i64 0) (.string (nmN i)) (.slice none 0 0) (.slice none 0 0))
 have HB5 := hideK (HB4.out.st (b := w.heap.size) (Nat.le_refl _) (.int .i64 9) (.int .i64 0) (.string (nmN i)) (.slice none 0 0) (.slice none 0 0));have HTA := hideK (show TyAt (st5 w4 w.heap.size 0 (.int .i64 9) (.int .i64 0) (.string (nmN i)) (.slice none 0 0) (.slice none 0 0)) w.heap.size 0 (varT (nmN i)) none 0 none 0 from st5_at w4 _ 0 (varT (nmN i)) none 0 none 0 (fun j hj => by
  rw [Nat.zero_add];have : j = 0 ∨ j = 1 ∨ j = 2 ∨ j = 3 ∨ j = 4 := by omega
  rcases this with rfl | rfl | rfl | rfl | rfl
  ·exact ⟨_, z0⟩
  ·exact ⟨_, z1⟩
  ·exact ⟨_, z2⟩
  ·exact ⟨_, z3⟩
  ·exact ⟨_, z4⟩))
 have HSZ := hideK (nmN_size i);go_wp2_with fail
 change bodyPost _ _ _ _ _ (st5 w4 w.heap.size 0 (.int .i64 9) (.int .i64 0) (.string (nmN i)) (.slice none 0 0) (.slice none 0 0))
 generalize st5 w4 w.heap.size 0 (.int .i64 9) (.int .i64 0) (.string (nmN i)) (.slice none 0 0) (.slice none 0 0) = W9 at *;obtain ⟨r0, r1, r2, r3, r4⟩ := HTA.out;simp only [Nat.zero_add, varT, List.length_nil] at r0 r1 r2 r3 r4;refine bodyPost_ret (v := .agg #[.int .i64 9, .int .i64 0, .string (nmN i), .slice none 0 0, .slice none 0 0]) (by simp [results, Tryz.results33, go_sem, r0, r1, r2, r3, r4]) rfl ?_
 exact ⟨⟨none, 0, none, 0, 0, rfl, ⟨HSZ.out, (fun l hl => by cases hl), Nat.le_refl _, by decide, Nat.le_refl _, by decide⟩, .inl rfl, rfl⟩, HF5.out, HB5.out⟩
end Go.Proofs.YtpamhimmdoimoaaGreatDoor
