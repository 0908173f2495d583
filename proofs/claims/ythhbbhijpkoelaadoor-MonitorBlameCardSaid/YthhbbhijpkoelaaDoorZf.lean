/-
  The contract of duetkeep.put: a type in the place of a name.
-/
import Derived.Test.YthhbbhijpkoelaaDoorVk
import Derived.Test.YthhbbhijpkoelaaDoorProg
import Derived.Deep.RegionHeld
namespace Go.Proofs.YthhbbhijpkoelaaDoor
open Go.RowKit Go.Shelf

/-- names in blocks of which P holds -/
def LP (W : World) (P : Nat → Prop) (ls : List ByteArray) (al : Option Addr) : Prop :=
  ls = [] ∨ ∃ b o, al = some ⟨b, o, none⟩ ∧ P b ∧ ∀ i (h : i < ls.length), W.cell? ⟨b, o + i, none⟩ = some (.string ls[i])
/-- types, of so many levels at most, in blocks of which P holds -/
def KP (W : World) (P : Nat → Prop) : Nat → List Ty → Option Addr → Prop
  | 0, ks, _ => ks = []
  | d + 1, ks, ak => ks = [] ∨ ∃ b o, ak = some ⟨b, o, none⟩ ∧ P b ∧ ∀ i (h : i < ks.length), ∃ al cl ak' ck', TyAt W b (o + i * 5) ks[i] al cl ak' ck' ∧ TyBd ks[i] cl ck' ∧ LP W P ks[i].labels al ∧ KP W P d ks[i].kids ak'
theorem LP.keep {W W' : World} {P Q : Nat → Prop} (hb : ∀ b o, P b → W'.cell? ⟨b, o, none⟩ = W.cell? ⟨b, o, none⟩) (hq : ∀ b, P b → Q b) {ls : List ByteArray} {al : Option Addr} (h : LP W P ls al) : LP W' Q ls al :=
  h.imp id fun ⟨b, o, e, hp, hc⟩ => ⟨b, o, e, hq b hp, fun i hi => (hb b _ hp).trans (hc i hi)⟩
theorem KP.keep {W W' : World} {P Q : Nat → Prop} (hb : ∀ b o, P b → W'.cell? ⟨b, o, none⟩ = W.cell? ⟨b, o, none⟩) (hq : ∀ b, P b → Q b) : ∀ {d : Nat} {ks : List Ty} {ak : Option Addr}, KP W P d ks ak → KP W' Q d ks ak
  | 0, _, _, h => h
  | d + 1, ks, ak, h => by
    rcases h with h | ⟨b, o, h1, h2, h3⟩
    · exact .inl h
    · refine .inr ⟨b, o, h1, hq b h2, fun i hi => ?_⟩
      obtain ⟨al, cl, ak', ck', e, f, g, k⟩ := h3 i hi
      exact ⟨al, cl, ak', ck', ⟨(hb b _ h2).trans e.c0, (hb b _ h2).trans e.c1, (hb b _ h2).trans e.c2, (hb b _ h2).trans e.c3, (hb b _ h2).trans e.c4⟩, f, LP.keep hb hq g, KP.keep hb hq k⟩
theorem KP.up {W : World} {P : Nat → Prop} : ∀ {d e : Nat} {ks : List Ty} {ak : Option Addr}, d ≤ e → KP W P d ks ak → KP W P e ks ak
  | 0, 0, _, _, _, h => h
  | 0, e + 1, _, _, _, h => .inl h
  | d + 1, 0, _, _, hd, _ => by omega
  | d + 1, e + 1, ks, ak, hd, h => by
    rcases h with h | ⟨b, o, h1, hl, h⟩
    · exact .inl h
    · exact .inr ⟨b, o, h1, hl, fun i hi => by
        obtain ⟨al, cl, ak', ck', h1, h2, h3, h4⟩ := h i hi
        exact ⟨al, cl, ak', ck', h1, h2, h3, KP.up (by omega) h4⟩⟩
theorem LP.la {W : World} {P : Nat → Prop} {B : Nat} (hq : ∀ b, P b → b < B) {ls : List ByteArray} {al : Option Addr} (h : LP W P ls al) : LA W B ls al := by
  rcases h with rfl | ⟨b, o, e, hp, hc⟩
  · exact .inl rfl
  · exact .inr ⟨b, o, e, hq b hp, fun i hi => by rw [List.length_map] at hi; rw [List.getElem_map]; exact hc i hi⟩
theorem KP.kt {W : World} {P : Nat → Prop} {B : Nat} (hq : ∀ b, P b → b < B) : ∀ {d : Nat} {ks : List Ty} {ak : Option Addr}, KP W P d ks ak → KT W B d ks ak
  | 0, _, _, h => h
  | d + 1, ks, ak, h => by
    rcases h with h | ⟨b, o, h1, h2, h3⟩
    · exact .inl h
    · refine .inr ⟨b, o, h1, hq b h2, fun i hi => ?_⟩
      obtain ⟨al, cl, ak', ck', e, f, g, k⟩ := h3 i hi
      exact ⟨al, cl, ak', ck', e, f, g.la hq, KP.kt hq k⟩
theorem lp_of {W : World} {B : Nat} {P : Nat → Prop} (hq : ∀ b, b < B → P b) {ls : List ByteArray} {al : Option Addr} (h : LA W B ls al) : LP W P ls al := by
  rcases h with h | ⟨b, o, e, hl, hc⟩
  · exact .inl (by simpa using h)
  · exact .inr ⟨b, o, e, hq b hl, fun i hi => by have := hc i (by simpa using hi); rw [List.getElem_map] at this; exact this⟩
theorem kp_of {W : World} {B : Nat} {P : Nat → Prop} (hq : ∀ b, b < B → P b) : ∀ {d : Nat} {ks : List Ty} {ak : Option Addr}, KT W B d ks ak → KP W P d ks ak
  | 0, _, _, h => h
  | d + 1, ks, ak, h => by
    rcases h with h | ⟨b, o, h1, h2, h3⟩
    · exact .inl h
    · refine .inr ⟨b, o, h1, hq b h2, fun i hi => ?_⟩
      obtain ⟨al, cl, ak', ck', e, f, g, k⟩ := h3 i hi
      exact ⟨al, cl, ak', ck', e, f, lp_of hq g, kp_of hq k⟩
/-- types as they lie in a row -/
abbrev TTk := Ty × (Option Addr × Nat) × (Option Addr × Nat)
def tC (t : TTk) : List Value := [.int .i64 t.1.kind, .int .i64 t.1.so, .string t.1.name, .slice t.2.1.1 t.1.labels.length t.2.1.2, .slice t.2.2.1 t.1.kids.length t.2.2.2]
def tCs (ts : List TTk) : List Value := ts.flatMap tC
theorem tCs_snoc (ts : List TTk) (x : TTk) : tCs (ts ++ [x]) = tCs ts ++ tC x := by simp [tCs]
theorem tC_one (t : TTk) : ∀ y ∈ tC t, y.oneCell' = true := by
  intro y hy
  simp only [tC, List.mem_cons, List.not_mem_nil, or_false] at hy
  rcases hy with rfl | rfl | rfl | rfl | rfl <;> rfl
theorem tCs_at : ∀ (ss : List TTk) (i : Nat) (h : i < ss.length) (j : Nat), j < 5 → (tCs ss)[i * 5 + j]? = (tC ss[i])[j]?
  | [], i, h, _, _ => by simp at h
  | s :: ss, 0, _, j, hj => by
    have e : tCs (s :: ss) = tC s ++ tCs ss := rfl
    rw [e, List.getElem?_append_left (by simp [tC]; omega)]
    simp
  | s :: ss, i + 1, h, j, hj => by
    have e : tCs (s :: ss) = tC s ++ tCs ss := rfl
    have hl : (tC s).length = 5 := rfl
    rw [e, List.getElem?_append_right (by rw [hl]; omega), hl, show (i + 1) * 5 + j - 5 = i * 5 + j by omega]
    exact tCs_at ss i (by simpa using h) j hj
def TOK (W : World) (P : Nat → Prop) (ts : List TTk) : Prop := ∀ q ∈ ts, TyBd q.1 q.2.1.2 q.2.2.2 ∧ LP W P q.1.labels q.2.1.1 ∧ ∃ d, KP W P d q.1.kids q.2.2.1
theorem TOK.keep {W W' : World} {P Q : Nat → Prop} {ts : List TTk} (h : TOK W P ts) (hb : ∀ b o, P b → W'.cell? ⟨b, o, none⟩ = W.cell? ⟨b, o, none⟩) (hq : ∀ b, P b → Q b) : TOK W' Q ts :=
  fun q hm => ⟨(h q hm).1, (h q hm).2.1.keep hb hq, by obtain ⟨d, hd⟩ := (h q hm).2.2; exact ⟨d, hd.keep hb hq⟩⟩
theorem tok_depth {W : World} {P : Nat → Prop} : ∀ {ts : List TTk}, TOK W P ts → ∃ D, ∀ q ∈ ts, KP W P D q.1.kids q.2.2.1
  | [], _ => ⟨0, fun q hq => by cases hq⟩
  | x :: ts, h => by
    obtain ⟨D, hD⟩ := tok_depth (ts := ts) fun q hq => h q (.tail _ hq)
    obtain ⟨d, hd⟩ := (h x (.head _)).2.2
    exact ⟨D + d, fun q hq => by
      rcases List.mem_cons.1 hq with rfl | hq
      · exact hd.up (by omega)
      · exact (hD q hq).up (by omega)⟩
theorem kp_row {W : World} {base n : Nat} {v : Value} {ts : List TTk} {P : Nat → Prop} (ho : W.ownsRow base 25 5 v n (tCs ts)) (hn : ts.length = n) (ht : TOK W P ts) (hv : ∀ b, v.ownBlock = some b → P b) : ∃ ak ck d, v = .slice ak n ck ∧ n ≤ ck ∧ ck ≤ 9223372036854775807 ∧ KP W P d (ts.map fun q => q.1) ak := by
  obtain ⟨D, hD⟩ := tok_depth ht
  rcases ho.2 with ⟨rfl, h0⟩ | ⟨g, cap, cur, rfl, _, hc, h1, h2, _, _⟩
  · have : ts = [] := List.eq_nil_of_length_eq_zero (by omega)
    subst this
    exact ⟨none, 0, 0, by rw [h0], by omega, by omega, rfl⟩
  · unfold maxLen at h2
    obtain ⟨g', c', e, _, _, hcell⟩ := (own_cells ho).resolve_left (fun q => by cases q.1)
    injection e with e1 _ e3
    injection e1 with e1
    injection e1 with e1
    subst e1 e3
    refine ⟨_, cap, D + 1, rfl, h1, by omega, .inr ⟨g, 0, rfl, hv g rfl, fun i hi => ?_⟩⟩
    have hi' : i < ts.length := by simpa using hi
    have ge : (ts.map fun q => q.1)[i] = ts[i].1 := by simp
    rw [ge]
    have hm := List.getElem_mem hi'
    have hcl : ∀ j y, j < 5 → (tC ts[i])[j]? = some y → W.cell? ⟨g, 0 + i * 5 + j, none⟩ = some y := fun j y hj hy => by
      rw [Nat.zero_add]
      exact hcell _ _ ((tCs_at ts i hi' j hj).trans hy)
    exact ⟨ts[i].2.1.1, ts[i].2.1.2, ts[i].2.2.1, ts[i].2.2.2, ⟨hcl 0 _ (by omega) rfl, hcl 1 _ (by omega) rfl, hcl 2 _ (by omega) rfl, hcl 3 _ (by omega) rfl, hcl 4 _ (by omega) rfl⟩, (ht _ hm).1, (ht _ hm).2.1, hD _ hm⟩
theorem infoTy : (Tryd.prog.info? 25).map (fun i => (i.zero, i.size, i.bytes)) = some (some (.agg #[.int .i64 0, .int .i64 0, .string ⟨#[]⟩, .slice none 0 0, .slice none 0 0]), 5, 80) := by kernel_rfl
/-- the boxes of put: both types, the result, and what is made -/
structure PX (w : World) (t : Ty) (al : Option Addr) (cl : Nat) (ak : Option Addr) (ck : Nat) (s : Ty) (sal : Option Addr) (scl : Nat) (sak : Option Addr) (sck : Nat) (bo : Nat) (u : Value) (W : World) : Prop where
  x : TyAt W w.heap.size 0 t al cl ak ck
  y : TyAt W (w.heap.size + 1) 0 s sal scl sak sck
  z : ∀ j, j < 5 → (∃ v, W.cell? ⟨w.heap.size + 1 + 1, j, none⟩ = some v) ∧ W.frozen? ⟨w.heap.size + 1 + 1, j, none⟩ = false
  o0 : W.cell? ⟨bo, 0, none⟩ = some (.int .i64 t.kind)
  o1 : W.cell? ⟨bo, 1, none⟩ = some (.int .i64 t.so)
  o2 : W.cell? ⟨bo, 2, none⟩ = some (.string t.name)
  o3 : W.cell? ⟨bo, 3, none⟩ = some (.slice al t.labels.length cl)
  o4 : W.cell? ⟨bo, 4, none⟩ = some u
  fo : W.frozen? ⟨bo, 4, none⟩ = false
  lo : w.heap.size + 1 + 1 < bo
  lt : bo < W.heap.size
  bl : Below w.heap.size w W
theorem PX.keep {w : World} {t : Ty} {al : Option Addr} {cl : Nat} {ak : Option Addr} {ck : Nat} {s : Ty} {sal : Option Addr} {scl : Nat} {sak : Option Addr} {sck : Nat} {bo : Nat} {u : Value} {W W' : World} (h : PX w t al cl ak ck s sal scl sak sck bo u W) (hb : Below W.heap.size W W') : PX w t al cl ak ck s sal scl sak sck bo u W' := by
  have h1 := h.lo
  have h2 := h.lt
  have hc : ∀ b o, b ≤ bo → W'.cell? ⟨b, o, none⟩ = W.cell? ⟨b, o, none⟩ := fun b o hb' => hb.cell (p := ⟨b, o, none⟩) (by show b < _; omega)
  have hf : ∀ b o, b ≤ bo → W'.frozen? ⟨b, o, none⟩ = W.frozen? ⟨b, o, none⟩ := fun b o hb' => hb.frozen (p := ⟨b, o, none⟩) (by show b < _; omega)
  exact ⟨h.x.keep hb (by omega), h.y.keep hb (by omega), fun j hj => ⟨by obtain ⟨v, hv⟩ := (h.z j hj).1; exact ⟨v, (hc _ _ (by omega)).trans hv⟩, (hf _ _ (by omega)).trans (h.z j hj).2⟩, (hc _ _ (by omega)).trans h.o0, (hc _ _ (by omega)).trans h.o1, (hc _ _ (by omega)).trans h.o2, (hc _ _ (by omega)).trans h.o3, (hc _ _ (by omega)).trans h.o4, (hf _ _ (by omega)).trans h.fo, h1, Nat.lt_of_lt_of_le h2 hb.size, h.bl.trans (hb.mono h.bl.size)⟩
theorem PX.put {w : World} {t : Ty} {al : Option Addr} {cl : Nat} {ak : Option Addr} {ck : Nat} {s : Ty} {sal : Option Addr} {scl : Nat} {sak : Option Addr} {sck : Nat} {bo : Nat} {u v : Value} {W W' : World} (h : PX w t al cl ak ck s sal scl sak sck bo u W) (hg : W.grownBy W' u.ownBlock) (hu : ∀ b, u.ownBlock = some b → bo < b) : PX w t al cl ak ck s sal scl sak sck bo v (W'.setCell ⟨bo, 4, none⟩ v) := by
  have h1 := h.lo
  have h2 := h.lt
  have hk : ∀ b, b ≤ bo → W'.heap[b]? = W.heap[b]? := fun b hb => hg.block b (by omega) (fun e => by have := hu b e.symm; omega)
  have hc : ∀ b o, b ≤ bo → W'.cell? ⟨b, o, none⟩ = W.cell? ⟨b, o, none⟩ := fun b o hb => World.cell?_of_block (a := ⟨b, o, none⟩) (hk b hb)
  have hf : ∀ b o, b ≤ bo → (W'.setCell ⟨bo, 4, none⟩ v).frozen? ⟨b, o, none⟩ = W.frozen? ⟨b, o, none⟩ := fun b o hb => (World.frozen?_setCell _ _ _ _).trans (World.frozen?_of_block (a := ⟨b, o, none⟩) (hk b hb))
  have hs : ∀ b o, b ≤ bo → (b ≠ bo ∨ o ≠ 4) → (W'.setCell ⟨bo, 4, none⟩ v).cell? ⟨b, o, none⟩ = W.cell? ⟨b, o, none⟩ := fun b o hb hn => (World.cell?_setCell_other _ _ _ _ (by intro e; injection e with e1 e2; rcases hn with q | q; exact q e1.symm; exact q e2.symm)).trans (hc b o hb)
  have hsT : ∀ b, b < bo → ∀ {q : Ty} {a1 c1 a2 c2}, TyAt W b 0 q a1 c1 a2 c2 → TyAt (W'.setCell ⟨bo, 4, none⟩ v) b 0 q a1 c1 a2 c2 := fun b hb _ _ _ _ _ e => ⟨(hs b _ (by omega) (.inl (by omega))).trans e.c0, (hs b _ (by omega) (.inl (by omega))).trans e.c1, (hs b _ (by omega) (.inl (by omega))).trans e.c2, (hs b _ (by omega) (.inl (by omega))).trans e.c3, (hs b _ (by omega) (.inl (by omega))).trans e.c4⟩
  have hsz := hg.size
  refine ⟨hsT _ (by omega) h.x, hsT _ (by omega) h.y, fun j hj => ⟨by obtain ⟨v, hv⟩ := (h.z j hj).1; exact ⟨v, (hs _ _ (by omega) (.inl (by omega))).trans hv⟩, (hf _ _ (by omega)).trans (h.z j hj).2⟩, (hs _ _ (by omega) (.inr (by omega))).trans h.o0, (hs _ _ (by omega) (.inr (by omega))).trans h.o1, (hs _ _ (by omega) (.inr (by omega))).trans h.o2, (hs _ _ (by omega) (.inr (by omega))).trans h.o3, World.cell?_setCell_same _ _ _ ((hc _ _ (by omega)).trans h.o4), (hf _ _ (by omega)).trans h.fo, h1, by simp; omega, ?_⟩
  refine ⟨hg.os.trans h.bl.os, hg.tape.trans h.bl.tape, hg.output.trans h.bl.output, by simp; have := h.bl.size; omega, fun b hb => ?_⟩
  rw [Below.heap_setCell _ _ _ b (fun e => by have e : b = bo := e; omega), hk b (by omega)]
  exact h.bl.block b hb
/-- the store of what is handed back -/
theorem px_st {w : World} {t : Ty} {al : Option Addr} {cl : Nat} {ak : Option Addr} {ck : Nat} {s : Ty} {sal : Option Addr} {scl : Nat} {sak : Option Addr} {sck : Nat} {bo : Nat} {u : Value} {W : World} (h : PX w t al cl ak ck s sal scl sak sck bo u W) (q : Ty) (a1 : Option Addr) (c1 : Nat) (a2 : Option Addr) (c2 : Nat) :
    TyAt (st5 W (w.heap.size + 1 + 1) 0 (.int .i64 q.kind) (.int .i64 q.so) (.string q.name) (.slice a1 q.labels.length c1) (.slice a2 q.kids.length c2)) (w.heap.size + 1 + 1) 0 q a1 c1 a2 c2 ∧ Below w.heap.size w (st5 W (w.heap.size + 1 + 1) 0 (.int .i64 q.kind) (.int .i64 q.so) (.string q.name) (.slice a1 q.labels.length c1) (.slice a2 q.kids.length c2)) :=
  ⟨st5_at W _ 0 q a1 c1 a2 c2 (fun j hj => by rw [Nat.zero_add]; exact (h.z j hj).1), st5_below _ 0 _ _ _ _ _ h.bl (by omega)⟩
end Go.Proofs.YthhbbhijpkoelaaDoor
/-
  A region that draws its order and ends with one store: what is read may be read first, though the store changes it; for nothing is left to be read behind the store.
-/
namespace Go.Proofs.YthhbbhijpkoelaaDoor

section
variable {P : Program} {ops : Array Oper} {Q : Exit → Act → World → Prop} {md : Region.Mode} {S : World → Prop} {stop : Nat}

/-- whatever order is drawn: S holds behind each operation but the last one, number 'stop' -/
def wpUpto (P : Program) (md : Region.Mode) (ops : Array Oper) (Q : Exit → Act → World → Prop) (S : World → Prop) (stop : Nat) : Nat → Array Bool → Act → World → Prop
  | 0, done, a, w => Region.ready md ops done = [] ∧ Q .normal a w
  | n + 1, done, a, w => (Region.ready md ops done = [] → Q .normal a w) ∧
    ∀ i ∈ Region.ready md ops done, wpOp P ops Q i (fun a' w' => (i ≠ stop → S w') ∧ wpUpto P md ops Q S stop n (done.setIfInBounds i true) a' w') a w
theorem wpAny_of_upto : ∀ (n : Nat) (done : Array Bool) (a : Act) (w : World), wpUpto P md ops Q S stop n done a w → wpAny P md ops Q n done a w
  | 0, _, _, _, h => h
  | n + 1, _, _, _, h => ⟨h.1, fun i hi => wpOp_mono (fun a' w' h' => wpAny_of_upto n _ a' w' h'.2) (h.2 i hi)⟩
/-- the last one waits for number i -/
def waitsB (md : Region.Mode) (ops : Array Oper) (stop i : Nat) : Bool := match ops[stop]? with
  | some o => o.after.any fun e => Region.binds md e && decide (e.on = i)
  | none => false
theorem not_stop {done : Array Bool} {i j : Nat} (hw : waitsB md ops stop i = true) (hi : i ∈ Region.ready md ops done) (hj : j ∈ Region.ready md ops done) : j ≠ stop := by
  rintro rfl
  obtain ⟨_, o, ho, hall⟩ := mem_ready.1 hj
  unfold waitsB at hw
  rw [ho] at hw
  obtain ⟨k, hk, _, _, hb⟩ := Array.any_iff_exists.1 hw
  rw [Bool.and_eq_true, decide_eq_true_eq] at hb
  have h1 := hall _ (Array.getElem_mem hk) hb.1
  have h0 := (mem_ready.1 hi).1
  rw [hb.2] at h1
  rcases Nat.lt_or_ge i done.size with h' | h'
  · simp [h'] at h0 h1; rw [h0] at h1; cases h1
  · simp [Array.getElem?_eq_none h'] at h1
/-- what yields its value wherever S holds, and for which the last one waits, may be taken first -/
theorem upto_first {i : Nat} {oi : Oper} {v : Value} (hi : ops[i]? = some oi) (hsel : ∀ (j : Nat) (o : Oper) cs b, ops[j]? = some o → o.op ≠ .select cs b) (hQ : ∀ c a w, Q (.panic c) (a.put oi.dst v) w → Q (.panic c) a w) (hst : waitsB md ops stop i = true) :
    ∀ (n : Nat) (done : Array Bool) (a : Act) (w : World), (∀ j oj, ops[j]? = some oj → j ≠ i → done.getD j true = false → (∀ e ∈ oj.after, Region.binds md e = true → e.on ≠ i) → oi.apart ops oj = true) →
      i ∈ Region.ready md ops done → YieldsIf P ops S oi v a → S w → wpUpto P md ops Q S stop n (done.setIfInBounds i true) (a.put oi.dst v) w → wpUpto P md ops Q S stop (n + 1) done a w := by
  intro n
  induction n with
  | zero =>
    intro done a w _ hr hy hS H
    refine ⟨fun h => (by rw [h] at hr; cases hr), fun j hj => ?_⟩
    by_cases hji : j = i
    · subst hji; exact hy.wpOp hi hS ⟨fun _ => hS, H⟩
    · have := ready_mono hj hji
      rw [H.1] at this
      cases this
  | succ n ih =>
    intro done a w hfree hr hy hS H
    refine ⟨fun h => (by rw [h] at hr; cases hr), fun j hj => ?_⟩
    by_cases hji : j = i
    · subst hji; exact hy.wpOp hi hS ⟨fun _ => hS, H⟩
    · have hjs := not_stop hst hr hj
      obtain ⟨hjun, oj, hoj, hall⟩ := mem_ready.1 hj
      have hnot : ∀ e ∈ oj.after, Region.binds md e = true → e.on ≠ i := fun e he hb q => by
        have h1 := hall e he hb
        have h0 := (mem_ready.1 hr).1
        rw [q] at h1
        rcases Nat.lt_or_ge i done.size with h' | h'
        · simp [h'] at h0 h1; rw [h0] at h1; cases h1
        · simp [Array.getElem?_eq_none h'] at h1
      have h2 := wpOp_putIf hoj (hfree j oj hoj hji hjun hnot) (fun cs b => hsel i oi cs b hi) (fun cs b => hsel j oj cs b hoj) hQ hy (H.2 j (ready_mono hj hji))
      refine wpOp_mono (fun a' w' h3 => ⟨h3.2.1, ih (done.setIfInBounds j true) a' w' (fun k ok hk hki hun hno => hfree k ok hk hki (by
        by_cases hjk : j = k
        · subst hjk; exact hjun
        · rw [getD_set_ne true hjk] at hun; exact hun) hno) (ready_mono hr (Ne.symm hji)) h3.1 (h3.2.1 hjs) ?_⟩) h2
      rw [Array.setIfInBounds_comm _ _ hji]
      exact h3.2.2
theorem upto_take {i : Nat} {oi : Oper} {v : Value} {n : Nat} {done : Array Bool} {a : Act} {w : World} (hi : ops[i]? = some oi) (hs : Region.noSelect ops = true) (hf : Region.free md ops done i = true) (hr : (Region.ready md ops done).contains i = true) (hst : waitsB md ops stop i = true)
    (hQ : ∀ c a w, Q (.panic c) (a.put oi.dst v) w → Q (.panic c) a w) (hy : YieldsIf P ops S oi v a) (hS : S w) (h : wpUpto P md ops Q S stop n (done.setIfInBounds i true) (a.put oi.dst v) w) : wpUpto P md ops Q S stop (n + 1) done a w :=
  upto_first hi (Region.noSelect_spec hs) hQ hst n done a w (Region.free_spec hi hf) (by simpa using hr) hy hS h
theorem upto_one {n : Nat} {done : Array Bool} {a : Act} {w : World} (i : Nat) {o : Oper} (ho : ops[i]? = some o) (hr : Region.ready md ops done = [i])
    (h : ∀ K' : Act → World → Prop, Shut (∀ a w, S w → (S w → wpUpto P md ops Q S stop n (done.setIfInBounds i true) a w) → K' a w) → if Region.wanted o (yielded ops a.tmps) = true then Oper.wp P o a w K' Q else K' (a.put o.dst undef) w) : wpUpto P md ops Q S stop (n + 1) done a w := by
  refine ⟨fun q => absurd (hr.symm.trans q) (by simp), fun j hj => ?_⟩
  rw [hr, List.mem_singleton] at hj
  subst hj
  exact wpOp_step ho fun K' hK => h K' fun a w hS hW => hK a w ⟨fun _ => hS, hW hS⟩
theorem upto_last {n : Nat} {done : Array Bool} {a : Act} {w : World} {o : Oper} (ho : ops[stop]? = some o) (hr : Region.ready md ops done = [stop])
    (h : ∀ K' : Act → World → Prop, Shut (∀ a w, wpUpto P md ops Q S stop n (done.setIfInBounds stop true) a w → K' a w) → if Region.wanted o (yielded ops a.tmps) = true then Oper.wp P o a w K' Q else K' (a.put o.dst undef) w) : wpUpto P md ops Q S stop (n + 1) done a w := by
  refine ⟨fun q => absurd (hr.symm.trans q) (by simp), fun j hj => ?_⟩
  rw [hr, List.mem_singleton] at hj
  subst hj
  exact wpOp_step ho fun K' hK => h K' fun a w hW => hK a w ⟨fun q => absurd rfl q, hW⟩
theorem upto_done {done : Array Bool} {a : Act} {w : World} (hr : Region.ready md ops done = []) (h : Q .normal a w) : ∀ n, wpUpto P md ops Q S stop n done a w
  | 0 => ⟨hr, h⟩
  | _ + 1 => ⟨fun _ => h, by rw [hr]; simp⟩
theorem wp_region_upto {id : Nat} {a : Act} {w : World} (S : World → Prop) (stop : Nat) (hm : P.follows .mixedOrders = true) (hS : S w.drew) (h : S w.drew → wpUpto P .any ops Q S stop ops.size (Array.replicate ops.size false) a w.drew) : (Code.region id ops true).wp P Q a w :=
  wp_region_any hm (wpAny_of_upto _ _ _ _ (h hS))
end
end Go.Proofs.YthhbbhijpkoelaaDoor
