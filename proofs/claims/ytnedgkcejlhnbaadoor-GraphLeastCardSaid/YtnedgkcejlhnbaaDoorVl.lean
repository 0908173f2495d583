/-
  The contract of duetkeep.put: a type in the place of a name.
-/
import Derived.Test.YtnedgkcejlhnbaaDoorVk
namespace Go.Proofs.YtnedgkcejlhnbaaDoor
open Go.RowKit Go.Shelf

/-- names in blocks of which P holds -/
def LP (W : World) (P : Nat → Prop) (ls : List ByteArray) (al : Option Addr) : Prop :=
  ls = [] ∨ ∃ b o, al = some ⟨b, o, none⟩ ∧ P b ∧ ∀ i (h : i < ls.length), W.cell? ⟨b, o + i, none⟩ = some (.string ls[i])
/-- types, of so many levels at most, in blocks of which P holds -/
def KP (W : World) (P : Nat → Prop) : Nat → List Ty → Option Addr → Prop
  | 0, ks, _ => ks = []
  | d + 1, ks, ak => ks = [] ∨ ∃ b o, ak = some ⟨b, o, none⟩ ∧ P b ∧ ∀ i (h : i < ks.length), ∃ al cl ak' ck', TyAt W b (o + i * 5) ks[i] al cl ak' ck' ∧ TyBd ks[i] cl ck' ∧ LP W P ks[i].labels al ∧ KP W P d ks[i].kids ak'
theorem LP.keep {W W' : World} {P Q : Nat → Prop} (hb : ∀ b o, P b → W'.cell? ⟨b, o, none⟩ = W.cell? ⟨b, o, none⟩) (hq : ∀ b, P b → Q b) {ls : List ByteArray} {al : Option Addr} (h : LP W P ls al) : LP W' Q ls al :=
  h.imp id fun ⟨b, o, e, hp, hc⟩ => ⟨b, o, e, hq b hp, fun i hi => (hb b _ hp).trans (hc i hi)⟩
theorem KP.keep {W W' : World} {P Q : Nat → Prop} (hb : ∀ b o, P b → W'.cell? ⟨b, o, none⟩ = W.cell? ⟨b, o, none⟩) (hq : ∀ b, P b → Q b) : ∀ {d : Nat} {ks : List Ty} {ak : Option Addr}, KP W P d ks ak → KP W' Q d ks ak
  | 0, _, _, h => h
  | d + 1, ks, ak, h => by
    rcases h with h | ⟨b, o, h1, h2, h3⟩
    · exact .inl h
    · refine .inr ⟨b, o, h1, hq b h2, fun i hi => ?_⟩
      obtain ⟨al, cl, ak', ck', e, f, g, k⟩ := h3 i hi
      exact ⟨al, cl, ak', ck', ⟨(hb b _ h2).trans e.c0, (hb b _ h2).trans e.c1, (hb b _ h2).trans e.c2, (hb b _ h2).trans e.c3, (hb b _ h2).trans e.c4⟩, f, LP.keep hb hq g, KP.keep hb hq k⟩
theorem KP.up {W : World} {P : Nat → Prop} : ∀ {d e : Nat} {ks : List Ty} {ak : Option Addr}, d ≤ e → KP W P d ks ak → KP W P e ks ak
  | 0, 0, _, _, _, h => h
  | 0, e + 1, _, _, _, h => .inl h
  | d + 1, 0, _, _, hd, _ => by omega
  | d + 1, e + 1, ks, ak, hd, h => by
    rcases h with h | ⟨b, o, h1, hl, h⟩
    · exact .inl h
    · exact .inr ⟨b, o, h1, hl, fun i hi => by
        obtain ⟨al, cl, ak', ck', h1, h2, h3, h4⟩ := h i hi
        exact ⟨al, cl, ak', ck', h1, h2, h3, KP.up (by omega) h4⟩⟩
theorem LP.la {W : World} {P : Nat → Prop} {B : Nat} (hq : ∀ b, P b → b < B) {ls : List ByteArray} {al : Option Addr} (h : LP W P ls al) : LA W B ls al := by
  rcases h with rfl | ⟨b, o, e, hp, hc⟩
  · exact .inl rfl
  · exact .inr ⟨b, o, e, hq b hp, fun i hi => by rw [List.length_map] at hi; rw [List.getElem_map]; exact hc i hi⟩
theorem KP.kt {W : World} {P : Nat → Prop} {B : Nat} (hq : ∀ b, P b → b < B) : ∀ {d : Nat} {ks : List Ty} {ak : Option Addr}, KP W P d ks ak → KT W B d ks ak
  | 0, _, _, h => h
  | d + 1, ks, ak, h => by
    rcases h with h | ⟨b, o, h1, h2, h3⟩
    · exact .inl h
    · refine .inr ⟨b, o, h1, hq b h2, fun i hi => ?_⟩
      obtain ⟨al, cl, ak', ck', e, f, g, k⟩ := h3 i hi
      exact ⟨al, cl, ak', ck', e, f, g.la hq, KP.kt hq k⟩
/-- types as they lie in a row -/
abbrev TTk := Ty × (Option Addr × Nat) × (Option Addr × Nat)
def tC (t : TTk) : List Value := [.int .i64 t.1.kind, .int .i64 t.1.so, .string t.1.name, .slice t.2.1.1 t.1.labels.length t.2.1.2, .slice t.2.2.1 t.1.kids.length t.2.2.2]
def tCs (ts : List TTk) : List Value := ts.flatMap tC
theorem tCs_snoc (ts : List TTk) (x : TTk) : tCs (ts ++ [x]) = tCs ts ++ tC x := by simp [tCs]
theorem tC_one (t : TTk) : ∀ y ∈ tC t, y.oneCell' = true := by
  intro y hy
  simp only [tC, List.mem_cons, List.not_mem_nil, or_false] at hy
  rcases hy with rfl | rfl | rfl | rfl | rfl <;> rfl
theorem tCs_at : ∀ (ss : List TTk) (i : Nat) (h : i < ss.length) (j : Nat), j < 5 → (tCs ss)[i * 5 + j]? = (tC ss[i])[j]?
  | [], i, h, _, _ => by simp at h
  | s :: ss, 0, _, j, hj => by
    have e : tCs (s :: ss) = tC s ++ tCs ss := rfl
    rw [e, List.getElem?_append_left (by simp [tC]; omega)]
    simp
  | s :: ss, i + 1, h, j, hj => by
    have e : tCs (s :: ss) = tC s ++ tCs ss := rfl
    have hl : (tC s).length = 5 := rfl
    rw [e, List.getElem?_append_right (by rw [hl]; omega), hl, show (i + 1) * 5 + j - 5 = i * 5 + j by omega]
    exact tCs_at ss i (by simpa using h) j hj
def TOK (W : World) (P : Nat → Prop) (ts : List TTk) : Prop := ∀ q ∈ ts, TyBd q.1 q.2.1.2 q.2.2.2 ∧ LP W P q.1.labels q.2.1.1 ∧ ∃ d, KP W P d q.1.kids q.2.2.1
theorem TOK.keep {W W' : World} {P Q : Nat → Prop} {ts : List TTk} (h : TOK W P ts) (hb : ∀ b o, P b → W'.cell? ⟨b, o, none⟩ = W.cell? ⟨b, o, none⟩) (hq : ∀ b, P b → Q b) : TOK W' Q ts :=
  fun q hm => ⟨(h q hm).1, (h q hm).2.1.keep hb hq, by obtain ⟨d, hd⟩ := (h q hm).2.2; exact ⟨d, hd.keep hb hq⟩⟩
theorem tok_depth {W : World} {P : Nat → Prop} : ∀ {ts : List TTk}, TOK W P ts → ∃ D, ∀ q ∈ ts, KP W P D q.1.kids q.2.2.1
  | [], _ => ⟨0, fun q hq => by cases hq⟩
  | x :: ts, h => by
    obtain ⟨D, hD⟩ := tok_depth (ts := ts) fun q hq => h q (.tail _ hq)
    obtain ⟨d, hd⟩ := (h x (.head _)).2.2
    exact ⟨D + d, fun q hq => by
      rcases List.mem_cons.1 hq with rfl | hq
      · exact hd.up (by omega)
      · exact (hD q hq).up (by omega)⟩
theorem kp_row {W : World} {base n : Nat} {v : Value} {ts : List TTk} {P : Nat → Prop} (ho : W.ownsRow base 35 5 v n (tCs ts)) (hn : ts.length = n) (ht : TOK W P ts) (hv : ∀ b, v.ownBlock = some b → P b) : ∃ ak ck d, v = .slice ak n ck ∧ n ≤ ck ∧ ck ≤ 9223372036854775807 ∧ KP W P d (ts.map fun q => q.1) ak := by
  obtain ⟨D, hD⟩ := tok_depth ht
  rcases ho.2 with ⟨rfl, h0⟩ | ⟨g, cap, cur, rfl, _, hc, h1, h2, _, _⟩
  · have : ts = [] := List.eq_nil_of_length_eq_zero (by omega)
    subst this
    exact ⟨none, 0, 0, by rw [h0], by omega, by omega, rfl⟩
  · unfold maxLen at h2
    obtain ⟨g', c', e, _, _, hcell⟩ := (own_cells ho).resolve_left (fun q => by cases q.1)
    injection e with e1 _ e3
    injection e1 with e1
    injection e1 with e1
    subst e1 e3
    refine ⟨_, cap, D + 1, rfl, h1, by omega, .inr ⟨g, 0, rfl, hv g rfl, fun i hi => ?_⟩⟩
    have hi' : i < ts.length := by simpa using hi
    have ge : (ts.map fun q => q.1)[i] = ts[i].1 := by simp
    rw [ge]
    have hm := List.getElem_mem hi'
    have hcl : ∀ j y, j < 5 → (tC ts[i])[j]? = some y → W.cell? ⟨g, 0 + i * 5 + j, none⟩ = some y := fun j y hj hy => by
      rw [Nat.zero_add]
      exact hcell _ _ ((tCs_at ts i hi' j hj).trans hy)
    exact ⟨ts[i].2.1.1, ts[i].2.1.2, ts[i].2.2.1, ts[i].2.2.2, ⟨hcl 0 _ (by omega) rfl, hcl 1 _ (by omega) rfl, hcl 2 _ (by omega) rfl, hcl 3 _ (by omega) rfl, hcl 4 _ (by omega) rfl⟩, (ht _ hm).1, (ht _ hm).2.1, hD _ hm⟩
theorem infoTy : (Tryd.prog.info? 35).map (fun i => (i.zero, i.size, i.bytes)) = some (some (.agg #[.int .i64 0, .int .i64 0, .string ⟨#[]⟩, .slice none 0 0, .slice none 0 0]), 5, 80) := by kernel_rfl
/-- the boxes of put: both types, the result, and what is made -/
structure PX (w : World) (t : Ty) (al : Option Addr) (cl : Nat) (ak : Option Addr) (ck : Nat) (s : Ty) (sal : Option Addr) (scl : Nat) (sak : Option Addr) (sck : Nat) (bo : Nat) (u : Value) (W : World) : Prop where
  x : TyAt W w.heap.size 0 t al cl ak ck
  y : TyAt W (w.heap.size + 1) 0 s sal scl sak sck
  z : ∀ j, j < 5 → (∃ v, W.cell? ⟨w.heap.size + 1 + 1, j, none⟩ = some v) ∧ W.frozen? ⟨w.heap.size + 1 + 1, j, none⟩ = false
  o0 : W.cell? ⟨bo, 0, none⟩ = some (.int .i64 t.kind)
  o1 : W.cell? ⟨bo, 1, none⟩ = some (.int .i64 t.so)
  o2 : W.cell? ⟨bo, 2, none⟩ = some (.string t.name)
  o3 : W.cell? ⟨bo, 3, none⟩ = some (.slice al t.labels.length cl)
  o4 : W.cell? ⟨bo, 4, none⟩ = some u
  fo : W.frozen? ⟨bo, 4, none⟩ = false
  lo : w.heap.size + 1 + 1 < bo
  lt : bo < W.heap.size
  bl : Below w.heap.size w W
theorem PX.keep {w : World} {t : Ty} {al : Option Addr} {cl : Nat} {ak : Option Addr} {ck : Nat} {s : Ty} {sal : Option Addr} {scl : Nat} {sak : Option Addr} {sck : Nat} {bo : Nat} {u : Value} {W W' : World} (h : PX w t al cl ak ck s sal scl sak sck bo u W) (hb : Below W.heap.size W W') : PX w t al cl ak ck s sal scl sak sck bo u W' := by
  have h1 := h.lo
  have h2 := h.lt
  have hc : ∀ b o, b ≤ bo → W'.cell? ⟨b, o, none⟩ = W.cell? ⟨b, o, none⟩ := fun b o hb' => hb.cell (p := ⟨b, o, none⟩) (by show b < _; omega)
  have hf : ∀ b o, b ≤ bo → W'.frozen? ⟨b, o, none⟩ = W.frozen? ⟨b, o, none⟩ := fun b o hb' => hb.frozen (p := ⟨b, o, none⟩) (by show b < _; omega)
  exact ⟨h.x.keep hb (by omega), h.y.keep hb (by omega), fun j hj => ⟨by obtain ⟨v, hv⟩ := (h.z j hj).1; exact ⟨v, (hc _ _ (by omega)).trans hv⟩, (hf _ _ (by omega)).trans (h.z j hj).2⟩, (hc _ _ (by omega)).trans h.o0, (hc _ _ (by omega)).trans h.o1, (hc _ _ (by omega)).trans h.o2, (hc _ _ (by omega)).trans h.o3, (hc _ _ (by omega)).trans h.o4, (hf _ _ (by omega)).trans h.fo, h1, Nat.lt_of_lt_of_le h2 hb.size, h.bl.trans (hb.mono h.bl.size)⟩
theorem PX.put {w : World} {t : Ty} {al : Option Addr} {cl : Nat} {ak : Option Addr} {ck : Nat} {s : Ty} {sal : Option Addr} {scl : Nat} {sak : Option Addr} {sck : Nat} {bo : Nat} {u v : Value} {W W' : World} (h : PX w t al cl ak ck s sal scl sak sck bo u W) (hg : W.grownBy W' u.ownBlock) (hu : ∀ b, u.ownBlock = some b → bo < b) : PX w t al cl ak ck s sal scl sak sck bo v (W'.setCell ⟨bo, 4, none⟩ v) := by
  have h1 := h.lo
  have h2 := h.lt
  have hk : ∀ b, b ≤ bo → W'.heap[b]? = W.heap[b]? := fun b hb => hg.block b (by omega) (fun e => by have := hu b e.symm; omega)
  have hc : ∀ b o, b ≤ bo → W'.cell? ⟨b, o, none⟩ = W.cell? ⟨b, o, none⟩ := fun b o hb => World.cell?_of_block (a := ⟨b, o, none⟩) (hk b hb)
  have hf : ∀ b o, b ≤ bo → (W'.setCell ⟨bo, 4, none⟩ v).frozen? ⟨b, o, none⟩ = W.frozen? ⟨b, o, none⟩ := fun b o hb => (World.frozen?_setCell _ _ _ _).trans (World.frozen?_of_block (a := ⟨b, o, none⟩) (hk b hb))
  have hs : ∀ b o, b ≤ bo → (b ≠ bo ∨ o ≠ 4) → (W'.setCell ⟨bo, 4, none⟩ v).cell? ⟨b, o, none⟩ = W.cell? ⟨b, o, none⟩ := fun b o hb hn => (World.cell?_setCell_other _ _ _ _ (by intro e; injection e with e1 e2; rcases hn with q | q; exact q e1.symm; exact q e2.symm)).trans (hc b o hb)
  have hsT : ∀ b, b < bo → ∀ {q : Ty} {a1 c1 a2 c2}, TyAt W b 0 q a1 c1 a2 c2 → TyAt (W'.setCell ⟨bo, 4, none⟩ v) b 0 q a1 c1 a2 c2 := fun b hb _ _ _ _ _ e => ⟨(hs b _ (by omega) (.inl (by omega))).trans e.c0, (hs b _ (by omega) (.inl (by omega))).trans e.c1, (hs b _ (by omega) (.inl (by omega))).trans e.c2, (hs b _ (by omega) (.inl (by omega))).trans e.c3, (hs b _ (by omega) (.inl (by omega))).trans e.c4⟩
  have hsz := hg.size
  refine ⟨hsT _ (by omega) h.x, hsT _ (by omega) h.y, fun j hj => ⟨by obtain ⟨v, hv⟩ := (h.z j hj).1; exact ⟨v, (hs _ _ (by omega) (.inl (by omega))).trans hv⟩, (hf _ _ (by omega)).trans (h.z j hj).2⟩, (hs _ _ (by omega) (.inr (by omega))).trans h.o0, (hs _ _ (by omega) (.inr (by omega))).trans h.o1, (hs _ _ (by omega) (.inr (by omega))).trans h.o2, (hs _ _ (by omega) (.inr (by omega))).trans h.o3, World.cell?_setCell_same _ _ _ ((hc _ _ (by omega)).trans h.o4), (hf _ _ (by omega)).trans h.fo, h1, by simp; omega, ?_⟩
  refine ⟨hg.os.trans h.bl.os, hg.tape.trans h.bl.tape, hg.output.trans h.bl.output, by simp; have := h.bl.size; omega, fun b hb => ?_⟩
  rw [Below.heap_setCell _ _ _ b (fun e => by have e : b = bo := e; omega), hk b (by omega)]
  exact h.bl.block b hb
end Go.Proofs.YtnedgkcejlhnbaaDoor
