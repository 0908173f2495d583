/-
  A conversation in new memory: where it lies while it is read or made; blocks that are still empty, and their stores.
-/
import Derived.Test.YtfmegfgmkeicnaaDoorCwa
import Derived.Test.YtfmegfgmkeicnaaDoorKn
namespace Go.Proofs.YtfmegfgmkeicnaaDoor
open Go.RowKit Go.Shelf
/-- cell by cell into a block -/
def st7Cv (W : World) (b o : Nat) (v0 v1 v2 v3 v4 v5 v6 : Value) : World :=
  ((((((W.setCell ⟨b, o, none⟩ v0).setCell ⟨b, o + 1, none⟩ v1).setCell ⟨b, o + 2, none⟩ v2).setCell ⟨b, o + 3, none⟩ v3).setCell ⟨b, o + 4, none⟩ v4).setCell ⟨b, o + 5, none⟩ v5).setCell ⟨b, o + 6, none⟩ v6
theorem st7Cv_other (W : World) (b o : Nat) (v0 v1 v2 v3 v4 v5 v6 : Value) (b' o' : Nat) (h : b' ≠ b ∨ o' < o ∨ o + 7 ≤ o') : (st7Cv W b o v0 v1 v2 v3 v4 v5 v6).cell? ⟨b', o', none⟩ = W.cell? ⟨b', o', none⟩ := by
  unfold st7Cv
  have hne : ∀ j, j < 7 → (⟨b, o + j, none⟩ : Addr) ≠ ⟨b', o', none⟩ := by
    intro j hj e
    simp only [Addr.mk.injEq] at e
    omega
  rw [World.cell?_setCell_other _ _ _ _ (hne 6 (by omega)), World.cell?_setCell_other _ _ _ _ (hne 5 (by omega)), World.cell?_setCell_other _ _ _ _ (hne 4 (by omega)), World.cell?_setCell_other _ _ _ _ (hne 3 (by omega)), World.cell?_setCell_other _ _ _ _ (hne 2 (by omega)), World.cell?_setCell_other _ _ _ _ (hne 1 (by omega))]
  exact World.cell?_setCell_other _ _ _ _ (hne 0 (by omega))
theorem st7Cv_at (W : World) (b o : Nat) (t : Cv) (al : Option Addr) (cl : Nat) (ak : Option Addr) (ck : Nat) (h : ∀ j, j < 7 → ∃ v, W.cell? ⟨b, o + j, none⟩ = some v) : CvAt (st7Cv W b o (.int .i64 t.kind) (.string t.fm) (.string t.tt) (.int .i64 t.so) (.string t.name) (.slice al t.labels.length cl) (.slice ak t.kids.length ck)) b o t al cl ak ck := by
  obtain ⟨v0, h0⟩ := h 0 (by omega)
  obtain ⟨v1, h1⟩ := h 1 (by omega)
  obtain ⟨v2, h2⟩ := h 2 (by omega)
  obtain ⟨v3, h3⟩ := h 3 (by omega)
  obtain ⟨v4, h4⟩ := h 4 (by omega)
  obtain ⟨v5, h5⟩ := h 5 (by omega)
  obtain ⟨v6, h6⟩ := h 6 (by omega)
  rw [Nat.add_zero] at h0
  unfold st7Cv
  exact ⟨by go_cell, by go_cell, by go_cell, by go_cell, by go_cell, by go_cell, by go_cell⟩
theorem st7Cv_frozen (W : World) (b o : Nat) (v0 v1 v2 v3 v4 v5 v6 : Value) (p : Addr) : (st7Cv W b o v0 v1 v2 v3 v4 v5 v6).frozen? p = W.frozen? p := by
  unfold st7Cv; simp only [World.frozen?_setCell]
theorem st7Cv_size (W : World) (b o : Nat) (v0 v1 v2 v3 v4 v5 v6 : Value) : (st7Cv W b o v0 v1 v2 v3 v4 v5 v6).heap.size = W.heap.size := by
  unfold st7Cv; simp
/-- a list of them, of so many levels at most, in blocks of which P holds -/
def QCv (W : World) (P : Nat → Prop) : Nat → List Cv → Option Addr → Prop
  | 0, ks, _ => ks = []
  | d + 1, ks, ak => ks = [] ∨ ∃ b o, ak = some ⟨b, o, none⟩ ∧ P b ∧ ∀ i (h : i < ks.length), ∃ al cl ak' ck', CvAt W b (o + i * 7) ks[i] al cl ak' ck' ∧ CvBd ks[i] cl ck' ∧ LQ W P ks[i].labels al ∧ QCv W P d ks[i].kids ak'
theorem QCv.keep {W W' : World} {P Q : Nat → Prop} (hb : ∀ b o, P b → W'.cell? ⟨b, o, none⟩ = W.cell? ⟨b, o, none⟩) (hq : ∀ b, P b → Q b) : ∀ {d : Nat} {ks : List Cv} {ak : Option Addr}, QCv W P d ks ak → QCv W' Q d ks ak
  | 0, _, _, h => h
  | d + 1, ks, ak, h => by
    rcases h with h | ⟨b, o, h1, h2, h3⟩
    · exact .inl h
    · refine .inr ⟨b, o, h1, hq b h2, fun i hi => ?_⟩
      obtain ⟨al, cl, ak', ck', e, f, g, k⟩ := h3 i hi
      exact ⟨al, cl, ak', ck', ⟨(hb b _ h2).trans e.c0, (hb b _ h2).trans e.c1, (hb b _ h2).trans e.c2, (hb b _ h2).trans e.c3, (hb b _ h2).trans e.c4, (hb b _ h2).trans e.c5, (hb b _ h2).trans e.c6⟩, f, LQ.keep hb hq g, QCv.keep hb hq k⟩
theorem QCv.toK {W : World} {P : Nat → Prop} {B : Nat} (hq : ∀ b, P b → b < B) : ∀ {d : Nat} {ks : List Cv} {ak : Option Addr}, QCv W P d ks ak → KCv W B d ks ak
  | 0, _, _, h => h
  | d + 1, ks, ak, h => by
    rcases h with h | ⟨b, o, h1, h2, h3⟩
    · exact .inl h
    · refine .inr ⟨b, o, h1, hq b h2, fun i hi => ?_⟩
      obtain ⟨al, cl, ak', ck', e, f, g, k⟩ := h3 i hi
      exact ⟨al, cl, ak', ck', e, f, g.toLA hq, QCv.toK hq k⟩
/-- one in memory that is new since w -/
structure GCv (w W : World) (d : Nat) (t : Cv) (al : Option Addr) (cl : Nat) (ak : Option Addr) (ck : Nat) : Prop where
  bd : CvBd t cl ck
  la : LQ W (NW w W) t.labels al
  ka : QCv W (NW w W) d t.kids ak
theorem GCv.keep {w W W' : World} {rb d : Nat} {t : Cv} {al : Option Addr} {cl : Nat} {ak : Option Addr} {ck : Nat} (h : GCv w W d t al cl ak ck) (hf : FR rb W W') (hr : rb < w.heap.size) : GCv w W' d t al cl ak ck :=
  ⟨h.bd, h.la.keep (fun _ _ hb => hf.cellO hb.2 (by have := hb.1; omega)) (fun b hb => ⟨hb.1, Nat.lt_of_lt_of_le hb.2 hf.size⟩), h.ka.keep (fun _ _ hb => hf.cellO hb.2 (by have := hb.1; omega)) (fun b hb => ⟨hb.1, Nat.lt_of_lt_of_le hb.2 hf.size⟩)⟩
theorem GCv.old {w w0 W : World} {d : Nat} {t : Cv} {al : Option Addr} {cl : Nat} {ak : Option Addr} {ck : Nat} (h : GCv w W d t al cl ak ck) (hw : w0.heap.size ≤ w.heap.size) : GCv w0 W d t al cl ak ck :=
  ⟨h.bd, h.la.keep (fun _ _ _ => rfl) (fun _ hb => ⟨Nat.le_trans hw hb.1, hb.2⟩), h.ka.keep (fun _ _ _ => rfl) (fun _ hb => ⟨Nat.le_trans hw hb.1, hb.2⟩)⟩
/-- what is new since w stays so where only blocks of before are touched -/
theorem GCv.below {w W W' : World} {d : Nat} {t : Cv} {al : Option Addr} {cl : Nat} {ak : Option Addr} {ck : Nat} (h : GCv w W d t al cl ak ck) (hb : Below W.heap.size W W') : GCv w W' d t al cl ak ck :=
  ⟨h.bd, h.la.keep (fun _ _ hx => hb.cell hx.2) (fun _ hx => ⟨hx.1, Nat.lt_of_lt_of_le hx.2 hb.size⟩), h.ka.keep (fun _ _ hx => hb.cell hx.2) (fun _ hx => ⟨hx.1, Nat.lt_of_lt_of_le hx.2 hb.size⟩)⟩
/-- a block for one that is still empty -/
structure ZCv (W : World) (b : Nat) : Prop where
  lt : b < W.heap.size
  c0 : W.cell? ⟨b, 0, none⟩ = some (.int .i64 0)
  c1 : W.cell? ⟨b, 1, none⟩ = some (.string ⟨#[]⟩)
  c2 : W.cell? ⟨b, 2, none⟩ = some (.string ⟨#[]⟩)
  c3 : W.cell? ⟨b, 3, none⟩ = some (.int .i64 0)
  c4 : W.cell? ⟨b, 4, none⟩ = some (.string ⟨#[]⟩)
  c5 : W.cell? ⟨b, 5, none⟩ = some (.slice none 0 0)
  c6 : W.cell? ⟨b, 6, none⟩ = some (.slice none 0 0)
  f : ∀ o, W.frozen? ⟨b, o, none⟩ = false
theorem ZCv.new (W : World) : ZCv (W.alloc (.cells #[.int .i64 0, .string ⟨#[]⟩, .string ⟨#[]⟩, .int .i64 0, .string ⟨#[]⟩, .slice none 0 0, .slice none 0 0] 25)) W.heap.size :=
  ⟨by simp, by go_cell, by go_cell, by go_cell, by go_cell, by go_cell, by go_cell, by go_cell, fun o => by go_simp⟩
theorem ZCv.keep {W W' : World} {rb b : Nat} (h : ZCv W b) (hf : FR rb W W') (hn : b ≠ rb) : ZCv W' b :=
  ⟨Nat.lt_of_lt_of_le h.lt hf.size, (hf.cellO h.lt hn).trans h.c0, (hf.cellO h.lt hn).trans h.c1, (hf.cellO h.lt hn).trans h.c2, (hf.cellO h.lt hn).trans h.c3, (hf.cellO h.lt hn).trans h.c4, (hf.cellO h.lt hn).trans h.c5, (hf.cellO h.lt hn).trans h.c6, fun o => (hf.frozenO h.lt hn).trans (h.f o)⟩
theorem ZCv.st {W : World} {b : Nat} (h : ZCv W b) (t : Cv) (al : Option Addr) (cl : Nat) (ak : Option Addr) (ck : Nat) : CvAt (st7Cv W b 0 (.int .i64 t.kind) (.string t.fm) (.string t.tt) (.int .i64 t.so) (.string t.name) (.slice al t.labels.length cl) (.slice ak t.kids.length ck)) b 0 t al cl ak ck :=
  st7Cv_at W b 0 t al cl ak ck (by
    intro j hj
    have : j = 0 ∨ j = 1 ∨ j = 2 ∨ j = 3 ∨ j = 4 ∨ j = 5 ∨ j = 6 := by omega
    rcases this with rfl | rfl | rfl | rfl | rfl | rfl | rfl
    · exact ⟨_, h.c0⟩
    · exact ⟨_, h.c1⟩
    · exact ⟨_, h.c2⟩
    · exact ⟨_, h.c3⟩
    · exact ⟨_, h.c4⟩
    · exact ⟨_, h.c5⟩
    · exact ⟨_, h.c6⟩)
theorem FR.stCv {rb b : Nat} {w W : World} (h : FR rb w W) (hb : w.heap.size ≤ b) (v0 v1 v2 v3 v4 v5 v6 : Value) : FR rb w (st7Cv W b 0 v0 v1 v2 v3 v4 v5 v6) := by
  unfold st7Cv
  exact ((((((h.setN hb _).setN hb _).setN hb _).setN hb _).setN hb _).setN hb _).setN hb _
/-- behind the store of what is handed back, one that is new since w is as it was -/
theorem GCv.st {w w1 W : World} {d b : Nat} {t : Cv} {al : Option Addr} {cl : Nat} {ak : Option Addr} {ck : Nat} (h : GCv w1 W d t al cl ak ck) (hb : b < w1.heap.size) (v0 v1 v2 v3 v4 v5 v6 : Value) (hw : w.heap.size ≤ w1.heap.size) : GCv w (st7Cv W b 0 v0 v1 v2 v3 v4 v5 v6) d t al cl ak ck :=
  ⟨h.bd, h.la.keep (fun b' _ hb' => st7Cv_other _ _ _ _ _ _ _ _ _ _ _ _ (.inl (by have := hb'.1; omega))) (fun b' hb' => ⟨Nat.le_trans hw hb'.1, by rw [st7Cv_size]; exact hb'.2⟩),
    h.ka.keep (fun b' _ hb' => st7Cv_other _ _ _ _ _ _ _ _ _ _ _ _ (.inl (by have := hb'.1; omega))) (fun b' hb' => ⟨Nat.le_trans hw hb'.1, by rw [st7Cv_size]; exact hb'.2⟩)⟩
theorem RS.stCv {W : World} {rb b p : Nat} {s : ByteArray} (h : RS W rb s p) (hn : b ≠ rb) (v0 v1 v2 v3 v4 v5 v6 : Value) : RS (st7Cv W b 0 v0 v1 v2 v3 v4 v5 v6) rb s p :=
  ⟨(st7Cv_other _ _ _ _ _ _ _ _ _ _ _ _ (.inl (Ne.symm hn))).trans h.c0, (st7Cv_other _ _ _ _ _ _ _ _ _ _ _ _ (.inl (Ne.symm hn))).trans h.c1, (st7Cv_other _ _ _ _ _ _ _ _ _ _ _ _ (.inl (Ne.symm hn))).trans h.c2, by rw [st7Cv_frozen]; exact h.fz, h.le, h.sz⟩
/-- one without parts -/
theorem GCv.leaf (w W : World) (d : Nat) (kind : Int) (fm : ByteArray) (tt : ByteArray) (so : Int) (name : ByteArray) (hfm : fm.size ≤ 9223372036854775807) (htt : tt.size ≤ 9223372036854775807) (hname : name.size ≤ 9223372036854775807) : GCv w W d ⟨kind, fm, tt, so, name, [], []⟩ none 0 none 0 := by
  refine ⟨⟨hfm, htt, hname, fun l hl => (by cases hl), Nat.le_refl _, by omega, Nat.le_refl _, by omega⟩, .inl rfl, ?_⟩
  cases d with
  | zero => rfl
  | succ d => exact .inl rfl
/-- one of one part, which lies in a literal -/
theorem GCv.one {w w1 W : World} {n b : Nat} {t : Cv} {al : Option Addr} {cl : Nat} {ak : Option Addr} {ck : Nat} (hg : GCv w1 W n t al cl ak ck) (hw : w.heap.size ≤ b) (hb : b < w1.heap.size) (h1 : w1.heap.size ≤ W.heap.size) (kind : Int) (fm : ByteArray) (tt : ByteArray) (so : Int) (name : ByteArray) (hfm : fm.size ≤ 9223372036854775807) (htt : tt.size ≤ 9223372036854775807) (hname : name.size ≤ 9223372036854775807) (v0 v1 v2 v3 v4 v5 v6 : Value) :
    GCv w (st7Cv (W.alloc (.cells #[.int .i64 t.kind, .string t.fm, .string t.tt, .int .i64 t.so, .string t.name, .slice al t.labels.length cl, .slice ak t.kids.length ck] 25)) b 0 v0 v1 v2 v3 v4 v5 v6) (n + 1) ⟨kind, fm, tt, so, name, [], [t]⟩ none 0 (some ⟨W.heap.size, 0, none⟩) 1 := by
  have hn : ∀ o, (st7Cv (W.alloc (.cells #[.int .i64 t.kind, .string t.fm, .string t.tt, .int .i64 t.so, .string t.name, .slice al t.labels.length cl, .slice ak t.kids.length ck] 25)) b 0 v0 v1 v2 v3 v4 v5 v6).cell? ⟨W.heap.size, o, none⟩ = (#[.int .i64 t.kind, .string t.fm, .string t.tt, .int .i64 t.so, .string t.name, .slice al t.labels.length cl, .slice ak t.kids.length ck] : Array Value)[o]? := fun o =>
    (st7Cv_other _ _ _ _ _ _ _ _ _ _ _ _ (.inl (by omega))).trans (World.cell?_alloc_new _ _ _ _)
  have hk : ∀ b' o, NW w1 W b' → (st7Cv (W.alloc (.cells #[.int .i64 t.kind, .string t.fm, .string t.tt, .int .i64 t.so, .string t.name, .slice al t.labels.length cl, .slice ak t.kids.length ck] 25)) b 0 v0 v1 v2 v3 v4 v5 v6).cell? ⟨b', o, none⟩ = W.cell? ⟨b', o, none⟩ := fun b' o hb' =>
    (st7Cv_other _ _ _ _ _ _ _ _ _ _ _ _ (.inl (by have := hb'.1; omega))).trans ((FR.al (pb := W.heap.size) _).cellO hb'.2 (by have := hb'.2; omega))
  have hq : ∀ b', NW w1 W b' → NW w (st7Cv (W.alloc (.cells #[.int .i64 t.kind, .string t.fm, .string t.tt, .int .i64 t.so, .string t.name, .slice al t.labels.length cl, .slice ak t.kids.length ck] 25)) b 0 v0 v1 v2 v3 v4 v5 v6) b' := fun b' hb' => ⟨by have := hb'.1; omega, by rw [st7Cv_size]; have := hb'.2; simp; omega⟩
  refine ⟨⟨hfm, htt, hname, fun l hl => (by cases hl), Nat.le_refl _, by omega, Nat.le_refl _, by omega⟩, .inl rfl, .inr ⟨W.heap.size, 0, rfl, ⟨by omega, by rw [st7Cv_size]; simp⟩, fun i hi => ?_⟩⟩
  have h0 : i = 0 := by simp at hi; omega
  subst h0
  exact ⟨al, cl, ak, ck, ⟨hn 0, hn 1, hn 2, hn 3, hn 4, hn 5, hn 6⟩, hg.bd, hg.la.keep hk hq, hg.ka.keep hk hq⟩
/-- what is handed back -/
def CvR (w : World) (d : Nat) (W : World) (t : Cv) (v : Value) : Prop := ∃ al cl ak ck, v = valCv t al cl ak ck ∧ GCv w W d t al cl ak ck
end Go.Proofs.YtfmegfgmkeicnaaDoor
