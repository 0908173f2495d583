/-
  How a type that has been read lies in memory; the ends of the readings that hand a type back.
-/
import Derived.Test.YtfmegfgmkeicnaaDoorKma
namespace Go.Proofs.YtfmegfgmkeicnaaDoor
open Go.RowKit Go.Shelf

/-- names in blocks of which P holds -/
def LQ (W : World) (P : Nat → Prop) (ls : List ByteArray) (al : Option Addr) : Prop :=
  ls = [] ∨ ∃ b o, al = some ⟨b, o, none⟩ ∧ P b ∧ ∀ i (h : i < ls.length), W.cell? ⟨b, o + i, none⟩ = some (.string ls[i])
/-- types, of so many levels at most, in blocks of which P holds -/
def KQ (W : World) (P : Nat → Prop) : Nat → List Ty → Option Addr → Prop
  | 0, ks, _ => ks = []
  | d + 1, ks, ak => ks = [] ∨ ∃ b o, ak = some ⟨b, o, none⟩ ∧ P b ∧ ∀ i (h : i < ks.length), ∃ al cl ak' ck', TyAt W b (o + i * 5) ks[i] al cl ak' ck' ∧ TyBd ks[i] cl ck' ∧ LQ W P ks[i].labels al ∧ KQ W P d ks[i].kids ak'
theorem LQ.keep {W W' : World} {P Q : Nat → Prop} (hb : ∀ b o, P b → W'.cell? ⟨b, o, none⟩ = W.cell? ⟨b, o, none⟩) (hq : ∀ b, P b → Q b) {ls : List ByteArray} {al : Option Addr} (h : LQ W P ls al) : LQ W' Q ls al :=
  h.imp id fun ⟨b, o, e, hp, hc⟩ => ⟨b, o, e, hq b hp, fun i hi => (hb b _ hp).trans (hc i hi)⟩
theorem KQ.keep {W W' : World} {P Q : Nat → Prop} (hb : ∀ b o, P b → W'.cell? ⟨b, o, none⟩ = W.cell? ⟨b, o, none⟩) (hq : ∀ b, P b → Q b) : ∀ {d : Nat} {ks : List Ty} {ak : Option Addr}, KQ W P d ks ak → KQ W' Q d ks ak
  | 0, _, _, h => h
  | d + 1, ks, ak, h => by
    rcases h with h | ⟨b, o, h1, h2, h3⟩
    · exact .inl h
    · refine .inr ⟨b, o, h1, hq b h2, fun i hi => ?_⟩
      obtain ⟨al, cl, ak', ck', e, f, g, k⟩ := h3 i hi
      exact ⟨al, cl, ak', ck', ⟨(hb b _ h2).trans e.c0, (hb b _ h2).trans e.c1, (hb b _ h2).trans e.c2, (hb b _ h2).trans e.c3, (hb b _ h2).trans e.c4⟩, f, LQ.keep hb hq g, KQ.keep hb hq k⟩
theorem LQ.toLA {W : World} {P : Nat → Prop} {B : Nat} (hq : ∀ b, P b → b < B) {ls : List ByteArray} {al : Option Addr} (h : LQ W P ls al) : LA W B ls al := by
  rcases h with rfl | ⟨b, o, e, hp, hc⟩
  · exact .inl rfl
  · exact .inr ⟨b, o, e, hq b hp, fun i hi => by rw [List.length_map] at hi; rw [List.getElem_map]; exact hc i hi⟩
theorem KQ.toKT {W : World} {P : Nat → Prop} {B : Nat} (hq : ∀ b, P b → b < B) : ∀ {d : Nat} {ks : List Ty} {ak : Option Addr}, KQ W P d ks ak → KT W B d ks ak
  | 0, _, _, h => h
  | d + 1, ks, ak, h => by
    rcases h with h | ⟨b, o, h1, h2, h3⟩
    · exact .inl h
    · refine .inr ⟨b, o, h1, hq b h2, fun i hi => ?_⟩
      obtain ⟨al, cl, ak', ck', e, f, g, k⟩ := h3 i hi
      exact ⟨al, cl, ak', ck', e, f, g.toLA hq, KQ.toKT hq k⟩
/-- new since w -/
def NW (w W : World) (b : Nat) : Prop := w.heap.size ≤ b ∧ b < W.heap.size
/-- a type in memory that is new since w -/
structure GT (w W : World) (d : Nat) (t : Ty) (al : Option Addr) (cl : Nat) (ak : Option Addr) (ck : Nat) : Prop where
  bd : TyBd t cl ck
  la : LQ W (NW w W) t.labels al
  ka : KQ W (NW w W) d t.kids ak
theorem GT.keep {w W W' : World} {rb d : Nat} {t : Ty} {al : Option Addr} {cl : Nat} {ak : Option Addr} {ck : Nat} (h : GT w W d t al cl ak ck) (hf : FR rb W W') (hr : rb < w.heap.size) : GT w W' d t al cl ak ck :=
  ⟨h.bd, h.la.keep (fun _ _ hb => hf.cellO hb.2 (by have := hb.1; omega)) (fun b hb => ⟨hb.1, Nat.lt_of_lt_of_le hb.2 hf.size⟩), h.ka.keep (fun _ _ hb => hf.cellO hb.2 (by have := hb.1; omega)) (fun b hb => ⟨hb.1, Nat.lt_of_lt_of_le hb.2 hf.size⟩)⟩
theorem GT.old {w w0 W : World} {d : Nat} {t : Ty} {al : Option Addr} {cl : Nat} {ak : Option Addr} {ck : Nat} (h : GT w W d t al cl ak ck) (hw : w0.heap.size ≤ w.heap.size) : GT w0 W d t al cl ak ck :=
  ⟨h.bd, h.la.keep (fun _ _ _ => rfl) (fun _ hb => ⟨Nat.le_trans hw hb.1, hb.2⟩), h.ka.keep (fun _ _ _ => rfl) (fun _ hb => ⟨Nat.le_trans hw hb.1, hb.2⟩)⟩
/-- a block for a type that is still empty -/
structure ZT (W : World) (b : Nat) : Prop where
  lt : b < W.heap.size
  c0 : W.cell? ⟨b, 0, none⟩ = some (.int .i64 0)
  c1 : W.cell? ⟨b, 1, none⟩ = some (.int .i64 0)
  c2 : W.cell? ⟨b, 2, none⟩ = some (.string ⟨#[]⟩)
  c3 : W.cell? ⟨b, 3, none⟩ = some (.slice none 0 0)
  c4 : W.cell? ⟨b, 4, none⟩ = some (.slice none 0 0)
  f0 : W.frozen? ⟨b, 0, none⟩ = false
  f1 : W.frozen? ⟨b, 1, none⟩ = false
  f2 : W.frozen? ⟨b, 2, none⟩ = false
  f3 : W.frozen? ⟨b, 3, none⟩ = false
  f4 : W.frozen? ⟨b, 4, none⟩ = false
theorem ZT.new (W : World) : ZT (W.alloc (.cells #[.int .i64 0, .int .i64 0, .string ⟨#[]⟩, .slice none 0 0, .slice none 0 0] 45)) W.heap.size :=
  ⟨by simp, by go_cell, by go_cell, by go_cell, by go_cell, by go_cell, by go_simp, by go_simp, by go_simp, by go_simp, by go_simp⟩
theorem FR.frozenO {pb : Nat} {w w' : World} (h : FR pb w w') {b o : Nat} (hb : b < w.heap.size) (hn : b ≠ pb) : w'.frozen? ⟨b, o, none⟩ = w.frozen? ⟨b, o, none⟩ := by
  have := h.block b hb (fun e => hn (by injection e))
  unfold World.frozen?
  simp only [this]
theorem ZT.keep {W W' : World} {rb b : Nat} (h : ZT W b) (hf : FR rb W W') (hn : b ≠ rb) : ZT W' b :=
  ⟨Nat.lt_of_lt_of_le h.lt hf.size, (hf.cellO h.lt hn).trans h.c0, (hf.cellO h.lt hn).trans h.c1, (hf.cellO h.lt hn).trans h.c2, (hf.cellO h.lt hn).trans h.c3, (hf.cellO h.lt hn).trans h.c4, (hf.frozenO h.lt hn).trans h.f0, (hf.frozenO h.lt hn).trans h.f1, (hf.frozenO h.lt hn).trans h.f2, (hf.frozenO h.lt hn).trans h.f3, (hf.frozenO h.lt hn).trans h.f4⟩
theorem ZT.st {W : World} {b : Nat} (h : ZT W b) (t : Ty) (al : Option Addr) (cl : Nat) (ak : Option Addr) (ck : Nat) : TyAt (st5 W b 0 (.int .i64 t.kind) (.int .i64 t.so) (.string t.name) (.slice al t.labels.length cl) (.slice ak t.kids.length ck)) b 0 t al cl ak ck :=
  st5_at W b 0 t al cl ak ck (by
    intro j hj
    have : j = 0 ∨ j = 1 ∨ j = 2 ∨ j = 3 ∨ j = 4 := by omega
    rcases this with rfl | rfl | rfl | rfl | rfl
    · exact ⟨_, h.c0⟩
    · exact ⟨_, h.c1⟩
    · exact ⟨_, h.c2⟩
    · exact ⟨_, h.c3⟩
    · exact ⟨_, h.c4⟩)
theorem FR.setN {rb b o : Nat} {w W : World} (h : FR rb w W) (hb : w.heap.size ≤ b) (v : Value) : FR rb w (W.setCell ⟨b, o, none⟩ v) :=
  ⟨h.os, h.tape, h.output, by simpa using h.size, fun k hk hn => (Below.heap_setCell W _ v k (fun e => by simp at e; omega)).trans (h.block k hk hn)⟩
theorem FR.st {rb b : Nat} {w W : World} (h : FR rb w W) (hb : w.heap.size ≤ b) (v0 v1 v2 v3 v4 : Value) : FR rb w (st5 W b 0 v0 v1 v2 v3 v4) := by
  unfold st5
  exact ((((h.setN hb _).setN hb _).setN hb _).setN hb _).setN hb _
/-- behind the store of what is handed back, a type that is new since w is as it was -/
theorem GT.st {w w1 W : World} {d b : Nat} {t : Ty} {al : Option Addr} {cl : Nat} {ak : Option Addr} {ck : Nat} (h : GT w1 W d t al cl ak ck) (hb : b < w1.heap.size) (v0 v1 v2 v3 v4 : Value) (hw : w.heap.size ≤ w1.heap.size) : GT w (st5 W b 0 v0 v1 v2 v3 v4) d t al cl ak ck :=
  ⟨h.bd, h.la.keep (fun b' _ hb' => st5_other _ _ _ _ _ _ _ _ _ _ (.inl (by have := hb'.1; omega))) (fun b' hb' => ⟨Nat.le_trans hw hb'.1, by rw [st5_size]; exact hb'.2⟩),
    h.ka.keep (fun b' _ hb' => st5_other _ _ _ _ _ _ _ _ _ _ (.inl (by have := hb'.1; omega))) (fun b' hb' => ⟨Nat.le_trans hw hb'.1, by rw [st5_size]; exact hb'.2⟩)⟩
theorem RS.st {W : World} {rb b p : Nat} {s : ByteArray} (h : RS W rb s p) (hn : b ≠ rb) (v0 v1 v2 v3 v4 : Value) : RS (st5 W b 0 v0 v1 v2 v3 v4) rb s p :=
  ⟨(st5_other _ _ _ _ _ _ _ _ _ _ (.inl (Ne.symm hn))).trans h.c0, (st5_other _ _ _ _ _ _ _ _ _ _ (.inl (Ne.symm hn))).trans h.c1, (st5_other _ _ _ _ _ _ _ _ _ _ (.inl (Ne.symm hn))).trans h.c2, by rw [st5_frozen]; exact h.fz, h.le, h.sz⟩
/-- a type without parts -/
theorem GT.leaf (w W : World) (d : Nat) (k so : Int) (nm : ByteArray) (h1 : nm.size ≤ 9223372036854775807) : GT w W d ⟨k, so, nm, [], []⟩ none 0 none 0 := by
  refine ⟨⟨h1, fun l hl => (by cases hl), Nat.le_refl _, by omega, Nat.le_refl _, by omega⟩, .inl rfl, ?_⟩
  cases d with
  | zero => rfl
  | succ d => exact .inl rfl
/-- a type of one part, which lies in a literal -/
theorem GT.one {w w1 W : World} {n b : Nat} {t : Ty} {al : Option Addr} {cl : Nat} {ak : Option Addr} {ck : Nat} (hg : GT w1 W n t al cl ak ck) (hw : w.heap.size ≤ b) (hb : b < w1.heap.size) (h1 : w1.heap.size ≤ W.heap.size) (k so : Int) (nm : ByteArray) (hnm : nm.size ≤ 9223372036854775807) (v0 v1 v2 v3 v4 : Value) :
    GT w (st5 (W.alloc (.cells #[.int .i64 t.kind, .int .i64 t.so, .string t.name, .slice al t.labels.length cl, .slice ak t.kids.length ck] 45)) b 0 v0 v1 v2 v3 v4) (n + 1) ⟨k, so, nm, [], [t]⟩ none 0 (some ⟨W.heap.size, 0, none⟩) 1 := by
  have hn : ∀ o, (st5 (W.alloc (.cells #[.int .i64 t.kind, .int .i64 t.so, .string t.name, .slice al t.labels.length cl, .slice ak t.kids.length ck] 45)) b 0 v0 v1 v2 v3 v4).cell? ⟨W.heap.size, o, none⟩ = (#[.int .i64 t.kind, .int .i64 t.so, .string t.name, .slice al t.labels.length cl, .slice ak t.kids.length ck] : Array Value)[o]? := fun o =>
    (st5_other _ _ _ _ _ _ _ _ _ _ (.inl (by omega))).trans (World.cell?_alloc_new _ _ _ _)
  have hk : ∀ b' o, NW w1 W b' → (st5 (W.alloc (.cells #[.int .i64 t.kind, .int .i64 t.so, .string t.name, .slice al t.labels.length cl, .slice ak t.kids.length ck] 45)) b 0 v0 v1 v2 v3 v4).cell? ⟨b', o, none⟩ = W.cell? ⟨b', o, none⟩ := fun b' o hb' =>
    (st5_other _ _ _ _ _ _ _ _ _ _ (.inl (by have := hb'.1; omega))).trans ((FR.al (pb := W.heap.size) _).cellO hb'.2 (by have := hb'.2; omega))
  have hq : ∀ b', NW w1 W b' → NW w (st5 (W.alloc (.cells #[.int .i64 t.kind, .int .i64 t.so, .string t.name, .slice al t.labels.length cl, .slice ak t.kids.length ck] 45)) b 0 v0 v1 v2 v3 v4) b' := fun b' hb' => ⟨by have := hb'.1; omega, by rw [st5_size]; have := hb'.2; simp; omega⟩
  refine ⟨⟨hnm, fun l hl => (by cases hl), Nat.le_refl _, by omega, Nat.le_refl _, by omega⟩, .inl rfl, .inr ⟨W.heap.size, 0, rfl, ⟨by omega, by rw [st5_size]; simp⟩, fun i hi => ?_⟩⟩
  have h0 : i = 0 := by simp at hi; omega
  subst h0
  exact ⟨al, cl, ak, ck, ⟨hn 0, hn 1, hn 2, hn 3, hn 4⟩, hg.bd, hg.la.keep hk hq, hg.ka.keep hk hq⟩
/- the readings' contracts, by what they come to -/
theorem readVar_ok {l r : List UInt8} {nm : ByteArray} (h : rdVar l = .ok (nm, r)) (rb p : Nat) (s : ByteArray) (w : World) (hr : RS w rb s p) (hl : rs s p = l) :
    Calls Tryd.prog 59 #[.pointer (some ⟨rb, 0, none⟩), .func (.func 60) #[] #[]] w fun e w' => e = .returned (.string nm) ∧ (∃ p', RS w' rb s p' ∧ rs s p' = r) ∧ FR rb w w' := by
  have c := readVar_any rb p s w hr
  rw [hl, h] at c
  simp only [GPost] at c
  exact c.mono fun e w' ⟨⟨v, e1, e2, h3⟩, h4⟩ => ⟨by rw [e1, e2], h3, h4⟩
theorem readVar_bad {l r : List UInt8} (h : rdVar l = .error r) (rb p : Nat) (s : ByteArray) (w : World) (hr : RS w rb s p) (hl : rs s p = l) :
    Calls Tryd.prog 59 #[.pointer (some ⟨rb, 0, none⟩), .func (.func 60) #[] #[]] w fun e w' => e = .panicked (thrown s r) ∧ FR rb w w' := by
  have c := readVar_any rb p s w hr
  rw [hl, h] at c
  simpa only [GPost] using c
theorem readSort_ok {l r : List UInt8} {so : Int} (h : rdSort l = .ok (so, r)) (rb p : Nat) (s : ByteArray) (w : World) (hr : RS w rb s p) (hl : rs s p = l) :
    Calls Tryd.prog 97 #[.pointer (some ⟨rb, 0, none⟩)] w fun e w' => e = .returned (.int .i64 so) ∧ (∃ p', RS w' rb s p' ∧ rs s p' = r) ∧ FR rb w w' := by
  have c := readSort_any rb p s w hr
  rw [hl, h] at c
  simp only [GPost] at c
  exact c.mono fun e w' ⟨⟨v, e1, e2, h3⟩, h4⟩ => ⟨by rw [e1, e2], h3, h4⟩
theorem readSort_bad {l r : List UInt8} (h : rdSort l = .error r) (rb p : Nat) (s : ByteArray) (w : World) (hr : RS w rb s p) (hl : rs s p = l) :
    Calls Tryd.prog 97 #[.pointer (some ⟨rb, 0, none⟩)] w fun e w' => e = .panicked (thrown s r) ∧ FR rb w w' := by
  have c := readSort_any rb p s w hr
  rw [hl, h] at c
  simpa only [GPost] using c
theorem need_good {c : UInt8} {l r : List UInt8} (h : need c l = .ok r) (rb p : Nat) (s : ByteArray) (w : World) (hr : RS w rb s p) (hl : rs s p = l) :
    Calls Tryd.prog 61 #[.pointer (some ⟨rb, 0, none⟩), .string ⟨#[c]⟩] w fun e w' => e = .returned (.tuple #[]) ∧ (∃ p', RS w' rb s p' ∧ rs s p' = r) ∧ FR rb w w' := by
  have c := need_any rb p s c w hr
  rw [hl, h] at c
  simp only [NPost] at c
  exact c.mono fun e w' ⟨⟨h1, h2⟩, h3⟩ => ⟨h1, h2, h3⟩
theorem need_bad {c : UInt8} {l r : List UInt8} (h : need c l = .error r) (rb p : Nat) (s : ByteArray) (w : World) (hr : RS w rb s p) (hl : rs s p = l) :
    Calls Tryd.prog 61 #[.pointer (some ⟨rb, 0, none⟩), .string ⟨#[c]⟩] w fun e w' => e = .panicked (thrown s r) ∧ FR rb w w' := by
  have c := need_any rb p s c w hr
  rw [hl, h] at c
  simpa only [NPost] using c
/-- what a reading of a type hands back -/
def TyR (w : World) (d : Nat) (W : World) (t : Ty) (v : Value) : Prop := ∃ al cl ak ck, v = tyVal t al cl ak ck ∧ GT w W d t al cl ak ck
def RDSaid (n : Nat) : Prop := ∀ (rb p : Nat) (s : ByteArray) (w : World), RS w rb s p → (rs s p).length < n →
  Calls Tryd.prog 41 #[.pointer (some ⟨rb, 0, none⟩)] w fun e w' => GPost s rb (TyR w n) (rdT n (rs s p)) e w' ∧ FR rb w w'
theorem read_ok {n : Nat} (hR : RDSaid n) {l r : List UInt8} {t : Ty} (h : rdT n l = .ok (t, r)) (hn : l.length < n) (rb p : Nat) (s : ByteArray) (w : World) (hr : RS w rb s p) (hl : rs s p = l) :
    Calls Tryd.prog 41 #[.pointer (some ⟨rb, 0, none⟩)] w fun e w' => (∃ al cl ak ck, e = .returned (.agg #[.int .i64 t.kind, .int .i64 t.so, .string t.name, .slice al t.labels.length cl, .slice ak t.kids.length ck]) ∧ GT w w' n t al cl ak ck) ∧ (∃ p', RS w' rb s p' ∧ rs s p' = r) ∧ FR rb w w' := by
  have c := hR rb p s w hr (by rw [hl]; exact hn)
  rw [hl, h] at c
  simp only [GPost] at c
  exact c.mono fun e w' ⟨⟨v, e1, ⟨al, cl, ak, ck, e2, hg⟩, h3⟩, h4⟩ => ⟨⟨al, cl, ak, ck, by rw [e1, e2]; rfl, hg⟩, h3, h4⟩
theorem read_bad {n : Nat} (hR : RDSaid n) {l r : List UInt8} (h : rdT n l = .error r) (hn : l.length < n) (rb p : Nat) (s : ByteArray) (w : World) (hr : RS w rb s p) (hl : rs s p = l) :
    Calls Tryd.prog 41 #[.pointer (some ⟨rb, 0, none⟩)] w fun e w' => e = .panicked (thrown s r) ∧ FR rb w w' := by
  have c := hR rb p s w hr (by rw [hl]; exact hn)
  rw [hl, h] at c
  simpa only [GPost] using c
end Go.Proofs.YtfmegfgmkeicnaaDoor
