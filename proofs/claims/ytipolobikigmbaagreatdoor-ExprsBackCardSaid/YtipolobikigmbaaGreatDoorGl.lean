/-
  Expressions in new blocks; rebuilt's blocks; make of a list of expressions.
-/
import Derived.Test.YtipolobikigmbaaGreatDoorYc
import Derived.Laws.MakeOwn
import Derived.Test.YtipolobikigmbaaGreatDoorGk
import Derived.Test.YtipolobikigmbaaGreatDoorKn
namespace Go.Proofs.YtipolobikigmbaaGreatDoor
open Go.RowKit Go.Shelf

/-- rebuilt's blocks: what was handed in, what it hands back, the part -/
structure RB (w : World) (x : Ex) (ao : Option Addr) (cap p : Nat) (y5 : Value) (W : World) : Prop where
  k5 : W.cell? ⟨w.heap.size, 5, none⟩ = some (.slice ao x.kids.length cap)
  z : ZE W (w.heap.size + 1)
  p0 : W.cell? ⟨p, 0, none⟩ = some (.int .i64 x.kind)
  p1 : W.cell? ⟨p, 1, none⟩ = some (.string x.name)
  p2 : W.cell? ⟨p, 2, none⟩ = some (.int .i64 x.so)
  p3 : W.cell? ⟨p, 3, none⟩ = some (.int .i64 x.n)
  p4 : W.cell? ⟨p, 4, none⟩ = some (.string x.s)
  p5 : W.cell? ⟨p, 5, none⟩ = some y5
  pf : W.frozen? ⟨p, 5, none⟩ = false
  pl : p < W.heap.size
  pg : w.heap.size + 2 ≤ p
  bl : Below w.heap.size w W
theorem RB.keep {w : World} {x : Ex} {ao : Option Addr} {cap p : Nat} {y5 : Value} {W W' : World} (h : RB w x ao cap p y5 W) (hb : Below W.heap.size W W') : RB w x ao cap p y5 W' := by
  have hl : w.heap.size < W.heap.size := Nat.lt_trans (Nat.lt_succ_self _) h.z.lt
  have hp := h.pl
  exact ⟨(hb.cell (p := ⟨_, 5, none⟩) hl).trans h.k5, h.z.keep hb, (hb.cell (p := ⟨_, 0, none⟩) hp).trans h.p0, (hb.cell (p := ⟨_, 1, none⟩) hp).trans h.p1, (hb.cell (p := ⟨_, 2, none⟩) hp).trans h.p2, (hb.cell (p := ⟨_, 3, none⟩) hp).trans h.p3, (hb.cell (p := ⟨_, 4, none⟩) hp).trans h.p4, (hb.cell (p := ⟨_, 5, none⟩) hp).trans h.p5, (hb.frozen (p := ⟨_, 5, none⟩) hp).trans h.pf, Nat.lt_of_lt_of_le hp hb.size, h.pg, h.bl.trans (hb.mono h.bl.size)⟩

/-- a list of expressions, of so many levels at most, in blocks of which P holds -/
def KR (W : World) (P : Nat → Prop) : Nat → List Ex → Option Addr → Prop
  | 0, ks, _ => ks = []
  | d + 1, ks, ao => ks = [] ∨ ∃ b o, ao = some ⟨b, o, none⟩ ∧ P b ∧ ∀ i (h : i < ks.length), ∃ ao' cap', ExAt W b (o + i * 6) ks[i] ao' cap' ∧ ExBd ks[i] cap' ∧ KR W P d ks[i].kids ao'
theorem KR.of_nil {W : World} {P : Nat → Prop} {d : Nat} {ks : List Ex} {ao : Option Addr} (h : ks = []) : KR W P d ks ao := by
  cases d with
  | zero => exact h
  | succ d => exact .inl h
theorem KR.keep {W W' : World} {P Q : Nat → Prop} (hb : ∀ b o, P b → W'.cell? ⟨b, o, none⟩ = W.cell? ⟨b, o, none⟩) (hq : ∀ b, P b → Q b) : ∀ {d : Nat} {ks : List Ex} {ao : Option Addr}, KR W P d ks ao → KR W' Q d ks ao
  | 0, _, _, h => h
  | d + 1, ks, ao, h => by
    rcases h with h | ⟨b, o, h1, h2, h3⟩
    · exact .inl h
    · refine .inr ⟨b, o, h1, hq b h2, fun i hi => ?_⟩
      obtain ⟨ao', cap', e, f, g⟩ := h3 i hi
      exact ⟨ao', cap', ⟨(hb b _ h2).trans e.c0, (hb b _ h2).trans e.c1, (hb b _ h2).trans e.c2, (hb b _ h2).trans e.c3, (hb b _ h2).trans e.c4, (hb b _ h2).trans e.c5⟩, f, KR.keep hb hq g⟩
theorem KR.toKA {W : World} {P : Nat → Prop} {B : Nat} (hq : ∀ b, P b → b < B) : ∀ {d : Nat} {ks : List Ex} {ao : Option Addr}, KR W P d ks ao → KA W B d ks ao
  | 0, _, _, h => h
  | d + 1, ks, ao, h => by
    rcases h with h | ⟨b, o, h1, h2, h3⟩
    · exact .inl h
    · refine .inr ⟨b, o, h1, hq b h2, fun i hi => ?_⟩
      obtain ⟨ao', cap', e, f, g⟩ := h3 i hi
      exact ⟨ao', cap', e, f, KR.toKA hq g⟩

/-- six cells, stored one after another -/
def st6 (W : World) (b o : Nat) (v0 v1 v2 v3 v4 v5 : Value) : World :=
  (((((W.setCell ⟨b, o, none⟩ v0).setCell ⟨b, o + 1, none⟩ v1).setCell ⟨b, o + 2, none⟩ v2).setCell ⟨b, o + 3, none⟩ v3).setCell ⟨b, o + 4, none⟩ v4).setCell ⟨b, o + 5, none⟩ v5
theorem st6_other (W : World) (b o : Nat) (v0 v1 v2 v3 v4 v5 : Value) (b' o' : Nat) (h : b' ≠ b ∨ o' < o ∨ o + 6 ≤ o') : (st6 W b o v0 v1 v2 v3 v4 v5).cell? ⟨b', o', none⟩ = W.cell? ⟨b', o', none⟩ := by
  unfold st6
  have hne : ∀ j, j < 6 → (⟨b, o + j, none⟩ : Addr) ≠ ⟨b', o', none⟩ := by
    intro j hj e
    simp only [Addr.mk.injEq] at e
    omega
  rw [World.cell?_setCell_other _ _ _ _ (hne 5 (by omega)), World.cell?_setCell_other _ _ _ _ (hne 4 (by omega)), World.cell?_setCell_other _ _ _ _ (hne 3 (by omega)), World.cell?_setCell_other _ _ _ _ (hne 2 (by omega)), World.cell?_setCell_other _ _ _ _ (hne 1 (by omega))]
  exact World.cell?_setCell_other _ _ _ _ (hne 0 (by omega))
theorem st6_at (W : World) (b o : Nat) (x : Ex) (ao : Option Addr) (cap : Nat) (h : ∀ j, j < 6 → ∃ v, W.cell? ⟨b, o + j, none⟩ = some v) : ExAt (st6 W b o (.int .i64 x.kind) (.string x.name) (.int .i64 x.so) (.int .i64 x.n) (.string x.s) (.slice ao x.kids.length cap)) b o x ao cap := by
  obtain ⟨v0, h0⟩ := h 0 (by omega)
  obtain ⟨v1, h1⟩ := h 1 (by omega)
  obtain ⟨v2, h2⟩ := h 2 (by omega)
  obtain ⟨v3, h3⟩ := h 3 (by omega)
  obtain ⟨v4, h4⟩ := h 4 (by omega)
  obtain ⟨v5, h5⟩ := h 5 (by omega)
  rw [Nat.add_zero] at h0
  unfold st6
  constructor <;> go_cell
theorem st6_frozen (W : World) (b o : Nat) (v0 v1 v2 v3 v4 v5 : Value) (p : Addr) : (st6 W b o v0 v1 v2 v3 v4 v5).frozen? p = W.frozen? p := by
  unfold st6; simp only [World.frozen?_setCell]
theorem st6_size (W : World) (b o : Nat) (v0 v1 v2 v3 v4 v5 : Value) : (st6 W b o v0 v1 v2 v3 v4 v5).heap.size = W.heap.size := by
  unfold st6; simp
theorem st6_below (B : Nat) (w W : World) (b o : Nat) (v0 v1 v2 v3 v4 v5 : Value) (h : Below B w W) (hb : B ≤ b) : Below B w (st6 W b o v0 v1 v2 v3 v4 v5) := by
  unfold st6; go_grown

theorem RB.made1 {w W : World} {x : Ex} {ao : Option Addr} {cap : Nat} (h : FW w x ao cap W) : RB w x ao cap W.heap.size (.slice none 0 0) (W.alloc (.cells #[.int .i64 x.kind, .string x.name, .int .i64 x.so, .int .i64 x.n, .string x.s, .slice none 0 0] 39)) := by
  have hb : Below W.heap.size W (W.alloc (.cells #[.int .i64 x.kind, .string x.name, .int .i64 x.so, .int .i64 x.n, .string x.s, .slice none 0 0] 39)) := (Below.refl _ _).alloc (Nat.le_refl _) _
  have h2 := h.keep hb
  have hl := h.z.lt
  exact ⟨h2.c5, h2.z, by go_cell, by go_cell, by go_cell, by go_cell, by go_cell, by go_cell, by go_simp, by simp, by omega, h2.bl⟩
theorem RB.made2 {w W : World} {x : Ex} {ao : Option Addr} {cap p : Nat} (h : FW w x ao cap W) (hz : ZE W p) (hp : w.heap.size + 2 ≤ p) : RB w x ao cap p (.slice none 0 0) (st6 W p 0 (.int .i64 x.kind) (.string x.name) (.int .i64 x.so) (.int .i64 x.n) (.string x.s) (.slice none 0 0)) := by
  have hc : ∀ b o, b ≠ p → (st6 W p 0 (.int .i64 x.kind) (.string x.name) (.int .i64 x.so) (.int .i64 x.n) (.string x.s) (.slice none 0 0)).cell? ⟨b, o, none⟩ = W.cell? ⟨b, o, none⟩ := fun b o hb => st6_other _ _ _ _ _ _ _ _ _ _ _ (.inl hb)
  obtain ⟨hl, z0, z1, z2, z3, z4, z5, zf⟩ := hz
  have hx := st6_at W p 0 ⟨x.kind, x.name, x.so, x.n, x.s, []⟩ none 0 (by
    intro j hj
    have : j = 0 ∨ j = 1 ∨ j = 2 ∨ j = 3 ∨ j = 4 ∨ j = 5 := by omega
    rcases this with rfl | rfl | rfl | rfl | rfl | rfl
    · exact ⟨_, z0⟩
    · exact ⟨_, z1⟩
    · exact ⟨_, z2⟩
    · exact ⟨_, z3⟩
    · exact ⟨_, z4⟩
    · exact ⟨_, z5⟩)
  obtain ⟨ul, u0, u1, u2, u3, u4, u5, uf⟩ := h.z
  refine ⟨(hc _ _ (by omega)).trans h.c5, ⟨by rw [st6_size]; exact ul, (hc _ _ (by omega)).trans u0, (hc _ _ (by omega)).trans u1, (hc _ _ (by omega)).trans u2, (hc _ _ (by omega)).trans u3, (hc _ _ (by omega)).trans u4, (hc _ _ (by omega)).trans u5, fun o => by rw [st6_frozen]; exact uf o⟩, hx.c0, hx.c1, hx.c2, hx.c3, hx.c4, hx.c5, by rw [st6_frozen]; exact zf 5, by rw [st6_size]; exact hl, hp, st6_below _ _ _ _ _ _ _ _ _ _ _ h.bl (by omega)⟩

theorem infoE : (Tryz.prog.info? 39).map (fun i => (i.zero, i.size)) = some (some (.agg #[.int .i64 0, .string ⟨#[]⟩, .int .i64 0, .int .i64 0, .string ⟨#[]⟩, .slice none 0 0]), 6) := by kernel_rfl
theorem infoEb : ((Tryz.prog.info? 39).map (fun i => decide (i.bytes ≤ 1000))) = some true := by kernel_rfl
theorem makeE (n : Nat) (hn : n ≤ 1000) : ∃ Z : Array Value, Z.size = n * 6 ∧ ∀ w : World, (Instr.makeSlice 37 (.int .i64 (n : Int)) (.int .i64 (n : Int))).run Tryz.prog w = .ok (.slice (some ⟨w.heap.size, 0, none⟩) n n) (w.alloc (.cells Z 39)) := by
  obtain ⟨i, hi, hx⟩ := Option.map_eq_some_iff.1 infoE
  have hb := infoEb
  rw [hi] at hb
  simp only [Option.map_some, Option.some.injEq, decide_eq_true_eq] at hb
  simp only [Prod.mk.injEq] at hx
  obtain ⟨h1, h2⟩ := hx
  refine ⟨madeCells (Value.agg #[.int .i64 0, .string ⟨#[]⟩, .int .i64 0, .int .i64 0, .string ⟨#[]⟩, .slice none 0 0]).cells (n * i.size), ?_, fun w => ?_⟩
  · rw [h2, size_madeCells]
  · have hm : n * i.bytes ≤ 1000 * 1000 := Nat.mul_le_mul hn hb
    have := run_make (P := Tryz.prog) w 37 39 i _ Tryz.underlying37 hi h1 .i64 .i64 (n : Int) (n : Int) (by omega) (by omega) (by rw [← Int.natCast_mul, Nat.mul_comm]; omega) (by omega)
    simpa using this
/-- the Kids' cells: none, or a block of their own behind the part's -/
def MK (W : World) (p n : Nat) (am : Option Addr) : Prop := (n = 0 ∧ am = none) ∨ ∃ m, am = some ⟨m, 0, none⟩ ∧ p < m ∧ m < W.heap.size ∧ ∀ j, j < n * 6 → (∃ v, W.cell? ⟨m, j, none⟩ = some v) ∧ W.frozen? ⟨m, j, none⟩ = false
theorem MK.new (W : World) (Z : Array Value) (p n : Nat) (hZ : Z.size = n * 6) (hp : p < W.heap.size) : MK (W.alloc (.cells Z 39)) p n (some ⟨W.heap.size, 0, none⟩) := by
  refine .inr ⟨_, rfl, hp, by simp, fun j hj => ⟨⟨Z[j]'(by omega), ?_⟩, by go_simp⟩⟩
  rw [World.cell?_alloc_new]
  exact Array.getElem?_eq_getElem _
theorem MK.keep {W W' : World} {p n : Nat} {am : Option Addr} (h : MK W p n am) (hb : Below W.heap.size W W') : MK W' p n am := by
  rcases h with h | ⟨m, h1, h2, h3, h4⟩
  · exact .inl h
  · refine .inr ⟨m, h1, h2, Nat.lt_of_lt_of_le h3 hb.size, fun j hj => ?_⟩
    obtain ⟨⟨v, hv⟩, hf⟩ := h4 j hj
    exact ⟨⟨v, (hb.cell (p := ⟨m, j, none⟩) h3).trans hv⟩, (hb.frozen (p := ⟨m, j, none⟩) h3).trans hf⟩
/-- the Kids made so far -/
def RO (G : Ex → Ex) (W : World) (e : Nat) (ks : List Ex) (k : Nat) (am : Option Addr) : Prop :=
  ∀ i (h : i < ks.length), i < k → ∃ m ao cap, am = some ⟨m, 0, none⟩ ∧ ExAt W m (i * 6) (G ks[i]) ao cap ∧ ExBd (G ks[i]) cap ∧ KR W (fun b => m < b ∧ b < W.heap.size) e (G ks[i]).kids ao
theorem RO.keep {G : Ex → Ex} {W W' : World} {e : Nat} {ks : List Ex} {k : Nat} {am : Option Addr} (h : RO G W e ks k am) (hm : ∀ m, am = some ⟨m, 0, none⟩ → m < W.heap.size) (hb : Below W.heap.size W W') : RO G W' e ks k am := by
  intro i hi hk
  obtain ⟨m, ao, cap, h1, h2, h3, h4⟩ := h i hi hk
  refine ⟨m, ao, cap, h1, h2.keep hb (hm m h1), h3, h4.keep (fun b o hq => hb.cell (p := ⟨b, o, none⟩) hq.2) (fun b hq => ⟨hq.1, Nat.lt_of_lt_of_le hq.2 hb.size⟩)⟩
end Go.Proofs.YtipolobikigmbaaGreatDoor
/-
  How an expression that has been read lies in memory; what a reading of expressions ends with.
-/
namespace Go.Proofs.YtipolobikigmbaaGreatDoor
open Go.RowKit Go.Shelf
/-- an expression in memory that is new since w -/
structure GE (w W : World) (d : Nat) (x : Ex) (ao : Option Addr) (cap : Nat) : Prop where
  bd : ExBd x cap
  ka : KR W (NW w W) d x.kids ao
theorem GE.keep {w W W' : World} {rb d : Nat} {x : Ex} {ao : Option Addr} {cap : Nat} (h : GE w W d x ao cap) (hf : FR rb W W') (hr : rb < w.heap.size) : GE w W' d x ao cap :=
  ⟨h.bd, h.ka.keep (fun _ _ hb => hf.cellO hb.2 (by have := hb.1; omega)) (fun b hb => ⟨hb.1, Nat.lt_of_lt_of_le hb.2 hf.size⟩)⟩
theorem GE.old {w w0 W : World} {d : Nat} {x : Ex} {ao : Option Addr} {cap : Nat} (h : GE w W d x ao cap) (hw : w0.heap.size ≤ w.heap.size) : GE w0 W d x ao cap :=
  ⟨h.bd, h.ka.keep (fun _ _ _ => rfl) (fun _ hb => ⟨Nat.le_trans hw hb.1, hb.2⟩)⟩
theorem GE.leaf {w W : World} {d : Nat} {x : Ex} {cap : Nat} (h : ExBd x cap) (hk : x.kids = []) (ao : Option Addr) : GE w W d x ao cap := ⟨h, KR.of_nil hk⟩
/-- an operator's expressions in one new block -/
theorem GE.ops {w W : World} {d b cap : Nat} {x : Ex} (hbd : ExBd x cap) (hw : w.heap.size ≤ b) (hb : b < W.heap.size) (h : ∀ i (h : i < x.kids.length), ∃ ao' cap', ExAt W b (0 + i * 6) x.kids[i] ao' cap' ∧ GE w W d x.kids[i] ao' cap') : GE w W (d + 1) x (some ⟨b, 0, none⟩) cap :=
  ⟨hbd, .inr ⟨b, 0, rfl, ⟨hw, hb⟩, fun i hi => by
    obtain ⟨ao', cap', e, g⟩ := h i hi
    exact ⟨ao', cap', e, g.bd, g.ka⟩⟩⟩
theorem GE.toKA {w W : World} {d : Nat} {x : Ex} {ao : Option Addr} {cap : Nat} (h : GE w W d x ao cap) : KA W W.heap.size d x.kids ao := h.ka.toKA fun _ hb => hb.2
/-- a panic with an error and where it can't go on -/
def thrownC (s : ByteArray) (c : Int) (r : List UInt8) : List PanicEntry := [{ v := .iface 30 (.agg #[.int .i64 c, .int .i64 ((s.size - r.length : Nat) : Int)]), recovered := false }]
theorem thrownC_at (s : ByteArray) (c : Int) (p : Nat) (h : p ≤ s.size) : thrownC s c (rs s p) = [{ v := .iface 30 (.agg #[.int .i64 c, .int .i64 (p : Int)]), recovered := false }] := by
  unfold thrownC; rw [rs_len, show s.size - (s.size - p) = p by omega]
theorem thrownC_3 (s : ByteArray) (r : List UInt8) : thrownC s 3 r = thrown s r := rfl
/-- more levels do no harm -/
theorem KR.more {W : World} {P : Nat → Prop} : ∀ {d : Nat} {ks : List Ex} {ao : Option Addr} (k : Nat), KR W P d ks ao → KR W P (d + k) ks ao
  | 0, ks, ao, k, h => KR.of_nil h
  | d + 1, ks, ao, k, h => by
    rw [Nat.add_right_comm]
    rcases h with h | ⟨b, o, h1, h2, h3⟩
    · exact .inl h
    · refine .inr ⟨b, o, h1, h2, fun i hi => ?_⟩
      obtain ⟨ao', cap', e, f, g⟩ := h3 i hi
      exact ⟨ao', cap', e, f, KR.more k g⟩
theorem GE.more {w W : World} {d : Nat} {x : Ex} {ao : Option Addr} {cap : Nat} (h : GE w W d x ao cap) {d' : Nat} (hd : d ≤ d') : GE w W d' x ao cap := by
  obtain ⟨k, rfl⟩ := Nat.exists_eq_add_of_le hd
  exact ⟨h.bd, h.ka.more k⟩
def ExR (w W : World) (x : Ex) (v : Value) : Prop := ∃ d ao cap, v = exVal x ao cap ∧ GE w W d x ao cap
/-- returned with the expression, the reader at the rest; or panicked -/
def EPost (s : ByteArray) (rb : Nat) (w : World) (x : RdE) (e : Ending) (w' : World) : Prop :=
  (∀ y r, x = .ok (y, r) → ∃ v, e = .returned v ∧ ExR w w' y v ∧ ∃ p', RS w' rb s p' ∧ rs s p' = r) ∧ (∀ c r, x = .error (c, r) → e = .panicked (thrownC s c r))
theorem EPost.yes {s : ByteArray} {rb : Nat} {w : World} {y : Ex} {r : List UInt8} {v : Value} {w' : World} {p' : Nat} (h1 : ExR w w' y v) (h2 : RS w' rb s p') (h3 : rs s p' = r) : EPost s rb w (.ok (y, r)) (.returned v) w' :=
  ⟨(fun _ _ h => by injection h with h; injection h with h4 h5; subst h4 h5; exact ⟨v, rfl, h1, p', h2, h3⟩), (fun _ _ h => by cases h)⟩
theorem EPost.no {s : ByteArray} {rb : Nat} {w : World} {c : Int} {r : List UInt8} {w' : World} : EPost s rb w (.error (c, r)) (.panicked (thrownC s c r)) w' :=
  ⟨(fun _ _ h => by cases h), (fun _ _ h => by injection h with h; injection h with h4 h5; subst h4 h5; rfl)⟩
/-- what an operand, an expression of so much fuel is promised to do -/
def EOSaid (Tabs : World → Prop) (s : ByteArray) (rb n : Nat) : Prop := ∀ (p : Nat) (w : World), Tabs w → RS w rb s p → 2 * (rs s p).length + 1 < n →
  Calls Tryz.prog 61 #[.pointer (some ⟨rb, 0, none⟩)] w fun e w' => EPost s rb w (rdX rdZ n none (rs s p)) e w' ∧ FR rb w w'
def EESaid (Tabs : World → Prop) (s : ByteArray) (rb n : Nat) : Prop := ∀ (k : Int) (p : Nat) (w : World), 1 ≤ k → k ≤ 6 → Tabs w → RS w rb s p → 2 * (rs s p).length + 2 < n →
  Calls Tryz.prog 32 #[.pointer (some ⟨rb, 0, none⟩), .int .i64 k] w fun e w' => EPost s rb w (rdX rdZ n (some k) (rs s p)) e w' ∧ FR rb w w'
theorem operand_ok {Tabs : World → Prop} {s : ByteArray} {rb n : Nat} (hO : EOSaid Tabs s rb n) {l r : List UInt8} {x : Ex} (h : rdX rdZ n none l = .ok (x, r)) (hn : 2 * l.length + 1 < n) (p : Nat) (w : World) (hT : Tabs w) (hr : RS w rb s p) (hl : rs s p = l) :
    Calls Tryz.prog 61 #[.pointer (some ⟨rb, 0, none⟩)] w fun e w' => (∃ d ao cap, e = .returned (.agg #[.int .i64 x.kind, .string x.name, .int .i64 x.so, .int .i64 x.n, .string x.s, .slice ao x.kids.length cap]) ∧ GE w w' d x ao cap) ∧ (∃ p', RS w' rb s p' ∧ rs s p' = r) ∧ FR rb w w' := by
  have c := hO p w hT hr (by rw [hl]; exact hn)
  rw [hl, h] at c
  refine c.mono fun e w' ⟨h1, h2⟩ => ?_
  obtain ⟨v, e1, ⟨d, ao, cap, e2, hg⟩, h3⟩ := h1.1 _ _ rfl
  exact ⟨⟨d, ao, cap, by rw [e1, e2]; rfl, hg⟩, h3, h2⟩
theorem operand_bad {Tabs : World → Prop} {s : ByteArray} {rb n : Nat} (hO : EOSaid Tabs s rb n) {l r : List UInt8} {c : Int} (h : rdX rdZ n none l = .error (c, r)) (hn : 2 * l.length + 1 < n) (p : Nat) (w : World) (hT : Tabs w) (hr : RS w rb s p) (hl : rs s p = l) :
    Calls Tryz.prog 61 #[.pointer (some ⟨rb, 0, none⟩)] w fun e w' => e = .panicked (thrownC s c r) ∧ FR rb w w' := by
  have c := hO p w hT hr (by rw [hl]; exact hn)
  rw [hl, h] at c
  exact c.mono fun e w' ⟨h1, h2⟩ => ⟨h1.2 _ _ rfl, h2⟩
theorem expression_ok {Tabs : World → Prop} {s : ByteArray} {rb n : Nat} (hE : EESaid Tabs s rb n) {k : Int} (k1 : 1 ≤ k) (k6 : k ≤ 6) {l r : List UInt8} {x : Ex} (h : rdX rdZ n (some k) l = .ok (x, r)) (hn : 2 * l.length + 2 < n) (p : Nat) (w : World) (hT : Tabs w) (hr : RS w rb s p) (hl : rs s p = l) :
    Calls Tryz.prog 32 #[.pointer (some ⟨rb, 0, none⟩), .int .i64 k] w fun e w' => (∃ d ao cap, e = .returned (.agg #[.int .i64 x.kind, .string x.name, .int .i64 x.so, .int .i64 x.n, .string x.s, .slice ao x.kids.length cap]) ∧ GE w w' d x ao cap) ∧ (∃ p', RS w' rb s p' ∧ rs s p' = r) ∧ FR rb w w' := by
  have c := hE k p w k1 k6 hT hr (by rw [hl]; exact hn)
  rw [hl, h] at c
  refine c.mono fun e w' ⟨h1, h2⟩ => ?_
  obtain ⟨v, e1, ⟨d, ao, cap, e2, hg⟩, h3⟩ := h1.1 _ _ rfl
  exact ⟨⟨d, ao, cap, by rw [e1, e2]; rfl, hg⟩, h3, h2⟩
theorem expression_bad {Tabs : World → Prop} {s : ByteArray} {rb n : Nat} (hE : EESaid Tabs s rb n) {k : Int} (k1 : 1 ≤ k) (k6 : k ≤ 6) {l r : List UInt8} {c : Int} (h : rdX rdZ n (some k) l = .error (c, r)) (hn : 2 * l.length + 2 < n) (p : Nat) (w : World) (hT : Tabs w) (hr : RS w rb s p) (hl : rs s p = l) :
    Calls Tryz.prog 32 #[.pointer (some ⟨rb, 0, none⟩), .int .i64 k] w fun e w' => e = .panicked (thrownC s c r) ∧ FR rb w w' := by
  have c := hE k p w k1 k6 hT hr (by rw [hl]; exact hn)
  rw [hl, h] at c
  exact c.mono fun e w' ⟨h1, h2⟩ => ⟨h1.2 _ _ rfl, h2⟩
end Go.Proofs.YtipolobikigmbaaGreatDoor
