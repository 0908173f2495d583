/-
  Expressions in new blocks; rebuilt's blocks; make of a list of expressions.
-/
import Derived.Test.YtecapnipkngniaaGreatDoorYc
import Derived.Laws.MakeOwn
import Derived.Test.YtecapnipkngniaaGreatDoorCo
import Derived.Test.YtecapnipkngniaaGreatDoorCb
import Derived.Test.YtecapnipkngniaaGreatDoorYb
namespace Go.Proofs.YtecapnipkngniaaGreatDoor
open Go.RowKit Go.Shelf

/-- rebuilt's blocks: what was handed in, what it hands back, the part -/
structure RB (w : World) (x : Ex) (ao : Option Addr) (cap p : Nat) (y5 : Value) (W : World) : Prop where
  k5 : W.cell? ⟨w.heap.size, 5, none⟩ = some (.slice ao x.kids.length cap)
  z : ZE W (w.heap.size + 1)
  p0 : W.cell? ⟨p, 0, none⟩ = some (.int .i64 x.kind)
  p1 : W.cell? ⟨p, 1, none⟩ = some (.string x.name)
  p2 : W.cell? ⟨p, 2, none⟩ = some (.int .i64 x.so)
  p3 : W.cell? ⟨p, 3, none⟩ = some (.int .i64 x.n)
  p4 : W.cell? ⟨p, 4, none⟩ = some (.string x.s)
  p5 : W.cell? ⟨p, 5, none⟩ = some y5
  pf : W.frozen? ⟨p, 5, none⟩ = false
  pl : p < W.heap.size
  pg : w.heap.size + 2 ≤ p
  bl : Below w.heap.size w W
theorem RB.keep {w : World} {x : Ex} {ao : Option Addr} {cap p : Nat} {y5 : Value} {W W' : World} (h : RB w x ao cap p y5 W) (hb : Below W.heap.size W W') : RB w x ao cap p y5 W' := by
  have hl : w.heap.size < W.heap.size := Nat.lt_trans (Nat.lt_succ_self _) h.z.lt
  have hp := h.pl
  exact ⟨(hb.cell (p := ⟨_, 5, none⟩) hl).trans h.k5, h.z.keep hb, (hb.cell (p := ⟨_, 0, none⟩) hp).trans h.p0, (hb.cell (p := ⟨_, 1, none⟩) hp).trans h.p1, (hb.cell (p := ⟨_, 2, none⟩) hp).trans h.p2, (hb.cell (p := ⟨_, 3, none⟩) hp).trans h.p3, (hb.cell (p := ⟨_, 4, none⟩) hp).trans h.p4, (hb.cell (p := ⟨_, 5, none⟩) hp).trans h.p5, (hb.frozen (p := ⟨_, 5, none⟩) hp).trans h.pf, Nat.lt_of_lt_of_le hp hb.size, h.pg, h.bl.trans (hb.mono h.bl.size)⟩

/-- a list of expressions, of so many levels at most, in blocks of which P holds -/
def KR (W : World) (P : Nat → Prop) : Nat → List Ex → Option Addr → Prop
  | 0, ks, _ => ks = []
  | d + 1, ks, ao => ks = [] ∨ ∃ b o, ao = some ⟨b, o, none⟩ ∧ P b ∧ ∀ i (h : i < ks.length), ∃ ao' cap', ExAt W b (o + i * 6) ks[i] ao' cap' ∧ ExBd ks[i] cap' ∧ KR W P d ks[i].kids ao'
theorem KR.of_nil {W : World} {P : Nat → Prop} {d : Nat} {ks : List Ex} {ao : Option Addr} (h : ks = []) : KR W P d ks ao := by
  cases d with
  | zero => exact h
  | succ d => exact .inl h
theorem KR.keep {W W' : World} {P Q : Nat → Prop} (hb : ∀ b o, P b → W'.cell? ⟨b, o, none⟩ = W.cell? ⟨b, o, none⟩) (hq : ∀ b, P b → Q b) : ∀ {d : Nat} {ks : List Ex} {ao : Option Addr}, KR W P d ks ao → KR W' Q d ks ao
  | 0, _, _, h => h
  | d + 1, ks, ao, h => by
    rcases h with h | ⟨b, o, h1, h2, h3⟩
    · exact .inl h
    · refine .inr ⟨b, o, h1, hq b h2, fun i hi => ?_⟩
      obtain ⟨ao', cap', e, f, g⟩ := h3 i hi
      exact ⟨ao', cap', ⟨(hb b _ h2).trans e.c0, (hb b _ h2).trans e.c1, (hb b _ h2).trans e.c2, (hb b _ h2).trans e.c3, (hb b _ h2).trans e.c4, (hb b _ h2).trans e.c5⟩, f, KR.keep hb hq g⟩
theorem KR.toKA {W : World} {P : Nat → Prop} {B : Nat} (hq : ∀ b, P b → b < B) : ∀ {d : Nat} {ks : List Ex} {ao : Option Addr}, KR W P d ks ao → KA W B d ks ao
  | 0, _, _, h => h
  | d + 1, ks, ao, h => by
    rcases h with h | ⟨b, o, h1, h2, h3⟩
    · exact .inl h
    · refine .inr ⟨b, o, h1, hq b h2, fun i hi => ?_⟩
      obtain ⟨ao', cap', e, f, g⟩ := h3 i hi
      exact ⟨ao', cap', e, f, KR.toKA hq g⟩

/-- six cells, stored one after another -/
def st6 (W : World) (b o : Nat) (v0 v1 v2 v3 v4 v5 : Value) : World :=
  (((((W.setCell ⟨b, o, none⟩ v0).setCell ⟨b, o + 1, none⟩ v1).setCell ⟨b, o + 2, none⟩ v2).setCell ⟨b, o + 3, none⟩ v3).setCell ⟨b, o + 4, none⟩ v4).setCell ⟨b, o + 5, none⟩ v5
theorem st6_other (W : World) (b o : Nat) (v0 v1 v2 v3 v4 v5 : Value) (b' o' : Nat) (h : b' ≠ b ∨ o' < o ∨ o + 6 ≤ o') : (st6 W b o v0 v1 v2 v3 v4 v5).cell? ⟨b', o', none⟩ = W.cell? ⟨b', o', none⟩ := by
  unfold st6
  have hne : ∀ j, j < 6 → (⟨b, o + j, none⟩ : Addr) ≠ ⟨b', o', none⟩ := by
    intro j hj e
    simp only [Addr.mk.injEq] at e
    omega
  rw [World.cell?_setCell_other _ _ _ _ (hne 5 (by omega)), World.cell?_setCell_other _ _ _ _ (hne 4 (by omega)), World.cell?_setCell_other _ _ _ _ (hne 3 (by omega)), World.cell?_setCell_other _ _ _ _ (hne 2 (by omega)), World.cell?_setCell_other _ _ _ _ (hne 1 (by omega))]
  exact World.cell?_setCell_other _ _ _ _ (hne 0 (by omega))
theorem st6_at (W : World) (b o : Nat) (x : Ex) (ao : Option Addr) (cap : Nat) (h : ∀ j, j < 6 → ∃ v, W.cell? ⟨b, o + j, none⟩ = some v) : ExAt (st6 W b o (.int .i64 x.kind) (.string x.name) (.int .i64 x.so) (.int .i64 x.n) (.string x.s) (.slice ao x.kids.length cap)) b o x ao cap := by
  obtain ⟨v0, h0⟩ := h 0 (by omega)
  obtain ⟨v1, h1⟩ := h 1 (by omega)
  obtain ⟨v2, h2⟩ := h 2 (by omega)
  obtain ⟨v3, h3⟩ := h 3 (by omega)
  obtain ⟨v4, h4⟩ := h 4 (by omega)
  obtain ⟨v5, h5⟩ := h 5 (by omega)
  rw [Nat.add_zero] at h0
  unfold st6
  constructor <;> go_cell
theorem st6_frozen (W : World) (b o : Nat) (v0 v1 v2 v3 v4 v5 : Value) (p : Addr) : (st6 W b o v0 v1 v2 v3 v4 v5).frozen? p = W.frozen? p := by
  unfold st6; simp only [World.frozen?_setCell]
theorem st6_size (W : World) (b o : Nat) (v0 v1 v2 v3 v4 v5 : Value) : (st6 W b o v0 v1 v2 v3 v4 v5).heap.size = W.heap.size := by
  unfold st6; simp
theorem st6_below (B : Nat) (w W : World) (b o : Nat) (v0 v1 v2 v3 v4 v5 : Value) (h : Below B w W) (hb : B ≤ b) : Below B w (st6 W b o v0 v1 v2 v3 v4 v5) := by
  unfold st6; go_grown

theorem RB.made1 {w W : World} {x : Ex} {ao : Option Addr} {cap : Nat} (h : FW w x ao cap W) : RB w x ao cap W.heap.size (.slice none 0 0) (W.alloc (.cells #[.int .i64 x.kind, .string x.name, .int .i64 x.so, .int .i64 x.n, .string x.s, .slice none 0 0] 26)) := by
  have hb : Below W.heap.size W (W.alloc (.cells #[.int .i64 x.kind, .string x.name, .int .i64 x.so, .int .i64 x.n, .string x.s, .slice none 0 0] 26)) := (Below.refl _ _).alloc (Nat.le_refl _) _
  have h2 := h.keep hb
  have hl := h.z.lt
  exact ⟨h2.c5, h2.z, by go_cell, by go_cell, by go_cell, by go_cell, by go_cell, by go_cell, by go_simp, by simp, by omega, h2.bl⟩
theorem RB.made2 {w W : World} {x : Ex} {ao : Option Addr} {cap p : Nat} (h : FW w x ao cap W) (hz : ZE W p) (hp : w.heap.size + 2 ≤ p) : RB w x ao cap p (.slice none 0 0) (st6 W p 0 (.int .i64 x.kind) (.string x.name) (.int .i64 x.so) (.int .i64 x.n) (.string x.s) (.slice none 0 0)) := by
  have hc : ∀ b o, b ≠ p → (st6 W p 0 (.int .i64 x.kind) (.string x.name) (.int .i64 x.so) (.int .i64 x.n) (.string x.s) (.slice none 0 0)).cell? ⟨b, o, none⟩ = W.cell? ⟨b, o, none⟩ := fun b o hb => st6_other _ _ _ _ _ _ _ _ _ _ _ (.inl hb)
  obtain ⟨hl, z0, z1, z2, z3, z4, z5, zf⟩ := hz
  have hx := st6_at W p 0 ⟨x.kind, x.name, x.so, x.n, x.s, []⟩ none 0 (by
    intro j hj
    have : j = 0 ∨ j = 1 ∨ j = 2 ∨ j = 3 ∨ j = 4 ∨ j = 5 := by omega
    rcases this with rfl | rfl | rfl | rfl | rfl | rfl
    · exact ⟨_, z0⟩
    · exact ⟨_, z1⟩
    · exact ⟨_, z2⟩
    · exact ⟨_, z3⟩
    · exact ⟨_, z4⟩
    · exact ⟨_, z5⟩)
  obtain ⟨ul, u0, u1, u2, u3, u4, u5, uf⟩ := h.z
  refine ⟨(hc _ _ (by omega)).trans h.c5, ⟨by rw [st6_size]; exact ul, (hc _ _ (by omega)).trans u0, (hc _ _ (by omega)).trans u1, (hc _ _ (by omega)).trans u2, (hc _ _ (by omega)).trans u3, (hc _ _ (by omega)).trans u4, (hc _ _ (by omega)).trans u5, fun o => by rw [st6_frozen]; exact uf o⟩, hx.c0, hx.c1, hx.c2, hx.c3, hx.c4, hx.c5, by rw [st6_frozen]; exact zf 5, by rw [st6_size]; exact hl, hp, st6_below _ _ _ _ _ _ _ _ _ _ _ h.bl (by omega)⟩

theorem infoE : (Tryz.prog.info? 26).map (fun i => (i.zero, i.size)) = some (some (.agg #[.int .i64 0, .string ⟨#[]⟩, .int .i64 0, .int .i64 0, .string ⟨#[]⟩, .slice none 0 0]), 6) := by kernel_rfl
theorem infoEb : ((Tryz.prog.info? 26).map (fun i => decide (i.bytes ≤ 1000))) = some true := by kernel_rfl
theorem makeE (n : Nat) (hn : n ≤ 1000) : ∃ Z : Array Value, Z.size = n * 6 ∧ ∀ w : World, (Instr.makeSlice 24 (.int .i64 (n : Int)) (.int .i64 (n : Int))).run Tryz.prog w = .ok (.slice (some ⟨w.heap.size, 0, none⟩) n n) (w.alloc (.cells Z 26)) := by
  obtain ⟨i, hi, hx⟩ := Option.map_eq_some_iff.1 infoE
  have hb := infoEb
  rw [hi] at hb
  simp only [Option.map_some, Option.some.injEq, decide_eq_true_eq] at hb
  simp only [Prod.mk.injEq] at hx
  obtain ⟨h1, h2⟩ := hx
  refine ⟨madeCells (Value.agg #[.int .i64 0, .string ⟨#[]⟩, .int .i64 0, .int .i64 0, .string ⟨#[]⟩, .slice none 0 0]).cells (n * i.size), ?_, fun w => ?_⟩
  · rw [h2, size_madeCells]
  · have hm : n * i.bytes ≤ 1000 * 1000 := Nat.mul_le_mul hn hb
    have := run_make (P := Tryz.prog) w 24 26 i _ Tryz.underlying24 hi h1 .i64 .i64 (n : Int) (n : Int) (by omega) (by omega) (by rw [← Int.natCast_mul, Nat.mul_comm]; omega) (by omega)
    simpa using this
/-- the Kids' cells: none, or a block of their own behind the part's -/
def MK (W : World) (p n : Nat) (am : Option Addr) : Prop := (n = 0 ∧ am = none) ∨ ∃ m, am = some ⟨m, 0, none⟩ ∧ p < m ∧ m < W.heap.size ∧ ∀ j, j < n * 6 → (∃ v, W.cell? ⟨m, j, none⟩ = some v) ∧ W.frozen? ⟨m, j, none⟩ = false
theorem MK.new (W : World) (Z : Array Value) (p n : Nat) (hZ : Z.size = n * 6) (hp : p < W.heap.size) : MK (W.alloc (.cells Z 26)) p n (some ⟨W.heap.size, 0, none⟩) := by
  refine .inr ⟨_, rfl, hp, by simp, fun j hj => ⟨⟨Z[j]'(by omega), ?_⟩, by go_simp⟩⟩
  rw [World.cell?_alloc_new]
  exact Array.getElem?_eq_getElem _
theorem MK.keep {W W' : World} {p n : Nat} {am : Option Addr} (h : MK W p n am) (hb : Below W.heap.size W W') : MK W' p n am := by
  rcases h with h | ⟨m, h1, h2, h3, h4⟩
  · exact .inl h
  · refine .inr ⟨m, h1, h2, Nat.lt_of_lt_of_le h3 hb.size, fun j hj => ?_⟩
    obtain ⟨⟨v, hv⟩, hf⟩ := h4 j hj
    exact ⟨⟨v, (hb.cell (p := ⟨m, j, none⟩) h3).trans hv⟩, (hb.frozen (p := ⟨m, j, none⟩) h3).trans hf⟩
/-- the Kids made so far -/
def RO (G : Ex → Ex) (W : World) (e : Nat) (ks : List Ex) (k : Nat) (am : Option Addr) : Prop :=
  ∀ i (h : i < ks.length), i < k → ∃ m ao cap, am = some ⟨m, 0, none⟩ ∧ ExAt W m (i * 6) (G ks[i]) ao cap ∧ ExBd (G ks[i]) cap ∧ KR W (fun b => m < b ∧ b < W.heap.size) e (G ks[i]).kids ao
theorem RO.keep {G : Ex → Ex} {W W' : World} {e : Nat} {ks : List Ex} {k : Nat} {am : Option Addr} (h : RO G W e ks k am) (hm : ∀ m, am = some ⟨m, 0, none⟩ → m < W.heap.size) (hb : Below W.heap.size W W') : RO G W' e ks k am := by
  intro i hi hk
  obtain ⟨m, ao, cap, h1, h2, h3, h4⟩ := h i hi hk
  refine ⟨m, ao, cap, h1, h2.keep hb (hm m h1), h3, h4.keep (fun b o hq => hb.cell (p := ⟨b, o, none⟩) hq.2) (fun b hq => ⟨hq.1, Nat.lt_of_lt_of_le hq.2 hb.size⟩)⟩
end Go.Proofs.YtecapnipkngniaaGreatDoor
/-
  Numbers of 64 bits all through, of what lies in memory; the same expression at two depths.
-/
namespace Go.Proofs.YtecapnipkngniaaGreatDoor
open Go.RowKit Go.Shelf

theorem inZ_of {W : World} {B : Nat} : ∀ (d : Nat) (x : Ex) (ao : Option Addr) (cap : Nat), ExBd x cap → KA W B d x.kids ao → inZ x
  | 0, x, _, _, h, hk => by
    have hk' : x.kids = [] := hk
    rw [inZ_eq]
    exact ⟨⟨h.n0, h.n1⟩, fun k hkk => by rw [hk'] at hkk; cases hkk⟩
  | d + 1, x, ao, cap, h, hk => by
    rw [inZ_eq]
    refine ⟨⟨h.n0, h.n1⟩, fun k hkk => ?_⟩
    rcases hk with e | ⟨b, o, _, _, hc⟩
    · rw [e] at hkk; cases hkk
    · obtain ⟨i, hi, rfl⟩ := List.mem_iff_getElem.1 hkk
      obtain ⟨ao', cap', _, h2, h3⟩ := hc i hi
      exact inZ_of d _ ao' cap' h2 h3
theorem KA.moreQ {W : World} {B : Nat} : ∀ {d : Nat} {ks : List Ex} {ao : Option Addr} (k : Nat), KA W B d ks ao → KA W B (d + k) ks ao
  | 0, ks, ao, k, h => by
    have h' : ks = [] := h
    cases k with
    | zero => exact h'
    | succ k => rw [Nat.zero_add]; exact .inl h'
  | d + 1, ks, ao, k, h => by
    rw [Nat.add_right_comm]
    rcases h with h | ⟨b, o, h1, h2, h3⟩
    · exact .inl h
    · refine .inr ⟨b, o, h1, h2, fun i hi => ?_⟩
      obtain ⟨ao', cap', e, f, g⟩ := h3 i hi
      exact ⟨ao', cap', e, f, KA.moreQ k g⟩
theorem lawExpr_two (x : Ex) (d d2 : Nat) (ao ao2 : Option Addr) (cap cap2 B : Nat) (w : World) (h1 : ExBd x cap) (h2 : ExBd x cap2) (k1 : KA w B d x.kids ao) (k2 : KA w B d2 x.kids ao2) (hB : B ≤ w.heap.size) :
    Calls Tryz.prog 15 #[exVal x ao cap, .int .i64 0, exVal x ao2 cap2, .int .i64 0] w fun e w' => e = .returned (.bool true) ∧ Below w.heap.size w w' := by
  have a1 := k1.moreQ d2
  have a2 := k2.moreQ d
  rw [Nat.add_comm] at a2
  exact lawExpr_same (d + d2) x ao ao2 cap cap2 B w h1 h2 a1 a2 hB
end Go.Proofs.YtecapnipkngniaaGreatDoor

/-
  What stands in memory when duetref.ValueOf looks at the operator: the values of the parts, and the block of the answer.
-/
namespace Go.Proofs.YtecapnipkngniaaGreatDoor
open Go.RowKit Go.Shelf

/-- the values of the parts, the answer's block, the name, the parts -/
structure QV (w : World) (nm : ByteArray) (sl : Value) (R1 R2 : Vl) (W : World) : Prop where
  a : VB W (w.heap.size + 1 + 1) R1
  b : VB W (w.heap.size + 1 + 1 + 1) R2
  z : ZB W (w.heap.size + 1)
  c1 : W.cell? ⟨w.heap.size, 1, none⟩ = some (.string nm)
  c5 : W.cell? ⟨w.heap.size, 5, none⟩ = some sl
  bl : Below w.heap.size w W
theorem VB.keepB {W W' : World} {b B : Nat} {v : Vl} (h : VB W b v) (hb : Below B W W') (hl : b < B) : VB W' b v :=
  ⟨Nat.lt_of_lt_of_le h.lt hb.size, (hb.cell (p := ⟨b, 0, none⟩) hl).trans h.c0, (hb.cell (p := ⟨b, 1, none⟩) hl).trans h.c1, (hb.cell (p := ⟨b, 2, none⟩) hl).trans h.c2,
    (hb.frozen (p := ⟨b, 0, none⟩) hl).trans h.f0, (hb.frozen (p := ⟨b, 1, none⟩) hl).trans h.f1, (hb.frozen (p := ⟨b, 2, none⟩) hl).trans h.f2⟩
theorem ZB.keepB {W W' : World} {b B : Nat} (h : ZB W b) (hb : Below B W W') (hl : b < B) : ZB W' b :=
  ⟨Nat.lt_of_lt_of_le h.lt hb.size, (hb.cell (p := ⟨b, 0, none⟩) hl).trans h.c0, (hb.cell (p := ⟨b, 1, none⟩) hl).trans h.c1, (hb.cell (p := ⟨b, 2, none⟩) hl).trans h.c2,
    (hb.frozen (p := ⟨b, 0, none⟩) hl).trans h.f0, (hb.frozen (p := ⟨b, 1, none⟩) hl).trans h.f1, (hb.frozen (p := ⟨b, 2, none⟩) hl).trans h.f2⟩
theorem QV.keepB {w W W' : World} {nm : ByteArray} {sl : Value} {R1 R2 : Vl} {B : Nat} (h : QV w nm sl R1 R2 W) (hb : Below B W W') (hl : w.heap.size + 1 + 1 + 1 < B) : QV w nm sl R1 R2 W' :=
  ⟨h.a.keepB hb (by omega), h.b.keepB hb hl, h.z.keepB hb (by omega), (hb.cell (p := ⟨w.heap.size, 1, none⟩) (show w.heap.size < B by omega)).trans h.c1, (hb.cell (p := ⟨w.heap.size, 5, none⟩) (show w.heap.size < B by omega)).trans h.c5, h.bl.trans (hb.mono (by omega))⟩
theorem QV.keep {w W W' : World} {nm : ByteArray} {sl : Value} {R1 R2 : Vl} (h : QV w nm sl R1 R2 W) (hb : Below W.heap.size W W') : QV w nm sl R1 R2 W' := h.keepB hb h.b.lt
theorem VB.st3 {W : World} {b q : Nat} {u : Vl} (h : VB W q u) (hq : q ≠ b) (v : Vl) : VB (st3 W b v) q u := by
  obtain ⟨vl, v0, v1, v2, g0, g1, g2⟩ := h
  exact ⟨by rw [st3_size]; exact vl, (st3_cell _ _ _ _ _ hq).trans v0, (st3_cell _ _ _ _ _ hq).trans v1, (st3_cell _ _ _ _ _ hq).trans v2, by rw [st3_frozen]; exact g0, by rw [st3_frozen]; exact g1, by rw [st3_frozen]; exact g2⟩
theorem QV.putA {w W : World} {nm : ByteArray} {sl : Value} {R1 R2 : Vl} (h : QV w nm sl R1 R2 W) (v : Vl) : QV w nm sl v R2 (st3 W (w.heap.size + 1 + 1) v) :=
  ⟨h.a.put v, h.b.st3 (by omega) v, h.z.st3 (by omega) v, (st3_cell _ _ _ _ _ (by omega)).trans h.c1, (st3_cell _ _ _ _ _ (by omega)).trans h.c5, st3_below h.bl (by omega) v⟩
theorem QV.putB {w W : World} {nm : ByteArray} {sl : Value} {R1 R2 : Vl} (h : QV w nm sl R1 R2 W) (v : Vl) : QV w nm sl R1 v (st3 W (w.heap.size + 1 + 1 + 1) v) :=
  ⟨h.a.st3 (by omega) v, h.b.put v, h.z.st3 (by omega) v, (st3_cell _ _ _ _ _ (by omega)).trans h.c1, (st3_cell _ _ _ _ _ (by omega)).trans h.c5, st3_below h.bl (by omega) v⟩
theorem QV.new (w : World) (nm : ByteArray) (sl : Value) (so n : Int) (s : ByteArray) :
    QV w nm sl ⟨0, 0, ⟨#[]⟩⟩ ⟨0, 0, ⟨#[]⟩⟩ ((((w.alloc (.cells #[.int .i64 3, .string nm, .int .i64 so, .int .i64 n, .string s, sl] 26)).alloc (.cells #[.int .i64 0, .int .i64 0, .string ⟨#[]⟩] 23)).alloc (.cells #[.int .i64 0, .int .i64 0, .string ⟨#[]⟩] 23)).alloc (.cells #[.int .i64 0, .int .i64 0, .string ⟨#[]⟩] 23)) := by
  have h0 : Below w.heap.size w (w.alloc (.cells #[.int .i64 3, .string nm, .int .i64 so, .int .i64 n, .string s, sl] 26)) := (Below.refl _ _).alloc (Nat.le_refl _) _
  have c1 : (w.alloc (.cells #[.int .i64 3, .string nm, .int .i64 so, .int .i64 n, .string s, sl] 26)).cell? ⟨w.heap.size, 1, none⟩ = some (.string nm) := by go_cell
  have c5 : (w.alloc (.cells #[.int .i64 3, .string nm, .int .i64 so, .int .i64 n, .string s, sl] 26)).cell? ⟨w.heap.size, 5, none⟩ = some sl := by go_cell
  have hs : (w.alloc (.cells #[.int .i64 3, .string nm, .int .i64 so, .int .i64 n, .string s, sl] 26)).heap.size = w.heap.size + 1 := by simp
  generalize w.alloc (.cells #[.int .i64 3, .string nm, .int .i64 so, .int .i64 n, .string s, sl] 26) = V at *
  have hA : ∀ W : World, Below W.heap.size W (W.alloc (.cells #[.int .i64 0, .int .i64 0, .string ⟨#[]⟩] 23)) := fun W => (Below.refl _ _).alloc (Nat.le_refl _) _
  have z1 := ((ZB.new V 23).keep (hA _)).keep (hA _)
  have z2 := (VB.new (V.alloc (.cells #[.int .i64 0, .int .i64 0, .string ⟨#[]⟩] 23)) ⟨0, 0, ⟨#[]⟩⟩ 23).keep (hA _)
  have z3 := VB.new ((V.alloc (.cells #[.int .i64 0, .int .i64 0, .string ⟨#[]⟩] 23)).alloc (.cells #[.int .i64 0, .int .i64 0, .string ⟨#[]⟩] 23)) ⟨0, 0, ⟨#[]⟩⟩ 23
  have e1 : (V.alloc (.cells #[.int .i64 0, .int .i64 0, .string ⟨#[]⟩] 23)).heap.size = w.heap.size + 1 + 1 := by rw [World.size_alloc, hs]
  have e2 : ((V.alloc (.cells #[.int .i64 0, .int .i64 0, .string ⟨#[]⟩] 23)).alloc (.cells #[.int .i64 0, .int .i64 0, .string ⟨#[]⟩] 23)).heap.size = w.heap.size + 1 + 1 + 1 := by rw [World.size_alloc, e1]
  rw [hs] at z1
  simp only [e1] at z2
  simp only [e2] at z3
  have hb : Below (w.heap.size + 1) V (((V.alloc (.cells #[.int .i64 0, .int .i64 0, .string ⟨#[]⟩] 23)).alloc (.cells #[.int .i64 0, .int .i64 0, .string ⟨#[]⟩] 23)).alloc (.cells #[.int .i64 0, .int .i64 0, .string ⟨#[]⟩] 23)) := ((((Below.refl _ _).alloc (by omega) _).alloc (by omega) _).alloc (by omega) _)
  exact ⟨z2, z3, z1, (hb.cell (p := ⟨w.heap.size, 1, none⟩) (show w.heap.size < w.heap.size + 1 by omega)).trans c1, (hb.cell (p := ⟨w.heap.size, 5, none⟩) (show w.heap.size < w.heap.size + 1 by omega)).trans c5, h0.trans (hb.mono (by omega))⟩
/-- a number made of what a part's value has -/
theorem nums_said (R1 R2 : Vl) (h1 : in64 R1.n) (h2 : in64 R2.n) (z : Int) (W : World) (h : z = R1.n ∨ z = R2.n) :
    Calls Tryz.prog 47 #[.int .i64 z] W fun e w' => e = .returned (.pointer (some ⟨W.heap.size, 0, none⟩)) ∧ IntB w' W.heap.size (decide (z < 0)) z.natAbs ∧ Below W.heap.size W w' :=
  newB_any z W (by rcases h with rfl | rfl <;> first | exact h1.1 | exact h2.1) (by rcases h with rfl | rfl <;> first | exact h1.2 | exact h2.2)
theorem abs_64 (z : Int) (h : in64 z) : z.natAbs < 18446744073709551616 := by unfold in64 at h; omega
end Go.Proofs.YtecapnipkngniaaGreatDoor
