/-
  The contract of exprs.value: a value's text that is ahead.
-/
import Derived.Test.YtipolobikigmbaaGreatDoorGl
namespace Go.Proofs.YtipolobikigmbaaGreatDoor
open Go.RowKit Go.Shelf
/-- what values.Read does -/
def RVSaid (Tabs : World → Prop) : Prop := ∀ (s : ByteArray) (w : World), s.size ≤ 281474976710656 → Tabs w → Calls Tryz.prog 131 #[.string s] w fun e w' => e = .returned (rdV (rdZ s.data.toList)) ∧ Below w.heap.size w w'
set_option maxHeartbeats 1000000 in
theorem lit_any (so n : Int) (t : ByteArray) (w : World) :
    Calls Tryz.prog 132 #[.agg #[.int .i64 so, .int .i64 n, .string t]] w fun e w' => e = .returned (.agg #[.int .i64 1, .string ⟨#[]⟩, .int .i64 so, .int .i64 n, .string t, .slice none 0 0]) ∧ Below w.heap.size w w' := by
  go_enter Tryz.func132, Tryz.ntmps132
  go_wp2_with fail
  refine bodyPost_ret (v := .agg #[.int .i64 1, .string ⟨#[]⟩, .int .i64 so, .int .i64 n, .string t, .slice none 0 0]) (by simp [results, Tryz.results132, go_sem]) rfl ⟨rfl, ?_⟩
  go_grown
theorem FR.st6 {rb b : Nat} {w W : World} (h : FR rb w W) (hb : w.heap.size ≤ b) (v0 v1 v2 v3 v4 v5 : Value) : FR rb w (st6 W b 0 v0 v1 v2 v3 v4 v5) :=
  (((((h.setN hb v0).setN hb v1).setN hb v2).setN hb v3).setN hb v4).setN hb v5
theorem RS.setO {W : World} {rb b p o : Nat} {s : ByteArray} (h : RS W rb s p) (hn : b ≠ rb) (v : Value) : RS (W.setCell ⟨b, o, none⟩ v) rb s p :=
  ⟨(World.cell?_setCell_other _ _ _ _ (fun e => hn (congrArg Addr.block e))).trans h.c0, (World.cell?_setCell_other _ _ _ _ (fun e => hn (congrArg Addr.block e))).trans h.c1, (World.cell?_setCell_other _ _ _ _ (fun e => hn (congrArg Addr.block e))).trans h.c2, by rw [World.frozen?_setCell]; exact h.fz, h.le, h.sz⟩
theorem RS.st6 {W : World} {rb b p : Nat} {s : ByteArray} (h : RS W rb s p) (hn : b ≠ rb) (v0 v1 v2 v3 v4 v5 : Value) : RS (st6 W b 0 v0 v1 v2 v3 v4 v5) rb s p :=
  (((((h.setO hn v0).setO hn v1).setO hn v2).setO hn v3).setO hn v4).setO hn v5
theorem ZE.keepF {W W' : World} {rb b : Nat} (h : ZE W b) (hf : FR rb W W') (hn : b ≠ rb) : ZE W' b :=
  ⟨Nat.lt_of_lt_of_le h.lt hf.size, (hf.cellO h.lt hn).trans h.c0, (hf.cellO h.lt hn).trans h.c1, (hf.cellO h.lt hn).trans h.c2, (hf.cellO h.lt hn).trans h.c3, (hf.cellO h.lt hn).trans h.c4, (hf.cellO h.lt hn).trans h.c5, fun o => (hf.frozenO h.lt hn).trans (h.f o)⟩
set_option maxRecDepth 100000 in
set_option maxHeartbeats 2000000 in
theorem value_any {Tabs : World → Prop} (hV : RVSaid Tabs) (hK : ∀ w w', Tabs w → Below w.heap.size w w' → Tabs w') (t : ByteArray) (rb p : Nat) (s : ByteArray) (w : World) (hT : Tabs w) (h : RS w rb s p) (hp : p + t.size ≤ s.size) :
    Calls Tryz.prog 98 #[.pointer (some ⟨rb, 0, none⟩), .string t] w fun e w' => EPost s rb w (rdVal rdZ (rs s p) t.data.toList) e w' ∧ FR rb w w' := by
  have hsz := h.sz
  have hA : Below w.heap.size w (w.alloc (.cells #[.int .i64 0, .string ⟨#[]⟩, .int .i64 0, .int .i64 0, .string ⟨#[]⟩, .slice none 0 0] 39)) := (Below.refl _ _).alloc (Nat.le_refl _) _
  have hZ := ZE.new w 39
  have cV := hV t _ (by omega) (hK _ _ hT hA)
  have hrl := h.lt
  have hok := rd_ok t.data.toList
  have HP := hideK (fun (w1 : World) (h1 : RS w1 rb s p) => pass_any rb p t.size s w1 h1 hp)
  have HR := hideK (h.keep hA)
  have HA := hideK hA
  have HZ := hideK hZ
  clear hA hZ
  have hl : t.data.toList.length = t.size := by simp
  unfold rdVal
  rw [hl]
  generalize rdZ t.data.toList = z at *
  obtain ⟨so, n, x, c⟩ := z
  dsimp only at hok ⊢
  unfold rdV at cV
  dsimp only at cV
  rw [show (⟨x.toArray⟩ : ByteArray) = bs x from rfl] at cV
  by_cases hc : c = 0
  · subst hc
    rw [if_pos rfl]
    obtain ⟨_, _, n0, n1, h100⟩ := hok rfl
    have HG : Hid (∀ w' : World, ExR w w' ⟨1, ⟨#[]⟩, so, n, bs x, []⟩ (.agg #[.int .i64 1, .string ⟨#[]⟩, .int .i64 so, .int .i64 n, .string (bs x), .slice none 0 0])) := fun w' =>
      ⟨0, none, 0, rfl, GE.leaf ⟨by show (0 : Nat) ≤ _; omega, by show (bs x).size ≤ _; omega, n0, n1, by simp, by omega⟩ rfl none⟩
    have CL := hideK (lit_any so n (bs x))
    clear hok hV hK hT h hp hsz n0 n1 h100 hl
    generalize bs x = y at *
    go_enter Tryz.func98, Tryz.ntmps98
    go_wp2_with fail
    generalize w.alloc (.cells #[.int .i64 0, .string ⟨#[]⟩, .int .i64 0, .int .i64 0, .string ⟨#[]⟩, .slice none 0 0] 39) = W0 at *
    refine cV.mono ?_
    rintro e w1 ⟨rfl, hb1⟩
    have H1 := hideK (HR.out.keep hb1)
    have HB1 := hideK hb1
    clear hb1 cV
    go_wp2_with fail
    have hAl : Below w1.heap.size w1 (w1.alloc (.cells #[.int .i64 so, .int .i64 n, .string y] 36)) := (Below.refl _ _).alloc (Nat.le_refl _) _
    have y0 : (w1.alloc (.cells #[.int .i64 so, .int .i64 n, .string y] 36)).cell? ⟨w1.heap.size, 0, none⟩ = some (.int .i64 so) := by go_cell
    have y1 : (w1.alloc (.cells #[.int .i64 so, .int .i64 n, .string y] 36)).cell? ⟨w1.heap.size, 1, none⟩ = some (.int .i64 n) := by go_cell
    have y2 : (w1.alloc (.cells #[.int .i64 so, .int .i64 n, .string y] 36)).cell? ⟨w1.heap.size, 2, none⟩ = some (.string y) := by go_cell
    have hsl : w1.heap.size < (w1.alloc (.cells #[.int .i64 so, .int .i64 n, .string y] 36)).heap.size := by simp
    have HZ1 := hideK ((HZ.out.keep HB1.out).keep hAl)
    have HR1 := hideK (H1.out.keep hAl)
    have HB2 := hideK (HB1.out.trans (hAl.mono HB1.out.size))
    clear hAl
    generalize w1.alloc (.cells #[.int .i64 so, .int .i64 n, .string y] 36) = W1 at *
    refine (HP.out _ HR1.out).mono ?_
    rintro e w2 ⟨rfl, hx, hf⟩
    have hne : w1.heap.size ≠ rb := by have := H1.out.lt; omega
    have hne2 : w.heap.size ≠ rb := by omega
    replace y0 := (hf.cellO hsl hne).trans y0
    replace y1 := (hf.cellO hsl hne).trans y1
    replace y2 := (hf.cellO hsl hne).trans y2
    have HZ2 := hideK (HZ1.out.keepF hf hne2)
    have HX := hideK hx
    have HF := hideK hf
    clear hx hf hsl hne hne2
    go_wp2_with fail
    refine (CL.out _).mono ?_
    rintro e w3 ⟨rfl, hb3⟩
    obtain ⟨zl, z0, z1, z2, z3, z4, z5, zf⟩ := HZ2.out.keep hb3
    have f0 := zf 0
    have f1 := zf 1
    have f2 := zf 2
    have f3 := zf 3
    have f4 := zf 4
    have f5 := zf 5
    have HB3 := hideK hb3
    clear hb3 y0 y1 y2 zf
    go_wp2_with fail
    obtain ⟨p', R2, hrs⟩ := HX.out
    have R3 := (R2.keep HB3.out).st6 (b := w.heap.size) (by omega) (.int .i64 1) (.string ⟨#[]⟩) (.int .i64 so) (.int .i64 n) (.string y) (.slice none 0 0)
    have F3 := ((((FR.of (pb := rb) HA.out).trans (FR.of HB2.out)).trans HF.out).trans (FR.of HB3.out)).st6 (b := w.heap.size) (Nat.le_refl _) (.int .i64 1) (.string ⟨#[]⟩) (.int .i64 so) (.int .i64 n) (.string y) (.slice none 0 0)
    have TA := st6_at w3 w.heap.size 0 ⟨1, ⟨#[]⟩, so, n, y, []⟩ none 0 (fun j hj => by
      have : j = 0 ∨ j = 1 ∨ j = 2 ∨ j = 3 ∨ j = 4 ∨ j = 5 := by omega
      rcases this with rfl | rfl | rfl | rfl | rfl | rfl
      · exact ⟨_, z0⟩
      · exact ⟨_, z1⟩
      · exact ⟨_, z2⟩
      · exact ⟨_, z3⟩
      · exact ⟨_, z4⟩
      · exact ⟨_, z5⟩)
    change ExAt (st6 w3 w.heap.size 0 (.int .i64 1) (.string ⟨#[]⟩) (.int .i64 so) (.int .i64 n) (.string y) (.slice none 0 0)) _ _ _ _ _ at TA
    change bodyPost _ _ _ _ _ (st6 w3 w.heap.size 0 (.int .i64 1) (.string ⟨#[]⟩) (.int .i64 so) (.int .i64 n) (.string y) (.slice none 0 0))
    generalize st6 w3 w.heap.size 0 (.int .i64 1) (.string ⟨#[]⟩) (.int .i64 so) (.int .i64 n) (.string y) (.slice none 0 0) = W9 at TA R3 F3 ⊢
    obtain ⟨r0, r1, r2, r3, r4, r5⟩ := TA
    simp only [Nat.zero_add, List.length_nil] at r0 r1 r2 r3 r4 r5
    refine bodyPost_ret (v := .agg #[.int .i64 1, .string ⟨#[]⟩, .int .i64 so, .int .i64 n, .string y, .slice none 0 0]) (by simp [results, Tryz.results98, go_sem, r0, r1, r2, r3, r4, r5]) rfl ?_
    exact ⟨EPost.yes (HG.out _) R3 hrs, F3⟩
  · rw [if_neg hc]
    have HN := hideK (fun w' : World => EPost.no (s := s) (rb := rb) (w := w) (c := c) (r := rs s p) (w' := w'))
    rw [thrownC_at s c p h.le] at HN
    have cF := hideK (fun (w1 : World) (h1 : RS w1 rb s p) => fault_any rb p s c w1 h1)
    clear hok hV hK hT h hp hsz hl HP
    generalize bs x = y at *
    go_enter Tryz.func98, Tryz.ntmps98
    go_wp2_with fail
    generalize w.alloc (.cells #[.int .i64 0, .string ⟨#[]⟩, .int .i64 0, .int .i64 0, .string ⟨#[]⟩, .slice none 0 0] 39) = W0 at *
    refine cV.mono ?_
    rintro e w1 ⟨rfl, hb1⟩
    have H1 := hideK (HR.out.keep hb1)
    have HB1 := hideK hb1
    clear hb1 cV
    go_wp2_with fail
    have hAl : Below w1.heap.size w1 (w1.alloc (.cells #[.int .i64 so, .int .i64 n, .string y] 36)) := (Below.refl _ _).alloc (Nat.le_refl _) _
    have HR1 := hideK (H1.out.keep hAl)
    have HB2 := hideK (HB1.out.trans (hAl.mono HB1.out.size))
    clear hAl
    generalize w1.alloc (.cells #[.int .i64 so, .int .i64 n, .string y] 36) = W1 at *
    refine (cF.out _ HR1.out).mono ?_
    rintro e w2 ⟨rfl, hb2⟩
    have HB3 := hideK hb2
    clear hb2
    go_wp2_with fail
    exact ⟨rfl, HN.out _, ((FR.of HA.out).trans (FR.of HB2.out)).trans (FR.of HB3.out)⟩
/-- behind the store of what is handed back, an expression that is new since w1 is as it was -/
theorem GE.st6 {w w1 W : World} {d b : Nat} {x : Ex} {ao : Option Addr} {cap : Nat} (h : GE w1 W d x ao cap) (hb : b < w1.heap.size) (hw : w.heap.size ≤ w1.heap.size) (v0 v1 v2 v3 v4 v5 : Value) : GE w (st6 W b 0 v0 v1 v2 v3 v4 v5) d x ao cap :=
  ⟨h.bd, h.ka.keep (fun b' _ hb' => st6_other _ _ _ _ _ _ _ _ _ _ _ (.inl (by have := hb'.1; omega))) (fun b' hb' => ⟨Nat.le_trans hw hb'.1, by rw [st6_size]; exact hb'.2⟩)⟩
theorem ZE.six {W : World} {b : Nat} (h : ZE W b) : ∀ j, j < 6 → ∃ v, W.cell? ⟨b, 0 + j, none⟩ = some v := fun j hj => by
  have : j = 0 ∨ j = 1 ∨ j = 2 ∨ j = 3 ∨ j = 4 ∨ j = 5 := by omega
  rcases this with rfl | rfl | rfl | rfl | rfl | rfl
  · exact ⟨_, h.c0⟩
  · exact ⟨_, h.c1⟩
  · exact ⟨_, h.c2⟩
  · exact ⟨_, h.c3⟩
  · exact ⟨_, h.c4⟩
  · exact ⟨_, h.c5⟩
theorem ExAt.lit (W : World) (x : Ex) (ao : Option Addr) (cap : Nat) : ExAt (W.alloc (.cells #[.int .i64 x.kind, .string x.name, .int .i64 x.so, .int .i64 x.n, .string x.s, .slice ao x.kids.length cap] 39)) W.heap.size 0 x ao cap :=
  ⟨by go_cell, by go_cell, by go_cell, by go_cell, by go_cell, by go_cell⟩
theorem ExAt.keepF {W W' : World} {rb b o : Nat} {x : Ex} {ao : Option Addr} {cap : Nat} (h : ExAt W b o x ao cap) (hf : FR rb W W') (hn : b ≠ rb) (hl : b < W.heap.size) : ExAt W' b o x ao cap :=
  ⟨(hf.cellO hl hn).trans h.c0, (hf.cellO hl hn).trans h.c1, (hf.cellO hl hn).trans h.c2, (hf.cellO hl hn).trans h.c3, (hf.cellO hl hn).trans h.c4, (hf.cellO hl hn).trans h.c5⟩
/-- an operator of one, whose part lies in a literal's row -/
theorem GE.one {w W W' : World} {d rb : Nat} {x : Ex} {ao : Option Addr} {cap : Nat} (hg : GE w W d x ao cap) (hr : rb < w.heap.size) (hw : w.heap.size ≤ W.heap.size) (hf : FR rb (W.alloc (.cells #[.int .i64 x.kind, .string x.name, .int .i64 x.so, .int .i64 x.n, .string x.s, .slice ao x.kids.length cap] 39)) W') (op : ByteArray) (ho : op.size ≤ 9223372036854775807) :
    GE w W' (d + 1) ⟨3, op, 0, 0, ⟨#[]⟩, [x]⟩ (some ⟨W.heap.size, 0, none⟩) 1 := by
  have hl : W.heap.size < (W.alloc (.cells #[.int .i64 x.kind, .string x.name, .int .i64 x.so, .int .i64 x.n, .string x.s, .slice ao x.kids.length cap] 39)).heap.size := by simp
  refine GE.ops ⟨ho, by show (⟨#[]⟩ : ByteArray).size ≤ _; decide, by show (-9223372036854775808 : Int) ≤ 0; decide, by show (0 : Int) ≤ _; decide, Nat.le_refl _, by decide⟩ hw (Nat.lt_of_lt_of_le hl hf.size) fun i hi => ?_
  have h0 : i = 0 := by simp at hi; omega
  subst h0
  exact ⟨ao, cap, (ExAt.lit W x ao cap).keepF hf (by omega) hl, (hg.keep (FR.al (pb := rb) _) hr).keep hf hr⟩
end Go.Proofs.YtipolobikigmbaaGreatDoor
/-
  The contract of exprs.operation.
-/
namespace Go.Proofs.YtipolobikigmbaaGreatDoor
open Go.RowKit Go.Shelf
set_option maxHeartbeats 1000000 in
theorem operation_any (op : ByteArray) (ao : Option Addr) (n cap : Nat) (w : World) :
    Calls Tryz.prog 63 #[.string op, .slice ao n cap] w fun e w' => e = .returned (.agg #[.int .i64 3, .string op, .int .i64 0, .int .i64 0, .string ⟨#[]⟩, .slice ao n cap]) ∧ Below w.heap.size w w' := by
  go_enter Tryz.func63, Tryz.ntmps63
  go_wp2_with fail
  refine bodyPost_ret (v := .agg #[.int .i64 3, .string op, .int .i64 0, .int .i64 0, .string ⟨#[]⟩, .slice ao n cap]) (by simp [results, Tryz.results63, go_sem]) rfl ⟨rfl, ?_⟩
  go_grown
end Go.Proofs.YtipolobikigmbaaGreatDoor
