/-
  The contract of exprs.Put, for every expression, every name and every value.
-/
import Derived.Test.YtclbillfffpknaaGreatDoorPc
import Derived.Test.YtclbillfffpknaaGreatDoorYe
namespace Go.Proofs.YtclbillfffpknaaGreatDoor
open Go.RowKit Go.Shelf
variable (Tabs : World → Prop) (B0 : Nat)

/-- Put's four blocks: the expression, the name, the value, and what it hands back -/
structure QW (w : World) (p : Ex) (ao : Option Addr) (cap : Nat) (nm : ByteArray) (v : Vl) (W : World) : Prop where
  c0 : W.cell? ⟨w.heap.size, 0, none⟩ = some (.int .i64 p.kind)
  c1 : W.cell? ⟨w.heap.size, 1, none⟩ = some (.string p.name)
  c2 : W.cell? ⟨w.heap.size, 2, none⟩ = some (.int .i64 p.so)
  c3 : W.cell? ⟨w.heap.size, 3, none⟩ = some (.int .i64 p.n)
  c4 : W.cell? ⟨w.heap.size, 4, none⟩ = some (.string p.s)
  c5 : W.cell? ⟨w.heap.size, 5, none⟩ = some (.slice ao p.kids.length cap)
  v : PV (w.heap.size + 1) (w.heap.size + 1 + 1) nm v W
  z : ZE W (w.heap.size + 1 + 1 + 1)
  bl : Below w.heap.size w W
theorem QW.keep {w : World} {p : Ex} {ao : Option Addr} {cap : Nat} {nm : ByteArray} {v : Vl} {W W' : World} (h : QW w p ao cap nm v W) (hb : Below W.heap.size W W') : QW w p ao cap nm v W' := by
  have hl : w.heap.size < W.heap.size := by have := h.z.lt; omega
  exact ⟨(hb.cell (p := ⟨_, 0, none⟩) hl).trans h.c0, (hb.cell (p := ⟨_, 1, none⟩) hl).trans h.c1, (hb.cell (p := ⟨_, 2, none⟩) hl).trans h.c2, (hb.cell (p := ⟨_, 3, none⟩) hl).trans h.c3, (hb.cell (p := ⟨_, 4, none⟩) hl).trans h.c4, (hb.cell (p := ⟨_, 5, none⟩) hl).trans h.c5, h.v.keep hb, h.z.keep hb, h.bl.trans (hb.mono h.bl.size)⟩
def qwW (w : World) (p : Ex) (ao : Option Addr) (cap : Nat) (nm : ByteArray) (v : Vl) : World := (((w.alloc (.cells #[.int .i64 p.kind, .string p.name, .int .i64 p.so, .int .i64 p.n, .string p.s, .slice ao p.kids.length cap] 26)).alloc (.cells #[.string nm] 9)).alloc (.cells #[.int .i64 v.so, .int .i64 v.n, .string v.s] 23)).alloc (.cells #[.int .i64 0, .string ⟨#[]⟩, .int .i64 0, .int .i64 0, .string ⟨#[]⟩, .slice none 0 0] 26)
theorem QW.new (w : World) (p : Ex) (ao : Option Addr) (cap : Nat) (nm : ByteArray) (v : Vl) : QW w p ao cap nm v (qwW w p ao cap nm v) := by
  unfold qwW
  refine ⟨by go_cell, by go_cell, by go_cell, by go_cell, by go_cell, by go_cell, ⟨by simp, by simp, by go_cell, by go_cell, by go_cell, by go_cell⟩, ?_, by go_grown⟩
  have := ZE.new (((w.alloc (.cells #[.int .i64 p.kind, .string p.name, .int .i64 p.so, .int .i64 p.n, .string p.s, .slice ao p.kids.length cap] 26)).alloc (.cells #[.string nm] 9)).alloc (.cells #[.int .i64 v.so, .int .i64 v.n, .string v.s] 23)) 26
  simpa using this

set_option maxHeartbeats 1000000 in
theorem put_bad1 (hV : VSaid vD Tabs) (hK : ∀ w w', Tabs w → Below w.heap.size w w' → Tabs w') (hK2 : ∀ B w w', B0 ≤ B → Tabs w → Below B w w' → Tabs w') (hB0 : ∀ w, Tabs w → B0 ≤ w.heap.size)
    (d : Nat) (x : Ex) (ao : Option Addr) (cap : Nat) (nm : ByteArray) (v : Vl) (w : World) (hbd : ExBd x cap) (hka : KA w w.heap.size d x.kids ao) (hT : Tabs w) (hz : chkX x ≠ 0) :
    Calls Tryz.prog 7 #[exVal x ao cap, .string nm, vlV v] w fun e w' => (∃ z : Int, z ≠ 0 ∧ e = .returned (.tuple #[.agg #[.int .i64 0, .string ⟨#[]⟩, .int .i64 0, .int .i64 0, .string ⟨#[]⟩, .slice none 0 0], .int .i64 z])) ∧ Below w.heap.size w w' := by
  have HF := QW.new w x ao cap nm v
  have cK := chk_any Tabs B0 hV hK hK2 hB0 d x ao cap (qwW w x ao cap nm v) hbd ((hka.keep HF.bl).mono HF.bl.size) (hK _ _ hT HF.bl)
  obtain ⟨so, n, s⟩ := v
  simp only [exVal, vlV, qwW] at cK HF ⊢
  generalize chkX x = z at cK hz
  have hzb : (z != 0) = true := by simpa using hz
  clear hV hK hK2 hB0 hka hT hbd
  go_enter Tryz.func7, Tryz.ntmps7
  go_wp2_with fail
  refine cK.mono ?_
  rintro e w1 ⟨rfl, hb1⟩
  obtain ⟨_, _, _, _, _, _, _, hzz, hbl⟩ := HF.keep hb1
  obtain ⟨zl, z0, z1, z2, z3, z4, z5, zf⟩ := hzz
  have zf0 := zf 0
  have zf1 := zf 1
  have zf2 := zf 2
  have zf3 := zf 3
  have zf4 := zf 4
  have zf5 := zf 5
  clear cK HF hb1 zf
  have HZ := hide hz
  clear hz
  go_wp2_with fail
  refine bodyPost_ret (v := .tuple #[.agg #[.int .i64 0, .string ⟨#[]⟩, .int .i64 0, .int .i64 0, .string ⟨#[]⟩, .slice none 0 0], .int .i64 z]) (by simp [results, Tryz.results7, go_sem, z0, z1, z2, z3, z4, z5]) rfl ⟨⟨z, HZ.out, rfl⟩, ?_⟩
  have hsw := hbl.size
  go_grown

set_option maxHeartbeats 1000000 in
theorem put_bad2 (hV : VSaid vD Tabs) (hK : ∀ w w', Tabs w → Below w.heap.size w w' → Tabs w') (hK2 : ∀ B w w', B0 ≤ B → Tabs w → Below B w w' → Tabs w') (hB0 : ∀ w, Tabs w → B0 ≤ w.heap.size)
    (d : Nat) (x : Ex) (ao : Option Addr) (cap : Nat) (nm : ByteArray) (v : Vl) (w : World) (hbd : ExBd x cap) (hka : KA w w.heap.size d x.kids ao) (hT : Tabs w) (hz : chkX x = 0) (hs : v.s.size ≤ 9223372036854775807) (hv : ¬ v.good) :
    Calls Tryz.prog 7 #[exVal x ao cap, .string nm, vlV v] w fun e w' => (∃ z : Int, z ≠ 0 ∧ e = .returned (.tuple #[.agg #[.int .i64 0, .string ⟨#[]⟩, .int .i64 0, .int .i64 0, .string ⟨#[]⟩, .slice none 0 0], .int .i64 z])) ∧ Below w.heap.size w w' := by
  have HF := QW.new w x ao cap nm v
  have cK := chk_any Tabs B0 hV hK hK2 hB0 d x ao cap (qwW w x ao cap nm v) hbd ((hka.keep HF.bl).mono HF.bl.size) (hK _ _ hT HF.bl)
  rw [hz] at cK
  have cV := fun W (hb : Below w.heap.size w W) => check_any vD Tabs hV hK v.so v.n v.s W hs (hK _ _ hT hb)
  have hv' : chkZ vD v.so v.n v.s ≠ 0 := hv
  obtain ⟨so, n, s⟩ := v
  simp only [exVal, vlV, qwW] at cK cV HF hv' ⊢
  generalize chkZ vD so n s = z at cV hv'
  have hzb : (z != 0) = true := by simpa using hv'
  have CV := hide cV
  have HZ := hide hv'
  clear hV hK hK2 hB0 hka hT hbd cV hv hv' hz hs
  go_enter Tryz.func7, Tryz.ntmps7
  go_wp2_with fail
  refine cK.mono ?_
  rintro e w1 ⟨rfl, hb1⟩
  have HF1 := HF.keep hb1
  have C := CV.out w1 HF1.bl
  have HF2 := hide HF1
  obtain ⟨_, _, _, _, _, _, ⟨_, _, g0, g1, g2, g3⟩, _, _⟩ := HF1
  simp only at g1 g2 g3
  clear cK HF hb1 CV
  go_wp2_with fail
  refine C.mono ?_
  rintro e w2 ⟨rfl, hb2⟩
  obtain ⟨_, _, _, _, _, _, _, hzz, hbl⟩ := HF2.out.keep hb2
  obtain ⟨zl, z0, z1, z2, z3, z4, z5, zf⟩ := hzz
  have zf0 := zf 0
  have zf1 := zf 1
  have zf2 := zf 2
  have zf3 := zf 3
  have zf4 := zf 4
  have zf5 := zf 5
  clear C zf g0 g1 g2 g3
  go_wp2_with fail
  refine bodyPost_ret (v := .tuple #[.agg #[.int .i64 0, .string ⟨#[]⟩, .int .i64 0, .int .i64 0, .string ⟨#[]⟩, .slice none 0 0], .int .i64 z]) (by simp [results, Tryz.results7, go_sem, z0, z1, z2, z3, z4, z5]) rfl ⟨⟨z, HZ.out, rfl⟩, ?_⟩
  have hsw := hbl.size
  go_grown

set_option maxHeartbeats 1000000 in
theorem put_good (hV : VSaid vD Tabs) (hK : ∀ w w', Tabs w → Below w.heap.size w w' → Tabs w') (hK2 : ∀ B w w', B0 ≤ B → Tabs w → Below B w w' → Tabs w') (hB0 : ∀ w, Tabs w → B0 ≤ w.heap.size)
    (d : Nat) (x : Ex) (ao : Option Addr) (cap : Nat) (nm : ByteArray) (v : Vl) (w : World) (hbd : ExBd x cap) (hka : KA w w.heap.size d x.kids ao) (hT : Tabs w) (hz : chkX x = 0) (hv : v.good) (hvb : VBd v) :
    Calls Tryz.prog 7 #[exVal x ao cap, .string nm, vlV v] w fun e w' => (∃ ao' cap', e = .returned (.tuple #[exVal (putX nm v x) ao' cap', .int .i64 0]) ∧ KA w' w'.heap.size d (putX nm v x).kids ao' ∧ ExBd (putX nm v x) cap') ∧ Below w.heap.size w w' := by
  have HF := QW.new w x ao cap nm v
  have cK := chk_any Tabs B0 hV hK hK2 hB0 d x ao cap (qwW w x ao cap nm v) hbd ((hka.keep HF.bl).mono HF.bl.size) (hK _ _ hT HF.bl)
  rw [hz] at cK
  have cV := fun W (hb : Below w.heap.size w W) => check_any vD Tabs hV hK v.so v.n v.s W (by have := hvb.s; omega) (hK _ _ hT hb)
  rw [show chkZ vD v.so v.n v.s = 0 from hv] at cV
  have cR := fun W (hb : Below w.heap.size w W) (hp : PV (w.heap.size + 1) (w.heap.size + 1 + 1) nm v W) => PutR.rebuilt_any (w.heap.size + 1) (w.heap.size + 1 + 1) nm v hvb d x ao cap w.heap.size W (chk_wf x 0 hz) hbd (hka.keep hb) hb.size hp
  generalize putX nm v x = y at *
  obtain ⟨so, n, s⟩ := v
  simp only [exVal, vlV, qwW] at cK cV HF ⊢
  have CV := hide cV
  have CR := hide cR
  clear hV hK hK2 hB0 hka hT hbd cV hv hz hvb cR
  go_enter Tryz.func7, Tryz.ntmps7
  go_wp2_with fail
  refine cK.mono ?_
  rintro e w1 ⟨rfl, hb1⟩
  have HF1 := HF.keep hb1
  have C := CV.out w1 HF1.bl
  have HF2 := hide HF1
  obtain ⟨_, _, _, _, _, _, ⟨_, _, g0, g1, g2, g3⟩, _, _⟩ := HF1
  simp only at g1 g2 g3
  clear cK HF hb1 CV
  go_wp2_with fail
  refine C.mono ?_
  rintro e w2 ⟨rfl, hb2⟩
  have HF3 := HF2.out.keep hb2
  have C2 := CR.out w2 HF3.bl HF3.v
  simp only [exVal] at C2
  have HF4 := hide HF3
  obtain ⟨y0, y1, y2, y3, y4, y5, _, _, hbl⟩ := HF3
  clear C g0 g1 g2 g3 HF2 CR
  go_wp2_with fail
  refine C2.mono ?_
  rintro e w3 ⟨⟨ao2, cap2, rfl, hk2, hbd2⟩, hb3⟩
  obtain ⟨_, _, _, _, _, _, _, hzz, hbl2⟩ := HF4.out.keep hb3
  obtain ⟨zl, z0, z1, z2, z3, z4, z5, zf⟩ := hzz
  have zf0 := zf 0
  have zf1 := zf 1
  have zf2 := zf 2
  have zf3 := zf 3
  have zf4 := zf 4
  have zf5 := zf 5
  have hlw := HF4.out.z.lt
  have HK := hide hk2
  clear C2 zf y0 y1 y2 y3 y4 y5 hk2
  go_wp2_with fail
  refine bodyPost_ret (v := .tuple #[exVal y ao2 cap2, .int .i64 0]) (by simp [exVal, results, Tryz.results7, go_sem, z0, z1, z2, z3, z4, z5]) rfl ⟨⟨ao2, cap2, rfl, ?_, hbd2⟩, by go_grown⟩
  refine KR.toKA (P := fun b => w2.heap.size ≤ b ∧ b < w3.heap.size) (fun b hb => Nat.lt_of_lt_of_le hb.2 (Nat.le_of_eq (st6_size _ _ _ _ _ _ _ _ _).symm)) ?_
  exact HK.out.keep (fun b o hb => st6_other w3 (w.heap.size + 1 + 1 + 1) 0 _ _ _ _ _ _ b o (.inl (by omega))) (fun b hb => hb)
end Go.Proofs.YtclbillfffpknaaGreatDoor
