/-
  The contract of exprs.Fold, for every expression.
-/
import Derived.Test.YtecapnipkngniaaGreatDoorYh
import Derived.Test.YtecapnipkngniaaGreatDoorPc
import Derived.Test.YtecapnipkngniaaGreatDoorYb
import Derived.Test.YtecapnipkngniaaGreatDoorCq
import Derived.Test.YtecapnipkngniaaGreatDoorCz
namespace Go.Proofs.YtecapnipkngniaaGreatDoor
open Go.RowKit Go.Shelf
theorem hide {p : Prop} (h : p) : Hid p := h
variable (Tabs : World → Prop) (B0 : Nat)

set_option maxHeartbeats 1000000 in
theorem fold_bad (hV : VSaid vD Tabs) (hK : ∀ w w', Tabs w → Below w.heap.size w w' → Tabs w') (hK2 : ∀ B w w', B0 ≤ B → Tabs w → Below B w w' → Tabs w') (hB0 : ∀ w, Tabs w → B0 ≤ w.heap.size)
    (d : Nat) (x : Ex) (ao : Option Addr) (cap : Nat) (w : World) (hbd : ExBd x cap) (hka : KA w w.heap.size d x.kids ao) (hT : Tabs w) (hz : chkX x ≠ 0) :
    Calls Tryz.prog 14 #[exVal x ao cap] w fun e w' => e = .returned (.tuple #[.agg #[.int .i64 0, .string ⟨#[]⟩, .int .i64 0, .int .i64 0, .string ⟨#[]⟩, .slice none 0 0], .int .i64 (chkX x)]) ∧ Below w.heap.size w w' := by
  have HF := FW.new w x ao cap
  have cK := chk_any Tabs B0 hV hK hK2 hB0 d x ao cap (fwW w x ao cap) hbd ((hka.keep HF.bl).mono HF.bl.size) (hK _ _ hT HF.bl)
  simp only [exVal, fwW] at cK HF ⊢
  generalize chkX x = z at cK hz ⊢
  have hzb : (z != 0) = true := by simpa using hz
  clear hV hK hK2 hB0 hka hT hbd
  go_enter Tryz.func14, Tryz.ntmps14
  go_wp2_with fail
  refine cK.mono ?_
  rintro e w1 ⟨rfl, hb1⟩
  obtain ⟨_, _, _, _, _, _, hzz, hbl⟩ := HF.keep hb1
  obtain ⟨zl, z0, z1, z2, z3, z4, z5, zf⟩ := hzz
  have zf0 := zf 0
  have zf1 := zf 1
  have zf2 := zf 2
  have zf3 := zf 3
  have zf4 := zf 4
  have zf5 := zf 5
  clear cK HF hb1 hz zf
  go_wp2_with fail
  refine bodyPost_ret (v := .tuple #[.agg #[.int .i64 0, .string ⟨#[]⟩, .int .i64 0, .int .i64 0, .string ⟨#[]⟩, .slice none 0 0], .int .i64 z]) (by simp [results, Tryz.results14, go_sem, z0, z1, z2, z3, z4, z5]) rfl ⟨rfl, ?_⟩
  have hsw := hbl.size
  go_grown

set_option maxHeartbeats 1000000 in
theorem fold_good (hV : VSaid vD Tabs) (hK : ∀ w w', Tabs w → Below w.heap.size w w' → Tabs w') (hK2 : ∀ B w w', B0 ≤ B → Tabs w → Below B w w' → Tabs w') (hB0 : ∀ w, Tabs w → B0 ≤ w.heap.size) (hC : CSaid)
    (d : Nat) (x : Ex) (ao : Option Addr) (cap : Nat) (w : World) (hbd : ExBd x cap) (hka : KA w w.heap.size d x.kids ao) (hT : Tabs w) (hz : chkX x = 0) :
    Calls Tryz.prog 14 #[exVal x ao cap] w fun e w' => (∃ ao' cap', e = .returned (.tuple #[exVal (foldX x) ao' cap', .int .i64 0]) ∧ KA w' w'.heap.size d (foldX x).kids ao' ∧ ExBd (foldX x) cap') ∧ Below w.heap.size w w' := by
  have HF := FW.new w x ao cap
  have cK := chk_any Tabs B0 hV hK hK2 hB0 d x ao cap (fwW w x ao cap) hbd ((hka.keep HF.bl).mono HF.bl.size) (hK _ _ hT HF.bl)
  rw [hz] at cK
  have cR := fun W (hb : Below w.heap.size w W) => rebuilt_any Tabs hV hK hC d x ao cap w.heap.size W (chk_wf x 0 hz) hbd (hka.keep hb) hb.size (hK _ _ hT hb)
  have CR := hide cR
  have HF' := HF
  simp only [exVal, fwW] at cK HF ⊢
  clear hV hK hK2 hB0 hka hT hbd cR hz HF'
  go_enter Tryz.func14, Tryz.ntmps14
  go_wp2_with fail
  refine cK.mono ?_
  rintro e w1 ⟨rfl, hb1⟩
  have HF1 := HF.keep hb1
  have C := CR.out w1 HF1.bl
  simp only [exVal, fvF] at C
  obtain ⟨y0, y1, y2, y3, y4, y5, _, hbl⟩ := id HF1
  have HF2 := hide HF1
  clear cK HF hb1 CR HF1
  go_wp2_with fail
  refine C.mono ?_
  rintro e w2 ⟨⟨ao2, cap2, rfl, hk2, hbd2⟩, hb2⟩
  obtain ⟨_, _, _, _, _, _, hzz, hbl2⟩ := HF2.out.keep hb2
  obtain ⟨zl, z0, z1, z2, z3, z4, z5, zf⟩ := hzz
  have zf0 := zf 0
  have zf1 := zf 1
  have zf2 := zf 2
  have zf3 := zf 3
  have zf4 := zf 4
  have zf5 := zf 5
  have hlw := HF2.out.z.lt
  have HK := hide hk2
  clear C zf y0 y1 y2 y3 y4 y5 hk2
  go_wp2_with fail
  refine bodyPost_ret (v := .tuple #[exVal (foldX x) ao2 cap2, .int .i64 0]) (by simp [exVal, results, Tryz.results14, go_sem, z0, z1, z2, z3, z4, z5]) rfl ⟨⟨ao2, cap2, rfl, ?_, hbd2⟩, by go_grown⟩
  refine KR.toKA (P := fun b => w1.heap.size ≤ b ∧ b < w2.heap.size) (fun b hb => Nat.lt_of_lt_of_le hb.2 (Nat.le_of_eq (st6_size _ _ _ _ _ _ _ _ _).symm)) ?_
  exact HK.out.keep (fun b o hb => st6_other w2 (w.heap.size + 1) 0 _ _ _ _ _ _ b o (.inl (by omega))) (fun b hb => hb)
end Go.Proofs.YtecapnipkngniaaGreatDoor
/-
  The contract of exprs.Put, for every expression, every name and every value.
-/
namespace Go.Proofs.YtecapnipkngniaaGreatDoor
open Go.RowKit Go.Shelf
variable (Tabs : World → Prop) (B0 : Nat)

/-- Put's four blocks: the expression, the name, the value, and what it hands back -/
structure QW (w : World) (p : Ex) (ao : Option Addr) (cap : Nat) (nm : ByteArray) (v : Vl) (W : World) : Prop where
  c0 : W.cell? ⟨w.heap.size, 0, none⟩ = some (.int .i64 p.kind)
  c1 : W.cell? ⟨w.heap.size, 1, none⟩ = some (.string p.name)
  c2 : W.cell? ⟨w.heap.size, 2, none⟩ = some (.int .i64 p.so)
  c3 : W.cell? ⟨w.heap.size, 3, none⟩ = some (.int .i64 p.n)
  c4 : W.cell? ⟨w.heap.size, 4, none⟩ = some (.string p.s)
  c5 : W.cell? ⟨w.heap.size, 5, none⟩ = some (.slice ao p.kids.length cap)
  v : PV (w.heap.size + 1) (w.heap.size + 1 + 1) nm v W
  z : ZE W (w.heap.size + 1 + 1 + 1)
  bl : Below w.heap.size w W
theorem QW.keep {w : World} {p : Ex} {ao : Option Addr} {cap : Nat} {nm : ByteArray} {v : Vl} {W W' : World} (h : QW w p ao cap nm v W) (hb : Below W.heap.size W W') : QW w p ao cap nm v W' := by
  have hl : w.heap.size < W.heap.size := by have := h.z.lt; omega
  exact ⟨(hb.cell (p := ⟨_, 0, none⟩) hl).trans h.c0, (hb.cell (p := ⟨_, 1, none⟩) hl).trans h.c1, (hb.cell (p := ⟨_, 2, none⟩) hl).trans h.c2, (hb.cell (p := ⟨_, 3, none⟩) hl).trans h.c3, (hb.cell (p := ⟨_, 4, none⟩) hl).trans h.c4, (hb.cell (p := ⟨_, 5, none⟩) hl).trans h.c5, h.v.keep hb, h.z.keep hb, h.bl.trans (hb.mono h.bl.size)⟩
def qwW (w : World) (p : Ex) (ao : Option Addr) (cap : Nat) (nm : ByteArray) (v : Vl) : World := (((w.alloc (.cells #[.int .i64 p.kind, .string p.name, .int .i64 p.so, .int .i64 p.n, .string p.s, .slice ao p.kids.length cap] 26)).alloc (.cells #[.string nm] 9)).alloc (.cells #[.int .i64 v.so, .int .i64 v.n, .string v.s] 23)).alloc (.cells #[.int .i64 0, .string ⟨#[]⟩, .int .i64 0, .int .i64 0, .string ⟨#[]⟩, .slice none 0 0] 26)
theorem QW.new (w : World) (p : Ex) (ao : Option Addr) (cap : Nat) (nm : ByteArray) (v : Vl) : QW w p ao cap nm v (qwW w p ao cap nm v) := by
  unfold qwW
  refine ⟨by go_cell, by go_cell, by go_cell, by go_cell, by go_cell, by go_cell, ⟨by simp, by simp, by go_cell, by go_cell, by go_cell, by go_cell⟩, ?_, by go_grown⟩
  have := ZE.new (((w.alloc (.cells #[.int .i64 p.kind, .string p.name, .int .i64 p.so, .int .i64 p.n, .string p.s, .slice ao p.kids.length cap] 26)).alloc (.cells #[.string nm] 9)).alloc (.cells #[.int .i64 v.so, .int .i64 v.n, .string v.s] 23)) 26
  simpa using this

set_option maxHeartbeats 1000000 in
theorem put_bad1Q (hV : VSaid vD Tabs) (hK : ∀ w w', Tabs w → Below w.heap.size w w' → Tabs w') (hK2 : ∀ B w w', B0 ≤ B → Tabs w → Below B w w' → Tabs w') (hB0 : ∀ w, Tabs w → B0 ≤ w.heap.size)
    (d : Nat) (x : Ex) (ao : Option Addr) (cap : Nat) (nm : ByteArray) (v : Vl) (w : World) (hbd : ExBd x cap) (hka : KA w w.heap.size d x.kids ao) (hT : Tabs w) (hz : chkX x ≠ 0) :
    Calls Tryz.prog 12 #[exVal x ao cap, .string nm, vlV v] w fun e w' => e = .returned (.tuple #[.agg #[.int .i64 0, .string ⟨#[]⟩, .int .i64 0, .int .i64 0, .string ⟨#[]⟩, .slice none 0 0], .int .i64 (chkX x)]) ∧ Below w.heap.size w w' := by
  have HF := QW.new w x ao cap nm v
  have cK := chk_any Tabs B0 hV hK hK2 hB0 d x ao cap (qwW w x ao cap nm v) hbd ((hka.keep HF.bl).mono HF.bl.size) (hK _ _ hT HF.bl)
  obtain ⟨so, n, s⟩ := v
  simp only [exVal, vlV, qwW] at cK HF ⊢
  generalize chkX x = z at cK hz ⊢
  have hzb : (z != 0) = true := by simpa using hz
  clear hV hK hK2 hB0 hka hT hbd
  go_enter Tryz.func12, Tryz.ntmps12
  go_wp2_with fail
  refine cK.mono ?_
  rintro e w1 ⟨rfl, hb1⟩
  obtain ⟨_, _, _, _, _, _, _, hzz, hbl⟩ := HF.keep hb1
  obtain ⟨zl, z0, z1, z2, z3, z4, z5, zf⟩ := hzz
  have zf0 := zf 0
  have zf1 := zf 1
  have zf2 := zf 2
  have zf3 := zf 3
  have zf4 := zf 4
  have zf5 := zf 5
  clear cK HF hb1 zf
  have HZ := hide hz
  clear hz
  go_wp2_with fail
  refine bodyPost_ret (v := .tuple #[.agg #[.int .i64 0, .string ⟨#[]⟩, .int .i64 0, .int .i64 0, .string ⟨#[]⟩, .slice none 0 0], .int .i64 z]) (by simp [results, Tryz.results12, go_sem, z0, z1, z2, z3, z4, z5]) rfl ⟨rfl, ?_⟩
  have hsw := hbl.size
  go_grown
theorem put_bad1 (hV : VSaid vD Tabs) (hK : ∀ w w', Tabs w → Below w.heap.size w w' → Tabs w') (hK2 : ∀ B w w', B0 ≤ B → Tabs w → Below B w w' → Tabs w') (hB0 : ∀ w, Tabs w → B0 ≤ w.heap.size)
    (d : Nat) (x : Ex) (ao : Option Addr) (cap : Nat) (nm : ByteArray) (v : Vl) (w : World) (hbd : ExBd x cap) (hka : KA w w.heap.size d x.kids ao) (hT : Tabs w) (hz : chkX x ≠ 0) :
    Calls Tryz.prog 12 #[exVal x ao cap, .string nm, vlV v] w fun e w' => (∃ z : Int, z ≠ 0 ∧ e = .returned (.tuple #[.agg #[.int .i64 0, .string ⟨#[]⟩, .int .i64 0, .int .i64 0, .string ⟨#[]⟩, .slice none 0 0], .int .i64 z])) ∧ Below w.heap.size w w' :=
  (put_bad1Q Tabs B0 hV hK hK2 hB0 d x ao cap nm v w hbd hka hT hz).mono fun _ _ ⟨h1, h2⟩ => ⟨⟨_, hz, h1⟩, h2⟩

set_option maxHeartbeats 1000000 in
theorem put_bad2Q (hV : VSaid vD Tabs) (hK : ∀ w w', Tabs w → Below w.heap.size w w' → Tabs w') (hK2 : ∀ B w w', B0 ≤ B → Tabs w → Below B w w' → Tabs w') (hB0 : ∀ w, Tabs w → B0 ≤ w.heap.size)
    (d : Nat) (x : Ex) (ao : Option Addr) (cap : Nat) (nm : ByteArray) (v : Vl) (w : World) (hbd : ExBd x cap) (hka : KA w w.heap.size d x.kids ao) (hT : Tabs w) (hz : chkX x = 0) (hs : v.s.size ≤ 9223372036854775807) (hv : ¬ v.good) :
    Calls Tryz.prog 12 #[exVal x ao cap, .string nm, vlV v] w fun e w' => e = .returned (.tuple #[.agg #[.int .i64 0, .string ⟨#[]⟩, .int .i64 0, .int .i64 0, .string ⟨#[]⟩, .slice none 0 0], .int .i64 (chkZ vD v.so v.n v.s)]) ∧ Below w.heap.size w w' := by
  have HF := QW.new w x ao cap nm v
  have cK := chk_any Tabs B0 hV hK hK2 hB0 d x ao cap (qwW w x ao cap nm v) hbd ((hka.keep HF.bl).mono HF.bl.size) (hK _ _ hT HF.bl)
  rw [hz] at cK
  have cV := fun W (hb : Below w.heap.size w W) => check_any vD Tabs hV hK v.so v.n v.s W hs (hK _ _ hT hb)
  have hv' : chkZ vD v.so v.n v.s ≠ 0 := hv
  obtain ⟨so, n, s⟩ := v
  simp only [exVal, vlV, qwW] at cK cV HF hv' ⊢
  generalize chkZ vD so n s = z at cV hv' ⊢
  have hzb : (z != 0) = true := by simpa using hv'
  have CV := hide cV
  have HZ := hide hv'
  clear hV hK hK2 hB0 hka hT hbd cV hv hv' hz hs
  go_enter Tryz.func12, Tryz.ntmps12
  go_wp2_with fail
  refine cK.mono ?_
  rintro e w1 ⟨rfl, hb1⟩
  have HF1 := HF.keep hb1
  have C := CV.out w1 HF1.bl
  have HF2 := hide HF1
  obtain ⟨_, _, _, _, _, _, ⟨_, _, g0, g1, g2, g3⟩, _, _⟩ := HF1
  simp only at g1 g2 g3
  clear cK HF hb1 CV
  go_wp2_with fail
  refine C.mono ?_
  rintro e w2 ⟨rfl, hb2⟩
  obtain ⟨_, _, _, _, _, _, _, hzz, hbl⟩ := HF2.out.keep hb2
  obtain ⟨zl, z0, z1, z2, z3, z4, z5, zf⟩ := hzz
  have zf0 := zf 0
  have zf1 := zf 1
  have zf2 := zf 2
  have zf3 := zf 3
  have zf4 := zf 4
  have zf5 := zf 5
  clear C zf g0 g1 g2 g3
  go_wp2_with fail
  refine bodyPost_ret (v := .tuple #[.agg #[.int .i64 0, .string ⟨#[]⟩, .int .i64 0, .int .i64 0, .string ⟨#[]⟩, .slice none 0 0], .int .i64 z]) (by simp [results, Tryz.results12, go_sem, z0, z1, z2, z3, z4, z5]) rfl ⟨rfl, ?_⟩
  have hsw := hbl.size
  go_grown
theorem put_bad2 (hV : VSaid vD Tabs) (hK : ∀ w w', Tabs w → Below w.heap.size w w' → Tabs w') (hK2 : ∀ B w w', B0 ≤ B → Tabs w → Below B w w' → Tabs w') (hB0 : ∀ w, Tabs w → B0 ≤ w.heap.size)
    (d : Nat) (x : Ex) (ao : Option Addr) (cap : Nat) (nm : ByteArray) (v : Vl) (w : World) (hbd : ExBd x cap) (hka : KA w w.heap.size d x.kids ao) (hT : Tabs w) (hz : chkX x = 0) (hs : v.s.size ≤ 9223372036854775807) (hv : ¬ v.good) :
    Calls Tryz.prog 12 #[exVal x ao cap, .string nm, vlV v] w fun e w' => (∃ z : Int, z ≠ 0 ∧ e = .returned (.tuple #[.agg #[.int .i64 0, .string ⟨#[]⟩, .int .i64 0, .int .i64 0, .string ⟨#[]⟩, .slice none 0 0], .int .i64 z])) ∧ Below w.heap.size w w' :=
  (put_bad2Q Tabs B0 hV hK hK2 hB0 d x ao cap nm v w hbd hka hT hz hs hv).mono fun _ _ ⟨h1, h2⟩ => ⟨⟨_, hv, h1⟩, h2⟩

set_option maxHeartbeats 1000000 in
theorem put_good (hV : VSaid vD Tabs) (hK : ∀ w w', Tabs w → Below w.heap.size w w' → Tabs w') (hK2 : ∀ B w w', B0 ≤ B → Tabs w → Below B w w' → Tabs w') (hB0 : ∀ w, Tabs w → B0 ≤ w.heap.size)
    (d : Nat) (x : Ex) (ao : Option Addr) (cap : Nat) (nm : ByteArray) (v : Vl) (w : World) (hbd : ExBd x cap) (hka : KA w w.heap.size d x.kids ao) (hT : Tabs w) (hz : chkX x = 0) (hv : v.good) (hvb : VBd v) :
    Calls Tryz.prog 12 #[exVal x ao cap, .string nm, vlV v] w fun e w' => (∃ ao' cap', e = .returned (.tuple #[exVal (putX nm v x) ao' cap', .int .i64 0]) ∧ KA w' w'.heap.size d (putX nm v x).kids ao' ∧ ExBd (putX nm v x) cap') ∧ Below w.heap.size w w' := by
  have HF := QW.new w x ao cap nm v
  have cK := chk_any Tabs B0 hV hK hK2 hB0 d x ao cap (qwW w x ao cap nm v) hbd ((hka.keep HF.bl).mono HF.bl.size) (hK _ _ hT HF.bl)
  rw [hz] at cK
  have cV := fun W (hb : Below w.heap.size w W) => check_any vD Tabs hV hK v.so v.n v.s W (by have := hvb.s; omega) (hK _ _ hT hb)
  rw [show chkZ vD v.so v.n v.s = 0 from hv] at cV
  have cR := fun W (hb : Below w.heap.size w W) (hp : PV (w.heap.size + 1) (w.heap.size + 1 + 1) nm v W) => PutR.rebuilt_any (w.heap.size + 1) (w.heap.size + 1 + 1) nm v hvb d x ao cap w.heap.size W (chk_wf x 0 hz) hbd (hka.keep hb) hb.size hp
  generalize putX nm v x = y at *
  obtain ⟨so, n, s⟩ := v
  simp only [exVal, vlV, qwW] at cK cV HF ⊢
  have CV := hide cV
  have CR := hide cR
  clear hV hK hK2 hB0 hka hT hbd cV hv hz hvb cR
  go_enter Tryz.func12, Tryz.ntmps12
  go_wp2_with fail
  refine cK.mono ?_
  rintro e w1 ⟨rfl, hb1⟩
  have HF1 := HF.keep hb1
  have C := CV.out w1 HF1.bl
  have HF2 := hide HF1
  obtain ⟨_, _, _, _, _, _, ⟨_, _, g0, g1, g2, g3⟩, _, _⟩ := HF1
  simp only at g1 g2 g3
  clear cK HF hb1 CV
  go_wp2_with fail
  refine C.mono ?_
  rintro e w2 ⟨rfl, hb2⟩
  have HF3 := HF2.out.keep hb2
  have C2 := CR.out w2 HF3.bl HF3.v
  simp only [exVal] at C2
  have HF4 := hide HF3
  obtain ⟨y0, y1, y2, y3, y4, y5, _, _, hbl⟩ := HF3
  clear C g0 g1 g2 g3 HF2 CR
  go_wp2_with fail
  refine C2.mono ?_
  rintro e w3 ⟨⟨ao2, cap2, rfl, hk2, hbd2⟩, hb3⟩
  obtain ⟨_, _, _, _, _, _, _, hzz, hbl2⟩ := HF4.out.keep hb3
  obtain ⟨zl, z0, z1, z2, z3, z4, z5, zf⟩ := hzz
  have zf0 := zf 0
  have zf1 := zf 1
  have zf2 := zf 2
  have zf3 := zf 3
  have zf4 := zf 4
  have zf5 := zf 5
  have hlw := HF4.out.z.lt
  have HK := hide hk2
  clear C2 zf y0 y1 y2 y3 y4 y5 hk2
  go_wp2_with fail
  refine bodyPost_ret (v := .tuple #[exVal y ao2 cap2, .int .i64 0]) (by simp [exVal, results, Tryz.results12, go_sem, z0, z1, z2, z3, z4, z5]) rfl ⟨⟨ao2, cap2, rfl, ?_, hbd2⟩, by go_grown⟩
  refine KR.toKA (P := fun b => w2.heap.size ≤ b ∧ b < w3.heap.size) (fun b hb => Nat.lt_of_lt_of_le hb.2 (Nat.le_of_eq (st6_size _ _ _ _ _ _ _ _ _).symm)) ?_
  exact HK.out.keep (fun b o hb => st6_other w3 (w.heap.size + 1 + 1 + 1) 0 _ _ _ _ _ _ b o (.inl (by omega))) (fun b hb => hb)
end Go.Proofs.YtecapnipkngniaaGreatDoor

/-
  What the law ExprsMakes keeps in memory; the law of an expression that is not right.
-/
namespace Go.Proofs.YtecapnipkngniaaGreatDoor
open Go.RowKit Go.Shelf Go.Sort

/-- an expression and a value that came in, in their blocks -/
structure LQ (w : World) (x : Ex) (ao : Option Addr) (cap : Nat) (v : Vl) (W : World) : Prop where
  e : ExAt W w.heap.size 0 x ao cap
  v0 : W.cell? ⟨w.heap.size + 1, 0, none⟩ = some (.int .i64 v.so)
  v1 : W.cell? ⟨w.heap.size + 1, 1, none⟩ = some (.int .i64 v.n)
  v2 : W.cell? ⟨w.heap.size + 1, 2, none⟩ = some (.string v.s)
  lt : w.heap.size + 1 < W.heap.size
  bl : Below w.heap.size w W
theorem LQ.keep {w W W' : World} {x : Ex} {ao : Option Addr} {cap : Nat} {v : Vl} (h : LQ w x ao cap v W) (hb : Below W.heap.size W W') : LQ w x ao cap v W' :=
  ⟨h.e.keep hb (by have := h.lt; omega), (hb.cell (p := ⟨_, 0, none⟩) h.lt).trans h.v0, (hb.cell (p := ⟨_, 1, none⟩) h.lt).trans h.v1, (hb.cell (p := ⟨_, 2, none⟩) h.lt).trans h.v2, Nat.lt_of_lt_of_le h.lt hb.size, h.bl.trans (hb.mono h.bl.size)⟩
theorem LQ.al {w W : World} {x : Ex} {ao : Option Addr} {cap : Nat} {v : Vl} (h : LQ w x ao cap v W) (o : Obj) : LQ w x ao cap v (W.alloc o) := h.keep ((Below.refl _ _).alloc (Nat.le_refl _) _)
theorem LQ.dr {w W : World} {x : Ex} {ao : Option Addr} {cap : Nat} {v : Vl} (h : LQ w x ao cap v W) : LQ w x ao cap v W.drew := h.keep (Below.refl _ _).drew
theorem LQ.new (w : World) (x : Ex) (ao : Option Addr) (cap : Nat) (v : Vl) : LQ w x ao cap v ((w.alloc (.cells #[.int .i64 x.kind, .string x.name, .int .i64 x.so, .int .i64 x.n, .string x.s, .slice ao x.kids.length cap] 26)).alloc (.cells #[.int .i64 v.so, .int .i64 v.n, .string v.s] 23)) :=
  ⟨⟨by go_cell, by go_cell, by go_cell, by go_cell, by go_cell, by go_cell⟩, by go_cell, by go_cell, by go_cell, by simp, by go_grown⟩
theorem LQ.st {w W : World} {x : Ex} {ao : Option Addr} {cap : Nat} {v : Vl} (h : LQ w x ao cap v W) (b : Nat) (hb : w.heap.size + 1 < b) (a0 a1 a2 a3 a4 a5 : Value) : LQ w x ao cap v (st6 W b 0 a0 a1 a2 a3 a4 a5) :=
  ⟨h.e.keepO (fun o => st6_other _ _ _ _ _ _ _ _ _ _ _ (.inl (by omega))), (st6_other _ _ _ _ _ _ _ _ _ _ _ (.inl (by omega))).trans h.v0, (st6_other _ _ _ _ _ _ _ _ _ _ _ (.inl (by omega))).trans h.v1, (st6_other _ _ _ _ _ _ _ _ _ _ _ (.inl (by omega))).trans h.v2, by rw [st6_size]; exact h.lt, st6_below _ _ _ _ _ _ _ _ _ _ _ h.bl (by omega)⟩
theorem LQ.cells {w W : World} {x : Ex} {ao : Option Addr} {cap : Nat} {v : Vl} (h : LQ w x ao cap v W) :
    W.cell? ⟨w.heap.size, 0, none⟩ = some (.int .i64 x.kind) ∧ W.cell? ⟨w.heap.size, 1, none⟩ = some (.string x.name) ∧ W.cell? ⟨w.heap.size, 2, none⟩ = some (.int .i64 x.so) ∧ W.cell? ⟨w.heap.size, 3, none⟩ = some (.int .i64 x.n) ∧ W.cell? ⟨w.heap.size, 4, none⟩ = some (.string x.s) ∧ W.cell? ⟨w.heap.size, 5, none⟩ = some (.slice ao x.kids.length cap) ∧
    W.cell? ⟨w.heap.size + 1, 0, none⟩ = some (.int .i64 v.so) ∧ W.cell? ⟨w.heap.size + 1, 1, none⟩ = some (.int .i64 v.n) ∧ W.cell? ⟨w.heap.size + 1, 2, none⟩ = some (.string v.s) :=
  ⟨h.e.c0, h.e.c1, h.e.c2, h.e.c3, h.e.c4, h.e.c5, h.v0, h.v1, h.v2⟩
/-- an expression in block b that a call has made -/
structure XQ (W : World) (b : Nat) (y : Ex) (ao : Option Addr) (cap : Nat) : Prop where
  lt : b < W.heap.size
  e : ExAt W b 0 y ao cap
theorem XQ.keep {W W' : World} {b : Nat} {y : Ex} {ao : Option Addr} {cap : Nat} (h : XQ W b y ao cap) (hb : Below W.heap.size W W') : XQ W' b y ao cap := ⟨Nat.lt_of_lt_of_le h.lt hb.size, h.e.keep hb h.lt⟩
theorem XQ.al {W : World} {b : Nat} {y : Ex} {ao : Option Addr} {cap : Nat} (h : XQ W b y ao cap) (o : Obj) : XQ (W.alloc o) b y ao cap := h.keep ((Below.refl _ _).alloc (Nat.le_refl _) _)
theorem XQ.new (W : World) (y : Ex) (ao : Option Addr) (cap : Nat) : XQ (W.alloc (.cells #[.int .i64 y.kind, .string y.name, .int .i64 y.so, .int .i64 y.n, .string y.s, .slice ao y.kids.length cap] 26)) W.heap.size y ao cap :=
  ⟨by simp, by go_cell, by go_cell, by go_cell, by go_cell, by go_cell, by go_cell⟩
theorem XQ.cells {W : World} {b : Nat} {y : Ex} {ao : Option Addr} {cap : Nat} (h : XQ W b y ao cap) :
    W.cell? ⟨b, 0, none⟩ = some (.int .i64 y.kind) ∧ W.cell? ⟨b, 1, none⟩ = some (.string y.name) ∧ W.cell? ⟨b, 2, none⟩ = some (.int .i64 y.so) ∧ W.cell? ⟨b, 3, none⟩ = some (.int .i64 y.n) ∧ W.cell? ⟨b, 4, none⟩ = some (.string y.s) ∧ W.cell? ⟨b, 5, none⟩ = some (.slice ao y.kids.length cap) :=
  ⟨h.e.c0, h.e.c1, h.e.c2, h.e.c3, h.e.c4, h.e.c5⟩
def zX : Ex := ⟨0, ⟨#[]⟩, 0, 0, ⟨#[]⟩, []⟩
theorem ZE.toX {W : World} {b : Nat} (h : ZE W b) : XQ W b zX none 0 := ⟨h.lt, h.c0, h.c1, h.c2, h.c3, h.c4, h.c5⟩
theorem own_st6Q {W : World} {base : Nat} {e : TypeId} {size : Nat} {u : Value} {n : Nat} {xs : List Value} (h : W.ownsRow base e size u n xs) (b : Nat) (hb : b < base) (a0 a1 a2 a3 a4 a5 : Value) : (st6 W b 0 a0 a1 a2 a3 a4 a5).ownsRow base e size u n xs := by
  unfold st6
  exact ownsRow_setCell_below (ownsRow_setCell_below (ownsRow_setCell_below (ownsRow_setCell_below (ownsRow_setCell_below (ownsRow_setCell_below h hb _) hb _) hb _) hb _) hb _) hb _
theorem names_str (l : List (List UInt8)) : (l.map fun s => (⟨s.toArray⟩ : ByteArray)).map Value.string = l.map encStr := by
  rw [List.map_map]; rfl
theorem st6_atQ (W : World) (b : Nat) (y : Ex) (ao : Option Addr) (cap : Nat) (h : ZE W b) : ExAt (st6 W b 0 (.int .i64 y.kind) (.string y.name) (.int .i64 y.so) (.int .i64 y.n) (.string y.s) (.slice ao y.kids.length cap)) b 0 y ao cap :=
  st6_at W b 0 y ao cap fun j hj => by
    rcases Nat.lt_or_ge j 1 with h1 | h1
    · obtain rfl : j = 0 := by omega
      exact ⟨_, h.c0⟩
    rcases Nat.lt_or_ge j 2 with h2 | h2
    · obtain rfl : j = 1 := by omega
      exact ⟨_, h.c1⟩
    rcases Nat.lt_or_ge j 3 with h3 | h3
    · obtain rfl : j = 2 := by omega
      exact ⟨_, h.c2⟩
    rcases Nat.lt_or_ge j 4 with h4 | h4
    · obtain rfl : j = 3 := by omega
      exact ⟨_, h.c3⟩
    rcases Nat.lt_or_ge j 5 with h5 | h5
    · obtain rfl : j = 4 := by omega
      exact ⟨_, h.c4⟩
    obtain rfl : j = 5 := by omega
    exact ⟨_, h.c5⟩
theorem ka_up {W W' : World} {d : Nat} {ks : List Ex} {ao : Option Addr} (h : KA W W.heap.size d ks ao) (hb : Below W.heap.size W W') : KA W' W'.heap.size d ks ao := (h.keep hb).mono hb.size
/-- a call that answers v wherever it is made, and changes nothing that was there -/
def CQ (f : Nat) (args : Array Value) (w : World) (v : Value) : Prop := ∀ W, Below w.heap.size w W → Calls Tryz.prog f args W fun e w' => e = .returned v ∧ Below W.heap.size W w'

set_option maxRecDepth 100000 in
set_option maxHeartbeats 4000000 in
theorem makes_bad (x : Ex) (ao ae : Option Addr) (cap n ce : Nat) (nm : ByteArray) (v r : Vl) (er z : Int) (w : World) (hz : z ≠ 0) (her : er ≠ 0 → r = ⟨0, 0, ⟨#[]⟩⟩)
    (cR : CQ 4 #[exVal x ao cap] w (.int .i64 z)) (cE : CQ 5 #[exVal x ao cap, .slice ae n ce] w (.tuple #[vlV r, .int .i64 er])) (cF : CQ 6 #[exVal x ao cap, .slice ae n ce] w (.tuple #[vlV r, .int .i64 er]))
    (cP : CQ 12 #[exVal x ao cap, .string nm, vlV v] w (.tuple #[.agg #[.int .i64 0, .string ⟨#[]⟩, .int .i64 0, .int .i64 0, .string ⟨#[]⟩, .slice none 0 0], .int .i64 z])) (cN : CQ 13 #[exVal x ao cap] w (.tuple #[.slice none 0 0, .int .i64 z])) (cG : CQ 14 #[exVal x ao cap] w (.tuple #[.agg #[.int .i64 0, .string ⟨#[]⟩, .int .i64 0, .int .i64 0, .string ⟨#[]⟩, .slice none 0 0], .int .i64 z])) :
    Calls Tryz.prog 3 #[exVal x ao cap, .slice ae n ce, .string nm, vlV v] w fun e w' => e = .returned (.bool true) ∧ Below w.heap.size w w' := by
  have hzb : (z == 0) = false := by simpa using hz
  have cX := fun (W : World) => lawExpr_err z hz zX none 0 W
  have cL := fun (W : World) => lawList_err z hz none 0 0 W
  simp only [exVal, vlV, zX, List.length_nil] at cP cN cG cX
  have CP := hideC cP
  have CN := hideC cN
  have CG := hideC cG
  have CX := hideC cX
  have CL := hideC cL
  clear cP cN cG cX cL hz
  have t0 := LQ.new w x ao cap v
  have cO := fun (W : World) => oneVl_any r er W her
  simp only [exVal, vlV] at cR cE cF cO ⊢
  have CR := hideC cR
  have CE := hideC cE
  have CF := hideC cF
  have CO := hideC cO
  clear cR cE cF cO her
  have T0 := hideC t0
  go_enter Tryz.func3, Tryz.ntmps3
  obtain ⟨x0, x1, x2, x3, x4, x5, y0, y1, y2⟩ := t0.cells
  clear t0
  go_wp2_with fail
  refine (CR.out _ T0.out.bl).mono ?_
  rintro e w1 ⟨rfl, hb⟩
  have T1 := hideC (T0.out.keep hb)
  clear x0 x1 x2 x3 x4 x5 y0 y1 y2 hb T0 CR
  obtain ⟨x0, x1, x2, x3, x4, x5, y0, y1, y2⟩ := T1.out.cells
  go_wp2_with fail
  refine (CE.out _ T1.out.bl).mono ?_
  rintro e w2 ⟨rfl, hb⟩
  have T2 := hideC ((T1.out.keep hb).al (.cells #[.int .i64 r.so, .int .i64 r.n, .string r.s] 23))
  have A2 := hideC (Box.new w2 r.so r.n r.s 23)
  clear x0 x1 x2 x3 x4 x5 y0 y1 y2 hb T1 CE
  obtain ⟨x0, x1, x2, x3, x4, x5, y0, y1, y2⟩ := T2.out.cells
  go_wp2_with fail
  refine (CF.out _ T2.out.bl).mono ?_
  rintro e w3 ⟨rfl, hb⟩
  have T3 := hideC ((T2.out.keep hb).al (.cells #[.int .i64 r.so, .int .i64 r.n, .string r.s] 23))
  have A3 := hideC ((A2.out.keep hb).keep ((Below.refl _ _).alloc (Nat.le_refl _) (.cells #[.int .i64 r.so, .int .i64 r.n, .string r.s] 23)))
  have B3 := hideC (Box.new w3 r.so r.n r.s 23)
  clear x0 x1 x2 x3 x4 x5 y0 y1 y2 hb T2 CF A2
  obtain ⟨_, a0, a1, a2⟩ := A3.out
  obtain ⟨_, b0, b1, b2⟩ := B3.out
  go_wp2_with fail
  refine (CO.out _).mono ?_
  rintro e w4 ⟨rfl, hb⟩
  have T4 := hideC (T3.out.keep hb)
  clear hb T3 CO A3 B3 a0 a1 a2 b0 b1 b2
  obtain ⟨x0, x1, x2, x3, x4, x5, y0, y1, y2⟩ := T4.out.cells
  have T5 := hideC ((T4.out.al (.cells #[.int .i64 0, .string ⟨#[]⟩, .int .i64 0, .int .i64 0, .string ⟨#[]⟩, .slice none 0 0] 26)).al (.cells #[.int .i64 0, .string ⟨#[]⟩, .int .i64 0, .int .i64 0, .string ⟨#[]⟩, .slice none 0 0] 26))
  have P5 := hideC ((ZE.new w4 26).toX.al (.cells #[.int .i64 0, .string ⟨#[]⟩, .int .i64 0, .int .i64 0, .string ⟨#[]⟩, .slice none 0 0] 26))
  have q5 := (ZE.new (w4.alloc (.cells #[.int .i64 0, .string ⟨#[]⟩, .int .i64 0, .int .i64 0, .string ⟨#[]⟩, .slice none 0 0] 26)) 26).toX
  rw [World.size_alloc] at q5
  have Q5 := hideC q5
  clear q5
  clear x0 x1 x2 x3 x4 x5 y0 y1 y2 T4
  obtain ⟨x0, x1, x2, x3, x4, x5, y0, y1, y2⟩ := T5.out.cells
  go_wp2_with fail
  refine (CP.out _ T5.out.bl).mono ?_
  rintro e w5 ⟨rfl, hb⟩
  have T6 := hideC ((T5.out.keep hb).al (.cells #[.int .i64 0, .string ⟨#[]⟩, .int .i64 0, .int .i64 0, .string ⟨#[]⟩, .slice none 0 0] 26))
  have P6 := hideC ((P5.out.keep hb).al (.cells #[.int .i64 0, .string ⟨#[]⟩, .int .i64 0, .int .i64 0, .string ⟨#[]⟩, .slice none 0 0] 26))
  have Q6 := hideC ((Q5.out.keep hb).al (.cells #[.int .i64 0, .string ⟨#[]⟩, .int .i64 0, .int .i64 0, .string ⟨#[]⟩, .slice none 0 0] 26))
  have R6 := hideC ((ZE.new w5 26).toX)
  clear x0 x1 x2 x3 x4 x5 y0 y1 y2 T5 P5 Q5 hb CP
  obtain ⟨x0, x1, x2, x3, x4, x5, y0, y1, y2⟩ := T6.out.cells
  go_wp2_with fail
  refine (CN.out _ T6.out.bl).mono ?_
  rintro e w6 ⟨rfl, hb⟩
  have T7 := hideC (T6.out.keep hb)
  have P7 := hideC (P6.out.keep hb)
  have Q7 := hideC (Q6.out.keep hb)
  have R7 := hideC (R6.out.keep hb)
  clear x0 x1 x2 x3 x4 x5 y0 y1 y2 T6 P6 Q6 R6 hb CN
  obtain ⟨x0, x1, x2, x3, x4, x5, y0, y1, y2⟩ := T7.out.cells
  go_wp2_with fail
  refine (CG.out _ T7.out.bl).mono ?_
  rintro e w7 ⟨rfl, hb⟩
  have T8 := hideC ((T7.out.keep hb).al (.cells #[.int .i64 0, .string ⟨#[]⟩, .int .i64 0, .int .i64 0, .string ⟨#[]⟩, .slice none 0 0] 26))
  have P8 := hideC ((P7.out.keep hb).al (.cells #[.int .i64 0, .string ⟨#[]⟩, .int .i64 0, .int .i64 0, .string ⟨#[]⟩, .slice none 0 0] 26))
  have Q8 := hideC ((Q7.out.keep hb).al (.cells #[.int .i64 0, .string ⟨#[]⟩, .int .i64 0, .int .i64 0, .string ⟨#[]⟩, .slice none 0 0] 26))
  have R8 := hideC ((R7.out.keep hb).al (.cells #[.int .i64 0, .string ⟨#[]⟩, .int .i64 0, .int .i64 0, .string ⟨#[]⟩, .slice none 0 0] 26))
  have S8 := hideC ((ZE.new w7 26).toX)
  clear x0 x1 x2 x3 x4 x5 y0 y1 y2 T7 P7 Q7 R7 hb CG
  obtain ⟨x0, x1, x2, x3, x4, x5⟩ := R8.out.cells
  obtain ⟨y0, y1, y2, y3, y4, y5⟩ := P8.out.cells
  simp only [zX, List.length_nil] at x0 x1 x2 x3 x4 x5 y0 y1 y2 y3 y4 y5
  go_wp2_with fail
  refine (CX.out _).mono ?_
  rintro e w8 ⟨rfl, hb⟩
  have T9 := hideC (T8.out.keep hb)
  have Q9 := hideC (Q8.out.keep hb)
  have S9 := hideC (S8.out.keep hb)
  clear x0 x1 x2 x3 x4 x5 y0 y1 y2 y3 y4 y5 T8 P8 Q8 R8 S8 hb
  obtain ⟨x0, x1, x2, x3, x4, x5⟩ := S9.out.cells
  obtain ⟨y0, y1, y2, y3, y4, y5⟩ := Q9.out.cells
  simp only [zX, List.length_nil] at x0 x1 x2 x3 x4 x5 y0 y1 y2 y3 y4 y5
  go_wp2_with fail
  refine (CL.out _).mono ?_
  rintro e w9 ⟨rfl, rfl⟩
  go_wp2_with fail
  refine (CX.out _).mono ?_
  rintro e w10 ⟨rfl, hb⟩
  have T10 := hideC (T9.out.keep hb)
  clear x0 x1 x2 x3 x4 x5 y0 y1 y2 y3 y4 y5 T9 Q9 S9 hb
  go_wp2_with fail
  go_ret
  exact ⟨rfl, T10.out.bl⟩
end Go.Proofs.YtecapnipkngniaaGreatDoor
