/-
  The contract of exprs.Fold, for every expression.
-/
import Derived.Test.YtclbillfffpknaaDoorYh
namespace Go.Proofs.YtclbillfffpknaaDoor
open Go.RowKit Go.Shelf
theorem hide {p : Prop} (h : p) : Hid p := h
variable (Tabs : World → Prop) (B0 : Nat)

set_option maxHeartbeats 1000000 in
theorem fold_bad (hV : VSaid vD Tabs) (hK : ∀ w w', Tabs w → Below w.heap.size w w' → Tabs w') (hK2 : ∀ B w w', B0 ≤ B → Tabs w → Below B w w' → Tabs w') (hB0 : ∀ w, Tabs w → B0 ≤ w.heap.size)
    (d : Nat) (x : Ex) (ao : Option Addr) (cap : Nat) (w : World) (hbd : ExBd x cap) (hka : KA w w.heap.size d x.kids ao) (hT : Tabs w) (hz : chkX x ≠ 0) :
    Calls Tryd.prog 12 #[exVal x ao cap] w fun e w' => e = .returned (.tuple #[.agg #[.int .i64 0, .string ⟨#[]⟩, .int .i64 0, .int .i64 0, .string ⟨#[]⟩, .slice none 0 0], .int .i64 (chkX x)]) ∧ Below w.heap.size w w' := by
  have HF := FW.new w x ao cap
  have cK := chk_any Tabs B0 hV hK hK2 hB0 d x ao cap (fwW w x ao cap) hbd ((hka.keep HF.bl).mono HF.bl.size) (hK _ _ hT HF.bl)
  simp only [exVal, fwW] at cK HF ⊢
  generalize chkX x = z at cK hz ⊢
  have hzb : (z != 0) = true := by simpa using hz
  clear hV hK hK2 hB0 hka hT hbd
  go_enter Tryd.func12, Tryd.ntmps12
  go_wp2_with fail
  refine cK.mono ?_
  rintro e w1 ⟨rfl, hb1⟩
  obtain ⟨_, _, _, _, _, _, hzz, hbl⟩ := HF.keep hb1
  obtain ⟨zl, z0, z1, z2, z3, z4, z5, zf⟩ := hzz
  have zf0 := zf 0
  have zf1 := zf 1
  have zf2 := zf 2
  have zf3 := zf 3
  have zf4 := zf 4
  have zf5 := zf 5
  clear cK HF hb1 hz zf
  go_wp2_with fail
  refine bodyPost_ret (v := .tuple #[.agg #[.int .i64 0, .string ⟨#[]⟩, .int .i64 0, .int .i64 0, .string ⟨#[]⟩, .slice none 0 0], .int .i64 z]) (by simp [results, Tryd.results12, go_sem, z0, z1, z2, z3, z4, z5]) rfl ⟨rfl, ?_⟩
  have hsw := hbl.size
  go_grown

set_option maxHeartbeats 1000000 in
theorem fold_good (hV : VSaid vD Tabs) (hK : ∀ w w', Tabs w → Below w.heap.size w w' → Tabs w') (hK2 : ∀ B w w', B0 ≤ B → Tabs w → Below B w w' → Tabs w') (hB0 : ∀ w, Tabs w → B0 ≤ w.heap.size) (hC : CSaid)
    (d : Nat) (x : Ex) (ao : Option Addr) (cap : Nat) (w : World) (hbd : ExBd x cap) (hka : KA w w.heap.size d x.kids ao) (hT : Tabs w) (hz : chkX x = 0) :
    Calls Tryd.prog 12 #[exVal x ao cap] w fun e w' => (∃ ao' cap', e = .returned (.tuple #[exVal (foldX x) ao' cap', .int .i64 0]) ∧ KA w' w'.heap.size d (foldX x).kids ao' ∧ ExBd (foldX x) cap') ∧ Below w.heap.size w w' := by
  have HF := FW.new w x ao cap
  have cK := chk_any Tabs B0 hV hK hK2 hB0 d x ao cap (fwW w x ao cap) hbd ((hka.keep HF.bl).mono HF.bl.size) (hK _ _ hT HF.bl)
  rw [hz] at cK
  have cR := fun W (hb : Below w.heap.size w W) => rebuilt_any Tabs hV hK hC d x ao cap w.heap.size W (chk_wf x 0 hz) hbd (hka.keep hb) hb.size (hK _ _ hT hb)
  have CR := hide cR
  have HF' := HF
  simp only [exVal, fwW] at cK HF ⊢
  clear hV hK hK2 hB0 hka hT hbd cR hz HF'
  go_enter Tryd.func12, Tryd.ntmps12
  go_wp2_with fail
  refine cK.mono ?_
  rintro e w1 ⟨rfl, hb1⟩
  have HF1 := HF.keep hb1
  have C := CR.out w1 HF1.bl
  simp only [exVal, fvF] at C
  obtain ⟨y0, y1, y2, y3, y4, y5, _, hbl⟩ := id HF1
  have HF2 := hide HF1
  clear cK HF hb1 CR HF1
  go_wp2_with fail
  refine C.mono ?_
  rintro e w2 ⟨⟨ao2, cap2, rfl, hk2, hbd2⟩, hb2⟩
  obtain ⟨_, _, _, _, _, _, hzz, hbl2⟩ := HF2.out.keep hb2
  obtain ⟨zl, z0, z1, z2, z3, z4, z5, zf⟩ := hzz
  have zf0 := zf 0
  have zf1 := zf 1
  have zf2 := zf 2
  have zf3 := zf 3
  have zf4 := zf 4
  have zf5 := zf 5
  have hlw := HF2.out.z.lt
  have HK := hide hk2
  clear C zf y0 y1 y2 y3 y4 y5 hk2
  go_wp2_with fail
  refine bodyPost_ret (v := .tuple #[exVal (foldX x) ao2 cap2, .int .i64 0]) (by simp [exVal, results, Tryd.results12, go_sem, z0, z1, z2, z3, z4, z5]) rfl ⟨⟨ao2, cap2, rfl, ?_, hbd2⟩, by go_grown⟩
  refine KR.toKA (P := fun b => w1.heap.size ≤ b ∧ b < w2.heap.size) (fun b hb => Nat.lt_of_lt_of_le hb.2 (Nat.le_of_eq (st6_size _ _ _ _ _ _ _ _ _).symm)) ?_
  exact HK.out.keep (fun b o hb => st6_other w2 (w.heap.size + 1) 0 _ _ _ _ _ _ b o (.inl (by omega))) (fun b hb => hb)
end Go.Proofs.YtclbillfffpknaaDoor
