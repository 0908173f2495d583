/-
  The contract of duetkeep.back.
-/
import Derived.Test.YtnlpnbelkkgghaaDoorUq
namespace Go.Proofs.YtnlpnbelkkgghaaDoor
open Go.RowKit Go.Shelf

/-- what duetkeep.back answers -/
def BOPost (g : List Nd) (w : World) (e : Ending) (w' : World) : Prop :=
  ((60 < (backP g).2.2 ∧ ∃ t al cl ak ck, e = .returned (.tuple #[tyVal t al cl ak ck, .bool false])) ∨ ((backP g).2.2 ≤ 60 ∧ ∃ al cl ak ck d, e = .returned (.tuple #[tyVal (backP g).1 al cl ak ck, .bool true]) ∧ TyBd (backP g).1 cl ck ∧ LA w' w'.heap.size (backP g).1.labels al ∧ KT w' w'.heap.size d (backP g).1.kids ak)) ∧ Below w.heap.size w w'
set_option maxRecDepth 100000 in
set_option maxHeartbeats 8000000 in
theorem backKeep_any (g : List Nd) (hg : GN g) (ag : Option Addr) (cg B : Nat) (w : World) (hga : GAt w B g ag) (hB : B ≤ w.heap.size) :
    Calls Tryd.prog 22 #[.slice ag g.length cg, .int .i64 0] w (BOPost g w) := by
  unfold BOPost
  have hA0 : Below w.heap.size w (w.alloc (.cells #[.int .i64 0, .int .i64 0, .string ⟨#[]⟩, .slice none 0 0, .slice none 0 0] 25)) := (Below.refl _ _).alloc (Nat.le_refl _) _
  have c1 := back_any g hg ag cg B (w.alloc (.cells #[.int .i64 0, .int .i64 0, .string ⟨#[]⟩, .slice none 0 0, .slice none 0 0] 25)) (hga.keep (hA0.mono hB)) (by simp; omega)
  have HR0 := hideK (RBX.new w)
  have HA0 := hideK hA0
  unfold BCPost at c1
  clear hga hA0 hg
  go_enter Tryd.func22, Tryd.ntmps22
  go_wp2_with fail
  refine c1.mono ?_
  rintro e w1 ⟨hor, hb1⟩
  have HR1 := hideK (HR0.out.keep hb1)
  have HB1 := hideK (HA0.out.trans (hb1.mono HA0.out.size))
  clear c1 hb1 HR0 HA0
  rcases hbk : backP g with ⟨bT, bm, bp⟩
  rw [hbk] at hor
  have HBE := hideK hbk
  clear hbk
  simp only at hor
  rcases hor with ⟨hq, rfl⟩ | ⟨hq, al, cl, ak, ck, d, rfl, hbd, hlp, hkp⟩
  · have HQ := hideK (show 60 < (backP g).2.2 from by rw [HBE.out]; exact hq)
    clear hq
    have hA1 : Below w1.heap.size w1 (w1.alloc (.cells #[.int .i64 0, .int .i64 0, .string ⟨#[]⟩, .slice none 0 0, .slice none 0 0] 25)) := (Below.refl _ _).alloc (Nat.le_refl _) _
    have HR2 := hideK (HR1.out.keep hA1)
    have HB2 := hideK (HB1.out.trans (hA1.mono HB1.out.size))
    have HTY := hideK (show TyAt (w1.alloc (.cells #[.int .i64 0, .int .i64 0, .string ⟨#[]⟩, .slice none 0 0, .slice none 0 0] 25)) w1.heap.size 0 zT none 0 none 0 from lit_ty w1 zT none 0 none 0)
    have HSZ := hideK (show (w1.alloc (.cells #[.int .i64 0, .int .i64 0, .string ⟨#[]⟩, .slice none 0 0, .slice none 0 0] 25)).heap.size = w1.heap.size + 1 from by simp)
    go_upto_region 4 with fail
    generalize w1.alloc (.cells #[.int .i64 0, .int .i64 0, .string ⟨#[]⟩, .slice none 0 0, .slice none 0 0] 25) = W5 at *
    obtain ⟨z0, z1, z2, z3, z4, zf, zl⟩ := HR2.out
    have f0 := zf 0
    have f1 := zf 1
    have f2 := zf 2
    have f3 := zf 3
    have f4 := zf 4
    obtain ⟨t0, t1, t2, t3, t4⟩ := HTY.out
    simp only [Nat.zero_add, zT, List.length_nil] at t0 t1 t2 t3 t4
    clear zf
    have HB9 := hideK (st5_below w.heap.size 0 (.int .i64 0) (.int .i64 0) (.string ⟨#[]⟩) (.slice none 0 0) (.slice none 0 0) HB2.out (Nat.le_refl _))
    have HTA := hideK (show TyAt (st5 W5 w.heap.size 0 (.int .i64 0) (.int .i64 0) (.string ⟨#[]⟩) (.slice none 0 0) (.slice none 0 0)) w.heap.size 0 zT none 0 none 0 from st5_at W5 w.heap.size 0 zT none 0 none 0 (fun j hj => by
      rw [Nat.zero_add]
      have : j = 0 ∨ j = 1 ∨ j = 2 ∨ j = 3 ∨ j = 4 := by omega
      rcases this with rfl | rfl | rfl | rfl | rfl
      · exact ⟨_, z0⟩
      · exact ⟨_, z1⟩
      · exact ⟨_, z2⟩
      · exact ⟨_, z3⟩
      · exact ⟨_, z4⟩))
    have HK9 := hideK (show ∀ b o, b ≠ w.heap.size → (st5 W5 w.heap.size 0 (.int .i64 0) (.int .i64 0) (.string ⟨#[]⟩) (.slice none 0 0) (.slice none 0 0)).cell? ⟨b, o, none⟩ = W5.cell? ⟨b, o, none⟩ from fun b o hb => st5_other _ _ _ _ _ _ _ _ _ _ (.inl hb))
    have HS9 := hideK (show (st5 W5 w.heap.size 0 (.int .i64 0) (.int .i64 0) (.string ⟨#[]⟩) (.slice none 0 0) (.slice none 0 0)).heap.size = w1.heap.size + 1 from (st5_size _ _ _ _ _ _ _ _).trans HSZ.out)
    go_wp2_with fail
    change bodyPost _ _ _ _ _ (st5 W5 w.heap.size 0 (.int .i64 0) (.int .i64 0) (.string ⟨#[]⟩) (.slice none 0 0) (.slice none 0 0))
    generalize st5 W5 w.heap.size 0 (.int .i64 0) (.int .i64 0) (.string ⟨#[]⟩) (.slice none 0 0) (.slice none 0 0) = W9 at *
    obtain ⟨r0, r1, r2, r3, r4⟩ := HTA.out
    simp only [Nat.zero_add, zT, List.length_nil] at r0 r1 r2 r3 r4
    refine bodyPost_ret (v := .tuple #[.agg #[.int .i64 0, .int .i64 0, .string ⟨#[]⟩, .slice none 0 0, .slice none 0 0], .bool false]) (by simp [results, Tryd.results22, go_sem, r0, r1, r2, r3, r4]) rfl ?_
    exact ⟨.inl ⟨HQ.out, zT, none, 0, none, 0, rfl⟩, HB9.out⟩
  · have HQ := hideK (show bp ≤ 60 from hq)
    have HBD := hideK hbd
    have HLP := hideK hlp
    have HKP := hideK hkp
    clear hq hbd hlp hkp
    simp only [tyVal]
    have hA1 : Below w1.heap.size w1 (w1.alloc (.cells #[.int .i64 bT.kind, .int .i64 bT.so, .string bT.name, .slice al bT.labels.length cl, .slice ak bT.kids.length ck] 25)) := (Below.refl _ _).alloc (Nat.le_refl _) _
    have HR2 := hideK (HR1.out.keep hA1)
    have HB2 := hideK (HB1.out.trans (hA1.mono HB1.out.size))
    have HTY := hideK (lit_ty w1 bT al cl ak ck)
    have HA1 := hideK (show ∀ b o, b < w1.heap.size → (w1.alloc (.cells #[.int .i64 bT.kind, .int .i64 bT.so, .string bT.name, .slice al bT.labels.length cl, .slice ak bT.kids.length ck] 25)).cell? ⟨b, o, none⟩ = w1.cell? ⟨b, o, none⟩ from fun b o hb => World.cell?_alloc_past _ _ _ hb)
    have HSZ := hideK (show (w1.alloc (.cells #[.int .i64 bT.kind, .int .i64 bT.so, .string bT.name, .slice al bT.labels.length cl, .slice ak bT.kids.length ck] 25)).heap.size = w1.heap.size + 1 from by simp)
    go_upto_region 4 with fail
    generalize w1.alloc (.cells #[.int .i64 bT.kind, .int .i64 bT.so, .string bT.name, .slice al bT.labels.length cl, .slice ak bT.kids.length ck] 25) = W5 at *
    obtain ⟨z0, z1, z2, z3, z4, zf, zl⟩ := HR2.out
    have f0 := zf 0
    have f1 := zf 1
    have f2 := zf 2
    have f3 := zf 3
    have f4 := zf 4
    obtain ⟨t0, t1, t2, t3, t4⟩ := HTY.out
    simp only [Nat.zero_add] at t0 t1 t2 t3 t4
    clear zf
    have HB9 := hideK (st5_below w.heap.size 0 (.int .i64 bT.kind) (.int .i64 bT.so) (.string bT.name) (.slice al bT.labels.length cl) (.slice ak bT.kids.length ck) HB2.out (Nat.le_refl _))
    have HTA := hideK (show TyAt (st5 W5 w.heap.size 0 (.int .i64 bT.kind) (.int .i64 bT.so) (.string bT.name) (.slice al bT.labels.length cl) (.slice ak bT.kids.length ck)) w.heap.size 0 bT al cl ak ck from st5_at W5 w.heap.size 0 bT al cl ak ck (fun j hj => by
      rw [Nat.zero_add]
      have : j = 0 ∨ j = 1 ∨ j = 2 ∨ j = 3 ∨ j = 4 := by omega
      rcases this with rfl | rfl | rfl | rfl | rfl
      · exact ⟨_, z0⟩
      · exact ⟨_, z1⟩
      · exact ⟨_, z2⟩
      · exact ⟨_, z3⟩
      · exact ⟨_, z4⟩))
    have HK9 := hideK (show ∀ b o, b ≠ w.heap.size → (st5 W5 w.heap.size 0 (.int .i64 bT.kind) (.int .i64 bT.so) (.string bT.name) (.slice al bT.labels.length cl) (.slice ak bT.kids.length ck)).cell? ⟨b, o, none⟩ = W5.cell? ⟨b, o, none⟩ from fun b o hb => st5_other _ _ _ _ _ _ _ _ _ _ (.inl hb))
    have HS9 := hideK (show (st5 W5 w.heap.size 0 (.int .i64 bT.kind) (.int .i64 bT.so) (.string bT.name) (.slice al bT.labels.length cl) (.slice ak bT.kids.length ck)).heap.size = w1.heap.size + 1 from (st5_size _ _ _ _ _ _ _ _).trans HSZ.out)
    go_wp2_with fail
    change bodyPost _ _ _ _ _ (st5 W5 w.heap.size 0 (.int .i64 bT.kind) (.int .i64 bT.so) (.string bT.name) (.slice al bT.labels.length cl) (.slice ak bT.kids.length ck))
    generalize st5 W5 w.heap.size 0 (.int .i64 bT.kind) (.int .i64 bT.so) (.string bT.name) (.slice al bT.labels.length cl) (.slice ak bT.kids.length ck) = W9 at *
    obtain ⟨r0, r1, r2, r3, r4⟩ := HTA.out
    simp only [Nat.zero_add] at r0 r1 r2 r3 r4
    refine bodyPost_ret (v := .tuple #[.agg #[.int .i64 bT.kind, .int .i64 bT.so, .string bT.name, .slice al bT.labels.length cl, .slice ak bT.kids.length ck], .bool true]) (by simp [results, Tryd.results22, go_sem, r0, r1, r2, r3, r4]) rfl ?_
    have hs9 := HS9.out
    rw [HBE.out]
    have hne : ∀ b, ((w.alloc (.cells #[.int .i64 0, .int .i64 0, .string ⟨#[]⟩, .slice none 0 0, .slice none 0 0] 25)).heap.size ≤ b ∧ b < w1.heap.size) → b ≠ w.heap.size ∧ b < w1.heap.size := fun b hb => ⟨by have h := hb.1; simp at h; omega, hb.2⟩
    have hk : ∀ b o, ((w.alloc (.cells #[.int .i64 0, .int .i64 0, .string ⟨#[]⟩, .slice none 0 0, .slice none 0 0] 25)).heap.size ≤ b ∧ b < w1.heap.size) → W9.cell? ⟨b, o, none⟩ = w1.cell? ⟨b, o, none⟩ := fun b o hb => (HK9.out b o (hne b hb).1).trans (HA1.out b o hb.2)
    have hlp := HLP.out.keep (W' := W9) (Q := fun b => b < W9.heap.size) hk (fun b hb => by omega)
    have hkp := HKP.out.keep (W' := W9) (Q := fun b => b < W9.heap.size) hk (fun b hb => by omega)
    exact ⟨.inr ⟨HQ.out, al, cl, ak, ck, d, rfl, HBD.out, hlp.la (fun b hb => hb), hkp.kt (fun b hb => hb)⟩, HB9.out⟩
end Go.Proofs.YtnlpnbelkkgghaaDoor
