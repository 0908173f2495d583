/-
  The contract of duetkeep.bare, for every event.
-/
import Derived.Test.YtefdekfgmbgbbaaGreatDoorWij
namespace Go.Proofs.YtefdekfgmbgbbaaGreatDoor
open Go.RowKit Go.Shelf

theorem noTy_bd : TyBd noTy 0 0 := ⟨by show (0 : Nat) ≤ 9223372036854775807; omega, (fun l hl => by cases hl), Nat.le_refl _, by omega, Nat.le_refl _, by omega⟩
theorem noTy_kt {W : World} {B : Nat} (d : Nat) : KT W B d noTy.kids none := by
  cases d with
  | zero => rfl
  | succ d => exact .inl rfl
/-- where an event's type lies -/
def EvL (W : World) (B d : Nat) (x : Ev) (al : Option Addr) (cl : Nat) (ak : Option Addr) (ck : Nat) : Prop := TyBd x.carry cl ck ∧ LA W B x.carry.labels al ∧ KT W B d x.carry.kids ak
set_option maxRecDepth 100000 in
set_option maxHeartbeats 8000000 in
theorem bareB_any (B d : Nat) (x : Ev) (al : Option Addr) (cl : Nat) (ak : Option Addr) (ck : Nat) (w : World) (hB : B ≤ w.heap.size) (h : EvL w B d x al cl ak ck) :
    Calls Tryz.prog 7 #[evVal x al cl ak ck] w fun e w' => (∃ al' cl' ak' ck', e = .returned (evVal (bareV x) al' cl' ak' ck') ∧ EvL w' B d (bareV x) al' cl' ak' ck') ∧ Below w.heap.size w w' := by
  obtain ⟨kd, so, n, s, t, lb⟩ := x
  obtain ⟨hbd, hla, hkt⟩ := h
  have HLA := hideK hla
  have HKT := hideK hkt
  clear hla hkt
  simp only at hbd HLA HKT
  unfold bareV
  simp only
  by_cases h1 : kd = 2 ∨ kd = 3
  · rw [if_pos h1]
    rcases h1 with rfl | rfl
    · have hA : Below w.heap.size w (((w.alloc (.cells #[.int .i64 2, .int .i64 so, .int .i64 n, .string s, .int .i64 t.kind, .int .i64 t.so, .string t.name, .slice al t.labels.length cl, .slice ak t.kids.length ck, .string lb] 33)).alloc (.cells #[.int .i64 0, .int .i64 0, .int .i64 0, .string ⟨#[]⟩, .int .i64 0, .int .i64 0, .string ⟨#[]⟩, .slice none 0 0, .slice none 0 0, .string ⟨#[]⟩] 33)).alloc (.cells #[.int .i64 2, .int .i64 0, .int .i64 0, .string ⟨#[]⟩, .int .i64 0, .int .i64 0, .string ⟨#[]⟩, .slice none 0 0, .slice none 0 0, .string ⟨#[]⟩] 33)) := (((Below.refl _ _).alloc (Nat.le_refl _) _).alloc (by simp) _).alloc (by simp; omega) _
      have EI := hideK (((EvB.new w ⟨2, so, n, s, t, lb⟩ al cl ak ck).keepF (FR.al (pb := w.heap.size + 1) (.cells #[.int .i64 0, .int .i64 0, .int .i64 0, .string ⟨#[]⟩, .int .i64 0, .int .i64 0, .string ⟨#[]⟩, .slice none 0 0, .slice none 0 0, .string ⟨#[]⟩] 33)) (by omega)).keepF (FR.al (pb := w.heap.size + 1) (.cells #[.int .i64 2, .int .i64 0, .int .i64 0, .string ⟨#[]⟩, .int .i64 0, .int .i64 0, .string ⟨#[]⟩, .slice none 0 0, .slice none 0 0, .string ⟨#[]⟩] 33)) (by omega))
      have E0 := EvB.new ((w.alloc (.cells #[.int .i64 2, .int .i64 so, .int .i64 n, .string s, .int .i64 t.kind, .int .i64 t.so, .string t.name, .slice al t.labels.length cl, .slice ak t.kids.length ck, .string lb] 33)).alloc (.cells #[.int .i64 0, .int .i64 0, .int .i64 0, .string ⟨#[]⟩, .int .i64 0, .int .i64 0, .string ⟨#[]⟩, .slice none 0 0, .slice none 0 0, .string ⟨#[]⟩] 33)) ⟨2, 0, 0, ⟨#[]⟩, noTy, ⟨#[]⟩⟩ none 0 none 0
      have hsz : ((w.alloc (.cells #[.int .i64 2, .int .i64 so, .int .i64 n, .string s, .int .i64 t.kind, .int .i64 t.so, .string t.name, .slice al t.labels.length cl, .slice ak t.kids.length ck, .string lb] 33)).alloc (.cells #[.int .i64 0, .int .i64 0, .int .i64 0, .string ⟨#[]⟩, .int .i64 0, .int .i64 0, .string ⟨#[]⟩, .slice none 0 0, .slice none 0 0, .string ⟨#[]⟩] 33)).heap.size = w.heap.size + 1 + 1 := by simp
      rw [hsz] at E0
      have E1 := hideK E0
      have Z1 := hideK (((EvB.new (w.alloc (.cells #[.int .i64 2, .int .i64 so, .int .i64 n, .string s, .int .i64 t.kind, .int .i64 t.so, .string t.name, .slice al t.labels.length cl, .slice ak t.kids.length ck, .string lb] 33)) ⟨0, 0, 0, ⟨#[]⟩, noTy, ⟨#[]⟩⟩ none 0 none 0).keepF (FR.al (pb := w.heap.size) (.cells #[.int .i64 2, .int .i64 0, .int .i64 0, .string ⟨#[]⟩, .int .i64 0, .int .i64 0, .string ⟨#[]⟩, .slice none 0 0, .slice none 0 0, .string ⟨#[]⟩] 33)) (by simp)).box)
      have hsz1 : (w.alloc (.cells #[.int .i64 2, .int .i64 so, .int .i64 n, .string s, .int .i64 t.kind, .int .i64 t.so, .string t.name, .slice al t.labels.length cl, .slice ak t.kids.length ck, .string lb] 33)).heap.size = w.heap.size + 1 := by simp
      rw [hsz1] at Z1
      have HA := hideK hA
      clear E0 hsz hsz1 hA
      simp only [evVal]
      go_enter Tryz.func7, Tryz.ntmps7
      go_upto_region 2 with fail
      change Code.wp _ _ _ _ (((w.alloc (.cells #[.int .i64 2, .int .i64 so, .int .i64 n, .string s, .int .i64 t.kind, .int .i64 t.so, .string t.name, .slice al t.labels.length cl, .slice ak t.kids.length ck, .string lb] 33)).alloc (.cells #[.int .i64 0, .int .i64 0, .int .i64 0, .string ⟨#[]⟩, .int .i64 0, .int .i64 0, .string ⟨#[]⟩, .slice none 0 0, .slice none 0 0, .string ⟨#[]⟩] 33)).alloc (.cells #[.int .i64 2, .int .i64 0, .int .i64 0, .string ⟨#[]⟩, .int .i64 0, .int .i64 0, .string ⟨#[]⟩, .slice none 0 0, .slice none 0 0, .string ⟨#[]⟩] 33))
      generalize (((w.alloc (.cells #[.int .i64 2, .int .i64 so, .int .i64 n, .string s, .int .i64 t.kind, .int .i64 t.so, .string t.name, .slice al t.labels.length cl, .slice ak t.kids.length ck, .string lb] 33)).alloc (.cells #[.int .i64 0, .int .i64 0, .int .i64 0, .string ⟨#[]⟩, .int .i64 0, .int .i64 0, .string ⟨#[]⟩, .slice none 0 0, .slice none 0 0, .string ⟨#[]⟩] 33)).alloc (.cells #[.int .i64 2, .int .i64 0, .int .i64 0, .string ⟨#[]⟩, .int .i64 0, .int .i64 0, .string ⟨#[]⟩, .slice none 0 0, .slice none 0 0, .string ⟨#[]⟩] 33)) = V0 at *
      obtain ⟨i0, i1, i2, i3, i4, i5, i6, i7, i8, i9⟩ := EI.out.cells
      obtain ⟨e0, e1, e2', e3', e4', e5', e6, e7, e8, e9⟩ := E1.out.cells
      have g0 := E1.out.f 0
      have g1 := E1.out.f 1
      have g2 := E1.out.f 2
      have g3 := E1.out.f 3
      have g4 := E1.out.f 4
      have g5 := E1.out.f 5
      have g6 := E1.out.f 6
      have g7 := E1.out.f 7
      have g8 := E1.out.f 8
      have g9 := E1.out.f 9
      go_upto_region 10 with fail
      have E3 := hideK (E1.out.val so n s)
      have Z3 := hideK (Z1.out.keepF (show FR (w.heap.size + 1 + 1) V0 (((V0.setCell ⟨w.heap.size + 1 + 1, 1, none⟩ (.int .i64 so)).setCell ⟨w.heap.size + 1 + 1, 2, none⟩ (.int .i64 n)).setCell ⟨w.heap.size + 1 + 1, 3, none⟩ (.string s)) from (((FR.refl _ _).trans (FR.set2 1 _)).trans (FR.set2 2 _)).trans (FR.set2 3 _)) (by omega))
      have B3 := hideK (HA.out.trans (((show FR (w.heap.size + 1 + 1) V0 (((V0.setCell ⟨w.heap.size + 1 + 1, 1, none⟩ (.int .i64 so)).setCell ⟨w.heap.size + 1 + 1, 2, none⟩ (.int .i64 n)).setCell ⟨w.heap.size + 1 + 1, 3, none⟩ (.string s)) from (((FR.refl _ _).trans (FR.set2 1 _)).trans (FR.set2 2 _)).trans (FR.set2 3 _)).below (Nat.le_of_lt E1.out.lt)).mono (by omega)))
      clear E1 Z1 HA EI i0 i1 i2 i3 i4 i5 i6 i7 i8 i9 e0 e1 e2' e3' e4' e5' e6 e7 e8 e9 g0 g1 g2 g3 g4 g5 g6 g7 g8 g9
      generalize (((V0.setCell ⟨w.heap.size + 1 + 1, 1, none⟩ (.int .i64 so)).setCell ⟨w.heap.size + 1 + 1, 2, none⟩ (.int .i64 n)).setCell ⟨w.heap.size + 1 + 1, 3, none⟩ (.string s)) = V3 at *
      refine wp_region_lit ?_
      refine wpList_loadW rfl rfl rfl (load_evB E3.out) ?_
      simp only [evVal, Act.put, List.setIfInBounds_toArray, List.set_cons_zero, List.set_cons_succ]
      refine wpList_storeW rfl rfl rfl rfl (store_bx Z3.out 33 (evL ⟨2, so, n, s, noTy, ⟨#[]⟩⟩ none 0 none 0) rfl (by kernel_rfl) (evL_one _ _ _ _ _)) ?_
      simp only [Act.put]
      have E9 := hideK (Z3.out.ev ⟨2, so, n, s, noTy, ⟨#[]⟩⟩ none 0 none 0)
      have HBB := hideK (show Below w.heap.size w (V3.setCells (w.heap.size + 1) 0 (evL ⟨2, so, n, s, noTy, ⟨#[]⟩⟩ none 0 none 0)) from setCells_below (by omega) (evL ⟨2, so, n, s, noTy, ⟨#[]⟩⟩ none 0 none 0) 0 V3 B3.out)
      generalize V3.setCells (w.heap.size + 1) 0 (evL ⟨2, so, n, s, noTy, ⟨#[]⟩⟩ none 0 none 0) = W9 at *
      go_wp2_with fail
      refine bodyPost_ret (v := evVal ⟨2, so, n, s, noTy, ⟨#[]⟩⟩ none 0 none 0) (results_cell rfl rfl (loadVar_evB E9.out)) rfl ?_
      exact ⟨⟨_, _, _, _, rfl, ⟨noTy_bd, .inl rfl, noTy_kt d⟩⟩, HBB.out⟩
    · have hA : Below w.heap.size w (((w.alloc (.cells #[.int .i64 3, .int .i64 so, .int .i64 n, .string s, .int .i64 t.kind, .int .i64 t.so, .string t.name, .slice al t.labels.length cl, .slice ak t.kids.length ck, .string lb] 33)).alloc (.cells #[.int .i64 0, .int .i64 0, .int .i64 0, .string ⟨#[]⟩, .int .i64 0, .int .i64 0, .string ⟨#[]⟩, .slice none 0 0, .slice none 0 0, .string ⟨#[]⟩] 33)).alloc (.cells #[.int .i64 3, .int .i64 0, .int .i64 0, .string ⟨#[]⟩, .int .i64 0, .int .i64 0, .string ⟨#[]⟩, .slice none 0 0, .slice none 0 0, .string ⟨#[]⟩] 33)) := (((Below.refl _ _).alloc (Nat.le_refl _) _).alloc (by simp) _).alloc (by simp; omega) _
      have EI := hideK (((EvB.new w ⟨3, so, n, s, t, lb⟩ al cl ak ck).keepF (FR.al (pb := w.heap.size + 1) (.cells #[.int .i64 0, .int .i64 0, .int .i64 0, .string ⟨#[]⟩, .int .i64 0, .int .i64 0, .string ⟨#[]⟩, .slice none 0 0, .slice none 0 0, .string ⟨#[]⟩] 33)) (by omega)).keepF (FR.al (pb := w.heap.size + 1) (.cells #[.int .i64 3, .int .i64 0, .int .i64 0, .string ⟨#[]⟩, .int .i64 0, .int .i64 0, .string ⟨#[]⟩, .slice none 0 0, .slice none 0 0, .string ⟨#[]⟩] 33)) (by omega))
      have E0 := EvB.new ((w.alloc (.cells #[.int .i64 3, .int .i64 so, .int .i64 n, .string s, .int .i64 t.kind, .int .i64 t.so, .string t.name, .slice al t.labels.length cl, .slice ak t.kids.length ck, .string lb] 33)).alloc (.cells #[.int .i64 0, .int .i64 0, .int .i64 0, .string ⟨#[]⟩, .int .i64 0, .int .i64 0, .string ⟨#[]⟩, .slice none 0 0, .slice none 0 0, .string ⟨#[]⟩] 33)) ⟨3, 0, 0, ⟨#[]⟩, noTy, ⟨#[]⟩⟩ none 0 none 0
      have hsz : ((w.alloc (.cells #[.int .i64 3, .int .i64 so, .int .i64 n, .string s, .int .i64 t.kind, .int .i64 t.so, .string t.name, .slice al t.labels.length cl, .slice ak t.kids.length ck, .string lb] 33)).alloc (.cells #[.int .i64 0, .int .i64 0, .int .i64 0, .string ⟨#[]⟩, .int .i64 0, .int .i64 0, .string ⟨#[]⟩, .slice none 0 0, .slice none 0 0, .string ⟨#[]⟩] 33)).heap.size = w.heap.size + 1 + 1 := by simp
      rw [hsz] at E0
      have E1 := hideK E0
      have Z1 := hideK (((EvB.new (w.alloc (.cells #[.int .i64 3, .int .i64 so, .int .i64 n, .string s, .int .i64 t.kind, .int .i64 t.so, .string t.name, .slice al t.labels.length cl, .slice ak t.kids.length ck, .string lb] 33)) ⟨0, 0, 0, ⟨#[]⟩, noTy, ⟨#[]⟩⟩ none 0 none 0).keepF (FR.al (pb := w.heap.size) (.cells #[.int .i64 3, .int .i64 0, .int .i64 0, .string ⟨#[]⟩, .int .i64 0, .int .i64 0, .string ⟨#[]⟩, .slice none 0 0, .slice none 0 0, .string ⟨#[]⟩] 33)) (by simp)).box)
      have hsz1 : (w.alloc (.cells #[.int .i64 3, .int .i64 so, .int .i64 n, .string s, .int .i64 t.kind, .int .i64 t.so, .string t.name, .slice al t.labels.length cl, .slice ak t.kids.length ck, .string lb] 33)).heap.size = w.heap.size + 1 := by simp
      rw [hsz1] at Z1
      have HA := hideK hA
      clear E0 hsz hsz1 hA
      simp only [evVal]
      go_enter Tryz.func7, Tryz.ntmps7
      go_upto_region 2 with fail
      change Code.wp _ _ _ _ (((w.alloc (.cells #[.int .i64 3, .int .i64 so, .int .i64 n, .string s, .int .i64 t.kind, .int .i64 t.so, .string t.name, .slice al t.labels.length cl, .slice ak t.kids.length ck, .string lb] 33)).alloc (.cells #[.int .i64 0, .int .i64 0, .int .i64 0, .string ⟨#[]⟩, .int .i64 0, .int .i64 0, .string ⟨#[]⟩, .slice none 0 0, .slice none 0 0, .string ⟨#[]⟩] 33)).alloc (.cells #[.int .i64 3, .int .i64 0, .int .i64 0, .string ⟨#[]⟩, .int .i64 0, .int .i64 0, .string ⟨#[]⟩, .slice none 0 0, .slice none 0 0, .string ⟨#[]⟩] 33))
      generalize (((w.alloc (.cells #[.int .i64 3, .int .i64 so, .int .i64 n, .string s, .int .i64 t.kind, .int .i64 t.so, .string t.name, .slice al t.labels.length cl, .slice ak t.kids.length ck, .string lb] 33)).alloc (.cells #[.int .i64 0, .int .i64 0, .int .i64 0, .string ⟨#[]⟩, .int .i64 0, .int .i64 0, .string ⟨#[]⟩, .slice none 0 0, .slice none 0 0, .string ⟨#[]⟩] 33)).alloc (.cells #[.int .i64 3, .int .i64 0, .int .i64 0, .string ⟨#[]⟩, .int .i64 0, .int .i64 0, .string ⟨#[]⟩, .slice none 0 0, .slice none 0 0, .string ⟨#[]⟩] 33)) = V0 at *
      obtain ⟨i0, i1, i2, i3, i4, i5, i6, i7, i8, i9⟩ := EI.out.cells
      obtain ⟨e0, e1, e2', e3', e4', e5', e6, e7, e8, e9⟩ := E1.out.cells
      have g0 := E1.out.f 0
      have g1 := E1.out.f 1
      have g2 := E1.out.f 2
      have g3 := E1.out.f 3
      have g4 := E1.out.f 4
      have g5 := E1.out.f 5
      have g6 := E1.out.f 6
      have g7 := E1.out.f 7
      have g8 := E1.out.f 8
      have g9 := E1.out.f 9
      go_upto_region 10 with fail
      have E3 := hideK (E1.out.val so n s)
      have Z3 := hideK (Z1.out.keepF (show FR (w.heap.size + 1 + 1) V0 (((V0.setCell ⟨w.heap.size + 1 + 1, 1, none⟩ (.int .i64 so)).setCell ⟨w.heap.size + 1 + 1, 2, none⟩ (.int .i64 n)).setCell ⟨w.heap.size + 1 + 1, 3, none⟩ (.string s)) from (((FR.refl _ _).trans (FR.set2 1 _)).trans (FR.set2 2 _)).trans (FR.set2 3 _)) (by omega))
      have B3 := hideK (HA.out.trans (((show FR (w.heap.size + 1 + 1) V0 (((V0.setCell ⟨w.heap.size + 1 + 1, 1, none⟩ (.int .i64 so)).setCell ⟨w.heap.size + 1 + 1, 2, none⟩ (.int .i64 n)).setCell ⟨w.heap.size + 1 + 1, 3, none⟩ (.string s)) from (((FR.refl _ _).trans (FR.set2 1 _)).trans (FR.set2 2 _)).trans (FR.set2 3 _)).below (Nat.le_of_lt E1.out.lt)).mono (by omega)))
      clear E1 Z1 HA EI i0 i1 i2 i3 i4 i5 i6 i7 i8 i9 e0 e1 e2' e3' e4' e5' e6 e7 e8 e9 g0 g1 g2 g3 g4 g5 g6 g7 g8 g9
      generalize (((V0.setCell ⟨w.heap.size + 1 + 1, 1, none⟩ (.int .i64 so)).setCell ⟨w.heap.size + 1 + 1, 2, none⟩ (.int .i64 n)).setCell ⟨w.heap.size + 1 + 1, 3, none⟩ (.string s)) = V3 at *
      refine wp_region_lit ?_
      refine wpList_loadW rfl rfl rfl (load_evB E3.out) ?_
      simp only [evVal, Act.put, List.setIfInBounds_toArray, List.set_cons_zero, List.set_cons_succ]
      refine wpList_storeW rfl rfl rfl rfl (store_bx Z3.out 33 (evL ⟨3, so, n, s, noTy, ⟨#[]⟩⟩ none 0 none 0) rfl (by kernel_rfl) (evL_one _ _ _ _ _)) ?_
      simp only [Act.put]
      have E9 := hideK (Z3.out.ev ⟨3, so, n, s, noTy, ⟨#[]⟩⟩ none 0 none 0)
      have HBB := hideK (show Below w.heap.size w (V3.setCells (w.heap.size + 1) 0 (evL ⟨3, so, n, s, noTy, ⟨#[]⟩⟩ none 0 none 0)) from setCells_below (by omega) (evL ⟨3, so, n, s, noTy, ⟨#[]⟩⟩ none 0 none 0) 0 V3 B3.out)
      generalize V3.setCells (w.heap.size + 1) 0 (evL ⟨3, so, n, s, noTy, ⟨#[]⟩⟩ none 0 none 0) = W9 at *
      go_wp2_with fail
      refine bodyPost_ret (v := evVal ⟨3, so, n, s, noTy, ⟨#[]⟩⟩ none 0 none 0) (results_cell rfl rfl (loadVar_evB E9.out)) rfl ?_
      exact ⟨⟨_, _, _, _, rfl, ⟨noTy_bd, .inl rfl, noTy_kt d⟩⟩, HBB.out⟩
  rw [if_neg h1]
  by_cases h2 : kd = 4 ∨ kd = 5
  · rw [if_pos h2]
    rcases h2 with rfl | rfl
    · have hA : Below w.heap.size w (((w.alloc (.cells #[.int .i64 4, .int .i64 so, .int .i64 n, .string s, .int .i64 t.kind, .int .i64 t.so, .string t.name, .slice al t.labels.length cl, .slice ak t.kids.length ck, .string lb] 33)).alloc (.cells #[.int .i64 0, .int .i64 0, .int .i64 0, .string ⟨#[]⟩, .int .i64 0, .int .i64 0, .string ⟨#[]⟩, .slice none 0 0, .slice none 0 0, .string ⟨#[]⟩] 33)).alloc (.cells #[.int .i64 4, .int .i64 0, .int .i64 0, .string ⟨#[]⟩, .int .i64 0, .int .i64 0, .string ⟨#[]⟩, .slice none 0 0, .slice none 0 0, .string ⟨#[]⟩] 33)) := (((Below.refl _ _).alloc (Nat.le_refl _) _).alloc (by simp) _).alloc (by simp; omega) _
      have EI := hideK (((EvB.new w ⟨4, so, n, s, t, lb⟩ al cl ak ck).keepF (FR.al (pb := w.heap.size + 1) (.cells #[.int .i64 0, .int .i64 0, .int .i64 0, .string ⟨#[]⟩, .int .i64 0, .int .i64 0, .string ⟨#[]⟩, .slice none 0 0, .slice none 0 0, .string ⟨#[]⟩] 33)) (by omega)).keepF (FR.al (pb := w.heap.size + 1) (.cells #[.int .i64 4, .int .i64 0, .int .i64 0, .string ⟨#[]⟩, .int .i64 0, .int .i64 0, .string ⟨#[]⟩, .slice none 0 0, .slice none 0 0, .string ⟨#[]⟩] 33)) (by omega))
      have E0 := EvB.new ((w.alloc (.cells #[.int .i64 4, .int .i64 so, .int .i64 n, .string s, .int .i64 t.kind, .int .i64 t.so, .string t.name, .slice al t.labels.length cl, .slice ak t.kids.length ck, .string lb] 33)).alloc (.cells #[.int .i64 0, .int .i64 0, .int .i64 0, .string ⟨#[]⟩, .int .i64 0, .int .i64 0, .string ⟨#[]⟩, .slice none 0 0, .slice none 0 0, .string ⟨#[]⟩] 33)) ⟨4, 0, 0, ⟨#[]⟩, noTy, ⟨#[]⟩⟩ none 0 none 0
      have hsz : ((w.alloc (.cells #[.int .i64 4, .int .i64 so, .int .i64 n, .string s, .int .i64 t.kind, .int .i64 t.so, .string t.name, .slice al t.labels.length cl, .slice ak t.kids.length ck, .string lb] 33)).alloc (.cells #[.int .i64 0, .int .i64 0, .int .i64 0, .string ⟨#[]⟩, .int .i64 0, .int .i64 0, .string ⟨#[]⟩, .slice none 0 0, .slice none 0 0, .string ⟨#[]⟩] 33)).heap.size = w.heap.size + 1 + 1 := by simp
      rw [hsz] at E0
      have E1 := hideK E0
      have Z1 := hideK (((EvB.new (w.alloc (.cells #[.int .i64 4, .int .i64 so, .int .i64 n, .string s, .int .i64 t.kind, .int .i64 t.so, .string t.name, .slice al t.labels.length cl, .slice ak t.kids.length ck, .string lb] 33)) ⟨0, 0, 0, ⟨#[]⟩, noTy, ⟨#[]⟩⟩ none 0 none 0).keepF (FR.al (pb := w.heap.size) (.cells #[.int .i64 4, .int .i64 0, .int .i64 0, .string ⟨#[]⟩, .int .i64 0, .int .i64 0, .string ⟨#[]⟩, .slice none 0 0, .slice none 0 0, .string ⟨#[]⟩] 33)) (by simp)).box)
      have hsz1 : (w.alloc (.cells #[.int .i64 4, .int .i64 so, .int .i64 n, .string s, .int .i64 t.kind, .int .i64 t.so, .string t.name, .slice al t.labels.length cl, .slice ak t.kids.length ck, .string lb] 33)).heap.size = w.heap.size + 1 := by simp
      rw [hsz1] at Z1
      have HA := hideK hA
      clear E0 hsz hsz1 hA
      simp only [evVal]
      go_enter Tryz.func7, Tryz.ntmps7
      go_upto_region 2 with fail
      change Code.wp _ _ _ _ (((w.alloc (.cells #[.int .i64 4, .int .i64 so, .int .i64 n, .string s, .int .i64 t.kind, .int .i64 t.so, .string t.name, .slice al t.labels.length cl, .slice ak t.kids.length ck, .string lb] 33)).alloc (.cells #[.int .i64 0, .int .i64 0, .int .i64 0, .string ⟨#[]⟩, .int .i64 0, .int .i64 0, .string ⟨#[]⟩, .slice none 0 0, .slice none 0 0, .string ⟨#[]⟩] 33)).alloc (.cells #[.int .i64 4, .int .i64 0, .int .i64 0, .string ⟨#[]⟩, .int .i64 0, .int .i64 0, .string ⟨#[]⟩, .slice none 0 0, .slice none 0 0, .string ⟨#[]⟩] 33))
      generalize (((w.alloc (.cells #[.int .i64 4, .int .i64 so, .int .i64 n, .string s, .int .i64 t.kind, .int .i64 t.so, .string t.name, .slice al t.labels.length cl, .slice ak t.kids.length ck, .string lb] 33)).alloc (.cells #[.int .i64 0, .int .i64 0, .int .i64 0, .string ⟨#[]⟩, .int .i64 0, .int .i64 0, .string ⟨#[]⟩, .slice none 0 0, .slice none 0 0, .string ⟨#[]⟩] 33)).alloc (.cells #[.int .i64 4, .int .i64 0, .int .i64 0, .string ⟨#[]⟩, .int .i64 0, .int .i64 0, .string ⟨#[]⟩, .slice none 0 0, .slice none 0 0, .string ⟨#[]⟩] 33)) = V0 at *
      obtain ⟨i0, i1, i2, i3, i4, i5, i6, i7, i8, i9⟩ := EI.out.cells
      obtain ⟨e0, e1, e2', e3', e4', e5', e6, e7, e8, e9⟩ := E1.out.cells
      have g0 := E1.out.f 0
      have g1 := E1.out.f 1
      have g2 := E1.out.f 2
      have g3 := E1.out.f 3
      have g4 := E1.out.f 4
      have g5 := E1.out.f 5
      have g6 := E1.out.f 6
      have g7 := E1.out.f 7
      have g8 := E1.out.f 8
      have g9 := E1.out.f 9
      go_upto_region 10 with fail
      have E3 := hideK (E1.out.car t al cl ak ck)
      have Z3 := hideK (Z1.out.keepF (show FR (w.heap.size + 1 + 1) V0 (((((V0.setCell ⟨w.heap.size + 1 + 1, 4, none⟩ (.int .i64 t.kind)).setCell ⟨w.heap.size + 1 + 1, 5, none⟩ (.int .i64 t.so)).setCell ⟨w.heap.size + 1 + 1, 6, none⟩ (.string t.name)).setCell ⟨w.heap.size + 1 + 1, 7, none⟩ (.slice al t.labels.length cl)).setCell ⟨w.heap.size + 1 + 1, 8, none⟩ (.slice ak t.kids.length ck)) from (((((FR.refl _ _).trans (FR.set2 4 _)).trans (FR.set2 5 _)).trans (FR.set2 6 _)).trans (FR.set2 7 _)).trans (FR.set2 8 _)) (by omega))
      have B3 := hideK (HA.out.trans (((show FR (w.heap.size + 1 + 1) V0 (((((V0.setCell ⟨w.heap.size + 1 + 1, 4, none⟩ (.int .i64 t.kind)).setCell ⟨w.heap.size + 1 + 1, 5, none⟩ (.int .i64 t.so)).setCell ⟨w.heap.size + 1 + 1, 6, none⟩ (.string t.name)).setCell ⟨w.heap.size + 1 + 1, 7, none⟩ (.slice al t.labels.length cl)).setCell ⟨w.heap.size + 1 + 1, 8, none⟩ (.slice ak t.kids.length ck)) from (((((FR.refl _ _).trans (FR.set2 4 _)).trans (FR.set2 5 _)).trans (FR.set2 6 _)).trans (FR.set2 7 _)).trans (FR.set2 8 _)).below (Nat.le_of_lt E1.out.lt)).mono (by omega)))
      clear E1 Z1 HA EI i0 i1 i2 i3 i4 i5 i6 i7 i8 i9 e0 e1 e2' e3' e4' e5' e6 e7 e8 e9 g0 g1 g2 g3 g4 g5 g6 g7 g8 g9
      generalize (((((V0.setCell ⟨w.heap.size + 1 + 1, 4, none⟩ (.int .i64 t.kind)).setCell ⟨w.heap.size + 1 + 1, 5, none⟩ (.int .i64 t.so)).setCell ⟨w.heap.size + 1 + 1, 6, none⟩ (.string t.name)).setCell ⟨w.heap.size + 1 + 1, 7, none⟩ (.slice al t.labels.length cl)).setCell ⟨w.heap.size + 1 + 1, 8, none⟩ (.slice ak t.kids.length ck)) = V3 at *
      refine wp_region_lit ?_
      refine wpList_loadW rfl rfl rfl (load_evB E3.out) ?_
      simp only [evVal, Act.put, List.setIfInBounds_toArray, List.set_cons_zero, List.set_cons_succ]
      refine wpList_storeW rfl rfl rfl rfl (store_bx Z3.out 33 (evL ⟨4, 0, 0, ⟨#[]⟩, t, ⟨#[]⟩⟩ al cl ak ck) rfl (by kernel_rfl) (evL_one _ _ _ _ _)) ?_
      simp only [Act.put]
      have E9 := hideK (Z3.out.ev ⟨4, 0, 0, ⟨#[]⟩, t, ⟨#[]⟩⟩ al cl ak ck)
      have HBB := hideK (show Below w.heap.size w (V3.setCells (w.heap.size + 1) 0 (evL ⟨4, 0, 0, ⟨#[]⟩, t, ⟨#[]⟩⟩ al cl ak ck)) from setCells_below (by omega) (evL ⟨4, 0, 0, ⟨#[]⟩, t, ⟨#[]⟩⟩ al cl ak ck) 0 V3 B3.out)
      generalize V3.setCells (w.heap.size + 1) 0 (evL ⟨4, 0, 0, ⟨#[]⟩, t, ⟨#[]⟩⟩ al cl ak ck) = W9 at *
      go_wp2_with fail
      refine bodyPost_ret (v := evVal ⟨4, 0, 0, ⟨#[]⟩, t, ⟨#[]⟩⟩ al cl ak ck) (results_cell rfl rfl (loadVar_evB E9.out)) rfl ?_
      exact ⟨⟨_, _, _, _, rfl, ⟨hbd, HLA.out.keep (HBB.out.mono hB), HKT.out.keep (HBB.out.mono hB)⟩⟩, HBB.out⟩
    · have hA : Below w.heap.size w (((w.alloc (.cells #[.int .i64 5, .int .i64 so, .int .i64 n, .string s, .int .i64 t.kind, .int .i64 t.so, .string t.name, .slice al t.labels.length cl, .slice ak t.kids.length ck, .string lb] 33)).alloc (.cells #[.int .i64 0, .int .i64 0, .int .i64 0, .string ⟨#[]⟩, .int .i64 0, .int .i64 0, .string ⟨#[]⟩, .slice none 0 0, .slice none 0 0, .string ⟨#[]⟩] 33)).alloc (.cells #[.int .i64 5, .int .i64 0, .int .i64 0, .string ⟨#[]⟩, .int .i64 0, .int .i64 0, .string ⟨#[]⟩, .slice none 0 0, .slice none 0 0, .string ⟨#[]⟩] 33)) := (((Below.refl _ _).alloc (Nat.le_refl _) _).alloc (by simp) _).alloc (by simp; omega) _
      have EI := hideK (((EvB.new w ⟨5, so, n, s, t, lb⟩ al cl ak ck).keepF (FR.al (pb := w.heap.size + 1) (.cells #[.int .i64 0, .int .i64 0, .int .i64 0, .string ⟨#[]⟩, .int .i64 0, .int .i64 0, .string ⟨#[]⟩, .slice none 0 0, .slice none 0 0, .string ⟨#[]⟩] 33)) (by omega)).keepF (FR.al (pb := w.heap.size + 1) (.cells #[.int .i64 5, .int .i64 0, .int .i64 0, .string ⟨#[]⟩, .int .i64 0, .int .i64 0, .string ⟨#[]⟩, .slice none 0 0, .slice none 0 0, .string ⟨#[]⟩] 33)) (by omega))
      have E0 := EvB.new ((w.alloc (.cells #[.int .i64 5, .int .i64 so, .int .i64 n, .string s, .int .i64 t.kind, .int .i64 t.so, .string t.name, .slice al t.labels.length cl, .slice ak t.kids.length ck, .string lb] 33)).alloc (.cells #[.int .i64 0, .int .i64 0, .int .i64 0, .string ⟨#[]⟩, .int .i64 0, .int .i64 0, .string ⟨#[]⟩, .slice none 0 0, .slice none 0 0, .string ⟨#[]⟩] 33)) ⟨5, 0, 0, ⟨#[]⟩, noTy, ⟨#[]⟩⟩ none 0 none 0
      have hsz : ((w.alloc (.cells #[.int .i64 5, .int .i64 so, .int .i64 n, .string s, .int .i64 t.kind, .int .i64 t.so, .string t.name, .slice al t.labels.length cl, .slice ak t.kids.length ck, .string lb] 33)).alloc (.cells #[.int .i64 0, .int .i64 0, .int .i64 0, .string ⟨#[]⟩, .int .i64 0, .int .i64 0, .string ⟨#[]⟩, .slice none 0 0, .slice none 0 0, .string ⟨#[]⟩] 33)).heap.size = w.heap.size + 1 + 1 := by simp
      rw [hsz] at E0
      have E1 := hideK E0
      have Z1 := hideK (((EvB.new (w.alloc (.cells #[.int .i64 5, .int .i64 so, .int .i64 n, .string s, .int .i64 t.kind, .int .i64 t.so, .string t.name, .slice al t.labels.length cl, .slice ak t.kids.length ck, .string lb] 33)) ⟨0, 0, 0, ⟨#[]⟩, noTy, ⟨#[]⟩⟩ none 0 none 0).keepF (FR.al (pb := w.heap.size) (.cells #[.int .i64 5, .int .i64 0, .int .i64 0, .string ⟨#[]⟩, .int .i64 0, .int .i64 0, .string ⟨#[]⟩, .slice none 0 0, .slice none 0 0, .string ⟨#[]⟩] 33)) (by simp)).box)
      have hsz1 : (w.alloc (.cells #[.int .i64 5, .int .i64 so, .int .i64 n, .string s, .int .i64 t.kind, .int .i64 t.so, .string t.name, .slice al t.labels.length cl, .slice ak t.kids.length ck, .string lb] 33)).heap.size = w.heap.size + 1 := by simp
      rw [hsz1] at Z1
      have HA := hideK hA
      clear E0 hsz hsz1 hA
      simp only [evVal]
      go_enter Tryz.func7, Tryz.ntmps7
      go_upto_region 2 with fail
      change Code.wp _ _ _ _ (((w.alloc (.cells #[.int .i64 5, .int .i64 so, .int .i64 n, .string s, .int .i64 t.kind, .int .i64 t.so, .string t.name, .slice al t.labels.length cl, .slice ak t.kids.length ck, .string lb] 33)).alloc (.cells #[.int .i64 0, .int .i64 0, .int .i64 0, .string ⟨#[]⟩, .int .i64 0, .int .i64 0, .string ⟨#[]⟩, .slice none 0 0, .slice none 0 0, .string ⟨#[]⟩] 33)).alloc (.cells #[.int .i64 5, .int .i64 0, .int .i64 0, .string ⟨#[]⟩, .int .i64 0, .int .i64 0, .string ⟨#[]⟩, .slice none 0 0, .slice none 0 0, .string ⟨#[]⟩] 33))
      generalize (((w.alloc (.cells #[.int .i64 5, .int .i64 so, .int .i64 n, .string s, .int .i64 t.kind, .int .i64 t.so, .string t.name, .slice al t.labels.length cl, .slice ak t.kids.length ck, .string lb] 33)).alloc (.cells #[.int .i64 0, .int .i64 0, .int .i64 0, .string ⟨#[]⟩, .int .i64 0, .int .i64 0, .string ⟨#[]⟩, .slice none 0 0, .slice none 0 0, .string ⟨#[]⟩] 33)).alloc (.cells #[.int .i64 5, .int .i64 0, .int .i64 0, .string ⟨#[]⟩, .int .i64 0, .int .i64 0, .string ⟨#[]⟩, .slice none 0 0, .slice none 0 0, .string ⟨#[]⟩] 33)) = V0 at *
      obtain ⟨i0, i1, i2, i3, i4, i5, i6, i7, i8, i9⟩ := EI.out.cells
      obtain ⟨e0, e1, e2', e3', e4', e5', e6, e7, e8, e9⟩ := E1.out.cells
      have g0 := E1.out.f 0
      have g1 := E1.out.f 1
      have g2 := E1.out.f 2
      have g3 := E1.out.f 3
      have g4 := E1.out.f 4
      have g5 := E1.out.f 5
      have g6 := E1.out.f 6
      have g7 := E1.out.f 7
      have g8 := E1.out.f 8
      have g9 := E1.out.f 9
      go_upto_region 10 with fail
      have E3 := hideK (E1.out.car t al cl ak ck)
      have Z3 := hideK (Z1.out.keepF (show FR (w.heap.size + 1 + 1) V0 (((((V0.setCell ⟨w.heap.size + 1 + 1, 4, none⟩ (.int .i64 t.kind)).setCell ⟨w.heap.size + 1 + 1, 5, none⟩ (.int .i64 t.so)).setCell ⟨w.heap.size + 1 + 1, 6, none⟩ (.string t.name)).setCell ⟨w.heap.size + 1 + 1, 7, none⟩ (.slice al t.labels.length cl)).setCell ⟨w.heap.size + 1 + 1, 8, none⟩ (.slice ak t.kids.length ck)) from (((((FR.refl _ _).trans (FR.set2 4 _)).trans (FR.set2 5 _)).trans (FR.set2 6 _)).trans (FR.set2 7 _)).trans (FR.set2 8 _)) (by omega))
      have B3 := hideK (HA.out.trans (((show FR (w.heap.size + 1 + 1) V0 (((((V0.setCell ⟨w.heap.size + 1 + 1, 4, none⟩ (.int .i64 t.kind)).setCell ⟨w.heap.size + 1 + 1, 5, none⟩ (.int .i64 t.so)).setCell ⟨w.heap.size + 1 + 1, 6, none⟩ (.string t.name)).setCell ⟨w.heap.size + 1 + 1, 7, none⟩ (.slice al t.labels.length cl)).setCell ⟨w.heap.size + 1 + 1, 8, none⟩ (.slice ak t.kids.length ck)) from (((((FR.refl _ _).trans (FR.set2 4 _)).trans (FR.set2 5 _)).trans (FR.set2 6 _)).trans (FR.set2 7 _)).trans (FR.set2 8 _)).below (Nat.le_of_lt E1.out.lt)).mono (by omega)))
      clear E1 Z1 HA EI i0 i1 i2 i3 i4 i5 i6 i7 i8 i9 e0 e1 e2' e3' e4' e5' e6 e7 e8 e9 g0 g1 g2 g3 g4 g5 g6 g7 g8 g9
      generalize (((((V0.setCell ⟨w.heap.size + 1 + 1, 4, none⟩ (.int .i64 t.kind)).setCell ⟨w.heap.size + 1 + 1, 5, none⟩ (.int .i64 t.so)).setCell ⟨w.heap.size + 1 + 1, 6, none⟩ (.string t.name)).setCell ⟨w.heap.size + 1 + 1, 7, none⟩ (.slice al t.labels.length cl)).setCell ⟨w.heap.size + 1 + 1, 8, none⟩ (.slice ak t.kids.length ck)) = V3 at *
      refine wp_region_lit ?_
      refine wpList_loadW rfl rfl rfl (load_evB E3.out) ?_
      simp only [evVal, Act.put, List.setIfInBounds_toArray, List.set_cons_zero, List.set_cons_succ]
      refine wpList_storeW rfl rfl rfl rfl (store_bx Z3.out 33 (evL ⟨5, 0, 0, ⟨#[]⟩, t, ⟨#[]⟩⟩ al cl ak ck) rfl (by kernel_rfl) (evL_one _ _ _ _ _)) ?_
      simp only [Act.put]
      have E9 := hideK (Z3.out.ev ⟨5, 0, 0, ⟨#[]⟩, t, ⟨#[]⟩⟩ al cl ak ck)
      have HBB := hideK (show Below w.heap.size w (V3.setCells (w.heap.size + 1) 0 (evL ⟨5, 0, 0, ⟨#[]⟩, t, ⟨#[]⟩⟩ al cl ak ck)) from setCells_below (by omega) (evL ⟨5, 0, 0, ⟨#[]⟩, t, ⟨#[]⟩⟩ al cl ak ck) 0 V3 B3.out)
      generalize V3.setCells (w.heap.size + 1) 0 (evL ⟨5, 0, 0, ⟨#[]⟩, t, ⟨#[]⟩⟩ al cl ak ck) = W9 at *
      go_wp2_with fail
      refine bodyPost_ret (v := evVal ⟨5, 0, 0, ⟨#[]⟩, t, ⟨#[]⟩⟩ al cl ak ck) (results_cell rfl rfl (loadVar_evB E9.out)) rfl ?_
      exact ⟨⟨_, _, _, _, rfl, ⟨hbd, HLA.out.keep (HBB.out.mono hB), HKT.out.keep (HBB.out.mono hB)⟩⟩, HBB.out⟩
  rw [if_neg h2]
  have e2 : (kd == 2) = false := by simp; omega
  have e3 : (kd == 3) = false := by simp; omega
  have e4 : (kd == 4) = false := by simp; omega
  have e5 : (kd == 5) = false := by simp; omega
  clear h1 h2
  have hA : Below w.heap.size w (((w.alloc (.cells #[.int .i64 kd, .int .i64 so, .int .i64 n, .string s, .int .i64 t.kind, .int .i64 t.so, .string t.name, .slice al t.labels.length cl, .slice ak t.kids.length ck, .string lb] 33)).alloc (.cells #[.int .i64 0, .int .i64 0, .int .i64 0, .string ⟨#[]⟩, .int .i64 0, .int .i64 0, .string ⟨#[]⟩, .slice none 0 0, .slice none 0 0, .string ⟨#[]⟩] 33)).alloc (.cells #[.int .i64 kd, .int .i64 0, .int .i64 0, .string ⟨#[]⟩, .int .i64 0, .int .i64 0, .string ⟨#[]⟩, .slice none 0 0, .slice none 0 0, .string ⟨#[]⟩] 33)) := (((Below.refl _ _).alloc (Nat.le_refl _) _).alloc (by simp) _).alloc (by simp; omega) _
  have EI := hideK (((EvB.new w ⟨kd, so, n, s, t, lb⟩ al cl ak ck).keepF (FR.al (pb := w.heap.size + 1) (.cells #[.int .i64 0, .int .i64 0, .int .i64 0, .string ⟨#[]⟩, .int .i64 0, .int .i64 0, .string ⟨#[]⟩, .slice none 0 0, .slice none 0 0, .string ⟨#[]⟩] 33)) (by omega)).keepF (FR.al (pb := w.heap.size + 1) (.cells #[.int .i64 kd, .int .i64 0, .int .i64 0, .string ⟨#[]⟩, .int .i64 0, .int .i64 0, .string ⟨#[]⟩, .slice none 0 0, .slice none 0 0, .string ⟨#[]⟩] 33)) (by omega))
  have E0 := EvB.new ((w.alloc (.cells #[.int .i64 kd, .int .i64 so, .int .i64 n, .string s, .int .i64 t.kind, .int .i64 t.so, .string t.name, .slice al t.labels.length cl, .slice ak t.kids.length ck, .string lb] 33)).alloc (.cells #[.int .i64 0, .int .i64 0, .int .i64 0, .string ⟨#[]⟩, .int .i64 0, .int .i64 0, .string ⟨#[]⟩, .slice none 0 0, .slice none 0 0, .string ⟨#[]⟩] 33)) ⟨kd, 0, 0, ⟨#[]⟩, noTy, ⟨#[]⟩⟩ none 0 none 0
  have hsz : ((w.alloc (.cells #[.int .i64 kd, .int .i64 so, .int .i64 n, .string s, .int .i64 t.kind, .int .i64 t.so, .string t.name, .slice al t.labels.length cl, .slice ak t.kids.length ck, .string lb] 33)).alloc (.cells #[.int .i64 0, .int .i64 0, .int .i64 0, .string ⟨#[]⟩, .int .i64 0, .int .i64 0, .string ⟨#[]⟩, .slice none 0 0, .slice none 0 0, .string ⟨#[]⟩] 33)).heap.size = w.heap.size + 1 + 1 := by simp
  rw [hsz] at E0
  have E1 := hideK E0
  have Z1 := hideK (((EvB.new (w.alloc (.cells #[.int .i64 kd, .int .i64 so, .int .i64 n, .string s, .int .i64 t.kind, .int .i64 t.so, .string t.name, .slice al t.labels.length cl, .slice ak t.kids.length ck, .string lb] 33)) ⟨0, 0, 0, ⟨#[]⟩, noTy, ⟨#[]⟩⟩ none 0 none 0).keepF (FR.al (pb := w.heap.size) (.cells #[.int .i64 kd, .int .i64 0, .int .i64 0, .string ⟨#[]⟩, .int .i64 0, .int .i64 0, .string ⟨#[]⟩, .slice none 0 0, .slice none 0 0, .string ⟨#[]⟩] 33)) (by simp)).box)
  have hsz1 : (w.alloc (.cells #[.int .i64 kd, .int .i64 so, .int .i64 n, .string s, .int .i64 t.kind, .int .i64 t.so, .string t.name, .slice al t.labels.length cl, .slice ak t.kids.length ck, .string lb] 33)).heap.size = w.heap.size + 1 := by simp
  rw [hsz1] at Z1
  have HA := hideK hA
  clear E0 hsz hsz1 hA
  simp only [evVal]
  go_enter Tryz.func7, Tryz.ntmps7
  go_upto_region 2 with fail
  change Code.wp _ _ _ _ (((w.alloc (.cells #[.int .i64 kd, .int .i64 so, .int .i64 n, .string s, .int .i64 t.kind, .int .i64 t.so, .string t.name, .slice al t.labels.length cl, .slice ak t.kids.length ck, .string lb] 33)).alloc (.cells #[.int .i64 0, .int .i64 0, .int .i64 0, .string ⟨#[]⟩, .int .i64 0, .int .i64 0, .string ⟨#[]⟩, .slice none 0 0, .slice none 0 0, .string ⟨#[]⟩] 33)).alloc (.cells #[.int .i64 kd, .int .i64 0, .int .i64 0, .string ⟨#[]⟩, .int .i64 0, .int .i64 0, .string ⟨#[]⟩, .slice none 0 0, .slice none 0 0, .string ⟨#[]⟩] 33))
  generalize (((w.alloc (.cells #[.int .i64 kd, .int .i64 so, .int .i64 n, .string s, .int .i64 t.kind, .int .i64 t.so, .string t.name, .slice al t.labels.length cl, .slice ak t.kids.length ck, .string lb] 33)).alloc (.cells #[.int .i64 0, .int .i64 0, .int .i64 0, .string ⟨#[]⟩, .int .i64 0, .int .i64 0, .string ⟨#[]⟩, .slice none 0 0, .slice none 0 0, .string ⟨#[]⟩] 33)).alloc (.cells #[.int .i64 kd, .int .i64 0, .int .i64 0, .string ⟨#[]⟩, .int .i64 0, .int .i64 0, .string ⟨#[]⟩, .slice none 0 0, .slice none 0 0, .string ⟨#[]⟩] 33)) = V0 at *
  obtain ⟨i0, i1, i2, i3, i4, i5, i6, i7, i8, i9⟩ := EI.out.cells
  obtain ⟨e0, e1, e2', e3', e4', e5', e6, e7, e8, e9⟩ := E1.out.cells
  have g0 := E1.out.f 0
  have g1 := E1.out.f 1
  have g2 := E1.out.f 2
  have g3 := E1.out.f 3
  have g4 := E1.out.f 4
  have g5 := E1.out.f 5
  have g6 := E1.out.f 6
  have g7 := E1.out.f 7
  have g8 := E1.out.f 8
  have g9 := E1.out.f 9
  go_upto_region 10 with fail
  have E3 := hideK (E1.out.lab lb)
  have Z3 := hideK (Z1.out.keepF (show FR (w.heap.size + 1 + 1) V0 (V0.setCell ⟨w.heap.size + 1 + 1, 9, none⟩ (.string lb)) from (FR.refl _ _).trans (FR.set2 9 _)) (by omega))
  have B3 := hideK (HA.out.trans (((show FR (w.heap.size + 1 + 1) V0 (V0.setCell ⟨w.heap.size + 1 + 1, 9, none⟩ (.string lb)) from (FR.refl _ _).trans (FR.set2 9 _)).below (Nat.le_of_lt E1.out.lt)).mono (by omega)))
  clear E1 Z1 HA EI i0 i1 i2 i3 i4 i5 i6 i7 i8 i9 e0 e1 e2' e3' e4' e5' e6 e7 e8 e9 g0 g1 g2 g3 g4 g5 g6 g7 g8 g9
  generalize (V0.setCell ⟨w.heap.size + 1 + 1, 9, none⟩ (.string lb)) = V3 at *
  refine wp_region_lit ?_
  refine wpList_loadW rfl rfl rfl (load_evB E3.out) ?_
  simp only [evVal, Act.put, List.setIfInBounds_toArray, List.set_cons_zero, List.set_cons_succ]
  refine wpList_storeW rfl rfl rfl rfl (store_bx Z3.out 33 (evL ⟨kd, 0, 0, ⟨#[]⟩, noTy, lb⟩ none 0 none 0) rfl (by kernel_rfl) (evL_one _ _ _ _ _)) ?_
  simp only [Act.put]
  have E9 := hideK (Z3.out.ev ⟨kd, 0, 0, ⟨#[]⟩, noTy, lb⟩ none 0 none 0)
  have HBB := hideK (show Below w.heap.size w (V3.setCells (w.heap.size + 1) 0 (evL ⟨kd, 0, 0, ⟨#[]⟩, noTy, lb⟩ none 0 none 0)) from setCells_below (by omega) (evL ⟨kd, 0, 0, ⟨#[]⟩, noTy, lb⟩ none 0 none 0) 0 V3 B3.out)
  generalize V3.setCells (w.heap.size + 1) 0 (evL ⟨kd, 0, 0, ⟨#[]⟩, noTy, lb⟩ none 0 none 0) = W9 at *
  go_wp2_with fail
  refine bodyPost_ret (v := evVal ⟨kd, 0, 0, ⟨#[]⟩, noTy, lb⟩ none 0 none 0) (results_cell rfl rfl (loadVar_evB E9.out)) rfl ?_
  exact ⟨⟨_, _, _, _, rfl, ⟨noTy_bd, .inl rfl, noTy_kt d⟩⟩, HBB.out⟩
theorem bare_any (d : Nat) (x : Ev) (al : Option Addr) (cl : Nat) (ak : Option Addr) (ck : Nat) (w : World) (h : EvL w w.heap.size d x al cl ak ck) :
    Calls Tryz.prog 7 #[evVal x al cl ak ck] w fun e w' => (∃ al' cl' ak' ck', e = .returned (evVal (bareV x) al' cl' ak' ck') ∧ EvL w' w.heap.size d (bareV x) al' cl' ak' ck') ∧ Below w.heap.size w w' :=
  bareB_any w.heap.size d x al cl ak ck w (Nat.le_refl _) h
end Go.Proofs.YtefdekfgmbgbbaaGreatDoor
