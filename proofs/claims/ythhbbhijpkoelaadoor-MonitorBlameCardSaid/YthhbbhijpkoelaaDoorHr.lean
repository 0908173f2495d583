/-
  graph.lay of a Var and of a Rec.
-/
import Derived.Test.YthhbbhijpkoelaaDoorHq
namespace Go.Proofs.YthhbbhijpkoelaaDoor
open Go.RowKit Go.Shelf

set_option maxRecDepth 100000 in
set_option maxHeartbeats 2000000 in
theorem lay_var (t : Ty) (al : Option Addr) (cl : Nat) (ak : Option Addr) (ck : Nat) (ar : Ar) (aa : Option Addr) (ca pg : Nat) (u : Value) (toks : List TkN) (B : Nat) (w : World) (hm : MR w pg u.ownBlock ar aa ca) (hp : PG w pg u toks) (hl : ar.length ≤ 900) (h9 : t.kind = 9) :
    Calls Tryd.prog 41 #[.pointer (some ⟨pg, 0, none⟩), tyVal t al cl ak ck, .slice aa ar.length ca] w (LYPost t ar pg u toks B w) := by
  have hA : Below w.heap.size w (w.alloc (.cells #[.int .i64 t.kind, .int .i64 t.so, .string t.name, .slice al t.labels.length cl, .slice ak t.kids.length ck] 25)) := (Below.refl _ _).alloc (Nat.le_refl _) _
  have cM := meant_any t.name ar aa ca pg u.ownBlock _ (hm.keep (RF.of hA) (.inl rfl)) (by omega)
  have HLP := hideK (layP_var t ar toks.length h9)
  have HP := hideK hp
  have HA := hideK hA
  have hkb : (t.kind == 9) = true := by rw [h9]; rfl
  simp only [tyVal]
  clear hm hp h9 hA
  go_enter Tryd.func41, Tryd.ntmps41
  go_wp2_with fail
  refine cM.mono ?_
  rintro e w1 ⟨rfl, hb⟩
  have HB := hideK (HA.out.trans (hb.mono HA.out.size))
  clear cM hb
  go_wp2_with fail
  go_ret
  refine ⟨by rw [HLP.out]; rfl, [], u, by rw [HLP.out]; rfl, ?_, fun t ht => (by cases ht), RF.of HB.out, .inl rfl⟩
  rw [List.append_nil]
  exact HP.out.keep HB.out
set_option maxRecDepth 100000 in
set_option maxHeartbeats 8000000 in
theorem lay_rec (d : Nat) (ih : LYSaid d) (t k : Ty) (al al2 : Option Addr) (cl cl2 : Nat) (ak2 : Option Addr) (ck ck2 kb ko : Nat) (ar : Ar) (aa : Option Addr) (ca pg : Nat) (u : Value) (toks : List TkN) (B : Nat) (w : World) (hkid : TyAt w kb ko k al2 cl2 ak2 ck2) (hkB : kb < B) (hbd : TyBd k cl2 ck2) (hla : LA w B k.labels al2) (hkt : KT w B d k.kids ak2) (hwk : wfT k)
    (hm : MR w pg u.ownBlock ar aa ca) (hp : PG w pg u toks) (hB : B ≤ pg) (hs1 : sizeT t + toks.length ≤ 900) (hs2 : ar.length + sizeT t ≤ 900) (h8 : t.kind = 8) (hks : t.kids = [k]) :
    Calls Tryd.prog 41 #[.pointer (some ⟨pg, 0, none⟩), tyVal t al cl (some ⟨kb, ko, none⟩) ck, .slice aa ar.length ca] w (LYPost t ar pg u toks B w) := by
  have hsk : sizeT k < sizeT t := sizeT_kid (by rw [hks]; exact .head _)
  have HLP := hideK (layP_rec t ar toks.length h8 k hks)
  have hpl := hp.lt
  have HRW : ∀ j, u.ownBlock = some j → j < w.heap.size := fun j hj => (hp.own.lt j hj).2
  have HRW2 : ∀ j, u.ownBlock = some j → pg + 1 ≤ j := fun j hj => (hp.own.lt j hj).1
  have s5k : ∀ (W W' : World), (fun W : World => W.cell? ⟨w.heap.size, 2, none⟩ = some (.string t.name) ∧ W.cell? ⟨w.heap.size, 4, none⟩ = some (.slice (some ⟨kb, ko, none⟩) 1 ck) ∧ W.cell? ⟨kb, ko, none⟩ = some (.int .i64 k.kind) ∧ W.cell? ⟨kb, ko + 1, none⟩ = some (.int .i64 k.so) ∧ W.cell? ⟨kb, ko + 2, none⟩ = some (.string k.name) ∧ W.cell? ⟨kb, ko + 3, none⟩ = some (.slice al2 k.labels.length cl2) ∧ W.cell? ⟨kb, ko + 4, none⟩ = some (.slice ak2 k.kids.length ck2)) W → Below (w.heap.size + 1) W W' → (fun W : World => W.cell? ⟨w.heap.size, 2, none⟩ = some (.string t.name) ∧ W.cell? ⟨w.heap.size, 4, none⟩ = some (.slice (some ⟨kb, ko, none⟩) 1 ck) ∧ W.cell? ⟨kb, ko, none⟩ = some (.int .i64 k.kind) ∧ W.cell? ⟨kb, ko + 1, none⟩ = some (.int .i64 k.so) ∧ W.cell? ⟨kb, ko + 2, none⟩ = some (.string k.name) ∧ W.cell? ⟨kb, ko + 3, none⟩ = some (.slice al2 k.labels.length cl2) ∧ W.cell? ⟨kb, ko + 4, none⟩ = some (.slice ak2 k.kids.length ck2)) W' := fun W W' hs hb => ⟨(hb.cell (p := ⟨w.heap.size, 2, none⟩) (by show w.heap.size < _; omega)).trans hs.1, (hb.cell (p := ⟨w.heap.size, 4, none⟩) (by show w.heap.size < _; omega)).trans hs.2.1, (hb.cell (p := ⟨kb, ko, none⟩) (by show kb < _; omega)).trans hs.2.2.1, (hb.cell (p := ⟨kb, ko + 1, none⟩) (by show kb < _; omega)).trans hs.2.2.2.1, (hb.cell (p := ⟨kb, ko + 2, none⟩) (by show kb < _; omega)).trans hs.2.2.2.2.1, (hb.cell (p := ⟨kb, ko + 3, none⟩) (by show kb < _; omega)).trans hs.2.2.2.2.2.1, (hb.cell (p := ⟨kb, ko + 4, none⟩) (by show kb < _; omega)).trans hs.2.2.2.2.2.2⟩
  have s5r : ∀ (W W' : World), w.heap.size < W.heap.size → (fun W : World => W.cell? ⟨w.heap.size, 2, none⟩ = some (.string t.name) ∧ W.cell? ⟨w.heap.size, 4, none⟩ = some (.slice (some ⟨kb, ko, none⟩) 1 ck) ∧ W.cell? ⟨kb, ko, none⟩ = some (.int .i64 k.kind) ∧ W.cell? ⟨kb, ko + 1, none⟩ = some (.int .i64 k.so) ∧ W.cell? ⟨kb, ko + 2, none⟩ = some (.string k.name) ∧ W.cell? ⟨kb, ko + 3, none⟩ = some (.slice al2 k.labels.length cl2) ∧ W.cell? ⟨kb, ko + 4, none⟩ = some (.slice ak2 k.kids.length ck2)) W → RF pg pg u.ownBlock W W' → (fun W : World => W.cell? ⟨w.heap.size, 2, none⟩ = some (.string t.name) ∧ W.cell? ⟨w.heap.size, 4, none⟩ = some (.slice (some ⟨kb, ko, none⟩) 1 ck) ∧ W.cell? ⟨kb, ko, none⟩ = some (.int .i64 k.kind) ∧ W.cell? ⟨kb, ko + 1, none⟩ = some (.int .i64 k.so) ∧ W.cell? ⟨kb, ko + 2, none⟩ = some (.string k.name) ∧ W.cell? ⟨kb, ko + 3, none⟩ = some (.slice al2 k.labels.length cl2) ∧ W.cell? ⟨kb, ko + 4, none⟩ = some (.slice ak2 k.kids.length ck2)) W' := fun W W' hz hs hr => by
    have c1 : ∀ o, W'.cell? ⟨w.heap.size, o, none⟩ = W.cell? ⟨w.heap.size, o, none⟩ := fun o => hr.cell hz (by omega) (by omega) (fun e => by have := HRW _ e.symm; omega)
    have c2 : ∀ o, W'.cell? ⟨kb, o, none⟩ = W.cell? ⟨kb, o, none⟩ := fun o => hr.cell (by omega) (by omega) (by omega) (fun e => by have := HRW2 _ e.symm; omega)
    exact ⟨(c1 _).trans hs.1, (c1 _).trans hs.2.1, (c2 _).trans hs.2.2.1, (c2 _).trans hs.2.2.2.1, (c2 _).trans hs.2.2.2.2.1, (c2 _).trans hs.2.2.2.2.2.1, (c2 _).trans hs.2.2.2.2.2.2⟩
  have hA : Below w.heap.size w (w.alloc (.cells #[.int .i64 t.kind, .int .i64 t.so, .string t.name, .slice al t.labels.length cl, .slice (some ⟨kb, ko, none⟩) 1 ck] 25)) := (Below.refl _ _).alloc (Nat.le_refl _) _
  have HB1 := hideK (show Below w.heap.size w ((w.alloc (.cells #[.int .i64 t.kind, .int .i64 t.so, .string t.name, .slice al t.labels.length cl, .slice (some ⟨kb, ko, none⟩) 1 ck] 25)).drew.alloc (.cells #[.string t.name, .int .i64 (toks.length : Int)] 111)) from hA.drew.alloc (by simp) _)
  have HM1 := hideK (hm.keep (RF.of HB1.out) (.inl rfl))
  have HP1 := hideK (hp.keep HB1.out)
  have HPL := hideK (show pg < ((w.alloc (.cells #[.int .i64 t.kind, .int .i64 t.so, .string t.name, .slice al t.labels.length cl, .slice (some ⟨kb, ko, none⟩) 1 ck] 25)).drew.alloc (.cells #[.string t.name, .int .i64 (toks.length : Int)] 111)).heap.size by simp; omega)
  have HRL := hideK (show ∀ j, u.ownBlock = some j → j < ((w.alloc (.cells #[.int .i64 t.kind, .int .i64 t.so, .string t.name, .slice al t.labels.length cl, .slice (some ⟨kb, ko, none⟩) 1 ck] 25)).drew.alloc (.cells #[.string t.name, .int .i64 (toks.length : Int)] 111)).heap.size from fun j hj => by have := HRW j hj; simp; omega)
  have CC := hideK (fun W => clipM_any ar aa ca pg u.ownBlock w W hm (by omega))
  have hS0 : (fun W : World => W.cell? ⟨w.heap.size, 2, none⟩ = some (.string t.name) ∧ W.cell? ⟨w.heap.size, 4, none⟩ = some (.slice (some ⟨kb, ko, none⟩) 1 ck) ∧ W.cell? ⟨kb, ko, none⟩ = some (.int .i64 k.kind) ∧ W.cell? ⟨kb, ko + 1, none⟩ = some (.int .i64 k.so) ∧ W.cell? ⟨kb, ko + 2, none⟩ = some (.string k.name) ∧ W.cell? ⟨kb, ko + 3, none⟩ = some (.slice al2 k.labels.length cl2) ∧ W.cell? ⟨kb, ko + 4, none⟩ = some (.slice ak2 k.kids.length ck2)) (w.alloc (.cells #[.int .i64 t.kind, .int .i64 t.so, .string t.name, .slice al t.labels.length cl, .slice (some ⟨kb, ko, none⟩) 1 ck] 25)).drew := ⟨by go_cell, by go_cell, (hA.drew.cell (p := ⟨kb, ko, none⟩) (by show kb < _; omega)).trans hkid.c0, (hA.drew.cell (p := ⟨kb, ko + 1, none⟩) (by show kb < _; omega)).trans hkid.c1, (hA.drew.cell (p := ⟨kb, ko + 2, none⟩) (by show kb < _; omega)).trans hkid.c2, (hA.drew.cell (p := ⟨kb, ko + 3, none⟩) (by show kb < _; omega)).trans hkid.c3, (hA.drew.cell (p := ⟨kb, ko + 4, none⟩) (by show kb < _; omega)).trans hkid.c4⟩
  have hih : ∀ (aa3 : Option Addr) (ca3 : Nat) (W : World), Below w.heap.size w W → MR W pg u.ownBlock (ar ++ [(t.name, toks.length)]) aa3 ca3 → PG W pg u toks → Calls Tryd.prog 41 #[.pointer (some ⟨pg, 0, none⟩), tyVal k al2 cl2 ak2 ck2, .slice aa3 (ar.length + 1) ca3] W (LYPost k (ar ++ [(t.name, toks.length)]) pg u toks B W) := fun aa3 ca3 W hb hmr hpg => by
    have := ih k al2 cl2 ak2 ck2 (ar ++ [(t.name, toks.length)]) aa3 ca3 pg u toks B W hbd (hla.keep (hb.mono (by omega))) (hkt.keep (hb.mono (by omega))) hwk hmr hpg hB (by omega) (by simp; omega)
    simpa using this
  have hkb : (t.kind == 9) = false := by rw [h8]; rfl
  have hkb8 : (t.kind == 8) = true := by rw [h8]; rfl
  have hsz0 : w.heap.size < (w.alloc (.cells #[.int .i64 t.kind, .int .i64 t.so, .string t.name, .slice al t.labels.length cl, .slice (some ⟨kb, ko, none⟩) 1 ck] 25)).heap.size := by simp
  obtain ⟨ua, uc, rfl⟩ := sliceH_own hp.own
  have pc : (w.alloc (.cells #[.int .i64 t.kind, .int .i64 t.so, .string t.name, .slice al t.labels.length cl, .slice (some ⟨kb, ko, none⟩) 1 ck] 25)).drew.cell? ⟨pg, 0, none⟩ = some (.slice ua toks.length uc) := (hA.drew.cell (p := ⟨pg, 0, none⟩) hpl).trans hp.c
  have HIH := hideK hih
  have S5K := hideK s5k
  have S5R := hideK s5r
  simp only [tyVal, hks, List.length_singleton] at HIH ⊢
  clear hm hp hA hih s5k s5r hkid hbd hla hkt HRW HRW2 h8 ih
  go_enter Tryd.func41, Tryd.ntmps41
  go_wp2_with fail
  refine wp_region_held_drew (S := (fun W : World => W.cell? ⟨w.heap.size, 2, none⟩ = some (.string t.name) ∧ W.cell? ⟨w.heap.size, 4, none⟩ = some (.slice (some ⟨kb, ko, none⟩) 1 ck) ∧ W.cell? ⟨kb, ko, none⟩ = some (.int .i64 k.kind) ∧ W.cell? ⟨kb, ko + 1, none⟩ = some (.int .i64 k.so) ∧ W.cell? ⟨kb, ko + 2, none⟩ = some (.string k.name) ∧ W.cell? ⟨kb, ko + 3, none⟩ = some (.slice al2 k.labels.length cl2) ∧ W.cell? ⟨kb, ko + 4, none⟩ = some (.slice ak2 k.kids.length ck2))) (by kernel_rfl) hS0 (fun hS => ?_)
  clear hS0
  refine wpAnyH_take (i := 0) (v := (.pointer (some ⟨pg, 0, none⟩))) rfl (by kernel_rfl) (by kernel_rfl) (by kernel_rfl) (fun _ _ _ h => h) (Or.inl ⟨by rfl, fun W hW => by go_simp⟩) hS ?_
  refine wpAnyH_take (i := 1) (v := (.pointer (some ⟨w.heap.size, 4, none⟩))) rfl (by kernel_rfl) (by kernel_rfl) (by kernel_rfl) (fun _ _ _ h => h) (Or.inl ⟨by rfl, fun W hW => by go_simp⟩) hS ?_
  refine wpAnyH_take (i := 2) (v := (.slice (some ⟨kb, ko, none⟩) 1 ck)) rfl (by kernel_rfl) (by kernel_rfl) (by kernel_rfl) (fun _ _ _ h => h) (Or.inl ⟨by rfl, fun W hW => by obtain ⟨x0, x1, x2, x3, x4, x5, x6⟩ := hW; go_simp⟩) hS ?_
  refine wpAnyH_take (i := 3) (v := (.pointer (some ⟨kb, ko, none⟩))) rfl (by kernel_rfl) (by kernel_rfl) (by kernel_rfl) (fun _ _ _ h => h) (Or.inl ⟨by rfl, fun W hW => by go_simp⟩) hS ?_
  refine wpAnyH_take (i := 4) (v := (.agg #[.int .i64 k.kind, .int .i64 k.so, .string k.name, .slice al2 k.labels.length cl2, .slice ak2 k.kids.length ck2])) rfl (by kernel_rfl) (by kernel_rfl) (by kernel_rfl) (fun _ _ _ h => h) (Or.inl ⟨by rfl, fun W hW => by obtain ⟨x0, x1, x2, x3, x4, x5, x6⟩ := hW; go_simp⟩) hS ?_
  refine wpAnyH_take (i := 5) (v := (.slice aa ar.length ca)) rfl (by kernel_rfl) (by kernel_rfl) (by kernel_rfl) (fun _ _ _ h => h) (Or.inl ⟨by rfl, fun W hW => by go_simp⟩) hS ?_
  refine wpAnyH_take (i := 7) (v := (.pointer (some ⟨w.heap.size, 2, none⟩))) rfl (by kernel_rfl) (by kernel_rfl) (by kernel_rfl) (fun _ _ _ h => h) (Or.inl ⟨by rfl, fun W hW => by go_simp⟩) hS ?_
  refine wpAnyH_take (i := 8) (v := (.string t.name)) rfl (by kernel_rfl) (by kernel_rfl) (by kernel_rfl) (fun _ _ _ h => h) (Or.inl ⟨by rfl, fun W hW => by obtain ⟨x0, x1, x2, x3, x4, x5, x6⟩ := hW; go_simp⟩) hS ?_
  refine wpAnyH_take (i := 9) (v := (.pointer (some ⟨pg, 0, none⟩))) rfl (by kernel_rfl) (by kernel_rfl) (by kernel_rfl) (fun _ _ _ h => h) (Or.inl ⟨by rfl, fun W hW => by go_simp⟩) hS ?_
  refine wpAnyH_take (i := 10) (v := (.pointer (some ⟨pg, 0, none⟩))) rfl (by kernel_rfl) (by kernel_rfl) (by kernel_rfl) (fun _ _ _ h => h) (Or.inl ⟨by rfl, fun W hW => by go_simp⟩) hS ?_
  refine wpAnyH_ready (rs := [6, 11]) (by kernel_rfl) (by simp) (AllReadyH.cons rfl (fun K hK => ?_) (AllReadyH.cons rfl (fun K hK => ?_) AllReadyH.nil))
  · go_simp
    refine (CC.out _).mono ?_
    rintro e wc ⟨rfl, rfl⟩
    have hSn := hS
    refine hK.out _ _ hSn ?_
    clear hS hK K hSn
    intro hS
    refine take_oneHL 11 (AllReadyH.cons rfl (fun K hK => ?_) AllReadyH.nil) (by kernel_rfl)
    go_simp
    have hSn := hS
    refine hK.out _ _ hSn ?_
    clear hS hK K hSn
    intro hS
    refine wpAnyH_take (i := 12) (v := (.int .i64 (toks.length : Int))) rfl (by kernel_rfl) (by kernel_rfl) (by kernel_rfl) (fun _ _ _ h => h) (Or.inl ⟨by rfl, fun W hW => by go_simp⟩) hS ?_
    refine wpAnyH_take (i := 13) (v := (.agg #[.string t.name, .int .i64 (toks.length : Int)])) rfl (by kernel_rfl) (by kernel_rfl) (by kernel_rfl) (fun _ _ _ h => h) (Or.inl ⟨by rfl, fun W hW => by go_simp⟩) hS ?_
    refine take_oneHL 14 (AllReadyH.cons rfl (fun K hK => ?_) AllReadyH.nil) (by kernel_rfl)
    go_simp
    have hSn := S5K.out _ _ hS (((Below.refl _ _).alloc (Nat.le_refl _) (.cells #[.string t.name, .int .i64 (toks.length : Int)] 111)).mono (by simp))
    refine hK.out _ _ hSn ?_
    clear hS hK K hSn
    intro hS
    refine take_oneHL 15 (AllReadyH.cons rfl (fun K hK => ?_) AllReadyH.nil) (by kernel_rfl)
    refine step_append_m _ rfl (.tmp 27) (.tmp 35) rfl ar aa pg (Value.slice ua toks.length uc).ownBlock t.name toks.length (w.heap.size + 1) 1 rfl rfl HM1.out.clip (by omega) (by go_cell) (by go_cell) HPL.out HRL.out ?_
    intro aa3 ca3 w4 hMR4 hb4
    have hSn := S5K.out _ _ hS (hb4.mono (by simp))
    refine hK.out _ _ hSn ?_
    clear hS hK K hSn
    intro hS
    have HB4 := hideK (show Below w.heap.size w w4 from HB1.out.trans (hb4.mono HB1.out.size))
    have HP4 := hideK (HP1.out.keep hb4)
    have CY := HIH.out aa3 ca3 w4 HB4.out hMR4 HP4.out
    have hz4 : w.heap.size < w4.heap.size := by have := hb4.size; simp at this; omega
    clear hb4 hMR4
    refine take_oneHL 16 (AllReadyH.cons rfl (fun K hK => ?_) AllReadyH.nil) (by kernel_rfl)
    go_simp
    refine CY.mono ?_
    rintro e w5 ⟨rfl, new, u5, hn5, hp5, ht5, hr5, hu5⟩
    have hSn := S5R.out _ _ hz4 hS hr5
    refine hK.out _ _ hSn ?_
    clear hS hK K hSn
    intro hS
    refine take_oneHL 17 (AllReadyH.cons rfl (fun K hK => ?_) AllReadyH.nil) (by kernel_rfl)
    go_simp
    have hSn := hS
    refine hK.out _ _ hSn ?_
    clear hS hK K hSn
    intro hS
    refine wpAnyH_done (by kernel_rfl) ?_ _
    clear hS CY
    go_wp2_with fail
    go_ret
    refine ⟨by rw [HLP.out]; rfl, new, u5, by rw [HLP.out]; exact hn5, hp5, ht5.keep (Below.refl _ _) (fun _ _ _ => rfl) (fun b hb => ⟨Nat.le_trans HB4.out.size hb.1, hb.2⟩), (RF.of (row := (Value.slice ua toks.length uc).ownBlock) HB4.out).trans hr5 (.inl rfl), hu5.imp id (fun h k hk => Nat.le_trans HB4.out.size (h k hk))⟩
  · go_simp
    have hSn := hS
    refine hK.out _ _ hSn ?_
    clear hS hK K hSn
    intro hS
    refine wpAnyH_take (i := 12) (v := (.int .i64 (toks.length : Int))) rfl (by kernel_rfl) (by kernel_rfl) (by kernel_rfl) (fun _ _ _ h => h) (Or.inl ⟨by rfl, fun W hW => by go_simp⟩) hS ?_
    refine wpAnyH_take (i := 13) (v := (.agg #[.string t.name, .int .i64 (toks.length : Int)])) rfl (by kernel_rfl) (by kernel_rfl) (by kernel_rfl) (fun _ _ _ h => h) (Or.inl ⟨by rfl, fun W hW => by go_simp⟩) hS ?_
    refine wpAnyH_ready (rs := [6, 14]) (by kernel_rfl) (by simp) (AllReadyH.cons rfl (fun K hK => ?_) (AllReadyH.cons rfl (fun K hK => ?_) AllReadyH.nil))
    · go_simp
      refine (CC.out _).mono ?_
      rintro e wc ⟨rfl, rfl⟩
      have hSn := hS
      refine hK.out _ _ hSn ?_
      clear hS hK K hSn
      intro hS
      refine take_oneHL 14 (AllReadyH.cons rfl (fun K hK => ?_) AllReadyH.nil) (by kernel_rfl)
      go_simp
      have hSn := S5K.out _ _ hS (((Below.refl _ _).alloc (Nat.le_refl _) (.cells #[.string t.name, .int .i64 (toks.length : Int)] 111)).mono (by simp))
      refine hK.out _ _ hSn ?_
      clear hS hK K hSn
      intro hS
      refine take_oneHL 15 (AllReadyH.cons rfl (fun K hK => ?_) AllReadyH.nil) (by kernel_rfl)
      refine step_append_m _ rfl (.tmp 27) (.tmp 35) rfl ar aa pg (Value.slice ua toks.length uc).ownBlock t.name toks.length (w.heap.size + 1) 1 rfl rfl HM1.out.clip (by omega) (by go_cell) (by go_cell) HPL.out HRL.out ?_
      intro aa3 ca3 w4 hMR4 hb4
      have hSn := S5K.out _ _ hS (hb4.mono (by simp))
      refine hK.out _ _ hSn ?_
      clear hS hK K hSn
      intro hS
      have HB4 := hideK (show Below w.heap.size w w4 from HB1.out.trans (hb4.mono HB1.out.size))
      have HP4 := hideK (HP1.out.keep hb4)
      have CY := HIH.out aa3 ca3 w4 HB4.out hMR4 HP4.out
      have hz4 : w.heap.size < w4.heap.size := by have := hb4.size; simp at this; omega
      clear hb4 hMR4
      refine take_oneHL 16 (AllReadyH.cons rfl (fun K hK => ?_) AllReadyH.nil) (by kernel_rfl)
      go_simp
      refine CY.mono ?_
      rintro e w5 ⟨rfl, new, u5, hn5, hp5, ht5, hr5, hu5⟩
      have hSn := S5R.out _ _ hz4 hS hr5
      refine hK.out _ _ hSn ?_
      clear hS hK K hSn
      intro hS
      refine take_oneHL 17 (AllReadyH.cons rfl (fun K hK => ?_) AllReadyH.nil) (by kernel_rfl)
      go_simp
      have hSn := hS
      refine hK.out _ _ hSn ?_
      clear hS hK K hSn
      intro hS
      refine wpAnyH_done (by kernel_rfl) ?_ _
      clear hS CY
      go_wp2_with fail
      go_ret
      refine ⟨by rw [HLP.out]; rfl, new, u5, by rw [HLP.out]; exact hn5, hp5, ht5.keep (Below.refl _ _) (fun _ _ _ => rfl) (fun b hb => ⟨Nat.le_trans HB4.out.size hb.1, hb.2⟩), (RF.of (row := (Value.slice ua toks.length uc).ownBlock) HB4.out).trans hr5 (.inl rfl), hu5.imp id (fun h k hk => Nat.le_trans HB4.out.size (h k hk))⟩
    · go_simp
      have hSn := S5K.out _ _ hS (((Below.refl _ _).alloc (Nat.le_refl _) (.cells #[.string t.name, .int .i64 (toks.length : Int)] 111)).mono (by simp))
      refine hK.out _ _ hSn ?_
      clear hS hK K hSn
      intro hS
      refine take_oneHL 6 (AllReadyH.cons rfl (fun K hK => ?_) AllReadyH.nil) (by kernel_rfl)
      go_simp
      refine (CC.out _).mono ?_
      rintro e wc ⟨rfl, rfl⟩
      have hSn := hS
      refine hK.out _ _ hSn ?_
      clear hS hK K hSn
      intro hS
      refine take_oneHL 15 (AllReadyH.cons rfl (fun K hK => ?_) AllReadyH.nil) (by kernel_rfl)
      refine step_append_m _ rfl (.tmp 27) (.tmp 35) rfl ar aa pg (Value.slice ua toks.length uc).ownBlock t.name toks.length (w.heap.size + 1) 1 rfl rfl HM1.out.clip (by omega) (by go_cell) (by go_cell) HPL.out HRL.out ?_
      intro aa3 ca3 w4 hMR4 hb4
      have hSn := S5K.out _ _ hS (hb4.mono (by simp))
      refine hK.out _ _ hSn ?_
      clear hS hK K hSn
      intro hS
      have HB4 := hideK (show Below w.heap.size w w4 from HB1.out.trans (hb4.mono HB1.out.size))
      have HP4 := hideK (HP1.out.keep hb4)
      have CY := HIH.out aa3 ca3 w4 HB4.out hMR4 HP4.out
      have hz4 : w.heap.size < w4.heap.size := by have := hb4.size; simp at this; omega
      clear hb4 hMR4
      refine take_oneHL 16 (AllReadyH.cons rfl (fun K hK => ?_) AllReadyH.nil) (by kernel_rfl)
      go_simp
      refine CY.mono ?_
      rintro e w5 ⟨rfl, new, u5, hn5, hp5, ht5, hr5, hu5⟩
      have hSn := S5R.out _ _ hz4 hS hr5
      refine hK.out _ _ hSn ?_
      clear hS hK K hSn
      intro hS
      refine take_oneHL 17 (AllReadyH.cons rfl (fun K hK => ?_) AllReadyH.nil) (by kernel_rfl)
      go_simp
      have hSn := hS
      refine hK.out _ _ hSn ?_
      clear hS hK K hSn
      intro hS
      refine wpAnyH_done (by kernel_rfl) ?_ _
      clear hS CY
      go_wp2_with fail
      go_ret
      refine ⟨by rw [HLP.out]; rfl, new, u5, by rw [HLP.out]; exact hn5, hp5, ht5.keep (Below.refl _ _) (fun _ _ _ => rfl) (fun b hb => ⟨Nat.le_trans HB4.out.size hb.1, hb.2⟩), (RF.of (row := (Value.slice ua toks.length uc).ownBlock) HB4.out).trans hr5 (.inl rfl), hu5.imp id (fun h k hk => Nat.le_trans HB4.out.size (h k hk))⟩
end Go.Proofs.YthhbbhijpkoelaaDoor
