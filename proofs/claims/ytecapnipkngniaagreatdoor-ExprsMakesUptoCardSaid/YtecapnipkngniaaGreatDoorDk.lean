/-
  The contract of duetref.Folded, for every right expression.
-/
import Derived.Test.YtecapnipkngniaaGreatDoorDa
import Derived.Test.YtecapnipkngniaaGreatDoorCq
import Derived.Test.YtecapnipkngniaaGreatDoorDm
import Derived.WalkKit
namespace Go.Proofs.YtecapnipkngniaaGreatDoor
open Go.RowKit Go.Shelf

/-- what duetref.Folded is promised to do at a depth -/
def FDSaid (d : Nat) : Prop := ∀ (x : Ex) (ao : Option Addr) (cap B : Nat) (w : World), wfX x → ExBd x cap → KA w B d x.kids ao → B ≤ w.heap.size → Tabs w →
  Calls Tryz.prog 10 #[exVal x ao cap] w fun e w' => (∃ ao' cap', e = .returned (exVal (foldX x) ao' cap') ∧ KR w' (fun b => w.heap.size ≤ b ∧ b < w'.heap.size) d (foldX x).kids ao' ∧ ExBd (foldX x) cap') ∧ Below w.heap.size w w'
theorem rval_nil (d : Nat) : RVal [] none 0 d := rval_all [] none 0 (fun nm so h => by have e : lookS ([].map fun p : ByteArray × Vl => p.1) ([].map fun p : ByteArray × Vl => p.2.so) nm = (0, 4) := rfl; rw [e] at h; simp at h) (fun nm => by have e : (lookV [] nm).n = 0 := rfl; rw [e]; unfold in64; omega) d
theorem lit_bdQ (p : Ex) (hw : wfX p) (h3 : p.kind = 3) (hs : (sortX E0 p).2 = 0) : ExBd (Ex.lit (valX F0 p)) 0 := by
  have hgood := (sort_val E0 F0 (fun nm so hE => by rw [E0_bad] at hE; simp at hE) p hw _ (Prod.ext rfl hs)).1
  have b1 := val_bd p hw h3
  have b2 := chk_size _ _ _ hgood
  refine ⟨?_, ?_, b1.1, b1.2, Nat.le_refl _, by omega⟩
  · show (⟨#[]⟩ : ByteArray).size ≤ _; decide
  · show (valX F0 p).s.size ≤ _; omega
set_option maxRecDepth 100000 in
set_option maxHeartbeats 8000000 in
theorem folded_kidsQ (d : Nat) (ih : ∀ d', d' < d → FDSaid d') (x : Ex) (ao : Option Addr) (cap B : Nat) (w : World) (hw : wfX x) (hbd : ExBd x cap) (hka : KA w B d x.kids ao) (hB : B ≤ w.heap.size) (hT : Tabs w) (h3 : x.kind = 3) (l1 : 1 ≤ x.kids.length) (l2 : x.kids.length ≤ 2) :
    Calls Tryz.prog 10 #[exVal x ao cap] w fun e w' => (∃ ao' cap', e = .returned (exVal (foldX x) ao' cap') ∧ KR w' (fun b => w.heap.size ≤ b ∧ b < w'.heap.size) d (foldX x).kids ao' ∧ ExBd (foldX x) cap') ∧ Below w.heap.size w w' := by
  obtain ⟨i0, hi, hz0, hz1, hz2⟩ := info_parts infoEx
  have HFX := hideC (foldX_eq x)
  have HW := hideC (part_wf x hw (fun k hk => fold_wf k (((wfX_eq x).1 hw).2.2 k hk)))
  have HT := hideC hT
  have H3 := hideC h3
  obtain ⟨d', rfl⟩ : ∃ d', d = d' + 1 := by
    cases d with
    | zero => simp only [KA] at hka; rw [hka] at l1; simp at l1
    | succ d' => exact ⟨d', rfl⟩
  rcases hka with e | ⟨b, o, rfl, hbB, hcell⟩
  · rw [e] at l1; simp at l1
  have hbw : b < w.heap.size := Nat.lt_of_lt_of_le hbB hB
  have cK : ∀ i (hi : i < x.kids.length), ∃ ao' cap', ExAt w b (o + i * 6) x.kids[i] ao' cap' ∧ ∀ W, Below w.heap.size w W → Calls Tryz.prog 10 #[exVal x.kids[i] ao' cap'] W fun e w' => (∃ ao2 cap2, e = .returned (exVal (foldX x.kids[i]) ao2 cap2) ∧ KR w' (fun b => W.heap.size ≤ b ∧ b < w'.heap.size) d' (foldX x.kids[i]).kids ao2 ∧ ExBd (foldX x.kids[i]) cap2) ∧ Below W.heap.size W w' := by
    intro i hi
    obtain ⟨ao', cap', h1, h2, h4⟩ := hcell i hi
    exact ⟨ao', cap', h1, fun W hW => ih d' (by omega) x.kids[i] ao' cap' B W (((wfX_eq x).1 hw).2.2 _ (List.getElem_mem hi)) h2 (h4.keep (hW.mono hB)) (Nat.le_trans hB hW.size) (tabs_keep _ _ hT hW)⟩
  have CK := hideC cK
  have HBD := hideC hbd
  clear cK hcell ih hw hbd hT
  have hkb : (x.kind == 3) = true := by rw [h3]; rfl
  clear h3
  have HG : Hid (∀ (e : Ending) (w' : World), ((∃ ao' cap', e = .returned (exVal (foldX x) ao' cap') ∧ KR w' (fun b => w.heap.size ≤ b ∧ b < w'.heap.size) (d' + 1) (foldX x).kids ao' ∧ ExBd (foldX x) cap') ∧ Below w.heap.size w w') → ((∃ ao' cap', e = .returned (exVal (foldX x) ao' cap') ∧ KR w' (fun b => w.heap.size ≤ b ∧ b < w'.heap.size) (d' + 1) (foldX x).kids ao' ∧ ExBd (foldX x) cap') ∧ Below w.heap.size w w')) := fun _ _ h => h
  clear HG
  have A1 : Below w.heap.size w (w.alloc (.cells #[.int .i64 x.kind, .string x.name, .int .i64 x.so, .int .i64 x.n, .string x.s, .slice (some ⟨b, o, none⟩) x.kids.length cap] 26)) := (Below.refl _ _).alloc (Nat.le_refl _) _
  have s1 : (w.alloc (.cells #[.int .i64 x.kind, .string x.name, .int .i64 x.so, .int .i64 x.n, .string x.s, .slice (some ⟨b, o, none⟩) x.kids.length cap] 26)).heap.size = w.heap.size + 1 := by simp
  have xa : ExAt (w.alloc (.cells #[.int .i64 x.kind, .string x.name, .int .i64 x.so, .int .i64 x.n, .string x.s, .slice (some ⟨b, o, none⟩) x.kids.length cap] 26)) w.heap.size 0 x (some ⟨b, o, none⟩) cap := ⟨by go_cell, by go_cell, by go_cell, by go_cell, by go_cell, by go_cell⟩
  have z1 := ZE.new (w.alloc (.cells #[.int .i64 x.kind, .string x.name, .int .i64 x.so, .int .i64 x.n, .string x.s, .slice (some ⟨b, o, none⟩) x.kids.length cap] 26)) 26
  rw [s1] at z1
  have s3 : ((w.alloc (.cells #[.int .i64 x.kind, .string x.name, .int .i64 x.so, .int .i64 x.n, .string x.s, .slice (some ⟨b, o, none⟩) x.kids.length cap] 26)).alloc (.cells #[.int .i64 0, .string ⟨#[]⟩, .int .i64 0, .int .i64 0, .string ⟨#[]⟩, .slice none 0 0] 26)).heap.size = w.heap.size + 1 + 1 := by simp
  have B3 : Below (w.heap.size + 1) (w.alloc (.cells #[.int .i64 x.kind, .string x.name, .int .i64 x.so, .int .i64 x.n, .string x.s, .slice (some ⟨b, o, none⟩) x.kids.length cap] 26)) ((w.alloc (.cells #[.int .i64 x.kind, .string x.name, .int .i64 x.so, .int .i64 x.n, .string x.s, .slice (some ⟨b, o, none⟩) x.kids.length cap] 26)).alloc (.cells #[.int .i64 0, .string ⟨#[]⟩, .int .i64 0, .int .i64 0, .string ⟨#[]⟩, .slice none 0 0] 26)) := (Below.refl _ _).alloc (by omega) _
  have S0 := hideC (BL.start foldX d' (xa.keep B3 (by omega)) z1 s3 (by omega) (by omega) (by omega) (A1.trans (B3.mono (by omega))))
  clear A1 xa z1 B3 s1 s3
  rw [show exVal x (some ⟨b, o, none⟩) cap = .agg #[.int .i64 x.kind, .string x.name, .int .i64 x.so, .int .i64 x.n, .string x.s, .slice (some ⟨b, o, none⟩) x.kids.length cap] from rfl]
  go_enter Tryz.func10, Tryz.ntmps10
  go_wp2_with fail
  go_loopw [4] (fun i wr => ∃ (k : Nat) (tks : List Tk) (u : Value), k ≤ x.kids.length ∧ i = .int .i64 (k : Int) ∧ BL w x (some ⟨b, o, none⟩) cap foldX d' (w.heap.size + 1) (w.heap.size + 1 + 1) k tks u wr) (fun i _ => x.kids.length - (intOf i).toNat)
  case atStart => exact ⟨0, [], .slice none 0 0, Nat.zero_le _, rfl, S0.out⟩
  case round =>
    obtain ⟨k, tks, u, hk, rfl, hBL⟩ := hrel
    clear S0
    obtain ⟨_, _, _, _, _, x5⟩ := id hBL.xa
    simp only [Nat.zero_add] at x5
    have BR := hideC hBL
    by_cases hlt : k < x.kids.length
    · have hltz : (k : Int) < (x.kids.length : Int) := by omega
      obtain ⟨aok, capk, hex, hcall⟩ := CK.out k hlt
      have CF := hideC hcall
      obtain ⟨c0, c1, c2, c3, c4, c5⟩ := hex.keep hBL.bl hbw
      have o5 := hBL.o5
      clear hex hcall hBL
      generalize hy : foldX x.kids[k] = y at CF
      have HY : Hid (y = foldX x.kids[k]) := hy.symm
      clear hy
      simp only [exVal] at CF
      go_wp2_with fail
      refine wp_region_any (by kernel_rfl) ?_
      change wpAny _ _ _ _ _ _ _ (World.drew _)
      refine wpAny_take (i := 0) (v := (.pointer (some ⟨w.heap.size + 1 + 1, 5, none⟩))) rfl (by kernel_rfl) (by kernel_rfl) (by kernel_rfl) (fun _ _ _ h => h) (Or.inl ⟨by rfl, fun w => by go_simp⟩) ?_
      refine wpAny_take (i := 2) (v := (.pointer (some ⟨w.heap.size, 5, none⟩))) rfl (by kernel_rfl) (by kernel_rfl) (by kernel_rfl) (fun _ _ _ h => h) (Or.inl ⟨by rfl, fun w => by go_simp⟩) ?_
      refine wpAny_take (i := 4) (v := (.int .i64 (k : Int))) rfl (by kernel_rfl) (by kernel_rfl) (by kernel_rfl) (fun _ _ _ h => h) (Or.inl ⟨by rfl, fun w => by go_simp⟩) ?_
      refine wpAny_ready (rs := [1, 3]) (by kernel_rfl) (by simp) ?_
      refine (AllReady.cons rfl (fun K hK => ?_) (AllReady.cons rfl (fun K hK => ?_) AllReady.nil))
      · go_simp
        refine hK _ _ ?_
        clear hK K
        refine take_oneB 3 (AllReady.cons rfl (fun K hK => ?_) AllReady.nil) (by kernel_rfl)
        go_simp
        refine hK _ _ ?_
        clear hK K
        refine take_oneB 5 (AllReady.cons rfl (fun K hK => ?_) AllReady.nil) (by kernel_rfl)
        go_simp
        refine hK _ _ ?_
        clear hK K
        refine take_oneB 6 (AllReady.cons rfl (fun K hK => ?_) AllReady.nil) (by kernel_rfl)
        go_simp
        refine hK _ _ ?_
        clear hK K
        refine take_oneB 7 (AllReady.cons rfl (fun K hK => ?_) AllReady.nil) (by kernel_rfl)
        go_simp
        refine (CF.out _ (BR.out.bl.drew)).mono ?_
        rintro e w2 ⟨⟨ao2, cap2, rfl, hkr2, hbd2⟩, hb2⟩
        have C2 := hideC ((BR.out.keep (Below.refl _ _).drew).keep hb2)
        have KR2 := hideC hkr2
        have BD2 := hideC hbd2
        have SZ2 := hideC hb2.size
        have d5 := C2.out.o5
        have hl2 := C2.out.pl
        have e5 : (w2.alloc (.cells #[.int .i64 y.kind, .string y.name, .int .i64 y.so, .int .i64 y.n, .string y.s, .slice ao2 y.kids.length cap2] 26)).cell? ⟨w.heap.size + 1 + 1, 5, none⟩ = some u := (World.cell?_alloc_past _ _ _ C2.out.pl).trans C2.out.o5
        have L3 := hideC (World.ownsRow_lit (base := w.heap.size + 1 + 1 + 1) (e := 26) (size := 6) w2 #[.int .i64 y.kind, .string y.name, .int .i64 y.so, .int .i64 y.n, .string y.s, .slice ao2 y.kids.length cap2] 1 C2.out.pl (by decide) rfl)
        have U3 := hideC (own_below C2.out.own ((Below.refl _ _).alloc (Nat.le_refl _) (.cells #[.int .i64 y.kind, .string y.name, .int .i64 y.so, .int .i64 y.n, .string y.s, .slice ao2 y.kids.length cap2] 26)))
        clear hkr2 hbd2 hb2
        refine hK _ _ ?_
        clear hK K
        refine take_oneB 8 (AllReady.cons rfl (fun K hK => ?_) AllReady.nil) (by kernel_rfl)
        go_simp
        refine hK _ _ ?_
        clear hK K
        refine take_oneB 9 (AllReady.cons rfl (fun K hK => ?_) AllReady.nil) (by kernel_rfl)
        refine step_append_rows _ rfl _ _ 24 rfl (w.heap.size + 1 + 1 + 1) (w.heap.size + 1 + 1 + 1) 26 i0 _ 6 80 Tryz.underlying24 hi hz0 hz1 hz2 rfl (by decide) _ _ _ rfl U3.out _ _ _ rfl L3.out (eCs_one [(y, ao2, cap2)]) (by unfold maxLen; omega) (by omega) (by simp; omega) ?_
        intro u4 w4 hO4 hg4 hn4
        replace hg4 : (w2.alloc (.cells #[.int .i64 y.kind, .string y.name, .int .i64 y.so, .int .i64 y.n, .string y.s, .slice ao2 y.kids.length cap2] 26)).grownBy w4 u.ownBlock := hg4
        replace hn4 : u4.ownBlock = u.ownBlock ∨ u4.ownBlock = some (w2.alloc (.cells #[.int .i64 y.kind, .string y.name, .int .i64 y.so, .int .i64 y.n, .string y.s, .slice ao2 y.kids.length cap2] 26)).heap.size := hn4
        have C4 := hideC (C2.out.add (y, ao2, cap2) hlt HY.out BD2.out _ KR2.out (fun g hg => (BR.out.own.lt g hg).2) BR.out.pl hg4 hO4 hn4)
        have hb4 : w4.heap[w.heap.size + 1 + 1]? = w2.heap[w.heap.size + 1 + 1]? := (hg4.block _ (by simp; omega) (fun e => by have := (C2.out.own.lt _ e.symm).1; omega)).trans (heap_alloc_old w2 (.cells #[.int .i64 y.kind, .string y.name, .int .i64 y.so, .int .i64 y.n, .string y.s, .slice ao2 y.kids.length cap2] 26) C2.out.pl)
        have g5 := (World.cell?_of_block (a := ⟨w.heap.size + 1 + 1, 5, none⟩) hb4).trans C2.out.o5
        have gf5 := (World.frozen?_of_block (a := ⟨w.heap.size + 1 + 1, 5, none⟩) hb4).trans (C2.out.fr 5)
        obtain ⟨a4, n4, cp4, rfl⟩ := slice_ownQ hO4
        clear hO4 hg4 hn4 hb4
        refine hK _ _ ?_
        clear hK K
        refine take_oneB 10 (AllReady.cons rfl (fun K hK => ?_) AllReady.nil) (by kernel_rfl)
        go_simp
        refine hK _ _ ?_
        clear hK K
        refine take_oneB 11 (AllReady.cons rfl (fun K hK => ?_) AllReady.nil) (by kernel_rfl)
        go_simp
        refine hK _ _ ?_
        clear hK K
        refine wpAny_done (by kernel_rfl) ?_ _
        go_wp2_with fail
        go_roundw
        case rel => exact ⟨k + 1, tks ++ [(y, ao2, cap2)], _, by omega, by go_num, C4.out⟩
        case measure => simp [intOf]; omega
      · go_simp
        refine hK _ _ ?_
        clear hK K
        refine wpAny_ready (rs := [1, 5]) (by kernel_rfl) (by simp) ?_
        refine (AllReady.cons rfl (fun K hK => ?_) (AllReady.cons rfl (fun K hK => ?_) AllReady.nil))
        · go_simp
          refine hK _ _ ?_
          clear hK K
          refine take_oneB 5 (AllReady.cons rfl (fun K hK => ?_) AllReady.nil) (by kernel_rfl)
          go_simp
          refine hK _ _ ?_
          clear hK K
          refine take_oneB 6 (AllReady.cons rfl (fun K hK => ?_) AllReady.nil) (by kernel_rfl)
          go_simp
          refine hK _ _ ?_
          clear hK K
          refine take_oneB 7 (AllReady.cons rfl (fun K hK => ?_) AllReady.nil) (by kernel_rfl)
          go_simp
          refine (CF.out _ (BR.out.bl.drew)).mono ?_
          rintro e w2 ⟨⟨ao2, cap2, rfl, hkr2, hbd2⟩, hb2⟩
          have C2 := hideC ((BR.out.keep (Below.refl _ _).drew).keep hb2)
          have KR2 := hideC hkr2
          have BD2 := hideC hbd2
          have SZ2 := hideC hb2.size
          have d5 := C2.out.o5
          have hl2 := C2.out.pl
          have e5 : (w2.alloc (.cells #[.int .i64 y.kind, .string y.name, .int .i64 y.so, .int .i64 y.n, .string y.s, .slice ao2 y.kids.length cap2] 26)).cell? ⟨w.heap.size + 1 + 1, 5, none⟩ = some u := (World.cell?_alloc_past _ _ _ C2.out.pl).trans C2.out.o5
          have L3 := hideC (World.ownsRow_lit (base := w.heap.size + 1 + 1 + 1) (e := 26) (size := 6) w2 #[.int .i64 y.kind, .string y.name, .int .i64 y.so, .int .i64 y.n, .string y.s, .slice ao2 y.kids.length cap2] 1 C2.out.pl (by decide) rfl)
          have U3 := hideC (own_below C2.out.own ((Below.refl _ _).alloc (Nat.le_refl _) (.cells #[.int .i64 y.kind, .string y.name, .int .i64 y.so, .int .i64 y.n, .string y.s, .slice ao2 y.kids.length cap2] 26)))
          clear hkr2 hbd2 hb2
          refine hK _ _ ?_
          clear hK K
          refine take_oneB 8 (AllReady.cons rfl (fun K hK => ?_) AllReady.nil) (by kernel_rfl)
          go_simp
          refine hK _ _ ?_
          clear hK K
          refine take_oneB 9 (AllReady.cons rfl (fun K hK => ?_) AllReady.nil) (by kernel_rfl)
          refine step_append_rows _ rfl _ _ 24 rfl (w.heap.size + 1 + 1 + 1) (w.heap.size + 1 + 1 + 1) 26 i0 _ 6 80 Tryz.underlying24 hi hz0 hz1 hz2 rfl (by decide) _ _ _ rfl U3.out _ _ _ rfl L3.out (eCs_one [(y, ao2, cap2)]) (by unfold maxLen; omega) (by omega) (by simp; omega) ?_
          intro u4 w4 hO4 hg4 hn4
          replace hg4 : (w2.alloc (.cells #[.int .i64 y.kind, .string y.name, .int .i64 y.so, .int .i64 y.n, .string y.s, .slice ao2 y.kids.length cap2] 26)).grownBy w4 u.ownBlock := hg4
          replace hn4 : u4.ownBlock = u.ownBlock ∨ u4.ownBlock = some (w2.alloc (.cells #[.int .i64 y.kind, .string y.name, .int .i64 y.so, .int .i64 y.n, .string y.s, .slice ao2 y.kids.length cap2] 26)).heap.size := hn4
          have C4 := hideC (C2.out.add (y, ao2, cap2) hlt HY.out BD2.out _ KR2.out (fun g hg => (BR.out.own.lt g hg).2) BR.out.pl hg4 hO4 hn4)
          have hb4 : w4.heap[w.heap.size + 1 + 1]? = w2.heap[w.heap.size + 1 + 1]? := (hg4.block _ (by simp; omega) (fun e => by have := (C2.out.own.lt _ e.symm).1; omega)).trans (heap_alloc_old w2 (.cells #[.int .i64 y.kind, .string y.name, .int .i64 y.so, .int .i64 y.n, .string y.s, .slice ao2 y.kids.length cap2] 26) C2.out.pl)
          have g5 := (World.cell?_of_block (a := ⟨w.heap.size + 1 + 1, 5, none⟩) hb4).trans C2.out.o5
          have gf5 := (World.frozen?_of_block (a := ⟨w.heap.size + 1 + 1, 5, none⟩) hb4).trans (C2.out.fr 5)
          obtain ⟨a4, n4, cp4, rfl⟩ := slice_ownQ hO4
          clear hO4 hg4 hn4 hb4
          refine hK _ _ ?_
          clear hK K
          refine take_oneB 10 (AllReady.cons rfl (fun K hK => ?_) AllReady.nil) (by kernel_rfl)
          go_simp
          refine hK _ _ ?_
          clear hK K
          refine take_oneB 11 (AllReady.cons rfl (fun K hK => ?_) AllReady.nil) (by kernel_rfl)
          go_simp
          refine hK _ _ ?_
          clear hK K
          refine wpAny_done (by kernel_rfl) ?_ _
          go_wp2_with fail
          go_roundw
          case rel => exact ⟨k + 1, tks ++ [(y, ao2, cap2)], _, by omega, by go_num, C4.out⟩
          case measure => simp [intOf]; omega
        · go_simp
          refine hK _ _ ?_
          clear hK K
          refine wpAny_ready (rs := [1, 6]) (by kernel_rfl) (by simp) ?_
          refine (AllReady.cons rfl (fun K hK => ?_) (AllReady.cons rfl (fun K hK => ?_) AllReady.nil))
          · go_simp
            refine hK _ _ ?_
            clear hK K
            refine take_oneB 6 (AllReady.cons rfl (fun K hK => ?_) AllReady.nil) (by kernel_rfl)
            go_simp
            refine hK _ _ ?_
            clear hK K
            refine take_oneB 7 (AllReady.cons rfl (fun K hK => ?_) AllReady.nil) (by kernel_rfl)
            go_simp
            refine (CF.out _ (BR.out.bl.drew)).mono ?_
            rintro e w2 ⟨⟨ao2, cap2, rfl, hkr2, hbd2⟩, hb2⟩
            have C2 := hideC ((BR.out.keep (Below.refl _ _).drew).keep hb2)
            have KR2 := hideC hkr2
            have BD2 := hideC hbd2
            have SZ2 := hideC hb2.size
            have d5 := C2.out.o5
            have hl2 := C2.out.pl
            have e5 : (w2.alloc (.cells #[.int .i64 y.kind, .string y.name, .int .i64 y.so, .int .i64 y.n, .string y.s, .slice ao2 y.kids.length cap2] 26)).cell? ⟨w.heap.size + 1 + 1, 5, none⟩ = some u := (World.cell?_alloc_past _ _ _ C2.out.pl).trans C2.out.o5
            have L3 := hideC (World.ownsRow_lit (base := w.heap.size + 1 + 1 + 1) (e := 26) (size := 6) w2 #[.int .i64 y.kind, .string y.name, .int .i64 y.so, .int .i64 y.n, .string y.s, .slice ao2 y.kids.length cap2] 1 C2.out.pl (by decide) rfl)
            have U3 := hideC (own_below C2.out.own ((Below.refl _ _).alloc (Nat.le_refl _) (.cells #[.int .i64 y.kind, .string y.name, .int .i64 y.so, .int .i64 y.n, .string y.s, .slice ao2 y.kids.length cap2] 26)))
            clear hkr2 hbd2 hb2
            refine hK _ _ ?_
            clear hK K
            refine take_oneB 8 (AllReady.cons rfl (fun K hK => ?_) AllReady.nil) (by kernel_rfl)
            go_simp
            refine hK _ _ ?_
            clear hK K
            refine take_oneB 9 (AllReady.cons rfl (fun K hK => ?_) AllReady.nil) (by kernel_rfl)
            refine step_append_rows _ rfl _ _ 24 rfl (w.heap.size + 1 + 1 + 1) (w.heap.size + 1 + 1 + 1) 26 i0 _ 6 80 Tryz.underlying24 hi hz0 hz1 hz2 rfl (by decide) _ _ _ rfl U3.out _ _ _ rfl L3.out (eCs_one [(y, ao2, cap2)]) (by unfold maxLen; omega) (by omega) (by simp; omega) ?_
            intro u4 w4 hO4 hg4 hn4
            replace hg4 : (w2.alloc (.cells #[.int .i64 y.kind, .string y.name, .int .i64 y.so, .int .i64 y.n, .string y.s, .slice ao2 y.kids.length cap2] 26)).grownBy w4 u.ownBlock := hg4
            replace hn4 : u4.ownBlock = u.ownBlock ∨ u4.ownBlock = some (w2.alloc (.cells #[.int .i64 y.kind, .string y.name, .int .i64 y.so, .int .i64 y.n, .string y.s, .slice ao2 y.kids.length cap2] 26)).heap.size := hn4
            have C4 := hideC (C2.out.add (y, ao2, cap2) hlt HY.out BD2.out _ KR2.out (fun g hg => (BR.out.own.lt g hg).2) BR.out.pl hg4 hO4 hn4)
            have hb4 : w4.heap[w.heap.size + 1 + 1]? = w2.heap[w.heap.size + 1 + 1]? := (hg4.block _ (by simp; omega) (fun e => by have := (C2.out.own.lt _ e.symm).1; omega)).trans (heap_alloc_old w2 (.cells #[.int .i64 y.kind, .string y.name, .int .i64 y.so, .int .i64 y.n, .string y.s, .slice ao2 y.kids.length cap2] 26) C2.out.pl)
            have g5 := (World.cell?_of_block (a := ⟨w.heap.size + 1 + 1, 5, none⟩) hb4).trans C2.out.o5
            have gf5 := (World.frozen?_of_block (a := ⟨w.heap.size + 1 + 1, 5, none⟩) hb4).trans (C2.out.fr 5)
            obtain ⟨a4, n4, cp4, rfl⟩ := slice_ownQ hO4
            clear hO4 hg4 hn4 hb4
            refine hK _ _ ?_
            clear hK K
            refine take_oneB 10 (AllReady.cons rfl (fun K hK => ?_) AllReady.nil) (by kernel_rfl)
            go_simp
            refine hK _ _ ?_
            clear hK K
            refine take_oneB 11 (AllReady.cons rfl (fun K hK => ?_) AllReady.nil) (by kernel_rfl)
            go_simp
            refine hK _ _ ?_
            clear hK K
            refine wpAny_done (by kernel_rfl) ?_ _
            go_wp2_with fail
            go_roundw
            case rel => exact ⟨k + 1, tks ++ [(y, ao2, cap2)], _, by omega, by go_num, C4.out⟩
            case measure => simp [intOf]; omega
          · go_simp
            refine hK _ _ ?_
            clear hK K
            refine wpAny_ready (rs := [1, 7]) (by kernel_rfl) (by simp) ?_
            refine (AllReady.cons rfl (fun K hK => ?_) (AllReady.cons rfl (fun K hK => ?_) AllReady.nil))
            · go_simp
              refine hK _ _ ?_
              clear hK K
              refine take_oneB 7 (AllReady.cons rfl (fun K hK => ?_) AllReady.nil) (by kernel_rfl)
              go_simp
              refine (CF.out _ (BR.out.bl.drew)).mono ?_
              rintro e w2 ⟨⟨ao2, cap2, rfl, hkr2, hbd2⟩, hb2⟩
              have C2 := hideC ((BR.out.keep (Below.refl _ _).drew).keep hb2)
              have KR2 := hideC hkr2
              have BD2 := hideC hbd2
              have SZ2 := hideC hb2.size
              have d5 := C2.out.o5
              have hl2 := C2.out.pl
              have e5 : (w2.alloc (.cells #[.int .i64 y.kind, .string y.name, .int .i64 y.so, .int .i64 y.n, .string y.s, .slice ao2 y.kids.length cap2] 26)).cell? ⟨w.heap.size + 1 + 1, 5, none⟩ = some u := (World.cell?_alloc_past _ _ _ C2.out.pl).trans C2.out.o5
              have L3 := hideC (World.ownsRow_lit (base := w.heap.size + 1 + 1 + 1) (e := 26) (size := 6) w2 #[.int .i64 y.kind, .string y.name, .int .i64 y.so, .int .i64 y.n, .string y.s, .slice ao2 y.kids.length cap2] 1 C2.out.pl (by decide) rfl)
              have U3 := hideC (own_below C2.out.own ((Below.refl _ _).alloc (Nat.le_refl _) (.cells #[.int .i64 y.kind, .string y.name, .int .i64 y.so, .int .i64 y.n, .string y.s, .slice ao2 y.kids.length cap2] 26)))
              clear hkr2 hbd2 hb2
              refine hK _ _ ?_
              clear hK K
              refine take_oneB 8 (AllReady.cons rfl (fun K hK => ?_) AllReady.nil) (by kernel_rfl)
              go_simp
              refine hK _ _ ?_
              clear hK K
              refine take_oneB 9 (AllReady.cons rfl (fun K hK => ?_) AllReady.nil) (by kernel_rfl)
              refine step_append_rows _ rfl _ _ 24 rfl (w.heap.size + 1 + 1 + 1) (w.heap.size + 1 + 1 + 1) 26 i0 _ 6 80 Tryz.underlying24 hi hz0 hz1 hz2 rfl (by decide) _ _ _ rfl U3.out _ _ _ rfl L3.out (eCs_one [(y, ao2, cap2)]) (by unfold maxLen; omega) (by omega) (by simp; omega) ?_
              intro u4 w4 hO4 hg4 hn4
              replace hg4 : (w2.alloc (.cells #[.int .i64 y.kind, .string y.name, .int .i64 y.so, .int .i64 y.n, .string y.s, .slice ao2 y.kids.length cap2] 26)).grownBy w4 u.ownBlock := hg4
              replace hn4 : u4.ownBlock = u.ownBlock ∨ u4.ownBlock = some (w2.alloc (.cells #[.int .i64 y.kind, .string y.name, .int .i64 y.so, .int .i64 y.n, .string y.s, .slice ao2 y.kids.length cap2] 26)).heap.size := hn4
              have C4 := hideC (C2.out.add (y, ao2, cap2) hlt HY.out BD2.out _ KR2.out (fun g hg => (BR.out.own.lt g hg).2) BR.out.pl hg4 hO4 hn4)
              have hb4 : w4.heap[w.heap.size + 1 + 1]? = w2.heap[w.heap.size + 1 + 1]? := (hg4.block _ (by simp; omega) (fun e => by have := (C2.out.own.lt _ e.symm).1; omega)).trans (heap_alloc_old w2 (.cells #[.int .i64 y.kind, .string y.name, .int .i64 y.so, .int .i64 y.n, .string y.s, .slice ao2 y.kids.length cap2] 26) C2.out.pl)
              have g5 := (World.cell?_of_block (a := ⟨w.heap.size + 1 + 1, 5, none⟩) hb4).trans C2.out.o5
              have gf5 := (World.frozen?_of_block (a := ⟨w.heap.size + 1 + 1, 5, none⟩) hb4).trans (C2.out.fr 5)
              obtain ⟨a4, n4, cp4, rfl⟩ := slice_ownQ hO4
              clear hO4 hg4 hn4 hb4
              refine hK _ _ ?_
              clear hK K
              refine take_oneB 10 (AllReady.cons rfl (fun K hK => ?_) AllReady.nil) (by kernel_rfl)
              go_simp
              refine hK _ _ ?_
              clear hK K
              refine take_oneB 11 (AllReady.cons rfl (fun K hK => ?_) AllReady.nil) (by kernel_rfl)
              go_simp
              refine hK _ _ ?_
              clear hK K
              refine wpAny_done (by kernel_rfl) ?_ _
              go_wp2_with fail
              go_roundw
              case rel => exact ⟨k + 1, tks ++ [(y, ao2, cap2)], _, by omega, by go_num, C4.out⟩
              case measure => simp [intOf]; omega
            · go_simp
              refine (CF.out _ (BR.out.bl.drew)).mono ?_
              rintro e w2 ⟨⟨ao2, cap2, rfl, hkr2, hbd2⟩, hb2⟩
              have C2 := hideC ((BR.out.keep (Below.refl _ _).drew).keep hb2)
              have KR2 := hideC hkr2
              have BD2 := hideC hbd2
              have SZ2 := hideC hb2.size
              have d5 := C2.out.o5
              have hl2 := C2.out.pl
              have e5 : (w2.alloc (.cells #[.int .i64 y.kind, .string y.name, .int .i64 y.so, .int .i64 y.n, .string y.s, .slice ao2 y.kids.length cap2] 26)).cell? ⟨w.heap.size + 1 + 1, 5, none⟩ = some u := (World.cell?_alloc_past _ _ _ C2.out.pl).trans C2.out.o5
              have L3 := hideC (World.ownsRow_lit (base := w.heap.size + 1 + 1 + 1) (e := 26) (size := 6) w2 #[.int .i64 y.kind, .string y.name, .int .i64 y.so, .int .i64 y.n, .string y.s, .slice ao2 y.kids.length cap2] 1 C2.out.pl (by decide) rfl)
              have U3 := hideC (own_below C2.out.own ((Below.refl _ _).alloc (Nat.le_refl _) (.cells #[.int .i64 y.kind, .string y.name, .int .i64 y.so, .int .i64 y.n, .string y.s, .slice ao2 y.kids.length cap2] 26)))
              clear hkr2 hbd2 hb2
              refine hK _ _ ?_
              clear hK K
              refine wpAny_ready (rs := [1, 8]) (by kernel_rfl) (by simp) ?_
              refine (AllReady.cons rfl (fun K hK => ?_) (AllReady.cons rfl (fun K hK => ?_) AllReady.nil))
              · go_simp
                refine hK _ _ ?_
                clear hK K
                refine take_oneB 8 (AllReady.cons rfl (fun K hK => ?_) AllReady.nil) (by kernel_rfl)
                go_simp
                refine hK _ _ ?_
                clear hK K
                refine take_oneB 9 (AllReady.cons rfl (fun K hK => ?_) AllReady.nil) (by kernel_rfl)
                refine step_append_rows _ rfl _ _ 24 rfl (w.heap.size + 1 + 1 + 1) (w.heap.size + 1 + 1 + 1) 26 i0 _ 6 80 Tryz.underlying24 hi hz0 hz1 hz2 rfl (by decide) _ _ _ rfl U3.out _ _ _ rfl L3.out (eCs_one [(y, ao2, cap2)]) (by unfold maxLen; omega) (by omega) (by simp; omega) ?_
                intro u4 w4 hO4 hg4 hn4
                replace hg4 : (w2.alloc (.cells #[.int .i64 y.kind, .string y.name, .int .i64 y.so, .int .i64 y.n, .string y.s, .slice ao2 y.kids.length cap2] 26)).grownBy w4 u.ownBlock := hg4
                replace hn4 : u4.ownBlock = u.ownBlock ∨ u4.ownBlock = some (w2.alloc (.cells #[.int .i64 y.kind, .string y.name, .int .i64 y.so, .int .i64 y.n, .string y.s, .slice ao2 y.kids.length cap2] 26)).heap.size := hn4
                have C4 := hideC (C2.out.add (y, ao2, cap2) hlt HY.out BD2.out _ KR2.out (fun g hg => (BR.out.own.lt g hg).2) BR.out.pl hg4 hO4 hn4)
                have hb4 : w4.heap[w.heap.size + 1 + 1]? = w2.heap[w.heap.size + 1 + 1]? := (hg4.block _ (by simp; omega) (fun e => by have := (C2.out.own.lt _ e.symm).1; omega)).trans (heap_alloc_old w2 (.cells #[.int .i64 y.kind, .string y.name, .int .i64 y.so, .int .i64 y.n, .string y.s, .slice ao2 y.kids.length cap2] 26) C2.out.pl)
                have g5 := (World.cell?_of_block (a := ⟨w.heap.size + 1 + 1, 5, none⟩) hb4).trans C2.out.o5
                have gf5 := (World.frozen?_of_block (a := ⟨w.heap.size + 1 + 1, 5, none⟩) hb4).trans (C2.out.fr 5)
                obtain ⟨a4, n4, cp4, rfl⟩ := slice_ownQ hO4
                clear hO4 hg4 hn4 hb4
                refine hK _ _ ?_
                clear hK K
                refine take_oneB 10 (AllReady.cons rfl (fun K hK => ?_) AllReady.nil) (by kernel_rfl)
                go_simp
                refine hK _ _ ?_
                clear hK K
                refine take_oneB 11 (AllReady.cons rfl (fun K hK => ?_) AllReady.nil) (by kernel_rfl)
                go_simp
                refine hK _ _ ?_
                clear hK K
                refine wpAny_done (by kernel_rfl) ?_ _
                go_wp2_with fail
                go_roundw
                case rel => exact ⟨k + 1, tks ++ [(y, ao2, cap2)], _, by omega, by go_num, C4.out⟩
                case measure => simp [intOf]; omega
              · go_simp
                refine hK _ _ ?_
                clear hK K
                refine take_oneB 1 (AllReady.cons rfl (fun K hK => ?_) AllReady.nil) (by kernel_rfl)
                go_simp
                refine hK _ _ ?_
                clear hK K
                refine take_oneB 9 (AllReady.cons rfl (fun K hK => ?_) AllReady.nil) (by kernel_rfl)
                refine step_append_rows _ rfl _ _ 24 rfl (w.heap.size + 1 + 1 + 1) (w.heap.size + 1 + 1 + 1) 26 i0 _ 6 80 Tryz.underlying24 hi hz0 hz1 hz2 rfl (by decide) _ _ _ rfl U3.out _ _ _ rfl L3.out (eCs_one [(y, ao2, cap2)]) (by unfold maxLen; omega) (by omega) (by simp; omega) ?_
                intro u4 w4 hO4 hg4 hn4
                replace hg4 : (w2.alloc (.cells #[.int .i64 y.kind, .string y.name, .int .i64 y.so, .int .i64 y.n, .string y.s, .slice ao2 y.kids.length cap2] 26)).grownBy w4 u.ownBlock := hg4
                replace hn4 : u4.ownBlock = u.ownBlock ∨ u4.ownBlock = some (w2.alloc (.cells #[.int .i64 y.kind, .string y.name, .int .i64 y.so, .int .i64 y.n, .string y.s, .slice ao2 y.kids.length cap2] 26)).heap.size := hn4
                have C4 := hideC (C2.out.add (y, ao2, cap2) hlt HY.out BD2.out _ KR2.out (fun g hg => (BR.out.own.lt g hg).2) BR.out.pl hg4 hO4 hn4)
                have hb4 : w4.heap[w.heap.size + 1 + 1]? = w2.heap[w.heap.size + 1 + 1]? := (hg4.block _ (by simp; omega) (fun e => by have := (C2.out.own.lt _ e.symm).1; omega)).trans (heap_alloc_old w2 (.cells #[.int .i64 y.kind, .string y.name, .int .i64 y.so, .int .i64 y.n, .string y.s, .slice ao2 y.kids.length cap2] 26) C2.out.pl)
                have g5 := (World.cell?_of_block (a := ⟨w.heap.size + 1 + 1, 5, none⟩) hb4).trans C2.out.o5
                have gf5 := (World.frozen?_of_block (a := ⟨w.heap.size + 1 + 1, 5, none⟩) hb4).trans (C2.out.fr 5)
                obtain ⟨a4, n4, cp4, rfl⟩ := slice_ownQ hO4
                clear hO4 hg4 hn4 hb4
                refine hK _ _ ?_
                clear hK K
                refine take_oneB 10 (AllReady.cons rfl (fun K hK => ?_) AllReady.nil) (by kernel_rfl)
                go_simp
                refine hK _ _ ?_
                clear hK K
                refine take_oneB 11 (AllReady.cons rfl (fun K hK => ?_) AllReady.nil) (by kernel_rfl)
                go_simp
                refine hK _ _ ?_
                clear hK K
                refine wpAny_done (by kernel_rfl) ?_ _
                go_wp2_with fail
                go_roundw
                case rel => exact ⟨k + 1, tks ++ [(y, ao2, cap2)], _, by omega, by go_num, C4.out⟩
                case measure => simp [intOf]; omega
    · have hltz : ¬ (k : Int) < (x.kids.length : Int) := by omega
      have hkl : k = x.kids.length := by omega
      subst hkl
      have hzl := hBL.zl
      obtain ⟨aoR, capR, rfl, hK0, hB0⟩ := BR.out.done HBD.out rfl (fun _ _ _ => rfl)
      have HKA := hideC (hK0.toKA (B := wr.heap.size) (fun b hb => hb.2))
      have HB0 := hideC hB0
      rcases hK0 with e | ⟨gb, go, hao, hgb, hgc⟩
      · rw [List.map_eq_nil_iff] at e; rw [e] at l1; simp at l1
      subst hao
      have q0 := BR.out.o0
      have q1 := BR.out.o1
      have q2 := BR.out.o2
      have q3 := BR.out.o3
      have q4 := BR.out.o4
      have q5 := BR.out.o5
      have HGC := hideC hgc
      clear hBL hB0 hgc CK
      rename World => W1
      go_wp2_with fail
      go_loopw [5] (fun i w2 => ∃ (k2 : Nat), k2 ≤ x.kids.length ∧ i = .int .i64 (k2 : Int) ∧ w2 = W1 ∧ ∀ j (hj : j < x.kids.length), j < k2 → (foldX x.kids[j]).kind = 1) (fun i _ => x.kids.length - (intOf i).toNat)
      case atStart => exact ⟨0, Nat.zero_le _, rfl, rfl, fun j _ h => absurd h (Nat.not_lt_zero _)⟩
      case round =>
        obtain ⟨k2, hk2, rfl, hw2, hall⟩ := hrel
        have hw3 := hw2.symm
        subst hw3
        clear hw2
        have HALL := hideC hall
        clear hall
        by_cases hlt2 : k2 < x.kids.length
        · have hltz2 : (k2 : Int) < (x.kids.length : Int) := by omega
          obtain ⟨ao3, cap3, hex3, _, _⟩ := HGC.out k2 (by simpa using hlt2)
          rw [List.getElem_map] at hex3
          have g0 := hex3.c0
          clear hex3
          by_cases hk1 : (foldX x.kids[k2]).kind = 1
          · rw [hk1] at g0
            have HK1 := hideC hk1
            clear hk1
            go_wp2_with fail
            go_roundw
            case rel =>
              refine ⟨k2 + 1, by omega, by go_num, by first | trivial | rfl, fun j hj h => ?_⟩
              by_cases e : j = k2
              · subst e; exact HK1.out
              · exact HALL.out j hj (by omega)
            case measure => simp [intOf]; omega
          · have hk1b : ((foldX x.kids[k2]).kind == 1) = false := by simpa using hk1
            have HNL := hideC (show anyNL (x.kids.map foldX) = true from List.any_eq_true.2 ⟨foldX x.kids[k2], List.mem_map.2 ⟨_, List.getElem_mem hlt2, rfl⟩, by unfold isNL; simpa using hk1⟩)
            clear hk1
            generalize (foldX x.kids[k2]).kind = zk at *
            have EQ := hideC (show foldX x = ⟨x.kind, x.name, x.so, x.n, x.s, x.kids.map foldX⟩ from HFX.out.trans (foldN_same2 _ HNL.out))
            obtain ⟨zlt, z0, z1, z2, z3, z4, z5, zf⟩ := BR.out.z
            have f0 := zf 0
            have f1 := zf 1
            have f2 := zf 2
            have f3 := zf 3
            have f4 := zf 4
            have f5 := zf 5
            clear zf
            go_wp2_with fail
            refine bodyPost_ret (v := .agg #[.int .i64 x.kind, .string x.name, .int .i64 x.so, .int .i64 x.n, .string x.s, .slice (some ⟨gb, go, none⟩) x.kids.length capR]) (by simp [results, Tryz.results10, go_sem, z0, z1, z2, z3, z4, z5]) rfl ⟨?_, ?_⟩
            · rw [EQ.out]
              obtain ⟨a, c, e, hK, hB⟩ := BR.out.done (W' := (st6 W1 (w.heap.size + 1) 0 (.int .i64 x.kind) (.string x.name) (.int .i64 x.so) (.int .i64 x.n) (.string x.s) (.slice (some ⟨gb, go, none⟩) x.kids.length capR))) HBD.out (st6_size _ _ _ _ _ _ _ _ _) (fun b o hb => st6_other _ _ _ _ _ _ _ _ _ _ _ (.inl (by omega)))
              injection e with e1 _ e2
              subst e1 e2
              exact ⟨_, _, by simp [exVal], hK, hB⟩
            · have hbe := BR.out.bl
              have hsw := hbe.size
              go_grown
        · have hltz2 : ¬ (k2 : Int) < (x.kids.length : Int) := by omega
          have hkl2 : k2 = x.kids.length := by omega
          subst hkl2
          have HNL := hideC (show anyNL (x.kids.map foldX) = false from by
            cases h : anyNL (x.kids.map foldX) with
            | false => rfl
            | true =>
              obtain ⟨y, hy, hy1⟩ := List.any_eq_true.1 h
              obtain ⟨z, hz, rfl⟩ := List.mem_map.1 hy
              obtain ⟨i, hi, rfl⟩ := List.mem_iff_getElem.1 hz
              have := HALL.out i hi hi
              unfold isNL at hy1
              simp [this] at hy1)
          have cS := refSort_any [] [] none none 0 0 (d' + 1) (⟨x.kind, x.name, x.so, x.n, x.s, x.kids.map foldX⟩ : Ex) (some ⟨gb, go, none⟩) capR W1.heap.size W1 HW.out HB0.out HKA.out (ns_nil _ _) (Nat.le_refl _)
          rw [show lookS [] [] = E0 from rfl] at cS
          clear HALL HGC
          by_cases hs : (sortX E0 (⟨x.kind, x.name, x.so, x.n, x.s, x.kids.map foldX⟩ : Ex)).2 = 0
          · have EQ := hideC (show foldX x = Ex.lit (valX F0 (⟨x.kind, x.name, x.so, x.n, x.s, x.kids.map foldX⟩ : Ex)) from HFX.out.trans (foldN_new _ H3.out HNL.out hs))
            have LB := hideC (lit_bdQ (⟨x.kind, x.name, x.so, x.n, x.s, x.kids.map foldX⟩ : Ex) HW.out H3.out hs)
            have cV := fun w5 (hb5 : Below W1.heap.size W1 w5) => rval_nil (d' + 1) (⟨x.kind, x.name, x.so, x.n, x.s, x.kids.map foldX⟩ : Ex) (some ⟨gb, go, none⟩) capR W1.heap.size w5 (sortX E0 (⟨x.kind, x.name, x.so, x.n, x.s, x.kids.map foldX⟩ : Ex)).1 HW.out (inZ_of _ _ _ _ HB0.out HKA.out) HB0.out (HKA.out.keep hb5) (env_nil _ _) hb5.size (tabs_keep _ _ (tabs_keep _ _ HT.out BR.out.bl) hb5) (Prod.ext rfl hs)
            rw [show lookV [] = F0 from rfl] at cV
            rw [hs] at cS
            clear hs
            generalize valX F0 (⟨x.kind, x.name, x.so, x.n, x.s, x.kids.map foldX⟩ : Ex) = v at *
            generalize (sortX E0 (⟨x.kind, x.name, x.so, x.n, x.s, x.kids.map foldX⟩ : Ex)).1 = qs at *
            obtain ⟨vso, vn, vs⟩ := v
            simp only [exVal, vlV, List.length_nil, List.length_map] at cS cV
            have CV := hideC cV
            clear cV
            go_wp2_with fail
            refine cS.mono ?_
            rintro e w5 ⟨rfl, hb5⟩
            have BR5 := hideC (BR.out.keep hb5)
            have C5 := CV.out w5 hb5
            have p0 := BR5.out.o0
            have p1 := BR5.out.o1
            have p2 := BR5.out.o2
            have p3 := BR5.out.o3
            have p4 := BR5.out.o4
            have p5 := BR5.out.o5
            clear cS q0 q1 q2 q3 q4 q5 hb5
            go_wp2_with fail
            refine C5.mono ?_
            rintro e w6 ⟨rfl, hb6⟩
            have BR6 := hideC (BR5.out.keep hb6)
            obtain ⟨zlt, z0, z1, z2, z3, z4, z5, zf⟩ := BR6.out.z
            have f0 := zf 0
            have f1 := zf 1
            have f2 := zf 2
            have f3 := zf 3
            have f4 := zf 4
            have f5 := zf 5
            clear zf C5 p0 p1 p2 p3 p4 p5 hb6
            go_wp2_with fail
            refine bodyPost_ret (v := .agg #[.int .i64 1, .string ⟨#[]⟩, .int .i64 vso, .int .i64 vn, .string vs, .slice none 0 0]) (by simp [results, Tryz.results10, go_sem, z0, z1, z2, z3, z4, z5]) rfl ⟨by rw [EQ.out]; exact ⟨none, 0, rfl, KR.of_nil rfl, LB.out⟩, ?_⟩
            have hbe := BR6.out.bl
            have hsw := hbe.size
            go_grown
          · have hsb : ((sortX E0 (⟨x.kind, x.name, x.so, x.n, x.s, x.kids.map foldX⟩ : Ex)).2 == 0) = false := by simpa using hs
            have HS := hideC hs
            clear hs
            generalize hgs : sortX E0 (⟨x.kind, x.name, x.so, x.n, x.s, x.kids.map foldX⟩ : Ex) = sx at cS hsb
            obtain ⟨s1, s2⟩ := sx
            simp only [exVal, List.length_nil, List.length_map] at cS hsb
            go_wp2_with fail
            refine cS.mono ?_
            rintro e w5 ⟨rfl, hb5⟩
            have BR5 := hideC (BR.out.keep hb5)
            have p0 := BR5.out.o0
            have p1 := BR5.out.o1
            have p2 := BR5.out.o2
            have p3 := BR5.out.o3
            have p4 := BR5.out.o4
            have p5 := BR5.out.o5
            clear cS q0 q1 q2 q3 q4 q5 hb5 hgs
            have EQ := hideC (show foldX x = ⟨x.kind, x.name, x.so, x.n, x.s, x.kids.map foldX⟩ from HFX.out.trans (foldN_same3 _ HS.out))
            obtain ⟨zlt, z0, z1, z2, z3, z4, z5, zf⟩ := BR5.out.z
            have f0 := zf 0
            have f1 := zf 1
            have f2 := zf 2
            have f3 := zf 3
            have f4 := zf 4
            have f5 := zf 5
            clear zf
            go_wp2_with fail
            refine bodyPost_ret (v := .agg #[.int .i64 x.kind, .string x.name, .int .i64 x.so, .int .i64 x.n, .string x.s, .slice (some ⟨gb, go, none⟩) x.kids.length capR]) (by simp [results, Tryz.results10, go_sem, z0, z1, z2, z3, z4, z5]) rfl ⟨?_, ?_⟩
            · rw [EQ.out]
              obtain ⟨a, c, e, hK, hB⟩ := BR5.out.done (W' := (st6 w5 (w.heap.size + 1) 0 (.int .i64 x.kind) (.string x.name) (.int .i64 x.so) (.int .i64 x.n) (.string x.s) (.slice (some ⟨gb, go, none⟩) x.kids.length capR))) HBD.out (st6_size _ _ _ _ _ _ _ _ _) (fun b o hb => st6_other _ _ _ _ _ _ _ _ _ _ _ (.inl (by omega)))
              injection e with e1 _ e2
              subst e1 e2
              exact ⟨_, _, by simp [exVal], hK, hB⟩
            · have hbe := BR5.out.bl
              have hsw := hbe.size
              go_grown
set_option maxRecDepth 100000 in
set_option maxHeartbeats 2000000 in
theorem folded_leafQ (kd : Int) (nx : ByteArray) (so n : Int) (s : ByteArray) (ao : Option Addr) (cap : Nat) (w : World) (h : kd ≠ 3) :
    Calls Tryz.prog 10 #[exVal ⟨kd, nx, so, n, s, []⟩ ao cap] w fun e w' => e = .returned (exVal ⟨kd, nx, so, n, s, []⟩ none 0) ∧ Below w.heap.size w w' := by
  simp only [exVal, List.length_nil]
  have hb : (kd == 3) = false := by simpa using h
  clear h
  go_enter Tryz.func10, Tryz.ntmps10
  go_wp2_with fail
  go_loopw [4] (fun i wr => i = .int .i64 0 ∧ wr = (((w.alloc (.cells #[.int .i64 kd, .string nx, .int .i64 so, .int .i64 n, .string s, .slice ao 0 cap] 26)).alloc (.cells #[.int .i64 0, .string ⟨#[]⟩, .int .i64 0, .int .i64 0, .string ⟨#[]⟩, .slice none 0 0] 26)).alloc (.cells #[.int .i64 kd, .string nx, .int .i64 so, .int .i64 n, .string s, .slice none 0 0] 26))) (fun _ _ => 0)
  case atStart => exact ⟨rfl, rfl⟩
  case round =>
    obtain ⟨rfl, rfl⟩ := hrel
    go_wp2_with fail
    refine bodyPost_ret (v := .agg #[.int .i64 kd, .string nx, .int .i64 so, .int .i64 n, .string s, .slice none 0 0]) (by simp [results, Tryz.results10, go_sem]) rfl ⟨rfl, ?_⟩
    go_grown
theorem folded_allQ (d : Nat) : FDSaid d := by
  induction d using Nat.strongRecOn with
  | _ d ih =>
    intro x ao cap B w hw hbd hka hB hT
    have none_case : x.kids = [] → x.kind ≠ 3 → Calls Tryz.prog 10 #[exVal x ao cap] w fun e w' => (∃ ao' cap', e = .returned (exVal (foldX x) ao' cap') ∧ KR w' (fun b => w.heap.size ≤ b ∧ b < w'.heap.size) d (foldX x).kids ao' ∧ ExBd (foldX x) cap') ∧ Below w.heap.size w w' := by
      intro hk hn
      rw [fold_leaf x hn hk]
      obtain ⟨kd, nx, so, n, s, ks⟩ := x
      simp only at hk hn
      subst hk
      exact (folded_leafQ kd nx so n s ao cap w hn).mono fun e w' ⟨h1, h2⟩ => ⟨⟨none, 0, h1, KR.of_nil rfl, hbd.name, hbd.s, hbd.n0, hbd.n1, Nat.le_refl _, by decide⟩, h2⟩
    rcases wf_cases x hw with ⟨h, hk, _⟩ | ⟨h, hk, _⟩ | ⟨h, a, hk, _, _⟩ | ⟨h, a, a2, hk, _, _, _⟩
    · exact none_case hk (by omega)
    · exact none_case hk (by omega)
    · exact folded_kidsQ d ih x ao cap B w hw hbd hka hB hT h (by rw [hk]; simp) (by rw [hk]; simp)
    · exact folded_kidsQ d ih x ao cap B w hw hbd hka hB hT h (by rw [hk]; simp) (by rw [hk]; simp)
end Go.Proofs.YtecapnipkngniaaGreatDoor
