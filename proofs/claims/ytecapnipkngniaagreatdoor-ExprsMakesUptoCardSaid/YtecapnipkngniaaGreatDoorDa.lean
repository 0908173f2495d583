/-
  The contract of duetref.Placed, for every right expression.
-/
import Derived.Test.YtecapnipkngniaaGreatDoorCz
import Derived.Test.YtecapnipkngniaaGreatDoorPb
import Derived.Test.YtecapnipkngniaaGreatDoorRa
import Derived.WalkKit
namespace Go.Proofs.YtecapnipkngniaaGreatDoor
open Go.RowKit Go.Shelf

theorem slice_ownQ {W : World} {base : Nat} {e : TypeId} {size : Nat} {v : Value} {n : Nat} {xs : List Value} (h : W.ownsRow base e size v n xs) : ∃ a m c, v = .slice a m c := by
  rcases h.2 with ⟨rfl, _⟩ | ⟨g, cap, cur, rfl, _⟩
  · exact ⟨_, _, _, rfl⟩
  · exact ⟨_, _, _, rfl⟩
theorem BL.box {w : World} {x : Ex} {ao : Option Addr} {cap : Nat} {G : Ex → Ex} {d zb pb k : Nat} {tks : List Tk} {u : Value} {W : World} (h : BL w x ao cap G d zb pb k tks u W) {so n : Int} {s : ByteArray} (hx : Box W (w.heap.size + 1) so n s) {ob : Obj} {W4 : World} {u4 : Value} (hg : (W.alloc ob).grownBy W4 u.ownBlock) (hp : w.heap.size + 1 < pb) : Box (W4.setCell ⟨pb, 5, none⟩ u4) (w.heap.size + 1) so n s := by
  have hl := hx.lt
  have hs : W.heap.size < W4.heap.size := by have := hg.size; simp at this; omega
  have hc : ∀ o, (W4.setCell ⟨pb, 5, none⟩ u4).cell? ⟨w.heap.size + 1, o, none⟩ = W.cell? ⟨w.heap.size + 1, o, none⟩ := fun o =>
    (World.cell?_setCell_other _ _ _ _ (by intro c; injection c; omega)).trans (World.cell?_of_block (a := ⟨w.heap.size + 1, o, none⟩) ((hg.block (w.heap.size + 1) (by simp; omega) (fun e => by have := (h.own.lt _ e.symm).1; omega)).trans (heap_alloc_old W ob hl)))
  exact ⟨by simp; omega, (hc 0).trans hx.c0, (hc 1).trans hx.c1, (hc 2).trans hx.c2⟩
theorem BL.start {w : World} {x : Ex} {ao : Option Addr} {cap : Nat} (G : Ex → Ex) (d : Nat) {zb pb : Nat} {V : World} (hx : ExAt V w.heap.size 0 x ao cap) (hz : ZE V zb) (hp : V.heap.size = pb) (h1 : w.heap.size ≤ zb) (h2 : zb < pb) (h3 : w.heap.size < pb) (hb : Below w.heap.size w V) :
    BL w x ao cap G d zb pb 0 [] (.slice none 0 0) (V.alloc (.cells #[.int .i64 x.kind, .string x.name, .int .i64 x.so, .int .i64 x.n, .string x.s, .slice none 0 0] 26)) := by
  subst hp
  exact ⟨hx.keepO (fun o => World.cell?_alloc_past _ _ _ h3), hz.keep ((Below.refl _ _).alloc (Nat.le_refl _) _), by go_cell, by go_cell, by go_cell, by go_cell, by go_cell, by go_cell, fun o => by go_simp, h1, h2, h3, by simp, World.ownsRow_nil _ _ _ _, rfl, fun t ht => (by cases ht), hb.alloc hb.size _⟩
/-- what duetref.Placed is promised to do at a depth -/
def PLSaid (nm : ByteArray) (v : Vl) (d : Nat) : Prop := ∀ (x : Ex) (ao : Option Addr) (cap B : Nat) (w : World), wfX x → ExBd x cap → KA w B d x.kids ao → B ≤ w.heap.size →
  Calls Tryz.prog 9 #[exVal x ao cap, .string nm, vlV v] w fun e w' => (∃ ao' cap', e = .returned (exVal (putX nm v x) ao' cap') ∧ KR w' (fun b => w.heap.size ≤ b ∧ b < w'.heap.size) d (putX nm v x).kids ao' ∧ ExBd (putX nm v x) cap') ∧ Below w.heap.size w w'
set_option maxRecDepth 100000 in
set_option maxHeartbeats 8000000 in
theorem placed_kids (nm : ByteArray) (v : Vl) (d : Nat) (ih : ∀ d', d' < d → PLSaid nm v d') (x : Ex) (ao : Option Addr) (cap B : Nat) (w : World) (hw : wfX x) (hbd : ExBd x cap) (hka : KA w B d x.kids ao) (hB : B ≤ w.heap.size) (h3 : x.kind = 3) (l1 : 1 ≤ x.kids.length) (l2 : x.kids.length ≤ 2) :
    Calls Tryz.prog 9 #[exVal x ao cap, .string nm, vlV v] w fun e w' => (∃ ao' cap', e = .returned (exVal (putX nm v x) ao' cap') ∧ KR w' (fun b => w.heap.size ≤ b ∧ b < w'.heap.size) d (putX nm v x).kids ao' ∧ ExBd (putX nm v x) cap') ∧ Below w.heap.size w w' := by
  obtain ⟨i0, hi, hz0, hz1, hz2⟩ := info_parts infoEx
  have HPX := hideC (show putX nm v x = ⟨x.kind, x.name, x.so, x.n, x.s, x.kids.map (putX nm v)⟩ by rw [putX_eq]; unfold putN; rw [if_neg (fun h => by have := h.1; simp at this; omega)])
  obtain ⟨d', rfl⟩ : ∃ d', d = d' + 1 := by
    cases d with
    | zero => simp only [KA] at hka; rw [hka] at l1; simp at l1
    | succ d' => exact ⟨d', rfl⟩
  rcases hka with e | ⟨b, o, rfl, hbB, hcell⟩
  · rw [e] at l1; simp at l1
  have hbw : b < w.heap.size := Nat.lt_of_lt_of_le hbB hB
  have cK : ∀ i (hi : i < x.kids.length), ∃ ao' cap', ExAt w b (o + i * 6) x.kids[i] ao' cap' ∧ ∀ W, Below w.heap.size w W → Calls Tryz.prog 9 #[exVal x.kids[i] ao' cap', .string nm, vlV v] W fun e w' => (∃ ao2 cap2, e = .returned (exVal (putX nm v x.kids[i]) ao2 cap2) ∧ KR w' (fun b => W.heap.size ≤ b ∧ b < w'.heap.size) d' (putX nm v x.kids[i]).kids ao2 ∧ ExBd (putX nm v x.kids[i]) cap2) ∧ Below W.heap.size W w' := by
    intro i hi
    obtain ⟨ao', cap', h1, h2, h4⟩ := hcell i hi
    exact ⟨ao', cap', h1, fun W hW => ih d' (by omega) x.kids[i] ao' cap' B W (((wfX_eq x).1 hw).2.2 _ (List.getElem_mem hi)) h2 (h4.keep (hW.mono hB)) (Nat.le_trans hB hW.size)⟩
  have CK := hideC cK
  have HBD := hideC hbd
  rw [HPX.out]
  clear cK hcell ih hw hbd
  simp only [exVal, vlV]
  have hkb : (x.kind == 2) = false := by rw [h3]; rfl
  clear h3
  have A1 : Below w.heap.size w (w.alloc (.cells #[.int .i64 x.kind, .string x.name, .int .i64 x.so, .int .i64 x.n, .string x.s, .slice (some ⟨b, o, none⟩) x.kids.length cap] 26)) := (Below.refl _ _).alloc (Nat.le_refl _) _
  have s1 : (w.alloc (.cells #[.int .i64 x.kind, .string x.name, .int .i64 x.so, .int .i64 x.n, .string x.s, .slice (some ⟨b, o, none⟩) x.kids.length cap] 26)).heap.size = w.heap.size + 1 := by simp
  have xa : ExAt (w.alloc (.cells #[.int .i64 x.kind, .string x.name, .int .i64 x.so, .int .i64 x.n, .string x.s, .slice (some ⟨b, o, none⟩) x.kids.length cap] 26)) w.heap.size 0 x (some ⟨b, o, none⟩) cap := ⟨by go_cell, by go_cell, by go_cell, by go_cell, by go_cell, by go_cell⟩
  have vb := Box.new (w.alloc (.cells #[.int .i64 x.kind, .string x.name, .int .i64 x.so, .int .i64 x.n, .string x.s, .slice (some ⟨b, o, none⟩) x.kids.length cap] 26)) v.so v.n v.s 23
  rw [s1] at vb
  have hA : ∀ (W : World) ob, Below W.heap.size W (W.alloc ob) := fun W ob => (Below.refl _ _).alloc (Nat.le_refl _) _
  have s2 : ((w.alloc (.cells #[.int .i64 x.kind, .string x.name, .int .i64 x.so, .int .i64 x.n, .string x.s, .slice (some ⟨b, o, none⟩) x.kids.length cap] 26)).alloc (.cells #[.int .i64 v.so, .int .i64 v.n, .string v.s] 23)).heap.size = w.heap.size + 1 + 1 := by simp
  have z1 := ZE.new ((w.alloc (.cells #[.int .i64 x.kind, .string x.name, .int .i64 x.so, .int .i64 x.n, .string x.s, .slice (some ⟨b, o, none⟩) x.kids.length cap] 26)).alloc (.cells #[.int .i64 v.so, .int .i64 v.n, .string v.s] 23)) 26
  rw [s2] at z1
  have s3 : (((w.alloc (.cells #[.int .i64 x.kind, .string x.name, .int .i64 x.so, .int .i64 x.n, .string x.s, .slice (some ⟨b, o, none⟩) x.kids.length cap] 26)).alloc (.cells #[.int .i64 v.so, .int .i64 v.n, .string v.s] 23)).alloc (.cells #[.int .i64 0, .string ⟨#[]⟩, .int .i64 0, .int .i64 0, .string ⟨#[]⟩, .slice none 0 0] 26)).heap.size = w.heap.size + 1 + 1 + 1 := by simp
  have B3 : Below (w.heap.size + 1) (w.alloc (.cells #[.int .i64 x.kind, .string x.name, .int .i64 x.so, .int .i64 x.n, .string x.s, .slice (some ⟨b, o, none⟩) x.kids.length cap] 26)) (((w.alloc (.cells #[.int .i64 x.kind, .string x.name, .int .i64 x.so, .int .i64 x.n, .string x.s, .slice (some ⟨b, o, none⟩) x.kids.length cap] 26)).alloc (.cells #[.int .i64 v.so, .int .i64 v.n, .string v.s] 23)).alloc (.cells #[.int .i64 0, .string ⟨#[]⟩, .int .i64 0, .int .i64 0, .string ⟨#[]⟩, .slice none 0 0] 26)) := (((Below.refl _ _).alloc (by omega) _).alloc (by omega) _)
  have S0 := hideC (BL.start (putX nm v) d' (xa.keep B3 (by omega)) z1 s3 (by omega) (by omega) (by omega) (A1.trans (B3.mono (by omega))))
  have X0 := hideC ((vb.keep (hA _ (.cells #[.int .i64 0, .string ⟨#[]⟩, .int .i64 0, .int .i64 0, .string ⟨#[]⟩, .slice none 0 0] 26))).keep (hA _ (.cells #[.int .i64 x.kind, .string x.name, .int .i64 x.so, .int .i64 x.n, .string x.s, .slice none 0 0] 26)))
  clear A1 xa vb z1 B3 s1 s2 s3 hA
  go_enter Tryz.func9, Tryz.ntmps9
  go_wp2_with fail
  go_loopw [8] (fun i wr => ∃ (k : Nat) (tks : List Tk) (u : Value), k ≤ x.kids.length ∧ i = .int .i64 (k : Int) ∧ BL w x (some ⟨b, o, none⟩) cap (putX nm v) d' (w.heap.size + 1 + 1) (w.heap.size + 1 + 1 + 1) k tks u wr ∧ Box wr (w.heap.size + 1) v.so v.n v.s) (fun i _ => x.kids.length - (intOf i).toNat)
  case atStart => exact ⟨0, [], .slice none 0 0, Nat.zero_le _, rfl, S0.out, X0.out⟩
  case round =>
    obtain ⟨k, tks, u, hk, rfl, hBL, hXB⟩ := hrel
    clear S0 X0
    obtain ⟨_, _, _, _, _, x5⟩ := id hBL.xa
    simp only [Nat.zero_add] at x5
    have BR := hideC hBL
    have XR := hideC hXB
    by_cases hlt : k < x.kids.length
    · have hltz : (k : Int) < (x.kids.length : Int) := by omega
      obtain ⟨aok, capk, hex, hcall⟩ := CK.out k hlt
      have CF := hideC hcall
      obtain ⟨c0, c1, c2, c3, c4, c5⟩ := hex.keep hBL.bl hbw
      obtain ⟨_, b0, b1, b2⟩ := hXB
      have o5 := hBL.o5
      clear hex hcall hBL
      generalize hy : putX nm v x.kids[k] = y at CF
      have HY : Hid (y = putX nm v x.kids[k]) := hy.symm
      clear hy
      simp only [exVal, vlV] at CF
      go_wp2_with fail
      refine wp_region_any (by kernel_rfl) ?_
      change wpAny _ _ _ _ _ _ _ (World.drew _)
      refine wpAny_take (i := 0) (v := (.pointer (some ⟨w.heap.size + 1 + 1 + 1, 5, none⟩))) rfl (by kernel_rfl) (by kernel_rfl) (by kernel_rfl) (fun _ _ _ h => h) (Or.inl ⟨by rfl, fun w => by go_simp⟩) ?_
      refine wpAny_take (i := 2) (v := (.pointer (some ⟨w.heap.size, 5, none⟩))) rfl (by kernel_rfl) (by kernel_rfl) (by kernel_rfl) (fun _ _ _ h => h) (Or.inl ⟨by rfl, fun w => by go_simp⟩) ?_
      refine wpAny_take (i := 4) (v := (.int .i64 (k : Int))) rfl (by kernel_rfl) (by kernel_rfl) (by kernel_rfl) (fun _ _ _ h => h) (Or.inl ⟨by rfl, fun w => by go_simp⟩) ?_
      refine wpAny_take (i := 7) (v := (.string nm)) rfl (by kernel_rfl) (by kernel_rfl) (by kernel_rfl) (fun _ _ _ h => h) (Or.inl ⟨by rfl, fun w => by go_simp⟩) ?_
      refine wpAny_ready (rs := [1, 3, 8]) (by kernel_rfl) (by simp) ?_
      refine (AllReady.cons rfl (fun K hK => ?_) (AllReady.cons rfl (fun K hK => ?_) (AllReady.cons rfl (fun K hK => ?_) AllReady.nil)))
      · go_simp
        refine hK _ _ ?_
        clear hK K
        refine wpAny_ready (rs := [3, 8]) (by kernel_rfl) (by simp) ?_
        refine (AllReady.cons rfl (fun K hK => ?_) (AllReady.cons rfl (fun K hK => ?_) AllReady.nil))
        · go_simp
          refine hK _ _ ?_
          clear hK K
          refine wpAny_ready (rs := [5, 8]) (by kernel_rfl) (by simp) ?_
          refine (AllReady.cons rfl (fun K hK => ?_) (AllReady.cons rfl (fun K hK => ?_) AllReady.nil))
          · go_simp
            refine hK _ _ ?_
            clear hK K
            refine wpAny_ready (rs := [6, 8]) (by kernel_rfl) (by simp) ?_
            refine (AllReady.cons rfl (fun K hK => ?_) (AllReady.cons rfl (fun K hK => ?_) AllReady.nil))
            · go_simp
              refine hK _ _ ?_
              clear hK K
              refine take_oneB 8 (AllReady.cons rfl (fun K hK => ?_) AllReady.nil) (by kernel_rfl)
              go_simp
              refine hK _ _ ?_
              clear hK K
              refine take_oneB 9 (AllReady.cons rfl (fun K hK => ?_) AllReady.nil) (by kernel_rfl)
              go_simp
              refine (CF.out _ (BR.out.bl.drew)).mono ?_
              rintro e w2 ⟨⟨ao2, cap2, rfl, hkr2, hbd2⟩, hb2⟩
              have C2 := hideC ((BR.out.keep (Below.refl _ _).drew).keep hb2)
              have X2 := hideC ((XR.out.keep (Below.refl _ _).drew).keep hb2)
              have KR2 := hideC hkr2
              have BD2 := hideC hbd2
              have SZ2 := hideC hb2.size
              have d5 := C2.out.o5
              have hl2 := C2.out.pl
              have e5 : (w2.alloc (.cells #[.int .i64 y.kind, .string y.name, .int .i64 y.so, .int .i64 y.n, .string y.s, .slice ao2 y.kids.length cap2] 26)).cell? ⟨w.heap.size + 1 + 1 + 1, 5, none⟩ = some u := (World.cell?_alloc_past _ _ _ C2.out.pl).trans C2.out.o5
              have L3 := hideC (World.ownsRow_lit (base := w.heap.size + 1 + 1 + 1 + 1) (e := 26) (size := 6) w2 #[.int .i64 y.kind, .string y.name, .int .i64 y.so, .int .i64 y.n, .string y.s, .slice ao2 y.kids.length cap2] 1 C2.out.pl (by decide) rfl)
              have U3 := hideC (own_below C2.out.own ((Below.refl _ _).alloc (Nat.le_refl _) (.cells #[.int .i64 y.kind, .string y.name, .int .i64 y.so, .int .i64 y.n, .string y.s, .slice ao2 y.kids.length cap2] 26)))
              clear hkr2 hbd2 hb2
              refine hK _ _ ?_
              clear hK K
              refine take_oneB 10 (AllReady.cons rfl (fun K hK => ?_) AllReady.nil) (by kernel_rfl)
              go_simp
              refine hK _ _ ?_
              clear hK K
              refine take_oneB 11 (AllReady.cons rfl (fun K hK => ?_) AllReady.nil) (by kernel_rfl)
              refine step_append_rows _ rfl _ _ 24 rfl (w.heap.size + 1 + 1 + 1 + 1) (w.heap.size + 1 + 1 + 1 + 1) 26 i0 _ 6 80 Tryz.underlying24 hi hz0 hz1 hz2 rfl (by decide) _ _ _ rfl U3.out _ _ _ rfl L3.out (eCs_one [(y, ao2, cap2)]) (by unfold maxLen; omega) (by omega) (by simp; omega) ?_
              intro u4 w4 hO4 hg4 hn4
              replace hg4 : (w2.alloc (.cells #[.int .i64 y.kind, .string y.name, .int .i64 y.so, .int .i64 y.n, .string y.s, .slice ao2 y.kids.length cap2] 26)).grownBy w4 u.ownBlock := hg4
              replace hn4 : u4.ownBlock = u.ownBlock ∨ u4.ownBlock = some (w2.alloc (.cells #[.int .i64 y.kind, .string y.name, .int .i64 y.so, .int .i64 y.n, .string y.s, .slice ao2 y.kids.length cap2] 26)).heap.size := hn4
              have C4 := hideC (C2.out.add (y, ao2, cap2) hlt HY.out BD2.out _ KR2.out (fun g hg => (BR.out.own.lt g hg).2) BR.out.pl hg4 hO4 hn4)
              have X4 := hideC (C2.out.box X2.out (u4 := u4) hg4 (by omega))
              have hb4 : w4.heap[w.heap.size + 1 + 1 + 1]? = w2.heap[w.heap.size + 1 + 1 + 1]? := (hg4.block _ (by simp; omega) (fun e => by have := (C2.out.own.lt _ e.symm).1; omega)).trans (heap_alloc_old w2 (.cells #[.int .i64 y.kind, .string y.name, .int .i64 y.so, .int .i64 y.n, .string y.s, .slice ao2 y.kids.length cap2] 26) C2.out.pl)
              have g5 := (World.cell?_of_block (a := ⟨w.heap.size + 1 + 1 + 1, 5, none⟩) hb4).trans C2.out.o5
              have gf5 := (World.frozen?_of_block (a := ⟨w.heap.size + 1 + 1 + 1, 5, none⟩) hb4).trans (C2.out.fr 5)
              obtain ⟨a4, n4, cp4, rfl⟩ := slice_ownQ hO4
              clear hO4 hg4 hn4 hb4
              refine hK _ _ ?_
              clear hK K
              refine take_oneB 12 (AllReady.cons rfl (fun K hK => ?_) AllReady.nil) (by kernel_rfl)
              go_simp
              refine hK _ _ ?_
              clear hK K
              refine take_oneB 13 (AllReady.cons rfl (fun K hK => ?_) AllReady.nil) (by kernel_rfl)
              go_simp
              refine hK _ _ ?_
              clear hK K
              refine wpAny_done (by kernel_rfl) ?_ _
              go_wp2_with fail
              go_roundw
              case rel => exact ⟨k + 1, tks ++ [(y, ao2, cap2)], _, by omega, by go_num, C4.out, X4.out⟩
              case measure => simp [intOf]; omega
            · go_simp
              refine hK _ _ ?_
              clear hK K
              refine take_oneB 6 (AllReady.cons rfl (fun K hK => ?_) AllReady.nil) (by kernel_rfl)
              go_simp
              refine hK _ _ ?_
              clear hK K
              refine take_oneB 9 (AllReady.cons rfl (fun K hK => ?_) AllReady.nil) (by kernel_rfl)
              go_simp
              refine (CF.out _ (BR.out.bl.drew)).mono ?_
              rintro e w2 ⟨⟨ao2, cap2, rfl, hkr2, hbd2⟩, hb2⟩
              have C2 := hideC ((BR.out.keep (Below.refl _ _).drew).keep hb2)
              have X2 := hideC ((XR.out.keep (Below.refl _ _).drew).keep hb2)
              have KR2 := hideC hkr2
              have BD2 := hideC hbd2
              have SZ2 := hideC hb2.size
              have d5 := C2.out.o5
              have hl2 := C2.out.pl
              have e5 : (w2.alloc (.cells #[.int .i64 y.kind, .string y.name, .int .i64 y.so, .int .i64 y.n, .string y.s, .slice ao2 y.kids.length cap2] 26)).cell? ⟨w.heap.size + 1 + 1 + 1, 5, none⟩ = some u := (World.cell?_alloc_past _ _ _ C2.out.pl).trans C2.out.o5
              have L3 := hideC (World.ownsRow_lit (base := w.heap.size + 1 + 1 + 1 + 1) (e := 26) (size := 6) w2 #[.int .i64 y.kind, .string y.name, .int .i64 y.so, .int .i64 y.n, .string y.s, .slice ao2 y.kids.length cap2] 1 C2.out.pl (by decide) rfl)
              have U3 := hideC (own_below C2.out.own ((Below.refl _ _).alloc (Nat.le_refl _) (.cells #[.int .i64 y.kind, .string y.name, .int .i64 y.so, .int .i64 y.n, .string y.s, .slice ao2 y.kids.length cap2] 26)))
              clear hkr2 hbd2 hb2
              refine hK _ _ ?_
              clear hK K
              refine take_oneB 10 (AllReady.cons rfl (fun K hK => ?_) AllReady.nil) (by kernel_rfl)
              go_simp
              refine hK _ _ ?_
              clear hK K
              refine take_oneB 11 (AllReady.cons rfl (fun K hK => ?_) AllReady.nil) (by kernel_rfl)
              refine step_append_rows _ rfl _ _ 24 rfl (w.heap.size + 1 + 1 + 1 + 1) (w.heap.size + 1 + 1 + 1 + 1) 26 i0 _ 6 80 Tryz.underlying24 hi hz0 hz1 hz2 rfl (by decide) _ _ _ rfl U3.out _ _ _ rfl L3.out (eCs_one [(y, ao2, cap2)]) (by unfold maxLen; omega) (by omega) (by simp; omega) ?_
              intro u4 w4 hO4 hg4 hn4
              replace hg4 : (w2.alloc (.cells #[.int .i64 y.kind, .string y.name, .int .i64 y.so, .int .i64 y.n, .string y.s, .slice ao2 y.kids.length cap2] 26)).grownBy w4 u.ownBlock := hg4
              replace hn4 : u4.ownBlock = u.ownBlock ∨ u4.ownBlock = some (w2.alloc (.cells #[.int .i64 y.kind, .string y.name, .int .i64 y.so, .int .i64 y.n, .string y.s, .slice ao2 y.kids.length cap2] 26)).heap.size := hn4
              have C4 := hideC (C2.out.add (y, ao2, cap2) hlt HY.out BD2.out _ KR2.out (fun g hg => (BR.out.own.lt g hg).2) BR.out.pl hg4 hO4 hn4)
              have X4 := hideC (C2.out.box X2.out (u4 := u4) hg4 (by omega))
              have hb4 : w4.heap[w.heap.size + 1 + 1 + 1]? = w2.heap[w.heap.size + 1 + 1 + 1]? := (hg4.block _ (by simp; omega) (fun e => by have := (C2.out.own.lt _ e.symm).1; omega)).trans (heap_alloc_old w2 (.cells #[.int .i64 y.kind, .string y.name, .int .i64 y.so, .int .i64 y.n, .string y.s, .slice ao2 y.kids.length cap2] 26) C2.out.pl)
              have g5 := (World.cell?_of_block (a := ⟨w.heap.size + 1 + 1 + 1, 5, none⟩) hb4).trans C2.out.o5
              have gf5 := (World.frozen?_of_block (a := ⟨w.heap.size + 1 + 1 + 1, 5, none⟩) hb4).trans (C2.out.fr 5)
              obtain ⟨a4, n4, cp4, rfl⟩ := slice_ownQ hO4
              clear hO4 hg4 hn4 hb4
              refine hK _ _ ?_
              clear hK K
              refine take_oneB 12 (AllReady.cons rfl (fun K hK => ?_) AllReady.nil) (by kernel_rfl)
              go_simp
              refine hK _ _ ?_
              clear hK K
              refine take_oneB 13 (AllReady.cons rfl (fun K hK => ?_) AllReady.nil) (by kernel_rfl)
              go_simp
              refine hK _ _ ?_
              clear hK K
              refine wpAny_done (by kernel_rfl) ?_ _
              go_wp2_with fail
              go_roundw
              case rel => exact ⟨k + 1, tks ++ [(y, ao2, cap2)], _, by omega, by go_num, C4.out, X4.out⟩
              case measure => simp [intOf]; omega
          · go_simp
            refine hK _ _ ?_
            clear hK K
            refine take_oneB 5 (AllReady.cons rfl (fun K hK => ?_) AllReady.nil) (by kernel_rfl)
            go_simp
            refine hK _ _ ?_
            clear hK K
            refine take_oneB 6 (AllReady.cons rfl (fun K hK => ?_) AllReady.nil) (by kernel_rfl)
            go_simp
            refine hK _ _ ?_
            clear hK K
            refine take_oneB 9 (AllReady.cons rfl (fun K hK => ?_) AllReady.nil) (by kernel_rfl)
            go_simp
            refine (CF.out _ (BR.out.bl.drew)).mono ?_
            rintro e w2 ⟨⟨ao2, cap2, rfl, hkr2, hbd2⟩, hb2⟩
            have C2 := hideC ((BR.out.keep (Below.refl _ _).drew).keep hb2)
            have X2 := hideC ((XR.out.keep (Below.refl _ _).drew).keep hb2)
            have KR2 := hideC hkr2
            have BD2 := hideC hbd2
            have SZ2 := hideC hb2.size
            have d5 := C2.out.o5
            have hl2 := C2.out.pl
            have e5 : (w2.alloc (.cells #[.int .i64 y.kind, .string y.name, .int .i64 y.so, .int .i64 y.n, .string y.s, .slice ao2 y.kids.length cap2] 26)).cell? ⟨w.heap.size + 1 + 1 + 1, 5, none⟩ = some u := (World.cell?_alloc_past _ _ _ C2.out.pl).trans C2.out.o5
            have L3 := hideC (World.ownsRow_lit (base := w.heap.size + 1 + 1 + 1 + 1) (e := 26) (size := 6) w2 #[.int .i64 y.kind, .string y.name, .int .i64 y.so, .int .i64 y.n, .string y.s, .slice ao2 y.kids.length cap2] 1 C2.out.pl (by decide) rfl)
            have U3 := hideC (own_below C2.out.own ((Below.refl _ _).alloc (Nat.le_refl _) (.cells #[.int .i64 y.kind, .string y.name, .int .i64 y.so, .int .i64 y.n, .string y.s, .slice ao2 y.kids.length cap2] 26)))
            clear hkr2 hbd2 hb2
            refine hK _ _ ?_
            clear hK K
            refine take_oneB 10 (AllReady.cons rfl (fun K hK => ?_) AllReady.nil) (by kernel_rfl)
            go_simp
            refine hK _ _ ?_
            clear hK K
            refine take_oneB 11 (AllReady.cons rfl (fun K hK => ?_) AllReady.nil) (by kernel_rfl)
            refine step_append_rows _ rfl _ _ 24 rfl (w.heap.size + 1 + 1 + 1 + 1) (w.heap.size + 1 + 1 + 1 + 1) 26 i0 _ 6 80 Tryz.underlying24 hi hz0 hz1 hz2 rfl (by decide) _ _ _ rfl U3.out _ _ _ rfl L3.out (eCs_one [(y, ao2, cap2)]) (by unfold maxLen; omega) (by omega) (by simp; omega) ?_
            intro u4 w4 hO4 hg4 hn4
            replace hg4 : (w2.alloc (.cells #[.int .i64 y.kind, .string y.name, .int .i64 y.so, .int .i64 y.n, .string y.s, .slice ao2 y.kids.length cap2] 26)).grownBy w4 u.ownBlock := hg4
            replace hn4 : u4.ownBlock = u.ownBlock ∨ u4.ownBlock = some (w2.alloc (.cells #[.int .i64 y.kind, .string y.name, .int .i64 y.so, .int .i64 y.n, .string y.s, .slice ao2 y.kids.length cap2] 26)).heap.size := hn4
            have C4 := hideC (C2.out.add (y, ao2, cap2) hlt HY.out BD2.out _ KR2.out (fun g hg => (BR.out.own.lt g hg).2) BR.out.pl hg4 hO4 hn4)
            have X4 := hideC (C2.out.box X2.out (u4 := u4) hg4 (by omega))
            have hb4 : w4.heap[w.heap.size + 1 + 1 + 1]? = w2.heap[w.heap.size + 1 + 1 + 1]? := (hg4.block _ (by simp; omega) (fun e => by have := (C2.out.own.lt _ e.symm).1; omega)).trans (heap_alloc_old w2 (.cells #[.int .i64 y.kind, .string y.name, .int .i64 y.so, .int .i64 y.n, .string y.s, .slice ao2 y.kids.length cap2] 26) C2.out.pl)
            have g5 := (World.cell?_of_block (a := ⟨w.heap.size + 1 + 1 + 1, 5, none⟩) hb4).trans C2.out.o5
            have gf5 := (World.frozen?_of_block (a := ⟨w.heap.size + 1 + 1 + 1, 5, none⟩) hb4).trans (C2.out.fr 5)
            obtain ⟨a4, n4, cp4, rfl⟩ := slice_ownQ hO4
            clear hO4 hg4 hn4 hb4
            refine hK _ _ ?_
            clear hK K
            refine take_oneB 12 (AllReady.cons rfl (fun K hK => ?_) AllReady.nil) (by kernel_rfl)
            go_simp
            refine hK _ _ ?_
            clear hK K
            refine take_oneB 13 (AllReady.cons rfl (fun K hK => ?_) AllReady.nil) (by kernel_rfl)
            go_simp
            refine hK _ _ ?_
            clear hK K
            refine wpAny_done (by kernel_rfl) ?_ _
            go_wp2_with fail
            go_roundw
            case rel => exact ⟨k + 1, tks ++ [(y, ao2, cap2)], _, by omega, by go_num, C4.out, X4.out⟩
            case measure => simp [intOf]; omega
        · go_simp
          refine hK _ _ ?_
          clear hK K
          refine take_oneB 3 (AllReady.cons rfl (fun K hK => ?_) AllReady.nil) (by kernel_rfl)
          go_simp
          refine hK _ _ ?_
          clear hK K
          refine take_oneB 5 (AllReady.cons rfl (fun K hK => ?_) AllReady.nil) (by kernel_rfl)
          go_simp
          refine hK _ _ ?_
          clear hK K
          refine take_oneB 6 (AllReady.cons rfl (fun K hK => ?_) AllReady.nil) (by kernel_rfl)
          go_simp
          refine hK _ _ ?_
          clear hK K
          refine take_oneB 9 (AllReady.cons rfl (fun K hK => ?_) AllReady.nil) (by kernel_rfl)
          go_simp
          refine (CF.out _ (BR.out.bl.drew)).mono ?_
          rintro e w2 ⟨⟨ao2, cap2, rfl, hkr2, hbd2⟩, hb2⟩
          have C2 := hideC ((BR.out.keep (Below.refl _ _).drew).keep hb2)
          have X2 := hideC ((XR.out.keep (Below.refl _ _).drew).keep hb2)
          have KR2 := hideC hkr2
          have BD2 := hideC hbd2
          have SZ2 := hideC hb2.size
          have d5 := C2.out.o5
          have hl2 := C2.out.pl
          have e5 : (w2.alloc (.cells #[.int .i64 y.kind, .string y.name, .int .i64 y.so, .int .i64 y.n, .string y.s, .slice ao2 y.kids.length cap2] 26)).cell? ⟨w.heap.size + 1 + 1 + 1, 5, none⟩ = some u := (World.cell?_alloc_past _ _ _ C2.out.pl).trans C2.out.o5
          have L3 := hideC (World.ownsRow_lit (base := w.heap.size + 1 + 1 + 1 + 1) (e := 26) (size := 6) w2 #[.int .i64 y.kind, .string y.name, .int .i64 y.so, .int .i64 y.n, .string y.s, .slice ao2 y.kids.length cap2] 1 C2.out.pl (by decide) rfl)
          have U3 := hideC (own_below C2.out.own ((Below.refl _ _).alloc (Nat.le_refl _) (.cells #[.int .i64 y.kind, .string y.name, .int .i64 y.so, .int .i64 y.n, .string y.s, .slice ao2 y.kids.length cap2] 26)))
          clear hkr2 hbd2 hb2
          refine hK _ _ ?_
          clear hK K
          refine take_oneB 10 (AllReady.cons rfl (fun K hK => ?_) AllReady.nil) (by kernel_rfl)
          go_simp
          refine hK _ _ ?_
          clear hK K
          refine take_oneB 11 (AllReady.cons rfl (fun K hK => ?_) AllReady.nil) (by kernel_rfl)
          refine step_append_rows _ rfl _ _ 24 rfl (w.heap.size + 1 + 1 + 1 + 1) (w.heap.size + 1 + 1 + 1 + 1) 26 i0 _ 6 80 Tryz.underlying24 hi hz0 hz1 hz2 rfl (by decide) _ _ _ rfl U3.out _ _ _ rfl L3.out (eCs_one [(y, ao2, cap2)]) (by unfold maxLen; omega) (by omega) (by simp; omega) ?_
          intro u4 w4 hO4 hg4 hn4
          replace hg4 : (w2.alloc (.cells #[.int .i64 y.kind, .string y.name, .int .i64 y.so, .int .i64 y.n, .string y.s, .slice ao2 y.kids.length cap2] 26)).grownBy w4 u.ownBlock := hg4
          replace hn4 : u4.ownBlock = u.ownBlock ∨ u4.ownBlock = some (w2.alloc (.cells #[.int .i64 y.kind, .string y.name, .int .i64 y.so, .int .i64 y.n, .string y.s, .slice ao2 y.kids.length cap2] 26)).heap.size := hn4
          have C4 := hideC (C2.out.add (y, ao2, cap2) hlt HY.out BD2.out _ KR2.out (fun g hg => (BR.out.own.lt g hg).2) BR.out.pl hg4 hO4 hn4)
          have X4 := hideC (C2.out.box X2.out (u4 := u4) hg4 (by omega))
          have hb4 : w4.heap[w.heap.size + 1 + 1 + 1]? = w2.heap[w.heap.size + 1 + 1 + 1]? := (hg4.block _ (by simp; omega) (fun e => by have := (C2.out.own.lt _ e.symm).1; omega)).trans (heap_alloc_old w2 (.cells #[.int .i64 y.kind, .string y.name, .int .i64 y.so, .int .i64 y.n, .string y.s, .slice ao2 y.kids.length cap2] 26) C2.out.pl)
          have g5 := (World.cell?_of_block (a := ⟨w.heap.size + 1 + 1 + 1, 5, none⟩) hb4).trans C2.out.o5
          have gf5 := (World.frozen?_of_block (a := ⟨w.heap.size + 1 + 1 + 1, 5, none⟩) hb4).trans (C2.out.fr 5)
          obtain ⟨a4, n4, cp4, rfl⟩ := slice_ownQ hO4
          clear hO4 hg4 hn4 hb4
          refine hK _ _ ?_
          clear hK K
          refine take_oneB 12 (AllReady.cons rfl (fun K hK => ?_) AllReady.nil) (by kernel_rfl)
          go_simp
          refine hK _ _ ?_
          clear hK K
          refine take_oneB 13 (AllReady.cons rfl (fun K hK => ?_) AllReady.nil) (by kernel_rfl)
          go_simp
          refine hK _ _ ?_
          clear hK K
          refine wpAny_done (by kernel_rfl) ?_ _
          go_wp2_with fail
          go_roundw
          case rel => exact ⟨k + 1, tks ++ [(y, ao2, cap2)], _, by omega, by go_num, C4.out, X4.out⟩
          case measure => simp [intOf]; omega
      · go_simp
        refine hK _ _ ?_
        clear hK K
        refine wpAny_ready (rs := [1, 5, 8]) (by kernel_rfl) (by simp) ?_
        refine (AllReady.cons rfl (fun K hK => ?_) (AllReady.cons rfl (fun K hK => ?_) (AllReady.cons rfl (fun K hK => ?_) AllReady.nil)))
        · go_simp
          refine hK _ _ ?_
          clear hK K
          refine wpAny_ready (rs := [5, 8]) (by kernel_rfl) (by simp) ?_
          refine (AllReady.cons rfl (fun K hK => ?_) (AllReady.cons rfl (fun K hK => ?_) AllReady.nil))
          · go_simp
            refine hK _ _ ?_
            clear hK K
            refine wpAny_ready (rs := [6, 8]) (by kernel_rfl) (by simp) ?_
            refine (AllReady.cons rfl (fun K hK => ?_) (AllReady.cons rfl (fun K hK => ?_) AllReady.nil))
            · go_simp
              refine hK _ _ ?_
              clear hK K
              refine take_oneB 8 (AllReady.cons rfl (fun K hK => ?_) AllReady.nil) (by kernel_rfl)
              go_simp
              refine hK _ _ ?_
              clear hK K
              refine take_oneB 9 (AllReady.cons rfl (fun K hK => ?_) AllReady.nil) (by kernel_rfl)
              go_simp
              refine (CF.out _ (BR.out.bl.drew)).mono ?_
              rintro e w2 ⟨⟨ao2, cap2, rfl, hkr2, hbd2⟩, hb2⟩
              have C2 := hideC ((BR.out.keep (Below.refl _ _).drew).keep hb2)
              have X2 := hideC ((XR.out.keep (Below.refl _ _).drew).keep hb2)
              have KR2 := hideC hkr2
              have BD2 := hideC hbd2
              have SZ2 := hideC hb2.size
              have d5 := C2.out.o5
              have hl2 := C2.out.pl
              have e5 : (w2.alloc (.cells #[.int .i64 y.kind, .string y.name, .int .i64 y.so, .int .i64 y.n, .string y.s, .slice ao2 y.kids.length cap2] 26)).cell? ⟨w.heap.size + 1 + 1 + 1, 5, none⟩ = some u := (World.cell?_alloc_past _ _ _ C2.out.pl).trans C2.out.o5
              have L3 := hideC (World.ownsRow_lit (base := w.heap.size + 1 + 1 + 1 + 1) (e := 26) (size := 6) w2 #[.int .i64 y.kind, .string y.name, .int .i64 y.so, .int .i64 y.n, .string y.s, .slice ao2 y.kids.length cap2] 1 C2.out.pl (by decide) rfl)
              have U3 := hideC (own_below C2.out.own ((Below.refl _ _).alloc (Nat.le_refl _) (.cells #[.int .i64 y.kind, .string y.name, .int .i64 y.so, .int .i64 y.n, .string y.s, .slice ao2 y.kids.length cap2] 26)))
              clear hkr2 hbd2 hb2
              refine hK _ _ ?_
              clear hK K
              refine take_oneB 10 (AllReady.cons rfl (fun K hK => ?_) AllReady.nil) (by kernel_rfl)
              go_simp
              refine hK _ _ ?_
              clear hK K
              refine take_oneB 11 (AllReady.cons rfl (fun K hK => ?_) AllReady.nil) (by kernel_rfl)
              refine step_append_rows _ rfl _ _ 24 rfl (w.heap.size + 1 + 1 + 1 + 1) (w.heap.size + 1 + 1 + 1 + 1) 26 i0 _ 6 80 Tryz.underlying24 hi hz0 hz1 hz2 rfl (by decide) _ _ _ rfl U3.out _ _ _ rfl L3.out (eCs_one [(y, ao2, cap2)]) (by unfold maxLen; omega) (by omega) (by simp; omega) ?_
              intro u4 w4 hO4 hg4 hn4
              replace hg4 : (w2.alloc (.cells #[.int .i64 y.kind, .string y.name, .int .i64 y.so, .int .i64 y.n, .string y.s, .slice ao2 y.kids.length cap2] 26)).grownBy w4 u.ownBlock := hg4
              replace hn4 : u4.ownBlock = u.ownBlock ∨ u4.ownBlock = some (w2.alloc (.cells #[.int .i64 y.kind, .string y.name, .int .i64 y.so, .int .i64 y.n, .string y.s, .slice ao2 y.kids.length cap2] 26)).heap.size := hn4
              have C4 := hideC (C2.out.add (y, ao2, cap2) hlt HY.out BD2.out _ KR2.out (fun g hg => (BR.out.own.lt g hg).2) BR.out.pl hg4 hO4 hn4)
              have X4 := hideC (C2.out.box X2.out (u4 := u4) hg4 (by omega))
              have hb4 : w4.heap[w.heap.size + 1 + 1 + 1]? = w2.heap[w.heap.size + 1 + 1 + 1]? := (hg4.block _ (by simp; omega) (fun e => by have := (C2.out.own.lt _ e.symm).1; omega)).trans (heap_alloc_old w2 (.cells #[.int .i64 y.kind, .string y.name, .int .i64 y.so, .int .i64 y.n, .string y.s, .slice ao2 y.kids.length cap2] 26) C2.out.pl)
              have g5 := (World.cell?_of_block (a := ⟨w.heap.size + 1 + 1 + 1, 5, none⟩) hb4).trans C2.out.o5
              have gf5 := (World.frozen?_of_block (a := ⟨w.heap.size + 1 + 1 + 1, 5, none⟩) hb4).trans (C2.out.fr 5)
              obtain ⟨a4, n4, cp4, rfl⟩ := slice_ownQ hO4
              clear hO4 hg4 hn4 hb4
              refine hK _ _ ?_
              clear hK K
              refine take_oneB 12 (AllReady.cons rfl (fun K hK => ?_) AllReady.nil) (by kernel_rfl)
              go_simp
              refine hK _ _ ?_
              clear hK K
              refine take_oneB 13 (AllReady.cons rfl (fun K hK => ?_) AllReady.nil) (by kernel_rfl)
              go_simp
              refine hK _ _ ?_
              clear hK K
              refine wpAny_done (by kernel_rfl) ?_ _
              go_wp2_with fail
              go_roundw
              case rel => exact ⟨k + 1, tks ++ [(y, ao2, cap2)], _, by omega, by go_num, C4.out, X4.out⟩
              case measure => simp [intOf]; omega
            · go_simp
              refine hK _ _ ?_
              clear hK K
              refine take_oneB 6 (AllReady.cons rfl (fun K hK => ?_) AllReady.nil) (by kernel_rfl)
              go_simp
              refine hK _ _ ?_
              clear hK K
              refine take_oneB 9 (AllReady.cons rfl (fun K hK => ?_) AllReady.nil) (by kernel_rfl)
              go_simp
              refine (CF.out _ (BR.out.bl.drew)).mono ?_
              rintro e w2 ⟨⟨ao2, cap2, rfl, hkr2, hbd2⟩, hb2⟩
              have C2 := hideC ((BR.out.keep (Below.refl _ _).drew).keep hb2)
              have X2 := hideC ((XR.out.keep (Below.refl _ _).drew).keep hb2)
              have KR2 := hideC hkr2
              have BD2 := hideC hbd2
              have SZ2 := hideC hb2.size
              have d5 := C2.out.o5
              have hl2 := C2.out.pl
              have e5 : (w2.alloc (.cells #[.int .i64 y.kind, .string y.name, .int .i64 y.so, .int .i64 y.n, .string y.s, .slice ao2 y.kids.length cap2] 26)).cell? ⟨w.heap.size + 1 + 1 + 1, 5, none⟩ = some u := (World.cell?_alloc_past _ _ _ C2.out.pl).trans C2.out.o5
              have L3 := hideC (World.ownsRow_lit (base := w.heap.size + 1 + 1 + 1 + 1) (e := 26) (size := 6) w2 #[.int .i64 y.kind, .string y.name, .int .i64 y.so, .int .i64 y.n, .string y.s, .slice ao2 y.kids.length cap2] 1 C2.out.pl (by decide) rfl)
              have U3 := hideC (own_below C2.out.own ((Below.refl _ _).alloc (Nat.le_refl _) (.cells #[.int .i64 y.kind, .string y.name, .int .i64 y.so, .int .i64 y.n, .string y.s, .slice ao2 y.kids.length cap2] 26)))
              clear hkr2 hbd2 hb2
              refine hK _ _ ?_
              clear hK K
              refine take_oneB 10 (AllReady.cons rfl (fun K hK => ?_) AllReady.nil) (by kernel_rfl)
              go_simp
              refine hK _ _ ?_
              clear hK K
              refine take_oneB 11 (AllReady.cons rfl (fun K hK => ?_) AllReady.nil) (by kernel_rfl)
              refine step_append_rows _ rfl _ _ 24 rfl (w.heap.size + 1 + 1 + 1 + 1) (w.heap.size + 1 + 1 + 1 + 1) 26 i0 _ 6 80 Tryz.underlying24 hi hz0 hz1 hz2 rfl (by decide) _ _ _ rfl U3.out _ _ _ rfl L3.out (eCs_one [(y, ao2, cap2)]) (by unfold maxLen; omega) (by omega) (by simp; omega) ?_
              intro u4 w4 hO4 hg4 hn4
              replace hg4 : (w2.alloc (.cells #[.int .i64 y.kind, .string y.name, .int .i64 y.so, .int .i64 y.n, .string y.s, .slice ao2 y.kids.length cap2] 26)).grownBy w4 u.ownBlock := hg4
              replace hn4 : u4.ownBlock = u.ownBlock ∨ u4.ownBlock = some (w2.alloc (.cells #[.int .i64 y.kind, .string y.name, .int .i64 y.so, .int .i64 y.n, .string y.s, .slice ao2 y.kids.length cap2] 26)).heap.size := hn4
              have C4 := hideC (C2.out.add (y, ao2, cap2) hlt HY.out BD2.out _ KR2.out (fun g hg => (BR.out.own.lt g hg).2) BR.out.pl hg4 hO4 hn4)
              have X4 := hideC (C2.out.box X2.out (u4 := u4) hg4 (by omega))
              have hb4 : w4.heap[w.heap.size + 1 + 1 + 1]? = w2.heap[w.heap.size + 1 + 1 + 1]? := (hg4.block _ (by simp; omega) (fun e => by have := (C2.out.own.lt _ e.symm).1; omega)).trans (heap_alloc_old w2 (.cells #[.int .i64 y.kind, .string y.name, .int .i64 y.so, .int .i64 y.n, .string y.s, .slice ao2 y.kids.length cap2] 26) C2.out.pl)
              have g5 := (World.cell?_of_block (a := ⟨w.heap.size + 1 + 1 + 1, 5, none⟩) hb4).trans C2.out.o5
              have gf5 := (World.frozen?_of_block (a := ⟨w.heap.size + 1 + 1 + 1, 5, none⟩) hb4).trans (C2.out.fr 5)
              obtain ⟨a4, n4, cp4, rfl⟩ := slice_ownQ hO4
              clear hO4 hg4 hn4 hb4
              refine hK _ _ ?_
              clear hK K
              refine take_oneB 12 (AllReady.cons rfl (fun K hK => ?_) AllReady.nil) (by kernel_rfl)
              go_simp
              refine hK _ _ ?_
              clear hK K
              refine take_oneB 13 (AllReady.cons rfl (fun K hK => ?_) AllReady.nil) (by kernel_rfl)
              go_simp
              refine hK _ _ ?_
              clear hK K
              refine wpAny_done (by kernel_rfl) ?_ _
              go_wp2_with fail
              go_roundw
              case rel => exact ⟨k + 1, tks ++ [(y, ao2, cap2)], _, by omega, by go_num, C4.out, X4.out⟩
              case measure => simp [intOf]; omega
          · go_simp
            refine hK _ _ ?_
            clear hK K
            refine take_oneB 5 (AllReady.cons rfl (fun K hK => ?_) AllReady.nil) (by kernel_rfl)
            go_simp
            refine hK _ _ ?_
            clear hK K
            refine take_oneB 6 (AllReady.cons rfl (fun K hK => ?_) AllReady.nil) (by kernel_rfl)
            go_simp
            refine hK _ _ ?_
            clear hK K
            refine take_oneB 9 (AllReady.cons rfl (fun K hK => ?_) AllReady.nil) (by kernel_rfl)
            go_simp
            refine (CF.out _ (BR.out.bl.drew)).mono ?_
            rintro e w2 ⟨⟨ao2, cap2, rfl, hkr2, hbd2⟩, hb2⟩
            have C2 := hideC ((BR.out.keep (Below.refl _ _).drew).keep hb2)
            have X2 := hideC ((XR.out.keep (Below.refl _ _).drew).keep hb2)
            have KR2 := hideC hkr2
            have BD2 := hideC hbd2
            have SZ2 := hideC hb2.size
            have d5 := C2.out.o5
            have hl2 := C2.out.pl
            have e5 : (w2.alloc (.cells #[.int .i64 y.kind, .string y.name, .int .i64 y.so, .int .i64 y.n, .string y.s, .slice ao2 y.kids.length cap2] 26)).cell? ⟨w.heap.size + 1 + 1 + 1, 5, none⟩ = some u := (World.cell?_alloc_past _ _ _ C2.out.pl).trans C2.out.o5
            have L3 := hideC (World.ownsRow_lit (base := w.heap.size + 1 + 1 + 1 + 1) (e := 26) (size := 6) w2 #[.int .i64 y.kind, .string y.name, .int .i64 y.so, .int .i64 y.n, .string y.s, .slice ao2 y.kids.length cap2] 1 C2.out.pl (by decide) rfl)
            have U3 := hideC (own_below C2.out.own ((Below.refl _ _).alloc (Nat.le_refl _) (.cells #[.int .i64 y.kind, .string y.name, .int .i64 y.so, .int .i64 y.n, .string y.s, .slice ao2 y.kids.length cap2] 26)))
            clear hkr2 hbd2 hb2
            refine hK _ _ ?_
            clear hK K
            refine take_oneB 10 (AllReady.cons rfl (fun K hK => ?_) AllReady.nil) (by kernel_rfl)
            go_simp
            refine hK _ _ ?_
            clear hK K
            refine take_oneB 11 (AllReady.cons rfl (fun K hK => ?_) AllReady.nil) (by kernel_rfl)
            refine step_append_rows _ rfl _ _ 24 rfl (w.heap.size + 1 + 1 + 1 + 1) (w.heap.size + 1 + 1 + 1 + 1) 26 i0 _ 6 80 Tryz.underlying24 hi hz0 hz1 hz2 rfl (by decide) _ _ _ rfl U3.out _ _ _ rfl L3.out (eCs_one [(y, ao2, cap2)]) (by unfold maxLen; omega) (by omega) (by simp; omega) ?_
            intro u4 w4 hO4 hg4 hn4
            replace hg4 : (w2.alloc (.cells #[.int .i64 y.kind, .string y.name, .int .i64 y.so, .int .i64 y.n, .string y.s, .slice ao2 y.kids.length cap2] 26)).grownBy w4 u.ownBlock := hg4
            replace hn4 : u4.ownBlock = u.ownBlock ∨ u4.ownBlock = some (w2.alloc (.cells #[.int .i64 y.kind, .string y.name, .int .i64 y.so, .int .i64 y.n, .string y.s, .slice ao2 y.kids.length cap2] 26)).heap.size := hn4
            have C4 := hideC (C2.out.add (y, ao2, cap2) hlt HY.out BD2.out _ KR2.out (fun g hg => (BR.out.own.lt g hg).2) BR.out.pl hg4 hO4 hn4)
            have X4 := hideC (C2.out.box X2.out (u4 := u4) hg4 (by omega))
            have hb4 : w4.heap[w.heap.size + 1 + 1 + 1]? = w2.heap[w.heap.size + 1 + 1 + 1]? := (hg4.block _ (by simp; omega) (fun e => by have := (C2.out.own.lt _ e.symm).1; omega)).trans (heap_alloc_old w2 (.cells #[.int .i64 y.kind, .string y.name, .int .i64 y.so, .int .i64 y.n, .string y.s, .slice ao2 y.kids.length cap2] 26) C2.out.pl)
            have g5 := (World.cell?_of_block (a := ⟨w.heap.size + 1 + 1 + 1, 5, none⟩) hb4).trans C2.out.o5
            have gf5 := (World.frozen?_of_block (a := ⟨w.heap.size + 1 + 1 + 1, 5, none⟩) hb4).trans (C2.out.fr 5)
            obtain ⟨a4, n4, cp4, rfl⟩ := slice_ownQ hO4
            clear hO4 hg4 hn4 hb4
            refine hK _ _ ?_
            clear hK K
            refine take_oneB 12 (AllReady.cons rfl (fun K hK => ?_) AllReady.nil) (by kernel_rfl)
            go_simp
            refine hK _ _ ?_
            clear hK K
            refine take_oneB 13 (AllReady.cons rfl (fun K hK => ?_) AllReady.nil) (by kernel_rfl)
            go_simp
            refine hK _ _ ?_
            clear hK K
            refine wpAny_done (by kernel_rfl) ?_ _
            go_wp2_with fail
            go_roundw
            case rel => exact ⟨k + 1, tks ++ [(y, ao2, cap2)], _, by omega, by go_num, C4.out, X4.out⟩
            case measure => simp [intOf]; omega
        · go_simp
          refine hK _ _ ?_
          clear hK K
          refine wpAny_ready (rs := [1, 6, 8]) (by kernel_rfl) (by simp) ?_
          refine (AllReady.cons rfl (fun K hK => ?_) (AllReady.cons rfl (fun K hK => ?_) (AllReady.cons rfl (fun K hK => ?_) AllReady.nil)))
          · go_simp
            refine hK _ _ ?_
            clear hK K
            refine wpAny_ready (rs := [6, 8]) (by kernel_rfl) (by simp) ?_
            refine (AllReady.cons rfl (fun K hK => ?_) (AllReady.cons rfl (fun K hK => ?_) AllReady.nil))
            · go_simp
              refine hK _ _ ?_
              clear hK K
              refine take_oneB 8 (AllReady.cons rfl (fun K hK => ?_) AllReady.nil) (by kernel_rfl)
              go_simp
              refine hK _ _ ?_
              clear hK K
              refine take_oneB 9 (AllReady.cons rfl (fun K hK => ?_) AllReady.nil) (by kernel_rfl)
              go_simp
              refine (CF.out _ (BR.out.bl.drew)).mono ?_
              rintro e w2 ⟨⟨ao2, cap2, rfl, hkr2, hbd2⟩, hb2⟩
              have C2 := hideC ((BR.out.keep (Below.refl _ _).drew).keep hb2)
              have X2 := hideC ((XR.out.keep (Below.refl _ _).drew).keep hb2)
              have KR2 := hideC hkr2
              have BD2 := hideC hbd2
              have SZ2 := hideC hb2.size
              have d5 := C2.out.o5
              have hl2 := C2.out.pl
              have e5 : (w2.alloc (.cells #[.int .i64 y.kind, .string y.name, .int .i64 y.so, .int .i64 y.n, .string y.s, .slice ao2 y.kids.length cap2] 26)).cell? ⟨w.heap.size + 1 + 1 + 1, 5, none⟩ = some u := (World.cell?_alloc_past _ _ _ C2.out.pl).trans C2.out.o5
              have L3 := hideC (World.ownsRow_lit (base := w.heap.size + 1 + 1 + 1 + 1) (e := 26) (size := 6) w2 #[.int .i64 y.kind, .string y.name, .int .i64 y.so, .int .i64 y.n, .string y.s, .slice ao2 y.kids.length cap2] 1 C2.out.pl (by decide) rfl)
              have U3 := hideC (own_below C2.out.own ((Below.refl _ _).alloc (Nat.le_refl _) (.cells #[.int .i64 y.kind, .string y.name, .int .i64 y.so, .int .i64 y.n, .string y.s, .slice ao2 y.kids.length cap2] 26)))
              clear hkr2 hbd2 hb2
              refine hK _ _ ?_
              clear hK K
              refine take_oneB 10 (AllReady.cons rfl (fun K hK => ?_) AllReady.nil) (by kernel_rfl)
              go_simp
              refine hK _ _ ?_
              clear hK K
              refine take_oneB 11 (AllReady.cons rfl (fun K hK => ?_) AllReady.nil) (by kernel_rfl)
              refine step_append_rows _ rfl _ _ 24 rfl (w.heap.size + 1 + 1 + 1 + 1) (w.heap.size + 1 + 1 + 1 + 1) 26 i0 _ 6 80 Tryz.underlying24 hi hz0 hz1 hz2 rfl (by decide) _ _ _ rfl U3.out _ _ _ rfl L3.out (eCs_one [(y, ao2, cap2)]) (by unfold maxLen; omega) (by omega) (by simp; omega) ?_
              intro u4 w4 hO4 hg4 hn4
              replace hg4 : (w2.alloc (.cells #[.int .i64 y.kind, .string y.name, .int .i64 y.so, .int .i64 y.n, .string y.s, .slice ao2 y.kids.length cap2] 26)).grownBy w4 u.ownBlock := hg4
              replace hn4 : u4.ownBlock = u.ownBlock ∨ u4.ownBlock = some (w2.alloc (.cells #[.int .i64 y.kind, .string y.name, .int .i64 y.so, .int .i64 y.n, .string y.s, .slice ao2 y.kids.length cap2] 26)).heap.size := hn4
              have C4 := hideC (C2.out.add (y, ao2, cap2) hlt HY.out BD2.out _ KR2.out (fun g hg => (BR.out.own.lt g hg).2) BR.out.pl hg4 hO4 hn4)
              have X4 := hideC (C2.out.box X2.out (u4 := u4) hg4 (by omega))
              have hb4 : w4.heap[w.heap.size + 1 + 1 + 1]? = w2.heap[w.heap.size + 1 + 1 + 1]? := (hg4.block _ (by simp; omega) (fun e => by have := (C2.out.own.lt _ e.symm).1; omega)).trans (heap_alloc_old w2 (.cells #[.int .i64 y.kind, .string y.name, .int .i64 y.so, .int .i64 y.n, .string y.s, .slice ao2 y.kids.length cap2] 26) C2.out.pl)
              have g5 := (World.cell?_of_block (a := ⟨w.heap.size + 1 + 1 + 1, 5, none⟩) hb4).trans C2.out.o5
              have gf5 := (World.frozen?_of_block (a := ⟨w.heap.size + 1 + 1 + 1, 5, none⟩) hb4).trans (C2.out.fr 5)
              obtain ⟨a4, n4, cp4, rfl⟩ := slice_ownQ hO4
              clear hO4 hg4 hn4 hb4
              refine hK _ _ ?_
              clear hK K
              refine take_oneB 12 (AllReady.cons rfl (fun K hK => ?_) AllReady.nil) (by kernel_rfl)
              go_simp
              refine hK _ _ ?_
              clear hK K
              refine take_oneB 13 (AllReady.cons rfl (fun K hK => ?_) AllReady.nil) (by kernel_rfl)
              go_simp
              refine hK _ _ ?_
              clear hK K
              refine wpAny_done (by kernel_rfl) ?_ _
              go_wp2_with fail
              go_roundw
              case rel => exact ⟨k + 1, tks ++ [(y, ao2, cap2)], _, by omega, by go_num, C4.out, X4.out⟩
              case measure => simp [intOf]; omega
            · go_simp
              refine hK _ _ ?_
              clear hK K
              refine take_oneB 6 (AllReady.cons rfl (fun K hK => ?_) AllReady.nil) (by kernel_rfl)
              go_simp
              refine hK _ _ ?_
              clear hK K
              refine take_oneB 9 (AllReady.cons rfl (fun K hK => ?_) AllReady.nil) (by kernel_rfl)
              go_simp
              refine (CF.out _ (BR.out.bl.drew)).mono ?_
              rintro e w2 ⟨⟨ao2, cap2, rfl, hkr2, hbd2⟩, hb2⟩
              have C2 := hideC ((BR.out.keep (Below.refl _ _).drew).keep hb2)
              have X2 := hideC ((XR.out.keep (Below.refl _ _).drew).keep hb2)
              have KR2 := hideC hkr2
              have BD2 := hideC hbd2
              have SZ2 := hideC hb2.size
              have d5 := C2.out.o5
              have hl2 := C2.out.pl
              have e5 : (w2.alloc (.cells #[.int .i64 y.kind, .string y.name, .int .i64 y.so, .int .i64 y.n, .string y.s, .slice ao2 y.kids.length cap2] 26)).cell? ⟨w.heap.size + 1 + 1 + 1, 5, none⟩ = some u := (World.cell?_alloc_past _ _ _ C2.out.pl).trans C2.out.o5
              have L3 := hideC (World.ownsRow_lit (base := w.heap.size + 1 + 1 + 1 + 1) (e := 26) (size := 6) w2 #[.int .i64 y.kind, .string y.name, .int .i64 y.so, .int .i64 y.n, .string y.s, .slice ao2 y.kids.length cap2] 1 C2.out.pl (by decide) rfl)
              have U3 := hideC (own_below C2.out.own ((Below.refl _ _).alloc (Nat.le_refl _) (.cells #[.int .i64 y.kind, .string y.name, .int .i64 y.so, .int .i64 y.n, .string y.s, .slice ao2 y.kids.length cap2] 26)))
              clear hkr2 hbd2 hb2
              refine hK _ _ ?_
              clear hK K
              refine take_oneB 10 (AllReady.cons rfl (fun K hK => ?_) AllReady.nil) (by kernel_rfl)
              go_simp
              refine hK _ _ ?_
              clear hK K
              refine take_oneB 11 (AllReady.cons rfl (fun K hK => ?_) AllReady.nil) (by kernel_rfl)
              refine step_append_rows _ rfl _ _ 24 rfl (w.heap.size + 1 + 1 + 1 + 1) (w.heap.size + 1 + 1 + 1 + 1) 26 i0 _ 6 80 Tryz.underlying24 hi hz0 hz1 hz2 rfl (by decide) _ _ _ rfl U3.out _ _ _ rfl L3.out (eCs_one [(y, ao2, cap2)]) (by unfold maxLen; omega) (by omega) (by simp; omega) ?_
              intro u4 w4 hO4 hg4 hn4
              replace hg4 : (w2.alloc (.cells #[.int .i64 y.kind, .string y.name, .int .i64 y.so, .int .i64 y.n, .string y.s, .slice ao2 y.kids.length cap2] 26)).grownBy w4 u.ownBlock := hg4
              replace hn4 : u4.ownBlock = u.ownBlock ∨ u4.ownBlock = some (w2.alloc (.cells #[.int .i64 y.kind, .string y.name, .int .i64 y.so, .int .i64 y.n, .string y.s, .slice ao2 y.kids.length cap2] 26)).heap.size := hn4
              have C4 := hideC (C2.out.add (y, ao2, cap2) hlt HY.out BD2.out _ KR2.out (fun g hg => (BR.out.own.lt g hg).2) BR.out.pl hg4 hO4 hn4)
              have X4 := hideC (C2.out.box X2.out (u4 := u4) hg4 (by omega))
              have hb4 : w4.heap[w.heap.size + 1 + 1 + 1]? = w2.heap[w.heap.size + 1 + 1 + 1]? := (hg4.block _ (by simp; omega) (fun e => by have := (C2.out.own.lt _ e.symm).1; omega)).trans (heap_alloc_old w2 (.cells #[.int .i64 y.kind, .string y.name, .int .i64 y.so, .int .i64 y.n, .string y.s, .slice ao2 y.kids.length cap2] 26) C2.out.pl)
              have g5 := (World.cell?_of_block (a := ⟨w.heap.size + 1 + 1 + 1, 5, none⟩) hb4).trans C2.out.o5
              have gf5 := (World.frozen?_of_block (a := ⟨w.heap.size + 1 + 1 + 1, 5, none⟩) hb4).trans (C2.out.fr 5)
              obtain ⟨a4, n4, cp4, rfl⟩ := slice_ownQ hO4
              clear hO4 hg4 hn4 hb4
              refine hK _ _ ?_
              clear hK K
              refine take_oneB 12 (AllReady.cons rfl (fun K hK => ?_) AllReady.nil) (by kernel_rfl)
              go_simp
              refine hK _ _ ?_
              clear hK K
              refine take_oneB 13 (AllReady.cons rfl (fun K hK => ?_) AllReady.nil) (by kernel_rfl)
              go_simp
              refine hK _ _ ?_
              clear hK K
              refine wpAny_done (by kernel_rfl) ?_ _
              go_wp2_with fail
              go_roundw
              case rel => exact ⟨k + 1, tks ++ [(y, ao2, cap2)], _, by omega, by go_num, C4.out, X4.out⟩
              case measure => simp [intOf]; omega
          · go_simp
            refine hK _ _ ?_
            clear hK K
            refine wpAny_ready (rs := [1, 8]) (by kernel_rfl) (by simp) ?_
            refine (AllReady.cons rfl (fun K hK => ?_) (AllReady.cons rfl (fun K hK => ?_) AllReady.nil))
            · go_simp
              refine hK _ _ ?_
              clear hK K
              refine take_oneB 8 (AllReady.cons rfl (fun K hK => ?_) AllReady.nil) (by kernel_rfl)
              go_simp
              refine hK _ _ ?_
              clear hK K
              refine take_oneB 9 (AllReady.cons rfl (fun K hK => ?_) AllReady.nil) (by kernel_rfl)
              go_simp
              refine (CF.out _ (BR.out.bl.drew)).mono ?_
              rintro e w2 ⟨⟨ao2, cap2, rfl, hkr2, hbd2⟩, hb2⟩
              have C2 := hideC ((BR.out.keep (Below.refl _ _).drew).keep hb2)
              have X2 := hideC ((XR.out.keep (Below.refl _ _).drew).keep hb2)
              have KR2 := hideC hkr2
              have BD2 := hideC hbd2
              have SZ2 := hideC hb2.size
              have d5 := C2.out.o5
              have hl2 := C2.out.pl
              have e5 : (w2.alloc (.cells #[.int .i64 y.kind, .string y.name, .int .i64 y.so, .int .i64 y.n, .string y.s, .slice ao2 y.kids.length cap2] 26)).cell? ⟨w.heap.size + 1 + 1 + 1, 5, none⟩ = some u := (World.cell?_alloc_past _ _ _ C2.out.pl).trans C2.out.o5
              have L3 := hideC (World.ownsRow_lit (base := w.heap.size + 1 + 1 + 1 + 1) (e := 26) (size := 6) w2 #[.int .i64 y.kind, .string y.name, .int .i64 y.so, .int .i64 y.n, .string y.s, .slice ao2 y.kids.length cap2] 1 C2.out.pl (by decide) rfl)
              have U3 := hideC (own_below C2.out.own ((Below.refl _ _).alloc (Nat.le_refl _) (.cells #[.int .i64 y.kind, .string y.name, .int .i64 y.so, .int .i64 y.n, .string y.s, .slice ao2 y.kids.length cap2] 26)))
              clear hkr2 hbd2 hb2
              refine hK _ _ ?_
              clear hK K
              refine take_oneB 10 (AllReady.cons rfl (fun K hK => ?_) AllReady.nil) (by kernel_rfl)
              go_simp
              refine hK _ _ ?_
              clear hK K
              refine take_oneB 11 (AllReady.cons rfl (fun K hK => ?_) AllReady.nil) (by kernel_rfl)
              refine step_append_rows _ rfl _ _ 24 rfl (w.heap.size + 1 + 1 + 1 + 1) (w.heap.size + 1 + 1 + 1 + 1) 26 i0 _ 6 80 Tryz.underlying24 hi hz0 hz1 hz2 rfl (by decide) _ _ _ rfl U3.out _ _ _ rfl L3.out (eCs_one [(y, ao2, cap2)]) (by unfold maxLen; omega) (by omega) (by simp; omega) ?_
              intro u4 w4 hO4 hg4 hn4
              replace hg4 : (w2.alloc (.cells #[.int .i64 y.kind, .string y.name, .int .i64 y.so, .int .i64 y.n, .string y.s, .slice ao2 y.kids.length cap2] 26)).grownBy w4 u.ownBlock := hg4
              replace hn4 : u4.ownBlock = u.ownBlock ∨ u4.ownBlock = some (w2.alloc (.cells #[.int .i64 y.kind, .string y.name, .int .i64 y.so, .int .i64 y.n, .string y.s, .slice ao2 y.kids.length cap2] 26)).heap.size := hn4
              have C4 := hideC (C2.out.add (y, ao2, cap2) hlt HY.out BD2.out _ KR2.out (fun g hg => (BR.out.own.lt g hg).2) BR.out.pl hg4 hO4 hn4)
              have X4 := hideC (C2.out.box X2.out (u4 := u4) hg4 (by omega))
              have hb4 : w4.heap[w.heap.size + 1 + 1 + 1]? = w2.heap[w.heap.size + 1 + 1 + 1]? := (hg4.block _ (by simp; omega) (fun e => by have := (C2.out.own.lt _ e.symm).1; omega)).trans (heap_alloc_old w2 (.cells #[.int .i64 y.kind, .string y.name, .int .i64 y.so, .int .i64 y.n, .string y.s, .slice ao2 y.kids.length cap2] 26) C2.out.pl)
              have g5 := (World.cell?_of_block (a := ⟨w.heap.size + 1 + 1 + 1, 5, none⟩) hb4).trans C2.out.o5
              have gf5 := (World.frozen?_of_block (a := ⟨w.heap.size + 1 + 1 + 1, 5, none⟩) hb4).trans (C2.out.fr 5)
              obtain ⟨a4, n4, cp4, rfl⟩ := slice_ownQ hO4
              clear hO4 hg4 hn4 hb4
              refine hK _ _ ?_
              clear hK K
              refine take_oneB 12 (AllReady.cons rfl (fun K hK => ?_) AllReady.nil) (by kernel_rfl)
              go_simp
              refine hK _ _ ?_
              clear hK K
              refine take_oneB 13 (AllReady.cons rfl (fun K hK => ?_) AllReady.nil) (by kernel_rfl)
              go_simp
              refine hK _ _ ?_
              clear hK K
              refine wpAny_done (by kernel_rfl) ?_ _
              go_wp2_with fail
              go_roundw
              case rel => exact ⟨k + 1, tks ++ [(y, ao2, cap2)], _, by omega, by go_num, C4.out, X4.out⟩
              case measure => simp [intOf]; omega
            · go_simp
              refine hK _ _ ?_
              clear hK K
              refine wpAny_ready (rs := [1, 9]) (by kernel_rfl) (by simp) ?_
              refine (AllReady.cons rfl (fun K hK => ?_) (AllReady.cons rfl (fun K hK => ?_) AllReady.nil))
              · go_simp
                refine hK _ _ ?_
                clear hK K
                refine take_oneB 9 (AllReady.cons rfl (fun K hK => ?_) AllReady.nil) (by kernel_rfl)
                go_simp
                refine (CF.out _ (BR.out.bl.drew)).mono ?_
                rintro e w2 ⟨⟨ao2, cap2, rfl, hkr2, hbd2⟩, hb2⟩
                have C2 := hideC ((BR.out.keep (Below.refl _ _).drew).keep hb2)
                have X2 := hideC ((XR.out.keep (Below.refl _ _).drew).keep hb2)
                have KR2 := hideC hkr2
                have BD2 := hideC hbd2
                have SZ2 := hideC hb2.size
                have d5 := C2.out.o5
                have hl2 := C2.out.pl
                have e5 : (w2.alloc (.cells #[.int .i64 y.kind, .string y.name, .int .i64 y.so, .int .i64 y.n, .string y.s, .slice ao2 y.kids.length cap2] 26)).cell? ⟨w.heap.size + 1 + 1 + 1, 5, none⟩ = some u := (World.cell?_alloc_past _ _ _ C2.out.pl).trans C2.out.o5
                have L3 := hideC (World.ownsRow_lit (base := w.heap.size + 1 + 1 + 1 + 1) (e := 26) (size := 6) w2 #[.int .i64 y.kind, .string y.name, .int .i64 y.so, .int .i64 y.n, .string y.s, .slice ao2 y.kids.length cap2] 1 C2.out.pl (by decide) rfl)
                have U3 := hideC (own_below C2.out.own ((Below.refl _ _).alloc (Nat.le_refl _) (.cells #[.int .i64 y.kind, .string y.name, .int .i64 y.so, .int .i64 y.n, .string y.s, .slice ao2 y.kids.length cap2] 26)))
                clear hkr2 hbd2 hb2
                refine hK _ _ ?_
                clear hK K
                refine take_oneB 10 (AllReady.cons rfl (fun K hK => ?_) AllReady.nil) (by kernel_rfl)
                go_simp
                refine hK _ _ ?_
                clear hK K
                refine take_oneB 11 (AllReady.cons rfl (fun K hK => ?_) AllReady.nil) (by kernel_rfl)
                refine step_append_rows _ rfl _ _ 24 rfl (w.heap.size + 1 + 1 + 1 + 1) (w.heap.size + 1 + 1 + 1 + 1) 26 i0 _ 6 80 Tryz.underlying24 hi hz0 hz1 hz2 rfl (by decide) _ _ _ rfl U3.out _ _ _ rfl L3.out (eCs_one [(y, ao2, cap2)]) (by unfold maxLen; omega) (by omega) (by simp; omega) ?_
                intro u4 w4 hO4 hg4 hn4
                replace hg4 : (w2.alloc (.cells #[.int .i64 y.kind, .string y.name, .int .i64 y.so, .int .i64 y.n, .string y.s, .slice ao2 y.kids.length cap2] 26)).grownBy w4 u.ownBlock := hg4
                replace hn4 : u4.ownBlock = u.ownBlock ∨ u4.ownBlock = some (w2.alloc (.cells #[.int .i64 y.kind, .string y.name, .int .i64 y.so, .int .i64 y.n, .string y.s, .slice ao2 y.kids.length cap2] 26)).heap.size := hn4
                have C4 := hideC (C2.out.add (y, ao2, cap2) hlt HY.out BD2.out _ KR2.out (fun g hg => (BR.out.own.lt g hg).2) BR.out.pl hg4 hO4 hn4)
                have X4 := hideC (C2.out.box X2.out (u4 := u4) hg4 (by omega))
                have hb4 : w4.heap[w.heap.size + 1 + 1 + 1]? = w2.heap[w.heap.size + 1 + 1 + 1]? := (hg4.block _ (by simp; omega) (fun e => by have := (C2.out.own.lt _ e.symm).1; omega)).trans (heap_alloc_old w2 (.cells #[.int .i64 y.kind, .string y.name, .int .i64 y.so, .int .i64 y.n, .string y.s, .slice ao2 y.kids.length cap2] 26) C2.out.pl)
                have g5 := (World.cell?_of_block (a := ⟨w.heap.size + 1 + 1 + 1, 5, none⟩) hb4).trans C2.out.o5
                have gf5 := (World.frozen?_of_block (a := ⟨w.heap.size + 1 + 1 + 1, 5, none⟩) hb4).trans (C2.out.fr 5)
                obtain ⟨a4, n4, cp4, rfl⟩ := slice_ownQ hO4
                clear hO4 hg4 hn4 hb4
                refine hK _ _ ?_
                clear hK K
                refine take_oneB 12 (AllReady.cons rfl (fun K hK => ?_) AllReady.nil) (by kernel_rfl)
                go_simp
                refine hK _ _ ?_
                clear hK K
                refine take_oneB 13 (AllReady.cons rfl (fun K hK => ?_) AllReady.nil) (by kernel_rfl)
                go_simp
                refine hK _ _ ?_
                clear hK K
                refine wpAny_done (by kernel_rfl) ?_ _
                go_wp2_with fail
                go_roundw
                case rel => exact ⟨k + 1, tks ++ [(y, ao2, cap2)], _, by omega, by go_num, C4.out, X4.out⟩
                case measure => simp [intOf]; omega
              · go_simp
                refine (CF.out _ (BR.out.bl.drew)).mono ?_
                rintro e w2 ⟨⟨ao2, cap2, rfl, hkr2, hbd2⟩, hb2⟩
                have C2 := hideC ((BR.out.keep (Below.refl _ _).drew).keep hb2)
                have X2 := hideC ((XR.out.keep (Below.refl _ _).drew).keep hb2)
                have KR2 := hideC hkr2
                have BD2 := hideC hbd2
                have SZ2 := hideC hb2.size
                have d5 := C2.out.o5
                have hl2 := C2.out.pl
                have e5 : (w2.alloc (.cells #[.int .i64 y.kind, .string y.name, .int .i64 y.so, .int .i64 y.n, .string y.s, .slice ao2 y.kids.length cap2] 26)).cell? ⟨w.heap.size + 1 + 1 + 1, 5, none⟩ = some u := (World.cell?_alloc_past _ _ _ C2.out.pl).trans C2.out.o5
                have L3 := hideC (World.ownsRow_lit (base := w.heap.size + 1 + 1 + 1 + 1) (e := 26) (size := 6) w2 #[.int .i64 y.kind, .string y.name, .int .i64 y.so, .int .i64 y.n, .string y.s, .slice ao2 y.kids.length cap2] 1 C2.out.pl (by decide) rfl)
                have U3 := hideC (own_below C2.out.own ((Below.refl _ _).alloc (Nat.le_refl _) (.cells #[.int .i64 y.kind, .string y.name, .int .i64 y.so, .int .i64 y.n, .string y.s, .slice ao2 y.kids.length cap2] 26)))
                clear hkr2 hbd2 hb2
                refine hK _ _ ?_
                clear hK K
                refine wpAny_ready (rs := [1, 10]) (by kernel_rfl) (by simp) ?_
                refine (AllReady.cons rfl (fun K hK => ?_) (AllReady.cons rfl (fun K hK => ?_) AllReady.nil))
                · go_simp
                  refine hK _ _ ?_
                  clear hK K
                  refine take_oneB 10 (AllReady.cons rfl (fun K hK => ?_) AllReady.nil) (by kernel_rfl)
                  go_simp
                  refine hK _ _ ?_
                  clear hK K
                  refine take_oneB 11 (AllReady.cons rfl (fun K hK => ?_) AllReady.nil) (by kernel_rfl)
                  refine step_append_rows _ rfl _ _ 24 rfl (w.heap.size + 1 + 1 + 1 + 1) (w.heap.size + 1 + 1 + 1 + 1) 26 i0 _ 6 80 Tryz.underlying24 hi hz0 hz1 hz2 rfl (by decide) _ _ _ rfl U3.out _ _ _ rfl L3.out (eCs_one [(y, ao2, cap2)]) (by unfold maxLen; omega) (by omega) (by simp; omega) ?_
                  intro u4 w4 hO4 hg4 hn4
                  replace hg4 : (w2.alloc (.cells #[.int .i64 y.kind, .string y.name, .int .i64 y.so, .int .i64 y.n, .string y.s, .slice ao2 y.kids.length cap2] 26)).grownBy w4 u.ownBlock := hg4
                  replace hn4 : u4.ownBlock = u.ownBlock ∨ u4.ownBlock = some (w2.alloc (.cells #[.int .i64 y.kind, .string y.name, .int .i64 y.so, .int .i64 y.n, .string y.s, .slice ao2 y.kids.length cap2] 26)).heap.size := hn4
                  have C4 := hideC (C2.out.add (y, ao2, cap2) hlt HY.out BD2.out _ KR2.out (fun g hg => (BR.out.own.lt g hg).2) BR.out.pl hg4 hO4 hn4)
                  have X4 := hideC (C2.out.box X2.out (u4 := u4) hg4 (by omega))
                  have hb4 : w4.heap[w.heap.size + 1 + 1 + 1]? = w2.heap[w.heap.size + 1 + 1 + 1]? := (hg4.block _ (by simp; omega) (fun e => by have := (C2.out.own.lt _ e.symm).1; omega)).trans (heap_alloc_old w2 (.cells #[.int .i64 y.kind, .string y.name, .int .i64 y.so, .int .i64 y.n, .string y.s, .slice ao2 y.kids.length cap2] 26) C2.out.pl)
                  have g5 := (World.cell?_of_block (a := ⟨w.heap.size + 1 + 1 + 1, 5, none⟩) hb4).trans C2.out.o5
                  have gf5 := (World.frozen?_of_block (a := ⟨w.heap.size + 1 + 1 + 1, 5, none⟩) hb4).trans (C2.out.fr 5)
                  obtain ⟨a4, n4, cp4, rfl⟩ := slice_ownQ hO4
                  clear hO4 hg4 hn4 hb4
                  refine hK _ _ ?_
                  clear hK K
                  refine take_oneB 12 (AllReady.cons rfl (fun K hK => ?_) AllReady.nil) (by kernel_rfl)
                  go_simp
                  refine hK _ _ ?_
                  clear hK K
                  refine take_oneB 13 (AllReady.cons rfl (fun K hK => ?_) AllReady.nil) (by kernel_rfl)
                  go_simp
                  refine hK _ _ ?_
                  clear hK K
                  refine wpAny_done (by kernel_rfl) ?_ _
                  go_wp2_with fail
                  go_roundw
                  case rel => exact ⟨k + 1, tks ++ [(y, ao2, cap2)], _, by omega, by go_num, C4.out, X4.out⟩
                  case measure => simp [intOf]; omega
                · go_simp
                  refine hK _ _ ?_
                  clear hK K
                  refine take_oneB 1 (AllReady.cons rfl (fun K hK => ?_) AllReady.nil) (by kernel_rfl)
                  go_simp
                  refine hK _ _ ?_
                  clear hK K
                  refine take_oneB 11 (AllReady.cons rfl (fun K hK => ?_) AllReady.nil) (by kernel_rfl)
                  refine step_append_rows _ rfl _ _ 24 rfl (w.heap.size + 1 + 1 + 1 + 1) (w.heap.size + 1 + 1 + 1 + 1) 26 i0 _ 6 80 Tryz.underlying24 hi hz0 hz1 hz2 rfl (by decide) _ _ _ rfl U3.out _ _ _ rfl L3.out (eCs_one [(y, ao2, cap2)]) (by unfold maxLen; omega) (by omega) (by simp; omega) ?_
                  intro u4 w4 hO4 hg4 hn4
                  replace hg4 : (w2.alloc (.cells #[.int .i64 y.kind, .string y.name, .int .i64 y.so, .int .i64 y.n, .string y.s, .slice ao2 y.kids.length cap2] 26)).grownBy w4 u.ownBlock := hg4
                  replace hn4 : u4.ownBlock = u.ownBlock ∨ u4.ownBlock = some (w2.alloc (.cells #[.int .i64 y.kind, .string y.name, .int .i64 y.so, .int .i64 y.n, .string y.s, .slice ao2 y.kids.length cap2] 26)).heap.size := hn4
                  have C4 := hideC (C2.out.add (y, ao2, cap2) hlt HY.out BD2.out _ KR2.out (fun g hg => (BR.out.own.lt g hg).2) BR.out.pl hg4 hO4 hn4)
                  have X4 := hideC (C2.out.box X2.out (u4 := u4) hg4 (by omega))
                  have hb4 : w4.heap[w.heap.size + 1 + 1 + 1]? = w2.heap[w.heap.size + 1 + 1 + 1]? := (hg4.block _ (by simp; omega) (fun e => by have := (C2.out.own.lt _ e.symm).1; omega)).trans (heap_alloc_old w2 (.cells #[.int .i64 y.kind, .string y.name, .int .i64 y.so, .int .i64 y.n, .string y.s, .slice ao2 y.kids.length cap2] 26) C2.out.pl)
                  have g5 := (World.cell?_of_block (a := ⟨w.heap.size + 1 + 1 + 1, 5, none⟩) hb4).trans C2.out.o5
                  have gf5 := (World.frozen?_of_block (a := ⟨w.heap.size + 1 + 1 + 1, 5, none⟩) hb4).trans (C2.out.fr 5)
                  obtain ⟨a4, n4, cp4, rfl⟩ := slice_ownQ hO4
                  clear hO4 hg4 hn4 hb4
                  refine hK _ _ ?_
                  clear hK K
                  refine take_oneB 12 (AllReady.cons rfl (fun K hK => ?_) AllReady.nil) (by kernel_rfl)
                  go_simp
                  refine hK _ _ ?_
                  clear hK K
                  refine take_oneB 13 (AllReady.cons rfl (fun K hK => ?_) AllReady.nil) (by kernel_rfl)
                  go_simp
                  refine hK _ _ ?_
                  clear hK K
                  refine wpAny_done (by kernel_rfl) ?_ _
                  go_wp2_with fail
                  go_roundw
                  case rel => exact ⟨k + 1, tks ++ [(y, ao2, cap2)], _, by omega, by go_num, C4.out, X4.out⟩
                  case measure => simp [intOf]; omega
          · go_simp
            refine hK _ _ ?_
            clear hK K
            refine wpAny_ready (rs := [1, 6]) (by kernel_rfl) (by simp) ?_
            refine (AllReady.cons rfl (fun K hK => ?_) (AllReady.cons rfl (fun K hK => ?_) AllReady.nil))
            · go_simp
              refine hK _ _ ?_
              clear hK K
              refine take_oneB 6 (AllReady.cons rfl (fun K hK => ?_) AllReady.nil) (by kernel_rfl)
              go_simp
              refine hK _ _ ?_
              clear hK K
              refine take_oneB 9 (AllReady.cons rfl (fun K hK => ?_) AllReady.nil) (by kernel_rfl)
              go_simp
              refine (CF.out _ (BR.out.bl.drew)).mono ?_
              rintro e w2 ⟨⟨ao2, cap2, rfl, hkr2, hbd2⟩, hb2⟩
              have C2 := hideC ((BR.out.keep (Below.refl _ _).drew).keep hb2)
              have X2 := hideC ((XR.out.keep (Below.refl _ _).drew).keep hb2)
              have KR2 := hideC hkr2
              have BD2 := hideC hbd2
              have SZ2 := hideC hb2.size
              have d5 := C2.out.o5
              have hl2 := C2.out.pl
              have e5 : (w2.alloc (.cells #[.int .i64 y.kind, .string y.name, .int .i64 y.so, .int .i64 y.n, .string y.s, .slice ao2 y.kids.length cap2] 26)).cell? ⟨w.heap.size + 1 + 1 + 1, 5, none⟩ = some u := (World.cell?_alloc_past _ _ _ C2.out.pl).trans C2.out.o5
              have L3 := hideC (World.ownsRow_lit (base := w.heap.size + 1 + 1 + 1 + 1) (e := 26) (size := 6) w2 #[.int .i64 y.kind, .string y.name, .int .i64 y.so, .int .i64 y.n, .string y.s, .slice ao2 y.kids.length cap2] 1 C2.out.pl (by decide) rfl)
              have U3 := hideC (own_below C2.out.own ((Below.refl _ _).alloc (Nat.le_refl _) (.cells #[.int .i64 y.kind, .string y.name, .int .i64 y.so, .int .i64 y.n, .string y.s, .slice ao2 y.kids.length cap2] 26)))
              clear hkr2 hbd2 hb2
              refine hK _ _ ?_
              clear hK K
              refine take_oneB 10 (AllReady.cons rfl (fun K hK => ?_) AllReady.nil) (by kernel_rfl)
              go_simp
              refine hK _ _ ?_
              clear hK K
              refine take_oneB 11 (AllReady.cons rfl (fun K hK => ?_) AllReady.nil) (by kernel_rfl)
              refine step_append_rows _ rfl _ _ 24 rfl (w.heap.size + 1 + 1 + 1 + 1) (w.heap.size + 1 + 1 + 1 + 1) 26 i0 _ 6 80 Tryz.underlying24 hi hz0 hz1 hz2 rfl (by decide) _ _ _ rfl U3.out _ _ _ rfl L3.out (eCs_one [(y, ao2, cap2)]) (by unfold maxLen; omega) (by omega) (by simp; omega) ?_
              intro u4 w4 hO4 hg4 hn4
              replace hg4 : (w2.alloc (.cells #[.int .i64 y.kind, .string y.name, .int .i64 y.so, .int .i64 y.n, .string y.s, .slice ao2 y.kids.length cap2] 26)).grownBy w4 u.ownBlock := hg4
              replace hn4 : u4.ownBlock = u.ownBlock ∨ u4.ownBlock = some (w2.alloc (.cells #[.int .i64 y.kind, .string y.name, .int .i64 y.so, .int .i64 y.n, .string y.s, .slice ao2 y.kids.length cap2] 26)).heap.size := hn4
              have C4 := hideC (C2.out.add (y, ao2, cap2) hlt HY.out BD2.out _ KR2.out (fun g hg => (BR.out.own.lt g hg).2) BR.out.pl hg4 hO4 hn4)
              have X4 := hideC (C2.out.box X2.out (u4 := u4) hg4 (by omega))
              have hb4 : w4.heap[w.heap.size + 1 + 1 + 1]? = w2.heap[w.heap.size + 1 + 1 + 1]? := (hg4.block _ (by simp; omega) (fun e => by have := (C2.out.own.lt _ e.symm).1; omega)).trans (heap_alloc_old w2 (.cells #[.int .i64 y.kind, .string y.name, .int .i64 y.so, .int .i64 y.n, .string y.s, .slice ao2 y.kids.length cap2] 26) C2.out.pl)
              have g5 := (World.cell?_of_block (a := ⟨w.heap.size + 1 + 1 + 1, 5, none⟩) hb4).trans C2.out.o5
              have gf5 := (World.frozen?_of_block (a := ⟨w.heap.size + 1 + 1 + 1, 5, none⟩) hb4).trans (C2.out.fr 5)
              obtain ⟨a4, n4, cp4, rfl⟩ := slice_ownQ hO4
              clear hO4 hg4 hn4 hb4
              refine hK _ _ ?_
              clear hK K
              refine take_oneB 12 (AllReady.cons rfl (fun K hK => ?_) AllReady.nil) (by kernel_rfl)
              go_simp
              refine hK _ _ ?_
              clear hK K
              refine take_oneB 13 (AllReady.cons rfl (fun K hK => ?_) AllReady.nil) (by kernel_rfl)
              go_simp
              refine hK _ _ ?_
              clear hK K
              refine wpAny_done (by kernel_rfl) ?_ _
              go_wp2_with fail
              go_roundw
              case rel => exact ⟨k + 1, tks ++ [(y, ao2, cap2)], _, by omega, by go_num, C4.out, X4.out⟩
              case measure => simp [intOf]; omega
            · go_simp
              refine hK _ _ ?_
              clear hK K
              refine wpAny_ready (rs := [1, 9]) (by kernel_rfl) (by simp) ?_
              refine (AllReady.cons rfl (fun K hK => ?_) (AllReady.cons rfl (fun K hK => ?_) AllReady.nil))
              · go_simp
                refine hK _ _ ?_
                clear hK K
                refine take_oneB 9 (AllReady.cons rfl (fun K hK => ?_) AllReady.nil) (by kernel_rfl)
                go_simp
                refine (CF.out _ (BR.out.bl.drew)).mono ?_
                rintro e w2 ⟨⟨ao2, cap2, rfl, hkr2, hbd2⟩, hb2⟩
                have C2 := hideC ((BR.out.keep (Below.refl _ _).drew).keep hb2)
                have X2 := hideC ((XR.out.keep (Below.refl _ _).drew).keep hb2)
                have KR2 := hideC hkr2
                have BD2 := hideC hbd2
                have SZ2 := hideC hb2.size
                have d5 := C2.out.o5
                have hl2 := C2.out.pl
                have e5 : (w2.alloc (.cells #[.int .i64 y.kind, .string y.name, .int .i64 y.so, .int .i64 y.n, .string y.s, .slice ao2 y.kids.length cap2] 26)).cell? ⟨w.heap.size + 1 + 1 + 1, 5, none⟩ = some u := (World.cell?_alloc_past _ _ _ C2.out.pl).trans C2.out.o5
                have L3 := hideC (World.ownsRow_lit (base := w.heap.size + 1 + 1 + 1 + 1) (e := 26) (size := 6) w2 #[.int .i64 y.kind, .string y.name, .int .i64 y.so, .int .i64 y.n, .string y.s, .slice ao2 y.kids.length cap2] 1 C2.out.pl (by decide) rfl)
                have U3 := hideC (own_below C2.out.own ((Below.refl _ _).alloc (Nat.le_refl _) (.cells #[.int .i64 y.kind, .string y.name, .int .i64 y.so, .int .i64 y.n, .string y.s, .slice ao2 y.kids.length cap2] 26)))
                clear hkr2 hbd2 hb2
                refine hK _ _ ?_
                clear hK K
                refine take_oneB 10 (AllReady.cons rfl (fun K hK => ?_) AllReady.nil) (by kernel_rfl)
                go_simp
                refine hK _ _ ?_
                clear hK K
                refine take_oneB 11 (AllReady.cons rfl (fun K hK => ?_) AllReady.nil) (by kernel_rfl)
                refine step_append_rows _ rfl _ _ 24 rfl (w.heap.size + 1 + 1 + 1 + 1) (w.heap.size + 1 + 1 + 1 + 1) 26 i0 _ 6 80 Tryz.underlying24 hi hz0 hz1 hz2 rfl (by decide) _ _ _ rfl U3.out _ _ _ rfl L3.out (eCs_one [(y, ao2, cap2)]) (by unfold maxLen; omega) (by omega) (by simp; omega) ?_
                intro u4 w4 hO4 hg4 hn4
                replace hg4 : (w2.alloc (.cells #[.int .i64 y.kind, .string y.name, .int .i64 y.so, .int .i64 y.n, .string y.s, .slice ao2 y.kids.length cap2] 26)).grownBy w4 u.ownBlock := hg4
                replace hn4 : u4.ownBlock = u.ownBlock ∨ u4.ownBlock = some (w2.alloc (.cells #[.int .i64 y.kind, .string y.name, .int .i64 y.so, .int .i64 y.n, .string y.s, .slice ao2 y.kids.length cap2] 26)).heap.size := hn4
                have C4 := hideC (C2.out.add (y, ao2, cap2) hlt HY.out BD2.out _ KR2.out (fun g hg => (BR.out.own.lt g hg).2) BR.out.pl hg4 hO4 hn4)
                have X4 := hideC (C2.out.box X2.out (u4 := u4) hg4 (by omega))
                have hb4 : w4.heap[w.heap.size + 1 + 1 + 1]? = w2.heap[w.heap.size + 1 + 1 + 1]? := (hg4.block _ (by simp; omega) (fun e => by have := (C2.out.own.lt _ e.symm).1; omega)).trans (heap_alloc_old w2 (.cells #[.int .i64 y.kind, .string y.name, .int .i64 y.so, .int .i64 y.n, .string y.s, .slice ao2 y.kids.length cap2] 26) C2.out.pl)
                have g5 := (World.cell?_of_block (a := ⟨w.heap.size + 1 + 1 + 1, 5, none⟩) hb4).trans C2.out.o5
                have gf5 := (World.frozen?_of_block (a := ⟨w.heap.size + 1 + 1 + 1, 5, none⟩) hb4).trans (C2.out.fr 5)
                obtain ⟨a4, n4, cp4, rfl⟩ := slice_ownQ hO4
                clear hO4 hg4 hn4 hb4
                refine hK _ _ ?_
                clear hK K
                refine take_oneB 12 (AllReady.cons rfl (fun K hK => ?_) AllReady.nil) (by kernel_rfl)
                go_simp
                refine hK _ _ ?_
                clear hK K
                refine take_oneB 13 (AllReady.cons rfl (fun K hK => ?_) AllReady.nil) (by kernel_rfl)
                go_simp
                refine hK _ _ ?_
                clear hK K
                refine wpAny_done (by kernel_rfl) ?_ _
                go_wp2_with fail
                go_roundw
                case rel => exact ⟨k + 1, tks ++ [(y, ao2, cap2)], _, by omega, by go_num, C4.out, X4.out⟩
                case measure => simp [intOf]; omega
              · go_simp
                refine (CF.out _ (BR.out.bl.drew)).mono ?_
                rintro e w2 ⟨⟨ao2, cap2, rfl, hkr2, hbd2⟩, hb2⟩
                have C2 := hideC ((BR.out.keep (Below.refl _ _).drew).keep hb2)
                have X2 := hideC ((XR.out.keep (Below.refl _ _).drew).keep hb2)
                have KR2 := hideC hkr2
                have BD2 := hideC hbd2
                have SZ2 := hideC hb2.size
                have d5 := C2.out.o5
                have hl2 := C2.out.pl
                have e5 : (w2.alloc (.cells #[.int .i64 y.kind, .string y.name, .int .i64 y.so, .int .i64 y.n, .string y.s, .slice ao2 y.kids.length cap2] 26)).cell? ⟨w.heap.size + 1 + 1 + 1, 5, none⟩ = some u := (World.cell?_alloc_past _ _ _ C2.out.pl).trans C2.out.o5
                have L3 := hideC (World.ownsRow_lit (base := w.heap.size + 1 + 1 + 1 + 1) (e := 26) (size := 6) w2 #[.int .i64 y.kind, .string y.name, .int .i64 y.so, .int .i64 y.n, .string y.s, .slice ao2 y.kids.length cap2] 1 C2.out.pl (by decide) rfl)
                have U3 := hideC (own_below C2.out.own ((Below.refl _ _).alloc (Nat.le_refl _) (.cells #[.int .i64 y.kind, .string y.name, .int .i64 y.so, .int .i64 y.n, .string y.s, .slice ao2 y.kids.length cap2] 26)))
                clear hkr2 hbd2 hb2
                refine hK _ _ ?_
                clear hK K
                refine wpAny_ready (rs := [1, 10]) (by kernel_rfl) (by simp) ?_
                refine (AllReady.cons rfl (fun K hK => ?_) (AllReady.cons rfl (fun K hK => ?_) AllReady.nil))
                · go_simp
                  refine hK _ _ ?_
                  clear hK K
                  refine take_oneB 10 (AllReady.cons rfl (fun K hK => ?_) AllReady.nil) (by kernel_rfl)
                  go_simp
                  refine hK _ _ ?_
                  clear hK K
                  refine take_oneB 11 (AllReady.cons rfl (fun K hK => ?_) AllReady.nil) (by kernel_rfl)
                  refine step_append_rows _ rfl _ _ 24 rfl (w.heap.size + 1 + 1 + 1 + 1) (w.heap.size + 1 + 1 + 1 + 1) 26 i0 _ 6 80 Tryz.underlying24 hi hz0 hz1 hz2 rfl (by decide) _ _ _ rfl U3.out _ _ _ rfl L3.out (eCs_one [(y, ao2, cap2)]) (by unfold maxLen; omega) (by omega) (by simp; omega) ?_
                  intro u4 w4 hO4 hg4 hn4
                  replace hg4 : (w2.alloc (.cells #[.int .i64 y.kind, .string y.name, .int .i64 y.so, .int .i64 y.n, .string y.s, .slice ao2 y.kids.length cap2] 26)).grownBy w4 u.ownBlock := hg4
                  replace hn4 : u4.ownBlock = u.ownBlock ∨ u4.ownBlock = some (w2.alloc (.cells #[.int .i64 y.kind, .string y.name, .int .i64 y.so, .int .i64 y.n, .string y.s, .slice ao2 y.kids.length cap2] 26)).heap.size := hn4
                  have C4 := hideC (C2.out.add (y, ao2, cap2) hlt HY.out BD2.out _ KR2.out (fun g hg => (BR.out.own.lt g hg).2) BR.out.pl hg4 hO4 hn4)
                  have X4 := hideC (C2.out.box X2.out (u4 := u4) hg4 (by omega))
                  have hb4 : w4.heap[w.heap.size + 1 + 1 + 1]? = w2.heap[w.heap.size + 1 + 1 + 1]? := (hg4.block _ (by simp; omega) (fun e => by have := (C2.out.own.lt _ e.symm).1; omega)).trans (heap_alloc_old w2 (.cells #[.int .i64 y.kind, .string y.name, .int .i64 y.so, .int .i64 y.n, .string y.s, .slice ao2 y.kids.length cap2] 26) C2.out.pl)
                  have g5 := (World.cell?_of_block (a := ⟨w.heap.size + 1 + 1 + 1, 5, none⟩) hb4).trans C2.out.o5
                  have gf5 := (World.frozen?_of_block (a := ⟨w.heap.size + 1 + 1 + 1, 5, none⟩) hb4).trans (C2.out.fr 5)
                  obtain ⟨a4, n4, cp4, rfl⟩ := slice_ownQ hO4
                  clear hO4 hg4 hn4 hb4
                  refine hK _ _ ?_
                  clear hK K
                  refine take_oneB 12 (AllReady.cons rfl (fun K hK => ?_) AllReady.nil) (by kernel_rfl)
                  go_simp
                  refine hK _ _ ?_
                  clear hK K
                  refine take_oneB 13 (AllReady.cons rfl (fun K hK => ?_) AllReady.nil) (by kernel_rfl)
                  go_simp
                  refine hK _ _ ?_
                  clear hK K
                  refine wpAny_done (by kernel_rfl) ?_ _
                  go_wp2_with fail
                  go_roundw
                  case rel => exact ⟨k + 1, tks ++ [(y, ao2, cap2)], _, by omega, by go_num, C4.out, X4.out⟩
                  case measure => simp [intOf]; omega
                · go_simp
                  refine hK _ _ ?_
                  clear hK K
                  refine take_oneB 1 (AllReady.cons rfl (fun K hK => ?_) AllReady.nil) (by kernel_rfl)
                  go_simp
                  refine hK _ _ ?_
                  clear hK K
                  refine take_oneB 11 (AllReady.cons rfl (fun K hK => ?_) AllReady.nil) (by kernel_rfl)
                  refine step_append_rows _ rfl _ _ 24 rfl (w.heap.size + 1 + 1 + 1 + 1) (w.heap.size + 1 + 1 + 1 + 1) 26 i0 _ 6 80 Tryz.underlying24 hi hz0 hz1 hz2 rfl (by decide) _ _ _ rfl U3.out _ _ _ rfl L3.out (eCs_one [(y, ao2, cap2)]) (by unfold maxLen; omega) (by omega) (by simp; omega) ?_
                  intro u4 w4 hO4 hg4 hn4
                  replace hg4 : (w2.alloc (.cells #[.int .i64 y.kind, .string y.name, .int .i64 y.so, .int .i64 y.n, .string y.s, .slice ao2 y.kids.length cap2] 26)).grownBy w4 u.ownBlock := hg4
                  replace hn4 : u4.ownBlock = u.ownBlock ∨ u4.ownBlock = some (w2.alloc (.cells #[.int .i64 y.kind, .string y.name, .int .i64 y.so, .int .i64 y.n, .string y.s, .slice ao2 y.kids.length cap2] 26)).heap.size := hn4
                  have C4 := hideC (C2.out.add (y, ao2, cap2) hlt HY.out BD2.out _ KR2.out (fun g hg => (BR.out.own.lt g hg).2) BR.out.pl hg4 hO4 hn4)
                  have X4 := hideC (C2.out.box X2.out (u4 := u4) hg4 (by omega))
                  have hb4 : w4.heap[w.heap.size + 1 + 1 + 1]? = w2.heap[w.heap.size + 1 + 1 + 1]? := (hg4.block _ (by simp; omega) (fun e => by have := (C2.out.own.lt _ e.symm).1; omega)).trans (heap_alloc_old w2 (.cells #[.int .i64 y.kind, .string y.name, .int .i64 y.so, .int .i64 y.n, .string y.s, .slice ao2 y.kids.length cap2] 26) C2.out.pl)
                  have g5 := (World.cell?_of_block (a := ⟨w.heap.size + 1 + 1 + 1, 5, none⟩) hb4).trans C2.out.o5
                  have gf5 := (World.frozen?_of_block (a := ⟨w.heap.size + 1 + 1 + 1, 5, none⟩) hb4).trans (C2.out.fr 5)
                  obtain ⟨a4, n4, cp4, rfl⟩ := slice_ownQ hO4
                  clear hO4 hg4 hn4 hb4
                  refine hK _ _ ?_
                  clear hK K
                  refine take_oneB 12 (AllReady.cons rfl (fun K hK => ?_) AllReady.nil) (by kernel_rfl)
                  go_simp
                  refine hK _ _ ?_
                  clear hK K
                  refine take_oneB 13 (AllReady.cons rfl (fun K hK => ?_) AllReady.nil) (by kernel_rfl)
                  go_simp
                  refine hK _ _ ?_
                  clear hK K
                  refine wpAny_done (by kernel_rfl) ?_ _
                  go_wp2_with fail
                  go_roundw
                  case rel => exact ⟨k + 1, tks ++ [(y, ao2, cap2)], _, by omega, by go_num, C4.out, X4.out⟩
                  case measure => simp [intOf]; omega
        · go_simp
          refine hK _ _ ?_
          clear hK K
          refine wpAny_ready (rs := [1, 5]) (by kernel_rfl) (by simp) ?_
          refine (AllReady.cons rfl (fun K hK => ?_) (AllReady.cons rfl (fun K hK => ?_) AllReady.nil))
          · go_simp
            refine hK _ _ ?_
            clear hK K
            refine take_oneB 5 (AllReady.cons rfl (fun K hK => ?_) AllReady.nil) (by kernel_rfl)
            go_simp
            refine hK _ _ ?_
            clear hK K
            refine take_oneB 6 (AllReady.cons rfl (fun K hK => ?_) AllReady.nil) (by kernel_rfl)
            go_simp
            refine hK _ _ ?_
            clear hK K
            refine take_oneB 9 (AllReady.cons rfl (fun K hK => ?_) AllReady.nil) (by kernel_rfl)
            go_simp
            refine (CF.out _ (BR.out.bl.drew)).mono ?_
            rintro e w2 ⟨⟨ao2, cap2, rfl, hkr2, hbd2⟩, hb2⟩
            have C2 := hideC ((BR.out.keep (Below.refl _ _).drew).keep hb2)
            have X2 := hideC ((XR.out.keep (Below.refl _ _).drew).keep hb2)
            have KR2 := hideC hkr2
            have BD2 := hideC hbd2
            have SZ2 := hideC hb2.size
            have d5 := C2.out.o5
            have hl2 := C2.out.pl
            have e5 : (w2.alloc (.cells #[.int .i64 y.kind, .string y.name, .int .i64 y.so, .int .i64 y.n, .string y.s, .slice ao2 y.kids.length cap2] 26)).cell? ⟨w.heap.size + 1 + 1 + 1, 5, none⟩ = some u := (World.cell?_alloc_past _ _ _ C2.out.pl).trans C2.out.o5
            have L3 := hideC (World.ownsRow_lit (base := w.heap.size + 1 + 1 + 1 + 1) (e := 26) (size := 6) w2 #[.int .i64 y.kind, .string y.name, .int .i64 y.so, .int .i64 y.n, .string y.s, .slice ao2 y.kids.length cap2] 1 C2.out.pl (by decide) rfl)
            have U3 := hideC (own_below C2.out.own ((Below.refl _ _).alloc (Nat.le_refl _) (.cells #[.int .i64 y.kind, .string y.name, .int .i64 y.so, .int .i64 y.n, .string y.s, .slice ao2 y.kids.length cap2] 26)))
            clear hkr2 hbd2 hb2
            refine hK _ _ ?_
            clear hK K
            refine take_oneB 10 (AllReady.cons rfl (fun K hK => ?_) AllReady.nil) (by kernel_rfl)
            go_simp
            refine hK _ _ ?_
            clear hK K
            refine take_oneB 11 (AllReady.cons rfl (fun K hK => ?_) AllReady.nil) (by kernel_rfl)
            refine step_append_rows _ rfl _ _ 24 rfl (w.heap.size + 1 + 1 + 1 + 1) (w.heap.size + 1 + 1 + 1 + 1) 26 i0 _ 6 80 Tryz.underlying24 hi hz0 hz1 hz2 rfl (by decide) _ _ _ rfl U3.out _ _ _ rfl L3.out (eCs_one [(y, ao2, cap2)]) (by unfold maxLen; omega) (by omega) (by simp; omega) ?_
            intro u4 w4 hO4 hg4 hn4
            replace hg4 : (w2.alloc (.cells #[.int .i64 y.kind, .string y.name, .int .i64 y.so, .int .i64 y.n, .string y.s, .slice ao2 y.kids.length cap2] 26)).grownBy w4 u.ownBlock := hg4
            replace hn4 : u4.ownBlock = u.ownBlock ∨ u4.ownBlock = some (w2.alloc (.cells #[.int .i64 y.kind, .string y.name, .int .i64 y.so, .int .i64 y.n, .string y.s, .slice ao2 y.kids.length cap2] 26)).heap.size := hn4
            have C4 := hideC (C2.out.add (y, ao2, cap2) hlt HY.out BD2.out _ KR2.out (fun g hg => (BR.out.own.lt g hg).2) BR.out.pl hg4 hO4 hn4)
            have X4 := hideC (C2.out.box X2.out (u4 := u4) hg4 (by omega))
            have hb4 : w4.heap[w.heap.size + 1 + 1 + 1]? = w2.heap[w.heap.size + 1 + 1 + 1]? := (hg4.block _ (by simp; omega) (fun e => by have := (C2.out.own.lt _ e.symm).1; omega)).trans (heap_alloc_old w2 (.cells #[.int .i64 y.kind, .string y.name, .int .i64 y.so, .int .i64 y.n, .string y.s, .slice ao2 y.kids.length cap2] 26) C2.out.pl)
            have g5 := (World.cell?_of_block (a := ⟨w.heap.size + 1 + 1 + 1, 5, none⟩) hb4).trans C2.out.o5
            have gf5 := (World.frozen?_of_block (a := ⟨w.heap.size + 1 + 1 + 1, 5, none⟩) hb4).trans (C2.out.fr 5)
            obtain ⟨a4, n4, cp4, rfl⟩ := slice_ownQ hO4
            clear hO4 hg4 hn4 hb4
            refine hK _ _ ?_
            clear hK K
            refine take_oneB 12 (AllReady.cons rfl (fun K hK => ?_) AllReady.nil) (by kernel_rfl)
            go_simp
            refine hK _ _ ?_
            clear hK K
            refine take_oneB 13 (AllReady.cons rfl (fun K hK => ?_) AllReady.nil) (by kernel_rfl)
            go_simp
            refine hK _ _ ?_
            clear hK K
            refine wpAny_done (by kernel_rfl) ?_ _
            go_wp2_with fail
            go_roundw
            case rel => exact ⟨k + 1, tks ++ [(y, ao2, cap2)], _, by omega, by go_num, C4.out, X4.out⟩
            case measure => simp [intOf]; omega
          · go_simp
            refine hK _ _ ?_
            clear hK K
            refine wpAny_ready (rs := [1, 6]) (by kernel_rfl) (by simp) ?_
            refine (AllReady.cons rfl (fun K hK => ?_) (AllReady.cons rfl (fun K hK => ?_) AllReady.nil))
            · go_simp
              refine hK _ _ ?_
              clear hK K
              refine take_oneB 6 (AllReady.cons rfl (fun K hK => ?_) AllReady.nil) (by kernel_rfl)
              go_simp
              refine hK _ _ ?_
              clear hK K
              refine take_oneB 9 (AllReady.cons rfl (fun K hK => ?_) AllReady.nil) (by kernel_rfl)
              go_simp
              refine (CF.out _ (BR.out.bl.drew)).mono ?_
              rintro e w2 ⟨⟨ao2, cap2, rfl, hkr2, hbd2⟩, hb2⟩
              have C2 := hideC ((BR.out.keep (Below.refl _ _).drew).keep hb2)
              have X2 := hideC ((XR.out.keep (Below.refl _ _).drew).keep hb2)
              have KR2 := hideC hkr2
              have BD2 := hideC hbd2
              have SZ2 := hideC hb2.size
              have d5 := C2.out.o5
              have hl2 := C2.out.pl
              have e5 : (w2.alloc (.cells #[.int .i64 y.kind, .string y.name, .int .i64 y.so, .int .i64 y.n, .string y.s, .slice ao2 y.kids.length cap2] 26)).cell? ⟨w.heap.size + 1 + 1 + 1, 5, none⟩ = some u := (World.cell?_alloc_past _ _ _ C2.out.pl).trans C2.out.o5
              have L3 := hideC (World.ownsRow_lit (base := w.heap.size + 1 + 1 + 1 + 1) (e := 26) (size := 6) w2 #[.int .i64 y.kind, .string y.name, .int .i64 y.so, .int .i64 y.n, .string y.s, .slice ao2 y.kids.length cap2] 1 C2.out.pl (by decide) rfl)
              have U3 := hideC (own_below C2.out.own ((Below.refl _ _).alloc (Nat.le_refl _) (.cells #[.int .i64 y.kind, .string y.name, .int .i64 y.so, .int .i64 y.n, .string y.s, .slice ao2 y.kids.length cap2] 26)))
              clear hkr2 hbd2 hb2
              refine hK _ _ ?_
              clear hK K
              refine take_oneB 10 (AllReady.cons rfl (fun K hK => ?_) AllReady.nil) (by kernel_rfl)
              go_simp
              refine hK _ _ ?_
              clear hK K
              refine take_oneB 11 (AllReady.cons rfl (fun K hK => ?_) AllReady.nil) (by kernel_rfl)
              refine step_append_rows _ rfl _ _ 24 rfl (w.heap.size + 1 + 1 + 1 + 1) (w.heap.size + 1 + 1 + 1 + 1) 26 i0 _ 6 80 Tryz.underlying24 hi hz0 hz1 hz2 rfl (by decide) _ _ _ rfl U3.out _ _ _ rfl L3.out (eCs_one [(y, ao2, cap2)]) (by unfold maxLen; omega) (by omega) (by simp; omega) ?_
              intro u4 w4 hO4 hg4 hn4
              replace hg4 : (w2.alloc (.cells #[.int .i64 y.kind, .string y.name, .int .i64 y.so, .int .i64 y.n, .string y.s, .slice ao2 y.kids.length cap2] 26)).grownBy w4 u.ownBlock := hg4
              replace hn4 : u4.ownBlock = u.ownBlock ∨ u4.ownBlock = some (w2.alloc (.cells #[.int .i64 y.kind, .string y.name, .int .i64 y.so, .int .i64 y.n, .string y.s, .slice ao2 y.kids.length cap2] 26)).heap.size := hn4
              have C4 := hideC (C2.out.add (y, ao2, cap2) hlt HY.out BD2.out _ KR2.out (fun g hg => (BR.out.own.lt g hg).2) BR.out.pl hg4 hO4 hn4)
              have X4 := hideC (C2.out.box X2.out (u4 := u4) hg4 (by omega))
              have hb4 : w4.heap[w.heap.size + 1 + 1 + 1]? = w2.heap[w.heap.size + 1 + 1 + 1]? := (hg4.block _ (by simp; omega) (fun e => by have := (C2.out.own.lt _ e.symm).1; omega)).trans (heap_alloc_old w2 (.cells #[.int .i64 y.kind, .string y.name, .int .i64 y.so, .int .i64 y.n, .string y.s, .slice ao2 y.kids.length cap2] 26) C2.out.pl)
              have g5 := (World.cell?_of_block (a := ⟨w.heap.size + 1 + 1 + 1, 5, none⟩) hb4).trans C2.out.o5
              have gf5 := (World.frozen?_of_block (a := ⟨w.heap.size + 1 + 1 + 1, 5, none⟩) hb4).trans (C2.out.fr 5)
              obtain ⟨a4, n4, cp4, rfl⟩ := slice_ownQ hO4
              clear hO4 hg4 hn4 hb4
              refine hK _ _ ?_
              clear hK K
              refine take_oneB 12 (AllReady.cons rfl (fun K hK => ?_) AllReady.nil) (by kernel_rfl)
              go_simp
              refine hK _ _ ?_
              clear hK K
              refine take_oneB 13 (AllReady.cons rfl (fun K hK => ?_) AllReady.nil) (by kernel_rfl)
              go_simp
              refine hK _ _ ?_
              clear hK K
              refine wpAny_done (by kernel_rfl) ?_ _
              go_wp2_with fail
              go_roundw
              case rel => exact ⟨k + 1, tks ++ [(y, ao2, cap2)], _, by omega, by go_num, C4.out, X4.out⟩
              case measure => simp [intOf]; omega
            · go_simp
              refine hK _ _ ?_
              clear hK K
              refine wpAny_ready (rs := [1, 9]) (by kernel_rfl) (by simp) ?_
              refine (AllReady.cons rfl (fun K hK => ?_) (AllReady.cons rfl (fun K hK => ?_) AllReady.nil))
              · go_simp
                refine hK _ _ ?_
                clear hK K
                refine take_oneB 9 (AllReady.cons rfl (fun K hK => ?_) AllReady.nil) (by kernel_rfl)
                go_simp
                refine (CF.out _ (BR.out.bl.drew)).mono ?_
                rintro e w2 ⟨⟨ao2, cap2, rfl, hkr2, hbd2⟩, hb2⟩
                have C2 := hideC ((BR.out.keep (Below.refl _ _).drew).keep hb2)
                have X2 := hideC ((XR.out.keep (Below.refl _ _).drew).keep hb2)
                have KR2 := hideC hkr2
                have BD2 := hideC hbd2
                have SZ2 := hideC hb2.size
                have d5 := C2.out.o5
                have hl2 := C2.out.pl
                have e5 : (w2.alloc (.cells #[.int .i64 y.kind, .string y.name, .int .i64 y.so, .int .i64 y.n, .string y.s, .slice ao2 y.kids.length cap2] 26)).cell? ⟨w.heap.size + 1 + 1 + 1, 5, none⟩ = some u := (World.cell?_alloc_past _ _ _ C2.out.pl).trans C2.out.o5
                have L3 := hideC (World.ownsRow_lit (base := w.heap.size + 1 + 1 + 1 + 1) (e := 26) (size := 6) w2 #[.int .i64 y.kind, .string y.name, .int .i64 y.so, .int .i64 y.n, .string y.s, .slice ao2 y.kids.length cap2] 1 C2.out.pl (by decide) rfl)
                have U3 := hideC (own_below C2.out.own ((Below.refl _ _).alloc (Nat.le_refl _) (.cells #[.int .i64 y.kind, .string y.name, .int .i64 y.so, .int .i64 y.n, .string y.s, .slice ao2 y.kids.length cap2] 26)))
                clear hkr2 hbd2 hb2
                refine hK _ _ ?_
                clear hK K
                refine take_oneB 10 (AllReady.cons rfl (fun K hK => ?_) AllReady.nil) (by kernel_rfl)
                go_simp
                refine hK _ _ ?_
                clear hK K
                refine take_oneB 11 (AllReady.cons rfl (fun K hK => ?_) AllReady.nil) (by kernel_rfl)
                refine step_append_rows _ rfl _ _ 24 rfl (w.heap.size + 1 + 1 + 1 + 1) (w.heap.size + 1 + 1 + 1 + 1) 26 i0 _ 6 80 Tryz.underlying24 hi hz0 hz1 hz2 rfl (by decide) _ _ _ rfl U3.out _ _ _ rfl L3.out (eCs_one [(y, ao2, cap2)]) (by unfold maxLen; omega) (by omega) (by simp; omega) ?_
                intro u4 w4 hO4 hg4 hn4
                replace hg4 : (w2.alloc (.cells #[.int .i64 y.kind, .string y.name, .int .i64 y.so, .int .i64 y.n, .string y.s, .slice ao2 y.kids.length cap2] 26)).grownBy w4 u.ownBlock := hg4
                replace hn4 : u4.ownBlock = u.ownBlock ∨ u4.ownBlock = some (w2.alloc (.cells #[.int .i64 y.kind, .string y.name, .int .i64 y.so, .int .i64 y.n, .string y.s, .slice ao2 y.kids.length cap2] 26)).heap.size := hn4
                have C4 := hideC (C2.out.add (y, ao2, cap2) hlt HY.out BD2.out _ KR2.out (fun g hg => (BR.out.own.lt g hg).2) BR.out.pl hg4 hO4 hn4)
                have X4 := hideC (C2.out.box X2.out (u4 := u4) hg4 (by omega))
                have hb4 : w4.heap[w.heap.size + 1 + 1 + 1]? = w2.heap[w.heap.size + 1 + 1 + 1]? := (hg4.block _ (by simp; omega) (fun e => by have := (C2.out.own.lt _ e.symm).1; omega)).trans (heap_alloc_old w2 (.cells #[.int .i64 y.kind, .string y.name, .int .i64 y.so, .int .i64 y.n, .string y.s, .slice ao2 y.kids.length cap2] 26) C2.out.pl)
                have g5 := (World.cell?_of_block (a := ⟨w.heap.size + 1 + 1 + 1, 5, none⟩) hb4).trans C2.out.o5
                have gf5 := (World.frozen?_of_block (a := ⟨w.heap.size + 1 + 1 + 1, 5, none⟩) hb4).trans (C2.out.fr 5)
                obtain ⟨a4, n4, cp4, rfl⟩ := slice_ownQ hO4
                clear hO4 hg4 hn4 hb4
                refine hK _ _ ?_
                clear hK K
                refine take_oneB 12 (AllReady.cons rfl (fun K hK => ?_) AllReady.nil) (by kernel_rfl)
                go_simp
                refine hK _ _ ?_
                clear hK K
                refine take_oneB 13 (AllReady.cons rfl (fun K hK => ?_) AllReady.nil) (by kernel_rfl)
                go_simp
                refine hK _ _ ?_
                clear hK K
                refine wpAny_done (by kernel_rfl) ?_ _
                go_wp2_with fail
                go_roundw
                case rel => exact ⟨k + 1, tks ++ [(y, ao2, cap2)], _, by omega, by go_num, C4.out, X4.out⟩
                case measure => simp [intOf]; omega
              · go_simp
                refine (CF.out _ (BR.out.bl.drew)).mono ?_
                rintro e w2 ⟨⟨ao2, cap2, rfl, hkr2, hbd2⟩, hb2⟩
                have C2 := hideC ((BR.out.keep (Below.refl _ _).drew).keep hb2)
                have X2 := hideC ((XR.out.keep (Below.refl _ _).drew).keep hb2)
                have KR2 := hideC hkr2
                have BD2 := hideC hbd2
                have SZ2 := hideC hb2.size
                have d5 := C2.out.o5
                have hl2 := C2.out.pl
                have e5 : (w2.alloc (.cells #[.int .i64 y.kind, .string y.name, .int .i64 y.so, .int .i64 y.n, .string y.s, .slice ao2 y.kids.length cap2] 26)).cell? ⟨w.heap.size + 1 + 1 + 1, 5, none⟩ = some u := (World.cell?_alloc_past _ _ _ C2.out.pl).trans C2.out.o5
                have L3 := hideC (World.ownsRow_lit (base := w.heap.size + 1 + 1 + 1 + 1) (e := 26) (size := 6) w2 #[.int .i64 y.kind, .string y.name, .int .i64 y.so, .int .i64 y.n, .string y.s, .slice ao2 y.kids.length cap2] 1 C2.out.pl (by decide) rfl)
                have U3 := hideC (own_below C2.out.own ((Below.refl _ _).alloc (Nat.le_refl _) (.cells #[.int .i64 y.kind, .string y.name, .int .i64 y.so, .int .i64 y.n, .string y.s, .slice ao2 y.kids.length cap2] 26)))
                clear hkr2 hbd2 hb2
                refine hK _ _ ?_
                clear hK K
                refine wpAny_ready (rs := [1, 10]) (by kernel_rfl) (by simp) ?_
                refine (AllReady.cons rfl (fun K hK => ?_) (AllReady.cons rfl (fun K hK => ?_) AllReady.nil))
                · go_simp
                  refine hK _ _ ?_
                  clear hK K
                  refine take_oneB 10 (AllReady.cons rfl (fun K hK => ?_) AllReady.nil) (by kernel_rfl)
                  go_simp
                  refine hK _ _ ?_
                  clear hK K
                  refine take_oneB 11 (AllReady.cons rfl (fun K hK => ?_) AllReady.nil) (by kernel_rfl)
                  refine step_append_rows _ rfl _ _ 24 rfl (w.heap.size + 1 + 1 + 1 + 1) (w.heap.size + 1 + 1 + 1 + 1) 26 i0 _ 6 80 Tryz.underlying24 hi hz0 hz1 hz2 rfl (by decide) _ _ _ rfl U3.out _ _ _ rfl L3.out (eCs_one [(y, ao2, cap2)]) (by unfold maxLen; omega) (by omega) (by simp; omega) ?_
                  intro u4 w4 hO4 hg4 hn4
                  replace hg4 : (w2.alloc (.cells #[.int .i64 y.kind, .string y.name, .int .i64 y.so, .int .i64 y.n, .string y.s, .slice ao2 y.kids.length cap2] 26)).grownBy w4 u.ownBlock := hg4
                  replace hn4 : u4.ownBlock = u.ownBlock ∨ u4.ownBlock = some (w2.alloc (.cells #[.int .i64 y.kind, .string y.name, .int .i64 y.so, .int .i64 y.n, .string y.s, .slice ao2 y.kids.length cap2] 26)).heap.size := hn4
                  have C4 := hideC (C2.out.add (y, ao2, cap2) hlt HY.out BD2.out _ KR2.out (fun g hg => (BR.out.own.lt g hg).2) BR.out.pl hg4 hO4 hn4)
                  have X4 := hideC (C2.out.box X2.out (u4 := u4) hg4 (by omega))
                  have hb4 : w4.heap[w.heap.size + 1 + 1 + 1]? = w2.heap[w.heap.size + 1 + 1 + 1]? := (hg4.block _ (by simp; omega) (fun e => by have := (C2.out.own.lt _ e.symm).1; omega)).trans (heap_alloc_old w2 (.cells #[.int .i64 y.kind, .string y.name, .int .i64 y.so, .int .i64 y.n, .string y.s, .slice ao2 y.kids.length cap2] 26) C2.out.pl)
                  have g5 := (World.cell?_of_block (a := ⟨w.heap.size + 1 + 1 + 1, 5, none⟩) hb4).trans C2.out.o5
                  have gf5 := (World.frozen?_of_block (a := ⟨w.heap.size + 1 + 1 + 1, 5, none⟩) hb4).trans (C2.out.fr 5)
                  obtain ⟨a4, n4, cp4, rfl⟩ := slice_ownQ hO4
                  clear hO4 hg4 hn4 hb4
                  refine hK _ _ ?_
                  clear hK K
                  refine take_oneB 12 (AllReady.cons rfl (fun K hK => ?_) AllReady.nil) (by kernel_rfl)
                  go_simp
                  refine hK _ _ ?_
                  clear hK K
                  refine take_oneB 13 (AllReady.cons rfl (fun K hK => ?_) AllReady.nil) (by kernel_rfl)
                  go_simp
                  refine hK _ _ ?_
                  clear hK K
                  refine wpAny_done (by kernel_rfl) ?_ _
                  go_wp2_with fail
                  go_roundw
                  case rel => exact ⟨k + 1, tks ++ [(y, ao2, cap2)], _, by omega, by go_num, C4.out, X4.out⟩
                  case measure => simp [intOf]; omega
                · go_simp
                  refine hK _ _ ?_
                  clear hK K
                  refine take_oneB 1 (AllReady.cons rfl (fun K hK => ?_) AllReady.nil) (by kernel_rfl)
                  go_simp
                  refine hK _ _ ?_
                  clear hK K
                  refine take_oneB 11 (AllReady.cons rfl (fun K hK => ?_) AllReady.nil) (by kernel_rfl)
                  refine step_append_rows _ rfl _ _ 24 rfl (w.heap.size + 1 + 1 + 1 + 1) (w.heap.size + 1 + 1 + 1 + 1) 26 i0 _ 6 80 Tryz.underlying24 hi hz0 hz1 hz2 rfl (by decide) _ _ _ rfl U3.out _ _ _ rfl L3.out (eCs_one [(y, ao2, cap2)]) (by unfold maxLen; omega) (by omega) (by simp; omega) ?_
                  intro u4 w4 hO4 hg4 hn4
                  replace hg4 : (w2.alloc (.cells #[.int .i64 y.kind, .string y.name, .int .i64 y.so, .int .i64 y.n, .string y.s, .slice ao2 y.kids.length cap2] 26)).grownBy w4 u.ownBlock := hg4
                  replace hn4 : u4.ownBlock = u.ownBlock ∨ u4.ownBlock = some (w2.alloc (.cells #[.int .i64 y.kind, .string y.name, .int .i64 y.so, .int .i64 y.n, .string y.s, .slice ao2 y.kids.length cap2] 26)).heap.size := hn4
                  have C4 := hideC (C2.out.add (y, ao2, cap2) hlt HY.out BD2.out _ KR2.out (fun g hg => (BR.out.own.lt g hg).2) BR.out.pl hg4 hO4 hn4)
                  have X4 := hideC (C2.out.box X2.out (u4 := u4) hg4 (by omega))
                  have hb4 : w4.heap[w.heap.size + 1 + 1 + 1]? = w2.heap[w.heap.size + 1 + 1 + 1]? := (hg4.block _ (by simp; omega) (fun e => by have := (C2.out.own.lt _ e.symm).1; omega)).trans (heap_alloc_old w2 (.cells #[.int .i64 y.kind, .string y.name, .int .i64 y.so, .int .i64 y.n, .string y.s, .slice ao2 y.kids.length cap2] 26) C2.out.pl)
                  have g5 := (World.cell?_of_block (a := ⟨w.heap.size + 1 + 1 + 1, 5, none⟩) hb4).trans C2.out.o5
                  have gf5 := (World.frozen?_of_block (a := ⟨w.heap.size + 1 + 1 + 1, 5, none⟩) hb4).trans (C2.out.fr 5)
                  obtain ⟨a4, n4, cp4, rfl⟩ := slice_ownQ hO4
                  clear hO4 hg4 hn4 hb4
                  refine hK _ _ ?_
                  clear hK K
                  refine take_oneB 12 (AllReady.cons rfl (fun K hK => ?_) AllReady.nil) (by kernel_rfl)
                  go_simp
                  refine hK _ _ ?_
                  clear hK K
                  refine take_oneB 13 (AllReady.cons rfl (fun K hK => ?_) AllReady.nil) (by kernel_rfl)
                  go_simp
                  refine hK _ _ ?_
                  clear hK K
                  refine wpAny_done (by kernel_rfl) ?_ _
                  go_wp2_with fail
                  go_roundw
                  case rel => exact ⟨k + 1, tks ++ [(y, ao2, cap2)], _, by omega, by go_num, C4.out, X4.out⟩
                  case measure => simp [intOf]; omega
      · go_simp
        refine hK _ _ ?_
        clear hK K
        refine wpAny_ready (rs := [1, 3]) (by kernel_rfl) (by simp) ?_
        refine (AllReady.cons rfl (fun K hK => ?_) (AllReady.cons rfl (fun K hK => ?_) AllReady.nil))
        · go_simp
          refine hK _ _ ?_
          clear hK K
          refine take_oneB 3 (AllReady.cons rfl (fun K hK => ?_) AllReady.nil) (by kernel_rfl)
          go_simp
          refine hK _ _ ?_
          clear hK K
          refine take_oneB 5 (AllReady.cons rfl (fun K hK => ?_) AllReady.nil) (by kernel_rfl)
          go_simp
          refine hK _ _ ?_
          clear hK K
          refine take_oneB 6 (AllReady.cons rfl (fun K hK => ?_) AllReady.nil) (by kernel_rfl)
          go_simp
          refine hK _ _ ?_
          clear hK K
          refine take_oneB 9 (AllReady.cons rfl (fun K hK => ?_) AllReady.nil) (by kernel_rfl)
          go_simp
          refine (CF.out _ (BR.out.bl.drew)).mono ?_
          rintro e w2 ⟨⟨ao2, cap2, rfl, hkr2, hbd2⟩, hb2⟩
          have C2 := hideC ((BR.out.keep (Below.refl _ _).drew).keep hb2)
          have X2 := hideC ((XR.out.keep (Below.refl _ _).drew).keep hb2)
          have KR2 := hideC hkr2
          have BD2 := hideC hbd2
          have SZ2 := hideC hb2.size
          have d5 := C2.out.o5
          have hl2 := C2.out.pl
          have e5 : (w2.alloc (.cells #[.int .i64 y.kind, .string y.name, .int .i64 y.so, .int .i64 y.n, .string y.s, .slice ao2 y.kids.length cap2] 26)).cell? ⟨w.heap.size + 1 + 1 + 1, 5, none⟩ = some u := (World.cell?_alloc_past _ _ _ C2.out.pl).trans C2.out.o5
          have L3 := hideC (World.ownsRow_lit (base := w.heap.size + 1 + 1 + 1 + 1) (e := 26) (size := 6) w2 #[.int .i64 y.kind, .string y.name, .int .i64 y.so, .int .i64 y.n, .string y.s, .slice ao2 y.kids.length cap2] 1 C2.out.pl (by decide) rfl)
          have U3 := hideC (own_below C2.out.own ((Below.refl _ _).alloc (Nat.le_refl _) (.cells #[.int .i64 y.kind, .string y.name, .int .i64 y.so, .int .i64 y.n, .string y.s, .slice ao2 y.kids.length cap2] 26)))
          clear hkr2 hbd2 hb2
          refine hK _ _ ?_
          clear hK K
          refine take_oneB 10 (AllReady.cons rfl (fun K hK => ?_) AllReady.nil) (by kernel_rfl)
          go_simp
          refine hK _ _ ?_
          clear hK K
          refine take_oneB 11 (AllReady.cons rfl (fun K hK => ?_) AllReady.nil) (by kernel_rfl)
          refine step_append_rows _ rfl _ _ 24 rfl (w.heap.size + 1 + 1 + 1 + 1) (w.heap.size + 1 + 1 + 1 + 1) 26 i0 _ 6 80 Tryz.underlying24 hi hz0 hz1 hz2 rfl (by decide) _ _ _ rfl U3.out _ _ _ rfl L3.out (eCs_one [(y, ao2, cap2)]) (by unfold maxLen; omega) (by omega) (by simp; omega) ?_
          intro u4 w4 hO4 hg4 hn4
          replace hg4 : (w2.alloc (.cells #[.int .i64 y.kind, .string y.name, .int .i64 y.so, .int .i64 y.n, .string y.s, .slice ao2 y.kids.length cap2] 26)).grownBy w4 u.ownBlock := hg4
          replace hn4 : u4.ownBlock = u.ownBlock ∨ u4.ownBlock = some (w2.alloc (.cells #[.int .i64 y.kind, .string y.name, .int .i64 y.so, .int .i64 y.n, .string y.s, .slice ao2 y.kids.length cap2] 26)).heap.size := hn4
          have C4 := hideC (C2.out.add (y, ao2, cap2) hlt HY.out BD2.out _ KR2.out (fun g hg => (BR.out.own.lt g hg).2) BR.out.pl hg4 hO4 hn4)
          have X4 := hideC (C2.out.box X2.out (u4 := u4) hg4 (by omega))
          have hb4 : w4.heap[w.heap.size + 1 + 1 + 1]? = w2.heap[w.heap.size + 1 + 1 + 1]? := (hg4.block _ (by simp; omega) (fun e => by have := (C2.out.own.lt _ e.symm).1; omega)).trans (heap_alloc_old w2 (.cells #[.int .i64 y.kind, .string y.name, .int .i64 y.so, .int .i64 y.n, .string y.s, .slice ao2 y.kids.length cap2] 26) C2.out.pl)
          have g5 := (World.cell?_of_block (a := ⟨w.heap.size + 1 + 1 + 1, 5, none⟩) hb4).trans C2.out.o5
          have gf5 := (World.frozen?_of_block (a := ⟨w.heap.size + 1 + 1 + 1, 5, none⟩) hb4).trans (C2.out.fr 5)
          obtain ⟨a4, n4, cp4, rfl⟩ := slice_ownQ hO4
          clear hO4 hg4 hn4 hb4
          refine hK _ _ ?_
          clear hK K
          refine take_oneB 12 (AllReady.cons rfl (fun K hK => ?_) AllReady.nil) (by kernel_rfl)
          go_simp
          refine hK _ _ ?_
          clear hK K
          refine take_oneB 13 (AllReady.cons rfl (fun K hK => ?_) AllReady.nil) (by kernel_rfl)
          go_simp
          refine hK _ _ ?_
          clear hK K
          refine wpAny_done (by kernel_rfl) ?_ _
          go_wp2_with fail
          go_roundw
          case rel => exact ⟨k + 1, tks ++ [(y, ao2, cap2)], _, by omega, by go_num, C4.out, X4.out⟩
          case measure => simp [intOf]; omega
        · go_simp
          refine hK _ _ ?_
          clear hK K
          refine wpAny_ready (rs := [1, 5]) (by kernel_rfl) (by simp) ?_
          refine (AllReady.cons rfl (fun K hK => ?_) (AllReady.cons rfl (fun K hK => ?_) AllReady.nil))
          · go_simp
            refine hK _ _ ?_
            clear hK K
            refine take_oneB 5 (AllReady.cons rfl (fun K hK => ?_) AllReady.nil) (by kernel_rfl)
            go_simp
            refine hK _ _ ?_
            clear hK K
            refine take_oneB 6 (AllReady.cons rfl (fun K hK => ?_) AllReady.nil) (by kernel_rfl)
            go_simp
            refine hK _ _ ?_
            clear hK K
            refine take_oneB 9 (AllReady.cons rfl (fun K hK => ?_) AllReady.nil) (by kernel_rfl)
            go_simp
            refine (CF.out _ (BR.out.bl.drew)).mono ?_
            rintro e w2 ⟨⟨ao2, cap2, rfl, hkr2, hbd2⟩, hb2⟩
            have C2 := hideC ((BR.out.keep (Below.refl _ _).drew).keep hb2)
            have X2 := hideC ((XR.out.keep (Below.refl _ _).drew).keep hb2)
            have KR2 := hideC hkr2
            have BD2 := hideC hbd2
            have SZ2 := hideC hb2.size
            have d5 := C2.out.o5
            have hl2 := C2.out.pl
            have e5 : (w2.alloc (.cells #[.int .i64 y.kind, .string y.name, .int .i64 y.so, .int .i64 y.n, .string y.s, .slice ao2 y.kids.length cap2] 26)).cell? ⟨w.heap.size + 1 + 1 + 1, 5, none⟩ = some u := (World.cell?_alloc_past _ _ _ C2.out.pl).trans C2.out.o5
            have L3 := hideC (World.ownsRow_lit (base := w.heap.size + 1 + 1 + 1 + 1) (e := 26) (size := 6) w2 #[.int .i64 y.kind, .string y.name, .int .i64 y.so, .int .i64 y.n, .string y.s, .slice ao2 y.kids.length cap2] 1 C2.out.pl (by decide) rfl)
            have U3 := hideC (own_below C2.out.own ((Below.refl _ _).alloc (Nat.le_refl _) (.cells #[.int .i64 y.kind, .string y.name, .int .i64 y.so, .int .i64 y.n, .string y.s, .slice ao2 y.kids.length cap2] 26)))
            clear hkr2 hbd2 hb2
            refine hK _ _ ?_
            clear hK K
            refine take_oneB 10 (AllReady.cons rfl (fun K hK => ?_) AllReady.nil) (by kernel_rfl)
            go_simp
            refine hK _ _ ?_
            clear hK K
            refine take_oneB 11 (AllReady.cons rfl (fun K hK => ?_) AllReady.nil) (by kernel_rfl)
            refine step_append_rows _ rfl _ _ 24 rfl (w.heap.size + 1 + 1 + 1 + 1) (w.heap.size + 1 + 1 + 1 + 1) 26 i0 _ 6 80 Tryz.underlying24 hi hz0 hz1 hz2 rfl (by decide) _ _ _ rfl U3.out _ _ _ rfl L3.out (eCs_one [(y, ao2, cap2)]) (by unfold maxLen; omega) (by omega) (by simp; omega) ?_
            intro u4 w4 hO4 hg4 hn4
            replace hg4 : (w2.alloc (.cells #[.int .i64 y.kind, .string y.name, .int .i64 y.so, .int .i64 y.n, .string y.s, .slice ao2 y.kids.length cap2] 26)).grownBy w4 u.ownBlock := hg4
            replace hn4 : u4.ownBlock = u.ownBlock ∨ u4.ownBlock = some (w2.alloc (.cells #[.int .i64 y.kind, .string y.name, .int .i64 y.so, .int .i64 y.n, .string y.s, .slice ao2 y.kids.length cap2] 26)).heap.size := hn4
            have C4 := hideC (C2.out.add (y, ao2, cap2) hlt HY.out BD2.out _ KR2.out (fun g hg => (BR.out.own.lt g hg).2) BR.out.pl hg4 hO4 hn4)
            have X4 := hideC (C2.out.box X2.out (u4 := u4) hg4 (by omega))
            have hb4 : w4.heap[w.heap.size + 1 + 1 + 1]? = w2.heap[w.heap.size + 1 + 1 + 1]? := (hg4.block _ (by simp; omega) (fun e => by have := (C2.out.own.lt _ e.symm).1; omega)).trans (heap_alloc_old w2 (.cells #[.int .i64 y.kind, .string y.name, .int .i64 y.so, .int .i64 y.n, .string y.s, .slice ao2 y.kids.length cap2] 26) C2.out.pl)
            have g5 := (World.cell?_of_block (a := ⟨w.heap.size + 1 + 1 + 1, 5, none⟩) hb4).trans C2.out.o5
            have gf5 := (World.frozen?_of_block (a := ⟨w.heap.size + 1 + 1 + 1, 5, none⟩) hb4).trans (C2.out.fr 5)
            obtain ⟨a4, n4, cp4, rfl⟩ := slice_ownQ hO4
            clear hO4 hg4 hn4 hb4
            refine hK _ _ ?_
            clear hK K
            refine take_oneB 12 (AllReady.cons rfl (fun K hK => ?_) AllReady.nil) (by kernel_rfl)
            go_simp
            refine hK _ _ ?_
            clear hK K
            refine take_oneB 13 (AllReady.cons rfl (fun K hK => ?_) AllReady.nil) (by kernel_rfl)
            go_simp
            refine hK _ _ ?_
            clear hK K
            refine wpAny_done (by kernel_rfl) ?_ _
            go_wp2_with fail
            go_roundw
            case rel => exact ⟨k + 1, tks ++ [(y, ao2, cap2)], _, by omega, by go_num, C4.out, X4.out⟩
            case measure => simp [intOf]; omega
          · go_simp
            refine hK _ _ ?_
            clear hK K
            refine wpAny_ready (rs := [1, 6]) (by kernel_rfl) (by simp) ?_
            refine (AllReady.cons rfl (fun K hK => ?_) (AllReady.cons rfl (fun K hK => ?_) AllReady.nil))
            · go_simp
              refine hK _ _ ?_
              clear hK K
              refine take_oneB 6 (AllReady.cons rfl (fun K hK => ?_) AllReady.nil) (by kernel_rfl)
              go_simp
              refine hK _ _ ?_
              clear hK K
              refine take_oneB 9 (AllReady.cons rfl (fun K hK => ?_) AllReady.nil) (by kernel_rfl)
              go_simp
              refine (CF.out _ (BR.out.bl.drew)).mono ?_
              rintro e w2 ⟨⟨ao2, cap2, rfl, hkr2, hbd2⟩, hb2⟩
              have C2 := hideC ((BR.out.keep (Below.refl _ _).drew).keep hb2)
              have X2 := hideC ((XR.out.keep (Below.refl _ _).drew).keep hb2)
              have KR2 := hideC hkr2
              have BD2 := hideC hbd2
              have SZ2 := hideC hb2.size
              have d5 := C2.out.o5
              have hl2 := C2.out.pl
              have e5 : (w2.alloc (.cells #[.int .i64 y.kind, .string y.name, .int .i64 y.so, .int .i64 y.n, .string y.s, .slice ao2 y.kids.length cap2] 26)).cell? ⟨w.heap.size + 1 + 1 + 1, 5, none⟩ = some u := (World.cell?_alloc_past _ _ _ C2.out.pl).trans C2.out.o5
              have L3 := hideC (World.ownsRow_lit (base := w.heap.size + 1 + 1 + 1 + 1) (e := 26) (size := 6) w2 #[.int .i64 y.kind, .string y.name, .int .i64 y.so, .int .i64 y.n, .string y.s, .slice ao2 y.kids.length cap2] 1 C2.out.pl (by decide) rfl)
              have U3 := hideC (own_below C2.out.own ((Below.refl _ _).alloc (Nat.le_refl _) (.cells #[.int .i64 y.kind, .string y.name, .int .i64 y.so, .int .i64 y.n, .string y.s, .slice ao2 y.kids.length cap2] 26)))
              clear hkr2 hbd2 hb2
              refine hK _ _ ?_
              clear hK K
              refine take_oneB 10 (AllReady.cons rfl (fun K hK => ?_) AllReady.nil) (by kernel_rfl)
              go_simp
              refine hK _ _ ?_
              clear hK K
              refine take_oneB 11 (AllReady.cons rfl (fun K hK => ?_) AllReady.nil) (by kernel_rfl)
              refine step_append_rows _ rfl _ _ 24 rfl (w.heap.size + 1 + 1 + 1 + 1) (w.heap.size + 1 + 1 + 1 + 1) 26 i0 _ 6 80 Tryz.underlying24 hi hz0 hz1 hz2 rfl (by decide) _ _ _ rfl U3.out _ _ _ rfl L3.out (eCs_one [(y, ao2, cap2)]) (by unfold maxLen; omega) (by omega) (by simp; omega) ?_
              intro u4 w4 hO4 hg4 hn4
              replace hg4 : (w2.alloc (.cells #[.int .i64 y.kind, .string y.name, .int .i64 y.so, .int .i64 y.n, .string y.s, .slice ao2 y.kids.length cap2] 26)).grownBy w4 u.ownBlock := hg4
              replace hn4 : u4.ownBlock = u.ownBlock ∨ u4.ownBlock = some (w2.alloc (.cells #[.int .i64 y.kind, .string y.name, .int .i64 y.so, .int .i64 y.n, .string y.s, .slice ao2 y.kids.length cap2] 26)).heap.size := hn4
              have C4 := hideC (C2.out.add (y, ao2, cap2) hlt HY.out BD2.out _ KR2.out (fun g hg => (BR.out.own.lt g hg).2) BR.out.pl hg4 hO4 hn4)
              have X4 := hideC (C2.out.box X2.out (u4 := u4) hg4 (by omega))
              have hb4 : w4.heap[w.heap.size + 1 + 1 + 1]? = w2.heap[w.heap.size + 1 + 1 + 1]? := (hg4.block _ (by simp; omega) (fun e => by have := (C2.out.own.lt _ e.symm).1; omega)).trans (heap_alloc_old w2 (.cells #[.int .i64 y.kind, .string y.name, .int .i64 y.so, .int .i64 y.n, .string y.s, .slice ao2 y.kids.length cap2] 26) C2.out.pl)
              have g5 := (World.cell?_of_block (a := ⟨w.heap.size + 1 + 1 + 1, 5, none⟩) hb4).trans C2.out.o5
              have gf5 := (World.frozen?_of_block (a := ⟨w.heap.size + 1 + 1 + 1, 5, none⟩) hb4).trans (C2.out.fr 5)
              obtain ⟨a4, n4, cp4, rfl⟩ := slice_ownQ hO4
              clear hO4 hg4 hn4 hb4
              refine hK _ _ ?_
              clear hK K
              refine take_oneB 12 (AllReady.cons rfl (fun K hK => ?_) AllReady.nil) (by kernel_rfl)
              go_simp
              refine hK _ _ ?_
              clear hK K
              refine take_oneB 13 (AllReady.cons rfl (fun K hK => ?_) AllReady.nil) (by kernel_rfl)
              go_simp
              refine hK _ _ ?_
              clear hK K
              refine wpAny_done (by kernel_rfl) ?_ _
              go_wp2_with fail
              go_roundw
              case rel => exact ⟨k + 1, tks ++ [(y, ao2, cap2)], _, by omega, by go_num, C4.out, X4.out⟩
              case measure => simp [intOf]; omega
            · go_simp
              refine hK _ _ ?_
              clear hK K
              refine wpAny_ready (rs := [1, 9]) (by kernel_rfl) (by simp) ?_
              refine (AllReady.cons rfl (fun K hK => ?_) (AllReady.cons rfl (fun K hK => ?_) AllReady.nil))
              · go_simp
                refine hK _ _ ?_
                clear hK K
                refine take_oneB 9 (AllReady.cons rfl (fun K hK => ?_) AllReady.nil) (by kernel_rfl)
                go_simp
                refine (CF.out _ (BR.out.bl.drew)).mono ?_
                rintro e w2 ⟨⟨ao2, cap2, rfl, hkr2, hbd2⟩, hb2⟩
                have C2 := hideC ((BR.out.keep (Below.refl _ _).drew).keep hb2)
                have X2 := hideC ((XR.out.keep (Below.refl _ _).drew).keep hb2)
                have KR2 := hideC hkr2
                have BD2 := hideC hbd2
                have SZ2 := hideC hb2.size
                have d5 := C2.out.o5
                have hl2 := C2.out.pl
                have e5 : (w2.alloc (.cells #[.int .i64 y.kind, .string y.name, .int .i64 y.so, .int .i64 y.n, .string y.s, .slice ao2 y.kids.length cap2] 26)).cell? ⟨w.heap.size + 1 + 1 + 1, 5, none⟩ = some u := (World.cell?_alloc_past _ _ _ C2.out.pl).trans C2.out.o5
                have L3 := hideC (World.ownsRow_lit (base := w.heap.size + 1 + 1 + 1 + 1) (e := 26) (size := 6) w2 #[.int .i64 y.kind, .string y.name, .int .i64 y.so, .int .i64 y.n, .string y.s, .slice ao2 y.kids.length cap2] 1 C2.out.pl (by decide) rfl)
                have U3 := hideC (own_below C2.out.own ((Below.refl _ _).alloc (Nat.le_refl _) (.cells #[.int .i64 y.kind, .string y.name, .int .i64 y.so, .int .i64 y.n, .string y.s, .slice ao2 y.kids.length cap2] 26)))
                clear hkr2 hbd2 hb2
                refine hK _ _ ?_
                clear hK K
                refine take_oneB 10 (AllReady.cons rfl (fun K hK => ?_) AllReady.nil) (by kernel_rfl)
                go_simp
                refine hK _ _ ?_
                clear hK K
                refine take_oneB 11 (AllReady.cons rfl (fun K hK => ?_) AllReady.nil) (by kernel_rfl)
                refine step_append_rows _ rfl _ _ 24 rfl (w.heap.size + 1 + 1 + 1 + 1) (w.heap.size + 1 + 1 + 1 + 1) 26 i0 _ 6 80 Tryz.underlying24 hi hz0 hz1 hz2 rfl (by decide) _ _ _ rfl U3.out _ _ _ rfl L3.out (eCs_one [(y, ao2, cap2)]) (by unfold maxLen; omega) (by omega) (by simp; omega) ?_
                intro u4 w4 hO4 hg4 hn4
                replace hg4 : (w2.alloc (.cells #[.int .i64 y.kind, .string y.name, .int .i64 y.so, .int .i64 y.n, .string y.s, .slice ao2 y.kids.length cap2] 26)).grownBy w4 u.ownBlock := hg4
                replace hn4 : u4.ownBlock = u.ownBlock ∨ u4.ownBlock = some (w2.alloc (.cells #[.int .i64 y.kind, .string y.name, .int .i64 y.so, .int .i64 y.n, .string y.s, .slice ao2 y.kids.length cap2] 26)).heap.size := hn4
                have C4 := hideC (C2.out.add (y, ao2, cap2) hlt HY.out BD2.out _ KR2.out (fun g hg => (BR.out.own.lt g hg).2) BR.out.pl hg4 hO4 hn4)
                have X4 := hideC (C2.out.box X2.out (u4 := u4) hg4 (by omega))
                have hb4 : w4.heap[w.heap.size + 1 + 1 + 1]? = w2.heap[w.heap.size + 1 + 1 + 1]? := (hg4.block _ (by simp; omega) (fun e => by have := (C2.out.own.lt _ e.symm).1; omega)).trans (heap_alloc_old w2 (.cells #[.int .i64 y.kind, .string y.name, .int .i64 y.so, .int .i64 y.n, .string y.s, .slice ao2 y.kids.length cap2] 26) C2.out.pl)
                have g5 := (World.cell?_of_block (a := ⟨w.heap.size + 1 + 1 + 1, 5, none⟩) hb4).trans C2.out.o5
                have gf5 := (World.frozen?_of_block (a := ⟨w.heap.size + 1 + 1 + 1, 5, none⟩) hb4).trans (C2.out.fr 5)
                obtain ⟨a4, n4, cp4, rfl⟩ := slice_ownQ hO4
                clear hO4 hg4 hn4 hb4
                refine hK _ _ ?_
                clear hK K
                refine take_oneB 12 (AllReady.cons rfl (fun K hK => ?_) AllReady.nil) (by kernel_rfl)
                go_simp
                refine hK _ _ ?_
                clear hK K
                refine take_oneB 13 (AllReady.cons rfl (fun K hK => ?_) AllReady.nil) (by kernel_rfl)
                go_simp
                refine hK _ _ ?_
                clear hK K
                refine wpAny_done (by kernel_rfl) ?_ _
                go_wp2_with fail
                go_roundw
                case rel => exact ⟨k + 1, tks ++ [(y, ao2, cap2)], _, by omega, by go_num, C4.out, X4.out⟩
                case measure => simp [intOf]; omega
              · go_simp
                refine (CF.out _ (BR.out.bl.drew)).mono ?_
                rintro e w2 ⟨⟨ao2, cap2, rfl, hkr2, hbd2⟩, hb2⟩
                have C2 := hideC ((BR.out.keep (Below.refl _ _).drew).keep hb2)
                have X2 := hideC ((XR.out.keep (Below.refl _ _).drew).keep hb2)
                have KR2 := hideC hkr2
                have BD2 := hideC hbd2
                have SZ2 := hideC hb2.size
                have d5 := C2.out.o5
                have hl2 := C2.out.pl
                have e5 : (w2.alloc (.cells #[.int .i64 y.kind, .string y.name, .int .i64 y.so, .int .i64 y.n, .string y.s, .slice ao2 y.kids.length cap2] 26)).cell? ⟨w.heap.size + 1 + 1 + 1, 5, none⟩ = some u := (World.cell?_alloc_past _ _ _ C2.out.pl).trans C2.out.o5
                have L3 := hideC (World.ownsRow_lit (base := w.heap.size + 1 + 1 + 1 + 1) (e := 26) (size := 6) w2 #[.int .i64 y.kind, .string y.name, .int .i64 y.so, .int .i64 y.n, .string y.s, .slice ao2 y.kids.length cap2] 1 C2.out.pl (by decide) rfl)
                have U3 := hideC (own_below C2.out.own ((Below.refl _ _).alloc (Nat.le_refl _) (.cells #[.int .i64 y.kind, .string y.name, .int .i64 y.so, .int .i64 y.n, .string y.s, .slice ao2 y.kids.length cap2] 26)))
                clear hkr2 hbd2 hb2
                refine hK _ _ ?_
                clear hK K
                refine wpAny_ready (rs := [1, 10]) (by kernel_rfl) (by simp) ?_
                refine (AllReady.cons rfl (fun K hK => ?_) (AllReady.cons rfl (fun K hK => ?_) AllReady.nil))
                · go_simp
                  refine hK _ _ ?_
                  clear hK K
                  refine take_oneB 10 (AllReady.cons rfl (fun K hK => ?_) AllReady.nil) (by kernel_rfl)
                  go_simp
                  refine hK _ _ ?_
                  clear hK K
                  refine take_oneB 11 (AllReady.cons rfl (fun K hK => ?_) AllReady.nil) (by kernel_rfl)
                  refine step_append_rows _ rfl _ _ 24 rfl (w.heap.size + 1 + 1 + 1 + 1) (w.heap.size + 1 + 1 + 1 + 1) 26 i0 _ 6 80 Tryz.underlying24 hi hz0 hz1 hz2 rfl (by decide) _ _ _ rfl U3.out _ _ _ rfl L3.out (eCs_one [(y, ao2, cap2)]) (by unfold maxLen; omega) (by omega) (by simp; omega) ?_
                  intro u4 w4 hO4 hg4 hn4
                  replace hg4 : (w2.alloc (.cells #[.int .i64 y.kind, .string y.name, .int .i64 y.so, .int .i64 y.n, .string y.s, .slice ao2 y.kids.length cap2] 26)).grownBy w4 u.ownBlock := hg4
                  replace hn4 : u4.ownBlock = u.ownBlock ∨ u4.ownBlock = some (w2.alloc (.cells #[.int .i64 y.kind, .string y.name, .int .i64 y.so, .int .i64 y.n, .string y.s, .slice ao2 y.kids.length cap2] 26)).heap.size := hn4
                  have C4 := hideC (C2.out.add (y, ao2, cap2) hlt HY.out BD2.out _ KR2.out (fun g hg => (BR.out.own.lt g hg).2) BR.out.pl hg4 hO4 hn4)
                  have X4 := hideC (C2.out.box X2.out (u4 := u4) hg4 (by omega))
                  have hb4 : w4.heap[w.heap.size + 1 + 1 + 1]? = w2.heap[w.heap.size + 1 + 1 + 1]? := (hg4.block _ (by simp; omega) (fun e => by have := (C2.out.own.lt _ e.symm).1; omega)).trans (heap_alloc_old w2 (.cells #[.int .i64 y.kind, .string y.name, .int .i64 y.so, .int .i64 y.n, .string y.s, .slice ao2 y.kids.length cap2] 26) C2.out.pl)
                  have g5 := (World.cell?_of_block (a := ⟨w.heap.size + 1 + 1 + 1, 5, none⟩) hb4).trans C2.out.o5
                  have gf5 := (World.frozen?_of_block (a := ⟨w.heap.size + 1 + 1 + 1, 5, none⟩) hb4).trans (C2.out.fr 5)
                  obtain ⟨a4, n4, cp4, rfl⟩ := slice_ownQ hO4
                  clear hO4 hg4 hn4 hb4
                  refine hK _ _ ?_
                  clear hK K
                  refine take_oneB 12 (AllReady.cons rfl (fun K hK => ?_) AllReady.nil) (by kernel_rfl)
                  go_simp
                  refine hK _ _ ?_
                  clear hK K
                  refine take_oneB 13 (AllReady.cons rfl (fun K hK => ?_) AllReady.nil) (by kernel_rfl)
                  go_simp
                  refine hK _ _ ?_
                  clear hK K
                  refine wpAny_done (by kernel_rfl) ?_ _
                  go_wp2_with fail
                  go_roundw
                  case rel => exact ⟨k + 1, tks ++ [(y, ao2, cap2)], _, by omega, by go_num, C4.out, X4.out⟩
                  case measure => simp [intOf]; omega
                · go_simp
                  refine hK _ _ ?_
                  clear hK K
                  refine take_oneB 1 (AllReady.cons rfl (fun K hK => ?_) AllReady.nil) (by kernel_rfl)
                  go_simp
                  refine hK _ _ ?_
                  clear hK K
                  refine take_oneB 11 (AllReady.cons rfl (fun K hK => ?_) AllReady.nil) (by kernel_rfl)
                  refine step_append_rows _ rfl _ _ 24 rfl (w.heap.size + 1 + 1 + 1 + 1) (w.heap.size + 1 + 1 + 1 + 1) 26 i0 _ 6 80 Tryz.underlying24 hi hz0 hz1 hz2 rfl (by decide) _ _ _ rfl U3.out _ _ _ rfl L3.out (eCs_one [(y, ao2, cap2)]) (by unfold maxLen; omega) (by omega) (by simp; omega) ?_
                  intro u4 w4 hO4 hg4 hn4
                  replace hg4 : (w2.alloc (.cells #[.int .i64 y.kind, .string y.name, .int .i64 y.so, .int .i64 y.n, .string y.s, .slice ao2 y.kids.length cap2] 26)).grownBy w4 u.ownBlock := hg4
                  replace hn4 : u4.ownBlock = u.ownBlock ∨ u4.ownBlock = some (w2.alloc (.cells #[.int .i64 y.kind, .string y.name, .int .i64 y.so, .int .i64 y.n, .string y.s, .slice ao2 y.kids.length cap2] 26)).heap.size := hn4
                  have C4 := hideC (C2.out.add (y, ao2, cap2) hlt HY.out BD2.out _ KR2.out (fun g hg => (BR.out.own.lt g hg).2) BR.out.pl hg4 hO4 hn4)
                  have X4 := hideC (C2.out.box X2.out (u4 := u4) hg4 (by omega))
                  have hb4 : w4.heap[w.heap.size + 1 + 1 + 1]? = w2.heap[w.heap.size + 1 + 1 + 1]? := (hg4.block _ (by simp; omega) (fun e => by have := (C2.out.own.lt _ e.symm).1; omega)).trans (heap_alloc_old w2 (.cells #[.int .i64 y.kind, .string y.name, .int .i64 y.so, .int .i64 y.n, .string y.s, .slice ao2 y.kids.length cap2] 26) C2.out.pl)
                  have g5 := (World.cell?_of_block (a := ⟨w.heap.size + 1 + 1 + 1, 5, none⟩) hb4).trans C2.out.o5
                  have gf5 := (World.frozen?_of_block (a := ⟨w.heap.size + 1 + 1 + 1, 5, none⟩) hb4).trans (C2.out.fr 5)
                  obtain ⟨a4, n4, cp4, rfl⟩ := slice_ownQ hO4
                  clear hO4 hg4 hn4 hb4
                  refine hK _ _ ?_
                  clear hK K
                  refine take_oneB 12 (AllReady.cons rfl (fun K hK => ?_) AllReady.nil) (by kernel_rfl)
                  go_simp
                  refine hK _ _ ?_
                  clear hK K
                  refine take_oneB 13 (AllReady.cons rfl (fun K hK => ?_) AllReady.nil) (by kernel_rfl)
                  go_simp
                  refine hK _ _ ?_
                  clear hK K
                  refine wpAny_done (by kernel_rfl) ?_ _
                  go_wp2_with fail
                  go_roundw
                  case rel => exact ⟨k + 1, tks ++ [(y, ao2, cap2)], _, by omega, by go_num, C4.out, X4.out⟩
                  case measure => simp [intOf]; omega
    · have hltz : ¬ (k : Int) < (x.kids.length : Int) := by omega
      have hkl : k = x.kids.length := by omega
      subst hkl
      have hzl := hBL.zl
      obtain ⟨aoR, capR, rfl, _, _⟩ := BR.out.done HBD.out rfl (fun _ _ _ => rfl)
      obtain ⟨zlt, z0, z1, z2, z3, z4, z5, zf⟩ := BR.out.z
      have q0 := BR.out.o0
      have q1 := BR.out.o1
      have q2 := BR.out.o2
      have q3 := BR.out.o3
      have q4 := BR.out.o4
      have q5 := BR.out.o5
      have f0 := zf 0
      have f1 := zf 1
      have f2 := zf 2
      have f3 := zf 3
      have f4 := zf 4
      have f5 := zf 5
      clear zf hBL hXB
      go_wp2_with fail
      refine bodyPost_ret (v := .agg #[.int .i64 x.kind, .string x.name, .int .i64 x.so, .int .i64 x.n, .string x.s, .slice aoR x.kids.length capR]) (by simp [results, Tryz.results9, go_sem, z0, z1, z2, z3, z4, z5]) rfl ⟨?_, ?_⟩
      · obtain ⟨a, c, e, hK, hB⟩ := BR.out.done (W' := (st6 wr (w.heap.size + 1 + 1) 0 (.int .i64 x.kind) (.string x.name) (.int .i64 x.so) (.int .i64 x.n) (.string x.s) (.slice aoR x.kids.length capR))) HBD.out (st6_size _ _ _ _ _ _ _ _ _) (fun b o hb => st6_other _ _ _ _ _ _ _ _ _ _ _ (.inl (by omega)))
        injection e with e1 _ e2
        subst e1 e2
        exact ⟨_, _, by simp, hK, hB⟩
      · have hbe := BR.out.bl
        have hsw := hbe.size
        go_grown
end Go.Proofs.YtecapnipkngniaaGreatDoor
