/-
  The contracts of package duetbig's Int.Neg, Int.Add, Int.Sub and Int.Mul, of one number by another in its place.
-/
import Derived.Test.YtecapnipkngniaaGreatDoorCi
namespace Go.Proofs.YtecapnipkngniaaGreatDoor
open Go.RowKit

theorem take_oneB {P : Program} {ops : Array Oper} {md : Region.Mode} {Q : Exit → Act → World → Prop} {fuel : Nat} {listed : Array Bool} {a : Act} {w : World} (i : Nat) (h : AllReady P md ops Q fuel listed a w [i]) (hr : Region.ready md ops listed = [i]) : wpAny P md ops Q (fuel + 1) listed a w := wpAny_ready hr (by simp) h
theorem IntB.drew {W : World} {zb : Nat} {neg : Bool} {x : Nat} (h : IntB W zb neg x) : IntB W.drew zb neg x := h.keep (Below.refl _ _).drew
/-- a number's two cells, and what is stored in them behind calls that only make new blocks -/
theorem give_end {w W : World} {zb : Nat} {b0 : Bool} {x0 : Nat} (h : IntB w zb b0 x0) (hb : Below w.heap.size w W) (n : Bool) (v : Value) (m : Nat) (hv : NumAt W v m) :
    Calls Tryz.prog 81 #[.pointer (some ⟨zb, 0, none⟩), .bool n, v] W fun e w' => e = .returned (.pointer (some ⟨zb, 0, none⟩)) ∧ (∃ n', IntAt w' zb n' m ∧ sg n' m = sg n m) ∧ Below zb w w' := by
  obtain ⟨ao, k, cap, rfl⟩ := hv.slc
  have hk := h.keep hb
  obtain ⟨_, c, hc, _⟩ := hk.c1
  refine (give_eq zb n ao k cap W b0 c hk.c0 hc hk.f0 hk.f1).mono ?_
  rintro e w2 ⟨rfl, rfl⟩
  rw [num_pos hv]
  exact ⟨rfl, ⟨_, ⟨by rw [putI_size]; exact hk.lt, putI_0 hk.c0 _ _, _, putI_1 hc _ _, hv.putI hk.c0 _ _⟩, sg_eq n m⟩, putI_below (hb.mono (Nat.le_of_lt h.lt)) zb (Nat.le_refl _) _ _⟩
set_option maxRecDepth 100000 in
set_option maxHeartbeats 1000000 in
theorem twin_all (g cap : Nat) (ws : List Nat) (x : Nat) (w : World) (hw : Words ws x) (hlen : ws.length ≤ 1000000) (hc : ∀ j, j < ws.length → w.cell? ⟨g, j, none⟩ = some (.int .u32 (ws.getD j 0 : Nat))) :
    Calls Tryz.prog 82 #[.slice (some ⟨g, 0, none⟩) ws.length cap] w fun e w' => ∃ v, e = .returned v ∧ NumAt w' v x ∧ Below w.heap.size w w' := by
  obtain ⟨i0, hi, hz0, hz1, hz2⟩ := info_u32
  have hnil := World.ownsRow_nil w w.heap.size 122 1
  have HC : Hid (∀ j, j < ws.length → w.cell? ⟨g, j, none⟩ = some (.int .u32 (ws.getD j 0 : Nat))) := hc
  clear hc
  go_enter Tryz.func82, Tryz.ntmps82
  go_wp2_with (at_builtin; refine wpList_append_own _ rfl _ _ 98 rfl w.heap.size 122 i0 (.int .u32 0) 1 4 Tryz.underlying98 hi hz0 hz1 hz2 rfl (by decide) _ _ _ rfl hnil ⟨g, 0, none⟩ ws.length cap (ws.map fun (y : Nat) => Value.int .u32 (y : Int)) rfl (by simp) ?c1 ?c2 ?c3 ?c4 ?c5 ?_)
  case c1 =>
    intro j u hj
    rw [List.getElem?_map] at hj
    by_cases hjl : j < ws.length
    · rw [List.getElem?_eq_getElem hjl] at hj
      simp at hj
      subst hj
      have := HC.out j hjl
      rw [addj]
      rw [this, List.getD, List.getElem?_eq_getElem hjl]; rfl
    · rw [List.getElem?_eq_none (by omega)] at hj; simp at hj
  case c2 => intro u hu; simp at hu; obtain ⟨y, _, rfl⟩ := hu; rfl
  case c3 => unfold maxLen; omega
  case c4 => omega
  case c5 => omega
  intro v' w2 hown' hgrow hnn
  have hnum : NumAt w2 v' x := by
    refine ⟨ws, hw, ?_⟩
    rcases hown'.2 with ⟨hv0, h0'⟩ | ⟨g', cap', cur, hv, hb, hbk, hcap, _, _, htk⟩
    · skip
      exact .inl ⟨by simpa using hv0, List.eq_nil_of_length_eq_zero (by simpa using h0')⟩
    · refine .inr ⟨g', cap', by rw [hv], by omega, (Array.getElem?_eq_some_iff.1 hbk).1, fun j hj => ?_⟩
      have h1 := hown'.cells (g := g') (by rw [hv]; rfl) j (.int .u32 (ws.getD j 0 : Nat)) (by simp [List.getD, List.getElem?_eq_getElem hj])
      rw [addj] at h1
      exact h1
  have hbw : Below w.heap.size w w2 := (Below.refl _ _).grown hgrow (Nat.le_refl _) (fun k hk => by simp [Value.ownBlock] at hk)
  obtain ⟨ao, n', cap', rfl⟩ : ∃ ao n' cap', v' = .slice ao n' cap' := by
    rcases hown'.2 with ⟨hv, _⟩ | ⟨g, cap, cur, hv, _⟩
    · exact ⟨_, _, _, hv⟩
    · exact ⟨_, _, _, hv⟩
  go_wp2
  go_ret
  exact ⟨_, rfl, hnum, hbw⟩

theorem twinB (v : Value) (g x : Nat) (w : World) (h : BlkAt w g v x) (hx : x < 4294967296 ^ 9) :
    Calls Tryz.prog 82 #[v] w fun e w' => (∃ v, e = .returned v ∧ NumAt w' v x) ∧ Below w.heap.size w w' := by
  obtain ⟨ws, cap, h1, rfl, h3, h4, h5⟩ := h
  refine (twin_all g cap ws x w h1 (by have := words_len h1 hx; omega) h5).mono ?_
  rintro e w' ⟨v, e1, e2, e3⟩
  exact ⟨⟨v, e1, e2⟩, e3⟩
set_option maxRecDepth 100000 in
set_option maxHeartbeats 4000000 in
theorem neg_any (zb : Nat) (xn : Bool) (x : Nat) (w : World) (h : IntB w zb xn x) (hx : x < 18446744073709551616) :
    Calls Tryz.prog 52 #[.pointer (some ⟨zb, 0, none⟩), .pointer (some ⟨zb, 0, none⟩)] w fun e w' => e = .returned (.pointer (some ⟨zb, 0, none⟩)) ∧ (∃ n m, IntAt w' zb n m ∧ sg n m = - sg xn x ∧ m < 4294967296 ^ 4) ∧ Below zb w w' := by
  have hd := h.drew
  have HBD : Hid (Below zb w w.drew) := (Below.refl _ _).drew
  have HS : Hid (sg (!xn) x = - sg xn x) := by show _ = _; unfold sg; cases xn <;> simp
  obtain ⟨g, V, hc1, hbl⟩ := hd.c1
  have hc0 := hd.c0
  have CT := hideC (twinB V g x w.drew hbl (by omega))
  have HI := hideC hd
  obtain ⟨n0, cap0, rfl⟩ := hbl.slot
  clear h hd hbl
  go_enter Tryz.func52, Tryz.ntmps52
  go_wp2_with fail
  refine wp_region_any (by kernel_rfl) ?_
  change wpAny _ _ _ _ _ _ _ (World.drew _)
  refine wpAny_take (i := 0) (v := .pointer (some ⟨zb, 0, none⟩)) rfl (by kernel_rfl) (by kernel_rfl) (by kernel_rfl) (fun _ _ _ h => h) (Or.inl ⟨by rfl, fun w => by go_simp⟩) ?_
  refine wpAny_take (i := 1) (v := .pointer (some ⟨zb, 0, none⟩)) rfl (by kernel_rfl) (by kernel_rfl) (by kernel_rfl) (fun _ _ _ h => h) (Or.inl ⟨by rfl, fun w => by go_simp⟩) ?_
  refine wpAny_take (i := 2) (v := .pointer (some ⟨zb, 0, none⟩)) rfl (by kernel_rfl) (by kernel_rfl) (by kernel_rfl) (fun _ _ _ h => h) (Or.inl ⟨by rfl, fun w => by go_simp⟩) ?_
  refine wpAny_take (i := 3) (v := .pointer (some ⟨zb, 0, none⟩)) rfl (by kernel_rfl) (by kernel_rfl) (by kernel_rfl) (fun _ _ _ h => h) (Or.inl ⟨by rfl, fun w => by go_simp⟩) ?_
  refine wpAny_take (i := 6) (v := .pointer (some ⟨zb, 0, none⟩)) rfl (by kernel_rfl) (by kernel_rfl) (by kernel_rfl) (fun _ _ _ h => h) (Or.inl ⟨by rfl, fun w => by go_simp⟩) ?_
  refine wpAny_take (i := 7) (v := .pointer (some ⟨zb, 0, none⟩)) rfl (by kernel_rfl) (by kernel_rfl) (by kernel_rfl) (fun _ _ _ h => h) (Or.inl ⟨by rfl, fun w => by go_simp⟩) ?_
  refine wpAny_take (i := 8) (v := .pointer (some ⟨zb, 1, none⟩)) rfl (by kernel_rfl) (by kernel_rfl) (by kernel_rfl) (fun _ _ _ h => h) (Or.inl ⟨by rfl, fun w => by go_simp⟩) ?_
  refine wpAny_ready (rs := [4, 9]) (by kernel_rfl) (by simp) ?_
  refine (AllReady.cons rfl (fun K hK => ?_) (AllReady.cons rfl (fun K hK => ?_) AllReady.nil))
  · go_simp
    refine hK _ _ ?_
    clear hK K
    refine wpAny_ready (rs := [5, 9]) (by kernel_rfl) (by simp) ?_
    refine (AllReady.cons rfl (fun K hK => ?_) (AllReady.cons rfl (fun K hK => ?_) AllReady.nil))
    · go_simp
      refine hK _ _ ?_
      clear hK K
      refine take_oneB 9 (AllReady.cons rfl (fun K hK => ?_) AllReady.nil) (by kernel_rfl)
      go_simp
      refine hK _ _ ?_
      clear hK K
      refine take_oneB 10 (AllReady.cons rfl (fun K hK => ?_) AllReady.nil) (by kernel_rfl)
      go_simp
      refine CT.out.mono ?_
      rintro e w1 ⟨⟨v, rfl, hv⟩, hb1⟩
      have K1 := HI.out.keep hb1
      have k0 := K1.c0
      obtain ⟨ao, k, cap, rfl⟩ := hv.slc
      refine hK _ _ ?_
      clear hK K
      refine take_oneB 11 (AllReady.cons rfl (fun K hK => ?_) AllReady.nil) (by kernel_rfl)
      go_simp
      refine (give_end HI.out hb1 (!xn) _ x hv).mono ?_
      rintro e w2 ⟨rfl, ⟨n', hn1, hn2⟩, hb2⟩
      refine hK _ _ ?_
      clear hK K
      refine take_oneB 12 (AllReady.cons rfl (fun K hK => ?_) AllReady.nil) (by kernel_rfl)
      go_simp
      refine hK _ _ ?_
      clear hK K
      refine wpAny_done (by kernel_rfl) ?_ _
      go_wp2_with fail
      go_ret
      exact ⟨rfl, ⟨n', x, hn1, by rw [hn2, HS.out], by omega⟩, HBD.out.trans hb2⟩
    · go_simp
      refine hK _ _ ?_
      clear hK K
      refine wpAny_ready (rs := [5, 10]) (by kernel_rfl) (by simp) ?_
      refine (AllReady.cons rfl (fun K hK => ?_) (AllReady.cons rfl (fun K hK => ?_) AllReady.nil))
      · go_simp
        refine hK _ _ ?_
        clear hK K
        refine take_oneB 10 (AllReady.cons rfl (fun K hK => ?_) AllReady.nil) (by kernel_rfl)
        go_simp
        refine CT.out.mono ?_
        rintro e w1 ⟨⟨v, rfl, hv⟩, hb1⟩
        have K1 := HI.out.keep hb1
        have k0 := K1.c0
        obtain ⟨ao, k, cap, rfl⟩ := hv.slc
        refine hK _ _ ?_
        clear hK K
        refine take_oneB 11 (AllReady.cons rfl (fun K hK => ?_) AllReady.nil) (by kernel_rfl)
        go_simp
        refine (give_end HI.out hb1 (!xn) _ x hv).mono ?_
        rintro e w2 ⟨rfl, ⟨n', hn1, hn2⟩, hb2⟩
        refine hK _ _ ?_
        clear hK K
        refine take_oneB 12 (AllReady.cons rfl (fun K hK => ?_) AllReady.nil) (by kernel_rfl)
        go_simp
        refine hK _ _ ?_
        clear hK K
        refine wpAny_done (by kernel_rfl) ?_ _
        go_wp2_with fail
        go_ret
        exact ⟨rfl, ⟨n', x, hn1, by rw [hn2, HS.out], by omega⟩, HBD.out.trans hb2⟩
      · go_simp
        refine CT.out.mono ?_
        rintro e w1 ⟨⟨v, rfl, hv⟩, hb1⟩
        have K1 := HI.out.keep hb1
        have k0 := K1.c0
        obtain ⟨ao, k, cap, rfl⟩ := hv.slc
        refine hK _ _ ?_
        clear hK K
        refine take_oneB 5 (AllReady.cons rfl (fun K hK => ?_) AllReady.nil) (by kernel_rfl)
        go_simp
        refine hK _ _ ?_
        clear hK K
        refine take_oneB 11 (AllReady.cons rfl (fun K hK => ?_) AllReady.nil) (by kernel_rfl)
        go_simp
        refine (give_end HI.out hb1 (!xn) _ x hv).mono ?_
        rintro e w2 ⟨rfl, ⟨n', hn1, hn2⟩, hb2⟩
        refine hK _ _ ?_
        clear hK K
        refine take_oneB 12 (AllReady.cons rfl (fun K hK => ?_) AllReady.nil) (by kernel_rfl)
        go_simp
        refine hK _ _ ?_
        clear hK K
        refine wpAny_done (by kernel_rfl) ?_ _
        go_wp2_with fail
        go_ret
        exact ⟨rfl, ⟨n', x, hn1, by rw [hn2, HS.out], by omega⟩, HBD.out.trans hb2⟩
  · go_simp
    refine hK _ _ ?_
    clear hK K
    refine wpAny_ready (rs := [4, 10]) (by kernel_rfl) (by simp) ?_
    refine (AllReady.cons rfl (fun K hK => ?_) (AllReady.cons rfl (fun K hK => ?_) AllReady.nil))
    · go_simp
      refine hK _ _ ?_
      clear hK K
      refine wpAny_ready (rs := [5, 10]) (by kernel_rfl) (by simp) ?_
      refine (AllReady.cons rfl (fun K hK => ?_) (AllReady.cons rfl (fun K hK => ?_) AllReady.nil))
      · go_simp
        refine hK _ _ ?_
        clear hK K
        refine take_oneB 10 (AllReady.cons rfl (fun K hK => ?_) AllReady.nil) (by kernel_rfl)
        go_simp
        refine CT.out.mono ?_
        rintro e w1 ⟨⟨v, rfl, hv⟩, hb1⟩
        have K1 := HI.out.keep hb1
        have k0 := K1.c0
        obtain ⟨ao, k, cap, rfl⟩ := hv.slc
        refine hK _ _ ?_
        clear hK K
        refine take_oneB 11 (AllReady.cons rfl (fun K hK => ?_) AllReady.nil) (by kernel_rfl)
        go_simp
        refine (give_end HI.out hb1 (!xn) _ x hv).mono ?_
        rintro e w2 ⟨rfl, ⟨n', hn1, hn2⟩, hb2⟩
        refine hK _ _ ?_
        clear hK K
        refine take_oneB 12 (AllReady.cons rfl (fun K hK => ?_) AllReady.nil) (by kernel_rfl)
        go_simp
        refine hK _ _ ?_
        clear hK K
        refine wpAny_done (by kernel_rfl) ?_ _
        go_wp2_with fail
        go_ret
        exact ⟨rfl, ⟨n', x, hn1, by rw [hn2, HS.out], by omega⟩, HBD.out.trans hb2⟩
      · go_simp
        refine CT.out.mono ?_
        rintro e w1 ⟨⟨v, rfl, hv⟩, hb1⟩
        have K1 := HI.out.keep hb1
        have k0 := K1.c0
        obtain ⟨ao, k, cap, rfl⟩ := hv.slc
        refine hK _ _ ?_
        clear hK K
        refine take_oneB 5 (AllReady.cons rfl (fun K hK => ?_) AllReady.nil) (by kernel_rfl)
        go_simp
        refine hK _ _ ?_
        clear hK K
        refine take_oneB 11 (AllReady.cons rfl (fun K hK => ?_) AllReady.nil) (by kernel_rfl)
        go_simp
        refine (give_end HI.out hb1 (!xn) _ x hv).mono ?_
        rintro e w2 ⟨rfl, ⟨n', hn1, hn2⟩, hb2⟩
        refine hK _ _ ?_
        clear hK K
        refine take_oneB 12 (AllReady.cons rfl (fun K hK => ?_) AllReady.nil) (by kernel_rfl)
        go_simp
        refine hK _ _ ?_
        clear hK K
        refine wpAny_done (by kernel_rfl) ?_ _
        go_wp2_with fail
        go_ret
        exact ⟨rfl, ⟨n', x, hn1, by rw [hn2, HS.out], by omega⟩, HBD.out.trans hb2⟩
    · go_simp
      refine CT.out.mono ?_
      rintro e w1 ⟨⟨v, rfl, hv⟩, hb1⟩
      have K1 := HI.out.keep hb1
      have k0 := K1.c0
      obtain ⟨ao, k, cap, rfl⟩ := hv.slc
      refine hK _ _ ?_
      clear hK K
      refine take_oneB 4 (AllReady.cons rfl (fun K hK => ?_) AllReady.nil) (by kernel_rfl)
      go_simp
      refine hK _ _ ?_
      clear hK K
      refine take_oneB 5 (AllReady.cons rfl (fun K hK => ?_) AllReady.nil) (by kernel_rfl)
      go_simp
      refine hK _ _ ?_
      clear hK K
      refine take_oneB 11 (AllReady.cons rfl (fun K hK => ?_) AllReady.nil) (by kernel_rfl)
      go_simp
      refine (give_end HI.out hb1 (!xn) _ x hv).mono ?_
      rintro e w2 ⟨rfl, ⟨n', hn1, hn2⟩, hb2⟩
      refine hK _ _ ?_
      clear hK K
      refine take_oneB 12 (AllReady.cons rfl (fun K hK => ?_) AllReady.nil) (by kernel_rfl)
      go_simp
      refine hK _ _ ?_
      clear hK K
      refine wpAny_done (by kernel_rfl) ?_ _
      go_wp2_with fail
      go_ret
      exact ⟨rfl, ⟨n', x, hn1, by rw [hn2, HS.out], by omega⟩, HBD.out.trans hb2⟩
end Go.Proofs.YtecapnipkngniaaGreatDoor
/-
  The contracts of duetbig.length, duetbig.bit, Int.TrailingZeroBits, Int.Uint64, Int.Int64 and Int.IsInt64, for every number of at most three words.
-/
namespace Go.Proofs.YtecapnipkngniaaGreatDoor
open Go.RowKit Go.Shelf

theorem half_step (top k : Nat) (h : top / 2 ^ k ≠ 0) : 2 ^ k ≤ top := by
  rcases Nat.lt_or_ge top (2 ^ k) with h1 | h1
  · exact absurd (Nat.div_eq_of_lt h1) h
  · exact h1
theorem len_bd (low top B n : Nat) (hl : low < B) (h1 : 2 ^ n ≤ top) (h2 : top < 2 ^ (n + 1)) : B * 2 ^ n ≤ low + B * top ∧ low + B * top < B * 2 ^ (n + 1) := by
  have e1 := Nat.mul_le_mul_left B h1
  have e2 := Nat.mul_le_mul_left B h2
  rw [Nat.mul_succ] at e2
  omega
theorem val_last (ws : List Nat) (h : 0 < ws.length) : val ws = val (ws.take (ws.length - 1)) + 4294967296 ^ (ws.length - 1) * ws.getD (ws.length - 1) 0 := by
  have e := val_append (ws.take (ws.length - 1)) (ws.drop (ws.length - 1))
  rw [List.take_append_drop] at e
  rw [e, List.length_take, Nat.min_eq_left (by omega), val_drop ws _ (by omega)]
  rw [show ws.length - 1 + 1 = ws.length by omega, List.drop_length]
  simp [val]

/-- the length in bits -/
def BLen (x L : Nat) : Prop := (x = 0 → L = 0) ∧ (x ≠ 0 → ∃ n, L = n + 1 ∧ 2 ^ n ≤ x ∧ x < 2 ^ (n + 1))

theorem blen_of (ws : List Nat) (x n : Nat) (hw : Words ws x) (h : 0 < ws.length) (h1 : 2 ^ n ≤ ws.getD (ws.length - 1) 0) (h2 : ws.getD (ws.length - 1) 0 < 2 ^ (n + 1)) : BLen x ((ws.length - 1) * 32 + (n + 1)) := by
  have hv := val_last ws h
  rw [hw.val] at hv
  have hlow := val_lt (ws.take (ws.length - 1)) fun y hy => hw.small y (List.mem_of_mem_take hy)
  rw [List.length_take, Nat.min_eq_left (by omega)] at hlow
  have hb := len_bd _ _ _ n hlow h1 h2
  rw [← hv] at hb
  have e : ∀ m, 4294967296 ^ (ws.length - 1) * 2 ^ m = 2 ^ ((ws.length - 1) * 32 + m) := fun m => by
    rw [show (4294967296 : Nat) = 2 ^ 32 from rfl, ← Nat.pow_mul, ← Nat.pow_add, Nat.mul_comm 32]
  rw [e, e] at hb
  refine ⟨fun h0 => ?_, fun _ => ⟨_, rfl, hb.1, hb.2⟩⟩
  have := Nat.pow_pos (n := (ws.length - 1) * 32 + n) (show 0 < 2 by omega)
  omega

theorem shr1 (t : Nat) (h : t < 4294967296) : IntKind.u32.wrap ((t : Int) / 2) = ((t / 2 : Nat) : Int) := by
  unfold IntKind.wrap
  simp [IntKind.bits, IntKind.signed]
  omega

set_option maxHeartbeats 400000 in
theorem bitLen_any (v : Value) (x : Nat) (w : World) (h : NumAt w v x) (hx : x < 100000000000000000000) :
    Calls Tryz.prog 136 #[v] w fun e w' => ∃ L : Nat, e = .returned (.int .i64 (L : Int)) ∧ BLen x L ∧ w' = w := by
  obtain ⟨ws, hw, hu⟩ := h
  by_cases h0 : ws = []
  · subst h0
    obtain ⟨ao, cap, rfl⟩ := hu.slot
    have hx0 : x = 0 := by rw [← hw.val]; rfl
    go_enter Tryz.func136, Tryz.ntmps136
    go_wp2
    go_ret
    exact ⟨0, rfl, ⟨fun _ => rfl, fun h => absurd hx0 h⟩, rfl⟩
  · have hl0 := List.length_pos_iff.2 h0
    have hwl : ws.length ≤ 3 := words_len hw (k := 3) (by omega)
    rcases hu with ⟨_, h1⟩ | ⟨g, cap, rfl, hcap, hg, hc⟩
    · exact absurd h1 h0
    · obtain ⟨m, hm⟩ : ∃ m, ws.length = m + 1 := ⟨ws.length - 1, by omega⟩
      have hct := hc m (by omega)
      have HB : Hid (∀ n, 2 ^ n ≤ ws.getD m 0 → ws.getD m 0 < 2 ^ (n + 1) → BLen x (m * 32 + (n + 1))) := fun n q1 q2 => by
        have := blen_of ws x n hw hl0 (by rw [hm]; exact q1) (by rw [hm]; exact q2)
        rw [hm] at this; exact this
      have hts := hw.small _ (getD_mem ws m (by omega))
      have htz : ws.getD m 0 ≠ 0 := by
        have := hw.last h0
        rw [List.getLast_eq_getElem] at this
        rw [List.getD, List.getElem?_eq_getElem (by omega)]
        simpa [hm] using this
      generalize ws.getD m 0 = top at *
      have hm2 : m ≤ 2 := by omega
      rw [hm]
      clear hc hw hwl hcap hl0 h0
      have hmz : (m : Int) ≤ 2 := by omega
      have hlz : (((m + 1 : Nat) : Int) == 0) = false := by rw [beq_eq_false_iff_ne]; omega
      clear hm
      go_enter Tryz.func136, Tryz.ntmps136
      go_wp2_with fail
      go_loop [3, 4] (fun n t => ∃ k : Nat, k ≤ 32 ∧ n = .int .i64 (k : Int) ∧ t = .int .u32 ((top / 2 ^ k : Nat) : Int) ∧ (k = 0 ∨ 2 ^ (k - 1) ≤ top)) (fun n t => 33 - (intOf n).toNat)
      case atStart => exact ⟨0, by omega, rfl, by simp, .inl rfl⟩
      case round =>
        obtain ⟨k, hk, rfl, rfl, hkt⟩ := hrel
        have HK : Hid (k = 0 ∨ 2 ^ (k - 1) ≤ top) := hkt
        clear hkt
        have hkz : (k : Int) ≤ 32 := by omega
        have htk : top / 2 ^ k < 4294967296 := Nat.lt_of_le_of_lt (Nat.div_le_self _ _) hts
        by_cases ht : top / 2 ^ k = 0
        · rw [ht]
          have hk1 : ∃ n, k = n + 1 := by
            cases k with
            | zero => simp at ht; exact absurd ht htz
            | succ n => exact ⟨n, rfl⟩
          obtain ⟨n, rfl⟩ := hk1
          have hlt : top < 2 ^ (n + 1) := by
            rcases Nat.lt_or_ge top (2 ^ (n + 1)) with h | h
            · exact h
            · have := Nat.div_pos h (Nat.pow_pos (by omega)); omega
          have hbl := HB.out n (by rcases HK.out with h | h; exact absurd h (by omega); simpa using h) hlt
          clear hlt ht htk
          go_wp2
          go_ret
          refine ⟨m * 32 + (n + 1), ?_, hbl, rfl⟩
          go_num
        · have hsh := shr1 _ htk
          have hst := half_step top k ht
          have hk32 : k < 32 := by
            rcases Nat.lt_or_ge k 32 with h | h
            · exact h
            · have := Nat.pow_le_pow_right (show 0 < 2 by omega) h
              omega
          have hdd : top / 2 ^ k / 2 = top / 2 ^ (k + 1) := by rw [Nat.div_div_eq_div_mul, Nat.pow_succ]
          rw [hdd] at hsh
          have HDD : Hid (top / 2 ^ k / 2 = top / 2 ^ (k + 1)) := hdd
          have htb : (((top / 2 ^ k : Nat) : Int) == 0) = false := by rw [beq_eq_false_iff_ne]; omega
          have HST : Hid (2 ^ k ≤ top) := hst
          generalize hT : top / 2 ^ k = T at *
          clear hst hdd
          go_wp2_with fail
          go_round
          case rel => exact ⟨k + 1, by omega, by go_num, by rw [← HDD.out]; simp, .inr (by simpa using HST.out)⟩
          case measure => simp [intOf]; omega

theorem or32' (r x : Nat) (hr : r < 4294967296) (hx : x < 4294967296) : bits BinOp.or IntKind.u64 (x : Int) ((r : Int) * 4294967296) = ((r * 4294967296 + x : Nat) : Int) := by
  have h := u64_or_nat x (r * 4294967296) (by omega) (by omega)
  have e := Nat.two_pow_add_eq_or_of_lt (i := 32) (b := x) (by omega) r
  rw [show ((r : Int) * 4294967296) = ((r * 4294967296 : Nat) : Int) by omega, h, Nat.or_comm, Nat.mul_comm r, show (4294967296 : Nat) = 2 ^ 32 from rfl, ← e]

set_option maxHeartbeats 400000 in
theorem uint64_any (zb : Nat) (neg : Bool) (x : Nat) (w : World) (h : IntAt w zb neg x) (hx : x < 18446744073709551616) :
    Calls Tryz.prog 80 #[.pointer (some ⟨zb, 0, none⟩)] w fun e w' => e = .returned (.int .u64 (x : Int)) ∧ w' = w := by
  obtain ⟨hz, c0, v, c1, ws, hw, hu⟩ := h
  have hwl : ws.length ≤ 2 := words_len hw (k := 2) (by omega)
  match ws, hw, hwl, hu with
  | [], hw, _, hu =>
    obtain ⟨ao, cap, rfl⟩ := hu.slot
    have hx0 : x = 0 := by rw [← hw.val]; rfl
    subst hx0
    go_enter Tryz.func80, Tryz.ntmps80
    go_wp2
    go_ret
    exact ⟨rfl, rfl⟩
  | [a], hw, _, hu =>
    rcases hu with ⟨_, h1⟩ | ⟨g, cap, rfl, hcap, hg, hc⟩
    · cases h1
    · have hxa : a = x := by have := hw.val; simpa [val] using this
      subst hxa
      have ca := hc 0 (by simp)
      have ha := hw.small a (by simp)
      simp at ca
      clear hc hw
      go_enter Tryz.func80, Tryz.ntmps80
      go_wp2
      go_ret
      exact ⟨rfl, rfl⟩
  | [a, b], hw, _, hu =>
    rcases hu with ⟨_, h1⟩ | ⟨g, cap, rfl, hcap, hg, hc⟩
    · cases h1
    · have hxa : b * 4294967296 + a = x := by have := hw.val; simp [val] at this; omega
      have ca := hc 0 (by simp)
      have cb := hc 1 (by simp)
      have ha := hw.small a (by simp)
      have hb := hw.small b (by simp)
      have hor := or32' b a hb ha
      simp at ca cb
      rw [hxa] at hor
      have HOR : Hid (bits BinOp.or IntKind.u64 (a : Int) ((b : Int) * 4294967296) = (x : Int)) := hor
      clear hc hw hor
      go_enter Tryz.func80, Tryz.ntmps80
      go_wp2
      go_ret
      refine ⟨?_, rfl⟩
      show Ending.returned (.int .u64 (bits BinOp.or IntKind.u64 (a : Int) ((b : Int) * 4294967296))) = _
      rw [HOR.out]

def sgn (neg : Bool) (x : Nat) : Int := if neg then -(x : Int) else (x : Int)
theorem and_one (y : Nat) (h : y < 4294967296) : bits BinOp.and IntKind.u64 (IntKind.u64.wrap (y : Int)) 1 = ((y % 2 : Nat) : Int) := by
  rw [wrap_u64_nat y (by omega)]
  have := u64_and_nat y 1 (by omega) (by omega)
  rw [Nat.and_one_is_mod] at this
  exact this
theorem bit_low (a b i : Nat) (h : i < 32) : (a + 4294967296 * b) / 2 ^ i % 2 = a / 2 ^ i % 2 := by
  have e : 4294967296 * b = 2 ^ i * (2 * (2 ^ (31 - i) * b)) := by
    rw [← Nat.mul_assoc, ← Nat.mul_assoc, ← Nat.pow_succ, ← Nat.pow_add, show i.succ + (31 - i) = 32 by omega]
  rw [e, Nat.add_mul_div_left _ _ (Nat.pow_pos (by omega)), Nat.add_mul_mod_self_left]
theorem tz_step (x k : Nat) (h : x % 2 ^ k = 0) (h2 : x / 2 ^ k % 2 = 0) : x % 2 ^ (k + 1) = 0 := by
  rw [Nat.mod_pow_succ, h, h2]; simp
theorem tz_end (x k : Nat) (hk : k ≤ 63) (h1 : 9223372036854775808 ≤ x) (h2 : x < 18446744073709551616) (h : x % 2 ^ k = 0) (hb : x / 2 ^ k % 2 ≠ 0) : k = 63 ↔ x = 9223372036854775808 := by
  constructor
  · rintro rfl
    have e : (2 : Nat) ^ 63 = 9223372036854775808 := by decide
    rw [e] at h; omega
  · rintro rfl
    rcases Nat.lt_or_ge k 63 with hlt | hge
    · exfalso
      apply hb
      have e : (9223372036854775808 : Nat) = 2 ^ k * (2 * 2 ^ (62 - k)) := by
        rw [← Nat.mul_assoc, ← Nat.pow_succ, ← Nat.pow_add, show k.succ + (62 - k) = 63 by omega]
      rw [e, Nat.mul_div_cancel_left _ (Nat.pow_pos (by omega)), Nat.mul_mod_right]
    · omega

end Go.Proofs.YtecapnipkngniaaGreatDoor
