/-
  TypesBlanks: the walk through the law, for every type and every number.
-/
import Derived.Test.YtefdekfgmbgbbaaDoorTc
import Derived.Deep.LoopGhost
namespace Go.Proofs.YtefdekfgmbgbbaaDoor
open Go.RowKit Go.Shelf
/-- the text that is read ahead of all -/
def txA : ByteArray := ⟨#[32, 33, 32, 105, 110, 116, 32, 46, 32, 101, 110, 100, 32]⟩
theorem ps_txA : psT txA.data.toList = .ok ⟨2, 1, ⟨#[]⟩, [], [⟨1, 0, ⟨#[]⟩, [], []⟩]⟩ := by
  have hw : chkTy ⟨2, 1, ⟨#[]⟩, [], [⟨1, 0, ⟨#[]⟩, [], []⟩]⟩ = 0 := by
    have hp : partT ⟨2, 1, ⟨#[]⟩, [], [⟨1, 0, ⟨#[]⟩, [], []⟩]⟩ = true := by rw [part_2]; simp [ByteArray.toList_eq, swB]
    have hp1 : partT ⟨1, 0, ⟨#[]⟩, [], []⟩ = true := by rw [part_1]; simp [ByteArray.toList_eq]
    unfold chkTy
    rw [chkT_eq, if_neg (by omega), if_neg (by rw [hp]; simp), if_neg (by simp), if_neg (by simp)]
    show (chkTL [] [_] (0, 0 + 1)).1 = 0
    rw [chkTL_cons, if_neg (by simp), chkT_eq, if_neg (by simp), if_neg (by rw [hp1]; simp), if_neg (by simp), if_neg (by simp)]
    rfl
  have e : txA.data.toList = spL 1 (wrT ⟨2, 1, ⟨#[]⟩, [], [⟨1, 0, ⟨#[]⟩, [], []⟩]⟩) ++ [32] := by
    rw [wt_msg _ ⟨1, 0, ⟨#[]⟩, [], []⟩ (by simp) rfl, wt_end _ rfl]
    rfl
  have hw2 := chkTy_good _ hw
  have hb := wrT_back 1 _ hw2.1 2001 (by have := hw2.2; omega) [32] (noLow_blank [])
  rw [← e] at hb
  unfold psT
  rw [if_neg (by decide), hb]
  simp only
  rw [if_pos (show skB [32] = [] from rfl), if_pos hw]
theorem bs_cat (a b : List UInt8) : bs a ++ bs b = bs (a ++ b) := by
  apply ByteArray.ext
  apply Array.toList_inj.1
  rw [ba_app, bs_list, bs_list, bs_list]
theorem wide_cat (k : Nat) (c : UInt8) : bs (List.replicate k 32) ++ ⟨#[c]⟩ ++ bs (List.replicate k 32) = bs (wide k c) := by
  show bs (List.replicate k 32) ++ bs [c] ++ bs (List.replicate k 32) = _
  rw [bs_cat, bs_cat]
  rfl
theorem nine_at (w : World) (i : Nat) (h : i < 9) : (w.alloc (.cells #[.string ⟨#[46]⟩, .string ⟨#[58]⟩, .string ⟨#[44]⟩, .string ⟨#[123]⟩, .string ⟨#[125]⟩, .string ⟨#[33]⟩, .string ⟨#[63]⟩, .string ⟨#[43]⟩, .string ⟨#[38]⟩] 9)).cell? ⟨w.heap.size, i, none⟩ = some (.string ⟨#[nine[i]'h]⟩) := by
  have e : (w.alloc (.cells #[.string ⟨#[46]⟩, .string ⟨#[58]⟩, .string ⟨#[44]⟩, .string ⟨#[123]⟩, .string ⟨#[125]⟩, .string ⟨#[33]⟩, .string ⟨#[63]⟩, .string ⟨#[43]⟩, .string ⟨#[38]⟩] 9)).cell? ⟨w.heap.size, i, none⟩ = (#[.string ⟨#[46]⟩, .string ⟨#[58]⟩, .string ⟨#[44]⟩, .string ⟨#[123]⟩, .string ⟨#[125]⟩, .string ⟨#[33]⟩, .string ⟨#[63]⟩, .string ⟨#[43]⟩, .string ⟨#[38]⟩] : Array Value)[i]? := World.cell?_alloc_new _ _ _ _
  rw [e]
  have : i = 0 ∨ i = 1 ∨ i = 2 ∨ i = 3 ∨ i = 4 ∨ i = 5 ∨ i = 6 ∨ i = 7 ∨ i = 8 := by omega
  rcases this with rfl | rfl | rfl | rfl | rfl | rfl | rfl | rfl | rfl <;> rfl
theorem nine_next (k i : Nat) (h : i < 9) (l : List UInt8) : (l.flatMap (spS k (nine.take i))).flatMap (inPl (nine[i]'h) (wide k (nine[i]'h))) = l.flatMap (spS k (nine.take (i + 1))) := by
  have h1 : nine[i]'h ∉ nine.take i := by
    have : i = 0 ∨ i = 1 ∨ i = 2 ∨ i = 3 ∨ i = 4 ∨ i = 5 ∨ i = 6 ∨ i = 7 ∨ i = 8 := by omega
    rcases this with rfl | rfl | rfl | rfl | rfl | rfl | rfl | rfl | rfl <;> simp [nine]
  have h2 : nine[i]'h ≠ 32 := by
    have : i = 0 ∨ i = 1 ∨ i = 2 ∨ i = 3 ∨ i = 4 ∨ i = 5 ∨ i = 6 ∨ i = 7 ∨ i = 8 := by omega
    rcases this with rfl | rfl | rfl | rfl | rfl | rfl | rfl | rfl | rfl <;> simp [nine]
  rw [spS_next k _ _ h1 h2, List.take_succ_eq_append_getElem (by exact h)]
set_option maxRecDepth 100000 in
set_option maxHeartbeats 8000000 in
theorem typesBlanks_law (d : Nat) (t : Ty) (al : Option Addr) (cl : Nat) (ak : Option Addr) (ck : Nat) (n : Int) (w : World) (ht : TM w w.heap.size d t al cl ak ck) (h0 : -9223372036854775808 ≤ n) (h1 : n ≤ 9223372036854775807) (hm : MaxC w) :
    Calls Tryd.prog 4 #[.agg #[.int .i64 t.kind, .int .i64 t.so, .string t.name, .slice al t.labels.length cl, .slice ak t.kids.length ck], .int .i64 n] w fun e w' => e = .returned (.bool true) ∧ Below w.heap.size w w' := by
  have hA : Below w.heap.size w (w.alloc (.cells #[.int .i64 t.kind, .int .i64 t.so, .string t.name, .slice al t.labels.length cl, .slice ak t.kids.length ck] 25)) := (Below.refl _ _).alloc (Nat.le_refl _) _
  have cA := parse_ok txA _ ps_txA (w.alloc (.cells #[.int .i64 t.kind, .int .i64 t.so, .string t.name, .slice al t.labels.length cl, .slice ak t.kids.length ck] 25))
  simp only [txA, List.length_nil, List.length_cons] at cA
  have X0 := hideK (TyAt.lit w t al cl ak ck)
  have HT := hideK ht
  have HA := hideK hA
  have HM := hideK hm
  clear ht hA hm
  go_enter Tryd.func4, Tryd.ntmps4
  go_wp2_with fail
  refine cA.mono ?_
  rintro e w1 ⟨⟨al0, cl0, ak0, ck0, rfl, _, _, _⟩, hb1⟩
  have X1 := hideK (X0.out.keep hb1 (lt_of_cell X0.out.c0))
  have B1 := hideK (HA.out.trans (hb1.mono HA.out.size))
  clear cA
  have V2 : Hid (Below w1.heap.size w1 ((w1.alloc (.cells #[.int .i64 2, .int .i64 1, .string ⟨#[]⟩, .slice al0 0 cl0, .slice ak0 (0 + 1) ck0] 25)).alloc (.cells #[.int .i64 0, .int .i64 0] 30))) := ((Below.refl _ _).alloc (Nat.le_refl _) _).alloc (by simp) _
  have X2 := hideK (X1.out.keep V2.out (lt_of_cell X1.out.c0))
  have B2 := hideK (B1.out.trans (V2.out.mono B1.out.size))
  obtain ⟨x0, x1, x2, x3, x4⟩ := X2.out
  simp only [Nat.zero_add] at x1 x2 x3 x4
  go_wp2_with fail
  clear x0 x1 x2 x3 x4
  by_cases hz : chkTy t = 0
  · obtain ⟨hwf, hsz⟩ := chkTy_good t hz
    have hlen := wrT_len t hwf
    refine (write_good d t al cl ak ck _ (HT.out.keep B2.out).bd ((HT.out.keep B2.out).mono B2.out.size).la ((HT.out.keep B2.out).mono B2.out.size).ka hz).mono ?_
    rintro e w3 ⟨rfl, hb3⟩
    have X3 := hideK (X2.out.keep hb3 (lt_of_cell X2.out.c0))
    have B3 := hideK (B2.out.trans (hb3.mono B2.out.size))
    have hk3 := pk3_lt n
    have cK := pick_any n w3 h0 h1
    have cR := hideK (fun w1 => repeat_any (1 + pk3 n) w1 (by omega))
    have hk1 : 1 ≤ 1 + pk3 n := by omega
    have hkz : ((1 + pk3 n : Nat) : Int) = 1 + (pk3 n : Int) := by omega
    rw [hkz] at cR
    have hkw : (pk3 n : Int) ≤ 3 := by omega
    have hk0 : (0 : Int) ≤ (pk3 n : Int) := by omega
    have hkk : 1 + pk3 n ≤ 3 := by omega
    have hl6 : (wrT t).length ≤ 6000 := by omega
    clear hkz
    generalize 1 + pk3 n = k at *
    go_wp2_with fail
    refine cK.mono ?_
    rintro e w4 ⟨rfl, rfl⟩
    go_wp2_with fail
    refine (cR.out _).mono ?_
    rintro e w5 ⟨rfl, hb5⟩
    have X5 := hideK (X3.out.keep hb5 (lt_of_cell X3.out.c0))
    have B5 := hideK (B3.out.trans (hb5.mono B3.out.size))
    have hbl : (bs (List.replicate k (32 : UInt8))).size ≤ 3 := by rw [bs_size]; simp; omega
    have HW := hideK (wide_cat k)
    have HN := hideK (nine_at w5)
    generalize hbs : bs (List.replicate k (32 : UInt8)) = bk at *
    clear hbs cK cR hk3 hkw hk0
    have V6 : Hid (Below w5.heap.size w5 (w5.alloc (.cells #[.string ⟨#[46]⟩, .string ⟨#[58]⟩, .string ⟨#[44]⟩, .string ⟨#[123]⟩, .string ⟨#[125]⟩, .string ⟨#[33]⟩, .string ⟨#[63]⟩, .string ⟨#[43]⟩, .string ⟨#[38]⟩] 9))) := (Below.refl _ _).alloc (Nat.le_refl _) _
    have X6 := hideK (X5.out.keep V6.out (lt_of_cell X5.out.c0))
    have B6 := hideK (B5.out.trans (V6.out.mono B5.out.size))
    go_wp2_with fail
    go_loopw [7, 41] (fun v7 v41 wr => ∃ i : Nat, i ≤ 9 ∧ v41 = .int .i64 (i : Int) ∧ v7 = .string (bs ((wrT t).flatMap (spS k (nine.take i)))) ∧ Below (w5.heap.size + 1) (w5.alloc (.cells #[.string ⟨#[46]⟩, .string ⟨#[58]⟩, .string ⟨#[44]⟩, .string ⟨#[123]⟩, .string ⟨#[125]⟩, .string ⟨#[33]⟩, .string ⟨#[63]⟩, .string ⟨#[43]⟩, .string ⟨#[38]⟩] 9)) wr) (fun _ v41 _ => 9 - (intOf v41).toNat)
    case atStart => exact ⟨0, by omega, rfl, by show _ = Value.string (bs ((wrT t).flatMap (spS k []))); rw [spS_none], Below.refl _ _⟩
    case round =>
      obtain ⟨i, hi9, rfl, rfl, hbr⟩ := hrel
      have HBr := hideK hbr
      have B7 := hideK (B6.out.trans (hbr.mono (by have := B5.out.size; omega)))
      have X7 := hideK (X6.out.keep (hbr.mono (by simp)) (lt_of_cell X6.out.c0))
      by_cases hlt : i < 9
      · have hltz : (i : Int) < 9 := by omega
        have hi0 : (0 : Int) ≤ (i : Int) := by omega
        have q := (hbr.cell (p := ⟨w5.heap.size, i, none⟩) (by show w5.heap.size < _; omega)).trans (HN.out i hlt)
        have hfl := flat_len k (nine.take i) (wrT t)
        have hfm : (2 * k + 1) * (wrT t).length ≤ 7 * 6000 := Nat.mul_le_mul (by omega) hl6
        have cP := hideK (fun W (hM : MaxC W) => replace_any ((wrT t).flatMap (spS k (nine.take i))) (nine[i]'hlt) k W hk1 hkk (by omega) hM)
        have HMr := hideK (HM.out.keep B7.out)
        rw [nine_next k i hlt] at cP
        rw [← HW.out (nine[i]'hlt)] at cP
        have hsum : bk.size + 1 ≤ 4 := by omega
        clear hbr hfl hfm hlen
        generalize hs1 : bs ((wrT t).flatMap (spS k (nine.take i))) = s1 at *
        generalize nine[i]'hlt = c at *
        go_wp2_with fail
        refine (cP.out _ HMr.out).mono ?_
        rintro e w8 ⟨rfl, hb8⟩
        go_wp2_with fail
        go_roundw
        case rel => exact ⟨i + 1, by omega, by go_num, rfl, HBr.out.trans (hb8.mono (by have := HBr.out.size; simp at this; omega))⟩
        case measure => simp [intOf]; omega
      · have hltz : ¬ (i : Int) < 9 := by omega
        have hi : i = 9 := by omega
        subst hi
        have hall : (wrT t).flatMap (spS k (nine.take 9)) = spL k (wrT t) := spS_all k (wrT t)
        rw [hall]
        have hgs : (bs (spL k (wrT t))).size = (spL k (wrT t)).length := bs_size _
        clear hbr hall
        by_cases hl : (spL k (wrT t)).length ≤ 2000
        · have hlz : ¬ ((bs (spL k (wrT t))).size : Int) > 2000 := by rw [hgs]; omega
          have cP := hideK (parse_ok (bs (spL k (wrT t))) t (by rw [bs_list]; exact ps_blank k t hz hl))
          clear hgs hl
          generalize bs (spL k (wrT t)) = s9 at *
          go_wp2_with fail
          refine (cP.out _).mono ?_
          rintro e w8 ⟨⟨al6, cl6, ak6, ck6, rfl, hbd6, hla6, hka6⟩, hb8⟩
          have V8 : Hid (Below w8.heap.size w8 ((w8.alloc (.cells #[.int .i64 t.kind, .int .i64 t.so, .string t.name, .slice al6 t.labels.length cl6, .slice ak6 t.kids.length ck6] 25)).alloc (.cells #[.int .i64 0, .int .i64 0] 30))) := ((Below.refl _ _).alloc (Nat.le_refl _) _).alloc (by simp) _
          have X8 := hideK ((X7.out.keep hb8 (lt_of_cell X7.out.c0)))
          have X9 := (X8.out.keep V8.out (lt_of_cell X8.out.c0))
          have Y9 : TyAt ((w8.alloc (.cells #[.int .i64 t.kind, .int .i64 t.so, .string t.name, .slice al6 t.labels.length cl6, .slice ak6 t.kids.length ck6] 25)).alloc (.cells #[.int .i64 0, .int .i64 0] 30)) w8.heap.size 0 t al6 cl6 ak6 ck6 := (TyAt.lit w8 t al6 cl6 ak6 ck6).keep ((Below.refl _ _).alloc (Nat.le_refl _) _) (by simp)
          have M9 := hideK ((TM.mk hbd6 hla6 hka6).keep V8.out)
          have B8 := hideK (B7.out.trans (hb8.mono B7.out.size))
          have B9 := hideK (B8.out.trans (V8.out.mono B8.out.size))
          have g9 : ((w8.alloc (.cells #[.int .i64 t.kind, .int .i64 t.so, .string t.name, .slice al6 t.labels.length cl6, .slice ak6 t.kids.length ck6] 25)).alloc (.cells #[.int .i64 0, .int .i64 0] 30)).cell? ⟨w8.heap.size + 1, 0, none⟩ = some (.int .i64 0) := by go_cell
          have cS := sameTM (M9.out.mono V8.out.size) ((HT.out.keep B9.out).mono B9.out.size) (Nat.le_refl _)
          clear hbd6 hla6 hka6
          obtain ⟨r0, r1, r2, r3, r4⟩ := X9
          simp only [Nat.zero_add] at r1 r2 r3 r4
          obtain ⟨v0, v1, v2, v3, v4⟩ := Y9
          simp only [Nat.zero_add] at v1 v2 v3 v4
          go_wp2_with fail
          refine cS.mono ?_
          rintro e w10 ⟨rfl, hb10⟩
          go_wp2_with fail
          go_ret
          exact ⟨rfl, B9.out.trans (hb10.mono B9.out.size)⟩
        · have hlz : ((bs (spL k (wrT t))).size : Int) > 2000 := by rw [hgs]; omega
          have cP := hideK (parse_err (bs (spL k (wrT t))) 2 0 (by rw [bs_list]; exact ps_big _ (by omega)))
          clear hgs hl
          generalize bs (spL k (wrT t)) = s9 at *
          go_wp2_with fail
          refine (cP.out _).mono ?_
          rintro e w8 ⟨rfl, hb8⟩
          have B8 := hideK (B7.out.trans (hb8.mono B7.out.size))
          go_wp2_with fail
          go_ret
          exact ⟨rfl, (B8.out.alloc B8.out.size _).alloc (by have := B8.out.size; simp; omega) _⟩
  · refine (write_bad d t al cl ak ck _ (HT.out.keep B2.out).bd ((HT.out.keep B2.out).mono B2.out.size).la ((HT.out.keep B2.out).mono B2.out.size).ka hz).mono ?_
    rintro e w3 ⟨rfl, hb3⟩
    have B3 := hideK (B2.out.trans (hb3.mono B2.out.size))
    have hzb : (chkTy t != 0) = true := by simpa using hz
    generalize chkTy t = z at *
    go_wp2_with fail
    go_ret
    exact ⟨rfl, B3.out⟩
end Go.Proofs.YtefdekfgmbgbbaaDoor
