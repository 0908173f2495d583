/-
  The contracts of package duetbig's Int.QuoRem, Int.Quo and Int.Rem, of numbers of 64 bits.
-/
import Derived.Test.YtecapnipkngniaaGreatDoorCk
import Derived.Test.YtecapnipkngniaaGreatDoorBh
import Derived.Test.YtecapnipkngniaaGreatDoorXk
namespace Go.Proofs.YtecapnipkngniaaGreatDoor
open Go.RowKit

theorem sg_quo (xn yn : Bool) (x y : Nat) : sg (!(xn == yn)) (x / y) = (sg xn x).tdiv (sg yn y) := by
  unfold sg
  cases xn <;> cases yn <;> simp [Int.neg_tdiv, Int.tdiv_neg, Int.natCast_ediv] <;> rw [Int.tdiv_eq_ediv_of_nonneg (by omega)]
theorem sg_rem (xn yn : Bool) (x y : Nat) : sg xn (x % y) = (sg xn x).tmod (sg yn y) := by
  unfold sg
  cases xn <;> cases yn <;> simp [Int.neg_tmod, Int.tmod_neg] <;> rw [Int.tmod_eq_emod_of_nonneg (by omega)]
set_option maxRecDepth 100000 in
set_option maxHeartbeats 2000000 in
theorem quoRem_any (zb xb yb rb B : Nat) (xn yn : Bool) (x y : Nat) (w : World) (hx : IntB w xb xn x) (hy : IntB w yb yn y) (hx1 : x < 18446744073709551616) (hy1 : y < 18446744073709551616) (hy0 : y ≠ 0)
    (b0 : Bool) (c1 : Value) (z0 : w.cell? ⟨zb, 0, none⟩ = some (.bool b0)) (z1 : w.cell? ⟨zb, 1, none⟩ = some c1) (p0 : w.frozen? ⟨zb, 0, none⟩ = false) (p1 : w.frozen? ⟨zb, 1, none⟩ = false) (hz : zb < w.heap.size)
    (b2 : Bool) (c2 : Value) (r0 : w.cell? ⟨rb, 0, none⟩ = some (.bool b2)) (r1 : w.cell? ⟨rb, 1, none⟩ = some c2) (q0 : w.frozen? ⟨rb, 0, none⟩ = false) (q1 : w.frozen? ⟨rb, 1, none⟩ = false) (hr : rb < w.heap.size) (hzr : zb ≠ rb) (hB1 : B ≤ zb) (hB2 : B ≤ rb) :
    Calls Tryz.prog 86 #[.pointer (some ⟨zb, 0, none⟩), .pointer (some ⟨xb, 0, none⟩), .pointer (some ⟨yb, 0, none⟩), .pointer (some ⟨rb, 0, none⟩)] w fun e w' => e = .returned (.tuple #[.pointer (some ⟨zb, 0, none⟩), .pointer (some ⟨rb, 0, none⟩)]) ∧ (∃ n m, IntAt w' zb n m ∧ sg n m = (sg xn x).tdiv (sg yn y) ∧ m < 18446744073709551616) ∧ (∃ n m, IntAt w' rb n m ∧ sg n m = (sg xn x).tmod (sg yn y) ∧ m < 18446744073709551616) ∧ Below B w w' := by
  obtain ⟨gx, vx, cx1, bx⟩ := hx.c1
  obtain ⟨gy, vy, cy1, byv⟩ := hy.c1
  have cx0 := hx.c0
  have cy0 := hy.c0
  have HX := hideC hx
  have HY := hideC hy
  have CD := hideC (fun W (hb : Below w.heap.size w W) => div_any vx vy gx gy x y W (bx.keep hb) (byv.keep hb) hx1 hy1 hy0 (fun W2 hb2 => twinB vx gx x W2 ((bx.keep hb).keep hb2) (by omega)))
  have HQ := hideC (sg_quo xn yn x y)
  have HR := hideC (sg_rem xn yn x y)
  have HL1 : Hid (x / y < 18446744073709551616) := Nat.lt_of_le_of_lt (Nat.div_le_self _ _) hx1
  have HL2 : Hid (x % y < 18446744073709551616) := Nat.lt_of_le_of_lt (Nat.mod_le _ _) hx1
  obtain ⟨nx, kx, rfl⟩ := bx.slot
  obtain ⟨ny, ky, rfl⟩ := byv.slot
  clear hx hy bx byv hx1 hy1 hy0
  generalize x / y = Q at *
  generalize x % y = R at *
  go_enter Tryz.func86, Tryz.ntmps86
  go_wp2_with fail
  go_quiet (fail)
  have hb0 : Below w.heap.size w (w.drewN nq) := below_drewN (Below.refl _ _) nq
  have hsz0 := size_dq w nq
  generalize w.drewN nq = w0 at hb0 hsz0 ⊢
  have HB0 := hideC hb0.drew
  have dx1 := ((HX.out.keep HB0.out).c1)
  have cx1' := (HB0.out.cell (p := ⟨xb, 1, none⟩) HX.out.lt).trans cx1
  have cy1' := (HB0.out.cell (p := ⟨yb, 1, none⟩) HY.out.lt).trans cy1
  clear hb0 dx1
  go_wp2_with fail
  go_region_held3 (fun w' => w'.cell? ⟨xb, 1, none⟩ = some (.slice (some ⟨gx, 0, none⟩) nx kx) ∧ w'.cell? ⟨yb, 1, none⟩ = some (.slice (some ⟨gy, 0, none⟩) ny ky)) (go_keep) (first
    | (go_at_call 119; go_must (refine (CD.out _ HB0.out).mono ?_; rintro e w1 ⟨q, r, rfl, hq, hr', hb1⟩; obtain ⟨ao, k, cap, rfl⟩ := hq.slc; obtain ⟨ao2, k2, cap2, rfl⟩ := hr'.slc; have HB1 := hideC (HB0.out.trans (hb1.mono HB0.out.size)); have ex1 := (HB1.out.cell (p := ⟨xb, 1, none⟩) HX.out.lt).trans cx1; have ey1 := (HB1.out.cell (p := ⟨yb, 1, none⟩) HY.out.lt).trans cy1)))
  all_goals
    have k0 := (HB1.out.cell (p := ⟨zb, 0, none⟩) hz).trans z0
    have k1 := (HB1.out.cell (p := ⟨zb, 1, none⟩) hz).trans z1
    have l0 := (HB1.out.frozen (p := ⟨zb, 0, none⟩) hz).trans p0
    have l1 := (HB1.out.frozen (p := ⟨zb, 1, none⟩) hz).trans p1
    have m0 := (HB1.out.cell (p := ⟨rb, 0, none⟩) hr).trans r0
    have m1 := (HB1.out.cell (p := ⟨rb, 1, none⟩) hr).trans r1
    have n0 := (HB1.out.frozen (p := ⟨rb, 0, none⟩) hr).trans q0
    have n1 := (HB1.out.frozen (p := ⟨rb, 1, none⟩) hr).trans q1
    go_wp2_with fail
    refine (give_eq zb _ ao k cap w1 b0 c1 k0 k1 l0 l1).mono ?_
    rintro e w2 ⟨rfl, rfl⟩
    go_wp2_with fail
    refine (give_eq rb xn ao2 k2 cap2 _ b2 c2 ((putI_other _ _ _ _ _ _ (Ne.symm hzr)).trans m0) ((putI_other _ _ _ _ _ _ (Ne.symm hzr)).trans m1) (by rw [putI_frozen]; exact n0) (by rw [putI_frozen]; exact n1)).mono ?_
    rintro e w3 ⟨rfl, rfl⟩
    go_wp2_with fail
    go_ret2
    rw [num_pos hq, num_pos hr']
    have hq2 := (hq.putI k0 (.slice ao k cap) (!xn == yn && decide (Q ≠ 0))).putI ((putI_other w1 zb (.slice ao k cap) (!xn == yn && decide (Q ≠ 0)) rb 0 (Ne.symm hzr)).trans m0) (.slice ao2 k2 cap2) (xn && decide (R ≠ 0))
    have hr2 := (hr'.putI k0 (.slice ao k cap) (!xn == yn && decide (Q ≠ 0))).putI ((putI_other w1 zb (.slice ao k cap) (!xn == yn && decide (Q ≠ 0)) rb 0 (Ne.symm hzr)).trans m0) (.slice ao2 k2 cap2) (xn && decide (R ≠ 0))
    refine ⟨rfl, ⟨_, Q, ⟨by rw [putI_size, putI_size]; exact Nat.lt_of_lt_of_le hz HB1.out.size, (putI_other _ _ _ _ _ _ hzr).trans (putI_0 k0 _ _), _, (putI_other _ _ _ _ _ _ hzr).trans (putI_1 k1 _ _), hq2⟩, (sg_eq _ Q).trans HQ.out, HL1.out⟩, ⟨_, R, ⟨by rw [putI_size, putI_size]; exact Nat.lt_of_lt_of_le hr HB1.out.size, putI_0 ((putI_other _ _ _ _ _ _ (Ne.symm hzr)).trans m0) _ _, _, putI_1 ((putI_other _ _ _ _ _ _ (Ne.symm hzr)).trans m1) _ _, hr2⟩, (sg_eq _ R).trans HR.out, HL2.out⟩, putI_below (putI_below (HB1.out.mono (by omega)) zb hB1 _ _) rb hB2 _ _⟩
set_option maxHeartbeats 1000000 in
theorem quo_any (zb yb : Nat) (xn yn : Bool) (x y : Nat) (w : World) (hx : IntB w zb xn x) (hy : IntB w yb yn y) (hx1 : x < 18446744073709551616) (hy1 : y < 18446744073709551616) (hy0 : y ≠ 0) :
    Calls Tryz.prog 58 #[.pointer (some ⟨zb, 0, none⟩), .pointer (some ⟨zb, 0, none⟩), .pointer (some ⟨yb, 0, none⟩)] w fun e w' => e = .returned (.pointer (some ⟨zb, 0, none⟩)) ∧ (∃ n m, IntAt w' zb n m ∧ sg n m = (sg xn x).tdiv (sg yn y) ∧ m < 4294967296 ^ 4) ∧ Below zb w w' := by
  have hA : Below w.heap.size w (w.alloc (.cells #[.bool false, .slice none 0 0] 100)) := (Below.refl _ _).alloc (Nat.le_refl _) _
  have hxa := hx.keep hA
  obtain ⟨g, c, hc, _⟩ := hxa.c1
  have hl := hx.lt
  have cQ := quoRem_any zb zb yb w.heap.size zb xn yn x y _ hxa (hy.keep hA) hx1 hy1 hy0 xn c hxa.c0 hc hxa.f0 hxa.f1 hxa.lt false (.slice none 0 0) (by go_cell) (by go_cell) (by go_cell) (by go_cell) (by simp) (by omega) (Nat.le_refl _) (by omega)
  have HA := hideC hA
  clear hx hy hA hxa hc
  go_enter Tryz.func58, Tryz.ntmps58
  go_wp2_with fail
  refine cQ.mono ?_
  rintro e w1 ⟨rfl, ⟨n, m, h1, h2, h3⟩, _, hb⟩
  go_wp2_with fail
  go_ret
  exact ⟨rfl, ⟨n, m, h1, h2, by omega⟩, (HA.out.mono (Nat.le_of_lt hl)).trans hb⟩
set_option maxHeartbeats 1000000 in
theorem rem_any (zb yb : Nat) (xn yn : Bool) (x y : Nat) (w : World) (hx : IntB w zb xn x) (hy : IntB w yb yn y) (hx1 : x < 18446744073709551616) (hy1 : y < 18446744073709551616) (hy0 : y ≠ 0) :
    Calls Tryz.prog 59 #[.pointer (some ⟨zb, 0, none⟩), .pointer (some ⟨zb, 0, none⟩), .pointer (some ⟨yb, 0, none⟩)] w fun e w' => e = .returned (.pointer (some ⟨zb, 0, none⟩)) ∧ (∃ n m, IntAt w' zb n m ∧ sg n m = (sg xn x).tmod (sg yn y) ∧ m < 4294967296 ^ 4) ∧ Below zb w w' := by
  have hA : Below w.heap.size w (w.alloc (.cells #[.bool false, .slice none 0 0] 100)) := (Below.refl _ _).alloc (Nat.le_refl _) _
  have hxa := hx.keep hA
  obtain ⟨g, c, hc, _⟩ := hxa.c1
  have hl := hx.lt
  have cQ := quoRem_any w.heap.size zb yb zb zb xn yn x y _ hxa (hy.keep hA) hx1 hy1 hy0 false (.slice none 0 0) (by go_cell) (by go_cell) (by go_cell) (by go_cell) (by simp) xn c hxa.c0 hc hxa.f0 hxa.f1 hxa.lt (by omega) (by omega) (Nat.le_refl _)
  have HA := hideC hA
  clear hx hy hA hxa hc
  go_enter Tryz.func59, Tryz.ntmps59
  go_wp2_with fail
  refine cQ.mono ?_
  rintro e w1 ⟨rfl, _, ⟨n, m, h1, h2, h3⟩, hb⟩
  go_wp2_with fail
  go_ret
  exact ⟨rfl, ⟨n, m, h1, h2, by omega⟩, (HA.out.mono (Nat.le_of_lt hl)).trans hb⟩
end Go.Proofs.YtecapnipkngniaaGreatDoor
/-
  Plain facts on values, no program: what a right value of a sort is; the order turned round; division's rest run over; values that are numbers of 64 bits all through.
-/
namespace Go.Proofs.YtecapnipkngniaaGreatDoor
open Go.RowKit

theorem nil_list (s : ByteArray) (h : s.toList.isEmpty = true) : s = ⟨#[]⟩ := by rw [empty_toList] at h; exact of_decide_eq_true h
theorem int_vl (v : Vl) (hg : v.good) (hs : v.so = 1) : v = numV v.n := by
  obtain ⟨so, n, s⟩ := v
  simp only at hs
  subst hs
  have h : chkZ vD 1 n s = 0 := hg
  have : argZ s.toList.isEmpty = 0 := h
  rw [argZ_zero] at this
  rw [nil_list s this]
  rfl
theorem bool_vl (v : Vl) (hg : v.good) (hs : v.so = 2) : v.n = 0 ∨ v.n = 1 := by
  obtain ⟨so, n, s⟩ := v
  simp only at hs
  subst hs
  have h : chkZ vD 2 n s = 0 := hg
  have : argZ (s.toList.isEmpty && (n == 0 || n == 1)) = 0 := h
  rw [argZ_zero] at this
  simp at this
  exact this.2
theorem text_vl (v : Vl) (hg : v.good) (hs : v.so = 3) : ∃ rs : List Nat, (∀ r ∈ rs, IsR r) ∧ (enc rs).length ≤ 100 ∧ v = ⟨3, 0, str rs⟩ := by
  obtain ⟨so, n, s⟩ := v
  simp only at hs
  subst hs
  have h : chkZ vD 3 n s = 0 := hg
  rw [chk3, text_zero] at h
  obtain ⟨rfl, hl, hv⟩ := h
  obtain ⟨rs, hr, rfl⟩ := str_all s hv
  exact ⟨rs, hr, by rw [← str_size]; exact hl, rfl⟩
theorem text_need (rs : List Nat) (h : ∀ r ∈ rs, IsR r) (hl : (enc rs).length ≤ 100) : lenZ vD 3 0 (str rs) = (rs.length : Int) := by
  rw [lenZ, str_need rs h hl, if_pos rfl, count_enc (str rs) rs (str_list rs) h]
theorem text_join (ra rb : List Nat) (ha : ∀ r ∈ ra, IsR r) (hb : ∀ r ∈ rb, IsR r) (la : (enc ra).length ≤ 100) (lb : (enc rb).length ≤ 100) : joinV ⟨3, 0, str ra⟩ ⟨3, 0, str rb⟩ = ⟨3, 0, str (fit 0 (ra ++ rb))⟩ := by
  unfold joinV
  rw [if_pos ((need2_zero vD _ _ _ _ _ _).2 ⟨str_need ra ha la, str_need rb hb lb⟩)]
  simp only [joinS, letS_str ra ha, letS_str rb hb]
theorem ord_good (a b : Vl) (ha : a.good) (hb : b.good) : ordV a b = ordZ a.so a.n a.s b.so b.n b.s := by
  unfold ordV bad2
  have h1 : chkZ vD a.so a.n a.s = 0 := ha
  have h2 : chkZ vD b.so b.n b.s = 0 := hb
  rw [h1, h2]; rfl
theorem ordZ_opp (a b : Vl) : ordZ b.so b.n b.s a.so a.n a.s = - ordZ a.so a.n a.s b.so b.n b.s := by
  unfold ordZ
  rw [good_cmpZ.opp b.so, good_cmpZ.opp b.n, cb_opp b.s.data.toList]
  simp only [firstNZ]
  generalize cmpZ a.so b.so = x
  generalize cmpZ a.n b.n = y
  generalize Lib.compareBytes a.s.data.toList b.s.data.toList = z
  by_cases hx : x = 0
  · subst hx
    by_cases hy : y = 0
    · subst hy
      by_cases hz : z = 0
      · subst hz; rfl
      · have : ¬ -z = 0 := by omega
        simp [hz]
    · have : ¬ -y = 0 := by omega
      simp [hy]
  · have : ¬ -x = 0 := by omega
    simp [hx]
theorem wrap_cong (x y k : Int) (h : x = y + k * 18446744073709551616) : wrap64 x = wrap64 y := by
  subst h
  unfold wrap64
  rw [show y + k * 18446744073709551616 + 9223372036854775808 = (y + 9223372036854775808) + k * 18446744073709551616 by omega, Int.add_mul_emod_self_right]
theorem wrap_ex (x : Int) : ∃ k, wrap64 x = x + k * 18446744073709551616 := by
  unfold wrap64
  have := Int.mul_ediv_add_emod (x + 9223372036854775808) 18446744073709551616
  exact ⟨-((x + 9223372036854775808) / 18446744073709551616), by omega⟩
theorem rem_num (a b : Int) (hb : b ≠ 0) : numZ [37] a b = wrap64 (a.tmod b) := by
  show w64 (a - w64 (quoZ a b * b)) = _
  unfold quoZ w64
  rw [if_neg hb]
  obtain ⟨k1, h1⟩ := wrap_ex (a.tdiv b)
  obtain ⟨k2, h2⟩ := wrap_ex (wrap64 (a.tdiv b) * b)
  have h3 := Int.tmod_def a b
  refine wrap_cong _ _ (-(k1 * b) - k2) ?_
  rw [h2, h1, h3]
  generalize a.tdiv b = q
  have e1 : (q + k1 * 18446744073709551616) * b = q * b + k1 * b * 18446744073709551616 := by
    rw [Int.add_mul, Int.mul_assoc, Int.mul_assoc, Int.mul_comm b]
  rw [e1, Int.mul_comm b q, Int.sub_mul, Int.neg_mul]
  omega
def in64 (z : Int) : Prop := -9223372036854775808 ≤ z ∧ z ≤ 9223372036854775807
theorem zero64 : in64 0 := by unfold in64; omega
theorem one64 : in64 1 := by unfold in64; omega
theorem wrap_in64 (z : Int) : in64 (wrap64 z) := by unfold in64 wrap64; omega
theorem rem_zero (a : Int) (ha : in64 a) : numZ [37] a 0 = a := by
  show w64 (a - w64 (quoZ a 0 * 0)) = _
  unfold w64
  rw [Int.mul_zero, show wrap64 0 = 0 by unfold wrap64; omega, Int.sub_zero]
  unfold in64 at ha; unfold wrap64; omega
theorem quo_zero (a : Int) : numZ [47] a 0 = 0 := rfl
theorem quo_num (a b : Int) (hb : b ≠ 0) : numZ [47] a b = wrap64 (a.tdiv b) := by
  show quoZ a b = _
  unfold quoZ w64
  rw [if_neg hb]
/-- numbers of 64 bits all through -/
def inZ : Ex → Prop
  | ⟨_, _, _, n, _, ks⟩ => in64 n ∧ ∀ k, k ∈ ks → inZ k
theorem inZ_eq (x : Ex) : inZ x ↔ in64 x.n ∧ ∀ k ∈ x.kids, inZ k := by cases x; rw [inZ]
theorem tru_in (b : Bool) : in64 (truV b).n := by cases b
                                                  · exact zero64
                                                  · exact one64
theorem num_in (l : List UInt8) (a b : Int) : in64 (numZ l a b) := by
  unfold numZ
  repeat' split
  all_goals first | exact wrap_in64 _ | skip
  unfold quoZ
  split
  · exact zero64
  · exact wrap_in64 _
theorem len_in (v : Vl) : in64 (lenZ vD v.so v.n v.s) := by
  unfold lenZ
  split
  · rename_i h
    obtain ⟨_, _, hl, hv⟩ := (need1_zero _ _ _ _).1 h
    obtain ⟨rs, hr, he⟩ := str_all _ hv
    rw [he, count_enc (str rs) rs (str_list rs) hr]
    rw [he, str_size] at hl
    have := enc_len_ge rs
    unfold in64; omega
  · exact zero64
theorem val_in (F : ByteArray → Vl) (hF : ∀ nm, in64 (F nm).n) : ∀ x : Ex, wfX x → inZ x → in64 (valX F x).n := by
  intro x hw hi
  rcases wf_cases x hw with ⟨h, _, hg⟩ | ⟨h, _, _⟩ | ⟨h, a, hk, ha, hop⟩ | ⟨h, a, b, hk, ha, hb, hop⟩
  · rw [val_lit F x h]; exact ((inZ_eq x).1 hi).1
  · rw [val_name F x h]; exact hF _
  · rw [val_one F x a h hk]
    unfold oneV
    split
    · exact tru_in _
    · split
      · exact wrap_in64 _
      · exact len_in _
  · rw [val_two F x a b h hk]
    unfold twoV
    split
    · exact tru_in _
    · split
      · exact tru_in _
      · split
        · unfold cmpV; split
          · exact tru_in _
          · split <;> exact tru_in _
        · split
          · unfold joinV; split <;> exact zero64
          · exact num_in _ _ _
theorem look_in (bs : List (ByteArray × Vl)) (h : ∀ p ∈ bs, in64 p.2.n) (nm : ByteArray) : in64 (lookV bs nm).n := by
  unfold lookV
  cases e : lastOf nm bs with
  | none => exact zero64
  | some v => obtain ⟨p, hp, rfl, _⟩ := lastOf_mem nm bs v e; exact h p hp
/-- what is right of a first, of a second part of an operation whose sort is right -/
theorem one_right (E : ByteArray → Int × Int) (x a : Ex) (n : Int) (h : x.kind = 3) (hk : x.kids = [a]) (hs : sortX E x = (n, 0)) : sortX E a = (want1 x.name.data.toList (sortX E a).1, 0) := by
  rw [sort_one E x a h hk] at hs
  unfold sort1 at hs
  split at hs
  · exact absurd (Prod.mk.inj hs).2 ‹_›
  · split at hs
    · exact absurd (Prod.mk.inj hs).2 (by decide)
    · rename_i q1 q2
      exact Prod.ext (Decidable.not_not.1 q2) (Decidable.not_not.1 q1)
theorem two_right (E : ByteArray → Int × Int) (x a b : Ex) (n : Int) (h : x.kind = 3) (hk : x.kids = [a, b]) (hs : sortX E x = (n, 0)) :
    sortX E a = (want1 x.name.data.toList (sortX E a).1, 0) ∧ sortX E b = (want1 x.name.data.toList (sortX E a).1, 0) := by
  rw [sort_two E x a b h hk] at hs
  unfold sort2 at hs
  split at hs
  · exact absurd (Prod.mk.inj hs).2 ‹_›
  · split at hs
    · exact absurd (Prod.mk.inj hs).2 (by decide)
    · split at hs
      · exact absurd (Prod.mk.inj hs).2 ‹_›
      · split at hs
        · exact absurd (Prod.mk.inj hs).2 (by decide)
        · rename_i q1 q2 q3 q4
          exact ⟨Prod.ext (Decidable.not_not.1 q2) (Decidable.not_not.1 q1), Prod.ext (Decidable.not_not.1 q4) (Decidable.not_not.1 q3)⟩
end Go.Proofs.YtecapnipkngniaaGreatDoor
