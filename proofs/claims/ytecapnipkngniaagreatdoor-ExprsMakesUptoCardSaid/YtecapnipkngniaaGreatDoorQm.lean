/-
  The contract of duetbig.mul, for every two lists of words.
-/
import Derived.Test.YtecapnipkngniaaGreatDoorCb
import Derived.Test.YtecapnipkngniaaGreatDoorTl
import Derived.Lib.ParseIntBCases
import Derived.Lib.ItoaNum
namespace Go.Proofs.YtecapnipkngniaaGreatDoor
open Go.RowKit

theorem val_set (rs : List Nat) (k y : Nat) (h : k < rs.length) : val (rs.set k y) + 4294967296 ^ k * rs.getD k 0 = val rs + 4294967296 ^ k * y := by
  have h1 := val_split (rs.set k y) k (by rw [List.length_set]; exact h)
  have h2 := val_split rs k h
  rw [take_set_same, getD_set_self _ _ _ h, List.drop_set_of_lt (by omega)] at h1
  omega
theorem mul_in (p q r cn x z T M V V2 V3 bm : Nat) (hp : p = q * bm) (hT : cn + (x * z + r) = T) (h2 : V2 + p * cn = V + q * (x * M)) (h3 : V3 + p * r = V2 + p * (T % 4294967296)) : V3 + p * 4294967296 * (T / 4294967296) = V + q * (x * (M + bm * z)) := by
  have e : p * (T % 4294967296) + p * 4294967296 * (T / 4294967296) = p * T := by
    rw [Nat.mul_assoc, ← Nat.mul_add]
    congr 1
    omega
  have e2 : p * T = p * cn + (p * (x * z) + p * r) := by rw [← hT, Nat.mul_add, Nat.mul_add]
  have e3 : q * (x * (M + bm * z)) = q * (x * M) + p * (x * z) := by
    rw [hp, Nat.mul_add, Nat.mul_add, Nat.mul_assoc q bm, Nat.mul_left_comm x bm z]
  omega
theorem getD_set_ne (rs : List Nat) (k j y : Nat) (h : k ≠ j) : (rs.set k y).getD j 0 = rs.getD j 0 := by simp [List.getD, h]
theorem mul_bd (x z : Nat) (hx : x < 4294967296) (hz : z < 4294967296) : x * z ≤ 18446744065119617025 := Nat.mul_le_mul (by omega : x ≤ 4294967295) (by omega : z ≤ 4294967295)
set_option maxRecDepth 100000 in
set_option maxHeartbeats 2000000 in
theorem bmul_some (ga ca gb cb : Nat) (al bl : List Nat) (w : World) (hsl : Small al) (hss : Small bl) (hla : al.length ≤ 1000) (hlb : bl.length ≤ 1000) (ha0 : 0 < al.length) (hb0 : 0 < bl.length) (hgl : ga < w.heap.size) (hgs : gb < w.heap.size) (hcl : ∀ j, j < al.length → w.cell? ⟨ga, j, none⟩ = some (.int .u32 (al.getD j 0 : Nat))) (hcs : ∀ j, j < bl.length → w.cell? ⟨gb, j, none⟩ = some (.int .u32 (bl.getD j 0 : Nat))) :
    Calls Tryz.prog 85 #[.slice (some ⟨ga, 0, none⟩) al.length ca, .slice (some ⟨gb, 0, none⟩) bl.length cb] w fun e w' => ∃ v, e = .returned v ∧ NumAt w' v (val al * val bl) ∧ Below w.heap.size w w' := by
  obtain ⟨Z, hZ, hmk⟩ := make32 (al.length + bl.length) (by omega)
  have hrow := row_new w Z (al.length + bl.length) hZ
  have hmk' : ∀ w : World, (Instr.makeSlice 98 (.int .i64 ((al.length : Int) + (bl.length : Int))) (.int .i64 ((al.length : Int) + (bl.length : Int)))).run Tryz.prog w = .ok (.slice (some ⟨w.heap.size, 0, none⟩) (al.length + bl.length) (al.length + bl.length)) (w.alloc (.cells Z 122)) := by
    intro W
    have := hmk W
    rw [show ((al.length + bl.length : Nat) : Int) = (al.length : Int) + (bl.length : Int) by omega] at this
    exact this
  clear hmk hZ
  have HCL := hideC hcl
  have HCS := hideC hcs
  clear hcl hcs
  generalize hD : val al * val bl = D
  have HD := hideC hD
  clear hD
  have a0z : ((al.length : Int) == 0) = false := beq_eq_false_iff_ne.2 (by omega)
  have b0z : ((bl.length : Int) == 0) = false := beq_eq_false_iff_ne.2 (by omega)
  go_enter Tryz.func85, Tryz.ntmps85
  go_wp2_with fail
  go_loopw [6] (fun i wr => ∃ (k : Nat) (rs : List Nat), k ≤ al.length ∧ i = .int .i64 (k : Int) ∧ rs.length = al.length + bl.length ∧ Row wr w.heap.size rs ∧ val rs = val (al.take k) * val bl ∧ (∀ j, k + bl.length ≤ j → rs.getD j 0 = 0) ∧ Small rs ∧ Below w.heap.size w wr ∧ w.heap.size < wr.heap.size) (fun i wr => al.length - (intOf i).toNat)
  case atStart => exact ⟨0, List.replicate (al.length + bl.length) 0, Nat.zero_le _, rfl, by simp, hrow, by rw [val_zeros _ (fun x hx => (List.mem_replicate.1 hx).2)]; simp [val], fun j _ => by rw [List.getD, List.getElem?_replicate]; split <;> rfl, small_rep _, (Below.refl _ _).alloc (Nat.le_refl _) _, by simp⟩
  case round =>
    obtain ⟨k, rs, hk, rfl, hrl, hr, hval, hz, hsr, hbw, hlt⟩ := hrel
    have HR := hideC hr
    have HV := hideC hval
    have HRL := hideC hrl
    have HZ := hideC hz
    clear hr hval hrl hz
    by_cases hkl : k < al.length
    · have hkz : (k : Int) < (al.length : Int) := by omega
      generalize hx : al.getD k 0 = x
      have hx2 : x < 4294967296 := by rw [← hx]; exact hsl _ (getD_mem al k hkl)
      have HX := hideC hx
      clear hx
      go_wp2_with fail
      go_loopw [7, 8] (fun c j wq => ∃ (m cn : Nat) (qs : List Nat), m ≤ bl.length ∧ j = .int .i64 (m : Int) ∧ c = .int .u64 (cn : Int) ∧ cn < 4294967296 ∧ qs.length = al.length + bl.length ∧ Row wq w.heap.size qs ∧ val qs + 4294967296 ^ (k + m) * cn = val rs + 4294967296 ^ k * (x * val (bl.take m)) ∧ (∀ j, k + bl.length ≤ j → qs.getD j 0 = 0) ∧ Small qs ∧ Below w.heap.size w wq ∧ w.heap.size < wq.heap.size) (fun c j wq => bl.length - (intOf j).toNat)
      case atStart => exact ⟨0, 0, rs, Nat.zero_le _, rfl, rfl, by omega, HRL.out, HR.out, by simp [val], HZ.out, hsr, hbw, hlt⟩
      case round =>
        obtain ⟨m, cn, qs, hm, rfl, rfl, hcn, hql, hq, hqv, hqz, hqs, hbq, hltq⟩ := hrel
        have HQ := hideC hq
        have HQV := hideC hqv
        have HQL := hideC hql
        have HQZ := hideC hqz
        clear hq hqv hql hqz
        by_cases hml : m < bl.length
        · have hmz : (m : Int) < (bl.length : Int) := by omega
          have hcx := (hbq.cell (p := ⟨ga, k, none⟩) hgl).trans (HCL.out k hkl)
          rw [HX.out] at hcx
          have hcy := (hbq.cell (p := ⟨gb, m, none⟩) hgs).trans (HCS.out m hml)
          have hcq := (HQ.out (k + m) (by have := HQL.out; omega)).1
          have hfq := (HQ.out (k + m) (by have := HQL.out; omega)).2
          generalize hz : bl.getD m 0 = z at hcy
          generalize hr : qs.getD (k + m) 0 = r at hcq
          have hz2 : z < 4294967296 := by rw [← hz]; exact hss _ (getD_mem bl m hml)
          have hr2 : r < 4294967296 := by rw [← hr]; exact hqs _ (getD_mem qs (k + m) (by have := HQL.out; omega))
          have HZ' := hideC hz
          have HRR := hideC hr
          clear hz hr
          have hbd := mul_bd x z hx2 hz2
          have e1 : IntKind.u64.wrap ((x : Int) * (z : Int)) = ((x * z : Nat) : Int) := by rw [← Int.natCast_mul]; exact wrap_u64_nat _ (by omega)
          obtain ⟨P, hP⟩ : ∃ P, x * z = P := ⟨_, rfl⟩
          have HP := hideC hP
          rw [hP] at e1 hbd
          clear hP
          have e2 : IntKind.u64.wrap ((P : Int) + (r : Int)) = (P : Int) + (r : Int) := by rw [← Int.natCast_add]; exact wrap_u64_nat _ (by omega)
          have e3 : IntKind.u64.wrap ((cn : Int) + ((P : Int) + (r : Int))) = (cn : Int) + ((P : Int) + (r : Int)) := by rw [← Int.natCast_add, ← Int.natCast_add]; exact wrap_u64_nat _ (by omega)
          go_wp2_with fail
          go_quiet (fail)
          go_wp2_with fail
          obtain ⟨T, hT⟩ : ∃ T, cn + (P + r) = T := ⟨_, rfl⟩
          have ht1 : ((cn : Int) + ((P : Int) + (r : Int))) % 4294967296 = ((T % 4294967296 : Nat) : Int) := by omega
          have ht2 : ((cn : Int) + ((P : Int) + (r : Int))) / 4294967296 = ((T / 4294967296 : Nat) : Int) := by omega
          rw [ht1, ht2]
          have hkl2 : k + m < qs.length := by have := HQL.out; omega
          refine ⟨⟨m + 1, T / 4294967296, qs.set (k + m) (T % 4294967296), by omega, by go_num, rfl, by omega, by rw [List.length_set]; exact HQL.out, (row_dq HQ.out nq).set (k + m) (T % 4294967296) hkl2, ?_, fun j hj => by rw [getD_set_ne _ _ _ _ (by omega)]; exact HQZ.out j hj, small_set hqs _ _ (by omega), (below_dq hbq nq).setCell (Nat.le_refl _) _, ?_⟩, by simp [intOf]; omega⟩
          · have h3 := val_set qs (k + m) (T % 4294967296) hkl2
            rw [HRR.out] at h3
            rw [val_take_succ bl m hml, HZ'.out, show k + (m + 1) = k + m + 1 from rfl, Nat.pow_succ]
            exact mul_in _ _ r cn x z T _ _ _ _ (4294967296 ^ m) (Nat.pow_add _ _ _) (by rw [HP.out]; exact hT) HQV.out h3
          · have := size_dq wr nq
            simp only [World.size_setCell]
            omega
        · have hm2 : m = bl.length := by omega
          subst hm2
          have hkl2 : k + bl.length < qs.length := by have := HQL.out; omega
          have hcq := (HQ.out (k + bl.length) hkl2).1
          have hfq := (HQ.out (k + bl.length) hkl2).2
          generalize hr : qs.getD (k + bl.length) 0 = r at hcq
          clear hr
          have e4 : (cn : Int) % 4294967296 = (cn : Int) := by omega
          go_wp2_with fail
          refine ⟨⟨k + 1, qs.set (k + bl.length) cn, by omega, by go_num, by rw [List.length_set]; exact HQL.out, HQ.out.set (k + bl.length) cn hkl2, ?_, fun j hj => by rw [getD_set_ne _ _ _ _ (by omega)]; exact HQZ.out j (by omega), small_set hqs _ _ hcn, hbq.setCell (Nat.le_refl _) _, by simpa using hltq⟩, by simp [intOf]; omega⟩
          have h3 := val_set qs (k + bl.length) cn hkl2
          rw [HQZ.out _ (Nat.le_refl _), Nat.mul_zero, Nat.add_zero] at h3
          have h4 := HQV.out
          rw [List.take_of_length_le (Nat.le_refl _)] at h4
          rw [h3, h4, HV.out, val_take_succ al k hkl, HX.out, Nat.add_mul, Nat.mul_assoc]
    · have hk2 : k = al.length := by omega
      subst hk2
      have hvs : val rs = D := by
        rw [← HD.out, HV.out, List.take_of_length_le (Nat.le_refl _)]
      have cT := trim_any w.heap.size rs.length rs wr hsr (Nat.le_refl _) (by have := HRL.out; omega) hlt (fun j hj => (HR.out j hj).1)
      rw [hvs, HRL.out] at cT
      have HB := hideC hbw
      clear hvs hbw
      go_wp2_with fail
      refine cT.mono ?_
      rintro e w2 ⟨v, rfl, hnum, rfl⟩
      go_wp2
      go_ret
      exact ⟨v, rfl, hnum, HB.out⟩
set_option maxHeartbeats 400000 in
theorem mul_nil1 (o bo : Option Addr) (ca n cb : Nat) (w : World) :
    Calls Tryz.prog 85 #[.slice o 0 ca, .slice bo n cb] w fun e w' => e = .returned (.slice none 0 0) ∧ w' = w := by
  go_enter Tryz.func85, Tryz.ntmps85
  go_wp2
  go_ret
  exact ⟨rfl, rfl⟩
set_option maxHeartbeats 400000 in
theorem mul_nil2 (o bo : Option Addr) (ca n cb : Nat) (w : World) (hn : 0 < n) :
    Calls Tryz.prog 85 #[.slice o n ca, .slice bo 0 cb] w fun e w' => e = .returned (.slice none 0 0) ∧ w' = w := by
  have h1 : ((n : Int) == 0) = false := beq_eq_false_iff_ne.2 (by omega)
  go_enter Tryz.func85, Tryz.ntmps85
  go_wp2
  go_ret
  exact ⟨rfl, rfl⟩
theorem numNil (W : World) : NumAt W (.slice none 0 0) 0 := ⟨[], ⟨by intro y hy; simp at hy, rfl, fun h => absurd rfl h⟩, .inl ⟨rfl, rfl⟩⟩
theorem bmul_any (va vb : Value) (x y : Nat) (w : World) (ha : NumAt w va x) (hb : NumAt w vb y) (hx : x < 4294967296 ^ 9) (hy : y < 4294967296 ^ 9) :
    Calls Tryz.prog 85 #[va, vb] w fun e w' => ∃ v, e = .returned v ∧ NumAt w' v (x * y) ∧ Below w.heap.size w w' := by
  obtain ⟨al, a1, a2⟩ := ha
  obtain ⟨bl, b1, b2⟩ := hb
  have hla := words_len a1 hx
  have hlb := words_len b1 hy
  by_cases ha0 : al.length = 0
  · obtain ⟨ao, ca, rfl⟩ := a2.slot
    obtain ⟨bo, cb, rfl⟩ := b2.slot
    have : x = 0 := by rw [← a1.val, List.eq_nil_of_length_eq_zero ha0]; rfl
    rw [this, Nat.zero_mul, ha0]
    exact (mul_nil1 ao bo ca _ cb w).mono fun e w' ⟨h1, h2⟩ => ⟨_, h1, by rw [h2]; exact numNil w, by rw [h2]; exact Below.refl _ _⟩
  · by_cases hb0 : bl.length = 0
    · obtain ⟨ao, ca, rfl⟩ := a2.slot
      obtain ⟨bo, cb, rfl⟩ := b2.slot
      have : y = 0 := by rw [← b1.val, List.eq_nil_of_length_eq_zero hb0]; rfl
      rw [this, Nat.mul_zero, hb0]
      exact (mul_nil2 ao bo ca _ cb w (by omega)).mono fun e w' ⟨h1, h2⟩ => ⟨_, h1, by rw [h2]; exact numNil w, by rw [h2]; exact Below.refl _ _⟩
    · rcases a2 with ⟨_, e⟩ | ⟨ga, ca, rfl, _, hga, hca⟩
      · subst e; exact absurd rfl ha0
      · rcases b2 with ⟨_, e⟩ | ⟨gb, cb, rfl, _, hgb, hcb⟩
        · subst e; exact absurd rfl hb0
        · rw [← a1.val, ← b1.val]
          exact bmul_some ga ca gb cb al bl w a1.small b1.small (by omega) (by omega) (by omega) (by omega) hga hgb hca hcb
end Go.Proofs.YtecapnipkngniaaGreatDoor
/-
  Plain mathematics: numbers as texts and back; texts between quotation marks as they are written and back, and that they are UTF-8 just if the text is; for every number of 64 bits and every list of bytes.
-/
namespace Go.Proofs.YtecapnipkngniaaGreatDoor
open Go Go.Lib

theorem dig_toNat (k : Nat) (h : k < 10) : (UInt8.ofNat (48 + k)).toNat = 48 + k := by simp; omega

theorem dec_head : ∀ (m u : Nat), u ≤ m → ∃ c r, decDigits u = c :: r ∧ 48 ≤ c.toNat ∧ c.toNat ≤ 57
  | m, u, hm => by
    by_cases h : u < 10
    · rw [decDigits, dif_pos h]
      exact ⟨_, _, rfl, by rw [dig_toNat u h]; omega, by rw [dig_toNat u h]; omega⟩
    · rw [decDigits, dif_neg h]
      match m, hm with
      | 0, hm => omega
      | m + 1, hm =>
        obtain ⟨c, r, e, h1, h2⟩ := dec_head m (u / 10) (by omega)
        exact ⟨c, r ++ [UInt8.ofNat (48 + u % 10)], by rw [e]; rfl, h1, h2⟩

theorem parse_dec : ∀ (m u : Nat) (r : List UInt8), u ≤ m → u ≤ 18446744073709551615 → parseUintM 18446744073709551615 0 (decDigits u ++ r) = parseUintM 18446744073709551615 u r
  | m, u, r, hm, hu => by
    by_cases h : u < 10
    · rw [decDigits, dif_pos h]
      show parseUintM _ 0 (UInt8.ofNat (48 + u) :: r) = _
      rw [parseUintM, dig_toNat u h, if_pos (by omega), if_neg (by omega), if_neg (by omega)]
      congr 1
      omega
    · rw [decDigits, dif_neg h]
      match m, hm with
      | 0, hm => omega
      | m + 1, hm =>
        rw [List.append_assoc, parse_dec m (u / 10) _ (by omega) (by omega)]
        show parseUintM _ (u / 10) (UInt8.ofNat (48 + u % 10) :: r) = _
        rw [parseUintM, dig_toNat (u % 10) (by omega), if_pos (by omega), if_neg (by omega), if_neg (by omega)]
        congr 1
        omega

theorem parseB_dec (u : Nat) (hu : u ≤ 18446744073709551615) : parseUintB 64 (decDigits u) = .ok u := by
  obtain ⟨c, r, e, _⟩ := dec_head u u (Nat.le_refl _)
  have := parse_dec u u [] (Nat.le_refl _) hu
  rw [List.append_nil] at this
  unfold parseUintB
  rw [if_neg (by rw [e]; simp)]
  show parseUintM 18446744073709551615 0 (decDigits u) = _
  rw [this]
  rfl

theorem parse_itoa (n : Int) (h0 : -9223372036854775808 ≤ n) (h1 : n ≤ 9223372036854775807) : parseIntB 64 (itoa n) = .ok n := by
  unfold itoa
  by_cases hn : n < 0
  · rw [if_pos hn, parseIntB_minus, parseB_dec _ (by omega)]
    show (if 2 ^ 63 < n.natAbs then NumEnd.range else .ok (-(n.natAbs : Int))) = _
    rw [if_neg (by omega)]
    congr 1
    omega
  · rw [if_neg hn]
    obtain ⟨c, r, e, h2, h3⟩ := dec_head n.toNat n.toNat (Nat.le_refl _)
    rw [e, parseIntB_plain 64 c r (by omega) (by omega), ← e, parseB_dec _ (by omega)]
    show (if 2 ^ 63 ≤ n.toNat then NumEnd.range else .ok (n.toNat : Int)) = _
    rw [if_neg (by omega)]
    congr 1
    omega

/-- a number's text opens with a digit or a minus -/
theorem itoa_head (n : Int) : ∃ c r, itoa n = c :: r ∧ (c.toNat = 45 ∨ (48 ≤ c.toNat ∧ c.toNat ≤ 57)) := by
  unfold itoa
  by_cases hn : n < 0
  · rw [if_pos hn]; exact ⟨45, _, rfl, .inl rfl⟩
  · rw [if_neg hn]
    obtain ⟨c, r, e, h2, h3⟩ := dec_head n.toNat n.toNat (Nat.le_refl _)
    exact ⟨c, r, e, .inr ⟨h2, h3⟩⟩

/-! ### texts as they are written -/
def esc1 (c : UInt8) : List UInt8 := if c = 92 then [92, 92] else if c = 34 then [92, 34] else if c = 10 then [92, 110] else [c]
def esc (l : List UInt8) : List UInt8 := l.flatMap esc1
def unesc (c : UInt8) : Option UInt8 := if c = 92 ∨ c = 34 then some c else if c = 110 then some 10 else none
def unq : List UInt8 → Option (List UInt8)
  | [] => some []
  | c :: r =>
    if c = 34 ∨ c = 10 then none
    else if c = 92 then
      match r with
      | [] => none
      | d :: r' => match unesc d with
        | none => none
        | some x => (unq r').map (x :: ·)
    else (unq r).map (c :: ·)

theorem esc_nil : esc [] = [] := rfl
theorem esc_cons (c : UInt8) (l : List UInt8) : esc (c :: l) = esc1 c ++ esc l := by simp [esc]
theorem esc_append (a b : List UInt8) : esc (a ++ b) = esc a ++ esc b := by simp [esc]
theorem esc1_plain (c : UInt8) (h1 : c ≠ 92) (h2 : c ≠ 34) (h3 : c ≠ 10) : esc1 c = [c] := by simp [esc1, h1, h2, h3]
theorem esc1_len (c : UInt8) : 1 ≤ (esc1 c).length ∧ (esc1 c).length ≤ 2 := by
  unfold esc1
  repeat' split
  all_goals simp
theorem esc_len : ∀ l : List UInt8, l.length ≤ (esc l).length ∧ (esc l).length ≤ 2 * l.length
  | [] => by simp [esc]
  | c :: l => by rw [esc_cons, List.length_append, List.length_cons]; have := esc1_len c; have := esc_len l; omega

theorem unq_esc : ∀ l : List UInt8, unq (esc l) = some l
  | [] => rfl
  | c :: l => by
    have ih := unq_esc l
    rw [esc_cons]
    unfold esc1
    by_cases h1 : c = 92
    · subst h1; simp [unq, unesc, ih]
    · by_cases h2 : c = 34
      · subst h2; simp [unq, unesc, ih]
      · by_cases h3 : c = 10
        · subst h3; simp [unq, unesc, ih]
        · rw [if_neg h1, if_neg h2, if_neg h3, List.cons_append, List.nil_append]
          unfold unq
          rw [if_neg (by simp [h2, h3]), if_neg h1, ih]
          rfl

theorem esc_unq : ∀ (n : Nat) (b t : List UInt8), b.length ≤ n → unq b = some t → b = esc t
  | _, [], t, _, h => by simp [unq] at h; subst h; rfl
  | 0, _ :: _, _, hn, _ => by simp at hn
  | n + 1, c :: r, t, hn, h => by
    have hn' : r.length ≤ n := by simpa using hn
    unfold unq at h
    by_cases h1 : c = 34 ∨ c = 10
    · rw [if_pos h1] at h; cases h
    · rw [if_neg h1] at h
      by_cases h2 : c = 92
      · rw [if_pos h2] at h
        subst h2
        match r, hn', h with
        | [], _, h => simp at h
        | d :: r', hn', h =>
          simp only at h
          unfold unesc at h
          by_cases h3 : d = 92 ∨ d = 34
          · rw [if_pos h3] at h
            simp only [Option.map_eq_some_iff] at h
            obtain ⟨u, hu, rfl⟩ := h
            have := esc_unq n r' u (by simp at hn'; omega) hu
            rw [this, esc_cons]
            rcases h3 with rfl | rfl <;> simp [esc1]
          · rw [if_neg h3] at h
            by_cases h4 : d = 110
            · rw [if_pos h4] at h
              subst h4
              simp only [Option.map_eq_some_iff] at h
              obtain ⟨u, hu, rfl⟩ := h
              have := esc_unq n r' u (by simp at hn'; omega) hu
              rw [this, esc_cons]
              simp [esc1]
            · rw [if_neg h4] at h; cases h
      · rw [if_neg h2] at h
        simp only [Option.map_eq_some_iff] at h
        obtain ⟨u, hu, rfl⟩ := h
        have := esc_unq n r u hn' hu
        rw [esc_cons, esc1_plain c h2 (fun e => h1 (.inl e)) (fun e => h1 (.inr e)), ← this]
        rfl

theorem high_ne (c k : UInt8) (h : 128 ≤ c.toNat) (hk : k.toNat < 128) : c ≠ k := fun e => by subst e; omega
theorem esc_high : ∀ (u l : List UInt8), (∀ c ∈ u, 128 ≤ c.toNat) → esc (u ++ l) = u ++ esc l
  | [], _, _ => rfl
  | c :: u, l, h => by
    have hc := h c (by simp)
    rw [List.cons_append, esc_cons, esc1_plain c (high_ne c 92 hc (by decide)) (high_ne c 34 hc (by decide)) (high_ne c 10 hc (by decide)), esc_high u l fun x hx => h x (by simp [hx])]
    rfl
theorem high_of_esc : ∀ (u t rest : List UInt8), (∀ c ∈ u, 128 ≤ c.toNat) → esc t ++ [34] = u ++ rest → ∃ t', t = u ++ t'
  | [], t, _, _, _ => ⟨t, rfl⟩
  | c :: u, [], rest, h, e => by
    have hc := h c (by simp)
    have := (List.cons.inj (show (34 : UInt8) :: [] = c :: (u ++ rest) from e)).1
    exact absurd this.symm (high_ne c 34 hc (by decide))
  | c :: u, b :: t, rest, h, e => by
    have hc := h c (by simp)
    rw [esc_cons] at e
    by_cases hb : b = 92 ∨ b = 34 ∨ b = 10
    · have : ∃ z, esc1 b = 92 :: z := by
        unfold esc1
        rcases hb with rfl | rfl | rfl
        · exact ⟨_, rfl⟩
        · exact ⟨_, rfl⟩
        · exact ⟨_, rfl⟩
      obtain ⟨z, hz⟩ := this
      rw [hz] at e
      have := (List.cons.inj (show (92 : UInt8) :: (z ++ esc t ++ [34]) = c :: (u ++ rest) by simpa using e)).1
      exact absurd this.symm (high_ne c 92 hc (by decide))
    · rw [esc1_plain b (fun x => hb (.inl x)) (fun x => hb (.inr (.inl x))) (fun x => hb (.inr (.inr x)))] at e
      have e' := List.cons.inj (show b :: (esc t ++ [34]) = c :: (u ++ rest) by simpa using e)
      obtain ⟨t', ht⟩ := high_of_esc u t rest (fun x hx => h x (by simp [hx])) e'.2
      exact ⟨t', by rw [e'.1, ht]; rfl⟩

/-- a letter from 128 on has no byte below 128 -/
theorem enc_high (r : Nat) (h : 128 ≤ r) : ∀ c ∈ encodeRune (r : Int), 128 ≤ c.toNat := by
  intro c hc
  unfold encodeRune at hc
  obtain ⟨z, hz, rfl⟩ := List.mem_map.1 hc
  have hb := encodeRuneZ_byte (r : Int) z hz
  have h128 : 128 ≤ z := by
    unfold encodeRuneZ at hz
    repeat' split at hz
    all_goals (simp at hz; omega)
  obtain ⟨m, rfl⟩ := Int.eq_ofNat_of_zero_le hb.1
  rw [byteN (m : Int) m rfl (by omega)]
  omega
theorem enc_low (r : Nat) (h : r < 128) : encodeRune (r : Int) = [UInt8.ofNat r] := by
  simp [encodeRune, encodeRuneZ_one (show (0 : Int) ≤ r by omega) (show (r : Int) ≤ 127 by omega)]
theorem enc_low_rl (r : Nat) (h : 128 ≤ r) (hr : IsR r) : 2 ≤ rl r := by
  unfold IsR at hr
  unfold rl encodeRune encodeRuneZ
  repeat' split
  all_goals first | omega | simp

theorem valid_esc1 (b : UInt8) (hb : b.toNat < 128) (z : List UInt8) : validD (esc1 b ++ z) = validD z := by
  unfold esc1
  repeat' split
  · rw [List.cons_append, List.cons_append, List.nil_append, validD_cons _ _ (by decide), validD_cons _ _ (by decide)]
  · rw [List.cons_append, List.cons_append, List.nil_append, validD_cons _ _ (by decide), validD_cons _ _ (by decide)]
  · rw [List.cons_append, List.cons_append, List.nil_append, validD_cons _ _ (by decide), validD_cons _ _ (by decide)]
  · rw [List.cons_append, List.nil_append, validD_cons _ _ hb]

set_option maxHeartbeats 1000000 in
theorem valid_q : ∀ (n : Nat) (t : List UInt8), t.length ≤ n → validD (esc t ++ [34]) = validD t
  | _, [], _ => by decide
  | 0, _ :: _, hn => by simp at hn
  | n + 1, b :: t, hn => by
    have hn' : t.length ≤ n := by simpa using hn
    by_cases hb : b.toNat < 128
    · rw [validD_cons b t hb, ← valid_q n t hn', esc_cons, List.append_assoc, valid_esc1 b hb]
    · have hne : (b :: t) ≠ [] := by simp
      have hne2 : esc (b :: t) ++ [34] ≠ [] := by simp
      rw [validD_step (b :: t) hne]
      by_cases hbad : (decodeL (b :: t)).1 = 65533 ∧ (decodeL (b :: t)).2 = 1
      · rw [if_pos hbad, validD_step _ hne2]
        by_cases hbad2 : (decodeL (esc (b :: t) ++ [34])).1 = 65533 ∧ (decodeL (esc (b :: t) ++ [34])).2 = 1
        · rw [if_pos hbad2]
        · exfalso
          have he := encode_decode _ hne2 hbad2
          have hR := dec_IsR (esc (b :: t) ++ [34])
          generalize hr : (decodeL (esc (b :: t) ++ [34])).1 = r at he hR
          generalize hk : (decodeL (esc (b :: t) ++ [34])).2 = k at he
          have hsplit : esc (b :: t) ++ [34] = encodeRune (r : Int) ++ (esc (b :: t) ++ [34]).drop k := by rw [he, List.take_append_drop]
          have hfirst : esc (b :: t) = b :: esc t := by
            have := esc_high [b] t (by intro c hc; simp at hc; subst hc; omega)
            simpa using this
          have hr128 : 128 ≤ r := by
            rcases Nat.lt_or_ge r 128 with hlt | hge
            · rw [enc_low r hlt, hfirst] at hsplit
              have := (List.cons.inj (show b :: (esc t ++ [34]) = UInt8.ofNat r :: _ from hsplit)).1
              rw [this] at hb
              simp at hb
              omega
            · exact hge
          obtain ⟨t', ht'⟩ := high_of_esc (encodeRune (r : Int)) (b :: t) _ (enc_high r hr128) hsplit
          have hd := decode_encode r hR t'
          rw [← ht'] at hd
          have h2 := enc_low_rl r hr128 hR
          rw [hd] at hbad
          have := hbad.2
          simp only at this
          omega
      · rw [if_neg hbad]
        have he := encode_decode _ hne hbad
        have hR := dec_IsR (b :: t)
        have hw := decodeL_width (b :: t)
        have hle := decodeL_le (b :: t) hne
        generalize hr : (decodeL (b :: t)).1 = r at he hR hbad
        generalize hk : (decodeL (b :: t)).2 = k at he hbad hw hle
        have hsplit : b :: t = encodeRune (r : Int) ++ (b :: t).drop k := by rw [he, List.take_append_drop]
        have hr128 : 128 ≤ r := by
          rcases Nat.lt_or_ge r 128 with hlt | hge
          · rw [enc_low r hlt] at hsplit
            have := (List.cons.inj (show b :: t = UInt8.ofNat r :: _ from hsplit)).1
            rw [this] at hb
            simp at hb
            omega
          · exact hge
        have hlen : ((b :: t).drop k).length ≤ n := by rw [List.length_drop, List.length_cons]; omega
        rw [← valid_q n _ hlen]
        rw [show esc (b :: t) = encodeRune (r : Int) ++ esc ((b :: t).drop k) by rw [← esc_high _ _ (enc_high r hr128), ← hsplit]]
        rw [List.append_assoc, validD_step _ (by have := rl_pos r; intro e; have := congrArg List.length e; simp only [List.length_append, List.length_nil] at this; unfold rl at *; omega), decode_encode r hR]
        have h2 := enc_low_rl r hr128 hR
        rw [if_neg (fun x => by have := x.2; simp only at this; omega)]
        congr 1
        simp [rl]

/-- a text between two quotation marks -/
def quo (t : List UInt8) : List UInt8 := 34 :: (esc t ++ [34])
theorem valid_quo (t : List UInt8) : validD (quo t) = validD t := by
  unfold quo
  rw [validD_cons _ _ (by decide)]
  exact valid_q _ t (Nat.le_refl _)
end Go.Proofs.YtecapnipkngniaaGreatDoor
