/-
  Lists of words compared and parted; the contract of duetbig.cmp, for every two numbers.
-/
import Derived.Test.YtecapnipkngniaaGreatDoorBe
import Derived.Deep.QuietTactic
import Derived.BigQuiet
import Derived.Test.YtecapnipkngniaaGreatDoorXj
import Derived.Test.YtecapnipkngniaaGreatDoorBb
namespace Go.Proofs.YtecapnipkngniaaGreatDoor
open Go.RowKit

theorem hideC {p : Prop} (h : p) : Hid p := h
theorem val_split (ws : List Nat) (i : Nat) (h : i < ws.length) : val ws = val (ws.take i) + 4294967296 ^ i * ws.getD i 0 + 4294967296 ^ (i + 1) * val (ws.drop (i + 1)) := by
  have e := val_append (ws.take (i + 1)) (ws.drop (i + 1))
  rw [List.take_append_drop, List.length_take, Nat.min_eq_left (by omega), val_take_succ ws i h] at e
  exact e
theorem bcmp_at (al bl : List Nat) (i : Nat) (hl : al.length = bl.length) (hi : i < al.length) (hs : Small al) (h : al.getD i 0 < bl.getD i 0) (he : ∀ j, i < j → j < al.length → al.getD j 0 = bl.getD j 0) : val al < val bl := by
  have hd : al.drop (i + 1) = bl.drop (i + 1) := by
    apply List.ext_getElem
    · simp [hl]
    · intro j h1 h2
      rw [List.length_drop] at h1
      have := he (i + 1 + j) (by omega) (by omega)
      rw [List.getD, List.getD, List.getElem?_eq_getElem (by omega), List.getElem?_eq_getElem (by omega)] at this
      simpa using this
  rw [val_split al i hi, val_split bl i (by omega), hd]
  have h1 := val_lt (al.take i) (fun x hx => hs x (List.mem_of_mem_take hx))
  rw [List.length_take, Nat.min_eq_left (by omega)] at h1
  have h2 : 4294967296 ^ i * (al.getD i 0 + 1) ≤ 4294967296 ^ i * bl.getD i 0 := Nat.mul_le_mul_left _ h
  rw [Nat.mul_add, Nat.mul_one] at h2
  omega
theorem words_lt {al bl : List Nat} {x y : Nat} (ha : Words al x) (hb : Words bl y) (h : al.length < bl.length) : x < y := by
  have h1 := val_lt al ha.small
  rw [ha.val] at h1
  have hne : bl ≠ [] := by rintro rfl; simp at h
  have h2 := val_pos bl hb.last hne
  rw [hb.val] at h2
  have h3 : 4294967296 ^ al.length ≤ 4294967296 ^ (bl.length - 1) := Nat.pow_le_pow_right (by omega) (by omega)
  omega
theorem eq_of_getD (al bl : List Nat) (hl : al.length = bl.length) (h : ∀ j, j < al.length → al.getD j 0 = bl.getD j 0) : al = bl := by
  apply List.ext_getElem hl
  intro j h1 h2
  have := h j h1
  rwa [List.getD, List.getD, List.getElem?_eq_getElem h1, List.getElem?_eq_getElem h2] at this
def cmpN (x y : Nat) : Int := if x < y then -1 else if y < x then 1 else 0
theorem cmpN_lt {x y : Nat} (h : x < y) : cmpN x y = -1 := if_pos h
theorem cmpN_gt {x y : Nat} (h : y < x) : cmpN x y = 1 := by unfold cmpN; rw [if_neg (by omega), if_pos h]
theorem cmpN_eq (x : Nat) : cmpN x x = 0 := by unfold cmpN; rw [if_neg (by omega), if_neg (by omega)]
theorem below_drewN {B : Nat} {a w : World} (h : Below B a w) : ∀ q, Below B a (w.drewN q)
  | 0 => h
  | q + 1 => (below_drewN h q).drew
set_option maxRecDepth 100000 in
set_option maxHeartbeats 1000000 in
theorem bcmp_some (ga ca gb cb : Nat) (al bl : List Nat) (w : World) (hl : al.length = bl.length) (ha : Small al) (hb : Small bl) (hga : ga < w.heap.size) (hgb : gb < w.heap.size) (hlen : al.length ≤ 1000)
    (hca : ∀ j, j < al.length → w.cell? ⟨ga, j, none⟩ = some (.int .u32 (al.getD j 0 : Nat))) (hcb : ∀ j, j < bl.length → w.cell? ⟨gb, j, none⟩ = some (.int .u32 (bl.getD j 0 : Nat))) :
    Calls Tryz.prog 116 #[.slice (some ⟨ga, 0, none⟩) al.length ca, .slice (some ⟨gb, 0, none⟩) al.length cb] w fun e w' => e = .returned (.int .i64 (cmpN (val al) (val bl))) ∧ Below w.heap.size w w' := by
  have HCA := hideC hca
  have HCB := hideC hcb
  have HLT := hideC (fun i (hi : i < al.length) => bcmp_at al bl i hl hi ha)
  have HGT := hideC (fun i (hi : i < bl.length) => bcmp_at bl al i hl.symm hi hb)
  have HEQ := hideC (fun h => eq_of_getD al bl hl h)
  have HS := hideC hl
  clear hca hcb hl
  generalize hR : cmpN (val al) (val bl) = R
  have HR := hideC hR
  clear hR
  go_enter Tryz.func116, Tryz.ntmps116
  go_wp2_with fail
  go_loopw [5] (fun i wr => ∃ k : Nat, k ≤ al.length ∧ i = .int .i64 ((k : Int) - 1) ∧ (∀ j, k ≤ j → j < al.length → al.getD j 0 = bl.getD j 0) ∧ Below w.heap.size w wr) (fun i _ => ((intOf i) + 1).toNat)
  case atStart => exact ⟨al.length, Nat.le_refl _, rfl, fun j h1 h2 => by omega, Below.refl _ _⟩
  case round =>
    obtain ⟨k, hk, rfl, hE, hbw⟩ := hrel
    have HE := hideC hE
    have HB := hideC hbw
    clear hE
    by_cases h0 : k = 0
    · subst h0
      have hv : Hid (R = 0) := by show _ = _; rw [← HR.out, HEQ.out (fun j hj => HE.out j (Nat.zero_le _) hj)]; exact cmpN_eq _
      clear hbw
      go_wp2_with fail
      go_ret
      exact ⟨by rw [hv.out]; rfl, HB.out⟩
    · obtain ⟨m, rfl⟩ : ∃ m, k = m + 1 := ⟨k - 1, by omega⟩
      have ca' := (hbw.cell (p := ⟨ga, m, none⟩) hga).trans (HCA.out m (by omega))
      have cb' := (hbw.cell (p := ⟨gb, m, none⟩) hgb).trans (HCB.out m (by have := HS.out; omega))
      have e1 : ((m + 1 : Nat) : Int) - 1 = (m : Int) := by omega
      rw [e1]
      have hmz : (m : Int) < (al.length : Int) := by omega
      have hm0 : (0 : Int) ≤ (m : Int) := by omega
      generalize hxa : al.getD m 0 = p at ca'
      generalize hxb : bl.getD m 0 = q at cb'
      have HXA := hideC hxa
      have HXB := hideC hxb
      clear hxa hxb hbw
      by_cases hpq : p = q
      · subst hpq
        go_wp2_with fail
        go_quiet (fail)
        go_wp2_with fail
        go_roundw
        case rel => exact ⟨m, by omega, by go_num, fun j h1 h2 => by
          rcases Nat.lt_or_ge m j with h | h
          · exact HE.out j (by omega) h2
          · have : j = m := by omega
            subst this; rw [HXA.out, HXB.out], below_drewN HB.out _⟩
        case measure => simp [intOf]
      · have hpb : ((p : Int) == (q : Int)) = false := by simp; omega
        by_cases hlt : p < q
        · have hv : Hid (R = -1) := HR.out.symm.trans (cmpN_lt (HLT.out m (by omega) (by rw [HXA.out, HXB.out]; exact hlt) (fun j h1 h2 => HE.out j (by omega) h2)))
          have hz : (p : Int) < (q : Int) := by omega
          go_wp2_with fail
          go_quiet (fail)
          go_wp2_with fail
          go_quiet (fail)
          go_wp2_with fail
          go_ret
          exact ⟨by rw [hv.out]; rfl, below_drewN (below_drewN HB.out _) _⟩
        · have hv : Hid (R = 1) := HR.out.symm.trans (cmpN_gt (HGT.out m (by have := HS.out; omega) (by rw [HXA.out, HXB.out]; omega) (fun j h1 h2 => (HE.out j (by omega) (by have := HS.out; omega)).symm)))
          have hz : ¬ (p : Int) < (q : Int) := by omega
          go_wp2_with fail
          go_quiet (fail)
          go_wp2_with fail
          go_quiet (fail)
          go_wp2_with fail
          go_ret
          exact ⟨by rw [hv.out]; rfl, below_drewN (below_drewN HB.out _) _⟩
set_option maxHeartbeats 400000 in
theorem bcmp_none (ao bo : Option Addr) (ca cb : Nat) (w : World) :
    Calls Tryz.prog 116 #[.slice ao 0 ca, .slice bo 0 cb] w fun e w' => e = .returned (.int .i64 0) ∧ Below w.heap.size w w' := by
  go_enter Tryz.func116, Tryz.ntmps116
  go_wp2_with fail
  refine wp_loop_rounds 1 ?_
  rw [rounds_succ]
  go_wp2_with fail
  go_ret
  exact ⟨rfl, Below.refl _ _⟩
set_option maxHeartbeats 400000 in
theorem bcmp_less (ao bo : Option Addr) (n m ca cb : Nat) (w : World) (h : n < m) :
    Calls Tryz.prog 116 #[.slice ao n ca, .slice bo m cb] w fun e w' => e = .returned (.int .i64 (-1)) ∧ Below w.heap.size w w' := by
  have h1 : ((n : Int) == (m : Int)) = false := by simp; omega
  have h2 : (n : Int) < (m : Int) := by omega
  go_enter Tryz.func116, Tryz.ntmps116
  go_wp2_with fail
  go_ret
  exact ⟨rfl, Below.refl _ _⟩
set_option maxHeartbeats 400000 in
theorem bcmp_more (ao bo : Option Addr) (n m ca cb : Nat) (w : World) (h : m < n) :
    Calls Tryz.prog 116 #[.slice ao n ca, .slice bo m cb] w fun e w' => e = .returned (.int .i64 1) ∧ Below w.heap.size w w' := by
  have h1 : ((n : Int) == (m : Int)) = false := by simp; omega
  have h2 : ¬ (n : Int) < (m : Int) := by omega
  go_enter Tryz.func116, Tryz.ntmps116
  go_wp2_with fail
  go_ret
  exact ⟨rfl, Below.refl _ _⟩
theorem bcmp_any (va vb : Value) (x y : Nat) (w : World) (ha : NumAt w va x) (hb : NumAt w vb y) (hx : x < 4294967296 ^ 9) :
    Calls Tryz.prog 116 #[va, vb] w fun e w' => e = .returned (.int .i64 (cmpN x y)) ∧ Below w.heap.size w w' := by
  obtain ⟨al, a1, a2⟩ := ha
  obtain ⟨bl, b1, b2⟩ := hb
  have hlen := words_len a1 hx
  obtain ⟨ao, ca, rfl⟩ := a2.slot
  obtain ⟨bo, cb, rfl⟩ := b2.slot
  rcases Nat.lt_trichotomy al.length bl.length with h | h | h
  · rw [cmpN_lt (words_lt a1 b1 h)]; exact bcmp_less ao bo _ _ ca cb w h
  · by_cases h0 : al.length = 0
    · have e1 : al = [] := List.eq_nil_of_length_eq_zero h0
      have e2 : bl = [] := List.eq_nil_of_length_eq_zero (by omega)
      have : cmpN x y = 0 := by rw [← a1.val, ← b1.val, e1, e2]; rfl
      rw [this, ← h, h0]
      exact bcmp_none ao bo ca cb w
    · rcases a2 with ⟨_, e⟩ | ⟨ga, ca', e, _, hga, hca⟩
      · subst e; simp at h0
      · rcases b2 with ⟨_, e'⟩ | ⟨gb, cb', e', _, hgb, hcb⟩
        · subst e'; exact absurd h h0
        · injection e with e1 e2 e3
          injection e' with e4 e5 e6
          subst e1 e4
          rw [← a1.val, ← b1.val, ← h]
          exact bcmp_some ga ca gb cb al bl w h a1.small b1.small hga hgb (by omega) hca hcb
  · rw [cmpN_gt (words_lt b1 a1 h)]; exact bcmp_more ao bo _ _ ca cb w h
end Go.Proofs.YtecapnipkngniaaGreatDoor
/-
  The contracts of duetlaw.one of two values and of duetlaw.expr, where both sides are the same.
-/
namespace Go.Proofs.YtecapnipkngniaaGreatDoor
open Go.RowKit Go.Shelf

set_option maxRecDepth 100000 in
set_option maxHeartbeats 1000000 in
theorem oneVl_any (a : Vl) (z : Int) (w : World) (h : z ≠ 0 → a = ⟨0, 0, ⟨#[]⟩⟩) :
    Calls Tryz.prog 7 #[vlV a, .int .i64 z, vlV a, .int .i64 z] w fun e w' => e = .returned (.bool true) ∧ Below w.heap.size w w' := by
  by_cases hz : z = 0
  · subst hz
    have e1 : (a.so == a.so) = true := by simp
    have e2 : (a.n == a.n) = true := by simp
    have e3 : (a.s.toList == a.s.toList) = true := by simp
    clear h
    simp only [vlV]
    go_enter Tryz.func7, Tryz.ntmps7
    go_wp2_with fail
    go_ret
    refine ⟨rfl, ?_⟩
    go_grown
  · have hzb : (z != 0) = true := by simpa using hz
    have hzz : (z == z) = true := by simp
    have := h hz
    subst this
    clear h hz
    simp only [vlV]
    go_enter Tryz.func7, Tryz.ntmps7
    go_wp2_with fail
    go_ret
    refine ⟨rfl, ?_⟩
    go_grown
set_option maxRecDepth 100000 in
set_option maxHeartbeats 1000000 in
theorem lawExpr_same (d : Nat) (x : Ex) (ao ao2 : Option Addr) (cap cap2 B : Nat) (w : World) (h1 : ExBd x cap) (h2 : ExBd x cap2) (k1 : KA w B d x.kids ao) (k2 : KA w B d x.kids ao2) (hB : B ≤ w.heap.size) :
    Calls Tryz.prog 15 #[exVal x ao cap, .int .i64 0, exVal x ao2 cap2, .int .i64 0] w fun e w' => e = .returned (.bool true) ∧ Below w.heap.size w w' := by
  have c := fun W (hb : Below w.heap.size w W) => same_any d x ao ao2 cap cap2 B W h1 h2 (k1.keep (hb.mono hB)) (k2.keep (hb.mono hB)) (Nat.le_trans hB hb.size)
  simp only [exVal] at c ⊢
  have C := hideC c
  have A1 := hideC (show Below w.heap.size w ((w.alloc (.cells #[.int .i64 x.kind, .string x.name, .int .i64 x.so, .int .i64 x.n, .string x.s, .slice ao x.kids.length cap] 26)).alloc (.cells #[.int .i64 x.kind, .string x.name, .int .i64 x.so, .int .i64 x.n, .string x.s, .slice ao2 x.kids.length cap2] 26)) from ((Below.refl _ _).alloc (Nat.le_refl _) _).alloc (by simp) _)
  clear c k1 k2 h1 h2
  go_enter Tryz.func15, Tryz.ntmps15
  go_wp2_with fail
  refine (C.out _ A1.out).mono ?_
  rintro e w1 ⟨rfl, hb1⟩
  have hbe := A1.out.trans (hb1.mono A1.out.size)
  go_wp2_with fail
  go_ret
  exact ⟨rfl, hbe⟩
set_option maxRecDepth 100000 in
set_option maxHeartbeats 1000000 in
theorem lawExpr_err (z : Int) (hz : z ≠ 0) (y : Ex) (ao2 : Option Addr) (cap2 : Nat) (w : World) :
    Calls Tryz.prog 15 #[.agg #[.int .i64 0, .string ⟨#[]⟩, .int .i64 0, .int .i64 0, .string ⟨#[]⟩, .slice none 0 0], .int .i64 z, exVal y ao2 cap2, .int .i64 z] w fun e w' => e = .returned (.bool true) ∧ Below w.heap.size w w' := by
  have hzb : (z != 0) = true := by simpa using hz
  have hzz : (z == z) = true := by simp
  have x0 : ExBd ⟨0, ⟨#[]⟩, 0, 0, ⟨#[]⟩, []⟩ 0 := ⟨by decide, by decide, by decide, by decide, Nat.le_refl _, by decide⟩
  have C := hideC (fun W : World => same_any 0 ⟨0, ⟨#[]⟩, 0, 0, ⟨#[]⟩, []⟩ none none 0 0 0 W x0 x0 rfl rfl (Nat.zero_le _))
  simp only [exVal, List.length_nil] at C ⊢
  clear hz x0
  go_enter Tryz.func15, Tryz.ntmps15
  go_wp2_with fail
  refine (C.out _).mono ?_
  rintro e w1 ⟨rfl, hb1⟩
  have hsz := hb1.size
  go_wp2_with fail
  go_ret
  refine ⟨rfl, ?_⟩
  refine Below.trans ?_ (hb1.mono ?_)
  · go_grown
  · simp; omega
set_option maxHeartbeats 1000000 in
theorem lawList_err (z : Int) (hz : z ≠ 0) (ao2 : Option Addr) (n2 cap2 : Nat) (w : World) :
    Calls Tryz.prog 16 #[.slice none 0 0, .int .i64 z, .slice ao2 n2 cap2, .int .i64 z] w fun e w' => e = .returned (.bool true) ∧ w' = w := by
  have hzb : (z != 0) = true := by simpa using hz
  have hzz : (z == z) = true := by simp
  clear hz
  go_enter Tryz.func16, Tryz.ntmps16
  go_wp2_with fail
  go_ret
  exact ⟨rfl, rfl⟩
end Go.Proofs.YtecapnipkngniaaGreatDoor

/-
  The contract of duetbig.sub, for every two numbers of which the first is not less.
-/
namespace Go.Proofs.YtecapnipkngniaaGreatDoor
open Go.RowKit

theorem sub_step (p P A Bv a z c T c' : Nat) (hT : T + z + c = a + 4294967296 * c') (h : P + Bv = A + p * c) : (P + p * T) + (Bv + p * z) = (A + p * a) + p * 4294967296 * c' := by
  have e : p * (T + z + c) = p * (a + 4294967296 * c') := by rw [hT]
  rw [Nat.mul_add, Nat.mul_add, Nat.mul_add] at e
  have e2 : p * 4294967296 * c' = p * (4294967296 * c') := by rw [Nat.mul_assoc]
  omega
theorem sub_word (x z c : Nat) (hx : x < 4294967296) (hz : z < 4294967296) (hc : c ≤ 1) (V1 V2 : Int) (h1 : IntKind.u64.wrap ((x : Int) - (c : Int)) = V1) (h2 : IntKind.u64.wrap (V1 - (z : Int)) = V2) :
    ∃ T c' : Nat, V2 % 4294967296 = (T : Int) ∧ V2 / 9223372036854775808 = (c' : Int) ∧ T + z + c = x + 4294967296 * c' ∧ T < 4294967296 ∧ c' ≤ 1 := by
  unfold IntKind.wrap at h1 h2
  simp [IntKind.bits, IntKind.signed] at h1 h2
  by_cases h : z + c ≤ x
  · exact ⟨x - c - z, 0, by omega, by omega, by omega, by omega, by omega⟩
  · exact ⟨x + 4294967296 - c - z, 1, by omega, by omega, by omega, by omega, by omega⟩
set_option maxRecDepth 100000 in
set_option maxHeartbeats 1000000 in
theorem bsub_some (ga ca gb cb : Nat) (al bl : List Nat) (w : World) (hsl : Small al) (hss : Small bl) (hla : al.length ≤ 1000) (hle : bl.length ≤ al.length) (hgl : ga < w.heap.size) (hgs : gb < w.heap.size) (hcl : ∀ j, j < al.length → w.cell? ⟨ga, j, none⟩ = some (.int .u32 (al.getD j 0 : Nat))) (hcs : ∀ j, j < bl.length → w.cell? ⟨gb, j, none⟩ = some (.int .u32 (bl.getD j 0 : Nat))) (hv : val bl ≤ val al) :
    Calls Tryz.prog 117 #[.slice (some ⟨ga, 0, none⟩) al.length ca, .slice (some ⟨gb, 0, none⟩) bl.length cb] w fun e w' => ∃ v, e = .returned v ∧ NumAt w' v (val al - val bl) ∧ Below w.heap.size w w' := by
  obtain ⟨Z, hZ, hmk⟩ := make32 al.length (by omega)
  have hrow := row_new w Z al.length hZ
  clear hZ
  have HCL := hideC hcl
  have HCS := hideC hcs
  have HLE := hideC hle
  have HVV := hideC hv
  clear hcl hcs hv hle
  generalize hD : val al - val bl = D
  have HD := hideC hD
  clear hD
  go_enter Tryz.func117, Tryz.ntmps117
  go_wp2_with fail
  go_loopw [6, 7] (fun c i wr => ∃ (k cn : Nat) (rs : List Nat), k ≤ al.length ∧ i = .int .i64 (k : Int) ∧ c = .int .u64 (cn : Int) ∧ cn ≤ 1 ∧ rs.length = al.length ∧ Row wr w.heap.size rs ∧ val (rs.take k) + val (bl.take k) = val (al.take k) + 4294967296 ^ k * cn ∧ Small rs ∧ Below w.heap.size w wr ∧ w.heap.size < wr.heap.size) (fun c i wr => al.length - (intOf i).toNat)
  case atStart => exact ⟨0, 0, List.replicate al.length 0, Nat.zero_le _, rfl, rfl, by omega, by simp, hrow, by simp [val], small_rep _, (Below.refl _ _).alloc (Nat.le_refl _) _, by simp⟩
  case round =>
    obtain ⟨k, cn, rs, hk, rfl, rfl, hcn, hrl, hr, hval, hsr, hbw, hlt⟩ := hrel
    have HR := hideC hr
    have HV := hideC hval
    have HRL := hideC hrl
    clear hr hval hrl
    by_cases hkl : k < al.length
    · have hkz : (k : Int) < (al.length : Int) := by omega
      have hcx := (hbw.cell (p := ⟨ga, k, none⟩) hgl).trans (HCL.out k hkl)
      have hcq := (HR.out k (by have := HRL.out; omega)).1
      have hfq := (HR.out k (by have := HRL.out; omega)).2
      generalize hx : al.getD k 0 = x at hcx
      generalize hy : rs.getD k 0 = y at hcq
      have hx2 : x < 4294967296 := by rw [← hx]; exact hsl _ (getD_mem al k hkl)
      have HX := hideC hx
      clear hx hy
      obtain ⟨V1, hV1⟩ : ∃ V, IntKind.u64.wrap ((x : Int) - (cn : Int)) = V := ⟨_, rfl⟩
      by_cases hks : k < bl.length
      · have hksz : (k : Int) < (bl.length : Int) := by omega
        have hcy := (hbw.cell (p := ⟨gb, k, none⟩) hgs).trans (HCS.out k hks)
        generalize hz : bl.getD k 0 = z at hcy
        have hz2 : z < 4294967296 := by rw [← hz]; exact hss _ (getD_mem bl k hks)
        have HZ := hideC hz
        clear hz
        obtain ⟨V2, hV2⟩ : ∃ V, IntKind.u64.wrap (V1 - (z : Int)) = V := ⟨_, rfl⟩
        obtain ⟨T, c', t1, t2, t3, t4, t5⟩ := sub_word x z cn hx2 hz2 hcn V1 V2 hV1 hV2
        go_wp2_with fail
        go_roundw
        case rel =>
          have hst := sub_step (4294967296 ^ k) _ _ _ x z cn T c' t3 HV.out
          refine ⟨k + 1, c', rs.set k T, by omega, by go_num, rfl, t5, by rw [List.length_set]; exact HRL.out, ?_, ?_, small_set hsr _ _ t4, hbw.setCell (Nat.le_refl _) _, by simpa using hlt⟩
          · have hset := HR.out.set k T (by have := HRL.out; omega)
            exact hset
          · rw [val_take_succ _ k (by rw [List.length_set]; have := HRL.out; omega), take_set_same, getD_set_self _ _ _ (by have := HRL.out; omega), val_take_succ al k hkl, HX.out, val_take_succ bl k hks, HZ.out, Nat.pow_succ]
            exact hst
        case measure => simp [intOf]; omega
      · have hksz : ¬ (k : Int) < (bl.length : Int) := by omega
        obtain ⟨T, c', t1, t2, t3, t4, t5⟩ := sub_word x 0 cn hx2 (by omega) hcn V1 V1 hV1 (by rw [← hV1]; unfold IntKind.wrap; simp [IntKind.bits, IntKind.signed])
        go_wp2_with fail
        go_roundw
        case rel =>
          have hst := sub_step (4294967296 ^ k) _ _ _ x 0 cn T c' t3 HV.out
          rw [Nat.mul_zero, Nat.add_zero] at hst
          refine ⟨k + 1, c', rs.set k T, by omega, by go_num, rfl, t5, by rw [List.length_set]; exact HRL.out, ?_, ?_, small_set hsr _ _ t4, hbw.setCell (Nat.le_refl _) _, by simpa using hlt⟩
          · have hset := HR.out.set k T (by have := HRL.out; omega)
            exact hset
          · rw [val_take_succ _ k (by rw [List.length_set]; have := HRL.out; omega), take_set_same, getD_set_self _ _ _ (by have := HRL.out; omega), val_take_succ al k hkl, HX.out, val_take_over bl k (by omega), Nat.pow_succ]
            exact hst
        case measure => simp [intOf]; omega
    · have hk2 : k = al.length := by omega
      subst hk2
      have hvs : val rs = D := by
        rw [← HD.out]
        have h1 := HV.out
        rw [List.take_of_length_le (by have := HRL.out; omega), List.take_of_length_le HLE.out, List.take_of_length_le (Nat.le_refl _)] at h1
        have h2 := val_lt rs hsr
        rw [HRL.out] at h2
        have h3 := HVV.out
        have hc : cn = 0 ∨ cn = 1 := by omega
        rcases hc with rfl | rfl
        · omega
        · rw [Nat.mul_one] at h1; omega
      have cT := trim_any w.heap.size rs.length rs wr hsr (Nat.le_refl _) (by have := HRL.out; omega) hlt (fun j hj => (HR.out j hj).1)
      rw [hvs, HRL.out] at cT
      have HB := hideC hbw
      clear hvs hbw
      go_wp2_with fail
      refine cT.mono ?_
      rintro e w2 ⟨v, rfl, hnum, rfl⟩
      go_wp2
      go_ret
      exact ⟨v, rfl, hnum, HB.out⟩
end Go.Proofs.YtecapnipkngniaaGreatDoor
