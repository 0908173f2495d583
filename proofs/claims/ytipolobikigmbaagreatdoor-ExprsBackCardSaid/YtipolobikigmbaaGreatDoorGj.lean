/-
  The contract of what pieces.Caught defers: a fault that is thrown is caught.
-/
import Derived.Test.YtipolobikigmbaaGreatDoorKl
import Derived.Defers
import Derived.Recover
import Derived.Test.YtipolobikigmbaaGreatDoorGh
namespace Go.Proofs.YtipolobikigmbaaGreatDoor
open Go.RowKit Go.Shelf
def faultE (c : Int) (a : Int) : List PanicEntry := [{ v := .iface 30 (.agg #[.int .i64 c, .int .i64 a]), recovered := false }]

set_option maxRecDepth 100000 in
theorem catch_thrown (p : Nat) (c a c0 a0 : Int) (older : List PanicEntry) (w : World) (h0 : w.cell? ⟨p, 0, none⟩ = some (.int .i64 c0)) (h1 : w.cell? ⟨p, 1, none⟩ = some (.int .i64 a0)) (f0 : w.frozen? ⟨p, 0, none⟩ = false) (f1 : w.frozen? ⟨p, 1, none⟩ = false) :
    CallsD Tryz.prog 74 #[.pointer (some ⟨p, 0, none⟩)] (.panicking ({ v := .iface 30 (.agg #[.int .i64 c, .int .i64 a]), recovered := false } :: older)) w fun e u' w' =>
      e = .returned (.tuple #[]) ∧ u' = .panicking ({ v := .iface 30 (.agg #[.int .i64 c, .int .i64 a]), recovered := true } :: older) ∧ w' = (w.setCell ⟨p, 0, none⟩ (.int .i64 c)).setCell ⟨p, 1, none⟩ (.int .i64 a) := by
  have hta : ∀ w1 : World, (Instr.typeAssert (.iface 30 (.agg #[.int .i64 c, .int .i64 a])) 20 30 false).run Tryz.prog w1 = .ok (.agg #[.int .i64 c, .int .i64 a]) w1 := fun _ => by kernel_rfl
  refine callsD_of_wpS Tryz.func74 rfl fun c₀ cs hu => ?_
  apply wpS_seq
  apply wpS_region
  simp [wpOpsS, go_sem, recoverD, hu, Tryz.ntmps74, Exit.thenS]
  refine wpS_of_wp ?_
  change Code.wp _ _ _ { tmps := #[.pointer (some ⟨p, 0, none⟩), .iface 30 (.agg #[.int .i64 c, .int .i64 a]), .iface 30 (.agg #[.int .i64 c, .int .i64 a]), undef, undef, undef, undef], defers := [] } w
  go_wp2_with fail
  exact ⟨rfl, _, rfl, .tuple #[], by simp [results, Tryz.results74, go_sem], rfl, rfl, rfl⟩
set_option maxRecDepth 100000 in
theorem catch_none (p : Nat) (w : World) :
    CallsD Tryz.prog 74 #[.pointer (some ⟨p, 0, none⟩)] .returning w fun e u' w' => e = .returned (.tuple #[]) ∧ u' = .returning ∧ w' = w := by
  refine callsD_of_wpS Tryz.func74 rfl fun c₀ cs hu => ?_
  apply wpS_seq
  apply wpS_region
  simp [wpOpsS, go_sem, recoverD, hu, Tryz.ntmps74, Exit.thenS]
  refine wpS_of_wp ?_
  change Code.wp _ _ _ { tmps := #[.pointer (some ⟨p, 0, none⟩), .nilIface, .nilIface, undef, undef, undef, undef], defers := [] } w
  go_wp2_with fail
  refine ⟨rfl, .returning, ?_, .tuple #[], by simp [results, Tryz.results74, go_sem], rfl, rfl, rfl⟩
  cases c₀
  simp only at hu
  subst hu
  rfl
end Go.Proofs.YtipolobikigmbaaGreatDoor
/-
  The contracts of exprs.numberAhead.
-/
namespace Go.Proofs.YtipolobikigmbaaGreatDoor
open Go.RowKit Go.Shelf
def digs : ByteArray := ⟨#[48, 49, 50, 51, 52, 53, 54, 55, 56, 57]⟩
theorem digs_has (c : UInt8) : digs.data.toList.contains c = isDig c := by
  have : ∀ n : Fin 256, digs.data.toList.contains (UInt8.ofNat n.val) = isDig (UInt8.ofNat n.val) := by decide +kernel
  have := this ⟨c.toNat, c.toNat_lt⟩
  simpa using this
set_option maxHeartbeats 1000000 in
theorem numberAhead_any (l : List UInt8) (w : World) (hl : l.length ≤ 2000) :
    Calls Tryz.prog 100 #[.string (bs l)] w fun e w' => e = .returned (.string (bs (numAh l))) ∧ Below w.heap.size w w' := by
  have cP := hasPrefix1 l 45
  have hsg := sg1_le l
  have hln := num_len l
  have cL : ∀ w1 : World, Calls Tryz.prog 75 #[.string (bs (l.drop (sg1 l))), .string digs] w1 fun e w' => (∃ t : ByteArray, t.size = lead isDig (l.drop (sg1 l)) ∧ e = .returned (.string t)) ∧ Below w1.heap.size w1 w' := fun w1 => by
    have := leading_any (bs (l.drop (sg1 l))) digs w1 (by rw [bs_size, List.length_drop]; omega) (by decide) (by decide)
    rw [lead_congr _ isDig digs_has, ext_bs, bs_list] at this
    refine this.mono fun e w' ⟨h1, h2⟩ => ⟨⟨_, ?_, h1⟩, h2⟩
    rw [bs_size, List.length_take]
    have := lead_le isDig (l.drop (sg1 l))
    omega
  simp only [digs] at cL
  have hN : numAh l = if lead isDig (l.drop (sg1 l)) = 0 then [] else l.take (sg1 l + lead isDig (l.drop (sg1 l))) := rfl
  have hx : (bs l).extract (sg1 l) (bs l).size = bs (l.drop (sg1 l)) := by
    have := ext_rs (bs l) (sg1 l); unfold rs at this; rw [bs_list] at this; exact this
  have hy : (bs l).extract 0 (sg1 l + lead isDig (l.drop (sg1 l))) = bs (l.take (sg1 l + lead isDig (l.drop (sg1 l)))) := by rw [ext_bs, bs_list]
  have hz : (bs l).size = l.length := bs_size l
  rw [hN]
  clear hN
  generalize lead isDig (l.drop (sg1 l)) = k at *
  generalize bs (l.drop (sg1 l)) = u at *
  by_cases h45 : l.head? = some 45
  · have h1 : sg1 l = 1 := by unfold sg1; rw [if_pos h45]
    rw [h1] at hx hy hsg hln ⊢
    simp only [h45, decide_true] at cP
    generalize bs l = t at *
    have CP := hideK cP
    have CL := hideK cL
    have hz1 : (1 : Int) ≤ (t.size : Int) := by omega
    have hzk : 1 + (k : Int) ≤ (t.size : Int) := by omega
    have hz2 : (t.size : Int) ≤ 2000 := by omega
    have HY := hideK hy
    clear cP cL h45 h1 hz hln hsg hy
    by_cases hk : k = 0
    · rw [if_pos hk]
      subst hk
      go_enter Tryz.func100, Tryz.ntmps100
      go_wp2_with fail
      refine (CP.out _ hl).mono ?_
      rintro e w1 ⟨rfl, rfl⟩
      go_wp2_with fail
      refine (CL.out _).mono ?_
      rintro e w2 ⟨⟨a, ha, rfl⟩, hb⟩
      have haz : (a.size : Int) = 0 := by omega
      go_wp2_with fail
      go_ret
      exact ⟨rfl, hb⟩
    · rw [if_neg hk]
      have hk1 : ¬ (k : Int) = 0 := by omega
      go_enter Tryz.func100, Tryz.ntmps100
      go_wp2_with fail
      refine (CP.out _ hl).mono ?_
      rintro e w1 ⟨rfl, rfl⟩
      go_wp2_with fail
      refine (CL.out _).mono ?_
      rintro e w2 ⟨⟨a, ha, rfl⟩, hb⟩
      have haz : (a.size : Int) = (k : Int) := by omega
      go_wp2_with fail
      go_ret
      exact ⟨by rw [← HY.out]; rfl, hb⟩
  · have h1 : sg1 l = 0 := by unfold sg1; rw [if_neg h45]
    rw [h1] at hx hy hsg hln ⊢
    rw [Nat.zero_add] at hy ⊢
    simp only [h45, decide_false] at cP
    generalize bs l = t at *
    have CP := hideK cP
    have CL := hideK cL
    have hzk : (k : Int) ≤ (t.size : Int) := by omega
    have hz2 : (t.size : Int) ≤ 2000 := by omega
    have HY := hideK hy
    clear cP cL h45 h1 hz hln hsg hy
    by_cases hk : k = 0
    · rw [if_pos hk]
      subst hk
      go_enter Tryz.func100, Tryz.ntmps100
      go_wp2_with fail
      refine (CP.out _ hl).mono ?_
      rintro e w1 ⟨rfl, rfl⟩
      go_wp2_with fail
      refine (CL.out _).mono ?_
      rintro e w2 ⟨⟨a, ha, rfl⟩, hb⟩
      have haz : (a.size : Int) = 0 := by omega
      go_wp2_with fail
      go_ret
      exact ⟨rfl, hb⟩
    · rw [if_neg hk]
      have hk1 : ¬ (k : Int) = 0 := by omega
      go_enter Tryz.func100, Tryz.ntmps100
      go_wp2_with fail
      refine (CP.out _ hl).mono ?_
      rintro e w1 ⟨rfl, rfl⟩
      go_wp2_with fail
      refine (CL.out _).mono ?_
      rintro e w2 ⟨⟨a, ha, rfl⟩, hb⟩
      have haz : (a.size : Int) = (k : Int) := by omega
      go_wp2_with fail
      go_ret
      exact ⟨by rw [← HY.out]; rfl, hb⟩
end Go.Proofs.YtipolobikigmbaaGreatDoor

/-
  The contract of exprs.quotedAhead.
-/
namespace Go.Proofs.YtipolobikigmbaaGreatDoor
open Go.RowKit Go.Shelf
/-- what is ahead, looked at from byte k -/
def qs (l : List UInt8) (k : Nat) : List UInt8 := l.take (k + qlen (l.drop k))
theorem qs_end (l : List UInt8) (k : Nat) (h : l.length ≤ k) : qs l k = l := by
  unfold qs; exact List.take_of_length_le (by omega)
theorem qs_34 (l r : List UInt8) (k : Nat) (h : l.drop k = 34 :: r) : qs l k = l.take (k + 1) := by
  unfold qs; rw [h]; cases r <;> simp [qlen]
theorem drop_next {l r : List UInt8} {c : UInt8} {k : Nat} (h : l.drop k = c :: r) : l.drop (k + 1) = r ∧ k < l.length := by
  refine ⟨?_, ?_⟩
  · rw [← List.drop_drop, h]; rfl
  · by_cases hk : k < l.length
    · exact hk
    · rw [List.drop_of_length_le (by omega)] at h; cases h
theorem qs_92 (l r : List UInt8) (k : Nat) (h : l.drop k = 92 :: r) : qs l k = qs l (k + 1 + 1) := by
  obtain ⟨h1, h2⟩ := drop_next h
  cases r with
  | nil =>
    have : l.length ≤ k + 1 := List.drop_eq_nil_iff.1 h1
    rw [qs_end l (k + 1 + 1) (by omega)]
    unfold qs; rw [h]; simp only [qlen]; exact List.take_of_length_le (by omega)
  | cons d r =>
    have h3 := (drop_next h1).1
    unfold qs
    rw [h, h3]
    conv => lhs; unfold qlen
    rw [if_neg (by decide), if_pos rfl]
    congr 1; omega
theorem qs_else (l r : List UInt8) (c : UInt8) (k : Nat) (h : l.drop k = c :: r) (h34 : c ≠ 34) (h92 : c ≠ 92) : qs l k = qs l (k + 1) := by
  obtain ⟨h1, h2⟩ := drop_next h
  unfold qs
  rw [h, h1]
  cases r with
  | nil => simp [qlen]
  | cons d r =>
    conv => lhs; unfold qlen
    rw [if_neg h34, if_neg h92]
    congr 1; omega
set_option maxHeartbeats 1000000 in
theorem quotedAhead_any (l : List UInt8) (w : World) (hl : l.length ≤ 2000) :
    Calls Tryz.prog 99 #[.string (bs l)] w fun e w' => e = .returned (.string (bs (quAh l))) ∧ Below w.heap.size w w' := by
  have HQ0 : Hid (quAh l = qs l 1) := rfl
  have HE : Hid (∀ k, (bs l).extract 0 k = bs (l.take k)) := fun k => by rw [ext_bs, bs_list]
  have HD : Hid (∀ (k : Nat) (h : k < (bs l).size), l.drop k = (bs l)[k] :: l.drop (k + 1)) := fun k h => by
    have := drop_cons (bs l) k h; rw [bs_list] at this; exact this
  have HZ : Hid ((bs l).size = l.length) := bs_size l
  have hz : ((bs l).size : Int) ≤ 2000 := by rw [bs_size]; omega
  have HB : Hid (∀ x, quAh l = x → bs (quAh l) = bs x) := fun x h => by rw [h]
  obtain ⟨Q, hQ⟩ : ∃ Q, quAh l = Q := ⟨_, rfl⟩
  rw [hQ] at HQ0 ⊢
  have HT : Hid (bs l = bs l) := rfl
  generalize ht : bs l = t at *
  have HT2 := hideK ht
  clear ht hl hQ HB HT
  go_enter Tryz.func99, Tryz.ntmps99
  go_wp2_with fail
  go_loopw [3] (fun i wr => ∃ k : Nat, k ≤ t.size + 1 ∧ 1 ≤ k ∧ i = .int .i64 (k : Int) ∧ Q = qs l k ∧ Below w.heap.size w wr) (fun i _ => t.size + 1 - (intOf i).toNat)
  case atStart => exact ⟨1, by omega, by omega, rfl, HQ0.out, Below.refl _ _⟩
  case round =>
    obtain ⟨k, hk, hk1, rfl, hq, hbw⟩ := hrel
    have HQ := hideK hq
    clear hq
    by_cases hlt : k < t.size
    · have hltz : (k : Int) < (t.size : Int) := by omega
      have hD := HD.out k hlt
      have HDk := hideK hD
      clear hD
      by_cases h34 : t[k] = 34
      · have b34 : ((t[k].toNat : Int) == 34) = true := by rw [h34]; rfl
        have HR : Hid (t.extract 0 (k + 1) = bs Q) := by
          show _ = _
          have hd := HDk.out
          rw [h34] at hd
          rw [HE.out, HQ.out, qs_34 l _ k hd]
        have hkz : (k : Int) + 1 ≤ (t.size : Int) := by omega
        clear h34
        go_wp2_with fail
        go_ret
        exact ⟨by rw [← HR.out]; rfl, hbw⟩
      · have b34 : ((t[k].toNat : Int) == 34) = false := byte_ne t[k] 34 h34
        by_cases h92 : t[k] = 92
        · have b92 : ((t[k].toNat : Int) == 92) = true := by rw [h92]; rfl
          have HR : Hid (Q = qs l (k + 1 + 1)) := by
            show _ = _
            have hd := HDk.out
            rw [h92] at hd
            rw [HQ.out, qs_92 l _ k hd]
          clear h34 h92
          go_wp2_with fail
          go_roundw
          case rel => exact ⟨k + 1 + 1, by omega, by omega, by go_num, HR.out, hbw⟩
          case measure => simp [intOf]; omega
        · have b92 : ((t[k].toNat : Int) == 92) = false := byte_ne t[k] 92 h92
          have HR : Hid (Q = qs l (k + 1)) := by
            show _ = _
            rw [HQ.out, qs_else l _ _ k HDk.out h34 h92]
          clear h34 h92
          go_wp2_with fail
          go_roundw
          case rel => exact ⟨k + 1, by omega, by omega, by go_num, HR.out, hbw⟩
          case measure => simp [intOf]; omega
    · have hltz : ¬ (k : Int) < (t.size : Int) := by omega
      have HR : Hid (t = bs Q) := by
        show _ = _
        rw [HQ.out, qs_end l k (by have := HZ.out; omega)]; exact HT2.out.symm
      go_wp2_with fail
      go_ret
      exact ⟨by rw [← HR.out]; rfl, hbw⟩
end Go.Proofs.YtipolobikigmbaaGreatDoor
