/-
  The contracts of strings.Builder's WriteByte with all other memory kept, and of package wires' writeNumber, unsigned and writeText.
-/
import Derived.Test.YtefdekfgmbgbbaaGreatDoorWia
import Derived.Test.YtefdekfgmbgbbaaGreatDoorKk
namespace Go.Proofs.YtefdekfgmbgbbaaGreatDoor
open Go.RowKit Go.Shelf

set_option maxHeartbeats 1000000 in
set_option maxRecDepth 100000 in
theorem writeByteK (B b : Nat) (bs : List Value) (c : Int) (w : World) (h : Lib.IsBuilderF 47 5 B b bs w) (hlen : bs.length + 1 ≤ 140737488355328) (hBw : B ≤ w.heap.size) :
    Calls Tryz.prog 17 #[.pointer (some ⟨b, 0, none⟩), .int .u8 c] w fun e w' => e = .returned .nilIface ∧ Lib.IsBuilderF 47 5 B b (bs ++ [.int .u8 c]) w' ∧ Below B w w' ∧ Lib.OthersKept 5 (some b) w w' := by
  obtain ⟨i0, hi, hz0, hz1, hz2⟩ := info_parts infoByte
  go_enter Tryz.func17, Tryz.ntmps17
  go_wp2_with (go_at_call 23; refine (copyCheck_any B b bs _ h).mono ?_)
  rintro e w1 ⟨rfl, ⟨hB, v, hbk, hown, hne⟩, hb1, hk1⟩
  have hsz := hb1.size
  have c0 : w1.cell? ⟨b, 0, none⟩ = some (.pointer (some ⟨b, 0, none⟩)) := by rw [Lib.cell_of_heap hbk]; rfl
  have c1 : w1.cell? ⟨b, 1, none⟩ = some v := by rw [Lib.cell_of_heap hbk]; rfl
  go_wp2_with (at_builtin; refine wpList_append_ownF _ rfl _ _ 45 rfl B 5 i0 (.int .u8 0) 1 1 Tryz.underlying45 hi hz0 hz1 hz2 rfl (by decide) _ _ _ rfl (hown.alloc _) ⟨w1.heap.size, 0, none⟩ 1 1 [.int .u8 c] rfl rfl ?c1 ?c2 ?c3 ?c4 ?c5 ?_)
  case c1 =>
    intro j u hj
    match j, hj with
    | 0, hj => simp at hj; subst hj; simp [Addr.add]
  case c2 => intro u hu; simp at hu; subst hu; rfl
  case c3 => unfold maxLen; omega
  case c4 => omega
  case c5 => simp; omega
  intro v' w2 hown' hgrow _
  have hlt : b < w1.heap.size := (Array.getElem?_eq_some_iff.1 hbk).1
  have hb2 : w2.heap[b]? = some (.cells #[.pointer (some ⟨b, 0, none⟩), v] 47 (0, 0)) := by
    rw [hgrow.block b (by simp; omega) (fun e => hne e.symm), Lib.alloc_old w1 _ b hlt]
    exact hbk
  have hk2 := (hk1.alloc (.cells #[.int .u8 c] 5)).grown hgrow (fun g hg => by
    rcases hown.2 with ⟨rfl, _⟩ | ⟨g', cap, cur, fz, rfl, _, hc, _⟩
    · cases hg
    · simp [Value.ownBlock] at hg; subst hg; exact ⟨cur, fz, by rw [Lib.alloc_old w1 _ _ (Array.getElem?_eq_some_iff.1 hc).1]; exact hc⟩)
  have d0 : w2.cell? ⟨b, 0, none⟩ = some (.pointer (some ⟨b, 0, none⟩)) := by rw [Lib.cell_of_heap hb2]; rfl
  have d1 : w2.cell? ⟨b, 1, none⟩ = some v := by rw [Lib.cell_of_heap hb2]; rfl
  have f1 : w2.frozen? ⟨b, 1, none⟩ = false := Lib.frozen_of_heap hb2 1
  obtain ⟨g, cap, rfl⟩ : ∃ g cap, v' = .slice (some ⟨g, 0, none⟩) (bs.length + 1) cap := by
    rcases hown'.2 with ⟨_, h0⟩ | ⟨g, cap, cur, fz, hv, _⟩
    · omega
    · exact ⟨g, cap, hv⟩
  go_wp2
  go_ret
  refine ⟨rfl, .inr (Lib.BuilderAtF.put (T := 47) (e := 5) hB hb2 (bs' := bs ++ [.int .u8 c]) (by simpa using hown') (by decide)), ?_, hk2.setCell ⟨b, 1, none⟩ rfl _⟩
  exact ((hb1.alloc (by omega) _).grown hgrow (by simp; omega) (fun k hk => (hown.lt k hk).1)).setCell (p := ⟨b, 1, none⟩) hB _

/-- what a writing leaves -/
def WKP (B b : Nat) (l : List UInt8) (w w' : World) : Prop := Lib.IsBuilderF 47 5 B b (Lib.byteCells l) w' ∧ Below B w w' ∧ Lib.OthersKept 5 (some b) w w'
theorem byte_cells (l : List UInt8) (c : UInt8) : Lib.byteCells (l ++ [c]) = Lib.byteCells l ++ [.int .u8 (c.toNat : Int)] := by rw [Lib.byteCells_append]; rfl
theorem writeByteW (B b : Nat) (l : List UInt8) (c : UInt8) (w : World) (h : Lib.IsBuilderF 47 5 B b (Lib.byteCells l) w) (hlen : l.length + 1 ≤ 140737488355328) (hBw : B ≤ w.heap.size) :
    Calls Tryz.prog 17 #[.pointer (some ⟨b, 0, none⟩), .int .u8 (c.toNat : Int)] w fun e w' => e = .returned .nilIface ∧ WKP B b (l ++ [c]) w w' :=
  (writeByteK B b (Lib.byteCells l) (c.toNat : Int) w h (by rw [Lib.byteCells_length]; exact hlen) hBw).mono fun e w' ⟨h1, h2, h3, h4⟩ => ⟨h1, by rw [byte_cells]; exact h2, h3, h4⟩
theorem or128 (c : Nat) (h : c < 128) : bits BinOp.or IntKind.u8 (c : Int) 128 = ((c + 128 : Nat) : Int) := by
  have : ∀ c : Fin 128, bits BinOp.or IntKind.u8 ((c.val : Nat) : Int) 128 = ((c.val + 128 : Nat) : Int) := by decide
  exact this ⟨c, h⟩
theorem vNf_small (f n : Nat) (h : n < 128) : vNf f n = [UInt8.ofNat n] := by
  cases f with
  | zero => rfl
  | succ f => rw [vNf, if_pos h]
theorem vNf_more (f n : Nat) (h : ¬ n < 128) : vNf (f + 1) n = UInt8.ofNat (n % 128 + 128) :: vNf f (n / 128) := by rw [vNf, if_neg h]
theorem WKP.refl {B b : Nat} {l : List UInt8} {w : World} (h : Lib.IsBuilderF 47 5 B b (Lib.byteCells l) w) : WKP B b l w w := ⟨h, Below.refl _ _, Lib.OthersKept.refl _ _ _⟩
theorem WKP.trans {B b : Nat} {l l' : List UInt8} {w w1 w2 : World} (h : WKP B b l w w1) (k : WKP B b l' w1 w2) : WKP B b l' w w2 := ⟨k.1, h.2.1.trans k.2.1, h.2.2.trans k.2.2⟩
set_option maxRecDepth 100000 in
set_option maxHeartbeats 4000000 in
theorem writeNumber_any (B b : Nat) (l : List UInt8) (n : Nat) (w : World) (h : Lib.IsBuilderF 47 5 B b (Lib.byteCells l) w) (hn : n < 2 ^ 64) (hlen : l.length + 11 ≤ 140737488355328) (hBw : B ≤ w.heap.size) :
    Calls Tryz.prog 25 #[.pointer (some ⟨b, 0, none⟩), .int .u64 (n : Int)] w fun e w' => e = .returned (.tuple #[]) ∧ WKP B b (l ++ vN n) w w' := by
  have cB := hideK (fun (p : List UInt8) (c : UInt8) (W : World) (hW : WKP B b p w W) (hp : p.length + 1 ≤ 140737488355328) => writeByteW B b p c W hW.1 hp (Nat.le_trans hBw hW.2.1.size))
  have H := hideK (WKP.refl h)
  clear h
  go_enter Tryz.func25, Tryz.ntmps25
  go_wp2_with fail
  go_loopw [1] (fun v wr => ∃ (k m : Nat) (pre : List UInt8), k ≤ 9 ∧ v = .int .u64 (m : Int) ∧ pre.length = k ∧ m < 2 ^ (64 - 7 * k) ∧ pre ++ vNf (9 - k) m = vN n ∧ WKP B b (l ++ pre) w wr) (fun v _ => (intOf v).toNat)
  case atStart => exact ⟨0, n, [], by omega, rfl, rfl, by simpa using hn, rfl, by rw [List.append_nil]; exact H.out⟩
  case round =>
    obtain ⟨k, m, pre, hk, rfl, hpl, hm, hv, hw⟩ := hrel
    have HW := hideK hw
    have hm64 : (m : Int) < 18446744073709551616 := by
      have : m < 2 ^ 64 := Nat.lt_of_lt_of_le hm (Nat.pow_le_pow_right (by omega) (by omega))
      omega
    have h0 : (0 : Int) ≤ (m : Int) := by omega
    clear hw
    by_cases hs : m < 128
    · have hs2 : ¬ (m : Int) ≥ 128 := by omega
      rw [vNf_small _ _ hs] at hv
      have C1 := hideK (cB.out (l ++ pre) (UInt8.ofNat m) wr HW.out (by rw [List.length_append]; omega))
      rw [ofNat_toNat m (by omega), List.append_assoc, hv] at C1
      clear hm hv hs hn
      go_wp2_with (go_at_call 17; refine C1.out.mono ?_; rintro e w2 ⟨rfl, h2⟩)
      go_end0
      exact ⟨rfl, HW.out.trans h2⟩
    · have hs2 : (m : Int) ≥ 128 := by omega
      have hk8 : k ≤ 8 := by
        rcases Nat.lt_or_ge k 9 with h | h
        · omega
        · have : k = 9 := by omega
          subst this
          have : m < 2 := hm
          omega
      rw [show 9 - k = (8 - k) + 1 by omega, vNf_more _ _ hs] at hv
      have C1 := hideK (cB.out (l ++ pre) (UInt8.ofNat (m % 128 + 128)) wr HW.out (by rw [List.length_append]; omega))
      rw [ofNat_toNat _ (by omega), ← or128 (m % 128) (by omega), show ((m % 128 : Nat) : Int) = (m : Int) % 128 by omega] at C1
      have hm2 : m / 128 < 2 ^ (64 - 7 * (k + 1)) := by
        have hp : 2 ^ (64 - 7 * k) = 128 * 2 ^ (64 - 7 * (k + 1)) := by
          have : 64 - 7 * k = 7 + (64 - 7 * (k + 1)) := by omega
          rw [this, Nat.pow_add]
        rw [hp] at hm
        exact Nat.div_lt_of_lt_mul hm
      have HD := hideK (show (m : Int) / 128 = ((m / 128 : Nat) : Int) by omega)
      have HM2 := hideK hm2
      have HV := hideK hv
      have HS := hideK hs
      clear hm hv hs hn hm2
      go_wp2_with (go_at_call 17; refine C1.out.mono ?_; rintro e w2 ⟨rfl, h2⟩)
      go_roundw
      case rel => exact ⟨k + 1, m / 128, pre ++ [UInt8.ofNat (m % 128 + 128)], by omega, by rw [← HD.out], by rw [List.length_append, hpl]; rfl, HM2.out, by rw [List.append_assoc, show 9 - (k + 1) = 8 - k by omega]; exact HV.out, by rw [← List.append_assoc]; exact HW.out.trans h2⟩
      case measure => simp [intOf]; have := HS.out; omega
set_option maxHeartbeats 1000000 in
theorem unsigned_any (n : Int) (h : -9223372036854775808 ≤ n ∧ n ≤ 9223372036854775807) (w : World) :
    Calls Tryz.prog 26 #[.int .i64 n] w fun e w' => e = .returned (.int .u64 ((unS n : Nat) : Int)) ∧ w' = w := by
  obtain ⟨ha, hb⟩ := h
  unfold unS
  by_cases hn : 0 ≤ n
  · rw [if_pos hn]
    have HE := hideK (show ((2 * n.toNat : Nat) : Int) = 2 * n by omega)
    rw [HE.out]
    have hge : n ≥ 0 := hn
    have h2 : 2 * n ≤ 18446744073709551615 := by omega
    clear HE
    go_enter Tryz.func26, Tryz.ntmps26
    go_wp2_with fail
    go_ret
    exact ⟨rfl, rfl⟩
  · rw [if_neg hn]
    have HE := hideK (show ((2 * (-(n + 1)).toNat + 1 : Nat) : Int) = 2 * -(n + 1) + 1 by omega)
    rw [HE.out]
    have hge : ¬ n ≥ 0 := by omega
    have h1 : 0 ≤ -(n + 1) := by omega
    have h2 : -(n + 1) ≤ 9223372036854775807 := by omega
    clear HE hn
    go_enter Tryz.func26, Tryz.ntmps26
    go_wp2_with fail
    go_ret
    exact ⟨rfl, rfl⟩
set_option maxHeartbeats 1000000 in
theorem writeText_any (B b : Nat) (l : List UInt8) (s : ByteArray) (w : World) (h : Lib.IsBuilderF 47 5 B b (Lib.byteCells l) w) (hs : s.size ≤ 1000000) (hlen : l.length ≤ 130000000000000) (hBw : B ≤ w.heap.size) :
    Calls Tryz.prog 27 #[.pointer (some ⟨b, 0, none⟩), .string s] w fun e w' => e = .returned (.tuple #[]) ∧ WKP B b (l ++ txW s.data.toList) w w' := by
  have hsl : s.data.toList.length = s.size := by simp
  have cN := writeNumber_any B b l s.size w h (by omega) (by omega) hBw
  have cS := hideK (fun (W : World) (hW : WKP B b (l ++ vN s.size) w W) => writeStringK B b (l ++ vN s.size) s W hW.1 (by rw [List.length_append]; have := vN_len 9 s.size; unfold vN; omega) (Nat.le_trans hBw hW.2.1.size))
  have hsz : (s.size : Int) ≤ 1000000 := by omega
  have h0 : (0 : Int) ≤ (s.size : Int) := by omega
  unfold txW
  rw [hsl, ← List.append_assoc]
  clear h hlen hs hsl
  go_enter Tryz.func27, Tryz.ntmps27
  go_wp2_with (first
    | (go_at_call 25; refine cN.mono ?_; rintro e w1 ⟨rfl, h1⟩)
    | (go_at_call 39; refine (cS.out _ h1).mono ?_; rintro e w2 ⟨rfl, h2, h3, h4⟩))
  go_end0
  exact ⟨rfl, h1.trans ⟨h2, h3, h4⟩⟩
end Go.Proofs.YtefdekfgmbgbbaaGreatDoor
