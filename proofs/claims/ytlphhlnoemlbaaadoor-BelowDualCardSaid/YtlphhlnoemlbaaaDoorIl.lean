/-
  What the shelf says of slices.Reverse of texts, in plain words. Conditions: none.
-/
import Derived.Test.YtlphhlnoemlbaaaDoorProg
import Derived.Ground.Names2Prog
import Derived.Shelf.Slices.ReverseS
import Derived.Test.YtlphhlnoemlbaaaDoorIk
import Derived.Lib.OwnBridge
namespace Go.Proofs
open Go.Shelf
def Tryd.laysNm217_ren : Go.Shelf.Ren := ⟨fun | 17 => 23 | n => n, fun | 24 => 22 | 9 => 9 | 3 => 3 | 4 => 4 | 0 => 0 | n => n, fun | n => n⟩
theorem Tryd.laysNm217 : Go.Proofs.Lays2.n17 Tryd.prog Tryd.laysNm217_ren := {
  mixed := by kernel_rfl
  f17 := Tryd.func23.trans (congrArg some (by kernel_rfl))
  t0 := Tryd.underlying0
  a0 := Tryd.isAgg0
  z0 := Tryd.sizeOf0
  v0 := Tryd.zeroValue0
  t3 := Tryd.underlying3
  a3 := Tryd.isAgg3
  z3 := Tryd.sizeOf3
  v3 := Tryd.zeroValue3
  t4 := Tryd.underlying4
  a4 := Tryd.isAgg4
  z4 := Tryd.sizeOf4
  v4 := Tryd.zeroValue4
  t9 := Tryd.underlying9
  a9 := Tryd.isAgg9
  z9 := Tryd.sizeOf9
  v9 := Tryd.zeroValue9
  t24 := Tryd.underlying22
  a24 := Tryd.isAgg22
  z24 := Tryd.sizeOf22
  v24 := Tryd.zeroValue22 }
end Go.Proofs
/-
  slices.Reverse of a row of texts that a call owns; the contract of (*below.search).wayTo.
-/
namespace Go.Proofs.YtlphhlnoemlbaaaDoor
open Go.RowKit Go.Shelf Go.Sort

theorem enc_mapR (ns : List ByteArray) : ns.map Value.string = (ns.map (·.data.toList)).map encStr := by
  rw [List.map_map]
  refine List.map_congr_left fun s _ => ?_
  simp [encStr]
theorem reverseOwn_any (v : Value) (base : Nat) (ss : List ByteArray) (w : World) (h : w.ownsRow base 9 1 v ss.length (ss.map Value.string)) (hl : ss.length ≤ 1000000) :
    Calls Tryd.prog 23 #[v] w fun e w' => e = .returned (.tuple #[]) ∧ w'.ownsRow base 9 1 v ss.length (ss.reverse.map Value.string) ∧ ∀ (w0 : World) (B : Nat), Below B w0 w → B ≤ base → Below B w0 w' := by
  by_cases hv : v = .slice none 0 0
  · subst hv
    have h0 : ss = [] := by
      rcases h.2 with ⟨_, h⟩ | ⟨g, c, cur, h, _⟩
      · exact List.eq_nil_of_length_eq_zero h
      · cases h
    subst h0
    refine (Any.slices_Reverse_string_empty Tryd.laysNm217 none 0 w).mono ?_
    rintro e w' ⟨rfl, rfl⟩
    exact ⟨rfl, by simpa using h, fun _ _ hb _ => hb⟩
  · rw [enc_mapR] at h
    have hl2 : ss.length = (ss.map (·.data.toList)).length := by simp
    rw [hl2] at h ⊢
    rw [enc_mapR ss.reverse, List.map_reverse]
    generalize hz : ss.map (·.data.toList) = zs at *
    obtain ⟨g, cp, rfl, hbg, hgl, hncap, hcm, hlen, hH⟩ := Lib.holds_of_ownsRow h hv
    refine (Any.slices_Reverse_string Tryd.laysNm217 g 0 cp zs w hH (by omega)).mono ?_
    rintro e w' ⟨rfl, n, rfl⟩
    have := Lib.ownsRow_putRow (q := n) (k := zs.length) (ys := zs.reverse) h (by simp) (Nat.le_refl _)
    rw [List.take_of_length_le (by simp)] at this
    exact ⟨rfl, this, fun w0 B hb hB => Lib.below_putRow hb (Nat.le_trans hB hbg)⟩
theorem la_own {W : World} {B n : Nat} {u : Value} {ss : List ByteArray} (hn : ss.length = n) (ho : W.ownsRow B 9 1 u n (ss.map Value.string)) : ∃ a c, u = .slice a n c ∧ LA W W.heap.size ss a := by
  rcases own_cells ho with ⟨rfl, h0, _⟩ | ⟨g, cap, rfl, _, hg, hc⟩
  · refine ⟨none, 0, by rw [h0], .inl ?_⟩
    rw [h0] at hn
    rw [List.length_eq_zero_iff.1 hn]; rfl
  · refine ⟨_, _, rfl, .inr ⟨g, 0, rfl, hg, fun i hi => ?_⟩⟩
    rw [Nat.zero_add]
    exact hc i _ (List.getElem?_eq_getElem hi)
/-- arrivals in memory -/
theorem avl_of {W : World} {B : Nat} {u : Value} {arr : List Av} (ho : W.ownsRow B 50 5 u arr.length (avCs arr)) {k : Nat} (hk : k < arr.length) : ∃ b c, u = .slice (some ⟨b, 0, none⟩) arr.length c ∧ u.ownBlock = some b ∧ b < W.heap.size ∧ W.cell? ⟨b, k * 5, none⟩ = some (.string arr[k].1.1) ∧ W.cell? ⟨b, k * 5 + 1, none⟩ = some (.int .i64 (arr[k].1.2.1 : Int)) ∧ W.cell? ⟨b, k * 5 + 2, none⟩ = some (.int .i64 (arr[k].1.2.2.1 : Int)) ∧ W.cell? ⟨b, k * 5 + 3, none⟩ = some (.bool arr[k].1.2.2.2) ∧ W.cell? ⟨b, k * 5 + 4, none⟩ = some (.int .i64 (arr[k].2 : Int)) := by
  rcases own_cells ho with ⟨rfl, h0, _⟩ | ⟨g, cap, rfl, _, hg, hc⟩
  · omega
  · exact ⟨g, cap, rfl, rfl, hg, hc (k * 5 + 0) _ ((avCs_at arr k hk 0 (by omega)).trans rfl), hc _ _ ((avCs_at arr k hk 1 (by omega)).trans rfl), hc _ _ ((avCs_at arr k hk 2 (by omega)).trans rfl), hc _ _ ((avCs_at arr k hk 3 (by omega)).trans rfl), hc _ _ ((avCs_at arr k hk 4 (by omega)).trans rfl)⟩
/-- the way to an arrival, backwards -/
def wayA (arr : List Av) (k : Nat) : List ByteArray := wayB arr k k
theorem wayB_fuel {arr : List Av} (hw : ∀ (i : Nat) (v : Av), arr[i]? = some v → 0 < i → v.2 < i) : ∀ f k, k < arr.length → k ≤ f → wayB arr f k = wayB arr k k
  | 0, k, _, hf => by
    obtain rfl : k = 0 := by omega
    rfl
  | f + 1, 0, _, _ => rfl
  | f + 1, k + 1, hk, hf => by
    have hv : arr[k + 1]? = some arr[k + 1] := List.getElem?_eq_getElem hk
    have h1 := hw (k + 1) arr[k + 1] hv (by omega)
    unfold wayB
    rw [if_neg (by omega), if_neg (by omega), hv]
    simp only [Option.getD_some]
    rw [wayB_fuel hw f _ (by omega) (by omega), wayB_fuel hw k _ (by omega) (by omega)]
theorem wayA_step {arr : List Av} (hw : ∀ (i : Nat) (v : Av), arr[i]? = some v → 0 < i → v.2 < i) {k : Nat} (hk : k < arr.length) (h0 : 0 < k) : wayA arr k = arr[k].1.1 :: wayA arr arr[k].2 := by
  have hv : arr[k]? = some arr[k] := List.getElem?_eq_getElem hk
  have h1 := hw k arr[k] hv h0
  unfold wayA
  obtain ⟨n, rfl⟩ : ∃ n, k = n + 1 := ⟨k - 1, by omega⟩
  conv => lhs; unfold wayB
  rw [if_neg (by omega), hv]
  simp only [Option.getD_some]
  rw [wayB_fuel hw n _ (by omega) (by omega)]
theorem infoStR : (Tryd.prog.info? 9).map (fun i => (i.zero, i.size, i.bytes)) = some (some (.string ⟨#[]⟩), 1, 16) := by kernel_rfl
set_option maxRecDepth 100000 in
set_option maxHeartbeats 4000000 in
theorem wayTo_any (w0 : World) (g h : List Nd) (ag ah : Option Addr) (cg ch : Nat) (arr : List Av) (u : Value) (k : Nat) (w : World) (hs : SE w0 g h ag ah cg ch arr u w) (hk : k < arr.length) (hl : arr.length ≤ 80000) (hw : ∀ (i : Nat) (v : Av), arr[i]? = some v → 0 < i → v.2 < i) :
    Calls Tryd.prog 14 #[.pointer (some ⟨w0.heap.size + 1, 0, none⟩), .int .i64 (k : Int)] w fun e w' => (∃ aw cw, e = .returned (.slice aw (wayA arr k).length cw) ∧ LA w' w'.heap.size (wayA arr k).reverse aw) ∧ Below w.heap.size w w' := by
  obtain ⟨i1, hj, hy0, hy1, hy2⟩ := info_parts infoStR
  have hkz : (k : Int) ≤ 80000 := by omega
  have HS := hideK hs
  have HW := hideK hw
  have HLN := hideK (wayB_len arr hw)
  clear hs hw
  go_enter Tryd.func14, Tryd.ntmps14
  go_wp2_with fail
  go_loopw [1, 5] (fun i v wr => ∃ (j : Nat) (ws : List ByteArray), j < arr.length ∧ i = .int .i64 (j : Int) ∧ wr.ownsRow w.heap.size 9 1 v ws.length (ws.map Value.string) ∧ Below w.heap.size w wr ∧ ws ++ wayA arr j = wayA arr k) (fun i _ _ => (intOf i).toNat)
  case atStart => exact ⟨k, [], hk, rfl, World.ownsRow_nil _ _ _ _, Below.refl _ _, rfl⟩
  case round =>
    obtain ⟨j, ws, hjl, rfl, hO, hb, hway⟩ := hrel
    have hjz : (j : Int) < (arr.length : Int) := by omega
    by_cases h0 : 0 < j
    · have h0z : (j : Int) > 0 := by omega
      have h0b : decide ((0 : Int) < (j : Int)) = true := by simpa using h0
      have sR := HS.out
      have hsz := sR.sz
      obtain ⟨ub, uc, rfl, hub, hul, a0, a1, a2, a3, a4⟩ := avl_of sR.own hjl
      have cu := (hb.cell (p := ⟨w0.heap.size + 1, 3, none⟩) (by show w0.heap.size + 1 < _; omega)).trans sR.cu
      have d0 := (hb.cell (p := ⟨ub, j * 5, none⟩) hul).trans a0
      have d4 := (hb.cell (p := ⟨ub, j * 5 + 4, none⟩) hul).trans a4
      have HST := hideK (wayA_step HW.out hjl h0)
      have hfr := HW.out j arr[j] (List.getElem?_eq_getElem hjl) h0
      have hwl : ws.length ≤ 80000 := by
        have e1 := HLN.out k k hk
        have e2 := congrArg List.length hway
        rw [List.length_append] at e2
        unfold wayA at e2
        omega
      have HB := hideK hb
      have HWY := hideK hway
      clear sR a0 a1 a2 a3 a4 hub hway
      generalize arr[j].1.1 = wd at *
      generalize hfg : arr[j].2 = fr at *
      have LR := hideK (lit_rowG 9 w.heap.size wr (.string wd) wr.heap.size rfl hb.size)
      have OA := hideK (own_belowG hO ((Below.refl _ _).alloc (Nat.le_refl _) (.cells #[.string wd] 9)))
      have hwsz := hb.size
      have HOB := hideK (own_baseG hO)
      clear hO hb
      go_wp2_with (at_builtin; refine wpList_append_rows _ rfl (.tmp 16) (.tmp 26) 22 rfl w.heap.size w.heap.size 9 i1 (.string ⟨#[]⟩) 1 16 Tryd.underlying22 hj hy0 hy1 hy2 rfl (by decide) _ _ _ rfl OA.out _ _ _ rfl LR.out (by simp [Value.oneCell']) (by unfold maxLen; omega) (by omega) (by simp; omega) ?_; intro v7 w7 hO7 hg7 hat7; have HB7 := hideK ((HB.out.alloc hwsz _).grown hg7 (by simp; omega) HOB.out); have cu7 := (HB7.out.cell (p := ⟨w0.heap.size + 1, 3, none⟩) (by show w0.heap.size + 1 < _; omega)).trans HS.out.cu; have d47 := (HB7.out.cell (p := ⟨ub, j * 5 + 4, none⟩) hul).trans ((HB.out.cell (p := ⟨ub, j * 5 + 4, none⟩) hul).symm.trans d4))
      go_roundw
      case rel =>
        refine ⟨fr, ws ++ [wd], by omega, rfl, ?_, HB7.out, ?_⟩
        · rw [List.length_append, List.map_append]; exact hO7
        · rw [List.append_assoc, ← HWY.out, HST.out]; rfl
      case measure => simp [intOf]; omega
    · obtain rfl : j = 0 := by omega
      have hw0 : ws = wayA arr k := by
        have e : wayA arr 0 = [] := rfl
        rw [e, List.append_nil] at hway
        exact hway
      subst hw0
      have hwl : (wayA arr k).length ≤ 80000 := by
        have e1 := HLN.out k k hk
        unfold wayA
        omega
      have cR := reverseOwn_any u5 w.heap.size (wayA arr k) wr hO (by omega)
      have HB := hideK hb
      generalize hG : wayA arr k = ws at *
      clear hO hb hway
      go_wp2_with fail
      refine cR.mono ?_
      rintro e w2 ⟨rfl, hO2, hb2⟩
      have HB2 := hideK (hb2 _ _ HB.out (Nat.le_refl _))
      obtain ⟨aw, cw, rfl, hla⟩ := la_own (ss := ws.reverse) (by simp) hO2
      have HLA := hideK hla
      clear hO2 hb2 cR hla
      go_wp2_with fail
      go_ret
      first | exact ⟨⟨_, _, by rw [hG]; rfl, by rw [hG]; exact HLA.out⟩, HB2.out⟩ | exact ⟨⟨_, by rw [hG]; rfl, by rw [hG]; exact HLA.out⟩, HB2.out⟩
end Go.Proofs.YtlphhlnoemlbaaaDoor
