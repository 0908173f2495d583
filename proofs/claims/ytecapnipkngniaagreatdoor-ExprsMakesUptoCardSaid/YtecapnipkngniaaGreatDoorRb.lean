/-
  Library contracts of slices. Conditions: none.
-/
import Derived.Test.YtecapnipkngniaaGreatDoorProg
import Derived.Ground.NamesProg
import Derived.Shelf.Sort.Plain
import Derived.Shelf.Slices.In.CompactS
import Derived.Shelf.Slices.In.SortNone
import Derived.Shelf.Slices.Turned
import Derived.Test.YtecapnipkngniaaGreatDoorRa
import Derived.Sort.EncStr
import Derived.Test.YtecapnipkngniaaGreatDoorOm
import Derived.Test.YtecapnipkngniaaGreatDoorXd
namespace Go.Proofs
open Go.Shelf
def Tryz.lays190_ren : Go.Shelf.Ren := ⟨fun | 190 => 27 | 125 => 63 | 258 => 62 | 128 => 97 | 129 => 98 | 302 => 88 | 303 => 89 | 304 => 90 | 305 => 91 | 306 => 92 | 307 => 93 | 308 => 94 | 309 => 95 | 310 => 96 | 333 => 120 | 329 => 121 | 330 => 122 | 334 => 123 | 335 => 124 | 336 => 125 | 344 => 139 | n => n, fun | 31 => 34 | 9 => 9 | 3 => 3 | 46 => 88 | 0 => 0 | 51 => 122 | 53 => 102 | 4 => 4 | 183 => 114 | 182 => 113 | 131 => 119 | 5 => 5 | 218 => 150 | 222 => 68 | 228 => 166 | 229 => 92 | n => n, fun | n => n⟩
theorem Tryz.lays190 : Go.Proofs.Lays.n190 Tryz.prog Tryz.lays190_ren := {
  mixed := by kernel_rfl
  f125 := Tryz.func63.trans (congrArg some (by kernel_rfl))
  f128 := Tryz.func97.trans (congrArg some (by kernel_rfl))
  f129 := Tryz.func98.trans (congrArg some (by kernel_rfl))
  f190 := Tryz.func27.trans (congrArg some (by kernel_rfl))
  f258 := Tryz.func62.trans (congrArg some (by kernel_rfl))
  f302 := Tryz.func88.trans (congrArg some (by kernel_rfl))
  f303 := Tryz.func89.trans (congrArg some (by kernel_rfl))
  f304 := Tryz.func90.trans (congrArg some (by kernel_rfl))
  f305 := Tryz.func91.trans (congrArg some (by kernel_rfl))
  f306 := Tryz.func92.trans (congrArg some (by kernel_rfl))
  f307 := Tryz.func93.trans (congrArg some (by kernel_rfl))
  f308 := Tryz.func94.trans (congrArg some (by kernel_rfl))
  f309 := Tryz.func95.trans (congrArg some (by kernel_rfl))
  f310 := Tryz.func96.trans (congrArg some (by kernel_rfl))
  f329 := Tryz.func121.trans (congrArg some (by kernel_rfl))
  f330 := Tryz.func122.trans (congrArg some (by kernel_rfl))
  f333 := Tryz.func120.trans (congrArg some (by kernel_rfl))
  f334 := Tryz.func123.trans (congrArg some (by kernel_rfl))
  f335 := Tryz.func124.trans (congrArg some (by kernel_rfl))
  f336 := Tryz.func125.trans (congrArg some (by kernel_rfl))
  f344 := Tryz.func139.trans (congrArg some (by kernel_rfl))
  t0 := Tryz.underlying0
  a0 := Tryz.isAgg0
  z0 := Tryz.sizeOf0
  v0 := Tryz.zeroValue0
  t3 := Tryz.underlying3
  a3 := Tryz.isAgg3
  z3 := Tryz.sizeOf3
  v3 := Tryz.zeroValue3
  t4 := Tryz.underlying4
  a4 := Tryz.isAgg4
  z4 := Tryz.sizeOf4
  v4 := Tryz.zeroValue4
  t5 := Tryz.underlying5
  a5 := Tryz.isAgg5
  z5 := Tryz.sizeOf5
  v5 := Tryz.zeroValue5
  t9 := Tryz.underlying9
  a9 := Tryz.isAgg9
  z9 := Tryz.sizeOf9
  v9 := Tryz.zeroValue9
  t31 := Tryz.underlying34
  a31 := Tryz.isAgg34
  z31 := Tryz.sizeOf34
  v31 := Tryz.zeroValue34
  t46 := Tryz.underlying88
  a46 := Tryz.isAgg88
  z46 := Tryz.sizeOf88
  v46 := Tryz.zeroValue88
  t51 := Tryz.underlying122
  a51 := Tryz.isAgg122
  z51 := Tryz.sizeOf122
  v51 := Tryz.zeroValue122
  t53 := Tryz.underlying102
  a53 := Tryz.isAgg102
  z53 := Tryz.sizeOf102
  v53 := Tryz.zeroValue102
  t131 := Tryz.underlying119
  a131 := Tryz.isAgg119
  z131 := Tryz.sizeOf119
  v131 := Tryz.zeroValue119
  t182 := Tryz.underlying113
  a182 := Tryz.isAgg113
  z182 := Tryz.sizeOf113
  v182 := Tryz.zeroValue113
  t183 := Tryz.underlying114
  a183 := Tryz.isAgg114
  z183 := Tryz.sizeOf114
  v183 := Tryz.zeroValue114
  t218 := Tryz.underlying150
  a218 := Tryz.isAgg150
  z218 := Tryz.sizeOf150
  v218 := Tryz.zeroValue150
  t222 := Tryz.underlying68
  a222 := Tryz.isAgg68
  z222 := Tryz.sizeOf68
  v222 := Tryz.zeroValue68
  t228 := Tryz.underlying166
  a228 := Tryz.isAgg166
  z228 := Tryz.sizeOf166
  v228 := Tryz.zeroValue166
  t229 := Tryz.underlying92
  a229 := Tryz.isAgg92
  z229 := Tryz.sizeOf92
  v229 := Tryz.zeroValue92 }
def Tryz.lays194_ren : Go.Shelf.Ren := ⟨fun | 194 => 33 | n => n, fun | 31 => 34 | 9 => 9 | 3 => 3 | 4 => 4 | 0 => 0 | n => n, fun | n => n⟩
theorem Tryz.lays194 : Go.Proofs.Lays.n194 Tryz.prog Tryz.lays194_ren := {
  mixed := by kernel_rfl
  f194 := Tryz.func33.trans (congrArg some (by kernel_rfl))
  t0 := Tryz.underlying0
  a0 := Tryz.isAgg0
  z0 := Tryz.sizeOf0
  v0 := Tryz.zeroValue0
  t3 := Tryz.underlying3
  a3 := Tryz.isAgg3
  z3 := Tryz.sizeOf3
  v3 := Tryz.zeroValue3
  t4 := Tryz.underlying4
  a4 := Tryz.isAgg4
  z4 := Tryz.sizeOf4
  v4 := Tryz.zeroValue4
  t9 := Tryz.underlying9
  a9 := Tryz.isAgg9
  z9 := Tryz.sizeOf9
  v9 := Tryz.zeroValue9
  t31 := Tryz.underlying34
  a31 := Tryz.isAgg34
  z31 := Tryz.sizeOf34
  v31 := Tryz.zeroValue34 }
def Tryz.lays110_ren : Go.Shelf.Ren := ⟨fun | 110 => 26 | 109 => 61 | n => n, fun | 31 => 34 | 9 => 9 | 4 => 4 | 3 => 3 | 0 => 0 | n => n, fun | n => n⟩
theorem Tryz.lays110 : Go.Proofs.Lays.n110 Tryz.prog Tryz.lays110_ren := {
  mixed := by kernel_rfl
  f109 := Tryz.func61.trans (congrArg some (by kernel_rfl))
  f110 := Tryz.func26.trans (congrArg some (by kernel_rfl))
  t0 := Tryz.underlying0
  a0 := Tryz.isAgg0
  z0 := Tryz.sizeOf0
  v0 := Tryz.zeroValue0
  t3 := Tryz.underlying3
  a3 := Tryz.isAgg3
  z3 := Tryz.sizeOf3
  v3 := Tryz.zeroValue3
  t4 := Tryz.underlying4
  a4 := Tryz.isAgg4
  z4 := Tryz.sizeOf4
  v4 := Tryz.zeroValue4
  t9 := Tryz.underlying9
  a9 := Tryz.isAgg9
  z9 := Tryz.sizeOf9
  v9 := Tryz.zeroValue9
  t31 := Tryz.underlying34
  a31 := Tryz.isAgg34
  z31 := Tryz.sizeOf34
  v31 := Tryz.zeroValue34 }
end Go.Proofs
/-
  The contract of slices.Contains of texts, for every row of them.
-/
namespace Go.Proofs.YtecapnipkngniaaGreatDoor
open Go.RowKit Go.Shelf Go.Sort

theorem cell_lt {w : World} {a : Addr} {v : Value} (h : w.cell? a = some v) : a.block < w.heap.size := by
  rcases Nat.lt_or_ge a.block w.heap.size with h' | h'
  · exact h'
  · simp [World.cell?, Array.getElem?_eq_none h'] at h
/-- slices.Contains of a row of texts -/
theorem containsS_any (ns : List (List UInt8)) (x : ByteArray) (v : Value) (base : Nat) (w : World) (h : w.ownsRow base 9 1 v ns.length (ns.map encStr)) (hl : ns.length ≤ 9223372036854775807) :
    Calls Tryz.prog 26 #[v, .string x] w fun e w' => e = .returned (.bool (decide (x.data.toList ∈ ns))) ∧ w' = w := by
  rcases own_cells h with ⟨rfl, h0, h1⟩ | ⟨g, cap, rfl, _, hg, hc⟩
  · have : ns = [] := List.eq_nil_of_length_eq_zero h0
    subst this
    refine (Any.slices_Contains_string_empty Tryz.lays110 none 0 x w).mono fun e w' ⟨h1, h2⟩ => ⟨?_, h2⟩
    rw [h1]; simp
  · have hcell : ∀ j, j < (ns.map fun l => (⟨l.toArray⟩ : ByteArray)).length → w.cell? ⟨g, 0 + j, none⟩ = some (.string ((ns.map fun l => (⟨l.toArray⟩ : ByteArray)).getD j ByteArray.empty)) := by
      intro j hj
      have hj' : j < ns.length := by simpa using hj
      rw [Nat.zero_add]
      refine hc j _ ?_
      rw [List.getElem?_map, List.getElem?_eq_getElem hj']
      simp [List.getD_eq_getElem?_getD, hj', encStr]
    refine (Any.slices_Contains_string Tryz.lays110 g 0 ns.length cap (ns.map fun l => (⟨l.toArray⟩ : ByteArray)) x w (by simp) hl hcell).mono fun e w' ⟨h1, h2⟩ => ⟨?_, h2⟩
    rw [h1]
    congr 2
    rw [List.take_of_length_le (by simp)]
    rw [Bool.eq_iff_iff, Lib.containsS_iff, decide_eq_true_eq, List.mem_map]
    constructor
    · rintro ⟨l, hl, rfl⟩; simpa using hl
    · intro hx; exact ⟨_, hx, by simp⟩
end Go.Proofs.YtecapnipkngniaaGreatDoor

/-
  The contracts of duetref.small, IsName, levels and Level, for every text.
-/
namespace Go.Proofs.YtecapnipkngniaaGreatDoor
open Go.RowKit Go.Shelf Go.Sort

def smZ (l : List UInt8) : Bool := decide (1 ≤ l.length ∧ l.length ≤ 8) && l.all isLow
theorem Hid.mk'' {p : Prop} (h : p) : Hid p := h
theorem isNm_eq (l : List UInt8) : isNm l = (smZ l && !decide (l ∈ [[116, 114, 117, 101], [102, 97, 108, 115, 101], [97, 110, 100], [111, 114], [110, 111, 116]])) := by
  unfold isNm smZ
  by_cases h : l = [116, 114, 117, 101] ∨ l = [102, 97, 108, 115, 101] ∨ l = [97, 110, 100] ∨ l = [111, 114] ∨ l = [110, 111, 116]
  · rw [if_pos h]
    have : decide (l ∈ [[116, 114, 117, 101], [102, 97, 108, 115, 101], [97, 110, 100], [111, 114], [110, 111, 116]]) = true := by simpa using h
    rw [this]; simp
  · rw [if_neg h]
    have : decide (l ∈ [[116, 114, 117, 101], [102, 97, 108, 115, 101], [97, 110, 100], [111, 114], [110, 111, 116]]) = false := by simpa using h
    rw [this]; simp
set_option maxHeartbeats 1000000 in
theorem small_any (s : ByteArray) (w : World) (hs : s.size ≤ 9223372036854775807) :
    Calls Tryz.prog 37 #[.string s] w fun e w' => e = .returned (.bool (smZ s.data.toList)) ∧ w' = w := by
  have hsz : s.data.toList.length = s.size := by simp
  have hsi : (s.size : Int) ≤ 9223372036854775807 := by omega
  go_enter Tryz.func37, Tryz.ntmps37
  go_wp2_with fail
  go_loopw [3] (fun i wr => ∃ k : Nat, k ≤ s.size ∧ i = .int .i64 (k : Int) ∧ (∀ j (h : j < s.data.toList.length), j < k → isLow s.data.toList[j] = true) ∧ wr = w) (fun i _ => s.size - (intOf i).toNat)
  case atStart => exact ⟨0, Nat.zero_le _, rfl, fun j h hj => absurd hj (Nat.not_lt_zero j), rfl⟩
  case round =>
    obtain ⟨k, hk, rfl, hA, rfl⟩ := hrel
    by_cases hlt : k < s.size
    · have hltz : (k : Int) < (s.size : Int) := by omega
      have hk' : k < s.data.toList.length := by omega
      have eb : s[k] = s.data.toList[k] := rfl
      have h255 : (s[k].toNat : Int) ≤ 255 := by have := s[k].toNat_lt; omega
      have hno : isLow s[k] = false → smZ s.data.toList = false := fun h => by
        unfold smZ
        rw [Bool.and_eq_false_iff]
        right
        rw [Bool.eq_false_iff]
        intro ha
        have := List.all_eq_true.1 ha s.data.toList[k] (List.getElem_mem hk')
        rw [← eb, h] at this; cases this
      by_cases h1 : 97 ≤ s[k].toNat
      · have z1 : ¬ (s[k].toNat : Int) < 97 := by omega
        by_cases h2 : s[k].toNat ≤ 122
        · have z2 : ¬ (122 : Int) < (s[k].toNat : Int) := by omega
          have hb : isLow s[k] = true := by simp [isLow, h1, h2]
          have HA : Hid (∀ j (h : j < s.data.toList.length), j < k + 1 → isLow s.data.toList[j] = true) := fun j h hj => by
            rcases Nat.lt_succ_iff_lt_or_eq.1 hj with h' | rfl
            · exact hA j h h'
            · rw [← eb]; exact hb
          clear hA hb eb hno h1 h2
          go_wp2_with fail
          go_roundw
          case rel => exact ⟨k + 1, by omega, by go_num, HA.out, by simp⟩
          case measure => simp [intOf]; omega
        · have z2 : (122 : Int) < (s[k].toNat : Int) := by omega
          have HN := Hid.mk'' (hno (by simp [isLow]; omega))
          clear hA eb hno h1 h2
          go_wp2_with fail
          go_ret
          exact ⟨by first | (rw [HN.out]; done) | (rw [HN.out]; rfl), rfl⟩
      · have z1 : (s[k].toNat : Int) < 97 := by omega
        have HN := Hid.mk'' (hno (by simp [isLow]; omega))
        clear hA eb hno h1
        go_wp2_with fail
        go_ret
        exact ⟨by first | (rw [HN.out]; done) | (rw [HN.out]; rfl), rfl⟩
    · have hltz : ¬ (k : Int) < (s.size : Int) := by omega
      have hall : s.data.toList.all isLow = true := List.all_eq_true.2 fun c hc => by
        obtain ⟨j, hj, rfl⟩ := List.mem_iff_getElem.1 hc
        exact hA j hj (by omega)
      have hsm : smZ s.data.toList = decide (1 ≤ s.size ∧ s.size ≤ 8) := by unfold smZ; rw [hall, hsz, Bool.and_true]
      have HS := Hid.mk'' hsm
      clear hA hall hsm
      by_cases h1 : 1 ≤ s.size
      · have z1 : (1 : Int) ≤ (s.size : Int) := by omega
        by_cases h2 : s.size ≤ 8
        · have z2 : (s.size : Int) ≤ 8 := by omega
          go_wp2_with fail
          go_ret
          exact ⟨by rw [HS.out]; simp [h1, h2], rfl⟩
        · have z2 : ¬ (s.size : Int) ≤ 8 := by omega
          go_wp2_with fail
          go_ret
          exact ⟨by rw [HS.out]; simp [h1, h2], rfl⟩
      · have z1 : ¬ (1 : Int) ≤ (s.size : Int) := by omega
        go_wp2_with fail
        go_ret
        exact ⟨by rw [HS.out]; simp [h1], rfl⟩

set_option maxRecDepth 100000 in
set_option maxHeartbeats 1000000 in
theorem refIsName_any (s : ByteArray) (w : World) (hs : s.size ≤ 9223372036854775807) :
    Calls Tryz.prog 17 #[.string s] w fun e w' => e = .returned (.bool (isNm s.data.toList)) ∧ Below w.heap.size w w' := by
  rw [isNm_eq]
  have c1 := small_any s w hs
  have hO := World.ownsRow_lit (base := w.heap.size) (e := 9) (size := 1) w #[.string ⟨#[116, 114, 117, 101]⟩, .string ⟨#[102, 97, 108, 115, 101]⟩, .string ⟨#[97, 110, 100]⟩, .string ⟨#[111, 114]⟩, .string ⟨#[110, 111, 116]⟩] 5 (Nat.le_refl _) (by decide) rfl
  have c2 := containsS_any [[116, 114, 117, 101], [102, 97, 108, 115, 101], [97, 110, 100], [111, 114], [110, 111, 116]] s _ _ _ hO (by decide)
  generalize decide (s.data.toList ∈ [[116, 114, 117, 101], [102, 97, 108, 115, 101], [97, 110, 100], [111, 114], [110, 111, 116]]) = t at c2 ⊢
  clear hO
  cases h : smZ s.data.toList with
  | false =>
    rw [h] at c1
    clear c2 h
    go_enter Tryz.func17, Tryz.ntmps17
    go_wp2_with fail
    refine c1.mono ?_
    rintro e w1 ⟨rfl, rfl⟩
    go_wp2_with fail
    go_ret
    exact ⟨rfl, Below.refl _ _⟩
  | true =>
    rw [h] at c1
    clear h
    go_enter Tryz.func17, Tryz.ntmps17
    go_wp2_with fail
    refine c1.mono ?_
    rintro e w1 ⟨rfl, rfl⟩
    go_wp2_with fail
    refine c2.mono ?_
    rintro e w2 ⟨rfl, hw2⟩
    subst hw2
    go_wp2_with fail
    go_ret
    exact ⟨by simp, (Below.refl _ _).alloc (Nat.le_refl _) _⟩

theorem own_keep0 {W W' : World} {base : Nat} {e : TypeId} {size : Nat} {v : Value} {n : Nat} {xs : List Value} (h : W.ownsRow base e size v n xs) (hb : Below W.heap.size W W') : W'.ownsRow base e size v n xs := by
  refine ⟨h.1, h.2.imp id ?_⟩
  rintro ⟨g, cap, cur, h1, h2, h3, h4⟩
  refine ⟨g, cap, cur, h1, h2, ?_, h4⟩
  rw [hb.block g ?_]
  · exact h3
  · rcases Nat.lt_or_ge g W.heap.size with hlt | hge
    · exact hlt
    · rw [Array.getElem?_eq_none hge] at h3; cases h3
/-- the levels -/
def lvL : List (List (List UInt8)) := [[[111, 114]], [[97, 110, 100]], [[61, 61], [60], [60, 61]], [[43], [45], [43, 43]], [[42], [47], [37]]]
theorem lvl_hit (o : List UInt8) (k : Nat) (h : k < lvL.length) (hin : o ∈ lvL[k]) : lvl o = (k : Int) + 1 := by
  have : k = 0 ∨ k = 1 ∨ k = 2 ∨ k = 3 ∨ k = 4 := by simp [lvL] at h; omega
  rcases this with rfl | rfl | rfl | rfl | rfl <;> simp [lvL] at hin
  · subst hin; decide
  · subst hin; decide
  · rcases hin with rfl | rfl | rfl <;> decide
  · rcases hin with rfl | rfl | rfl <;> decide
  · rcases hin with rfl | rfl | rfl <;> decide
theorem lvl_miss (o : List UInt8) (h : ∀ j (hj : j < lvL.length), o ∉ lvL[j]) : lvl o = 0 := by
  have h0 := h 0 (by decide)
  have h1 := h 1 (by decide)
  have h2 := h 2 (by decide)
  have h3 := h 3 (by decide)
  have h4 := h 4 (by decide)
  simp [lvL] at h0 h1 h2 h3 h4
  unfold lvl
  simp [h0, h1, h2, h3, h4]
theorem lvl_len (k : Nat) (h : k < lvL.length) : lvL[k].length ≤ 3 := by
  have : k = 0 ∨ k = 1 ∨ k = 2 ∨ k = 3 ∨ k = 4 := by simp [lvL] at h; omega
  rcases this with rfl | rfl | rfl | rfl | rfl <;> simp [lvL]
structure LVS (W : World) (B g : Nat) : Prop where
  lt : g < W.heap.size
  c : ∀ i (h : i < lvL.length), ∃ b n c, W.cell? ⟨g, i, none⟩ = some (.slice (some ⟨b, 0, none⟩) n c) ∧ W.ownsRow B 9 1 (.slice (some ⟨b, 0, none⟩) n c) lvL[i].length (lvL[i].map encStr)

set_option maxRecDepth 100000 in
set_option maxHeartbeats 1000000 in
theorem levels_any (w : World) :
    Calls Tryz.prog 38 #[] w fun e w' => (∃ g, e = .returned (.slice (some ⟨g, 0, none⟩) 5 5) ∧ LVS w' w.heap.size g) ∧ Below w.heap.size w w' := by
  go_enter Tryz.func38, Tryz.ntmps38
  go_wp2_with fail
  go_ret
  refine ⟨⟨_, rfl, by simp, fun i hi => ?_⟩, by go_grown⟩
  have : i = 0 ∨ i = 1 ∨ i = 2 ∨ i = 3 ∨ i = 4 := by simp [lvL] at hi; omega
  rcases this with rfl | rfl | rfl | rfl | rfl
  · refine ⟨w.heap.size, 1, 1, by go_cell, ?_⟩
    exact (((((World.ownsRow_lit (base := w.heap.size) (e := 9) (size := 1) w #[.string ⟨#[111, 114]⟩] 1 (by simp) (by decide) rfl).alloc _).alloc _).alloc _).alloc _).alloc _
  · refine ⟨w.heap.size + 1, 1, 1, by go_cell, ?_⟩
    have := World.ownsRow_lit (base := w.heap.size) (e := 9) (size := 1) (w.alloc (.cells #[.string ⟨#[111, 114]⟩] 9)) #[.string ⟨#[97, 110, 100]⟩] 1 (by simp) (by decide) rfl
    rw [World.size_alloc] at this
    exact (((this.alloc _).alloc _).alloc _).alloc _
  · refine ⟨w.heap.size + 1 + 1, 3, 3, by go_cell, ?_⟩
    have := World.ownsRow_lit (base := w.heap.size) (e := 9) (size := 1) ((w.alloc (.cells #[.string ⟨#[111, 114]⟩] 9)).alloc (.cells #[.string ⟨#[97, 110, 100]⟩] 9)) #[.string ⟨#[61, 61]⟩, .string ⟨#[60]⟩, .string ⟨#[60, 61]⟩] 3 (by simp; omega) (by decide) rfl
    rw [World.size_alloc, World.size_alloc] at this
    exact ((this.alloc _).alloc _).alloc _
  · refine ⟨w.heap.size + 1 + 1 + 1, 3, 3, by go_cell, ?_⟩
    have := World.ownsRow_lit (base := w.heap.size) (e := 9) (size := 1) (((w.alloc (.cells #[.string ⟨#[111, 114]⟩] 9)).alloc (.cells #[.string ⟨#[97, 110, 100]⟩] 9)).alloc (.cells #[.string ⟨#[61, 61]⟩, .string ⟨#[60]⟩, .string ⟨#[60, 61]⟩] 9)) #[.string ⟨#[43]⟩, .string ⟨#[45]⟩, .string ⟨#[43, 43]⟩] 3 (by simp; omega) (by decide) rfl
    rw [World.size_alloc, World.size_alloc, World.size_alloc] at this
    exact (this.alloc _).alloc _
  · refine ⟨w.heap.size + 1 + 1 + 1 + 1, 3, 3, by go_cell, ?_⟩
    have := World.ownsRow_lit (base := w.heap.size) (e := 9) (size := 1) ((((w.alloc (.cells #[.string ⟨#[111, 114]⟩] 9)).alloc (.cells #[.string ⟨#[97, 110, 100]⟩] 9)).alloc (.cells #[.string ⟨#[61, 61]⟩, .string ⟨#[60]⟩, .string ⟨#[60, 61]⟩] 9)).alloc (.cells #[.string ⟨#[43]⟩, .string ⟨#[45]⟩, .string ⟨#[43, 43]⟩] 9)) #[.string ⟨#[42]⟩, .string ⟨#[47]⟩, .string ⟨#[37]⟩] 3 (by simp; omega) (by decide) rfl
    rw [World.size_alloc, World.size_alloc, World.size_alloc, World.size_alloc] at this
    exact this.alloc _

set_option maxHeartbeats 1000000 in
theorem refLevel_any (op : ByteArray) (w : World) :
    Calls Tryz.prog 18 #[.string op] w fun e w' => e = .returned (.int .i64 (lvl op.data.toList)) ∧ Below w.heap.size w w' := by
  have cV := levels_any w
  go_enter Tryz.func18, Tryz.ntmps18
  go_wp2_with fail
  refine cV.mono ?_
  rintro e w1 ⟨⟨g, rfl, hL⟩, hb1⟩
  have HL := Hid.mk'' hL
  clear cV hL
  go_wp2_with fail
  go_loopw [4] (fun i wr => ∃ k : Nat, k ≤ 5 ∧ i = .int .i64 (k : Int) ∧ (∀ j (h : j < lvL.length), j < k → op.data.toList ∉ lvL[j]) ∧ Below w1.heap.size w1 wr) (fun i _ => 5 - (intOf i).toNat)
  case atStart => exact ⟨0, Nat.zero_le _, rfl, fun j h hj => absurd hj (Nat.not_lt_zero j), Below.refl _ _⟩
  case round =>
    obtain ⟨k, hk, rfl, hA, hbr⟩ := hrel
    by_cases hlt : k < 5
    · have hltz : (k : Int) < 5 := by omega
      have hk5 : k < lvL.length := hlt
      obtain ⟨b, n, c, hc, hO⟩ := HL.out.c k hk5
      replace hc := (hbr.cell (p := ⟨g, k, none⟩) HL.out.lt).trans hc
      have hO' := own_keep0 hO hbr
      have cC := containsS_any lvL[k] op _ _ wr hO' (Nat.le_trans (lvl_len k hk5) (by decide))
      have hB := hb1.trans (hbr.mono hb1.size)
      cases hin : decide (op.data.toList ∈ lvL[k]) with
      | true =>
        rw [hin] at cC
        have HV := Hid.mk'' (lvl_hit op.data.toList k hk5 (of_decide_eq_true hin))
        clear hA hin hO hO'
        go_wp2_with fail
        refine cC.mono ?_
        rintro e w2 ⟨rfl, hw2⟩
        subst hw2
        clear cC hc
        go_wp2_with fail
        go_ret
        exact ⟨by rw [HV.out]; rfl, hB⟩
      | false =>
        rw [hin] at cC
        have HA : Hid (∀ j (h : j < lvL.length), j < k + 1 → op.data.toList ∉ lvL[j]) := fun j h hj => by
          rcases Nat.lt_succ_iff_lt_or_eq.1 hj with h' | rfl
          · exact hA j h h'
          · exact of_decide_eq_false hin
        clear hA hin hO hO'
        go_wp2_with fail
        refine cC.mono ?_
        rintro e w2 ⟨rfl, hw2⟩
        subst hw2
        clear cC hc
        go_wp2_with fail
        go_roundw
        case rel => exact ⟨k + 1, by omega, by go_num, HA.out, hbr⟩
        case measure => simp [intOf]; omega
    · have hltz : ¬ (k : Int) < 5 := by omega
      have HM := Hid.mk'' (lvl_miss op.data.toList fun j hj => hA j hj (by have : j < 5 := hj; omega))
      have hB := hb1.trans (hbr.mono hb1.size)
      clear hA
      go_wp2_with fail
      go_ret
      exact ⟨by rw [HM.out]; rfl, hB⟩
end Go.Proofs.YtecapnipkngniaaGreatDoor
