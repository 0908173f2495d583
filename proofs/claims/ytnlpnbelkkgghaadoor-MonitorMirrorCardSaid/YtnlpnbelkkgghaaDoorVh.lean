/-
  The contracts of the shelf's functions, in plain words. Conditions: none.
-/
import Derived.Test.YtnlpnbelkkgghaaDoorProg
import Derived.Ground.Names2Prog
import Derived.Shelf.Slices.Clone
import Derived.Test.YtnlpnbelkkgghaaDoorVa
import Derived.Test.YtnlpnbelkkgghaaDoorJf
import Derived.Test.YtnlpnbelkkgghaaDoorVq
import Derived.Test.YtnlpnbelkkgghaaDoorHm
import Derived.Test.YtnlpnbelkkgghaaDoorHs
namespace Go.Proofs
open Go.Shelf
def Tryd.laysNm215_ren : Go.Shelf.Ren := ⟨fun | 15 => 147 | n => n, fun | 22 => 39 | 3 => 3 | 4 => 4 | n => n, fun | n => n⟩
theorem Tryd.laysNm215 : Go.Proofs.Lays2.n15 Tryd.prog Tryd.laysNm215_ren := {
  mixed := by kernel_rfl
  f15 := Tryd.func147.trans (congrArg some (by kernel_rfl))
  t3 := Tryd.underlying3
  a3 := Tryd.isAgg3
  z3 := Tryd.sizeOf3
  v3 := Tryd.zeroValue3
  t4 := Tryd.underlying4
  a4 := Tryd.isAgg4
  z4 := Tryd.sizeOf4
  v4 := Tryd.zeroValue4
  t22 := Tryd.underlying39
  a22 := Tryd.isAgg39
  z22 := Tryd.sizeOf39
  v22 := Tryd.zeroValue39
  i3 := by kernel_rfl }
end Go.Proofs
/-
  The contracts of dual.Kind, slices.Clone of ints, dual.turnedTo and dual.keptTo.
-/
namespace Go.Proofs.YtnlpnbelkkgghaaDoor
open Go.RowKit Go.Shelf

set_option maxHeartbeats 1000000 in
theorem kind_any (z : Int) (w : World) : Calls Tryd.prog 26 #[.int .i64 z] w fun e w' => e = .returned (.int .i64 (kdD z)) ∧ w' = w := by
  by_cases h2 : z = 2
  · subst h2
    go_enter Tryd.func26, Tryd.ntmps26
    go_wp2_with fail
    go_ret
    exact ⟨rfl, rfl⟩
  by_cases h3 : z = 3
  · subst h3
    go_enter Tryd.func26, Tryd.ntmps26
    go_wp2_with fail
    go_ret
    exact ⟨rfl, rfl⟩
  by_cases h4 : z = 4
  · subst h4
    go_enter Tryd.func26, Tryd.ntmps26
    go_wp2_with fail
    go_ret
    exact ⟨rfl, rfl⟩
  by_cases h5 : z = 5
  · subst h5
    go_enter Tryd.func26, Tryd.ntmps26
    go_wp2_with fail
    go_ret
    exact ⟨rfl, rfl⟩
  by_cases h6 : z = 6
  · subst h6
    go_enter Tryd.func26, Tryd.ntmps26
    go_wp2_with fail
    go_ret
    exact ⟨rfl, rfl⟩
  by_cases h7 : z = 7
  · subst h7
    go_enter Tryd.func26, Tryd.ntmps26
    go_wp2_with fail
    go_ret
    exact ⟨rfl, rfl⟩
  have HK := hideK (show kdD z = z from by unfold kdD; rw [if_neg h2, if_neg h3, if_neg h4, if_neg h5, if_neg h6, if_neg h7])
  have b2 : (z == 2) = false := by simpa using h2
  have b3 : (z == 3) = false := by simpa using h3
  have b4 : (z == 4) = false := by simpa using h4
  have b5 : (z == 5) = false := by simpa using h5
  have b6 : (z == 6) = false := by simpa using h6
  have b7 : (z == 7) = false := by simpa using h7
  go_enter Tryd.func26, Tryd.ntmps26
  go_wp2_with fail
  go_ret
  exact ⟨by rw [HK.out]; rfl, rfl⟩
def iV (t : Nat) : Value := .int .i64 (t : Int)
/-- a row of ints that lies in memory, copied: a row of its own -/
theorem cloneI_any (ts : List Nat) (at1 : Option Addr) (ct B : Nat) (w : World) (h : NI w B ts at1) (hl : ts.length ≤ 1000) :
    Calls Tryd.prog 147 #[.slice at1 ts.length ct] w fun e w' => ∃ v, e = .returned v ∧ w'.ownsRow w.heap.size 3 1 v ts.length (ts.map iV) ∧ Below w.heap.size w w' := by
  rcases h with h | ⟨b, o, rfl, _, hc⟩
  · have : ts = [] := by simpa using h
    subst this
    cases at1 with
    | none =>
      refine (Any.slices_Clone_int_nil Tryd.laysNm215 _ ct w).mono ?_
      rintro e w' ⟨rfl, rfl⟩
      exact ⟨_, rfl, World.ownsRow_nil _ _ _ _, Below.refl _ _⟩
    | some a =>
      refine (Any.slices_Clone_int_zero Tryd.laysNm215 a ct w).mono ?_
      rintro e w' ⟨v, rfl, hO, _, hb⟩
      exact ⟨v, rfl, hO, hb⟩
  · refine (Any.slices_Clone_int Tryd.laysNm215 b o ts.length ct (ts.map fun t : Nat => (t : Int)) w (by simp) (by omega) ?_).mono ?_
    · intro j hj
      have hj' : j < ts.length := by simpa using hj
      rw [hc j (by simpa using hj')]
      simp [List.getD_eq_getElem?_getD, hj']
    · rintro e w' ⟨v, rfl, hO, _, hb⟩
      rw [List.take_of_length_le (by simp), List.map_map] at hO
      exact ⟨v, rfl, hO, hb⟩
/-- a list of ints in new memory -/
def NF (w W : World) (ts : List Nat) (a : Option Addr) : Prop := NP W (fun b => w.heap.size ≤ b ∧ b < W.heap.size) (ts.map fun t : Nat => Value.int .i64 (t : Int)) a
theorem cloneI_cells {w W : World} {v : Value} {ts : List Nat} (h : W.ownsRow w.heap.size 3 1 v ts.length (ts.map iV)) (h0 : 0 < ts.length) : ∃ b c, v = .slice (some ⟨b, 0, none⟩) ts.length c ∧ w.heap.size ≤ b ∧ b < W.heap.size ∧ (∀ j (hj : j < ts.length), W.cell? ⟨b, j, none⟩ = some (iV ts[j])) ∧ ∀ j, j < ts.length → W.frozen? ⟨b, j, none⟩ = false := by
  have hv : v ≠ .slice none 0 0 := by
    rintro rfl
    rcases h.2 with ⟨_, h⟩ | ⟨g, c, cur, h, _⟩
    · omega
    · cases h
  obtain ⟨g, cp, rfl, hbg, hgl, _, _, _, hH⟩ := Lib.holds_of_ownsRow h hv
  refine ⟨g, cp, rfl, hbg, hgl, fun j hj => ?_, fun j hj => ?_⟩
  · have := (hH j (by simpa using hj)).1
    rw [Nat.zero_add] at this
    rw [this]
    simp [hj]
  · have := (hH j (by simpa using hj)).2
    rw [Nat.zero_add] at this
    exact this
set_option maxRecDepth 100000 in
set_option maxHeartbeats 4000000 in
theorem keptTo_any (n : Nd) (N : Nat) (a1 a2 : Option Addr) (c1 c2 B : Nat) (w : World) (h2 : NI w B n.to a2) (hB : B ≤ w.heap.size) (h6 : n.to.length ≤ 6) (hN : N ≤ 1000) (ht : ∀ t ∈ n.to, t ≤ 1000) :
    Calls Tryd.prog 119 #[ndVal n a1 c1 a2 c2, .int .i64 (N : Int)] w fun e w' => (∃ a c, e = .returned (.slice a (keL n N).length c) ∧ NF w w' (keL n N) a) ∧ Below w.heap.size w w' := by
  have hA : Below w.heap.size w (w.alloc (.cells #[.int .i64 n.kind, .int .i64 n.so, .slice a1 n.labs.length c1, .slice a2 n.to.length c2] 41)) := (Below.refl _ _).alloc (Nat.le_refl _) _
  have b0 : NdAt (w.alloc (.cells #[.int .i64 n.kind, .int .i64 n.so, .slice a1 n.labs.length c1, .slice a2 n.to.length c2] 41)) w.heap.size 0 n a1 c1 a2 c2 := ⟨by go_cell, by go_cell, by go_cell, by go_cell⟩
  obtain ⟨x0, x1, x2, x3⟩ := b0
  simp only [Nat.zero_add] at x1 x2 x3
  have cC := cloneI_any n.to a2 c2 B _ (h2.keep (hA.mono hB)) (by omega)
  have hkl : (keL n N).length = n.to.length := by simp [keL]
  have HT := hideK ht
  have HA := hideK hA
  have hNz : (N : Int) ≤ 1000 := by omega
  have h6z : (n.to.length : Int) ≤ 6 := by omega
  rw [hkl]
  simp only [ndVal]
  clear h2 hA ht hkl
  go_enter Tryd.func119, Tryd.ntmps119
  go_wp2_with fail
  refine cC.mono ?_
  rintro e w1 ⟨v, rfl, hO, hb1⟩
  have HB1 := hideK (HA.out.trans (hb1.mono HA.out.size))
  clear cC x0 x1 x2 x3 hb1
  by_cases h0 : 0 < n.to.length
  · obtain ⟨b, c, rfl, hbl, hbg, hcell, hfz⟩ := cloneI_cells hO h0
    have hbl2 : w.heap.size ≤ b := Nat.le_trans HA.out.size hbl
    have HC := hideK hcell
    have HF := hideK hfz
    clear hO hcell hfz
    go_wp2_with fail
    go_loopw [12] (fun i wr => ∃ k : Nat, k ≤ n.to.length ∧ i = .int .i64 (k : Int) ∧ b < wr.heap.size ∧ (∀ j (hj : j < n.to.length), wr.cell? ⟨b, j, none⟩ = some (iV (if j < k then n.to[j] + N else n.to[j]))) ∧ (∀ j, j < n.to.length → wr.frozen? ⟨b, j, none⟩ = false) ∧ Below w.heap.size w wr) (fun i _ => n.to.length - (intOf i).toNat)
    case atStart => exact ⟨0, Nat.zero_le _, rfl, hbg, fun j hj => by rw [if_neg (by omega)]; exact HC.out j hj, HF.out, HB1.out⟩
    case round =>
      obtain ⟨k, hk, rfl, hbw, hcw, hfw, hb⟩ := hrel
      by_cases hlt : k < n.to.length
      · have hltz : (k : Int) < (n.to.length : Int) := by omega
        have d0 := hcw k hlt
        rw [if_neg (by omega)] at d0
        unfold iV at d0
        have d1 := hfw k hlt
        have htv := HT.out _ (List.getElem_mem hlt)
        have HCW := hideK (show ∀ j (hj : j < n.to.length), (wr.setCell ⟨b, k, none⟩ (.int .i64 (((n.to[k] + N : Nat) : Int)))).cell? ⟨b, j, none⟩ = some (iV (if j < k + 1 then n.to[j] + N else n.to[j])) from fun j hj => by
          by_cases e : j = k
          · subst e
            rw [if_pos (by omega)]
            exact World.cell?_setCell_same _ _ _ (hcw j hj)
          · rw [World.cell?_setCell_other _ _ _ _ (by intro q; injection q with _ q; exact e q.symm), hcw j hj]
            by_cases q : j < k
            · rw [if_pos q, if_pos (by omega)]
            · rw [if_neg q, if_neg (by omega)])
        have HFW := hideK (show ∀ j, j < n.to.length → (wr.setCell ⟨b, k, none⟩ (.int .i64 (((n.to[k] + N : Nat) : Int)))).frozen? ⟨b, j, none⟩ = false from fun j hj => (World.frozen?_setCell _ _ _ _).trans (hfw j hj))
        have HBW := hideK (show Below w.heap.size w (wr.setCell ⟨b, k, none⟩ (.int .i64 (((n.to[k] + N : Nat) : Int)))) from hb.setCell (by show w.heap.size ≤ b; exact hbl2) _)
        clear hcw hfw hb
        generalize n.to[k] = tv at *
        have htz : (tv : Int) ≤ 1000 := by omega
        simp only [Int.natCast_add] at HCW HFW HBW
        go_wp2_with fail
        go_roundw
        case rel => exact ⟨k + 1, by omega, by go_num, by simpa using hbw, HCW.out, HFW.out, HBW.out⟩
        case measure => simp [intOf]; omega
      · have hltz : ¬ (k : Int) < (n.to.length : Int) := by omega
        have hke : k = n.to.length := by omega
        subst hke
        have HNF := hideK (show NF w wr (keL n N) (some ⟨b, 0, none⟩) from .inr ⟨b, 0, rfl, ⟨hbl2, hbw⟩, fun i hi => by
          have hi' : i < n.to.length := by simpa [keL] using hi
          rw [Nat.zero_add, hcw i hi', if_pos hi']
          simp [keL, iV]⟩)
        have HB := hideK hb
        clear hcw hfw hb
        go_wp2_with fail
        go_ret
        exact ⟨⟨some ⟨b, 0, none⟩, ⟨c, rfl⟩, HNF.out⟩, HB.out⟩
  · have hz : n.to = [] := List.length_eq_zero_iff.1 (by omega)
    have hl0 : n.to.length = 0 := by omega
    have HNF := hideK (show ∀ a, NF w w1 (keL n N) a from fun a => .inl (by unfold keL; rw [hz]; rfl))
    obtain ⟨va, vc, rfl⟩ := sliceH_own hO
    rw [hl0]
    clear hO hz HT h0
    go_wp2_with fail
    go_loopw [12] (fun i wr => i = .int .i64 0 ∧ wr = w1) (fun _ _ => 0)
    case atStart => exact ⟨rfl, rfl⟩
    case round =>
      obtain ⟨rfl, rfl⟩ := hrel
      go_wp2_with fail
      go_ret
      exact ⟨⟨va, vc, by rw [hl0]; rfl, HNF.out _⟩, HB1.out⟩
set_option maxRecDepth 100000 in
set_option maxHeartbeats 4000000 in
theorem turnedTo_any (n : Nd) (N : Nat) (a1 a2 : Option Addr) (c1 c2 B : Nat) (w : World) (h2 : NI w B n.to a2) (hB : B ≤ w.heap.size) (hn : okN n) (hN : N ≤ 1000) (ht : ∀ t ∈ n.to, t ≤ 1000) :
    Calls Tryd.prog 118 #[ndVal n a1 c1 a2 c2, .int .i64 (N : Int)] w fun e w' => (∃ a c, e = .returned (.slice a (tuL n N).length c) ∧ NF w w' (tuL n N) a) ∧ Below w.heap.size w w' := by
  have h6 := (shp_len (okN_shp hn)).2.1
  have hA : Below w.heap.size w (w.alloc (.cells #[.int .i64 n.kind, .int .i64 n.so, .slice a1 n.labs.length c1, .slice a2 n.to.length c2] 41)) := (Below.refl _ _).alloc (Nat.le_refl _) _
  have b0 : NdAt (w.alloc (.cells #[.int .i64 n.kind, .int .i64 n.so, .slice a1 n.labs.length c1, .slice a2 n.to.length c2] 41)) w.heap.size 0 n a1 c1 a2 c2 := ⟨by go_cell, by go_cell, by go_cell, by go_cell⟩
  have cC := cloneI_any n.to a2 c2 B _ (h2.keep (hA.mono hB)) (by omega)
  have HB0 := hideK b0
  obtain ⟨x0, x1, x2, x3⟩ := b0
  simp only [Nat.zero_add] at x1 x2 x3
  have HA := hideK hA
  have hNz : (N : Int) ≤ 1000 := by omega
  rw [tuL_len]
  simp only [ndVal]
  by_cases hk : n.kind = 4 ∨ n.kind = 5
  · have hl2 : n.to.length = 2 := by
      rcases okN_cases hn with ⟨q, _⟩ | ⟨q, _⟩ | ⟨_, _, _, q⟩ | ⟨q, _⟩ <;> omega
    have HTU := hideK (show ∀ a b, n.to = [a, b] → tuL n N = [a + N, b] from fun a b e => by unfold tuL; rw [if_pos hk, e])
    obtain ⟨ta, tb, hto⟩ : ∃ ta tb, n.to = [ta, tb] := by
      match hq : n.to, hl2 with
      | [a, b], _ => exact ⟨a, b, rfl⟩
    have hta := ht ta (by rw [hto]; exact .head _)
    have htz : (ta : Int) ≤ 1000 := by omega
    have HTO := hideK hto
    have hkb : (n.kind == 4) = true ∨ ((n.kind == 4) = false ∧ (n.kind == 5) = true) := by
      rcases hk with h | h
      · exact .inl (by rw [h]; rfl)
      · exact .inr ⟨by rw [h]; rfl, by rw [h]; rfl⟩
    have HL := hideK hl2
    clear h2 hA ht hto hk hn hl2
    rcases hkb with k4 | ⟨k4, k5⟩
    all_goals
      go_enter Tryd.func118, Tryd.ntmps118
      go_wp2_with fail
      refine cC.mono ?_
      rintro e w1 ⟨v, rfl, hO, hb1⟩
      have hl2 := HL.out
      have HB1 := hideK (HA.out.trans (hb1.mono HA.out.size))
      obtain ⟨y0, y1, y2, y3⟩ := HB0.out.keep hb1 (by simp)
      simp only [Nat.zero_add] at y1 y2 y3
      obtain ⟨b, c, rfl, hbl, hbg, hcell, hfz⟩ := cloneI_cells hO (by omega)
      have hbl2 : w.heap.size ≤ b := Nat.le_trans HA.out.size hbl
      have d0 := hcell 0 (by omega)
      have d1 := hcell 1 (by omega)
      have f0 := hfz 0 (by omega)
      simp only [HTO.out, iV] at d0 d1
      simp only [List.getElem_cons_zero, List.getElem_cons_succ] at d0 d1
      have HNF := hideK (show NF w (w1.setCell ⟨b, 0, none⟩ (.int .i64 ((ta : Int) + (N : Int)))) (tuL n N) (some ⟨b, 0, none⟩) from .inr ⟨b, 0, rfl, ⟨hbl2, by simpa using hbg⟩, fun i hi => by
        rw [HTU.out ta tb HTO.out] at hi
        simp only [HTU.out ta tb HTO.out]
        have hi2 : i = 0 ∨ i = 1 := by simp at hi; omega
        rcases hi2 with rfl | rfl
        · rw [World.cell?_setCell_same _ _ _ d0]; simp
        · rw [World.cell?_setCell_other _ _ _ _ (by intro q; injection q with _ q; omega)]; exact d1⟩)
      have HBS := hideK (show Below w.heap.size w (w1.setCell ⟨b, 0, none⟩ (.int .i64 ((ta : Int) + (N : Int)))) from HB1.out.setCell (by show w.heap.size ≤ b; exact hbl2) _)
      clear cC hO hcell hfz hb1 x0 x1 x2 x3
      go_wp2_with fail
      go_ret
      exact ⟨⟨some ⟨b, 0, none⟩, c, by first | rfl | (rw [hl2]; rfl), HNF.out⟩, HBS.out⟩
  · have HTU := hideK (show tuL n N = n.to from by unfold tuL; rw [if_neg hk])
    have k4 : (n.kind == 4) = false := by simpa using fun q => hk (.inl q)
    have k5 : (n.kind == 5) = false := by simpa using fun q => hk (.inr q)
    clear h2 hA ht hk hn
    go_enter Tryd.func118, Tryd.ntmps118
    go_wp2_with fail
    refine cC.mono ?_
    rintro e w1 ⟨v, rfl, hO, hb1⟩
    have HB1 := hideK (HA.out.trans (hb1.mono HA.out.size))
    obtain ⟨y0, y1, y2, y3⟩ := HB0.out.keep hb1 (by simp)
    simp only [Nat.zero_add] at y1 y2 y3
    have HNF := hideK (show ∃ a c, v = .slice a n.to.length c ∧ NF w w1 (tuL n N) a from by
      rw [HTU.out]
      rcases own_cells hO with ⟨rfl, h0, _⟩ | ⟨g, cap, rfl, hg1, hg, hc⟩
      · exact ⟨none, 0, by rw [h0], .inl (by rw [List.length_eq_zero_iff.1 h0]; rfl)⟩
      · refine ⟨_, _, rfl, .inr ⟨g, 0, rfl, ⟨Nat.le_trans HA.out.size hg1, hg⟩, fun i hi => ?_⟩⟩
        rw [Nat.zero_add]
        exact hc i _ (List.getElem?_eq_getElem hi))
    obtain ⟨va, vc, rfl, hnf⟩ := HNF.out
    have HN2 := hideK hnf
    clear cC hO hb1 x0 x1 x2 x3 HNF hnf
    go_wp2_with fail
    go_ret
    exact ⟨⟨va, vc, rfl, HN2.out⟩, HB1.out⟩
end Go.Proofs.YtnlpnbelkkgghaaDoor

/-
  The search of package ways in memory, for the places of comply.place: a map of those that are known, and the row of arrivals.
-/
namespace Go.Proofs.YtnlpnbelkkgghaaDoor
open Go.RowKit Go.Shelf

def pkC (p : Pc) : Value := .agg #[.int .i64 (p.1 : Int), .int .i64 (p.2 : Int)]
theorem pkC_inj {p q : Pc} (h : pkC p = pkC q) : p = q := by
  simp [pkC] at h
  exact Prod.ext (by omega) (by omega)
theorem keyLawC : WideMaps.KeyLaw Tryd.prog 184 := deep_law_laid (m := 3) laidOutG (by decide) (of_decide_eq_true (by kernel_rfl)) (by kernel_rfl) (by kernel_rfl)
def smC (p : Pc) : Prop := p.1 ≤ 1000000 ∧ p.2 ≤ 1000000
theorem key_ofC (p : Pc) (h : smC p) : ∃ l, keyOf Tryd.prog 184 (pkC p) = some l := by
  have hm : Tryd.prog.types.size + 1 = (Tryd.prog.types.size - 1) + 2 := by kernel_rfl
  have c0 : Tryd.prog.cellsOf 184 = 2 := by kernel_rfl
  have c3 : Tryd.prog.cellsOf 3 = 1 := by kernel_rfl
  have kt : Tryd.prog.keyType 184 = true := by kernel_rfl
  unfold keyOf pkC
  rw [hm]
  generalize Tryd.prog.types.size - 1 = d
  have e3 := kl_int d (p.1 : Int) (by unfold in64z; have := h.1; omega)
  have e4 := kl_int d (p.2 : Int) (by unfold in64z; have := h.2; omega)
  rw [Tryd.underlying184]
  simp only
  rw [if_pos]
  · rw [Program.keyLits.eq_def]
    simp only [Tryd.underlying184]
    simp [c0, c3, Value.cells, e3, e4]
  · rw [kt]
    simp [Value.formed]
    exact c0.symm
/-- a map that has just these places -/
def MPC (W : World) (mb : Nat) (ps : List Pc) : Prop := ∃ es clock, W.heap[mb]? = some (.map es clock) ∧ es.size = ps.length ∧ ∀ i (h : i < ps.length), ∃ e, es[i]? = some e ∧ e.key = pkC ps[i] ∧ e.val = .agg #[]
theorem mpC_keys {ps : List Pc} {es : Array MapEntry} (hsz : es.size = ps.length) (hes : ∀ i (h : i < ps.length), ∃ e, es[i]? = some e ∧ e.key = pkC ps[i] ∧ e.val = .agg #[]) (hk : ∀ p ∈ ps, smC p) : ∀ e ∈ es.toList, ∃ l, keyOf Tryd.prog 184 e.key = some l := by
  intro e he
  obtain ⟨i, hi, rfl⟩ := List.mem_iff_getElem.1 he
  have hi' : i < ps.length := by rw [← hsz]; simpa using hi
  obtain ⟨e', h1, h2, _⟩ := hes i hi'
  have : es.toList[i] = e' := by
    have h3 : es[i]? = some es.toList[i] := by
      rw [← Array.getElem?_toList]; exact List.getElem?_eq_getElem hi
    rw [h3] at h1; exact Option.some.inj h1
  rw [this, h2]
  exact key_ofC _ (hk _ (List.getElem_mem hi'))
theorem lookC_in {W : World} {mb : Nat} {ps : List Pc} (hm : MPC W mb ps) (hk : ∀ p ∈ ps, smC p) {p : Pc} (hp : p ∈ ps) :
    (Instr.lookup 228 (.map (some mb)) (pkC p) true).run Tryd.prog W = .ok (.tuple #[.agg #[], .bool true]) W := by
  obtain ⟨es, clock, hb, hsz, hes⟩ := hm
  have K := keyLawC
  obtain ⟨kl, hkey⟩ := key_ofC p (hk p hp)
  rcases K.find W hkey es.toList (mpC_keys hsz hes hk) with ⟨h1, h2⟩ | ⟨i, e0, h1, h2, h3⟩
  · obtain ⟨j, hj, e⟩ := List.mem_iff_getElem.1 hp
    obtain ⟨e, he, hek, _⟩ := hes j hj
    exact absurd (hek.trans (by rw [‹ps[j] = p›])) (h2 e (by rw [Array.mem_toList_iff, Array.mem_iff_getElem?]; exact ⟨j, he⟩))
  · have hil : i < ps.length := by
      have := (List.getElem?_eq_some_iff.1 h2).1
      rw [← hsz]; simpa using this
    obtain ⟨e, he, hek, hev⟩ := hes i hil
    have : e = e0 := by rw [← Array.getElem?_toList] at he; rw [he] at h2; exact Option.some.inj h2
    subst this
    rw [hev] at h1
    simp [Instr.lookup, run_underlying Tryd.underlying228, MapKept.run_getObj_map hb, K.check W _ hkey, h1, Result.andThen]
theorem lookC_out {W : World} {mb : Nat} {ps : List Pc} (hm : MPC W mb ps) (hk : ∀ p ∈ ps, smC p) {p : Pc} (hs : smC p) (hp : p ∉ ps) :
    (Instr.lookup 228 (.map (some mb)) (pkC p) true).run Tryd.prog W = .ok (.tuple #[.agg #[], .bool false]) W ∧
    ∃ W', (Instr.mapUpdate 228 (.map (some mb)) (pkC p) (.agg #[])).run Tryd.prog W = .ok () W' ∧ W.grownBy W' (some mb) ∧ W'.heap.size = W.heap.size ∧ MPC W' mb (ps ++ [p]) := by
  obtain ⟨es, clock, hb, hsz, hes⟩ := hm
  have K := keyLawC
  obtain ⟨kl, hkey⟩ := key_ofC p hs
  rcases K.find W hkey es.toList (mpC_keys hsz hes hk) with ⟨h1, h2⟩ | ⟨i, e0, h1, h2, h3⟩
  · refine ⟨by simp [Instr.lookup, run_underlying Tryd.underlying228, MapKept.run_getObj_map hb, K.check W _ hkey, h1, Result.andThen], { W with heap := W.heap.setIfInBounds mb (.map (es.push { key := pkC p, val := .agg #[], born := clock }) (clock + 1)) }, ?_, ?_⟩
    · simp [Instr.mapUpdate, run_underlying Tryd.underlying228, MapKept.run_getObj_map hb, K.check W _ hkey, h1, MapKept.run_setObj_map _ hb, Result.andThen]
    · refine ⟨⟨rfl, rfl, rfl, by simp, fun k hk' hne => (MapKept.heap_set hb).2 k (fun e => hne (by rw [e]))⟩, by simp, _, _, (MapKept.heap_set hb).1, by simp [hsz], fun i hi => ?_⟩
      by_cases hi' : i < ps.length
      · obtain ⟨e, he, hek, hev⟩ := hes i hi'
        refine ⟨e, ?_, by rw [List.getElem_append_left hi']; exact hek, hev⟩
        rw [Array.getElem?_push, if_neg (by omega)]; exact he
      · obtain rfl : i = ps.length := by simp at hi; omega
        exact ⟨_, by rw [Array.getElem?_push, if_pos hsz.symm], by simp, rfl⟩
  · exfalso
    have hil : i < ps.length := by
      have := (List.getElem?_eq_some_iff.1 h2).1
      rw [← hsz]; simpa using this
    obtain ⟨e, he, hek, hev⟩ := hes i hil
    have : e = e0 := by rw [← Array.getElem?_toList] at he; rw [he] at h2; exact Option.some.inj h2
    subst this
    have : pkC ps[i] = pkC p := by rw [← h3, hek]
    exact hp (by rw [← pkC_inj this]; exact List.getElem_mem hil)
theorem MPC.new (W : World) : MPC (W.alloc (.map #[] 0)) W.heap.size [] := ⟨_, _, heap_alloc_new W _, rfl, fun _ h => absurd h (Nat.not_lt_zero _)⟩
theorem MPC.blk {W W' : World} {mb : Nat} {ps : List Pc} (hm : MPC W mb ps) (h : W'.heap[mb]? = W.heap[mb]?) : MPC W' mb ps := by
  obtain ⟨es, clock, hb, hsz, hes⟩ := hm
  exact ⟨es, clock, h.trans hb, hsz, hes⟩
theorem MPC.lt {W : World} {mb : Nat} {ps : List Pc} (hm : MPC W mb ps) : mb < W.heap.size := by
  obtain ⟨es, clock, hb, _⟩ := hm
  exact (Array.getElem?_eq_some_iff.1 hb).1
/-- the cells of an arrival -/
def aCC (v : Ag Pc) : List Value := [.int .i64 (v.1.2.1 : Int), .int .i64 (v.1.2.2 : Int), .string v.1.1, .int .i64 (v.2 : Int)]
def avC (arr : List (Ag Pc)) : List Value := arr.flatMap aCC
theorem aCC_one (v : Ag Pc) : ∀ y ∈ aCC v, y.oneCell' = true := by
  intro y hy
  simp only [aCC, List.mem_cons, List.not_mem_nil, or_false] at hy
  rcases hy with rfl | rfl | rfl | rfl <;> rfl
theorem avC_snoc (arr : List (Ag Pc)) (v : Ag Pc) : avC (arr ++ [v]) = avC arr ++ aCC v := by simp [avC]
theorem avC_at : ∀ (ss : List (Ag Pc)) (i : Nat) (h : i < ss.length) (j : Nat), j < 4 → (avC ss)[i * 4 + j]? = (aCC ss[i])[j]?
  | [], i, h, _, _ => by simp at h
  | s :: ss, 0, _, j, hj => by
    have e : avC (s :: ss) = aCC s ++ avC ss := rfl
    rw [e, List.getElem?_append_left (by simp [aCC]; omega)]
    simp
  | s :: ss, i + 1, h, j, hj => by
    have e : avC (s :: ss) = aCC s ++ avC ss := rfl
    have hl : (aCC s).length = 4 := rfl
    rw [e, List.getElem?_append_right (by rw [hl]; omega), hl, show (i + 1) * 4 + j - 4 = i * 4 + j by omega]
    exact avC_at ss i (by simpa using h) j hj
theorem infoAvC : (Tryd.prog.info? 230).map (fun i => (i.zero, i.size, i.bytes)) = some (some (.agg #[.int .i64 0, .int .i64 0, .string ⟨#[]⟩, .int .i64 0]), 4, 40) := by kernel_rfl
/-- the search -/
structure SVC (w0 : World) (sb mb : Nat) (ps : List Pc) (arr : List (Ag Pc)) (u : Value) (W : World) : Prop where
  c0 : W.cell? ⟨sb, 0, none⟩ = some (.map (some mb))
  c1 : W.cell? ⟨sb, 1, none⟩ = some u
  f1 : W.frozen? ⟨sb, 1, none⟩ = false
  mp : MPC W mb ps
  own : W.ownsRow w0.heap.size 230 4 u arr.length (avC arr)
  ns : sb ≠ mb
  hs : w0.heap.size ≤ sb
  hm : w0.heap.size ≤ mb
  us : u.ownBlock ≠ some sb
  um : u.ownBlock ≠ some mb
  ls : sb < W.heap.size
  bl : Below w0.heap.size w0 W
abbrev SWC (w0 : World) (sb mb : Nat) (arr : List (Ag Pc)) (u : Value) (W : World) : Prop := SVC w0 sb mb (plG arr) arr u W
theorem SVC.kept {w0 : World} {sb mb : Nat} {ps : List Pc} {arr : List (Ag Pc)} {u : Value} {W W' : World} (h : SVC w0 sb mb ps arr u W) (hb : Below W.heap.size W W') : SVC w0 sb mb ps arr u W' :=
  ⟨(hb.cell (p := ⟨sb, 0, none⟩) h.ls).trans h.c0, (hb.cell (p := ⟨sb, 1, none⟩) h.ls).trans h.c1, (hb.frozen (p := ⟨sb, 1, none⟩) h.ls).trans h.f1, h.mp.blk (hb.block mb h.mp.lt), own_belowG h.own hb, h.ns, h.hs, h.hm, h.us, h.um, Nat.lt_of_lt_of_le h.ls hb.size, h.bl.trans (hb.mono h.bl.size)⟩
/-- arrivals in memory -/
theorem SVC.at_ {w0 : World} {sb mb : Nat} {ps : List Pc} {arr : List (Ag Pc)} {u : Value} {W : World} (h : SVC w0 sb mb ps arr u W) {k : Nat} (hk : k < arr.length) : ∃ b c, u = .slice (some ⟨b, 0, none⟩) arr.length c ∧ u.ownBlock = some b ∧ b < W.heap.size ∧ ∀ j y, (aCC arr[k])[j]? = some y → W.cell? ⟨b, k * 4 + j, none⟩ = some y := by
  rcases own_cells h.own with ⟨rfl, h0, _⟩ | ⟨g, cap, rfl, _, hg, hc⟩
  · omega
  · refine ⟨g, cap, rfl, rfl, hg, fun j y hy => ?_⟩
    have hj : j < 4 := (List.getElem?_eq_some_iff.1 hy).1
    exact hc _ _ ((avC_at arr k hk j hj).trans hy)
/-- one place more is known -/
theorem SVC.upd {w0 : World} {sb mb : Nat} {ps ps' : List Pc} {arr : List (Ag Pc)} {u : Value} {W W' : World} (h : SVC w0 sb mb ps arr u W) (hg : W.grownBy W' (some mb)) (hm : MPC W' mb ps') : SVC w0 sb mb ps' arr u W' := by
  have hk : ∀ b, b < W.heap.size → b ≠ mb → W'.heap[b]? = W.heap[b]? := fun b hb hn => hg.block b hb (fun e => hn (by injection e))
  refine ⟨(World.cell?_of_block (a := ⟨sb, 0, none⟩) (hk sb h.ls h.ns)).trans h.c0, (World.cell?_of_block (a := ⟨sb, 1, none⟩) (hk sb h.ls h.ns)).trans h.c1, (World.frozen?_of_block (a := ⟨sb, 1, none⟩) (hk sb h.ls h.ns)).trans h.f1, hm, ?_, h.ns, h.hs, h.hm, h.us, h.um, Nat.lt_of_lt_of_le h.ls hg.size, ?_⟩
  · refine ⟨h.own.1, h.own.2.imp id fun ⟨g, c, cur, e1, hb, hc, r⟩ => ⟨g, c, cur, e1, hb, ?_, r⟩⟩
    rw [hk g (Array.getElem?_eq_some_iff.1 hc).1 (fun e => h.um (by rw [e1, ← e]; rfl))]
    exact hc
  · refine h.bl.trans ⟨hg.os, hg.tape, hg.output, hg.size, fun b hb => hk b (Nat.lt_of_lt_of_le hb h.bl.size) (by have := h.hm; omega)⟩
/-- and it is an arrival -/
theorem SVC.put {w0 : World} {sb mb : Nat} {ps : List Pc} {arr : List (Ag Pc)} {u v7 : Value} {V w7 : World} {ob : Obj} {s : Sg Pc} {k : Nat} (h : SVC w0 sb mb ps arr u V) (hps : ps = plG arr ++ [s.2])
    (hg : (V.alloc ob).grownBy w7 u.ownBlock) (hO : w7.ownsRow w0.heap.size 230 4 v7 (arr.length + 1) (avC arr ++ aCC (s, k))) (hat : v7.ownBlock = u.ownBlock ∨ v7.ownBlock = some (V.alloc ob).heap.size) :
    SWC w0 sb mb (arr ++ [(s, k)]) v7 (w7.setCell ⟨sb, 1, none⟩ v7) ∧ RF mb sb u.ownBlock V (w7.setCell ⟨sb, 1, none⟩ v7) ∧ (v7.ownBlock = u.ownBlock ∨ ∀ j, v7.ownBlock = some j → V.heap.size ≤ j) := by
  have hsz : (V.alloc ob).heap.size = V.heap.size + 1 := by simp
  have hk : ∀ b, b < V.heap.size → some b ≠ u.ownBlock → w7.heap[b]? = V.heap[b]? := fun b hb hn => (hg.block b (by omega) hn).trans (heap_alloc_old V ob hb)
  have hS := hk sb h.ls (fun e => h.us e.symm)
  have hM := hk mb h.mp.lt (fun e => h.um e.symm)
  have hs7 := hg.size
  have hfr : v7.ownBlock = u.ownBlock ∨ ∀ j, v7.ownBlock = some j → V.heap.size ≤ j := hat.imp id fun e j hj => by rw [e] at hj; injection hj with hj; omega
  have hne : ∀ b, b < V.heap.size → u.ownBlock ≠ some b → v7.ownBlock ≠ some b := fun b hb hn e => by
    rcases hfr with q | q
    · exact hn (q ▸ e)
    · have := q b e; omega
  have hus := hne sb h.ls h.us
  have hum := hne mb h.mp.lt h.um
  refine ⟨⟨?_, World.cell?_setCell_same _ _ _ ((World.cell?_of_block (a := ⟨sb, 1, none⟩) hS).trans h.c1), (World.frozen?_setCell _ _ _ _).trans ((World.frozen?_of_block (a := ⟨sb, 1, none⟩) hS).trans h.f1), ?_, ?_, h.ns, h.hs, h.hm, hus, hum, by simp; have := h.ls; omega, ?_⟩, ?_, hfr⟩
  · rw [World.cell?_setCell_other _ _ _ _ (by intro e; injection e with _ e; cases e)]
    exact (World.cell?_of_block (a := ⟨sb, 0, none⟩) hS).trans h.c0
  · have e : plG (arr ++ [(s, k)]) = ps := by rw [hps]; simp [plG]
    rw [e]
    exact h.mp.blk ((Below.heap_setCell _ _ _ mb (fun e => h.ns e.symm)).trans hM)
  · rw [avC_snoc, List.length_append]
    refine ⟨hO.1, hO.2.imp id fun ⟨g, c, cur, e1, hb, hc, r⟩ => ⟨g, c, cur, e1, hb, ?_, r⟩⟩
    rw [Below.heap_setCell _ _ _ g (fun e => hus (by have e : g = sb := e; rw [e1, e]; rfl))]
    exact hc
  · refine ⟨hg.os.trans h.bl.os, hg.tape.trans h.bl.tape, hg.output.trans h.bl.output, by simp; have := h.bl.size; omega, fun b hb => ?_⟩
    rw [Below.heap_setCell _ _ _ b (fun e => by have e : b = sb := e; have := h.hs; omega), hk b (Nat.lt_of_lt_of_le hb h.bl.size) (fun e => by have := (h.own.lt b e.symm).1; omega)]
    exact h.bl.block b hb
  · refine ⟨hg.os, hg.tape, hg.output, by simp; omega, fun b hb h1 h2 h3 => ?_⟩
    rw [Below.heap_setCell _ _ _ b (fun e => h2 e)]
    exact hk b hb h3
theorem RF.drewLC {fb rb : Nat} {row : Option Nat} {w w' : World} (h : RF fb rb row w.drew w') : RF fb rb row w w' := ⟨h.os, h.tape, h.output, h.size, h.block⟩
/-- the box of a place -/
def PBC (bx : Nat) (p : Pc) (W : World) : Prop := W.cell? ⟨bx, 0, none⟩ = some (.int .i64 (p.1 : Int)) ∧ W.cell? ⟨bx, 1, none⟩ = some (.int .i64 (p.2 : Int))
theorem PBC.keep {bx : Nat} {p : Pc} {W W' : World} (h : PBC bx p W) (hb : ∀ o, W'.cell? ⟨bx, o, none⟩ = W.cell? ⟨bx, o, none⟩) : PBC bx p W' := ⟨(hb 0).trans h.1, (hb 1).trans h.2⟩
theorem stepUpdC {P : Program} {w w' : World} {ops : Array Oper} {o : Oper} {a : Act} {K : Act → World → Prop} {Q : Exit → Act → World → Prop} {E : Prop} (hgd : o.guard = none) (m x y : Operand) (t : TypeId) (ho : o.op = Op.mapUpdate t m x y ∨ o.op = Op.insert t m x y) {mv key v : Value}
    (hm : a.eval m = mv) (hx : a.eval x = key) (hy : a.eval y = v) (hrun : (Instr.mapUpdate t mv key v).run P w = .ok () w') (h : K (a.put o.dst undef) w') : if Region.wanted o (yielded ops a.tmps) = true then Oper.wp P o a w K Q else E := by
  have hw : Region.wanted o (yielded ops a.tmps) = true := by simp [Region.wanted, hgd]
  rw [if_pos hw]
  unfold Oper.wp
  rcases ho with ho | ho <;> (simp [execOp, ho, hm, hx, hy, hrun, Result.andThen]; exact h)
end Go.Proofs.YtnlpnbelkkgghaaDoor
