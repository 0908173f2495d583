/-
  The contract of graph.Check, for whatever nodes are handed in; where it lets them by they are a graph.
-/
import Derived.Test.YtnedgkcejlhnbaaDoorNm
namespace Go.Proofs.YtnedgkcejlhnbaaDoor
open Go.RowKit Go.Shelf

/-- nodes as they are handed in, each with its To -/
abbrev Rn := Nd × List Int
/-- what may stand there: To are what they are (without their signs); lengths that a machine holds -/
structure RnB (p : Rn) : Prop where
  tz : p.1.to = p.2.map Int.toNat
  lb : ∀ l ∈ p.1.labs, l.size ≤ 9223372036854775807
  ll : p.1.labs.length ≤ 9223372036854775807
def RGA (W : World) (B : Nat) (rs : List Rn) (ag : Option Addr) : Prop := rs = [] ∨ ∃ b o, ag = some ⟨b, o, none⟩ ∧ b < B ∧ ∀ i (h : i < rs.length), ∃ al cl at1 ct, NdAt W b (o + i * 4) rs[i].1 al cl at1 ct ∧ LA W B rs[i].1.labs al ∧ ZA W B rs[i].2 at1 ∧ rs[i].1.to.length ≤ ct
theorem RGA.keep {W W' : World} {B : Nat} {rs : List Rn} {ag : Option Addr} (hb : Below B W W') (h : RGA W B rs ag) : RGA W' B rs ag :=
  h.imp id fun ⟨b, o, e, hl, hc⟩ => ⟨b, o, e, hl, fun i hi => by
    obtain ⟨al, cl, at1, ct, h1, h2, h3, h4⟩ := hc i hi
    exact ⟨al, cl, at1, ct, h1.keep hb hl, h2.keep hb, h3.keep hb, h4⟩⟩
def allR (rs : List Rn) : Bool := rs.all fun p => okR p.1 p.2 rs.length
/-- what Check says -/
def chkG (rs : List Rn) : Int := if rs.length = 0 then 1 else if 200 < rs.length then 2 else if allR rs = true then 0 else 1
theorem chkG_bad {rs : List Rn} {i : Nat} (h0 : rs.length ≠ 0) (h2 : ¬ 200 < rs.length) (hi : i < rs.length) (h : okR rs[i].1 rs[i].2 rs.length = false) : chkG rs = 1 := by
  have : allR rs = false := by
    unfold allR
    rw [List.all_eq_false]
    exact ⟨rs[i], List.getElem_mem hi, by rw [h]; decide⟩
  unfold chkG
  rw [if_neg h0, if_neg h2, this]; rfl
theorem chkG_good {rs : List Rn} (h0 : rs.length ≠ 0) (h2 : ¬ 200 < rs.length) (h : ∀ i (hi : i < rs.length), okR rs[i].1 rs[i].2 rs.length = true) : chkG rs = 0 := by
  have : allR rs = true := by
    unfold allR
    rw [List.all_eq_true]
    intro p hp
    obtain ⟨i, hi, rfl⟩ := List.mem_iff_getElem.1 hp
    exact h i hi
  unfold chkG
  rw [if_neg h0, if_neg h2, this]; rfl
theorem chk_okN {n : Nd} (h : chkTy (nTy n n.to.length) = 0) : okN n := by
  unfold okN
  rw [map_rep]
  unfold chkTy at h
  rw [chkT_eq, if_neg (by decide)] at h
  by_cases hp : partT (nTy n n.to.length) = false
  · rw [if_pos hp] at h; cases h
  · cases hq : partT (nTy n n.to.length)
    · exact absurd hq hp
    · exact hq
theorem okR_iff {n : Nd} {zs : List Int} {N : Nat} (h : okR n zs N = true) : okN n ∧ ∀ z ∈ zs, 0 ≤ z ∧ z < (N : Int) := by
  unfold okR inR at h
  rw [Bool.and_eq_true, Bool.and_eq_true, decide_eq_true_eq, decide_eq_true_eq, List.all_eq_true] at h
  exact ⟨chk_okN h.2, fun z hz => of_decide_eq_true (h.1.2 z hz)⟩
/-- a graph, where Check lets it by -/
theorem chkG_gn {rs : List Rn} (hr : ∀ p ∈ rs, RnB p) (h : chkG rs = 0) : GN (rs.map (·.1)) := by
  unfold chkG at h
  by_cases h0 : rs.length = 0
  · rw [if_pos h0] at h; cases h
  rw [if_neg h0] at h
  by_cases h2 : 200 < rs.length
  · rw [if_pos h2] at h; cases h
  rw [if_neg h2] at h
  cases ha : allR rs
  · rw [ha] at h; cases h
  · unfold allR at ha
    rw [List.all_eq_true] at ha
    refine ⟨by rw [List.length_map]; omega, by rw [List.length_map]; omega, fun n hn => ?_, fun n hn t ht => ?_⟩
    · obtain ⟨p, hp, rfl⟩ := List.mem_map.1 hn
      exact (okR_iff (ha p hp)).1
    · obtain ⟨p, hp, rfl⟩ := List.mem_map.1 hn
      rw [(hr p hp).tz] at ht
      obtain ⟨z, hz, rfl⟩ := List.mem_map.1 ht
      have := (okR_iff (ha p hp)).2 z hz
      rw [List.length_map]
      omega
theorem RGA.gak {W : World} {B : Nat} {rs : List Rn} {ag : Option Addr} (hr : ∀ p ∈ rs, RnB p) (h : RGA W B rs ag) (hz : chkG rs = 0) : GAK W B (rs.map (·.1)) ag := by
  have ha : ∀ p ∈ rs, ∀ z ∈ p.2, 0 ≤ z := fun p hp z hzm => by
    unfold chkG at hz
    by_cases h0 : rs.length = 0
    · rw [if_pos h0] at hz; cases hz
    rw [if_neg h0] at hz
    by_cases h2 : 200 < rs.length
    · rw [if_pos h2] at hz; cases hz
    rw [if_neg h2] at hz
    cases hb : allR rs
    · rw [hb] at hz; cases hz
    · unfold allR at hb
      rw [List.all_eq_true] at hb
      exact ((okR_iff (hb p hp)).2 z hzm).1
  rcases h with rfl | ⟨b, o, e, hl, hc⟩
  · exact .inl rfl
  · refine .inr ⟨b, o, e, hl, fun i hi => ?_⟩
    have hi' : i < rs.length := by simpa using hi
    obtain ⟨al, cl, at1, ct, h1, h2, h3, h4⟩ := hc i hi'
    have hm := List.getElem_mem hi'
    rw [List.getElem_map]
    refine ⟨al, cl, at1, ct, h1, h2, ?_, h4⟩
    rw [(hr _ hm).tz]
    rcases h3 with h3 | ⟨b', o', e', hl', hc'⟩
    · left; rw [h3]; rfl
    · refine .inr ⟨b', o', e', hl', fun j hj => ?_⟩
      have hj' : j < rs[i].2.length := by simpa using hj
      rw [hc' j hj']
      simp only [List.getElem_map]
      have := ha _ hm _ (List.getElem_mem hj')
      rw [Int.toNat_of_nonneg this]
set_option maxRecDepth 100000 in
set_option maxHeartbeats 4000000 in
theorem checkR_any (rs : List Rn) (ag : Option Addr) (cg B : Nat) (w : World) (hr : ∀ p ∈ rs, RnB p) (hga : RGA w B rs ag) (hB : B ≤ w.heap.size) (hN : rs.length ≤ 9223372036854775807) :
    Calls Tryd.prog 19 #[.slice ag rs.length cg] w fun e w' => e = .returned (.int .i64 (chkG rs)) ∧ Below w.heap.size w w' := by
  by_cases h0 : rs.length = 0
  · have hz0 : ((rs.length : Int) == 0) = true := by rw [h0]; rfl
    have HE := hideK (show chkG rs = 1 by unfold chkG; rw [if_pos h0])
    clear hga hr h0
    go_enter Tryd.func19, Tryd.ntmps19
    go_wp2_with fail
    go_ret
    exact ⟨by rw [HE.out]; rfl, Below.refl _ _⟩
  have hz0 : ((rs.length : Int) == 0) = false := by rw [beq_eq_false_iff_ne]; omega
  by_cases h2 : 200 < rs.length
  · have hz1 : (200 : Int) < (rs.length : Int) := by omega
    have HE := hideK (show chkG rs = 2 by unfold chkG; rw [if_neg h0, if_pos h2])
    clear hga hr h0 h2
    go_enter Tryd.func19, Tryd.ntmps19
    go_wp2_with fail
    go_ret
    exact ⟨by rw [HE.out]; rfl, Below.refl _ _⟩
  have hz1 : ¬ ((200 : Int) < (rs.length : Int)) := by omega
  have hz2 : (rs.length : Int) ≤ 200 := by omega
  obtain ⟨gb, go, rfl, hgB, hgc⟩ := hga.resolve_left (fun q => by rw [q] at h0; exact h0 rfl)
  have HGC := hideK hgc
  have HR := hideK hr
  have HBAD := hideK (fun i (hi : i < rs.length) => chkG_bad h0 h2 hi)
  have HGOOD := hideK (chkG_good h0 h2)
  clear hga hgc hr h0 h2
  go_enter Tryd.func19, Tryd.ntmps19
  go_wp2_with fail
  go_loopw [15] (fun i wr => ∃ k : Nat, k ≤ rs.length ∧ i = .int .i64 (k : Int) ∧ Below w.heap.size w wr ∧ ∀ j (hj : j < rs.length), j < k → okR rs[j].1 rs[j].2 rs.length = true) (fun i _ => rs.length - (intOf i).toNat)
  case atStart => exact ⟨0, Nat.zero_le _, rfl, Below.refl _ _, fun j _ h => by omega⟩
  case round =>
    obtain ⟨k, hk, rfl, hb, hin⟩ := hrel
    have HIN := hideK hin
    clear hin
    by_cases hlt : k < rs.length
    · have hltz : (k : Int) < (rs.length : Int) := by omega
      obtain ⟨a1, c1, a2, c2, hN', hL, hT, _⟩ := HGC.out k hlt
      have hbB := hb.mono hB
      obtain ⟨m0, m1, m2, m3⟩ := hN'.keep hbB hgB
      have hA := hb.alloc hb.size (.cells #[.int .i64 rs[k].1.kind, .int .i64 rs[k].1.so, .slice a1 rs[k].1.labs.length c1, .slice a2 rs[k].1.to.length c2] 29)
      have hRB := HR.out _ (List.getElem_mem hlt)
      have c := isNodeR_any rs[k].1 rs[k].2 rs.length a1 a2 c1 c2 B (wr.alloc (.cells #[.int .i64 rs[k].1.kind, .int .i64 rs[k].1.so, .slice a1 rs[k].1.labs.length c1, .slice a2 rs[k].1.to.length c2] 29)) (hL.keep (hA.mono hB)) (hT.keep (hA.mono hB)) (by rw [hRB.tz, List.length_map]) (Nat.le_trans hB hA.size) hRB.lb hRB.ll
      simp only [ndVal] at c
      have HA := hideK hA
      have HBK := hideK (HBAD.out k hlt)
      have HNX := hideK (fun (q : okR rs[k].1 rs[k].2 rs.length = true) => show ∀ j (hj : j < rs.length), j < k + 1 → okR rs[j].1 rs[j].2 rs.length = true from fun j hj hjk => by
        by_cases e : j = k
        · subst e; exact q
        · exact HIN.out j hj (by omega))
      clear hN' hL hT hbB hb hA hRB
      generalize hq : okR rs[k].1 rs[k].2 rs.length = q at *
      generalize rs[k].1 = n at *
      clear hq
      go_wp2_with fail
      refine c.mono ?_
      rintro e w1 ⟨rfl, hb1⟩
      have HB1 := hideK (HA.out.trans (hb1.mono HA.out.size))
      clear c hb1 m0 m1 m2 m3
      cases q
      · have HE := hideK (HBK.out rfl)
        clear HBK HNX
        go_wp2_with fail
        go_ret
        exact ⟨by rw [HE.out]; rfl, HB1.out⟩
      · have HN2 := hideK (HNX.out rfl)
        clear HBK HNX
        go_wp2_with fail
        go_roundw
        case rel => exact ⟨k + 1, by omega, by go_num, HB1.out, HN2.out⟩
        case measure => simp [intOf]; omega
    · have hltz : ¬ (k : Int) < (rs.length : Int) := by omega
      have HE := hideK (HGOOD.out fun i hi => HIN.out i hi (by omega))
      have HB := hideK hb
      clear hb HGOOD
      go_wp2_with fail
      go_ret
      exact ⟨by rw [HE.out]; rfl, HB.out⟩
end Go.Proofs.YtnedgkcejlhnbaaDoor
