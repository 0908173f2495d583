/-
  The contract of the closure of exprs.Put, for every right part.
-/
import Derived.Test.YtclbillfffpknaaGreatDoorYc
import Derived.Test.YtclbillfffpknaaGreatDoorPa
namespace Go.Proofs.YtclbillfffpknaaGreatDoor
open Go.RowKit Go.Shelf

/-- the two variables that the closure has caught, in their blocks -/
structure PV (bn bv : Nat) (nm : ByteArray) (v : Vl) (W : World) : Prop where
  ln : bn < W.heap.size
  lv : bv < W.heap.size
  cn : W.cell? ⟨bn, 0, none⟩ = some (.string nm)
  c0 : W.cell? ⟨bv, 0, none⟩ = some (.int .i64 v.so)
  c1 : W.cell? ⟨bv, 1, none⟩ = some (.int .i64 v.n)
  c2 : W.cell? ⟨bv, 2, none⟩ = some (.string v.s)
theorem PV.keep {bn bv : Nat} {nm : ByteArray} {v : Vl} {W W' : World} (h : PV bn bv nm v W) (hb : Below W.heap.size W W') : PV bn bv nm v W' :=
  ⟨Nat.lt_of_lt_of_le h.ln hb.size, Nat.lt_of_lt_of_le h.lv hb.size, (hb.cell (p := ⟨bn, 0, none⟩) h.ln).trans h.cn, (hb.cell (p := ⟨bv, 0, none⟩) h.lv).trans h.c0, (hb.cell (p := ⟨bv, 1, none⟩) h.lv).trans h.c1, (hb.cell (p := ⟨bv, 2, none⟩) h.lv).trans h.c2⟩
/-- what a value must be to be put -/
structure VBd (v : Vl) : Prop where
  n0 : -9223372036854775808 ≤ v.n
  n1 : v.n ≤ 9223372036854775807
  s : v.s.size ≤ 281474976710656

theorem putN_miss (nm : ByteArray) (v : Vl) (p : Ex) (h : ¬ (p.kind = 2 ∧ p.name = nm)) : putN nm v p = p := by unfold putN; rw [if_neg h]
theorem putN_hit (nm : ByteArray) (v : Vl) (p : Ex) (h : p.kind = 2 ∧ p.name = nm) : putN nm v p = Ex.lit v := by unfold putN; rw [if_pos h]

set_option maxHeartbeats 400000 in
theorem put1_a (bn bv : Nat) (nm : ByteArray) (v : Vl) (p : Ex) (ao : Option Addr) (cap : Nat) (w : World) (hbd : ExBd p cap) (h : ¬ p.kind = 2) :
    Calls Tryz.prog 19 #[exVal p ao cap, .pointer (some ⟨bn, 0, none⟩), .pointer (some ⟨bv, 0, none⟩)] w (MadeX w p ao (putN nm v p)) := by
  rw [putN_miss nm v p (fun e => h e.1)]
  have HM := fun w' => made_same w w' p ao cap hbd
  clear hbd
  simp only [exVal] at HM ⊢
  generalize MadeX w p ao p = Q at HM ⊢
  go_enter Tryz.func19, Tryz.ntmps19
  go_wp2_with fail
  refine bodyPost_ret (by simp [results, Tryz.results19, go_sem]) rfl (HM _ (by go_grown))

set_option maxHeartbeats 400000 in
theorem put1_b (bn bv : Nat) (nm : ByteArray) (v : Vl) (p : Ex) (ao : Option Addr) (cap : Nat) (w : World) (hbd : ExBd p cap) (hP : PV bn bv nm v w) (h2 : p.kind = 2) (h : ¬ p.name = nm) :
    Calls Tryz.prog 19 #[exVal p ao cap, .pointer (some ⟨bn, 0, none⟩), .pointer (some ⟨bv, 0, none⟩)] w (MadeX w p ao (putN nm v p)) := by
  rw [putN_miss nm v p (fun e => h e.2)]
  have hbe : (p.name.toList == nm.toList) = false := by rw [ba_beq]; simpa using h
  have HM := fun w' => made_same w w' p ao cap hbd
  have hF := (hP.keep (FW.new w p ao cap).bl).cn
  have hln := hP.ln
  have n1 : ¬ bn = w.heap.size := by omega
  have n2 : ¬ w.heap.size = bn := by omega
  have n3 : ¬ bn = w.heap.size + 1 := by omega
  have n4 : ¬ w.heap.size + 1 = bn := by omega
  clear hbd hP
  simp only [exVal, fwW] at HM hF ⊢
  generalize MadeX w p ao p = Q at HM ⊢
  rw [h2] at HM hF ⊢
  go_enter Tryz.func19, Tryz.ntmps19
  go_wp2_with fail
  refine bodyPost_ret (by simp [results, Tryz.results19, go_sem]) rfl (HM _ (by go_grown))

set_option maxHeartbeats 400000 in
theorem put1_c (bn bv : Nat) (nm : ByteArray) (v : Vl) (p : Ex) (ao : Option Addr) (cap : Nat) (w : World) (hP : PV bn bv nm v w) (hv : VBd v) (h2 : p.kind = 2) (h : p.name = nm) :
    Calls Tryz.prog 19 #[exVal p ao cap, .pointer (some ⟨bn, 0, none⟩), .pointer (some ⟨bv, 0, none⟩)] w (MadeX w p ao (putN nm v p)) := by
  rw [putN_hit nm v p ⟨h2, h⟩]
  have HM : ∀ w', Below w.heap.size w w' → MadeX w p ao (Ex.lit v) (.returned (exVal (Ex.lit v) none 0)) w' := by
    intro w' hb
    refine ⟨⟨none, 0, rfl, .inl rfl, ?_⟩, hb⟩
    refine ⟨?_, ?_, hv.n0, hv.n1, Nat.le_refl _, by omega⟩
    · show (⟨#[]⟩ : ByteArray).size ≤ _; decide
    · show v.s.size ≤ _; have := hv.s; omega
  have c3 := fun W => copied_any v W hv.s
  have c4 := fun W => literal_any v W
  have HF := FW.new w p ao cap
  obtain ⟨_, _, g0, g1, g2, g3⟩ := hP.keep HF.bl
  have hln := hP.ln
  have hlv := hP.lv
  clear hv hP
  obtain ⟨so, n, s⟩ := v
  simp only [exVal, Ex.lit, List.length_nil, vlV] at HM c3 c4 g0 g1 g2 g3 ⊢
  generalize MadeX w p ao ⟨1, ⟨#[]⟩, so, n, s, []⟩ = Q at HM ⊢
  simp only [fwW] at HF g0 g1 g2 g3
  rw [h2] at HF g0 g1 g2 g3 ⊢
  have hm : p.name = nm := h
  subst hm
  have hbe : (p.name.toList == p.name.toList) = true := by simp
  have n1 : ¬ bn = w.heap.size := by omega
  have n2 : ¬ w.heap.size = bn := by omega
  have n3 : ¬ bn = w.heap.size + 1 := by omega
  have n4 : ¬ w.heap.size + 1 = bn := by omega
  have n5 : ¬ bv = w.heap.size := by omega
  have n6 : ¬ w.heap.size = bv := by omega
  have n7 : ¬ bv = w.heap.size + 1 := by omega
  have n8 : ¬ w.heap.size + 1 = bv := by omega
  go_enter Tryz.func19, Tryz.ntmps19
  go_wp2_with fail
  refine (c3 _).mono ?_
  rintro e w3 ⟨rfl, hb3⟩
  have HH3 : Hid (FW w p ao cap w3) := HF.keep hb3
  have C4 := c4 w3
  clear c3 c4 hb3 HF g0 g1 g2 g3
  go_wp2_with fail
  refine C4.mono ?_
  rintro e w4 ⟨rfl, hb4⟩
  obtain ⟨y0, y1, y2, y3, y4, y5, hz, hbl⟩ := HH3.out.keep hb4
  obtain ⟨hzl, z0, z1, z2, z3, z4, z5, zf⟩ := hz
  have zf0 := zf 0
  have zf1 := zf 1
  have zf2 := zf 2
  have zf3 := zf 3
  have zf4 := zf 4
  have zf5 := zf 5
  clear zf hb4 C4
  go_wp2_with fail
  refine bodyPost_ret (by simp [results, Tryz.results19, go_sem, z0, z1, z2, z3, z4, z5]) rfl (HM _ (by go_grown))

theorem put1_any (bn bv : Nat) (nm : ByteArray) (v : Vl) (p : Ex) (ao : Option Addr) (cap : Nat) (w : World) (hbd : ExBd p cap) (hP : PV bn bv nm v w) (hv : VBd v) :
    Calls Tryz.prog 19 #[exVal p ao cap, .pointer (some ⟨bn, 0, none⟩), .pointer (some ⟨bv, 0, none⟩)] w (MadeX w p ao (putN nm v p)) := by
  by_cases h2 : p.kind = 2
  · by_cases h : p.name = nm
    · exact put1_c bn bv nm v p ao cap w hP hv h2 h
    · exact put1_b bn bv nm v p ao cap w hbd hP h2 h
  · exact put1_a bn bv nm v p ao cap w hbd h2
end Go.Proofs.YtclbillfffpknaaGreatDoor
