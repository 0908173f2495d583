/-
  The contracts of below.Nodes and below.Graphs, for graphs that Check lets by.
-/
import Derived.Test.YtnlpnbelkkgghaaDoorJb
import Derived.Test.YtnlpnbelkkgghaaDoorVn
import Derived.Test.YtnlpnbelkkgghaaDoorVe
import Derived.Test.YtnlpnbelkkgghaaDoorIh
namespace Go.Proofs.YtnlpnbelkkgghaaDoor
open Go.RowKit Go.Shelf

set_option maxRecDepth 100000 in
set_option maxHeartbeats 2000000 in
theorem nodes_any (g h : List Nd) (ag ah : Option Addr) (cg ch B m n : Nat) (w : World) (hg : GN g) (hh : GN h) (hga : GAt w B g ag) (hha : GAt w B h ah) (hB : B ≤ w.heap.size) (hm : m < g.length) (hn : n < h.length) :
    Calls Tryd.prog 44 #[.slice ag g.length cg, .int .i64 (m : Int), .slice ah h.length ch, .int .i64 (n : Int)] w fun e w' => e = .returned (.tuple #[.bool (belB g h m n), .int .i64 0]) ∧ Below w.heap.size w w' := by
  have c1 := checkG_any g ag cg B w hg hga hB
  have C2 := hideK (fun (W : World) (hb : Below w.heap.size w W) => checkG_any h ah ch B W hh (hha.keep (hb.mono hB)) (Nat.le_trans hB hb.size))
  have C3 := hideK (fun (W : World) (hb : Below w.heap.size w W) => firstFailing_any g h ag ah cg ch B m n W hg hh (hga.keep (hb.mono hB)) (hha.keep (hb.mono hB)) (Nat.le_trans hB hb.size) hm hn)
  have HQ := hideK (show belB g h m n = (srB g h m n).1.isNone from rfl)
  have hmz : (m : Int) < (g.length : Int) := by omega
  have hnz : (n : Int) < (h.length : Int) := by omega
  unfold FFPost at C3
  clear hga hha hg hh
  go_enter Tryd.func44, Tryd.ntmps44
  go_wp2_with fail
  refine c1.mono ?_
  rintro e w1 ⟨rfl, hb1⟩
  have c2 := C2.out w1 hb1
  have HB := hideK hb1
  clear c1 C2 hb1
  go_wp2_with fail
  refine c2.mono ?_
  rintro e w2 ⟨rfl, hb2⟩
  have HB2 := hideK (HB.out.trans (hb2.mono HB.out.size))
  have c3 := C3.out w2 HB2.out
  clear c2 C3 hb2
  go_wp2_with fail
  refine c3.mono ?_
  rintro e w3 ⟨hor, hb3⟩
  have HB3 := hideK (HB2.out.trans (hb3.mono HB2.out.size))
  clear c3 hb3
  rcases hor with ⟨arr, hsr, rfl⟩ | ⟨k, arr, hsr, aw, cw, rfl, hla⟩
  · have HSR := hideK hsr
    clear hsr
    go_wp2_with fail
    go_ret2
    exact ⟨by rw [HQ.out, HSR.out]; rfl, HB3.out⟩
  · have HSR := hideK hsr
    clear hsr hla
    go_wp2_with fail
    go_ret2
    exact ⟨by rw [HQ.out, HSR.out]; rfl, HB3.out⟩
end Go.Proofs.YtnlpnbelkkgghaaDoor
/-
  The contracts of comply.hasAll and comply.isBelow.
-/
namespace Go.Proofs.YtnlpnbelkkgghaaDoor
open Go.RowKit Go.Shelf

set_option maxRecDepth 100000 in
set_option maxHeartbeats 2000000 in
/-- the closure of comply.hasAll -/
theorem hasAllC1_any (x : ByteArray) (ns : List ByteArray) (aa : Option Addr) (ca B pb : Nat) (w : World) (h : LA w B ns aa) (hl : ns.length ≤ 1000) (hp : w.cell? ⟨pb, 0, none⟩ = some (.slice aa ns.length ca)) :
    Calls Tryd.prog 164 #[.string x, .pointer (some ⟨pb, 0, none⟩)] w fun e w' => e = .returned (.bool (!hasN ns x)) ∧ w' = w := by
  have c := containsL_any ns x aa ca B w h hl
  generalize hasN ns x = q at *
  clear h
  go_enter Tryd.func164, Tryd.ntmps164
  go_wp2_with fail
  refine c.mono ?_
  rintro e w1 ⟨rfl, rfl⟩
  go_wp2_with fail
  go_ret
  exact ⟨rfl, rfl⟩
set_option maxRecDepth 100000 in
set_option maxHeartbeats 2000000 in
theorem indexHasC_any (ls ns : List ByteArray) (al : Option Addr) (cl : Nat) (aa : Option Addr) (ca B pb : Nat) (w : World) (hL : LA w B ls al) (h : LA w B ns aa) (hl : ls.length ≤ 1000) (hl2 : ns.length ≤ 1000) (hp : w.cell? ⟨pb, 0, none⟩ = some (.slice aa ns.length ca)) :
    Calls Tryd.prog 183 #[.slice al ls.length cl, .func (.func 164) #[] #[.pointer (some ⟨pb, 0, none⟩)]] w fun e w' => (∃ z : Int, e = .returned (.int .i64 z) ∧ (0 ≤ z ∨ z = -1) ∧ (z = -1 ↔ (ls.all fun l => hasN ns l) = true)) ∧ w' = w := by
  have hlz : (ls.length : Int) ≤ 1000 := by omega
  go_enter Tryd.func183, Tryd.ntmps183
  go_wp2_with fail
  go_loopw [8] (fun i wr => ∃ k : Nat, k ≤ ls.length ∧ i = .int .i64 (k : Int) ∧ ((ls.take k).all fun l => hasN ns l) = true ∧ wr = w) (fun i _ => ls.length - (intOf i).toNat)
  case atStart => exact ⟨0, Nat.zero_le _, rfl, rfl, rfl⟩
  case round =>
    obtain ⟨k, hk, rfl, hn, rfl⟩ := hrel
    by_cases hlt : k < ls.length
    · have hltz : (k : Int) < (ls.length : Int) := by omega
      obtain ⟨b, o, rfl, hbl, hc⟩ := hL.resolve_left (fun q => by have := congrArg List.length q; simp at this; rw [this] at hlt; simp at hlt)
      have d0 := hc k (by simpa using hlt)
      rw [List.getElem_map] at d0
      have c := hasAllC1_any ls[k] ns aa ca B pb _ h hl2 hp
      cases hq : hasN ns ls[k] with
      | true =>
        rw [hq] at c
        have HN := hideK (show ((ls.take (k + 1)).all fun l => hasN ns l) = true from by
          rw [List.take_succ_eq_append_getElem hlt, List.all_append, hn]; simp [hq])
        clear hc hn hq h
        generalize ls[k] = y at *
        go_wp2_with fail
        refine c.mono ?_
        rintro e w1 ⟨rfl, rfl⟩
        go_wp2_with fail
        go_roundw
        case rel => exact ⟨k + 1, by omega, by go_num, HN.out, by first | rfl | trivial⟩
        case measure => simp [intOf]; omega
      | false =>
        rw [hq] at c
        have HN := hideK (show ¬ (ls.all fun l => hasN ns l) = true from fun q => by
          rw [List.all_eq_true] at q
          have := q _ (List.getElem_mem hlt)
          rw [hq] at this; cases this)
        clear hc hn hq h
        generalize ls[k] = y at *
        go_wp2_with fail
        refine c.mono ?_
        rintro e w1 ⟨rfl, rfl⟩
        go_wp2_with fail
        go_ret
        exact ⟨⟨_, rfl, .inl (by omega), ⟨fun q => by omega, fun q => absurd q HN.out⟩⟩, rfl⟩
    · have hltz : ¬ (k : Int) < (ls.length : Int) := by omega
      have hkl : k = ls.length := by omega
      subst hkl
      rw [List.take_length] at hn
      have HN := hideK hn
      clear hn
      go_wp2_with fail
      go_ret
      exact ⟨⟨_, rfl, .inr rfl, ⟨fun _ => by first | exact HN.out | exact List.all_eq_true.1 HN.out, fun _ => rfl⟩⟩, rfl⟩
set_option maxRecDepth 100000 in
set_option maxHeartbeats 2000000 in
theorem containsHasC_any (ls ns : List ByteArray) (al : Option Addr) (cl : Nat) (aa : Option Addr) (ca B pb : Nat) (w : World) (hL : LA w B ls al) (h : LA w B ns aa) (hl : ls.length ≤ 1000) (hl2 : ns.length ≤ 1000) (hp : w.cell? ⟨pb, 0, none⟩ = some (.slice aa ns.length ca)) :
    Calls Tryd.prog 162 #[.slice al ls.length cl, .func (.func 164) #[] #[.pointer (some ⟨pb, 0, none⟩)]] w fun e w' => e = .returned (.bool (!(ls.all fun l => hasN ns l))) ∧ w' = w := by
  have c := indexHasC_any ls ns al cl aa ca B pb w hL h hl hl2 hp
  generalize (ls.all fun l => hasN ns l) = q at *
  clear h hL
  go_enter Tryd.func162, Tryd.ntmps162
  go_wp2_with fail
  refine c.mono ?_
  rintro e w1 ⟨⟨z, rfl, hz, hq⟩, rfl⟩
  cases q with
  | true =>
    obtain rfl : z = -1 := hq.2 rfl
    clear hz hq
    go_wp2_with fail
    go_ret
    exact ⟨rfl, rfl⟩
  | false =>
    have hz' : decide (z ≥ 0) = true := by
      rcases hz with hz | hz
      · simpa using hz
      · exact absurd (hq.1 hz) (by simp)
    have hz2 : (0 ≤ z) := by simpa using hz'
    clear hz hq
    go_wp2_with fail
    go_ret
    exact ⟨rfl, rfl⟩
set_option maxRecDepth 100000 in
set_option maxHeartbeats 2000000 in
theorem hasAllC_any (ls ns : List ByteArray) (al : Option Addr) (cl : Nat) (aa : Option Addr) (ca B : Nat) (w : World) (hL : LA w B ls al) (h : LA w B ns aa) (hB : B ≤ w.heap.size) (hl : ls.length ≤ 1000) (hl2 : ns.length ≤ 1000) :
    Calls Tryd.prog 146 #[.slice aa ns.length ca, .slice al ls.length cl] w fun e w' => e = .returned (.bool (ls.all fun l => hasN ns l)) ∧ Below w.heap.size w w' := by
  have hA : Below w.heap.size w (w.alloc (.cells #[.slice aa ns.length ca] 22)) := (Below.refl _ _).alloc (Nat.le_refl _) _
  have c := containsHasC_any ls ns al cl aa ca B w.heap.size (w.alloc (.cells #[.slice aa ns.length ca] 22)) (hL.keep (hA.mono hB)) (h.keep (hA.mono hB)) hl hl2 (by go_cell)
  generalize (ls.all fun l => hasN ns l) = q at *
  have HA := hideK hA
  clear h hL hA
  go_enter Tryd.func146, Tryd.ntmps146
  go_wp2_with fail
  refine c.mono ?_
  rintro e w1 ⟨rfl, rfl⟩
  go_wp2_with fail
  go_ret
  exact ⟨by cases q <;> rfl, HA.out⟩
set_option maxRecDepth 100000 in
set_option maxHeartbeats 2000000 in
theorem isBelow_any (g h : List Nd) (ag ah : Option Addr) (cg ch B m n : Nat) (w : World) (hg : GN g) (hh : GN h) (hga : GAt w B g ag) (hha : GAt w B h ah) (hB : B ≤ w.heap.size) (hm : m < g.length) (hn : n < h.length) :
    Calls Tryd.prog 145 #[.slice ag g.length cg, .int .i64 (m : Int), .slice ah h.length ch, .int .i64 (n : Int)] w fun e w' => e = .returned (.bool (belB g h m n)) ∧ Below w.heap.size w w' := by
  have c := nodes_any g h ag ah cg ch B m n w hg hh hga hha hB hm hn
  generalize belB g h m n = q at *
  clear hga hha hg hh
  go_enter Tryd.func145, Tryd.ntmps145
  go_wp2_with fail
  refine c.mono ?_
  rintro e w1 ⟨rfl, hb1⟩
  have HB := hideK hb1
  clear c hb1
  cases q
  all_goals
    go_wp2_with fail
    go_ret
    exact ⟨rfl, HB.out⟩
end Go.Proofs.YtnlpnbelkkgghaaDoor
