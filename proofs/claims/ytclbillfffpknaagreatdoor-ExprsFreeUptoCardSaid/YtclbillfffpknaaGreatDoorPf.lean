/-
  The contract of exprs.Names, for every expression: its names, each once, in their order.
-/
import Derived.Test.YtclbillfffpknaaGreatDoorPe
import Derived.Test.YtclbillfffpknaaGreatDoorPk
import Derived.Test.YtclbillfffpknaaGreatDoorLic
import Derived.Sort.OwnSorted
import Derived.Sort.Grow
import Derived.Sort.EveryDepth
import Derived.Lib.OwnBridge
namespace Go.Proofs.YtclbillfffpknaaGreatDoor
open Go.RowKit Go.Shelf Go.Sort
variable (Tabs : World → Prop) (B0 : Nat)

theorem sortS_any (blk off cap : Nat) (zs : List (List UInt8)) (w : World) (hH : Holds encStr w blk off zs.toArray) (hblk : blk < w.heap.size) (hsz : zs.length < 4611686018427387904) :
    Calls Tryz.prog 16 #[.slice (some ⟨blk, off, none⟩) zs.length cap] w fun e w' =>
      e = .returned (.tuple #[]) ∧ ∃ n os, w' = grow (putRow encStr (Sort.ahead w n) blk off (zs.mergeSort fun x y => decide (x ≤ y)).toArray) os :=
  Any.slices_Sort_string Tryz.lays190 blk off cap zs w hH hblk hsz
theorem sortS_none (p : Option Addr) (cap : Nat) (w : World) : Calls Tryz.prog 16 #[.slice p 0 cap] w fun e w' => e = .returned (.tuple #[]) ∧ w' = w :=
  Any.slices_Sort_string_none Tryz.lays190 p cap w
theorem compactS_any (blk off cap : Nat) (zs : List (List UInt8)) (w : World) (hH : Holds encStr w blk off zs.toArray) (hsz : zs.length ≤ 9223372036854775807) (hcap : zs.length ≤ cap) :
    Calls Tryz.prog 17 #[.slice (some ⟨blk, off, none⟩) zs.length cap] w fun e w' => e = .returned (.slice (some ⟨blk, off, none⟩) (Lib.compact zs).length cap) ∧ ∃ q, w' = putRow encStr (Sort.ahead w q) blk off (Lib.compact zs ++ List.replicate (zs.length - (Lib.compact zs).length) []).toArray :=
  calls_of_every_depth fun D => AnyS.slices_Compact_string_in Tryz.lays194 D blk off cap zs w hH hsz hcap
theorem compactS_none (a : Option Addr) (cap : Nat) (w : World) : Calls Tryz.prog 17 #[.slice a 0 cap] w fun e w' => e = .returned (.slice a 0 cap) ∧ w' = w :=
  calls_of_every_depth fun D => AnyS.slices_Compact_string_empty_in Tryz.lays194 D a cap w

theorem enc_map (ns : List ByteArray) : ns.map Value.string = (ns.map (·.data.toList)).map encStr := by
  rw [List.map_map]
  refine List.map_congr_left fun s _ => ?_
  simp [encStr]
/-- the end: from what the sort and Compact leave -/
theorem names_left {w w1 : World} {g cap n nn q : Nat} {os : Array Obj} {ss : List (List UInt8)} (hown : w1.ownsRow w.heap.size 9 1 (.slice (some ⟨g, 0, none⟩) n cap) n (ss.map encStr)) (hbel : Below w.heap.size w w1) (hbg : w.heap.size ≤ g) (hlen : ss.length = n) {W : World}
    (hW : W = putRow encStr (Sort.ahead (grow (putRow encStr (Sort.ahead w1 nn) g 0 (ss.mergeSort fun x y => decide (x ≤ y)).toArray) os) q) g 0 (Lib.compact (ss.mergeSort fun x y => decide (x ≤ y)) ++ List.replicate (n - (Lib.compact (ss.mergeSort fun x y => decide (x ≤ y))).length) []).toArray) :
    W.ownsRow w.heap.size 9 1 (.slice (some ⟨g, 0, none⟩) (Lib.compact (ss.mergeSort fun x y => decide (x ≤ y))).length cap) (Lib.compact (ss.mergeSort fun x y => decide (x ≤ y))).length ((Lib.compact (ss.mergeSort fun x y => decide (x ≤ y))).map encStr) ∧ Below w.heap.size w W := by
  have hl2 : (ss.mergeSort fun x y => decide (x ≤ y)).length = ss.length := List.length_mergeSort ss
  have hle := Lib.compact_length_le (ss.mergeSort fun x y => decide (x ≤ y))
  subst hlen
  subst hW
  rcases hown.2 with ⟨h0, _⟩ | ⟨g', cap', cur, hv, hbase, hb, h1, h2, h3, h4⟩
  · cases h0
  cases hv
  have hs := ownsRow_sorted (n := nn) (os := os) (ts := ss.mergeSort fun x y => decide (x ≤ y)) hl2 hbase hb h1 h2 h3
  have hc := Lib.ownsRow_putRow (q := q) (k := (Lib.compact (ss.mergeSort fun x y => decide (x ≤ y))).length) (ys := Lib.compact (ss.mergeSort fun x y => decide (x ≤ y)) ++ List.replicate (ss.length - (Lib.compact (ss.mergeSort fun x y => decide (x ≤ y))).length) []) hs (by simp; omega) (by omega)
  rw [List.take_left] at hc
  exact ⟨hc, Lib.below_putRow (hbel.grown (grownBy_sorted _) hbel.size (fun j hj => by cases hj; exact hbase)) hbg⟩

set_option maxHeartbeats 1000000 in
theorem names_bad (hV : VSaid vD Tabs) (hK : ∀ w w', Tabs w → Below w.heap.size w w' → Tabs w') (hK2 : ∀ B w w', B0 ≤ B → Tabs w → Below B w w' → Tabs w') (hB0 : ∀ w, Tabs w → B0 ≤ w.heap.size)
    (d : Nat) (x : Ex) (ao : Option Addr) (cap : Nat) (w : World) (hbd : ExBd x cap) (hka : KA w w.heap.size d x.kids ao) (hT : Tabs w) (hz : chkX x ≠ 0) :
    Calls Tryz.prog 5 #[exVal x ao cap] w fun e w' => e = .returned (.tuple #[.slice none 0 0, .int .i64 (chkX x)]) ∧ Below w.heap.size w w' := by
  have hA : Below w.heap.size w (w.alloc (.cells #[.int .i64 x.kind, .string x.name, .int .i64 x.so, .int .i64 x.n, .string x.s, .slice ao x.kids.length cap] 26)) := (Below.refl _ _).alloc (Nat.le_refl _) _
  have cK := chk_any Tabs B0 hV hK hK2 hB0 d x ao cap _ hbd ((hka.keep hA).mono hA.size) (hK _ _ hT hA)
  simp only [exVal] at cK ⊢
  generalize chkX x = z at cK hz ⊢
  have hzb : (z != 0) = true := by simpa using hz
  clear hV hK hK2 hB0 hka hT hbd
  go_enter Tryz.func5, Tryz.ntmps5
  go_wp2_with fail
  refine cK.mono ?_
  rintro e w1 ⟨rfl, hb1⟩
  have hb := hA.trans (hb1.mono hA.size)
  clear cK hz hb1
  go_wp2_with fail
  go_ret2
  exact ⟨rfl, hb⟩

set_option maxHeartbeats 1000000 in
theorem names_good (hV : VSaid vD Tabs) (hK : ∀ w w', Tabs w → Below w.heap.size w w' → Tabs w') (hK2 : ∀ B w w', B0 ≤ B → Tabs w → Below B w w' → Tabs w') (hB0 : ∀ w, Tabs w → B0 ≤ w.heap.size)
    (d : Nat) (x : Ex) (ao : Option Addr) (cap : Nat) (w : World) (hbd : ExBd x cap) (hka : KA w w.heap.size d x.kids ao) (hT : Tabs w) (hz : chkX x = 0) :
    Calls Tryz.prog 5 #[exVal x ao cap] w fun e w' => ∃ v, e = .returned (.tuple #[v, .int .i64 0]) ∧ w'.ownsRow w.heap.size 9 1 v (srtN (nmsX x)).length ((srtN (nmsX x)).map encStr) ∧ Below w.heap.size w w' := by
  have hA : Below w.heap.size w (w.alloc (.cells #[.int .i64 x.kind, .string x.name, .int .i64 x.so, .int .i64 x.n, .string x.s, .slice ao x.kids.length cap] 26)) := (Below.refl _ _).alloc (Nat.le_refl _) _
  have hE : ExAt (w.alloc (.cells #[.int .i64 x.kind, .string x.name, .int .i64 x.so, .int .i64 x.n, .string x.s, .slice ao x.kids.length cap] 26)) w.heap.size 0 x ao cap := ⟨by go_cell, by go_cell, by go_cell, by go_cell, by go_cell, by go_cell⟩
  have hlA : w.heap.size < (w.alloc (.cells #[.int .i64 x.kind, .string x.name, .int .i64 x.so, .int .i64 x.n, .string x.s, .slice ao x.kids.length cap] 26)).heap.size := by simp
  have cK := chk_any Tabs B0 hV hK hK2 hB0 d x ao cap _ hbd ((hka.keep hA).mono hA.size) (hK _ _ hT hA)
  rw [hz] at cK
  obtain ⟨hwf, h60⟩ := (chkX_iff x).1 hz
  have cN := fun W (hb : Below w.heap.size w W) => namesIn_any d x ao cap w.heap.size W hwf h60 hbd (hka.keep hb) hb.size
  have hnl : (nmsX x).length ≤ 60 := Nat.le_trans (nms_len x) h60
  simp only [exVal] at cK cN ⊢
  generalize nmsX x = ns at cN hnl ⊢
  have CN := hide cN
  clear hV hK hK2 hB0 hka hT hbd cN hz hwf h60
  go_enter Tryz.func5, Tryz.ntmps5
  go_wp2_with fail
  refine cK.mono ?_
  rintro e w1 ⟨rfl, hb1⟩
  have hb := hA.trans (hb1.mono hA.size)
  have C := CN.out w1 hb
  obtain ⟨y0, y1, y2, y3, y4, y5⟩ := hE.keep hb1 hlA
  simp only [Nat.zero_add] at y0 y1 y2 y3 y4 y5
  clear cK hA hE CN hb1
  go_wp2_with fail
  refine C.mono ?_
  rintro e w2 ⟨v, rfl, hO, hb2⟩
  have hbw := hb.trans (hb2.mono hb.size)
  rw [enc_map] at hO
  have hln : (ns.map (·.data.toList)).length = ns.length := by simp
  clear C y0 y1 y2 y3 y4 y5
  by_cases hv : v = .slice none 0 0
  · subst hv
    have h0 : ns = [] := by
      have := hO.2
      rcases this with ⟨_, h⟩ | ⟨g, c, cur, h, _⟩
      · exact List.eq_nil_of_length_eq_zero h
      · cases h
    subst h0
    have c1 := sortS_none none 0 w2
    have c2 := compactS_none none 0 w2
    clear hO hln hnl
    go_wp2_with fail
    refine c1.mono ?_
    rintro e w3 ⟨rfl, rfl⟩
    go_wp2_with fail
    refine c2.mono ?_
    rintro e w4 ⟨rfl, rfl⟩
    go_wp2_with fail
    go_ret2
    refine ⟨_, rfl, ?_, hbw⟩
    rw [srtN_nil]
    exact World.ownsRow_nil _ _ _ _
  · obtain ⟨g, cp, rfl, hbg, hgl, hncap, hcm, hlen, hH⟩ := Lib.holds_of_ownsRow hO hv
    have hbg' : w.heap.size ≤ g := Nat.le_trans hb.size hbg
    have hO' := own_mono hO hb.size
    have c1 := sortS_any g 0 cp (ns.map (·.data.toList)) w2 hH hgl (by omega)
    rw [hln] at c1
    have HO := hide hO'
    have HH := hide hH
    have hsr : srtN ns = Lib.compact ((ns.map (·.data.toList)).mergeSort fun x y => decide (x ≤ y)) := rfl
    obtain ⟨ss, hss⟩ : ∃ ss, ss = ns.map (·.data.toList) := ⟨_, rfl⟩
    rw [← hss] at hln hlen c1 HO HH hsr
    have HS := hide hsr
    clear hO hO' hH hv hss hsr
    go_wp2_with fail
    refine c1.mono ?_
    rintro e w3 ⟨rfl, nn, os, hw3⟩
    have hl2 : (ss.mergeSort fun x y => decide (x ≤ y)).length = ns.length := by rw [List.length_mergeSort]; exact hln
    have hH2 : Holds encStr w3 g 0 (ss.mergeSort fun x y => decide (x ≤ y)).toArray := by
      rw [hw3]
      exact holds_grow encStr _ os g 0 _ (by simpa [putRow, mapBlock, Sort.ahead] using hgl) (holds_putRow encStr _ g 0 _ _ (holds_ahead encStr w2 nn g 0 _ HH.out) (by simp))
    have c2 := compactS_any g 0 cp (ss.mergeSort fun x y => decide (x ≤ y)) w3 hH2 (by omega) (by omega)
    rw [hl2] at c2
    have HW := hide hw3
    clear c1 hH2 hw3
    go_wp2_with fail
    refine c2.mono ?_
    rintro e w4 ⟨rfl, q, hw4⟩
    have hend := names_left (q := q) (nn := nn) (os := os) HO.out hbw hbg' hln (W := w4) (by rw [hw4, HW.out])
    have HE := hide hend
    clear c2 hw4 hend
    go_wp2_with fail
    go_ret2
    refine ⟨_, rfl, ?_⟩
    rw [HS.out]
    exact HE.out
end Go.Proofs.YtclbillfffpknaaGreatDoor
