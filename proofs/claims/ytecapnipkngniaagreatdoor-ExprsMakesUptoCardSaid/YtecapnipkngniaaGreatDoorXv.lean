/-
  duetref.Placed of a part with no Kids.
-/
import Derived.Test.YtecapnipkngniaaGreatDoorCz
import Derived.Test.YtecapnipkngniaaGreatDoorPb
import Derived.Test.YtecapnipkngniaaGreatDoorDa
import Derived.Lib.SlicesCompact
import Derived.Lib.RowBridge
import Derived.Sort.EncStr
import Derived.Test.YtecapnipkngniaaGreatDoorPe
import Derived.Test.YtecapnipkngniaaGreatDoorRb
import Derived.Sort.OwnSorted
import Derived.Sort.Grow
import Derived.Sort.EveryDepth
import Derived.Lib.OwnBridge
namespace Go.Proofs.YtecapnipkngniaaGreatDoor
open Go.RowKit Go.Shelf

set_option maxRecDepth 100000 in
set_option maxHeartbeats 1000000 in
theorem placed_lit (nm : ByteArray) (v : Vl) (so n : Int) (s : ByteArray) (ao : Option Addr) (cap : Nat) (w : World) :
    Calls Tryz.prog 9 #[exVal ⟨2, nm, so, n, s, []⟩ ao cap, .string nm, vlV v] w fun e w' => e = .returned (exVal (Ex.lit v) none 0) ∧ Below w.heap.size w w' := by
  simp only [exVal, vlV, Ex.lit, List.length_nil]
  go_enter Tryz.func9, Tryz.ntmps9
  go_wp2_with fail
  refine bodyPost_ret (v := .agg #[.int .i64 1, .string ⟨#[]⟩, .int .i64 v.so, .int .i64 v.n, .string v.s, .slice none 0 0]) (by simp [results, Tryz.results9, go_sem]) rfl ⟨rfl, ?_⟩
  go_grown
set_option maxRecDepth 100000 in
set_option maxHeartbeats 2000000 in
theorem placed_none (nm : ByteArray) (v : Vl) (kd : Int) (nx : ByteArray) (so n : Int) (s : ByteArray) (ao : Option Addr) (cap : Nat) (w : World) (h : ¬ (kd = 2 ∧ nx = nm)) :
    Calls Tryz.prog 9 #[exVal ⟨kd, nx, so, n, s, []⟩ ao cap, .string nm, vlV v] w fun e w' => e = .returned (exVal ⟨kd, nx, so, n, s, []⟩ none 0) ∧ Below w.heap.size w w' := by
  simp only [exVal, vlV, List.length_nil]
  by_cases hk : kd = 2
  · have hb : (nx.toList == nm.toList) = false := by rw [ba_beq]; simpa using fun e => h ⟨hk, e⟩
    subst hk
    clear h
    go_enter Tryz.func9, Tryz.ntmps9
    go_wp2_with fail
    go_loopw [8] (fun i wr => i = .int .i64 0 ∧ wr = ((((w.alloc (.cells #[.int .i64 2, .string nx, .int .i64 so, .int .i64 n, .string s, .slice ao 0 cap] 26)).alloc (.cells #[.int .i64 v.so, .int .i64 v.n, .string v.s] 23)).alloc (.cells #[.int .i64 0, .string ⟨#[]⟩, .int .i64 0, .int .i64 0, .string ⟨#[]⟩, .slice none 0 0] 26)).alloc (.cells #[.int .i64 2, .string nx, .int .i64 so, .int .i64 n, .string s, .slice none 0 0] 26))) (fun _ _ => 0)
    case atStart => exact ⟨rfl, rfl⟩
    case round =>
      obtain ⟨rfl, rfl⟩ := hrel
      go_wp2_with fail
      refine bodyPost_ret (v := .agg #[.int .i64 2, .string nx, .int .i64 so, .int .i64 n, .string s, .slice none 0 0]) (by simp [results, Tryz.results9, go_sem]) rfl ⟨rfl, ?_⟩
      go_grown
  · have hb : (kd == 2) = false := by simpa using hk
    clear h hk
    go_enter Tryz.func9, Tryz.ntmps9
    go_wp2_with fail
    go_loopw [8] (fun i wr => i = .int .i64 0 ∧ wr = ((((w.alloc (.cells #[.int .i64 kd, .string nx, .int .i64 so, .int .i64 n, .string s, .slice ao 0 cap] 26)).alloc (.cells #[.int .i64 v.so, .int .i64 v.n, .string v.s] 23)).alloc (.cells #[.int .i64 0, .string ⟨#[]⟩, .int .i64 0, .int .i64 0, .string ⟨#[]⟩, .slice none 0 0] 26)).alloc (.cells #[.int .i64 kd, .string nx, .int .i64 so, .int .i64 n, .string s, .slice none 0 0] 26))) (fun _ _ => 0)
    case atStart => exact ⟨rfl, rfl⟩
    case round =>
      obtain ⟨rfl, rfl⟩ := hrel
      go_wp2_with fail
      refine bodyPost_ret (v := .agg #[.int .i64 kd, .string nx, .int .i64 so, .int .i64 n, .string s, .slice none 0 0]) (by simp [results, Tryz.results9, go_sem]) rfl ⟨rfl, ?_⟩
      go_grown
end Go.Proofs.YtecapnipkngniaaGreatDoor
/-
  The contract of duetref.Placed, for every right expression.
-/
namespace Go.Proofs.YtecapnipkngniaaGreatDoor
open Go.RowKit Go.Shelf

theorem placed_all (nm : ByteArray) (v : Vl) (hs : v.s.size ≤ 9223372036854775807) (hv : in64 v.n) (d : Nat) : PLSaid nm v d := by
  induction d using Nat.strongRecOn with
  | _ d ih =>
    intro x ao cap B w hw hbd hka hB
    have none_case : x.kids = [] → ¬ (x.kind = 2 ∧ x.name = nm) → Calls Tryz.prog 9 #[exVal x ao cap, .string nm, vlV v] w fun e w' => (∃ ao' cap', e = .returned (exVal (putX nm v x) ao' cap') ∧ KR w' (fun b => w.heap.size ≤ b ∧ b < w'.heap.size) d (putX nm v x).kids ao' ∧ ExBd (putX nm v x) cap') ∧ Below w.heap.size w w' := by
      intro hk hn
      obtain ⟨kd, nx, so, n, s, ks⟩ := x
      simp only at hk hn
      subst hk
      have e : putX nm v ⟨kd, nx, so, n, s, []⟩ = ⟨kd, nx, so, n, s, []⟩ := by rw [putX_eq]; unfold putN; rw [if_neg hn]; rfl
      rw [e]
      exact (placed_none nm v kd nx so n s ao cap w hn).mono fun e w' ⟨h1, h2⟩ => ⟨⟨none, 0, h1, KR.of_nil rfl, hbd.name, hbd.s, hbd.n0, hbd.n1, Nat.le_refl _, by decide⟩, h2⟩
    rcases wf_cases x hw with ⟨h, hk, _⟩ | ⟨h, hk, _⟩ | ⟨h, a, hk, _, _⟩ | ⟨h, a, a2, hk, _, _, _⟩
    · exact none_case hk (fun c => by have := c.1; omega)
    · by_cases hn : x.name = nm
      · obtain ⟨kd, nx, so, n, s, ks⟩ := x
        simp only at h hk hn
        subst h hk hn
        have e : putX nx v ⟨2, nx, so, n, s, []⟩ = Ex.lit v := by rw [putX_eq]; unfold putN; rw [if_pos ⟨rfl, rfl⟩]
        rw [e]
        exact (placed_lit nx v so n s ao cap w).mono fun e w' ⟨h1, h2⟩ => ⟨⟨none, 0, h1, KR.of_nil rfl, (show (⟨#[]⟩ : ByteArray).size ≤ 9223372036854775807 by decide), hs, hv.1, hv.2, Nat.le_refl _, by decide⟩, h2⟩
      · exact none_case hk (fun c => hn c.2)
    · exact placed_kids nm v d ih x ao cap B w hw hbd hka hB h (by rw [hk]; simp) (by rw [hk]; simp)
    · exact placed_kids nm v d ih x ao cap B w hw hbd hka hB h (by rw [hk]; simp) (by rw [hk]; simp)
end Go.Proofs.YtecapnipkngniaaGreatDoor

/-
  Plain: a list of texts sorted and compacted holds the same texts, for every list.
-/
namespace Go.Proofs.YtecapnipkngniaaGreatDoor

theorem mem_upTo {α : Type} [Inhabited α] [DecidableEq α] (d : Array α) (x : α) : ∀ m, x ∈ Lib.compactUpTo d m ↔ ∃ j, j < m ∧ d[j]! = x
  | 0 => by simp [Lib.compactUpTo]
  | m + 1 => by
    rw [Lib.compactUpTo_succ, List.mem_append, mem_upTo d x m]
    constructor
    · rintro (⟨j, hj, e⟩ | h)
      · exact ⟨j, by omega, e⟩
      · split at h
        · simp only [List.mem_singleton] at h; exact ⟨m, by omega, h.symm⟩
        · cases h
    · rintro ⟨j, hj, e⟩
      by_cases h : j < m
      · exact .inl ⟨j, h, e⟩
      · have hm : j = m := by omega
        subst hm
        by_cases hk : Lib.keeps d j = true
        · right; rw [if_pos hk, e]; exact .head _
        · left
          have h0 : ¬ (j = 0 ∨ d[j]! ≠ d[j - 1]!) := fun hh => hk (by unfold Lib.keeps; exact decide_eq_true hh)
          refine ⟨j - 1, by omega, ?_⟩
          rw [← e]
          exact (Decidable.not_not.1 fun hh => h0 (.inr hh)).symm
theorem mem_compact {α : Type} [Inhabited α] [DecidableEq α] (zs : List α) (x : α) : x ∈ Lib.compact zs ↔ x ∈ zs := by
  unfold Lib.compact
  rw [mem_upTo]
  constructor
  · rintro ⟨j, hj, rfl⟩
    simp [getElem!_pos, hj]
  · intro h
    obtain ⟨j, hj, rfl⟩ := List.mem_iff_getElem.1 h
    exact ⟨j, hj, by simp [getElem!_pos, hj]⟩
/-- the names, each once, in their order -/
def srtN (ns : List ByteArray) : List (List UInt8) := Lib.compact ((ns.map (·.data.toList)).mergeSort fun x y => decide (x ≤ y))
theorem mem_srtN (ns : List ByteArray) (x : ByteArray) : x.data.toList ∈ srtN ns ↔ x ∈ ns := by
  unfold srtN
  rw [mem_compact, (List.mergeSort_perm _ _).mem_iff, List.mem_map]
  constructor
  · rintro ⟨y, hy, e⟩
    have : y = x := by
      cases y; cases x
      simp only [ByteArray.mk.injEq] at *
      exact Array.ext' e
    exact this ▸ hy
  · intro h; exact ⟨x, h, rfl⟩
theorem srtN_len (ns : List ByteArray) : (srtN ns).length ≤ ns.length := by
  have := Lib.compact_length_le ((ns.map (·.data.toList)).mergeSort fun x y => decide (x ≤ y))
  unfold srtN
  rw [List.length_mergeSort, List.length_map] at this
  exact this
theorem srtN_one (x : ByteArray) : srtN [x] = [x.data.toList] := by
  unfold srtN
  rw [List.map_cons, List.map_nil, List.mergeSort_singleton]
  exact Lib.compact_all _ fun j hj => Lib.keeps_lt_one _ j (by simpa using hj)
theorem srtN_nil : srtN [] = [] := List.eq_nil_of_length_eq_zero (Nat.le_zero.1 (srtN_len []))
end Go.Proofs.YtecapnipkngniaaGreatDoor

/-
  The contract of exprs.Names, for every expression: its names, each once, in their order.
-/
namespace Go.Proofs.YtecapnipkngniaaGreatDoor
open Go.RowKit Go.Shelf Go.Sort
variable (Tabs : World → Prop) (B0 : Nat)

theorem sortS_any (blk off cap : Nat) (zs : List (List UInt8)) (w : World) (hH : Holds encStr w blk off zs.toArray) (hblk : blk < w.heap.size) (hsz : zs.length < 4611686018427387904) :
    Calls Tryz.prog 27 #[.slice (some ⟨blk, off, none⟩) zs.length cap] w fun e w' =>
      e = .returned (.tuple #[]) ∧ ∃ n os, w' = grow (putRow encStr (Sort.ahead w n) blk off (zs.mergeSort fun x y => decide (x ≤ y)).toArray) os :=
  Any.slices_Sort_string Tryz.lays190 blk off cap zs w hH hblk hsz
theorem sortS_none (p : Option Addr) (cap : Nat) (w : World) : Calls Tryz.prog 27 #[.slice p 0 cap] w fun e w' => e = .returned (.tuple #[]) ∧ w' = w :=
  Any.slices_Sort_string_none Tryz.lays190 p cap w
theorem compactS_any (blk off cap : Nat) (zs : List (List UInt8)) (w : World) (hH : Holds encStr w blk off zs.toArray) (hsz : zs.length ≤ 9223372036854775807) (hcap : zs.length ≤ cap) :
    Calls Tryz.prog 33 #[.slice (some ⟨blk, off, none⟩) zs.length cap] w fun e w' => e = .returned (.slice (some ⟨blk, off, none⟩) (Lib.compact zs).length cap) ∧ ∃ q, w' = putRow encStr (Sort.ahead w q) blk off (Lib.compact zs ++ List.replicate (zs.length - (Lib.compact zs).length) []).toArray :=
  calls_of_every_depth fun D => AnyS.slices_Compact_string_in Tryz.lays194 D blk off cap zs w hH hsz hcap
theorem compactS_none (a : Option Addr) (cap : Nat) (w : World) : Calls Tryz.prog 33 #[.slice a 0 cap] w fun e w' => e = .returned (.slice a 0 cap) ∧ w' = w :=
  calls_of_every_depth fun D => AnyS.slices_Compact_string_empty_in Tryz.lays194 D a cap w

theorem enc_map (ns : List ByteArray) : ns.map Value.string = (ns.map (·.data.toList)).map encStr := by
  rw [List.map_map]
  refine List.map_congr_left fun s _ => ?_
  simp [encStr]
/-- the end: from what the sort and Compact leave -/
theorem names_left {w w1 : World} {g cap n nn q : Nat} {os : Array Obj} {ss : List (List UInt8)} (hown : w1.ownsRow w.heap.size 9 1 (.slice (some ⟨g, 0, none⟩) n cap) n (ss.map encStr)) (hbel : Below w.heap.size w w1) (hbg : w.heap.size ≤ g) (hlen : ss.length = n) {W : World}
    (hW : W = putRow encStr (Sort.ahead (grow (putRow encStr (Sort.ahead w1 nn) g 0 (ss.mergeSort fun x y => decide (x ≤ y)).toArray) os) q) g 0 (Lib.compact (ss.mergeSort fun x y => decide (x ≤ y)) ++ List.replicate (n - (Lib.compact (ss.mergeSort fun x y => decide (x ≤ y))).length) []).toArray) :
    W.ownsRow w.heap.size 9 1 (.slice (some ⟨g, 0, none⟩) (Lib.compact (ss.mergeSort fun x y => decide (x ≤ y))).length cap) (Lib.compact (ss.mergeSort fun x y => decide (x ≤ y))).length ((Lib.compact (ss.mergeSort fun x y => decide (x ≤ y))).map encStr) ∧ Below w.heap.size w W := by
  have hl2 : (ss.mergeSort fun x y => decide (x ≤ y)).length = ss.length := List.length_mergeSort ss
  have hle := Lib.compact_length_le (ss.mergeSort fun x y => decide (x ≤ y))
  subst hlen
  subst hW
  rcases hown.2 with ⟨h0, _⟩ | ⟨g', cap', cur, hv, hbase, hb, h1, h2, h3, h4⟩
  · cases h0
  cases hv
  have hs := ownsRow_sorted (n := nn) (os := os) (ts := ss.mergeSort fun x y => decide (x ≤ y)) hl2 hbase hb h1 h2 h3
  have hc := Lib.ownsRow_putRow (q := q) (k := (Lib.compact (ss.mergeSort fun x y => decide (x ≤ y))).length) (ys := Lib.compact (ss.mergeSort fun x y => decide (x ≤ y)) ++ List.replicate (ss.length - (Lib.compact (ss.mergeSort fun x y => decide (x ≤ y))).length) []) hs (by simp; omega) (by omega)
  rw [List.take_left] at hc
  exact ⟨hc, Lib.below_putRow (hbel.grown (grownBy_sorted _) hbel.size (fun j hj => by cases hj; exact hbase)) hbg⟩

set_option maxHeartbeats 1000000 in
theorem names_bad (hV : VSaid vD Tabs) (hK : ∀ w w', Tabs w → Below w.heap.size w w' → Tabs w') (hK2 : ∀ B w w', B0 ≤ B → Tabs w → Below B w w' → Tabs w') (hB0 : ∀ w, Tabs w → B0 ≤ w.heap.size)
    (d : Nat) (x : Ex) (ao : Option Addr) (cap : Nat) (w : World) (hbd : ExBd x cap) (hka : KA w w.heap.size d x.kids ao) (hT : Tabs w) (hz : chkX x ≠ 0) :
    Calls Tryz.prog 13 #[exVal x ao cap] w fun e w' => e = .returned (.tuple #[.slice none 0 0, .int .i64 (chkX x)]) ∧ Below w.heap.size w w' := by
  have hA : Below w.heap.size w (w.alloc (.cells #[.int .i64 x.kind, .string x.name, .int .i64 x.so, .int .i64 x.n, .string x.s, .slice ao x.kids.length cap] 26)) := (Below.refl _ _).alloc (Nat.le_refl _) _
  have cK := chk_any Tabs B0 hV hK hK2 hB0 d x ao cap _ hbd ((hka.keep hA).mono hA.size) (hK _ _ hT hA)
  simp only [exVal] at cK ⊢
  generalize chkX x = z at cK hz ⊢
  have hzb : (z != 0) = true := by simpa using hz
  clear hV hK hK2 hB0 hka hT hbd
  go_enter Tryz.func13, Tryz.ntmps13
  go_wp2_with fail
  refine cK.mono ?_
  rintro e w1 ⟨rfl, hb1⟩
  have hb := hA.trans (hb1.mono hA.size)
  clear cK hz hb1
  go_wp2_with fail
  go_ret2
  exact ⟨rfl, hb⟩

set_option maxHeartbeats 1000000 in
theorem names_good (hV : VSaid vD Tabs) (hK : ∀ w w', Tabs w → Below w.heap.size w w' → Tabs w') (hK2 : ∀ B w w', B0 ≤ B → Tabs w → Below B w w' → Tabs w') (hB0 : ∀ w, Tabs w → B0 ≤ w.heap.size)
    (d : Nat) (x : Ex) (ao : Option Addr) (cap : Nat) (w : World) (hbd : ExBd x cap) (hka : KA w w.heap.size d x.kids ao) (hT : Tabs w) (hz : chkX x = 0) :
    Calls Tryz.prog 13 #[exVal x ao cap] w fun e w' => ∃ v, e = .returned (.tuple #[v, .int .i64 0]) ∧ w'.ownsRow w.heap.size 9 1 v (srtN (nmsX x)).length ((srtN (nmsX x)).map encStr) ∧ Below w.heap.size w w' := by
  have hA : Below w.heap.size w (w.alloc (.cells #[.int .i64 x.kind, .string x.name, .int .i64 x.so, .int .i64 x.n, .string x.s, .slice ao x.kids.length cap] 26)) := (Below.refl _ _).alloc (Nat.le_refl _) _
  have hE : ExAt (w.alloc (.cells #[.int .i64 x.kind, .string x.name, .int .i64 x.so, .int .i64 x.n, .string x.s, .slice ao x.kids.length cap] 26)) w.heap.size 0 x ao cap := ⟨by go_cell, by go_cell, by go_cell, by go_cell, by go_cell, by go_cell⟩
  have hlA : w.heap.size < (w.alloc (.cells #[.int .i64 x.kind, .string x.name, .int .i64 x.so, .int .i64 x.n, .string x.s, .slice ao x.kids.length cap] 26)).heap.size := by simp
  have cK := chk_any Tabs B0 hV hK hK2 hB0 d x ao cap _ hbd ((hka.keep hA).mono hA.size) (hK _ _ hT hA)
  rw [hz] at cK
  obtain ⟨hwf, h60⟩ := (chkX_iff x).1 hz
  have cN := fun W (hb : Below w.heap.size w W) => namesIn_any d x ao cap w.heap.size W hwf h60 hbd (hka.keep hb) hb.size
  have hnl : (nmsX x).length ≤ 60 := Nat.le_trans (nms_len x) h60
  simp only [exVal] at cK cN ⊢
  generalize nmsX x = ns at cN hnl ⊢
  have CN := hide cN
  clear hV hK hK2 hB0 hka hT hbd cN hz hwf h60
  go_enter Tryz.func13, Tryz.ntmps13
  go_wp2_with fail
  refine cK.mono ?_
  rintro e w1 ⟨rfl, hb1⟩
  have hb := hA.trans (hb1.mono hA.size)
  have C := CN.out w1 hb
  obtain ⟨y0, y1, y2, y3, y4, y5⟩ := hE.keep hb1 hlA
  simp only [Nat.zero_add] at y0 y1 y2 y3 y4 y5
  clear cK hA hE CN hb1
  go_wp2_with fail
  refine C.mono ?_
  rintro e w2 ⟨v, rfl, hO, hb2⟩
  have hbw := hb.trans (hb2.mono hb.size)
  rw [enc_map] at hO
  have hln : (ns.map (·.data.toList)).length = ns.length := by simp
  clear C y0 y1 y2 y3 y4 y5
  by_cases hv : v = .slice none 0 0
  · subst hv
    have h0 : ns = [] := by
      have := hO.2
      rcases this with ⟨_, h⟩ | ⟨g, c, cur, h, _⟩
      · exact List.eq_nil_of_length_eq_zero h
      · cases h
    subst h0
    have c1 := sortS_none none 0 w2
    have c2 := compactS_none none 0 w2
    clear hO hln hnl
    go_wp2_with fail
    refine c1.mono ?_
    rintro e w3 ⟨rfl, rfl⟩
    go_wp2_with fail
    refine c2.mono ?_
    rintro e w4 ⟨rfl, rfl⟩
    go_wp2_with fail
    go_ret2
    refine ⟨_, rfl, ?_, hbw⟩
    rw [srtN_nil]
    exact World.ownsRow_nil _ _ _ _
  · obtain ⟨g, cp, rfl, hbg, hgl, hncap, hcm, hlen, hH⟩ := Lib.holds_of_ownsRow hO hv
    have hbg' : w.heap.size ≤ g := Nat.le_trans hb.size hbg
    have hO' := own_mono hO hb.size
    have c1 := sortS_any g 0 cp (ns.map (·.data.toList)) w2 hH hgl (by omega)
    rw [hln] at c1
    have HO := hide hO'
    have HH := hide hH
    have hsr : srtN ns = Lib.compact ((ns.map (·.data.toList)).mergeSort fun x y => decide (x ≤ y)) := rfl
    obtain ⟨ss, hss⟩ : ∃ ss, ss = ns.map (·.data.toList) := ⟨_, rfl⟩
    rw [← hss] at hln hlen c1 HO HH hsr
    have HS := hide hsr
    clear hO hO' hH hv hss hsr
    go_wp2_with fail
    refine c1.mono ?_
    rintro e w3 ⟨rfl, nn, os, hw3⟩
    have hl2 : (ss.mergeSort fun x y => decide (x ≤ y)).length = ns.length := by rw [List.length_mergeSort]; exact hln
    have hH2 : Holds encStr w3 g 0 (ss.mergeSort fun x y => decide (x ≤ y)).toArray := by
      rw [hw3]
      exact holds_grow encStr _ os g 0 _ (by simpa [putRow, mapBlock, Sort.ahead] using hgl) (holds_putRow encStr _ g 0 _ _ (holds_ahead encStr w2 nn g 0 _ HH.out) (by simp))
    have c2 := compactS_any g 0 cp (ss.mergeSort fun x y => decide (x ≤ y)) w3 hH2 (by omega) (by omega)
    rw [hl2] at c2
    have HW := hide hw3
    clear c1 hH2 hw3
    go_wp2_with fail
    refine c2.mono ?_
    rintro e w4 ⟨rfl, q, hw4⟩
    have hend := names_left (q := q) (nn := nn) (os := os) HO.out hbw hbg' hln (W := w4) (by rw [hw4, HW.out])
    have HE := hide hend
    clear c2 hw4 hend
    go_wp2_with fail
    go_ret2
    refine ⟨_, rfl, ?_⟩
    rw [HS.out]
    exact HE.out
end Go.Proofs.YtecapnipkngniaaGreatDoor

/-
  Plain: a row in order with none twice is told by what is in it.
-/
namespace Go.Proofs.YtecapnipkngniaaGreatDoor

theorem srt_unique : ∀ (a b : List (List UInt8)), a.Pairwise (· < ·) → b.Pairwise (· < ·) → (∀ x, x ∈ a ↔ x ∈ b) → a = b
  | [], [], _, _, _ => rfl
  | [], y :: b, _, _, h => by have := (h y).2 (.head _); cases this
  | x :: a, [], _, _, h => by have := (h x).1 (.head _); cases this
  | x :: a, y :: b, ha, hb, h => by
    obtain ⟨ha1, ha2⟩ := List.pairwise_cons.1 ha
    obtain ⟨hb1, hb2⟩ := List.pairwise_cons.1 hb
    have irr : ∀ l : List UInt8, ¬ l < l := fun l => List.lt_irrefl l
    have hxy : x = y := by
      rcases List.mem_cons.1 ((h x).1 (.head _)) with e | e
      · exact e
      · rcases List.mem_cons.1 ((h y).2 (.head _)) with e2 | e2
        · exact e2.symm
        · exact absurd (List.lt_trans (ha1 y e2) (hb1 x e)) (irr x)
    subst hxy
    rw [srt_unique a b ha2 hb2 (fun z => ⟨fun hz => ?_, fun hz => ?_⟩)]
    · rcases List.mem_cons.1 ((h z).1 (.tail _ hz)) with e | e
      · subst e; exact absurd (ha1 z hz) (irr z)
      · exact e
    · rcases List.mem_cons.1 ((h z).2 (.tail _ hz)) with e | e
      · subst e; exact absurd (hb1 z hz) (irr z)
      · exact e
theorem le_lt {a b c : List UInt8} (h1 : a ≤ b) (h2 : b < c) : a < c := by
  apply Classical.byContradiction
  intro h
  exact (List.not_lt.2 (List.le_trans (List.not_lt.1 h) h1)) h2
theorem ne_lt {a b : List UInt8} (h1 : a ≤ b) (h2 : b ≠ a) : a < b := by
  apply Classical.byContradiction
  intro h
  exact h2 (List.le_antisymm (List.not_lt.1 h) h1)
theorem upTo_lt (d : Array (List UInt8)) : ∀ m, (∀ i j, i ≤ j → j < m → d[i]! ≤ d[j]!) → (Lib.compactUpTo d m).Pairwise (· < ·)
  | 0, _ => by simp [Lib.compactUpTo]
  | m + 1, h => by
    rw [Lib.compactUpTo_succ, List.pairwise_append]
    refine ⟨upTo_lt d m (fun i j hi hj => h i j hi (by omega)), by split <;> simp, ?_⟩
    intro x hx y hy
    split at hy
    · rename_i hk
      rw [List.mem_singleton] at hy
      subst hy
      obtain ⟨j, hj, rfl⟩ := (mem_upTo d x m).1 hx
      have h0 : m = 0 ∨ d[m]! ≠ d[m - 1]! := by unfold Lib.keeps at hk; exact of_decide_eq_true hk
      have hne := h0.resolve_left (by omega)
      exact le_lt (h j (m - 1) (by omega) (by omega)) (ne_lt (h (m - 1) m (by omega) (by omega)) hne)
    · cases hy
theorem srtN_lt (ns : List ByteArray) : (srtN ns).Pairwise (· < ·) := by
  unfold srtN Lib.compact
  apply upTo_lt
  have hp := List.pairwise_mergeSort (le := fun x y : List UInt8 => decide (x ≤ y)) (fun a b c h1 h2 => by simpa using List.le_trans (by simpa using h1) (by simpa using h2)) (fun a b => by simpa using List.le_total a b) (ns.map (·.data.toList))
  generalize (ns.map (·.data.toList)).mergeSort (fun x y => decide (x ≤ y)) = l at *
  intro i j hij hj
  have hi : i < l.length := by omega
  rw [List.getElem!_toArray, List.getElem!_toArray, getElem!_pos l i hi, getElem!_pos l j hj]
  rcases Nat.lt_or_ge i j with hl | hl
  · have := List.pairwise_iff_getElem.1 hp i j hi hj hl
    simpa using this
  · have : i = j := by omega
    subst this
    exact List.le_refl _
/-- sorted, none twice, and just the names: it is what Names answers -/
theorem srtN_is (ns : List ByteArray) (l : List (List UInt8)) (hl : l.Pairwise (· < ·)) (h : ∀ x, x ∈ l ↔ ∃ n ∈ ns, n.data.toList = x) : l = srtN ns := by
  refine srt_unique l (srtN ns) hl (srtN_lt ns) (fun x => ?_)
  rw [h]
  constructor
  · rintro ⟨n, hn, rfl⟩; exact (mem_srtN ns n).2 hn
  · intro hx
    have := (mem_srtN ns ⟨x.toArray⟩).1 (by simpa using hx)
    exact ⟨_, this, by simp⟩
end Go.Proofs.YtecapnipkngniaaGreatDoor

/-
  slices.Sort of a row of texts that a call owns; the row in order, none twice.
-/
namespace Go.Proofs.YtecapnipkngniaaGreatDoor
open Go.RowKit Go.Shelf Go.Sort

theorem sortOwn_any (v : Value) (base : Nat) (ss : List (List UInt8)) (w : World) (h : w.ownsRow base 9 1 v ss.length (ss.map encStr)) (hl : ss.length < 4611686018427387904) :
    Calls Tryz.prog 27 #[v] w fun e w' => e = .returned (.tuple #[]) ∧ w'.ownsRow base 9 1 v ss.length ((ss.mergeSort fun x y => decide (x ≤ y)).map encStr) ∧ w.grownBy w' v.ownBlock := by
  by_cases hv : v = .slice none 0 0
  · subst hv
    have h0 : ss = [] := by
      rcases h.2 with ⟨_, h⟩ | ⟨g, c, cur, h, _⟩
      · exact List.eq_nil_of_length_eq_zero h
      · cases h
    subst h0
    refine (sortS_none none 0 w).mono ?_
    rintro e w' ⟨rfl, rfl⟩
    exact ⟨rfl, by simpa using h, World.grownBy.refl _ _⟩
  · obtain ⟨g, cp, rfl, hbg, hgl, hncap, hcm, hlen, hH⟩ := Lib.holds_of_ownsRow h hv
    refine (sortS_any g 0 cp ss w hH hgl hl).mono ?_
    rintro e w' ⟨rfl, n, os, rfl⟩
    rcases h.2 with ⟨h0, _⟩ | ⟨g', cap', cur, hv', hbase, hb, h1, h2, h3, h4⟩
    · cases h0
    · cases hv'
      have hs := ownsRow_sorted (n := n) (os := os) (ts := ss.mergeSort fun x y => decide (x ≤ y)) (List.length_mergeSort ss) hbase hb h1 h2 h3
      exact ⟨rfl, hs, grownBy_sorted _⟩
theorem sort_lt (ss : List (List UInt8)) (hn : ss.Nodup) : (ss.mergeSort fun x y => decide (x ≤ y)).Pairwise (· < ·) := by
  have hp := List.pairwise_mergeSort (le := fun x y : List UInt8 => decide (x ≤ y)) (fun a b c h1 h2 => by simpa using List.le_trans (by simpa using h1) (by simpa using h2)) (fun a b => by simpa using List.le_total a b) ss
  have hn2 : (ss.mergeSort fun x y => decide (x ≤ y)).Nodup := (List.mergeSort_perm ss _).nodup_iff.2 hn
  have hb := hp.and hn2
  refine hb.imp ?_
  intro a b ⟨h1, h2⟩
  exact ne_lt (by simpa using h1) (fun e => h2 e.symm)
/-- what NamesIn answers, from what it has gathered -/
theorem gathered (ns : List ByteArray) (ss : List (List UInt8)) (hn : ss.Nodup) (h : ∀ x, x ∈ ss ↔ ∃ n ∈ ns, n.data.toList = x) : (ss.mergeSort fun x y => decide (x ≤ y)) = srtN ns :=
  srtN_is ns _ (sort_lt ss hn) (fun x => by rw [(List.mergeSort_perm ss _).mem_iff]; exact h x)
end Go.Proofs.YtecapnipkngniaaGreatDoor

/-
  Plain: looking a name up, for every list of names and values.
-/
namespace Go.Proofs.YtecapnipkngniaaGreatDoor
open Go.RowKit Go.Shelf

theorem lastOf_zip (nm : ByteArray) : ∀ (bs : List (ByteArray × Vl)), lastOf nm ((bs.map (·.1)).zip (bs.map (·.2.so))) = (lastOf nm bs).map (·.so)
  | [] => rfl
  | p :: r => by
    simp only [List.map_cons, List.zip_cons_cons, lastOf]
    rw [lastOf_zip nm r]
    cases lastOf nm r with
    | some v => rfl
    | none => simp only [Option.map_none]; split <;> rfl
theorem look_both (bs : List (ByteArray × Vl)) (hg : ∀ p ∈ bs, chkZ vD p.2.so p.2.n p.2.s = 0) (nm : ByteArray) (so : Int) (h : lookS (bs.map (·.1)) (bs.map (·.2.so)) nm = (so, 0)) : (lookV bs nm).good ∧ (lookV bs nm).so = so := by
  unfold lookS at h
  rw [lastOf_zip] at h
  unfold lookV
  cases e : lastOf nm bs with
  | none => rw [e] at h; simp at h
  | some v =>
    rw [e] at h
    simp at h
    obtain ⟨p, hp, rfl, _⟩ := lastOf_mem nm bs v e
    exact ⟨hg p hp, h⟩
theorem Hid.mk' {p : Prop} (h : p) : Hid p := h
end Go.Proofs.YtecapnipkngniaaGreatDoor
