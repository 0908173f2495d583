/-
  duetref.ValueOf of a value and of a name.
-/
import Derived.Test.YtecapnipkngniaaGreatDoorCo
import Derived.Test.YtecapnipkngniaaGreatDoorRs
import Derived.Deep.RegionHeld3
import Derived.Test.YtecapnipkngniaaGreatDoorCb
import Derived.Test.YtecapnipkngniaaGreatDoorRa
import Derived.Test.YtecapnipkngniaaGreatDoorYa
namespace Go.Proofs.YtecapnipkngniaaGreatDoor
open Go.RowKit Go.Shelf

/-- what duetref.ValueOf is promised to do at a depth -/
def RVal (bs : List (ByteArray × Vl)) (ae : Option Addr) (ce d : Nat) : Prop := ∀ (x : Ex) (ao : Option Addr) (cap B : Nat) (w : World) (so : Int), wfX x → inZ x → ExBd x cap → KA w B d x.kids ao → EnvAt w B bs ae → B ≤ w.heap.size → Tabs w →
  sortX (lookS (bs.map (·.1)) (bs.map (·.2.so))) x = (so, 0) →
  Calls Tryz.prog 24 #[exVal x ao cap, .slice ae bs.length ce] w fun e w' => e = .returned (vlV (valX (lookV bs) x)) ∧ Below w.heap.size w w'

set_option maxRecDepth 100000 in
set_option maxHeartbeats 1000000 in
theorem rval_lit (x : Ex) (ao ae : Option Addr) (cap n ce : Nat) (w : World) (h : x.kind = 1) :
    Calls Tryz.prog 24 #[exVal x ao cap, .slice ae n ce] w fun e w' => e = .returned (vlV ⟨x.so, x.n, x.s⟩) ∧ Below w.heap.size w w' := by
  simp only [exVal, vlV]
  rw [h]
  clear h
  go_enter Tryz.func24, Tryz.ntmps24
  go_wp2_with fail
  refine bodyPost_ret (v := .agg #[.int .i64 x.so, .int .i64 x.n, .string x.s]) (by simp [results, Tryz.results24, go_sem]) rfl ⟨rfl, ?_⟩
  go_grown

def lookT (bs : List (ByteArray × Vl)) (nm : ByteArray) (k : Nat) : Vl := lookV (bs.take k) nm
theorem lookT_succ (bs : List (ByteArray × Vl)) (nm : ByteArray) (k : Nat) (h : k < bs.length) : lookT bs nm (k + 1) = if bs[k].1 = nm then bs[k].2 else lookT bs nm k := by
  unfold lookT lookV
  rw [List.take_succ_eq_append_getElem h, lastOf_push]
  split <;> split <;> simp_all
theorem lookT_all (bs : List (ByteArray × Vl)) (nm : ByteArray) : lookT bs nm bs.length = lookV bs nm := by unfold lookT; rw [List.take_length]
/-- a Value in a block of its own, writable -/
structure VB (W : World) (b : Nat) (v : Vl) : Prop where
  lt : b < W.heap.size
  c0 : W.cell? ⟨b, 0, none⟩ = some (.int .i64 v.so)
  c1 : W.cell? ⟨b, 1, none⟩ = some (.int .i64 v.n)
  c2 : W.cell? ⟨b, 2, none⟩ = some (.string v.s)
  f0 : W.frozen? ⟨b, 0, none⟩ = false
  f1 : W.frozen? ⟨b, 1, none⟩ = false
  f2 : W.frozen? ⟨b, 2, none⟩ = false
theorem VB.keep {W W' : World} {b : Nat} {v : Vl} (h : VB W b v) (hb : Below W.heap.size W W') : VB W' b v :=
  ⟨Nat.lt_of_lt_of_le h.lt hb.size, (hb.cell (p := ⟨b, 0, none⟩) h.lt).trans h.c0, (hb.cell (p := ⟨b, 1, none⟩) h.lt).trans h.c1, (hb.cell (p := ⟨b, 2, none⟩) h.lt).trans h.c2,
    (hb.frozen (p := ⟨b, 0, none⟩) h.lt).trans h.f0, (hb.frozen (p := ⟨b, 1, none⟩) h.lt).trans h.f1, (hb.frozen (p := ⟨b, 2, none⟩) h.lt).trans h.f2⟩
theorem VB.new (W : World) (v : Vl) (t : TypeId) : VB (W.alloc (.cells #[.int .i64 v.so, .int .i64 v.n, .string v.s] t)) W.heap.size v :=
  ⟨by simp, by go_cell, by go_cell, by go_cell, by go_simp, by go_simp, by go_simp⟩
/-- a Value stored -/
def st3 (W : World) (b : Nat) (v : Vl) : World := ((W.setCell ⟨b, 0, none⟩ (.int .i64 v.so)).setCell ⟨b, 1, none⟩ (.int .i64 v.n)).setCell ⟨b, 2, none⟩ (.string v.s)
theorem st3_cell (W : World) (b : Nat) (v : Vl) (q o : Nat) (h : q ≠ b) : (st3 W b v).cell? ⟨q, o, none⟩ = W.cell? ⟨q, o, none⟩ := by
  unfold st3
  rw [World.cell?_setCell_other _ _ _ _ (by intro c; injection c; omega), World.cell?_setCell_other _ _ _ _ (by intro c; injection c; omega), World.cell?_setCell_other _ _ _ _ (by intro c; injection c; omega)]
theorem st3_frozen (W : World) (b : Nat) (v : Vl) (p : Addr) : (st3 W b v).frozen? p = W.frozen? p := by
  unfold st3; simp
theorem st3_size (W : World) (b : Nat) (v : Vl) : (st3 W b v).heap.size = W.heap.size := by unfold st3; simp
theorem st3_below {B : Nat} {w W : World} (h : Below B w W) {b : Nat} (hb : B ≤ b) (v : Vl) : Below B w (st3 W b v) := by
  unfold st3
  go_grown
theorem VB.put {W : World} {b : Nat} {u : Vl} (h : VB W b u) (v : Vl) : VB (st3 W b v) b v := by
  obtain ⟨vl, v0, v1, v2, g0, g1, g2⟩ := h
  refine ⟨by rw [st3_size]; exact vl, ?_, ?_, ?_, by rw [st3_frozen]; exact g0, by rw [st3_frozen]; exact g1, by rw [st3_frozen]; exact g2⟩
  · unfold st3; go_simp
  · unfold st3; go_simp
  · unfold st3; go_simp
theorem ZB.st3 {W : World} {b q : Nat} (h : ZB W q) (hq : q ≠ b) (v : Vl) : ZB (st3 W b v) q := by
  obtain ⟨vl, v0, v1, v2, g0, g1, g2⟩ := h
  exact ⟨by rw [st3_size]; exact vl, (st3_cell _ _ _ _ _ hq).trans v0, (st3_cell _ _ _ _ _ hq).trans v1, (st3_cell _ _ _ _ _ hq).trans v2, by rw [st3_frozen]; exact g0, by rw [st3_frozen]; exact g1, by rw [st3_frozen]; exact g2⟩
set_option maxRecDepth 100000 in
set_option maxHeartbeats 2000000 in
theorem rval_name (bs : List (ByteArray × Vl)) (ae : Option Addr) (ce : Nat) (x : Ex) (ao : Option Addr) (cap B : Nat) (w : World) (h : x.kind = 2) (henv : EnvAt w B bs ae) (hB : B ≤ w.heap.size) :
    Calls Tryz.prog 24 #[exVal x ao cap, .slice ae bs.length ce] w fun e w' => e = .returned (vlV (lookV bs x.name)) ∧ Below w.heap.size w w' := by
  have hbd : (bs.length : Int) ≤ 9223372036854775806 := by have := henv.bd; omega
  have HL := hideC (lookT_all bs x.name)
  have H0 := hideC (show lookT bs x.name 0 = ⟨0, 0, ⟨#[]⟩⟩ from rfl)
  have HE := hideC henv
  simp only [exVal]
  rw [h]
  clear h henv
  go_enter Tryz.func24, Tryz.ntmps24
  go_wp2_with fail
  have HB0 : Hid (Below w.heap.size w (((w.alloc (.cells #[.int .i64 2, .string x.name, .int .i64 x.so, .int .i64 x.n, .string x.s, .slice ao x.kids.length cap] 26)).alloc (.cells #[.int .i64 0, .int .i64 0, .string ⟨#[]⟩] 23)).alloc (.cells #[.int .i64 0, .int .i64 0, .string ⟨#[]⟩] 23))) := (((Below.refl _ _).alloc (Nat.le_refl _) _).alloc (by simp) _).alloc (by simp; omega) _
  go_loopw [6] (fun i wr => ∃ k : Nat, k ≤ bs.length ∧ i = .int .i64 (k : Int) ∧ VB wr (w.heap.size + 1 + 1) (lookT bs x.name k) ∧ ZB wr (w.heap.size + 1) ∧ wr.cell? ⟨w.heap.size, 1, none⟩ = some (.string x.name) ∧ Below w.heap.size w wr) (fun i _ => bs.length - (intOf i).toNat)
  case atStart =>
    refine ⟨0, Nat.zero_le _, rfl, ?_, ?_, by go_cell, HB0.out⟩
    · rw [H0.out]
      have := VB.new ((w.alloc (.cells #[.int .i64 2, .string x.name, .int .i64 x.so, .int .i64 x.n, .string x.s, .slice ao x.kids.length cap] 26)).alloc (.cells #[.int .i64 0, .int .i64 0, .string ⟨#[]⟩] 23)) ⟨0, 0, ⟨#[]⟩⟩ 23
      simpa using this
    · have := (ZB.new (w.alloc (.cells #[.int .i64 2, .string x.name, .int .i64 x.so, .int .i64 x.n, .string x.s, .slice ao x.kids.length cap] 26)) 23).keep ((Below.refl _ _).alloc (Nat.le_refl _) (.cells #[.int .i64 0, .int .i64 0, .string ⟨#[]⟩] 23))
      simpa using this
  case round =>
    obtain ⟨k, hk, rfl, hv, hz, hn, hb⟩ := hrel
    clear HB0 H0
    by_cases hlt : k < bs.length
    · have hltz : (k : Int) < (bs.length : Int) := by omega
      have hE := HE.out.keep (hb.mono hB)
      rcases hE.c with e | ⟨b, o, rfl, hbB, hc⟩
      · rw [e] at hlt; simp at hlt
      obtain ⟨e0, e1, e2, e3⟩ := hc k hlt
      have HS := hideC (lookT_succ bs x.name k hlt)
      clear hE hc
      generalize lookT bs x.name k = L at *
      generalize bs[k].1 = nm at *
      generalize bs[k].2 = v at *
      have hbq : b < wr.heap.size := Nat.lt_of_lt_of_le (Nat.lt_of_lt_of_le hbB hB) hb.size
      have HV := hideC hv
      have HZ := hideC hz
      have HB := hideC hb
      clear hv hz hb
      by_cases he : nm = x.name
      · have heq : (nm.toList == x.name.toList) = true := by rw [ba_beq]; simpa using he
        have HT := hideC (show lookT bs x.name (k + 1) = v by rw [HS.out, if_pos he])
        clear HS he
        go_wp2_with fail
        go_quiet (fail)
        have hb0 : Below wr.heap.size wr (wr.drewN nq) := below_drewN (Below.refl _ _) nq
        generalize wr.drewN nq = w0 at hb0 ⊢
        have HB1 := hideC (HB.out.trans (hb0.mono HB.out.size))
        have HZ1 := hideC (HZ.out.keep hb0)
        have HN1 := hideC ((hb0.cell (p := ⟨w.heap.size, 1, none⟩) (Nat.lt_trans (by simp) HZ.out.lt)).trans hn)
        obtain ⟨vl, v0, v1, v2, g0, g1, g2⟩ := HV.out.keep hb0
        have d1 := (hb0.cell (p := ⟨b, o + k * 4 + 1, none⟩) hbq).trans e1
        have d2 := (hb0.cell (p := ⟨b, o + k * 4 + 2, none⟩) hbq).trans e2
        have d3 := (hb0.cell (p := ⟨b, o + k * 4 + 3, none⟩) hbq).trans e3
        clear e0 e1 e2 e3 hn hb0 HV HZ HB
        go_wp2_with fail
        go_roundw
        case rel =>
          have hl1 := HZ1.out.lt
          refine ⟨k + 1, by omega, by go_num, ?_, ?_, ?_, ?_⟩
          · rw [HT.out]; exact VB.put ⟨vl, v0, v1, v2, g0, g1, g2⟩ v
          · exact HZ1.out.st3 (by omega) v
          · exact (st3_cell w0 _ v _ _ (by omega)).trans HN1.out
          · exact st3_below HB1.out (by omega) v
        case measure => simp [intOf]; omega
      · have heq : (nm.toList == x.name.toList) = false := by rw [ba_beq]; simpa using he
        have HT := hideC (show lookT bs x.name (k + 1) = L by rw [HS.out, if_neg he])
        clear HS he
        go_wp2_with fail
        go_quiet (fail)
        have hb0 : Below wr.heap.size wr (wr.drewN nq) := below_drewN (Below.refl _ _) nq
        generalize wr.drewN nq = w0 at hb0 ⊢
        go_wp2_with fail
        go_roundw
        case rel => exact ⟨k + 1, by omega, by go_num, by rw [HT.out]; exact HV.out.keep hb0, HZ.out.keep hb0, (hb0.cell (p := ⟨w.heap.size, 1, none⟩) (Nat.lt_trans (by simp) HZ.out.lt)).trans hn, HB.out.trans (hb0.mono HB.out.size)⟩
        case measure => simp [intOf]; omega
    · have hltz : ¬ (k : Int) < (bs.length : Int) := by omega
      have hkl : k = bs.length := by omega
      subst hkl
      rw [HL.out] at hv
      obtain ⟨_, v0, v1, v2, _, _, _⟩ := hv
      obtain ⟨_, z0, z1, z2, g0, g1, g2⟩ := hz
      clear HL HE
      go_wp2_with fail
      refine bodyPost_ret (v := vlV (lookV bs x.name)) (by simp [results, Tryz.results24, go_sem, z0, z1, z2, vlV]) rfl ⟨rfl, ?_⟩
      have hsz := hb.size
      go_grown
end Go.Proofs.YtecapnipkngniaaGreatDoor
/-
  The contracts of duetlaw.Same and duetlaw.list of names, where both sides are the same.
-/
namespace Go.Proofs.YtecapnipkngniaaGreatDoor
open Go.RowKit Go.Shelf

set_option maxRecDepth 100000 in
set_option maxHeartbeats 2000000 in
theorem lawSame_any (ns : List ByteArray) (v1 v2 : Value) (b1 b2 : Nat) (w : World) (hl : ns.length ≤ 9223372036854775806) (h1 : w.ownsRow b1 9 1 v1 ns.length (ns.map Value.string)) (h2 : w.ownsRow b2 9 1 v2 ns.length (ns.map Value.string)) :
    Calls Tryz.prog 36 #[v1, v2] w fun e w' => e = .returned (.bool true) ∧ Below w.heap.size w w' := by
  have hbd : (ns.length : Int) ≤ 9223372036854775806 := by omega
  have sl : ∀ (v : Value) (b : Nat), w.ownsRow b 9 1 v ns.length (ns.map Value.string) → ∃ a c, v = .slice a ns.length c ∧ ∀ i (h : i < ns.length), ∃ g, a = some ⟨g, 0, none⟩ ∧ g < w.heap.size ∧ w.cell? ⟨g, i, none⟩ = some (.string ns[i]) := by
    intro v b h
    rcases own_cells h with ⟨rfl, h0, _⟩ | ⟨g, c, rfl, _, hg, hc⟩
    · exact ⟨none, 0, by rw [h0], fun i hi => by omega⟩
    · exact ⟨_, _, rfl, fun i hi => ⟨g, rfl, hg, hc i _ (by rw [List.getElem?_map, List.getElem?_eq_getElem hi]; rfl)⟩⟩
  obtain ⟨a1, c1, rfl, f1⟩ := sl v1 b1 h1
  obtain ⟨a2, c2, rfl, f2⟩ := sl v2 b2 h2
  have F1 := hideC f1
  have F2 := hideC f2
  clear sl h1 h2 f1 f2
  go_enter Tryz.func36, Tryz.ntmps36
  go_wp2_with fail
  go_loopw [13] (fun i wr => ∃ k : Nat, k ≤ ns.length ∧ i = .int .i64 (k : Int) ∧ Below w.heap.size w wr) (fun i _ => ns.length - (intOf i).toNat)
  case atStart => exact ⟨0, Nat.zero_le _, rfl, Below.refl _ _⟩
  case round =>
    obtain ⟨k, hk, rfl, hb⟩ := hrel
    by_cases hlt : k < ns.length
    · have hltz : (k : Int) < (ns.length : Int) := by omega
      obtain ⟨g1, rfl, l1, d1⟩ := F1.out k hlt
      obtain ⟨g2, rfl, l2, d2⟩ := F2.out k hlt
      have e1 := (hb.cell (p := ⟨g1, k, none⟩) l1).trans d1
      have e2 := (hb.cell (p := ⟨g2, k, none⟩) l2).trans d2
      have e3 : (ns[k].toList == ns[k].toList) = true := by simp
      have HB := hideC hb
      clear d1 d2 hb
      generalize ns[k] = nm at *
      go_wp2_with fail
      go_quiet (fail)
      have hb0 : Below wr.heap.size wr (wr.drewN nq) := below_drewN (Below.refl _ _) nq
      generalize wr.drewN nq = w0 at hb0 ⊢
      go_wp2_with fail
      go_roundw
      case rel => exact ⟨k + 1, by omega, by go_num, HB.out.trans (hb0.mono HB.out.size)⟩
      case measure => simp [intOf]; omega
    · have hltz : ¬ (k : Int) < (ns.length : Int) := by omega
      go_wp2_with fail
      go_ret
      exact ⟨rfl, hb⟩
set_option maxHeartbeats 1000000 in
theorem lawList_same (ns : List ByteArray) (v1 v2 : Value) (b1 b2 : Nat) (w : World) (hl : ns.length ≤ 9223372036854775806) (h1 : w.ownsRow b1 9 1 v1 ns.length (ns.map Value.string)) (h2 : w.ownsRow b2 9 1 v2 ns.length (ns.map Value.string)) :
    Calls Tryz.prog 16 #[v1, .int .i64 0, v2, .int .i64 0] w fun e w' => e = .returned (.bool true) ∧ Below w.heap.size w w' := by
  have c := lawSame_any ns v1 v2 b1 b2 w hl h1 h2
  clear h1 h2 hl
  go_enter Tryz.func16, Tryz.ntmps16
  go_wp2_with fail
  refine c.mono ?_
  rintro e w1 ⟨rfl, hb1⟩
  go_wp2_with fail
  go_ret
  exact ⟨rfl, hb1⟩
end Go.Proofs.YtecapnipkngniaaGreatDoor

/-
  The contracts of exprs.isNoLiteral, slices.IndexFunc and slices.ContainsFunc with it, and exprs.literal and exprs.folded, for every right part; utf8.ValidString's and strings.Compare's contracts are hypotheses here.
-/
namespace Go.Proofs.YtecapnipkngniaaGreatDoor
open Go.RowKit Go.Shelf
variable (Tabs : World → Prop)

set_option maxHeartbeats 400000 in
theorem noLit_any (y : Ex) (ao : Option Addr) (cap : Nat) (w : World) :
    Calls Tryz.prog 66 #[exVal y ao cap] w fun e w' => e = .returned (.bool (y.kind != 1)) ∧ Below w.heap.size w w' := by
  simp only [exVal]
  go_enter Tryz.func66, Tryz.ntmps66
  go_wp2
  go_ret
  exact ⟨rfl, by go_grown⟩

def isNL (k : Ex) : Bool := k.kind != 1
def anyNL (ks : List Ex) : Bool := ks.any isNL
set_option maxHeartbeats 1000000 in
theorem indexNL_any (d : Nat) (ks : List Ex) (ao : Option Addr) (cap B : Nat) (w : World) (hka : KA w B d ks ao) (hB : B ≤ w.heap.size) (hl : ks.length ≤ 9223372036854775806) :
    Calls Tryz.prog 100 #[.slice ao ks.length cap, .func (.func 66) #[] #[]] w fun e w' => (∃ z : Int, e = .returned (.int .i64 z) ∧ (0 ≤ z ↔ anyNL ks = true)) ∧ Below w.heap.size w w' := by
  have hnz : (ks.length : Int) ≤ 9223372036854775806 := by omega
  go_enter Tryz.func100, Tryz.ntmps100
  go_wp2_with fail
  go_loopw [8] (fun i wr => ∃ k : Nat, k ≤ ks.length ∧ i = .int .i64 (k : Int) ∧ anyNL (ks.take k) = false ∧ Below w.heap.size w wr) (fun i _ => ks.length - (intOf i).toNat)
  case atStart => exact ⟨0, Nat.zero_le _, rfl, rfl, Below.refl _ _⟩
  case round =>
    obtain ⟨k, hk, rfl, hno, hbr⟩ := hrel
    by_cases hlt : k < ks.length
    · have hltz : (k : Int) < (ks.length : Int) := by omega
      obtain ⟨d', rfl⟩ : ∃ d', d = d' + 1 := by
        cases d with
        | zero => simp only [KA] at hka; subst hka; simp at hlt
        | succ d' => exact ⟨d', rfl⟩
      rcases hka with e | ⟨b, o, rfl, hbB, hc⟩
      · subst e; simp at hlt
      · obtain ⟨ao', cap', hex, hxb, hkk⟩ := hc k hlt
        obtain ⟨y0, y1, y2, y3, y4, y5⟩ := hex.keep (hbr.mono hB) hbB
        have hsn : anyNL (ks.take (k + 1)) = isNL ks[k] := by unfold anyNL at hno ⊢; rw [List.take_succ_eq_append_getElem hlt, List.any_append, hno]; simp
        have HA : Hid (isNL ks[k] = true → anyNL ks = true) := fun h => List.any_eq_true.2 ⟨ks[k], List.getElem_mem hlt, h⟩
        have cF := noLit_any ks[k] ao' cap' wr
        have eF : (ks[k].kind != 1) = isNL ks[k] := rfl
        rw [eF] at cF
        simp only [exVal] at cF
        clear hc hex hkk eF
        have HN : Hid (anyNL (ks.take (k + 1)) = isNL ks[k]) := hsn
        clear hsn hno
        cases hq : isNL ks[k]
        · rw [hq] at cF
          have HQ : Hid (isNL ks[k] = false) := hq
          clear hq HA
          go_wp2_with fail
          refine cF.mono ?_
          rintro e w2 ⟨rfl, hb2⟩
          have hbr2 := hbr.trans (hb2.mono hbr.size)
          clear cF y0 y1 y2 y3 y4 y5
          go_wp2_with fail
          go_roundw
          case rel => exact ⟨k + 1, by omega, by go_num, HN.out.trans HQ.out, hbr2⟩
          case measure => simp [intOf]; omega
        · rw [hq] at cF
          have HQ : Hid (anyNL ks = true) := HA.out hq
          clear hq HA HN
          go_wp2_with fail
          refine cF.mono ?_
          rintro e w2 ⟨rfl, hb2⟩
          have hbr2 := hbr.trans (hb2.mono hbr.size)
          clear cF y0 y1 y2 y3 y4 y5
          go_wp2_with fail
          go_ret
          exact ⟨⟨_, rfl, fun _ => HQ.out, fun _ => by omega⟩, hbr2⟩
    · have hltz : ¬ (k : Int) < (ks.length : Int) := by omega
      have hkl : k = ks.length := by omega
      subst hkl
      rw [List.take_length] at hno
      have HB : Hid (anyNL ks = false) := hno
      clear hno hka
      go_wp2_with fail
      go_ret
      exact ⟨⟨_, rfl, fun h => by omega, fun h => by rw [HB.out] at h; cases h⟩, hbr⟩

set_option maxHeartbeats 400000 in
theorem hasNL_any (d : Nat) (ks : List Ex) (ao : Option Addr) (cap B : Nat) (w : World) (hka : KA w B d ks ao) (hB : B ≤ w.heap.size) (hl : ks.length ≤ 9223372036854775806) :
    Calls Tryz.prog 65 #[.slice ao ks.length cap, .func (.func 66) #[] #[]] w fun e w' => e = .returned (.bool (anyNL ks)) ∧ Below w.heap.size w w' := by
  have c := indexNL_any d ks ao cap B w hka hB hl
  go_enter Tryz.func65, Tryz.ntmps65
  go_wp2_with fail
  refine c.mono ?_
  rintro e w1 ⟨⟨z, rfl, hz⟩, hb⟩
  have HZ : Hid (0 ≤ z ↔ anyNL ks = true) := hz
  clear hz
  go_wp2_with fail
  go_ret
  refine ⟨?_, hb⟩
  have e1 : decide (0 ≤ z) = anyNL ks := by rw [Bool.eq_iff_iff]; simpa using HZ.out
  show Ending.returned (Value.bool (decide (0 ≤ z))) = _
  rw [e1]

/-- an expression of zeros in a block of its own -/
structure ZE (W : World) (b : Nat) : Prop where
  lt : b < W.heap.size
  c0 : W.cell? ⟨b, 0, none⟩ = some (.int .i64 0)
  c1 : W.cell? ⟨b, 1, none⟩ = some (.string ⟨#[]⟩)
  c2 : W.cell? ⟨b, 2, none⟩ = some (.int .i64 0)
  c3 : W.cell? ⟨b, 3, none⟩ = some (.int .i64 0)
  c4 : W.cell? ⟨b, 4, none⟩ = some (.string ⟨#[]⟩)
  c5 : W.cell? ⟨b, 5, none⟩ = some (.slice none 0 0)
  f : ∀ o, W.frozen? ⟨b, o, none⟩ = false
theorem ZE.keep {W W' : World} {b : Nat} (h : ZE W b) (hb : Below W.heap.size W W') : ZE W' b :=
  ⟨Nat.lt_of_lt_of_le h.lt hb.size, (hb.cell (p := ⟨b, 0, none⟩) h.lt).trans h.c0, (hb.cell (p := ⟨b, 1, none⟩) h.lt).trans h.c1, (hb.cell (p := ⟨b, 2, none⟩) h.lt).trans h.c2, (hb.cell (p := ⟨b, 3, none⟩) h.lt).trans h.c3, (hb.cell (p := ⟨b, 4, none⟩) h.lt).trans h.c4, (hb.cell (p := ⟨b, 5, none⟩) h.lt).trans h.c5, fun o => (hb.frozen (p := ⟨b, o, none⟩) h.lt).trans (h.f o)⟩
theorem ZE.new (W : World) (t : TypeId) : ZE (W.alloc (.cells #[.int .i64 0, .string ⟨#[]⟩, .int .i64 0, .int .i64 0, .string ⟨#[]⟩, .slice none 0 0] t)) W.heap.size :=
  ⟨by simp, by go_cell, by go_cell, by go_cell, by go_cell, by go_cell, by go_cell, fun o => by go_simp⟩

set_option maxHeartbeats 400000 in
theorem literal_any (v : Vl) (w : World) :
    Calls Tryz.prog 29 #[vlV v] w fun e w' => e = .returned (exVal (Ex.lit v) none 0) ∧ Below w.heap.size w w' := by
  obtain ⟨so, n, s⟩ := v
  simp only [vlV, exVal, Ex.lit, List.length_nil]
  go_enter Tryz.func29, Tryz.ntmps29
  go_wp2
  refine bodyPost_ret (v := .agg #[.int .i64 1, .string ⟨#[]⟩, .int .i64 so, .int .i64 n, .string s, .slice none 0 0]) (by simp [results, Tryz.results29, go_sem]) rfl ⟨rfl, ?_⟩
  go_grown
end Go.Proofs.YtecapnipkngniaaGreatDoor
