/-
  The contracts of exprs.sortOfName, sortOfOperator and sortOf, for every right expression and every names and sorts.
-/
import Derived.Test.YtecapnipkngniaaGreatDoorXg
namespace Go.Proofs.YtecapnipkngniaaGreatDoor
open Go.RowKit

/-- the last of such a name -/
def lastOf {α : Type} (nm : ByteArray) : List (ByteArray × α) → Option α
  | [] => none
  | p :: r => match lastOf nm r with
    | some v => some v
    | none => if p.1 = nm then some p.2 else none
theorem lastOf_none {α : Type} (nm : ByteArray) : ∀ (l : List (ByteArray × α)), (∀ i (h : i < l.length), l[i].1 ≠ nm) → lastOf nm l = none
  | [], _ => rfl
  | p :: r, h => by
    unfold lastOf
    rw [lastOf_none nm r (fun i hi => h (i + 1) (by simpa using hi))]
    simp only
    rw [if_neg (show p.1 ≠ nm from h 0 (by simp))]
theorem lastOf_at {α : Type} (nm : ByteArray) : ∀ (l : List (ByteArray × α)) (k : Nat) (hk : k < l.length), l[k].1 = nm → (∀ i (h : i < l.length), k < i → l[i].1 ≠ nm) → lastOf nm l = some l[k].2
  | p :: r, 0, _, h, ha => by
    unfold lastOf
    rw [lastOf_none nm r (fun i hi => ha (i + 1) (by simpa using hi) (by omega))]
    simp only
    rw [if_pos (show p.1 = nm from h)]; rfl
  | p :: r, k + 1, hk, h, ha => by
    unfold lastOf
    rw [lastOf_at nm r k (by simpa using hk) h (fun i hi hl => ha (i + 1) (by simpa using hi) (by omega))]
    rfl
/-- names and sorts as sortOfName looks them up -/
def lookS (ns : List ByteArray) (zs : List Int) (nm : ByteArray) : Int × Int := match lastOf nm (ns.zip zs) with
  | some z => (z, 0)
  | none => (0, 4)
theorem lookS_none (ns : List ByteArray) (zs : List Int) (nm : ByteArray) (h : ∀ i (hi : i < ns.length), ns[i] ≠ nm) : lookS ns zs nm = (0, 4) := by
  unfold lookS; rw [lastOf_none nm _ (fun i hi => by simp at hi ⊢; exact h i (by omega))]
theorem lookS_at (ns : List ByteArray) (zs : List Int) (nm : ByteArray) (k : Nat) (hk : k < ns.length) (hz : k < zs.length) (h : ns[k] = nm) (ha : ∀ i (hi : i < ns.length), k < i → ns[i] ≠ nm) : lookS ns zs nm = (zs[k], 0) := by
  unfold lookS; rw [lastOf_at nm _ k (by simp; omega) (by simpa using h) (fun i hi hl => by simp at hi ⊢; exact ha i (by omega) hl)]; simp

structure NSAt (W : World) (B : Nat) (ns : List ByteArray) (zs : List Int) (an am : Option Addr) : Prop where
  len : zs.length = ns.length
  bd : ns.length ≤ 9223372036854775806
  cn : ns = [] ∨ ∃ b o, an = some ⟨b, o, none⟩ ∧ b < B ∧ ∀ i (h : i < ns.length), W.cell? ⟨b, o + i, none⟩ = some (.string ns[i])
  cz : zs = [] ∨ ∃ b o, am = some ⟨b, o, none⟩ ∧ b < B ∧ ∀ i (h : i < zs.length), W.cell? ⟨b, o + i, none⟩ = some (.int .i64 zs[i])
theorem NSAt.keep {W W' : World} {B : Nat} {ns : List ByteArray} {zs : List Int} {an am : Option Addr} (h : NSAt W B ns zs an am) (hb : Below B W W') : NSAt W' B ns zs an am :=
  ⟨h.len, h.bd, h.cn.imp id (fun ⟨b, o, e, hl, hc⟩ => ⟨b, o, e, hl, fun i hi => (hb.cell (p := ⟨b, o + i, none⟩) hl).trans (hc i hi)⟩), h.cz.imp id (fun ⟨b, o, e, hl, hc⟩ => ⟨b, o, e, hl, fun i hi => (hb.cell (p := ⟨b, o + i, none⟩) hl).trans (hc i hi)⟩)⟩
theorem NSAt.mono {W : World} {B B' : Nat} {ns : List ByteArray} {zs : List Int} {an am : Option Addr} (h : NSAt W B ns zs an am) (hB : B ≤ B') : NSAt W B' ns zs an am :=
  ⟨h.len, h.bd, h.cn.imp id (fun ⟨b, o, e, hl, hc⟩ => ⟨b, o, e, by omega, hc⟩), h.cz.imp id (fun ⟨b, o, e, hl, hc⟩ => ⟨b, o, e, by omega, hc⟩)⟩

theorem ba_beq (s t : ByteArray) : (s.toList == t.toList) = decide (s = t) := by
  rw [Bool.eq_iff_iff]; simp
  exact ⟨fun h => ByteArray.ext (Array.toList_inj.1 (by rwa [ByteArray.toList_eq, ByteArray.toList_eq] at h)), fun h => by rw [h]⟩

set_option maxHeartbeats 1000000 in
theorem sortOfName_any (nm : ByteArray) (ns : List ByteArray) (zs : List Int) (an am : Option Addr) (cn cm B : Nat) (w : World) (h : NSAt w B ns zs an am) :
    Calls Tryz.prog 42 #[.string nm, .slice an ns.length cn, .slice am ns.length cm] w fun e w' => e = .returned (.tuple #[.int .i64 (lookS ns zs nm).1, .int .i64 (lookS ns zs nm).2]) ∧ w' = w := by
  obtain ⟨hlen, hbd, hcn, hcz⟩ := h
  have hbz : (ns.length : Int) ≤ 9223372036854775806 := by omega
  go_enter Tryz.func42, Tryz.ntmps42
  go_wp2_with fail
  go_loop [8] (fun i => ∃ z : Int, i = .int .i64 z ∧ -1 ≤ z ∧ z < (ns.length : Int) ∧ ∀ j (hj : j < ns.length), z < (j : Int) → ns[j] ≠ nm) (fun i => (intOf i + 1).toNat)
  case atStart => exact ⟨_, rfl, by omega, by omega, fun j hj hl => by omega⟩
  case round =>
    obtain ⟨z, rfl, hz1, hz2, hall⟩ := hrel
    have HA : Hid (∀ j (hj : j < ns.length), z < (j : Int) → ns[j] ≠ nm) := hall
    clear hall
    by_cases h0 : 0 ≤ z
    · obtain ⟨k, rfl⟩ := Int.eq_ofNat_of_zero_le h0
      have hk : k < ns.length := by omega
      rcases hcn with e | ⟨b, o, rfl, _, hc⟩
      · subst e; simp at hk
      · rcases hcz with e | ⟨b', o', rfl, _, hc'⟩
        · subst e; simp at hlen; omega
        · have c1 := hc k hk
          have c2 := hc' k (by omega)
          by_cases he : ns[k] = nm
          · have hb : (ns[k].toList == nm.toList) = true := by rw [ba_beq]; simpa using he
            have HF : Hid (lookS ns zs nm = (zs[k], 0)) := lookS_at ns zs nm k hk (by omega) he (fun i hi hl => HA.out i hi (by omega))
            clear he hc hc'
            go_wp2_with fail
            go_ret2
            exact ⟨by rw [HF.out]; rfl, rfl⟩
          · have hb : (ns[k].toList == nm.toList) = false := by rw [ba_beq]; simpa using he
            have HE : Hid (¬ ns[k] = nm) := he
            clear he hc hc' c2
            go_wp2_with fail
            go_round
            case rel =>
              refine ⟨_, rfl, by omega, by omega, fun j hj hl => ?_⟩
              by_cases hjk : j = k
              · subst hjk; exact HE.out
              · exact HA.out j hj (by omega)
            case measure => simp [intOf]
    · have hzm : z = -1 := by omega
      subst hzm
      have HF : Hid (lookS ns zs nm = (0, 4)) := lookS_none ns zs nm (fun i hi => HA.out i hi (by omega))
      clear hcn hcz HA
      go_wp2_with fail
      go_ret2
      exact ⟨by rw [HF.out]; rfl, rfl⟩

def SOSaid (ns : List ByteArray) (zs : List Int) (an am : Option Addr) (cn cm d : Nat) : Prop := ∀ (x : Ex) (ao : Option Addr) (cap B : Nat) (w : World), wfX x → ExBd x cap → KA w B d x.kids ao → NSAt w B ns zs an am → B ≤ w.heap.size →
  Calls Tryz.prog 21 #[exVal x ao cap, .slice an ns.length cn, .slice am ns.length cm] w fun e w' => e = .returned (.tuple #[.int .i64 (sortX (lookS ns zs) x).1, .int .i64 (sortX (lookS ns zs) x).2]) ∧ Below w.heap.size w w'
/-- an operator's Kids, as cells -/
theorem KA.one {W : World} {B d : Nat} {a : Ex} {ao : Option Addr} (h : KA W B d [a] ao) : ∃ d' b o ao' cap', d = d' + 1 ∧ ao = some ⟨b, o, none⟩ ∧ b < B ∧ ExAt W b o a ao' cap' ∧ ExBd a cap' ∧ KA W B d' a.kids ao' := by
  cases d with
  | zero => cases h
  | succ d =>
    rcases h with h | ⟨b, o, rfl, hl, h⟩
    · cases h
    · obtain ⟨ao', cap', h1, h2, h3⟩ := h 0 (by simp)
      exact ⟨d, b, o, ao', cap', rfl, rfl, hl, by simpa using h1, h2, h3⟩
theorem KA.two {W : World} {B d : Nat} {a a2 : Ex} {ao : Option Addr} (h : KA W B d [a, a2] ao) : ∃ d' b o ao' cap' ao2 cap2, d = d' + 1 ∧ ao = some ⟨b, o, none⟩ ∧ b < B ∧ ExAt W b o a ao' cap' ∧ ExBd a cap' ∧ KA W B d' a.kids ao' ∧ ExAt W b (o + 6) a2 ao2 cap2 ∧ ExBd a2 cap2 ∧ KA W B d' a2.kids ao2 := by
  cases d with
  | zero => cases h
  | succ d =>
    rcases h with h | ⟨b, o, rfl, hl, h⟩
    · cases h
    · obtain ⟨ao', cap', h1, h2, h3⟩ := h 0 (by simp)
      obtain ⟨ao2, cap2, k1, k2, k3⟩ := h 1 (by simp)
      exact ⟨d, b, o, ao', cap', ao2, cap2, rfl, rfl, hl, by simpa using h1, h2, h3, by simpa using k1, k2, k3⟩

set_option maxHeartbeats 2000000 in
theorem sortOp_one (ns : List ByteArray) (zs : List Int) (an am : Option Addr) (cn cm d : Nat) (ih : ∀ d', d' < d → SOSaid ns zs an am cn cm d')
    (op : ByteArray) (so n : Int) (s : ByteArray) (a : Ex) (ao : Option Addr) (cap B : Nat) (w : World) (ha : wfX a) (hka : KA w B d [a] ao) (hns : NSAt w B ns zs an am) (hB : B ≤ w.heap.size) :
    Calls Tryz.prog 43 #[.agg #[.int .i64 3, .string op, .int .i64 so, .int .i64 n, .string s, .slice ao 1 cap], .slice an ns.length cn, .slice am ns.length cm] w fun e w' => e = .returned (.tuple #[.int .i64 (sort1 op.data.toList (sortX (lookS ns zs) a)).1, .int .i64 (sort1 op.data.toList (sortX (lookS ns zs) a)).2]) ∧ Below w.heap.size w w' := by
  obtain ⟨d', b, o, ao', cap', rfl, rfl, hbB, hex, hxb, hkk⟩ := hka.one
  have cA := fun (W : World) (hW : Below B w W) (hz : B ≤ W.heap.size) => ih d' (by omega) a ao' cap' B W ha hxb (hkk.keep hW) (hns.keep hW) hz
  simp only [exVal] at cA
  generalize sortX (lookS ns zs) a = r at cA ⊢
  have CA : Hid (∀ (W : World), Below B w W → B ≤ W.heap.size → Calls Tryz.prog 21 #[.agg #[.int .i64 a.kind, .string a.name, .int .i64 a.so, .int .i64 a.n, .string a.s, .slice ao' a.kids.length cap'], .slice an ns.length cn, .slice am ns.length cm] W fun e w' => e = .returned (.tuple #[.int .i64 r.1, .int .i64 r.2]) ∧ Below W.heap.size W w') := cA
  clear cA ih hns hkk hka
  have cO := operatorSorts_any op
  have cC := isComparison_any op
  have hS : sort1 op.data.toList r = if r.2 ≠ 0 then (0, r.2) else if r.1 ≠ (if isCmp op.data.toList then r.1 else (opS op.data.toList).1) then (0, 5) else ((opS op.data.toList).2, 0) := rfl
  generalize sort1 op.data.toList r = R at hS ⊢
  generalize opS op.data.toList = p at cO hS
  generalize isCmp op.data.toList = g at cC hS
  obtain ⟨r1, r2⟩ := r
  obtain ⟨p1, p2⟩ := p
  simp only at CA cO hS
  obtain ⟨y0, y1, y2, y3, y4, y5⟩ := hex
  have hbw : b < w.heap.size := by omega
  have hw1 : Below B w (w.alloc (.cells #[.int .i64 3, .string op, .int .i64 so, .int .i64 n, .string s, .slice (some ⟨b, o, none⟩) 1 cap] 26)) := (Below.refl _ _).alloc hB _
  have hw2 : Below B w ((w.alloc (.cells #[.int .i64 3, .string op, .int .i64 so, .int .i64 n, .string s, .slice (some ⟨b, o, none⟩) 1 cap] 26)).alloc (.cells #[.int .i64 a.kind, .string a.name, .int .i64 a.so, .int .i64 a.n, .string a.s, .slice ao' a.kids.length cap'] 26)) := hw1.alloc (by simp; omega) _
  have HW : Hid (Below w.heap.size w ((w.alloc (.cells #[.int .i64 3, .string op, .int .i64 so, .int .i64 n, .string s, .slice (some ⟨b, o, none⟩) 1 cap] 26)).alloc (.cells #[.int .i64 a.kind, .string a.name, .int .i64 a.so, .int .i64 a.n, .string a.s, .slice ao' a.kids.length cap'] 26))) := ((Below.refl _ _).alloc (Nat.le_refl _) _).alloc (by simp) _
  clear hw1
  by_cases h2 : r2 = 0
  · subst h2
    cases g
    · by_cases h1 : r1 = p1
      · subst h1
        simp at hS
        subst hS
        have hb : (r1 != r1) = false := by simp
        go_enter Tryz.func43, Tryz.ntmps43
        go_wp2_with (go_at_call 69; refine (cO _).mono ?_; rintro e w1 ⟨rfl, rfl⟩)
        refine wp_loop_rounds 2 ?_
        rw [rounds_succ]
        go_wp2_with fail
        refine (CA.out _ hw2 (by simp; omega)).mono ?_
        rintro e w1 ⟨rfl, hb1⟩
        have x1 : w1.cell? ⟨w.heap.size, 1, none⟩ = some (.string op) := (hb1.cell (p := ⟨w.heap.size, 1, none⟩) (by simp; omega)).trans (by go_cell)
        go_wp2_with (go_at_call 70; refine (cC _).mono ?_; rintro e w2 ⟨rfl, rfl⟩)
        rw [rounds_succ]
        go_wp2_with fail
        go_ret2
        exact ⟨rfl, HW.out.trans (hb1.mono (by simp; omega))⟩
      · simp [h1] at hS
        subst hS
        have hb : (r1 != p1) = true := by simpa using h1
        go_enter Tryz.func43, Tryz.ntmps43
        go_wp2_with (go_at_call 69; refine (cO _).mono ?_; rintro e w1 ⟨rfl, rfl⟩)
        refine wp_loop_rounds 2 ?_
        rw [rounds_succ]
        go_wp2_with fail
        refine (CA.out _ hw2 (by simp; omega)).mono ?_
        rintro e w1 ⟨rfl, hb1⟩
        have x1 : w1.cell? ⟨w.heap.size, 1, none⟩ = some (.string op) := (hb1.cell (p := ⟨w.heap.size, 1, none⟩) (by simp; omega)).trans (by go_cell)
        go_wp2_with (go_at_call 70; refine (cC _).mono ?_; rintro e w2 ⟨rfl, rfl⟩)
        go_ret2
        exact ⟨rfl, HW.out.trans (hb1.mono (by simp; omega))⟩
    · simp at hS
      subst hS
      have hb : (r1 != r1) = false := by simp
      go_enter Tryz.func43, Tryz.ntmps43
      go_wp2_with (go_at_call 69; refine (cO _).mono ?_; rintro e w1 ⟨rfl, rfl⟩)
      refine wp_loop_rounds 2 ?_
      rw [rounds_succ]
      go_wp2_with fail
      refine (CA.out _ hw2 (by simp; omega)).mono ?_
      rintro e w1 ⟨rfl, hb1⟩
      have x1 : w1.cell? ⟨w.heap.size, 1, none⟩ = some (.string op) := (hb1.cell (p := ⟨w.heap.size, 1, none⟩) (by simp; omega)).trans (by go_cell)
      go_wp2_with (go_at_call 70; refine (cC _).mono ?_; rintro e w2 ⟨rfl, rfl⟩)
      rw [rounds_succ]
      go_wp2_with fail
      go_ret2
      exact ⟨rfl, HW.out.trans (hb1.mono (by simp; omega))⟩
  · simp [h2] at hS
    subst hS
    have hb : (r2 != 0) = true := by simpa using h2
    go_enter Tryz.func43, Tryz.ntmps43
    go_wp2_with (go_at_call 69; refine (cO _).mono ?_; rintro e w1 ⟨rfl, rfl⟩)
    refine wp_loop_rounds 2 ?_
    rw [rounds_succ]
    go_wp2_with fail
    refine (CA.out _ hw2 (by simp; omega)).mono ?_
    rintro e w1 ⟨rfl, hb1⟩
    go_wp2_with fail
    go_ret2
    exact ⟨rfl, HW.out.trans (hb1.mono (by simp; omega))⟩

set_option maxHeartbeats 4000000 in
theorem sortOp_two (ns : List ByteArray) (zs : List Int) (an am : Option Addr) (cn cm d : Nat) (ih : ∀ d', d' < d → SOSaid ns zs an am cn cm d')
    (op : ByteArray) (so n : Int) (s : ByteArray) (a a2 : Ex) (ao : Option Addr) (cap B : Nat) (w : World) (ha : wfX a) (ha2 : wfX a2) (hka : KA w B d [a, a2] ao) (hns : NSAt w B ns zs an am) (hB : B ≤ w.heap.size) :
    Calls Tryz.prog 43 #[.agg #[.int .i64 3, .string op, .int .i64 so, .int .i64 n, .string s, .slice ao 2 cap], .slice an ns.length cn, .slice am ns.length cm] w fun e w' => e = .returned (.tuple #[.int .i64 (sort2 op.data.toList (sortX (lookS ns zs) a) (sortX (lookS ns zs) a2)).1, .int .i64 (sort2 op.data.toList (sortX (lookS ns zs) a) (sortX (lookS ns zs) a2)).2]) ∧ Below w.heap.size w w' := by
  obtain ⟨d', b, o, ao', cap', ao2, cap2, rfl, rfl, hbB, hex, hxb, hkk, hex2, hxb2, hkk2⟩ := hka.two
  have cA := fun (W : World) (hW : Below B w W) (hz : B ≤ W.heap.size) => ih d' (by omega) a ao' cap' B W ha hxb (hkk.keep hW) (hns.keep hW) hz
  have cB := fun (W : World) (hW : Below B w W) (hz : B ≤ W.heap.size) => ih d' (by omega) a2 ao2 cap2 B W ha2 hxb2 (hkk2.keep hW) (hns.keep hW) hz
  simp only [exVal] at cA cB
  generalize sortX (lookS ns zs) a = r at cA ⊢
  generalize sortX (lookS ns zs) a2 = q at cB ⊢
  have CA : Hid (∀ (W : World), Below B w W → B ≤ W.heap.size → Calls Tryz.prog 21 #[.agg #[.int .i64 a.kind, .string a.name, .int .i64 a.so, .int .i64 a.n, .string a.s, .slice ao' a.kids.length cap'], .slice an ns.length cn, .slice am ns.length cm] W fun e w' => e = .returned (.tuple #[.int .i64 r.1, .int .i64 r.2]) ∧ Below W.heap.size W w') := cA
  have CB : Hid (∀ (W : World), Below B w W → B ≤ W.heap.size → Calls Tryz.prog 21 #[.agg #[.int .i64 a2.kind, .string a2.name, .int .i64 a2.so, .int .i64 a2.n, .string a2.s, .slice ao2 a2.kids.length cap2], .slice an ns.length cn, .slice am ns.length cm] W fun e w' => e = .returned (.tuple #[.int .i64 q.1, .int .i64 q.2]) ∧ Below W.heap.size W w') := cB
  clear cA cB ih hns hkk hkk2 hka
  have cO := operatorSorts_any op
  have cC := isComparison_any op
  have hS : sort2 op.data.toList r q = if r.2 ≠ 0 then (0, r.2) else if r.1 ≠ (if isCmp op.data.toList then r.1 else (opS op.data.toList).1) then (0, 5) else if q.2 ≠ 0 then (0, q.2) else if q.1 ≠ (if isCmp op.data.toList then r.1 else (opS op.data.toList).1) then (0, 5) else ((opS op.data.toList).2, 0) := rfl
  generalize sort2 op.data.toList r q = R at hS ⊢
  generalize opS op.data.toList = p at cO hS
  generalize isCmp op.data.toList = g at cC hS
  obtain ⟨r1, r2⟩ := r
  obtain ⟨q1, q2⟩ := q
  obtain ⟨p1, p2⟩ := p
  simp only at CA CB cO hS
  have HX2 : Hid (ExAt w b (o + 6) a2 ao2 cap2) := hex2
  obtain ⟨y0, y1, y2, y3, y4, y5⟩ := hex
  clear hex2
  have hbw : b < w.heap.size := by omega
  have hw2 : Below B w ((w.alloc (.cells #[.int .i64 3, .string op, .int .i64 so, .int .i64 n, .string s, .slice (some ⟨b, o, none⟩) 2 cap] 26)).alloc (.cells #[.int .i64 a.kind, .string a.name, .int .i64 a.so, .int .i64 a.n, .string a.s, .slice ao' a.kids.length cap'] 26)) := ((Below.refl _ _).alloc hB _).alloc (by simp; omega) _
  have HW : Hid (Below w.heap.size w ((w.alloc (.cells #[.int .i64 3, .string op, .int .i64 so, .int .i64 n, .string s, .slice (some ⟨b, o, none⟩) 2 cap] 26)).alloc (.cells #[.int .i64 a.kind, .string a.name, .int .i64 a.so, .int .i64 a.n, .string a.s, .slice ao' a.kids.length cap'] 26))) := ((Below.refl _ _).alloc (Nat.le_refl _) _).alloc (by simp) _
  by_cases h2 : r2 = 0
  · subst h2
    cases g
    · by_cases h1 : r1 = p1
      · subst h1
        by_cases h3 : q2 = 0
        · subst h3
          by_cases h4 : q1 = r1
          · subst h4
            simp at hS
            subst hS
            have hb : (q1 != q1) = false := by simp
            go_enter Tryz.func43, Tryz.ntmps43
            go_wp2_with (go_at_call 69; refine (cO _).mono ?_; rintro e w1 ⟨rfl, rfl⟩)
            refine wp_loop_rounds 3 ?_
            rw [rounds_succ]
            go_wp2_with fail
            refine (CA.out _ hw2 (by simp; omega)).mono ?_
            rintro e w1 ⟨rfl, hb1⟩
            have x1 : w1.cell? ⟨w.heap.size, 1, none⟩ = some (.string op) := (hb1.cell (p := ⟨w.heap.size, 1, none⟩) (by simp; omega)).trans (by go_cell)
            have hBw1 : Below w.heap.size w w1 := HW.out.trans (hb1.mono (by simp; omega))
            obtain ⟨z0, z1, z2, z3, z4, z5⟩ := HX2.out.keep hBw1 hbw
            have hs1 := hBw1.size
            go_wp2_with (go_at_call 70; refine (cC _).mono ?_; rintro e w2 ⟨rfl, rfl⟩)
            rw [rounds_succ]
            go_wp2_with fail
            refine (CB.out _ ((hBw1.mono hB).alloc (by omega) _) (by simp; omega)).mono ?_
            rintro e w3 ⟨rfl, hb3⟩
            have hBw3 : Below w.heap.size w w3 := (hBw1.alloc (by omega) _).trans (hb3.mono (by simp; omega))
            go_wp2_with fail
            rw [rounds_succ]
            go_wp2_with fail
            go_ret2
            exact ⟨rfl, hBw3⟩
          · simp [h4] at hS
            subst hS
            have hb0 : (r1 != r1) = false := by simp
            have hb : (q1 != r1) = true := by simpa using h4
            go_enter Tryz.func43, Tryz.ntmps43
            go_wp2_with (go_at_call 69; refine (cO _).mono ?_; rintro e w1 ⟨rfl, rfl⟩)
            refine wp_loop_rounds 3 ?_
            rw [rounds_succ]
            go_wp2_with fail
            refine (CA.out _ hw2 (by simp; omega)).mono ?_
            rintro e w1 ⟨rfl, hb1⟩
            have x1 : w1.cell? ⟨w.heap.size, 1, none⟩ = some (.string op) := (hb1.cell (p := ⟨w.heap.size, 1, none⟩) (by simp; omega)).trans (by go_cell)
            have hBw1 : Below w.heap.size w w1 := HW.out.trans (hb1.mono (by simp; omega))
            obtain ⟨z0, z1, z2, z3, z4, z5⟩ := HX2.out.keep hBw1 hbw
            have hs1 := hBw1.size
            go_wp2_with (go_at_call 70; refine (cC _).mono ?_; rintro e w2 ⟨rfl, rfl⟩)
            rw [rounds_succ]
            go_wp2_with fail
            refine (CB.out _ ((hBw1.mono hB).alloc (by omega) _) (by simp; omega)).mono ?_
            rintro e w3 ⟨rfl, hb3⟩
            have hBw3 : Below w.heap.size w w3 := (hBw1.alloc (by omega) _).trans (hb3.mono (by simp; omega))
            go_wp2_with fail
            go_ret2
            exact ⟨rfl, hBw3⟩
        · simp [h3] at hS
          subst hS
          have hb0 : (r1 != r1) = false := by simp
          have hb : (q2 != 0) = true := by simpa using h3
          go_enter Tryz.func43, Tryz.ntmps43
          go_wp2_with (go_at_call 69; refine (cO _).mono ?_; rintro e w1 ⟨rfl, rfl⟩)
          refine wp_loop_rounds 3 ?_
          rw [rounds_succ]
          go_wp2_with fail
          refine (CA.out _ hw2 (by simp; omega)).mono ?_
          rintro e w1 ⟨rfl, hb1⟩
          have x1 : w1.cell? ⟨w.heap.size, 1, none⟩ = some (.string op) := (hb1.cell (p := ⟨w.heap.size, 1, none⟩) (by simp; omega)).trans (by go_cell)
          have hBw1 : Below w.heap.size w w1 := HW.out.trans (hb1.mono (by simp; omega))
          obtain ⟨z0, z1, z2, z3, z4, z5⟩ := HX2.out.keep hBw1 hbw
          have hs1 := hBw1.size
          go_wp2_with (go_at_call 70; refine (cC _).mono ?_; rintro e w2 ⟨rfl, rfl⟩)
          rw [rounds_succ]
          go_wp2_with fail
          refine (CB.out _ ((hBw1.mono hB).alloc (by omega) _) (by simp; omega)).mono ?_
          rintro e w3 ⟨rfl, hb3⟩
          have hBw3 : Below w.heap.size w w3 := (hBw1.alloc (by omega) _).trans (hb3.mono (by simp; omega))
          go_wp2_with fail
          go_ret2
          exact ⟨rfl, hBw3⟩
      · simp [h1] at hS
        subst hS
        have hb : (r1 != p1) = true := by simpa using h1
        go_enter Tryz.func43, Tryz.ntmps43
        go_wp2_with (go_at_call 69; refine (cO _).mono ?_; rintro e w1 ⟨rfl, rfl⟩)
        refine wp_loop_rounds 3 ?_
        rw [rounds_succ]
        go_wp2_with fail
        refine (CA.out _ hw2 (by simp; omega)).mono ?_
        rintro e w1 ⟨rfl, hb1⟩
        have x1 : w1.cell? ⟨w.heap.size, 1, none⟩ = some (.string op) := (hb1.cell (p := ⟨w.heap.size, 1, none⟩) (by simp; omega)).trans (by go_cell)
        go_wp2_with (go_at_call 70; refine (cC _).mono ?_; rintro e w2 ⟨rfl, rfl⟩)
        go_ret2
        exact ⟨rfl, HW.out.trans (hb1.mono (by simp; omega))⟩
    · skip
      by_cases h3 : q2 = 0
      · subst h3
        by_cases h4 : q1 = r1
        · subst h4
          simp at hS
          subst hS
          have hb : (q1 != q1) = false := by simp
          go_enter Tryz.func43, Tryz.ntmps43
          go_wp2_with (go_at_call 69; refine (cO _).mono ?_; rintro e w1 ⟨rfl, rfl⟩)
          refine wp_loop_rounds 3 ?_
          rw [rounds_succ]
          go_wp2_with fail
          refine (CA.out _ hw2 (by simp; omega)).mono ?_
          rintro e w1 ⟨rfl, hb1⟩
          have x1 : w1.cell? ⟨w.heap.size, 1, none⟩ = some (.string op) := (hb1.cell (p := ⟨w.heap.size, 1, none⟩) (by simp; omega)).trans (by go_cell)
          have hBw1 : Below w.heap.size w w1 := HW.out.trans (hb1.mono (by simp; omega))
          obtain ⟨z0, z1, z2, z3, z4, z5⟩ := HX2.out.keep hBw1 hbw
          have hs1 := hBw1.size
          go_wp2_with (go_at_call 70; refine (cC _).mono ?_; rintro e w2 ⟨rfl, rfl⟩)
          rw [rounds_succ]
          go_wp2_with fail
          refine (CB.out _ ((hBw1.mono hB).alloc (by omega) _) (by simp; omega)).mono ?_
          rintro e w3 ⟨rfl, hb3⟩
          have hBw3 : Below w.heap.size w w3 := (hBw1.alloc (by omega) _).trans (hb3.mono (by simp; omega))
          go_wp2_with fail
          rw [rounds_succ]
          go_wp2_with fail
          go_ret2
          exact ⟨rfl, hBw3⟩
        · simp [h4] at hS
          subst hS
          have hb0 : (r1 != r1) = false := by simp
          have hb : (q1 != r1) = true := by simpa using h4
          go_enter Tryz.func43, Tryz.ntmps43
          go_wp2_with (go_at_call 69; refine (cO _).mono ?_; rintro e w1 ⟨rfl, rfl⟩)
          refine wp_loop_rounds 3 ?_
          rw [rounds_succ]
          go_wp2_with fail
          refine (CA.out _ hw2 (by simp; omega)).mono ?_
          rintro e w1 ⟨rfl, hb1⟩
          have x1 : w1.cell? ⟨w.heap.size, 1, none⟩ = some (.string op) := (hb1.cell (p := ⟨w.heap.size, 1, none⟩) (by simp; omega)).trans (by go_cell)
          have hBw1 : Below w.heap.size w w1 := HW.out.trans (hb1.mono (by simp; omega))
          obtain ⟨z0, z1, z2, z3, z4, z5⟩ := HX2.out.keep hBw1 hbw
          have hs1 := hBw1.size
          go_wp2_with (go_at_call 70; refine (cC _).mono ?_; rintro e w2 ⟨rfl, rfl⟩)
          rw [rounds_succ]
          go_wp2_with fail
          refine (CB.out _ ((hBw1.mono hB).alloc (by omega) _) (by simp; omega)).mono ?_
          rintro e w3 ⟨rfl, hb3⟩
          have hBw3 : Below w.heap.size w w3 := (hBw1.alloc (by omega) _).trans (hb3.mono (by simp; omega))
          go_wp2_with fail
          go_ret2
          exact ⟨rfl, hBw3⟩
      · simp [h3] at hS
        subst hS
        have hb0 : (r1 != r1) = false := by simp
        have hb : (q2 != 0) = true := by simpa using h3
        go_enter Tryz.func43, Tryz.ntmps43
        go_wp2_with (go_at_call 69; refine (cO _).mono ?_; rintro e w1 ⟨rfl, rfl⟩)
        refine wp_loop_rounds 3 ?_
        rw [rounds_succ]
        go_wp2_with fail
        refine (CA.out _ hw2 (by simp; omega)).mono ?_
        rintro e w1 ⟨rfl, hb1⟩
        have x1 : w1.cell? ⟨w.heap.size, 1, none⟩ = some (.string op) := (hb1.cell (p := ⟨w.heap.size, 1, none⟩) (by simp; omega)).trans (by go_cell)
        have hBw1 : Below w.heap.size w w1 := HW.out.trans (hb1.mono (by simp; omega))
        obtain ⟨z0, z1, z2, z3, z4, z5⟩ := HX2.out.keep hBw1 hbw
        have hs1 := hBw1.size
        go_wp2_with (go_at_call 70; refine (cC _).mono ?_; rintro e w2 ⟨rfl, rfl⟩)
        rw [rounds_succ]
        go_wp2_with fail
        refine (CB.out _ ((hBw1.mono hB).alloc (by omega) _) (by simp; omega)).mono ?_
        rintro e w3 ⟨rfl, hb3⟩
        have hBw3 : Below w.heap.size w w3 := (hBw1.alloc (by omega) _).trans (hb3.mono (by simp; omega))
        go_wp2_with fail
        go_ret2
        exact ⟨rfl, hBw3⟩
  · simp [h2] at hS
    subst hS
    have hb : (r2 != 0) = true := by simpa using h2
    go_enter Tryz.func43, Tryz.ntmps43
    go_wp2_with (go_at_call 69; refine (cO _).mono ?_; rintro e w1 ⟨rfl, rfl⟩)
    refine wp_loop_rounds 3 ?_
    rw [rounds_succ]
    go_wp2_with fail
    refine (CA.out _ hw2 (by simp; omega)).mono ?_
    rintro e w1 ⟨rfl, hb1⟩
    go_wp2_with fail
    go_ret2
    exact ⟨rfl, HW.out.trans (hb1.mono (by simp; omega))⟩

set_option maxHeartbeats 1000000 in
theorem sortOf_any (ns : List ByteArray) (zs : List Int) (an am : Option Addr) (cn cm : Nat) (d : Nat) : SOSaid ns zs an am cn cm d := by
  induction d using Nat.strongRecOn with
  | _ d ih =>
    intro x ao cap B w hw hbd hka hns hB
    have hwB : Below B w (w.alloc (.cells #[.int .i64 x.kind, .string x.name, .int .i64 x.so, .int .i64 x.n, .string x.s, .slice ao x.kids.length cap] 26)) := (Below.refl _ _).alloc hB _
    have hBw : Below w.heap.size w (w.alloc (.cells #[.int .i64 x.kind, .string x.name, .int .i64 x.so, .int .i64 x.n, .string x.s, .slice ao x.kids.length cap] 26)) := (Below.refl _ _).alloc (Nat.le_refl _) _
    rcases wf_cases x hw with ⟨h, hk, _⟩ | ⟨h, hk, _⟩ | ⟨h, a, hk, ha, _⟩ | ⟨h, a, a2, hk, ha, ha2, _⟩
    · rw [sort_lit _ x h]
      unfold exVal
      rw [h]
      clear ih hka hns hbd hw hwB hBw hk h
      go_enter Tryz.func21, Tryz.ntmps21
      go_wp2_with fail
      go_ret2
      exact ⟨rfl, by go_grown⟩
    · rw [sort_name _ x h]
      have c := sortOfName_any x.name ns zs an am cn cm B _ (hns.keep hwB)
      rw [h, hk] at c
      unfold exVal
      rw [h, hk]
      generalize lookS ns zs x.name = r at c ⊢
      simp only [List.length_nil] at c ⊢
      clear ih hka hns hbd hw hwB hBw hk h
      go_enter Tryz.func21, Tryz.ntmps21
      go_wp2_with fail
      refine c.mono ?_
      rintro e w1 ⟨rfl, rfl⟩
      go_wp2_with fail
      go_ret2
      exact ⟨rfl, by go_grown⟩
    · rw [sort_one _ x a h hk]
      rw [hk] at hka hwB hBw
      have c := sortOp_one ns zs an am cn cm d ih x.name x.so x.n x.s a ao cap B _ ha (hka.keep hwB) (hns.keep hwB) (by simp; omega)
      unfold exVal
      rw [h] at hwB hBw c
      rw [h, hk]
      generalize sort1 x.name.data.toList (sortX (lookS ns zs) a) = r at c ⊢
      simp only [List.length_cons, List.length_nil] at hBw c ⊢
      clear ih hka hns hbd hw hwB hk h
      go_enter Tryz.func21, Tryz.ntmps21
      go_wp2_with fail
      refine c.mono ?_
      rintro e w1 ⟨rfl, hb⟩
      go_wp2_with fail
      go_ret2
      exact ⟨rfl, hBw.trans (hb.mono (by simp))⟩
    · rw [sort_two _ x a a2 h hk]
      rw [hk] at hka hwB hBw
      have c := sortOp_two ns zs an am cn cm d ih x.name x.so x.n x.s a a2 ao cap B _ ha ha2 (hka.keep hwB) (hns.keep hwB) (by simp; omega)
      unfold exVal
      rw [h] at hwB hBw c
      rw [h, hk]
      generalize sort2 x.name.data.toList (sortX (lookS ns zs) a) (sortX (lookS ns zs) a2) = r at c ⊢
      simp only [List.length_cons, List.length_nil] at hBw c ⊢
      clear ih hka hns hbd hw hwB hk h
      go_enter Tryz.func21, Tryz.ntmps21
      go_wp2_with fail
      refine c.mono ?_
      rintro e w1 ⟨rfl, hb⟩
      go_wp2_with fail
      go_ret2
      exact ⟨rfl, hBw.trans (hb.mono (by simp))⟩
end Go.Proofs.YtecapnipkngniaaGreatDoor
