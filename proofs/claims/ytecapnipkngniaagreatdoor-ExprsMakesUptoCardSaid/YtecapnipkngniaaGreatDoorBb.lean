/-
  The contract of duetref.SameExpr at two expressions that are the same, wherever they lie.
-/
import Derived.Test.YtecapnipkngniaaGreatDoorXk
import Derived.Test.YtecapnipkngniaaGreatDoorRows
import Derived.WalkKit
import Derived.WalkSpells
import Derived.WalkLawsBesides
import Derived.Handy
import Derived.PlainAid
import Derived.Laws.MakeOwn
import Derived.Laws.OwnMore
import Derived.Laws.BitsAllLaws
namespace Go.Proofs.YtecapnipkngniaaGreatDoor
open Go.RowKit Go.Shelf

def SESaid (d : Nat) : Prop := ∀ (x : Ex) (ao ao2 : Option Addr) (cap cap2 B : Nat) (w : World), ExBd x cap → ExBd x cap2 → KA w B d x.kids ao → KA w B d x.kids ao2 → B ≤ w.heap.size →
  Calls Tryz.prog 35 #[exVal x ao cap, exVal x ao2 cap2] w fun e w' => e = .returned (.bool true) ∧ Below w.heap.size w w'

set_option maxRecDepth 100000 in
set_option maxHeartbeats 4000000 in
theorem same_step (d : Nat) (ih : ∀ d', d' < d → SESaid d') : SESaid d := by
  intro x ao ao2 cap cap2 B w hb hb2 hka hka2 hB
  have hkl : (x.kids.length : Int) ≤ 9223372036854775807 := by have := hb.kids; have := hb.cap; omega
  obtain ⟨kd, nm, so, n, s, ks⟩ := x
  simp only at hkl hka hka2
  have hw2 : Below w.heap.size w ((w.alloc (.cells #[.int .i64 kd, .string nm, .int .i64 so, .int .i64 n, .string s, .slice ao ks.length cap] 26)).alloc (.cells #[.int .i64 kd, .string nm, .int .i64 so, .int .i64 n, .string s, .slice ao2 ks.length cap2] 26)) := ((Below.refl _ _).alloc (Nat.le_refl _) _).alloc (by simp) _
  have k5 : ((w.alloc (.cells #[.int .i64 kd, .string nm, .int .i64 so, .int .i64 n, .string s, .slice ao ks.length cap] 26)).alloc (.cells #[.int .i64 kd, .string nm, .int .i64 so, .int .i64 n, .string s, .slice ao2 ks.length cap2] 26)).cell? ⟨w.heap.size, 5, none⟩ = some (.slice ao ks.length cap) := by go_cell
  have l5 : ((w.alloc (.cells #[.int .i64 kd, .string nm, .int .i64 so, .int .i64 n, .string s, .slice ao ks.length cap] 26)).alloc (.cells #[.int .i64 kd, .string nm, .int .i64 so, .int .i64 n, .string s, .slice ao2 ks.length cap2] 26)).cell? ⟨w.heap.size + 1, 5, none⟩ = some (.slice ao2 ks.length cap2) := by go_cell
  have hsz : ((w.alloc (.cells #[.int .i64 kd, .string nm, .int .i64 so, .int .i64 n, .string s, .slice ao ks.length cap] 26)).alloc (.cells #[.int .i64 kd, .string nm, .int .i64 so, .int .i64 n, .string s, .slice ao2 ks.length cap2] 26)).heap.size = w.heap.size + 2 := by simp
  have HK5 : Hid (World.cell? _ _ = _) := k5
  have HL5 : Hid (World.cell? _ _ = _) := l5
  have HSZ : Hid (Array.size _ = _) := hsz
  have HW2 : Hid (Below w.heap.size w _) := hw2
  clear k5 l5 hsz hw2
  simp only [exVal]
  go_enter Tryz.func35, Tryz.ntmps35
  go_wp2_with fail
  generalize (w.alloc (.cells #[.int .i64 kd, .string nm, .int .i64 so, .int .i64 n, .string s, .slice ao ks.length cap] 26)).alloc (.cells #[.int .i64 kd, .string nm, .int .i64 so, .int .i64 n, .string s, .slice ao2 ks.length cap2] 26) = V at *
  have hka' := hka.keep (HW2.out.mono hB)
  have hka2' := hka2.keep (HW2.out.mono hB)
  have hVs := HSZ.out
  have hBV : B ≤ V.heap.size := by omega
  go_loopw [5] (fun i wr => ∃ k : Nat, k ≤ ks.length ∧ i = .int .i64 (k : Int) ∧ Below V.heap.size V wr) (fun i _ => ks.length - (intOf i).toNat)
  case atStart => exact ⟨0, Nat.zero_le _, rfl, Below.refl _ _⟩
  case round =>
    obtain ⟨k, hk, rfl, hbr⟩ := hrel
    have k5 := (hbr.cell (p := ⟨w.heap.size, 5, none⟩) (by show w.heap.size < V.heap.size; omega)).trans HK5.out
    have l5 := (hbr.cell (p := ⟨w.heap.size + 1, 5, none⟩) (by show w.heap.size + 1 < V.heap.size; omega)).trans HL5.out
    by_cases hlt : k < ks.length
    · have hltz : (k : Int) < (ks.length : Int) := by omega
      have hkz : (0 : Int) ≤ (k : Int) := by omega
      obtain ⟨d', rfl⟩ : ∃ d', d = d' + 1 := by
        cases d with
        | zero => simp only [KA] at hka; subst hka; simp at hlt
        | succ d' => exact ⟨d', rfl⟩
      rcases hka' with e | ⟨b, o, rfl, hbB, hc⟩
      · subst e; simp at hlt
      · rcases hka2' with e | ⟨b2, o2, rfl, hbB2, hc2⟩
        · subst e; simp at hlt
        · obtain ⟨ao', cap', hex, hxb, hkk⟩ := hc k hlt
          obtain ⟨ao2', cap2', hex2, hxb2, hkk2⟩ := hc2 k hlt
          have hbr' := hbr.mono (show B ≤ V.heap.size from hBV)
          obtain ⟨y0, y1, y2, y3, y4, y5⟩ := hex.keep hbr' hbB
          obtain ⟨z0, z1, z2, z3, z4, z5⟩ := hex2.keep hbr' hbB2
          have hle := hbr.size
          have cR := ih d' (by omega) ks[k] ao' ao2' cap' cap2' B wr.drew hxb hxb2 ((hkk.keep hbr').keep (Below.refl _ _).drew) ((hkk2.keep hbr').keep (Below.refl _ _).drew) (by show B ≤ wr.heap.size; omega)
          simp only [exVal] at cR
          generalize ks[k] = y at *
          clear hex hex2 hkk hkk2 hc hc2 hka hka2 ih
          have hq1 : b < wr.drew.heap.size := by show b < wr.heap.size; omega
          have hq2 : b2 < wr.drew.heap.size := by show b2 < wr.heap.size; omega
          have hq3 : w.heap.size < wr.drew.heap.size := by show w.heap.size < wr.heap.size; omega
          have hq4 : w.heap.size + 1 < wr.drew.heap.size := by show w.heap.size + 1 < wr.heap.size; omega
          have HBR : Hid (Below V.heap.size V wr) := hbr
          clear hbr hbr'
          go_wp2_with fail
          go_region_held3 (fun w' => w'.cell? ⟨b, o + k * 6, none⟩ = some (.int .i64 y.kind) ∧ w'.cell? ⟨b, o + k * 6 + 1, none⟩ = some (.string y.name) ∧ w'.cell? ⟨b, o + k * 6 + 2, none⟩ = some (.int .i64 y.so) ∧ w'.cell? ⟨b, o + k * 6 + 3, none⟩ = some (.int .i64 y.n) ∧ w'.cell? ⟨b, o + k * 6 + 4, none⟩ = some (.string y.s) ∧ w'.cell? ⟨b, o + k * 6 + 5, none⟩ = some (.slice ao' y.kids.length cap') ∧ w'.cell? ⟨b2, o2 + k * 6, none⟩ = some (.int .i64 y.kind) ∧ w'.cell? ⟨b2, o2 + k * 6 + 1, none⟩ = some (.string y.name) ∧ w'.cell? ⟨b2, o2 + k * 6 + 2, none⟩ = some (.int .i64 y.so) ∧ w'.cell? ⟨b2, o2 + k * 6 + 3, none⟩ = some (.int .i64 y.n) ∧ w'.cell? ⟨b2, o2 + k * 6 + 4, none⟩ = some (.string y.s) ∧ w'.cell? ⟨b2, o2 + k * 6 + 5, none⟩ = some (.slice ao2' y.kids.length cap2') ∧ w'.cell? ⟨w.heap.size, 5, none⟩ = some (.slice (some ⟨b, o, none⟩) ks.length cap) ∧ w'.cell? ⟨w.heap.size + 1, 5, none⟩ = some (.slice (some ⟨b2, o2, none⟩) ks.length cap2)) (go_keep) (first | (go_at_call 35; go_must (refine cR.mono ?_; rintro e w2 ⟨rfl, hb2⟩; have y0' := (hb2.cell (p := ⟨b, o + k * 6, none⟩) hq1).trans y0; have y1' := (hb2.cell (p := ⟨b, o + k * 6 + 1, none⟩) hq1).trans y1; have y2' := (hb2.cell (p := ⟨b, o + k * 6 + 2, none⟩) hq1).trans y2; have y3' := (hb2.cell (p := ⟨b, o + k * 6 + 3, none⟩) hq1).trans y3; have y4' := (hb2.cell (p := ⟨b, o + k * 6 + 4, none⟩) hq1).trans y4; have y5' := (hb2.cell (p := ⟨b, o + k * 6 + 5, none⟩) hq1).trans y5; have z0' := (hb2.cell (p := ⟨b2, o2 + k * 6, none⟩) hq2).trans z0; have z1' := (hb2.cell (p := ⟨b2, o2 + k * 6 + 1, none⟩) hq2).trans z1; have z2' := (hb2.cell (p := ⟨b2, o2 + k * 6 + 2, none⟩) hq2).trans z2; have z3' := (hb2.cell (p := ⟨b2, o2 + k * 6 + 3, none⟩) hq2).trans z3; have z4' := (hb2.cell (p := ⟨b2, o2 + k * 6 + 4, none⟩) hq2).trans z4; have z5' := (hb2.cell (p := ⟨b2, o2 + k * 6 + 5, none⟩) hq2).trans z5; have k5' := (hb2.cell (p := ⟨w.heap.size, 5, none⟩) hq3).trans k5; have l5' := (hb2.cell (p := ⟨w.heap.size + 1, 5, none⟩) hq4).trans l5)))
          have hbF : Below V.heap.size V w2 := (HBR.out.drew).trans (hb2.mono (by show V.heap.size ≤ wr.heap.size; omega))
          go_wp2_with fail
          go_roundw
          case rel => exact ⟨k + 1, by omega, by go_num, hbF⟩
          case measure => simp [intOf]; omega
    · have hltz : ¬ (k : Int) < (ks.length : Int) := by omega
      clear hka hka2 hka' hka2' ih
      go_wp2_with fail
      go_ret
      exact ⟨rfl, HW2.out.trans (hbr.mono (by omega))⟩
theorem same_any (d : Nat) : SESaid d := by
  induction d using Nat.strongRecOn with
  | _ d ih => exact same_step d ih
end Go.Proofs.YtecapnipkngniaaGreatDoor
/-
  Numbers as lists of words of 32 bits, the least first, in memory; and the contract of duetbig.trim, for every such list.
-/
namespace Go.Proofs.YtecapnipkngniaaGreatDoor
open Go.RowKit

/-- words, the least first, as a number -/
def val : List Nat → Nat
  | [] => 0
  | a :: r => a + 4294967296 * val r
theorem val_append : ∀ (a b : List Nat), val (a ++ b) = val a + 4294967296 ^ a.length * val b
  | [], b => by simp [val]
  | x :: a, b => by
    simp only [List.cons_append, val, val_append a b, List.length_cons, Nat.pow_succ]
    rw [Nat.mul_add, ← Nat.add_assoc, ← Nat.mul_assoc, Nat.mul_comm 4294967296 (4294967296 ^ a.length)]
def Small (ws : List Nat) : Prop := ∀ x ∈ ws, x < 4294967296
theorem val_lt : ∀ (ws : List Nat), Small ws → val ws < 4294967296 ^ ws.length
  | [], _ => by simp [val]
  | x :: r, h => by
    have h1 := h x (by simp)
    have h2 := val_lt r fun y hy => h y (by simp [hy])
    simp only [val, List.length_cons, Nat.pow_succ]
    rw [Nat.mul_comm (4294967296 ^ r.length)]
    have h3 : 4294967296 * (val r + 1) ≤ 4294967296 * 4294967296 ^ r.length := Nat.mul_le_mul_left _ h2
    omega
theorem val_zeros : ∀ (ws : List Nat), (∀ x ∈ ws, x = 0) → val ws = 0
  | [], _ => rfl
  | x :: r, h => by simp [val, h x (by simp), val_zeros r fun y hy => h y (by simp [hy])]

/-- the words of a number: no nought at the end -/
structure Words (ws : List Nat) (x : Nat) : Prop where
  small : Small ws
  val : val ws = x
  last : ∀ h : ws ≠ [], ws.getLast h ≠ 0

/-- words in memory -/
def U32 (W : World) (v : Value) (ws : List Nat) : Prop :=
  (v = .slice none 0 0 ∧ ws = []) ∨ ∃ g cap, v = .slice (some ⟨g, 0, none⟩) ws.length cap ∧ ws.length ≤ cap ∧ g < W.heap.size ∧ ∀ j, j < ws.length → W.cell? ⟨g, j, none⟩ = some (.int .u32 (ws.getD j 0 : Nat))
theorem U32.keep {W W' : World} {v : Value} {ws : List Nat} (h : U32 W v ws) (hb : Below W.heap.size W W') : U32 W' v ws := by
  rcases h with h | ⟨g, cap, h1, h2, h3, h4⟩
  · exact .inl h
  · exact .inr ⟨g, cap, h1, h2, Nat.lt_of_lt_of_le h3 hb.size, fun j hj => (hb.cell (p := ⟨g, j, none⟩) h3).trans (h4 j hj)⟩
def NumAt (W : World) (v : Value) (x : Nat) : Prop := ∃ ws, Words ws x ∧ U32 W v ws
theorem NumAt.keep {W W' : World} {v : Value} {x : Nat} (h : NumAt W v x) (hb : Below W.heap.size W W') : NumAt W' v x := by
  obtain ⟨ws, h1, h2⟩ := h
  exact ⟨ws, h1, h2.keep hb⟩

theorem getD_mem (ws : List Nat) (j : Nat) (h : j < ws.length) : ws.getD j 0 ∈ ws := by
  rw [List.getD, List.getElem?_eq_getElem h]; simp

theorem trimmed (ws : List Nat) (n : Nat) (hn : n ≤ ws.length) (hz : ∀ j, n ≤ j → j < ws.length → ws.getD j 0 = 0) (hl : n = 0 ∨ ws.getD (n - 1) 0 ≠ 0) (hs : Small ws) : Words (ws.take n) (val ws) := by
  refine ⟨fun x hx => hs x (List.mem_of_mem_take hx), ?_, fun h => ?_⟩
  · have e := val_append (ws.take n) (ws.drop n)
    rw [List.take_append_drop] at e
    rw [e, val_zeros (ws.drop n) ?_]
    · simp
    · intro x hx
      obtain ⟨i, hi, rfl⟩ := List.getElem_of_mem hx
      rw [List.getElem_drop]
      have hlt : n + i < ws.length := by simp at hi; omega
      have := hz (n + i) (by omega) hlt
      rwa [List.getD, List.getElem?_eq_getElem hlt] at this
  · rcases hl with rfl | hl
    · simp at h
    · rw [List.getLast_eq_getElem]
      have hlen : (ws.take n).length = n := by rw [List.length_take]; omega
      have hpos : 0 < n := by rcases Nat.eq_zero_or_pos n with rfl | hp; simp at h; exact hp
      rw [List.getElem_take]
      have : n - 1 < ws.length := by omega
      rw [List.getD, List.getElem?_eq_getElem this] at hl
      simpa [hlen] using hl

set_option maxHeartbeats 1000000 in
theorem trim_any (g cap : Nat) (ws : List Nat) (w : World) (hs : Small ws) (hcap : ws.length ≤ cap) (hcm : cap ≤ 9223372036854775807) (hg : g < w.heap.size) (hc : ∀ j, j < ws.length → w.cell? ⟨g, j, none⟩ = some (.int .u32 (ws.getD j 0 : Nat))) :
    Calls Tryz.prog 118 #[.slice (some ⟨g, 0, none⟩) ws.length cap] w fun e w' => ∃ v, e = .returned v ∧ NumAt w v (val ws) ∧ w' = w := by
  go_enter Tryz.func118, Tryz.ntmps118
  go_wp2_with fail
  go_loop [3] (fun i => ∃ n : Nat, n ≤ ws.length ∧ i = .int .i64 (n : Int) ∧ ∀ j, n ≤ j → j < ws.length → ws.getD j 0 = 0) (fun i => (intOf i).toNat)
  case atStart => exact ⟨ws.length, Nat.le_refl _, rfl, fun j h1 h2 => by omega⟩
  case round =>
    obtain ⟨n, hn, rfl, hz⟩ := hrel
    have HZ : Hid (∀ j, n ≤ j → j < ws.length → ws.getD j 0 = 0) := hz
    clear hz
    by_cases h0 : n = 0
    · subst h0
      have hw := trimmed ws 0 (by omega) (fun j _ hj => HZ.out j (by omega) hj) (.inl rfl) hs
      clear hc
      go_wp2
      go_ret
      exact ⟨_, rfl, ⟨_, hw, .inr ⟨g, cap, by simp, by simp, hg, by simp⟩⟩, rfl⟩
    · obtain ⟨m, rfl⟩ : ∃ m, n = m + 1 := ⟨n - 1, by omega⟩
      have hcm' := hc m (by omega)
      generalize hx : ws.getD m 0 = x at hcm'
      have HX : Hid (ws.getD m 0 = x) := hx
      have HC : Hid (∀ j, j < ws.length → w.cell? ⟨g, j, none⟩ = some (.int .u32 (ws.getD j 0 : Nat))) := hc
      clear hc hx
      have hmz : (m : Int) < (ws.length : Int) := by omega
      by_cases hx0 : x = 0
      · subst hx0
        go_wp2
        go_round
        case rel => exact ⟨m, by omega, by go_num, fun j h1 h2 => by
          rcases Nat.lt_or_ge m j with h | h
          · exact HZ.out j (by omega) h2
          · have : j = m := by omega
            subst this; exact HX.out⟩
        case measure => simp [intOf]
      · have hxb : ((x : Int) == 0) = false := by simp; omega
        have hw := trimmed ws (m + 1) hn (fun j h1 h2 => HZ.out j h1 h2) (.inr (by rw [Nat.add_sub_cancel, HX.out]; exact hx0)) hs
        go_wp2
        go_ret
        refine ⟨_, rfl, ⟨_, hw, .inr ⟨g, cap, ?_, ?_, hg, fun j hj => ?_⟩⟩, rfl⟩
        · rw [List.length_take, Nat.min_eq_left hn]; rfl
        · rw [List.length_take]; omega
        · rw [List.length_take] at hj
          rw [HC.out j (by omega)]
          congr 2
          simp [List.getD, List.getElem?_take]
          rw [if_pos (by omega)]
end Go.Proofs.YtecapnipkngniaaGreatDoor

/-
  The contracts of duetbig.words and duetbig.small, for every number of 64 bits, every list of words and every divisor of one word.
-/
namespace Go.Proofs.YtecapnipkngniaaGreatDoor
open Go.RowKit

theorem info32 : (Tryz.prog.info? 122).map (fun i => (i.zero, i.size, i.bytes)) = some (some (.int .u32 0), 1, 4) := by kernel_rfl
theorem make32 (n : Nat) (hn : n ≤ 1000000) : ∃ Z : Array Value, Z.toList = List.replicate n (.int .u32 0) ∧ ∀ w : World, (Instr.makeSlice 98 (.int .i64 (n : Int)) (.int .i64 (n : Int))).run Tryz.prog w = .ok (.slice (some ⟨w.heap.size, 0, none⟩) n n) (w.alloc (.cells Z 122)) := by
  obtain ⟨i, hi, hx⟩ := Option.map_eq_some_iff.1 info32
  simp only [Prod.mk.injEq] at hx
  obtain ⟨h1, h2, h3⟩ := hx
  refine ⟨madeCells (Value.int .u32 0).cells (n * i.size), ?_, fun w => ?_⟩
  · rw [h2, Nat.mul_one]; exact toList_madeCells_one _ n
  · have := run_make (P := Tryz.prog) w 98 122 i (.int .u32 0) Tryz.underlying98 hi h1 .i64 .i64 (n : Int) (n : Int) (by omega) (by omega) (by rw [h3]; omega) (by omega)
    simpa using this

/-- a row of words that may be written -/
def Row (W : World) (g : Nat) (qs : List Nat) : Prop := ∀ j, j < qs.length → W.cell? ⟨g, j, none⟩ = some (.int .u32 (qs.getD j 0 : Nat)) ∧ W.frozen? ⟨g, j, none⟩ = false
theorem row_new (W : World) (Z : Array Value) (n : Nat) (hZ : Z.toList = List.replicate n (.int .u32 0)) : Row (W.alloc (.cells Z 122)) W.heap.size (List.replicate n 0) := by
  intro j hj
  have hj' : j < n := by simpa using hj
  have h : (W.alloc (.cells Z 122)).heap[W.heap.size]? = some (.cells Z 122) := by
    show (W.heap.push _)[W.heap.size]? = _
    simp
  constructor
  · unfold World.cell?
    rw [h]
    simp only
    rw [← Array.getElem?_toList, hZ]
    simp [hj', List.getD]
  · unfold World.frozen?
    rw [h]
    simp
theorem Row.set {W : World} {g : Nat} {qs : List Nat} (h : Row W g qs) (k x : Nat) (hk : k < qs.length) : Row (W.setCell ⟨g, k, none⟩ (.int .u32 (x : Nat))) g (qs.set k x) := by
  intro j hj
  rw [List.length_set] at hj
  constructor
  · by_cases e : k = j
    · subst e
      rw [World.cell?_setCell_same W _ _ (h k hk).1]
      simp [List.getD, hk]
    · rw [World.cell?_setCell_other W _ _ _ (by intro c; injection c; omega), (h j hj).1]
      simp [List.getD, e]
  · rw [World.frozen?_setCell]
    exact (h j hj).2
theorem Row.u32 {W : World} {g cap : Nat} {qs : List Nat} (h : Row W g qs) (hg : g < W.heap.size) (hc : qs.length ≤ cap) : U32 W (.slice (some ⟨g, 0, none⟩) qs.length cap) qs :=
  .inr ⟨g, cap, rfl, hc, hg, fun j hj => (h j hj).1⟩

set_option maxHeartbeats 400000 in
theorem words_any (x : Nat) (w : World) (hx : x < 18446744073709551616) :
    Calls Tryz.prog 112 #[.int .u64 (x : Int)] w fun e w' => ∃ v, e = .returned v ∧ NumAt w' v x ∧ Below w.heap.size w w' := by
  have hv : val [x % 4294967296, x / 4294967296] = x := by simp [val]; omega
  have cT := trim_any w.heap.size 2 [x % 4294967296, x / 4294967296] (w.alloc (Obj.cells #[Value.int IntKind.u32 ((x : Int) % 4294967296), Value.int IntKind.u32 ((x : Int) / 4294967296)] 122)) (by intro y hy; simp at hy; omega) (by simp) (by simp) (by simp) (by
    intro j hj
    match j, hj with
    | 0, _ => go_cell
    | 1, _ => go_cell
    | j + 2, hj => simp at hj; omega)
  rw [hv] at cT
  go_enter Tryz.func112, Tryz.ntmps112
  go_wp2_with fail
  refine cT.mono ?_
  rintro e w1 ⟨v, rfl, hn, rfl⟩
  go_wp2
  go_ret
  exact ⟨_, rfl, hn, (Below.refl _ _).alloc (Nat.le_refl _) _⟩

theorem wrap_u64_nat (n : Nat) (h : n < 18446744073709551616) : IntKind.u64.wrap (n : Int) = (n : Int) := by
  unfold IntKind.wrap
  simp [IntKind.bits, IntKind.signed]
  omega
theorem val_drop (ws : List Nat) (k : Nat) (h : k < ws.length) : val (ws.drop k) = ws.getD k 0 + 4294967296 * val (ws.drop (k + 1)) := by
  rw [List.drop_eq_getElem_cons h, val, List.getD, List.getElem?_eq_getElem h]; rfl
theorem div_step (x V d r N : Nat) (hd : 0 < d) (hr : V % d = r) (hN : r * 4294967296 + x = N) : (x + 4294967296 * V) / d = N / d + 4294967296 * (V / d) ∧ (x + 4294967296 * V) % d = N % d := by
  have e : x + 4294967296 * V = N + d * (4294967296 * (V / d)) := by
    have h1 := Nat.div_add_mod V d
    rw [hr] at h1
    have h2 : d * (4294967296 * (V / d)) = 4294967296 * (d * (V / d)) := by rw [← Nat.mul_assoc, Nat.mul_comm d, Nat.mul_assoc]
    omega
  rw [e]
  exact ⟨by rw [Nat.add_mul_div_left _ _ hd], by rw [Nat.add_mul_mod_self_left]⟩
theorem quo_lt (r x d N : Nat) (hd : 0 < d) (hr : r < d) (hx : x < 4294967296) (hN : r * 4294967296 + x = N) : N / d < 4294967296 := by
  rw [Nat.div_lt_iff_lt_mul hd]
  have : (r + 1) * 4294967296 ≤ d * 4294967296 := Nat.mul_le_mul_right _ hr
  rw [Nat.mul_comm 4294967296 d]
  omega

theorem or32 (r x : Nat) (hr : r < 4294967296) (hx : x < 4294967296) : bits BinOp.or IntKind.u64 ((r : Int) * 4294967296) (x : Int) = ((r * 4294967296 + x : Nat) : Int) := by
  have h := u64_or_nat (r * 4294967296) x (by omega) (by omega)
  have e := Nat.two_pow_add_eq_or_of_lt (i := 32) (b := x) (by omega) r
  rw [show ((r : Int) * 4294967296) = ((r * 4294967296 : Nat) : Int) by omega, h, Nat.mul_comm r, show (4294967296 : Nat) = 2 ^ 32 from rfl, ← e]

set_option maxRecDepth 100000 in
set_option maxHeartbeats 400000 in
theorem bsmall_any (g cap : Nat) (ws : List Nat) (d : Nat) (w : World) (hs : Small ws) (hlen : ws.length ≤ 1000000) (hg : g < w.heap.size) (hd : 0 < d) (hd2 : d < 4294967296) (hc : ∀ j, j < ws.length → w.cell? ⟨g, j, none⟩ = some (.int .u32 (ws.getD j 0 : Nat))) :
    Calls Tryz.prog 135 #[.slice (some ⟨g, 0, none⟩) ws.length cap, .int .u32 (d : Int)] w fun e w' => ∃ v, e = .returned (.tuple #[v, .int .u32 ((val ws % d : Nat) : Int)]) ∧ NumAt w' v (val ws / d) ∧ Below w.heap.size w w' := by
  obtain ⟨Z, hZ, hmk⟩ := make32 ws.length hlen
  have hrow := row_new w Z ws.length hZ
  have HC : Hid (∀ j, j < ws.length → w.cell? ⟨g, j, none⟩ = some (.int .u32 (ws.getD j 0 : Nat))) := hc
  clear hc hZ
  go_enter Tryz.func135, Tryz.ntmps135
  go_wp2_with fail
  go_loopw [7, 8] (fun r i wr => ∃ (m : Nat) (qs : List Nat), m ≤ ws.length ∧ i = .int .i64 ((m : Int) - 1) ∧ qs.length = ws.length ∧ Row wr w.heap.size qs ∧ r = .int .u64 ((val (ws.drop m) % d : Nat) : Int) ∧ val (qs.drop m) = val (ws.drop m) / d ∧ Small qs ∧ Below w.heap.size w wr ∧ w.heap.size < wr.heap.size) (fun r i wr => (intOf i + 1).toNat)
  case atStart => exact ⟨ws.length, List.replicate ws.length 0, Nat.le_refl _, rfl, by simp, hrow, by simp [val], by simp [val], by intro y hy; simp at hy; omega, (Below.refl _ _).alloc (Nat.le_refl _) _, by simp⟩
  case round =>
    obtain ⟨m, qs, hm, rfl, hql, hr, rfl, hvq, hsq, hbw, hlt⟩ := hrel
    have HV : Hid (val (qs.drop m) = val (ws.drop m) / d) := hvq
    have HR : Hid (Row wr w.heap.size qs) := hr
    clear hvq hr
    by_cases h0 : m = 0
    · subst h0
      have HV0 : Hid (val qs = val ws / d) := by have := HV.out; rw [List.drop_zero, List.drop_zero] at this; exact this
      have cT := trim_any w.heap.size qs.length qs wr hsq (Nat.le_refl _) (by omega) hlt (fun j hj => (HR.out j hj).1)
      rw [HV0.out, hql] at cT
      have hmd : IntKind.u64.wrap ((val ws % d : Nat) : Int) = ((val ws % d : Nat) : Int) := wrap_u64_nat _ (by have := Nat.mod_lt (val ws) hd; omega)
      have hmd2 : val ws % d < 4294967296 := by have := Nat.mod_lt (val ws) hd; omega
      rw [List.drop_zero]
      go_wp2_with fail
      refine cT.mono ?_
      rintro e w2 ⟨v, rfl, hnum, rfl⟩
      go_wp2
      go_ret2
      refine ⟨v, ?_, hnum, hbw⟩
      simp
    · obtain ⟨k, rfl⟩ : ∃ k, m = k + 1 := ⟨m - 1, by omega⟩
      have hca : wr.cell? ⟨g, k, none⟩ = some (.int .u32 (ws.getD k 0 : Nat)) := (hbw.cell (p := ⟨g, k, none⟩) hg).trans (HC.out k (by omega))
      have hcq := (HR.out k (by omega)).1
      have hfq := (HR.out k (by omega)).2
      generalize hx : ws.getD k 0 = x at hca
      generalize hy : qs.getD k 0 = y at hcq
      generalize hrr : val (ws.drop (k + 1)) % d = r
      have hx2 : x < 4294967296 := by rw [← hx]; exact hs _ (getD_mem ws k (by omega))
      have hr2 : r < d := by rw [← hrr]; exact Nat.mod_lt _ hd
      have hkz : (k : Int) < (ws.length : Int) := by omega
      have e0 : ((k + 1 : Nat) : Int) - 1 = (k : Int) := by omega
      rw [e0]
      have hor := or32 r x (by omega) hx2
      generalize hN : r * 4294967296 + x = N at hor
      have HN : Hid (r * 4294967296 + x = N) := hN
      have HRR : Hid (val (ws.drop (k + 1)) % d = r) := hrr
      have HX : Hid (ws.getD k 0 = x) := hx
      clear hN hrr hx hy e0
      have hql := quo_lt r x d N hd hr2 hx2 HN.out
      have hqq : IntKind.u64.wrap ((N : Int) / (d : Int)) % 4294967296 = ((N / d : Nat) : Int) := by
        rw [show ((N : Int) / (d : Int)) = ((N / d : Nat) : Int) by simp]
        generalize N / d = Q at hql ⊢
        rw [wrap_u64_nat Q (by omega)]
        omega
      go_wp2_with fail
      go_roundw
      case rel =>
        have hst := div_step x _ d r N hd HRR.out HN.out
        refine ⟨k, qs.set k (N / d), by omega, rfl, by rw [List.length_set]; omega, HR.out.set k (N / d) (by omega), ?_, ?_, ?_, hbw.setCell (Nat.le_refl _) _, by simpa using hlt⟩
        · rw [val_drop ws k (by omega), HX.out, hst.2]; simp
        · rw [val_drop ws k (by omega), HX.out, hst.1, val_drop _ k (by rw [List.length_set]; omega)]
          rw [show (qs.set k (N / d)).getD k 0 = N / d by simp [List.getD, show k < qs.length by omega]]
          rw [List.drop_set_of_lt (by omega), HV.out]
        · intro y hy
          rcases List.mem_or_eq_of_mem_set hy with h | rfl
          · exact hsq y h
          · exact hql
      case measure => simp [intOf]
end Go.Proofs.YtecapnipkngniaaGreatDoor
