/-
  How an expression lies in memory, that it stays so where nothing old is turned, and that every expression that is handed in lies so.
-/
import Derived.Test.YtecapnipkngniaaGreatDoorProg
import Derived.Test.YtecapnipkngniaaGreatDoorXe
import Derived.WalkKit
import Derived.Handy
import Derived.Deep.Slices
import Derived.Lib.SmallJoins
import Derived.OpenShut
import Derived.Test.YtecapnipkngniaaGreatDoorXd
namespace Go.Proofs.YtecapnipkngniaaGreatDoor
open Go.RowKit Go.Deep Go.Joins Go.ChangeShapes Go.WideShapes

/-- the six cells of an expression -/
structure ExAt (W : World) (b o : Nat) (x : Ex) (ao : Option Addr) (cap : Nat) : Prop where
  c0 : W.cell? ⟨b, o, none⟩ = some (.int .i64 x.kind)
  c1 : W.cell? ⟨b, o + 1, none⟩ = some (.string x.name)
  c2 : W.cell? ⟨b, o + 2, none⟩ = some (.int .i64 x.so)
  c3 : W.cell? ⟨b, o + 3, none⟩ = some (.int .i64 x.n)
  c4 : W.cell? ⟨b, o + 4, none⟩ = some (.string x.s)
  c5 : W.cell? ⟨b, o + 5, none⟩ = some (.slice ao x.kids.length cap)
/-- what fits into a word -/
structure ExBd (x : Ex) (cap : Nat) : Prop where
  name : x.name.size ≤ 9223372036854775807
  s : x.s.size ≤ 9223372036854775807
  n0 : -9223372036854775808 ≤ x.n
  n1 : x.n ≤ 9223372036854775807
  kids : x.kids.length ≤ cap
  cap : cap ≤ 9223372036854775807

/-- a list of expressions, of so many levels at most, lies below block B -/
def KA (W : World) (B : Nat) : Nat → List Ex → Option Addr → Prop
  | 0, ks, _ => ks = []
  | d + 1, ks, ao => ks = [] ∨ ∃ b o, ao = some ⟨b, o, none⟩ ∧ b < B ∧ ∀ i (h : i < ks.length), ∃ ao' cap', ExAt W b (o + i * 6) ks[i] ao' cap' ∧ ExBd ks[i] cap' ∧ KA W B d ks[i].kids ao'

theorem ExAt.keep {W W' : World} {B b o : Nat} {x : Ex} {ao : Option Addr} {cap : Nat} (h : ExAt W b o x ao cap) (hb : Below B W W') (hl : b < B) : ExAt W' b o x ao cap :=
  ⟨(hb.cell (p := ⟨b, o, none⟩) hl).trans h.c0, (hb.cell (p := ⟨b, o + 1, none⟩) hl).trans h.c1, (hb.cell (p := ⟨b, o + 2, none⟩) hl).trans h.c2, (hb.cell (p := ⟨b, o + 3, none⟩) hl).trans h.c3, (hb.cell (p := ⟨b, o + 4, none⟩) hl).trans h.c4, (hb.cell (p := ⟨b, o + 5, none⟩) hl).trans h.c5⟩
theorem KA.keep {W W' : World} {B : Nat} (hb : Below B W W') : ∀ {d : Nat} {ks : List Ex} {ao : Option Addr}, KA W B d ks ao → KA W' B d ks ao
  | 0, _, _, h => h
  | d + 1, ks, ao, h => by
    rcases h with h | ⟨b, o, rfl, hl, h⟩
    · exact .inl h
    · exact .inr ⟨b, o, rfl, hl, fun i hi => by
        obtain ⟨ao', cap', h1, h2, h3⟩ := h i hi
        exact ⟨ao', cap', h1.keep hb hl, h2, KA.keep hb h3⟩⟩
theorem KA.mono {W : World} {B B' : Nat} (hB : B ≤ B') : ∀ {d : Nat} {ks : List Ex} {ao : Option Addr}, KA W B d ks ao → KA W B' d ks ao
  | 0, _, _, h => h
  | d + 1, ks, ao, h => by
    rcases h with h | ⟨b, o, rfl, hl, h⟩
    · exact .inl h
    · exact .inr ⟨b, o, rfl, by omega, fun i hi => by
        obtain ⟨ao', cap', h1, h2, h3⟩ := h i hi
        exact ⟨ao', cap', h1, h2, KA.mono hB h3⟩⟩
theorem KA.up {W : World} {B : Nat} : ∀ {d e : Nat} {ks : List Ex} {ao : Option Addr}, d ≤ e → KA W B d ks ao → KA W B e ks ao
  | 0, 0, _, _, _, h => h
  | 0, e + 1, _, _, _, h => .inl h
  | d + 1, 0, _, _, hd, _ => by omega
  | d + 1, e + 1, ks, ao, hd, h => by
    rcases h with h | ⟨b, o, rfl, hl, h⟩
    · exact .inl h
    · exact .inr ⟨b, o, rfl, hl, fun i hi => by
        obtain ⟨ao', cap', h1, h2, h3⟩ := h i hi
        exact ⟨ao', cap', h1, h2, KA.up (by omega) h3⟩⟩
theorem lt_of_cell {W : World} {b o : Nat} {v : Value} (h : W.cell? ⟨b, o, none⟩ = some v) : b < W.heap.size := by
  unfold World.cell? at h
  apply Classical.byContradiction
  intro hn
  have : W.heap[b]? = none := by simp; omega
  simp [this] at h
theorem KA.low {W : World} {B : Nat} : ∀ {d : Nat} {ks : List Ex} {ao : Option Addr}, KA W B d ks ao → KA W W.heap.size d ks ao
  | 0, _, _, h => h
  | d + 1, ks, ao, h => by
    rcases h with h | ⟨b, o, rfl, hl, h⟩
    · exact .inl h
    · by_cases hk : ks = []
      · exact .inl hk
      · have hp : 0 < ks.length := List.length_pos_iff.2 hk
        obtain ⟨_, _, h1, _, _⟩ := h 0 hp
        exact .inr ⟨b, o, rfl, lt_of_cell h1.c0, fun i hi => by
          obtain ⟨ao', cap', h1, h2, h3⟩ := h i hi
          exact ⟨ao', cap', h1, h2, KA.low h3⟩⟩

/-- an expression as a value -/
def exVal (x : Ex) (ao : Option Addr) (cap : Nat) : Value := .agg #[.int .i64 x.kind, .string x.name, .int .i64 x.so, .int .i64 x.n, .string x.s, .slice ao x.kids.length cap]

section
variable {H : Type} {enc : TypeId × Value → H} {W : World} {base : Nat} {spare : Nat → Bool} {held : Bool}
theorem cellsE : Tryz.prog.cellsOf 26 = 6 := by kernel_rfl
theorem cellsV : Tryz.prog.cellsOf 23 = 3 := by kernel_rfl
set_option maxRecDepth 100000 in
theorem openCells : ∀ (fuel : Nat) (cs : List Value) (y : DataW H × List MemPlace), DataW.trod enc Tryz.prog W base spare held fuel 26 cs = some y →
    ∃ (x : Ex) (ao : Option Addr) (cap : Nat), cs = [.int .i64 x.kind, .string x.name, .int .i64 x.so, .int .i64 x.n, .string x.s, .slice ao x.kids.length cap] ∧ ExBd x cap ∧ KA W W.heap.size fuel x.kids ao := by
  intro fuel
  induction fuel using Nat.strongRecOn with
  | _ fuel ih =>
    intro cs y h
    obtain ⟨xs, n, rfl, hy, hlen, hxs, hf⟩ := DataW.trod_struct Tryz.underlying26 h
    have h0 : DataW.trod enc Tryz.prog W base spare held n 3 (List.take 1 (List.drop 0 cs)) = xs[0]? := hf 0 _ rfl
    have h1 : DataW.trod enc Tryz.prog W base spare held n 9 (List.take 1 (List.drop 1 cs)) = xs[1]? := hf 1 _ rfl
    have h2 : DataW.trod enc Tryz.prog W base spare held n 23 (List.take 3 (List.drop 2 cs)) = xs[2]? := hf 2 _ rfl
    have h3 : DataW.trod enc Tryz.prog W base spare held n 24 (List.take 1 (List.drop 5 cs)) = xs[3]? := hf 3 _ rfl
    clear hf hy
    rw [cellsE] at hlen
    match cs, hlen with
    | [a0, a1, a2, a3, a4, a5], _ =>
    match xs, hxs with
    | [x0, x1, x2, x3], _ =>
    simp at h0 h1 h2 h3
    obtain ⟨kd, e0, _, _⟩ := DataW.trod_int Tryz.underlying3 h0
    obtain ⟨nm, e1, _, wn⟩ := DataW.trod_string Tryz.underlying9 h1
    obtain ⟨ys, m, rfl, _, _, hys, hg⟩ := DataW.trod_struct Tryz.underlying23 h2
    have g0 : DataW.trod enc Tryz.prog W base spare held m 3 (List.take 1 (List.drop 0 [a2, a3, a4])) = ys[0]? := hg 0 _ rfl
    have g1 : DataW.trod enc Tryz.prog W base spare held m 2 (List.take 1 (List.drop 1 [a2, a3, a4])) = ys[1]? := hg 1 _ rfl
    have g2 : DataW.trod enc Tryz.prog W base spare held m 9 (List.take 1 (List.drop 2 [a2, a3, a4])) = ys[2]? := hg 2 _ rfl
    match ys, hys with
    | [y0, y1, y2], _ =>
    simp at g0 g1 g2
    obtain ⟨so, e2, _, _⟩ := DataW.trod_int Tryz.underlying3 g0
    obtain ⟨nn, e3, _, wi⟩ := DataW.trod_int Tryz.underlying2 g1
    obtain ⟨s, e4, _, ws⟩ := DataW.trod_string Tryz.underlying9 g2
    simp at e0 e1 e2 e3 e4
    subst e0 e1 e2 e3 e4
    have wi' := bounds_i64 wi
    unfold maxLen at wn ws
    rcases DataW.trod_slice Tryz.underlying24 h3 with ⟨e5, _⟩ | ⟨a, len, cap, elems, rest, k, hk, e5, _, hb, hlc, hcm, hle, hel, _, _⟩
    · simp at e5
      subst e5
      exact ⟨⟨kd, nm, so, nn, s, []⟩, none, 0, rfl, ⟨by simpa using wn, by simpa using ws, by simpa using wi'.1, by simpa using wi'.2, by simp, by omega⟩, .inl rfl⟩
    · simp at e5
      subst e5
      rw [cellsE] at hel
      obtain rfl : m = k := by omega
      unfold maxLen at hcm
      have hall : ∀ i, i < len → ∃ p : Ex × Option Addr × Nat, W.cells? base (a.add (i * 6)) 6 = some [.int .i64 p.1.kind, .string p.1.name, .int .i64 p.1.so, .int .i64 p.1.n, .string p.1.s, .slice p.2.1 p.1.kids.length p.2.2] ∧ ExBd p.1 p.2.2 ∧ KA W W.heap.size m p.1.kids p.2.1 := by
        intro i hi
        have q := hel i hi
        rw [List.getElem?_eq_getElem (by omega)] at q
        obtain ⟨cs', q1, q2⟩ := Option.bind_eq_some_iff.1 q
        obtain ⟨x, ao, cp, rfl, hb', hk'⟩ := ih m (by omega) cs' _ q2
        exact ⟨(x, ao, cp), q1, hb', hk'⟩
      haveI : Inhabited (Ex × Option Addr × Nat) := ⟨(⟨0, ⟨#[]⟩, 0, 0, ⟨#[]⟩, []⟩, none, 0)⟩
      obtain ⟨f, hf⟩ := choose_lt hall
      refine ⟨⟨kd, nm, so, nn, s, (List.range len).map fun i => (f i).1⟩, some a, cap, by simp, ⟨by simpa using wn, by simpa using ws, by simpa using wi'.1, by simpa using wi'.2, by simpa using hlc, hcm⟩, ?_⟩
      by_cases hl0 : len = 0
      · exact .inl (by simp [hl0])
      · obtain ⟨q1, _, _⟩ := hf 0 (by omega)
        have q2 := (World.cells?_some q1).2.2 0 (by omega)
        obtain ⟨b, o, spot⟩ := a
        have hsp : spot = none := by simpa [Addr.add] using World.cell?_spot q2
        subst hsp
        have hcell : ∀ i j, i < len → j < 6 → W.cell? ⟨b, o + i * 6 + j, none⟩ = [Value.int .i64 (f i).1.kind, .string (f i).1.name, .int .i64 (f i).1.so, .int .i64 (f i).1.n, .string (f i).1.s, .slice (f i).2.1 (f i).1.kids.length (f i).2.2][j]? := by
          intro i j hi hj
          obtain ⟨q1, _, _⟩ := hf i hi
          have := (World.cells?_some q1).2.2 j hj
          rw [add_add, Go.WideShapes.add_plain] at this
          rw [Nat.add_assoc]; exact this
        refine .inr ⟨b, o, rfl, lt_of_cell ((hcell 0 0 (by omega) (by omega)).trans rfl), fun i hi => ?_⟩
        have hi' : i < len := by simpa using hi
        have e : ((List.range len).map fun i => (f i).1)[i] = (f i).1 := by simp
        simp only [e]
        exact ⟨(f i).2.1, (f i).2.2, ⟨(hcell i 0 hi' (by omega)).trans rfl, (hcell i 1 hi' (by omega)).trans rfl, (hcell i 2 hi' (by omega)).trans rfl, (hcell i 3 hi' (by omega)).trans rfl, (hcell i 4 hi' (by omega)).trans rfl, (hcell i 5 hi' (by omega)).trans rfl⟩, (hf i hi').2.1, KA.up (by omega) (hf i hi').2.2⟩
set_option maxRecDepth 100000 in
/-- an expression that is handed in -/
theorem openExpr {r : Reach} {b0 : Nat} {v : Value} {d : DataW H} {p : List MemPlace} (hv : Value.okWide Tryz.prog W r b0 26 v) (h : DataW.Trod enc Tryz.prog W base spare held 26 v d p) :
    ∃ (x : Ex) (ao : Option Addr) (cap dp : Nat), v = exVal x ao cap ∧ ExBd x cap ∧ KA W W.heap.size dp x.kids ao := by
  obtain ⟨cs, rfl, hsz⟩ := okWide_struct Tryz.underlying26 hv
  obtain ⟨fuel, hf⟩ := h
  obtain ⟨x, ao, cap, e, h1, h2⟩ := openCells fuel _ _ hf
  refine ⟨x, ao, cap, fuel, ?_, h1, h2⟩
  unfold exVal
  congr 1
  apply Array.toList_inj.1
  simpa [Value.cells] using e
end
end Go.Proofs.YtecapnipkngniaaGreatDoor
/-
  The contract of exprs.isPart, for every expression.
-/
namespace Go.Proofs.YtecapnipkngniaaGreatDoor
open Go.RowKit

theorem empty_toList (s : ByteArray) : s.toList.isEmpty = decide (s = ⟨#[]⟩) := by
  rw [Bool.eq_iff_iff, ByteArray.toList_eq]
  simp
  constructor
  · intro h; exact ByteArray.ext h
  · rintro rfl; rfl

theorem zero_cases (so n : Int) (s : ByteArray) : (so = 0 ∧ n = 0 ∧ s = ⟨#[]⟩) ∨ so ≠ 0 ∨ (so = 0 ∧ n ≠ 0) ∨ (so = 0 ∧ n = 0 ∧ s ≠ ⟨#[]⟩) := by
  by_cases h1 : so = 0
  · by_cases h2 : n = 0
    · by_cases h3 : s = ⟨#[]⟩
      · exact .inl ⟨h1, h2, h3⟩
      · exact .inr (.inr (.inr ⟨h1, h2, h3⟩))
    · exact .inr (.inr (.inl ⟨h1, h2⟩))
  · exact .inr (.inl h1)

theorem keep6 {w w1 : World} {v0 v1 v2 v3 v4 v5 : Value} {T : TypeId} (hb : Below (w.alloc (.cells #[v0, v1, v2, v3, v4, v5] T)).heap.size (w.alloc (.cells #[v0, v1, v2, v3, v4, v5] T)) w1) :
    w1.cell? ⟨w.heap.size, 0, none⟩ = some v0 ∧ w1.cell? ⟨w.heap.size, 1, none⟩ = some v1 ∧ w1.cell? ⟨w.heap.size, 2, none⟩ = some v2 ∧ w1.cell? ⟨w.heap.size, 3, none⟩ = some v3 ∧ w1.cell? ⟨w.heap.size, 4, none⟩ = some v4 ∧ w1.cell? ⟨w.heap.size, 5, none⟩ = some v5 ∧ Below w.heap.size w w1 := by
  obtain ⟨hc1, _⟩ := bcell hb
  exact ⟨(hc1 _ 0 (by simp)).trans (by go_cell), (hc1 _ 1 (by simp)).trans (by go_cell), (hc1 _ 2 (by simp)).trans (by go_cell), (hc1 _ 3 (by simp)).trans (by go_cell), (hc1 _ 4 (by simp)).trans (by go_cell), (hc1 _ 5 (by simp)).trans (by go_cell), ((Below.refl _ _).alloc (Nat.le_refl _) _).trans (hb.mono (by simp))⟩

set_option maxHeartbeats 1000000 in
theorem isPart_any (x : Ex) (ao : Option Addr) (cap : Nat) (w : World) (hb : ExBd x cap) :
    Calls Tryz.prog 67 #[exVal x ao cap] w fun e w' => e = .returned (.bool (partOK x)) ∧ Below w.heap.size w w' := by
  obtain ⟨kd, nm, so, n, s, ks⟩ := x
  obtain ⟨hnm, _, _, _, hks, hcp⟩ := hb
  simp only at hnm hks
  have cN := isName_any nm
  have cO := isOperator_any nm ks.length
  have hp1 : kd = 1 → partOK ⟨kd, nm, so, n, s, ks⟩ = (nm.toList.isEmpty && decide (ks.length = 0)) := by
    intro h; rw [empty_toList]; simp [partOK, h]
  have hp2 : kd = 2 → partOK ⟨kd, nm, so, n, s, ks⟩ = (isNm nm.data.toList && decide (so = 0 ∧ n = 0 ∧ s = ⟨#[]⟩) && decide (ks.length = 0)) := by
    intro h; unfold partOK; rw [if_neg (by simp [h]), if_pos h]
    rw [Bool.eq_iff_iff]; simp only [Bool.and_eq_true, decide_eq_true_eq, and_assoc]
  have hp3 : kd = 3 → partOK ⟨kd, nm, so, n, s, ks⟩ = (decide (so = 0 ∧ n = 0 ∧ s = ⟨#[]⟩) && isOp nm.data.toList ks.length) := by
    intro h; unfold partOK; rw [if_neg (by simp [h]), if_neg (by simp [h]), if_pos h]
  have hp4 : kd ≠ 1 → kd ≠ 2 → kd ≠ 3 → partOK ⟨kd, nm, so, n, s, ks⟩ = false := by
    intro h h' h''; unfold partOK; rw [if_neg h, if_neg h', if_neg h'']
  generalize partOK ⟨kd, nm, so, n, s, ks⟩ = r at hp1 hp2 hp3 hp4 ⊢
  unfold exVal
  simp only
  generalize ks.length = k at hks cO hp1 hp2 hp3 ⊢
  have hkz : (k : Int) ≤ 9223372036854775807 := by omega
  by_cases h1 : kd = 1
  · subst h1
    rw [hp1 rfl]
    clear hp1 hp2 hp3 hp4 cN cO
    by_cases hk0 : k = 0
    · subst hk0
      cases hne : nm.toList.isEmpty
      all_goals
        go_enter Tryz.func67, Tryz.ntmps67
        go_wp2_with fail
        go_ret
        exact ⟨rfl, by go_grown⟩
    · have b0 : ((k : Int) == 0) = false := by simp; omega
      rw [show decide (k = 0) = false by simp [hk0], Bool.and_false]
      cases hne : nm.toList.isEmpty
      all_goals
        go_enter Tryz.func67, Tryz.ntmps67
        go_wp2_with fail
        go_ret
        exact ⟨rfl, by go_grown⟩
  · have k1 : (kd == 1) = false := by simpa using h1
    by_cases h2 : kd = 2
    · subst h2
      rw [hp2 rfl]
      clear hp1 hp2 hp3 hp4 cO
      have cN := fun W => cN W hnm
      generalize isNm nm.data.toList = q at cN ⊢
      have CN : Hid (∀ W : World, Calls Tryz.prog 101 #[.string nm] W fun e w' => e = .returned (.bool q) ∧ Below W.heap.size W w') := cN
      clear cN
      cases q
      · rw [Bool.false_and, Bool.false_and]
        go_enter Tryz.func67, Tryz.ntmps67
        go_wp2_with (go_at_call 101; refine (CN.out _).mono ?_; rintro e w1 ⟨rfl, hb1⟩; obtain ⟨x0, x1, x2, x3, x4, x5, hbw⟩ := keep6 hb1; clear hb1)
        go_ret
        exact ⟨rfl, hbw⟩
      · rw [Bool.true_and]
        rcases zero_cases so n s with ⟨rfl, rfl, rfl⟩ | hz | ⟨rfl, hz⟩ | ⟨rfl, rfl, hz⟩
        · rw [show decide ((0 : Int) = 0 ∧ (0 : Int) = 0 ∧ (⟨#[]⟩ : ByteArray) = ⟨#[]⟩) = true by simp, Bool.true_and]
          by_cases hk0 : k = 0
          · subst hk0
            go_enter Tryz.func67, Tryz.ntmps67
            go_wp2_with (go_at_call 101; refine (CN.out _).mono ?_; rintro e w1 ⟨rfl, hb1⟩; obtain ⟨x0, x1, x2, x3, x4, x5, hbw⟩ := keep6 hb1; clear hb1)
            go_ret
            exact ⟨rfl, hbw⟩
          · have b0 : ((k : Int) == 0) = false := by simp; omega
            rw [show decide (k = 0) = false by simp [hk0]]
            go_enter Tryz.func67, Tryz.ntmps67
            go_wp2_with (go_at_call 101; refine (CN.out _).mono ?_; rintro e w1 ⟨rfl, hb1⟩; obtain ⟨x0, x1, x2, x3, x4, x5, hbw⟩ := keep6 hb1; clear hb1)
            go_ret
            exact ⟨rfl, hbw⟩
        · have b1 : (so == 0) = false := by simpa using hz
          rw [show decide (so = 0 ∧ n = 0 ∧ s = ⟨#[]⟩) = false by simp [hz], Bool.false_and]
          go_enter Tryz.func67, Tryz.ntmps67
          go_wp2_with (go_at_call 101; refine (CN.out _).mono ?_; rintro e w1 ⟨rfl, hb1⟩; obtain ⟨x0, x1, x2, x3, x4, x5, hbw⟩ := keep6 hb1; clear hb1)
          go_ret
          exact ⟨rfl, hbw⟩
        · have b1 : (n == 0) = false := by simpa using hz
          rw [show decide ((0 : Int) = 0 ∧ n = 0 ∧ s = ⟨#[]⟩) = false by simp [hz], Bool.false_and]
          go_enter Tryz.func67, Tryz.ntmps67
          go_wp2_with (go_at_call 101; refine (CN.out _).mono ?_; rintro e w1 ⟨rfl, hb1⟩; obtain ⟨x0, x1, x2, x3, x4, x5, hbw⟩ := keep6 hb1; clear hb1)
          go_ret
          exact ⟨rfl, hbw⟩
        · have b1 : s.toList.isEmpty = false := by rw [empty_toList]; simpa using hz
          rw [show decide ((0 : Int) = 0 ∧ (0 : Int) = 0 ∧ s = ⟨#[]⟩) = false by simp [hz], Bool.false_and]
          go_enter Tryz.func67, Tryz.ntmps67
          go_wp2_with (go_at_call 101; refine (CN.out _).mono ?_; rintro e w1 ⟨rfl, hb1⟩; obtain ⟨x0, x1, x2, x3, x4, x5, hbw⟩ := keep6 hb1; clear hb1)
          go_ret
          exact ⟨rfl, hbw⟩
    · have k2 : (kd == 2) = false := by simpa using h2
      by_cases h3 : kd = 3
      · subst h3
        rw [hp3 rfl]
        clear hp1 hp2 hp3 hp4 cN
        generalize isOp nm.data.toList k = q at cO ⊢
        have CO : Hid (∀ W : World, Calls Tryz.prog 102 #[.string nm, .int .i64 (k : Int)] W fun e w' => e = .returned (.bool q) ∧ w' = W) := cO
        clear cO
        rcases zero_cases so n s with ⟨rfl, rfl, rfl⟩ | hz | ⟨rfl, hz⟩ | ⟨rfl, rfl, hz⟩
        · rw [show decide ((0 : Int) = 0 ∧ (0 : Int) = 0 ∧ (⟨#[]⟩ : ByteArray) = ⟨#[]⟩) = true by simp, Bool.true_and]
          go_enter Tryz.func67, Tryz.ntmps67
          go_wp2_with (go_at_call 102; refine (CO.out _).mono ?_; rintro e w1 ⟨rfl, rfl⟩)
          go_ret
          exact ⟨rfl, by go_grown⟩
        · have b1 : (so == 0) = false := by simpa using hz
          rw [show decide (so = 0 ∧ n = 0 ∧ s = ⟨#[]⟩) = false by simp [hz], Bool.false_and]
          go_enter Tryz.func67, Tryz.ntmps67
          go_wp2_with fail
          go_ret
          exact ⟨rfl, by go_grown⟩
        · have b1 : (n == 0) = false := by simpa using hz
          rw [show decide ((0 : Int) = 0 ∧ n = 0 ∧ s = ⟨#[]⟩) = false by simp [hz], Bool.false_and]
          go_enter Tryz.func67, Tryz.ntmps67
          go_wp2_with fail
          go_ret
          exact ⟨rfl, by go_grown⟩
        · have b1 : s.toList.isEmpty = false := by rw [empty_toList]; simpa using hz
          rw [show decide ((0 : Int) = 0 ∧ (0 : Int) = 0 ∧ s = ⟨#[]⟩) = false by simp [hz], Bool.false_and]
          go_enter Tryz.func67, Tryz.ntmps67
          go_wp2_with fail
          go_ret
          exact ⟨rfl, by go_grown⟩
      · have k3 : (kd == 3) = false := by simpa using h3
        rw [hp4 h1 h2 h3]
        clear hp1 hp2 hp3 hp4 cN cO
        go_enter Tryz.func67, Tryz.ntmps67
        go_wp2_with fail
        go_ret
        exact ⟨rfl, by go_grown⟩
end Go.Proofs.YtecapnipkngniaaGreatDoor
