/-
  Plain: a value and an expression as data.
-/
import Derived.WalkKit
import Derived.Test.YtipolobikigmbaaGreatDoorProg
import Derived.Handy
import Derived.Deep.Slices
import Derived.Lib.SmallJoins
import Derived.OpenShut
import Derived.WalkSpells
import Derived.WalkLawsBesides
import Derived.Deep.QuietTactic
import Derived.BigQuiet
import Derived.Lib.Bytealg
namespace Go.Proofs.YtipolobikigmbaaGreatDoor

structure Vl where
  so : Int
  n : Int
  s : ByteArray
structure Ex where
  kind : Int
  name : ByteArray
  so : Int
  n : Int
  s : ByteArray
  kids : List Ex
end Go.Proofs.YtipolobikigmbaaGreatDoor
/-
  How an expression lies in memory, that it stays so where nothing old is turned, and that every expression that is handed in lies so.
-/
namespace Go.Proofs.YtipolobikigmbaaGreatDoor
open Go.RowKit Go.Deep Go.Joins Go.ChangeShapes Go.WideShapes

/-- the six cells of an expression -/
structure ExAt (W : World) (b o : Nat) (x : Ex) (ao : Option Addr) (cap : Nat) : Prop where
  c0 : W.cell? ⟨b, o, none⟩ = some (.int .i64 x.kind)
  c1 : W.cell? ⟨b, o + 1, none⟩ = some (.string x.name)
  c2 : W.cell? ⟨b, o + 2, none⟩ = some (.int .i64 x.so)
  c3 : W.cell? ⟨b, o + 3, none⟩ = some (.int .i64 x.n)
  c4 : W.cell? ⟨b, o + 4, none⟩ = some (.string x.s)
  c5 : W.cell? ⟨b, o + 5, none⟩ = some (.slice ao x.kids.length cap)
/-- what fits into a word -/
structure ExBd (x : Ex) (cap : Nat) : Prop where
  name : x.name.size ≤ 9223372036854775807
  s : x.s.size ≤ 9223372036854775807
  n0 : -9223372036854775808 ≤ x.n
  n1 : x.n ≤ 9223372036854775807
  kids : x.kids.length ≤ cap
  cap : cap ≤ 9223372036854775807

/-- a list of expressions, of so many levels at most, lies below block B -/
def KA (W : World) (B : Nat) : Nat → List Ex → Option Addr → Prop
  | 0, ks, _ => ks = []
  | d + 1, ks, ao => ks = [] ∨ ∃ b o, ao = some ⟨b, o, none⟩ ∧ b < B ∧ ∀ i (h : i < ks.length), ∃ ao' cap', ExAt W b (o + i * 6) ks[i] ao' cap' ∧ ExBd ks[i] cap' ∧ KA W B d ks[i].kids ao'

theorem ExAt.keep {W W' : World} {B b o : Nat} {x : Ex} {ao : Option Addr} {cap : Nat} (h : ExAt W b o x ao cap) (hb : Below B W W') (hl : b < B) : ExAt W' b o x ao cap :=
  ⟨(hb.cell (p := ⟨b, o, none⟩) hl).trans h.c0, (hb.cell (p := ⟨b, o + 1, none⟩) hl).trans h.c1, (hb.cell (p := ⟨b, o + 2, none⟩) hl).trans h.c2, (hb.cell (p := ⟨b, o + 3, none⟩) hl).trans h.c3, (hb.cell (p := ⟨b, o + 4, none⟩) hl).trans h.c4, (hb.cell (p := ⟨b, o + 5, none⟩) hl).trans h.c5⟩
theorem KA.keep {W W' : World} {B : Nat} (hb : Below B W W') : ∀ {d : Nat} {ks : List Ex} {ao : Option Addr}, KA W B d ks ao → KA W' B d ks ao
  | 0, _, _, h => h
  | d + 1, ks, ao, h => by
    rcases h with h | ⟨b, o, rfl, hl, h⟩
    · exact .inl h
    · exact .inr ⟨b, o, rfl, hl, fun i hi => by
        obtain ⟨ao', cap', h1, h2, h3⟩ := h i hi
        exact ⟨ao', cap', h1.keep hb hl, h2, KA.keep hb h3⟩⟩
theorem KA.mono {W : World} {B B' : Nat} (hB : B ≤ B') : ∀ {d : Nat} {ks : List Ex} {ao : Option Addr}, KA W B d ks ao → KA W B' d ks ao
  | 0, _, _, h => h
  | d + 1, ks, ao, h => by
    rcases h with h | ⟨b, o, rfl, hl, h⟩
    · exact .inl h
    · exact .inr ⟨b, o, rfl, by omega, fun i hi => by
        obtain ⟨ao', cap', h1, h2, h3⟩ := h i hi
        exact ⟨ao', cap', h1, h2, KA.mono hB h3⟩⟩
theorem KA.up {W : World} {B : Nat} : ∀ {d e : Nat} {ks : List Ex} {ao : Option Addr}, d ≤ e → KA W B d ks ao → KA W B e ks ao
  | 0, 0, _, _, _, h => h
  | 0, e + 1, _, _, _, h => .inl h
  | d + 1, 0, _, _, hd, _ => by omega
  | d + 1, e + 1, ks, ao, hd, h => by
    rcases h with h | ⟨b, o, rfl, hl, h⟩
    · exact .inl h
    · exact .inr ⟨b, o, rfl, hl, fun i hi => by
        obtain ⟨ao', cap', h1, h2, h3⟩ := h i hi
        exact ⟨ao', cap', h1, h2, KA.up (by omega) h3⟩⟩
theorem lt_of_cell {W : World} {b o : Nat} {v : Value} (h : W.cell? ⟨b, o, none⟩ = some v) : b < W.heap.size := by
  unfold World.cell? at h
  apply Classical.byContradiction
  intro hn
  have : W.heap[b]? = none := by simp; omega
  simp [this] at h
theorem KA.low {W : World} {B : Nat} : ∀ {d : Nat} {ks : List Ex} {ao : Option Addr}, KA W B d ks ao → KA W W.heap.size d ks ao
  | 0, _, _, h => h
  | d + 1, ks, ao, h => by
    rcases h with h | ⟨b, o, rfl, hl, h⟩
    · exact .inl h
    · by_cases hk : ks = []
      · exact .inl hk
      · have hp : 0 < ks.length := List.length_pos_iff.2 hk
        obtain ⟨_, _, h1, _, _⟩ := h 0 hp
        exact .inr ⟨b, o, rfl, lt_of_cell h1.c0, fun i hi => by
          obtain ⟨ao', cap', h1, h2, h3⟩ := h i hi
          exact ⟨ao', cap', h1, h2, KA.low h3⟩⟩

/-- an expression as a value -/
def exVal (x : Ex) (ao : Option Addr) (cap : Nat) : Value := .agg #[.int .i64 x.kind, .string x.name, .int .i64 x.so, .int .i64 x.n, .string x.s, .slice ao x.kids.length cap]

section
variable {H : Type} {enc : TypeId × Value → H} {W : World} {base : Nat} {spare : Nat → Bool} {held : Bool}
theorem cellsE : Tryz.prog.cellsOf 39 = 6 := by kernel_rfl
theorem cellsV : Tryz.prog.cellsOf 36 = 3 := by kernel_rfl
set_option maxRecDepth 100000 in
theorem openCells : ∀ (fuel : Nat) (cs : List Value) (y : DataW H × List MemPlace), DataW.trod enc Tryz.prog W base spare held fuel 39 cs = some y →
    ∃ (x : Ex) (ao : Option Addr) (cap : Nat), cs = [.int .i64 x.kind, .string x.name, .int .i64 x.so, .int .i64 x.n, .string x.s, .slice ao x.kids.length cap] ∧ ExBd x cap ∧ KA W W.heap.size fuel x.kids ao := by
  intro fuel
  induction fuel using Nat.strongRecOn with
  | _ fuel ih =>
    intro cs y h
    obtain ⟨xs, n, rfl, hy, hlen, hxs, hf⟩ := DataW.trod_struct Tryz.underlying39 h
    have h0 : DataW.trod enc Tryz.prog W base spare held n 3 (List.take 1 (List.drop 0 cs)) = xs[0]? := hf 0 _ rfl
    have h1 : DataW.trod enc Tryz.prog W base spare held n 9 (List.take 1 (List.drop 1 cs)) = xs[1]? := hf 1 _ rfl
    have h2 : DataW.trod enc Tryz.prog W base spare held n 36 (List.take 3 (List.drop 2 cs)) = xs[2]? := hf 2 _ rfl
    have h3 : DataW.trod enc Tryz.prog W base spare held n 37 (List.take 1 (List.drop 5 cs)) = xs[3]? := hf 3 _ rfl
    clear hf hy
    rw [cellsE] at hlen
    match cs, hlen with
    | [a0, a1, a2, a3, a4, a5], _ =>
    match xs, hxs with
    | [x0, x1, x2, x3], _ =>
    simp at h0 h1 h2 h3
    obtain ⟨kd, e0, _, _⟩ := DataW.trod_int Tryz.underlying3 h0
    obtain ⟨nm, e1, _, wn⟩ := DataW.trod_string Tryz.underlying9 h1
    obtain ⟨ys, m, rfl, _, _, hys, hg⟩ := DataW.trod_struct Tryz.underlying36 h2
    have g0 : DataW.trod enc Tryz.prog W base spare held m 3 (List.take 1 (List.drop 0 [a2, a3, a4])) = ys[0]? := hg 0 _ rfl
    have g1 : DataW.trod enc Tryz.prog W base spare held m 2 (List.take 1 (List.drop 1 [a2, a3, a4])) = ys[1]? := hg 1 _ rfl
    have g2 : DataW.trod enc Tryz.prog W base spare held m 9 (List.take 1 (List.drop 2 [a2, a3, a4])) = ys[2]? := hg 2 _ rfl
    match ys, hys with
    | [y0, y1, y2], _ =>
    simp at g0 g1 g2
    obtain ⟨so, e2, _, _⟩ := DataW.trod_int Tryz.underlying3 g0
    obtain ⟨nn, e3, _, wi⟩ := DataW.trod_int Tryz.underlying2 g1
    obtain ⟨s, e4, _, ws⟩ := DataW.trod_string Tryz.underlying9 g2
    simp at e0 e1 e2 e3 e4
    subst e0 e1 e2 e3 e4
    have wi' := bounds_i64 wi
    unfold maxLen at wn ws
    rcases DataW.trod_slice Tryz.underlying37 h3 with ⟨e5, _⟩ | ⟨a, len, cap, elems, rest, k, hk, e5, _, hb, hlc, hcm, hle, hel, _, _⟩
    · simp at e5
      subst e5
      exact ⟨⟨kd, nm, so, nn, s, []⟩, none, 0, rfl, ⟨by simpa using wn, by simpa using ws, by simpa using wi'.1, by simpa using wi'.2, by simp, by omega⟩, .inl rfl⟩
    · simp at e5
      subst e5
      rw [cellsE] at hel
      obtain rfl : m = k := by omega
      unfold maxLen at hcm
      have hall : ∀ i, i < len → ∃ p : Ex × Option Addr × Nat, W.cells? base (a.add (i * 6)) 6 = some [.int .i64 p.1.kind, .string p.1.name, .int .i64 p.1.so, .int .i64 p.1.n, .string p.1.s, .slice p.2.1 p.1.kids.length p.2.2] ∧ ExBd p.1 p.2.2 ∧ KA W W.heap.size m p.1.kids p.2.1 := by
        intro i hi
        have q := hel i hi
        rw [List.getElem?_eq_getElem (by omega)] at q
        obtain ⟨cs', q1, q2⟩ := Option.bind_eq_some_iff.1 q
        obtain ⟨x, ao, cp, rfl, hb', hk'⟩ := ih m (by omega) cs' _ q2
        exact ⟨(x, ao, cp), q1, hb', hk'⟩
      haveI : Inhabited (Ex × Option Addr × Nat) := ⟨(⟨0, ⟨#[]⟩, 0, 0, ⟨#[]⟩, []⟩, none, 0)⟩
      obtain ⟨f, hf⟩ := choose_lt hall
      refine ⟨⟨kd, nm, so, nn, s, (List.range len).map fun i => (f i).1⟩, some a, cap, by simp, ⟨by simpa using wn, by simpa using ws, by simpa using wi'.1, by simpa using wi'.2, by simpa using hlc, hcm⟩, ?_⟩
      by_cases hl0 : len = 0
      · exact .inl (by simp [hl0])
      · obtain ⟨q1, _, _⟩ := hf 0 (by omega)
        have q2 := (World.cells?_some q1).2.2 0 (by omega)
        obtain ⟨b, o, spot⟩ := a
        have hsp : spot = none := by simpa [Addr.add] using World.cell?_spot q2
        subst hsp
        have hcell : ∀ i j, i < len → j < 6 → W.cell? ⟨b, o + i * 6 + j, none⟩ = [Value.int .i64 (f i).1.kind, .string (f i).1.name, .int .i64 (f i).1.so, .int .i64 (f i).1.n, .string (f i).1.s, .slice (f i).2.1 (f i).1.kids.length (f i).2.2][j]? := by
          intro i j hi hj
          obtain ⟨q1, _, _⟩ := hf i hi
          have := (World.cells?_some q1).2.2 j hj
          rw [add_add, Go.WideShapes.add_plain] at this
          rw [Nat.add_assoc]; exact this
        refine .inr ⟨b, o, rfl, lt_of_cell ((hcell 0 0 (by omega) (by omega)).trans rfl), fun i hi => ?_⟩
        have hi' : i < len := by simpa using hi
        have e : ((List.range len).map fun i => (f i).1)[i] = (f i).1 := by simp
        simp only [e]
        exact ⟨(f i).2.1, (f i).2.2, ⟨(hcell i 0 hi' (by omega)).trans rfl, (hcell i 1 hi' (by omega)).trans rfl, (hcell i 2 hi' (by omega)).trans rfl, (hcell i 3 hi' (by omega)).trans rfl, (hcell i 4 hi' (by omega)).trans rfl, (hcell i 5 hi' (by omega)).trans rfl⟩, (hf i hi').2.1, KA.up (by omega) (hf i hi').2.2⟩
set_option maxRecDepth 100000 in
/-- an expression that is handed in -/
theorem openExpr {r : Reach} {b0 : Nat} {v : Value} {d : DataW H} {p : List MemPlace} (hv : Value.okWide Tryz.prog W r b0 39 v) (h : DataW.Trod enc Tryz.prog W base spare held 39 v d p) :
    ∃ (x : Ex) (ao : Option Addr) (cap dp : Nat), v = exVal x ao cap ∧ ExBd x cap ∧ KA W W.heap.size dp x.kids ao := by
  obtain ⟨cs, rfl, hsz⟩ := okWide_struct Tryz.underlying39 hv
  obtain ⟨fuel, hf⟩ := h
  obtain ⟨x, ao, cap, e, h1, h2⟩ := openCells fuel _ _ hf
  refine ⟨x, ao, cap, fuel, ?_, h1, h2⟩
  unfold exVal
  congr 1
  apply Array.toList_inj.1
  simpa [Value.cells] using e
end
end Go.Proofs.YtipolobikigmbaaGreatDoor

/-
  Plain mathematics: the levels and sorts of operators, names, and what is reckoned with numbers of 64 bits.
-/
namespace Go.Proofs.YtipolobikigmbaaGreatDoor
open Go.RowKit

/-- the level of an operator of two -/
def lvl (l : List UInt8) : Int :=
  if l = [111, 114] then 1 else if l = [97, 110, 100] then 2 else if l = [61, 61] ∨ l = [60] ∨ l = [60, 61] then 3
  else if l = [43] ∨ l = [45] ∨ l = [43, 43] then 4 else if l = [42] ∨ l = [47] ∨ l = [37] then 5 else 0
def isOp (l : List UInt8) (k : Nat) : Bool :=
  if k = 1 then decide (l = [110, 111, 116] ∨ l = [110, 101, 103] ∨ l = [35]) else if k = 2 then decide (0 < lvl l) else false
def isLow (c : UInt8) : Bool := decide (97 ≤ c.toNat ∧ c.toNat ≤ 122)
def isNm (l : List UInt8) : Bool :=
  if l = [116, 114, 117, 101] ∨ l = [102, 97, 108, 115, 101] ∨ l = [97, 110, 100] ∨ l = [111, 114] ∨ l = [110, 111, 116] then false
  else decide (1 ≤ l.length ∧ l.length ≤ 8) && l.all isLow
/-- the sort of what an operator is of, and its own -/
def opS (l : List UInt8) : Int × Int :=
  if l = [111, 114] ∨ l = [97, 110, 100] ∨ l = [110, 111, 116] then (2, 2)
  else if l = [61, 61] ∨ l = [60] ∨ l = [60, 61] then (0, 2)
  else if l = [43, 43] then (3, 3)
  else if l = [35] then (3, 1)
  else (1, 1)
def isCmp (l : List UInt8) : Bool := decide (lvl l = 3)
def w64 (z : Int) : Int := wrap64 z
def quoZ (a b : Int) : Int := if b = 0 then 0 else w64 (a.tdiv b)
def numZ (l : List UInt8) (a b : Int) : Int :=
  if l = [43] then w64 (a + b) else if l = [45] then w64 (a - b) else if l = [42] then w64 (a * b) else if l = [47] then quoZ a b else w64 (a - w64 (quoZ a b * b))
end Go.Proofs.YtipolobikigmbaaGreatDoor

/-
  The contracts of exprs.level, isOperator, isComparison, operatorSorts, truth, number, quotient and reckonNumbers, each for every input.
-/
namespace Go.Proofs.YtipolobikigmbaaGreatDoor
open Go.RowKit

theorem beqL (s : ByteArray) (l : List UInt8) : (s.toList == l) = decide (s.data.toList = l) := by
  rw [ByteArray.toList_eq, Bool.eq_iff_iff]; simp

set_option maxHeartbeats 400000 in
theorem level_any (op : ByteArray) (w : World) :
    Calls Tryz.prog 60 #[.string op] w fun e w' => e = .returned (.int .i64 (lvl op.data.toList)) ∧ w' = w := by
  go_enter Tryz.func60, Tryz.ntmps60
  go_wp2
  all_goals
    first
      | (exfalso; simp_all; done)
      | (go_ret; refine ⟨?_, rfl⟩; rw [← ByteArray.toList_eq]; simp_all [lvl]; done)

set_option maxHeartbeats 400000 in
theorem isOperator_any (op : ByteArray) (k : Nat) (w : World) :
    Calls Tryz.prog 125 #[.string op, .int .i64 (k : Int)] w fun e w' => e = .returned (.bool (isOp op.data.toList k)) ∧ w' = w := by
  have c1 := level_any op w
  by_cases h1 : k = 1
  · subst h1
    clear c1
    have e1 : isOp op.data.toList 1 = (op.toList == [110, 111, 116] || op.toList == [110, 101, 103] || op.toList == [35]) := by
      simp only [beqL]; unfold isOp; rw [if_pos rfl, Bool.eq_iff_iff]; simp [or_assoc]
    rw [e1]
    clear e1
    cases hA : op.toList == [110, 111, 116] <;> cases hB : op.toList == [110, 101, 103] <;> cases hC : op.toList == [35]
    all_goals
      go_enter Tryz.func125, Tryz.ntmps125
      go_wp2_with fail
      go_ret
      exact ⟨rfl, rfl⟩
  · by_cases h2 : k = 2
    · subst h2
      have e1 : isOp op.data.toList 2 = decide (0 < lvl op.data.toList) := by unfold isOp; rw [if_neg (by omega), if_pos rfl]
      rw [e1]
      generalize lvl op.data.toList = z at c1 ⊢
      go_enter Tryz.func125, Tryz.ntmps125
      go_wp2_with (go_at_call 60; refine c1.mono ?_; rintro e w1 ⟨rfl, rfl⟩)
      go_ret
      exact ⟨by simp, rfl⟩
    · have e1 : isOp op.data.toList k = false := by unfold isOp; rw [if_neg h1, if_neg h2]
      have b1 : ((k : Int) == 1) = false := by simp; omega
      have b2 : ((k : Int) == 2) = false := by simp; omega
      rw [e1]
      clear c1 e1
      go_enter Tryz.func125, Tryz.ntmps125
      go_wp2_with fail
      go_ret
      exact ⟨rfl, rfl⟩

end Go.Proofs.YtipolobikigmbaaGreatDoor

/-
  Plain mathematics, no program: the comparison of integers, of lists of bytes, and of pairs one behind the other are each one of all values (opposite one way round and the other, 0 just for the same, and it goes on from one to the next), for every argument.
-/
namespace Go.Proofs.YtipolobikigmbaaGreatDoor
open Go

def cmpZ (a b : Int) : Int := if a < b then -1 else if b < a then 1 else 0
def firstNZ : List Int → Int
  | [] => 0
  | x :: r => if x = 0 then firstNZ r else x

/-- a comparison that is one of all values -/
structure GoodCmp {T : Type} (c : T → T → Int) : Prop where
  rng : ∀ a b, c a b = -1 ∨ c a b = 0 ∨ c a b = 1
  opp : ∀ a b, c a b = - c b a
  eq0 : ∀ a b, c a b = 0 ↔ a = b
  tr : ∀ a b d, c a b ≤ 0 → c b d ≤ 0 → c a d = min (c a b) (c b d)

theorem good_cmpZ : GoodCmp cmpZ where
  rng a b := by unfold cmpZ; repeat' split
                all_goals omega
  opp a b := by unfold cmpZ; repeat' split
                all_goals omega
  eq0 a b := by unfold cmpZ; repeat' split
                all_goals omega
  tr a b d h1 h2 := by
    unfold cmpZ at *
    repeat' split at h1
    all_goals (repeat' split at h2)
    all_goals (repeat' split)
    all_goals omega

theorem cb_rng : ∀ a b, Lib.compareBytes a b = -1 ∨ Lib.compareBytes a b = 0 ∨ Lib.compareBytes a b = 1
  | [], [] => by simp [Lib.compareBytes]
  | [], _ :: _ => by simp [Lib.compareBytes]
  | _ :: _, [] => by simp [Lib.compareBytes]
  | a :: aas, b :: bs => by
    unfold Lib.compareBytes
    have := cb_rng aas bs
    split
    · omega
    · split
      · omega
      · exact this

theorem u8_lt_or (a b : UInt8) : a < b ∨ a = b ∨ b < a := by
  rcases Nat.lt_trichotomy a.toNat b.toNat with h | h | h
  · exact .inl (UInt8.lt_iff_toNat_lt.2 h)
  · exact .inr (.inl (UInt8.toNat_inj.1 h))
  · exact .inr (.inr (UInt8.lt_iff_toNat_lt.2 h))
theorem u8_irr (a : UInt8) : ¬ a < a := by simp
theorem u8_asym {a b : UInt8} (h : a < b) : ¬ b < a := by simp only [UInt8.lt_iff_toNat_lt] at *; omega
theorem u8_trans {a b c : UInt8} (h : a < b) (h' : b < c) : a < c := by simp only [UInt8.lt_iff_toNat_lt] at *; omega

theorem cb_opp : ∀ a b, Lib.compareBytes a b = - Lib.compareBytes b a
  | [], [] => by simp [Lib.compareBytes]
  | [], _ :: _ => by simp [Lib.compareBytes]
  | _ :: _, [] => by simp [Lib.compareBytes]
  | a :: aas, b :: bs => by
    unfold Lib.compareBytes
    have ih := cb_opp aas bs
    rcases u8_lt_or a b with h | h | h
    · simp [h, u8_asym h]
    · subst h; simp [ih]
    · simp [h, u8_asym h]

theorem cb_eq0 : ∀ a b, Lib.compareBytes a b = 0 ↔ a = b
  | [], [] => by simp [Lib.compareBytes]
  | [], _ :: _ => by simp [Lib.compareBytes]
  | _ :: _, [] => by simp [Lib.compareBytes]
  | a :: aas, b :: bs => by
    unfold Lib.compareBytes
    have ih := cb_eq0 aas bs
    rcases u8_lt_or a b with h | h | h
    · have : a ≠ b := fun e => by subst e; exact u8_irr a h
      simp [h, this]
    · subst h; simp [ih]
    · have : a ≠ b := fun e => by subst e; exact u8_irr a h
      simp [h, u8_asym h, this]

theorem cb_tr : ∀ a b d, Lib.compareBytes a b ≤ 0 → Lib.compareBytes b d ≤ 0 → Lib.compareBytes a d = min (Lib.compareBytes a b) (Lib.compareBytes b d)
  | [], [], [], _, _ => by simp [Lib.compareBytes]
  | [], [], _ :: _, _, _ => by simp [Lib.compareBytes]; omega
  | [], _ :: _, [], _, h => by simp [Lib.compareBytes] at h
  | _ :: _, [], _, h, _ => by simp [Lib.compareBytes] at h
  | _ :: _, _ :: _, [], _, h => by simp [Lib.compareBytes] at h
  | [], b :: bs, d :: ds, _, h => by
    have := cb_rng (b :: bs) (d :: ds)
    have e1 : Lib.compareBytes [] (d :: ds) = -1 := by simp [Lib.compareBytes]
    have e2 : Lib.compareBytes [] (b :: bs) = -1 := by simp [Lib.compareBytes]
    rw [e1, e2]; omega
  | a :: aas, b :: bs, d :: ds, h1, h2 => by
    have ih := cb_tr aas bs ds
    have r1 := cb_rng aas bs
    have r2 := cb_rng bs ds
    unfold Lib.compareBytes at h1 h2 ⊢
    rcases u8_lt_or a b with h | h | h
    · rcases u8_lt_or b d with g | g | g
      · simp [h, g, u8_trans h g]
      · subst g; simp [h] at h2 ⊢; omega
      · simp [g, u8_asym g] at h2
    · subst h
      rcases u8_lt_or a d with g | g | g
      · simp [g] at h1 ⊢; omega
      · subst g; simp at h1 h2 ⊢; exact ih h1 h2
      · simp [g, u8_asym g] at h2
    · simp [h, u8_asym h] at h1

theorem good_cb : GoodCmp Lib.compareBytes := ⟨cb_rng, cb_opp, cb_eq0, cb_tr⟩

theorem good_pair {S T : Type} {c : S → S → Int} {d : T → T → Int} (hc : GoodCmp c) (hd : GoodCmp d) : GoodCmp (fun (a b : S × T) => firstNZ [c a.1 b.1, d a.2 b.2]) where
  rng a b := by
    have := hc.rng a.1 b.1; have := hd.rng a.2 b.2
    simp only [firstNZ]; repeat' split
    all_goals omega
  opp a b := by
    have := hc.opp a.1 b.1; have := hd.opp a.2 b.2
    simp only [firstNZ]; repeat' split
    all_goals omega
  eq0 a b := by
    have h1 := hc.eq0 a.1 b.1; have h2 := hd.eq0 a.2 b.2
    simp only [firstNZ]
    rw [Prod.ext_iff, ← h1, ← h2]
    repeat' split
    all_goals omega
  tr a b e g1 g2 := by
    have r1 := hc.rng a.1 b.1; have r2 := hd.rng a.2 b.2
    have r3 := hc.rng b.1 e.1; have r4 := hd.rng b.2 e.2
    have t1 := hc.tr a.1 b.1 e.1; have t2 := hd.tr a.2 b.2 e.2
    simp only [firstNZ] at *
    repeat' split at g1
    all_goals (repeat' split at g2)
    all_goals (repeat' split)
    all_goals (have := t1 (by omega) (by omega); try (have := t2 (by omega) (by omega)))
    all_goals omega
end Go.Proofs.YtipolobikigmbaaGreatDoor
