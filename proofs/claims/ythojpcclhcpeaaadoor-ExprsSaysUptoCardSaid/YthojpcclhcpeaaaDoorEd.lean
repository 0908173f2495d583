/-
  duetlaw.ExprsSays returns true, for every expression of at most a million parts and every names and sorts, where the library's tables hold what they should.
-/
import Derived.Test.YthojpcclhcpeaaaDoorEb
import Derived.Test.YthojpcclhcpeaaaDoorEc
import Derived.Test.YthojpcclhcpeaaaDoorRc
import Derived.Test.YthojpcclhcpeaaaDoorRs
import Derived.Test.YthojpcclhcpeaaaDoorXt
import Derived.Lib.LaidTab
import Derived.Lib.AppendIntMem
namespace Go.Proofs.YthojpcclhcpeaaaDoor
open Go.RowKit Go.Shelf Go.Joins

theorem gPow : Tryd.prog.globalNamed "internal/strconv.uint64pow10" = some 3 := by kernel_rfl
abbrev Pow (w : World) : Prop := Lib.TabIs Tryd.prog w "internal/strconv.uint64pow10" .u64 Lib.pow10Tab
theorem at_f {W0 : World} (hp : Pow W0) : FSaid (AT W0) := fun n w h0 h1 h => (Any.strconv_FormatInt_10 Tryd.laysM173 n h0 h1 w (tab_stays gPow hp h (Nat.le_refl _))).mono (by
  rintro e w' ⟨rfl, k, os, rfl⟩
  exact ⟨rfl, Lib.below_grow _ w (Nat.le_refl _) k os⟩)

theorem look_zero (ns : List ByteArray) (zs : List Int) (nm : ByteArray) (h : (lookS ns zs nm).2 ≠ 0) : (lookS ns zs nm).1 = 0 := by
  unfold lookS at h ⊢
  split at h
  · exact absurd rfl h
  · rfl
theorem sort1_zero (l : List UInt8) (p : Int × Int) (h : (sort1 l p).2 ≠ 0) : (sort1 l p).1 = 0 := by
  unfold sort1 at h ⊢
  (repeat' split at h) <;> simp_all
theorem sort2_zero (l : List UInt8) (p q : Int × Int) (h : (sort2 l p q).2 ≠ 0) : (sort2 l p q).1 = 0 := by
  unfold sort2 at h ⊢
  by_cases a1 : p.2 ≠ 0
  · rw [if_pos a1]
  rw [if_neg a1] at h ⊢
  by_cases a2 : p.1 ≠ want1 l p.1
  · rw [if_pos a2]
  rw [if_neg a2] at h ⊢
  by_cases a3 : q.2 ≠ 0
  · rw [if_pos a3]
  rw [if_neg a3] at h ⊢
  by_cases a4 : q.1 ≠ want1 l p.1
  · rw [if_pos a4]
  rw [if_neg a4] at h
  exact absurd rfl h
theorem sort_zero (ns : List ByteArray) (zs : List Int) (x : Ex) (hw : wfX x) (h : (sortX (lookS ns zs) x).2 ≠ 0) : (sortX (lookS ns zs) x).1 = 0 := by
  rcases wf_cases x hw with ⟨k, _⟩ | ⟨k, _⟩ | ⟨k, a, hk, _⟩ | ⟨k, a, b, hk, _⟩
  · rw [sort_lit _ x k] at h; exact absurd rfl h
  · rw [sort_name _ x k] at h ⊢; exact look_zero ns zs x.name h
  · rw [sort_one _ x a k hk] at h ⊢; exact sort1_zero _ _ h
  · rw [sort_two _ x a b k hk] at h ⊢; exact sort2_zero _ _ _ h

set_option maxHeartbeats 400000 in
theorem lawText_any (T : ByteArray) (z : Int) (w : World) :
    Calls Tryd.prog 13 #[.string T, .int .i64 z, .string T, .int .i64 z] w fun e w' => (z ≠ 0 → T = ⟨#[]⟩) → e = .returned (.bool true) ∧ w' = w := by
  by_cases hz : z = 0
  · subst hz
    have e1 : (T.toList == T.toList) = true := by simp
    go_enter Tryd.func13, Tryd.ntmps13
    go_wp2_with fail
    go_ret
    exact fun _ => ⟨rfl, rfl⟩
  · have hzb : (z != 0) = true := by simpa using hz
    have hzz : (z == z) = true := by simp
    by_cases hT : T = ⟨#[]⟩
    · subst hT
      go_enter Tryd.func13, Tryd.ntmps13
      go_wp2_with fail
      go_ret
      exact fun _ => ⟨rfl, rfl⟩
    · cases hb : T.toList.isEmpty
      all_goals
        go_enter Tryd.func13, Tryd.ntmps13
        go_wp2_with fail
        go_ret
        exact fun h => absurd (h hz) hT
set_option maxHeartbeats 400000 in
theorem oneInt_any (a z : Int) (w : World) (h : z ≠ 0 → a = 0) :
    Calls Tryd.prog 14 #[.int .i64 a, .int .i64 z, .int .i64 a, .int .i64 z] w fun e w' => e = .returned (.bool true) ∧ w' = w := by
  by_cases hz : z = 0
  · subst hz
    have e1 : (a == a) = true := by simp
    clear h
    go_enter Tryd.func14, Tryd.ntmps14
    go_wp2_with fail
    go_ret
    exact ⟨rfl, rfl⟩
  · have hzb : (z != 0) = true := by simpa using hz
    have hzz : (z == z) = true := by simp
    have := h hz
    subst this
    clear h
    go_enter Tryd.func14, Tryd.ntmps14
    go_wp2_with fail
    go_ret
    exact ⟨rfl, rfl⟩

section
variable (Tabs : World → Prop) (B0 : Nat)
/-- names and sorts that are not as many -/
theorem sort_odd (hV : VSaid vD Tabs) (hK : ∀ w w', Tabs w → Below w.heap.size w w' → Tabs w') (hK2 : ∀ B w w', B0 ≤ B → Tabs w → Below B w w' → Tabs w') (hB0 : ∀ w, Tabs w → B0 ≤ w.heap.size)
    (d : Nat) (x : Ex) (ao : Option Addr) (cap : Nat) (i j : Nat) (an am : Option Addr) (cn cm : Nat) (w : World) (hij : i ≠ j) (hbd : ExBd x cap) (hka : KA w w.heap.size d x.kids ao) (hT : Tabs w) :
    Calls Tryd.prog 9 #[exVal x ao cap, .slice an i cn, .slice am j cm] w fun e w' => e = .returned (.tuple #[.int .i64 0, .int .i64 (if chkX x = 0 then 1 else chkX x)]) ∧ Below w.heap.size w w' := by
  have hw1 : Below w.heap.size w (w.alloc (.cells #[.int .i64 x.kind, .string x.name, .int .i64 x.so, .int .i64 x.n, .string x.s, .slice ao x.kids.length cap] 26)) := (Below.refl _ _).alloc (Nat.le_refl _) _
  have cK := chk_any Tabs B0 hV hK hK2 hB0 d x ao cap _ hbd ((hka.keep hw1).mono (by simp)) (hK _ _ hT hw1)
  generalize chkX x = z at cK ⊢
  simp only [exVal] at cK ⊢
  have hne : ((i : Int) != (j : Int)) = true := by simp; omega
  have hne2 : ((i : Int) == (j : Int)) = false := by simp; omega
  clear hV hK hK2 hB0 hka hT hw1 hbd
  by_cases hz : z = 0
  · subst hz
    rw [if_pos rfl]
    go_enter Tryd.func9, Tryd.ntmps9
    go_wp2_with fail
    refine cK.mono ?_
    rintro e w1 ⟨rfl, hb1⟩
    obtain ⟨x0, x1, x2, x3, x4, x5, hbw⟩ := keep6 hb1
    clear cK
    go_wp2_with fail
    go_ret2
    exact ⟨rfl, hbw⟩
  · rw [if_neg hz]
    have hzb : (z != 0) = true := by simpa using hz
    go_enter Tryd.func9, Tryd.ntmps9
    go_wp2_with fail
    refine cK.mono ?_
    rintro e w1 ⟨rfl, hb1⟩
    obtain ⟨x0, x1, x2, x3, x4, x5, hbw⟩ := keep6 hb1
    clear cK
    go_wp2_with fail
    go_ret2
    exact ⟨rfl, hbw⟩
end

/-- the law's argument lies in a block of its own -/
structure RL (w : World) (x : Ex) (ao : Option Addr) (cap : Nat) (W : World) : Prop where
  lt : w.heap.size < W.heap.size
  ex : ExAt W w.heap.size 0 x ao cap
  bl : Below w.heap.size w W
theorem RL.keep {w : World} {x : Ex} {ao : Option Addr} {cap : Nat} {W W' : World} (h : RL w x ao cap W) (hb : Below W.heap.size W W') : RL w x ao cap W' :=
  ⟨Nat.lt_of_lt_of_le h.lt hb.size, h.ex.keep hb h.lt, h.bl.trans (hb.mono h.bl.size)⟩
theorem RL.new (w : World) (x : Ex) (ao : Option Addr) (cap : Nat) : RL w x ao cap (w.alloc (.cells #[.int .i64 x.kind, .string x.name, .int .i64 x.so, .int .i64 x.n, .string x.s, .slice ao x.kids.length cap] 26)) :=
  ⟨by simp, ⟨by go_cell, by go_cell, by go_cell, by go_cell, by go_cell, by go_cell⟩, (Below.refl _ _).alloc (Nat.le_refl _) _⟩
theorem RL.cells {w : World} {x : Ex} {ao : Option Addr} {cap : Nat} {W : World} (h : RL w x ao cap W) :
    W.cell? ⟨w.heap.size, 0, none⟩ = some (.int .i64 x.kind) ∧ W.cell? ⟨w.heap.size, 1, none⟩ = some (.string x.name) ∧ W.cell? ⟨w.heap.size, 2, none⟩ = some (.int .i64 x.so) ∧ W.cell? ⟨w.heap.size, 3, none⟩ = some (.int .i64 x.n) ∧ W.cell? ⟨w.heap.size, 4, none⟩ = some (.string x.s) ∧ W.cell? ⟨w.heap.size, 5, none⟩ = some (.slice ao x.kids.length cap) := by
  obtain ⟨e0, e1, e2, e3, e4, e5⟩ := h.ex
  simp only [Nat.zero_add] at e1 e2 e3 e4 e5
  exact ⟨e0, e1, e2, e3, e4, e5⟩
def CB (f : Nat) (args : Array Value) (w : World) (v : Value) : Prop := ∀ W, Below w.heap.size w W → Calls Tryd.prog f args W fun e w' => e = .returned v ∧ Below W.heap.size W w'

set_option maxRecDepth 100000 in
set_option maxHeartbeats 2000000 in
theorem says_bad (x : Ex) (ao an am : Option Addr) (cap i j cn cm : Nat) (w : World) (z : Int) (hz : z ≠ 0)
    (cR : CB 7 #[exVal x ao cap] w (.int .i64 z)) (cW : CB 8 #[exVal x ao cap] w (.tuple #[.string ⟨#[]⟩, .int .i64 z]))
    (cS : CB 9 #[exVal x ao cap, .slice an i cn, .slice am j cm] w (.tuple #[.int .i64 0, .int .i64 z])) (cC : CB 12 #[exVal x ao cap] w (.int .i64 z)) :
    Calls Tryd.prog 3 #[exVal x ao cap, .slice an i cn, .slice am j cm] w fun e w' => e = .returned (.bool true) ∧ Below w.heap.size w w' := by
  have cT := fun (W : World) => lawText_any ⟨#[]⟩ z W
  have cO := fun (W : World) => oneInt_any 0 z W (fun _ => rfl)
  have t0 := RL.new w x ao cap
  simp only [exVal] at cR cW cS cC ⊢
  have CR := hide2 cR
  have CW := hide2 cW
  have CS := hide2 cS
  have CC := hide2 cC
  have CT := hide2 cT
  have CO := hide2 cO
  clear cR cW cS cC cT cO
  go_enter Tryd.func3, Tryd.ntmps3
  obtain ⟨x0, x1, x2, x3, x4, x5⟩ := t0.cells
  have hzb : (z == 0) = false := by simpa using hz
  have hzz : (z == z) = true := by simp
  go_wp2_with fail
  refine (CR.out _ t0.bl).mono ?_
  rintro e w1 ⟨rfl, hb⟩
  have t1 := t0.keep hb
  clear x0 x1 x2 x3 x4 x5 hb
  obtain ⟨x0, x1, x2, x3, x4, x5⟩ := t1.cells
  go_wp2_with fail
  refine (CW.out _ t1.bl).mono ?_
  rintro e w2 ⟨rfl, hb⟩
  have t2 := t1.keep hb
  clear x0 x1 x2 x3 x4 x5 hb
  obtain ⟨x0, x1, x2, x3, x4, x5⟩ := t2.cells
  go_wp2_with fail
  refine (CS.out _ t2.bl).mono ?_
  rintro e w3 ⟨rfl, hb⟩
  have t3 := t2.keep hb
  clear x0 x1 x2 x3 x4 x5 hb
  obtain ⟨x0, x1, x2, x3, x4, x5⟩ := t3.cells
  go_wp2_with (first
    | (go_at_call 12; go_must (refine (CC.out _ t3.bl).mono ?_; rintro e wK ⟨rfl, hb⟩; have tf := t3.keep hb; clear x0 x1 x2 x3 x4 x5 hb; obtain ⟨x0, x1, x2, x3, x4, x5⟩ := tf.cells))
    | (go_at_call 13; go_must (refine (CT.out _).mono ?_; intro e wt hx; obtain ⟨rfl, rfl⟩ := hx (by simp)))
    | (go_at_call 14; go_must (refine (CO.out _).mono ?_; rintro e wo ⟨rfl, rfl⟩)))
  go_ret
  exact ⟨rfl, tf.bl⟩
set_option maxRecDepth 100000 in
set_option maxHeartbeats 2000000 in
theorem says_odd (x : Ex) (ao an am : Option Addr) (cap i j cn cm : Nat) (w : World) (T : ByteArray) (hij : i ≠ j)
    (cR : CB 7 #[exVal x ao cap] w (.int .i64 0)) (cW : CB 8 #[exVal x ao cap] w (.tuple #[.string T, .int .i64 0]))
    (cS : CB 9 #[exVal x ao cap, .slice an i cn, .slice am j cm] w (.tuple #[.int .i64 0, .int .i64 1])) (cC : CB 12 #[exVal x ao cap] w (.int .i64 0)) (cX : CB 10 #[exVal x ao cap] w (.string T)) :
    Calls Tryd.prog 3 #[exVal x ao cap, .slice an i cn, .slice am j cm] w fun e w' => e = .returned (.bool true) ∧ Below w.heap.size w w' := by
  have cT := fun (W : World) => lawText_any T 0 W
  have cO := fun (W : World) => oneInt_any 0 1 W (fun _ => rfl)
  have t0 := RL.new w x ao cap
  simp only [exVal] at cR cW cS cC cX ⊢
  have CR := hide2 cR
  have CW := hide2 cW
  have CS := hide2 cS
  have CC := hide2 cC
  have CT := hide2 cT
  have CO := hide2 cO
  have CX := hide2 cX
  clear cR cW cS cC cT cO cX
  go_enter Tryd.func3, Tryd.ntmps3
  obtain ⟨x0, x1, x2, x3, x4, x5⟩ := t0.cells
  have hne2 : ((i : Int) == (j : Int)) = false := by simp; omega
  go_wp2_with fail
  refine (CR.out _ t0.bl).mono ?_
  rintro e w1 ⟨rfl, hb⟩
  have t1 := t0.keep hb
  clear x0 x1 x2 x3 x4 x5 hb
  obtain ⟨x0, x1, x2, x3, x4, x5⟩ := t1.cells
  go_wp2_with fail
  refine (CW.out _ t1.bl).mono ?_
  rintro e w2 ⟨rfl, hb⟩
  have t2 := t1.keep hb
  clear x0 x1 x2 x3 x4 x5 hb
  obtain ⟨x0, x1, x2, x3, x4, x5⟩ := t2.cells
  go_wp2_with fail
  refine (CS.out _ t2.bl).mono ?_
  rintro e w3 ⟨rfl, hb⟩
  have t3 := t2.keep hb
  clear x0 x1 x2 x3 x4 x5 hb
  obtain ⟨x0, x1, x2, x3, x4, x5⟩ := t3.cells
  go_wp2_with fail
  refine (CX.out _ t3.bl).mono ?_
  rintro e w4 ⟨rfl, hb⟩
  have t4 := t3.keep hb
  clear x0 x1 x2 x3 x4 x5 hb
  obtain ⟨x0, x1, x2, x3, x4, x5⟩ := t4.cells
  go_wp2_with (first
    | (go_at_call 12; go_must (refine (CC.out _ t4.bl).mono ?_; rintro e wK ⟨rfl, hb⟩; have tf := t4.keep hb; clear x0 x1 x2 x3 x4 x5 hb; obtain ⟨x0, x1, x2, x3, x4, x5⟩ := tf.cells))
    | (go_at_call 13; go_must (refine (CT.out _).mono ?_; intro e wt hx; obtain ⟨rfl, rfl⟩ := hx (fun h => absurd rfl h)))
    | (go_at_call 14; go_must (refine (CO.out _).mono ?_; rintro e wo ⟨rfl, rfl⟩)))
  go_ret
  exact ⟨rfl, tf.bl⟩
set_option maxRecDepth 100000 in
set_option maxHeartbeats 2000000 in
theorem says_even (x : Ex) (ao an am : Option Addr) (cap i j cn cm : Nat) (w : World) (T : ByteArray) (m h : Int) (hmh : h ≠ 0 → m = 0) (hij : j = i)
    (cR : CB 7 #[exVal x ao cap] w (.int .i64 0)) (cW : CB 8 #[exVal x ao cap] w (.tuple #[.string T, .int .i64 0]))
    (cS : CB 9 #[exVal x ao cap, .slice an i cn, .slice am j cm] w (.tuple #[.int .i64 m, .int .i64 h])) (cC : CB 12 #[exVal x ao cap] w (.int .i64 0)) (cX : CB 10 #[exVal x ao cap] w (.string T)) (cY : CB 11 #[exVal x ao cap, .slice an i cn, .slice am j cm] w (.tuple #[.int .i64 m, .int .i64 h])) :
    Calls Tryd.prog 3 #[exVal x ao cap, .slice an i cn, .slice am j cm] w fun e w' => e = .returned (.bool true) ∧ Below w.heap.size w w' := by
  have cT := fun (W : World) => lawText_any T 0 W
  have cO := fun (W : World) => oneInt_any m h W hmh
  have t0 := RL.new w x ao cap
  simp only [exVal] at cR cW cS cC cX cY ⊢
  have CR := hide2 cR
  have CW := hide2 cW
  have CS := hide2 cS
  have CC := hide2 cC
  have CT := hide2 cT
  have CO := hide2 cO
  have CX := hide2 cX
  have CY := hide2 cY
  clear cR cW cS cC cT cO cX cY hmh
  go_enter Tryd.func3, Tryd.ntmps3
  obtain ⟨x0, x1, x2, x3, x4, x5⟩ := t0.cells
  subst hij
  have hne2 : ((j : Int) == (j : Int)) = true := by simp
  go_wp2_with fail
  refine (CR.out _ t0.bl).mono ?_
  rintro e w1 ⟨rfl, hb⟩
  have t1 := t0.keep hb
  clear x0 x1 x2 x3 x4 x5 hb
  obtain ⟨x0, x1, x2, x3, x4, x5⟩ := t1.cells
  go_wp2_with fail
  refine (CW.out _ t1.bl).mono ?_
  rintro e w2 ⟨rfl, hb⟩
  have t2 := t1.keep hb
  clear x0 x1 x2 x3 x4 x5 hb
  obtain ⟨x0, x1, x2, x3, x4, x5⟩ := t2.cells
  go_wp2_with fail
  refine (CS.out _ t2.bl).mono ?_
  rintro e w3 ⟨rfl, hb⟩
  have t3 := t2.keep hb
  clear x0 x1 x2 x3 x4 x5 hb
  obtain ⟨x0, x1, x2, x3, x4, x5⟩ := t3.cells
  go_wp2_with fail
  refine (CX.out _ t3.bl).mono ?_
  rintro e w4 ⟨rfl, hb⟩
  have t4 := t3.keep hb
  clear x0 x1 x2 x3 x4 x5 hb
  obtain ⟨x0, x1, x2, x3, x4, x5⟩ := t4.cells
  go_wp2_with fail
  refine (CY.out _ t4.bl).mono ?_
  rintro e w5 ⟨rfl, hb⟩
  have t5 := t4.keep hb
  clear x0 x1 x2 x3 x4 x5 hb
  obtain ⟨x0, x1, x2, x3, x4, x5⟩ := t5.cells
  go_wp2_with (first
    | (go_at_call 12; go_must (refine (CC.out _ t5.bl).mono ?_; rintro e wK ⟨rfl, hb⟩; have tf := t5.keep hb; clear x0 x1 x2 x3 x4 x5 hb; obtain ⟨x0, x1, x2, x3, x4, x5⟩ := tf.cells))
    | (go_at_call 13; go_must (refine (CT.out _).mono ?_; intro e wt hx; obtain ⟨rfl, rfl⟩ := hx (fun h => absurd rfl h)))
    | (go_at_call 14; go_must (refine (CO.out _).mono ?_; rintro e wo ⟨rfl, rfl⟩)))
  go_ret
  exact ⟨rfl, tf.bl⟩

theorem saysLaw_any (d : Nat) (x : Ex) (ao : Option Addr) (cap : Nat) (ns : List ByteArray) (zs : List Int) (an am : Option Addr) (cn cm : Nat) (w : World) (hbd : ExBd x cap) (hka : KA w w.heap.size d x.kids ao) (hsz : sizeX x ≤ 1048576)
    (hns : zs.length = ns.length → NSAt w w.heap.size ns zs an am) (h0 : Tabs w) (hp : Pow w) :
    Calls Tryd.prog 3 #[exVal x ao cap, .slice an ns.length cn, .slice am zs.length cm] w fun e w' => e = .returned (.bool true) ∧ Below w.heap.size w w' := by
  have cR : CB 7 #[exVal x ao cap] w (.int .i64 (chkX x)) := fun W hb => refExpr_any d x ao cap W hbd (KA.mono hb.size (KA.keep hb hka)) hsz (at_tabs h0 hb)
  have cC : CB 12 #[exVal x ao cap] w (.int .i64 (chkX x)) := fun W hb => chk_any (AT w) w.heap.size (at_v h0) at_k at_k2 at_0 d x ao cap W hbd (KA.mono hb.size (KA.keep hb hka)) hb
  have cW : CB 8 #[exVal x ao cap] w (.tuple #[.string (bs (wrR x).1), .int .i64 (wrR x).2]) := fun W hb => exprWrite_any (AT w) w.heap.size (at_v h0) (at_f hp) at_k at_k2 at_0 d x ao cap W hbd (KA.mono hb.size (KA.keep hb hka)) hb
  have cO : zs.length ≠ ns.length → CB 9 #[exVal x ao cap, .slice an ns.length cn, .slice am zs.length cm] w (.tuple #[.int .i64 0, .int .i64 (if chkX x = 0 then 1 else chkX x)]) := fun hij W hb =>
    sort_odd (AT w) w.heap.size (at_v h0) at_k at_k2 at_0 d x ao cap ns.length zs.length an am cn cm W (fun e => hij e.symm) hbd (KA.mono hb.size (KA.keep hb hka)) hb
  have cE : zs.length = ns.length → CB 9 #[exVal x ao cap, .slice an ns.length cn, .slice am zs.length cm] w (.tuple #[.int .i64 (srtR x ns zs).1, .int .i64 (srtR x ns zs).2]) := fun hij W hb => by
    rw [hij]
    exact sort_any (AT w) w.heap.size (at_v h0) at_k at_k2 at_0 d x ao cap ns zs an am cn cm W hbd (KA.mono hb.size (KA.keep hb hka)) (((hns hij).keep hb).mono hb.size) hb
  by_cases hz : chkX x = 0
  · have hr : wrR x = (wrX x, 0) := by unfold wrR; rw [if_pos hz]
    obtain ⟨hw, hsz60⟩ := (chkX_iff x).1 hz
    have cX : CB 10 #[exVal x ao cap] w (.string (bs (wrX x))) := fun W hb => exprText_any d x ao cap w.heap.size W hw hbd (KA.keep hb hka) hsz60 hb.size
    rw [hr] at cW
    rw [hz] at cR cC
    by_cases hij : zs.length = ns.length
    · have cS := cE hij
      have hs : srtR x ns zs = sortX (lookS ns zs) x := by unfold srtR; rw [if_pos hz]
      rw [hs] at cS
      have cY : CB 11 #[exVal x ao cap, .slice an ns.length cn, .slice am zs.length cm] w (.tuple #[.int .i64 (sortX (lookS ns zs) x).1, .int .i64 (sortX (lookS ns zs) x).2]) := fun W hb => by
        rw [hij]
        exact refSort_any ns zs an am cn cm d x ao cap w.heap.size W hw hbd (KA.keep hb hka) ((hns hij).keep hb) hb.size
      exact says_even x ao an am cap ns.length zs.length cn cm w _ _ _ (sort_zero ns zs x hw) hij cR cW cS cC cX cY
    · have cS := cO hij
      rw [if_pos hz] at cS
      exact says_odd x ao an am cap ns.length zs.length cn cm w _ (fun e => hij e.symm) cR cW cS cC cX
  · have hr : wrR x = ([], chkX x) := by unfold wrR; rw [if_neg hz]
    rw [hr] at cW
    have cS : CB 9 #[exVal x ao cap, .slice an ns.length cn, .slice am zs.length cm] w (.tuple #[.int .i64 0, .int .i64 (chkX x)]) := by
      by_cases hij : zs.length = ns.length
      · have cS := cE hij
        have hs : srtR x ns zs = (0, chkX x) := by unfold srtR; rw [if_neg hz]
        rw [hs] at cS
        exact cS
      · have cS := cO hij
        rw [if_neg hz] at cS
        exact cS
    exact says_bad x ao an am cap ns.length zs.length cn cm w _ hz cR cW cS cC
end Go.Proofs.YthojpcclhcpeaaaDoor
