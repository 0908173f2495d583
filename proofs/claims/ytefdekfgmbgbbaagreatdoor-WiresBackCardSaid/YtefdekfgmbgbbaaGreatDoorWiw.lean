/-
  The contract of duetref.SameEvents, of two lists of the same events.
-/
import Derived.Test.YtefdekfgmbgbbaaGreatDoorMo
import Derived.Test.YtefdekfgmbgbbaaGreatDoorKf
import Derived.Test.YtefdekfgmbgbbaaGreatDoorKma
import Derived.Test.YtefdekfgmbgbbaaGreatDoorKn
import Derived.Test.YtefdekfgmbgbbaaGreatDoorRows
import Derived.Test.YtefdekfgmbgbbaaGreatDoorWb
import Derived.Test.YtefdekfgmbgbbaaGreatDoorBu
import Derived.ProofKit
import Derived.Lib.SmallJoins
import Derived.Lib.LaidU8T
import Derived.Lib.LaidIn
import Derived.PinnedBridge
import Derived.Lay
import Derived.SevenTiedAt
import Derived.Test.YtefdekfgmbgbbaaGreatDoorWil
import Derived.Test.YtefdekfgmbgbbaaGreatDoorWim
import Derived.Test.YtefdekfgmbgbbaaGreatDoorWiu
namespace Go.Proofs.YtefdekfgmbgbbaaGreatDoor
open Go.RowKit Go.Shelf

/-- two events that lie in memory -/
structure SEW (w : World) (b1 o1 b2 o2 : Nat) (x : Ev) (l1 : Option Addr) (m1 : Nat) (k1 : Option Addr) (n1 : Nat) (l2 : Option Addr) (m2 : Nat) (k2 : Option Addr) (n2 : Nat) (W : World) : Prop where
  bl : Below w.heap.size w W
  a : EvC W b1 o1 x l1 m1 k1 n1
  b : EvC W b2 o2 x l2 m2 k2 n2
section
variable {P : Program} {ops : Array Oper} {R : Act → Prop} {l : List Nat} {o : Oper} {a a' : Act} {w : World} {b1 o1 b2 o2 : Nat} {x : Ev} {l1 : Option Addr} {m1 : Nat} {k1 : Option Addr} {n1 : Nat} {l2 : Option Addr} {m2 : Nat} {k2 : Option Addr} {n2 : Nat}
theorem qE {v : Value} (h : SeqS P ops (SEW w b1 o1 b2 o2 x l1 m1 k1 n1 l2 m2 k2 n2) R l a') (hw : Region.wanted o (yielded ops a.tmps) = true := by rfl)
    (hy : ∀ W, SEW w b1 o1 b2 o2 x l1 m1 k1 n1 l2 m2 k2 n2 W → o.wp P a W (KV v a o.dst (SEW w b1 o1 b2 o2 x l1 m1 k1 n1 l2 m2 k2 n2)) QF := by intro W hW; obtain ⟨_, ⟨p0, p1, p2, p3, p4, p5, p6, p7, p8, p9⟩, ⟨q0, q1, q2, q3, q4, q5, q6, q7, q8, q9⟩⟩ := id hW; rw [Nat.add_zero] at p0 q0; go_simp; exact KV.mk hW) (hn : a.put o.dst v = a' := by simp only [Act.put, uA, uB, uC]; rfl) : StepS P ops (SEW w b1 o1 b2 o2 x l1 m1 k1 n1 l2 m2 k2 n2) R o l a := fun _ ho => SeqS.one v ho hw hy (hn ▸ h)
end
set_option maxRecDepth 100000 in
set_option maxHeartbeats 8000000 in
theorem sameEvs_any (xs : List Ev) (a1 : Option Addr) (c1 : Nat) (a2 : Option Addr) (c2 : Nat) (w : World) (h1 : EVS w w.heap.size xs a1) (h2 : EVS w w.heap.size xs a2) (hl : xs.length ≤ 200) :
    Calls Tryz.prog 8 #[.slice a1 xs.length c1, .slice a2 xs.length c2] w fun e w' => e = .returned (.bool true) ∧ Below w.heap.size w w' := by
  have H1 := hideK h1
  have H2 := hideK h2
  have hlz : (xs.length : Int) ≤ 200 := by omega
  clear h1 h2
  go_enter Tryz.func8, Tryz.ntmps8
  go_wp2_with fail
  go_loopw [5] (fun i wr => ∃ k : Nat, k ≤ xs.length ∧ i = .int .i64 (k : Int) ∧ Below w.heap.size w wr) (fun i _ => xs.length - (intOf i).toNat)
  case atStart => exact ⟨0, by omega, rfl, Below.refl _ _⟩
  case round =>
    obtain ⟨k, hk, rfl, hb⟩ := hrel
    have HB := hideK hb
    clear hb
    by_cases hend : k = xs.length
    · have hlt : ¬ (k : Int) < (xs.length : Int) := by omega
      clear hend
      go_wp2_with fail
      go_ret
      exact ⟨rfl, HB.out⟩
    · have hlt : (k : Int) < (xs.length : Int) := by omega
      have hkl : k < xs.length := by omega
      rcases H1.out with hnil | ⟨b1, o1, e1, hb1, hall1⟩
      · rw [hnil] at hkl; simp at hkl
      rcases H2.out with hnil | ⟨b2, o2, e2, hb2, hall2⟩
      · rw [hnil] at hkl; simp at hkl
      subst e1 e2
      obtain ⟨l1, m1, k1, n1, d1, hc1, _, ht1, hla1, hkt1⟩ := hall1 k hkl
      obtain ⟨l2, m2, k2, n2, d2, hc2, _, ht2, hla2, hkt2⟩ := hall2 k hkl
      obtain ⟨x, hx⟩ : ∃ x, x = xs[k] := ⟨_, rfl⟩
      rw [← hx] at hc1 hc2 ht1 ht2 hla1 hla2 hkt1 hkt2
      clear hx
      have HS := hideK (show SEW w b1 (o1 + k * 10) b2 (o2 + k * 10) x l1 m1 k1 n1 l2 m2 k2 n2 wr.drew from ⟨HB.out.drew, hc1.keep HB.out.drew hb1, hc2.keep HB.out.drew hb2⟩)
      have HC := hideK (fun (W : World) (hW : SEW w b1 (o1 + k * 10) b2 (o2 + k * 10) x l1 m1 k1 n1 l2 m2 k2 n2 W) =>
        (sameT_any (max d1 d2) x.carry l1 m1 k1 n1 l2 m2 k2 n2 w.heap.size W ht1 ht2 (hla1.keep hW.bl) (hla2.keep hW.bl) ((hkt1.keep hW.bl).up (Nat.le_max_left _ _)) ((hkt2.keep hW.bl).up (Nat.le_max_right _ _)) hW.bl.size).mono
          fun e w' (h : e = .returned (.bool true) ∧ Below W.heap.size W w') => (show e = .returned (.bool true) ∧ SEW w b1 (o1 + k * 10) b2 (o2 + k * 10) x l1 m1 k1 n1 l2 m2 k2 n2 w' from ⟨h.1, hW.bl.trans (h.2.mono hW.bl.size), hW.a.keep (h.2.mono hW.bl.size) hb1, hW.b.keep (h.2.mono hW.bl.size) hb2⟩))
      simp only [tyVal] at HC
      clear ht1 ht2 hla1 hla2 hkt1 hkt2 hall1 hall2 hc1 hc2
      go_upto_region 6 with fail
      refine region_seq (SEW w b1 (o1 + k * 10) b2 (o2 + k * 10) x l1 m1 k1 n1 l2 m2 k2 n2) (List.range 51) (by kernel_rfl) (by kernel_rfl) (by kernel_rfl) HS.out ?_
      rw [show List.range 51 = [0, 1, 2, 3, 4, 5, 6, 7, 8, 9, 10, 11, 12, 13, 14, 15, 16, 17, 18, 19, 20, 21, 22, 23, 24, 25, 26, 27, 28, 29, 30, 31, 32, 33, 34, 35, 36, 37, 38, 39, 40, 41, 42, 43, 44, 45, 46, 47, 48, 49, 50] from rfl]
      repeat (refine qO ?_; first | refine qN ?_ | refine qC HC.out ?_ | refine qE ?_)
      refine SeqS.done ?_
      intro W1 hW1
      have HB1 := hideK hW1.bl
      clear hW1
      go_wp2_with fail
      go_roundw
      case rel => exact ⟨k + 1, by omega, by go_num, HB1.out⟩
      case measure => simp [intOf]; omega
end Go.Proofs.YtefdekfgmbgbbaaGreatDoor
/-
  How a Value is read as data and back, what the two tables of utf8 hold, and utf8.ValidString's and strings.Compare's contracts at this program. Conditions: none.
-/
namespace Go.Proofs.YtefdekfgmbgbbaaGreatDoor
open Go.RowKit Go.Shelf Go.Lib Go.Joins
open Go.ChangeShapes Go.WideShapes Go.ChangeAt

theorem own : ownKnob Tryz.prog.godebug = none := by kernel_rfl
theorem cells23 : Tryz.prog.cellsOf 27 = 3 := by kernel_rfl
abbrev Tabs (w : World) : Prop := Lib.Utf8Tabs (Tryz.lays196_ren.g 3) (Tryz.lays196_ren.g 4) w
theorem tabs_keep (w w' : World) (h : Tabs w) (hb : Below w.heap.size w w') : Tabs w' := Utf8Tabs_below h hb
theorem vSaid : VSaid vD Tabs := fun s w hs hT => Any.utf8_ValidString Tryz.lays196 s w hs hT

section
variable {H : Type} {enc : TypeId × Value → H}
set_option maxRecDepth 100000 in
theorem openValue {W : World} {r : Reach} {b0 base : Nat} {spare : Nat → Bool} {held : Bool} {v : Value} {d : DataW H} {p : List MemPlace} (hv : Value.okWide Tryz.prog W r b0 27 v) (h : DataW.Trod enc Tryz.prog W base spare held 27 v d p) :
    ∃ (so n : Int) (s : ByteArray), v = .agg #[.int .i64 so, .int .i64 n, .string s] ∧ d = .agg [.lit (.int .i64 so), .lit (.int .i64 n), .lit (.string s.data.toList)] ∧ p = [] ∧ (Lit.int .i64 so).wf = true ∧ (Lit.int .i64 n).wf = true ∧ s.size ≤ maxLen := by
  obtain ⟨c0, c1, c2, y0, y1, y2, m, rfl, rfl, rfl, hy0, hy1, hy2⟩ := open_agg3 Tryz.underlying27 (by kernel_rfl) cells23 hv h
  obtain ⟨so, e0, rfl, wa⟩ := DataW.trod_int Tryz.underlying3 hy0
  obtain ⟨n, e1, rfl, wb⟩ := DataW.trod_int Tryz.underlying2 hy1
  obtain ⟨s, e2, rfl, ws⟩ := DataW.trod_string Tryz.underlying9 hy2
  simp at e0 e1 e2
  subst e0 e1 e2
  exact ⟨so, n, s, rfl, rfl, rfl, wa, wb, ws⟩
set_option maxRecDepth 100000 in
theorem shutValue {W : World} {base : Nat} {spare : Nat → Bool} {held : Bool} {so n : Int} {s : ByteArray} (wa : (Lit.int .i64 so).wf = true) (wb : (Lit.int .i64 n).wf = true) (ws : s.size ≤ maxLen) :
    DataW.Trod enc Tryz.prog W base spare held 27 (.agg #[.int .i64 so, .int .i64 n, .string s]) (.agg [.lit (.int .i64 so), .lit (.int .i64 n), .lit (.string s.data.toList)]) [] :=
  shut_agg3 (y0 := (.lit (.int .i64 so), [])) (y1 := (.lit (.int .i64 n), [])) (y2 := (.lit (.string s.data.toList), [])) Tryz.underlying27 (by kernel_rfl) cells23
    ⟨1, by simp [DataW.trod, Tryz.underlying3, wa]⟩ ⟨1, by simp [DataW.trod, Tryz.underlying2, wb]⟩ ⟨1, by simp [DataW.trod, Tryz.underlying9, ws]⟩
end
theorem acc_eq : (Rows.laid_unicode_utf8_acceptRanges : DataW Unit) = Lib.acceptData := by kernel_rfl


/-- a world in which what lay in W0 still lies -/
def AT (W0 w : World) : Prop := Below W0.heap.size W0 w
theorem at_tabs {W0 w : World} (h0 : Tabs W0) (h : AT W0 w) : Tabs w := tabs_keep W0 w h0 h
theorem at_v {W0 : World} (h0 : Tabs W0) : VSaid vD (AT W0) := fun s w hs hT => vSaid s w hs (at_tabs h0 hT)
theorem at_k {W0 : World} : ∀ w w', AT W0 w → Below w.heap.size w w' → AT W0 w' := fun _ _ h hb => Below.trans h (hb.mono h.size)
theorem at_k2 {W0 : World} : ∀ B w w', W0.heap.size ≤ B → AT W0 w → Below B w w' → AT W0 w' := fun _ _ _ hB h hb => Below.trans h (hb.mono hB)
theorem at_0 {W0 : World} : ∀ w, AT W0 w → W0.heap.size ≤ w.heap.size := fun _ h => h.size
end Go.Proofs.YtefdekfgmbgbbaaGreatDoor

/-
  Events in a row, and as one of their own; what WiresParts rests on.
-/
namespace Go.Proofs.YtefdekfgmbgbbaaGreatDoor
open Go.RowKit Go.Shelf

theorem EvC.load {W : World} {b o : Nat} {x : Ev} {al : Option Addr} {cl : Nat} {ak : Option Addr} {ck : Nat} (h : EvC W b o x al cl ak ck) : (Instr.loadAt 33 (.pointer (some ⟨b, o, none⟩))).run Tryz.prog W = .ok (evVal x al cl ak ck) W :=
  load_list (n := 10) (cs := evL x al cl ak ck) rfl (fun j v hj => by
    obtain ⟨h0, h1, h2, h3, h4, h5, h6, h7, h8, h9⟩ := h
    match j, hj with
    | 0, hj => exact h0.trans hj
    | 1, hj => exact h1.trans hj
    | 2, hj => exact h2.trans hj
    | 3, hj => exact h3.trans hj
    | 4, hj => exact h4.trans hj
    | 5, hj => exact h5.trans hj
    | 6, hj => exact h6.trans hj
    | 7, hj => exact h7.trans hj
    | 8, hj => exact h8.trans hj
    | 9, hj => exact h9.trans hj
    | n + 10, hj => simp at hj) (fun l hl => by
    unfold Instr.loadAt loadVar
    simp [Instr.sureAddr, hl, Result.andThen])
theorem EVS.mono {W : World} {B B' : Nat} {evs : List Ev} {ae : Option Addr} (hB : B ≤ B') (h : EVS W B evs ae) : EVS W B' evs ae :=
  h.imp id fun ⟨b, o, e, hl, hc⟩ => ⟨b, o, e, Nat.lt_of_lt_of_le hl hB, fun k hk => by
    obtain ⟨al, cl, ak, ck, d, h1, h2, h3, h4, h5⟩ := hc k hk
    exact ⟨al, cl, ak, ck, d, h1, h2, h3, NAt.mono hB h4, KT.mono hB h5⟩⟩
theorem EVS.up {W W' : World} {evs : List Ev} {ae : Option Addr} (h : EVS W W.heap.size evs ae) (hb : Below W.heap.size W W') : EVS W' W'.heap.size evs ae := (h.keep hb).mono hb.size
theorem EvL.up {W W' : World} {d : Nat} {x : Ev} {al : Option Addr} {cl : Nat} {ak : Option Addr} {ck : Nat} (h : EvL W W.heap.size d x al cl ak ck) (hb : Below W.heap.size W W') : EvL W' W'.heap.size d x al cl ak ck :=
  ⟨h.1, NAt.mono hb.size (NAt.keep hb h.2.1), KT.mono hb.size (KT.keep hb h.2.2)⟩
/-- one event, in a literal -/
theorem EvL.lit {W : World} {d : Nat} {x : Ev} {al : Option Addr} {cl : Nat} {ak : Option Addr} {ck : Nat} (h : EvL W W.heap.size d x al cl ak ck) (hs : x.s.size ≤ 9223372036854775807) (W' : World) (hW : W' = W.alloc (.cells (evL x al cl ak ck).toArray 33)) : EVS W' W'.heap.size [x] (some ⟨W.heap.size, 0, none⟩) := by
  subst hW
  have h2 := h.up (W' := W.alloc (.cells (evL x al cl ak ck).toArray 33)) ((Below.refl _ _).alloc (Nat.le_refl _) _)
  refine .inr ⟨W.heap.size, 0, rfl, by simp, fun k hk => ?_⟩
  have h0 : k = 0 := by simp at hk; omega
  subst h0
  have hn : ∀ o, (W.alloc (.cells (evL x al cl ak ck).toArray 33)).cell? ⟨W.heap.size, o, none⟩ = (evL x al cl ak ck).toArray[o]? := fun o => World.cell?_alloc_new _ _ _ _
  exact ⟨al, cl, ak, ck, d, ⟨hn 0, hn 1, hn 2, hn 3, hn 4, hn 5, hn 6, hn 7, hn 8, hn 9⟩, hs, h2.1, h2.2.1, h2.2.2⟩
theorem evsC_at : ∀ (es : List EvA) (k j : Nat) (hk : k < es.length), j < 10 → (evsC es)[k * 10 + j]? = (evC es[k])[j]? := by
  intro es
  induction es with
  | nil => intro k j hk; simp at hk
  | cons e es ih =>
    intro k j hk hj
    have hl : (evC e).length = 10 := rfl
    unfold evsC
    rw [List.flatMap_cons]
    cases k with
    | zero => rw [Nat.zero_mul, Nat.zero_add, List.getElem?_append_left (by omega)]; rfl
    | succ k =>
      rw [List.getElem?_append_right (by omega), hl, show (k + 1) * 10 + j - 10 = k * 10 + j by omega]
      exact ih k j (by simpa using hk) hj
/-- events that have been read are events in a row -/
theorem EvsR.evs {w W : World} {xs : List Ev} {av : Option Addr} {cv : Nat} (h : EvsR w W xs av cv) (hs : ∀ x ∈ xs, x.s.size ≤ 9223372036854775807) : EVS W W.heap.size xs av := by
  obtain ⟨es, rfl, ho, he⟩ := h
  rcases own_cells ho with ⟨_, h0, _⟩ | ⟨g, cap, hg, _, hgl, hc⟩
  · exact .inl (List.length_eq_zero_iff.1 h0)
  · injection hg with hg _ _
    refine .inr ⟨g, 0, hg, hgl, fun k hk => ?_⟩
    have hk2 : k < es.length := by simpa using hk
    have e1 : (es.map Prod.fst)[k] = es[k].1 := by simp
    obtain ⟨b1, b2, b3⟩ := he _ (List.getElem_mem hk2)
    have hcell : ∀ j v, (evC es[k])[j]? = some v → j < 10 → W.cell? ⟨g, 0 + k * 10 + j, none⟩ = some v := fun j v hj hlt => by
      rw [Nat.zero_add]
      exact hc _ _ ((evsC_at es k j hk2 hlt).trans hj)
    rw [e1]
    exact ⟨es[k].2.1, es[k].2.2.1, es[k].2.2.2.1, es[k].2.2.2.2, 2001, ⟨hcell 0 _ rfl (by omega), hcell 1 _ rfl (by omega), hcell 2 _ rfl (by omega), hcell 3 _ rfl (by omega), hcell 4 _ rfl (by omega), hcell 5 _ rfl (by omega), hcell 6 _ rfl (by omega), hcell 7 _ rfl (by omega), hcell 8 _ rfl (by omega), hcell 9 _ rfl (by omega)⟩, by rw [← e1]; exact hs _ (List.getElem_mem hk), b1, b2.toLA (fun _ hb => hb.2.1), b3.toKT (fun _ hb => hb.2.1)⟩
theorem read4 (V : ByteArray → Bool) : wiL V 200 [4] = .error (3, []) := rfl
theorem pickW_any (k : Int) (n : Nat) (w : World) (hk : -9223372036854775808 ≤ k ∧ k ≤ 9223372036854775807) (hn : 0 < n) (hn2 : n ≤ 1000000) :
    Calls Tryz.prog 10 #[.int .i64 k, .int .i64 (n : Int)] w fun e w' => (∃ q : Nat, q < n ∧ e = .returned (.int .i64 (q : Int))) ∧ w' = w := by
  have hz : ¬ (n : Int) = 0 := by omega
  have hzb : ((n : Int) == 0) = false := by simpa using hz
  by_cases h0 : k < 0
  · obtain ⟨m, hm⟩ : ∃ m : Nat, -(k + 1) = (m : Int) := ⟨(-(k + 1)).toNat, by omega⟩
    have w1 : IntKind.i64.wrap (k + 1) = k + 1 := by simp [IntKind.wrap, IntKind.bits, IntKind.signed]; omega
    have w2 : IntKind.i64.wrap (-(k + 1)) = (m : Int) := by rw [hm]; simp [IntKind.wrap, IntKind.bits, IntKind.signed]; omega
    clear hm
    go_enter Tryz.func10, Tryz.ntmps10
    go_wp2_with fail
    go_ret
    exact ⟨⟨m % n, Nat.mod_lt _ hn, rfl⟩, rfl⟩
  · obtain ⟨m, rfl⟩ : ∃ m : Nat, k = (m : Int) := ⟨k.toNat, by omega⟩
    go_enter Tryz.func10, Tryz.ntmps10
    go_wp2_with fail
    go_ret
    exact ⟨⟨m % n, Nat.mod_lt _ hn, rfl⟩, rfl⟩
end Go.Proofs.YtefdekfgmbgbbaaGreatDoor
