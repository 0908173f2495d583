/-
  How a Value is read as data and back, what the two tables of utf8 hold, and utf8.ValidString's and strings.Compare's contracts at this program. Conditions: none.
-/
import Derived.Test.YthhbbhijpkoelaaDoorRows
import Derived.Test.YthhbbhijpkoelaaDoorLid
import Derived.ProofKit
import Derived.Lib.SmallJoins
import Derived.Lib.LaidU8T
import Derived.Lib.LaidIn
import Derived.PinnedBridge
import Derived.Lay
import Derived.SevenTiedAt
import Derived.Test.YthhbbhijpkoelaaDoorQg
import Derived.Test.YthhbbhijpkoelaaDoorIq
import Derived.Test.YthhbbhijpkoelaaDoorMi
namespace Go.Proofs.YthhbbhijpkoelaaDoor
open Go.RowKit Go.Shelf Go.Lib Go.Joins
open Go.ChangeShapes Go.WideShapes Go.ChangeAt

theorem own : ownKnob Tryd.prog.godebug = none := by kernel_rfl
abbrev Tabs (w : World) : Prop := Lib.Utf8Tabs (Tryd.lays196_ren.g 3) (Tryd.lays196_ren.g 4) w
theorem tabs_keep (w w' : World) (h : Tabs w) (hb : Below w.heap.size w w') : Tabs w' := Utf8Tabs_below h hb
theorem vSaid : VSaid vD Tabs := fun s w hs hT => Any.utf8_ValidString Tryd.lays196 s w hs hT

section
variable {H : Type} {enc : TypeId × Value → H}
end
theorem acc_eq : (Rows.laid_unicode_utf8_acceptRanges : DataW Unit) = Lib.acceptData := by kernel_rfl


/-- a world in which what lay in W0 still lies -/
def AT (W0 w : World) : Prop := Below W0.heap.size W0 w
theorem at_tabs {W0 w : World} (h0 : Tabs W0) (h : AT W0 w) : Tabs w := tabs_keep W0 w h0 h
theorem at_v {W0 : World} (h0 : Tabs W0) : VSaid vD (AT W0) := fun s w hs hT => vSaid s w hs (at_tabs h0 hT)
theorem at_k {W0 : World} : ∀ w w', AT W0 w → Below w.heap.size w w' → AT W0 w' := fun _ _ h hb => Below.trans h (hb.mono h.size)
end Go.Proofs.YthhbbhijpkoelaaDoor
/-
  The law of duetkeep.MonitorBlame: whatever types and numbers are handed in it answers true.
-/
namespace Go.Proofs.YthhbbhijpkoelaaDoor
open Go.RowKit Go.Shelf

theorem end_node {g : List Nd} (h : OFG endT g) : (nodeAt g 0).kind = 1 := (head_node (T := endT) h.does (by decide) (by decide)).1
theorem newEnd (w : World) : Calls Tryd.prog 4 #[.agg #[.int .i64 1, .int .i64 0, .string ⟨#[]⟩, .slice none 0 0, .slice none 0 0]] w fun e w' => (∃ g ag cg mb B, GN g ∧ (nodeAt g 0).kind = 1 ∧ e = .returned (.tuple #[.pointer (some ⟨mb, 0, none⟩), .int .i64 0]) ∧ MN mb g.length ag cg 0 0 0 w' ∧ GAt w' B g ag ∧ B ≤ w'.heap.size) ∧ Below w.heap.size w w' := by
  refine (new_any 0 endT none 0 none 0 w end_bd (.inl rfl) rfl).mono ?_
  rintro e w' ⟨q | ⟨g, ag, cg, mb, B, hg, e, hm, hga, hB, _⟩, hb⟩
  · exact absurd end_chk q.1
  · exact ⟨⟨g, ag, cg, mb, B, hg.gn, end_node hg, e, hm, hga, by have := hm.lt; omega⟩, hb⟩
theorem newGoodB {t : Ty} {w w0 : World} {g : List Nd} (hg : OFG t g) (hw : w0.heap.size + 1 < w.heap.size) {args : Array Value} (c : Calls Tryd.prog 4 args w (NXPost t w)) : Calls Tryd.prog 4 args w fun e w' => (∃ ag cg mb, e = .returned (.tuple #[.pointer (some ⟨mb, 0, none⟩), .int .i64 0]) ∧ MN mb g.length ag cg 0 0 0 w' ∧ GZ w0 mb g ag w' ∧ w.heap.size ≤ mb) ∧ Below w.heap.size w w' := by
  refine c.mono ?_
  rintro e w' ⟨q | ⟨g', ag, cg, mb, hg', e, hm, h1, W, h2, h3, h4⟩, hb⟩
  · exact absurd hg.chk q.1
  · obtain rfl : g = g' := (hg.same hg').2 rfl
    exact ⟨⟨ag, cg, mb, e, hm, ⟨w, W, h2, hw, h3, fun b _ q => h4 b q⟩, h1⟩, hb⟩
set_option maxRecDepth 100000 in
set_option maxHeartbeats 200000000 in
def blame_cut : (p : Prop) ×' (q : Prop) ×' (Hid p → Hid q → ∀ (ds dt : Nat) (s t : Ty) (pal : Option Addr) (pcl : Nat) (pak : Option Addr) (pck : Nat) (al : Option Addr) (cl : Nat) (ak : Option Addr) (ck : Nat) (zs : List Int) (ap : Option Addr) (cp : Nat) (w : World) (_hT : Tabs w) (_hs1 : TyBd s pcl pck) (_hs2 : LA w w.heap.size s.labels pal) (_hs3 : KT w w.heap.size ds s.kids pak) (_ht1 : TyBd t cl ck) (_ht2 : LA w w.heap.size t.labels al) (_ht3 : KT w w.heap.size dt t.kids ak) (_hz : NAt w w.heap.size (zs.map (Value.int .i64)) ap) (_hzl : zs.length ≤ 9223372036854775807) (_hzr : ∀ z ∈ zs, -9223372036854775808 ≤ z ∧ z ≤ 9223372036854775807),
    Calls Tryd.prog 3 #[tyVal s pal pcl pak pck, tyVal t al cl ak ck, .slice ap zs.length cp] w fun e w' => e = .returned (.bool true) ∧ Below w.heap.size w w') := ⟨_, _, by
  intro HFIRST HREST ds dt s t pal pcl pak pck al cl ak ck zs ap cp w hT hs1 hs2 hs3 ht1 ht2 ht3 hz hzl hzr
  have hA : Below w.heap.size w ((w.alloc (.cells #[.int .i64 s.kind, .int .i64 s.so, .string s.name, .slice pal s.labels.length pcl, .slice pak s.kids.length pck] 25)).alloc (.cells #[.int .i64 t.kind, .int .i64 t.so, .string t.name, .slice al t.labels.length cl, .slice ak t.kids.length ck] 25)) := ((Below.refl _ _).alloc (Nat.le_refl _) _).alloc (by simp) _
  have HX := hideK (show TyAt ((w.alloc (.cells #[.int .i64 s.kind, .int .i64 s.so, .string s.name, .slice pal s.labels.length pcl, .slice pak s.kids.length pck] 25)).alloc (.cells #[.int .i64 t.kind, .int .i64 t.so, .string t.name, .slice al t.labels.length cl, .slice ak t.kids.length ck] 25)) w.heap.size 0 s pal pcl pak pck from ⟨by go_cell, by go_cell, by go_cell, by go_cell, by go_cell⟩)
  have HY := hideK (show TyAt ((w.alloc (.cells #[.int .i64 s.kind, .int .i64 s.so, .string s.name, .slice pal s.labels.length pcl, .slice pak s.kids.length pck] 25)).alloc (.cells #[.int .i64 t.kind, .int .i64 t.so, .string t.name, .slice al t.labels.length cl, .slice ak t.kids.length ck] 25)) (w.heap.size + 1) 0 t al cl ak ck from ⟨by go_cell, by go_cell, by go_cell, by go_cell, by go_cell⟩)
  have HFX := hideK (show ∀ o, ((w.alloc (.cells #[.int .i64 s.kind, .int .i64 s.so, .string s.name, .slice pal s.labels.length pcl, .slice pak s.kids.length pck] 25)).alloc (.cells #[.int .i64 t.kind, .int .i64 t.so, .string t.name, .slice al t.labels.length cl, .slice ak t.kids.length ck] 25)).frozen? ⟨w.heap.size, o, none⟩ = false from fun o => by go_simp)
  have HFY := hideK (show ∀ o, ((w.alloc (.cells #[.int .i64 s.kind, .int .i64 s.so, .string s.name, .slice pal s.labels.length pcl, .slice pak s.kids.length pck] 25)).alloc (.cells #[.int .i64 t.kind, .int .i64 t.so, .string t.name, .slice al t.labels.length cl, .slice ak t.kids.length ck] 25)).frozen? ⟨w.heap.size + 1, o, none⟩ = false from fun o => by go_simp)
  have HS := hideK (show ((w.alloc (.cells #[.int .i64 s.kind, .int .i64 s.so, .string s.name, .slice pal s.labels.length pcl, .slice pak s.kids.length pck] 25)).alloc (.cells #[.int .i64 t.kind, .int .i64 t.so, .string t.name, .slice al t.labels.length cl, .slice ak t.kids.length ck] 25)).heap.size = w.heap.size + 1 + 1 from by simp)
  have HA := hideK hA
  have HT := hideK hT
  have HZ := hideK hz
  have HZR := hideK hzr
  clear hzr
  have CI := hideK (fun (W : World) (hb : Below w.heap.size w W) => is_any ds dt s t pal pcl pak pck al cl ak ck W hs1 ((hs2.keep hb).mono hb.size) ((hs3.keep hb).mono hb.size) ht1 ((ht2.keep hb).mono hb.size) ((ht3.keep hb).mono hb.size))
  have CN := hideK (fun (W : World) (hb : Below w.heap.size w W) => newX_any ds s pal pcl pak pck W hs1 ((hs2.keep hb).mono hb.size) ((hs3.keep hb).mono hb.size))
  have HT0 := hideK (show (∀ W : World, Below w.heap.size w W → ∀ P : Nat → Prop, (∀ b, b < w.heap.size → P b) → LP W P s.labels pal ∧ KP W P ds s.kids pak ∧ LP W P t.labels al ∧ KP W P dt t.kids ak) ∧ TyBd s pcl pck ∧ TyBd t cl ck from ⟨fun W hb P hP => ⟨lp_of hP (hs2.keep hb), kp_of hP (hs3.keep hb), lp_of hP (ht2.keep hb), kp_of hP (ht3.keep hb)⟩, hs1, ht1⟩)
  simp only [tyVal] at CI CN ⊢
  clear hs1 hs2 hs3 ht1 ht2 ht3 hz hT hA
  go_enter Tryd.func3, Tryd.ntmps3
  go_upto_region 1 with fail
  generalize ((w.alloc (.cells #[.int .i64 s.kind, .int .i64 s.so, .string s.name, .slice pal s.labels.length pcl, .slice pak s.kids.length pck] 25)).alloc (.cells #[.int .i64 t.kind, .int .i64 t.so, .string t.name, .slice al t.labels.length cl, .slice ak t.kids.length ck] 25)) = V at *
  go_wp2_with fail
  refine (newEnd V).mono ?_
  rintro e w1 ⟨⟨g0, ag0, cg0, mb0, B0, hg0, hk0, rfl, hm0, hga0, hB0⟩, hb1⟩
  have c1 := state_any g0 ag0 cg0 B0 mb0 0 0 0 w1 hm0 hga0 hB0 hg0.pos (by have := hg0.le; omega)
  rw [show (nxtZ g0 0 0 == 1) = true from by unfold nxtZ; rw [if_pos rfl, hk0]; rfl] at c1
  have hs0 := HS.out
  replace HX := hideK (HX.out.keep hb1 (by omega))
  replace HY := hideK (HY.out.keep hb1 (by omega))
  replace HFX := hideK (show ∀ o, w1.frozen? ⟨w.heap.size, o, none⟩ = false from fun o => (hb1.frozen (p := ⟨w.heap.size, o, none⟩) (by show w.heap.size < _; omega)).trans (HFX.out o))
  replace HFY := hideK (show ∀ o, w1.frozen? ⟨w.heap.size + 1, o, none⟩ = false from fun o => (hb1.frozen (p := ⟨w.heap.size + 1, o, none⟩) (by show w.heap.size + 1 < _; omega)).trans (HFY.out o))
  replace HA := hideK (HA.out.trans (hb1.mono HA.out.size))
  have hsz1 : w.heap.size + 1 < w1.heap.size := by have := hb1.size; omega
  clear hg0 hk0 hm0 hga0 hB0 hb1 hs0 HS
  go_wp2_with fail
  refine c1.mono ?_
  rintro e w2 ⟨rfl, hb2⟩
  replace HX := hideK (HX.out.keep hb2 (by omega))
  replace HY := hideK (HY.out.keep hb2 (by omega))
  replace HFX := hideK (show ∀ o, w2.frozen? ⟨w.heap.size, o, none⟩ = false from fun o => (hb2.frozen (p := ⟨w.heap.size, o, none⟩) (by show w.heap.size < _; omega)).trans (HFX.out o))
  replace HFY := hideK (show ∀ o, w2.frozen? ⟨w.heap.size + 1, o, none⟩ = false from fun o => (hb2.frozen (p := ⟨w.heap.size + 1, o, none⟩) (by show w.heap.size + 1 < _; omega)).trans (HFY.out o))
  replace HA := hideK (HA.out.trans (hb2.mono HA.out.size))
  have hsz2 : w.heap.size + 1 < w2.heap.size := by have := hb2.size; omega
  clear c1 hb2 hsz1
  have c2 := CI.out w2 HA.out
  obtain ⟨x0, x1, x2, x3, x4⟩ := HX.out
  obtain ⟨y0, y1, y2, y3, y4⟩ := HY.out
  simp only [Nat.zero_add] at x1 x2 x3 x4 y1 y2 y3 y4
  go_wp2_with fail
  by_cases hzz : chkTy s ≠ 0 ∨ chkTy t ≠ 0
  · refine (isBad hzz c2).mono ?_
    rintro e w3 ⟨⟨z, hz0, rfl⟩, hb3⟩
    have hzb : (z != 0) = true := by simpa using hz0
    have HB3 := hideK (HA.out.trans (hb3.mono HA.out.size))
    clear c2 hb3 hz0 hzz x0 x1 x2 x3 x4 y0 y1 y2 y3 y4
    go_wp2_with fail
    go_ret
    exact ⟨rfl, HB3.out⟩
  have hzs : chkTy s = 0 := Decidable.byContradiction fun q => hzz (.inl q)
  have hzt : chkTy t = 0 := Decidable.byContradiction fun q => hzz (.inr q)
  refine (isGood hzs hzt c2).mono ?_
  rintro e w3 ⟨⟨b, rfl, hbt⟩, hb3⟩
  replace HX := hideK (HX.out.keep hb3 (by omega))
  replace HY := hideK (HY.out.keep hb3 (by omega))
  replace HFX := hideK (show ∀ o, w3.frozen? ⟨w.heap.size, o, none⟩ = false from fun o => (hb3.frozen (p := ⟨w.heap.size, o, none⟩) (by show w.heap.size < _; omega)).trans (HFX.out o))
  replace HFY := hideK (show ∀ o, w3.frozen? ⟨w.heap.size + 1, o, none⟩ = false from fun o => (hb3.frozen (p := ⟨w.heap.size + 1, o, none⟩) (by show w.heap.size + 1 < _; omega)).trans (HFY.out o))
  replace HA := hideK (HA.out.trans (hb3.mono HA.out.size))
  have hsz3 : w.heap.size + 1 < w3.heap.size := by have := hb3.size; omega
  have HBT := hideK hbt
  clear c2 hb3 hsz2 hzz x0 x1 x2 x3 x4 y0 y1 y2 y3 y4 hbt CI
  cases b
  · go_wp2_with fail
    go_ret
    exact ⟨rfl, HA.out⟩
  obtain ⟨g, h, hg, hh, hbl⟩ := HBT.out.1 rfl
  have HBLI := hideK (show BLI g h 0 0 s t from ⟨hg.gn, hh.gn, hg.gn.pos, hh.gn.pos, UFI.start hzs, UFI.start hzt, hg.does, hh.does, hbl⟩)
  have c3 := newGoodB hg hsz3 (CN.out w3 HA.out)
  obtain ⟨x0, x1, x2, x3, x4⟩ := HX.out
  simp only [Nat.zero_add] at x1 x2 x3 x4
  clear hg hh hbl HBT CN hzs hzt
  go_wp2_with fail
  refine c3.mono ?_
  rintro e w4 ⟨⟨ag, cg, mb, rfl, hm4, hga4, hmb4⟩, hb4⟩
  have HB0 := hideK (show BMW w mb w4.heap.size g ag cg mb 0 0 s pal pcl pak pck ds t al cl ak ck dt w4 from by
    have hA4 := HA.out.trans (hb4.mono HA.out.size)
    have hP : ∀ b, b < w.heap.size → PSB w mb w4.heap.size b := fun b hb => ⟨by have := hA4.size; omega, by omega, by omega, by omega⟩
    obtain ⟨q1, q2, q3, q4⟩ := HT0.out.1 w4 hA4 _ hP
    exact ⟨⟨HX.out.keep hb4 (by omega), HT0.out.2.1, q1, q2⟩, ⟨HY.out.keep hb4 (by omega), HT0.out.2.2, q3, q4⟩, hm4, hga4, fun o => (hb4.frozen (p := ⟨w.heap.size, o, none⟩) (by show w.heap.size < _; omega)).trans (HFX.out o), fun o => (hb4.frozen (p := ⟨w.heap.size + 1, o, none⟩) (by show w.heap.size + 1 < _; omega)).trans (HFY.out o), ⟨by omega, hm4.lt, Nat.le_refl _⟩, Nat.le_refl _, hA4⟩)
  clear c3 hm4 hga4 hmb4 hb4 x0 x1 x2 x3 x4 HX HY HFX HFY HA HT0 hsz3
  go_wp2_with fail
  go_loopw [69] (fun v wr => ∃ (n i j : Nat) (S : Ty) (sal : Option Addr) (scl : Nat) (sak : Option Addr) (sck sd : Nat) (T : Ty) (tal : Option Addr) (tcl : Nat) (tak : Option Addr) (tck td L : Nat), n ≤ zs.length ∧ v = .int .i64 (n : Int) ∧ BMW w mb L g ag cg mb i (n : Int) S sal scl sak sck sd T tal tcl tak tck td wr ∧ BLI g h i j S T) (fun v _ => zs.length - (intOf v).toNat)
  case atStart => exact ⟨0, 0, 0, s, pal, pcl, pak, pck, ds, t, al, cl, ak, ck, dt, w4.heap.size, Nat.zero_le _, rfl, HB0.out, HBLI.out⟩
  case round =>
    obtain ⟨n, i, j, S, sal, scl, sak, sck, sd, T, tal, tcl, tak, tck, td, L, hn, rfl, hM, hI⟩ := hrel
    clear HB0 HBLI
    by_cases hlt : n < zs.length
    · have hltz : (n : Int) < (zs.length : Int) := by omega
      obtain ⟨pb, po, rfl, hpB, hpc⟩ := HZ.out.resolve_left (fun q => by rw [List.map_eq_nil_iff] at q; rw [q] at hlt; simp at hlt)
      have d1 : wr.cell? ⟨pb, po + n, none⟩ = some (.int .i64 zs[n]) := by
        rw [hM.bl.cell (p := ⟨pb, po + n, none⟩) hpB, hpc n (by simpa using hlt), List.getElem_map]
      have HM := hideK hM
      have HI := hideK hI
      have Cx := hideK (fun (V : World) (hS : BMW w mb L g ag cg mb i (n : Int) S sal scl sak sck sd T tal tcl tak tck td V) => head_any S sal scl sak sck sd (PSB w mb L) V hI.uS hS.x.bd hS.x.lp hS.x.kp (fun b q => Nat.lt_of_lt_of_le q.1 hS.lo.2.2))
      have Cy := hideK (fun (V : World) (hS : BMW w mb L g ag cg mb i (n : Int) S sal scl sak sck sd T tal tcl tak tck td V) => head_any T tal tcl tak tck td (PSB w mb L) V hI.uT hS.y.bd hS.y.lp hS.y.kp (fun b q => Nat.lt_of_lt_of_le q.1 hS.lo.2.2))
      unfold HDPost at Cx Cy
      simp only [tyVal] at Cx Cy
      clear hM hI hpc
      have HZ1 := hideK (HZR.out _ (List.getElem_mem hlt))
      generalize zs[n] = z at *
      go_upto_region 16 with fail
      go_cut [15, 16] (fun s1 s2 wc => ∃ ox oy A aal acl aak ack ad Bt bal bcl bak bck bd, s1 = .pointer (some ⟨ox, 0, none⟩) ∧ s2 = .pointer (some ⟨oy, 0, none⟩) ∧ BMW w mb L g ag cg mb i (n : Int) S sal scl sak sck sd T tal tcl tak tck td wc ∧ UFI S A ∧ A.kind ≠ 8 ∧ UFI T Bt ∧ Bt.kind ≠ 8 ∧ TBB wc (QPB w mb L ox oy wc.heap.size) ox A aal acl aak ack ad ∧ TBB wc (QPB w mb L ox oy wc.heap.size) oy Bt bal bcl bak bck bd ∧ ox ≠ oy ∧ L ≤ ox ∧ L ≤ oy ∧ ox < wc.heap.size ∧ oy < wc.heap.size)
      case first =>
        clear HT HZR HZ HI HZ1
        rename_i iq0 iq1 iq2 iq3 iq4 iq5 iq6 iq7 iq8 iq9 iq10 iq11
        revert ds dt s t pal pcl pak pck al cl ak ck zs cp w hzl iq0 V w1 g0 ag0 cg0 mb0 B0 w2 w3 g h w4 ag cg mb iq1 iq2 wr u6 u13 u14 u15 u16 u17 u18 u19 u20 u21 u22 u23 u24 u70 u71 u72 u73 u74 u75 u76 u77 u78 u79 u80 u81 u82 u83 u84 u85 u86 u87 u88 u89 u90 u91 u92 u93 u94 u95 u96 u97 u98 u99 u100 u101 u102 u103 u104 u105 u106 u107 u108 u109 u110 u111 u112 u113 u114 u115 u116 u117 u118 u119 u120 u121 u122 u123 u124 u125 u126 u127 u128 u129 u130 u131 u132 u133 u134 u135 u136 u137 u138 u139 u140 u141 u142 u143 u144 u145 u146 u147 u148 u149 u150 u151 u152 u153 u154 u155 u156 u157 u158 u159 u160 u161 u162 u163 u164 u165 u166 u167 u168 u169 u170 u171 u172 u173 u174 u175 u176 u177 u178 u179 u180 u181 u182 u183 u184 u185 u186 u187 u188 u189 u190 u191 u192 u193 u194 u195 u196 u197 u198 u199 u200 u201 u202 u203 u204 u205 u206 u207 n i j S sal scl sak sck sd T tal tcl tak tck td L hn hlt hltz pb po hpB HM Cx Cy z d1 iq3 iq4 iq5 iq6 iq7 iq8 iq9 iq10 iq11
        exact HFIRST.out
      case rest =>
        rename_i iq0 iq1 iq2 iq3 iq4 iq5 iq6 iq7 iq8 iq9 iq10 iq11 iq12 iq13 iq14 iq15 iq16 iq17 iq18 iq19 iq20 iq21 iq22 iq23 iq24 iq25 iq26 iq27 iq28 iq29 iq30 iq31 iq32 iq33 iq34 iq35 iq36 iq37 iq38 iq39 iq40 iq41 iq42 iq43 iq44 iq45 iq46 iq47 iq48 iq49 iq50 iq51 iq52 iq53 iq54 iq55 iq56 iq57 iq58 iq59 iq60 iq61 iq62 iq63 iq64 iq65 iq66 iq67 iq68 iq69 iq70 iq71 iq72 iq73 iq74 iq75 iq76 iq77 iq78 iq79 iq80 iq81 iq82 iq83 iq84 iq85 iq86 iq87 iq88 iq89 iq90 iq91 iq92 iq93 iq94 iq95 iq96 iq97 iq98 iq99 iq100 iq101 iq102 iq103 iq104 iq105 iq106 iq107 iq108 iq109 iq110 iq111 iq112 iq113 iq114 iq115 iq116 iq117 iq118 iq119 iq120 iq121 iq122 iq123 iq124 iq125 iq126 iq127 iq128 iq129 iq130 iq131 iq132 iq133 iq134 iq135 iq136 iq137 iq138 iq139 iq140
        revert ds dt s t pal pcl pak pck al cl ak ck zs cp w hzl HT HZR iq0 V w1 g0 ag0 cg0 mb0 B0 w2 w3 g h w4 ag cg mb iq1 iq2 wr u6 u13 u14 iq3 iq4 u17 u18 u19 u20 u21 u22 u23 u24 iq5 iq6 iq7 iq8 iq9 iq10 iq11 iq12 iq13 iq14 iq15 iq16 iq17 iq18 iq19 iq20 iq21 u87 u88 iq22 iq23 iq24 iq25 iq26 iq27 iq28 iq29 iq30 iq31 iq32 iq33 iq34 iq35 iq36 iq37 iq38 u106 iq39 iq40 iq41 iq42 iq43 iq44 u113 iq45 iq46 iq47 iq48 iq49 iq50 u120 iq51 iq52 iq53 iq54 iq55 iq56 u127 iq57 iq58 iq59 iq60 iq61 iq62 iq63 iq64 iq65 iq66 iq67 iq68 iq69 iq70 iq71 iq72 iq73 u145 iq74 iq75 iq76 iq77 iq78 iq79 iq80 iq81 iq82 iq83 iq84 iq85 iq86 iq87 iq88 iq89 iq90 iq91 iq92 iq93 iq94 iq95 iq96 iq97 iq98 iq99 iq100 iq101 iq102 iq103 iq104 iq105 iq106 iq107 iq108 iq109 iq110 iq111 iq112 iq113 iq114 iq115 iq116 iq117 iq118 iq119 iq120 iq121 iq122 iq123 iq124 iq125 iq126 iq127 iq128 iq129 iq130 iq131 iq132 iq133 iq134 iq135 n i j S sal scl sak sck sd T tal tcl tak tck td L hn hlt hltz pb po HZ hpB HM HI Cx Cy z d1 HZ1 iq136 iq137 iq138 iq139 iq140 wc u15 u16 u70 u71 u72 u73 u74 u75 u76 u77 u78 u79 u80 u81 u82 u83 u84 u85 u86 u89 u90 u91 u92 u93 u94 u95 u96 u97 u98 u99 u100 u101 u102 u103 u104 u105 u107 u108 u109 u110 u111 u112 u114 u115 u116 u117 u118 u119 u121 u122 u123 u124 u125 u126 u128 u129 u130 u131 u132 u133 u134 u135 u136 u137 u138 u139 u140 u141 u142 u143 u144 u146 u147 u148 u149 u150 u151 u152 u153 u154 u155 u156 u157 u158 u159 u160 u161 u162 u163 u164 u165 u166 u167 u168 u169 u170 u171 u172 u173 u174 u175 u176 u177 u178 u179 u180 u181 u182 u183 u184 u185 u186 u187 u188 u189 u190 u191 u192 u193 u194 u195 u196 u197 u198 u199 u200 u201 u202 u203 u204 u205 u206 u207 hcut
        exact HREST.out
    · have hltz : ¬ (n : Int) < (zs.length : Int) := by omega
      have HBL := hideK hM.bl
      clear hM hI
      go_wp2_with fail
      go_ret
      exact ⟨rfl, HBL.out⟩⟩
end Go.Proofs.YthhbbhijpkoelaaDoor
