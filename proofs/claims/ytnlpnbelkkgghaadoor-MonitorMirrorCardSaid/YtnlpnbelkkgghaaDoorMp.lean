/-
  The law of duetkeep.MonitorMirror: whatever type and events are handed in it answers true.
-/
import Derived.Test.YtnlpnbelkkgghaaDoorMo
import Derived.Test.YtnlpnbelkkgghaaDoorJc
import Derived.Test.YtnlpnbelkkgghaaDoorLt
import Derived.Test.YtnlpnbelkkgghaaDoorMk
namespace Go.Proofs.YtnlpnbelkkgghaaDoor
open Go.RowKit Go.Shelf

theorem sndM_bd : TyBd sndT 0 1 := ⟨by show (0 : Nat) ≤ 9223372036854775807; omega, (fun l hl => by cases hl), Nat.le_refl _, by omega, Nat.le_refl _, by omega⟩
theorem newLit (W : World) (H : Nat) (hH : W.heap.size = H) : Calls Tryd.prog 24 #[.agg #[.int .i64 2, .int .i64 1, .string ⟨#[]⟩, .slice none 0 0, .slice (some ⟨H, 0, none⟩) 1 1]] (W.alloc (.cells #[.int .i64 1, .int .i64 0, .string ⟨#[]⟩, .slice none 0 0, .slice none 0 0] 25)) fun e w' => (∃ ag cg mb B, e = .returned (.tuple #[.pointer (some ⟨mb, 0, none⟩), .int .i64 0]) ∧ MN mb sndG.length ag cg 0 0 0 w' ∧ GAt w' B sndG ag ∧ B ≤ w'.heap.size) ∧ Below W.heap.size W w' := by
  subst hH
  have k1 : KT (W.alloc (.cells #[.int .i64 1, .int .i64 0, .string ⟨#[]⟩, .slice none 0 0, .slice none 0 0] 25)) (W.alloc (.cells #[.int .i64 1, .int .i64 0, .string ⟨#[]⟩, .slice none 0 0, .slice none 0 0] 25)).heap.size 1 [endT] (some ⟨W.heap.size, 0, none⟩) := kt_lit end_bd (.inl rfl) rfl
  have hA : Below W.heap.size W (W.alloc (.cells #[.int .i64 1, .int .i64 0, .string ⟨#[]⟩, .slice none 0 0, .slice none 0 0] 25)) := (Below.refl _ _).alloc (Nat.le_refl _) _
  refine (new_any 1 sndT none 0 (some ⟨W.heap.size, 0, none⟩) 1 (W.alloc (.cells #[.int .i64 1, .int .i64 0, .string ⟨#[]⟩, .slice none 0 0, .slice none 0 0] 25)) sndM_bd (.inl rfl) k1).mono ?_
  rintro e w' ⟨q | ⟨g, ag, cg, mb, B, hg, e, hm, hga, hB, _⟩, hb⟩
  · exact absurd snd_chk q.1
  · obtain rfl := hg.uniq snd_of
    exact ⟨⟨ag, cg, mb, B, e, hm, hga, by have := hm.lt; omega⟩, hA.trans (hb.mono hA.size)⟩
theorem newGood {t : Ty} {w : World} {g : List Nd} (hg : OFG t g) {args : Array Value} (c : Calls Tryd.prog 24 args w (NXPost t w)) : Calls Tryd.prog 24 args w fun e w' => (∃ ag cg mb, e = .returned (.tuple #[.pointer (some ⟨mb, 0, none⟩), .int .i64 0]) ∧ MN mb g.length ag cg 0 0 0 w' ∧ w.heap.size ≤ mb ∧ ∃ W, GAx w W g ag ∧ W.heap.size ≤ mb ∧ (∀ b, b < W.heap.size → w'.heap[b]? = W.heap[b]?)) ∧ Below w.heap.size w w' := by
  refine c.mono ?_
  rintro e w' ⟨q | ⟨g', ag, cg, mb, hg', e, hr⟩, hb⟩
  · exact absurd hg.chk q.1
  · obtain rfl := hg.uniq hg'
    exact ⟨⟨ag, cg, mb, e, hr⟩, hb⟩
theorem EvAt.blk {W W' : World} {b : Nat} {x : Ev} {al : Option Addr} {cl : Nat} {ak : Option Addr} {ck : Nat} (h : EvAt W b x al cl ak ck) (hb : W'.heap[b]? = W.heap[b]?) : EvAt W' b x al cl ak ck :=
  have c : ∀ o, W'.cell? ⟨b, o, none⟩ = W.cell? ⟨b, o, none⟩ := fun o => World.cell?_of_block (a := ⟨b, o, none⟩) hb
  ⟨(c 0).trans h.c0, (c 1).trans h.c1, (c 2).trans h.c2, (c 3).trans h.c3, (c 4).trans h.c4, (c 5).trans h.c5, (c 6).trans h.c6, (c 7).trans h.c7, (c 8).trans h.c8, (c 9).trans h.c9⟩
/-- both monitors in memory, and the events -/
structure MW (w : World) (evs : List Ev) (ae : Option Addr) (g h : List Nd) (ag : Option Addr) (cg : Nat) (ah : Option Addr) (ch mb nb B : Nat) (v Wh : World) (i j : Nat) (dn bl dm bm : Int) (W : World) : Prop where
  m : MN mb g.length ag cg i dn bl W
  n : MN nb h.length ah ch j dm bm W
  ga : GAt W B g ag
  hk : ∀ b, v.heap.size ≤ b → b < Wh.heap.size → W.heap[b]? = Wh.heap[b]?
  ev : EVS W w.heap.size evs ae
  bl : Below w.heap.size w W
structure MX (w : World) (mb nb B : Nat) (v Wh : World) : Prop where
  b1 : B ≤ mb
  b2 : mb < v.heap.size
  b3 : v.heap.size ≤ Wh.heap.size
  b4 : Wh.heap.size ≤ nb
  b5 : w.heap.size ≤ mb
theorem MW.keep {w : World} {evs : List Ev} {ae : Option Addr} {g h : List Nd} {ag : Option Addr} {cg : Nat} {ah : Option Addr} {ch mb nb B : Nat} {v Wh : World} {i j : Nat} {dn bl dm bm : Int} {W W' : World} (q : MW w evs ae g h ag cg ah ch mb nb B v Wh i j dn bl dm bm W) (x : MX w mb nb B v Wh) (hb : Below W.heap.size W W') : MW w evs ae g h ag cg ah ch mb nb B v Wh i j dn bl dm bm W' := by
  have h1 := q.m.lt
  have h2 := q.n.lt
  have hx1 := x.b1
  have hx4 := x.b4
  exact ⟨q.m.keep hb, q.n.keep hb, q.ga.keep (hb.mono (by omega)), fun b p1 p2 => (hb.block b (by omega)).trans (q.hk b p1 p2), q.ev.keep (hb.mono q.bl.size), q.bl.trans (hb.mono q.bl.size)⟩
theorem MW.takeM {w : World} {evs : List Ev} {ae : Option Addr} {g h : List Nd} {ag : Option Addr} {cg : Nat} {ah : Option Addr} {ch mb nb B : Nat} {v Wh : World} {i j : Nat} {dn bl dm bm : Int} {W W' : World} (q : MW w evs ae g h ag cg ah ch mb nb B v Wh i j dn bl dm bm W) (x : MX w mb nb B v Wh) {i' : Nat} {dn' bl' : Int} (hm : MN mb g.length ag cg i' dn' bl' W') (hb : But3 mb mb mb W W') : MW w evs ae g h ag cg ah ch mb nb B v Wh i' j dn' bl' dm bm W' := by
  have h1 := q.m.lt
  have h2 := q.n.lt
  obtain ⟨b1, b2, b3, b4, b5⟩ := x
  have hbw : Below w.heap.size W W' := hb.bel q.bl.size (by omega) (by omega) (by omega)
  exact ⟨hm, q.n.blk (hb.block nb h2 (by omega) (by omega) (by omega)) hb.size, q.ga.keep (hb.bel (by omega) b1 b1 b1), fun b p1 p2 => (hb.block b (by omega) (by omega) (by omega) (by omega)).trans (q.hk b p1 p2), q.ev.keep hbw, q.bl.trans hbw⟩
theorem MW.takeN {w : World} {evs : List Ev} {ae : Option Addr} {g h : List Nd} {ag : Option Addr} {cg : Nat} {ah : Option Addr} {ch mb nb B : Nat} {v Wh : World} {i j : Nat} {dn bl dm bm : Int} {W W' : World} (q : MW w evs ae g h ag cg ah ch mb nb B v Wh i j dn bl dm bm W) (x : MX w mb nb B v Wh) {j' : Nat} {dm' bm' : Int} (hm : MN nb h.length ah ch j' dm' bm' W') (hb : But3 nb nb nb W W') : MW w evs ae g h ag cg ah ch mb nb B v Wh i j' dn bl dm' bm' W' := by
  have h1 := q.m.lt
  have h2 := q.n.lt
  obtain ⟨b1, b2, b3, b4, b5⟩ := x
  have hbw : Below w.heap.size W W' := hb.bel q.bl.size (by omega) (by omega) (by omega)
  exact ⟨q.m.blk (hb.block mb h1 (by omega) (by omega) (by omega)) hb.size, hm, q.ga.keep (hb.bel (by omega) (by omega) (by omega) (by omega)), fun b p1 p2 => (hb.block b (by omega) (by omega) (by omega) (by omega)).trans (q.hk b p1 p2), q.ev.keep hbw, q.bl.trans hbw⟩
set_option maxRecDepth 100000 in
set_option maxHeartbeats 16000000 in
theorem monitorMirror_law (d : Nat) (t : Ty) (al : Option Addr) (cl : Nat) (ak : Option Addr) (ck : Nat) (evs : List Ev) (ae : Option Addr) (ce : Nat) (w : World) (hT0 : Tabs w) (ht1 : TyBd t cl ck) (ht2 : LA w w.heap.size t.labels al) (ht3 : KT w w.heap.size d t.kids ak) (hev : EVS w w.heap.size evs ae) (hlen : evs.length ≤ 9223372036854775807) :
    Calls Tryd.prog 7 #[tyVal t al cl ak ck, .slice ae evs.length ce] w fun e w' => e = .returned (.bool true) ∧ Below w.heap.size w w' := by
  have hA : Below w.heap.size w (w.alloc (.cells #[.int .i64 t.kind, .int .i64 t.so, .string t.name, .slice al t.labels.length cl, .slice ak t.kids.length ck] 25)) := (Below.refl _ _).alloc (Nat.le_refl _) _
  have HP := hideK (lit_ty w t al cl ak ck)
  have HA := hideK hA
  have HS0 := hideK (show (w.alloc (.cells #[.int .i64 t.kind, .int .i64 t.so, .string t.name, .slice al t.labels.length cl, .slice ak t.kids.length ck] 25)).heap.size = w.heap.size + 1 from by simp)
  have HV := hideK (at_v hT0)
  have CL := hideK (fun (W : World) (h : W.heap.size = w.heap.size + 1) => newLit W (w.heap.size + 1) h)
  have C1 := hideK (fun (W : World) (hb : Below w.heap.size w W) => newX_any d t al cl ak ck W ht1 ((ht2.keep hb).mono hb.size) ((ht3.keep hb).mono hb.size))
  have C2 := hideK (fun (g : List Nd) (hg : OFG t g) (W : World) (hb : Below w.heap.size w W) => dofGood hg (dualOf_any d t al cl ak ck W ht1 ((ht2.keep hb).mono hb.size) ((ht3.keep hb).mono hb.size)))
  have HEV := hideK hev
  have hlz : (evs.length : Int) ≤ 9223372036854775807 := by omega
  unfold NXPost at C1
  simp only [tyVal] at C1 C2 ⊢
  clear hT0 ht1 ht2 ht3 hA hev
  go_enter Tryd.func7, Tryd.ntmps7
  go_upto_region 1 with fail
  generalize w.alloc (.cells #[.int .i64 t.kind, .int .i64 t.so, .string t.name, .slice al t.labels.length cl, .slice ak t.kids.length ck] 25) = W0 at *
  have hs0 := HS0.out
  go_wp2_with fail
  refine (CL.out _ (by first | exact hs0 | simpa using hs0)).mono ?_
  rintro e w1 ⟨⟨a1, c1, m1, B1, rfl, hm1, hg1, hB1⟩, hb1⟩
  have CN := next_any sndG a1 c1 B1 m1 0 0 0 w1 hm1 hg1 hB1 (by decide) (by decide)
  rw [show nxtZ sndG 0 0 = 2 from by kernel_rfl] at CN
  have HP1 := hideK (HP.out.keep hb1 (by omega))
  have HB1 := hideK (HA.out.trans (hb1.mono HA.out.size))
  have hs1 := hb1.size
  clear hm1 hg1 hB1 hb1 CL HP HA
  go_wp2_with fail
  refine CN.mono ?_
  rintro e w2 ⟨rfl, hb2⟩
  have HP2 := hideK (HP1.out.keep hb2 (by omega))
  have HB2 := hideK (HB1.out.trans (hb2.mono HB1.out.size))
  have hs2 := hb2.size
  clear CN hb2 HP1 HB1
  obtain ⟨x0, x1, x2, x3, x4⟩ := HP2.out
  simp only [Nat.zero_add] at x1 x2 x3 x4
  go_wp2_with fail
  refine (C1.out _ HB2.out).mono ?_
  rintro e w3 ⟨hor, hb3⟩
  have HP3 := hideK (HP2.out.keep hb3 (by omega))
  have HB3 := hideK (HB2.out.trans (hb3.mono HB2.out.size))
  have hs3 := hb3.size
  clear hb3 HP2 x0 x1 x2 x3 x4
  obtain ⟨x0, x1, x2, x3, x4⟩ := HP3.out
  simp only [Nat.zero_add] at x1 x2 x3 x4
  rcases hor with ⟨hz, rfl⟩ | ⟨g, ag, cg, mb, hg, rfl, hm, hmb, Wg, hgx, hWg, hkg⟩
  · have hzb : (chkTy t != 0) = true := by simpa using hz
    clear hz
    go_wp2_with fail
    go_ret
    exact ⟨rfl, HB3.out⟩
  · have HG := hideK hg
    have HGG := hideK (show GAt w3 Wg.heap.size g ag from hgx.gat2 (fun b _ h2 => hkg b h2))
    have HM := hideK hm
    have HMB := hideK (show Wg.heap.size ≤ mb ∧ w.heap.size ≤ mb from ⟨hWg, by have := HB2.out.size; omega⟩)
    clear hg hgx hkg hm
    go_wp2_with fail
    refine (C2.out g HG.out _ HB3.out).mono ?_
    rintro e w4 ⟨⟨cs, hcs, ao, co, rfl, hga⟩, hb4⟩
    have HB4 := hideK (HB3.out.trans (hb4.mono HB3.out.size))
    have hs4 := hb4.size
    have HM4 := hideK (HM.out.keep hb4)
    have HGG4 := hideK (HGG.out.keep (hb4.mono (show Wg.heap.size ≤ w3.heap.size from by have := HM.out.lt; omega)))
    have HOG := hideK (oth_gn HG.out.gn (by have := HG.out.le; omega))
    have GD := hideK (least_gn HOG.out hcs)
    have cB := backKeep_any (leastG (othG g) cs) GD.out.1 ao co w4.heap.size w4 hga (Nat.le_refl _)
    have HDU := hideK (fun (q : (backP (leastG (othG g) cs)).2.2 ≤ 60) (h : List Nd) (hh : OFG (backP (leastG (othG g) cs)).1 h) => show RL g h 0 0 from ⟨HG.out.gn.pos, hh.gn.pos, fun k => by
      rw [hh.does k, (back_ok GD.out.1 GD.out.1.le q).2]
      exact GD.out.2.1 k⟩)
    have HBO := hideK (fun (q : (backP (leastG (othG g) cs)).2.2 ≤ 60) => (back_ok GD.out.1 GD.out.1.le q).1)
    generalize leastG (othG g) cs = dg at *
    unfold BOPost at cB
    clear hb4 hcs hga HM HGG x0 x1 x2 x3 x4
    go_wp2_with fail
    refine cB.mono ?_
    rintro e w5 ⟨hor, hb5⟩
    have HB5 := hideK (HB4.out.trans (hb5.mono HB4.out.size))
    have hs5 := hb5.size
    have HM5 := hideK (HM4.out.keep hb5)
    have HGG5 := hideK (HGG4.out.keep (hb5.mono (show Wg.heap.size ≤ w4.heap.size from by have := HM4.out.lt; omega)))
    clear cB hb5 HM4 HGG4
    rcases hor with ⟨hq, t9, al9, cl9, ak9, ck9, rfl⟩ | ⟨hq, bal, bcl, bak, bck, bd, rfl, hd1, hd2, hd3⟩
    · have HB6 := hideK (HB5.out.alloc HB5.out.size (.cells #[.int .i64 t9.kind, .int .i64 t9.so, .string t9.name, .slice al9 t9.labels.length cl9, .slice ak9 t9.kids.length ck9] 25))
      clear hq
      simp only [tyVal]
      go_wp2_with fail
      go_ret
      exact ⟨rfl, HB6.out⟩
    · obtain ⟨h, hh⟩ := OFG_ex (HBO.out hq)
      have HRL := hideK (HDU.out hq h hh)
      have hA6 : Below w5.heap.size w5 (w5.alloc (.cells #[.int .i64 (backP dg).1.kind, .int .i64 (backP dg).1.so, .string (backP dg).1.name, .slice bal (backP dg).1.labels.length bcl, .slice bak (backP dg).1.kids.length bck] 25)) := (Below.refl _ _).alloc (Nat.le_refl _) _
      have C6 := newGood hh (newX_any bd (backP dg).1 bal bcl bak bck (w5.alloc (.cells #[.int .i64 (backP dg).1.kind, .int .i64 (backP dg).1.so, .string (backP dg).1.name, .slice bal (backP dg).1.labels.length bcl, .slice bak (backP dg).1.kids.length bck] 25)) hd1 ((hd2.keep hA6).mono hA6.size) ((hd3.keep hA6).mono hA6.size))
      have HH := hideK hh
      have HB6 := hideK (HB5.out.trans (hA6.mono HB5.out.size))
      have HM6 := hideK (HM5.out.keep hA6)
      have HGG6 := hideK (HGG5.out.keep (hA6.mono (show Wg.heap.size ≤ w5.heap.size from by have := HM5.out.lt; omega)))
      have HP6 := hideK (lit_ty w5 (backP dg).1 bal bcl bak bck)
      simp only [tyVal] at C6 ⊢
      clear hd1 hd2 hd3 hA6 hq hh HDU HBO HM5 HGG5
      generalize (backP dg).1 = b at *
      go_upto_region 8 with fail
      generalize w5.heap.size = ob at *
      generalize w5.alloc (.cells #[.int .i64 b.kind, .int .i64 b.so, .string b.name, .slice bal b.labels.length bcl, .slice bak b.kids.length bck] 25) = W6 at *
      obtain ⟨x0, x1, x2, x3, x4⟩ := HP6.out
      simp only [Nat.zero_add] at x1 x2 x3 x4
      go_wp2_with fail
      refine C6.mono ?_
      rintro e w7 ⟨⟨ah, ch, nb, rfl, hn, hnb, Wh, hhx, hWh, hkh⟩, hb7⟩
      have hml := HM6.out.lt
      have HMX := hideK (show MX w mb nb Wg.heap.size W6 Wh from ⟨HMB.out.1, hml, hhx.size_le HH.out.gn.pos, hWh, HMB.out.2⟩)
      have HHX := hideK hhx
      have HMW := hideK (show MW w evs ae g h ag cg ah ch mb nb Wg.heap.size W6 Wh 0 0 0 0 0 0 w7 from ⟨HM6.out.keep hb7, hn, HGG6.out.keep (hb7.mono (show Wg.heap.size ≤ W6.heap.size from by have := HMB.out.1; omega)), fun b _ p2 => hkh b p2, HEV.out.keep (HB6.out.trans (hb7.mono HB6.out.size)), HB6.out.trans (hb7.mono HB6.out.size)⟩)
      have HMM := hideK (show MM g h 0 0 0 0 0 0 from ⟨HRL.out, rfl, .inl ⟨rfl, rfl⟩⟩)
      clear C6 hn hhx hkh hb7 HM6 HGG6 HP6 HEV x0 x1 x2 x3 x4 HRL HB2 HB3 HB4 HB5 HB6 HP3 C1 C2
      go_upto_region 14 with fail
      go_loopw [78] (fun iv wr => ∃ (k i j : Nat) (dn bl dm bm : Int), k ≤ evs.length ∧ iv = .int .i64 (k : Int) ∧ MW w evs ae g h ag cg ah ch mb nb Wg.heap.size W6 Wh i j dn bl dm bm wr ∧ MM g h i j dn bl dm bm ∧ 0 ≤ dn ∧ dn ≤ (k : Int)) (fun iv _ => evs.length - (intOf iv).toNat)
      case atStart => exact ⟨0, 0, 0, 0, 0, 0, 0, Nat.zero_le _, rfl, HMW.out, HMM.out, by omega, by omega⟩
      case round =>
        obtain ⟨k, i, j, dn, bl, dm, bm, hk, rfl, hMW, hMM, hd0, hdk⟩ := hrel
        clear HMW HMM
        by_cases hlt : k < evs.length
        · have hltz : (k : Int) < (evs.length : Int) := by omega
          obtain ⟨eb, eo, rfl, heb, hec⟩ := hMW.ev.resolve_left (fun q => by rw [q] at hlt; simp at hlt)
          obtain ⟨xal, xcl, xak, xck, xd, hxc, hxs, hxb, hxl, hxk⟩ := hec k hlt
          generalize evs[k] = x at *
          obtain ⟨q0, q1, q2, q3, q4, q5, q6, q7, q8, q9⟩ := hxc
          simp only [Nat.add_zero] at q0
          have hsw := hMW.bl.size
          have hA2 : Below wr.heap.size wr ((wr.alloc (.cells #[.int .i64 x.kind, .int .i64 x.so, .int .i64 x.n, .string x.s, .int .i64 x.carry.kind, .int .i64 x.carry.so, .string x.carry.name, .slice xal x.carry.labels.length xcl, .slice xak x.carry.kids.length xck, .string x.label] 63)).alloc (.cells #[.int .i64 (kdD x.kind), .int .i64 x.so, .int .i64 x.n, .string x.s, .int .i64 x.carry.kind, .int .i64 x.carry.so, .string x.carry.name, .slice xal x.carry.labels.length xcl, .slice xak x.carry.kids.length xck, .string x.label] 63)) := ((Below.refl _ _).alloc (Nat.le_refl _) _).alloc (by simp) _
          have HW2 := hideK (hMW.keep HMX.out hA2)
          have HX2 := hideK (show EvAt ((wr.alloc (.cells #[.int .i64 x.kind, .int .i64 x.so, .int .i64 x.n, .string x.s, .int .i64 x.carry.kind, .int .i64 x.carry.so, .string x.carry.name, .slice xal x.carry.labels.length xcl, .slice xak x.carry.kids.length xck, .string x.label] 63)).alloc (.cells #[.int .i64 (kdD x.kind), .int .i64 x.so, .int .i64 x.n, .string x.s, .int .i64 x.carry.kind, .int .i64 x.carry.so, .string x.carry.name, .slice xal x.carry.labels.length xcl, .slice xak x.carry.kids.length xck, .string x.label] 63)) wr.heap.size x xal xcl xak xck from ⟨by go_cell, by go_cell, by go_cell, by go_cell, by go_cell, by go_cell, by go_cell, by go_cell, by go_cell, by go_cell⟩)
          have HY2 := hideK (show EvAt ((wr.alloc (.cells #[.int .i64 x.kind, .int .i64 x.so, .int .i64 x.n, .string x.s, .int .i64 x.carry.kind, .int .i64 x.carry.so, .string x.carry.name, .slice xal x.carry.labels.length xcl, .slice xak x.carry.kids.length xck, .string x.label] 63)).alloc (.cells #[.int .i64 (kdD x.kind), .int .i64 x.so, .int .i64 x.n, .string x.s, .int .i64 x.carry.kind, .int .i64 x.carry.so, .string x.carry.name, .slice xal x.carry.labels.length xcl, .slice xak x.carry.kids.length xck, .string x.label] 63)) (wr.heap.size + 1) (dualE x) xal xcl xak xck from ⟨by unfold dualE; go_cell, by unfold dualE; go_cell, by unfold dualE; go_cell, by unfold dualE; go_cell, by unfold dualE; go_cell, by unfold dualE; go_cell, by unfold dualE; go_cell, by unfold dualE; go_cell, by unfold dualE; go_cell, by unfold dualE; go_cell⟩)
          have HS2 := hideK (show ((wr.alloc (.cells #[.int .i64 x.kind, .int .i64 x.so, .int .i64 x.n, .string x.s, .int .i64 x.carry.kind, .int .i64 x.carry.so, .string x.carry.name, .slice xal x.carry.labels.length xcl, .slice xak x.carry.kids.length xck, .string x.label] 63)).alloc (.cells #[.int .i64 (kdD x.kind), .int .i64 x.so, .int .i64 x.n, .string x.s, .int .i64 x.carry.kind, .int .i64 x.carry.so, .string x.carry.name, .slice xal x.carry.labels.length xcl, .slice xak x.carry.kids.length xck, .string x.label] 63)).heap.size = wr.heap.size + 1 + 1 from by simp)
          have HXM := hideK (fun (W : World) (hb : Below w.heap.size wr W) => show LA W W.heap.size x.carry.labels xal ∧ KT W W.heap.size xd x.carry.kids xak from ⟨(hxl.keep hb).mono (by have := hb.size; omega), (hxk.keep hb).mono (by have := hb.size; omega)⟩)
          have HBX := hideK (show Below w.heap.size wr _ from hA2.mono hsw)
          have HXB := hideK (And.intro hxs hxb)
          have CK := hideK (fun W : World => kind_any x.kind W)
          have HMM := hideK hMM
          have hml := hMW.m.lt
          have hnl := hMW.n.lt
          clear hec hxl hxk hA2 hMW hMM hxs hxb
          go_upto_region 17 with fail
          go_wp2_with fail
          refine (CK.out _).mono ?_
          rintro e w8 ⟨rfl, rfl⟩
          clear q0 q1 q2 q3 q4 q5 q6 q7 q8 q9
          go_upto_region 18 with fail
          generalize wr.heap.size = xb at *
          generalize ((wr.alloc (.cells #[.int .i64 x.kind, .int .i64 x.so, .int .i64 x.n, .string x.s, .int .i64 x.carry.kind, .int .i64 x.carry.so, .string x.carry.name, .slice xal x.carry.labels.length xcl, .slice xak x.carry.kids.length xck, .string x.label] 63)).alloc (.cells #[.int .i64 (kdD x.kind), .int .i64 x.so, .int .i64 x.n, .string x.s, .int .i64 x.carry.kind, .int .i64 x.carry.so, .string x.carry.name, .slice xal x.carry.labels.length xcl, .slice xak x.carry.kids.length xck, .string x.label] 63)) = W8 at *
          have hs8 := HS2.out
          have cT := take_any HV.out at_k g HG.out.gn ag cg Wg.heap.size mb i dn bl xd x xal xcl xak xck W8 HW2.out.bl HW2.out.m HW2.out.ga (by have := HMX.out.b1; omega) HMM.out.r.hi ⟨hd0, by omega⟩ HXB.out.1 HXB.out.2 (HXM.out W8 HBX.out).1 (HXM.out W8 HBX.out).2
          obtain ⟨q0, q1, q2, q3, q4, q5, q6, q7, q8, q9⟩ := HX2.out
          unfold TAPost at cT
          unfold evVal at cT
          go_wp2_with fail
          refine cT.mono ?_
          rintro e w9 ⟨i', dn', bl', va, za, rfl, hta, hm9, hb9⟩
          have HW9 := hideK (HW2.out.takeM HMX.out hm9 hb9)
          have hs9 := hb9.size
          have HY9 := hideK (HY2.out.blk (hb9.block (xb + 1) (by omega) (by omega) (by omega) (by omega)))
          have HBX9 := hideK (show Below w.heap.size wr w9 from HBX.out.trans (hb9.bel (by have := HW2.out.bl.size; omega) HMX.out.b5 HMX.out.b5 HMX.out.b5))
          have HTA := hideK hta
          clear cT hm9 hb9 hta HW2 HX2 HY2 q0 q1 q2 q3 q4 q5 q6 q7 q8 q9
          have hmx := HMX.out
          have cU := take_any HV.out at_k h HH.out.gn ah ch Wh.heap.size nb j dm bm xd (dualE x) xal xcl xak xck w9 HW9.out.bl HW9.out.n (HHX.out.gat2 HW9.out.hk) (by have := HMX.out.b4; omega) HMM.out.r.hj (by rw [HMM.out.d]; exact ⟨hd0, by omega⟩) HXB.out.1 HXB.out.2 (HXM.out w9 HBX9.out).1 (HXM.out w9 HBX9.out).2
          obtain ⟨q0, q1, q2, q3, q4, q5, q6, q7, q8, q9⟩ := HY9.out
          unfold TAPost at cU
          unfold evVal at cU
          go_wp2_with fail
          refine cU.mono ?_
          rintro e w10 ⟨j', dm', bm', ub, zb, rfl, htb, hn10, hb10⟩
          have HW10 := hideK (HW9.out.takeN HMX.out hn10 hb10)
          have hs10 := hb10.size
          obtain ⟨hzz, hvu, hMM'⟩ := mirror_step HG.out.gn HH.out.gn HMM.out HTA.out htb goes_one
          have hdn : 0 ≤ dn' ∧ dn' ≤ (k : Int) + 1 := by
            have h9 := HTA.out
            unfold TKR at h9
            omega
          subst hzz
          have HMN := hideK hMM'
          have HDN := hideK hdn
          have HI := hideK hMM'.r.hi
          have HJ := hideK hMM'.r.hj
          have HST := hideK (mirror_state hMM')
          have hdd := hMM'.d
          clear cU hn10 hb10 htb HW9 HY9 HTA q0 q1 q2 q3 q4 q5 q6 q7 q8 q9 hMM' HMM HXM HBX HBX9 hdn
          by_cases hz0 : za = 0
          · subst hz0
            rcases hvu rfl with ⟨rfl, rfl⟩ | ⟨rfl, rfl⟩ | ⟨rfl, rfl⟩
            · have HW11 := hideK (HW10.out.keep HMX.out ((Below.refl _ _).alloc (Nat.le_refl _) (.cells #[.int .i64 0, .int .i64 2, .int .i64 1] 3)))
              go_upto_region 22 with fail
              generalize (w10.alloc (.cells #[.int .i64 0, .int .i64 2, .int .i64 1] 3)) = W11 at *
              have cS := state_any g ag cg Wg.heap.size mb i' dn' bl' W11 HW11.out.m HW11.out.ga (by have := HMX.out.b1; have := HW11.out.m.lt; omega) HI.out (by have := HG.out.gn.le; omega)
              go_wp2_with fail
              refine cS.mono ?_
              rintro e w12 ⟨rfl, hb12⟩
              have HW12 := hideK (HW11.out.keep HMX.out hb12)
              have cS2 := state_any h ah ch Wh.heap.size nb j' dm' bm' w12 HW12.out.n (HHX.out.gat2 HW12.out.hk) (by have := HMX.out.b4; have := HW12.out.n.lt; omega) HJ.out (by have := HH.out.gn.le; omega)
              rw [← HST.out, hdd] at cS2
              generalize (nxtZ g i' bl' == 1) = sb at *
              clear cS hb12
              go_wp2_with fail
              refine cS2.mono ?_
              rintro e w13 ⟨rfl, hb13⟩
              have HW13 := hideK (HW12.out.keep HMX.out hb13)
              clear cS2 hb13
              cases sb with
              | true =>
                go_wp2_with fail
                go_roundw
                case rel => exact ⟨k + 1, i', j', dn', bl', dm', bm', by omega, by go_num, HW13.out, HMN.out, HDN.out.1, by have := HDN.out.2; omega⟩
                case measure => simp [intOf]; omega
              | false =>
                go_wp2_with fail
                go_roundw
                case rel => exact ⟨k + 1, i', j', dn', bl', dm', bm', by omega, by go_num, HW13.out, HMN.out, HDN.out.1, by have := HDN.out.2; omega⟩
                case measure => simp [intOf]; omega
            · have HW11 := hideK (HW10.out.keep HMX.out ((Below.refl _ _).alloc (Nat.le_refl _) (.cells #[.int .i64 0, .int .i64 2, .int .i64 1] 3)))
              go_upto_region 22 with fail
              generalize (w10.alloc (.cells #[.int .i64 0, .int .i64 2, .int .i64 1] 3)) = W11 at *
              have cS := state_any g ag cg Wg.heap.size mb i' dn' bl' W11 HW11.out.m HW11.out.ga (by have := HMX.out.b1; have := HW11.out.m.lt; omega) HI.out (by have := HG.out.gn.le; omega)
              go_wp2_with fail
              refine cS.mono ?_
              rintro e w12 ⟨rfl, hb12⟩
              have HW12 := hideK (HW11.out.keep HMX.out hb12)
              have cS2 := state_any h ah ch Wh.heap.size nb j' dm' bm' w12 HW12.out.n (HHX.out.gat2 HW12.out.hk) (by have := HMX.out.b4; have := HW12.out.n.lt; omega) HJ.out (by have := HH.out.gn.le; omega)
              rw [← HST.out, hdd] at cS2
              generalize (nxtZ g i' bl' == 1) = sb at *
              clear cS hb12
              go_wp2_with fail
              refine cS2.mono ?_
              rintro e w13 ⟨rfl, hb13⟩
              have HW13 := hideK (HW12.out.keep HMX.out hb13)
              clear cS2 hb13
              cases sb with
              | true =>
                go_wp2_with fail
                go_roundw
                case rel => exact ⟨k + 1, i', j', dn', bl', dm', bm', by omega, by go_num, HW13.out, HMN.out, HDN.out.1, by have := HDN.out.2; omega⟩
                case measure => simp [intOf]; omega
              | false =>
                go_wp2_with fail
                go_roundw
                case rel => exact ⟨k + 1, i', j', dn', bl', dm', bm', by omega, by go_num, HW13.out, HMN.out, HDN.out.1, by have := HDN.out.2; omega⟩
                case measure => simp [intOf]; omega
            · have HW11 := hideK (HW10.out.keep HMX.out ((Below.refl _ _).alloc (Nat.le_refl _) (.cells #[.int .i64 0, .int .i64 2, .int .i64 1] 3)))
              go_upto_region 22 with fail
              generalize (w10.alloc (.cells #[.int .i64 0, .int .i64 2, .int .i64 1] 3)) = W11 at *
              have cS := state_any g ag cg Wg.heap.size mb i' dn' bl' W11 HW11.out.m HW11.out.ga (by have := HMX.out.b1; have := HW11.out.m.lt; omega) HI.out (by have := HG.out.gn.le; omega)
              go_wp2_with fail
              refine cS.mono ?_
              rintro e w12 ⟨rfl, hb12⟩
              have HW12 := hideK (HW11.out.keep HMX.out hb12)
              have cS2 := state_any h ah ch Wh.heap.size nb j' dm' bm' w12 HW12.out.n (HHX.out.gat2 HW12.out.hk) (by have := HMX.out.b4; have := HW12.out.n.lt; omega) HJ.out (by have := HH.out.gn.le; omega)
              rw [← HST.out, hdd] at cS2
              generalize (nxtZ g i' bl' == 1) = sb at *
              clear cS hb12
              go_wp2_with fail
              refine cS2.mono ?_
              rintro e w13 ⟨rfl, hb13⟩
              have HW13 := hideK (HW12.out.keep HMX.out hb13)
              clear cS2 hb13
              cases sb with
              | true =>
                go_wp2_with fail
                go_roundw
                case rel => exact ⟨k + 1, i', j', dn', bl', dm', bm', by omega, by go_num, HW13.out, HMN.out, HDN.out.1, by have := HDN.out.2; omega⟩
                case measure => simp [intOf]; omega
              | false =>
                go_wp2_with fail
                go_roundw
                case rel => exact ⟨k + 1, i', j', dn', bl', dm', bm', by omega, by go_num, HW13.out, HMN.out, HDN.out.1, by have := HDN.out.2; omega⟩
                case measure => simp [intOf]; omega
          · have kz : (za == 0) = false := by simpa using hz0
            clear hvu hz0
            have HW11 := HW10
            go_upto_region 22 with fail
            generalize hw11 : w10 = W11 at *
            have cS := state_any g ag cg Wg.heap.size mb i' dn' bl' W11 HW11.out.m HW11.out.ga (by have := HMX.out.b1; have := HW11.out.m.lt; omega) HI.out (by have := HG.out.gn.le; omega)
            go_wp2_with fail
            refine cS.mono ?_
            rintro e w12 ⟨rfl, hb12⟩
            have HW12 := hideK (HW11.out.keep HMX.out hb12)
            have cS2 := state_any h ah ch Wh.heap.size nb j' dm' bm' w12 HW12.out.n (HHX.out.gat2 HW12.out.hk) (by have := HMX.out.b4; have := HW12.out.n.lt; omega) HJ.out (by have := HH.out.gn.le; omega)
            rw [← HST.out, hdd] at cS2
            generalize (nxtZ g i' bl' == 1) = sb at *
            clear cS hb12
            go_wp2_with fail
            refine cS2.mono ?_
            rintro e w13 ⟨rfl, hb13⟩
            have HW13 := hideK (HW12.out.keep HMX.out hb13)
            clear cS2 hb13
            cases sb with
            | true =>
              go_wp2_with fail
              go_roundw
              case rel => exact ⟨k + 1, i', j', dn', bl', dm', bm', by omega, by go_num, HW13.out, HMN.out, HDN.out.1, by have := HDN.out.2; omega⟩
              case measure => simp [intOf]; omega
            | false =>
              go_wp2_with fail
              go_roundw
              case rel => exact ⟨k + 1, i', j', dn', bl', dm', bm', by omega, by go_num, HW13.out, HMN.out, HDN.out.1, by have := HDN.out.2; omega⟩
              case measure => simp [intOf]; omega
        · have hltz : ¬ (k : Int) < (evs.length : Int) := by omega
          have HB := hideK hMW.bl
          clear hMW hMM
          go_wp2_with fail
          go_ret
          exact ⟨rfl, HB.out⟩
end Go.Proofs.YtnlpnbelkkgghaaDoor
