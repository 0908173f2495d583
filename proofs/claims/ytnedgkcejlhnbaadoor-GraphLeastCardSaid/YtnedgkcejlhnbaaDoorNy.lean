/-
  The contracts of graph.Same and below.graphsOf, for every two types.
-/
import Derived.Test.YtnedgkcejlhnbaaDoorIg
import Derived.Test.YtnedgkcejlhnbaaDoorIe
import Derived.Test.YtnedgkcejlhnbaaDoorNx
import Derived.Test.YtnedgkcejlhnbaaDoorUq
import Derived.Test.YtnedgkcejlhnbaaDoorHp
namespace Go.Proofs.YtnedgkcejlhnbaaDoor
open Go.RowKit Go.Shelf

end Go.Proofs.YtnedgkcejlhnbaaDoor
/-
  Plain mathematics: the other end of a graph; one is below another one just if the other one's other end is below the one's (GAY, HOLE).
-/
namespace Go.Proofs.YtnedgkcejlhnbaaDoor

theorem okN_mk {n : Nd} (h : (n.kind = 1 ∧ n.so = 0 ∧ n.labs = [] ∧ n.to.length = 0) ∨ ((n.kind = 2 ∨ n.kind = 3) ∧ (n.so = 1 ∨ n.so = 2 ∨ n.so = 3) ∧ n.labs = [] ∧ n.to.length = 1) ∨ ((n.kind = 4 ∨ n.kind = 5) ∧ n.so = 0 ∧ n.labs = [] ∧ n.to.length = 2) ∨ ((n.kind = 6 ∨ n.kind = 7) ∧ n.so = 0 ∧ labsOK n.labs = true ∧ n.to.length = n.labs.length)) : okN n := by
  unfold okN partT
  have he : (⟨#[]⟩ : ByteArray).toList.isEmpty = true := by rw [ByteArray.toList_eq]; rfl
  simp only [List.length_map, he]
  rcases h with ⟨h1, h2, h3, h4⟩ | ⟨h1, h2, h3, h4⟩ | ⟨h1, h2, h3, h4⟩ | ⟨h1, h2, h3, h4⟩
  · rw [if_pos h1]; simp [h2, h3, h4]
  · rw [if_neg (by omega), if_pos h1]; simp [h2, h3, h4]
  · rw [if_neg (by omega), if_neg (by omega), if_pos h1]; simp [h2, h3, h4]
  · rw [if_neg (by omega), if_neg (by omega), if_neg (by omega), if_pos h1]; simp [h2, h3, h4]
end Go.Proofs.YtnedgkcejlhnbaaDoor

/-
  The law of duetkeep.GraphLeast: whatever graph and number are handed in it answers true.
-/
namespace Go.Proofs.YtnedgkcejlhnbaaDoor
open Go.RowKit Go.Shelf

theorem least_least {g : List Nd} {c c' : List Nat} (hg : GN g) (hc : CLS g c) (hc' : CLS (leastG g c) c') : leastG (leastG g c) c' = leastG g c := by
  have h := least_gn hg hc
  exact least_canon ⟨h.1.shut, hg.shut, hc', hc⟩ h.1.pos hg.pos h.2.1
theorem least_of {g h : List Nd} {c : List Nat} {t : Ty} (hg : GN g) (hc : CLS g c) (ho : OFG t h) (hd : den t e0 = fun k => gT g k 0) : h = leastG g c := by
  have hdo := ho.does
  obtain ⟨c', hc', rfl⟩ := ho.src
  have gl := lay_gn ho.chk
  refine least_canon ⟨gl.shut, hg.shut, hc', hc⟩ gl.pos hg.pos fun k => ?_
  rw [← (least_gn gl hc').2.1 k, hdo k, hd]
theorem run_same {g : List Nd} {c : List Nat} (hg : GN g) (hc : CLS g c) (k : Int) : runV (leastG g c) k = runV g k := by
  have h := (least_gn hg hc).2.1
  unfold runV
  rw [way_same (g := leastG g c) (h := g) k.toNat 0 0 (h _)]
theorem ofGoodN {t : Ty} {w : World} (ht : chkTy t = 0) {args : Array Value} (c : Calls Tryd.prog 9 args w (OFPost t w)) : Calls Tryd.prog 9 args w fun e w' => (∃ g, OFG t g ∧ ∃ ag cg, e = .returned (.tuple #[.slice ag g.length cg, .int .i64 0]) ∧ GAt w' w'.heap.size g ag) ∧ Below w.heap.size w w' := by
  refine c.mono ?_
  rintro e w' ⟨h | ⟨g, ag, cg, hg, he, hga⟩, hb⟩
  · exact absurd ht h.1
  · exact ⟨⟨g, hg, ag, cg, he, hga⟩, hb⟩
/-- one End -/
def endG : List Nd := [⟨1, 0, [], []⟩]
theorem endG_gn : GN endG := ⟨by decide, by decide, fun n hn => by
    rw [endG, List.mem_singleton] at hn
    subst hn
    exact okN_mk (.inl ⟨rfl, rfl, rfl, rfl⟩), fun n hn t ht => by
    rw [endG, List.mem_singleton] at hn
    subst hn
    cases ht⟩
theorem endG_at (w : World) : GAK (w.alloc (.cells #[.int .i64 1, .int .i64 0, .slice none 0 0, .slice none 0 0] 29)) (w.heap.size + 1) endG (some ⟨w.heap.size, 0, none⟩) :=
  .inr ⟨w.heap.size, 0, rfl, by omega, fun i hi => by
    have : i = 0 := by simp [endG] at hi; omega
    subst this
    exact ⟨none, 0, none, 0, (show NdAt _ w.heap.size (0 + 0 * 4) (⟨1, 0, [], []⟩ : Nd) none 0 none 0 from ⟨by go_cell, by go_cell, by go_cell, by go_cell⟩), .inl rfl, .inl rfl, Nat.le_refl 0⟩⟩
theorem endG_run : runV endG 0 = .tuple #[.string ⟨#[49]⟩, .int .i64 0] := by
  unfold runV
  rw [if_neg (by omega)]
  have : wayN endG (0 : Int).toNat 0 = one9 := rfl
  rw [this, dec_one]
set_option maxRecDepth 100000 in
set_option maxHeartbeats 2000000 in
theorem leastR_any (rs : List Rn) (ag : Option Addr) (cg B : Nat) (w : World) (hr : ∀ p ∈ rs, RnB p) (hga : RGA w B rs ag) (hB : B ≤ w.heap.size) (hN : rs.length ≤ 9223372036854775807) :
    Calls Tryd.prog 6 #[.slice ag rs.length cg] w fun e w' => ((chkG rs ≠ 0 ∧ e = .returned (.tuple #[.slice none 0 0, .int .i64 (chkG rs)])) ∨ (chkG rs = 0 ∧ ∃ c, CLS (rs.map (·.1)) c ∧ ∃ ao co, e = .returned (.tuple #[.slice ao (leastG (rs.map (·.1)) c).length co, .int .i64 0]) ∧ GAK w' w'.heap.size (leastG (rs.map (·.1)) c) ao)) ∧ Below w.heap.size w w' := by
  by_cases hz : chkG rs = 0
  · have c := leastK_any (rs.map (·.1)) ag cg B w (chkG_gn hr hz) (hga.gak hr hz).gat hB
    rw [List.length_map] at c
    exact c.mono fun e w' ⟨h, hb⟩ => ⟨.inr ⟨hz, h⟩, hb⟩
  · have c1 := checkR_any rs ag cg B w hr hga hB hN
    have hzb : (chkG rs != 0) = true := by simpa using hz
    have HZ := hideK hz
    clear hz hga hr
    generalize chkG rs = z at *
    go_enter Tryd.func6, Tryd.ntmps6
    go_wp2_with fail
    refine c1.mono ?_
    rintro e w1 ⟨rfl, hb1⟩
    have HB := hideK hb1
    clear c1 hb1
    go_wp2_with fail
    go_ret2
    exact ⟨.inl ⟨HZ.out, rfl⟩, HB.out⟩
set_option maxRecDepth 100000 in
set_option maxHeartbeats 8000000 in
theorem graphLeast_law (rs : List Rn) (ag : Option Addr) (cg : Nat) (k : Int) (w : World) (hr : ∀ p ∈ rs, RnB p) (hga : RGA w w.heap.size rs ag) (hN : rs.length ≤ 9223372036854775807) (hP : PowU w) :
    Calls Tryd.prog 3 #[.slice ag rs.length cg, .int .i64 k] w fun e w' => e = .returned (.bool true) ∧ Below w.heap.size w w' := by
  have HB0 := hideK (show Below w.heap.size w (w.alloc (.cells #[.int .i64 1, .int .i64 0, .slice none 0 0, .slice none 0 0] 29)) from (Below.refl _ _).alloc (Nat.le_refl _) _)
  have c1 := runs_any endG (some ⟨w.heap.size, 0, none⟩) 1 (w.heap.size + 1) (w.alloc (.cells #[.int .i64 1, .int .i64 0, .slice none 0 0, .slice none 0 0] 29)) 0 endG_gn (endG_at w) (by simp) (Go.Joins.tab_stays gPowU hP HB0.out (Nat.le_refl _))
  rw [endG_run] at c1
  have C2 := hideK (fun (W : World) (hb : Below w.heap.size w W) => leastR_any rs ag cg w.heap.size W hr (hga.keep hb) hb.size hN)
  have HP := hideK hP
  have HR := hideK hr
  have HGA := hideK hga
  clear hP hr hga
  go_enter Tryd.func3, Tryd.ntmps3
  go_wp2_with fail
  refine c1.mono ?_
  rintro e w1 ⟨rfl, hb1⟩
  have HB1 := hideK (HB0.out.trans (hb1.mono HB0.out.size))
  clear c1 hb1 HB0
  have c2 := C2.out w1 HB1.out
  clear C2
  go_wp2_with fail
  refine c2.mono ?_
  rintro e w2 ⟨hor, hb2⟩
  have HB2 := hideK (HB1.out.trans (hb2.mono HB1.out.size))
  clear c2 hb2 HB1
  rcases hor with ⟨hz, rfl⟩ | ⟨hz, c, hc, ao, co, rfl, hgl⟩
  · have hzb : (chkG rs != 0) = true := by simpa using hz
    clear hz
    go_wp2_with fail
    go_ret
    exact ⟨rfl, HB2.out⟩
  have hgn := chkG_gn HR.out hz
  have hgk := HGA.out.gak HR.out hz
  have hlen : rs.length = (rs.map (·.1)).length := by rw [List.length_map]
  clear HR HGA hz
  rw [hlen] at *
  clear hlen hN
  generalize rs.map (·.1) = g at *
  have hll := least_gn hgn hc
  have HLE := hideK hll.2.2
  have hlez : ¬ (g.length : Int) < ((leastG g c).length : Int) := by have := hll.2.2; omega
  have C3 := hideK (leastG_any (leastG g c) ao co w2.heap.size w2 hll.1 hgl.gat (Nat.le_refl _))
  have C4 := hideK (fun (W : World) (hb : Below w2.heap.size w2 W) (hb0 : Below w.heap.size w W) => runs_any g ag cg w.heap.size W k hgn (hgk.keep hb0) hb0.size (Go.Joins.tab_stays gPowU HP.out hb0 (Nat.le_refl _)))
  have C5 := hideK (fun (W : World) (hb : Below w2.heap.size w2 W) (hb0 : Below w.heap.size w W) => run_same hgn hc k ▸ runs_any (leastG g c) ao co w2.heap.size W k hll.1 (hgl.keep hb) hb.size (Go.Joins.tab_stays gPowU HP.out hb0 (Nat.le_refl _)))
  have HLL := hideK (fun c' (h : CLS (leastG g c) c') => least_least hgn hc h)
  have C6 := hideK (fun (W : World) (hb0 : Below w.heap.size w W) => back_any g hgn ag cg w.heap.size W (hgk.gat.keep hb0) hb0.size)
  have HOF := hideK (fun (h : List Nd) (t : Ty) (ho : OFG t h) (hd : den t e0 = fun k => gT g k 0) => least_of hgn hc ho hd)
  have HGN := hideK hgn
  have hln : ∀ n ∈ leastG g c, n.labs.length ≤ 1000 ∧ n.to.length ≤ 1000 := fun n hn => by have := shp_len (okN_shp (hll.1.ok n hn)); omega
  have CEQ := hideK (fun (W : World) a1 a2 c1 c2 (h1 : GAt W W.heap.size (leastG g c) a1) (h2 : GAt W W.heap.size (leastG g c) a2) => (eqG_iff (leastG g c) (leastG g c)).2 rfl ▸ graphEqual_any (leastG g c) (leastG g c) a1 a2 c1 c2 W.heap.size W h1 h2 (Nat.le_refl _) (by have := hll.1.le; omega) (by have := hll.1.le; omega) hln hln)
  have HGL := hideK hgl.gat
  clear hll hgl hgk hgn hc hln
  go_wp2_with fail
  refine C3.out.mono ?_
  rintro e w3 ⟨⟨c', hc', a3, c3, rfl, hg3⟩, hb3⟩
  rw [HLL.out c' hc'] at hg3 ⊢
  have hb03 := HB2.out.trans (hb3.mono HB2.out.size)
  have c4 := C4.out w3 hb3 hb03
  have HB3 := hideK hb3
  have HB03 := hideK hb03
  have HG3 := hideK hg3
  clear hc' hg3 hb3 hb03 C3 C4 HLL
  go_wp2_with fail
  refine c4.mono ?_
  rintro e w4 ⟨rfl, hb4⟩
  have hb24 := HB3.out.trans (hb4.mono HB3.out.size)
  have hb04 := HB03.out.trans (hb4.mono HB03.out.size)
  have c5 := C5.out w4 hb24 hb04
  have HB24 := hideK hb24
  have HB04 := hideK hb04
  have HG4 := hideK ((HG3.out.keep hb4).mono hb4.size)
  clear c4 hb4 hb24 hb04 C5 HG3 HB3 HB03
  obtain ⟨s, z, hrv⟩ : ∃ s z, runV g k = .tuple #[.string s, .int .i64 z] := by
    unfold runV
    split
    · exact ⟨_, _, rfl⟩
    · exact ⟨_, _, rfl⟩
  rw [hrv] at c5 ⊢
  clear hrv
  go_wp2_with fail
  refine c5.mono ?_
  rintro e w5 ⟨rfl, hb5⟩
  have hb25 := HB24.out.trans (hb5.mono HB24.out.size)
  have HB05 := hideK (HB04.out.trans (hb5.mono HB04.out.size))
  have c6 := CEQ.out w5 ao a3 co c3 ((HGL.out.keep hb25).mono hb25.size) ((HG4.out.keep hb5).mono hb5.size)
  have HB25 := hideK hb25
  clear c5 hb5 hb25 HG4 HB24 HB04
  go_wp2_with fail
  refine c6.mono ?_
  rintro e w6 ⟨rfl, hb6⟩
  have hb06 := HB05.out.trans (hb6.mono HB05.out.size)
  have HB26 := hideK (HB25.out.trans (hb6.mono HB25.out.size))
  have c7 := C6.out w6 hb06
  have HB06 := hideK hb06
  clear c6 hb6 hb06 HB05 HB25 C6
  unfold BCPost at c7
  go_wp2_with fail
  refine c7.mono ?_
  rintro e w7 ⟨hor, hb7⟩
  have HB07 := hideK (HB06.out.trans (hb7.mono HB06.out.size))
  have HB27 := hideK (HB26.out.trans (hb7.mono HB26.out.size))
  clear c7 HB06 HB26 hb7
  rcases hbk : backP g with ⟨b, bm, bp⟩
  rw [hbk] at hor
  simp only at hor
  rcases hor with ⟨hq, rfl⟩ | ⟨hq, bal, bcl, bak, bck, bd, rfl, hbd, hlp, hkp⟩
  · clear hq hbk
    have HB8 := hideK (HB07.out.trans (((Below.refl w7.heap.size w7).alloc (Nat.le_refl _) (.cells #[.int .i64 0, .int .i64 0, .string ⟨#[]⟩, .slice none 0 0, .slice none 0 0] 35)).mono HB07.out.size))
    go_wp2_with fail
    go_ret
    exact ⟨rfl, HB8.out⟩
  · have hok := back_ok HGN.out HGN.out.le (by rw [hbk]; exact hq)
    rw [hbk] at hok
    simp only at hok
    have hA8 : Below w7.heap.size w7 (w7.alloc (.cells #[.int .i64 b.kind, .int .i64 b.so, .string b.name, .slice bal b.labels.length bcl, .slice bak b.kids.length bck] 35)) := (Below.refl _ _).alloc (Nat.le_refl _) _
    have HB08 := hideK (HB07.out.trans (hA8.mono HB07.out.size))
    have HB28 := hideK (HB27.out.trans (hA8.mono HB27.out.size))
    have hla8 : LA (w7.alloc (.cells #[.int .i64 b.kind, .int .i64 b.so, .string b.name, .slice bal b.labels.length bcl, .slice bak b.kids.length bck] 35)) (w7.alloc (.cells #[.int .i64 b.kind, .int .i64 b.so, .string b.name, .slice bal b.labels.length bcl, .slice bak b.kids.length bck] 35)).heap.size b.labels bal := ((hlp.la (fun x hx => hx.2)).keep hA8).mono hA8.size
    have hkt8 : KT (w7.alloc (.cells #[.int .i64 b.kind, .int .i64 b.so, .string b.name, .slice bal b.labels.length bcl, .slice bak b.kids.length bck] 35)) (w7.alloc (.cells #[.int .i64 b.kind, .int .i64 b.so, .string b.name, .slice bal b.labels.length bcl, .slice bak b.kids.length bck] 35)).heap.size bd b.kids bak := ((hkp.kt (fun x hx => hx.2)).keep hA8).mono hA8.size
    have c8 := ofGoodN hok.1 (of_any bd b bal bcl bak bck (w7.alloc (.cells #[.int .i64 b.kind, .int .i64 b.so, .string b.name, .slice bal b.labels.length bcl, .slice bak b.kids.length bck] 35)) hbd hla8 hkt8)
    have HDN := hideK hok.2
    simp only [tyVal] at c8 ⊢
    clear hq hbk hbd hlp hkp hok hA8 hla8 hkt8
    go_wp2_with fail
    refine c8.mono ?_
    rintro e w9 ⟨⟨h, hh, ah, ch, rfl, hga9⟩, hb9⟩
    have hb29 := HB28.out.trans (hb9.mono HB28.out.size)
    have HB09 := hideK (HB08.out.trans (hb9.mono HB08.out.size))
    obtain rfl := HOF.out h b hh HDN.out
    have c9 := CEQ.out w9 ah ao ch co hga9 ((HGL.out.keep hb29).mono hb29.size)
    clear c8 hb9 hb29 hga9 hh HB28 HB08
    go_wp2_with fail
    refine c9.mono ?_
    rintro e w10 ⟨rfl, hb10⟩
    have HB10 := hideK (HB09.out.trans (hb10.mono HB09.out.size))
    clear c9 hb10
    go_wp2_with fail
    go_ret
    exact ⟨rfl, HB10.out⟩
end Go.Proofs.YtnedgkcejlhnbaaDoor
