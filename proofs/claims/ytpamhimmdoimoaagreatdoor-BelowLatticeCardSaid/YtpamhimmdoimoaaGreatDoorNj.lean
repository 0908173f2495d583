/-
  The law of duetkeep.BelowLattice: whatever types are handed in it answers true.
-/
import Derived.Test.YtpamhimmdoimoaaGreatDoorSz
import Derived.Test.YtpamhimmdoimoaaGreatDoorNi
import Derived.Test.YtpamhimmdoimoaaGreatDoorJw
namespace Go.Proofs.YtpamhimmdoimoaaGreatDoor
open Go.RowKit Go.Shelf
structure BY2 (w : World) (s : Ty) (sal : OAd) (scl : Nat) (sak : OAd) (sck : Nat) (t : Ty) (al : OAd) (cl : Nat) (ak : OAd) (ck : Nat) (W : World) : Prop where
 x : TyAt W w.heap.size 0 s sal scl sak sck
 y : TyAt W (w.heap.size + 1) 0 t al cl ak ck
 lt : w.heap.size + 1 < W.heap.size
 bl : Below w.heap.size w W
theorem BY2.keep {w : World} {s : Ty} {sal : OAd} {scl : Nat} {sak : OAd} {sck : Nat} {t : Ty} {al : OAd} {cl : Nat} {ak : OAd} {ck : Nat} {W W' : World} (h : BY2 w s sal scl sak sck t al cl ak ck W) (hb : Below W.heap.size W W') : BY2 w s sal scl sak sck t al cl ak ck W' :=
 ⟨h.x.keep hb (by have := h.lt; omega), h.y.keep hb h.lt, Nat.lt_of_lt_of_le h.lt hb.size, h.bl.trans (hb.mono h.bl.size)⟩
theorem BY2.new (w : World) (s : Ty) (sal : OAd) (scl : Nat) (sak : OAd) (sck : Nat) (t : Ty) (al : OAd) (cl : Nat) (ak : OAd) (ck : Nat) : BY2 w s sal scl sak sck t al cl ak ck ((w.alloc (.cells #[.int .i64 s.kind, .int .i64 s.so, .string s.name, .slice sal s.labels.length scl, .slice sak s.kids.length sck] 25)).alloc (.cells #[.int .i64 t.kind, .int .i64 t.so, .string t.name, .slice al t.labels.length cl, .slice ak t.kids.length ck] 25)) :=
 ⟨⟨by go_cell, by go_cell, by go_cell, by go_cell, by go_cell⟩, ⟨by go_cell, by go_cell, by go_cell, by go_cell, by go_cell⟩, by simp, ((Below.refl _ _).alloc (Nat.le_refl _) _).alloc (by simp) _⟩
theorem lofGood {t : Ty} {g : List Nd} (h : OFG t g) {w : World} {args : Array Value} (c : Calls Tryz.prog 12 args w (OFPost t w)) : Calls Tryz.prog 12 args w fun e w' => (∃ ag cg, e = .returned (.tuple #[.slice ag g.length cg, .int .i64 0]) ∧ GAt w' w'.heap.size g ag) ∧ Below w.heap.size w w' := by
 refine c.mono ?_;rintro e w' ⟨q | q, hb⟩
 ·exact absurd h.chk q.1
 ·obtain ⟨g', ag, cg, hg, e, hG⟩ := q
  rw [hg.uniq h] at e hG;exact ⟨⟨ag, cg, e, hG⟩, hb⟩
theorem lofBad {t : Ty} (h : chkTy t ≠ 0) {w : World} {args : Array Value} (c : Calls Tryz.prog 12 args w (OFPost t w)) : Calls Tryz.prog 12 args w fun e w' => (∃ z : Int, z ≠ 0 ∧ e = .returned (.tuple #[.slice none 0 0, .int .i64 z])) ∧ Below w.heap.size w w' := by
 refine c.mono ?_;rintro e w' ⟨q | q, hb⟩
 ·exact ⟨⟨_, q.1, q.2⟩, hb⟩
 ·obtain ⟨g', ag, cg, hg, _⟩ := q
  exact absurd hg.chk h
theorem eqSelf (g : List Nd) (ag ah : OAd) (cg ch : Nat) (w : World) (hg : GN g) (hga : GAt w w.heap.size g ag) (hha : GAt w w.heap.size g ah) :
  Calls Tryz.prog 11 #[.slice ag g.length cg, .slice ah g.length ch] w fun e w' => e = .returned (.bool true) ∧ Below w.heap.size w w' := by
 have hl := hg.le;have hs : ∀ n ∈ g, n.labs.length ≤ 1000 ∧ n.to.length ≤ 1000 := fun n hn => by have := shp_len (okN_shp (hg.ok n hn)); omega
 have c := graphEqual_any g g ag ah cg ch w.heap.size w hga hha (Nat.le_refl _) (by omega) (by omega) hs hs
 rw [(eqG_iff g g).2 rfl] at c;exact c
theorem eqNil (cg ch : Nat) (w : World) : Calls Tryz.prog 11 #[.slice none 0 cg, .slice none 0 ch] w fun e w' => e = .returned (.bool true) ∧ Below w.heap.size w w' :=
 graphEqual_any [] [] none none cg ch 0 w (.inl rfl) (.inl rfl) (Nat.zero_le _) (by simp) (by simp) (fun n hn => by cases hn) (fun n hn => by cases hn)
theorem BDR.two {g h : List Nd} (hg : GN g) (hh : GN h) {t : Bool} {n : Nat} {a : OAd} {z : Int} {w' : World} (H : BDR g h t n a z w') : (z ≠ 0 ∧ n = 0 ∧ a = none) ∨ (z = 0 ∧ ∃ L, isBnd g h t L ∧ LSTG L ∧ n = L.length ∧ GAt w' w'.heap.size L a) := by
 rcases H.three hg hh with ⟨rfl, h2, h3, _⟩ | ⟨rfl, h2, h3⟩ | q
 ·exact .inl ⟨by decide, h2, h3⟩
 ·exact .inl ⟨by decide, h2, h3⟩
 ·exact .inr q
theorem BDR.turn2 {g h L : List Nd} (hg : GN g) (hh : GN h) {t : Bool} {n m : Nat} {a b : OAd} {z y : Int} {w1 w2 : World} (H : BDR g h t n a z w1) (K : BDR h g t m b y w2) (hI : isBnd g h t L) (hS : LSTG L) (hz : z = 0) : y = 0 ∧ m = L.length ∧ GAt w2 w2.heap.size L b := by
 have e := H.turn hg hh K;subst hz;subst e;rcases K.two hh hg with ⟨q, _⟩ | ⟨_, M, hJ, hT, e, hG⟩
 ·exact absurd rfl q
 ·obtain rfl := hT.eq hS (hJ.symm.uniq hI)
  exact ⟨rfl, e, hG⟩
theorem BDR.turn3 {g h : List Nd} (hg : GN g) (hh : GN h) {t : Bool} {n m : Nat} {a b : OAd} {z y : Int} {w1 w2 : World} (H : BDR g h t n a z w1) (K : BDR h g t m b y w2) (hz : z ≠ 0) : z = y ∧ m = 0 ∧ b = none := by
 have e := H.turn hg hh K;subst e;rcases K.two hh hg with ⟨_, q⟩ | ⟨q, _⟩
 ·exact ⟨rfl, q⟩
 ·exact absurd q hz
theorem BDR.absorb {g h M : List Nd} (hg : LSTG g) (hM : LSTG M) {t : Bool} (I : isBnd g h (!t) M) {n : Nat} {a : OAd} {z : Int} {w' : World} (H : BDR g M t n a z w') : z = 2 ∨ (z = 0 ∧ n = g.length ∧ GAt w' w'.heap.size g a) := by
 have J := I.absorb hg.gn;rcases H.three hg.gn hM.gn with ⟨_, _, _, q⟩ | ⟨q, _⟩ | ⟨q, L, hL, hS, e, hG⟩
 ·exact absurd q J.there
 ·exact .inl q
 ·obtain rfl := hS.eq hg (hL.uniq J)
  exact .inr ⟨q, e, hG⟩
theorem rtGood {t : Ty} (h : chkTy t = 0) {w : World} {args : Array Value} (c : Calls Tryz.prog 13 args w (RTPost t w)) : Calls Tryz.prog 13 args w fun e w' => e = .returned (.int .i64 0) ∧ Below w.heap.size w w' := by
 refine c.mono ?_;rintro e w' ⟨⟨z, rfl, hz⟩, hb⟩;obtain rfl := hz.2 h;exact ⟨rfl, hb⟩
theorem rtBad {t : Ty} (h : chkTy t ≠ 0) {w : World} {args : Array Value} (c : Calls Tryz.prog 13 args w (RTPost t w)) : Calls Tryz.prog 13 args w fun e w' => (∃ z : Int, z ≠ 0 ∧ e = .returned (.int .i64 z)) ∧ Below w.heap.size w w' := by
 refine c.mono ?_;rintro e w' ⟨⟨z, rfl, hz⟩, hb⟩;exact ⟨⟨z, fun q => h (hz.1 q), rfl⟩, hb⟩
set_option maxRecDepth 100000 in
set_option maxHeartbeats 32000000 in
theorem belowLattice_law (ds dt : Nat) (s t : Ty) (sal : OAd) (scl : Nat) (sak : OAd) (sck : Nat) (al : OAd) (cl : Nat) (ak : OAd) (ck : Nat) (w : World) (hs1 : TyBd s scl sck) (hs2 : LA w w.heap.size s.labels sal) (hs3 : KT w w.heap.size ds s.kids sak) (ht1 : TyBd t cl ck) (ht2 : LA w w.heap.size t.labels al) (ht3 : KT w w.heap.size dt t.kids ak) :
  Calls Tryz.prog 4 #[tyVal s sal scl sak sck, tyVal t al cl ak ck] w fun e w' => e = .returned (.bool true) ∧ Below w.heap.size w w' := by
 have Q := hideK (BY2.new w s sal scl sak sck t al cl ak ck);have CE := hideK (fun (W : World) (_ : Below w.heap.size w W) => joinEnd W)
 have CS := hideK (fun (W : World) (hb : Below w.heap.size w W) => of_any ds s sal scl sak sck W hs1 ((hs2.keep hb).mono hb.size) ((hs3.keep hb).mono hb.size))
 have CJS := hideK (fun (W : World) (hb : Below w.heap.size w W) => join_any ds ds s s sal scl sak sck sal scl sak sck W hs1 ((hs2.keep hb).mono hb.size) ((hs3.keep hb).mono hb.size) hs1 ((hs2.keep hb).mono hb.size) ((hs3.keep hb).mono hb.size))
 have CMS := hideK (fun (W : World) (hb : Below w.heap.size w W) => meet_any ds ds s s sal scl sak sck sal scl sak sck W hs1 ((hs2.keep hb).mono hb.size) ((hs3.keep hb).mono hb.size) hs1 ((hs2.keep hb).mono hb.size) ((hs3.keep hb).mono hb.size))
 have CJ := hideK (fun (W : World) (hb : Below w.heap.size w W) => join_any ds dt s t sal scl sak sck al cl ak ck W hs1 ((hs2.keep hb).mono hb.size) ((hs3.keep hb).mono hb.size) ht1 ((ht2.keep hb).mono hb.size) ((ht3.keep hb).mono hb.size))
 have CK := hideK (fun (W : World) (hb : Below w.heap.size w W) => join_any dt ds t s al cl ak ck sal scl sak sck W ht1 ((ht2.keep hb).mono hb.size) ((ht3.keep hb).mono hb.size) hs1 ((hs2.keep hb).mono hb.size) ((hs3.keep hb).mono hb.size))
 have CM := hideK (fun (W : World) (hb : Below w.heap.size w W) => meet_any ds dt s t sal scl sak sck al cl ak ck W hs1 ((hs2.keep hb).mono hb.size) ((hs3.keep hb).mono hb.size) ht1 ((ht2.keep hb).mono hb.size) ((ht3.keep hb).mono hb.size))
 have CN := hideK (fun (W : World) (hb : Below w.heap.size w W) => meet_any dt ds t s al cl ak ck sal scl sak sck W ht1 ((ht2.keep hb).mono hb.size) ((ht3.keep hb).mono hb.size) hs1 ((hs2.keep hb).mono hb.size) ((hs3.keep hb).mono hb.size))
 have CR := hideK (fun (W : World) (hb : Below w.heap.size w W) => refType_any dt t al cl ak ck W ht1.w ((ht2.keep hb).mono hb.size) ((ht3.keep hb).mono hb.size))
 have CJX := hideK (fun (d : Nat) (x : Ty) (xal : OAd) (xcl : Nat) (xak : OAd) (xck : Nat) (W : World) (hb : Below w.heap.size w W) (hx1 : TyBd x xcl xck) (hx2 : LA W W.heap.size x.labels xal) (hx3 : KT W W.heap.size d x.kids xak) => join_any ds d s x sal scl sak sck xal xcl xak xck W hs1 ((hs2.keep hb).mono hb.size) ((hs3.keep hb).mono hb.size) hx1 hx2 hx3)
 have CMX := hideK (fun (d : Nat) (x : Ty) (xal : OAd) (xcl : Nat) (xak : OAd) (xck : Nat) (W : World) (hb : Below w.heap.size w W) (hx1 : TyBd x xcl xck) (hx2 : LA W W.heap.size x.labels xal) (hx3 : KT W W.heap.size d x.kids xak) => meet_any ds d s x sal scl sak sck xal xcl xak xck W hs1 ((hs2.keep hb).mono hb.size) ((hs3.keep hb).mono hb.size) hx1 hx2 hx3)
 simp only [tyVal] at CS CJS CMS CJ CK CM CN CR CJX CMX ⊢;clear hs1 hs2 hs3 ht1 ht2 ht3;by_cases hz : chkTy s ≠ 0
 ·obtain ⟨x0, x1, x2, x3, x4⟩ := Q.out.x
  obtain ⟨y0, y1, y2, y3, y4⟩ := Q.out.y;simp only [Nat.zero_add] at x1 x2 x3 x4 y1 y2 y3 y4;go_enter Tryz.func4, Tryz.ntmps4
  go_wp2_with fail
  refine (CE.out _ Q.out.bl).mono ?_;rintro e w1 ⟨⟨ae, ce, rfl⟩, hb⟩;replace Q := hideK (Q.out.keep hb);clear hb;clear x0 x1 x2 x3 x4 y0 y1 y2 y3 y4;obtain ⟨x0, x1, x2, x3, x4⟩ := Q.out.x;obtain ⟨y0, y1, y2, y3, y4⟩ := Q.out.y;simp only [Nat.zero_add] at x1 x2 x3 x4 y1 y2 y3 y4;go_wp2_with fail
  refine (lofBad hz (CS.out _ Q.out.bl)).mono ?_;rintro e w2 ⟨⟨zq, h1, rfl⟩, hb⟩;replace Q := hideK (Q.out.keep hb);clear hb;clear x0 x1 x2 x3 x4 y0 y1 y2 y3 y4;have h1b : (zq != 0) = true := by simpa using h1
  clear h1;go_wp2_with fail
  go_ret
  exact ⟨rfl, Q.out.bl⟩
 ·have hzs : chkTy s = 0 := Classical.byContradiction hz
  obtain ⟨g, hg⟩ := OFG_ex hzs;clear hz hzs;by_cases hz : chkTy t ≠ 0
  ·obtain ⟨x0, x1, x2, x3, x4⟩ := Q.out.x
   obtain ⟨y0, y1, y2, y3, y4⟩ := Q.out.y;simp only [Nat.zero_add] at x1 x2 x3 x4 y1 y2 y3 y4;go_enter Tryz.func4, Tryz.ntmps4
   go_wp2_with fail
   refine (CE.out _ Q.out.bl).mono ?_;rintro e w3 ⟨⟨ae, ce, rfl⟩, hb⟩;replace Q := hideK (Q.out.keep hb);clear hb;clear x0 x1 x2 x3 x4 y0 y1 y2 y3 y4;obtain ⟨x0, x1, x2, x3, x4⟩ := Q.out.x;obtain ⟨y0, y1, y2, y3, y4⟩ := Q.out.y;simp only [Nat.zero_add] at x1 x2 x3 x4 y1 y2 y3 y4;go_wp2_with fail
   refine (lofGood hg (CS.out _ Q.out.bl)).mono ?_;rintro e w4 ⟨⟨ag, cg, rfl, hGA⟩, hb⟩;replace Q := hideK (Q.out.keep hb);clear hb;clear x0 x1 x2 x3 x4 y0 y1 y2 y3 y4;obtain ⟨x0, x1, x2, x3, x4⟩ := Q.out.x;obtain ⟨y0, y1, y2, y3, y4⟩ := Q.out.y;simp only [Nat.zero_add] at x1 x2 x3 x4 y1 y2 y3 y4;have GA := hideK hGA;clear hGA;go_wp2_with fail
   refine (jmGood hg hg (CJS.out _ Q.out.bl)).mono ?_;rintro e w5 ⟨⟨a1, n1, c1, q1, rfl, hR⟩, hb⟩;replace Q := hideK (Q.out.keep hb);replace GA := hideK ((GA.out.keep hb).mono (hb).size);clear hb;clear x0 x1 x2 x3 x4 y0 y1 y2 y3 y4;obtain ⟨x0, x1, x2, x3, x4⟩ := Q.out.x;obtain ⟨y0, y1, y2, y3, y4⟩ := Q.out.y;simp only [Nat.zero_add] at x1 x2 x3 x4 y1 y2 y3 y4;obtain ⟨rfl, rfl, hG⟩ := hR.self hg.lst (by have := hg.le; omega)
   have G1 := hideK hG;clear hG hR;go_wp2_with fail
   refine (jmGood hg hg (CMS.out _ Q.out.bl)).mono ?_;rintro e w6 ⟨⟨a2, n2, c2, q2, rfl, hR⟩, hb⟩;replace Q := hideK (Q.out.keep hb);replace GA := hideK ((GA.out.keep hb).mono (hb).size);replace G1 := hideK ((G1.out.keep hb).mono (hb).size);clear hb;clear x0 x1 x2 x3 x4 y0 y1 y2 y3 y4;obtain ⟨x0, x1, x2, x3, x4⟩ := Q.out.x;obtain ⟨y0, y1, y2, y3, y4⟩ := Q.out.y;simp only [Nat.zero_add] at x1 x2 x3 x4 y1 y2 y3 y4;obtain ⟨rfl, rfl, hG⟩ := hR.self hg.lst (by have := hg.le; omega)
   have G2 := hideK hG;clear hG hR;go_wp2_with fail
   refine (eqSelf g _ _ _ _ _ hg.gn G1.out GA.out).mono ?_;rintro e w7 ⟨rfl, hb⟩;replace Q := hideK (Q.out.keep hb);replace GA := hideK ((GA.out.keep hb).mono (hb).size);replace G1 := hideK ((G1.out.keep hb).mono (hb).size);replace G2 := hideK ((G2.out.keep hb).mono (hb).size);clear hb;clear x0 x1 x2 x3 x4 y0 y1 y2 y3 y4;obtain ⟨x0, x1, x2, x3, x4⟩ := Q.out.x;obtain ⟨y0, y1, y2, y3, y4⟩ := Q.out.y;simp only [Nat.zero_add] at x1 x2 x3 x4 y1 y2 y3 y4;go_wp2_with fail
   refine (eqSelf g _ _ _ _ _ hg.gn G2.out GA.out).mono ?_;rintro e w8 ⟨rfl, hb⟩;replace Q := hideK (Q.out.keep hb);replace GA := hideK ((GA.out.keep hb).mono (hb).size);replace G1 := hideK ((G1.out.keep hb).mono (hb).size);replace G2 := hideK ((G2.out.keep hb).mono (hb).size);clear hb;clear x0 x1 x2 x3 x4 y0 y1 y2 y3 y4;obtain ⟨x0, x1, x2, x3, x4⟩ := Q.out.x;obtain ⟨y0, y1, y2, y3, y4⟩ := Q.out.y;simp only [Nat.zero_add] at x1 x2 x3 x4 y1 y2 y3 y4;clear G1 G2;go_wp2_with fail
   refine (jmBad (.inr hz) (CJ.out _ Q.out.bl)).mono ?_;rintro e w9 ⟨⟨zb0, hb0, -, rfl⟩, hb⟩;replace Q := hideK (Q.out.keep hb);replace GA := hideK ((GA.out.keep hb).mono (hb).size);clear hb;clear x0 x1 x2 x3 x4 y0 y1 y2 y3 y4;obtain ⟨x0, x1, x2, x3, x4⟩ := Q.out.x;obtain ⟨y0, y1, y2, y3, y4⟩ := Q.out.y;simp only [Nat.zero_add] at x1 x2 x3 x4 y1 y2 y3 y4;have hc0 : (zb0 != 0) = true := by simpa using hb0
   clear hb0;go_wp2_with fail
   refine (jmBad (.inl hz) (CK.out _ Q.out.bl)).mono ?_;rintro e w10 ⟨⟨zb1, hb1, -, rfl⟩, hb⟩;replace Q := hideK (Q.out.keep hb);replace GA := hideK ((GA.out.keep hb).mono (hb).size);clear hb;clear x0 x1 x2 x3 x4 y0 y1 y2 y3 y4;obtain ⟨x0, x1, x2, x3, x4⟩ := Q.out.x;obtain ⟨y0, y1, y2, y3, y4⟩ := Q.out.y;simp only [Nat.zero_add] at x1 x2 x3 x4 y1 y2 y3 y4;have hc1 : (zb1 != 0) = true := by simpa using hb1
   clear hb1;go_wp2_with fail
   refine (jmBad (.inr hz) (CM.out _ Q.out.bl)).mono ?_;rintro e w11 ⟨⟨zb2, hb2, -, rfl⟩, hb⟩;replace Q := hideK (Q.out.keep hb);replace GA := hideK ((GA.out.keep hb).mono (hb).size);clear hb;clear x0 x1 x2 x3 x4 y0 y1 y2 y3 y4;obtain ⟨x0, x1, x2, x3, x4⟩ := Q.out.x;obtain ⟨y0, y1, y2, y3, y4⟩ := Q.out.y;simp only [Nat.zero_add] at x1 x2 x3 x4 y1 y2 y3 y4;have hc2 : (zb2 != 0) = true := by simpa using hb2
   clear hb2;go_wp2_with fail
   refine (jmBad (.inl hz) (CN.out _ Q.out.bl)).mono ?_;rintro e w12 ⟨⟨zb3, hb3, -, rfl⟩, hb⟩;replace Q := hideK (Q.out.keep hb);replace GA := hideK ((GA.out.keep hb).mono (hb).size);clear hb;clear x0 x1 x2 x3 x4 y0 y1 y2 y3 y4;obtain ⟨x0, x1, x2, x3, x4⟩ := Q.out.x;obtain ⟨y0, y1, y2, y3, y4⟩ := Q.out.y;simp only [Nat.zero_add] at x1 x2 x3 x4 y1 y2 y3 y4;have hc3 : (zb3 != 0) = true := by simpa using hb3
   clear hb3;go_wp2_with fail
   refine (rtBad hz (CR.out _ Q.out.bl)).mono ?_;rintro e w13 ⟨⟨zt, hzt, rfl⟩, hb⟩;replace Q := hideK (Q.out.keep hb);replace GA := hideK ((GA.out.keep hb).mono (hb).size);clear hb;clear x0 x1 x2 x3 x4 y0 y1 y2 y3 y4;have hct : (zt != 0) = true := by simpa using hzt
   clear hzt;go_wp2_with fail
   go_ret
   exact ⟨rfl, Q.out.bl⟩
  ·have hzt : chkTy t = 0 := Classical.byContradiction hz
   obtain ⟨h, hh⟩ := OFG_ex hzt;clear hz hzt;obtain ⟨x0, x1, x2, x3, x4⟩ := Q.out.x;obtain ⟨y0, y1, y2, y3, y4⟩ := Q.out.y;simp only [Nat.zero_add] at x1 x2 x3 x4 y1 y2 y3 y4;go_enter Tryz.func4, Tryz.ntmps4
   go_wp2_with fail
   refine (CE.out _ Q.out.bl).mono ?_;rintro e w14 ⟨⟨ae, ce, rfl⟩, hb⟩;replace Q := hideK (Q.out.keep hb);clear hb;clear x0 x1 x2 x3 x4 y0 y1 y2 y3 y4;obtain ⟨x0, x1, x2, x3, x4⟩ := Q.out.x;obtain ⟨y0, y1, y2, y3, y4⟩ := Q.out.y;simp only [Nat.zero_add] at x1 x2 x3 x4 y1 y2 y3 y4;go_wp2_with fail
   refine (lofGood hg (CS.out _ Q.out.bl)).mono ?_;rintro e w15 ⟨⟨ag, cg, rfl, hGA⟩, hb⟩;replace Q := hideK (Q.out.keep hb);clear hb;clear x0 x1 x2 x3 x4 y0 y1 y2 y3 y4;obtain ⟨x0, x1, x2, x3, x4⟩ := Q.out.x;obtain ⟨y0, y1, y2, y3, y4⟩ := Q.out.y;simp only [Nat.zero_add] at x1 x2 x3 x4 y1 y2 y3 y4;have GA := hideK hGA;clear hGA;go_wp2_with fail
   refine (jmGood hg hg (CJS.out _ Q.out.bl)).mono ?_;rintro e w16 ⟨⟨a1, n1, c1, q1, rfl, hR⟩, hb⟩;replace Q := hideK (Q.out.keep hb);replace GA := hideK ((GA.out.keep hb).mono (hb).size);clear hb;clear x0 x1 x2 x3 x4 y0 y1 y2 y3 y4;obtain ⟨x0, x1, x2, x3, x4⟩ := Q.out.x;obtain ⟨y0, y1, y2, y3, y4⟩ := Q.out.y;simp only [Nat.zero_add] at x1 x2 x3 x4 y1 y2 y3 y4;obtain ⟨rfl, rfl, hG⟩ := hR.self hg.lst (by have := hg.le; omega)
   have G1 := hideK hG;clear hG hR;go_wp2_with fail
   refine (jmGood hg hg (CMS.out _ Q.out.bl)).mono ?_;rintro e w17 ⟨⟨a2, n2, c2, q2, rfl, hR⟩, hb⟩;replace Q := hideK (Q.out.keep hb);replace GA := hideK ((GA.out.keep hb).mono (hb).size);replace G1 := hideK ((G1.out.keep hb).mono (hb).size);clear hb;clear x0 x1 x2 x3 x4 y0 y1 y2 y3 y4;obtain ⟨x0, x1, x2, x3, x4⟩ := Q.out.x;obtain ⟨y0, y1, y2, y3, y4⟩ := Q.out.y;simp only [Nat.zero_add] at x1 x2 x3 x4 y1 y2 y3 y4;obtain ⟨rfl, rfl, hG⟩ := hR.self hg.lst (by have := hg.le; omega)
   have G2 := hideK hG;clear hG hR;go_wp2_with fail
   refine (eqSelf g _ _ _ _ _ hg.gn G1.out GA.out).mono ?_;rintro e w18 ⟨rfl, hb⟩;replace Q := hideK (Q.out.keep hb);replace GA := hideK ((GA.out.keep hb).mono (hb).size);replace G1 := hideK ((G1.out.keep hb).mono (hb).size);replace G2 := hideK ((G2.out.keep hb).mono (hb).size);clear hb;clear x0 x1 x2 x3 x4 y0 y1 y2 y3 y4;obtain ⟨x0, x1, x2, x3, x4⟩ := Q.out.x;obtain ⟨y0, y1, y2, y3, y4⟩ := Q.out.y;simp only [Nat.zero_add] at x1 x2 x3 x4 y1 y2 y3 y4;go_wp2_with fail
   refine (eqSelf g _ _ _ _ _ hg.gn G2.out GA.out).mono ?_;rintro e w19 ⟨rfl, hb⟩;replace Q := hideK (Q.out.keep hb);replace GA := hideK ((GA.out.keep hb).mono (hb).size);replace G1 := hideK ((G1.out.keep hb).mono (hb).size);replace G2 := hideK ((G2.out.keep hb).mono (hb).size);clear hb;clear x0 x1 x2 x3 x4 y0 y1 y2 y3 y4;obtain ⟨x0, x1, x2, x3, x4⟩ := Q.out.x;obtain ⟨y0, y1, y2, y3, y4⟩ := Q.out.y;simp only [Nat.zero_add] at x1 x2 x3 x4 y1 y2 y3 y4;clear G1 G2;go_wp2_with fail
   refine (jmGood hg hh (CJ.out _ Q.out.bl)).mono ?_;rintro e w20 ⟨⟨aj, nj, cj, zj, rfl, hR⟩, hb⟩;replace Q := hideK (Q.out.keep hb);replace GA := hideK ((GA.out.keep hb).mono (hb).size);clear hb;clear x0 x1 x2 x3 x4 y0 y1 y2 y3 y4;obtain ⟨x0, x1, x2, x3, x4⟩ := Q.out.x;obtain ⟨y0, y1, y2, y3, y4⟩ := Q.out.y;simp only [Nat.zero_add] at x1 x2 x3 x4 y1 y2 y3 y4;have HJ := hideK hR;clear hR;go_wp2_with fail
   refine (jmGood hh hg (CK.out _ Q.out.bl)).mono ?_;rintro e w21 ⟨⟨ak2, nk, ck2, zk, rfl, hR⟩, hb⟩;replace Q := hideK (Q.out.keep hb);replace GA := hideK ((GA.out.keep hb).mono (hb).size);replace HJ := hideK (HJ.out.keep hb);clear hb;clear x0 x1 x2 x3 x4 y0 y1 y2 y3 y4;obtain ⟨x0, x1, x2, x3, x4⟩ := Q.out.x;obtain ⟨y0, y1, y2, y3, y4⟩ := Q.out.y;simp only [Nat.zero_add] at x1 x2 x3 x4 y1 y2 y3 y4;have HK := hideK hR;clear hR;go_wp2_with fail
   refine (jmGood hg hh (CM.out _ Q.out.bl)).mono ?_;rintro e w22 ⟨⟨am, nm, cm, zm, rfl, hR⟩, hb⟩;replace Q := hideK (Q.out.keep hb);replace GA := hideK ((GA.out.keep hb).mono (hb).size);replace HJ := hideK (HJ.out.keep hb);replace HK := hideK (HK.out.keep hb);clear hb;clear x0 x1 x2 x3 x4 y0 y1 y2 y3 y4;obtain ⟨x0, x1, x2, x3, x4⟩ := Q.out.x;obtain ⟨y0, y1, y2, y3, y4⟩ := Q.out.y;simp only [Nat.zero_add] at x1 x2 x3 x4 y1 y2 y3 y4;have HM := hideK hR;clear hR;go_wp2_with fail
   refine (jmGood hh hg (CN.out _ Q.out.bl)).mono ?_;rintro e w23 ⟨⟨an, nn, cn, zn, rfl, hR⟩, hb⟩;replace Q := hideK (Q.out.keep hb);replace GA := hideK ((GA.out.keep hb).mono (hb).size);replace HJ := hideK (HJ.out.keep hb);replace HK := hideK (HK.out.keep hb);replace HM := hideK (HM.out.keep hb);clear hb;clear x0 x1 x2 x3 x4 y0 y1 y2 y3 y4;obtain ⟨x0, x1, x2, x3, x4⟩ := Q.out.x;obtain ⟨y0, y1, y2, y3, y4⟩ := Q.out.y;simp only [Nat.zero_add] at x1 x2 x3 x4 y1 y2 y3 y4;have HN := hideK hR;clear hR;go_wp2_with fail
   refine (rtGood hh.chk (CR.out _ Q.out.bl)).mono ?_;rintro e w24 ⟨rfl, hb⟩;replace Q := hideK (Q.out.keep hb);replace GA := hideK ((GA.out.keep hb).mono (hb).size);replace HJ := hideK (HJ.out.keep hb);replace HK := hideK (HK.out.keep hb);replace HM := hideK (HM.out.keep hb);replace HN := hideK (HN.out.keep hb);clear hb;clear x0 x1 x2 x3 x4 y0 y1 y2 y3 y4;rcases HJ.out.two hg.gn hh.gn with ⟨hzj, rfl, rfl⟩ | ⟨rfl, J, hI, hS, rfl, hG⟩
   ·obtain ⟨rfl, rfl, rfl⟩ := HJ.out.turn3 hg.gn hh.gn HK.out hzj
    have hzJ : zj ≠ 0 := hzj;clear hzj HJ HK;have hzzj : (zj != zj) = false := by simp
    rcases HM.out.two hg.gn hh.gn with ⟨hzm, rfl, rfl⟩ | ⟨rfl, M, hI, hS, rfl, hG⟩
    ·obtain ⟨rfl, rfl, rfl⟩ := HM.out.turn3 hg.gn hh.gn HN.out hzm
     have hzM : zm ≠ 0 := hzm;clear hzm HM HN;have hzzm : (zm != zm) = false := by simp
     go_wp2_with fail
     refine (eqNil _ _ _).mono ?_;rintro e w25 ⟨rfl, hb⟩;replace Q := hideK (Q.out.keep hb);replace GA := hideK ((GA.out.keep hb).mono (hb).size);clear hb;go_wp2_with fail
     refine (eqNil _ _ _).mono ?_;rintro e w26 ⟨rfl, hb⟩;replace Q := hideK (Q.out.keep hb);replace GA := hideK ((GA.out.keep hb).mono (hb).size);clear hb;go_wp2_with fail
     refine (backErr_any _ _ _ zm hzM _).mono ?_;rintro e v27 ⟨⟨t9, al9, cl9, ak9, ck9, rfl⟩, hb⟩;replace Q := hideK (Q.out.keep hb);replace GA := hideK ((GA.out.keep hb).mono (hb).size);clear hb;simp only [tyVal];have hbA : Below v27.heap.size v27 (v27.alloc (.cells #[.int .i64 t9.kind, .int .i64 t9.so, .string t9.name, .slice al9 t9.labels.length cl9, .slice ak9 t9.kids.length ck9] 25)) := (Below.refl _ _).alloc (Nat.le_refl _) _;replace Q := hideK (Q.out.keep hbA);replace GA := hideK ((GA.out.keep hbA).mono (hbA).size);clear hbA;go_wp2_with fail
     refine (backErr_any _ _ _ zj hzJ _).mono ?_;rintro e v28 ⟨⟨t9, al9, cl9, ak9, ck9, rfl⟩, hb⟩;replace Q := hideK (Q.out.keep hb);replace GA := hideK ((GA.out.keep hb).mono (hb).size);clear hb;simp only [tyVal];have hbA : Below v28.heap.size v28 (v28.alloc (.cells #[.int .i64 t9.kind, .int .i64 t9.so, .string t9.name, .slice al9 t9.labels.length cl9, .slice ak9 t9.kids.length ck9] 25)) := (Below.refl _ _).alloc (Nat.le_refl _) _;replace Q := hideK (Q.out.keep hbA);replace GA := hideK ((GA.out.keep hbA).mono (hbA).size);clear hbA;go_wp2_with fail
     go_ret
     exact ⟨rfl, Q.out.bl⟩
    ·obtain ⟨rfl, rfl, hGN⟩ := HM.out.turn2 hg.gn hh.gn HN.out hI hS rfl
     have hIM := hideK hI;have hSM := hideK hS;have GM := hideK hG;have GN := hideK hGN;clear hI hS hG hGN HM HN;go_wp2_with fail
     refine (eqNil _ _ _).mono ?_;rintro e w29 ⟨rfl, hb⟩;replace Q := hideK (Q.out.keep hb);replace GA := hideK ((GA.out.keep hb).mono (hb).size);replace GM := hideK ((GM.out.keep hb).mono (hb).size);replace GN := hideK ((GN.out.keep hb).mono (hb).size);clear hb;go_wp2_with fail
     refine (eqSelf M _ _ _ _ _ hSM.out.gn GM.out GN.out).mono ?_;rintro e w30 ⟨rfl, hb⟩;replace Q := hideK (Q.out.keep hb);replace GA := hideK ((GA.out.keep hb).mono (hb).size);replace GM := hideK ((GM.out.keep hb).mono (hb).size);replace GN := hideK ((GN.out.keep hb).mono (hb).size);clear hb;clear GN;have cB := backKeep_any M hSM.out.gn am cm _ _ GM.out (Nat.le_refl _);unfold BOPost at cB;go_wp2_with fail
     refine cB.mono ?_;rintro e v31 ⟨hor, hb⟩;replace Q := hideK (Q.out.keep hb);replace GA := hideK ((GA.out.keep hb).mono (hb).size);replace GM := hideK ((GM.out.keep hb).mono (hb).size);clear hb cB;rcases hor with ⟨hq, t9, al9, cl9, ak9, ck9, rfl⟩ | ⟨hq, al9, cl9, ak9, ck9, d9, rfl, hd1, hd2, hd3⟩
     ·clear hq
      simp only [tyVal];have hbA : Below v31.heap.size v31 (v31.alloc (.cells #[.int .i64 t9.kind, .int .i64 t9.so, .string t9.name, .slice al9 t9.labels.length cl9, .slice ak9 t9.kids.length ck9] 25)) := (Below.refl _ _).alloc (Nat.le_refl _) _;replace Q := hideK (Q.out.keep hbA);replace GA := hideK ((GA.out.keep hbA).mono (hbA).size);replace GM := hideK ((GM.out.keep hbA).mono (hbA).size);clear hbA;go_wp2_with fail
      refine (backErr_any _ _ _ zj hzJ _).mono ?_;rintro e v32 ⟨⟨t9, al9, cl9, ak9, ck9, rfl⟩, hb⟩;replace Q := hideK (Q.out.keep hb);replace GA := hideK ((GA.out.keep hb).mono (hb).size);replace GM := hideK ((GM.out.keep hb).mono (hb).size);clear hb;simp only [tyVal];have hbA : Below v32.heap.size v32 (v32.alloc (.cells #[.int .i64 t9.kind, .int .i64 t9.so, .string t9.name, .slice al9 t9.labels.length cl9, .slice ak9 t9.kids.length ck9] 25)) := (Below.refl _ _).alloc (Nat.le_refl _) _;replace Q := hideK (Q.out.keep hbA);replace GA := hideK ((GA.out.keep hbA).mono (hbA).size);replace GM := hideK ((GM.out.keep hbA).mono (hbA).size);clear hbA;go_wp2_with fail
      go_ret
      exact ⟨rfl, Q.out.bl⟩
     ·have hx := back_of hSM.out hq
      have hbA : Below v31.heap.size v31 (v31.alloc (.cells #[.int .i64 (backP M).1.kind, .int .i64 (backP M).1.so, .string (backP M).1.name, .slice al9 (backP M).1.labels.length cl9, .slice ak9 (backP M).1.kids.length ck9] 25)) := (Below.refl _ _).alloc (Nat.le_refl _) _;replace Q := hideK (Q.out.keep hbA);replace GA := hideK ((GA.out.keep hbA).mono (hbA).size);replace GM := hideK ((GM.out.keep hbA).mono (hbA).size);have cD := jmGood hg hx (CJX.out d9 (backP M).1 al9 cl9 ak9 ck9 _ Q.out.bl hd1 ((hd2.keep hbA).mono hbA.size) ((hd3.keep hbA).mono hbA.size));simp only [tyVal] at cD ⊢;clear hx;generalize (backP M).1 = bd at *;obtain ⟨x0, x1, x2, x3, x4⟩ := Q.out.x;obtain ⟨y0, y1, y2, y3, y4⟩ := Q.out.y;simp only [Nat.zero_add] at x1 x2 x3 x4 y1 y2 y3 y4;clear hbA hd1 hd2 hd3 hq;go_wp2_with fail
      refine cD.mono ?_;rintro e u33 ⟨⟨ay, ny, cy, zy, rfl, hR⟩, hb⟩;replace Q := hideK (Q.out.keep hb);replace GA := hideK ((GA.out.keep hb).mono (hb).size);replace GM := hideK ((GM.out.keep hb).mono (hb).size);clear hb cD;clear x0 x1 x2 x3 x4 y0 y1 y2 y3 y4;rcases hR.absorb hg.lst hSM.out (by exact hIM.out) with rfl | ⟨rfl, rfl, hG⟩
      ·clear hR
       go_wp2_with fail
       refine (backErr_any _ _ _ zj hzJ _).mono ?_;rintro e v34 ⟨⟨t9, al9, cl9, ak9, ck9, rfl⟩, hb⟩;replace Q := hideK (Q.out.keep hb);replace GA := hideK ((GA.out.keep hb).mono (hb).size);replace GM := hideK ((GM.out.keep hb).mono (hb).size);clear hb;simp only [tyVal];have hbA : Below v34.heap.size v34 (v34.alloc (.cells #[.int .i64 t9.kind, .int .i64 t9.so, .string t9.name, .slice al9 t9.labels.length cl9, .slice ak9 t9.kids.length ck9] 25)) := (Below.refl _ _).alloc (Nat.le_refl _) _;replace Q := hideK (Q.out.keep hbA);replace GA := hideK ((GA.out.keep hbA).mono (hbA).size);replace GM := hideK ((GM.out.keep hbA).mono (hbA).size);clear hbA;go_wp2_with fail
       go_ret
       exact ⟨rfl, Q.out.bl⟩
      ·have GY := hideK hG
       clear hG hR;go_wp2_with fail
       refine (eqSelf g _ _ _ _ _ hg.gn GY.out GA.out).mono ?_;rintro e w35 ⟨rfl, hb⟩;replace Q := hideK (Q.out.keep hb);replace GA := hideK ((GA.out.keep hb).mono (hb).size);replace GM := hideK ((GM.out.keep hb).mono (hb).size);clear hb;clear GY;go_wp2_with fail
       refine (backErr_any _ _ _ zj hzJ _).mono ?_;rintro e v36 ⟨⟨t9, al9, cl9, ak9, ck9, rfl⟩, hb⟩;replace Q := hideK (Q.out.keep hb);replace GA := hideK ((GA.out.keep hb).mono (hb).size);replace GM := hideK ((GM.out.keep hb).mono (hb).size);clear hb;simp only [tyVal];have hbA : Below v36.heap.size v36 (v36.alloc (.cells #[.int .i64 t9.kind, .int .i64 t9.so, .string t9.name, .slice al9 t9.labels.length cl9, .slice ak9 t9.kids.length ck9] 25)) := (Below.refl _ _).alloc (Nat.le_refl _) _;replace Q := hideK (Q.out.keep hbA);replace GA := hideK ((GA.out.keep hbA).mono (hbA).size);replace GM := hideK ((GM.out.keep hbA).mono (hbA).size);clear hbA;go_wp2_with fail
       go_ret
       exact ⟨rfl, Q.out.bl⟩
   ·obtain ⟨rfl, rfl, hGK⟩ := HJ.out.turn2 hg.gn hh.gn HK.out hI hS rfl
    have hIJ := hideK hI;have hSJ := hideK hS;have GJ := hideK hG;have GK := hideK hGK;clear hI hS hG hGK HJ HK;rcases HM.out.two hg.gn hh.gn with ⟨hzm, rfl, rfl⟩ | ⟨rfl, M, hI, hS, rfl, hG⟩
    ·obtain ⟨rfl, rfl, rfl⟩ := HM.out.turn3 hg.gn hh.gn HN.out hzm
     have hzM : zm ≠ 0 := hzm;clear hzm HM HN;have hzzm : (zm != zm) = false := by simp
     go_wp2_with fail
     refine (eqSelf J _ _ _ _ _ hSJ.out.gn GJ.out GK.out).mono ?_;rintro e w37 ⟨rfl, hb⟩;replace Q := hideK (Q.out.keep hb);replace GA := hideK ((GA.out.keep hb).mono (hb).size);replace GJ := hideK ((GJ.out.keep hb).mono (hb).size);replace GK := hideK ((GK.out.keep hb).mono (hb).size);clear hb;go_wp2_with fail
     refine (eqNil _ _ _).mono ?_;rintro e w38 ⟨rfl, hb⟩;replace Q := hideK (Q.out.keep hb);replace GA := hideK ((GA.out.keep hb).mono (hb).size);replace GJ := hideK ((GJ.out.keep hb).mono (hb).size);replace GK := hideK ((GK.out.keep hb).mono (hb).size);clear hb;clear GK;go_wp2_with fail
     refine (backErr_any _ _ _ zm hzM _).mono ?_;rintro e v39 ⟨⟨t9, al9, cl9, ak9, ck9, rfl⟩, hb⟩;replace Q := hideK (Q.out.keep hb);replace GA := hideK ((GA.out.keep hb).mono (hb).size);replace GJ := hideK ((GJ.out.keep hb).mono (hb).size);clear hb;simp only [tyVal];have hbA : Below v39.heap.size v39 (v39.alloc (.cells #[.int .i64 t9.kind, .int .i64 t9.so, .string t9.name, .slice al9 t9.labels.length cl9, .slice ak9 t9.kids.length ck9] 25)) := (Below.refl _ _).alloc (Nat.le_refl _) _;replace Q := hideK (Q.out.keep hbA);replace GA := hideK ((GA.out.keep hbA).mono (hbA).size);replace GJ := hideK ((GJ.out.keep hbA).mono (hbA).size);clear hbA;have cB := backKeep_any J hSJ.out.gn aj cj _ _ GJ.out (Nat.le_refl _);unfold BOPost at cB;go_wp2_with fail
     refine cB.mono ?_;rintro e v40 ⟨hor, hb⟩;replace Q := hideK (Q.out.keep hb);replace GA := hideK ((GA.out.keep hb).mono (hb).size);replace GJ := hideK ((GJ.out.keep hb).mono (hb).size);clear hb cB;rcases hor with ⟨hq, t9, al9, cl9, ak9, ck9, rfl⟩ | ⟨hq, al9, cl9, ak9, ck9, d9, rfl, hd1, hd2, hd3⟩
     ·clear hq
      simp only [tyVal];have hbA : Below v40.heap.size v40 (v40.alloc (.cells #[.int .i64 t9.kind, .int .i64 t9.so, .string t9.name, .slice al9 t9.labels.length cl9, .slice ak9 t9.kids.length ck9] 25)) := (Below.refl _ _).alloc (Nat.le_refl _) _;replace Q := hideK (Q.out.keep hbA);replace GA := hideK ((GA.out.keep hbA).mono (hbA).size);replace GJ := hideK ((GJ.out.keep hbA).mono (hbA).size);clear hbA;go_wp2_with fail
      go_ret
      exact ⟨rfl, Q.out.bl⟩
     ·have hx := back_of hSJ.out hq
      have hbA : Below v40.heap.size v40 (v40.alloc (.cells #[.int .i64 (backP J).1.kind, .int .i64 (backP J).1.so, .string (backP J).1.name, .slice al9 (backP J).1.labels.length cl9, .slice ak9 (backP J).1.kids.length ck9] 25)) := (Below.refl _ _).alloc (Nat.le_refl _) _;replace Q := hideK (Q.out.keep hbA);replace GA := hideK ((GA.out.keep hbA).mono (hbA).size);replace GJ := hideK ((GJ.out.keep hbA).mono (hbA).size);have cD := jmGood hg hx (CMX.out d9 (backP J).1 al9 cl9 ak9 ck9 _ Q.out.bl hd1 ((hd2.keep hbA).mono hbA.size) ((hd3.keep hbA).mono hbA.size));simp only [tyVal] at cD ⊢;clear hx;generalize (backP J).1 = bd at *;obtain ⟨x0, x1, x2, x3, x4⟩ := Q.out.x;obtain ⟨y0, y1, y2, y3, y4⟩ := Q.out.y;simp only [Nat.zero_add] at x1 x2 x3 x4 y1 y2 y3 y4;clear hbA hd1 hd2 hd3 hq;go_wp2_with fail
      refine cD.mono ?_;rintro e u41 ⟨⟨ay, ny, cy, zy, rfl, hR⟩, hb⟩;replace Q := hideK (Q.out.keep hb);replace GA := hideK ((GA.out.keep hb).mono (hb).size);replace GJ := hideK ((GJ.out.keep hb).mono (hb).size);clear hb cD;clear x0 x1 x2 x3 x4 y0 y1 y2 y3 y4;rcases hR.absorb hg.lst hSJ.out (by exact hIJ.out) with rfl | ⟨rfl, rfl, hG⟩
      ·clear hR
       go_wp2_with fail
       go_ret
       exact ⟨rfl, Q.out.bl⟩
      ·have GY := hideK hG
       clear hG hR;go_wp2_with fail
       refine (eqSelf g _ _ _ _ _ hg.gn GY.out GA.out).mono ?_;rintro e w42 ⟨rfl, hb⟩;replace Q := hideK (Q.out.keep hb);replace GA := hideK ((GA.out.keep hb).mono (hb).size);replace GJ := hideK ((GJ.out.keep hb).mono (hb).size);clear hb;clear GY;go_wp2_with fail
       go_ret
       exact ⟨rfl, Q.out.bl⟩
    ·obtain ⟨rfl, rfl, hGN⟩ := HM.out.turn2 hg.gn hh.gn HN.out hI hS rfl
     have hIM := hideK hI;have hSM := hideK hS;have GM := hideK hG;have GN := hideK hGN;clear hI hS hG hGN HM HN;go_wp2_with fail
     refine (eqSelf J _ _ _ _ _ hSJ.out.gn GJ.out GK.out).mono ?_;rintro e w43 ⟨rfl, hb⟩;replace Q := hideK (Q.out.keep hb);replace GA := hideK ((GA.out.keep hb).mono (hb).size);replace GJ := hideK ((GJ.out.keep hb).mono (hb).size);replace GM := hideK ((GM.out.keep hb).mono (hb).size);replace GK := hideK ((GK.out.keep hb).mono (hb).size);replace GN := hideK ((GN.out.keep hb).mono (hb).size);clear hb;go_wp2_with fail
     refine (eqSelf M _ _ _ _ _ hSM.out.gn GM.out GN.out).mono ?_;rintro e w44 ⟨rfl, hb⟩;replace Q := hideK (Q.out.keep hb);replace GA := hideK ((GA.out.keep hb).mono (hb).size);replace GJ := hideK ((GJ.out.keep hb).mono (hb).size);replace GM := hideK ((GM.out.keep hb).mono (hb).size);replace GK := hideK ((GK.out.keep hb).mono (hb).size);replace GN := hideK ((GN.out.keep hb).mono (hb).size);clear hb;clear GK;clear GN;have cB := backKeep_any M hSM.out.gn am cm _ _ GM.out (Nat.le_refl _);unfold BOPost at cB;go_wp2_with fail
     refine cB.mono ?_;rintro e v45 ⟨hor, hb⟩;replace Q := hideK (Q.out.keep hb);replace GA := hideK ((GA.out.keep hb).mono (hb).size);replace GJ := hideK ((GJ.out.keep hb).mono (hb).size);replace GM := hideK ((GM.out.keep hb).mono (hb).size);clear hb cB;rcases hor with ⟨hq, t9, al9, cl9, ak9, ck9, rfl⟩ | ⟨hq, al9, cl9, ak9, ck9, d9, rfl, hd1, hd2, hd3⟩
     ·clear hq
      simp only [tyVal];have hbA : Below v45.heap.size v45 (v45.alloc (.cells #[.int .i64 t9.kind, .int .i64 t9.so, .string t9.name, .slice al9 t9.labels.length cl9, .slice ak9 t9.kids.length ck9] 25)) := (Below.refl _ _).alloc (Nat.le_refl _) _;replace Q := hideK (Q.out.keep hbA);replace GA := hideK ((GA.out.keep hbA).mono (hbA).size);replace GJ := hideK ((GJ.out.keep hbA).mono (hbA).size);replace GM := hideK ((GM.out.keep hbA).mono (hbA).size);clear hbA;have cB := backKeep_any J hSJ.out.gn aj cj _ _ GJ.out (Nat.le_refl _);unfold BOPost at cB;go_wp2_with fail
      refine cB.mono ?_;rintro e v46 ⟨hor, hb⟩;replace Q := hideK (Q.out.keep hb);replace GA := hideK ((GA.out.keep hb).mono (hb).size);replace GJ := hideK ((GJ.out.keep hb).mono (hb).size);replace GM := hideK ((GM.out.keep hb).mono (hb).size);clear hb cB;rcases hor with ⟨hq, t9, al9, cl9, ak9, ck9, rfl⟩ | ⟨hq, al9, cl9, ak9, ck9, d9, rfl, hd1, hd2, hd3⟩
      ·clear hq
       simp only [tyVal];have hbA : Below v46.heap.size v46 (v46.alloc (.cells #[.int .i64 t9.kind, .int .i64 t9.so, .string t9.name, .slice al9 t9.labels.length cl9, .slice ak9 t9.kids.length ck9] 25)) := (Below.refl _ _).alloc (Nat.le_refl _) _;replace Q := hideK (Q.out.keep hbA);replace GA := hideK ((GA.out.keep hbA).mono (hbA).size);replace GJ := hideK ((GJ.out.keep hbA).mono (hbA).size);replace GM := hideK ((GM.out.keep hbA).mono (hbA).size);clear hbA;go_wp2_with fail
       go_ret
       exact ⟨rfl, Q.out.bl⟩
      ·have hx := back_of hSJ.out hq
       have hbA : Below v46.heap.size v46 (v46.alloc (.cells #[.int .i64 (backP J).1.kind, .int .i64 (backP J).1.so, .string (backP J).1.name, .slice al9 (backP J).1.labels.length cl9, .slice ak9 (backP J).1.kids.length ck9] 25)) := (Below.refl _ _).alloc (Nat.le_refl _) _;replace Q := hideK (Q.out.keep hbA);replace GA := hideK ((GA.out.keep hbA).mono (hbA).size);replace GJ := hideK ((GJ.out.keep hbA).mono (hbA).size);replace GM := hideK ((GM.out.keep hbA).mono (hbA).size);have cD := jmGood hg hx (CMX.out d9 (backP J).1 al9 cl9 ak9 ck9 _ Q.out.bl hd1 ((hd2.keep hbA).mono hbA.size) ((hd3.keep hbA).mono hbA.size));simp only [tyVal] at cD ⊢;clear hx;generalize (backP J).1 = bd at *;obtain ⟨x0, x1, x2, x3, x4⟩ := Q.out.x;obtain ⟨y0, y1, y2, y3, y4⟩ := Q.out.y;simp only [Nat.zero_add] at x1 x2 x3 x4 y1 y2 y3 y4;clear hbA hd1 hd2 hd3 hq;go_wp2_with fail
       refine cD.mono ?_;rintro e u47 ⟨⟨ay, ny, cy, zy, rfl, hR⟩, hb⟩;replace Q := hideK (Q.out.keep hb);replace GA := hideK ((GA.out.keep hb).mono (hb).size);replace GJ := hideK ((GJ.out.keep hb).mono (hb).size);replace GM := hideK ((GM.out.keep hb).mono (hb).size);clear hb cD;clear x0 x1 x2 x3 x4 y0 y1 y2 y3 y4;rcases hR.absorb hg.lst hSJ.out (by exact hIJ.out) with rfl | ⟨rfl, rfl, hG⟩
       ·clear hR
        go_wp2_with fail
        go_ret
        exact ⟨rfl, Q.out.bl⟩
       ·have GY := hideK hG
        clear hG hR;go_wp2_with fail
        refine (eqSelf g _ _ _ _ _ hg.gn GY.out GA.out).mono ?_;rintro e w48 ⟨rfl, hb⟩;replace Q := hideK (Q.out.keep hb);replace GA := hideK ((GA.out.keep hb).mono (hb).size);replace GJ := hideK ((GJ.out.keep hb).mono (hb).size);replace GM := hideK ((GM.out.keep hb).mono (hb).size);clear hb;clear GY;go_wp2_with fail
        go_ret
        exact ⟨rfl, Q.out.bl⟩
     ·have hx := back_of hSM.out hq
      have hbA : Below v45.heap.size v45 (v45.alloc (.cells #[.int .i64 (backP M).1.kind, .int .i64 (backP M).1.so, .string (backP M).1.name, .slice al9 (backP M).1.labels.length cl9, .slice ak9 (backP M).1.kids.length ck9] 25)) := (Below.refl _ _).alloc (Nat.le_refl _) _;replace Q := hideK (Q.out.keep hbA);replace GA := hideK ((GA.out.keep hbA).mono (hbA).size);replace GJ := hideK ((GJ.out.keep hbA).mono (hbA).size);replace GM := hideK ((GM.out.keep hbA).mono (hbA).size);have cD := jmGood hg hx (CJX.out d9 (backP M).1 al9 cl9 ak9 ck9 _ Q.out.bl hd1 ((hd2.keep hbA).mono hbA.size) ((hd3.keep hbA).mono hbA.size));simp only [tyVal] at cD ⊢;clear hx;generalize (backP M).1 = bd at *;obtain ⟨x0, x1, x2, x3, x4⟩ := Q.out.x;obtain ⟨y0, y1, y2, y3, y4⟩ := Q.out.y;simp only [Nat.zero_add] at x1 x2 x3 x4 y1 y2 y3 y4;clear hbA hd1 hd2 hd3 hq;go_wp2_with fail
      refine cD.mono ?_;rintro e u49 ⟨⟨ay, ny, cy, zy, rfl, hR⟩, hb⟩;replace Q := hideK (Q.out.keep hb);replace GA := hideK ((GA.out.keep hb).mono (hb).size);replace GJ := hideK ((GJ.out.keep hb).mono (hb).size);replace GM := hideK ((GM.out.keep hb).mono (hb).size);clear hb cD;clear x0 x1 x2 x3 x4 y0 y1 y2 y3 y4;rcases hR.absorb hg.lst hSM.out (by exact hIM.out) with rfl | ⟨rfl, rfl, hG⟩
      ·clear hR
       have cB := backKeep_any J hSJ.out.gn aj cj _ _ GJ.out (Nat.le_refl _);unfold BOPost at cB;go_wp2_with fail
       refine cB.mono ?_;rintro e v50 ⟨hor, hb⟩;replace Q := hideK (Q.out.keep hb);replace GA := hideK ((GA.out.keep hb).mono (hb).size);replace GJ := hideK ((GJ.out.keep hb).mono (hb).size);replace GM := hideK ((GM.out.keep hb).mono (hb).size);clear hb cB;rcases hor with ⟨hq, t9, al9, cl9, ak9, ck9, rfl⟩ | ⟨hq, al9, cl9, ak9, ck9, d9, rfl, hd1, hd2, hd3⟩
       ·clear hq
        simp only [tyVal];have hbA : Below v50.heap.size v50 (v50.alloc (.cells #[.int .i64 t9.kind, .int .i64 t9.so, .string t9.name, .slice al9 t9.labels.length cl9, .slice ak9 t9.kids.length ck9] 25)) := (Below.refl _ _).alloc (Nat.le_refl _) _;replace Q := hideK (Q.out.keep hbA);replace GA := hideK ((GA.out.keep hbA).mono (hbA).size);replace GJ := hideK ((GJ.out.keep hbA).mono (hbA).size);replace GM := hideK ((GM.out.keep hbA).mono (hbA).size);clear hbA;go_wp2_with fail
        go_ret
        exact ⟨rfl, Q.out.bl⟩
       ·have hx := back_of hSJ.out hq
        have hbA : Below v50.heap.size v50 (v50.alloc (.cells #[.int .i64 (backP J).1.kind, .int .i64 (backP J).1.so, .string (backP J).1.name, .slice al9 (backP J).1.labels.length cl9, .slice ak9 (backP J).1.kids.length ck9] 25)) := (Below.refl _ _).alloc (Nat.le_refl _) _;replace Q := hideK (Q.out.keep hbA);replace GA := hideK ((GA.out.keep hbA).mono (hbA).size);replace GJ := hideK ((GJ.out.keep hbA).mono (hbA).size);replace GM := hideK ((GM.out.keep hbA).mono (hbA).size);have cD := jmGood hg hx (CMX.out d9 (backP J).1 al9 cl9 ak9 ck9 _ Q.out.bl hd1 ((hd2.keep hbA).mono hbA.size) ((hd3.keep hbA).mono hbA.size));simp only [tyVal] at cD ⊢;clear hx;generalize (backP J).1 = bd at *;obtain ⟨x0, x1, x2, x3, x4⟩ := Q.out.x;obtain ⟨y0, y1, y2, y3, y4⟩ := Q.out.y;simp only [Nat.zero_add] at x1 x2 x3 x4 y1 y2 y3 y4;clear hbA hd1 hd2 hd3 hq;go_wp2_with fail
        refine cD.mono ?_;rintro e u51 ⟨⟨ay, ny, cy, zy, rfl, hR⟩, hb⟩;replace Q := hideK (Q.out.keep hb);replace GA := hideK ((GA.out.keep hb).mono (hb).size);replace GJ := hideK ((GJ.out.keep hb).mono (hb).size);replace GM := hideK ((GM.out.keep hb).mono (hb).size);clear hb cD;clear x0 x1 x2 x3 x4 y0 y1 y2 y3 y4;rcases hR.absorb hg.lst hSJ.out (by exact hIJ.out) with rfl | ⟨rfl, rfl, hG⟩
        ·clear hR
         go_wp2_with fail
         go_ret
         exact ⟨rfl, Q.out.bl⟩
        ·have GY := hideK hG
         clear hG hR;go_wp2_with fail
         refine (eqSelf g _ _ _ _ _ hg.gn GY.out GA.out).mono ?_;rintro e w52 ⟨rfl, hb⟩;replace Q := hideK (Q.out.keep hb);replace GA := hideK ((GA.out.keep hb).mono (hb).size);replace GJ := hideK ((GJ.out.keep hb).mono (hb).size);replace GM := hideK ((GM.out.keep hb).mono (hb).size);clear hb;clear GY;go_wp2_with fail
         go_ret
         exact ⟨rfl, Q.out.bl⟩
      ·have GY := hideK hG
       clear hG hR;go_wp2_with fail
       refine (eqSelf g _ _ _ _ _ hg.gn GY.out GA.out).mono ?_;rintro e w53 ⟨rfl, hb⟩;replace Q := hideK (Q.out.keep hb);replace GA := hideK ((GA.out.keep hb).mono (hb).size);replace GJ := hideK ((GJ.out.keep hb).mono (hb).size);replace GM := hideK ((GM.out.keep hb).mono (hb).size);clear hb;clear GY;have cB := backKeep_any J hSJ.out.gn aj cj _ _ GJ.out (Nat.le_refl _);unfold BOPost at cB;go_wp2_with fail
       refine cB.mono ?_;rintro e v54 ⟨hor, hb⟩;replace Q := hideK (Q.out.keep hb);replace GA := hideK ((GA.out.keep hb).mono (hb).size);replace GJ := hideK ((GJ.out.keep hb).mono (hb).size);replace GM := hideK ((GM.out.keep hb).mono (hb).size);clear hb cB;rcases hor with ⟨hq, t9, al9, cl9, ak9, ck9, rfl⟩ | ⟨hq, al9, cl9, ak9, ck9, d9, rfl, hd1, hd2, hd3⟩
       ·clear hq
        simp only [tyVal];have hbA : Below v54.heap.size v54 (v54.alloc (.cells #[.int .i64 t9.kind, .int .i64 t9.so, .string t9.name, .slice al9 t9.labels.length cl9, .slice ak9 t9.kids.length ck9] 25)) := (Below.refl _ _).alloc (Nat.le_refl _) _;replace Q := hideK (Q.out.keep hbA);replace GA := hideK ((GA.out.keep hbA).mono (hbA).size);replace GJ := hideK ((GJ.out.keep hbA).mono (hbA).size);replace GM := hideK ((GM.out.keep hbA).mono (hbA).size);clear hbA;go_wp2_with fail
        go_ret
        exact ⟨rfl, Q.out.bl⟩
       ·have hx := back_of hSJ.out hq
        have hbA : Below v54.heap.size v54 (v54.alloc (.cells #[.int .i64 (backP J).1.kind, .int .i64 (backP J).1.so, .string (backP J).1.name, .slice al9 (backP J).1.labels.length cl9, .slice ak9 (backP J).1.kids.length ck9] 25)) := (Below.refl _ _).alloc (Nat.le_refl _) _;replace Q := hideK (Q.out.keep hbA);replace GA := hideK ((GA.out.keep hbA).mono (hbA).size);replace GJ := hideK ((GJ.out.keep hbA).mono (hbA).size);replace GM := hideK ((GM.out.keep hbA).mono (hbA).size);have cD := jmGood hg hx (CMX.out d9 (backP J).1 al9 cl9 ak9 ck9 _ Q.out.bl hd1 ((hd2.keep hbA).mono hbA.size) ((hd3.keep hbA).mono hbA.size));simp only [tyVal] at cD ⊢;clear hx;generalize (backP J).1 = bd at *;obtain ⟨x0, x1, x2, x3, x4⟩ := Q.out.x;obtain ⟨y0, y1, y2, y3, y4⟩ := Q.out.y;simp only [Nat.zero_add] at x1 x2 x3 x4 y1 y2 y3 y4;clear hbA hd1 hd2 hd3 hq;go_wp2_with fail
        refine cD.mono ?_;rintro e u55 ⟨⟨ay, ny, cy, zy, rfl, hR⟩, hb⟩;replace Q := hideK (Q.out.keep hb);replace GA := hideK ((GA.out.keep hb).mono (hb).size);replace GJ := hideK ((GJ.out.keep hb).mono (hb).size);replace GM := hideK ((GM.out.keep hb).mono (hb).size);clear hb cD;clear x0 x1 x2 x3 x4 y0 y1 y2 y3 y4;rcases hR.absorb hg.lst hSJ.out (by exact hIJ.out) with rfl | ⟨rfl, rfl, hG⟩
        ·clear hR
         go_wp2_with fail
         go_ret
         exact ⟨rfl, Q.out.bl⟩
        ·have GY := hideK hG
         clear hG hR;go_wp2_with fail
         refine (eqSelf g _ _ _ _ _ hg.gn GY.out GA.out).mono ?_;rintro e w56 ⟨rfl, hb⟩;replace Q := hideK (Q.out.keep hb);replace GA := hideK ((GA.out.keep hb).mono (hb).size);replace GJ := hideK ((GJ.out.keep hb).mono (hb).size);replace GM := hideK ((GM.out.keep hb).mono (hb).size);clear hb;clear GY;go_wp2_with fail
         go_ret
         exact ⟨rfl, Q.out.bl⟩
end Go.Proofs.YtpamhimmdoimoaaGreatDoor
