/-
  The law of duetkeep.BelowDuals: whatever types are handed in it answers true.
-/
import Derived.Test.YtpamhimmdoimoaaGreatDoorSz
import Derived.Test.YtpamhimmdoimoaaGreatDoorNi
import Derived.Test.YtpamhimmdoimoaaGreatDoorNk
import Derived.Test.YtpamhimmdoimoaaGreatDoorJe
namespace Go.Proofs.YtpamhimmdoimoaaGreatDoor
open Go.RowKit Go.Shelf
structure BY2 (w : World) (s : Ty) (sal : OAd) (scl : Nat) (sak : OAd) (sck : Nat) (t : Ty) (al : OAd) (cl : Nat) (ak : OAd) (ck : Nat) (W : World) : Prop where
 x : TyAt W w.heap.size 0 s sal scl sak sck
 y : TyAt W (w.heap.size + 1) 0 t al cl ak ck
 lt : w.heap.size + 1 < W.heap.size
 bl : Below w.heap.size w W
theorem BY2.keep {w : World} {s : Ty} {sal : OAd} {scl : Nat} {sak : OAd} {sck : Nat} {t : Ty} {al : OAd} {cl : Nat} {ak : OAd} {ck : Nat} {W W' : World} (h : BY2 w s sal scl sak sck t al cl ak ck W) (hb : Below W.heap.size W W') : BY2 w s sal scl sak sck t al cl ak ck W' :=
 ⟨h.x.keep hb (by have := h.lt; omega), h.y.keep hb h.lt, Nat.lt_of_lt_of_le h.lt hb.size, h.bl.trans (hb.mono h.bl.size)⟩
theorem BY2.new (w : World) (s : Ty) (sal : OAd) (scl : Nat) (sak : OAd) (sck : Nat) (t : Ty) (al : OAd) (cl : Nat) (ak : OAd) (ck : Nat) : BY2 w s sal scl sak sck t al cl ak ck ((w.alloc (.cells #[.int .i64 s.kind, .int .i64 s.so, .string s.name, .slice sal s.labels.length scl, .slice sak s.kids.length sck] 25)).alloc (.cells #[.int .i64 t.kind, .int .i64 t.so, .string t.name, .slice al t.labels.length cl, .slice ak t.kids.length ck] 25)) :=
 ⟨⟨by go_cell, by go_cell, by go_cell, by go_cell, by go_cell⟩, ⟨by go_cell, by go_cell, by go_cell, by go_cell, by go_cell⟩, by simp, ((Below.refl _ _).alloc (Nat.le_refl _) _).alloc (by simp) _⟩
theorem eqSelf (g : List Nd) (ag ah : OAd) (cg ch : Nat) (w : World) (hg : GN g) (hga : GAt w w.heap.size g ag) (hha : GAt w w.heap.size g ah) :
  Calls Tryz.prog 11 #[.slice ag g.length cg, .slice ah g.length ch] w fun e w' => e = .returned (.bool true) ∧ Below w.heap.size w w' := by
 have hl := hg.le;have hs : ∀ n ∈ g, n.labs.length ≤ 1000 ∧ n.to.length ≤ 1000 := fun n hn => by have := shp_len (okN_shp (hg.ok n hn)); omega
 have c := graphEqual_any g g ag ah cg ch w.heap.size w hga hha (Nat.le_refl _) (by omega) (by omega) hs hs
 rw [(eqG_iff g g).2 rfl] at c;exact c
theorem eqNil (cg ch : Nat) (w : World) : Calls Tryz.prog 11 #[.slice none 0 cg, .slice none 0 ch] w fun e w' => e = .returned (.bool true) ∧ Below w.heap.size w w' :=
 graphEqual_any [] [] none none cg ch 0 w (.inl rfl) (.inl rfl) (Nat.zero_le _) (by simp) (by simp) (fun n hn => by cases hn) (fun n hn => by cases hn)
structure TXB (bx : Nat) (x : Ty) (al : OAd) (cl : Nat) (ak : OAd) (ck d : Nat) (W : World) : Prop where
 a : TyAt W bx 0 x al cl ak ck
 lt : bx < W.heap.size
 la : LA W W.heap.size x.labels al
 kt : KT W W.heap.size d x.kids ak
theorem TXB.keep {bx : Nat} {x : Ty} {al : OAd} {cl : Nat} {ak : OAd} {ck d : Nat} {W W' : World} (h : TXB bx x al cl ak ck d W) (hb : Below W.heap.size W W') : TXB bx x al cl ak ck d W' :=
 ⟨h.a.keep hb h.lt, Nat.lt_of_lt_of_le h.lt hb.size, (h.la.keep hb).mono hb.size, (h.kt.keep hb).mono hb.size⟩
theorem TXB.new {x : Ty} {al : OAd} {cl : Nat} {ak : OAd} {ck d : Nat} {W : World} (hl : LA W W.heap.size x.labels al) (hk : KT W W.heap.size d x.kids ak) : TXB W.heap.size x al cl ak ck d (W.alloc (.cells #[.int .i64 x.kind, .int .i64 x.so, .string x.name, .slice al x.labels.length cl, .slice ak x.kids.length ck] 25)) := by
 have hb : Below W.heap.size W (W.alloc (.cells #[.int .i64 x.kind, .int .i64 x.so, .string x.name, .slice al x.labels.length cl, .slice ak x.kids.length ck] 25)) := (Below.refl _ _).alloc (Nat.le_refl _) _;exact ⟨⟨by go_cell, by go_cell, by go_cell, by go_cell, by go_cell⟩, by simp, (hl.keep hb).mono hb.size, (hk.keep hb).mono hb.size⟩
theorem duGood {t : Ty} {g : List Nd} (h : OFG t g) {w : World} {args : Array Value} (c : Calls Tryz.prog 9 args w (DOPost t w)) : Calls Tryz.prog 9 args w fun e w' => (∃ D ao co, LSTG D ∧ alikeG D (othG g) 0 0 ∧ e = .returned (.tuple #[.slice ao D.length co, .int .i64 0]) ∧ GAt w' w'.heap.size D ao) ∧ Below w.heap.size w w' := by
 refine c.mono ?_;rintro e w' ⟨q | q, hb⟩
 ·exact absurd h.chk q.1
 ·obtain ⟨g', hg, c, hc, ao, co, e, hG⟩ := q
  obtain rfl := hg.uniq h;have og := oth_gn hg.gn (by have := hg.le; omega)
  exact ⟨⟨_, ao, co, ⟨_, c, og, hc, rfl⟩, (least_gn og hc).2.1, e, hG⟩, hb⟩
theorem duBad {t : Ty} (h : chkTy t ≠ 0) {w : World} {args : Array Value} (c : Calls Tryz.prog 9 args w (DOPost t w)) : Calls Tryz.prog 9 args w fun e w' => (∃ z : Int, z ≠ 0 ∧ e = .returned (.tuple #[.slice none 0 0, .int .i64 z])) ∧ Below w.heap.size w w' := by
 refine c.mono ?_;rintro e w' ⟨q | q, hb⟩
 ·exact ⟨⟨_, q.1, q.2⟩, hb⟩
 ·obtain ⟨g', hg, _⟩ := q
  exact absurd hg.chk h
theorem dgGood (g : List Nd) (ag : OAd) (cg : Nat) (w : World) (hg : GN g) (hl : g.length ≤ 100) (hga : GAt w w.heap.size g ag) : Calls Tryz.prog 10 #[.slice ag g.length cg] w fun e w' => (∃ D ao co, LSTG D ∧ alikeG D (othG g) 0 0 ∧ e = .returned (.tuple #[.slice ao D.length co, .int .i64 0]) ∧ GAt w' w'.heap.size D ao) ∧ Below w.heap.size w w' := by
 refine (dualGraph_any g ag cg w.heap.size w hg hl hga (Nat.le_refl _)).mono ?_;rintro e w' ⟨⟨c, hc, ao, co, e, hG⟩, hb⟩;have og := oth_gn hg hl;exact ⟨⟨_, ao, co, ⟨_, c, og, hc, rfl⟩, (least_gn og hc).2.1, e, hG⟩, hb⟩
set_option maxRecDepth 100000 in
set_option maxHeartbeats 32000000 in
theorem belowDuals_law (ds dt : Nat) (s t : Ty) (sal : OAd) (scl : Nat) (sak : OAd) (sck : Nat) (al : OAd) (cl : Nat) (ak : OAd) (ck : Nat) (w : World) (hs1 : TyBd s scl sck) (hs2 : LA w w.heap.size s.labels sal) (hs3 : KT w w.heap.size ds s.kids sak) (ht1 : TyBd t cl ck) (ht2 : LA w w.heap.size t.labels al) (ht3 : KT w w.heap.size dt t.kids ak) :
  Calls Tryz.prog 3 #[tyVal s sal scl sak sck, tyVal t al cl ak ck] w fun e w' => e = .returned (.bool true) ∧ Below w.heap.size w w' := by
 have Q := hideK (BY2.new w s sal scl sak sck t al cl ak ck);have CE := hideK (fun (W : World) (_ : Below w.heap.size w W) => meetEnd W)
 have CJ := hideK (fun (W : World) (hb : Below w.heap.size w W) => join_any ds dt s t sal scl sak sck al cl ak ck W hs1 ((hs2.keep hb).mono hb.size) ((hs3.keep hb).mono hb.size) ht1 ((ht2.keep hb).mono hb.size) ((ht3.keep hb).mono hb.size))
 have CS := hideK (fun (W : World) (hb : Below w.heap.size w W) => dualOf_any ds s sal scl sak sck W hs1 ((hs2.keep hb).mono hb.size) ((hs3.keep hb).mono hb.size))
 have CT := hideK (fun (W : World) (hb : Below w.heap.size w W) => dualOf_any dt t al cl ak ck W ht1 ((ht2.keep hb).mono hb.size) ((ht3.keep hb).mono hb.size))
 have CMX := hideK (fun (W : World) (d1 d2 : Nat) (x y : Ty) (xal : OAd) (xcl : Nat) (xak : OAd) (xck : Nat) (yal : OAd) (ycl : Nat) (yak : OAd) (yck : Nat) (hx1 : TyBd x xcl xck) (hx2 : LA W W.heap.size x.labels xal) (hx3 : KT W W.heap.size d1 x.kids xak) (hy1 : TyBd y ycl yck) (hy2 : LA W W.heap.size y.labels yal) (hy3 : KT W W.heap.size d2 y.kids yak) => meet_any d1 d2 x y xal xcl xak xck yal ycl yak yck W hx1 hx2 hx3 hy1 hy2 hy3)
 simp only [tyVal] at CJ CS CT CMX ⊢;clear hs1 hs2 hs3 ht1 ht2 ht3;by_cases hz : chkTy s ≠ 0
 ·by_cases hzt : chkTy t ≠ 0
  ·obtain ⟨x0, x1, x2, x3, x4⟩ := Q.out.x
   obtain ⟨y0, y1, y2, y3, y4⟩ := Q.out.y;simp only [Nat.zero_add] at x1 x2 x3 x4 y1 y2 y3 y4;go_enter Tryz.func3, Tryz.ntmps3
   go_wp2_with fail
   refine (CE.out _ Q.out.bl).mono ?_;rintro e w1 ⟨⟨ae, ce, rfl⟩, hb⟩;replace Q := hideK (Q.out.keep hb);clear hb;clear x0 x1 x2 x3 x4 y0 y1 y2 y3 y4;obtain ⟨x0, x1, x2, x3, x4⟩ := Q.out.x;obtain ⟨y0, y1, y2, y3, y4⟩ := Q.out.y;simp only [Nat.zero_add] at x1 x2 x3 x4 y1 y2 y3 y4;go_wp2_with fail
   refine (jmBad (.inl hz) (CJ.out _ Q.out.bl)).mono ?_;rintro e w2 ⟨⟨zj, -, -, rfl⟩, hb⟩;replace Q := hideK (Q.out.keep hb);clear hb;clear x0 x1 x2 x3 x4 y0 y1 y2 y3 y4;obtain ⟨x0, x1, x2, x3, x4⟩ := Q.out.x;obtain ⟨y0, y1, y2, y3, y4⟩ := Q.out.y;simp only [Nat.zero_add] at x1 x2 x3 x4 y1 y2 y3 y4;by_cases h2 : zj = 2
   ·subst h2
    clear x0 x1 x2 x3 x4 y0 y1 y2 y3 y4;go_wp2_with fail
    go_ret
    exact ⟨rfl, Q.out.bl⟩
   ·have h2b : (zj == 2) = false := by simpa using h2
    clear h2;go_wp2_with fail
    refine (duBad hz (CS.out _ Q.out.bl)).mono ?_;rintro e w3 ⟨⟨zS, hzS, rfl⟩, hb⟩;replace Q := hideK (Q.out.keep hb);clear hb;clear x0 x1 x2 x3 x4 y0 y1 y2 y3 y4;go_wp2_with fail
    refine (backErr_any _ _ _ zS hzS _).mono ?_;rintro e v4 ⟨⟨t9, al9, cl9, ak9, ck9, rfl⟩, hb⟩;replace Q := hideK (Q.out.keep hb);clear hb;simp only [tyVal];have hbA : Below v4.heap.size v4 (v4.alloc (.cells #[.int .i64 t9.kind, .int .i64 t9.so, .string t9.name, .slice al9 t9.labels.length cl9, .slice ak9 t9.kids.length ck9] 25)) := (Below.refl _ _).alloc (Nat.le_refl _) _;replace Q := hideK (Q.out.keep hbA);clear hbA;obtain ⟨x0, x1, x2, x3, x4⟩ := Q.out.x;obtain ⟨y0, y1, y2, y3, y4⟩ := Q.out.y;simp only [Nat.zero_add] at x1 x2 x3 x4 y1 y2 y3 y4;go_wp2_with fail
    refine (duBad hzt (CT.out _ Q.out.bl)).mono ?_;rintro e w5 ⟨⟨zT, hzT, rfl⟩, hb⟩;replace Q := hideK (Q.out.keep hb);clear hb;clear x0 x1 x2 x3 x4 y0 y1 y2 y3 y4;go_wp2_with fail
    refine (backErr_any _ _ _ zT hzT _).mono ?_;rintro e v6 ⟨⟨t9, al9, cl9, ak9, ck9, rfl⟩, hb⟩;replace Q := hideK (Q.out.keep hb);clear hb;simp only [tyVal];have hbA : Below v6.heap.size v6 (v6.alloc (.cells #[.int .i64 t9.kind, .int .i64 t9.so, .string t9.name, .slice al9 t9.labels.length cl9, .slice ak9 t9.kids.length ck9] 25)) := (Below.refl _ _).alloc (Nat.le_refl _) _;replace Q := hideK (Q.out.keep hbA);clear hbA;go_wp2_with fail
    go_ret
    exact ⟨rfl, Q.out.bl⟩
  ·have hzt' : chkTy t = 0 := Classical.byContradiction hzt
   obtain ⟨h, hh⟩ := OFG_ex hzt';clear hzt hzt';obtain ⟨x0, x1, x2, x3, x4⟩ := Q.out.x;obtain ⟨y0, y1, y2, y3, y4⟩ := Q.out.y;simp only [Nat.zero_add] at x1 x2 x3 x4 y1 y2 y3 y4;go_enter Tryz.func3, Tryz.ntmps3
   go_wp2_with fail
   refine (CE.out _ Q.out.bl).mono ?_;rintro e w7 ⟨⟨ae, ce, rfl⟩, hb⟩;replace Q := hideK (Q.out.keep hb);clear hb;clear x0 x1 x2 x3 x4 y0 y1 y2 y3 y4;obtain ⟨x0, x1, x2, x3, x4⟩ := Q.out.x;obtain ⟨y0, y1, y2, y3, y4⟩ := Q.out.y;simp only [Nat.zero_add] at x1 x2 x3 x4 y1 y2 y3 y4;go_wp2_with fail
   refine (jmBad (.inl hz) (CJ.out _ Q.out.bl)).mono ?_;rintro e w8 ⟨⟨zj, -, -, rfl⟩, hb⟩;replace Q := hideK (Q.out.keep hb);clear hb;clear x0 x1 x2 x3 x4 y0 y1 y2 y3 y4;obtain ⟨x0, x1, x2, x3, x4⟩ := Q.out.x;obtain ⟨y0, y1, y2, y3, y4⟩ := Q.out.y;simp only [Nat.zero_add] at x1 x2 x3 x4 y1 y2 y3 y4;by_cases h2 : zj = 2
   ·subst h2
    clear x0 x1 x2 x3 x4 y0 y1 y2 y3 y4;go_wp2_with fail
    go_ret
    exact ⟨rfl, Q.out.bl⟩
   ·have h2b : (zj == 2) = false := by simpa using h2
    clear h2;go_wp2_with fail
    refine (duBad hz (CS.out _ Q.out.bl)).mono ?_;rintro e w9 ⟨⟨zS, hzS, rfl⟩, hb⟩;replace Q := hideK (Q.out.keep hb);clear hb;clear x0 x1 x2 x3 x4 y0 y1 y2 y3 y4;go_wp2_with fail
    refine (backErr_any _ _ _ zS hzS _).mono ?_;rintro e v10 ⟨⟨t9, al9, cl9, ak9, ck9, rfl⟩, hb⟩;replace Q := hideK (Q.out.keep hb);clear hb;simp only [tyVal];have hbA : Below v10.heap.size v10 (v10.alloc (.cells #[.int .i64 t9.kind, .int .i64 t9.so, .string t9.name, .slice al9 t9.labels.length cl9, .slice ak9 t9.kids.length ck9] 25)) := (Below.refl _ _).alloc (Nat.le_refl _) _;replace Q := hideK (Q.out.keep hbA);clear hbA;obtain ⟨x0, x1, x2, x3, x4⟩ := Q.out.x;obtain ⟨y0, y1, y2, y3, y4⟩ := Q.out.y;simp only [Nat.zero_add] at x1 x2 x3 x4 y1 y2 y3 y4;go_wp2_with fail
    refine (duGood hh (CT.out _ Q.out.bl)).mono ?_;rintro e w11 ⟨⟨H, aH, cH, hL, hA, rfl, hG⟩, hb⟩;replace Q := hideK (Q.out.keep hb);clear hb;clear x0 x1 x2 x3 x4 y0 y1 y2 y3 y4;have HLH := hideK hL;have HAH := hideK hA;have cB := backKeep_any H hL.gn aH cH _ _ hG (Nat.le_refl _);unfold BOPost at cB;clear hL hA hG;go_wp2_with fail
    refine cB.mono ?_;rintro e v12 ⟨hor, hb⟩;replace Q := hideK (Q.out.keep hb);clear hb cB;rcases hor with ⟨hq, t9, al9, cl9, ak9, ck9, rfl⟩ | ⟨hq, alH, clH, akH, ckH, dH, rfl, hd1, hd2, hd3⟩
    ·clear hq
     simp only [tyVal];have hbA : Below v12.heap.size v12 (v12.alloc (.cells #[.int .i64 t9.kind, .int .i64 t9.so, .string t9.name, .slice al9 t9.labels.length cl9, .slice ak9 t9.kids.length ck9] 25)) := (Below.refl _ _).alloc (Nat.le_refl _) _;replace Q := hideK (Q.out.keep hbA);clear hbA;go_wp2_with fail
     go_ret
     exact ⟨rfl, Q.out.bl⟩
    ·have hxH := hideK (back_of HLH.out hq)
     have hbdH := hideK hd1;have TY := hideK (TXB.new (cl := clH) (ck := ckH) hd2 hd3);have hbA : Below v12.heap.size v12 (v12.alloc (.cells #[.int .i64 (backP H).1.kind, .int .i64 (backP H).1.so, .string (backP H).1.name, .slice alH (backP H).1.labels.length clH, .slice akH (backP H).1.kids.length ckH] 25)) := (Below.refl _ _).alloc (Nat.le_refl _) _;replace Q := hideK (Q.out.keep hbA);clear hbA hd1 hd2 hd3 hq;simp only [tyVal];generalize (backP H).1 = bH at *;go_wp2_with fail
     go_ret
     exact ⟨rfl, Q.out.bl⟩
 ·have hzs : chkTy s = 0 := Classical.byContradiction hz
  obtain ⟨g, hg⟩ := OFG_ex hzs;clear hz hzs;by_cases hz : chkTy t ≠ 0
  ·obtain ⟨x0, x1, x2, x3, x4⟩ := Q.out.x
   obtain ⟨y0, y1, y2, y3, y4⟩ := Q.out.y;simp only [Nat.zero_add] at x1 x2 x3 x4 y1 y2 y3 y4;go_enter Tryz.func3, Tryz.ntmps3
   go_wp2_with fail
   refine (CE.out _ Q.out.bl).mono ?_;rintro e w13 ⟨⟨ae, ce, rfl⟩, hb⟩;replace Q := hideK (Q.out.keep hb);clear hb;clear x0 x1 x2 x3 x4 y0 y1 y2 y3 y4;obtain ⟨x0, x1, x2, x3, x4⟩ := Q.out.x;obtain ⟨y0, y1, y2, y3, y4⟩ := Q.out.y;simp only [Nat.zero_add] at x1 x2 x3 x4 y1 y2 y3 y4;go_wp2_with fail
   refine (jmBad (.inr hz) (CJ.out _ Q.out.bl)).mono ?_;rintro e w14 ⟨⟨zj, -, -, rfl⟩, hb⟩;replace Q := hideK (Q.out.keep hb);clear hb;clear x0 x1 x2 x3 x4 y0 y1 y2 y3 y4;obtain ⟨x0, x1, x2, x3, x4⟩ := Q.out.x;obtain ⟨y0, y1, y2, y3, y4⟩ := Q.out.y;simp only [Nat.zero_add] at x1 x2 x3 x4 y1 y2 y3 y4;by_cases h2 : zj = 2
   ·subst h2
    clear x0 x1 x2 x3 x4 y0 y1 y2 y3 y4;go_wp2_with fail
    go_ret
    exact ⟨rfl, Q.out.bl⟩
   ·have h2b : (zj == 2) = false := by simpa using h2
    clear h2;go_wp2_with fail
    refine (duGood hg (CS.out _ Q.out.bl)).mono ?_;rintro e w15 ⟨⟨G, aG, cG, hL, hA, rfl, hG⟩, hb⟩;replace Q := hideK (Q.out.keep hb);clear hb;clear x0 x1 x2 x3 x4 y0 y1 y2 y3 y4;have HLG := hideK hL;have HAG := hideK hA;have cB := backKeep_any G hL.gn aG cG _ _ hG (Nat.le_refl _);unfold BOPost at cB;clear hL hA hG;go_wp2_with fail
    refine cB.mono ?_;rintro e v16 ⟨hor, hb⟩;replace Q := hideK (Q.out.keep hb);clear hb cB;rcases hor with ⟨hq, t9, al9, cl9, ak9, ck9, rfl⟩ | ⟨hq, alG, clG, akG, ckG, dG, rfl, hd1, hd2, hd3⟩
    ·clear hq
     simp only [tyVal];have hbA : Below v16.heap.size v16 (v16.alloc (.cells #[.int .i64 t9.kind, .int .i64 t9.so, .string t9.name, .slice al9 t9.labels.length cl9, .slice ak9 t9.kids.length ck9] 25)) := (Below.refl _ _).alloc (Nat.le_refl _) _;replace Q := hideK (Q.out.keep hbA);clear hbA;obtain ⟨x0, x1, x2, x3, x4⟩ := Q.out.x;obtain ⟨y0, y1, y2, y3, y4⟩ := Q.out.y;simp only [Nat.zero_add] at x1 x2 x3 x4 y1 y2 y3 y4;go_wp2_with fail
     refine (duBad hz (CT.out _ Q.out.bl)).mono ?_;rintro e w17 ⟨⟨zT, hzT, rfl⟩, hb⟩;replace Q := hideK (Q.out.keep hb);clear hb;clear x0 x1 x2 x3 x4 y0 y1 y2 y3 y4;go_wp2_with fail
     refine (backErr_any _ _ _ zT hzT _).mono ?_;rintro e v18 ⟨⟨t9, al9, cl9, ak9, ck9, rfl⟩, hb⟩;replace Q := hideK (Q.out.keep hb);clear hb;simp only [tyVal];have hbA : Below v18.heap.size v18 (v18.alloc (.cells #[.int .i64 t9.kind, .int .i64 t9.so, .string t9.name, .slice al9 t9.labels.length cl9, .slice ak9 t9.kids.length ck9] 25)) := (Below.refl _ _).alloc (Nat.le_refl _) _;replace Q := hideK (Q.out.keep hbA);clear hbA;go_wp2_with fail
     go_ret
     exact ⟨rfl, Q.out.bl⟩
    ·have hxG := hideK (back_of HLG.out hq)
     have hbdG := hideK hd1;have TX := hideK (TXB.new (cl := clG) (ck := ckG) hd2 hd3);have hbA : Below v16.heap.size v16 (v16.alloc (.cells #[.int .i64 (backP G).1.kind, .int .i64 (backP G).1.so, .string (backP G).1.name, .slice alG (backP G).1.labels.length clG, .slice akG (backP G).1.kids.length ckG] 25)) := (Below.refl _ _).alloc (Nat.le_refl _) _;replace Q := hideK (Q.out.keep hbA);clear hbA hd1 hd2 hd3 hq;simp only [tyVal];generalize (backP G).1 = bG at *;obtain ⟨x0, x1, x2, x3, x4⟩ := Q.out.x;obtain ⟨y0, y1, y2, y3, y4⟩ := Q.out.y;simp only [Nat.zero_add] at x1 x2 x3 x4 y1 y2 y3 y4;go_wp2_with fail
     refine (duBad hz (CT.out _ Q.out.bl)).mono ?_;rintro e w19 ⟨⟨zT, hzT, rfl⟩, hb⟩;replace Q := hideK (Q.out.keep hb);replace TX := hideK (TX.out.keep hb);clear hb;clear x0 x1 x2 x3 x4 y0 y1 y2 y3 y4;go_wp2_with fail
     refine (backErr_any _ _ _ zT hzT _).mono ?_;rintro e v20 ⟨⟨t9, al9, cl9, ak9, ck9, rfl⟩, hb⟩;replace Q := hideK (Q.out.keep hb);replace TX := hideK (TX.out.keep hb);clear hb;simp only [tyVal];have hbA : Below v20.heap.size v20 (v20.alloc (.cells #[.int .i64 t9.kind, .int .i64 t9.so, .string t9.name, .slice al9 t9.labels.length cl9, .slice ak9 t9.kids.length ck9] 25)) := (Below.refl _ _).alloc (Nat.le_refl _) _;replace Q := hideK (Q.out.keep hbA);replace TX := hideK (TX.out.keep hbA);clear hbA;go_wp2_with fail
     go_ret
     exact ⟨rfl, Q.out.bl⟩
  ·have hzt : chkTy t = 0 := Classical.byContradiction hz
   obtain ⟨h, hh⟩ := OFG_ex hzt;clear hz hzt;obtain ⟨x0, x1, x2, x3, x4⟩ := Q.out.x;obtain ⟨y0, y1, y2, y3, y4⟩ := Q.out.y;simp only [Nat.zero_add] at x1 x2 x3 x4 y1 y2 y3 y4;go_enter Tryz.func3, Tryz.ntmps3
   go_wp2_with fail
   refine (CE.out _ Q.out.bl).mono ?_;rintro e w21 ⟨⟨ae, ce, rfl⟩, hb⟩;replace Q := hideK (Q.out.keep hb);clear hb;clear x0 x1 x2 x3 x4 y0 y1 y2 y3 y4;obtain ⟨x0, x1, x2, x3, x4⟩ := Q.out.x;obtain ⟨y0, y1, y2, y3, y4⟩ := Q.out.y;simp only [Nat.zero_add] at x1 x2 x3 x4 y1 y2 y3 y4;go_wp2_with fail
   refine (jmGood hg hh (CJ.out _ Q.out.bl)).mono ?_;rintro e w22 ⟨⟨aj, nj, cj, zj, rfl, hJ⟩, hb⟩;replace Q := hideK (Q.out.keep hb);clear hb;clear x0 x1 x2 x3 x4 y0 y1 y2 y3 y4;obtain ⟨x0, x1, x2, x3, x4⟩ := Q.out.x;obtain ⟨y0, y1, y2, y3, y4⟩ := Q.out.y;simp only [Nat.zero_add] at x1 x2 x3 x4 y1 y2 y3 y4;have HJ := hideK hJ;rcases hJ.three hg.gn hh.gn with ⟨rfl, rfl, rfl, hN⟩ | ⟨rfl, rfl, rfl⟩ | ⟨rfl, J, hI, hS, rfl, hG⟩
   ·clear hN hJ
    go_wp2_with fail
    refine (duGood hg (CS.out _ Q.out.bl)).mono ?_;rintro e w23 ⟨⟨G, aG, cG, hL, hA, rfl, hG⟩, hb⟩;replace Q := hideK (Q.out.keep hb);replace HJ := hideK (HJ.out.keep hb);clear hb;clear x0 x1 x2 x3 x4 y0 y1 y2 y3 y4;have HLG := hideK hL;have HAG := hideK hA;have cB := backKeep_any G hL.gn aG cG _ _ hG (Nat.le_refl _);unfold BOPost at cB;clear hL hA hG;go_wp2_with fail
    refine cB.mono ?_;rintro e v24 ⟨hor, hb⟩;replace Q := hideK (Q.out.keep hb);replace HJ := hideK (HJ.out.keep hb);clear hb cB;rcases hor with ⟨hq, t9, al9, cl9, ak9, ck9, rfl⟩ | ⟨hq, alG, clG, akG, ckG, dG, rfl, hd1, hd2, hd3⟩
    ·clear hq
     simp only [tyVal];have hbA : Below v24.heap.size v24 (v24.alloc (.cells #[.int .i64 t9.kind, .int .i64 t9.so, .string t9.name, .slice al9 t9.labels.length cl9, .slice ak9 t9.kids.length ck9] 25)) := (Below.refl _ _).alloc (Nat.le_refl _) _;replace Q := hideK (Q.out.keep hbA);replace HJ := hideK (HJ.out.keep hbA);clear hbA;obtain ⟨x0, x1, x2, x3, x4⟩ := Q.out.x;obtain ⟨y0, y1, y2, y3, y4⟩ := Q.out.y;simp only [Nat.zero_add] at x1 x2 x3 x4 y1 y2 y3 y4;go_wp2_with fail
     refine (duGood hh (CT.out _ Q.out.bl)).mono ?_;rintro e w25 ⟨⟨H, aH, cH, hL, hA, rfl, hG⟩, hb⟩;replace Q := hideK (Q.out.keep hb);replace HJ := hideK (HJ.out.keep hb);clear hb;clear x0 x1 x2 x3 x4 y0 y1 y2 y3 y4;have HLH := hideK hL;have HAH := hideK hA;have cB := backKeep_any H hL.gn aH cH _ _ hG (Nat.le_refl _);unfold BOPost at cB;clear hL hA hG;go_wp2_with fail
     refine cB.mono ?_;rintro e v26 ⟨hor, hb⟩;replace Q := hideK (Q.out.keep hb);replace HJ := hideK (HJ.out.keep hb);clear hb cB;rcases hor with ⟨hq, t9, al9, cl9, ak9, ck9, rfl⟩ | ⟨hq, alH, clH, akH, ckH, dH, rfl, hd1, hd2, hd3⟩
     ·clear hq
      simp only [tyVal];have hbA : Below v26.heap.size v26 (v26.alloc (.cells #[.int .i64 t9.kind, .int .i64 t9.so, .string t9.name, .slice al9 t9.labels.length cl9, .slice ak9 t9.kids.length ck9] 25)) := (Below.refl _ _).alloc (Nat.le_refl _) _;replace Q := hideK (Q.out.keep hbA);replace HJ := hideK (HJ.out.keep hbA);clear hbA;go_wp2_with fail
      go_ret
      exact ⟨rfl, Q.out.bl⟩
     ·have hxH := hideK (back_of HLH.out hq)
      have hbdH := hideK hd1;have TY := hideK (TXB.new (cl := clH) (ck := ckH) hd2 hd3);have hbA : Below v26.heap.size v26 (v26.alloc (.cells #[.int .i64 (backP H).1.kind, .int .i64 (backP H).1.so, .string (backP H).1.name, .slice alH (backP H).1.labels.length clH, .slice akH (backP H).1.kids.length ckH] 25)) := (Below.refl _ _).alloc (Nat.le_refl _) _;replace Q := hideK (Q.out.keep hbA);replace HJ := hideK (HJ.out.keep hbA);clear hbA hd1 hd2 hd3 hq;simp only [tyVal];generalize (backP H).1 = bH at *;go_wp2_with fail
      go_ret
      exact ⟨rfl, Q.out.bl⟩
    ·have hxG := hideK (back_of HLG.out hq)
     have hbdG := hideK hd1;have TX := hideK (TXB.new (cl := clG) (ck := ckG) hd2 hd3);have hbA : Below v24.heap.size v24 (v24.alloc (.cells #[.int .i64 (backP G).1.kind, .int .i64 (backP G).1.so, .string (backP G).1.name, .slice alG (backP G).1.labels.length clG, .slice akG (backP G).1.kids.length ckG] 25)) := (Below.refl _ _).alloc (Nat.le_refl _) _;replace Q := hideK (Q.out.keep hbA);replace HJ := hideK (HJ.out.keep hbA);clear hbA hd1 hd2 hd3 hq;simp only [tyVal];generalize (backP G).1 = bG at *;obtain ⟨x0, x1, x2, x3, x4⟩ := Q.out.x;obtain ⟨y0, y1, y2, y3, y4⟩ := Q.out.y;simp only [Nat.zero_add] at x1 x2 x3 x4 y1 y2 y3 y4;go_wp2_with fail
     refine (duGood hh (CT.out _ Q.out.bl)).mono ?_;rintro e w27 ⟨⟨H, aH, cH, hL, hA, rfl, hG⟩, hb⟩;replace Q := hideK (Q.out.keep hb);replace HJ := hideK (HJ.out.keep hb);replace TX := hideK (TX.out.keep hb);clear hb;clear x0 x1 x2 x3 x4 y0 y1 y2 y3 y4;have HLH := hideK hL;have HAH := hideK hA;have cB := backKeep_any H hL.gn aH cH _ _ hG (Nat.le_refl _);unfold BOPost at cB;clear hL hA hG;go_wp2_with fail
     refine cB.mono ?_;rintro e v28 ⟨hor, hb⟩;replace Q := hideK (Q.out.keep hb);replace HJ := hideK (HJ.out.keep hb);replace TX := hideK (TX.out.keep hb);clear hb cB;rcases hor with ⟨hq, t9, al9, cl9, ak9, ck9, rfl⟩ | ⟨hq, alH, clH, akH, ckH, dH, rfl, hd1, hd2, hd3⟩
     ·clear hq
      simp only [tyVal];have hbA : Below v28.heap.size v28 (v28.alloc (.cells #[.int .i64 t9.kind, .int .i64 t9.so, .string t9.name, .slice al9 t9.labels.length cl9, .slice ak9 t9.kids.length ck9] 25)) := (Below.refl _ _).alloc (Nat.le_refl _) _;replace Q := hideK (Q.out.keep hbA);replace HJ := hideK (HJ.out.keep hbA);replace TX := hideK (TX.out.keep hbA);clear hbA;go_wp2_with fail
      go_ret
      exact ⟨rfl, Q.out.bl⟩
     ·have hxH := hideK (back_of HLH.out hq)
      have hbdH := hideK hd1;have TY := hideK (TXB.new (cl := clH) (ck := ckH) hd2 hd3);have hbA : Below v28.heap.size v28 (v28.alloc (.cells #[.int .i64 (backP H).1.kind, .int .i64 (backP H).1.so, .string (backP H).1.name, .slice alH (backP H).1.labels.length clH, .slice akH (backP H).1.kids.length ckH] 25)) := (Below.refl _ _).alloc (Nat.le_refl _) _;replace Q := hideK (Q.out.keep hbA);replace HJ := hideK (HJ.out.keep hbA);replace TX := hideK (TX.out.keep hbA);clear hbA hd1 hd2 hd3 hq;simp only [tyVal];generalize (backP H).1 = bH at *;obtain ⟨p0, p1, p2, p3, p4⟩ := TX.out.a;obtain ⟨q0, q1, q2, q3, q4⟩ := TY.out.a;simp only [Nat.zero_add] at p1 p2 p3 p4 q1 q2 q3 q4;have cM := jmGood hxG.out hxH.out (CMX.out _ _ _ _ _ _ _ _ _ _ _ _ _ hbdG.out TX.out.la TX.out.kt hbdH.out TY.out.la TY.out.kt);go_wp2_with fail
      refine cM.mono ?_;rintro e m29 ⟨⟨am, nm, cm, zm, rfl, hM⟩, hb⟩;replace Q := hideK (Q.out.keep hb);replace HJ := hideK (HJ.out.keep hb);clear hb cM p0 p1 p2 p3 p4 q0 q1 q2 q3 q4 TX TY;have D : DUO g h G H := ⟨hg.gn, hh.gn, by have := hg.le; omega, by have := hh.le; omega, HLG.out.gn, HLH.out.gn, HAG.out, HAH.out⟩
      have HD := hideK D;have HM := hideK hM;clear D;rcases hM.three HLG.out.gn HLH.out.gn with ⟨rfl, rfl, rfl, hN⟩ | ⟨rfl, rfl, rfl⟩ | ⟨rfl, M, hI2, hS2, rfl, hG2⟩
      ·clear hM hN
       go_wp2_with fail
       go_ret
       exact ⟨rfl, Q.out.bl⟩
      ·clear hM
       go_wp2_with fail
       go_ret
       exact ⟨rfl, Q.out.bl⟩
      ·exact (HD.out.no1 HJ.out hI2).elim
   ·clear hJ x0 x1 x2 x3 x4 y0 y1 y2 y3 y4
    go_wp2_with fail
    go_ret
    exact ⟨rfl, Q.out.bl⟩
   ·have hIJ := hideK hI
    have hSJ := hideK hS;have GJ := hideK hG;clear hI hS hG hJ;by_cases hl : J.length ≤ 100
    ·have hlJ := hideK hl
     have hlz : ¬ (100 : Int) < (J.length : Int) := by omega
     clear hl;go_wp2_with fail
     refine (duGood hg (CS.out _ Q.out.bl)).mono ?_;rintro e w30 ⟨⟨G, aG, cG, hL, hA, rfl, hG⟩, hb⟩;replace Q := hideK (Q.out.keep hb);replace HJ := hideK (HJ.out.keep hb);replace GJ := hideK ((GJ.out.keep hb).mono (hb).size);clear hb;clear x0 x1 x2 x3 x4 y0 y1 y2 y3 y4;have HLG := hideK hL;have HAG := hideK hA;have cB := backKeep_any G hL.gn aG cG _ _ hG (Nat.le_refl _);unfold BOPost at cB;clear hL hA hG;go_wp2_with fail
     refine cB.mono ?_;rintro e v31 ⟨hor, hb⟩;replace Q := hideK (Q.out.keep hb);replace HJ := hideK (HJ.out.keep hb);replace GJ := hideK ((GJ.out.keep hb).mono (hb).size);clear hb cB;rcases hor with ⟨hq, t9, al9, cl9, ak9, ck9, rfl⟩ | ⟨hq, alG, clG, akG, ckG, dG, rfl, hd1, hd2, hd3⟩
     ·clear hq
      simp only [tyVal];have hbA : Below v31.heap.size v31 (v31.alloc (.cells #[.int .i64 t9.kind, .int .i64 t9.so, .string t9.name, .slice al9 t9.labels.length cl9, .slice ak9 t9.kids.length ck9] 25)) := (Below.refl _ _).alloc (Nat.le_refl _) _;replace Q := hideK (Q.out.keep hbA);replace HJ := hideK (HJ.out.keep hbA);replace GJ := hideK ((GJ.out.keep hbA).mono (hbA).size);clear hbA;obtain ⟨x0, x1, x2, x3, x4⟩ := Q.out.x;obtain ⟨y0, y1, y2, y3, y4⟩ := Q.out.y;simp only [Nat.zero_add] at x1 x2 x3 x4 y1 y2 y3 y4;go_wp2_with fail
      refine (duGood hh (CT.out _ Q.out.bl)).mono ?_;rintro e w32 ⟨⟨H, aH, cH, hL, hA, rfl, hG⟩, hb⟩;replace Q := hideK (Q.out.keep hb);replace HJ := hideK (HJ.out.keep hb);replace GJ := hideK ((GJ.out.keep hb).mono (hb).size);clear hb;clear x0 x1 x2 x3 x4 y0 y1 y2 y3 y4;have HLH := hideK hL;have HAH := hideK hA;have cB := backKeep_any H hL.gn aH cH _ _ hG (Nat.le_refl _);unfold BOPost at cB;clear hL hA hG;go_wp2_with fail
      refine cB.mono ?_;rintro e v33 ⟨hor, hb⟩;replace Q := hideK (Q.out.keep hb);replace HJ := hideK (HJ.out.keep hb);replace GJ := hideK ((GJ.out.keep hb).mono (hb).size);clear hb cB;rcases hor with ⟨hq, t9, al9, cl9, ak9, ck9, rfl⟩ | ⟨hq, alH, clH, akH, ckH, dH, rfl, hd1, hd2, hd3⟩
      ·clear hq
       simp only [tyVal];have hbA : Below v33.heap.size v33 (v33.alloc (.cells #[.int .i64 t9.kind, .int .i64 t9.so, .string t9.name, .slice al9 t9.labels.length cl9, .slice ak9 t9.kids.length ck9] 25)) := (Below.refl _ _).alloc (Nat.le_refl _) _;replace Q := hideK (Q.out.keep hbA);replace HJ := hideK (HJ.out.keep hbA);replace GJ := hideK ((GJ.out.keep hbA).mono (hbA).size);clear hbA;go_wp2_with fail
       go_ret
       exact ⟨rfl, Q.out.bl⟩
      ·have hxH := hideK (back_of HLH.out hq)
       have hbdH := hideK hd1;have TY := hideK (TXB.new (cl := clH) (ck := ckH) hd2 hd3);have hbA : Below v33.heap.size v33 (v33.alloc (.cells #[.int .i64 (backP H).1.kind, .int .i64 (backP H).1.so, .string (backP H).1.name, .slice alH (backP H).1.labels.length clH, .slice akH (backP H).1.kids.length ckH] 25)) := (Below.refl _ _).alloc (Nat.le_refl _) _;replace Q := hideK (Q.out.keep hbA);replace HJ := hideK (HJ.out.keep hbA);replace GJ := hideK ((GJ.out.keep hbA).mono (hbA).size);clear hbA hd1 hd2 hd3 hq;simp only [tyVal];generalize (backP H).1 = bH at *;go_wp2_with fail
       go_ret
       exact ⟨rfl, Q.out.bl⟩
     ·have hxG := hideK (back_of HLG.out hq)
      have hbdG := hideK hd1;have TX := hideK (TXB.new (cl := clG) (ck := ckG) hd2 hd3);have hbA : Below v31.heap.size v31 (v31.alloc (.cells #[.int .i64 (backP G).1.kind, .int .i64 (backP G).1.so, .string (backP G).1.name, .slice alG (backP G).1.labels.length clG, .slice akG (backP G).1.kids.length ckG] 25)) := (Below.refl _ _).alloc (Nat.le_refl _) _;replace Q := hideK (Q.out.keep hbA);replace HJ := hideK (HJ.out.keep hbA);replace GJ := hideK ((GJ.out.keep hbA).mono (hbA).size);clear hbA hd1 hd2 hd3 hq;simp only [tyVal];generalize (backP G).1 = bG at *;obtain ⟨x0, x1, x2, x3, x4⟩ := Q.out.x;obtain ⟨y0, y1, y2, y3, y4⟩ := Q.out.y;simp only [Nat.zero_add] at x1 x2 x3 x4 y1 y2 y3 y4;go_wp2_with fail
      refine (duGood hh (CT.out _ Q.out.bl)).mono ?_;rintro e w34 ⟨⟨H, aH, cH, hL, hA, rfl, hG⟩, hb⟩;replace Q := hideK (Q.out.keep hb);replace HJ := hideK (HJ.out.keep hb);replace GJ := hideK ((GJ.out.keep hb).mono (hb).size);replace TX := hideK (TX.out.keep hb);clear hb;clear x0 x1 x2 x3 x4 y0 y1 y2 y3 y4;have HLH := hideK hL;have HAH := hideK hA;have cB := backKeep_any H hL.gn aH cH _ _ hG (Nat.le_refl _);unfold BOPost at cB;clear hL hA hG;go_wp2_with fail
      refine cB.mono ?_;rintro e v35 ⟨hor, hb⟩;replace Q := hideK (Q.out.keep hb);replace HJ := hideK (HJ.out.keep hb);replace GJ := hideK ((GJ.out.keep hb).mono (hb).size);replace TX := hideK (TX.out.keep hb);clear hb cB;rcases hor with ⟨hq, t9, al9, cl9, ak9, ck9, rfl⟩ | ⟨hq, alH, clH, akH, ckH, dH, rfl, hd1, hd2, hd3⟩
      ·clear hq
       simp only [tyVal];have hbA : Below v35.heap.size v35 (v35.alloc (.cells #[.int .i64 t9.kind, .int .i64 t9.so, .string t9.name, .slice al9 t9.labels.length cl9, .slice ak9 t9.kids.length ck9] 25)) := (Below.refl _ _).alloc (Nat.le_refl _) _;replace Q := hideK (Q.out.keep hbA);replace HJ := hideK (HJ.out.keep hbA);replace GJ := hideK ((GJ.out.keep hbA).mono (hbA).size);replace TX := hideK (TX.out.keep hbA);clear hbA;go_wp2_with fail
       go_ret
       exact ⟨rfl, Q.out.bl⟩
      ·have hxH := hideK (back_of HLH.out hq)
       have hbdH := hideK hd1;have TY := hideK (TXB.new (cl := clH) (ck := ckH) hd2 hd3);have hbA : Below v35.heap.size v35 (v35.alloc (.cells #[.int .i64 (backP H).1.kind, .int .i64 (backP H).1.so, .string (backP H).1.name, .slice alH (backP H).1.labels.length clH, .slice akH (backP H).1.kids.length ckH] 25)) := (Below.refl _ _).alloc (Nat.le_refl _) _;replace Q := hideK (Q.out.keep hbA);replace HJ := hideK (HJ.out.keep hbA);replace GJ := hideK ((GJ.out.keep hbA).mono (hbA).size);replace TX := hideK (TX.out.keep hbA);clear hbA hd1 hd2 hd3 hq;simp only [tyVal];generalize (backP H).1 = bH at *;obtain ⟨p0, p1, p2, p3, p4⟩ := TX.out.a;obtain ⟨q0, q1, q2, q3, q4⟩ := TY.out.a;simp only [Nat.zero_add] at p1 p2 p3 p4 q1 q2 q3 q4;have cM := jmGood hxG.out hxH.out (CMX.out _ _ _ _ _ _ _ _ _ _ _ _ _ hbdG.out TX.out.la TX.out.kt hbdH.out TY.out.la TY.out.kt);go_wp2_with fail
       refine cM.mono ?_;rintro e m36 ⟨⟨am, nm, cm, zm, rfl, hM⟩, hb⟩;replace Q := hideK (Q.out.keep hb);replace HJ := hideK (HJ.out.keep hb);replace GJ := hideK ((GJ.out.keep hb).mono (hb).size);clear hb cM p0 p1 p2 p3 p4 q0 q1 q2 q3 q4 TX TY;have D : DUO g h G H := ⟨hg.gn, hh.gn, by have := hg.le; omega, by have := hh.le; omega, HLG.out.gn, HLH.out.gn, HAG.out, HAH.out⟩
       have HD := hideK D;have HM := hideK hM;clear D;rcases hM.three HLG.out.gn HLH.out.gn with ⟨rfl, rfl, rfl, hN⟩ | ⟨rfl, rfl, rfl⟩ | ⟨rfl, M, hI2, hS2, rfl, hG2⟩
       ·exact (HD.out.no2 HM.out hIJ.out hlJ.out).elim
       ·clear hM
        go_wp2_with fail
        go_ret
        exact ⟨rfl, Q.out.bl⟩
       ·have HI2 := hideK hI2
        have HS2 := hideK hS2;have GM := hideK hG2;clear hI2 hS2 hG2 hM;go_wp2_with fail
        refine (dgGood J _ _ _ hSJ.out.gn hlJ.out GJ.out).mono ?_;rintro e w37 ⟨⟨E, aE, cE, hL, hA, rfl, hG⟩, hb⟩;replace Q := hideK (Q.out.keep hb);replace GM := hideK ((GM.out.keep hb).mono (hb).size);clear hb;have hEM : M = E := HS2.out.eq hL (alike_symm (fun k => (hA k).trans (HD.out.is HJ.out hIJ.out hlJ.out HI2.out k)))
        subst hEM;have GE := hideK hG;clear hL hA hG;go_wp2_with fail
        refine (eqSelf M _ _ _ _ _ HS2.out.gn GE.out GM.out).mono ?_;rintro e w38 ⟨rfl, hb⟩;replace Q := hideK (Q.out.keep hb);clear hb;go_wp2_with fail
        go_ret
        exact ⟨rfl, Q.out.bl⟩
    ·have hlz : (100 : Int) < (J.length : Int) := by omega
     clear hl;clear x0 x1 x2 x3 x4 y0 y1 y2 y3 y4;go_wp2_with fail
     go_ret
     exact ⟨rfl, Q.out.bl⟩
end Go.Proofs.YtpamhimmdoimoaaGreatDoor
