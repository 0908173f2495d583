/-
  The contract of (*ways.Search).Step, for the places of below.place.
-/
import Derived.Test.YtpamhimmdoimoaaGreatDoorSz
import Derived.Test.YtpamhimmdoimoaaGreatDoorVe
import Derived.Test.YtpamhimmdoimoaaGreatDoorProg
import Derived.Ground.Names2Prog
import Derived.Shelf.Slices.ReverseS
import Derived.Test.YtpamhimmdoimoaaGreatDoorHm
import Derived.Lib.OwnBridge
import Derived.Test.YtpamhimmdoimoaaGreatDoorIj
import Derived.Test.YtpamhimmdoimoaaGreatDoorIi
import Derived.Test.YtpamhimmdoimoaaGreatDoorNe
namespace Go.Proofs.YtpamhimmdoimoaaGreatDoor
end Go.Proofs.YtpamhimmdoimoaaGreatDoor
namespace Go.Proofs
open Go.Shelf
def Tryz.laysNm217_ren : Go.Shelf.Ren := ⟨fun | 17 => 84 | n => n, fun | 24 => 22 | 9 => 9 | 3 => 3 | 4 => 4 | 0 => 0 | n => n, fun | n => n⟩
theorem Tryz.laysNm217 : Go.Proofs.Lays2.n17 Tryz.prog Tryz.laysNm217_ren := {
 mixed := by kernel_rfl
 f17 := Tryz.func84.trans (congrArg some (by kernel_rfl))
 t0 := Tryz.underlying0
 a0 := Tryz.isAgg0
 z0 := Tryz.sizeOf0
 v0 := Tryz.zeroValue0
 t3 := Tryz.underlying3
 a3 := Tryz.isAgg3
 z3 := Tryz.sizeOf3
 v3 := Tryz.zeroValue3
 t4 := Tryz.underlying4
 a4 := Tryz.isAgg4
 z4 := Tryz.sizeOf4
 v4 := Tryz.zeroValue4
 t9 := Tryz.underlying9
 a9 := Tryz.isAgg9
 z9 := Tryz.sizeOf9
 v9 := Tryz.zeroValue9
 t24 := Tryz.underlying22
 a24 := Tryz.isAgg22
 z24 := Tryz.sizeOf22
 v24 := Tryz.zeroValue22 }
end Go.Proofs
namespace Go.Proofs.YtpamhimmdoimoaaGreatDoor
end Go.Proofs.YtpamhimmdoimoaaGreatDoor
namespace Go.Proofs.YtpamhimmdoimoaaGreatDoor
end Go.Proofs.YtpamhimmdoimoaaGreatDoor
namespace Go.Proofs.YtpamhimmdoimoaaGreatDoor
end Go.Proofs.YtpamhimmdoimoaaGreatDoor
namespace Go.Proofs.YtpamhimmdoimoaaGreatDoor
open Go.RowKit Go.Shelf
theorem OFG.uniq {t : Ty} {g h : List Nd} (hg : OFG t g) (hh : OFG t h) : g = h := (hg.same hh).2 rfl
end Go.Proofs.YtpamhimmdoimoaaGreatDoor
namespace Go.Proofs.YtpamhimmdoimoaaGreatDoor
open Go.RowKit Go.Shelf
theorem cls_ex {g : List Nd} (hs : shutG g) : ∃ c, CLS g c := by
 have : ∀ n k c, patG g k c → g.length - cnt c ≤ n → ∃ c, CLS g c := by
  intro n;induction n with
  | zero =>
   intro k c hp hn;by_cases he : (splitG g c).1.length = cnt c
   ·exact ⟨_, cls_done hs hp he⟩
   ·have := cls_more hs hp he; omega
  | succ n ih =>
   intro k c hp hn;by_cases he : (splitG g c).1.length = cnt c
   ·exact ⟨_, cls_done hs hp he⟩
   ·have h1 := cls_more hs hp he
    have h2 := (split_inv g c).cn;exact ih (k + 1) (splitG g c).2 (pat_split hs hp) (by omega)
 exact this _ 0 _ (pat_zero g) (Nat.le_refl _)
theorem OFG_ex {t : Ty} (h : chkTy t = 0) : ∃ g, OFG t g := by
 have hg := lay_gn h;obtain ⟨c, hc⟩ : ∃ c, CLS (layP t [] 0).2 c := cls_ex hg.shut;exact ⟨_, ⟨h, c, hc, rfl⟩⟩
theorem end_chk : chkTy endT = 0 := by
 unfold chkTy;rw [chkT_eq, if_neg (by decide)]
 have hp : partT endT = true := by unfold partT endT; simp
 rw [hp, if_neg (by decide), if_neg (by decide), if_neg (by decide)]
 rfl
theorem end_bd : TyBd endT 0 0 := ⟨by decide, fun l hl => (by cases hl), by decide, by decide, by decide, by decide⟩
structure BX3 (w : World) (s : Ty) (sal : OAd) (scl : Nat) (sak : OAd) (sck : Nat) (t : Ty) (al : OAd) (cl : Nat) (ak : OAd) (ck : Nat) (u : Ty) (ual : OAd) (ucl : Nat) (uak : OAd) (uck : Nat) (W : World) : Prop where
 x : TyAt W w.heap.size 0 s sal scl sak sck
 y : TyAt W (w.heap.size + 1) 0 t al cl ak ck
 z : TyAt W (w.heap.size + 1 + 1) 0 u ual ucl uak uck
 lt : w.heap.size + 1 + 1 < W.heap.size
 bl : Below w.heap.size w W
theorem BX3.keep {w : World} {s : Ty} {sal : OAd} {scl : Nat} {sak : OAd} {sck : Nat} {t : Ty} {al : OAd} {cl : Nat} {ak : OAd} {ck : Nat} {u : Ty} {ual : OAd} {ucl : Nat} {uak : OAd} {uck : Nat} {W W' : World} (h : BX3 w s sal scl sak sck t al cl ak ck u ual ucl uak uck W) (hb : Below W.heap.size W W') : BX3 w s sal scl sak sck t al cl ak ck u ual ucl uak uck W' :=
 ⟨h.x.keep hb (by have := h.lt; omega), h.y.keep hb (by have := h.lt; omega), h.z.keep hb h.lt, Nat.lt_of_lt_of_le h.lt hb.size, h.bl.trans (hb.mono h.bl.size)⟩
theorem BX3.new (w : World) (s : Ty) (sal : OAd) (scl : Nat) (sak : OAd) (sck : Nat) (t : Ty) (al : OAd) (cl : Nat) (ak : OAd) (ck : Nat) (u : Ty) (ual : OAd) (ucl : Nat) (uak : OAd) (uck : Nat) : BX3 w s sal scl sak sck t al cl ak ck u ual ucl uak uck (((w.alloc (.cells #[.int .i64 s.kind, .int .i64 s.so, .string s.name, .slice sal s.labels.length scl, .slice sak s.kids.length sck] 25)).alloc (.cells #[.int .i64 t.kind, .int .i64 t.so, .string t.name, .slice al t.labels.length cl, .slice ak t.kids.length ck] 25)).alloc (.cells #[.int .i64 u.kind, .int .i64 u.so, .string u.name, .slice ual u.labels.length ucl, .slice uak u.kids.length uck] 25)) :=
 ⟨⟨by go_cell, by go_cell, by go_cell, by go_cell, by go_cell⟩, ⟨by go_cell, by go_cell, by go_cell, by go_cell, by go_cell⟩, ⟨by go_cell, by go_cell, by go_cell, by go_cell, by go_cell⟩, by simp, ((((Below.refl _ _).alloc (Nat.le_refl _) _).alloc (by simp) _).alloc (by simp; omega) _)⟩
end Go.Proofs.YtpamhimmdoimoaaGreatDoor
namespace Go.Proofs.YtpamhimmdoimoaaGreatDoor
open Go.RowKit Go.Shelf
def LSTG (L : List Nd) : Prop := ∃ M c, GN M ∧ CLS M c ∧ L = leastG M c
theorem LSTG.gn {L : List Nd} (h : LSTG L) : GN L := by
 obtain ⟨M, c, hM, hc, rfl⟩ := h;exact (least_gn hM hc).1
theorem OFG.lst {t : Ty} {g : List Nd} (h : OFG t g) : LSTG g := by
 obtain ⟨c, hc, e⟩ := h.src;exact ⟨_, c, lay_gn h.chk, hc, e⟩
theorem LSTG.eq {L M : List Nd} (hL : LSTG L) (hM : LSTG M) (e : alikeG L M 0 0) : L = M := by
 obtain ⟨A, c, hA, hc, rfl⟩ := hL;obtain ⟨B, d, hB, hd, rfl⟩ := hM;refine least_canon ⟨hA.shut, hB.shut, hc, hd⟩ hA.pos hB.pos fun k => ?_
 rw [← (least_gn hA hc).2.1 k, ← (least_gn hB hd).2.1 k];exact e k
def BDR (g h : List Nd) (t : Bool) (n : Nat) (a : OAd) (z : Int) (w' : World) : Prop :=
 ∃ ps al, BND g h (0, 0, t) ps al ∧ ((al (0, 0, t) = false ∧ a = none ∧ n = 0 ∧ z = 8) ∨ ∃ Q, RCH g h (0, 0, t) ps al Q ∧ ((200 < Q.length ∧ a = none ∧ n = 0 ∧ z = 2) ∨ (Q.length ≤ 200 ∧ z = 0 ∧ ∃ L, isBnd g h t L ∧ LSTG L ∧ n = L.length ∧ GAt w' w'.heap.size L a)))
theorem BDPost.bdr {g h : List Nd} (hg : GN g) (hh : GN h) {t : Bool} {w w' : World} {e : Ending} (H : BDPost g h t w e w') : (∃ a n c z, e = .returned (.tuple #[.slice a n c, .int .i64 z]) ∧ BDR g h t n a z w') ∧ Below w.heap.size w w' := by
 obtain ⟨hb, ps, al, B, H⟩ := H;refine ⟨?_, hb⟩;rcases H with ⟨h1, h2⟩ | ⟨Q, R, ⟨h1, h2⟩ | ⟨h1, c, hc, ao, co, h2, h3⟩⟩
 ·exact ⟨none, 0, 0, 8, h2, ps, al, B, .inl ⟨h1, rfl, rfl, rfl⟩⟩
 ·exact ⟨none, 0, 0, 2, h2, ps, al, B, .inr ⟨Q, R, .inl ⟨h1, rfl, rfl, rfl⟩⟩⟩
 ·have hI := bnd_is hg hh B R h1
  obtain ⟨l1, l2, _⟩ := least_gn hI.gn hc;exact ⟨ao, _, co, 0, h2, ps, al, B, .inr ⟨Q, R, .inr ⟨h1, rfl, _, hI.alike l1 (alike_symm l2), ⟨_, c, hI.gn, hc, rfl⟩, rfl, h3⟩⟩⟩
theorem BDR.keep {g h : List Nd} {t : Bool} {n : Nat} {a : OAd} {z : Int} {W W' : World} (H : BDR g h t n a z W) (hb : Below W.heap.size W W') : BDR g h t n a z W' := by
 obtain ⟨ps, al, B, H⟩ := H;refine ⟨ps, al, B, H.imp id fun ⟨Q, R, H⟩ => ⟨Q, R, H.imp id fun ⟨h1, h2, L, h3, h4, h5, h6⟩ => ⟨h1, h2, L, h3, h4, h5, (h6.keep hb).mono hb.size⟩⟩⟩
theorem BDR.three {g h : List Nd} (hg : GN g) (hh : GN h) {t : Bool} {n : Nat} {a : OAd} {z : Int} {w' : World} (H : BDR g h t n a z w') : (z = 8 ∧ n = 0 ∧ a = none ∧ noBnd g h t) ∨ (z = 2 ∧ n = 0 ∧ a = none) ∨ (z = 0 ∧ ∃ L, isBnd g h t L ∧ LSTG L ∧ n = L.length ∧ GAt w' w'.heap.size L a) := by
 obtain ⟨ps, al, B, ⟨h1, h2, h3, h4⟩ | ⟨Q, R, ⟨h1, h2, h3, h4⟩ | ⟨h1, h2, h3⟩⟩⟩ := H
 ·exact .inl ⟨h4, h3, h2, bnd_no hg hh B h1⟩
 ·exact .inr (.inl ⟨h4, h3, h2⟩)
 ·exact .inr (.inr ⟨h2, h3⟩)
theorem BDR.turn {g h : List Nd} (hg : GN g) (hh : GN h) {t : Bool} {n m : Nat} {a b : OAd} {z y : Int} {w1 w2 : World} (H : BDR g h t n a z w1) (K : BDR h g t m b y w2) : z = y := by
 obtain ⟨ps, al, B, H⟩ := H;obtain ⟨qs, bl', C, K⟩ := K;have hsame := al_same hg hh B C (p := (0, 0, t)) B.p0 C.p0;have e0 : swZ (0, 0, t) = (0, 0, t) := rfl;rw [e0] at hsame;rcases H with ⟨h1, h2, h3, h4⟩ | ⟨Q, R, H⟩
 ·rcases K with ⟨k1, k2, k3, k4⟩ | ⟨Q', R', K⟩
  ·rw [h4, k4]
  ·have := R'.lv _ (List.mem_of_getElem? R'.hd)
   rw [hsame, h1] at this;cases this
 ·rcases K with ⟨k1, k2, k3, k4⟩ | ⟨Q', R', K⟩
  ·have := R.lv _ (List.mem_of_getElem? R.hd)
   rw [← hsame, k1] at this;cases this
  ·have l1 := rch_turn hg hh B C R R'
   have l2 := rch_turn hh hg C B R' R;rcases H with ⟨h1, _, _, h4⟩ | ⟨h1, h4, _⟩ <;> rcases K with ⟨k1, _, _, k4⟩ | ⟨k1, k4, _⟩
   ·rw [h4, k4]
   ·omega
   ·omega
   ·rw [h4, k4]
theorem BDR.self {g : List Nd} (hg : LSTG g) (hl : g.length ≤ 100) {t : Bool} {n : Nat} {a : OAd} {z : Int} {w' : World} (H : BDR g g t n a z w') : z = 0 ∧ n = g.length ∧ GAt w' w'.heap.size g a := by
 obtain ⟨ps, al, B, ⟨h1, h2, h3, h4⟩ | ⟨Q, R, ⟨h1, h2, h3, h4⟩ | ⟨h1, h2, L, hI, hS, hn, hG⟩⟩⟩ := H
 ·exact absurd (bnd_no hg.gn hg.gn B h1) (isBnd_self hg.gn t).there
 ·have := rch_diag hg.gn B R
  omega
 ·have := hS.eq hg (hI.uniq (isBnd_self hg.gn t))
  subst this;exact ⟨h2, hn, hG⟩
def JMPost (s t : Ty) (m : Bool) (w : World) (e : Ending) (w' : World) : Prop :=
 ((chkTy s ≠ 0 ∧ e = .returned (.tuple #[.slice none 0 0, .int .i64 (chkTy s)])) ∨ (chkTy s = 0 ∧ chkTy t ≠ 0 ∧ e = .returned (.tuple #[.slice none 0 0, .int .i64 (chkTy t)])) ∨
  (∃ g h, OFG s g ∧ OFG t h ∧ ∃ a n c z, e = .returned (.tuple #[.slice a n c, .int .i64 z]) ∧ BDR g h m n a z w')) ∧ Below w.heap.size w w'
set_option maxRecDepth 100000 in
set_option maxHeartbeats 4000000 in
theorem join_any (ds dt : Nat) (s t : Ty) (sal : OAd) (scl : Nat) (sak : OAd) (sck : Nat) (al : OAd) (cl : Nat) (ak : OAd) (ck : Nat) (w : World) (hs1 : TyBd s scl sck) (hs2 : LA w w.heap.size s.labels sal) (hs3 : KT w w.heap.size ds s.kids sak) (ht1 : TyBd t cl ck) (ht2 : LA w w.heap.size t.labels al) (ht3 : KT w w.heap.size dt t.kids ak) :
  Calls Tryz.prog 7 #[tyVal s sal scl sak sck, tyVal t al cl ak ck] w (JMPost s t false w) := by
 unfold JMPost;have hA : Below w.heap.size w ((w.alloc (.cells #[.int .i64 s.kind, .int .i64 s.so, .string s.name, .slice sal s.labels.length scl, .slice sak s.kids.length sck] 25)).alloc (.cells #[.int .i64 t.kind, .int .i64 t.so, .string t.name, .slice al t.labels.length cl, .slice ak t.kids.length ck] 25)) := ((Below.refl _ _).alloc (Nat.le_refl _) _).alloc (by simp) _
 have hsz : ((w.alloc (.cells #[.int .i64 s.kind, .int .i64 s.so, .string s.name, .slice sal s.labels.length scl, .slice sak s.kids.length sck] 25)).alloc (.cells #[.int .i64 t.kind, .int .i64 t.so, .string t.name, .slice al t.labels.length cl, .slice ak t.kids.length ck] 25)).heap.size = w.heap.size + 1 + 1 := by simp
 have bs : TyAt ((w.alloc (.cells #[.int .i64 s.kind, .int .i64 s.so, .string s.name, .slice sal s.labels.length scl, .slice sak s.kids.length sck] 25)).alloc (.cells #[.int .i64 t.kind, .int .i64 t.so, .string t.name, .slice al t.labels.length cl, .slice ak t.kids.length ck] 25)) w.heap.size 0 s sal scl sak sck := ⟨by go_cell, by go_cell, by go_cell, by go_cell, by go_cell⟩
 have bt : TyAt ((w.alloc (.cells #[.int .i64 s.kind, .int .i64 s.so, .string s.name, .slice sal s.labels.length scl, .slice sak s.kids.length sck] 25)).alloc (.cells #[.int .i64 t.kind, .int .i64 t.so, .string t.name, .slice al t.labels.length cl, .slice ak t.kids.length ck] 25)) (w.heap.size + 1) 0 t al cl ak ck := ⟨by go_cell, by go_cell, by go_cell, by go_cell, by go_cell⟩
 have cG := graphsOf_any ds dt s t sal scl sak sck al cl ak ck ((w.alloc (.cells #[.int .i64 s.kind, .int .i64 s.so, .string s.name, .slice sal s.labels.length scl, .slice sak s.kids.length sck] 25)).alloc (.cells #[.int .i64 t.kind, .int .i64 t.so, .string t.name, .slice al t.labels.length cl, .slice ak t.kids.length ck] 25)) hs1 ((hs2.keep hA).mono hA.size) ((hs3.keep hA).mono hA.size) ht1 ((ht2.keep hA).mono hA.size) ((ht3.keep hA).mono hA.size);have HA := hideK hA;simp only [tyVal] at cG ⊢;unfold GOPost at cG;obtain ⟨y0, y1, y2, y3, y4⟩ := bt;obtain ⟨x0, x1, x2, x3, x4⟩ := bs;simp only [Nat.zero_add] at x1 x2 x3 x4 y1 y2 y3 y4;clear hs1 hs2 hs3 ht1 ht2 ht3 hA hsz;go_enter Tryz.func7, Tryz.ntmps7
 go_wp2_with fail
 refine cG.mono ?_;rintro e w1 ⟨hor, hb1⟩;have HB1 := hideK (HA.out.trans (hb1.mono HA.out.size));clear x0 x1 x2 x3 x4 y0 y1 y2 y3 y4 hb1 cG;rcases hor with ⟨hz, rfl⟩ | ⟨hz0, hz, rfl⟩ | ⟨g, h, ag, ah, cg, ch, hof, hof2, rfl, hga, hha⟩
 ·have hzb : (chkTy s != 0) = true := by simpa using hz
  have HZ := hideK hz;clear hz;go_wp2_with fail
  go_ret2
  exact ⟨.inl ⟨HZ.out, rfl⟩, HB1.out⟩
 ·have hzb : (chkTy t != 0) = true := by simpa using hz
  have HZ := hideK hz;have HZ0 := hideK hz0;clear hz hz0;go_wp2_with fail
  go_ret2
  exact ⟨.inr (.inl ⟨HZ0.out, HZ.out, rfl⟩), HB1.out⟩
 ·have cF := bound_any g h ag ah cg ch w1.heap.size false w1 hof.gn hof2.gn hga hha (Nat.le_refl _)
  have HOF := hideK hof;have HOF2 := hideK hof2;clear hga hha hof hof2;go_wp2_with fail
  refine cF.mono ?_;intro e w2 hPost;obtain ⟨⟨a, n, c, z, rfl, hR⟩, hb2⟩ := hPost.bdr HOF.out.gn HOF2.out.gn;have HR := hideK hR;have HB2 := hideK (HB1.out.trans (hb2.mono HB1.out.size));clear cF hPost hR hb2;go_wp2_with fail
  go_ret2
  exact ⟨.inr (.inr ⟨g, h, HOF.out, HOF2.out, a, n, c, z, rfl, HR.out⟩), HB2.out⟩
set_option maxRecDepth 100000 in
set_option maxHeartbeats 4000000 in
theorem meet_any (ds dt : Nat) (s t : Ty) (sal : OAd) (scl : Nat) (sak : OAd) (sck : Nat) (al : OAd) (cl : Nat) (ak : OAd) (ck : Nat) (w : World) (hs1 : TyBd s scl sck) (hs2 : LA w w.heap.size s.labels sal) (hs3 : KT w w.heap.size ds s.kids sak) (ht1 : TyBd t cl ck) (ht2 : LA w w.heap.size t.labels al) (ht3 : KT w w.heap.size dt t.kids ak) :
  Calls Tryz.prog 6 #[tyVal s sal scl sak sck, tyVal t al cl ak ck] w (JMPost s t true w) := by
 unfold JMPost;have hA : Below w.heap.size w ((w.alloc (.cells #[.int .i64 s.kind, .int .i64 s.so, .string s.name, .slice sal s.labels.length scl, .slice sak s.kids.length sck] 25)).alloc (.cells #[.int .i64 t.kind, .int .i64 t.so, .string t.name, .slice al t.labels.length cl, .slice ak t.kids.length ck] 25)) := ((Below.refl _ _).alloc (Nat.le_refl _) _).alloc (by simp) _
 have hsz : ((w.alloc (.cells #[.int .i64 s.kind, .int .i64 s.so, .string s.name, .slice sal s.labels.length scl, .slice sak s.kids.length sck] 25)).alloc (.cells #[.int .i64 t.kind, .int .i64 t.so, .string t.name, .slice al t.labels.length cl, .slice ak t.kids.length ck] 25)).heap.size = w.heap.size + 1 + 1 := by simp
 have bs : TyAt ((w.alloc (.cells #[.int .i64 s.kind, .int .i64 s.so, .string s.name, .slice sal s.labels.length scl, .slice sak s.kids.length sck] 25)).alloc (.cells #[.int .i64 t.kind, .int .i64 t.so, .string t.name, .slice al t.labels.length cl, .slice ak t.kids.length ck] 25)) w.heap.size 0 s sal scl sak sck := ⟨by go_cell, by go_cell, by go_cell, by go_cell, by go_cell⟩
 have bt : TyAt ((w.alloc (.cells #[.int .i64 s.kind, .int .i64 s.so, .string s.name, .slice sal s.labels.length scl, .slice sak s.kids.length sck] 25)).alloc (.cells #[.int .i64 t.kind, .int .i64 t.so, .string t.name, .slice al t.labels.length cl, .slice ak t.kids.length ck] 25)) (w.heap.size + 1) 0 t al cl ak ck := ⟨by go_cell, by go_cell, by go_cell, by go_cell, by go_cell⟩
 have cG := graphsOf_any ds dt s t sal scl sak sck al cl ak ck ((w.alloc (.cells #[.int .i64 s.kind, .int .i64 s.so, .string s.name, .slice sal s.labels.length scl, .slice sak s.kids.length sck] 25)).alloc (.cells #[.int .i64 t.kind, .int .i64 t.so, .string t.name, .slice al t.labels.length cl, .slice ak t.kids.length ck] 25)) hs1 ((hs2.keep hA).mono hA.size) ((hs3.keep hA).mono hA.size) ht1 ((ht2.keep hA).mono hA.size) ((ht3.keep hA).mono hA.size);have HA := hideK hA;simp only [tyVal] at cG ⊢;unfold GOPost at cG;obtain ⟨y0, y1, y2, y3, y4⟩ := bt;obtain ⟨x0, x1, x2, x3, x4⟩ := bs;simp only [Nat.zero_add] at x1 x2 x3 x4 y1 y2 y3 y4;clear hs1 hs2 hs3 ht1 ht2 ht3 hA hsz;go_enter Tryz.func6, Tryz.ntmps6
 go_wp2_with fail
 refine cG.mono ?_;rintro e w1 ⟨hor, hb1⟩;have HB1 := hideK (HA.out.trans (hb1.mono HA.out.size));clear x0 x1 x2 x3 x4 y0 y1 y2 y3 y4 hb1 cG;rcases hor with ⟨hz, rfl⟩ | ⟨hz0, hz, rfl⟩ | ⟨g, h, ag, ah, cg, ch, hof, hof2, rfl, hga, hha⟩
 ·have hzb : (chkTy s != 0) = true := by simpa using hz
  have HZ := hideK hz;clear hz;go_wp2_with fail
  go_ret2
  exact ⟨.inl ⟨HZ.out, rfl⟩, HB1.out⟩
 ·have hzb : (chkTy t != 0) = true := by simpa using hz
  have HZ := hideK hz;have HZ0 := hideK hz0;clear hz hz0;go_wp2_with fail
  go_ret2
  exact ⟨.inr (.inl ⟨HZ0.out, HZ.out, rfl⟩), HB1.out⟩
 ·have cF := bound_any g h ag ah cg ch w1.heap.size true w1 hof.gn hof2.gn hga hha (Nat.le_refl _)
  have HOF := hideK hof;have HOF2 := hideK hof2;clear hga hha hof hof2;go_wp2_with fail
  refine cF.mono ?_;intro e w2 hPost;obtain ⟨⟨a, n, c, z, rfl, hR⟩, hb2⟩ := hPost.bdr HOF.out.gn HOF2.out.gn;have HR := hideK hR;have HB2 := hideK (HB1.out.trans (hb2.mono HB1.out.size));clear cF hPost hR hb2;go_wp2_with fail
  go_ret2
  exact ⟨.inr (.inr ⟨g, h, HOF.out, HOF2.out, a, n, c, z, rfl, HR.out⟩), HB2.out⟩
theorem jmGood {s t : Ty} {m : Bool} {f : FuncId} {w : World} {g h : List Nd} (hs : OFG s g) (ht : OFG t h) {args : Array Value} (c : Calls Tryz.prog f args w (JMPost s t m w)) : Calls Tryz.prog f args w fun e w' => (∃ a n c z, e = .returned (.tuple #[.slice a n c, .int .i64 z]) ∧ BDR g h m n a z w') ∧ Below w.heap.size w w' := by
 refine c.mono ?_;rintro e w' ⟨q | q | q, hb⟩
 ·exact absurd hs.chk q.1
 ·exact absurd ht.chk q.2.1
 ·obtain ⟨g', h', hg, hh, a, n, c, z, e, hR⟩ := q
  rw [hg.uniq hs, hh.uniq ht] at hR;exact ⟨⟨a, n, c, z, e, hR⟩, hb⟩
theorem jmBad {s t : Ty} {m : Bool} {f : FuncId} {w : World} (hz : chkTy s ≠ 0 ∨ chkTy t ≠ 0) {args : Array Value} (c : Calls Tryz.prog f args w (JMPost s t m w)) : Calls Tryz.prog f args w fun e w' => (∃ z : Int, z ≠ 0 ∧ z = (if chkTy s ≠ 0 then chkTy s else chkTy t) ∧ e = .returned (.tuple #[.slice none 0 0, .int .i64 z])) ∧ Below w.heap.size w w' := by
 refine c.mono ?_;rintro e w' ⟨q | q | q, hb⟩
 ·exact ⟨⟨_, q.1, (by rw [if_pos q.1]), q.2⟩, hb⟩
 ·exact ⟨⟨_, q.2.1, (by rw [if_neg (fun x => x q.1)]), q.2.2⟩, hb⟩
 ·obtain ⟨g, h', hg, hh, _⟩ := q
  rcases hz with q | q
  ·exact absurd hg.chk q
  ·exact absurd hh.chk q
theorem endG_len {g : List Nd} (h : OFG endT g) : g.length = 1 := by
 have h1 := h.gn.pos;obtain ⟨c, hc, e⟩ := h.src;have h2 := (least_gn (lay_gn h.chk) hc).2.2;rw [← e] at h2;have h3 := lay_size endT (chkTy_good endT h.chk).1 [] 0;have h4 : sizeT endT = 1 := by unfold endT; rw [sizeT]; rfl
 omega
theorem joinEnd (w : World) : Calls Tryz.prog 7 #[.agg #[.int .i64 1, .int .i64 0, .string ⟨#[]⟩, .slice none 0 0, .slice none 0 0], .agg #[.int .i64 1, .int .i64 0, .string ⟨#[]⟩, .slice none 0 0, .slice none 0 0]] w fun e w' => (∃ a c, e = .returned (.tuple #[.slice a 1 c, .int .i64 0])) ∧ Below w.heap.size w w' := by
 obtain ⟨g, hg⟩ := OFG_ex end_chk;have c := jmGood hg hg (join_any 0 0 endT endT none 0 none 0 none 0 none 0 w end_bd (.inl rfl) rfl end_bd (.inl rfl) rfl);refine c.mono ?_;rintro e w' ⟨⟨a, n, c, z, rfl, hR⟩, hb⟩;obtain ⟨rfl, rfl, _⟩ := hR.self hg.lst (by have := hg.le; omega)
 rw [endG_len hg];exact ⟨⟨a, c, rfl⟩, hb⟩
theorem meetEnd (w : World) : Calls Tryz.prog 6 #[.agg #[.int .i64 1, .int .i64 0, .string ⟨#[]⟩, .slice none 0 0, .slice none 0 0], .agg #[.int .i64 1, .int .i64 0, .string ⟨#[]⟩, .slice none 0 0, .slice none 0 0]] w fun e w' => (∃ a c, e = .returned (.tuple #[.slice a 1 c, .int .i64 0])) ∧ Below w.heap.size w w' := by
 obtain ⟨g, hg⟩ := OFG_ex end_chk;have c := jmGood hg hg (meet_any 0 0 endT endT none 0 none 0 none 0 none 0 w end_bd (.inl rfl) rfl end_bd (.inl rfl) rfl);refine c.mono ?_;rintro e w' ⟨⟨a, n, c, z, rfl, hR⟩, hb⟩;obtain ⟨rfl, rfl, _⟩ := hR.self hg.lst (by have := hg.le; omega)
 rw [endG_len hg];exact ⟨⟨a, c, rfl⟩, hb⟩
end Go.Proofs.YtpamhimmdoimoaaGreatDoor
