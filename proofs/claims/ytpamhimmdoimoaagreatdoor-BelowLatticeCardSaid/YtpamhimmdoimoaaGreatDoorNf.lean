/-
  The contract of below.bound: Join and Meet of two graphs.
-/
import Derived.Test.YtpamhimmdoimoaaGreatDoorSz
import Derived.Test.YtpamhimmdoimoaaGreatDoorJb
import Derived.Test.YtpamhimmdoimoaaGreatDoorZo
import Derived.Test.YtpamhimmdoimoaaGreatDoorVe
import Derived.Test.YtpamhimmdoimoaaGreatDoorProg
import Derived.Ground.Names2Prog
import Derived.Shelf.Slices.ReverseS
import Derived.Test.YtpamhimmdoimoaaGreatDoorHm
import Derived.Lib.OwnBridge
import Derived.Test.YtpamhimmdoimoaaGreatDoorIj
import Derived.Test.YtpamhimmdoimoaaGreatDoorIi
namespace Go.Proofs.YtpamhimmdoimoaaGreatDoor
open Go.RowKit Go.Shelf
theorem checkLarge_any (n c : Nat) (a : OAd) (w : World) (hn : 200 < n) (hN : n ≤ 1000000) :
  Calls Tryz.prog 18 #[.slice a n c] w fun e w' => e = .returned (.int .i64 2) ∧ Below w.heap.size w w' := by
 have hz0 : ((n : Int) == 0) = false := by rw [beq_eq_false_iff_ne]; omega
 have hz1 : (200 : Int) < (n : Int) := by omega
 go_enter Tryz.func18, Tryz.ntmps18
 go_wp2_with fail
 go_ret
 exact ⟨rfl, Below.refl _ _⟩
theorem leastLarge_any (n c : Nat) (a : OAd) (w : World) (hn : 200 < n) (hN : n ≤ 1000000) :
  Calls Tryz.prog 19 #[.slice a n c] w fun e w' => e = .returned (.tuple #[.slice none 0 0, .int .i64 2]) ∧ Below w.heap.size w w' := by
 have c1 := checkLarge_any n c a w hn hN;go_enter Tryz.func19, Tryz.ntmps19
 go_wp2_with fail
 refine c1.mono ?_;rintro e w1 ⟨rfl, hb1⟩;have HB := hideK hb1;clear c1 hb1;go_wp2_with fail
 go_ret2
 exact ⟨rfl, HB.out⟩
theorem BL.drew {g h : List Nd} {w0 : World} {db mb : Nat} {ca cb : Value} {p0 : Pz} {ps : List Pz} {ts : List Dk} {u ud : Value} {W : World} (L : BL g h w0 db mb ca cb p0 ps ts u ud W) : BL g h w0 db mb ca cb p0 ps ts u ud W.drew :=
 ⟨L.z.kept (Below.refl _ _).drew, L.di, own_belowG L.own (Below.refl _ _).drew, L.ne, L.ok.keep (fun _ _ _ => rfl) (fun _ h => h), L.nd, L.sp, L.nb⟩
def BDPost (g h : List Nd) (t : Bool) (w : World) (e : Ending) (w' : World) : Prop :=
 Below w.heap.size w w' ∧ ∃ ps al, BND g h (0, 0, t) ps al ∧ ((al (0, 0, t) = false ∧ e = .returned (.tuple #[.slice none 0 0, .int .i64 8])) ∨
  ∃ Q, RCH g h (0, 0, t) ps al Q ∧ ((200 < Q.length ∧ e = .returned (.tuple #[.slice none 0 0, .int .i64 2])) ∨ (Q.length ≤ 200 ∧ ∃ c, CLS (lfG g h al Q) c ∧ ∃ ao co, e = .returned (.tuple #[.slice ao (leastG (lfG g h al Q) c).length co, .int .i64 0]) ∧ GAt w' w'.heap.size (leastG (lfG g h al Q) c) ao)))
set_option maxRecDepth 100000 in
set_option maxHeartbeats 8000000 in
theorem bound_any (g h : List Nd) (ag ah : OAd) (cg ch B : Nat) (t : Bool) (w : World) (hg : GN g) (hh : GN h) (hga : GAt w B g ag) (hha : GAt w B h ah) (hB : B ≤ w.heap.size) :
  Calls Tryz.prog 16 #[.slice ag g.length cg, .slice ah h.length ch, .bool t] w (BDPost g h t w) := by
 unfold BDPost;obtain ⟨i1, hj, hy0, hy1, hy2⟩ := info_parts infoDr;have hmm : ∀ w : World, (Instr.makeMap 62 none).run Tryz.prog w = .ok (.map (some w.heap.size)) (w.alloc (.map #[] 0)) := fun w => rfl
 have HZ0 := hideK (ZW.start w (.slice ag g.length cg) (.slice ah h.length ch));have c0 := numberZ_any w (w.heap.size + 1) w.heap.size (.slice ag g.length cg) (.slice ah h.length ch) (.slice none 0 0) [] (.slice none 0 0) (0, 0, t) _ HZ0.out (by simp) (by simp) (fun q hq => by cases hq) (by unfold smPz; simp)
 have HGG := hideK (And.intro hg (And.intro hh (And.intro hga hha)));clear hga hha hg hh;simp only [pkZ] at c0;go_enter Tryz.func16, Tryz.ntmps16
 go_wp2_with fail
 refine c0.mono ?_;rintro e w2 ⟨rfl, u', hz2, -, -⟩;have ea : addZ [] ((0, 0, t) : Pz) = [(0, 0, t)] := by simp [addZ]
 rw [ea] at hz2;have HL0 := hideK (BL.start HGG.out.1 HGG.out.2.1 hz2);clear c0 hz2 HZ0 ea hmm;go_wp2_with fail
 generalize hdb : w.heap.size + 1 = db at *;generalize hmb : w.heap.size = mb at HL0;clear hdb hmb;go_loopg [] 80803 (fun m wr => ∃ (ps : List Pz) (ts : List Dk) (u ud : Value), m + ts.length = 80803 ∧ BL g h w db mb (.slice ag g.length cg) (.slice ah h.length ch) (0, 0, t) ps ts u ud wr)
 case atStart => exact ⟨_, [], _, _, rfl, HL0.out⟩
 case round =>
  obtain ⟨ps, ts, u, ud, hm, hL⟩ := hrel;clear HL0;obtain ⟨ua, uc, hu⟩ := sliceH_own hL.z.own;obtain ⟨da, dc, hud⟩ := sliceH_own hL.own;subst hu hud;have hsm := hL.di.small HGG.out.1 HGG.out.2.1;have hle := hL.di.le;have c3 := hL.z.c3;have c4 := hL.z.c4;by_cases hlt : ts.length < ps.length
  ·have hltz : (ts.length : Int) < (ps.length : Int) := by omega
   have htz : (ts.length : Int) ≤ 100000 := by omega
   obtain ⟨gu, cp, eu, hgB, hgl, hcc⟩ := (own_cells hL.z.own).resolve_left (fun h => by have := h.2.1; omega)
   injection eu with eu1 eu3 eu2
   clear eu3;subst eu1 eu2;have k0 := hcc (ts.length * 3 + 0) _ (by rw [pvZ_at ps _ hlt 0 (by omega)]; rfl)
   have k1 := hcc (ts.length * 3 + 1) _ (by rw [pvZ_at ps _ hlt 1 (by omega)]; rfl)
   have k2 := hcc (ts.length * 3 + 2) _ (by rw [pvZ_at ps _ hlt 2 (by omega)]; rfl)
   simp only [Nat.add_zero] at k0;have o := hL.di.ok _ (List.getElem_mem hlt);have HNX := hideK (nxt_ok HGG.out.1 HGG.out.2.1 o);have HL := hideK hL.drew;have c := draftAt_any g h ag ah cg ch B w db mb (.slice da ts.length dc) ps (.slice (some ⟨gu, 0, none⟩) ps.length uc) ps[ts.length] wr.drew HL.out.z hB HGG.out.2.2.1 HGG.out.2.2.2 HGG.out.1 HGG.out.2.1 o (fun i => ps_of HGG.out.1.le HGG.out.2.1.le (foldZ_nd _ hL.di.nd) fun q hq => (foldZ_sub _ _ q hq).elim (hL.di.ok q) fun hq => HNX.out q (List.mem_of_mem_take hq)) (fun q hq => (HNX.out q hq).sm HGG.out.1.le HGG.out.2.1.le)
   unfold DPost at c;have HSTEP := hideK (fun (u' : Value) (w5 w7 : World) (ob : Obj) (v7 : Value) (al : OAd) (cl : Nat) (at1 : OAd) (ct : Nat) => BL.step (B := B) (u' := u') (w5 := w5) (w7 := w7) (ob := ob) (v7 := v7) (al := al) (cl := cl) (at1 := at1) (ct := ct) HGG.out.1 HGG.out.2.1 hB HL.out hlt)
   have HOW := hideK (fun (w5 : World) (hr : RF mb db (Value.slice (some ⟨gu, 0, none⟩) ps.length uc).ownBlock wr.drew w5) => own_other HL.out.own fun b hb hl => hr.block b hl (HL.out.ne b hb).2.1 (HL.out.ne b hb).1 (fun e => (HL.out.ne b hb).2.2 e.symm))
   have HDN := hideK (show some db ≠ (Value.slice da ts.length dc).ownBlock from fun e => (HL.out.ne db e.symm).1 rfl)
   clear hL hcc o;generalize ps[ts.length] = p at *;obtain ⟨pa, pb, pt⟩ := p;simp only [pkZ] at c;simp only at k0 k1 k2;go_wp2_with fail
   refine wp_region_upto (fun W : World => W.cell? ⟨db, 4, none⟩ = some (.slice da ts.length dc)) 13 (by kernel_rfl) (HL.out.z.c4) (fun hS => ?_)
   refine tkU 0 (.pointer (some ⟨db, 4, none⟩)) hS ?_;simp only [Act.put, sA, sB, sC];refine tkU 1 (.slice da ts.length dc) hS ?_ (hy := Or.inl ⟨by rfl, fun W hW => by have x0 := hW; go_simp⟩)
   simp only [Act.put, sA, sB, sC];refine tkU 2 (.pointer (some ⟨db, 3, none⟩)) hS ?_;simp only [Act.put, sA, sB, sC];refine tkU 4 (.pointer (some ⟨db, 4, none⟩)) hS ?_;simp only [Act.put, sA, sB, sC];refine tkU 5 (.slice da ts.length dc) hS ?_ (hy := Or.inl ⟨by rfl, fun W hW => by have x0 := hW; go_simp⟩)
   simp only [Act.put, sA, sB, sC];refine tkU 6 (.int .i64 (ts.length : Int)) hS ?_;simp only [Act.put, sA, sB, sC];refine onU 3 (fun K hK => ?_)
   go_simp
   have hSn := hS;refine hK.out _ _ hSn ?_;clear hS hK K hSn;intro hS;try simp only [Act.put, sA, sB, sC]
   refine onU 7 (fun K hK => ?_)
   go_simp
   have hSn := hS;refine hK.out _ _ hSn ?_;clear hS hK K hSn;intro hS;try simp only [Act.put, sA, sB, sC]
   refine onU 8 (fun K hK => ?_)
   go_simp
   have hSn := hS;refine hK.out _ _ hSn ?_;clear hS hK K hSn;intro hS;try simp only [Act.put, sA, sB, sC]
   refine onU 9 (fun K hK => ?_)
   go_simp
   refine c.mono ?_;rintro e w5 ⟨u', al, cl, at1, ct, rfl, hz5, hr5, hf5, hl5, hn5⟩;have HP5 := hideK (And.intro hz5 (And.intro hr5 (And.intro hf5 (And.intro hl5 hn5))));have HS5 := hideK (fun (W : World) (hb : Below w5.heap.size w5 W) => show W.cell? ⟨db, 4, none⟩ = some (.slice da ts.length dc) from (hb.cell (p := ⟨db, 4, none⟩) hz5.ls).trans hz5.c4)
   have hsz5 : w.heap.size ≤ w5.heap.size := hz5.bl.size;clear hz5 hr5 hf5 hl5 hn5 c;simp only [dVal];have hSn := HS5.out w5 (Below.refl _ _);refine hK.out _ _ hSn ?_;clear hS hK K hSn;intro hS;try simp only [Act.put, sA, sB, sC]
   have OB := hideK (HOW.out w5 HP5.out.2.1);clear k0 k1 k2 c3;generalize drP g h (pa, pb, pt) = d at *;have hb6 : Below w5.heap.size w5 (w5.alloc (.cells #[.int .i64 d.kind, .int .i64 d.so, .slice al d.labs.length cl, .slice at1 (nums ps d.nxt).length ct, .int .i64 d.spare, .slice none 0 0] 71)) := (Below.refl _ _).alloc (Nat.le_refl _) _;refine onU 10 (fun K hK => ?_)
   go_simp
   have hSn := HS5.out _ hb6;refine hK.out _ _ hSn ?_;clear hS hK K hSn;intro hS;try simp only [Act.put, sA, sB, sC]
   have OB6 := hideK (own_belowG OB.out hb6);have LB6 := hideK (World.ownsRow_lit (base := w.heap.size) (e := 71) (size := 6) w5 #[.int .i64 d.kind, .int .i64 d.so, .slice al d.labs.length cl, .slice at1 (nums ps d.nxt).length ct, .int .i64 d.spare, .slice none 0 0] 1 hsz5 (by decide) rfl)
   refine onU 11 (fun K hK => ?_)
   refine step_append_rows _ rfl (.tmp 24) (.tmp 33) 64 rfl w.heap.size w.heap.size 71 i1 _ 6 96 Tryz.underlying64 hj hy0 hy1 hy2 rfl (by decide) _ _ _ rfl OB6.out _ _ _ rfl LB6.out (by simp [Value.oneCell']) (by unfold maxLen; omega) (by omega) (by simp; omega) ?_
   intro v7 w7 hO7 hg7 hat7;have HN := hideK (fun (V : World) (e : V = w7.setCell ⟨db, 4, none⟩ v7) => show BL g h w db mb (.slice ag g.length cg) (.slice ah h.length ch) (0, 0, t) _ _ u' v7 V from e ▸ HSTEP.out u' w5 w7 _ v7 al cl at1 ct HP5.out.1 HP5.out.2.1 HP5.out.2.2.1 HP5.out.2.2.2.1 HP5.out.2.2.2.2 hg7 hO7 hat7)
   have hS7 : w7.cell? ⟨db, 4, none⟩ = some (.slice da ts.length dc) := (World.cell?_of_block (a := ⟨db, 4, none⟩) (hg7.block db (by have := HP5.out.1.ls; simp; omega) HDN.out)).trans (HS5.out _ hb6)
   have hf7 : w7.frozen? ⟨db, 4, none⟩ = false := (World.frozen?_of_block (a := ⟨db, 4, none⟩) (hg7.block db (by have := HP5.out.1.ls; simp; omega) HDN.out)).trans ((hb6.frozen (p := ⟨db, 4, none⟩) HP5.out.1.ls).trans HP5.out.1.f4)
   obtain ⟨va7, vc7, rfl⟩ := sliceH_own hO7;clear hO7 hg7 hat7 hb6 OB OB6 LB6 HS5;have hSn := hS7;refine hK.out _ _ hSn ?_;clear hS hK K hSn;intro hS;try simp only [Act.put, sA, sB, sC]
   refine onU 12 (fun K hK => ?_)
   go_simp
   have hSn := hS;refine hK.out _ _ hSn ?_;clear hS hK K hSn;intro hS;try simp only [Act.put, sA, sB, sC]
   have x7 := hS;refine upto_last (by rw [List.getElem?_toArray]; rfl) (by kernel_rfl) (fun K hK => ?_)
   go_simp
   refine hK.out _ _ ?_;clear hS hK K;refine upto_done (by kernel_rfl) ?_ _
   refine inB ?_;go_wp2_with fail
   go_roundg (gk - 1)
   case measure => omega
   case rel => exact ⟨_, _, _, _, by simp; omega, HN.out _ rfl⟩
  ·have hltz : ¬ (ts.length : Int) < (ps.length : Int) := by omega
   have he : ts.length = ps.length := by omega
   have hn0 : 0 < ts.length := by
    have := hL.di.hd;rcases List.getElem?_eq_some_iff.1 this with ⟨q, _⟩
    omega
   obtain ⟨gd, cap, e1, hgB, hGS⟩ := hL.gs hn0;injection e1 with e1 e2 e3
   clear e2;subst e1 e3;have HF := hideK (hL.fit HGG.out.1 HGG.out.2.1 he);have c5 := giveUp_any db gd dc ts wr hGS (by omega) (fun q hq => (HF.out q hq).1) (fun q hq => (HF.out q hq).2.1) (fun q hq => (hL.ok q hq).2.keep (fun _ _ _ => rfl) (fun b hp => ⟨hp.1, fun e => hp.2.2.2.2 (by rw [e]; rfl)⟩)) (fun q hq => (HF.out q hq).2.2.1)
   have HL := hideK hL;clear hGS hL;unfold GUPost at c5;go_wp2_with fail
   refine c5.mono ?_;rintro e w5 ⟨rfl, sp, nb, nl, gv, gone, hE, hG⟩;have c4' := hG.c4;have r0 := hG.r4 0 hn0;simp only [Nat.zero_mul, Nat.zero_add] at r0;obtain ⟨hBN, hal, hRC⟩ := HL.out.plain he hE;have HPL := hideK (And.intro hBN (And.intro hal hRC));have hbw : Below w.heap.size w w5 := HL.out.z.bl.trans ⟨hG.os_, hG.tp_, hG.ot_, by have := hG.sz; have := HL.out.z.bl.size; omega, fun b hb => hG.fr b (by have := HL.out.z.bl.size; omega) (by omega)⟩
   have HBW := hideK hbw;have hnz : (0 : Int) < (ts.length : Int) := by omega
   have HLWf := hideK (fun (ha : alK sp 0 = true) => LW.of HGG.out.1 HGG.out.2.1 HL.out he hn0 rfl hG ha)
   have hrN : ts.length ≤ 1000000 := by omega
   clear c5 hE hG hBN hal hRC hbw c3 c4 HL HF;by_cases hs : sp.getD 0 0 < 0
   ·have HA := hideK (show alK sp 0 = false by unfold alK; exact decide_eq_false (by omega))
    generalize sp.getD 0 0 = s0 at *;go_wp2_with fail
    go_ret2
    exact ⟨HBW.out, _, _, HPL.out.1, .inl ⟨by rw [HPL.out.2.1]; exact HA.out, rfl⟩⟩
   ·have HA := hideK (show alK sp 0 = true by unfold alK; exact decide_eq_true (by omega))
    have cl := left_any w5 db gd dc ts sp (HLWf.out HA.out);have HRL := hideK (fun R (h : RI (ts.map (·.nd)) sp R R.length) => h.len)
    generalize sp.getD 0 0 = s0 at *;go_wp2_with fail
    refine cl.mono ?_;rintro e w6 ⟨⟨R, ao, co, hRI, rfl, hGA⟩, hb6⟩;obtain ⟨hRCH, hLF⟩ := HPL.out.2.2 R hRI;have hRn := HRL.out R hRI;rw [List.length_map] at hRn;rw [hLF] at hGA;have HB6 := hideK (HBW.out.trans (hb6.mono HBW.out.size));have hQl : (R.map (atZ ps (0, 0, t))).length = R.length := List.length_map _;have HR := hideK hRCH;clear cl hb6 hRI hRCH hLF HRL c4' r0;by_cases h200 : R.length ≤ 200
    ·have hbi := bnd_is HGG.out.1 HGG.out.2.1 HPL.out.1 HR.out (by omega)
     have hLl : (lfG g h (alZ ps sp) (R.map (atZ ps (0, 0, t)))).length = R.length := by unfold lfG; rw [List.length_map, List.length_map]
     have c8 := leastG_any (lfG g h (alZ ps sp) (R.map (atZ ps (0, 0, t)))) ao co w6.heap.size w6 hbi.gn hGA (Nat.le_refl _);rw [hLl] at c8;clear hbi hGA hLl;go_wp2_with fail
     refine c8.mono ?_;rintro e w7 ⟨⟨c, hC, ao', co', rfl, hGA'⟩, hb7⟩;have HE := hideK (And.intro hC (And.intro hGA' (HB6.out.trans (hb7.mono HB6.out.size))));clear c8 hC hGA' hb7;go_wp2_with fail
     go_ret2
     exact ⟨HE.out.2.2, _, _, HPL.out.1, .inr ⟨_, HR.out, .inr ⟨by omega, _, HE.out.1, _, _, rfl, HE.out.2.1⟩⟩⟩
    ·have c8 := leastLarge_any R.length co ao w6 (by omega) (by omega)
     clear hGA;go_wp2_with fail
     refine c8.mono ?_;rintro e w7 ⟨rfl, hb7⟩;have HE := hideK (HB6.out.trans (hb7.mono HB6.out.size));clear c8 hb7;go_wp2_with fail
     go_ret2
     exact ⟨HE.out, _, _, HPL.out.1, .inr ⟨_, HR.out, .inl ⟨by omega, rfl⟩⟩⟩
end Go.Proofs.YtpamhimmdoimoaaGreatDoor
namespace Go.Proofs.YtpamhimmdoimoaaGreatDoor
end Go.Proofs.YtpamhimmdoimoaaGreatDoor
namespace Go.Proofs
open Go.Shelf
def Tryz.laysNm217_ren : Go.Shelf.Ren := ⟨fun | 17 => 84 | n => n, fun | 24 => 22 | 9 => 9 | 3 => 3 | 4 => 4 | 0 => 0 | n => n, fun | n => n⟩
theorem Tryz.laysNm217 : Go.Proofs.Lays2.n17 Tryz.prog Tryz.laysNm217_ren := {
 mixed := by kernel_rfl
 f17 := Tryz.func84.trans (congrArg some (by kernel_rfl))
 t0 := Tryz.underlying0
 a0 := Tryz.isAgg0
 z0 := Tryz.sizeOf0
 v0 := Tryz.zeroValue0
 t3 := Tryz.underlying3
 a3 := Tryz.isAgg3
 z3 := Tryz.sizeOf3
 v3 := Tryz.zeroValue3
 t4 := Tryz.underlying4
 a4 := Tryz.isAgg4
 z4 := Tryz.sizeOf4
 v4 := Tryz.zeroValue4
 t9 := Tryz.underlying9
 a9 := Tryz.isAgg9
 z9 := Tryz.sizeOf9
 v9 := Tryz.zeroValue9
 t24 := Tryz.underlying22
 a24 := Tryz.isAgg22
 z24 := Tryz.sizeOf22
 v24 := Tryz.zeroValue22 }
end Go.Proofs
namespace Go.Proofs.YtpamhimmdoimoaaGreatDoor
end Go.Proofs.YtpamhimmdoimoaaGreatDoor
namespace Go.Proofs.YtpamhimmdoimoaaGreatDoor
end Go.Proofs.YtpamhimmdoimoaaGreatDoor
namespace Go.Proofs.YtpamhimmdoimoaaGreatDoor
end Go.Proofs.YtpamhimmdoimoaaGreatDoor
namespace Go.Proofs.YtpamhimmdoimoaaGreatDoor
open Go.RowKit Go.Shelf
theorem OFG.uniq {t : Ty} {g h : List Nd} (hg : OFG t g) (hh : OFG t h) : g = h := (hg.same hh).2 rfl
end Go.Proofs.YtpamhimmdoimoaaGreatDoor
namespace Go.Proofs.YtpamhimmdoimoaaGreatDoor
open Go.RowKit Go.Shelf
theorem cls_ex {g : List Nd} (hs : shutG g) : ∃ c, CLS g c := by
 have : ∀ n k c, patG g k c → g.length - cnt c ≤ n → ∃ c, CLS g c := by
  intro n;induction n with
  | zero =>
   intro k c hp hn;by_cases he : (splitG g c).1.length = cnt c
   ·exact ⟨_, cls_done hs hp he⟩
   ·have := cls_more hs hp he; omega
  | succ n ih =>
   intro k c hp hn;by_cases he : (splitG g c).1.length = cnt c
   ·exact ⟨_, cls_done hs hp he⟩
   ·have h1 := cls_more hs hp he
    have h2 := (split_inv g c).cn;exact ih (k + 1) (splitG g c).2 (pat_split hs hp) (by omega)
 exact this _ 0 _ (pat_zero g) (Nat.le_refl _)
theorem OFG_ex {t : Ty} (h : chkTy t = 0) : ∃ g, OFG t g := by
 have hg := lay_gn h;obtain ⟨c, hc⟩ : ∃ c, CLS (layP t [] 0).2 c := cls_ex hg.shut;exact ⟨_, ⟨h, c, hc, rfl⟩⟩
theorem end_chk : chkTy endT = 0 := by
 unfold chkTy;rw [chkT_eq, if_neg (by decide)]
 have hp : partT endT = true := by unfold partT endT; simp
 rw [hp, if_neg (by decide), if_neg (by decide), if_neg (by decide)]
 rfl
theorem end_bd : TyBd endT 0 0 := ⟨by decide, fun l hl => (by cases hl), by decide, by decide, by decide, by decide⟩
structure BX3 (w : World) (s : Ty) (sal : OAd) (scl : Nat) (sak : OAd) (sck : Nat) (t : Ty) (al : OAd) (cl : Nat) (ak : OAd) (ck : Nat) (u : Ty) (ual : OAd) (ucl : Nat) (uak : OAd) (uck : Nat) (W : World) : Prop where
 x : TyAt W w.heap.size 0 s sal scl sak sck
 y : TyAt W (w.heap.size + 1) 0 t al cl ak ck
 z : TyAt W (w.heap.size + 1 + 1) 0 u ual ucl uak uck
 lt : w.heap.size + 1 + 1 < W.heap.size
 bl : Below w.heap.size w W
theorem BX3.keep {w : World} {s : Ty} {sal : OAd} {scl : Nat} {sak : OAd} {sck : Nat} {t : Ty} {al : OAd} {cl : Nat} {ak : OAd} {ck : Nat} {u : Ty} {ual : OAd} {ucl : Nat} {uak : OAd} {uck : Nat} {W W' : World} (h : BX3 w s sal scl sak sck t al cl ak ck u ual ucl uak uck W) (hb : Below W.heap.size W W') : BX3 w s sal scl sak sck t al cl ak ck u ual ucl uak uck W' :=
 ⟨h.x.keep hb (by have := h.lt; omega), h.y.keep hb (by have := h.lt; omega), h.z.keep hb h.lt, Nat.lt_of_lt_of_le h.lt hb.size, h.bl.trans (hb.mono h.bl.size)⟩
theorem BX3.new (w : World) (s : Ty) (sal : OAd) (scl : Nat) (sak : OAd) (sck : Nat) (t : Ty) (al : OAd) (cl : Nat) (ak : OAd) (ck : Nat) (u : Ty) (ual : OAd) (ucl : Nat) (uak : OAd) (uck : Nat) : BX3 w s sal scl sak sck t al cl ak ck u ual ucl uak uck (((w.alloc (.cells #[.int .i64 s.kind, .int .i64 s.so, .string s.name, .slice sal s.labels.length scl, .slice sak s.kids.length sck] 25)).alloc (.cells #[.int .i64 t.kind, .int .i64 t.so, .string t.name, .slice al t.labels.length cl, .slice ak t.kids.length ck] 25)).alloc (.cells #[.int .i64 u.kind, .int .i64 u.so, .string u.name, .slice ual u.labels.length ucl, .slice uak u.kids.length uck] 25)) :=
 ⟨⟨by go_cell, by go_cell, by go_cell, by go_cell, by go_cell⟩, ⟨by go_cell, by go_cell, by go_cell, by go_cell, by go_cell⟩, ⟨by go_cell, by go_cell, by go_cell, by go_cell, by go_cell⟩, by simp, ((((Below.refl _ _).alloc (Nat.le_refl _) _).alloc (by simp) _).alloc (by simp; omega) _)⟩
end Go.Proofs.YtpamhimmdoimoaaGreatDoor
namespace Go.Proofs.YtpamhimmdoimoaaGreatDoor
open Go.RowKit Go.Shelf
def LSTG (L : List Nd) : Prop := ∃ M c, GN M ∧ CLS M c ∧ L = leastG M c
theorem LSTG.gn {L : List Nd} (h : LSTG L) : GN L := by
 obtain ⟨M, c, hM, hc, rfl⟩ := h;exact (least_gn hM hc).1
theorem OFG.lst {t : Ty} {g : List Nd} (h : OFG t g) : LSTG g := by
 obtain ⟨c, hc, e⟩ := h.src;exact ⟨_, c, lay_gn h.chk, hc, e⟩
theorem LSTG.eq {L M : List Nd} (hL : LSTG L) (hM : LSTG M) (e : alikeG L M 0 0) : L = M := by
 obtain ⟨A, c, hA, hc, rfl⟩ := hL;obtain ⟨B, d, hB, hd, rfl⟩ := hM;refine least_canon ⟨hA.shut, hB.shut, hc, hd⟩ hA.pos hB.pos fun k => ?_
 rw [← (least_gn hA hc).2.1 k, ← (least_gn hB hd).2.1 k];exact e k
def BDR (g h : List Nd) (t : Bool) (n : Nat) (a : OAd) (z : Int) (w' : World) : Prop :=
 ∃ ps al, BND g h (0, 0, t) ps al ∧ ((al (0, 0, t) = false ∧ a = none ∧ n = 0 ∧ z = 8) ∨ ∃ Q, RCH g h (0, 0, t) ps al Q ∧ ((200 < Q.length ∧ a = none ∧ n = 0 ∧ z = 2) ∨ (Q.length ≤ 200 ∧ z = 0 ∧ ∃ L, isBnd g h t L ∧ LSTG L ∧ n = L.length ∧ GAt w' w'.heap.size L a)))
theorem BDPost.bdr {g h : List Nd} (hg : GN g) (hh : GN h) {t : Bool} {w w' : World} {e : Ending} (H : BDPost g h t w e w') : (∃ a n c z, e = .returned (.tuple #[.slice a n c, .int .i64 z]) ∧ BDR g h t n a z w') ∧ Below w.heap.size w w' := by
 obtain ⟨hb, ps, al, B, H⟩ := H;refine ⟨?_, hb⟩;rcases H with ⟨h1, h2⟩ | ⟨Q, R, ⟨h1, h2⟩ | ⟨h1, c, hc, ao, co, h2, h3⟩⟩
 ·exact ⟨none, 0, 0, 8, h2, ps, al, B, .inl ⟨h1, rfl, rfl, rfl⟩⟩
 ·exact ⟨none, 0, 0, 2, h2, ps, al, B, .inr ⟨Q, R, .inl ⟨h1, rfl, rfl, rfl⟩⟩⟩
 ·have hI := bnd_is hg hh B R h1
  obtain ⟨l1, l2, _⟩ := least_gn hI.gn hc;exact ⟨ao, _, co, 0, h2, ps, al, B, .inr ⟨Q, R, .inr ⟨h1, rfl, _, hI.alike l1 (alike_symm l2), ⟨_, c, hI.gn, hc, rfl⟩, rfl, h3⟩⟩⟩
theorem BDR.keep {g h : List Nd} {t : Bool} {n : Nat} {a : OAd} {z : Int} {W W' : World} (H : BDR g h t n a z W) (hb : Below W.heap.size W W') : BDR g h t n a z W' := by
 obtain ⟨ps, al, B, H⟩ := H;refine ⟨ps, al, B, H.imp id fun ⟨Q, R, H⟩ => ⟨Q, R, H.imp id fun ⟨h1, h2, L, h3, h4, h5, h6⟩ => ⟨h1, h2, L, h3, h4, h5, (h6.keep hb).mono hb.size⟩⟩⟩
theorem BDR.three {g h : List Nd} (hg : GN g) (hh : GN h) {t : Bool} {n : Nat} {a : OAd} {z : Int} {w' : World} (H : BDR g h t n a z w') : (z = 8 ∧ n = 0 ∧ a = none ∧ noBnd g h t) ∨ (z = 2 ∧ n = 0 ∧ a = none) ∨ (z = 0 ∧ ∃ L, isBnd g h t L ∧ LSTG L ∧ n = L.length ∧ GAt w' w'.heap.size L a) := by
 obtain ⟨ps, al, B, ⟨h1, h2, h3, h4⟩ | ⟨Q, R, ⟨h1, h2, h3, h4⟩ | ⟨h1, h2, h3⟩⟩⟩ := H
 ·exact .inl ⟨h4, h3, h2, bnd_no hg hh B h1⟩
 ·exact .inr (.inl ⟨h4, h3, h2⟩)
 ·exact .inr (.inr ⟨h2, h3⟩)
theorem BDR.turn {g h : List Nd} (hg : GN g) (hh : GN h) {t : Bool} {n m : Nat} {a b : OAd} {z y : Int} {w1 w2 : World} (H : BDR g h t n a z w1) (K : BDR h g t m b y w2) : z = y := by
 obtain ⟨ps, al, B, H⟩ := H;obtain ⟨qs, bl', C, K⟩ := K;have hsame := al_same hg hh B C (p := (0, 0, t)) B.p0 C.p0;have e0 : swZ (0, 0, t) = (0, 0, t) := rfl;rw [e0] at hsame;rcases H with ⟨h1, h2, h3, h4⟩ | ⟨Q, R, H⟩
 ·rcases K with ⟨k1, k2, k3, k4⟩ | ⟨Q', R', K⟩
  ·rw [h4, k4]
  ·have := R'.lv _ (List.mem_of_getElem? R'.hd)
   rw [hsame, h1] at this;cases this
 ·rcases K with ⟨k1, k2, k3, k4⟩ | ⟨Q', R', K⟩
  ·have := R.lv _ (List.mem_of_getElem? R.hd)
   rw [← hsame, k1] at this;cases this
  ·have l1 := rch_turn hg hh B C R R'
   have l2 := rch_turn hh hg C B R' R;rcases H with ⟨h1, _, _, h4⟩ | ⟨h1, h4, _⟩ <;> rcases K with ⟨k1, _, _, k4⟩ | ⟨k1, k4, _⟩
   ·rw [h4, k4]
   ·omega
   ·omega
   ·rw [h4, k4]
theorem BDR.self {g : List Nd} (hg : LSTG g) (hl : g.length ≤ 100) {t : Bool} {n : Nat} {a : OAd} {z : Int} {w' : World} (H : BDR g g t n a z w') : z = 0 ∧ n = g.length ∧ GAt w' w'.heap.size g a := by
 obtain ⟨ps, al, B, ⟨h1, h2, h3, h4⟩ | ⟨Q, R, ⟨h1, h2, h3, h4⟩ | ⟨h1, h2, L, hI, hS, hn, hG⟩⟩⟩ := H
 ·exact absurd (bnd_no hg.gn hg.gn B h1) (isBnd_self hg.gn t).there
 ·have := rch_diag hg.gn B R
  omega
 ·have := hS.eq hg (hI.uniq (isBnd_self hg.gn t))
  subst this;exact ⟨h2, hn, hG⟩
def JMPost (s t : Ty) (m : Bool) (w : World) (e : Ending) (w' : World) : Prop :=
 ((chkTy s ≠ 0 ∧ e = .returned (.tuple #[.slice none 0 0, .int .i64 (chkTy s)])) ∨ (chkTy s = 0 ∧ chkTy t ≠ 0 ∧ e = .returned (.tuple #[.slice none 0 0, .int .i64 (chkTy t)])) ∨
  (∃ g h, OFG s g ∧ OFG t h ∧ ∃ a n c z, e = .returned (.tuple #[.slice a n c, .int .i64 z]) ∧ BDR g h m n a z w')) ∧ Below w.heap.size w w'
set_option maxRecDepth 100000 in
set_option maxHeartbeats 4000000 in
theorem join_any (ds dt : Nat) (s t : Ty) (sal : OAd) (scl : Nat) (sak : OAd) (sck : Nat) (al : OAd) (cl : Nat) (ak : OAd) (ck : Nat) (w : World) (hs1 : TyBd s scl sck) (hs2 : LA w w.heap.size s.labels sal) (hs3 : KT w w.heap.size ds s.kids sak) (ht1 : TyBd t cl ck) (ht2 : LA w w.heap.size t.labels al) (ht3 : KT w w.heap.size dt t.kids ak) :
  Calls Tryz.prog 7 #[tyVal s sal scl sak sck, tyVal t al cl ak ck] w (JMPost s t false w) := by
 unfold JMPost;have hA : Below w.heap.size w ((w.alloc (.cells #[.int .i64 s.kind, .int .i64 s.so, .string s.name, .slice sal s.labels.length scl, .slice sak s.kids.length sck] 25)).alloc (.cells #[.int .i64 t.kind, .int .i64 t.so, .string t.name, .slice al t.labels.length cl, .slice ak t.kids.length ck] 25)) := ((Below.refl _ _).alloc (Nat.le_refl _) _).alloc (by simp) _
 have hsz : ((w.alloc (.cells #[.int .i64 s.kind, .int .i64 s.so, .string s.name, .slice sal s.labels.length scl, .slice sak s.kids.length sck] 25)).alloc (.cells #[.int .i64 t.kind, .int .i64 t.so, .string t.name, .slice al t.labels.length cl, .slice ak t.kids.length ck] 25)).heap.size = w.heap.size + 1 + 1 := by simp
 have bs : TyAt ((w.alloc (.cells #[.int .i64 s.kind, .int .i64 s.so, .string s.name, .slice sal s.labels.length scl, .slice sak s.kids.length sck] 25)).alloc (.cells #[.int .i64 t.kind, .int .i64 t.so, .string t.name, .slice al t.labels.length cl, .slice ak t.kids.length ck] 25)) w.heap.size 0 s sal scl sak sck := ⟨by go_cell, by go_cell, by go_cell, by go_cell, by go_cell⟩
 have bt : TyAt ((w.alloc (.cells #[.int .i64 s.kind, .int .i64 s.so, .string s.name, .slice sal s.labels.length scl, .slice sak s.kids.length sck] 25)).alloc (.cells #[.int .i64 t.kind, .int .i64 t.so, .string t.name, .slice al t.labels.length cl, .slice ak t.kids.length ck] 25)) (w.heap.size + 1) 0 t al cl ak ck := ⟨by go_cell, by go_cell, by go_cell, by go_cell, by go_cell⟩
 have cG := graphsOf_any ds dt s t sal scl sak sck al cl ak ck ((w.alloc (.cells #[.int .i64 s.kind, .int .i64 s.so, .string s.name, .slice sal s.labels.length scl, .slice sak s.kids.length sck] 25)).alloc (.cells #[.int .i64 t.kind, .int .i64 t.so, .string t.name, .slice al t.labels.length cl, .slice ak t.kids.length ck] 25)) hs1 ((hs2.keep hA).mono hA.size) ((hs3.keep hA).mono hA.size) ht1 ((ht2.keep hA).mono hA.size) ((ht3.keep hA).mono hA.size);have HA := hideK hA;simp only [tyVal] at cG ⊢;unfold GOPost at cG;obtain ⟨y0, y1, y2, y3, y4⟩ := bt;obtain ⟨x0, x1, x2, x3, x4⟩ := bs;simp only [Nat.zero_add] at x1 x2 x3 x4 y1 y2 y3 y4;clear hs1 hs2 hs3 ht1 ht2 ht3 hA hsz;go_enter Tryz.func7, Tryz.ntmps7
 go_wp2_with fail
 refine cG.mono ?_;rintro e w1 ⟨hor, hb1⟩;have HB1 := hideK (HA.out.trans (hb1.mono HA.out.size));clear x0 x1 x2 x3 x4 y0 y1 y2 y3 y4 hb1 cG;rcases hor with ⟨hz, rfl⟩ | ⟨hz0, hz, rfl⟩ | ⟨g, h, ag, ah, cg, ch, hof, hof2, rfl, hga, hha⟩
 ·have hzb : (chkTy s != 0) = true := by simpa using hz
  have HZ := hideK hz;clear hz;go_wp2_with fail
  go_ret2
  exact ⟨.inl ⟨HZ.out, rfl⟩, HB1.out⟩
 ·have hzb : (chkTy t != 0) = true := by simpa using hz
  have HZ := hideK hz;have HZ0 := hideK hz0;clear hz hz0;go_wp2_with fail
  go_ret2
  exact ⟨.inr (.inl ⟨HZ0.out, HZ.out, rfl⟩), HB1.out⟩
 ·have cF := bound_any g h ag ah cg ch w1.heap.size false w1 hof.gn hof2.gn hga hha (Nat.le_refl _)
  have HOF := hideK hof;have HOF2 := hideK hof2;clear hga hha hof hof2;go_wp2_with fail
  refine cF.mono ?_;intro e w2 hPost;obtain ⟨⟨a, n, c, z, rfl, hR⟩, hb2⟩ := hPost.bdr HOF.out.gn HOF2.out.gn;have HR := hideK hR;have HB2 := hideK (HB1.out.trans (hb2.mono HB1.out.size));clear cF hPost hR hb2;go_wp2_with fail
  go_ret2
  exact ⟨.inr (.inr ⟨g, h, HOF.out, HOF2.out, a, n, c, z, rfl, HR.out⟩), HB2.out⟩
set_option maxRecDepth 100000 in
set_option maxHeartbeats 4000000 in
theorem meet_any (ds dt : Nat) (s t : Ty) (sal : OAd) (scl : Nat) (sak : OAd) (sck : Nat) (al : OAd) (cl : Nat) (ak : OAd) (ck : Nat) (w : World) (hs1 : TyBd s scl sck) (hs2 : LA w w.heap.size s.labels sal) (hs3 : KT w w.heap.size ds s.kids sak) (ht1 : TyBd t cl ck) (ht2 : LA w w.heap.size t.labels al) (ht3 : KT w w.heap.size dt t.kids ak) :
  Calls Tryz.prog 6 #[tyVal s sal scl sak sck, tyVal t al cl ak ck] w (JMPost s t true w) := by
 unfold JMPost;have hA : Below w.heap.size w ((w.alloc (.cells #[.int .i64 s.kind, .int .i64 s.so, .string s.name, .slice sal s.labels.length scl, .slice sak s.kids.length sck] 25)).alloc (.cells #[.int .i64 t.kind, .int .i64 t.so, .string t.name, .slice al t.labels.length cl, .slice ak t.kids.length ck] 25)) := ((Below.refl _ _).alloc (Nat.le_refl _) _).alloc (by simp) _
 have hsz : ((w.alloc (.cells #[.int .i64 s.kind, .int .i64 s.so, .string s.name, .slice sal s.labels.length scl, .slice sak s.kids.length sck] 25)).alloc (.cells #[.int .i64 t.kind, .int .i64 t.so, .string t.name, .slice al t.labels.length cl, .slice ak t.kids.length ck] 25)).heap.size = w.heap.size + 1 + 1 := by simp
 have bs : TyAt ((w.alloc (.cells #[.int .i64 s.kind, .int .i64 s.so, .string s.name, .slice sal s.labels.length scl, .slice sak s.kids.length sck] 25)).alloc (.cells #[.int .i64 t.kind, .int .i64 t.so, .string t.name, .slice al t.labels.length cl, .slice ak t.kids.length ck] 25)) w.heap.size 0 s sal scl sak sck := ⟨by go_cell, by go_cell, by go_cell, by go_cell, by go_cell⟩
 have bt : TyAt ((w.alloc (.cells #[.int .i64 s.kind, .int .i64 s.so, .string s.name, .slice sal s.labels.length scl, .slice sak s.kids.length sck] 25)).alloc (.cells #[.int .i64 t.kind, .int .i64 t.so, .string t.name, .slice al t.labels.length cl, .slice ak t.kids.length ck] 25)) (w.heap.size + 1) 0 t al cl ak ck := ⟨by go_cell, by go_cell, by go_cell, by go_cell, by go_cell⟩
 have cG := graphsOf_any ds dt s t sal scl sak sck al cl ak ck ((w.alloc (.cells #[.int .i64 s.kind, .int .i64 s.so, .string s.name, .slice sal s.labels.length scl, .slice sak s.kids.length sck] 25)).alloc (.cells #[.int .i64 t.kind, .int .i64 t.so, .string t.name, .slice al t.labels.length cl, .slice ak t.kids.length ck] 25)) hs1 ((hs2.keep hA).mono hA.size) ((hs3.keep hA).mono hA.size) ht1 ((ht2.keep hA).mono hA.size) ((ht3.keep hA).mono hA.size);have HA := hideK hA;simp only [tyVal] at cG ⊢;unfold GOPost at cG;obtain ⟨y0, y1, y2, y3, y4⟩ := bt;obtain ⟨x0, x1, x2, x3, x4⟩ := bs;simp only [Nat.zero_add] at x1 x2 x3 x4 y1 y2 y3 y4;clear hs1 hs2 hs3 ht1 ht2 ht3 hA hsz;go_enter Tryz.func6, Tryz.ntmps6
 go_wp2_with fail
 refine cG.mono ?_;rintro e w1 ⟨hor, hb1⟩;have HB1 := hideK (HA.out.trans (hb1.mono HA.out.size));clear x0 x1 x2 x3 x4 y0 y1 y2 y3 y4 hb1 cG;rcases hor with ⟨hz, rfl⟩ | ⟨hz0, hz, rfl⟩ | ⟨g, h, ag, ah, cg, ch, hof, hof2, rfl, hga, hha⟩
 ·have hzb : (chkTy s != 0) = true := by simpa using hz
  have HZ := hideK hz;clear hz;go_wp2_with fail
  go_ret2
  exact ⟨.inl ⟨HZ.out, rfl⟩, HB1.out⟩
 ·have hzb : (chkTy t != 0) = true := by simpa using hz
  have HZ := hideK hz;have HZ0 := hideK hz0;clear hz hz0;go_wp2_with fail
  go_ret2
  exact ⟨.inr (.inl ⟨HZ0.out, HZ.out, rfl⟩), HB1.out⟩
 ·have cF := bound_any g h ag ah cg ch w1.heap.size true w1 hof.gn hof2.gn hga hha (Nat.le_refl _)
  have HOF := hideK hof;have HOF2 := hideK hof2;clear hga hha hof hof2;go_wp2_with fail
  refine cF.mono ?_;intro e w2 hPost;obtain ⟨⟨a, n, c, z, rfl, hR⟩, hb2⟩ := hPost.bdr HOF.out.gn HOF2.out.gn;have HR := hideK hR;have HB2 := hideK (HB1.out.trans (hb2.mono HB1.out.size));clear cF hPost hR hb2;go_wp2_with fail
  go_ret2
  exact ⟨.inr (.inr ⟨g, h, HOF.out, HOF2.out, a, n, c, z, rfl, HR.out⟩), HB2.out⟩
theorem jmGood {s t : Ty} {m : Bool} {f : FuncId} {w : World} {g h : List Nd} (hs : OFG s g) (ht : OFG t h) {args : Array Value} (c : Calls Tryz.prog f args w (JMPost s t m w)) : Calls Tryz.prog f args w fun e w' => (∃ a n c z, e = .returned (.tuple #[.slice a n c, .int .i64 z]) ∧ BDR g h m n a z w') ∧ Below w.heap.size w w' := by
 refine c.mono ?_;rintro e w' ⟨q | q | q, hb⟩
 ·exact absurd hs.chk q.1
 ·exact absurd ht.chk q.2.1
 ·obtain ⟨g', h', hg, hh, a, n, c, z, e, hR⟩ := q
  rw [hg.uniq hs, hh.uniq ht] at hR;exact ⟨⟨a, n, c, z, e, hR⟩, hb⟩
theorem jmBad {s t : Ty} {m : Bool} {f : FuncId} {w : World} (hz : chkTy s ≠ 0 ∨ chkTy t ≠ 0) {args : Array Value} (c : Calls Tryz.prog f args w (JMPost s t m w)) : Calls Tryz.prog f args w fun e w' => (∃ z : Int, z ≠ 0 ∧ z = (if chkTy s ≠ 0 then chkTy s else chkTy t) ∧ e = .returned (.tuple #[.slice none 0 0, .int .i64 z])) ∧ Below w.heap.size w w' := by
 refine c.mono ?_;rintro e w' ⟨q | q | q, hb⟩
 ·exact ⟨⟨_, q.1, (by rw [if_pos q.1]), q.2⟩, hb⟩
 ·exact ⟨⟨_, q.2.1, (by rw [if_neg (fun x => x q.1)]), q.2.2⟩, hb⟩
 ·obtain ⟨g, h', hg, hh, _⟩ := q
  rcases hz with q | q
  ·exact absurd hg.chk q
  ·exact absurd hh.chk q
theorem endG_len {g : List Nd} (h : OFG endT g) : g.length = 1 := by
 have h1 := h.gn.pos;obtain ⟨c, hc, e⟩ := h.src;have h2 := (least_gn (lay_gn h.chk) hc).2.2;rw [← e] at h2;have h3 := lay_size endT (chkTy_good endT h.chk).1 [] 0;have h4 : sizeT endT = 1 := by unfold endT; rw [sizeT]; rfl
 omega
theorem joinEnd (w : World) : Calls Tryz.prog 7 #[.agg #[.int .i64 1, .int .i64 0, .string ⟨#[]⟩, .slice none 0 0, .slice none 0 0], .agg #[.int .i64 1, .int .i64 0, .string ⟨#[]⟩, .slice none 0 0, .slice none 0 0]] w fun e w' => (∃ a c, e = .returned (.tuple #[.slice a 1 c, .int .i64 0])) ∧ Below w.heap.size w w' := by
 obtain ⟨g, hg⟩ := OFG_ex end_chk;have c := jmGood hg hg (join_any 0 0 endT endT none 0 none 0 none 0 none 0 w end_bd (.inl rfl) rfl end_bd (.inl rfl) rfl);refine c.mono ?_;rintro e w' ⟨⟨a, n, c, z, rfl, hR⟩, hb⟩;obtain ⟨rfl, rfl, _⟩ := hR.self hg.lst (by have := hg.le; omega)
 rw [endG_len hg];exact ⟨⟨a, c, rfl⟩, hb⟩
theorem meetEnd (w : World) : Calls Tryz.prog 6 #[.agg #[.int .i64 1, .int .i64 0, .string ⟨#[]⟩, .slice none 0 0, .slice none 0 0], .agg #[.int .i64 1, .int .i64 0, .string ⟨#[]⟩, .slice none 0 0, .slice none 0 0]] w fun e w' => (∃ a c, e = .returned (.tuple #[.slice a 1 c, .int .i64 0])) ∧ Below w.heap.size w w' := by
 obtain ⟨g, hg⟩ := OFG_ex end_chk;have c := jmGood hg hg (meet_any 0 0 endT endT none 0 none 0 none 0 none 0 w end_bd (.inl rfl) rfl end_bd (.inl rfl) rfl);refine c.mono ?_;rintro e w' ⟨⟨a, n, c, z, rfl, hR⟩, hb⟩;obtain ⟨rfl, rfl, _⟩ := hR.self hg.lst (by have := hg.le; omega)
 rw [endG_len hg];exact ⟨⟨a, c, rfl⟩, hb⟩
end Go.Proofs.YtpamhimmdoimoaaGreatDoor
