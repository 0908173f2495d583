/-
  The contract of below.bound: Join and Meet of two graphs.
-/
import Derived.Test.YtpamhimmdoimoaaGreatDoorSz
import Derived.Test.YtpamhimmdoimoaaGreatDoorJb
import Derived.Test.YtpamhimmdoimoaaGreatDoorZo
namespace Go.Proofs.YtpamhimmdoimoaaGreatDoor
open Go.RowKit Go.Shelf
theorem checkLarge_any (n c : Nat) (a : OAd) (w : World) (hn : 200 < n) (hN : n ≤ 1000000) :
  Calls Tryz.prog 18 #[.slice a n c] w fun e w' => e = .returned (.int .i64 2) ∧ Below w.heap.size w w' := by
 have hz0 : ((n : Int) == 0) = false := by rw [beq_eq_false_iff_ne]; omega
 have hz1 : (200 : Int) < (n : Int) := by omega
 go_enter Tryz.func18, Tryz.ntmps18
 go_wp2_with fail
 go_ret
 exact ⟨rfl, Below.refl _ _⟩
theorem leastLarge_any (n c : Nat) (a : OAd) (w : World) (hn : 200 < n) (hN : n ≤ 1000000) :
  Calls Tryz.prog 19 #[.slice a n c] w fun e w' => e = .returned (.tuple #[.slice none 0 0, .int .i64 2]) ∧ Below w.heap.size w w' := by
 have c1 := checkLarge_any n c a w hn hN;go_enter Tryz.func19, Tryz.ntmps19
 go_wp2_with fail
 refine c1.mono ?_;rintro e w1 ⟨rfl, hb1⟩;have HB := hideK hb1;clear c1 hb1;go_wp2_with fail
 go_ret2
 exact ⟨rfl, HB.out⟩
theorem BL.drew {g h : List Nd} {w0 : World} {db mb : Nat} {ca cb : Value} {p0 : Pz} {ps : List Pz} {ts : List Dk} {u ud : Value} {W : World} (L : BL g h w0 db mb ca cb p0 ps ts u ud W) : BL g h w0 db mb ca cb p0 ps ts u ud W.drew :=
 ⟨L.z.kept (Below.refl _ _).drew, L.di, own_belowG L.own (Below.refl _ _).drew, L.ne, L.ok.keep (fun _ _ _ => rfl) (fun _ h => h), L.nd, L.sp, L.nb⟩
def BDPost (g h : List Nd) (t : Bool) (w : World) (e : Ending) (w' : World) : Prop :=
 Below w.heap.size w w' ∧ ∃ ps al, BND g h (0, 0, t) ps al ∧ ((al (0, 0, t) = false ∧ e = .returned (.tuple #[.slice none 0 0, .int .i64 8])) ∨
  ∃ Q, RCH g h (0, 0, t) ps al Q ∧ ((200 < Q.length ∧ e = .returned (.tuple #[.slice none 0 0, .int .i64 2])) ∨ (Q.length ≤ 200 ∧ ∃ c, CLS (lfG g h al Q) c ∧ ∃ ao co, e = .returned (.tuple #[.slice ao (leastG (lfG g h al Q) c).length co, .int .i64 0]) ∧ GAt w' w'.heap.size (leastG (lfG g h al Q) c) ao)))
set_option maxRecDepth 100000 in
set_option maxHeartbeats 8000000 in
theorem bound_any (g h : List Nd) (ag ah : OAd) (cg ch B : Nat) (t : Bool) (w : World) (hg : GN g) (hh : GN h) (hga : GAt w B g ag) (hha : GAt w B h ah) (hB : B ≤ w.heap.size) :
  Calls Tryz.prog 16 #[.slice ag g.length cg, .slice ah h.length ch, .bool t] w (BDPost g h t w) := by
 unfold BDPost;obtain ⟨i1, hj, hy0, hy1, hy2⟩ := info_parts infoDr;have hmm : ∀ w : World, (Instr.makeMap 62 none).run Tryz.prog w = .ok (.map (some w.heap.size)) (w.alloc (.map #[] 0)) := fun w => rfl
 have HZ0 := hideK (ZW.start w (.slice ag g.length cg) (.slice ah h.length ch));have c0 := numberZ_any w (w.heap.size + 1) w.heap.size (.slice ag g.length cg) (.slice ah h.length ch) (.slice none 0 0) [] (.slice none 0 0) (0, 0, t) _ HZ0.out (by simp) (by simp) (fun q hq => by cases hq) (by unfold smPz; simp)
 have HGG := hideK (And.intro hg (And.intro hh (And.intro hga hha)));clear hga hha hg hh;simp only [pkZ] at c0;go_enter Tryz.func16, Tryz.ntmps16
 go_wp2_with fail
 refine c0.mono ?_;rintro e w2 ⟨rfl, u', hz2, -, -⟩;have ea : addZ [] ((0, 0, t) : Pz) = [(0, 0, t)] := by simp [addZ]
 rw [ea] at hz2;have HL0 := hideK (BL.start HGG.out.1 HGG.out.2.1 hz2);clear c0 hz2 HZ0 ea hmm;go_wp2_with fail
 generalize hdb : w.heap.size + 1 = db at *;generalize hmb : w.heap.size = mb at HL0;clear hdb hmb;go_loopg [] 80803 (fun m wr => ∃ (ps : List Pz) (ts : List Dk) (u ud : Value), m + ts.length = 80803 ∧ BL g h w db mb (.slice ag g.length cg) (.slice ah h.length ch) (0, 0, t) ps ts u ud wr)
 case atStart => exact ⟨_, [], _, _, rfl, HL0.out⟩
 case round =>
  obtain ⟨ps, ts, u, ud, hm, hL⟩ := hrel;clear HL0;obtain ⟨ua, uc, hu⟩ := sliceH_own hL.z.own;obtain ⟨da, dc, hud⟩ := sliceH_own hL.own;subst hu hud;have hsm := hL.di.small HGG.out.1 HGG.out.2.1;have hle := hL.di.le;have c3 := hL.z.c3;have c4 := hL.z.c4;by_cases hlt : ts.length < ps.length
  ·have hltz : (ts.length : Int) < (ps.length : Int) := by omega
   have htz : (ts.length : Int) ≤ 100000 := by omega
   obtain ⟨gu, cp, eu, hgB, hgl, hcc⟩ := (own_cells hL.z.own).resolve_left (fun h => by have := h.2.1; omega)
   injection eu with eu1 eu3 eu2
   clear eu3;subst eu1 eu2;have k0 := hcc (ts.length * 3 + 0) _ (by rw [pvZ_at ps _ hlt 0 (by omega)]; rfl)
   have k1 := hcc (ts.length * 3 + 1) _ (by rw [pvZ_at ps _ hlt 1 (by omega)]; rfl)
   have k2 := hcc (ts.length * 3 + 2) _ (by rw [pvZ_at ps _ hlt 2 (by omega)]; rfl)
   simp only [Nat.add_zero] at k0;have o := hL.di.ok _ (List.getElem_mem hlt);have HNX := hideK (nxt_ok HGG.out.1 HGG.out.2.1 o);have HL := hideK hL.drew;have c := draftAt_any g h ag ah cg ch B w db mb (.slice da ts.length dc) ps (.slice (some ⟨gu, 0, none⟩) ps.length uc) ps[ts.length] wr.drew HL.out.z hB HGG.out.2.2.1 HGG.out.2.2.2 HGG.out.1 HGG.out.2.1 o (fun i => ps_of HGG.out.1.le HGG.out.2.1.le (foldZ_nd _ hL.di.nd) fun q hq => (foldZ_sub _ _ q hq).elim (hL.di.ok q) fun hq => HNX.out q (List.mem_of_mem_take hq)) (fun q hq => (HNX.out q hq).sm HGG.out.1.le HGG.out.2.1.le)
   unfold DPost at c;have HSTEP := hideK (fun (u' : Value) (w5 w7 : World) (ob : Obj) (v7 : Value) (al : OAd) (cl : Nat) (at1 : OAd) (ct : Nat) => BL.step (B := B) (u' := u') (w5 := w5) (w7 := w7) (ob := ob) (v7 := v7) (al := al) (cl := cl) (at1 := at1) (ct := ct) HGG.out.1 HGG.out.2.1 hB HL.out hlt)
   have HOW := hideK (fun (w5 : World) (hr : RF mb db (Value.slice (some ⟨gu, 0, none⟩) ps.length uc).ownBlock wr.drew w5) => own_other HL.out.own fun b hb hl => hr.block b hl (HL.out.ne b hb).2.1 (HL.out.ne b hb).1 (fun e => (HL.out.ne b hb).2.2 e.symm))
   have HDN := hideK (show some db ≠ (Value.slice da ts.length dc).ownBlock from fun e => (HL.out.ne db e.symm).1 rfl)
   clear hL hcc o;generalize ps[ts.length] = p at *;obtain ⟨pa, pb, pt⟩ := p;simp only [pkZ] at c;simp only at k0 k1 k2;go_wp2_with fail
   refine wp_region_upto (fun W : World => W.cell? ⟨db, 4, none⟩ = some (.slice da ts.length dc)) 13 (by kernel_rfl) (HL.out.z.c4) (fun hS => ?_)
   refine tkU 0 (.pointer (some ⟨db, 4, none⟩)) hS ?_;simp only [Act.put, sA, sB, sC];refine tkU 1 (.slice da ts.length dc) hS ?_ (hy := Or.inl ⟨by rfl, fun W hW => by have x0 := hW; go_simp⟩)
   simp only [Act.put, sA, sB, sC];refine tkU 2 (.pointer (some ⟨db, 3, none⟩)) hS ?_;simp only [Act.put, sA, sB, sC];refine tkU 4 (.pointer (some ⟨db, 4, none⟩)) hS ?_;simp only [Act.put, sA, sB, sC];refine tkU 5 (.slice da ts.length dc) hS ?_ (hy := Or.inl ⟨by rfl, fun W hW => by have x0 := hW; go_simp⟩)
   simp only [Act.put, sA, sB, sC];refine tkU 6 (.int .i64 (ts.length : Int)) hS ?_;simp only [Act.put, sA, sB, sC];refine onU 3 (fun K hK => ?_)
   go_simp
   have hSn := hS;refine hK.out _ _ hSn ?_;clear hS hK K hSn;intro hS;try simp only [Act.put, sA, sB, sC]
   refine onU 7 (fun K hK => ?_)
   go_simp
   have hSn := hS;refine hK.out _ _ hSn ?_;clear hS hK K hSn;intro hS;try simp only [Act.put, sA, sB, sC]
   refine onU 8 (fun K hK => ?_)
   go_simp
   have hSn := hS;refine hK.out _ _ hSn ?_;clear hS hK K hSn;intro hS;try simp only [Act.put, sA, sB, sC]
   refine onU 9 (fun K hK => ?_)
   go_simp
   refine c.mono ?_;rintro e w5 ⟨u', al, cl, at1, ct, rfl, hz5, hr5, hf5, hl5, hn5⟩;have HP5 := hideK (And.intro hz5 (And.intro hr5 (And.intro hf5 (And.intro hl5 hn5))));have HS5 := hideK (fun (W : World) (hb : Below w5.heap.size w5 W) => show W.cell? ⟨db, 4, none⟩ = some (.slice da ts.length dc) from (hb.cell (p := ⟨db, 4, none⟩) hz5.ls).trans hz5.c4)
   have hsz5 : w.heap.size ≤ w5.heap.size := hz5.bl.size;clear hz5 hr5 hf5 hl5 hn5 c;simp only [dVal];have hSn := HS5.out w5 (Below.refl _ _);refine hK.out _ _ hSn ?_;clear hS hK K hSn;intro hS;try simp only [Act.put, sA, sB, sC]
   have OB := hideK (HOW.out w5 HP5.out.2.1);clear k0 k1 k2 c3;generalize drP g h (pa, pb, pt) = d at *;have hb6 : Below w5.heap.size w5 (w5.alloc (.cells #[.int .i64 d.kind, .int .i64 d.so, .slice al d.labs.length cl, .slice at1 (nums ps d.nxt).length ct, .int .i64 d.spare, .slice none 0 0] 71)) := (Below.refl _ _).alloc (Nat.le_refl _) _;refine onU 10 (fun K hK => ?_)
   go_simp
   have hSn := HS5.out _ hb6;refine hK.out _ _ hSn ?_;clear hS hK K hSn;intro hS;try simp only [Act.put, sA, sB, sC]
   have OB6 := hideK (own_belowG OB.out hb6);have LB6 := hideK (World.ownsRow_lit (base := w.heap.size) (e := 71) (size := 6) w5 #[.int .i64 d.kind, .int .i64 d.so, .slice al d.labs.length cl, .slice at1 (nums ps d.nxt).length ct, .int .i64 d.spare, .slice none 0 0] 1 hsz5 (by decide) rfl)
   refine onU 11 (fun K hK => ?_)
   refine step_append_rows _ rfl (.tmp 24) (.tmp 33) 64 rfl w.heap.size w.heap.size 71 i1 _ 6 96 Tryz.underlying64 hj hy0 hy1 hy2 rfl (by decide) _ _ _ rfl OB6.out _ _ _ rfl LB6.out (by simp [Value.oneCell']) (by unfold maxLen; omega) (by omega) (by simp; omega) ?_
   intro v7 w7 hO7 hg7 hat7;have HN := hideK (fun (V : World) (e : V = w7.setCell ⟨db, 4, none⟩ v7) => show BL g h w db mb (.slice ag g.length cg) (.slice ah h.length ch) (0, 0, t) _ _ u' v7 V from e ▸ HSTEP.out u' w5 w7 _ v7 al cl at1 ct HP5.out.1 HP5.out.2.1 HP5.out.2.2.1 HP5.out.2.2.2.1 HP5.out.2.2.2.2 hg7 hO7 hat7)
   have hS7 : w7.cell? ⟨db, 4, none⟩ = some (.slice da ts.length dc) := (World.cell?_of_block (a := ⟨db, 4, none⟩) (hg7.block db (by have := HP5.out.1.ls; simp; omega) HDN.out)).trans (HS5.out _ hb6)
   have hf7 : w7.frozen? ⟨db, 4, none⟩ = false := (World.frozen?_of_block (a := ⟨db, 4, none⟩) (hg7.block db (by have := HP5.out.1.ls; simp; omega) HDN.out)).trans ((hb6.frozen (p := ⟨db, 4, none⟩) HP5.out.1.ls).trans HP5.out.1.f4)
   obtain ⟨va7, vc7, rfl⟩ := sliceH_own hO7;clear hO7 hg7 hat7 hb6 OB OB6 LB6 HS5;have hSn := hS7;refine hK.out _ _ hSn ?_;clear hS hK K hSn;intro hS;try simp only [Act.put, sA, sB, sC]
   refine onU 12 (fun K hK => ?_)
   go_simp
   have hSn := hS;refine hK.out _ _ hSn ?_;clear hS hK K hSn;intro hS;try simp only [Act.put, sA, sB, sC]
   have x7 := hS;refine upto_last (by rw [List.getElem?_toArray]; rfl) (by kernel_rfl) (fun K hK => ?_)
   go_simp
   refine hK.out _ _ ?_;clear hS hK K;refine upto_done (by kernel_rfl) ?_ _
   refine inB ?_;go_wp2_with fail
   go_roundg (gk - 1)
   case measure => omega
   case rel => exact ⟨_, _, _, _, by simp; omega, HN.out _ rfl⟩
  ·have hltz : ¬ (ts.length : Int) < (ps.length : Int) := by omega
   have he : ts.length = ps.length := by omega
   have hn0 : 0 < ts.length := by
    have := hL.di.hd;rcases List.getElem?_eq_some_iff.1 this with ⟨q, _⟩
    omega
   obtain ⟨gd, cap, e1, hgB, hGS⟩ := hL.gs hn0;injection e1 with e1 e2 e3
   clear e2;subst e1 e3;have HF := hideK (hL.fit HGG.out.1 HGG.out.2.1 he);have c5 := giveUp_any db gd dc ts wr hGS (by omega) (fun q hq => (HF.out q hq).1) (fun q hq => (HF.out q hq).2.1) (fun q hq => (hL.ok q hq).2.keep (fun _ _ _ => rfl) (fun b hp => ⟨hp.1, fun e => hp.2.2.2.2 (by rw [e]; rfl)⟩)) (fun q hq => (HF.out q hq).2.2.1)
   have HL := hideK hL;clear hGS hL;unfold GUPost at c5;go_wp2_with fail
   refine c5.mono ?_;rintro e w5 ⟨rfl, sp, nb, nl, gv, gone, hE, hG⟩;have c4' := hG.c4;have r0 := hG.r4 0 hn0;simp only [Nat.zero_mul, Nat.zero_add] at r0;obtain ⟨hBN, hal, hRC⟩ := HL.out.plain he hE;have HPL := hideK (And.intro hBN (And.intro hal hRC));have hbw : Below w.heap.size w w5 := HL.out.z.bl.trans ⟨hG.os_, hG.tp_, hG.ot_, by have := hG.sz; have := HL.out.z.bl.size; omega, fun b hb => hG.fr b (by have := HL.out.z.bl.size; omega) (by omega)⟩
   have HBW := hideK hbw;have hnz : (0 : Int) < (ts.length : Int) := by omega
   have HLWf := hideK (fun (ha : alK sp 0 = true) => LW.of HGG.out.1 HGG.out.2.1 HL.out he hn0 rfl hG ha)
   have hrN : ts.length ≤ 1000000 := by omega
   clear c5 hE hG hBN hal hRC hbw c3 c4 HL HF;by_cases hs : sp.getD 0 0 < 0
   ·have HA := hideK (show alK sp 0 = false by unfold alK; exact decide_eq_false (by omega))
    generalize sp.getD 0 0 = s0 at *;go_wp2_with fail
    go_ret2
    exact ⟨HBW.out, _, _, HPL.out.1, .inl ⟨by rw [HPL.out.2.1]; exact HA.out, rfl⟩⟩
   ·have HA := hideK (show alK sp 0 = true by unfold alK; exact decide_eq_true (by omega))
    have cl := left_any w5 db gd dc ts sp (HLWf.out HA.out);have HRL := hideK (fun R (h : RI (ts.map (·.nd)) sp R R.length) => h.len)
    generalize sp.getD 0 0 = s0 at *;go_wp2_with fail
    refine cl.mono ?_;rintro e w6 ⟨⟨R, ao, co, hRI, rfl, hGA⟩, hb6⟩;obtain ⟨hRCH, hLF⟩ := HPL.out.2.2 R hRI;have hRn := HRL.out R hRI;rw [List.length_map] at hRn;rw [hLF] at hGA;have HB6 := hideK (HBW.out.trans (hb6.mono HBW.out.size));have hQl : (R.map (atZ ps (0, 0, t))).length = R.length := List.length_map _;have HR := hideK hRCH;clear cl hb6 hRI hRCH hLF HRL c4' r0;by_cases h200 : R.length ≤ 200
    ·have hbi := bnd_is HGG.out.1 HGG.out.2.1 HPL.out.1 HR.out (by omega)
     have hLl : (lfG g h (alZ ps sp) (R.map (atZ ps (0, 0, t)))).length = R.length := by unfold lfG; rw [List.length_map, List.length_map]
     have c8 := leastG_any (lfG g h (alZ ps sp) (R.map (atZ ps (0, 0, t)))) ao co w6.heap.size w6 hbi.gn hGA (Nat.le_refl _);rw [hLl] at c8;clear hbi hGA hLl;go_wp2_with fail
     refine c8.mono ?_;rintro e w7 ⟨⟨c, hC, ao', co', rfl, hGA'⟩, hb7⟩;have HE := hideK (And.intro hC (And.intro hGA' (HB6.out.trans (hb7.mono HB6.out.size))));clear c8 hC hGA' hb7;go_wp2_with fail
     go_ret2
     exact ⟨HE.out.2.2, _, _, HPL.out.1, .inr ⟨_, HR.out, .inr ⟨by omega, _, HE.out.1, _, _, rfl, HE.out.2.1⟩⟩⟩
    ·have c8 := leastLarge_any R.length co ao w6 (by omega) (by omega)
     clear hGA;go_wp2_with fail
     refine c8.mono ?_;rintro e w7 ⟨rfl, hb7⟩;have HE := hideK (HB6.out.trans (hb7.mono HB6.out.size));clear c8 hb7;go_wp2_with fail
     go_ret2
     exact ⟨HE.out, _, _, HPL.out.1, .inr ⟨_, HR.out, .inl ⟨by omega, rfl⟩⟩⟩
end Go.Proofs.YtpamhimmdoimoaaGreatDoor
