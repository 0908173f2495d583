/-
  The contract of below.bound: Join and Meet of two graphs.
-/
import Derived.Test.YtnedgkcejlhnbaaGreatDoorSz
import Derived.Test.YtnedgkcejlhnbaaGreatDoorJb
import Derived.Test.YtnedgkcejlhnbaaGreatDoorZo
import Derived.Test.YtnedgkcejlhnbaaGreatDoorZf
set_option maxRecDepth 100000
set_option maxHeartbeats 8000000
namespace Go.Proofs.YtnedgkcejlhnbaaGreatDoor
open Go.RowKit Go.Shelf
theorem checkLarge_any(n c:Nat)(a:OAd)(w:World)(hn:200<n)(hN:n≤1000000):
  Calls Tryz.prog 18 #[.slice a n c] w fun e w'=>e = .returned (.int .i64 2)∧Below w.heap.size w w':=by
 have hz0:((n:Int)==0)=false:=by rw [beq_eq_false_iff_ne];omega
 have hz1:(200:Int)<(n:Int):=by omega
 go_enter Tryz.func18,Tryz.ntmps18
 go_wp2_with fail
 go_ret
 exact ⟨rfl,Below.refl _ _⟩
theorem leastLarge_any(n c:Nat)(a:OAd)(w:World)(hn:200<n)(hN:n≤1000000):
  Calls Tryz.prog 16 #[.slice a n c] w fun e w'=>e = .returned (.tuple #[.slice none 0 0,.int .i64 2])∧Below w.heap.size w w':=by
 have c1:=checkLarge_any n c a w hn hN;go_enter Tryz.func16,Tryz.ntmps16
 go_wp2_with fail
 refine c1.mono ?_;rintro e w1 ⟨rfl,hb1⟩;have HB:=hideK hb1;clear c1 hb1;go_wp2_with fail
 go_ret2
 exact ⟨rfl,HB.out⟩
theorem BL.drew{g h:List Nd}{w0:World}{db mb:Nat}{ca cb:Value}{p0:Pz}{ps:List Pz}{ts:List Dk}{u ud:Value}{W:World}(L:BL g h w0 db mb ca cb p0 ps ts u ud W):BL g h w0 db mb ca cb p0 ps ts u ud W.drew :=
 ⟨L.z.kept (Below.refl _ _).drew,L.di,own_belowG L.own (Below.refl _ _).drew,L.ne,L.ok.keep (fun _ _ _=>rfl) (fun _ h=>h),L.nd,L.sp,L.nb⟩
def BDPost(g h:List Nd)(t:Bool)(w:World)(e:Ending)(w':World):Prop :=
 Below w.heap.size w w'∧∃ps al,BND g h (0,0,t) ps al∧((al (0,0,t)=false∧e = .returned (.tuple #[.slice none 0 0,.int .i64 8])) ∨
  ∃Q,RCH g h (0,0,t) ps al Q∧((200<Q.length∧e = .returned (.tuple #[.slice none 0 0,.int .i64 2]))∨(Q.length≤200∧∃c,CLS (lfG g h al Q) c∧∃ao co,e = .returned (.tuple #[.slice ao (leastG (lfG g h al Q) c).length co,.int .i64 0])∧GAt w' w'.heap.size (leastG (lfG g h al Q) c) ao)))
theorem bound_any(g h:List Nd)(ag ah:OAd)(cg ch B:Nat)(t:Bool)(w:World)(hg:GN g)(hh:GN h)(hga:GAt w B g ag)(hha:GAt w B h ah)(hB:B≤w.heap.size):
  Calls Tryz.prog 9 #[.slice ag g.length cg,.slice ah h.length ch,.bool t] w (BDPost g h t w):=by
 unfold BDPost;obtain ⟨i1,hj,hy0,hy1,hy2⟩:=info_parts infoDr;have hmm:∀w:World,(Instr.makeMap 46 none).run Tryz.prog w = .ok (.map (some w.heap.size)) (w.alloc (.map #[] 0)):=fun w=>rfl
 have HZ0:=hideK (ZW.start w (.slice ag g.length cg) (.slice ah h.length ch));have c0:=numberZ_any w (w.heap.size+1) w.heap.size (.slice ag g.length cg) (.slice ah h.length ch) (.slice none 0 0) [] (.slice none 0 0) (0,0,t) _ HZ0.out (by simp) (by simp) (fun q hq=>by cases hq) (by unfold smPz;simp)
 have HGG:=hideK (And.intro hg (And.intro hh (And.intro hga hha)));clear hga hha hg hh;simp only [pkZ]at c0;go_enter Tryz.func9,Tryz.ntmps9
 go_wp2_with fail
 refine c0.mono ?_;rintro e w2 ⟨rfl,u',hz2,-,-⟩;have ea:addZ [] ((0,0,t):Pz)=[(0,0,t)]:=by simp [addZ]
 rw [ea]at hz2;have HL0:=hideK (BL.start HGG.out.1 HGG.out.2.1 hz2);clear c0 hz2 HZ0 ea hmm;go_wp2_with fail
 generalize hdb:w.heap.size+1=db at *;generalize hmb:w.heap.size=mb at HL0;clear hdb hmb;go_loopg [] 80803 (fun m wr=>∃(ps:List Pz) (ts:List Dk) (u ud:Value),m+ts.length=80803∧BL g h w db mb (.slice ag g.length cg) (.slice ah h.length ch) (0,0,t) ps ts u ud wr)
 case atStart=>exact ⟨_,[],_,_,rfl,HL0.out⟩
 case round =>
  obtain ⟨ps,ts,u,ud,hm,hL⟩:=hrel;clear HL0;obtain ⟨ua,uc,hu⟩:=sliceH_own hL.z.own;obtain ⟨da,dc,hud⟩:=sliceH_own hL.own;subst hu hud;have hsm:=hL.di.small HGG.out.1 HGG.out.2.1;have hle:=hL.di.le;have c3:=hL.z.c3;have c4:=hL.z.c4;by_cases hlt:ts.length<ps.length
  ·have hltz:(ts.length:Int)<(ps.length:Int):=by omega
   have htz:(ts.length:Int)≤100000:=by omega
   obtain ⟨gu,cp,eu,hgB,hgl,hcc⟩:=(own_cells hL.z.own).resolve_left (fun h=>by have:=h.2.1;omega)
   injection eu with eu1 eu3 eu2
   clear eu3;subst eu1 eu2;have k0:=hcc (ts.length*3+0) _ (by rw [pvZ_at ps _ hlt 0 (by omega)];rfl)
   have k1:=hcc (ts.length*3+1) _ (by rw [pvZ_at ps _ hlt 1 (by omega)];rfl)
   have k2:=hcc (ts.length*3+2) _ (by rw [pvZ_at ps _ hlt 2 (by omega)];rfl)
   simp only [Nat.add_zero]at k0;have o:=hL.di.ok _ (List.getElem_mem hlt);have HNX:=hideK (nxt_ok HGG.out.1 HGG.out.2.1 o);have HL:=hideK hL.drew;have c:=draftAt_any g h ag ah cg ch B w db mb (.slice da ts.length dc) ps (.slice (some ⟨gu,0,none⟩) ps.length uc) ps[ts.length] wr.drew HL.out.z hB HGG.out.2.2.1 HGG.out.2.2.2 HGG.out.1 HGG.out.2.1 o (fun i=>ps_of HGG.out.1.le HGG.out.2.1.le (foldZ_nd _ hL.di.nd) fun q hq=>(foldZ_sub _ _ q hq).elim (hL.di.ok q) fun hq=>HNX.out q (List.mem_of_mem_take hq)) (fun q hq=>(HNX.out q hq).sm HGG.out.1.le HGG.out.2.1.le)
   unfold DPost at c;have HSTEP:=hideK (fun (u':Value) (w5 w7:World) (ob:Obj) (v7:Value) (al:OAd) (cl:Nat) (at1:OAd) (ct:Nat)=>BL.step (B:=B) (u':=u') (w5:=w5) (w7:=w7) (ob:=ob) (v7:=v7) (al:=al) (cl:=cl) (at1:=at1) (ct:=ct) HGG.out.1 HGG.out.2.1 hB HL.out hlt)
   have HOW:=hideK (fun (w5:World) (hr:RF mb db (Value.slice (some ⟨gu,0,none⟩) ps.length uc).ownBlock wr.drew w5)=>own_other HL.out.own fun b hb hl=>hr.block b hl (HL.out.ne b hb).2.1 (HL.out.ne b hb).1 (fun e=>(HL.out.ne b hb).2.2 e.symm))
   have HDN:=hideK (show some db≠(Value.slice da ts.length dc).ownBlock from fun e=>(HL.out.ne db e.symm).1 rfl)
   clear hL hcc o;generalize ps[ts.length]=p at *;obtain ⟨pa,pb,pt⟩:=p;simp only [pkZ]at c;simp only at k0 k1 k2;go_wp2_with fail
   refine wp_region_upto (fun W:World=>W.cell? ⟨db,4,none⟩=some (.slice da ts.length dc)) 13 (by kernel_rfl) (HL.out.z.c4) (fun hS=>?_)
   refine tkU 0 (.pointer (some ⟨db,4,none⟩)) hS ?_;simp only [Act.put,sA,sB,sC];refine tkU 1 (.slice da ts.length dc) hS ?_ (hy:=Or.inl ⟨by rfl,fun W hW=>by have x0:=hW;go_simp⟩)
   simp only [Act.put,sA,sB,sC];refine tkU 2 (.pointer (some ⟨db,3,none⟩)) hS ?_;simp only [Act.put,sA,sB,sC];refine tkU 4 (.pointer (some ⟨db,4,none⟩)) hS ?_;simp only [Act.put,sA,sB,sC];refine tkU 5 (.slice da ts.length dc) hS ?_ (hy:=Or.inl ⟨by rfl,fun W hW=>by have x0:=hW;go_simp⟩)
   simp only [Act.put,sA,sB,sC];refine tkU 6 (.int .i64 (ts.length:Int)) hS ?_;simp only [Act.put,sA,sB,sC];refine onU 3 (fun K hK=>?_)
   go_simp
   have hSn:=hS;refine hK.out _ _ hSn ?_;clear hS hK K hSn;intro hS;try simp only [Act.put,sA,sB,sC]
   refine onU 7 (fun K hK=>?_)
   go_simp
   have hSn:=hS;refine hK.out _ _ hSn ?_;clear hS hK K hSn;intro hS;try simp only [Act.put,sA,sB,sC]
   refine onU 8 (fun K hK=>?_)
   go_simp
   have hSn:=hS;refine hK.out _ _ hSn ?_;clear hS hK K hSn;intro hS;try simp only [Act.put,sA,sB,sC]
   refine onU 9 (fun K hK=>?_)
   go_simp
   refine c.mono ?_;rintro e w5 ⟨u',al,cl,at1,ct,rfl,hz5,hr5,hf5,hl5,hn5⟩;have HP5:=hideK (And.intro hz5 (And.intro hr5 (And.intro hf5 (And.intro hl5 hn5))));have HS5:=hideK (fun (W:World) (hb:Below w5.heap.size w5 W)=>show W.cell? ⟨db,4,none⟩=some (.slice da ts.length dc) from (hb.cell (p:=⟨db,4,none⟩) hz5.ls).trans hz5.c4)
   have hsz5:w.heap.size≤w5.heap.size:=hz5.bl.size;clear hz5 hr5 hf5 hl5 hn5 c;simp only [dVal];have hSn:=HS5.out w5 (Below.refl _ _);refine hK.out _ _ hSn ?_;clear hS hK K hSn;intro hS;try simp only [Act.put,sA,sB,sC]
   have OB:=hideK (HOW.out w5 HP5.out.2.1);clear k0 k1 k2 c3;generalize drP g h (pa,pb,pt)=d at *;have hb6:Below w5.heap.size w5 (w5.alloc (.cells #[.int .i64 d.kind,.int .i64 d.so,.slice al d.labs.length cl,.slice at1 (nums ps d.nxt).length ct,.int .i64 d.spare,.slice none 0 0] 58)):=(Below.refl _ _).alloc (Nat.le_refl _) _;refine onU 10 (fun K hK=>?_)
   go_simp
   have hSn:=HS5.out _ hb6;refine hK.out _ _ hSn ?_;clear hS hK K hSn;intro hS;try simp only [Act.put,sA,sB,sC]
   have OB6:=hideK (own_belowG OB.out hb6);have LB6:=hideK (World.ownsRow_lit (base:=w.heap.size) (e:=58) (size:=6) w5 #[.int .i64 d.kind,.int .i64 d.so,.slice al d.labs.length cl,.slice at1 (nums ps d.nxt).length ct,.int .i64 d.spare,.slice none 0 0] 1 hsz5 (by decide) rfl)
   refine onU 11 (fun K hK=>?_)
   refine step_append_rows _ rfl (.tmp 24) (.tmp 33) 48 rfl w.heap.size w.heap.size 58 i1 _ 6 96 Tryz.underlying48 hj hy0 hy1 hy2 rfl (by decide) _ _ _ rfl OB6.out _ _ _ rfl LB6.out (by simp [Value.oneCell']) (by unfold maxLen;omega) (by omega) (by simp;omega) ?_
   intro v7 w7 hO7 hg7 hat7;have HN:=hideK (fun (V:World) (e:V=w7.setCell ⟨db,4,none⟩ v7)=>show BL g h w db mb (.slice ag g.length cg) (.slice ah h.length ch) (0,0,t) _ _ u' v7 V from e ▸ HSTEP.out u' w5 w7 _ v7 al cl at1 ct HP5.out.1 HP5.out.2.1 HP5.out.2.2.1 HP5.out.2.2.2.1 HP5.out.2.2.2.2 hg7 hO7 hat7)
   have hS7:w7.cell? ⟨db,4,none⟩=some (.slice da ts.length dc):=(World.cell?_of_block (a:=⟨db,4,none⟩) (hg7.block db (by have:=HP5.out.1.ls;simp;omega) HDN.out)).trans (HS5.out _ hb6)
   have hf7:w7.frozen? ⟨db,4,none⟩=false:=(World.frozen?_of_block (a:=⟨db,4,none⟩) (hg7.block db (by have:=HP5.out.1.ls;simp;omega) HDN.out)).trans ((hb6.frozen (p:=⟨db,4,none⟩) HP5.out.1.ls).trans HP5.out.1.f4)
   obtain ⟨va7,vc7,rfl⟩:=sliceH_own hO7;clear hO7 hg7 hat7 hb6 OB OB6 LB6 HS5;have hSn:=hS7;refine hK.out _ _ hSn ?_;clear hS hK K hSn;intro hS;try simp only [Act.put,sA,sB,sC]
   refine onU 12 (fun K hK=>?_)
   go_simp
   have hSn:=hS;refine hK.out _ _ hSn ?_;clear hS hK K hSn;intro hS;try simp only [Act.put,sA,sB,sC]
   have x7:=hS;refine upto_last (by rw [List.getElem?_toArray];rfl) (by kernel_rfl) (fun K hK=>?_)
   go_simp
   refine hK.out _ _ ?_;clear hS hK K;refine upto_done (by kernel_rfl) ?_ _
   refine inB ?_;go_wp2_with fail
   go_roundg (gk - 1)
   case measure=>omega
   case rel=>exact ⟨_,_,_,_,by simp;omega,HN.out _ rfl⟩
  ·have hltz:¬(ts.length:Int)<(ps.length:Int):=by omega
   have he:ts.length=ps.length:=by omega
   have hn0:0<ts.length:=by
    have:=hL.di.hd;rcases List.getElem?_eq_some_iff.1 this with ⟨q,_⟩
    omega
   obtain ⟨gd,cap,e1,hgB,hGS⟩:=hL.gs hn0;injection e1 with e1 e2 e3
   clear e2;subst e1 e3;have HF:=hideK (hL.fit HGG.out.1 HGG.out.2.1 he);have c5:=giveUp_any db gd dc ts wr hGS (by omega) (fun q hq=>(HF.out q hq).1) (fun q hq=>(HF.out q hq).2.1) (fun q hq=>(hL.ok q hq).2.keep (fun _ _ _=>rfl) (fun b hp=>⟨hp.1,fun e=>hp.2.2.2.2 (by rw [e];rfl)⟩)) (fun q hq=>(HF.out q hq).2.2.1)
   have HL:=hideK hL;clear hGS hL;unfold GUPost at c5;go_wp2_with fail
   refine c5.mono ?_;rintro e w5 ⟨rfl,sp,nb,nl,gv,gone,hE,hG⟩;have c4':=hG.c4;have r0:=hG.r4 0 hn0;simp only [Nat.zero_mul,Nat.zero_add]at r0;obtain ⟨hBN,hal,hRC⟩:=HL.out.plain he hE;have HPL:=hideK (And.intro hBN (And.intro hal hRC));have hbw:Below w.heap.size w w5:=HL.out.z.bl.trans ⟨hG.os_,hG.tp_,hG.ot_,by have:=hG.sz;have:=HL.out.z.bl.size;omega,fun b hb=>hG.fr b (by have:=HL.out.z.bl.size;omega) (by omega)⟩
   have HBW:=hideK hbw;have hnz:(0:Int)<(ts.length:Int):=by omega
   have HLWf:=hideK (fun (ha:alK sp 0=true)=>LW.of HGG.out.1 HGG.out.2.1 HL.out he hn0 rfl hG ha)
   have hrN:ts.length≤1000000:=by omega
   clear c5 hE hG hBN hal hRC hbw c3 c4 HL HF;by_cases hs:sp.getD 0 0<0
   ·have HA:=hideK (show alK sp 0=false by unfold alK;exact decide_eq_false (by omega))
    generalize sp.getD 0 0=s0 at *;go_wp2_with fail
    go_ret2
    exact ⟨HBW.out,_,_,HPL.out.1,.inl ⟨by rw [HPL.out.2.1];exact HA.out,rfl⟩⟩
   ·have HA:=hideK (show alK sp 0=true by unfold alK;exact decide_eq_true (by omega))
    have cl:=left_any w5 db gd dc ts sp (HLWf.out HA.out);have HRL:=hideK (fun R (h:RI (ts.map (·.nd)) sp R R.length)=>h.len)
    generalize sp.getD 0 0=s0 at *;go_wp2_with fail
    refine cl.mono ?_;rintro e w6 ⟨⟨R,ao,co,hRI,rfl,hGA⟩,hb6⟩;obtain ⟨hRCH,hLF⟩:=HPL.out.2.2 R hRI;have hRn:=HRL.out R hRI;rw [List.length_map]at hRn;rw [hLF]at hGA;have HB6:=hideK (HBW.out.trans (hb6.mono HBW.out.size));have hQl:(R.map (atZ ps (0,0,t))).length=R.length:=List.length_map _;have HR:=hideK hRCH;clear cl hb6 hRI hRCH hLF HRL c4' r0;by_cases h200:R.length≤200
    ·have hbi:=bnd_is HGG.out.1 HGG.out.2.1 HPL.out.1 HR.out (by omega)
     have hLl:(lfG g h (alZ ps sp) (R.map (atZ ps (0,0,t)))).length=R.length:=by unfold lfG;rw [List.length_map,List.length_map]
     have c8:=leastG_any (lfG g h (alZ ps sp) (R.map (atZ ps (0,0,t)))) ao co w6.heap.size w6 hbi.gn hGA (Nat.le_refl _);rw [hLl]at c8;clear hbi hGA hLl;go_wp2_with fail
     refine c8.mono ?_;rintro e w7 ⟨⟨c,hC,ao',co',rfl,hGA'⟩,hb7⟩;have HE:=hideK (And.intro hC (And.intro hGA' (HB6.out.trans (hb7.mono HB6.out.size))));clear c8 hC hGA' hb7;go_wp2_with fail
     go_ret2
     exact ⟨HE.out.2.2,_,_,HPL.out.1,.inr ⟨_,HR.out,.inr ⟨by omega,_,HE.out.1,_,_,rfl,HE.out.2.1⟩⟩⟩
    ·have c8:=leastLarge_any R.length co ao w6 (by omega) (by omega)
     clear hGA;go_wp2_with fail
     refine c8.mono ?_;rintro e w7 ⟨rfl,hb7⟩;have HE:=hideK (HB6.out.trans (hb7.mono HB6.out.size));clear c8 hb7;go_wp2_with fail
     go_ret2
     exact ⟨HE.out,_,_,HPL.out.1,.inr ⟨_,HR.out,.inl ⟨by omega,rfl⟩⟩⟩
theorem stepB_any(w0:World)(sb mb:Nat)(arr:List (Ag Pl))(u:Value)(wd:ByteArray)(p:Pl)(k:Nat)(w:World)(hs:SWB w0 sb mb arr u w)(hl:arr.length≤1000000)(hsm:∀q∈plG arr,smB q)(hp:smB p):
  Calls Tryz.prog 91 #[.pointer (some ⟨sb,0,none⟩),.int .i64 (k:Int),.string wd,pkB p] w fun e w'=>e = .returned (.tuple #[])∧∃u',SWB w0 sb mb (addG arr (wd,p) k) u' w'∧RF mb sb u.ownBlock w w'∧(u'.ownBlock=u.ownBlock∨∀j,u'.ownBlock=some j→w.heap.size≤j):=by
 obtain ⟨pa,pb,tt⟩:=p;obtain ⟨i1,hj,hy0,hy1,hy2⟩:=info_parts infoAvB;have hA:Below w.heap.size w (w.alloc (.cells #[.int .i64 (pa:Int),.int .i64 (pb:Int),.bool tt] 53)):=(Below.refl _ _).alloc (Nat.le_refl _) _;have sA:=hs.kept hA;have bA:PBB w.heap.size (pa,pb,tt) (w.alloc (.cells #[.int .i64 (pa:Int),.int .i64 (pb:Int),.bool tt] 53)):=⟨by go_cell,by go_cell,by go_cell⟩
 have hsz:(w.alloc (.cells #[.int .i64 (pa:Int),.int .i64 (pb:Int),.bool tt] 53)).heap.size=w.heap.size+1:=by simp
 have hlt:=hs.ls;have hlm:=hs.mp.lt;have hown:=fun b (e:u.ownBlock=some b)=>(hs.own.lt b e).2
 have HOW:=hideK hown;have HA:=hideK hA;have HSA:=hideK sA;have HBA:=hideK bA;clear hown;by_cases hm:((pa,pb,tt):Pl)∈plG arr
 ·have HLK:=hideK (fun (W:World) (h:MPB W mb (plG arr))=>lookB_in h hsm hm)
  simp only [pkB]at HLK ⊢;have HAD:=hideK (show addG arr (wd,(pa,pb,tt)) k=arr from if_pos hm)
  clear hA sA bA hm hs;go_enter Tryz.func91,Tryz.ntmps91
  go_wp2_with fail
  generalize (w.alloc (.cells #[.int .i64 (pa:Int),.int .i64 (pb:Int),.bool tt] 53))=V at *;refine wp_region_held_drew (S:=(fun W:World=>PBB w.heap.size (pa,pb,tt) W∧W.cell? ⟨sb,0,none⟩=some (.map (some mb))∧MPB W mb (plG arr))) (by kernel_rfl) ⟨HBA.out,HSA.out.c0,HSA.out.mp⟩ (fun hS=>?_)
  refine tkH 0 (.pointer (some ⟨sb,0,none⟩)) hS ?_;simp only [Act.put,sA,sB,sC];refine tkH 1 (.pointer (some ⟨sb,0,none⟩)) hS ?_;simp only [Act.put,sA,sB,sC];refine tkH 2 (.pointer (some ⟨sb,0,none⟩)) hS ?_;simp only [Act.put,sA,sB,sC];refine tkH 3 (.map (some mb)) hS ?_ (hy:=Or.inl ⟨by rfl,fun W hW=>by have x0:=hW.2.1;go_simp⟩)
  simp only [Act.put,sA,sB,sC];refine tkH 4 (.agg #[.int .i64 (pa:Int),.int .i64 (pb:Int),.bool tt]) hS ?_ (hy:=Or.inl ⟨by rfl,fun W hW=>by obtain ⟨⟨x0,x1,x2⟩,_⟩:=hW;go_simp⟩)
  simp only [Act.put,sA,sB,sC];refine tkH 5 (.tuple #[.agg #[],.bool true]) hS ?_ (hy:=Or.inl ⟨by rfl,fun W hW=>by have q:=HLK.out W hW.2.2;simp [execOp,q,Result.andThen,go_sem]⟩)
  simp only [Act.put,sA,sB,sC];refine tkH 6 (.tuple #[.agg #[],.bool true]) hS ?_;simp only [Act.put,sA,sB,sC];refine tkH 7 (.agg #[]) hS ?_;simp only [Act.put,sA,sB,sC];refine tkH 8 (.bool true) hS ?_;simp only [Act.put,sA,sB,sC];refine take_oneHL 9 (AllReadyH.cons (by rw [List.getElem?_toArray];rfl) (fun K hK=>?_) AllReadyH.nil) (by kernel_rfl)
  go_simp
  have hSn:=(⟨HBA.out.keep (fun o=>World.cell?_of_block (a:=⟨w.heap.size,o,none⟩) (heap_alloc_old V _ (by show w.heap.size<V.heap.size;omega))),(World.cell?_of_block (a:=⟨sb,0,none⟩) (heap_alloc_old V _ HSA.out.ls)).trans HSA.out.c0,HSA.out.mp.blk (heap_alloc_old V _ HSA.out.mp.lt)⟩:PBB w.heap.size (pa,pb,tt) (V.drew.alloc (.cells #[] 99))∧(V.drew.alloc (.cells #[] 99)).cell? ⟨sb,0,none⟩=some (.map (some mb))∧MPB (V.drew.alloc (.cells #[] 99)) mb (plG arr))
  refine hK.out _ _ hSn ?_;clear hS hK K hSn;intro hS;refine take_oneHL 10 (AllReadyH.cons (by rw [List.getElem?_toArray];rfl) (fun K hK=>?_) AllReadyH.nil) (by kernel_rfl)
  go_simp
  have hSn:=hS;refine hK.out _ _ hSn ?_;clear hS hK K hSn;intro hS;refine take_oneHL 11 (AllReadyH.cons (by rw [List.getElem?_toArray];rfl) (fun K hK=>?_) AllReadyH.nil) (by kernel_rfl)
  go_simp
  have hSn:=hS;refine hK.out _ _ hSn ?_;clear hS hK K hSn;intro hS;refine wpAnyH_done (by kernel_rfl) ?_ _
  go_wp2_with fail
  refine bodyPost_ret (results_none rfl _ _ _) rfl ?_;exact ⟨rfl,u,by rw [HAD.out];exact HSA.out.kept ((Below.refl _ _).drew.alloc (Nat.le_refl _) _),RF.of (HA.out.trans (((Below.refl _ _).drew.alloc (Nat.le_refl _) _).mono HA.out.size)),.inl rfl⟩
 ·have HLK:=hideK (fun (W:World) (h:MPB W mb (plG arr))=>(lookB_out h hsm hp hm).1)
  have HUP:=hideK (fun (W:World) (h:MPB W mb (plG arr))=>(lookB_out h hsm hp hm).2)
  simp only [pkB]at HLK HUP ⊢;have HAD:=hideK (show addG arr (wd,(pa,pb,tt)) k=arr++[((wd,(pa,pb,tt)),k)] from if_neg hm)
  clear hA sA bA hm hs;go_enter Tryz.func91,Tryz.ntmps91
  go_wp2_with fail
  generalize (w.alloc (.cells #[.int .i64 (pa:Int),.int .i64 (pb:Int),.bool tt] 53))=V at *;refine wp_region_held_drew (S:=(fun W:World=>PBB w.heap.size (pa,pb,tt) W∧W.cell? ⟨sb,0,none⟩=some (.map (some mb))∧MPB W mb (plG arr))) (by kernel_rfl) ⟨HBA.out,HSA.out.c0,HSA.out.mp⟩ (fun hS=>?_)
  refine tkH 0 (.pointer (some ⟨sb,0,none⟩)) hS ?_;simp only [Act.put,sA,sB,sC];refine tkH 1 (.pointer (some ⟨sb,0,none⟩)) hS ?_;simp only [Act.put,sA,sB,sC];refine tkH 2 (.pointer (some ⟨sb,0,none⟩)) hS ?_;simp only [Act.put,sA,sB,sC];refine tkH 3 (.map (some mb)) hS ?_ (hy:=Or.inl ⟨by rfl,fun W hW=>by have x0:=hW.2.1;go_simp⟩)
  simp only [Act.put,sA,sB,sC];refine tkH 4 (.agg #[.int .i64 (pa:Int),.int .i64 (pb:Int),.bool tt]) hS ?_ (hy:=Or.inl ⟨by rfl,fun W hW=>by obtain ⟨⟨x0,x1,x2⟩,_⟩:=hW;go_simp⟩)
  simp only [Act.put,sA,sB,sC];refine tkH 5 (.tuple #[.agg #[],.bool false]) hS ?_ (hy:=Or.inl ⟨by rfl,fun W hW=>by have q:=HLK.out W hW.2.2;simp [execOp,q,Result.andThen,go_sem]⟩)
  simp only [Act.put,sA,sB,sC];refine tkH 6 (.tuple #[.agg #[],.bool false]) hS ?_;simp only [Act.put,sA,sB,sC];refine tkH 7 (.agg #[]) hS ?_;simp only [Act.put,sA,sB,sC];refine tkH 8 (.bool false) hS ?_;simp only [Act.put,sA,sB,sC];refine take_oneHL 9 (AllReadyH.cons (by rw [List.getElem?_toArray];rfl) (fun K hK=>?_) AllReadyH.nil) (by kernel_rfl)
  go_simp
  have hSn:=(⟨HBA.out.keep (fun o=>World.cell?_of_block (a:=⟨w.heap.size,o,none⟩) (heap_alloc_old V _ (by show w.heap.size<V.heap.size;omega))),(World.cell?_of_block (a:=⟨sb,0,none⟩) (heap_alloc_old V _ HSA.out.ls)).trans HSA.out.c0,HSA.out.mp.blk (heap_alloc_old V _ HSA.out.mp.lt)⟩:PBB w.heap.size (pa,pb,tt) (V.drew.alloc (.cells #[] 99))∧(V.drew.alloc (.cells #[] 99)).cell? ⟨sb,0,none⟩=some (.map (some mb))∧MPB (V.drew.alloc (.cells #[] 99)) mb (plG arr))
  refine hK.out _ _ hSn ?_;clear hS hK K hSn;intro hS;refine take_oneHL 10 (AllReadyH.cons (by rw [List.getElem?_toArray];rfl) (fun K hK=>?_) AllReadyH.nil) (by kernel_rfl)
  go_simp
  have hSn:=hS;refine hK.out _ _ hSn ?_;clear hS hK K hSn;intro hS;refine take_oneHL 11 (AllReadyH.cons (by rw [List.getElem?_toArray];rfl) (fun K hK=>?_) AllReadyH.nil) (by kernel_rfl)
  go_simp
  have hSn:=hS;refine hK.out _ _ hSn ?_;clear hS hK K hSn;intro hS;refine wpAnyH_done (by kernel_rfl) ?_ _
  go_wp2_with fail
  have hV2:Below V.heap.size V (V.alloc (.cells #[] 99)).drew:=((Below.refl _ _).alloc (Nat.le_refl _) _).drew;have HS2:=hideK (HSA.out.kept hV2);have HA2:=hideK (HA.out.trans (hV2.mono HA.out.size));have hsz2:(V.alloc (.cells #[] 99)).drew.heap.size=w.heap.size+2:=by simp [hsz]
  have HB2:=hideK hS.1;clear hS hV2;generalize (V.alloc (.cells #[] 99)).drew=V2 at *;refine wp_region_held_drew (S:=(fun W:World=>PBB w.heap.size (pa,pb,tt) W∧W.cell? ⟨sb,0,none⟩=some (.map (some mb)))) (by kernel_rfl) ⟨HB2.out,HS2.out.c0⟩ (fun hS=>?_)
  refine tkH 0 (.pointer (some ⟨sb,0,none⟩)) hS ?_;simp only [Act.put,sA,sB,sC];refine tkH 1 (.pointer (some ⟨sb,0,none⟩)) hS ?_;simp only [Act.put,sA,sB,sC];refine tkH 2 (.pointer (some ⟨sb,0,none⟩)) hS ?_;simp only [Act.put,sA,sB,sC];refine tkH 3 (.map (some mb)) hS ?_ (hy:=Or.inl ⟨by rfl,fun W hW=>by have x0:=hW.2;go_simp⟩)
  simp only [Act.put,sA,sB,sC];refine tkH 4 (.agg #[.int .i64 (pa:Int),.int .i64 (pb:Int),.bool tt]) hS ?_ (hy:=Or.inl ⟨by rfl,fun W hW=>by obtain ⟨⟨x0,x1,x2⟩,_⟩:=hW;go_simp⟩)
  simp only [Act.put,sA,sB,sC];refine tkH 5 (.agg #[]) hS ?_;simp only [Act.put,sA,sB,sC];obtain ⟨V3,hrun,hg3,hz3,hm3⟩:=HUP.out V2.drew (HS2.out.mp.blk rfl);have hs3:=(HS2.out.kept (Below.refl _ _).drew).upd hg3 hm3;have b3:PBB w.heap.size (pa,pb,tt) V3:=HB2.out.keep fun o=>World.cell?_of_block (a:=⟨w.heap.size,o,none⟩) (hg3.block w.heap.size (by show w.heap.size<V2.heap.size;omega) (fun e=>by injection e with e;omega))
  refine take_oneHL 6 (AllReadyH.cons (by rw [List.getElem?_toArray];rfl) (fun K hK=>?_) AllReadyH.nil) (by kernel_rfl)
  refine stepUpdB rfl (.tmp 23) (.tmp 24) (.tmp 25) 170 (.inl rfl) rfl rfl rfl hrun ?_;have hSn:PBB w.heap.size (pa,pb,tt) V3∧V3.cell? ⟨sb,0,none⟩=some (.map (some mb)):=⟨b3,hs3.c0⟩;refine hK.out _ _ hSn ?_;clear hS hK K hSn;intro hS;refine wpAnyH_done (by kernel_rfl) ?_ _
  have HR3:=hideK (show RF mb sb u.ownBlock w V3 from (RF.of HA2.out).trans ⟨hg3.os,hg3.tape,hg3.output,hg3.size,fun b hb h1 _ _=>hg3.block b hb (fun e=>h1 (by injection e))⟩ (.inl rfl))
  have hsz3:V3.heap.size=w.heap.size+2:=hz3.trans hsz2;have HS3:=hideK hs3;have HB3:=hideK b3;clear hS hs3 b3 hrun hg3 hz3 hm3 HS2 HB2 HUP HLK HSA HBA HA HA2 hsz hsz2;go_wp2_with fail
  have HP:=hideK (fun (w7:World) (v7:Value) (hg:(V3.alloc (.cells #[.int .i64 (pa:Int),.int .i64 (pb:Int),.bool tt,.string wd,.int .i64 (k:Int)] 172)).drew.grownBy w7 u.ownBlock) (hO:w7.ownsRow w0.heap.size 172 5 v7 (arr.length+1) (avB arr++aCB ((wd,(pa,pb,tt)),k))) (hat:v7.ownBlock=u.ownBlock∨v7.ownBlock=some (V3.alloc (.cells #[.int .i64 (pa:Int),.int .i64 (pb:Int),.bool tt,.string wd,.int .i64 (k:Int)] 172)).drew.heap.size)=>(HS3.out.kept (Below.refl _ _).drew).put rfl hg hO hat)
  have hpA:V3.drew.cell? ⟨sb,1,none⟩=some u:=HS3.out.c1;have hls3:sb<V3.drew.heap.size:=HS3.out.ls;have hpB:(V3.alloc (.cells #[.int .i64 (pa:Int),.int .i64 (pb:Int),.bool tt,.string wd,.int .i64 (k:Int)] 172)).drew.cell? ⟨sb,1,none⟩=some u:=(World.cell?_of_block (a:=⟨sb,1,none⟩) (heap_alloc_old V3.drew _ hls3)).trans hpA;have HOA:=hideK (own_belowG HS3.out.own ((Below.refl _ _).alloc (Nat.le_refl _) (.cells #[.int .i64 (pa:Int),.int .i64 (pb:Int),.bool tt,.string wd,.int .i64 (k:Int)] 172)).drew);have hw03:w0.heap.size≤V3.heap.size:=HS3.out.bl.size;have HLR:=hideK (show (V3.alloc (.cells #[.int .i64 (pa:Int),.int .i64 (pb:Int),.bool tt,.string wd,.int .i64 (k:Int)] 172)).drew.ownsRow w0.heap.size 172 5 (.slice (some ⟨w.heap.size+2,0,none⟩) 1 1) 1 (aCB ((wd,(pa,pb,tt)),k)) from by
   have h:=World.ownsRow_lit (base:=w0.heap.size) (e:=172) (size:=5) V3.drew #[.int .i64 (pa:Int),.int .i64 (pb:Int),.bool tt,.string wd,.int .i64 (k:Int)] 1 hw03 (by decide) rfl
   rw [show V3.drew.heap.size=w.heap.size+2 from hsz3]at h
   exact h)
  have hw04:w0.heap.size≤(V3.alloc (.cells #[.int .i64 (pa:Int),.int .i64 (pb:Int),.bool tt,.string wd,.int .i64 (k:Int)] 172)).drew.heap.size:=by rw [show (V3.alloc (.cells #[.int .i64 (pa:Int),.int .i64 (pb:Int),.bool tt,.string wd,.int .i64 (k:Int)] 172)).drew.heap.size=V3.heap.size+1 from by simp];omega
  have HBX:=hideK (show PBB w.heap.size (pa,pb,tt) (V3.alloc (.cells #[.int .i64 (pa:Int),.int .i64 (pb:Int),.bool tt,.string wd,.int .i64 (k:Int)] 172)).drew from HB3.out.keep fun o=>World.cell?_of_block (a:=⟨w.heap.size,o,none⟩) (heap_alloc_old V3.drew _ (by show w.heap.size<V3.heap.size;omega)))
  have HUN:=hideK (show some w.heap.size≠u.ownBlock from fun e=>by have:=HOW.out _ e.symm;omega)
  have HG:=hideK (fun (w7:World) (hg:(V3.alloc (.cells #[.int .i64 (pa:Int),.int .i64 (pb:Int),.bool tt,.string wd,.int .i64 (k:Int)] 172)).drew.grownBy w7 u.ownBlock)=>show PBB w.heap.size (pa,pb,tt) w7∧w7.cell? ⟨sb,1,none⟩=some u∧w7.frozen? ⟨sb,1,none⟩=false from ⟨HBX.out.keep fun o=>World.cell?_of_block (a:=⟨w.heap.size,o,none⟩) (hg.block w.heap.size (by simp;omega) HUN.out),(World.cell?_of_block (a:=⟨sb,1,none⟩) (hg.block sb (by simp;omega) (fun e=>HS3.out.us e.symm))).trans hpB,(World.frozen?_of_block (a:=⟨sb,1,none⟩) ((hg.block sb (by simp;omega) (fun e=>HS3.out.us e.symm)).trans (heap_alloc_old V3.drew _ hls3))).trans HS3.out.f1⟩)
  refine wp_region_held_drew (S:=(PBB w.heap.size (pa,pb,tt))) (by kernel_rfl) HB3.out (fun hS=>?_)
  refine tkH 0 (.pointer (some ⟨sb,0,none⟩)) hS ?_;simp only [Act.put,sA,sB,sC];refine tkH 1 (.pointer (some ⟨sb,0,none⟩)) hS ?_;simp only [Act.put,sA,sB,sC];refine tkH 2 (.pointer (some ⟨sb,0,none⟩)) hS ?_;simp only [Act.put,sA,sB,sC];refine tkH 3 (.pointer (some ⟨sb,1,none⟩)) hS ?_;simp only [Act.put,sA,sB,sC];refine tkH 5 (.agg #[.int .i64 (pa:Int),.int .i64 (pb:Int),.bool tt]) hS ?_ (hy:=Or.inl ⟨by rfl,fun W hW=>by obtain ⟨x0,x1,x2⟩:=hW;go_simp⟩)
  simp only [Act.put,sA,sB,sC];refine tkH 6 (.string wd) hS ?_;simp only [Act.put,sA,sB,sC];refine tkH 7 (.int .i64 (k:Int)) hS ?_;simp only [Act.put,sA,sB,sC];refine tkH 8 (.agg #[.int .i64 (pa:Int),.int .i64 (pb:Int),.bool tt,.string wd,.int .i64 (k:Int)]) hS ?_;simp only [Act.put,sA,sB,sC];refine wpAnyH_ready (rs:=[4,9]) (by kernel_rfl) (by simp) (AllReadyH.cons (by rw [List.getElem?_toArray];rfl) (fun K hK=>?_) (AllReadyH.cons (by rw [List.getElem?_toArray];rfl) (fun K hK=>?_) AllReadyH.nil))
  ·go_simp
   have hSn:=hS;refine hK.out _ _ hSn ?_;clear hS hK K hSn;intro hS;refine take_oneHL 9 (AllReadyH.cons (by rw [List.getElem?_toArray];rfl) (fun K hK=>?_) AllReadyH.nil) (by kernel_rfl)
   go_simp
   have hSn:=HBX.out;refine hK.out _ _ hSn ?_;clear hS hK K hSn;intro hS;refine take_oneHL 10 (AllReadyH.cons (by rw [List.getElem?_toArray];rfl) (fun K hK=>?_) AllReadyH.nil) (by kernel_rfl)
   refine step_append_rows _ rfl (.tmp 30) (.tmp 35) 173 rfl w0.heap.size w0.heap.size 172 i1 _ 5 48 Tryz.underlying173 hj hy0 hy1 hy2 rfl (by decide) _ _ _ rfl HOA.out _ _ _ rfl HLR.out (aCB_one ((wd,(pa,pb,tt)),k)) (by unfold maxLen;omega) (by omega) hw04 ?_
   intro v7 w7 hO7 hg7 hat7;have hSn:=(HG.out _ hg7).1;refine hK.out _ _ hSn ?_;clear hS hK K hSn;intro hS;simp only [Act.put,sA,sB,sC];refine tkH 11 (.pointer (some ⟨sb,0,none⟩)) hS ?_;simp only [Act.put,sA,sB,sC];refine tkH 12 (.pointer (some ⟨sb,1,none⟩)) hS ?_;simp only [Act.put,sA,sB,sC];have pc7:=(HG.out _ hg7).2.1;have pf7:=(HG.out _ hg7).2.2;have HP7:=hideK (HP.out w7 v7 hg7 hO7 hat7);obtain ⟨va,vc,rfl⟩:=sliceH_own hO7;clear hO7 hg7 hat7;refine take_oneHL 13 (AllReadyH.cons (by rw [List.getElem?_toArray];rfl) (fun K hK=>?_) AllReadyH.nil) (by kernel_rfl)
   go_simp
   have hSn:=(hS.keep fun o=>World.cell?_setCell_other _ _ _ _ (by intro e;injection e with e;omega):PBB w.heap.size (pa,pb,tt) (w7.setCell ⟨sb,1,none⟩ (.slice va (arr.length+1) vc)))
   refine hK.out _ _ hSn ?_;clear hS hK K hSn;intro hS;refine wpAnyH_done (by kernel_rfl) ?_ _
   go_wp2_with fail
   go_end0
   exact ⟨rfl,_,by rw [HAD.out];exact HP7.out.1,HR3.out.trans (HP7.out.2.1.drewLB) (.inl rfl),HP7.out.2.2.imp id fun f j hj=>Nat.le_trans HR3.out.size (f j hj)⟩
  ·go_simp
   have hSn:=HBX.out;refine hK.out _ _ hSn ?_;clear hS hK K hSn;intro hS;refine take_oneHL 4 (AllReadyH.cons (by rw [List.getElem?_toArray];rfl) (fun K hK=>?_) AllReadyH.nil) (by kernel_rfl)
   go_simp
   have hSn:=hS;refine hK.out _ _ hSn ?_;clear hS hK K hSn;intro hS;refine take_oneHL 10 (AllReadyH.cons (by rw [List.getElem?_toArray];rfl) (fun K hK=>?_) AllReadyH.nil) (by kernel_rfl)
   refine step_append_rows _ rfl (.tmp 30) (.tmp 35) 173 rfl w0.heap.size w0.heap.size 172 i1 _ 5 48 Tryz.underlying173 hj hy0 hy1 hy2 rfl (by decide) _ _ _ rfl HOA.out _ _ _ rfl HLR.out (aCB_one ((wd,(pa,pb,tt)),k)) (by unfold maxLen;omega) (by omega) hw04 ?_
   intro v7 w7 hO7 hg7 hat7;have hSn:=(HG.out _ hg7).1;refine hK.out _ _ hSn ?_;clear hS hK K hSn;intro hS;simp only [Act.put,sA,sB,sC];refine tkH 11 (.pointer (some ⟨sb,0,none⟩)) hS ?_;simp only [Act.put,sA,sB,sC];refine tkH 12 (.pointer (some ⟨sb,1,none⟩)) hS ?_;simp only [Act.put,sA,sB,sC];have pc7:=(HG.out _ hg7).2.1;have pf7:=(HG.out _ hg7).2.2;have HP7:=hideK (HP.out w7 v7 hg7 hO7 hat7);obtain ⟨va,vc,rfl⟩:=sliceH_own hO7;clear hO7 hg7 hat7;refine take_oneHL 13 (AllReadyH.cons (by rw [List.getElem?_toArray];rfl) (fun K hK=>?_) AllReadyH.nil) (by kernel_rfl)
   go_simp
   have hSn:=(hS.keep fun o=>World.cell?_setCell_other _ _ _ _ (by intro e;injection e with e;omega):PBB w.heap.size (pa,pb,tt) (w7.setCell ⟨sb,1,none⟩ (.slice va (arr.length+1) vc)))
   refine hK.out _ _ hSn ?_;clear hS hK K hSn;intro hS;refine wpAnyH_done (by kernel_rfl) ?_ _
   go_wp2_with fail
   go_end0
   exact ⟨rfl,_,by rw [HAD.out];exact HP7.out.1,HR3.out.trans (HP7.out.2.1.drewLB) (.inl rfl),HP7.out.2.2.imp id fun f j hj=>Nat.le_trans HR3.out.size (f j hj)⟩
end Go.Proofs.YtnedgkcejlhnbaaGreatDoor
