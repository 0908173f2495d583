/-
  The contract of (*below.drafting).draftAt.
-/
import Derived.Test.YtnedgkcejlhnbaaGreatDoorSz
import Derived.Test.YtnedgkcejlhnbaaGreatDoorZm
set_option maxRecDepth 100000
set_option maxHeartbeats 8000000
namespace Go.Proofs.YtnedgkcejlhnbaaGreatDoor
open Go.RowKit Go.Shelf
section
variable {P:Program} {ops:Array Oper} {Q:Exit→Act→World→Prop} {md:Region.Mode} {S:World→Prop} {stop:Nat}
theorem upto_two{n:Nat}{done:Array Bool}{a:Act}{w:World}(i j:Nat){o o':Oper}(ho:ops[i]? = some o)(ho':ops[j]? = some o')(hr:Region.ready md ops done=[i,j])
  (h:∀K':Act→World→Prop,Shut (∀a w,S w→(S w→wpUpto P md ops Q S stop n (done.setIfInBounds i true) a w)→K' a w)→if Region.wanted o (yielded ops a.tmps)=true then Oper.wp P o a w K' Q else K' (a.put o.dst undef) w)
  (h':∀K':Act→World→Prop,Shut (∀a w,S w→(S w→wpUpto P md ops Q S stop n (done.setIfInBounds j true) a w)→K' a w)→if Region.wanted o' (yielded ops a.tmps)=true then Oper.wp P o' a w K' Q else K' (a.put o'.dst undef) w):wpUpto P md ops Q S stop (n+1) done a w:=by
 refine ⟨fun q=>absurd (hr.symm.trans q) (by simp),fun k hk=>?_⟩
 rw [hr]at hk;rcases List.mem_cons.1 hk with e|hk
 ·subst e;exact wpOp_step ho fun K' hK=>h K' fun a w hS hW=>hK a w ⟨fun _=>hS,hW hS⟩
 ·rw [List.mem_singleton]at hk
  subst hk;exact wpOp_step ho' fun K' hK=>h' K' fun a w hS hW=>hK a w ⟨fun _=>hS,hW hS⟩
end
theorem DPost.fin{w0 w w2 w5:World}{db mb rb B:Nat}{ca cb ud:Value}{d:Dr}{ps:List Pz}{u u':Value}{al:OAd}{at1:OAd}(hb:Below w.heap.size w w2)(hrb:w.heap.size≤rb)(hr2:rb<w2.heap.size)(hB:B≤w0.heap.size)(h0:w0.heap.size≤w.heap.size)(hdb:db<w.heap.size)(hmb:mb<w.heap.size)(hub:∀j,u.ownBlock=some j→j<w.heap.size)
  (hz:ZW w0 db mb ca cb ud (d.nxt.foldl addZ ps) u' w5) (hr:RF mb db u.ownBlock w2 w5) (hf:u'.ownBlock=u.ownBlock∨∀j,u'.ownBlock=some j→w2.heap.size≤j) (hl:LQ w5 (PD B w2 w5 u') d.labs al) (hn:NQ w5 (PD B w2 w5 u') (nums ps d.nxt) at1) (v0 v1 v2 v3 v4 v5:Value) :
  ZW w0 db mb ca cb ud (d.nxt.foldl addZ ps) u' (sx6 w5 rb v0 v1 v2 v3 v4 v5)∧RF mb db u.ownBlock w (sx6 w5 rb v0 v1 v2 v3 v4 v5)∧(u'.ownBlock=u.ownBlock∨∀j,u'.ownBlock=some j→w.heap.size≤j)∧LQ (sx6 w5 rb v0 v1 v2 v3 v4 v5) (PD B w (sx6 w5 rb v0 v1 v2 v3 v4 v5) u') d.labs al∧NQ (sx6 w5 rb v0 v1 v2 v3 v4 v5) (PD B w (sx6 w5 rb v0 v1 v2 v3 v4 v5) u') (nums ps d.nxt) at1:=by
 have hur:u'.ownBlock≠some rb:=fun e=>by
  rcases hf with q|q
  ·have:=hub rb (q ▸ e);omega
  ·have:=q rb e;omega
 have hs2:=hb.size;have hs5:=hr.size;have hbl:=sx6_bl w5 rb v0 v1 v2 v3 v4 v5;have hk:∀b o,PD B w2 w5 u' b→(sx6 w5 rb v0 v1 v2 v3 v4 v5).cell? ⟨b,o,none⟩=w5.cell? ⟨b,o,none⟩:=fun b o hp=>World.cell?_of_block (a:=⟨b,o,none⟩) (sx6_block _ _ _ _ _ _ _ _ b (by have:=hp.2.1;omega))
 have hq:∀b,PD B w2 w5 u' b→PD B w (sx6 w5 rb v0 v1 v2 v3 v4 v5) u' b:=fun b hp=>⟨by rw [sx6_size];exact hp.1,hp.2.1.imp id fun q=>by omega,hp.2.2⟩
 refine ⟨hz.sx (by omega) (by omega) (by omega) hur _ _ _ _ _ _,⟨hbl.os.trans (hr.os.trans hb.os),hbl.tape.trans (hr.tape.trans hb.tape),hbl.output.trans (hr.output.trans hb.output),by rw [sx6_size];omega,fun k hk h1 h2 h3=>?_⟩,hf.imp id fun q j hj=>by have:=q j hj;omega,hl.keep hk hq,hn.keep hk hq⟩
 rw [sx6_block _ _ _ _ _ _ _ _ k (by omega),hr.block k (by omega) h1 h2 h3]
 exact hb.block k hk
theorem draftA_any(g h:List Nd)(ag ah:OAd)(cg ch B:Nat)(w0:World)(db mb:Nat)(ud:Value)(ps:List Pz)(u:Value)(p:Pz)(w:World)(hz:ZW w0 db mb (.slice ag g.length cg) (.slice ah h.length ch) ud ps u w)(hB:B≤w0.heap.size)(hga:GAt w0 B g ag)(_hha:GAt w0 B h ah)(hg:GN g)(_hh:GN h)(o:okZ g h p)
  (hb1:p.2.1 = -1) (hps:∀i,PS (((drP g h p).nxt.take i).foldl addZ ps)) (hsm:∀q∈(drP g h p).nxt,smPz q) :
  Calls Tryz.prog 14 #[.pointer (some ⟨db,0,none⟩),pkZ p] w (DPost w0 db mb (.slice ag g.length cg) (.slice ah h.length ch) ud B (drP g h p) ps u w):=by
 obtain ⟨pa,pb,tt⟩:=p;simp only at hb1;subst hb1;have hA:Below w.heap.size w ((w.alloc (.cells #[.int .i64 pa,.int .i64 (-1),.bool tt] 53)).alloc (.cells #[.int .i64 0,.int .i64 0,.slice none 0 0,.slice none 0 0,.int .i64 0,.slice none 0 0] 58)):=((Below.refl _ _).alloc (Nat.le_refl _) _).alloc (by simp) _
 have hsz:(((w.alloc (.cells #[.int .i64 pa,.int .i64 (-1),.bool tt] 53)).alloc (.cells #[.int .i64 0,.int .i64 0,.slice none 0 0,.slice none 0 0,.int .i64 0,.slice none 0 0] 58))).heap.size=w.heap.size+2:=by simp
 have bA:PBZ w.heap.size (pa,-1,tt) ((w.alloc (.cells #[.int .i64 pa,.int .i64 (-1),.bool tt] 53)).alloc (.cells #[.int .i64 0,.int .i64 0,.slice none 0 0,.slice none 0 0,.int .i64 0,.slice none 0 0] 58)):=⟨by go_cell,by go_cell,by go_cell⟩
 have q4:(∀j,j<6→(((w.alloc (.cells #[.int .i64 pa,.int .i64 (-1),.bool tt] 53)).alloc (.cells #[.int .i64 0,.int .i64 0,.slice none 0 0,.slice none 0 0,.int .i64 0,.slice none 0 0] 58))).frozen? ⟨(w.heap.size+1),j,none⟩=false)∧∀j,j<6→∃v,(((w.alloc (.cells #[.int .i64 pa,.int .i64 (-1),.bool tt] 53)).alloc (.cells #[.int .i64 0,.int .i64 0,.slice none 0 0,.slice none 0 0,.int .i64 0,.slice none 0 0] 58))).cell? ⟨(w.heap.size+1),j,none⟩=some v:=⟨fun j hj=>by go_simp,fun j hj=>by
  match j,hj with
  | 0,_=>exact ⟨.int .i64 0,by go_cell⟩
  | 1,_=>exact ⟨.int .i64 0,by go_cell⟩
  | 2,_=>exact ⟨.slice none 0 0,by go_cell⟩
  | 3,_=>exact ⟨.slice none 0 0,by go_cell⟩
  | 4,_=>exact ⟨.int .i64 0,by go_cell⟩
  | 5,_=>exact ⟨.slice none 0 0,by go_cell⟩⟩
 have HQ4:=hideK q4;have HZ:=hideK hz;have HA:=hideK hA;have HBA:=hideK bA;have HSA:=hideK (hz.kept hA);have hdb:=hz.ls;have hmb:=hz.mp.lt;have hw0:=hz.bl.size;have HUB:=hideK (fun j (hj:u.ownBlock=some j)=>(hz.own.lt j hj).2)
 have hik:0≤pa∧pa.toNat<g.length:=(o.1 false).resolve_left (by simpa [sI] using (by obtain ⟨σ,hσ⟩:=o.2;cases σ;exact hσ;exact absurd rfl hσ))
 have edr:drP g h (pa,-1,tt)=aloD (nodeAt g pa.toNat) tt zA:=by unfold drP;rw [if_pos rfl]
 rw [edr]at hps hsm;have hn:=hg.at_ hik.2;obtain ⟨gb,go,rfl,hgB,hgc⟩:=hga.resolve_left (fun q=>by have:=hg.pos;rw [q]at this;simp at this)
 obtain ⟨a1,c1,a2,c2,hN,hL,hT⟩:=hgc pa.toNat hik.2;rw [← nodeAt_lt g _ hik.2]at hN hL hT;obtain ⟨i,hi⟩:∃i:Nat,pa=(i:Int):=⟨pa.toNat,by omega⟩
 subst hi;simp only [Int.toNat_natCast]at *;have hiz:(i:Int)<(g.length:Int):=by omega
 have hine:((i:Int) == -1)=false:=by rw [beq_eq_false_iff_ne];omega
 have C:=hideK (fun (W:World) (hz:ZW w0 db mb (.slice (some ⟨gb,go,none⟩) g.length cg) (.slice ah h.length ch) ud ps u W)=>aloneA_any (nodeAt g i) tt a1 a2 c1 c2 B w0 db mb (.slice (some ⟨gb,go,none⟩) g.length cg) (.slice ah h.length ch) ud ps u W hz hB hL hT hn hps hsm)
 have HED:=hideK edr;have HG4:=hideK (fun (W:World) (hb:Below w0.heap.size w0 W)=>hN.keep (hb.mono hB) hgB)
 clear hA bA q4 hz hga _hha hg _hh o hps hsm hgc hN hL hT hn edr hik;generalize nodeAt g i=n at *;generalize g.length=gl at *;simp only [pkZ,ndVal]at C ⊢;go_enter Tryz.func14,Tryz.ntmps14
 obtain ⟨b0,b1,b2⟩:=HBA.out;simp only at b0 b1 b2;go_wp2_with fail
 clear b0 b1 b2;generalize ((w.alloc (.cells #[.int .i64 (i:Int),.int .i64 (-1),.bool tt] 53)).alloc (.cells #[.int .i64 0,.int .i64 0,.slice none 0 0,.slice none 0 0,.int .i64 0,.slice none 0 0] 58))=V at *;refine wp_region_upto (fun W:World=>PBZ w.heap.size ((i:Int),-1,tt) W∧W.cell? ⟨db,0,none⟩=some (.slice (some ⟨gb,go,none⟩) gl cg)∧NdAt W gb (go+i*4) n a1 c1 a2 c2) 12 (by kernel_rfl) (⟨HBA.out,HSA.out.c0,HG4.out V.drew (HSA.out.bl.drew)⟩) (fun hS=>?_)
 refine tkU 0 (.pointer (some ⟨db,0,none⟩)) hS ?_;simp only [Act.put,sA,sB,sC];refine tkU 1 (.pointer (some ⟨db,0,none⟩)) hS ?_;simp only [Act.put,sA,sB,sC];refine tkU 2 (.pointer (some ⟨db,0,none⟩)) hS ?_;simp only [Act.put,sA,sB,sC];refine tkU 3 (.pointer (some ⟨db,0,none⟩)) hS ?_;simp only [Act.put,sA,sB,sC];refine tkU 4 (.slice (some ⟨gb,go,none⟩) gl cg) hS ?_ (hy:=Or.inl ⟨by rfl,fun W hW=>by have x0:=hW.2.1;go_simp⟩)
 simp only [Act.put,sA,sB,sC];refine tkU 5 (.pointer (some ⟨w.heap.size,0,none⟩)) hS ?_;simp only [Act.put,sA,sB,sC];refine tkU 6 (.int .i64 (i:Int)) hS ?_ (hy:=Or.inl ⟨by rfl,fun W hW=>by obtain ⟨⟨x0,x1,x2⟩,_⟩:=hW;go_simp⟩)
 simp only [Act.put,sA,sB,sC];refine tkU 7 (.pointer (some ⟨gb,go+i*4,none⟩)) hS ?_;simp only [Act.put,sA,sB,sC];refine tkU 8 (.agg #[.int .i64 n.kind,.int .i64 n.so,.slice a1 n.labs.length c1,.slice a2 n.to.length c2]) hS ?_ (hy:=Or.inl ⟨by rfl,fun W hW=>by obtain ⟨_,_,⟨x0,x1,x2,x3⟩⟩:=hW;go_simp⟩)
 simp only [Act.put,sA,sB,sC];refine tkU 9 (.pointer (some ⟨w.heap.size,2,none⟩)) hS ?_;simp only [Act.put,sA,sB,sC];refine tkU 10 (.bool tt) hS ?_ (hy:=Or.inl ⟨by rfl,fun W hW=>by obtain ⟨⟨x0,x1,x2⟩,_⟩:=hW;go_simp⟩)
 simp only [Act.put,sA,sB,sC];refine onU 11 (fun K hK=>?_)
 go_simp
 refine (C.out V.drew (HSA.out.kept (Below.refl _ _).drew)).mono ?_;rintro e w5 ⟨u5,al,cl,at1,ct,rfl,hz5,hr5,hf5,hl5,hn5⟩;have hblk:∀b,w.heap.size≤b→b<w.heap.size+2→w5.heap[b]? = V.heap[b]?:=fun b h1 h2=>hr5.block b (by show b<V.heap.size;omega) (by omega) (by omega) (fun e=>by have:=HUB.out b e.symm;omega)
 have HDP:=hideK (And.intro hz5 (And.intro hr5 (And.intro hf5 (And.intro hl5 hn5))));have hSn5:(fun W:World=>PBZ w.heap.size ((i:Int),-1,tt) W∧W.cell? ⟨db,0,none⟩=some (.slice (some ⟨gb,go,none⟩) gl cg)∧NdAt W gb (go+i*4) n a1 c1 a2 c2) w5:=⟨HBA.out.keep fun o=>World.cell?_of_block (a:=⟨w.heap.size,o,none⟩) (hblk w.heap.size (Nat.le_refl _) (by omega)),hz5.c0,HG4.out w5 hz5.bl⟩
 have hkb:=hblk (w.heap.size+1) (by omega) (by omega)
 obtain ⟨t0,x0⟩:=(HQ4.out.2 0 (by omega)).imp fun v hv=>(World.cell?_of_block (a:=⟨(w.heap.size+1),0,none⟩) hkb).trans hv
 obtain ⟨t1,x1⟩:=(HQ4.out.2 1 (by omega)).imp fun v hv=>(World.cell?_of_block (a:=⟨(w.heap.size+1),1,none⟩) hkb).trans hv
 obtain ⟨t2,x2⟩:=(HQ4.out.2 2 (by omega)).imp fun v hv=>(World.cell?_of_block (a:=⟨(w.heap.size+1),2,none⟩) hkb).trans hv
 obtain ⟨t3,x3⟩:=(HQ4.out.2 3 (by omega)).imp fun v hv=>(World.cell?_of_block (a:=⟨(w.heap.size+1),3,none⟩) hkb).trans hv
 obtain ⟨t4,x4⟩:=(HQ4.out.2 4 (by omega)).imp fun v hv=>(World.cell?_of_block (a:=⟨(w.heap.size+1),4,none⟩) hkb).trans hv
 obtain ⟨t5,x5⟩:=(HQ4.out.2 5 (by omega)).imp fun v hv=>(World.cell?_of_block (a:=⟨(w.heap.size+1),5,none⟩) hkb).trans hv
 have f0:=(World.frozen?_of_block (a:=⟨(w.heap.size+1),0,none⟩) hkb).trans (HQ4.out.1 0 (by omega))
 have f1:=(World.frozen?_of_block (a:=⟨(w.heap.size+1),1,none⟩) hkb).trans (HQ4.out.1 1 (by omega))
 have f2:=(World.frozen?_of_block (a:=⟨(w.heap.size+1),2,none⟩) hkb).trans (HQ4.out.1 2 (by omega))
 have f3:=(World.frozen?_of_block (a:=⟨(w.heap.size+1),3,none⟩) hkb).trans (HQ4.out.1 3 (by omega))
 have f4:=(World.frozen?_of_block (a:=⟨(w.heap.size+1),4,none⟩) hkb).trans (HQ4.out.1 4 (by omega))
 have f5:=(World.frozen?_of_block (a:=⟨(w.heap.size+1),5,none⟩) hkb).trans (HQ4.out.1 5 (by omega))
 clear hz5 hr5 hf5 hl5 hn5 hblk hkb;simp only [dVal,aloD]at HDP ⊢;generalize hkk:(nums ps ((stepsP n n tt).map zA)).length=kk;have hSn:=hSn5;refine hK.out _ _ hSn ?_;clear hS hK K hSn;intro hS;try simp only [Act.put,sA,sB,sC]
 refine upto_last (by rw [List.getElem?_toArray];rfl) (by kernel_rfl) (fun K hK=>?_)
 go_simp
 refine hK.out _ _ ?_;clear hS hK K;refine upto_done (by kernel_rfl) ?_ _
 go_wp2_with fail
 have r0:(sx6 w5 (w.heap.size+1) (.int .i64 n.kind) (.int .i64 n.so) (.slice al n.labs.length cl) (.slice at1 kk ct) (.int .i64 0) (.slice none 0 0)).cell? ⟨(w.heap.size+1),0,none⟩=some (.int .i64 n.kind):=by unfold sx6;go_cell
 have r1:(sx6 w5 (w.heap.size+1) (.int .i64 n.kind) (.int .i64 n.so) (.slice al n.labs.length cl) (.slice at1 kk ct) (.int .i64 0) (.slice none 0 0)).cell? ⟨(w.heap.size+1),1,none⟩=some (.int .i64 n.so):=by unfold sx6;go_cell
 have r2:(sx6 w5 (w.heap.size+1) (.int .i64 n.kind) (.int .i64 n.so) (.slice al n.labs.length cl) (.slice at1 kk ct) (.int .i64 0) (.slice none 0 0)).cell? ⟨(w.heap.size+1),2,none⟩=some (.slice al n.labs.length cl):=by unfold sx6;go_cell
 have r3:(sx6 w5 (w.heap.size+1) (.int .i64 n.kind) (.int .i64 n.so) (.slice al n.labs.length cl) (.slice at1 kk ct) (.int .i64 0) (.slice none 0 0)).cell? ⟨(w.heap.size+1),3,none⟩=some (.slice at1 kk ct):=by unfold sx6;go_cell
 have r4:(sx6 w5 (w.heap.size+1) (.int .i64 n.kind) (.int .i64 n.so) (.slice al n.labs.length cl) (.slice at1 kk ct) (.int .i64 0) (.slice none 0 0)).cell? ⟨(w.heap.size+1),4,none⟩=some (.int .i64 0):=by unfold sx6;go_cell
 have r5:(sx6 w5 (w.heap.size+1) (.int .i64 n.kind) (.int .i64 n.so) (.slice al n.labs.length cl) (.slice at1 kk ct) (.int .i64 0) (.slice none 0 0)).cell? ⟨(w.heap.size+1),5,none⟩=some (.slice none 0 0):=by unfold sx6;go_cell
 change bodyPost _ _ _ _ _ (sx6 w5 (w.heap.size+1) (.int .i64 n.kind) (.int .i64 n.so) (.slice al n.labs.length cl) (.slice at1 kk ct) (.int .i64 0) (.slice none 0 0))
 refine bodyPost_ret (v:=.agg #[.int .i64 n.kind,.int .i64 n.so,.slice al n.labs.length cl,.slice at1 kk ct,.int .i64 0,.slice none 0 0]) (by simp [results,Tryz.results14,go_sem,r0,r1,r2,r3,r4,r5]) rfl ?_
 have hD:=HDP.out;obtain ⟨hz5,hr5,hf5,hl5,hn5⟩:=hD;have hfin:=DPost.fin (d:=aloD n tt zA) (ps:=ps) (rb:=(w.heap.size+1)) (HA.out.trans ((Below.refl _ _).drew.mono HA.out.size)) (by omega) (by show (w.heap.size+1)<V.heap.size;omega) hB hw0 hdb hmb HUB.out hz5 hr5 hf5 hl5 hn5 (.int .i64 n.kind) (.int .i64 n.so) (.slice al n.labs.length cl) (.slice at1 kk ct) (.int .i64 0) (.slice none 0 0)
 exact ⟨u5,al,cl,at1,ct,by rw [HED.out,← hkk];rfl,by rw [HED.out];exact hfin.1,hfin.2.1,hfin.2.2.1,by rw [HED.out];exact hfin.2.2.2.1,by rw [HED.out];exact hfin.2.2.2.2⟩
theorem draftB_any(g h:List Nd)(ag ah:OAd)(cg ch B:Nat)(w0:World)(db mb:Nat)(ud:Value)(ps:List Pz)(u:Value)(p:Pz)(w:World)(hz:ZW w0 db mb (.slice ag g.length cg) (.slice ah h.length ch) ud ps u w)(hB:B≤w0.heap.size)(_hga:GAt w0 B g ag)(hha:GAt w0 B h ah)(_hg:GN g)(hh:GN h)(o:okZ g h p)
  (hb2:p.2.1≠-1) (ha1:p.1 = -1) (hps:∀i,PS (((drP g h p).nxt.take i).foldl addZ ps)) (hsm:∀q∈(drP g h p).nxt,smPz q) :
  Calls Tryz.prog 14 #[.pointer (some ⟨db,0,none⟩),pkZ p] w (DPost w0 db mb (.slice ag g.length cg) (.slice ah h.length ch) ud B (drP g h p) ps u w):=by
 obtain ⟨pa,pb,tt⟩:=p;simp only at ha1 hb2;subst ha1;have hA:Below w.heap.size w ((w.alloc (.cells #[.int .i64 (-1),.int .i64 pb,.bool tt] 53)).alloc (.cells #[.int .i64 0,.int .i64 0,.slice none 0 0,.slice none 0 0,.int .i64 0,.slice none 0 0] 58)):=((Below.refl _ _).alloc (Nat.le_refl _) _).alloc (by simp) _
 have hsz:(((w.alloc (.cells #[.int .i64 (-1),.int .i64 pb,.bool tt] 53)).alloc (.cells #[.int .i64 0,.int .i64 0,.slice none 0 0,.slice none 0 0,.int .i64 0,.slice none 0 0] 58))).heap.size=w.heap.size+2:=by simp
 have bA:PBZ w.heap.size (-1,pb,tt) ((w.alloc (.cells #[.int .i64 (-1),.int .i64 pb,.bool tt] 53)).alloc (.cells #[.int .i64 0,.int .i64 0,.slice none 0 0,.slice none 0 0,.int .i64 0,.slice none 0 0] 58)):=⟨by go_cell,by go_cell,by go_cell⟩
 have q4:(∀j,j<6→(((w.alloc (.cells #[.int .i64 (-1),.int .i64 pb,.bool tt] 53)).alloc (.cells #[.int .i64 0,.int .i64 0,.slice none 0 0,.slice none 0 0,.int .i64 0,.slice none 0 0] 58))).frozen? ⟨(w.heap.size+1),j,none⟩=false)∧∀j,j<6→∃v,(((w.alloc (.cells #[.int .i64 (-1),.int .i64 pb,.bool tt] 53)).alloc (.cells #[.int .i64 0,.int .i64 0,.slice none 0 0,.slice none 0 0,.int .i64 0,.slice none 0 0] 58))).cell? ⟨(w.heap.size+1),j,none⟩=some v:=⟨fun j hj=>by go_simp,fun j hj=>by
  match j,hj with
  | 0,_=>exact ⟨.int .i64 0,by go_cell⟩
  | 1,_=>exact ⟨.int .i64 0,by go_cell⟩
  | 2,_=>exact ⟨.slice none 0 0,by go_cell⟩
  | 3,_=>exact ⟨.slice none 0 0,by go_cell⟩
  | 4,_=>exact ⟨.int .i64 0,by go_cell⟩
  | 5,_=>exact ⟨.slice none 0 0,by go_cell⟩⟩
 have HQ4:=hideK q4;have HZ:=hideK hz;have HA:=hideK hA;have HBA:=hideK bA;have HSA:=hideK (hz.kept hA);have hdb:=hz.ls;have hmb:=hz.mp.lt;have hw0:=hz.bl.size;have HUB:=hideK (fun j (hj:u.ownBlock=some j)=>(hz.own.lt j hj).2)
 have hik:0≤pb∧pb.toNat<h.length:=(o.1 true).resolve_left (by simpa [sI] using hb2)
 have edr:drP g h (-1,pb,tt)=aloD (nodeAt h pb.toNat) tt zB:=by unfold drP;rw [if_neg hb2,if_pos rfl]
 rw [edr]at hps hsm;have hn:=hh.at_ hik.2;obtain ⟨gb,go,rfl,hgB,hgc⟩:=hha.resolve_left (fun q=>by have:=hh.pos;rw [q]at this;simp at this)
 obtain ⟨a1,c1,a2,c2,hN,hL,hT⟩:=hgc pb.toNat hik.2;rw [← nodeAt_lt h _ hik.2]at hN hL hT;obtain ⟨i,hi⟩:∃i:Nat,pb=(i:Int):=⟨pb.toNat,by omega⟩
 subst hi;simp only [Int.toNat_natCast]at *;have hiz:(i:Int)<(h.length:Int):=by omega
 have hine:((i:Int) == -1)=false:=by rw [beq_eq_false_iff_ne];omega
 have C:=hideK (fun (W:World) (hz:ZW w0 db mb (.slice ag g.length cg) (.slice (some ⟨gb,go,none⟩) h.length ch) ud ps u W)=>aloneB_any (nodeAt h i) tt a1 a2 c1 c2 B w0 db mb (.slice ag g.length cg) (.slice (some ⟨gb,go,none⟩) h.length ch) ud ps u W hz hB hL hT hn hps hsm)
 have HED:=hideK edr;have HG4:=hideK (fun (W:World) (hb:Below w0.heap.size w0 W)=>hN.keep (hb.mono hB) hgB)
 clear hA bA q4 hz _hga hha _hg hh o hps hsm hgc hN hL hT hn edr hik;generalize nodeAt h i=n at *;generalize h.length=gl at *;simp only [pkZ,ndVal]at C ⊢;go_enter Tryz.func14,Tryz.ntmps14
 obtain ⟨b0,b1,b2⟩:=HBA.out;simp only at b0 b1 b2;go_wp2_with fail
 clear b0 b1 b2;generalize ((w.alloc (.cells #[.int .i64 (-1),.int .i64 (i:Int),.bool tt] 53)).alloc (.cells #[.int .i64 0,.int .i64 0,.slice none 0 0,.slice none 0 0,.int .i64 0,.slice none 0 0] 58))=V at *;refine wp_region_upto (fun W:World=>PBZ w.heap.size (-1,(i:Int),tt) W∧W.cell? ⟨db,1,none⟩=some (.slice (some ⟨gb,go,none⟩) gl ch)∧NdAt W gb (go+i*4) n a1 c1 a2 c2) 12 (by kernel_rfl) (⟨HBA.out,HSA.out.c1,HG4.out V.drew (HSA.out.bl.drew)⟩) (fun hS=>?_)
 refine tkU 0 (.pointer (some ⟨db,0,none⟩)) hS ?_;simp only [Act.put,sA,sB,sC];refine tkU 1 (.pointer (some ⟨db,0,none⟩)) hS ?_;simp only [Act.put,sA,sB,sC];refine tkU 2 (.pointer (some ⟨db,0,none⟩)) hS ?_;simp only [Act.put,sA,sB,sC];refine tkU 3 (.pointer (some ⟨db,1,none⟩)) hS ?_;simp only [Act.put,sA,sB,sC];refine tkU 4 (.slice (some ⟨gb,go,none⟩) gl ch) hS ?_ (hy:=Or.inl ⟨by rfl,fun W hW=>by have x0:=hW.2.1;go_simp⟩)
 simp only [Act.put,sA,sB,sC];refine tkU 5 (.pointer (some ⟨w.heap.size,1,none⟩)) hS ?_;simp only [Act.put,sA,sB,sC];refine tkU 6 (.int .i64 (i:Int)) hS ?_ (hy:=Or.inl ⟨by rfl,fun W hW=>by obtain ⟨⟨x0,x1,x2⟩,_⟩:=hW;go_simp⟩)
 simp only [Act.put,sA,sB,sC];refine tkU 7 (.pointer (some ⟨gb,go+i*4,none⟩)) hS ?_;simp only [Act.put,sA,sB,sC];refine tkU 8 (.agg #[.int .i64 n.kind,.int .i64 n.so,.slice a1 n.labs.length c1,.slice a2 n.to.length c2]) hS ?_ (hy:=Or.inl ⟨by rfl,fun W hW=>by obtain ⟨_,_,⟨x0,x1,x2,x3⟩⟩:=hW;go_simp⟩)
 simp only [Act.put,sA,sB,sC];refine tkU 9 (.pointer (some ⟨w.heap.size,2,none⟩)) hS ?_;simp only [Act.put,sA,sB,sC];refine tkU 10 (.bool tt) hS ?_ (hy:=Or.inl ⟨by rfl,fun W hW=>by obtain ⟨⟨x0,x1,x2⟩,_⟩:=hW;go_simp⟩)
 simp only [Act.put,sA,sB,sC];refine onU 11 (fun K hK=>?_)
 go_simp
 refine (C.out V.drew (HSA.out.kept (Below.refl _ _).drew)).mono ?_;rintro e w5 ⟨u5,al,cl,at1,ct,rfl,hz5,hr5,hf5,hl5,hn5⟩;have hblk:∀b,w.heap.size≤b→b<w.heap.size+2→w5.heap[b]? = V.heap[b]?:=fun b h1 h2=>hr5.block b (by show b<V.heap.size;omega) (by omega) (by omega) (fun e=>by have:=HUB.out b e.symm;omega)
 have HDP:=hideK (And.intro hz5 (And.intro hr5 (And.intro hf5 (And.intro hl5 hn5))));have hSn5:(fun W:World=>PBZ w.heap.size (-1,(i:Int),tt) W∧W.cell? ⟨db,1,none⟩=some (.slice (some ⟨gb,go,none⟩) gl ch)∧NdAt W gb (go+i*4) n a1 c1 a2 c2) w5:=⟨HBA.out.keep fun o=>World.cell?_of_block (a:=⟨w.heap.size,o,none⟩) (hblk w.heap.size (Nat.le_refl _) (by omega)),hz5.c1,HG4.out w5 hz5.bl⟩
 have hkb:=hblk (w.heap.size+1) (by omega) (by omega)
 obtain ⟨t0,x0⟩:=(HQ4.out.2 0 (by omega)).imp fun v hv=>(World.cell?_of_block (a:=⟨(w.heap.size+1),0,none⟩) hkb).trans hv
 obtain ⟨t1,x1⟩:=(HQ4.out.2 1 (by omega)).imp fun v hv=>(World.cell?_of_block (a:=⟨(w.heap.size+1),1,none⟩) hkb).trans hv
 obtain ⟨t2,x2⟩:=(HQ4.out.2 2 (by omega)).imp fun v hv=>(World.cell?_of_block (a:=⟨(w.heap.size+1),2,none⟩) hkb).trans hv
 obtain ⟨t3,x3⟩:=(HQ4.out.2 3 (by omega)).imp fun v hv=>(World.cell?_of_block (a:=⟨(w.heap.size+1),3,none⟩) hkb).trans hv
 obtain ⟨t4,x4⟩:=(HQ4.out.2 4 (by omega)).imp fun v hv=>(World.cell?_of_block (a:=⟨(w.heap.size+1),4,none⟩) hkb).trans hv
 obtain ⟨t5,x5⟩:=(HQ4.out.2 5 (by omega)).imp fun v hv=>(World.cell?_of_block (a:=⟨(w.heap.size+1),5,none⟩) hkb).trans hv
 have f0:=(World.frozen?_of_block (a:=⟨(w.heap.size+1),0,none⟩) hkb).trans (HQ4.out.1 0 (by omega))
 have f1:=(World.frozen?_of_block (a:=⟨(w.heap.size+1),1,none⟩) hkb).trans (HQ4.out.1 1 (by omega))
 have f2:=(World.frozen?_of_block (a:=⟨(w.heap.size+1),2,none⟩) hkb).trans (HQ4.out.1 2 (by omega))
 have f3:=(World.frozen?_of_block (a:=⟨(w.heap.size+1),3,none⟩) hkb).trans (HQ4.out.1 3 (by omega))
 have f4:=(World.frozen?_of_block (a:=⟨(w.heap.size+1),4,none⟩) hkb).trans (HQ4.out.1 4 (by omega))
 have f5:=(World.frozen?_of_block (a:=⟨(w.heap.size+1),5,none⟩) hkb).trans (HQ4.out.1 5 (by omega))
 clear hz5 hr5 hf5 hl5 hn5 hblk hkb;simp only [dVal,aloD]at HDP ⊢;generalize hkk:(nums ps ((stepsP n n tt).map zB)).length=kk;have hSn:=hSn5;refine hK.out _ _ hSn ?_;clear hS hK K hSn;intro hS;try simp only [Act.put,sA,sB,sC]
 refine upto_last (by rw [List.getElem?_toArray];rfl) (by kernel_rfl) (fun K hK=>?_)
 go_simp
 refine hK.out _ _ ?_;clear hS hK K;refine upto_done (by kernel_rfl) ?_ _
 go_wp2_with fail
 have r0:(sx6 w5 (w.heap.size+1) (.int .i64 n.kind) (.int .i64 n.so) (.slice al n.labs.length cl) (.slice at1 kk ct) (.int .i64 0) (.slice none 0 0)).cell? ⟨(w.heap.size+1),0,none⟩=some (.int .i64 n.kind):=by unfold sx6;go_cell
 have r1:(sx6 w5 (w.heap.size+1) (.int .i64 n.kind) (.int .i64 n.so) (.slice al n.labs.length cl) (.slice at1 kk ct) (.int .i64 0) (.slice none 0 0)).cell? ⟨(w.heap.size+1),1,none⟩=some (.int .i64 n.so):=by unfold sx6;go_cell
 have r2:(sx6 w5 (w.heap.size+1) (.int .i64 n.kind) (.int .i64 n.so) (.slice al n.labs.length cl) (.slice at1 kk ct) (.int .i64 0) (.slice none 0 0)).cell? ⟨(w.heap.size+1),2,none⟩=some (.slice al n.labs.length cl):=by unfold sx6;go_cell
 have r3:(sx6 w5 (w.heap.size+1) (.int .i64 n.kind) (.int .i64 n.so) (.slice al n.labs.length cl) (.slice at1 kk ct) (.int .i64 0) (.slice none 0 0)).cell? ⟨(w.heap.size+1),3,none⟩=some (.slice at1 kk ct):=by unfold sx6;go_cell
 have r4:(sx6 w5 (w.heap.size+1) (.int .i64 n.kind) (.int .i64 n.so) (.slice al n.labs.length cl) (.slice at1 kk ct) (.int .i64 0) (.slice none 0 0)).cell? ⟨(w.heap.size+1),4,none⟩=some (.int .i64 0):=by unfold sx6;go_cell
 have r5:(sx6 w5 (w.heap.size+1) (.int .i64 n.kind) (.int .i64 n.so) (.slice al n.labs.length cl) (.slice at1 kk ct) (.int .i64 0) (.slice none 0 0)).cell? ⟨(w.heap.size+1),5,none⟩=some (.slice none 0 0):=by unfold sx6;go_cell
 change bodyPost _ _ _ _ _ (sx6 w5 (w.heap.size+1) (.int .i64 n.kind) (.int .i64 n.so) (.slice al n.labs.length cl) (.slice at1 kk ct) (.int .i64 0) (.slice none 0 0))
 refine bodyPost_ret (v:=.agg #[.int .i64 n.kind,.int .i64 n.so,.slice al n.labs.length cl,.slice at1 kk ct,.int .i64 0,.slice none 0 0]) (by simp [results,Tryz.results14,go_sem,r0,r1,r2,r3,r4,r5]) rfl ?_
 have hD:=HDP.out;obtain ⟨hz5,hr5,hf5,hl5,hn5⟩:=hD;have hfin:=DPost.fin (d:=aloD n tt zB) (ps:=ps) (rb:=(w.heap.size+1)) (HA.out.trans ((Below.refl _ _).drew.mono HA.out.size)) (by omega) (by show (w.heap.size+1)<V.heap.size;omega) hB hw0 hdb hmb HUB.out hz5 hr5 hf5 hl5 hn5 (.int .i64 n.kind) (.int .i64 n.so) (.slice al n.labs.length cl) (.slice at1 kk ct) (.int .i64 0) (.slice none 0 0)
 exact ⟨u5,al,cl,at1,ct,by rw [HED.out,← hkk];rfl,by rw [HED.out];exact hfin.1,hfin.2.1,hfin.2.2.1,by rw [HED.out];exact hfin.2.2.2.1,by rw [HED.out];exact hfin.2.2.2.2⟩
end Go.Proofs.YtnedgkcejlhnbaaGreatDoor
