/-
  The contract of graph.least, for every graph that graph.Check lets by.
-/
import Derived.Test.YtmamabhhgfcjcaaGreatDoorHl
set_option maxRecDepth 100000
set_option maxHeartbeats 16000000
namespace Go.Proofs.YtmamabhhgfcjcaaGreatDoor
open Go.RowKit Go.Shelf
theorem infoNd:(Tryz.prog.info? 102).map (fun i=>(i.zero,i.size,i.bytes))=some (some (.agg #[.int .i64 0,.int .i64 0,.slice none 0 0,.slice none 0 0]),4,64):=by kernel_rfl
theorem take_oneHL{P:Program}{ops:Array Oper}{md:Region.Mode}{Q:Exit→Act→World→Prop}{S:World→Prop}{fuel:Nat}{listed:Array Bool}{a:Act}{w:World}(i:Nat)(h:AllReadyH P md ops Q S fuel listed a w [i])(hr:Region.ready md ops listed=[i]):wpAnyH P md ops Q S (fuel+1) listed a w:=wpAnyH_ready hr (by simp) h
theorem heap_cellsA{W:World}{g:Nat}{Z:Array Value}{t:TypeId}(h:W.heap[g]? = some (.cells Z t))(j:Nat):W.cell? ⟨g,j,none⟩=Z[j]?:=by
 simp [World.cell?,h]
def slLen:Value→Nat
 | .slice _ n _=>n
 | _=>0
def st4(W:World)(b:Nat)(v0 v1 v2 v3:Value):World:=(((W.setCell ⟨b,0,none⟩ v0).setCell ⟨b,1,none⟩ v1).setCell ⟨b,2,none⟩ v2).setCell ⟨b,3,none⟩ v3
theorem st4_other(W:World)(b:Nat)(v0 v1 v2 v3:Value)(b' o':Nat)(h:b'≠b):(st4 W b v0 v1 v2 v3).cell? ⟨b',o',none⟩=W.cell? ⟨b',o',none⟩:=by
 unfold st4;rw [World.cell?_setCell_other _ _ _ _ (by intro e;injection e with e;exact h e.symm),World.cell?_setCell_other _ _ _ _ (by intro e;injection e with e;exact h e.symm),World.cell?_setCell_other _ _ _ _ (by intro e;injection e with e;exact h e.symm),World.cell?_setCell_other _ _ _ _ (by intro e;injection e with e;exact h e.symm)]
theorem RC.dr{W:World}{B2 cb nb rb fb n:Nat}{ac:OAd}{c R:List Nat}{u:Value}(h:RC W B2 cb nb rb fb n ac c R u):RC W.drew B2 cb nb rb fb n ac c R u:=h.kept (below_grown (bR _ _).drew none) (fun k hk=>by cases hk) (fun k _ e=>by cases e)
theorem IS.dr{w:World}{B2 cb nb rb fb n:Nat}{ac:OAd}{c R:List Nat}{u uo:Value}{m:Nat}{ts:List TkN}{mb:Nat}{kd so:Int}{ls:List ByteArray}{la:OAd}{lc:Nat}{ut:Value}{qs:List Nat}{W:World}(h:IS w B2 cb nb rb fb n ac c R u uo m ts mb kd so ls la lc ut qs W):IS w B2 cb nb rb fb n ac c R u uo m ts mb kd so ls la lc ut qs W.drew :=
 h.reach h.rc.dr ⟨rfl,rfl,rfl,nR _,fun _ _ _ _ _=>rfl⟩ (.inl rfl)
theorem LSt.le'{w:World}{g:List Nd}{B2 cb nb rb fb n:Nat}{ac:OAd}{c R:List Nat}{u uo:Value}{m:Nat}{ts:List TkN}{W:World}(h:LSt w g B2 cb nb rb fb n ac c R u uo m ts W){q:List Nat}:m≤(q.foldl (addR c) R).length:=by
 obtain ⟨e,he⟩:=fold_pre c q R;rw [he];have:=h.le;simp
 omega
theorem made_st{wr W:World}{mb:Nat}{kd so:Int}{ls:List ByteArray}{la:OAd}{lc base:Nat}(z0:W.cell? ⟨mb,0,none⟩=some (.int .i64 0))(z1:W.cell? ⟨mb,1,none⟩=some (.int .i64 0))(z2:W.cell? ⟨mb,2,none⟩=some (.slice none 0 0))(z3:W.cell? ⟨mb,3,none⟩=some (.slice none 0 0))(zf:∀o,W.frozen? ⟨mb,o,none⟩=false)(hb:Below wr.heap.size wr W)(hm:wr.heap.size≤mb∧mb<W.heap.size)
  (hO:W.ownsRow base 9 1 (.slice la ls.length lc) ls.length (ls.map Value.string)) (hbase:wr.heap.size≤base) (hne:(Value.slice la ls.length lc).ownBlock≠some mb) :
  Below wr.heap.size wr (st4 W mb (.int .i64 kd) (.int .i64 so) (.slice la ls.length lc) (.slice none 0 0))∧(wr.heap.size≤mb∧mb<(st4 W mb (.int .i64 kd) (.int .i64 so) (.slice la ls.length lc) (.slice none 0 0)).heap.size)∧(st4 W mb (.int .i64 kd) (.int .i64 so) (.slice la ls.length lc) (.slice none 0 0)).cell? ⟨mb,0,none⟩=some (.int .i64 kd)∧(st4 W mb (.int .i64 kd) (.int .i64 so) (.slice la ls.length lc) (.slice none 0 0)).cell? ⟨mb,1,none⟩=some (.int .i64 so)∧(st4 W mb (.int .i64 kd) (.int .i64 so) (.slice la ls.length lc) (.slice none 0 0)).cell? ⟨mb,2,none⟩=some (.slice la ls.length lc)∧(st4 W mb (.int .i64 kd) (.int .i64 so) (.slice la ls.length lc) (.slice none 0 0)).cell? ⟨mb,3,none⟩=some (.slice none 0 0)∧(∀o,(st4 W mb (.int .i64 kd) (.int .i64 so) (.slice la ls.length lc) (.slice none 0 0)).frozen? ⟨mb,o,none⟩=false)∧NP (st4 W mb (.int .i64 kd) (.int .i64 so) (.slice la ls.length lc) (.slice none 0 0)) (fun b=>wr.heap.size≤b∧b<(st4 W mb (.int .i64 kd) (.int .i64 so) (.slice la ls.length lc) (.slice none 0 0)).heap.size∧b≠mb) (ls.map Value.string) la:=by
 have hsz:(st4 W mb (.int .i64 kd) (.int .i64 so) (.slice la ls.length lc) (.slice none 0 0)).heap.size=W.heap.size:=by unfold st4;simp
 have ne:∀i j:Nat,i≠j→(⟨mb,i,none⟩:Addr)≠⟨mb,j,none⟩:=fun i j h e=>by injection e with _ e;exact h e
 refine ⟨?_,⟨hm.1,by omega⟩,?_,?_,?_,?_,fun o=>?_,?_⟩
 ·unfold st4
  exact (((hb.setCell (p:=⟨mb,0,none⟩) hm.1 _).setCell (p:=⟨mb,1,none⟩) hm.1 _).setCell (p:=⟨mb,2,none⟩) hm.1 _).setCell (p:=⟨mb,3,none⟩) hm.1 _
 ·unfold st4
  rw [World.cell?_setCell_other _ _ _ _ (ne 3 0 (by omega)),World.cell?_setCell_other _ _ _ _ (ne 2 0 (by omega)),World.cell?_setCell_other _ _ _ _ (ne 1 0 (by omega))]
  exact World.cell?_setCell_same _ _ _ z0
 ·unfold st4
  rw [World.cell?_setCell_other _ _ _ _ (ne 3 1 (by omega)),World.cell?_setCell_other _ _ _ _ (ne 2 1 (by omega))]
  exact World.cell?_setCell_same _ _ _ ((World.cell?_setCell_other _ _ _ _ (ne 0 1 (by omega))).trans z1)
 ·unfold st4
  rw [World.cell?_setCell_other _ _ _ _ (ne 3 2 (by omega))]
  exact World.cell?_setCell_same _ _ _ ((World.cell?_setCell_other _ _ _ _ (ne 1 2 (by omega))).trans ((World.cell?_setCell_other _ _ _ _ (ne 0 2 (by omega))).trans z2))
 ·unfold st4
  exact World.cell?_setCell_same _ _ _ ((World.cell?_setCell_other _ _ _ _ (ne 2 3 (by omega))).trans ((World.cell?_setCell_other _ _ _ _ (ne 1 3 (by omega))).trans ((World.cell?_setCell_other _ _ _ _ (ne 0 3 (by omega))).trans z3)))
 ·unfold st4
  rw [World.frozen?_setCell,World.frozen?_setCell,World.frozen?_setCell,World.frozen?_setCell];exact zf o
 ·rcases own_cells hO with ⟨_,_,e⟩|⟨gg,cp,e1,hb1,hg1,hc1⟩
  ·exact .inl e
  ·injection e1 with e1 _ _
   have hgm:gg≠mb:=fun e=>hne (by rw [e1,e];rfl)
   refine .inr ⟨gg,0,e1,⟨by omega,by omega,hgm⟩,fun i hi=>?_⟩
   rw [Nat.zero_add,st4_other _ _ _ _ _ _ _ _ hgm];exact hc1 i _ (List.getElem?_eq_getElem hi)
def GAN(W:World)(P:Nat→Prop)(g:List Nd)(ag:OAd):Prop:=g=[]∨∃b o,ag=some ⟨b,o,none⟩∧P b∧∀i (h:i<g.length),∃al cl at1 ct,NdAt W b (o+i*4) g[i] al cl at1 ct∧NP W P (g[i].labs.map Value.string) al∧NP W P (g[i].to.map fun t:Nat=>Value.int .i64 (t:Int)) at1
theorem GAN.keep{W W':World}{P Q:Nat→Prop}{g:List Nd}{ag:OAd}(hc:∀b o,P b→W'.cell? ⟨b,o,none⟩=W.cell? ⟨b,o,none⟩)(hq:∀b,P b→Q b)(h:GAN W P g ag):GAN W' Q g ag :=
 h.imp id fun ⟨b,o,e,hp,hh⟩=>⟨b,o,e,hq b hp,fun i hi=>by
  obtain ⟨al,cl,at1,ct,h1,h2,h3⟩:=hh i hi;exact ⟨al,cl,at1,ct,⟨(hc b _ hp).trans h1.c0,(hc b _ hp).trans h1.c1,(hc b _ hp).trans h1.c2,(hc b _ hp).trans h1.c3⟩,h2.keep hc hq,h3.keep hc hq⟩⟩
theorem GAN.gat{W:World}{P:Nat→Prop}{B:Nat}{g:List Nd}{ag:OAd}(h:GAN W P g ag)(hP:∀b,P b→b<B):GAt W B g ag:=by
 have np:∀ {vs:List Value} {a:OAd},NP W P vs a→NAt W B vs a:=fun h=>h.imp id fun ⟨b,o,e,hp,hh⟩=>⟨b,o,e,hP b hp,hh⟩
 exact h.imp id fun ⟨b,o,e,hp,hh⟩=>⟨b,o,e,hP b hp,fun i hi=>by
  obtain ⟨al,cl,at1,ct,h1,h2,h3⟩:=hh i hi;exact ⟨al,cl,at1,ct,h1,np h2,np h3⟩⟩
theorem gan_of{W:World}{B:Nat}{u:Value}{ts:List TkN}(ho:W.ownsRow B 102 4 u ts.length (ndCs ts)){P Q:Nat→Prop}(ht:TKS W P ts)(hP:∀b,P b→Q b)(hB:∀b,B≤b→b<W.heap.size→Q b){ag:OAd}{cg:Nat}(hu:u = .slice ag ts.length cg):GAN W Q (ts.map (·.1)) ag:=by
 rcases own_cells ho with ⟨e,h0,_⟩|⟨g,cap,e,hb,hg,hc⟩
 ·exact .inl (by rw [List.length_eq_zero_iff.1 h0];rfl)
 ·rw [hu]at e
  injection e with e1 _ _
  refine .inr ⟨g,0,e1,hB g hb hg,fun i hi=>?_⟩
  have hi':i<ts.length:=by simpa using hi
  rw [List.getElem_map];refine ⟨ts[i].2.1.1,ts[i].2.1.2,ts[i].2.2.1,ts[i].2.2.2,⟨?_,?_,?_,?_⟩,(ht _ (List.getElem_mem hi')).1.keep (fun _ _ _=>rfl) hP,(ht _ (List.getElem_mem hi')).2.keep (fun _ _ _=>rfl) hP⟩
  ·rw [Nat.zero_add];exact hc (i*4+0) _ ((ndCs_at ts i hi' 0 (by omega)).trans rfl)
  ·rw [Nat.zero_add];exact hc _ _ ((ndCs_at ts i hi' 1 (by omega)).trans rfl)
  ·rw [Nat.zero_add];exact hc _ _ ((ndCs_at ts i hi' 2 (by omega)).trans rfl)
  ·rw [Nat.zero_add];exact hc _ _ ((ndCs_at ts i hi' 3 (by omega)).trans rfl)
theorem least_loopN(g:List Nd)(ag:OAd)(cg B:Nat)(w:World)(hg:GR1 g)(hga:GAt w B g ag)(hB:B≤w.heap.size):
  Calls Tryz.prog 28 #[.slice ag g.length cg] w fun e w'=>(∃c,CLS g c∧∃ao co,e = .returned (.slice ao (leastG g c).length co)∧GAK w' w'.heap.size (leastG g c) ao∧GAN w' (fun b=>w.heap.size≤b∧b<w'.heap.size) (leastG g c) ao)∧Below w.heap.size w w':=by
 obtain ⟨i0,hi,hz0,hz1,hz2⟩:=info_parts infoIG;obtain ⟨Z,hZ,hmk⟩:=makeI g.length hg.le;have hgl:(g.length:Int)≤1000:=by have:=hg.le;omega
 have cK:=classes_any g ag cg B w hg hga hB;go_enter Tryz.func28,Tryz.ntmps28
 go_wp2_with fail
 refine cK.mono ?_;rintro e w1 ⟨⟨ac,c,rfl,hcls,hni⟩,hb1⟩;have hl1:=hb1.size;have W4s:(((((w1.alloc (.cells #[.slice ac g.length g.length] 29)).alloc (.cells Z 3)).alloc (.cells #[.slice (some ⟨w1.heap.size+1,0,none⟩) g.length g.length] 29)).alloc (.cells #[.slice none 0 0] 29))).heap.size=w1.heap.size+1+1+1+1:=by simp
 have B4:Below w1.heap.size w1 ((((w1.alloc (.cells #[.slice ac g.length g.length] 29)).alloc (.cells Z 3)).alloc (.cells #[.slice (some ⟨w1.heap.size+1,0,none⟩) g.length g.length] 29)).alloc (.cells #[.slice none 0 0] 29)):=((((bR _ _).alloc (nR _) _).alloc (by simp) _).alloc (by simp;omega) _).alloc (by simp;omega) _
 have RC0:=hideK (show RC ((((w1.alloc (.cells #[.slice ac g.length g.length] 29)).alloc (.cells Z 3)).alloc (.cells #[.slice (some ⟨w1.heap.size+1,0,none⟩) g.length g.length] 29)).alloc (.cells #[.slice none 0 0] 29)) (w1.heap.size+1+1+1+1) w1.heap.size (w1.heap.size+1+1) (w1.heap.size+1+1+1) (w1.heap.size+1) g.length ac c [] (.slice none 0 0) from by
  refine ⟨by go_cell,by go_cell,by go_cell,by go_simp,(hni.keep B4),fun x hx=>?_,fun x=>by go_simp,World.ownsRow_nil _ _ _ _,by omega,by omega,by omega,by omega,by rw [W4s];exact nR _,hcls.len⟩
  have hblk:((((w1.alloc (.cells #[.slice ac g.length g.length] 29)).alloc (.cells Z 3)).alloc (.cells #[.slice (some ⟨w1.heap.size+1,0,none⟩) g.length g.length] 29)).alloc (.cells #[.slice none 0 0] 29)).heap[w1.heap.size+1]? = some (.cells Z 3):=by
   have h1:=heap_alloc_new (w1.alloc (.cells #[.slice ac g.length g.length] 29)) (.cells Z 3);have hs:(w1.alloc (.cells #[.slice ac g.length g.length] 29)).heap.size=w1.heap.size+1:=by simp
   rw [hs]at h1;exact (heap_alloc_old _ _ (by simp)).trans ((heap_alloc_old _ _ (by simp)).trans h1)
  have hnm:numR c [] x=0:=by unfold numR;simp
  rw [hnm];exact (heap_cellsA hblk x).trans (hZ x hx))
 have cR:=reach_any (w1.heap.size+1+1+1+1) w1.heap.size (w1.heap.size+1+1) (w1.heap.size+1+1+1) (w1.heap.size+1) g.length ac c [] (.slice none 0 0) 0 _ RC0.out hg.pos (hcls.lt 0 hg.pos) (by simp)
 have HB4:=hideK (hb1.trans (B4.mono hl1));clear cK hni B4 RC0;go_wp2_with fail
 refine cR.mono ?_;rintro e w2 ⟨rfl,u2,hrc2,hrf2,hn2⟩;have hA0:addR c [] 0=[0]:=by unfold addR;simp
 rw [hA0]at hrc2;have HL0:=hideK (show LSt w g (w1.heap.size+1+1+1+1) w1.heap.size (w1.heap.size+1+1) (w1.heap.size+1+1+1) (w1.heap.size+1) g.length ac c [0] u2 (.slice none 0 0) 0 [] w2 from
  ⟨hrc2,RInv.start hg.pos,Nat.zero_le _,World.ownsRow_nil _ _ _ _,rfl,fun t ht=>(by cases ht),fun k hk=>by simp [Value.ownBlock]at hk,hrf2.below HB4.out HB4.out.size (by omega) (by omega) (fun k hk=>by simp [Value.ownBlock]at hk),hl1,fun t ht=>(by cases ht)⟩)
 clear cR hrc2 hrf2 hn2 HB4 W4s hmk hZ hb1 hA0 hl1;generalize w1.heap.size+1+1+1+1=B2 at *;generalize w1.heap.size+1+1+1=rb at *;generalize w1.heap.size+1+1=nb at *;generalize w1.heap.size+1=fb at *;generalize w1.heap.size=cb at *;go_wp2_with fail
 go_loopw [7] (fun uo wr=>∃(m:Nat) (R:List Nat) (u:Value) (ts:List TkN),LSt w g B2 cb nb rb fb g.length ac c R u uo m ts wr∧lstR g c (g.length - m) m R=lstR g c g.length 0 [0]) (fun uo _=>g.length - slLen uo)
 case atStart=>exact ⟨0,[0],u2,[],HL0.out,rfl⟩
 case round =>
  obtain ⟨m,R,u,ts,hLS,hrun⟩:=hrel;clear HL0;obtain ⟨oa,oc,rfl⟩:=sliceH_own hLS.out;obtain ⟨ua,uc,rfl⟩:=sliceH_own hLS.rc.own;have c5:=hLS.rc.hr;have HLS:=hideK hLS;have hRl:=hLS.ri.len hcls;by_cases hm:m<R.length
  ·have hltz:(m:Int)<(R.length:Int):=by omega
   obtain ⟨gg,cp,eu,hgB,hgl2,hcc⟩:=(own_cells hLS.rc.own).resolve_left (fun h=>by have:=h.2.1;omega)
   injection eu with eu1 _ eu2
   subst eu1 eu2;have d5:=hcc m (.int .i64 (R[m]:Int)) (by rw [List.getElem?_map,List.getElem?_eq_getElem hm];rfl)
   have hiR:R[m]<g.length:=hLS.ri.lt _ (List.getElem_mem hm);have hiz:((R[m]:Nat):Int)<(g.length:Int):=by omega
   obtain ⟨gb,go1,rfl,hgb,hgc⟩:=hga.resolve_left (fun h=>by rw [h]at hiR;simp at hiR)
   obtain ⟨al,cl,at1,ct,hnd,hla,hta⟩:=hgc R[m] hiR;have hshp:=hg.shp _ (List.getElem_mem hiR);have hnA:nodeAt g R[m]=g[R[m]]:=nodeAt_lt g _ hiR;have HTO:=hideK (show ∀t∈(nodeAt g R[m]).to,t<g.length from fun t ht=>shut_at hg.shut _ t ht)
   rw [← hnA]at hnd hla hta hshp;have hbw:=hLS.bl;obtain ⟨c0,c1,c2,c3⟩:=hnd.keep hbw (by omega)
   clear hnA;generalize hndx:nodeAt g R[m]=nd at *;have HNX:=hideK hndx;clear hndx;have hto6:=(shp_len hshp).2.1;have hto6z:(nd.to.length:Int)≤6:=by omega
   have CC:=hideK (fun W (hb:Below wr.heap.size wr W)=>copiedG_any nd.labs al cl B W (hla.keep ((hbw.trans (hb.mono hbw.size)).mono hB)) (by have:=hb.size;have:=hbw.size;omega) (by have:=(shp_len hshp).1;omega) (fun l hl=>by have:=(hshp.2.1 l hl).2;omega))
   have BV:=hideK (show Below wr.heap.size wr (wr.alloc (.cells #[.int .i64 nd.kind,.int .i64 nd.so,.slice al nd.labs.length cl,.slice at1 nd.to.length ct] 102)) from (bR _ _).alloc (nR _) _)
   have s9k:∀(W W':World),(fun W:World=>W.cell? ⟨wr.heap.size,0,none⟩=some (.int .i64 nd.kind)∧W.cell? ⟨wr.heap.size,1,none⟩=some (.int .i64 nd.so)∧W.cell? ⟨wr.heap.size,2,none⟩=some (.slice al nd.labs.length cl)) W→Below (wr.heap.size+1) W W'→(fun W:World=>W.cell? ⟨wr.heap.size,0,none⟩=some (.int .i64 nd.kind)∧W.cell? ⟨wr.heap.size,1,none⟩=some (.int .i64 nd.so)∧W.cell? ⟨wr.heap.size,2,none⟩=some (.slice al nd.labs.length cl)) W':=fun W W' hs hb=>⟨(hb.cell (p:=⟨wr.heap.size,0,none⟩) (by show wr.heap.size<_;omega)).trans hs.1,(hb.cell (p:=⟨wr.heap.size,1,none⟩) (by show wr.heap.size<_;omega)).trans hs.2.1,(hb.cell (p:=⟨wr.heap.size,2,none⟩) (by show wr.heap.size<_;omega)).trans hs.2.2⟩
   have s9st:∀(W:World) (b:Nat) (v0 v1 v2 v3:Value),(fun W:World=>W.cell? ⟨wr.heap.size,0,none⟩=some (.int .i64 nd.kind)∧W.cell? ⟨wr.heap.size,1,none⟩=some (.int .i64 nd.so)∧W.cell? ⟨wr.heap.size,2,none⟩=some (.slice al nd.labs.length cl)) W→wr.heap.size≠b→(fun W:World=>W.cell? ⟨wr.heap.size,0,none⟩=some (.int .i64 nd.kind)∧W.cell? ⟨wr.heap.size,1,none⟩=some (.int .i64 nd.so)∧W.cell? ⟨wr.heap.size,2,none⟩=some (.slice al nd.labs.length cl)) (st4 W b v0 v1 v2 v3):=fun W b v0 v1 v2 v3 hs hb=>⟨(st4_other _ _ _ _ _ _ _ _ hb).trans hs.1,(st4_other _ _ _ _ _ _ _ _ hb).trans hs.2.1,(st4_other _ _ _ _ _ _ _ _ hb).trans hs.2.2⟩
   have hS0:(fun W:World=>W.cell? ⟨wr.heap.size,0,none⟩=some (.int .i64 nd.kind)∧W.cell? ⟨wr.heap.size,1,none⟩=some (.int .i64 nd.so)∧W.cell? ⟨wr.heap.size,2,none⟩=some (.slice al nd.labs.length cl)) (wr.alloc (.cells #[.int .i64 nd.kind,.int .i64 nd.so,.slice al nd.labs.length cl,.slice at1 nd.to.length ct] 102)).drew:=⟨by go_cell,by go_cell,by go_cell⟩
   have S9K:=hideK s9k;have S9st:=hideK s9st;clear hgc hla hnd s9k s9st;go_wp2_with fail
   refine wp_region_held_drew (S:=(fun W:World=>W.cell? ⟨wr.heap.size,0,none⟩=some (.int .i64 nd.kind)∧W.cell? ⟨wr.heap.size,1,none⟩=some (.int .i64 nd.so)∧W.cell? ⟨wr.heap.size,2,none⟩=some (.slice al nd.labs.length cl))) (by kernel_rfl) hS0 (fun hS=>?_)
   clear hS0;refine tkH 0 (.pointer (some ⟨wr.heap.size,0,none⟩)) hS ?_;refine tkH 1 (.int .i64 nd.kind) hS ?_ (hy:=Or.inl ⟨by rfl,fun W hW=>by obtain ⟨x0,x1,x2⟩:=hW;go_simp⟩)
   refine tkH 2 (.pointer (some ⟨wr.heap.size,1,none⟩)) hS ?_;refine tkH 3 (.int .i64 nd.so) hS ?_ (hy:=Or.inl ⟨by rfl,fun W hW=>by obtain ⟨x0,x1,x2⟩:=hW;go_simp⟩)
   refine tkH 4 (.pointer (some ⟨wr.heap.size,2,none⟩)) hS ?_;refine tkH 5 (.slice al nd.labs.length cl) hS ?_ (hy:=Or.inl ⟨by rfl,fun W hW=>by obtain ⟨x0,x1,x2⟩:=hW;go_simp⟩)
   refine wpAnyH_ready (rs:=[6,8]) (by kernel_rfl) (by simp) (AllReadyH.cons rfl (fun K hK=>?_) (AllReadyH.cons rfl (fun K hK=>?_) aN))
   ·go_simp
    refine (CC.out _ BV.out.drew).mono ?_;rintro e w3 ⟨ul,rfl,hO3,hb3⟩;obtain ⟨la,lc,rfl⟩:=sliceH_own hO3;have hB3:Below wr.heap.size wr w3:=BV.out.drew.trans (hb3.mono (by simp))
    have hS3:=S9K.out _ _ hS (hb3.mono (by simp))
    have hSn:=hS3;refine hK.out _ _ hSn ?_;clear hS hK K hSn;intro hS;refine tkH 7 (.agg #[.int .i64 nd.kind,.int .i64 nd.so,.slice la nd.labs.length lc,.slice none 0 0]) hS ?_;refine take_oneHL 8 (AllReadyH.cons rfl (fun K hK=>?_) aN) (by kernel_rfl)
    go_simp
    have hA4:Below w3.heap.size w3 (w3.alloc (.cells #[.int .i64 0,.int .i64 0,.slice none 0 0,.slice none 0 0] 102)):=(bR _ _).alloc (nR _) _;have hl3:=hB3.size;have hl4:wr.heap.size<w3.heap.size:=by have:=hb3.size;simp at this;omega
    have hSn:=(S9K.out _ _ hS (hA4.mono (by omega)))
    refine hK.out _ _ hSn ?_;clear hS hK K hSn;intro hS;have z0:(w3.alloc (.cells #[.int .i64 0,.int .i64 0,.slice none 0 0,.slice none 0 0] 102)).cell? ⟨w3.heap.size,0,none⟩=some (.int .i64 0):=by go_cell
    have z1:(w3.alloc (.cells #[.int .i64 0,.int .i64 0,.slice none 0 0,.slice none 0 0] 102)).cell? ⟨w3.heap.size,1,none⟩=some (.int .i64 0):=by go_cell
    have z2:(w3.alloc (.cells #[.int .i64 0,.int .i64 0,.slice none 0 0,.slice none 0 0] 102)).cell? ⟨w3.heap.size,2,none⟩=some (.slice none 0 0):=by go_cell
    have z3:(w3.alloc (.cells #[.int .i64 0,.int .i64 0,.slice none 0 0,.slice none 0 0] 102)).cell? ⟨w3.heap.size,3,none⟩=some (.slice none 0 0):=by go_cell
    have zf:∀o,(w3.alloc (.cells #[.int .i64 0,.int .i64 0,.slice none 0 0,.slice none 0 0] 102)).frozen? ⟨w3.heap.size,o,none⟩=false:=fun o=>by go_simp
    have MS:=hideK (made_st (W:=w3.alloc (.cells #[.int .i64 0,.int .i64 0,.slice none 0 0,.slice none 0 0] 102)) (mb:=w3.heap.size) (kd:=nd.kind) (so:=nd.so) (ls:=nd.labs) (la:=la) (lc:=lc) z0 z1 z2 z3 zf (hB3.trans (hA4.mono hl3)) ⟨by omega,by simp⟩ (own_belowG hO3 hA4) (by simp) (by intro e;have:=(hO3.lt _ e).2;omega))
    have N8a:=hideK (show (w3.alloc (.cells #[.int .i64 0,.int .i64 0,.slice none 0 0,.slice none 0 0] 102)).cell? ⟨wr.heap.size,3,none⟩=some (.slice at1 nd.to.length ct) from by
     rw [World.cell?_of_block (a:=⟨wr.heap.size,3,none⟩) (heap_alloc_old w3 (.cells #[.int .i64 0,.int .i64 0,.slice none 0 0,.slice none 0 0] 102) hl4),hb3.cell (p:=⟨wr.heap.size,3,none⟩) (by simp)]
     go_cell)
    have hne:wr.heap.size≠w3.heap.size:=by omega
    have f0:=zf 0;have f1:=zf 1;have f2:=zf 2;have f3:=zf 3;have HS4:=hideK hS;clear hO3 hb3 hB3 hA4 hS3 hl3 hl4 zf hS;generalize w3.alloc (.cells #[.int .i64 0,.int .i64 0,.slice none 0 0,.slice none 0 0] 102)=V4 at *;generalize w3.heap.size=mb at *;refine take_oneHL 9 (AllReadyH.cons rfl (fun K hK=>?_) aN) (by kernel_rfl)
    go_simp
    refine hK.out _ _ (S9st.out V4 mb (.int .i64 nd.kind) (.int .i64 nd.so) (.slice la nd.labs.length lc) (.slice none 0 0) HS4.out hne) (fun _=>?_)
    clear hK K z0 z1 z2 z3 f0 f1 f2 f3 HS4;refine wpAnyH_done (by kernel_rfl) ?_ _
    obtain ⟨W3,hW3⟩:∃W,W=st4 V4 mb (.int .i64 nd.kind) (.int .i64 nd.so) (.slice la nd.labs.length lc) (.slice none 0 0):=⟨_,rfl⟩;rw [← hW3]at MS;have MI:=hideK (HLS.out.make (W3:=W3) MS.out.1 (mb:=mb) MS.out.2.1 MS.out.2.2.1 MS.out.2.2.2.1 MS.out.2.2.2.2.1 MS.out.2.2.2.2.2.1 MS.out.2.2.2.2.2.2.1 MS.out.2.2.2.2.2.2.2);have N8:=hideK (show W3.cell? ⟨wr.heap.size,3,none⟩=some (.slice at1 nd.to.length ct) from by rw [hW3,st4_other _ _ _ _ _ _ _ _ hne];exact N8a.out)
    unfold st4 at hW3;rw [← hW3];clear hW3 MS N8a hne;have n3:=N8.out;go_wp2_with fail
    go_loopw [44] (fun i wi=>∃(q:Nat) (R':List Nat) (u' ut:Value),q≤nd.to.length∧i = .int .i64 (q:Int)∧R'=(nd.to.take q).foldl (addR c) R∧IS w B2 cb nb rb fb g.length ac c R' u' (.slice oa m oc) m ts mb nd.kind nd.so nd.labs la lc ut ((nd.to.take q).map (idxR c R')) wi∧RInv g c R' m) (fun i _=>nd.to.length - (intOf i).toNat)
    case atStart=>exact ⟨0,R,_,_,Nat.zero_le _,rfl,rfl,MI.out,HLS.out.ri⟩
    case round =>
     obtain ⟨q,R',u',ut,hq,rfl,hR',hIS,hri⟩:=hrel;clear MI N8 n3;by_cases hlq:q<nd.to.length
     ·have hltz:(q:Int)<(nd.to.length:Int):=by omega
      obtain ⟨tb,to1,rfl,htb,htcell⟩:=hta.resolve_left (fun h=>by have:=congrArg List.length h;simp at this;rw [this]at hlq;simp at hlq)
      have d1:=(hIS.bl.cell (p:=⟨tb,to1+q,none⟩) (by show tb<w.heap.size;omega)).trans (htcell q (by simpa using hlq))
      rw [List.getElem_map]at d1;have htg:=HTO.out nd.to[q] (List.getElem_mem hlq);have hRl:=hri.len hcls;have hRg:=hg.le;have HTK:=hideK (show nd.to.take (q+1)=nd.to.take q++[nd.to[q]] from List.take_succ_eq_append_getElem hlq)
      have HMEM:=hideK (show ∀t∈nd.to.take q,clAt c t∈R'.map (clAt c) from fun t ht=>by rw [hR'];exact fold_mem c _ R t ht)
      have HRE:=hideK hR';have HLT:=hideK (show q<nd.to.length from hlq)
      have HQL:=hideK (show ((nd.to.take q).map (idxR c R')).length=q from by rw [List.length_map,List.length_take];omega)
      have HRI:=hideK (hri.add (by rw [hR'];exact HLS.out.le') nd.to[q] htg)
      clear htcell hR';generalize nd.to[q]=tq at *;have CR:=hideK (fun W (hrc:RC W B2 cb nb rb fb g.length ac c R' u')=>reach_any B2 cb nb rb fb g.length ac c R' u' tq W hrc htg (hcls.lt tq htg) (by omega))
      have HIS:=hideK hIS;have m3:=hIS.m3;clear hIS;go_wp2_with fail
      refine wp_region_any (by kernel_rfl) ?_
      change wpAny _ _ _ _ _ _ _ (World.drew _)
      refine wpAny_take (i:=0) (v:=(.pointer (some ⟨mb,3,none⟩))) rfl (by kernel_rfl) (by kernel_rfl) (by kernel_rfl) (fun _ _ _ h=>h) (Or.inl ⟨by rfl,fun w=>by go_simp⟩) ?_
      refine wpAny_take (i:=2) (v:=(.func (.func 50) #[] #[.pointer (some ⟨cb,0,none⟩),.pointer (some ⟨nb,0,none⟩),.pointer (some ⟨rb,0,none⟩)])) rfl (by kernel_rfl) (by kernel_rfl) (by kernel_rfl) (fun _ _ _ h=>h) (Or.inl ⟨by rfl,fun w=>by go_simp⟩) ?_
      refine wpAny_take (i:=3) (v:=(.int .i64 (tq:Int))) rfl (by kernel_rfl) (by kernel_rfl) (by kernel_rfl) (fun _ _ _ h=>h) (Or.inl ⟨by rfl,fun w=>by go_simp⟩) ?_
      refine wpAny_ready (rs:=[1,4]) (by kernel_rfl) (by simp) ?_
      refine (AllReady.cons rfl (fun K hK=>?_) (AllReady.cons rfl (fun K hK=>?_) AllReady.nil))
      ·go_simp
       refine hK _ _ ?_;clear hK K;refine take_oneH1 4 (AllReady.cons rfl (fun K hK=>?_) AllReady.nil) (by kernel_rfl)
       go_simp
       refine (CR.out _ HIS.out.rc.dr).mono ?_;rintro e w5 ⟨rfl,u5,hrc5,hrf5,hn5⟩;have I5:=hideK (HIS.out.dr.reach hrc5 hrf5 hn5);have m5:=I5.out.m3;have O5:=hideK (own_belowG I5.out.row ((bR _ _).alloc (nR _) (.cells #[.int .i64 (idxR c (addR c R' tq) tq:Int)] 3)));have L5:=hideK (lit_rowG 3 B2 w5 (.int .i64 (idxR c (addR c R' tq) tq:Int)) w5.heap.size rfl I5.out.rc.o5);have o5:=I5.out.rc.o5;have m5a:(w5.alloc (.cells #[.int .i64 (idxR c (addR c R' tq) tq:Int)] 3)).cell? ⟨mb,3,none⟩=some ut:=(World.cell?_alloc_past _ _ _ I5.out.ml.2).trans m5;have o5a:B2≤(w5.alloc (.cells #[.int .i64 (idxR c (addR c R' tq) tq:Int)] 3)).heap.size:=by simp;omega
       clear hrc5 hrf5 hn5;refine hK _ _ ?_;clear hK K;refine take_oneH1 5 (AllReady.cons rfl (fun K hK=>?_) AllReady.nil) (by kernel_rfl)
       go_simp
       refine hK _ _ ?_;clear hK K;refine take_oneH1 6 (AllReady.cons rfl (fun K hK=>?_) AllReady.nil) (by kernel_rfl)
       refine step_append_rows _ rfl (.tmp 49) (.tmp 53) 29 rfl B2 B2 3 i0 (.int .i64 0) 1 8 Tryz.underlying29 hi hz0 hz1 hz2 rfl (by decide) _ _ _ rfl O5.out _ _ _ rfl L5.out (by simp [Value.oneCell']) (by unfold maxLen;rw [List.length_map,List.length_take];omega) (by rw [List.length_map,List.length_take];omega) o5a ?_
       intro v7 w7 hO7 hg7 hat7;have I7:=hideK (I5.out.app (idxR c (addR c R' tq) tq) hg7 hO7 hat7);have hgW:=(World.grownBy_alloc w5 (.cells #[.int .i64 (idxR c (addR c R' tq) tq:Int)] 3) ut.ownBlock).trans hg7;have m7:=(World.cell?_of_block (a:=⟨mb,3,none⟩) (hgW.block mb I5.out.ml.2 (fun e=>I5.out.mu.2.2 e.symm))).trans m5
       have f7:=(World.frozen?_of_block (a:=⟨mb,3,none⟩) (hgW.block mb I5.out.ml.2 (fun e=>I5.out.mu.2.2 e.symm))).trans (I5.out.mf 3)
       obtain ⟨va,vc,hv7⟩:=sliceH_own hO7;rw [HQL.out]at hv7;subst hv7;clear hO7 hg7 hat7 hgW;refine hK _ _ ?_;clear hK K;refine take_oneH1 7 (AllReady.cons rfl (fun K hK=>?_) AllReady.nil) (by kernel_rfl)
       go_simp
       refine hK _ _ ?_;clear hK K;refine take_oneH1 8 (AllReady.cons rfl (fun K hK=>?_) AllReady.nil) (by kernel_rfl)
       go_simp
       refine hK _ _ ?_;clear hK K;refine wpAny_done (by kernel_rfl) ?_ _
       go_wp2_with fail
       go_roundw
       case rel =>
        refine ⟨q+1,addR c R' tq,u5,.slice va (q+1) vc,by have:=HLT.out;omega,by go_num,by rw [HTK.out,List.foldl_append,← HRE.out];rfl,?_,HRI.out⟩
        have e:(nd.to.take (q+1)).map (idxR c (addR c R' tq))=(nd.to.take q).map (idxR c R')++[idxR c (addR c R' tq) tq]:=by
         rw [HTK.out,List.map_append];congr 1
         obtain ⟨ee,he⟩:=addR_pre c R' tq;rw [he];exact List.map_congr_left fun t ht=>idx_more c R' ee t (HMEM.out t ht)
        rw [e];exact I7.out
       case measure=>simp [intOf];omega
      ·go_simp
       refine (CR.out _ HIS.out.rc.dr).mono ?_;rintro e w5 ⟨rfl,u5,hrc5,hrf5,hn5⟩;have I5:=hideK (HIS.out.dr.reach hrc5 hrf5 hn5);have m5:=I5.out.m3;have O5:=hideK (own_belowG I5.out.row ((bR _ _).alloc (nR _) (.cells #[.int .i64 (idxR c (addR c R' tq) tq:Int)] 3)));have L5:=hideK (lit_rowG 3 B2 w5 (.int .i64 (idxR c (addR c R' tq) tq:Int)) w5.heap.size rfl I5.out.rc.o5);have o5:=I5.out.rc.o5;have m5a:(w5.alloc (.cells #[.int .i64 (idxR c (addR c R' tq) tq:Int)] 3)).cell? ⟨mb,3,none⟩=some ut:=(World.cell?_alloc_past _ _ _ I5.out.ml.2).trans m5;have o5a:B2≤(w5.alloc (.cells #[.int .i64 (idxR c (addR c R' tq) tq:Int)] 3)).heap.size:=by simp;omega
       clear hrc5 hrf5 hn5;refine hK _ _ ?_;clear hK K;refine wpAny_ready (rs:=[1,5]) (by kernel_rfl) (by simp) ?_
       refine (AllReady.cons rfl (fun K hK=>?_) (AllReady.cons rfl (fun K hK=>?_) AllReady.nil))
       ·go_simp
        refine hK _ _ ?_;clear hK K;refine take_oneH1 5 (AllReady.cons rfl (fun K hK=>?_) AllReady.nil) (by kernel_rfl)
        go_simp
        refine hK _ _ ?_;clear hK K;refine take_oneH1 6 (AllReady.cons rfl (fun K hK=>?_) AllReady.nil) (by kernel_rfl)
        refine step_append_rows _ rfl (.tmp 49) (.tmp 53) 29 rfl B2 B2 3 i0 (.int .i64 0) 1 8 Tryz.underlying29 hi hz0 hz1 hz2 rfl (by decide) _ _ _ rfl O5.out _ _ _ rfl L5.out (by simp [Value.oneCell']) (by unfold maxLen;rw [List.length_map,List.length_take];omega) (by rw [List.length_map,List.length_take];omega) o5a ?_
        intro v7 w7 hO7 hg7 hat7;have I7:=hideK (I5.out.app (idxR c (addR c R' tq) tq) hg7 hO7 hat7);have hgW:=(World.grownBy_alloc w5 (.cells #[.int .i64 (idxR c (addR c R' tq) tq:Int)] 3) ut.ownBlock).trans hg7;have m7:=(World.cell?_of_block (a:=⟨mb,3,none⟩) (hgW.block mb I5.out.ml.2 (fun e=>I5.out.mu.2.2 e.symm))).trans m5
        have f7:=(World.frozen?_of_block (a:=⟨mb,3,none⟩) (hgW.block mb I5.out.ml.2 (fun e=>I5.out.mu.2.2 e.symm))).trans (I5.out.mf 3)
        obtain ⟨va,vc,hv7⟩:=sliceH_own hO7;rw [HQL.out]at hv7;subst hv7;clear hO7 hg7 hat7 hgW;refine hK _ _ ?_;clear hK K;refine take_oneH1 7 (AllReady.cons rfl (fun K hK=>?_) AllReady.nil) (by kernel_rfl)
        go_simp
        refine hK _ _ ?_;clear hK K;refine take_oneH1 8 (AllReady.cons rfl (fun K hK=>?_) AllReady.nil) (by kernel_rfl)
        go_simp
        refine hK _ _ ?_;clear hK K;refine wpAny_done (by kernel_rfl) ?_ _
        go_wp2_with fail
        go_roundw
        case rel =>
         refine ⟨q+1,addR c R' tq,u5,.slice va (q+1) vc,by have:=HLT.out;omega,by go_num,by rw [HTK.out,List.foldl_append,← HRE.out];rfl,?_,HRI.out⟩
         have e:(nd.to.take (q+1)).map (idxR c (addR c R' tq))=(nd.to.take q).map (idxR c R')++[idxR c (addR c R' tq) tq]:=by
          rw [HTK.out,List.map_append];congr 1
          obtain ⟨ee,he⟩:=addR_pre c R' tq;rw [he];exact List.map_congr_left fun t ht=>idx_more c R' ee t (HMEM.out t ht)
         rw [e];exact I7.out
        case measure=>simp [intOf];omega
       ·go_simp
        refine hK _ _ ?_;clear hK K;refine take_oneH1 1 (AllReady.cons rfl (fun K hK=>?_) AllReady.nil) (by kernel_rfl)
        go_simp
        refine hK _ _ ?_;clear hK K;refine take_oneH1 6 (AllReady.cons rfl (fun K hK=>?_) AllReady.nil) (by kernel_rfl)
        refine step_append_rows _ rfl (.tmp 49) (.tmp 53) 29 rfl B2 B2 3 i0 (.int .i64 0) 1 8 Tryz.underlying29 hi hz0 hz1 hz2 rfl (by decide) _ _ _ rfl O5.out _ _ _ rfl L5.out (by simp [Value.oneCell']) (by unfold maxLen;rw [List.length_map,List.length_take];omega) (by rw [List.length_map,List.length_take];omega) o5a ?_
        intro v7 w7 hO7 hg7 hat7;have I7:=hideK (I5.out.app (idxR c (addR c R' tq) tq) hg7 hO7 hat7);have hgW:=(World.grownBy_alloc w5 (.cells #[.int .i64 (idxR c (addR c R' tq) tq:Int)] 3) ut.ownBlock).trans hg7;have m7:=(World.cell?_of_block (a:=⟨mb,3,none⟩) (hgW.block mb I5.out.ml.2 (fun e=>I5.out.mu.2.2 e.symm))).trans m5
        have f7:=(World.frozen?_of_block (a:=⟨mb,3,none⟩) (hgW.block mb I5.out.ml.2 (fun e=>I5.out.mu.2.2 e.symm))).trans (I5.out.mf 3)
        obtain ⟨va,vc,hv7⟩:=sliceH_own hO7;rw [HQL.out]at hv7;subst hv7;clear hO7 hg7 hat7 hgW;refine hK _ _ ?_;clear hK K;refine take_oneH1 7 (AllReady.cons rfl (fun K hK=>?_) AllReady.nil) (by kernel_rfl)
        go_simp
        refine hK _ _ ?_;clear hK K;refine take_oneH1 8 (AllReady.cons rfl (fun K hK=>?_) AllReady.nil) (by kernel_rfl)
        go_simp
        refine hK _ _ ?_;clear hK K;refine wpAny_done (by kernel_rfl) ?_ _
        go_wp2_with fail
        go_roundw
        case rel =>
         refine ⟨q+1,addR c R' tq,u5,.slice va (q+1) vc,by have:=HLT.out;omega,by go_num,by rw [HTK.out,List.foldl_append,← HRE.out];rfl,?_,HRI.out⟩
         have e:(nd.to.take (q+1)).map (idxR c (addR c R' tq))=(nd.to.take q).map (idxR c R')++[idxR c (addR c R' tq) tq]:=by
          rw [HTK.out,List.map_append];congr 1
          obtain ⟨ee,he⟩:=addR_pre c R' tq;rw [he];exact List.map_congr_left fun t ht=>idx_more c R' ee t (HMEM.out t ht)
         rw [e];exact I7.out
        case measure=>simp [intOf];omega
     ·have hltz:¬(q:Int)<(nd.to.length:Int):=by omega
      have hql:q=nd.to.length:=by omega
      subst hql;rw [List.take_length]at hR' hIS;subst hR';obtain ⟨ta,tc,rfl⟩:=sliceH_own hIS.row;rw [List.length_map]at hIS;obtain ⟨i1,hj,hy0,hy1,hy2⟩:=info_parts infoNd;have m0:=hIS.m0;have m1:=hIS.m1;have m2:=hIS.m2;have m3:=hIS.m3;have HIS:=hideK hIS;have o5:=hIS.rc.o5;have LR:=hideK (World.ownsRow_lit (base:=B2) (e:=102) (size:=4) wr #[.int .i64 nd.kind,.int .i64 nd.so,.slice la nd.labs.length lc,.slice ta nd.to.length tc] 1 o5 (by decide) rfl)
      have OA:=hideK (own_belowG hIS.out ((bR _ _).alloc (nR _) (.cells #[.int .i64 nd.kind,.int .i64 nd.so,.slice la nd.labs.length lc,.slice ta nd.to.length tc] 102)));have hml:=hri.len hcls;have hgl:=hg.le;have hmR:=HLS.out.le;obtain ⟨ee,hee⟩:=fold_pre c nd.to R;have hRR:R.length≤(nd.to.foldl (addR c) R).length:=by rw [hee];simp
      have o5a:B2≤(wr.alloc (.cells #[.int .i64 nd.kind,.int .i64 nd.so,.slice la nd.labs.length lc,.slice ta nd.to.length tc] 102)).heap.size:=by simp;omega
      clear hIS hee;go_wp2_with (at_builtin;refine wpList_append_rows _ rfl (.tmp 57) (.tmp 59) 44 rfl B2 B2 102 i1 _ 4 64 Tryz.underlying44 hj hy0 hy1 hy2 rfl (by decide) _ _ _ rfl OA.out _ _ _ rfl LR.out (by simp [Value.oneCell']) (by unfold maxLen;omega) (by omega) o5a ?_;intro v7 w7 hO7 hg7 hat7)
      have hu7:=sliceH_own hO7;obtain ⟨va,vc,rfl⟩:=hu7;go_roundw
      case rel =>
       have hx:=HNX.out;subst hx;have e3:nC (mkN g c ((nodeAt g R[m]).to.foldl (addR c) R) R[m],(la,lc),(ta,tc))=[.int .i64 (nodeAt g R[m]).kind,.int .i64 (nodeAt g R[m]).so,.slice la (nodeAt g R[m]).labs.length lc,.slice ta (nodeAt g R[m]).to.length tc]:=by unfold nC mkN;simp
       exact ⟨m+1,_,_,_,IS.done HLS.out hg.shut hm HIS.out hg7 (by rw [e3];exact hO7) hat7,lst_step hm (by omega) hrun⟩
      case measure=>simp [slLen];omega
   ·go_simp
    have hA4:Below wr.heap.size wr ((wr.alloc (.cells #[.int .i64 nd.kind,.int .i64 nd.so,.slice al nd.labs.length cl,.slice at1 nd.to.length ct] 102)).drew.alloc (.cells #[.int .i64 0,.int .i64 0,.slice none 0 0,.slice none 0 0] 102)):=BV.out.drew.alloc (by simp) _
    have hSn:=(S9K.out _ _ hS (((bR _ _).alloc (nR _) (.cells #[.int .i64 0,.int .i64 0,.slice none 0 0,.slice none 0 0] 102)).mono (by simp)))
    refine hK.out _ _ hSn ?_;clear hS hK K hSn;intro hS;refine take_oneHL 6 (AllReadyH.cons rfl (fun K hK=>?_) aN) (by kernel_rfl)
    go_simp
    refine (CC.out _ hA4).mono ?_;rintro e w3 ⟨ul,rfl,hO3,hb3⟩;obtain ⟨la,lc,rfl⟩:=sliceH_own hO3;have hsz:((wr.alloc (.cells #[.int .i64 nd.kind,.int .i64 nd.so,.slice al nd.labs.length cl,.slice at1 nd.to.length ct] 102)).drew.alloc (.cells #[.int .i64 0,.int .i64 0,.slice none 0 0,.slice none 0 0] 102)).heap.size=wr.heap.size+1+1:=by simp
    rw [hsz]at hO3;have hB3:Below wr.heap.size wr w3:=hA4.trans (hb3.mono (by rw [hsz];omega))
    have hS3:=S9K.out _ _ hS (hb3.mono (by rw [hsz];omega))
    have hSn:=hS3;refine hK.out _ _ hSn ?_;clear hS hK K hSn;intro hS;refine tkH 7 (.agg #[.int .i64 nd.kind,.int .i64 nd.so,.slice la nd.labs.length lc,.slice none 0 0]) hS ?_;have hl3:wr.heap.size+1+1≤w3.heap.size:=by have:=hb3.size;rw [hsz]at this;exact this
    have z0:w3.cell? ⟨wr.heap.size+1,0,none⟩=some (.int .i64 0):=(hb3.cell (p:=⟨wr.heap.size+1,0,none⟩) (by rw [hsz];show wr.heap.size+1<_;omega)).trans (by go_cell)
    have z1:w3.cell? ⟨wr.heap.size+1,1,none⟩=some (.int .i64 0):=(hb3.cell (p:=⟨wr.heap.size+1,1,none⟩) (by rw [hsz];show wr.heap.size+1<_;omega)).trans (by go_cell)
    have z2:w3.cell? ⟨wr.heap.size+1,2,none⟩=some (.slice none 0 0):=(hb3.cell (p:=⟨wr.heap.size+1,2,none⟩) (by rw [hsz];show wr.heap.size+1<_;omega)).trans (by go_cell)
    have z3:w3.cell? ⟨wr.heap.size+1,3,none⟩=some (.slice none 0 0):=(hb3.cell (p:=⟨wr.heap.size+1,3,none⟩) (by rw [hsz];show wr.heap.size+1<_;omega)).trans (by go_cell)
    have zf:∀o,w3.frozen? ⟨wr.heap.size+1,o,none⟩=false:=fun o=>(hb3.frozen (p:=⟨wr.heap.size+1,o,none⟩) (by rw [hsz];show wr.heap.size+1<_;omega)).trans (by go_simp)
    have MS:=hideK (made_st (W:=w3) (mb:=wr.heap.size+1) (kd:=nd.kind) (so:=nd.so) (ls:=nd.labs) (la:=la) (lc:=lc) z0 z1 z2 z3 zf hB3 ⟨by omega,by omega⟩ hO3 (by omega) (by intro e;have:=(hO3.lt _ e).1;omega))
    have N8a:=hideK (show w3.cell? ⟨wr.heap.size,3,none⟩=some (.slice at1 nd.to.length ct) from by
     rw [hb3.cell (p:=⟨wr.heap.size,3,none⟩) (by rw [hsz];show wr.heap.size<_;omega)]
     go_cell)
    have hne:wr.heap.size≠wr.heap.size+1:=by omega
    have f0:=zf 0;have f1:=zf 1;have f2:=zf 2;have f3:=zf 3;have HS4:=hideK hS;clear hO3 hb3 hB3 hA4 hS3 hsz hl3 zf hS;generalize wr.heap.size+1=mb at *;rename World=>V4
    refine take_oneHL 9 (AllReadyH.cons rfl (fun K hK=>?_) aN) (by kernel_rfl)
    go_simp
    refine hK.out _ _ (S9st.out V4 mb (.int .i64 nd.kind) (.int .i64 nd.so) (.slice la nd.labs.length lc) (.slice none 0 0) HS4.out hne) (fun _=>?_)
    clear hK K z0 z1 z2 z3 f0 f1 f2 f3 HS4;refine wpAnyH_done (by kernel_rfl) ?_ _
    obtain ⟨W3,hW3⟩:∃W,W=st4 V4 mb (.int .i64 nd.kind) (.int .i64 nd.so) (.slice la nd.labs.length lc) (.slice none 0 0):=⟨_,rfl⟩;rw [← hW3]at MS;have MI:=hideK (HLS.out.make (W3:=W3) MS.out.1 (mb:=mb) MS.out.2.1 MS.out.2.2.1 MS.out.2.2.2.1 MS.out.2.2.2.2.1 MS.out.2.2.2.2.2.1 MS.out.2.2.2.2.2.2.1 MS.out.2.2.2.2.2.2.2);have N8:=hideK (show W3.cell? ⟨wr.heap.size,3,none⟩=some (.slice at1 nd.to.length ct) from by rw [hW3,st4_other _ _ _ _ _ _ _ _ hne];exact N8a.out)
    unfold st4 at hW3;rw [← hW3];clear hW3 MS N8a hne;have n3:=N8.out;go_wp2_with fail
    go_loopw [44] (fun i wi=>∃(q:Nat) (R':List Nat) (u' ut:Value),q≤nd.to.length∧i = .int .i64 (q:Int)∧R'=(nd.to.take q).foldl (addR c) R∧IS w B2 cb nb rb fb g.length ac c R' u' (.slice oa m oc) m ts mb nd.kind nd.so nd.labs la lc ut ((nd.to.take q).map (idxR c R')) wi∧RInv g c R' m) (fun i _=>nd.to.length - (intOf i).toNat)
    case atStart=>exact ⟨0,R,_,_,Nat.zero_le _,rfl,rfl,MI.out,HLS.out.ri⟩
    case round =>
     obtain ⟨q,R',u',ut,hq,rfl,hR',hIS,hri⟩:=hrel;clear MI N8 n3;by_cases hlq:q<nd.to.length
     ·have hltz:(q:Int)<(nd.to.length:Int):=by omega
      obtain ⟨tb,to1,rfl,htb,htcell⟩:=hta.resolve_left (fun h=>by have:=congrArg List.length h;simp at this;rw [this]at hlq;simp at hlq)
      have d1:=(hIS.bl.cell (p:=⟨tb,to1+q,none⟩) (by show tb<w.heap.size;omega)).trans (htcell q (by simpa using hlq))
      rw [List.getElem_map]at d1;have htg:=HTO.out nd.to[q] (List.getElem_mem hlq);have hRl:=hri.len hcls;have hRg:=hg.le;have HTK:=hideK (show nd.to.take (q+1)=nd.to.take q++[nd.to[q]] from List.take_succ_eq_append_getElem hlq)
      have HMEM:=hideK (show ∀t∈nd.to.take q,clAt c t∈R'.map (clAt c) from fun t ht=>by rw [hR'];exact fold_mem c _ R t ht)
      have HRE:=hideK hR';have HLT:=hideK (show q<nd.to.length from hlq)
      have HQL:=hideK (show ((nd.to.take q).map (idxR c R')).length=q from by rw [List.length_map,List.length_take];omega)
      have HRI:=hideK (hri.add (by rw [hR'];exact HLS.out.le') nd.to[q] htg)
      clear htcell hR';generalize nd.to[q]=tq at *;have CR:=hideK (fun W (hrc:RC W B2 cb nb rb fb g.length ac c R' u')=>reach_any B2 cb nb rb fb g.length ac c R' u' tq W hrc htg (hcls.lt tq htg) (by omega))
      have HIS:=hideK hIS;have m3:=hIS.m3;clear hIS;go_wp2_with fail
      refine wp_region_any (by kernel_rfl) ?_
      change wpAny _ _ _ _ _ _ _ (World.drew _)
      refine wpAny_take (i:=0) (v:=(.pointer (some ⟨mb,3,none⟩))) rfl (by kernel_rfl) (by kernel_rfl) (by kernel_rfl) (fun _ _ _ h=>h) (Or.inl ⟨by rfl,fun w=>by go_simp⟩) ?_
      refine wpAny_take (i:=2) (v:=(.func (.func 50) #[] #[.pointer (some ⟨cb,0,none⟩),.pointer (some ⟨nb,0,none⟩),.pointer (some ⟨rb,0,none⟩)])) rfl (by kernel_rfl) (by kernel_rfl) (by kernel_rfl) (fun _ _ _ h=>h) (Or.inl ⟨by rfl,fun w=>by go_simp⟩) ?_
      refine wpAny_take (i:=3) (v:=(.int .i64 (tq:Int))) rfl (by kernel_rfl) (by kernel_rfl) (by kernel_rfl) (fun _ _ _ h=>h) (Or.inl ⟨by rfl,fun w=>by go_simp⟩) ?_
      refine wpAny_ready (rs:=[1,4]) (by kernel_rfl) (by simp) ?_
      refine (AllReady.cons rfl (fun K hK=>?_) (AllReady.cons rfl (fun K hK=>?_) AllReady.nil))
      ·go_simp
       refine hK _ _ ?_;clear hK K;refine take_oneH1 4 (AllReady.cons rfl (fun K hK=>?_) AllReady.nil) (by kernel_rfl)
       go_simp
       refine (CR.out _ HIS.out.rc.dr).mono ?_;rintro e w5 ⟨rfl,u5,hrc5,hrf5,hn5⟩;have I5:=hideK (HIS.out.dr.reach hrc5 hrf5 hn5);have m5:=I5.out.m3;have O5:=hideK (own_belowG I5.out.row ((bR _ _).alloc (nR _) (.cells #[.int .i64 (idxR c (addR c R' tq) tq:Int)] 3)));have L5:=hideK (lit_rowG 3 B2 w5 (.int .i64 (idxR c (addR c R' tq) tq:Int)) w5.heap.size rfl I5.out.rc.o5);have o5:=I5.out.rc.o5;have m5a:(w5.alloc (.cells #[.int .i64 (idxR c (addR c R' tq) tq:Int)] 3)).cell? ⟨mb,3,none⟩=some ut:=(World.cell?_alloc_past _ _ _ I5.out.ml.2).trans m5;have o5a:B2≤(w5.alloc (.cells #[.int .i64 (idxR c (addR c R' tq) tq:Int)] 3)).heap.size:=by simp;omega
       clear hrc5 hrf5 hn5;refine hK _ _ ?_;clear hK K;refine take_oneH1 5 (AllReady.cons rfl (fun K hK=>?_) AllReady.nil) (by kernel_rfl)
       go_simp
       refine hK _ _ ?_;clear hK K;refine take_oneH1 6 (AllReady.cons rfl (fun K hK=>?_) AllReady.nil) (by kernel_rfl)
       refine step_append_rows _ rfl (.tmp 49) (.tmp 53) 29 rfl B2 B2 3 i0 (.int .i64 0) 1 8 Tryz.underlying29 hi hz0 hz1 hz2 rfl (by decide) _ _ _ rfl O5.out _ _ _ rfl L5.out (by simp [Value.oneCell']) (by unfold maxLen;rw [List.length_map,List.length_take];omega) (by rw [List.length_map,List.length_take];omega) o5a ?_
       intro v7 w7 hO7 hg7 hat7;have I7:=hideK (I5.out.app (idxR c (addR c R' tq) tq) hg7 hO7 hat7);have hgW:=(World.grownBy_alloc w5 (.cells #[.int .i64 (idxR c (addR c R' tq) tq:Int)] 3) ut.ownBlock).trans hg7;have m7:=(World.cell?_of_block (a:=⟨mb,3,none⟩) (hgW.block mb I5.out.ml.2 (fun e=>I5.out.mu.2.2 e.symm))).trans m5
       have f7:=(World.frozen?_of_block (a:=⟨mb,3,none⟩) (hgW.block mb I5.out.ml.2 (fun e=>I5.out.mu.2.2 e.symm))).trans (I5.out.mf 3)
       obtain ⟨va,vc,hv7⟩:=sliceH_own hO7;rw [HQL.out]at hv7;subst hv7;clear hO7 hg7 hat7 hgW;refine hK _ _ ?_;clear hK K;refine take_oneH1 7 (AllReady.cons rfl (fun K hK=>?_) AllReady.nil) (by kernel_rfl)
       go_simp
       refine hK _ _ ?_;clear hK K;refine take_oneH1 8 (AllReady.cons rfl (fun K hK=>?_) AllReady.nil) (by kernel_rfl)
       go_simp
       refine hK _ _ ?_;clear hK K;refine wpAny_done (by kernel_rfl) ?_ _
       go_wp2_with fail
       go_roundw
       case rel =>
        refine ⟨q+1,addR c R' tq,u5,.slice va (q+1) vc,by have:=HLT.out;omega,by go_num,by rw [HTK.out,List.foldl_append,← HRE.out];rfl,?_,HRI.out⟩
        have e:(nd.to.take (q+1)).map (idxR c (addR c R' tq))=(nd.to.take q).map (idxR c R')++[idxR c (addR c R' tq) tq]:=by
         rw [HTK.out,List.map_append];congr 1
         obtain ⟨ee,he⟩:=addR_pre c R' tq;rw [he];exact List.map_congr_left fun t ht=>idx_more c R' ee t (HMEM.out t ht)
        rw [e];exact I7.out
       case measure=>simp [intOf];omega
      ·go_simp
       refine (CR.out _ HIS.out.rc.dr).mono ?_;rintro e w5 ⟨rfl,u5,hrc5,hrf5,hn5⟩;have I5:=hideK (HIS.out.dr.reach hrc5 hrf5 hn5);have m5:=I5.out.m3;have O5:=hideK (own_belowG I5.out.row ((bR _ _).alloc (nR _) (.cells #[.int .i64 (idxR c (addR c R' tq) tq:Int)] 3)));have L5:=hideK (lit_rowG 3 B2 w5 (.int .i64 (idxR c (addR c R' tq) tq:Int)) w5.heap.size rfl I5.out.rc.o5);have o5:=I5.out.rc.o5;have m5a:(w5.alloc (.cells #[.int .i64 (idxR c (addR c R' tq) tq:Int)] 3)).cell? ⟨mb,3,none⟩=some ut:=(World.cell?_alloc_past _ _ _ I5.out.ml.2).trans m5;have o5a:B2≤(w5.alloc (.cells #[.int .i64 (idxR c (addR c R' tq) tq:Int)] 3)).heap.size:=by simp;omega
       clear hrc5 hrf5 hn5;refine hK _ _ ?_;clear hK K;refine wpAny_ready (rs:=[1,5]) (by kernel_rfl) (by simp) ?_
       refine (AllReady.cons rfl (fun K hK=>?_) (AllReady.cons rfl (fun K hK=>?_) AllReady.nil))
       ·go_simp
        refine hK _ _ ?_;clear hK K;refine take_oneH1 5 (AllReady.cons rfl (fun K hK=>?_) AllReady.nil) (by kernel_rfl)
        go_simp
        refine hK _ _ ?_;clear hK K;refine take_oneH1 6 (AllReady.cons rfl (fun K hK=>?_) AllReady.nil) (by kernel_rfl)
        refine step_append_rows _ rfl (.tmp 49) (.tmp 53) 29 rfl B2 B2 3 i0 (.int .i64 0) 1 8 Tryz.underlying29 hi hz0 hz1 hz2 rfl (by decide) _ _ _ rfl O5.out _ _ _ rfl L5.out (by simp [Value.oneCell']) (by unfold maxLen;rw [List.length_map,List.length_take];omega) (by rw [List.length_map,List.length_take];omega) o5a ?_
        intro v7 w7 hO7 hg7 hat7;have I7:=hideK (I5.out.app (idxR c (addR c R' tq) tq) hg7 hO7 hat7);have hgW:=(World.grownBy_alloc w5 (.cells #[.int .i64 (idxR c (addR c R' tq) tq:Int)] 3) ut.ownBlock).trans hg7;have m7:=(World.cell?_of_block (a:=⟨mb,3,none⟩) (hgW.block mb I5.out.ml.2 (fun e=>I5.out.mu.2.2 e.symm))).trans m5
        have f7:=(World.frozen?_of_block (a:=⟨mb,3,none⟩) (hgW.block mb I5.out.ml.2 (fun e=>I5.out.mu.2.2 e.symm))).trans (I5.out.mf 3)
        obtain ⟨va,vc,hv7⟩:=sliceH_own hO7;rw [HQL.out]at hv7;subst hv7;clear hO7 hg7 hat7 hgW;refine hK _ _ ?_;clear hK K;refine take_oneH1 7 (AllReady.cons rfl (fun K hK=>?_) AllReady.nil) (by kernel_rfl)
        go_simp
        refine hK _ _ ?_;clear hK K;refine take_oneH1 8 (AllReady.cons rfl (fun K hK=>?_) AllReady.nil) (by kernel_rfl)
        go_simp
        refine hK _ _ ?_;clear hK K;refine wpAny_done (by kernel_rfl) ?_ _
        go_wp2_with fail
        go_roundw
        case rel =>
         refine ⟨q+1,addR c R' tq,u5,.slice va (q+1) vc,by have:=HLT.out;omega,by go_num,by rw [HTK.out,List.foldl_append,← HRE.out];rfl,?_,HRI.out⟩
         have e:(nd.to.take (q+1)).map (idxR c (addR c R' tq))=(nd.to.take q).map (idxR c R')++[idxR c (addR c R' tq) tq]:=by
          rw [HTK.out,List.map_append];congr 1
          obtain ⟨ee,he⟩:=addR_pre c R' tq;rw [he];exact List.map_congr_left fun t ht=>idx_more c R' ee t (HMEM.out t ht)
         rw [e];exact I7.out
        case measure=>simp [intOf];omega
       ·go_simp
        refine hK _ _ ?_;clear hK K;refine take_oneH1 1 (AllReady.cons rfl (fun K hK=>?_) AllReady.nil) (by kernel_rfl)
        go_simp
        refine hK _ _ ?_;clear hK K;refine take_oneH1 6 (AllReady.cons rfl (fun K hK=>?_) AllReady.nil) (by kernel_rfl)
        refine step_append_rows _ rfl (.tmp 49) (.tmp 53) 29 rfl B2 B2 3 i0 (.int .i64 0) 1 8 Tryz.underlying29 hi hz0 hz1 hz2 rfl (by decide) _ _ _ rfl O5.out _ _ _ rfl L5.out (by simp [Value.oneCell']) (by unfold maxLen;rw [List.length_map,List.length_take];omega) (by rw [List.length_map,List.length_take];omega) o5a ?_
        intro v7 w7 hO7 hg7 hat7;have I7:=hideK (I5.out.app (idxR c (addR c R' tq) tq) hg7 hO7 hat7);have hgW:=(World.grownBy_alloc w5 (.cells #[.int .i64 (idxR c (addR c R' tq) tq:Int)] 3) ut.ownBlock).trans hg7;have m7:=(World.cell?_of_block (a:=⟨mb,3,none⟩) (hgW.block mb I5.out.ml.2 (fun e=>I5.out.mu.2.2 e.symm))).trans m5
        have f7:=(World.frozen?_of_block (a:=⟨mb,3,none⟩) (hgW.block mb I5.out.ml.2 (fun e=>I5.out.mu.2.2 e.symm))).trans (I5.out.mf 3)
        obtain ⟨va,vc,hv7⟩:=sliceH_own hO7;rw [HQL.out]at hv7;subst hv7;clear hO7 hg7 hat7 hgW;refine hK _ _ ?_;clear hK K;refine take_oneH1 7 (AllReady.cons rfl (fun K hK=>?_) AllReady.nil) (by kernel_rfl)
        go_simp
        refine hK _ _ ?_;clear hK K;refine take_oneH1 8 (AllReady.cons rfl (fun K hK=>?_) AllReady.nil) (by kernel_rfl)
        go_simp
        refine hK _ _ ?_;clear hK K;refine wpAny_done (by kernel_rfl) ?_ _
        go_wp2_with fail
        go_roundw
        case rel =>
         refine ⟨q+1,addR c R' tq,u5,.slice va (q+1) vc,by have:=HLT.out;omega,by go_num,by rw [HTK.out,List.foldl_append,← HRE.out];rfl,?_,HRI.out⟩
         have e:(nd.to.take (q+1)).map (idxR c (addR c R' tq))=(nd.to.take q).map (idxR c R')++[idxR c (addR c R' tq) tq]:=by
          rw [HTK.out,List.map_append];congr 1
          obtain ⟨ee,he⟩:=addR_pre c R' tq;rw [he];exact List.map_congr_left fun t ht=>idx_more c R' ee t (HMEM.out t ht)
         rw [e];exact I7.out
        case measure=>simp [intOf];omega
     ·have hltz:¬(q:Int)<(nd.to.length:Int):=by omega
      have hql:q=nd.to.length:=by omega
      subst hql;rw [List.take_length]at hR' hIS;subst hR';obtain ⟨ta,tc,rfl⟩:=sliceH_own hIS.row;rw [List.length_map]at hIS;obtain ⟨i1,hj,hy0,hy1,hy2⟩:=info_parts infoNd;have m0:=hIS.m0;have m1:=hIS.m1;have m2:=hIS.m2;have m3:=hIS.m3;have HIS:=hideK hIS;have o5:=hIS.rc.o5;have LR:=hideK (World.ownsRow_lit (base:=B2) (e:=102) (size:=4) wr #[.int .i64 nd.kind,.int .i64 nd.so,.slice la nd.labs.length lc,.slice ta nd.to.length tc] 1 o5 (by decide) rfl)
      have OA:=hideK (own_belowG hIS.out ((bR _ _).alloc (nR _) (.cells #[.int .i64 nd.kind,.int .i64 nd.so,.slice la nd.labs.length lc,.slice ta nd.to.length tc] 102)));have hml:=hri.len hcls;have hgl:=hg.le;have hmR:=HLS.out.le;obtain ⟨ee,hee⟩:=fold_pre c nd.to R;have hRR:R.length≤(nd.to.foldl (addR c) R).length:=by rw [hee];simp
      have o5a:B2≤(wr.alloc (.cells #[.int .i64 nd.kind,.int .i64 nd.so,.slice la nd.labs.length lc,.slice ta nd.to.length tc] 102)).heap.size:=by simp;omega
      clear hIS hee;go_wp2_with (at_builtin;refine wpList_append_rows _ rfl (.tmp 57) (.tmp 59) 44 rfl B2 B2 102 i1 _ 4 64 Tryz.underlying44 hj hy0 hy1 hy2 rfl (by decide) _ _ _ rfl OA.out _ _ _ rfl LR.out (by simp [Value.oneCell']) (by unfold maxLen;omega) (by omega) o5a ?_;intro v7 w7 hO7 hg7 hat7)
      have hu7:=sliceH_own hO7;obtain ⟨va,vc,rfl⟩:=hu7;go_roundw
      case rel =>
       have hx:=HNX.out;subst hx;have e3:nC (mkN g c ((nodeAt g R[m]).to.foldl (addR c) R) R[m],(la,lc),(ta,tc))=[.int .i64 (nodeAt g R[m]).kind,.int .i64 (nodeAt g R[m]).so,.slice la (nodeAt g R[m]).labs.length lc,.slice ta (nodeAt g R[m]).to.length tc]:=by unfold nC mkN;simp
       exact ⟨m+1,_,_,_,IS.done HLS.out hg.shut hm HIS.out hg7 (by rw [e3];exact hO7) hat7,lst_step hm (by omega) hrun⟩
      case measure=>simp [slLen];omega
  ·have hltz:¬(m:Int)<(R.length:Int):=by omega
   have hmR:=hLS.le;have hme:m=R.length:=by omega
   subst hme;have hRX:=lst_stop (by omega) hrun
   have hmap:=hLS.map;rw [List.take_length]at hmap;have hLG:ts.map (·.1)=leastG g c:=by unfold leastG;rw [← hRX];exact hmap
   have htl:ts.length=R.length:=by have:=congrArg List.length hmap;simp at this;omega
   have hout:=hLS.out;rw [← htl]at hout;obtain ⟨ao,co,e1,hGA⟩:=gak_of hout hLS.tks (fun b hb=>hb.2.1) hLS.cp
   have hGN:=gan_of (Q:=fun b=>w.heap.size≤b∧b<wr.heap.size) hout hLS.tks (fun b hb=>⟨by have:=hb.1;have:=hLS.b0;have:=hLS.rc.o1;have:=hLS.rc.o2;have:=hLS.rc.o3;have:=hLS.rc.o4;omega,hb.2.1⟩) (fun b h1 h2=>⟨by have:=hLS.b0;have:=hLS.rc.o1;have:=hLS.rc.o2;have:=hLS.rc.o3;have:=hLS.rc.o4;omega,h2⟩) e1
   injection e1 with e1 e2 e3
   rw [hLG]at hGA hGN;have hlen:(leastG g c).length=R.length:=by rw [← hLG,List.length_map];exact htl
   have HF:=hideK (And.intro (And.intro hGA hGN) (And.intro hLS.bl hlen));subst e1 e3;clear hLS hGA hGN hout hmap hLG htl hRX hlen HLS;go_wp2_with fail
   go_ret
   exact ⟨⟨c,hcls,_,⟨_,by rw [HF.out.2.2];rfl⟩,HF.out.1⟩,HF.out.2.1⟩
theorem least_loopK(g:List Nd)(ag:OAd)(cg B:Nat)(w:World)(hg:GR1 g)(hga:GAt w B g ag)(hB:B≤w.heap.size):
  Calls Tryz.prog 28 #[.slice ag g.length cg] w fun e w'=>(∃c,CLS g c∧∃ao co,e = .returned (.slice ao (leastG g c).length co)∧GAK w' w'.heap.size (leastG g c) ao)∧Below w.heap.size w w' :=
 (least_loopN g ag cg B w hg hga hB).mono fun _ _ ⟨⟨c,hc,ao,co,e,h⟩,hb⟩=>⟨⟨c,hc,ao,co,e,h.1⟩,hb⟩
theorem least_loop(g:List Nd)(ag:OAd)(cg B:Nat)(w:World)(hg:GR1 g)(hga:GAt w B g ag)(hB:B≤w.heap.size):
  Calls Tryz.prog 28 #[.slice ag g.length cg] w fun e w'=>(∃c,CLS g c∧∃ao co,e = .returned (.slice ao (leastG g c).length co)∧GAt w' w'.heap.size (leastG g c) ao)∧Below w.heap.size w w' :=
 (least_loopK g ag cg B w hg hga hB).mono fun _ _ ⟨⟨c,hc,ao,co,e,h⟩,hb⟩=>⟨⟨c,hc,ao,co,e,h.gat⟩,hb⟩
end Go.Proofs.YtmamabhhgfcjcaaGreatDoor
