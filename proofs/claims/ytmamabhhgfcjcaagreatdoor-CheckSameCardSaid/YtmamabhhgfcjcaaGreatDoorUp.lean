/-
  graph.typeFrom at a node that it has not come through.
-/
import Derived.Test.YtmamabhhgfcjcaaGreatDoorUo
set_option maxRecDepth 100000
set_option maxHeartbeats 8000000
namespace Go.Proofs.YtmamabhhgfcjcaaGreatDoor
open Go.RowKit Go.Shelf
theorem WY.dr{n:Nat}{ag:OAd}{cg wb pb mb:Nat}{ps:Nat→Bool}{st:SB}{W:World}(h:WY n ag cg wb pb mb ps st W):WY n ag cg wb pb mb ps st W.drew:=h.keep (bR _ _).drew
theorem own_cap{W:World}{base:Nat}{e:TypeId}{size:Nat}{a:OAd}{n c:Nat}{xs:List Value}(h:W.ownsRow base e size (.slice a n c) n xs):n≤c∧c≤9223372036854775807:=by
 rcases h.2 with ⟨e1,e2⟩|⟨g,cap,cur,e1,_,_,h1,h2,_,_⟩
 ·injection e1 with _ _ e3
  omega
 ·unfold maxLen at h2
  injection e1 with _ _ e3
  omega
theorem But3.app7{wb pb mb:Nat}{w W W':World}(h:But3 wb pb mb w W){u:Option Nat}(hg:W.grownBy W' u)(hu:∀b,u=some b→w.heap.size≤b){tb:Nat}(ht:w.heap.size≤tb)(v:Value):But3 wb pb mb w (W'.setCell ⟨tb,4,none⟩ v):=by
 have hs:=h.size;have hs2:=hg.size;refine (show But3 wb pb mb w W' from ⟨hg.os.trans h.os,hg.tape.trans h.tape,hg.output.trans h.output,by omega,fun b hb h1 h2 h3=>(hg.block b (by omega) (fun e=>by have:=hu b e.symm;omega)).trans (h.block b hb h1 h2 h3)⟩).set (.inr (.inr (.inr ht))) v
theorem WY.app7{n:Nat}{ag:OAd}{cg wb pb mb:Nat}{ps:Nat→Bool}{st:SB}{W W':World}(h:WY n ag cg wb pb mb ps st W){u:Option Nat}(hg:W.grownBy W' u){tb:Nat}(hu:∀b,u=some b→tb≤b)(ht:wb<tb∧pb<tb∧mb<tb)(v:Value):WY n ag cg wb pb mb ps st (W'.setCell ⟨tb,4,none⟩ v):=by
 have lw:=h.lw;have lp:=h.lp;have lm:=h.lm;have k:∀b,b<tb→b<W.heap.size→W'.heap[b]? = W.heap[b]?:=fun b h1 h2=>hg.block b h2 (fun e=>by have:=hu b e.symm;omega)
 have c:∀b o,b<tb→b<W.heap.size→(W'.setCell ⟨tb,4,none⟩ v).cell? ⟨b,o,none⟩=W.cell? ⟨b,o,none⟩:=fun b o h1 h2=>(cell_set _ (.inl (by omega))).trans (World.cell?_of_block (a:=⟨b,o,none⟩) (k b h1 h2))
 have fz:∀b o,b<tb→b<W.heap.size→(W'.setCell ⟨tb,4,none⟩ v).frozen? ⟨b,o,none⟩=W.frozen? ⟨b,o,none⟩:=fun b o h1 h2=>(World.frozen?_setCell _ _ _ _).trans (World.frozen?_of_block (a:=⟨b,o,none⟩) (k b h1 h2))
 have hs:=hg.size;exact ⟨(c _ _ ht.1 lw).trans h.c0,(c _ _ ht.1 lw).trans h.c1,(c _ _ ht.1 lw).trans h.c2,(c _ _ ht.1 lw).trans h.c3,fun i hi=>(c _ _ ht.2.1 lp).trans (h.p i hi),fun i hi=>(c _ _ ht.2.2 lm).trans (h.m i hi),fun o=>(fz _ _ ht.1 lw).trans (h.fw o),fun o=>(fz _ _ ht.2.1 lp).trans (h.fp o),fun o=>(fz _ _ ht.2.2 lm).trans (h.fm o),h.wp,h.wm,h.pm,by simp;omega,by simp;omega,by simp;omega⟩
theorem bkL_len(F:Nat→SB→Ty × SB):∀(tos:List Nat) (a:List Ty × SB),(bkL F tos a).1.length=a.1.length+tos.length
 | [],_=>rfl
 | j::tos,a=>by
  rw [bkL_cons,bkL_len F tos];show (a.1++[_]).length+tos.length=_
  rw [List.length_append,List.length_singleton,List.length_cons];omega
structure S19(w:World)(nd:Nd)(la:OAd)(lc tb base:Nat)(ka:OAd)(kc:Nat)(ts:List TTk)(wr:World)(n:Nat)(ag:OAd)(cg wb pb mb:Nat)(ps:Nat→Bool)(st:SB)(W:World):Prop where
 t:TBX w nd la lc tb base (.slice ka nd.to.length kc) nd.to.length ts W
 y:WY n ag cg wb pb mb ps st W
 b:But3 wb pb mb w W
 k:∀b o,(w.heap.size<b∧b<wr.heap.size)→W.cell? ⟨b,o,none⟩=wr.cell? ⟨b,o,none⟩
 z:wr.heap.size≤W.heap.size
structure S5(nd:Nd)(la:OAd)(lc tb:Nat)(ka:OAd)(kc:Nat)(W:World):Prop where
 o0:W.cell? ⟨tb,0,none⟩=some (.int .i64 nd.kind)
 o1:W.cell? ⟨tb,1,none⟩=some (.int .i64 nd.so)
 o2:W.cell? ⟨tb,2,none⟩=some (.string ⟨#[]⟩)
 o3:W.cell? ⟨tb,3,none⟩=some (.slice la nd.labs.length lc)
 o4:W.cell? ⟨tb,4,none⟩=some (.slice ka nd.to.length kc)
theorem S19.s5{w:World}{nd:Nd}{la:OAd}{lc tb base:Nat}{ka:OAd}{kc:Nat}{ts:List TTk}{wr:World}{n:Nat}{ag:OAd}{cg wb pb mb:Nat}{ps:Nat→Bool}{st:SB}{W:World}(h:S19 w nd la lc tb base ka kc ts wr n ag cg wb pb mb ps st W):S5 nd la lc tb ka kc W:=⟨h.t.o0,h.t.o1,h.t.o2,h.t.o3,h.t.o4⟩
theorem lit_nd(V:World)(nd:Nd)(ks:List Ty)(la:OAd)(lc:Nat)(ka:OAd)(kc:Nat){n:Nat}(hn:ks.length=n):TyAt (V.alloc (.cells #[.int .i64 nd.kind,.int .i64 nd.so,.string ⟨#[]⟩,.slice la nd.labs.length lc,.slice ka n kc] 37)) V.heap.size 0 (ndT nd ks) la lc ka kc:=by
 subst hn;unfold ndT;exact ⟨by go_cell,by go_cell,by go_cell,by go_cell,by go_cell⟩
theorem S19.keep{w:World}{nd:Nd}{la:OAd}{lc tb base:Nat}{ka:OAd}{kc:Nat}{ts:List TTk}{wr:World}{n:Nat}{ag:OAd}{cg wb pb mb:Nat}{ps:Nat→Bool}{st:SB}{W W':World}(h:S19 w nd la lc tb base ka kc ts wr n ag cg wb pb mb ps st W)(hb:Below W.heap.size W W'):S19 w nd la lc tb base ka kc ts wr n ag cg wb pb mb ps st W' :=
 ⟨h.t.below hb,h.y.keep hb,h.b.trans (But3.below hb),fun b o q=>(hb.cell (p:=⟨b,o,none⟩) (nL q.2 h.z)).trans (h.k b o q),Nat.le_trans h.z hb.size⟩
theorem typeFrom_node(g:List Nd)(hg:GN g)(f:Nat)(ag:OAd)(cg B wb pb mb:Nat)(ps:Nat→Bool)(i:Nat)(met:Nat→Bool)(q:Nat)(w:World)(h60:¬ 60<q+1)(hi:i<g.length)(hps:ps i=false)(hfu:61≤f+1+q)(hga:GAt w B g ag)(hB0:B≤w.heap.size)(hB1:B≤wb)(hB2:B≤pb)(hB3:B≤mb)(hW:WY g.length ag cg wb pb mb ps (met,q) w)
  (IH:∀(ps:Nat→Bool) (i:Nat) (st:SB) (w:World),61≤f+st.2→i<g.length→phiB st.2≤10000→GAt w B g ag→B≤w.heap.size→WY g.length ag cg wb pb mb ps st w→Calls Tryz.prog 54 #[.pointer (some ⟨wb,0,none⟩),.int .i64 (i:Int)] w (BKPost g f ag cg wb pb mb ps i st w)) :
  Calls Tryz.prog 54 #[.pointer (some ⟨wb,0,none⟩),.int .i64 (i:Int)] w (BKPost g (f+1) ag cg wb pb mb ps i (met,q) w):=by
 have hlt:=hW.lw;have hlp:=hW.lp;have hlm:=hW.lm;have W1:=hideK (hW.keep ((bR _ _).alloc (nR _) (.cells #[.int .i64 0,.int .i64 0,.string ⟨#[]⟩,.slice none 0 0,.slice none 0 0] 37)));have c3:=W1.out.c3;have f3:=W1.out.fw 3;have hs':(w.setCell ⟨wb,3,none⟩ (.int .i64 ((q:Int)+1))).heap.size=w.heap.size:=by simp
 have HF:=hideK ((hW.part (z:=(q:Int)+1) (by omega)).keep ((bR _ _).alloc (nR _) (.cells #[.int .i64 0,.int .i64 0,.string ⟨#[]⟩,.slice none 0 0,.slice none 0 0] 37)))
 have HR:=hideK (show RBX _ w.heap.size from hs' ▸ RBX.new (w.setCell ⟨wb,3,none⟩ (.int .i64 ((q:Int)+1))))
 have HB:=hideK (((But3.refl wb pb mb w).set (b:=wb) (o:=3) (.inl rfl) (.int .i64 ((q:Int)+1))).trans (But3.below ((bR _ _).alloc (nR _) (.cells #[.int .i64 0,.int .i64 0,.string ⟨#[]⟩,.slice none 0 0,.slice none 0 0] 37))));have hz:¬(60:Int)<(q:Int)+1:=by omega
 have hz2:(q:Int)≤100000:=by omega
 have hi0:(0:Int)≤(i:Int):=by omega
 have hin:(i:Int)<(g.length:Int):=by omega
 have HC:=hideK (fun W=>nodeName_any i (by have:=hg.le;omega) W)
 have c3':((w.setCell ⟨wb,3,none⟩ (.int .i64 ((q:Int)+1))).alloc (.cells #[.int .i64 0,.int .i64 0,.string ⟨#[]⟩,.slice none 0 0,.slice none 0 0] 37)).cell? ⟨wb,3,none⟩=some (.int .i64 ((q:Int)+1)):=HF.out.c3;obtain ⟨gb,go1,rfl,hgb,hgc⟩:=hga.resolve_left (fun h=>by rw [h]at hi;simp at hi)
 have HGA:=hideK hga;obtain ⟨al,cl,at1,ct,hnd,hla,hta⟩:=hgc i hi;have hshp:=okN_shp (hg.at_ hi);have hnA:nodeAt g i=g[i]:=nodeAt_lt g _ hi;rw [← hnA]at hnd hla hta;have HTO:=hideK (show ∀t∈(nodeAt g i).to,t<g.length from fun t ht=>shut_at hg.shut _ t ht)
 have HT6:=hideK (shp_len hshp);have HSH:=hideK hshp;have hto6z:((nodeAt g i).to.length:Int)≤6:=by have:=(shp_len hshp).2.1;omega
 have HBK:=hideK (show bkT g (f+1) ps i (met,q)=if (bkL (bkT g f (upB ps i true)) (nodeAt g i).to ([],(upB met i false,q+1))).2.1 i=true then (recT (nmN i) (ndT (nodeAt g i) (bkL (bkT g f (upB ps i true)) (nodeAt g i).to ([],(upB met i false,q+1))).1),((bkL (bkT g f (upB ps i true)) (nodeAt g i).to ([],(upB met i false,q+1))).2.1,(bkL (bkT g f (upB ps i true)) (nodeAt g i).to ([],(upB met i false,q+1))).2.2+1)) else (ndT (nodeAt g i) (bkL (bkT g f (upB ps i true)) (nodeAt g i).to ([],(upB met i false,q+1))).1,(bkL (bkT g f (upB ps i true)) (nodeAt g i).to ([],(upB met i false,q+1))).2) from by
  rw [bkT,if_neg h60,if_neg (by rw [hps];decide)])
 have CC:=hideK (fun (W:World) (hb:But3 wb pb mb w W)=>copiedG_any (nodeAt g i).labs al cl B W (hla.keep (hb.bel hB0 hB1 hB2 hB3)) (Nat.le_trans hB0 hb.size) (by have:=(shp_len hshp).1;omega) (fun l hl=>by have:=(hshp.2.1 l hl).2;omega))
 have HND:=hideK hnd;have HTA:=hideK hta;have HLA:=hideK hla;clear hW hga hgc hnd hta hla hnA hshp;go_enter Tryz.func54,Tryz.ntmps54
 go_upto_region 2 with fail
 generalize ((w.setCell ⟨wb,3,none⟩ (.int .i64 ((q:Int)+1))).alloc (.cells #[.int .i64 0,.int .i64 0,.string ⟨#[]⟩,.slice none 0 0,.slice none 0 0] 37))=W2 at *;clear c3 f3 W1;have p1:=HF.out.c1;have p2:=HF.out.p i hi;rw [hps]at p2;have m1:=HF.out.c2;have m2:=HF.out.m i hi;have m3:=HF.out.fm i;have p3:=HF.out.fp i;have m4:=(HF.out.pass hi true).m i hi;have m5:=(HF.out.pass hi true).fm i;go_upto_region 7 with fail
 go_region
 have HF3:=hideK ((HF.out.pass hi true).meet hi false).dr;have HB3:=hideK ((HB.out.set (b:=pb) (o:=i) (.inr (.inl rfl)) (.bool true)).set (b:=mb) (o:=i) (.inr (.inr (.inl rfl))) (.bool false)).drew;have HR3:=hideK (((HR.out.set (b':=pb) (o':=i) (by omega) (.bool true)).set (b':=mb) (o':=i) (by omega) (.bool false)).keep (bR _ _).drew)
 clear p1 p2 m1 m2 m3 p3 m4 m5 HF HB HR c3';generalize ((W2.setCell ⟨pb,i,none⟩ (.bool true)).setCell ⟨mb,i,none⟩ (.bool false)).drew=W3 at *;have hs3:=HB3.out.size;have hr3:=HR3.out.lt;have w0:=HF3.out.c0;obtain ⟨c0,c1,c2,c3⟩:=HND.out.keep (HB3.out.bel hB0 hB1 hB2 hB3) (by omega)
 have HN:=hideK (show NBX w (nodeAt g i) al cl at1 ct W3.heap.size wb pb mb g.length (some ⟨gb,go1,none⟩) cg (upB ps i true) (upB met i false,q+1) (W3.alloc (.cells #[.int .i64 (nodeAt g i).kind,.int .i64 (nodeAt g i).so,.slice al (nodeAt g i).labs.length cl,.slice at1 (nodeAt g i).to.length ct] 102)) from
  ⟨by go_cell,by go_cell,by go_cell,by go_cell,HF3.out.keep ((bR _ _).alloc (nR _) _),HB3.out.trans (But3.below ((bR _ _).alloc (nR _) _)),HR3.out.keep ((bR _ _).alloc (nR _) _),hr3,by simp⟩)
 have HTI:=hideK (fun (W:World) (hb:But3 wb pb mb w W)=>HTA.out.keep (hb.bel hB0 hB1 hB2 hB3))
 have HGI:=hideK (fun (W:World) (hb:But3 wb pb mb w W)=>HGA.out.keep (hb.bel hB0 hB1 hB2 hB3))
 have HPH:=hideK (show ∀k,phiB (bkL (bkT g f (upB ps i true)) ((nodeAt g i).to.take k) ([],(upB met i false,q+1))).2.2≤10000∧61≤f+(bkL (bkT g f (upB ps i true)) ((nodeAt g i).to.take k) ([],(upB met i false,q+1))).2.2 from fun k=>by
  have h1:=bkL_phi (bk_phi g (to6 hg) f (upB ps i true)) ((nodeAt g i).to.take k) ([],(upB met i false,q+1));have h2:q+1≤(bkL (bkT g f (upB ps i true)) ((nodeAt g i).to.take k) ([],(upB met i false,q+1))).2.2:=bkL_mono (bk_mono g f (upB ps i true)) ((nodeAt g i).to.take k) ([],(upB met i false,q+1));have h3:((nodeAt g i).to.take k).length≤6:=by rw [List.length_take];have:=to6 hg i;omega
  have h4:phiB (q+1)≤500:=by unfold phiB;omega
  have h5:phiB (bkL (bkT g f (upB ps i true)) ((nodeAt g i).to.take k) ([],(upB met i false,q+1))).2.2≤phiB (q+1)+((nodeAt g i).to.take k).length:=h1;constructor <;> omega)
 have HPK:=hideK (show ∀k,(bkL (bkT g f (upB ps i true)) ((nodeAt g i).to.take k) ([],(upB met i false,q+1))).2.2≤10000 from fun k=>by have:=(HPH.out k).1;unfold phiB at this;omega)
 clear HTA HGA HND HLA;generalize nodeAt g i=nd at *;go_upto_region 9 with fail
 generalize W3.heap.size=nb at *;generalize W3.alloc (.cells #[.int .i64 nd.kind,.int .i64 nd.so,.slice al nd.labs.length cl,.slice at1 nd.to.length ct] 102)=W4 at *;clear c0 c1 c2 c3 w0 HF3 HB3 HR3;go_cut [6] (fun s6 wc=>∃(tb:Nat) (la:OAd) (lc:Nat),s6 = .pointer (some ⟨tb,0,none⟩)∧NBX w nd al cl at1 ct nb wb pb mb g.length (some ⟨gb,go1,none⟩) cg (upB ps i true) (upB met i false,q+1) wc∧TBX w nd la lc tb wc.heap.size (.slice none 0 0) 0 [] wc∧nd.labs.length≤lc∧lc≤9223372036854775807)
 case first =>
  have hS0:NBX w nd al cl at1 ct nb wb pb mb g.length (some ⟨gb,go1,none⟩) cg (upB ps i true) (upB met i false,q+1) W4.drew:=HN.out.keep ((bR _ _).drew);refine wp_region_held_drew (S:=NBX w nd al cl at1 ct nb wb pb mb g.length (some ⟨gb,go1,none⟩) cg (upB ps i true) (upB met i false,q+1)) (by kernel_rfl) hS0 (fun hS=>?_)
  clear hS0 HN;generalize World.drew W4=V0 at *;refine tkH 0 (.pointer (some ⟨nb,0,none⟩)) hS ?_;refine tkH 1 (.int .i64 nd.kind) hS ?_ (hy:=Or.inl ⟨by rfl,fun W hW=>by have x0:=hW.n0;have x1:=hW.n1;have x2:=hW.n2;go_simp⟩)
  refine tkH 2 (.pointer (some ⟨nb,1,none⟩)) hS ?_;refine tkH 3 (.int .i64 nd.so) hS ?_ (hy:=Or.inl ⟨by rfl,fun W hW=>by have x0:=hW.n0;have x1:=hW.n1;have x2:=hW.n2;go_simp⟩)
  refine tkH 4 (.pointer (some ⟨nb,2,none⟩)) hS ?_;refine tkH 5 (.slice al nd.labs.length cl) hS ?_ (hy:=Or.inl ⟨by rfl,fun W hW=>by have x0:=hW.n0;have x1:=hW.n1;have x2:=hW.n2;go_simp⟩)
  refine wpAnyH_ready (rs:=[6,8]) (by kernel_rfl) (by simp) (AllReadyH.cons rfl (fun K hK=>?_) (AllReadyH.cons rfl (fun K hK=>?_) aN))
  ·go_simp
   refine (CC.out _ hS.b3).mono ?_;rintro e V1 ⟨ul,rfl,hO,hb⟩;obtain ⟨la,lc,rfl⟩:=sliceH_own hO;have HCP:=hideK (own_cap hO);have hSn:=hS.keep hb;have hl0:=hS.l2;have hl1:=hS.l1;have HLQ:=hideK (lp_own (P:=fun b=>w.heap.size<b∧b<V1.heap.size) hO (fun b h1 h2=>⟨by omega,h2⟩))
   refine hK.out _ _ hSn ?_;clear hS hK K hSn hO hb hl0 hl1;intro hS;refine tkH 7 (.agg #[.int .i64 nd.kind,.int .i64 nd.so,.string ⟨#[]⟩,.slice la nd.labs.length lc,.slice none 0 0]) hS ?_;refine take_oneHL 8 (AllReadyH.cons rfl (fun K hK=>?_) aN) (by kernel_rfl)
   go_simp
   have hA:Below V1.heap.size V1 (V1.alloc (.cells #[.int .i64 0,.int .i64 0,.string ⟨#[]⟩,.slice none 0 0,.slice none 0 0] 37)):=(bR _ _).alloc (nR _) _;have hSn:=hS.keep hA;have HZ:=hideK (ZTX.new V1);have HLP:=hideK (show LP (V1.alloc (.cells #[.int .i64 0,.int .i64 0,.string ⟨#[]⟩,.slice none 0 0,.slice none 0 0] 37)) (fun b=>w.heap.size<b∧b<(V1.alloc (.cells #[.int .i64 0,.int .i64 0,.string ⟨#[]⟩,.slice none 0 0,.slice none 0 0] 37)).heap.size∧b≠V1.heap.size) nd.labs la from HLQ.out.keep (fun b o hb=>hA.cell (p:=⟨b,o,none⟩) hb.2) (fun b hb=>⟨hb.1,by have:=hb.2;simp;omega,by omega⟩))
   have HT1:=hideK (show w.heap.size<V1.heap.size from by have:=hS.l1;have:=hS.l2;omega)
   have HT2:=hideK (show V1.heap.size≠nb from by have:=hS.l2;omega)
   have HT3:=hideK (show V1.heap.size<(V1.alloc (.cells #[.int .i64 0,.int .i64 0,.string ⟨#[]⟩,.slice none 0 0,.slice none 0 0] 37)).heap.size from by simp)
   refine hK.out _ _ hSn ?_;clear hS hK K hSn hA HLQ;intro hS;generalize V1.heap.size=tb at *;generalize V1.alloc (.cells #[.int .i64 0,.int .i64 0,.string ⟨#[]⟩,.slice none 0 0,.slice none 0 0] 37)=V2 at *;obtain ⟨z0,z1,z2,z3,z4,zf⟩:=HZ.out;have f0:=zf 0;have f1:=zf 1;have f2:=zf 2;have f3:=zf 3;have f4:=zf 4;clear zf;have hSn:=hS.st hlt hlp hlm (b:=tb) HT1.out HT2.out (.int .i64 nd.kind) (.int .i64 nd.so) (.string ⟨#[]⟩) (.slice la nd.labs.length lc) (.slice none 0 0);have HTB:=hideK (TBX.make (lc:=lc) HZ.out hS.r HLP.out HT1.out HT3.out);refine take_oneHL 9 (AllReadyH.cons rfl (fun K hK=>?_) aN) (by kernel_rfl)
   go_simp
   refine hK.out _ (st5 V2 tb 0 (.int .i64 nd.kind) (.int .i64 nd.so) (.string ⟨#[]⟩) (.slice la nd.labs.length lc) (.slice none 0 0)) hSn ?_;clear hS hK K hSn z0 z1 z2 z3 z4 f0 f1 f2 f3 f4;intro hS;have HSZ:=hideK (show V2.heap.size=(st5 V2 tb 0 (.int .i64 nd.kind) (.int .i64 nd.so) (.string ⟨#[]⟩) (.slice la nd.labs.length lc) (.slice none 0 0)).heap.size from (st5_size _ _ _ _ _ _ _ _).symm)
   generalize (st5 V2 tb 0 (.int .i64 nd.kind) (.int .i64 nd.so) (.string ⟨#[]⟩) (.slice la nd.labs.length lc) (.slice none 0 0))=V3 at *;refine wpAnyH_done (by kernel_rfl) ?_ _
   go_wp2_with fail
   go_meet
   exact ⟨tb,la,lc,rfl,hS,HSZ.out ▸ HTB.out,HCP.out.1,HCP.out.2⟩
  ·go_simp
   have hA:Below V0.heap.size V0 (V0.alloc (.cells #[.int .i64 0,.int .i64 0,.string ⟨#[]⟩,.slice none 0 0,.slice none 0 0] 37)):=(bR _ _).alloc (nR _) _;have hSn:=hS.keep hA;have HZ:=hideK (ZTX.new V0);have HT1:=hideK (show w.heap.size<V0.heap.size from by have:=hS.l1;have:=hS.l2;omega)
   have HT2:=hideK (show V0.heap.size≠nb from by have:=hS.l2;omega)
   have HT3:=hideK (show V0.heap.size<(V0.alloc (.cells #[.int .i64 0,.int .i64 0,.string ⟨#[]⟩,.slice none 0 0,.slice none 0 0] 37)).heap.size from by simp)
   have HT4:=hideK (show V0.heap.size+1=(V0.alloc (.cells #[.int .i64 0,.int .i64 0,.string ⟨#[]⟩,.slice none 0 0,.slice none 0 0] 37)).heap.size from by simp)
   refine hK.out _ _ hSn ?_;clear hS hK K hSn hA;intro hS;generalize V0.heap.size=tb at *;generalize V0.alloc (.cells #[.int .i64 0,.int .i64 0,.string ⟨#[]⟩,.slice none 0 0,.slice none 0 0] 37)=V1 at *;refine take_oneHL 6 (AllReadyH.cons rfl (fun K hK=>?_) aN) (by kernel_rfl)
   go_simp
   refine (CC.out _ hS.b3).mono ?_;rintro e V2 ⟨ul,rfl,hO,hb⟩;obtain ⟨la,lc,rfl⟩:=sliceH_own hO;have HCP:=hideK (own_cap hO);have hSn:=hS.keep hb;have hl0:=hS.l2;have hl1:=hS.l1;have HLP:=hideK (lp_own (P:=fun b=>w.heap.size<b∧b<V2.heap.size∧b≠tb) hO (fun b h1 h2=>⟨by omega,h2,by have:=HT4.out;omega⟩))
   replace HZ:=hideK (HZ.out.keep hb HT3.out);replace HT3:=hideK (nL HT3.out hb.size);refine hK.out _ _ hSn ?_;clear hS hK K hSn hO hb hl0 hl1;intro hS;refine tkH 7 (.agg #[.int .i64 nd.kind,.int .i64 nd.so,.string ⟨#[]⟩,.slice la nd.labs.length lc,.slice none 0 0]) hS ?_;obtain ⟨z0,z1,z2,z3,z4,zf⟩:=HZ.out;have f0:=zf 0;have f1:=zf 1;have f2:=zf 2;have f3:=zf 3;have f4:=zf 4;clear zf;have hSn:=hS.st hlt hlp hlm (b:=tb) HT1.out HT2.out (.int .i64 nd.kind) (.int .i64 nd.so) (.string ⟨#[]⟩) (.slice la nd.labs.length lc) (.slice none 0 0);have HTB:=hideK (TBX.make (lc:=lc) HZ.out hS.r HLP.out HT1.out HT3.out);refine take_oneHL 9 (AllReadyH.cons rfl (fun K hK=>?_) aN) (by kernel_rfl)
   go_simp
   refine hK.out _ (st5 V2 tb 0 (.int .i64 nd.kind) (.int .i64 nd.so) (.string ⟨#[]⟩) (.slice la nd.labs.length lc) (.slice none 0 0)) hSn ?_;clear hS hK K hSn z0 z1 z2 z3 z4 f0 f1 f2 f3 f4;intro hS;have HSZ:=hideK (show V2.heap.size=(st5 V2 tb 0 (.int .i64 nd.kind) (.int .i64 nd.so) (.string ⟨#[]⟩) (.slice la nd.labs.length lc) (.slice none 0 0)).heap.size from (st5_size _ _ _ _ _ _ _ _).symm)
   generalize (st5 V2 tb 0 (.int .i64 nd.kind) (.int .i64 nd.so) (.string ⟨#[]⟩) (.slice la nd.labs.length lc) (.slice none 0 0))=V3 at *;refine wpAnyH_done (by kernel_rfl) ?_ _
   go_wp2_with fail
   go_meet
   exact ⟨tb,la,lc,rfl,hS,HSZ.out ▸ HTB.out,HCP.out.1,HCP.out.2⟩
 case rest =>
  obtain ⟨tb,la,lc,rfl,hN,hT,hlc,hlc2⟩:=hcut;have n3:=hN.n3;have HW0:=hideK hN.wy;have HB0:=hideK hN.b3;have HT0:=hideK hT;have HLC:=hideK (And.intro hlc hlc2);obtain ⟨j1,hj,hy0,hy1,hy2⟩:=info_parts infoTy;clear hN hT hlc hlc2 CC HN;generalize wc.heap.size=base at *;go_upto_region 11 with fail
  go_loopw [68] (fun i' wi=>∃(k:Nat) (u:Value) (ts:List TTk),k≤nd.to.length∧i' = .int .i64 (k:Int)∧TBX w nd la lc tb base u k ts wi∧ts.map (fun x=>x.1)=(bkL (bkT g f (upB ps i true)) (nd.to.take k) ([],(upB met i false,q+1))).1∧WY g.length (some ⟨gb,go1,none⟩) cg wb pb mb (upB ps i true) (bkL (bkT g f (upB ps i true)) (nd.to.take k) ([],(upB met i false,q+1))).2 wi∧But3 wb pb mb w wi) (fun i' _=>nd.to.length - (intOf i').toNat)
  case atStart=>exact ⟨0,_,[],Nat.zero_le _,rfl,HT0.out,by rw [List.take_zero];rfl,by rw [List.take_zero];exact HW0.out,HB0.out⟩
  case round =>
   obtain ⟨k,u,ts,hk,rfl,hT,hmp,hWY,hB⟩:=hrel;clear HT0 HW0 HB0 n3;by_cases hlk:k<nd.to.length
   ·have hltz:(k:Int)<(nd.to.length:Int):=by omega
    have hta:=HTI.out _ hB;obtain ⟨eb,eo,rfl,heb,hecell⟩:=hta.resolve_left (fun h=>by have:=congrArg List.length h;simp at this;rw [this]at hlk;simp at hlk)
    have d1:=hecell k (by simpa using hlk)
    rw [List.getElem_map]at d1;have htg:=HTO.out nd.to[k] (List.getElem_mem hlk);have HTK:=hideK (show nd.to.take (k+1)=nd.to.take k++[nd.to[k]] from List.take_succ_eq_append_getElem hlk)
    have CT:=hideK (fun (W:World) (hb:But3 wb pb mb w W) (hw:WY g.length (some ⟨gb,go1,none⟩) cg wb pb mb (upB ps i true) (bkL (bkT g f (upB ps i true)) (nd.to.take k) ([],(upB met i false,q+1))).2 W)=>IH (upB ps i true) nd.to[k] (bkL (bkT g f (upB ps i true)) (nd.to.take k) ([],(upB met i false,q+1))).2 W (HPH.out k).2 htg (HPH.out k).1 (HGI.out W hb) (Nat.le_trans hB0 hb.size) hw)
    have HSN:=hideK (show bkL (bkT g f (upB ps i true)) (nd.to.take (k+1)) ([],(upB met i false,q+1))=stB (bkT g f (upB ps i true)) (bkL (bkT g f (upB ps i true)) (nd.to.take k) ([],(upB met i false,q+1))) nd.to[k] from by rw [HTK.out,bkL_snoc])
    have HMP:=hideK hmp;have HTB:=hideK hT;have HWY:=hideK hWY;have HBT:=hideK hB;obtain ⟨ua,uc,rfl⟩:=sliceH_own hT.own;have m4:=hT.o4;have h6:=HT6.out.2.1;clear hecell hta hmp hT hWY hB;unfold stB at HSN;generalize (bkL (bkT g f (upB ps i true)) (nd.to.take k) ([],(upB met i false,q+1)))=BL at *;generalize nd.to[k]=tk at *;generalize hbt:bkT g f (upB ps i true) tk BL.2=bt at *;unfold BKPost at CT;rw [hbt]at CT;go_upto_region 13 with fail
    refine wp_region_any (by kernel_rfl) ?_
    change wpAny _ _ _ _ _ _ _ (World.drew _)
    refine wpAny_take (i:=0) (v:=(.pointer (some ⟨tb,4,none⟩))) rfl (by kernel_rfl) (by kernel_rfl) (by kernel_rfl) (fun _ _ _ h=>h) (Or.inl ⟨by rfl,fun w=>by go_simp⟩) ?_
    refine wpAny_take (i:=2) (v:=(.pointer (some ⟨wb,0,none⟩))) rfl (by kernel_rfl) (by kernel_rfl) (by kernel_rfl) (fun _ _ _ h=>h) (Or.inl ⟨by rfl,fun w=>by go_simp⟩) ?_
    refine wpAny_take (i:=3) (v:=(.int .i64 (tk:Int))) rfl (by kernel_rfl) (by kernel_rfl) (by kernel_rfl) (fun _ _ _ h=>h) (Or.inl ⟨by rfl,fun w=>by go_simp⟩) ?_
    refine wpAny_ready (rs:=[1,4]) (by kernel_rfl) (by simp) ?_
    refine (AllReady.cons rfl (fun K hK=>?_) (AllReady.cons rfl (fun K hK=>?_) AllReady.nil))
    ·go_simp
     refine hK _ _ ?_;clear hK K;refine take_oneH1 4 (AllReady.cons rfl (fun K hK=>?_) AllReady.nil) (by kernel_rfl)
     go_simp
     refine (CT.out _ HBT.out.drew HWY.out.dr).mono ?_;rintro e w5 ⟨⟨al3,cl3,ak3,ck3,d3,rfl,hbd3,hlp3,hkp3⟩,hwy5,hbt5⟩;have T5:=hideK (HTB.out.but hlt hlp hlm ((But3.refl wb pb mb wr).drew.trans hbt5));have m5:=T5.out.o4;have B5:=hideK (HBT.out.drew.trans hbt5);have Y5:=hideK hwy5;have X5:=hideK (show TyBd bt.1 cl3 ck3∧LP w5 (fun b=>wr.heap.size≤b∧b<w5.heap.size) bt.1.labels al3∧∃d,KP w5 (fun b=>wr.heap.size≤b∧b<w5.heap.size) d bt.1.kids ak3 from ⟨hbd3,hlp3,d3,hkp3⟩)
     have hA5:Below w5.heap.size w5 (w5.alloc (.cells #[.int .i64 bt.1.kind,.int .i64 bt.1.so,.string bt.1.name,.slice al3 bt.1.labels.length cl3,.slice ak3 bt.1.kids.length ck3] 37)):=(bR _ _).alloc (nR _) _;have O5:=hideK (own_belowG T5.out.own hA5);have L5:=hideK (show (w5.alloc (.cells #[.int .i64 bt.1.kind,.int .i64 bt.1.so,.string bt.1.name,.slice al3 bt.1.labels.length cl3,.slice ak3 bt.1.kids.length ck3] 37)).ownsRow base 37 5 (.slice (some ⟨w5.heap.size,0,none⟩) 1 1) 1 (tC (bt.1,(al3,cl3),(ak3,ck3))) from World.ownsRow_lit (base:=base) (e:=37) (size:=5) w5 #[.int .i64 bt.1.kind,.int .i64 bt.1.so,.string bt.1.name,.slice al3 bt.1.labels.length cl3,.slice ak3 bt.1.kids.length ck3] 1 T5.out.l3 (by decide) rfl)
     have o5:=T5.out.l3;have l2:=T5.out.l2;have m5a:(w5.alloc (.cells #[.int .i64 bt.1.kind,.int .i64 bt.1.so,.string bt.1.name,.slice al3 bt.1.labels.length cl3,.slice ak3 bt.1.kids.length ck3] 37)).cell? ⟨tb,4,none⟩=some (.slice ua k uc):=(World.cell?_alloc_past _ _ _ (show tb<w5.heap.size by omega)).trans m5
     have o5a:base≤(w5.alloc (.cells #[.int .i64 bt.1.kind,.int .i64 bt.1.so,.string bt.1.name,.slice al3 bt.1.labels.length cl3,.slice ak3 bt.1.kids.length ck3] 37)).heap.size:=by simp;omega
     simp only [tyVal];clear hwy5 hbt5 hbd3 hlp3 hkp3;refine hK _ _ ?_;clear hK K;refine take_oneH1 5 (AllReady.cons rfl (fun K hK=>?_) AllReady.nil) (by kernel_rfl)
     go_simp
     refine hK _ _ ?_;clear hK K;refine take_oneH1 6 (AllReady.cons rfl (fun K hK=>?_) AllReady.nil) (by kernel_rfl)
     refine step_append_rows _ rfl (.tmp 73) (.tmp 77) 35 rfl base base 37 j1 _ 5 80 Tryz.underlying35 hj hy0 hy1 hy2 rfl (by decide) _ _ _ rfl O5.out _ _ _ rfl L5.out (tC_one (bt.1,(al3,cl3),(ak3,ck3))) (by unfold maxLen;omega) (by omega) o5a ?_
     intro v7 w7 hO7 hg7 hat7;have HUV:=hideK (show ∀b,(Value.slice ua k uc).ownBlock=some b→b<wr.heap.size from fun b e=>(HTB.out.ul b e).2)
     have T7:=hideK (T5.out.app hA5 (V:=wr.heap.size) HTB.out.l3 HUV.out X5.out hg7 hO7 hat7);have hgW:=(World.grownBy_alloc w5 (.cells #[.int .i64 bt.1.kind,.int .i64 bt.1.so,.string bt.1.name,.slice al3 bt.1.labels.length cl3,.slice ak3 bt.1.kids.length ck3] 37) (Value.slice ua k uc).ownBlock).trans hg7;have htn:(Value.slice ua k uc).ownBlock≠some tb:=fun e=>by have:=(T5.out.ul tb e).1;omega
     have m7:=(World.cell?_of_block (a:=⟨tb,4,none⟩) (hgW.block tb (by omega) (fun e=>htn e.symm))).trans m5
     have f7:=(World.frozen?_of_block (a:=⟨tb,4,none⟩) (hgW.block tb (by omega) (fun e=>htn e.symm))).trans (T5.out.fo 4)
     have BW7:=hideK (B5.out.app7 hgW (fun b e=>by have:=(T5.out.ul b e).1;have:=T5.out.l1;omega) (show w.heap.size≤tb from by have:=T5.out.l1;omega) v7)
     have YW7:=hideK (Y5.out.app7 hgW (fun b e=>by have:=(T5.out.ul b e).1;have:=T5.out.l1;omega) (show wb<tb∧pb<tb∧mb<tb from by have:=T5.out.l1;omega) v7)
     obtain ⟨va,vc,rfl⟩:=sliceH_own hO7;clear hO7 hg7 hat7 hgW htn hA5;refine hK _ _ ?_;clear hK K;refine take_oneH1 7 (AllReady.cons rfl (fun K hK=>?_) AllReady.nil) (by kernel_rfl)
     go_simp
     refine hK _ _ ?_;clear hK K;refine take_oneH1 8 (AllReady.cons rfl (fun K hK=>?_) AllReady.nil) (by kernel_rfl)
     go_simp
     refine hK _ _ ?_;clear hK K;refine wpAny_done (by kernel_rfl) ?_ _
     go_wp2_with fail
     go_roundw
     case rel =>
      refine ⟨k+1,.slice va (k+1) vc,ts++[(bt.1,(al3,cl3),(ak3,ck3))],by omega,by go_num,T7.out,?_,?_,BW7.out⟩
      ·rw [HSN.out,List.map_append,HMP.out];rfl
      ·rw [HSN.out];exact YW7.out
     case measure=>simp [intOf];omega
    ·go_simp
     refine (CT.out _ HBT.out.drew HWY.out.dr).mono ?_;rintro e w5 ⟨⟨al3,cl3,ak3,ck3,d3,rfl,hbd3,hlp3,hkp3⟩,hwy5,hbt5⟩;have T5:=hideK (HTB.out.but hlt hlp hlm ((But3.refl wb pb mb wr).drew.trans hbt5));have m5:=T5.out.o4;have B5:=hideK (HBT.out.drew.trans hbt5);have Y5:=hideK hwy5;have X5:=hideK (show TyBd bt.1 cl3 ck3∧LP w5 (fun b=>wr.heap.size≤b∧b<w5.heap.size) bt.1.labels al3∧∃d,KP w5 (fun b=>wr.heap.size≤b∧b<w5.heap.size) d bt.1.kids ak3 from ⟨hbd3,hlp3,d3,hkp3⟩)
     have hA5:Below w5.heap.size w5 (w5.alloc (.cells #[.int .i64 bt.1.kind,.int .i64 bt.1.so,.string bt.1.name,.slice al3 bt.1.labels.length cl3,.slice ak3 bt.1.kids.length ck3] 37)):=(bR _ _).alloc (nR _) _;have O5:=hideK (own_belowG T5.out.own hA5);have L5:=hideK (show (w5.alloc (.cells #[.int .i64 bt.1.kind,.int .i64 bt.1.so,.string bt.1.name,.slice al3 bt.1.labels.length cl3,.slice ak3 bt.1.kids.length ck3] 37)).ownsRow base 37 5 (.slice (some ⟨w5.heap.size,0,none⟩) 1 1) 1 (tC (bt.1,(al3,cl3),(ak3,ck3))) from World.ownsRow_lit (base:=base) (e:=37) (size:=5) w5 #[.int .i64 bt.1.kind,.int .i64 bt.1.so,.string bt.1.name,.slice al3 bt.1.labels.length cl3,.slice ak3 bt.1.kids.length ck3] 1 T5.out.l3 (by decide) rfl)
     have o5:=T5.out.l3;have l2:=T5.out.l2;have m5a:(w5.alloc (.cells #[.int .i64 bt.1.kind,.int .i64 bt.1.so,.string bt.1.name,.slice al3 bt.1.labels.length cl3,.slice ak3 bt.1.kids.length ck3] 37)).cell? ⟨tb,4,none⟩=some (.slice ua k uc):=(World.cell?_alloc_past _ _ _ (show tb<w5.heap.size by omega)).trans m5
     have o5a:base≤(w5.alloc (.cells #[.int .i64 bt.1.kind,.int .i64 bt.1.so,.string bt.1.name,.slice al3 bt.1.labels.length cl3,.slice ak3 bt.1.kids.length ck3] 37)).heap.size:=by simp;omega
     simp only [tyVal];clear hwy5 hbt5 hbd3 hlp3 hkp3;refine hK _ _ ?_;clear hK K;refine wpAny_ready (rs:=[1,5]) (by kernel_rfl) (by simp) ?_
     refine (AllReady.cons rfl (fun K hK=>?_) (AllReady.cons rfl (fun K hK=>?_) AllReady.nil))
     ·go_simp
      refine hK _ _ ?_;clear hK K;refine take_oneH1 5 (AllReady.cons rfl (fun K hK=>?_) AllReady.nil) (by kernel_rfl)
      go_simp
      refine hK _ _ ?_;clear hK K;refine take_oneH1 6 (AllReady.cons rfl (fun K hK=>?_) AllReady.nil) (by kernel_rfl)
      refine step_append_rows _ rfl (.tmp 73) (.tmp 77) 35 rfl base base 37 j1 _ 5 80 Tryz.underlying35 hj hy0 hy1 hy2 rfl (by decide) _ _ _ rfl O5.out _ _ _ rfl L5.out (tC_one (bt.1,(al3,cl3),(ak3,ck3))) (by unfold maxLen;omega) (by omega) o5a ?_
      intro v7 w7 hO7 hg7 hat7;have HUV:=hideK (show ∀b,(Value.slice ua k uc).ownBlock=some b→b<wr.heap.size from fun b e=>(HTB.out.ul b e).2)
      have T7:=hideK (T5.out.app hA5 (V:=wr.heap.size) HTB.out.l3 HUV.out X5.out hg7 hO7 hat7);have hgW:=(World.grownBy_alloc w5 (.cells #[.int .i64 bt.1.kind,.int .i64 bt.1.so,.string bt.1.name,.slice al3 bt.1.labels.length cl3,.slice ak3 bt.1.kids.length ck3] 37) (Value.slice ua k uc).ownBlock).trans hg7;have htn:(Value.slice ua k uc).ownBlock≠some tb:=fun e=>by have:=(T5.out.ul tb e).1;omega
      have m7:=(World.cell?_of_block (a:=⟨tb,4,none⟩) (hgW.block tb (by omega) (fun e=>htn e.symm))).trans m5
      have f7:=(World.frozen?_of_block (a:=⟨tb,4,none⟩) (hgW.block tb (by omega) (fun e=>htn e.symm))).trans (T5.out.fo 4)
      have BW7:=hideK (B5.out.app7 hgW (fun b e=>by have:=(T5.out.ul b e).1;have:=T5.out.l1;omega) (show w.heap.size≤tb from by have:=T5.out.l1;omega) v7)
      have YW7:=hideK (Y5.out.app7 hgW (fun b e=>by have:=(T5.out.ul b e).1;have:=T5.out.l1;omega) (show wb<tb∧pb<tb∧mb<tb from by have:=T5.out.l1;omega) v7)
      obtain ⟨va,vc,rfl⟩:=sliceH_own hO7;clear hO7 hg7 hat7 hgW htn hA5;refine hK _ _ ?_;clear hK K;refine take_oneH1 7 (AllReady.cons rfl (fun K hK=>?_) AllReady.nil) (by kernel_rfl)
      go_simp
      refine hK _ _ ?_;clear hK K;refine take_oneH1 8 (AllReady.cons rfl (fun K hK=>?_) AllReady.nil) (by kernel_rfl)
      go_simp
      refine hK _ _ ?_;clear hK K;refine wpAny_done (by kernel_rfl) ?_ _
      go_wp2_with fail
      go_roundw
      case rel =>
       refine ⟨k+1,.slice va (k+1) vc,ts++[(bt.1,(al3,cl3),(ak3,ck3))],by omega,by go_num,T7.out,?_,?_,BW7.out⟩
       ·rw [HSN.out,List.map_append,HMP.out];rfl
       ·rw [HSN.out];exact YW7.out
      case measure=>simp [intOf];omega
     ·go_simp
      refine hK _ _ ?_;clear hK K;refine take_oneH1 1 (AllReady.cons rfl (fun K hK=>?_) AllReady.nil) (by kernel_rfl)
      go_simp
      refine hK _ _ ?_;clear hK K;refine take_oneH1 6 (AllReady.cons rfl (fun K hK=>?_) AllReady.nil) (by kernel_rfl)
      refine step_append_rows _ rfl (.tmp 73) (.tmp 77) 35 rfl base base 37 j1 _ 5 80 Tryz.underlying35 hj hy0 hy1 hy2 rfl (by decide) _ _ _ rfl O5.out _ _ _ rfl L5.out (tC_one (bt.1,(al3,cl3),(ak3,ck3))) (by unfold maxLen;omega) (by omega) o5a ?_
      intro v7 w7 hO7 hg7 hat7;have HUV:=hideK (show ∀b,(Value.slice ua k uc).ownBlock=some b→b<wr.heap.size from fun b e=>(HTB.out.ul b e).2)
      have T7:=hideK (T5.out.app hA5 (V:=wr.heap.size) HTB.out.l3 HUV.out X5.out hg7 hO7 hat7);have hgW:=(World.grownBy_alloc w5 (.cells #[.int .i64 bt.1.kind,.int .i64 bt.1.so,.string bt.1.name,.slice al3 bt.1.labels.length cl3,.slice ak3 bt.1.kids.length ck3] 37) (Value.slice ua k uc).ownBlock).trans hg7;have htn:(Value.slice ua k uc).ownBlock≠some tb:=fun e=>by have:=(T5.out.ul tb e).1;omega
      have m7:=(World.cell?_of_block (a:=⟨tb,4,none⟩) (hgW.block tb (by omega) (fun e=>htn e.symm))).trans m5
      have f7:=(World.frozen?_of_block (a:=⟨tb,4,none⟩) (hgW.block tb (by omega) (fun e=>htn e.symm))).trans (T5.out.fo 4)
      have BW7:=hideK (B5.out.app7 hgW (fun b e=>by have:=(T5.out.ul b e).1;have:=T5.out.l1;omega) (show w.heap.size≤tb from by have:=T5.out.l1;omega) v7)
      have YW7:=hideK (Y5.out.app7 hgW (fun b e=>by have:=(T5.out.ul b e).1;have:=T5.out.l1;omega) (show wb<tb∧pb<tb∧mb<tb from by have:=T5.out.l1;omega) v7)
      obtain ⟨va,vc,rfl⟩:=sliceH_own hO7;clear hO7 hg7 hat7 hgW htn hA5;refine hK _ _ ?_;clear hK K;refine take_oneH1 7 (AllReady.cons rfl (fun K hK=>?_) AllReady.nil) (by kernel_rfl)
      go_simp
      refine hK _ _ ?_;clear hK K;refine take_oneH1 8 (AllReady.cons rfl (fun K hK=>?_) AllReady.nil) (by kernel_rfl)
      go_simp
      refine hK _ _ ?_;clear hK K;refine wpAny_done (by kernel_rfl) ?_ _
      go_wp2_with fail
      go_roundw
      case rel =>
       refine ⟨k+1,.slice va (k+1) vc,ts++[(bt.1,(al3,cl3),(ak3,ck3))],by omega,by go_num,T7.out,?_,?_,BW7.out⟩
       ·rw [HSN.out,List.map_append,HMP.out];rfl
       ·rw [HSN.out];exact YW7.out
      case measure=>simp [intOf];omega
   ·have hltz:¬(k:Int)<(nd.to.length:Int):=by omega
    obtain rfl:k=nd.to.length:=by omega
    rw [List.take_length]at hmp hWY;have HLN:=hideK (show (bkL (bkT g f (upB ps i true)) nd.to ([],(upB met i false,q+1))).1.length=nd.to.length from by rw [bkL_len];exact Nat.zero_add _)
    have HPT:=hideK (show (bkL (bkT g f (upB ps i true)) nd.to ([],(upB met i false,q+1))).2.2≤10000 from by have:=HPK.out nd.to.length;rw [List.take_length]at this;exact this)
    generalize bkL (bkT g f (upB ps i true)) nd.to ([],(upB met i false,q+1))=BL at *;have htl:ts.length=nd.to.length:=by rw [← HLN.out,← hmp,List.length_map]
    obtain ⟨ka,kc,d,rfl,hkc,hkc2,hkp⟩:=kp_row hT.own htl (hT.tok.keep (fun _ _ _=>rfl) (Q:=fun b=>w.heap.size<b∧b<wr.heap.size) (fun b hb=>⟨by have:=hT.l1;have:=hT.l2;omega,hb.2.1⟩)) (fun b e=>⟨by have:=(hT.ul b e).1;have:=hT.l1;have:=hT.l2;omega,(hT.ul b e).2⟩)
    rw [hmp]at hkp;have HKP:=hideK hkp;have HLP:=hideK (hT.lp.keep (W':=wr) (fun _ _ _=>rfl) (Q:=fun b=>w.heap.size<b∧b<wr.heap.size) (fun b hb=>⟨hb.1,by have:=hT.l3;omega⟩))
    have HBD:=hideK (show TyBd (ndT nd BL.1) lc kc from ⟨by show (0:Nat)≤_;omega,fun l hl=>by have:=(HSH.out.2.1 l hl).2;omega,HLC.out.1,HLC.out.2,by show BL.1.length≤kc;rw [HLN.out];exact hkc,hkc2⟩)
    have hupb:upB (upB ps i true) i false=ps:=by
     funext j
     by_cases e:j=i
     ·rw [e,upB_same,hps]
     ·rw [upB_other _ _ _ e,upB_other _ _ _ e]
    have HT1:=hideK (hT.but hlt hlp hlm ((But3.refl wb pb mb wr).set (b:=pb) (o:=i) (.inr (.inl rfl)) (.bool false)));have HW1:=hideK (hupb ▸ hWY.pass hi false);have HB1:=hideK (hB.set (b:=pb) (o:=i) (.inr (.inl rfl)) (.bool false));have HK1:=hideK (show ∀b o,(w.heap.size<b∧b<wr.heap.size)→(wr.setCell ⟨pb,i,none⟩ (.bool false)).cell? ⟨b,o,none⟩=wr.cell? ⟨b,o,none⟩ from fun b o hb=>cell_set _ (.inl (by omega)))
    have HS1:=hideK (show (wr.setCell ⟨pb,i,none⟩ (.bool false)).heap.size=wr.heap.size from by simp)
    have p1:=hWY.c1;have p2:=hWY.p i hi;have p3:=hWY.fp i;have m1:=HW1.out.c2;have m2:=HW1.out.m i hi;clear hT hmp hWY hB hkp htl hkc hkc2 hupb;cases hbl:BL.2.1 i with
    | false =>
     rw [hbl]at m2;have hbk:=HBK.out;rw [hbl,if_neg (by decide)]at hbk
     go_upto_region 17 with fail
     generalize wr.setCell ⟨pb,i,none⟩ (.bool false)=W5 at *;clear p1 p2 p3 m1 m2;obtain ⟨z0,z1,z2,z3,z4,zf,zl⟩:=HT1.out.r;have f0:=zf 0;have f1:=zf 1;have f2:=zf 2;have f3:=zf 3;have f4:=zf 4;have t0:=HT1.out.o0;have t1:=HT1.out.o1;have t2:=HT1.out.o2;have t3:=HT1.out.o3;have t4:=HT1.out.o4;clear zf;have HW9:=hideK (HW1.out.st (b:=w.heap.size) (by omega) (by omega) (by omega) (.int .i64 nd.kind) (.int .i64 nd.so) (.string ⟨#[]⟩) (.slice la nd.labs.length lc) (.slice ka nd.to.length kc))
     have HB9:=hideK (HB1.out.st (b:=w.heap.size) (nR _) (.int .i64 nd.kind) (.int .i64 nd.so) (.string ⟨#[]⟩) (.slice la nd.labs.length lc) (.slice ka nd.to.length kc));have HTA:=hideK (show TyAt (st5 W5 w.heap.size 0 (.int .i64 nd.kind) (.int .i64 nd.so) (.string ⟨#[]⟩) (.slice la nd.labs.length lc) (.slice ka nd.to.length kc)) w.heap.size 0 (ndT nd BL.1) la lc ka kc from HLN.out ▸ st5_at W5 w.heap.size 0 (ndT nd BL.1) la lc ka kc (fun j hj=>by
      rw [Nat.zero_add];have:j=0∨j=1∨j=2∨j=3∨j=4:=by omega
      rcases this with rfl|rfl|rfl|rfl|rfl
      ·exact ⟨_,z0⟩
      ·exact ⟨_,z1⟩
      ·exact ⟨_,z2⟩
      ·exact ⟨_,z3⟩
      ·exact ⟨_,z4⟩))
     have HK9:=hideK (show ∀b o,(w.heap.size<b∧b<wr.heap.size)→(st5 W5 w.heap.size 0 (.int .i64 nd.kind) (.int .i64 nd.so) (.string ⟨#[]⟩) (.slice la nd.labs.length lc) (.slice ka nd.to.length kc)).cell? ⟨b,o,none⟩=wr.cell? ⟨b,o,none⟩ from fun b o hb=>(st5_other _ _ _ _ _ _ _ _ _ _ (.inl (by omega))).trans (HK1.out b o hb))
     have HS9:=hideK (show (st5 W5 w.heap.size 0 (.int .i64 nd.kind) (.int .i64 nd.so) (.string ⟨#[]⟩) (.slice la nd.labs.length lc) (.slice ka nd.to.length kc)).heap.size=wr.heap.size from by rw [st5_size];exact HS1.out)
     have HBX:=hideK hbk;clear hbk;go_wp2_with fail
     change bodyPost _ _ _ _ _ (st5 W5 w.heap.size 0 (.int .i64 nd.kind) (.int .i64 nd.so) (.string ⟨#[]⟩) (.slice la nd.labs.length lc) (.slice ka nd.to.length kc))
     generalize st5 W5 w.heap.size 0 (.int .i64 nd.kind) (.int .i64 nd.so) (.string ⟨#[]⟩) (.slice la nd.labs.length lc) (.slice ka nd.to.length kc)=W9 at *;obtain ⟨r0,r1,r2,r3,r4⟩:=HTA.out;simp only [Nat.zero_add,ndT]at r0 r1 r2 r3 r4;refine bodyPost_ret (v:=.agg #[.int .i64 nd.kind,.int .i64 nd.so,.string ⟨#[]⟩,.slice la nd.labs.length lc,.slice ka BL.1.length kc]) (by simp [results,Tryz.results54,go_sem,r0,r1,r2,r3,r4]) rfl ?_
     unfold BKPost;rw [HBX.out];have hs9:=HS9.out;exact ⟨⟨la,lc,ka,kc,d,rfl,HBD.out,HLP.out.keep HK9.out (fun b hb=>by omega),HKP.out.keep HK9.out (fun b hb=>by omega)⟩,HW9.out,HB9.out⟩
    | true =>
     rw [hbl]at m2;have hbk:=HBK.out;rw [hbl,if_pos rfl]at hbk;go_upto_region 18 with fail
     generalize wr.setCell ⟨pb,i,none⟩ (.bool false)=W5 at *;clear p1 p2 p3 m1 m2;have n1:=HW1.out.c3;have n2:=HW1.out.fw 3;have n3:(BL.2.2:Int)≤10000:=by have:=HPT.out;omega
     have HT2:=hideK (HT1.out.but hlt hlp hlm ((But3.refl wb pb mb W5).set (b:=wb) (o:=3) (.inl rfl) (.int .i64 ((BL.2.2:Int)+1))));have HW2:=hideK (HW1.out.part (z:=(BL.2.2:Int)+1) (by omega))
     have HB2':=hideK (HB1.out.set (b:=wb) (o:=3) (.inl rfl) (.int .i64 ((BL.2.2:Int)+1)));have HK2:=hideK (show ∀b o,(w.heap.size<b∧b<wr.heap.size)→(W5.setCell ⟨wb,3,none⟩ (.int .i64 ((BL.2.2:Int)+1))).cell? ⟨b,o,none⟩=wr.cell? ⟨b,o,none⟩ from fun b o hb=>(cell_set _ (.inl (by omega))).trans (HK1.out b o hb))
     have HS2:=hideK (show (W5.setCell ⟨wb,3,none⟩ (.int .i64 ((BL.2.2:Int)+1))).heap.size=wr.heap.size from by simpa using HS1.out)
     have HBX:=hideK hbk;clear hbk;go_upto_region 19 with fail
     generalize W5.setCell ⟨wb,3,none⟩ (.int .i64 ((BL.2.2:Int)+1))=W6 at *;clear n1 n2 n3 HT1 HW1 HB1 HK1 HS1;have hS0:(S19 w nd la lc tb base ka kc ts wr g.length (some ⟨gb,go1,none⟩) cg wb pb mb ps (BL.2.1,BL.2.2+1)) W6.drew:=⟨HT2.out.below (bR _ _).drew,HW2.out.dr,HB2'.out.drew,HK2.out,by show wr.heap.size≤W6.heap.size;rw [HS2.out];exact nR _⟩
     refine wp_region_held_drew (S:=S5 nd la lc tb ka kc) (by kernel_rfl) hS0.s5 (fun hS=>?_)
     have HX:=hideK hS0;clear hS0 HT2 HW2 HB2' HK2 HS2;generalize World.drew W6=V0 at *;refine tkH 0 (.int .i64 (i:Int)) hS ?_;refine tkH 2 (.agg #[.int .i64 nd.kind,.int .i64 nd.so,.string ⟨#[]⟩,.slice la nd.labs.length lc,.slice ka nd.to.length kc]) hS ?_ (hy:=Or.inl ⟨by rfl,fun W hW=>by have x0:=hW.o0;have x1:=hW.o1;have x2:=hW.o2;have x3:=hW.o3;have x4:=hW.o4;go_simp⟩)
     refine wpAnyH_ready (rs:=[1,3]) (by kernel_rfl) (by simp) (AllReadyH.cons rfl (fun K hK=>?_) (AllReadyH.cons rfl (fun K hK=>?_) aN))
     ·go_simp
      refine (HC.out _).mono ?_;rintro e V1 ⟨rfl,hb⟩;replace HX:=hideK (HX.out.keep hb);refine hK.out _ _ HX.out.s5 ?_;clear hS hK K hb;intro hS;refine take_oneHL 3 (AllReadyH.cons rfl (fun K hK=>?_) aN) (by kernel_rfl)
      go_simp
      have HLT:=hideK (lit_nd V1 nd BL.1 la lc ka kc HLN.out);have HSB:=hideK (show w.heap.size<V1.heap.size∧V1.heap.size<(V1.alloc (.cells #[.int .i64 nd.kind,.int .i64 nd.so,.string ⟨#[]⟩,.slice la nd.labs.length lc,.slice ka nd.to.length kc] 37)).heap.size from ⟨by have:=HX.out.t.l1;have:=HX.out.t.l2;have:=HX.out.t.l3;omega,by simp⟩)
      replace HX:=hideK (HX.out.keep ((bR _ _).alloc (nR _) (.cells #[.int .i64 nd.kind,.int .i64 nd.so,.string ⟨#[]⟩,.slice la nd.labs.length lc,.slice ka nd.to.length kc] 37)));refine hK.out _ _ HX.out.s5 ?_;clear hS hK K;intro hS;generalize V1.heap.size=sb at *;generalize V1.alloc (.cells #[.int .i64 nd.kind,.int .i64 nd.so,.string ⟨#[]⟩,.slice la nd.labs.length lc,.slice ka nd.to.length kc] 37)=V2 at *;refine tkH 4 (.agg #[.int .i64 8,.int .i64 0,.string (nmN i),.slice none 0 0,.slice (some ⟨sb,0,none⟩) 1 1]) hS ?_;obtain ⟨z0,z1,z2,z3,z4,zf,zl⟩:=HX.out.t.r;have f0:=zf 0;have f1:=zf 1;have f2:=zf 2;have f3:=zf 3;have f4:=zf 4;clear zf;have HW9:=hideK (HX.out.y.st (b:=w.heap.size) (by omega) (by omega) (by omega) (.int .i64 8) (.int .i64 0) (.string (nmN i)) (.slice none 0 0) (.slice (some ⟨sb,0,none⟩) 1 1))
      have HB9:=hideK (HX.out.b.st (b:=w.heap.size) (nR _) (.int .i64 8) (.int .i64 0) (.string (nmN i)) (.slice none 0 0) (.slice (some ⟨sb,0,none⟩) 1 1));have HTA:=hideK (show TyAt (st5 V2 w.heap.size 0 (.int .i64 8) (.int .i64 0) (.string (nmN i)) (.slice none 0 0) (.slice (some ⟨sb,0,none⟩) 1 1)) w.heap.size 0 (recT (nmN i) (ndT nd BL.1)) none 0 (some ⟨sb,0,none⟩) 1 from st5_at V2 w.heap.size 0 (recT (nmN i) (ndT nd BL.1)) none 0 (some ⟨sb,0,none⟩) 1 (fun j hj=>by
       rw [Nat.zero_add];have:j=0∨j=1∨j=2∨j=3∨j=4:=by omega
       rcases this with rfl|rfl|rfl|rfl|rfl
       ·exact ⟨_,z0⟩
       ·exact ⟨_,z1⟩
       ·exact ⟨_,z2⟩
       ·exact ⟨_,z3⟩
       ·exact ⟨_,z4⟩))
      have hc9:∀b o,b≠w.heap.size→(st5 V2 w.heap.size 0 (.int .i64 8) (.int .i64 0) (.string (nmN i)) (.slice none 0 0) (.slice (some ⟨sb,0,none⟩) 1 1)).cell? ⟨b,o,none⟩=V2.cell? ⟨b,o,none⟩:=fun b o h=>st5_other _ _ _ _ _ _ _ _ _ _ (.inl h)
      have HK9:=hideK (show ∀b o,(w.heap.size<b∧b<wr.heap.size)→(st5 V2 w.heap.size 0 (.int .i64 8) (.int .i64 0) (.string (nmN i)) (.slice none 0 0) (.slice (some ⟨sb,0,none⟩) 1 1)).cell? ⟨b,o,none⟩=wr.cell? ⟨b,o,none⟩ from fun b o hb=>(hc9 b o (by omega)).trans (HX.out.k b o hb))
      have HS9:=hideK (show (st5 V2 w.heap.size 0 (.int .i64 8) (.int .i64 0) (.string (nmN i)) (.slice none 0 0) (.slice (some ⟨sb,0,none⟩) 1 1)).heap.size=V2.heap.size∧wr.heap.size≤V2.heap.size from ⟨st5_size _ _ _ _ _ _ _ _,HX.out.z⟩)
      have HLX:=hideK (show TyAt (st5 V2 w.heap.size 0 (.int .i64 8) (.int .i64 0) (.string (nmN i)) (.slice none 0 0) (.slice (some ⟨sb,0,none⟩) 1 1)) sb 0 (ndT nd BL.1) la lc ka kc from ⟨(hc9 _ _ (by have:=HSB.out;omega)).trans HLT.out.c0,(hc9 _ _ (by have:=HSB.out;omega)).trans HLT.out.c1,(hc9 _ _ (by have:=HSB.out;omega)).trans HLT.out.c2,(hc9 _ _ (by have:=HSB.out;omega)).trans HLT.out.c3,(hc9 _ _ (by have:=HSB.out;omega)).trans HLT.out.c4⟩)
      have htb:=HX.out.t.l1;have hSn:S5 nd la lc tb ka kc (st5 V2 w.heap.size 0 (.int .i64 8) (.int .i64 0) (.string (nmN i)) (.slice none 0 0) (.slice (some ⟨sb,0,none⟩) 1 1)):=⟨(hc9 _ _ (by omega)).trans hS.o0,(hc9 _ _ (by omega)).trans hS.o1,(hc9 _ _ (by omega)).trans hS.o2,(hc9 _ _ (by omega)).trans hS.o3,(hc9 _ _ (by omega)).trans hS.o4⟩
      refine take_oneHL 5 (AllReadyH.cons rfl (fun K hK=>?_) aN) (by kernel_rfl)
      go_simp
      refine hK.out _ (st5 V2 w.heap.size 0 (.int .i64 8) (.int .i64 0) (.string (nmN i)) (.slice none 0 0) (.slice (some ⟨sb,0,none⟩) 1 1)) hSn ?_;clear hK K hSn z0 z1 z2 z3 z4 f0 f1 f2 f3 f4 hc9 hS htb HX HLT;intro hS;generalize (st5 V2 w.heap.size 0 (.int .i64 8) (.int .i64 0) (.string (nmN i)) (.slice none 0 0) (.slice (some ⟨sb,0,none⟩) 1 1))=V3 at *;refine wpAnyH_done (by kernel_rfl) ?_ _
      go_wp2_with fail
      obtain ⟨r0,r1,r2,r3,r4⟩:=HTA.out;simp only [Nat.zero_add,recT,List.length_nil,List.length_singleton]at r0 r1 r2 r3 r4;refine bodyPost_ret (v:=.agg #[.int .i64 8,.int .i64 0,.string (nmN i),.slice none 0 0,.slice (some ⟨sb,0,none⟩) 1 1]) (by simp [results,Tryz.results54,go_sem,r0,r1,r2,r3,r4]) rfl ?_
      unfold BKPost;rw [HBX.out];obtain ⟨hs9,hs8⟩:=HS9.out;obtain ⟨hb1,hb2⟩:=HSB.out;refine ⟨⟨none,0,some ⟨sb,0,none⟩,1,d+1,rfl,⟨nmN_size i,(fun l hl=>by cases hl),nR _,by decide,nR _,by decide⟩,.inl rfl,.inr ⟨sb,0,rfl,⟨by omega,by omega⟩,fun j hj=>?_⟩⟩,HW9.out,HB9.out⟩
      have hj':j < [ndT nd BL.1].length:=hj;obtain rfl:j=0:=by simp at hj';omega
      exact ⟨la,lc,ka,kc,HLX.out,HBD.out,HLP.out.keep HK9.out (fun b hb=>by omega),HKP.out.keep HK9.out (fun b hb=>by omega)⟩
     ·go_simp
      have HLT:=hideK (lit_nd V0 nd BL.1 la lc ka kc HLN.out);have HSB:=hideK (show w.heap.size<V0.heap.size∧V0.heap.size<(V0.alloc (.cells #[.int .i64 nd.kind,.int .i64 nd.so,.string ⟨#[]⟩,.slice la nd.labs.length lc,.slice ka nd.to.length kc] 37)).heap.size from ⟨by have:=HX.out.t.l1;have:=HX.out.t.l2;have:=HX.out.t.l3;omega,by simp⟩)
      replace HX:=hideK (HX.out.keep ((bR _ _).alloc (nR _) (.cells #[.int .i64 nd.kind,.int .i64 nd.so,.string ⟨#[]⟩,.slice la nd.labs.length lc,.slice ka nd.to.length kc] 37)));refine hK.out _ _ HX.out.s5 ?_;clear hS hK K;intro hS;generalize V0.heap.size=sb at *;generalize V0.alloc (.cells #[.int .i64 nd.kind,.int .i64 nd.so,.string ⟨#[]⟩,.slice la nd.labs.length lc,.slice ka nd.to.length kc] 37)=V1 at *;refine take_oneHL 1 (AllReadyH.cons rfl (fun K hK=>?_) aN) (by kernel_rfl)
      go_simp
      refine (HC.out _).mono ?_;rintro e V2 ⟨rfl,hb⟩;replace HX:=hideK (HX.out.keep hb);replace HLT:=hideK (HLT.out.keep hb HSB.out.2);replace HSB:=hideK (And.intro HSB.out.1 (nL HSB.out.2 hb.size));refine hK.out _ _ HX.out.s5 ?_;clear hS hK K hb;intro hS;refine tkH 4 (.agg #[.int .i64 8,.int .i64 0,.string (nmN i),.slice none 0 0,.slice (some ⟨sb,0,none⟩) 1 1]) hS ?_;obtain ⟨z0,z1,z2,z3,z4,zf,zl⟩:=HX.out.t.r;have f0:=zf 0;have f1:=zf 1;have f2:=zf 2;have f3:=zf 3;have f4:=zf 4;clear zf;have HW9:=hideK (HX.out.y.st (b:=w.heap.size) (by omega) (by omega) (by omega) (.int .i64 8) (.int .i64 0) (.string (nmN i)) (.slice none 0 0) (.slice (some ⟨sb,0,none⟩) 1 1))
      have HB9:=hideK (HX.out.b.st (b:=w.heap.size) (nR _) (.int .i64 8) (.int .i64 0) (.string (nmN i)) (.slice none 0 0) (.slice (some ⟨sb,0,none⟩) 1 1));have HTA:=hideK (show TyAt (st5 V2 w.heap.size 0 (.int .i64 8) (.int .i64 0) (.string (nmN i)) (.slice none 0 0) (.slice (some ⟨sb,0,none⟩) 1 1)) w.heap.size 0 (recT (nmN i) (ndT nd BL.1)) none 0 (some ⟨sb,0,none⟩) 1 from st5_at V2 w.heap.size 0 (recT (nmN i) (ndT nd BL.1)) none 0 (some ⟨sb,0,none⟩) 1 (fun j hj=>by
       rw [Nat.zero_add];have:j=0∨j=1∨j=2∨j=3∨j=4:=by omega
       rcases this with rfl|rfl|rfl|rfl|rfl
       ·exact ⟨_,z0⟩
       ·exact ⟨_,z1⟩
       ·exact ⟨_,z2⟩
       ·exact ⟨_,z3⟩
       ·exact ⟨_,z4⟩))
      have hc9:∀b o,b≠w.heap.size→(st5 V2 w.heap.size 0 (.int .i64 8) (.int .i64 0) (.string (nmN i)) (.slice none 0 0) (.slice (some ⟨sb,0,none⟩) 1 1)).cell? ⟨b,o,none⟩=V2.cell? ⟨b,o,none⟩:=fun b o h=>st5_other _ _ _ _ _ _ _ _ _ _ (.inl h)
      have HK9:=hideK (show ∀b o,(w.heap.size<b∧b<wr.heap.size)→(st5 V2 w.heap.size 0 (.int .i64 8) (.int .i64 0) (.string (nmN i)) (.slice none 0 0) (.slice (some ⟨sb,0,none⟩) 1 1)).cell? ⟨b,o,none⟩=wr.cell? ⟨b,o,none⟩ from fun b o hb=>(hc9 b o (by omega)).trans (HX.out.k b o hb))
      have HS9:=hideK (show (st5 V2 w.heap.size 0 (.int .i64 8) (.int .i64 0) (.string (nmN i)) (.slice none 0 0) (.slice (some ⟨sb,0,none⟩) 1 1)).heap.size=V2.heap.size∧wr.heap.size≤V2.heap.size from ⟨st5_size _ _ _ _ _ _ _ _,HX.out.z⟩)
      have HLX:=hideK (show TyAt (st5 V2 w.heap.size 0 (.int .i64 8) (.int .i64 0) (.string (nmN i)) (.slice none 0 0) (.slice (some ⟨sb,0,none⟩) 1 1)) sb 0 (ndT nd BL.1) la lc ka kc from ⟨(hc9 _ _ (by have:=HSB.out;omega)).trans HLT.out.c0,(hc9 _ _ (by have:=HSB.out;omega)).trans HLT.out.c1,(hc9 _ _ (by have:=HSB.out;omega)).trans HLT.out.c2,(hc9 _ _ (by have:=HSB.out;omega)).trans HLT.out.c3,(hc9 _ _ (by have:=HSB.out;omega)).trans HLT.out.c4⟩)
      have htb:=HX.out.t.l1;have hSn:S5 nd la lc tb ka kc (st5 V2 w.heap.size 0 (.int .i64 8) (.int .i64 0) (.string (nmN i)) (.slice none 0 0) (.slice (some ⟨sb,0,none⟩) 1 1)):=⟨(hc9 _ _ (by omega)).trans hS.o0,(hc9 _ _ (by omega)).trans hS.o1,(hc9 _ _ (by omega)).trans hS.o2,(hc9 _ _ (by omega)).trans hS.o3,(hc9 _ _ (by omega)).trans hS.o4⟩
      refine take_oneHL 5 (AllReadyH.cons rfl (fun K hK=>?_) aN) (by kernel_rfl)
      go_simp
      refine hK.out _ (st5 V2 w.heap.size 0 (.int .i64 8) (.int .i64 0) (.string (nmN i)) (.slice none 0 0) (.slice (some ⟨sb,0,none⟩) 1 1)) hSn ?_;clear hK K hSn z0 z1 z2 z3 z4 f0 f1 f2 f3 f4 hc9 hS htb HX HLT;intro hS;generalize (st5 V2 w.heap.size 0 (.int .i64 8) (.int .i64 0) (.string (nmN i)) (.slice none 0 0) (.slice (some ⟨sb,0,none⟩) 1 1))=V3 at *;refine wpAnyH_done (by kernel_rfl) ?_ _
      go_wp2_with fail
      obtain ⟨r0,r1,r2,r3,r4⟩:=HTA.out;simp only [Nat.zero_add,recT,List.length_nil,List.length_singleton]at r0 r1 r2 r3 r4;refine bodyPost_ret (v:=.agg #[.int .i64 8,.int .i64 0,.string (nmN i),.slice none 0 0,.slice (some ⟨sb,0,none⟩) 1 1]) (by simp [results,Tryz.results54,go_sem,r0,r1,r2,r3,r4]) rfl ?_
      unfold BKPost;rw [HBX.out];obtain ⟨hs9,hs8⟩:=HS9.out;obtain ⟨hb1,hb2⟩:=HSB.out;refine ⟨⟨none,0,some ⟨sb,0,none⟩,1,d+1,rfl,⟨nmN_size i,(fun l hl=>by cases hl),nR _,by decide,nR _,by decide⟩,.inl rfl,.inr ⟨sb,0,rfl,⟨by omega,by omega⟩,fun j hj=>?_⟩⟩,HW9.out,HB9.out⟩
      have hj':j < [ndT nd BL.1].length:=hj;obtain rfl:j=0:=by simp at hj';omega
      exact ⟨la,lc,ka,kc,HLX.out,HBD.out,HLP.out.keep HK9.out (fun b hb=>by omega),HKP.out.keep HK9.out (fun b hb=>by omega)⟩
end Go.Proofs.YtmamabhhgfcjcaaGreatDoor
