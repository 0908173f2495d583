/-
  The contract of check.behindGive.
-/
import Derived.Test.YtmamabhhgfcjcaaGreatDoorOpd
set_option maxRecDepth 100000
set_option maxHeartbeats 8000000
namespace Go.Proofs.YtmamabhhgfcjcaaGreatDoor
open Go.RowKit Go.Shelf
theorem NSc.of_keep{w0 w W W':World}{es:List (ByteArray × En)}{mp:Option Nat}(h:NSc w0 w es mp W)(hb:Below W.heap.size W W'):NSc w0 w es mp W':=by
 obtain ⟨F,e,h1,h2⟩:=h;exact ⟨F,e,h1,h2.imp id fun ⟨b,e1,e2,h3⟩=>⟨b,e1,e2,h3.keep hb h3.lt⟩⟩
structure GVS(g:Nat)(v0 v1 u0 u1 u2:Value)(W:World):Prop where
 lt:g+1<W.heap.size
 g0:W.cell? ⟨g,0,none⟩=some v0
 g1:W.cell? ⟨g,1,none⟩=some v1
 r0:W.cell? ⟨g+1,0,none⟩=some u0
 r1:W.cell? ⟨g+1,1,none⟩=some u1
 r2:W.cell? ⟨g+1,2,none⟩=some u2
theorem GVS.keep{g:Nat}{v0 v1 u0 u1 u2:Value}{W W':World}(h:GVS g v0 v1 u0 u1 u2 W)(hb:Below W.heap.size W W'):GVS g v0 v1 u0 u1 u2 W':=by
 have hs:=hb.size;have hl:=h.lt;have c:∀b o,b<g+1+1→W'.cell? ⟨b,o,none⟩=W.cell? ⟨b,o,none⟩:=fun b o q=>hb.cell (p:=⟨b,o,none⟩) (by show b<_;omega)
 exact ⟨by omega,(c _ _ (by omega)).trans h.g0,(c _ _ (by omega)).trans h.g1,(c _ _ (by omega)).trans h.r0,(c _ _ (by omega)).trans h.r1,(c _ _ (by omega)).trans h.r2⟩
theorem GVS.blk{g q:Nat}{v0 v1 u0 u1 u2:Value}{W W':World}(h:GVS g v0 v1 u0 u1 u2 W)(hs:W.heap.size≤W'.heap.size)(hq:q<g)(hb:∀k,k≠q→W'.heap[k]? = W.heap[k]?):GVS g v0 v1 u0 u1 u2 W':=by
 have hl:=h.lt;have c:∀k o,k≠q→W'.cell? ⟨k,o,none⟩=W.cell? ⟨k,o,none⟩:=fun k o q=>by unfold World.cell?;rw [hb k q]
 exact ⟨by omega,(c _ _ (by omega)).trans h.g0,(c _ _ (by omega)).trans h.g1,(c _ _ (by omega)).trans h.r0,(c _ _ (by omega)).trans h.r1,(c _ _ (by omega)).trans h.r2⟩
theorem GVS.new(w:World)(v0 v1 u0 u1 u2:Value):GVS w.heap.size v0 v1 u0 u1 u2 ((w.alloc (.cells #[v0,v1] 90)).alloc (.cells #[u0,u1,u2] 70)) :=
 ⟨by simp,by go_cell,by go_cell,by go_cell,by go_cell,by go_cell⟩
theorem behindGiveSame_any(p:Pr)(a:PrA)(s:Sc)(b:ScA)(x:En)(ag:OAd)(cg:Nat)(w:World)(hn:p.name=p.chan):
  Calls Tryz.prog 101 #[prVal p a,scVal s b,enVal x ag cg] w fun e w'=>e = .returned (.tuple #[scVal s b,.int .i64 4])∧Below w.heap.size w w':=by
 have H5:=hideK (BDB.new w p a s b x ag cg);have hq:(p.name.toList==p.chan.toList)=true:=by rw [hn];exact beq_self_eq_true _
 simp only [scVal,prVal,enVal]at H5 ⊢;clear hn;go_enter Tryz.func101,Tryz.ntmps101
 go_upto_region 1 with fail
 generalize ((((w.alloc (.cells (pK p a) 40)).alloc (.cells #[.slice b.va s.vs.length b.vc,.slice b.sa s.ss.length b.sc,.map b.mp] 70)).alloc (.cells #[.slice ag x.g.length cg,.int .i64 (x.k:Int)] 90)).alloc (.cells #[.slice none 0 0,.slice none 0 0,.map none] 70))=V at *;obtain ⟨W9,e9,r0,r1,r2,hb9,_⟩:=H5.out.fin (.slice b.va s.vs.length b.vc) (.slice b.sa s.ss.length b.sc) (.map b.mp);obtain ⟨_,_,k1,k2,_,c0,c1,c2,_,_,z0,z1,z2,ff⟩:=H5.out;have f0:=ff 0;have f1:=ff 1;have f2:=ff 2;have HB:=hideK hb9;have HE:=hideK e9;clear ff hb9 e9 H5;go_wp2_with fail
 rw [HE.out];refine bodyPost_ret (v:=.tuple #[.agg #[.slice b.va s.vs.length b.vc,.slice b.sa s.ss.length b.sc,.map b.mp],.int .i64 4]) (by simp [results,Tryz.results101,go_sem,r0,r1,r2]) rfl ?_
 exact ⟨rfl,HB.out⟩
theorem behindGiveNo_any(p:Pr)(a:PrA)(s:Sc)(b:ScA)(x:En)(ag:OAd)(cg:Nat)(w:World)(h:ScAt w s b)(hn:p.name.size≤maxLen)(hnc:p.name≠p.chan)(hg:getE s.es p.name=none):
  Calls Tryz.prog 101 #[prVal p a,scVal s b,enVal x ag cg] w fun e w'=>e = .returned (.tuple #[scVal s b,.int .i64 4])∧Below w.heap.size w w':=by
 have H4:=hideK (BDB.new w p a s b x ag cg);have hq:(p.name.toList==p.chan.toList)=false:=beq_eq_false_iff_ne.2 (fun q=>hnc (by rw [ByteArray.toList_eq,ByteArray.toList_eq]at q;exact ByteArray.ext (Array.toList_inj.1 q)))
 have c:=takenNo_any s b p.name ((((w.alloc (.cells (pK p a) 40)).alloc (.cells #[.slice b.va s.vs.length b.vc,.slice b.sa s.ss.length b.sc,.map b.mp] 70)).alloc (.cells #[.slice ag x.g.length cg,.int .i64 (x.k:Int)] 90)).alloc (.cells #[.slice none 0 0,.slice none 0 0,.map none] 70)) (h.keep H4.out.bl) hn hg;simp only [scVal,prVal,enVal]at H4 c ⊢;clear h hg hnc;go_enter Tryz.func101,Tryz.ntmps101
 go_wp2_with fail
 refine c.mono ?_;rintro e w5 ⟨rfl,hb5⟩;have H5:=hideK (H4.out.keep hb5);clear H4 c hb5;go_upto_region 4 with fail
 have H5:=hideK (H5.out.keep (((Below.refl w5.heap.size w5).alloc (nR _) (.cells #[.slice none 0 0,.int .i64 0] 90)).alloc (by simp) (.cells #[.slice b.va s.vs.length b.vc,.slice b.sa s.ss.length b.sc,.map b.mp] 70)))
 generalize (w5.alloc (.cells #[.slice none 0 0,.int .i64 0] 90)).alloc (.cells #[.slice b.va s.vs.length b.vc,.slice b.sa s.ss.length b.sc,.map b.mp] 70)=V at *;obtain ⟨W9,e9,r0,r1,r2,hb9,_⟩:=H5.out.fin (.slice b.va s.vs.length b.vc) (.slice b.sa s.ss.length b.sc) (.map b.mp);obtain ⟨_,_,k1,k2,_,c0,c1,c2,_,_,z0,z1,z2,ff⟩:=H5.out;have f0:=ff 0;have f1:=ff 1;have f2:=ff 2;have HB:=hideK hb9;have HE:=hideK e9;clear ff hb9 e9 H5;go_wp2_with fail
 rw [HE.out];refine bodyPost_ret (v:=.tuple #[.agg #[.slice b.va s.vs.length b.vc,.slice b.sa s.ss.length b.sc,.map b.mp],.int .i64 4]) (by simp [results,Tryz.results101,go_sem,r0,r1,r2]) rfl ?_
 exact ⟨rfl,HB.out⟩
theorem behindGiveYes_any(p:Pr)(a:PrA)(s:Sc)(b:ScA)(x y:En)(ag:OAd)(cg:Nat)(w0 w:World)(h:ScAt w0 s b)(hw:Below w0.heap.size w0 w)(hx:EnAt w0 x ag)(ht:(hereE x).to.length=2)(hm:p.chan.size≤maxLen)(hn:p.name.size≤maxLen)(hnc:p.name≠p.chan)(hg:getE s.es p.name=some y):
  Calls Tryz.prog 101 #[prVal p a,scVal s b,enVal x ag cg] w fun e w'=>(∃mp',e = .returned (.tuple #[scVal ((s.wo p.name).we p.chan (toE x 1)) ⟨b.va,b.vc,b.sa,b.sc,mp'⟩,.int .i64 (fitE y (toE x 0))])∧NSc w0 w ((s.wo p.name).we p.chan (toE x 1)).es mp' w')∧Below w.heap.size w w':=by
 have H4:=hideK (BDB.new w p a s b x ag cg);have hq:(p.name.toList==p.chan.toList)=false:=beq_eq_false_iff_ne.2 (fun q=>hnc (by rw [ByteArray.toList_eq,ByteArray.toList_eq]at q;exact ByteArray.ext (Array.toList_inj.1 q)))
 have c:=takenYes_any s b p.name y w0 ((((w.alloc (.cells (pK p a) 40)).alloc (.cells #[.slice b.va s.vs.length b.vc,.slice b.sa s.ss.length b.sc,.map b.mp] 70)).alloc (.cells #[.slice ag x.g.length cg,.int .i64 (x.k:Int)] 90)).alloc (.cells #[.slice none 0 0,.slice none 0 0,.map none] 70)) h (hw.trans (H4.out.bl.mono hw.size)) hn hg;have hy1:=hx.to (j:=1) (by omega)
 have hy0:=hx.to (j:=0) (by omega)
 have t1:∀W,Below w.heap.size w W→Calls Tryz.prog 65 #[enVal x ag cg,.int .i64 1] W fun e w'=>e = .returned (enVal (toE x 1) ag cg)∧Below W.heap.size W w':=fun W hW=>enTo_any x ag cg 1 W (hx.keep (hw.trans (hW.mono hw.size))) (by omega)
 have t0:∀W,Below w.heap.size w W→Calls Tryz.prog 65 #[enVal x ag cg,.int .i64 0] W fun e w'=>e = .returned (enVal (toE x 0) ag cg)∧Below W.heap.size W w':=fun W hW=>enTo_any x ag cg 0 W (hx.keep (hw.trans (hW.mono hw.size))) (by omega)
 generalize toE x 1=y1 at *;generalize toE x 0=y0 at *;generalize hs1:s.wo p.name=s1 at *;have u1:=fun (mp:Option Nat) (W:World) (hW:GSc w0 W s1.es mp)=>withEnd_g s1 ⟨b.va,b.vc,b.sa,b.sc,mp⟩ p.chan y1 ag cg w0 W hW hm hy1
 generalize hs2:s1.we p.chan y1=s2 at *;have ff1:=fun (ay:OAd) (cy:Nat) (hy:EnAt w0 y ay) (W:World) (hW:Below w.heap.size w W)=>enFits_any y y0 ay ag cy cg W (hy.keep (hw.trans (hW.mono hw.size))) (hy0.keep (hw.trans (hW.mono hw.size)))
 generalize fitE y y0=fe at *;have T1:=hideK t1;have T0:=hideK t0;have U1:=hideK u1;have FF:=hideK ff1;simp only [scVal,prVal,enVal]at H4 c T1 T0 U1 FF ⊢;clear t1 t0 u1 ff1 h hw hx ht hg hy1 hy0 hs1 hs2 hm hn hnc;go_enter Tryz.func101,Tryz.ntmps101
 go_wp2_with fail
 refine c.mono ?_;rintro e w5 ⟨⟨ay,cy,mp1,rfl,hy,hn1⟩,hb5⟩;have HN0:=hideK hn1.gs;have H5:=hideK (H4.out.keep hb5);have HY:=hideK hy;clear H4 c hb5 hn1 hy;go_upto_region 6 with fail
 have hA0:=(((Below.refl w5.heap.size w5).alloc (nR _) (.cells #[.slice ay y.g.length cy,.int .i64 (y.k:Int)] 90)).alloc (by simp) (.cells #[.slice b.va s1.vs.length b.vc,.slice b.sa s1.ss.length b.sc,.map mp1] 70)).drew
 have HL5:=hideK H5.out.lt;have H6:=hideK (H5.out.keep hA0);have HN1:=hideK (HN0.out.keep hA0);have HG6:=hideK ((GVS.new w5 (.slice ay y.g.length cy) (.int .i64 (y.k:Int)) (.slice b.va s1.vs.length b.vc) (.slice b.sa s1.ss.length b.sc) (.map mp1)).keep ((bR _ _).drew));have hS0:(fun W:World=>BDS w p s b x ag cg W∧GVS w5.heap.size (.slice ay y.g.length cy) (.int .i64 (y.k:Int)) (.slice b.va s1.vs.length b.vc) (.slice b.sa s1.ss.length b.sc) (.map mp1) W) (World.drew ((w5.alloc (.cells #[.slice ay y.g.length cy,.int .i64 (y.k:Int)] 90)).alloc (.cells #[.slice b.va s1.vs.length b.vc,.slice b.sa s1.ss.length b.sc,.map mp1] 70))):=⟨H6.out.s,HG6.out⟩
 clear H5 HN0 hA0;refine wp_region_held_drew (S:=(fun W:World=>BDS w p s b x ag cg W∧GVS w5.heap.size (.slice ay y.g.length cy) (.int .i64 (y.k:Int)) (.slice b.va s1.vs.length b.vc) (.slice b.sa s1.ss.length b.sc) (.map mp1) W)) (by kernel_rfl) hS0 (fun hS=>?_)
 clear hS0;generalize World.drew ((w5.alloc (.cells #[.slice ay y.g.length cy,.int .i64 (y.k:Int)] 90)).alloc (.cells #[.slice b.va s1.vs.length b.vc,.slice b.sa s1.ss.length b.sc,.map mp1] 70))=V5 at *;refine tkH 0 (.agg #[.slice b.va s1.vs.length b.vc,.slice b.sa s1.ss.length b.sc,.map mp1]) hS ?_ (hy:=Or.inl ⟨by rfl,fun W hW=>by obtain ⟨⟨k1,k2,k3,c0,c1,c2,e0,e1⟩,⟨_,g0,g1,q0,q1,q2⟩⟩:=id hW;go_simp⟩)
 simp only [Act.put,sA,sB,sC];refine tkZ 1 (.pointer (some ⟨w.heap.size,1,none⟩)) hS ?_;refine tkH 2 (.string p.chan) hS ?_ (hy:=Or.inl ⟨by rfl,fun W hW=>by obtain ⟨⟨k1,k2,k3,c0,c1,c2,e0,e1⟩,⟨_,g0,g1,q0,q1,q2⟩⟩:=id hW;go_simp⟩)
 simp only [Act.put,sA,sB,sC];refine tkH 3 (.agg #[.slice ag x.g.length cg,.int .i64 (x.k:Int)]) hS ?_ (hy:=Or.inl ⟨by rfl,fun W hW=>by obtain ⟨⟨k1,k2,k3,c0,c1,c2,e0,e1⟩,⟨_,g0,g1,q0,q1,q2⟩⟩:=id hW;go_simp⟩)
 simp only [Act.put,sA,sB,sC];refine tkH 6 (.agg #[.slice ay y.g.length cy,.int .i64 (y.k:Int)]) hS ?_ (hy:=Or.inl ⟨by rfl,fun W hW=>by obtain ⟨⟨k1,k2,k3,c0,c1,c2,e0,e1⟩,⟨_,g0,g1,q0,q1,q2⟩⟩:=id hW;go_simp⟩)
 simp only [Act.put,sA,sB,sC];refine tkH 7 (.agg #[.slice ag x.g.length cg,.int .i64 (x.k:Int)]) hS ?_ (hy:=Or.inl ⟨by rfl,fun W hW=>by obtain ⟨⟨k1,k2,k3,c0,c1,c2,e0,e1⟩,⟨_,g0,g1,q0,q1,q2⟩⟩:=id hW;go_simp⟩)
 simp only [Act.put,sA,sB,sC];refine take_oneHL 4 (aC (fun K hK=>?_) aN) (by kernel_rfl)
 go_simp
 refine (T1.out V5 H6.out.bl).mono ?_;rintro e V6 ⟨rfl,hb6⟩;have H7:=hideK (H6.out.keep hb6);have HG7:=hideK (HG6.out.keep hb6);have hSn:(fun W:World=>BDS w p s b x ag cg W∧GVS w5.heap.size (.slice ay y.g.length cy) (.int .i64 (y.k:Int)) (.slice b.va s1.vs.length b.vc) (.slice b.sa s1.ss.length b.sc) (.map mp1) W) V6:=⟨H7.out.s,HG7.out⟩
 have HN2:=hideK (HN1.out.keep hb6);refine hK.out _ _ hSn ?_;clear hb6 ;clear hS hK K hSn;intro hS;try simp only [Act.put,sA,sB,sC]
 refine take_oneHL 5 (aC (fun K hK=>?_) aN) (by kernel_rfl)
 go_simp
 refine (U1.out mp1 V6 HN2.out).mono ?_;rintro e V7 ⟨⟨mp2,rfl,hn3⟩,hb7⟩;have H8:=hideK (H7.out.keep hb7);have HG8:=hideK (HG7.out.keep hb7);have hSn:(fun W:World=>BDS w p s b x ag cg W∧GVS w5.heap.size (.slice ay y.g.length cy) (.int .i64 (y.k:Int)) (.slice b.va s1.vs.length b.vc) (.slice b.sa s1.ss.length b.sc) (.map mp1) W) V7:=⟨H8.out.s,HG8.out⟩
 have HN3:=hideK hn3;have HLE:=hideK H7.out.lt;refine hK.out _ _ hSn ?_;clear hb7 hn3;clear hS hK K hSn;intro hS;try simp only [Act.put,sA,sB,sC]
 refine take_oneHL 8 (aC (fun K hK=>?_) aN) (by kernel_rfl)
 go_simp
 refine (T0.out V7 H8.out.bl).mono ?_;rintro e V8 ⟨rfl,hb8⟩;have H9:=hideK (H8.out.keep hb8);have HG9:=hideK (HG8.out.keep hb8);have hSn:(fun W:World=>BDS w p s b x ag cg W∧GVS w5.heap.size (.slice ay y.g.length cy) (.int .i64 (y.k:Int)) (.slice b.va s1.vs.length b.vc) (.slice b.sa s1.ss.length b.sc) (.map mp1) W) V8:=⟨H9.out.s,HG9.out⟩
 have HN4:=hideK (HN3.out.of_keep hb8);refine hK.out _ _ hSn ?_;clear hb8 ;clear hS hK K hSn;intro hS;try simp only [Act.put,sA,sB,sC]
 refine take_oneHL 9 (aC (fun K hK=>?_) aN) (by kernel_rfl)
 go_simp
 refine (FF.out ay cy HY.out V8 H9.out.bl).mono ?_;rintro e V9 ⟨rfl,hb9⟩;have H10:=hideK (H9.out.keep hb9);have HG10:=hideK (HG9.out.keep hb9);have hSn:(fun W:World=>BDS w p s b x ag cg W∧GVS w5.heap.size (.slice ay y.g.length cy) (.int .i64 (y.k:Int)) (.slice b.va s1.vs.length b.vc) (.slice b.sa s1.ss.length b.sc) (.map mp1) W) V9:=⟨H10.out.s,HG10.out⟩
 have HN5:=hideK (HN4.out.of_keep hb9);refine hK.out _ _ hSn ?_;clear hb9 ;clear hS hK K hSn;intro hS;try simp only [Act.put,sA,sB,sC]
 obtain ⟨W9,e9,r0,r1,r2,hb9,hk9⟩:=H10.out.fin (.slice b.va s2.vs.length b.vc) (.slice b.sa s2.ss.length b.sc) (.map mp2);obtain ⟨_,_,_,_,_,_,_,_,_,_,z0,z1,z2,ff⟩:=H10.out;have f0:=ff 0;have f1:=ff 1;have f2:=ff 2;have HB:=hideK hb9;have HE:=hideK e9;have HK9:=hideK hk9;have HZ9:=hideK (show V9.heap.size≤W9.heap.size from by rw [← e9];simp only [World.size_setCell];exact nR _)
 clear ff hb9 hk9 T0 T1 U1 FF e9;refine take_oneHL 10 (aC (fun K hK=>?_) aN) (by kernel_rfl)
 go_simp
 rw [HE.out];have hSn:(fun W:World=>BDS w p s b x ag cg W∧GVS w5.heap.size (.slice ay y.g.length cy) (.int .i64 (y.k:Int)) (.slice b.va s1.vs.length b.vc) (.slice b.sa s1.ss.length b.sc) (.map mp1) W) W9:=⟨BDS.blk H10.out.s HK9.out,HG10.out.blk HZ9.out HL5.out HK9.out⟩
 refine hK.out _ _ hSn ?_;clear hS hK K hSn;intro hS;try simp only [Act.put,sA,sB,sC]
 refine tkZ 11 (.int .i64 fe) hS ?_;refine wpAnyH_done (by kernel_rfl) ?_ _
 clear z0 z1 z2 f0 f1 f2 hS;go_wp2_with fail
 refine bodyPost_ret (v:=.tuple #[.agg #[.slice b.va s2.vs.length b.vc,.slice b.sa s2.ss.length b.sc,.map mp2],.int .i64 fe]) (by simp [results,Tryz.results101,go_sem,r0,r1,r2]) rfl ?_
 exact ⟨⟨mp2,rfl,(HN5.out.of_blocks (W':=W9) (fun b hb=>HK9.out b (by have:=HLE.out;omega))).older (by have:=HLE.out;omega)⟩,HB.out⟩
theorem GSc.blk{w0 W W':World}{es:List (ByteArray × En)}{mp:Option Nat}(h:GSc w0 W es mp){q:Nat}{v:Value}(hz:W.cell? ⟨q,0,none⟩=some v)(hb:∀k,k≠q→W'.heap[k]? = W.heap[k]?):GSc w0 W' es mp:=by
 obtain ⟨F,e,h1,h2⟩:=h;refine ⟨F,e,h1,h2.imp id fun ⟨b,e1,h3⟩=>⟨b,e1,?_⟩⟩
 obtain ⟨es',clock,hq,r⟩:=h3;refine ⟨es',clock,(hb b (fun e=>?_)).trans hq,r⟩
 subst e;unfold World.cell? at hz;simp only [hq]at hz;cases hz
theorem behindDoing4(p:Pr)(a:PrA)(s s2:Sc)(b:ScA)(x:En)(ag:OAd)(cg:Nat)(r:Int)(w0 w:World)(hk:p.kind=4)
  (c:∀W,Below w.heap.size w W→Calls Tryz.prog 101 #[prVal p a,scVal s b,enVal x ag cg] W fun e w'=>(∃mp',e = .returned (.tuple #[scVal s2 ⟨b.va,b.vc,b.sa,b.sc,mp'⟩,.int .i64 r])∧GSc w0 w' s2.es mp')∧Below W.heap.size W w') :
  Calls Tryz.prog 73 #[prVal p a,scVal s b,enVal x ag cg] w fun e w'=>(∃mp',e = .returned (.tuple #[scVal s2 ⟨b.va,b.vc,b.sa,b.sc,mp'⟩,.int .i64 r])∧GSc w0 w' s2.es mp')∧Below w.heap.size w w':=by
 have H4:=hideK (BDB.new w p a s b x ag cg);have hP:PrAt ((((w.alloc (.cells (pK p a) 40)).alloc (.cells #[.slice b.va s.vs.length b.vc,.slice b.sa s.ss.length b.sc,.map b.mp] 70)).alloc (.cells #[.slice ag x.g.length cg,.int .i64 (x.k:Int)] 90)).alloc (.cells #[.slice none 0 0,.slice none 0 0,.map none] 70)) w.heap.size 0 p a:=PrAt.keep (B:=(w.alloc (prBx p a)).heap.size) (prBx_at w p a) ((((Below.refl _ (w.alloc (prBx p a))).alloc (nR _) _).alloc (by simp) _).alloc (by simp) _) (by simp)
 have HP:=hideK hP;have CC:=hideK (c ((((w.alloc (.cells (pK p a) 40)).alloc (.cells #[.slice b.va s.vs.length b.vc,.slice b.sa s.ss.length b.sc,.map b.mp] 70)).alloc (.cells #[.slice ag x.g.length cg,.int .i64 (x.k:Int)] 90)).alloc (.cells #[.slice none 0 0,.slice none 0 0,.map none] 70)) H4.out.bl);clear c hP;have hk1:(p.kind==2)=false:=by rw [hk];rfl
 have hk2:(p.kind==3)=false:=by rw [hk];rfl
 have hk3:(p.kind==4)=true:=by rw [hk];rfl
 have hk4:(p.kind==5)=false:=by rw [hk];rfl
 simp only [scVal,prVal,enVal]at H4 CC ⊢;have HKI:=hideK hk;clear hk;go_enter Tryz.func73,Tryz.ntmps73
 go_upto_region 7 with fail
 clear hk1 hk2 hk3 hk4;generalize ((((w.alloc (.cells (pK p a) 40)).alloc (.cells #[.slice b.va s.vs.length b.vc,.slice b.sa s.ss.length b.sc,.map b.mp] 70)).alloc (.cells #[.slice ag x.g.length cg,.int .i64 (x.k:Int)] 90)).alloc (.cells #[.slice none 0 0,.slice none 0 0,.map none] 70))=V at *;refine wp_region_lit ?_;refine wpList_loadW rfl rfl rfl (load_pr HP.out) ?_;simp only [prVal,Act.put,List.setIfInBounds_toArray,List.set_cons_zero,List.set_cons_succ];obtain ⟨_,_,_,_,_,c0,c1,c2,e0,e1,_,_,_,_⟩:=H4.out;go_wp2_with fail
 refine CC.out.mono ?_;rintro e w5 ⟨⟨mp',rfl,hg⟩,hb5⟩;have H5:=hideK (H4.out.keep hb5);have HG:=hideK hg;clear CC hb5 H4 hg c0 c1 c2 e0 e1 HP;obtain ⟨W9,e9,r0,r1,r2,hb9,hk9⟩:=H5.out.fin (.slice b.va s2.vs.length b.vc) (.slice b.sa s2.ss.length b.sc) (.map mp');obtain ⟨_,_,_,_,_,_,_,_,_,_,z0,z1,z2,ff⟩:=H5.out;have f0:=ff 0;have f1:=ff 1;have f2:=ff 2;have HB:=hideK hb9;have HE:=hideK e9;have HG9:=hideK (HG.out.blk z0 hk9);clear ff hb9 e9 hk9 H5 HG;go_wp2_with fail
 rw [HE.out];refine bodyPost_ret (v:=.tuple #[.agg #[.slice b.va s2.vs.length b.vc,.slice b.sa s2.ss.length b.sc,.map mp'],.int .i64 r]) (by simp [results,Tryz.results73,go_sem,r0,r1,r2]) rfl ?_
 exact ⟨⟨mp',rfl,HG9.out⟩,HB.out⟩
theorem behindDoing5(p:Pr)(a:PrA)(s s2:Sc)(b:ScA)(x:En)(ag:OAd)(cg:Nat)(r:Int)(w0 w:World)(hk:p.kind=5)
  (c:∀W,Below w.heap.size w W→Calls Tryz.prog 102 #[prVal p a,scVal s b,enVal x ag cg] W fun e w'=>(∃mp',e = .returned (.tuple #[scVal s2 ⟨b.va,b.vc,b.sa,b.sc,mp'⟩,.int .i64 r])∧GSc w0 w' s2.es mp')∧Below W.heap.size W w') :
  Calls Tryz.prog 73 #[prVal p a,scVal s b,enVal x ag cg] w fun e w'=>(∃mp',e = .returned (.tuple #[scVal s2 ⟨b.va,b.vc,b.sa,b.sc,mp'⟩,.int .i64 r])∧GSc w0 w' s2.es mp')∧Below w.heap.size w w':=by
 have H4:=hideK (BDB.new w p a s b x ag cg);have hP:PrAt ((((w.alloc (.cells (pK p a) 40)).alloc (.cells #[.slice b.va s.vs.length b.vc,.slice b.sa s.ss.length b.sc,.map b.mp] 70)).alloc (.cells #[.slice ag x.g.length cg,.int .i64 (x.k:Int)] 90)).alloc (.cells #[.slice none 0 0,.slice none 0 0,.map none] 70)) w.heap.size 0 p a:=PrAt.keep (B:=(w.alloc (prBx p a)).heap.size) (prBx_at w p a) ((((Below.refl _ (w.alloc (prBx p a))).alloc (nR _) _).alloc (by simp) _).alloc (by simp) _) (by simp)
 have HP:=hideK hP;have CC:=hideK (c ((((w.alloc (.cells (pK p a) 40)).alloc (.cells #[.slice b.va s.vs.length b.vc,.slice b.sa s.ss.length b.sc,.map b.mp] 70)).alloc (.cells #[.slice ag x.g.length cg,.int .i64 (x.k:Int)] 90)).alloc (.cells #[.slice none 0 0,.slice none 0 0,.map none] 70)) H4.out.bl);clear c hP;have hk1:(p.kind==2)=false:=by rw [hk];rfl
 have hk2:(p.kind==3)=false:=by rw [hk];rfl
 have hk3:(p.kind==4)=false:=by rw [hk];rfl
 have hk4:(p.kind==5)=true:=by rw [hk];rfl
 simp only [scVal,prVal,enVal]at H4 CC ⊢;have HKI:=hideK hk;clear hk;go_enter Tryz.func73,Tryz.ntmps73
 go_upto_region 9 with fail
 clear hk1 hk2 hk3 hk4;generalize ((((w.alloc (.cells (pK p a) 40)).alloc (.cells #[.slice b.va s.vs.length b.vc,.slice b.sa s.ss.length b.sc,.map b.mp] 70)).alloc (.cells #[.slice ag x.g.length cg,.int .i64 (x.k:Int)] 90)).alloc (.cells #[.slice none 0 0,.slice none 0 0,.map none] 70))=V at *;refine wp_region_lit ?_;refine wpList_loadW rfl rfl rfl (load_pr HP.out) ?_;simp only [prVal,Act.put,List.setIfInBounds_toArray,List.set_cons_zero,List.set_cons_succ];obtain ⟨_,_,_,_,_,c0,c1,c2,e0,e1,_,_,_,_⟩:=H4.out;go_wp2_with fail
 refine CC.out.mono ?_;rintro e w5 ⟨⟨mp',rfl,hg⟩,hb5⟩;have H5:=hideK (H4.out.keep hb5);have HG:=hideK hg;clear CC hb5 H4 hg c0 c1 c2 e0 e1 HP;obtain ⟨W9,e9,r0,r1,r2,hb9,hk9⟩:=H5.out.fin (.slice b.va s2.vs.length b.vc) (.slice b.sa s2.ss.length b.sc) (.map mp');obtain ⟨_,_,_,_,_,_,_,_,_,_,z0,z1,z2,ff⟩:=H5.out;have f0:=ff 0;have f1:=ff 1;have f2:=ff 2;have HB:=hideK hb9;have HE:=hideK e9;have HG9:=hideK (HG.out.blk z0 hk9);clear ff hb9 e9 hk9 H5 HG;go_wp2_with fail
 rw [HE.out];refine bodyPost_ret (v:=.tuple #[.agg #[.slice b.va s2.vs.length b.vc,.slice b.sa s2.ss.length b.sc,.map mp'],.int .i64 r]) (by simp [results,Tryz.results73,go_sem,r0,r1,r2]) rfl ?_
 exact ⟨⟨mp',rfl,HG9.out⟩,HB.out⟩
theorem behindDoing8(p:Pr)(a:PrA)(s:Sc)(b:ScA)(x:En)(ag:OAd)(cg:Nat)(w0 w:World)(hk:p.kind=8)(h:ScAt w0 s b)(hw:Below w0.heap.size w0 w)(hm:p.chan.size≤maxLen):
  Calls Tryz.prog 73 #[prVal p a,scVal s b,enVal x ag cg] w fun e w'=>(∃mp',e = .returned (.tuple #[scVal (s.wo p.chan) ⟨b.va,b.vc,b.sa,b.sc,mp'⟩,.int .i64 0])∧GSc w0 w' (s.wo p.chan).es mp')∧Below w.heap.size w w':=by
 have H4:=hideK (BDB.new w p a s b x ag cg);have CC:=hideK (withoutEnd_g s b p.chan w0 ((((w.alloc (.cells (pK p a) 40)).alloc (.cells #[.slice b.va s.vs.length b.vc,.slice b.sa s.ss.length b.sc,.map b.mp] 70)).alloc (.cells #[.slice ag x.g.length cg,.int .i64 (x.k:Int)] 90)).alloc (.cells #[.slice none 0 0,.slice none 0 0,.map none] 70)) (h.gs (hw.trans (H4.out.bl.mono hw.size))) hm);have hk1:(p.kind==2)=false:=by rw [hk];rfl
 have hk2:(p.kind==3)=false:=by rw [hk];rfl
 have hk3:(p.kind==4)=false:=by rw [hk];rfl
 have hk4:(p.kind==5)=false:=by rw [hk];rfl
 have hk5:(p.kind==6)=false:=by rw [hk];rfl
 generalize s.wo p.chan=s2 at *;simp only [scVal,prVal,enVal]at H4 CC ⊢;clear hk h hw;go_enter Tryz.func73,Tryz.ntmps73
 go_wp2_with fail
 refine CC.out.mono ?_;rintro e w5 ⟨⟨mp',rfl,hg⟩,hb5⟩;have H5:=hideK (H4.out.keep hb5);have HG:=hideK hg.gs;clear CC hb5 H4 hg hk1 hk2 hk3 hk4 hk5;obtain ⟨W9,e9,r0,r1,r2,hb9,hk9⟩:=H5.out.fin (.slice b.va s2.vs.length b.vc) (.slice b.sa s2.ss.length b.sc) (.map mp');obtain ⟨_,_,_,_,_,_,_,_,_,_,z0,z1,z2,ff⟩:=H5.out;have f0:=ff 0;have f1:=ff 1;have f2:=ff 2;have HB:=hideK hb9;have HE:=hideK e9;have HG9:=hideK (HG.out.blk z0 hk9);clear ff hb9 e9 hk9 H5 HG;go_wp2_with fail
 rw [HE.out];refine bodyPost_ret (v:=.tuple #[.agg #[.slice b.va s2.vs.length b.vc,.slice b.sa s2.ss.length b.sc,.map mp'],.int .i64 0]) (by simp [results,Tryz.results73,go_sem,r0,r1,r2]) rfl ?_
 exact ⟨⟨mp',rfl,HG9.out⟩,HB.out⟩
theorem ExAt.blk{W W':World}{b o q:Nat}{x:Ex}{ao:OAd}{cap:Nat}(h:ExAt W b o x ao cap)(hb:∀k,k≠q→W'.heap[k]? = W.heap[k]?)(hq:b≠q):ExAt W' b o x ao cap:=by
 have c:∀o,W'.cell? ⟨b,o,none⟩=W.cell? ⟨b,o,none⟩:=fun o=>by unfold World.cell?;rw [hb b hq]
 obtain ⟨h0,h1,h2,h3,h4,h5⟩:=h;exact ⟨(c _).trans h0,(c _).trans h1,(c _).trans h2,(c _).trans h3,(c _).trans h4,(c _).trans h5⟩
theorem behindDoing2{W0:World}(h0:Tabs W0)(p:Pr)(a:PrA)(s:Sc)(b:ScA)(x:En)(ag:OAd)(cg:Nat)(w0 w:World)(hk:p.kind=2)(h:ScAt w0 s b)(hw:Below w0.heap.size w0 w)(hx:EnAt w0 x ag)(ht:0<(hereE x).to.length)(hm:p.chan.size≤maxLen)(hbd:ExBd p.ex a.ec)(hka:∃d,KA w0 w0.heap.size d p.ex.kids a.ea)(hT:AT W0 w0)(hl:s.vs.length≤1000):
  Calls Tryz.prog 73 #[prVal p a,scVal s b,enVal x ag cg] w fun e w'=>(∃mp',e = .returned (.tuple #[scVal (s.we p.chan (toE x 0)) ⟨b.va,b.vc,b.sa,b.sc,mp'⟩,.int .i64 (wntS s p.ex (hereE x).so)])∧GSc w0 w' (s.we p.chan (toE x 0)).es mp')∧Below w.heap.size w w':=by
 have H4:=hideK (BDB.new w p a s b x ag cg);have hP:PrAt ((((w.alloc (.cells (pK p a) 40)).alloc (.cells #[.slice b.va s.vs.length b.vc,.slice b.sa s.ss.length b.sc,.map b.mp] 70)).alloc (.cells #[.slice ag x.g.length cg,.int .i64 (x.k:Int)] 90)).alloc (.cells #[.slice none 0 0,.slice none 0 0,.map none] 70)) w.heap.size 0 p a:=PrAt.keep (B:=(w.alloc (prBx p a)).heap.size) (prBx_at w p a) ((((Below.refl _ (w.alloc (prBx p a))).alloc (nR _) _).alloc (by simp) _).alloc (by simp) _) (by simp)
 have HX4:=hideK (show ExAt ((((w.alloc (.cells (pK p a) 40)).alloc (.cells #[.slice b.va s.vs.length b.vc,.slice b.sa s.ss.length b.sc,.map b.mp] 70)).alloc (.cells #[.slice ag x.g.length cg,.int .i64 (x.k:Int)] 90)).alloc (.cells #[.slice none 0 0,.slice none 0 0,.map none] 70)) w.heap.size 4 p.ex a.ea a.ec from hP.ex)
 have hbw:∀W,Below w.heap.size w W→Below w0.heap.size w0 W:=fun W hW=>hw.trans (hW.mono hw.size)
 have hy0:=hx.to (j:=0) ht;have t0:∀W,Below w.heap.size w W→Calls Tryz.prog 65 #[enVal x ag cg,.int .i64 0] W fun e w'=>e = .returned (enVal (toE x 0) ag cg)∧Below W.heap.size W w':=fun W hW=>enTo_any x ag cg 0 W (hx.keep (hbw W hW)) ht
 obtain ⟨al,cl,at1,ct,_,_,hH⟩:=enHere_ex x ag cg w0 hx;have hh:=fun (W:World) (hW:Below w.heap.size w W)=>hH W (hbw W hW)
 generalize toE x 0=y0 at *;have u1:=fun (W:World) (hW:Below w.heap.size w W)=>withEnd_g s b p.chan y0 ag cg w0 W (h.gs (hbw W hW)) hm hy0
 generalize s.we p.chan y0=s2 at *;generalize hereE x=nd at *;have v1:=fun (W:World) (hW:Below w.heap.size w W)=>wantSort_any h0 s b p.ex a.ea a.ec nd.so W (h.keep (hbw W hW)) hbd (hka.imp fun _ q=>KA.mono (hbw W hW).size (KA.keep (hbw W hW) q)) (at_k _ _ hT (hbw W hW)) hl
 generalize wntS s p.ex nd.so=fe at *;have T0:=hideK t0;have HH:=hideK hh;have U1:=hideK u1;have V1:=hideK v1;have hk1:(p.kind==2)=true:=by rw [hk];rfl
 simp only [scVal,prVal,enVal,exVal,ndVal]at H4 T0 HH U1 V1 HX4 ⊢;clear t0 hh u1 v1 h hw hx ht hm hbd hka hT hl hy0 hH hbw hP hk;go_enter Tryz.func73,Tryz.ntmps73
 go_upto_region 3 with fail
 have H6:=hideK (H4.out.keep ((bR _ _).drew));have HG6:=hideK (HX4.out.keep (bR _ _).drew (show w.heap.size<((((w.alloc (.cells (pK p a) 40)).alloc (.cells #[.slice b.va s.vs.length b.vc,.slice b.sa s.ss.length b.sc,.map b.mp] 70)).alloc (.cells #[.slice ag x.g.length cg,.int .i64 (x.k:Int)] 90)).alloc (.cells #[.slice none 0 0,.slice none 0 0,.map none] 70)).heap.size from by simp;omega))
 have hS0:(fun W:World=>BDS w p s b x ag cg W∧ExAt W w.heap.size 4 p.ex a.ea a.ec) (World.drew ((((w.alloc (.cells (pK p a) 40)).alloc (.cells #[.slice b.va s.vs.length b.vc,.slice b.sa s.ss.length b.sc,.map b.mp] 70)).alloc (.cells #[.slice ag x.g.length cg,.int .i64 (x.k:Int)] 90)).alloc (.cells #[.slice none 0 0,.slice none 0 0,.map none] 70))):=⟨H6.out.s,HG6.out⟩
 clear H4 HX4 hk1;refine wp_region_held_drew (S:=(fun W:World=>BDS w p s b x ag cg W∧ExAt W w.heap.size 4 p.ex a.ea a.ec)) (by kernel_rfl) hS0 (fun hS=>?_)
 clear hS0;generalize World.drew ((((w.alloc (.cells (pK p a) 40)).alloc (.cells #[.slice b.va s.vs.length b.vc,.slice b.sa s.ss.length b.sc,.map b.mp] 70)).alloc (.cells #[.slice ag x.g.length cg,.int .i64 (x.k:Int)] 90)).alloc (.cells #[.slice none 0 0,.slice none 0 0,.map none] 70))=V5 at *;refine tkH 0 (.agg #[.slice b.va s.vs.length b.vc,.slice b.sa s.ss.length b.sc,.map b.mp]) hS ?_ (hy:=Or.inl ⟨by rfl,fun W hW=>by obtain ⟨⟨k1,k2,k3,c0,c1,c2,e0,e1⟩,_⟩:=id hW;go_simp⟩)
 simp only [Act.put,sA,sB,sC];refine tkZ 1 (.pointer (some ⟨w.heap.size,1,none⟩)) hS ?_;refine tkH 2 (.string p.chan) hS ?_ (hy:=Or.inl ⟨by rfl,fun W hW=>by obtain ⟨⟨k1,k2,k3,c0,c1,c2,e0,e1⟩,_⟩:=id hW;go_simp⟩)
 simp only [Act.put,sA,sB,sC];refine tkH 3 (.agg #[.slice ag x.g.length cg,.int .i64 (x.k:Int)]) hS ?_ (hy:=Or.inl ⟨by rfl,fun W hW=>by obtain ⟨⟨k1,k2,k3,c0,c1,c2,e0,e1⟩,_⟩:=id hW;go_simp⟩)
 simp only [Act.put,sA,sB,sC];refine tkH 6 (.agg #[.slice b.va s.vs.length b.vc,.slice b.sa s.ss.length b.sc,.map b.mp]) hS ?_ (hy:=Or.inl ⟨by rfl,fun W hW=>by obtain ⟨⟨k1,k2,k3,c0,c1,c2,e0,e1⟩,_⟩:=id hW;go_simp⟩)
 simp only [Act.put,sA,sB,sC];refine tkZ 7 (.pointer (some ⟨w.heap.size,4,none⟩)) hS ?_;refine tkH 8 (.agg #[.int .i64 p.ex.kind,.string p.ex.name,.int .i64 p.ex.so,.int .i64 p.ex.n,.string p.ex.s,.slice a.ea p.ex.kids.length a.ec]) hS ?_ (hy:=Or.inl ⟨by rfl,fun W hW=>by obtain ⟨_,⟨x0,x1,x2,x3,x4,x5⟩⟩:=id hW;simp only [Nat.reduceAdd]at x0 x1 x2 x3 x4 x5;go_simp⟩)
 simp only [Act.put,sA,sB,sC];refine tkH 9 (.agg #[.slice ag x.g.length cg,.int .i64 (x.k:Int)]) hS ?_ (hy:=Or.inl ⟨by rfl,fun W hW=>by obtain ⟨⟨k1,k2,k3,c0,c1,c2,e0,e1⟩,_⟩:=id hW;go_simp⟩)
 simp only [Act.put,sA,sB,sC];refine take_oneHL 4 (aC (fun K hK=>?_) aN) (by kernel_rfl)
 go_simp
 refine (T0.out V5 H6.out.bl).mono ?_;rintro e V6 ⟨rfl,hb6⟩;have H7:=hideK (H6.out.keep hb6);have HG7:=hideK (HG6.out.keep hb6 (show w.heap.size<_ from by have:=H6.out.lt;omega))
 have hSn:(fun W:World=>BDS w p s b x ag cg W∧ExAt W w.heap.size 4 p.ex a.ea a.ec) V6:=⟨H7.out.s,HG7.out⟩
 refine hK.out _ _ hSn ?_;clear hb6 ;clear hS hK K hSn;intro hS;try simp only [Act.put,sA,sB,sC]
 refine take_oneHL 5 (aC (fun K hK=>?_) aN) (by kernel_rfl)
 go_simp
 refine (U1.out V6 H7.out.bl).mono ?_;rintro e V7 ⟨⟨mp2,rfl,hn3⟩,hb7⟩;have H8:=hideK (H7.out.keep hb7);have HG8:=hideK (HG7.out.keep hb7 (show w.heap.size<_ from by have:=H7.out.lt;omega))
 have hSn:(fun W:World=>BDS w p s b x ag cg W∧ExAt W w.heap.size 4 p.ex a.ea a.ec) V7:=⟨H8.out.s,HG8.out⟩
 have HN3:=hideK hn3;refine hK.out _ _ hSn ?_;clear hb7 hn3;clear hS hK K hSn;intro hS;try simp only [Act.put,sA,sB,sC]
 refine take_oneHL 10 (aC (fun K hK=>?_) aN) (by kernel_rfl)
 go_simp
 refine (HH.out V7 H8.out.bl).mono ?_;rintro e V8 ⟨rfl,hb8⟩;have H9:=hideK (H8.out.keep hb8);have HG9:=hideK (HG8.out.keep hb8 (show w.heap.size<_ from by have:=H8.out.lt;omega))
 have hSn:(fun W:World=>BDS w p s b x ag cg W∧ExAt W w.heap.size 4 p.ex a.ea a.ec) V8:=⟨H9.out.s,HG9.out⟩
 have HN4:=hideK (HN3.out.of_keep hb8);refine hK.out _ _ hSn ?_;clear hb8 ;clear hS hK K hSn;intro hS;try simp only [Act.put,sA,sB,sC]
 refine tkH 11 (.int .i64 nd.so) hS ?_ (hy:=Or.inl ⟨by rfl,fun W hW=>by have hfl:(Instr.field 102 (.agg #[.int .i64 nd.kind,.int .i64 nd.so,.slice al nd.labs.length cl,.slice at1 nd.to.length ct]) 1).run Tryz.prog W = .ok (.int .i64 nd.so) W:=(by kernel_rfl);go_simp⟩)
 simp only [Act.put,sA,sB,sC];refine take_oneHL 12 (aC (fun K hK=>?_) aN) (by kernel_rfl)
 go_simp
 refine (V1.out V8 H9.out.bl).mono ?_;rintro e V9 ⟨rfl,hb9⟩;have H10:=hideK (H9.out.keep hb9);have HG10:=hideK (HG9.out.keep hb9 (show w.heap.size<_ from by have:=H9.out.lt;omega))
 have hSn:(fun W:World=>BDS w p s b x ag cg W∧ExAt W w.heap.size 4 p.ex a.ea a.ec) V9:=⟨H10.out.s,HG10.out⟩
 have HN5:=hideK (HN4.out.of_keep hb9);refine hK.out _ _ hSn ?_;clear hb9 ;clear hS hK K hSn;intro hS;try simp only [Act.put,sA,sB,sC]
 obtain ⟨W9,e9,r0,r1,r2,hb9,hk9⟩:=H10.out.fin (.slice b.va s2.vs.length b.vc) (.slice b.sa s2.ss.length b.sc) (.map mp2);obtain ⟨_,_,_,_,_,_,_,_,_,_,z0,z1,z2,ff⟩:=H10.out;have f0:=ff 0;have f1:=ff 1;have f2:=ff 2;have HB:=hideK hb9;have HE:=hideK e9;have HK9:=hideK hk9;have HG9:=hideK (HN5.out.gs.blk z0 hk9);clear ff hb9 hk9 T0 HH U1 V1 e9;refine take_oneHL 13 (aC (fun K hK=>?_) aN) (by kernel_rfl)
 go_simp
 rw [HE.out];have hSn:(fun W:World=>BDS w p s b x ag cg W∧ExAt W w.heap.size 4 p.ex a.ea a.ec) W9:=⟨BDS.blk H10.out.s HK9.out,ExAt.blk HG10.out HK9.out (by omega)⟩
 refine hK.out _ _ hSn ?_;clear hS hK K hSn;intro hS;try simp only [Act.put,sA,sB,sC]
 refine tkZ 14 (.int .i64 fe) hS ?_;refine wpAnyH_done (by kernel_rfl) ?_ _
 clear z0 z1 z2 f0 f1 f2 hS;go_wp2_with fail
 refine bodyPost_ret (v:=.tuple #[.agg #[.slice b.va s2.vs.length b.vc,.slice b.sa s2.ss.length b.sc,.map mp2],.int .i64 fe]) (by simp [results,Tryz.results73,go_sem,r0,r1,r2]) rfl ?_
 exact ⟨⟨mp2,rfl,HG9.out⟩,HB.out⟩
end Go.Proofs.YtmamabhhgfcjcaaGreatDoor
