/-
  The contract of check.behindDoing: what is picked.
-/
import Derived.Test.YtmamabhhgfcjcaaGreatDoorOph
set_option maxRecDepth 100000
set_option maxHeartbeats 8000000
namespace Go.Proofs.YtmamabhhgfcjcaaGreatDoor
open Go.RowKit Go.Shelf
theorem behindDoing6No(p:Pr)(a:PrA)(s:Sc)(b:ScA)(x:En)(ag:OAd)(cg:Nat)(w0 w:World)(hk:p.kind=6)(hw:Below w0.heap.size w0 w)(hx:EnAt w0 x ag)(hll:(hereE x).labs.length≤1000)(hN:hasN (hereE x).labs p.label=false):
  Calls Tryz.prog 73 #[prVal p a,scVal s b,enVal x ag cg] w fun e w'=>e = .returned (.tuple #[scVal s b,.int .i64 7])∧Below w.heap.size w w':=by
 have H4:=hideK (BDB.new w p a s b x ag cg);have hbw:∀W,Below w.heap.size w W→Below w0.heap.size w0 W:=fun W hW=>hw.trans (hW.mono hw.size)
 obtain ⟨al,cl,at1,ct,hla,_,hH⟩:=enHere_ex x ag cg w0 hx;have hh:=fun (W:World) (hW:Below w.heap.size w W)=>hH W (hbw W hW)
 have hi:=fun (W:World) (hW:Below w.heap.size w W)=>index_any (hereE x).labs p.label al cl _ W (NAt.keep (hbw W hW) hla) hll
 rw [show idxZ (hereE x).labs p.label = -1 from by unfold idxZ;rw [hN];rfl]at hi
 generalize hereE x=nd at *;have HH:=hideK hh;have HI:=hideK hi;simp only [scVal,prVal,enVal,ndVal]at H4 HH ⊢;have hk1:(p.kind==2)=false:=by rw [hk];rfl
 have hk2:(p.kind==3)=false:=by rw [hk];rfl
 have hk3:(p.kind==4)=false:=by rw [hk];rfl
 have hk4:(p.kind==5)=false:=by rw [hk];rfl
 have hk5:(p.kind==6)=true:=by rw [hk];rfl
 clear hh hi hw hx hll hN hH hbw hk hla;go_enter Tryz.func73,Tryz.ntmps73
 go_upto_region 11 with fail
 refine region_seq (fun W=>BDB w p s b x ag cg W) [0,1,2,3,4,5,6] (by kernel_rfl) (by kernel_rfl) (by kernel_rfl) (H4.out.keep ((bR _ _).drew)) ?_
 refine sW (.agg #[.slice ag x.g.length cg,.int .i64 (x.k:Int)]) (fun W hW=>?_) ?_
 ·obtain ⟨_,_,k1,k2,k3,c0,c1,c2,e0,e1,_,_,_,_⟩:=id hW
  go_simp
 refine sW (.agg #[.int .i64 nd.kind,.int .i64 nd.so,.slice al nd.labs.length cl,.slice at1 nd.to.length ct]) (fun W hW=>?_) ?_
 ·have c:=HH.out W hW.bl
  go_simp
  refine c.mono ?_;rintro e w' ⟨rfl,hb⟩;exact ⟨rfl,hW.keep hb⟩
 refine sW (.slice al nd.labs.length cl) (fun W hW=>?_) ?_
 ·have hfl:(Instr.field 102 (.agg #[.int .i64 nd.kind,.int .i64 nd.so,.slice al nd.labs.length cl,.slice at1 nd.to.length ct]) 2).run Tryz.prog W = .ok (.slice al nd.labs.length cl) W:=by kernel_rfl
  go_simp
 refine sO (.pointer (some ⟨w.heap.size,3,none⟩)) ?_;refine sW (.string p.label) (fun W hW=>?_) ?_
 ·obtain ⟨_,_,k1,k2,k3,c0,c1,c2,e0,e1,_,_,_,_⟩:=id hW
  go_simp
 refine sW (.int .i64 (-1)) (fun W hW=>?_) ?_
 ·have c:=HI.out W hW.bl
  go_simp
  refine c.mono ?_;rintro e w' ⟨rfl,rfl⟩;exact ⟨rfl,hW⟩
 refine sO (.int .i64 (-1)) ?_;refine SeqS.done ?_;intro W1 hW1;have H5:=hideK hW1;clear hW1 H4 HH HI hk1 hk2 hk3 hk4 hk5;obtain ⟨W9,e9,r0,r1,r2,hb9,_⟩:=H5.out.fin (.slice b.va s.vs.length b.vc) (.slice b.sa s.ss.length b.sc) (.map b.mp);obtain ⟨_,_,k1,k2,_,c0,c1,c2,_,_,z0,z1,z2,ff⟩:=H5.out;have f0:=ff 0;have f1:=ff 1;have f2:=ff 2;have HB:=hideK hb9;have HE:=hideK e9;clear ff hb9 e9 H5;go_wp2_with fail
 rw [HE.out];refine bodyPost_ret (v:=.tuple #[.agg #[.slice b.va s.vs.length b.vc,.slice b.sa s.ss.length b.sc,.map b.mp],.int .i64 7]) (by simp [results,Tryz.results73,go_sem,r0,r1,r2]) rfl ?_
 exact ⟨rfl,HB.out⟩
theorem behindDoing6Yes(p:Pr)(a:PrA)(s:Sc)(b:ScA)(x:En)(ag:OAd)(cg:Nat)(w0 w:World)(hk:p.kind=6)(h:ScAt w0 s b)(hw:Below w0.heap.size w0 w)(hx:EnAt w0 x ag)(hll:(hereE x).labs.length≤1000)(ht:(hereE x).to.length=(hereE x).labs.length)(hm:p.chan.size≤maxLen)(hN:hasN (hereE x).labs p.label=true):
  Calls Tryz.prog 73 #[prVal p a,scVal s b,enVal x ag cg] w fun e w'=>(∃mp',e = .returned (.tuple #[scVal (s.we p.chan (toE x (idxB (hereE x).labs p.label))) ⟨b.va,b.vc,b.sa,b.sc,mp'⟩,.int .i64 0])∧GSc w0 w' (s.we p.chan (toE x (idxB (hereE x).labs p.label))).es mp')∧Below w.heap.size w w':=by
 have H4:=hideK (BDB.new w p a s b x ag cg);have hbw:∀W,Below w.heap.size w W→Below w0.heap.size w0 W:=fun W hW=>hw.trans (hW.mono hw.size)
 obtain ⟨al,cl,at1,ct,hla,_,hH⟩:=enHere_ex x ag cg w0 hx;have hh:=fun (W:World) (hW:Below w.heap.size w W)=>hH W (hbw W hW)
 have hi:=fun (W:World) (hW:Below w.heap.size w W)=>index_any (hereE x).labs p.label al cl _ W (NAt.keep (hbw W hW) hla) hll
 rw [show idxZ (hereE x).labs p.label=(idxB (hereE x).labs p.label:Int) from by unfold idxZ;rw [hN];rfl]at hi
 have hkl:=idxB_lt ((hasN_iff _ _).1 hN);generalize idxB (hereE x).labs p.label=k at *;have hk0:(k:Int)<1000:=by omega
 have hy0:=hx.to (j:=k) (by omega)
 have t0:=fun (W:World) (hW:Below w.heap.size w W)=>enTo_any x ag cg k W (hx.keep (hbw W hW)) (by omega)
 generalize toE x k=y0 at *;have u1:=fun (W:World) (hW:Below w.heap.size w W)=>withEnd_g s b p.chan y0 ag cg w0 W (h.gs (hbw W hW)) hm hy0
 generalize s.we p.chan y0=s2 at *;generalize hereE x=nd at *;have HH:=hideK hh;have HI:=hideK hi;have T0:=hideK t0;have U1:=hideK u1;simp only [scVal,prVal,enVal,ndVal]at H4 HH T0 U1 ⊢;have hk1:(p.kind==2)=false:=by rw [hk];rfl
 have hk2:(p.kind==3)=false:=by rw [hk];rfl
 have hk3:(p.kind==4)=false:=by rw [hk];rfl
 have hk4:(p.kind==5)=false:=by rw [hk];rfl
 have hk5:(p.kind==6)=true:=by rw [hk];rfl
 clear hh hi hw hx hll hN hH hbw hk hla t0 u1 h ht hm hkl hy0;go_enter Tryz.func73,Tryz.ntmps73
 go_upto_region 11 with fail
 refine region_seq (fun W=>BDB w p s b x ag cg W) [0,1,2,3,4,5,6] (by kernel_rfl) (by kernel_rfl) (by kernel_rfl) (H4.out.keep ((bR _ _).drew)) ?_
 refine sW (.agg #[.slice ag x.g.length cg,.int .i64 (x.k:Int)]) (fun W hW=>?_) ?_
 ·obtain ⟨_,_,k1,k2,k3,c0,c1,c2,e0,e1,_,_,_,_⟩:=id hW
  go_simp
 refine sW (.agg #[.int .i64 nd.kind,.int .i64 nd.so,.slice al nd.labs.length cl,.slice at1 nd.to.length ct]) (fun W hW=>?_) ?_
 ·have c:=HH.out W hW.bl
  go_simp
  refine c.mono ?_;rintro e w' ⟨rfl,hb⟩;exact ⟨rfl,hW.keep hb⟩
 refine sW (.slice al nd.labs.length cl) (fun W hW=>?_) ?_
 ·have hfl:(Instr.field 102 (.agg #[.int .i64 nd.kind,.int .i64 nd.so,.slice al nd.labs.length cl,.slice at1 nd.to.length ct]) 2).run Tryz.prog W = .ok (.slice al nd.labs.length cl) W:=by kernel_rfl
  go_simp
 refine sO (.pointer (some ⟨w.heap.size,3,none⟩)) ?_;refine sW (.string p.label) (fun W hW=>?_) ?_
 ·obtain ⟨_,_,k1,k2,k3,c0,c1,c2,e0,e1,_,_,_,_⟩:=id hW
  go_simp
 refine sW (.int .i64 (k:Int)) (fun W hW=>?_) ?_
 ·have c:=HI.out W hW.bl
  go_simp
  refine c.mono ?_;rintro e w' ⟨rfl,rfl⟩;exact ⟨rfl,hW⟩
 refine sO (.int .i64 (k:Int)) ?_;refine SeqS.done ?_;intro W1 hW1;have H5:=hideK hW1;clear hW1 H4 HH HI hk1 hk2 hk3 hk4 hk5;go_upto_region 14 with fail
 have H6:=hideK (H5.out.keep ((bR _ _).drew));have hS0:(fun W:World=>BDS w p s b x ag cg W) (World.drew W1):=H6.out.s
 clear H5;refine wp_region_held_drew (S:=(fun W:World=>BDS w p s b x ag cg W)) (by kernel_rfl) hS0 (fun hS=>?_)
 clear hS0;generalize World.drew W1=V5 at *;refine tkH 0 (.agg #[.slice b.va s.vs.length b.vc,.slice b.sa s.ss.length b.sc,.map b.mp]) hS ?_ (hy:=Or.inl ⟨by rfl,fun W hW=>by obtain ⟨k1,k2,k3,c0,c1,c2,e0,e1⟩:=id hW;go_simp⟩)
 simp only [Act.put,sA,sB,sC];refine tkZ 1 (.pointer (some ⟨w.heap.size,1,none⟩)) hS ?_;refine tkH 2 (.string p.chan) hS ?_ (hy:=Or.inl ⟨by rfl,fun W hW=>by obtain ⟨k1,k2,k3,c0,c1,c2,e0,e1⟩:=id hW;go_simp⟩)
 simp only [Act.put,sA,sB,sC];refine tkH 3 (.agg #[.slice ag x.g.length cg,.int .i64 (x.k:Int)]) hS ?_ (hy:=Or.inl ⟨by rfl,fun W hW=>by obtain ⟨k1,k2,k3,c0,c1,c2,e0,e1⟩:=id hW;go_simp⟩)
 simp only [Act.put,sA,sB,sC];refine tkZ 4 (.int .i64 (k:Int)) hS ?_;refine take_oneHL 5 (aC (fun K hK=>?_) aN) (by kernel_rfl)
 go_simp
 refine (T0.out V5 H6.out.bl).mono ?_;rintro e V6 ⟨rfl,hb6⟩;have H7:=hideK (H6.out.keep hb6);have hSn:(fun W:World=>BDS w p s b x ag cg W) V6:=H7.out.s
 refine hK.out _ _ hSn ?_;clear hb6 ;clear hS hK K hSn;intro hS;try simp only [Act.put,sA,sB,sC]
 refine take_oneHL 6 (aC (fun K hK=>?_) aN) (by kernel_rfl)
 go_simp
 refine (U1.out V6 H7.out.bl).mono ?_;rintro e V7 ⟨⟨mp2,rfl,hn3⟩,hb7⟩;have H8:=hideK (H7.out.keep hb7);have hSn:(fun W:World=>BDS w p s b x ag cg W) V7:=H8.out.s
 have HN3:=hideK hn3;refine hK.out _ _ hSn ?_;clear hb7 hn3;clear hS hK K hSn;intro hS;try simp only [Act.put,sA,sB,sC]
 obtain ⟨W9,e9,r0,r1,r2,hb9,hk9⟩:=H8.out.fin (.slice b.va s2.vs.length b.vc) (.slice b.sa s2.ss.length b.sc) (.map mp2);obtain ⟨_,_,_,_,_,_,_,_,_,_,z0,z1,z2,ff⟩:=H8.out;have f0:=ff 0;have f1:=ff 1;have f2:=ff 2;have HB:=hideK hb9;have HE:=hideK e9;have HK9:=hideK hk9;have HG9:=hideK (HN3.out.gs.blk z0 hk9);clear ff hb9 hk9 T0 U1 e9;refine take_oneHL 7 (aC (fun K hK=>?_) aN) (by kernel_rfl)
 go_simp
 rw [HE.out];have hSn:(fun W:World=>BDS w p s b x ag cg W) W9:=BDS.blk H8.out.s HK9.out
 refine hK.out _ _ hSn ?_;clear hS hK K hSn;intro hS;try simp only [Act.put,sA,sB,sC]
 refine tkZ 8 (.int .i64 0) hS ?_;refine wpAnyH_done (by kernel_rfl) ?_ _
 clear z0 z1 z2 f0 f1 f2 hS;go_wp2_with fail
 refine bodyPost_ret (v:=.tuple #[.agg #[.slice b.va s2.vs.length b.vc,.slice b.sa s2.ss.length b.sc,.map mp2],.int .i64 0]) (by simp [results,Tryz.results73,go_sem,r0,r1,r2]) rfl ?_
 exact ⟨⟨mp2,rfl,HG9.out⟩,HB.out⟩
theorem apN_step{ns:List ByteArray}{k:Nat}(hk:k<ns.length):apN (ns.take k) (ns.drop k)=(!hasN (ns.take k) ns[k] && apN (ns.take (k+1)) (ns.drop (k+1))):=by
 rw [List.drop_eq_getElem_cons hk,apN,List.take_succ_eq_append_getElem hk]
theorem areApart_any(ns:List ByteArray)(aa:OAd)(ca B:Nat)(w:World)(h:LA w B ns aa)(hl:ns.length≤1000)(hc:ns.length≤ca)(hca:ca≤9223372036854775807):
  Calls Tryz.prog 37 #[.slice aa ns.length ca] w fun e w'=>e = .returned (.bool (apN [] ns))∧w'=w:=by
 have hlz:(ns.length:Int)≤1000:=by omega
 have hcz:(ns.length:Int)≤(ca:Int):=by omega
 have hcaz:(ca:Int)≤9223372036854775807:=by omega
 go_enter Tryz.func37,Tryz.ntmps37
 go_wp2_with fail
 go_loopw [7] (fun i wr=>∃k:Nat,k≤ns.length∧i = .int .i64 (k:Int)∧apN [] ns=apN (ns.take k) (ns.drop k)∧wr=w) (fun i _=>ns.length - (intOf i).toNat)
 case atStart=>exact ⟨0,Nat.zero_le _,rfl,rfl,rfl⟩
 case round =>
  obtain ⟨k,hk,rfl,hn,rfl⟩:=hrel;by_cases hlt:k<ns.length
  ·have hltz:(k:Int)<(ns.length:Int):=by omega
   obtain ⟨b,o,rfl,hbl,hcc⟩:=h.resolve_left (fun q=>by have:=congrArg List.length q;simp at this;rw [this]at hlt;simp at hlt)
   have d0:=hcc k (by simpa using hlt)
   rw [List.getElem_map]at d0;have hT:LA wr B (ns.take k) (some ⟨b,o,none⟩):=.inr ⟨b,o,rfl,hbl,fun i hi=>by
    have hi':i<k:=by simp at hi;omega
    have q:=hcc i (by simp;omega)
    rw [List.getElem_map]at q ⊢;rw [List.getElem_take];exact q⟩
   have c:=containsL_any (ns.take k) ns[k] (some ⟨b,o,none⟩) ca B wr hT (by simp;omega)
   rw [show (ns.take k).length=k from by simp;omega]at c
   rw [apN_step hlt]at hn;generalize ns[k]=y at *;cases hq:hasN (ns.take k) y with
   | true =>
    rw [hq]at c hn;have HN:=hideK hn;clear hn hq hcc hT;go_wp2_with fail
    refine c.mono ?_;rintro e w5 ⟨rfl,rfl⟩;go_wp2_with fail
    go_ret
    exact ⟨by rw [HN.out];rfl,rfl⟩
   | false =>
    rw [hq]at c hn;have HN:=hideK hn;clear hn hq hcc hT;go_wp2_with fail
    refine c.mono ?_;rintro e w5 ⟨rfl,rfl⟩;go_wp2_with fail
    go_roundw
    case rel=>exact ⟨k+1,by omega,by go_num,by rw [HN.out];rfl,by first|rfl|trivial⟩
    case measure=>simp [intOf];omega
  ·have hltz:¬(k:Int)<(ns.length:Int):=by omega
   have hkl:k=ns.length:=by omega
   subst hkl;rw [List.drop_length]at hn;have HN:=hideK hn;clear hn;go_wp2_with fail
   go_ret
   exact ⟨by rw [HN.out];rfl,rfl⟩
structure BHB(w:World)(p:Pr)(a:PrA)(s:Sc)(b:ScA)(W:World):Prop where
 bl:Below w.heap.size w W
 lt:w.heap.size+1+1<W.heap.size
 at0:PrAt W w.heap.size 0 p a
 c0:W.cell? ⟨w.heap.size+1,0,none⟩=some (.slice b.va s.vs.length b.vc)
 c1:W.cell? ⟨w.heap.size+1,1,none⟩=some (.slice b.sa s.ss.length b.sc)
 c2:W.cell? ⟨w.heap.size+1,2,none⟩=some (.map b.mp)
 z0:W.cell? ⟨w.heap.size+1+1,0,none⟩=some (.slice none 0 0)
 z1:W.cell? ⟨w.heap.size+1+1,1,none⟩=some (.slice none 0 0)
 z2:W.cell? ⟨w.heap.size+1+1,2,none⟩=some (.map none)
 f:∀o,W.frozen? ⟨w.heap.size+1+1,o,none⟩=false
theorem BHB.keep{w:World}{p:Pr}{a:PrA}{s:Sc}{b:ScA}{W W':World}(h:BHB w p a s b W)(hb:Below W.heap.size W W'):BHB w p a s b W':=by
 have hs:=hb.size;have hl:=h.lt;have c:∀b o,b<w.heap.size+1+1+1→W'.cell? ⟨b,o,none⟩=W.cell? ⟨b,o,none⟩:=fun b o q=>hb.cell (p:=⟨b,o,none⟩) (by show b<_;omega)
 exact ⟨h.bl.trans (hb.mono h.bl.size),by omega,h.at0.keep hb (by omega),(c _ _ (by omega)).trans h.c0,(c _ _ (by omega)).trans h.c1,(c _ _ (by omega)).trans h.c2,(c _ _ (by omega)).trans h.z0,(c _ _ (by omega)).trans h.z1,(c _ _ (by omega)).trans h.z2,fun o=>(hb.frozen (p:=⟨w.heap.size+1+1,o,none⟩) (by show w.heap.size+1+1<_;omega)).trans (h.f o)⟩
theorem BHB.new(w:World)(p:Pr)(a:PrA)(s:Sc)(b:ScA):BHB w p a s b (((w.alloc (.cells (pK p a) 40)).alloc (.cells #[.slice b.va s.vs.length b.vc,.slice b.sa s.ss.length b.sc,.map b.mp] 70)).alloc (.cells #[.slice none 0 0,.slice none 0 0,.map none] 70)) :=
 ⟨(((bR _ _).alloc (nR _) _).alloc (by simp) _).alloc (by simp;omega) _,by simp,PrAt.keep (B:=(w.alloc (prBx p a)).heap.size) (prBx_at w p a) (((Below.refl _ (w.alloc (prBx p a))).alloc (nR _) _).alloc (by simp) _) (by simp),by go_cell,by go_cell,by go_cell,by go_cell,by go_cell,by go_cell,fun o=>by go_simp⟩
theorem BHB.fin{w:World}{p:Pr}{a:PrA}{s:Sc}{b:ScA}{W:World}(h:BHB w p a s b W)(v0 v1 v2:Value):∃W9,((W.setCell ⟨w.heap.size+1+1,0,none⟩ v0).setCell ⟨w.heap.size+1+1,1,none⟩ v1).setCell ⟨w.heap.size+1+1,2,none⟩ v2=W9∧W9.cell? ⟨w.heap.size+1+1,0,none⟩=some v0∧W9.cell? ⟨w.heap.size+1+1,1,none⟩=some v1∧W9.cell? ⟨w.heap.size+1+1,2,none⟩=some v2∧Below w.heap.size w W9∧∀k,k≠w.heap.size+1+1→W9.heap[k]? = W.heap[k]?:=by
 obtain ⟨r0,r1,r2⟩:=st3_at v0 v1 v2 h.z0 h.z1 h.z2;exact ⟨_,rfl,r0,r1,r2,((h.bl.setCell (p:=⟨w.heap.size+1+1,0,none⟩) (by show w.heap.size≤w.heap.size+1+1;omega) v0).setCell (p:=⟨w.heap.size+1+1,1,none⟩) (by show w.heap.size≤w.heap.size+1+1;omega) v1).setCell (p:=⟨w.heap.size+1+1,2,none⟩) (by show w.heap.size≤w.heap.size+1+1;omega) v2,fun k hk=>by rw [Go.Deep.blk_setCell_other _ _ _ _ hk,Go.Deep.blk_setCell_other _ _ _ _ hk,Go.Deep.blk_setCell_other _ _ _ _ hk]⟩
theorem behind12{W0:World}(h0:Tabs W0)(p:Pr)(a:PrA)(s:Sc)(b:ScA)(w0 w:World)(hk:p.kind=12)(h:ScAt w0 s b)(hw:Below w0.heap.size w0 w)(hbd:ExBd p.ex a.ec)(hka:∃d,KA w0 w0.heap.size d p.ex.kids a.ea)(hT:AT W0 w0)(hl:s.vs.length≤1000):
  Calls Tryz.prog 44 #[prVal p a,scVal s b] w fun e w'=>e = .returned (.tuple #[scVal s b,.int .i64 (srtR p.ex s.vs s.ss).2])∧Below w.heap.size w w':=by
 have H4:=hideK (BHB.new w p a s b);have hW:=hw.trans (H4.out.bl.mono hw.size);have c:=scSort_any h0 s b p.ex a.ea a.ec (((w.alloc (.cells (pK p a) 40)).alloc (.cells #[.slice b.va s.vs.length b.vc,.slice b.sa s.ss.length b.sc,.map b.mp] 70)).alloc (.cells #[.slice none 0 0,.slice none 0 0,.map none] 70)) (h.keep hW) hbd (hka.imp fun _ q=>KA.mono hW.size (KA.keep hW q)) (at_k _ _ hT hW) hl
 generalize srtR p.ex s.vs s.ss=r at *;have hk1:(p.kind==11)=false:=by rw [hk];rfl
 have hk2:(p.kind==12)=true:=by rw [hk];rfl
 simp only [scVal,prVal,exVal]at H4 c ⊢;clear h hw hbd hka hT hl hk hW;go_enter Tryz.func44,Tryz.ntmps44
 go_wp2_with fail
 refine c.mono ?_;rintro e w5 ⟨rfl,hb5⟩;have H5:=hideK (H4.out.keep hb5);clear c hb5 H4 hk1 hk2;obtain ⟨W9,e9,r0,r1,r2,hb9,_⟩:=H5.out.fin (.slice b.va s.vs.length b.vc) (.slice b.sa s.ss.length b.sc) (.map b.mp);obtain ⟨_,_,_,c0,c1,c2,z0,z1,z2,ff⟩:=H5.out;have f0:=ff 0;have f1:=ff 1;have f2:=ff 2;have HB:=hideK hb9;have HE:=hideK e9;clear ff hb9 e9 H5;go_wp2_with fail
 rw [HE.out];refine bodyPost_ret (v:=.tuple #[.agg #[.slice b.va s.vs.length b.vc,.slice b.sa s.ss.length b.sc,.map b.mp],.int .i64 r.2]) (by simp [results,Tryz.results44,go_sem,r0,r1,r2]) rfl ?_
 exact ⟨rfl,HB.out⟩
end Go.Proofs.YtmamabhhgfcjcaaGreatDoor
