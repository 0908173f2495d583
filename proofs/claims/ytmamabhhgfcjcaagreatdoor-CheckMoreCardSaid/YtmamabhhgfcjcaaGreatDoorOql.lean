/-
  The law of CheckMore.
-/
import Derived.Test.YtmamabhhgfcjcaaGreatDoorOqk
set_option maxRecDepth 100000
set_option maxHeartbeats 16000000
namespace Go.Proofs.YtmamabhhgfcjcaaGreatDoor
open Go.RowKit Go.Shelf
theorem more_fin{w:World}{ad:OAd}{ds:List Df}{cd:Nat}{n:ByteArray}{V:World}{b9 base:Nat}{v':Value}{ts:List (Df × DfA)}(H:CMB w ad ds cd n V)(O7:V.ownsRow base 42 24 v' (ds.length+1) (dCs ts++dfCs (moreD n) da0))(T2:ts.map (·.1)=ds)(K2:∀t∈ts,DfOK V w.heap.size t.1 t.2)(B9:V.cell? ⟨b9,0,none⟩=some (.slice none 0 0)∧V.frozen? ⟨b9,0,none⟩=false∧b9<V.heap.size)(N9:∀g,v'.ownBlock=some g→g≠b9)(L9:w.heap.size+1<b9)(hn:n.size≤9223372036854775807):
  ∃aq cq,v' = .slice aq (ds.length+1) cq∧CMB w ad ds cd n (V.setCell ⟨b9,0,none⟩ v')∧b9<(V.setCell ⟨b9,0,none⟩ v').heap.size∧(V.setCell ⟨b9,0,none⟩ v').cell? ⟨b9,0,none⟩=some v'∧ds.length+1≤cq∧cq≤9223372036854775807∧DfsAt (V.setCell ⟨b9,0,none⟩ v') (V.setCell ⟨b9,0,none⟩ v').heap.size (ds++[moreD n]) aq:=by
 have htl:ts.length=ds.length:=by rw [← T2];simp
 have hbl:Below w.heap.size V (V.setCell ⟨b9,0,none⟩ v'):=(bR _ _).setCell (p:=⟨b9,0,none⟩) (by show w.heap.size≤b9;omega) _
 have hcell:∀k o,k≠b9→(V.setCell ⟨b9,0,none⟩ v').cell? ⟨k,o,none⟩=V.cell? ⟨k,o,none⟩:=fun k o hk=>World.cell?_of_block (a:=⟨k,o,none⟩) (Go.Deep.blk_setCell_other _ _ _ _ hk)
 have hO:(V.setCell ⟨b9,0,none⟩ v').ownsRow base 42 24 v' (ts++[(moreD n,da0)]).length (dCs (ts++[(moreD n,da0)])):=by
  rw [dCs_app,List.length_append,htl,show dCs [(moreD n,da0)]=dfCs (moreD n) da0 from by unfold dCs;simp]
  refine ⟨O7.1,O7.2.imp id fun ⟨g,cap,cur,q1,q2,q3,q4⟩=>⟨g,cap,cur,q1,q2,?_,q4⟩⟩
  rw [Go.Deep.blk_setCell_other _ _ _ _ (show g≠b9 from N9 g (by rw [q1];rfl))];exact q3
 obtain ⟨aq,cq,e,q1,q2,q3⟩:=rowD hO (B0:=w.heap.size) (fun t ht=>by
  rcases List.mem_append.1 ht with q|q
  ·exact (K2 t q).keep hbl
  ·obtain rfl:=List.mem_singleton.1 q
   exact more_ok _ _ n hn) (by rw [World.size_setCell];exact H.bl.size)
 rw [List.length_append,htl]at e q1;rw [List.map_append,T2]at q3;refine ⟨aq,cq,e,⟨H.bl.setCell (p:=⟨b9,0,none⟩) (by show w.heap.size≤b9;omega) _,by rw [World.size_setCell];exact H.lt,(hcell _ _ (by omega)).trans H.p0,(hcell _ _ (by omega)).trans H.n0⟩,by rw [World.size_setCell];exact B9.2.2,World.cell?_setCell_same _ _ _ B9.1,q1,q2,q3⟩
abbrev nK(n:ByteArray):Array Value:=#[.string n,.slice none 0 0,.slice none 0 0,.slice none 0 0,.slice none 0 0,.int .i64 1,.string ⟨#[]⟩,.string ⟨#[]⟩,.string ⟨#[]⟩,.int .i64 0,.string ⟨#[]⟩,.int .i64 0,.int .i64 0,.string ⟨#[]⟩,.slice none 0 0,.slice none 0 0,.slice none 0 0,.int .i64 0,.int .i64 0,.string ⟨#[]⟩,.slice none 0 0,.slice none 0 0,.slice none 0 0,.slice none 0 0]
theorem more_reg{W0:World}(h0:Tabs W0)(gr og:Ty→List Nd)(hgr:∀t g,chkTy t=0→OFG t g→g=gr t)(hog:∀t g,chkTy t=0→OTG t g→g=og t)(ds:List Df)(ad:OAd)(cd:Nat)(n:ByteArray)(w:World)(hl:ds.length≤cd)(hcd:cd≤9223372036854775807)(hd:DfsAt w w.heap.size ds ad)(hT:AT W0 w)(hns:n.size≤9223372036854775807)(hbg:ds.length*424≤140737488351232):
  Calls Tryz.prog 4 #[.agg #[.slice ad ds.length cd],.string n] w fun e w'=>e = .returned (.bool true)∧Below w.heap.size w w':=by
 obtain ⟨i0,hi,hz0,hz1,hz2⟩:=info_parts infoDf;have H:=hideK (CMB.new w ad ds cd n);have hno:ad=none→ds=[]:=fun e=>hd.elim id (fun ⟨b,o,q,_⟩=>by rw [e]at q;cases q)
 have HK0:=hideK (fun (ds':List Df) (ad':OAd) (cd':Nat) (W:World) (hW:Below w.heap.size w W) (h1:ds'.length≤cd') (h2:cd'≤9223372036854775807) (h3:DfsAt W W.heap.size ds' ad')=>checkP_any h0 gr og hgr hog ds' ad' cd' W h1 h2 h3 (at_k _ _ hT hW))
 have HSH:=hideK (fun (ds':List Df) (ad':OAd) (cd':Nat) (W:World) (hW:Below w.heap.size w W) (h1:ds'.length≤9223372036854775807) (h3:DfsAt W W.heap.size ds' ad')=>shape_any h0 ds' ad' cd' W.heap.size W h1 h3 (nR _) (at_k _ _ hT hW))
 have HR:=hideK (hello_right gr og hgr hog);have HD:=hideK (fun (W:World) (hW:Below w.heap.size w W)=>hd.keep hW)
 have CC:=hideK (fun (W:World) (hW:Below w.heap.size w W)=>cloneD_any ds ad cd w.heap.size W (hd.keep hW) hno (by omega))
 have HLC:=hideK (And.intro hl hcd);have HBG:=hideK hbg;have HNS:=hideK hns;have hHe:=hello_any ((w.alloc (.cells #[.slice ad ds.length cd] 24)).alloc (.cells #[.string n] 9));clear hl hcd hd hT hno hns hbg;go_enter Tryz.func4,Tryz.ntmps4
 go_wp2_with fail
 refine hHe.mono ?_;rintro e w1 ⟨⟨ad1,rfl,hd1⟩,hb1⟩;replace H:=hideK (H.out.keep hb1);have c:=HK0.out [heD] ad1 1 w1 H.out.bl (nR _) (by decide) hd1
 rw [HR.out]at c;clear hHe hb1 hd1;go_wp2_with fail
 refine c.mono ?_;rintro e w2 ⟨rfl,hb2⟩;replace H:=hideK (H.out.keep hb2);have c:=HK0.out [] none 0 w2 H.out.bl (nR _) (by decide) (.inl rfl)
 rw [show ckP gr og []=(1,0) from rfl]at c
 clear hb2;go_wp2_with fail
 refine c.mono ?_;rintro e w3 ⟨rfl,hb3⟩;replace H:=hideK (H.out.keep hb3);have c:=HK0.out ds ad cd w3 H.out.bl HLC.out.1 HLC.out.2 ((HD.out w3 H.out.bl).mono H.out.bl.size);clear hb3;have p0:=H.out.p0;go_wp2_with fail
 refine c.mono ?_;rintro e w4 ⟨rfl,hb4⟩;replace H:=hideK (H.out.keep hb4);clear hb4 c p0;go_upto_region 8 with fail
 go_cut [11] (fun s11 wc=>∃b9 aq cq,s11 = .pointer (some ⟨b9,0,none⟩)∧CMB w ad ds cd n wc∧b9<wc.heap.size∧wc.cell? ⟨b9,0,none⟩=some (.slice aq (ds.length+1) cq)∧ds.length+1≤cq∧cq≤9223372036854775807∧DfsAt wc wc.heap.size (ds++[moreD n]) aq)
 case first =>
  replace H:=hideK (H.out.keep ((bR _ _).drew));have hS0:(fun W:World=>CMB w ad ds cd n W) (World.drew w4):=H.out
  refine wp_region_held_drew (S:=(fun W:World=>CMB w ad ds cd n W)) (by kernel_rfl) hS0 (fun hS=>?_)
  clear hS0;generalize World.drew w4=V0 at *;refine tkZ 0 (.pointer (some ⟨w.heap.size,0,none⟩)) hS ?_;refine tkH 1 (.slice ad ds.length cd) hS ?_ (hy:=Or.inl ⟨by rfl,fun W hW=>by have p0:=hW.p0;go_simp⟩)
  simp only [Act.put,sA,sB,sC];refine tkH 3 (.string n) hS ?_ (hy:=Or.inl ⟨by rfl,fun W hW=>by have n0:=hW.n0;go_simp⟩)
  simp only [Act.put,sA,sB,sC];refine tkZ 4 (.agg #[.int .i64 1,.string ⟨#[]⟩,.string ⟨#[]⟩,.string ⟨#[]⟩,.int .i64 0,.string ⟨#[]⟩,.int .i64 0,.int .i64 0,.string ⟨#[]⟩,.slice none 0 0,.slice none 0 0,.slice none 0 0,.int .i64 0,.int .i64 0,.string ⟨#[]⟩,.slice none 0 0,.slice none 0 0,.slice none 0 0,.slice none 0 0]) hS ?_;refine tkZ 5 (.agg #[.string n,.slice none 0 0,.slice none 0 0,.slice none 0 0,.slice none 0 0,.int .i64 1,.string ⟨#[]⟩,.string ⟨#[]⟩,.string ⟨#[]⟩,.int .i64 0,.string ⟨#[]⟩,.int .i64 0,.int .i64 0,.string ⟨#[]⟩,.slice none 0 0,.slice none 0 0,.slice none 0 0,.int .i64 0,.int .i64 0,.string ⟨#[]⟩,.slice none 0 0,.slice none 0 0,.slice none 0 0,.slice none 0 0]) hS ?_;refine wpAnyH_ready (rs:=[2,6,9]) (by kernel_rfl) (by simp) (aC (fun K hK=>?_) (aC (fun K hK=>?_) (aC (fun K hK=>?_) aN)))
  ·go_simp
   refine (CC.out V0 H.out.bl).mono ?_;rintro e V1 ⟨⟨v,ts,rfl,hts,hok,hown⟩,hbs⟩;have O2:=hideK hown;have T2:=hideK hts;have K2:=hideK (fun t ht=>(hok t ht).keep (hbs.mono H.out.bl.size))
   have L2:=hideK (show ∀g,v.ownBlock=some g→V0.heap.size≤g from fun g hg=>by rcases own_cells hown with ⟨q,_,_⟩|⟨g',cap,q,q1,_,_⟩;rw [q]at hg;cases hg;rw [q]at hg;injection hg with hg;simp only at hg;omega)
   have Z2:=hideK (show w.heap.size+1<V0.heap.size from H.out.lt)
   have BS:=hideK (show V0.heap.size≤V1.heap.size from hbs.size)
   have HN:=hideK (H.out.keep hbs);have hSn:(fun W:World=>CMB w ad ds cd n W) V1:=HN.out
   refine hK.out _ _ hSn ?_;clear H;have H:=HN;clear HN;clear hbs hown hts hok;clear hS hK K hSn;intro hS;try simp only [Act.put,sA,sB,sC]
   refine wpAnyH_ready (rs:=[6,9]) (by kernel_rfl) (by simp) (aC (fun K hK=>?_) (aC (fun K hK=>?_) aN))
   ·have hbs:Below V1.heap.size V1 (V1.alloc (.cells (nK n) 42)):=(bR _ _).alloc (nR _) _
    have R6:=hideK (show (∀j u,(dfCs (moreD n) da0)[j]? = some u→(V1.alloc (.cells (nK n) 42)).cell? ⟨V1.heap.size,j,none⟩=some u)∧V1.heap.size<(V1.alloc (.cells (nK n) 42)).heap.size from ⟨fun j u hj=>by rw [World.cell?_alloc_at _ _ _ _ rfl,← hj,← List.getElem?_toArray];rfl,by simp⟩)
    have HN:=hideK (H.out.keep hbs);have hSn:(fun W:World=>CMB w ad ds cd n W) (V1.alloc (.cells (nK n) 42)):=HN.out
    replace BS:=hideK (Nat.le_trans BS.out (hbs).size);replace O2:=hideK (own_below O2.out hbs);replace K2:=hideK (fun t ht=>(K2.out t ht).keep (hbs.mono H.out.bl.size))
    go_simp
    refine hK.out _ _ hSn ?_;clear H;have H:=HN;clear HN;clear hbs;clear hS hK K hSn;intro hS;try simp only [Act.put,sA,sB,sC]
    generalize V1.heap.size=g6 at R6 ⊢;generalize World.alloc V1 _=V2 at *;refine wpAnyH_ready (rs:=[7,9]) (by kernel_rfl) (by simp) (aC (fun K hK=>?_) (aC (fun K hK=>?_) aN))
    ·refine step_append_df V2 rfl (.tmp 35) (.tmp 39) 22 rfl _ 42 i0 _ 24 424 Tryz.underlying22 hi hz0 hz1 hz2 rfl (by decide) v ds.length (dCs ts) rfl O2.out ⟨g6,0,none⟩ 1 1 (dfCs (moreD n) da0) rfl rfl (fun j u hj=>by rw [addj0];exact R6.out.1 j u hj) (fun u hu=>dCs_one [(moreD n,da0)] u (by unfold dCs;simpa using hu)) (by have:=HBG.out;unfold maxLen;omega) (by have:=HBG.out;omega) BS.out (fun v' V3 hown7 hg7 hv7=>?_)
     obtain ⟨va',vc',rfl⟩:=sliceH_own hown7;have O7:=hideK hown7;have hb7:∀k,k<V2.heap.size→v.ownBlock≠some k→V3.heap[k]? = V2.heap[k]?:=fun k hk hne=>hg7.block k hk (fun e=>hne e.symm)
     have hlo:∀k,k<w.heap.size+1+1→v.ownBlock≠some k:=fun k hk e=>by have:=L2.out k e;have:=Z2.out;omega
     have HN:=hideK (show CMB w ad ds cd n V3 from ⟨H.out.bl.grown hg7 H.out.bl.size (fun k e=>by have:=L2.out k e;have:=Z2.out;omega),nL H.out.lt hg7.size,(World.cell?_of_block (a:=⟨w.heap.size,0,none⟩) (hb7 w.heap.size (by have:=H.out.lt;omega) (hlo _ (by omega)))).trans H.out.p0,(World.cell?_of_block (a:=⟨w.heap.size+1,0,none⟩) (hb7 (w.heap.size+1) H.out.lt (hlo _ (by omega)))).trans H.out.n0⟩)
     have hSn:(fun W:World=>CMB w ad ds cd n W) V3:=HN.out
     replace K2:=hideK (fun t ht=>(K2.out t ht).keep ((Below.refl w.heap.size V2).grown hg7 H.out.bl.size (fun k e=>by have:=L2.out k e;have:=Z2.out;omega)))
     refine hK.out _ _ hSn ?_;clear H;have H:=HN;clear HN;clear hown7 hg7 hv7 hb7 hlo O2 R6 L2;clear hS hK K hSn;intro hS;try simp only [Act.put,sA,sB,sC]
     refine tkZ 8 (.agg #[.slice va' (ds.length+1) vc']) hS ?_;refine take_oneHL 9 (aC (fun K hK=>?_) aN) (by kernel_rfl)
     have hbs:Below V3.heap.size V3 (V3.alloc (.cells #[.slice none 0 0] 24)):=(bR _ _).alloc (nR _) _;have B9:=hideK (show (V3.alloc (.cells #[.slice none 0 0] 24)).cell? ⟨V3.heap.size,0,none⟩=some (.slice none 0 0)∧(V3.alloc (.cells #[.slice none 0 0] 24)).frozen? ⟨V3.heap.size,0,none⟩=false∧V3.heap.size<(V3.alloc (.cells #[.slice none 0 0] 24)).heap.size from ⟨by go_cell,by go_simp,by simp⟩)
     have L9:=hideK (show w.heap.size+1<V3.heap.size from H.out.lt)
     have N9:=hideK (show ∀g,(Value.slice va' (ds.length+1) vc').ownBlock=some g→g≠V3.heap.size from fun g hg=>by rcases own_cells O7.out with ⟨q,_,_⟩|⟨g',cap,q,_,q2,_⟩;rw [q]at hg;cases hg;rw [q]at hg;injection hg with hg;simp only at hg;omega)
     replace O7:=hideK (own_below O7.out hbs);replace K2:=hideK (fun t ht=>(K2.out t ht).keep (hbs.mono H.out.bl.size))
     have HN:=hideK (H.out.keep hbs);have hSn:(fun W:World=>CMB w ad ds cd n W) (V3.alloc (.cells #[.slice none 0 0] 24)):=HN.out
     go_simp
     refine hK.out _ _ hSn ?_;clear H;have H:=HN;clear HN;clear hbs;clear hS hK K hSn;intro hS;try simp only [Act.put,sA,sB,sC]
     generalize V3.heap.size=b9 at B9 N9 L9 ⊢;generalize World.alloc V3 _=V4 at *;obtain ⟨aq,cq,hvv,hF⟩:=more_fin H.out O7.out T2.out K2.out B9.out N9.out L9.out HNS.out;injection hvv with hv1 hv2 hv3
     subst hv1 hv3;have HF:=hideK hF;have c9:=B9.out.1;have f9:=B9.out.2.1;clear hF;refine take_oneHL 10 (aC (fun K hK=>?_) aN) (by kernel_rfl)
     go_simp
     refine hK.out _ _ HF.out.1 ?_;clear hS hK K c9 f9;intro hS;try simp only [Act.put,sA,sB,sC]
     refine wpAnyH_done (by kernel_rfl) ?_ _
     clear hS;go_wp2_with fail
     go_meet
     exact ⟨b9,_,_,rfl,HF.out⟩
    ·have hbs:Below V2.heap.size V2 (V2.alloc (.cells #[.slice none 0 0] 24)):=(bR _ _).alloc (nR _) _
     have B9:=hideK (show (V2.alloc (.cells #[.slice none 0 0] 24)).cell? ⟨V2.heap.size,0,none⟩=some (.slice none 0 0)∧(V2.alloc (.cells #[.slice none 0 0] 24)).frozen? ⟨V2.heap.size,0,none⟩=false∧V2.heap.size<(V2.alloc (.cells #[.slice none 0 0] 24)).heap.size from ⟨by go_cell,by go_simp,by simp⟩)
     have L9:=hideK (show w.heap.size+1<V2.heap.size from H.out.lt)
     have N9:=hideK (show ∀g,v.ownBlock=some g→g≠V2.heap.size from fun g hg=>by rcases own_cells O2.out with ⟨q,_,_⟩|⟨g',cap,q,_,q2,_⟩;rw [q]at hg;cases hg;rw [q]at hg;injection hg with hg;simp only at hg;omega)
     have HN:=hideK (H.out.keep hbs);have hSn:(fun W:World=>CMB w ad ds cd n W) (V2.alloc (.cells #[.slice none 0 0] 24)):=HN.out
     replace BS:=hideK (Nat.le_trans BS.out (hbs).size);replace O2:=hideK (own_below O2.out hbs);replace K2:=hideK (fun t ht=>(K2.out t ht).keep (hbs.mono H.out.bl.size))
     replace R6:=hideK (And.intro (fun j u hj=>((hbs).cell (p:=⟨g6,j,none⟩) R6.out.2).trans (R6.out.1 j u hj)) (nL R6.out.2 (hbs).size))
     go_simp
     refine hK.out _ _ hSn ?_;clear H;have H:=HN;clear HN;clear hbs;clear hS hK K hSn;intro hS;try simp only [Act.put,sA,sB,sC]
     generalize V2.heap.size=b9 at B9 N9 L9 ⊢;generalize World.alloc V2 _=V3 at *;refine take_oneHL 7 (aC (fun K hK=>?_) aN) (by kernel_rfl)
     refine step_append_df V3 rfl (.tmp 35) (.tmp 39) 22 rfl _ 42 i0 _ 24 424 Tryz.underlying22 hi hz0 hz1 hz2 rfl (by decide) v ds.length (dCs ts) rfl O2.out ⟨g6,0,none⟩ 1 1 (dfCs (moreD n) da0) rfl rfl (fun j u hj=>by rw [addj0];exact R6.out.1 j u hj) (fun u hu=>dCs_one [(moreD n,da0)] u (by unfold dCs;simpa using hu)) (by have:=HBG.out;unfold maxLen;omega) (by have:=HBG.out;omega) BS.out (fun v' V4 hown7 hg7 hv7=>?_)
     obtain ⟨va',vc',rfl⟩:=sliceH_own hown7;have O7:=hideK hown7;have hb7:∀k,k<V3.heap.size→v.ownBlock≠some k→V4.heap[k]? = V3.heap[k]?:=fun k hk hne=>hg7.block k hk (fun e=>hne e.symm)
     have hlo:∀k,k<w.heap.size+1+1→v.ownBlock≠some k:=fun k hk e=>by have:=L2.out k e;have:=Z2.out;omega
     have HN:=hideK (show CMB w ad ds cd n V4 from ⟨H.out.bl.grown hg7 H.out.bl.size (fun k e=>by have:=L2.out k e;have:=Z2.out;omega),nL H.out.lt hg7.size,(World.cell?_of_block (a:=⟨w.heap.size,0,none⟩) (hb7 w.heap.size (by have:=H.out.lt;omega) (hlo _ (by omega)))).trans H.out.p0,(World.cell?_of_block (a:=⟨w.heap.size+1,0,none⟩) (hb7 (w.heap.size+1) H.out.lt (hlo _ (by omega)))).trans H.out.n0⟩)
     have hSn:(fun W:World=>CMB w ad ds cd n W) V4:=HN.out
     replace K2:=hideK (fun t ht=>(K2.out t ht).keep ((Below.refl w.heap.size V3).grown hg7 H.out.bl.size (fun k e=>by have:=L2.out k e;have:=Z2.out;omega)))
     have hb9:V4.heap[b9]? = V3.heap[b9]?:=hb7 b9 B9.out.2.2 (fun e=>N9.out b9 e rfl)
     have N9':=hideK (show ∀g,(Value.slice va' (ds.length+1) vc').ownBlock=some g→g≠b9 from fun g hg=>by rcases hv7 with q|q;rw [q]at hg;exact N9.out g hg;rw [q]at hg;injection hg with hg;have:=B9.out.2.2;omega)
     clear N9;have N9:=N9';clear N9';replace B9:=hideK (And.intro ((World.cell?_of_block (a:=⟨b9,0,none⟩) hb9).trans B9.out.1) (And.intro ((World.frozen?_of_block (a:=⟨b9,0,none⟩) hb9).trans B9.out.2.1) (nL B9.out.2.2 hg7.size)));clear hb9;refine hK.out _ _ hSn ?_;clear H;have H:=HN;clear HN;clear hown7 hg7 hv7 hb7 hlo O2 R6 L2;clear hS hK K hSn;intro hS;try simp only [Act.put,sA,sB,sC]
     refine tkZ 8 (.agg #[.slice va' (ds.length+1) vc']) hS ?_;obtain ⟨aq,cq,hvv,hF⟩:=more_fin H.out O7.out T2.out K2.out B9.out N9.out L9.out HNS.out;injection hvv with hv1 hv2 hv3
     subst hv1 hv3;have HF:=hideK hF;have c9:=B9.out.1;have f9:=B9.out.2.1;clear hF;refine take_oneHL 10 (aC (fun K hK=>?_) aN) (by kernel_rfl)
     go_simp
     refine hK.out _ _ HF.out.1 ?_;clear hS hK K c9 f9;intro hS;try simp only [Act.put,sA,sB,sC]
     refine wpAnyH_done (by kernel_rfl) ?_ _
     clear hS;go_wp2_with fail
     go_meet
     exact ⟨b9,_,_,rfl,HF.out⟩
   ·have hbs:Below V1.heap.size V1 (V1.alloc (.cells #[.slice none 0 0] 24)):=(bR _ _).alloc (nR _) _
    have B9:=hideK (show (V1.alloc (.cells #[.slice none 0 0] 24)).cell? ⟨V1.heap.size,0,none⟩=some (.slice none 0 0)∧(V1.alloc (.cells #[.slice none 0 0] 24)).frozen? ⟨V1.heap.size,0,none⟩=false∧V1.heap.size<(V1.alloc (.cells #[.slice none 0 0] 24)).heap.size from ⟨by go_cell,by go_simp,by simp⟩)
    have L9:=hideK (show w.heap.size+1<V1.heap.size from H.out.lt)
    have N9:=hideK (show ∀g,v.ownBlock=some g→g≠V1.heap.size from fun g hg=>by rcases own_cells O2.out with ⟨q,_,_⟩|⟨g',cap,q,_,q2,_⟩;rw [q]at hg;cases hg;rw [q]at hg;injection hg with hg;simp only at hg;omega)
    have HN:=hideK (H.out.keep hbs);have hSn:(fun W:World=>CMB w ad ds cd n W) (V1.alloc (.cells #[.slice none 0 0] 24)):=HN.out
    replace BS:=hideK (Nat.le_trans BS.out (hbs).size);replace O2:=hideK (own_below O2.out hbs);replace K2:=hideK (fun t ht=>(K2.out t ht).keep (hbs.mono H.out.bl.size))
    go_simp
    refine hK.out _ _ hSn ?_;clear H;have H:=HN;clear HN;clear hbs;clear hS hK K hSn;intro hS;try simp only [Act.put,sA,sB,sC]
    generalize V1.heap.size=b9 at B9 N9 L9 ⊢;generalize World.alloc V1 _=V2 at *;refine take_oneHL 6 (aC (fun K hK=>?_) aN) (by kernel_rfl)
    have hbs:Below V2.heap.size V2 (V2.alloc (.cells (nK n) 42)):=(bR _ _).alloc (nR _) _;have R6:=hideK (show (∀j u,(dfCs (moreD n) da0)[j]? = some u→(V2.alloc (.cells (nK n) 42)).cell? ⟨V2.heap.size,j,none⟩=some u)∧V2.heap.size<(V2.alloc (.cells (nK n) 42)).heap.size from ⟨fun j u hj=>by rw [World.cell?_alloc_at _ _ _ _ rfl,← hj,← List.getElem?_toArray];rfl,by simp⟩)
    have HN:=hideK (H.out.keep hbs);have hSn:(fun W:World=>CMB w ad ds cd n W) (V2.alloc (.cells (nK n) 42)):=HN.out
    replace BS:=hideK (Nat.le_trans BS.out (hbs).size);replace O2:=hideK (own_below O2.out hbs);replace K2:=hideK (fun t ht=>(K2.out t ht).keep (hbs.mono H.out.bl.size))
    replace B9:=hideK (And.intro (((hbs).cell (p:=⟨b9,0,none⟩) B9.out.2.2).trans B9.out.1) (And.intro (((hbs).frozen (p:=⟨b9,0,none⟩) B9.out.2.2).trans B9.out.2.1) (nL B9.out.2.2 (hbs).size)));go_simp
    refine hK.out _ _ hSn ?_;clear H;have H:=HN;clear HN;clear hbs;clear hS hK K hSn;intro hS;try simp only [Act.put,sA,sB,sC]
    generalize V2.heap.size=g6 at R6 ⊢;generalize World.alloc V2 _=V3 at *;refine take_oneHL 7 (aC (fun K hK=>?_) aN) (by kernel_rfl)
    refine step_append_df V3 rfl (.tmp 35) (.tmp 39) 22 rfl _ 42 i0 _ 24 424 Tryz.underlying22 hi hz0 hz1 hz2 rfl (by decide) v ds.length (dCs ts) rfl O2.out ⟨g6,0,none⟩ 1 1 (dfCs (moreD n) da0) rfl rfl (fun j u hj=>by rw [addj0];exact R6.out.1 j u hj) (fun u hu=>dCs_one [(moreD n,da0)] u (by unfold dCs;simpa using hu)) (by have:=HBG.out;unfold maxLen;omega) (by have:=HBG.out;omega) BS.out (fun v' V4 hown7 hg7 hv7=>?_)
    obtain ⟨va',vc',rfl⟩:=sliceH_own hown7;have O7:=hideK hown7;have hb7:∀k,k<V3.heap.size→v.ownBlock≠some k→V4.heap[k]? = V3.heap[k]?:=fun k hk hne=>hg7.block k hk (fun e=>hne e.symm)
    have hlo:∀k,k<w.heap.size+1+1→v.ownBlock≠some k:=fun k hk e=>by have:=L2.out k e;have:=Z2.out;omega
    have HN:=hideK (show CMB w ad ds cd n V4 from ⟨H.out.bl.grown hg7 H.out.bl.size (fun k e=>by have:=L2.out k e;have:=Z2.out;omega),nL H.out.lt hg7.size,(World.cell?_of_block (a:=⟨w.heap.size,0,none⟩) (hb7 w.heap.size (by have:=H.out.lt;omega) (hlo _ (by omega)))).trans H.out.p0,(World.cell?_of_block (a:=⟨w.heap.size+1,0,none⟩) (hb7 (w.heap.size+1) H.out.lt (hlo _ (by omega)))).trans H.out.n0⟩)
    have hSn:(fun W:World=>CMB w ad ds cd n W) V4:=HN.out
    replace K2:=hideK (fun t ht=>(K2.out t ht).keep ((Below.refl w.heap.size V3).grown hg7 H.out.bl.size (fun k e=>by have:=L2.out k e;have:=Z2.out;omega)))
    have hb9:V4.heap[b9]? = V3.heap[b9]?:=hb7 b9 B9.out.2.2 (fun e=>N9.out b9 e rfl)
    have N9':=hideK (show ∀g,(Value.slice va' (ds.length+1) vc').ownBlock=some g→g≠b9 from fun g hg=>by rcases hv7 with q|q;rw [q]at hg;exact N9.out g hg;rw [q]at hg;injection hg with hg;have:=B9.out.2.2;omega)
    clear N9;have N9:=N9';clear N9';replace B9:=hideK (And.intro ((World.cell?_of_block (a:=⟨b9,0,none⟩) hb9).trans B9.out.1) (And.intro ((World.frozen?_of_block (a:=⟨b9,0,none⟩) hb9).trans B9.out.2.1) (nL B9.out.2.2 hg7.size)));clear hb9;refine hK.out _ _ hSn ?_;clear H;have H:=HN;clear HN;clear hown7 hg7 hv7 hb7 hlo O2 R6 L2;clear hS hK K hSn;intro hS;try simp only [Act.put,sA,sB,sC]
    refine tkZ 8 (.agg #[.slice va' (ds.length+1) vc']) hS ?_;obtain ⟨aq,cq,hvv,hF⟩:=more_fin H.out O7.out T2.out K2.out B9.out N9.out L9.out HNS.out;injection hvv with hv1 hv2 hv3
    subst hv1 hv3;have HF:=hideK hF;have c9:=B9.out.1;have f9:=B9.out.2.1;clear hF;refine take_oneHL 10 (aC (fun K hK=>?_) aN) (by kernel_rfl)
    go_simp
    refine hK.out _ _ HF.out.1 ?_;clear hS hK K c9 f9;intro hS;try simp only [Act.put,sA,sB,sC]
    refine wpAnyH_done (by kernel_rfl) ?_ _
    clear hS;go_wp2_with fail
    go_meet
    exact ⟨b9,_,_,rfl,HF.out⟩
  ·have hbs:Below V0.heap.size V0 (V0.alloc (.cells (nK n) 42)):=(bR _ _).alloc (nR _) _
   have R6:=hideK (show (∀j u,(dfCs (moreD n) da0)[j]? = some u→(V0.alloc (.cells (nK n) 42)).cell? ⟨V0.heap.size,j,none⟩=some u)∧V0.heap.size<(V0.alloc (.cells (nK n) 42)).heap.size from ⟨fun j u hj=>by rw [World.cell?_alloc_at _ _ _ _ rfl,← hj,← List.getElem?_toArray];rfl,by simp⟩)
   have HN:=hideK (H.out.keep hbs);have hSn:(fun W:World=>CMB w ad ds cd n W) (V0.alloc (.cells (nK n) 42)):=HN.out
   go_simp
   refine hK.out _ _ hSn ?_;clear H;have H:=HN;clear HN;clear hbs;clear hS hK K hSn;intro hS;try simp only [Act.put,sA,sB,sC]
   generalize V0.heap.size=g6 at R6 ⊢;generalize World.alloc V0 _=V1 at *;refine wpAnyH_ready (rs:=[2,9]) (by kernel_rfl) (by simp) (aC (fun K hK=>?_) (aC (fun K hK=>?_) aN))
   ·go_simp
    refine (CC.out V1 H.out.bl).mono ?_;rintro e V2 ⟨⟨v,ts,rfl,hts,hok,hown⟩,hbs⟩;have O2:=hideK hown;have T2:=hideK hts;have K2:=hideK (fun t ht=>(hok t ht).keep (hbs.mono H.out.bl.size))
    have L2:=hideK (show ∀g,v.ownBlock=some g→V1.heap.size≤g from fun g hg=>by rcases own_cells hown with ⟨q,_,_⟩|⟨g',cap,q,q1,_,_⟩;rw [q]at hg;cases hg;rw [q]at hg;injection hg with hg;simp only at hg;omega)
    have Z2:=hideK (show w.heap.size+1<V1.heap.size from H.out.lt)
    have BS:=hideK (show V1.heap.size≤V2.heap.size from hbs.size)
    have HN:=hideK (H.out.keep hbs);have hSn:(fun W:World=>CMB w ad ds cd n W) V2:=HN.out
    replace R6:=hideK (And.intro (fun j u hj=>((hbs).cell (p:=⟨g6,j,none⟩) R6.out.2).trans (R6.out.1 j u hj)) (nL R6.out.2 (hbs).size))
    refine hK.out _ _ hSn ?_;clear H;have H:=HN;clear HN;clear hbs hown hts hok;clear hS hK K hSn;intro hS;try simp only [Act.put,sA,sB,sC]
    refine wpAnyH_ready (rs:=[7,9]) (by kernel_rfl) (by simp) (aC (fun K hK=>?_) (aC (fun K hK=>?_) aN))
    ·refine step_append_df V2 rfl (.tmp 35) (.tmp 39) 22 rfl _ 42 i0 _ 24 424 Tryz.underlying22 hi hz0 hz1 hz2 rfl (by decide) v ds.length (dCs ts) rfl O2.out ⟨g6,0,none⟩ 1 1 (dfCs (moreD n) da0) rfl rfl (fun j u hj=>by rw [addj0];exact R6.out.1 j u hj) (fun u hu=>dCs_one [(moreD n,da0)] u (by unfold dCs;simpa using hu)) (by have:=HBG.out;unfold maxLen;omega) (by have:=HBG.out;omega) BS.out (fun v' V3 hown7 hg7 hv7=>?_)
     obtain ⟨va',vc',rfl⟩:=sliceH_own hown7;have O7:=hideK hown7;have hb7:∀k,k<V2.heap.size→v.ownBlock≠some k→V3.heap[k]? = V2.heap[k]?:=fun k hk hne=>hg7.block k hk (fun e=>hne e.symm)
     have hlo:∀k,k<w.heap.size+1+1→v.ownBlock≠some k:=fun k hk e=>by have:=L2.out k e;have:=Z2.out;omega
     have HN:=hideK (show CMB w ad ds cd n V3 from ⟨H.out.bl.grown hg7 H.out.bl.size (fun k e=>by have:=L2.out k e;have:=Z2.out;omega),nL H.out.lt hg7.size,(World.cell?_of_block (a:=⟨w.heap.size,0,none⟩) (hb7 w.heap.size (by have:=H.out.lt;omega) (hlo _ (by omega)))).trans H.out.p0,(World.cell?_of_block (a:=⟨w.heap.size+1,0,none⟩) (hb7 (w.heap.size+1) H.out.lt (hlo _ (by omega)))).trans H.out.n0⟩)
     have hSn:(fun W:World=>CMB w ad ds cd n W) V3:=HN.out
     replace K2:=hideK (fun t ht=>(K2.out t ht).keep ((Below.refl w.heap.size V2).grown hg7 H.out.bl.size (fun k e=>by have:=L2.out k e;have:=Z2.out;omega)))
     refine hK.out _ _ hSn ?_;clear H;have H:=HN;clear HN;clear hown7 hg7 hv7 hb7 hlo O2 R6 L2;clear hS hK K hSn;intro hS;try simp only [Act.put,sA,sB,sC]
     refine tkZ 8 (.agg #[.slice va' (ds.length+1) vc']) hS ?_;refine take_oneHL 9 (aC (fun K hK=>?_) aN) (by kernel_rfl)
     have hbs:Below V3.heap.size V3 (V3.alloc (.cells #[.slice none 0 0] 24)):=(bR _ _).alloc (nR _) _;have B9:=hideK (show (V3.alloc (.cells #[.slice none 0 0] 24)).cell? ⟨V3.heap.size,0,none⟩=some (.slice none 0 0)∧(V3.alloc (.cells #[.slice none 0 0] 24)).frozen? ⟨V3.heap.size,0,none⟩=false∧V3.heap.size<(V3.alloc (.cells #[.slice none 0 0] 24)).heap.size from ⟨by go_cell,by go_simp,by simp⟩)
     have L9:=hideK (show w.heap.size+1<V3.heap.size from H.out.lt)
     have N9:=hideK (show ∀g,(Value.slice va' (ds.length+1) vc').ownBlock=some g→g≠V3.heap.size from fun g hg=>by rcases own_cells O7.out with ⟨q,_,_⟩|⟨g',cap,q,_,q2,_⟩;rw [q]at hg;cases hg;rw [q]at hg;injection hg with hg;simp only at hg;omega)
     replace O7:=hideK (own_below O7.out hbs);replace K2:=hideK (fun t ht=>(K2.out t ht).keep (hbs.mono H.out.bl.size))
     have HN:=hideK (H.out.keep hbs);have hSn:(fun W:World=>CMB w ad ds cd n W) (V3.alloc (.cells #[.slice none 0 0] 24)):=HN.out
     go_simp
     refine hK.out _ _ hSn ?_;clear H;have H:=HN;clear HN;clear hbs;clear hS hK K hSn;intro hS;try simp only [Act.put,sA,sB,sC]
     generalize V3.heap.size=b9 at B9 N9 L9 ⊢;generalize World.alloc V3 _=V4 at *;obtain ⟨aq,cq,hvv,hF⟩:=more_fin H.out O7.out T2.out K2.out B9.out N9.out L9.out HNS.out;injection hvv with hv1 hv2 hv3
     subst hv1 hv3;have HF:=hideK hF;have c9:=B9.out.1;have f9:=B9.out.2.1;clear hF;refine take_oneHL 10 (aC (fun K hK=>?_) aN) (by kernel_rfl)
     go_simp
     refine hK.out _ _ HF.out.1 ?_;clear hS hK K c9 f9;intro hS;try simp only [Act.put,sA,sB,sC]
     refine wpAnyH_done (by kernel_rfl) ?_ _
     clear hS;go_wp2_with fail
     go_meet
     exact ⟨b9,_,_,rfl,HF.out⟩
    ·have hbs:Below V2.heap.size V2 (V2.alloc (.cells #[.slice none 0 0] 24)):=(bR _ _).alloc (nR _) _
     have B9:=hideK (show (V2.alloc (.cells #[.slice none 0 0] 24)).cell? ⟨V2.heap.size,0,none⟩=some (.slice none 0 0)∧(V2.alloc (.cells #[.slice none 0 0] 24)).frozen? ⟨V2.heap.size,0,none⟩=false∧V2.heap.size<(V2.alloc (.cells #[.slice none 0 0] 24)).heap.size from ⟨by go_cell,by go_simp,by simp⟩)
     have L9:=hideK (show w.heap.size+1<V2.heap.size from H.out.lt)
     have N9:=hideK (show ∀g,v.ownBlock=some g→g≠V2.heap.size from fun g hg=>by rcases own_cells O2.out with ⟨q,_,_⟩|⟨g',cap,q,_,q2,_⟩;rw [q]at hg;cases hg;rw [q]at hg;injection hg with hg;simp only at hg;omega)
     have HN:=hideK (H.out.keep hbs);have hSn:(fun W:World=>CMB w ad ds cd n W) (V2.alloc (.cells #[.slice none 0 0] 24)):=HN.out
     replace BS:=hideK (Nat.le_trans BS.out (hbs).size);replace O2:=hideK (own_below O2.out hbs);replace K2:=hideK (fun t ht=>(K2.out t ht).keep (hbs.mono H.out.bl.size))
     replace R6:=hideK (And.intro (fun j u hj=>((hbs).cell (p:=⟨g6,j,none⟩) R6.out.2).trans (R6.out.1 j u hj)) (nL R6.out.2 (hbs).size))
     go_simp
     refine hK.out _ _ hSn ?_;clear H;have H:=HN;clear HN;clear hbs;clear hS hK K hSn;intro hS;try simp only [Act.put,sA,sB,sC]
     generalize V2.heap.size=b9 at B9 N9 L9 ⊢;generalize World.alloc V2 _=V3 at *;refine take_oneHL 7 (aC (fun K hK=>?_) aN) (by kernel_rfl)
     refine step_append_df V3 rfl (.tmp 35) (.tmp 39) 22 rfl _ 42 i0 _ 24 424 Tryz.underlying22 hi hz0 hz1 hz2 rfl (by decide) v ds.length (dCs ts) rfl O2.out ⟨g6,0,none⟩ 1 1 (dfCs (moreD n) da0) rfl rfl (fun j u hj=>by rw [addj0];exact R6.out.1 j u hj) (fun u hu=>dCs_one [(moreD n,da0)] u (by unfold dCs;simpa using hu)) (by have:=HBG.out;unfold maxLen;omega) (by have:=HBG.out;omega) BS.out (fun v' V4 hown7 hg7 hv7=>?_)
     obtain ⟨va',vc',rfl⟩:=sliceH_own hown7;have O7:=hideK hown7;have hb7:∀k,k<V3.heap.size→v.ownBlock≠some k→V4.heap[k]? = V3.heap[k]?:=fun k hk hne=>hg7.block k hk (fun e=>hne e.symm)
     have hlo:∀k,k<w.heap.size+1+1→v.ownBlock≠some k:=fun k hk e=>by have:=L2.out k e;have:=Z2.out;omega
     have HN:=hideK (show CMB w ad ds cd n V4 from ⟨H.out.bl.grown hg7 H.out.bl.size (fun k e=>by have:=L2.out k e;have:=Z2.out;omega),nL H.out.lt hg7.size,(World.cell?_of_block (a:=⟨w.heap.size,0,none⟩) (hb7 w.heap.size (by have:=H.out.lt;omega) (hlo _ (by omega)))).trans H.out.p0,(World.cell?_of_block (a:=⟨w.heap.size+1,0,none⟩) (hb7 (w.heap.size+1) H.out.lt (hlo _ (by omega)))).trans H.out.n0⟩)
     have hSn:(fun W:World=>CMB w ad ds cd n W) V4:=HN.out
     replace K2:=hideK (fun t ht=>(K2.out t ht).keep ((Below.refl w.heap.size V3).grown hg7 H.out.bl.size (fun k e=>by have:=L2.out k e;have:=Z2.out;omega)))
     have hb9:V4.heap[b9]? = V3.heap[b9]?:=hb7 b9 B9.out.2.2 (fun e=>N9.out b9 e rfl)
     have N9':=hideK (show ∀g,(Value.slice va' (ds.length+1) vc').ownBlock=some g→g≠b9 from fun g hg=>by rcases hv7 with q|q;rw [q]at hg;exact N9.out g hg;rw [q]at hg;injection hg with hg;have:=B9.out.2.2;omega)
     clear N9;have N9:=N9';clear N9';replace B9:=hideK (And.intro ((World.cell?_of_block (a:=⟨b9,0,none⟩) hb9).trans B9.out.1) (And.intro ((World.frozen?_of_block (a:=⟨b9,0,none⟩) hb9).trans B9.out.2.1) (nL B9.out.2.2 hg7.size)));clear hb9;refine hK.out _ _ hSn ?_;clear H;have H:=HN;clear HN;clear hown7 hg7 hv7 hb7 hlo O2 R6 L2;clear hS hK K hSn;intro hS;try simp only [Act.put,sA,sB,sC]
     refine tkZ 8 (.agg #[.slice va' (ds.length+1) vc']) hS ?_;obtain ⟨aq,cq,hvv,hF⟩:=more_fin H.out O7.out T2.out K2.out B9.out N9.out L9.out HNS.out;injection hvv with hv1 hv2 hv3
     subst hv1 hv3;have HF:=hideK hF;have c9:=B9.out.1;have f9:=B9.out.2.1;clear hF;refine take_oneHL 10 (aC (fun K hK=>?_) aN) (by kernel_rfl)
     go_simp
     refine hK.out _ _ HF.out.1 ?_;clear hS hK K c9 f9;intro hS;try simp only [Act.put,sA,sB,sC]
     refine wpAnyH_done (by kernel_rfl) ?_ _
     clear hS;go_wp2_with fail
     go_meet
     exact ⟨b9,_,_,rfl,HF.out⟩
   ·have hbs:Below V1.heap.size V1 (V1.alloc (.cells #[.slice none 0 0] 24)):=(bR _ _).alloc (nR _) _
    have B9:=hideK (show (V1.alloc (.cells #[.slice none 0 0] 24)).cell? ⟨V1.heap.size,0,none⟩=some (.slice none 0 0)∧(V1.alloc (.cells #[.slice none 0 0] 24)).frozen? ⟨V1.heap.size,0,none⟩=false∧V1.heap.size<(V1.alloc (.cells #[.slice none 0 0] 24)).heap.size from ⟨by go_cell,by go_simp,by simp⟩)
    have L9:=hideK (show w.heap.size+1<V1.heap.size from H.out.lt)
    have HN:=hideK (H.out.keep hbs);have hSn:(fun W:World=>CMB w ad ds cd n W) (V1.alloc (.cells #[.slice none 0 0] 24)):=HN.out
    replace R6:=hideK (And.intro (fun j u hj=>((hbs).cell (p:=⟨g6,j,none⟩) R6.out.2).trans (R6.out.1 j u hj)) (nL R6.out.2 (hbs).size))
    go_simp
    refine hK.out _ _ hSn ?_;clear H;have H:=HN;clear HN;clear hbs;clear hS hK K hSn;intro hS;try simp only [Act.put,sA,sB,sC]
    generalize V1.heap.size=b9 at B9 L9 ⊢;generalize World.alloc V1 _=V2 at *;refine take_oneHL 2 (aC (fun K hK=>?_) aN) (by kernel_rfl)
    go_simp
    refine (CC.out V2 H.out.bl).mono ?_;rintro e V3 ⟨⟨v,ts,rfl,hts,hok,hown⟩,hbs⟩;have O2:=hideK hown;have T2:=hideK hts;have K2:=hideK (fun t ht=>(hok t ht).keep (hbs.mono H.out.bl.size))
    have L2:=hideK (show ∀g,v.ownBlock=some g→V2.heap.size≤g from fun g hg=>by rcases own_cells hown with ⟨q,_,_⟩|⟨g',cap,q,q1,_,_⟩;rw [q]at hg;cases hg;rw [q]at hg;injection hg with hg;simp only at hg;omega)
    have Z2:=hideK (show w.heap.size+1<V2.heap.size from H.out.lt)
    have BS:=hideK (show V2.heap.size≤V3.heap.size from hbs.size)
    have N9:=hideK (show ∀g,v.ownBlock=some g→g≠b9 from fun g hg=>by have:=L2.out g hg;have:=B9.out.2.2;omega)
    have HN:=hideK (H.out.keep hbs);have hSn:(fun W:World=>CMB w ad ds cd n W) V3:=HN.out
    replace R6:=hideK (And.intro (fun j u hj=>((hbs).cell (p:=⟨g6,j,none⟩) R6.out.2).trans (R6.out.1 j u hj)) (nL R6.out.2 (hbs).size))
    replace B9:=hideK (And.intro (((hbs).cell (p:=⟨b9,0,none⟩) B9.out.2.2).trans B9.out.1) (And.intro (((hbs).frozen (p:=⟨b9,0,none⟩) B9.out.2.2).trans B9.out.2.1) (nL B9.out.2.2 (hbs).size)));refine hK.out _ _ hSn ?_;clear H;have H:=HN;clear HN;clear hbs hown hts hok;clear hS hK K hSn;intro hS;try simp only [Act.put,sA,sB,sC]
    refine take_oneHL 7 (aC (fun K hK=>?_) aN) (by kernel_rfl)
    refine step_append_df V3 rfl (.tmp 35) (.tmp 39) 22 rfl _ 42 i0 _ 24 424 Tryz.underlying22 hi hz0 hz1 hz2 rfl (by decide) v ds.length (dCs ts) rfl O2.out ⟨g6,0,none⟩ 1 1 (dfCs (moreD n) da0) rfl rfl (fun j u hj=>by rw [addj0];exact R6.out.1 j u hj) (fun u hu=>dCs_one [(moreD n,da0)] u (by unfold dCs;simpa using hu)) (by have:=HBG.out;unfold maxLen;omega) (by have:=HBG.out;omega) BS.out (fun v' V4 hown7 hg7 hv7=>?_)
    obtain ⟨va',vc',rfl⟩:=sliceH_own hown7;have O7:=hideK hown7;have hb7:∀k,k<V3.heap.size→v.ownBlock≠some k→V4.heap[k]? = V3.heap[k]?:=fun k hk hne=>hg7.block k hk (fun e=>hne e.symm)
    have hlo:∀k,k<w.heap.size+1+1→v.ownBlock≠some k:=fun k hk e=>by have:=L2.out k e;have:=Z2.out;omega
    have HN:=hideK (show CMB w ad ds cd n V4 from ⟨H.out.bl.grown hg7 H.out.bl.size (fun k e=>by have:=L2.out k e;have:=Z2.out;omega),nL H.out.lt hg7.size,(World.cell?_of_block (a:=⟨w.heap.size,0,none⟩) (hb7 w.heap.size (by have:=H.out.lt;omega) (hlo _ (by omega)))).trans H.out.p0,(World.cell?_of_block (a:=⟨w.heap.size+1,0,none⟩) (hb7 (w.heap.size+1) H.out.lt (hlo _ (by omega)))).trans H.out.n0⟩)
    have hSn:(fun W:World=>CMB w ad ds cd n W) V4:=HN.out
    replace K2:=hideK (fun t ht=>(K2.out t ht).keep ((Below.refl w.heap.size V3).grown hg7 H.out.bl.size (fun k e=>by have:=L2.out k e;have:=Z2.out;omega)))
    have hb9:V4.heap[b9]? = V3.heap[b9]?:=hb7 b9 B9.out.2.2 (fun e=>N9.out b9 e rfl)
    have N9':=hideK (show ∀g,(Value.slice va' (ds.length+1) vc').ownBlock=some g→g≠b9 from fun g hg=>by rcases hv7 with q|q;rw [q]at hg;exact N9.out g hg;rw [q]at hg;injection hg with hg;have:=B9.out.2.2;omega)
    clear N9;have N9:=N9';clear N9';replace B9:=hideK (And.intro ((World.cell?_of_block (a:=⟨b9,0,none⟩) hb9).trans B9.out.1) (And.intro ((World.frozen?_of_block (a:=⟨b9,0,none⟩) hb9).trans B9.out.2.1) (nL B9.out.2.2 hg7.size)));clear hb9;refine hK.out _ _ hSn ?_;clear H;have H:=HN;clear HN;clear hown7 hg7 hv7 hb7 hlo O2 R6 L2;clear hS hK K hSn;intro hS;try simp only [Act.put,sA,sB,sC]
    refine tkZ 8 (.agg #[.slice va' (ds.length+1) vc']) hS ?_;obtain ⟨aq,cq,hvv,hF⟩:=more_fin H.out O7.out T2.out K2.out B9.out N9.out L9.out HNS.out;injection hvv with hv1 hv2 hv3
    subst hv1 hv3;have HF:=hideK hF;have c9:=B9.out.1;have f9:=B9.out.2.1;clear hF;refine take_oneHL 10 (aC (fun K hK=>?_) aN) (by kernel_rfl)
    go_simp
    refine hK.out _ _ HF.out.1 ?_;clear hS hK K c9 f9;intro hS;try simp only [Act.put,sA,sB,sC]
    refine wpAnyH_done (by kernel_rfl) ?_ _
    clear hS;go_wp2_with fail
    go_meet
    exact ⟨b9,_,_,rfl,HF.out⟩
  ·have hbs:Below V0.heap.size V0 (V0.alloc (.cells #[.slice none 0 0] 24)):=(bR _ _).alloc (nR _) _
   have B9:=hideK (show (V0.alloc (.cells #[.slice none 0 0] 24)).cell? ⟨V0.heap.size,0,none⟩=some (.slice none 0 0)∧(V0.alloc (.cells #[.slice none 0 0] 24)).frozen? ⟨V0.heap.size,0,none⟩=false∧V0.heap.size<(V0.alloc (.cells #[.slice none 0 0] 24)).heap.size from ⟨by go_cell,by go_simp,by simp⟩)
   have L9:=hideK (show w.heap.size+1<V0.heap.size from H.out.lt)
   have HN:=hideK (H.out.keep hbs);have hSn:(fun W:World=>CMB w ad ds cd n W) (V0.alloc (.cells #[.slice none 0 0] 24)):=HN.out
   go_simp
   refine hK.out _ _ hSn ?_;clear H;have H:=HN;clear HN;clear hbs;clear hS hK K hSn;intro hS;try simp only [Act.put,sA,sB,sC]
   generalize V0.heap.size=b9 at B9 L9 ⊢;generalize World.alloc V0 _=V1 at *;refine wpAnyH_ready (rs:=[2,6]) (by kernel_rfl) (by simp) (aC (fun K hK=>?_) (aC (fun K hK=>?_) aN))
   ·go_simp
    refine (CC.out V1 H.out.bl).mono ?_;rintro e V2 ⟨⟨v,ts,rfl,hts,hok,hown⟩,hbs⟩;have O2:=hideK hown;have T2:=hideK hts;have K2:=hideK (fun t ht=>(hok t ht).keep (hbs.mono H.out.bl.size))
    have L2:=hideK (show ∀g,v.ownBlock=some g→V1.heap.size≤g from fun g hg=>by rcases own_cells hown with ⟨q,_,_⟩|⟨g',cap,q,q1,_,_⟩;rw [q]at hg;cases hg;rw [q]at hg;injection hg with hg;simp only at hg;omega)
    have Z2:=hideK (show w.heap.size+1<V1.heap.size from H.out.lt)
    have BS:=hideK (show V1.heap.size≤V2.heap.size from hbs.size)
    have N9:=hideK (show ∀g,v.ownBlock=some g→g≠b9 from fun g hg=>by have:=L2.out g hg;have:=B9.out.2.2;omega)
    have HN:=hideK (H.out.keep hbs);have hSn:(fun W:World=>CMB w ad ds cd n W) V2:=HN.out
    replace B9:=hideK (And.intro (((hbs).cell (p:=⟨b9,0,none⟩) B9.out.2.2).trans B9.out.1) (And.intro (((hbs).frozen (p:=⟨b9,0,none⟩) B9.out.2.2).trans B9.out.2.1) (nL B9.out.2.2 (hbs).size)));refine hK.out _ _ hSn ?_;clear H;have H:=HN;clear HN;clear hbs hown hts hok;clear hS hK K hSn;intro hS;try simp only [Act.put,sA,sB,sC]
    refine take_oneHL 6 (aC (fun K hK=>?_) aN) (by kernel_rfl)
    have hbs:Below V2.heap.size V2 (V2.alloc (.cells (nK n) 42)):=(bR _ _).alloc (nR _) _;have R6:=hideK (show (∀j u,(dfCs (moreD n) da0)[j]? = some u→(V2.alloc (.cells (nK n) 42)).cell? ⟨V2.heap.size,j,none⟩=some u)∧V2.heap.size<(V2.alloc (.cells (nK n) 42)).heap.size from ⟨fun j u hj=>by rw [World.cell?_alloc_at _ _ _ _ rfl,← hj,← List.getElem?_toArray];rfl,by simp⟩)
    have HN:=hideK (H.out.keep hbs);have hSn:(fun W:World=>CMB w ad ds cd n W) (V2.alloc (.cells (nK n) 42)):=HN.out
    replace BS:=hideK (Nat.le_trans BS.out (hbs).size);replace O2:=hideK (own_below O2.out hbs);replace K2:=hideK (fun t ht=>(K2.out t ht).keep (hbs.mono H.out.bl.size))
    replace B9:=hideK (And.intro (((hbs).cell (p:=⟨b9,0,none⟩) B9.out.2.2).trans B9.out.1) (And.intro (((hbs).frozen (p:=⟨b9,0,none⟩) B9.out.2.2).trans B9.out.2.1) (nL B9.out.2.2 (hbs).size)));go_simp
    refine hK.out _ _ hSn ?_;clear H;have H:=HN;clear HN;clear hbs;clear hS hK K hSn;intro hS;try simp only [Act.put,sA,sB,sC]
    generalize V2.heap.size=g6 at R6 ⊢;generalize World.alloc V2 _=V3 at *;refine take_oneHL 7 (aC (fun K hK=>?_) aN) (by kernel_rfl)
    refine step_append_df V3 rfl (.tmp 35) (.tmp 39) 22 rfl _ 42 i0 _ 24 424 Tryz.underlying22 hi hz0 hz1 hz2 rfl (by decide) v ds.length (dCs ts) rfl O2.out ⟨g6,0,none⟩ 1 1 (dfCs (moreD n) da0) rfl rfl (fun j u hj=>by rw [addj0];exact R6.out.1 j u hj) (fun u hu=>dCs_one [(moreD n,da0)] u (by unfold dCs;simpa using hu)) (by have:=HBG.out;unfold maxLen;omega) (by have:=HBG.out;omega) BS.out (fun v' V4 hown7 hg7 hv7=>?_)
    obtain ⟨va',vc',rfl⟩:=sliceH_own hown7;have O7:=hideK hown7;have hb7:∀k,k<V3.heap.size→v.ownBlock≠some k→V4.heap[k]? = V3.heap[k]?:=fun k hk hne=>hg7.block k hk (fun e=>hne e.symm)
    have hlo:∀k,k<w.heap.size+1+1→v.ownBlock≠some k:=fun k hk e=>by have:=L2.out k e;have:=Z2.out;omega
    have HN:=hideK (show CMB w ad ds cd n V4 from ⟨H.out.bl.grown hg7 H.out.bl.size (fun k e=>by have:=L2.out k e;have:=Z2.out;omega),nL H.out.lt hg7.size,(World.cell?_of_block (a:=⟨w.heap.size,0,none⟩) (hb7 w.heap.size (by have:=H.out.lt;omega) (hlo _ (by omega)))).trans H.out.p0,(World.cell?_of_block (a:=⟨w.heap.size+1,0,none⟩) (hb7 (w.heap.size+1) H.out.lt (hlo _ (by omega)))).trans H.out.n0⟩)
    have hSn:(fun W:World=>CMB w ad ds cd n W) V4:=HN.out
    replace K2:=hideK (fun t ht=>(K2.out t ht).keep ((Below.refl w.heap.size V3).grown hg7 H.out.bl.size (fun k e=>by have:=L2.out k e;have:=Z2.out;omega)))
    have hb9:V4.heap[b9]? = V3.heap[b9]?:=hb7 b9 B9.out.2.2 (fun e=>N9.out b9 e rfl)
    have N9':=hideK (show ∀g,(Value.slice va' (ds.length+1) vc').ownBlock=some g→g≠b9 from fun g hg=>by rcases hv7 with q|q;rw [q]at hg;exact N9.out g hg;rw [q]at hg;injection hg with hg;have:=B9.out.2.2;omega)
    clear N9;have N9:=N9';clear N9';replace B9:=hideK (And.intro ((World.cell?_of_block (a:=⟨b9,0,none⟩) hb9).trans B9.out.1) (And.intro ((World.frozen?_of_block (a:=⟨b9,0,none⟩) hb9).trans B9.out.2.1) (nL B9.out.2.2 hg7.size)));clear hb9;refine hK.out _ _ hSn ?_;clear H;have H:=HN;clear HN;clear hown7 hg7 hv7 hb7 hlo O2 R6 L2;clear hS hK K hSn;intro hS;try simp only [Act.put,sA,sB,sC]
    refine tkZ 8 (.agg #[.slice va' (ds.length+1) vc']) hS ?_;obtain ⟨aq,cq,hvv,hF⟩:=more_fin H.out O7.out T2.out K2.out B9.out N9.out L9.out HNS.out;injection hvv with hv1 hv2 hv3
    subst hv1 hv3;have HF:=hideK hF;have c9:=B9.out.1;have f9:=B9.out.2.1;clear hF;refine take_oneHL 10 (aC (fun K hK=>?_) aN) (by kernel_rfl)
    go_simp
    refine hK.out _ _ HF.out.1 ?_;clear hS hK K c9 f9;intro hS;try simp only [Act.put,sA,sB,sC]
    refine wpAnyH_done (by kernel_rfl) ?_ _
    clear hS;go_wp2_with fail
    go_meet
    exact ⟨b9,_,_,rfl,HF.out⟩
   ·have hbs:Below V1.heap.size V1 (V1.alloc (.cells (nK n) 42)):=(bR _ _).alloc (nR _) _
    have R6:=hideK (show (∀j u,(dfCs (moreD n) da0)[j]? = some u→(V1.alloc (.cells (nK n) 42)).cell? ⟨V1.heap.size,j,none⟩=some u)∧V1.heap.size<(V1.alloc (.cells (nK n) 42)).heap.size from ⟨fun j u hj=>by rw [World.cell?_alloc_at _ _ _ _ rfl,← hj,← List.getElem?_toArray];rfl,by simp⟩)
    have HN:=hideK (H.out.keep hbs);have hSn:(fun W:World=>CMB w ad ds cd n W) (V1.alloc (.cells (nK n) 42)):=HN.out
    replace B9:=hideK (And.intro (((hbs).cell (p:=⟨b9,0,none⟩) B9.out.2.2).trans B9.out.1) (And.intro (((hbs).frozen (p:=⟨b9,0,none⟩) B9.out.2.2).trans B9.out.2.1) (nL B9.out.2.2 (hbs).size)));go_simp
    refine hK.out _ _ hSn ?_;clear H;have H:=HN;clear HN;clear hbs;clear hS hK K hSn;intro hS;try simp only [Act.put,sA,sB,sC]
    generalize V1.heap.size=g6 at R6 ⊢;generalize World.alloc V1 _=V2 at *;refine take_oneHL 2 (aC (fun K hK=>?_) aN) (by kernel_rfl)
    go_simp
    refine (CC.out V2 H.out.bl).mono ?_;rintro e V3 ⟨⟨v,ts,rfl,hts,hok,hown⟩,hbs⟩;have O2:=hideK hown;have T2:=hideK hts;have K2:=hideK (fun t ht=>(hok t ht).keep (hbs.mono H.out.bl.size))
    have L2:=hideK (show ∀g,v.ownBlock=some g→V2.heap.size≤g from fun g hg=>by rcases own_cells hown with ⟨q,_,_⟩|⟨g',cap,q,q1,_,_⟩;rw [q]at hg;cases hg;rw [q]at hg;injection hg with hg;simp only at hg;omega)
    have Z2:=hideK (show w.heap.size+1<V2.heap.size from H.out.lt)
    have BS:=hideK (show V2.heap.size≤V3.heap.size from hbs.size)
    have N9:=hideK (show ∀g,v.ownBlock=some g→g≠b9 from fun g hg=>by have:=L2.out g hg;have:=B9.out.2.2;omega)
    have HN:=hideK (H.out.keep hbs);have hSn:(fun W:World=>CMB w ad ds cd n W) V3:=HN.out
    replace R6:=hideK (And.intro (fun j u hj=>((hbs).cell (p:=⟨g6,j,none⟩) R6.out.2).trans (R6.out.1 j u hj)) (nL R6.out.2 (hbs).size))
    replace B9:=hideK (And.intro (((hbs).cell (p:=⟨b9,0,none⟩) B9.out.2.2).trans B9.out.1) (And.intro (((hbs).frozen (p:=⟨b9,0,none⟩) B9.out.2.2).trans B9.out.2.1) (nL B9.out.2.2 (hbs).size)));refine hK.out _ _ hSn ?_;clear H;have H:=HN;clear HN;clear hbs hown hts hok;clear hS hK K hSn;intro hS;try simp only [Act.put,sA,sB,sC]
    refine take_oneHL 7 (aC (fun K hK=>?_) aN) (by kernel_rfl)
    refine step_append_df V3 rfl (.tmp 35) (.tmp 39) 22 rfl _ 42 i0 _ 24 424 Tryz.underlying22 hi hz0 hz1 hz2 rfl (by decide) v ds.length (dCs ts) rfl O2.out ⟨g6,0,none⟩ 1 1 (dfCs (moreD n) da0) rfl rfl (fun j u hj=>by rw [addj0];exact R6.out.1 j u hj) (fun u hu=>dCs_one [(moreD n,da0)] u (by unfold dCs;simpa using hu)) (by have:=HBG.out;unfold maxLen;omega) (by have:=HBG.out;omega) BS.out (fun v' V4 hown7 hg7 hv7=>?_)
    obtain ⟨va',vc',rfl⟩:=sliceH_own hown7;have O7:=hideK hown7;have hb7:∀k,k<V3.heap.size→v.ownBlock≠some k→V4.heap[k]? = V3.heap[k]?:=fun k hk hne=>hg7.block k hk (fun e=>hne e.symm)
    have hlo:∀k,k<w.heap.size+1+1→v.ownBlock≠some k:=fun k hk e=>by have:=L2.out k e;have:=Z2.out;omega
    have HN:=hideK (show CMB w ad ds cd n V4 from ⟨H.out.bl.grown hg7 H.out.bl.size (fun k e=>by have:=L2.out k e;have:=Z2.out;omega),nL H.out.lt hg7.size,(World.cell?_of_block (a:=⟨w.heap.size,0,none⟩) (hb7 w.heap.size (by have:=H.out.lt;omega) (hlo _ (by omega)))).trans H.out.p0,(World.cell?_of_block (a:=⟨w.heap.size+1,0,none⟩) (hb7 (w.heap.size+1) H.out.lt (hlo _ (by omega)))).trans H.out.n0⟩)
    have hSn:(fun W:World=>CMB w ad ds cd n W) V4:=HN.out
    replace K2:=hideK (fun t ht=>(K2.out t ht).keep ((Below.refl w.heap.size V3).grown hg7 H.out.bl.size (fun k e=>by have:=L2.out k e;have:=Z2.out;omega)))
    have hb9:V4.heap[b9]? = V3.heap[b9]?:=hb7 b9 B9.out.2.2 (fun e=>N9.out b9 e rfl)
    have N9':=hideK (show ∀g,(Value.slice va' (ds.length+1) vc').ownBlock=some g→g≠b9 from fun g hg=>by rcases hv7 with q|q;rw [q]at hg;exact N9.out g hg;rw [q]at hg;injection hg with hg;have:=B9.out.2.2;omega)
    clear N9;have N9:=N9';clear N9';replace B9:=hideK (And.intro ((World.cell?_of_block (a:=⟨b9,0,none⟩) hb9).trans B9.out.1) (And.intro ((World.frozen?_of_block (a:=⟨b9,0,none⟩) hb9).trans B9.out.2.1) (nL B9.out.2.2 hg7.size)));clear hb9;refine hK.out _ _ hSn ?_;clear H;have H:=HN;clear HN;clear hown7 hg7 hv7 hb7 hlo O2 R6 L2;clear hS hK K hSn;intro hS;try simp only [Act.put,sA,sB,sC]
    refine tkZ 8 (.agg #[.slice va' (ds.length+1) vc']) hS ?_;obtain ⟨aq,cq,hvv,hF⟩:=more_fin H.out O7.out T2.out K2.out B9.out N9.out L9.out HNS.out;injection hvv with hv1 hv2 hv3
    subst hv1 hv3;have HF:=hideK hF;have c9:=B9.out.1;have f9:=B9.out.2.1;clear hF;refine take_oneHL 10 (aC (fun K hK=>?_) aN) (by kernel_rfl)
    go_simp
    refine hK.out _ _ HF.out.1 ?_;clear hS hK K c9 f9;intro hS;try simp only [Act.put,sA,sB,sC]
    refine wpAnyH_done (by kernel_rfl) ?_ _
    clear hS;go_wp2_with fail
    go_meet
    exact ⟨b9,_,_,rfl,HF.out⟩
 case rest =>
  obtain ⟨b9,aq,cq,rfl,hcm,hb9,hc9,hq1,hq2,hdq⟩:=hcut;clear H c CC HR;have hlen:(ds++[moreD n]).length=ds.length+1:=by simp
  have HDQ:=hideK (fun (W:World) (hW:Below wc.heap.size wc W)=>(hdq.keep hW).mono hW.size)
  have c:=HK0.out (ds++[moreD n]) aq cq wc hcm.bl (by rw [hlen];exact hq1) hq2 hdq
  have P1:=hideK (ck_shape gr og (ds++[moreD n]));have P2:=hideK (more_shape gr og ds n);have P3:=hideK (more_plain gr og ds n);have P4:=hideK (fun h=>(shp_def (ds:=ds) h).2.1)
  have HSQ:=hideK (fun (W:World) (hW:Below wc.heap.size wc W) (hw:Below w.heap.size w W)=>HSH.out (ds++[moreD n]) aq cq W hw (by rw [hlen];omega) (HDQ.out W hW))
  have HSP:=hideK (fun (W:World) (hw:Below w.heap.size w W)=>HSH.out ds ad cd W hw (by have:=HLC.out;omega) ((HD.out W hw).mono hw.size))
  rw [hlen]at c HSQ;have hq9:CMB w ad ds cd n wc∧b9<wc.heap.size∧wc.cell? ⟨b9,0,none⟩=some (.slice aq (ds.length+1) cq)∧Below wc.heap.size wc wc:=⟨hcm,hb9,hc9,Below.refl _ _⟩;have HKQ:=hideK (show ∀W W':World,(CMB w ad ds cd n W∧b9<W.heap.size∧W.cell? ⟨b9,0,none⟩=some (.slice aq (ds.length+1) cq)∧Below wc.heap.size wc W)→Below W.heap.size W W'→(CMB w ad ds cd n W'∧b9<W'.heap.size∧W'.cell? ⟨b9,0,none⟩=some (.slice aq (ds.length+1) cq)∧Below wc.heap.size wc W') from fun W W' h hb=>⟨h.1.keep hb,nL h.2.1 hb.size,(hb.cell (p:=⟨b9,0,none⟩) h.2.1).trans h.2.2.1,h.2.2.2.trans (hb.mono h.2.2.2.size)⟩)
  have Q:=hideK hq9;clear hlen hcm hb9 hq1 hq2 hdq hq9 HK0 HSH HDQ;generalize ckP gr og (ds++[moreD n])=F at *;generalize ckP gr og ds=E at *;generalize shpP (ds++[moreD n])=s2 at *;generalize shpP ds=s1 at *;go_wp2_with fail
  refine c.mono ?_;rintro e w5 ⟨rfl,hb5⟩;replace Q:=hideK (HKQ.out _ _ Q.out hb5);clear c hb5 hc9;have c:=HSQ.out w5 Q.out.2.2.2 Q.out.1.bl;have hc9:=Q.out.2.2.1;go_wp2_with fail
  refine c.mono ?_;rintro e w6 ⟨rfl,hb6⟩;replace Q:=hideK (HKQ.out _ _ Q.out hb6);clear c hb6 hc9 HSQ;by_cases hs2:s2=0
  case neg =>
   have hs2b:(s2 != 0)=true:=by simpa using hs2
   have hf:(F.1 != 0)=true:=by simpa using P1.out hs2
   clear hs2;go_wp2_with fail
   go_ret
   exact ⟨rfl,Q.out.1.bl⟩
  case pos =>
  have hs2b:(s2 != 0)=false:=by simpa using hs2
  have c:=HSP.out w6 Q.out.1.bl;have p0:=Q.out.1.p0;go_wp2_with fail
  refine c.mono ?_;rintro e w7 ⟨rfl,hb7⟩;replace Q:=hideK (HKQ.out _ _ Q.out hb7);clear c hb7 p0 HSP hs2b;by_cases hs1:s1=0
  case neg =>
   have hs1b:(s1 != 0)=true:=by simpa using hs1
   have he:(E.1==1)=true:=by simpa using P2.out hs1 hs2
   clear hs2 hs1;by_cases hf0:F.1=0
   ·have hf:(F.1 != 0)=false:=by simpa using hf0
    clear hf0;go_wp2_with fail
    go_ret
    exact ⟨rfl,Q.out.1.bl⟩
   ·have hf:(F.1 != 0)=true:=by simpa using hf0
    clear hf0;go_wp2_with fail
    go_ret
    exact ⟨rfl,Q.out.1.bl⟩
  case pos =>
  have hs1b:(s1 != 0)=false:=by simpa using hs1
  have hl10:=P4.out hs1;have hpl:=P3.out hs1 hs2;have hcl:∀V,Below w7.heap.size w7 V→V.cell? ⟨w.heap.size+1,0,none⟩=some (.string n):=fun V hV=>(Q.out.1.keep hV).n0
  have cD:=hasD_any ds ad cd w.heap.size 15 (.pointer (some ⟨w.heap.size+1,0,none⟩)) (fun d=>decide (d.name=n)) w7 (HD.out w7 Q.out.1.bl) Q.out.1.bl.size (by omega) (fun args W=>by kernel_rfl) (fun x a V _ hV _=>more1_any x a (w.heap.size+1) n V (hcl V hV))
  have p0:=Q.out.1.p0;clear hs1 hs2 P1 P2 P3 P4 hcl;generalize (ds.any fun d=>decide (d.name=n))=dup at *
  have HPL:=hideK hpl;have HL10:=hideK hl10;clear hpl hl10;go_wp2_with fail
  refine cD.mono ?_;rintro e w8 ⟨rfl,hb8⟩;replace Q:=hideK (HKQ.out _ _ Q.out hb8);clear cD hb8 p0 hs1b;cases dup with
  | true =>
   have hf:(F.1 != 0)=true:=by simpa using HPL.out.1 rfl
   go_wp2_with fail
   go_ret
   exact ⟨rfl,Q.out.1.bl⟩
  | false =>
   by_cases hfe:F.1=E.1
   case neg =>
    have hfb:(F.1==E.1)=false:=by simpa using hfe
    obtain ⟨h4,hcl⟩:=(HPL.out.2 rfl).resolve_left (fun q=>hfe (by rw [q]))
    have h4b:(E.1==4)=true:=by simpa using h4
    have hcell:∀V,Below w8.heap.size w8 V→V.cell? ⟨w.heap.size+1,0,none⟩=some (.string n):=fun V hV=>(Q.out.1.keep hV).n0
    have cD:=hasD_any ds ad cd w.heap.size 16 (.pointer (some ⟨w.heap.size+1,0,none⟩)) (fun d=>clP n d.body) w8 (HD.out w8 Q.out.1.bl) Q.out.1.bl.size (by have:=HL10.out;omega) (fun args W=>by kernel_rfl) (fun x a V _ hV hok=>more2_any x a (w.heap.size+1) n V hok (hcell V hV))
    rw [hcl]at cD;have p0:=Q.out.1.p0;clear hfe h4 hcl hcell;go_wp2_with fail
    refine cD.mono ?_;rintro e w9 ⟨rfl,hb9⟩;replace Q:=hideK (HKQ.out _ _ Q.out hb9);clear cD hb9;go_wp2_with fail
    go_ret
    exact ⟨rfl,Q.out.1.bl⟩
   case pos =>
   have hfb:(F.1==E.1)=true:=by simpa using hfe
   by_cases hkn:(E.2:Int)=(F.2:Int)
   case pos =>
    have hkb:((E.2:Int)==(F.2:Int))=true:=by simpa using hkn
    clear hfe hkn;go_wp2_with fail
    go_ret
    exact ⟨rfl,Q.out.1.bl⟩
   case neg =>
    have hkb:((E.2:Int)==(F.2:Int))=false:=by simpa using hkn
    obtain ⟨h4,hcl⟩:=(HPL.out.2 rfl).resolve_left (fun q=>hkn (by rw [q]))
    have h4b:(E.1==4)=true:=by simpa using h4
    have hcell:∀V,Below w8.heap.size w8 V→V.cell? ⟨w.heap.size+1,0,none⟩=some (.string n):=fun V hV=>(Q.out.1.keep hV).n0
    have cD:=hasD_any ds ad cd w.heap.size 16 (.pointer (some ⟨w.heap.size+1,0,none⟩)) (fun d=>clP n d.body) w8 (HD.out w8 Q.out.1.bl) Q.out.1.bl.size (by have:=HL10.out;omega) (fun args W=>by kernel_rfl) (fun x a V _ hV hok=>more2_any x a (w.heap.size+1) n V hok (hcell V hV))
    rw [hcl]at cD;have p0:=Q.out.1.p0;clear hfe hkn h4 hcl hcell;go_wp2_with fail
    refine cD.mono ?_;rintro e w9 ⟨rfl,hb9⟩;replace Q:=hideK (HKQ.out _ _ Q.out hb9);clear cD hb9;go_wp2_with fail
    go_ret
    exact ⟨rfl,Q.out.1.bl⟩
end Go.Proofs.YtmamabhhgfcjcaaGreatDoor
