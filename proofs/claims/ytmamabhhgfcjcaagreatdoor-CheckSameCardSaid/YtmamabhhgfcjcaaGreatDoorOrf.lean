/-
  The law of CheckSame.
-/
import Derived.Test.YtmamabhhgfcjcaaGreatDoorZf
set_option maxRecDepth 100000
set_option maxHeartbeats 16000000
namespace Go.Proofs.YtmamabhhgfcjcaaGreatDoor
open Go.RowKit Go.Shelf
def POut(B0 V:Nat)(W:World)(u:Value)(b:Nat):Prop:=b<B0∨(V≤b∧b<W.heap.size∧u.ownBlock≠some b)
theorem TyAt.blk{W W':World}{b o:Nat}{t:Ty}{al:OAd}{cl:Nat}{ak:OAd}{ck:Nat}(h:TyAt W b o t al cl ak ck)(hb:W'.heap[b]? = W.heap[b]?):TyAt W' b o t al cl ak ck:=by
 obtain ⟨h0,h1,h2,h3,h4⟩:=h;have c:∀j,W'.cell? ⟨b,j,none⟩=W.cell? ⟨b,j,none⟩:=fun j=>World.cell?_of_block (a:=⟨b,j,none⟩) hb
 exact ⟨(c _).trans h0,(c _).trans h1,(c _).trans h2,(c _).trans h3,(c _).trans h4⟩
theorem shpL_size(ks:List Pr):∀a:Int × Nat,(∀k∈ks,∀c,c≤200→(shpR k c).1=0→(shpR k c).2=c+sizeP k)→a.2≤200→(shpL ks a).1=0→(shpL ks a).2=a.2+(ks.map sizeP).sum:=by
 induction ks with
 | nil=>intro a _ _ _;rfl
 | cons x ks ih =>
  intro a hk ha h;rw [shpL_cons]at h ⊢;by_cases h0:a.1≠0
  ·rw [if_pos h0]at h
   rw [shpL_bad _ _ h0]at h;exact absurd h h0
  ·rw [if_neg h0]at h ⊢
   have hx:(shpR x a.2).1=0:=by
    apply Classical.byContradiction
    intro q;rw [shpL_bad _ _ q]at h;exact q h
   rw [ih _ (fun k hm=>hk k (.tail _ hm)) (shpR_cnt x a.2 ha hx).2 h,hk x (.head _) a.2 ha hx,List.map_cons,List.sum_cons]
   omega
theorem shpR_size:∀p:Pr,∀c,c≤200→(shpR p c).1=0→(shpR p c).2=c+sizeP p:=by
 apply prInd
 intro p ih c hc h;rw [sizeP_eq];rw [shpR_eq]at h ⊢;by_cases h1:200<c+1
 ·rw [if_pos h1]at h;exact absurd h (by simp)
 rw [if_neg h1]at h ⊢;by_cases h2:partP p=false
 ·rw [if_pos h2]at h;exact absurd h (by simp)
 rw [if_neg h2]at h ⊢;by_cases h3:insP p≠0
 ·rw [if_pos h3]at h;exact absurd h h3
 rw [if_neg h3]at h ⊢;rw [shpL_size p.kids (0,c+1) ih (by show c+1≤200;omega) h]
 show c+1+_=_
 omega
theorem shp_size{ds:List Df}(h:shpP ds=0):∀d∈ds,sizeP d.body≤200∧d.tys.length≤6:=fun d hd=>by
 have hr:=(shp_def h).2.2 d hd;obtain ⟨c,hc,hb⟩:=hr.body;have h1:=shpR_size d.body c hc hb;have h2:=(shpR_cnt d.body c hc hb).2;have h3:=hr.lens;omega
theorem same_law{W0:World}(h0:Tabs W0)(gr og:Ty→List Nd)(hgr:∀t g,chkTy t=0→OFG t g→g=gr t)(hog:∀t g,chkTy t=0→OTG t g→g=og t)(ds:List Df)(ad:OAd)(cd:Nat)(w:World)(hl:ds.length≤cd)(hcd:cd≤9223372036854775807)(hd:DfsAt w w.heap.size ds ad)(hT:AT W0 w):
  Calls Tryz.prog 3 #[.agg #[.slice ad ds.length cd]] w fun e w'=>e = .returned (.bool true)∧Below w.heap.size w w':=by
 obtain ⟨i0,hi,hz0,hz1,hz2⟩:=info_parts infoDf;obtain ⟨i1,hj,hy0,hy1,hy2⟩:=info_parts infoTy;have H:=hideK (CKB.new w ad ds cd);have HK0:=hideK (fun (ds':List Df) (ad':OAd) (cd':Nat) (W:World) (hW:Below w.heap.size w W) (h1:ds'.length≤cd') (h2:cd'≤9223372036854775807) (h3:DfsAt W W.heap.size ds' ad')=>checkP_any h0 gr og hgr hog ds' ad' cd' W h1 h2 h3 (at_k _ _ hT hW))
 have HSH:=hideK (fun (W:World) (hW:Below w.heap.size w W)=>shape_any h0 ds ad cd W.heap.size W (by omega) ((hd.keep hW).mono hW.size) (nR _) (at_k _ _ hT hW))
 have HD:=hideK hd;have HLC:=hideK (And.intro hl hcd);have HP:=hideK (ckP_ch (gr:=gr) (og:=og) (f:=asT gr) (as_gr hgr) (as_og hgr hog) (as_chk hgr) ds);have HPS:=hideK (show shpP ds≠0→(ckP gr og ds).1=shpP ds from fun h=>by unfold ckP;rw [if_pos h])
 have HGR:=hideK hgr;have c:=HK0.out [xD] (some ⟨(w.alloc (.cells #[.slice ad ds.length cd] 24)).heap.size+1+1,0,none⟩) 1 (xW (w.alloc (.cells #[.slice ad ds.length cd] 24))) (((bR _ _).alloc (nR _) _).trans ((xW_bl _).mono (by simp))) (nR _) (by decide) (xW_at _)
 rw [xD_ck]at c;replace H:=hideK (H.out.keep (xW_bl _));unfold xW at c H;simp only [dfBx,xD,pS,pa0,List.length_nil,List.length_cons]at c H;rw [show (w.alloc (.cells #[.slice ad ds.length cd] 24)).heap.size=w.heap.size+1 from by simp]at c H
 clear hl hcd hd hT hgr hog;go_enter Tryz.func3,Tryz.ntmps3
 go_wp2_with fail
 refine c.mono ?_;rintro e w1 ⟨rfl,hb1⟩;replace H:=hideK (H.out.keep hb1);have c:=HK0.out ds ad cd w1 H.out.bl HLC.out.1 HLC.out.2 ((HD.out.keep H.out.bl).mono H.out.bl.size);have p0:=H.out.c0;clear hb1;go_wp2_with fail
 refine c.mono ?_;rintro e w2 ⟨rfl,hb2⟩;replace H:=hideK (H.out.keep hb2);have c:=HSH.out w2 H.out.bl;clear hb2 p0;have p0:=H.out.c0;go_wp2_with fail
 refine c.mono ?_;rintro e w3 ⟨rfl,hb3⟩;replace H:=hideK (H.out.keep hb3);clear hb3 p0 c;by_cases hz:shpP ds=0
 case neg =>
  have hzb:(shpP ds != 0)=true:=by simpa using hz
  have HE:=hideK (HPS.out hz);have HZ:=hideK hz;clear hz HP HPS;generalize ckP gr og ds=E at *;generalize shpP ds=z at *;go_wp2_with fail
  go_ret
  exact ⟨by have:=HZ.out;have:=HE.out;simp;omega,H.out.bl⟩
 case pos =>
 have hzb:(shpP ds != 0)=false:=by simpa using hz
 have HE:=hideK (HP.out hz);have HZ:=hideK hz;obtain ⟨hne,h10,_⟩:=shp_def hz;obtain ⟨pb,po,rfl,hpB,hcs⟩:=HD.out.resolve_left hne;have HCS:=hideK (And.intro hpB hcs);have hlz:(ds.length:Int)≤10:=by omega
 have HCNT:=hideK (shp_size hz);clear hz HP HPS HSH h10 hne hpB hcs HD;generalize ckP gr og ds=E at *;generalize shpP ds=z at *;have HV:=hideK (show CKB w (some ⟨pb,po,none⟩) ds cd (w3.alloc (.cells #[.slice none 0 0] 24))∧QB (w3.alloc (.cells #[.slice none 0 0] 24)) w3.heap.size (.slice none 0 0)∧(w3.alloc (.cells #[.slice none 0 0] 24)).heap.size=w3.heap.size+1∧w.heap.size<w3.heap.size from ⟨H.out.keep ((bR _ _).alloc (nR _) _),⟨by go_cell,by go_simp,by simp⟩,by simp,H.out.lt⟩)
 clear H;go_upto_region 9 with fail
 generalize hV:World.alloc w3 _=V at *;clear hV;have p0:=HV.out.1.c0;go_wp2_with fail
 go_loopw [45] (fun i wq=>∃(k:Nat) (ts:List (Df × DfA)) (u:Value),k≤ds.length∧i = .int .i64 (k:Int)∧CKB w (some ⟨pb,po,none⟩) ds cd wq∧QB wq w3.heap.size u∧V.heap.size≤wq.heap.size∧wq.ownsRow V.heap.size 42 24 u k (dCs ts)∧ts.map (·.1)=(ds.take k).map (chD (asT gr))∧∀t∈ts,DfQ w w.heap.size wq (POut w.heap.size V.heap.size wq u) t.1 t.2) (fun i _=>ds.length - (intOf i).toNat)
 case atStart=>exact ⟨0,[],.slice none 0 0,Nat.zero_le _,rfl,HV.out.1,HV.out.2.1,nR _,World.ownsRow_nil _ _ _ _,rfl,fun t ht=>(by cases ht)⟩
 case round =>
  obtain ⟨k,ts,u,hk,rfl,hC,hQ,hVs,hO,hmap,hT⟩:=hrel;obtain ⟨wo,rfl⟩:∃x:World,x=wr:=⟨wr,rfl⟩;have HSV:=hideK HV.out.2.2;clear HV p0;by_cases hltk:k<ds.length
  ·have hltz:(k:Int)<(ds.length:Int):=by omega
   obtain ⟨a',hat0,hok⟩:=HCS.out.2 k hltk;have HAT:=hideK (hat0.keep hC.bl HCS.out.1);have HOK:=hideK hok;have HSZ:=hideK (HCNT.out _ (List.getElem_mem hltk));have HMS:=hideK (show (ds.take (k+1)).map (chD (asT gr))=(ds.take k).map (chD (asT gr))++[chD (asT gr) ds[k]] from by rw [List.take_succ_eq_append_getElem hltk,List.map_append];rfl)
   obtain ⟨dk,hkt⟩:=hok.tys.kt;have HKT:=hideK hkt;have HC:=hideK hC;have HQ:=hideK hQ;have HVS:=hideK hVs;have HO:=hideK hO;have HMP:=hideK hmap;have HT:=hideK hT;have HUL:=hideK (fun b (e:u.ownBlock=some b)=>hO.lt b e)
   have hdl:(ds[k].tys.length:Int)≤6:=by have:=HSZ.out.2;omega
   generalize ds[k]=d at *;clear hat0 hok hkt hC hQ hVs hO hmap hT;go_upto_region 11 with fail
   refine wp_region_lit ?_;refine wpList_plain rfl (fun K hK=>?_)
   go_simp
   refine hK _ _ ?_;clear hK K;refine wpList_loadW rfl rfl rfl (load_df HAT.out) ?_;simp only [Act.put,sA,sB,sC];refine wpList_allocW rfl rfl (alloc_df _) ?_;simp only [Act.put,sA,sB,sC];refine wpList_storeW rfl rfl rfl rfl (store_df _ d a') ?_;simp only [Act.put];go_upto_region 12 with fail
   refine wp_region_lit ?_;refine wpList_loadW rfl rfl rfl (load_df (dfBx_at wo d a')) ?_;simp only [Act.put,sA,sB,sC];refine wpList_allocW rfl rfl (alloc_df _) ?_;simp only [Act.put,sA,sB,sC];refine wpList_storeW rfl rfl rfl rfl (store_df _ d a') ?_;simp only [Act.put];have hs1:(wo.alloc (dfBx d a')).heap.size=wo.heap.size+1:=by simp
   have hb2:Below (wo.alloc (dfBx d a')).heap.size (wo.alloc (dfBx d a')) ((wo.alloc (dfBx d a')).alloc (dfBx d a')):=(bR _ _).alloc (nR _) _;have HX2:=hideK (show XB ((wo.alloc (dfBx d a')).alloc (dfBx d a')) (wo.heap.size+1) d a'∧DfAt ((wo.alloc (dfBx d a')).alloc (dfBx d a')) wo.heap.size 0 d a'∧Below wo.heap.size wo ((wo.alloc (dfBx d a')).alloc (dfBx d a'))∧((wo.alloc (dfBx d a')).alloc (dfBx d a')).heap.size=wo.heap.size+1+1 from ⟨hs1 ▸ XB.new _ d a',(dfBx_at wo d a').keep hb2 (by simp),((bR _ _).alloc (nR _) _).alloc (by simp) _,by simp⟩)
   rw [hs1];clear hb2 hs1;generalize (wo.alloc _).alloc _=W2 at *;have x4:=HX2.out.1.at0.get (j:=4) (v:=.slice a'.ta d.tys.length a'.tc) (by omega) rfl
   have f4:=HX2.out.1.f 4;obtain ⟨W3,e3,hX3,k3,s3,b3⟩:=HX2.out.1.tys [] none 0;change W2.setCell ⟨wo.heap.size+1,4,none⟩ (.slice none 0 0)=W3 at e3
   have HE3:=hideK e3;have hat3:DfAt W3 wo.heap.size 0 d a':=fun j hj=>(World.cell?_of_block (a:=⟨wo.heap.size,0+j,none⟩) (k3 wo.heap.size (by omega))).trans (HX2.out.2.1 j hj)
   have HX3:=hideK (show XB W3 (wo.heap.size+1) ⟨d.name,d.vals,d.sorts,d.chans,[],d.body⟩ ⟨a'.va,a'.vc,a'.sa,a'.sc,a'.ca,a'.cc,none,0,a'.pa⟩∧Below w.heap.size w W3∧DfAt W3 wo.heap.size 0 d a'∧W3.heap.size=wo.heap.size+1+1∧Below wo.heap.size wo W3 from ⟨hX3,HC.out.bl.trans ((b3 _ _ (by omega) HX2.out.2.2.1).mono HC.out.bl.size),hat3,s3.trans HX2.out.2.2.2,b3 _ _ (by omega) HX2.out.2.2.1⟩)
   have HS3:=hideK HX3.out.2.2.2.1;clear e3 hX3 k3 s3 b3 hat3;go_upto_region 14 with fail
   rw [HE3.out];clear x4 f4 HE3 HX2 HAT;have x4:=HX3.out.2.2.1.get (j:=4) (v:=.slice a'.ta d.tys.length a'.tc) (by omega) rfl
   go_wp2_with fail
   go_loopw [54] (fun i wi=>∃(j:Nat) (us:List TTk) (ta:OAd) (tc:Nat),j≤d.tys.length∧i = .int .i64 (j:Int)∧XB wi (wo.heap.size+1) ⟨d.name,d.vals,d.sorts,d.chans,((d.tys.take j).map (asT gr)),d.body⟩ ⟨a'.va,a'.vc,a'.sa,a'.sc,a'.ca,a'.cc,ta,tc,a'.pa⟩∧Below (wo.heap.size+1) W3 wi∧wi.ownsRow W3.heap.size 37 5 (.slice ta j tc) j (tCs us)∧us.map (fun q=>q.1)=(d.tys.take j).map (asT gr)∧TOK wi (POut w.heap.size W3.heap.size wi (.slice ta j tc)) us) (fun i _=>d.tys.length - (intOf i).toNat)
   case atStart=>exact ⟨0,[],none,0,Nat.zero_le _,rfl,HX3.out.1,Below.refl _ _,World.ownsRow_nil _ _ _ _,rfl,fun q hq=>(by cases hq)⟩
   case round =>
    obtain ⟨j,us,ta,tc,hjl,rfl,hX,hbI,hOI,hmapI,hTI⟩:=hrel;by_cases hltj:j<d.tys.length
    ·have hltjz:(j:Int)<(d.tys.length:Int):=by omega
     obtain ⟨tb,tof,hta,htB,al,cl,ak,ck,htat,htbd,htla,td,htkt⟩:=kt_at HKT.out hltj;have hbw:Below w.heap.size w wr:=HX3.out.2.1.trans (hbI.mono (by have:=HC.out.bl.size;omega))
     have HTW:=hideK (htat.keep hbw htB);have CA:=hideK (fun (W:World) (hb:Below wr.heap.size wr W)=>as_any gr HGR.out td d.tys[j] al cl ak ck w.heap.size W (Nat.le_trans hbw.size hb.size) htbd (NAt.keep (hbw.trans (hb.mono hbw.size)) htla) (KT.keep (hbw.trans (hb.mono hbw.size)) htkt))
     unfold ASPost at CA;simp only [tyVal]at CA;have HLJ:=hideK (show ((d.tys.take j).map (asT gr)).length=j from by rw [List.length_map,List.length_take];omega)
     have HMJ:=hideK (show (d.tys.take (j+1)).map (asT gr)=(d.tys.take j).map (asT gr)++[asT gr d.tys[j]] from by rw [List.take_succ_eq_append_getElem hltj,List.map_append];rfl)
     have HXI:=hideK hX;have HBI:=hideK hbI;have HOI:=hideK hOI;have HMI:=hideK hmapI;have HTI:=hideK hTI;have HUI:=hideK (fun b (e:(Value.slice ta j tc).ownBlock=some b)=>hOI.lt b e)
     generalize d.tys[j]=t at *;rw [hta];obtain ⟨e0,e1,e2,e3,e4⟩:=HTW.out;clear hX hbI hOI hmapI hTI htat htbd htla htkt hbw;have HB13:=hideK (show Below wr.heap.size wr (wr.alloc (.cells #[.int .i64 t.kind,.int .i64 t.so,.string t.name,.slice al t.labels.length cl,.slice ak t.kids.length ck] 37)) from (bR _ _).alloc (nR _) _)
     have HT13:=hideK (show TyAt (wr.alloc (.cells #[.int .i64 t.kind,.int .i64 t.so,.string t.name,.slice al t.labels.length cl,.slice ak t.kids.length ck] 37)) wr.heap.size 0 t al cl ak ck from ⟨by go_cell,by go_cell,by go_cell,by go_cell,by go_cell⟩)
     have HS13:=hideK (show wr.heap.size<(wr.alloc (.cells #[.int .i64 t.kind,.int .i64 t.so,.string t.name,.slice al t.labels.length cl,.slice ak t.kids.length ck] 37)).heap.size from by simp)
     have HE13:=hideK (nR wr.heap.size);go_upto_region 17 with fail
     generalize hW4:World.alloc wr _=W4 at *;clear hW4 e0 e1 e2 e3 e4;generalize hb13:wr.heap.size=b13 at HT13 HS13 HE13 ⊢;have HB4:=hideK (show Below wr.heap.size wr W4.drew from HB13.out.trans ((bR _ _).drew))
     have HS4:=hideK (show (fun W:World=>XB W (wo.heap.size+1) ⟨d.name,d.vals,d.sorts,d.chans,((d.tys.take j).map (asT gr)),d.body⟩ ⟨a'.va,a'.vc,a'.sa,a'.sc,a'.ca,a'.cc,ta,tc,a'.pa⟩∧TyAt W b13 0 t al cl ak ck) W4.drew from ⟨(HXI.out.keep HB13.out).keep ((bR _ _).drew),HT13.out.keep ((bR _ _).drew) HS13.out⟩)
     rw [← hb13]at HE13;have HSD:=hideK (show W4.drew.heap.size=W4.heap.size from rfl)
     refine wp_region_upto (fun W:World=>XB W (wo.heap.size+1) ⟨d.name,d.vals,d.sorts,d.chans,((d.tys.take j).map (asT gr)),d.body⟩ ⟨a'.va,a'.vc,a'.sa,a'.sc,a'.ca,a'.cc,ta,tc,a'.pa⟩∧TyAt W b13 0 t al cl ak ck) 8 (by kernel_rfl) (HS4.out) (fun hS=>?_)
     refine tkU 0 (.pointer (some ⟨wo.heap.size+1,4,none⟩)) hS ?_;simp only [Act.put,sA,sB,sC];refine tkU 1 (.slice ta j tc) hS ?_ (hy:=Or.inl ⟨by rfl,fun W hW=>by have c4:=hW.1.at0.get (j:=4) (v:=.slice ta ((d.tys.take j).map (asT gr)).length tc) (by omega) rfl;rw [HLJ.out]at c4;go_simp⟩)
     simp only [Act.put,sA,sB,sC];refine tkU 2 (.func (.func 8) #[] #[]) hS ?_;simp only [Act.put,sA,sB,sC];refine tkU 3 (.agg #[.int .i64 t.kind,.int .i64 t.so,.string t.name,.slice al t.labels.length cl,.slice ak t.kids.length ck]) hS ?_ (hy:=Or.inl ⟨by rfl,fun W hW=>by obtain ⟨x0,x1,x2,x3,x4⟩:=hW.2;simp only [Nat.zero_add]at x1 x2 x3 x4;go_simp⟩)
     simp only [Act.put,sA,sB,sC];refine onU 4 (fun K hK=>?_)
     go_simp
     refine (CA.out W4.drew HB4.out).mono ?_;rintro e w5 ⟨⟨al5,cl5,ak5,ck5,d5,rfl,hbd5,hlp5,hkp5⟩,hb5⟩;have HB5:=hideK hb5;have HN5:=hideK (And.intro hbd5 (And.intro hlp5 hkp5));have HS5:=hideK (show (fun W:World=>XB W (wo.heap.size+1) ⟨d.name,d.vals,d.sorts,d.chans,((d.tys.take j).map (asT gr)),d.body⟩ ⟨a'.va,a'.vc,a'.sa,a'.sc,a'.ca,a'.cc,ta,tc,a'.pa⟩∧TyAt W b13 0 t al cl ak ck) w5 from ⟨HS4.out.1.keep hb5,HS4.out.2.keep hb5 HS13.out⟩)
     clear hbd5 hlp5 hkp5 hb5;have hSn:=HS5.out;refine hK.out _ _ hSn ?_;clear hS hK K hSn;intro hS;try simp only [Act.put,sA,sB,sC]
     refine onU 5 (fun K hK=>?_)
     go_simp
     have hb6:Below w5.heap.size w5 (w5.alloc (.cells #[.int .i64 (asT gr t).kind,.int .i64 (asT gr t).so,.string (asT gr t).name,.slice al5 (asT gr t).labels.length cl5,.slice ak5 (asT gr t).kids.length ck5] 37)):=(bR _ _).alloc (nR _) _;have HS6:=hideK (show (fun W:World=>XB W (wo.heap.size+1) ⟨d.name,d.vals,d.sorts,d.chans,((d.tys.take j).map (asT gr)),d.body⟩ ⟨a'.va,a'.vc,a'.sa,a'.sc,a'.ca,a'.cc,ta,tc,a'.pa⟩∧TyAt W b13 0 t al cl ak ck) (w5.alloc (.cells #[.int .i64 (asT gr t).kind,.int .i64 (asT gr t).so,.string (asT gr t).name,.slice al5 (asT gr t).labels.length cl5,.slice ak5 (asT gr t).kids.length ck5] 37)) from ⟨HS5.out.1.keep hb6,HS5.out.2.keep hb6 (nL HS13.out HB5.out.size)⟩)
     clear hb6;have hSn:=HS6.out;refine hK.out _ _ hSn ?_;clear hS hK K hSn;intro hS;try simp only [Act.put,sA,sB,sC]
     have HO6:=hideK (own_belowG (own_belowG (own_belowG HOI.out HB4.out) HB5.out) ((Below.refl w5.heap.size w5).alloc (nR _) (.cells #[.int .i64 (asT gr t).kind,.int .i64 (asT gr t).so,.string (asT gr t).name,.slice al5 (asT gr t).labels.length cl5,.slice ak5 (asT gr t).kids.length ck5] 37)));have hw35:W3.heap.size≤w5.heap.size:=by have:=HBI.out.size;have:=HB4.out.size;have:=HB5.out.size;omega
     have HL6:=hideK (World.ownsRow_lit (base:=W3.heap.size) (e:=37) (size:=5) w5 #[.int .i64 (asT gr t).kind,.int .i64 (asT gr t).so,.string (asT gr t).name,.slice al5 (asT gr t).labels.length cl5,.slice ak5 (asT gr t).kids.length ck5] 1 hw35 (by decide) rfl)
     refine onU 6 (fun K hK=>?_)
     refine step_append_rows _ rfl (.tmp 59) (.tmp 63) 35 rfl W3.heap.size W3.heap.size 37 i1 _ 5 80 Tryz.underlying35 hj hy0 hy1 hy2 rfl (by decide) _ _ _ rfl HO6.out _ _ _ rfl HL6.out (tC_one (asT gr t,(al5,cl5),(ak5,ck5))) (by unfold maxLen;omega) (by omega) (by simp;omega) ?_
     intro v7 w7 hO7 hg7 hat7;have HG7:=hideK (show World.grownBy (w5.alloc (.cells #[.int .i64 (asT gr t).kind,.int .i64 (asT gr t).so,.string (asT gr t).name,.slice al5 (asT gr t).labels.length cl5,.slice ak5 (asT gr t).kids.length ck5] 37)) w7 (Value.slice ta j tc).ownBlock from hg7)
     have HAT7:=hideK hat7;have HO7:=hideK hO7;obtain ⟨va,vc,rfl⟩:=sliceH_own hO7;have hne11:∀q,q≤wo.heap.size+1→(Value.slice ta j tc).ownBlock≠some q:=fun q hq e=>by have:=(HUI.out q e).1;have:=HS3.out;omega
     have hne13:(Value.slice ta j tc).ownBlock≠some b13:=fun e=>by have:=(HUI.out b13 e).2;have:=HE13.out;omega
     have HS7:=hideK (show (fun W:World=>XB W (wo.heap.size+1) ⟨d.name,d.vals,d.sorts,d.chans,((d.tys.take j).map (asT gr)),d.body⟩ ⟨a'.va,a'.vc,a'.sa,a'.sc,a'.ca,a'.cc,ta,tc,a'.pa⟩∧TyAt W b13 0 t al cl ak ck) w7 from ⟨HS6.out.1.blk (HG7.out.block _ HS6.out.1.lt (fun e=>hne11 _ (nR _) e.symm)) HG7.out.size,TyAt.blk HS6.out.2 (HG7.out.block _ (by have:=HS13.out;have:=HSD.out;have:=HB5.out.size;simp;omega) (fun e=>hne13 e.symm))⟩)
     clear hO7 hg7 hat7 hne13;have hSn:=HS7.out;refine hK.out _ _ hSn ?_;clear hS hK K hSn;intro hS;try simp only [Act.put,sA,sB,sC]
     refine onU 7 (fun K hK=>?_)
     go_simp
     have hSn:=hS;refine hK.out _ _ hSn ?_;clear hS hK K hSn;intro hS;try simp only [Act.put,sA,sB,sC]
     have c4:=hS.1.at0.get (j:=4) (v:=.slice ta ((d.tys.take j).map (asT gr)).length tc) (by omega) rfl
     rw [HLJ.out]at c4;have f4:=hS.1.f 4;refine upto_last (by rw [List.getElem?_toArray];rfl) (by kernel_rfl) (fun K hK=>?_)
     go_simp
     refine hK.out _ _ ?_;clear hS hK K;clear c4 f4;refine upto_done (by kernel_rfl) ?_ _
     obtain ⟨W9,e9,hX9,k9,s9,b9⟩:=HS7.out.1.tys ((d.tys.take (j+1)).map (asT gr)) va vc;rw [show ((d.tys.take (j+1)).map (asT gr)).length=j+1 from by rw [HMJ.out,List.length_append,HLJ.out];rfl]at e9
     have HE9:=hideK e9;have HX9:=hideK hX9;have HK9:=hideK (And.intro k9 (And.intro s9 b9));clear e9 hX9 k9 s9 b9;go_wp2_with fail
     go_roundw
     case rel =>
      rw [HE9.out];have hg7:=HG7.out;have hs1:=HB4.out.size;have hs2:=HB5.out.size;have hs3:=HS3.out;have hs4:=HBI.out.size;have hs5:=hg7.size;have hs6:(w5.alloc (.cells #[.int .i64 (asT gr t).kind,.int .i64 (asT gr t).so,.string (asT gr t).name,.slice al5 (asT gr t).labels.length cl5,.slice ak5 (asT gr t).kids.length ck5] 37)).heap.size=w5.heap.size+1:=by simp
      have hs7:=HK9.out.2.1;have hs8:=HX3.out.2.1.size;have hs9:=HC.out.bl.size;have hA:Below wr.heap.size wr (w5.alloc (.cells #[.int .i64 (asT gr t).kind,.int .i64 (asT gr t).so,.string (asT gr t).name,.slice al5 (asT gr t).labels.length cl5,.slice ak5 (asT gr t).kids.length ck5] 37)):=(HB4.out.trans (HB5.out.mono hs1)).alloc (by omega) _
      have hb7:Below (wo.heap.size+1) W3 w7:=(HBI.out.trans (hA.mono (by omega))).grown hg7 (by omega) (fun q e=>by have:=(HUI.out q e).1;omega)
      have hfr:∀q,q<w5.heap.size→(Value.slice ta j tc).ownBlock≠some q→(Value.slice va (j+1) vc).ownBlock≠some q:=fun q hq hn e=>by
       rcases HAT7.out with z|z
       ·exact hn (z ▸ e)
       ·rw [z]at e;injection e with e;omega
      have hkB:∀q o,q<w5.heap.size→q≠wo.heap.size+1→(Value.slice ta j tc).ownBlock≠some q→W9.cell? ⟨q,o,none⟩=w5.cell? ⟨q,o,none⟩:=fun q o h1 h2 h3=>(World.cell?_of_block (a:=⟨q,o,none⟩) (HK9.out.1 q h2)).trans ((World.cell?_of_block (a:=⟨q,o,none⟩) (hg7.block q (by omega) (fun e=>h3 e.symm))).trans (((Below.refl w5.heap.size w5).alloc (nR _) (.cells #[.int .i64 (asT gr t).kind,.int .i64 (asT gr t).so,.string (asT gr t).name,.slice al5 (asT gr t).labels.length cl5,.slice ak5 (asT gr t).kids.length ck5] 37)).cell (p:=⟨q,o,none⟩) h1))
      refine ⟨j+1,us++[(asT gr t,(al5,cl5),(ak5,ck5))],va,vc,by omega,by go_num,HX9.out,HK9.out.2.2 _ _ (nR _) hb7,?_,?_,?_⟩
      ·have:=HO7.out
       rw [tCs_snoc];refine ⟨this.1,this.2.imp id fun ⟨g,cp,cur,q1,q2,q3,q4⟩=>⟨g,cp,cur,q1,q2,?_,q4⟩⟩
       rw [HK9.out.1 g (fun e=>by omega)]
       exact q3
      ·rw [List.map_append,HMI.out,HMJ.out];rfl
      ·intro q hq
       rcases List.mem_append.1 hq with hq|hq
       ·refine TOK.keep HTI.out (fun b o hb=>?_) (fun b hb=>?_) q hq
        ·unfold POut at hb
         have hb1:b<wr.heap.size:=by rcases hb with z|z;omega;exact z.2.1
         have hb2:(Value.slice ta j tc).ownBlock≠some b:=fun e=>by have:=HUI.out b e;rcases hb with z|z;omega;exact z.2.2 e
         have hb3:b≠wo.heap.size+1:=by rcases hb with z|z;omega;have:=z.1;omega
         rw [hkB b o (by omega) hb3 hb2,HB5.out.cell (p:=⟨b,o,none⟩) (by show b<_;omega),HB4.out.cell (p:=⟨b,o,none⟩) hb1]
        ·unfold POut at hb ⊢
         rcases hb with z|z
         ·exact .inl z
         ·exact .inr ⟨z.1,by omega,hfr b (by omega) z.2.2⟩
       ·obtain rfl:=List.mem_singleton.1 hq
        have hn:∀b,((b<w.heap.size∨W4.drew.heap.size≤b)∧b<w5.heap.size)→b≠wo.heap.size+1∧(Value.slice ta j tc).ownBlock≠some b:=fun b hb=>⟨by omega,fun e=>by have:=HUI.out b e;omega⟩
        have k1:∀b o,((b<w.heap.size∨W4.drew.heap.size≤b)∧b<w5.heap.size)→W9.cell? ⟨b,o,none⟩=w5.cell? ⟨b,o,none⟩:=fun b o hb=>hkB b o hb.2 (hn b hb).1 (hn b hb).2
        have k2:∀b,((b<w.heap.size∨W4.drew.heap.size≤b)∧b<w5.heap.size)→POut w.heap.size W3.heap.size W9 (Value.slice va (j+1) vc) b:=fun b hb=>by
         have h1:=hfr b hb.2 (hn b hb).2;unfold POut;rcases hb.1 with z|z
         ·exact .inl z
         ·exact .inr ⟨by omega,by omega,h1⟩
        exact ⟨HN5.out.1,HN5.out.2.1.keep k1 k2,d5,HN5.out.2.2.keep k1 k2⟩
     case measure=>simp [intOf];omega
    ·have hltjz:¬(j:Int)<(d.tys.length:Int):=by omega
     obtain rfl:j=d.tys.length:=by omega
     rw [List.take_length]at hX hmapI;obtain ⟨tk2,tc2,dk2,e2,q1,q2,hkp⟩:=kp_row (P:=fun b=>b<w.heap.size∨(W3.heap.size≤b∧b<wr.heap.size)) hOI (by have:=congrArg List.length hmapI;simpa using this) (TOK.keep hTI (fun _ _ _=>rfl) (fun b hb=>by unfold POut at hb;exact hb.imp id fun h=>⟨h.1,h.2.1⟩)) (fun b e=>.inr (hOI.lt b e))
     injection e2 with e2a e2b e2c
     subst e2a e2c;rw [hmapI]at hkp;have hbw:Below w.heap.size w wr:=HX3.out.2.1.trans (hbI.mono (by have:=HC.out.bl.size;omega))
     have HXI:=hideK hX;have HBI:=hideK hbI;have HKP:=hideK (And.intro hkp (And.intro q1 q2));have HBD:=hideK (HX3.out.2.2.1.keep hbI (by omega))
     obtain ⟨nb,hpb⟩:=HOK.out.body;have cR:=changed_any gr HGR.out w w.heap.size nb d.body a'.pa wr hpb HSZ.out.1 hbw hbw.size;unfold CGPost at cR;have HMS2:=hideK (show chD (asT gr) d=⟨d.name,d.vals,d.sorts,d.chans,(d.tys.map (asT gr)),(chgP (asT gr) d.body)⟩ from rfl)
     generalize chgP (asT gr) d.body=q at cR HMS2;clear hX hbI hOI hmapI hTI hkp q1 q2 hbw hpb e2b x4 hdl;go_upto_region 19 with fail
     refine wp_region_lit ?_;refine wpList_plain rfl (fun K hK=>?_)
     go_simp
     refine hK _ _ ?_;clear hK K;refine wpList_loadW rfl rfl rfl (load_pr HBD.out.body) ?_;simp only [Act.put,sA,sB,sC];refine wpList_plain rfl (fun K hK=>?_)
     go_simp
     refine hK _ _ ?_;clear hK K;refine wpList_plain rfl (fun K hK=>?_)
     go_simp
     refine cR.mono ?_;rintro e w6 ⟨⟨a6,rfl,d6,hp6⟩,hb6⟩;refine hK _ _ ?_;clear hK K cR;have HP6:=hideK hp6;have HB6:=hideK hb6;have HX6:=hideK (HXI.out.keep hb6);clear hp6 hb6;try simp only [Act.put,sA,sB,sC]
     refine wpList_plain rfl (fun K hK=>?_)
     go_simp
     refine hK _ _ ?_;clear hK K;obtain ⟨W7,e7,hX7,k7,s7,b7⟩:=HX6.out.body q a6;refine wpList_storeW rfl rfl rfl rfl (store_off 40 (prCs q a6) rfl HX6.out.some HX6.out.f (by kernel_rfl) (one_pr q a6)) ?_
     simp only [Act.put];rw [e7];have hB7:Below wo.heap.size wo W7:=b7 _ _ (by omega) ((HX3.out.2.2.2.2.trans (HBI.out.mono (by omega))).trans (HB6.out.mono (by have:=HX3.out.2.2.2.2.size;have:=HBI.out.size;omega)))
     have HB7:=hideK hB7;have HK7:=hideK (And.intro k7 s7);have HQ7:=hideK (HQ.out.keep hB7 (by have:=HSV.out.1;have:=HVS.out;omega))
     have HO7:=hideK (own_belowG HO.out hB7);generalize hdx:(⟨d.name,d.vals,d.sorts,d.chans,(d.tys.map (asT gr)),q⟩:Df)=dx at hX7 HMS2;generalize hax:(⟨a'.va,a'.vc,a'.sa,a'.sc,a'.ca,a'.cc,ta,tc,a6⟩:DfA)=ax at hX7;have HDX:=hideK hdx;have HAX:=hideK hax;have HX7:=hideK hX7;clear e7 hX7 k7 s7 b7 hB7 hdx hax;have c8:=HQ7.out.c;go_upto_region 20 with fail
     refine wp_region_lit ?_;refine wpList_plain rfl (fun K hK=>?_)
     go_simp
     refine hK _ _ ?_;clear hK K;refine wpList_plain rfl (fun K hK=>?_)
     go_simp
     refine hK _ _ ?_;clear hK K;refine wpList_loadW rfl rfl rfl (load_df HX7.out.at0) ?_;simp only [dfVal,Act.put,List.setIfInBounds_toArray,List.set_cons_zero,List.set_cons_succ];have HA8:=hideK (show Below W7.heap.size W7 (W7.alloc (.cells #[.string dx.name,.slice ax.va dx.vals.length ax.vc,.slice ax.sa dx.sorts.length ax.sc,.slice ax.ca dx.chans.length ax.cc,.slice ax.ta dx.tys.length ax.tc,.int .i64 dx.body.kind,.string dx.body.chan,.string dx.body.name,.string dx.body.label,.int .i64 dx.body.ex.kind,.string dx.body.ex.name,.int .i64 dx.body.ex.so,.int .i64 dx.body.ex.n,.string dx.body.ex.s,.slice ax.pa.ea dx.body.ex.kids.length ax.pa.ec,.slice ax.pa.xa dx.body.exs.length ax.pa.xc,.slice ax.pa.na dx.body.names.length ax.pa.nc,.int .i64 dx.body.ty.kind,.int .i64 dx.body.ty.so,.string dx.body.ty.name,.slice ax.pa.tl dx.body.ty.labels.length ax.pa.tlc,.slice ax.pa.tk dx.body.ty.kids.length ax.pa.tkc,.slice ax.pa.la dx.body.labels.length ax.pa.lc,.slice ax.pa.ka dx.body.kids.length ax.pa.kc] 42)) from (bR _ _).alloc (nR _) _)
     have OA:=hideK (own_belowG HO7.out HA8.out);have LR:=hideK (show (W7.alloc (.cells #[.string dx.name,.slice ax.va dx.vals.length ax.vc,.slice ax.sa dx.sorts.length ax.sc,.slice ax.ca dx.chans.length ax.cc,.slice ax.ta dx.tys.length ax.tc,.int .i64 dx.body.kind,.string dx.body.chan,.string dx.body.name,.string dx.body.label,.int .i64 dx.body.ex.kind,.string dx.body.ex.name,.int .i64 dx.body.ex.so,.int .i64 dx.body.ex.n,.string dx.body.ex.s,.slice ax.pa.ea dx.body.ex.kids.length ax.pa.ec,.slice ax.pa.xa dx.body.exs.length ax.pa.xc,.slice ax.pa.na dx.body.names.length ax.pa.nc,.int .i64 dx.body.ty.kind,.int .i64 dx.body.ty.so,.string dx.body.ty.name,.slice ax.pa.tl dx.body.ty.labels.length ax.pa.tlc,.slice ax.pa.tk dx.body.ty.kids.length ax.pa.tkc,.slice ax.pa.la dx.body.labels.length ax.pa.lc,.slice ax.pa.ka dx.body.kids.length ax.pa.kc] 42)).ownsRow V.heap.size 42 24 (.slice (some ⟨W7.heap.size,0,none⟩) 1 1) 1 (dfCs dx ax) from World.ownsRow_lit (base:=V.heap.size) (e:=42) (size:=24) W7 #[.string dx.name,.slice ax.va dx.vals.length ax.vc,.slice ax.sa dx.sorts.length ax.sc,.slice ax.ca dx.chans.length ax.cc,.slice ax.ta dx.tys.length ax.tc,.int .i64 dx.body.kind,.string dx.body.chan,.string dx.body.name,.string dx.body.label,.int .i64 dx.body.ex.kind,.string dx.body.ex.name,.int .i64 dx.body.ex.so,.int .i64 dx.body.ex.n,.string dx.body.ex.s,.slice ax.pa.ea dx.body.ex.kids.length ax.pa.ec,.slice ax.pa.xa dx.body.exs.length ax.pa.xc,.slice ax.pa.na dx.body.names.length ax.pa.nc,.int .i64 dx.body.ty.kind,.int .i64 dx.body.ty.so,.string dx.body.ty.name,.slice ax.pa.tl dx.body.ty.labels.length ax.pa.tlc,.slice ax.pa.tk dx.body.ty.kids.length ax.pa.tkc,.slice ax.pa.la dx.body.labels.length ax.pa.lc,.slice ax.pa.ka dx.body.kids.length ax.pa.kc] 1 (by have:=HVS.out;have:=HB7.out.size;omega) (by decide) rfl)
     have hzz:V.heap.size≤(W7.alloc (.cells #[.string dx.name,.slice ax.va dx.vals.length ax.vc,.slice ax.sa dx.sorts.length ax.sc,.slice ax.ca dx.chans.length ax.cc,.slice ax.ta dx.tys.length ax.tc,.int .i64 dx.body.kind,.string dx.body.chan,.string dx.body.name,.string dx.body.label,.int .i64 dx.body.ex.kind,.string dx.body.ex.name,.int .i64 dx.body.ex.so,.int .i64 dx.body.ex.n,.string dx.body.ex.s,.slice ax.pa.ea dx.body.ex.kids.length ax.pa.ec,.slice ax.pa.xa dx.body.exs.length ax.pa.xc,.slice ax.pa.na dx.body.names.length ax.pa.nc,.int .i64 dx.body.ty.kind,.int .i64 dx.body.ty.so,.string dx.body.ty.name,.slice ax.pa.tl dx.body.ty.labels.length ax.pa.tlc,.slice ax.pa.tk dx.body.ty.kids.length ax.pa.tkc,.slice ax.pa.la dx.body.labels.length ax.pa.lc,.slice ax.pa.ka dx.body.kids.length ax.pa.kc] 42)).heap.size:=by have:=HVS.out;have:=HB7.out.size;simp;omega
     have HW8:=hideK (fun (w8:World) (hg8:(W7.alloc (.cells #[.string dx.name,.slice ax.va dx.vals.length ax.vc,.slice ax.sa dx.sorts.length ax.sc,.slice ax.ca dx.chans.length ax.cc,.slice ax.ta dx.tys.length ax.tc,.int .i64 dx.body.kind,.string dx.body.chan,.string dx.body.name,.string dx.body.label,.int .i64 dx.body.ex.kind,.string dx.body.ex.name,.int .i64 dx.body.ex.so,.int .i64 dx.body.ex.n,.string dx.body.ex.s,.slice ax.pa.ea dx.body.ex.kids.length ax.pa.ec,.slice ax.pa.xa dx.body.exs.length ax.pa.xc,.slice ax.pa.na dx.body.names.length ax.pa.nc,.int .i64 dx.body.ty.kind,.int .i64 dx.body.ty.so,.string dx.body.ty.name,.slice ax.pa.tl dx.body.ty.labels.length ax.pa.tlc,.slice ax.pa.tk dx.body.ty.kids.length ax.pa.tkc,.slice ax.pa.la dx.body.labels.length ax.pa.lc,.slice ax.pa.ka dx.body.kids.length ax.pa.kc] 42)).grownBy w8 u.ownBlock)=>show w8.cell? ⟨w3.heap.size,0,none⟩=some u∧w8.frozen? ⟨w3.heap.size,0,none⟩=false from by
      have hq:=HQ7.out.keep HA8.out HQ7.out.lt;have hne:u.ownBlock≠some w3.heap.size:=fun e=>by have:=(HUL.out _ e).1;have:=HSV.out.1;omega
      have hbk:=hg8.block w3.heap.size hq.lt (fun e=>hne e.symm)
      exact ⟨(World.cell?_of_block (a:=⟨w3.heap.size,0,none⟩) hbk).trans hq.c,(World.frozen?_of_block (a:=⟨w3.heap.size,0,none⟩) hbk).trans hq.f⟩)
     clear c8;go_wp2_with (at_builtin;refine wpList_append_rows _ rfl (.tmp 73) (.tmp 75) 22 rfl V.heap.size V.heap.size 42 i0 _ 24 424 Tryz.underlying22 hi hz0 hz1 hz2 rfl (by decide) _ _ _ rfl OA.out _ _ _ rfl LR.out (one_df dx ax) (by unfold maxLen;omega) (by omega) hzz ?_;intro v8 w8 hO8 hg8 hat8;have HO8:=hideK hO8;have HG8:=hideK (show World.grownBy (W7.alloc (.cells #[.string dx.name,.slice ax.va dx.vals.length ax.vc,.slice ax.sa dx.sorts.length ax.sc,.slice ax.ca dx.chans.length ax.cc,.slice ax.ta dx.tys.length ax.tc,.int .i64 dx.body.kind,.string dx.body.chan,.string dx.body.name,.string dx.body.label,.int .i64 dx.body.ex.kind,.string dx.body.ex.name,.int .i64 dx.body.ex.so,.int .i64 dx.body.ex.n,.string dx.body.ex.s,.slice ax.pa.ea dx.body.ex.kids.length ax.pa.ec,.slice ax.pa.xa dx.body.exs.length ax.pa.xc,.slice ax.pa.na dx.body.names.length ax.pa.nc,.int .i64 dx.body.ty.kind,.int .i64 dx.body.ty.so,.string dx.body.ty.name,.slice ax.pa.tl dx.body.ty.labels.length ax.pa.tlc,.slice ax.pa.tk dx.body.ty.kids.length ax.pa.tkc,.slice ax.pa.la dx.body.labels.length ax.pa.lc,.slice ax.pa.ka dx.body.kids.length ax.pa.kc] 42)) w8 u.ownBlock from hg8);have HAT8:=hideK hat8;obtain ⟨c74,f74⟩:=HW8.out w8 hg8;clear hg8 hat8;obtain ⟨va,vc,rfl⟩:=sliceH_own hO8;clear hO8)
     go_roundw
     case rel =>
      have hg8:=HG8.out;have hs1:=HB7.out.size;have hs2:(W7.alloc (.cells #[.string dx.name,.slice ax.va dx.vals.length ax.vc,.slice ax.sa dx.sorts.length ax.sc,.slice ax.ca dx.chans.length ax.cc,.slice ax.ta dx.tys.length ax.tc,.int .i64 dx.body.kind,.string dx.body.chan,.string dx.body.name,.string dx.body.label,.int .i64 dx.body.ex.kind,.string dx.body.ex.name,.int .i64 dx.body.ex.so,.int .i64 dx.body.ex.n,.string dx.body.ex.s,.slice ax.pa.ea dx.body.ex.kids.length ax.pa.ec,.slice ax.pa.xa dx.body.exs.length ax.pa.xc,.slice ax.pa.na dx.body.names.length ax.pa.nc,.int .i64 dx.body.ty.kind,.int .i64 dx.body.ty.so,.string dx.body.ty.name,.slice ax.pa.tl dx.body.ty.labels.length ax.pa.tlc,.slice ax.pa.tk dx.body.ty.kids.length ax.pa.tkc,.slice ax.pa.la dx.body.labels.length ax.pa.lc,.slice ax.pa.ka dx.body.kids.length ax.pa.kc] 42)).heap.size=W7.heap.size+1:=by simp
      have hs3:=hg8.size;have hs4:=HVS.out;have hs5:=HSV.out.1;have hs6:=HSV.out.2;have hs7:=HX3.out.2.2.2.1;have hs8:=HBI.out.size;have hs9:=HB6.out.size;have hs10:=HK7.out.2;have hs11:=HC.out.bl.size;have hA:Below wo.heap.size wo (W7.alloc (.cells #[.string dx.name,.slice ax.va dx.vals.length ax.vc,.slice ax.sa dx.sorts.length ax.sc,.slice ax.ca dx.chans.length ax.cc,.slice ax.ta dx.tys.length ax.tc,.int .i64 dx.body.kind,.string dx.body.chan,.string dx.body.name,.string dx.body.label,.int .i64 dx.body.ex.kind,.string dx.body.ex.name,.int .i64 dx.body.ex.so,.int .i64 dx.body.ex.n,.string dx.body.ex.s,.slice ax.pa.ea dx.body.ex.kids.length ax.pa.ec,.slice ax.pa.xa dx.body.exs.length ax.pa.xc,.slice ax.pa.na dx.body.names.length ax.pa.nc,.int .i64 dx.body.ty.kind,.int .i64 dx.body.ty.so,.string dx.body.ty.name,.slice ax.pa.tl dx.body.ty.labels.length ax.pa.tlc,.slice ax.pa.tk dx.body.ty.kids.length ax.pa.tkc,.slice ax.pa.la dx.body.labels.length ax.pa.lc,.slice ax.pa.ka dx.body.kids.length ax.pa.kc] 42)):=HB7.out.trans (HA8.out.mono hs1);have hb8:Below V.heap.size wo w8:=(hA.mono hs4).grown hg8 (by omega) (fun q e=>(HUL.out q e).1)
      have hb9:Below w3.heap.size wo (w8.setCell ⟨w3.heap.size,0,none⟩ (Value.slice va (k+1) vc)):=(hb8.mono (show w3.heap.size≤V.heap.size by omega)).setCell (p:=⟨w3.heap.size,0,none⟩) (nR _) _
      have hfr:∀b,b<W7.heap.size→u.ownBlock≠some b→(Value.slice va (k+1) vc).ownBlock≠some b:=fun b hb hn e=>by
       rcases HAT8.out with z|z
       ·exact hn (z ▸ e)
       ·rw [z]at e;injection e with e;omega
      have hkB:∀b o,b<W7.heap.size→b≠w3.heap.size→u.ownBlock≠some b→(w8.setCell ⟨w3.heap.size,0,none⟩ (Value.slice va (k+1) vc)).cell? ⟨b,o,none⟩=W7.cell? ⟨b,o,none⟩:=fun b o h1 h2 h3=>(World.cell?_of_block (a:=⟨b,o,none⟩) (Go.Deep.blk_setCell_other _ _ _ _ h2)).trans ((World.cell?_of_block (a:=⟨b,o,none⟩) (hg8.block b (by omega) (fun e=>h3 e.symm))).trans (HA8.out.cell (p:=⟨b,o,none⟩) h1))
      have hk7:∀b o,b≠wo.heap.size+1→W7.cell? ⟨b,o,none⟩=w6.cell? ⟨b,o,none⟩:=fun b o hb=>World.cell?_of_block (a:=⟨b,o,none⟩) (HK7.out.1 b hb)
      have hdq:DfQ w w.heap.size W7 (fun b=>b<w.heap.size∨(W3.heap.size≤b∧b<W7.heap.size)) dx ax:=by
       rw [← HDX.out,← HAX.out];refine ⟨HOK.out.name,HOK.out.vals,HOK.out.sl,HOK.out.sc,HOK.out.srt,HOK.out.chs,by show (d.tys.map (asT gr)).length≤tc;rw [List.length_map];exact HKP.out.2.1,HKP.out.2.2,⟨dk2,HKP.out.1.keep (fun b o hb=>?_) (fun b hb=>?_)⟩,⟨d6,HP6.out.keep (fun b o hb=>?_) (fun b hb=>?_)⟩⟩
       ·exact (hk7 b o (by omega)).trans (HB6.out.cell (p:=⟨b,o,none⟩) (by show b<_;omega))
       ·omega
       ·unfold CGP at hb;exact hk7 b o (by omega)
       ·unfold CGP at hb;omega
      refine ⟨k+1,ts++[(dx,ax)],.slice va (k+1) vc,by omega,by go_num,⟨HC.out.bl.trans (hb9.mono (by omega)),by rw [World.size_setCell];omega,(hb9.cell (p:=⟨w.heap.size,0,none⟩) hs6).trans HC.out.c0⟩,⟨World.cell?_setCell_same _ _ _ (HW8.out w8 hg8).1,(World.frozen?_setCell _ _ _ _).trans (HW8.out w8 hg8).2,by rw [World.size_setCell];omega⟩,by rw [World.size_setCell];omega,?_,?_,?_⟩
      ·have:=HO8.out
       rw [dCs_app,show dCs [(dx,ax)]=dfCs dx ax from by unfold dCs;simp]
       refine ⟨this.1,this.2.imp id fun ⟨g,cp,cur,q1,q2,q3,q4⟩=>⟨g,cp,cur,q1,q2,?_,q4⟩⟩
       rw [Go.Deep.blk_setCell_other _ _ _ _ (show g≠w3.heap.size from fun e=>by have:=(this.lt g (by rw [q1];rfl)).1;omega)]
       exact q3
      ·rw [List.map_append,HMP.out,HMS.out,HMS2.out];rfl
      ·intro t ht
       rcases List.mem_append.1 ht with h|h
       ·refine (HT.out t h).keep (fun b o hb=>?_) (fun b hb=>?_)
        ·unfold POut at hb
         have hb1:b<wo.heap.size:=by rcases hb with z|z;omega;exact z.2.1
         have hb2:u.ownBlock≠some b:=fun e=>by have:=HUL.out b e;rcases hb with z|z;omega;exact z.2.2 e
         have hb3:b≠w3.heap.size:=by rcases hb with z|z;omega;have:=z.1;omega
         rw [hkB b o (by omega) hb3 hb2,HB7.out.cell (p:=⟨b,o,none⟩) hb1]
        ·unfold POut at hb ⊢
         rw [World.size_setCell];rcases hb with z|z
         ·exact .inl z
         ·exact .inr ⟨z.1,by omega,hfr b (by omega) z.2.2⟩
       ·obtain rfl:=List.mem_singleton.1 h
        have hn:∀b,(b<w.heap.size∨(W3.heap.size≤b∧b<W7.heap.size))→b<W7.heap.size∧b≠w3.heap.size∧u.ownBlock≠some b:=fun b hb=>⟨by omega,by omega,fun e=>by have:=HUL.out b e;omega⟩
        refine hdq.keep (fun b o hb=>hkB b o (hn b hb).1 (hn b hb).2.1 (hn b hb).2.2) (fun b hb=>?_)
        have h1:=hfr b (hn b hb).1 (hn b hb).2.2;unfold POut;rw [World.size_setCell];rcases hb with z|z
        ·exact .inl z
        ·exact .inr ⟨by omega,by omega,h1⟩
     case measure=>simp [intOf];omega
  ·have hltz:¬(k:Int)<(ds.length:Int):=by omega
   obtain rfl:k=ds.length:=by omega
   rw [List.take_length]at hmap;obtain ⟨aq,cq,rfl,q1,q2,hdq⟩:=dfq_row hO (by have:=congrArg List.length hmap;simpa using this) hT hC.bl hC.bl.size (fun b hb=>by unfold POut at hb;rcases hb with z|z;have:=hC.bl.size;omega;exact z.2.1)
   rw [hmap]at hdq;have c:=HK0.out (ds.map (chD (asT gr))) aq cq wo hC.bl (by rw [List.length_map];exact q1) q2 hdq
   rw [HE.out,List.length_map]at c;have c8:=hQ.c;have HC:=hideK hC;clear hC hQ hVs hO hmap hT q1 q2 hdq;go_wp2_with fail
   refine c.mono ?_;rintro e w9 ⟨rfl,hb9⟩;have HB9:=hideK (HC.out.keep hb9).bl;clear c hb9;go_wp2_with fail
   go_ret
   exact ⟨rfl,HB9.out⟩
end Go.Proofs.YtmamabhhgfcjcaaGreatDoor
