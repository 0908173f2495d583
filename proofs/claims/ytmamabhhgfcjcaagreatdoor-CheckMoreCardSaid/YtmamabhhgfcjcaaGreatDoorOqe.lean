/-
  THE CONTRACT OF check.Check, for every program.
-/
import Derived.Test.YtmamabhhgfcjcaaGreatDoorOo
set_option maxRecDepth 100000
set_option maxHeartbeats 16000000
namespace Go.Proofs.YtmamabhhgfcjcaaGreatDoor
open Go.RowKit Go.Shelf
structure RDf(d:Df):Prop where
 hed:hedD d=true
 tys:∀t∈d.tys,chkTy t=0
 body:∃c,c≤200∧(shpR d.body c).1=0
theorem tysE_all{l:List Ty}(h:tysE l=0):∀t∈l,chkTy t=0:=by
 induction l with
 | nil=>intro t ht;cases ht
 | cons x l ih =>
  rw [tysE_cons]at h;by_cases q:chkTy x≠0
  ·rw [if_pos q]at h;exact absurd h q
  ·rw [if_neg q]at h
   intro t ht;rcases List.mem_cons.1 ht with rfl|ht
   ·simpa using q
   ·exact ih h t ht
theorem shp_def{ds:List Df}(h:shpP ds=0):ds≠[]∧ds.length≤10∧∀d∈ds,RDf d:=by
 unfold shpP at h;by_cases h1:ds.length=0
 ·rw [if_pos h1]at h;exact absurd h (by decide)
 rw [if_neg h1]at h;by_cases h2:10<ds.length
 ·rw [if_pos h2]at h;exact absurd h (by decide)
 rw [if_neg h2]at h;refine ⟨fun q=>h1 (by rw [q];rfl),by omega,fun d hd=>?_⟩
 obtain ⟨k,hk,rfl⟩:=List.mem_iff_getElem.1 hd;have t0:(shpDs (ds.take k) (0,0)).1=0:=by
  apply Classical.byContradiction
  intro q;rw [shpDs_split ds k (0,0) q]at h;exact q h
 have hc:=shpDs_cnt (ds.take k) (0,0) (Nat.zero_le _) t0;have e:shpDs (ds.take (k+1)) (0,0)=shpD ds[k] (shpDs (ds.take k) (0,0)).2:=by rw [List.take_succ_eq_append_getElem hk,shpDs_snoc,if_neg (by simpa using t0)]
 have t1:(shpD ds[k] (shpDs (ds.take k) (0,0)).2).1=0:=by
  apply Classical.byContradiction
  intro q;rw [← e]at q;rw [shpDs_split ds (k+1) (0,0) q]at h;exact q h
 unfold shpD at t1;by_cases g1:hedD ds[k]=false
 ·rw [if_pos g1]at t1;exact absurd t1 (by simp)
 rw [if_neg g1]at t1;by_cases g2:tysE ds[k].tys≠0
 ·rw [if_pos g2]at t1;exact absurd t1 g2
 rw [if_neg g2]at t1;exact ⟨by simpa using g1,tysE_all (by simpa using g2),_,hc,t1⟩
theorem RDf.lens{d:Df}(h:RDf d):d.vals.length≤6∧d.sorts.length=d.vals.length∧d.chans.length≤6∧d.tys.length=d.chans.length:=by
 have q:=h.hed;unfold hedD at q;simp only [Bool.and_eq_true]at q;obtain ⟨_,q1,q2,_,q3,q4⟩:=q;unfold areNm at q1 q3;rw [Bool.and_eq_true]at q1 q3;exact ⟨of_decide_eq_true q1.1,of_decide_eq_true q2,of_decide_eq_true q3.1,of_decide_eq_true q4⟩
theorem owns_all:∀(l a:List Df),ownsG a l=none→∀k (hk:k<l.length),ownN (a++l.take k) l[k]=true:=by
 intro l;induction l with
 | nil=>intro a _ k hk;simp at hk
 | cons x l ih =>
  intro a h k hk;rw [ownsG]at h;by_cases q:ownN a x=true
  ·rw [if_pos q]at h
   match k with
   | 0=>simpa using q
   | k+1 =>
    have:=ih (a++[x]) h k (by simpa using hk)
    simpa using this
  ·rw [if_neg q]at h;cases h
theorem owns_names{ds:List Df}(h:ownsG [] ds=none):∀i j (hi:i<ds.length) (hj:j<ds.length),i<j→ds[i].name≠ds[j].name:=by
 intro i j hi hj hij e;have:=owns_all ds [] h j hj;unfold ownN at this;simp only [Bool.and_eq_true,Bool.not_eq_true',List.nil_append]at this;have h3:=this.2.2;rw [List.any_eq_false]at h3;exact h3 ds[i] (List.mem_iff_getElem.2 ⟨i,by simp;omega,by rw [List.getElem_take]⟩) (by simpa using e)
theorem hdOf_own{ds:List Df}(h:∀i j (hi:i<ds.length) (hj:j<ds.length),i<j→ds[i].name≠ds[j].name){k:Nat}(hk:k<ds.length):hdOf ds ds[k].name=some ds[k]:=by
 unfold hdOf;rw [List.find?_eq_some_iff_getElem];exact ⟨by simp,k,hk,rfl,fun j hj=>by simpa using h j k (by omega) hk hj⟩
structure CKB(w:World)(ad:OAd)(ds:List Df)(cd:Nat)(W:World):Prop where
 bl:Below w.heap.size w W
 lt:w.heap.size<W.heap.size
 c0:W.cell? ⟨w.heap.size,0,none⟩=some (.slice ad ds.length cd)
theorem CKB.keep{w:World}{ad:OAd}{ds:List Df}{cd:Nat}{W W':World}(h:CKB w ad ds cd W)(hb:Below W.heap.size W W'):CKB w ad ds cd W' :=
 ⟨h.bl.trans (hb.mono h.bl.size),nL h.lt hb.size,(hb.cell (p:=⟨w.heap.size,0,none⟩) h.lt).trans h.c0⟩
theorem CKB.new(w:World)(ad:OAd)(ds:List Df)(cd:Nat):CKB w ad ds cd (w.alloc (.cells #[.slice ad ds.length cd] 24)):=⟨(bR _ _).alloc (nR _) _,by simp,by go_cell⟩
theorem checkP_any{W0:World}(h0:Tabs W0)(gr og:Ty→List Nd)(hgr:∀t g,chkTy t=0→OFG t g→g=gr t)(hog:∀t g,chkTy t=0→OTG t g→g=og t)(ds:List Df)(ad:OAd)(cd:Nat)(w:World)(hl:ds.length≤cd)(hcd:cd≤9223372036854775807)(hd:DfsAt w w.heap.size ds ad)(hT:AT W0 w):
  Calls Tryz.prog 6 #[.agg #[.slice ad ds.length cd]] w fun e w'=>e = .returned (.tuple #[.int .i64 (ckP gr og ds).1,.int .i64 ((ckP gr og ds).2:Int)])∧Below w.heap.size w w':=by
 have H1:=hideK (CKB.new w ad ds cd);have hA:=H1.out.bl;have cS:=shape_any h0 ds ad cd w.heap.size (w.alloc (.cells #[.slice ad ds.length cd] 24)) (by omega) (hd.keep hA) hA.size (at_k _ _ hT hA)
 obtain ⟨res,hres⟩:∃q,q=ckP gr og ds:=⟨_,rfl⟩;rw [← hres];by_cases hz:shpP ds=0
 case neg =>
  have hzb:(shpP ds != 0)=true:=by simpa using hz
  have hr:res=(shpP ds,0):=by rw [hres];unfold ckP;rw [if_pos hz]
  rw [hr];generalize shpP ds=z at *;clear hl hcd hd hT hres hr hz hA;go_enter Tryz.func6,Tryz.ntmps6
  go_wp2_with fail
  refine cS.mono ?_;rintro e w2 ⟨rfl,hb2⟩;have H2:=hideK (H1.out.keep hb2);clear cS hb2 H1;go_wp2_with fail
  go_ret2
  exact ⟨rfl,H2.out.bl⟩
 case pos =>
 obtain ⟨hne,h10,hrd⟩:=shp_def hz;have hpos:0<ds.length:=List.length_pos_iff.2 hne;obtain ⟨pb,po,hpe,hpB,hcs⟩:=hd.resolve_left hne;unfold ckP at hres;rw [if_neg (by simpa using hz)]at hres
 rw [hz]at cS;rw [show ∀z:Df,ds.getD 0 z=ds[0] from fun z=>by simp [List.getD,hpos]]at hres
 have HRD:=hideK hrd;have HD:=hideK hd;have HCS:=hideK hcs;have HT:=hideK hT;have hkz:(0:Int)<(ds.length:Int):=by omega
 have hlz:(ds.length:Int)≤10:=by omega
 have HLC:=hideK (And.intro hl (And.intro hcd (And.intro h10 hpB)));obtain ⟨a',hat,hok⟩:=hcs 0 hpos;have HAT0:=hideK (fun (W:World) (hW:Below w.heap.size w W)=>hat.keep hW hpB)
 have HP0:=hideK hpos;clear hz hrd hd hcs hT hl hcd h10 hat hok hA;subst hpe;generalize hd0:ds[0]=d at *;clear hd0;have HNE:=hideK hne;clear hne;go_enter Tryz.func6,Tryz.ntmps6
 go_wp2_with fail
 refine cS.mono ?_;rintro e w2 ⟨rfl,hb2⟩;have H2:=hideK (H1.out.keep hb2);have HAT:=hideK (HAT0.out w2 (H1.out.keep hb2).bl);clear cS hb2 H1 HAT0;have c0:=H2.out.c0;have hne:=HNE.out;go_upto_region 4 with fail
 refine wp_region_lit ?_;refine wpList_plain rfl (fun K hK=>?_)
 go_simp
 refine hK _ _ ?_;clear hK K;refine wpList_plain rfl (fun K hK=>?_)
 go_simp
 refine hK _ _ ?_;clear hK K;refine wpList_plain rfl (fun K hK=>?_)
 go_simp
 refine hK _ _ ?_;clear hK K;refine wpList_loadW rfl rfl rfl (load_df HAT.out) ?_;simp only [Act.put,sA,sB,sC];refine wpList_allocW rfl rfl (alloc_df _) ?_;simp only [Act.put,sA,sB,sC];refine wpList_storeW rfl rfl rfl rfl (store_df _ d a') ?_;simp only [Act.put];have hB3:=H2.out.keep ((bR _ _).alloc (nR _) (dfBx d a'));have H3:=hideK hB3;have x1:=(dfBx_at w2 d a').get (j:=1) (v:=.slice a'.va d.vals.length a'.vc) (by omega) rfl
 have x3:=(dfBx_at w2 d a').get (j:=3) (v:=.slice a'.ca d.chans.length a'.cc) (by omega) rfl
 generalize w2.alloc (dfBx d a')=V3 at *;clear hB3 HAT H2 c0;by_cases hv:d.vals.length=0
 case neg =>
  have hvz:(0:Int)<(d.vals.length:Int):=by omega
  rw [if_pos (.inl (by omega))]at hres
  have HR:=hideK hres;have hvn:d.vals≠[]:=fun q=>hv (by rw [q];rfl)
  clear hv hres;go_wp2_with fail
  go_ret2
  rw [HR.out];exact ⟨rfl,H3.out.bl⟩
 case pos =>
 by_cases hc:d.chans.length=0
 case neg =>
  have hcz:(0:Int)<(d.chans.length:Int):=by omega
  rw [if_pos (.inr (by omega))]at hres
  have HR:=hideK hres;have hcn:d.chans≠[]:=fun q=>hc (by rw [q];rfl)
  rw [hv]at x1;clear hv hc hres;go_wp2_with fail
  go_ret2
  rw [HR.out];exact ⟨rfl,H3.out.bl⟩
 case pos =>
 rw [if_neg (by omega)]at hres
 rw [hv]at x1;rw [hc]at x3;have HRS:=hideK hres;clear hv hc hres;go_upto_region 7 with fail
 clear x1 x3;have c0:=H3.out.c0;go_wp2_with fail
 go_loopw [34] (fun i wr=>∃k:Nat,k≤ds.length∧i = .int .i64 (k:Int)∧ownsG [] ds=ownsG (ds.take k) (ds.drop k)∧CKB w (some ⟨pb,po,none⟩) ds cd wr) (fun i _=>ds.length - (intOf i).toNat)
 case atStart=>exact ⟨0,Nat.zero_le _,rfl,rfl,H3.out⟩
 case round =>
  obtain ⟨k,hk,rfl,ho,hW⟩:=hrel;clear H3 c0;by_cases hlt:k<ds.length
  ·have hltz:(k:Int)<(ds.length:Int):=by omega
   have hlen:=(HRD.out ds[k] (List.getElem_mem hlt)).lens;have c:=hasOwn_any ds (some ⟨pb,po,none⟩) cd w.heap.size k wr (HD.out.keep hW.bl) hW.bl.size (by have:=HLC.out;omega) HLC.out.1 HLC.out.2.1 hlt (by omega) (by omega)
   rw [List.drop_eq_getElem_cons hlt,ownsG]at ho;have htk:(ds.take k).length=k:=by simp;omega
   rw [htk,← List.take_succ_eq_append_getElem hlt]at ho;have c0:=hW.c0;have HW:=hideK hW;have HK:=hideK hlt;clear hlen hW htk;generalize ownN (ds.take k) ds[k]=bo at c ho;cases bo with
   | true =>
    rw [if_pos rfl]at ho;have HO:=hideK ho;clear ho;go_wp2_with fail
    refine c.mono ?_;rintro e w5 ⟨rfl,hb5⟩;have H5:=hideK (HW.out.keep hb5);clear c hb5 HW c0;go_wp2_with fail
    go_roundw
    case rel=>exact ⟨k+1,HK.out,by go_num,HO.out,H5.out⟩
    case measure=>simp [intOf];have:=HK.out;omega
   | false =>
    rw [if_neg (by simp)]at ho
    have hr:res=(4,k):=by rw [HRS.out,ho]
    have HR:=hideK hr;clear ho hr HRS;go_wp2_with fail
    refine c.mono ?_;rintro e w5 ⟨rfl,hb5⟩;have H5:=hideK (HW.out.keep hb5);clear c hb5 HW c0;go_wp2_with fail
    go_ret2
    rw [HR.out];exact ⟨rfl,H5.out.bl⟩
  ·have hltz:¬(k:Int)<(ds.length:Int):=by omega
   rw [List.drop_of_length_le (by omega),ownsG]at ho
   have hnd:=owns_names ho;have hrb:res=bdsG gr og ds ds 0:=by rw [HRS.out,ho]
   have cH:=headsOf_any gr hgr ds (some ⟨pb,po,none⟩) cd w.heap.size wr (HD.out.keep hW.bl) hW.bl.size (by have:=HLC.out;omega) (fun d hd=>(HRD.out d hd).tys) (fun d hd=>by have:=(HRD.out d hd).lens;omega) hnd
   have HHO:=hideK (fun (k:Nat) (hk:k<ds.length)=>hdOf_own hnd hk)
   have HRB:=hideK hrb;have HW:=hideK hW;have c0:=hW.c0;clear ho hnd hrb hW HRS;go_wp2_with fail
   refine cH.mono ?_;rintro e w3 ⟨⟨mb,rfl,hds⟩,hb3⟩;have H4:=hideK (HW.out.keep hb3);have HDS3:=hideK hds;clear cH hb3 HW c0 hds;have c0:=H4.out.c0;go_wp2_with fail
   go_loopw [56] (fun i wr=>∃k:Nat,k≤ds.length∧i = .int .i64 (k:Int)∧res=bdsG gr og ds (ds.drop k) k∧CKB w (some ⟨pb,po,none⟩) ds cd wr∧Below w3.heap.size w3 wr) (fun i _=>ds.length - (intOf i).toNat)
   case atStart=>exact ⟨0,Nat.zero_le _,rfl,HRB.out,H4.out,Below.refl _ _⟩
   case round =>
    obtain ⟨k,hk,rfl,ho,hW,hW3⟩:=hrel;clear c0;by_cases hlt:k<ds.length
    ·have hltz2:(k:Int)<(ds.length:Int):=by omega
     rw [List.drop_eq_getElem_cons hlt,bdsG]at ho;obtain ⟨a',hat,hok⟩:=HCS.out k hlt;have hrd:=HRD.out ds[k] (List.getElem_mem hlt);have hlen:=hrd.lens;obtain ⟨cc,hcc,hsh⟩:=hrd.body;obtain ⟨n,hpr⟩:=hok.body;have hb3:Below w.heap.size w w3:=H4.out.bl;have hpr3:=PrOK.mono hb3.size (PrOK.keep hb3 hpr);have hAT3:AT W0 w3:=at_k _ _ HT.out hb3;have hps:=proc_all h0 gr og ds (some mb) w3 hAT3 HDS3.out hgr hog n ds[k].body a'.pa cc hpr3 hcc hsh;obtain ⟨e,hdo,hlk⟩:∃e,HdOK w3 ds[k] (endsD gr ds[k]) e∧∀W,Below w3.heap.size w3 W→(Instr.lookup 64 (.map (some mb)) (.string ds[k].name) false).run Tryz.prog W = .ok (hdVal ds[k] e (endsD gr ds[k]).length) W:=by
      rcases HDS3.out ds[k].name hok.name with ⟨q,_⟩|⟨d',e,q,h1,h2⟩
      ·rw [HHO.out k hlt]at q;cases q
      ·rw [HHO.out k hlt]at q;cases q
       exact ⟨e,h1,fun W hW=>(h2 W hW).2⟩
     have hel:(endsD gr ds[k]).length=ds[k].tys.length:=by simp [endsD]
     have HSC:=hideK (fun (W:World) (hW:Below w3.heap.size w3 W)=>scope_any ds[k] (endsD gr ds[k]) e (endsD gr ds[k]).length rfl W (hdo.keep hW) (by omega) (by omega) (by omega))
     have HPR:=hideK (fun (mp:Option Nat) (W:World) (hW:Below w3.heap.size w3 W) (hs:ScAt W ⟨ds[k].vals,ds[k].sorts,putG (ds[k].chans.zip (endsD gr ds[k]))⟩ ⟨e.va,e.vc,e.sa,e.sc,mp⟩)=>hps (scD gr ds[k]) ⟨e.va,e.vc,e.sa,e.sc,mp⟩ W hW hs (by show ds[k].vals.length≤100+cc;omega))
     have HLK:=hideK hlk;have HAT:=hideK (hat.keep hW.bl HLC.out.2.2.2);generalize ckR gr og ds ds[k].body (scD gr ds[k])=rk at *;clear hps hlk hat hok hrd hlen hsh hpr hb3 hpr3 hAT3 hdo hel;simp only [scD]at HPR;change Hid (∀(mp:Option Nat) (W:World) (hW:Below w3.heap.size w3 W) (hs:ScAt W ⟨ds[k].vals,ds[k].sorts,putG (ds[k].chans.zip (endsD gr ds[k]))⟩ ⟨e.va,e.vc,e.sa,e.sc,mp⟩),Calls Tryz.prog 24 #[.map (some mb),prVal ds[k].body a'.pa,scVal ⟨ds[k].vals,ds[k].sorts,putG (ds[k].chans.zip (endsD gr ds[k]))⟩ ⟨e.va,e.vc,e.sa,e.sc,mp⟩] W fun e w'=>e = .returned (.int .i64 rk)∧Below W.heap.size W w') at HPR
     generalize ds[k]=d at *;have HK:=hideK hlt;have HO:=hideK ho;simp only [scVal,hdVal,prVal]at HSC HPR HLK;have hA:=((Below.refl wr.heap.size wr).alloc (nR _) (dfBx d a'));have H7:=hideK (show (fun W:World=>CKB w (some ⟨pb,po,none⟩) ds cd W∧Below w3.heap.size w3 W∧DfAt W wr.heap.size 0 d a'∧wr.heap.size<W.heap.size) (wr.alloc (dfBx d a')) from ⟨hW.keep hA,hW3.trans (hA.mono hW3.size),dfBx_at wr d a',by simp⟩)
     clear ho hW hW3 hA;go_upto_region 18 with fail
     refine wp_region_lit ?_;refine wpList_plain rfl (fun K hK=>?_)
     go_simp
     refine hK _ _ ?_;clear hK K;refine wpList_plain rfl (fun K hK=>?_)
     go_simp
     refine hK _ _ ?_;clear hK K;refine wpList_loadW rfl rfl rfl (load_df HAT.out) ?_;simp only [Act.put,sA,sB,sC];refine wpList_allocW rfl rfl (alloc_df _) ?_;simp only [Act.put,sA,sB,sC];refine wpList_plain rfl (fun K hK=>?_)
     go_simp
     refine hK _ _ ?_;clear hK K;refine wpList_storeW rfl rfl rfl rfl (store_df _ d a') ?_;simp only [Act.put];go_upto_region 19 with fail
     have hS0:(fun W:World=>CKB w (some ⟨pb,po,none⟩) ds cd W∧Below w3.heap.size w3 W∧DfAt W wr.heap.size 0 d a'∧wr.heap.size<W.heap.size) (World.drew (wr.alloc (dfBx d a'))):=⟨H7.out.1.keep (bR _ _).drew,H7.out.2.1.trans ((bR _ _).drew.mono H7.out.2.1.size),H7.out.2.2.1.keep (bR _ _).drew H7.out.2.2.2,H7.out.2.2.2⟩
     have H8:=hideK hS0;clear H7 HAT;refine wp_region_held_drew (S:=(fun W:World=>CKB w (some ⟨pb,po,none⟩) ds cd W∧Below w3.heap.size w3 W∧DfAt W wr.heap.size 0 d a'∧wr.heap.size<W.heap.size)) (by kernel_rfl) hS0 (fun hS=>?_)
     clear hS0;generalize World.drew (wr.alloc (dfBx d a'))=V8 at *;refine tkZ 0 (.map (some mb)) hS ?_;refine tkZ 1 (.pointer (some ⟨wr.heap.size,5,none⟩)) hS ?_;refine tkH 2 (.agg #[.int .i64 d.body.kind,.string d.body.chan,.string d.body.name,.string d.body.label,.int .i64 d.body.ex.kind,.string d.body.ex.name,.int .i64 d.body.ex.so,.int .i64 d.body.ex.n,.string d.body.ex.s,.slice a'.pa.ea d.body.ex.kids.length a'.pa.ec,.slice a'.pa.xa d.body.exs.length a'.pa.xc,.slice a'.pa.na d.body.names.length a'.pa.nc,.int .i64 d.body.ty.kind,.int .i64 d.body.ty.so,.string d.body.ty.name,.slice a'.pa.tl d.body.ty.labels.length a'.pa.tlc,.slice a'.pa.tk d.body.ty.kids.length a'.pa.tkc,.slice a'.pa.la d.body.labels.length a'.pa.lc,.slice a'.pa.ka d.body.kids.length a'.pa.kc]) hS ?_ (hy:=Or.inl ⟨by rfl,fun W hW=>by exact exec_load (by rfl) (by rfl) (load_pr (o:=5) (hW.2.2.1.body))⟩)
     simp only [Act.put,sA,sB,sC];refine tkZ 3 (.map (some mb)) hS ?_;refine tkZ 4 (.pointer (some ⟨wr.heap.size,0,none⟩)) hS ?_;refine tkH 5 (.string d.name) hS ?_ (hy:=Or.inl ⟨by rfl,fun W hW=>by have x0:=hW.2.2.1.get (j:=0) (v:=.string d.name) (by omega) rfl;go_simp⟩)
     simp only [Act.put,sA,sB,sC];refine tkH 6 (.agg #[.slice e.va d.vals.length e.vc,.slice e.sa d.sorts.length e.sc,.slice e.ca d.chans.length e.cc,.slice e.ea (endsD gr d).length e.ec]) hS ?_ (hy:=Or.inl ⟨by rfl,fun W hW=>by have q:=HLK.out W hW.2.1;go_simp⟩)
     simp only [Act.put,sA,sB,sC];refine take_oneHL 7 (aC (fun K hK=>?_) aN) (by kernel_rfl)
     go_simp
     refine (HSC.out V8 H8.out.2.1).mono ?_;rintro e' V9 ⟨⟨mp,rfl,hsc⟩,hb9⟩;have hSn:(fun W:World=>CKB w (some ⟨pb,po,none⟩) ds cd W∧Below w3.heap.size w3 W∧DfAt W wr.heap.size 0 d a'∧wr.heap.size<W.heap.size) V9:=⟨H8.out.1.keep hb9,H8.out.2.1.trans (hb9.mono H8.out.2.1.size),H8.out.2.2.1.keep hb9 H8.out.2.2.2,nL H8.out.2.2.2 hb9.size⟩
     have H9:=hideK hSn;have HS9:=hideK hsc;refine hK.out _ _ hSn ?_;clear hb9 hsc;clear hS hK K hSn;intro hS;try simp only [Act.put,sA,sB,sC]
     refine take_oneHL 8 (aC (fun K hK=>?_) aN) (by kernel_rfl)
     go_simp
     refine (HPR.out mp V9 H9.out.2.1 HS9.out).mono ?_;rintro e' V10 ⟨rfl,hb10⟩;have hSn:(fun W:World=>CKB w (some ⟨pb,po,none⟩) ds cd W∧Below w3.heap.size w3 W∧DfAt W wr.heap.size 0 d a'∧wr.heap.size<W.heap.size) V10:=⟨H9.out.1.keep hb10,H9.out.2.1.trans (hb10.mono H9.out.2.1.size),H9.out.2.2.1.keep hb10 H9.out.2.2.2,nL H9.out.2.2.2 hb10.size⟩
     have H10:=hideK hSn;refine hK.out _ _ hSn ?_;clear hb10;clear hS hK K hSn;intro hS;try simp only [Act.put,sA,sB,sC]
     refine tkZ 9 (.int .i64 rk) hS ?_;refine wpAnyH_done (by kernel_rfl) ?_ _
     clear HLK HSC HPR hS H8 H9 HS9;have ho:=HO.out;clear HO;by_cases hr:rk=0
     ·have hrb2:(rk != 0)=false:=by simpa using hr
      rw [if_neg (by simpa using hr)]at ho
      have HO2:=hideK ho;clear hr ho;go_wp2_with fail
      go_roundw
      case rel=>exact ⟨k+1,HK.out,by go_num,HO2.out,H10.out.1,H10.out.2.1⟩
      case measure=>simp [intOf];have:=HK.out;omega
     ·have hrb2:(rk != 0)=true:=by simpa using hr
      rw [if_pos (by simpa using hr)]at ho
      have HR:=hideK ho;clear hr ho;go_wp2_with fail
      go_ret2
      rw [HR.out];exact ⟨rfl,H10.out.1.bl⟩
    ·have hltz2:¬(k:Int)<(ds.length:Int):=by omega
     rw [List.drop_of_length_le (by omega),bdsG]at ho
     have HR:=hideK ho;have HW:=hideK hW;clear ho hW hW3;go_wp2_with fail
     go_ret2
     rw [HR.out];exact ⟨rfl,HW.out.bl⟩
end Go.Proofs.YtmamabhhgfcjcaaGreatDoor
