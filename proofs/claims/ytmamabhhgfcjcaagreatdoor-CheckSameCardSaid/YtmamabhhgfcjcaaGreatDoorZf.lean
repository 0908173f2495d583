/-
  THE CONTRACT OF check.Check, for every program.
-/
import Derived.Test.YtmamabhhgfcjcaaGreatDoorOo
import Derived.Test.YtmamabhhgfcjcaaGreatDoorOrd
set_option maxRecDepth 100000
set_option maxHeartbeats 16000000
namespace Go.Proofs.YtmamabhhgfcjcaaGreatDoor
open Go.RowKit Go.Shelf
structure RDf(d:Df):Prop where
 hed:hedD d=true
 tys:∀t∈d.tys,chkTy t=0
 body:∃c,c≤200∧(shpR d.body c).1=0
theorem tysE_all{l:List Ty}(h:tysE l=0):∀t∈l,chkTy t=0:=by
 induction l with
 | nil=>intro t ht;cases ht
 | cons x l ih =>
  rw [tysE_cons]at h;by_cases q:chkTy x≠0
  ·rw [if_pos q]at h;exact absurd h q
  ·rw [if_neg q]at h
   intro t ht;rcases List.mem_cons.1 ht with rfl|ht
   ·simpa using q
   ·exact ih h t ht
theorem shp_def{ds:List Df}(h:shpP ds=0):ds≠[]∧ds.length≤10∧∀d∈ds,RDf d:=by
 unfold shpP at h;by_cases h1:ds.length=0
 ·rw [if_pos h1]at h;exact absurd h (by decide)
 rw [if_neg h1]at h;by_cases h2:10<ds.length
 ·rw [if_pos h2]at h;exact absurd h (by decide)
 rw [if_neg h2]at h;refine ⟨fun q=>h1 (by rw [q];rfl),by omega,fun d hd=>?_⟩
 obtain ⟨k,hk,rfl⟩:=List.mem_iff_getElem.1 hd;have t0:(shpDs (ds.take k) (0,0)).1=0:=by
  apply Classical.byContradiction
  intro q;rw [shpDs_split ds k (0,0) q]at h;exact q h
 have hc:=shpDs_cnt (ds.take k) (0,0) (Nat.zero_le _) t0;have e:shpDs (ds.take (k+1)) (0,0)=shpD ds[k] (shpDs (ds.take k) (0,0)).2:=by rw [List.take_succ_eq_append_getElem hk,shpDs_snoc,if_neg (by simpa using t0)]
 have t1:(shpD ds[k] (shpDs (ds.take k) (0,0)).2).1=0:=by
  apply Classical.byContradiction
  intro q;rw [← e]at q;rw [shpDs_split ds (k+1) (0,0) q]at h;exact q h
 unfold shpD at t1;by_cases g1:hedD ds[k]=false
 ·rw [if_pos g1]at t1;exact absurd t1 (by simp)
 rw [if_neg g1]at t1;by_cases g2:tysE ds[k].tys≠0
 ·rw [if_pos g2]at t1;exact absurd t1 g2
 rw [if_neg g2]at t1;exact ⟨by simpa using g1,tysE_all (by simpa using g2),_,hc,t1⟩
theorem RDf.lens{d:Df}(h:RDf d):d.vals.length≤6∧d.sorts.length=d.vals.length∧d.chans.length≤6∧d.tys.length=d.chans.length:=by
 have q:=h.hed;unfold hedD at q;simp only [Bool.and_eq_true]at q;obtain ⟨_,q1,q2,_,q3,q4⟩:=q;unfold areNm at q1 q3;rw [Bool.and_eq_true]at q1 q3;exact ⟨of_decide_eq_true q1.1,of_decide_eq_true q2,of_decide_eq_true q3.1,of_decide_eq_true q4⟩
theorem owns_all:∀(l a:List Df),ownsG a l=none→∀k (hk:k<l.length),ownN (a++l.take k) l[k]=true:=by
 intro l;induction l with
 | nil=>intro a _ k hk;simp at hk
 | cons x l ih =>
  intro a h k hk;rw [ownsG]at h;by_cases q:ownN a x=true
  ·rw [if_pos q]at h
   match k with
   | 0=>simpa using q
   | k+1 =>
    have:=ih (a++[x]) h k (by simpa using hk)
    simpa using this
  ·rw [if_neg q]at h;cases h
theorem owns_names{ds:List Df}(h:ownsG [] ds=none):∀i j (hi:i<ds.length) (hj:j<ds.length),i<j→ds[i].name≠ds[j].name:=by
 intro i j hi hj hij e;have:=owns_all ds [] h j hj;unfold ownN at this;simp only [Bool.and_eq_true,Bool.not_eq_true',List.nil_append]at this;have h3:=this.2.2;rw [List.any_eq_false]at h3;exact h3 ds[i] (List.mem_iff_getElem.2 ⟨i,by simp;omega,by rw [List.getElem_take]⟩) (by simpa using e)
theorem hdOf_own{ds:List Df}(h:∀i j (hi:i<ds.length) (hj:j<ds.length),i<j→ds[i].name≠ds[j].name){k:Nat}(hk:k<ds.length):hdOf ds ds[k].name=some ds[k]:=by
 unfold hdOf;rw [List.find?_eq_some_iff_getElem];exact ⟨by simp,k,hk,rfl,fun j hj=>by simpa using h j k (by omega) hk hj⟩
structure CKB(w:World)(ad:OAd)(ds:List Df)(cd:Nat)(W:World):Prop where
 bl:Below w.heap.size w W
 lt:w.heap.size<W.heap.size
 c0:W.cell? ⟨w.heap.size,0,none⟩=some (.slice ad ds.length cd)
theorem CKB.keep{w:World}{ad:OAd}{ds:List Df}{cd:Nat}{W W':World}(h:CKB w ad ds cd W)(hb:Below W.heap.size W W'):CKB w ad ds cd W' :=
 ⟨h.bl.trans (hb.mono h.bl.size),nL h.lt hb.size,(hb.cell (p:=⟨w.heap.size,0,none⟩) h.lt).trans h.c0⟩
theorem CKB.new(w:World)(ad:OAd)(ds:List Df)(cd:Nat):CKB w ad ds cd (w.alloc (.cells #[.slice ad ds.length cd] 24)):=⟨(bR _ _).alloc (nR _) _,by simp,by go_cell⟩
theorem checkP_any{W0:World}(h0:Tabs W0)(gr og:Ty→List Nd)(hgr:∀t g,chkTy t=0→OFG t g→g=gr t)(hog:∀t g,chkTy t=0→OTG t g→g=og t)(ds:List Df)(ad:OAd)(cd:Nat)(w:World)(hl:ds.length≤cd)(hcd:cd≤9223372036854775807)(hd:DfsAt w w.heap.size ds ad)(hT:AT W0 w):
  Calls Tryz.prog 6 #[.agg #[.slice ad ds.length cd]] w fun e w'=>e = .returned (.tuple #[.int .i64 (ckP gr og ds).1,.int .i64 ((ckP gr og ds).2:Int)])∧Below w.heap.size w w':=by
 have H1:=hideK (CKB.new w ad ds cd);have hA:=H1.out.bl;have cS:=shape_any h0 ds ad cd w.heap.size (w.alloc (.cells #[.slice ad ds.length cd] 24)) (by omega) (hd.keep hA) hA.size (at_k _ _ hT hA)
 obtain ⟨res,hres⟩:∃q,q=ckP gr og ds:=⟨_,rfl⟩;rw [← hres];by_cases hz:shpP ds=0
 case neg =>
  have hzb:(shpP ds != 0)=true:=by simpa using hz
  have hr:res=(shpP ds,0):=by rw [hres];unfold ckP;rw [if_pos hz]
  rw [hr];generalize shpP ds=z at *;clear hl hcd hd hT hres hr hz hA;go_enter Tryz.func6,Tryz.ntmps6
  go_wp2_with fail
  refine cS.mono ?_;rintro e w2 ⟨rfl,hb2⟩;have H2:=hideK (H1.out.keep hb2);clear cS hb2 H1;go_wp2_with fail
  go_ret2
  exact ⟨rfl,H2.out.bl⟩
 case pos =>
 obtain ⟨hne,h10,hrd⟩:=shp_def hz;have hpos:0<ds.length:=List.length_pos_iff.2 hne;obtain ⟨pb,po,hpe,hpB,hcs⟩:=hd.resolve_left hne;unfold ckP at hres;rw [if_neg (by simpa using hz)]at hres
 rw [hz]at cS;rw [show ∀z:Df,ds.getD 0 z=ds[0] from fun z=>by simp [List.getD,hpos]]at hres
 have HRD:=hideK hrd;have HD:=hideK hd;have HCS:=hideK hcs;have HT:=hideK hT;have hkz:(0:Int)<(ds.length:Int):=by omega
 have hlz:(ds.length:Int)≤10:=by omega
 have HLC:=hideK (And.intro hl (And.intro hcd (And.intro h10 hpB)));obtain ⟨a',hat,hok⟩:=hcs 0 hpos;have HAT0:=hideK (fun (W:World) (hW:Below w.heap.size w W)=>hat.keep hW hpB)
 have HP0:=hideK hpos;clear hz hrd hd hcs hT hl hcd h10 hat hok hA;subst hpe;generalize hd0:ds[0]=d at *;clear hd0;have HNE:=hideK hne;clear hne;go_enter Tryz.func6,Tryz.ntmps6
 go_wp2_with fail
 refine cS.mono ?_;rintro e w2 ⟨rfl,hb2⟩;have H2:=hideK (H1.out.keep hb2);have HAT:=hideK (HAT0.out w2 (H1.out.keep hb2).bl);clear cS hb2 H1 HAT0;have c0:=H2.out.c0;have hne:=HNE.out;go_upto_region 4 with fail
 refine wp_region_lit ?_;refine wpList_plain rfl (fun K hK=>?_)
 go_simp
 refine hK _ _ ?_;clear hK K;refine wpList_plain rfl (fun K hK=>?_)
 go_simp
 refine hK _ _ ?_;clear hK K;refine wpList_plain rfl (fun K hK=>?_)
 go_simp
 refine hK _ _ ?_;clear hK K;refine wpList_loadW rfl rfl rfl (load_df HAT.out) ?_;simp only [Act.put,sA,sB,sC];refine wpList_allocW rfl rfl (alloc_df _) ?_;simp only [Act.put,sA,sB,sC];refine wpList_storeW rfl rfl rfl rfl (store_df _ d a') ?_;simp only [Act.put];have hB3:=H2.out.keep ((bR _ _).alloc (nR _) (dfBx d a'));have H3:=hideK hB3;have x1:=(dfBx_at w2 d a').get (j:=1) (v:=.slice a'.va d.vals.length a'.vc) (by omega) rfl
 have x3:=(dfBx_at w2 d a').get (j:=3) (v:=.slice a'.ca d.chans.length a'.cc) (by omega) rfl
 generalize w2.alloc (dfBx d a')=V3 at *;clear hB3 HAT H2 c0;by_cases hv:d.vals.length=0
 case neg =>
  have hvz:(0:Int)<(d.vals.length:Int):=by omega
  rw [if_pos (.inl (by omega))]at hres
  have HR:=hideK hres;have hvn:d.vals≠[]:=fun q=>hv (by rw [q];rfl)
  clear hv hres;go_wp2_with fail
  go_ret2
  rw [HR.out];exact ⟨rfl,H3.out.bl⟩
 case pos =>
 by_cases hc:d.chans.length=0
 case neg =>
  have hcz:(0:Int)<(d.chans.length:Int):=by omega
  rw [if_pos (.inr (by omega))]at hres
  have HR:=hideK hres;have hcn:d.chans≠[]:=fun q=>hc (by rw [q];rfl)
  rw [hv]at x1;clear hv hc hres;go_wp2_with fail
  go_ret2
  rw [HR.out];exact ⟨rfl,H3.out.bl⟩
 case pos =>
 rw [if_neg (by omega)]at hres
 rw [hv]at x1;rw [hc]at x3;have HRS:=hideK hres;clear hv hc hres;go_upto_region 7 with fail
 clear x1 x3;have c0:=H3.out.c0;go_wp2_with fail
 go_loopw [34] (fun i wr=>∃k:Nat,k≤ds.length∧i = .int .i64 (k:Int)∧ownsG [] ds=ownsG (ds.take k) (ds.drop k)∧CKB w (some ⟨pb,po,none⟩) ds cd wr) (fun i _=>ds.length - (intOf i).toNat)
 case atStart=>exact ⟨0,Nat.zero_le _,rfl,rfl,H3.out⟩
 case round =>
  obtain ⟨k,hk,rfl,ho,hW⟩:=hrel;clear H3 c0;by_cases hlt:k<ds.length
  ·have hltz:(k:Int)<(ds.length:Int):=by omega
   have hlen:=(HRD.out ds[k] (List.getElem_mem hlt)).lens;have c:=hasOwn_any ds (some ⟨pb,po,none⟩) cd w.heap.size k wr (HD.out.keep hW.bl) hW.bl.size (by have:=HLC.out;omega) HLC.out.1 HLC.out.2.1 hlt (by omega) (by omega)
   rw [List.drop_eq_getElem_cons hlt,ownsG]at ho;have htk:(ds.take k).length=k:=by simp;omega
   rw [htk,← List.take_succ_eq_append_getElem hlt]at ho;have c0:=hW.c0;have HW:=hideK hW;have HK:=hideK hlt;clear hlen hW htk;generalize ownN (ds.take k) ds[k]=bo at c ho;cases bo with
   | true =>
    rw [if_pos rfl]at ho;have HO:=hideK ho;clear ho;go_wp2_with fail
    refine c.mono ?_;rintro e w5 ⟨rfl,hb5⟩;have H5:=hideK (HW.out.keep hb5);clear c hb5 HW c0;go_wp2_with fail
    go_roundw
    case rel=>exact ⟨k+1,HK.out,by go_num,HO.out,H5.out⟩
    case measure=>simp [intOf];have:=HK.out;omega
   | false =>
    rw [if_neg (by simp)]at ho
    have hr:res=(4,k):=by rw [HRS.out,ho]
    have HR:=hideK hr;clear ho hr HRS;go_wp2_with fail
    refine c.mono ?_;rintro e w5 ⟨rfl,hb5⟩;have H5:=hideK (HW.out.keep hb5);clear c hb5 HW c0;go_wp2_with fail
    go_ret2
    rw [HR.out];exact ⟨rfl,H5.out.bl⟩
  ·have hltz:¬(k:Int)<(ds.length:Int):=by omega
   rw [List.drop_of_length_le (by omega),ownsG]at ho
   have hnd:=owns_names ho;have hrb:res=bdsG gr og ds ds 0:=by rw [HRS.out,ho]
   have cH:=headsOf_any gr hgr ds (some ⟨pb,po,none⟩) cd w.heap.size wr (HD.out.keep hW.bl) hW.bl.size (by have:=HLC.out;omega) (fun d hd=>(HRD.out d hd).tys) (fun d hd=>by have:=(HRD.out d hd).lens;omega) hnd
   have HHO:=hideK (fun (k:Nat) (hk:k<ds.length)=>hdOf_own hnd hk)
   have HRB:=hideK hrb;have HW:=hideK hW;have c0:=hW.c0;clear ho hnd hrb hW HRS;go_wp2_with fail
   refine cH.mono ?_;rintro e w3 ⟨⟨mb,rfl,hds⟩,hb3⟩;have H4:=hideK (HW.out.keep hb3);have HDS3:=hideK hds;clear cH hb3 HW c0 hds;have c0:=H4.out.c0;go_wp2_with fail
   go_loopw [56] (fun i wr=>∃k:Nat,k≤ds.length∧i = .int .i64 (k:Int)∧res=bdsG gr og ds (ds.drop k) k∧CKB w (some ⟨pb,po,none⟩) ds cd wr∧Below w3.heap.size w3 wr) (fun i _=>ds.length - (intOf i).toNat)
   case atStart=>exact ⟨0,Nat.zero_le _,rfl,HRB.out,H4.out,Below.refl _ _⟩
   case round =>
    obtain ⟨k,hk,rfl,ho,hW,hW3⟩:=hrel;clear c0;by_cases hlt:k<ds.length
    ·have hltz2:(k:Int)<(ds.length:Int):=by omega
     rw [List.drop_eq_getElem_cons hlt,bdsG]at ho;obtain ⟨a',hat,hok⟩:=HCS.out k hlt;have hrd:=HRD.out ds[k] (List.getElem_mem hlt);have hlen:=hrd.lens;obtain ⟨cc,hcc,hsh⟩:=hrd.body;obtain ⟨n,hpr⟩:=hok.body;have hb3:Below w.heap.size w w3:=H4.out.bl;have hpr3:=PrOK.mono hb3.size (PrOK.keep hb3 hpr);have hAT3:AT W0 w3:=at_k _ _ HT.out hb3;have hps:=proc_all h0 gr og ds (some mb) w3 hAT3 HDS3.out hgr hog n ds[k].body a'.pa cc hpr3 hcc hsh;obtain ⟨e,hdo,hlk⟩:∃e,HdOK w3 ds[k] (endsD gr ds[k]) e∧∀W,Below w3.heap.size w3 W→(Instr.lookup 64 (.map (some mb)) (.string ds[k].name) false).run Tryz.prog W = .ok (hdVal ds[k] e (endsD gr ds[k]).length) W:=by
      rcases HDS3.out ds[k].name hok.name with ⟨q,_⟩|⟨d',e,q,h1,h2⟩
      ·rw [HHO.out k hlt]at q;cases q
      ·rw [HHO.out k hlt]at q;cases q
       exact ⟨e,h1,fun W hW=>(h2 W hW).2⟩
     have hel:(endsD gr ds[k]).length=ds[k].tys.length:=by simp [endsD]
     have HSC:=hideK (fun (W:World) (hW:Below w3.heap.size w3 W)=>scope_any ds[k] (endsD gr ds[k]) e (endsD gr ds[k]).length rfl W (hdo.keep hW) (by omega) (by omega) (by omega))
     have HPR:=hideK (fun (mp:Option Nat) (W:World) (hW:Below w3.heap.size w3 W) (hs:ScAt W ⟨ds[k].vals,ds[k].sorts,putG (ds[k].chans.zip (endsD gr ds[k]))⟩ ⟨e.va,e.vc,e.sa,e.sc,mp⟩)=>hps (scD gr ds[k]) ⟨e.va,e.vc,e.sa,e.sc,mp⟩ W hW hs (by show ds[k].vals.length≤100+cc;omega))
     have HLK:=hideK hlk;have HAT:=hideK (hat.keep hW.bl HLC.out.2.2.2);generalize ckR gr og ds ds[k].body (scD gr ds[k])=rk at *;clear hps hlk hat hok hrd hlen hsh hpr hb3 hpr3 hAT3 hdo hel;simp only [scD]at HPR;change Hid (∀(mp:Option Nat) (W:World) (hW:Below w3.heap.size w3 W) (hs:ScAt W ⟨ds[k].vals,ds[k].sorts,putG (ds[k].chans.zip (endsD gr ds[k]))⟩ ⟨e.va,e.vc,e.sa,e.sc,mp⟩),Calls Tryz.prog 24 #[.map (some mb),prVal ds[k].body a'.pa,scVal ⟨ds[k].vals,ds[k].sorts,putG (ds[k].chans.zip (endsD gr ds[k]))⟩ ⟨e.va,e.vc,e.sa,e.sc,mp⟩] W fun e w'=>e = .returned (.int .i64 rk)∧Below W.heap.size W w') at HPR
     generalize ds[k]=d at *;have HK:=hideK hlt;have HO:=hideK ho;simp only [scVal,hdVal,prVal]at HSC HPR HLK;have hA:=((Below.refl wr.heap.size wr).alloc (nR _) (dfBx d a'));have H7:=hideK (show (fun W:World=>CKB w (some ⟨pb,po,none⟩) ds cd W∧Below w3.heap.size w3 W∧DfAt W wr.heap.size 0 d a'∧wr.heap.size<W.heap.size) (wr.alloc (dfBx d a')) from ⟨hW.keep hA,hW3.trans (hA.mono hW3.size),dfBx_at wr d a',by simp⟩)
     clear ho hW hW3 hA;go_upto_region 18 with fail
     refine wp_region_lit ?_;refine wpList_plain rfl (fun K hK=>?_)
     go_simp
     refine hK _ _ ?_;clear hK K;refine wpList_plain rfl (fun K hK=>?_)
     go_simp
     refine hK _ _ ?_;clear hK K;refine wpList_loadW rfl rfl rfl (load_df HAT.out) ?_;simp only [Act.put,sA,sB,sC];refine wpList_allocW rfl rfl (alloc_df _) ?_;simp only [Act.put,sA,sB,sC];refine wpList_plain rfl (fun K hK=>?_)
     go_simp
     refine hK _ _ ?_;clear hK K;refine wpList_storeW rfl rfl rfl rfl (store_df _ d a') ?_;simp only [Act.put];go_upto_region 19 with fail
     have hS0:(fun W:World=>CKB w (some ⟨pb,po,none⟩) ds cd W∧Below w3.heap.size w3 W∧DfAt W wr.heap.size 0 d a'∧wr.heap.size<W.heap.size) (World.drew (wr.alloc (dfBx d a'))):=⟨H7.out.1.keep (bR _ _).drew,H7.out.2.1.trans ((bR _ _).drew.mono H7.out.2.1.size),H7.out.2.2.1.keep (bR _ _).drew H7.out.2.2.2,H7.out.2.2.2⟩
     have H8:=hideK hS0;clear H7 HAT;refine wp_region_held_drew (S:=(fun W:World=>CKB w (some ⟨pb,po,none⟩) ds cd W∧Below w3.heap.size w3 W∧DfAt W wr.heap.size 0 d a'∧wr.heap.size<W.heap.size)) (by kernel_rfl) hS0 (fun hS=>?_)
     clear hS0;generalize World.drew (wr.alloc (dfBx d a'))=V8 at *;refine tkZ 0 (.map (some mb)) hS ?_;refine tkZ 1 (.pointer (some ⟨wr.heap.size,5,none⟩)) hS ?_;refine tkH 2 (.agg #[.int .i64 d.body.kind,.string d.body.chan,.string d.body.name,.string d.body.label,.int .i64 d.body.ex.kind,.string d.body.ex.name,.int .i64 d.body.ex.so,.int .i64 d.body.ex.n,.string d.body.ex.s,.slice a'.pa.ea d.body.ex.kids.length a'.pa.ec,.slice a'.pa.xa d.body.exs.length a'.pa.xc,.slice a'.pa.na d.body.names.length a'.pa.nc,.int .i64 d.body.ty.kind,.int .i64 d.body.ty.so,.string d.body.ty.name,.slice a'.pa.tl d.body.ty.labels.length a'.pa.tlc,.slice a'.pa.tk d.body.ty.kids.length a'.pa.tkc,.slice a'.pa.la d.body.labels.length a'.pa.lc,.slice a'.pa.ka d.body.kids.length a'.pa.kc]) hS ?_ (hy:=Or.inl ⟨by rfl,fun W hW=>by exact exec_load (by rfl) (by rfl) (load_pr (o:=5) (hW.2.2.1.body))⟩)
     simp only [Act.put,sA,sB,sC];refine tkZ 3 (.map (some mb)) hS ?_;refine tkZ 4 (.pointer (some ⟨wr.heap.size,0,none⟩)) hS ?_;refine tkH 5 (.string d.name) hS ?_ (hy:=Or.inl ⟨by rfl,fun W hW=>by have x0:=hW.2.2.1.get (j:=0) (v:=.string d.name) (by omega) rfl;go_simp⟩)
     simp only [Act.put,sA,sB,sC];refine tkH 6 (.agg #[.slice e.va d.vals.length e.vc,.slice e.sa d.sorts.length e.sc,.slice e.ca d.chans.length e.cc,.slice e.ea (endsD gr d).length e.ec]) hS ?_ (hy:=Or.inl ⟨by rfl,fun W hW=>by have q:=HLK.out W hW.2.1;go_simp⟩)
     simp only [Act.put,sA,sB,sC];refine take_oneHL 7 (aC (fun K hK=>?_) aN) (by kernel_rfl)
     go_simp
     refine (HSC.out V8 H8.out.2.1).mono ?_;rintro e' V9 ⟨⟨mp,rfl,hsc⟩,hb9⟩;have hSn:(fun W:World=>CKB w (some ⟨pb,po,none⟩) ds cd W∧Below w3.heap.size w3 W∧DfAt W wr.heap.size 0 d a'∧wr.heap.size<W.heap.size) V9:=⟨H8.out.1.keep hb9,H8.out.2.1.trans (hb9.mono H8.out.2.1.size),H8.out.2.2.1.keep hb9 H8.out.2.2.2,nL H8.out.2.2.2 hb9.size⟩
     have H9:=hideK hSn;have HS9:=hideK hsc;refine hK.out _ _ hSn ?_;clear hb9 hsc;clear hS hK K hSn;intro hS;try simp only [Act.put,sA,sB,sC]
     refine take_oneHL 8 (aC (fun K hK=>?_) aN) (by kernel_rfl)
     go_simp
     refine (HPR.out mp V9 H9.out.2.1 HS9.out).mono ?_;rintro e' V10 ⟨rfl,hb10⟩;have hSn:(fun W:World=>CKB w (some ⟨pb,po,none⟩) ds cd W∧Below w3.heap.size w3 W∧DfAt W wr.heap.size 0 d a'∧wr.heap.size<W.heap.size) V10:=⟨H9.out.1.keep hb10,H9.out.2.1.trans (hb10.mono H9.out.2.1.size),H9.out.2.2.1.keep hb10 H9.out.2.2.2,nL H9.out.2.2.2 hb10.size⟩
     have H10:=hideK hSn;refine hK.out _ _ hSn ?_;clear hb10;clear hS hK K hSn;intro hS;try simp only [Act.put,sA,sB,sC]
     refine tkZ 9 (.int .i64 rk) hS ?_;refine wpAnyH_done (by kernel_rfl) ?_ _
     clear HLK HSC HPR hS H8 H9 HS9;have ho:=HO.out;clear HO;by_cases hr:rk=0
     ·have hrb2:(rk != 0)=false:=by simpa using hr
      rw [if_neg (by simpa using hr)]at ho
      have HO2:=hideK ho;clear hr ho;go_wp2_with fail
      go_roundw
      case rel=>exact ⟨k+1,HK.out,by go_num,HO2.out,H10.out.1,H10.out.2.1⟩
      case measure=>simp [intOf];have:=HK.out;omega
     ·have hrb2:(rk != 0)=true:=by simpa using hr
      rw [if_pos (by simpa using hr)]at ho
      have HR:=hideK ho;clear hr ho;go_wp2_with fail
      go_ret2
      rw [HR.out];exact ⟨rfl,H10.out.1.bl⟩
    ·have hltz2:¬(k:Int)<(ds.length:Int):=by omega
     rw [List.drop_of_length_le (by omega),bdsG]at ho
     have HR:=hideK ho;have HW:=hideK hW;clear ho hW hW3;go_wp2_with fail
     go_ret2
     rw [HR.out];exact ⟨rfl,HW.out.bl⟩
def dCs(ts:List (Df × DfA)):List Value:=ts.flatMap fun t=>dfCs t.1 t.2
theorem dCs_app(l m:List (Df × DfA)):dCs (l++m)=dCs l++dCs m:=by unfold dCs;rw [List.flatMap_append]
theorem dfCs_len(d:Df)(a:DfA):(dfCs d a).length=24:=rfl
theorem dCs_at(l:List (Df × DfA)):∀(i:Nat) (h:i<l.length) (j:Nat),j<24→(dCs l)[i*24+j]? = (dfCs l[i].1 l[i].2)[j]?:=by
 induction l with
 | nil=>intro i h;simp at h
 | cons t l ih =>
  intro i h j hj;show (dfCs t.1 t.2++dCs l)[i*24+j]? = _
  match i with
  | 0=>rw [Nat.zero_mul,Nat.zero_add,List.getElem?_append_left (by rw [dfCs_len];exact hj)];rfl
  | i+1 =>
   rw [List.getElem?_append_right (by rw [dfCs_len];omega),dfCs_len,show (i+1)*24+j - 24=i*24+j by omega]
   exact ih i (by simpa using h) j hj
theorem dCs_one(l:List (Df × DfA)):∀u∈dCs l,u.oneCell'=true:=by
 intro u hu;obtain ⟨t,_,ht⟩:=List.mem_flatMap.1 hu;simp only [dfCs,dfHd,prCs,List.mem_append,List.mem_cons,List.not_mem_nil,or_false]at ht;rcases ht with (h|h|h|h|h)|(h|h|h|h|h|h|h|h|h|h|h|h|h|h|h|h|h|h|h) <;> (rw [h];rfl)
theorem infoDf:(Tryz.prog.info? 42).map (fun i=>(i.zero,i.size,i.bytes))=some (some (.agg #[.string ⟨#[]⟩,.slice none 0 0,.slice none 0 0,.slice none 0 0,.slice none 0 0,.int .i64 0,.string ⟨#[]⟩,.string ⟨#[]⟩,.string ⟨#[]⟩,.int .i64 0,.string ⟨#[]⟩,.int .i64 0,.int .i64 0,.string ⟨#[]⟩,.slice none 0 0,.slice none 0 0,.slice none 0 0,.int .i64 0,.int .i64 0,.string ⟨#[]⟩,.slice none 0 0,.slice none 0 0,.slice none 0 0,.slice none 0 0]),24,424):=by kernel_rfl
theorem rowD{W:World}{B B0:Nat}{v:Value}{ts:List (Df × DfA)}(ho:W.ownsRow B 42 24 v ts.length (dCs ts))(hok:∀t∈ts,DfOK W B0 t.1 t.2)(hB:B0≤W.heap.size):∃aq cq,v = .slice aq ts.length cq∧ts.length≤cq∧cq≤9223372036854775807∧DfsAt W W.heap.size (ts.map (·.1)) aq:=by
 have hc:=own_cells ho;obtain ⟨_,h⟩:=ho;rcases h with ⟨e,h0⟩|⟨g,cap,cur,e,_,_,q1,q2,_⟩
 ·exact ⟨none,0,by rw [e,h0],by omega,by omega,.inl (by rw [List.length_eq_zero_iff.1 h0];rfl)⟩
 ·refine ⟨_,_,e,q1,q2,.inr ⟨g,0,rfl,?_,fun i hi=>?_⟩⟩
  ·rcases hc with ⟨e2,_⟩|⟨g',cap',e2,_,hg,_⟩
   ·rw [e]at e2;cases e2
   ·rw [e]at e2;cases e2;exact hg
  ·rcases hc with ⟨e2,_⟩|⟨g',cap',e2,_,_,hcc⟩
   ·rw [e]at e2;cases e2
   ·rw [e]at e2;cases e2
    have hi':i<ts.length:=by simpa using hi
    rw [List.getElem_map];refine ⟨ts[i].2,fun j hj=>?_,(hok _ (List.getElem_mem hi')).mono hB⟩
    have hq:=dCs_at ts i hi' j hj;have hlt:j<(dfCs ts[i].1 ts[i].2).length:=by rw [dfCs_len];exact hj
    rw [List.getElem?_eq_getElem hlt]at hq ⊢;rw [Nat.zero_add];exact hcc _ _ hq
def pS:Pr:=⟨1,⟨#[]⟩,⟨#[]⟩,⟨#[]⟩,⟨0,⟨#[]⟩,0,0,⟨#[]⟩,[]⟩,[],[],⟨0,0,⟨#[]⟩,[],[]⟩,[],[]⟩
def xD:Df:=⟨⟨#[109,97,105,110]⟩,[⟨#[120]⟩],[1],[],[],pS⟩
theorem xD_hd:hedD xD=true:=by decide
theorem pS_ok:partP pS=true:=by decide
theorem xD_ck(gr og:Ty→List Nd):ckP gr og [xD]=(1,0):=by
 have h:shpP [xD]=0:=by
  unfold shpP;rw [if_neg (by decide),if_neg (by decide)]
  show (shpD xD 0).1=0
  unfold shpD;rw [if_neg (by rw [xD_hd];simp),if_neg (by decide)]
  show (shpR pS 0).1=0
  rw [shpR_eq,if_neg (by decide),if_neg (by rw [pS_ok];simp),if_neg (by decide)]
  rfl
 unfold ckP;rw [if_neg (by rw [h];simp),if_pos (.inl (by decide))]
def xW(w:World):World:=((w.alloc (.cells #[.string ⟨#[120]⟩] 9)).alloc (.cells #[.int .i64 1] 3)).alloc (dfBx xD ⟨some ⟨w.heap.size,0,none⟩,1,some ⟨w.heap.size+1,0,none⟩,1,none,0,none,0,pa0⟩)
theorem xW_bl(w:World):Below w.heap.size w (xW w):=(((bR _ _).alloc (nR _) _).alloc (by simp) _).alloc (by simp;omega) _
theorem xW_at(w:World):DfsAt (xW w) (xW w).heap.size [xD] (some ⟨w.heap.size+1+1,0,none⟩):=by
 have hs:(xW w).heap.size=w.heap.size+3:=by unfold xW;simp
 have b2:Below ((w.alloc (.cells #[.string ⟨#[120]⟩] 9)).alloc (.cells #[.int .i64 1] 3)).heap.size ((w.alloc (.cells #[.string ⟨#[120]⟩] 9)).alloc (.cells #[.int .i64 1] 3)) (xW w):=(bR _ _).alloc (nR _) _;have c0:(xW w).cell? ⟨w.heap.size,0,none⟩=some (.string ⟨#[120]⟩):=(b2.cell (p:=⟨w.heap.size,0,none⟩) (by show w.heap.size<_;simp;omega)).trans (by go_cell)
 have c1:(xW w).cell? ⟨w.heap.size+1,0,none⟩=some (.int .i64 1):=(b2.cell (p:=⟨w.heap.size+1,0,none⟩) (by show w.heap.size+1<_;simp)).trans (by go_cell)
 refine .inr ⟨w.heap.size+1+1,0,rfl,by omega,fun i hi=>?_⟩
 have hi0:i=0:=by change i<1 at hi;omega
 subst hi0;refine ⟨⟨some ⟨w.heap.size,0,none⟩,1,some ⟨w.heap.size+1,0,none⟩,1,none,0,none,0,pa0⟩,?_,?_⟩
 ·have:=dfBx_at ((w.alloc (.cells #[.string ⟨#[120]⟩] 9)).alloc (.cells #[.int .i64 1] 3)) xD ⟨some ⟨w.heap.size,0,none⟩,1,some ⟨w.heap.size+1,0,none⟩,1,none,0,none,0,pa0⟩
  rw [show ((w.alloc (.cells #[.string ⟨#[120]⟩] 9)).alloc (.cells #[.int .i64 1] 3)).heap.size=w.heap.size+1+1 from by simp]at this
  exact this
 ·have hn:NmsAt (xW w) (xW w).heap.size [] none 0:=⟨(fun l hl=>by cases hl),nR _,Nat.zero_le _,.inl rfl⟩
  change DfOK (xW w) (xW w).heap.size xD _
  refine ⟨by show (⟨#[109,97,105,110]⟩:ByteArray).size≤_;decide,⟨fun l hl=>?_,nR _,show (1:Nat)≤9223372036854775807 from by decide,.inr ⟨w.heap.size,0,rfl,by omega,fun i hi=>?_⟩⟩,nR _,show (1:Nat)≤9223372036854775807 from by decide,.inr ⟨w.heap.size+1,0,rfl,by omega,fun i hi=>?_⟩,hn,⟨nR _,Nat.zero_le _,0,rfl⟩,0,⟨by decide,by decide,by decide,⟨by decide,by decide,by decide,by decide,nR _,Nat.zero_le _⟩,⟨0,rfl⟩,⟨nR _,Nat.zero_le _,0,rfl⟩,hn,⟨by decide,(fun l hl=>by cases hl),nR _,Nat.zero_le _,nR _,Nat.zero_le _⟩,.inl rfl,⟨0,rfl⟩,hn,nR _,Nat.zero_le _⟩,rfl⟩
  ·have:l∈[(⟨#[120]⟩:ByteArray)]:=hl
   rw [List.mem_singleton.1 this];decide
  ·have hi0:i=0:=by change i<1 at hi;omega
   subst hi0;exact c0
  ·have hi0:i=0:=by change i<1 at hi;omega
   subst hi0;exact c1
structure DfQ(w0:World)(B0:Nat)(W:World)(P:Nat→Prop)(d:Df)(a:DfA):Prop where
 name:d.name.size≤9223372036854775807
 vals:NmsAt w0 B0 d.vals a.va a.vc
 sl:d.sorts.length≤a.sc
 sc:a.sc≤9223372036854775807
 srt:NAt w0 B0 (d.sorts.map (Value.int .i64)) a.sa
 chs:NmsAt w0 B0 d.chans a.ca a.cc
 tl:d.tys.length≤a.tc
 tc:a.tc≤9223372036854775807
 kt:∃n,KP W P n d.tys a.ta
 body:∃n,PrQ w0 B0 W P n d.body a.pa
theorem DfQ.keep{w0 W W':World}{B0:Nat}{P Q:Nat→Prop}{d:Df}{a:DfA}(hb:∀b o,P b→W'.cell? ⟨b,o,none⟩=W.cell? ⟨b,o,none⟩)(hq:∀b,P b→Q b)(h:DfQ w0 B0 W P d a):DfQ w0 B0 W' Q d a :=
 ⟨h.name,h.vals,h.sl,h.sc,h.srt,h.chs,h.tl,h.tc,h.kt.imp fun _ q=>q.keep hb hq,h.body.imp fun _ q=>q.keep hb hq⟩
theorem DfQ.ok{w0 W:World}{B0 B:Nat}{P:Nat→Prop}{d:Df}{a:DfA}(h0:Below B0 w0 W)(hB:B0≤B)(hP:∀b,P b→b<B)(h:DfQ w0 B0 W P d a):DfOK W B d a :=
 ⟨h.name,(h.vals.keep h0).mono hB,h.sl,h.sc,(NAt.keep h0 h.srt).mono hB,(h.chs.keep h0).mono hB,⟨h.tl,h.tc,h.kt.imp fun _ q=>q.kt hP⟩,h.body.imp fun _ q=>q.ok h0 hB hP⟩
structure XB(W:World)(b:Nat)(d:Df)(a:DfA):Prop where
 at0:DfAt W b 0 d a
 f:∀o,W.frozen? ⟨b,o,none⟩=false
 lt:b<W.heap.size
theorem XB.keep{W W':World}{b:Nat}{d:Df}{a:DfA}(h:XB W b d a)(hb:Below W.heap.size W W'):XB W' b d a :=
 ⟨h.at0.keep hb h.lt,fun o=>(hb.frozen (p:=⟨b,o,none⟩) h.lt).trans (h.f o),nL h.lt hb.size⟩
theorem XB.blk{W W':World}{b:Nat}{d:Df}{a:DfA}(h:XB W b d a)(hb:W'.heap[b]? = W.heap[b]?)(hs:W.heap.size≤W'.heap.size):XB W' b d a :=
 ⟨fun j hj=>(World.cell?_of_block (a:=⟨b,0+j,none⟩) hb).trans (h.at0 j hj),fun o=>(World.frozen?_of_block (a:=⟨b,o,none⟩) hb).trans (h.f o),nL h.lt hs⟩
theorem XB.new(W:World)(d:Df)(a:DfA):XB (W.alloc (dfBx d a)) W.heap.size d a:=⟨dfBx_at W d a,fun o=>by unfold dfBx;go_simp,by simp⟩
theorem XB.tys{W:World}{b:Nat}{d:Df}{a:DfA}(h:XB W b d a)(ts:List Ty)(ta:OAd)(tc:Nat):∃W2,W.setCell ⟨b,4,none⟩ (.slice ta ts.length tc)=W2∧XB W2 b ⟨d.name,d.vals,d.sorts,d.chans,ts,d.body⟩ ⟨a.va,a.vc,a.sa,a.sc,a.ca,a.cc,ta,tc,a.pa⟩∧(∀b',b'≠b→W2.heap[b']? = W.heap[b']?)∧W2.heap.size=W.heap.size∧∀(B:Nat) (v:World),B≤b→Below B v W→Below B v W2:=by
 refine ⟨_,rfl,⟨fun j hj=>?_,fun o=>(World.frozen?_setCell _ _ _ _).trans (h.f o),by rw [World.size_setCell];exact h.lt⟩,fun b' hb=>Go.Deep.blk_setCell_other _ _ _ _ hb,World.size_setCell _ _ _,fun B v hB hv=>hv.setCell (p:=⟨b,4,none⟩) hB _⟩
 have hq:=h.at0 j hj;rw [Nat.zero_add]at hq ⊢;by_cases h4:j=4
 ·subst h4
  exact World.cell?_setCell_same _ _ _ hq
 ·rw [World.cell?_setCell_other _ _ _ _ (fun e=>by injection e with e1 e2;exact h4 e2.symm),hq]
  have:j=0∨j=1∨j=2∨j=3∨j=5∨j=6∨j=7∨j=8∨j=9∨j=10∨j=11∨j=12∨j=13∨j=14∨j=15∨j=16∨j=17∨j=18∨j=19∨j=20∨j=21∨j=22∨j=23:=by omega
  rcases this with rfl|rfl|rfl|rfl|rfl|rfl|rfl|rfl|rfl|rfl|rfl|rfl|rfl|rfl|rfl|rfl|rfl|rfl|rfl|rfl|rfl|rfl|rfl <;> rfl
theorem store_off{W:World}{b o n:Nat}(t:TypeId)(vs:List Value)(hn:vs.length=n)(hc:∀j,j<n→(W.cell? ⟨b,o+j,none⟩).isSome=true)(hf:∀j,W.frozen? ⟨b,j,none⟩=false)(hi:(Tryz.prog.info? t).map (·.size)=some n)(h1:∀v∈vs,v.oneCell'=true):(Instr.storeAt t (.pointer (some ⟨b,o,none⟩)) (.agg vs.toArray)).run Tryz.prog W = .ok () (W.setCells b o vs):=by
 have hst:=run_storeCells_cells (P:=Tryz.prog) b o vs 0 W (fun j hj=>by rw [Nat.add_zero];exact hc j (by omega)) (fun j _=>hf _) h1
 rw [Nat.add_zero]at hst;cases hq:Tryz.prog.info? t with
 | none=>rw [hq]at hi;cases hi
 | some i =>
  have hs:i.size=n:=by rw [hq]at hi;simpa using hi
  simp [Instr.storeAt,storeVar,sizeOf,typeInfo,hq,Value.cells,hs,hn,Instr.sureAddr,hst,Result.andThen]
theorem XB.some{W:World}{b:Nat}{d:Df}{a:DfA}(h:XB W b d a):∀j,j<19→(W.cell? ⟨b,5+j,none⟩).isSome=true:=fun j hj=>by
 have hq:=h.at0 (5+j) (by omega)
 rw [Nat.zero_add]at hq;rw [hq,List.getElem?_eq_getElem (by rw [dfCs_len];omega)]
 rfl
theorem setCells_blk(b:Nat):∀(vs:List Value) (o:Nat) (w:World) (k:Nat),k≠b→(w.setCells b o vs).heap[k]? = w.heap[k]?
 | [],_,_,_,_=>rfl
 | v::r,o,w,k,hk=>by rw [World.setCells,setCells_blk b r _ _ k hk,Go.Deep.blk_setCell_other _ _ _ _ hk]
theorem XB.body{W:World}{b:Nat}{d:Df}{a:DfA}(h:XB W b d a)(q:Pr)(pa:PrA):∃W2,W.setCells b 5 (prCs q pa)=W2∧XB W2 b ⟨d.name,d.vals,d.sorts,d.chans,d.tys,q⟩ ⟨a.va,a.vc,a.sa,a.sc,a.ca,a.cc,a.ta,a.tc,pa⟩∧(∀b',b'≠b→W2.heap[b']? = W.heap[b']?)∧W2.heap.size=W.heap.size∧∀(B:Nat) (v:World),B≤b→Below B v W→Below B v W2:=by
 refine ⟨_,rfl,⟨fun j hj=>?_,fun o=>(World.frozen?_setCells _ _ _ _ _).trans (h.f o),by rw [setCells_size];exact h.lt⟩,fun b' hb=>setCells_blk _ _ _ _ _ hb,setCells_size _ _ _ _,fun B v hB hv=>setCells_below hB _ _ _ hv⟩
 rw [Nat.zero_add];unfold dfCs;by_cases h5:j<5
 ·rw [World.cell?_setCells_out b _ 5 W _ (fun _ _=>.inl h5),List.getElem?_append_left (by show j<5;exact h5)]
  have hq:=h.at0 j hj;rw [Nat.zero_add]at hq;rw [hq];unfold dfCs;rw [List.getElem?_append_left (by show j<5;exact h5)]
  rfl
 ·obtain ⟨i,rfl⟩:∃i,j=5+i:=⟨j - 5,by omega⟩
  rw [World.cell?_setCells_in b (prCs q pa) 5 W (fun i hi=>h.some i (by rw [prCs_len]at hi;exact hi)) i (by rw [prCs_len];omega),List.getElem?_append_right (by show 5≤_;omega)]
  rw [show 5+i - (dfHd ⟨d.name,d.vals,d.sorts,d.chans,d.tys,q⟩ ⟨a.va,a.vc,a.sa,a.sc,a.ca,a.cc,a.ta,a.tc,pa⟩).length=i from by simp [dfHd]]
  rw [List.getElem?_eq_getElem (by rw [prCs_len];omega)]
theorem one_df(d:Df)(a:DfA):∀v∈dfCs d a,v.oneCell'=true:=fun v hv=>dCs_one [(d,a)] v (by unfold dCs;simpa using hv)
structure QB(W:World)(b:Nat)(u:Value):Prop where
 c:W.cell? ⟨b,0,none⟩=some u
 f:W.frozen? ⟨b,0,none⟩=false
 lt:b<W.heap.size
theorem QB.keep{W W':World}{b B:Nat}{u:Value}(h:QB W b u)(hb:Below B W W')(hB:b<B):QB W' b u:=⟨(hb.cell (p:=⟨b,0,none⟩) hB).trans h.c,(hb.frozen (p:=⟨b,0,none⟩) hB).trans h.f,nL h.lt hb.size⟩
theorem dfq_row{w0 W:World}{base B0 n:Nat}{P:Nat→Prop}{v:Value}{ts:List (Df × DfA)}(ho:W.ownsRow base 42 24 v n (dCs ts))(hn:ts.length=n)(hok:∀t∈ts,DfQ w0 B0 W P t.1 t.2)(h0:Below B0 w0 W)(hB:B0≤W.heap.size)(hP:∀b,P b→b<W.heap.size):∃aq cq,v = .slice aq n cq∧n≤cq∧cq≤9223372036854775807∧DfsAt W W.heap.size (ts.map (·.1)) aq:=by
 subst hn;exact rowD ho (fun t ht=>(hok t ht).ok h0 hB hP) (nR _)
section
variable {P:Program} {ops:Array Oper} {Q:Exit→Act→World→Prop} {md:Region.Mode} {S:World→Prop} {stop:Nat}
def wpUpto(P:Program)(md:Region.Mode)(ops:Array Oper)(Q:Exit→Act→World→Prop)(S:World→Prop)(stop:Nat):Nat→Array Bool→Act→World→Prop
 | 0,done,a,w=>Region.ready md ops done=[]∧Q .normal a w
 | n+1,done,a,w=>(Region.ready md ops done=[]→Q .normal a w) ∧
  ∀i∈Region.ready md ops done,wpOp P ops Q i (fun a' w'=>(i≠stop→S w')∧wpUpto P md ops Q S stop n (done.setIfInBounds i true) a' w') a w
theorem wpAny_of_upto:∀(n:Nat) (done:Array Bool) (a:Act) (w:World),wpUpto P md ops Q S stop n done a w→wpAny P md ops Q n done a w
 | 0,_,_,_,h=>h
 | n+1,_,_,_,h=>⟨h.1,fun i hi=>wpOp_mono (fun a' w' h'=>wpAny_of_upto n _ a' w' h'.2) (h.2 i hi)⟩
def waitsB(md:Region.Mode)(ops:Array Oper)(stop i:Nat):Bool:=match ops[stop]? with
 | some o=>o.after.any fun e=>Region.binds md e && decide (e.on=i)
 | none=>false
theorem not_stop{done:Array Bool}{i j:Nat}(hw:waitsB md ops stop i=true)(hi:i∈Region.ready md ops done)(hj:j∈Region.ready md ops done):j≠stop:=by
 rintro rfl;obtain ⟨_,o,ho,hall⟩:=mem_ready.1 hj;unfold waitsB at hw;rw [ho]at hw;obtain ⟨k,hk,_,_,hb⟩:=Array.any_iff_exists.1 hw;rw [Bool.and_eq_true,decide_eq_true_eq]at hb;have h1:=hall _ (Array.getElem_mem hk) hb.1;have h0:=(mem_ready.1 hi).1;rw [hb.2]at h1;rcases Nat.lt_or_ge i done.size with h'|h'
 ·simp [h']at h0 h1;rw [h0]at h1;cases h1
 ·simp [Array.getElem?_eq_none h']at h1
theorem upto_first{i:Nat}{oi:Oper}{v:Value}(hi:ops[i]? = some oi)(hsel:∀(j:Nat) (o:Oper) cs b,ops[j]? = some o→o.op≠.select cs b)(hQ:∀c a w,Q (.panic c) (a.put oi.dst v) w→Q (.panic c) a w)(hst:waitsB md ops stop i=true):
  ∀(n:Nat) (done:Array Bool) (a:Act) (w:World),(∀j oj,ops[j]? = some oj→j≠i→done.getD j true=false→(∀e∈oj.after,Region.binds md e=true→e.on≠i)→oi.apart ops oj=true) →
   i∈Region.ready md ops done→YieldsIf P ops S oi v a→S w→wpUpto P md ops Q S stop n (done.setIfInBounds i true) (a.put oi.dst v) w→wpUpto P md ops Q S stop (n+1) done a w:=by
 intro n;induction n with
 | zero =>
  intro done a w _ hr hy hS H;refine ⟨fun h=>(by rw [h]at hr;cases hr),fun j hj=>?_⟩
  by_cases hji:j=i
  ·subst hji;exact hy.wpOp hi hS ⟨fun _=>hS,H⟩
  ·have:=ready_mono hj hji
   rw [H.1]at this;cases this
 | succ n ih =>
  intro done a w hfree hr hy hS H;refine ⟨fun h=>(by rw [h]at hr;cases hr),fun j hj=>?_⟩
  by_cases hji:j=i
  ·subst hji;exact hy.wpOp hi hS ⟨fun _=>hS,H⟩
  ·have hjs:=not_stop hst hr hj
   obtain ⟨hjun,oj,hoj,hall⟩:=mem_ready.1 hj;have hnot:∀e∈oj.after,Region.binds md e=true→e.on≠i:=fun e he hb q=>by
    have h1:=hall e he hb;have h0:=(mem_ready.1 hr).1;rw [q]at h1;rcases Nat.lt_or_ge i done.size with h'|h'
    ·simp [h']at h0 h1;rw [h0]at h1;cases h1
    ·simp [Array.getElem?_eq_none h']at h1
   have h2:=wpOp_putIf hoj (hfree j oj hoj hji hjun hnot) (fun cs b=>hsel i oi cs b hi) (fun cs b=>hsel j oj cs b hoj) hQ hy (H.2 j (ready_mono hj hji))
   refine wpOp_mono (fun a' w' h3=>⟨h3.2.1,ih (done.setIfInBounds j true) a' w' (fun k ok hk hki hun hno=>hfree k ok hk hki (by
    by_cases hjk:j=k
    ·subst hjk;exact hjun
    ·rw [getD_set_ne true hjk]at hun;exact hun) hno) (ready_mono hr (Ne.symm hji)) h3.1 (h3.2.1 hjs) ?_⟩) h2
   rw [Array.setIfInBounds_comm _ _ hji];exact h3.2.2
theorem upto_take{i:Nat}{oi:Oper}{v:Value}{n:Nat}{done:Array Bool}{a:Act}{w:World}(hi:ops[i]? = some oi)(hs:Region.noSelect ops=true)(hf:Region.free md ops done i=true)(hr:(Region.ready md ops done).contains i=true)(hst:waitsB md ops stop i=true)
  (hQ:∀c a w,Q (.panic c) (a.put oi.dst v) w→Q (.panic c) a w) (hy:YieldsIf P ops S oi v a) (hS:S w) (h:wpUpto P md ops Q S stop n (done.setIfInBounds i true) (a.put oi.dst v) w):wpUpto P md ops Q S stop (n+1) done a w :=
 upto_first hi (Region.noSelect_spec hs) hQ hst n done a w (Region.free_spec hi hf) (by simpa using hr) hy hS h
theorem upto_one{n:Nat}{done:Array Bool}{a:Act}{w:World}(i:Nat){o:Oper}(ho:ops[i]? = some o)(hr:Region.ready md ops done=[i])
  (h:∀K':Act→World→Prop,Shut (∀a w,S w→(S w→wpUpto P md ops Q S stop n (done.setIfInBounds i true) a w)→K' a w)→if Region.wanted o (yielded ops a.tmps)=true then Oper.wp P o a w K' Q else K' (a.put o.dst undef) w):wpUpto P md ops Q S stop (n+1) done a w:=by
 refine ⟨fun q=>absurd (hr.symm.trans q) (by simp),fun j hj=>?_⟩
 rw [hr,List.mem_singleton]at hj;subst hj;exact wpOp_step ho fun K' hK=>h K' fun a w hS hW=>hK a w ⟨fun _=>hS,hW hS⟩
theorem upto_last{n:Nat}{done:Array Bool}{a:Act}{w:World}{o:Oper}(ho:ops[stop]? = some o)(hr:Region.ready md ops done=[stop])
  (h:∀K':Act→World→Prop,Shut (∀a w,wpUpto P md ops Q S stop n (done.setIfInBounds stop true) a w→K' a w)→if Region.wanted o (yielded ops a.tmps)=true then Oper.wp P o a w K' Q else K' (a.put o.dst undef) w):wpUpto P md ops Q S stop (n+1) done a w:=by
 refine ⟨fun q=>absurd (hr.symm.trans q) (by simp),fun j hj=>?_⟩
 rw [hr,List.mem_singleton]at hj;subst hj;exact wpOp_step ho fun K' hK=>h K' fun a w hW=>hK a w ⟨fun q=>absurd rfl q,hW⟩
theorem tkU(i:Nat)(v:Value){oi:Oper}{n:Nat}{l:Array Bool}{a:Act}{w:World}(hS:S w)(h:wpUpto P md ops Q S stop n (l.setIfInBounds i true) (a.put oi.dst v) w)(hi:ops[i]? = some oi:=by rw [List.getElem?_toArray];rfl)
  (hs:Region.noSelect ops=true:=by kernel_rfl) (hf:Region.free md ops l i=true:=by kernel_rfl) (hr:(Region.ready md ops l).contains i=true:=by kernel_rfl) (hst:waitsB md ops stop i=true:=by kernel_rfl)
  (hQ:∀c a w,Q (.panic c) (a.put oi.dst v) w→Q (.panic c) a w:=by exact fun _ _ _ h=>h) (hy:YieldsIf P ops S oi v a:=by exact Or.inl ⟨by rfl,fun W hW=>by go_simp⟩):wpUpto P md ops Q S stop (n+1) l a w:=upto_take hi hs hf hr hst hQ hy hS h
theorem onU{n:Nat}{l:Array Bool}{a:Act}{w:World}(i:Nat){o:Oper}(h:∀K':Act→World→Prop,Shut (∀a w,S w→(S w→wpUpto P md ops Q S stop n (l.setIfInBounds i true) a w)→K' a w)→if Region.wanted o (yielded ops a.tmps)=true then Oper.wp P o a w K' Q else K' (a.put o.dst undef) w)
  (ho:ops[i]? = some o:=by rw [List.getElem?_toArray];rfl) (hr:Region.ready md ops l=[i]:=by kernel_rfl):wpUpto P md ops Q S stop (n+1) l a w:=upto_one i ho hr h
theorem upto_done{done:Array Bool}{a:Act}{w:World}(hr:Region.ready md ops done=[])(h:Q .normal a w):∀n,wpUpto P md ops Q S stop n done a w
 | 0=>⟨hr,h⟩
 | _+1=>⟨fun _=>h,by rw [hr];simp⟩
theorem wp_region_upto{id:Nat}{a:Act}{w:World}(S:World→Prop)(stop:Nat)(hm:P.follows .mixedOrders=true)(hS:S w.drew)(h:S w.drew→wpUpto P .any ops Q S stop ops.size (Array.replicate ops.size false) a w.drew):(Code.region id ops true).wp P Q a w :=
 wp_region_any hm (wpAny_of_upto _ _ _ _ (h hS))
end
end Go.Proofs.YtmamabhhgfcjcaaGreatDoor
