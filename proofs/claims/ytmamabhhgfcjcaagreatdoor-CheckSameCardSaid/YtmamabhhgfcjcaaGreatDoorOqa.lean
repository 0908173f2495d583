/-
  The contracts of slices.IndexFunc and slices.ContainsFunc of definitions, with whatever function; of check.hasOwnNames.
-/
import Derived.Test.YtmamabhhgfcjcaaGreatDoorOpx
set_option maxRecDepth 100000
set_option maxHeartbeats 16000000
namespace Go.Proofs.YtmamabhhgfcjcaaGreatDoor
open Go.RowKit Go.Shelf
theorem any_take{α : Type}(P : α → Bool)(l:List α){k:Nat}(hk:k<l.length):(l.take (k+1)).any P=((l.take k).any P || P l[k]):=by
 rw [List.take_succ_eq_append_getElem hk,List.any_append];simp
theorem indexD_any(ds:List Df)(ad:OAd)(cd B f:Nat)(cp:Value)(P:Df→Bool)(t:Bool)(ht:ds.any P=t)(w:World)(hd:DfsAt w B ds ad)(hB:B≤w.heap.size)(hl:ds.length≤1000)(hf:∀args W,(callFunc f args).run Tryz.prog W = .ok (.enter f args) W)
  (c:∀x a W,x∈ds→Below w.heap.size w W→DfOK W W.heap.size x a→Calls Tryz.prog f #[dfVal x a,cp] W fun e w'=>e = .returned (.bool (P x))∧Below W.heap.size W w') :
  Calls Tryz.prog 31 #[.slice ad ds.length cd,.func (.func f) #[] #[cp]] w fun e w'=>(∃z:Int,e = .returned (.int .i64 z)∧(0≤z↔t=true))∧Below w.heap.size w w':=by
 have hlz:(ds.length:Int)≤1000:=by omega
 have HC:=hideK c;have HD:=hideK hd;have HT:=hideK ht;clear c hd hl ht;go_enter Tryz.func31,Tryz.ntmps31
 go_wp2_with fail
 go_loopw [8] (fun i wr=>∃k:Nat,k≤ds.length∧i = .int .i64 (k:Int)∧(ds.take k).any P=false∧Below w.heap.size w wr) (fun i _=>ds.length - (intOf i).toNat)
 case atStart=>exact ⟨0,Nat.zero_le _,rfl,rfl,Below.refl _ _⟩
 case round =>
  obtain ⟨k,hk,rfl,hz,hW⟩:=hrel;by_cases hlt:k<ds.length
  ·have hltz:(k:Int)<(ds.length:Int):=by omega
   obtain ⟨b,o,rfl,hbB,hc⟩:=HD.out.resolve_left (fun q=>by rw [q]at hlt;simp at hlt)
   obtain ⟨a',hat,hok⟩:=hc k hlt;have HAT:=hideK (hat.keep (hW.mono hB) hbB);have cR:=HC.out ds[k] a' wr (List.getElem_mem hlt) hW ((hok.keep (hW.mono hB)).mono (Nat.le_trans hB hW.size));have HN:=hideK (any_take P ds hlt);have HM:=hideK (fun (h:P ds[k]=true)=>(show t=true from HT.out ▸ List.any_eq_true.2 ⟨ds[k],List.getElem_mem hlt,h⟩))
   generalize ds[k]=x at *;have HW:=hideK hW;have HZ:=hideK hz;have HK:=hideK hlt;clear hz hW hc hat hok;go_upto_region 4 with fail
   refine wp_region_lit ?_;refine wpList_plain rfl (fun K hK=>?_)
   go_simp
   refine hK _ _ ?_;clear hK K;refine wpList_plain rfl (fun K hK=>?_)
   go_simp
   refine hK _ _ ?_;clear hK K;refine wpList_plain rfl (fun K hK=>?_)
   go_simp
   refine hK _ _ ?_;clear hK K;refine wpList_plain rfl (fun K hK=>?_)
   go_simp
   refine hK _ _ ?_;clear hK K;refine wpList_loadW rfl rfl rfl (load_df HAT.out) ?_;simp only [dfVal,Act.put,List.setIfInBounds_toArray,List.set_cons_zero,List.set_cons_succ]at cR ⊢;cases hq:P x with
   | true =>
    rw [hq]at cR HM;have HF:=hideK (HM.out rfl);clear hq HN HM HZ;go_wp2_with fail
    refine cR.mono ?_;rintro e w5 ⟨rfl,hb5⟩;have HB:=hideK (HW.out.trans (hb5.mono HW.out.size));clear cR hb5 HW HAT;go_wp2_with fail
    go_ret
    exact ⟨⟨_,rfl,fun _=>HF.out,fun _=>by omega⟩,HB.out⟩
   | false =>
    rw [hq]at cR HN;clear hq HM;go_wp2_with fail
    refine cR.mono ?_;rintro e w5 ⟨rfl,hb5⟩;have HB:=hideK (HW.out.trans (hb5.mono HW.out.size));clear cR hb5 HW HAT;go_wp2_with fail
    go_roundw
    case rel=>exact ⟨k+1,HK.out,by go_num,by rw [HN.out,HZ.out];rfl,HB.out⟩
    case measure=>simp [intOf];have:=HK.out;omega
  ·have hltz:¬(k:Int)<(ds.length:Int):=by omega
   rw [List.take_of_length_le (by omega),HT.out]at hz
   have HZ:=hideK hz;have HW:=hideK hW;clear hz hW;go_wp2_with fail
   go_ret
   exact ⟨⟨_,rfl,fun h=>by omega,fun h=>by rw [HZ.out]at h;cases h⟩,HW.out⟩
theorem hasD_any(ds:List Df)(ad:OAd)(cd B f:Nat)(cp:Value)(P:Df→Bool)(w:World)(hd:DfsAt w B ds ad)(hB:B≤w.heap.size)(hl:ds.length≤1000)(hf:∀args W,(callFunc f args).run Tryz.prog W = .ok (.enter f args) W)
  (c:∀x a W,x∈ds→Below w.heap.size w W→DfOK W W.heap.size x a→Calls Tryz.prog f #[dfVal x a,cp] W fun e w'=>e = .returned (.bool (P x))∧Below W.heap.size W w') :
  Calls Tryz.prog 14 #[.slice ad ds.length cd,.func (.func f) #[] #[cp]] w fun e w'=>e = .returned (.bool (ds.any P))∧Below w.heap.size w w':=by
 have c:=indexD_any ds ad cd B f cp P _ rfl w hd hB hl hf c;generalize ds.any P=t at c ⊢;go_enter Tryz.func14,Tryz.ntmps14
 go_wp2_with fail
 refine c.mono ?_;rintro e w1 ⟨⟨z,rfl,hz⟩,hb⟩;have HZ:=hideK hz;clear hz;go_wp2_with fail
 go_ret
 refine ⟨?_,hb⟩;have e1:decide (0≤z)=t:=by rw [Bool.eq_iff_iff];simpa using HZ.out
 show Ending.returned (Value.bool (decide (0≤z)))=_
 rw [e1]
theorem ownName1_any(x:Df)(a:DfA)(q:Nat)(n:ByteArray)(w:World)(hq:w.cell? ⟨q,0,none⟩=some (.string n)):
  Calls Tryz.prog 36 #[dfVal x a,.pointer (some ⟨q,0,none⟩)] w fun e w'=>e = .returned (.bool (decide (x.name=n)))∧Below w.heap.size w w':=by
 have hl:=cell_lt hq;have HB:=hideK ((Below.refl w.heap.size w).alloc (nR _) (dfBx x a));have c0:=(dfBx_at w x a).get (j:=0) (v:=.string x.name) (by omega) rfl
 have hq':(w.alloc (dfBx x a)).cell? ⟨q,0,none⟩=some (.string n):=(World.cell?_alloc_past _ _ _ hl).trans hq;rw [← ba_beq x.name n];simp only [dfVal,dfBx]at HB c0 hq' ⊢;clear hl hq;go_enter Tryz.func36,Tryz.ntmps36
 go_upto_region 1 with fail
 generalize w.alloc _=V at *;go_wp2_with fail
 go_ret
 exact ⟨rfl,HB.out⟩
theorem DfsAt.take{W:World}{B:Nat}{ds:List Df}{ad:OAd}(h:DfsAt W B ds ad)(k:Nat):DfsAt W B (ds.take k) ad:=by
 rcases h with h|⟨b,o,e,hl,h⟩
 ·exact .inl (by rw [h];simp)
 ·refine .inr ⟨b,o,e,hl,fun i hi=>?_⟩
  have hi':i<ds.length:=by simp at hi;omega
  obtain ⟨a,h1,h2⟩:=h i hi';rw [List.getElem_take];exact ⟨a,h1,h2⟩
theorem hasOwn_any(ds:List Df)(ad:OAd)(cd B k:Nat)(w:World)(hd:DfsAt w B ds ad)(hB:B≤w.heap.size)(hl:ds.length≤1000)(hcd:ds.length≤cd)(hcm:cd≤9223372036854775807)(hk:k<ds.length)(hv:ds[k].vals.length≤1000)(hc:ds[k].chans.length≤1000):
  Calls Tryz.prog 22 #[.slice ad ds.length cd,.int .i64 (k:Int)] w fun e w'=>e = .returned (.bool (ownN (ds.take k) ds[k]))∧Below w.heap.size w w':=by
 obtain ⟨b,o,rfl,hbB,hcs⟩:=hd.resolve_left (fun q=>by rw [q]at hk;simp at hk)
 obtain ⟨a',hat,hok⟩:=hcs k hk;have hkz:(k:Int)<(ds.length:Int):=by omega
 have hlz:(ds.length:Int)≤1000:=by omega
 have hkc:(k:Int)≤(cd:Int):=by omega
 have hcz:(cd:Int)≤9223372036854775807:=by omega
 have HAT:=hideK hat;have HBL:=hideK ((Below.refl w.heap.size w).alloc (nR _) (dfBx ds[k] a'));have hBw:=HBL.out.mono hB;have c1:=areApart_any ds[k].vals a'.va a'.vc B (w.alloc (dfBx ds[k] a')) (hok.vals.keep hBw).la hv hok.vals.len hok.vals.cap;have c2:=areApart_any ds[k].chans a'.ca a'.cc B (w.alloc (dfBx ds[k] a')) (hok.chs.keep hBw).la hc hok.chs.len hok.chs.cap;have x1:=(dfBx_at w ds[k] a').get (j:=1) (v:=.slice a'.va ds[k].vals.length a'.vc) (by omega) rfl
 have x3:=(dfBx_at w ds[k] a').get (j:=3) (v:=.slice a'.ca ds[k].chans.length a'.cc) (by omega) rfl
 have x0:=(dfBx_at w ds[k] a').get (j:=0) (v:=.string ds[k].name) (by omega) rfl
 have hlt:w.heap.size<(w.alloc (dfBx ds[k] a')).heap.size:=by simp
 have htk:(ds.take k).length=k:=by simp;omega
 have c3:=hasD_any (ds.take k) (some ⟨b,o,none⟩) cd B 36 (.pointer (some ⟨w.heap.size,0,none⟩)) (fun x=>decide (x.name=ds[k].name)) (w.alloc (dfBx ds[k] a')) ((hd.take k).keep hBw) (Nat.le_trans hB HBL.out.size) (by omega) (fun args W=>by kernel_rfl) (fun x a W _ hW _=>ownName1_any x a w.heap.size ds[k].name W ((hW.cell (p:=⟨w.heap.size,0,none⟩) hlt).trans x0))
 rw [htk]at c3;have hown:ownN (ds.take k) ds[k]=(apN [] ds[k].vals && (apN [] ds[k].chans && !(ds.take k).any fun x=>decide (x.name=ds[k].name))):=rfl
 generalize ((ds.take k).any fun x=>decide (x.name=ds[k].name))=r3 at *
 generalize apN [] ds[k].chans=r2 at *;generalize apN [] ds[k].vals=r1 at *;generalize ownN (ds.take k) ds[k]=res at *;generalize ds[k]=d at *;have C2:=hideK c2;have C3:=hideK c3;clear hd hcs hat hok hv hc hk hcd hcm hl c2 c3 hBw x0 htk hlt;cases r1 with
 | false =>
  obtain rfl:res=false:=hown;go_enter Tryz.func22,Tryz.ntmps22
  go_upto_region 1 with fail
  refine wp_region_lit ?_;refine wpList_plain rfl (fun K hK=>?_)
  go_simp
  refine hK _ _ ?_;clear hK K;refine wpList_plain rfl (fun K hK=>?_)
  go_simp
  refine hK _ _ ?_;clear hK K;refine wpList_plain rfl (fun K hK=>?_)
  go_simp
  refine hK _ _ ?_;clear hK K;refine wpList_loadW rfl rfl rfl (load_df HAT.out) ?_;simp only [Act.put,sA,sB,sC];refine wpList_allocW rfl rfl (alloc_df _) ?_;simp only [Act.put,sA,sB,sC];refine wpList_storeW rfl rfl rfl rfl (store_df _ d a') ?_;simp only [Act.put];go_upto_region 3 with fail
  generalize w.alloc (dfBx d a')=V at *;go_wp2_with fail
  refine c1.mono ?_;rintro e w5 ⟨rfl,hw5⟩;rw [hw5];clear hw5 c1;go_wp2_with fail
  go_ret
  exact ⟨rfl,HBL.out⟩
 | true =>
  cases r2 with
  | false =>
   obtain rfl:res=false:=hown;go_enter Tryz.func22,Tryz.ntmps22
   go_upto_region 1 with fail
   refine wp_region_lit ?_;refine wpList_plain rfl (fun K hK=>?_)
   go_simp
   refine hK _ _ ?_;clear hK K;refine wpList_plain rfl (fun K hK=>?_)
   go_simp
   refine hK _ _ ?_;clear hK K;refine wpList_plain rfl (fun K hK=>?_)
   go_simp
   refine hK _ _ ?_;clear hK K;refine wpList_loadW rfl rfl rfl (load_df HAT.out) ?_;simp only [Act.put,sA,sB,sC];refine wpList_allocW rfl rfl (alloc_df _) ?_;simp only [Act.put,sA,sB,sC];refine wpList_storeW rfl rfl rfl rfl (store_df _ d a') ?_;simp only [Act.put];go_upto_region 3 with fail
   generalize w.alloc (dfBx d a')=V at *;go_wp2_with fail
   refine c1.mono ?_;rintro e w5 ⟨rfl,hw5⟩;rw [hw5];clear hw5 c1;have c2:=C2.out;go_wp2_with fail
   refine c2.mono ?_;rintro e w6 ⟨rfl,hw6⟩;rw [hw6];clear hw6 c2;go_wp2_with fail
   go_ret
   exact ⟨rfl,HBL.out⟩
  | true =>
   obtain rfl:res = !r3:=by rw [hown];rfl
   clear hown;go_enter Tryz.func22,Tryz.ntmps22
   go_upto_region 1 with fail
   refine wp_region_lit ?_;refine wpList_plain rfl (fun K hK=>?_)
   go_simp
   refine hK _ _ ?_;clear hK K;refine wpList_plain rfl (fun K hK=>?_)
   go_simp
   refine hK _ _ ?_;clear hK K;refine wpList_plain rfl (fun K hK=>?_)
   go_simp
   refine hK _ _ ?_;clear hK K;refine wpList_loadW rfl rfl rfl (load_df HAT.out) ?_;simp only [Act.put,sA,sB,sC];refine wpList_allocW rfl rfl (alloc_df _) ?_;simp only [Act.put,sA,sB,sC];refine wpList_storeW rfl rfl rfl rfl (store_df _ d a') ?_;simp only [Act.put];go_upto_region 3 with fail
   generalize w.alloc (dfBx d a')=V at *;go_wp2_with fail
   refine c1.mono ?_;rintro e w5 ⟨rfl,hw5⟩;rw [hw5];clear hw5 c1;have c2:=C2.out;go_wp2_with fail
   refine c2.mono ?_;rintro e w6 ⟨rfl,hw6⟩;rw [hw6];clear hw6 c2;have c3:=C3.out;go_wp2_with fail
   refine c3.mono ?_;rintro e w7 ⟨rfl,hb7⟩;have HB:=hideK (HBL.out.trans (hb7.mono HBL.out.size));clear hb7 c3;go_wp2_with fail
   go_ret
   exact ⟨rfl,HB.out⟩
structure HSB(w:World)(d:Df)(e:HdA)(ne:Nat)(es:List (ByteArray × En))(mp:Option Nat)(W:World):Prop where
 bl:Below w.heap.size w W
 lt:w.heap.size+1+1<W.heap.size
 h2:W.cell? ⟨w.heap.size,2,none⟩=some (.slice e.ca d.chans.length e.cc)
 h3:W.cell? ⟨w.heap.size,3,none⟩=some (.slice e.ea ne e.ec)
 z0:W.cell? ⟨w.heap.size+1,0,none⟩=some (.slice none 0 0)
 z1:W.cell? ⟨w.heap.size+1,1,none⟩=some (.slice none 0 0)
 z2:W.cell? ⟨w.heap.size+1,2,none⟩=some (.map none)
 s0:W.cell? ⟨w.heap.size+1+1,0,none⟩=some (.slice e.va d.vals.length e.vc)
 s1:W.cell? ⟨w.heap.size+1+1,1,none⟩=some (.slice e.sa d.sorts.length e.sc)
 s2:W.cell? ⟨w.heap.size+1+1,2,none⟩=some (.map mp)
 f1:∀o,W.frozen? ⟨w.heap.size+1,o,none⟩=false
 f2:∀o,W.frozen? ⟨w.heap.size+1+1,o,none⟩=false
 gs:GSc w W es mp
theorem HSB.keep{w:World}{d:Df}{e:HdA}{ne:Nat}{es:List (ByteArray × En)}{mp:Option Nat}{W W':World}(h:HSB w d e ne es mp W)(hb:Below W.heap.size W W'):HSB w d e ne es mp W':=by
 have hs:=hb.size;have hl:=h.lt;have q:∀k o,k<W.heap.size→W'.cell? ⟨k,o,none⟩=W.cell? ⟨k,o,none⟩:=fun k o q=>hb.cell (p:=⟨k,o,none⟩) q
 have g:∀k o,k<W.heap.size→W'.frozen? ⟨k,o,none⟩=W.frozen? ⟨k,o,none⟩:=fun k o q=>hb.frozen (p:=⟨k,o,none⟩) q
 exact ⟨h.bl.trans (hb.mono h.bl.size),by omega,(q _ _ (by omega)).trans h.h2,(q _ _ (by omega)).trans h.h3,(q _ _ (by omega)).trans h.z0,(q _ _ (by omega)).trans h.z1,(q _ _ (by omega)).trans h.z2,(q _ _ (by omega)).trans h.s0,(q _ _ (by omega)).trans h.s1,(q _ _ (by omega)).trans h.s2,fun o=>(g _ _ (by omega)).trans (h.f1 o),fun o=>(g _ _ (by omega)).trans (h.f2 o),h.gs.keep hb⟩
theorem HSB.new(w:World)(d:Df)(e:HdA)(ne:Nat):HSB w d e ne [] none (((w.alloc (.cells #[.slice e.va d.vals.length e.vc,.slice e.sa d.sorts.length e.sc,.slice e.ca d.chans.length e.cc,.slice e.ea ne e.ec] 73)).alloc (.cells #[.slice none 0 0,.slice none 0 0,.map none] 70)).alloc (.cells #[.slice e.va d.vals.length e.vc,.slice e.sa d.sorts.length e.sc,.map none] 70)) :=
 ⟨(((bR _ _).alloc (nR _) _).alloc (by simp) _).alloc (by simp;omega) _,by simp,by go_cell,by go_cell,by go_cell,by go_cell,by go_cell,by go_cell,by go_cell,by go_cell,fun o=>by go_simp,fun o=>by go_simp,⟨[],rfl,(fun t ht=>by cases ht),.inl ⟨rfl,rfl⟩⟩⟩
theorem HSB.st{w:World}{d:Df}{e:HdA}{ne:Nat}{es:List (ByteArray × En)}{mp:Option Nat}{W:World}(h:HSB w d e ne es mp W){es':List (ByteArray × En)}{mq:Option Nat}(hg:GSc w W es' mq):∃W9,((W.setCell ⟨w.heap.size+1+1,0,none⟩ (.slice e.va d.vals.length e.vc)).setCell ⟨w.heap.size+1+1,1,none⟩ (.slice e.sa d.sorts.length e.sc)).setCell ⟨w.heap.size+1+1,2,none⟩ (.map mq)=W9∧HSB w d e ne es' mq W9:=by
 obtain ⟨r0,r1,r2⟩:=st3_at (.slice e.va d.vals.length e.vc) (.slice e.sa d.sorts.length e.sc) (.map mq) h.s0 h.s1 h.s2;have hk:∀k,k≠w.heap.size+1+1→(((W.setCell ⟨w.heap.size+1+1,0,none⟩ (.slice e.va d.vals.length e.vc)).setCell ⟨w.heap.size+1+1,1,none⟩ (.slice e.sa d.sorts.length e.sc)).setCell ⟨w.heap.size+1+1,2,none⟩ (.map mq)).heap[k]? = W.heap[k]?:=fun k hk=>by rw [Go.Deep.blk_setCell_other _ _ _ _ hk,Go.Deep.blk_setCell_other _ _ _ _ hk,Go.Deep.blk_setCell_other _ _ _ _ hk]
 have q:∀k o,k≠w.heap.size+1+1→(((W.setCell ⟨w.heap.size+1+1,0,none⟩ (.slice e.va d.vals.length e.vc)).setCell ⟨w.heap.size+1+1,1,none⟩ (.slice e.sa d.sorts.length e.sc)).setCell ⟨w.heap.size+1+1,2,none⟩ (.map mq)).cell? ⟨k,o,none⟩=W.cell? ⟨k,o,none⟩:=fun k o hne=>World.cell?_of_block (a:=⟨k,o,none⟩) (hk k hne)
 have hw:w.heap.size≤w.heap.size+1+1:=by omega
 exact ⟨_,rfl,⟨((h.bl.setCell (p:=⟨w.heap.size+1+1,0,none⟩) hw _).setCell (p:=⟨w.heap.size+1+1,1,none⟩) hw _).setCell (p:=⟨w.heap.size+1+1,2,none⟩) hw _,by rw [World.size_setCell,World.size_setCell,World.size_setCell];exact h.lt,(q _ _ (by omega)).trans h.h2,(q _ _ (by omega)).trans h.h3,(q _ _ (by omega)).trans h.z0,(q _ _ (by omega)).trans h.z1,(q _ _ (by omega)).trans h.z2,r0,r1,r2,fun o=>by rw [World.frozen?_setCell,World.frozen?_setCell,World.frozen?_setCell];exact h.f1 o,fun o=>by rw [World.frozen?_setCell,World.frozen?_setCell,World.frozen?_setCell];exact h.f2 o,hg.blk h.s0 hk⟩⟩
theorem HSB.fin{w:World}{d:Df}{e:HdA}{ne:Nat}{es:List (ByteArray × En)}{mp:Option Nat}{W:World}(h:HSB w d e ne es mp W):∃W9,((W.setCell ⟨w.heap.size+1,0,none⟩ (.slice e.va d.vals.length e.vc)).setCell ⟨w.heap.size+1,1,none⟩ (.slice e.sa d.sorts.length e.sc)).setCell ⟨w.heap.size+1,2,none⟩ (.map mp)=W9∧W9.cell? ⟨w.heap.size+1,0,none⟩=some (.slice e.va d.vals.length e.vc)∧W9.cell? ⟨w.heap.size+1,1,none⟩=some (.slice e.sa d.sorts.length e.sc)∧W9.cell? ⟨w.heap.size+1,2,none⟩=some (.map mp)∧Below w.heap.size w W9∧GSc w W9 es mp:=by
 obtain ⟨r0,r1,r2⟩:=st3_at (.slice e.va d.vals.length e.vc) (.slice e.sa d.sorts.length e.sc) (.map mp) h.z0 h.z1 h.z2;have hk:∀k,k≠w.heap.size+1→(((W.setCell ⟨w.heap.size+1,0,none⟩ (.slice e.va d.vals.length e.vc)).setCell ⟨w.heap.size+1,1,none⟩ (.slice e.sa d.sorts.length e.sc)).setCell ⟨w.heap.size+1,2,none⟩ (.map mp)).heap[k]? = W.heap[k]?:=fun k hk=>by rw [Go.Deep.blk_setCell_other _ _ _ _ hk,Go.Deep.blk_setCell_other _ _ _ _ hk,Go.Deep.blk_setCell_other _ _ _ _ hk]
 have hw:w.heap.size≤w.heap.size+1:=by omega
 exact ⟨_,rfl,r0,r1,r2,((h.bl.setCell (p:=⟨w.heap.size+1,0,none⟩) hw _).setCell (p:=⟨w.heap.size+1,1,none⟩) hw _).setCell (p:=⟨w.heap.size+1,2,none⟩) hw _,h.gs.blk h.z0 hk⟩
def putG(l:List (ByteArray × En)):List (ByteArray × En):=l.foldl (fun es q=>putE es q.1 q.2) []
theorem putG_snoc(l:List (ByteArray × En))(q:ByteArray × En):putG (l++[q])=putE (putG l) q.1 q.2:=by unfold putG;rw [List.foldl_append];rfl
theorem scope_any(d:Df)(ys:List En)(e:HdA)(ne:Nat)(hne:ne=ys.length)(w:World)(hH:HdOK w d ys e)(hcl:d.chans.length=ys.length)(hvs:d.vals.length=d.sorts.length)(hc1:d.chans.length≤1000):
  Calls Tryz.prog 25 #[hdVal d e ne] w fun e' w'=>(∃mp',e' = .returned (scVal ⟨d.vals,d.sorts,putG (d.chans.zip ys)⟩ ⟨e.va,e.vc,e.sa,e.sc,mp'⟩)∧ScAt w' ⟨d.vals,d.sorts,putG (d.chans.zip ys)⟩ ⟨e.va,e.vc,e.sa,e.sc,mp'⟩)∧Below w.heap.size w w':=by
 have H3:=hideK (HSB.new w d e ne);have HHD:=hideK hH;have HL:=hideK (And.intro hcl (And.intro hne hvs));have hcz:(d.chans.length:Int)≤1000:=by omega
 simp only [hdVal,scVal]at H3 ⊢;clear hH hcl hvs hne hc1;go_enter Tryz.func25,Tryz.ntmps25
 go_upto_region 2 with fail
 generalize ((w.alloc (.cells #[.slice e.va d.vals.length e.vc,.slice e.sa d.sorts.length e.sc,.slice e.ca d.chans.length e.cc,.slice e.ea ne e.ec] 73)).alloc (.cells #[.slice none 0 0,.slice none 0 0,.map none] 70)).alloc (.cells #[.slice e.va d.vals.length e.vc,.slice e.sa d.sorts.length e.sc,.map none] 70)=V3 at *;have h2:=H3.out.h2;go_wp2_with fail
 go_loopw [14] (fun i wr=>∃(k:Nat) (mp:Option Nat),k≤d.chans.length∧i = .int .i64 (k:Int)∧HSB w d e ne (putG ((d.chans.zip ys).take k)) mp wr) (fun i _=>d.chans.length - (intOf i).toNat)
 case atStart=>exact ⟨0,none,Nat.zero_le _,rfl,H3.out⟩
 case round =>
  obtain ⟨k,mp,hk,rfl,hW⟩:=hrel;clear h2 H3;by_cases hlt:k<d.chans.length
  ·have hltz:(k:Int)<(d.chans.length:Int):=by omega
   have hlty:k<ys.length:=by have:=HL.out;omega
   obtain ⟨nb,no,hna,hnb,hcl⟩:=HHD.out.cs.la.resolve_left (fun q=>by rw [List.map_eq_nil_iff]at q;rw [q]at hlt;simp at hlt)
   have d0:=hcl k (by simpa using hlt)
   rw [List.getElem_map,← hW.bl.cell (p:=⟨nb,no+k,none⟩) hnb]at d0;have hsz:d.chans[k].size≤maxLen:=HHD.out.cs.siz _ (List.getElem_mem hlt);obtain ⟨eb,eo,hea,heb,hec⟩:=HHD.out.es.resolve_left (fun q=>by rw [q]at hlty;simp at hlty)
   obtain ⟨ay,cy,hy0,hy1,hy2⟩:=hec k hlty;have hzk:k<(d.chans.zip ys).length:=by simp;omega
   have HPG:=hideK (show putG ((d.chans.zip ys).take (k+1))=putE (putG ((d.chans.zip ys).take k)) d.chans[k] ys[k] from by rw [List.take_succ_eq_append_getElem hzk,putG_snoc,List.getElem_zip])
   generalize putG ((d.chans.zip ys).take k)=es1 at *;generalize d.chans[k]=n at *;generalize ys[k]=y at *;have HY:=hideK (fun (W:World) (hW:Below w.heap.size w W)=>And.intro (hW.cell (p:=⟨eb,eo+k*2,none⟩) heb |>.trans hy0) (hW.cell (p:=⟨eb,eo+k*2+1,none⟩) heb |>.trans hy1))
   have HEN:=hideK hy2;have HEA:=hideK hea;have hkn:(k:Int)<(ne:Int):=by have:=HL.out;omega
   rw [hna];have HKL:=hideK hlt;have HSZ:=hideK hsz;have HW:=hideK hW;clear hcl hnb hna hec hea heb hy0 hy1 hy2 hlty hW hsz hzk;go_upto_region 5 with fail
   have H5:=hideK (HW.out.keep ((bR _ _).drew));have cU:=withEnd_g (⟨d.vals,d.sorts,es1⟩:Sc) ⟨e.va,e.vc,e.sa,e.sc,mp⟩ n y ay cy w (World.drew wr) H5.out.gs HSZ.out HEN.out;simp only [scVal,enVal,Sc.we]at cU;have CU:=hideK cU;have hS0:(fun W:World=>W.cell? ⟨w.heap.size,2,none⟩=some (.slice e.ca d.chans.length e.cc)∧W.cell? ⟨w.heap.size,3,none⟩=some (.slice e.ea ne e.ec)∧Below w.heap.size w W) (World.drew wr):=⟨H5.out.h2,H5.out.h3,H5.out.bl⟩
   clear HW cU;refine wp_region_held_drew (S:=(fun W:World=>W.cell? ⟨w.heap.size,2,none⟩=some (.slice e.ca d.chans.length e.cc)∧W.cell? ⟨w.heap.size,3,none⟩=some (.slice e.ea ne e.ec)∧Below w.heap.size w W)) (by kernel_rfl) hS0 (fun hS=>?_)
   clear hS0;generalize World.drew wr=V5 at *;refine tkZ 1 (.string n) hS ?_;refine tkZ 2 (.pointer (some ⟨w.heap.size,3,none⟩)) hS ?_;refine tkH 3 (.slice (some ⟨eb,eo,none⟩) ne e.ec) hS ?_ (hy:=Or.inl ⟨by rfl,fun W hW=>by have g1:=hW.2.1;rw [HEA.out]at g1;clear hW;go_simp⟩)
   simp only [Act.put,sA,sB,sC];refine tkZ 4 (.int .i64 (k:Int)) hS ?_;refine tkZ 5 (.pointer (some ⟨eb,eo+k*2,none⟩)) hS ?_;refine tkH 6 (.agg #[.slice ay y.g.length cy,.int .i64 (y.k:Int)]) hS ?_ (hy:=Or.inl ⟨by rfl,fun W hW=>by obtain ⟨g0,g1⟩:=HY.out W hW.2.2;go_simp⟩)
   simp only [Act.put,sA,sB,sC];refine take_oneHL 0 (aC (fun K hK=>?_) aN) (by kernel_rfl)
   have s0:=H5.out.s0;have s1:=H5.out.s1;have s2:=H5.out.s2;go_simp
   refine hK.out _ _ hS ?_;clear hS hK K s0 s1 s2;intro hS;try simp only [Act.put,sA,sB,sC]
   refine take_oneHL 7 (aC (fun K hK=>?_) aN) (by kernel_rfl)
   go_simp
   refine CU.out.mono ?_;rintro e' V6 ⟨⟨mp2,rfl,hn2⟩,hb6⟩;have H6:=hideK (H5.out.keep hb6);have HN2:=hideK hn2.gs;have hSn:(fun W:World=>W.cell? ⟨w.heap.size,2,none⟩=some (.slice e.ca d.chans.length e.cc)∧W.cell? ⟨w.heap.size,3,none⟩=some (.slice e.ea ne e.ec)∧Below w.heap.size w W) V6:=⟨H6.out.h2,H6.out.h3,H6.out.bl⟩
   refine hK.out _ _ hSn ?_;clear hb6 hn2 CU H5;clear hS hK K hSn;intro hS;try simp only [Act.put,sA,sB,sC]
   obtain ⟨W7,e7,h7⟩:=H6.out.st HN2.out;have s0:=H6.out.s0;have s1:=H6.out.s1;have s2:=H6.out.s2;have f0:=H6.out.f2 0;have f1:=H6.out.f2 1;have f2:=H6.out.f2 2;have HE7:=hideK e7;have H7:=hideK h7;clear e7 h7 HN2 H6;refine take_oneHL 8 (aC (fun K hK=>?_) aN) (by kernel_rfl)
   go_simp
   rw [HE7.out];have hSn:(fun W:World=>W.cell? ⟨w.heap.size,2,none⟩=some (.slice e.ca d.chans.length e.cc)∧W.cell? ⟨w.heap.size,3,none⟩=some (.slice e.ea ne e.ec)∧Below w.heap.size w W) W7:=⟨H7.out.h2,H7.out.h3,H7.out.bl⟩
   refine hK.out _ _ hSn ?_;clear s0 s1 s2 f0 f1 f2 HE7;clear hS hK K hSn;intro hS;try simp only [Act.put,sA,sB,sC]
   refine wpAnyH_done (by kernel_rfl) ?_ _
   clear hS HY HEN HEA HSZ;go_wp2_with fail
   go_roundw
   case rel=>exact ⟨k+1,mp2,HKL.out,by go_num,by rw [HPG.out];exact H7.out⟩
   case measure=>simp [intOf];have:=HKL.out;omega
  ·have hltz:¬(k:Int)<(d.chans.length:Int):=by omega
   have hfull:(d.chans.zip ys).take k=d.chans.zip ys:=List.take_of_length_le (by simp;omega)
   rw [hfull]at hW;obtain ⟨W9,e9,r0,r1,r2,hb9,hg9⟩:=hW.fin;obtain ⟨_,_,_,_,z0,z1,z2,s0,s1,s2,ff,_,_⟩:=hW;have f0:=ff 0;have f1:=ff 1;have f2:=ff 2;have HE:=hideK e9;have HB:=hideK hb9;have HSC:=hideK (show ScAt W9 ⟨d.vals,d.sorts,putG (d.chans.zip ys)⟩ ⟨e.va,e.vc,e.sa,e.sc,mp⟩ from (ScV.mk HHD.out.vs.siz HHD.out.vs.len HHD.out.vs.cap HHD.out.sl HHD.out.sc HL.out.2.2 (.inl HHD.out.vs.la) (.inl HHD.out.ss) hg9).at0 hb9)
   clear ff e9 hb9 hg9 hfull;go_wp2_with fail
   rw [HE.out];refine bodyPost_ret (v:=.agg #[.slice e.va d.vals.length e.vc,.slice e.sa d.sorts.length e.sc,.map mp]) (by simp [results,Tryz.results25,go_sem,r0,r1,r2]) rfl ?_
   exact ⟨⟨mp,rfl,HSC.out⟩,HB.out⟩
end Go.Proofs.YtmamabhhgfcjcaaGreatDoor
