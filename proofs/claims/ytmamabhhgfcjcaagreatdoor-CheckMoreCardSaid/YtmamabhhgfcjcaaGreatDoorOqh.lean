/-
  PLAIN: what Check says of a program with a definition more that stops.
-/
import Derived.Test.YtmamabhhgfcjcaaGreatDoorOqe
set_option maxRecDepth 100000
set_option maxHeartbeats 16000000
namespace Go.Proofs.YtmamabhhgfcjcaaGreatDoor
open Go.RowKit Go.Shelf
def clP(n:ByteArray):Pr→Bool
 | ⟨kd,_,nm,_,_,_,_,_,_,ks⟩=>decide (kd=13∧nm=n) || (ks.map (clP n)).any id
theorem clP_eq(n:ByteArray)(p:Pr):clP n p=(decide (p.kind=13∧p.name=n) || p.kids.any (clP n)):=by
 cases p;rw [clP,List.any_map];rfl
theorem clP_kid{n:ByteArray}{p k:Pr}(hk:k∈p.kids)(h:clP n k=true):clP n p=true:=by
 rw [clP_eq,Bool.or_eq_true];exact .inr (List.any_eq_true.2 ⟨k,hk,h⟩)
def stopP:Pr:=⟨1,⟨#[]⟩,⟨#[]⟩,⟨#[]⟩,⟨0,⟨#[]⟩,0,0,⟨#[]⟩,[]⟩,[],[],⟨0,0,⟨#[]⟩,[],[]⟩,[],[]⟩
def moreD(n:ByteArray):Df:=⟨n,[],[],[],[],stopP⟩
theorem hdOf_more(ds:List Df)(n m:ByteArray):hdOf (ds++[moreD n]) m=match hdOf ds m with
  | some d=>some d
  | none=>if n=m then some (moreD n) else none:=by
 unfold hdOf;rw [List.find?_append];cases ds.find? fun d=>decide (d.name=m) with
 | some d=>rfl
 | none =>
  by_cases h:n=m
  ·simp [moreD,h]
  ·simp [moreD,h]
section
variable (gr og:Ty→List Nd)
def MoreR(_n:ByteArray)(a b:Int)(c:Bool):Prop:=b=a∨(a=4∧c=true)
theorem csG_more(n:ByteArray)(p:Pr)(fs fs':List (Sc→Int))(cs:Bool)(h:∀i s,MoreR n ((fs.getD i fun _=>0) s) ((fs'.getD i fun _=>0) s) cs)(s:Sc)(x:En):∀(ls:List ByteArray) (i:Nat),MoreR n (csG p fs s x ls i) (csG p fs' s x ls i) cs:=by
 intro ls;induction ls with
 | nil=>intro i;exact .inl rfl
 | cons l ls ih =>
  intro i;rw [csG,csG];by_cases hl:hasN p.labels l=true
  ·rw [if_pos hl,if_pos hl]
   rcases h (idxB p.labels l) (s.we p.chan (toE x i)) with q|q
   ·rw [q]
    by_cases h0:(fs.getD (idxB p.labels l) fun _=>0) (s.we p.chan (toE x i))≠0
    ·rw [if_pos h0,if_pos h0];exact .inl rfl
    ·rw [if_neg h0,if_neg h0];exact ih _
   ·rw [if_pos (by rw [q.1];decide)]
    exact .inr q
  ·rw [if_neg hl,if_neg hl];exact .inl rfl
theorem ckR_more(ds:List Df)(n:ByteArray):∀(p:Pr) (s:Sc),MoreR n (ckR gr og ds p s) (ckR gr og (ds++[moreD n]) p s) (clP n p):=by
 apply prInd
 intro p ih s;rw [ckR_eq,ckR_eq];have hf:∀i s,MoreR n (((p.kids.map (ckR gr og ds)).getD i fun _=>0) s) (((p.kids.map (ckR gr og (ds++[moreD n]))).getD i fun _=>0) s) (clP n p):=by
  intro i s;by_cases hi:i<p.kids.length
  ·have e1:((p.kids.map (ckR gr og ds)).getD i fun _=>0)=ckR gr og ds p.kids[i]:=by simp [List.getD,hi]
   have e2:((p.kids.map (ckR gr og (ds++[moreD n]))).getD i fun _=>0)=ckR gr og (ds++[moreD n]) p.kids[i]:=by simp [List.getD,hi]
   rw [e1,e2];exact (ih _ (List.getElem_mem hi) s).imp id fun q=>⟨q.1,clP_kid (List.getElem_mem hi) q.2⟩
  ·have e1:((p.kids.map (ckR gr og ds)).getD i fun _=>0)=fun _=>0:=by simp [List.getD,hi]
   have e2:((p.kids.map (ckR gr og (ds++[moreD n]))).getD i fun _=>0)=fun _=>0:=by simp [List.getD,hi]
   rw [e1,e2];exact .inl rfl
 generalize hfs:p.kids.map (ckR gr og ds)=fs at *;generalize hfs':p.kids.map (ckR gr og (ds++[moreD n]))=fs' at *;unfold ckB;split
 ·exact .inl rfl
 split
 ·split
  ·exact .inl rfl
  ·split
   ·exact .inl rfl
   ·exact csG_more n p fs fs' _ hf s _ _ _
 split
 ·split
  ·exact .inl rfl
  ·split
   ·exact .inl rfl
   ·rename_i q _
    rcases hf 0 ⟨s.vs,s.ss,putE q.1 p.chan ⟨gr p.ty,0⟩⟩ with e|e
    ·rw [e]
     split
     ·exact .inl rfl
     ·exact hf 1 _
    ·rw [if_pos (by rw [e.1];decide)]
     exact .inr e
 split
 ·split
  ·exact .inl rfl
  ·rcases hf 0 s with e|e
   ·rw [e]
    split
    ·exact .inl rfl
    ·exact hf 1 _
   ·rw [if_pos (by rw [e.1];decide)]
    exact .inr e
 split
 ·rename_i hk
  rw [hdOf_more];cases hdOf ds p.name with
  | some d=>exact .inl rfl
  | none =>
   by_cases hn:n=p.name
   ·exact .inr ⟨rfl,by rw [clP_eq,Bool.or_eq_true];exact .inl (decide_eq_true ⟨hk,hn.symm⟩)⟩
   ·rw [if_neg hn];exact .inl rfl
 ·split
  ·exact .inl rfl
  ·exact hf 0 _
theorem bds_more(ds:List Df)(n:ByteArray):∀(l:List Df) (k:Nat),(bdsG gr og (ds++[moreD n]) (l++[moreD n]) k=bdsG gr og ds l k)∨((bdsG gr og ds l k).1=4∧l.any (fun d=>clP n d.body)=true):=by
 intro l;induction l with
 | nil =>
  intro k;refine .inl ?_;have:ckR gr og (ds++[moreD n]) (moreD n).body (scD gr (moreD n))=0:=by rw [ckR_eq];rfl
  rw [List.nil_append,bdsG,bdsG,if_neg (by simpa using this)]
  rfl
 | cons d l ih =>
  intro k;rw [List.cons_append,bdsG,bdsG];rcases ckR_more gr og ds n d.body (scD gr d) with e|e
  ·rw [e]
   by_cases h:ckR gr og ds d.body (scD gr d)≠0
   ·rw [if_pos h,if_pos h];exact .inl rfl
   ·rw [if_neg h,if_neg h]
    exact (ih (k+1)).imp id fun q=>⟨q.1,by rw [List.any_cons,Bool.or_eq_true];exact .inr q.2⟩
  ·refine .inr ⟨?_,by rw [List.any_cons,Bool.or_eq_true];exact .inl e.2⟩
   rw [if_pos (by rw [e.1];decide)]
   exact e.1
theorem owns_more(n:ByteArray):∀(l a:List Df),ownsG a (l++[moreD n])=match ownsG a l with
  | some k=>some k
  | none=>if (a++l).any (fun d=>decide (d.name=n)) then some (a++l).length else none:=by
 intro l;induction l with
 | nil =>
  intro a;rw [List.nil_append,ownsG,ownsG,ownsG,List.append_nil];have:ownN a (moreD n) = !a.any fun x=>decide (x.name=n):=by unfold ownN;rfl
  rw [this];cases a.any fun x=>decide (x.name=n) <;> rfl
 | cons d l ih =>
  intro a;rw [List.cons_append,ownsG,ownsG];by_cases h:ownN a d=true
  ·rw [if_pos h,if_pos h,ih,List.append_assoc];rfl
  ·rw [if_neg h,if_neg h]
theorem ckP_ok(d:Df)(l:List Df)(h:shpP (d::l)=0):ckP gr og (d::l)=if d.vals.length > 0∨d.chans.length > 0 then (1,0) else match ownsG [] (d::l) with
  | some k=>(4,k)
  | none=>bdsG gr og (d::l) (d::l) 0:=by
 unfold ckP;rw [if_neg (by simpa using h)]
 rfl
theorem more_plain(ds:List Df)(n:ByteArray)(h1:shpP ds=0)(h2:shpP (ds++[moreD n])=0):
  (ds.any (fun d=>decide (d.name=n))=true→(ckP gr og (ds++[moreD n])).1≠0) ∧
  (ds.any (fun d=>decide (d.name=n))=false→ckP gr og (ds++[moreD n])=ckP gr og ds∨((ckP gr og ds).1=4∧ds.any (fun d=>clP n d.body)=true)):=by
 have hne:=(shp_def h1).1;cases ds with
 | nil=>exact absurd rfl hne
 | cons d l =>
  have e1:=ckP_ok gr og d l h1;have e2:=ckP_ok gr og d (l++[moreD n]) h2;have e3:ownsG [] (d::(l++[moreD n]))=match ownsG [] (d::l) with
   | some k=>some k
   | none=>if ([]++(d::l)).any (fun d=>decide (d.name=n)) then some ([]++(d::l)).length else none:=owns_more n (d::l) []
  rw [List.nil_append]at e3;have e4:=bds_more gr og (d::l) n (d::l) 0;rw [show (d::l)++[moreD n]=d::(l++[moreD n]) from rfl]at e4 ⊢
  rw [e1,e2,e3];generalize bdsG gr og (d::(l++[moreD n])) (d::(l++[moreD n])) 0=b2 at *;generalize bdsG gr og (d::l) (d::l) 0=b1 at *;generalize ((d::l).any fun d=>clP n d.body)=cl at *
  generalize ((d::l).any fun d=>decide (d.name=n))=dup at *
  split
  ·exact ⟨fun _=>by simp,fun _=>.inl rfl⟩
  cases ownsG [] (d::l) with
  | some k=>exact ⟨fun _=>by simp,fun _=>.inl rfl⟩
  | none =>
   constructor
   ·intro h
    rw [h];simp
   ·intro h
    rw [h];exact e4
theorem more_shape(ds:List Df)(n:ByteArray)(h1:shpP ds≠0)(h2:shpP (ds++[moreD n])=0):(ckP gr og ds).1=1:=by
 have hz:ds=[]:=by
  apply Classical.byContradiction
  intro hne;apply h1
  unfold shpP at h2 ⊢;rw [if_neg (by simp)]at h2
  rw [if_neg (by simpa using hne)]
  by_cases q:10<(ds++[moreD n]).length
  ·rw [if_pos q]at h2;exact absurd h2 (by decide)
  ·rw [if_neg q]at h2
   rw [if_neg (by simp at q;omega)]
   rw [shpDs_snoc]at h2;by_cases q2:(shpDs ds (0,0)).1≠0
   ·rw [if_pos q2]at h2;exact absurd h2 q2
   ·simpa using q2
 subst hz;unfold ckP;rw [if_pos h1];rfl
theorem ck_shape(ds:List Df)(h:shpP ds≠0):(ckP gr og ds).1≠0:=by
 unfold ckP;rw [if_pos h];exact h
end
def PrsAt(W:World)(B d:Nat)(ks:List Pr)(ka:OAd):Prop:=ks=[]∨∃b o,ka=some ⟨b,o,none⟩∧b<B∧∀i (h:i<ks.length),∃a',PrAt W b (o+i*19) ks[i] a'∧PrOK W B d ks[i] a'
theorem PrsAt.keep{W W':World}{B d:Nat}{ks:List Pr}{ka:OAd}(h:PrsAt W B d ks ka)(hb:Below B W W'):PrsAt W' B d ks ka :=
 h.imp id fun ⟨b,o,e,hl,h⟩=>⟨b,o,e,hl,fun i hi=>by
  obtain ⟨a',h1,h2⟩:=h i hi;exact ⟨a',h1.keep hb hl,PrOK.keep hb h2⟩⟩
theorem PrsAt.mono{W:World}{B B' d:Nat}{ks:List Pr}{ka:OAd}(h:PrsAt W B d ks ka)(hB:B≤B'):PrsAt W B' d ks ka :=
 h.imp id fun ⟨b,o,e,hl,h⟩=>⟨b,o,e,by omega,fun i hi=>by
  obtain ⟨a',h1,h2⟩:=h i hi;exact ⟨a',h1,PrOK.mono hB h2⟩⟩
theorem indexPr_any(ds:List Pr)(ad:OAd)(cd B f:Nat)(cp:Value)(P:Pr→Bool)(t:Bool)(ht:ds.any P=t)(w:World)(dd:Nat)(hd:PrsAt w B dd ds ad)(hB:B≤w.heap.size)(hl:ds.length≤9223372036854775807)(hf:∀args W,(callFunc f args).run Tryz.prog W = .ok (.enter f args) W)
  (c:∀x a W,x∈ds→Below w.heap.size w W→PrOK W W.heap.size dd x a→Calls Tryz.prog f #[prVal x a,cp] W fun e w'=>e = .returned (.bool (P x))∧Below W.heap.size W w') :
  Calls Tryz.prog 55 #[.slice ad ds.length cd,.func (.func f) #[] #[cp]] w fun e w'=>(∃z:Int,e = .returned (.int .i64 z)∧(0≤z↔t=true))∧Below w.heap.size w w':=by
 have hlz:(ds.length:Int)≤9223372036854775807:=by omega
 have HC:=hideK c;have HD:=hideK hd;have HT:=hideK ht;clear c hd hl ht;go_enter Tryz.func55,Tryz.ntmps55
 go_wp2_with fail
 go_loopw [8] (fun i wr=>∃k:Nat,k≤ds.length∧i = .int .i64 (k:Int)∧(ds.take k).any P=false∧Below w.heap.size w wr) (fun i _=>ds.length - (intOf i).toNat)
 case atStart=>exact ⟨0,Nat.zero_le _,rfl,rfl,Below.refl _ _⟩
 case round =>
  obtain ⟨k,hk,rfl,hz,hW⟩:=hrel;by_cases hlt:k<ds.length
  ·have hltz:(k:Int)<(ds.length:Int):=by omega
   obtain ⟨b,o,rfl,hbB,hc⟩:=HD.out.resolve_left (fun q=>by rw [q]at hlt;simp at hlt)
   obtain ⟨a',hat,hok⟩:=hc k hlt;have HAT:=hideK (hat.keep (hW.mono hB) hbB);have cR:=HC.out ds[k] a' wr (List.getElem_mem hlt) hW (PrOK.mono (Nat.le_trans hB hW.size) (PrOK.keep (hW.mono hB) hok));have HN:=hideK (any_take P ds hlt);have HM:=hideK (fun (h:P ds[k]=true)=>(show t=true from HT.out ▸ List.any_eq_true.2 ⟨ds[k],List.getElem_mem hlt,h⟩))
   generalize ds[k]=x at *;have HW:=hideK hW;have HZ:=hideK hz;have HK:=hideK hlt;clear hz hW hc hat hok;go_upto_region 4 with fail
   refine wp_region_lit ?_;refine wpList_plain rfl (fun K hK=>?_)
   go_simp
   refine hK _ _ ?_;clear hK K;refine wpList_plain rfl (fun K hK=>?_)
   go_simp
   refine hK _ _ ?_;clear hK K;refine wpList_plain rfl (fun K hK=>?_)
   go_simp
   refine hK _ _ ?_;clear hK K;refine wpList_plain rfl (fun K hK=>?_)
   go_simp
   refine hK _ _ ?_;clear hK K;refine wpList_loadW rfl rfl rfl (load_pr HAT.out) ?_;simp only [prVal,Act.put,List.setIfInBounds_toArray,List.set_cons_zero,List.set_cons_succ]at cR ⊢;cases hq:P x with
   | true =>
    rw [hq]at cR HM;have HF:=hideK (HM.out rfl);clear hq HN HM HZ;go_wp2_with fail
    refine cR.mono ?_;rintro e w5 ⟨rfl,hb5⟩;have HB:=hideK (HW.out.trans (hb5.mono HW.out.size));clear cR hb5 HW HAT;go_wp2_with fail
    go_ret
    exact ⟨⟨_,rfl,fun _=>HF.out,fun _=>by omega⟩,HB.out⟩
   | false =>
    rw [hq]at cR HN;clear hq HM;go_wp2_with fail
    refine cR.mono ?_;rintro e w5 ⟨rfl,hb5⟩;have HB:=hideK (HW.out.trans (hb5.mono HW.out.size));clear cR hb5 HW HAT;go_wp2_with fail
    go_roundw
    case rel=>exact ⟨k+1,HK.out,by go_num,by rw [HN.out,HZ.out];rfl,HB.out⟩
    case measure=>simp [intOf];have:=HK.out;omega
  ·have hltz:¬(k:Int)<(ds.length:Int):=by omega
   rw [List.take_of_length_le (by omega),HT.out]at hz
   have HZ:=hideK hz;have HW:=hideK hW;clear hz hW;go_wp2_with fail
   go_ret
   exact ⟨⟨_,rfl,fun h=>by omega,fun h=>by rw [HZ.out]at h;cases h⟩,HW.out⟩
theorem hasPr_any(ds:List Pr)(ad:OAd)(cd B f:Nat)(cp:Value)(P:Pr→Bool)(w:World)(dd:Nat)(hd:PrsAt w B dd ds ad)(hB:B≤w.heap.size)(hl:ds.length≤9223372036854775807)(hf:∀args W,(callFunc f args).run Tryz.prog W = .ok (.enter f args) W)
  (c:∀x a W,x∈ds→Below w.heap.size w W→PrOK W W.heap.size dd x a→Calls Tryz.prog f #[prVal x a,cp] W fun e w'=>e = .returned (.bool (P x))∧Below W.heap.size W w') :
  Calls Tryz.prog 32 #[.slice ad ds.length cd,.func (.func f) #[] #[cp]] w fun e w'=>e = .returned (.bool (ds.any P))∧Below w.heap.size w w':=by
 have c:=indexPr_any ds ad cd B f cp P _ rfl w dd hd hB hl hf c;generalize ds.any P=t at c ⊢;go_enter Tryz.func32,Tryz.ntmps32
 go_wp2_with fail
 refine c.mono ?_;rintro e w1 ⟨⟨z,rfl,hz⟩,hb⟩;have HZ:=hideK hz;clear hz;go_wp2_with fail
 go_ret
 refine ⟨?_,hb⟩;have e1:decide (0≤z)=t:=by rw [Bool.eq_iff_iff];simpa using HZ.out
 show Ending.returned (Value.bool (decide (0≤z)))=_
 rw [e1]
def CLSaid(n:ByteArray)(d:Nat):Prop:=∀(p:Pr) (a:PrA) (w:World),PrOK w w.heap.size d p a→Calls Tryz.prog 17 #[prVal p a,.string n] w fun e w'=>e = .returned (.bool (clP n p))∧Below w.heap.size w w'
theorem calls1_any(n:ByteArray)(d:Nat)(hc:CLSaid n d)(p:Pr)(a:PrA)(q:Nat)(w:World)(hp:PrOK w w.heap.size d p a)(hq:w.cell? ⟨q,0,none⟩=some (.string n)):
  Calls Tryz.prog 33 #[prVal p a,.pointer (some ⟨q,0,none⟩)] w fun e w'=>e = .returned (.bool (clP n p))∧Below w.heap.size w w':=by
 have hl:=cell_lt hq;have hA:Below w.heap.size w (w.alloc (prBx p a)):=(bR _ _).alloc (nR _) _;have c:=hc p a (w.alloc (prBx p a)) (PrOK.mono hA.size (PrOK.keep hA hp));have hq':(w.alloc (prBx p a)).cell? ⟨q,0,none⟩=some (.string n):=(World.cell?_alloc_past _ _ _ hl).trans hq;have HAT:=hideK (prBx_at w p a);have HA:=hideK hA;generalize clP n p=r at *;simp only [prVal,prBx]at c hq' HAT HA ⊢;clear hl hq hp hc hA;go_enter Tryz.func33,Tryz.ntmps33
 go_upto_region 1 with fail
 generalize w.alloc _=V at *;refine wp_region_lit ?_;refine wpList_loadW rfl rfl rfl (load_pr HAT.out) ?_;simp only [prVal,Act.put,List.setIfInBounds_toArray,List.set_cons_zero,List.set_cons_succ];go_wp2_with fail
 refine c.mono ?_;rintro e w5 ⟨rfl,hb5⟩;have HB:=hideK (HA.out.trans (hb5.mono HA.out.size));clear c hb5 HA HAT;go_wp2_with fail
 go_ret
 exact ⟨rfl,HB.out⟩
theorem calls_step(n:ByteArray)(d:Nat)(ih:∀e,e<d→CLSaid n e):CLSaid n d:=by
 intro p a w hp;have hA:Below w.heap.size w ((w.alloc (.cells (pK p a) 40)).alloc (.cells #[.string n] 9)):=((bR _ _).alloc (nR _) _).alloc (by simp) _
 have hat:PrAt ((w.alloc (.cells (pK p a) 40)).alloc (.cells #[.string n] 9)) w.heap.size 0 p a:=PrAt.keep (B:=(w.alloc (prBx p a)).heap.size) (prBx_at w p a) ((Below.refl _ (w.alloc (prBx p a))).alloc (nR _) _) (by simp)
 have c1:((w.alloc (.cells (pK p a) 40)).alloc (.cells #[.string n] 9)).cell? ⟨w.heap.size+1,0,none⟩=some (.string n):=by go_cell
 have k0:=hat.get (j:=0) (v:=.int .i64 p.kind) (by omega) rfl
 have k2:=hat.get (j:=2) (v:=.string p.name) (by omega) rfl
 have k18:=hat.get (j:=18) (v:=.slice a.ka p.kids.length a.kc) (by omega) rfl
 have hlt:w.heap.size+1<((w.alloc (.cells (pK p a) 40)).alloc (.cells #[.string n] 9)).heap.size:=by simp
 have hkl:p.kids.length≤9223372036854775807:=by have:=hp.b.kl;have:=hp.b.kc;omega
 have hr:clP n p=(decide (p.kind=13∧p.name=n) || p.kids.any (clP n)):=clP_eq n p;have cC:Calls Tryz.prog 32 #[.slice a.ka p.kids.length a.kc,.func (.func 33) #[] #[.pointer (some ⟨w.heap.size+1,0,none⟩)]] ((w.alloc (.cells (pK p a) 40)).alloc (.cells #[.string n] 9)) fun e w'=>e = .returned (.bool (p.kids.any (clP n)))∧Below ((w.alloc (.cells (pK p a) 40)).alloc (.cells #[.string n] 9)).heap.size ((w.alloc (.cells (pK p a) 40)).alloc (.cells #[.string n] 9)) w':=by
  cases d with
  | zero =>
   have hk:p.kids=[]:=hp.2;refine hasPr_any p.kids a.ka a.kc w.heap.size 33 (.pointer (some ⟨w.heap.size+1,0,none⟩)) (clP n) _ 0 (.inl hk) hA.size hkl (fun args W=>by kernel_rfl) (fun x a' W hx=>by rw [hk]at hx;cases hx)
  | succ d =>
   have hks:PrsAt w w.heap.size d p.kids a.ka:=hp.2;refine hasPr_any p.kids a.ka a.kc w.heap.size 33 (.pointer (some ⟨w.heap.size+1,0,none⟩)) (clP n) _ d (hks.keep hA) hA.size hkl (fun args W=>by kernel_rfl) (fun x a' W _ hW hok=>calls1_any n d (ih d (Nat.lt_succ_self _)) x a' (w.heap.size+1) W hok ((hW.cell (p:=⟨w.heap.size+1,0,none⟩) hlt).trans c1))
 have HA:=hideK hA;have HC:=hideK cC;generalize clP n p=res at *;generalize p.kids.any (clP n)=rk at *;simp only [prVal]at *;clear hp hA hat hlt hkl ih cC;by_cases hk:p.kind=13
 ·have hkb:(p.kind==13)=true:=by rw [hk];rfl
  by_cases hn:p.name=n
  ·have hnb:(p.name.toList==n.toList)=true:=by rw [hn];simp
   have HR:=hideK (show res=true from by rw [hr];simp [hk,hn])
   clear hr hk hn;go_enter Tryz.func17,Tryz.ntmps17
   go_upto_region 1 with fail
   generalize (w.alloc (.cells (pK p a) 40)).alloc (.cells #[.string n] 9)=V at *;go_wp2_with fail
   go_ret
   rw [HR.out];exact ⟨rfl,HA.out⟩
  ·have hnb:(p.name.toList==n.toList)=false:=beq_eq_false_iff_ne.2 (fun q=>hn (by rw [ByteArray.toList_eq,ByteArray.toList_eq]at q;exact ByteArray.ext (Array.toList_inj.1 q)))
   have HR:=hideK (show res=rk from by rw [hr];simp [hn])
   clear hr hk hn;go_enter Tryz.func17,Tryz.ntmps17
   go_upto_region 1 with fail
   generalize (w.alloc (.cells (pK p a) 40)).alloc (.cells #[.string n] 9)=V at *;have c:=HC.out;go_wp2_with fail
   refine c.mono ?_;rintro e w5 ⟨rfl,hb5⟩;have HB:=hideK (HA.out.trans (hb5.mono HA.out.size));clear c hb5 HA HC;go_wp2_with fail
   go_ret
   rw [HR.out];exact ⟨rfl,HB.out⟩
 ·have hkb:(p.kind==13)=false:=by simpa using hk
  have HR:=hideK (show res=rk from by rw [hr];simp [hk])
  clear hr hk;go_enter Tryz.func17,Tryz.ntmps17
  go_upto_region 1 with fail
  generalize (w.alloc (.cells (pK p a) 40)).alloc (.cells #[.string n] 9)=V at *;have c:=HC.out;go_wp2_with fail
  refine c.mono ?_;rintro e w5 ⟨rfl,hb5⟩;have HB:=hideK (HA.out.trans (hb5.mono HA.out.size));clear c hb5 HA HC;go_wp2_with fail
  go_ret
  rw [HR.out];exact ⟨rfl,HB.out⟩
theorem calls_any(n:ByteArray)(d:Nat):CLSaid n d:=by
 induction d using Nat.strongRecOn with
 | _ d ih=>exact calls_step n d ih
theorem more1_any(x:Df)(a:DfA)(q:Nat)(n:ByteArray)(w:World)(hq:w.cell? ⟨q,0,none⟩=some (.string n)):
  Calls Tryz.prog 15 #[dfVal x a,.pointer (some ⟨q,0,none⟩)] w fun e w'=>e = .returned (.bool (decide (x.name=n)))∧Below w.heap.size w w':=by
 have hl:=cell_lt hq;have HB:=hideK ((Below.refl w.heap.size w).alloc (nR _) (dfBx x a));have c0:=(dfBx_at w x a).get (j:=0) (v:=.string x.name) (by omega) rfl
 have hq':(w.alloc (dfBx x a)).cell? ⟨q,0,none⟩=some (.string n):=(World.cell?_alloc_past _ _ _ hl).trans hq;rw [← ba_beq x.name n];simp only [dfVal,dfBx]at HB c0 hq' ⊢;clear hl hq;go_enter Tryz.func15,Tryz.ntmps15
 go_upto_region 1 with fail
 generalize w.alloc _=V at *;go_wp2_with fail
 go_ret
 exact ⟨rfl,HB.out⟩
theorem more2_any(x:Df)(a:DfA)(q:Nat)(n:ByteArray)(w:World)(hok:DfOK w w.heap.size x a)(hq:w.cell? ⟨q,0,none⟩=some (.string n)):
  Calls Tryz.prog 16 #[dfVal x a,.pointer (some ⟨q,0,none⟩)] w fun e w'=>e = .returned (.bool (clP n x.body))∧Below w.heap.size w w':=by
 have hl:=cell_lt hq;have hA:Below w.heap.size w (w.alloc (dfBx x a)):=(bR _ _).alloc (nR _) _;have HB:=hideK hA;obtain ⟨d,hp⟩:=hok.body;have c:=calls_any n d x.body a.pa (w.alloc (dfBx x a)) (PrOK.mono hA.size (PrOK.keep hA hp));have HAT:=hideK (show PrAt (w.alloc (dfBx x a)) w.heap.size 5 x.body a.pa from by have:=(dfBx_at w x a).body;rwa [Nat.zero_add]at this)
 have hq':(w.alloc (dfBx x a)).cell? ⟨q,0,none⟩=some (.string n):=(World.cell?_alloc_past _ _ _ hl).trans hq;generalize clP n x.body=r at *;simp only [dfVal,dfBx,prVal]at HB c HAT hq' ⊢;clear hl hq hA hok hp;go_enter Tryz.func16,Tryz.ntmps16
 go_upto_region 1 with fail
 generalize w.alloc _=V at *;refine wp_region_lit ?_;refine wpList_plain rfl (fun K hK=>?_)
 go_simp
 refine hK _ _ ?_;clear hK K;refine wpList_loadW rfl rfl rfl (load_pr HAT.out) ?_;simp only [prVal,Act.put,List.setIfInBounds_toArray,List.set_cons_zero,List.set_cons_succ];go_wp2_with fail
 refine c.mono ?_;rintro e w5 ⟨rfl,hb5⟩;have HB2:=hideK (HB.out.trans (hb5.mono HB.out.size));clear c hb5 HB HAT;go_wp2_with fail
 go_ret
 exact ⟨rfl,HB2.out⟩
def dCs(ts:List (Df × DfA)):List Value:=ts.flatMap fun t=>dfCs t.1 t.2
theorem dCs_app(l m:List (Df × DfA)):dCs (l++m)=dCs l++dCs m:=by unfold dCs;rw [List.flatMap_append]
theorem dfCs_len(d:Df)(a:DfA):(dfCs d a).length=24:=rfl
theorem dCs_len(l:List (Df × DfA)):(dCs l).length=l.length*24:=by
 induction l with
 | nil=>rfl
 | cons t l ih=>show (dfCs t.1 t.2++dCs l).length=_;rw [List.length_append,ih,dfCs_len];simp;omega
theorem dCs_at(l:List (Df × DfA)):∀(i:Nat) (h:i<l.length) (j:Nat),j<24→(dCs l)[i*24+j]? = (dfCs l[i].1 l[i].2)[j]?:=by
 induction l with
 | nil=>intro i h;simp at h
 | cons t l ih =>
  intro i h j hj;show (dfCs t.1 t.2++dCs l)[i*24+j]? = _
  match i with
  | 0=>rw [Nat.zero_mul,Nat.zero_add,List.getElem?_append_left (by rw [dfCs_len];exact hj)];rfl
  | i+1 =>
   rw [List.getElem?_append_right (by rw [dfCs_len];omega),dfCs_len,show (i+1)*24+j - 24=i*24+j by omega]
   exact ih i (by simpa using h) j hj
theorem dCs_one(l:List (Df × DfA)):∀u∈dCs l,u.oneCell'=true:=by
 intro u hu;obtain ⟨t,_,ht⟩:=List.mem_flatMap.1 hu;simp only [dfCs,dfHd,prCs,List.mem_append,List.mem_cons,List.not_mem_nil,or_false]at ht;rcases ht with (h|h|h|h|h)|(h|h|h|h|h|h|h|h|h|h|h|h|h|h|h|h|h|h|h) <;> (rw [h];rfl)
theorem DfsAt.list{W:World}{B:Nat}{ds:List Df}{b o:Nat}(h:∀i (h:i<ds.length),∃a,DfAt W b (o+i*24) ds[i] a∧DfOK W B ds[i] a):∃ts:List (Df × DfA),ts.map (·.1)=ds∧(∀t∈ts,DfOK W B t.1 t.2)∧∀i (h:i<ts.length),DfAt W b (o+i*24) ts[i].1 ts[i].2:=by
 refine ⟨List.ofFn fun i:Fin ds.length=>(ds[i.1],(h i.1 i.2).choose),?_,?_,?_⟩
 ·apply List.ext_getElem
  ·simp
  ·intro i h1 h2;simp
 ·intro t ht
  obtain ⟨i,rfl⟩:=List.mem_ofFn.1 ht;exact (h i.1 i.2).choose_spec.2
 ·intro i hi
  have hi':i<ds.length:=by simpa using hi
  simp only [List.getElem_ofFn];exact (h i hi').choose_spec.1
theorem infoDf:(Tryz.prog.info? 42).map (fun i=>(i.zero,i.size,i.bytes))=some (some (.agg #[.string ⟨#[]⟩,.slice none 0 0,.slice none 0 0,.slice none 0 0,.slice none 0 0,.int .i64 0,.string ⟨#[]⟩,.string ⟨#[]⟩,.string ⟨#[]⟩,.int .i64 0,.string ⟨#[]⟩,.int .i64 0,.int .i64 0,.string ⟨#[]⟩,.slice none 0 0,.slice none 0 0,.slice none 0 0,.int .i64 0,.int .i64 0,.string ⟨#[]⟩,.slice none 0 0,.slice none 0 0,.slice none 0 0,.slice none 0 0]),24,424):=by kernel_rfl
theorem cloneD_any(ds:List Df)(ad:OAd)(cd B:Nat)(w:World)(hd:DfsAt w B ds ad)(hn:ad=none→ds=[])(hl:ds.length*424≤140737488355328):
  Calls Tryz.prog 13 #[.slice ad ds.length cd] w fun e w'=>(∃v ts,e = .returned v∧ts.map (·.1)=ds∧(∀t∈ts,DfOK w B t.1 t.2)∧w'.ownsRow w.heap.size 42 24 v ds.length (dCs ts))∧Below w.heap.size w w':=by
 obtain ⟨i0,hi,hz0,hz1,hz2⟩:=info_parts infoDf;have qB:∀(w:World) (a:OAd) (n c n' c':Nat),(binOp .eql 22 (.slice a n c) (.slice none n' c')).run Tryz.prog w = .ok (.bool a.isNone) w:=fun w a n c n' c'=>Lib.run_eql_slice_nil w _ _ a n c n' c' Tryz.underlying22
 cases ad with
 | none =>
  obtain rfl:=hn rfl;clear hd hl hn;go_enter Tryz.func13,Tryz.ntmps13
  go_wp2_with fail
  go_ret
  exact ⟨⟨_,[],rfl,rfl,(fun t ht=>by cases ht),World.ownsRow_nil _ _ _ _⟩,Below.refl _ _⟩
 | some ad =>
  obtain ⟨ts,hts,hok,hcl⟩:∃ts:List (Df × DfA),ts.map (·.1)=ds∧(∀t∈ts,DfOK w B t.1 t.2)∧∀j u,(dCs ts)[j]? = some u→w.cell? (ad.add j)=some u:=by
   rcases hd with rfl|⟨b,o,e,hbB,hcs⟩
   ·exact ⟨[],rfl,(fun t ht=>by cases ht),(fun j u hj=>by simp [dCs]at hj)⟩
   ·obtain ⟨ts,h1,h2,h3⟩:=DfsAt.list hcs
    refine ⟨ts,h1,h2,fun j u hj=>?_⟩
    injection e with e
    subst e;have hj':j<ts.length*24:=by have:=(List.getElem?_eq_some_iff.1 hj).1;rw [dCs_len]at this;exact this
    have hq:j / 24<ts.length:=by omega
    have hr:j % 24<24:=Nat.mod_lt _ (by decide)
    have e2:j=j / 24*24+j % 24:=by omega
    rw [e2,dCs_at ts _ hq _ hr]at hj;have:=h3 (j / 24) hq (j % 24) hr;rw [addjo,e2,← Nat.add_assoc,this];exact hj
  have hlen:(dCs ts).length=ds.length*24:=by rw [dCs_len,← hts];simp
  have h1:=dCs_one ts;have hm:ds.length≤maxLen:=by unfold maxLen;omega
  have HN:=hideK hcl;have HK:=hideK (And.intro hts hok);clear hcl hd hn hts hok;generalize hnews:dCs ts=news at *;generalize ds.length=n at *;go_enter Tryz.func13,Tryz.ntmps13
  go_wp2_with (at_builtin;refine wpList_append_own _ rfl _ _ 22 rfl w.heap.size 42 i0 _ 24 424 Tryz.underlying22 hi hz0 hz1 hz2 rfl (by decide) _ _ _ rfl (World.ownsRow_made w #[] 0 (nR _) (Nat.zero_le _) (by simp)) ad n cd news rfl ?qc1 ?qc2 ?qc3 ?qc4 ?qc5 ?qc6 ?_)
  case qc1=>exact hlen
  case qc2 =>
   intro j u hj;exact Lib.cell?_alloc_some _ (HN.out j u hj)
  case qc3=>exact h1
  case qc4=>rw [Nat.zero_add];exact hm
  case qc5=>rw [Nat.zero_add];exact hl
  case qc6=>simp
  intro v' w1 hown hgrow hnil;go_wp2_with fail
  go_ret
  refine ⟨⟨v',ts,rfl,HK.out.1,HK.out.2,by rw [hnews];simpa using hown⟩,?_⟩
  exact ((Below.refl _ w).alloc (nR _) _).grown hgrow (by simp) (by intro k hk;simp [Value.ownBlock]at hk;omega)
theorem rowD{W:World}{B B0:Nat}{v:Value}{ts:List (Df × DfA)}(ho:W.ownsRow B 42 24 v ts.length (dCs ts))(hok:∀t∈ts,DfOK W B0 t.1 t.2)(hB:B0≤W.heap.size):∃aq cq,v = .slice aq ts.length cq∧ts.length≤cq∧cq≤9223372036854775807∧DfsAt W W.heap.size (ts.map (·.1)) aq:=by
 have hc:=own_cells ho;obtain ⟨_,h⟩:=ho;rcases h with ⟨e,h0⟩|⟨g,cap,cur,e,_,_,q1,q2,_⟩
 ·exact ⟨none,0,by rw [e,h0],by omega,by omega,.inl (by rw [List.length_eq_zero_iff.1 h0];rfl)⟩
 ·refine ⟨_,_,e,q1,q2,.inr ⟨g,0,rfl,?_,fun i hi=>?_⟩⟩
  ·rcases hc with ⟨e2,_⟩|⟨g',cap',e2,_,hg,_⟩
   ·rw [e]at e2;cases e2
   ·rw [e]at e2;cases e2;exact hg
  ·rcases hc with ⟨e2,_⟩|⟨g',cap',e2,_,_,hcc⟩
   ·rw [e]at e2;cases e2
   ·rw [e]at e2;cases e2
    have hi':i<ts.length:=by simpa using hi
    rw [List.getElem_map];refine ⟨ts[i].2,fun j hj=>?_,(hok _ (List.getElem_mem hi')).mono hB⟩
    have hq:=dCs_at ts i hi' j hj;have hlt:j<(dfCs ts[i].1 ts[i].2).length:=by rw [dfCs_len];exact hj
    rw [List.getElem?_eq_getElem hlt]at hq ⊢;rw [Nat.zero_add];exact hcc _ _ hq
theorem step_append_df{P:Program}(w:World){ops:Array Oper}{o:Oper}{a:Act}{K:Act→World→Prop}{Q:Exit→Act→World→Prop}{E:Prop}(hgd:o.guard=none)(s x:Operand)(t:TypeId)
  (ho:o.op = .call { callee:=.builtin .append,args:=#[s,x],argTypes:=#[t,t] })
  (base:Nat) (e:TypeId) (i:TypeInfo) (z:Value) (size bytes:Nat) (ht:P.underlying t=some (.slice e)) (hi:P.info? e=some i) (hz:i.zero=some z)
  (hsize:i.size=size) (hby:i.bytes=bytes) (hzs:z.cells.size=size) (hsz:0<size)
  (v:Value) (n:Nat) (xs:List Value) (hs:a.eval s=v) (hown:w.ownsRow base e size v n xs)
  (ad:Addr) (m c:Nat) (news:List Value) (hx:a.eval x = .slice (some ad) m c) (hl:news.length=m*size) (hnews:∀j u,news[j]? = some u→w.cell? (ad.add j)=some u) (h1:∀u∈news,u.oneCell'=true)
  (h63:n+m≤maxLen) (hbytes:(n+m)*bytes≤140737488355328) (hbase:base≤w.heap.size)
  (h:∀v' w',w'.ownsRow base e size v' (n+m) (xs++news)→w.grownBy w' v.ownBlock→(v'.ownBlock=v.ownBlock∨v'.ownBlock=some w.heap.size)→K (a.put o.dst v') w') :
  if Region.wanted o (yielded ops a.tmps)=true then Oper.wp P o a w K Q else E:=by
 rw [if_pos (show Region.wanted o (yielded ops a.tmps)=true by simp [Region.wanted,hgd])]
 obtain ⟨v',w',hr,h2,h3,_,h5⟩:=run_append_own_at (P:=P) w base t o.type e i z size bytes ht hi hz hsize hby hzs hsz v n xs hown ad m c news hl hnews h1 h63 hbytes hbase;unfold Oper.wp execOp;simp only [ho,resolve,invoke,builtin,Sem.run_bind,Sem.run_pure,Result.andThen_ok,List.map_toArray,List.map_cons,List.map_nil,hs,hx,hr];exact h v' w' h2 h3 h5
end Go.Proofs.YtmamabhhgfcjcaaGreatDoor
