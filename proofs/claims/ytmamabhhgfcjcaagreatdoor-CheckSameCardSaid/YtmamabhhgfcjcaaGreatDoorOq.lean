/-
  The contract of package checkInside, for every process that isPart lets by.
-/
import Derived.Test.YtmamabhhgfcjcaaGreatDoorLt
import Derived.Maps.Own
import Derived.StringKeys
import Derived.MapKept
set_option maxRecDepth 100000
set_option maxHeartbeats 8000000
namespace Go.Proofs.YtmamabhhgfcjcaaGreatDoor
open Go.RowKit Go.Shelf
theorem exCheck{W0:World}(h0:Tabs W0)(x:Ex)(ao:OAd)(cap:Nat)(w:World)(hbd:ExBd x cap)(hka:∃d,KA w w.heap.size d x.kids ao)(hT:AT W0 w):
  Calls Tryz.prog 117 #[exVal x ao cap] w fun e w'=>e = .returned (.int .i64 (chkX x))∧Below w.heap.size w w':=by
 obtain ⟨d,hd⟩:=hka;exact chk_any (AT W0) W0.heap.size (at_v h0) at_k at_k2 at_0 d x ao cap w hbd hd hT
theorem tyCheck(t:Ty)(al:OAd)(cl:Nat)(ak:OAd)(ck:Nat)(w:World)(hbd:TyBd t cl ck)(hla:LA w w.heap.size t.labels al)(hkt:∃d,KT w w.heap.size d t.kids ak):
  Calls Tryz.prog 27 #[tyVal t al cl ak ck] w fun e w'=>e = .returned (.int .i64 (chkTy t))∧Below w.heap.size w w':=by
 obtain ⟨d,hd⟩:=hkt;exact typesCheck_any d t al cl ak ck w hbd hla hd
theorem exsE_cons(x:Ex)(l:List Ex):exsE (x::l)=if chkX x≠0 then chkX x else exsE l:=rfl
theorem exsE_app(l m:List Ex):exsE (l++m)=if exsE l≠0 then exsE l else exsE m:=by
 induction l with
 | nil=>rfl
 | cons x l ih =>
  rw [List.cons_append,exsE_cons];have e:=exsE_cons x l;generalize exsE (x::l)=q at *;by_cases h:chkX x≠0
  ·rw [if_pos h]at e ⊢;subst e;rw [if_pos h]
  ·rw [if_neg h]at e ⊢;rw [e];exact ih
theorem exsE_next{xs:List Ex}{k:Nat}(hk:k<xs.length)(h:exsE (xs.take k)=0):exsE (xs.take (k+1))=chkX xs[k]:=by
 rw [List.take_succ_eq_append_getElem hk,exsE_app,if_neg (by simpa using h)]
 rw [exsE_cons];by_cases q:chkX xs[k]≠0
 ·rw [if_pos q]
 ·rw [if_neg q];have:chkX xs[k]=0:=by simpa using q
  rw [this];rfl
theorem exsE_split{xs:List Ex}{k:Nat}(h:exsE (xs.take k)≠0):exsE xs=exsE (xs.take k):=by
 conv=>lhs;rw [← List.take_append_drop k xs]
 rw [exsE_app,if_pos h]
theorem checkInside_any{W0:World}(h0:Tabs W0)(p:Pr)(a:PrA)(w:World)(hb0:PrB w w.heap.size p a)(hk:1≤p.kind∧p.kind≤13)(hT:AT W0 w):
  Calls Tryz.prog 80 #[prVal p a] w fun e w'=>e = .returned (.int .i64 (insP p))∧Below w.heap.size w w':=by
 have HB0:=hideK hb0;have HK:=hideK hk;have HX0:=hideK (PBx.new w p a);have HT:=hideK hT;have hxl:(p.exs.length:Int)≤9223372036854775807:=by have:=hb0.exs.len;have:=hb0.exs.cap;omega
 have HE:=hideK (fun (x:Ex) (ao:OAd) (cap:Nat) (W:World) (hbd:ExBd x cap) (hka:∃d,KA W W.heap.size d x.kids ao) (hW:Below w.heap.size w W)=>exCheck h0 x ao cap W hbd hka (at_k _ _ hT hW))
 have cF:=fieldsOf_any p.kind (w.alloc (prBx p a)) hk;have HI:=hideK (show insP p=if exsE p.exs≠0 then exsE p.exs else if hvX p.kind then chkX p.ex else if hvT p.kind then chkTy p.ty else 0 from rfl)
 generalize insP p=r at *;clear hb0 hk hT;simp only [prBx,prVal]at HX0 cF ⊢;go_enter Tryz.func80,Tryz.ntmps80
 go_wp2_with fail
 refine cF.mono ?_;rintro e w1 ⟨rfl,rfl⟩;clear cF;generalize (w.alloc (.cells (pK p a) 40))=V at *;have x10:=HX0.out.at0.get (j:=10) (v:=.slice a.xa p.exs.length a.xc) (by omega) rfl
 go_wp2_with fail
 go_loopw [13] (fun i wr=>∃k:Nat,k≤p.exs.length∧i = .int .i64 (k:Int)∧exsE (p.exs.take k)=0∧PBx w w.heap.size p a wr) (fun i _=>p.exs.length - (intOf i).toNat)
 case atStart=>exact ⟨0,Nat.zero_le _,rfl,rfl,HX0.out⟩
 case round =>
  obtain ⟨k,hk,rfl,hz,hX⟩:=hrel;clear x10 HX0;by_cases hlt:k<p.exs.length
  ·have hltz:(k:Int)<(p.exs.length:Int):=by omega
   obtain ⟨d,hka⟩:=HB0.out.exs.ka;obtain ⟨b,o,ao',cap',ha,hbB,hex,hxb,hkk⟩:∃b o ao' cap',a.xa=some ⟨b,o,none⟩∧b<w.heap.size∧ExAt w b (o+k*6) p.exs[k] ao' cap'∧ExBd p.exs[k] cap'∧∃d,KA w w.heap.size d p.exs[k].kids ao':=by
    cases d with
    | zero=>simp only [KA]at hka;rw [hka]at hlt;simp at hlt
    | succ d =>
     rcases hka with hka|⟨b,o,e,hbB,hka⟩
     ·rw [hka]at hlt;simp at hlt
     ·obtain ⟨ao',cap',h1,h2,h3⟩:=hka k hlt
      exact ⟨b,o,ao',cap',e,hbB,h1,h2,d,h3⟩
   obtain ⟨y0,y1,y2,y3,y4,y5⟩:=hex.keep hX.bl hbB;have hA:Below wr.heap.size wr (wr.alloc (.cells #[.int .i64 p.exs[k].kind,.string p.exs[k].name,.int .i64 p.exs[k].so,.int .i64 p.exs[k].n,.string p.exs[k].s,.slice ao' p.exs[k].kids.length cap'] 34)):=(bR _ _).alloc (nR _) _;have hAw:=hX.bl.trans (hA.mono hX.bl.size);have c:=HE.out p.exs[k] ao' cap' _ hxb (hkk.imp fun _ q=>KA.mono hAw.size (KA.keep hAw q)) hAw
   simp only [exVal]at c;have HX1:=hideK (hX.keep hA);have HN:=hideK (exsE_next hlt hz);have hs0:p.exs[k].kids.length=p.exs[k].kids.length:=rfl;generalize p.exs[k]=x at *;rw [ha];clear hz hX hex hxb hkk hka hA hAw hs0;go_wp2_with fail
   refine c.mono ?_;rintro e w2 ⟨rfl,hb2⟩;have HX2:=hideK (HX1.out.keep hb2);clear c hb2 HX1 y0 y1 y2 y3 y4 y5;by_cases hr:chkX x=0
   ·have hrb:(chkX x != 0)=false:=by simpa using hr
    have HR:=hideK (HN.out.trans hr);clear hr HN;go_wp2_with fail
    go_roundw
    case rel=>exact ⟨k+1,by omega,by go_num,HR.out,HX2.out⟩
    case measure=>simp [intOf];omega
   ·have hrb:(chkX x != 0)=true:=by simpa using hr
    have HR:=hideK (show r=chkX x from by
     rw [HI.out,exsE_split (k:=k+1) (by rw [HN.out];exact hr),HN.out,if_pos hr])
    clear hr HN;go_wp2_with fail
    go_ret
    exact ⟨by rw [HR.out];rfl,HX2.out.bl⟩
  ·have hltz:¬(k:Int)<(p.exs.length:Int):=by omega
   have hfin:p.exs.take k=p.exs:=List.take_of_length_le (by omega)
   rw [hfin]at hz;have HZ:=hideK hz;have HX:=hideK hX;have c1:=haveX_any p.kind wr HK.out;have c2:=haveT_any p.kind wr HK.out;clear hz hfin;rw [if_neg (by simpa using HZ.out)]at HI
   generalize hvX p.kind=vx at *;generalize hvT p.kind=vt at *;go_wp2_with fail
   refine c1.mono ?_;rintro e w2 ⟨rfl,rfl⟩;clear c1;cases vx
   ·rw [if_neg (by simp)]at HI
    go_wp2_with fail
    refine c2.mono ?_;rintro e w3 ⟨rfl,rfl⟩;clear c2;cases vt
    ·rw [if_neg (by simp)]at HI
     clear hX;go_wp2_with fail
     go_ret
     exact ⟨by rw [HI.out];rfl,HX.out.bl⟩
    ·rw [if_pos rfl]at HI
     have c3:=tyCheck p.ty a.tl a.tlc a.tk a.tkc w3 HB0.out.tyb ((NAt.keep hX.bl HB0.out.tyl).mono hX.bl.size) (HB0.out.tyk.imp fun _ q=>KT.mono hX.bl.size (KT.keep hX.bl q))
     simp only [tyVal]at c3;obtain ⟨x0,x1,x2,x3,x4⟩:=hX.at0.ty;simp only [Nat.zero_add,Nat.reduceAdd]at x0 x1 x2 x3 x4;clear hX;go_wp2_with fail
     refine c3.mono ?_;rintro e w4 ⟨rfl,hb4⟩;have HB:=hideK (HX.out.keep hb4).bl;clear c3 hb4 x0 x1 x2 x3 x4;go_wp2_with fail
     go_ret
     exact ⟨by rw [HI.out];rfl,HB.out⟩
   ·rw [if_pos rfl]at HI
    have c3:=HE.out p.ex a.ea a.ec w2 HB0.out.exb (HB0.out.exk.imp fun _ q=>KA.mono hX.bl.size (KA.keep hX.bl q)) hX.bl
    simp only [exVal]at c3;obtain ⟨x0,x1,x2,x3,x4,x5⟩:=hX.at0.ex;simp only [Nat.zero_add,Nat.reduceAdd]at x0 x1 x2 x3 x4 x5;clear hX c2;go_wp2_with fail
    refine c3.mono ?_;rintro e w4 ⟨rfl,hb4⟩;have HB:=hideK (HX.out.keep hb4).bl;clear c3 hb4 x0 x1 x2 x3 x4 x5;go_wp2_with fail
    go_ret
    exact ⟨by rw [HI.out];rfl,HB.out⟩
structure PSt(w:World)(pb c:Nat)(p:Pr)(a:PrA)(W:World):Prop where
 lt:w.heap.size<W.heap.size
 at0:PrAt W w.heap.size 0 p a
 pc:PC W pb c
 bl:Below pb w W
theorem PSt.keep{w:World}{pb c:Nat}{p:Pr}{a:PrA}{W W':World}(h:PSt w pb c p a W)(hb:Below W.heap.size W W'):PSt w pb c p a W' :=
 ⟨nL h.lt hb.size,h.at0.keep hb h.lt,h.pc.keep hb h.pc.lt,h.bl.trans (hb.mono (Nat.le_of_lt h.pc.lt))⟩
def CPrSaid(W0:World)(d:Nat):Prop:=∀(p:Pr) (a:PrA) (c pb B:Nat) (w:World),PrOK w B d p a→B≤pb→W0.heap.size≤pb→PC w pb c→c≤200→AT W0 w →
 Calls Tryz.prog 47 #[prVal p a,.pointer (some ⟨pb,0,none⟩)] w fun e w'=>e = .returned (.int .i64 (shpR p c).1)∧PC w' pb (shpR p c).2∧Below pb w w'
theorem PSt.new{w:World}{pb c:Nat}(p:Pr)(a:PrA)(h:PC w pb c):PSt w pb (c+1) p a ((w.setCell ⟨pb,0,none⟩ (.int .i64 ((c:Int)+1))).alloc (.cells (pK p a) 40)):=by
 have hs:Below pb w (w.setCell ⟨pb,0,none⟩ (.int .i64 ((c:Int)+1))):=(FR.set (pb:=pb) (w:=w) _).below (Nat.le_of_lt h.lt);have hsz:(w.setCell ⟨pb,0,none⟩ (.int .i64 ((c:Int)+1))).heap.size=w.heap.size:=by simp
 refine ⟨by simp,?_,(h.set (c+1)).al _,hs.alloc (by have:=h.lt;omega) _⟩
 have:=prBx_at (w.setCell ⟨pb,0,none⟩ (.int .i64 ((c:Int)+1))) p a;rw [hsz]at this;exact this
theorem kids_at{w:World}{B d:Nat}{p:Pr}{a:PrA}(h:PrOK w B d p a){k:Nat}(hk:k<p.kids.length):∃b o a' d',a.ka=some ⟨b,o,none⟩∧b<B∧d'<d∧PrAt w b (o+k*19) p.kids[k] a'∧PrOK w B d' p.kids[k] a':=by
 cases d with
 | zero=>rw [h.2]at hk;simp at hk
 | succ d =>
  rcases h.2 with h|⟨b,o,e,hb,h⟩
  ·rw [h]at hk;simp at hk
  ·obtain ⟨a',h1,h2⟩:=h k hk
   exact ⟨b,o,a',d,e,hb,Nat.lt_succ_self _,h1,h2⟩
theorem checkProc_step{W0:World}(h0:Tabs W0)(d:Nat)(ih:∀d',d'<d→CPrSaid W0 d'):CPrSaid W0 d:=by
 intro p a c pb B w hok hB hB0 hpc hc hT;have hpe:=shpR_eq p c;generalize shpR p c=r at hpe ⊢;have hlt:=hpc.lt;have hp1:=hpc.al (.cells (pK p a) 40);have q1:=hp1.cell;have q2:=hp1.free;have hcz:(c:Int)≤200:=by omega
 have q3:(w.setCell ⟨pb,0,none⟩ (.int .i64 ((c:Int)+1))).cell? ⟨pb,0,none⟩=some (.int .i64 ((c:Int)+1)):=(hpc.set (c+1)).cell;have S0:=hideK (PSt.new p a hpc);have HOK:=hideK hok;have HT:=hideK hT;have hkl:(p.kids.length:Int)≤9223372036854775807:=by have:=hok.b.kl;have:=hok.b.kc;omega
 have HP:=hideK (fun (W:World) (h:PSt w pb (c+1) p a W)=>isPartP_any p a W ((hok.b.keep (h.bl.mono hB)).mono (by have:=h.pc.lt;omega)))
 have HC:=hideK (fun (hk:1≤p.kind∧p.kind≤13) (W:World) (h:PSt w pb (c+1) p a W)=>checkInside_any h0 p a W ((hok.b.keep (h.bl.mono hB)).mono (by have:=h.pc.lt;omega)) hk (at_k2 pb _ _ hB0 hT h.bl))
 clear hp1 hpc hok hT;simp only [prVal]at HP HC ⊢;by_cases h200:200<c+1
 ·have hcge:(200:Int)≤(c:Int):=by omega
  rw [if_pos h200]at hpe;subst hpe;clear ih HP HC;go_enter Tryz.func47,Tryz.ntmps47
  go_wp2_with fail
  go_ret
  exact ⟨rfl,S0.out.pc,S0.out.bl⟩
 rw [if_neg h200]at hpe;have hcz':(c:Int)+1≤200:=by omega
 cases hg:partP p with
 | false =>
  rw [if_pos hg]at hpe;subst hpe;have c1:=HP.out _ S0.out;rw [hg]at c1;clear ih HP HC hg;go_enter Tryz.func47,Tryz.ntmps47
  go_upto_region 4 with fail
  refine wp_region_lit ?_;refine wpList_loadW rfl rfl rfl (load_pr S0.out.at0) ?_;simp only [prVal,Act.put,List.setIfInBounds_toArray,List.set_cons_zero,List.set_cons_succ];go_wp2_with fail
  refine c1.mono ?_;rintro e w1 ⟨rfl,hb1⟩;have S1:=hideK (S0.out.keep hb1);clear c1 hb1 S0;go_wp2_with fail
  go_ret
  exact ⟨rfl,S1.out.pc,S1.out.bl⟩
 | true =>
  rw [if_neg (by rw [hg];simp)]at hpe
  have hk13:1≤p.kind∧p.kind≤13:=by
   unfold partP at hg;rw [Bool.and_eq_true]at hg;have:=hg.1;unfold pt0 at this;have:=of_decide_eq_true this;exact ⟨this.1,this.2.1⟩
  have c1:=HP.out _ S0.out;rw [hg]at c1;clear HP hg;go_enter Tryz.func47,Tryz.ntmps47
  go_upto_region 4 with fail
  refine wp_region_lit ?_;refine wpList_loadW rfl rfl rfl (load_pr S0.out.at0) ?_;simp only [prVal,Act.put,List.setIfInBounds_toArray,List.set_cons_zero,List.set_cons_succ];go_wp2_with fail
  refine c1.mono ?_;rintro e w1 ⟨rfl,hb1⟩;have S1:=hideK (S0.out.keep hb1);have c2:=HC.out hk13 _ S1.out;clear c1 hb1 S0 HC hk13 q1 q2 q3;go_upto_region 6 with fail
  refine wp_region_lit ?_;refine wpList_loadW rfl rfl rfl (load_pr S1.out.at0) ?_;simp only [prVal,Act.put,List.setIfInBounds_toArray,List.set_cons_zero,List.set_cons_succ];go_wp2_with fail
  refine c2.mono ?_;rintro e w2 ⟨rfl,hb2⟩;have S2:=hideK (S1.out.keep hb2);clear c2 hb2 S1;by_cases hi:insP p=0
  case neg =>
   have hib:(insP p != 0)=true:=by simpa using hi
   rw [if_pos hi]at hpe;subst hpe;clear hi ih;go_wp2_with fail
   go_ret
   exact ⟨rfl,S2.out.pc,S2.out.bl⟩
  have hib:(insP p != 0)=false:=by simpa using hi
  rw [if_neg (by simpa using hi)]at hpe
  subst hpe;clear hi;generalize insP p=z at *;have x18:=S2.out.at0.get (j:=18) (v:=.slice a.ka p.kids.length a.kc) (by omega) rfl
  go_wp2_with fail
  go_loopw [29] (fun i wr=>∃k:Nat,k≤p.kids.length∧i = .int .i64 (k:Int)∧(shpL (p.kids.take k) (0,c+1)).1=0∧PC wr pb (shpL (p.kids.take k) (0,c+1)).2∧Below pb w wr) (fun i _=>p.kids.length - (intOf i).toNat)
  case atStart=>exact ⟨0,Nat.zero_le _,rfl,rfl,S2.out.pc,S2.out.bl⟩
  case round =>
   obtain ⟨k,hk,rfl,hz,hP,hBw⟩:=hrel;clear x18 S2;by_cases hltk:k<p.kids.length
   ·have hltz:(k:Int)<(p.kids.length:Int):=by omega
    obtain ⟨b,o,a',d',ha,hbB,hd,hat,hkd⟩:=kids_at HOK.out hltk;have hcnt:=shpL_cnt (p.kids.take k) (0,c+1) (fun q _=>shpR_cnt q) (by show c+1≤200;omega) hz
    have hsn:shpL (p.kids.take (k+1)) (0,c+1)=shpR p.kids[k] (shpL (p.kids.take k) (0,c+1)).2:=by
     rw [List.take_succ_eq_append_getElem hltk,shpL_snoc,if_neg (by simpa using hz)]
    have hA:Below wr.heap.size wr (wr.alloc (prBx p.kids[k] a')):=(bR _ _).alloc (nR _) _;have hAw:Below pb w (wr.alloc (prBx p.kids[k] a')):=hBw.trans (hA.mono (Nat.le_of_lt hP.lt));have cR:=ih d' hd p.kids[k] a' (shpL (p.kids.take k) (0,c+1)).2 pb B _ (PrOK.keep (hAw.mono hB) hkd) hB hB0 (hP.al _) hcnt.2 (at_k2 pb _ _ hB0 HT.out hAw);have HAT:=hideK (hat.keep (hBw.mono hB) hbB);simp only [prVal]at cR;generalize shpR p.kids[k] (shpL (p.kids.take k) (0,c+1)).2=r2 at cR hsn;have HS:=hideK hsn;have HPC:=hideK hP;have HAW:=hideK hAw;have HSP:=hideK (fun (q:r2.1≠0)=>(shpL_split p.kids (k+1) (0,c+1) (by rw [hsn];exact q)).trans hsn)
    generalize p.kids[k]=x at *;rw [ha];clear hz hP hcnt hsn hat hkd ih hA hAw;go_upto_region 11 with fail
    refine wp_region_lit ?_;refine wpList_plain rfl (fun K hK=>?_)
    go_simp
    refine hK _ _ ?_;clear hK K;refine wpList_loadW rfl rfl rfl (load_pr HAT.out) ?_;simp only [prVal,Act.put,List.setIfInBounds_toArray,List.set_cons_zero,List.set_cons_succ];refine wpList_allocW rfl rfl (alloc_pr _) ?_;simp only [Act.put,sA,sB,sC];refine wpList_storeW rfl rfl rfl rfl (store_pr _ x a') ?_;simp only [Act.put];go_upto_region 12 with fail
    refine wp_region_lit ?_;refine wpList_loadW rfl rfl rfl (load_pr (prBx_at wr x a')) ?_;simp only [prVal,Act.put,List.setIfInBounds_toArray,List.set_cons_zero,List.set_cons_succ];go_wp2_with fail
    refine cR.mono ?_;rintro e w4 ⟨rfl,hP4,hB4⟩;have HP4:=hideK hP4;have HB4:=hideK (HAW.out.trans hB4);clear cR hP4 hB4 HAT;by_cases hr:r2.1=0
    ·have hrb:(r2.1 != 0)=false:=by simpa using hr
     have HR:=hideK hr;clear hr;go_wp2_with fail
     go_roundw
     case rel=>exact ⟨k+1,by omega,by go_num,by rw [HS.out];exact HR.out,by rw [HS.out];exact HP4.out,HB4.out⟩
     case measure=>simp [intOf];omega
    ·have hrb:(r2.1 != 0)=true:=by simpa using hr
     have HR:=hideK (HSP.out hr);clear hr;go_wp2_with fail
     go_ret
     rw [HR.out];exact ⟨rfl,HP4.out,HB4.out⟩
   ·have hltz:¬(k:Int)<(p.kids.length:Int):=by omega
    have hfin:p.kids.take k=p.kids:=List.take_of_length_le (by omega)
    rw [hfin]at hz hP;have HZ:=hideK hz;have HPC:=hideK hP;have HBW:=hideK hBw;clear hz hfin hP hBw;go_wp2_with fail
    go_ret
    exact ⟨by rw [HZ.out];rfl,HPC.out,HBW.out⟩
theorem checkProc_any{W0:World}(h0:Tabs W0)(d:Nat):CPrSaid W0 d:=by
 induction d using Nat.strongRecOn with
 | _ d ih=>exact checkProc_step h0 d ih
theorem isNoSort_any(z:Int)(w:World):Calls Tryz.prog 78 #[.int .i64 z] w fun e w'=>e = .returned (.bool (!decide (z=1∨z=2∨z=3)))∧w'=w:=by
 have c:=sortWord_any z w;have hq:=swB_empty z;generalize swB z=s at *;generalize decide (z=1∨z=2∨z=3)=q at *;go_enter Tryz.func78,Tryz.ntmps78
 go_wp2_with fail
 refine c.mono ?_;rintro e w1 ⟨rfl,rfl⟩;clear c;have HQ:=hideK hq;clear hq;go_wp2_with fail
 go_ret
 exact ⟨by rw [← HQ.out];rfl,rfl⟩
theorem indexSrt_any(zs:List Int)(al:OAd)(cl B:Nat)(w:World)(hL:NAt w B (zs.map (Value.int .i64)) al)(hl:zs.length≤1000):
  Calls Tryz.prog 107 #[.slice al zs.length cl,.func (.func 78) #[] #[]] w fun e w'=>(∃z:Int,e = .returned (.int .i64 z)∧(0≤z∨z = -1)∧(z = -1↔srtsOK zs=true))∧w'=w:=by
 have hlz:(zs.length:Int)≤1000:=by omega
 go_enter Tryz.func107,Tryz.ntmps107
 go_wp2_with fail
 go_loopw [8] (fun i wr=>∃k:Nat,k≤zs.length∧i = .int .i64 (k:Int)∧srtsOK (zs.take k)=true∧wr=w) (fun i _=>zs.length - (intOf i).toNat)
 case atStart=>exact ⟨0,Nat.zero_le _,rfl,rfl,rfl⟩
 case round =>
  obtain ⟨k,hk,rfl,hn,rfl⟩:=hrel;by_cases hlt:k<zs.length
  ·have hltz:(k:Int)<(zs.length:Int):=by omega
   obtain ⟨b,o,rfl,hbl,hc⟩:=hL.resolve_left (fun q=>by have:=congrArg List.length q;simp at this;rw [this]at hlt;simp at hlt)
   have d0:=hc k (by simpa using hlt)
   rw [List.getElem_map]at d0;have c:=isNoSort_any zs[k] wr;cases hq:decide (zs[k]=1∨zs[k]=2∨zs[k]=3) with
   | true =>
    rw [hq]at c;have HN:=hideK (show srtsOK (zs.take (k+1))=true from by
     unfold srtsOK at hn ⊢;rw [List.take_succ_eq_append_getElem hlt,List.all_append,hn];simpa using hq)
    clear hc hn hq hL;generalize zs[k]=y at *;go_wp2_with fail
    refine c.mono ?_;rintro e w1 ⟨rfl,rfl⟩;clear c;go_wp2_with fail
    go_roundw
    case rel=>exact ⟨k+1,by omega,by go_num,HN.out,by first|rfl|trivial⟩
    case measure=>simp [intOf];omega
   | false =>
    rw [hq]at c;have HN:=hideK (show ¬srtsOK zs=true from fun h=>by
     have:=List.all_eq_true.1 h _ (List.getElem_mem hlt);rw [hq]at this;cases this)
    clear hc hn hq hL;generalize zs[k]=y at *;go_wp2_with fail
    refine c.mono ?_;rintro e w1 ⟨rfl,rfl⟩;clear c;go_wp2_with fail
    go_ret
    exact ⟨⟨_,rfl,.inl (by omega),⟨fun h=>absurd h (by omega),fun h=>absurd h HN.out⟩⟩,rfl⟩
  ·have hltz:¬(k:Int)<(zs.length:Int):=by omega
   have hkl:k=zs.length:=by omega
   subst hkl;rw [List.take_length]at hn;have HN:=hideK hn;clear hn;go_wp2_with fail
   go_ret
   exact ⟨⟨_,rfl,.inr rfl,⟨fun _=>HN.out,fun _=>rfl⟩⟩,rfl⟩
theorem containsSrt_any(zs:List Int)(al:OAd)(cl B:Nat)(w:World)(hL:NAt w B (zs.map (Value.int .i64)) al)(hl:zs.length≤1000):
  Calls Tryz.prog 77 #[.slice al zs.length cl,.func (.func 78) #[] #[]] w fun e w'=>e = .returned (.bool (!srtsOK zs))∧w'=w:=by
 have c:=indexSrt_any zs al cl B w hL hl;generalize srtsOK zs=q at *;go_enter Tryz.func77,Tryz.ntmps77
 go_wp2_with fail
 refine c.mono ?_;rintro e w1 ⟨⟨z,rfl,hz,hq⟩,rfl⟩;have hd:decide (0≤z) = !q:=by
  rcases hz with h|h
  ·have:q=false:=by
    cases q with
    | false=>rfl
    | true=>have:=hq.2 rfl;omega
   rw [this];simpa using h
  ·have:q=true:=hq.1 h
   rw [this,h];decide
 clear c hq hz;go_wp2_with fail
 go_ret
 exact ⟨by rw [← hd];rfl,rfl⟩
def dfBx(d:Df)(a:DfA):Obj:=.cells #[.string d.name,.slice a.va d.vals.length a.vc,.slice a.sa d.sorts.length a.sc,.slice a.ca d.chans.length a.cc,.slice a.ta d.tys.length a.tc,.int .i64 d.body.kind,.string d.body.chan,.string d.body.name,.string d.body.label,.int .i64 d.body.ex.kind,.string d.body.ex.name,.int .i64 d.body.ex.so,.int .i64 d.body.ex.n,.string d.body.ex.s,.slice a.pa.ea d.body.ex.kids.length a.pa.ec,.slice a.pa.xa d.body.exs.length a.pa.xc,.slice a.pa.na d.body.names.length a.pa.nc,.int .i64 d.body.ty.kind,.int .i64 d.body.ty.so,.string d.body.ty.name,.slice a.pa.tl d.body.ty.labels.length a.pa.tlc,.slice a.pa.tk d.body.ty.kids.length a.pa.tkc,.slice a.pa.la d.body.labels.length a.pa.lc,.slice a.pa.ka d.body.kids.length a.pa.kc] 42
theorem dfBx_at(W:World)(d:Df)(a:DfA):DfAt (W.alloc (dfBx d a)) W.heap.size 0 d a:=by
 intro j hj;unfold dfBx dfCs dfHd prCs;match j,hj with
 | 0,_=>go_cell
 | 1,_=>go_cell
 | 2,_=>go_cell
 | 3,_=>go_cell
 | 4,_=>go_cell
 | 5,_=>go_cell
 | 6,_=>go_cell
 | 7,_=>go_cell
 | 8,_=>go_cell
 | 9,_=>go_cell
 | 10,_=>go_cell
 | 11,_=>go_cell
 | 12,_=>go_cell
 | 13,_=>go_cell
 | 14,_=>go_cell
 | 15,_=>go_cell
 | 16,_=>go_cell
 | 17,_=>go_cell
 | 18,_=>go_cell
 | 19,_=>go_cell
 | 20,_=>go_cell
 | 21,_=>go_cell
 | 22,_=>go_cell
 | 23,_=>go_cell
 | n+24,h=>omega
structure DBx(w:World)(b:Nat)(d:Df)(a:DfA)(W:World):Prop where
 bl:Below w.heap.size w W
 lo:w.heap.size≤b
 lt:b<W.heap.size
 at0:DfAt W b 0 d a
theorem DBx.new(w:World)(d:Df)(a:DfA):DBx w w.heap.size d a (w.alloc (dfBx d a)):=⟨(bR _ _).alloc (nR _) _,nR _,by simp,dfBx_at w d a⟩
theorem DBx.keep{w:World}{b:Nat}{d:Df}{a:DfA}{W W':World}(h:DBx w b d a W)(hb:Below W.heap.size W W'):DBx w b d a W':=⟨h.bl.trans (hb.mono h.bl.size),h.lo,nL h.lt hb.size,h.at0.keep hb h.lt⟩
theorem DfAt.get{W:World}{b:Nat}{d:Df}{a:DfA}{j:Nat}{v:Value}(h:DfAt W b 0 d a)(hj:j<24)(hv:(dfCs d a)[j]? = some v):W.cell? ⟨b,j,none⟩=some v:=by
 have:=h j hj;rw [hv,Nat.zero_add]at this;exact this
theorem DfAt.body{W:World}{b o:Nat}{d:Df}{a:DfA}(h:DfAt W b o d a):PrAt W b (o+5) d.body a.pa:=by
 intro j hj;have:=h (5+j) (by omega)
 rw [← Nat.add_assoc]at this;rw [this];unfold dfCs;rw [List.getElem?_append_right (by simp [dfHd])]
 simp [dfHd]
theorem load_df{W:World}{b o:Nat}{d:Df}{a:DfA}(h:DfAt W b o d a):(Instr.loadAt 42 (.pointer (some ⟨b,o,none⟩))).run Tryz.prog W = .ok (dfVal d a) W :=
 load_list (n:=24) (cs:=dfCs d a) rfl (fun j v hj=>by
  have hlt:j<24:=(List.getElem?_eq_some_iff.1 hj).1;rw [h j hlt];exact hj) (fun l hl=>by
  unfold Instr.loadAt loadVar;simp [Instr.sureAddr,hl,Result.andThen])
def df0:Df:=⟨⟨#[]⟩,[],[],[],[],pr0⟩
def da0:DfA:=⟨none,0,none,0,none,0,none,0,pa0⟩
theorem alloc_df(W:World):(Instr.alloc 42 true (.tuple #[])).run Tryz.prog W = .ok (.pointer (some ⟨W.heap.size,0,none⟩)) (W.alloc (dfBx df0 da0)):=by
 simp only [dfBx,df0,da0,pr0,pa0];go_simp
theorem store_df(W:World)(d:Df)(a:DfA):(Instr.storeAt 42 (.pointer (some ⟨W.heap.size,0,none⟩)) (dfVal d a)).run Tryz.prog (W.alloc (dfBx df0 da0)) = .ok () (W.alloc (dfBx d a)) :=
 run_storeAt_new W 42 _ _ (by kernel_rfl) rfl (by simp [Value.oneCell'])
theorem isHead_any(d:Df)(a:DfA)(w:World)(hd:DfOK w w.heap.size d a):Calls Tryz.prog 46 #[dfVal d a] w fun e w'=>e = .returned (.bool (hedD d))∧Below w.heap.size w w':=by
 have e:hedD d=(isPc d.name && (areNm d.vals && (((d.sorts.length:Int)==(d.vals.length:Int)) && (srtsOK d.sorts && (areNm d.chans && ((d.tys.length:Int)==(d.chans.length:Int))))))):=by
  unfold hedD;rw [len_b,len_b]
 have HD:=hideK hd;have HX:=hideK (DBx.new w d a);have l1:(d.vals.length:Int)≤9223372036854775807:=by have:=hd.vals.len;have:=hd.vals.cap;omega
 have l2:(d.sorts.length:Int)≤9223372036854775807:=by have:=hd.sl;have:=hd.sc;omega
 have l3:(d.chans.length:Int)≤9223372036854775807:=by have:=hd.chs.len;have:=hd.chs.cap;omega
 have l4:(d.tys.length:Int)≤9223372036854775807:=by have:=hd.tys.len;have:=hd.tys.cap;omega
 have c1:=isProc_any d.name (w.alloc (dfBx d a)) hd.name;have HC2:=hideK (fun (W:World) (h:DBx w w.heap.size d a W)=>areNames_any d.vals a.va a.vc W ((hd.vals.keep h.bl).mono h.bl.size))
 have HC5:=hideK (fun (W:World) (h:DBx w w.heap.size d a W)=>areNames_any d.chans a.ca a.cc W ((hd.chs.keep h.bl).mono h.bl.size))
 have HC4:=hideK (fun (W:World) (h:DBx w w.heap.size d a W) (q:d.sorts.length≤1000)=>containsSrt_any d.sorts a.sa a.sc w.heap.size W (NAt.keep h.bl hd.srt) q)
 have HV6:=hideK (show areNm d.vals=true→d.vals.length≤6 from fun h=>by
  unfold areNm at h;rw [Bool.and_eq_true]at h;exact of_decide_eq_true h.1)
 obtain ⟨res,hres⟩:∃r,r=(isPc d.name && (areNm d.vals && (((d.sorts.length:Int)==(d.vals.length:Int)) && (srtsOK d.sorts && (areNm d.chans && ((d.tys.length:Int)==(d.chans.length:Int))))))):=⟨_,rfl⟩;rw [e,← hres];have HR:=hideK hres;clear hd e hres;simp only [dfBx,dfVal]at c1 HX ⊢;generalize isPc d.name=b1 at c1 HR;generalize areNm d.vals=b2 at HC2 HR HV6;generalize srtsOK d.sorts=b4 at HC4 HR;generalize areNm d.chans=b5 at HC5 HR;go_enter Tryz.func46,Tryz.ntmps46
 go_wp2_with fail
 refine c1.mono ?_;rintro e w1 ⟨rfl,hb⟩;replace HX:=hideK (HX.out.keep hb);clear c1 hb;cases b1
 ·have HB:=hideK HX.out.bl
  clear HX;go_wp2_with fail
  go_ret
  exact ⟨by rw [HR.out];rfl,HB.out⟩
 have y1:=HX.out.at0.get (j:=1) (v:=.slice a.va d.vals.length a.vc) (by omega) rfl
 have c2:=HC2.out w1 HX.out;go_wp2_with fail
 refine c2.mono ?_;rintro e w2 ⟨rfl,hb⟩;replace HX:=hideK (HX.out.keep hb);clear c2 hb y1;cases b2
 ·have HB:=hideK HX.out.bl
  clear HX;go_wp2_with fail
  go_ret
  exact ⟨by rw [HR.out];rfl,HB.out⟩
 have y1:=HX.out.at0.get (j:=1) (v:=.slice a.va d.vals.length a.vc) (by omega) rfl
 have y2:=HX.out.at0.get (j:=2) (v:=.slice a.sa d.sorts.length a.sc) (by omega) rfl
 cases q3:((d.sorts.length:Int)==(d.vals.length:Int))
 ·rw [q3]at HR
  have HB:=hideK HX.out.bl;clear HX;go_wp2_with fail
  go_ret
  exact ⟨by rw [HR.out];rfl,HB.out⟩
 rw [q3]at HR;have HS3:=hideK (show d.sorts.length≤1000 from by
  have q:(d.sorts.length:Int)=(d.vals.length:Int):=by simpa using q3
  have:=HV6.out rfl;omega)
 have c4:=HC4.out w2 HX.out HS3.out;go_wp2_with fail
 refine c4.mono ?_;rintro e w3 ⟨rfl,rfl⟩;clear c4 y1 y2;cases b4
 ·have HB:=hideK HX.out.bl
  clear HX;go_wp2_with fail
  go_ret
  exact ⟨by rw [HR.out];rfl,HB.out⟩
 have y3:=HX.out.at0.get (j:=3) (v:=.slice a.ca d.chans.length a.cc) (by omega) rfl
 have c5:=HC5.out w3 HX.out;go_wp2_with fail
 refine c5.mono ?_;rintro e w5 ⟨rfl,hb⟩;replace HX:=hideK (HX.out.keep hb);clear c5 hb y3;cases b5
 ·have HB:=hideK HX.out.bl
  clear HX;go_wp2_with fail
  go_ret
  exact ⟨by rw [HR.out];rfl,HB.out⟩
 have y3:=HX.out.at0.get (j:=3) (v:=.slice a.ca d.chans.length a.cc) (by omega) rfl
 have y4:=HX.out.at0.get (j:=4) (v:=.slice a.ta d.tys.length a.tc) (by omega) rfl
 cases q6:((d.tys.length:Int)==(d.chans.length:Int))
 all_goals (
  rw [q6]at HR;have HB:=hideK HX.out.bl;clear HX;go_wp2_with fail
  go_ret
  exact ⟨by rw [HR.out];rfl,HB.out⟩)
open Go.Maps
def SMv(W:World)(b:Nat)(vs:List (ByteArray × Value)):Prop:=∃es clock,W.heap[b]? = some (.map es clock)∧(es.toList.map fun e=>(e.key,e.val)).Perm (vs.map fun q=>(Value.string q.1,q.2))∧(vs.map (·.1)).Nodup∧(∀q∈vs,q.1.size≤maxLen)∧(es.toList.map (·.born)).Nodup∧∀e∈es.toList,e.born<clock
def getV{α : Type}(vs:List (ByteArray × α))(n:ByteArray):Option α:=(vs.find? fun q=>decide (q.1=n)).map (·.2)
def delV{α : Type}(vs:List (ByteArray × α))(n:ByteArray):List (ByteArray × α):=vs.filter fun q=>decide (q.1≠n)
def putV{α : Type}(vs:List (ByteArray × α))(n:ByteArray)(v : α):List (ByteArray × α):=delV vs n++[(n,v)]
theorem getV_cons{α : Type}(q:ByteArray × α)(vs:List (ByteArray × α))(n:ByteArray):getV (q::vs) n=if q.1=n then some q.2 else getV vs n:=by
 unfold getV;rw [List.find?_cons];by_cases h:q.1=n
 ·simp [h]
 ·simp [h]
theorem getV_mem{α : Type}{vs:List (ByteArray × α)}{n:ByteArray}{v : α}(h:getV vs n=some v):(n,v)∈vs:=by
 induction vs with
 | nil=>simp [getV]at h
 | cons q vs ih =>
  rw [getV_cons]at h;by_cases hq:q.1=n
  ·rw [if_pos hq]at h
   obtain ⟨a,b⟩:=q;simp only at hq h;cases h
   subst hq;exact List.mem_cons_self
  ·rw [if_neg hq]at h
   exact List.mem_cons_of_mem _ (ih h)
theorem getV_none{α : Type}{vs:List (ByteArray × α)}{n:ByteArray}(h:getV vs n=none):n ∉ vs.map (·.1):=by
 induction vs with
 | nil=>simp
 | cons q vs ih =>
  rw [getV_cons]at h;by_cases hq:q.1=n
  ·rw [if_pos hq]at h;cases h
  ·rw [if_neg hq]at h
   rw [List.map_cons,List.mem_cons];rintro (e|e)
   ·exact hq e.symm
   ·exact ih h e
theorem get_one{α : Type}{vs:List (ByteArray × α)}(hn:(vs.map (·.1)).Nodup){n:ByteArray}{v u : α}(h1:(n,v)∈vs)(h2:(n,u)∈vs):v=u:=by
 induction vs with
 | nil=>cases h1
 | cons q vs ih =>
  rw [List.map_cons,List.nodup_cons]at hn;rcases List.mem_cons.1 h1 with e1|g1
  ·rcases List.mem_cons.1 h2 with e2|g2
   ·rw [← e2]at e1;exact (Prod.mk.inj e1).2
   ·exact absurd (List.mem_map.2 ⟨_,g2,by rw [← e1]⟩) hn.1
  ·rcases List.mem_cons.1 h2 with e2|g2
   ·exact absurd (List.mem_map.2 ⟨_,g1,by rw [← e2]⟩) hn.1
   ·exact ih hn.2 g1 g2
theorem delV_self{α : Type}{vs:List (ByteArray × α)}{n:ByteArray}(h:n ∉ vs.map (·.1)):delV vs n=vs:=by
 unfold delV;rw [List.filter_eq_self];intro q hq;have:q.1≠n:=fun e=>h (List.mem_map.2 ⟨q,hq,e⟩)
 simpa using this
theorem perm_out{α : Type}{vs:List (ByteArray × α)}(hn:(vs.map (·.1)).Nodup){n:ByteArray}{v : α}(h:(n,v)∈vs):vs.Perm ((n,v)::delV vs n):=by
 induction vs with
 | nil=>cases h
 | cons q vs ih =>
  rw [List.map_cons,List.nodup_cons]at hn;rcases List.mem_cons.1 h with rfl|h
  ·have e:delV ((n,v)::vs) n=delV vs n:=by unfold delV;rw [List.filter_cons_of_neg (by simp)]
   rw [e,delV_self hn.1]
  ·have hq:q.1≠n:=fun e=>hn.1 (List.mem_map.2 ⟨_,h,e.symm⟩)
   have e:delV (q::vs) n=q::delV vs n:=by unfold delV;rw [List.filter_cons_of_pos (by simpa using hq)]
   rw [e];exact ((ih hn.2 h).cons q).trans (List.Perm.swap _ _ _)
theorem delV_keys{α : Type}(vs:List (ByteArray × α))(n:ByteArray):n ∉ (delV vs n).map (·.1):=by
 intro h;obtain ⟨q,hq,e⟩:=List.mem_map.1 h;have:=(List.mem_filter.1 hq).2;simp at this;exact this e
theorem delV_nodup{α : Type}{vs:List (ByteArray × α)}(hn:(vs.map (·.1)).Nodup)(n:ByteArray):((delV vs n).map (·.1)).Nodup :=
 hn.sublist ((List.filter_sublist).map _)
theorem putV_nodup{α : Type}{vs:List (ByteArray × α)}(hn:(vs.map (·.1)).Nodup)(n:ByteArray)(v : α):((putV vs n v).map (·.1)).Nodup:=by
 unfold putV;rw [List.map_append,List.nodup_append];refine ⟨delV_nodup hn n,by simp,fun a ha b hb e=>?_⟩
 simp at hb;subst hb e;exact delV_keys vs _ ha
theorem mem_delV{α : Type}{vs:List (ByteArray × α)}{n:ByteArray}{q:ByteArray × α}(h:q∈delV vs n):q∈vs:=(List.mem_filter.1 h).1
theorem SK:Keyed Tryz.prog 9:=string_keyed Tryz.underlying9
theorem key_st{n:ByteArray}(h:n.size≤maxLen):keyOf Tryz.prog 9 (.string n)=some (.string n.data.toList):=WideMaps.keyOf_string_mk Tryz.underlying9 h
theorem sm_keys{es:Array MapEntry}{vs:List (ByteArray × Value)}(hp:(es.toList.map fun e=>(e.key,e.val)).Perm (vs.map fun q=>(Value.string q.1,q.2)))(hs:∀q∈vs,q.1.size≤maxLen):∀e∈es.toList,∃l,keyOf Tryz.prog 9 e.key=some l:=by
 intro e he;have:(e.key,e.val)∈vs.map fun q=>(Value.string q.1,q.2):=hp.mem_iff.1 (List.mem_map.2 ⟨e,he,rfl⟩)
 obtain ⟨q,hq,h⟩:=List.mem_map.1 this;rw [show e.key = .string q.1 from (Prod.mk.inj h).1.symm]
 exact ⟨_,key_st (hs q hq)⟩
theorem sm_find{W:World}{es:Array MapEntry}{vs:List (ByteArray × Value)}(hp:(es.toList.map fun e=>(e.key,e.val)).Perm (vs.map fun q=>(Value.string q.1,q.2)))(hn:(vs.map (·.1)).Nodup)(hs:∀q∈vs,q.1.size≤maxLen){n:ByteArray}(h:n.size≤maxLen):
  (getV vs n=none∧(Instr.findKey 9 (.string n) es.toList).run Tryz.prog W = .ok none W)∨∃v j e,getV vs n=some v∧(Instr.findKey 9 (.string n) es.toList).run Tryz.prog W = .ok (some (j,v)) W∧es[j]? = some e∧e.key = .string n∧e.val=v:=by
 rcases SK.find W (key_st h) es.toList (sm_keys hp hs) with ⟨h1,h2⟩|⟨j,e,h1,h2,h3⟩
 ·cases hg:getV vs n with
  | none=>exact .inl ⟨rfl,h1⟩
  | some v =>
   exfalso
   have:(Value.string n,v)∈es.toList.map fun e=>(e.key,e.val):=hp.mem_iff.2 (List.mem_map.2 ⟨_,getV_mem hg,rfl⟩)
   obtain ⟨e,he,q⟩:=List.mem_map.1 this;exact h2 e he (Prod.mk.inj q).1
 ·have hm:(e.key,e.val)∈vs.map fun q=>(Value.string q.1,q.2):=hp.mem_iff.1 (List.mem_map.2 ⟨e,List.mem_of_getElem? h2,rfl⟩)
  obtain ⟨q,hq,hqe⟩:=List.mem_map.1 hm;have e1:q.1=n:=by
   have:=(Prod.mk.inj hqe).1;rw [h3]at this;exact Value.string.inj this
  have e2:q.2=e.val:=(Prod.mk.inj hqe).2;have hmem:(n,e.val)∈vs:=by rw [← e1,← e2];exact hq
  cases hg:getV vs n with
  | none=>exact absurd (List.mem_map.2 ⟨_,hmem,rfl⟩) (getV_none hg)
  | some v =>
   have:v=e.val:=get_one hn (getV_mem hg) hmem;subst this;refine .inr ⟨_,j,e,rfl,h1,?_,h3,rfl⟩;rw [← Array.getElem?_toList];exact h2
section
theorem look_yes {T E:TypeId} (hT:Tryz.prog.underlying T=some (.map 9 E)){W:World}{b:Nat}{vs:List (ByteArray × Value)}(hm:SMv W b vs){n:ByteArray}(h:n.size≤maxLen){v:Value}(hv:getV vs n=some v):
  (Instr.lookup T (.map (some b)) (.string n) true).run Tryz.prog W = .ok (.tuple #[v,.bool true]) W∧(Instr.lookup T (.map (some b)) (.string n) false).run Tryz.prog W = .ok v W:=by
 obtain ⟨es,clock,hb,hp,hn,hs,hbn,hbc⟩:=hm;rcases sm_find (W:=W) hp hn hs h with ⟨h1,_⟩|⟨v',j,e,h1,h2,_,_,_⟩
 ·rw [hv]at h1;cases h1
 ·rw [hv]at h1;cases h1
  constructor <;> simp [Instr.lookup,run_underlying hT,MapKept.run_getObj_map hb,SK.check W _ (key_st h),h2,Result.andThen]
theorem look_no {T E:TypeId} (hT:Tryz.prog.underlying T=some (.map 9 E)){W:World}{b:Nat}{vs:List (ByteArray × Value)}(hm:SMv W b vs){n:ByteArray}(h:n.size≤maxLen)(hv:getV vs n=none){z:Value}(hz:(zeroValue E).run Tryz.prog W = .ok z W):
  (Instr.lookup T (.map (some b)) (.string n) true).run Tryz.prog W = .ok (.tuple #[z,.bool false]) W:=by
 obtain ⟨es,clock,hb,hp,hn,hs,hbn,hbc⟩:=hm;rcases sm_find (W:=W) hp hn hs h with ⟨_,h2⟩|⟨v',j,e,h1,_⟩
 ·simp [Instr.lookup,run_underlying hT,MapKept.run_getObj_map hb,SK.check W _ (key_st h),h2,hz,Result.andThen]
 ·rw [hv]at h1;cases h1
theorem look_nilM {T E:TypeId} (hT:Tryz.prog.underlying T=some (.map 9 E)){W:World}{n:ByteArray}(h:n.size≤maxLen){z:Value}(hz:(zeroValue E).run Tryz.prog W = .ok z W):
  (Instr.lookup T (.map none) (.string n) true).run Tryz.prog W = .ok (.tuple #[z,.bool false]) W:=by
 rcases SK.find W (key_st h) [] (fun e he=>by cases he) with ⟨h1,_⟩|⟨j,e,_,h2,_⟩
 ·simp [Instr.lookup,run_underlying hT,SK.check W _ (key_st h),h1,hz,Result.andThen]
 ·simp at h2
theorem sm_upd {T E:TypeId} (hT:Tryz.prog.underlying T=some (.map 9 E)){W:World}{b:Nat}{vs:List (ByteArray × Value)}(hm:SMv W b vs){n:ByteArray}(h:n.size≤maxLen)(v:Value):
  ∃W',(Instr.mapUpdate T (.map (some b)) (.string n) v).run Tryz.prog W = .ok () W'∧W.grownBy W' (some b)∧W'.heap.size=W.heap.size∧SMv W' b (putV vs n v):=by
 obtain ⟨es,clock,hb,hp,hn,hs,hbn,hbc⟩:=hm;have hs':∀q∈putV vs n v,q.1.size≤maxLen:=by
  intro q hq;rcases List.mem_append.1 hq with hq|hq
  ·exact hs q (mem_delV hq)
  ·simp at hq;subst hq;exact h
 rcases sm_find (W:=W) hp hn hs h with ⟨h1,h2⟩|⟨v',j,e,h1,h2,h3,h4,h5⟩
 ·refine ⟨{ W with heap:=W.heap.setIfInBounds b (.map (es.push { key:=.string n,val:=v,born:=clock }) (clock+1)) },?_,⟨rfl,rfl,rfl,by simp,fun k hk' hne=>(MapKept.heap_set hb).2 k (fun e=>hne (by rw [e]))⟩,by simp,_,_,(MapKept.heap_set hb).1,?_,putV_nodup hn n v,hs',by
   simp only [Array.toList_push,List.map_append,List.map_cons,List.map_nil,List.nodup_append];refine ⟨hbn,by simp,fun a ha b hb' e=>?_⟩
   obtain ⟨x,hx,rfl⟩:=List.mem_map.1 ha;simp at hb';have:=hbc x hx;omega,by
   intro x hx;simp only [Array.toList_push,List.mem_append,List.mem_singleton]at hx;rcases hx with hx|rfl
   ·have:=hbc x hx;omega
   ·simp⟩
  ·simp [Instr.mapUpdate,run_underlying hT,MapKept.run_getObj_map hb,SK.check W _ (key_st h),h2,MapKept.run_setObj_map _ hb,Result.andThen]
  ·unfold putV
   rw [delV_self (getV_none h1)];simp only [Array.toList_push,List.map_append,List.map_cons,List.map_nil];exact hp.append_right _
 ·have hj:j<es.toList.length:=by
   have:=(Array.getElem?_eq_some_iff.1 h3).1;simpa using this
  have he:es.toList[j]=e:=by
   have:es.toList[j]? = some e:=by rw [Array.getElem?_toList];exact h3
   rw [List.getElem?_eq_getElem hj]at this;exact Option.some.inj this
  refine ⟨{ W with heap:=W.heap.setIfInBounds b (.map (es.modify j fun e=>{ e with key:=.string n,val:=v }) clock) },?_,⟨rfl,rfl,rfl,by simp,fun k hk' hne=>(MapKept.heap_set hb).2 k (fun e=>hne (by rw [e]))⟩,by simp,_,_,(MapKept.heap_set hb).1,?_,putV_nodup hn n v,hs',by
   rw [Array.toList_modify,List.modify_eq_take_cons_drop hj,he];have h0:es.toList=es.toList.take j++e::es.toList.drop (j+1):=by rw [← he,List.getElem_cons_drop,List.take_append_drop]
   rw [h0]at hbn;simpa using hbn,by
   rw [Array.toList_modify,List.modify_eq_take_cons_drop hj,he];intro x hx;rcases List.mem_append.1 hx with hx|hx
   ·exact hbc x (List.mem_of_mem_take hx)
   ·rcases List.mem_cons.1 hx with rfl|hx
    ·exact hbc e (by rw [← he];exact List.getElem_mem hj)
    ·exact hbc x (List.mem_of_mem_drop hx)⟩
  ·have hst:=SK.stays W (key_st h)
   simp [Instr.mapUpdate,run_underlying hT,MapKept.run_getObj_map hb,SK.check W _ (key_st h),h2,h3,h4,hst,MapKept.run_setObj_map _ hb,Result.andThen]
  ·rw [Array.toList_modify,List.modify_eq_take_cons_drop hj,he]
   have h0:es.toList=es.toList.take j++e::es.toList.drop (j+1):=by rw [← he,List.getElem_cons_drop,List.take_append_drop]
   have hmem:(n,e.val)∈vs:=by rw [h5];exact getV_mem h1
   have p1:(((n,e.val):ByteArray × Value)::delV vs n |>.map fun q=>(Value.string q.1,q.2)).Perm (es.toList.map fun e=>(e.key,e.val)):=((perm_out hn hmem).map _).symm.trans hp.symm
   rw [h0]at p1;simp only [List.map_append,List.map_cons,h4]at p1 ⊢;have p2:=(p1.trans List.perm_middle).cons_inv;refine List.perm_middle.trans ?_;unfold putV;simp only [List.map_append,List.map_cons,List.map_nil];exact (p2.symm.cons _).trans (List.perm_append_singleton _ _).symm
theorem sm_del {T E:TypeId} (hT:Tryz.prog.underlying T=some (.map 9 E)){W:World}{b:Nat}{vs:List (ByteArray × Value)}(hm:SMv W b vs){n:ByteArray}(h:n.size≤maxLen)(ty:TypeId):
  ∃W',(Builtin.delete_ #[T,9] ty #[.map (some b),.string n]).run Tryz.prog W = .ok (.tuple #[]) W'∧W.grownBy W' (some b)∧W'.heap.size=W.heap.size∧SMv W' b (delV vs n):=by
 obtain ⟨es,clock,hb,hp,hn,hs,hbn,hbc⟩:=hm;rcases sm_find (W:=W) hp hn hs h with ⟨h1,h2⟩|⟨v',j,e,h1,h2,h3,h4,h5⟩
 ·refine ⟨{ W with heap:=W.heap.setIfInBounds b (.map es clock) },?_,⟨rfl,rfl,rfl,by simp,fun k hk' hne=>(MapKept.heap_set hb).2 k (fun e=>hne (by rw [e]))⟩,by simp,_,_,(MapKept.heap_set hb).1,?_,delV_nodup hn n,fun q hq=>hs q (mem_delV hq),hbn,hbc⟩
  ·simp [Builtin.delete_,run_underlying hT,MapKept.run_getObj_map hb,SK.check W _ (key_st h),h2,MapKept.run_setObj_map _ hb,Result.andThen]
  ·rw [delV_self (getV_none h1)];exact hp
 ·have hj:j<es.toList.length:=by
   have:=(Array.getElem?_eq_some_iff.1 h3).1;simpa using this
  have he:es.toList[j]=e:=by
   have:es.toList[j]? = some e:=by rw [Array.getElem?_toList];exact h3
   rw [List.getElem?_eq_getElem hj]at this;exact Option.some.inj this
  have he2:(es.eraseIdxIfInBounds j).toList=es.toList.take j++es.toList.drop (j+1):=by
   rw [Array.eraseIdxIfInBounds_eq];have hj':j<es.size:=by simpa using hj
   rw [dif_pos hj',Array.toList_eraseIdx,List.eraseIdx_eq_take_drop_succ]
  have hsub:((es.eraseIdxIfInBounds j).toList).Sublist es.toList:=by
   rw [he2];have h0:es.toList=es.toList.take j++e::es.toList.drop (j+1):=by rw [← he,List.getElem_cons_drop,List.take_append_drop]
   conv=>rhs;rw [h0]
   exact List.Sublist.append_left (List.sublist_cons_self _ _) _
  refine ⟨{ W with heap:=W.heap.setIfInBounds b (.map (es.eraseIdxIfInBounds j) clock) },?_,⟨rfl,rfl,rfl,by simp,fun k hk' hne=>(MapKept.heap_set hb).2 k (fun e=>hne (by rw [e]))⟩,by simp,_,_,(MapKept.heap_set hb).1,?_,delV_nodup hn n,fun q hq=>hs q (mem_delV hq),hbn.sublist (hsub.map _),fun x hx=>hbc x (hsub.mem hx)⟩
  ·simp [Builtin.delete_,run_underlying hT,MapKept.run_getObj_map hb,SK.check W _ (key_st h),h2,MapKept.run_setObj_map _ hb,Result.andThen]
  ·rw [he2]
   have h0:es.toList=es.toList.take j++e::es.toList.drop (j+1):=by rw [← he,List.getElem_cons_drop,List.take_append_drop]
   have hmem:(n,e.val)∈vs:=by rw [h5];exact getV_mem h1
   have p1:(((n,e.val):ByteArray × Value)::delV vs n |>.map fun q=>(Value.string q.1,q.2)).Perm (es.toList.map fun e=>(e.key,e.val)):=((perm_out hn hmem).map _).symm.trans hp.symm
   rw [h0]at p1;simp only [List.map_append,List.map_cons,h4]at p1 ⊢;exact (p1.trans List.perm_middle).cons_inv.symm
theorem sm_len {T E:TypeId} (hT:Tryz.prog.underlying T=some (.map 9 E)){W:World}{b:Nat}{vs:List (ByteArray × Value)}(hm:SMv W b vs)(ty:TypeId):(Builtin.len_ #[T] ty #[.map (some b)]).run Tryz.prog W = .ok (goInt vs.length) W:=by
 obtain ⟨es,clock,hb,hp,hn,hs,hbn,hbc⟩:=hm;have:vs.length=es.size:=by
  have:=hp.length_eq;simpa using this.symm
 rw [this];simp [Builtin.len_,run_underlying hT,MapKept.run_getObj_map hb,Result.andThen]
end
theorem SMv.new(W:World):SMv (W.alloc (.map #[] 0)) W.heap.size []:=⟨#[],0,heap_alloc_new W _,List.Perm.refl _,List.nodup_nil,(fun _ h=>by cases h),List.nodup_nil,(fun _ h=>by cases h)⟩
theorem SMv.keep{W W':World}{b:Nat}{vs:List (ByteArray × Value)}{B:Nat}(h:SMv W b vs)(hb:Below B W W')(hl:b<B):SMv W' b vs:=by
 obtain ⟨es,clock,h1,h2⟩:=h;exact ⟨es,clock,(hb.block b hl).trans h1,h2⟩
theorem SMv.kept{W W':World}{b:Nat}{vs:List (ByteArray × Value)}(h:SMv W b vs){row:Option Nat}(hg:W.grownBy W' row)(hne:some b≠row):SMv W' b vs:=by
 obtain ⟨es,clock,hb,h2⟩:=h;exact ⟨es,clock,(hg.block b (Array.getElem?_eq_some_iff.1 hb).1 hne).trans hb,h2⟩
theorem SMv.lt{W:World}{b:Nat}{vs:List (ByteArray × Value)}(h:SMv W b vs):b<W.heap.size:=by
 obtain ⟨es,clock,hb,_⟩:=h;exact (Array.getElem?_eq_some_iff.1 hb).1
theorem SMv.perm{W:World}{b:Nat}{vs us:List (ByteArray × Value)}(h:SMv W b vs)(hp:vs.Perm us):SMv W b us:=by
 obtain ⟨es,clock,hb,h1,h2,h3,h4⟩:=h;exact ⟨es,clock,hb,h1.trans (hp.map _),((hp.map (·.1)).nodup_iff).1 h2,fun q hq=>h3 q (hp.mem_iff.2 hq),h4⟩
end Go.Proofs.YtmamabhhgfcjcaaGreatDoor
