/-
  The contracts of below.Is and below.Why, for every two types.
-/
import Derived.Test.YtmamabhhgfcjcaaGreatDoorJd
import Derived.Test.YtmamabhhgfcjcaaGreatDoorOfb
set_option maxRecDepth 100000
set_option maxHeartbeats 4000000
namespace Go.Proofs.YtmamabhhgfcjcaaGreatDoor
open Go.RowKit Go.Shelf
theorem OFG.uniq{t:Ty}{g h:List Nd}(hg:OFG t g)(hh:OFG t h):g=h:=(hg.same hh).2 rfl
theorem dualGraph_any(g:List Nd)(ag:OAd)(cg B:Nat)(w:World)(hg:GN g)(hl:g.length≤100)(hga:GAt w B g ag)(hB:B≤w.heap.size):
  Calls Tryz.prog 127 #[.slice ag g.length cg] w fun e w'=>(∃c,CLS (othG g) c∧∃ao co,e = .returned (.tuple #[.slice ao (leastG (othG g) c).length co,.int .i64 0])∧GAt w' w'.heap.size (leastG (othG g) c) ao)∧Below w.heap.size w w':=by
 have c1:=checkG_any g ag cg B w hg hga hB;have CO:=hideK (fun (W:World) (hb:Below w.heap.size w W)=>otherEnd_any g ag cg B W hg (hga.keep (hb.mono hB)) (Nat.le_trans hB hb.size))
 have CL:=hideK (fun (W:World) ao co (hgo:GAt W W.heap.size (othG g) ao)=>leastG_any (othG g) ao co W.heap.size W (oth_gn hg hl) hgo (nR _))
 have hlz:¬((g.length:Int) > 100):=by omega
 have hlz2:(g.length:Int)≤100:=by omega
 clear hga hg;go_enter Tryz.func127,Tryz.ntmps127
 go_wp2_with fail
 refine c1.mono ?_;rintro e w1 ⟨rfl,hb1⟩;have cO:=CO.out w1 hb1;have HB:=hideK hb1;clear c1 CO hb1;go_wp2_with fail
 refine cO.mono ?_;rintro e w2 ⟨⟨ao,co,rfl,hgo⟩,hb2⟩;have cL:=CL.out w2 ao co hgo;have HB2:=hideK (HB.out.trans (hb2.mono HB.out.size));clear cO CL hgo hb2;go_wp2_with fail
 refine cL.mono ?_;rintro e w3 ⟨⟨c,hc,a3,c3,rfl,hg3⟩,hb3⟩;have HC:=hideK hc;have HG3:=hideK hg3;have HB3:=hideK (HB2.out.trans (hb3.mono HB2.out.size));clear cL hc hg3 hb3;go_wp2_with fail
 go_ret2
 exact ⟨⟨c,HC.out,_,_,rfl,HG3.out⟩,HB3.out⟩
def DOPost(t:Ty)(w:World)(e:Ending)(w':World):Prop :=
 ((chkTy t≠0∧e = .returned (.tuple #[.slice none 0 0,.int .i64 (chkTy t)]))∨(∃g,OFG t g∧∃c,CLS (othG g) c∧∃ao co,e = .returned (.tuple #[.slice ao (leastG (othG g) c).length co,.int .i64 0])∧GAt w' w'.heap.size (leastG (othG g) c) ao))∧Below w.heap.size w w'
theorem dualOf_any(d:Nat)(t:Ty)(al:OAd)(cl:Nat)(ak:OAd)(ck:Nat)(w:World)(hbd:TyBd t cl ck)(hla:LA w w.heap.size t.labels al)(hkt:KT w w.heap.size d t.kids ak):
  Calls Tryz.prog 97 #[tyVal t al cl ak ck] w (DOPost t w):=by
 have hA:Below w.heap.size w (w.alloc (.cells #[.int .i64 t.kind,.int .i64 t.so,.string t.name,.slice al t.labels.length cl,.slice ak t.kids.length ck] 37)):=(bR _ _).alloc (nR _) _;have cO:=of_any d t al cl ak ck _ hbd (NAt.mono hA.size (NAt.keep hA hla)) (KT.mono hA.size (KT.keep hA hkt));have b0:TyAt (w.alloc (.cells #[.int .i64 t.kind,.int .i64 t.so,.string t.name,.slice al t.labels.length cl,.slice ak t.kids.length ck] 37)) w.heap.size 0 t al cl ak ck:=⟨by go_cell,by go_cell,by go_cell,by go_cell,by go_cell⟩
 obtain ⟨x0,x1,x2,x3,x4⟩:=b0;simp only [Nat.zero_add]at x1 x2 x3 x4;have HA:=hideK hA;unfold DOPost;unfold OFPost at cO;simp only [tyVal]at cO ⊢;clear hbd hla hkt hA;go_enter Tryz.func97,Tryz.ntmps97
 go_wp2_with fail
 refine cO.mono ?_;rintro e w1 ⟨hor,hb1⟩;have HB:=hideK (HA.out.trans (hb1.mono HA.out.size));clear cO hb1 x0 x1 x2 x3 x4;rcases hor with ⟨hz,rfl⟩|⟨g,ag,cg,hof,rfl,hga⟩
 ·have hzb:(chkTy t != 0)=true:=by simpa using hz
  have HZ:=hideK hz;clear hz;go_wp2_with fail
  go_ret2
  exact ⟨.inl ⟨HZ.out,rfl⟩,HB.out⟩
 ·have cD:=dualGraph_any g ag cg w1.heap.size w1 hof.gn (by have:=hof.le;omega) hga (nR _)
  have HOF:=hideK hof;clear hof hga;go_wp2_with fail
  refine cD.mono ?_;rintro e w2 ⟨⟨c,hc,ao,co,rfl,hg2⟩,hb2⟩;have HB2:=hideK (HB.out.trans (hb2.mono HB.out.size));have HC:=hideK hc;have HG2:=hideK hg2;clear cD hb2 hc hg2;go_wp2_with fail
  go_ret2
  exact ⟨.inr ⟨g,HOF.out,c,HC.out,_,_,rfl,HG2.out⟩,HB2.out⟩
def enVal(x:En)(ag:OAd)(cg:Nat):Value:=.agg #[.slice ag x.g.length cg,.int .i64 (x.k:Int)]
structure EnAt(W:World)(x:En)(ag:OAd):Prop where
 gn:GN x.g
 k:x.k<x.g.length
 ga:GAt W W.heap.size x.g ag
theorem EnAt.keep{W W':World}{x:En}{ag:OAd}(h:EnAt W x ag)(hb:Below W.heap.size W W'):EnAt W' x ag:=⟨h.gn,h.k,(h.ga.keep hb).mono hb.size⟩
theorem to_le{n:Nd}(h:okN n):n.to.length≤1000:=by
 rcases okN_cases h with q|q|q|⟨_,_,q,e⟩
 ·omega
 ·omega
 ·omega
 ·unfold labsOK at q
  rw [Bool.and_eq_true]at q;have:=of_decide_eq_true q.1;omega
theorem EnAt.to{W:World}{x:En}{ag:OAd}(h:EnAt W x ag){j:Nat}(hj:j<(hereE x).to.length):EnAt W (toE x j) ag :=
 ⟨h.gn,by
  show (hereE x).to.getD j 0<x.g.length
  rw [List.getD,List.getElem?_eq_getElem hj];exact shut_at h.gn.shut x.k _ (List.getElem_mem hj),h.ga⟩
theorem enHere_ex(x:En)(ag:OAd)(cg:Nat)(w:World)(h:EnAt w x ag):
  ∃al cl at1 ct,LA w w.heap.size (hereE x).labs al∧NI w w.heap.size (hereE x).to at1∧∀W,Below w.heap.size w W→Calls Tryz.prog 63 #[enVal x ag cg] W fun e w'=>e = .returned (ndVal (hereE x) al cl at1 ct)∧Below W.heap.size W w':=by
 have hk:=h.k;have hgl:=h.gn.le;obtain ⟨gb,go1,rfl,hgb,hgc⟩:=h.ga.resolve_left (fun q=>by rw [q]at hk;simp at hk)
 obtain ⟨al,cl,at1,ct,hnd,hla,hta⟩:=hgc x.k hk;have e0:hereE x=x.g[x.k]:=nodeAt_lt x.g x.k hk;rw [← e0]at hnd hla hta;refine ⟨al,cl,at1,ct,hla,hta,fun W hW=>?_⟩
 obtain ⟨c0,c1,c2,c3⟩:=hnd.keep hW hgb;have hgW:gb<W.heap.size:=nL hgb hW.size;have hkz:(x.k:Int)<(x.g.length:Int):=by omega
 have hgz:(x.g.length:Int)≤200:=by omega
 clear hgc hla hta e0 h;generalize hereE x=nd at *;simp only [enVal,ndVal];generalize x.g.length=n at *;generalize x.k=k at *;go_enter Tryz.func63,Tryz.ntmps63
 go_wp2_with fail
 refine bodyPost_ret (v:=.agg #[.int .i64 nd.kind,.int .i64 nd.so,.slice al nd.labs.length cl,.slice at1 nd.to.length ct]) (by simp [results,Tryz.results63,go_sem]) rfl ?_
 exact ⟨rfl,by go_grown⟩
theorem st2_at{W:World}{b:Nat}{u0 u1:Value}(v0 v1:Value)(z0:W.cell? ⟨b,0,none⟩=some u0)(z1:W.cell? ⟨b,1,none⟩=some u1):((W.setCell ⟨b,0,none⟩ v0).setCell ⟨b,1,none⟩ v1).cell? ⟨b,0,none⟩=some v0∧((W.setCell ⟨b,0,none⟩ v0).setCell ⟨b,1,none⟩ v1).cell? ⟨b,1,none⟩=some v1:=by
 have ne:∀i j:Nat,i≠j→(⟨b,i,none⟩:Addr)≠⟨b,j,none⟩:=fun i j h e=>by injection e with _ e;exact h e
 refine ⟨?_,?_⟩
 ·rw [World.cell?_setCell_other _ _ _ _ (ne 1 0 (by omega))]
  exact World.cell?_setCell_same _ _ _ z0
 ·exact World.cell?_setCell_same _ _ _ ((World.cell?_setCell_other _ _ _ _ (ne 0 1 (by omega))).trans z1)
structure EBo(w:World)(v0 v1:Value)(W:World):Prop where
 bl:Below w.heap.size w W
 lt:w.heap.size+1<W.heap.size
 c0:W.cell? ⟨w.heap.size,0,none⟩=some v0
 c1:W.cell? ⟨w.heap.size,1,none⟩=some v1
 z0:W.cell? ⟨w.heap.size+1,0,none⟩=some (.slice none 0 0)
 z1:W.cell? ⟨w.heap.size+1,1,none⟩=some (.int .i64 0)
 f:∀o,W.frozen? ⟨w.heap.size+1,o,none⟩=false
theorem EBo.keep{w:World}{v0 v1:Value}{W W':World}(h:EBo w v0 v1 W)(hb:Below W.heap.size W W'):EBo w v0 v1 W':=by
 have hl:=h.lt;have hs:=hb.size;exact ⟨h.bl.trans (hb.mono h.bl.size),by omega,(hb.cell (p:=⟨w.heap.size,0,none⟩) (by show w.heap.size<_;omega)).trans h.c0,(hb.cell (p:=⟨w.heap.size,1,none⟩) (by show w.heap.size<_;omega)).trans h.c1,(hb.cell (p:=⟨w.heap.size+1,0,none⟩) hl).trans h.z0,(hb.cell (p:=⟨w.heap.size+1,1,none⟩) hl).trans h.z1,fun o=>(hb.frozen (p:=⟨w.heap.size+1,o,none⟩) hl).trans (h.f o)⟩
theorem EBo.new(w:World)(v0 v1:Value):EBo w v0 v1 ((w.alloc (.cells #[v0,v1] 90)).alloc (.cells #[.slice none 0 0,.int .i64 0] 90)) :=
 ⟨((bR _ _).alloc (nR _) _).alloc (by simp) _,by simp,by go_cell,by go_cell,by go_cell,by go_cell,fun o=>by go_simp⟩
theorem enTo_any(x:En)(ag:OAd)(cg j:Nat)(w:World)(h:EnAt w x ag)(hj:j<(hereE x).to.length):
  Calls Tryz.prog 65 #[enVal x ag cg,.int .i64 (j:Int)] w fun e w'=>e = .returned (enVal (toE x j) ag cg)∧Below w.heap.size w w':=by
 obtain ⟨al,cl,at1,ct,hla,hta,hH⟩:=enHere_ex x ag cg w h;obtain ⟨tb,to1,rfl,htb,htc⟩:=hta.resolve_left (fun q=>by have:=congrArg List.length q;simp at this;rw [this]at hj;simp at hj)
 have hjz:(j:Int)<((hereE x).to.length:Int):=by omega
 have h6:((hereE x).to.length:Int)≤1000:=by
  have:=to_le (h.gn.at_ h.k);show ((nodeAt x.g x.k).to.length:Int)≤1000
  omega
 have d:=htc j (by simpa using hj)
 rw [List.getElem_map]at d;have et:toE x j=⟨x.g,(hereE x).to[j]⟩:=by unfold toE;rw [List.getD,List.getElem?_eq_getElem hj];rfl
 have HT:=hideK (fun (W:World) (hW:Below w.heap.size w W)=>(hW.cell (p:=⟨tb,to1+j,none⟩) htb).trans d)
 have HH:=hideK hH;have HX0:=hideK ((EBo.new w (.slice ag x.g.length cg) (.int .i64 (x.k:Int))).keep ((bR _ _).drew));rw [et];generalize (hereE x).to[j]=tj at *;generalize hereE x=nd at *;simp only [enVal]at HH HX0 ⊢;clear hla hH htc d h hj et;go_enter Tryz.func65,Tryz.ntmps65
 go_upto_region 1 with fail
 refine region_seqT (fun W=>EBo w (.slice ag x.g.length cg) (.int .i64 (x.k:Int)) W) 9 [0,1,2,3,4,5,6,7,8] (by kernel_rfl) (by kernel_rfl) (by kernel_rfl) (by kernel_rfl) (by kernel_rfl) HX0.out ?_
 refine sO (.pointer (some ⟨w.heap.size,0,none⟩)) ?_;refine sW (.slice ag x.g.length cg) (fun W hW=>?_) ?_
 ·obtain ⟨hbl,_,x0,x1,_,_,_⟩:=id hW
  go_simp
 refine sW (.agg #[.slice ag x.g.length cg,.int .i64 (x.k:Int)]) (fun W hW=>?_) ?_
 ·obtain ⟨hbl,_,x0,x1,_,_,_⟩:=id hW
  go_simp
 refine sW (.agg #[.int .i64 nd.kind,.int .i64 nd.so,.slice al nd.labs.length cl,.slice (some ⟨tb,to1,none⟩) nd.to.length ct]) (fun W hW=>?_) ?_
 ·have c:=HH.out W hW.bl
  simp only [ndVal]at c;go_simp
  refine c.mono ?_;rintro e w' ⟨rfl,hb⟩;exact ⟨rfl,hW.keep hb⟩
 refine sW (.slice (some ⟨tb,to1,none⟩) nd.to.length ct) (fun W hW=>?_) ?_
 ·have hfl:(Instr.field 102 (.agg #[.int .i64 nd.kind,.int .i64 nd.so,.slice al nd.labs.length cl,.slice (some ⟨tb,to1,none⟩) nd.to.length ct]) 3).run Tryz.prog W = .ok (.slice (some ⟨tb,to1,none⟩) nd.to.length ct) W:=by kernel_rfl
  go_simp
 refine sO (.int .i64 (j:Int)) ?_;refine sO (.pointer (some ⟨tb,to1+j,none⟩)) ?_;refine sW (.int .i64 (tj:Int)) (fun W hW=>?_) ?_
 ·have d0:=HT.out W hW.bl
  go_simp
 refine sO (.agg #[.slice ag x.g.length cg,.int .i64 (tj:Int)]) ?_;refine SeqS.done ?_;intro W1 hW1;obtain ⟨hbl,hlt,x0,x1,z0,z1,zf⟩:=hW1;have f0:=zf 0;have f1:=zf 1;clear zf x0 x1 HT HH HX0;show wpList _ _ _ [_] _ _
 go_wp2_with fail
 obtain ⟨r0,r1⟩:=st2_at (.slice ag x.g.length cg) (.int .i64 (tj:Int)) z0 z1;have HB:=hideK ((hbl.setCell (p:=⟨w.heap.size+1,0,none⟩) (Nat.le_succ _) (.slice ag x.g.length cg)).setCell (p:=⟨w.heap.size+1,1,none⟩) (Nat.le_succ _) (.int .i64 (tj:Int)));generalize (W1.setCell ⟨w.heap.size+1,0,none⟩ (.slice ag x.g.length cg)).setCell ⟨w.heap.size+1,1,none⟩ (.int .i64 (tj:Int))=W9 at *;refine bodyPost_ret (v:=.agg #[.slice ag x.g.length cg,.int .i64 (tj:Int)]) (by simp [results,Tryz.results65,go_sem,r0,r1]) rfl ?_
 exact ⟨rfl,HB.out⟩
theorem enFits_any(x y:En)(ax ay:OAd)(cx cy:Nat)(w:World)(hx:EnAt w x ax)(hy:EnAt w y ay):
  Calls Tryz.prog 70 #[enVal x ax cx,enVal y ay cy] w fun e w'=>e = .returned (.int .i64 (fitE x y))∧Below w.heap.size w w':=by
 have hA:Below w.heap.size w ((w.alloc (.cells #[.slice ax x.g.length cx,.int .i64 (x.k:Int)] 90)).alloc (.cells #[.slice ay y.g.length cy,.int .i64 (y.k:Int)] 90)):=((bR _ _).alloc (nR _) _).alloc (by simp) _
 have hx':=hx.keep hA;have hy':=hy.keep hA;have c:=nodes_any x.g y.g ax ay cx cy _ x.k y.k _ hx'.gn hy'.gn hx'.ga hy'.ga (nR _) hx.k hy.k;have HA:=hideK hA;have HF:=hideK (show fitE x y=if belB x.g y.g x.k y.k then 0 else 7 from rfl)
 generalize belB x.g y.g x.k y.k=q at *;simp only [enVal];clear hx hy hx' hy' hA;go_enter Tryz.func70,Tryz.ntmps70
 go_wp2_with fail
 refine c.mono ?_;rintro e w1 ⟨rfl,hb1⟩;have HB:=hideK (HA.out.trans (hb1.mono HA.out.size));clear c hb1 HA;cases q
 ·go_wp2_with fail
  go_ret
  exact ⟨by rw [HF.out];rfl,HB.out⟩
 ·go_wp2_with fail
  go_ret
  exact ⟨by rw [HF.out];rfl,HB.out⟩
structure TEB(w:World)(t:Ty)(al:OAd)(cl:Nat)(ak:OAd)(ck:Nat)(W:World):Prop where
 bl:Below w.heap.size w W
 lt:w.heap.size+1<W.heap.size
 z0:W.cell? ⟨w.heap.size+1,0,none⟩=some (.slice none 0 0)
 z1:W.cell? ⟨w.heap.size+1,1,none⟩=some (.int .i64 0)
 f:∀o,W.frozen? ⟨w.heap.size+1,o,none⟩=false
theorem TEB.keep{w:World}{t:Ty}{al:OAd}{cl:Nat}{ak:OAd}{ck:Nat}{W W':World}(h:TEB w t al cl ak ck W)(hb:Below W.heap.size W W'):TEB w t al cl ak ck W':=by
 have hl:=h.lt;have hs:=hb.size;exact ⟨h.bl.trans (hb.mono h.bl.size),by omega,(hb.cell (p:=⟨w.heap.size+1,0,none⟩) hl).trans h.z0,(hb.cell (p:=⟨w.heap.size+1,1,none⟩) hl).trans h.z1,fun o=>(hb.frozen (p:=⟨w.heap.size+1,o,none⟩) hl).trans (h.f o)⟩
theorem TEB.new(w:World)(t:Ty)(al:OAd)(cl:Nat)(ak:OAd)(ck:Nat):TEB w t al cl ak ck ((w.alloc (.cells #[.int .i64 t.kind,.int .i64 t.so,.string t.name,.slice al t.labels.length cl,.slice ak t.kids.length ck] 37)).alloc (.cells #[.slice none 0 0,.int .i64 0] 90)) :=
 ⟨((bR _ _).alloc (nR _) _).alloc (by simp) _,by simp,by go_cell,by go_cell,fun o=>by go_simp⟩
theorem st2_keep{W:World}{b:Nat}(v0:Value)(z1:W.cell? ⟨b,1,none⟩=some (.int .i64 0)){p:Addr}{v:Value}(h:W.cell? p=some v)(hp:p≠⟨b,0,none⟩):((W.setCell ⟨b,0,none⟩ v0).setCell ⟨b,1,none⟩ (.int .i64 0)).cell? p=some v:=by
 by_cases h1:p=⟨b,1,none⟩
 ·subst h1
  rw [z1]at h;cases h
  exact World.cell?_setCell_same _ _ _ ((World.cell?_setCell_other _ _ _ _ (Ne.symm hp)).trans z1)
 ·rw [World.cell?_setCell_other _ _ _ _ (Ne.symm h1),World.cell?_setCell_other _ _ _ _ (Ne.symm hp)]
  exact h
theorem NAt.st2{W:World}{B b:Nat}{vs:List Value}{an:OAd}(v0:Value)(z0:W.cell? ⟨b,0,none⟩=some (.slice none 0 0))(z1:W.cell? ⟨b,1,none⟩=some (.int .i64 0))(hv:∀v∈vs,v≠.slice none 0 0)(h:NAt W B vs an):NAt ((W.setCell ⟨b,0,none⟩ v0).setCell ⟨b,1,none⟩ (.int .i64 0)) B vs an :=
 h.imp id fun ⟨b',o,e,hl,hc⟩=>⟨b',o,e,hl,fun i hi=>st2_keep v0 z1 (hc i hi) (fun q=>by
  have:=hc i hi;rw [q,z0]at this;exact hv _ (List.getElem_mem hi) (Option.some.inj this).symm)⟩
theorem GAt.st2{W:World}{B b:Nat}{g:List Nd}{ag:OAd}(v0:Value)(z0:W.cell? ⟨b,0,none⟩=some (.slice none 0 0))(z1:W.cell? ⟨b,1,none⟩=some (.int .i64 0))(h:GAt W B g ag):GAt ((W.setCell ⟨b,0,none⟩ v0).setCell ⟨b,1,none⟩ (.int .i64 0)) B g ag :=
 h.imp id fun ⟨b',o,e,hl,hc⟩=>⟨b',o,e,hl,fun i hi=>by
  obtain ⟨al,cl,at1,ct,h1,h2,h3⟩:=hc i hi;refine ⟨al,cl,at1,ct,⟨st2_keep v0 z1 h1.c0 (fun q=>?_),st2_keep v0 z1 h1.c1 (fun q=>?_),st2_keep v0 z1 h1.c2 (fun q=>?_),st2_keep v0 z1 h1.c3 (fun q=>?_)⟩,NAt.st2 v0 z0 z1 (fun v hv=>?_) h2,NAt.st2 v0 z0 z1 (fun v hv=>?_) h3⟩
  ·have:=h1.c0;rw [q,z0]at this;cases this
  ·have:=h1.c1;rw [q,z0]at this;cases this
  ·injection q with _ q;omega
  ·injection q with _ q;omega
  ·obtain ⟨l,_,rfl⟩:=List.mem_map.1 hv;simp
  ·obtain ⟨l,_,rfl⟩:=List.mem_map.1 hv;simp⟩
def OTG(t:Ty)(h:List Nd):Prop:=∃g c,OFG t g∧CLS (othG g) c∧h=leastG (othG g) c
theorem enOf_any(d:Nat)(t:Ty)(al:OAd)(cl:Nat)(ak:OAd)(ck:Nat)(w:World)(hbd:TyBd t cl ck)(hla:LA w w.heap.size t.labels al)(hkt:KT w w.heap.size d t.kids ak)(hz:chkTy t=0):
  Calls Tryz.prog 38 #[tyVal t al cl ak ck] w fun e w'=>(∃g ag cg,OFG t g∧e = .returned (.tuple #[enVal ⟨g,0⟩ ag cg,.int .i64 0])∧EnAt w' ⟨g,0⟩ ag)∧Below w.heap.size w w':=by
 have HX0:=hideK (TEB.new w t al cl ak ck);have hA:=HX0.out.bl;have c:=of_any d t al cl ak ck ((w.alloc (.cells #[.int .i64 t.kind,.int .i64 t.so,.string t.name,.slice al t.labels.length cl,.slice ak t.kids.length ck] 37)).alloc (.cells #[.slice none 0 0,.int .i64 0] 90)) hbd (NAt.mono hA.size (NAt.keep hA hla)) (KT.mono hA.size (KT.keep hA hkt));unfold OFPost at c;simp only [tyVal,enVal]at c ⊢;clear hbd hla hkt hA;go_enter Tryz.func38,Tryz.ntmps38
 go_wp2_with fail
 refine c.mono ?_;rintro e w1 ⟨q|⟨g,ag,cg,ho,rfl,hga'⟩,hb1⟩
 ·exact absurd hz q.1
 have hgn:=ho.gn;have HX:=hideK (HX0.out.keep hb1);have hga:=hga';clear c hb1 HX0;obtain ⟨hbl,hlt,z0,z1,zf⟩:=HX.out;have f0:=zf 0;have f1:=zf 1;have hn:g.length≤200:=hgn.le;have HG:=hideK (And.intro hgn hga);have HO:=hideK ho;clear zf hga hgn ho hga';go_wp2_with fail
 obtain ⟨r0,r1⟩:=st2_at (.slice ag g.length cg) (.int .i64 0) z0 z1;have hS:Below w1.heap.size w1 w1:=Below.refl _ _;have HB:=hideK ((hbl.setCell (p:=⟨w.heap.size+1,0,none⟩) (Nat.le_succ _) (.slice ag g.length cg)).setCell (p:=⟨w.heap.size+1,1,none⟩) (Nat.le_succ _) (.int .i64 0));have HGA:=hideK (show GAt ((w1.setCell ⟨w.heap.size+1,0,none⟩ (.slice ag g.length cg)).setCell ⟨w.heap.size+1,1,none⟩ (.int .i64 0)) ((w1.setCell ⟨w.heap.size+1,0,none⟩ (.slice ag g.length cg)).setCell ⟨w.heap.size+1,1,none⟩ (.int .i64 0)).heap.size g ag from by
  have q:=HG.out.2.st2 (.slice ag g.length cg) z0 z1;rw [World.size_setCell,World.size_setCell];exact q)
 generalize (w1.setCell ⟨w.heap.size+1,0,none⟩ (.slice ag g.length cg)).setCell ⟨w.heap.size+1,1,none⟩ (.int .i64 0)=W9 at *;refine bodyPost_ret (v:=.tuple #[.agg #[.slice ag g.length cg,.int .i64 0],.int .i64 0]) (by simp [results,Tryz.results38,go_sem,r0,r1]) rfl ?_
 exact ⟨⟨g,ag,cg,HO.out,rfl,⟨HG.out.1,HG.out.1.pos,HGA.out⟩⟩,HB.out⟩
theorem enOther_any(d:Nat)(t:Ty)(al:OAd)(cl:Nat)(ak:OAd)(ck:Nat)(w:World)(hbd:TyBd t cl ck)(hla:LA w w.heap.size t.labels al)(hkt:KT w w.heap.size d t.kids ak)(hz:chkTy t=0):
  Calls Tryz.prog 68 #[tyVal t al cl ak ck] w fun e w'=>(∃g ag cg,OTG t g∧e = .returned (.tuple #[enVal ⟨g,0⟩ ag cg,.int .i64 0])∧EnAt w' ⟨g,0⟩ ag)∧Below w.heap.size w w':=by
 have HX0:=hideK (TEB.new w t al cl ak ck);have hA:=HX0.out.bl;have c:=dualOf_any d t al cl ak ck ((w.alloc (.cells #[.int .i64 t.kind,.int .i64 t.so,.string t.name,.slice al t.labels.length cl,.slice ak t.kids.length ck] 37)).alloc (.cells #[.slice none 0 0,.int .i64 0] 90)) hbd (NAt.mono hA.size (NAt.keep hA hla)) (KT.mono hA.size (KT.keep hA hkt));unfold DOPost at c;simp only [tyVal,enVal]at c ⊢;clear hbd hla hkt hA;go_enter Tryz.func68,Tryz.ntmps68
 go_wp2_with fail
 refine c.mono ?_;rintro e w1 ⟨q|⟨g0,ho0,c0,hc0,ag,cg,rfl,hga'⟩,hb1⟩
 ·exact absurd hz q.1
 have hgn:=(least_gn (oth_gn ho0.gn (by have:=ho0.le;omega)) hc0).1
 have ho:OTG t (leastG (othG g0) c0):=⟨g0,c0,ho0,hc0,rfl⟩;clear hc0 ho0;generalize leastG (othG g0) c0=g at *;have HX:=hideK (HX0.out.keep hb1);have hga:=hga';clear c hb1 HX0;obtain ⟨hbl,hlt,z0,z1,zf⟩:=HX.out;have f0:=zf 0;have f1:=zf 1;have hn:g.length≤200:=hgn.le;have HG:=hideK (And.intro hgn hga);have HO:=hideK ho;clear zf hga hgn ho hga';go_wp2_with fail
 obtain ⟨r0,r1⟩:=st2_at (.slice ag g.length cg) (.int .i64 0) z0 z1;have hS:Below w1.heap.size w1 w1:=Below.refl _ _;have HB:=hideK ((hbl.setCell (p:=⟨w.heap.size+1,0,none⟩) (Nat.le_succ _) (.slice ag g.length cg)).setCell (p:=⟨w.heap.size+1,1,none⟩) (Nat.le_succ _) (.int .i64 0));have HGA:=hideK (show GAt ((w1.setCell ⟨w.heap.size+1,0,none⟩ (.slice ag g.length cg)).setCell ⟨w.heap.size+1,1,none⟩ (.int .i64 0)) ((w1.setCell ⟨w.heap.size+1,0,none⟩ (.slice ag g.length cg)).setCell ⟨w.heap.size+1,1,none⟩ (.int .i64 0)).heap.size g ag from by
  have q:=HG.out.2.st2 (.slice ag g.length cg) z0 z1;rw [World.size_setCell,World.size_setCell];exact q)
 generalize (w1.setCell ⟨w.heap.size+1,0,none⟩ (.slice ag g.length cg)).setCell ⟨w.heap.size+1,1,none⟩ (.int .i64 0)=W9 at *;refine bodyPost_ret (v:=.tuple #[.agg #[.slice ag g.length cg,.int .i64 0],.int .i64 0]) (by simp [results,Tryz.results68,go_sem,r0,r1]) rfl ?_
 exact ⟨⟨g,ag,cg,HO.out,rfl,⟨HG.out.1,HG.out.1.pos,HGA.out⟩⟩,HB.out⟩
variable (Tabs:World→Prop) (B0:Nat)
theorem sort_any(hV:VSaid vD Tabs)(hK:∀w w',Tabs w→Below w.heap.size w w'→Tabs w')(hK2:∀B w w',B0≤B→Tabs w→Below B w w'→Tabs w')(hB0:∀w,Tabs w→B0≤w.heap.size)
  (d:Nat) (x:Ex) (ao:OAd) (cap:Nat) (ns:List ByteArray) (zs:List Int) (an am:OAd) (cn cm:Nat) (w:World) (hbd:ExBd x cap) (hka:KA w w.heap.size d x.kids ao) (hns:NSAt w w.heap.size ns zs an am) (hT:Tabs w) :
  Calls Tryz.prog 99 #[exVal x ao cap,.slice an ns.length cn,.slice am ns.length cm] w fun e w'=>e = .returned (.tuple #[.int .i64 (srtR x ns zs).1,.int .i64 (srtR x ns zs).2])∧Below w.heap.size w w':=by
 have hw1:Below w.heap.size w (w.alloc (.cells #[.int .i64 x.kind,.string x.name,.int .i64 x.so,.int .i64 x.n,.string x.s,.slice ao x.kids.length cap] 34)):=(bR _ _).alloc (nR _) _;have cK:=chk_any Tabs B0 hV hK hK2 hB0 d x ao cap _ hbd ((hka.keep hw1).mono (by simp)) (hK _ _ hT hw1)
 have cS:=fun (h:wfX x) (W:World) (hW:Below w.heap.size w W)=>sortOf_any ns zs an am cn cm d x ao cap w.heap.size W h hbd (hka.keep hW) (hns.keep hW) hW.size
 have hcw:chkX x=0→wfX x:=fun h=>chk_wf x 0 h
 have hbz:(ns.length:Int)≤9223372036854775806:=by have:=hns.bd;omega
 unfold srtR;generalize chkX x=z at cK hcw ⊢;generalize sortX (lookS ns zs) x=r at cS ⊢;simp only [exVal]at cK cS ⊢;have HW:Hid (Below w.heap.size w (w.alloc (.cells #[.int .i64 x.kind,.string x.name,.int .i64 x.so,.int .i64 x.n,.string x.s,.slice ao x.kids.length cap] 34))):=hw1;clear hV hK hK2 hB0 hka hns hT hw1 hbd;by_cases hz:z=0
 ·subst hz
  have cS2:=cS (hcw rfl);rw [if_pos rfl];have CS:Hid (∀(W:World),Below w.heap.size w W→Calls Tryz.prog 129 #[.agg #[.int .i64 x.kind,.string x.name,.int .i64 x.so,.int .i64 x.n,.string x.s,.slice ao x.kids.length cap],.slice an ns.length cn,.slice am ns.length cm] W fun e w'=>e = .returned (.tuple #[.int .i64 r.1,.int .i64 r.2])∧Below W.heap.size W w'):=cS2
  have hne:((ns.length:Int) != (ns.length:Int))=false:=by simp
  clear cS cS2 hcw;go_enter Tryz.func99,Tryz.ntmps99
  go_wp2_with fail
  refine cK.mono ?_;rintro e w1 ⟨rfl,hb1⟩;have hbw:Below w.heap.size w w1:=HW.out.trans (hb1.mono (by simp))
  obtain ⟨hc,_⟩:=bcell hb1;have x0:w1.cell? ⟨w.heap.size,0,none⟩=some (.int .i64 x.kind):=(hc _ 0 (by simp)).trans (by go_cell)
  have x1:w1.cell? ⟨w.heap.size,1,none⟩=some (.string x.name):=(hc _ 1 (by simp)).trans (by go_cell)
  have x2:w1.cell? ⟨w.heap.size,2,none⟩=some (.int .i64 x.so):=(hc _ 2 (by simp)).trans (by go_cell)
  have x3:w1.cell? ⟨w.heap.size,3,none⟩=some (.int .i64 x.n):=(hc _ 3 (by simp)).trans (by go_cell)
  have x4:w1.cell? ⟨w.heap.size,4,none⟩=some (.string x.s):=(hc _ 4 (by simp)).trans (by go_cell)
  have x5:w1.cell? ⟨w.heap.size,5,none⟩=some (.slice ao x.kids.length cap):=(hc _ 5 (by simp)).trans (by go_cell)
  clear hc hb1 cK;go_wp2_with fail
  refine (CS.out _ hbw).mono ?_;rintro e w2 ⟨rfl,hb2⟩;go_wp2_with fail
  go_ret2
  exact ⟨rfl,hbw.trans (hb2.mono hbw.size)⟩
 ·rw [if_neg hz]
  have hzb:(z != 0)=true:=by simpa using hz
  clear cS hcw;go_enter Tryz.func99,Tryz.ntmps99
  go_wp2_with fail
  refine cK.mono ?_;rintro e w1 ⟨rfl,hb1⟩;go_wp2_with fail
  go_ret2
  exact ⟨rfl,HW.out.trans (hb1.mono (by simp))⟩
structure ScA where
 va:OAd
 vc:Nat
 sa:OAd
 sc:Nat
 mp:Option Nat
def scVal(s:Sc)(a:ScA):Value:=.agg #[.slice a.va s.vs.length a.vc,.slice a.sa s.ss.length a.sc,.map a.mp]
def FM(F:List ((ByteArray × En) × OAd × Nat)):List (ByteArray × Value):=F.map fun t=>(t.1.1,enVal t.1.2 t.2.1 t.2.2)
def ScM(W:World)(mp:Option Nat)(es:List (ByteArray × En)):Prop:=(mp=none∧es=[])∨∃b F,mp=some b∧SMv W b (FM F)∧es=F.map (·.1)∧∀t∈F,EnAt W t.1.2 t.2.1
theorem ScM.keep{W W':World}{mp:Option Nat}{es:List (ByteArray × En)}(h:ScM W mp es)(hb:Below W.heap.size W W'):ScM W' mp es :=
 h.imp id fun ⟨b,F,e,h1,h2,h3⟩=>⟨b,F,e,h1.keep hb h1.lt,h2,fun t ht=>(h3 t ht).keep hb⟩
structure ScAt(W:World)(s:Sc)(a:ScA):Prop where
 vs:NmsAt W W.heap.size s.vs a.va a.vc
 ss:NAt W W.heap.size (s.ss.map (Value.int .i64)) a.sa
 sl:s.ss.length≤a.sc
 sc:a.sc≤9223372036854775807
 eq:s.vs.length=s.ss.length
 es:ScM W a.mp s.es
theorem ScAt.keep{W W':World}{s:Sc}{a:ScA}(h:ScAt W s a)(hb:Below W.heap.size W W'):ScAt W' s a :=
 ⟨(h.vs.keep hb).mono hb.size,NAt.mono hb.size (NAt.keep hb h.ss),h.sl,h.sc,h.eq,h.es.keep hb⟩
def NSc(w0 w:World)(es:List (ByteArray × En))(mp:Option Nat)(W:World):Prop:=∃F,es=F.map (·.1)∧(∀t∈F,EnAt w0 t.1.2 t.2.1)∧((mp=none∧F=[])∨∃b,mp=some b∧w.heap.size≤b∧SMv W b (FM F))
theorem ScAt.new{w0 w W:World}{s:Sc}{a:ScA}(h:ScAt w0 s a)(hb:Below w0.heap.size w0 W){es:List (ByteArray × En)}{mp:Option Nat}(hn:NSc w0 w es mp W):ScAt W ⟨s.vs,s.ss,es⟩ ⟨a.va,a.vc,a.sa,a.sc,mp⟩:=by
 have hk:=h.keep hb;obtain ⟨F,e,h1,h2⟩:=hn;refine ⟨hk.vs,hk.ss,hk.sl,hk.sc,hk.eq,?_⟩;rcases h2 with ⟨rfl,rfl⟩|⟨b,rfl,_,h3⟩
 ·exact .inl ⟨rfl,e⟩
 ·exact .inr ⟨b,F,rfl,h3,e,fun t ht=>(h1 t ht).keep hb⟩
theorem NSc.of_blocks{w0 w W W':World}{es:List (ByteArray × En)}{mp:Option Nat}(h:NSc w0 w es mp W)(hb:∀b,w.heap.size≤b→W'.heap[b]? = W.heap[b]?):NSc w0 w es mp W':=by
 obtain ⟨F,e,h1,h2⟩:=h;refine ⟨F,e,h1,h2.imp id fun ⟨b,e1,e2,h3⟩=>⟨b,e1,e2,?_⟩⟩
 obtain ⟨es',clock,q,r⟩:=h3;exact ⟨es',clock,(hb b e2).trans q,r⟩
theorem NSc.older{w0 w v W:World}{es:List (ByteArray × En)}{mp:Option Nat}(h:NSc w0 w es mp W)(hv:v.heap.size≤w.heap.size):NSc w0 v es mp W:=by
 obtain ⟨F,e,h1,h2⟩:=h;exact ⟨F,e,h1,h2.imp id fun ⟨b,e1,e2,h3⟩=>⟨b,e1,by omega,h3⟩⟩
def GSc(w0 W:World)(es:List (ByteArray × En))(mp:Option Nat):Prop:=∃F,es=F.map (·.1)∧(∀t∈F,EnAt w0 t.1.2 t.2.1)∧((mp=none∧F=[])∨∃b,mp=some b∧SMv W b (FM F))
theorem NSc.gs{w0 w W:World}{es:List (ByteArray × En)}{mp:Option Nat}(h:NSc w0 w es mp W):GSc w0 W es mp:=by
 obtain ⟨F,e,h1,h2⟩:=h;exact ⟨F,e,h1,h2.imp id fun ⟨b,e1,_,h3⟩=>⟨b,e1,h3⟩⟩
theorem GSc.keep{w0 W W':World}{es:List (ByteArray × En)}{mp:Option Nat}(h:GSc w0 W es mp)(hb:Below W.heap.size W W'):GSc w0 W' es mp:=by
 obtain ⟨F,e,h1,h2⟩:=h;exact ⟨F,e,h1,h2.imp id fun ⟨b,e1,h3⟩=>⟨b,e1,h3.keep hb h3.lt⟩⟩
theorem ScAt.gs{w0 W:World}{s:Sc}{a:ScA}(h:ScAt w0 s a)(hb:Below w0.heap.size w0 W):GSc w0 W s.es a.mp:=by
 rcases h.es with ⟨e1,e2⟩|⟨b,F,e1,h1,e2,h3⟩
 ·exact ⟨[],e2,(fun t ht=>by cases ht),.inl ⟨e1,rfl⟩⟩
 ·exact ⟨F,e2,h3,.inr ⟨b,e1,h1.keep hb h1.lt⟩⟩
def scBx(s:Sc)(a:ScA):Obj:=.cells #[.slice a.va s.vs.length a.vc,.slice a.sa s.ss.length a.sc,.map a.mp] 70
structure SBx(w:World)(b:Nat)(s:Sc)(a:ScA)(W:World):Prop where
 bl:Below w.heap.size w W
 lt:b<W.heap.size
 c0:W.cell? ⟨b,0,none⟩=some (.slice a.va s.vs.length a.vc)
 c1:W.cell? ⟨b,1,none⟩=some (.slice a.sa s.ss.length a.sc)
 c2:W.cell? ⟨b,2,none⟩=some (.map a.mp)
theorem SBx.keep{w:World}{b:Nat}{s:Sc}{a:ScA}{W W':World}(h:SBx w b s a W)(hb:Below W.heap.size W W'):SBx w b s a W' :=
 ⟨h.bl.trans (hb.mono h.bl.size),nL h.lt hb.size,(hb.cell (p:=⟨b,0,none⟩) h.lt).trans h.c0,(hb.cell (p:=⟨b,1,none⟩) h.lt).trans h.c1,(hb.cell (p:=⟨b,2,none⟩) h.lt).trans h.c2⟩
theorem SBx.new(w:World)(s:Sc)(a:ScA):SBx w w.heap.size s a (w.alloc (scBx s a)):=by
 unfold scBx;exact ⟨(bR _ _).alloc (nR _) _,by simp,by go_cell,by go_cell,by go_cell⟩
theorem getE_v(es:List (ByteArray × En))(n:ByteArray):getE es n=getV es n:=rfl
theorem FM_get(F:List ((ByteArray × En) × OAd × Nat))(n:ByteArray):(getV (FM F) n=none∧getE (F.map (·.1)) n=none)∨∃t∈F,t.1.1=n∧getV (FM F) n=some (enVal t.1.2 t.2.1 t.2.2)∧getE (F.map (·.1)) n=some t.1.2:=by
 rw [getE_v];induction F with
 | nil=>exact .inl ⟨rfl,rfl⟩
 | cons t F ih =>
  unfold FM at ih ⊢;rw [List.map_cons,List.map_cons,getV_cons,getV_cons];by_cases h:t.1.1=n
  ·rw [if_pos h,if_pos h]
   exact .inr ⟨t,List.mem_cons_self,h,rfl,rfl⟩
  ·rw [if_neg h,if_neg h]
   exact ih.imp id fun ⟨u,hu,q⟩=>⟨u,List.mem_cons_of_mem _ hu,q⟩
theorem zeroEn(w:World):(zeroValue 90).run Tryz.prog w = .ok (.agg #[.slice none 0 0,.int .i64 0]) w:=by
 have h:(Tryz.prog.info? 90).map (·.zero)=some (some (.agg #[.slice none 0 0,.int .i64 0])):=by kernel_rfl
 cases hq:Tryz.prog.info? 90 with
 | none=>rw [hq]at h;cases h
 | some i =>
  rw [hq]at h;have hz:i.zero=some (.agg #[.slice none 0 0,.int .i64 0]):=Option.some.inj h;simp [zeroValue,typeInfo,hq,hz]
theorem ScM.look{W:World}{mp:Option Nat}{es:List (ByteArray × En)}(h:ScM W mp es){n:ByteArray}(hn:n.size≤maxLen):
  (getE es n=none∧∀W',Below W.heap.size W W'→(Instr.lookup 68 (.map mp) (.string n) true).run Tryz.prog W' = .ok (.tuple #[.agg #[.slice none 0 0,.int .i64 0],.bool false]) W') ∨
  ∃x ag cg,getE es n=some x∧EnAt W x ag∧∀W',Below W.heap.size W W'→(Instr.lookup 68 (.map mp) (.string n) true).run Tryz.prog W' = .ok (.tuple #[enVal x ag cg,.bool true]) W':=by
 rcases h with ⟨rfl,rfl⟩|⟨b,F,rfl,h1,rfl,h3⟩
 ·exact .inl ⟨rfl,fun W' _=>look_nilM mapT hn (zeroEn W')⟩
 ·rcases FM_get F n with ⟨q1,q2⟩|⟨t,ht,_,q1,q2⟩
  ·exact .inl ⟨q2,fun W' hW=>look_no mapT (h1.keep hW h1.lt) hn q1 (zeroEn W')⟩
  ·exact .inr ⟨t.1.2,t.2.1,t.2.2,q2,h3 t ht,fun W' hW=>(look_yes mapT (h1.keep hW h1.lt) hn q1).1⟩
theorem hasEnd_any(s:Sc)(a:ScA)(n:ByteArray)(w:World)(h:ScAt w s a)(hn:n.size≤maxLen):
  Calls Tryz.prog 66 #[scVal s a,.string n] w fun e w'=>e = .returned (.bool (getE s.es n).isSome)∧Below w.heap.size w w':=by
 have HB:=hideK (show Below w.heap.size w (w.alloc (scBx s a)) from (bR _ _).alloc (nR _) _)
 rcases h.es.look hn with ⟨e,hl⟩|⟨x,ag,cg,e,hx,hl⟩
 ·have hlk:=hl _ HB.out
  rw [e];simp only [scBx,scVal]at HB hlk ⊢;clear hl e h;go_enter Tryz.func66,Tryz.ntmps66
  go_wp2_with fail
  go_ret
  exact ⟨rfl,by go_grown⟩
 ·have hlk:=hl _ HB.out
  rw [e];simp only [scBx,scVal,enVal]at HB hlk ⊢;clear hl e h hx;go_enter Tryz.func66,Tryz.ntmps66
  go_wp2_with fail
  go_ret
  exact ⟨rfl,by go_grown⟩
theorem wantNoEnds_any(s:Sc)(a:ScA)(w:World)(h:ScAt w s a):
  Calls Tryz.prog 39 #[scVal s a] w fun e w'=>e = .returned (.int .i64 (noE s))∧Below w.heap.size w w':=by
 have hB:Below w.heap.size w (w.alloc (scBx s a)):=(bR _ _).alloc (nR _) _;have hd:noE s=if s.es.length=0 then 0 else 6:=rfl
 generalize noE s=r at *;rcases h.es with ⟨hm,he⟩|⟨b,F,hm,h1,he,_⟩
 ·rw [he]at hd
  simp only [List.length_nil,if_true]at hd;subst hd;simp only [scBx,scVal]at hB ⊢;rw [hm];clear h he hB;go_enter Tryz.func39,Tryz.ntmps39
  go_wp2_with fail
  go_ret
  exact ⟨rfl,by go_grown⟩
 ·have hlen:=fun ty=>sm_len mapT (h1.keep hB h1.lt) ty
  have hl:s.es.length=(FM F).length:=by rw [he];simp [FM]
  simp only [scBx,scVal,goInt]at hB hlen ⊢;rw [hm]at hlen ⊢;by_cases h0:(FM F).length=0
  ·rw [hl,if_pos h0]at hd
   subst hd;rw [h0]at hlen;clear h he hl h1 h0;go_enter Tryz.func39,Tryz.ntmps39
   go_wp2_with fail
   go_ret
   exact ⟨rfl,by go_grown⟩
  ·rw [hl,if_neg h0]at hd
   subst hd;have hp:(0:Int)<((FM F).length:Int):=by omega
   generalize (FM F).length=k at *;clear h he hl h1 h0;go_enter Tryz.func39,Tryz.ntmps39
   go_wp2_with fail
   go_ret
   exact ⟨rfl,by go_grown⟩
end Go.Proofs.YtmamabhhgfcjcaaGreatDoor
