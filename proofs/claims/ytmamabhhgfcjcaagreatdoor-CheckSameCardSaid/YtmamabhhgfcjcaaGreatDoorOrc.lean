/-
  The contracts of below.Is and below.Why, for every two types.
-/
import Derived.Test.YtmamabhhgfcjcaaGreatDoorJd
import Derived.Test.YtmamabhhgfcjcaaGreatDoorOfb
set_option maxRecDepth 100000
set_option maxHeartbeats 8000000
namespace Go.Proofs.YtmamabhhgfcjcaaGreatDoor
open Go.RowKit Go.Shelf
theorem OFG.uniq{t:Ty}{g h:List Nd}(hg:OFG t g)(hh:OFG t h):g=h:=(hg.same hh).2 rfl
theorem dualGraph_any(g:List Nd)(ag:OAd)(cg B:Nat)(w:World)(hg:GN g)(hl:g.length≤100)(hga:GAt w B g ag)(hB:B≤w.heap.size):
  Calls Tryz.prog 127 #[.slice ag g.length cg] w fun e w'=>(∃c,CLS (othG g) c∧∃ao co,e = .returned (.tuple #[.slice ao (leastG (othG g) c).length co,.int .i64 0])∧GAt w' w'.heap.size (leastG (othG g) c) ao)∧Below w.heap.size w w':=by
 have c1:=checkG_any g ag cg B w hg hga hB;have CO:=hideK (fun (W:World) (hb:Below w.heap.size w W)=>otherEnd_any g ag cg B W hg (hga.keep (hb.mono hB)) (Nat.le_trans hB hb.size))
 have CL:=hideK (fun (W:World) ao co (hgo:GAt W W.heap.size (othG g) ao)=>leastG_any (othG g) ao co W.heap.size W (oth_gn hg hl) hgo (nR _))
 have hlz:¬((g.length:Int) > 100):=by omega
 have hlz2:(g.length:Int)≤100:=by omega
 clear hga hg;go_enter Tryz.func127,Tryz.ntmps127
 go_wp2_with fail
 refine c1.mono ?_;rintro e w1 ⟨rfl,hb1⟩;have cO:=CO.out w1 hb1;have HB:=hideK hb1;clear c1 CO hb1;go_wp2_with fail
 refine cO.mono ?_;rintro e w2 ⟨⟨ao,co,rfl,hgo⟩,hb2⟩;have cL:=CL.out w2 ao co hgo;have HB2:=hideK (HB.out.trans (hb2.mono HB.out.size));clear cO CL hgo hb2;go_wp2_with fail
 refine cL.mono ?_;rintro e w3 ⟨⟨c,hc,a3,c3,rfl,hg3⟩,hb3⟩;have HC:=hideK hc;have HG3:=hideK hg3;have HB3:=hideK (HB2.out.trans (hb3.mono HB2.out.size));clear cL hc hg3 hb3;go_wp2_with fail
 go_ret2
 exact ⟨⟨c,HC.out,_,_,rfl,HG3.out⟩,HB3.out⟩
def DOPost(t:Ty)(w:World)(e:Ending)(w':World):Prop :=
 ((chkTy t≠0∧e = .returned (.tuple #[.slice none 0 0,.int .i64 (chkTy t)]))∨(∃g,OFG t g∧∃c,CLS (othG g) c∧∃ao co,e = .returned (.tuple #[.slice ao (leastG (othG g) c).length co,.int .i64 0])∧GAt w' w'.heap.size (leastG (othG g) c) ao))∧Below w.heap.size w w'
theorem dualOf_any(d:Nat)(t:Ty)(al:OAd)(cl:Nat)(ak:OAd)(ck:Nat)(w:World)(hbd:TyBd t cl ck)(hla:LA w w.heap.size t.labels al)(hkt:KT w w.heap.size d t.kids ak):
  Calls Tryz.prog 97 #[tyVal t al cl ak ck] w (DOPost t w):=by
 have hA:Below w.heap.size w (w.alloc (.cells #[.int .i64 t.kind,.int .i64 t.so,.string t.name,.slice al t.labels.length cl,.slice ak t.kids.length ck] 37)):=(bR _ _).alloc (nR _) _;have cO:=of_any d t al cl ak ck _ hbd (NAt.mono hA.size (NAt.keep hA hla)) (KT.mono hA.size (KT.keep hA hkt));have b0:TyAt (w.alloc (.cells #[.int .i64 t.kind,.int .i64 t.so,.string t.name,.slice al t.labels.length cl,.slice ak t.kids.length ck] 37)) w.heap.size 0 t al cl ak ck:=⟨by go_cell,by go_cell,by go_cell,by go_cell,by go_cell⟩
 obtain ⟨x0,x1,x2,x3,x4⟩:=b0;simp only [Nat.zero_add]at x1 x2 x3 x4;have HA:=hideK hA;unfold DOPost;unfold OFPost at cO;simp only [tyVal]at cO ⊢;clear hbd hla hkt hA;go_enter Tryz.func97,Tryz.ntmps97
 go_wp2_with fail
 refine cO.mono ?_;rintro e w1 ⟨hor,hb1⟩;have HB:=hideK (HA.out.trans (hb1.mono HA.out.size));clear cO hb1 x0 x1 x2 x3 x4;rcases hor with ⟨hz,rfl⟩|⟨g,ag,cg,hof,rfl,hga⟩
 ·have hzb:(chkTy t != 0)=true:=by simpa using hz
  have HZ:=hideK hz;clear hz;go_wp2_with fail
  go_ret2
  exact ⟨.inl ⟨HZ.out,rfl⟩,HB.out⟩
 ·have cD:=dualGraph_any g ag cg w1.heap.size w1 hof.gn (by have:=hof.le;omega) hga (nR _)
  have HOF:=hideK hof;clear hof hga;go_wp2_with fail
  refine cD.mono ?_;rintro e w2 ⟨⟨c,hc,ao,co,rfl,hg2⟩,hb2⟩;have HB2:=hideK (HB.out.trans (hb2.mono HB.out.size));have HC:=hideK hc;have HG2:=hideK hg2;clear cD hb2 hc hg2;go_wp2_with fail
  go_ret2
  exact ⟨.inr ⟨g,HOF.out,c,HC.out,_,_,rfl,HG2.out⟩,HB2.out⟩
def enVal(x:En)(ag:OAd)(cg:Nat):Value:=.agg #[.slice ag x.g.length cg,.int .i64 (x.k:Int)]
structure EnAt(W:World)(x:En)(ag:OAd):Prop where
 gn:GN x.g
 k:x.k<x.g.length
 ga:GAt W W.heap.size x.g ag
theorem EnAt.keep{W W':World}{x:En}{ag:OAd}(h:EnAt W x ag)(hb:Below W.heap.size W W'):EnAt W' x ag:=⟨h.gn,h.k,(h.ga.keep hb).mono hb.size⟩
theorem to_le{n:Nd}(h:okN n):n.to.length≤1000:=by
 rcases okN_cases h with q|q|q|⟨_,_,q,e⟩
 ·omega
 ·omega
 ·omega
 ·unfold labsOK at q
  rw [Bool.and_eq_true]at q;have:=of_decide_eq_true q.1;omega
theorem EnAt.to{W:World}{x:En}{ag:OAd}(h:EnAt W x ag){j:Nat}(hj:j<(hereE x).to.length):EnAt W (toE x j) ag :=
 ⟨h.gn,by
  show (hereE x).to.getD j 0<x.g.length
  rw [List.getD,List.getElem?_eq_getElem hj];exact shut_at h.gn.shut x.k _ (List.getElem_mem hj),h.ga⟩
theorem enHere_ex(x:En)(ag:OAd)(cg:Nat)(w:World)(h:EnAt w x ag):
  ∃al cl at1 ct,LA w w.heap.size (hereE x).labs al∧NI w w.heap.size (hereE x).to at1∧∀W,Below w.heap.size w W→Calls Tryz.prog 63 #[enVal x ag cg] W fun e w'=>e = .returned (ndVal (hereE x) al cl at1 ct)∧Below W.heap.size W w':=by
 have hk:=h.k;have hgl:=h.gn.le;obtain ⟨gb,go1,rfl,hgb,hgc⟩:=h.ga.resolve_left (fun q=>by rw [q]at hk;simp at hk)
 obtain ⟨al,cl,at1,ct,hnd,hla,hta⟩:=hgc x.k hk;have e0:hereE x=x.g[x.k]:=nodeAt_lt x.g x.k hk;rw [← e0]at hnd hla hta;refine ⟨al,cl,at1,ct,hla,hta,fun W hW=>?_⟩
 obtain ⟨c0,c1,c2,c3⟩:=hnd.keep hW hgb;have hgW:gb<W.heap.size:=nL hgb hW.size;have hkz:(x.k:Int)<(x.g.length:Int):=by omega
 have hgz:(x.g.length:Int)≤200:=by omega
 clear hgc hla hta e0 h;generalize hereE x=nd at *;simp only [enVal,ndVal];generalize x.g.length=n at *;generalize x.k=k at *;go_enter Tryz.func63,Tryz.ntmps63
 go_wp2_with fail
 refine bodyPost_ret (v:=.agg #[.int .i64 nd.kind,.int .i64 nd.so,.slice al nd.labs.length cl,.slice at1 nd.to.length ct]) (by simp [results,Tryz.results63,go_sem]) rfl ?_
 exact ⟨rfl,by go_grown⟩
theorem st2_at{W:World}{b:Nat}{u0 u1:Value}(v0 v1:Value)(z0:W.cell? ⟨b,0,none⟩=some u0)(z1:W.cell? ⟨b,1,none⟩=some u1):((W.setCell ⟨b,0,none⟩ v0).setCell ⟨b,1,none⟩ v1).cell? ⟨b,0,none⟩=some v0∧((W.setCell ⟨b,0,none⟩ v0).setCell ⟨b,1,none⟩ v1).cell? ⟨b,1,none⟩=some v1:=by
 have ne:∀i j:Nat,i≠j→(⟨b,i,none⟩:Addr)≠⟨b,j,none⟩:=fun i j h e=>by injection e with _ e;exact h e
 refine ⟨?_,?_⟩
 ·rw [World.cell?_setCell_other _ _ _ _ (ne 1 0 (by omega))]
  exact World.cell?_setCell_same _ _ _ z0
 ·exact World.cell?_setCell_same _ _ _ ((World.cell?_setCell_other _ _ _ _ (ne 0 1 (by omega))).trans z1)
structure EBo(w:World)(v0 v1:Value)(W:World):Prop where
 bl:Below w.heap.size w W
 lt:w.heap.size+1<W.heap.size
 c0:W.cell? ⟨w.heap.size,0,none⟩=some v0
 c1:W.cell? ⟨w.heap.size,1,none⟩=some v1
 z0:W.cell? ⟨w.heap.size+1,0,none⟩=some (.slice none 0 0)
 z1:W.cell? ⟨w.heap.size+1,1,none⟩=some (.int .i64 0)
 f:∀o,W.frozen? ⟨w.heap.size+1,o,none⟩=false
theorem EBo.keep{w:World}{v0 v1:Value}{W W':World}(h:EBo w v0 v1 W)(hb:Below W.heap.size W W'):EBo w v0 v1 W':=by
 have hl:=h.lt;have hs:=hb.size;exact ⟨h.bl.trans (hb.mono h.bl.size),by omega,(hb.cell (p:=⟨w.heap.size,0,none⟩) (by show w.heap.size<_;omega)).trans h.c0,(hb.cell (p:=⟨w.heap.size,1,none⟩) (by show w.heap.size<_;omega)).trans h.c1,(hb.cell (p:=⟨w.heap.size+1,0,none⟩) hl).trans h.z0,(hb.cell (p:=⟨w.heap.size+1,1,none⟩) hl).trans h.z1,fun o=>(hb.frozen (p:=⟨w.heap.size+1,o,none⟩) hl).trans (h.f o)⟩
theorem EBo.new(w:World)(v0 v1:Value):EBo w v0 v1 ((w.alloc (.cells #[v0,v1] 90)).alloc (.cells #[.slice none 0 0,.int .i64 0] 90)) :=
 ⟨((bR _ _).alloc (nR _) _).alloc (by simp) _,by simp,by go_cell,by go_cell,by go_cell,by go_cell,fun o=>by go_simp⟩
theorem enTo_any(x:En)(ag:OAd)(cg j:Nat)(w:World)(h:EnAt w x ag)(hj:j<(hereE x).to.length):
  Calls Tryz.prog 65 #[enVal x ag cg,.int .i64 (j:Int)] w fun e w'=>e = .returned (enVal (toE x j) ag cg)∧Below w.heap.size w w':=by
 obtain ⟨al,cl,at1,ct,hla,hta,hH⟩:=enHere_ex x ag cg w h;obtain ⟨tb,to1,rfl,htb,htc⟩:=hta.resolve_left (fun q=>by have:=congrArg List.length q;simp at this;rw [this]at hj;simp at hj)
 have hjz:(j:Int)<((hereE x).to.length:Int):=by omega
 have h6:((hereE x).to.length:Int)≤1000:=by
  have:=to_le (h.gn.at_ h.k);show ((nodeAt x.g x.k).to.length:Int)≤1000
  omega
 have d:=htc j (by simpa using hj)
 rw [List.getElem_map]at d;have et:toE x j=⟨x.g,(hereE x).to[j]⟩:=by unfold toE;rw [List.getD,List.getElem?_eq_getElem hj];rfl
 have HT:=hideK (fun (W:World) (hW:Below w.heap.size w W)=>(hW.cell (p:=⟨tb,to1+j,none⟩) htb).trans d)
 have HH:=hideK hH;have HX0:=hideK ((EBo.new w (.slice ag x.g.length cg) (.int .i64 (x.k:Int))).keep ((bR _ _).drew));rw [et];generalize (hereE x).to[j]=tj at *;generalize hereE x=nd at *;simp only [enVal]at HH HX0 ⊢;clear hla hH htc d h hj et;go_enter Tryz.func65,Tryz.ntmps65
 go_upto_region 1 with fail
 refine region_seqT (fun W=>EBo w (.slice ag x.g.length cg) (.int .i64 (x.k:Int)) W) 9 [0,1,2,3,4,5,6,7,8] (by kernel_rfl) (by kernel_rfl) (by kernel_rfl) (by kernel_rfl) (by kernel_rfl) HX0.out ?_
 refine sO (.pointer (some ⟨w.heap.size,0,none⟩)) ?_;refine sW (.slice ag x.g.length cg) (fun W hW=>?_) ?_
 ·obtain ⟨hbl,_,x0,x1,_,_,_⟩:=id hW
  go_simp
 refine sW (.agg #[.slice ag x.g.length cg,.int .i64 (x.k:Int)]) (fun W hW=>?_) ?_
 ·obtain ⟨hbl,_,x0,x1,_,_,_⟩:=id hW
  go_simp
 refine sW (.agg #[.int .i64 nd.kind,.int .i64 nd.so,.slice al nd.labs.length cl,.slice (some ⟨tb,to1,none⟩) nd.to.length ct]) (fun W hW=>?_) ?_
 ·have c:=HH.out W hW.bl
  simp only [ndVal]at c;go_simp
  refine c.mono ?_;rintro e w' ⟨rfl,hb⟩;exact ⟨rfl,hW.keep hb⟩
 refine sW (.slice (some ⟨tb,to1,none⟩) nd.to.length ct) (fun W hW=>?_) ?_
 ·have hfl:(Instr.field 102 (.agg #[.int .i64 nd.kind,.int .i64 nd.so,.slice al nd.labs.length cl,.slice (some ⟨tb,to1,none⟩) nd.to.length ct]) 3).run Tryz.prog W = .ok (.slice (some ⟨tb,to1,none⟩) nd.to.length ct) W:=by kernel_rfl
  go_simp
 refine sO (.int .i64 (j:Int)) ?_;refine sO (.pointer (some ⟨tb,to1+j,none⟩)) ?_;refine sW (.int .i64 (tj:Int)) (fun W hW=>?_) ?_
 ·have d0:=HT.out W hW.bl
  go_simp
 refine sO (.agg #[.slice ag x.g.length cg,.int .i64 (tj:Int)]) ?_;refine SeqS.done ?_;intro W1 hW1;obtain ⟨hbl,hlt,x0,x1,z0,z1,zf⟩:=hW1;have f0:=zf 0;have f1:=zf 1;clear zf x0 x1 HT HH HX0;show wpList _ _ _ [_] _ _
 go_wp2_with fail
 obtain ⟨r0,r1⟩:=st2_at (.slice ag x.g.length cg) (.int .i64 (tj:Int)) z0 z1;have HB:=hideK ((hbl.setCell (p:=⟨w.heap.size+1,0,none⟩) (Nat.le_succ _) (.slice ag x.g.length cg)).setCell (p:=⟨w.heap.size+1,1,none⟩) (Nat.le_succ _) (.int .i64 (tj:Int)));generalize (W1.setCell ⟨w.heap.size+1,0,none⟩ (.slice ag x.g.length cg)).setCell ⟨w.heap.size+1,1,none⟩ (.int .i64 (tj:Int))=W9 at *;refine bodyPost_ret (v:=.agg #[.slice ag x.g.length cg,.int .i64 (tj:Int)]) (by simp [results,Tryz.results65,go_sem,r0,r1]) rfl ?_
 exact ⟨rfl,HB.out⟩
theorem enFits_any(x y:En)(ax ay:OAd)(cx cy:Nat)(w:World)(hx:EnAt w x ax)(hy:EnAt w y ay):
  Calls Tryz.prog 70 #[enVal x ax cx,enVal y ay cy] w fun e w'=>e = .returned (.int .i64 (fitE x y))∧Below w.heap.size w w':=by
 have hA:Below w.heap.size w ((w.alloc (.cells #[.slice ax x.g.length cx,.int .i64 (x.k:Int)] 90)).alloc (.cells #[.slice ay y.g.length cy,.int .i64 (y.k:Int)] 90)):=((bR _ _).alloc (nR _) _).alloc (by simp) _
 have hx':=hx.keep hA;have hy':=hy.keep hA;have c:=nodes_any x.g y.g ax ay cx cy _ x.k y.k _ hx'.gn hy'.gn hx'.ga hy'.ga (nR _) hx.k hy.k;have HA:=hideK hA;have HF:=hideK (show fitE x y=if belB x.g y.g x.k y.k then 0 else 7 from rfl)
 generalize belB x.g y.g x.k y.k=q at *;simp only [enVal];clear hx hy hx' hy' hA;go_enter Tryz.func70,Tryz.ntmps70
 go_wp2_with fail
 refine c.mono ?_;rintro e w1 ⟨rfl,hb1⟩;have HB:=hideK (HA.out.trans (hb1.mono HA.out.size));clear c hb1 HA;cases q
 ·go_wp2_with fail
  go_ret
  exact ⟨by rw [HF.out];rfl,HB.out⟩
 ·go_wp2_with fail
  go_ret
  exact ⟨by rw [HF.out];rfl,HB.out⟩
structure TEB(w:World)(t:Ty)(al:OAd)(cl:Nat)(ak:OAd)(ck:Nat)(W:World):Prop where
 bl:Below w.heap.size w W
 lt:w.heap.size+1<W.heap.size
 z0:W.cell? ⟨w.heap.size+1,0,none⟩=some (.slice none 0 0)
 z1:W.cell? ⟨w.heap.size+1,1,none⟩=some (.int .i64 0)
 f:∀o,W.frozen? ⟨w.heap.size+1,o,none⟩=false
theorem TEB.keep{w:World}{t:Ty}{al:OAd}{cl:Nat}{ak:OAd}{ck:Nat}{W W':World}(h:TEB w t al cl ak ck W)(hb:Below W.heap.size W W'):TEB w t al cl ak ck W':=by
 have hl:=h.lt;have hs:=hb.size;exact ⟨h.bl.trans (hb.mono h.bl.size),by omega,(hb.cell (p:=⟨w.heap.size+1,0,none⟩) hl).trans h.z0,(hb.cell (p:=⟨w.heap.size+1,1,none⟩) hl).trans h.z1,fun o=>(hb.frozen (p:=⟨w.heap.size+1,o,none⟩) hl).trans (h.f o)⟩
theorem TEB.new(w:World)(t:Ty)(al:OAd)(cl:Nat)(ak:OAd)(ck:Nat):TEB w t al cl ak ck ((w.alloc (.cells #[.int .i64 t.kind,.int .i64 t.so,.string t.name,.slice al t.labels.length cl,.slice ak t.kids.length ck] 37)).alloc (.cells #[.slice none 0 0,.int .i64 0] 90)) :=
 ⟨((bR _ _).alloc (nR _) _).alloc (by simp) _,by simp,by go_cell,by go_cell,fun o=>by go_simp⟩
theorem st2_keep{W:World}{b:Nat}(v0:Value)(z1:W.cell? ⟨b,1,none⟩=some (.int .i64 0)){p:Addr}{v:Value}(h:W.cell? p=some v)(hp:p≠⟨b,0,none⟩):((W.setCell ⟨b,0,none⟩ v0).setCell ⟨b,1,none⟩ (.int .i64 0)).cell? p=some v:=by
 by_cases h1:p=⟨b,1,none⟩
 ·subst h1
  rw [z1]at h;cases h
  exact World.cell?_setCell_same _ _ _ ((World.cell?_setCell_other _ _ _ _ (Ne.symm hp)).trans z1)
 ·rw [World.cell?_setCell_other _ _ _ _ (Ne.symm h1),World.cell?_setCell_other _ _ _ _ (Ne.symm hp)]
  exact h
theorem NAt.st2{W:World}{B b:Nat}{vs:List Value}{an:OAd}(v0:Value)(z0:W.cell? ⟨b,0,none⟩=some (.slice none 0 0))(z1:W.cell? ⟨b,1,none⟩=some (.int .i64 0))(hv:∀v∈vs,v≠.slice none 0 0)(h:NAt W B vs an):NAt ((W.setCell ⟨b,0,none⟩ v0).setCell ⟨b,1,none⟩ (.int .i64 0)) B vs an :=
 h.imp id fun ⟨b',o,e,hl,hc⟩=>⟨b',o,e,hl,fun i hi=>st2_keep v0 z1 (hc i hi) (fun q=>by
  have:=hc i hi;rw [q,z0]at this;exact hv _ (List.getElem_mem hi) (Option.some.inj this).symm)⟩
theorem GAt.st2{W:World}{B b:Nat}{g:List Nd}{ag:OAd}(v0:Value)(z0:W.cell? ⟨b,0,none⟩=some (.slice none 0 0))(z1:W.cell? ⟨b,1,none⟩=some (.int .i64 0))(h:GAt W B g ag):GAt ((W.setCell ⟨b,0,none⟩ v0).setCell ⟨b,1,none⟩ (.int .i64 0)) B g ag :=
 h.imp id fun ⟨b',o,e,hl,hc⟩=>⟨b',o,e,hl,fun i hi=>by
  obtain ⟨al,cl,at1,ct,h1,h2,h3⟩:=hc i hi;refine ⟨al,cl,at1,ct,⟨st2_keep v0 z1 h1.c0 (fun q=>?_),st2_keep v0 z1 h1.c1 (fun q=>?_),st2_keep v0 z1 h1.c2 (fun q=>?_),st2_keep v0 z1 h1.c3 (fun q=>?_)⟩,NAt.st2 v0 z0 z1 (fun v hv=>?_) h2,NAt.st2 v0 z0 z1 (fun v hv=>?_) h3⟩
  ·have:=h1.c0;rw [q,z0]at this;cases this
  ·have:=h1.c1;rw [q,z0]at this;cases this
  ·injection q with _ q;omega
  ·injection q with _ q;omega
  ·obtain ⟨l,_,rfl⟩:=List.mem_map.1 hv;simp
  ·obtain ⟨l,_,rfl⟩:=List.mem_map.1 hv;simp⟩
def OTG(t:Ty)(h:List Nd):Prop:=∃g c,OFG t g∧CLS (othG g) c∧h=leastG (othG g) c
theorem enOf_any(d:Nat)(t:Ty)(al:OAd)(cl:Nat)(ak:OAd)(ck:Nat)(w:World)(hbd:TyBd t cl ck)(hla:LA w w.heap.size t.labels al)(hkt:KT w w.heap.size d t.kids ak)(hz:chkTy t=0):
  Calls Tryz.prog 38 #[tyVal t al cl ak ck] w fun e w'=>(∃g ag cg,OFG t g∧e = .returned (.tuple #[enVal ⟨g,0⟩ ag cg,.int .i64 0])∧EnAt w' ⟨g,0⟩ ag)∧Below w.heap.size w w':=by
 have HX0:=hideK (TEB.new w t al cl ak ck);have hA:=HX0.out.bl;have c:=of_any d t al cl ak ck ((w.alloc (.cells #[.int .i64 t.kind,.int .i64 t.so,.string t.name,.slice al t.labels.length cl,.slice ak t.kids.length ck] 37)).alloc (.cells #[.slice none 0 0,.int .i64 0] 90)) hbd (NAt.mono hA.size (NAt.keep hA hla)) (KT.mono hA.size (KT.keep hA hkt));unfold OFPost at c;simp only [tyVal,enVal]at c ⊢;clear hbd hla hkt hA;go_enter Tryz.func38,Tryz.ntmps38
 go_wp2_with fail
 refine c.mono ?_;rintro e w1 ⟨q|⟨g,ag,cg,ho,rfl,hga'⟩,hb1⟩
 ·exact absurd hz q.1
 have hgn:=ho.gn;have HX:=hideK (HX0.out.keep hb1);have hga:=hga';clear c hb1 HX0;obtain ⟨hbl,hlt,z0,z1,zf⟩:=HX.out;have f0:=zf 0;have f1:=zf 1;have hn:g.length≤200:=hgn.le;have HG:=hideK (And.intro hgn hga);have HO:=hideK ho;clear zf hga hgn ho hga';go_wp2_with fail
 obtain ⟨r0,r1⟩:=st2_at (.slice ag g.length cg) (.int .i64 0) z0 z1;have hS:Below w1.heap.size w1 w1:=Below.refl _ _;have HB:=hideK ((hbl.setCell (p:=⟨w.heap.size+1,0,none⟩) (Nat.le_succ _) (.slice ag g.length cg)).setCell (p:=⟨w.heap.size+1,1,none⟩) (Nat.le_succ _) (.int .i64 0));have HGA:=hideK (show GAt ((w1.setCell ⟨w.heap.size+1,0,none⟩ (.slice ag g.length cg)).setCell ⟨w.heap.size+1,1,none⟩ (.int .i64 0)) ((w1.setCell ⟨w.heap.size+1,0,none⟩ (.slice ag g.length cg)).setCell ⟨w.heap.size+1,1,none⟩ (.int .i64 0)).heap.size g ag from by
  have q:=HG.out.2.st2 (.slice ag g.length cg) z0 z1;rw [World.size_setCell,World.size_setCell];exact q)
 generalize (w1.setCell ⟨w.heap.size+1,0,none⟩ (.slice ag g.length cg)).setCell ⟨w.heap.size+1,1,none⟩ (.int .i64 0)=W9 at *;refine bodyPost_ret (v:=.tuple #[.agg #[.slice ag g.length cg,.int .i64 0],.int .i64 0]) (by simp [results,Tryz.results38,go_sem,r0,r1]) rfl ?_
 exact ⟨⟨g,ag,cg,HO.out,rfl,⟨HG.out.1,HG.out.1.pos,HGA.out⟩⟩,HB.out⟩
theorem enOther_any(d:Nat)(t:Ty)(al:OAd)(cl:Nat)(ak:OAd)(ck:Nat)(w:World)(hbd:TyBd t cl ck)(hla:LA w w.heap.size t.labels al)(hkt:KT w w.heap.size d t.kids ak)(hz:chkTy t=0):
  Calls Tryz.prog 68 #[tyVal t al cl ak ck] w fun e w'=>(∃g ag cg,OTG t g∧e = .returned (.tuple #[enVal ⟨g,0⟩ ag cg,.int .i64 0])∧EnAt w' ⟨g,0⟩ ag)∧Below w.heap.size w w':=by
 have HX0:=hideK (TEB.new w t al cl ak ck);have hA:=HX0.out.bl;have c:=dualOf_any d t al cl ak ck ((w.alloc (.cells #[.int .i64 t.kind,.int .i64 t.so,.string t.name,.slice al t.labels.length cl,.slice ak t.kids.length ck] 37)).alloc (.cells #[.slice none 0 0,.int .i64 0] 90)) hbd (NAt.mono hA.size (NAt.keep hA hla)) (KT.mono hA.size (KT.keep hA hkt));unfold DOPost at c;simp only [tyVal,enVal]at c ⊢;clear hbd hla hkt hA;go_enter Tryz.func68,Tryz.ntmps68
 go_wp2_with fail
 refine c.mono ?_;rintro e w1 ⟨q|⟨g0,ho0,c0,hc0,ag,cg,rfl,hga'⟩,hb1⟩
 ·exact absurd hz q.1
 have hgn:=(least_gn (oth_gn ho0.gn (by have:=ho0.le;omega)) hc0).1
 have ho:OTG t (leastG (othG g0) c0):=⟨g0,c0,ho0,hc0,rfl⟩;clear hc0 ho0;generalize leastG (othG g0) c0=g at *;have HX:=hideK (HX0.out.keep hb1);have hga:=hga';clear c hb1 HX0;obtain ⟨hbl,hlt,z0,z1,zf⟩:=HX.out;have f0:=zf 0;have f1:=zf 1;have hn:g.length≤200:=hgn.le;have HG:=hideK (And.intro hgn hga);have HO:=hideK ho;clear zf hga hgn ho hga';go_wp2_with fail
 obtain ⟨r0,r1⟩:=st2_at (.slice ag g.length cg) (.int .i64 0) z0 z1;have hS:Below w1.heap.size w1 w1:=Below.refl _ _;have HB:=hideK ((hbl.setCell (p:=⟨w.heap.size+1,0,none⟩) (Nat.le_succ _) (.slice ag g.length cg)).setCell (p:=⟨w.heap.size+1,1,none⟩) (Nat.le_succ _) (.int .i64 0));have HGA:=hideK (show GAt ((w1.setCell ⟨w.heap.size+1,0,none⟩ (.slice ag g.length cg)).setCell ⟨w.heap.size+1,1,none⟩ (.int .i64 0)) ((w1.setCell ⟨w.heap.size+1,0,none⟩ (.slice ag g.length cg)).setCell ⟨w.heap.size+1,1,none⟩ (.int .i64 0)).heap.size g ag from by
  have q:=HG.out.2.st2 (.slice ag g.length cg) z0 z1;rw [World.size_setCell,World.size_setCell];exact q)
 generalize (w1.setCell ⟨w.heap.size+1,0,none⟩ (.slice ag g.length cg)).setCell ⟨w.heap.size+1,1,none⟩ (.int .i64 0)=W9 at *;refine bodyPost_ret (v:=.tuple #[.agg #[.slice ag g.length cg,.int .i64 0],.int .i64 0]) (by simp [results,Tryz.results68,go_sem,r0,r1]) rfl ?_
 exact ⟨⟨g,ag,cg,HO.out,rfl,⟨HG.out.1,HG.out.1.pos,HGA.out⟩⟩,HB.out⟩
theorem cls_ex{g:List Nd}(hs:shutG g):∃c,CLS g c:=by
 have:∀n k c,patG g k c→g.length - cnt c≤n→∃c,CLS g c:=by
  intro n;induction n with
  | zero =>
   intro k c hp hn;by_cases he:(splitG g c).1.length=cnt c
   ·exact ⟨_,cls_done hs hp he⟩
   ·have:=cls_more hs hp he;omega
  | succ n ih =>
   intro k c hp hn;by_cases he:(splitG g c).1.length=cnt c
   ·exact ⟨_,cls_done hs hp he⟩
   ·have h1:=cls_more hs hp he
    have h2:=(split_inv g c).cn;exact ih (k+1) (splitG g c).2 (pat_split hs hp) (by omega)
 exact this _ 0 _ (pat_zero g) (nR _)
theorem OFG_ex{t:Ty}(h:chkTy t=0):∃g,OFG t g:=by
 have hg:=lay_gn h;obtain ⟨c,hc⟩:∃c,CLS (layP t [] 0).2 c:=cls_ex hg.shut;exact ⟨_,⟨h,c,hc,rfl⟩⟩
def asT(gr:Ty→List Nd)(t:Ty):Ty:=if chkTy t=0∧(backP (gr t)).2.2≤60 then (backP (gr t)).1 else t
section
variable {gr og:Ty→List Nd}
theorem as_ofg(hgr:∀t g,chkTy t=0→OFG t g→g=gr t){t:Ty}(h:chkTy t=0):OFG t (gr t):=by
 obtain ⟨g,hg⟩:=OFG_ex h;rw [← hgr t g h hg];exact hg
theorem as_same(hgr:∀t g,chkTy t=0→OFG t g→g=gr t){t:Ty}(h:chkTy t=0)(hb:(backP (gr t)).2.2≤60):OFG (backP (gr t)).1 (gr t):=by
 have hG:=as_ofg hgr h;obtain ⟨h1,h2⟩:=back_ok hG.gn (by have:=hG.le;omega) hb
 obtain ⟨M,hM⟩:=OFG_ex h1;have e:M=gr t:=((hG.same hM).2 (by rw [h2];exact funext fun k=>(hG.does k).symm)).symm
 rw [e]at hM;exact hM
theorem as_chk(hgr:∀t g,chkTy t=0→OFG t g→g=gr t)(t:Ty)(h:chkTy t=0):chkTy (asT gr t)=0:=by
 unfold asT;by_cases q:chkTy t=0∧(backP (gr t)).2.2≤60
 ·rw [if_pos q];exact (as_same hgr q.1 q.2).chk
 ·rw [if_neg q];exact h
theorem as_gr(hgr:∀t g,chkTy t=0→OFG t g→g=gr t)(t:Ty):gr (asT gr t)=gr t:=by
 unfold asT;by_cases q:chkTy t=0∧(backP (gr t)).2.2≤60
 ·rw [if_pos q]
  have h:=as_same hgr q.1 q.2;exact (hgr _ _ h.chk h).symm
 ·rw [if_neg q]
theorem as_og(hgr:∀t g,chkTy t=0→OFG t g→g=gr t)(hog:∀t g,chkTy t=0→OTG t g→g=og t)(t:Ty):og (asT gr t)=og t:=by
 unfold asT;by_cases q:chkTy t=0∧(backP (gr t)).2.2≤60
 ·rw [if_pos q]
  have h:=as_same hgr q.1 q.2;have h0:=as_ofg hgr q.1;obtain ⟨c,hc⟩:=cls_ex (oth_gn h0.gn (by have:=h0.le;omega)).shut
  exact (hog _ _ h.chk ⟨_,c,h,hc,rfl⟩).symm.trans (hog _ _ q.1 ⟨_,c,h0,hc,rfl⟩)
 ·rw [if_neg q]
end
structure ASX(w:World)(t:Ty)(al:OAd)(cl:Nat)(ak:OAd)(ck:Nat)(W:World):Prop where
 bl:Below w.heap.size w W
 x:TyAt W w.heap.size 0 t al cl ak ck
 r:RBX W (w.heap.size+1)
theorem ASX.keep{w:World}{t:Ty}{al:OAd}{cl:Nat}{ak:OAd}{ck:Nat}{W W':World}(h:ASX w t al cl ak ck W)(hb:Below W.heap.size W W'):ASX w t al cl ak ck W' :=
 ⟨h.bl.trans (hb.mono h.bl.size),h.x.keep hb (by have:=h.r.lt;omega),h.r.keep hb⟩
theorem ASX.new(w:World)(t:Ty)(al:OAd)(cl:Nat)(ak:OAd)(ck:Nat):ASX w t al cl ak ck ((w.alloc (.cells #[.int .i64 t.kind,.int .i64 t.so,.string t.name,.slice al t.labels.length cl,.slice ak t.kids.length ck] 37)).alloc (.cells #[.int .i64 0,.int .i64 0,.string ⟨#[]⟩,.slice none 0 0,.slice none 0 0] 37)):=by
 refine ⟨((bR _ _).alloc (nR _) _).alloc (by simp) _,⟨by go_cell,by go_cell,by go_cell,by go_cell,by go_cell⟩,?_⟩
 have:=RBX.new (w.alloc (.cells #[.int .i64 t.kind,.int .i64 t.so,.string t.name,.slice al t.labels.length cl,.slice ak t.kids.length ck] 37));rw [show (w.alloc (.cells #[.int .i64 t.kind,.int .i64 t.so,.string t.name,.slice al t.labels.length cl,.slice ak t.kids.length ck] 37)).heap.size=w.heap.size+1 from by simp]at this
 exact this
theorem RBX.fin{W:World}{b:Nat}(h:RBX W b)(t:Ty)(al:OAd)(cl:Nat)(ak:OAd)(ck:Nat):∃W9,st5 W b 0 (.int .i64 t.kind) (.int .i64 t.so) (.string t.name) (.slice al t.labels.length cl) (.slice ak t.kids.length ck)=W9∧TyAt W9 b 0 t al cl ak ck∧W9.heap.size=W.heap.size∧(∀b' o,b'≠b→W9.cell? ⟨b',o,none⟩=W.cell? ⟨b',o,none⟩)∧∀w:World,w.heap.size≤b→Below w.heap.size w W→Below w.heap.size w W9 :=
 ⟨_,rfl,st5_at W b 0 t al cl ak ck (fun j hj=>by
  rw [Nat.zero_add];have:j=0∨j=1∨j=2∨j=3∨j=4:=by omega
  rcases this with rfl|rfl|rfl|rfl|rfl
  ·exact ⟨_,h.c0⟩
  ·exact ⟨_,h.c1⟩
  ·exact ⟨_,h.c2⟩
  ·exact ⟨_,h.c3⟩
  ·exact ⟨_,h.c4⟩),st5_size _ _ _ _ _ _ _ _,fun b' o hb=>st5_other _ _ _ _ _ _ _ _ _ _ (.inl hb),fun w hw hB=>st5_below b 0 _ _ _ _ _ hB hw⟩
def ASPost(gr:Ty→List Nd)(t:Ty)(B0:Nat)(w:World)(e:Ending)(w':World):Prop :=
 (∃al cl ak ck d,e = .returned (tyVal (asT gr t) al cl ak ck)∧TyBd (asT gr t) cl ck∧LP w' (fun b=>(b<B0∨w.heap.size≤b)∧b<w'.heap.size) (asT gr t).labels al∧KP w' (fun b=>(b<B0∨w.heap.size≤b)∧b<w'.heap.size) d (asT gr t).kids ak)∧Below w.heap.size w w'
theorem as_any(gr:Ty→List Nd)(hgr:∀t g,chkTy t=0→OFG t g→g=gr t)(d:Nat)(t:Ty)(al:OAd)(cl:Nat)(ak:OAd)(ck B0:Nat)(w:World)(hB0:B0≤w.heap.size)(hbd:TyBd t cl ck)(hla:LA w B0 t.labels al)(hkt:KT w B0 d t.kids ak):
  Calls Tryz.prog 8 #[tyVal t al cl ak ck] w (ASPost gr t B0 w):=by
 have Q0:=hideK (ASX.new w t al cl ak ck);have C1:=hideK (fun (W:World) (hb:Below w.heap.size w W)=>of_any d t al cl ak ck W hbd ((hla.keep (hb.mono hB0)).mono (Nat.le_trans hB0 hb.size)) ((hkt.keep (hb.mono hB0)).mono (Nat.le_trans hB0 hb.size)))
 have HBD:=hideK hbd;have HLA:=hideK hla;have HKT:=hideK hkt;have HB0:=hideK hB0;have HGR:=hideK hgr;unfold OFPost at C1;unfold ASPost;simp only [tyVal]at C1 ⊢;clear hbd hla hkt hB0 hgr;go_enter Tryz.func8,Tryz.ntmps8
 go_upto_region 1 with fail
 generalize (w.alloc _).alloc _=W0 at *;obtain ⟨x0,x1,x2,x3,x4⟩:=Q0.out.x;simp only [Nat.zero_add]at x1 x2 x3 x4;go_wp2_with fail
 refine (C1.out _ Q0.out.bl).mono ?_;rintro e w5 ⟨hor,hb5⟩;have Q5:=hideK (Q0.out.keep hb5);clear x0 x1 x2 x3 x4 hb5 Q0 C1;rcases hor with ⟨hz,rfl⟩|⟨g,ag,cg,hg,rfl,hga⟩
 ·have cb:=backErr_any none 0 0 (chkTy t) hz w5
  have HZ:=hideK hz;clear hz;generalize chkTy t=z at cb ⊢;go_wp2_with fail
  refine cb.mono ?_;rintro e w6 ⟨⟨bT,bal,bcl,bak,bck,rfl⟩,hb6⟩;have Q6:=hideK (Q5.out.keep hb6);clear hb6 Q5;simp only [tyVal];clear cb;have QA:=hideK (Q6.out.keep ((Below.refl _ w6).alloc (nR _) (.cells #[.int .i64 bT.kind,.int .i64 bT.so,.string bT.name,.slice bal bT.labels.length bcl,.slice bak bT.kids.length bck] 37)));have HSA:=hideK (show (w6.alloc (.cells #[.int .i64 bT.kind,.int .i64 bT.so,.string bT.name,.slice bal bT.labels.length bcl,.slice bak bT.kids.length bck] 37)).heap.size=w6.heap.size+1 from by simp)
  have HCA:=hideK (fun b o (hb:b<w6.heap.size)=>show (w6.alloc (.cells #[.int .i64 bT.kind,.int .i64 bT.so,.string bT.name,.slice bal bT.labels.length bcl,.slice bak bT.kids.length bck] 37)).cell? ⟨b,o,none⟩=w6.cell? ⟨b,o,none⟩ from ((Below.refl _ w6).alloc (nR _) (.cells #[.int .i64 bT.kind,.int .i64 bT.so,.string bT.name,.slice bal bT.labels.length bcl,.slice bak bT.kids.length bck] 37)).cell (p:=⟨b,o,none⟩) hb)
  have HTA:=hideK (show TyAt (w6.alloc (.cells #[.int .i64 bT.kind,.int .i64 bT.so,.string bT.name,.slice bal bT.labels.length bcl,.slice bak bT.kids.length bck] 37)) w6.heap.size 0 bT bal bcl bak bck from ⟨by go_cell,by go_cell,by go_cell,by go_cell,by go_cell⟩)
  go_upto_region 4 with fail
  generalize w6.alloc (.cells #[.int .i64 bT.kind,.int .i64 bT.so,.string bT.name,.slice bal bT.labels.length bcl,.slice bak bT.kids.length bck] 37)=WA at *;obtain ⟨x0,x1,x2,x3,x4⟩:=QA.out.x;obtain ⟨z0,z1,z2,z3,z4,zf,zl⟩:=QA.out.r;have f0:=zf 0;have f1:=zf 1;have f2:=zf 2;have f3:=zf 3;have f4:=zf 4;simp only [Nat.zero_add]at x1 x2 x3 x4;have FIN:=hideK (QA.out.r.fin t al cl ak ck);clear zf;go_wp2_with fail
  obtain ⟨W9,e9,h9,s9,k9,b9⟩:=FIN.out;change bodyPost _ _ _ _ _ (st5 WA (w.heap.size+1) 0 (.int .i64 t.kind) (.int .i64 t.so) (.string t.name) (.slice al t.labels.length cl) (.slice ak t.kids.length ck))
  rw [e9];obtain ⟨r0,r1,r2,r3,r4⟩:=h9;simp only [Nat.zero_add]at r1 r2 r3 r4;refine bodyPost_ret (v:=.agg #[.int .i64 t.kind,.int .i64 t.so,.string t.name,.slice al t.labels.length cl,.slice ak t.kids.length ck]) (by simp [results,Tryz.results8,go_sem,r0,r1,r2,r3,r4]) rfl ?_
  have hb9:=b9 w (by omega) QA.out.bl
  rw [show asT gr t=t from by unfold asT;rw [if_neg (fun q=>HZ.out q.1)]]
  exact ⟨⟨al,cl,ak,ck,d,rfl,HBD.out,lp_of (fun b hb=>⟨.inl hb,by have:=hb9.size;have:=HB0.out;omega⟩) (HLA.out.keep (hb9.mono HB0.out)),kp_of (fun b hb=>⟨.inl hb,by have:=hb9.size;have:=HB0.out;omega⟩) (HKT.out.keep (hb9.mono HB0.out))⟩,hb9⟩
 ·obtain rfl:=HGR.out t g hg.chk hg
  have cb:=backKeepN_any (gr t) hg.gn ag cg w5.heap.size w5 hga (nR _);unfold BNPost at cb;have HG:=hideK hg;have QW:=hideK (show w.heap.size+1<w5.heap.size from Q5.out.r.lt)
  clear hga hg;generalize hgl:(gr t).length=n at cb ⊢;clear hgl;generalize hbp:backP (gr t)=bp at cb;have HBP:=hideK hbp;clear hbp;go_wp2_with fail
  refine cb.mono ?_;rintro e w6 ⟨hor,hb6⟩;have Q6:=hideK (Q5.out.keep hb6);clear cb hb6 Q5;rcases hor with ⟨hq,bT,bal,bcl,bak,bck,rfl⟩|⟨hq,bal,bcl,bak,bck,bd,rfl,hbb,hlp,hkp⟩
  ·have HQ:=hideK (show ¬(backP (gr t)).2.2≤60 from by rw [HBP.out];omega)
   clear hq;simp only [tyVal];have QA:=hideK (Q6.out.keep ((Below.refl _ w6).alloc (nR _) (.cells #[.int .i64 bT.kind,.int .i64 bT.so,.string bT.name,.slice bal bT.labels.length bcl,.slice bak bT.kids.length bck] 37)));have HSA:=hideK (show (w6.alloc (.cells #[.int .i64 bT.kind,.int .i64 bT.so,.string bT.name,.slice bal bT.labels.length bcl,.slice bak bT.kids.length bck] 37)).heap.size=w6.heap.size+1 from by simp)
   have HCA:=hideK (fun b o (hb:b<w6.heap.size)=>show (w6.alloc (.cells #[.int .i64 bT.kind,.int .i64 bT.so,.string bT.name,.slice bal bT.labels.length bcl,.slice bak bT.kids.length bck] 37)).cell? ⟨b,o,none⟩=w6.cell? ⟨b,o,none⟩ from ((Below.refl _ w6).alloc (nR _) (.cells #[.int .i64 bT.kind,.int .i64 bT.so,.string bT.name,.slice bal bT.labels.length bcl,.slice bak bT.kids.length bck] 37)).cell (p:=⟨b,o,none⟩) hb)
   have HTA:=hideK (show TyAt (w6.alloc (.cells #[.int .i64 bT.kind,.int .i64 bT.so,.string bT.name,.slice bal bT.labels.length bcl,.slice bak bT.kids.length bck] 37)) w6.heap.size 0 bT bal bcl bak bck from ⟨by go_cell,by go_cell,by go_cell,by go_cell,by go_cell⟩)
   go_upto_region 4 with fail
   generalize w6.alloc (.cells #[.int .i64 bT.kind,.int .i64 bT.so,.string bT.name,.slice bal bT.labels.length bcl,.slice bak bT.kids.length bck] 37)=WA at *;obtain ⟨x0,x1,x2,x3,x4⟩:=QA.out.x;obtain ⟨z0,z1,z2,z3,z4,zf,zl⟩:=QA.out.r;have f0:=zf 0;have f1:=zf 1;have f2:=zf 2;have f3:=zf 3;have f4:=zf 4;simp only [Nat.zero_add]at x1 x2 x3 x4;have FIN:=hideK (QA.out.r.fin t al cl ak ck);clear zf;go_wp2_with fail
   obtain ⟨W9,e9,h9,s9,k9,b9⟩:=FIN.out;change bodyPost _ _ _ _ _ (st5 WA (w.heap.size+1) 0 (.int .i64 t.kind) (.int .i64 t.so) (.string t.name) (.slice al t.labels.length cl) (.slice ak t.kids.length ck))
   rw [e9];obtain ⟨r0,r1,r2,r3,r4⟩:=h9;simp only [Nat.zero_add]at r1 r2 r3 r4;refine bodyPost_ret (v:=.agg #[.int .i64 t.kind,.int .i64 t.so,.string t.name,.slice al t.labels.length cl,.slice ak t.kids.length ck]) (by simp [results,Tryz.results8,go_sem,r0,r1,r2,r3,r4]) rfl ?_
   have hb9:=b9 w (by omega) QA.out.bl
   rw [show asT gr t=t from by unfold asT;rw [if_neg (fun q=>HQ.out q.2)]]
   exact ⟨⟨al,cl,ak,ck,d,rfl,HBD.out,lp_of (fun b hb=>⟨.inl hb,by have:=hb9.size;have:=HB0.out;omega⟩) (HLA.out.keep (hb9.mono HB0.out)),kp_of (fun b hb=>⟨.inl hb,by have:=hb9.size;have:=HB0.out;omega⟩) (HKT.out.keep (hb9.mono HB0.out))⟩,hb9⟩
  ·have HQ:=hideK (show chkTy t=0∧(backP (gr t)).2.2≤60 from ⟨HG.out.chk,by rw [HBP.out];exact hq⟩)
   have HBB:=hideK hbb;have HLP:=hideK hlp;have HKP:=hideK hkp;clear hq hbb hlp hkp;rw [← HBP.out]at HBB HLP HKP ⊢;simp only [tyVal];generalize hbt:(backP (gr t)).1=bT at HBB HLP HKP ⊢;have QA:=hideK (Q6.out.keep ((Below.refl _ w6).alloc (nR _) (.cells #[.int .i64 bT.kind,.int .i64 bT.so,.string bT.name,.slice bal bT.labels.length bcl,.slice bak bT.kids.length bck] 37)));have HSA:=hideK (show (w6.alloc (.cells #[.int .i64 bT.kind,.int .i64 bT.so,.string bT.name,.slice bal bT.labels.length bcl,.slice bak bT.kids.length bck] 37)).heap.size=w6.heap.size+1 from by simp)
   have HCA:=hideK (fun b o (hb:b<w6.heap.size)=>show (w6.alloc (.cells #[.int .i64 bT.kind,.int .i64 bT.so,.string bT.name,.slice bal bT.labels.length bcl,.slice bak bT.kids.length bck] 37)).cell? ⟨b,o,none⟩=w6.cell? ⟨b,o,none⟩ from ((Below.refl _ w6).alloc (nR _) (.cells #[.int .i64 bT.kind,.int .i64 bT.so,.string bT.name,.slice bal bT.labels.length bcl,.slice bak bT.kids.length bck] 37)).cell (p:=⟨b,o,none⟩) hb)
   have HTA:=hideK (show TyAt (w6.alloc (.cells #[.int .i64 bT.kind,.int .i64 bT.so,.string bT.name,.slice bal bT.labels.length bcl,.slice bak bT.kids.length bck] 37)) w6.heap.size 0 bT bal bcl bak bck from ⟨by go_cell,by go_cell,by go_cell,by go_cell,by go_cell⟩)
   go_upto_region 5 with fail
   generalize w6.alloc (.cells #[.int .i64 bT.kind,.int .i64 bT.so,.string bT.name,.slice bal bT.labels.length bcl,.slice bak bT.kids.length bck] 37)=WA at *;obtain ⟨x0,x1,x2,x3,x4⟩:=HTA.out;obtain ⟨z0,z1,z2,z3,z4,zf,zl⟩:=QA.out.r;have f0:=zf 0;have f1:=zf 1;have f2:=zf 2;have f3:=zf 3;have f4:=zf 4;simp only [Nat.zero_add]at x1 x2 x3 x4;have FIN:=hideK (QA.out.r.fin bT bal bcl bak bck);clear zf;go_wp2_with fail
   obtain ⟨W9,e9,h9,s9,k9,b9⟩:=FIN.out;change bodyPost _ _ _ _ _ (st5 WA (w.heap.size+1) 0 (.int .i64 bT.kind) (.int .i64 bT.so) (.string bT.name) (.slice bal bT.labels.length bcl) (.slice bak bT.kids.length bck))
   rw [e9];obtain ⟨r0,r1,r2,r3,r4⟩:=h9;simp only [Nat.zero_add]at r1 r2 r3 r4;refine bodyPost_ret (v:=.agg #[.int .i64 bT.kind,.int .i64 bT.so,.string bT.name,.slice bal bT.labels.length bcl,.slice bak bT.kids.length bck]) (by simp [results,Tryz.results8,go_sem,r0,r1,r2,r3,r4]) rfl ?_
   have hb9:=b9 w (by omega) QA.out.bl
   rw [show asT gr t=bT from by unfold asT;rw [if_pos HQ.out,hbt]]
   have hsz:=HSA.out;have hw1:=QW.out;have hk:∀b o,(w5.heap.size≤b∧b<w6.heap.size)→W9.cell? ⟨b,o,none⟩=w6.cell? ⟨b,o,none⟩:=fun b o hb=>(k9 b o (by omega)).trans (HCA.out b o hb.2)
   have hq:∀b,(w5.heap.size≤b∧b<w6.heap.size)→(b<B0∨w.heap.size≤b)∧b<W9.heap.size:=fun b hb=>⟨.inr (by omega),by omega⟩
   exact ⟨⟨bal,bcl,bak,bck,bd,rfl,HBB.out,HLP.out.keep hk hq,HKP.out.keep hk hq⟩,hb9⟩
structure PrQB(w0:World)(B0:Nat)(W:World)(P:Nat→Prop)(p:Pr)(a:PrA):Prop where
 chan:p.chan.size≤9223372036854775807
 name:p.name.size≤9223372036854775807
 label:p.label.size≤9223372036854775807
 exb:ExBd p.ex a.ec
 exk:∃d,KA w0 B0 d p.ex.kids a.ea
 exs:ExsAt w0 B0 p.exs a.xa a.xc
 nms:NmsAt w0 B0 p.names a.na a.nc
 tyb:TyBd p.ty a.tlc a.tkc
 tyl:LP W P p.ty.labels a.tl
 tyk:∃d,KP W P d p.ty.kids a.tk
 lbs:NmsAt w0 B0 p.labels a.la a.lc
 kl:p.kids.length≤a.kc
 kc:a.kc≤9223372036854775807
theorem PrQB.keep{w0 W W':World}{B0:Nat}{P Q:Nat→Prop}{p:Pr}{a:PrA}(hb:∀b o,P b→W'.cell? ⟨b,o,none⟩=W.cell? ⟨b,o,none⟩)(hq:∀b,P b→Q b)(h:PrQB w0 B0 W P p a):PrQB w0 B0 W' Q p a :=
 ⟨h.chan,h.name,h.label,h.exb,h.exk,h.exs,h.nms,h.tyb,h.tyl.keep hb hq,h.tyk.imp fun _ q=>q.keep hb hq,h.lbs,h.kl,h.kc⟩
def PrQ(w0:World)(B0:Nat)(W:World)(P:Nat→Prop):Nat→Pr→PrA→Prop
 | 0,p,a=>PrQB w0 B0 W P p a∧p.kids=[]
 | d+1,p,a=>PrQB w0 B0 W P p a∧(p.kids=[]∨∃b o,a.ka=some ⟨b,o,none⟩∧P b∧∀i (h:i<p.kids.length),∃a',PrAt W b (o+i*19) p.kids[i] a'∧PrQ w0 B0 W P d p.kids[i] a')
theorem PrQ.keep{w0 W W':World}{B0:Nat}{P Q:Nat→Prop}(hb:∀b o,P b→W'.cell? ⟨b,o,none⟩=W.cell? ⟨b,o,none⟩)(hq:∀b,P b→Q b):∀ {d:Nat} {p:Pr} {a:PrA},PrQ w0 B0 W P d p a→PrQ w0 B0 W' Q d p a
 | 0,_,_,h=>⟨h.1.keep hb hq,h.2⟩
 | d+1,p,a,h=>⟨h.1.keep hb hq,h.2.imp id fun ⟨b,o,e,hp,h⟩=>⟨b,o,e,hq b hp,fun i hi=>by
   obtain ⟨a',h1,h2⟩:=h i hi;exact ⟨a',fun j hj=>(hb _ _ hp).trans (h1 j hj),PrQ.keep hb hq h2⟩⟩⟩
theorem PrQ.ok{w0 W:World}{B0 B:Nat}{P:Nat→Prop}(h0:Below B0 w0 W)(hB:B0≤B)(hP:∀b,P b→b<B):∀ {d:Nat} {p:Pr} {a:PrA},PrQ w0 B0 W P d p a→PrOK W B d p a:=by
 have hb:∀ {p:Pr} {a:PrA},PrQB w0 B0 W P p a→PrB W B p a:=fun h=>⟨h.chan,h.name,h.label,h.exb,h.exk.imp fun _ q=>(KA.keep h0 q).mono hB,(h.exs.keep h0).mono hB,(h.nms.keep h0).mono hB,h.tyb,h.tyl.la hP,h.tyk.imp fun _ q=>q.kt hP,(h.lbs.keep h0).mono hB,h.kl,h.kc⟩
 intro d;induction d with
 | zero=>intro p a h;exact ⟨hb h.1,h.2⟩
 | succ d ih=>intro p a h;exact ⟨hb h.1,h.2.imp id fun ⟨b,o,e,hp,h⟩=>⟨b,o,e,hP b hp,fun i hi=>by
   obtain ⟨a',h1,h2⟩:=h i hi;exact ⟨a',h1,ih h2⟩⟩⟩
def pCs(ts:List (Pr × PrA)):List Value:=ts.flatMap fun t=>prCs t.1 t.2
theorem pCs_app(l m:List (Pr × PrA)):pCs (l++m)=pCs l++pCs m:=by unfold pCs;rw [List.flatMap_append]
theorem prCs_len(d:Pr)(a:PrA):(prCs d a).length=19:=rfl
theorem pCs_at(l:List (Pr × PrA)):∀(i:Nat) (h:i<l.length) (j:Nat),j<19→(pCs l)[i*19+j]? = (prCs l[i].1 l[i].2)[j]?:=by
 induction l with
 | nil=>intro i h;simp at h
 | cons t l ih =>
  intro i h j hj;show (prCs t.1 t.2++pCs l)[i*19+j]? = _
  match i with
  | 0=>rw [Nat.zero_mul,Nat.zero_add,List.getElem?_append_left (by rw [prCs_len];exact hj)];rfl
  | i+1 =>
   rw [List.getElem?_append_right (by rw [prCs_len];omega),prCs_len,show (i+1)*19+j - 19=i*19+j by omega]
   exact ih i (by simpa using h) j hj
theorem pCs_one(l:List (Pr × PrA)):∀u∈pCs l,u.oneCell'=true:=by
 intro u hu;obtain ⟨t,_,ht⟩:=List.mem_flatMap.1 hu;simp only [prCs,List.mem_cons,List.not_mem_nil,or_false]at ht;rcases ht with h|h|h|h|h|h|h|h|h|h|h|h|h|h|h|h|h|h|h <;> (rw [h];rfl)
theorem rowP{w0 W:World}{base B0 D n:Nat}{P:Nat→Prop}{v:Value}{ts:List (Pr × PrA)}(ho:W.ownsRow base 40 19 v n (pCs ts))(hn:ts.length=n)(hok:∀t∈ts,PrQ w0 B0 W P D t.1 t.2)(hv:∀b,v.ownBlock=some b→P b):∃aq cq,v = .slice aq n cq∧n≤cq∧cq≤9223372036854775807∧(ts.map (·.1)=[]∨∃b o,aq=some ⟨b,o,none⟩∧P b∧∀i (h:i<(ts.map (·.1)).length),∃a',PrAt W b (o+i*19) (ts.map (·.1))[i] a'∧PrQ w0 B0 W P D (ts.map (·.1))[i] a'):=by
 subst hn;have hc:=own_cells ho;obtain ⟨_,h⟩:=ho;rcases h with ⟨e,h0⟩|⟨g,cap,cur,e,_,_,q1,q2,_⟩
 ·exact ⟨none,0,by rw [e,h0],by omega,by omega,.inl (by rw [List.length_eq_zero_iff.1 h0];rfl)⟩
 ·refine ⟨_,_,e,q1,q2,.inr ⟨g,0,rfl,hv g (by rw [e];rfl),fun i hi=>?_⟩⟩
  rcases hc with ⟨e2,_⟩|⟨g',cap',e2,_,_,hcc⟩
  ·rw [e]at e2;cases e2
  ·rw [e]at e2;cases e2
   have hi':i<ts.length:=by simpa using hi
   rw [List.getElem_map];refine ⟨ts[i].2,fun j hj=>?_,hok _ (List.getElem_mem hi')⟩
   have hq:=pCs_at ts i hi' j hj;have hlt:j<(prCs ts[i].1 ts[i].2).length:=by rw [prCs_len];exact hj
   rw [List.getElem?_eq_getElem hlt]at hq ⊢;rw [Nat.zero_add];exact hcc _ _ hq
theorem infoPr:(Tryz.prog.info? 40).map (fun i=>(i.zero,i.size,i.bytes))=some (some (.agg #[.int .i64 0,.string ⟨#[]⟩,.string ⟨#[]⟩,.string ⟨#[]⟩,.int .i64 0,.string ⟨#[]⟩,.int .i64 0,.int .i64 0,.string ⟨#[]⟩,.slice none 0 0,.slice none 0 0,.slice none 0 0,.int .i64 0,.int .i64 0,.string ⟨#[]⟩,.slice none 0 0,.slice none 0 0,.slice none 0 0,.slice none 0 0]),19,312):=by kernel_rfl
end Go.Proofs.YtmamabhhgfcjcaaGreatDoor
