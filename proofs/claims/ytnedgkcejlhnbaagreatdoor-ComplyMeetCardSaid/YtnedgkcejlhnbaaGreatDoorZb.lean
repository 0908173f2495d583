/-
  Plain mathematics: a graph that is made of drafts is above both (below both), and below (above) all that is; where anything is, it is there.
-/
import Derived.Test.YtnedgkcejlhnbaaGreatDoorZa
namespace Go.Proofs.YtnedgkcejlhnbaaGreatDoor
def lfL(al:Pz→Bool)(d:Dr):List ByteArray:=((d.labs.zip d.nxt).filter fun e=>al e.2).map (·.1)
structure GP(g h:List Nd)(al:Pz→Bool)(G:List Nd)(pl:Nat→Pz):Prop where
 gn:GN G
 ok:∀x,x<G.length→okZ g h (pl x)
 sp:∀x,x<G.length→0≤(drP g h (pl x)).spare
 gv:∀x,x<G.length→(((drP g h (pl x)).nxt.filter fun q=>!al q).length:Int)≤(drP g h (pl x)).spare
 kd:∀x,x<G.length→(nodeAt G x).kind=(drP g h (pl x)).kind∧(nodeAt G x).so=(drP g h (pl x)).so
 lb:∀x,x<G.length→(nodeAt G x).labs=lfL al (drP g h (pl x))
 tt:∀x,x<G.length→(nodeAt G x).to.map pl=(drP g h (pl x)).nxt.filter al
theorem okP_w{g h:List Nd}{p:Pl}(om:okN (nodeAt g p.1))(on:okN (nodeAt h p.2.1)):okP g h p↔(nodeAt g p.1).kind=(nodeAt h p.2.1).kind∧(nodeAt g p.1).so=(nodeAt h p.2.1).so∧(if wideB (nodeAt g p.1).kind p.2.2=true then ∀l∈(nodeAt g p.1).labs,l∈(nodeAt h p.2.1).labs else ∀l∈(nodeAt h p.2.1).labs,l∈(nodeAt g p.1).labs):=by
 obtain ⟨a,b,t⟩:=p;unfold okP okI;simp only at om on ⊢;cases t with
 | false =>
  simp only [Bool.false_eq_true,if_false];have e:wideB (nodeAt g a).kind false=decide ((nodeAt g a).kind=7):=by unfold wideB;simp
  rw [e];simp only [decide_eq_true_eq]
 | true =>
  simp only [if_true];have e:wideB (nodeAt g a).kind true=decide ((nodeAt g a).kind=6):=by unfold wideB;simp
  rw [e];simp only [decide_eq_true_eq];constructor
  ·rintro ⟨k1,k2,k3⟩
   refine ⟨k1.symm,k2.symm,?_⟩;rw [k1]at k3;by_cases h6:(nodeAt g a).kind=6
   ·rw [if_pos h6];rw [if_neg (by omega)]at k3;exact k3
   ·rw [if_neg h6]
    by_cases h7:(nodeAt g a).kind=7
    ·rw [if_pos h7]at k3;exact k3
    ·intro l hl
     rcases okN_cases on with ⟨_,_,q,_⟩|⟨_,_,q,_⟩|⟨_,_,q,_⟩|⟨q,_⟩
     ·rw [q]at hl;cases hl
     ·rw [q]at hl;cases hl
     ·rw [q]at hl;cases hl
     ·omega
  ·rintro ⟨k1,k2,k3⟩
   refine ⟨k1.symm,k2.symm,?_⟩;by_cases h7:(nodeAt h b).kind=7
   ·rw [if_pos h7];rw [if_neg (by omega)]at k3;exact k3
   ·rw [if_neg h7]
    by_cases h6:(nodeAt g a).kind=6
    ·rw [if_pos h6]at k3;exact k3
    ·intro l hl
     rcases okN_cases om with ⟨_,_,q,_⟩|⟨_,_,q,_⟩|⟨_,_,q,_⟩|⟨q,_⟩
     ·rw [q]at hl;cases hl
     ·rw [q]at hl;cases hl
     ·rw [q]at hl;cases hl
     ·omega
theorem two_of{α : Type}{l:List α}(h:l.length=[capB,dotB].length):∃a b,l=[a,b]:=by
 match l,h with
 | [a,b],_=>exact ⟨a,b,rfl⟩
theorem filter_zip2{α β : Type}(al : β → Bool):∀(ls:List α) (qs:List β),ls.length=qs.length→((ls.zip qs).filter fun e=>al e.2).map (·.2)=qs.filter al
 | [],[],_=>rfl
 | [],_::_,h=>by simp at h
 | _::_,[],h=>by simp at h
 | a::ls,q::qs,h=>by
  rw [List.zip_cons_cons];by_cases hq:al q=true
  ·rw [List.filter_cons_of_pos (by simpa using hq),List.filter_cons_of_pos hq,List.map_cons,filter_zip2 al ls qs (by simpa using h)]
  ·rw [List.filter_cons_of_neg (by simpa using hq),List.filter_cons_of_neg hq,filter_zip2 al ls qs (by simpa using h)]
theorem filter_full{α : Type}(p : α → Bool)(l:List α)(h:(l.filter p).length=l.length):l.filter p=l:=by
 rw [List.filter_eq_self];exact List.length_filter_eq_length_iff.1 h
theorem to_pl{n:Nd}{pl:Nat→Pz}{qs:List Pz}(h:n.to.map pl=qs){x:Nat}{q:Pz}(hq:qs[x]? = some q):x<n.to.length∧pl (toAt n x)=q:=by
 subst h;obtain ⟨h1,e⟩:=List.getElem?_eq_some_iff.1 hq;have h2:x<n.to.length:=by simpa using h1
 refine ⟨h2,?_⟩;rw [← e,List.getElem_map];unfold toAt;rw [List.getElem?_eq_getElem h2];rfl
theorem GP.nst{g h:List Nd}(hg:GN g)(hh:GN h){al:Pz→Bool}{G:List Nd}{pl:Nat→Pz}(H:GP g h al G pl){x:Nat}(hx:x<G.length)(t:Bool):
  (∀w y b,(w,y,b)∈nst (nodeAt G x) t→y<G.length∧(w,pl y)∈dst (drP g h (pl x)))∧∀w q,(w,q)∈dst (drP g h (pl x))→al q=true→∃y b,y<G.length∧pl y=q∧(w,y,b)∈Go.Proofs.YtnedgkcejlhnbaaGreatDoor.nst (nodeAt G x) t:=by
 have K:=kd_any hg hh (H.ok x hx) (H.sp x hx);have ek:=(H.kd x hx).1;have elb:=H.lb x hx;have eto:=H.tt x hx;have on:=H.gn.at_ hx;have ln:=K.ln;have lt:∀ {w y b},(w,y,b)∈Go.Proofs.YtnedgkcejlhnbaaGreatDoor.nst (nodeAt G x) t→y<G.length:=fun h=>nst_lt H.gn hx h
 generalize drP g h (pl x)=d at *;generalize hX:nodeAt G x=X at *;have hlen:X.to.length=(d.nxt.filter al).length:=by have:=congrArg List.length eto;simpa using this
 have case1:∀ws,wrd d.kind d.labs=ws→X.to.length=ws.length→d.nxt.filter al=d.nxt:=fun ws e1 e2=>filter_full _ _ (by rw [← hlen,e2,← e1,ln])
 unfold dst;rcases okN_cases on with ⟨k1,_,l1,t1⟩|⟨k1,_,l1,t1⟩|⟨k1,_,l1,t1⟩|⟨k1,_,l1,t1⟩
 ·have hw:wrd d.kind d.labs=d.labs:=by unfold wrd;rw [if_neg (by omega),if_neg (by omega)]
  constructor
  ·intro w y b hm
   rw [mem_nst (by omega) (by omega),l1]at hm
   obtain ⟨z,hz,_⟩:=hm;simp at hz
  ·intro w q hm ha
   have e:((d.labs.zip d.nxt).filter fun e=>al e.2)=[]:=by
    have:=elb;rw [l1]at this;unfold lfL at this;exact List.map_eq_nil_iff.1 this.symm
   rw [hw]at hm;have:(w,q)∈((d.labs.zip d.nxt).filter fun e=>al e.2):=List.mem_filter.2 ⟨hm,ha⟩
   rw [e]at this;cases this
 ·have hw:wrd d.kind d.labs=[dotB]:=by unfold wrd;rw [if_pos (by omega)]
  rw [hw]at ln;have e:=case1 _ hw t1;rw [e]at eto;obtain ⟨q0,hq0⟩:∃q0,d.nxt=[q0]:=List.length_eq_one_iff.1 ln.symm;rw [hq0]at eto ⊢;obtain ⟨_,p0⟩:=to_pl eto (x:=0) rfl;rw [hw];constructor
  ·intro w y b hm
   have hy:=lt hm;rw [nst_one k1]at hm;simp only [List.mem_singleton,Prod.mk.injEq]at hm;obtain ⟨rfl,rfl,rfl⟩:=hm;rw [p0];exact ⟨hy,.head _⟩
  ·intro w q hm ha
   simp only [List.zip_cons_cons,List.zip_nil_left,List.mem_singleton,Prod.mk.injEq]at hm;obtain ⟨rfl,rfl⟩:=hm;have hmm:(dotB,toAt X 0,t)∈Go.Proofs.YtnedgkcejlhnbaaGreatDoor.nst X t:=by rw [nst_one k1];exact .head _
   exact ⟨_,_,lt hmm,p0,hmm⟩
 ·have hw:wrd d.kind d.labs=[capB,dotB]:=by unfold wrd;rw [if_neg (by omega),if_pos (by omega)]
  rw [hw]at ln;have e:=case1 _ hw t1;rw [e]at eto;obtain ⟨q0,q1,hq0⟩:∃q0 q1,d.nxt=[q0,q1]:=two_of ln.symm;rw [hq0]at eto ⊢;obtain ⟨_,p0⟩:=to_pl eto (x:=0) rfl;obtain ⟨_,p1⟩:=to_pl eto (x:=1) rfl;rw [hw];constructor
  ·intro w y b hm
   have hy:=lt hm;rw [nst_two k1]at hm;simp only [List.mem_cons,List.not_mem_nil,or_false,Prod.mk.injEq]at hm;rcases hm with ⟨rfl,rfl,rfl⟩|⟨rfl,rfl,rfl⟩
   ·rw [p0];exact ⟨hy,.head _⟩
   ·rw [p1];exact ⟨hy,.tail _ (.head _)⟩
  ·intro w q hm ha
   simp only [List.zip_cons_cons,List.zip_nil_left,List.mem_cons,List.not_mem_nil,or_false,Prod.mk.injEq]at hm;rcases hm with ⟨rfl,rfl⟩|⟨rfl,rfl⟩
   ·have hmm:(capB,toAt X 0,t != decide (X.kind=4))∈Go.Proofs.YtnedgkcejlhnbaaGreatDoor.nst X t:=by rw [nst_two k1];exact .head _
    exact ⟨_,_,lt hmm,p0,hmm⟩
   ·have hmm:(dotB,toAt X 1,t)∈Go.Proofs.YtnedgkcejlhnbaaGreatDoor.nst X t:=by rw [nst_two k1];exact .tail _ (.head _)
    exact ⟨_,_,lt hmm,p1,hmm⟩
 ·have hw:wrd d.kind d.labs=d.labs:=by unfold wrd;rw [if_neg (by omega),if_neg (by omega)]
  rw [hw]at ln ⊢;unfold lfL at elb;rw [← filter_zip2 al d.labs d.nxt ln]at eto;constructor
  ·intro w y b hm
   have hy:=lt hm;rw [mem_nst (by omega) (by omega)]at hm
   obtain ⟨z,hz,rfl,rfl⟩:=hm;rw [elb,List.getElem?_map]at hz;obtain ⟨e,he,rfl⟩:=Option.map_eq_some_iff.1 hz;obtain ⟨_,p0⟩:=to_pl eto (x:=z) (q:=e.2) (by rw [List.getElem?_map,he];rfl)
   rw [p0];exact ⟨hy,(List.mem_filter.1 (List.mem_of_getElem? he)).1⟩
  ·intro w q hm ha
   have hf:(w,q)∈((d.labs.zip d.nxt).filter fun e=>al e.2):=List.mem_filter.2 ⟨hm,ha⟩
   obtain ⟨z,hz,e⟩:=List.mem_iff_getElem.1 hf;have hz':=List.getElem?_eq_getElem hz;rw [e]at hz';obtain ⟨_,p0⟩:=to_pl eto (x:=z) (q:=q) (by rw [List.getElem?_map,hz'];rfl)
   have hmm:(w,toAt X z,t)∈Go.Proofs.YtnedgkcejlhnbaaGreatDoor.nst X t:=(mem_nst (by omega) (by omega)).2 ⟨z,by rw [elb,List.getElem?_map,hz'];rfl,rfl,rfl⟩
   exact ⟨_,_,lt hmm,p0,hmm⟩
theorem GP.full{g h:List Nd}{al:Pz→Bool}{G:List Nd}{pl:Nat→Pz}(H:GP g h al G pl){x:Nat}(hx:x<G.length)(h0:(drP g h (pl x)).spare=0)(ln:(wrd (drP g h (pl x)).kind (drP g h (pl x)).labs).length=(drP g h (pl x)).nxt.length)(hk:(drP g h (pl x)).kind=6∨(drP g h (pl x)).kind=7){l:ByteArray}(hl:l∈(drP g h (pl x)).labs):l∈(nodeAt G x).labs:=by
 have gv:=H.gv x hx;rw [H.lb x hx];generalize drP g h (pl x)=d at *;have hw:wrd d.kind d.labs=d.labs:=by unfold wrd;rw [if_neg (by omega),if_neg (by omega)]
 rw [hw]at ln;have e:(d.nxt.filter fun q=>!al q)=[]:=List.length_eq_zero_iff.1 (by omega)
 have ha:∀q∈d.nxt,al q=true:=fun q hq=>by
  have:=List.filter_eq_nil_iff.1 e q hq;simpa using this
 unfold lfL;obtain ⟨i,hi,rfl⟩:=List.mem_iff_getElem.1 hl;have hi2:i<d.nxt.length:=by omega
 refine List.mem_map.2 ⟨(d.labs[i],d.nxt[i]),List.mem_filter.2 ⟨?_,ha _ (List.getElem_mem hi2)⟩,rfl⟩;rw [List.mem_iff_getElem];exact ⟨i,by rw [List.length_zip];omega,by rw [List.getElem_zip]⟩
theorem blP_zero(g h:List Nd)(p:Pl):blP g h 0 p:=by unfold blP;split <;> trivial
theorem up_bl{g h:List Nd}(hg:GN g)(hh:GN h){al:Pz→Bool}{G:List Nd}{pl:Nat→Pz}(H:GP g h al G pl):∀k x,x<G.length→∀ σ,sI (pl x) σ ≠ -1→blP (sG g h σ) G k ((sI (pl x) σ).toNat,x,(pl x).2.2)
 | 0,_,_,_,_=>blP_zero _ _ _
 | k+1,x,hx,σ,hs=>by
  have K:=kd_any hg hh (H.ok x hx) (H.sp x hx);have hi:=(H.ok x hx).lt hs;have oM:okN (nodeAt (sG g h σ) (sI (pl x) σ).toNat):=(H.ok x hx).nd hg hh hs;have oX:=H.gn.at_ hx;obtain ⟨kk,ks⟩:=K.kd σ hs;obtain ⟨gk,gs⟩:=H.kd x hx;have hk:(nodeAt (sG g h σ) (sI (pl x) σ).toNat).kind=(nodeAt G x).kind:=kk.symm.trans gk.symm;refine blP_step (sG_gn hg hh σ) H.gn hi hx ((okP_w oM oX).2 ⟨hk,ks.symm.trans gs.symm,?_⟩) fun s hsm=>?_
  ·simp only
   have elb:=H.lb x hx;have hX:∀l,l∈(nodeAt G x).labs→l∈(drP g h (pl x)).labs:=fun l hl=>by
    rw [elb]at hl;unfold lfL at hl;obtain ⟨e,he,rfl⟩:=List.mem_map.1 hl;exact (List.of_mem_zip (List.mem_filter.1 he).1).1
   split
   ·rename_i hw
    rw [show (nodeAt (sG g h σ) (sI (pl x) σ).toNat).kind=(drP g h (pl x)).kind from kk.symm]at hw
    intro l hl;have hd:=K.wd hw σ hs l hl;exact H.full hx (K.w0 hw) K.ln (wide_kind hw) hd
   ·rename_i hw
    rw [show (nodeAt (sG g h σ) (sI (pl x) σ).toNat).kind=(drP g h (pl x)).kind from kk.symm]at hw
    exact fun l hl=>K.nx (by simpa using hw) l (hX l hl) σ hs
  ·obtain ⟨q1,q2⟩:=(stepsP_iff oM oX hk _ s).1 hsm
   obtain ⟨hy,hd⟩:=(H.nst hg hh hx (pl x).2.2).1 _ _ _ q2;obtain ⟨oq,hq⟩:=K.st _ _ hd;obtain ⟨e1,e2⟩:=(hq σ).2 hs _ _ q1;have:=up_bl hg hh H k s.2.2.1 hy σ (by rw [e1];omega)
   rw [e1,e2]at this;simpa using this
def hasB(g h c:List Nd)(q:Pz):Prop:=∃m,m<c.length∧∀ σ,sI q σ ≠ -1→∀k,blP (sG g h σ) c k ((sI q σ).toNat,m,q.2.2)
theorem next_hasB{g h c:List Nd}(hg:GN g)(hh:GN h)(hc:GN c){p:Pz}(o:okZ g h p)(hs:0≤(drP g h p).spare){m:Nat}(hm:m<c.length)(hb:∀ σ,sI p σ ≠ -1→∀k,blP (sG g h σ) c k ((sI p σ).toNat,m,p.2.2)){w:ByteArray}{q:Pz}(hd:(w,q)∈dst (drP g h p)){v:Nat}{b:Bool}(hv:(w,v,b)∈nst (nodeAt c m) p.2.2):
  v<c.length∧q.2.2=b∧∀ σ,sI q σ ≠ -1→∀k,blP (sG g h σ) c k ((sI q σ).toNat,v,q.2.2):=by
 have K:=kd_any hg hh o hs;obtain ⟨oq,hq⟩:=K.st _ _ hd;have key:∀ σ,sI q σ ≠ -1→q.2.2=b∧∀k,blP (sG g h σ) c k ((sI q σ).toNat,v,q.2.2):=fun σ hσ => by
  obtain ⟨hp,hn⟩:=(hq σ).1 hσ;have h1:=(blP_next (hb σ hp 1)).1;have oM:okN (nodeAt (sG g h σ) (sI p σ).toNat):=o.nd hg hh hp;have hk:=((okP_w oM (hc.at_ hm)).1 h1).1;have hf:=nst_flag hk hn hv;refine ⟨hf,fun k=>?_⟩
  exact (blP_next (hb σ hp (k+1))).2 (w,(sI q σ).toNat,v,q.2.2) ((stepsP_iff oM (hc.at_ hm) hk _ _).2 ⟨hn,by rw [hf];exact hv⟩)
 obtain ⟨σ,hσ⟩:=oq.2;exact ⟨nst_lt hc hm hv,(key σ hσ).1,fun τ hτ => (key τ hτ).2⟩
theorem low_bl{g h c:List Nd}(hg:GN g)(hh:GN h)(hc:GN c){al:Pz→Bool}{G:List Nd}{pl:Nat→Pz}(H:GP g h al G pl)(hA:∀x,x<G.length→∀w q,(w,q)∈dst (drP g h (pl x))→hasB g h c q→al q=true):
  ∀k x m,x<G.length→m<c.length→(∀ σ,sI (pl x) σ ≠ -1→∀k,blP (sG g h σ) c k ((sI (pl x) σ).toNat,m,(pl x).2.2))→blP G c k (x,m,(pl x).2.2)
 | 0,_,_,_,_,_=>blP_zero _ _ _
 | k+1,x,m,hx,hm,hb=>by
  have o:=H.ok x hx;have hs:=H.sp x hx;have K:=kd_any hg hh o hs;have oX:=H.gn.at_ hx;have oC:=hc.at_ hm;obtain ⟨σ0,hσ0⟩:=o.2;obtain ⟨kk,ks⟩:=K.kd σ0 hσ0;obtain ⟨gk,gs⟩:=H.kd x hx;have side:∀ σ,sI (pl x) σ ≠ -1→(sN g h (pl x) σ).kind=(nodeAt c m).kind∧(sN g h (pl x) σ).so=(nodeAt c m).so∧(if wideB (sN g h (pl x) σ).kind (pl x).2.2=true then ∀l∈(sN g h (pl x) σ).labs,l∈(nodeAt c m).labs else ∀l∈(nodeAt c m).labs,l∈(sN g h (pl x) σ).labs):=fun σ hσ => (okP_w (p:=((sI (pl x) σ).toNat,m,(pl x).2.2)) (o.nd hg hh hσ) oC).1 (blP_next (hb σ hσ 1)).1
  obtain ⟨s1,s2,s3⟩:=side σ0 hσ0;have hk:(nodeAt G x).kind=(nodeAt c m).kind:=gk.trans (kk.trans s1);refine blP_step H.gn hc hx hm ((okP_w oX oC).2 ⟨hk,gs.trans (ks.trans s2),?_⟩) fun s hsm=>?_
  ·simp only
   have eX:(nodeAt G x).kind=(drP g h (pl x)).kind:=gk;split
   ·rename_i hw
    intro l hl;have hk6:=wide_kind hw;obtain ⟨u,b,hu⟩:=(nst_lab (t:=(pl x).2.2) hk6).2 hl;obtain ⟨_,hd⟩:=(H.nst hg hh hx _).1 _ _ _ hu;obtain ⟨oq,hq⟩:=K.st _ _ hd;obtain ⟨σ,hσ⟩:=oq.2;obtain ⟨hp,hn⟩:=(hq σ).1 hσ;obtain ⟨t1,t2,t3⟩:=side σ hp;have e1:(sN g h (pl x) σ).kind=(nodeAt G x).kind:=t1.trans hk.symm;rw [e1,if_pos hw]at t3;exact t3 l ((nst_lab (by rw [e1];exact hk6)).1 ⟨_,_,hn⟩)
   ·rename_i hw
    intro l hl;have hk6:(nodeAt c m).kind=6∨(nodeAt c m).kind=7:=by
     rcases okN_cases oC with ⟨_,_,q,_⟩|⟨_,_,q,_⟩|⟨_,_,q,_⟩|⟨q,_⟩
     ·rw [q]at hl;cases hl
     ·rw [q]at hl;cases hl
     ·rw [q]at hl;cases hl
     ·exact q
    have hall:∀ σ,sI (pl x) σ ≠ -1→l∈(sN g h (pl x) σ).labs:=fun σ hσ => by
     obtain ⟨t1,t2,t3⟩:=side σ hσ;have e1:(sN g h (pl x) σ).kind=(nodeAt G x).kind:=t1.trans hk.symm;rw [e1,if_neg hw]at t3;exact t3 l hl
    have hld:=K.nw (by rw [← eX];simpa using hw) l hall
    have hwd:wrd (drP g h (pl x)).kind (drP g h (pl x)).labs=(drP g h (pl x)).labs:=by unfold wrd;rw [if_neg (by omega),if_neg (by omega)]
    have ln:=K.ln;rw [hwd]at ln;obtain ⟨i,hi,rfl⟩:=List.mem_iff_getElem.1 hld;have hi2:i<(drP g h (pl x)).nxt.length:=by omega
    have hd:((drP g h (pl x)).labs[i],(drP g h (pl x)).nxt[i])∈dst (drP g h (pl x)):=by
     unfold dst;rw [hwd,List.mem_iff_getElem];exact ⟨i,by rw [List.length_zip];omega,by rw [List.getElem_zip]⟩
    obtain ⟨v,b,hv⟩:=(nst_lab (t:=(pl x).2.2) hk6).2 hl;obtain ⟨v1,v2,v3⟩:=next_hasB hg hh hc o hs hm hb hd hv;obtain ⟨y,b',hy,_,hyn⟩:=(H.nst hg hh hx (pl x).2.2).2 _ _ hd (hA x hx _ _ hd ⟨v,v1,v3⟩);exact (nst_lab (by rw [hk];exact hk6)).1 ⟨_,_,hyn⟩
  ·obtain ⟨q1,q2⟩:=(stepsP_iff oX oC hk _ s).1 hsm
   obtain ⟨hy,hd⟩:=(H.nst hg hh hx (pl x).2.2).1 _ _ _ q1;obtain ⟨v1,v2,v3⟩:=next_hasB hg hh hc o hs hm hb hd q2;have:=low_bl hg hh hc H hA k s.2.1 s.2.2.1 hy v1 v3;rw [v2]at this;exact this
def NoB(g h c:List Nd)(S:Pz→Bool):Prop:=∀q,S q=true↔sI q false≠-1∧sI q true≠-1∧¬hasB g h c q
theorem noB_ex(g h c:List Nd):∃S,NoB g h c S:=⟨fun q=>@decide _ (Classical.propDecidable (sI q false≠-1∧sI q true≠-1∧¬hasB g h c q)),fun _=>Iff.intro (fun h=>@of_decide_eq_true _ (Classical.propDecidable _) h) (fun h=>@decide_eq_true _ (Classical.propDecidable _) h)⟩
theorem nodup_sub{α : Type} [DecidableEq α]:∀(l l':List α),l.Nodup→(∀x∈l,x∈l')→l.length≤l'.length
 | [],_,_,_=>Nat.zero_le _
 | a::l,l',hn,hs=>by
  have ha:=hs a (.head _);have hn':=List.nodup_cons.1 hn;have:=nodup_sub l (l'.erase a) hn'.2 fun x hx=>(List.mem_erase_of_ne (fun e:x=a=>hn'.1 (by rw [← e];exact hx))).2 (hs x (.tail _ hx))
  have h2:=List.length_erase_of_mem ha;have h3:=List.length_pos_of_mem ha;simp only [List.length_cons];omega
theorem noB_closed{g h c:List Nd}(hg:GN g)(hh:GN h)(hc:GN c){S:Pz→Bool}(hS:NoB g h c S)(huni:∀m n:Nd,(uniL m n).Nodup){p:Pz}(o:okZ g h p)(hn:S p=false):0≤(drP g h p).spare∧(((drP g h p).nxt.filter S).length:Int)≤(drP g h p).spare:=by
 have none_of:∀d:Dr,(∀q∈d.nxt,S q=false)→d.nxt.filter S=[]:=fun d hd=>List.filter_eq_nil_iff.2 fun q hq=>by rw [hd q hq];simp
 unfold drP;by_cases h2:p.2.1 = -1
 ·rw [if_pos h2,none_of]
  ·exact ⟨by show (0:Int)≤0;omega,by show (0:Int)≤0;omega⟩
  ·intro q hq
   obtain ⟨s,_,rfl⟩:=List.mem_map.1 hq;rw [Bool.eq_false_iff,Ne,hS];exact fun q=>q.2.1 rfl
 ·rw [if_neg h2]
  by_cases h1:p.1 = -1
  ·rw [if_pos h1,none_of]
   ·exact ⟨by show (0:Int)≤0;omega,by show (0:Int)≤0;omega⟩
   ·intro q hq
    obtain ⟨s,_,rfl⟩:=List.mem_map.1 hq;rw [Bool.eq_false_iff,Ne,hS];exact fun q=>q.1 rfl
  ·rw [if_neg h1]
   have hB:hasB g h c p:=Classical.byContradiction fun q=>by
    rw [(hS p).2 ⟨h1,h2,q⟩]at hn;cases hn
   obtain ⟨m,hm,hb⟩:=hB;have oM:okN (sN g h p false):=o.nd hg hh (σ:=false) h1;have oN:okN (sN g h p true):=o.nd hg hh (σ:=true) h2;have oC:=hc.at_ hm;obtain ⟨a1,a2,a3⟩:=(okP_w (p:=((sI p false).toNat,m,p.2.2)) oM oC).1 (blP_next (hb false h1 1)).1;obtain ⟨b1,b2,b3⟩:=(okP_w (p:=((sI p true).toNat,m,p.2.2)) oN oC).1 (blP_next (hb true h2 1)).1;have a3':if wideB (sN g h p false).kind p.2.2=true then ∀l∈(sN g h p false).labs,l∈(nodeAt c m).labs else ∀l∈(nodeAt c m).labs,l∈(sN g h p false).labs:=a3
   have b3':if wideB (sN g h p true).kind p.2.2=true then ∀l∈(sN g h p true).labs,l∈(nodeAt c m).labs else ∀l∈(nodeAt c m).labs,l∈(sN g h p true).labs:=b3
   have hk:(sN g h p false).kind=(sN g h p true).kind:=a1.trans b1.symm;have hso:(sN g h p false).so=(sN g h p true).so:=a2.trans b2.symm;have kc:(sN g h p false).kind=(nodeAt c m).kind:=a1;have edr:drP g h p=drMN (sN g h p false) (sN g h p true) p.2.2:=by unfold drP;rw [if_neg h2,if_neg h1];rfl
   have nxt:0≤(drP g h p).spare→∀w q v b,(w,q)∈dst (drP g h p)→(w,v,b)∈nst (nodeAt c m) p.2.2→S q=false:=fun hs w q v b hd hv=>by
    obtain ⟨v1,_,v3⟩:=next_hasB hg hh hc o hs hm hb hd hv;rw [Bool.eq_false_iff,Ne,hS];exact fun q=>q.2.2 ⟨v,v1,v3⟩
   have dpos:∀q,q∈(drP g h p).nxt→0≤(drP g h p).spare→∃w,(w,q)∈dst (drP g h p):=fun q hq hs=>by
    have ln:=(kd_any hg hh o hs).ln;obtain ⟨i,hi,rfl⟩:=List.mem_iff_getElem.1 hq;exact ⟨(wrd (drP g h p).kind (drP g h p).labs)[i]'(by omega),by
     unfold dst;rw [List.mem_iff_getElem];exact ⟨i,by rw [List.length_zip];omega,by rw [List.getElem_zip]⟩⟩
   have goal:∀d,drP g h p=d→0≤d.spare∧((d.nxt.filter S).length:Int)≤d.spare:=fun d hd=>by
    by_cases hw:wideB (sN g h p false).kind p.2.2=true
    ·have hk6:=wide_kind hw
     rw [if_pos hw]at a3';rw [← hk,if_pos hw]at b3';have hlen:(uniL (sN g h p false) (sN g h p true)).length≤6:=by
      have:=nodup_sub _ (nodeAt c m).labs (huni (sN g h p false) (sN g h p true)) fun l hl=>(mem_uniL.1 hl).elim (a3' l) (b3' l)
      have h6:=(shp_len (okN_shp oC)).1;omega
     have e:drP g h p=⟨(sN g h p false).kind,0,uniL (sN g h p false) (sN g h p true),(uniL (sN g h p false) (sN g h p true)).map fun l=>(behI (sN g h p false) l,behI (sN g h p true) l,p.2.2),0⟩:=by
      rw [edr];unfold drMN;rw [if_neg (by rw [hk,hso];simp),if_pos hw]
      unfold eithD;rw [if_neg (by omega)]
     have hs:0≤(drP g h p).spare:=by rw [e];exact Int.le_refl 0
     rw [← hd,none_of]
     ·exact ⟨hs,by rw [e];exact Int.le_refl 0⟩
     ·intro q hq
      obtain ⟨w,hwd⟩:=dpos q hq hs;have hwl:w∈(drP g h p).labs:=by
       have:=(List.of_mem_zip hwd).1;rw [e]at this ⊢;unfold wrd at this;rw [if_neg (by simp only;omega),if_neg (by simp only;omega)]at this
       exact this
      rw [e]at hwl;have hcl:w∈(nodeAt c m).labs:=(mem_uniL.1 hwl).elim (a3' w) (b3' w);obtain ⟨v,b,hv⟩:=(nst_lab (n:=nodeAt c m) (t:=p.2.2) (by rw [← kc];exact hk6)).2 hcl
      exact nxt hs w q v b hwd hv
    ·rw [if_neg hw]at a3'
     rw [← hk,if_neg hw]at b3';have e:drP g h p=bothD (sN g h p false) (sN g h p true) p.2.2:=by
      rw [edr];unfold drMN;rw [if_neg (by rw [hk,hso];simp),if_neg hw]
     by_cases h0:(sN g h p false).labs.length=0
     ·have hs0:(drP g h p).spare=0:=by rw [e];unfold bothD;simp only;rw [if_pos h0]
      rw [← hd,none_of]
      ·exact ⟨by omega,by rw [hs0];exact Int.le_refl 0⟩
      ·intro q hq
       obtain ⟨w,hwd⟩:=dpos q hq (by omega)
       have hd2:=hwd;rw [e,dst_both oM,List.mem_map]at hd2;obtain ⟨s,hs1,e1⟩:=hd2;simp only [Prod.mk.injEq]at e1;obtain ⟨rfl,rfl⟩:=e1;obtain ⟨q1,_⟩:=(stepsP_iff oM oN hk _ s).1 hs1;obtain ⟨v,hv⟩:=nst_word kc (List.length_eq_zero_iff.1 h0) q1;exact nxt (by omega) _ _ v _ hwd hv
     ·have hk6:(sN g h p false).kind=6∨(sN g h p false).kind=7:=by
       rcases okN_cases oM with ⟨_,_,q,_⟩|⟨_,_,q,_⟩|⟨_,_,q,_⟩|⟨q,_⟩
       ·rw [q]at h0;exact absurd rfl h0
       ·rw [q]at h0;exact absurd rfl h0
       ·rw [q]at h0;exact absurd rfl h0
       ·exact q
      have hcl:0<(nodeAt c m).labs.length:=by
       rcases okN_cases oC with ⟨q,_⟩|⟨q,_⟩|⟨q,_⟩|⟨_,_,q,_⟩
       ·omega
       ·omega
       ·omega
       ·unfold labsOK at q
        rw [Bool.and_eq_true,decide_eq_true_eq]at q;omega
      have hl:=List.getElem_mem hcl;obtain ⟨u,b,hu⟩:=(nst_lab (t:=p.2.2) hk6).2 (a3' _ hl);obtain ⟨u',b',hu'⟩:=(nst_lab (n:=sN g h p true) (t:=p.2.2) (by rw [← hk];exact hk6)).2 (b3' _ hl)
      obtain ⟨v,b2,hv⟩:=(nst_lab (n:=nodeAt c m) (t:=p.2.2) (by rw [← kc];exact hk6)).2 hl
      obtain rfl:=nst_flag hk hu hu';have hst:=(stepsP_iff oM oN hk p.2.2 ((nodeAt c m).labs[0],u,u',b)).2 ⟨hu,hu'⟩;have hlp:=List.length_pos_of_mem hst;have hsp:(drP g h p).spare=((stepsP (sN g h p false) (sN g h p true) p.2.2).length:Int) - 1:=by rw [e];unfold bothD;simp only;rw [if_neg h0]
      have hs:0≤(drP g h p).spare:=by omega
      have hin:zC ((nodeAt c m).labs[0],u,u',b)∈(drP g h p).nxt:=by rw [e];exact List.mem_map.2 ⟨_,hst,rfl⟩
      have hnot:=nxt hs (nodeAt c m).labs[0] (zC ((nodeAt c m).labs[0],u,u',b)) v b2 (by rw [e,dst_both oM];exact List.mem_map.2 ⟨_,hst,rfl⟩) hv
      have hlt:=(List.length_filter_lt_length_iff_exists (p:=S)).2 ⟨_,hin,by rw [hnot];simp⟩
      have hnl:(drP g h p).nxt.length=(stepsP (sN g h p false) (sN g h p true) p.2.2).length:=by rw [e];unfold bothD;simp
      rw [← hd];exact ⟨hs,by omega⟩
   exact goal _ (by unfold drP;rw [if_neg h2,if_neg h1])
end Go.Proofs.YtnedgkcejlhnbaaGreatDoor
