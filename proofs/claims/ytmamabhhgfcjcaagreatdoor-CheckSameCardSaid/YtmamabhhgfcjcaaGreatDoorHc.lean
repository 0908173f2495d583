/-
  Plain mathematics: classes that are split no more are those of nodes that do the same, for ever.
-/
import Derived.Test.YtmamabhhgfcjcaaGreatDoorHa
namespace Go.Proofs.YtmamabhhgfcjcaaGreatDoor
def patG(g:List Nd)(k:Nat)(c:List Nat):Prop:=c.length=g.length∧∀i j,i<g.length→j<g.length→(clAt c i=clAt c j↔gT g k i=gT g k j)
structure CLS(g:List Nd)(c:List Nat):Prop where
 len:c.length=g.length
 lt:∀i,i<g.length→clAt c i<g.length
 eq:∀i j,i<g.length→j<g.length→(clAt c i=clAt c j↔alikeG g g i j)
theorem pat_zero(g:List Nd):patG g 0 (List.replicate g.length 0):=by
 refine ⟨by simp,fun i j hi hj=>⟨fun _=>rfl,fun _=>?_⟩⟩
 unfold clAt;rw [List.getElem?_eq_getElem (by simpa using hi),List.getElem?_eq_getElem (by simpa using hj)]
 simp
theorem cnt_zero:∀n,0<n→cnt (List.replicate n 0)=1
 | 1,_=>by rfl
 | n+2,_=>by
  rw [List.replicate_succ',cnt_snoc,cnt_zero (n+1) (by omega),if_pos (by simp)]
theorem labs_inj(l l':List ByteArray):l.map (·.data.toList)=l'.map (·.data.toList)↔l=l':=by
 constructor
 ·intro h
  refine (List.map_inj_right ?_).1 h;intro a b e;exact ByteArray.ext (Array.toList_inj.1 e)
 ·intro h;rw [h]
theorem pat_split{g:List Nd}(hs:shutG g){k:Nat}{c:List Nat}(h:patG g k c):patG g (k+1) (splitG g c).2:=by
 refine ⟨(split_inv g c).len,fun i j hi hj=>?_⟩
 rw [split_eq g c i j hi hj,gT_eq_iff,nodeAt_lt g i hi,nodeAt_lt g j hj];unfold keyOfN;simp only [Prod.mk.injEq,labs_inj];refine and_congr_right fun _=>and_congr_right fun _=>and_congr_right fun _=>⟨fun e=>?_,fun e=>?_⟩
 ·exact map_eq_of2 _ _ _ _ _ _ (fun a ha b hb hab=>(h.2 a b (hs _ (List.getElem_mem hi) a ha) (hs _ (List.getElem_mem hj) b hb)).1 hab) e
 ·exact map_eq_of2 _ _ _ _ _ _ (fun a ha b hb hab=>(h.2 a b (hs _ (List.getElem_mem hi) a ha) (hs _ (List.getElem_mem hj) b hb)).2 hab) e
theorem count_imp{α : Type}(p q : α → Bool):∀l:List α,(∀a∈l,p a=true→q a=true)→l.countP p=l.countP q→∀a∈l,q a=true→p a=true
 | [],_,_,a,ha,_=>by cases ha
 | x::l,h,e,a,ha,hq=>by
  have hm:=List.countP_mono_left (fun a ha=>h a (List.mem_cons_of_mem x ha))
  rw [List.countP_cons,List.countP_cons]at e;have hx:=h x (.head _);by_cases h1:p x=true
  ·rw [if_pos h1,if_pos (hx h1)]at e
   rcases List.mem_cons.1 ha with rfl|ha
   ·exact h1
   ·exact count_imp p q l (fun a ha=>h a (.tail _ ha)) (by omega) a ha hq
  ·by_cases h2:q x=true
   ·rw [if_neg h1,if_pos h2]at e;omega
   ·rw [if_neg h1,if_neg h2]at e
    rcases List.mem_cons.1 ha with rfl|ha
    ·exact absurd hq h2
    ·exact count_imp p q l (fun a ha=>h a (.tail _ ha)) (by omega) a ha hq
theorem mem_take(c:List Nat)(i:Nat)(hi:i<c.length)(x:Nat):x∈c.take i↔∃j,j<i∧clAt c j=x:=by
 rw [List.mem_iff_getElem];constructor
 ·rintro ⟨j,hj,rfl⟩
  have hj':j<i∧j<c.length:=by rw [List.length_take]at hj;omega
  refine ⟨j,hj'.1,?_⟩;unfold clAt;rw [List.getElem?_eq_getElem hj'.2,List.getElem_take];rfl
 ·rintro ⟨j,hj,rfl⟩
  have hjl:j<c.length:=by omega
  refine ⟨j,by simp;omega,?_⟩
  unfold clAt;rw [List.getElem?_eq_getElem hjl,List.getElem_take];rfl
theorem first_of(f:List Nat):∀i,i<f.length→∃r,r≤i∧clAt f r=clAt f i∧clAt f r ∉ f.take r:=by
 intro i;induction i using Nat.strongRecOn with
 | _ i ih =>
  intro hi;by_cases h:clAt f i∈f.take i
  ·obtain ⟨j,hj,e⟩:=(mem_take f i hi _).1 h
   obtain ⟨r,hr,er,hf⟩:=ih j hj (by omega)
   exact ⟨r,by omega,er.trans e,hf⟩
  ·exact ⟨i,Nat.le_refl _,rfl,h⟩
theorem cnt_stable(c f:List Nat)(hl:f.length=c.length)(href:∀i j,i<c.length→j<c.length→clAt f i=clAt f j→clAt c i=clAt c j)(hcnt:cnt f=cnt c)(i j:Nat)(hi:i<c.length)(hj:j<c.length)(e:clAt c i=clAt c j):clAt f i=clAt f j:=by
 have himp:∀r,r<c.length→clAt c r ∉ c.take r→clAt f r ∉ f.take r:=by
  intro r hr h hm;obtain ⟨q,hq,eq⟩:=(mem_take f r (by omega) _).1 hm
  exact h ((mem_take c r hr _).2 ⟨q,hq,href q r (by omega) hr eq⟩)
 have hback:∀r,r<c.length→clAt f r ∉ f.take r→clAt c r ∉ c.take r:=by
  unfold cnt at hcnt;rw [hl]at hcnt;have:=count_imp (fun i=>decide ((c[i]?).getD 0 ∉ c.take i)) (fun i=>decide ((f[i]?).getD 0 ∉ f.take i)) (List.range c.length) (fun a ha h=>by
   have ha':a<c.length:=by simpa using ha
   exact decide_eq_true (himp a ha' (of_decide_eq_true h))) hcnt.symm
  intro r hr h;exact of_decide_eq_true (this r (by simpa using hr) (decide_eq_true h))
 obtain ⟨r,hr,er,hfr⟩:=first_of f i (by omega)
 obtain ⟨q,hq,eq,hfq⟩:=first_of f j (by omega)
 have h1:=hback r (by omega) hfr
 have h2:=hback q (by omega) hfq
 have ec:clAt c r=clAt c q:=(href r i (by omega) hi er).trans (e.trans (href q j (by omega) hj eq).symm)
 have:r=q:=by
  rcases Nat.lt_trichotomy r q with h|h|h
  ·exact absurd ((mem_take c q (by omega) _).2 ⟨r,h,ec⟩) h2
  ·exact h
  ·exact absurd ((mem_take c r (by omega) _).2 ⟨q,h,ec.symm⟩) h1
 subst this;exact er.symm.trans eq
theorem cnt_le(c:List Nat):cnt c≤c.length:=by
 unfold cnt;refine Nat.le_trans List.countP_le_length ?_;simp
theorem cnt_mono(c f:List Nat)(hl:f.length=c.length)(href:∀i j,i<c.length→j<c.length→clAt f i=clAt f j→clAt c i=clAt c j):cnt c≤cnt f:=by
 unfold cnt;rw [hl];refine List.countP_mono_left fun a ha h=>?_
 have ha':a<c.length:=by simpa using ha
 refine decide_eq_true fun hm=>of_decide_eq_true h ?_
 obtain ⟨q,hq,eq⟩:=(mem_take f a (by omega) _).1 hm
 exact (mem_take c a ha' _).2 ⟨q,hq,href q a (by omega) ha' eq⟩
theorem pat_refine{g:List Nd}{k:Nat}{c f:List Nat}(hc:patG g k c)(hf:patG g (k+1) f):∀i j,i<c.length→j<c.length→clAt f i=clAt f j→clAt c i=clAt c j:=by
 intro i j hi hj e;rw [hc.1]at hi hj;exact (hc.2 i j hi hj).2 (gT_down g g k i j ((hf.2 i j hi hj).1 e))
theorem cls_done{g:List Nd}(hs:shutG g){k:Nat}{c:List Nat}(hc:patG g k c)(he:(splitG g c).1.length=cnt c):CLS g (splitG g c).2:=by
 have hf:=pat_split hs hc;have hl:(splitG g c).2.length=c.length:=by rw [hf.1,hc.1]
 have href:=pat_refine hc hf;have hcn:=(split_inv g c).cn;have hst:=cnt_stable c (splitG g c).2 hl href (by omega)
 have hup:∀m i j,i<g.length→j<g.length→gT g k i=gT g k j→gT g (k+m) i=gT g (k+m) j:=by
  intro m;induction m with
  | zero=>intro i j _ _ e;exact e
  | succ m ih =>
   intro i j hi hj e;have e1:gT g (k+1) i=gT g (k+1) j:=(hf.2 i j hi hj).1 (hst i j (by rw [hc.1];exact hi) (by rw [hc.1];exact hj) ((hc.2 i j hi hj).2 e))
   rw [gT_eq_iff]at e1;rw [← Nat.add_assoc,gT_eq_iff];refine ⟨e1.1,e1.2.1,e1.2.2.1,map_eq_of2 _ _ _ _ _ _ (fun a ha b hb hab=>ih a b (shut_at hs i a ha) (shut_at hs j b hb) hab) e1.2.2.2⟩
 refine ⟨hf.1,fun i hi=>?_,fun i j hi hj=>⟨fun e m=>?_,fun e=>(hf.2 i j hi hj).2 (e (k+1))⟩⟩
 ·have h1:=split_lt g c i hi
  have h2:=cnt_le c;rw [hc.1]at h2;omega
 ·have e1:=hup m i j hi hj (gT_down g g k i j ((hf.2 i j hi hj).1 e))
  rw [Nat.add_comm]at e1;exact gT_downs g g i j k m e1
theorem cls_more{g:List Nd}(hs:shutG g){k:Nat}{c:List Nat}(hc:patG g k c)(hne:(splitG g c).1.length≠cnt c):cnt c<(splitG g c).1.length∧(splitG g c).1.length≤g.length:=by
 have hf:=pat_split hs hc;have hcn:=(split_inv g c).cn;have h1:=cnt_mono c (splitG g c).2 (by rw [hf.1,hc.1]) (pat_refine hc hf)
 have h2:=cnt_le (splitG g c).2;rw [hf.1]at h2;omega
def addR(c R:List Nat)(t:Nat):List Nat:=if clAt c t∈R.map (clAt c) then R else R++[t]
def idxR(c R:List Nat)(t:Nat):Nat:=(R.map (clAt c)).idxOf (clAt c t)
def lstR(g:List Nd)(c:List Nat):Nat→Nat→List Nat→List Nat
 | 0,_,R=>R
 | f+1,m,R=>match R[m]? with
  | none=>R
  | some i=>lstR g c f (m+1) ((nodeAt g i).to.foldl (addR c) R)
def mkN(g:List Nd)(c R:List Nat)(i:Nat):Nd:=⟨(nodeAt g i).kind,(nodeAt g i).so,(nodeAt g i).labs,(nodeAt g i).to.map (idxR c R)⟩
def leastG(g:List Nd)(c:List Nat):List Nd:=(lstR g c g.length 0 [0]).map (mkN g c (lstR g c g.length 0 [0]))
structure RInv(g:List Nd)(c R:List Nat)(m:Nat):Prop where
 hd:R[0]? = some 0
 lt:∀i∈R,i<g.length
 nd:(R.map (clAt c)).Nodup
 sh:∀k (h:k<R.length),k<m→∀t∈(nodeAt g R[k]).to,clAt c t∈R.map (clAt c)
theorem nodup_le:∀(n:Nat) (l:List Nat),l.Nodup→(∀x∈l,x<n)→l.length≤n
 | 0,l,_,h=>by
  cases l with
  | nil=>simp
  | cons a l=>exact absurd (h a (.head _)) (Nat.not_lt_zero _)
 | n+1,l,hn,h=>by
  have h1:(l.erase n).Nodup:=hn.erase n;have h2:∀x∈l.erase n,x<n:=fun x hx=>by
   have:=(hn.mem_erase_iff).1 hx;have:=h x this.2;omega
  have:=nodup_le n _ h1 h2;have h3:=List.length_erase (a:=n) (l:=l);split at h3 <;> omega
theorem RInv.len{g:List Nd}{c R:List Nat}{m:Nat}(h:RInv g c R m)(hc:CLS g c):R.length≤g.length:=by
 have:=nodup_le g.length (R.map (clAt c)) h.nd (fun x hx=>by
  obtain ⟨i,hi,rfl⟩:=List.mem_map.1 hx;exact hc.lt i (h.lt i hi))
 simpa using this
theorem RInv.pos{g:List Nd}{c R:List Nat}{m:Nat}(h:RInv g c R m):0<R.length:=by
 rcases Nat.eq_zero_or_pos R.length with h0|h0
 ·have:=h.hd;rw [List.getElem?_eq_none (by omega)]at this;cases this
 ·exact h0
theorem addR_mem(c R:List Nat)(t:Nat):clAt c t∈(addR c R t).map (clAt c):=by
 unfold addR;split
 ·assumption
 ·simp
theorem addR_pre(c R:List Nat)(t:Nat):∃e,addR c R t=R++e:=by
 unfold addR;split
 ·exact ⟨[],by simp⟩
 ·exact ⟨[t],rfl⟩
theorem fold_pre(c:List Nat):∀(ts R:List Nat),∃e,ts.foldl (addR c) R=R++e
 | [],R=>⟨[],by simp⟩
 | t::ts,R=>by
  obtain ⟨e1,h1⟩:=addR_pre c R t;obtain ⟨e2,h2⟩:=fold_pre c ts (addR c R t);exact ⟨e1++e2,by rw [List.foldl_cons,h2,h1,List.append_assoc]⟩
theorem fold_mem(c:List Nat):∀(ts R:List Nat),∀t∈ts,clAt c t∈(ts.foldl (addR c) R).map (clAt c)
 | [],_,t,h=>by cases h
 | s::ts,R,t,h=>by
  rcases List.mem_cons.1 h with rfl|h
  ·obtain ⟨e,he⟩:=fold_pre c ts (addR c R t)
   rw [List.foldl_cons,he,List.map_append];exact List.mem_append_left _ (addR_mem c R t)
  ·exact fold_mem c ts _ t h
theorem RInv.pre{g:List Nd}{c R:List Nat}{m:Nat}(h:RInv g c R m){e:List Nat}(hl:∀i∈R++e,i<g.length)(hn:((R++e).map (clAt c)).Nodup)(hm:m≤R.length):RInv g c (R++e) m:=by
 refine ⟨?_,hl,hn,fun k hk hkm t ht=>?_⟩
 ·rw [List.getElem?_append_left h.pos];exact h.hd
 ·rw [List.getElem_append_left (by omega)]at ht
  rw [List.map_append];exact List.mem_append_left _ (h.sh k (by omega) hkm t ht)
theorem RInv.add{g:List Nd}{c R:List Nat}{m:Nat}(h:RInv g c R m)(hm:m≤R.length)(t:Nat)(ht:t<g.length):RInv g c (addR c R t) m:=by
 unfold addR;split
 ·exact h
 ·rename_i hn
  refine h.pre (fun i hi=>?_) ?_ hm
  ·rcases List.mem_append.1 hi with hi|hi
   ·exact h.lt i hi
   ·rw [List.mem_singleton]at hi;subst hi;exact ht
  ·rw [List.map_append,List.nodup_append]
   refine ⟨h.nd,by simp,fun a ha b hb=>?_⟩
   simp only [List.map_cons,List.map_nil,List.mem_singleton]at hb;subst hb;rintro rfl;exact hn ha
theorem RInv.fold{g:List Nd}{c:List Nat}{m:Nat}:∀(ts R:List Nat),RInv g c R m→m≤R.length→(∀t∈ts,t<g.length)→RInv g c (ts.foldl (addR c) R) m
 | [],R,h,_,_=>h
 | t::ts,R,h,hm,ht=>by
  obtain ⟨e,he⟩:=addR_pre c R t;refine RInv.fold ts (addR c R t) (h.add hm t (ht t (.head _))) ?_ (fun s hs=>ht s (.tail _ hs))
  rw [he];simp;omega
theorem RInv.next{g:List Nd}{c R:List Nat}{m:Nat}(hs:shutG g)(h:RInv g c R m)(hm:m<R.length):RInv g c ((nodeAt g R[m]).to.foldl (addR c) R) (m+1):=by
 have h1:=RInv.fold (nodeAt g R[m]).to R h (Nat.le_of_lt hm) (fun t ht=>shut_at hs _ t ht)
 refine ⟨h1.hd,h1.lt,h1.nd,fun k hk hkm t ht=>?_⟩
 by_cases e:k=m
 ·subst e
  obtain ⟨x,hx⟩:=fold_pre c (nodeAt g R[k]).to R;have:((nodeAt g R[k]).to.foldl (addR c) R)[k]=R[k]:=by
   rw [List.getElem_of_eq hx,List.getElem_append_left hm]
  rw [this]at ht;exact fold_mem c _ R t ht
 ·exact h1.sh k hk (by omega) t ht
theorem RInv.start{g:List Nd}{c:List Nat}(h0:0<g.length):RInv g c [0] 0 :=
 ⟨rfl,fun i hi=>by rw [List.mem_singleton]at hi;omega,by simp,fun k _ h=>absurd h (Nat.not_lt_zero _)⟩
theorem lst_inv{g:List Nd}{c:List Nat}(hs:shutG g)(hc:CLS g c):∀(f m:Nat) (R:List Nat),RInv g c R m→m≤R.length→g.length≤f+m→∃M,RInv g c (lstR g c f m R) M∧(lstR g c f m R).length≤M
 | 0,m,R,h,_,hf=>⟨m,h,by have:=h.len hc;simp only [lstR];omega⟩
 | f+1,m,R,h,hm,hf=>by
  unfold lstR;by_cases hlt:m<R.length
  ·rw [List.getElem?_eq_getElem hlt]
   obtain ⟨e,he⟩:=fold_pre c (nodeAt g R[m]).to R;exact lst_inv hs hc f (m+1) _ (h.next hs hlt) (by rw [he];simp;omega) (by omega)
  ·rw [List.getElem?_eq_none (by omega)]
   exact ⟨m,h,Nat.le_of_not_lt hlt⟩
theorem idx_lt{c R:List Nat}{t:Nat}(h:clAt c t∈R.map (clAt c)):idxR c R t<R.length:=by
 have:=List.idxOf_lt_length_of_mem h;unfold idxR;simpa using this
theorem idx_at{c R:List Nat}{t:Nat}(h:clAt c t∈R.map (clAt c)):clAt c (R[idxR c R t]'(idx_lt h))=clAt c t:=by
 have:=List.getElem_idxOf (List.idxOf_lt_length_of_mem h);rw [List.getElem_map]at this;exact this
theorem made_alike{g:List Nd}{c R:List Nat}{M:Nat}(hs:shutG g)(hc:CLS g c)(h:RInv g c R M)(hM:R.length≤M):∀k m (hm:m<R.length),gT (R.map (mkN g c R)) k m=gT g k R[m]
 | 0,_,_=>rfl
 | k+1,m,hm=>by
  rw [gT_eq_iff];have e:nodeAt (R.map (mkN g c R)) m=mkN g c R R[m]:=by rw [nodeAt_lt _ m (by simpa using hm),List.getElem_map]
  rw [e];refine ⟨rfl,rfl,rfl,?_⟩;show ((nodeAt g R[m]).to.map (idxR c R)).map _=_
  rw [List.map_map];refine List.map_congr_left fun t ht=>?_
  have hmem:=h.sh m hm (by omega) t ht
  show gT _ k (idxR c R t)=_
  rw [made_alike hs hc h hM k _ (idx_lt hmem)];exact (hc.eq _ _ (h.lt _ (List.getElem_mem _)) (shut_at hs _ t ht)).1 (idx_at hmem) k
theorem least_alike{g:List Nd}{c:List Nat}(hs:shutG g)(hc:CLS g c)(h0:0<g.length):alikeG (leastG g c) g 0 0∧shutG (leastG g c)∧0<(leastG g c).length∧(leastG g c).length≤g.length:=by
 obtain ⟨M,h,hM⟩:=lst_inv hs hc g.length 0 [0] (RInv.start h0) (Nat.zero_le _) (by omega)
 unfold leastG;generalize lstR g c g.length 0 [0]=R at *;have hp:=h.pos;refine ⟨fun k=>?_,fun n hn t ht=>?_,by simpa using hp,by simpa using h.len hc⟩
 ·have:=made_alike hs hc h hM k 0 hp
  have e:R[0]=0:=by have:=h.hd;rw [List.getElem?_eq_getElem hp]at this;exact Option.some.inj this
  rw [e]at this;exact this
 ·obtain ⟨i,hi,rfl⟩:=List.mem_map.1 hn
  obtain ⟨s,hs',rfl⟩:=List.mem_map.1 ht;obtain ⟨k,hk,rfl⟩:=List.mem_iff_getElem.1 hi;rw [List.length_map];exact idx_lt (h.sh k hk (by omega) s hs')
theorem idx_same:∀(l l':List Nat) (a a':Nat),l.length=l'.length→(∀k (h:k<l.length) (h':k<l'.length),l[k]=a↔l'[k]=a')→l.idxOf a=l'.idxOf a'
 | [],[],_,_,_,_=>rfl
 | [],b::l',_,_,h,_=>by simp at h
 | b::l,[],_,_,h,_=>by simp at h
 | b::l,b'::l',a,a',hl,h=>by
  have h0:b=a↔b'=a':=h 0 (by simp) (by simp)
  have ih:=idx_same l l' a a' (by simpa using hl) (fun k hk hk'=>h (k+1) (by simpa using hk) (by simpa using hk'))
  rw [List.idxOf_cons,List.idxOf_cons];by_cases e:b=a
  ·have e':=h0.1 e
   subst e e';simp
  ·have e':¬b'=a':=fun x=>e (h0.2 x)
   have q1:(b==a)=false:=by simpa using e
   have q2:(b'==a')=false:=by simpa using e'
   rw [q1,q2,ih]
def corG(g h:List Nd)(R R':List Nat):Prop:=R.length=R'.length∧∀k (hk:k<R.length) (hk':k<R'.length),alikeG g h R[k] R'[k]
structure Two(g h:List Nd)(c c':List Nat):Prop where
 sg:shutG g
 sh:shutG h
 cg:CLS g c
 ch:CLS h c'
theorem cor_iff{g h:List Nd}{c c':List Nat}(T:Two g h c c'){R R':List Nat}(hl:∀i∈R,i<g.length)(hl':∀i∈R',i<h.length)(hR:corG g h R R'){t t':Nat}(ht:t<g.length)(ht':t'<h.length)(e:alikeG g h t t')(k:Nat)(hk:k<R.length)(hk':k<R'.length):clAt c R[k]=clAt c t↔clAt c' R'[k]=clAt c' t':=by
 rw [T.cg.eq _ _ (hl _ (List.getElem_mem hk)) ht,T.ch.eq _ _ (hl' _ (List.getElem_mem hk')) ht'];have:=hR.2 k hk hk';exact ⟨fun x=>alike_trans (alike_symm this) (alike_trans x e),fun x=>alike_trans this (alike_trans x (alike_symm e))⟩
theorem cor_idx{g h:List Nd}{c c':List Nat}(T:Two g h c c'){R R':List Nat}(hl:∀i∈R,i<g.length)(hl':∀i∈R',i<h.length)(hR:corG g h R R'){t t':Nat}(ht:t<g.length)(ht':t'<h.length)(e:alikeG g h t t'):idxR c R t=idxR c' R' t':=by
 unfold idxR;refine idx_same _ _ _ _ (by simpa using hR.1) (fun k hk hk'=>?_)
 rw [List.getElem_map,List.getElem_map];exact cor_iff T hl hl' hR ht ht' e k (by simpa using hk) (by simpa using hk')
theorem mem_idx(c R:List Nat)(t:Nat):clAt c t∈R.map (clAt c)↔idxR c R t<R.length:=by
 constructor
 ·exact idx_lt
 ·intro h
  unfold idxR at h;exact List.idxOf_lt_length_iff.1 (by simpa using h)
theorem cor_add{g h:List Nd}{c c':List Nat}(T:Two g h c c'){R R':List Nat}(hl:∀i∈R,i<g.length)(hl':∀i∈R',i<h.length)(hR:corG g h R R'){t t':Nat}(ht:t<g.length)(ht':t'<h.length)(e:alikeG g h t t'):corG g h (addR c R t) (addR c' R' t'):=by
 have hm:clAt c t∈R.map (clAt c)↔clAt c' t'∈R'.map (clAt c'):=by
  rw [mem_idx,mem_idx,cor_idx T hl hl' hR ht ht' e,hR.1]
 unfold addR;by_cases h1:clAt c t∈R.map (clAt c)
 ·rw [if_pos h1,if_pos (hm.1 h1)];exact hR
 ·rw [if_neg h1,if_neg (fun x=>h1 (hm.2 x))]
  refine ⟨by simp [hR.1],fun k hk hk'=>?_⟩
  by_cases hkl:k<R.length
  ·rw [List.getElem_append_left hkl,List.getElem_append_left (by rw [← hR.1];exact hkl)]
   exact hR.2 k hkl (by rw [← hR.1];exact hkl)
  ·obtain rfl:k=R.length:=by simp at hk;omega
   rw [List.getElem_append_right (Nat.le_refl _),List.getElem_append_right (by rw [hR.1];exact Nat.le_refl _)]
   simpa using e
theorem addR_lt{g:List Nd}{c R:List Nat}{t:Nat}(hl:∀i∈R,i<g.length)(ht:t<g.length):∀i∈addR c R t,i<g.length:=by
 intro i hi;unfold addR at hi;split at hi
 ·exact hl i hi
 ·rcases List.mem_append.1 hi with hi|hi
  ·exact hl i hi
  ·rw [List.mem_singleton]at hi;subst hi;exact ht
theorem cor_fold{g h:List Nd}{c c':List Nat}(T:Two g h c c'):∀(ts ts' R R':List Nat),(∀i∈R,i<g.length)→(∀i∈R',i<h.length)→corG g h R R'→(∀t∈ts,t<g.length)→(∀t∈ts',t<h.length)→corG g h ts ts' →
  corG g h (ts.foldl (addR c) R) (ts'.foldl (addR c') R')∧(∀i∈ts.foldl (addR c) R,i<g.length)∧(∀i∈ts'.foldl (addR c') R',i<h.length)
 | [],[],R,R',hl,hl',hR,_,_,_=>⟨hR,hl,hl'⟩
 | [],b::ts',_,_,_,_,_,_,_,h=>by have:=h.1;simp at this
 | a::ts,[],_,_,_,_,_,_,_,h=>by have:=h.1;simp at this
 | a::ts,b::ts',R,R',hl,hl',hR,ht,ht',hts=>by
  have e:alikeG g h a b:=hts.2 0 (by simp) (by simp)
  refine cor_fold T ts ts' (addR c R a) (addR c' R' b) (addR_lt hl (ht a (.head _))) (addR_lt hl' (ht' b (.head _))) (cor_add T hl hl' hR (ht a (.head _)) (ht' b (.head _)) e) (fun t h=>ht t (.tail _ h)) (fun t h=>ht' t (.tail _ h)) ⟨by have:=hts.1;simpa using this,fun k hk hk'=>?_⟩
  exact hts.2 (k+1) (by simpa using hk) (by simpa using hk')
theorem cor_lst{g h:List Nd}{c c':List Nat}(T:Two g h c c'):∀(f m:Nat) (R R':List Nat),(∀i∈R,i<g.length)→(∀i∈R',i<h.length)→corG g h R R'→corG g h (lstR g c f m R) (lstR h c' f m R')
 | 0,_,_,_,_,_,hR=>hR
 | f+1,m,R,R',hl,hl',hR=>by
  unfold lstR;by_cases hm:m<R.length
  ·have hm':m<R'.length:=by rw [← hR.1];exact hm
   rw [List.getElem?_eq_getElem hm,List.getElem?_eq_getElem hm'];obtain ⟨_,_,_,hln,hn⟩:=alike_next (hR.2 m hm hm');obtain ⟨h1,h2,h3⟩:=cor_fold T (nodeAt g R[m]).to (nodeAt h R'[m]).to R R' hl hl' hR (fun t ht=>shut_at T.sg _ t ht) (fun t ht=>shut_at T.sh _ t ht) ⟨hln,hn⟩
   exact cor_lst T f (m+1) _ _ h2 h3 h1
  ·rw [List.getElem?_eq_none (by omega),List.getElem?_eq_none (by have:=hR.1;omega)]
   exact hR
theorem lst_more{g:List Nd}{c:List Nat}(hs:shutG g)(hc:CLS g c):∀(f f' m:Nat) (R:List Nat),RInv g c R m→m≤R.length→g.length≤f+m→f≤f'→lstR g c f' m R=lstR g c f m R
 | 0,f',m,R,h,hm,hf,_=>by
  have:=h.len hc;cases f' with
  | zero=>rfl
  | succ f'=>unfold lstR;rw [List.getElem?_eq_none (by omega)]
 | f+1,0,_,_,_,_,_,h=>by omega
 | f+1,f'+1,m,R,h,hm,hf,hff=>by
  unfold lstR;by_cases hlt:m<R.length
  ·rw [List.getElem?_eq_getElem hlt]
   obtain ⟨e,he⟩:=fold_pre c (nodeAt g R[m]).to R;exact lst_more hs hc f f' (m+1) _ (h.next hs hlt) (by rw [he];simp;omega) (by omega) (by omega)
  ·rw [List.getElem?_eq_none (by omega)]
theorem least_canon{g h:List Nd}{c c':List Nat}(T:Two g h c c')(h0:0<g.length)(h0':0<h.length)(e:alikeG g h 0 0):leastG g c=leastG h c':=by
 have H:=cor_lst T (g.length+h.length) 0 [0] [0] (fun i hi=>by rw [List.mem_singleton]at hi;omega) (fun i hi=>by rw [List.mem_singleton]at hi;omega) ⟨rfl,fun k hk hk'=>by
  obtain rfl:k=0:=by simp at hk;omega
  exact e⟩
 rw [lst_more T.sg T.cg g.length _ 0 [0] (RInv.start h0) (Nat.zero_le _) (by omega) (by omega),lst_more T.sh T.ch h.length _ 0 [0] (RInv.start h0') (Nat.zero_le _) (by omega) (by omega)]at H
 obtain ⟨M,hI,hM⟩:=lst_inv T.sg T.cg g.length 0 [0] (RInv.start h0) (Nat.zero_le _) (by omega)
 obtain ⟨M',hI',hM'⟩:=lst_inv T.sh T.ch h.length 0 [0] (RInv.start h0') (Nat.zero_le _) (by omega)
 unfold leastG;generalize lstR g c g.length 0 [0]=R at *;generalize lstR h c' h.length 0 [0]=R' at *;refine List.ext_getElem (by simpa using H.1) fun k hk hk'=>?_
 rw [List.getElem_map,List.getElem_map];have hkR:k<R.length:=by simpa using hk
 have hkR':k<R'.length:=by simpa using hk'
 obtain ⟨a1,a2,a3,a4,a5⟩:=alike_next (H.2 k hkR hkR');unfold mkN;rw [a1,a2,a3];congr 1
 refine List.ext_getElem (by simpa using a4) fun q hq hq'=>?_
 rw [List.getElem_map,List.getElem_map];have q1:q<(nodeAt g R[k]).to.length:=by simpa using hq
 have q2:q<(nodeAt h R'[k]).to.length:=by simpa using hq'
 exact cor_idx T hI.lt hI'.lt H (shut_at T.sg _ _ (List.getElem_mem q1)) (shut_at T.sh _ _ (List.getElem_mem q2)) (a5 q q1 q2)
theorem least_same{g h:List Nd}{c c':List Nat}(T:Two g h c c')(h0:0<g.length)(h0':0<h.length):leastG g c=leastG h c'↔alikeG g h 0 0:=by
 refine ⟨fun e=>?_,least_canon T h0 h0'⟩
 have h1:=(least_alike T.sg T.cg h0).1;have h2:=(least_alike T.sh T.ch h0').1;rw [← e]at h2;exact alike_trans (alike_symm h1) h2
end Go.Proofs.YtmamabhhgfcjcaaGreatDoor
