/-
  Plain mathematics: the least graph: it does the same, it is one and the same for all graphs that do the same, and it has no more nodes.
-/
import Derived.Test.YtnedgkcejlhnbaaGreatDoorSz
import Derived.Test.YtnedgkcejlhnbaaGreatDoorHd
import Derived.Test.YtnedgkcejlhnbaaGreatDoorHi
set_option maxRecDepth 100000
set_option maxHeartbeats 4000000
namespace Go.Proofs.YtnedgkcejlhnbaaGreatDoor
def addR(c R:List Nat)(t:Nat):List Nat:=if clAt c t∈R.map (clAt c) then R else R++[t]
def idxR(c R:List Nat)(t:Nat):Nat:=(R.map (clAt c)).idxOf (clAt c t)
def lstR(g:List Nd)(c:List Nat):Nat→Nat→List Nat→List Nat
 | 0,_,R=>R
 | f+1,m,R=>match R[m]? with
  | none=>R
  | some i=>lstR g c f (m+1) ((nodeAt g i).to.foldl (addR c) R)
def mkN(g:List Nd)(c R:List Nat)(i:Nat):Nd:=⟨(nodeAt g i).kind,(nodeAt g i).so,(nodeAt g i).labs,(nodeAt g i).to.map (idxR c R)⟩
def leastG(g:List Nd)(c:List Nat):List Nd:=(lstR g c g.length 0 [0]).map (mkN g c (lstR g c g.length 0 [0]))
structure RInv(g:List Nd)(c R:List Nat)(m:Nat):Prop where
 hd:R[0]? = some 0
 lt:∀i∈R,i<g.length
 nd:(R.map (clAt c)).Nodup
 sh:∀k (h:k<R.length),k<m→∀t∈(nodeAt g R[k]).to,clAt c t∈R.map (clAt c)
theorem nodup_le:∀(n:Nat) (l:List Nat),l.Nodup→(∀x∈l,x<n)→l.length≤n
 | 0,l,_,h=>by
  cases l with
  | nil=>simp
  | cons a l=>exact absurd (h a (.head _)) (Nat.not_lt_zero _)
 | n+1,l,hn,h=>by
  have h1:(l.erase n).Nodup:=hn.erase n;have h2:∀x∈l.erase n,x<n:=fun x hx=>by
   have:=(hn.mem_erase_iff).1 hx;have:=h x this.2;omega
  have:=nodup_le n _ h1 h2;have h3:=List.length_erase (a:=n) (l:=l);split at h3 <;> omega
theorem RInv.len{g:List Nd}{c R:List Nat}{m:Nat}(h:RInv g c R m)(hc:CLS g c):R.length≤g.length:=by
 have:=nodup_le g.length (R.map (clAt c)) h.nd (fun x hx=>by
  obtain ⟨i,hi,rfl⟩:=List.mem_map.1 hx;exact hc.lt i (h.lt i hi))
 simpa using this
theorem RInv.pos{g:List Nd}{c R:List Nat}{m:Nat}(h:RInv g c R m):0<R.length:=by
 rcases Nat.eq_zero_or_pos R.length with h0|h0
 ·have:=h.hd;rw [List.getElem?_eq_none (by omega)]at this;cases this
 ·exact h0
theorem addR_mem(c R:List Nat)(t:Nat):clAt c t∈(addR c R t).map (clAt c):=by
 unfold addR;split
 ·assumption
 ·simp
theorem addR_pre(c R:List Nat)(t:Nat):∃e,addR c R t=R++e:=by
 unfold addR;split
 ·exact ⟨[],by simp⟩
 ·exact ⟨[t],rfl⟩
theorem fold_pre(c:List Nat):∀(ts R:List Nat),∃e,ts.foldl (addR c) R=R++e
 | [],R=>⟨[],by simp⟩
 | t::ts,R=>by
  obtain ⟨e1,h1⟩:=addR_pre c R t;obtain ⟨e2,h2⟩:=fold_pre c ts (addR c R t);exact ⟨e1++e2,by rw [List.foldl_cons,h2,h1,List.append_assoc]⟩
theorem fold_mem(c:List Nat):∀(ts R:List Nat),∀t∈ts,clAt c t∈(ts.foldl (addR c) R).map (clAt c)
 | [],_,t,h=>by cases h
 | s::ts,R,t,h=>by
  rcases List.mem_cons.1 h with rfl|h
  ·obtain ⟨e,he⟩:=fold_pre c ts (addR c R t)
   rw [List.foldl_cons,he,List.map_append];exact List.mem_append_left _ (addR_mem c R t)
  ·exact fold_mem c ts _ t h
theorem RInv.pre{g:List Nd}{c R:List Nat}{m:Nat}(h:RInv g c R m){e:List Nat}(hl:∀i∈R++e,i<g.length)(hn:((R++e).map (clAt c)).Nodup)(hm:m≤R.length):RInv g c (R++e) m:=by
 refine ⟨?_,hl,hn,fun k hk hkm t ht=>?_⟩
 ·rw [List.getElem?_append_left h.pos];exact h.hd
 ·rw [List.getElem_append_left (by omega)]at ht
  rw [List.map_append];exact List.mem_append_left _ (h.sh k (by omega) hkm t ht)
theorem RInv.add{g:List Nd}{c R:List Nat}{m:Nat}(h:RInv g c R m)(hm:m≤R.length)(t:Nat)(ht:t<g.length):RInv g c (addR c R t) m:=by
 unfold addR;split
 ·exact h
 ·rename_i hn
  refine h.pre (fun i hi=>?_) ?_ hm
  ·rcases List.mem_append.1 hi with hi|hi
   ·exact h.lt i hi
   ·rw [List.mem_singleton]at hi;subst hi;exact ht
  ·rw [List.map_append,List.nodup_append]
   refine ⟨h.nd,by simp,fun a ha b hb=>?_⟩
   simp only [List.map_cons,List.map_nil,List.mem_singleton]at hb;subst hb;rintro rfl;exact hn ha
theorem RInv.fold{g:List Nd}{c:List Nat}{m:Nat}:∀(ts R:List Nat),RInv g c R m→m≤R.length→(∀t∈ts,t<g.length)→RInv g c (ts.foldl (addR c) R) m
 | [],R,h,_,_=>h
 | t::ts,R,h,hm,ht=>by
  obtain ⟨e,he⟩:=addR_pre c R t;refine RInv.fold ts (addR c R t) (h.add hm t (ht t (.head _))) ?_ (fun s hs=>ht s (.tail _ hs))
  rw [he];simp;omega
theorem RInv.next{g:List Nd}{c R:List Nat}{m:Nat}(hs:shutG g)(h:RInv g c R m)(hm:m<R.length):RInv g c ((nodeAt g R[m]).to.foldl (addR c) R) (m+1):=by
 have h1:=RInv.fold (nodeAt g R[m]).to R h (Nat.le_of_lt hm) (fun t ht=>shut_at hs _ t ht)
 refine ⟨h1.hd,h1.lt,h1.nd,fun k hk hkm t ht=>?_⟩
 by_cases e:k=m
 ·subst e
  obtain ⟨x,hx⟩:=fold_pre c (nodeAt g R[k]).to R;have:((nodeAt g R[k]).to.foldl (addR c) R)[k]=R[k]:=by
   rw [List.getElem_of_eq hx,List.getElem_append_left hm]
  rw [this]at ht;exact fold_mem c _ R t ht
 ·exact h1.sh k hk (by omega) t ht
theorem RInv.start{g:List Nd}{c:List Nat}(h0:0<g.length):RInv g c [0] 0 :=
 ⟨rfl,fun i hi=>by rw [List.mem_singleton]at hi;omega,by simp,fun k _ h=>absurd h (Nat.not_lt_zero _)⟩
theorem lst_inv{g:List Nd}{c:List Nat}(hs:shutG g)(hc:CLS g c):∀(f m:Nat) (R:List Nat),RInv g c R m→m≤R.length→g.length≤f+m→∃M,RInv g c (lstR g c f m R) M∧(lstR g c f m R).length≤M
 | 0,m,R,h,_,hf=>⟨m,h,by have:=h.len hc;simp only [lstR];omega⟩
 | f+1,m,R,h,hm,hf=>by
  unfold lstR;by_cases hlt:m<R.length
  ·rw [List.getElem?_eq_getElem hlt]
   obtain ⟨e,he⟩:=fold_pre c (nodeAt g R[m]).to R;exact lst_inv hs hc f (m+1) _ (h.next hs hlt) (by rw [he];simp;omega) (by omega)
  ·rw [List.getElem?_eq_none (by omega)]
   exact ⟨m,h,Nat.le_of_not_lt hlt⟩
theorem idx_lt{c R:List Nat}{t:Nat}(h:clAt c t∈R.map (clAt c)):idxR c R t<R.length:=by
 have:=List.idxOf_lt_length_of_mem h;unfold idxR;simpa using this
theorem idx_at{c R:List Nat}{t:Nat}(h:clAt c t∈R.map (clAt c)):clAt c (R[idxR c R t]'(idx_lt h))=clAt c t:=by
 have:=List.getElem_idxOf (List.idxOf_lt_length_of_mem h);rw [List.getElem_map]at this;exact this
theorem made_alike{g:List Nd}{c R:List Nat}{M:Nat}(hs:shutG g)(hc:CLS g c)(h:RInv g c R M)(hM:R.length≤M):∀k m (hm:m<R.length),gT (R.map (mkN g c R)) k m=gT g k R[m]
 | 0,_,_=>rfl
 | k+1,m,hm=>by
  rw [gT_eq_iff];have e:nodeAt (R.map (mkN g c R)) m=mkN g c R R[m]:=by rw [nodeAt_lt _ m (by simpa using hm),List.getElem_map]
  rw [e];refine ⟨rfl,rfl,rfl,?_⟩;show ((nodeAt g R[m]).to.map (idxR c R)).map _=_
  rw [List.map_map];refine List.map_congr_left fun t ht=>?_
  have hmem:=h.sh m hm (by omega) t ht
  show gT _ k (idxR c R t)=_
  rw [made_alike hs hc h hM k _ (idx_lt hmem)];exact (hc.eq _ _ (h.lt _ (List.getElem_mem _)) (shut_at hs _ t ht)).1 (idx_at hmem) k
theorem least_alike{g:List Nd}{c:List Nat}(hs:shutG g)(hc:CLS g c)(h0:0<g.length):alikeG (leastG g c) g 0 0∧shutG (leastG g c)∧0<(leastG g c).length∧(leastG g c).length≤g.length:=by
 obtain ⟨M,h,hM⟩:=lst_inv hs hc g.length 0 [0] (RInv.start h0) (Nat.zero_le _) (by omega)
 unfold leastG;generalize lstR g c g.length 0 [0]=R at *;have hp:=h.pos;refine ⟨fun k=>?_,fun n hn t ht=>?_,by simpa using hp,by simpa using h.len hc⟩
 ·have:=made_alike hs hc h hM k 0 hp
  have e:R[0]=0:=by have:=h.hd;rw [List.getElem?_eq_getElem hp]at this;exact Option.some.inj this
  rw [e]at this;exact this
 ·obtain ⟨i,hi,rfl⟩:=List.mem_map.1 hn
  obtain ⟨s,hs',rfl⟩:=List.mem_map.1 ht;obtain ⟨k,hk,rfl⟩:=List.mem_iff_getElem.1 hi;rw [List.length_map];exact idx_lt (h.sh k hk (by omega) s hs')
theorem idx_same:∀(l l':List Nat) (a a':Nat),l.length=l'.length→(∀k (h:k<l.length) (h':k<l'.length),l[k]=a↔l'[k]=a')→l.idxOf a=l'.idxOf a'
 | [],[],_,_,_,_=>rfl
 | [],b::l',_,_,h,_=>by simp at h
 | b::l,[],_,_,h,_=>by simp at h
 | b::l,b'::l',a,a',hl,h=>by
  have h0:b=a↔b'=a':=h 0 (by simp) (by simp)
  have ih:=idx_same l l' a a' (by simpa using hl) (fun k hk hk'=>h (k+1) (by simpa using hk) (by simpa using hk'))
  rw [List.idxOf_cons,List.idxOf_cons];by_cases e:b=a
  ·have e':=h0.1 e
   subst e e';simp
  ·have e':¬b'=a':=fun x=>e (h0.2 x)
   have q1:(b==a)=false:=by simpa using e
   have q2:(b'==a')=false:=by simpa using e'
   rw [q1,q2,ih]
def corG(g h:List Nd)(R R':List Nat):Prop:=R.length=R'.length∧∀k (hk:k<R.length) (hk':k<R'.length),alikeG g h R[k] R'[k]
structure Two(g h:List Nd)(c c':List Nat):Prop where
 sg:shutG g
 sh:shutG h
 cg:CLS g c
 ch:CLS h c'
theorem cor_iff{g h:List Nd}{c c':List Nat}(T:Two g h c c'){R R':List Nat}(hl:∀i∈R,i<g.length)(hl':∀i∈R',i<h.length)(hR:corG g h R R'){t t':Nat}(ht:t<g.length)(ht':t'<h.length)(e:alikeG g h t t')(k:Nat)(hk:k<R.length)(hk':k<R'.length):clAt c R[k]=clAt c t↔clAt c' R'[k]=clAt c' t':=by
 rw [T.cg.eq _ _ (hl _ (List.getElem_mem hk)) ht,T.ch.eq _ _ (hl' _ (List.getElem_mem hk')) ht'];have:=hR.2 k hk hk';exact ⟨fun x=>alike_trans (alike_symm this) (alike_trans x e),fun x=>alike_trans this (alike_trans x (alike_symm e))⟩
theorem cor_idx{g h:List Nd}{c c':List Nat}(T:Two g h c c'){R R':List Nat}(hl:∀i∈R,i<g.length)(hl':∀i∈R',i<h.length)(hR:corG g h R R'){t t':Nat}(ht:t<g.length)(ht':t'<h.length)(e:alikeG g h t t'):idxR c R t=idxR c' R' t':=by
 unfold idxR;refine idx_same _ _ _ _ (by simpa using hR.1) (fun k hk hk'=>?_)
 rw [List.getElem_map,List.getElem_map];exact cor_iff T hl hl' hR ht ht' e k (by simpa using hk) (by simpa using hk')
theorem mem_idx(c R:List Nat)(t:Nat):clAt c t∈R.map (clAt c)↔idxR c R t<R.length:=by
 constructor
 ·exact idx_lt
 ·intro h
  unfold idxR at h;exact List.idxOf_lt_length_iff.1 (by simpa using h)
theorem cor_add{g h:List Nd}{c c':List Nat}(T:Two g h c c'){R R':List Nat}(hl:∀i∈R,i<g.length)(hl':∀i∈R',i<h.length)(hR:corG g h R R'){t t':Nat}(ht:t<g.length)(ht':t'<h.length)(e:alikeG g h t t'):corG g h (addR c R t) (addR c' R' t'):=by
 have hm:clAt c t∈R.map (clAt c)↔clAt c' t'∈R'.map (clAt c'):=by
  rw [mem_idx,mem_idx,cor_idx T hl hl' hR ht ht' e,hR.1]
 unfold addR;by_cases h1:clAt c t∈R.map (clAt c)
 ·rw [if_pos h1,if_pos (hm.1 h1)];exact hR
 ·rw [if_neg h1,if_neg (fun x=>h1 (hm.2 x))]
  refine ⟨by simp [hR.1],fun k hk hk'=>?_⟩
  by_cases hkl:k<R.length
  ·rw [List.getElem_append_left hkl,List.getElem_append_left (by rw [← hR.1];exact hkl)]
   exact hR.2 k hkl (by rw [← hR.1];exact hkl)
  ·obtain rfl:k=R.length:=by simp at hk;omega
   rw [List.getElem_append_right (Nat.le_refl _),List.getElem_append_right (by rw [hR.1];exact Nat.le_refl _)]
   simpa using e
theorem addR_lt{g:List Nd}{c R:List Nat}{t:Nat}(hl:∀i∈R,i<g.length)(ht:t<g.length):∀i∈addR c R t,i<g.length:=by
 intro i hi;unfold addR at hi;split at hi
 ·exact hl i hi
 ·rcases List.mem_append.1 hi with hi|hi
  ·exact hl i hi
  ·rw [List.mem_singleton]at hi;subst hi;exact ht
theorem cor_fold{g h:List Nd}{c c':List Nat}(T:Two g h c c'):∀(ts ts' R R':List Nat),(∀i∈R,i<g.length)→(∀i∈R',i<h.length)→corG g h R R'→(∀t∈ts,t<g.length)→(∀t∈ts',t<h.length)→corG g h ts ts' →
  corG g h (ts.foldl (addR c) R) (ts'.foldl (addR c') R')∧(∀i∈ts.foldl (addR c) R,i<g.length)∧(∀i∈ts'.foldl (addR c') R',i<h.length)
 | [],[],R,R',hl,hl',hR,_,_,_=>⟨hR,hl,hl'⟩
 | [],b::ts',_,_,_,_,_,_,_,h=>by have:=h.1;simp at this
 | a::ts,[],_,_,_,_,_,_,_,h=>by have:=h.1;simp at this
 | a::ts,b::ts',R,R',hl,hl',hR,ht,ht',hts=>by
  have e:alikeG g h a b:=hts.2 0 (by simp) (by simp)
  refine cor_fold T ts ts' (addR c R a) (addR c' R' b) (addR_lt hl (ht a (.head _))) (addR_lt hl' (ht' b (.head _))) (cor_add T hl hl' hR (ht a (.head _)) (ht' b (.head _)) e) (fun t h=>ht t (.tail _ h)) (fun t h=>ht' t (.tail _ h)) ⟨by have:=hts.1;simpa using this,fun k hk hk'=>?_⟩
  exact hts.2 (k+1) (by simpa using hk) (by simpa using hk')
theorem cor_lst{g h:List Nd}{c c':List Nat}(T:Two g h c c'):∀(f m:Nat) (R R':List Nat),(∀i∈R,i<g.length)→(∀i∈R',i<h.length)→corG g h R R'→corG g h (lstR g c f m R) (lstR h c' f m R')
 | 0,_,_,_,_,_,hR=>hR
 | f+1,m,R,R',hl,hl',hR=>by
  unfold lstR;by_cases hm:m<R.length
  ·have hm':m<R'.length:=by rw [← hR.1];exact hm
   rw [List.getElem?_eq_getElem hm,List.getElem?_eq_getElem hm'];obtain ⟨_,_,_,hln,hn⟩:=alike_next (hR.2 m hm hm');obtain ⟨h1,h2,h3⟩:=cor_fold T (nodeAt g R[m]).to (nodeAt h R'[m]).to R R' hl hl' hR (fun t ht=>shut_at T.sg _ t ht) (fun t ht=>shut_at T.sh _ t ht) ⟨hln,hn⟩
   exact cor_lst T f (m+1) _ _ h2 h3 h1
  ·rw [List.getElem?_eq_none (by omega),List.getElem?_eq_none (by have:=hR.1;omega)]
   exact hR
theorem lst_more{g:List Nd}{c:List Nat}(hs:shutG g)(hc:CLS g c):∀(f f' m:Nat) (R:List Nat),RInv g c R m→m≤R.length→g.length≤f+m→f≤f'→lstR g c f' m R=lstR g c f m R
 | 0,f',m,R,h,hm,hf,_=>by
  have:=h.len hc;cases f' with
  | zero=>rfl
  | succ f'=>unfold lstR;rw [List.getElem?_eq_none (by omega)]
 | f+1,0,_,_,_,_,_,h=>by omega
 | f+1,f'+1,m,R,h,hm,hf,hff=>by
  unfold lstR;by_cases hlt:m<R.length
  ·rw [List.getElem?_eq_getElem hlt]
   obtain ⟨e,he⟩:=fold_pre c (nodeAt g R[m]).to R;exact lst_more hs hc f f' (m+1) _ (h.next hs hlt) (by rw [he];simp;omega) (by omega) (by omega)
  ·rw [List.getElem?_eq_none (by omega)]
theorem least_canon{g h:List Nd}{c c':List Nat}(T:Two g h c c')(h0:0<g.length)(h0':0<h.length)(e:alikeG g h 0 0):leastG g c=leastG h c':=by
 have H:=cor_lst T (g.length+h.length) 0 [0] [0] (fun i hi=>by rw [List.mem_singleton]at hi;omega) (fun i hi=>by rw [List.mem_singleton]at hi;omega) ⟨rfl,fun k hk hk'=>by
  obtain rfl:k=0:=by simp at hk;omega
  exact e⟩
 rw [lst_more T.sg T.cg g.length _ 0 [0] (RInv.start h0) (Nat.zero_le _) (by omega) (by omega),lst_more T.sh T.ch h.length _ 0 [0] (RInv.start h0') (Nat.zero_le _) (by omega) (by omega)]at H
 obtain ⟨M,hI,hM⟩:=lst_inv T.sg T.cg g.length 0 [0] (RInv.start h0) (Nat.zero_le _) (by omega)
 obtain ⟨M',hI',hM'⟩:=lst_inv T.sh T.ch h.length 0 [0] (RInv.start h0') (Nat.zero_le _) (by omega)
 unfold leastG;generalize lstR g c g.length 0 [0]=R at *;generalize lstR h c' h.length 0 [0]=R' at *;refine List.ext_getElem (by simpa using H.1) fun k hk hk'=>?_
 rw [List.getElem_map,List.getElem_map];have hkR:k<R.length:=by simpa using hk
 have hkR':k<R'.length:=by simpa using hk'
 obtain ⟨a1,a2,a3,a4,a5⟩:=alike_next (H.2 k hkR hkR');unfold mkN;rw [a1,a2,a3];congr 1
 refine List.ext_getElem (by simpa using a4) fun q hq hq'=>?_
 rw [List.getElem_map,List.getElem_map];have q1:q<(nodeAt g R[k]).to.length:=by simpa using hq
 have q2:q<(nodeAt h R'[k]).to.length:=by simpa using hq'
 exact cor_idx T hI.lt hI'.lt H (shut_at T.sg _ _ (List.getElem_mem q1)) (shut_at T.sh _ _ (List.getElem_mem q2)) (a5 q q1 q2)
open Go.RowKit Go.Shelf
def numR(c R:List Nat)(x:Nat):Nat:=if x∈R.map (clAt c) then (R.map (clAt c)).idxOf x+1 else 0
structure RF(fb rb:Nat)(row:Option Nat)(w w':World):Prop where
 os:w'.os=w.os
 tape:w'.tape=w.tape
 output:w'.output=w.output
 size:w.heap.size≤w'.heap.size
 block:∀k,k<w.heap.size→k≠fb→k≠rb→some k≠row→w'.heap[k]? = w.heap[k]?
theorem RF.below{fb rb:Nat}{row:Option Nat}{B:Nat}{w0 w w':World}(h:RF fb rb row w w')(hb:Below B w0 w)(hB:B≤w.heap.size)(h1:B≤fb)(h2:B≤rb)(h3:∀k,row=some k→B≤k):Below B w0 w' :=
 hb.trans ⟨h.os,h.tape,h.output,h.size,fun k hk=>h.block k (by omega) (by omega) (by omega) (fun e=>by have:=h3 k e.symm;omega)⟩
theorem RF.cell{fb rb:Nat}{row:Option Nat}{w w':World}(h:RF fb rb row w w'){b o:Nat}(hb:b<w.heap.size)(h1:b≠fb)(h2:b≠rb)(h3:some b≠row):w'.cell? ⟨b,o,none⟩=w.cell? ⟨b,o,none⟩:=World.cell?_of_block (a:=⟨b,o,none⟩) (h.block b hb h1 h2 h3)
theorem RF.frozen{fb rb:Nat}{row:Option Nat}{w w':World}(h:RF fb rb row w w'){b o:Nat}(hb:b<w.heap.size)(h1:b≠fb)(h2:b≠rb)(h3:some b≠row):w'.frozen? ⟨b,o,none⟩=w.frozen? ⟨b,o,none⟩:=World.frozen?_of_block (a:=⟨b,o,none⟩) (h.block b hb h1 h2 h3)
theorem RF.own{fb rb:Nat}{row:Option Nat}{w w':World}(h:RF fb rb row w w'){base:Nat}{e:TypeId}{size:Nat}{v:Value}{n:Nat}{xs:List Value}(ho:w.ownsRow base e size v n xs)(h1:fb<base)(h2:rb<base)(h3:v.ownBlock=none∨v.ownBlock≠row):w'.ownsRow base e size v n xs:=by
 refine ⟨ho.1,?_⟩;rcases ho.2 with hn|⟨g,cap,cur,rfl,hb,hgg,rest⟩
 ·exact .inl hn
 ·refine .inr ⟨g,cap,cur,rfl,hb,?_,rest⟩
  rw [h.block g (Array.getElem?_eq_some_iff.1 hgg).1 (by omega) (by omega) (by
   rcases h3 with h3|h3
   ·simp [Value.ownBlock]at h3
   ·intro e;exact h3 (by rw [← e];rfl))]
  exact hgg
structure RC(W:World)(B2 cb nb rb fb n:Nat)(ac:OAd)(c R:List Nat)(u:Value):Prop where
 hc:W.cell? ⟨cb,0,none⟩=some (.slice ac n n)
 hn:W.cell? ⟨nb,0,none⟩=some (.slice (some ⟨fb,0,none⟩) n n)
 hr:W.cell? ⟨rb,0,none⟩=some u
 hrf:W.frozen? ⟨rb,0,none⟩=false
 cls:NI W cb c ac
 num:∀x,x<n→W.cell? ⟨fb,x,none⟩=some (.int .i64 (numR c R x:Int))
 numf:∀x,W.frozen? ⟨fb,x,none⟩=false
 own:W.ownsRow B2 3 1 u R.length (R.map fun t:Nat=>Value.int .i64 (t:Int))
 o1:cb<fb
 o2:fb<nb
 o3:nb<rb
 o4:rb<B2
 o5:B2≤W.heap.size
 cl:c.length=n
theorem sliceH_own{W:World}{base:Nat}{e:TypeId}{size:Nat}{v:Value}{n:Nat}{xs:List Value}(h:W.ownsRow base e size v n xs):∃a c,v = .slice a n c:=by
 rcases h.2 with ⟨rfl,rfl⟩|⟨g,cap,cur,rfl,_⟩
 ·exact ⟨_,_,rfl⟩
 ·exact ⟨_,_,rfl⟩
theorem own_setB{W:World}{base:Nat}{e:TypeId}{size:Nat}{v:Value}{n:Nat}{xs:List Value}(h:W.ownsRow base e size v n xs){b o:Nat}(hb:b<base)(x:Value):(W.setCell ⟨b,o,none⟩ x).ownsRow base e size v n xs :=
 h.kept (grown_set W b o x) (by
  cases hq:v.ownBlock with
  | none=>exact .inl rfl
  | some g=>exact .inr (fun e=>by injection e with e;have:=(h.lt g hq).1;omega))
theorem infoIG:(Tryz.prog.info? 3).map (fun i=>(i.zero,i.size,i.bytes))=some (some (.int .i64 0),1,8):=by kernel_rfl
theorem num_add(c R:List Nat)(t x:Nat)(hn:clAt c t ∉ R.map (clAt c)):numR c (R++[t]) x=if x=clAt c t then R.length+1 else numR c R x:=by
 unfold numR;rw [List.map_append,List.map_cons,List.map_nil];by_cases hx:x=clAt c t
 ·subst hx
  rw [if_pos rfl,if_pos (by simp),List.idxOf_append,if_neg hn]
  simp
 ·rw [if_neg hx]
  by_cases hm:x∈R.map (clAt c)
  ·rw [if_pos (List.mem_append_left _ hm),if_pos hm,List.idxOf_append,if_pos hm]
  ·rw [if_neg hm,if_neg]
   intro h;rcases List.mem_append.1 h with h|h
   ·exact hm h
   ·rw [List.mem_singleton]at h;exact hx h
theorem RC.put{w w7:World}{B2 cb nb rb fb n:Nat}{ac:OAd}{c R:List Nat}{u v7:Value}{t:Nat}{ob:Obj}(h:RC w B2 cb nb rb fb n ac c R u)(hx:clAt c t<n)(hm:∀x,numR c (R++[t]) x=if x=clAt c t then R.length+1 else numR c R x)
  (hg:(w.alloc ob).grownBy w7 u.ownBlock) (hO:w7.ownsRow B2 3 1 v7 (R.length+1) ((R.map fun t:Nat=>Value.int .i64 (t:Int))++[.int .i64 (t:Int)])) (hat:v7.ownBlock=u.ownBlock∨v7.ownBlock=some (w.alloc ob).heap.size) :
  RC ((w7.setCell ⟨rb,0,none⟩ v7).setCell ⟨fb,clAt c t,none⟩ (.int .i64 ((R.length+1:Nat):Int))) B2 cb nb rb fb n ac c (R++[t]) v7∧RF fb rb u.ownBlock w ((w7.setCell ⟨rb,0,none⟩ v7).setCell ⟨fb,clAt c t,none⟩ (.int .i64 ((R.length+1:Nat):Int)))∧(v7.ownBlock=u.ownBlock∨∀k,v7.ownBlock=some k→w.heap.size≤k):=by
 have q1:=h.o1;have q2:=h.o2;have q3:=h.o3;have q4:=h.o4;have q5:=h.o5;have hs:w.heap.size<w7.heap.size:=by have:=hg.size;simp at this;omega
 have hblk:∀b,b<w.heap.size→some b≠u.ownBlock→w7.heap[b]? = w.heap[b]?:=fun b hb hn=>(hg.block b (by simp;omega) hn).trans (heap_alloc_old w ob hb)
 have hlow:∀b,b<B2→some b≠u.ownBlock:=fun b hb e=>by have:=(h.own.lt b e.symm).1;omega
 have hc7:∀b o,b<B2→w7.cell? ⟨b,o,none⟩=w.cell? ⟨b,o,none⟩:=fun b o hb=>World.cell?_of_block (a:=⟨b,o,none⟩) (hblk b (by omega) (hlow b hb))
 have hf7:∀b o,b<B2→w7.frozen? ⟨b,o,none⟩=w.frozen? ⟨b,o,none⟩:=fun b o hb=>World.frozen?_of_block (a:=⟨b,o,none⟩) (hblk b (by omega) (hlow b hb))
 have hoth:∀b o,b<B2→b≠rb→b≠fb→((w7.setCell ⟨rb,0,none⟩ v7).setCell ⟨fb,clAt c t,none⟩ (.int .i64 ((R.length+1:Nat):Int))).cell? ⟨b,o,none⟩=w.cell? ⟨b,o,none⟩:=fun b o hb h1 h2 =>
  ((World.cell?_setCell_other _ _ _ _ (by intro e;injection e with e;exact h2 e.symm)).trans (World.cell?_setCell_other _ _ _ _ (by intro e;injection e with e;exact h1 e.symm))).trans (hc7 b o hb)
 refine ⟨⟨(hoth cb 0 (by omega) (by omega) (by omega)).trans h.hc,(hoth nb 0 (by omega) (by omega) (by omega)).trans h.hn,?_,?_,?_,fun x hxn=>?_,fun x=>?_,?_,q1,q2,q3,q4,?_,h.cl⟩,?_,?_⟩
 ·rw [World.cell?_setCell_other _ _ _ _ (by intro e;injection e with e;omega)]
  exact World.cell?_setCell_same _ _ _ ((hc7 rb 0 q4).trans h.hr)
 ·rw [World.frozen?_setCell,World.frozen?_setCell,hf7 rb 0 q4];exact h.hrf
 ·rcases h.cls with e|⟨b,o,e,hb,hcc⟩
  ·exact .inl e
  ·exact .inr ⟨b,o,e,hb,fun i hi=>(hoth b (o+i) (by omega) (by omega) (by omega)).trans (hcc i hi)⟩
 ·rw [hm x]
  by_cases e:x=clAt c t
  ·subst e
   rw [if_pos rfl];exact World.cell?_setCell_same _ _ _ ((World.cell?_setCell_other _ _ _ _ (by intro e;injection e with e;omega)).trans ((hc7 fb _ (by omega)).trans (h.num _ hx)))
  ·rw [if_neg e,World.cell?_setCell_other _ _ _ _ (by intro q;injection q with _ q;exact e q.symm),World.cell?_setCell_other _ _ _ _ (by intro e;injection e with e;omega),hc7 fb x (by omega)]
   exact h.num x hxn
 ·rw [World.frozen?_setCell,World.frozen?_setCell,hf7 fb x (by omega)];exact h.numf x
 ·have:=own_setB (own_setB hO (b:=rb) (o:=0) q4 v7) (b:=fb) (o:=clAt c t) (by omega) (.int .i64 ((R.length+1:Nat):Int))
  simpa using this
 ·simp;omega
 ·refine ⟨hg.os,hg.tape,hg.output,by simp;omega,fun k hk h1 h2 h3=>?_⟩
  rw [Below.heap_setCell _ _ _ k (fun e=>h1 e),Below.heap_setCell _ _ _ k (fun e=>h2 e)]
  exact hblk k hk h3
 ·rcases hat with e|e
  ·exact .inl e
  ·exact .inr fun k hk=>by rw [e]at hk;injection hk with hk;simp at hk;omega
theorem reach_any(B2 cb nb rb fb n:Nat)(ac:OAd)(c R:List Nat)(u:Value)(t:Nat)(w:World)(h:RC w B2 cb nb rb fb n ac c R u)(ht:t<n)(hx:clAt c t<n)(hR:R.length≤1000):
  Calls Tryz.prog 40 #[.int .i64 (t:Int),.pointer (some ⟨cb,0,none⟩),.pointer (some ⟨nb,0,none⟩),.pointer (some ⟨rb,0,none⟩)] w fun e w'=>e = .returned (.int .i64 (idxR c (addR c R t) t:Int))∧∃u',RC w' B2 cb nb rb fb n ac c (addR c R t) u'∧RF fb rb u.ownBlock w w'∧(u'.ownBlock=u.ownBlock∨∀k,u'.ownBlock=some k→w.heap.size≤k):=by
 obtain ⟨i0,hi,hz0,hz1,hz2⟩:=info_parts infoIG;have hcl:=h.cl;obtain ⟨ab,ao,rfl,hab,hac⟩:=h.cls.resolve_left (fun q=>by have:=congrArg List.length q;simp at this;rw [this]at hcl;simp at hcl;omega)
 have c1:=h.hc;have c2:=h.hn;have c3:=h.hr;have d1:=hac t (by simp;omega)
 rw [List.getElem_map]at d1;have ecl:c[t]'(by omega)=clAt c t:=by unfold clAt;rw [List.getElem?_eq_getElem (by omega)];rfl
 rw [ecl]at d1;have d2:=h.num (clAt c t) hx;have d3:=h.numf (clAt c t);have htz:(t:Int)<(n:Int):=by omega
 have hxz:((clAt c t:Nat):Int)<(n:Int):=by omega
 have H:=hideK h;have rf3:=h.hrf;have q1:=h.o1;have q2:=h.o2;have q3:=h.o3;have q4:=h.o4;have q5:=h.o5;clear h;by_cases hm:clAt c t∈R.map (clAt c)
 ·have eA:addR c R t=R:=by unfold addR;rw [if_pos hm]
  have eN:numR c R (clAt c t)=idxR c R t+1:=by unfold numR idxR;rw [if_pos hm]
  rw [eN]at d2;rw [eA];have hb0:(((idxR c R t+1:Nat):Int)==0)=false:=by simp;omega
  have hlt:idxR c R t<1000:=by have:=idx_lt hm;omega
  generalize idxR c R t=y at *;generalize clAt c t=x at *;clear hac ecl eN eA hm;go_enter Tryz.func40,Tryz.ntmps40
  go_wp2_with fail
  go_ret
  exact ⟨rfl,u,H.out,⟨rfl,rfl,rfl,Nat.le_refl _,fun _ _ _ _ _=>rfl⟩,.inl rfl⟩
 ·have eA:addR c R t=R++[t]:=by unfold addR;rw [if_neg hm]
  have eN:numR c R (clAt c t)=0:=by unfold numR;rw [if_neg hm]
  have eI:idxR c (R++[t]) t=R.length:=by
   unfold idxR;rw [List.map_append,List.idxOf_append,if_neg hm];simp
  rw [eN]at d2;rw [eA,eI];have HNA:=hideK (fun x=>num_add c R t x hm)
  have HO:=H.out.own;have LR:=hideK (lit_rowG 3 B2 w (.int .i64 (t:Int)) w.heap.size rfl q5);have OA:=hideK (own_belowG HO ((Below.refl _ _).alloc (Nat.le_refl _) (.cells #[.int .i64 (t:Int)] 3)));have hub:=hideK (own_baseG HO);have hsl:=sliceH_own HO;obtain ⟨ua,uc,rfl⟩:=hsl;have HRC:=hideK (fun w7 v7 ob hg hO hat=>RC.put (w7:=w7) (v7:=v7) (ob:=ob) H.out hx HNA.out hg hO hat)
  have nn1:¬rb=nb:=by omega
  have nn2:¬nb=rb:=by omega
  have nn3:¬rb=fb:=by omega
  have nn4:¬fb=rb:=by omega
  have nn5:¬fb=nb:=by omega
  have nn6:¬nb=fb:=by omega
  have hlow:=hideK (fun (b:Nat) (hb:b<B2) (e:some b=(Value.slice ua R.length uc).ownBlock)=>(show False from by have:=(HO.lt b e.symm).1;omega))
  have al1:(w.alloc (.cells #[.int .i64 (t:Int)] 3)).heap.size=w.heap.size+1:=by simp
  clear hac ecl eN eA hm HO eI;generalize clAt c t=x at *;go_enter Tryz.func40,Tryz.ntmps40
  go_wp2_with (at_builtin;refine wpList_append_rows _ rfl (.tmp 16) (.tmp 18) 54 rfl B2 B2 3 i0 (.int .i64 0) 1 8 Tryz.underlying54 hi hz0 hz1 hz2 rfl (by decide) _ _ _ rfl OA.out _ _ _ rfl LR.out (by simp [Value.oneCell']) (by unfold maxLen;omega) (by omega) (by rw [al1];omega) ?_;intro v7 w7 hO7 hg7 hat7;have hbk:=fun (b o:Nat) (hb:b<B2)=>(World.cell?_of_block (a:=⟨b,o,none⟩) (hg7.block b (by rw [al1];omega) (fun e=>hlow.out b hb e))).trans (World.cell?_of_block (a:=⟨b,o,none⟩) (heap_alloc_old w (.cells #[.int .i64 (t:Int)] 3) (by show b<w.heap.size;omega)));have hfk:=fun (b o:Nat) (hb:b<B2)=>(World.frozen?_of_block (a:=⟨b,o,none⟩) (hg7.block b (by rw [al1];omega) (fun e=>hlow.out b hb e))).trans (World.frozen?_of_block (a:=⟨b,o,none⟩) (heap_alloc_old w (.cells #[.int .i64 (t:Int)] 3) (by show b<w.heap.size;omega)));have e1:=(hbk rb 0 q4).trans c3;have e2:=(hbk nb 0 (by omega)).trans c2;have e3:=(hbk fb x (by omega)).trans d2;have e4:=(hfk rb 0 q4).trans rf3;have e5:=(hfk fb x (by omega)).trans d3;have HR7:=hideK (HRC.out w7 v7 _ hg7 hO7 hat7);obtain ⟨va,vc,rfl⟩:=sliceH_own hO7;clear hbk hfk hO7 hg7 hat7 HRC)
  go_ret
  exact ⟨rfl,_,HR7.out.1,HR7.out.2.1,HR7.out.2.2⟩
end Go.Proofs.YtnedgkcejlhnbaaGreatDoor
