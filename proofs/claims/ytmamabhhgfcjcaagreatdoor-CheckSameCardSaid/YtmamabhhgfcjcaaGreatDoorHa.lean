/-
  Plain mathematics: graphs, what a node does up to a depth, and the classes of nodes that do the same, split until nothing is split any more.
-/
import Derived.Test.YtmamabhhgfcjcaaGreatDoorProg
namespace Go.Proofs.YtmamabhhgfcjcaaGreatDoor
structure Nd where
 kind:Int
 so:Int
 labs:List ByteArray
 to:List Nat
structure Tr where
 kind:Int
 so:Int
 labs:List ByteArray
 kids:List Tr
def nd0:Nd:=⟨0,0,[],[]⟩
def nodeAt(g:List Nd)(i:Nat):Nd:=(g[i]?).getD nd0
def gT(g:List Nd):Nat→Nat→Tr
 | 0,_=>⟨0,0,[],[]⟩
 | k+1,i=>⟨(nodeAt g i).kind,(nodeAt g i).so,(nodeAt g i).labs,(nodeAt g i).to.map (gT g k)⟩
theorem gT_succ(g:List Nd)(k i:Nat):gT g (k+1) i=⟨(nodeAt g i).kind,(nodeAt g i).so,(nodeAt g i).labs,(nodeAt g i).to.map (gT g k)⟩:=rfl
theorem nodeAt_lt(g:List Nd)(i:Nat)(h:i<g.length):nodeAt g i=g[i]:=by unfold nodeAt;rw [List.getElem?_eq_getElem h];rfl
def shutG(g:List Nd):Prop:=∀n∈g,∀t∈n.to,t<g.length
theorem shut_at{g:List Nd}(h:shutG g)(i t:Nat)(ht:t∈(nodeAt g i).to):t<g.length:=by
 by_cases hi:i<g.length
 ·rw [nodeAt_lt g i hi]at ht;exact h _ (List.getElem_mem hi) t ht
 ·unfold nodeAt at ht;rw [List.getElem?_eq_none (by omega)]at ht;simp [nd0]at ht
theorem map_eq_of2{α β γ δ : Type}(f : α → γ)(f' : β → γ)(F : α → δ)(F' : β → δ):∀(l:List α) (l':List β),(∀a∈l,∀b∈l',f a=f' b→F a=F' b)→l.map f=l'.map f'→l.map F=l'.map F'
 | [],[],_,_=>rfl
 | [],b::l',_,h=>by simp at h
 | a::l,[],_,h=>by simp at h
 | a::l,b::l',hh,h=>by
  simp only [List.map_cons,List.cons.injEq]at h ⊢;exact ⟨hh a (.head _) b (.head _) h.1,map_eq_of2 f f' F F' l l' (fun a ha b hb=>hh a (.tail _ ha) b (.tail _ hb)) h.2⟩
theorem gT_eq_iff(g h:List Nd)(k i j:Nat):gT g (k+1) i=gT h (k+1) j↔(nodeAt g i).kind=(nodeAt h j).kind∧(nodeAt g i).so=(nodeAt h j).so∧(nodeAt g i).labs=(nodeAt h j).labs∧(nodeAt g i).to.map (gT g k)=(nodeAt h j).to.map (gT h k):=by
 rw [gT_succ,gT_succ,Tr.mk.injEq]
theorem gT_down(g h:List Nd):∀k i j,gT g (k+1) i=gT h (k+1) j→gT g k i=gT h k j
 | 0,_,_,_=>rfl
 | k+1,i,j,e=>by
  rw [gT_eq_iff]at e ⊢;exact ⟨e.1,e.2.1,e.2.2.1,map_eq_of2 _ _ _ _ _ _ (fun a _ b _ hab=>gT_down g h k a b hab) e.2.2.2⟩
theorem gT_downs(g h:List Nd)(i j:Nat):∀m k,gT g (k+m) i=gT h (k+m) j→gT g k i=gT h k j
 | 0,_,e=>e
 | m+1,k,e=>gT_downs g h i j m k (gT_down g h (k+m) i j e)
def alikeG(g h:List Nd)(i j:Nat):Prop:=∀k,gT g k i=gT h k j
theorem alike_refl(g:List Nd)(i:Nat):alikeG g g i i:=fun _=>rfl
theorem alike_symm{g h:List Nd}{i j:Nat}(e:alikeG g h i j):alikeG h g j i:=fun k=>(e k).symm
theorem alike_trans{g h f:List Nd}{i j l:Nat}(e:alikeG g h i j)(e2:alikeG h f j l):alikeG g f i l:=fun k=>(e k).trans (e2 k)
theorem map_all{α β γ : Type}(f:Nat→α → γ)(f':Nat→β → γ):∀(l:List α) (l':List β),l.length=l'.length→(∀k,l.map (f k)=l'.map (f' k))→∀i (h:i<l.length) (h':i<l'.length) k,f k l[i]=f' k l'[i]:=by
 intro l l' _ h i hi hi' k;have:=List.getElem_of_eq (h k) (by simpa using hi)
 simpa using this
theorem alike_next{g h:List Nd}{i j:Nat}(e:alikeG g h i j):(nodeAt g i).kind=(nodeAt h j).kind∧(nodeAt g i).so=(nodeAt h j).so∧(nodeAt g i).labs=(nodeAt h j).labs∧(nodeAt g i).to.length=(nodeAt h j).to.length ∧
  ∀k (hk:k<(nodeAt g i).to.length) (hk':k<(nodeAt h j).to.length),alikeG g h (nodeAt g i).to[k] (nodeAt h j).to[k]:=by
 have h1:=(gT_eq_iff g h 0 i j).1 (e 1);have hl:(nodeAt g i).to.length=(nodeAt h j).to.length:=by have:=congrArg List.length h1.2.2.2;simpa using this
 exact ⟨h1.1,h1.2.1,h1.2.2.1,hl,fun k hk hk' m=>map_all _ _ _ _ hl (fun m=>((gT_eq_iff g h m i j).1 (e (m+1))).2.2.2) k hk hk' m⟩
abbrev Key:=Int × Int × List (List UInt8) × List Nat
def keyOfN(c:List Nat)(n:Nd):Key:=(n.kind,n.so,n.labs.map (·.data.toList),n.to.map fun t=>(c[t]?).getD 0)
def splitStep(c:List Nat)(s:List Key × List Nat)(n:Nd):List Key × List Nat :=
 if keyOfN c n∈s.1 then (s.1,s.2++[s.1.idxOf (keyOfN c n)]) else (s.1++[keyOfN c n],s.2++[s.1.length])
def splitG(g:List Nd)(c:List Nat):List Key × List Nat:=g.foldl (splitStep c) ([],[])
def cnt(c:List Nat):Nat:=(List.range c.length).countP fun i=>decide ((c[i]?).getD 0 ∉ c.take i)
theorem cnt_snoc(c:List Nat)(x:Nat):cnt (c++[x])=cnt c+if x∈c then 0 else 1:=by
 unfold cnt;rw [List.length_append,List.length_singleton,List.range_succ,List.countP_append];congr 1
 ·apply List.countP_congr
  intro i hi;have hi':i<c.length:=by simpa using hi
  rw [List.getElem?_append_left hi',List.take_append_of_le_length (by omega)]
 ·rw [List.countP_singleton,List.getElem?_append_right (Nat.le_refl _),Nat.sub_self,List.take_append_of_le_length (Nat.le_refl _),List.take_length]
  by_cases hx:x∈c <;> simp [hx]
structure SInv(c:List Nat)(p:List Nd)(s:List Key × List Nat):Prop where
 nd:s.1.Nodup
 mem:∀d,d∈s.1↔∃n∈p,keyOfN c n=d
 len:s.2.length=p.length
 at_:∀i (h:i<p.length),(s.2[i]?).getD 0=s.1.idxOf (keyOfN c p[i])
 cn:s.1.length=cnt s.2
theorem SInv.val{c:List Nat}{p:List Nd}{s:List Key × List Nat}(h:SInv c p s)(z:Nat):z∈s.2↔∃i,∃hi:i<p.length,z=s.1.idxOf (keyOfN c p[i]):=by
 rw [List.mem_iff_getElem];constructor
 ·rintro ⟨i,hi,rfl⟩
  have hp:i<p.length:=by rw [← h.len];exact hi
  refine ⟨i,hp,?_⟩;rw [← h.at_ i hp,List.getElem?_eq_getElem hi];rfl
 ·rintro ⟨i,hi,rfl⟩
  have hs:i<s.2.length:=by rw [h.len];exact hi
  refine ⟨i,hs,?_⟩;rw [← h.at_ i hi,List.getElem?_eq_getElem hs];rfl
theorem SInv.step{c:List Nat}{p:List Nd}{s:List Key × List Nat}(h:SInv c p s)(n:Nd):SInv c (p++[n]) (splitStep c s n):=by
 unfold splitStep;have hkm:∀i (hi:i<p.length),keyOfN c p[i]∈s.1:=fun i hi=>(h.mem _).2 ⟨_,List.getElem_mem hi,rfl⟩
 by_cases hk:keyOfN c n∈s.1
 ·rw [if_pos hk]
  refine ⟨h.nd,fun d=>?_,by simp [h.len],fun i hi=>?_,?_⟩
  ·rw [h.mem]
   constructor
   ·rintro ⟨m,hm,e⟩;exact ⟨m,List.mem_append_left _ hm,e⟩
   ·rintro ⟨m,hm,e⟩
    rcases List.mem_append.1 hm with hm|hm
    ·exact ⟨m,hm,e⟩
    ·rw [List.mem_singleton]at hm;subst hm;subst e;exact (h.mem _).1 hk
  ·by_cases hi':i<p.length
   ·rw [List.getElem?_append_left (by rw [h.len];exact hi'),List.getElem_append_left hi'];exact h.at_ i hi'
   ·obtain rfl:i=p.length:=by simp at hi;omega
    rw [List.getElem?_append_right (by rw [h.len];exact Nat.le_refl _),h.len,Nat.sub_self,List.getElem_append_right (Nat.le_refl _)]
    simp
  ·show s.1.length=cnt (s.2++[s.1.idxOf (keyOfN c n)])
   rw [cnt_snoc,if_pos,h.cn];· rfl
   obtain ⟨m,hm,e⟩:=(h.mem _).1 hk;obtain ⟨i,hi,rfl⟩:=List.mem_iff_getElem.1 hm;exact (h.val _).2 ⟨i,hi,by rw [e]⟩
 ·rw [if_neg hk]
  refine ⟨?_,fun d=>?_,by simp [h.len],fun i hi=>?_,?_⟩
  ·show (s.1++[keyOfN c n]).Nodup
   rw [List.nodup_append];refine ⟨h.nd,by simp,fun a ha b hb=>?_⟩
   rw [List.mem_singleton]at hb;subst hb;rintro rfl;exact hk ha
  ·show d∈s.1++[keyOfN c n]↔_
   rw [List.mem_append,h.mem,List.mem_singleton];constructor
   ·rintro (⟨m,hm,e⟩|e)
    ·exact ⟨m,List.mem_append_left _ hm,e⟩
    ·exact ⟨n,List.mem_append_right _ (.head _),e.symm⟩
   ·rintro ⟨m,hm,e⟩
    rcases List.mem_append.1 hm with hm|hm
    ·exact .inl ⟨m,hm,e⟩
    ·rw [List.mem_singleton]at hm;subst hm;exact .inr e.symm
  ·show ((s.2++[s.1.length])[i]?).getD 0=(s.1++[keyOfN c n]).idxOf (keyOfN c (p++[n])[i])
   by_cases hi':i<p.length
   ·rw [List.getElem?_append_left (by rw [h.len];exact hi'),List.getElem_append_left hi',h.at_ i hi',List.idxOf_append,if_pos (hkm i hi')]
   ·obtain rfl:i=p.length:=by simp at hi;omega
    rw [List.getElem?_append_right (by rw [h.len];exact Nat.le_refl _),h.len,Nat.sub_self,List.getElem_append_right (Nat.le_refl _)]
    rw [List.idxOf_append,if_neg (by simpa using hk)]
    simp
  ·show (s.1++[keyOfN c n]).length=cnt (s.2++[s.1.length])
   rw [cnt_snoc,if_neg,List.length_append,h.cn];· rfl
   intro hm;obtain ⟨i,hi,e⟩:=(h.val _).1 hm;have:=List.idxOf_lt_length_of_mem (hkm i hi);omega
theorem split_fold(c:List Nat):∀(g p:List Nd) (s:List Key × List Nat),SInv c p s→SInv c (p++g) (g.foldl (splitStep c) s)
 | [],p,s,h=>by simpa using h
 | n::g,p,s,h=>by
  have:=split_fold c g (p++[n]) _ (h.step n);rw [List.append_assoc]at this;exact this
theorem split_inv(g:List Nd)(c:List Nat):SInv c g (splitG g c):=by
 have:=split_fold c g [] ([],[]) ⟨List.nodup_nil,fun d=>by simp,rfl,fun i h=>absurd h (Nat.not_lt_zero _),rfl⟩
 simpa [splitG] using this
def clAt(c:List Nat)(i:Nat):Nat:=(c[i]?).getD 0
theorem idxOf_inj{l:List Key}{a b:Key}(ha:a∈l)(h:l.idxOf a=l.idxOf b)(hb:b∈l):a=b:=by
 have h1:=List.getElem_idxOf (List.idxOf_lt_length_of_mem ha);have h2:=List.getElem_idxOf (List.idxOf_lt_length_of_mem hb);rw [← h1,← h2];congr 1
theorem split_eq(g:List Nd)(c:List Nat)(i j:Nat)(hi:i<g.length)(hj:j<g.length):clAt (splitG g c).2 i=clAt (splitG g c).2 j↔keyOfN c g[i]=keyOfN c g[j]:=by
 have h:=split_inv g c;unfold clAt;rw [h.at_ i hi,h.at_ j hj];constructor
 ·intro e
  exact idxOf_inj ((h.mem _).2 ⟨_,List.getElem_mem hi,rfl⟩) e ((h.mem _).2 ⟨_,List.getElem_mem hj,rfl⟩)
 ·intro e;rw [e]
theorem split_lt(g:List Nd)(c:List Nat)(i:Nat)(hi:i<g.length):clAt (splitG g c).2 i<(splitG g c).1.length:=by
 have h:=split_inv g c;unfold clAt;rw [h.at_ i hi];exact List.idxOf_lt_length_of_mem ((h.mem _).2 ⟨_,List.getElem_mem hi,rfl⟩)
end Go.Proofs.YtmamabhhgfcjcaaGreatDoor
