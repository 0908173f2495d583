/-
  Plain mathematics: the places in the order in which they are come to; what is given up, by counting.
-/
import Derived.Test.YtnedgkcejlhnbaaGreatDoorZc
namespace Go.Proofs.YtnedgkcejlhnbaaGreatDoor
def addZ(ps:List Pz)(p:Pz):List Pz:=if p∈ps then ps else ps++[p]
theorem addZ_pre(ps:List Pz)(p:Pz):∃e,addZ ps p=ps++e:=by
 unfold addZ;split
 ·exact ⟨[],by simp⟩
 ·exact ⟨[p],rfl⟩
theorem addZ_mem(ps:List Pz)(p:Pz):p∈addZ ps p:=by
 unfold addZ;split
 ·assumption
 ·simp
theorem foldZ_pre:∀(qs ps:List Pz),∃e,qs.foldl addZ ps=ps++e
 | [],ps=>⟨[],by simp⟩
 | q::qs,ps=>by
  obtain ⟨e1,h1⟩:=addZ_pre ps q;obtain ⟨e2,h2⟩:=foldZ_pre qs (addZ ps q);exact ⟨e1++e2,by rw [List.foldl_cons,h2,h1,List.append_assoc]⟩
theorem foldZ_mem:∀(qs ps:List Pz) (q:Pz),q∈qs→q∈qs.foldl addZ ps
 | [],_,_,h=>by cases h
 | a::qs,ps,q,h=>by
  rw [List.foldl_cons];rcases List.mem_cons.1 h with rfl|h
  ·obtain ⟨e,he⟩:=foldZ_pre qs (addZ ps q)
   rw [he];exact List.mem_append_left _ (addZ_mem ps q)
  ·exact foldZ_mem qs _ q h
theorem foldZ_sub:∀(qs ps:List Pz) (q:Pz),q∈qs.foldl addZ ps→q∈ps∨q∈qs
 | [],_,_,h=>.inl h
 | a::qs,ps,q,h=>by
  rw [List.foldl_cons]at h;rcases foldZ_sub qs _ q h with h|h
  ·unfold addZ at h
   split at h
   ·exact .inl h
   ·rcases List.mem_append.1 h with h|h
    ·exact .inl h
    ·rw [List.mem_singleton]at h;subst h;exact .inr (.head _)
  ·exact .inr (.tail _ h)
theorem addZ_nd{ps:List Pz}(h:ps.Nodup)(p:Pz):(addZ ps p).Nodup:=by
 unfold addZ;split
 ·exact h
 ·rename_i hp
  rw [List.nodup_append];refine ⟨h,by simp,fun a ha b hb e=>?_⟩
  rw [List.mem_singleton]at hb;exact hp (by rw [← hb,← e];exact ha)
theorem foldZ_nd:∀(qs:List Pz) {ps:List Pz},ps.Nodup→(qs.foldl addZ ps).Nodup
 | [],_,h=>h
 | q::qs,ps,h=>by rw [List.foldl_cons];exact foldZ_nd qs (addZ_nd h q)
theorem idx_pre{ps e:List Pz}{p:Pz}(h:p∈ps):(ps++e).idxOf p=ps.idxOf p:=by rw [List.idxOf_append,if_pos h]
theorem idx_addZ(ps:List Pz)(p:Pz):(addZ ps p).idxOf p=if p∈ps then ps.idxOf p else ps.length:=by
 unfold addZ;split
 ·rfl
 ·rename_i h
  rw [List.idxOf_append,if_neg h];simp
theorem nxt_ok{g h:List Nd}(hg:GN g)(hh:GN h){p:Pz}(o:okZ g h p):∀q∈(drP g h p).nxt,okZ g h q:=by
 by_cases hs:0≤(drP g h p).spare
 ·intro q hq
  have K:=kd_any hg hh o hs;have ln:=K.ln;obtain ⟨i,hi,rfl⟩:=List.mem_iff_getElem.1 hq;exact (K.st ((wrd (drP g h p).kind (drP g h p).labs)[i]'(by omega)) _ (by
   unfold dst;rw [List.mem_iff_getElem];exact ⟨i,by rw [List.length_zip];omega,by rw [List.getElem_zip]⟩)).1
 ·have e:(drP g h p).nxt=[]:=by
   unfold drP at hs ⊢;split at hs
   ·exact absurd (Int.le_refl 0) hs
   ·rename_i h2
    rw [if_neg h2];split at hs
    ·exact absurd (Int.le_refl 0) hs
    ·rename_i h1
     rw [if_neg h1];unfold drMN at hs ⊢;split at hs
     ·rename_i h3;rw [if_pos h3];rfl
     ·rename_i h3
      rw [if_neg h3];split at hs
      ·rename_i h4
       rw [if_pos h4];unfold eithD at hs ⊢;split at hs
       ·rename_i h5;rw [if_pos h5];rfl
       ·exact absurd (Int.le_refl 0) hs
      ·rename_i h4
       rw [if_neg h4];unfold bothD at hs ⊢;simp only at hs ⊢;split at hs
       ·exact absurd (Int.le_refl 0) hs
       ·have:(stepsP (nodeAt g p.1.toNat) (nodeAt h p.2.1.toNat) p.2.2).length=0:=by omega
        rw [List.length_eq_zero_iff.1 this];rfl
  rw [e];intro q hq;cases hq
structure DI(g h:List Nd)(p0:Pz)(ps:List Pz)(m:Nat):Prop where
 hd:ps[0]? = some p0
 nd:ps.Nodup
 ok:∀p∈ps,okZ g h p
 le:m≤ps.length
 sh:∀k (hk:k<ps.length),k<m→∀q∈(drP g h ps[k]).nxt,q∈ps
theorem DI.step{g h:List Nd}(hg:GN g)(hh:GN h){p0:Pz}{ps:List Pz}{m:Nat}(D:DI g h p0 ps m)(hm:m<ps.length):DI g h p0 ((drP g h ps[m]).nxt.foldl addZ ps) (m+1):=by
 obtain ⟨e,he⟩:=foldZ_pre (drP g h ps[m]).nxt ps;have hmem:=foldZ_mem (drP g h ps[m]).nxt ps;have hsub:=foldZ_sub (drP g h ps[m]).nxt ps;have hnd:=foldZ_nd (drP g h ps[m]).nxt D.nd;have hok:=nxt_ok hg hh (D.ok _ (List.getElem_mem hm));have hlen:ps.length≤((drP g h ps[m]).nxt.foldl addZ ps).length:=by rw [he];simp
 refine ⟨?_,hnd,fun p hp=>(hsub p hp).elim (D.ok p) (hok p),by omega,fun k hk hkm q hq=>?_⟩
 ·rw [he,List.getElem?_append_left (by omega)];exact D.hd
 ·have hk':k<ps.length:=by omega
  have e1:((drP g h ps[m]).nxt.foldl addZ ps)[k]=ps[k]:=by
   have h1:((drP g h ps[m]).nxt.foldl addZ ps)[k]? = ps[k]?:=by rw [he,List.getElem?_append_left hk']
   rw [List.getElem?_eq_getElem hk,List.getElem?_eq_getElem hk']at h1;exact Option.some.inj h1
  rw [e1]at hq;by_cases hkm':k<m
  ·rw [he];exact List.mem_append_left _ (D.sh k hk' hkm' q hq)
  ·obtain rfl:k=m:=by omega
   exact hmem q hq
def nuZ(h:List Nd)(p:Pz):Nat:=((p.1+1).toNat*(h.length+1)+(p.2.1+1).toNat)*2+(if p.2.2 then 1 else 0)
theorem okZ.num{g h:List Nd}{p:Pz}(o:okZ g h p):(p.1+1).toNat≤g.length∧(p.2.1+1).toNat≤h.length∧-1≤p.1∧-1≤p.2.1:=by
 have h1:=o.1 false;have h2:=o.1 true;simp only [sI,sG]at h1 h2;omega
theorem DI.len{g h:List Nd}{p0:Pz}{ps:List Pz}{m:Nat}(D:DI g h p0 ps m):ps.length≤(g.length+1)*(h.length+1)*2:=by
 have hnd:(ps.map (nuZ h)).Nodup:=by
  refine List.pairwise_map.2 (D.nd.imp_of_mem fun {p q} hp hq hne e=>hne ?_)
  obtain ⟨a1,a2,a3,a4⟩:=(D.ok p hp).num;obtain ⟨b1,b2,b3,b4⟩:=(D.ok q hq).num;unfold nuZ at e;have e1:p.2.2=q.2.2:=by cases h1:p.2.2 <;> cases h2:q.2.2 <;> simp [h1,h2]at e ⊢ <;> omega
  rw [e1]at e;have e2:(p.1+1).toNat*(h.length+1)+(p.2.1+1).toNat=(q.1+1).toNat*(h.length+1)+(q.2.1+1).toNat:=by omega
  have hm1:((p.1+1).toNat*(h.length+1)+(p.2.1+1).toNat) % (h.length+1)=(p.2.1+1).toNat:=by
   rw [Nat.mul_add_mod_self_right,Nat.mod_eq_of_lt (by omega)]
  have hm2:((q.1+1).toNat*(h.length+1)+(q.2.1+1).toNat) % (h.length+1)=(q.2.1+1).toNat:=by
   rw [Nat.mul_add_mod_self_right,Nat.mod_eq_of_lt (by omega)]
  have e3:(p.2.1+1).toNat=(q.2.1+1).toNat:=by rw [← hm1,e2,hm2]
  have e4:(p.1+1).toNat=(q.1+1).toNat:=by
   rw [e3]at e2;exact Nat.eq_of_mul_eq_mul_right (show 0<h.length+1 by omega) (by omega)
  exact Prod.ext (by omega) (Prod.ext (by omega) e1)
 have:=nodup_le ((g.length+1)*(h.length+1)*2) (ps.map (nuZ h)) hnd (fun x hx=>by
  obtain ⟨p,hp,rfl⟩:=List.mem_map.1 hx;obtain ⟨a1,a2,_⟩:=(D.ok p hp).num;unfold nuZ;have h1:(p.1+1).toNat*(h.length+1)≤g.length*(h.length+1):=Nat.mul_le_mul_right _ a1;have h2:(g.length+1)*(h.length+1)=g.length*(h.length+1)+(h.length+1):=Nat.succ_mul _ _;split <;> omega)
 simpa using this
def tosZ(g h:List Nd)(ps:List Pz)(p:Pz):List Nat:=(drP g h p).nxt.map fun q=>ps.idxOf q
def nbL(T:List (List Nat))(x:Nat):Nat→List Nat
 | 0=>[]
 | k+1=>nbL T x k++List.replicate ((T.getD k []).count x) k
theorem nb_lt(T:List (List Nat))(x:Nat):∀m,∀y∈nbL T x m,y<m
 | 0,_,h=>by cases h
 | m+1,y,h=>by
  rw [nbL]at h;rcases List.mem_append.1 h with h|h
  ·have:=nb_lt T x m y h;omega
  ·have:=(List.mem_replicate.1 h).2;omega
theorem nb_count(T:List (List Nat))(x k:Nat):∀m,(nbL T x m).count k=if k<m then (T.getD k []).count x else 0
 | 0=>by simp [nbL]
 | m+1=>by
  rw [nbL,List.count_append,nb_count T x k m,List.count_replicate];rcases Nat.lt_trichotomy k m with h|h|h
  ·rw [if_pos h,if_pos (show k<m+1 by omega),if_neg (show ¬(m==k)=true by simp;omega)];omega
  ·subst h;rw [if_neg (Nat.lt_irrefl k),if_pos (show k<k+1 by omega),if_pos (show (k==k)=true by simp)];omega
  ·rw [if_neg (show ¬k<m by omega),if_neg (show ¬k<m+1 by omega),if_neg (show ¬(m==k)=true by simp;omega)]
def clS(T:List (List Nat))(s0:List Int)(S:Nat→Bool):Prop:=∀k,k<T.length→S k=false→0≤s0.getD k 0∧(((T.getD k []).countP S:Nat):Int)≤s0.getD k 0
def inD(done:List Nat)(x:Nat):Bool:=decide (x∈done)
structure GV(T:List (List Nat))(s0 sp:List Int)(gone done L:List Nat):Prop where
 len:sp.length=T.length
 sp_:∀k,k<T.length→sp.getD k 0=s0.getD k 0 - (L.count k:Int)
 neg:∀k,k<T.length→(sp.getD k 0<0↔k∈gone∨k∈done)
 gl:∀k∈gone,k<T.length
 nd:(gone++done).Nodup
 cn:∀k,k<T.length→L.count k≤(T.getD k []).countP (inD done)
 sd:∀S,clS T s0 S→∀k,k∈gone∨k∈done→S k=true
def gn0(s0:List Int)(m:Nat):List Nat:=(List.range m).filter fun k=>decide (s0.getD k 0<0)
theorem gn0_succ(s0:List Int)(m:Nat):gn0 s0 (m+1)=gn0 s0 m++(if s0.getD m 0<0 then [m] else []):=by
 unfold gn0;rw [List.range_succ,List.filter_append];congr 1
 by_cases h:s0.getD m 0<0
 ·rw [if_pos h];exact List.filter_cons_of_pos (p:=fun k=>decide (s0.getD k 0<0)) (decide_eq_true h)
 ·rw [if_neg h];exact List.filter_cons_of_neg (p:=fun k=>decide (s0.getD k 0<0)) (fun q=>h (of_decide_eq_true q))
theorem GV.start(T:List (List Nat))(s0:List Int)(h:s0.length=T.length):GV T s0 s0 (gn0 s0 T.length) [] []:=by
 have hm:∀k,k∈gn0 s0 T.length↔k<T.length∧s0.getD k 0<0:=fun k=>by unfold gn0;rw [List.mem_filter,List.mem_range,decide_eq_true_eq]
 refine ⟨h,fun k _=>by simp,fun k hk=>⟨fun q=>.inl ((hm k).2 ⟨hk,q⟩),fun q=>q.elim (fun q=>((hm k).1 q).2) (fun q=>by cases q)⟩,fun k hk=>((hm k).1 hk).1,?_,fun k _=>by simp,fun S hS k hk=>?_⟩
 ·rw [List.append_nil]
  unfold gn0;exact List.nodup_range.filter _
 ·rcases hk with hk|hk
  ·obtain ⟨h1,h2⟩:=(hm k).1 hk
   rcases Bool.eq_false_or_eq_true (S k) with q|q
   ·exact q
   ·have:=(hS k h1 q).1;omega
  ·cases hk
theorem countP_done(x:Nat)(done:List Nat)(hx:x ∉ done):∀l:List Nat,l.countP (inD (x::done))=l.countP (inD done)+l.count x
 | []=>rfl
 | a::l=>by
  rw [List.countP_cons,List.countP_cons,List.count_cons,countP_done x done hx l];unfold inD;by_cases h1:a=x
  ·subst h1;simp [hx];omega
  ·by_cases h2:a∈done <;> simp [h1,h2] <;> omega
theorem GV.pop{T:List (List Nat)}{s0 sp:List Int}{gone done L:List Nat}{x:Nat}(G:GV T s0 sp (gone++[x]) done L):GV T s0 sp gone (x::done) L∧x<T.length∧x ∉ done:=by
 have hx:x ∉ done:=by
  have:=G.nd;rw [List.append_assoc,List.nodup_append]at this;have h2:=this.2.1;rw [List.singleton_append,List.nodup_cons]at h2;exact h2.1
 refine ⟨⟨G.len,G.sp_,fun k hk=>?_,fun k hk=>G.gl k (List.mem_append_left _ hk),?_,fun k hk=>?_,fun S hS k hk=>G.sd S hS k ?_⟩,G.gl x (by simp),hx⟩
 ·rw [G.neg k hk,List.mem_append,List.mem_singleton,List.mem_cons,or_assoc]
 ·have:=G.nd
  rw [List.append_assoc,List.singleton_append]at this;exact this
 ·rw [countP_done x done hx]
  have:=G.cn k hk;omega
 ·rw [List.mem_append,List.mem_singleton]
  rw [List.mem_cons]at hk;rcases hk with h|h|h
  ·exact .inl (.inl h)
  ·exact .inl (.inr h)
  ·exact .inr h
theorem getD_set(l:List Int)(k j:Nat)(z:Int)(hk:k<l.length):(l.set k z).getD j 0=if j=k then z else l.getD j 0:=by
 rw [List.getD_eq_getElem?_getD,List.getElem?_set,List.getD_eq_getElem?_getD];by_cases h:k=j
 ·subst h;simp [hk]
 ·rw [if_neg h,if_neg (fun e=>h e.symm)]
theorem GV.step{T:List (List Nat)}{s0 sp:List Int}{gone done L:List Nat}(G:GV T s0 sp gone done L){k:Nat}(hk:k<T.length)(hc:(L++[k]).count k≤(T.getD k []).countP (inD done)):
  GV T s0 (sp.set k (sp.getD k 0 - 1)) (if sp.getD k 0 - 1 = -1 then gone++[k] else gone) done (L++[k]):=by
 have hks:k<sp.length:=by rw [G.len];exact hk
 have e1:(L++[k]).count k=L.count k+1:=by rw [List.count_append];simp
 have ec:∀j,j≠k→(L++[k]).count j=L.count j:=fun j hj=>by
  rw [List.count_append];have:[k].count j=0:=by rw [List.count_eq_zero];simpa using hj
  omega
 have hgk:k ∉ gone∧k ∉ done↔¬sp.getD k 0<0:=by rw [G.neg k hk];exact ⟨fun h q=>q.elim h.1 h.2,fun h=>⟨fun q=>h (.inl q),fun q=>h (.inr q)⟩⟩
 refine ⟨by rw [List.length_set];exact G.len,fun j hj=>?_,fun j hj=>?_,fun j hj=>?_,?_,fun j hj=>?_,fun S hS j hj=>?_⟩
 ·rw [getD_set _ _ _ _ hks]
  by_cases h:j=k
  ·subst h;rw [if_pos rfl,G.sp_ j hj,e1];omega
  ·rw [if_neg h,G.sp_ j hj,ec j h]
 ·rw [getD_set _ _ _ _ hks]
  by_cases h:j=k
  ·subst h
   rw [if_pos rfl];have hn:=G.neg j hj;split
   ·rename_i h1;exact ⟨fun _=>.inl (by simp),fun _=>by omega⟩
   ·rename_i h1
    rw [← hn];omega
  ·rw [if_neg h,G.neg j hj]
   split
   ·rw [List.mem_append,List.mem_singleton]
    exact ⟨fun q=>q.imp .inl id,fun q=>q.imp (fun q=>q.resolve_right h) id⟩
   ·exact Iff.rfl
 ·split at hj
  ·rcases List.mem_append.1 hj with q|q
   ·exact G.gl j q
   ·rw [List.mem_singleton]at q;subst q;exact hk
  ·exact G.gl j hj
 ·split
  ·rename_i h1
   obtain ⟨q1,q2⟩:=hgk.2 (by omega)
   have:=G.nd;rw [List.nodup_append]at this;rw [List.append_assoc,List.nodup_append];refine ⟨this.1,?_,fun a ha b hb=>?_⟩
   ·rw [List.singleton_append,List.nodup_cons];exact ⟨q2,this.2.1⟩
   ·rw [List.singleton_append,List.mem_cons]at hb
    rcases hb with rfl|hb
    ·intro e;rw [e]at ha;exact q1 ha
    ·exact this.2.2 a ha b hb
  ·exact G.nd
 ·by_cases h:j=k
  ·subst h;exact hc
  ·rw [ec j h];exact G.cn j hj
 ·by_cases hold:j∈gone∨j∈done
  ·exact G.sd S hS j hold
  ·split at hj
   ·rename_i h1
    have hjk:j=k:=by
     rcases hj with q|q
     ·rcases List.mem_append.1 q with q|q
      ·exact absurd (.inl q) hold
      ·simpa using q
     ·exact absurd (.inr q) hold
    subst hjk;rcases Bool.eq_false_or_eq_true (S j) with q|q
    ·exact q
    ·have h2:=(hS j hk q).2
     have h3:=G.sp_ j hk;have h4:(T.getD j []).countP (inD done)≤(T.getD j []).countP S:=List.countP_mono_left fun x _ hx=>G.sd S hS x (.inr (of_decide_eq_true hx))
     omega
   ·exact absurd hj hold
def fullL(T:List (List Nat))(done L:List Nat):Prop:=∀k,k<T.length→L.count k=(T.getD k []).countP (inD done)
theorem full_take{T:List (List Nat)}{done L:List Nat}{x:Nat}(F:fullL T done L)(hx:x ∉ done){j:Nat}(hj:j<(nbL T x T.length).length):(nbL T x T.length)[j]<T.length∧(L++(nbL T x T.length).take j++[(nbL T x T.length)[j]]).count (nbL T x T.length)[j]≤(T.getD (nbL T x T.length)[j] []).countP (inD (x::done)):=by
 have hl:=nb_lt T x T.length _ (List.getElem_mem hj);refine ⟨hl,?_⟩;rw [countP_done x done hx,List.append_assoc,List.count_append,F _ hl];have e:(nbL T x T.length).take j++[(nbL T x T.length)[j]]=(nbL T x T.length).take (j+1):=by rw [List.take_add_one,List.getElem?_eq_getElem hj];rfl
 rw [e];have h1:((nbL T x T.length).take (j+1)).count (nbL T x T.length)[j]≤(nbL T x T.length).count (nbL T x T.length)[j]:=(List.take_sublist _ _).count_le _;have h2:=nb_count T x (nbL T x T.length)[j] T.length;rw [if_pos hl]at h2;omega
theorem full_next{T:List (List Nat)}{done L:List Nat}{x:Nat}(F:fullL T done L)(hx:x ∉ done):fullL T (x::done) (L++nbL T x T.length):=fun k hk=>by
 rw [countP_done x done hx,List.count_append,F k hk,nb_count,if_pos hk]
structure GE(T:List (List Nat))(s0 sp:List Int):Prop where
 len:sp.length=T.length
 lv:∀k,k<T.length→0≤sp.getD k 0→0≤s0.getD k 0∧(((T.getD k []).countP (fun x=>decide (sp.getD x 0<0)):Nat):Int)≤s0.getD k 0
 dd:∀S,clS T s0 S→∀k,k<T.length→sp.getD k 0<0→S k=true
theorem GV.end{T:List (List Nat)}{s0 sp:List Int}{done L:List Nat}(G:GV T s0 sp [] done L)(F:fullL T done L)(hT:∀k,k<T.length→∀x∈T.getD k [],x<T.length):GE T s0 sp:=by
 refine ⟨G.len,fun k hk h0=>?_,fun S hS k hk hn=>G.sd S hS k ((G.neg k hk).1 hn)⟩
 have e:(T.getD k []).countP (fun x=>decide (sp.getD x 0<0))=(T.getD k []).countP (inD done):=by
  apply List.countP_congr
  intro x hx;unfold inD;rw [decide_eq_true_eq,decide_eq_true_eq,G.neg x (hT k hk x hx)];simp
 rw [e,← F k hk];have:=G.sp_ k hk;omega
theorem getD_map{α : Type}(f : α → Int)(l:List α)(k:Nat)(hk:k<l.length):(l.map f).getD k 0=f l[k]:=by
 rw [List.getD_eq_getElem?_getD,List.getElem?_map,List.getElem?_eq_getElem hk];rfl
theorem getD_mapL{α : Type}(f : α → List Nat)(l:List α)(k:Nat)(hk:k<l.length):(l.map f).getD k []=f l[k]:=by
 rw [List.getD_eq_getElem?_getD,List.getElem?_map,List.getElem?_eq_getElem hk];rfl
def alZ(ps:List Pz)(sp:List Int)(p:Pz):Bool:=decide (0≤sp.getD (ps.idxOf p) 0)
theorem bnd_of{g h:List Nd}{p0:Pz}{ps:List Pz}{sp:List Int}(D:DI g h p0 ps ps.length)(E:GE (ps.map (tosZ g h ps)) (ps.map fun p=>(drP g h p).spare) sp):BND g h p0 ps (alZ ps sp):=by
 have hsh:∀p∈ps,∀q∈(drP g h p).nxt,q∈ps:=fun p hp q hq=>by
  obtain ⟨k,hk,rfl⟩:=List.mem_iff_getElem.1 hp;exact D.sh k hk hk q hq
 have hL:(ps.map (tosZ g h ps)).length=ps.length:=by simp
 refine ⟨List.mem_of_getElem? D.hd,D.ok,hsh,fun p hp ha=>?_,fun S hS p hp ha=>?_⟩
 ·have hi:=List.idxOf_lt_length_of_mem hp
  have ep:=List.getElem_idxOf hi;unfold alZ at ha;rw [decide_eq_true_eq]at ha;obtain ⟨h1,h2⟩:=E.lv (ps.idxOf p) (by rw [hL];exact hi) ha
  rw [getD_map _ _ _ hi,ep]at h1 h2;rw [getD_mapL _ _ _ hi,ep]at h2;refine ⟨h1,?_⟩;have e:(tosZ g h ps p).countP (fun x=>decide (sp.getD x 0<0))=((drP g h p).nxt.filter fun q=>!alZ ps sp q).length:=by
   unfold tosZ;rw [List.countP_map,← List.countP_eq_length_filter];apply List.countP_congr
   intro q _;unfold alZ;simp only [Function.comp,decide_eq_true_eq,Bool.not_eq_true',decide_eq_false_iff_not];omega
  rw [← e];exact h2
 ·have hi:=List.idxOf_lt_length_of_mem hp
  unfold alZ at ha;rw [decide_eq_false_iff_not]at ha;have:=E.dd (fun k=>S (ps.getD k p0)) (fun k hk hs=>?_) (ps.idxOf p) (by rw [hL];exact hi) (by omega)
  ·have e:ps.getD (ps.idxOf p) p0=p:=by rw [List.getD_eq_getElem?_getD,List.getElem?_eq_getElem hi,List.getElem_idxOf hi];rfl
   simp only [e]at this;exact this
  ·rw [hL]at hk
   have e:ps.getD k p0=ps[k]:=by rw [List.getD_eq_getElem?_getD,List.getElem?_eq_getElem hk];rfl
   simp only [e]at hs;obtain ⟨h1,h2⟩:=hS ps[k] (List.getElem_mem hk) hs;rw [getD_map _ _ _ hk,getD_mapL _ _ _ hk];refine ⟨h1,?_⟩;have e2:(tosZ g h ps ps[k]).countP (fun k=>S (ps.getD k p0))=((drP g h ps[k]).nxt.filter S).length:=by
    unfold tosZ;rw [List.countP_map,← List.countP_eq_length_filter];apply List.countP_congr
    intro q hq;have hq':=List.idxOf_lt_length_of_mem (hsh _ (List.getElem_mem hk) q hq);have e3:ps.getD (ps.idxOf q) p0=q:=by rw [List.getD_eq_getElem?_getD,List.getElem?_eq_getElem hq',List.getElem_idxOf hq'];rfl
    simp only [Function.comp,e3]
   rw [e2];exact h2
end Go.Proofs.YtnedgkcejlhnbaaGreatDoor
