/-
  Plain mathematics: the search of the first place at which one graph fails to be below another one, and what it tells.
-/
import Derived.Test.YtnedgkcejlhnbaaGreatDoorPk
import Derived.Test.YtnedgkcejlhnbaaGreatDoorZb
namespace Go.Proofs.YtnedgkcejlhnbaaGreatDoor
def failB(m n:Nd):Bool:=if m.kind≠n.kind∨m.so≠n.so then true else if m.kind=7 then !(m.labs.all fun l=>hasN n.labs l) else !(n.labs.all fun l=>hasN m.labs l)
theorem failB_iff(m n:Nd):failB m n=false↔okI m n:=by
 unfold failB okI;by_cases h1:m.kind≠n.kind∨m.so≠n.so
 ·rw [if_pos h1]
  constructor
  ·intro h;cases h
  ·rintro ⟨a,b,_⟩;rcases h1 with h1|h1
   ·exact absurd a h1
   ·exact absurd b h1
 ·rw [if_neg h1]
  have a:m.kind=n.kind:=Decidable.byContradiction fun h=>h1 (.inl h)
  have b:m.so=n.so:=Decidable.byContradiction fun h=>h1 (.inr h)
  by_cases h7:m.kind=7
  ·rw [if_pos h7,if_pos h7]
   simp only [Bool.not_eq_false',List.all_eq_true,hasN_iff];exact ⟨fun h=>⟨a,b,h⟩,fun h=>h.2.2⟩
  ·rw [if_neg h7,if_neg h7]
   simp only [Bool.not_eq_false',List.all_eq_true,hasN_iff];exact ⟨fun h=>⟨a,b,h⟩,fun h=>h.2.2⟩
def failP(g h:List Nd)(p:Pl):Bool:=if p.2.2=true then failB (nodeAt h p.2.1) (nodeAt g p.1) else failB (nodeAt g p.1) (nodeAt h p.2.1)
theorem failP_iff(g h:List Nd)(p:Pl):failP g h p=false↔okP g h p:=by
 unfold failP okP;split
 ·exact failB_iff _ _
 ·exact failB_iff _ _
def nextS(g h:List Nd)(p:Pl):List Stp:=stepsP (nodeAt g p.1) (nodeAt h p.2.1) p.2.2
def numP(h:Nat)(p:Pl):Nat:=(p.1*h+p.2.1)*2+if p.2.2=true then 1 else 0
theorem numP_lt{g h:Nat}{p:Pl}(h1:p.1<g)(h2:p.2.1<h):numP h p<2*g*h:=by
 unfold numP;have:p.1*h+h≤g*h:=by
  have:=Nat.mul_le_mul_right h (show p.1+1≤g from h1)
  rw [Nat.add_mul,Nat.one_mul]at this;exact this
 have e:2*g*h=2*(g*h):=Nat.mul_assoc 2 g h;rw [e];split <;> omega
theorem numP_inj{h:Nat}{p q:Pl}(h1:p.2.1<h)(h2:q.2.1<h)(e:numP h p=numP h q):p=q:=by
 obtain ⟨a,b,t⟩:=p;obtain ⟨a',b',t'⟩:=q;unfold numP at e;simp only at e h1 h2;have e1:a*h+b=a'*h+b'∧t=t':=by
  cases t <;> cases t' <;> simp at e ⊢ <;> omega
 have e2:a=a':=by
  rcases Nat.lt_trichotomy a a' with hl|hl|hl
  ·have:=Nat.mul_le_mul_right h (show a+1≤a' from hl)
   rw [Nat.add_mul,Nat.one_mul]at this;omega
  ·exact hl
  ·have:=Nat.mul_le_mul_right h (show a'+1≤a from hl)
   rw [Nat.add_mul,Nat.one_mul]at this;omega
 subst e2;have e3:b=b':=by omega
 rw [e3,e1.2]
theorem step_lt{g h:List Nd}(hg:GN g)(hh:GN h){p:Pl}(h1:p.1<g.length)(h2:p.2.1<h.length)(ho:okP g h p):∀s∈nextS g h p,s.2.1<g.length∧s.2.2.1<h.length:=by
 have hk:(nodeAt g p.1).kind=(nodeAt h p.2.1).kind:=by
  unfold okP at ho;split at ho
  ·exact ho.1.symm
  ·exact ho.1
 have lg:=okN_len (hg.at_ h1);have lh:=okN_len (hh.at_ h2);intro s hs;unfold nextS stepsP at hs;split at hs
 ·rename_i hc
  rw [List.mem_singleton]at hs;subst hs;exact ⟨hg.to_ 0 (lg.1 hc),hh.to_ 0 (lh.1 (by rw [← hk];exact hc))⟩
 split at hs
 ·rename_i hc
  have q1:=lg.2.1 hc;have q2:=lh.2.1 (by rw [← hk];exact hc)
  rcases List.mem_cons.1 hs with rfl|hs
  ·exact ⟨hg.to_ 0 (by omega),hh.to_ 0 (by omega)⟩
  ·rw [List.mem_singleton]at hs;subst hs
   exact ⟨hg.to_ 1 q1,hh.to_ 1 q2⟩
 ·obtain ⟨x,l,hx,hm,rfl⟩:=mem_lab.1 hs
  exact ⟨hg.to_ x (lg.2.2 x (List.getElem?_eq_some_iff.1 hx).1),hh.to_ _ (lh.2.2 _ (idxB_lt hm))⟩
def kdD(k:Int):Int:=if k=2 then 3 else if k=3 then 2 else if k=4 then 5 else if k=5 then 4 else if k=6 then 7 else if k=7 then 6 else k
def tuL(n:Nd)(N:Nat):List Nat:=if n.kind=4∨n.kind=5 then (match n.to with | []=>[] | a::r=>(a+N)::r) else n.to
def keL(n:Nd)(N:Nat):List Nat:=n.to.map fun t=>t+N
def othT(N:Nat)(n:Nd):Nd:=⟨kdD n.kind,n.so,n.labs,tuL n N⟩
def othK(N:Nat)(n:Nd):Nd:=⟨n.kind,n.so,n.labs,keL n N⟩
def othG(g:List Nd):List Nd:=g.map (othT g.length)++g.map (othK g.length)
theorem okN_mk{n:Nd}(h:(n.kind=1∧n.so=0∧n.labs=[]∧n.to.length=0)∨((n.kind=2∨n.kind=3)∧(n.so=1∨n.so=2∨n.so=3)∧n.labs=[]∧n.to.length=1)∨((n.kind=4∨n.kind=5)∧n.so=0∧n.labs=[]∧n.to.length=2)∨((n.kind=6∨n.kind=7)∧n.so=0∧labsOK n.labs=true∧n.to.length=n.labs.length)):okN n:=by
 unfold okN partT;have he:(⟨#[]⟩:ByteArray).toList.isEmpty=true:=by rw [ByteArray.toList_eq];rfl
 simp only [List.length_map,he];rcases h with ⟨h1,h2,h3,h4⟩|⟨h1,h2,h3,h4⟩|⟨h1,h2,h3,h4⟩|⟨h1,h2,h3,h4⟩
 ·rw [if_pos h1];simp [h2,h3,h4]
 ·rw [if_neg (by omega),if_pos h1];simp [h2,h3,h4]
 ·rw [if_neg (by omega),if_neg (by omega),if_pos h1];simp [h2,h3,h4]
 ·rw [if_neg (by omega),if_neg (by omega),if_neg (by omega),if_pos h1];simp [h2,h3,h4]
theorem kdD_cases(k:Int):(k=2→kdD k=3)∧(k=3→kdD k=2)∧(k=4→kdD k=5)∧(k=5→kdD k=4)∧(k=6→kdD k=7)∧(k=7→kdD k=6)∧(k=1→kdD k=1):=by
 refine ⟨?_,?_,?_,?_,?_,?_,?_⟩ <;> (intro h;subst h;decide)
theorem tuL_len(n:Nd)(N:Nat):(tuL n N).length=n.to.length:=by
 unfold tuL;split
 ·split
  ·rename_i e;rw [e]
  ·rename_i e;rw [e];rfl
 ·rfl
theorem oth_ok{n:Nd}(N:Nat)(h:okN n):okN (othT N n)∧okN (othK N n):=by
 have kd:=kdD_cases n.kind;have hl:=tuL_len n N;have hk:(keL n N).length=n.to.length:=by simp [keL]
 constructor
 ·refine okN_mk ?_
  show (kdD n.kind=1∧n.so=0∧n.labs=[]∧(tuL n N).length=0)∨_
  rw [hl];rcases okN_cases h with ⟨h1,h2,h3,h4⟩|⟨h1,h2,h3,h4⟩|⟨h1,h2,h3,h4⟩|⟨h1,h2,h3,h4⟩
  ·exact .inl ⟨kd.2.2.2.2.2.2 h1,h2,h3,h4⟩
  ·exact .inr (.inl ⟨h1.elim (fun e=>.inr (kd.1 e)) (fun e=>.inl (kd.2.1 e)),h2,h3,by show (tuL n N).length=1;omega⟩)
  ·exact .inr (.inr (.inl ⟨h1.elim (fun e=>.inr (kd.2.2.1 e)) (fun e=>.inl (kd.2.2.2.1 e)),h2,h3,by show (tuL n N).length=2;omega⟩))
  ·exact .inr (.inr (.inr ⟨h1.elim (fun e=>.inr (kd.2.2.2.2.1 e)) (fun e=>.inl (kd.2.2.2.2.2.1 e)),h2,h3,by show (tuL n N).length=n.labs.length;omega⟩))
 ·refine okN_mk ?_
  have:=okN_cases h;show (n.kind=1∧n.so=0∧n.labs=[]∧(keL n N).length=0)∨((n.kind=2∨n.kind=3)∧(n.so=1∨n.so=2∨n.so=3)∧n.labs=[]∧(keL n N).length=1)∨((n.kind=4∨n.kind=5)∧n.so=0∧n.labs=[]∧(keL n N).length=2)∨((n.kind=6∨n.kind=7)∧n.so=0∧labsOK n.labs=true∧(keL n N).length=n.labs.length)
  rw [hk];exact this
theorem oth_len(g:List Nd):(othG g).length=2*g.length:=by simp [othG];omega
theorem tuL_lt{n:Nd}{N:Nat}(h:∀t∈n.to,t<N):∀t∈tuL n N,t<2*N:=by
 intro t ht;unfold tuL at ht;split at ht
 ·split at ht
  ·cases ht
  ·rename_i a r e
   rcases List.mem_cons.1 ht with rfl|ht
   ·have:=h a (by rw [e];exact .head _);omega
   ·have:=h t (by rw [e];exact .tail _ ht);omega
 ·have:=h t ht;omega
theorem oth_gn{g:List Nd}(hg:GN g)(hl:g.length≤100):GN (othG g):=by
 refine ⟨by rw [oth_len];have:=hg.pos;omega,by rw [oth_len];omega,fun n hn=>?_,fun n hn t ht=>?_⟩
 ·unfold othG at hn
  rcases List.mem_append.1 hn with hn|hn
  ·obtain ⟨m,hm,rfl⟩:=List.mem_map.1 hn;exact (oth_ok _ (hg.ok m hm)).1
  ·obtain ⟨m,hm,rfl⟩:=List.mem_map.1 hn;exact (oth_ok _ (hg.ok m hm)).2
 ·rw [oth_len]
  unfold othG at hn;rcases List.mem_append.1 hn with hn|hn
  ·obtain ⟨m,hm,rfl⟩:=List.mem_map.1 hn
   exact tuL_lt (fun t ht=>hg.shut m hm t ht) t ht
  ·obtain ⟨m,hm,rfl⟩:=List.mem_map.1 hn
   obtain ⟨x,hx,rfl⟩:=List.mem_map.1 ht;have:=hg.shut m hm x hx;omega
theorem oth_at1{g:List Nd}{i:Nat}(hi:i<g.length):nodeAt (othG g) i=othT g.length (nodeAt g i):=by
 rw [nodeAt_lt g i hi];refine nodeAt_some ?_;unfold othG;rw [List.getElem?_append_left (by simpa using hi),List.getElem?_map,List.getElem?_eq_getElem hi]
 rfl
theorem oth_at2{g:List Nd}{i:Nat}(hi:i<g.length):nodeAt (othG g) (i+g.length)=othK g.length (nodeAt g i):=by
 rw [nodeAt_lt g i hi];refine nodeAt_some ?_;unfold othG;rw [List.getElem?_append_right (by simp),List.length_map,Nat.add_sub_cancel,List.getElem?_map,List.getElem?_eq_getElem hi]
 rfl
theorem oth_kept{g:List Nd}(hg:GN g):∀(k i:Nat),i<g.length→gT (othG g) k (i+g.length)=gT g k i
 | 0,_,_=>rfl
 | k+1,i,hi=>by
  rw [gT_eq_iff,oth_at2 hi];refine ⟨rfl,rfl,rfl,?_⟩;show (((nodeAt g i).to.map fun t=>t+g.length).map _)=_
  rw [List.map_map];exact List.map_congr_left fun t ht=>oth_kept hg k t (shut_at hg.shut i t ht)
theorem bl_resp{g h g' h':List Nd}(Hg:GN g)(Hh:GN h)(Hg':GN g')(Hh':GN h'){k i j i' j':Nat}(hi:i<g.length)(hj:j<h.length)(hi':i'<g'.length)(hj':j'<h'.length)(e1:gT g' k i'=gT g k i)(e2:gT h' k j'=gT h k j):bl k g' h' i' j'↔bl k g h i j:=by
 constructor
 ·intro hb
  exact bl_trans k g g' h i i' j (bl_alike k g g' i i' Hg Hg' hi hi' e1.symm) (bl_trans k g' h' h i' j' j hb (bl_alike k h' h j' j Hh' Hh hj' hj e2))
 ·intro hb
  exact bl_trans k g' g h' i' i j' (bl_alike k g' g i' i Hg' Hg hi' hi e1) (bl_trans k g h h' i j j' hb (bl_alike k h h' j j' Hh Hh' hj hj' e2.symm))
theorem tuL_0{n:Nd}{N:Nat}(hk:n.kind=4∨n.kind=5)(hl:1<n.to.length):toAt (othT N n) 0=toAt n 0+N∧toAt (othT N n) 1=toAt n 1:=by
 unfold toAt othT tuL;simp only;rw [if_pos hk];match hq:n.to,hl with
 | a::b::r,_=>exact ⟨rfl,rfl⟩
theorem tuL_x{n:Nd}{N:Nat}(hk:¬(n.kind=4∨n.kind=5))(x:Nat):toAt (othT N n) x=toAt n x:=by
 unfold toAt othT tuL;simp only;rw [if_neg hk]
theorem kdD_inj{n m:Nd}(hn:okN n)(hm:okN m)(h:kdD n.kind=kdD m.kind):n.kind=m.kind:=by
 have a:=okN_cases hn;have b:=okN_cases hm;unfold kdD at h;split at h <;> split at h <;> (try omega) <;> (repeat' split at h) <;> omega
theorem bl_dual{g h:List Nd}(hg:GN g)(hh:GN h)(lg:g.length≤100)(lh:h.length≤100):∀(k i j:Nat),i<g.length→j<h.length→(bl k (othG h) (othG g) j i↔bl k g h i j)
 | 0,_,_,_,_=>⟨fun _=>trivial,fun _=>trivial⟩
 | k+1,i,j,hi,hj=>by
  have og:=oth_gn hg lg;have oh:=oth_gn hh lh;have ng:=hg.at_ hi;have nh:=hh.at_ hj;have cg:=okN_cases ng;have ch:=okN_cases nh;have Lg:=okN_len ng;have Lh:=okN_len nh;have kg:=kdD_cases (nodeAt g i).kind;have kh:=kdD_cases (nodeAt h j).kind;have kept:∀a b,a<g.length→b<h.length→(bl k (othG g) (othG h) (a+g.length) (b+h.length)↔bl k g h a b):=fun a b ha hb=>bl_resp hg hh og oh ha hb (by rw [oth_len];omega) (by rw [oth_len];omega) (oth_kept hg k a ha) (oth_kept hh k b hb)
  have kept2:∀a b,a<g.length→b<h.length→(bl k (othG h) (othG g) (b+h.length) (a+g.length)↔bl k h g b a):=fun a b ha hb=>bl_resp hh hg oh og hb ha (by rw [oth_len];omega) (by rw [oth_len];omega) (oth_kept hh k b hb) (oth_kept hg k a ha)
  rw [bl_succ,bl_succ,oth_at1 hi,oth_at1 hj];have hkind:kdD (nodeAt h j).kind=kdD (nodeAt g i).kind↔(nodeAt g i).kind=(nodeAt h j).kind:=⟨fun e=>(kdD_inj nh ng e).symm,fun e=>by rw [e]⟩
  by_cases hK:(nodeAt g i).kind=(nodeAt h j).kind
  ·have hlabs:okI (othT h.length (nodeAt h j)) (othT g.length (nodeAt g i))↔okI (nodeAt g i) (nodeAt h j):=by
    unfold okI othT;simp only;rw [hkind];refine and_congr_right fun _=>and_congr (eq_comm) ?_
    rcases cg with ⟨c1,_,c3,_⟩|⟨c1,_,c3,_⟩|⟨c1,_,c3,_⟩|⟨c1|c1,_,_,_⟩
    ·have:(nodeAt h j).labs=[]:=by rcases ch with ⟨_,_,d3,_⟩|⟨_,_,d3,_⟩|⟨_,_,d3,_⟩|⟨d1,_⟩ <;> first|exact d3|omega
     rw [c3,this];simp
    ·have:(nodeAt h j).labs=[]:=by rcases ch with ⟨_,_,d3,_⟩|⟨_,_,d3,_⟩|⟨_,_,d3,_⟩|⟨d1,_⟩ <;> first|exact d3|omega
     rw [c3,this];simp
    ·have:(nodeAt h j).labs=[]:=by rcases ch with ⟨_,_,d3,_⟩|⟨_,_,d3,_⟩|⟨_,_,d3,_⟩|⟨d1,_⟩ <;> first|exact d3|omega
     rw [c3,this];simp
    ·rw [kh.2.2.2.2.1 (by rw [← hK];exact c1),if_pos rfl,c1,if_neg (by decide)]
    ·rw [kh.2.2.2.2.2.1 (by rw [← hK];exact c1),if_neg (by decide),c1,if_pos rfl]
   rw [hlabs];refine and_congr_right fun _=>?_
   have ek:(othT h.length (nodeAt h j)).kind=kdD (nodeAt h j).kind:=rfl;have el1:(othT h.length (nodeAt h j)).labs=(nodeAt h j).labs:=rfl;have el2:(othT g.length (nodeAt g i)).labs=(nodeAt g i).labs:=rfl;rw [ek,el1,el2];rcases cg with ⟨c1,_,c3,c4⟩|⟨c1,_,c3,c4⟩|⟨c1|c1,_,c3,c4⟩|⟨c1,_,_,c4⟩
   ·have k1:kdD (nodeAt h j).kind=1:=kh.2.2.2.2.2.2 (by rw [← hK];exact c1)
    rw [k1,c1,c3];constructor
    ·intro _
     exact ⟨fun h=>by omega,fun h=>by omega,fun h=>by omega,fun x y l hx=>by simp at hx⟩
    ·intro _
     exact ⟨fun h=>by omega,fun h=>by omega,fun h=>by omega,fun x y l _ hy=>by simp at hy⟩
   ·have e1:=tuL_x (n:=nodeAt g i) (N:=g.length) (by omega)
    have e2:=tuL_x (n:=nodeAt h j) (N:=h.length) (by omega)
    have D:=bl_dual hg hh lg lh k (toAt (nodeAt g i) 0) (toAt (nodeAt h j) 0) (hg.to_ 0 (by omega)) (hh.to_ 0 (Lh.1 (by rw [← hK];exact c1)))
    have k1:kdD (nodeAt h j).kind=2∨kdD (nodeAt h j).kind=3:=c1.elim (fun e=>.inr (kh.1 (by rw [← hK];exact e))) (fun e=>.inl (kh.2.1 (by rw [← hK];exact e)))
    rw [e1,e2,c3];constructor
    ·rintro ⟨q1,_⟩
     exact ⟨fun _=>D.1 (q1 k1),fun h=>by omega,fun h=>by omega,fun x y l hx=>by simp at hx⟩
    ·rintro ⟨q1,_⟩
     exact ⟨fun _=>D.2 (q1 c1),fun h=>by omega,fun h=>by omega,fun x y l _ hy=>by simp at hy⟩
   ·have e1:=tuL_0 (N:=g.length) (.inl c1) (Lg.2.1 (.inl c1))
    have hm4:(nodeAt h j).kind=4:=by rw [← hK];exact c1
    have e2:=tuL_0 (N:=h.length) (.inl hm4) (Lh.2.1 (.inl hm4));have l2:=Lh.2.1 (.inl hm4);have D:=bl_dual hg hh lg lh k (toAt (nodeAt g i) 1) (toAt (nodeAt h j) 1) (hg.to_ 1 (by omega)) (hh.to_ 1 l2)
    have Kp:=kept2 (toAt (nodeAt g i) 0) (toAt (nodeAt h j) 0) (hg.to_ 0 (by omega)) (hh.to_ 0 (by omega))
    have k1:kdD (nodeAt h j).kind=5:=kh.2.2.1 hm4;rw [e1.1,e1.2,e2.1,e2.2,c3,k1,c1];constructor
    ·rintro ⟨_,_,q3,_⟩
     exact ⟨fun h=>by omega,fun _=>⟨Kp.1 (q3 rfl).1,D.1 (q3 rfl).2⟩,fun h=>by omega,fun x y l hx=>by simp at hx⟩
    ·rintro ⟨_,q2,_,_⟩
     exact ⟨fun h=>by omega,fun h=>by omega,fun _=>⟨Kp.2 (q2 rfl).1,D.2 (q2 rfl).2⟩,fun x y l _ hy=>by simp at hy⟩
   ·have e1:=tuL_0 (N:=g.length) (.inr c1) (Lg.2.1 (.inr c1))
    have hm4:(nodeAt h j).kind=5:=by rw [← hK];exact c1
    have e2:=tuL_0 (N:=h.length) (.inr hm4) (Lh.2.1 (.inr hm4));have l2:=Lh.2.1 (.inr hm4);have D:=bl_dual hg hh lg lh k (toAt (nodeAt g i) 1) (toAt (nodeAt h j) 1) (hg.to_ 1 (by omega)) (hh.to_ 1 l2)
    have Kp:=kept (toAt (nodeAt g i) 0) (toAt (nodeAt h j) 0) (hg.to_ 0 (by omega)) (hh.to_ 0 (by omega))
    have k1:kdD (nodeAt h j).kind=4:=kh.2.2.2.1 hm4;rw [e1.1,e1.2,e2.1,e2.2,c3,k1,c1];constructor
    ·rintro ⟨_,q2,_,_⟩
     exact ⟨fun h=>by omega,fun h=>by omega,fun _=>⟨Kp.1 (q2 rfl).1,D.1 (q2 rfl).2⟩,fun x y l hx=>by simp at hx⟩
    ·rintro ⟨_,_,q3,_⟩
     exact ⟨fun h=>by omega,fun _=>⟨Kp.2 (q3 rfl).1,D.2 (q3 rfl).2⟩,fun h=>by omega,fun x y l _ hy=>by simp at hy⟩
   ·have e1:=tuL_x (n:=nodeAt g i) (N:=g.length) (by omega)
    have e2:=tuL_x (n:=nodeAt h j) (N:=h.length) (by omega)
    have k1:kdD (nodeAt h j).kind=6∨kdD (nodeAt h j).kind=7:=c1.elim (fun e=>.inr (kh.2.2.2.2.1 (by rw [← hK];exact e))) (fun e=>.inl (kh.2.2.2.2.2.1 (by rw [← hK];exact e)))
    have D:∀x y l,(nodeAt g i).labs[x]? = some l→(nodeAt h j).labs[y]? = some l→(bl k (othG h) (othG g) (toAt (nodeAt h j) y) (toAt (nodeAt g i) x)↔bl k g h (toAt (nodeAt g i) x) (toAt (nodeAt h j) y)):=fun x y l hx hy=>bl_dual hg hh lg lh k _ _ (hg.to_ x (Lg.2.2 x (List.getElem?_eq_some_iff.1 hx).1)) (hh.to_ y (Lh.2.2 y (List.getElem?_eq_some_iff.1 hy).1))
    constructor
    ·rintro ⟨_,_,_,q4⟩
     exact ⟨fun h=>by omega,fun h=>by omega,fun h=>by omega,fun x y l hx hy=>(D x y l hx hy).1 (by have:=q4 y x l hy hx;rw [e1,e2]at this;exact this)⟩
    ·rintro ⟨_,_,_,q4⟩
     exact ⟨fun h=>by omega,fun h=>by omega,fun h=>by omega,fun x y l hx hy=>by rw [e1,e2];exact (D y x l hy hx).2 (q4 y x l hy hx)⟩
  ·constructor
   ·rintro ⟨o,_⟩
    exact absurd (hkind.1 o.1) hK
   ·rintro ⟨o,_⟩
    exact absurd o.1 hK
theorem leB_yes{a b:ByteArray}(h:ltB b a):leB a b=false:=by
 unfold leB;rw [Bool.or_eq_false_iff,bytesLess_eq];unfold ltB at h;constructor
 ·rw [decide_eq_false_iff_not]
  exact fun q=>absurd (List.lt_trans h q) (List.lt_irrefl _)
 ·rw [beq_eq_false_iff_ne]
  intro q;rw [q]at h;exact List.lt_irrefl _ h
theorem labsOK_mk{ls:List ByteArray}(h1:1≤ls.length)(h6:ls.length≤6)(hn:∀l∈ls,isNm l.data.toList=true)(hr:rises ls):labsOK ls=true:=by
 refine labs_yes ls h1 h6 fun j hj=>?_
 unfold labAt;rw [getD_at ls j hj,hn _ (List.getElem_mem hj)];by_cases h0:0<j
 ·rw [getD_at ls (j - 1) (by omega),leB_yes]
  ·simp
  ·unfold rises at hr
   rw [List.pairwise_iff_getElem]at hr;exact hr (j - 1) j (by omega) hj (by omega)
 ·simp [h0]
theorem labsOK_nm{ls:List ByteArray}(h:labsOK ls=true):∀l∈ls,isNm l.data.toList=true:=by
 intro l hl;unfold labsOK at h;rw [Bool.and_eq_true,List.all_eq_true]at h;obtain ⟨i,hi,rfl⟩:=List.mem_iff_getElem.1 hl;have:=h.2 i (List.mem_range.2 hi);unfold labAt at this;rw [Bool.and_eq_true,getD_at ls i hi]at this;exact this.1
theorem KD.nm{g h:List Nd}(hg:GN g)(hh:GN h){p:Pz}(o:okZ g h p){d:Dr}(K:KD g h p d)(hk:d.kind=6∨d.kind=7):∀l∈d.labs,isNm l.data.toList=true:=by
 intro l hl;have side:∀ σ,sI p σ ≠ -1→l∈(sN g h p σ).labs→isNm l.data.toList=true:=fun σ hσ hm=>by
  have hkk:=(K.kd σ hσ).1;rcases okN_cases (o.nd hg hh hσ) with ⟨q,_⟩|⟨q,_⟩|⟨q,_⟩|⟨_,_,q,_⟩
  ·omega
  ·omega
  ·omega
  ·exact labsOK_nm q l hm
 by_cases hw:wideB d.kind p.2.2=true
 ·have hwd:wrd d.kind d.labs=d.labs:=by unfold wrd;rw [if_neg (by omega),if_neg (by omega)]
  have ln:=K.ln;rw [hwd]at ln;obtain ⟨i,hi,rfl⟩:=List.mem_iff_getElem.1 hl;obtain ⟨oq,hq⟩:=K.st d.labs[i] (d.nxt[i]'(by omega)) (by
   unfold dst;rw [hwd,List.mem_iff_getElem];exact ⟨i,by rw [List.length_zip];omega,by rw [List.getElem_zip]⟩)
  obtain ⟨σ,hσ⟩:=oq.2;obtain ⟨hp,hn⟩:=(hq σ).1 hσ;exact side σ hp ((nst_lab (by rw [← (K.kd σ hp).1];exact hk)).1 ⟨_,_,hn⟩)
 ·obtain ⟨σ,hσ⟩:=o.2
  exact side σ hσ (K.nx (by simpa using hw) l hl σ hσ)
theorem filter_add{α : Type}(p : α → Bool):∀l:List α,(l.filter p).length+(l.filter fun q=>!p q).length=l.length
 | []=>rfl
 | a::l=>by
  have ih:=filter_add p l;cases h:p a
  ·rw [List.filter_cons_of_neg (by simp [h]),List.filter_cons_of_pos (by simp [h])]
   simp only [List.length_cons];omega
  ·rw [List.filter_cons_of_pos h,List.filter_cons_of_neg (by simp [h])]
   simp only [List.length_cons];omega
theorem left_ok{g h:List Nd}(hg:GN g)(hh:GN h){p:Pz}(o:okZ g h p){d:Dr}(K:KD g h p d)(al:Pz→Bool)(hv:((d.nxt.filter fun q=>!al q).length:Int)≤d.spare)(tos:List Nat)(ht:tos.length=(d.nxt.filter al).length):okN ⟨d.kind,d.so,lfL al d,tos⟩:=by
 obtain ⟨σ,hσ⟩:=o.2;obtain ⟨kk,ks⟩:=K.kd σ hσ;have on:=o.nd hg hh hσ;have hcnt:=filter_add al d.nxt;have hfl:¬(d.kind=6∨d.kind=7)→(d.nxt.filter al).length=d.nxt.length∧d.labs=[]:=fun hk=>by
  have:=K.s0 hk;have hw:wideB d.kind p.2.2=false:=by
   rw [Bool.eq_false_iff];exact fun q=>hk (wide_kind q)
  refine ⟨by omega,?_⟩
  rw [List.eq_nil_iff_forall_not_mem];intro l hl;have hm:=K.nx hw l hl σ hσ;rcases okN_cases on with ⟨_,_,q,_⟩|⟨_,_,q,_⟩|⟨_,_,q,_⟩|⟨q,_⟩
  ·rw [q]at hm;cases hm
  ·rw [q]at hm;cases hm
  ·rw [q]at hm;cases hm
  ·rw [← kk]at q;exact hk q
 have hll:d.labs=[]→lfL al d=[]:=fun e=>by unfold lfL;rw [e];rfl
 have ln:=K.ln;apply okN_mk
 simp only;rcases okN_cases on with ⟨q1,q2,_,_⟩|⟨q1,q2,_,_⟩|⟨q1,q2,_,_⟩|⟨q1,q2,_,_⟩
 ·obtain ⟨f1,f2⟩:=hfl (by omega)
  left
  refine ⟨by omega,by omega,hll f2,?_⟩
  unfold wrd at ln;rw [if_neg (by omega),if_neg (by omega),f2]at ln
  simp only [List.length_nil]at ln;omega
 ·obtain ⟨f1,f2⟩:=hfl (by omega)
  right;left
  refine ⟨by omega,by omega,hll f2,?_⟩
  unfold wrd at ln;rw [if_pos (by omega)]at ln
  simp only [List.length_cons,List.length_nil]at ln;omega
 ·obtain ⟨f1,f2⟩:=hfl (by omega)
  right;right;left
  refine ⟨by omega,by omega,hll f2,?_⟩
  unfold wrd at ln;rw [if_neg (by omega),if_pos (by omega)]at ln
  simp only [List.length_cons,List.length_nil]at ln;omega
 ·right;right;right
  have hk:d.kind=6∨d.kind=7:=by omega
  unfold wrd at ln;rw [if_neg (by omega),if_neg (by omega)]at ln
  have e2:(lfL al d).length=(d.nxt.filter al).length:=by
   have:=congrArg List.length (filter_zip2 al d.labs d.nxt ln);rw [List.length_map]at this;unfold lfL;rw [List.length_map];exact this
  have sub:(lfL al d).Sublist d.labs:=by
   unfold lfL;have h1:((d.labs.zip d.nxt).filter fun e=>al e.2).Sublist (d.labs.zip d.nxt):=List.filter_sublist
   have h2:=h1.map (·.1)
   have h3:(d.labs.zip d.nxt).map (·.1)=d.labs:=List.map_fst_zip (by omega)
   rw [h3]at h2;exact h2
  have hsl:=K.sl hk;have h6:=K.l6;have:=sub.length_le;refine ⟨hk,by omega,labsOK_mk (by omega) (by omega) (fun l hl=>K.nm hg hh o hk l (sub.subset hl)) (K.rs.sublist sub),by omega⟩
structure BND(g h:List Nd)(p0:Pz)(ps:List Pz)(al:Pz→Bool):Prop where
 p0:p0∈ps
 ok:∀p∈ps,okZ g h p
 sh:∀p∈ps,∀q∈(drP g h p).nxt,q∈ps
 lv:∀p∈ps,al p=true→0≤(drP g h p).spare∧(((drP g h p).nxt.filter fun q=>!al q).length:Int)≤(drP g h p).spare
 dd:∀S:Pz→Bool,(∀p∈ps,S p=false→0≤(drP g h p).spare∧(((drP g h p).nxt.filter S).length:Int)≤(drP g h p).spare)→∀p∈ps,al p=false→S p=true
structure RCH(g h:List Nd)(p0:Pz)(ps:List Pz)(al:Pz→Bool)(Q:List Pz):Prop where
 hd:Q[0]? = some p0
 nd:Q.Nodup
 inn:∀p∈Q,p∈ps
 lv:∀p∈Q,al p=true
 sh:∀p∈Q,∀q∈(drP g h p).nxt,al q=true→q∈Q
 mn:∀S:Pz→Bool,S p0=true→(∀p∈Q,S p=true→∀q∈(drP g h p).nxt,al q=true→S q=true)→∀p∈Q,S p=true
def lfN(g h:List Nd)(al:Pz→Bool)(Q:List Pz)(p:Pz):Nd:=⟨(drP g h p).kind,(drP g h p).so,lfL al (drP g h p),((drP g h p).nxt.filter al).map fun q=>Q.idxOf q⟩
def lfG(g h:List Nd)(al:Pz→Bool)(Q:List Pz):List Nd:=Q.map (lfN g h al Q)
def plQ(Q:List Pz)(p0:Pz)(x:Nat):Pz:=(Q[x]?).getD p0
theorem plQ_idx{Q:List Pz}{p0 q:Pz}(h:q∈Q):plQ Q p0 (Q.idxOf q)=q:=by
 have h1:=List.idxOf_lt_length_of_mem h;unfold plQ;rw [List.getElem?_eq_getElem h1,List.getElem_idxOf h1];rfl
theorem lf_at(g h:List Nd)(al:Pz→Bool)(Q:List Pz)(p0:Pz){x:Nat}(hx:x<Q.length):nodeAt (lfG g h al Q) x=lfN g h al Q (plQ Q p0 x)∧plQ Q p0 x∈Q:=by
 have e:plQ Q p0 x=Q[x]:=by unfold plQ;rw [List.getElem?_eq_getElem hx];rfl
 rw [e];refine ⟨?_,List.getElem_mem hx⟩;unfold lfG;rw [nodeAt_lt _ _ (by simpa using hx),List.getElem_map]
theorem gp_of{g h:List Nd}(hg:GN g)(hh:GN h){p0:Pz}{ps:List Pz}{al:Pz→Bool}{Q:List Pz}(B:BND g h p0 ps al)(R:RCH g h p0 ps al Q)(hl:Q.length≤200):GP g h al (lfG g h al Q) (plQ Q p0)∧plQ Q p0 0=p0:=by
 have hlen:(lfG g h al Q).length=Q.length:=by unfold lfG;rw [List.length_map]
 have h0:plQ Q p0 0=p0:=by unfold plQ;rw [R.hd];rfl
 have K:∀p∈Q,KD g h p (drP g h p):=fun p hp=>kd_any hg hh (B.ok p (R.inn p hp)) (B.lv p (R.inn p hp) (R.lv p hp)).1
 have hp0:0<Q.length:=by
  rcases Nat.eq_zero_or_pos Q.length with q|q
  ·have:=R.hd;rw [List.getElem?_eq_none (by omega)]at this;cases this
  ·exact q
 refine ⟨⟨⟨by omega,by omega,fun n hn=>?_,fun n hn t ht=>?_⟩,fun x hx=>?_,fun x hx=>?_,fun x hx=>?_,fun x hx=>?_,fun x hx=>?_,fun x hx=>?_⟩,h0⟩
 ·obtain ⟨p,hp,rfl⟩:=List.mem_map.1 hn
  exact left_ok hg hh (B.ok p (R.inn p hp)) (K p hp) al (B.lv p (R.inn p hp) (R.lv p hp)).2 _ (by rw [List.length_map])
 ·obtain ⟨p,hp,rfl⟩:=List.mem_map.1 hn
  obtain ⟨q,hq,rfl⟩:=List.mem_map.1 ht;have hq':=List.mem_filter.1 hq;rw [hlen];exact List.idxOf_lt_length_of_mem (R.sh p hp q hq'.1 hq'.2)
 ·rw [hlen]at hx
  exact B.ok _ (R.inn _ (lf_at g h al Q p0 hx).2)
 ·rw [hlen]at hx
  have:=(lf_at g h al Q p0 hx).2;exact (B.lv _ (R.inn _ this) (R.lv _ this)).1
 ·rw [hlen]at hx
  have:=(lf_at g h al Q p0 hx).2;exact (B.lv _ (R.inn _ this) (R.lv _ this)).2
 ·rw [hlen]at hx
  rw [(lf_at g h al Q p0 hx).1];exact ⟨rfl,rfl⟩
 ·rw [hlen]at hx
  rw [(lf_at g h al Q p0 hx).1];rfl
 ·rw [hlen]at hx
  obtain ⟨e,hm⟩:=lf_at g h al Q p0 hx;rw [e];show (((drP g h (plQ Q p0 x)).nxt.filter al).map fun q=>Q.idxOf q).map (plQ Q p0)=_
  rw [List.map_map];conv=>rhs;rw [← List.map_id ((drP g h (plQ Q p0 x)).nxt.filter al)]
  refine List.map_congr_left fun q hq=>?_
  have hq':=List.mem_filter.1 hq;exact plQ_idx (R.sh _ hm q hq'.1 hq'.2)
theorem alive_of{g h c:List Nd}(hg:GN g)(hh:GN h)(hc:GN c){p0:Pz}{ps:List Pz}{al:Pz→Bool}(B:BND g h p0 ps al){p:Pz}(hp:p∈ps)(hb:hasB g h c p):al p=true:=by
 obtain ⟨S,hS⟩:=noB_ex g h c;have huni:∀m n:Nd,(uniL m n).Nodup:=fun m n=>(uni_rises m n).imp fun {a b} hab e=>by rw [e]at hab;exact ltB_irr _ hab
 rcases Bool.eq_false_or_eq_true (al p) with h1|h1
 ·exact h1
 ·have h2:=B.dd S (fun p hp hs=>noB_closed hg hh hc hS huni (B.ok p hp) hs) p hp h1
  exact absurd hb ((hS p).1 h2).2.2
theorem bound_is{g h:List Nd}(hg:GN g)(hh:GN h){t:Bool}{ps:List Pz}{al:Pz→Bool}{Q:List Pz}(B:BND g h (0,0,t) ps al)(R:RCH g h (0,0,t) ps al Q)(hl:Q.length≤200):
  GN (lfG g h al Q)∧(∀k,blP g (lfG g h al Q) k (0,0,t))∧(∀k,blP h (lfG g h al Q) k (0,0,t))∧∀c,GN c→∀m,m<c.length→(∀k,blP g c k (0,m,t))→(∀k,blP h c k (0,m,t))→∀k,blP (lfG g h al Q) c k (0,m,t):=by
 obtain ⟨H,h0⟩:=gp_of hg hh B R hl;have hp:0<(lfG g h al Q).length:=H.gn.pos;refine ⟨H.gn,fun k=>?_,fun k=>?_,fun c hc m hm h1 h2 k=>?_⟩
 ·have:=up_bl hg hh H k 0 hp false (by rw [h0];show (0:Int)≠-1;decide)
  rw [h0]at this;exact this
 ·have:=up_bl hg hh H k 0 hp true (by rw [h0];show (0:Int)≠-1;decide)
  rw [h0]at this;exact this
 ·have:=low_bl hg hh hc H (fun x hx w q hd hb=>?_) k 0 m hp hm (fun σ hσ => ?_)
  ·rw [h0]at this
   exact this
  ·have hx':x<Q.length:=by have:=hx;unfold lfG at this;rwa [List.length_map]at this
   have hin:=R.inn _ (lf_at g h al Q (0,0,t) hx').2;exact alive_of hg hh hc B (B.sh _ hin q (List.of_mem_zip hd).2) hb
  ·rw [h0]at hσ ⊢
   cases σ
   ·exact h1
   ·exact h2
theorem bound_there{g h c:List Nd}(hg:GN g)(hh:GN h)(hc:GN c){t:Bool}{ps:List Pz}{al:Pz→Bool}(B:BND g h (0,0,t) ps al){m:Nat}(hm:m<c.length)(h1:∀k,blP g c k (0,m,t))(h2:∀k,blP h c k (0,m,t)):al (0,0,t)=true :=
 alive_of hg hh hc B B.p0 ⟨m,hm,fun σ _=>by cases σ;exact h1;exact h2⟩
end Go.Proofs.YtnedgkcejlhnbaaGreatDoor
