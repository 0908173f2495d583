/-
  Plain mathematics: what a Join and a Meet are made of: a draft for each place, with what comes next of it.
-/
import Derived.Test.YtnedgkcejlhnbaaGreatDoorPk
namespace Go.Proofs.YtnedgkcejlhnbaaGreatDoor
abbrev Pz:=Int × Int × Bool
structure Dr where
 kind:Int
 so:Int
 labs:List ByteArray
 nxt:List Pz
 spare:Int
def drX:Dr:=⟨0,0,[],[],-1⟩
def wideB(k:Int)(t:Bool):Bool:=(decide (k=7) && !t) || (decide (k=6) && t)
def behI(n:Nd)(l:ByteArray):Int:=if hasN n.labs l=true then (toAt n (idxB n.labs l):Int) else -1
def uniL(m n:Nd):List ByteArray:=(srtN (m.labs++n.labs)).map fun l=>⟨l.toArray⟩
def zA(s:Stp):Pz:=((s.2.1:Int),-1,s.2.2.2)
def zB(s:Stp):Pz:=(-1,(s.2.2.1:Int),s.2.2.2)
def zC(s:Stp):Pz:=((s.2.1:Int),(s.2.2.1:Int),s.2.2.2)
def aloD(n:Nd)(t:Bool)(z:Stp→Pz):Dr:=⟨n.kind,n.so,n.labs,(stepsP n n t).map z,0⟩
def eithD(m n:Nd)(t:Bool):Dr:=if 6<(uniL m n).length then drX else ⟨m.kind,0,uniL m n,(uniL m n).map fun l=>(behI m l,behI n l,t),0⟩
def bothD(m n:Nd)(t:Bool):Dr:=⟨m.kind,m.so,if m.labs.length=0 then [] else (stepsP m n t).map (·.1),(stepsP m n t).map zC,if m.labs.length=0 then 0 else ((stepsP m n t).length:Int) - 1⟩
def drMN(m n:Nd)(t:Bool):Dr:=if m.kind≠n.kind∨m.so≠n.so then drX else if wideB m.kind t=true then eithD m n t else bothD m n t
def drP(g h:List Nd)(p:Pz):Dr :=
 if p.2.1 = -1 then aloD (nodeAt g p.1.toNat) p.2.2 zA
 else if p.1 = -1 then aloD (nodeAt h p.2.1.toNat) p.2.2 zB
 else drMN (nodeAt g p.1.toNat) (nodeAt h p.2.1.toNat) p.2.2
def nst(n:Nd)(t:Bool):List (ByteArray × Nat × Bool) :=
 if n.kind=2∨n.kind=3 then [(dotB,toAt n 0,t)]
 else if n.kind=4∨n.kind=5 then [(capB,toAt n 0,t != decide (n.kind=4)),(dotB,toAt n 1,t)]
 else (List.range n.labs.length).map fun x=>(labAtN n x,toAt n x,t)
theorem nst_one{n:Nd}{t:Bool}(h:n.kind=2∨n.kind=3):nst n t=[(dotB,toAt n 0,t)]:=by unfold nst;rw [if_pos h]
theorem nst_two{n:Nd}{t:Bool}(h:n.kind=4∨n.kind=5):nst n t=[(capB,toAt n 0,t != decide (n.kind=4)),(dotB,toAt n 1,t)]:=by unfold nst;rw [if_neg (by omega),if_pos h]
theorem mem_nst{n:Nd}{t:Bool}(h:¬(n.kind=2∨n.kind=3))(h2:¬(n.kind=4∨n.kind=5)){w:ByteArray}{u:Nat}{t':Bool}:(w,u,t')∈nst n t↔∃x,n.labs[x]? = some w∧u=toAt n x∧t'=t:=by
 unfold nst;rw [if_neg h,if_neg h2,List.mem_map];constructor
 ·rintro ⟨x,hx,e⟩
  have hx':x<n.labs.length:=List.mem_range.1 hx;simp only [Prod.mk.injEq]at e;obtain ⟨rfl,rfl,rfl⟩:=e;refine ⟨x,?_,rfl,rfl⟩;unfold labAtN;rw [List.getElem?_eq_getElem hx'];rfl
 ·rintro ⟨x,hx,rfl,rfl⟩
  have hx':=(List.getElem?_eq_some_iff.1 hx).1;refine ⟨x,List.mem_range.2 hx',?_⟩;unfold labAtN;rw [hx];rfl
theorem bnot(a b:Bool):a=b∨a = !b:=by cases a <;> cases b <;> simp
theorem capdot:capB≠dotB:=by decide
theorem stepsP_iff{m n:Nd}(_om:okN m)(on:okN n)(hk:m.kind=n.kind)(t:Bool)(s:Stp):s∈stepsP m n t↔(s.1,s.2.1,s.2.2.2)∈nst m t∧(s.1,s.2.2.1,s.2.2.2)∈nst n t:=by
 obtain ⟨w,u,v,b⟩:=s;unfold stepsP;by_cases h1:m.kind=2∨m.kind=3
 ·rw [if_pos h1,nst_one h1,nst_one (by rw [← hk];exact h1)]
  simp only [List.mem_singleton,Prod.mk.injEq];constructor
  ·rintro ⟨a,b,c,d⟩;exact ⟨⟨a,b,d⟩,a,c,d⟩
  ·rintro ⟨⟨a,b,d⟩,_,c,_⟩;exact ⟨a,b,c,d⟩
 ·by_cases h2:m.kind=4∨m.kind=5
  ·rw [if_neg h1,if_pos h2,nst_two h2,nst_two (by rw [← hk];exact h2),← hk]
   simp only [List.mem_cons,List.not_mem_nil,or_false,Prod.mk.injEq];constructor
   ·rintro (⟨a,b,c,d⟩|⟨a,b,c,d⟩)
    ·exact ⟨.inl ⟨a,b,d⟩,.inl ⟨a,c,d⟩⟩
    ·exact ⟨.inr ⟨a,b,d⟩,.inr ⟨a,c,d⟩⟩
   ·rintro ⟨⟨a,b,d⟩|⟨a,b,d⟩,⟨a',c,_⟩|⟨a',c,_⟩⟩
    ·exact .inl ⟨a,b,c,d⟩
    ·exact absurd (a.symm.trans a') capdot
    ·exact absurd (a'.symm.trans a) capdot
    ·exact .inr ⟨a,b,c,d⟩
  ·rw [if_neg h1,if_neg h2,mem_lab,mem_nst h1 h2,mem_nst (by rw [← hk];exact h1) (by rw [← hk];exact h2)]
   have rn:=okN_rises on;constructor
   ·rintro ⟨x,l,hx,hl,e⟩
    simp only [Prod.mk.injEq]at e;obtain ⟨rfl,rfl,rfl,rfl⟩:=e;have h3:=idxB_lt hl;exact ⟨⟨x,hx,rfl,rfl⟩,_,by rw [List.getElem?_eq_getElem h3,idxB_at h3],rfl,rfl⟩
   ·rintro ⟨⟨x,hx,e1,e2⟩,y,hy,e3,_⟩
    simp only at hx hy e1 e2 e3;exact ⟨x,w,hx,List.mem_of_getElem? hy,by rw [idx_rises rn hy,e1,e2,e3]⟩
theorem nst_fun{n:Nd}(on:okN n){t:Bool}{w:ByteArray}{u u':Nat}{b b':Bool}(h:(w,u,b)∈nst n t)(h':(w,u',b')∈nst n t):u=u'∧b=b':=by
 by_cases h1:n.kind=2∨n.kind=3
 ·rw [nst_one h1]at h h'
  simp only [List.mem_singleton,Prod.mk.injEq]at h h';exact ⟨h.2.1.trans h'.2.1.symm,h.2.2.trans h'.2.2.symm⟩
 ·by_cases h2:n.kind=4∨n.kind=5
  ·rw [nst_two h2]at h h'
   simp only [List.mem_cons,List.not_mem_nil,or_false,Prod.mk.injEq]at h h';rcases h with ⟨a,b,d⟩|⟨a,b,d⟩ <;> rcases h' with ⟨a',b',d'⟩|⟨a',b',d'⟩
   ·exact ⟨b.trans b'.symm,d.trans d'.symm⟩
   ·exact absurd (a.symm.trans a') capdot
   ·exact absurd (a'.symm.trans a) capdot
   ·exact ⟨b.trans b'.symm,d.trans d'.symm⟩
  ·rw [mem_nst h1 h2]at h h'
   obtain ⟨x,hx,rfl,rfl⟩:=h;obtain ⟨y,hy,rfl,rfl⟩:=h';rw [rises_idx (okN_rises on) hx hy];exact ⟨rfl,rfl⟩
theorem nst_flag{m n:Nd}(hk:m.kind=n.kind){t:Bool}{w:ByteArray}{u u':Nat}{b b':Bool}(h:(w,u,b)∈nst m t)(h':(w,u',b')∈nst n t):b=b':=by
 by_cases h1:m.kind=2∨m.kind=3
 ·rw [nst_one h1]at h
  rw [nst_one (by rw [← hk];exact h1)]at h'
  simp only [List.mem_singleton,Prod.mk.injEq]at h h';exact h.2.2.trans h'.2.2.symm
 ·by_cases h2:m.kind=4∨m.kind=5
  ·rw [nst_two h2]at h
   rw [nst_two (by rw [← hk];exact h2),← hk]at h'
   simp only [List.mem_cons,List.not_mem_nil,or_false,Prod.mk.injEq]at h h';rcases h with ⟨a,b,d⟩|⟨a,b,d⟩ <;> rcases h' with ⟨a',b',d'⟩|⟨a',b',d'⟩
   ·exact d.trans d'.symm
   ·exact absurd (a.symm.trans a') capdot
   ·exact absurd (a'.symm.trans a) capdot
   ·exact d.trans d'.symm
  ·rw [mem_nst h1 h2]at h
   rw [mem_nst (by rw [← hk];exact h1) (by rw [← hk];exact h2)]at h'
   obtain ⟨x,hx,rfl,rfl⟩:=h;obtain ⟨y,hy,rfl,rfl⟩:=h';rfl
theorem nst_word{m n:Nd}(hk:m.kind=n.kind)(hl:m.labs=[]){t:Bool}{w:ByteArray}{u:Nat}{b:Bool}(h:(w,u,b)∈nst m t):∃v,(w,v,b)∈nst n t:=by
 by_cases h1:m.kind=2∨m.kind=3
 ·rw [nst_one h1]at h
  simp only [List.mem_singleton,Prod.mk.injEq]at h;obtain ⟨rfl,rfl,rfl⟩:=h;exact ⟨_,by rw [nst_one (by rw [← hk];exact h1)];exact .head _⟩
 ·by_cases h2:m.kind=4∨m.kind=5
  ·rw [nst_two h2]at h
   simp only [List.mem_cons,List.not_mem_nil,or_false,Prod.mk.injEq]at h;rcases h with ⟨rfl,rfl,rfl⟩|⟨rfl,rfl,rfl⟩
   ·exact ⟨_,by rw [nst_two (by rw [← hk];exact h2),← hk];exact .head _⟩
   ·exact ⟨_,by rw [nst_two (by rw [← hk];exact h2),← hk];exact .tail _ (.head _)⟩
  ·rw [mem_nst h1 h2,hl]at h
   obtain ⟨x,hx,_⟩:=h;simp at hx
theorem nst_lab{n:Nd}(h:n.kind=6∨n.kind=7){t:Bool}{w:ByteArray}:(∃u b,(w,u,b)∈nst n t)↔w∈n.labs:=by
 constructor
 ·rintro ⟨u,b,hm⟩
  rw [mem_nst (by omega) (by omega)]at hm
  obtain ⟨x,hx,_⟩:=hm;exact List.mem_of_getElem? hx
 ·intro hm
  obtain ⟨x,hx,e⟩:=List.mem_iff_getElem.1 hm;exact ⟨_,_,(mem_nst (by omega) (by omega)).2 ⟨x,by rw [List.getElem?_eq_getElem hx,e],rfl,rfl⟩⟩
theorem nst_lt{g:List Nd}(hg:GN g){i:Nat}(hi:i<g.length){t:Bool}{w:ByteArray}{u:Nat}{b:Bool}(h:(w,u,b)∈nst (nodeAt g i) t):u<g.length:=by
 have L:=okN_len (hg.at_ hi);by_cases h1:(nodeAt g i).kind=2∨(nodeAt g i).kind=3
 ·rw [nst_one h1]at h
  simp only [List.mem_singleton,Prod.mk.injEq]at h;rw [h.2.1];exact hg.to_ 0 (L.1 h1)
 ·by_cases h2:(nodeAt g i).kind=4∨(nodeAt g i).kind=5
  ·rw [nst_two h2]at h
   have:=L.2.1 h2;simp only [List.mem_cons,List.not_mem_nil,or_false,Prod.mk.injEq]at h;rcases h with ⟨_,rfl,_⟩|⟨_,rfl,_⟩
   ·exact hg.to_ 0 (by omega)
   ·exact hg.to_ 1 this
  ·rw [mem_nst h1 h2]at h
   obtain ⟨x,hx,rfl,_⟩:=h;exact hg.to_ x (L.2.2 x (List.getElem?_eq_some_iff.1 hx).1)
def wrd(k:Int)(ls:List ByteArray):List ByteArray:=if k=2∨k=3 then [dotB] else if k=4∨k=5 then [capB,dotB] else ls
def dst(d:Dr):List (ByteArray × Pz):=(wrd d.kind d.labs).zip d.nxt
theorem steps_words(m n:Nd)(t:Bool):(stepsP m n t).map (·.1)=wrd m.kind ((stepsP m n t).map (·.1)):=by
 unfold wrd;by_cases h1:m.kind=2∨m.kind=3
 ·rw [if_pos h1];unfold stepsP;rw [if_pos h1];rfl
 ·rw [if_neg h1]
  by_cases h2:m.kind=4∨m.kind=5
  ·rw [if_pos h2];unfold stepsP;rw [if_neg h1,if_pos h2];rfl
  ·rw [if_neg h2]
theorem fm_some{α β : Type}(f : α → Option β)(F : α → β):∀l:List α,(∀a∈l,f a=some (F a))→l.filterMap f=l.map F
 | [],_=>rfl
 | a::l,h=>by rw [List.filterMap_cons_some (h a (.head _)),fm_some f F l fun b hb=>h b (.tail _ hb)];rfl
theorem labs_range(n:Nd):(List.range n.labs.length).map (labAtN n)=n.labs:=by
 apply List.ext_getElem (by simp)
 intro i h1 h2;simp [labAtN,List.getElem?_eq_getElem h2]
theorem words_alone(n:Nd)(t:Bool):(stepsP n n t).map (·.1)=wrd n.kind n.labs:=by
 rw [steps_words];unfold wrd;by_cases h1:n.kind=2∨n.kind=3
 ·rw [if_pos h1,if_pos h1]
 ·rw [if_neg h1,if_neg h1]
  by_cases h2:n.kind=4∨n.kind=5
  ·rw [if_pos h2,if_pos h2]
  ·rw [if_neg h2,if_neg h2]
   unfold stepsP;rw [if_neg h1,if_neg h2,fm_some _ (fun i=>(labAtN n i,toAt n i,toAt n (idxB n.labs (labAtN n i)),t)),List.map_map]
   ·exact labs_range n
   ·intro i hi
    have hi':i<n.labs.length:=List.mem_range.1 hi;unfold labSt;rw [if_pos];rw [hasN_iff];unfold labAtN;rw [List.getElem?_eq_getElem hi'];exact List.getElem_mem hi'
theorem zip_maps{α β γ : Type}(f : α → β)(g : α → γ):∀l:List α,(l.map f).zip (l.map g)=l.map fun x=>(f x,g x)
 | []=>rfl
 | a::l=>by simp only [List.map_cons,List.zip_cons_cons,zip_maps f g l]
theorem dst_alone(n:Nd)(t:Bool)(z:Stp→Pz):dst (aloD n t z)=(stepsP n n t).map fun s=>(s.1,z s):=by
 unfold dst aloD;simp only;rw [← words_alone n t,zip_maps]
theorem dst_both{m n:Nd}(_om:okN m)(t:Bool):dst (bothD m n t)=(stepsP m n t).map fun s=>(s.1,zC s):=by
 have e:wrd (bothD m n t).kind (bothD m n t).labs=(stepsP m n t).map (·.1):=by
  rw [steps_words];unfold bothD;simp only;split
  ·rename_i h0
   unfold wrd;split
   ·rfl
   ·split
    ·rfl
    ·rename_i h1 h2
     have:m.labs=[]:=List.length_eq_zero_iff.1 h0;unfold stepsP;rw [if_neg h1,if_neg h2,h0];rfl
  ·rfl
 unfold dst;rw [e];exact zip_maps _ _ _
theorem mk_data(x:ByteArray):(⟨x.data.toList.toArray⟩:ByteArray)=x:=by cases x;simp
theorem mem_uniL{m n:Nd}{l:ByteArray}:l∈uniL m n↔l∈m.labs∨l∈n.labs:=by
 unfold uniL;rw [List.mem_map,← List.mem_append,← mem_srtN];constructor
 ·rintro ⟨x,hx,rfl⟩;simpa using hx
 ·intro h;exact ⟨_,h,mk_data l⟩
theorem dst_eith(m n:Nd)(t:Bool)(h:(uniL m n).length≤6)(hk:m.kind=6∨m.kind=7):dst (eithD m n t)=(uniL m n).map fun l=>(l,behI m l,behI n l,t):=by
 unfold dst eithD;rw [if_neg (by omega)]
 simp only;unfold wrd;rw [if_neg (by omega),if_neg (by omega)]
 have:=zip_maps (fun l:ByteArray=>l) (fun l=>((behI m l,behI n l,t):Pz)) (uniL m n)
 rw [List.map_id']at this;exact this
theorem wide_kind{k:Int}{t:Bool}(h:wideB k t=true):k=6∨k=7:=by
 unfold wideB at h;simp only [Bool.or_eq_true,Bool.and_eq_true,decide_eq_true_eq]at h;omega
theorem behI_in{n:Nd}(_on:okN n)(hk:n.kind=6∨n.kind=7){l:ByteArray}(t:Bool):(behI n l≠-1↔l∈n.labs)∧(l∈n.labs→(l,(behI n l).toNat,t)∈nst n t∧0≤behI n l):=by
 unfold behI;by_cases h:l∈n.labs
 ·rw [if_pos ((hasN_iff _ _).2 h)]
  have h3:=idxB_lt h;refine ⟨⟨fun _=>h,fun _=>by omega⟩,fun _=>⟨(mem_nst (by omega) (by omega)).2 ⟨idxB n.labs l,by rw [List.getElem?_eq_getElem h3,idxB_at h3],by simp,rfl⟩,by omega⟩⟩
 ·rw [if_neg fun q=>h ((hasN_iff _ _).1 q)]
  exact ⟨⟨fun q=>absurd rfl q,fun q=>absurd q h⟩,fun q=>absurd q h⟩
theorem labs_pos{n:Nd}(on:okN n)(hk:n.kind=6∨n.kind=7):0<n.labs.length:=by
 rcases okN_cases on with ⟨q,_⟩|⟨q,_⟩|⟨q,_⟩|⟨_,_,q,_⟩
 ·omega
 ·omega
 ·omega
 ·unfold labsOK at q
  rw [Bool.and_eq_true,decide_eq_true_eq]at q;omega
theorem fm_sub{α β γ : Type}(f : α → Option β)(F : α → γ)(π : β → γ)(h:∀a b,f a=some b→π b=F a):∀l:List α,((l.filterMap f).map π).Sublist (l.map F)
 | []=>List.Sublist.slnil
 | a::l=>by
  have ih:=fm_sub f F π h l;cases e:f a with
  | none=>rw [List.filterMap_cons_none e];exact ih.cons _
  | some b=>rw [List.filterMap_cons_some e,List.map_cons,List.map_cons,h a b e];exact ih.cons_cons _
theorem both_sub{m n:Nd}(om:okN m)(t:Bool):(bothD m n t).labs.Sublist m.labs:=by
 unfold bothD;simp only;split
 ·exact List.nil_sublist _
 ·rename_i h0
  have hk:m.kind=6∨m.kind=7:=by
   rcases okN_cases om with ⟨_,_,b,_⟩|⟨_,_,b,_⟩|⟨_,_,b,_⟩|⟨a,_⟩
   ·rw [b]at h0;exact absurd rfl h0
   ·rw [b]at h0;exact absurd rfl h0
   ·rw [b]at h0;exact absurd rfl h0
   ·exact a
  have:=fm_sub (labSt m n t) (labAtN m) (·.1) (fun a b e=>by
   unfold labSt at e;split at e
   ·cases e;rfl
   ·cases e) (List.range m.labs.length)
  rw [labs_range]at this;unfold stepsP;rw [if_neg (by omega),if_neg (by omega)]
  exact this
theorem upTo_pw(d:Array (List UInt8))(hd:∀i j,i<j→j<d.size→d[i]! ≤ d[j]!):∀m,m≤d.size→(Lib.compactUpTo d m).Pairwise (· < ·)
 | 0,_=>by simp [Lib.compactUpTo]
 | m+1,hm=>by
  rw [Lib.compactUpTo_succ,List.pairwise_append];refine ⟨upTo_pw d hd m (by omega),by split <;> simp,fun a ha b hb=>?_⟩
  obtain ⟨j,hj,rfl⟩:=(mem_upTo d a m).1 ha;split at hb
  ·rename_i hk
   rw [List.mem_singleton]at hb;subst hb;unfold Lib.keeps at hk;have hk:=of_decide_eq_true hk;have hne:d[m]! ≠ d[m - 1]!:=hk.resolve_left (by omega)
   have h1:d[m - 1]! ≤ d[m]!:=hd (m - 1) m (by omega) (by omega)
   have h2:d[m - 1]! < d[m]!:=by
    rcases Std.Trichotomous.rel_or_eq_or_rel_swap (r:=(· < · : List UInt8→List UInt8→Prop)) (a:=d[m - 1]!) (b:=d[m]!) with q|q|q
    ·exact q
    ·exact absurd q.symm hne
    ·exact absurd q h1
   by_cases e:j=m - 1
   ·rw [e];exact h2
   ·have h3:d[j]! ≤ d[m - 1]!:=hd j (m - 1) (by omega) (by omega)
    exact List.lt_of_le_of_lt h3 h2
  ·cases hb
theorem uni_rises(m n:Nd):rises (uniL m n):=by
 have hs:=List.pairwise_mergeSort (le:=fun x y:List UInt8=>decide (x≤y)) (fun a b c h1 h2=>by
  rw [decide_eq_true_eq]at h1 h2 ⊢;exact List.le_trans h1 h2) (fun a b=>by
  rw [Bool.or_eq_true,decide_eq_true_eq,decide_eq_true_eq];exact List.le_total a b) ((m.labs++n.labs).map (·.data.toList))
 unfold rises uniL srtN Lib.compact;rw [List.pairwise_map];generalize ((m.labs++n.labs).map (·.data.toList)).mergeSort (fun x y=>decide (x≤y))=z at hs
 have:=upTo_pw z.toArray (fun i j hij hj=>by
  rw [List.pairwise_iff_getElem]at hs;have hj':j<z.length:=by simpa using hj
  have:=hs i j (by omega) hj' hij
  rw [decide_eq_true_eq]at this;simpa [getElem!_pos,hj',show i<z.length by omega] using this) z.length (by simp)
 refine this.imp fun {a b} hab=>?_
 unfold ltB;simpa [ByteArray.toList_eq] using hab
def sG(g h:List Nd):Bool→List Nd
 | false=>g
 | true=>h
def sI(p:Pz):Bool→Int
 | false=>p.1
 | true=>p.2.1
def okZ(g h:List Nd)(p:Pz):Prop:=(∀ σ,sI p σ = -1∨(0≤sI p σ ∧ (sI p σ).toNat<(sG g h σ).length))∧∃ σ,sI p σ ≠ -1
def sN(g h:List Nd)(p:Pz)(σ : Bool):Nd:=nodeAt (sG g h σ) (sI p σ).toNat
theorem sG_gn{g h:List Nd}(hg:GN g)(hh:GN h)(σ : Bool):GN (sG g h σ):=by cases σ;exact hg;exact hh
theorem okZ.lt{g h:List Nd}{p:Pz}(o:okZ g h p){σ : Bool}(hs:sI p σ ≠ -1):(sI p σ).toNat<(sG g h σ).length:=((o.1 σ).resolve_left hs).2
theorem okZ.nd{g h:List Nd}{p:Pz}(hg:GN g)(hh:GN h)(o:okZ g h p){σ : Bool}(hs:sI p σ ≠ -1):okN (sN g h p σ):=(sG_gn hg hh σ).at_ (o.lt hs)
structure KD(g h:List Nd)(p:Pz)(d:Dr):Prop where
 kd:∀ σ,sI p σ ≠ -1→d.kind=(sN g h p σ).kind∧d.so=(sN g h p σ).so
 st:∀w q,(w,q)∈dst d→okZ g h q∧∀ σ,(sI q σ ≠ -1→sI p σ ≠ -1∧(w,(sI q σ).toNat,q.2.2)∈nst (sN g h p σ) p.2.2)∧(sI p σ ≠ -1→∀u b,(w,u,b)∈nst (sN g h p σ) p.2.2→sI q σ = (u:Int)∧q.2.2=b)
 ln:(wrd d.kind d.labs).length=d.nxt.length
 wd:wideB d.kind p.2.2=true→∀ σ,sI p σ ≠ -1→∀l∈(sN g h p σ).labs,l∈d.labs
 nw:wideB d.kind p.2.2=false→∀l,(∀ σ,sI p σ ≠ -1→l∈(sN g h p σ).labs)→l∈d.labs
 nx:wideB d.kind p.2.2=false→∀l∈d.labs,∀ σ,sI p σ ≠ -1→l∈(sN g h p σ).labs
 w0:wideB d.kind p.2.2=true→d.spare=0
 rs:rises d.labs
 l6:d.labs.length≤6
 s0:¬(d.kind=6∨d.kind=7)→d.spare=0
 sl:d.kind=6∨d.kind=7→d.spare<(d.nxt.length:Int)
theorem step_ok{g:List Nd}(hg:GN g){i:Nat}(hi:i<g.length){s:Stp}{t:Bool}(hs:s∈stepsP (nodeAt g i) (nodeAt g i) t):s.2.1=s.2.2.1∧(s.1,s.2.1,s.2.2.2)∈nst (nodeAt g i) t∧s.2.1<g.length:=by
 have h:=(stepsP_iff (hg.at_ hi) (hg.at_ hi) rfl t s).1 hs;exact ⟨(nst_fun (hg.at_ hi) h.1 h.2).1,h.1,nst_lt hg hi h.1⟩
theorem kd_alone{g h:List Nd}(hg:GN g)(hh:GN h){p:Pz}(o:okZ g h p)(σ : Bool)(h1:sI p σ ≠ -1)(h2:sI p (!σ) = -1)(z:Stp→Pz)(hz:∀s∈stepsP (sN g h p σ) (sN g h p σ) p.2.2,sI (z s) σ = (s.2.1:Int)∧sI (z s) (!σ) = -1∧(z s).2.2=s.2.2.2):
  KD g h p (aloD (sN g h p σ) p.2.2 z):=by
 have hs:∀ τ,sI p τ ≠ -1→τ = σ:=fun τ ht=>by
  rcases bnot τ σ with e|e
  ·exact e
  ·rw [e]at ht;exact absurd h2 ht
 have G:=sG_gn hg hh σ;have hi:=o.lt h1;have on:=o.nd hg hh h1;refine ⟨fun τ ht=>by rw [hs τ ht];exact ⟨rfl,rfl⟩,fun w q hm=>?_,?_,fun _ τ ht l hl=>by rw [hs τ ht]at hl;exact hl,fun _ l hl=>hl σ h1,fun _ l hl τ ht=>by rw [hs τ ht];exact hl,fun _=>rfl,okN_rises on,(shp_len (okN_shp on)).1,fun _=>rfl,fun hk=>?_⟩
 ·rw [dst_alone,List.mem_map]at hm
  obtain ⟨s,hs1,e⟩:=hm;simp only [Prod.mk.injEq]at e;obtain ⟨rfl,rfl⟩:=e;obtain ⟨z1,z2,z3⟩:=hz s hs1;obtain ⟨e1,e2,e3⟩:=step_ok G hi hs1;refine ⟨⟨fun τ => ?_,σ,by rw [z1];omega⟩,fun τ => ⟨fun hq=>?_,fun hp u b hu=>?_⟩⟩
  ·rcases bnot τ σ with e|e
   ·subst e;right;rw [z1];exact ⟨by omega,by simpa using e3⟩
   ·subst e;left;exact z2
  ·rcases bnot τ σ with e|e
   ·subst e;rw [z1,z3];exact ⟨h1,by rw [Int.toNat_natCast];exact e2⟩
   ·subst e;exact absurd z2 hq
  ·obtain rfl:=hs τ hp
   obtain ⟨e4,e5⟩:=nst_fun on e2 hu;rw [z1,z3,e4,e5];exact ⟨rfl,rfl⟩
 ·show (wrd (sN g h p σ).kind (sN g h p σ).labs).length=((stepsP (sN g h p σ) (sN g h p σ) p.2.2).map z).length
  rw [← words_alone _ p.2.2,List.length_map,List.length_map]
 ·show (0:Int)<(((stepsP (sN g h p σ) (sN g h p σ) p.2.2).map z).length:Int)
  have e:=congrArg List.length (words_alone (sN g h p σ) p.2.2);have hk':(sN g h p σ).kind=6∨(sN g h p σ).kind=7:=hk;unfold wrd at e;rw [if_neg (by omega),if_neg (by omega),List.length_map]at e
  have:=labs_pos on hk';rw [List.length_map];omega
theorem kd_both{g h:List Nd}(hg:GN g)(hh:GN h){p:Pz}(o:okZ g h p)(h1:sI p false≠-1)(h2:sI p true≠-1)(hs:0≤(drMN (sN g h p false) (sN g h p true) p.2.2).spare):
  KD g h p (drMN (sN g h p false) (sN g h p true) p.2.2):=by
 have om:=o.nd hg hh h1;have on:=o.nd hg hh h2;have lm:=o.lt h1;have ln:=o.lt h2;have hsd:∀ σ,sI p σ ≠ -1:=fun σ => by cases σ;exact h1;exact h2
 unfold drMN at hs ⊢;split at hs
 ·exact absurd hs (by unfold drX;decide)
 ·rename_i he
  rw [if_neg he];have hk:(sN g h p false).kind=(sN g h p true).kind:=Decidable.byContradiction fun q=>he (.inl q)
  have hso:(sN g h p false).so=(sN g h p true).so:=Decidable.byContradiction fun q=>he (.inr q)
  split at hs
  ·rename_i hw
   rw [if_pos hw];have hk6:=wide_kind hw;have hk6':(sN g h p true).kind=6∨(sN g h p true).kind=7:=by rw [← hk];exact hk6
   by_cases h6:6<(uniL (sN g h p false) (sN g h p true)).length
   ·unfold eithD at hs;rw [if_pos h6]at hs;exact absurd hs (by unfold drX;decide)
   ·have hso0:(sN g h p false).so=0:=by
     rcases okN_cases om with ⟨a,b,_⟩|⟨a,b,_⟩|⟨a,b,_⟩|⟨a,b,_⟩
     ·exact b
     ·omega
     ·exact b
     ·exact b
    have hd:=dst_eith (sN g h p false) (sN g h p true) p.2.2 (by omega) hk6
    have ed:eithD (sN g h p false) (sN g h p true) p.2.2=⟨(sN g h p false).kind,0,uniL (sN g h p false) (sN g h p true),(uniL (sN g h p false) (sN g h p true)).map fun l=>(behI (sN g h p false) l,behI (sN g h p true) l,p.2.2),0⟩:=by unfold eithD;rw [if_neg h6]
    refine ⟨fun σ _=>?_,fun w q hm=>?_,?_,fun _ σ _ l hl=>?_,fun hn=>?_,fun hn=>?_,fun _=>by rw [ed],by rw [ed];exact uni_rises _ _,by rw [ed];simp only;omega,fun _=>by rw [ed],fun _=>?_⟩
    ·rw [ed]
     cases σ
     ·exact ⟨rfl,hso0.symm⟩
     ·exact ⟨hk,hso0.symm.trans hso⟩
    ·rw [hd,List.mem_map]at hm
     obtain ⟨l,hl,e⟩:=hm;simp only [Prod.mk.injEq]at e;obtain ⟨rfl,rfl⟩:=e;have b1:=behI_in om hk6 (l:=l) p.2.2;have b2:=behI_in on hk6' (l:=l) p.2.2;have B:∀ σ,sI (behI (sN g h p false) l,behI (sN g h p true) l,p.2.2) σ = behI (sN g h p σ) l:=fun σ => by cases σ <;> rfl
     have b:∀ σ,(behI (sN g h p σ) l≠-1↔l∈(sN g h p σ).labs)∧(l∈(sN g h p σ).labs→(l,(behI (sN g h p σ) l).toNat,p.2.2)∈nst (sN g h p σ) p.2.2∧0≤behI (sN g h p σ) l):=fun σ => by cases σ;exact b1;exact b2
     refine ⟨⟨fun σ => ?_,?_⟩,fun σ => ⟨fun hq=>?_,fun _ u b' hu=>?_⟩⟩
     ·rw [B]
      by_cases hq:behI (sN g h p σ) l = -1
      ·exact .inl hq
      ·obtain ⟨q1,q2⟩:=(b σ).2 ((b σ).1.1 hq)
       exact .inr ⟨q2,nst_lt (sG_gn hg hh σ) (o.lt (hsd σ)) q1⟩
     ·rcases mem_uniL.1 hl with q|q
      ·exact ⟨false,b1.1.2 q⟩
      ·exact ⟨true,b2.1.2 q⟩
     ·rw [B]at hq ⊢
      exact ⟨hsd σ,((b σ).2 ((b σ).1.1 hq)).1⟩
     ·rw [B]
      have k6:(sN g h p σ).kind=6∨(sN g h p σ).kind=7:=by cases σ;exact hk6;exact hk6'
      have hlm:=(nst_lab k6).1 ⟨u,b',hu⟩;obtain ⟨q1,q2⟩:=(b σ).2 hlm;obtain ⟨e1,e2⟩:=nst_fun (o.nd hg hh (hsd σ)) q1 hu;exact ⟨by omega,e2⟩
    ·rw [ed]
     simp only [List.length_map];unfold wrd;rw [if_neg (by omega),if_neg (by omega)]
    ·rw [ed]
     cases σ
     ·exact mem_uniL.2 (.inl hl)
     ·exact mem_uniL.2 (.inr hl)
    ·rw [ed]at hn;simp only at hn;rw [hw]at hn;cases hn
    ·rw [ed]at hn;simp only at hn;rw [hw]at hn;cases hn
    ·rw [ed]
     simp only [List.length_map];have hp:=labs_pos om hk6;have hm:(sN g h p false).labs[0]∈uniL (sN g h p false) (sN g h p true):=mem_uniL.2 (.inl (List.getElem_mem hp));have:=List.length_pos_of_mem hm;omega
  ·rename_i hw
   rw [if_neg hw];have hd:=dst_both (m:=sN g h p false) (n:=sN g h p true) om p.2.2;have hl:∀l,l∈(bothD (sN g h p false) (sN g h p true) p.2.2).labs↔((sN g h p false).kind=6∨(sN g h p false).kind=7)∧l∈(sN g h p false).labs∧l∈(sN g h p true).labs:=by
    intro l;unfold bothD;simp only;by_cases h0:(sN g h p false).labs.length=0
    ·rw [if_pos h0,List.length_eq_zero_iff.1 h0];simp
    ·rw [if_neg h0,List.mem_map]
     have hk6:(sN g h p false).kind=6∨(sN g h p false).kind=7:=by
      rcases okN_cases om with ⟨_,_,b,_⟩|⟨_,_,b,_⟩|⟨_,_,b,_⟩|⟨a,_⟩
      ·rw [b]at h0;exact absurd rfl h0
      ·rw [b]at h0;exact absurd rfl h0
      ·rw [b]at h0;exact absurd rfl h0
      ·exact a
     constructor
     ·rintro ⟨s,hs,rfl⟩
      have q:=(stepsP_iff om on hk p.2.2 s).1 hs;exact ⟨hk6,(nst_lab hk6).1 ⟨_,_,q.1⟩,(nst_lab (by rw [← hk];exact hk6)).1 ⟨_,_,q.2⟩⟩
     ·rintro ⟨_,q1,q2⟩
      obtain ⟨u,b,hu⟩:=(nst_lab (t:=p.2.2) hk6).2 q1;obtain ⟨v,b',hv⟩:=(nst_lab (t:=p.2.2) (by rw [← hk];exact hk6)).2 q2
      have:=nst_flag hk hu hv;subst this;exact ⟨(l,u,v,b),(stepsP_iff om on hk p.2.2 _).2 ⟨hu,hv⟩,rfl⟩
   refine ⟨fun σ _=>?_,fun w q hm=>?_,?_,fun hn=>?_,fun _ l hb=>?_,fun _ l hb σ _=>?_,fun hn=>absurd hn hw,?_,?_,fun hk=>?_,fun hk=>?_⟩
   ·cases σ
    ·exact ⟨rfl,rfl⟩
    ·exact ⟨hk,hso⟩
   ·rw [hd,List.mem_map]at hm
    obtain ⟨s,hs1,e⟩:=hm;simp only [Prod.mk.injEq]at e;obtain ⟨rfl,rfl⟩:=e;obtain ⟨q1,q2⟩:=(stepsP_iff om on hk p.2.2 s).1 hs1;have l1:=nst_lt hg lm q1;have l2:=nst_lt hh ln q2;refine ⟨⟨fun σ => ?_,false,by show (s.2.1:Int)≠-1;omega⟩,fun σ => ⟨fun _=>⟨hsd σ,?_⟩,fun _ u b hu=>?_⟩⟩
    ·right
     cases σ
     ·exact ⟨by show (0:Int)≤(s.2.1:Int);omega,by simpa [sI,zC,sG] using l1⟩
     ·exact ⟨by show (0:Int)≤(s.2.2.1:Int);omega,by simpa [sI,zC,sG] using l2⟩
    ·cases σ
     ·simpa [sI,zC] using q1
     ·simpa [sI,zC] using q2
    ·cases σ
     ·obtain ⟨e1,e2⟩:=nst_fun om q1 hu
      exact ⟨by show (s.2.1:Int)=_;rw [e1],e2⟩
     ·obtain ⟨e1,e2⟩:=nst_fun on q2 hu
      exact ⟨by show (s.2.2.1:Int)=_;rw [e1],e2⟩
   ·have e:=congrArg List.length hd
    unfold dst at e;rw [List.length_zip,List.length_map]at e;have e2:(bothD (sN g h p false) (sN g h p true) p.2.2).nxt.length=(stepsP (sN g h p false) (sN g h p true) p.2.2).length:=by unfold bothD;simp
    have e3:(wrd (bothD (sN g h p false) (sN g h p true) p.2.2).kind (bothD (sN g h p false) (sN g h p true) p.2.2).labs).length≤(stepsP (sN g h p false) (sN g h p true) p.2.2).length:=by
     unfold bothD wrd;simp only;split
     ·rename_i h2;unfold stepsP;rw [if_pos h2];simp
     ·split
      ·rename_i h2 h3;unfold stepsP;rw [if_neg h2,if_pos h3];simp
      ·split
       ·simp
       ·simp
    omega
   ·exact absurd hn hw
   ·rw [hl]
    by_cases hk6:(sN g h p false).kind=6∨(sN g h p false).kind=7
    ·exact ⟨hk6,hb false h1,hb true h2⟩
    ·have:=hb false h1
     rcases okN_cases om with ⟨_,_,b,_⟩|⟨_,_,b,_⟩|⟨_,_,b,_⟩|⟨a,_⟩
     ·rw [b]at this;cases this
     ·rw [b]at this;cases this
     ·rw [b]at this;cases this
     ·exact absurd a hk6
   ·obtain ⟨_,q1,q2⟩:=(hl l).1 hb
    cases σ
    ·exact q1
    ·exact q2
   ·exact (okN_rises om).sublist (both_sub om p.2.2)
   ·have:=(both_sub (n:=sN g h p true) om p.2.2).length_le
    have h6:=(shp_len (okN_shp om)).1;omega
   ·unfold bothD
    simp only;have hk':¬((sN g h p false).kind=6∨(sN g h p false).kind=7):=hk;have h0:(sN g h p false).labs=[]:=by
     rcases okN_cases om with ⟨_,_,b,_⟩|⟨_,_,b,_⟩|⟨_,_,b,_⟩|⟨a,_⟩
     ·exact b
     ·exact b
     ·exact b
     ·exact absurd a hk'
    rw [h0];rfl
   ·have hk':(sN g h p false).kind=6∨(sN g h p false).kind=7:=hk
    have:=labs_pos om hk';unfold bothD;simp only [List.length_map];rw [if_neg (by omega)]
    omega
theorem kd_any{g h:List Nd}(hg:GN g)(hh:GN h){p:Pz}(o:okZ g h p)(hs:0≤(drP g h p).spare):KD g h p (drP g h p):=by
 unfold drP at hs ⊢;by_cases h2:p.2.1 = -1
 ·rw [if_pos h2]
  have h1:sI p false≠-1:=by
   obtain ⟨σ,hσ⟩:=o.2;cases σ
   ·exact hσ
   ·exact absurd h2 hσ
  exact kd_alone hg hh o false h1 h2 zA (fun s _=>⟨rfl,rfl,rfl⟩)
 ·rw [if_neg h2]at hs ⊢
  by_cases h1:p.1 = -1
  ·rw [if_pos h1]
   exact kd_alone hg hh o true h2 h1 zB (fun s hs=>⟨by
    have:=(step_ok hh (o.lt (σ:=true) h2) hs).1;show (s.2.2.1:Int)=_
    rw [this],rfl,rfl⟩)
  ·rw [if_neg h1]at hs ⊢
   exact kd_both hg hh o h1 h2 hs
end Go.Proofs.YtnedgkcejlhnbaaGreatDoor
