/-
  Plain mathematics: classes that are split no more are those of nodes that do the same, for ever.
-/
import Derived.Test.YtmamabhhgfcjcaaGreatDoorHa
import Derived.DeepKeys4
import Derived.WideKeyElems
import Derived.Maps.OwnIn
import Derived.Test.YtmamabhhgfcjcaaGreatDoorOn
import Derived.Maps.Own
import Derived.StringKeys
import Derived.MapKept
namespace Go.Proofs.YtmamabhhgfcjcaaGreatDoor
def patG(g:List Nd)(k:Nat)(c:List Nat):Prop:=c.length=g.length∧∀i j,i<g.length→j<g.length→(clAt c i=clAt c j↔gT g k i=gT g k j)
structure CLS(g:List Nd)(c:List Nat):Prop where
 len:c.length=g.length
 lt:∀i,i<g.length→clAt c i<g.length
 eq:∀i j,i<g.length→j<g.length→(clAt c i=clAt c j↔alikeG g g i j)
theorem pat_zero(g:List Nd):patG g 0 (List.replicate g.length 0):=by
 refine ⟨by simp,fun i j hi hj=>⟨fun _=>rfl,fun _=>?_⟩⟩
 unfold clAt;rw [List.getElem?_eq_getElem (by simpa using hi),List.getElem?_eq_getElem (by simpa using hj)]
 simp
theorem cnt_zero:∀n,0<n→cnt (List.replicate n 0)=1
 | 1,_=>by rfl
 | n+2,_=>by
  rw [List.replicate_succ',cnt_snoc,cnt_zero (n+1) (by omega),if_pos (by simp)]
theorem labs_inj(l l':List ByteArray):l.map (·.data.toList)=l'.map (·.data.toList)↔l=l':=by
 constructor
 ·intro h
  refine (List.map_inj_right ?_).1 h;intro a b e;exact ByteArray.ext (Array.toList_inj.1 e)
 ·intro h;rw [h]
theorem pat_split{g:List Nd}(hs:shutG g){k:Nat}{c:List Nat}(h:patG g k c):patG g (k+1) (splitG g c).2:=by
 refine ⟨(split_inv g c).len,fun i j hi hj=>?_⟩
 rw [split_eq g c i j hi hj,gT_eq_iff,nodeAt_lt g i hi,nodeAt_lt g j hj];unfold keyOfN;simp only [Prod.mk.injEq,labs_inj];refine and_congr_right fun _=>and_congr_right fun _=>and_congr_right fun _=>⟨fun e=>?_,fun e=>?_⟩
 ·exact map_eq_of2 _ _ _ _ _ _ (fun a ha b hb hab=>(h.2 a b (hs _ (List.getElem_mem hi) a ha) (hs _ (List.getElem_mem hj) b hb)).1 hab) e
 ·exact map_eq_of2 _ _ _ _ _ _ (fun a ha b hb hab=>(h.2 a b (hs _ (List.getElem_mem hi) a ha) (hs _ (List.getElem_mem hj) b hb)).2 hab) e
theorem count_imp{α : Type}(p q : α → Bool):∀l:List α,(∀a∈l,p a=true→q a=true)→l.countP p=l.countP q→∀a∈l,q a=true→p a=true
 | [],_,_,a,ha,_=>by cases ha
 | x::l,h,e,a,ha,hq=>by
  have hm:=List.countP_mono_left (fun a ha=>h a (List.mem_cons_of_mem x ha))
  rw [List.countP_cons,List.countP_cons]at e;have hx:=h x (.head _);by_cases h1:p x=true
  ·rw [if_pos h1,if_pos (hx h1)]at e
   rcases List.mem_cons.1 ha with rfl|ha
   ·exact h1
   ·exact count_imp p q l (fun a ha=>h a (.tail _ ha)) (by omega) a ha hq
  ·by_cases h2:q x=true
   ·rw [if_neg h1,if_pos h2]at e;omega
   ·rw [if_neg h1,if_neg h2]at e
    rcases List.mem_cons.1 ha with rfl|ha
    ·exact absurd hq h2
    ·exact count_imp p q l (fun a ha=>h a (.tail _ ha)) (by omega) a ha hq
theorem mem_take(c:List Nat)(i:Nat)(hi:i<c.length)(x:Nat):x∈c.take i↔∃j,j<i∧clAt c j=x:=by
 rw [List.mem_iff_getElem];constructor
 ·rintro ⟨j,hj,rfl⟩
  have hj':j<i∧j<c.length:=by rw [List.length_take]at hj;omega
  refine ⟨j,hj'.1,?_⟩;unfold clAt;rw [List.getElem?_eq_getElem hj'.2,List.getElem_take];rfl
 ·rintro ⟨j,hj,rfl⟩
  have hjl:j<c.length:=by omega
  refine ⟨j,by simp;omega,?_⟩
  unfold clAt;rw [List.getElem?_eq_getElem hjl,List.getElem_take];rfl
theorem first_of(f:List Nat):∀i,i<f.length→∃r,r≤i∧clAt f r=clAt f i∧clAt f r ∉ f.take r:=by
 intro i;induction i using Nat.strongRecOn with
 | _ i ih =>
  intro hi;by_cases h:clAt f i∈f.take i
  ·obtain ⟨j,hj,e⟩:=(mem_take f i hi _).1 h
   obtain ⟨r,hr,er,hf⟩:=ih j hj (by omega)
   exact ⟨r,by omega,er.trans e,hf⟩
  ·exact ⟨i,nR _,rfl,h⟩
theorem cnt_stable(c f:List Nat)(hl:f.length=c.length)(href:∀i j,i<c.length→j<c.length→clAt f i=clAt f j→clAt c i=clAt c j)(hcnt:cnt f=cnt c)(i j:Nat)(hi:i<c.length)(hj:j<c.length)(e:clAt c i=clAt c j):clAt f i=clAt f j:=by
 have himp:∀r,r<c.length→clAt c r ∉ c.take r→clAt f r ∉ f.take r:=by
  intro r hr h hm;obtain ⟨q,hq,eq⟩:=(mem_take f r (by omega) _).1 hm
  exact h ((mem_take c r hr _).2 ⟨q,hq,href q r (by omega) hr eq⟩)
 have hback:∀r,r<c.length→clAt f r ∉ f.take r→clAt c r ∉ c.take r:=by
  unfold cnt at hcnt;rw [hl]at hcnt;have:=count_imp (fun i=>decide ((c[i]?).getD 0 ∉ c.take i)) (fun i=>decide ((f[i]?).getD 0 ∉ f.take i)) (List.range c.length) (fun a ha h=>by
   have ha':a<c.length:=by simpa using ha
   exact decide_eq_true (himp a ha' (of_decide_eq_true h))) hcnt.symm
  intro r hr h;exact of_decide_eq_true (this r (by simpa using hr) (decide_eq_true h))
 obtain ⟨r,hr,er,hfr⟩:=first_of f i (by omega)
 obtain ⟨q,hq,eq,hfq⟩:=first_of f j (by omega)
 have h1:=hback r (by omega) hfr
 have h2:=hback q (by omega) hfq
 have ec:clAt c r=clAt c q:=(href r i (by omega) hi er).trans (e.trans (href q j (by omega) hj eq).symm)
 have:r=q:=by
  rcases Nat.lt_trichotomy r q with h|h|h
  ·exact absurd ((mem_take c q (by omega) _).2 ⟨r,h,ec⟩) h2
  ·exact h
  ·exact absurd ((mem_take c r (by omega) _).2 ⟨q,h,ec.symm⟩) h1
 subst this;exact er.symm.trans eq
theorem cnt_le(c:List Nat):cnt c≤c.length:=by
 unfold cnt;refine Nat.le_trans List.countP_le_length ?_;simp
theorem cnt_mono(c f:List Nat)(hl:f.length=c.length)(href:∀i j,i<c.length→j<c.length→clAt f i=clAt f j→clAt c i=clAt c j):cnt c≤cnt f:=by
 unfold cnt;rw [hl];refine List.countP_mono_left fun a ha h=>?_
 have ha':a<c.length:=by simpa using ha
 refine decide_eq_true fun hm=>of_decide_eq_true h ?_
 obtain ⟨q,hq,eq⟩:=(mem_take f a (by omega) _).1 hm
 exact (mem_take c a ha' _).2 ⟨q,hq,href q a (by omega) ha' eq⟩
theorem pat_refine{g:List Nd}{k:Nat}{c f:List Nat}(hc:patG g k c)(hf:patG g (k+1) f):∀i j,i<c.length→j<c.length→clAt f i=clAt f j→clAt c i=clAt c j:=by
 intro i j hi hj e;rw [hc.1]at hi hj;exact (hc.2 i j hi hj).2 (gT_down g g k i j ((hf.2 i j hi hj).1 e))
theorem cls_done{g:List Nd}(hs:shutG g){k:Nat}{c:List Nat}(hc:patG g k c)(he:(splitG g c).1.length=cnt c):CLS g (splitG g c).2:=by
 have hf:=pat_split hs hc;have hl:(splitG g c).2.length=c.length:=by rw [hf.1,hc.1]
 have href:=pat_refine hc hf;have hcn:=(split_inv g c).cn;have hst:=cnt_stable c (splitG g c).2 hl href (by omega)
 have hup:∀m i j,i<g.length→j<g.length→gT g k i=gT g k j→gT g (k+m) i=gT g (k+m) j:=by
  intro m;induction m with
  | zero=>intro i j _ _ e;exact e
  | succ m ih =>
   intro i j hi hj e;have e1:gT g (k+1) i=gT g (k+1) j:=(hf.2 i j hi hj).1 (hst i j (by rw [hc.1];exact hi) (by rw [hc.1];exact hj) ((hc.2 i j hi hj).2 e))
   rw [gT_eq_iff]at e1;rw [← Nat.add_assoc,gT_eq_iff];refine ⟨e1.1,e1.2.1,e1.2.2.1,map_eq_of2 _ _ _ _ _ _ (fun a ha b hb hab=>ih a b (shut_at hs i a ha) (shut_at hs j b hb) hab) e1.2.2.2⟩
 refine ⟨hf.1,fun i hi=>?_,fun i j hi hj=>⟨fun e m=>?_,fun e=>(hf.2 i j hi hj).2 (e (k+1))⟩⟩
 ·have h1:=split_lt g c i hi
  have h2:=cnt_le c;rw [hc.1]at h2;omega
 ·have e1:=hup m i j hi hj (gT_down g g k i j ((hf.2 i j hi hj).1 e))
  rw [Nat.add_comm]at e1;exact gT_downs g g i j k m e1
theorem cls_more{g:List Nd}(hs:shutG g){k:Nat}{c:List Nat}(hc:patG g k c)(hne:(splitG g c).1.length≠cnt c):cnt c<(splitG g c).1.length∧(splitG g c).1.length≤g.length:=by
 have hf:=pat_split hs hc;have hcn:=(split_inv g c).cn;have h1:=cnt_mono c (splitG g c).2 (by rw [hf.1,hc.1]) (pat_refine hc hf)
 have h2:=cnt_le (splitG g c).2;rw [hf.1]at h2;omega
open Go.RowKit
theorem laidOutG:laidOutB Tryz.prog=true:=by kernel_rfl
theorem keyLaw:WideMaps.KeyLaw Tryz.prog 182:=deep_law_laid (m:=3) laidOutG (by decide) (of_decide_eq_true (by kernel_rfl)) (by kernel_rfl) (by kernel_rfl)
def kCs(kd so:Int)(ls:List ByteArray)(ns:List Int):List Value:=[.int .i64 kd,.int .i64 so]++((ls.map Value.string++List.replicate (6 - ls.length) (.string ⟨#[]⟩))++(ns.map (Value.int .i64)++List.replicate (6 - ns.length) (.int .i64 0)))
def in64z(z:Int):Prop:=-9223372036854775808≤z∧z≤9223372036854775807
theorem wf64(z:Int)(hz:in64z z):(Lit.int .i64 z).wf=true:=by
 unfold in64z at hz;simp [Lit.wf];exact ⟨hz.1,hz.2⟩
theorem kl_int(d:Nat)(z:Int)(hz:in64z z):Tryz.prog.keyLits (d+1) 3 [.int .i64 z]=some [.int .i64 z]:=by
 simp [Program.keyLits,Tryz.underlying3,wf64 z hz]
theorem range6:List.range 6=[0,1,2,3,4,5]:=rfl
theorem kl_strs(d:Nat)(s0 s1 s2 s3 s4 s5:ByteArray)(h0:s0.size≤maxLen)(h1:s1.size≤maxLen)(h2:s2.size≤maxLen)(h3:s3.size≤maxLen)(h4:s4.size≤maxLen)(h5:s5.size≤maxLen):∃l,Tryz.prog.keyLits (d+2) 179 [.string s0,.string s1,.string s2,.string s3,.string s4,.string s5]=some l:=by
 have c1:Tryz.prog.cellsOf 179=6:=by kernel_rfl
 have c4:Tryz.prog.cellsOf 9=1:=by kernel_rfl
 simp only [Program.keyLits,Tryz.underlying179,c1,c4,List.length_cons,List.length_nil,range6];simp [h0,h1,h2,h3,h4,h5]
theorem kl_ints(d:Nat)(s0 s1 s2 s3 s4 s5:Int)(h0:in64z s0)(h1:in64z s1)(h2:in64z s2)(h3:in64z s3)(h4:in64z s4)(h5:in64z s5):∃l,Tryz.prog.keyLits (d+2) 180 [.int .i64 s0,.int .i64 s1,.int .i64 s2,.int .i64 s3,.int .i64 s4,.int .i64 s5]=some l:=by
 have c1:Tryz.prog.cellsOf 180=6:=by kernel_rfl
 have c4:Tryz.prog.cellsOf 3=1:=by kernel_rfl
 simp only [Program.keyLits,Tryz.underlying180,c1,c4,List.length_cons,List.length_nil,range6];simp [wf64 _ h0,wf64 _ h1,wf64 _ h2,wf64 _ h3,wf64 _ h4,wf64 _ h5]
theorem key_of(kd so:Int)(s0 s1 s2 s3 s4 s5:ByteArray)(n0 n1 n2 n3 n4 n5:Int)(hk:in64z kd)(hs:in64z so)(h0:s0.size≤maxLen)(h1:s1.size≤maxLen)(h2:s2.size≤maxLen)(h3:s3.size≤maxLen)(h4:s4.size≤maxLen)(h5:s5.size≤maxLen)
  (m0:in64z n0) (m1:in64z n1) (m2:in64z n2) (m3:in64z n3) (m4:in64z n4) (m5:in64z n5) :
  ∃l,keyOf Tryz.prog 182 (.agg #[.int .i64 kd,.int .i64 so,.string s0,.string s1,.string s2,.string s3,.string s4,.string s5,.int .i64 n0,.int .i64 n1,.int .i64 n2,.int .i64 n3,.int .i64 n4,.int .i64 n5])=some l:=by
 have hm:Tryz.prog.types.size+1=(Tryz.prog.types.size - 2)+3:=by kernel_rfl
 have c0:Tryz.prog.cellsOf 182=14:=by kernel_rfl
 have c1:Tryz.prog.cellsOf 179=6:=by kernel_rfl
 have c2:Tryz.prog.cellsOf 180=6:=by kernel_rfl
 have c3:Tryz.prog.cellsOf 3=1:=by kernel_rfl
 have kt:Tryz.prog.keyType 182=true:=by kernel_rfl
 unfold keyOf;rw [hm];generalize Tryz.prog.types.size - 2=d;obtain ⟨l1,e1⟩:=kl_strs d s0 s1 s2 s3 s4 s5 h0 h1 h2 h3 h4 h5;obtain ⟨l2,e2⟩:=kl_ints d n0 n1 n2 n3 n4 n5 m0 m1 m2 m3 m4 m5;have e3:=kl_int (d+1) kd hk;have e4:=kl_int (d+1) so hs;rw [Tryz.underlying182];simp only;rw [if_pos]
 ·rw [Program.keyLits.eq_def]
  simp only [Tryz.underlying182];simp [c0,c1,c2,c3,Value.cells,e1,e2,e3,e4]
 ·rw [kt]
  simp [Value.formed];exact c0.symm
def MPa(W:World)(mb:Nat)(ds:List Value):Prop:=∃es clock,W.heap[mb]? = some (.map es clock)∧es.size=ds.length∧∀i (h:i<ds.length),∃e,es[i]? = some e∧e.key=ds[i]∧e.val = .int .i64 (i:Int)
def KeysOK(ds:List Value):Prop:=∀d∈ds,∃l,keyOf Tryz.prog 182 d=some l
theorem mpa_keys{ds:List Value}{es:Array MapEntry}(hsz:es.size=ds.length)(hes:∀i (h:i<ds.length),∃e,es[i]? = some e∧e.key=ds[i]∧e.val = .int .i64 (i:Int))(hk:KeysOK ds):∀e∈es.toList,∃l,keyOf Tryz.prog 182 e.key=some l:=by
 intro e he;obtain ⟨i,hi,rfl⟩:=List.mem_iff_getElem.1 he;have hi':i<ds.length:=by rw [← hsz];simpa using hi
 obtain ⟨e',h1,h2,_⟩:=hes i hi';have:es.toList[i]=e':=by
  have h3:es[i]? = some es.toList[i]:=by
   rw [← Array.getElem?_toList];exact List.getElem?_eq_getElem hi
  rw [h3]at h1;exact Option.some.inj h1
 rw [this,h2];exact hk _ (List.getElem_mem hi')
def plOf(ds:List Value)(key:Value)(j:Nat):Prop:=ds[j]? = some key
theorem lookG_in{W:World}{mb:Nat}{ds:List Value}(hm:MPa W mb ds)(hk:KeysOK ds)(hn:ds.Nodup){key:Value}{kl:Lit}(hkey:keyOf Tryz.prog 182 key=some kl){j:Nat}(hj:plOf ds key j):
  (Instr.lookup 178 (.map (some mb)) key true).run Tryz.prog W = .ok (.tuple #[.int .i64 (j:Int),.bool true]) W:=by
 obtain ⟨es,clock,hb,hsz,hes⟩:=hm;have K:=keyLaw;have hjl:j<ds.length:=(List.getElem?_eq_some_iff.1 hj).1;have hjv:ds[j]=key:=(List.getElem?_eq_some_iff.1 hj).2;rcases K.find W hkey es.toList (mpa_keys hsz hes hk) with ⟨h1,h2⟩|⟨i,e0,h1,h2,h3⟩
 ·obtain ⟨e,he,hek,_⟩:=hes j hjl
  exact absurd (hek.trans hjv) (h2 e (by rw [Array.mem_toList_iff,Array.mem_iff_getElem?];exact ⟨j,he⟩))
 ·have hil:i<ds.length:=by
   have:=(List.getElem?_eq_some_iff.1 h2).1;rw [← hsz];simpa using this
  obtain ⟨e,he,hek,hev⟩:=hes i hil;have:e=e0:=by rw [← Array.getElem?_toList]at he;rw [he]at h2;exact Option.some.inj h2
  subst this;have hij:i=j:=by
   have e1:ds[i]=ds[j]:=by rw [hjv,← hek,h3]
   rcases Nat.lt_trichotomy i j with h|h|h
   ·exact absurd e1 ((List.pairwise_iff_getElem.1 hn) _ _ hil hjl h)
   ·exact h
   ·exact absurd e1.symm ((List.pairwise_iff_getElem.1 hn) _ _ hjl hil h)
  subst hij;rw [hev]at h1;simp [Instr.lookup,run_underlying Tryz.underlying178,MapKept.run_getObj_map hb,K.check W _ hkey,h1,Result.andThen]
theorem look_out{W:World}{mb:Nat}{ds:List Value}(hm:MPa W mb ds)(hk:KeysOK ds){key:Value}{kl:Lit}(hkey:keyOf Tryz.prog 182 key=some kl)(hj:key ∉ ds):
  (Instr.lookup 178 (.map (some mb)) key true).run Tryz.prog W = .ok (.tuple #[.int .i64 0,.bool false]) W ∧
  ∀z:Int,∃W',(Instr.mapUpdate 178 (.map (some mb)) key (.int .i64 z)).run Tryz.prog W = .ok () W'∧W.grownBy W' (some mb)∧W'.heap.size=W.heap.size∧(z=(ds.length:Int)→MPa W' mb (ds++[key])):=by
 obtain ⟨es,clock,hb,hsz,hes⟩:=hm;have K:=keyLaw;rcases K.find W hkey es.toList (mpa_keys hsz hes hk) with ⟨h1,h2⟩|⟨i,e0,h1,h2,h3⟩
 ·refine ⟨by simp [Instr.lookup,run_underlying Tryz.underlying178,MapKept.run_getObj_map hb,K.check W _ hkey,h1,Result.andThen],fun z=>⟨{ W with heap:=W.heap.setIfInBounds mb (.map (es.push { key:=key,val:=.int .i64 z,born:=clock }) (clock+1)) },?_,?_⟩⟩
  ·simp [Instr.mapUpdate,run_underlying Tryz.underlying178,MapKept.run_getObj_map hb,K.check W _ hkey,h1,MapKept.run_setObj_map _ hb,Result.andThen]
  ·refine ⟨⟨rfl,rfl,rfl,by simp,fun k hk' hne=>(MapKept.heap_set hb).2 k (fun e=>hne (by rw [e]))⟩,by simp,fun hz=>⟨_,_,(MapKept.heap_set hb).1,by simp [hsz],fun i hi=>?_⟩⟩
   by_cases hi':i<ds.length
   ·obtain ⟨e,he,hek,hev⟩:=hes i hi'
    refine ⟨e,?_,by rw [List.getElem_append_left hi'];exact hek,hev⟩
    rw [Array.getElem?_push,if_neg (by omega)];exact he
   ·obtain rfl:i=ds.length:=by simp at hi;omega
    refine ⟨_,by rw [Array.getElem?_push,if_pos hsz.symm],by simp,by rw [hz]⟩
 ·exfalso
  have hil:i<ds.length:=by
   have:=(List.getElem?_eq_some_iff.1 h2).1;rw [← hsz];simpa using this
  obtain ⟨e,he,hek,hev⟩:=hes i hil;have:e=e0:=by rw [← Array.getElem?_toList]at he;rw [he]at h2;exact Option.some.inj h2
  subst this;exact hj (by rw [← h3,hek];exact List.getElem_mem hil)
theorem MPa.new(W:World):MPa (W.alloc (.map #[] 0)) W.heap.size []:=⟨_,_,heap_alloc_new W _,rfl,fun _ h=>absurd h (Nat.not_lt_zero _)⟩
theorem MPa.len{W:World}{mb:Nat}{ds:List Value}(hm:MPa W mb ds)(ty:TypeId):(Builtin.len_ #[178] ty #[.map (some mb)]).run Tryz.prog W = .ok (goInt ds.length) W:=by
 obtain ⟨es,clock,hb,hsz,hes⟩:=hm;rw [← hsz];exact run_len_map W _ ty mb es clock (show Tryz.prog.underlying 178=some (.map (Tryz.prog.mapKeyOf 178) (Tryz.prog.mapElemOf 178)) by kernel_rfl) hb
theorem MPa.kept{W W':World}{mb:Nat}{ds:List Value}(hm:MPa W mb ds){row:Option Nat}(hg:W.grownBy W' row)(hne:some mb≠row):MPa W' mb ds:=by
 obtain ⟨es,clock,hb,hsz,hes⟩:=hm;exact ⟨es,clock,(hg.block mb (Array.getElem?_eq_some_iff.1 hb).1 hne).trans hb,hsz,hes⟩
theorem wpList_look{w:World}{ops:Array Oper}{rest:List Oper}{o:Oper}{a:Act}{Q:Exit→Act→World→Prop}(hgd:o.guard=none)(m x:Operand)(t:TypeId)(ho:o.op=Op.lookup t m x true){mv key v:Value}
  (hm:a.eval m=mv) (hx:a.eval x=key) (hrun:(Instr.lookup t mv key true).run Tryz.prog w = .ok v w) (h:wpList Tryz.prog ops Q rest (a.put o.dst v) w):wpList Tryz.prog ops Q (o::rest) a w:=by
 refine wpList_plain hgd fun K hK=>?_
 unfold Oper.wp;simp [execOp,ho,hm,hx,hrun,Result.andThen];exact hK _ _ h
theorem wpList_upd{w w':World}{ops:Array Oper}{rest:List Oper}{o:Oper}{a:Act}{Q:Exit→Act→World→Prop}(hgd:o.guard=none)(m x y:Operand)(t:TypeId)(ho:o.op=Op.mapUpdate t m x y){mv key v:Value}
  (hm:a.eval m=mv) (hx:a.eval x=key) (hy:a.eval y=v) (hrun:(Instr.mapUpdate t mv key v).run Tryz.prog w = .ok () w') (h:wpList Tryz.prog ops Q rest (a.put o.dst undef) w'):wpList Tryz.prog ops Q (o::rest) a w:=by
 refine wpList_plain hgd fun K hK=>?_
 unfold Oper.wp;simp [execOp,ho,hm,hx,hy,hrun,Result.andThen];exact hK _ _ h
open Go.Shelf Go.Maps
def SMv(W:World)(b:Nat)(vs:List (ByteArray × Value)):Prop:=∃es clock,W.heap[b]? = some (.map es clock)∧(es.toList.map fun e=>(e.key,e.val)).Perm (vs.map fun q=>(Value.string q.1,q.2))∧(vs.map (·.1)).Nodup∧(∀q∈vs,q.1.size≤maxLen)∧(es.toList.map (·.born)).Nodup∧∀e∈es.toList,e.born<clock
def getV{α : Type}(vs:List (ByteArray × α))(n:ByteArray):Option α:=(vs.find? fun q=>decide (q.1=n)).map (·.2)
def delV{α : Type}(vs:List (ByteArray × α))(n:ByteArray):List (ByteArray × α):=vs.filter fun q=>decide (q.1≠n)
def putV{α : Type}(vs:List (ByteArray × α))(n:ByteArray)(v : α):List (ByteArray × α):=delV vs n++[(n,v)]
theorem getV_cons{α : Type}(q:ByteArray × α)(vs:List (ByteArray × α))(n:ByteArray):getV (q::vs) n=if q.1=n then some q.2 else getV vs n:=by
 unfold getV;rw [List.find?_cons];by_cases h:q.1=n
 ·simp [h]
 ·simp [h]
theorem getV_mem{α : Type}{vs:List (ByteArray × α)}{n:ByteArray}{v : α}(h:getV vs n=some v):(n,v)∈vs:=by
 induction vs with
 | nil=>simp [getV]at h
 | cons q vs ih =>
  rw [getV_cons]at h;by_cases hq:q.1=n
  ·rw [if_pos hq]at h
   obtain ⟨a,b⟩:=q;simp only at hq h;cases h
   subst hq;exact List.mem_cons_self
  ·rw [if_neg hq]at h
   exact List.mem_cons_of_mem _ (ih h)
theorem getV_none{α : Type}{vs:List (ByteArray × α)}{n:ByteArray}(h:getV vs n=none):n ∉ vs.map (·.1):=by
 induction vs with
 | nil=>simp
 | cons q vs ih =>
  rw [getV_cons]at h;by_cases hq:q.1=n
  ·rw [if_pos hq]at h;cases h
  ·rw [if_neg hq]at h
   rw [List.map_cons,List.mem_cons];rintro (e|e)
   ·exact hq e.symm
   ·exact ih h e
theorem get_one{α : Type}{vs:List (ByteArray × α)}(hn:(vs.map (·.1)).Nodup){n:ByteArray}{v u : α}(h1:(n,v)∈vs)(h2:(n,u)∈vs):v=u:=by
 induction vs with
 | nil=>cases h1
 | cons q vs ih =>
  rw [List.map_cons,List.nodup_cons]at hn;rcases List.mem_cons.1 h1 with e1|g1
  ·rcases List.mem_cons.1 h2 with e2|g2
   ·rw [← e2]at e1;exact (Prod.mk.inj e1).2
   ·exact absurd (List.mem_map.2 ⟨_,g2,by rw [← e1]⟩) hn.1
  ·rcases List.mem_cons.1 h2 with e2|g2
   ·exact absurd (List.mem_map.2 ⟨_,g1,by rw [← e2]⟩) hn.1
   ·exact ih hn.2 g1 g2
theorem delV_self{α : Type}{vs:List (ByteArray × α)}{n:ByteArray}(h:n ∉ vs.map (·.1)):delV vs n=vs:=by
 unfold delV;rw [List.filter_eq_self];intro q hq;have:q.1≠n:=fun e=>h (List.mem_map.2 ⟨q,hq,e⟩)
 simpa using this
theorem perm_out{α : Type}{vs:List (ByteArray × α)}(hn:(vs.map (·.1)).Nodup){n:ByteArray}{v : α}(h:(n,v)∈vs):vs.Perm ((n,v)::delV vs n):=by
 induction vs with
 | nil=>cases h
 | cons q vs ih =>
  rw [List.map_cons,List.nodup_cons]at hn;rcases List.mem_cons.1 h with rfl|h
  ·have e:delV ((n,v)::vs) n=delV vs n:=by unfold delV;rw [List.filter_cons_of_neg (by simp)]
   rw [e,delV_self hn.1]
  ·have hq:q.1≠n:=fun e=>hn.1 (List.mem_map.2 ⟨_,h,e.symm⟩)
   have e:delV (q::vs) n=q::delV vs n:=by unfold delV;rw [List.filter_cons_of_pos (by simpa using hq)]
   rw [e];exact ((ih hn.2 h).cons q).trans (List.Perm.swap _ _ _)
theorem delV_keys{α : Type}(vs:List (ByteArray × α))(n:ByteArray):n ∉ (delV vs n).map (·.1):=by
 intro h;obtain ⟨q,hq,e⟩:=List.mem_map.1 h;have:=(List.mem_filter.1 hq).2;simp at this;exact this e
theorem delV_nodup{α : Type}{vs:List (ByteArray × α)}(hn:(vs.map (·.1)).Nodup)(n:ByteArray):((delV vs n).map (·.1)).Nodup :=
 hn.sublist ((List.filter_sublist).map _)
theorem putV_nodup{α : Type}{vs:List (ByteArray × α)}(hn:(vs.map (·.1)).Nodup)(n:ByteArray)(v : α):((putV vs n v).map (·.1)).Nodup:=by
 unfold putV;rw [List.map_append,List.nodup_append];refine ⟨delV_nodup hn n,by simp,fun a ha b hb e=>?_⟩
 simp at hb;subst hb e;exact delV_keys vs _ ha
theorem mem_delV{α : Type}{vs:List (ByteArray × α)}{n:ByteArray}{q:ByteArray × α}(h:q∈delV vs n):q∈vs:=(List.mem_filter.1 h).1
theorem SK:Keyed Tryz.prog 9:=string_keyed Tryz.underlying9
theorem key_st{n:ByteArray}(h:n.size≤maxLen):keyOf Tryz.prog 9 (.string n)=some (.string n.data.toList):=WideMaps.keyOf_string_mk Tryz.underlying9 h
theorem sm_keys{es:Array MapEntry}{vs:List (ByteArray × Value)}(hp:(es.toList.map fun e=>(e.key,e.val)).Perm (vs.map fun q=>(Value.string q.1,q.2)))(hs:∀q∈vs,q.1.size≤maxLen):∀e∈es.toList,∃l,keyOf Tryz.prog 9 e.key=some l:=by
 intro e he;have:(e.key,e.val)∈vs.map fun q=>(Value.string q.1,q.2):=hp.mem_iff.1 (List.mem_map.2 ⟨e,he,rfl⟩)
 obtain ⟨q,hq,h⟩:=List.mem_map.1 this;rw [show e.key = .string q.1 from (Prod.mk.inj h).1.symm]
 exact ⟨_,key_st (hs q hq)⟩
theorem sm_find{W:World}{es:Array MapEntry}{vs:List (ByteArray × Value)}(hp:(es.toList.map fun e=>(e.key,e.val)).Perm (vs.map fun q=>(Value.string q.1,q.2)))(hn:(vs.map (·.1)).Nodup)(hs:∀q∈vs,q.1.size≤maxLen){n:ByteArray}(h:n.size≤maxLen):
  (getV vs n=none∧(Instr.findKey 9 (.string n) es.toList).run Tryz.prog W = .ok none W)∨∃v j e,getV vs n=some v∧(Instr.findKey 9 (.string n) es.toList).run Tryz.prog W = .ok (some (j,v)) W∧es[j]? = some e∧e.key = .string n∧e.val=v:=by
 rcases SK.find W (key_st h) es.toList (sm_keys hp hs) with ⟨h1,h2⟩|⟨j,e,h1,h2,h3⟩
 ·cases hg:getV vs n with
  | none=>exact .inl ⟨rfl,h1⟩
  | some v =>
   exfalso
   have:(Value.string n,v)∈es.toList.map fun e=>(e.key,e.val):=hp.mem_iff.2 (List.mem_map.2 ⟨_,getV_mem hg,rfl⟩)
   obtain ⟨e,he,q⟩:=List.mem_map.1 this;exact h2 e he (Prod.mk.inj q).1
 ·have hm:(e.key,e.val)∈vs.map fun q=>(Value.string q.1,q.2):=hp.mem_iff.1 (List.mem_map.2 ⟨e,List.mem_of_getElem? h2,rfl⟩)
  obtain ⟨q,hq,hqe⟩:=List.mem_map.1 hm;have e1:q.1=n:=by
   have:=(Prod.mk.inj hqe).1;rw [h3]at this;exact Value.string.inj this
  have e2:q.2=e.val:=(Prod.mk.inj hqe).2;have hmem:(n,e.val)∈vs:=by rw [← e1,← e2];exact hq
  cases hg:getV vs n with
  | none=>exact absurd (List.mem_map.2 ⟨_,hmem,rfl⟩) (getV_none hg)
  | some v =>
   have:v=e.val:=get_one hn (getV_mem hg) hmem;subst this;refine .inr ⟨_,j,e,rfl,h1,?_,h3,rfl⟩;rw [← Array.getElem?_toList];exact h2
section
theorem look_yes {T E:TypeId} (hT:Tryz.prog.underlying T=some (.map 9 E)){W:World}{b:Nat}{vs:List (ByteArray × Value)}(hm:SMv W b vs){n:ByteArray}(h:n.size≤maxLen){v:Value}(hv:getV vs n=some v):
  (Instr.lookup T (.map (some b)) (.string n) true).run Tryz.prog W = .ok (.tuple #[v,.bool true]) W∧(Instr.lookup T (.map (some b)) (.string n) false).run Tryz.prog W = .ok v W:=by
 obtain ⟨es,clock,hb,hp,hn,hs,hbn,hbc⟩:=hm;rcases sm_find (W:=W) hp hn hs h with ⟨h1,_⟩|⟨v',j,e,h1,h2,_,_,_⟩
 ·rw [hv]at h1;cases h1
 ·rw [hv]at h1;cases h1
  constructor <;> simp [Instr.lookup,run_underlying hT,MapKept.run_getObj_map hb,SK.check W _ (key_st h),h2,Result.andThen]
theorem look_no {T E:TypeId} (hT:Tryz.prog.underlying T=some (.map 9 E)){W:World}{b:Nat}{vs:List (ByteArray × Value)}(hm:SMv W b vs){n:ByteArray}(h:n.size≤maxLen)(hv:getV vs n=none){z:Value}(hz:(zeroValue E).run Tryz.prog W = .ok z W):
  (Instr.lookup T (.map (some b)) (.string n) true).run Tryz.prog W = .ok (.tuple #[z,.bool false]) W:=by
 obtain ⟨es,clock,hb,hp,hn,hs,hbn,hbc⟩:=hm;rcases sm_find (W:=W) hp hn hs h with ⟨_,h2⟩|⟨v',j,e,h1,_⟩
 ·simp [Instr.lookup,run_underlying hT,MapKept.run_getObj_map hb,SK.check W _ (key_st h),h2,hz,Result.andThen]
 ·rw [hv]at h1;cases h1
theorem look_nilM {T E:TypeId} (hT:Tryz.prog.underlying T=some (.map 9 E)){W:World}{n:ByteArray}(h:n.size≤maxLen){z:Value}(hz:(zeroValue E).run Tryz.prog W = .ok z W):
  (Instr.lookup T (.map none) (.string n) true).run Tryz.prog W = .ok (.tuple #[z,.bool false]) W:=by
 rcases SK.find W (key_st h) [] (fun e he=>by cases he) with ⟨h1,_⟩|⟨j,e,_,h2,_⟩
 ·simp [Instr.lookup,run_underlying hT,SK.check W _ (key_st h),h1,hz,Result.andThen]
 ·simp at h2
theorem sm_upd {T E:TypeId} (hT:Tryz.prog.underlying T=some (.map 9 E)){W:World}{b:Nat}{vs:List (ByteArray × Value)}(hm:SMv W b vs){n:ByteArray}(h:n.size≤maxLen)(v:Value):
  ∃W',(Instr.mapUpdate T (.map (some b)) (.string n) v).run Tryz.prog W = .ok () W'∧W.grownBy W' (some b)∧W'.heap.size=W.heap.size∧SMv W' b (putV vs n v):=by
 obtain ⟨es,clock,hb,hp,hn,hs,hbn,hbc⟩:=hm;have hs':∀q∈putV vs n v,q.1.size≤maxLen:=by
  intro q hq;rcases List.mem_append.1 hq with hq|hq
  ·exact hs q (mem_delV hq)
  ·simp at hq;subst hq;exact h
 rcases sm_find (W:=W) hp hn hs h with ⟨h1,h2⟩|⟨v',j,e,h1,h2,h3,h4,h5⟩
 ·refine ⟨{ W with heap:=W.heap.setIfInBounds b (.map (es.push { key:=.string n,val:=v,born:=clock }) (clock+1)) },?_,⟨rfl,rfl,rfl,by simp,fun k hk' hne=>(MapKept.heap_set hb).2 k (fun e=>hne (by rw [e]))⟩,by simp,_,_,(MapKept.heap_set hb).1,?_,putV_nodup hn n v,hs',by
   simp only [Array.toList_push,List.map_append,List.map_cons,List.map_nil,List.nodup_append];refine ⟨hbn,by simp,fun a ha b hb' e=>?_⟩
   obtain ⟨x,hx,rfl⟩:=List.mem_map.1 ha;simp at hb';have:=hbc x hx;omega,by
   intro x hx;simp only [Array.toList_push,List.mem_append,List.mem_singleton]at hx;rcases hx with hx|rfl
   ·have:=hbc x hx;omega
   ·simp⟩
  ·simp [Instr.mapUpdate,run_underlying hT,MapKept.run_getObj_map hb,SK.check W _ (key_st h),h2,MapKept.run_setObj_map _ hb,Result.andThen]
  ·unfold putV
   rw [delV_self (getV_none h1)];simp only [Array.toList_push,List.map_append,List.map_cons,List.map_nil];exact hp.append_right _
 ·have hj:j<es.toList.length:=by
   have:=(Array.getElem?_eq_some_iff.1 h3).1;simpa using this
  have he:es.toList[j]=e:=by
   have:es.toList[j]? = some e:=by rw [Array.getElem?_toList];exact h3
   rw [List.getElem?_eq_getElem hj]at this;exact Option.some.inj this
  refine ⟨{ W with heap:=W.heap.setIfInBounds b (.map (es.modify j fun e=>{ e with key:=.string n,val:=v }) clock) },?_,⟨rfl,rfl,rfl,by simp,fun k hk' hne=>(MapKept.heap_set hb).2 k (fun e=>hne (by rw [e]))⟩,by simp,_,_,(MapKept.heap_set hb).1,?_,putV_nodup hn n v,hs',by
   rw [Array.toList_modify,List.modify_eq_take_cons_drop hj,he];have h0:es.toList=es.toList.take j++e::es.toList.drop (j+1):=by rw [← he,List.getElem_cons_drop,List.take_append_drop]
   rw [h0]at hbn;simpa using hbn,by
   rw [Array.toList_modify,List.modify_eq_take_cons_drop hj,he];intro x hx;rcases List.mem_append.1 hx with hx|hx
   ·exact hbc x (List.mem_of_mem_take hx)
   ·rcases List.mem_cons.1 hx with rfl|hx
    ·exact hbc e (by rw [← he];exact List.getElem_mem hj)
    ·exact hbc x (List.mem_of_mem_drop hx)⟩
  ·have hst:=SK.stays W (key_st h)
   simp [Instr.mapUpdate,run_underlying hT,MapKept.run_getObj_map hb,SK.check W _ (key_st h),h2,h3,h4,hst,MapKept.run_setObj_map _ hb,Result.andThen]
  ·rw [Array.toList_modify,List.modify_eq_take_cons_drop hj,he]
   have h0:es.toList=es.toList.take j++e::es.toList.drop (j+1):=by rw [← he,List.getElem_cons_drop,List.take_append_drop]
   have hmem:(n,e.val)∈vs:=by rw [h5];exact getV_mem h1
   have p1:(((n,e.val):ByteArray × Value)::delV vs n |>.map fun q=>(Value.string q.1,q.2)).Perm (es.toList.map fun e=>(e.key,e.val)):=((perm_out hn hmem).map _).symm.trans hp.symm
   rw [h0]at p1;simp only [List.map_append,List.map_cons,h4]at p1 ⊢;have p2:=(p1.trans List.perm_middle).cons_inv;refine List.perm_middle.trans ?_;unfold putV;simp only [List.map_append,List.map_cons,List.map_nil];exact (p2.symm.cons _).trans (List.perm_append_singleton _ _).symm
theorem sm_del {T E:TypeId} (hT:Tryz.prog.underlying T=some (.map 9 E)){W:World}{b:Nat}{vs:List (ByteArray × Value)}(hm:SMv W b vs){n:ByteArray}(h:n.size≤maxLen)(ty:TypeId):
  ∃W',(Builtin.delete_ #[T,9] ty #[.map (some b),.string n]).run Tryz.prog W = .ok (.tuple #[]) W'∧W.grownBy W' (some b)∧W'.heap.size=W.heap.size∧SMv W' b (delV vs n):=by
 obtain ⟨es,clock,hb,hp,hn,hs,hbn,hbc⟩:=hm;rcases sm_find (W:=W) hp hn hs h with ⟨h1,h2⟩|⟨v',j,e,h1,h2,h3,h4,h5⟩
 ·refine ⟨{ W with heap:=W.heap.setIfInBounds b (.map es clock) },?_,⟨rfl,rfl,rfl,by simp,fun k hk' hne=>(MapKept.heap_set hb).2 k (fun e=>hne (by rw [e]))⟩,by simp,_,_,(MapKept.heap_set hb).1,?_,delV_nodup hn n,fun q hq=>hs q (mem_delV hq),hbn,hbc⟩
  ·simp [Builtin.delete_,run_underlying hT,MapKept.run_getObj_map hb,SK.check W _ (key_st h),h2,MapKept.run_setObj_map _ hb,Result.andThen]
  ·rw [delV_self (getV_none h1)];exact hp
 ·have hj:j<es.toList.length:=by
   have:=(Array.getElem?_eq_some_iff.1 h3).1;simpa using this
  have he:es.toList[j]=e:=by
   have:es.toList[j]? = some e:=by rw [Array.getElem?_toList];exact h3
   rw [List.getElem?_eq_getElem hj]at this;exact Option.some.inj this
  have he2:(es.eraseIdxIfInBounds j).toList=es.toList.take j++es.toList.drop (j+1):=by
   rw [Array.eraseIdxIfInBounds_eq];have hj':j<es.size:=by simpa using hj
   rw [dif_pos hj',Array.toList_eraseIdx,List.eraseIdx_eq_take_drop_succ]
  have hsub:((es.eraseIdxIfInBounds j).toList).Sublist es.toList:=by
   rw [he2];have h0:es.toList=es.toList.take j++e::es.toList.drop (j+1):=by rw [← he,List.getElem_cons_drop,List.take_append_drop]
   conv=>rhs;rw [h0]
   exact List.Sublist.append_left (List.sublist_cons_self _ _) _
  refine ⟨{ W with heap:=W.heap.setIfInBounds b (.map (es.eraseIdxIfInBounds j) clock) },?_,⟨rfl,rfl,rfl,by simp,fun k hk' hne=>(MapKept.heap_set hb).2 k (fun e=>hne (by rw [e]))⟩,by simp,_,_,(MapKept.heap_set hb).1,?_,delV_nodup hn n,fun q hq=>hs q (mem_delV hq),hbn.sublist (hsub.map _),fun x hx=>hbc x (hsub.mem hx)⟩
  ·simp [Builtin.delete_,run_underlying hT,MapKept.run_getObj_map hb,SK.check W _ (key_st h),h2,MapKept.run_setObj_map _ hb,Result.andThen]
  ·rw [he2]
   have h0:es.toList=es.toList.take j++e::es.toList.drop (j+1):=by rw [← he,List.getElem_cons_drop,List.take_append_drop]
   have hmem:(n,e.val)∈vs:=by rw [h5];exact getV_mem h1
   have p1:(((n,e.val):ByteArray × Value)::delV vs n |>.map fun q=>(Value.string q.1,q.2)).Perm (es.toList.map fun e=>(e.key,e.val)):=((perm_out hn hmem).map _).symm.trans hp.symm
   rw [h0]at p1;simp only [List.map_append,List.map_cons,h4]at p1 ⊢;exact (p1.trans List.perm_middle).cons_inv.symm
theorem sm_len {T E:TypeId} (hT:Tryz.prog.underlying T=some (.map 9 E)){W:World}{b:Nat}{vs:List (ByteArray × Value)}(hm:SMv W b vs)(ty:TypeId):(Builtin.len_ #[T] ty #[.map (some b)]).run Tryz.prog W = .ok (goInt vs.length) W:=by
 obtain ⟨es,clock,hb,hp,hn,hs,hbn,hbc⟩:=hm;have:vs.length=es.size:=by
  have:=hp.length_eq;simpa using this.symm
 rw [this];simp [Builtin.len_,run_underlying hT,MapKept.run_getObj_map hb,Result.andThen]
end
theorem SMv.new(W:World):SMv (W.alloc (.map #[] 0)) W.heap.size []:=⟨#[],0,heap_alloc_new W _,List.Perm.refl _,List.nodup_nil,(fun _ h=>by cases h),List.nodup_nil,(fun _ h=>by cases h)⟩
theorem SMv.keep{W W':World}{b:Nat}{vs:List (ByteArray × Value)}{B:Nat}(h:SMv W b vs)(hb:Below B W W')(hl:b<B):SMv W' b vs:=by
 obtain ⟨es,clock,h1,h2⟩:=h;exact ⟨es,clock,(hb.block b hl).trans h1,h2⟩
theorem SMv.kept{W W':World}{b:Nat}{vs:List (ByteArray × Value)}(h:SMv W b vs){row:Option Nat}(hg:W.grownBy W' row)(hne:some b≠row):SMv W' b vs:=by
 obtain ⟨es,clock,hb,h2⟩:=h;exact ⟨es,clock,(hg.block b (Array.getElem?_eq_some_iff.1 hb).1 hne).trans hb,h2⟩
theorem SMv.lt{W:World}{b:Nat}{vs:List (ByteArray × Value)}(h:SMv W b vs):b<W.heap.size:=by
 obtain ⟨es,clock,hb,_⟩:=h;exact (Array.getElem?_eq_some_iff.1 hb).1
theorem SMv.perm{W:World}{b:Nat}{vs us:List (ByteArray × Value)}(h:SMv W b vs)(hp:vs.Perm us):SMv W b us:=by
 obtain ⟨es,clock,hb,h1,h2,h3,h4⟩:=h;exact ⟨es,clock,hb,h1.trans (hp.map _),((hp.map (·.1)).nodup_iff).1 h2,fun q hq=>h3 q (hp.mem_iff.2 hq),h4⟩
end Go.Proofs.YtmamabhhgfcjcaaGreatDoor
