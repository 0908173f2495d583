/-
  Four rows beside one another, apart from a set of other blocks; a map of numbers; the nodes that are left, in plain words.
-/
import Derived.Test.YtnedgkcejlhnbaaGreatDoorZs
import Derived.Maps.Keyed
import Derived.Test.YtnedgkcejlhnbaaGreatDoorZd
namespace Go.Proofs.YtnedgkcejlhnbaaGreatDoor
open Go.RowKit Go.Shelf Go.Maps
structure RWS(w:World)(V:Nat→Value)(ty:Nat→TypeId)(sz:Nat→Nat)(nn:Nat→Nat)(cs:Nat→List Value)(X:Nat→Prop)(W:World):Prop where
 own:∀i,i<4→W.ownsRow w.heap.size (ty i) (sz i) (V i) (nn i) (cs i)
 ap:∀i j,i<4→j<4→i≠j→apt (V i).ownBlock (V j).ownBlock
 xn:∀i,i<4→∀b,(V i).ownBlock=some b→¬X b
 xl:∀b,X b→b<W.heap.size
 bl:Below w.heap.size w W
theorem RWS.kept{w:World}{V:Nat→Value}{ty:Nat→TypeId}{sz nn:Nat→Nat}{cs:Nat→List Value}{X:Nat→Prop}{W W':World}(R:RWS w V ty sz nn cs X W)(hb:Below W.heap.size W W'):RWS w V ty sz nn cs X W' :=
 ⟨fun i hi=>own_belowG (R.own i hi) hb,R.ap,R.xn,fun b hb'=>Nat.lt_of_lt_of_le (R.xl b hb') hb.size,R.bl.trans (hb.mono R.bl.size)⟩
theorem RWS.app{w:World}{V:Nat→Value}{ty:Nat→TypeId}{sz nn:Nat→Nat}{cs:Nat→List Value}{X:Nat→Prop}{W w7:World}{ob:Obj}{i n:Nat}{v7:Value}{c7:List Value}(R:RWS w V ty sz nn cs X W)(hi:i<4)(hg:(W.alloc ob).grownBy w7 (V i).ownBlock)(hO:w7.ownsRow w.heap.size (ty i) (sz i) v7 n c7)(hat:v7.ownBlock=(V i).ownBlock∨v7.ownBlock=some (W.alloc ob).heap.size):
  RWS w (upN V i v7) ty sz (upN nn i n) (upN cs i c7) X w7∧∀b,X b→w7.heap[b]? = W.heap[b]?:=by
 have hsz:(W.alloc ob).heap.size=W.heap.size+1:=by simp
 have hs7:=hg.size;have hk:∀b,b<W.heap.size→some b≠(V i).ownBlock→w7.heap[b]? = W.heap[b]?:=fun b hb hn=>(hg.block b (by omega) hn).trans (heap_alloc_old W ob hb)
 have hv7:∀j,v7.ownBlock=some j→(V i).ownBlock=some j∨W.heap.size≤j:=fun j hj=>by
  rcases hat with q|q
  ·exact .inl (q ▸ hj)
  ·rw [q]at hj;injection hj with hj;exact .inr (by omega)
 have hold:∀j,j<4→∀b,(V j).ownBlock=some b→b<W.heap.size:=fun j hj b hb=>((R.own j hj).lt b hb).2
 refine ⟨⟨fun j hj=>?_,fun j k hj hk' hne=>?_,fun j hj b hb=>?_,fun b hb=>by have:=R.xl b hb;omega,?_⟩,fun b hb=>hk b (R.xl b hb) (fun e=>R.xn i hi b e.symm hb)⟩
 ·by_cases e:j=i
  ·subst e;rw [upN_same,upN_same,upN_same];exact hO
  ·rw [upN_other _ _ e,upN_other _ _ e,upN_other _ _ e]
   exact own_other (R.own j hj) fun b hb hl=>hk b hl (fun q=>R.ap j i hj hi e b hb q.symm)
 ·by_cases e:j=i
  ·subst e
   rw [upN_same,upN_other _ _ (fun q=>hne q.symm)]
   intro b h1 h2;rcases hv7 b h1 with q|q
   ·exact R.ap j k hj hk' hne b q h2
   ·have:=hold k hk' b h2;omega
  ·rw [upN_other _ _ e]
   by_cases e2:k=i
   ·subst e2
    rw [upN_same];intro b h1 h2;rcases hv7 b h2 with q|q
    ·exact R.ap j k hj hk' hne b h1 q
    ·have:=hold j hj b h1;omega
   ·rw [upN_other _ _ e2]
    exact R.ap j k hj hk' hne
 ·by_cases e:j=i
  ·subst e
   rw [upN_same]at hb;intro hx;rcases hv7 b hb with q|q
   ·exact R.xn j hj b q hx
   ·have:=R.xl b hx;omega
  ·rw [upN_other _ _ e]at hb
   exact R.xn j hj b hb
 ·exact (R.bl.alloc R.bl.size ob).grown hg (by have:=R.bl.size;omega) (fun j hj=>((R.own i hi).lt j hj).1)
theorem RWS.set{w:World}{V:Nat→Value}{ty:Nat→TypeId}{sz nn:Nat→Nat}{cs:Nat→List Value}{X:Nat→Prop}{W W':World}{b0:Nat}(R:RWS w V ty sz nn cs X W)(h0:X b0)(hw:w.heap.size≤b0)(ho:W'.os=W.os)(ht:W'.tape=W.tape)(hp:W'.output=W.output)(hz:W.heap.size≤W'.heap.size)(hb:∀b,b<W.heap.size→b≠b0→W'.heap[b]? = W.heap[b]?):RWS w V ty sz nn cs X W' :=
 ⟨fun i hi=>own_other (R.own i hi) fun b hb' hl=>hb b hl (fun e=>R.xn i hi b hb' (e ▸ h0)),R.ap,R.xn,fun b hb'=>Nat.lt_of_lt_of_le (R.xl b hb') hz,R.bl.trans ⟨ho,ht,hp,hz,fun b hb'=>hb b (Nat.lt_of_lt_of_le hb' R.bl.size) (by omega)⟩⟩
theorem RWS.more{w:World}{V:Nat→Value}{ty:Nat→TypeId}{sz nn:Nat→Nat}{cs:Nat→List Value}{X Y:Nat→Prop}{W:World}(R:RWS w V ty sz nn cs X W)(hy:∀b,Y b→X b∨(b<W.heap.size∧∀i,i<4→(V i).ownBlock≠some b)):RWS w V ty sz nn cs Y W :=
 ⟨R.own,R.ap,fun i hi b hb hY=>(hy b hY).elim (R.xn i hi b hb) (fun q=>q.2 i hi hb),fun b hb=>(hy b hb).elim (R.xl b) (·.1),R.bl⟩
theorem RWS.renew{w:World}{V:Nat→Value}{ty:Nat→TypeId}{sz nn:Nat→Nat}{cs:Nat→List Value}{X:Nat→Prop}{W:World}(R:RWS w V ty sz nn cs X W):RWS w (upN (upN V 2 (.slice none 0 0)) 3 (.slice none 0 0)) ty sz (upN (upN nn 2 0) 3 0) (upN (upN cs 2 []) 3 []) (fun b=>X b∨(V 2).ownBlock=some b∨(V 3).ownBlock=some b) W:=by
 have hc:∀i,i<4→i=0∨i=1∨i=2∨i=3:=fun i hi=>by omega
 have hv:∀i,i<4→∀b,(upN (upN V 2 (Value.slice none 0 0)) 3 (Value.slice none 0 0) i).ownBlock=some b→(i=0∨i=1)∧(V i).ownBlock=some b:=fun i hi b hb=>by
  rcases hc i hi with rfl|rfl|rfl|rfl
  ·exact ⟨.inl rfl,hb⟩
  ·exact ⟨.inr rfl,hb⟩
  ·simp [upN,Value.ownBlock]at hb
  ·simp [upN,Value.ownBlock]at hb
 refine ⟨fun i hi=>?_,fun i j hi hj hne b h1 h2=>R.ap i j hi hj hne b (hv i hi b h1).2 (hv j hj b h2).2,fun i hi b hb hx=>?_,fun b hb=>?_,R.bl⟩
 ·rcases hc i hi with rfl|rfl|rfl|rfl
  ·exact R.own 0 hi
  ·exact R.own 1 hi
  ·exact World.ownsRow_nil _ _ _ _
  ·exact World.ownsRow_nil _ _ _ _
 ·obtain ⟨h1,h2⟩:=hv i hi b hb
  rcases hx with q|q|q
  ·exact R.xn i hi b h2 q
  ·exact R.ap i 2 hi (by omega) (by omega) b h2 q
  ·exact R.ap i 3 hi (by omega) (by omega) b h2 q
 ·rcases hb with q|q|q
  ·exact R.xl b q
  ·exact ((R.own 2 (by omega)).lt b q).2
  ·exact ((R.own 3 (by omega)).lt b q).2
theorem keyLawN:Keyed Tryz.prog 3:=int_keyed Tryz.underlying3
theorem key_ofN(x:Nat)(h:x≤1000000):∃l,keyOf Tryz.prog 3 (.int .i64 (x:Int))=some l:=by
 refine ⟨.int .i64 (x:Int),?_⟩;rw [keyOf_int Tryz.underlying3];simp [mapKey,Tryz.underlying3,wf64 (x:Int) (by unfold in64z;omega)]
def MPN(W:World)(mb:Nat)(ps:List Nat):Prop:=∃es clock,W.heap[mb]? = some (.map es clock)∧es.size=ps.length∧∀i (h:i<ps.length),∃e,es[i]? = some e∧e.key = .int .i64 (ps[i]:Int)∧e.val = .int .i64 (i:Int)
theorem mpN_keys{ps:List Nat}{es:Array MapEntry}(hsz:es.size=ps.length)(hes:∀i (h:i<ps.length),∃e,es[i]? = some e∧e.key = .int .i64 (ps[i]:Int)∧e.val = .int .i64 (i:Int))(hk:∀p∈ps,p≤1000000):∀e∈es.toList,∃l,keyOf Tryz.prog 3 e.key=some l:=by
 intro e he;obtain ⟨i,hi,rfl⟩:=List.mem_iff_getElem.1 he;have hi':i<ps.length:=by rw [← hsz];simpa using hi
 obtain ⟨e',h1,h2,_⟩:=hes i hi';have:es.toList[i]=e':=by
  have h3:es[i]? = some es.toList[i]:=by
   rw [← Array.getElem?_toList];exact List.getElem?_eq_getElem hi
  rw [h3]at h1;exact Option.some.inj h1
 rw [this,h2];exact key_ofN _ (hk _ (List.getElem_mem hi'))
theorem lookN_in{W:World}{mb:Nat}{ps:List Nat}(hm:MPN W mb ps)(hk:∀p∈ps,p≤1000000)(hn:ps.Nodup){p:Nat}(hp:p∈ps):
  (Instr.lookup 88 (.map (some mb)) (.int .i64 (p:Int)) true).run Tryz.prog W = .ok (.tuple #[.int .i64 (ps.idxOf p:Int),.bool true]) W:=by
 obtain ⟨es,clock,hb,hsz,hes⟩:=hm;have K:=keyLawN;obtain ⟨kl,hkey⟩:=key_ofN p (hk p hp);rcases K.find W hkey es.toList (mpN_keys hsz hes hk) with ⟨h1,h2⟩|⟨i,e0,h1,h2,h3⟩
 ·obtain ⟨j,hj,e⟩:=List.mem_iff_getElem.1 hp
  obtain ⟨e,he,hek,_⟩:=hes j hj;exact absurd (hek.trans (by rw [‹ps[j]=p›])) (h2 e (by rw [Array.mem_toList_iff,Array.mem_iff_getElem?];exact ⟨j,he⟩))
 ·have hil:i<ps.length:=by
   have:=(List.getElem?_eq_some_iff.1 h2).1;rw [← hsz];simpa using this
  obtain ⟨e,he,hek,hev⟩:=hes i hil;have:e=e0:=by rw [← Array.getElem?_toList]at he;rw [he]at h2;exact Option.some.inj h2
  subst this;have hpe:(Value.int .i64 (ps[i]:Int)) = .int .i64 (p:Int):=by rw [← hek,h3]
  have hpi:ps[i]=p:=by simp at hpe;omega
  have hix:ps.idxOf p=i:=by rw [← hpi];exact idx_of_at hn hil
  rw [hev]at h1;rw [hix];simp [Instr.lookup,run_underlying Tryz.underlying88,MapKept.run_getObj_map hb,K.check W _ hkey,h1,Result.andThen]
theorem lookN_out{W:World}{mb:Nat}{ps:List Nat}(hm:MPN W mb ps)(hk:∀p∈ps,p≤1000000){p:Nat}(hs:p≤1000000)(hp:p ∉ ps):
  (Instr.lookup 88 (.map (some mb)) (.int .i64 (p:Int)) true).run Tryz.prog W = .ok (.tuple #[.int .i64 0,.bool false]) W ∧
  ∃W',(Instr.mapUpdate 88 (.map (some mb)) (.int .i64 (p:Int)) (.int .i64 (ps.length:Int))).run Tryz.prog W = .ok () W'∧W.grownBy W' (some mb)∧W'.heap.size=W.heap.size∧MPN W' mb (ps++[p]):=by
 obtain ⟨es,clock,hb,hsz,hes⟩:=hm;have K:=keyLawN;obtain ⟨kl,hkey⟩:=key_ofN p hs;rcases K.find W hkey es.toList (mpN_keys hsz hes hk) with ⟨h1,h2⟩|⟨i,e0,h1,h2,h3⟩
 ·refine ⟨by simp [Instr.lookup,run_underlying Tryz.underlying88,MapKept.run_getObj_map hb,K.check W _ hkey,h1,Result.andThen],{ W with heap:=W.heap.setIfInBounds mb (.map (es.push { key:=.int .i64 (p:Int),val:=.int .i64 (ps.length:Int),born:=clock }) (clock+1)) },?_,?_⟩
  ·simp [Instr.mapUpdate,run_underlying Tryz.underlying88,MapKept.run_getObj_map hb,K.check W _ hkey,h1,MapKept.run_setObj_map _ hb,Result.andThen]
  ·refine ⟨⟨rfl,rfl,rfl,by simp,fun k hk' hne=>(MapKept.heap_set hb).2 k (fun e=>hne (by rw [e]))⟩,by simp,_,_,(MapKept.heap_set hb).1,by simp [hsz],fun i hi=>?_⟩
   by_cases hi':i<ps.length
   ·obtain ⟨e,he,hek,hev⟩:=hes i hi'
    refine ⟨e,?_,by rw [List.getElem_append_left hi'];exact hek,hev⟩
    rw [Array.getElem?_push,if_neg (by omega)];exact he
   ·obtain rfl:i=ps.length:=by simp at hi;omega
    exact ⟨_,by rw [Array.getElem?_push,if_pos hsz.symm],by simp,rfl⟩
 ·exfalso
  have hil:i<ps.length:=by
   have:=(List.getElem?_eq_some_iff.1 h2).1;rw [← hsz];simpa using this
  obtain ⟨e,he,hek,hev⟩:=hes i hil;have:e=e0:=by rw [← Array.getElem?_toList]at he;rw [he]at h2;exact Option.some.inj h2
  subst this;have:(Value.int .i64 (ps[i]:Int)) = .int .i64 (p:Int):=by rw [← h3,hek]
  have e2:ps[i]=p:=by simp at this;omega
  exact hp (by rw [← e2];exact List.getElem_mem hil)
theorem MPN.new(W:World):MPN (W.alloc (.map #[] 0)) W.heap.size []:=⟨_,_,heap_alloc_new W _,rfl,fun _ h=>absurd h (Nat.not_lt_zero _)⟩
theorem MPN.blk{W W':World}{mb:Nat}{ps:List Nat}(hm:MPN W mb ps)(h:W'.heap[mb]? = W.heap[mb]?):MPN W' mb ps:=by
 obtain ⟨es,clock,hb,hsz,hes⟩:=hm;exact ⟨es,clock,h.trans hb,hsz,hes⟩
structure isBnd(g h:List Nd)(t:Bool)(L:List Nd):Prop where
 gn:GN L
 u1:∀k,blP g L k (0,0,t)
 u2:∀k,blP h L k (0,0,t)
 lo:∀c,GN c→∀m,m<c.length→(∀k,blP g c k (0,m,t))→(∀k,blP h c k (0,m,t))→∀k,blP L c k (0,m,t)
def noBnd(g h:List Nd)(t:Bool):Prop:=∀c,GN c→∀m,m<c.length→(∀k,blP g c k (0,m,t))→¬ ∀k,blP h c k (0,m,t)
theorem blP_ff(g h:List Nd)(k i j:Nat):blP g h k (i,j,false)↔bl k g h i j:=by unfold blP;simp
theorem blP_tt(g h:List Nd)(k i j:Nat):blP g h k (i,j,true)↔bl k h g j i:=by unfold blP;simp
theorem blP_trans{f g h:List Nd}{k i j l:Nat}{t:Bool}(h1:blP f g k (i,j,t))(h2:blP g h k (j,l,t)):blP f h k (i,l,t):=by
 cases t
 ·exact (blP_ff ..).2 (bl_trans k _ _ _ _ _ _ ((blP_ff ..).1 h1) ((blP_ff ..).1 h2))
 ·exact (blP_tt ..).2 (bl_trans k _ _ _ _ _ _ ((blP_tt ..).1 h2) ((blP_tt ..).1 h1))
theorem blP_alike{g h:List Nd}(hg:GN g)(hh:GN h){i j:Nat}(hi:i<g.length)(hj:j<h.length)(e:alikeG g h i j)(k:Nat)(t:Bool):blP g h k (i,j,t):=by
 cases t
 ·exact (blP_ff ..).2 (bl_alike k g h i j hg hh hi hj (e k))
 ·exact (blP_tt ..).2 (bl_alike k h g j i hh hg hj hi (e k).symm)
theorem isBnd.alike{g h L M:List Nd}{t:Bool}(b:isBnd g h t L)(hM:GN M)(e:alikeG L M 0 0):isBnd g h t M :=
 ⟨hM,fun k=>blP_trans (b.u1 k) (blP_alike b.gn hM b.gn.pos hM.pos e k t),fun k=>blP_trans (b.u2 k) (blP_alike b.gn hM b.gn.pos hM.pos e k t),fun c hc m hm h1 h2 k=>blP_trans (blP_alike hM b.gn hM.pos b.gn.pos (alike_symm e) k t) (b.lo c hc m hm h1 h2 k)⟩
theorem isBnd.there{g h L:List Nd}{t:Bool}(b:isBnd g h t L):¬noBnd g h t:=fun n=>n L b.gn 0 b.gn.pos b.u1 b.u2
theorem bnd_is{g h:List Nd}(hg:GN g)(hh:GN h){t:Bool}{ps:List Pz}{al:Pz→Bool}{Q:List Pz}(B:BND g h (0,0,t) ps al)(R:RCH g h (0,0,t) ps al Q)(hl:Q.length≤200):isBnd g h t (lfG g h al Q):=by
 obtain ⟨h1,h2,h3,h4⟩:=bound_is hg hh B R hl;exact ⟨h1,h2,h3,h4⟩
theorem bnd_no{g h:List Nd}(hg:GN g)(hh:GN h){t:Bool}{ps:List Pz}{al:Pz→Bool}(B:BND g h (0,0,t) ps al)(hn:al (0,0,t)=false):noBnd g h t:=fun c hc m hm h1 h2=>by
 have:=bound_there hg hh hc B hm h1 h2;rw [hn]at this;cases this
def alK(sp:List Int)(x:Nat):Bool:=decide (0≤sp.getD x 0)
def addK(R:List Nat)(x:Nat):List Nat:=if x∈R then R else R++[x]
theorem addK_pre(R:List Nat)(x:Nat):∃e,addK R x=R++e:=by
 unfold addK;split
 ·exact ⟨[],by simp⟩
 ·exact ⟨[x],rfl⟩
theorem addK_mem(R:List Nat)(x:Nat):x∈addK R x:=by
 unfold addK;split
 ·assumption
 ·simp
theorem foldK_pre:∀(qs R:List Nat),∃e,qs.foldl addK R=R++e
 | [],R=>⟨[],by simp⟩
 | q::qs,R=>by
  obtain ⟨e1,h1⟩:=addK_pre R q;obtain ⟨e2,h2⟩:=foldK_pre qs (addK R q);exact ⟨e1++e2,by rw [List.foldl_cons,h2,h1,List.append_assoc]⟩
theorem foldK_mem:∀(qs R:List Nat) (q:Nat),q∈qs→q∈qs.foldl addK R
 | [],_,_,h=>by cases h
 | a::qs,R,q,h=>by
  rw [List.foldl_cons];rcases List.mem_cons.1 h with rfl|h
  ·obtain ⟨e,he⟩:=foldK_pre qs (addK R q)
   rw [he];exact List.mem_append_left _ (addK_mem R q)
  ·exact foldK_mem qs _ q h
theorem foldK_sub:∀(qs R:List Nat) (q:Nat),q∈qs.foldl addK R→q∈R∨q∈qs
 | [],_,_,h=>.inl h
 | a::qs,R,q,h=>by
  rw [List.foldl_cons]at h;rcases foldK_sub qs _ q h with h|h
  ·unfold addK at h
   split at h
   ·exact .inl h
   ·rcases List.mem_append.1 h with h|h
    ·exact .inl h
    ·rw [List.mem_singleton]at h;subst h;exact .inr (.head _)
  ·exact .inr (.tail _ h)
theorem addK_nd{R:List Nat}(h:R.Nodup)(x:Nat):(addK R x).Nodup:=by
 unfold addK;split
 ·exact h
 ·rename_i hp
  rw [List.nodup_append];refine ⟨h,by simp,fun a ha b hb e=>?_⟩
  rw [List.mem_singleton]at hb;exact hp (by rw [← hb,← e];exact ha)
theorem foldK_nd:∀(qs:List Nat) {R:List Nat},R.Nodup→(qs.foldl addK R).Nodup
 | [],_,h=>h
 | q::qs,R,h=>by rw [List.foldl_cons];exact foldK_nd qs (addK_nd h q)
theorem idxK_pre{R e:List Nat}{x:Nat}(h:x∈R):(R++e).idxOf x=R.idxOf x:=by rw [List.idxOf_append,if_pos h]
def lfK(sp:List Int)(R:List Nat)(n:Nd):Nd:=⟨n.kind,n.so,((n.labs.zip n.to).filter fun e=>alK sp e.2).map (·.1),(n.to.filter (alK sp)).map fun x=>R.idxOf x⟩
theorem lfK_pre{sp:List Int}{R e:List Nat}{n:Nd}(h:∀x∈n.to,alK sp x=true→x∈R):lfK sp (R++e) n=lfK sp R n:=by
 unfold lfK;rw [List.map_congr_left fun x hx=>idxK_pre (h x (List.mem_filter.1 hx).1 (List.mem_filter.1 hx).2)]
structure RI(D:List Nd)(sp:List Int)(R:List Nat)(m:Nat):Prop where
 hd:R[0]? = some 0
 nd:R.Nodup
 lt:∀x∈R,x<D.length
 lv:∀x∈R,alK sp x=true
 le:m≤R.length
 sh:∀k (hk:k<R.length),k<m→∀x∈(nodeAt D R[k]).to,alK sp x=true→x∈R
 mn:∀S:Nat→Bool,S 0=true→(∀x∈R,S x=true→∀y∈(nodeAt D x).to,alK sp y=true→S y=true)→∀x∈R,S x=true
theorem RI.step{D:List Nd}{sp:List Int}{R:List Nat}{m:Nat}(h:RI D sp R m)(hD:shutG D)(hm:m<R.length):RI D sp (((nodeAt D R[m]).to.filter (alK sp)).foldl addK R) (m+1):=by
 obtain ⟨e,he⟩:=foldK_pre ((nodeAt D R[m]).to.filter (alK sp)) R;have hsub:=foldK_sub ((nodeAt D R[m]).to.filter (alK sp)) R;have hmem:=foldK_mem ((nodeAt D R[m]).to.filter (alK sp)) R;have hl:R.length≤(((nodeAt D R[m]).to.filter (alK sp)).foldl addK R).length:=by rw [he];simp
 refine ⟨?_,foldK_nd _ h.nd,fun x hx=>?_,fun x hx=>?_,by omega,fun k hk hkm x hx ha=>?_,fun S h0 hS x hx=>?_⟩
 ·rw [he,List.getElem?_append_left (by omega)];exact h.hd
 ·rcases hsub x hx with q|q
  ·exact h.lt x q
  ·exact shut_at hD _ x (List.mem_filter.1 q).1
 ·rcases hsub x hx with q|q
  ·exact h.lv x q
  ·exact (List.mem_filter.1 q).2
 ·have hk':k<R.length:=by omega
  have e1:(((nodeAt D R[m]).to.filter (alK sp)).foldl addK R)[k]=R[k]:=by
   have h1:(((nodeAt D R[m]).to.filter (alK sp)).foldl addK R)[k]? = R[k]?:=by rw [he,List.getElem?_append_left hk']
   rw [List.getElem?_eq_getElem hk,List.getElem?_eq_getElem hk']at h1;exact Option.some.inj h1
  rw [e1]at hx;by_cases hkm':k<m
  ·rw [he];exact List.mem_append_left _ (h.sh k hk' hkm' x hx ha)
  ·obtain rfl:k=m:=by omega
   exact hmem x (List.mem_filter.2 ⟨hx,ha⟩)
 ·have hin:∀z∈R,z∈((nodeAt D R[m]).to.filter (alK sp)).foldl addK R:=fun z hz=>by rw [he];exact List.mem_append_left _ hz
  have hall:=h.mn S h0 fun z hz=>hS z (hin z hz)
  rcases hsub x hx with q|q
  ·exact hall x q
  ·exact hS R[m] (hin _ (List.getElem_mem hm)) (hall _ (List.getElem_mem hm)) x (List.mem_filter.1 q).1 (List.mem_filter.1 q).2
theorem RI.len{D:List Nd}{sp:List Int}{R:List Nat}{m:Nat}(h:RI D sp R m):R.length≤D.length:=nodup_le D.length R h.nd h.lt
def atZ(ps:List Pz)(p0:Pz)(x:Nat):Pz:=(ps[x]?).getD p0
theorem atZ_lt{ps:List Pz}{p0:Pz}{x:Nat}(h:x<ps.length):atZ ps p0 x=ps[x]:=by unfold atZ;rw [List.getElem?_eq_getElem h];rfl
theorem atZ_idx{ps:List Pz}{p0 q:Pz}(h:q∈ps):atZ ps p0 (ps.idxOf q)=q:=by
 have h1:=List.idxOf_lt_length_of_mem h;rw [atZ_lt h1,List.getElem_idxOf h1]
theorem idx_map{ps:List Pz}(hn:ps.Nodup){p0:Pz}:∀ {R:List Nat},(∀x∈R,x<ps.length)→∀ {y:Nat},y<ps.length→(R.map (atZ ps p0)).idxOf (atZ ps p0 y)=R.idxOf y
 | [],_,_,_=>rfl
 | a::R,h,y,hy=>by
  have ha:=h a (.head _);rw [List.map_cons,List.idxOf_cons,List.idxOf_cons,idx_map hn (fun x hx=>h x (.tail _ hx)) hy]
  by_cases e:a=y
  ·subst e;simp
  ·have:¬atZ ps p0 a=atZ ps p0 y:=fun q=>by
    rw [atZ_lt ha,atZ_lt hy]at q;rcases Nat.lt_trichotomy a y with l|l|l
    ·exact absurd q ((List.pairwise_iff_getElem.1 hn) _ _ ha hy l)
    ·exact e l
    ·exact absurd q.symm ((List.pairwise_iff_getElem.1 hn) _ _ hy ha l)
   have h1:(atZ ps p0 a==atZ ps p0 y)=false:=by rw [beq_eq_false_iff_ne];exact this
   have h2:(a==y)=false:=by rw [beq_eq_false_iff_ne];exact e
   rw [h1,h2]
theorem zip_mapR{α β γ : Type}(f : β → γ):∀(l:List α) (l':List β),l.zip (l'.map f)=(l.zip l').map fun e=>(e.1,f e.2)
 | [],_=>by simp
 | _::_,[]=>by simp
 | a::l,b::l'=>by simp [zip_mapR f l l']
theorem left_graph{g h:List Nd}{p0:Pz}{ps:List Pz}{sp:List Int}{R:List Nat}(D:DI g h p0 ps ps.length)(hR:RI (ps.map (ndZ g h ps)) sp R R.length):
  RCH g h p0 ps (alZ ps sp) (R.map (atZ ps p0))∧R.map (fun x=>lfK sp R (nodeAt (ps.map (ndZ g h ps)) x))=lfG g h (alZ ps sp) (R.map (atZ ps p0)):=by
 have hlen:(ps.map (ndZ g h ps)).length=ps.length:=by simp
 have hlt:∀x∈R,x<ps.length:=fun x hx=>by rw [← hlen];exact hR.lt x hx
 have hnx:∀x,x<ps.length→∀q∈(drP g h (atZ ps p0 x)).nxt,q∈ps:=fun x hx q hq=>by rw [atZ_lt hx]at hq;exact D.sh x hx hx q hq
 have hal:∀x,x<ps.length→alZ ps sp (atZ ps p0 x)=alK sp x:=fun x hx=>by
  unfold alZ alK;rw [atZ_lt hx,idx_of_at D.nd hx]
 have hnode:∀x,x<ps.length→nodeAt (ps.map (ndZ g h ps)) x=ndZ g h ps (atZ ps p0 x):=fun x hx=>by rw [nodeAt_lt _ _ (by rw [hlen];exact hx),List.getElem_map,atZ_lt hx]
 have hp:ps[0]? = some p0:=D.hd;refine ⟨⟨?_,?_,fun p hp=>?_,fun p hp=>?_,fun p hp q hq ha=>?_,fun S h0 hS p hp'=>?_⟩,?_⟩
 ·rw [List.getElem?_map,hR.hd]
  show some (atZ ps p0 0)=_
  unfold atZ;rw [hp];rfl
 ·refine List.pairwise_map.2 (hR.nd.imp_of_mem fun {x y} hx hy hne e=>hne ?_)
  have:=idx_map D.nd (p0:=p0) (R:=[x]) (fun z hz=>by rw [List.mem_singleton]at hz;rw [hz];exact hlt x hx) (hlt y hy)
  rw [List.map_singleton,e,List.idxOf_cons_self,List.idxOf_cons]at this;by_cases q:x=y
  ·exact q
  ·have h2:(x==y)=false:=by rw [beq_eq_false_iff_ne];exact q
   rw [h2]at this;simp at this
 ·obtain ⟨x,hx,rfl⟩:=List.mem_map.1 hp
  rw [atZ_lt (hlt x hx)];exact List.getElem_mem _
 ·obtain ⟨x,hx,rfl⟩:=List.mem_map.1 hp
  rw [hal x (hlt x hx)];exact hR.lv x hx
 ·obtain ⟨x,hx,rfl⟩:=List.mem_map.1 hp
  have hqp:=hnx x (hlt x hx) q hq;obtain ⟨k,hk,rfl⟩:=List.mem_iff_getElem.1 hx;have hin:=hR.sh k hk hk (ps.idxOf q) (by
   rw [hnode _ (hlt _ hx)];exact List.mem_map.2 ⟨q,hq,rfl⟩) (by unfold alZ at ha;exact ha)
  exact List.mem_map.2 ⟨_,hin,atZ_idx hqp⟩
 ·obtain ⟨x,hx,rfl⟩:=List.mem_map.1 hp'
  have e0:atZ ps p0 0=p0:=by unfold atZ;rw [hp];rfl
  refine hR.mn (fun x=>S (atZ ps p0 x)) (by show S (atZ ps p0 0)=true;rw [e0];exact h0) (fun z hz hs y hy ha=>?_) x hx
  rw [hnode z (hlt z hz)]at hy;obtain ⟨q,hq,rfl⟩:=List.mem_map.1 (show y∈(drP g h (atZ ps p0 z)).nxt.map (fun q=>ps.idxOf q) from hy)
  have hqp:=hnx z (hlt z hz) q hq;show S (atZ ps p0 (ps.idxOf q))=true
  rw [atZ_idx hqp];exact hS _ (List.mem_map.2 ⟨z,hz,rfl⟩) hs q hq (by unfold alZ;exact ha)
 ·unfold lfG
  rw [List.map_map];refine List.map_congr_left fun x hx=>?_
  have hxl:=hlt x hx;rw [hnode x hxl];have hq:=hnx x hxl;simp only [Function.comp,lfK,lfN,ndZ,tosZ];refine (Nd.mk.injEq ..).mpr ⟨rfl,rfl,?_,?_⟩
  ·unfold lfL
   rw [zip_mapR,List.filter_map,List.map_map];rfl
  ·rw [List.filter_map,List.map_map]
   have e1:(drP g h (atZ ps p0 x)).nxt.filter (alK sp ∘ fun q=>ps.idxOf q)=(drP g h (atZ ps p0 x)).nxt.filter (alZ ps sp):=rfl
   rw [e1];refine List.map_congr_left fun q hq'=>?_
   have hqp:=hq q (List.mem_filter.1 hq').1;have:=idx_map D.nd (p0:=p0) hlt (List.idxOf_lt_length_of_mem hqp);rw [atZ_idx hqp]at this;exact this.symm
end Go.Proofs.YtnedgkcejlhnbaaGreatDoor
