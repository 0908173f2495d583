/-
  Plain mathematics: nodes as Check lets them by; their labels rise; which is below which (GAY, HOLE) up to each depth: an order.
-/
import Derived.Test.YtmamabhhgfcjcaaGreatDoorIb
import Derived.Sort.Walk0
import Derived.Deep.Quiet
set_option maxRecDepth 100000
set_option maxHeartbeats 2000000
namespace Go.Proofs.YtmamabhhgfcjcaaGreatDoor
def endT:Ty:=⟨1,0,⟨#[]⟩,[],[]⟩
def okN(n:Nd):Prop:=partT ⟨n.kind,n.so,⟨#[]⟩,n.labs,n.to.map fun _=>endT⟩=true
theorem okN_cases{n:Nd}(h:okN n):(n.kind=1∧n.so=0∧n.labs=[]∧n.to.length=0)∨((n.kind=2∨n.kind=3)∧(n.so=1∨n.so=2∨n.so=3)∧n.labs=[]∧n.to.length=1)∨((n.kind=4∨n.kind=5)∧n.so=0∧n.labs=[]∧n.to.length=2)∨((n.kind=6∨n.kind=7)∧n.so=0∧labsOK n.labs=true∧n.to.length=n.labs.length):=by
 unfold okN partT at h;simp only at h;split at h
 ·simp only [Bool.and_eq_true,decide_eq_true_eq,List.length_map]at h
  exact .inl ⟨‹_›,h.1.1.1,List.length_eq_zero_iff.1 h.1.2,h.2⟩
 split at h
 ·simp only [Bool.and_eq_true,decide_eq_true_eq,List.length_map]at h
  exact .inr (.inl ⟨‹_›,h.1.1.1,List.length_eq_zero_iff.1 h.1.2,h.2⟩)
 split at h
 ·simp only [Bool.and_eq_true,decide_eq_true_eq,List.length_map]at h
  exact .inr (.inr (.inl ⟨‹_›,h.1.1.1,List.length_eq_zero_iff.1 h.1.2,h.2⟩))
 split at h
 ·simp only [Bool.and_eq_true,decide_eq_true_eq,List.length_map]at h
  exact .inr (.inr (.inr ⟨‹_›,h.1.1.1,h.1.2,h.2⟩))
 split at h
 ·simp only [Bool.and_eq_true,decide_eq_true_eq]at h
  exact absurd h.1.1.2 (by decide)
 split at h
 ·simp only [Bool.and_eq_true,decide_eq_true_eq]at h
  exact absurd h.1.1.2 (by decide)
 ·cases h
theorem okN_shp{n:Nd}(h:okN n):shpN n:=by
 have hc:=okN_cases h;have:=part_shp (t:=⟨n.kind,n.so,⟨#[]⟩,n.labs,n.to.map fun _=>endT⟩) h (by simp only;omega) (by simp only;omega) n.to (by simp)
 exact this
theorem part_okN{t:Ty}(hp:partT t=true)(h9:t.kind≠9)(h8:t.kind≠8)(tos:List Nat)(hl:tos.length=t.kids.length):okN ⟨t.kind,t.so,t.labels,tos⟩:=by
 unfold okN partT;unfold partT at hp;simp only [List.length_map,hl];rw [if_neg h8,if_neg h9]at hp;rw [if_neg h8,if_neg h9];have he:(⟨#[]⟩:ByteArray).toList.isEmpty=true:=by rw [ByteArray.toList_eq];rfl
 rw [he];split
 ·rename_i h;rw [if_pos h]at hp;simp only [Bool.and_eq_true]at hp ⊢;exact ⟨⟨⟨hp.1.1.1,trivial⟩,hp.1.2⟩,hp.2⟩
 rename_i g1;rw [if_neg g1]at hp
 split
 ·rename_i h;rw [if_pos h]at hp;simp only [Bool.and_eq_true]at hp ⊢;exact ⟨⟨⟨hp.1.1.1,trivial⟩,hp.1.2⟩,hp.2⟩
 rename_i g2;rw [if_neg g2]at hp
 split
 ·rename_i h;rw [if_pos h]at hp;simp only [Bool.and_eq_true]at hp ⊢;exact ⟨⟨⟨hp.1.1.1,trivial⟩,hp.1.2⟩,hp.2⟩
 rename_i g3;rw [if_neg g3]at hp
 split
 ·rename_i h;rw [if_pos h]at hp;simp only [Bool.and_eq_true]at hp ⊢;exact ⟨⟨⟨hp.1.1.1,trivial⟩,hp.1.2⟩,hp.2⟩
 rename_i g4;rw [if_neg g4]at hp
 exact hp
def okI(m n:Nd):Prop:=m.kind=n.kind∧m.so=n.so∧if m.kind=7 then ∀l∈m.labs,l∈n.labs else ∀l∈n.labs,l∈m.labs
def toAt(n:Nd)(i:Nat):Nat:=(n.to[i]?).getD 0
def bl:Nat→List Nd→List Nd→Nat→Nat→Prop
 | 0,_,_,_,_=>True
 | k+1,g,h,i,j=>okI (nodeAt g i) (nodeAt h j)∧((nodeAt g i).kind=2∨(nodeAt g i).kind=3→bl k g h (toAt (nodeAt g i) 0) (toAt (nodeAt h j) 0)) ∧
  ((nodeAt g i).kind=4→bl k h g (toAt (nodeAt h j) 0) (toAt (nodeAt g i) 0)∧bl k g h (toAt (nodeAt g i) 1) (toAt (nodeAt h j) 1)) ∧
  ((nodeAt g i).kind=5→bl k g h (toAt (nodeAt g i) 0) (toAt (nodeAt h j) 0)∧bl k g h (toAt (nodeAt g i) 1) (toAt (nodeAt h j) 1)) ∧
  ∀(x y:Nat) (l:ByteArray),(nodeAt g i).labs[x]? = some l→(nodeAt h j).labs[y]? = some l→bl k g h (toAt (nodeAt g i) x) (toAt (nodeAt h j) y)
structure GN(g:List Nd):Prop where
 pos:0<g.length
 le:g.length≤200
 ok:∀n∈g,okN n
 shut:shutG g
theorem GN.at_{g:List Nd}(h:GN g){i:Nat}(hi:i<g.length):okN (nodeAt g i):=by rw [nodeAt_lt g i hi];exact h.ok _ (List.getElem_mem hi)
theorem GN.to_{g:List Nd}(h:GN g){i:Nat}(x:Nat)(hx:x<(nodeAt g i).to.length):toAt (nodeAt g i) x<g.length:=by
 unfold toAt;rw [List.getElem?_eq_getElem hx];exact shut_at h.shut i _ (List.getElem_mem hx)
theorem GN.gr{g:List Nd}(h:GN g):GR1 g:=⟨h.pos,by have:=h.le;omega,fun n hn=>okN_shp (h.ok n hn),h.shut⟩
theorem okN_len{n:Nd}(h:okN n):(n.kind=2∨n.kind=3→0<n.to.length)∧(n.kind=4∨n.kind=5→1<n.to.length)∧(∀x,x<n.labs.length→x<n.to.length):=by
 rcases okN_cases h with ⟨h1,_,h3,h4⟩|⟨h1,_,h3,h4⟩|⟨h1,_,h3,h4⟩|⟨h1,_,h3,h4⟩
 ·exact ⟨fun _=>by omega,fun _=>by omega,fun x hx=>by rw [h3]at hx;simp at hx⟩
 ·exact ⟨fun _=>by omega,fun _=>by omega,fun x hx=>by rw [h3]at hx;simp at hx⟩
 ·exact ⟨fun _=>by omega,fun _=>by omega,fun x hx=>by rw [h3]at hx;simp at hx⟩
 ·exact ⟨fun _=>by omega,fun _=>by omega,fun x hx=>by omega⟩
abbrev Pl:=Nat × Nat × Bool
abbrev Stp:=ByteArray × Pl
abbrev Av:=Stp × Nat
def dotB:ByteArray:=⟨#[46]⟩
def capB:ByteArray:=⟨#[94]⟩
def labAtN(n:Nd)(i:Nat):ByteArray:=(n.labs[i]?).getD ⟨#[]⟩
def idxB(ls:List ByteArray)(l:ByteArray):Nat:=ls.findIdx fun x=>decide (x=l)
theorem idxB_lt{ls:List ByteArray}{l:ByteArray}(h:l∈ls):idxB ls l<ls.length:=List.findIdx_lt_length_of_exists ⟨l,h,by simp⟩
def labSt(m n:Nd)(t:Bool)(i:Nat):Option Stp:=if hasN n.labs (labAtN m i)=true then some (labAtN m i,toAt m i,toAt n (idxB n.labs (labAtN m i)),t) else none
def stepsP(m n:Nd)(t:Bool):List Stp :=
 if m.kind=2∨m.kind=3 then [(dotB,toAt m 0,toAt n 0,t)]
 else if m.kind=4∨m.kind=5 then [(capB,toAt m 0,toAt n 0,t != decide (m.kind=4)),(dotB,toAt m 1,toAt n 1,t)]
 else (List.range m.labs.length).filterMap (labSt m n t)
def okP(g h:List Nd)(p:Pl):Prop:=if p.2.2=true then okI (nodeAt h p.2.1) (nodeAt g p.1) else okI (nodeAt g p.1) (nodeAt h p.2.1)
theorem mem_lab{m n:Nd}{t:Bool}{s:Stp}:s∈(List.range m.labs.length).filterMap (labSt m n t)↔∃x l,m.labs[x]? = some l∧l∈n.labs∧s=(l,toAt m x,toAt n (idxB n.labs l),t):=by
 rw [List.mem_filterMap];constructor
 ·rintro ⟨x,hx,e⟩
  have hx':x<m.labs.length:=List.mem_range.1 hx;have el:labAtN m x=m.labs[x]:=by unfold labAtN;rw [List.getElem?_eq_getElem hx'];rfl
  unfold labSt at e;rw [el]at e;split at e
  ·rename_i hm
   exact ⟨x,m.labs[x],List.getElem?_eq_getElem hx',(hasN_iff _ _).1 hm,(Option.some.inj e).symm⟩
  ·cases e
 ·rintro ⟨x,l,hx,hm,rfl⟩
  obtain ⟨hx',e⟩:=List.getElem?_eq_some_iff.1 hx;have el:labAtN m x=l:=by unfold labAtN;rw [hx];rfl
  exact ⟨x,List.mem_range.2 hx',by unfold labSt;rw [el,if_pos ((hasN_iff _ _).2 hm)]⟩
def failB(m n:Nd):Bool:=if m.kind≠n.kind∨m.so≠n.so then true else if m.kind=7 then !(m.labs.all fun l=>hasN n.labs l) else !(n.labs.all fun l=>hasN m.labs l)
theorem failB_iff(m n:Nd):failB m n=false↔okI m n:=by
 unfold failB okI;by_cases h1:m.kind≠n.kind∨m.so≠n.so
 ·rw [if_pos h1]
  constructor
  ·intro h;cases h
  ·rintro ⟨a,b,_⟩;rcases h1 with h1|h1
   ·exact absurd a h1
   ·exact absurd b h1
 ·rw [if_neg h1]
  have a:m.kind=n.kind:=Decidable.byContradiction fun h=>h1 (.inl h)
  have b:m.so=n.so:=Decidable.byContradiction fun h=>h1 (.inr h)
  by_cases h7:m.kind=7
  ·rw [if_pos h7,if_pos h7]
   simp only [Bool.not_eq_false',List.all_eq_true,hasN_iff];exact ⟨fun h=>⟨a,b,h⟩,fun h=>h.2.2⟩
  ·rw [if_neg h7,if_neg h7]
   simp only [Bool.not_eq_false',List.all_eq_true,hasN_iff];exact ⟨fun h=>⟨a,b,h⟩,fun h=>h.2.2⟩
def failP(g h:List Nd)(p:Pl):Bool:=if p.2.2=true then failB (nodeAt h p.2.1) (nodeAt g p.1) else failB (nodeAt g p.1) (nodeAt h p.2.1)
theorem failP_iff(g h:List Nd)(p:Pl):failP g h p=false↔okP g h p:=by
 unfold failP okP;split
 ·exact failB_iff _ _
 ·exact failB_iff _ _
def nextS(g h:List Nd)(p:Pl):List Stp:=stepsP (nodeAt g p.1) (nodeAt h p.2.1) p.2.2
def numP(h:Nat)(p:Pl):Nat:=(p.1*h+p.2.1)*2+if p.2.2=true then 1 else 0
theorem numP_lt{g h:Nat}{p:Pl}(h1:p.1<g)(h2:p.2.1<h):numP h p<2*g*h:=by
 unfold numP;have:p.1*h+h≤g*h:=by
  have:=Nat.mul_le_mul_right h (show p.1+1≤g from h1)
  rw [Nat.add_mul,Nat.one_mul]at this;exact this
 have e:2*g*h=2*(g*h):=Nat.mul_assoc 2 g h;rw [e];split <;> omega
theorem numP_inj{h:Nat}{p q:Pl}(h1:p.2.1<h)(h2:q.2.1<h)(e:numP h p=numP h q):p=q:=by
 obtain ⟨a,b,t⟩:=p;obtain ⟨a',b',t'⟩:=q;unfold numP at e;simp only at e h1 h2;have e1:a*h+b=a'*h+b'∧t=t':=by
  cases t <;> cases t' <;> simp at e ⊢ <;> omega
 have e2:a=a':=by
  rcases Nat.lt_trichotomy a a' with hl|hl|hl
  ·have:=Nat.mul_le_mul_right h (show a+1≤a' from hl)
   rw [Nat.add_mul,Nat.one_mul]at this;omega
  ·exact hl
  ·have:=Nat.mul_le_mul_right h (show a'+1≤a from hl)
   rw [Nat.add_mul,Nat.one_mul]at this;omega
 subst e2;have e3:b=b':=by omega
 rw [e3,e1.2]
theorem step_lt{g h:List Nd}(hg:GN g)(hh:GN h){p:Pl}(h1:p.1<g.length)(h2:p.2.1<h.length)(ho:okP g h p):∀s∈nextS g h p,s.2.1<g.length∧s.2.2.1<h.length:=by
 have hk:(nodeAt g p.1).kind=(nodeAt h p.2.1).kind:=by
  unfold okP at ho;split at ho
  ·exact ho.1.symm
  ·exact ho.1
 have lg:=okN_len (hg.at_ h1);have lh:=okN_len (hh.at_ h2);intro s hs;unfold nextS stepsP at hs;split at hs
 ·rename_i hc
  rw [List.mem_singleton]at hs;subst hs;exact ⟨hg.to_ 0 (lg.1 hc),hh.to_ 0 (lh.1 (by rw [← hk];exact hc))⟩
 split at hs
 ·rename_i hc
  have q1:=lg.2.1 hc;have q2:=lh.2.1 (by rw [← hk];exact hc)
  rcases List.mem_cons.1 hs with rfl|hs
  ·exact ⟨hg.to_ 0 (by omega),hh.to_ 0 (by omega)⟩
  ·rw [List.mem_singleton]at hs;subst hs
   exact ⟨hg.to_ 1 q1,hh.to_ 1 q2⟩
 ·obtain ⟨x,l,hx,hm,rfl⟩:=mem_lab.1 hs
  exact ⟨hg.to_ x (lg.2.2 x (List.getElem?_eq_some_iff.1 hx).1),hh.to_ _ (lh.2.2 _ (idxB_lt hm))⟩
def okB(g h:List Nd)(p:Pl):Prop:=p.1<g.length∧p.2.1<h.length
theorem below_wld{g h:List Nd}(hg:GN g)(hh:GN h):WLD (failP g h) (nextS g h) (okB g h) (numP h.length) (2*g.length*h.length) :=
 ⟨fun p hp hf s hs=>step_lt hg hh hp.1 hp.2 ((failP_iff g h p).1 hf) s hs,fun _ hp=>numP_lt hp.1 hp.2,fun _ _ hp hq e=>numP_inj hp.2 hq.2 e⟩
def srB(g h:List Nd)(m n:Nat):Option Nat × List Av:=srGA (failP g h) (nextS g h) (2*g.length*h.length) (m,n,false)
def belB(g h:List Nd)(m n:Nat):Bool:=(srB g h m n).1.isNone
open Go.RowKit Go.Shelf
structure EB(w:World)(n m:Nd)(a1 a2 a3 a4:OAd)(c1 c2 c3 c4:Nat)(W:World):Prop where
 x:NdAt W w.heap.size 0 n a1 c1 a2 c2
 y:NdAt W (w.heap.size+1) 0 m a3 c3 a4 c4
 lt:w.heap.size+1<W.heap.size
 bl:Below w.heap.size w W
theorem EB.new(w:World)(n m:Nd)(a1 a2 a3 a4:OAd)(c1 c2 c3 c4:Nat):EB w n m a1 a2 a3 a4 c1 c2 c3 c4 ((w.alloc (.cells #[.int .i64 n.kind,.int .i64 n.so,.slice a1 n.labs.length c1,.slice a2 n.to.length c2] 102)).alloc (.cells #[.int .i64 m.kind,.int .i64 m.so,.slice a3 m.labs.length c3,.slice a4 m.to.length c4] 102)) :=
 ⟨⟨by go_cell,by go_cell,by go_cell,by go_cell⟩,⟨by go_cell,by go_cell,by go_cell,by go_cell⟩,by simp,by go_grown⟩
theorem EB.keep{w:World}{n m:Nd}{a1 a2 a3 a4:OAd}{c1 c2 c3 c4:Nat}{W W':World}(h:EB w n m a1 a2 a3 a4 c1 c2 c3 c4 W)(hb:Below W.heap.size W W'):EB w n m a1 a2 a3 a4 c1 c2 c3 c4 W' :=
 ⟨h.x.keep hb (by have:=h.lt;omega),h.y.keep hb h.lt,nL h.lt hb.size,h.bl.trans (hb.mono h.bl.size)⟩
theorem infoMe:(Tryz.prog.info? 152).map (fun i=>(i.zero,i.size,i.bytes))=some (some (.agg #[.string ⟨#[]⟩,.int .i64 0]),2,24):=by kernel_rfl
def mCs(ar:Ar):List Value:=ar.flatMap fun p=>[Value.string p.1,.int .i64 (p.2:Int)]
theorem mCs_len(ar:Ar):(mCs ar).length=ar.length*2:=by
 induction ar with
 | nil=>rfl
 | cons p ar ih =>
  have e:mCs (p::ar)=[Value.string p.1,.int .i64 (p.2:Int)]++mCs ar:=rfl;rw [e,List.length_append,ih];simp
  omega
theorem mCs_at:∀(ar:Ar) (i:Nat) (h:i<ar.length),(mCs ar)[i*2]? = some (.string ar[i].1)∧(mCs ar)[i*2+1]? = some (.int .i64 (ar[i].2:Int))
 | [],i,h=>by simp at h
 | p::ar,0,_=>⟨rfl,rfl⟩
 | p::ar,i+1,h=>by
  have e:mCs (p::ar)=[Value.string p.1,.int .i64 (p.2:Int)]++mCs ar:=rfl;have ih:=mCs_at ar i (by simpa using h)
  have h2:∀j,([Value.string p.1,.int .i64 (p.2:Int)]++mCs ar)[j+2]? = (mCs ar)[j]?:=fun j=>by rw [List.getElem?_append_right (by simp)];rfl
  rw [e,show (i+1)*2=i*2+2 by omega,h2,show i*2+2+1=(i*2+1)+2 by omega,h2]
  exact ⟨ih.1,ih.2⟩
theorem mCs_snoc(ar:Ar)(p:ByteArray × Nat):mCs (ar++[p])=mCs ar++[.string p.1,.int .i64 (p.2:Int)]:=by simp [mCs]
theorem mCs_of{W:World}{b o:Nat}{ar:Ar}(hc:∀i (h:i<ar.length),W.cell? ⟨b,o+i*2,none⟩=some (.string ar[i].1)∧W.cell? ⟨b,o+i*2+1,none⟩=some (.int .i64 (ar[i].2:Int))):∀j v,(mCs ar)[j]? = some v→W.cell? ⟨b,o+j,none⟩=some v:=by
 intro j v hj;have hl:j<ar.length*2:=by
  rw [← mCs_len];exact (List.getElem?_eq_some_iff.1 hj).1
 obtain ⟨h0,h1⟩:=mCs_at ar (j / 2) (by omega)
 obtain ⟨q0,q1⟩:=hc (j / 2) (by omega)
 rcases Nat.mod_two_eq_zero_or_one j with hm|hm
 ·have e:j=j / 2*2:=by omega
  rw [e]at hj ⊢;rw [h0]at hj;rw [q0];exact hj
 ·have e:j=j / 2*2+1:=by omega
  rw [e]at hj ⊢;rw [h1]at hj;rw [← Nat.add_assoc,q1];exact hj
theorem run_append_m(w:World)(ty:TypeId)(ar:Ar)(aa:OAd)(pg:Nat)(row:Option Nat)(nm:ByteArray)(z g c:Nat)(h:MR w pg row ar aa ar.length)(hl:ar.length≤1000)(hg0:w.cell? ⟨g,0,none⟩=some (.string nm))(hg1:w.cell? ⟨g,1,none⟩=some (.int .i64 (z:Int)))(hpg:pg<w.heap.size)(hrow:∀k,row=some k→k<w.heap.size):
  ∃aa' ca' w',(Builtin.append_ #[148,148] ty #[.slice aa ar.length ar.length,.slice (some ⟨g,0,none⟩) 1 c]).run Tryz.prog w = .ok (.slice aa' (ar.length+1) ca') w'∧MR w' pg row (ar++[(nm,z)]) aa' ca'∧Below w.heap.size w w':=by
 obtain ⟨i,hi,hz0,hz1,hz2⟩:=info_parts infoMe;have hnews:∀j v,[Value.string nm,.int .i64 (z:Int)][j]? = some v→w.cell? ((⟨g,0,none⟩:Addr).add j)=some v:=by
  intro j v hj;match j,hj with
  | 0,hj=>simp at hj;subst hj;rw [addj0];exact hg0
  | 1,hj=>simp at hj;subst hj;rw [addj0];exact hg1
  | j+2,hj=>simp at hj
 have hfin:∀(cap:Nat) (cs:List Value) (rest:Array Value),cs=mCs (ar++[(nm,z)])→ar.length+1≤cap→MR (w.drew.alloc (.cells (cs.toArray++rest) 152)) pg row (ar++[(nm,z)]) (some ⟨w.heap.size,0,none⟩) cap:=by
  intro cap cs rest hcs hcap;have hcell:∀j v,(mCs (ar++[(nm,z)]))[j]? = some v→(w.drew.alloc (.cells (cs.toArray++rest) 152)).cell? ⟨w.heap.size,j,none⟩=some v:=by
   intro j v hj;have e1:(w.drew.alloc (.cells (cs.toArray++rest) 152)).cell? ⟨w.heap.size,j,none⟩=(cs.toArray++rest)[j]?:=World.cell?_alloc_at _ _ _ _ rfl;have hjl:=(List.getElem?_eq_some_iff.1 hj).1;rw [e1,Array.getElem?_append_left (by simp [hcs];exact hjl)]
   simp only [List.getElem?_toArray];rw [hcs];exact hj
  refine .inr ⟨by simpa using hcap,w.heap.size,0,rfl,by simp,by omega,fun e=>by have:=hrow _ e;omega,fun k hk=>?_⟩
  obtain ⟨h0,h1⟩:=mCs_at (ar++[(nm,z)]) k hk;rw [Nat.zero_add];exact ⟨hcell _ _ h0,hcell _ _ h1⟩
 rcases h with ⟨rfl,rfl,_⟩|⟨_,b,o,rfl,_,_,_,hc⟩
 ·have hr:=run_append_nil (P:=Tryz.prog) w 148 ty 152 i _ Tryz.underlying148 hi hz0 ⟨g,0,none⟩ 1 c [.string nm,.int .i64 (z:Int)] (by rw [hz1];rfl) hnews (by omega) (by omega) (by rw [hz2];omega)
  refine ⟨_,_,_,hr,?_,((bR _ _).drew).alloc (by simp) _⟩
  exact hfin _ [.string nm,.int .i64 (z:Int)] _ rfl (grownCap_ge _ _ _ _)
 ·have hr:=run_append_grow (P:=Tryz.prog) w 148 ty 152 i _ Tryz.underlying148 hi hz0 ⟨b,o,none⟩ ar.length ar.length (mCs ar) (by rw [hz1];exact mCs_len ar) (fun j v hj=>by rw [addjo];exact mCs_of hc j v hj) ⟨g,0,none⟩ 1 c [.string nm,.int .i64 (z:Int)] (by rw [hz1];rfl) hnews (by omega) (by omega) (growslice_fits (by omega) (by rw [hz2];omega))
  refine ⟨_,_,_,hr,?_,((bR _ _).drew).alloc (by simp) _⟩
  have:=hfin (grownCap w (ar.length+1) ar.length 152) (mCs (ar++[(nm,z)])) (Builtin.zeroCells (Value.agg #[.string ⟨#[]⟩,.int .i64 0]).cells (grownCap w (ar.length+1) ar.length 152 - (ar.length+1))) rfl (grownCap_ge _ _ _ _);rw [mCs_snoc]at this;simpa using this
theorem step_append_m(w:World){ops:Array Oper}{o:Oper}{a:Act}{K:Act→World→Prop}{Q:Exit→Act→World→Prop}{E:Prop}(hgd:o.guard=none)(s x:Operand)
  (ho:o.op = .call { callee:=.builtin .append,args:=#[s,x],argTypes:=#[148,148] })
  (ar:Ar) (aa:OAd) (pg:Nat) (row:Option Nat) (nm:ByteArray) (z g c:Nat) (hs:a.eval s = .slice aa ar.length ar.length) (hx:a.eval x = .slice (some ⟨g,0,none⟩) 1 c)
  (h:MR w pg row ar aa ar.length) (hl:ar.length≤1000) (hg0:w.cell? ⟨g,0,none⟩=some (.string nm)) (hg1:w.cell? ⟨g,1,none⟩=some (.int .i64 (z:Int))) (hpg:pg<w.heap.size) (hrow:∀k,row=some k→k<w.heap.size)
  (hK:∀aa' ca' w',MR w' pg row (ar++[(nm,z)]) aa' ca'→Below w.heap.size w w'→K (a.put o.dst (.slice aa' (ar.length+1) ca')) w') :
  if Region.wanted o (yielded ops a.tmps)=true then Oper.wp Tryz.prog o a w K Q else E:=by
 have hw:Region.wanted o (yielded ops a.tmps)=true:=by simp [Region.wanted,hgd]
 rw [if_pos hw];obtain ⟨aa',ca',w',hr,h2,h3⟩:=run_append_m w o.type ar aa pg row nm z g c h hl hg0 hg1 hpg hrow;unfold Oper.wp execOp;simp only [ho,resolve,invoke,builtin,Sem.run_bind,Sem.run_pure,Result.andThen_ok,List.map_toArray,List.map_cons,List.map_nil,hs,hx,hr];exact hK aa' ca' w' h2 h3
structure PG(W:World)(pg:Nat)(u:Value)(toks:List TkN):Prop where
 c:W.cell? ⟨pg,0,none⟩=some u
 f:W.frozen? ⟨pg,0,none⟩=false
 own:W.ownsRow (pg+1) 102 4 u toks.length (ndCs toks)
 lt:pg<W.heap.size
theorem PG.keep{W W':World}{pg:Nat}{u:Value}{toks:List TkN}(h:PG W pg u toks)(hb:Below W.heap.size W W'):PG W' pg u toks :=
 ⟨(hb.cell (p:=⟨pg,0,none⟩) h.lt).trans h.c,(hb.frozen (p:=⟨pg,0,none⟩) h.lt).trans h.f,own_belowG h.own hb,nL h.lt hb.size⟩
def TKL(W:World)(B:Nat)(P:Nat→Prop)(ts:List TkN):Prop:=∀t∈ts,LA W B t.1.labs t.2.1.1∧NP W P (t.1.to.map fun t:Nat=>Value.int .i64 (t:Int)) t.2.2.1
theorem TKL.keep{W W':World}{B:Nat}{P Q:Nat→Prop}{ts:List TkN}(hb:Below B W W')(hc:∀b o,P b→W'.cell? ⟨b,o,none⟩=W.cell? ⟨b,o,none⟩)(hq:∀b,P b→Q b)(h:TKL W B P ts):TKL W' B Q ts:=fun t ht=>⟨(h t ht).1.keep hb,(h t ht).2.keep hc hq⟩
def LYPost(t:Ty)(ar:Ar)(pg:Nat)(u:Value)(toks:List TkN)(B:Nat)(w:World)(e:Ending)(w':World):Prop :=
 e = .returned (.int .i64 ((layP t ar toks.length).1:Int))∧∃(new:List TkN) (u':Value),new.map (·.1)=(layP t ar toks.length).2∧PG w' pg u' (toks++new)∧TKL w' B (fun b=>w.heap.size≤b∧b<w'.heap.size∧u'.ownBlock≠some b) new∧RF pg pg u.ownBlock w w'∧(u'.ownBlock=u.ownBlock∨∀k,u'.ownBlock=some k→w.heap.size≤k)
def LYSaid(d:Nat):Prop:=∀(t:Ty) (al:OAd) (cl:Nat) (ak:OAd) (ck:Nat) (ar:Ar) (aa:OAd) (ca pg:Nat) (u:Value) (toks:List TkN) (B:Nat) (w:World),
 TyBd t cl ck→LA w B t.labels al→KT w B d t.kids ak→wfT t→MR w pg u.ownBlock ar aa ca→PG w pg u toks→B≤pg→sizeT t+toks.length≤900→ar.length+sizeT t≤900 →
 Calls Tryz.prog 52 #[.pointer (some ⟨pg,0,none⟩),tyVal t al cl ak ck,.slice aa ar.length ca] w (LYPost t ar pg u toks B w)
theorem idxB_take{ls:List ByteArray}{l:ByteArray}{k:Nat}(hk:k<ls.length)(h:hasN (ls.take k) l=false)(e:ls[k]=l):idxB ls l=k:=by
 unfold idxB;rw [List.findIdx_eq hk];refine ⟨by simpa using e,fun j hj=>?_⟩
 cases hq:decide (ls[j]=l) with
 | false=>rfl
 | true =>
  have:ls[j]=l:=by simpa using hq
  have hm:l∈ls.take k:=by
   rw [List.mem_take_iff_getElem];exact ⟨j,by omega,this⟩
  have:=(hasN_iff _ l).2 hm;rw [this]at h;cases h
theorem hasN_take{ls:List ByteArray}{l:ByteArray}{k:Nat}(hk:k<ls.length)(h:hasN (ls.take k) l=false)(e:¬ls[k]=l):hasN (ls.take (k+1)) l=false:=by
 rw [List.take_succ_eq_append_getElem hk];cases hq:hasN (ls.take k++[ls[k]]) l with
 | false=>rfl
 | true =>
  rcases List.mem_append.1 ((hasN_iff _ l).1 hq) with hm|hm
  ·rw [(hasN_iff _ l).2 hm]at h;cases h
  ·exact absurd (List.mem_singleton.1 hm).symm e
def idxZ(ls:List ByteArray)(l:ByteArray):Int:=if hasN ls l=true then (idxB ls l:Int) else -1
theorem index_any(ls:List ByteArray)(x:ByteArray)(al:OAd)(cl B:Nat)(w:World)(h:LA w B ls al)(hl:ls.length≤1000):
  Calls Tryz.prog 64 #[.slice al ls.length cl,.string x] w fun e w'=>e = .returned (.int .i64 (idxZ ls x))∧w'=w:=by
 have hlz:(ls.length:Int)≤1000:=by omega
 go_enter Tryz.func64,Tryz.ntmps64
 go_wp2_with fail
 go_loopw [8] (fun i wr=>∃k:Nat,k≤ls.length∧i = .int .i64 (k:Int)∧hasN (ls.take k) x=false∧wr=w) (fun i _=>ls.length - (intOf i).toNat)
 case atStart=>exact ⟨0,Nat.zero_le _,rfl,rfl,rfl⟩
 case round =>
  obtain ⟨k,hk,rfl,hn,rfl⟩:=hrel;by_cases hlt:k<ls.length
  ·have hltz:(k:Int)<(ls.length:Int):=by omega
   obtain ⟨b,o,rfl,hbl,hc⟩:=h.resolve_left (fun q=>by have:=congrArg List.length q;simp at this;rw [this]at hlt;simp at hlt)
   have d0:=hc k (by simpa using hlt)
   rw [List.getElem_map]at d0;by_cases he:ls[k]=x
   ·have heb:(x.toList==ls[k].toList)=true:=by rw [he];simp
    have HI:=hideK (show idxZ ls x=(k:Int) from by
     unfold idxZ;rw [if_pos ((hasN_iff _ _).2 (by rw [← he];exact List.getElem_mem hlt)),idxB_take hlt hn he])
    clear he hc hn;generalize ls[k]=y at *;go_wp2_with fail
    go_ret
    exact ⟨by rw [HI.out];rfl,rfl⟩
   ·have heb:(x.toList==ls[k].toList)=false:=by rw [ba_beq];simpa using fun q=>he q.symm
    have HN:=hideK (hasN_take hlt hn he);clear he hc hn;generalize ls[k]=y at *;go_wp2_with fail
    go_roundw
    case rel=>exact ⟨k+1,by omega,by go_num,HN.out,by first|rfl|trivial⟩
    case measure=>simp [intOf];omega
  ·have hltz:¬(k:Int)<(ls.length:Int):=by omega
   have hkl:k=ls.length:=by omega
   subst hkl;rw [List.take_length]at hn;have HI:=hideK (show idxZ ls x = -1 from by unfold idxZ;rw [if_neg (by rw [hn];simp)])
   clear hn;go_wp2_with fail
   go_ret
   exact ⟨by rw [HI.out];rfl,rfl⟩
theorem containsL_any(ns:List ByteArray)(x:ByteArray)(aa:OAd)(ca B:Nat)(w:World)(h:LA w B ns aa)(hl:ns.length≤1000):
  Calls Tryz.prog 61 #[.slice aa ns.length ca,.string x] w fun e w'=>e = .returned (.bool (hasN ns x))∧w'=w:=by
 rcases h with h|⟨b,o,rfl,_,hc⟩
 ·have:ns=[]:=by simpa using h
  subst this;refine (Any.slices_Contains_string_empty Tryz.lays110 aa ca x w).mono fun e w' ⟨h1,h2⟩=>⟨?_,h2⟩
  rw [h1];rfl
 ·refine (Any.slices_Contains_string Tryz.lays110 b o ns.length ca ns x w (by simp) (by omega) ?_).mono fun e w' ⟨h1,h2⟩=>⟨?_,h2⟩
  ·intro j hj
   rw [hc j (by simpa using hj)]
   simp [List.getD_eq_getElem?_getD,hj]
  ·rw [h1]
   congr 2
   rw [List.take_of_length_le (by simp)]
   rw [Bool.eq_iff_iff,Lib.containsS_iff,hasN_iff]
theorem hasAll1_any(x:ByteArray)(ns:List ByteArray)(aa:OAd)(ca B pb:Nat)(w:World)(h:LA w B ns aa)(hl:ns.length≤1000)(hp:w.cell? ⟨pb,0,none⟩=some (.slice aa ns.length ca)):
  Calls Tryz.prog 183 #[.string x,.pointer (some ⟨pb,0,none⟩)] w fun e w'=>e = .returned (.bool (!hasN ns x))∧w'=w:=by
 have c:=containsL_any ns x aa ca B w h hl;generalize hasN ns x=q at *;clear h;go_enter Tryz.func183,Tryz.ntmps183
 go_wp2_with fail
 refine c.mono ?_;rintro e w1 ⟨rfl,rfl⟩;go_wp2_with fail
 go_ret
 exact ⟨rfl,rfl⟩
theorem indexHas_any(ls ns:List ByteArray)(al:OAd)(cl:Nat)(aa:OAd)(ca B pb:Nat)(w:World)(hL:LA w B ls al)(h:LA w B ns aa)(hl:ls.length≤1000)(hl2:ns.length≤1000)(hp:w.cell? ⟨pb,0,none⟩=some (.slice aa ns.length ca)):
  Calls Tryz.prog 132 #[.slice al ls.length cl,.func (.func 183) #[] #[.pointer (some ⟨pb,0,none⟩)]] w fun e w'=>(∃z:Int,e = .returned (.int .i64 z)∧(0≤z∨z = -1)∧(z = -1↔(ls.all fun l=>hasN ns l)=true))∧w'=w:=by
 have hlz:(ls.length:Int)≤1000:=by omega
 go_enter Tryz.func132,Tryz.ntmps132
 go_wp2_with fail
 go_loopw [8] (fun i wr=>∃k:Nat,k≤ls.length∧i = .int .i64 (k:Int)∧((ls.take k).all fun l=>hasN ns l)=true∧wr=w) (fun i _=>ls.length - (intOf i).toNat)
 case atStart=>exact ⟨0,Nat.zero_le _,rfl,rfl,rfl⟩
 case round =>
  obtain ⟨k,hk,rfl,hn,rfl⟩:=hrel;by_cases hlt:k<ls.length
  ·have hltz:(k:Int)<(ls.length:Int):=by omega
   obtain ⟨b,o,rfl,hbl,hc⟩:=hL.resolve_left (fun q=>by have:=congrArg List.length q;simp at this;rw [this]at hlt;simp at hlt)
   have d0:=hc k (by simpa using hlt)
   rw [List.getElem_map]at d0;have c:=hasAll1_any ls[k] ns aa ca B pb _ h hl2 hp;cases hq:hasN ns ls[k] with
   | true =>
    rw [hq]at c;have HN:=hideK (show ((ls.take (k+1)).all fun l=>hasN ns l)=true from by
     rw [List.take_succ_eq_append_getElem hlt,List.all_append,hn];simp [hq])
    clear hc hn hq h;generalize ls[k]=y at *;go_wp2_with fail
    refine c.mono ?_;rintro e w1 ⟨rfl,rfl⟩;go_wp2_with fail
    go_roundw
    case rel=>exact ⟨k+1,by omega,by go_num,HN.out,by first|rfl|trivial⟩
    case measure=>simp [intOf];omega
   | false =>
    rw [hq]at c;have HN:=hideK (show ¬(ls.all fun l=>hasN ns l)=true from fun q=>by
     rw [List.all_eq_true]at q;have:=q _ (List.getElem_mem hlt);rw [hq]at this;cases this)
    clear hc hn hq h;generalize ls[k]=y at *;go_wp2_with fail
    refine c.mono ?_;rintro e w1 ⟨rfl,rfl⟩;go_wp2_with fail
    go_ret
    exact ⟨⟨_,rfl,.inl (by omega),⟨fun q=>by omega,fun q=>absurd q HN.out⟩⟩,rfl⟩
  ·have hltz:¬(k:Int)<(ls.length:Int):=by omega
   have hkl:k=ls.length:=by omega
   subst hkl;rw [List.take_length]at hn;have HN:=hideK hn;clear hn;go_wp2_with fail
   go_ret
   exact ⟨⟨_,rfl,.inr rfl,⟨fun _=>by first|exact HN.out|exact List.all_eq_true.1 HN.out,fun _=>rfl⟩⟩,rfl⟩
theorem containsHas_any(ls ns:List ByteArray)(al:OAd)(cl:Nat)(aa:OAd)(ca B pb:Nat)(w:World)(hL:LA w B ls al)(h:LA w B ns aa)(hl:ls.length≤1000)(hl2:ns.length≤1000)(hp:w.cell? ⟨pb,0,none⟩=some (.slice aa ns.length ca)):
  Calls Tryz.prog 105 #[.slice al ls.length cl,.func (.func 183) #[] #[.pointer (some ⟨pb,0,none⟩)]] w fun e w'=>e = .returned (.bool (!(ls.all fun l=>hasN ns l)))∧w'=w:=by
 have c:=indexHas_any ls ns al cl aa ca B pb w hL h hl hl2 hp;generalize (ls.all fun l=>hasN ns l)=q at *
 clear h hL;go_enter Tryz.func105,Tryz.ntmps105
 go_wp2_with fail
 refine c.mono ?_;rintro e w1 ⟨⟨z,rfl,hz,hq⟩,rfl⟩;cases q with
 | true =>
  obtain rfl:z = -1:=hq.2 rfl;clear hz hq;go_wp2_with fail
  go_ret
  exact ⟨rfl,rfl⟩
 | false =>
  have hz':decide (z ≥ 0)=true:=by
   rcases hz with hz|hz
   ·simpa using hz
   ·exact absurd (hq.1 hz) (by simp)
  have hz2:(0≤z):=by simpa using hz'
  clear hz hq;go_wp2_with fail
  go_ret
  exact ⟨rfl,rfl⟩
theorem hasAll_any(ls ns:List ByteArray)(al:OAd)(cl:Nat)(aa:OAd)(ca B:Nat)(w:World)(hL:LA w B ls al)(h:LA w B ns aa)(hB:B≤w.heap.size)(hl:ls.length≤1000)(hl2:ns.length≤1000):
  Calls Tryz.prog 165 #[.slice aa ns.length ca,.slice al ls.length cl] w fun e w'=>e = .returned (.bool (ls.all fun l=>hasN ns l))∧Below w.heap.size w w':=by
 have hA:Below w.heap.size w (w.alloc (.cells #[.slice aa ns.length ca] 28)):=(bR _ _).alloc (nR _) _;have c:=containsHas_any ls ns al cl aa ca B w.heap.size (w.alloc (.cells #[.slice aa ns.length ca] 28)) (hL.keep (hA.mono hB)) (h.keep (hA.mono hB)) hl hl2 (by go_cell)
 generalize (ls.all fun l=>hasN ns l)=q at *
 have HA:=hideK hA;clear h hL hA;go_enter Tryz.func165,Tryz.ntmps165
 go_wp2_with fail
 refine c.mono ?_;rintro e w1 ⟨rfl,rfl⟩;go_wp2_with fail
 go_ret
 exact ⟨by cases q <;> rfl,HA.out⟩
end Go.Proofs.YtmamabhhgfcjcaaGreatDoor
