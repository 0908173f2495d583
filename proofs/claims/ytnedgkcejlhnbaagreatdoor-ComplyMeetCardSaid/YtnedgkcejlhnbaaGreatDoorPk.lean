/-
  How a type is laid as a graph (plain); the names around it with their nodes: graph.meant, slices.Clip, append.
-/
import Derived.Test.YtnedgkcejlhnbaaGreatDoorSz
import Derived.Test.YtnedgkcejlhnbaaGreatDoorHm
import Derived.Test.YtnedgkcejlhnbaaGreatDoorKe
import Derived.Test.YtnedgkcejlhnbaaGreatDoorHd
import Derived.Sort.Walk0
import Derived.Lib.SlicesCompact
import Derived.Lib.RowBridge
import Derived.Sort.EncStr
set_option maxRecDepth 100000
set_option maxHeartbeats 2000000
namespace Go.Proofs.YtnedgkcejlhnbaaGreatDoor
open Go.RowKit Go.Shelf
abbrev Ar:=List (ByteArray × Nat)
def meantP(nm:ByteArray)(ar:Ar):Nat:=ar.foldl (fun a p=>if p.1=nm then p.2 else a) 0
def layP:Ty→Ar→Nat→Nat × List Nd
 | ⟨kd,so,nm,ls,ks⟩,ar,n =>
  if kd=9 then (meantP nm ar,[])
  else if kd=8 then ks.foldl (fun _ k=>layP k (ar++[(nm,n)]) n) (0,[])
  else (n,⟨kd,so,ls,(ks.foldl (fun (a:List Nat × List Nd) k=>(a.1++[(layP k ar (n+1+a.2.length)).1],a.2++(layP k ar (n+1+a.2.length)).2)) ([],[])).1⟩::(ks.foldl (fun (a:List Nat × List Nd) k=>(a.1++[(layP k ar (n+1+a.2.length)).1],a.2++(layP k ar (n+1+a.2.length)).2)) ([],[])).2)
def layL(ar:Ar)(n:Nat)(ks:List Ty):List Nat × List Nd:=ks.foldl (fun (a:List Nat × List Nd) k=>(a.1++[(layP k ar (n+a.2.length)).1],a.2++(layP k ar (n+a.2.length)).2)) ([],[])
theorem layP_var(t:Ty)(ar:Ar)(n:Nat)(h:t.kind=9):layP t ar n=(meantP t.name ar,[]):=by cases t;rw [layP,if_pos h]
theorem layP_rec(t:Ty)(ar:Ar)(n:Nat)(h:t.kind=8)(k:Ty)(hk:t.kids=[k]):layP t ar n=layP k (ar++[(t.name,n)]) n:=by
 cases t
 simp only at h hk;subst h hk;rw [layP,if_neg (by decide),if_pos rfl]
 rfl
theorem layP_node(t:Ty)(ar:Ar)(n:Nat)(h9:t.kind≠9)(h8:t.kind≠8):layP t ar n=(n,⟨t.kind,t.so,t.labels,(layL ar (n+1) t.kids).1⟩::(layL ar (n+1) t.kids).2):=by
 cases t
 rw [layP,if_neg h9,if_neg h8];rfl
theorem layL_snoc(ar:Ar)(n:Nat)(ks:List Ty)(k:Ty):layL ar n (ks++[k])=((layL ar n ks).1++[(layP k ar (n+(layL ar n ks).2.length)).1],(layL ar n ks).2++(layP k ar (n+(layL ar n ks).2.length)).2):=by
 unfold layL;rw [List.foldl_append];rfl
theorem layL_len(ar:Ar)(n:Nat):∀ks:List Ty,(layL ar n ks).1.length=ks.length:=by
 have:∀(ks:List Ty) (a:List Nat × List Nd),(ks.foldl (fun (a:List Nat × List Nd) k=>(a.1++[(layP k ar (n+a.2.length)).1],a.2++(layP k ar (n+a.2.length)).2)) a).1.length=a.1.length+ks.length:=by
  intro ks;induction ks with
  | nil=>intro a;rfl
  | cons k ks ih=>intro a;rw [List.foldl_cons,ih];simp;omega
 intro ks;unfold layL;rw [this];simp
theorem lay_size:∀t:Ty,wfT t→∀ar n,(layP t ar n).2.length≤sizeT t:=by
 apply tyInd
 intro t ih hw ar n;have hs:=sizeT_eq t;obtain ⟨hp,hk⟩:=(wfT_eq t).1 hw;by_cases h9:t.kind=9
 ·rw [layP_var t ar n h9];simp
 ·by_cases h8:t.kind=8
  ·have h1:t.kids.length=1:=by
    unfold partT at hp;simp [h8]at hp;exact hp.2
   match hq:t.kids,h1 with
   | [k],_ =>
    rw [layP_rec t ar n h8 k hq];have:=ih k (by rw [hq];exact .head _) (hk k (by rw [hq];exact .head _)) (ar++[(t.name,n)]) n
    rw [hq]at hs;simp at hs;omega
  ·rw [layP_node t ar n h9 h8]
   have:∀(ks:List Ty),(∀k∈ks,k∈t.kids)→∀(a:List Nat × List Nd),(ks.foldl (fun (a:List Nat × List Nd) k=>(a.1++[(layP k ar (n+1+a.2.length)).1],a.2++(layP k ar (n+1+a.2.length)).2)) a).2.length≤a.2.length+(ks.map sizeT).sum:=by
    intro ks;induction ks with
    | nil=>intro _ a;simp
    | cons k ks ih2 =>
     intro hm a;rw [List.foldl_cons];refine Nat.le_trans (ih2 (fun x hx=>hm x (.tail _ hx)) _) ?_
     have:=ih k (hm k (.head _)) (hk k (hm k (.head _))) ar (n+1+a.2.length);simp only [List.length_append,List.map_cons,List.sum_cons];omega
   have h:=this t.kids (fun k hk=>hk) ([],[])
   simp only [List.length_cons];unfold layL;simp at h;omega
def MR(W:World)(pg:Nat)(row:Option Nat)(ar:Ar)(aa:OAd)(ca:Nat):Prop :=
 (ar=[]∧aa=none∧ca=0)∨(ar.length≤ca∧∃b o,aa=some ⟨b,o,none⟩∧b<W.heap.size∧b≠pg∧row≠some b∧∀i (h:i<ar.length),W.cell? ⟨b,o+i*2,none⟩=some (.string ar[i].1)∧W.cell? ⟨b,o+i*2+1,none⟩=some (.int .i64 (ar[i].2:Int)))
theorem MR.clip{W:World}{pg:Nat}{row:Option Nat}{ar:Ar}{aa:OAd}{ca:Nat}(h:MR W pg row ar aa ca):MR W pg row ar aa ar.length:=by
 rcases h with ⟨rfl,rfl,_⟩|⟨_,h⟩
 ·exact .inl ⟨rfl,rfl,rfl⟩
 ·exact .inr ⟨Nat.le_refl _,h⟩
theorem MR.keep{W W':World}{pg:Nat}{row row':Option Nat}{ar:Ar}{aa:OAd}{ca:Nat}(h:MR W pg row ar aa ca)(hf:RF pg pg row W W')(hn:row'=row∨∀k,row'=some k→W.heap.size≤k):MR W' pg row' ar aa ca :=
 h.imp id fun ⟨hc,b,o,e,hl,hp,hr,hcell⟩=>⟨hc,b,o,e,Nat.lt_of_lt_of_le hl hf.size,hp,fresh_ne hn hl hr,fun i hi=>⟨(hf.cell hl hp hp (fun e=>hr e.symm)).trans (hcell i hi).1,(hf.cell hl hp hp (fun e=>hr e.symm)).trans (hcell i hi).2⟩⟩
theorem RF.of{fb rb:Nat}{row:Option Nat}{w w':World}(h:Below w.heap.size w w'):RF fb rb row w w':=⟨h.os,h.tape,h.output,h.size,fun k hk _ _ _=>h.block k hk⟩
theorem RF.trans{fb rb:Nat}{row row':Option Nat}{a b c:World}(h:RF fb rb row a b)(k:RF fb rb row' b c)(hn:row'=row∨∀j,row'=some j→a.heap.size≤j):RF fb rb row a c :=
 ⟨k.os.trans h.os,k.tape.trans h.tape,k.output.trans h.output,Nat.le_trans h.size k.size,fun i hi h1 h2 h3=>(k.block i (Nat.lt_of_lt_of_le hi h.size) h1 h2 (fun e=>fresh_ne hn hi (fun q=>h3 q.symm) e.symm)).trans (h.block i hi h1 h2 h3)⟩
theorem meant_any(nm:ByteArray)(ar:Ar)(aa:OAd)(ca pg:Nat)(row:Option Nat)(w:World)(h:MR w pg row ar aa ca)(hl:ar.length≤1000):
  Calls Tryz.prog 58 #[.string nm,.slice aa ar.length ca] w fun e w'=>e = .returned (.int .i64 (meantP nm ar:Int))∧Below w.heap.size w w':=by
 have hlz:(ar.length:Int)≤1000:=by omega
 go_enter Tryz.func58,Tryz.ntmps58
 go_wp2_with fail
 go_loopw [5,10] (fun z i wr=>∃k:Nat,k≤ar.length∧i = .int .i64 (k:Int)∧z = .int .i64 (meantP nm (ar.take k):Int)∧Below w.heap.size w wr) (fun _ i _=>ar.length - (intOf i).toNat)
 case atStart=>exact ⟨0,Nat.zero_le _,rfl,rfl,Below.refl _ _⟩
 case round =>
  obtain ⟨k,hk,rfl,rfl,hb⟩:=hrel;by_cases hlt:k<ar.length
  ·have hltz:(k:Int)<(ar.length:Int):=by omega
   obtain ⟨_,b,o,rfl,hbl,_,_,hc⟩:=h.resolve_left (fun q=>by rw [q.1]at hlt;simp at hlt)
   have d0:=(hb.cell (p:=⟨b,o+k*2,none⟩) hbl).trans (hc k hlt).1;have d1:=(hb.cell (p:=⟨b,o+k*2+1,none⟩) hbl).trans (hc k hlt).2;have HT:=hideK (show meantP nm (ar.take (k+1))=if ar[k].1=nm then ar[k].2 else meantP nm (ar.take k) from by unfold meantP;rw [List.take_succ_eq_append_getElem hlt,List.foldl_append];rfl)
   have HB:=hideK hb;clear hb hc;by_cases he:ar[k].1=nm
   ·have heb:(ar[k].1.toList==nm.toList)=true:=by rw [he];simp
    rw [if_pos he]at HT;have HB2:=hideK (show Below w.heap.size w (wr.alloc (.cells #[.string ar[k].1,.int .i64 (ar[k].2:Int)] 127)) from HB.out.alloc HB.out.size _)
    clear he;go_wp2_with fail
    go_roundw
    case rel=>exact ⟨k+1,by omega,by go_num,by rw [HT.out],HB2.out⟩
    case measure=>simp [intOf];omega
   ·have heb:(ar[k].1.toList==nm.toList)=false:=by rw [ba_beq];simpa using he
    rw [if_neg he]at HT;have HB2:=hideK (show Below w.heap.size w (wr.alloc (.cells #[.string ar[k].1,.int .i64 (ar[k].2:Int)] 127)) from HB.out.alloc HB.out.size _)
    clear he;go_wp2_with fail
    go_roundw
    case rel=>exact ⟨k+1,by omega,by go_num,by rw [HT.out],HB2.out⟩
    case measure=>simp [intOf];omega
  ·have hltz:¬(k:Int)<(ar.length:Int):=by omega
   have hkl:k=ar.length:=by omega
   subst hkl;rw [List.take_length];go_wp2_with fail
   go_ret
   exact ⟨rfl,hb⟩
theorem clipM_any(ar:Ar)(aa:OAd)(ca pg:Nat)(row:Option Nat)(w0 w:World)(h:MR w0 pg row ar aa ca)(hl:ar.length≤1000):
  Calls Tryz.prog 59 #[.slice aa ar.length ca] w fun e w'=>e = .returned (.slice aa ar.length ar.length)∧w'=w:=by
 have hz:(ar.length:Int)≤1000:=by omega
 rcases h with ⟨rfl,rfl,rfl⟩|⟨hc,b,o,rfl,_,_,_⟩
 ·go_enter Tryz.func59,Tryz.ntmps59
  go_wp2_with fail
  go_ret
  exact ⟨rfl,rfl⟩
 ·have hcz:(ar.length:Int)≤(ca:Int):=by omega
  go_enter Tryz.func59,Tryz.ntmps59
  go_wp2_with fail
  go_ret
  exact ⟨rfl,rfl⟩
theorem layL_acc(ar:Ar)(n:Nat):∀(ks:List Ty) (a:List Nat × List Nd),ks.foldl (fun (a:List Nat × List Nd) k=>(a.1++[(layP k ar (n+a.2.length)).1],a.2++(layP k ar (n+a.2.length)).2)) a=(a.1++(layL ar (n+a.2.length) ks).1,a.2++(layL ar (n+a.2.length) ks).2)
 | [],a=>by simp [layL]
 | k::ks,a=>by
  rw [List.foldl_cons,layL_acc ar n ks];have e:layL ar (n+a.2.length) (k::ks)=ks.foldl (fun (b:List Nat × List Nd) k=>(b.1++[(layP k ar (n+a.2.length+b.2.length)).1],b.2++(layP k ar (n+a.2.length+b.2.length)).2)) ([(layP k ar (n+a.2.length)).1],(layP k ar (n+a.2.length)).2):=rfl
  rw [e,layL_acc ar (n+a.2.length) ks];simp only [List.length_append,List.append_assoc,Nat.add_assoc]
theorem layL_cons(ar:Ar)(n:Nat)(k:Ty)(ks:List Ty):layL ar n (k::ks)=((layP k ar n).1::(layL ar (n+(layP k ar n).2.length) ks).1,(layP k ar n).2++(layL ar (n+(layP k ar n).2.length) ks).2):=by
 have e:layL ar n (k::ks)=ks.foldl (fun (b:List Nat × List Nd) k=>(b.1++[(layP k ar (n+b.2.length)).1],b.2++(layP k ar (n+b.2.length)).2)) ([(layP k ar n).1],(layP k ar n).2):=rfl
 rw [e,layL_acc ar n ks];rfl
def inG(G:List Nd)(n:Nat)(l:List Nd):Prop:=∀i x,l[i]? = some x→G[n+i]? = some x
theorem inG.left{G:List Nd}{n:Nat}{l l':List Nd}(h:inG G n (l++l')):inG G n l:=fun i x hx=>h i x (by
 rw [List.getElem?_append_left (List.getElem?_eq_some_iff.1 hx).1];exact hx)
theorem inG.right{G:List Nd}{n:Nat}{l l':List Nd}(h:inG G n (l++l')):inG G (n+l.length) l':=fun i x hx=>by
 rw [Nat.add_assoc];exact h _ x (by rw [List.getElem?_append_right (by omega),Nat.add_sub_cancel_left];exact hx)
theorem lay_idx:∀t:Ty,gdT t→idT t=false→∀ar n,(layP t ar n).1=n:=by
 apply tyInd
 intro t ih hg hi ar n;by_cases h9:t.kind=9
 ·rw [idT_var t h9]at hi;cases hi
 by_cases h8:t.kind=8
 ·obtain ⟨q,hq,hgq,hiq⟩:=rec_parts hg h8
  rw [layP_rec t ar n h8 q hq];exact ih q (by rw [hq];exact .head _) hgq hiq _ n
 ·rw [layP_node t ar n h9 h8]
theorem meant_snoc(ar:Ar)(x y:ByteArray)(n:Nat):meantP y (ar++[(x,n)])=if x=y then n else meantP y ar:=by
 unfold meantP;rw [List.foldl_append];rfl
def envG(G:List Nd)(ar:Ar):ByteArray→Dn:=fun x k=>gT G k (meantP x ar)
theorem env_snoc(G:List Nd)(ar:Ar)(x:ByteArray)(n:Nat):envG G (ar++[(x,n)])=upD (envG G ar) x (fun k=>gT G k n):=by
 funext y k
 unfold envG upD;rw [meant_snoc];by_cases h:x=y
 ·rw [if_pos h,if_pos h.symm]
 ·rw [if_neg h,if_neg (fun e=>h e.symm)]
theorem nodeAt_some{G:List Nd}{n:Nat}{x:Nd}(h:G[n]? = some x):nodeAt G n=x:=by unfold nodeAt;rw [h];rfl
theorem lay_den(G:List Nd):∀t:Ty,gdT t→∀ar n,inG G n (layP t ar n).2→den t (envG G ar)=fun k=>gT G k (layP t ar n).1:=by
 apply tyInd
 intro t ih hg ar n hin;obtain ⟨hp,_,hk⟩:=(gdT_eq t).1 hg;by_cases h9:t.kind=9
 ·rw [den_var t _ h9,layP_var t ar n h9];rfl
 by_cases h8:t.kind=8
 ·obtain ⟨q,hq,hgq,hiq⟩:=rec_parts hg h8
  have hm:q∈t.kids:=by rw [hq];exact .head _
  rw [layP_rec t ar n h8 q hq]at hin ⊢;have h1:=ih q hm hgq (ar++[(t.name,n)]) n hin;rw [lay_idx q hgq hiq]at h1 ⊢;rw [env_snoc]at h1;exact (den_one hg h8 hq (envG G ar) h1.symm).symm
 ·rw [den_node t _ h9 h8]
  rw [layP_node t ar n h9 h8]at hin ⊢;have h0:=nodeAt_some (hin 0 _ rfl);have hin1:inG G (n+1) (layL ar (n+1) t.kids).2:=fun i x hx=>by
   have:=hin (i+1) x hx;rw [show n+(i+1)=n+1+i by omega]at this
   exact this
  have hall:∀(ks:List Ty) (m:Nat),(∀q∈ks,q∈t.kids)→inG G m (layL ar m ks).2→(ks.map fun q=>den q (envG G ar))=(layL ar m ks).1.map fun x k=>gT G k x:=by
   intro ks;induction ks with
   | nil=>intro m _ _;rfl
   | cons q ks ihk =>
    intro m hm hin;rw [layL_cons]at hin ⊢;rw [List.map_cons,List.map_cons,ih q (hm q (.head _)) (hk q (hm q (.head _))) ar m hin.left,ihk _ (fun x hx=>hm x (.tail _ hx)) hin.right]
  funext k
  cases k with
  | zero=>rfl
  | succ k =>
   rw [hall t.kids (n+1) (fun q hq=>hq) hin1]
   show stD _ _ _ _ (k+1)=gT G (k+1) n
   rw [gT_succ,Nat.add_zero]at *;rw [h0];simp only [stD,List.map_map];rfl
theorem lay_pos:∀t:Ty,gdT t→idT t=false→∀ar n,0<(layP t ar n).2.length:=by
 apply tyInd
 intro t ih hg hi ar n;by_cases h9:t.kind=9
 ·rw [idT_var t h9]at hi;cases hi
 by_cases h8:t.kind=8
 ·obtain ⟨q,hq,hgq,hiq⟩:=rec_parts hg h8
  rw [layP_rec t ar n h8 q hq];exact ih q (by rw [hq];exact .head _) hgq hiq _ n
 ·rw [layP_node t ar n h9 h8];simp
theorem lay_shut(N:Nat):∀t:Ty,gdT t→∀ar n ns,clT t ns→(∀x∈ns,meantP x ar<N)→n+(layP t ar n).2.length≤N→(idT t=false→n<N→(layP t ar n).1<N)∧(idT t=true→(layP t ar n).1<N)∧∀x∈(layP t ar n).2,∀y∈x.to,y<N:=by
 apply tyInd
 intro t ih hg ar n ns hc hns hN;obtain ⟨hp,_,hk⟩:=(gdT_eq t).1 hg;obtain ⟨c1,c2⟩:=(clT_eq t ns).1 hc;by_cases h9:t.kind=9
 ·rw [layP_var t ar n h9]
  exact ⟨fun h=>by (rw [idT_var t h9]at h;cases h),fun _=>hns _ (c1 h9),fun x hx=>by cases hx⟩
 by_cases h8:t.kind=8
 ·obtain ⟨q,hq,hgq,hiq⟩:=rec_parts hg h8
  have hm:q∈t.kids:=by rw [hq];exact .head _
  have hcq:=c2 q hm;rw [if_pos h8]at hcq;rw [layP_rec t ar n h8 q hq]at hN ⊢;have hnN:n<N:=by have:=lay_pos q hgq hiq (ar++[(t.name,n)]) n;omega
  have h1:=ih q hm hgq (ar++[(t.name,n)]) n (ns++[t.name]) hcq (fun x hx=>by
   rw [meant_snoc];split
   ·exact hnN
   ·rename_i hne
    rcases List.mem_append.1 hx with hx|hx
    ·exact hns x hx
    ·exact absurd (List.mem_singleton.1 hx).symm hne) hN
  refine ⟨fun _ _=>h1.1 hiq hnN,fun h=>?_,h1.2.2⟩
  rw [idT_rec t h8 q hq,hiq]at h;cases h
 ·rw [layP_node t ar n h9 h8]at hN ⊢
  simp only [List.length_cons]at hN;have hall:∀(ks:List Ty) (m:Nat),(∀q∈ks,q∈t.kids)→m+(layL ar m ks).2.length≤N→(∀y∈(layL ar m ks).1,y<N)∧∀x∈(layL ar m ks).2,∀y∈x.to,y<N:=by
   intro ks;induction ks with
   | nil=>intro m _ _;exact ⟨fun y hy=>(by cases hy),fun x hx=>(by cases hx)⟩
   | cons q ks ihk =>
    intro m hm hN;rw [layL_cons]at hN ⊢;simp only [List.length_append]at hN;have hcq:=c2 q (hm q (.head _));rw [if_neg h8]at hcq;have hgq:=hk q (hm q (.head _));obtain ⟨a1,a2,a3⟩:=ih q (hm q (.head _)) hgq ar m ns hcq hns (by omega)
    obtain ⟨b1,b2⟩:=ihk (m+(layP q ar m).2.length) (fun x hx=>hm x (.tail _ hx)) (by omega)
    have hq1:(layP q ar m).1<N:=by
     cases hi:idT q with
     | true=>exact a2 hi
     | false =>
      exact a1 hi (by have:=lay_pos q hgq hi ar m;omega)
    refine ⟨fun y hy=>?_,fun x hx=>?_⟩
    ·rcases List.mem_cons.1 hy with rfl|hy
     ·exact hq1
     ·exact b1 y hy
    ·rcases List.mem_append.1 hx with hx|hx
     ·exact a3 x hx
     ·exact b2 x hx
  obtain ⟨a1,a2⟩:=hall t.kids (n+1) (fun q hq=>hq) (by omega)
  refine ⟨fun _ h=>h,fun h=>by (rw [idT_node t h9 h8]at h;cases h),fun x hx=>?_⟩
  rcases List.mem_cons.1 hx with rfl|hx
  ·exact a1
  ·exact a2 x hx
theorem lay_parts(Q:Nd→Prop)(hQ:∀t:Ty,partT t=true→t.kind≠9→t.kind≠8→∀tos:List Nat,tos.length=t.kids.length→Q ⟨t.kind,t.so,t.labels,tos⟩):∀t:Ty,gdT t→∀ar n,∀x∈(layP t ar n).2,Q x:=by
 apply tyInd
 intro t ih hg ar n;obtain ⟨hp,_,hk⟩:=(gdT_eq t).1 hg;by_cases h9:t.kind=9
 ·rw [layP_var t ar n h9];intro x hx;cases hx
 by_cases h8:t.kind=8
 ·obtain ⟨q,hq,hgq,hiq⟩:=rec_parts hg h8
  rw [layP_rec t ar n h8 q hq];exact ih q (by rw [hq];exact .head _) hgq _ n
 ·rw [layP_node t ar n h9 h8]
  have hall:∀(ks:List Ty) (m:Nat),(∀q∈ks,q∈t.kids)→∀x∈(layL ar m ks).2,Q x:=by
   intro ks;induction ks with
   | nil=>intro m _ x hx;cases hx
   | cons q ks ihk =>
    intro m hm x hx;rw [layL_cons]at hx;rcases List.mem_append.1 hx with hx|hx
    ·exact ih q (hm q (.head _)) (hk q (hm q (.head _))) ar m x hx
    ·exact ihk _ (fun x hx=>hm x (.tail _ hx)) x hx
  intro x hx;rcases List.mem_cons.1 hx with rfl|hx
  ·exact hQ t hp h9 h8 _ (layL_len ar (n+1) t.kids)
  ·exact hall t.kids (n+1) (fun q hq=>hq) x hx
theorem isNm_size{l:ByteArray}(h:isNm l.data.toList=true):l.size≠0∧l.size≤1000:=by
 have e:l.size=l.data.toList.length:=by rw [Array.length_toList];rfl
 unfold isNm at h;split at h
 ·cases h
 ·rw [Bool.and_eq_true,decide_eq_true_eq]at h
  omega
theorem labsOK_all{ls:List ByteArray}(h:labsOK ls=true):ls.length≤6∧∀l∈ls,l.size≠0∧l.size≤1000:=by
 unfold labsOK at h;rw [Bool.and_eq_true,decide_eq_true_eq,List.all_eq_true]at h;refine ⟨h.1.2,fun l hl=>?_⟩
 obtain ⟨i,hi,rfl⟩:=List.mem_iff_getElem.1 hl;have:=h.2 i (List.mem_range.2 hi);unfold labAt at this;rw [Bool.and_eq_true,getD_at ls i hi]at this;exact isNm_size this.1
theorem part_shp{t:Ty}(hp:partT t=true)(h9:t.kind≠9)(h8:t.kind≠8)(tos:List Nat)(hl:tos.length=t.kids.length):shpN ⟨t.kind,t.so,t.labels,tos⟩:=by
 unfold partT at hp;unfold shpN in64z;simp only;split at hp
 ·rename_i h
  simp only [Bool.and_eq_true,decide_eq_true_eq]at hp;have hn:t.labels=[]:=List.length_eq_zero_iff.1 hp.1.2;exact ⟨.inl ⟨h,by omega,hn⟩,by (rw [hn];intro l hl;cases hl),by omega⟩
 split at hp
 ·rename_i h
  simp only [Bool.and_eq_true,decide_eq_true_eq]at hp;have hn:t.labels=[]:=List.length_eq_zero_iff.1 hp.1.2;exact ⟨.inr (.inl ⟨h,by omega,hn⟩),by (rw [hn];intro l hl;cases hl),by omega⟩
 split at hp
 ·rename_i h
  simp only [Bool.and_eq_true,decide_eq_true_eq]at hp;have hn:t.labels=[]:=List.length_eq_zero_iff.1 hp.1.2;exact ⟨.inr (.inr (.inl ⟨h,by omega,hn⟩)),by (rw [hn];intro l hl;cases hl),by omega⟩
 split at hp
 ·rename_i h
  simp only [Bool.and_eq_true,decide_eq_true_eq]at hp;obtain ⟨a1,a2⟩:=labsOK_all hp.1.2;exact ⟨.inr (.inr (.inr ⟨h,by omega,a1⟩)),a2,by omega⟩
 ·cases hp
theorem lay_gr{t:Ty}(h:chkTy t=0):GR1 (layP t [] 0).2∧den t (fun _ _=>tr0)=fun k=>gT (layP t [] 0).2 k 0:=by
 obtain ⟨hg,hc,hi⟩:=chkTy_gd t h;obtain ⟨hw,hs⟩:=chkTy_good t h;have hl:=lay_size t hw [] 0;have h1:=lay_shut (layP t [] 0).2.length t hg [] 0 [] hc (fun x hx=>by cases hx) (by omega)
 have h2:=lay_den (layP t [] 0).2 t hg [] 0 (fun i x hx=>by rw [Nat.zero_add];exact hx)
 rw [lay_idx t hg hi]at h2;refine ⟨⟨?_,by omega,lay_parts shpN (fun t hp h9 h8 tos hl=>part_shp hp h9 h8 tos hl) t hg [] 0,fun x hx y hy=>h1.2.2 x hx y hy⟩,?_⟩
 ·exact lay_pos t hg hi [] 0
 ·rw [← h2]
  exact den_cl t hw [] _ _ hc (fun x hx=>by cases hx)
def endT:Ty:=⟨1,0,⟨#[]⟩,[],[]⟩
def okN(n:Nd):Prop:=partT ⟨n.kind,n.so,⟨#[]⟩,n.labs,n.to.map fun _=>endT⟩=true
theorem okN_cases{n:Nd}(h:okN n):(n.kind=1∧n.so=0∧n.labs=[]∧n.to.length=0)∨((n.kind=2∨n.kind=3)∧(n.so=1∨n.so=2∨n.so=3)∧n.labs=[]∧n.to.length=1)∨((n.kind=4∨n.kind=5)∧n.so=0∧n.labs=[]∧n.to.length=2)∨((n.kind=6∨n.kind=7)∧n.so=0∧labsOK n.labs=true∧n.to.length=n.labs.length):=by
 unfold okN partT at h;simp only at h;split at h
 ·simp only [Bool.and_eq_true,decide_eq_true_eq,List.length_map]at h
  exact .inl ⟨‹_›,h.1.1.1,List.length_eq_zero_iff.1 h.1.2,h.2⟩
 split at h
 ·simp only [Bool.and_eq_true,decide_eq_true_eq,List.length_map]at h
  exact .inr (.inl ⟨‹_›,h.1.1.1,List.length_eq_zero_iff.1 h.1.2,h.2⟩)
 split at h
 ·simp only [Bool.and_eq_true,decide_eq_true_eq,List.length_map]at h
  exact .inr (.inr (.inl ⟨‹_›,h.1.1.1,List.length_eq_zero_iff.1 h.1.2,h.2⟩))
 split at h
 ·simp only [Bool.and_eq_true,decide_eq_true_eq,List.length_map]at h
  exact .inr (.inr (.inr ⟨‹_›,h.1.1.1,h.1.2,h.2⟩))
 split at h
 ·simp only [Bool.and_eq_true,decide_eq_true_eq]at h
  exact absurd h.1.1.2 (by decide)
 split at h
 ·simp only [Bool.and_eq_true,decide_eq_true_eq]at h
  exact absurd h.1.1.2 (by decide)
 ·cases h
theorem okN_shp{n:Nd}(h:okN n):shpN n:=by
 have hc:=okN_cases h;have:=part_shp (t:=⟨n.kind,n.so,⟨#[]⟩,n.labs,n.to.map fun _=>endT⟩) h (by simp only;omega) (by simp only;omega) n.to (by simp)
 exact this
theorem part_okN{t:Ty}(hp:partT t=true)(h9:t.kind≠9)(h8:t.kind≠8)(tos:List Nat)(hl:tos.length=t.kids.length):okN ⟨t.kind,t.so,t.labels,tos⟩:=by
 unfold okN partT;unfold partT at hp;simp only [List.length_map,hl];rw [if_neg h8,if_neg h9]at hp;rw [if_neg h8,if_neg h9];have he:(⟨#[]⟩:ByteArray).toList.isEmpty=true:=by rw [ByteArray.toList_eq];rfl
 rw [he];split
 ·rename_i h;rw [if_pos h]at hp;simp only [Bool.and_eq_true]at hp ⊢;exact ⟨⟨⟨hp.1.1.1,trivial⟩,hp.1.2⟩,hp.2⟩
 rename_i g1;rw [if_neg g1]at hp
 split
 ·rename_i h;rw [if_pos h]at hp;simp only [Bool.and_eq_true]at hp ⊢;exact ⟨⟨⟨hp.1.1.1,trivial⟩,hp.1.2⟩,hp.2⟩
 rename_i g2;rw [if_neg g2]at hp
 split
 ·rename_i h;rw [if_pos h]at hp;simp only [Bool.and_eq_true]at hp ⊢;exact ⟨⟨⟨hp.1.1.1,trivial⟩,hp.1.2⟩,hp.2⟩
 rename_i g3;rw [if_neg g3]at hp
 split
 ·rename_i h;rw [if_pos h]at hp;simp only [Bool.and_eq_true]at hp ⊢;exact ⟨⟨⟨hp.1.1.1,trivial⟩,hp.1.2⟩,hp.2⟩
 rename_i g4;rw [if_neg g4]at hp
 exact hp
def ltB(a b:ByteArray):Prop:=a.toList<b.toList
theorem ltB_trans{a b c:ByteArray}(h:ltB a b)(h2:ltB b c):ltB a c:=List.lt_trans h h2
theorem ltB_irr(a:ByteArray):¬ltB a a:=List.lt_irrefl _
theorem leB_no{a b:ByteArray}(h:leB a b=false):ltB b a:=by
 unfold leB at h;rw [Bool.or_eq_false_iff,bytesLess_eq]at h;have h1:¬a.toList<b.toList:=by simpa using h.1
 have h2:a.toList≠b.toList:=by simpa using h.2
 rcases Std.Trichotomous.rel_or_eq_or_rel_swap (r:=(· < · : List UInt8→List UInt8→Prop)) (a:=a.toList) (b:=b.toList) with h'|h'|h'
 ·exact absurd h' h1
 ·exact absurd h' h2
 ·exact h'
def rises(ls:List ByteArray):Prop:=ls.Pairwise ltB
theorem rises_of{ls:List ByteArray}(h:labsOK ls=true):rises ls:=by
 unfold labsOK at h;rw [Bool.and_eq_true,List.all_eq_true]at h;have hst:∀i (hi:i+1<ls.length),ltB ls[i] ls[i+1]:=by
  intro i hi;have:=h.2 (i+1) (List.mem_range.2 hi);unfold labAt at this;rw [Bool.and_eq_true,getD_at ls (i+1) hi,Nat.add_sub_cancel,getD_at ls i (by omega)]at this
  have h2:=this.2;simp at h2;exact leB_no h2
 have hall:∀d i (hi:i+d+1<ls.length),ltB ls[i] ls[i+d+1]:=by
  intro d;induction d with
  | zero=>intro i hi;exact hst i hi
  | succ d ih=>intro i hi;exact ltB_trans (ih i (by omega)) (hst (i+d+1) (by omega))
 unfold rises;rw [List.pairwise_iff_getElem];intro i j hi hj hij;have:=hall (j - i - 1) i (by omega)
 have e:i+(j - i - 1)+1=j:=by omega
 simp only [e]at this;exact this
theorem okN_rises{n:Nd}(h:okN n):rises n.labs:=by
 rcases okN_cases h with ⟨_,_,h3,_⟩|⟨_,_,h3,_⟩|⟨_,_,h3,_⟩|⟨_,_,h3,_⟩
 ·rw [h3];exact List.Pairwise.nil
 ·rw [h3];exact List.Pairwise.nil
 ·rw [h3];exact List.Pairwise.nil
 ·exact rises_of h3
theorem rises_inj{ls:List ByteArray}(h:rises ls){i j:Nat}(hi:i<ls.length)(hj:j<ls.length)(e:ls[i]=ls[j]):i=j:=by
 unfold rises at h;rw [List.pairwise_iff_getElem]at h;rcases Nat.lt_trichotomy i j with h1|h1|h1
 ·have:=h i j hi hj h1;rw [e]at this;exact absurd this (ltB_irr _)
 ·exact h1
 ·have:=h j i hj hi h1;rw [e]at this;exact absurd this (ltB_irr _)
theorem rises_ext:∀ {l l':List ByteArray},rises l→rises l'→(∀x,x∈l↔x∈l')→l=l'
 | [],[],_,_,_=>rfl
 | [],b::l',_,_,h=>absurd ((h b).2 (.head _)) (by simp)
 | a::l,[],_,_,h=>absurd ((h a).1 (.head _)) (by simp)
 | a::l,b::l',h1,h2,h=>by
  have p1:=List.pairwise_cons.1 h1;have p2:=List.pairwise_cons.1 h2;have e:a=b:=by
   rcases List.mem_cons.1 ((h a).1 (.head _)) with e|ha
   ·exact e
   ·rcases List.mem_cons.1 ((h b).2 (.head _)) with e|hb
    ·exact e.symm
    ·exact absurd (ltB_trans (p1.1 b hb) (p2.1 a ha)) (ltB_irr _)
  subst e;rw [rises_ext p1.2 p2.2 (fun x=>?_)]
  constructor
  ·intro hx
   rcases List.mem_cons.1 ((h x).1 (.tail _ hx)) with rfl|hx'
   ·exact absurd (p1.1 x hx) (ltB_irr _)
   ·exact hx'
  ·intro hx
   rcases List.mem_cons.1 ((h x).2 (.tail _ hx)) with rfl|hx'
   ·exact absurd (p2.1 x hx) (ltB_irr _)
   ·exact hx'
def okI(m n:Nd):Prop:=m.kind=n.kind∧m.so=n.so∧if m.kind=7 then ∀l∈m.labs,l∈n.labs else ∀l∈n.labs,l∈m.labs
def toAt(n:Nd)(i:Nat):Nat:=(n.to[i]?).getD 0
def bl:Nat→List Nd→List Nd→Nat→Nat→Prop
 | 0,_,_,_,_=>True
 | k+1,g,h,i,j=>okI (nodeAt g i) (nodeAt h j)∧((nodeAt g i).kind=2∨(nodeAt g i).kind=3→bl k g h (toAt (nodeAt g i) 0) (toAt (nodeAt h j) 0)) ∧
  ((nodeAt g i).kind=4→bl k h g (toAt (nodeAt h j) 0) (toAt (nodeAt g i) 0)∧bl k g h (toAt (nodeAt g i) 1) (toAt (nodeAt h j) 1)) ∧
  ((nodeAt g i).kind=5→bl k g h (toAt (nodeAt g i) 0) (toAt (nodeAt h j) 0)∧bl k g h (toAt (nodeAt g i) 1) (toAt (nodeAt h j) 1)) ∧
  ∀(x y:Nat) (l:ByteArray),(nodeAt g i).labs[x]? = some l→(nodeAt h j).labs[y]? = some l→bl k g h (toAt (nodeAt g i) x) (toAt (nodeAt h j) y)
theorem bl_succ(k:Nat)(g h:List Nd)(i j:Nat):bl (k+1) g h i j↔okI (nodeAt g i) (nodeAt h j)∧((nodeAt g i).kind=2∨(nodeAt g i).kind=3→bl k g h (toAt (nodeAt g i) 0) (toAt (nodeAt h j) 0)) ∧
  ((nodeAt g i).kind=4→bl k h g (toAt (nodeAt h j) 0) (toAt (nodeAt g i) 0)∧bl k g h (toAt (nodeAt g i) 1) (toAt (nodeAt h j) 1)) ∧
  ((nodeAt g i).kind=5→bl k g h (toAt (nodeAt g i) 0) (toAt (nodeAt h j) 0)∧bl k g h (toAt (nodeAt g i) 1) (toAt (nodeAt h j) 1)) ∧
  ∀(x y:Nat) (l:ByteArray),(nodeAt g i).labs[x]? = some l→(nodeAt h j).labs[y]? = some l→bl k g h (toAt (nodeAt g i) x) (toAt (nodeAt h j) y):=Iff.rfl
structure GN(g:List Nd):Prop where
 pos:0<g.length
 le:g.length≤200
 ok:∀n∈g,okN n
 shut:shutG g
theorem GN.at_{g:List Nd}(h:GN g){i:Nat}(hi:i<g.length):okN (nodeAt g i):=by rw [nodeAt_lt g i hi];exact h.ok _ (List.getElem_mem hi)
theorem GN.to_{g:List Nd}(h:GN g){i:Nat}(x:Nat)(hx:x<(nodeAt g i).to.length):toAt (nodeAt g i) x<g.length:=by
 unfold toAt;rw [List.getElem?_eq_getElem hx];exact shut_at h.shut i _ (List.getElem_mem hx)
theorem GN.gr{g:List Nd}(h:GN g):GR1 g:=⟨h.pos,by have:=h.le;omega,fun n hn=>okN_shp (h.ok n hn),h.shut⟩
theorem okN_len{n:Nd}(h:okN n):(n.kind=2∨n.kind=3→0<n.to.length)∧(n.kind=4∨n.kind=5→1<n.to.length)∧(∀x,x<n.labs.length→x<n.to.length):=by
 rcases okN_cases h with ⟨h1,_,h3,h4⟩|⟨h1,_,h3,h4⟩|⟨h1,_,h3,h4⟩|⟨h1,_,h3,h4⟩
 ·exact ⟨fun _=>by omega,fun _=>by omega,fun x hx=>by rw [h3]at hx;simp at hx⟩
 ·exact ⟨fun _=>by omega,fun _=>by omega,fun x hx=>by rw [h3]at hx;simp at hx⟩
 ·exact ⟨fun _=>by omega,fun _=>by omega,fun x hx=>by rw [h3]at hx;simp at hx⟩
 ·exact ⟨fun _=>by omega,fun _=>by omega,fun x hx=>by omega⟩
theorem okI_trans{m n p:Nd}(h:okI m n)(h2:okI n p):okI m p:=by
 obtain ⟨a1,a2,a3⟩:=h;obtain ⟨b1,b2,b3⟩:=h2;refine ⟨a1.trans b1,a2.trans b2,?_⟩;rw [← a1]at b3;split
 ·rename_i h7;rw [if_pos h7]at a3 b3;exact fun l hl=>b3 l (a3 l hl)
 ·rename_i h7;rw [if_neg h7]at a3 b3;exact fun l hl=>a3 l (b3 l hl)
theorem bl_trans:∀(k:Nat) (f g h:List Nd) (i j l:Nat),bl k f g i j→bl k g h j l→bl k f h i l
 | 0,_,_,_,_,_,_,_,_=>trivial
 | k+1,f,g,h,i,j,l,h1,h2=>by
  rw [bl_succ]at h1 h2 ⊢;obtain ⟨a1,a2,a3,a4,a5⟩:=h1;obtain ⟨b1,b2,b3,b4,b5⟩:=h2;have hk:=a1.1;refine ⟨okI_trans a1 b1,fun h=>?_,fun h=>?_,fun h=>?_,fun x z lb hx hz=>?_⟩
  ·exact bl_trans k _ _ _ _ _ _ (a2 h) (b2 (by rw [← hk];exact h))
  ·exact ⟨bl_trans k _ _ _ _ _ _ (b3 (by rw [← hk];exact h)).1 (a3 h).1,bl_trans k _ _ _ _ _ _ (a3 h).2 (b3 (by rw [← hk];exact h)).2⟩
  ·exact ⟨bl_trans k _ _ _ _ _ _ (a4 h).1 (b4 (by rw [← hk];exact h)).1,bl_trans k _ _ _ _ _ _ (a4 h).2 (b4 (by rw [← hk];exact h)).2⟩
  ·have hm:lb∈(nodeAt g j).labs:=by
    by_cases h7:(nodeAt f i).kind=7
    ·have:=a1.2.2;rw [if_pos h7]at this;exact this lb (List.mem_of_getElem? hx)
    ·have:=b1.2.2;rw [← hk,if_neg h7]at this;exact this lb (List.mem_of_getElem? hz)
   obtain ⟨y,hy,e⟩:=List.mem_iff_getElem.1 hm;have hy':(nodeAt g j).labs[y]? = some lb:=by rw [List.getElem?_eq_getElem hy,e]
   exact bl_trans k _ _ _ _ _ _ (a5 x y lb hx hy') (b5 y z lb hy' hz)
theorem rises_idx{ls:List ByteArray}(h:rises ls){x y:Nat}{l:ByteArray}(hx:ls[x]? = some l)(hy:ls[y]? = some l):x=y:=by
 obtain ⟨h1,e1⟩:=List.getElem?_eq_some_iff.1 hx;obtain ⟨h2,e2⟩:=List.getElem?_eq_some_iff.1 hy;exact rises_inj h h1 h2 (e1.trans e2.symm)
theorem to_alike{g h:List Nd}{k i j:Nat}(e:(nodeAt g i).to.map (gT g k)=(nodeAt h j).to.map (gT h k)){x:Nat}(hx:x<(nodeAt g i).to.length):gT g k (toAt (nodeAt g i) x)=gT h k (toAt (nodeAt h j) x):=by
 have hl:(nodeAt g i).to.length=(nodeAt h j).to.length:=by have:=congrArg List.length e;simpa using this
 have:=List.getElem_of_eq e (i:=x) (by simpa using hx)
 unfold toAt;rw [List.getElem?_eq_getElem hx,List.getElem?_eq_getElem (by omega)]
 simpa using this
theorem bl_alike:∀(k:Nat) (g h:List Nd) (i j:Nat),GN g→GN h→i<g.length→j<h.length→gT g k i=gT h k j→bl k g h i j
 | 0,_,_,_,_,_,_,_,_,_=>trivial
 | k+1,g,h,i,j,hg,hh,hi,hj,e=>by
  rw [gT_eq_iff]at e;obtain ⟨e1,e2,e3,e4⟩:=e;have ng:=hg.at_ hi;have nh:=hh.at_ hj;have lg:=okN_len ng;have lh:=okN_len nh;rw [bl_succ];refine ⟨⟨e1,e2,by rw [e3];split <;> exact fun l hl=>hl⟩,fun h'=>?_,fun h'=>?_,fun h'=>?_,fun x y lb hx hy=>?_⟩
  ·exact bl_alike k g h _ _ hg hh (hg.to_ 0 (lg.1 h')) (hh.to_ 0 (lh.1 (by rw [← e1];exact h'))) (to_alike e4 (lg.1 h'))
  ·have q:=lg.2.1 (.inl h')
   have q2:=lh.2.1 (by rw [← e1];exact .inl h')
   exact ⟨bl_alike k h g _ _ hh hg (hh.to_ 0 (by omega)) (hg.to_ 0 (by omega)) (to_alike e4 (by omega)).symm,bl_alike k g h _ _ hg hh (hg.to_ 1 q) (hh.to_ 1 q2) (to_alike e4 q)⟩
  ·have q:=lg.2.1 (.inr h')
   have q2:=lh.2.1 (by rw [← e1];exact .inr h')
   exact ⟨bl_alike k g h _ _ hg hh (hg.to_ 0 (by omega)) (hh.to_ 0 (by omega)) (to_alike e4 (by omega)),bl_alike k g h _ _ hg hh (hg.to_ 1 q) (hh.to_ 1 q2) (to_alike e4 q)⟩
  ·rw [← e3]at hy
   obtain rfl:=rises_idx (okN_rises ng) hx hy;have q:=lg.2.2 x (List.getElem?_eq_some_iff.1 hx).1;have hl:(nodeAt g i).to.length=(nodeAt h j).to.length:=by have:=congrArg List.length e4;simpa using this
   exact bl_alike k g h _ _ hg hh (hg.to_ x q) (hh.to_ x (by omega)) (to_alike e4 q)
abbrev Pl:=Nat × Nat × Bool
abbrev Stp:=ByteArray × Pl
abbrev Av:=Stp × Nat
def dotB:ByteArray:=⟨#[46]⟩
def capB:ByteArray:=⟨#[94]⟩
def labAtN(n:Nd)(i:Nat):ByteArray:=(n.labs[i]?).getD ⟨#[]⟩
def idxB(ls:List ByteArray)(l:ByteArray):Nat:=ls.findIdx fun x=>decide (x=l)
theorem idxB_lt{ls:List ByteArray}{l:ByteArray}(h:l∈ls):idxB ls l<ls.length:=List.findIdx_lt_length_of_exists ⟨l,h,by simp⟩
theorem idxB_at{ls:List ByteArray}{l:ByteArray}(h:idxB ls l<ls.length):ls[idxB ls l]=l:=by
 have:=List.findIdx_getElem (w:=h);rw [decide_eq_true_eq]at this;exact this
def labSt(m n:Nd)(t:Bool)(i:Nat):Option Stp:=if hasN n.labs (labAtN m i)=true then some (labAtN m i,toAt m i,toAt n (idxB n.labs (labAtN m i)),t) else none
def stepsP(m n:Nd)(t:Bool):List Stp :=
 if m.kind=2∨m.kind=3 then [(dotB,toAt m 0,toAt n 0,t)]
 else if m.kind=4∨m.kind=5 then [(capB,toAt m 0,toAt n 0,t != decide (m.kind=4)),(dotB,toAt m 1,toAt n 1,t)]
 else (List.range m.labs.length).filterMap (labSt m n t)
def okP(g h:List Nd)(p:Pl):Prop:=if p.2.2=true then okI (nodeAt h p.2.1) (nodeAt g p.1) else okI (nodeAt g p.1) (nodeAt h p.2.1)
def blP(g h:List Nd)(k:Nat)(p:Pl):Prop:=if p.2.2=true then bl k h g p.2.1 p.1 else bl k g h p.1 p.2.1
theorem mem_lab{m n:Nd}{t:Bool}{s:Stp}:s∈(List.range m.labs.length).filterMap (labSt m n t)↔∃x l,m.labs[x]? = some l∧l∈n.labs∧s=(l,toAt m x,toAt n (idxB n.labs l),t):=by
 rw [List.mem_filterMap];constructor
 ·rintro ⟨x,hx,e⟩
  have hx':x<m.labs.length:=List.mem_range.1 hx;have el:labAtN m x=m.labs[x]:=by unfold labAtN;rw [List.getElem?_eq_getElem hx'];rfl
  unfold labSt at e;rw [el]at e;split at e
  ·rename_i hm
   exact ⟨x,m.labs[x],List.getElem?_eq_getElem hx',(hasN_iff _ _).1 hm,(Option.some.inj e).symm⟩
  ·cases e
 ·rintro ⟨x,l,hx,hm,rfl⟩
  obtain ⟨hx',e⟩:=List.getElem?_eq_some_iff.1 hx;have el:labAtN m x=l:=by unfold labAtN;rw [hx];rfl
  exact ⟨x,List.mem_range.2 hx',by unfold labSt;rw [el,if_pos ((hasN_iff _ _).2 hm)]⟩
theorem idx_rises{ls:List ByteArray}(h:rises ls){y:Nat}{l:ByteArray}(hy:ls[y]? = some l):idxB ls l=y:=by
 have hm:=List.mem_of_getElem? hy;have h1:=idxB_lt hm;have h2:=idxB_at h1;obtain ⟨h3,e⟩:=List.getElem?_eq_some_iff.1 hy;exact rises_inj h h1 h3 (h2.trans e.symm)
theorem blP_step{g h:List Nd}(hg:GN g)(hh:GN h){p:Pl}(h1:p.1<g.length)(h2:p.2.1<h.length){k:Nat}(ho:okP g h p)(hs:∀s∈stepsP (nodeAt g p.1) (nodeAt h p.2.1) p.2.2,blP g h k s.2):blP g h (k+1) p:=by
 obtain ⟨a,b,t⟩:=p;have ra:=okN_rises (hg.at_ h1);have rb:=okN_rises (hh.at_ h2);have oa:=okN_cases (hg.at_ h1);simp only at hs ra rb oa h1 h2;have hnl:(nodeAt g a).kind=2∨(nodeAt g a).kind=3∨(nodeAt g a).kind=4∨(nodeAt g a).kind=5→(nodeAt g a).labs=[]:=fun hk=>by
  rcases oa with ⟨_,_,h,_⟩|⟨_,_,h,_⟩|⟨_,_,h,_⟩|⟨h,_⟩
  ·exact h
  ·exact h
  ·exact h
  ·omega
 cases t with
 | false =>
  unfold okP at ho;unfold blP;simp only [Bool.false_eq_true,if_false]at ho ⊢;rw [bl_succ];unfold stepsP at hs;refine ⟨ho,fun hk=>?_,fun hk=>?_,fun hk=>?_,fun x y l hx hy=>?_⟩
  ·rw [if_pos hk]at hs
   have:=hs _ (.head _);simpa [blP] using this
  ·rw [if_neg (by omega),if_pos (.inl hk)]at hs
   have q1:=hs _ (.head _);have q2:=hs _ (.tail _ (.head _));rw [hk]at q1;exact ⟨by simpa [blP] using q1,by simpa [blP] using q2⟩
  ·rw [if_neg (by omega),if_pos (.inr hk)]at hs
   have q1:=hs _ (.head _);have q2:=hs _ (.tail _ (.head _));rw [hk]at q1;exact ⟨by simpa [blP] using q1,by simpa [blP] using q2⟩
  ·have hk:¬((nodeAt g a).kind=2∨(nodeAt g a).kind=3)∧¬((nodeAt g a).kind=4∨(nodeAt g a).kind=5):=by
    constructor <;> intro hk <;> (rw [hnl (by omega)]at hx;simp at hx)
   rw [if_neg hk.1,if_neg hk.2]at hs;have:=hs _ (mem_lab.2 ⟨x,l,hx,List.mem_of_getElem? hy,rfl⟩);rw [idx_rises rb hy]at this;simpa [blP] using this
 | true =>
  unfold okP at ho;unfold blP;simp only [if_true]at ho ⊢;rw [bl_succ];unfold stepsP at hs;have hkk:=ho.1;refine ⟨ho,fun hk=>?_,fun hk=>?_,fun hk=>?_,fun x y l hx hy=>?_⟩
  ·rw [hkk]at hk
   rw [if_pos hk]at hs;have:=hs _ (.head _);simpa [blP] using this
  ·rw [hkk]at hk
   rw [if_neg (by omega),if_pos (.inl hk)]at hs
   have q1:=hs _ (.head _);have q2:=hs _ (.tail _ (.head _));rw [hk]at q1;exact ⟨by simpa [blP] using q1,by simpa [blP] using q2⟩
  ·rw [hkk]at hk
   rw [if_neg (by omega),if_pos (.inr hk)]at hs
   have q1:=hs _ (.head _);have q2:=hs _ (.tail _ (.head _));rw [hk]at q1;exact ⟨by simpa [blP] using q1,by simpa [blP] using q2⟩
  ·have hk:¬((nodeAt g a).kind=2∨(nodeAt g a).kind=3)∧¬((nodeAt g a).kind=4∨(nodeAt g a).kind=5):=by
    constructor <;> intro hk <;> (rw [hnl (by omega)]at hy;simp at hy)
   rw [if_neg hk.1,if_neg hk.2]at hs;have:=hs _ (mem_lab.2 ⟨y,l,hy,List.mem_of_getElem? hx,rfl⟩);rw [idx_rises rb hx]at this;simpa [blP] using this
theorem blP_next{g h:List Nd}{p:Pl}{k:Nat}(hb:blP g h (k+1) p):okP g h p∧∀s∈stepsP (nodeAt g p.1) (nodeAt h p.2.1) p.2.2,blP g h k s.2:=by
 obtain ⟨a,b,t⟩:=p;cases t with
 | false =>
  unfold blP at hb;simp only [Bool.false_eq_true,if_false]at hb ⊢;rw [bl_succ]at hb;obtain ⟨b1,b2,b3,b4,b5⟩:=hb;refine ⟨by unfold okP;simpa using b1,fun s hs=>?_⟩
  unfold stepsP at hs;split at hs
  ·rename_i hk
   rw [List.mem_singleton]at hs;subst hs;simpa [blP] using b2 hk
  split at hs
  ·rename_i hk
   rcases hk with hk|hk
   ·rw [hk]at hs
    rcases List.mem_cons.1 hs with rfl|hs
    ·simpa [blP] using (b3 hk).1
    ·rw [List.mem_singleton]at hs;subst hs
     simpa [blP] using (b3 hk).2
   ·rw [hk]at hs
    rcases List.mem_cons.1 hs with rfl|hs
    ·simpa [blP] using (b4 hk).1
    ·rw [List.mem_singleton]at hs;subst hs
     simpa [blP] using (b4 hk).2
  ·obtain ⟨x,l,hx,hm,rfl⟩:=mem_lab.1 hs
   have h1:=idxB_lt hm;have:=b5 x _ l hx (by rw [List.getElem?_eq_getElem h1,idxB_at h1])
   simpa [blP] using this
 | true =>
  unfold blP at hb;simp only [if_true]at hb ⊢;rw [bl_succ]at hb;obtain ⟨b1,b2,b3,b4,b5⟩:=hb;have hkk:=b1.1;refine ⟨by unfold okP;simpa using b1,fun s hs=>?_⟩
  unfold stepsP at hs;split at hs
  ·rename_i hk
   rw [List.mem_singleton]at hs;subst hs;simpa [blP] using b2 (by rw [hkk];exact hk)
  split at hs
  ·rename_i hk
   rcases hk with hk|hk
   ·rw [hk]at hs
    rcases List.mem_cons.1 hs with rfl|hs
    ·simpa [blP] using (b3 (by rw [hkk];exact hk)).1
    ·rw [List.mem_singleton]at hs;subst hs
     simpa [blP] using (b3 (by rw [hkk];exact hk)).2
   ·rw [hk]at hs
    rcases List.mem_cons.1 hs with rfl|hs
    ·simpa [blP] using (b4 (by rw [hkk];exact hk)).1
    ·rw [List.mem_singleton]at hs;subst hs
     simpa [blP] using (b4 (by rw [hkk];exact hk)).2
  ·obtain ⟨x,l,hx,hm,rfl⟩:=mem_lab.1 hs
   have h1:=idxB_lt hm;have:=b5 _ x l (by rw [List.getElem?_eq_getElem h1,idxB_at h1]) hx
   simpa [blP] using this
theorem mem_upTo{α : Type} [Inhabited α] [DecidableEq α] (d:Array α) (x : α):∀m,x∈Lib.compactUpTo d m↔∃j,j<m∧d[j]! = x
 | 0=>by simp [Lib.compactUpTo]
 | m+1=>by
  rw [Lib.compactUpTo_succ,List.mem_append,mem_upTo d x m];constructor
  ·rintro (⟨j,hj,e⟩|h)
   ·exact ⟨j,by omega,e⟩
   ·split at h
    ·simp only [List.mem_singleton]at h;exact ⟨m,by omega,h.symm⟩
    ·cases h
  ·rintro ⟨j,hj,e⟩
   by_cases h:j<m
   ·exact .inl ⟨j,h,e⟩
   ·have hm:j=m:=by omega
    subst hm;by_cases hk:Lib.keeps d j=true
    ·right;rw [if_pos hk,e];exact .head _
    ·left
     have h0:¬(j=0∨d[j]! ≠ d[j - 1]!):=fun hh=>hk (by unfold Lib.keeps;exact decide_eq_true hh)
     refine ⟨j - 1,by omega,?_⟩
     rw [← e];exact (Decidable.not_not.1 fun hh=>h0 (.inr hh)).symm
theorem mem_compact{α : Type} [Inhabited α] [DecidableEq α] (zs:List α) (x : α):x∈Lib.compact zs↔x∈zs:=by
 unfold Lib.compact;rw [mem_upTo];constructor
 ·rintro ⟨j,hj,rfl⟩
  simp [getElem!_pos,hj]
 ·intro h
  obtain ⟨j,hj,rfl⟩:=List.mem_iff_getElem.1 h;exact ⟨j,hj,by simp [getElem!_pos,hj]⟩
def srtN(ns:List ByteArray):List (List UInt8):=Lib.compact ((ns.map (·.data.toList)).mergeSort fun x y=>decide (x≤y))
theorem mem_srtN(ns:List ByteArray)(x:ByteArray):x.data.toList∈srtN ns↔x∈ns:=by
 unfold srtN;rw [mem_compact,(List.mergeSort_perm _ _).mem_iff,List.mem_map];constructor
 ·rintro ⟨y,hy,e⟩
  have:y=x:=by
   cases y;cases x
   simp only [ByteArray.mk.injEq]at *;exact Array.ext' e
  exact this ▸ hy
 ·intro h;exact ⟨x,h,rfl⟩
end Go.Proofs.YtnedgkcejlhnbaaGreatDoor
