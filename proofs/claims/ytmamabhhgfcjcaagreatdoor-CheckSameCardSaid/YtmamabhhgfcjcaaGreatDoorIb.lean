/-
  How a type is laid as a graph (plain); the names around it with their nodes: graph.meant, slices.Clip, append.
-/
import Derived.Test.YtmamabhhgfcjcaaGreatDoorHm
set_option maxRecDepth 100000
set_option maxHeartbeats 2000000
namespace Go.Proofs.YtmamabhhgfcjcaaGreatDoor
open Go.RowKit Go.Shelf
abbrev Ar:=List (ByteArray × Nat)
def meantP(nm:ByteArray)(ar:Ar):Nat:=ar.foldl (fun a p=>if p.1=nm then p.2 else a) 0
def layP:Ty→Ar→Nat→Nat × List Nd
 | ⟨kd,so,nm,ls,ks⟩,ar,n =>
  if kd=9 then (meantP nm ar,[])
  else if kd=8 then ks.foldl (fun _ k=>layP k (ar++[(nm,n)]) n) (0,[])
  else (n,⟨kd,so,ls,(ks.foldl (fun (a:List Nat × List Nd) k=>(a.1++[(layP k ar (n+1+a.2.length)).1],a.2++(layP k ar (n+1+a.2.length)).2)) ([],[])).1⟩::(ks.foldl (fun (a:List Nat × List Nd) k=>(a.1++[(layP k ar (n+1+a.2.length)).1],a.2++(layP k ar (n+1+a.2.length)).2)) ([],[])).2)
def layL(ar:Ar)(n:Nat)(ks:List Ty):List Nat × List Nd:=ks.foldl (fun (a:List Nat × List Nd) k=>(a.1++[(layP k ar (n+a.2.length)).1],a.2++(layP k ar (n+a.2.length)).2)) ([],[])
theorem layP_var(t:Ty)(ar:Ar)(n:Nat)(h:t.kind=9):layP t ar n=(meantP t.name ar,[]):=by cases t;rw [layP,if_pos h]
theorem layP_rec(t:Ty)(ar:Ar)(n:Nat)(h:t.kind=8)(k:Ty)(hk:t.kids=[k]):layP t ar n=layP k (ar++[(t.name,n)]) n:=by
 cases t
 simp only at h hk;subst h hk;rw [layP,if_neg (by decide),if_pos rfl]
 rfl
theorem layP_node(t:Ty)(ar:Ar)(n:Nat)(h9:t.kind≠9)(h8:t.kind≠8):layP t ar n=(n,⟨t.kind,t.so,t.labels,(layL ar (n+1) t.kids).1⟩::(layL ar (n+1) t.kids).2):=by
 cases t
 rw [layP,if_neg h9,if_neg h8];rfl
theorem layL_snoc(ar:Ar)(n:Nat)(ks:List Ty)(k:Ty):layL ar n (ks++[k])=((layL ar n ks).1++[(layP k ar (n+(layL ar n ks).2.length)).1],(layL ar n ks).2++(layP k ar (n+(layL ar n ks).2.length)).2):=by
 unfold layL;rw [List.foldl_append];rfl
theorem layL_len(ar:Ar)(n:Nat):∀ks:List Ty,(layL ar n ks).1.length=ks.length:=by
 have:∀(ks:List Ty) (a:List Nat × List Nd),(ks.foldl (fun (a:List Nat × List Nd) k=>(a.1++[(layP k ar (n+a.2.length)).1],a.2++(layP k ar (n+a.2.length)).2)) a).1.length=a.1.length+ks.length:=by
  intro ks;induction ks with
  | nil=>intro a;rfl
  | cons k ks ih=>intro a;rw [List.foldl_cons,ih];simp;omega
 intro ks;unfold layL;rw [this];simp
theorem lay_size:∀t:Ty,wfT t→∀ar n,(layP t ar n).2.length≤sizeT t:=by
 apply tyInd
 intro t ih hw ar n;have hs:=sizeT_eq t;obtain ⟨hp,hk⟩:=(wfT_eq t).1 hw;by_cases h9:t.kind=9
 ·rw [layP_var t ar n h9];simp
 ·by_cases h8:t.kind=8
  ·have h1:t.kids.length=1:=by
    unfold partT at hp;simp [h8]at hp;exact hp.2
   match hq:t.kids,h1 with
   | [k],_ =>
    rw [layP_rec t ar n h8 k hq];have:=ih k (by rw [hq];exact .head _) (hk k (by rw [hq];exact .head _)) (ar++[(t.name,n)]) n
    rw [hq]at hs;simp at hs;omega
  ·rw [layP_node t ar n h9 h8]
   have:∀(ks:List Ty),(∀k∈ks,k∈t.kids)→∀(a:List Nat × List Nd),(ks.foldl (fun (a:List Nat × List Nd) k=>(a.1++[(layP k ar (n+1+a.2.length)).1],a.2++(layP k ar (n+1+a.2.length)).2)) a).2.length≤a.2.length+(ks.map sizeT).sum:=by
    intro ks;induction ks with
    | nil=>intro _ a;simp
    | cons k ks ih2 =>
     intro hm a;rw [List.foldl_cons];refine Nat.le_trans (ih2 (fun x hx=>hm x (.tail _ hx)) _) ?_
     have:=ih k (hm k (.head _)) (hk k (hm k (.head _))) ar (n+1+a.2.length);simp only [List.length_append,List.map_cons,List.sum_cons];omega
   have h:=this t.kids (fun k hk=>hk) ([],[])
   simp only [List.length_cons];unfold layL;simp at h;omega
def MR(W:World)(pg:Nat)(row:Option Nat)(ar:Ar)(aa:OAd)(ca:Nat):Prop :=
 (ar=[]∧aa=none∧ca=0)∨(ar.length≤ca∧∃b o,aa=some ⟨b,o,none⟩∧b<W.heap.size∧b≠pg∧row≠some b∧∀i (h:i<ar.length),W.cell? ⟨b,o+i*2,none⟩=some (.string ar[i].1)∧W.cell? ⟨b,o+i*2+1,none⟩=some (.int .i64 (ar[i].2:Int)))
theorem MR.clip{W:World}{pg:Nat}{row:Option Nat}{ar:Ar}{aa:OAd}{ca:Nat}(h:MR W pg row ar aa ca):MR W pg row ar aa ar.length:=by
 rcases h with ⟨rfl,rfl,_⟩|⟨_,h⟩
 ·exact .inl ⟨rfl,rfl,rfl⟩
 ·exact .inr ⟨nR _,h⟩
theorem MR.keep{W W':World}{pg:Nat}{row row':Option Nat}{ar:Ar}{aa:OAd}{ca:Nat}(h:MR W pg row ar aa ca)(hf:RF pg pg row W W')(hn:row'=row∨∀k,row'=some k→W.heap.size≤k):MR W' pg row' ar aa ca :=
 h.imp id fun ⟨hc,b,o,e,hl,hp,hr,hcell⟩=>⟨hc,b,o,e,nL hl hf.size,hp,fresh_ne hn hl hr,fun i hi=>⟨(hf.cell hl hp hp (fun e=>hr e.symm)).trans (hcell i hi).1,(hf.cell hl hp hp (fun e=>hr e.symm)).trans (hcell i hi).2⟩⟩
theorem RF.of{fb rb:Nat}{row:Option Nat}{w w':World}(h:Below w.heap.size w w'):RF fb rb row w w':=⟨h.os,h.tape,h.output,h.size,fun k hk _ _ _=>h.block k hk⟩
theorem RF.trans{fb rb:Nat}{row row':Option Nat}{a b c:World}(h:RF fb rb row a b)(k:RF fb rb row' b c)(hn:row'=row∨∀j,row'=some j→a.heap.size≤j):RF fb rb row a c :=
 ⟨k.os.trans h.os,k.tape.trans h.tape,k.output.trans h.output,Nat.le_trans h.size k.size,fun i hi h1 h2 h3=>(k.block i (nL hi h.size) h1 h2 (fun e=>fresh_ne hn hi (fun q=>h3 q.symm) e.symm)).trans (h.block i hi h1 h2 h3)⟩
theorem meant_any(nm:ByteArray)(ar:Ar)(aa:OAd)(ca pg:Nat)(row:Option Nat)(w:World)(h:MR w pg row ar aa ca)(hl:ar.length≤1000):
  Calls Tryz.prog 86 #[.string nm,.slice aa ar.length ca] w fun e w'=>e = .returned (.int .i64 (meantP nm ar:Int))∧Below w.heap.size w w':=by
 have hlz:(ar.length:Int)≤1000:=by omega
 go_enter Tryz.func86,Tryz.ntmps86
 go_wp2_with fail
 go_loopw [5,10] (fun z i wr=>∃k:Nat,k≤ar.length∧i = .int .i64 (k:Int)∧z = .int .i64 (meantP nm (ar.take k):Int)∧Below w.heap.size w wr) (fun _ i _=>ar.length - (intOf i).toNat)
 case atStart=>exact ⟨0,Nat.zero_le _,rfl,rfl,Below.refl _ _⟩
 case round =>
  obtain ⟨k,hk,rfl,rfl,hb⟩:=hrel;by_cases hlt:k<ar.length
  ·have hltz:(k:Int)<(ar.length:Int):=by omega
   obtain ⟨_,b,o,rfl,hbl,_,_,hc⟩:=h.resolve_left (fun q=>by rw [q.1]at hlt;simp at hlt)
   have d0:=(hb.cell (p:=⟨b,o+k*2,none⟩) hbl).trans (hc k hlt).1;have d1:=(hb.cell (p:=⟨b,o+k*2+1,none⟩) hbl).trans (hc k hlt).2;have HT:=hideK (show meantP nm (ar.take (k+1))=if ar[k].1=nm then ar[k].2 else meantP nm (ar.take k) from by unfold meantP;rw [List.take_succ_eq_append_getElem hlt,List.foldl_append];rfl)
   have HB:=hideK hb;clear hb hc;by_cases he:ar[k].1=nm
   ·have heb:(ar[k].1.toList==nm.toList)=true:=by rw [he];simp
    rw [if_pos he]at HT;have HB2:=hideK (show Below w.heap.size w (wr.alloc (.cells #[.string ar[k].1,.int .i64 (ar[k].2:Int)] 152)) from HB.out.alloc HB.out.size _)
    clear he;go_wp2_with fail
    go_roundw
    case rel=>exact ⟨k+1,by omega,by go_num,by rw [HT.out],HB2.out⟩
    case measure=>simp [intOf];omega
   ·have heb:(ar[k].1.toList==nm.toList)=false:=by rw [ba_beq];simpa using he
    rw [if_neg he]at HT;have HB2:=hideK (show Below w.heap.size w (wr.alloc (.cells #[.string ar[k].1,.int .i64 (ar[k].2:Int)] 152)) from HB.out.alloc HB.out.size _)
    clear he;go_wp2_with fail
    go_roundw
    case rel=>exact ⟨k+1,by omega,by go_num,by rw [HT.out],HB2.out⟩
    case measure=>simp [intOf];omega
  ·have hltz:¬(k:Int)<(ar.length:Int):=by omega
   have hkl:k=ar.length:=by omega
   subst hkl;rw [List.take_length];go_wp2_with fail
   go_ret
   exact ⟨rfl,hb⟩
theorem clipM_any(ar:Ar)(aa:OAd)(ca pg:Nat)(row:Option Nat)(w0 w:World)(h:MR w0 pg row ar aa ca)(hl:ar.length≤1000):
  Calls Tryz.prog 87 #[.slice aa ar.length ca] w fun e w'=>e = .returned (.slice aa ar.length ar.length)∧w'=w:=by
 have hz:(ar.length:Int)≤1000:=by omega
 rcases h with ⟨rfl,rfl,rfl⟩|⟨hc,b,o,rfl,_,_,_⟩
 ·go_enter Tryz.func87,Tryz.ntmps87
  go_wp2_with fail
  go_ret
  exact ⟨rfl,rfl⟩
 ·have hcz:(ar.length:Int)≤(ca:Int):=by omega
  go_enter Tryz.func87,Tryz.ntmps87
  go_wp2_with fail
  go_ret
  exact ⟨rfl,rfl⟩
theorem layL_acc(ar:Ar)(n:Nat):∀(ks:List Ty) (a:List Nat × List Nd),ks.foldl (fun (a:List Nat × List Nd) k=>(a.1++[(layP k ar (n+a.2.length)).1],a.2++(layP k ar (n+a.2.length)).2)) a=(a.1++(layL ar (n+a.2.length) ks).1,a.2++(layL ar (n+a.2.length) ks).2)
 | [],a=>by simp [layL]
 | k::ks,a=>by
  rw [List.foldl_cons,layL_acc ar n ks];have e:layL ar (n+a.2.length) (k::ks)=ks.foldl (fun (b:List Nat × List Nd) k=>(b.1++[(layP k ar (n+a.2.length+b.2.length)).1],b.2++(layP k ar (n+a.2.length+b.2.length)).2)) ([(layP k ar (n+a.2.length)).1],(layP k ar (n+a.2.length)).2):=rfl
  rw [e,layL_acc ar (n+a.2.length) ks];simp only [List.length_append,List.append_assoc,Nat.add_assoc]
theorem layL_cons(ar:Ar)(n:Nat)(k:Ty)(ks:List Ty):layL ar n (k::ks)=((layP k ar n).1::(layL ar (n+(layP k ar n).2.length) ks).1,(layP k ar n).2++(layL ar (n+(layP k ar n).2.length) ks).2):=by
 have e:layL ar n (k::ks)=ks.foldl (fun (b:List Nat × List Nd) k=>(b.1++[(layP k ar (n+b.2.length)).1],b.2++(layP k ar (n+b.2.length)).2)) ([(layP k ar n).1],(layP k ar n).2):=rfl
 rw [e,layL_acc ar n ks];rfl
def inG(G:List Nd)(n:Nat)(l:List Nd):Prop:=∀i x,l[i]? = some x→G[n+i]? = some x
theorem inG.left{G:List Nd}{n:Nat}{l l':List Nd}(h:inG G n (l++l')):inG G n l:=fun i x hx=>h i x (by
 rw [List.getElem?_append_left (List.getElem?_eq_some_iff.1 hx).1];exact hx)
theorem inG.right{G:List Nd}{n:Nat}{l l':List Nd}(h:inG G n (l++l')):inG G (n+l.length) l':=fun i x hx=>by
 rw [Nat.add_assoc];exact h _ x (by rw [List.getElem?_append_right (by omega),Nat.add_sub_cancel_left];exact hx)
theorem lay_idx:∀t:Ty,gdT t→idT t=false→∀ar n,(layP t ar n).1=n:=by
 apply tyInd
 intro t ih hg hi ar n;by_cases h9:t.kind=9
 ·rw [idT_var t h9]at hi;cases hi
 by_cases h8:t.kind=8
 ·obtain ⟨q,hq,hgq,hiq⟩:=rec_parts hg h8
  rw [layP_rec t ar n h8 q hq];exact ih q (by rw [hq];exact .head _) hgq hiq _ n
 ·rw [layP_node t ar n h9 h8]
theorem meant_snoc(ar:Ar)(x y:ByteArray)(n:Nat):meantP y (ar++[(x,n)])=if x=y then n else meantP y ar:=by
 unfold meantP;rw [List.foldl_append];rfl
def envG(G:List Nd)(ar:Ar):ByteArray→Dn:=fun x k=>gT G k (meantP x ar)
theorem env_snoc(G:List Nd)(ar:Ar)(x:ByteArray)(n:Nat):envG G (ar++[(x,n)])=upD (envG G ar) x (fun k=>gT G k n):=by
 funext y k
 unfold envG upD;rw [meant_snoc];by_cases h:x=y
 ·rw [if_pos h,if_pos h.symm]
 ·rw [if_neg h,if_neg (fun e=>h e.symm)]
theorem nodeAt_some{G:List Nd}{n:Nat}{x:Nd}(h:G[n]? = some x):nodeAt G n=x:=by unfold nodeAt;rw [h];rfl
theorem lay_den(G:List Nd):∀t:Ty,gdT t→∀ar n,inG G n (layP t ar n).2→den t (envG G ar)=fun k=>gT G k (layP t ar n).1:=by
 apply tyInd
 intro t ih hg ar n hin;obtain ⟨hp,_,hk⟩:=(gdT_eq t).1 hg;by_cases h9:t.kind=9
 ·rw [den_var t _ h9,layP_var t ar n h9];rfl
 by_cases h8:t.kind=8
 ·obtain ⟨q,hq,hgq,hiq⟩:=rec_parts hg h8
  have hm:q∈t.kids:=by rw [hq];exact .head _
  rw [layP_rec t ar n h8 q hq]at hin ⊢;have h1:=ih q hm hgq (ar++[(t.name,n)]) n hin;rw [lay_idx q hgq hiq]at h1 ⊢;rw [env_snoc]at h1;exact (den_one hg h8 hq (envG G ar) h1.symm).symm
 ·rw [den_node t _ h9 h8]
  rw [layP_node t ar n h9 h8]at hin ⊢;have h0:=nodeAt_some (hin 0 _ rfl);have hin1:inG G (n+1) (layL ar (n+1) t.kids).2:=fun i x hx=>by
   have:=hin (i+1) x hx;rw [show n+(i+1)=n+1+i by omega]at this
   exact this
  have hall:∀(ks:List Ty) (m:Nat),(∀q∈ks,q∈t.kids)→inG G m (layL ar m ks).2→(ks.map fun q=>den q (envG G ar))=(layL ar m ks).1.map fun x k=>gT G k x:=by
   intro ks;induction ks with
   | nil=>intro m _ _;rfl
   | cons q ks ihk =>
    intro m hm hin;rw [layL_cons]at hin ⊢;rw [List.map_cons,List.map_cons,ih q (hm q (.head _)) (hk q (hm q (.head _))) ar m hin.left,ihk _ (fun x hx=>hm x (.tail _ hx)) hin.right]
  funext k
  cases k with
  | zero=>rfl
  | succ k =>
   rw [hall t.kids (n+1) (fun q hq=>hq) hin1]
   show stD _ _ _ _ (k+1)=gT G (k+1) n
   rw [gT_succ,Nat.add_zero]at *;rw [h0];simp only [stD,List.map_map];rfl
theorem lay_pos:∀t:Ty,gdT t→idT t=false→∀ar n,0<(layP t ar n).2.length:=by
 apply tyInd
 intro t ih hg hi ar n;by_cases h9:t.kind=9
 ·rw [idT_var t h9]at hi;cases hi
 by_cases h8:t.kind=8
 ·obtain ⟨q,hq,hgq,hiq⟩:=rec_parts hg h8
  rw [layP_rec t ar n h8 q hq];exact ih q (by rw [hq];exact .head _) hgq hiq _ n
 ·rw [layP_node t ar n h9 h8];simp
theorem lay_shut(N:Nat):∀t:Ty,gdT t→∀ar n ns,clT t ns→(∀x∈ns,meantP x ar<N)→n+(layP t ar n).2.length≤N→(idT t=false→n<N→(layP t ar n).1<N)∧(idT t=true→(layP t ar n).1<N)∧∀x∈(layP t ar n).2,∀y∈x.to,y<N:=by
 apply tyInd
 intro t ih hg ar n ns hc hns hN;obtain ⟨hp,_,hk⟩:=(gdT_eq t).1 hg;obtain ⟨c1,c2⟩:=(clT_eq t ns).1 hc;by_cases h9:t.kind=9
 ·rw [layP_var t ar n h9]
  exact ⟨fun h=>by (rw [idT_var t h9]at h;cases h),fun _=>hns _ (c1 h9),fun x hx=>by cases hx⟩
 by_cases h8:t.kind=8
 ·obtain ⟨q,hq,hgq,hiq⟩:=rec_parts hg h8
  have hm:q∈t.kids:=by rw [hq];exact .head _
  have hcq:=c2 q hm;rw [if_pos h8]at hcq;rw [layP_rec t ar n h8 q hq]at hN ⊢;have hnN:n<N:=by have:=lay_pos q hgq hiq (ar++[(t.name,n)]) n;omega
  have h1:=ih q hm hgq (ar++[(t.name,n)]) n (ns++[t.name]) hcq (fun x hx=>by
   rw [meant_snoc];split
   ·exact hnN
   ·rename_i hne
    rcases List.mem_append.1 hx with hx|hx
    ·exact hns x hx
    ·exact absurd (List.mem_singleton.1 hx).symm hne) hN
  refine ⟨fun _ _=>h1.1 hiq hnN,fun h=>?_,h1.2.2⟩
  rw [idT_rec t h8 q hq,hiq]at h;cases h
 ·rw [layP_node t ar n h9 h8]at hN ⊢
  simp only [List.length_cons]at hN;have hall:∀(ks:List Ty) (m:Nat),(∀q∈ks,q∈t.kids)→m+(layL ar m ks).2.length≤N→(∀y∈(layL ar m ks).1,y<N)∧∀x∈(layL ar m ks).2,∀y∈x.to,y<N:=by
   intro ks;induction ks with
   | nil=>intro m _ _;exact ⟨fun y hy=>(by cases hy),fun x hx=>(by cases hx)⟩
   | cons q ks ihk =>
    intro m hm hN;rw [layL_cons]at hN ⊢;simp only [List.length_append]at hN;have hcq:=c2 q (hm q (.head _));rw [if_neg h8]at hcq;have hgq:=hk q (hm q (.head _));obtain ⟨a1,a2,a3⟩:=ih q (hm q (.head _)) hgq ar m ns hcq hns (by omega)
    obtain ⟨b1,b2⟩:=ihk (m+(layP q ar m).2.length) (fun x hx=>hm x (.tail _ hx)) (by omega)
    have hq1:(layP q ar m).1<N:=by
     cases hi:idT q with
     | true=>exact a2 hi
     | false =>
      exact a1 hi (by have:=lay_pos q hgq hi ar m;omega)
    refine ⟨fun y hy=>?_,fun x hx=>?_⟩
    ·rcases List.mem_cons.1 hy with rfl|hy
     ·exact hq1
     ·exact b1 y hy
    ·rcases List.mem_append.1 hx with hx|hx
     ·exact a3 x hx
     ·exact b2 x hx
  obtain ⟨a1,a2⟩:=hall t.kids (n+1) (fun q hq=>hq) (by omega)
  refine ⟨fun _ h=>h,fun h=>by (rw [idT_node t h9 h8]at h;cases h),fun x hx=>?_⟩
  rcases List.mem_cons.1 hx with rfl|hx
  ·exact a1
  ·exact a2 x hx
theorem lay_parts(Q:Nd→Prop)(hQ:∀t:Ty,partT t=true→t.kind≠9→t.kind≠8→∀tos:List Nat,tos.length=t.kids.length→Q ⟨t.kind,t.so,t.labels,tos⟩):∀t:Ty,gdT t→∀ar n,∀x∈(layP t ar n).2,Q x:=by
 apply tyInd
 intro t ih hg ar n;obtain ⟨hp,_,hk⟩:=(gdT_eq t).1 hg;by_cases h9:t.kind=9
 ·rw [layP_var t ar n h9];intro x hx;cases hx
 by_cases h8:t.kind=8
 ·obtain ⟨q,hq,hgq,hiq⟩:=rec_parts hg h8
  rw [layP_rec t ar n h8 q hq];exact ih q (by rw [hq];exact .head _) hgq _ n
 ·rw [layP_node t ar n h9 h8]
  have hall:∀(ks:List Ty) (m:Nat),(∀q∈ks,q∈t.kids)→∀x∈(layL ar m ks).2,Q x:=by
   intro ks;induction ks with
   | nil=>intro m _ x hx;cases hx
   | cons q ks ihk =>
    intro m hm x hx;rw [layL_cons]at hx;rcases List.mem_append.1 hx with hx|hx
    ·exact ih q (hm q (.head _)) (hk q (hm q (.head _))) ar m x hx
    ·exact ihk _ (fun x hx=>hm x (.tail _ hx)) x hx
  intro x hx;rcases List.mem_cons.1 hx with rfl|hx
  ·exact hQ t hp h9 h8 _ (layL_len ar (n+1) t.kids)
  ·exact hall t.kids (n+1) (fun q hq=>hq) x hx
theorem isNm_size{l:ByteArray}(h:isNm l.data.toList=true):l.size≠0∧l.size≤1000:=by
 have e:l.size=l.data.toList.length:=by rw [Array.length_toList];rfl
 unfold isNm at h;split at h
 ·cases h
 ·rw [Bool.and_eq_true,decide_eq_true_eq]at h
  omega
theorem labsOK_all{ls:List ByteArray}(h:labsOK ls=true):ls.length≤6∧∀l∈ls,l.size≠0∧l.size≤1000:=by
 unfold labsOK at h;rw [Bool.and_eq_true,decide_eq_true_eq,List.all_eq_true]at h;refine ⟨h.1.2,fun l hl=>?_⟩
 obtain ⟨i,hi,rfl⟩:=List.mem_iff_getElem.1 hl;have:=h.2 i (List.mem_range.2 hi);unfold labAt at this;rw [Bool.and_eq_true,getD_at ls i hi]at this;exact isNm_size this.1
theorem part_shp{t:Ty}(hp:partT t=true)(h9:t.kind≠9)(h8:t.kind≠8)(tos:List Nat)(hl:tos.length=t.kids.length):shpN ⟨t.kind,t.so,t.labels,tos⟩:=by
 unfold partT at hp;unfold shpN in64z;simp only;split at hp
 ·rename_i h
  simp only [Bool.and_eq_true,decide_eq_true_eq]at hp;have hn:t.labels=[]:=List.length_eq_zero_iff.1 hp.1.2;exact ⟨.inl ⟨h,by omega,hn⟩,by (rw [hn];intro l hl;cases hl),by omega⟩
 split at hp
 ·rename_i h
  simp only [Bool.and_eq_true,decide_eq_true_eq]at hp;have hn:t.labels=[]:=List.length_eq_zero_iff.1 hp.1.2;exact ⟨.inr (.inl ⟨h,by omega,hn⟩),by (rw [hn];intro l hl;cases hl),by omega⟩
 split at hp
 ·rename_i h
  simp only [Bool.and_eq_true,decide_eq_true_eq]at hp;have hn:t.labels=[]:=List.length_eq_zero_iff.1 hp.1.2;exact ⟨.inr (.inr (.inl ⟨h,by omega,hn⟩)),by (rw [hn];intro l hl;cases hl),by omega⟩
 split at hp
 ·rename_i h
  simp only [Bool.and_eq_true,decide_eq_true_eq]at hp;obtain ⟨a1,a2⟩:=labsOK_all hp.1.2;exact ⟨.inr (.inr (.inr ⟨h,by omega,a1⟩)),a2,by omega⟩
 ·cases hp
theorem lay_gr{t:Ty}(h:chkTy t=0):GR1 (layP t [] 0).2∧den t (fun _ _=>tr0)=fun k=>gT (layP t [] 0).2 k 0:=by
 obtain ⟨hg,hc,hi⟩:=chkTy_gd t h;obtain ⟨hw,hs⟩:=chkTy_good t h;have hl:=lay_size t hw [] 0;have h1:=lay_shut (layP t [] 0).2.length t hg [] 0 [] hc (fun x hx=>by cases hx) (by omega)
 have h2:=lay_den (layP t [] 0).2 t hg [] 0 (fun i x hx=>by rw [Nat.zero_add];exact hx)
 rw [lay_idx t hg hi]at h2;refine ⟨⟨?_,by omega,lay_parts shpN (fun t hp h9 h8 tos hl=>part_shp hp h9 h8 tos hl) t hg [] 0,fun x hx y hy=>h1.2.2 x hx y hy⟩,?_⟩
 ·exact lay_pos t hg hi [] 0
 ·rw [← h2]
  exact den_cl t hw [] _ _ hc (fun x hx=>by cases hx)
end Go.Proofs.YtmamabhhgfcjcaaGreatDoor
