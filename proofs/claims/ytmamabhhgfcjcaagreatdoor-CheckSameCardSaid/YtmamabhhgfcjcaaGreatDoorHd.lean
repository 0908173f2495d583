/-
  Plain mathematics: a search that comes to each place once, on the first of the shortest ways; what it tells.
-/
import Derived.Test.YtmamabhhgfcjcaaGreatDoorHc
import Derived.Test.YtmamabhhgfcjcaaGreatDoorOb
import Derived.DeepKeys4
import Derived.WideKeyElems
import Derived.Maps.OwnIn
namespace Go.Proofs.YtmamabhhgfcjcaaGreatDoor
section
variable {α : Type}
abbrev Sg(α : Type):=ByteArray × α
abbrev Ag(α : Type):=Sg α × Nat
def plG(arr:List (Ag α)):List α:=arr.map fun v=>v.1.2
def addG [DecidableEq α] (arr:List (Ag α)) (s:Sg α) (k:Nat):List (Ag α):=if s.2∈plG arr then arr else arr++[(s,k)]
def onG [DecidableEq α] (next : α → List (Sg α)) (k:Nat) (arr:List (Ag α)) (p : α):List (Ag α):=(next p).foldl (fun a s=>addG a s k) arr
def srG [DecidableEq α] (fail : α → Bool) (next : α → List (Sg α)):Nat→Nat→List (Ag α)→Option Nat × List (Ag α)
 | 0,_,arr=>(none,arr)
 | f+1,k,arr=>match arr[k]? with
  | none=>(none,arr)
  | some v=>if fail v.1.2=true then (some k,arr) else srG fail next f (k+1) (onG next k arr v.1.2)
def avG(p : α):Ag α:=((⟨#[]⟩,p),0)
theorem srG_stop [DecidableEq α] {fail : α → Bool} {next : α → List (Sg α)} {f k:Nat} {arr:List (Ag α)} (h:arr.length≤k):srG fail next f k arr=(none,arr):=by
 cases f with
 | zero=>rfl
 | succ f=>unfold srG;rw [List.getElem?_eq_none h]
theorem srG_fail [DecidableEq α] {fail : α → Bool} {next : α → List (Sg α)} {f k:Nat} {arr:List (Ag α)} {v:Ag α} (hv:arr[k]? = some v) (hf:fail v.1.2=true):srG fail next (f+1) k arr=(some k,arr):=by
 unfold srG;rw [hv];simp only;rw [if_pos hf]
theorem srG_go [DecidableEq α] {fail : α → Bool} {next : α → List (Sg α)} {f k:Nat} {arr:List (Ag α)} {v:Ag α} (hv:arr[k]? = some v) (hf:fail v.1.2=false):srG fail next (f+1) k arr=srG fail next f (k+1) (onG next k arr v.1.2):=by
 conv=>lhs;unfold srG
 rw [hv];simp only;rw [if_neg (by rw [hf];decide)]
def rch(fail : α → Bool)(next : α → List (Sg α))(p0 : α):Nat→α → Prop
 | 0,p=>p=p0
 | n+1,p=>∃q,rch fail next p0 n q∧fail q=false∧∃s∈next q,s.2=p
structure WLD(fail : α → Bool)(next : α → List (Sg α))(ok : α → Prop)(num : α → Nat)(M:Nat):Prop where
 step:∀p,ok p→fail p=false→∀s∈next p,ok s.2
 lt:∀p,ok p→num p<M
 inj:∀p q,ok p→ok q→num p=num q→p=q
structure SRg(fail : α → Bool)(next : α → List (Sg α))(ok : α → Prop)(p0 : α)(k:Nat)(arr:List (Ag α)):Prop where
 hd:arr[0]? = some (avG p0)
 nd:(plG arr).Nodup
 lt:∀p∈plG arr,ok p
 done:∀(i:Nat) (v:Ag α),i<k→arr[i]? = some v→fail v.1.2=false∧∀s∈next v.1.2,s.2∈plG arr
 src:∀p∈plG arr,∃n,rch fail next p0 n p
 way:∀(i:Nat) (v:Ag α),arr[i]? = some v→0<i→v.2<i
 few:∀(i:Nat) (v:Ag α),arr[i]? = some v→v.2≤k
variable {fail : α → Bool} {next : α → List (Sg α)} {ok : α → Prop} {num : α → Nat} {M:Nat}
theorem SRg.start{p0 : α}(h:ok p0):SRg fail next ok p0 0 [avG p0] :=
 ⟨rfl,by simp [plG],fun p hp=>by
  have:p=p0:=by simpa [plG,avG] using hp
  subst this;exact h,fun i v hi=>absurd hi (Nat.not_lt_zero _),fun p hp=>by
  have:p=p0:=by simpa [plG,avG] using hp
  subst this;exact ⟨0,rfl⟩,fun i v hv hi=>by
  cases i with
  | zero=>omega
  | succ i=>simp at hv,fun i v hv=>by
  cases i with
  | zero=>simp at hv;subst hv;exact nR _
  | succ i=>simp at hv⟩
theorem SRg.len(hW:WLD fail next ok num M){p0 : α}{k:Nat}{arr:List (Ag α)}(hs:SRg fail next ok p0 k arr):arr.length≤M:=by
 have hn:((plG arr).map num).Nodup:=by
  have:∀l:List α,(∀p∈l,ok p)→l.Nodup→(l.map num).Nodup:=by
   intro l;induction l with
   | nil=>intro _ _;exact List.nodup_nil
   | cons p l ih =>
    intro hl hn;rw [List.nodup_cons]at hn;rw [List.map_cons,List.nodup_cons];refine ⟨fun hm=>?_,ih (fun q hq=>hl q (.tail _ hq)) hn.2⟩
    obtain ⟨q,hq,e⟩:=List.mem_map.1 hm;rw [hW.inj q p (hl q (.tail _ hq)) (hl p (.head _)) e]at hq;exact hn.1 hq
  exact this _ hs.lt hs.nd
 have:=nodup_le M _ hn (fun x hx=>by
  obtain ⟨p,hp,rfl⟩:=List.mem_map.1 hx;exact hW.lt p (hs.lt p hp))
 simpa [plG] using this
theorem addG_mem [DecidableEq α] (arr:List (Ag α)) (s:Sg α) (k:Nat) (p : α):p∈plG (addG arr s k)↔p∈plG arr∨p=s.2:=by
 unfold addG;split
 ·rename_i hm
  constructor
  ·exact .inl
  ·rintro (h|rfl)
   ·exact h
   ·exact hm
 ·simp [plG]
theorem addG_at [DecidableEq α] {arr:List (Ag α)} {s:Sg α} {k i:Nat} {v:Ag α} (h:(addG arr s k)[i]? = some v):arr[i]? = some v∨(i=arr.length∧v=(s,k)):=by
 unfold addG at h;split at h
 ·exact .inl h
 ·rw [List.getElem?_append]at h
  split at h
  ·exact .inl h
  ·rename_i hi
   have hil:i - arr.length=0:=by
    have:=(List.getElem?_eq_some_iff.1 h).1;simp at this;omega
   rw [hil]at h;simp at h;exact .inr ⟨by omega,h.symm⟩
theorem addG_old [DecidableEq α] {arr:List (Ag α)} {s:Sg α} {k i:Nat} {v:Ag α} (h:arr[i]? = some v):(addG arr s k)[i]? = some v:=by
 unfold addG;split
 ·exact h
 ·rw [List.getElem?_append_left (List.getElem?_eq_some_iff.1 h).1];exact h
theorem SRg.add [DecidableEq α] (hW:WLD fail next ok num M) {p0 : α} {k:Nat} {arr:List (Ag α)} (hs:SRg fail next ok p0 k arr) {s:Sg α} {u:Ag α} (hk:arr[k]? = some u) (hf:fail u.1.2=false) (hm:s∈next u.1.2):SRg fail next ok p0 k (addG arr s k):=by
 have hmu:u.1.2∈plG arr:=List.mem_map.2 ⟨u,List.mem_of_getElem? hk,rfl⟩;refine ⟨addG_old hs.hd,?_,fun p hp=>?_,fun i v hi hv=>?_,fun p hp=>?_,fun i v hv h0=>?_,fun i v hv=>?_⟩
 ·unfold addG
  split
  ·exact hs.nd
  ·rename_i hn
   have e:plG (arr++[(s,k)])=plG arr++[s.2]:=by simp [plG]
   rw [e,List.nodup_append];refine ⟨hs.nd,by simp,fun a ha b hb=>?_⟩
   rw [List.mem_singleton]at hb;subst hb;rintro rfl;exact hn ha
 ·rcases (addG_mem arr s k p).1 hp with h1|rfl
  ·exact hs.lt p h1
  ·exact hW.step _ (hs.lt _ hmu) hf s hm
 ·rcases addG_at hv with h1|⟨rfl,_⟩
  ·have:=hs.done i v hi h1
   exact ⟨this.1,fun q hq=>(addG_mem arr s k _).2 (.inl (this.2 q hq))⟩
  ·have:=(List.getElem?_eq_some_iff.1 hk).1
   omega
 ·rcases (addG_mem arr s k p).1 hp with h1|rfl
  ·exact hs.src p h1
  ·obtain ⟨n,hn⟩:=hs.src u.1.2 hmu
   exact ⟨n+1,u.1.2,hn,hf,s,hm,rfl⟩
 ·rcases addG_at hv with h1|⟨rfl,rfl⟩
  ·exact hs.way i v h1 h0
  ·exact (List.getElem?_eq_some_iff.1 hk).1
 ·rcases addG_at hv with h1|⟨rfl,rfl⟩
  ·exact hs.few i v h1
  ·exact nR _
theorem foldG [DecidableEq α] {k:Nat}:∀(ss:List (Sg α)) (arr:List (Ag α)),(∀(i:Nat) (v:Ag α),arr[i]? = some v→(ss.foldl (fun arr s=>addG arr s k) arr)[i]? = some v)∧(∀s∈ss,s.2∈plG (ss.foldl (fun arr s=>addG arr s k) arr))∧∀p∈plG arr,p∈plG (ss.foldl (fun arr s=>addG arr s k) arr)
 | [],arr=>⟨fun _ _ h=>h,fun s hs=>(by cases hs),fun _ h=>h⟩
 | s::ss,arr=>by
  obtain ⟨h1,h2,h3⟩:=foldG (k:=k) ss (addG arr s k);refine ⟨fun i v hv=>h1 i v (addG_old hv),fun q hq=>?_,fun p hp=>h3 p ((addG_mem arr s k p).2 (.inl hp))⟩
  rcases List.mem_cons.1 hq with rfl|hq
  ·exact h3 _ ((addG_mem arr q k _).2 (.inr rfl))
  ·exact h2 q hq
theorem SRg.fold [DecidableEq α] (hW:WLD fail next ok num M) {p0 : α} {k:Nat} {u:Ag α} (hf:fail u.1.2=false):∀(ss:List (Sg α)) (arr:List (Ag α)),SRg fail next ok p0 k arr→arr[k]? = some u→(∀s∈ss,s∈next u.1.2)→SRg fail next ok p0 k (ss.foldl (fun arr s=>addG arr s k) arr)
 | [],_,hs,_,_=>hs
 | s::ss,arr,hs,hk,hm=>SRg.fold hW hf ss (addG arr s k) (hs.add hW hk hf (hm s (.head _))) (addG_old hk) (fun q hq=>hm q (.tail _ hq))
theorem SRg.on [DecidableEq α] (hW:WLD fail next ok num M) {p0 : α} {k:Nat} {arr:List (Ag α)} (hs:SRg fail next ok p0 k arr) {u:Ag α} (hk:arr[k]? = some u) (hf:fail u.1.2=false):SRg fail next ok p0 (k+1) (onG next k arr u.1.2):=by
 have h1:=SRg.fold hW hf (next u.1.2) arr hs hk (fun s h=>h)
 obtain ⟨f1,f2,f3⟩:=foldG (k:=k) (next u.1.2) arr;refine ⟨h1.hd,h1.nd,h1.lt,fun i v hi hv=>?_,h1.src,h1.way,fun i v hv=>Nat.le_succ_of_le (h1.few i v hv)⟩
 by_cases e:i=k
 ·subst e
  have:v=u:=by
   have:=f1 i u hk;unfold onG at hv;rw [this]at hv;exact (Option.some.inj hv).symm
  subst this;exact ⟨hf,f2⟩
 ·exact h1.done i v (by omega) hv
def srGA [DecidableEq α] (fail : α → Bool) (next : α → List (Sg α)) (M:Nat) (p0 : α):Option Nat × List (Ag α):=srG fail next M 0 [avG p0]
def wayG(arr:List (Ag α)):Nat→Nat→List ByteArray
 | 0,_=>[]
 | f+1,k=>if k=0 then [] else match arr[k]? with
  | none=>[]
  | some v=>v.1.1::wayG arr f v.2
theorem wayG_step{arr:List (Ag α)}{f k:Nat}{v:Ag α}(h0:k≠0)(hv:arr[k]? = some v):wayG arr (f+1) k=v.1.1::wayG arr f v.2:=by
 conv=>lhs;unfold wayG
 rw [if_neg h0,hv]
theorem wayG_len(arr:List (Ag α))(hw:∀(i:Nat) (v:Ag α),arr[i]? = some v→0<i→v.2<i):∀f k,k<arr.length→(wayG arr f k).length≤k
 | 0,k,_=>by simp [wayG]
 | f+1,k,hk=>by
  by_cases h0:k=0
  ·subst h0;simp [wayG]
  ·have hv:arr[k]? = some arr[k]:=List.getElem?_eq_getElem hk
   have h1:=hw k arr[k] hv (by omega)
   rw [wayG_step h0 hv];have:=wayG_len arr hw f arr[k].2 (by omega)
   simp only [List.length_cons];omega
theorem wayG_fuel{arr:List (Ag α)}(hw:∀(i:Nat) (v:Ag α),arr[i]? = some v→0<i→v.2<i):∀f k,k<arr.length→k≤f→wayG arr f k=wayG arr k k
 | 0,k,_,hf=>by
  obtain rfl:k=0:=by omega
  rfl
 | f+1,0,_,_=>by simp [wayG]
 | f+1,k+1,hk,hf=>by
  have hv:arr[k+1]? = some arr[k+1]:=List.getElem?_eq_getElem hk;have h1:=hw (k+1) arr[k+1] hv (by omega)
  rw [wayG_step (by omega) hv,wayG_step (by omega) hv]
  have e1:=wayG_fuel hw f arr[k+1].2 (by omega) (by omega)
  have e2:=wayG_fuel hw k arr[k+1].2 (by omega) (by omega)
  rw [e1,e2]
def wayGA(arr:List (Ag α))(k:Nat):List ByteArray:=wayG arr k k
theorem wayGA_step{arr:List (Ag α)}(hw:∀(i:Nat) (v:Ag α),arr[i]? = some v→0<i→v.2<i){k:Nat}{v:Ag α}(h0:0<k)(hv:arr[k]? = some v):wayGA arr k=v.1.1::wayGA arr v.2:=by
 have hk:=(List.getElem?_eq_some_iff.1 hv).1;have h1:=hw k v hv h0;obtain ⟨k,rfl⟩:∃j,k=j+1:=⟨k - 1,by omega⟩
 unfold wayGA;rw [wayG_step (by omega) hv,wayG_fuel hw k v.2 (by omega) (by omega)]
end
open Go.RowKit Go.Shelf
def wfT:Ty→Prop
 | ⟨kd,so,nm,ls,ks⟩=>partT ⟨kd,so,nm,ls,ks⟩=true∧∀k∈ks,wfT k
theorem wfT_eq(t:Ty):wfT t↔partT t=true∧∀k∈t.kids,wfT k:=by cases t;rw [wfT]
theorem chkTL_all(ar:List ByteArray)(ks:List Ty):∀(a:Int × Nat),(∀k∈ks,∀ar c,(chkT k ar c).1=0→wfT k∧(chkT k ar c).2=c+sizeT k)→(chkTL ar ks a).1=0→(∀k∈ks,wfT k)∧(chkTL ar ks a).2=a.2+(ks.map sizeT).sum:=by
 induction ks with
 | nil=>intro a _ _;exact ⟨fun k hk=>(by cases hk),rfl⟩
 | cons x ks ih =>
  intro a hk h0;rw [chkTL_cons]at h0 ⊢;by_cases ha:a.1≠0
  ·rw [if_pos ha,chkTL_bad _ _ _ ha]at h0;exact absurd h0 ha
  ·rw [if_neg ha]at h0 ⊢
   by_cases hx:(chkT x ar a.2).1=0
   ·have h1:=hk x (.head _) ar a.2 hx
    have h2:=ih _ (fun k hm=>hk k (.tail _ hm)) h0
    refine ⟨fun k hm=>?_,?_⟩
    ·rcases List.mem_cons.1 hm with rfl|hm
     ·exact h1.1
     ·exact h2.1 k hm
    ·rw [h2.2,h1.2];simp only [List.map_cons,List.sum_cons];omega
   ·rw [chkTL_bad _ _ _ hx]at h0;exact absurd h0 hx
theorem chkT_all:∀t:Ty,∀ar c,(chkT t ar c).1=0→wfT t∧(chkT t ar c).2=c+sizeT t:=by
 apply tyInd
 intro t ih ar c h;have hs:=sizeT_eq t;rw [chkT_eq]at h ⊢;by_cases h1:60<c+1
 ·rw [if_pos h1]at h;exact absurd h (by simp)
 rw [if_neg h1]at h ⊢;by_cases h2:partT t=false
 ·rw [if_pos h2]at h;exact absurd h (by simp)
 rw [if_neg h2]at h ⊢;by_cases h3:t.kind=9∧hasN ar t.name=false
 ·rw [if_pos h3]at h;exact absurd h (by simp)
 rw [if_neg h3]at h ⊢;by_cases h4:t.kind=8∧idleN 65536 t=true
 ·rw [if_pos h4]at h;exact absurd h (by simp)
 rw [if_neg h4]at h ⊢;have:=chkTL_all _ t.kids (0,c+1) ih h;refine ⟨(wfT_eq t).2 ⟨by simpa using h2,this.1⟩,?_⟩
 rw [this.2,hs];simp only;omega
theorem chkTy_good(t:Ty)(h:chkTy t=0):wfT t∧sizeT t≤60:=by
 have h1:=chkT_all t [] 0 h;have h2:=chkT_cnt t [] 0 (by omega) h
 exact ⟨h1.1,by omega⟩
theorem sum_take_le(ks:List Ty)(k:Nat):((ks.take k).map sizeT).sum≤(ks.map sizeT).sum:=by
 conv=>rhs;rw [← List.take_append_drop k ks]
 rw [List.map_append,List.sum_append];omega
abbrev Dn:=Nat→Tr
def tr0:Tr:=⟨0,0,[],[]⟩
def itD(F:Dn→Dn):Nat→Dn
 | 0=>fun _=>tr0
 | n+1=>F (itD F n)
def upD(r:ByteArray→Dn)(x:ByteArray)(f:Dn):ByteArray→Dn:=fun y=>if y=x then f else r y
def stD(kd so:Int)(ls:List ByteArray)(fs:List Dn):Dn
 | 0=>tr0
 | k+1=>⟨kd,so,ls,fs.map fun f=>f k⟩
def den:Ty→(ByteArray→Dn)→Dn
 | ⟨kd,so,nm,ls,ks⟩,r =>
  if kd=9 then r nm
  else if kd=8 then ks.foldl (fun _ q=>fun k=>itD (fun f=>den q (upD r nm f)) (k+1) k) (fun _=>tr0)
  else stD kd so ls (ks.map fun q=>den q r)
theorem den_var(t:Ty)(r:ByteArray→Dn)(h:t.kind=9):den t r=r t.name:=by cases t;rw [den,if_pos h]
theorem den_rec(t:Ty)(r:ByteArray→Dn)(h:t.kind=8)(q:Ty)(hk:t.kids=[q]):den t r=fun k=>itD (fun f=>den q (upD r t.name f)) (k+1) k:=by
 cases t
 simp only at h hk;subst h hk;rw [den,if_neg (by decide),if_pos rfl]
 rfl
theorem den_node(t:Ty)(r:ByteArray→Dn)(h9:t.kind≠9)(h8:t.kind≠8):den t r=stD t.kind t.so t.labels (t.kids.map fun q=>den q r):=by
 cases t
 rw [den,if_neg h9,if_neg h8]
def idT:Ty→Bool
 | ⟨kd,_,_,_,ks⟩=>if kd=9 then true else if kd=8 then ks.foldl (fun _ q=>idT q) false else false
theorem idT_var(t:Ty)(h:t.kind=9):idT t=true:=by cases t;rw [idT,if_pos h]
theorem idT_rec(t:Ty)(h:t.kind=8)(q:Ty)(hk:t.kids=[q]):idT t=idT q:=by
 cases t
 simp only at h hk;subst h hk;rw [idT,if_neg (by decide),if_pos rfl]
 rfl
theorem idT_node(t:Ty)(h9:t.kind≠9)(h8:t.kind≠8):idT t=false:=by
 cases t
 rw [idT,if_neg h9,if_neg h8]
def gdT:Ty→Prop
 | ⟨kd,so,nm,ls,ks⟩=>partT ⟨kd,so,nm,ls,ks⟩=true∧(kd=8→idT ⟨kd,so,nm,ls,ks⟩=false)∧∀k∈ks,gdT k
theorem gdT_eq(t:Ty):gdT t↔partT t=true∧(t.kind=8→idT t=false)∧∀k∈t.kids,gdT k:=by cases t;rw [gdT]
theorem gdT_wf:∀t:Ty,gdT t→wfT t:=by
 apply tyInd
 intro t ih h;obtain ⟨h1,_,h3⟩:=(gdT_eq t).1 h;exact (wfT_eq t).2 ⟨h1,fun k hk=>ih k hk (h3 k hk)⟩
def clT:Ty→List ByteArray→Prop
 | ⟨kd,_,nm,_,ks⟩,ns=>(kd=9→nm∈ns)∧∀k∈ks,clT k (if kd=8 then ns++[nm] else ns)
theorem clT_eq(t:Ty)(ns:List ByteArray):clT t ns↔(t.kind=9→t.name∈ns)∧∀k∈t.kids,clT k (if t.kind=8 then ns++[t.name] else ns):=by cases t;rw [clT]
theorem part_rec{t:Ty}(hp:partT t=true)(h8:t.kind=8):∃q,t.kids=[q]:=by
 have h1:t.kids.length=1:=by
  unfold partT at hp;simp [h8]at hp;exact hp.2
 match hq:t.kids,h1 with
 | [q],_=>exact ⟨q,rfl⟩
theorem idle_idT:∀t:Ty,wfT t→∀n,sizeT t≤n→idleN n t=idT t:=by
 apply tyInd
 intro t ih hw n hn;obtain ⟨hp,hk⟩:=(wfT_eq t).1 hw;have hs:=sizeT_eq t;by_cases h8:t.kind=8
 ·obtain ⟨q,hq⟩:=part_rec hp h8
  obtain ⟨n',rfl⟩:∃n',n=n'+1:=⟨n - 1,by omega⟩
  rw [idle_go n' t h8 (by rw [hq];rfl),idT_rec t h8 q hq]
  have hm:q∈t.kids:=by rw [hq];exact .head _
  have e:t.kids[0]'(by rw [hq];exact Nat.one_pos)=q:=by simp [hq]
  rw [e];exact ih q hm (hk q hm) n' (by have:=sizeT_kid hm;omega)
 ·rw [idle_stop n t h8]
  by_cases h9:t.kind=9
  ·rw [idT_var t h9];simpa using h9
  ·rw [idT_node t h9 h8];simpa using h9
theorem chkTL_gd(ks:List Ty)(ar:List ByteArray):∀(a:Int × Nat),a.2≤60→(∀k∈ks,∀ar c,c≤60→(chkT k ar c).1=0→gdT k∧clT k ar)→(chkTL ar ks a).1=0→∀k∈ks,gdT k∧clT k ar:=by
 induction ks with
 | nil=>intro a _ _ _ k hk;cases hk
 | cons x ks ih =>
  intro a h60 hk h0;rw [chkTL_cons]at h0;by_cases ha:a.1≠0
  ·rw [if_pos ha,chkTL_bad _ _ _ ha]at h0;exact absurd h0 ha
  ·rw [if_neg ha]at h0
   by_cases hx:(chkT x ar a.2).1=0
   ·have h1:=hk x (.head _) ar a.2 h60 hx
    have h2:=ih _ (chkT_cnt x ar a.2 h60 hx).2 (fun k hm=>hk k (.tail _ hm)) h0
    intro k hm;rcases List.mem_cons.1 hm with rfl|hm
    ·exact h1
    ·exact h2 k hm
   ·rw [chkTL_bad _ _ _ hx]at h0;exact absurd h0 hx
theorem chkT_gd:∀t:Ty,∀ar c,c≤60→(chkT t ar c).1=0→gdT t∧clT t ar:=by
 apply tyInd
 intro t ih ar c hc h;have hall:=chkT_all t ar c h;have hcnt:=chkT_cnt t ar c hc h;rw [chkT_eq]at h;by_cases h1:60<c+1
 ·rw [if_pos h1]at h;exact absurd h (by simp)
 rw [if_neg h1]at h;by_cases h2:partT t=false
 ·rw [if_pos h2]at h;exact absurd h (by simp)
 rw [if_neg h2]at h;by_cases h3:t.kind=9∧hasN ar t.name=false
 ·rw [if_pos h3]at h;exact absurd h (by simp)
 rw [if_neg h3]at h;by_cases h4:t.kind=8∧idleN 65536 t=true
 ·rw [if_pos h4]at h;exact absurd h (by simp)
 rw [if_neg h4]at h;have hk:=chkTL_gd t.kids _ (0,c+1) (by show c+1≤60;omega) ih h
 refine ⟨(gdT_eq t).2 ⟨by simpa using h2,fun h8=>?_,fun k hm=>(hk k hm).1⟩,(clT_eq t ar).2 ⟨fun h9=>?_,fun k hm=>(hk k hm).2⟩⟩
 ·have hs:sizeT t≤60:=by omega
  rw [← idle_idT t hall.1 65536 (by omega)]
  cases hq:idleN 65536 t with
  | false=>rfl
  | true=>exact absurd ⟨h8,hq⟩ h4
 ·cases hq:hasN ar t.name with
  | false=>exact absurd ⟨h9,hq⟩ h3
  | true=>exact (hasN_iff _ _).1 hq
theorem chkTy_gd(t:Ty)(h:chkTy t=0):gdT t∧clT t []∧idT t=false:=by
 have h1:=chkT_gd t [] 0 (by omega) h
 refine ⟨h1.1,h1.2,?_⟩;by_cases h8:t.kind=8
 ·exact ((gdT_eq t).1 h1.1).2.1 h8
 ·refine idT_node t (fun h9=>?_) h8
  exact absurd (((clT_eq t []).1 h1.2).1 h9) (by simp)
def agD(n:Nat)(r r':ByteArray→Dn):Prop:=∀x j,j<n→r x j=r' x j
theorem agD.up{n:Nat}{r r':ByteArray→Dn}(h:agD n r r')(x:ByteArray){f f':Dn}(hf:∀j,j<n→f j=f' j):agD n (upD r x f) (upD r' x f'):=by
 intro y j hj;unfold upD;split
 ·exact hf j hj
 ·exact h y j hj
theorem stD_map{kd so:Int}{ls:List ByteArray}{ks:List Ty}{F G:Ty→Dn}{n:Nat}(h:∀q∈ks,∀j,j<n→F q j=G q j):∀j,j<n+1→stD kd so ls (ks.map F) j=stD kd so ls (ks.map G) j:=by
 intro j hj;cases j with
 | zero=>rfl
 | succ j =>
  simp only [stD,List.map_map];congr 1
  exact List.map_congr_left fun q hq=>h q hq j (by omega)
theorem den_ne:∀t:Ty,wfT t→∀n r r',agD n r r'→∀j,j<n→den t r j=den t r' j:=by
 apply tyInd
 intro t ih hw n r r' h j hj;obtain ⟨hp,hk⟩:=(wfT_eq t).1 hw;by_cases h9:t.kind=9
 ·rw [den_var t r h9,den_var t r' h9];exact h _ j hj
 by_cases h8:t.kind=8
 ·obtain ⟨q,hq⟩:=part_rec hp h8
  have hm:q∈t.kids:=by rw [hq];exact .head _
  rw [den_rec t r h8 q hq,den_rec t r' h8 q hq];have:∀m j,j<n→itD (fun f=>den q (upD r t.name f)) m j=itD (fun f=>den q (upD r' t.name f)) m j:=by
   intro m;induction m with
   | zero=>intro j _;rfl
   | succ m ihm=>exact ih q hm (hk q hm) n _ _ (h.up t.name ihm)
  exact this (j+1) j hj
 ·rw [den_node t r h9 h8,den_node t r' h9 h8]
  cases n with
  | zero=>omega
  | succ n=>exact stD_map (fun q hq j hj=>ih q hq (hk q hq) (n+1) r r' h j (by omega)) j hj
theorem den_ct:∀t:Ty,wfT t→idT t=false→∀n r r',agD n r r'→∀j,j<n+1→den t r j=den t r' j:=by
 apply tyInd
 intro t ih hw hi n r r' h j hj;obtain ⟨hp,hk⟩:=(wfT_eq t).1 hw;by_cases h9:t.kind=9
 ·rw [idT_var t h9]at hi;cases hi
 by_cases h8:t.kind=8
 ·obtain ⟨q,hq⟩:=part_rec hp h8
  have hm:q∈t.kids:=by rw [hq];exact .head _
  rw [idT_rec t h8 q hq]at hi;rw [den_rec t r h8 q hq,den_rec t r' h8 q hq];have:∀m j,j<n+1→itD (fun f=>den q (upD r t.name f)) m j=itD (fun f=>den q (upD r' t.name f)) m j:=by
   intro m;induction m with
   | zero=>intro j _;rfl
   | succ m ihm=>exact ih q hm (hk q hm) hi n _ _ (h.up t.name (fun j hj=>ihm j (by omega)))
  exact this (j+1) j hj
 ·rw [den_node t r h9 h8,den_node t r' h9 h8]
  exact stD_map (fun q hq j hj=>den_ne q (hk q hq) n r r' h j hj) j hj
def ctF(F:Dn→Dn):Prop:=∀n f f',(∀j,j<n→f j=f' j)→∀j,j<n+1→F f j=F f' j
theorem ct_stab{F:Dn→Dn}(h:ctF F):∀n m,n≤m→∀j,j<n→itD F n j=itD F m j
 | 0,_,_,j,hj=>by omega
 | n+1,0,hm,_,_=>by omega
 | n+1,m+1,hm,j,hj=>h n _ _ (ct_stab h n m (by omega)) j hj
theorem ct_fix{F:Dn→Dn}(h:ctF F)(k:Nat):itD F (k+1) k=F (fun k=>itD F (k+1) k) k :=
 h k _ _ (fun j hj=>(ct_stab h (j+1) k (by omega) j (by omega)).symm) k (by omega)
theorem ct_one{F:Dn→Dn}(h:ctF F){f g:Dn}(hf:∀k,f k=F f k)(hg:∀k,g k=F g k):f=g:=by
 have:∀n j,j<n→f j=g j:=by
  intro n;induction n with
  | zero=>intro j hj;omega
  | succ n ih=>intro j hj;rw [hf j,hg j];exact h n f g ih j hj
 exact funext fun j=>this (j+1) j (by omega)
theorem den_ctF{q:Ty}(hw:wfT q)(hi:idT q=false)(r:ByteArray→Dn)(x:ByteArray):ctF fun f=>den q (upD r x f):=fun n _ _ hf j hj =>
 den_ct q hw hi n _ _ (agD.up (fun _ _ _=>rfl) x hf) j hj
theorem rec_parts{t:Ty}(hg:gdT t)(h8:t.kind=8):∃q,t.kids=[q]∧gdT q∧idT q=false:=by
 obtain ⟨hp,hi,hk⟩:=(gdT_eq t).1 hg;obtain ⟨q,hq⟩:=part_rec hp h8;have:=hi h8;rw [idT_rec t h8 q hq]at this;exact ⟨q,hq,hk q (by rw [hq];exact .head _),this⟩
theorem den_fix{t:Ty}(hg:gdT t)(h8:t.kind=8){q:Ty}(hq:t.kids=[q])(r:ByteArray→Dn):den t r=den q (upD r t.name (den t r)):=by
 obtain ⟨q',hq',hgq,hi⟩:=rec_parts hg h8;obtain rfl:q=q':=by rw [hq]at hq';injection hq'
 rw [den_rec t r h8 q hq];exact funext fun k=>ct_fix (den_ctF (gdT_wf q hgq) hi r t.name) k
theorem den_one{t:Ty}(hg:gdT t)(h8:t.kind=8){q:Ty}(hq:t.kids=[q])(r:ByteArray→Dn){f:Dn}(hf:f=den q (upD r t.name f)):f=den t r:=by
 obtain ⟨q',hq',hgq,hi⟩:=rec_parts hg h8;obtain rfl:q=q':=by rw [hq]at hq';injection hq'
 exact ct_one (den_ctF (gdT_wf q hgq) hi r t.name) (fun k=>congrFun hf k) (fun k=>congrFun (den_fix hg h8 hq r) k)
theorem den_cl:∀t:Ty,wfT t→∀ns r r',clT t ns→(∀x∈ns,r x=r' x)→den t r=den t r':=by
 apply tyInd
 intro t ih hw ns r r' hc h;obtain ⟨hp,hk⟩:=(wfT_eq t).1 hw;obtain ⟨c1,c2⟩:=(clT_eq t ns).1 hc;by_cases h9:t.kind=9
 ·rw [den_var t r h9,den_var t r' h9];exact h _ (c1 h9)
 by_cases h8:t.kind=8
 ·obtain ⟨q,hq⟩:=part_rec hp h8
  have hm:q∈t.kids:=by rw [hq];exact .head _
  have hcq:=c2 q hm;rw [if_pos h8]at hcq;have e:(fun f=>den q (upD r t.name f))=fun f=>den q (upD r' t.name f):=funext fun f=>ih q hm (hk q hm) _ _ _ hcq fun x hx=>by
   unfold upD;by_cases hxn:x=t.name
   ·rw [if_pos hxn,if_pos hxn]
   ·rw [if_neg hxn,if_neg hxn]
    rcases List.mem_append.1 hx with hx|hx
    ·exact h x hx
    ·exact absurd (List.mem_singleton.1 hx) hxn
  rw [den_rec t r h8 q hq,den_rec t r' h8 q hq,e]
 ·rw [den_node t r h9 h8,den_node t r' h9 h8]
  congr 1
  refine List.map_congr_left fun q hq=>?_
  have hcq:=c2 q hq;rw [if_neg h8]at hcq;exact ih q hq (hk q hq) ns r r' hcq h
theorem laidOutG:laidOutB Tryz.prog=true:=by kernel_rfl
theorem keyLaw:WideMaps.KeyLaw Tryz.prog 182:=deep_law_laid (m:=3) laidOutG (by decide) (of_decide_eq_true (by kernel_rfl)) (by kernel_rfl) (by kernel_rfl)
def kCs(kd so:Int)(ls:List ByteArray)(ns:List Int):List Value:=[.int .i64 kd,.int .i64 so]++((ls.map Value.string++List.replicate (6 - ls.length) (.string ⟨#[]⟩))++(ns.map (Value.int .i64)++List.replicate (6 - ns.length) (.int .i64 0)))
def in64z(z:Int):Prop:=-9223372036854775808≤z∧z≤9223372036854775807
theorem wf64(z:Int)(hz:in64z z):(Lit.int .i64 z).wf=true:=by
 unfold in64z at hz;simp [Lit.wf];exact ⟨hz.1,hz.2⟩
theorem kl_int(d:Nat)(z:Int)(hz:in64z z):Tryz.prog.keyLits (d+1) 3 [.int .i64 z]=some [.int .i64 z]:=by
 simp [Program.keyLits,Tryz.underlying3,wf64 z hz]
theorem range6:List.range 6=[0,1,2,3,4,5]:=rfl
theorem kl_strs(d:Nat)(s0 s1 s2 s3 s4 s5:ByteArray)(h0:s0.size≤maxLen)(h1:s1.size≤maxLen)(h2:s2.size≤maxLen)(h3:s3.size≤maxLen)(h4:s4.size≤maxLen)(h5:s5.size≤maxLen):∃l,Tryz.prog.keyLits (d+2) 179 [.string s0,.string s1,.string s2,.string s3,.string s4,.string s5]=some l:=by
 have c1:Tryz.prog.cellsOf 179=6:=by kernel_rfl
 have c4:Tryz.prog.cellsOf 9=1:=by kernel_rfl
 simp only [Program.keyLits,Tryz.underlying179,c1,c4,List.length_cons,List.length_nil,range6];simp [h0,h1,h2,h3,h4,h5]
theorem kl_ints(d:Nat)(s0 s1 s2 s3 s4 s5:Int)(h0:in64z s0)(h1:in64z s1)(h2:in64z s2)(h3:in64z s3)(h4:in64z s4)(h5:in64z s5):∃l,Tryz.prog.keyLits (d+2) 180 [.int .i64 s0,.int .i64 s1,.int .i64 s2,.int .i64 s3,.int .i64 s4,.int .i64 s5]=some l:=by
 have c1:Tryz.prog.cellsOf 180=6:=by kernel_rfl
 have c4:Tryz.prog.cellsOf 3=1:=by kernel_rfl
 simp only [Program.keyLits,Tryz.underlying180,c1,c4,List.length_cons,List.length_nil,range6];simp [wf64 _ h0,wf64 _ h1,wf64 _ h2,wf64 _ h3,wf64 _ h4,wf64 _ h5]
theorem key_of(kd so:Int)(s0 s1 s2 s3 s4 s5:ByteArray)(n0 n1 n2 n3 n4 n5:Int)(hk:in64z kd)(hs:in64z so)(h0:s0.size≤maxLen)(h1:s1.size≤maxLen)(h2:s2.size≤maxLen)(h3:s3.size≤maxLen)(h4:s4.size≤maxLen)(h5:s5.size≤maxLen)
  (m0:in64z n0) (m1:in64z n1) (m2:in64z n2) (m3:in64z n3) (m4:in64z n4) (m5:in64z n5) :
  ∃l,keyOf Tryz.prog 182 (.agg #[.int .i64 kd,.int .i64 so,.string s0,.string s1,.string s2,.string s3,.string s4,.string s5,.int .i64 n0,.int .i64 n1,.int .i64 n2,.int .i64 n3,.int .i64 n4,.int .i64 n5])=some l:=by
 have hm:Tryz.prog.types.size+1=(Tryz.prog.types.size - 2)+3:=by kernel_rfl
 have c0:Tryz.prog.cellsOf 182=14:=by kernel_rfl
 have c1:Tryz.prog.cellsOf 179=6:=by kernel_rfl
 have c2:Tryz.prog.cellsOf 180=6:=by kernel_rfl
 have c3:Tryz.prog.cellsOf 3=1:=by kernel_rfl
 have kt:Tryz.prog.keyType 182=true:=by kernel_rfl
 unfold keyOf;rw [hm];generalize Tryz.prog.types.size - 2=d;obtain ⟨l1,e1⟩:=kl_strs d s0 s1 s2 s3 s4 s5 h0 h1 h2 h3 h4 h5;obtain ⟨l2,e2⟩:=kl_ints d n0 n1 n2 n3 n4 n5 m0 m1 m2 m3 m4 m5;have e3:=kl_int (d+1) kd hk;have e4:=kl_int (d+1) so hs;rw [Tryz.underlying182];simp only;rw [if_pos]
 ·rw [Program.keyLits.eq_def]
  simp only [Tryz.underlying182];simp [c0,c1,c2,c3,Value.cells,e1,e2,e3,e4]
 ·rw [kt]
  simp [Value.formed];exact c0.symm
def MPa(W:World)(mb:Nat)(ds:List Value):Prop:=∃es clock,W.heap[mb]? = some (.map es clock)∧es.size=ds.length∧∀i (h:i<ds.length),∃e,es[i]? = some e∧e.key=ds[i]∧e.val = .int .i64 (i:Int)
def KeysOK(ds:List Value):Prop:=∀d∈ds,∃l,keyOf Tryz.prog 182 d=some l
theorem mpa_keys{ds:List Value}{es:Array MapEntry}(hsz:es.size=ds.length)(hes:∀i (h:i<ds.length),∃e,es[i]? = some e∧e.key=ds[i]∧e.val = .int .i64 (i:Int))(hk:KeysOK ds):∀e∈es.toList,∃l,keyOf Tryz.prog 182 e.key=some l:=by
 intro e he;obtain ⟨i,hi,rfl⟩:=List.mem_iff_getElem.1 he;have hi':i<ds.length:=by rw [← hsz];simpa using hi
 obtain ⟨e',h1,h2,_⟩:=hes i hi';have:es.toList[i]=e':=by
  have h3:es[i]? = some es.toList[i]:=by
   rw [← Array.getElem?_toList];exact List.getElem?_eq_getElem hi
  rw [h3]at h1;exact Option.some.inj h1
 rw [this,h2];exact hk _ (List.getElem_mem hi')
def plOf(ds:List Value)(key:Value)(j:Nat):Prop:=ds[j]? = some key
theorem lookG_in{W:World}{mb:Nat}{ds:List Value}(hm:MPa W mb ds)(hk:KeysOK ds)(hn:ds.Nodup){key:Value}{kl:Lit}(hkey:keyOf Tryz.prog 182 key=some kl){j:Nat}(hj:plOf ds key j):
  (Instr.lookup 178 (.map (some mb)) key true).run Tryz.prog W = .ok (.tuple #[.int .i64 (j:Int),.bool true]) W:=by
 obtain ⟨es,clock,hb,hsz,hes⟩:=hm;have K:=keyLaw;have hjl:j<ds.length:=(List.getElem?_eq_some_iff.1 hj).1;have hjv:ds[j]=key:=(List.getElem?_eq_some_iff.1 hj).2;rcases K.find W hkey es.toList (mpa_keys hsz hes hk) with ⟨h1,h2⟩|⟨i,e0,h1,h2,h3⟩
 ·obtain ⟨e,he,hek,_⟩:=hes j hjl
  exact absurd (hek.trans hjv) (h2 e (by rw [Array.mem_toList_iff,Array.mem_iff_getElem?];exact ⟨j,he⟩))
 ·have hil:i<ds.length:=by
   have:=(List.getElem?_eq_some_iff.1 h2).1;rw [← hsz];simpa using this
  obtain ⟨e,he,hek,hev⟩:=hes i hil;have:e=e0:=by rw [← Array.getElem?_toList]at he;rw [he]at h2;exact Option.some.inj h2
  subst this;have hij:i=j:=by
   have e1:ds[i]=ds[j]:=by rw [hjv,← hek,h3]
   rcases Nat.lt_trichotomy i j with h|h|h
   ·exact absurd e1 ((List.pairwise_iff_getElem.1 hn) _ _ hil hjl h)
   ·exact h
   ·exact absurd e1.symm ((List.pairwise_iff_getElem.1 hn) _ _ hjl hil h)
  subst hij;rw [hev]at h1;simp [Instr.lookup,run_underlying Tryz.underlying178,MapKept.run_getObj_map hb,K.check W _ hkey,h1,Result.andThen]
theorem look_out{W:World}{mb:Nat}{ds:List Value}(hm:MPa W mb ds)(hk:KeysOK ds){key:Value}{kl:Lit}(hkey:keyOf Tryz.prog 182 key=some kl)(hj:key ∉ ds):
  (Instr.lookup 178 (.map (some mb)) key true).run Tryz.prog W = .ok (.tuple #[.int .i64 0,.bool false]) W ∧
  ∀z:Int,∃W',(Instr.mapUpdate 178 (.map (some mb)) key (.int .i64 z)).run Tryz.prog W = .ok () W'∧W.grownBy W' (some mb)∧W'.heap.size=W.heap.size∧(z=(ds.length:Int)→MPa W' mb (ds++[key])):=by
 obtain ⟨es,clock,hb,hsz,hes⟩:=hm;have K:=keyLaw;rcases K.find W hkey es.toList (mpa_keys hsz hes hk) with ⟨h1,h2⟩|⟨i,e0,h1,h2,h3⟩
 ·refine ⟨by simp [Instr.lookup,run_underlying Tryz.underlying178,MapKept.run_getObj_map hb,K.check W _ hkey,h1,Result.andThen],fun z=>⟨{ W with heap:=W.heap.setIfInBounds mb (.map (es.push { key:=key,val:=.int .i64 z,born:=clock }) (clock+1)) },?_,?_⟩⟩
  ·simp [Instr.mapUpdate,run_underlying Tryz.underlying178,MapKept.run_getObj_map hb,K.check W _ hkey,h1,MapKept.run_setObj_map _ hb,Result.andThen]
  ·refine ⟨⟨rfl,rfl,rfl,by simp,fun k hk' hne=>(MapKept.heap_set hb).2 k (fun e=>hne (by rw [e]))⟩,by simp,fun hz=>⟨_,_,(MapKept.heap_set hb).1,by simp [hsz],fun i hi=>?_⟩⟩
   by_cases hi':i<ds.length
   ·obtain ⟨e,he,hek,hev⟩:=hes i hi'
    refine ⟨e,?_,by rw [List.getElem_append_left hi'];exact hek,hev⟩
    rw [Array.getElem?_push,if_neg (by omega)];exact he
   ·obtain rfl:i=ds.length:=by simp at hi;omega
    refine ⟨_,by rw [Array.getElem?_push,if_pos hsz.symm],by simp,by rw [hz]⟩
 ·exfalso
  have hil:i<ds.length:=by
   have:=(List.getElem?_eq_some_iff.1 h2).1;rw [← hsz];simpa using this
  obtain ⟨e,he,hek,hev⟩:=hes i hil;have:e=e0:=by rw [← Array.getElem?_toList]at he;rw [he]at h2;exact Option.some.inj h2
  subst this;exact hj (by rw [← h3,hek];exact List.getElem_mem hil)
theorem MPa.new(W:World):MPa (W.alloc (.map #[] 0)) W.heap.size []:=⟨_,_,heap_alloc_new W _,rfl,fun _ h=>absurd h (Nat.not_lt_zero _)⟩
theorem MPa.len{W:World}{mb:Nat}{ds:List Value}(hm:MPa W mb ds)(ty:TypeId):(Builtin.len_ #[178] ty #[.map (some mb)]).run Tryz.prog W = .ok (goInt ds.length) W:=by
 obtain ⟨es,clock,hb,hsz,hes⟩:=hm;rw [← hsz];exact run_len_map W _ ty mb es clock (show Tryz.prog.underlying 178=some (.map (Tryz.prog.mapKeyOf 178) (Tryz.prog.mapElemOf 178)) by kernel_rfl) hb
theorem MPa.kept{W W':World}{mb:Nat}{ds:List Value}(hm:MPa W mb ds){row:Option Nat}(hg:W.grownBy W' row)(hne:some mb≠row):MPa W' mb ds:=by
 obtain ⟨es,clock,hb,hsz,hes⟩:=hm;exact ⟨es,clock,(hg.block mb (Array.getElem?_eq_some_iff.1 hb).1 hne).trans hb,hsz,hes⟩
theorem wpList_look{w:World}{ops:Array Oper}{rest:List Oper}{o:Oper}{a:Act}{Q:Exit→Act→World→Prop}(hgd:o.guard=none)(m x:Operand)(t:TypeId)(ho:o.op=Op.lookup t m x true){mv key v:Value}
  (hm:a.eval m=mv) (hx:a.eval x=key) (hrun:(Instr.lookup t mv key true).run Tryz.prog w = .ok v w) (h:wpList Tryz.prog ops Q rest (a.put o.dst v) w):wpList Tryz.prog ops Q (o::rest) a w:=by
 refine wpList_plain hgd fun K hK=>?_
 unfold Oper.wp;simp [execOp,ho,hm,hx,hrun,Result.andThen];exact hK _ _ h
theorem wpList_upd{w w':World}{ops:Array Oper}{rest:List Oper}{o:Oper}{a:Act}{Q:Exit→Act→World→Prop}(hgd:o.guard=none)(m x y:Operand)(t:TypeId)(ho:o.op=Op.mapUpdate t m x y){mv key v:Value}
  (hm:a.eval m=mv) (hx:a.eval x=key) (hy:a.eval y=v) (hrun:(Instr.mapUpdate t mv key v).run Tryz.prog w = .ok () w') (h:wpList Tryz.prog ops Q rest (a.put o.dst undef) w'):wpList Tryz.prog ops Q (o::rest) a w:=by
 refine wpList_plain hgd fun K hK=>?_
 unfold Oper.wp;simp [execOp,ho,hm,hx,hy,hrun,Result.andThen];exact hK _ _ h
end Go.Proofs.YtmamabhhgfcjcaaGreatDoor
