/-
  One operation by its run.
-/
import Derived.Test.YtmamabhhgfcjcaaGreatDoorOq
import Derived.Maps.RangeRun
set_option maxRecDepth 100000
set_option maxHeartbeats 4000000
namespace Go.Proofs.YtmamabhhgfcjcaaGreatDoor
open Go.RowKit Go.Shelf Go.Maps
open Go.ChangeMaps (setBlock)
theorem perm_key{α : Type}{f : α → Nat}{l:List α}(hn:(l.map f).Nodup){e : α}(he:e∈l):l.Perm (e::l.filter fun x=>decide (f x≠f e)):=by
 induction l with
 | nil=>cases he
 | cons q l ih =>
  rw [List.map_cons,List.nodup_cons]at hn;rcases List.mem_cons.1 he with rfl|he
  ·rw [List.filter_cons_of_neg (by simp)]
   rw [List.filter_eq_self.2 (fun x hx=>by
    have:f x≠f e:=fun q=>hn.1 (by rw [← q];exact List.mem_map.2 ⟨x,hx,rfl⟩)
    simpa using this)]
  ·have hq:f q≠f e:=fun w=>hn.1 (by rw [w];exact List.mem_map.2 ⟨e,he,rfl⟩)
   rw [List.filter_cons_of_pos (by simpa using hq)]
   exact ((ih hn.2 he).cons q).trans (List.Perm.swap _ _ _)
theorem left_list(es:Array MapEntry)(seen:Array Nat):(leftOf es seen).toList=es.toList.filter fun e=>!seen.contains e.born:=by
 unfold leftOf;rw [Array.toList_filter]
theorem left_push(es:Array MapEntry)(seen:Array Nat)(b:Nat):(leftOf es (seen.push b)).toList=(leftOf es seen).toList.filter fun x=>decide (x.born≠b):=by
 rw [left_list,left_list,List.filter_filter];apply List.filter_congr
 intro x _;rw [Bool.eq_iff_iff];simp only [Bool.not_eq_true',Bool.and_eq_true,decide_eq_true_eq,← Bool.not_eq_true,Array.contains_iff_mem,Array.mem_push];constructor
 ·intro h;exact ⟨fun q=>h (.inr q),fun q=>h (.inl q)⟩
 ·rintro ⟨h1,h2⟩ (q|q)
  ·exact h2 q
  ·exact h1 q
theorem left_perm{es:Array MapEntry}{seen:Array Nat}{D:List MapEntry}(hn:(es.toList.map (·.born)).Nodup)(hp:es.toList.Perm (D++(leftOf es seen).toList)){e:MapEntry}(he:e∈(leftOf es seen).toList):es.toList.Perm ((D++[e])++(leftOf es (seen.push e.born)).toList):=by
 have hl:((leftOf es seen).toList.map (·.born)).Nodup:=hn.sublist ((by rw [left_list];exact List.filter_sublist:List.Sublist (leftOf es seen).toList es.toList).map _)
 rw [left_push];refine hp.trans ?_;rw [List.append_assoc];exact List.Perm.append_left _ (perm_key hl he)
def nmS:Value→ByteArray
 | .string s=>s
 | _=>⟨#[]⟩
def kvS(e:MapEntry):ByteArray × Value:=(nmS e.key,e.val)
theorem kv_perm{es:Array MapEntry}{vs:List (ByteArray × Value)}(hp:(es.toList.map fun e=>(e.key,e.val)).Perm (vs.map fun q=>(Value.string q.1,q.2))):(es.toList.map kvS).Perm vs:=by
 have:=hp.map (fun q:Value × Value=>(nmS q.1,q.2))
 rw [List.map_map,List.map_map]at this;have e2:vs.map ((fun q:Value × Value=>(nmS q.1,q.2)) ∘ fun q=>(Value.string q.1,q.2))=vs:=by
  rw [show ((fun q:Value × Value=>(nmS q.1,q.2)) ∘ fun q:ByteArray × Value=>(Value.string q.1,q.2))=id from rfl,List.map_id]
 rw [e2]at this;exact this
def TwoC(v:Value):Prop:=∃al n c k,v = .agg #[.slice al n c,.int .i64 k]
structure CPY(w:World)(bs bd r:Nat)(es:Array MapEntry)(clock:Nat)(D:List MapEntry)(seen:Array Nat)(W:World):Prop where
 src:W.heap[bs]? = some (.map es clock)
 it:W.heap[r]? = some (.mapIter (some bs) clock seen clock)
 dst:SMv W bd (D.map kvS)
 pm:es.toList.Perm (D++(leftOf es seen).toList)
 gr:w.grownBy W (some bd)
 sz:w.heap.size≤r∧r<W.heap.size
def seenOf(W:World)(r:Nat):Array Nat:=match W.heap[r]? with
 | some (.mapIter _ _ seen _)=>seen
 | _=>#[]
theorem mapT:Tryz.prog.underlying 68=some (.map 9 90):=by kernel_rfl
theorem set_ne{W:World}{r k:Nat}(o:Obj)(h:r≠k):(setBlock W r o).heap[k]? = W.heap[k]?:=by
 show (W.heap.setIfInBounds r o)[k]? = _
 rw [Array.getElem?_setIfInBounds_ne h]
theorem set_at'{W:World}{r:Nat}(o:Obj)(h:r<W.heap.size):(setBlock W r o).heap[r]? = some o:=by
 show (W.heap.setIfInBounds r o)[r]? = _
 simp [h]
theorem SMv.of_block{W W':World}{b:Nat}{vs:List (ByteArray × Value)}(h:SMv W b vs)(e:W'.heap[b]? = W.heap[b]?):SMv W' b vs:=by
 obtain ⟨es,clock,h1,h2⟩:=h;exact ⟨es,clock,e.trans h1,h2⟩
theorem CPY.step{w:World}{bs bd r:Nat}{es:Array MapEntry}{clock:Nat}{D:List MapEntry}{seen:Array Nat}{W:World}(h:CPY w bs bd r es clock D seen W)(hsd:bs≠bd)(hbs:bs<w.heap.size)(hbd:bd<w.heap.size)(hbn:(es.toList.map (·.born)).Nodup){vs:List (ByteArray × Value)}(hp:(es.toList.map fun e=>(e.key,e.val)).Perm (vs.map fun q=>(Value.string q.1,q.2)))(hn:(vs.map (·.1)).Nodup)
  {e:MapEntry} (he:e∈(leftOf es seen).toList) {w1:World} (hw1:w1=W∨w1=W.drew) (o:Obj) {W3:World} (hu:(W1:World)→W1=(setBlock w1 r (.mapIter (some bs) clock (seen.push e.born) clock)).alloc o→W1.grownBy W3 (some bd)∧W3.heap.size=W1.heap.size∧SMv W3 bd (putV (D.map kvS) (nmS e.key) e.val)):CPY w bs bd r es clock (D++[e]) (seen.push e.born) W3:=by
 have hh:w1.heap=W.heap:=by rcases hw1 with rfl|rfl <;> rfl
 obtain ⟨hg,hsz,hm⟩:=hu _ rfl;have hr1:w1.heap[r]? = some (.mapIter (some bs) clock seen clock):=by rw [hh];exact h.it
 have hrl:r<w1.heap.size:=by rw [hh];exact h.sz.2
 have hsz1:(setBlock w1 r (.mapIter (some bs) clock (seen.push e.born) clock)).heap.size=W.heap.size:=by simp [setBlock,hh]
 have hWs:=h.gr.size;have blk:∀k,k<W.heap.size→k≠r→k≠bd→W3.heap[k]? = W.heap[k]?:=by
  intro k hk hkr hkd;rw [hg.block k (by rw [World.size_alloc,hsz1];omega) (fun q=>hkd (Option.some.inj q)),Below.heap_alloc _ _ k (by rw [hsz1];exact hk),set_ne _ (Ne.symm hkr),hh]
 have hgw:w.grownBy W3 (some bd):=by
  refine ⟨?_,?_,?_,?_,?_⟩
  ·rw [hg.os];show w1.os=_;rcases hw1 with rfl|rfl <;> exact h.gr.os
  ·rw [hg.tape];show w1.tape=_;rcases hw1 with rfl|rfl <;> exact h.gr.tape
  ·rw [hg.output];show w1.output=_;rcases hw1 with rfl|rfl <;> exact h.gr.output
  ·rw [hsz,World.size_alloc,hsz1];omega
  ·intro k hk hne
   rw [blk k (by omega) (by have:=h.sz.1;omega) (fun q=>hne (by rw [q]))]
   exact h.gr.block k hk hne
 have hkeys:nmS e.key ∉ (D.map kvS).map (·.1):=by
  intro hm';have p1:=((left_perm hbn h.pm he).map kvS).symm.trans (kv_perm hp);have n1:(((D++[e])++(leftOf es (seen.push e.born)).toList).map kvS |>.map (·.1)).Nodup:=((p1.map (·.1)).nodup_iff).2 hn
  simp only [List.map_append,List.map_cons,List.map_nil]at n1;have n2:=(List.nodup_append.1 n1).1;have n3:=(List.nodup_append.1 n2).2.2 _ hm' (nmS e.key) (by simp [kvS])
  exact n3 rfl
 refine ⟨?_,?_,?_,left_perm hbn h.pm he,hgw,h.sz.1,by rw [hsz,World.size_alloc,hsz1];have:=h.sz.2;omega⟩
 ·rw [blk bs (by omega) (by have:=h.sz.1;omega) hsd];exact h.src
 ·rw [hg.block r (by rw [World.size_alloc,hsz1];have:=h.sz.2;omega) (fun q=>by have:=Option.some.inj q;have:=h.sz.1;omega),Below.heap_alloc _ _ r (by rw [hsz1];exact h.sz.2),set_at' _ hrl]
 ·have e1:putV (D.map kvS) (nmS e.key) e.val=(D++[e]).map kvS:=by
   unfold putV;rw [delV_self hkeys,List.map_append];rfl
  rw [← e1];exact hm
theorem copyM_any(vs:List (ByteArray × Value))(bs bd:Nat)(w:World)(hd:SMv w bd [])(hs:SMv w bs vs)(hsd:bs≠bd)(h2:∀q∈vs,TwoC q.2):
  Calls Tryz.prog 74 #[.map (some bd),.map (some bs)] w fun e w'=>e = .returned (.tuple #[])∧SMv w' bd vs∧w.grownBy w' (some bd):=by
 have hbs:=hs.lt;have hbd:=hd.lt;obtain ⟨es,clock,hsrc,hp,hn,hsz,hbn,hbc⟩:=hs;have hrange:=run_range_map (P:=Tryz.prog) w 68 _ _ bs es clock mapT hsrc;have H0:=hideK (show CPY w bs bd w.heap.size es clock [] #[] (w.alloc (.mapIter (some bs) clock #[] clock)) from ⟨(Below.heap_alloc _ _ bs hbs).trans hsrc,heap_alloc_new w _,hd.of_block (Below.heap_alloc _ _ bd hbd),by rw [left_list,List.filter_eq_self.2 (fun x _=>by simp)];exact List.Perm.refl _,World.grownBy_alloc w _ _,nR _,by simp⟩)
 have HP:=hideK hp;have HN:=hideK hn;have HS:=hideK hsz;have HBN:=hideK hbn;have HBC:=hideK hbc;have H2:=hideK h2;clear hd hp hn hsz hbn hbc h2 hsrc;go_enter Tryz.func74,Tryz.ntmps74
 go_wp2_with fail
 go_loopw [8] (fun _ wr=>∃D seen,CPY w bs bd w.heap.size es clock D seen wr) (fun _ wr=>(leftOf es (seenOf wr w.heap.size)).size)
 case atStart=>exact ⟨_,_,H0.out⟩
 case round =>
  obtain ⟨D,seen,hC⟩:=hrel;have hseen:seenOf wr w.heap.size=seen:=by unfold seenOf;rw [hC.it]
  clear hrange H0;rcases run_next_at (P:=Tryz.prog) wr 0 w.heap.size bs clock clock seen es clock hC.it hC.src (fun x hx=>HBC.out x hx) (nR _) with ⟨h0,hnext⟩|⟨e,he,w1,hal,hnext⟩
  ·have HF:=hideK (show SMv wr bd vs from by
    have hnil:(leftOf es seen).toList=[]:=by rw [← List.length_eq_zero_iff];simpa using h0
    have pm:=hC.pm;rw [hnil,List.append_nil]at pm;exact hC.dst.perm ((pm.map kvS).symm.trans (kv_perm HP.out)))
   have HG:=hideK hC.gr;clear hC hseen h0;go_wp2_with fail
   go_end0
   exact ⟨rfl,HF.out,HG.out⟩
  ·have hmem:kvS e∈vs:=(kv_perm HP.out).mem_iff.1 (List.mem_map.2 ⟨e,by rw [left_list]at he;exact (List.mem_filter.1 he).1,rfl⟩)
   have hkey:e.key = .string (nmS e.key):=by
    have h1:(e.key,e.val)∈vs.map fun q=>(Value.string q.1,q.2):=HP.out.mem_iff.1 (List.mem_map.2 ⟨e,by rw [left_list]at he;exact (List.mem_filter.1 he).1,rfl⟩)
    obtain ⟨q,_,h2⟩:=List.mem_map.1 h1;have h3:=(Prod.mk.inj h2).1;rw [← h3];rfl
   obtain ⟨al,n,c,k,hval⟩:=H2.out _ hmem;have hnm:=HS.out _ hmem;simp only [kvS]at hval hnm;have hw1:w1.heap=wr.heap:=by rcases hal with rfl|rfl <;> rfl
   have hrl:w.heap.size<w1.heap.size:=by rw [hw1];exact hC.sz.2
   have hen:=run_entry_at (P:=Tryz.prog) (setBlock w1 w.heap.size (Obj.mapIter (some bs) clock (seen.push e.born) clock)) w.heap.size bs clock seen es clock e (set_at' _ hrl) (by rw [set_ne _ (by omega),hw1];exact hC.src) (by rw [left_list]at he;exact (List.mem_filter.1 he).1) HBN.out
   have hd2:SMv ((setBlock w1 w.heap.size (Obj.mapIter (some bs) clock (seen.push e.born) clock)).alloc (.cells #[.slice al n c,.int .i64 k] 90)) bd (D.map kvS):=hC.dst.of_block (by
    rw [Below.heap_alloc _ _ bd (by have:=hC.gr.size;simp [setBlock,hw1];omega),set_ne _ (by omega),hw1])
   obtain ⟨W3,hupd,hg3,hs3,hm3⟩:=sm_upd mapT hd2 hnm (.agg #[.slice al n c,.int .i64 k]);have HC:=hideK (hC.step hsd hbs hbd HBN.out HP.out HN.out he hal (.cells #[.slice al n c,.int .i64 k] 90) (W3:=W3) (fun W1 hW1=>by subst hW1;exact ⟨hg3,hs3,by rw [hval];exact hm3⟩))
   have HM:=hideK (show (leftOf es (seen.push e.born)).size<(leftOf es seen).size from by
    have:=(perm_key (HBN.out.sublist ((by rw [left_list];exact List.filter_sublist:List.Sublist (leftOf es seen).toList es.toList).map _)) he).length_eq
    rw [← left_push]at this;simp at this;omega)
   have HSN:=hideK (show seenOf wr w.heap.size=seen∧seenOf W3 w.heap.size=seen.push e.born from ⟨hseen,by unfold seenOf;rw [HC.out.it]⟩)
   rw [hkey,hval]at hnext hen;generalize setBlock w1 w.heap.size (Obj.mapIter (some bs) clock (seen.push e.born) clock)=V1 at *;generalize nmS e.key=nm at *;clear hC hseen hmem hkey hval hnm hw1 hrl hd2 hg3 hs3 hm3 hal he;go_wp2_with fail
   go_roundw
   case rel=>exact ⟨_,_,HC.out⟩
   case measure=>rw [HSN.out.1,HSN.out.2];exact HM.out
theorem copyNil_any(bd:Nat)(w:World):Calls Tryz.prog 74 #[.map (some bd),.map none] w fun e w'=>e = .returned (.tuple #[])∧w.grownBy w' none:=by
 have hrange:=run_range_nilMap (P:=Tryz.prog) w 68 _ _ mapT;have hnext:=run_next_nilMap (P:=Tryz.prog) w 0 0 0 #[];go_enter Tryz.func74,Tryz.ntmps74
 go_wp2_with fail
 go_loopw [8] (fun _ wr=>wr=w.alloc (.mapIter none 0 #[] 0)) (fun _ _=>0)
 case atStart=>rfl
 case round =>
  subst hrel;have HG:=hideK (World.grownBy_alloc w (.mapIter none 0 #[] 0) none);clear hrange;go_wp2_with fail
  go_end0
  exact ⟨rfl,HG.out⟩
def addR(c R:List Nat)(t:Nat):List Nat:=if clAt c t∈R.map (clAt c) then R else R++[t]
def idxR(c R:List Nat)(t:Nat):Nat:=(R.map (clAt c)).idxOf (clAt c t)
def lstR(g:List Nd)(c:List Nat):Nat→Nat→List Nat→List Nat
 | 0,_,R=>R
 | f+1,m,R=>match R[m]? with
  | none=>R
  | some i=>lstR g c f (m+1) ((nodeAt g i).to.foldl (addR c) R)
def mkN(g:List Nd)(c R:List Nat)(i:Nat):Nd:=⟨(nodeAt g i).kind,(nodeAt g i).so,(nodeAt g i).labs,(nodeAt g i).to.map (idxR c R)⟩
def leastG(g:List Nd)(c:List Nat):List Nd:=(lstR g c g.length 0 [0]).map (mkN g c (lstR g c g.length 0 [0]))
structure RInv(g:List Nd)(c R:List Nat)(m:Nat):Prop where
 hd:R[0]? = some 0
 lt:∀i∈R,i<g.length
 nd:(R.map (clAt c)).Nodup
 sh:∀k (h:k<R.length),k<m→∀t∈(nodeAt g R[k]).to,clAt c t∈R.map (clAt c)
theorem nodup_le:∀(n:Nat) (l:List Nat),l.Nodup→(∀x∈l,x<n)→l.length≤n
 | 0,l,_,h=>by
  cases l with
  | nil=>simp
  | cons a l=>exact absurd (h a (.head _)) (Nat.not_lt_zero _)
 | n+1,l,hn,h=>by
  have h1:(l.erase n).Nodup:=hn.erase n;have h2:∀x∈l.erase n,x<n:=fun x hx=>by
   have:=(hn.mem_erase_iff).1 hx;have:=h x this.2;omega
  have:=nodup_le n _ h1 h2;have h3:=List.length_erase (a:=n) (l:=l);split at h3 <;> omega
theorem RInv.len{g:List Nd}{c R:List Nat}{m:Nat}(h:RInv g c R m)(hc:CLS g c):R.length≤g.length:=by
 have:=nodup_le g.length (R.map (clAt c)) h.nd (fun x hx=>by
  obtain ⟨i,hi,rfl⟩:=List.mem_map.1 hx;exact hc.lt i (h.lt i hi))
 simpa using this
theorem RInv.pos{g:List Nd}{c R:List Nat}{m:Nat}(h:RInv g c R m):0<R.length:=by
 rcases Nat.eq_zero_or_pos R.length with h0|h0
 ·have:=h.hd;rw [List.getElem?_eq_none (by omega)]at this;cases this
 ·exact h0
theorem addR_mem(c R:List Nat)(t:Nat):clAt c t∈(addR c R t).map (clAt c):=by
 unfold addR;split
 ·assumption
 ·simp
theorem addR_pre(c R:List Nat)(t:Nat):∃e,addR c R t=R++e:=by
 unfold addR;split
 ·exact ⟨[],by simp⟩
 ·exact ⟨[t],rfl⟩
theorem fold_pre(c:List Nat):∀(ts R:List Nat),∃e,ts.foldl (addR c) R=R++e
 | [],R=>⟨[],by simp⟩
 | t::ts,R=>by
  obtain ⟨e1,h1⟩:=addR_pre c R t;obtain ⟨e2,h2⟩:=fold_pre c ts (addR c R t);exact ⟨e1++e2,by rw [List.foldl_cons,h2,h1,List.append_assoc]⟩
theorem fold_mem(c:List Nat):∀(ts R:List Nat),∀t∈ts,clAt c t∈(ts.foldl (addR c) R).map (clAt c)
 | [],_,t,h=>by cases h
 | s::ts,R,t,h=>by
  rcases List.mem_cons.1 h with rfl|h
  ·obtain ⟨e,he⟩:=fold_pre c ts (addR c R t)
   rw [List.foldl_cons,he,List.map_append];exact List.mem_append_left _ (addR_mem c R t)
  ·exact fold_mem c ts _ t h
theorem RInv.pre{g:List Nd}{c R:List Nat}{m:Nat}(h:RInv g c R m){e:List Nat}(hl:∀i∈R++e,i<g.length)(hn:((R++e).map (clAt c)).Nodup)(hm:m≤R.length):RInv g c (R++e) m:=by
 refine ⟨?_,hl,hn,fun k hk hkm t ht=>?_⟩
 ·rw [List.getElem?_append_left h.pos];exact h.hd
 ·rw [List.getElem_append_left (by omega)]at ht
  rw [List.map_append];exact List.mem_append_left _ (h.sh k (by omega) hkm t ht)
theorem RInv.add{g:List Nd}{c R:List Nat}{m:Nat}(h:RInv g c R m)(hm:m≤R.length)(t:Nat)(ht:t<g.length):RInv g c (addR c R t) m:=by
 unfold addR;split
 ·exact h
 ·rename_i hn
  refine h.pre (fun i hi=>?_) ?_ hm
  ·rcases List.mem_append.1 hi with hi|hi
   ·exact h.lt i hi
   ·rw [List.mem_singleton]at hi;subst hi;exact ht
  ·rw [List.map_append,List.nodup_append]
   refine ⟨h.nd,by simp,fun a ha b hb=>?_⟩
   simp only [List.map_cons,List.map_nil,List.mem_singleton]at hb;subst hb;rintro rfl;exact hn ha
theorem RInv.fold{g:List Nd}{c:List Nat}{m:Nat}:∀(ts R:List Nat),RInv g c R m→m≤R.length→(∀t∈ts,t<g.length)→RInv g c (ts.foldl (addR c) R) m
 | [],R,h,_,_=>h
 | t::ts,R,h,hm,ht=>by
  obtain ⟨e,he⟩:=addR_pre c R t;refine RInv.fold ts (addR c R t) (h.add hm t (ht t (.head _))) ?_ (fun s hs=>ht s (.tail _ hs))
  rw [he];simp;omega
theorem RInv.next{g:List Nd}{c R:List Nat}{m:Nat}(hs:shutG g)(h:RInv g c R m)(hm:m<R.length):RInv g c ((nodeAt g R[m]).to.foldl (addR c) R) (m+1):=by
 have h1:=RInv.fold (nodeAt g R[m]).to R h (Nat.le_of_lt hm) (fun t ht=>shut_at hs _ t ht)
 refine ⟨h1.hd,h1.lt,h1.nd,fun k hk hkm t ht=>?_⟩
 by_cases e:k=m
 ·subst e
  obtain ⟨x,hx⟩:=fold_pre c (nodeAt g R[k]).to R;have:((nodeAt g R[k]).to.foldl (addR c) R)[k]=R[k]:=by
   rw [List.getElem_of_eq hx,List.getElem_append_left hm]
  rw [this]at ht;exact fold_mem c _ R t ht
 ·exact h1.sh k hk (by omega) t ht
theorem RInv.start{g:List Nd}{c:List Nat}(h0:0<g.length):RInv g c [0] 0 :=
 ⟨rfl,fun i hi=>by rw [List.mem_singleton]at hi;omega,by simp,fun k _ h=>absurd h (Nat.not_lt_zero _)⟩
theorem lst_inv{g:List Nd}{c:List Nat}(hs:shutG g)(hc:CLS g c):∀(f m:Nat) (R:List Nat),RInv g c R m→m≤R.length→g.length≤f+m→∃M,RInv g c (lstR g c f m R) M∧(lstR g c f m R).length≤M
 | 0,m,R,h,_,hf=>⟨m,h,by have:=h.len hc;simp only [lstR];omega⟩
 | f+1,m,R,h,hm,hf=>by
  unfold lstR;by_cases hlt:m<R.length
  ·rw [List.getElem?_eq_getElem hlt]
   obtain ⟨e,he⟩:=fold_pre c (nodeAt g R[m]).to R;exact lst_inv hs hc f (m+1) _ (h.next hs hlt) (by rw [he];simp;omega) (by omega)
  ·rw [List.getElem?_eq_none (by omega)]
   exact ⟨m,h,Nat.le_of_not_lt hlt⟩
theorem idx_lt{c R:List Nat}{t:Nat}(h:clAt c t∈R.map (clAt c)):idxR c R t<R.length:=by
 have:=List.idxOf_lt_length_of_mem h;unfold idxR;simpa using this
theorem idx_at{c R:List Nat}{t:Nat}(h:clAt c t∈R.map (clAt c)):clAt c (R[idxR c R t]'(idx_lt h))=clAt c t:=by
 have:=List.getElem_idxOf (List.idxOf_lt_length_of_mem h);rw [List.getElem_map]at this;exact this
theorem made_alike{g:List Nd}{c R:List Nat}{M:Nat}(hs:shutG g)(hc:CLS g c)(h:RInv g c R M)(hM:R.length≤M):∀k m (hm:m<R.length),gT (R.map (mkN g c R)) k m=gT g k R[m]
 | 0,_,_=>rfl
 | k+1,m,hm=>by
  rw [gT_eq_iff];have e:nodeAt (R.map (mkN g c R)) m=mkN g c R R[m]:=by rw [nodeAt_lt _ m (by simpa using hm),List.getElem_map]
  rw [e];refine ⟨rfl,rfl,rfl,?_⟩;show ((nodeAt g R[m]).to.map (idxR c R)).map _=_
  rw [List.map_map];refine List.map_congr_left fun t ht=>?_
  have hmem:=h.sh m hm (by omega) t ht
  show gT _ k (idxR c R t)=_
  rw [made_alike hs hc h hM k _ (idx_lt hmem)];exact (hc.eq _ _ (h.lt _ (List.getElem_mem _)) (shut_at hs _ t ht)).1 (idx_at hmem) k
theorem least_alike{g:List Nd}{c:List Nat}(hs:shutG g)(hc:CLS g c)(h0:0<g.length):alikeG (leastG g c) g 0 0∧shutG (leastG g c)∧0<(leastG g c).length∧(leastG g c).length≤g.length:=by
 obtain ⟨M,h,hM⟩:=lst_inv hs hc g.length 0 [0] (RInv.start h0) (Nat.zero_le _) (by omega)
 unfold leastG;generalize lstR g c g.length 0 [0]=R at *;have hp:=h.pos;refine ⟨fun k=>?_,fun n hn t ht=>?_,by simpa using hp,by simpa using h.len hc⟩
 ·have:=made_alike hs hc h hM k 0 hp
  have e:R[0]=0:=by have:=h.hd;rw [List.getElem?_eq_getElem hp]at this;exact Option.some.inj this
  rw [e]at this;exact this
 ·obtain ⟨i,hi,rfl⟩:=List.mem_map.1 hn
  obtain ⟨s,hs',rfl⟩:=List.mem_map.1 ht;obtain ⟨k,hk,rfl⟩:=List.mem_iff_getElem.1 hi;rw [List.length_map];exact idx_lt (h.sh k hk (by omega) s hs')
theorem idx_same:∀(l l':List Nat) (a a':Nat),l.length=l'.length→(∀k (h:k<l.length) (h':k<l'.length),l[k]=a↔l'[k]=a')→l.idxOf a=l'.idxOf a'
 | [],[],_,_,_,_=>rfl
 | [],b::l',_,_,h,_=>by simp at h
 | b::l,[],_,_,h,_=>by simp at h
 | b::l,b'::l',a,a',hl,h=>by
  have h0:b=a↔b'=a':=h 0 (by simp) (by simp)
  have ih:=idx_same l l' a a' (by simpa using hl) (fun k hk hk'=>h (k+1) (by simpa using hk) (by simpa using hk'))
  rw [List.idxOf_cons,List.idxOf_cons];by_cases e:b=a
  ·have e':=h0.1 e
   subst e e';simp
  ·have e':¬b'=a':=fun x=>e (h0.2 x)
   have q1:(b==a)=false:=by simpa using e
   have q2:(b'==a')=false:=by simpa using e'
   rw [q1,q2,ih]
def corG(g h:List Nd)(R R':List Nat):Prop:=R.length=R'.length∧∀k (hk:k<R.length) (hk':k<R'.length),alikeG g h R[k] R'[k]
structure Two(g h:List Nd)(c c':List Nat):Prop where
 sg:shutG g
 sh:shutG h
 cg:CLS g c
 ch:CLS h c'
theorem cor_iff{g h:List Nd}{c c':List Nat}(T:Two g h c c'){R R':List Nat}(hl:∀i∈R,i<g.length)(hl':∀i∈R',i<h.length)(hR:corG g h R R'){t t':Nat}(ht:t<g.length)(ht':t'<h.length)(e:alikeG g h t t')(k:Nat)(hk:k<R.length)(hk':k<R'.length):clAt c R[k]=clAt c t↔clAt c' R'[k]=clAt c' t':=by
 rw [T.cg.eq _ _ (hl _ (List.getElem_mem hk)) ht,T.ch.eq _ _ (hl' _ (List.getElem_mem hk')) ht'];have:=hR.2 k hk hk';exact ⟨fun x=>alike_trans (alike_symm this) (alike_trans x e),fun x=>alike_trans this (alike_trans x (alike_symm e))⟩
theorem cor_idx{g h:List Nd}{c c':List Nat}(T:Two g h c c'){R R':List Nat}(hl:∀i∈R,i<g.length)(hl':∀i∈R',i<h.length)(hR:corG g h R R'){t t':Nat}(ht:t<g.length)(ht':t'<h.length)(e:alikeG g h t t'):idxR c R t=idxR c' R' t':=by
 unfold idxR;refine idx_same _ _ _ _ (by simpa using hR.1) (fun k hk hk'=>?_)
 rw [List.getElem_map,List.getElem_map];exact cor_iff T hl hl' hR ht ht' e k (by simpa using hk) (by simpa using hk')
theorem mem_idx(c R:List Nat)(t:Nat):clAt c t∈R.map (clAt c)↔idxR c R t<R.length:=by
 constructor
 ·exact idx_lt
 ·intro h
  unfold idxR at h;exact List.idxOf_lt_length_iff.1 (by simpa using h)
theorem cor_add{g h:List Nd}{c c':List Nat}(T:Two g h c c'){R R':List Nat}(hl:∀i∈R,i<g.length)(hl':∀i∈R',i<h.length)(hR:corG g h R R'){t t':Nat}(ht:t<g.length)(ht':t'<h.length)(e:alikeG g h t t'):corG g h (addR c R t) (addR c' R' t'):=by
 have hm:clAt c t∈R.map (clAt c)↔clAt c' t'∈R'.map (clAt c'):=by
  rw [mem_idx,mem_idx,cor_idx T hl hl' hR ht ht' e,hR.1]
 unfold addR;by_cases h1:clAt c t∈R.map (clAt c)
 ·rw [if_pos h1,if_pos (hm.1 h1)];exact hR
 ·rw [if_neg h1,if_neg (fun x=>h1 (hm.2 x))]
  refine ⟨by simp [hR.1],fun k hk hk'=>?_⟩
  by_cases hkl:k<R.length
  ·rw [List.getElem_append_left hkl,List.getElem_append_left (by rw [← hR.1];exact hkl)]
   exact hR.2 k hkl (by rw [← hR.1];exact hkl)
  ·obtain rfl:k=R.length:=by simp at hk;omega
   rw [List.getElem_append_right (nR _),List.getElem_append_right (by rw [hR.1];exact nR _)]
   simpa using e
theorem addR_lt{g:List Nd}{c R:List Nat}{t:Nat}(hl:∀i∈R,i<g.length)(ht:t<g.length):∀i∈addR c R t,i<g.length:=by
 intro i hi;unfold addR at hi;split at hi
 ·exact hl i hi
 ·rcases List.mem_append.1 hi with hi|hi
  ·exact hl i hi
  ·rw [List.mem_singleton]at hi;subst hi;exact ht
theorem cor_fold{g h:List Nd}{c c':List Nat}(T:Two g h c c'):∀(ts ts' R R':List Nat),(∀i∈R,i<g.length)→(∀i∈R',i<h.length)→corG g h R R'→(∀t∈ts,t<g.length)→(∀t∈ts',t<h.length)→corG g h ts ts' →
  corG g h (ts.foldl (addR c) R) (ts'.foldl (addR c') R')∧(∀i∈ts.foldl (addR c) R,i<g.length)∧(∀i∈ts'.foldl (addR c') R',i<h.length)
 | [],[],R,R',hl,hl',hR,_,_,_=>⟨hR,hl,hl'⟩
 | [],b::ts',_,_,_,_,_,_,_,h=>by have:=h.1;simp at this
 | a::ts,[],_,_,_,_,_,_,_,h=>by have:=h.1;simp at this
 | a::ts,b::ts',R,R',hl,hl',hR,ht,ht',hts=>by
  have e:alikeG g h a b:=hts.2 0 (by simp) (by simp)
  refine cor_fold T ts ts' (addR c R a) (addR c' R' b) (addR_lt hl (ht a (.head _))) (addR_lt hl' (ht' b (.head _))) (cor_add T hl hl' hR (ht a (.head _)) (ht' b (.head _)) e) (fun t h=>ht t (.tail _ h)) (fun t h=>ht' t (.tail _ h)) ⟨by have:=hts.1;simpa using this,fun k hk hk'=>?_⟩
  exact hts.2 (k+1) (by simpa using hk) (by simpa using hk')
theorem cor_lst{g h:List Nd}{c c':List Nat}(T:Two g h c c'):∀(f m:Nat) (R R':List Nat),(∀i∈R,i<g.length)→(∀i∈R',i<h.length)→corG g h R R'→corG g h (lstR g c f m R) (lstR h c' f m R')
 | 0,_,_,_,_,_,hR=>hR
 | f+1,m,R,R',hl,hl',hR=>by
  unfold lstR;by_cases hm:m<R.length
  ·have hm':m<R'.length:=by rw [← hR.1];exact hm
   rw [List.getElem?_eq_getElem hm,List.getElem?_eq_getElem hm'];obtain ⟨_,_,_,hln,hn⟩:=alike_next (hR.2 m hm hm');obtain ⟨h1,h2,h3⟩:=cor_fold T (nodeAt g R[m]).to (nodeAt h R'[m]).to R R' hl hl' hR (fun t ht=>shut_at T.sg _ t ht) (fun t ht=>shut_at T.sh _ t ht) ⟨hln,hn⟩
   exact cor_lst T f (m+1) _ _ h2 h3 h1
  ·rw [List.getElem?_eq_none (by omega),List.getElem?_eq_none (by have:=hR.1;omega)]
   exact hR
theorem lst_more{g:List Nd}{c:List Nat}(hs:shutG g)(hc:CLS g c):∀(f f' m:Nat) (R:List Nat),RInv g c R m→m≤R.length→g.length≤f+m→f≤f'→lstR g c f' m R=lstR g c f m R
 | 0,f',m,R,h,hm,hf,_=>by
  have:=h.len hc;cases f' with
  | zero=>rfl
  | succ f'=>unfold lstR;rw [List.getElem?_eq_none (by omega)]
 | f+1,0,_,_,_,_,_,h=>by omega
 | f+1,f'+1,m,R,h,hm,hf,hff=>by
  unfold lstR;by_cases hlt:m<R.length
  ·rw [List.getElem?_eq_getElem hlt]
   obtain ⟨e,he⟩:=fold_pre c (nodeAt g R[m]).to R;exact lst_more hs hc f f' (m+1) _ (h.next hs hlt) (by rw [he];simp;omega) (by omega) (by omega)
  ·rw [List.getElem?_eq_none (by omega)]
theorem least_canon{g h:List Nd}{c c':List Nat}(T:Two g h c c')(h0:0<g.length)(h0':0<h.length)(e:alikeG g h 0 0):leastG g c=leastG h c':=by
 have H:=cor_lst T (g.length+h.length) 0 [0] [0] (fun i hi=>by rw [List.mem_singleton]at hi;omega) (fun i hi=>by rw [List.mem_singleton]at hi;omega) ⟨rfl,fun k hk hk'=>by
  obtain rfl:k=0:=by simp at hk;omega
  exact e⟩
 rw [lst_more T.sg T.cg g.length _ 0 [0] (RInv.start h0) (Nat.zero_le _) (by omega) (by omega),lst_more T.sh T.ch h.length _ 0 [0] (RInv.start h0') (Nat.zero_le _) (by omega) (by omega)]at H
 obtain ⟨M,hI,hM⟩:=lst_inv T.sg T.cg g.length 0 [0] (RInv.start h0) (Nat.zero_le _) (by omega)
 obtain ⟨M',hI',hM'⟩:=lst_inv T.sh T.ch h.length 0 [0] (RInv.start h0') (Nat.zero_le _) (by omega)
 unfold leastG;generalize lstR g c g.length 0 [0]=R at *;generalize lstR h c' h.length 0 [0]=R' at *;refine List.ext_getElem (by simpa using H.1) fun k hk hk'=>?_
 rw [List.getElem_map,List.getElem_map];have hkR:k<R.length:=by simpa using hk
 have hkR':k<R'.length:=by simpa using hk'
 obtain ⟨a1,a2,a3,a4,a5⟩:=alike_next (H.2 k hkR hkR');unfold mkN;rw [a1,a2,a3];congr 1
 refine List.ext_getElem (by simpa using a4) fun q hq hq'=>?_
 rw [List.getElem_map,List.getElem_map];have q1:q<(nodeAt g R[k]).to.length:=by simpa using hq
 have q2:q<(nodeAt h R'[k]).to.length:=by simpa using hq'
 exact cor_idx T hI.lt hI'.lt H (shut_at T.sg _ _ (List.getElem_mem q1)) (shut_at T.sh _ _ (List.getElem_mem q2)) (a5 q q1 q2)
theorem least_same{g h:List Nd}{c c':List Nat}(T:Two g h c c')(h0:0<g.length)(h0':0<h.length):leastG g c=leastG h c'↔alikeG g h 0 0:=by
 refine ⟨fun e=>?_,least_canon T h0 h0'⟩
 have h1:=(least_alike T.sg T.cg h0).1;have h2:=(least_alike T.sh T.ch h0').1;rw [← e]at h2;exact alike_trans (alike_symm h1) h2
end Go.Proofs.YtmamabhhgfcjcaaGreatDoor
