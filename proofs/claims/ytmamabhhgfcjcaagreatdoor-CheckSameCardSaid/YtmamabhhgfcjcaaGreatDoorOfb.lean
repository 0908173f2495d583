/-
  One operation by its run.
-/
import Derived.Test.YtmamabhhgfcjcaaGreatDoorOq
import Derived.Maps.RangeRun
set_option maxRecDepth 100000
set_option maxHeartbeats 4000000
namespace Go.Proofs.YtmamabhhgfcjcaaGreatDoor
open Go.RowKit Go.Shelf Go.Maps
open Go.ChangeMaps (setBlock)
theorem perm_key{α : Type}{f : α → Nat}{l:List α}(hn:(l.map f).Nodup){e : α}(he:e∈l):l.Perm (e::l.filter fun x=>decide (f x≠f e)):=by
 induction l with
 | nil=>cases he
 | cons q l ih =>
  rw [List.map_cons,List.nodup_cons]at hn;rcases List.mem_cons.1 he with rfl|he
  ·rw [List.filter_cons_of_neg (by simp)]
   rw [List.filter_eq_self.2 (fun x hx=>by
    have:f x≠f e:=fun q=>hn.1 (by rw [← q];exact List.mem_map.2 ⟨x,hx,rfl⟩)
    simpa using this)]
  ·have hq:f q≠f e:=fun w=>hn.1 (by rw [w];exact List.mem_map.2 ⟨e,he,rfl⟩)
   rw [List.filter_cons_of_pos (by simpa using hq)]
   exact ((ih hn.2 he).cons q).trans (List.Perm.swap _ _ _)
theorem left_list(es:Array MapEntry)(seen:Array Nat):(leftOf es seen).toList=es.toList.filter fun e=>!seen.contains e.born:=by
 unfold leftOf;rw [Array.toList_filter]
theorem left_push(es:Array MapEntry)(seen:Array Nat)(b:Nat):(leftOf es (seen.push b)).toList=(leftOf es seen).toList.filter fun x=>decide (x.born≠b):=by
 rw [left_list,left_list,List.filter_filter];apply List.filter_congr
 intro x _;rw [Bool.eq_iff_iff];simp only [Bool.not_eq_true',Bool.and_eq_true,decide_eq_true_eq,← Bool.not_eq_true,Array.contains_iff_mem,Array.mem_push];constructor
 ·intro h;exact ⟨fun q=>h (.inr q),fun q=>h (.inl q)⟩
 ·rintro ⟨h1,h2⟩ (q|q)
  ·exact h2 q
  ·exact h1 q
theorem left_perm{es:Array MapEntry}{seen:Array Nat}{D:List MapEntry}(hn:(es.toList.map (·.born)).Nodup)(hp:es.toList.Perm (D++(leftOf es seen).toList)){e:MapEntry}(he:e∈(leftOf es seen).toList):es.toList.Perm ((D++[e])++(leftOf es (seen.push e.born)).toList):=by
 have hl:((leftOf es seen).toList.map (·.born)).Nodup:=hn.sublist ((by rw [left_list];exact List.filter_sublist:List.Sublist (leftOf es seen).toList es.toList).map _)
 rw [left_push];refine hp.trans ?_;rw [List.append_assoc];exact List.Perm.append_left _ (perm_key hl he)
def nmS:Value→ByteArray
 | .string s=>s
 | _=>⟨#[]⟩
def kvS(e:MapEntry):ByteArray × Value:=(nmS e.key,e.val)
theorem kv_perm{es:Array MapEntry}{vs:List (ByteArray × Value)}(hp:(es.toList.map fun e=>(e.key,e.val)).Perm (vs.map fun q=>(Value.string q.1,q.2))):(es.toList.map kvS).Perm vs:=by
 have:=hp.map (fun q:Value × Value=>(nmS q.1,q.2))
 rw [List.map_map,List.map_map]at this;have e2:vs.map ((fun q:Value × Value=>(nmS q.1,q.2)) ∘ fun q=>(Value.string q.1,q.2))=vs:=by
  rw [show ((fun q:Value × Value=>(nmS q.1,q.2)) ∘ fun q:ByteArray × Value=>(Value.string q.1,q.2))=id from rfl,List.map_id]
 rw [e2]at this;exact this
def TwoC(v:Value):Prop:=∃al n c k,v = .agg #[.slice al n c,.int .i64 k]
structure CPY(w:World)(bs bd r:Nat)(es:Array MapEntry)(clock:Nat)(D:List MapEntry)(seen:Array Nat)(W:World):Prop where
 src:W.heap[bs]? = some (.map es clock)
 it:W.heap[r]? = some (.mapIter (some bs) clock seen clock)
 dst:SMv W bd (D.map kvS)
 pm:es.toList.Perm (D++(leftOf es seen).toList)
 gr:w.grownBy W (some bd)
 sz:w.heap.size≤r∧r<W.heap.size
def seenOf(W:World)(r:Nat):Array Nat:=match W.heap[r]? with
 | some (.mapIter _ _ seen _)=>seen
 | _=>#[]
theorem mapT:Tryz.prog.underlying 68=some (.map 9 90):=by kernel_rfl
theorem set_ne{W:World}{r k:Nat}(o:Obj)(h:r≠k):(setBlock W r o).heap[k]? = W.heap[k]?:=by
 show (W.heap.setIfInBounds r o)[k]? = _
 rw [Array.getElem?_setIfInBounds_ne h]
theorem set_at'{W:World}{r:Nat}(o:Obj)(h:r<W.heap.size):(setBlock W r o).heap[r]? = some o:=by
 show (W.heap.setIfInBounds r o)[r]? = _
 simp [h]
theorem SMv.of_block{W W':World}{b:Nat}{vs:List (ByteArray × Value)}(h:SMv W b vs)(e:W'.heap[b]? = W.heap[b]?):SMv W' b vs:=by
 obtain ⟨es,clock,h1,h2⟩:=h;exact ⟨es,clock,e.trans h1,h2⟩
theorem CPY.step{w:World}{bs bd r:Nat}{es:Array MapEntry}{clock:Nat}{D:List MapEntry}{seen:Array Nat}{W:World}(h:CPY w bs bd r es clock D seen W)(hsd:bs≠bd)(hbs:bs<w.heap.size)(hbd:bd<w.heap.size)(hbn:(es.toList.map (·.born)).Nodup){vs:List (ByteArray × Value)}(hp:(es.toList.map fun e=>(e.key,e.val)).Perm (vs.map fun q=>(Value.string q.1,q.2)))(hn:(vs.map (·.1)).Nodup)
  {e:MapEntry} (he:e∈(leftOf es seen).toList) {w1:World} (hw1:w1=W∨w1=W.drew) (o:Obj) {W3:World} (hu:(W1:World)→W1=(setBlock w1 r (.mapIter (some bs) clock (seen.push e.born) clock)).alloc o→W1.grownBy W3 (some bd)∧W3.heap.size=W1.heap.size∧SMv W3 bd (putV (D.map kvS) (nmS e.key) e.val)):CPY w bs bd r es clock (D++[e]) (seen.push e.born) W3:=by
 have hh:w1.heap=W.heap:=by rcases hw1 with rfl|rfl <;> rfl
 obtain ⟨hg,hsz,hm⟩:=hu _ rfl;have hr1:w1.heap[r]? = some (.mapIter (some bs) clock seen clock):=by rw [hh];exact h.it
 have hrl:r<w1.heap.size:=by rw [hh];exact h.sz.2
 have hsz1:(setBlock w1 r (.mapIter (some bs) clock (seen.push e.born) clock)).heap.size=W.heap.size:=by simp [setBlock,hh]
 have hWs:=h.gr.size;have blk:∀k,k<W.heap.size→k≠r→k≠bd→W3.heap[k]? = W.heap[k]?:=by
  intro k hk hkr hkd;rw [hg.block k (by rw [World.size_alloc,hsz1];omega) (fun q=>hkd (Option.some.inj q)),Below.heap_alloc _ _ k (by rw [hsz1];exact hk),set_ne _ (Ne.symm hkr),hh]
 have hgw:w.grownBy W3 (some bd):=by
  refine ⟨?_,?_,?_,?_,?_⟩
  ·rw [hg.os];show w1.os=_;rcases hw1 with rfl|rfl <;> exact h.gr.os
  ·rw [hg.tape];show w1.tape=_;rcases hw1 with rfl|rfl <;> exact h.gr.tape
  ·rw [hg.output];show w1.output=_;rcases hw1 with rfl|rfl <;> exact h.gr.output
  ·rw [hsz,World.size_alloc,hsz1];omega
  ·intro k hk hne
   rw [blk k (by omega) (by have:=h.sz.1;omega) (fun q=>hne (by rw [q]))]
   exact h.gr.block k hk hne
 have hkeys:nmS e.key ∉ (D.map kvS).map (·.1):=by
  intro hm';have p1:=((left_perm hbn h.pm he).map kvS).symm.trans (kv_perm hp);have n1:(((D++[e])++(leftOf es (seen.push e.born)).toList).map kvS |>.map (·.1)).Nodup:=((p1.map (·.1)).nodup_iff).2 hn
  simp only [List.map_append,List.map_cons,List.map_nil]at n1;have n2:=(List.nodup_append.1 n1).1;have n3:=(List.nodup_append.1 n2).2.2 _ hm' (nmS e.key) (by simp [kvS])
  exact n3 rfl
 refine ⟨?_,?_,?_,left_perm hbn h.pm he,hgw,h.sz.1,by rw [hsz,World.size_alloc,hsz1];have:=h.sz.2;omega⟩
 ·rw [blk bs (by omega) (by have:=h.sz.1;omega) hsd];exact h.src
 ·rw [hg.block r (by rw [World.size_alloc,hsz1];have:=h.sz.2;omega) (fun q=>by have:=Option.some.inj q;have:=h.sz.1;omega),Below.heap_alloc _ _ r (by rw [hsz1];exact h.sz.2),set_at' _ hrl]
 ·have e1:putV (D.map kvS) (nmS e.key) e.val=(D++[e]).map kvS:=by
   unfold putV;rw [delV_self hkeys,List.map_append];rfl
  rw [← e1];exact hm
theorem copyM_any(vs:List (ByteArray × Value))(bs bd:Nat)(w:World)(hd:SMv w bd [])(hs:SMv w bs vs)(hsd:bs≠bd)(h2:∀q∈vs,TwoC q.2):
  Calls Tryz.prog 74 #[.map (some bd),.map (some bs)] w fun e w'=>e = .returned (.tuple #[])∧SMv w' bd vs∧w.grownBy w' (some bd):=by
 have hbs:=hs.lt;have hbd:=hd.lt;obtain ⟨es,clock,hsrc,hp,hn,hsz,hbn,hbc⟩:=hs;have hrange:=run_range_map (P:=Tryz.prog) w 68 _ _ bs es clock mapT hsrc;have H0:=hideK (show CPY w bs bd w.heap.size es clock [] #[] (w.alloc (.mapIter (some bs) clock #[] clock)) from ⟨(Below.heap_alloc _ _ bs hbs).trans hsrc,heap_alloc_new w _,hd.of_block (Below.heap_alloc _ _ bd hbd),by rw [left_list,List.filter_eq_self.2 (fun x _=>by simp)];exact List.Perm.refl _,World.grownBy_alloc w _ _,nR _,by simp⟩)
 have HP:=hideK hp;have HN:=hideK hn;have HS:=hideK hsz;have HBN:=hideK hbn;have HBC:=hideK hbc;have H2:=hideK h2;clear hd hp hn hsz hbn hbc h2 hsrc;go_enter Tryz.func74,Tryz.ntmps74
 go_wp2_with fail
 go_loopw [8] (fun _ wr=>∃D seen,CPY w bs bd w.heap.size es clock D seen wr) (fun _ wr=>(leftOf es (seenOf wr w.heap.size)).size)
 case atStart=>exact ⟨_,_,H0.out⟩
 case round =>
  obtain ⟨D,seen,hC⟩:=hrel;have hseen:seenOf wr w.heap.size=seen:=by unfold seenOf;rw [hC.it]
  clear hrange H0;rcases run_next_at (P:=Tryz.prog) wr 0 w.heap.size bs clock clock seen es clock hC.it hC.src (fun x hx=>HBC.out x hx) (nR _) with ⟨h0,hnext⟩|⟨e,he,w1,hal,hnext⟩
  ·have HF:=hideK (show SMv wr bd vs from by
    have hnil:(leftOf es seen).toList=[]:=by rw [← List.length_eq_zero_iff];simpa using h0
    have pm:=hC.pm;rw [hnil,List.append_nil]at pm;exact hC.dst.perm ((pm.map kvS).symm.trans (kv_perm HP.out)))
   have HG:=hideK hC.gr;clear hC hseen h0;go_wp2_with fail
   go_end0
   exact ⟨rfl,HF.out,HG.out⟩
  ·have hmem:kvS e∈vs:=(kv_perm HP.out).mem_iff.1 (List.mem_map.2 ⟨e,by rw [left_list]at he;exact (List.mem_filter.1 he).1,rfl⟩)
   have hkey:e.key = .string (nmS e.key):=by
    have h1:(e.key,e.val)∈vs.map fun q=>(Value.string q.1,q.2):=HP.out.mem_iff.1 (List.mem_map.2 ⟨e,by rw [left_list]at he;exact (List.mem_filter.1 he).1,rfl⟩)
    obtain ⟨q,_,h2⟩:=List.mem_map.1 h1;have h3:=(Prod.mk.inj h2).1;rw [← h3];rfl
   obtain ⟨al,n,c,k,hval⟩:=H2.out _ hmem;have hnm:=HS.out _ hmem;simp only [kvS]at hval hnm;have hw1:w1.heap=wr.heap:=by rcases hal with rfl|rfl <;> rfl
   have hrl:w.heap.size<w1.heap.size:=by rw [hw1];exact hC.sz.2
   have hen:=run_entry_at (P:=Tryz.prog) (setBlock w1 w.heap.size (Obj.mapIter (some bs) clock (seen.push e.born) clock)) w.heap.size bs clock seen es clock e (set_at' _ hrl) (by rw [set_ne _ (by omega),hw1];exact hC.src) (by rw [left_list]at he;exact (List.mem_filter.1 he).1) HBN.out
   have hd2:SMv ((setBlock w1 w.heap.size (Obj.mapIter (some bs) clock (seen.push e.born) clock)).alloc (.cells #[.slice al n c,.int .i64 k] 90)) bd (D.map kvS):=hC.dst.of_block (by
    rw [Below.heap_alloc _ _ bd (by have:=hC.gr.size;simp [setBlock,hw1];omega),set_ne _ (by omega),hw1])
   obtain ⟨W3,hupd,hg3,hs3,hm3⟩:=sm_upd mapT hd2 hnm (.agg #[.slice al n c,.int .i64 k]);have HC:=hideK (hC.step hsd hbs hbd HBN.out HP.out HN.out he hal (.cells #[.slice al n c,.int .i64 k] 90) (W3:=W3) (fun W1 hW1=>by subst hW1;exact ⟨hg3,hs3,by rw [hval];exact hm3⟩))
   have HM:=hideK (show (leftOf es (seen.push e.born)).size<(leftOf es seen).size from by
    have:=(perm_key (HBN.out.sublist ((by rw [left_list];exact List.filter_sublist:List.Sublist (leftOf es seen).toList es.toList).map _)) he).length_eq
    rw [← left_push]at this;simp at this;omega)
   have HSN:=hideK (show seenOf wr w.heap.size=seen∧seenOf W3 w.heap.size=seen.push e.born from ⟨hseen,by unfold seenOf;rw [HC.out.it]⟩)
   rw [hkey,hval]at hnext hen;generalize setBlock w1 w.heap.size (Obj.mapIter (some bs) clock (seen.push e.born) clock)=V1 at *;generalize nmS e.key=nm at *;clear hC hseen hmem hkey hval hnm hw1 hrl hd2 hg3 hs3 hm3 hal he;go_wp2_with fail
   go_roundw
   case rel=>exact ⟨_,_,HC.out⟩
   case measure=>rw [HSN.out.1,HSN.out.2];exact HM.out
theorem copyNil_any(bd:Nat)(w:World):Calls Tryz.prog 74 #[.map (some bd),.map none] w fun e w'=>e = .returned (.tuple #[])∧w.grownBy w' none:=by
 have hrange:=run_range_nilMap (P:=Tryz.prog) w 68 _ _ mapT;have hnext:=run_next_nilMap (P:=Tryz.prog) w 0 0 0 #[];go_enter Tryz.func74,Tryz.ntmps74
 go_wp2_with fail
 go_loopw [8] (fun _ wr=>wr=w.alloc (.mapIter none 0 #[] 0)) (fun _ _=>0)
 case atStart=>rfl
 case round =>
  subst hrel;have HG:=hideK (World.grownBy_alloc w (.mapIter none 0 #[] 0) none);clear hrange;go_wp2_with fail
  go_end0
  exact ⟨rfl,HG.out⟩
section
variable {P:Program} {ops:Array Oper} {Q:Exit→Act→World→Prop} {S:World→Prop}
def tailOK(ops:Array Oper)(m:Nat):Bool:=ops.toList.zipIdx.all fun q=>decide (q.2<m) || (List.range q.2).all fun j=>waitsFor q.1 j
theorem tailOK_spec{m:Nat}(h:tailOK ops m=true){i:Nat}{o:Oper}(hi:ops[i]? = some o)(hm:m≤i){j:Nat}(hj:j<i):waitsFor o j=true:=by
 unfold tailOK at h;have hi':ops.toList[i]? = some o:=by rw [Array.getElem?_toList];exact hi
 have h1:=List.all_eq_true.1 h _ (mem_zip hi');simp only [Bool.or_eq_true,decide_eq_true_eq]at h1;rcases h1 with h1|h1
 ·omega
 ·exact List.all_eq_true.1 h1 j (List.mem_range.2 hj)
theorem any_tail(hOK:seqOK ops=true){m:Nat}(hT:tailOK ops m=true):∀(t:List Oper) (k:Nat),ops.toList.drop k=t→m≤k→∀(L:Array Bool),L.size=ops.size→(∀i,i<ops.size→(L.getD i false=true↔i<k))→∀(n:Nat),ops.size - k≤n→∀(a:Act) (w:World),wpList P ops Q t a w→wpAny P .any ops Q n L a w:=by
 intro t;induction t with
 | nil =>
  intro k hk _ L hL hl n _ a w h;have hkn:ops.size≤k:=by
   have:=List.drop_eq_nil_iff.1 hk;simpa using this
  refine wpAny_done ?_ h n;unfold Region.ready;rw [List.filter_eq_nil_iff];intro i hi;have hi':=List.mem_range.1 hi;have:=(hl i hi').2 (by omega)
  rw [getD_bool (by omega) false true]at this
  simp [this]
 | cons o t ih =>
  intro k hk hmk L hL hl n hn a w h;have hkn:k<ops.size:=by
   apply Classical.byContradiction
   intro hge;have:ops.toList.drop k=[]:=List.drop_eq_nil_iff.2 (by simp;omega)
   rw [this]at hk;cases hk
  have hd:=List.drop_eq_getElem_cons (l:=ops.toList) (i:=k) (by simpa using hkn)
  rw [hk]at hd;have ho:ops[k]? = some o:=by
   rw [Array.getElem?_eq_getElem hkn];have:=(List.cons.inj hd).1;rw [this];simp
  have ht:ops.toList.drop (k+1)=t:=(List.cons.inj hd).2.symm;obtain ⟨n,rfl⟩:∃n',n=n'+1:=⟨n - 1,by omega⟩
  have hkm:k∈Region.ready .any ops L:=mem_ready.2 ⟨by
   rw [getD_bool (by omega) true false]
   cases hq:L.getD k false with
   | false=>rfl
   | true=>exact absurd ((hl k hkn).1 hq) (Nat.lt_irrefl _),o,ho,fun e he hb=>by
   have hlt:=(seqOK_spec hOK ho).2.1 e he hb;exact (hl e.on (by omega)).2 hlt⟩
  refine ⟨fun h0=>(by rw [h0]at hkm;cases hkm),fun i hi=>?_⟩
  obtain ⟨hun,oi,hoi,hdep⟩:=mem_ready.1 hi;have hil:i<ops.size:=(Array.getElem?_eq_some_iff.1 hoi).1;have hik:i=k:=by
   rw [getD_bool (by omega) true false]at hun
   rcases Nat.lt_trichotomy i k with q|q|q
   ·rw [(hl i hil).2 q]at hun;cases hun
   ·exact q
   ·exfalso
    obtain ⟨e,he,hb,hon⟩:=waitsFor_iff.1 (tailOK_spec hT hoi (by omega) q)
    have:=hdep e he hb;rw [hon]at this;exact absurd ((hl k hkn).1 this) (Nat.lt_irrefl _)
  subst hik;have next:∀a' w',wpList P ops Q t a' w'→wpAny P .any ops Q n (L.setIfInBounds i true) a' w':=fun a' w' h'=>ih (i+1) ht (by omega) _ (by simp [hL]) (fun j hj=>by
   by_cases hij:i=j
   ·subst hij
    rw [set_at (by omega)]
    exact ⟨fun _=>Nat.lt_succ_self _,fun _=>rfl⟩
   ·rw [getD_set_ne false hij,hl j hj];omega) n (by omega) a' w' h'
  unfold wpOp;simp only [ho];unfold wpList at h;split
  ·rename_i hw
   rw [if_pos hw]at h;exact h.imp (Oper.wp_mono next) id
  ·rename_i hw
   rw [if_neg hw]at h;exact next _ _ h
theorem any_of_seqT(hOK:seqOK ops=true){m:Nat}(hm:m≤ops.size)(hT:tailOK ops m=true){a:Act}{A:Nat→Act}{V:Nat→Value}(h0:A 0=a)(h1:∀i,i<m→∃o,ops[i]? = some o∧YldS P ops S o (V i) (A i)∧A (i+1)=(A i).put o.dst (V i))(h2:∀w,S w→wpList P ops Q (ops.toList.drop m) (A m) w):
  ∀(n:Nat) (L:Array Bool) (b:Act) (w:World),SInvR ops a (A m) L b→(∀i,m≤i→i<ops.size→L.getD i false=false)→S w→((List.range m).filter fun i=>!L.getD i true).length+(ops.size - m)≤n→wpAny P .any ops Q n L b w:=by
 have hput:∀i o,i<m→ops[i]? = some o→A (i+1)=(A i).put o.dst (V i):=fun i o him ho=>by
  obtain ⟨o',q1,_,q3⟩:=h1 i him;rw [ho]at q1;cases q1;exact q3
 have hdfs:∀i,i≤m→(A i).defers=a.defers∧(A i).tmps.size=a.tmps.size:=by
  intro i;induction i with
  | zero=>intro _;rw [h0];exact ⟨rfl,rfl⟩
  | succ i ih =>
   intro hi;obtain ⟨o,q1,_,q3⟩:=h1 i hi;rw [q3,put_dfs,act_size];exact ih (by omega)
 have F1:∀i,i≤m→∀t,(∀k o,k<i→ops[k]? = some o→o.dst≠some t)→(A i).tmps[t]? = a.tmps[t]?:=by
  intro i;induction i with
  | zero=>intro _ t _;rw [h0]
  | succ i ih =>
   intro hi t ht;obtain ⟨o,q1,_,q3⟩:=h1 i hi;rw [q3,put_ne _ _ _ _ (ht i o (Nat.lt_succ_self _) q1)];exact ih (by omega) t (fun k o hk=>ht k o (by omega))
 have F2:∀k o t,ops[k]? = some o→o.dst=some t→∀i,k+1≤i→i≤m→(A i).tmps[t]? = (A (k+1)).tmps[t]?:=by
  intro k o t hk hd i;induction i with
  | zero=>intro hi _;omega
  | succ i ih =>
   intro hki hi;by_cases hq:i=k
   ·subst hq;rfl
   obtain ⟨o',q1,_,q3⟩:=h1 i hi;rw [q3,put_ne]
   ·exact ih (by omega) (by omega)
   ·intro q
    rcases ((seqOK_spec hOK q1).2.2 k o t hk hd).1 with e|e
    ·omega
    ·exact e q
 have fin:∀(n:Nat) (L:Array Bool) (b:Act) (w:World),SInvR ops a (A m) L b→(∀i,m≤i→i<ops.size→L.getD i false=false)→S w→(∀i,i<m→L.getD i false=true)→ops.size - m≤n→wpAny P .any ops Q n L b w:=by
  intro n L b w hI hno hS hall hn;have:b=A m:=by
   have hd:=hI.dfs.trans (hdfs _ (nR _)).1.symm;have ht:b.tmps=(A m).tmps:=by
    apply Array.ext_getElem?
    intro t;by_cases hx:∃(i:Nat) (o:Oper),i<m∧ops[i]? = some o∧o.dst=some t
    ·obtain ⟨i,o,him,q1,q2⟩:=hx
     exact hI.done i o t q1 q2 (hall i him)
    ·have hn':∀(i:Nat) (o:Oper),i<m→ops[i]? = some o→o.dst≠some t:=fun i o him q1 q2=>hx ⟨i,o,him,q1,q2⟩
     rw [hI.rest t (fun i o q1 q2=>by
      by_cases him:i<m
      ·exact absurd q2 (hn' i o him q1)
      ·exact hno i (by omega) (Array.getElem?_eq_some_iff.1 q1).1),F1 _ (nR _) t (fun k o hk q=>hn' k o hk q)]
   cases b;cases hA:A m;rw [hA]at hd ht;simp only at hd ht;rw [hd,ht]
  subst this;exact any_tail hOK hT _ m rfl (nR _) L hI.size (fun i hi=>⟨fun q=>Classical.byContradiction fun hge=>(by
   rw [hno i (by omega) hi]at q;cases q),fun q=>hall i q⟩) n hn _ w (h2 w hS)
 intro n;induction n with
 | zero =>
  intro L b w hI hno hS hc;exact fin 0 L b w hI hno hS (fun i hi=>by
   have hnil:((List.range m).filter fun i=>!L.getD i true)=[]:=List.length_eq_zero_iff.1 (by omega)
   have:=List.filter_eq_nil_iff.1 hnil i (List.mem_range.2 hi);rw [getD_bool (by rw [hI.size];omega) false true]
   simpa using this) (by omega)
 | succ n ih =>
  intro L b w hI hno hS hc;by_cases hall:∀i,i<m→L.getD i false=true
  ·exact fin (n+1) L b w hI hno hS hall (by omega)
  have least:Region.ready .any ops L=[]→False:=by
   intro hr;apply hall
   intro i;induction i using Nat.strongRecOn with
   | _ i ih =>
    intro hi;have hi':i<ops.size:=by omega
    cases hq:L.getD i false with
    | true=>rfl
    | false =>
     exfalso
     have hmm:i∈Region.ready .any ops L:=mem_ready.2 ⟨by rw [getD_bool (by rw [hI.size];exact hi') true false];exact hq,ops[i],Array.getElem?_eq_getElem hi',fun e he hb=>by
      have hlt:=(seqOK_spec hOK (Array.getElem?_eq_getElem hi')).2.1 e he hb;exact ih e.on hlt (by omega)⟩
     rw [hr]at hmm;cases hmm
  refine ⟨fun hr=>(least hr).elim,fun j hj=>?_⟩
  obtain ⟨hun,oj,hoj,hdep⟩:=mem_ready.1 hj;have hjl:j<ops.size:=(Array.getElem?_eq_some_iff.1 hoj).1;have hjm:j<m:=by
   apply Classical.byContradiction
   intro hge;apply hall
   intro i hi;obtain ⟨e,he,hb,hon⟩:=waitsFor_iff.1 (tailOK_spec hT hoj (by omega) (show i<j by omega))
   have:=hdep e he hb;rw [hon]at this;exact this
  have hunf:L.getD j false=false:=by rw [getD_bool (by rw [hI.size];exact hjl) false true];exact hun
  obtain ⟨hsel,_,hpair⟩:=seqOK_spec hOK hoj;obtain ⟨o',q1,hY,hA⟩:=h1 j hjm;rw [hoj]at q1;cases q1;have hlook:∀t∈oj.looksAt ops,b.tmps[t]? = (A j).tmps[t]?:=by
   intro t ht;by_cases hx:∃(i:Nat) (o:Oper),ops[i]? = some o∧o.dst=some t
   ·obtain ⟨i,oi,hi,hd⟩:=hx
    have hil:=(Array.getElem?_eq_some_iff.1 hi).1;rcases (hpair i oi t hi hd).2 ht with ⟨hlt,hw⟩|⟨hlt,hw⟩
    ·obtain ⟨e,he,hb,hon⟩:=waitsFor_iff.1 hw
     have hLi:=hdep e he hb;rw [hon]at hLi;rw [hI.done i oi t hi hd hLi,F2 i oi t hi hd m (by omega) (nR _),F2 i oi t hi hd j (by omega) (by omega)]
    ·have only:∀k o,ops[k]? = some o→o.dst=some t→k=i:=fun k o hk hkd=>by
      rcases ((seqOK_spec hOK hk).2.2 i oi t hi hd).1 with e|e
      ·exact e.symm
      ·exact absurd hkd e
     rw [hI.rest t (fun k o hk hkd=>by
      obtain rfl:=only k o hk hkd;rw [hi]at hk;cases hk;cases hq:L.getD k false with
      | false=>rfl
      | true =>
       obtain ⟨e,he,hb,hon⟩:=waitsFor_iff.1 hw;have:=hI.shut k _ hi hq e he hb;rw [hon,hunf]at this;cases this),F1 j (by omega) t (fun k o hk hko hkd=>by
      have:=only k o hko hkd;omega)]
   ·have hn:∀(i:Nat) (o:Oper),ops[i]? = some o→o.dst≠some t:=fun i o q1 q2=>hx ⟨i,o,q1,q2⟩
    rw [hI.rest t (fun i o q1 q2=>absurd q2 (hn i o q1)),F1 j (by omega) t (fun k o _ q=>hn k o q)]
  have hszj:=(hdfs j (by omega)).2
  have next:∀w',S w'→wpAny P .any ops Q n (L.setIfInBounds j true) (b.put oj.dst (V j)) w':=by
   intro w' hS';refine ih _ _ w' ⟨by simp [hI.size],?_,?_,?_,by rw [put_dfs];exact hI.dfs,by rw [act_size];exact hI.sz⟩ (fun i h1 h2=>by rw [getD_set_ne false (by omega)];exact hno i h1 h2) hS' ?_
   ·intro i o hi hLi e he hb
    by_cases hij:j=i
    ·subst hij
     rw [hoj]at hi;cases hi;exact getD_set_true (hdep e he hb)
    ·rw [getD_set_ne false hij]at hLi
     exact getD_set_true (hI.shut i o hi hLi e he hb)
   ·intro i o t hi hd hLi
    by_cases hij:j=i
    ·subst hij
     rw [hoj]at hi;cases hi;rw [hd,F2 j oj t hoj hd m (by omega) (nR _),hput j oj hjm hoj,hd]
     exact put_at _ _ _ _ (by rw [hI.sz,hszj])
    ·rw [getD_set_ne false hij]at hLi
     rw [put_ne _ _ _ _ (fun q=>by
      rcases (hpair i o t hi hd).1 with e|e
      ·exact hij e.symm
      ·exact e q)]
     exact hI.done i o t hi hd hLi
   ·intro t ht
    rw [put_ne _ _ _ _ (fun q=>by
     have:=ht j oj hoj q;rw [set_at (by rw [hI.size];exact hjl)]at this;cases this)]
    exact hI.rest t (fun i o hi hd=>by
     have:=ht i o hi hd;by_cases hij:j=i
     ·subst hij;exact hunf
     ·rw [getD_set_ne false hij]at this;exact this)
   ·have:=count_less (p:=fun i=>!L.getD i true) (q:=fun i=>!(L.setIfInBounds j true).getD i true) (List.range m) (fun x _ hx=>by
     by_cases hij:j=x
     ·subst hij;rw [hun];rfl
     ·rw [getD_set_ne true hij]at hx;exact hx) ⟨j,List.mem_range.2 hjm,by rw [hun];rfl,by rw [set_at (by rw [hI.size];exact hjl)];rfl⟩
    omega
  unfold wpOp;simp only [hoj];rw [wanted_same (c:=A j) hlook];rcases hY with ⟨hw,hy⟩|⟨hw,hv⟩
  ·rw [if_pos hw]
   refine .inl ?_;have:=hy w hS;unfold Oper.wp at this ⊢;rw [exec_same hsel hlook];exact upon_turn (by rw [hI.sz,hszj]) next this
  ·rw [if_neg (by rw [hw];simp),← hv]
   exact next w hS
theorem region_seqT{id:Nat}{a:Act}{w:World}(S:World→Prop)(m:Nat)(l:List Nat)(hl:List.range m=l)(hmm:decide (m≤ops.size)=true)(hm:P.follows .mixedOrders=true)(hOK:seqOK ops=true)(hT:tailOK ops m=true)(hS:S w.drew)(h:SeqS P ops S (fun a=>∀w,S w→wpList P ops Q (ops.toList.drop m) a w) l a):(Code.region id ops true).wp P Q a w:=by
 rw [← hl,List.range_eq_range']at h;have hmo:m≤ops.size:=of_decide_eq_true hmm;obtain ⟨A,V,h0,h1,h2⟩:=SeqS.acts m 0 a h;refine wp_region_any hm (any_of_seqT hOK hmo hT h0 (fun i hi=>by simpa using h1 i hi) h2 ops.size _ a _ ⟨by simp,?_,?_,?_,rfl,rfl⟩ ?_ hS ?_)
 ·intro i o hi hL;simp [Array.getD]at hL
 ·intro i o t hi hd hL;simp [Array.getD]at hL
 ·intro t _;rfl
 ·intro i _ hi;simp [Array.getD]
 ·have:=List.length_filter_le (fun i=>!(Array.replicate ops.size false).getD i true) (List.range m)
  simp only [List.length_range]at this;omega
end
end Go.Proofs.YtmamabhhgfcjcaaGreatDoor
