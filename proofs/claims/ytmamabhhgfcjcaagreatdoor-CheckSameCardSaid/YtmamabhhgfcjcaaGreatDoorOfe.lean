/-
  The contract of check.behind: what is done at an end.
-/
import Derived.Test.YtmamabhhgfcjcaaGreatDoorOpk
set_option maxRecDepth 100000
set_option maxHeartbeats 8000000
namespace Go.Proofs.YtmamabhhgfcjcaaGreatDoor
open Go.RowKit Go.Shelf
theorem behindBad(p:Pr)(a:PrA)(s:Sc)(b:ScA)(r:Int)(w:World)(hk:p.kind≠11∧p.kind≠12)(hr:r≠0)
  (c:∀W,Below w.heap.size w W→Calls Tryz.prog 62 #[prVal p a,scVal s b] W fun e w'=>e = .returned (.tuple #[.agg #[.slice none 0 0,.int .i64 0],.int .i64 r])∧Below W.heap.size W w') :
  Calls Tryz.prog 44 #[prVal p a,scVal s b] w fun e w'=>e = .returned (.tuple #[scVal s b,.int .i64 r])∧Below w.heap.size w w':=by
 have H4:=hideK (BHB.new w p a s b);have CC:=hideK (c (((w.alloc (.cells (pK p a) 40)).alloc (.cells #[.slice b.va s.vs.length b.vc,.slice b.sa s.ss.length b.sc,.map b.mp] 70)).alloc (.cells #[.slice none 0 0,.slice none 0 0,.map none] 70)) H4.out.bl);have hk1:(p.kind==11)=false:=by simpa using hk.1
 have hk2:(p.kind==12)=false:=by simpa using hk.2
 have hr0:(r != 0)=true:=by simpa using hr
 simp only [scVal,prVal]at H4 CC ⊢;clear hk c hr;go_enter Tryz.func44,Tryz.ntmps44
 go_upto_region 8 with fail
 clear hk1 hk2;generalize (((w.alloc (.cells (pK p a) 40)).alloc (.cells #[.slice b.va s.vs.length b.vc,.slice b.sa s.ss.length b.sc,.map b.mp] 70)).alloc (.cells #[.slice none 0 0,.slice none 0 0,.map none] 70))=V at *;refine wp_region_lit ?_;refine wpList_loadW rfl rfl rfl (load_pr H4.out.at0) ?_;simp only [prVal,Act.put,List.setIfInBounds_toArray,List.set_cons_zero,List.set_cons_succ];have c0:=H4.out.c0;have c1:=H4.out.c1;have c2:=H4.out.c2;go_wp2_with fail
 refine CC.out.mono ?_;rintro e w5 ⟨rfl,hb5⟩;have H5:=hideK (H4.out.keep hb5);clear CC hb5 H4 c0 c1 c2;go_upto_region 9 with fail
 have H6:=hideK (H5.out.keep ((Below.refl w5.heap.size w5).alloc (nR _) (.cells #[.slice none 0 0,.int .i64 0] 90)));generalize w5.alloc (.cells #[.slice none 0 0,.int .i64 0] 90)=V6 at *;clear H5;obtain ⟨W9,e9,r0,r1,r2,hb9,_⟩:=H6.out.fin (.slice b.va s.vs.length b.vc) (.slice b.sa s.ss.length b.sc) (.map b.mp);obtain ⟨_,_,_,c0,c1,c2,z0,z1,z2,ff⟩:=H6.out;have f0:=ff 0;have f1:=ff 1;have f2:=ff 2;have HB:=hideK hb9;have HE:=hideK e9;clear ff hb9 e9 H6;go_wp2_with fail
 rw [HE.out];refine bodyPost_ret (v:=.tuple #[.agg #[.slice b.va s.vs.length b.vc,.slice b.sa s.ss.length b.sc,.map b.mp],.int .i64 r]) (by simp [results,Tryz.results44,go_sem,r0,r1,r2]) rfl ?_
 exact ⟨rfl,HB.out⟩
theorem behindGood(p:Pr)(a:PrA)(s s2:Sc)(b:ScA)(x:En)(r:Int)(w0 w:World)(Φ : ScA→World→Prop)(hk:p.kind≠11∧p.kind≠12)
  (hΦ : ∀b' W W' q,W.cell? ⟨q,0,none⟩=some (.slice none 0 0)→w.heap.size≤q→(∀k,k≠q→W'.heap[k]? = W.heap[k]?)→Φ b' W→Φ b' W')
  (c:∀W,Below w.heap.size w W→Calls Tryz.prog 62 #[prVal p a,scVal s b] W fun e w'=>(∃ag cg,EnAt w0 x ag∧e = .returned (.tuple #[enVal x ag cg,.int .i64 0]))∧Below W.heap.size W w')
  (d:∀ag cg,EnAt w0 x ag→∀W,Below w.heap.size w W→Calls Tryz.prog 73 #[prVal p a,scVal s b,enVal x ag cg] W fun e w'=>(∃b',e = .returned (.tuple #[scVal s2 b',.int .i64 r])∧Φ b' w')∧Below W.heap.size W w') :
  Calls Tryz.prog 44 #[prVal p a,scVal s b] w fun e w'=>(∃b',e = .returned (.tuple #[scVal s2 b',.int .i64 r])∧Φ b' w')∧Below w.heap.size w w':=by
 have H4:=hideK (BHB.new w p a s b);have CC:=hideK (c (((w.alloc (.cells (pK p a) 40)).alloc (.cells #[.slice b.va s.vs.length b.vc,.slice b.sa s.ss.length b.sc,.map b.mp] 70)).alloc (.cells #[.slice none 0 0,.slice none 0 0,.map none] 70)) H4.out.bl);have HD:=hideK d;have HP:=hideK hΦ;have hk1:(p.kind==11)=false:=by simpa using hk.1
 have hk2:(p.kind==12)=false:=by simpa using hk.2
 simp only [scVal,prVal,enVal]at H4 CC HD ⊢;clear hk c d hΦ;go_enter Tryz.func44,Tryz.ntmps44
 go_upto_region 8 with fail
 clear hk1 hk2;generalize (((w.alloc (.cells (pK p a) 40)).alloc (.cells #[.slice b.va s.vs.length b.vc,.slice b.sa s.ss.length b.sc,.map b.mp] 70)).alloc (.cells #[.slice none 0 0,.slice none 0 0,.map none] 70))=V at *;refine wp_region_lit ?_;refine wpList_loadW rfl rfl rfl (load_pr H4.out.at0) ?_;simp only [prVal,Act.put,List.setIfInBounds_toArray,List.set_cons_zero,List.set_cons_succ];have c0:=H4.out.c0;have c1:=H4.out.c1;have c2:=H4.out.c2;go_wp2_with fail
 refine CC.out.mono ?_;rintro e w5 ⟨⟨ag,cg,hx,rfl⟩,hb5⟩;have H5:=hideK (H4.out.keep hb5);have DD:=hideK (HD.out ag cg hx);clear CC hb5 H4 c0 c1 c2 HD hx;go_upto_region 11 with fail
 have H6:=hideK (H5.out.keep ((Below.refl w5.heap.size w5).alloc (nR _) (.cells #[.slice ag x.g.length cg,.int .i64 (x.k:Int)] 90)));have e0:(w5.alloc (.cells #[.slice ag x.g.length cg,.int .i64 (x.k:Int)] 90)).cell? ⟨w5.heap.size,0,none⟩=some (.slice ag x.g.length cg):=by go_cell
 have e1:(w5.alloc (.cells #[.slice ag x.g.length cg,.int .i64 (x.k:Int)] 90)).cell? ⟨w5.heap.size,1,none⟩=some (.int .i64 (x.k:Int)):=by go_cell
 generalize w5.alloc (.cells #[.slice ag x.g.length cg,.int .i64 (x.k:Int)] 90)=V6 at *;clear H5;have cc:=DD.out V6 H6.out.bl;refine wp_region_lit ?_;refine wpList_loadW rfl rfl rfl (load_pr H6.out.at0) ?_;simp only [prVal,Act.put,List.setIfInBounds_toArray,List.set_cons_zero,List.set_cons_succ];have c0:=H6.out.c0;have c1:=H6.out.c1;have c2:=H6.out.c2;go_wp2_with fail
 refine cc.mono ?_;rintro e w7 ⟨⟨b',rfl,hφ⟩,hb7⟩;have H7:=hideK (H6.out.keep hb7);have HF:=hideK hφ;clear cc hb7 H6 c0 c1 c2 DD hφ e0 e1;obtain ⟨W9,e9,r0,r1,r2,hb9,hk9⟩:=H7.out.fin (.slice b'.va s2.vs.length b'.vc) (.slice b'.sa s2.ss.length b'.sc) (.map b'.mp);obtain ⟨_,_,_,c0,c1,c2,z0,z1,z2,ff⟩:=H7.out;have f0:=ff 0;have f1:=ff 1;have f2:=ff 2;have HB:=hideK hb9;have HE:=hideK e9;have HF9:=hideK (HP.out b' w7 W9 _ z0 (by omega) hk9 HF.out)
 clear ff hb9 e9 hk9 H7;go_wp2_with fail
 rw [HE.out];refine bodyPost_ret (v:=.tuple #[.agg #[.slice b'.va s2.vs.length b'.vc,.slice b'.sa s2.ss.length b'.sc,.map b'.mp],.int .i64 r]) (by simp [results,Tryz.results44,go_sem,r0,r1,r2]) rfl ?_
 exact ⟨⟨b',rfl,HF9.out⟩,HB.out⟩
structure RowN(w W:World)(vs:List Value)(aa:OAd)(ca:Nat):Prop where
 row:∃q,aa=some ⟨q,0,none⟩∧w.heap.size≤q∧q<W.heap.size∧∀i (h:i<vs.length),W.cell? ⟨q,0+i,none⟩=some vs[i]
 len:vs.length≤ca
 cap:ca≤9223372036854775807
theorem RowN.keep{w W W':World}{vs:List Value}{aa:OAd}{ca:Nat}(h:RowN w W vs aa ca)(hb:Below W.heap.size W W'):RowN w W' vs aa ca:=by
 obtain ⟨⟨q,e,h1,h2,h3⟩,hl,hc⟩:=h;exact ⟨⟨q,e,h1,nL h2 hb.size,fun i hi=>(hb.cell (p:=⟨q,0+i,none⟩) h2).trans (h3 i hi)⟩,hl,hc⟩
theorem RowN.older{w v W:World}{vs:List Value}{aa:OAd}{ca:Nat}(h:RowN w W vs aa ca)(hv:v.heap.size≤w.heap.size):RowN v W vs aa ca:=by
 obtain ⟨⟨q,e,h1,h2,h3⟩,hl,hc⟩:=h;exact ⟨⟨q,e,by omega,h2,h3⟩,hl,hc⟩
theorem RowN.nat{w W:World}{vs:List Value}{aa:OAd}{ca:Nat}(h:RowN w W vs aa ca):NAt W W.heap.size vs aa:=by
 obtain ⟨⟨q,e,h1,h2,h3⟩,hl,hc⟩:=h;exact .inr ⟨q,0,e,h2,h3⟩
theorem RowN.off{w W W':World}{vs:List Value}{aa:OAd}{ca:Nat}(h:RowN w W vs aa ca){q:Nat}(hq:q<w.heap.size)(hs:W.heap.size≤W'.heap.size)(hk:∀k,k≠q→W'.heap[k]? = W.heap[k]?):RowN w W' vs aa ca:=by
 obtain ⟨⟨r,e,h1,h2,h3⟩,hl,hc⟩:=h;exact ⟨⟨r,e,h1,by omega,fun i hi=>by rw [World.cell?_of_block (a:=⟨r,0+i,none⟩) (hk r (by omega))];exact h3 i hi⟩,hl,hc⟩
theorem infoIn:(Tryz.prog.info? 3).map (fun i=>(i.zero,i.size,i.bytes))=some (some (.int .i64 0),1,8):=by kernel_rfl
theorem run_append_one(w:World)(t ty e:TypeId)(i:TypeInfo)(z:Value)(ht:Tryz.prog.underlying t=some (.slice e))(hi:Tryz.prog.info? e=some i)(hz:i.zero=some z)(h1:i.size=1)(h2:i.bytes≤16)
  (vs:List Value) (aa:OAd) (B:Nat) (v:Value) (g c:Nat) (h:NAt w B vs aa) (hl:vs.length≤1000000) (hg:w.cell? ⟨g,0,none⟩=some v) :
  ∃aa' ca' w',(Builtin.append_ #[t,t] ty #[.slice aa vs.length vs.length,.slice (some ⟨g,0,none⟩) 1 c]).run Tryz.prog w = .ok (.slice aa' (vs.length+1) ca') w'∧RowN w w' (vs++[v]) aa' ca'∧Below w.heap.size w w':=by
 have hnews:∀j u,[v][j]? = some u→w.cell? ((⟨g,0,none⟩:Addr).add j)=some u:=by
  intro j u hj;match j,hj with
  | 0,hj=>simp at hj;subst hj;rw [addj0];exact hg
  | j+1,hj=>simp at hj
 have hfin:∀(cap:Nat) (rest:Array Value),vs.length+1≤cap→cap≤9223372036854775807→RowN w (w.drew.alloc (.cells ((vs++[v]).toArray++rest) e)) (vs++[v]) (some ⟨w.heap.size,0,none⟩) cap:=by
  intro cap rest hcap hc2;refine ⟨⟨w.heap.size,rfl,nR _,by simp,fun k hk=>?_⟩,by simpa using hcap,hc2⟩
  have e1:(w.drew.alloc (.cells ((vs++[v]).toArray++rest) e)).cell? ⟨w.heap.size,0+k,none⟩=((vs++[v]).toArray++rest)[k]?:=by
   rw [Nat.zero_add];exact World.cell?_alloc_at _ _ _ _ rfl
  rw [e1,Array.getElem?_append_left (by simpa using hk)]
  simp only [List.getElem?_toArray];rw [List.getElem?_eq_getElem hk]
 have hm:vs.length+1≤maxLen:=by simp only [maxLen];omega
 cases aa with
 | none =>
  have h0:vs=[]:=by
   rcases h with h|⟨b,o,e,_⟩
   ·exact h
   ·cases e
  subst h0;have hr:=run_append_nil (P:=Tryz.prog) w t ty e i _ ht hi hz ⟨g,0,none⟩ 1 c [v] (by rw [h1];rfl) hnews (by omega) (by omega) (by omega)
  refine ⟨_,_,_,hr,?_,((bR _ _).drew).alloc (by simp) _⟩
  exact hfin _ _ (grownCap_ge _ _ _ _) (grownCap_le_maxLen _ _ _ _ (by simp only [maxLen];omega))
 | some b =>
  have hr:=run_append_grow (P:=Tryz.prog) w t ty e i _ ht hi hz b vs.length vs.length vs (by rw [h1];simp) (fun j u hj=>by
    rcases h with rfl|⟨b',o,e,_,hc⟩
    ·cases hj
    ·obtain rfl:=Option.some.inj e
     rw [addjo];by_cases hjl:j<vs.length
     ·rw [hc j hjl,← hj];simp [hjl]
     ·rw [List.getElem?_eq_none (by omega)]at hj;cases hj) ⟨g,0,none⟩ 1 c [v] (by rw [h1];rfl) hnews (by omega) (by omega) (growslice_fits (by omega) (by have:=Nat.mul_le_mul_left (vs.length+1) h2;omega))
  refine ⟨_,_,_,hr,?_,((bR _ _).drew).alloc (by simp) _⟩
  have:=hfin (grownCap w (vs.length+1) vs.length e) (Builtin.zeroCells z.cells (grownCap w (vs.length+1) vs.length e - (vs.length+1))) (grownCap_ge _ _ _ _) (grownCap_le_maxLen _ _ _ _ hm);simpa using this
theorem step_append_str(w:World){ops:Array Oper}{o:Oper}{a:Act}{K:Act→World→Prop}{Q:Exit→Act→World→Prop}{E:Prop}(hgd:o.guard=none)(s x:Operand)
  (ho:o.op = .call { callee:=.builtin .append,args:=#[s,x],argTypes:=#[28,28] })
  (ns:List ByteArray) (aa:OAd) (B:Nat) (nm:ByteArray) (g c:Nat) (hs:a.eval s = .slice aa ns.length ns.length) (hx:a.eval x = .slice (some ⟨g,0,none⟩) 1 c)
  (h:NAt w B (ns.map Value.string) aa) (hl:ns.length≤1000000) (hg:w.cell? ⟨g,0,none⟩=some (.string nm))
  (hK:∀aa' ca' w',RowN w w' ((ns++[nm]).map Value.string) aa' ca'→Below w.heap.size w w'→K (a.put o.dst (.slice aa' (ns.length+1) ca')) w') :
  if Region.wanted o (yielded ops a.tmps)=true then Oper.wp Tryz.prog o a w K Q else E:=by
 rw [if_pos (show Region.wanted o (yielded ops a.tmps)=true by simp [Region.wanted,hgd])]
 obtain ⟨i,hi,hz0,hz1,hz2⟩:=info_parts infoSt;obtain ⟨aa',ca',w',hr,h2,h3⟩:=run_append_one w 28 o.type 9 i _ Tryz.underlying28 hi hz0 hz1 (by omega) (ns.map Value.string) aa B (.string nm) g c h (by simpa using hl) hg
 rw [List.length_map]at hr;unfold Oper.wp execOp;simp only [ho,resolve,invoke,builtin,Sem.run_bind,Sem.run_pure,Result.andThen_ok,List.map_toArray,List.map_cons,List.map_nil,hs,hx,hr];exact hK aa' ca' w' (by simpa using h2) h3
theorem step_append_int(w:World){ops:Array Oper}{o:Oper}{a:Act}{K:Act→World→Prop}{Q:Exit→Act→World→Prop}{E:Prop}(hgd:o.guard=none)(s x:Operand)
  (ho:o.op = .call { callee:=.builtin .append,args:=#[s,x],argTypes:=#[29,29] })
  (ns:List Int) (aa:OAd) (B:Nat) (nm:Int) (g c:Nat) (hs:a.eval s = .slice aa ns.length ns.length) (hx:a.eval x = .slice (some ⟨g,0,none⟩) 1 c)
  (h:NAt w B (ns.map (Value.int .i64)) aa) (hl:ns.length≤1000000) (hg:w.cell? ⟨g,0,none⟩=some (.int .i64 nm))
  (hK:∀aa' ca' w',RowN w w' ((ns++[nm]).map (Value.int .i64)) aa' ca'→Below w.heap.size w w'→K (a.put o.dst (.slice aa' (ns.length+1) ca')) w') :
  if Region.wanted o (yielded ops a.tmps)=true then Oper.wp Tryz.prog o a w K Q else E:=by
 rw [if_pos (show Region.wanted o (yielded ops a.tmps)=true by simp [Region.wanted,hgd])]
 obtain ⟨i,hi,hz0,hz1,hz2⟩:=info_parts infoIn;obtain ⟨aa',ca',w',hr,h2,h3⟩:=run_append_one w 29 o.type 3 i _ Tryz.underlying29 hi hz0 hz1 (by omega) (ns.map (Value.int .i64)) aa B (.int .i64 nm) g c h (by simpa using hl) hg
 rw [List.length_map]at hr;unfold Oper.wp execOp;simp only [ho,resolve,invoke,builtin,Sem.run_bind,Sem.run_pure,Result.andThen_ok,List.map_toArray,List.map_cons,List.map_nil,hs,hx,hr];exact hK aa' ca' w' (by simpa using h2) h3
theorem clipS_any(n ca:Nat)(aa:OAd)(w:World)(hn:n≤ca)(hc:ca≤9223372036854775807)(h0:aa=none→n=0):
  Calls Tryz.prog 83 #[.slice aa n ca] w fun e w'=>e = .returned (.slice aa n n)∧w'=w:=by
 have hz:(n:Int)≤9223372036854775807:=by omega
 have hcz:(n:Int)≤(ca:Int):=by omega
 cases aa with
 | none =>
  obtain rfl:=h0 rfl;go_enter Tryz.func83,Tryz.ntmps83
  go_wp2_with fail
  go_ret
  exact ⟨rfl,rfl⟩
 | some b =>
  go_enter Tryz.func83,Tryz.ntmps83
  go_wp2_with fail
  go_ret
  exact ⟨rfl,rfl⟩
theorem clipI_any(n ca:Nat)(aa:OAd)(w:World)(hn:n≤ca)(hc:ca≤9223372036854775807)(h0:aa=none→n=0):
  Calls Tryz.prog 100 #[.slice aa n ca] w fun e w'=>e = .returned (.slice aa n n)∧w'=w:=by
 have hz:(n:Int)≤9223372036854775807:=by omega
 have hcz:(n:Int)≤(ca:Int):=by omega
 cases aa with
 | none =>
  obtain rfl:=h0 rfl;go_enter Tryz.func100,Tryz.ntmps100
  go_wp2_with fail
  go_ret
  exact ⟨rfl,rfl⟩
 | some b =>
  go_enter Tryz.func100,Tryz.ntmps100
  go_wp2_with fail
  go_ret
  exact ⟨rfl,rfl⟩
section
variable {P:Program} {ops:Array Oper} {Q:Exit→Act→World→Prop}
def noGd(ops:Array Oper):Bool:=ops.toList.all fun o=>o.guard.isNone
def cutR(P:Program)(ops:Array Oper)(Q:Exit→Act→World→Prop)(m:Nat):Exit→Act→World→Prop
 | .normal,a,w=>wpList P ops Q (ops.toList.drop m) a w
 | e,a,w=>Q e a w
theorem wp_cutR{o:Oper}{a:Act}{w:World}{m:Nat}{K K':Act→World→Prop}(h:∀a w,K a w→K' a w)(hh:o.wp P a w K (cutR P ops Q m)):o.wp P a w K' Q:=by
 unfold Oper.wp at *;generalize (execOp a.eval o).run P w=r at *;cases r with
 | ok n w' =>
  cases n <;> simp only [Oper.upon]at hh ⊢ <;>
   first
    | exact h _ _ hh
    | exact Calls.mono hh (fun e w'' he=>by cases e <;> first|exact h _ _ he|exact he)
    | exact Rows.mono hh (fun _ _ he=>h _ _ he)
 | halt x w'=>cases x <;> simp only [Oper.upon]at hh ⊢ <;> exact hh
def tail2(ops:Array Oper)(m:Nat):Bool:=ops.toList.zipIdx.all fun q=>decide (q.2<m) || (List.range q.2).all fun j=>decide (j<m) || waitsFor q.1 j
theorem tail2_spec{m:Nat}(h:tail2 ops m=true){i:Nat}{o:Oper}(hi:ops[i]? = some o)(hm:m≤i){j:Nat}(hj0:m≤j)(hj:j<i):waitsFor o j=true:=by
 unfold tail2 at h;have hi':ops.toList[i]? = some o:=by rw [Array.getElem?_toList];exact hi
 have h1:=List.all_eq_true.1 h _ (mem_zip hi');simp only [Bool.or_eq_true,decide_eq_true_eq]at h1;rcases h1 with h1|h1
 ·omega
 ·have:=List.all_eq_true.1 h1 j (List.mem_range.2 hj)
  simp only [Bool.or_eq_true,decide_eq_true_eq]at this;exact this.resolve_left (by omega)
def wait1(ops:Array Oper)(i j:Nat):Bool:=match ops[i]? with|some o=>waitsFor o j|none=>false
def waitN(ops:Array Oper):Nat→Nat→Nat→Bool
 | 0,i,j=>wait1 ops i j
 | n+1,i,j=>wait1 ops i j || (List.range ops.size).any fun k=>wait1 ops i k && waitN ops n k j
def tail3(ops:Array Oper)(m n:Nat):Bool:=(List.range ops.size).all fun i=>decide (i<m) || (List.range m).all fun j=>waitN ops n i j
def dcL(ops:Array Oper)(L:Array Bool):Prop:=∀i j,L.getD i false=true→wait1 ops i j=true→L.getD j false=true
theorem dcL.waitN{L:Array Bool}(h:dcL ops L):∀(n i j:Nat),L.getD i false=true→waitN ops n i j=true→L.getD j false=true
 | 0,i,j,hi,hw=>h i j hi hw
 | n+1,i,j,hi,hw=>by
  unfold Go.Proofs.YtmamabhhgfcjcaaGreatDoor.waitN at hw;rw [Bool.or_eq_true]at hw;rcases hw with hw|hw
  ·exact h i j hi hw
  ·obtain ⟨k,_,hk⟩:=List.any_eq_true.1 hw
   rw [Bool.and_eq_true]at hk;exact dcL.waitN h n k j (h i k hi hk.1) hk.2
theorem ready_wait{L:Array Bool}{i j:Nat}(hi:i∈Region.ready .any ops L)(hw:wait1 ops i j=true):L.getD j false=true:=by
 obtain ⟨_,o,ho,hdep⟩:=mem_ready.1 hi;unfold wait1 at hw;rw [ho]at hw;obtain ⟨e,he,hb,hon⟩:=waitsFor_iff.1 hw;have:=hdep e he hb;rw [hon]at this;exact this
theorem dcL.set{L:Array Bool}(h:dcL ops L){i:Nat}(hi:i∈Region.ready .any ops L)(hl:i<L.size):dcL ops (L.setIfInBounds i true):=by
 intro a j ha hw;by_cases hj:i=j
 ·subst hj;exact set_at hl _
 rw [getD_set_ne false hj];by_cases hai:i=a
 ·subst hai;exact ready_wait hi hw
 ·rw [getD_set_ne false hai]at ha
  exact h a j ha hw
theorem ready_waitN{L:Array Bool}(h:dcL ops L){n i j:Nat}(hi:i∈Region.ready .any ops L)(hw:waitN ops n i j=true):L.getD j false=true:=by
 cases n with
 | zero=>exact ready_wait hi hw
 | succ n =>
  unfold Go.Proofs.YtmamabhhgfcjcaaGreatDoor.waitN at hw;rw [Bool.or_eq_true]at hw;rcases hw with hw|hw
  ·exact ready_wait hi hw
  ·obtain ⟨k,_,hk⟩:=List.any_eq_true.1 hw
   rw [Bool.and_eq_true]at hk;exact h.waitN n k j (ready_wait hi hk.1) hk.2
theorem tail3_spec{m n:Nat}(h:tail3 ops m n=true){i:Nat}(hi:i<ops.size)(hm:m≤i){j:Nat}(hj:j<m):waitN ops n i j=true:=by
 unfold tail3 at h;have h1:=List.all_eq_true.1 h i (List.mem_range.2 hi);simp only [Bool.or_eq_true,decide_eq_true_eq]at h1;rcases h1 with h1|h1
 ·omega
 ·exact List.all_eq_true.1 h1 j (List.mem_range.2 hj)
theorem any_tail2(hOK:seqOK ops=true){m:Nat}(hT:tail2 ops m=true):∀(t:List Oper) (k:Nat),ops.toList.drop k=t→m≤k→∀(L:Array Bool),L.size=ops.size→(∀i,i<ops.size→(L.getD i false=true↔i<k))→∀(n:Nat),ops.size - k≤n→∀(a:Act) (w:World),wpList P ops Q t a w→wpAny P .any ops Q n L a w:=by
 intro t;induction t with
 | nil =>
  intro k hk _ L hL hl n _ a w h;have hkn:ops.size≤k:=by
   have:=List.drop_eq_nil_iff.1 hk;simpa using this
  refine wpAny_done ?_ h n;unfold Region.ready;rw [List.filter_eq_nil_iff];intro i hi;have hi':=List.mem_range.1 hi;have:=(hl i hi').2 (by omega)
  rw [getD_bool (by omega) false true]at this
  simp [this]
 | cons o t ih =>
  intro k hk hmk L hL hl n hn a w h;have hkn:k<ops.size:=by
   apply Classical.byContradiction
   intro hge;have:ops.toList.drop k=[]:=List.drop_eq_nil_iff.2 (by simp;omega)
   rw [this]at hk;cases hk
  have hd:=List.drop_eq_getElem_cons (l:=ops.toList) (i:=k) (by simpa using hkn)
  rw [hk]at hd;have ho:ops[k]? = some o:=by
   rw [Array.getElem?_eq_getElem hkn];have:=(List.cons.inj hd).1;rw [this];simp
  have ht:ops.toList.drop (k+1)=t:=(List.cons.inj hd).2.symm;obtain ⟨n,rfl⟩:∃n',n=n'+1:=⟨n - 1,by omega⟩
  have hkm:k∈Region.ready .any ops L:=mem_ready.2 ⟨by
   rw [getD_bool (by omega) true false]
   cases hq:L.getD k false with
   | false=>rfl
   | true=>exact absurd ((hl k hkn).1 hq) (Nat.lt_irrefl _),o,ho,fun e he hb=>by
   have hlt:=(seqOK_spec hOK ho).2.1 e he hb;exact (hl e.on (by omega)).2 hlt⟩
  refine ⟨fun h0=>(by rw [h0]at hkm;cases hkm),fun i hi=>?_⟩
  obtain ⟨hun,oi,hoi,hdep⟩:=mem_ready.1 hi;have hil:i<ops.size:=(Array.getElem?_eq_some_iff.1 hoi).1;have hik:i=k:=by
   rw [getD_bool (by omega) true false]at hun
   rcases Nat.lt_trichotomy i k with q|q|q
   ·rw [(hl i hil).2 q]at hun;cases hun
   ·exact q
   ·exfalso
    obtain ⟨e,he,hb,hon⟩:=waitsFor_iff.1 (tail2_spec hT hoi (by omega) (by omega) q)
    have:=hdep e he hb;rw [hon]at this;exact absurd ((hl k hkn).1 this) (Nat.lt_irrefl _)
  subst hik;have next:∀a' w',wpList P ops Q t a' w'→wpAny P .any ops Q n (L.setIfInBounds i true) a' w':=fun a' w' h'=>ih (i+1) ht (by omega) _ (by simp [hL]) (fun j hj=>by
   by_cases hij:i=j
   ·subst hij
    rw [set_at (by omega)]
    exact ⟨fun _=>Nat.lt_succ_self _,fun _=>rfl⟩
   ·rw [getD_set_ne false hij,hl j hj];omega) n (by omega) a' w' h'
  unfold wpOp;simp only [ho];unfold wpList at h;split
  ·rename_i hw
   rw [if_pos hw]at h;exact h.imp (Oper.wp_mono next) id
  ·rename_i hw
   rw [if_neg hw]at h;exact next _ _ h
theorem any_cut(hOK:seqOK ops=true){m N:Nat}(hm:m≤ops.size)(hT:tail2 ops m=true)(hT3:tail3 ops m N=true)(hg:noGd ops=true){pre:Array Oper}(hp:pre.toList=ops.toList.take m):
  ∀(n:Nat) (l L:Array Bool) (a:Act) (w:World),l.size=m→L.size=ops.size→(∀i,i<m→L.getD i false=l.getD i false)→(∀i,m≤i→i<ops.size→L.getD i false=false)→dcL ops L→wpAny P .any pre (cutR P ops Q m) n l a w→wpAny P .any ops Q (n+(ops.size - m)) L a w:=by
 have hps:pre.size=m:=by
  have:=congrArg List.length hp;simpa [Nat.min_eq_left hm] using this
 have hpi:∀i,i<m→pre[i]? = ops[i]?:=fun i hi=>by
  rw [← Array.getElem?_toList,hp,List.getElem?_take,if_pos hi,Array.getElem?_toList]
 have hdone:∀(l:Array Bool),l.size=m→Region.ready .any pre l=[]→∀i,i<m→l.getD i false=true:=by
  intro l hl hr i;induction i using Nat.strongRecOn with
  | _ i ih =>
   intro hi;apply Classical.byContradiction
   intro hne;have ho:=hpi i hi;rw [Array.getElem?_eq_getElem (by omega)]at ho
   have:i∈Region.ready .any pre l:=mem_ready.2 ⟨by
    rw [getD_bool (by omega) true false]
    cases hq:l.getD i false with
    | false=>rfl
    | true=>exact absurd hq hne,_,Array.getElem?_eq_getElem (by omega),fun e he hb=>by
    have hlt:=(seqOK_spec hOK ho.symm).2.1 e he hb;exact ih e.on hlt (by omega)⟩
   rw [hr]at this;cases this
 have hend:∀(l L:Array Bool) (n:Nat) (a:Act) (w:World),l.size=m→L.size=ops.size→(∀i,i<m→L.getD i false=l.getD i false)→(∀i,m≤i→i<ops.size→L.getD i false=false)→Region.ready .any pre l=[]→cutR P ops Q m .normal a w→wpAny P .any ops Q (n+(ops.size - m)) L a w:=by
  intro l L n a w hl hL h1 h2 hr h;refine any_tail2 hOK hT _ m rfl (nR _) L hL (fun i hi=>⟨fun q=>?_,fun q=>?_⟩) _ (by omega) a w h
  ·apply Classical.byContradiction
   intro hge;rw [h2 i (by omega) hi]at q
   cases q
  ·rw [h1 i q];exact hdone l hl hr i q
 intro n;induction n with
 | zero =>
  intro l L a w hl hL h1 h2 hD h;exact hend l L 0 a w hl hL h1 h2 h.1 h.2
 | succ n ih =>
  intro l L a w hl hL h1 h2 hD h;by_cases hr:Region.ready .any pre l=[]
  ·exact hend l L (n+1) a w hl hL h1 h2 hr (h.1 hr)
  obtain ⟨i0,hi0⟩:=List.exists_mem_of_ne_nil _ hr;obtain ⟨hun0,o0,ho0,_⟩:=mem_ready.1 hi0;have h0l:i0<m:=by
   have:=(Array.getElem?_eq_some_iff.1 ho0).1;omega
  have hL0:L.getD i0 false=false:=by
   rw [h1 i0 h0l,← getD_bool (b:=true) (by omega)];exact hun0
  rw [show n+1+(ops.size - m)=n+(ops.size - m)+1 by omega]
  have key:∀i∈Region.ready .any ops L,i<m∧i∈Region.ready .any pre l:=by
   intro i hi;obtain ⟨hun,oi,hoi,hdep⟩:=mem_ready.1 hi;have hil:i<ops.size:=(Array.getElem?_eq_some_iff.1 hoi).1;have him:i<m:=by
    apply Classical.byContradiction
    intro hge;have:=ready_waitN hD hi (tail3_spec hT3 hil (by omega) h0l)
    rw [hL0]at this;cases this
   refine ⟨him,mem_ready.2 ⟨?_,oi,(hpi i him).trans hoi,fun e he hb=>?_⟩⟩
   ·rw [getD_bool (by omega) true false,← h1 i him,getD_bool (by omega) false true];exact hun
   ·have hlt:=(seqOK_spec hOK hoi).2.1 e he hb
    rw [← h1 e.on (by omega)];exact hdep e he hb
  refine ⟨fun hq=>?_,fun i hi=>?_⟩
  ·exfalso
   have:i0∈Region.ready .any ops L:=by
    obtain ⟨_,o,ho,hdep⟩:=mem_ready.1 hi0;refine mem_ready.2 ⟨by rw [getD_bool (by omega) true false];exact hL0,o,(hpi i0 h0l).symm.trans ho,fun e he hb=>?_⟩
    have hlt:=(seqOK_spec hOK ((hpi i0 h0l).symm.trans ho)).2.1 e he hb;rw [h1 e.on (by omega)];exact hdep e he hb
   rw [hq]at this;cases this
  ·obtain ⟨him,hip⟩:=key i hi
   have hw:=h.2 i hip;obtain ⟨_,oi,hoi,_⟩:=mem_ready.1 hi;have hgo:oi.guard=none:=by
    have:=List.all_eq_true.1 hg oi (by rw [Array.mem_toList_iff];exact Array.mem_of_getElem? hoi)
    simpa using this
   unfold wpOp at hw ⊢;rw [hpi i him]at hw;simp only [hoi]at hw ⊢;have w1:∀(q:Array Oper),Region.wanted oi (yielded q a.tmps)=true:=fun q=>by simp [Region.wanted,hgo]
   rw [if_pos (w1 _)]at hw ⊢;refine hw.imp (wp_cutR fun a' w' h'=>ih _ _ a' w' (by simp [hl]) (by simp [hL]) (fun j hj=>?_) (fun j hj hj2=>?_) (hD.set hi (by have:=(Array.getElem?_eq_some_iff.1 hoi).1;omega)) h') (fun q=>q)
   ·by_cases hij:i=j
    ·subst hij
     rw [set_at (by omega),set_at (by omega)]
    ·rw [getD_set_ne false hij,getD_set_ne false hij,h1 j hj]
   ·rw [getD_set_ne false (by omega)];exact h2 j hj hj2
theorem wp_region_cut{id:Nat}{a:Act}{w:World}(m:Nat){pre:Array Oper}{S:World→Prop}(hf:P.follows .mixedOrders=true)(hp:pre.toList=ops.toList.take m)(hOK:seqOK ops=true)(hm:m≤ops.size)(hT:tail2 ops m=true)(hT3:tail3 ops m 3=true)(hg:noGd ops=true)(hS:S w.drew)
  (h:S w.drew→wpAnyH P .any pre (cutR P ops Q m) S m (Array.replicate m false) a w.drew):(Code.region id ops true).wp P Q a w:=by
 refine wp_region_any hf ?_;have:=any_cut (Q:=Q) hOK hm hT hT3 hg hp m (Array.replicate m false) (Array.replicate ops.size false) a w.drew (by simp) (by simp) (fun i hi=>by simp [Array.getD,hi,show i<ops.size by omega]) (fun i _ hi=>by simp [Array.getD,hi]) (fun i j hi _=>by exfalso;revert hi;by_cases q:i<ops.size <;> simp [Array.getD,q]) (wpAny_of_held _ _ _ _ (h hS))
 rw [show m+(ops.size - m)=ops.size by omega]at this
 exact this
end
section
variable {P:Program} {md:Region.Mode} {ops:Array Oper} {Q:Exit→Act→World→Prop} {S:World→Prop} {fuel:Nat} {listed:Array Bool} {a:Act} {w:World}
structure OpG(i:Nat)(p:Prop):Prop where
 out:p
theorem opg(i:Nat){p:Prop}(h:p):OpG i p:=⟨h⟩
structure AllC(P:Program)(md:Region.Mode)(ops:Array Oper)(Q:Exit→Act→World→Prop)(S:World→Prop)(fuel:Nat)(listed:Array Bool)(a:Act)(w:World)(cs:List Nat):Prop where
 out:∀i∈cs,(Region.ready md ops listed).contains i=true→AllReadyH P md ops Q S fuel listed a w [i]
theorem cE:AllC P md ops Q S fuel listed a w []:=⟨fun _ h=>by cases h⟩
theorem cN{i:Nat}{cs:List Nat}(h:AllC P md ops Q S fuel listed a w cs)(hn:(Region.ready md ops listed).contains i=false:=by decide +kernel):AllC P md ops Q S fuel listed a w (i::cs):=⟨fun j hj hc=>by
 rcases List.mem_cons.1 hj with rfl|hj
 ·rw [hn]at hc;cases hc
 ·exact h.out j hj hc⟩
theorem cY{i:Nat}{cs:List Nat}{o:Oper}(h:OpG i (∀K':Act→World→Prop,Shut (∀a w,S w→(S w→wpAnyH P md ops Q S fuel (listed.setIfInBounds i true) a w)→K' a w)→if Region.wanted o (yielded ops a.tmps)=true then Oper.wp P o a w K' Q else K' (a.put o.dst undef) w))
  (hs:AllC P md ops Q S fuel listed a w cs) (ho:ops[i]? = some o:=by rw [List.getElem?_toArray];rfl):AllC P md ops Q S fuel listed a w (i::cs):=⟨fun j hj hc=>by
 rcases List.mem_cons.1 hj with rfl|hj
 ·exact AllReadyH.cons ho h.out aN
 ·exact hs.out j hj hc⟩
theorem ready_any(cs:List Nat)(h:AllC P md ops Q S fuel listed a w cs)(hr:((Region.ready md ops listed).all fun i=>cs.contains i)=true:=by kernel_rfl)(hne:(Region.ready md ops listed).isEmpty=false:=by decide +kernel):wpAnyH P md ops Q S (fuel+1) listed a w :=
 wpAnyH_ready rfl (fun q=>by rw [q]at hne;cases hne) (fun j hj=>by
  have hc:cs.contains j=true:=List.all_eq_true.1 hr j hj;exact h.out j (by simpa using hc) (by simpa using hj) j (.head _))
theorem tkR(i:Nat)(v:Value){oi:Oper}{a':Act}(hS:S w)(h:wpAnyH P md ops Q S fuel (listed.setIfInBounds i true) a' w)(hr:(Region.ready md ops listed).contains i=true:=by decide +kernel)(hi:ops[i]? = some oi:=by rw [List.getElem?_toArray];rfl)(hs:Region.noSelect ops=true:=by kernel_rfl)(hf:Region.free md ops listed i=true:=by kernel_rfl)
  (hQ:∀c a w,Q (.panic c) (a.put oi.dst v) w→Q (.panic c) a w:=by exact fun _ _ _ h=>h) (hy:YieldsIf P ops S oi v a:=by exact Or.inl ⟨by rfl,fun W hW=>by go_simp⟩) (hn:a.put oi.dst v=a':=by simp only [Act.put,uA,uB,uC];rfl):wpAnyH P md ops Q S (fuel+1) listed a w:=wpAnyH_take hi hs hf hr hQ hy hS (hn ▸ h)
end
end Go.Proofs.YtmamabhhgfcjcaaGreatDoor
