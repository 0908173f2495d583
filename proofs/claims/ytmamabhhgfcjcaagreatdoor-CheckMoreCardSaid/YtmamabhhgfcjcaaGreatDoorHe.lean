/-
  The contract of graph.doingOf: what a node does itself, and to which classes it leads, as a key.
-/
import Derived.Test.YtmamabhhgfcjcaaGreatDoorOq
import Derived.Laws.CopyOwn
set_option maxRecDepth 100000
set_option maxHeartbeats 4000000
namespace Go.Proofs.YtmamabhhgfcjcaaGreatDoor
open Go.RowKit Go.Shelf
theorem infoS1:(Tryz.prog.info? 9).map (·.size)=some 1:=by kernel_rfl
theorem one_ss(ls:List ByteArray):∀v∈ls.map Value.string,v.oneCell'=true:=by
 intro v hv;obtain ⟨s,_,rfl⟩:=List.mem_map.1 hv;rfl
theorem take_oneH1{P:Program}{ops:Array Oper}{md:Region.Mode}{Q:Exit→Act→World→Prop}{fuel:Nat}{listed:Array Bool}{a:Act}{w:World}(i:Nat)(h:AllReady P md ops Q fuel listed a w [i])(hr:Region.ready md ops listed=[i]):wpAny P md ops Q (fuel+1) listed a w:=wpAny_ready hr (by simp) h
def ndVal(n:Nd)(al:OAd)(cl:Nat)(at1:OAd)(ct:Nat):Value:=.agg #[.int .i64 n.kind,.int .i64 n.so,.slice al n.labs.length cl,.slice at1 n.to.length ct]
abbrev NI(W:World)(B:Nat)(ts:List Nat)(at1:OAd):Prop:=NAt W B (ts.map fun t:Nat=>Value.int .i64 (t:Int)) at1
def kN(c:List Nat)(n:Nd):List Value:=kCs n.kind n.so n.labs (n.to.map fun t=>(clAt c t:Int))
theorem heap_cells{W:World}{g:Nat}{cs:List Value}{t:TypeId}(h:W.heap[g]? = some (.cells cs.toArray t (0,0))):∀j,W.cell? ⟨g,j,none⟩=cs[j]?:=by
 intro j;simp [World.cell?,h]
theorem heap_thaw{W:World}{g:Nat}{cs:List Value}{t:TypeId}(h:W.heap[g]? = some (.cells cs.toArray t (0,0))):∀j,W.frozen? ⟨g,j,none⟩=false:=by
 intro j;simp [World.frozen?,h]
theorem splice_k(kd so:Int)(ls:List ByteArray)(h:ls.length≤6):splice ([.int .i64 kd,.int .i64 so,.string ⟨#[]⟩,.string ⟨#[]⟩,.string ⟨#[]⟩,.string ⟨#[]⟩,.string ⟨#[]⟩,.string ⟨#[]⟩,.int .i64 0,.int .i64 0,.int .i64 0,.int .i64 0,.int .i64 0,.int .i64 0]:List Value) 2 (ls.map Value.string)=kCs kd so ls []:=by
 match ls,h with
 | [],_=>rfl
 | [_],_=>rfl
 | [_,_],_=>rfl
 | [_,_,_],_=>rfl
 | [_,_,_,_],_=>rfl
 | [_,_,_,_,_],_=>rfl
 | [_,_,_,_,_,_],_=>rfl
 | _::_::_::_::_::_::_::_,h=>simp at h
theorem kCs_head(kd so:Int)(ls:List ByteArray)(h:ls.length≤6):([Value.int .i64 kd,.int .i64 so]++(ls.map Value.string++List.replicate (6 - ls.length) (Value.string ⟨#[]⟩))).length=8:=by
 simp;omega
theorem kCs_eq(kd so:Int)(ls:List ByteArray)(ns:List Int):kCs kd so ls ns=([Value.int .i64 kd,.int .i64 so]++(ls.map Value.string++List.replicate (6 - ls.length) (Value.string ⟨#[]⟩)))++(ns.map (Value.int .i64)++List.replicate (6 - ns.length) (.int .i64 0)):=by
 unfold kCs;simp
theorem kCs_zero(kd so:Int)(ls:List ByteArray)(ns:List Int)(k:Nat)(h:ls.length≤6)(hn:ns.length=k)(hk:k<6):(kCs kd so ls ns)[8+k]? = some (.int .i64 0):=by
 rw [kCs_eq,List.getElem?_append_right (by rw [kCs_head kd so ls h];omega),kCs_head kd so ls h,show 8+k - 8=k by omega,List.getElem?_append_right (by simp;omega),List.length_map,hn,Nat.sub_self,List.getElem?_replicate,if_pos (by omega)]
theorem kCs_snoc(kd so:Int)(ls:List ByteArray)(ns:List Int)(v:Int)(h:ls.length≤6)(hn:ns.length<6)(j:Nat):(kCs kd so ls (ns++[v]))[j]? = if j=8+ns.length then some (.int .i64 v) else (kCs kd so ls ns)[j]?:=by
 rw [kCs_eq,kCs_eq];have h8:=kCs_head kd so ls h;generalize [Value.int .i64 kd,.int .i64 so]++(ls.map Value.string++List.replicate (6 - ls.length) (Value.string ⟨#[]⟩))=A at *;by_cases hj:j<8
 ·rw [List.getElem?_append_left (by omega),List.getElem?_append_left (by omega),if_neg (by omega)]
 ·have hr:∀X:List Value,(A++X)[j]? = X[j - 8]?:=fun X=>by rw [List.getElem?_append_right (by omega),h8]
  rw [hr,hr];generalize hq:j - 8=q;have e1:(ns++[v]).map (Value.int .i64)++List.replicate (6 - (ns++[v]).length) (Value.int .i64 0)=ns.map (Value.int .i64)++(Value.int .i64 v::List.replicate (5 - ns.length) (.int .i64 0)):=by
   rw [List.map_append,List.append_assoc,List.length_append,show 6 - (ns.length + [v].length)=5 - ns.length by simp only [List.length_singleton];omega]
   rfl
  have e2:List.replicate (6 - ns.length) (Value.int .i64 0) = .int .i64 0::List.replicate (5 - ns.length) (.int .i64 0):=by
   rw [show 6 - ns.length=(5 - ns.length)+1 by omega,List.replicate_succ]
  rw [e1,e2];by_cases h1:q<ns.length
  ·rw [List.getElem?_append_left (by simpa using h1),List.getElem?_append_left (by simpa using h1),if_neg (by omega)]
  ·have hs:∀X:List Value,(ns.map (Value.int .i64)++X)[q]? = X[q - ns.length]?:=fun X=>by rw [List.getElem?_append_right (by simpa using h1),List.length_map]
   rw [hs,hs];cases hz:q - ns.length with
   | zero=>rw [if_pos (by omega)];rfl
   | succ r=>rw [if_neg (by omega)];rfl
theorem doingOf_any(n:Nd)(al at1 ac:OAd)(cl ct cc:Nat)(c:List Nat)(B:Nat)(w:World)(hla:LA w B n.labs al)(hta:NI w B n.to at1)(hca:NI w B c ac)(hB:B≤w.heap.size)(h6:n.labs.length≤6)(t6:n.to.length≤6)(hlt:∀t∈n.to,t<c.length)
  (s0 s1 s2 s3 s4 s5:ByteArray) (m0 m1 m2 m3 m4 m5:Int) (hK:kN c n=[.int .i64 n.kind,.int .i64 n.so,.string s0,.string s1,.string s2,.string s3,.string s4,.string s5,.int .i64 m0,.int .i64 m1,.int .i64 m2,.int .i64 m3,.int .i64 m4,.int .i64 m5]) :
  Calls Tryz.prog 119 #[ndVal n al cl at1 ct,.slice ac c.length cc] w fun e w'=>e = .returned (.agg #[.int .i64 n.kind,.int .i64 n.so,.string s0,.string s1,.string s2,.string s3,.string s4,.string s5,.int .i64 m0,.int .i64 m1,.int .i64 m2,.int .i64 m3,.int .i64 m4,.int .i64 m5])∧Below w.heap.size w w':=by
 simp only [ndVal];have HV0:=hideK (show Below w.heap.size w (((w.alloc (.cells #[.int .i64 n.kind,.int .i64 n.so,.slice al n.labs.length cl,.slice at1 n.to.length ct] 102)).alloc (.cells #[.int .i64 0,.int .i64 0,.string ⟨#[]⟩,.string ⟨#[]⟩,.string ⟨#[]⟩,.string ⟨#[]⟩,.string ⟨#[]⟩,.string ⟨#[]⟩,.int .i64 0,.int .i64 0,.int .i64 0,.int .i64 0,.int .i64 0,.int .i64 0] 182)).alloc (.cells #[.int .i64 n.kind,.int .i64 n.so,.string ⟨#[]⟩,.string ⟨#[]⟩,.string ⟨#[]⟩,.string ⟨#[]⟩,.string ⟨#[]⟩,.string ⟨#[]⟩,.int .i64 0,.int .i64 0,.int .i64 0,.int .i64 0,.int .i64 0,.int .i64 0] 182)) from (((bR _ _).alloc (nR _) _).alloc (by simp) _).alloc (by simp;omega) _)
 have HB5:=hideK (show (((w.alloc (.cells #[.int .i64 n.kind,.int .i64 n.so,.slice al n.labs.length cl,.slice at1 n.to.length ct] 102)).alloc (.cells #[.int .i64 0,.int .i64 0,.string ⟨#[]⟩,.string ⟨#[]⟩,.string ⟨#[]⟩,.string ⟨#[]⟩,.string ⟨#[]⟩,.string ⟨#[]⟩,.int .i64 0,.int .i64 0,.int .i64 0,.int .i64 0,.int .i64 0,.int .i64 0] 182)).alloc (.cells #[.int .i64 n.kind,.int .i64 n.so,.string ⟨#[]⟩,.string ⟨#[]⟩,.string ⟨#[]⟩,.string ⟨#[]⟩,.string ⟨#[]⟩,.string ⟨#[]⟩,.int .i64 0,.int .i64 0,.int .i64 0,.int .i64 0,.int .i64 0,.int .i64 0] 182)).drew.heap[w.heap.size+1+1]? = some (.cells ([.int .i64 n.kind,.int .i64 n.so,.string ⟨#[]⟩,.string ⟨#[]⟩,.string ⟨#[]⟩,.string ⟨#[]⟩,.string ⟨#[]⟩,.string ⟨#[]⟩,.int .i64 0,.int .i64 0,.int .i64 0,.int .i64 0,.int .i64 0,.int .i64 0]:List Value).toArray 182 (0,0)) from by
  have h1:=heap_alloc_new ((w.alloc (.cells #[.int .i64 n.kind,.int .i64 n.so,.slice al n.labs.length cl,.slice at1 n.to.length ct] 102)).alloc (.cells #[.int .i64 0,.int .i64 0,.string ⟨#[]⟩,.string ⟨#[]⟩,.string ⟨#[]⟩,.string ⟨#[]⟩,.string ⟨#[]⟩,.string ⟨#[]⟩,.int .i64 0,.int .i64 0,.int .i64 0,.int .i64 0,.int .i64 0,.int .i64 0] 182)) (.cells #[.int .i64 n.kind,.int .i64 n.so,.string ⟨#[]⟩,.string ⟨#[]⟩,.string ⟨#[]⟩,.string ⟨#[]⟩,.string ⟨#[]⟩,.string ⟨#[]⟩,.int .i64 0,.int .i64 0,.int .i64 0,.int .i64 0,.int .i64 0,.int .i64 0] 182);have hs:((w.alloc (.cells #[.int .i64 n.kind,.int .i64 n.so,.slice al n.labs.length cl,.slice at1 n.to.length ct] 102)).alloc (.cells #[.int .i64 0,.int .i64 0,.string ⟨#[]⟩,.string ⟨#[]⟩,.string ⟨#[]⟩,.string ⟨#[]⟩,.string ⟨#[]⟩,.string ⟨#[]⟩,.int .i64 0,.int .i64 0,.int .i64 0,.int .i64 0,.int .i64 0,.int .i64 0] 182)).heap.size=w.heap.size+1+1:=by simp
  rw [hs]at h1;exact h1)
 have HPO:=hideK (show 0<(n.labs.map Value.string).length→∃ad,al=some ad∧∀j v,(n.labs.map Value.string)[j]? = some v→(((w.alloc (.cells #[.int .i64 n.kind,.int .i64 n.so,.slice al n.labs.length cl,.slice at1 n.to.length ct] 102)).alloc (.cells #[.int .i64 0,.int .i64 0,.string ⟨#[]⟩,.string ⟨#[]⟩,.string ⟨#[]⟩,.string ⟨#[]⟩,.string ⟨#[]⟩,.string ⟨#[]⟩,.int .i64 0,.int .i64 0,.int .i64 0,.int .i64 0,.int .i64 0,.int .i64 0] 182)).alloc (.cells #[.int .i64 n.kind,.int .i64 n.so,.string ⟨#[]⟩,.string ⟨#[]⟩,.string ⟨#[]⟩,.string ⟨#[]⟩,.string ⟨#[]⟩,.string ⟨#[]⟩,.int .i64 0,.int .i64 0,.int .i64 0,.int .i64 0,.int .i64 0,.int .i64 0] 182)).drew.cell? (ad.add j)=some v from by
  intro hpos;rcases hla with h|⟨b,o,rfl,hb,hc⟩
  ·rw [h]at hpos;simp at hpos
  ·refine ⟨_,rfl,fun j v hv=>?_⟩
   obtain ⟨hj,rfl⟩:=List.getElem?_eq_some_iff.1 hv;have e:(⟨b,o,none⟩:Addr).add j=⟨b,o+j,none⟩:=by unfold Addr.add;split <;> simp_all
   rw [e];have h1:=HV0.out.drew.cell (p:=⟨b,o+j,none⟩) (by show b<w.heap.size;omega)
   exact h1.trans (hc j hj))
 have HN3:=hideK (show (((w.alloc (.cells #[.int .i64 n.kind,.int .i64 n.so,.slice al n.labs.length cl,.slice at1 n.to.length ct] 102)).alloc (.cells #[.int .i64 0,.int .i64 0,.string ⟨#[]⟩,.string ⟨#[]⟩,.string ⟨#[]⟩,.string ⟨#[]⟩,.string ⟨#[]⟩,.string ⟨#[]⟩,.int .i64 0,.int .i64 0,.int .i64 0,.int .i64 0,.int .i64 0,.int .i64 0] 182)).alloc (.cells #[.int .i64 n.kind,.int .i64 n.so,.string ⟨#[]⟩,.string ⟨#[]⟩,.string ⟨#[]⟩,.string ⟨#[]⟩,.string ⟨#[]⟩,.string ⟨#[]⟩,.int .i64 0,.int .i64 0,.int .i64 0,.int .i64 0,.int .i64 0,.int .i64 0] 182)).drew.cell? ⟨w.heap.size,3,none⟩=some (.slice at1 n.to.length ct) by go_cell)
 have HZ:=hideK (show ∀j,(((w.alloc (.cells #[.int .i64 n.kind,.int .i64 n.so,.slice al n.labs.length cl,.slice at1 n.to.length ct] 102)).alloc (.cells #[.int .i64 0,.int .i64 0,.string ⟨#[]⟩,.string ⟨#[]⟩,.string ⟨#[]⟩,.string ⟨#[]⟩,.string ⟨#[]⟩,.string ⟨#[]⟩,.int .i64 0,.int .i64 0,.int .i64 0,.int .i64 0,.int .i64 0,.int .i64 0] 182)).alloc (.cells #[.int .i64 n.kind,.int .i64 n.so,.string ⟨#[]⟩,.string ⟨#[]⟩,.string ⟨#[]⟩,.string ⟨#[]⟩,.string ⟨#[]⟩,.string ⟨#[]⟩,.int .i64 0,.int .i64 0,.int .i64 0,.int .i64 0,.int .i64 0,.int .i64 0] 182)).drew.cell? ⟨w.heap.size+1,j,none⟩=([.int .i64 0,.int .i64 0,.string ⟨#[]⟩,.string ⟨#[]⟩,.string ⟨#[]⟩,.string ⟨#[]⟩,.string ⟨#[]⟩,.string ⟨#[]⟩,.int .i64 0,.int .i64 0,.int .i64 0,.int .i64 0,.int .i64 0,.int .i64 0]:List Value)[j]? from fun j=>by
  have h1:=heap_alloc_new (w.alloc (.cells #[.int .i64 n.kind,.int .i64 n.so,.slice al n.labs.length cl,.slice at1 n.to.length ct] 102)) (.cells #[.int .i64 0,.int .i64 0,.string ⟨#[]⟩,.string ⟨#[]⟩,.string ⟨#[]⟩,.string ⟨#[]⟩,.string ⟨#[]⟩,.string ⟨#[]⟩,.int .i64 0,.int .i64 0,.int .i64 0,.int .i64 0,.int .i64 0,.int .i64 0] 182);have hs:(w.alloc (.cells #[.int .i64 n.kind,.int .i64 n.so,.slice al n.labs.length cl,.slice at1 n.to.length ct] 102)).heap.size=w.heap.size+1:=by simp
  rw [hs]at h1;have h2:(((w.alloc (.cells #[.int .i64 n.kind,.int .i64 n.so,.slice al n.labs.length cl,.slice at1 n.to.length ct] 102)).alloc (.cells #[.int .i64 0,.int .i64 0,.string ⟨#[]⟩,.string ⟨#[]⟩,.string ⟨#[]⟩,.string ⟨#[]⟩,.string ⟨#[]⟩,.string ⟨#[]⟩,.int .i64 0,.int .i64 0,.int .i64 0,.int .i64 0,.int .i64 0,.int .i64 0] 182)).alloc (.cells #[.int .i64 n.kind,.int .i64 n.so,.string ⟨#[]⟩,.string ⟨#[]⟩,.string ⟨#[]⟩,.string ⟨#[]⟩,.string ⟨#[]⟩,.string ⟨#[]⟩,.int .i64 0,.int .i64 0,.int .i64 0,.int .i64 0,.int .i64 0,.int .i64 0] 182)).drew.heap[w.heap.size+1]? = some (.cells ([.int .i64 0,.int .i64 0,.string ⟨#[]⟩,.string ⟨#[]⟩,.string ⟨#[]⟩,.string ⟨#[]⟩,.string ⟨#[]⟩,.string ⟨#[]⟩,.int .i64 0,.int .i64 0,.int .i64 0,.int .i64 0,.int .i64 0,.int .i64 0]:List Value).toArray 182 (0,0)):=(heap_alloc_old _ _ (by simp)).trans h1
  exact heap_cells h2 j)
 have HZF:=hideK (show ∀j,(((w.alloc (.cells #[.int .i64 n.kind,.int .i64 n.so,.slice al n.labs.length cl,.slice at1 n.to.length ct] 102)).alloc (.cells #[.int .i64 0,.int .i64 0,.string ⟨#[]⟩,.string ⟨#[]⟩,.string ⟨#[]⟩,.string ⟨#[]⟩,.string ⟨#[]⟩,.string ⟨#[]⟩,.int .i64 0,.int .i64 0,.int .i64 0,.int .i64 0,.int .i64 0,.int .i64 0] 182)).alloc (.cells #[.int .i64 n.kind,.int .i64 n.so,.string ⟨#[]⟩,.string ⟨#[]⟩,.string ⟨#[]⟩,.string ⟨#[]⟩,.string ⟨#[]⟩,.string ⟨#[]⟩,.int .i64 0,.int .i64 0,.int .i64 0,.int .i64 0,.int .i64 0,.int .i64 0] 182)).drew.frozen? ⟨w.heap.size+1,j,none⟩=false from fun j=>by
  have h1:=heap_alloc_new (w.alloc (.cells #[.int .i64 n.kind,.int .i64 n.so,.slice al n.labs.length cl,.slice at1 n.to.length ct] 102)) (.cells #[.int .i64 0,.int .i64 0,.string ⟨#[]⟩,.string ⟨#[]⟩,.string ⟨#[]⟩,.string ⟨#[]⟩,.string ⟨#[]⟩,.string ⟨#[]⟩,.int .i64 0,.int .i64 0,.int .i64 0,.int .i64 0,.int .i64 0,.int .i64 0] 182);have hs:(w.alloc (.cells #[.int .i64 n.kind,.int .i64 n.so,.slice al n.labs.length cl,.slice at1 n.to.length ct] 102)).heap.size=w.heap.size+1:=by simp
  rw [hs]at h1;have h2:(((w.alloc (.cells #[.int .i64 n.kind,.int .i64 n.so,.slice al n.labs.length cl,.slice at1 n.to.length ct] 102)).alloc (.cells #[.int .i64 0,.int .i64 0,.string ⟨#[]⟩,.string ⟨#[]⟩,.string ⟨#[]⟩,.string ⟨#[]⟩,.string ⟨#[]⟩,.string ⟨#[]⟩,.int .i64 0,.int .i64 0,.int .i64 0,.int .i64 0,.int .i64 0,.int .i64 0] 182)).alloc (.cells #[.int .i64 n.kind,.int .i64 n.so,.string ⟨#[]⟩,.string ⟨#[]⟩,.string ⟨#[]⟩,.string ⟨#[]⟩,.string ⟨#[]⟩,.string ⟨#[]⟩,.int .i64 0,.int .i64 0,.int .i64 0,.int .i64 0,.int .i64 0,.int .i64 0] 182)).drew.heap[w.heap.size+1]? = some (.cells ([.int .i64 0,.int .i64 0,.string ⟨#[]⟩,.string ⟨#[]⟩,.string ⟨#[]⟩,.string ⟨#[]⟩,.string ⟨#[]⟩,.string ⟨#[]⟩,.int .i64 0,.int .i64 0,.int .i64 0,.int .i64 0,.int .i64 0,.int .i64 0]:List Value).toArray 182 (0,0)):=(heap_alloc_old _ _ (by simp)).trans h1
  exact heap_thaw h2 j)
 go_enter Tryz.func119,Tryz.ntmps119
 go_wp2_with fail
 refine wp_region_any (by kernel_rfl) ?_
 change wpAny _ _ _ _ _ _ _ (World.drew _)
 refine wpAny_take (i:=0) (v:=(.pointer (some ⟨w.heap.size+1+1,2,none⟩))) rfl (by kernel_rfl) (by kernel_rfl) (by kernel_rfl) (fun _ _ _ h=>h) (Or.inl ⟨by rfl,fun w=>by go_simp⟩) ?_
 refine wpAny_take (i:=1) (v:=(.slice (some ⟨w.heap.size+1+1,2,none⟩) 6 6)) rfl (by kernel_rfl) (by kernel_rfl) (by kernel_rfl) (fun _ _ _ h=>h) (Or.inl ⟨by rfl,fun w=>by go_simp⟩) ?_
 refine wpAny_take (i:=2) (v:=(.pointer (some ⟨w.heap.size,2,none⟩))) rfl (by kernel_rfl) (by kernel_rfl) (by kernel_rfl) (fun _ _ _ h=>h) (Or.inl ⟨by rfl,fun w=>by go_simp⟩) ?_
 refine take_oneH1 3 (AllReady.cons rfl (fun K hK=>?_) AllReady.nil) (by kernel_rfl)
 go_simp
 refine hK _ _ ?_;clear hK K;refine take_oneH1 4 (AllReady.cons rfl (fun K hK=>?_) AllReady.nil) (by kernel_rfl)
 refine step_copy_splice rfl (.tmp 14) (.tmp 16) 28 28 rfl 9 Tryz.underlying28 infoS1 _ _ 6 6 n.labs.length cl rfl rfl (w.heap.size+1+1) 2 _ 182 HB5.out (n.labs.map Value.string) (by rw [List.length_map];exact (Nat.min_eq_left h6).symm) (fun h=>⟨rfl,HPO.out h⟩) (by simp;omega) (one_ss n.labs) (w.heap.size+1+1) _ (bR _ _) (nR _) ?_
 intro w4 hg4 hb4;refine hK _ _ ?_;clear hK K;refine wpAny_done (by kernel_rfl) ?_ _
 have FB:=hideK (Below.trans HV0.out.drew (hb4.mono (show w.heap.size≤w.heap.size+1+1 by omega)))
 have HC4:=hideK (show ∀j,w4.cell? ⟨w.heap.size+1+1,j,none⟩=(kCs n.kind n.so n.labs [])[j]? from by rw [← splice_k n.kind n.so n.labs h6];exact heap_cells hg4.out)
 have HF4:=hideK (show ∀j,w4.frozen? ⟨w.heap.size+1+1,j,none⟩=false from heap_thaw hg4.out)
 have HB4:=hideK hb4;have x3:=(hb4.cell (p:=⟨w.heap.size,3,none⟩) (by show w.heap.size<w.heap.size+1+1;omega)).trans HN3.out
 clear hg4 hb4 HB5 HPO;go_wp2_with fail
 go_loopw [21] (fun i wr=>∃k:Nat,k≤n.to.length∧i = .int .i64 (k:Int)∧(∀j,wr.cell? ⟨w.heap.size+1+1,j,none⟩=(kCs n.kind n.so n.labs ((n.to.map fun t=>(clAt c t:Int)).take k))[j]?)∧(∀j,wr.frozen? ⟨w.heap.size+1+1,j,none⟩=false)∧Below (w.heap.size+1+1) (((w.alloc (.cells #[.int .i64 n.kind,.int .i64 n.so,.slice al n.labs.length cl,.slice at1 n.to.length ct] 102)).alloc (.cells #[.int .i64 0,.int .i64 0,.string ⟨#[]⟩,.string ⟨#[]⟩,.string ⟨#[]⟩,.string ⟨#[]⟩,.string ⟨#[]⟩,.string ⟨#[]⟩,.int .i64 0,.int .i64 0,.int .i64 0,.int .i64 0,.int .i64 0,.int .i64 0] 182)).alloc (.cells #[.int .i64 n.kind,.int .i64 n.so,.string ⟨#[]⟩,.string ⟨#[]⟩,.string ⟨#[]⟩,.string ⟨#[]⟩,.string ⟨#[]⟩,.string ⟨#[]⟩,.int .i64 0,.int .i64 0,.int .i64 0,.int .i64 0,.int .i64 0,.int .i64 0] 182)).drew wr) (fun i _=>n.to.length - (intOf i).toNat)
 case atStart=>exact ⟨0,Nat.zero_le _,rfl,HC4.out,HF4.out,HB4.out⟩
 case round =>
  obtain ⟨k,hk,rfl,hcell,hfr,hbr⟩:=hrel;clear x3;have HCE:=hideK hcell;have HFR:=hideK hfr;have HBR:=hideK hbr;have hbw:Below w.heap.size w wr:=HV0.out.drew.trans (hbr.mono (show w.heap.size≤w.heap.size+1+1 by omega))
  by_cases hlk:k<n.to.length
  ·have hltz:(k:Int)<(n.to.length:Int):=by omega
   have hk6:(k:Int)<6:=by omega
   have htc:=hlt n.to[k] (List.getElem_mem hlk);obtain ⟨tb,to1,rfl,htb,htcell⟩:=hta.resolve_left (fun h=>by have:=congrArg List.length h;simp at this;rw [this]at hlk;simp at hlk)
   obtain ⟨cb,co,rfl,hcb,hccell⟩:=hca.resolve_left (fun h=>by have:=congrArg List.length h;simp at this;rw [this]at htc;simp at htc)
   have d1:=(hbw.cell (p:=⟨tb,to1+k,none⟩) (by show tb<w.heap.size;omega)).trans (htcell k (by simpa using hlk))
   have d2:=(hbw.cell (p:=⟨cb,co+n.to[k],none⟩) (by show cb<w.heap.size;omega)).trans (hccell n.to[k] (by simpa using htc))
   rw [List.getElem_map]at d1 d2;have hcl:c[n.to[k]]=clAt c n.to[k]:=by unfold clAt;rw [List.getElem?_eq_getElem htc];rfl
   rw [hcl]at d2;have e8:wr.cell? ⟨w.heap.size+1+1,8+k,none⟩=some (.int .i64 0):=(hcell (8+k)).trans (kCs_zero n.kind n.so n.labs _ k h6 (by simp;omega) (by omega))
   have f8:=hfr (8+k);have HTK:=hideK (show (n.to.map fun t=>(clAt c t:Int)).take (k+1)=(n.to.map fun t=>(clAt c t:Int)).take k++[(clAt c n.to[k]:Int)] from by rw [List.take_succ_eq_append_getElem (by simpa using hlk),List.getElem_map])
   have htz:((n.to[k]:Nat):Int)<(c.length:Int):=by omega
   clear hcell hfr hbr htcell hccell hcl htc;generalize n.to[k]=tk at *;generalize clAt c tk=ck at *;go_wp2_with fail
   go_roundw
   case rel =>
    refine ⟨k+1,by omega,by go_num,fun j=>?_,fun j=>?_,?_⟩
    ·rw [HTK.out,kCs_snoc n.kind n.so n.labs _ _ h6 (by simp;omega),List.length_take,List.length_map,Nat.min_eq_left hk]
     by_cases hj:j=8+k
     ·subst hj;rw [if_pos rfl];exact World.cell?_setCell_same _ _ _ e8
     ·rw [if_neg hj,World.cell?_setCell_other _ _ _ _ (by intro e;injection e with _ e2;exact hj e2.symm)];exact HCE.out j
    ·rw [World.frozen?_setCell];exact HFR.out j
    ·exact HBR.out.setCell (p:=⟨w.heap.size+1+1,8+k,none⟩) (nR _) _
   case measure=>simp [intOf];omega
  ·have hltz:¬(k:Int)<(n.to.length:Int):=by omega
   have hkl:k=n.to.length:=by omega
   subst hkl;have hall:(n.to.map fun t=>(clAt c t:Int)).take n.to.length=n.to.map fun t=>(clAt c t:Int):=List.take_of_length_le (by simp)
   rw [hall]at hcell;have hcell2:∀j,wr.cell? ⟨w.heap.size+1+1,j,none⟩=[.int .i64 n.kind,.int .i64 n.so,.string s0,.string s1,.string s2,.string s3,.string s4,.string s5,.int .i64 m0,.int .i64 m1,.int .i64 m2,.int .i64 m3,.int .i64 m4,.int .i64 m5][j]?:=fun j=>by rw [← hK];exact hcell j
   have q0:wr.cell? ⟨w.heap.size+1+1,0,none⟩=some (.int .i64 n.kind):=hcell2 0;have q1:wr.cell? ⟨w.heap.size+1+1,1,none⟩=some (.int .i64 n.so):=hcell2 1;have q2:wr.cell? ⟨w.heap.size+1+1,2,none⟩=some (.string s0):=hcell2 2;have q3:wr.cell? ⟨w.heap.size+1+1,3,none⟩=some (.string s1):=hcell2 3;have q4:wr.cell? ⟨w.heap.size+1+1,4,none⟩=some (.string s2):=hcell2 4;have q5:wr.cell? ⟨w.heap.size+1+1,5,none⟩=some (.string s3):=hcell2 5;have q6:wr.cell? ⟨w.heap.size+1+1,6,none⟩=some (.string s4):=hcell2 6;have q7:wr.cell? ⟨w.heap.size+1+1,7,none⟩=some (.string s5):=hcell2 7;have q8:wr.cell? ⟨w.heap.size+1+1,8,none⟩=some (.int .i64 m0):=hcell2 8;have q9:wr.cell? ⟨w.heap.size+1+1,9,none⟩=some (.int .i64 m1):=hcell2 9;have q10:wr.cell? ⟨w.heap.size+1+1,10,none⟩=some (.int .i64 m2):=hcell2 10;have q11:wr.cell? ⟨w.heap.size+1+1,11,none⟩=some (.int .i64 m3):=hcell2 11;have q12:wr.cell? ⟨w.heap.size+1+1,12,none⟩=some (.int .i64 m4):=hcell2 12;have q13:wr.cell? ⟨w.heap.size+1+1,13,none⟩=some (.int .i64 m5):=hcell2 13;have zz:=fun j=>hbr.cell (p:=⟨w.heap.size+1,j,none⟩) (by show w.heap.size+1<w.heap.size+1+1;omega)
   have zf:=fun j=>hbr.frozen (p:=⟨w.heap.size+1,j,none⟩) (by show w.heap.size+1<w.heap.size+1+1;omega)
   have z0:wr.cell? ⟨w.heap.size+1,0,none⟩=some (.int .i64 0):=(zz 0).trans (HZ.out 0);have g0:wr.frozen? ⟨w.heap.size+1,0,none⟩=false:=(zf 0).trans (HZF.out 0);have z1:wr.cell? ⟨w.heap.size+1,1,none⟩=some (.int .i64 0):=(zz 1).trans (HZ.out 1);have g1:wr.frozen? ⟨w.heap.size+1,1,none⟩=false:=(zf 1).trans (HZF.out 1);have z2:wr.cell? ⟨w.heap.size+1,2,none⟩=some (.string ⟨#[]⟩):=(zz 2).trans (HZ.out 2);have g2:wr.frozen? ⟨w.heap.size+1,2,none⟩=false:=(zf 2).trans (HZF.out 2);have z3:wr.cell? ⟨w.heap.size+1,3,none⟩=some (.string ⟨#[]⟩):=(zz 3).trans (HZ.out 3);have g3:wr.frozen? ⟨w.heap.size+1,3,none⟩=false:=(zf 3).trans (HZF.out 3);have z4:wr.cell? ⟨w.heap.size+1,4,none⟩=some (.string ⟨#[]⟩):=(zz 4).trans (HZ.out 4);have g4:wr.frozen? ⟨w.heap.size+1,4,none⟩=false:=(zf 4).trans (HZF.out 4);have z5:wr.cell? ⟨w.heap.size+1,5,none⟩=some (.string ⟨#[]⟩):=(zz 5).trans (HZ.out 5);have g5:wr.frozen? ⟨w.heap.size+1,5,none⟩=false:=(zf 5).trans (HZF.out 5);have z6:wr.cell? ⟨w.heap.size+1,6,none⟩=some (.string ⟨#[]⟩):=(zz 6).trans (HZ.out 6);have g6:wr.frozen? ⟨w.heap.size+1,6,none⟩=false:=(zf 6).trans (HZF.out 6);have z7:wr.cell? ⟨w.heap.size+1,7,none⟩=some (.string ⟨#[]⟩):=(zz 7).trans (HZ.out 7);have g7:wr.frozen? ⟨w.heap.size+1,7,none⟩=false:=(zf 7).trans (HZF.out 7);have z8:wr.cell? ⟨w.heap.size+1,8,none⟩=some (.int .i64 0):=(zz 8).trans (HZ.out 8);have g8:wr.frozen? ⟨w.heap.size+1,8,none⟩=false:=(zf 8).trans (HZF.out 8);have z9:wr.cell? ⟨w.heap.size+1,9,none⟩=some (.int .i64 0):=(zz 9).trans (HZ.out 9);have g9:wr.frozen? ⟨w.heap.size+1,9,none⟩=false:=(zf 9).trans (HZF.out 9);have z10:wr.cell? ⟨w.heap.size+1,10,none⟩=some (.int .i64 0):=(zz 10).trans (HZ.out 10);have g10:wr.frozen? ⟨w.heap.size+1,10,none⟩=false:=(zf 10).trans (HZF.out 10);have z11:wr.cell? ⟨w.heap.size+1,11,none⟩=some (.int .i64 0):=(zz 11).trans (HZ.out 11);have g11:wr.frozen? ⟨w.heap.size+1,11,none⟩=false:=(zf 11).trans (HZF.out 11);have z12:wr.cell? ⟨w.heap.size+1,12,none⟩=some (.int .i64 0):=(zz 12).trans (HZ.out 12);have g12:wr.frozen? ⟨w.heap.size+1,12,none⟩=false:=(zf 12).trans (HZF.out 12);have z13:wr.cell? ⟨w.heap.size+1,13,none⟩=some (.int .i64 0):=(zz 13).trans (HZ.out 13);have g13:wr.frozen? ⟨w.heap.size+1,13,none⟩=false:=(zf 13).trans (HZF.out 13);clear hcell hcell2 hfr hbr zz zf HCE HFR HZ HZF;go_wp2_with fail
   refine bodyPost_ret (v:=.agg #[.int .i64 n.kind,.int .i64 n.so,.string s0,.string s1,.string s2,.string s3,.string s4,.string s5,.int .i64 m0,.int .i64 m1,.int .i64 m2,.int .i64 m3,.int .i64 m4,.int .i64 m5]) (by simp [results,Tryz.results119,go_sem,z0,z1,z2,z3,z4,z5,z6,z7,z8,z9,z10,z11,z12,z13]) rfl ⟨rfl,?_⟩
   have hsw:=hbw.size;have hl2:=HBR.out.size;simp at hl2;go_grown
end Go.Proofs.YtmamabhhgfcjcaaGreatDoor
