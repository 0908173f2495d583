/-
  The contract of graph.doingOf: what a node does itself, and to which classes it leads, as a key.
-/
import Derived.Test.YtmamabhhgfcjcaaGreatDoorHd
import Derived.Laws.CopyOwn
import Derived.Laws.MakeOwn
set_option maxRecDepth 100000
set_option maxHeartbeats 8000000
namespace Go.Proofs.YtmamabhhgfcjcaaGreatDoor
open Go.RowKit Go.Shelf
theorem infoS1:(Tryz.prog.info? 9).map (·.size)=some 1:=by kernel_rfl
theorem one_ss(ls:List ByteArray):∀v∈ls.map Value.string,v.oneCell'=true:=by
 intro v hv;obtain ⟨s,_,rfl⟩:=List.mem_map.1 hv;rfl
theorem take_oneH1{P:Program}{ops:Array Oper}{md:Region.Mode}{Q:Exit→Act→World→Prop}{fuel:Nat}{listed:Array Bool}{a:Act}{w:World}(i:Nat)(h:AllReady P md ops Q fuel listed a w [i])(hr:Region.ready md ops listed=[i]):wpAny P md ops Q (fuel+1) listed a w:=wpAny_ready hr (by simp) h
def ndVal(n:Nd)(al:OAd)(cl:Nat)(at1:OAd)(ct:Nat):Value:=.agg #[.int .i64 n.kind,.int .i64 n.so,.slice al n.labs.length cl,.slice at1 n.to.length ct]
abbrev NI(W:World)(B:Nat)(ts:List Nat)(at1:OAd):Prop:=NAt W B (ts.map fun t:Nat=>Value.int .i64 (t:Int)) at1
def kN(c:List Nat)(n:Nd):List Value:=kCs n.kind n.so n.labs (n.to.map fun t=>(clAt c t:Int))
theorem heap_cells{W:World}{g:Nat}{cs:List Value}{t:TypeId}(h:W.heap[g]? = some (.cells cs.toArray t (0,0))):∀j,W.cell? ⟨g,j,none⟩=cs[j]?:=by
 intro j;simp [World.cell?,h]
theorem heap_thaw{W:World}{g:Nat}{cs:List Value}{t:TypeId}(h:W.heap[g]? = some (.cells cs.toArray t (0,0))):∀j,W.frozen? ⟨g,j,none⟩=false:=by
 intro j;simp [World.frozen?,h]
theorem splice_k(kd so:Int)(ls:List ByteArray)(h:ls.length≤6):splice ([.int .i64 kd,.int .i64 so,.string ⟨#[]⟩,.string ⟨#[]⟩,.string ⟨#[]⟩,.string ⟨#[]⟩,.string ⟨#[]⟩,.string ⟨#[]⟩,.int .i64 0,.int .i64 0,.int .i64 0,.int .i64 0,.int .i64 0,.int .i64 0]:List Value) 2 (ls.map Value.string)=kCs kd so ls []:=by
 match ls,h with
 | [],_=>rfl
 | [_],_=>rfl
 | [_,_],_=>rfl
 | [_,_,_],_=>rfl
 | [_,_,_,_],_=>rfl
 | [_,_,_,_,_],_=>rfl
 | [_,_,_,_,_,_],_=>rfl
 | _::_::_::_::_::_::_::_,h=>simp at h
theorem kCs_head(kd so:Int)(ls:List ByteArray)(h:ls.length≤6):([Value.int .i64 kd,.int .i64 so]++(ls.map Value.string++List.replicate (6 - ls.length) (Value.string ⟨#[]⟩))).length=8:=by
 simp;omega
theorem kCs_eq(kd so:Int)(ls:List ByteArray)(ns:List Int):kCs kd so ls ns=([Value.int .i64 kd,.int .i64 so]++(ls.map Value.string++List.replicate (6 - ls.length) (Value.string ⟨#[]⟩)))++(ns.map (Value.int .i64)++List.replicate (6 - ns.length) (.int .i64 0)):=by
 unfold kCs;simp
theorem kCs_zero(kd so:Int)(ls:List ByteArray)(ns:List Int)(k:Nat)(h:ls.length≤6)(hn:ns.length=k)(hk:k<6):(kCs kd so ls ns)[8+k]? = some (.int .i64 0):=by
 rw [kCs_eq,List.getElem?_append_right (by rw [kCs_head kd so ls h];omega),kCs_head kd so ls h,show 8+k - 8=k by omega,List.getElem?_append_right (by simp;omega),List.length_map,hn,Nat.sub_self,List.getElem?_replicate,if_pos (by omega)]
theorem kCs_snoc(kd so:Int)(ls:List ByteArray)(ns:List Int)(v:Int)(h:ls.length≤6)(hn:ns.length<6)(j:Nat):(kCs kd so ls (ns++[v]))[j]? = if j=8+ns.length then some (.int .i64 v) else (kCs kd so ls ns)[j]?:=by
 rw [kCs_eq,kCs_eq];have h8:=kCs_head kd so ls h;generalize [Value.int .i64 kd,.int .i64 so]++(ls.map Value.string++List.replicate (6 - ls.length) (Value.string ⟨#[]⟩))=A at *;by_cases hj:j<8
 ·rw [List.getElem?_append_left (by omega),List.getElem?_append_left (by omega),if_neg (by omega)]
 ·have hr:∀X:List Value,(A++X)[j]? = X[j - 8]?:=fun X=>by rw [List.getElem?_append_right (by omega),h8]
  rw [hr,hr];generalize hq:j - 8=q;have e1:(ns++[v]).map (Value.int .i64)++List.replicate (6 - (ns++[v]).length) (Value.int .i64 0)=ns.map (Value.int .i64)++(Value.int .i64 v::List.replicate (5 - ns.length) (.int .i64 0)):=by
   rw [List.map_append,List.append_assoc,List.length_append,show 6 - (ns.length + [v].length)=5 - ns.length by simp only [List.length_singleton];omega]
   rfl
  have e2:List.replicate (6 - ns.length) (Value.int .i64 0) = .int .i64 0::List.replicate (5 - ns.length) (.int .i64 0):=by
   rw [show 6 - ns.length=(5 - ns.length)+1 by omega,List.replicate_succ]
  rw [e1,e2];by_cases h1:q<ns.length
  ·rw [List.getElem?_append_left (by simpa using h1),List.getElem?_append_left (by simpa using h1),if_neg (by omega)]
  ·have hs:∀X:List Value,(ns.map (Value.int .i64)++X)[q]? = X[q - ns.length]?:=fun X=>by rw [List.getElem?_append_right (by simpa using h1),List.length_map]
   rw [hs,hs];cases hz:q - ns.length with
   | zero=>rw [if_pos (by omega)];rfl
   | succ r=>rw [if_neg (by omega)];rfl
theorem doingOf_any(n:Nd)(al at1 ac:OAd)(cl ct cc:Nat)(c:List Nat)(B:Nat)(w:World)(hla:LA w B n.labs al)(hta:NI w B n.to at1)(hca:NI w B c ac)(hB:B≤w.heap.size)(h6:n.labs.length≤6)(t6:n.to.length≤6)(hlt:∀t∈n.to,t<c.length)
  (s0 s1 s2 s3 s4 s5:ByteArray) (m0 m1 m2 m3 m4 m5:Int) (hK:kN c n=[.int .i64 n.kind,.int .i64 n.so,.string s0,.string s1,.string s2,.string s3,.string s4,.string s5,.int .i64 m0,.int .i64 m1,.int .i64 m2,.int .i64 m3,.int .i64 m4,.int .i64 m5]) :
  Calls Tryz.prog 119 #[ndVal n al cl at1 ct,.slice ac c.length cc] w fun e w'=>e = .returned (.agg #[.int .i64 n.kind,.int .i64 n.so,.string s0,.string s1,.string s2,.string s3,.string s4,.string s5,.int .i64 m0,.int .i64 m1,.int .i64 m2,.int .i64 m3,.int .i64 m4,.int .i64 m5])∧Below w.heap.size w w':=by
 simp only [ndVal];have HV0:=hideK (show Below w.heap.size w (((w.alloc (.cells #[.int .i64 n.kind,.int .i64 n.so,.slice al n.labs.length cl,.slice at1 n.to.length ct] 102)).alloc (.cells #[.int .i64 0,.int .i64 0,.string ⟨#[]⟩,.string ⟨#[]⟩,.string ⟨#[]⟩,.string ⟨#[]⟩,.string ⟨#[]⟩,.string ⟨#[]⟩,.int .i64 0,.int .i64 0,.int .i64 0,.int .i64 0,.int .i64 0,.int .i64 0] 182)).alloc (.cells #[.int .i64 n.kind,.int .i64 n.so,.string ⟨#[]⟩,.string ⟨#[]⟩,.string ⟨#[]⟩,.string ⟨#[]⟩,.string ⟨#[]⟩,.string ⟨#[]⟩,.int .i64 0,.int .i64 0,.int .i64 0,.int .i64 0,.int .i64 0,.int .i64 0] 182)) from (((bR _ _).alloc (nR _) _).alloc (by simp) _).alloc (by simp;omega) _)
 have HB5:=hideK (show (((w.alloc (.cells #[.int .i64 n.kind,.int .i64 n.so,.slice al n.labs.length cl,.slice at1 n.to.length ct] 102)).alloc (.cells #[.int .i64 0,.int .i64 0,.string ⟨#[]⟩,.string ⟨#[]⟩,.string ⟨#[]⟩,.string ⟨#[]⟩,.string ⟨#[]⟩,.string ⟨#[]⟩,.int .i64 0,.int .i64 0,.int .i64 0,.int .i64 0,.int .i64 0,.int .i64 0] 182)).alloc (.cells #[.int .i64 n.kind,.int .i64 n.so,.string ⟨#[]⟩,.string ⟨#[]⟩,.string ⟨#[]⟩,.string ⟨#[]⟩,.string ⟨#[]⟩,.string ⟨#[]⟩,.int .i64 0,.int .i64 0,.int .i64 0,.int .i64 0,.int .i64 0,.int .i64 0] 182)).drew.heap[w.heap.size+1+1]? = some (.cells ([.int .i64 n.kind,.int .i64 n.so,.string ⟨#[]⟩,.string ⟨#[]⟩,.string ⟨#[]⟩,.string ⟨#[]⟩,.string ⟨#[]⟩,.string ⟨#[]⟩,.int .i64 0,.int .i64 0,.int .i64 0,.int .i64 0,.int .i64 0,.int .i64 0]:List Value).toArray 182 (0,0)) from by
  have h1:=heap_alloc_new ((w.alloc (.cells #[.int .i64 n.kind,.int .i64 n.so,.slice al n.labs.length cl,.slice at1 n.to.length ct] 102)).alloc (.cells #[.int .i64 0,.int .i64 0,.string ⟨#[]⟩,.string ⟨#[]⟩,.string ⟨#[]⟩,.string ⟨#[]⟩,.string ⟨#[]⟩,.string ⟨#[]⟩,.int .i64 0,.int .i64 0,.int .i64 0,.int .i64 0,.int .i64 0,.int .i64 0] 182)) (.cells #[.int .i64 n.kind,.int .i64 n.so,.string ⟨#[]⟩,.string ⟨#[]⟩,.string ⟨#[]⟩,.string ⟨#[]⟩,.string ⟨#[]⟩,.string ⟨#[]⟩,.int .i64 0,.int .i64 0,.int .i64 0,.int .i64 0,.int .i64 0,.int .i64 0] 182);have hs:((w.alloc (.cells #[.int .i64 n.kind,.int .i64 n.so,.slice al n.labs.length cl,.slice at1 n.to.length ct] 102)).alloc (.cells #[.int .i64 0,.int .i64 0,.string ⟨#[]⟩,.string ⟨#[]⟩,.string ⟨#[]⟩,.string ⟨#[]⟩,.string ⟨#[]⟩,.string ⟨#[]⟩,.int .i64 0,.int .i64 0,.int .i64 0,.int .i64 0,.int .i64 0,.int .i64 0] 182)).heap.size=w.heap.size+1+1:=by simp
  rw [hs]at h1;exact h1)
 have HPO:=hideK (show 0<(n.labs.map Value.string).length→∃ad,al=some ad∧∀j v,(n.labs.map Value.string)[j]? = some v→(((w.alloc (.cells #[.int .i64 n.kind,.int .i64 n.so,.slice al n.labs.length cl,.slice at1 n.to.length ct] 102)).alloc (.cells #[.int .i64 0,.int .i64 0,.string ⟨#[]⟩,.string ⟨#[]⟩,.string ⟨#[]⟩,.string ⟨#[]⟩,.string ⟨#[]⟩,.string ⟨#[]⟩,.int .i64 0,.int .i64 0,.int .i64 0,.int .i64 0,.int .i64 0,.int .i64 0] 182)).alloc (.cells #[.int .i64 n.kind,.int .i64 n.so,.string ⟨#[]⟩,.string ⟨#[]⟩,.string ⟨#[]⟩,.string ⟨#[]⟩,.string ⟨#[]⟩,.string ⟨#[]⟩,.int .i64 0,.int .i64 0,.int .i64 0,.int .i64 0,.int .i64 0,.int .i64 0] 182)).drew.cell? (ad.add j)=some v from by
  intro hpos;rcases hla with h|⟨b,o,rfl,hb,hc⟩
  ·rw [h]at hpos;simp at hpos
  ·refine ⟨_,rfl,fun j v hv=>?_⟩
   obtain ⟨hj,rfl⟩:=List.getElem?_eq_some_iff.1 hv;have e:(⟨b,o,none⟩:Addr).add j=⟨b,o+j,none⟩:=by unfold Addr.add;split <;> simp_all
   rw [e];have h1:=HV0.out.drew.cell (p:=⟨b,o+j,none⟩) (by show b<w.heap.size;omega)
   exact h1.trans (hc j hj))
 have HN3:=hideK (show (((w.alloc (.cells #[.int .i64 n.kind,.int .i64 n.so,.slice al n.labs.length cl,.slice at1 n.to.length ct] 102)).alloc (.cells #[.int .i64 0,.int .i64 0,.string ⟨#[]⟩,.string ⟨#[]⟩,.string ⟨#[]⟩,.string ⟨#[]⟩,.string ⟨#[]⟩,.string ⟨#[]⟩,.int .i64 0,.int .i64 0,.int .i64 0,.int .i64 0,.int .i64 0,.int .i64 0] 182)).alloc (.cells #[.int .i64 n.kind,.int .i64 n.so,.string ⟨#[]⟩,.string ⟨#[]⟩,.string ⟨#[]⟩,.string ⟨#[]⟩,.string ⟨#[]⟩,.string ⟨#[]⟩,.int .i64 0,.int .i64 0,.int .i64 0,.int .i64 0,.int .i64 0,.int .i64 0] 182)).drew.cell? ⟨w.heap.size,3,none⟩=some (.slice at1 n.to.length ct) by go_cell)
 have HZ:=hideK (show ∀j,(((w.alloc (.cells #[.int .i64 n.kind,.int .i64 n.so,.slice al n.labs.length cl,.slice at1 n.to.length ct] 102)).alloc (.cells #[.int .i64 0,.int .i64 0,.string ⟨#[]⟩,.string ⟨#[]⟩,.string ⟨#[]⟩,.string ⟨#[]⟩,.string ⟨#[]⟩,.string ⟨#[]⟩,.int .i64 0,.int .i64 0,.int .i64 0,.int .i64 0,.int .i64 0,.int .i64 0] 182)).alloc (.cells #[.int .i64 n.kind,.int .i64 n.so,.string ⟨#[]⟩,.string ⟨#[]⟩,.string ⟨#[]⟩,.string ⟨#[]⟩,.string ⟨#[]⟩,.string ⟨#[]⟩,.int .i64 0,.int .i64 0,.int .i64 0,.int .i64 0,.int .i64 0,.int .i64 0] 182)).drew.cell? ⟨w.heap.size+1,j,none⟩=([.int .i64 0,.int .i64 0,.string ⟨#[]⟩,.string ⟨#[]⟩,.string ⟨#[]⟩,.string ⟨#[]⟩,.string ⟨#[]⟩,.string ⟨#[]⟩,.int .i64 0,.int .i64 0,.int .i64 0,.int .i64 0,.int .i64 0,.int .i64 0]:List Value)[j]? from fun j=>by
  have h1:=heap_alloc_new (w.alloc (.cells #[.int .i64 n.kind,.int .i64 n.so,.slice al n.labs.length cl,.slice at1 n.to.length ct] 102)) (.cells #[.int .i64 0,.int .i64 0,.string ⟨#[]⟩,.string ⟨#[]⟩,.string ⟨#[]⟩,.string ⟨#[]⟩,.string ⟨#[]⟩,.string ⟨#[]⟩,.int .i64 0,.int .i64 0,.int .i64 0,.int .i64 0,.int .i64 0,.int .i64 0] 182);have hs:(w.alloc (.cells #[.int .i64 n.kind,.int .i64 n.so,.slice al n.labs.length cl,.slice at1 n.to.length ct] 102)).heap.size=w.heap.size+1:=by simp
  rw [hs]at h1;have h2:(((w.alloc (.cells #[.int .i64 n.kind,.int .i64 n.so,.slice al n.labs.length cl,.slice at1 n.to.length ct] 102)).alloc (.cells #[.int .i64 0,.int .i64 0,.string ⟨#[]⟩,.string ⟨#[]⟩,.string ⟨#[]⟩,.string ⟨#[]⟩,.string ⟨#[]⟩,.string ⟨#[]⟩,.int .i64 0,.int .i64 0,.int .i64 0,.int .i64 0,.int .i64 0,.int .i64 0] 182)).alloc (.cells #[.int .i64 n.kind,.int .i64 n.so,.string ⟨#[]⟩,.string ⟨#[]⟩,.string ⟨#[]⟩,.string ⟨#[]⟩,.string ⟨#[]⟩,.string ⟨#[]⟩,.int .i64 0,.int .i64 0,.int .i64 0,.int .i64 0,.int .i64 0,.int .i64 0] 182)).drew.heap[w.heap.size+1]? = some (.cells ([.int .i64 0,.int .i64 0,.string ⟨#[]⟩,.string ⟨#[]⟩,.string ⟨#[]⟩,.string ⟨#[]⟩,.string ⟨#[]⟩,.string ⟨#[]⟩,.int .i64 0,.int .i64 0,.int .i64 0,.int .i64 0,.int .i64 0,.int .i64 0]:List Value).toArray 182 (0,0)):=(heap_alloc_old _ _ (by simp)).trans h1
  exact heap_cells h2 j)
 have HZF:=hideK (show ∀j,(((w.alloc (.cells #[.int .i64 n.kind,.int .i64 n.so,.slice al n.labs.length cl,.slice at1 n.to.length ct] 102)).alloc (.cells #[.int .i64 0,.int .i64 0,.string ⟨#[]⟩,.string ⟨#[]⟩,.string ⟨#[]⟩,.string ⟨#[]⟩,.string ⟨#[]⟩,.string ⟨#[]⟩,.int .i64 0,.int .i64 0,.int .i64 0,.int .i64 0,.int .i64 0,.int .i64 0] 182)).alloc (.cells #[.int .i64 n.kind,.int .i64 n.so,.string ⟨#[]⟩,.string ⟨#[]⟩,.string ⟨#[]⟩,.string ⟨#[]⟩,.string ⟨#[]⟩,.string ⟨#[]⟩,.int .i64 0,.int .i64 0,.int .i64 0,.int .i64 0,.int .i64 0,.int .i64 0] 182)).drew.frozen? ⟨w.heap.size+1,j,none⟩=false from fun j=>by
  have h1:=heap_alloc_new (w.alloc (.cells #[.int .i64 n.kind,.int .i64 n.so,.slice al n.labs.length cl,.slice at1 n.to.length ct] 102)) (.cells #[.int .i64 0,.int .i64 0,.string ⟨#[]⟩,.string ⟨#[]⟩,.string ⟨#[]⟩,.string ⟨#[]⟩,.string ⟨#[]⟩,.string ⟨#[]⟩,.int .i64 0,.int .i64 0,.int .i64 0,.int .i64 0,.int .i64 0,.int .i64 0] 182);have hs:(w.alloc (.cells #[.int .i64 n.kind,.int .i64 n.so,.slice al n.labs.length cl,.slice at1 n.to.length ct] 102)).heap.size=w.heap.size+1:=by simp
  rw [hs]at h1;have h2:(((w.alloc (.cells #[.int .i64 n.kind,.int .i64 n.so,.slice al n.labs.length cl,.slice at1 n.to.length ct] 102)).alloc (.cells #[.int .i64 0,.int .i64 0,.string ⟨#[]⟩,.string ⟨#[]⟩,.string ⟨#[]⟩,.string ⟨#[]⟩,.string ⟨#[]⟩,.string ⟨#[]⟩,.int .i64 0,.int .i64 0,.int .i64 0,.int .i64 0,.int .i64 0,.int .i64 0] 182)).alloc (.cells #[.int .i64 n.kind,.int .i64 n.so,.string ⟨#[]⟩,.string ⟨#[]⟩,.string ⟨#[]⟩,.string ⟨#[]⟩,.string ⟨#[]⟩,.string ⟨#[]⟩,.int .i64 0,.int .i64 0,.int .i64 0,.int .i64 0,.int .i64 0,.int .i64 0] 182)).drew.heap[w.heap.size+1]? = some (.cells ([.int .i64 0,.int .i64 0,.string ⟨#[]⟩,.string ⟨#[]⟩,.string ⟨#[]⟩,.string ⟨#[]⟩,.string ⟨#[]⟩,.string ⟨#[]⟩,.int .i64 0,.int .i64 0,.int .i64 0,.int .i64 0,.int .i64 0,.int .i64 0]:List Value).toArray 182 (0,0)):=(heap_alloc_old _ _ (by simp)).trans h1
  exact heap_thaw h2 j)
 go_enter Tryz.func119,Tryz.ntmps119
 go_wp2_with fail
 refine wp_region_any (by kernel_rfl) ?_
 change wpAny _ _ _ _ _ _ _ (World.drew _)
 refine wpAny_take (i:=0) (v:=(.pointer (some ⟨w.heap.size+1+1,2,none⟩))) rfl (by kernel_rfl) (by kernel_rfl) (by kernel_rfl) (fun _ _ _ h=>h) (Or.inl ⟨by rfl,fun w=>by go_simp⟩) ?_
 refine wpAny_take (i:=1) (v:=(.slice (some ⟨w.heap.size+1+1,2,none⟩) 6 6)) rfl (by kernel_rfl) (by kernel_rfl) (by kernel_rfl) (fun _ _ _ h=>h) (Or.inl ⟨by rfl,fun w=>by go_simp⟩) ?_
 refine wpAny_take (i:=2) (v:=(.pointer (some ⟨w.heap.size,2,none⟩))) rfl (by kernel_rfl) (by kernel_rfl) (by kernel_rfl) (fun _ _ _ h=>h) (Or.inl ⟨by rfl,fun w=>by go_simp⟩) ?_
 refine take_oneH1 3 (AllReady.cons rfl (fun K hK=>?_) AllReady.nil) (by kernel_rfl)
 go_simp
 refine hK _ _ ?_;clear hK K;refine take_oneH1 4 (AllReady.cons rfl (fun K hK=>?_) AllReady.nil) (by kernel_rfl)
 refine step_copy_splice rfl (.tmp 14) (.tmp 16) 28 28 rfl 9 Tryz.underlying28 infoS1 _ _ 6 6 n.labs.length cl rfl rfl (w.heap.size+1+1) 2 _ 182 HB5.out (n.labs.map Value.string) (by rw [List.length_map];exact (Nat.min_eq_left h6).symm) (fun h=>⟨rfl,HPO.out h⟩) (by simp;omega) (one_ss n.labs) (w.heap.size+1+1) _ (bR _ _) (nR _) ?_
 intro w4 hg4 hb4;refine hK _ _ ?_;clear hK K;refine wpAny_done (by kernel_rfl) ?_ _
 have FB:=hideK (Below.trans HV0.out.drew (hb4.mono (show w.heap.size≤w.heap.size+1+1 by omega)))
 have HC4:=hideK (show ∀j,w4.cell? ⟨w.heap.size+1+1,j,none⟩=(kCs n.kind n.so n.labs [])[j]? from by rw [← splice_k n.kind n.so n.labs h6];exact heap_cells hg4.out)
 have HF4:=hideK (show ∀j,w4.frozen? ⟨w.heap.size+1+1,j,none⟩=false from heap_thaw hg4.out)
 have HB4:=hideK hb4;have x3:=(hb4.cell (p:=⟨w.heap.size,3,none⟩) (by show w.heap.size<w.heap.size+1+1;omega)).trans HN3.out
 clear hg4 hb4 HB5 HPO;go_wp2_with fail
 go_loopw [21] (fun i wr=>∃k:Nat,k≤n.to.length∧i = .int .i64 (k:Int)∧(∀j,wr.cell? ⟨w.heap.size+1+1,j,none⟩=(kCs n.kind n.so n.labs ((n.to.map fun t=>(clAt c t:Int)).take k))[j]?)∧(∀j,wr.frozen? ⟨w.heap.size+1+1,j,none⟩=false)∧Below (w.heap.size+1+1) (((w.alloc (.cells #[.int .i64 n.kind,.int .i64 n.so,.slice al n.labs.length cl,.slice at1 n.to.length ct] 102)).alloc (.cells #[.int .i64 0,.int .i64 0,.string ⟨#[]⟩,.string ⟨#[]⟩,.string ⟨#[]⟩,.string ⟨#[]⟩,.string ⟨#[]⟩,.string ⟨#[]⟩,.int .i64 0,.int .i64 0,.int .i64 0,.int .i64 0,.int .i64 0,.int .i64 0] 182)).alloc (.cells #[.int .i64 n.kind,.int .i64 n.so,.string ⟨#[]⟩,.string ⟨#[]⟩,.string ⟨#[]⟩,.string ⟨#[]⟩,.string ⟨#[]⟩,.string ⟨#[]⟩,.int .i64 0,.int .i64 0,.int .i64 0,.int .i64 0,.int .i64 0,.int .i64 0] 182)).drew wr) (fun i _=>n.to.length - (intOf i).toNat)
 case atStart=>exact ⟨0,Nat.zero_le _,rfl,HC4.out,HF4.out,HB4.out⟩
 case round =>
  obtain ⟨k,hk,rfl,hcell,hfr,hbr⟩:=hrel;clear x3;have HCE:=hideK hcell;have HFR:=hideK hfr;have HBR:=hideK hbr;have hbw:Below w.heap.size w wr:=HV0.out.drew.trans (hbr.mono (show w.heap.size≤w.heap.size+1+1 by omega))
  by_cases hlk:k<n.to.length
  ·have hltz:(k:Int)<(n.to.length:Int):=by omega
   have hk6:(k:Int)<6:=by omega
   have htc:=hlt n.to[k] (List.getElem_mem hlk);obtain ⟨tb,to1,rfl,htb,htcell⟩:=hta.resolve_left (fun h=>by have:=congrArg List.length h;simp at this;rw [this]at hlk;simp at hlk)
   obtain ⟨cb,co,rfl,hcb,hccell⟩:=hca.resolve_left (fun h=>by have:=congrArg List.length h;simp at this;rw [this]at htc;simp at htc)
   have d1:=(hbw.cell (p:=⟨tb,to1+k,none⟩) (by show tb<w.heap.size;omega)).trans (htcell k (by simpa using hlk))
   have d2:=(hbw.cell (p:=⟨cb,co+n.to[k],none⟩) (by show cb<w.heap.size;omega)).trans (hccell n.to[k] (by simpa using htc))
   rw [List.getElem_map]at d1 d2;have hcl:c[n.to[k]]=clAt c n.to[k]:=by unfold clAt;rw [List.getElem?_eq_getElem htc];rfl
   rw [hcl]at d2;have e8:wr.cell? ⟨w.heap.size+1+1,8+k,none⟩=some (.int .i64 0):=(hcell (8+k)).trans (kCs_zero n.kind n.so n.labs _ k h6 (by simp;omega) (by omega))
   have f8:=hfr (8+k);have HTK:=hideK (show (n.to.map fun t=>(clAt c t:Int)).take (k+1)=(n.to.map fun t=>(clAt c t:Int)).take k++[(clAt c n.to[k]:Int)] from by rw [List.take_succ_eq_append_getElem (by simpa using hlk),List.getElem_map])
   have htz:((n.to[k]:Nat):Int)<(c.length:Int):=by omega
   clear hcell hfr hbr htcell hccell hcl htc;generalize n.to[k]=tk at *;generalize clAt c tk=ck at *;go_wp2_with fail
   go_roundw
   case rel =>
    refine ⟨k+1,by omega,by go_num,fun j=>?_,fun j=>?_,?_⟩
    ·rw [HTK.out,kCs_snoc n.kind n.so n.labs _ _ h6 (by simp;omega),List.length_take,List.length_map,Nat.min_eq_left hk]
     by_cases hj:j=8+k
     ·subst hj;rw [if_pos rfl];exact World.cell?_setCell_same _ _ _ e8
     ·rw [if_neg hj,World.cell?_setCell_other _ _ _ _ (by intro e;injection e with _ e2;exact hj e2.symm)];exact HCE.out j
    ·rw [World.frozen?_setCell];exact HFR.out j
    ·exact HBR.out.setCell (p:=⟨w.heap.size+1+1,8+k,none⟩) (nR _) _
   case measure=>simp [intOf];omega
  ·have hltz:¬(k:Int)<(n.to.length:Int):=by omega
   have hkl:k=n.to.length:=by omega
   subst hkl;have hall:(n.to.map fun t=>(clAt c t:Int)).take n.to.length=n.to.map fun t=>(clAt c t:Int):=List.take_of_length_le (by simp)
   rw [hall]at hcell;have hcell2:∀j,wr.cell? ⟨w.heap.size+1+1,j,none⟩=[.int .i64 n.kind,.int .i64 n.so,.string s0,.string s1,.string s2,.string s3,.string s4,.string s5,.int .i64 m0,.int .i64 m1,.int .i64 m2,.int .i64 m3,.int .i64 m4,.int .i64 m5][j]?:=fun j=>by rw [← hK];exact hcell j
   have q0:wr.cell? ⟨w.heap.size+1+1,0,none⟩=some (.int .i64 n.kind):=hcell2 0;have q1:wr.cell? ⟨w.heap.size+1+1,1,none⟩=some (.int .i64 n.so):=hcell2 1;have q2:wr.cell? ⟨w.heap.size+1+1,2,none⟩=some (.string s0):=hcell2 2;have q3:wr.cell? ⟨w.heap.size+1+1,3,none⟩=some (.string s1):=hcell2 3;have q4:wr.cell? ⟨w.heap.size+1+1,4,none⟩=some (.string s2):=hcell2 4;have q5:wr.cell? ⟨w.heap.size+1+1,5,none⟩=some (.string s3):=hcell2 5;have q6:wr.cell? ⟨w.heap.size+1+1,6,none⟩=some (.string s4):=hcell2 6;have q7:wr.cell? ⟨w.heap.size+1+1,7,none⟩=some (.string s5):=hcell2 7;have q8:wr.cell? ⟨w.heap.size+1+1,8,none⟩=some (.int .i64 m0):=hcell2 8;have q9:wr.cell? ⟨w.heap.size+1+1,9,none⟩=some (.int .i64 m1):=hcell2 9;have q10:wr.cell? ⟨w.heap.size+1+1,10,none⟩=some (.int .i64 m2):=hcell2 10;have q11:wr.cell? ⟨w.heap.size+1+1,11,none⟩=some (.int .i64 m3):=hcell2 11;have q12:wr.cell? ⟨w.heap.size+1+1,12,none⟩=some (.int .i64 m4):=hcell2 12;have q13:wr.cell? ⟨w.heap.size+1+1,13,none⟩=some (.int .i64 m5):=hcell2 13;have zz:=fun j=>hbr.cell (p:=⟨w.heap.size+1,j,none⟩) (by show w.heap.size+1<w.heap.size+1+1;omega)
   have zf:=fun j=>hbr.frozen (p:=⟨w.heap.size+1,j,none⟩) (by show w.heap.size+1<w.heap.size+1+1;omega)
   have z0:wr.cell? ⟨w.heap.size+1,0,none⟩=some (.int .i64 0):=(zz 0).trans (HZ.out 0);have g0:wr.frozen? ⟨w.heap.size+1,0,none⟩=false:=(zf 0).trans (HZF.out 0);have z1:wr.cell? ⟨w.heap.size+1,1,none⟩=some (.int .i64 0):=(zz 1).trans (HZ.out 1);have g1:wr.frozen? ⟨w.heap.size+1,1,none⟩=false:=(zf 1).trans (HZF.out 1);have z2:wr.cell? ⟨w.heap.size+1,2,none⟩=some (.string ⟨#[]⟩):=(zz 2).trans (HZ.out 2);have g2:wr.frozen? ⟨w.heap.size+1,2,none⟩=false:=(zf 2).trans (HZF.out 2);have z3:wr.cell? ⟨w.heap.size+1,3,none⟩=some (.string ⟨#[]⟩):=(zz 3).trans (HZ.out 3);have g3:wr.frozen? ⟨w.heap.size+1,3,none⟩=false:=(zf 3).trans (HZF.out 3);have z4:wr.cell? ⟨w.heap.size+1,4,none⟩=some (.string ⟨#[]⟩):=(zz 4).trans (HZ.out 4);have g4:wr.frozen? ⟨w.heap.size+1,4,none⟩=false:=(zf 4).trans (HZF.out 4);have z5:wr.cell? ⟨w.heap.size+1,5,none⟩=some (.string ⟨#[]⟩):=(zz 5).trans (HZ.out 5);have g5:wr.frozen? ⟨w.heap.size+1,5,none⟩=false:=(zf 5).trans (HZF.out 5);have z6:wr.cell? ⟨w.heap.size+1,6,none⟩=some (.string ⟨#[]⟩):=(zz 6).trans (HZ.out 6);have g6:wr.frozen? ⟨w.heap.size+1,6,none⟩=false:=(zf 6).trans (HZF.out 6);have z7:wr.cell? ⟨w.heap.size+1,7,none⟩=some (.string ⟨#[]⟩):=(zz 7).trans (HZ.out 7);have g7:wr.frozen? ⟨w.heap.size+1,7,none⟩=false:=(zf 7).trans (HZF.out 7);have z8:wr.cell? ⟨w.heap.size+1,8,none⟩=some (.int .i64 0):=(zz 8).trans (HZ.out 8);have g8:wr.frozen? ⟨w.heap.size+1,8,none⟩=false:=(zf 8).trans (HZF.out 8);have z9:wr.cell? ⟨w.heap.size+1,9,none⟩=some (.int .i64 0):=(zz 9).trans (HZ.out 9);have g9:wr.frozen? ⟨w.heap.size+1,9,none⟩=false:=(zf 9).trans (HZF.out 9);have z10:wr.cell? ⟨w.heap.size+1,10,none⟩=some (.int .i64 0):=(zz 10).trans (HZ.out 10);have g10:wr.frozen? ⟨w.heap.size+1,10,none⟩=false:=(zf 10).trans (HZF.out 10);have z11:wr.cell? ⟨w.heap.size+1,11,none⟩=some (.int .i64 0):=(zz 11).trans (HZ.out 11);have g11:wr.frozen? ⟨w.heap.size+1,11,none⟩=false:=(zf 11).trans (HZF.out 11);have z12:wr.cell? ⟨w.heap.size+1,12,none⟩=some (.int .i64 0):=(zz 12).trans (HZ.out 12);have g12:wr.frozen? ⟨w.heap.size+1,12,none⟩=false:=(zf 12).trans (HZF.out 12);have z13:wr.cell? ⟨w.heap.size+1,13,none⟩=some (.int .i64 0):=(zz 13).trans (HZ.out 13);have g13:wr.frozen? ⟨w.heap.size+1,13,none⟩=false:=(zf 13).trans (HZF.out 13);clear hcell hcell2 hfr hbr zz zf HCE HFR HZ HZF;go_wp2_with fail
   refine bodyPost_ret (v:=.agg #[.int .i64 n.kind,.int .i64 n.so,.string s0,.string s1,.string s2,.string s3,.string s4,.string s5,.int .i64 m0,.int .i64 m1,.int .i64 m2,.int .i64 m3,.int .i64 m4,.int .i64 m5]) (by simp [results,Tryz.results119,go_sem,z0,z1,z2,z3,z4,z5,z6,z7,z8,z9,z10,z11,z12,z13]) rfl ⟨rfl,?_⟩
   have hsw:=hbw.size;have hl2:=HBR.out.size;simp at hl2;go_grown
def shpN(n:Nd):Prop:=((n.kind=1∧n.to.length=0∧n.labs=[])∨((n.kind=2∨n.kind=3)∧n.to.length=1∧n.labs=[])∨((n.kind=4∨n.kind=5)∧n.to.length=2∧n.labs=[])∨((n.kind=6∨n.kind=7)∧n.to.length=n.labs.length∧n.labs.length≤6))∧(∀l∈n.labs,l.size≠0∧l.size≤1000)∧in64z n.so
theorem shp_len{n:Nd}(h:shpN n):n.labs.length≤6∧n.to.length≤6∧in64z n.kind:=by
 obtain ⟨h,_,_⟩:=h;unfold in64z;rcases h with ⟨h1,h2,h3⟩|⟨h1|h1,h2,h3⟩|⟨h1|h1,h2,h3⟩|⟨h1|h1,h2,h3⟩ <;> first|(rw [h3];simp;omega)|omega
theorem shp_to{n m:Nd}(h:shpN n)(h':shpN m)(hk:n.kind=m.kind)(hl:n.labs.length=m.labs.length):n.to.length=m.to.length:=by
 obtain ⟨h,_,_⟩:=h;obtain ⟨h',_,_⟩:=h';rcases h with ⟨h1,h2,_⟩|⟨h1|h1,h2,_⟩|⟨h1|h1,h2,_⟩|⟨h1|h1,h2,_⟩ <;> rcases h' with ⟨g1,g2,_⟩|⟨g1|g1,g2,_⟩|⟨g1|g1,g2,_⟩|⟨g1|g1,g2,_⟩ <;> omega
theorem pad_inj{α : Type}(z : α):∀(l l':List α) (n n':Nat),z ∉ l→z ∉ l'→l++List.replicate n z=l'++List.replicate n' z→l=l'
 | [],[],_,_,_,_,_=>rfl
 | [],a::l',n,n',_,h',e=>by
  cases n with
  | zero=>simp at e
  | succ n =>
   rw [List.replicate_succ]at e;simp only [List.nil_append,List.cons_append,List.cons.injEq]at e;exact absurd (by rw [e.1];exact .head _) h'
 | a::l,[],n,n',h,_,e=>by
  cases n' with
  | zero=>simp at e
  | succ n' =>
   rw [List.replicate_succ]at e;simp only [List.nil_append,List.cons_append,List.cons.injEq]at e;exact absurd (by rw [← e.1];exact .head _) h
 | a::l,b::l',n,n',h,h',e=>by
  simp only [List.cons_append,List.cons.injEq]at e;rw [e.1,pad_inj z l l' n n' (fun x=>h (.tail _ x)) (fun x=>h' (.tail _ x)) e.2]
def kvN(c:List Nat)(n:Nd):Value:=.agg (kN c n).toArray
def kvK(k:Key):Value:=.agg (kCs k.1 k.2.1 (k.2.2.1.map fun l=>(⟨l.toArray⟩:ByteArray)) (k.2.2.2.map fun t:Nat=>(t:Int))).toArray
theorem kv_key(c:List Nat)(n:Nd):kvK (keyOfN c n)=kvN c n:=by
 unfold kvK keyOfN kvN kN;simp only [List.map_map];congr 2
 have e:(fun l:List UInt8=>(⟨l.toArray⟩:ByteArray)) ∘ (fun b:ByteArray=>b.data.toList)=id:=by funext b;simp
 rw [e,List.map_id];rfl
theorem kv_inj{c:List Nat}{n m:Nd}(h:shpN n)(h':shpN m)(e:kvN c n=kvN c m):keyOfN c n=keyOfN c m:=by
 unfold kvN kN at e;injection e with e
 have e1:=congrArg Array.toList e;simp only [kCs_eq]at e1;have hn:=shp_len h;have hm:=shp_len h';obtain ⟨a1,a2⟩:=List.append_inj e1 (by rw [kCs_head _ _ _ hn.1,kCs_head _ _ _ hm.1])
 simp only [List.cons_append,List.nil_append,List.cons.injEq,Value.int.injEq,true_and]at a1;obtain ⟨b1,b2,b3⟩:=a1;have hl:n.labs=m.labs:=by
  have nz:∀q:Nd,shpN q→Value.string ⟨#[]⟩ ∉ q.labs.map Value.string:=fun q hq hm=>by
   obtain ⟨l,hl,e⟩:=List.mem_map.1 hm;injection e with e
   have:=(hq.2.1 l hl).1;rw [e]at this;exact this rfl
  have:=pad_inj _ _ _ _ _ (nz n h) (nz m h') b3;exact (List.map_inj_right (fun a b e=>by injection e)).1 this
 have ht:=shp_to h h' b1 (by rw [hl])
 obtain ⟨c1,_⟩:=List.append_inj a2 (by simpa using ht)
 unfold keyOfN;rw [b1,b2,hl];have c2:=(List.map_inj_right (fun a b e=>by injection e)).1 c1
 have c3:(n.to.map fun t=>(c[t]?).getD 0)=m.to.map fun t=>(c[t]?).getD 0:=by
  have d1:(n.to.map fun t=>((clAt c t:Nat):Int))=(n.to.map fun t=>(c[t]?).getD 0).map (fun x:Nat=>(x:Int)):=by rw [List.map_map];rfl
  have d2:(m.to.map fun t=>((clAt c t:Nat):Int))=(m.to.map fun t=>(c[t]?).getD 0).map (fun x:Nat=>(x:Int)):=by rw [List.map_map];rfl
  rw [d1,d2]at c2;exact (List.map_inj_right (fun a b e=>Int.ofNat.inj e)).1 c2
 rw [c3]
theorem kN_cells{c:List Nat}{n:Nd}(h:shpN n)(hc:∀x∈c,x≤1000):∃(s0 s1 s2 s3 s4 s5:ByteArray) (m0 m1 m2 m3 m4 m5:Int),kN c n=[.int .i64 n.kind,.int .i64 n.so,.string s0,.string s1,.string s2,.string s3,.string s4,.string s5,.int .i64 m0,.int .i64 m1,.int .i64 m2,.int .i64 m3,.int .i64 m4,.int .i64 m5] ∧
  (∃l,keyOf Tryz.prog 182 (kvN c n)=some l):=by
 have hn:=shp_len h;have hA:∃s0 s1 s2 s3 s4 s5:ByteArray,n.labs.map Value.string++List.replicate (6 - n.labs.length) (.string ⟨#[]⟩)=[.string s0,.string s1,.string s2,.string s3,.string s4,.string s5]∧s0.size≤maxLen∧s1.size≤maxLen∧s2.size≤maxLen∧s3.size≤maxLen∧s4.size≤maxLen∧s5.size≤maxLen:=by
  have hs:∀s∈n.labs++List.replicate (6 - n.labs.length) (⟨#[]⟩:ByteArray),s.size≤maxLen:=by
   intro s hs;rcases List.mem_append.1 hs with hs|hs
   ·have:=(h.2.1 s hs).2
    unfold maxLen;omega
   ·rw [(List.mem_replicate.1 hs).2];decide
  have e:n.labs.map Value.string++List.replicate (6 - n.labs.length) (.string ⟨#[]⟩)=(n.labs++List.replicate (6 - n.labs.length) (⟨#[]⟩:ByteArray)).map Value.string:=by simp
  rw [e];have hl:(n.labs++List.replicate (6 - n.labs.length) (⟨#[]⟩:ByteArray)).length=6:=by simp;omega
  generalize n.labs++List.replicate (6 - n.labs.length) (⟨#[]⟩:ByteArray)=L at *;match L,hl with
  | [s0,s1,s2,s3,s4,s5],_=>exact ⟨s0,s1,s2,s3,s4,s5,rfl,hs _ (by simp),hs _ (by simp),hs _ (by simp),hs _ (by simp),hs _ (by simp),hs _ (by simp)⟩
 have hB:∃m0 m1 m2 m3 m4 m5:Int,(n.to.map fun t=>(clAt c t:Int)).map (Value.int .i64)++List.replicate (6 - (n.to.map fun t=>(clAt c t:Int)).length) (.int .i64 0)=[.int .i64 m0,.int .i64 m1,.int .i64 m2,.int .i64 m3,.int .i64 m4,.int .i64 m5]∧in64z m0∧in64z m1∧in64z m2∧in64z m3∧in64z m4∧in64z m5:=by
  have hs:∀s∈(n.to.map fun t=>(clAt c t:Int))++List.replicate (6 - (n.to.map fun t=>(clAt c t:Int)).length) (0:Int),in64z s:=by
   intro s hs;rcases List.mem_append.1 hs with hs|hs
   ·obtain ⟨t,_,rfl⟩:=List.mem_map.1 hs
    have:clAt c t≤1000:=by
     unfold clAt;cases hq:c[t]? with
     | none=>exact Nat.zero_le _
     | some x=>exact hc x (List.mem_of_getElem? hq)
    unfold in64z;omega
   ·rw [(List.mem_replicate.1 hs).2];unfold in64z;omega
  have e:(n.to.map fun t=>(clAt c t:Int)).map (Value.int .i64)++List.replicate (6 - (n.to.map fun t=>(clAt c t:Int)).length) (.int .i64 0)=((n.to.map fun t=>(clAt c t:Int))++List.replicate (6 - (n.to.map fun t=>(clAt c t:Int)).length) (0:Int)).map (Value.int .i64):=by simp
  rw [e];have hl:((n.to.map fun t=>(clAt c t:Int))++List.replicate (6 - (n.to.map fun t=>(clAt c t:Int)).length) (0:Int)).length=6:=by simp;omega
  generalize (n.to.map fun t=>(clAt c t:Int))++List.replicate (6 - (n.to.map fun t=>(clAt c t:Int)).length) (0:Int)=L at *
  match L,hl with
  | [s0,s1,s2,s3,s4,s5],_=>exact ⟨s0,s1,s2,s3,s4,s5,rfl,hs _ (by simp),hs _ (by simp),hs _ (by simp),hs _ (by simp),hs _ (by simp),hs _ (by simp)⟩
 obtain ⟨s0,s1,s2,s3,s4,s5,hs,a0,a1,a2,a3,a4,a5⟩:=hA;obtain ⟨m0,m1,m2,m3,m4,m5,hm,b0,b1,b2,b3,b4,b5⟩:=hB;have e:kN c n=[.int .i64 n.kind,.int .i64 n.so,.string s0,.string s1,.string s2,.string s3,.string s4,.string s5,.int .i64 m0,.int .i64 m1,.int .i64 m2,.int .i64 m3,.int .i64 m4,.int .i64 m5]:=by
  unfold kN kCs;rw [hs,hm];rfl
 refine ⟨s0,s1,s2,s3,s4,s5,m0,m1,m2,m3,m4,m5,e,?_⟩;unfold kvN;rw [e];exact key_of n.kind n.so s0 s1 s2 s3 s4 s5 m0 m1 m2 m3 m4 m5 hn.2.2 h.2.2 a0 a1 a2 a3 a4 a5 b0 b1 b2 b3 b4 b5
theorem infoI:(Tryz.prog.info? 3).map (fun i=>(i.zero,i.size,i.bytes))=some (some (.int .i64 0),1,8):=by kernel_rfl
theorem makeI(n:Nat)(hn:n≤1000):∃Z:Array Value,(∀j,j<n→Z[j]? = some (.int .i64 0))∧∀w:World,(Instr.makeSlice 29 (.int .i64 (n:Int)) (.int .i64 (n:Int))).run Tryz.prog w = .ok (.slice (some ⟨w.heap.size,0,none⟩) n n) (w.alloc (.cells Z 3)):=by
 obtain ⟨i,hi,hx⟩:=Option.map_eq_some_iff.1 infoI;simp only [Prod.mk.injEq]at hx;obtain ⟨h1,h2,h3⟩:=hx;refine ⟨madeCells (Value.int .i64 0).cells (n*i.size),fun j hj=>?_,fun w=>?_⟩
 ·rw [h2,Nat.mul_one]
  unfold madeCells;rw [Array.getElem?_map,Array.getElem?_range,if_pos hj];simp [Value.cells,Nat.mod_one]
 ·have:=run_make (P:=Tryz.prog) w 29 3 i _ Tryz.underlying29 hi h1 .i64 .i64 (n:Int) (n:Int) (by omega) (by omega) (by rw [h3];omega) (by omega)
  simpa using this
structure NdAt(W:World)(b o:Nat)(n:Nd)(al:OAd)(cl:Nat)(at1:OAd)(ct:Nat):Prop where
 c0:W.cell? ⟨b,o,none⟩=some (.int .i64 n.kind)
 c1:W.cell? ⟨b,o+1,none⟩=some (.int .i64 n.so)
 c2:W.cell? ⟨b,o+2,none⟩=some (.slice al n.labs.length cl)
 c3:W.cell? ⟨b,o+3,none⟩=some (.slice at1 n.to.length ct)
def GAt(W:World)(B:Nat)(g:List Nd)(ag:OAd):Prop:=g=[]∨∃b o,ag=some ⟨b,o,none⟩∧b<B∧∀i (h:i<g.length),∃al cl at1 ct,NdAt W b (o+i*4) g[i] al cl at1 ct∧LA W B g[i].labs al∧NI W B g[i].to at1
theorem NdAt.keep{W W':World}{B b o:Nat}{n:Nd}{al:OAd}{cl:Nat}{at1:OAd}{ct:Nat}(h:NdAt W b o n al cl at1 ct)(hb:Below B W W')(hl:b<B):NdAt W' b o n al cl at1 ct :=
 ⟨(hb.cell (p:=⟨b,o,none⟩) hl).trans h.c0,(hb.cell (p:=⟨b,o+1,none⟩) hl).trans h.c1,(hb.cell (p:=⟨b,o+2,none⟩) hl).trans h.c2,(hb.cell (p:=⟨b,o+3,none⟩) hl).trans h.c3⟩
theorem GAt.keep{W W':World}{B:Nat}{g:List Nd}{ag:OAd}(hb:Below B W W')(h:GAt W B g ag):GAt W' B g ag :=
 h.imp id fun ⟨b,o,e,hl,hc⟩=>⟨b,o,e,hl,fun i hi=>by
  obtain ⟨al,cl,at1,ct,h1,h2,h3⟩:=hc i hi;exact ⟨al,cl,at1,ct,h1.keep hb hl,h2.keep hb,h3.keep hb⟩⟩
theorem GAt.mono{W:World}{B B':Nat}{g:List Nd}{ag:OAd}(hB:B≤B')(h:GAt W B g ag):GAt W B' g ag :=
 h.imp id fun ⟨b,o,e,hl,hc⟩=>⟨b,o,e,by omega,fun i hi=>by
  obtain ⟨al,cl,at1,ct,h1,h2,h3⟩:=hc i hi;exact ⟨al,cl,at1,ct,h1,h2.mono hB,h3.mono hB⟩⟩
theorem below_grown{w w':World}(h:Below w.heap.size w w')(row:Option Nat):w.grownBy w' row:=⟨h.os,h.tape,h.output,h.size,fun k hk _=>h.block k hk⟩
theorem grown_set(W:World)(b o:Nat)(v:Value):W.grownBy (W.setCell ⟨b,o,none⟩ v) (some b):=⟨rfl,rfl,rfl,by simp,fun k _ hn=>Below.heap_setCell W _ v k (fun e=>hn (by rw [e]))⟩
structure FI(W:World)(fb n k:Nat)(c:List Nat):Prop where
 lt:fb<W.heap.size
 cell:∀j,j<n→W.cell? ⟨fb,j,none⟩=some (.int .i64 ((if j<k then clAt c j else 0:Nat):Int))
 fr:∀j,W.frozen? ⟨fb,j,none⟩=false
theorem FI.kept{W W':World}{fb n k:Nat}{c:List Nat}(h:FI W fb n k c){row:Option Nat}(hg:W.grownBy W' row)(hne:some fb≠row):FI W' fb n k c :=
 ⟨nL h.lt hg.size,fun j hj=>(World.cell?_of_block (a:=⟨fb,j,none⟩) (hg.block fb h.lt hne)).trans (h.cell j hj),fun j=>(World.frozen?_of_block (a:=⟨fb,j,none⟩) (hg.block fb h.lt hne)).trans (h.fr j)⟩
theorem FI.put{W:World}{fb n k:Nat}{c:List Nat}(h:FI W fb n k c)(hk:k<n)(hc:c.length=k)(x:Nat):FI (W.setCell ⟨fb,k,none⟩ (.int .i64 (x:Int))) fb n (k+1) (c++[x]):=by
 refine ⟨by simpa using h.lt,fun j hj=>?_,fun j=>(World.frozen?_setCell _ _ _ _).trans (h.fr j)⟩
 by_cases e:j=k
 ·subst e
  rw [World.cell?_setCell_same _ _ _ (h.cell j hj),if_pos (by omega)]
  unfold clAt;rw [List.getElem?_append_right (by omega),hc,Nat.sub_self];rfl
 ·rw [World.cell?_setCell_other _ _ _ _ (by intro q;injection q with _ q2;exact e q2.symm),h.cell j hj]
  by_cases hjk:j<k
  ·rw [if_pos hjk,if_pos (by omega)]
   unfold clAt;rw [List.getElem?_append_left (by omega)]
  ·rw [if_neg hjk,if_neg (by omega)]
theorem FI.zero{w W:World}{Z:Array Value}{n:Nat}(hZ:∀j,j<n→Z[j]? = some (.int .i64 0))(hb:Below (w.alloc (.cells Z 3)).heap.size (w.alloc (.cells Z 3)) W):FI W w.heap.size n 0 []:=by
 have h0:FI (w.alloc (.cells Z 3)) w.heap.size n 0 []:=by
  refine ⟨by simp,fun j hj=>?_,fun j=>by go_simp⟩
  rw [World.cell?_alloc_new,if_neg (Nat.not_lt_zero _)];exact hZ j hj
 exact h0.kept (below_grown hb none) (by simp)
theorem FI.all{W:World}{fb n:Nat}{c:List Nat}(h:FI W fb n n c)(hc:c.length=n):NI W W.heap.size c (some ⟨fb,0,none⟩):=by
 refine .inr ⟨fb,0,rfl,h.lt,fun i hi=>?_⟩
 have hi':i<n:=by rw [← hc];simpa using hi
 rw [Nat.zero_add,h.cell i hi',if_pos hi',List.getElem_map];unfold clAt;rw [List.getElem?_eq_getElem (by omega)];rfl
def GOK(g:List Nd)(c:List Nat):Prop:=g.length≤1000∧(∀n∈g,shpN n∧∀t∈n.to,t<c.length)∧∀x∈c,x≤1000
theorem keys_ok{g:List Nd}{c:List Nat}(h:GOK g c){p:List Nd}(hp:∀n∈p,n∈g){s:List Key × List Nat}(hs:SInv c p s):KeysOK (s.1.map kvK)∧(s.1.map kvK).Nodup∧∀n∈g,(kvN c n∈s.1.map kvK↔keyOfN c n∈s.1)∧(keyOfN c n∈s.1→plOf (s.1.map kvK) (kvN c n) (s.1.idxOf (keyOfN c n))):=by
 have hkey:∀d∈s.1,∃n∈g,keyOfN c n=d:=fun d hd=>by
  obtain ⟨n,hn,e⟩:=(hs.mem d).1 hd;exact ⟨n,hp n hn,e⟩
 refine ⟨fun d hd=>?_,?_,fun n hn=>⟨⟨fun hm=>?_,fun hm=>List.mem_map.2 ⟨_,hm,kv_key c n⟩⟩,fun hm=>?_⟩⟩
 ·obtain ⟨k,hk,rfl⟩:=List.mem_map.1 hd
  obtain ⟨n,hn,rfl⟩:=hkey k hk;rw [kv_key];obtain ⟨_,_,_,_,_,_,_,_,_,_,_,_,_,hl⟩:=kN_cells (c:=c) (h.2.1 n hn).1 h.2.2;exact hl
 ·have hin:∀a∈s.1,∀b∈s.1,kvK a=kvK b→a=b:=fun a ha b hb e=>by
   obtain ⟨n,hn,rfl⟩:=hkey a ha;obtain ⟨m,hm,rfl⟩:=hkey b hb;rw [kv_key,kv_key]at e;exact kv_inj (h.2.1 n hn).1 (h.2.1 m hm).1 e
  have:=hs.nd;generalize s.1=l at *;clear hs hkey;induction l with
  | nil=>simp
  | cons a l ih =>
   rw [List.nodup_cons]at this;rw [List.map_cons,List.nodup_cons];refine ⟨fun hm=>?_,ih (fun x hx y hy=>hin x (.tail _ hx) y (.tail _ hy)) this.2⟩
   obtain ⟨b,hb,e⟩:=List.mem_map.1 hm;have:=hin b (.tail _ hb) a (.head _) e;subst this;exact this.1 hb
 ·obtain ⟨k,hk,e⟩:=List.mem_map.1 hm
  obtain ⟨m,hm',rfl⟩:=hkey k hk;rw [kv_key]at e;rw [← kv_inj (h.2.1 m hm').1 (h.2.1 n hn).1 e];exact hk
 ·unfold plOf
  rw [List.getElem?_map,List.getElem?_eq_getElem (List.idxOf_lt_length_of_mem hm),List.getElem_idxOf];show some (kvK (keyOfN c n))=_
  rw [kv_key]
theorem split_any(g:List Nd)(c:List Nat)(ag ac:OAd)(cg cc B:Nat)(w:World)(hok:GOK g c)(hga:GAt w B g ag)(hca:NI w B c ac)(hB:B≤w.heap.size):
  Calls Tryz.prog 84 #[.slice ag g.length cg,.slice ac c.length cc] w fun e w'=>(∃af,e = .returned (.tuple #[.slice af g.length g.length,.int .i64 ((splitG g c).1.length:Int)])∧NI w' w'.heap.size (splitG g c).2 af)∧Below w.heap.size w w':=by
 obtain ⟨Z,hZ,hmk⟩:=makeI g.length hok.1;have hgl:(g.length:Int)≤1000:=by have:=hok.1;omega
 have HS:∀k,k≤g.length→SInv c (g.take k) ((g.take k).foldl (splitStep c) ([],[])):=fun k _=>split_inv (g.take k) c
 have S0:=hideK (show FI ((w.alloc (.cells Z 3)).alloc (.map #[] 0)) w.heap.size g.length 0 [] from FI.zero hZ ((bR _ _).alloc (nR _) _))
 have M0:=hideK (show MPa ((w.alloc (.cells Z 3)).alloc (.map #[] 0)) (w.heap.size+1) [] from by
  have:=MPa.new (w.alloc (.cells Z 3));rw [World.size_alloc]at this;exact this)
 have B0:=hideK (show Below w.heap.size w ((w.alloc (.cells Z 3)).alloc (.map #[] 0)) from ((bR _ _).alloc (nR _) _).alloc (by simp) _)
 have HSK:=hideK HS;clear HS hZ;have hmm:∀w:World,(Instr.makeMap 178 none).run Tryz.prog w = .ok (.map (some w.heap.size)) (w.alloc (.map #[] 0)):=fun w=>rfl
 go_enter Tryz.func84,Tryz.ntmps84
 go_wp2_with fail
 go_loopw [19] (fun i wr=>∃k:Nat,k≤g.length∧i = .int .i64 (k:Int)∧FI wr w.heap.size g.length k ((g.take k).foldl (splitStep c) ([],[])).2∧MPa wr (w.heap.size+1) (((g.take k).foldl (splitStep c) ([],[])).1.map kvK)∧Below w.heap.size w wr∧w.heap.size+1<wr.heap.size) (fun i _=>g.length - (intOf i).toNat)
 case atStart=>exact ⟨0,Nat.zero_le _,rfl,S0.out,M0.out,B0.out,by simp⟩
 case round =>
  obtain ⟨k,hk,rfl,hFI,hMP,hbr,hml⟩:=hrel;clear S0 M0 B0;have SI:=HSK.out k hk;by_cases hlt:k<g.length
  ·have hltz:(k:Int)<(g.length:Int):=by omega
   obtain ⟨gb,go1,rfl,hgb,hgc⟩:=hga.resolve_left (fun h=>by rw [h]at hlt;simp at hlt)
   obtain ⟨al,cl,at1,ct,hnd,hla,hta⟩:=hgc k hlt;have hin:g[k]∈g:=List.getElem_mem hlt;obtain ⟨hko,hknd,hkm⟩:=keys_ok hok (fun n hn=>List.mem_of_mem_take hn) SI
   obtain ⟨hkm1,hkm2⟩:=hkm g[k] hin;obtain ⟨s0,s1,s2,s3,s4,s5,m0,m1,m2,m3,m4,m5,hK,kl,hkl⟩:=kN_cells (c:=c) (hok.2.1 _ hin).1 hok.2.2;have hsl:=shp_len (hok.2.1 _ hin).1;have hto:=(hok.2.1 _ hin).2;have hstep:(g.take (k+1)).foldl (splitStep c) ([],[])=splitStep c ((g.take k).foldl (splitStep c) ([],[])) g[k]:=by
    rw [List.take_succ_eq_append_getElem hlt,List.foldl_append];rfl
   have hlen2:=SI.len;rw [List.length_take,Nat.min_eq_left hk]at hlen2;obtain ⟨c0,c1,c2,c3⟩:=hnd.keep hbr (by omega)
   have hbrB:Below B w wr:=hbr.mono hB;have hla':=hla.keep hbrB;have hta':=hta.keep hbrB;have hca':=hca.keep hbrB;have HST:=hideK hstep;unfold kvN at hkm1 hkm2 hkl;rw [hK]at hkm1 hkm2 hkl;clear hstep hga hgc hla hta SI hnd hkm;generalize g[k]=n at *;generalize (g.take k).foldl (splitStep c) ([],[])=s at *;have b1:Below wr.heap.size wr (wr.alloc (.cells #[.int .i64 n.kind,.int .i64 n.so,.slice al n.labs.length cl,.slice at1 n.to.length ct] 102)):=(bR _ _).alloc (nR _) _;have cD:=doingOf_any n al at1 ac cl ct cc c B (wr.alloc (.cells #[.int .i64 n.kind,.int .i64 n.so,.slice al n.labs.length cl,.slice at1 n.to.length ct] 102)) (hla'.keep (b1.mono (by omega))) (hta'.keep (b1.mono (by omega))) (hca'.keep (b1.mono (by omega))) (by simp;omega) hsl.1 hsl.2.1 hto s0 s1 s2 s3 s4 s5 m0 m1 m2 m3 m4 m5 hK
   simp only [ndVal]at cD;have HFI:=hideK hFI;have HMP:=hideK hMP;have HBR:=hideK hbr;have HKO:=hideK hko;have HKN:=hideK hknd;have HKL:=hideK hkl;have H1:=hideK hkm1;have H2:=hideK hkm2;have B1:=hideK b1;have HK:=hideK hK;clear hFI hMP hko hknd hkl hkm1 hkm2 b1 hla' hta' hca' hto hsl hK hmk hmm;by_cases hin2:keyOfN c n∈s.1
   ·have HX:=hideK (show splitStep c s n=(s.1,s.2++[s.1.idxOf (keyOfN c n)]) from by unfold splitStep;rw [if_pos hin2])
    have HP:=hideK (H2.out hin2);clear hin2 H1 H2;generalize s.1.idxOf (keyOfN c n)=x at *;go_wp2_with fail
    refine cD.mono ?_;rintro e w2 ⟨rfl,hb2⟩;have BB:=hideK (show Below wr.heap.size wr (w2.alloc (.cells #[.int .i64 n.kind,.int .i64 n.so,.string s0,.string s1,.string s2,.string s3,.string s4,.string s5,.int .i64 m0,.int .i64 m1,.int .i64 m2,.int .i64 m3,.int .i64 m4,.int .i64 m5] 182)) from (B1.out.trans (hb2.mono (by simp))).alloc (by have:=hb2.size;simp at this;omega) _)
    have HF3:=hideK (HFI.out.kept (below_grown BB.out none) (by simp))
    have HM3:=hideK (HMP.out.kept (below_grown BB.out none) (by simp))
    have hrun:=lookG_in HM3.out HKO.out HKN.out HKL.out HP.out;have q1:=HF3.out.cell k (by omega)
    have q2:=HF3.out.fr k;clear cD hb2 B1 c0 c1 c2 c3;go_wp2_with (at_lookup;refine wpList_look rfl (.tmp 28) (.tmp 29) 178 rfl rfl rfl hrun ?_)
    go_roundw
    case rel =>
     refine ⟨k+1,by omega,by go_num,?_,?_,?_,?_⟩
     ·rw [HST.out,HX.out];exact HF3.out.put hlt hlen2 x
     ·rw [HST.out,HX.out];exact HM3.out.kept (grown_set _ _ _ _) (by simp)
     ·exact ((HBR.out.trans (BB.out.mono HBR.out.size))).setCell (p:=⟨w.heap.size,k,none⟩) (nR _) _
     ·have:=BB.out.size;simp at this ⊢;omega
    case measure=>simp [intOf];omega
   ·have HX:=hideK (show splitStep c s n=(s.1++[keyOfN c n],s.2++[s.1.length]) from by unfold splitStep;rw [if_neg hin2])
    have HP:=hideK (fun hm=>hin2 (H1.out.1 hm))
    have HKK:=hideK (show kvK (keyOfN c n) = .agg #[.int .i64 n.kind,.int .i64 n.so,.string s0,.string s1,.string s2,.string s3,.string s4,.string s5,.int .i64 m0,.int .i64 m1,.int .i64 m2,.int .i64 m3,.int .i64 m4,.int .i64 m5] from by rw [kv_key];unfold kvN;rw [HK.out])
    clear hin2 H1 H2;go_wp2_with fail
    refine cD.mono ?_;rintro e w2 ⟨rfl,hb2⟩;have BB:=hideK (show Below wr.heap.size wr (w2.alloc (.cells #[.int .i64 n.kind,.int .i64 n.so,.string s0,.string s1,.string s2,.string s3,.string s4,.string s5,.int .i64 m0,.int .i64 m1,.int .i64 m2,.int .i64 m3,.int .i64 m4,.int .i64 m5] 182)) from (B1.out.trans (hb2.mono (by simp))).alloc (by have:=hb2.size;simp at this;omega) _)
    have HF3:=hideK (HFI.out.kept (below_grown BB.out none) (by simp))
    have HM3:=hideK (HMP.out.kept (below_grown BB.out none) (by simp))
    obtain ⟨hrun,hupd⟩:=look_out HM3.out HKO.out HKL.out HP.out;obtain ⟨W4,hru,hg4,hs4,hmp4⟩:=hupd ((s.1.length:Nat):Int);have HF4:=hideK (HF3.out.kept hg4 (by simp))
    have HM4:=hideK (hmp4 (by rw [List.length_map]))
    have q1:=HF4.out.cell k (by omega)
    have q2:=HF4.out.fr k;have HB4:=hideK (show Below w.heap.size w W4 from (HBR.out.trans (BB.out.mono HBR.out.size)).grown hg4 (by have:=BB.out.size;omega) (fun j hj=>by injection hj with hj;omega))
    have hlm:∀ty,(Builtin.len_ #[178] ty #[.map (some (w.heap.size+1))]).run Tryz.prog (w2.alloc (.cells #[.int .i64 n.kind,.int .i64 n.so,.string s0,.string s1,.string s2,.string s3,.string s4,.string s5,.int .i64 m0,.int .i64 m1,.int .i64 m2,.int .i64 m3,.int .i64 m4,.int .i64 m5] 182)) = .ok (.int .i64 ((s.1.length:Nat):Int)) (w2.alloc (.cells #[.int .i64 n.kind,.int .i64 n.so,.string s0,.string s1,.string s2,.string s3,.string s4,.string s5,.int .i64 m0,.int .i64 m1,.int .i64 m2,.int .i64 m3,.int .i64 m4,.int .i64 m5] 182)):=fun ty=>by have:=HM3.out.len ty;rw [List.length_map]at this;exact this
    clear cD hb2 B1 c0 c1 c2 c3 hupd hg4 hmp4;go_wp2_with (first
     | (at_lookup;refine wpList_look rfl (.tmp 28) (.tmp 29) 178 rfl rfl rfl hrun ?_)
     | (at_mapUpdate;refine wpList_upd rfl (.tmp 37) (.tmp 38) (.tmp 39) 178 rfl rfl rfl rfl hru ?_))
    go_roundw
    case rel =>
     refine ⟨k+1,by omega,by go_num,?_,?_,?_,?_⟩
     ·rw [HST.out,HX.out]
      exact HF4.out.put hlt hlen2 s.1.length
     ·rw [HST.out,HX.out,List.map_append,List.map_cons,List.map_nil,HKK.out];exact HM4.out.kept (grown_set _ _ _ _) (by simp)
     ·exact HB4.out.setCell (p:=⟨w.heap.size,k,none⟩) (nR _) _
     ·have h1:=BB.out.size
      have h2:=hs4;simp at h1 h2 ⊢;omega
    case measure=>simp [intOf];omega
  ·have hltz:¬(k:Int)<(g.length:Int):=by omega
   have hkl:k=g.length:=by omega
   subst hkl;have et:g.take g.length=g:=List.take_length;rw [et]at hFI hMP SI;have HFI:=hideK hFI;have HMP:=hideK hMP;have HBR:=hideK hbr;clear hFI hMP hbr;have hlm:∀ty,(Builtin.len_ #[178] ty #[.map (some (w.heap.size+1))]).run Tryz.prog wr = .ok (.int .i64 (((splitG g c).1.length:Nat):Int)) wr:=fun ty=>by have:=HMP.out.len ty;rw [List.length_map]at this;exact this
   go_wp2_with fail
   refine bodyPost_ret (v:=.tuple #[.slice (some ⟨w.heap.size,0,none⟩) g.length g.length,.int .i64 (((splitG g c).1.length:Nat):Int)]) (by simp [results,Tryz.results84,go_sem]) rfl ⟨⟨_,rfl,HFI.out.all SI.len⟩,HBR.out⟩
end Go.Proofs.YtmamabhhgfcjcaaGreatDoor
