/-
  The graph of what is left, while it is made: the rows, the map of numbers, the box of a node.
-/
import Derived.Test.YtnedgkcejlhnbaaGreatDoorSz
import Derived.Test.YtnedgkcejlhnbaaGreatDoorZu
namespace Go.Proofs.YtnedgkcejlhnbaaGreatDoor
open Go.RowKit Go.Shelf
structure LW(w:World)(db gd cap:Nat)(ts:List Dk)(sp:List Int):Prop where
 c4:w.cell? ⟨db,4,none⟩=some (.slice (some ⟨gd,0,none⟩) ts.length cap)
 row:∀k (h:k<ts.length) j y,j<4→(dC ts[k])[j]? = some y→w.cell? ⟨gd,k*6+j,none⟩=some y
 r4:∀k,k<ts.length→w.cell? ⟨gd,k*6+4,none⟩=some (.int .i64 (sp.getD k 0))
 r5:∀k,k<ts.length→∃a n c,w.cell? ⟨gd,k*6+5,none⟩=some (.slice a n c)
 dl:db<w.heap.size
 gl:gd<w.heap.size
 ok:DOK w (fun b=>b<w.heap.size) ts
 sh:∀q∈ts,∀x∈q.nd.to,x<ts.length
 t6:∀q∈ts,q.nd.to.length≤6
 lb:∀q∈ts,q.nd.labs=[]∨q.nd.labs.length=q.nd.to.length
 n0:0<ts.length
 nN:ts.length≤1000000
 a0:alK sp 0=true
def vv{α : Type}(z a b c d : α)(i:Nat): α:=if i=0 then a else if i=1 then b else if i=2 then c else if i=3 then d else z
theorem vv_0{α : Type}(z a b c d x : α):upN (vv z a b c d) 0 x=vv z x b c d:=by funext i;unfold upN vv;by_cases h:i=0 <;> simp [h]
theorem vv_1{α : Type}(z a b c d x : α):upN (vv z a b c d) 1 x=vv z a x c d:=by
 funext i
 unfold upN vv;by_cases h0:i=0
 ·subst h0;simp
 ·by_cases h1:i=1 <;> simp [h0,h1]
theorem vv_2{α : Type}(z a b c d x : α):upN (vv z a b c d) 2 x=vv z a b x d:=by
 funext i
 unfold upN vv;by_cases h0:i=0
 ·subst h0;simp
 ·by_cases h1:i=1
  ·subst h1;simp
  ·by_cases h2:i=2 <;> simp [h0,h1,h2]
theorem vv_3{α : Type}(z a b c d x : α):upN (vv z a b c d) 3 x=vv z a b c x:=by
 funext i
 unfold upN vv;by_cases h0:i=0
 ·subst h0;simp
 ·by_cases h1:i=1
  ·subst h1;simp
  ·by_cases h2:i=2
   ·subst h2;simp
   ·by_cases h3:i=3 <;> simp [h0,h1,h2,h3]
def ty4:Nat→TypeId:=vv 3 3 56 3 9
def sz4:Nat→Nat:=vv 1 1 4 1 1
def nil4:Value:=.slice none 0 0
abbrev RW4(w:World)(rv ov tv lv:Value)(R:List Nat)(tks:List TkN)(tos:List Nat)(ls:List ByteArray)(X:Nat→Prop)(W:World):Prop:=RWS w (vv nil4 rv ov tv lv) ty4 sz4 (vv 0 R.length tks.length tos.length ls.length) (vv [] (iC R) (ndCs tks) (iC tos) (ls.map Value.string)) X W
structure LO(w:World)(mb:Nat)(Y:Nat→Prop)(R:List Nat)(tks:List TkN)(rv ov:Value)(W:World):Prop where
 rw_:RW4 w rv ov nil4 nil4 R tks [] [] (fun b=>Y b∨b=mb) W
 mp:MPN W mb R
 ym:¬Y mb
 wm:w.heap.size≤mb
 tk:TKS W Y tks
structure LI(w:World)(mb ox nx:Nat)(Y:Nat→Prop)(O:Nat→Value)(kd so:Int)(R:List Nat)(tks:List TkN)(tos:List Nat)(ls:List ByteArray)(rv ov tv lv:Value)(W:World):Prop where
 rw_:RW4 w rv ov tv lv R tks tos ls (fun b=>Y b∨b=mb∨b=ox∨b=nx) W
 mp:MPN W mb R
 ym:¬Y mb∧¬Y ox∧¬Y nx
 ne:mb≠ox∧mb≠nx∧ox≠nx
 wm:w.heap.size≤mb∧w.heap.size≤ox∧w.heap.size≤nx
 tk:TKS W Y tks
 b0:W.cell? ⟨nx,0,none⟩=some (.int .i64 kd)
 b1:W.cell? ⟨nx,1,none⟩=some (.int .i64 so)
 b2:W.cell? ⟨nx,2,none⟩=some lv
 b3:W.cell? ⟨nx,3,none⟩=some tv
 fz:∀j,W.frozen? ⟨nx,j,none⟩=false
 oc:∀j,j<6→W.cell? ⟨ox,j,none⟩=some (O j)
theorem LI.lt{w:World}{mb ox nx:Nat}{Y:Nat→Prop}{O:Nat→Value}{kd so:Int}{R:List Nat}{tks:List TkN}{tos:List Nat}{ls:List ByteArray}{rv ov tv lv:Value}{W:World}(L:LI w mb ox nx Y O kd so R tks tos ls rv ov tv lv W):mb<W.heap.size∧ox<W.heap.size∧nx<W.heap.size:=⟨L.rw_.xl mb (.inr (.inl rfl)),L.rw_.xl ox (.inr (.inr (.inl rfl))),L.rw_.xl nx (.inr (.inr (.inr rfl)))⟩
theorem LI.same{w:World}{mb ox nx:Nat}{Y:Nat→Prop}{O:Nat→Value}{kd so:Int}{R R':List Nat}{tks:List TkN}{tos:List Nat}{ls:List ByteArray}{rv ov tv lv rv':Value}{W W':World}(L:LI w mb ox nx Y O kd so R tks tos ls rv ov tv lv W)(hr:RW4 w rv' ov tv lv R' tks tos ls (fun b=>Y b∨b=mb∨b=ox∨b=nx) W')(hR:MPN W' mb R')(hx:∀b,(Y b∨b=ox∨b=nx)→W'.heap[b]? = W.heap[b]?):LI w mb ox nx Y O kd so R' tks tos ls rv' ov tv lv W':=by
 have hn:=hx nx (.inr (.inr rfl));have ho:=hx ox (.inr (.inl rfl));exact ⟨hr,hR,L.ym,L.ne,L.wm,L.tk.keep (fun b o hb=>World.cell?_of_block (a:=⟨b,o,none⟩) (hx b (.inl hb))) fun _ h=>h,(World.cell?_of_block (a:=⟨nx,0,none⟩) hn).trans L.b0,(World.cell?_of_block (a:=⟨nx,1,none⟩) hn).trans L.b1,(World.cell?_of_block (a:=⟨nx,2,none⟩) hn).trans L.b2,(World.cell?_of_block (a:=⟨nx,3,none⟩) hn).trans L.b3,fun j=>(World.frozen?_of_block (a:=⟨nx,j,none⟩) hn).trans (L.fz j),fun j hj=>(World.cell?_of_block (a:=⟨ox,j,none⟩) ho).trans (L.oc j hj)⟩
theorem LI.kept{w:World}{mb ox nx:Nat}{Y:Nat→Prop}{O:Nat→Value}{kd so:Int}{R:List Nat}{tks:List TkN}{tos:List Nat}{ls:List ByteArray}{rv ov tv lv:Value}{W W':World}(L:LI w mb ox nx Y O kd so R tks tos ls rv ov tv lv W)(hb:Below W.heap.size W W'):LI w mb ox nx Y O kd so R tks tos ls rv ov tv lv W' :=
 L.same (L.rw_.kept hb) (L.mp.blk (hb.block mb L.lt.1)) fun b hb'=>hb.block b (L.rw_.xl b (hb'.imp id .inr))
theorem LI.reach{w:World}{mb ox nx:Nat}{Y:Nat→Prop}{O:Nat→Value}{kd so:Int}{R:List Nat}{tks:List TkN}{tos:List Nat}{ls:List ByteArray}{rv ov tv lv v7:Value}{W W1 w7:World}{ob:Obj}{x:Nat}(L:LI w mb ox nx Y O kd so R tks tos ls rv ov tv lv W)(hg:W.grownBy W1 (some mb))(hm:MPN W1 mb (R++[x]))(hg7:(W1.alloc ob).grownBy w7 rv.ownBlock)(hO:w7.ownsRow w.heap.size 3 1 v7 (R.length+1) (iC R++[.int .i64 (x:Int)]))(hat:v7.ownBlock=rv.ownBlock∨v7.ownBlock=some (W1.alloc ob).heap.size):LI w mb ox nx Y O kd so (R++[x]) tks tos ls v7 ov tv lv w7:=by
 have hk:∀b,b<W.heap.size→b≠mb→W1.heap[b]? = W.heap[b]?:=fun b hb hn=>hg.block b hb (fun e=>hn (by injection e))
 have r1:=L.rw_.set (b0:=mb) (.inr (.inl rfl)) L.wm.1 hg.os hg.tape hg.output hg.size hk;obtain ⟨r2,hx⟩:=r1.app (i:=0) (by omega) hg7 hO hat
 rw [vv_0,vv_0,vv_0]at r2;refine L.same ?_ (hm.blk (hx mb (.inr (.inl rfl)))) fun b hb=>?_
 ·have e:(R++[x]).length=R.length+1:=by simp
  have e2:iC (R++[x])=iC R++[.int .i64 (x:Int)]:=by simp [iC]
  show RWS w (vv nil4 v7 ov tv lv) ty4 sz4 (vv 0 (R++[x]).length tks.length tos.length ls.length) (vv [] (iC (R++[x])) (ndCs tks) (iC tos) (ls.map Value.string)) _ w7
  rw [e,e2];exact r2
 ·rw [hx b (hb.imp id .inr)]
  refine hk b (L.rw_.xl b (hb.imp id .inr)) ?_;rintro rfl;rcases hb with q|q|q
  ·exact L.ym.1 q
  ·exact L.ne.1 q
  ·exact L.ne.2.1 q
theorem LI.box{w:World}{mb ox nx:Nat}{Y:Nat→Prop}{O:Nat→Value}{kd so:Int}{R:List Nat}{tks:List TkN}{tos tos':List Nat}{ls ls':List ByteArray}{rv ov tv lv tv' lv':Value}{W w7:World}{i:Nat}{v:Value}(L:LI w mb ox nx Y O kd so R tks tos ls rv ov tv lv W)(hr:RW4 w rv ov tv' lv' R tks tos' ls' (fun b=>Y b∨b=mb∨b=ox∨b=nx) w7)(hx:∀b,(Y b∨b=mb∨b=ox∨b=nx)→w7.heap[b]? = W.heap[b]?)(hi:(i=2∧lv'=v∧tv'=tv)∨(i=3∧tv'=v∧lv'=lv)):
  LI w mb ox nx Y O kd so R tks tos' ls' rv ov tv' lv' (w7.setCell ⟨nx,i,none⟩ v):=by
 have hn:=hx nx (.inr (.inr (.inr rfl)));have ho:=hx ox (.inr (.inr (.inl rfl)));have hB:=(Below.refl nx w7).setCell (p:=⟨nx,i,none⟩) (Nat.le_refl _) v;have hset:∀b,b≠nx→(w7.setCell ⟨nx,i,none⟩ v).heap[b]? = w7.heap[b]?:=fun b hb=>Below.heap_setCell _ _ _ b hb
 have oth:∀j,j≠i→(w7.setCell ⟨nx,i,none⟩ v).cell? ⟨nx,j,none⟩=W.cell? ⟨nx,j,none⟩:=fun j hj=>(World.cell?_setCell_other _ _ _ _ (by intro e;injection e with _ e;exact hj e.symm)).trans (World.cell?_of_block (a:=⟨nx,j,none⟩) hn)
 have sam:∀u,W.cell? ⟨nx,i,none⟩=some u→(w7.setCell ⟨nx,i,none⟩ v).cell? ⟨nx,i,none⟩=some v:=fun u hu=>World.cell?_setCell_same _ _ _ ((World.cell?_of_block (a:=⟨nx,i,none⟩) hn).trans hu)
 refine ⟨hr.set (b0:=nx) (.inr (.inr (.inr rfl))) L.wm.2.2 hB.os hB.tape hB.output hB.size (fun b _ hne=>hset b hne),L.mp.blk ((hset mb L.ne.2.1).trans (hx mb (.inr (.inl rfl)))),L.ym,L.ne,L.wm,L.tk.keep (fun b o hb=>World.cell?_of_block (a:=⟨b,o,none⟩) ((hset b (fun e=>L.ym.2.2 (e ▸ hb))).trans (hx b (.inl hb)))) fun _ h=>h,(oth 0 (by omega)).trans L.b0,(oth 1 (by omega)).trans L.b1,?_,?_,fun j=>(World.frozen?_setCell _ _ _ _).trans ((World.frozen?_of_block (a:=⟨nx,j,none⟩) hn).trans (L.fz j)),fun j hj=>(World.cell?_of_block (a:=⟨ox,j,none⟩) ((hset ox L.ne.2.2).trans ho)).trans (L.oc j hj)⟩
 ·rcases hi with ⟨rfl,rfl,rfl⟩|⟨rfl,rfl,rfl⟩
  ·exact sam _ L.b2
  ·exact (oth 2 (by omega)).trans L.b2
 ·rcases hi with ⟨rfl,rfl,rfl⟩|⟨rfl,rfl,rfl⟩
  ·exact (oth 3 (by omega)).trans L.b3
  ·exact sam _ L.b3
theorem LI.addT{w:World}{mb ox nx:Nat}{Y:Nat→Prop}{O:Nat→Value}{kd so:Int}{R:List Nat}{tks:List TkN}{tos:List Nat}{ls:List ByteArray}{rv ov tv lv v7:Value}{W w7:World}{ob:Obj}{y:Nat}(L:LI w mb ox nx Y O kd so R tks tos ls rv ov tv lv W)(hg7:(W.alloc ob).grownBy w7 tv.ownBlock)(hO:w7.ownsRow w.heap.size 3 1 v7 (tos.length+1) (iC tos++[.int .i64 (y:Int)]))(hat:v7.ownBlock=tv.ownBlock∨v7.ownBlock=some (W.alloc ob).heap.size):LI w mb ox nx Y O kd so R tks (tos++[y]) ls rv ov v7 lv (w7.setCell ⟨nx,3,none⟩ v7)∧w7.frozen? ⟨nx,3,none⟩=false∧w7.cell? ⟨nx,3,none⟩=some tv:=by
 obtain ⟨r2,hx⟩:=L.rw_.app (i:=2) (by omega) hg7 hO hat
 rw [vv_2,vv_2,vv_2]at r2;have hn:=hx nx (.inr (.inr (.inr rfl)));refine ⟨L.box (i:=3) (v:=v7) ?_ hx (.inr ⟨rfl,rfl,rfl⟩),(World.frozen?_of_block (a:=⟨nx,3,none⟩) hn).trans (L.fz 3),(World.cell?_of_block (a:=⟨nx,3,none⟩) hn).trans L.b3⟩;have e:(tos++[y]).length=tos.length+1:=by simp
 have e2:iC (tos++[y])=iC tos++[.int .i64 (y:Int)]:=by simp [iC]
 show RWS w (vv nil4 rv ov v7 lv) ty4 sz4 (vv 0 R.length tks.length (tos++[y]).length ls.length) (vv [] (iC R) (ndCs tks) (iC (tos++[y])) (ls.map Value.string)) _ w7
 rw [e,e2];exact r2
theorem LI.addL{w:World}{mb ox nx:Nat}{Y:Nat→Prop}{O:Nat→Value}{kd so:Int}{R:List Nat}{tks:List TkN}{tos:List Nat}{ls:List ByteArray}{rv ov tv lv v7:Value}{W w7:World}{ob:Obj}{l:ByteArray}(L:LI w mb ox nx Y O kd so R tks tos ls rv ov tv lv W)(hg7:(W.alloc ob).grownBy w7 lv.ownBlock)(hO:w7.ownsRow w.heap.size 9 1 v7 (ls.length+1) (ls.map Value.string++[.string l]))(hat:v7.ownBlock=lv.ownBlock∨v7.ownBlock=some (W.alloc ob).heap.size):LI w mb ox nx Y O kd so R tks tos (ls++[l]) rv ov tv v7 (w7.setCell ⟨nx,2,none⟩ v7)∧w7.frozen? ⟨nx,2,none⟩=false∧(w7.cell? ⟨nx,2,none⟩=some lv∧∀j,j<6→w7.cell? ⟨ox,j,none⟩=some (O j)):=by
 obtain ⟨r2,hx⟩:=L.rw_.app (i:=3) (by omega) hg7 hO hat
 rw [vv_3,vv_3,vv_3]at r2;have hn:=hx nx (.inr (.inr (.inr rfl)));have ho:=hx ox (.inr (.inr (.inl rfl)));refine ⟨L.box (i:=2) (v:=v7) ?_ hx (.inl ⟨rfl,rfl,rfl⟩),(World.frozen?_of_block (a:=⟨nx,2,none⟩) hn).trans (L.fz 2),(World.cell?_of_block (a:=⟨nx,2,none⟩) hn).trans L.b2,fun j hj=>(World.cell?_of_block (a:=⟨ox,j,none⟩) ho).trans (L.oc j hj)⟩
 have e:(ls++[l]).length=ls.length+1:=by simp
 show RWS w (vv nil4 rv ov tv v7) ty4 sz4 (vv 0 R.length tks.length tos.length (ls++[l]).length) (vv [] (iC R) (ndCs tks) (iC tos) ((ls++[l]).map Value.string)) _ w7
 rw [e,List.map_append];exact r2
theorem LO.begin{w:World}{mb ox nx:Nat}{Y:Nat→Prop}{O:Nat→Value}{kd so:Int}{R:List Nat}{tks:List TkN}{rv ov:Value}{W W':World}(L:LO w mb Y R tks rv ov W)(hb:Below W.heap.size W W')(ho:W.heap.size≤ox∧ox<W'.heap.size)(hn:W.heap.size≤nx∧nx<W'.heap.size)(hne:ox≠nx)(b0:W'.cell? ⟨nx,0,none⟩=some (.int .i64 kd))(b1:W'.cell? ⟨nx,1,none⟩=some (.int .i64 so))(b2:W'.cell? ⟨nx,2,none⟩=some nil4)(b3:W'.cell? ⟨nx,3,none⟩=some nil4)(fz:∀j,W'.frozen? ⟨nx,j,none⟩=false)(oc:∀j,j<6→W'.cell? ⟨ox,j,none⟩=some (O j)):LI w mb ox nx Y O kd so R tks [] [] rv ov nil4 nil4 W':=by
 have hm:=L.rw_.xl mb (.inr rfl);have hown:∀i,i<4→∀b,(vv nil4 rv ov nil4 nil4 i).ownBlock=some b→b<W.heap.size:=fun i hi b hb=>((L.rw_.own i hi).lt b hb).2
 have hY:∀b,Y b→b<W.heap.size:=fun b hb=>L.rw_.xl b (.inl hb)
 have hw:=L.rw_.bl.size;refine ⟨(L.rw_.kept hb).more fun b hb'=>?_,L.mp.blk (hb.block mb hm),⟨L.ym,fun q=>by have:=hY ox q;omega,fun q=>by have:=hY nx q;omega⟩,⟨by omega,by omega,hne⟩,⟨L.wm,by omega,by omega⟩,L.tk.keep (fun b o hb'=>hb.cell (p:=⟨b,o,none⟩) (hY b hb')) fun _ h=>h,b0,b1,b2,b3,fz,oc⟩
 rcases hb' with q|q|q|q
 ·exact .inl (.inl q)
 ·exact .inl (.inr q)
 ·exact .inr ⟨by omega,fun i hi e=>by have:=hown i hi b e;omega⟩
 ·exact .inr ⟨by omega,fun i hi e=>by have:=hown i hi b e;omega⟩
theorem own_np{w W:World}{e:TypeId}{v:Value}{n:Nat}{xs:List Value}{P:Nat→Prop}(ho:W.ownsRow w.heap.size e 1 v n xs)(hP:∀b,v.ownBlock=some b→P b):∃a c,v = .slice a n c∧NP W P xs a:=by
 rcases own_cells ho with ⟨rfl,h0,hx⟩|⟨g,cap,rfl,_,_,hc⟩
 ·exact ⟨none,0,by rw [h0],.inl hx⟩
 ·refine ⟨_,_,rfl,.inr ⟨g,0,rfl,hP g rfl,fun i hi=>?_⟩⟩
  rw [Nat.zero_add];exact hc i _ (List.getElem?_eq_getElem hi)
theorem LI.done{w:World}{mb ox nx:Nat}{Y:Nat→Prop}{O:Nat→Value}{kd so:Int}{R:List Nat}{tks:List TkN}{tos:List Nat}{ls:List ByteArray}{rv ov v7:Value}{ta la:OAd}{tc lc:Nat}{W w7:World}{ob:Obj}(L:LI w mb ox nx Y O kd so R tks tos ls rv ov (.slice ta tos.length tc) (.slice la ls.length lc) W)(hg7:(W.alloc ob).grownBy w7 ov.ownBlock)(hO:w7.ownsRow w.heap.size 56 4 v7 (tks.length+1) (ndCs tks++nC (⟨kd,so,ls,tos⟩,(la,lc),(ta,tc))))(hat:v7.ownBlock=ov.ownBlock∨v7.ownBlock=some (W.alloc ob).heap.size):
  LO w mb (fun b=>Y b∨(Value.slice ta tos.length tc).ownBlock=some b∨(Value.slice la ls.length lc).ownBlock=some b) R (tks++[(⟨kd,so,ls,tos⟩,(la,lc),(ta,tc))]) rv v7 w7:=by
 obtain ⟨r2,hx⟩:=L.rw_.app (i:=1) (by omega) hg7 hO hat
 rw [vv_1,vv_1,vv_1]at r2;have rT:=r2.own 2 (by omega)
 have rL:=r2.own 3 (by omega)
 have aT:∀b,(Value.slice ta tos.length tc).ownBlock=some b→b≠mb:=fun b hb e=>r2.xn 2 (by omega) b hb (.inr (.inl e))
 have aL:∀b,(Value.slice la ls.length lc).ownBlock=some b→b≠mb:=fun b hb e=>r2.xn 3 (by omega) b hb (.inr (.inl e))
 have r3:=r2.renew;rw [vv_2,vv_3,vv_2,vv_3,vv_2,vv_3]at r3;have el:(tks++[((⟨kd,so,ls,tos⟩,(la,lc),(ta,tc)):TkN)]).length=tks.length+1:=by simp
 refine ⟨?_,L.mp.blk (hx mb (.inr (.inl rfl))),?_,L.wm.1,fun t ht=>?_⟩
 ·show RWS w (vv nil4 rv v7 nil4 nil4) ty4 sz4 (vv 0 R.length (tks++[((⟨kd,so,ls,tos⟩,(la,lc),(ta,tc)):TkN)]).length 0 0) (vv [] (iC R) (ndCs (tks++[((⟨kd,so,ls,tos⟩,(la,lc),(ta,tc)):TkN)])) [] []) _ w7
  rw [el,ndCs_snoc];refine r3.more fun b hb=>?_
  rcases hb with (q|q|q)|q
  ·exact .inl (.inl (.inl q))
  ·exact .inl (.inr (.inl q))
  ·exact .inl (.inr (.inr q))
  ·exact .inl (.inl (.inr (.inl q)))
 ·rintro (q|q|q)
  ·exact L.ym.1 q
  ·exact aT mb q rfl
  ·exact aL mb q rfl
 ·rcases List.mem_append.1 ht with ht|ht
  ·have hY:=L.tk t ht
   exact ⟨hY.1.keep (fun b o hb=>World.cell?_of_block (a:=⟨b,o,none⟩) (hx b (.inl hb))) fun b hb=>.inl hb,hY.2.keep (fun b o hb=>World.cell?_of_block (a:=⟨b,o,none⟩) (hx b (.inl hb))) fun b hb=>.inl hb⟩
  ·rw [List.mem_singleton]at ht
   subst ht;obtain ⟨a,c,e,hn⟩:=own_np (P:=fun b=>Y b∨(Value.slice ta tos.length tc).ownBlock=some b∨(Value.slice la ls.length lc).ownBlock=some b) rL (fun b hb=>.inr (.inr hb))
   obtain ⟨a',c',e',hn'⟩:=own_np (P:=fun b=>Y b∨(Value.slice ta tos.length tc).ownBlock=some b∨(Value.slice la ls.length lc).ownBlock=some b) rT (fun b hb=>.inr (.inl hb))
   injection e with e1
   injection e' with e1'
   subst e1;subst e1';exact ⟨hn,hn'⟩
def fT(sp:List Int)(n:Nd)(j:Nat):List Nat:=(n.to.take j).filter (alK sp)
def fL(sp:List Int)(n:Nd)(j:Nat):List ByteArray:=(((n.labs.zip n.to).take j).filter fun e=>alK sp e.2).map (·.1)
def fR(sp:List Int)(n:Nd)(R:List Nat)(j:Nat):List Nat:=(fT sp n j).foldl addK R
def fO(sp:List Int)(n:Nd)(R:List Nat)(j:Nat):List Nat:=(fT sp n j).map fun x=>(fR sp n R j).idxOf x
theorem fT_yes{sp:List Int}{n:Nd}{j:Nat}(h:j<n.to.length)(ha:alK sp n.to[j]=true):fT sp n (j+1)=fT sp n j++[n.to[j]]:=by
 unfold fT;rw [take_one h,List.filter_append];simp [ha]
theorem fT_no{sp:List Int}{n:Nd}{j:Nat}(h:j<n.to.length)(ha:alK sp n.to[j]=false):fT sp n (j+1)=fT sp n j:=by
 unfold fT;rw [take_one h,List.filter_append];simp [ha]
theorem fR_no{sp:List Int}{n:Nd}{R:List Nat}{j:Nat}(h:j<n.to.length)(ha:alK sp n.to[j]=false):fR sp n R (j+1)=fR sp n R j∧fO sp n R (j+1)=fO sp n R j:=by
 unfold fO fR;rw [fT_no h ha];exact ⟨rfl,rfl⟩
theorem fR_yes{sp:List Int}{n:Nd}{R:List Nat}{j:Nat}(h:j<n.to.length)(ha:alK sp n.to[j]=true):fR sp n R (j+1)=addK (fR sp n R j) n.to[j]∧fO sp n R (j+1)=fO sp n R j++[(addK (fR sp n R j) n.to[j]).idxOf n.to[j]]:=by
 have e1:fR sp n R (j+1)=addK (fR sp n R j) n.to[j]:=by unfold fR;rw [fT_yes h ha,List.foldl_append];rfl
 refine ⟨e1,?_⟩;unfold fO;rw [e1,fT_yes h ha,List.map_append];congr 1
 obtain ⟨e,he⟩:=addK_pre (fR sp n R j) n.to[j];rw [he];exact List.map_congr_left fun x hx=>idxK_pre (foldK_mem _ _ x hx)
theorem fL_nil{sp:List Int}{n:Nd}(h:n.labs=[])(j:Nat):fL sp n j=[]:=by unfold fL;rw [h];simp
theorem fL_step{sp:List Int}{n:Nd}{j:Nat}(h:j<n.to.length)(hl:n.labs.length=n.to.length):fL sp n (j+1)=fL sp n j++(if alK sp n.to[j] then [n.labs[j]] else []):=by
 have hz:j<(n.labs.zip n.to).length:=by rw [List.length_zip];omega
 unfold fL;rw [take_one hz,List.filter_append,List.map_append,List.getElem_zip];congr 1
 by_cases ha:alK sp n.to[j]=true <;> simp [ha]
theorem fL_no{sp:List Int}{n:Nd}{j:Nat}(h:j<n.to.length)(hl:n.labs=[]∨n.labs.length=n.to.length)(ha:alK sp n.to[j]=false):fL sp n (j+1)=fL sp n j:=by
 rcases hl with hl|hl
 ·rw [fL_nil hl,fL_nil hl]
 ·rw [fL_step h hl,ha];simp
theorem fL_len{sp:List Int}{n:Nd}(j:Nat):(fL sp n j).length≤j:=by
 unfold fL;rw [List.length_map];have h1:=List.length_filter_le (fun e:ByteArray × Nat=>alK sp e.2) ((n.labs.zip n.to).take j)
 rw [List.length_take]at h1;omega
theorem fO_len{sp:List Int}{n:Nd}{R:List Nat}(j:Nat):(fO sp n R j).length≤j:=by
 unfold fO fT;rw [List.length_map];have h1:=List.length_filter_le (alK sp) (n.to.take j);rw [List.length_take]at h1;omega
theorem f_end{sp:List Int}{n:Nd}{R:List Nat}:lfK sp (fR sp n R n.to.length) n=⟨n.kind,n.so,fL sp n n.to.length,fO sp n R n.to.length⟩∧fR sp n R n.to.length=(n.to.filter (alK sp)).foldl addK R:=by
 have e:fT sp n n.to.length=n.to.filter (alK sp):=by unfold fT;rw [List.take_length]
 refine ⟨?_,by unfold fR;rw [e]⟩
 unfold lfK fO;rw [e];congr 1
 unfold fL;rw [List.take_of_length_le (by rw [List.length_zip];omega)]
theorem fR_good{D:List Nd}{sp:List Int}{R:List Nat}{m:Nat}(h:RI D sp R m){n:Nd}(hn:∀x∈n.to,x<D.length)(j:Nat):(fR sp n R j).Nodup∧(∀x∈fR sp n R j,x<D.length)∧(fR sp n R j).length≤D.length:=by
 have hlt:∀x∈fR sp n R j,x<D.length:=fun x hx=>by
  rcases foldK_sub _ _ x hx with q|q
  ·exact h.lt x q
  ·exact hn x (List.mem_of_mem_take (List.mem_filter.1 q).1)
 exact ⟨foldK_nd _ h.nd,hlt,nodup_le D.length _ (foldK_nd _ h.nd) hlt⟩
theorem lf_more{D:List Nd}{sp:List Int}{R R':List Nat}{m:Nat}{L:List Nd}(h:RI D sp R m)(hm:m<R.length)(hL:L=(R.take m).map fun x=>lfK sp R (nodeAt D x))(hR:R'=((nodeAt D R[m]).to.filter (alK sp)).foldl addK R):L++[lfK sp R' (nodeAt D R[m])]=(R'.take (m+1)).map fun x=>lfK sp R' (nodeAt D x):=by
 obtain ⟨e,he⟩:=foldK_pre ((nodeAt D R[m]).to.filter (alK sp)) R;rw [← hR]at he;have ht:R'.take (m+1)=R.take m++[R[m]]:=by rw [he,List.take_append_of_le_length (by omega),take_one hm]
 rw [ht,List.map_append,hL];congr 1
 refine List.map_congr_left fun x hx=>?_
 obtain ⟨k,hk,rfl⟩:=List.mem_iff_getElem.1 hx;rw [List.length_take]at hk;rw [List.getElem_take,he];exact (lfK_pre (h.sh k (by omega) (by omega))).symm
theorem LW.shut{w:World}{db gd cap:Nat}{ts:List Dk}{sp:List Int}(H:LW w db gd cap ts sp):shutG (ts.map (·.nd)):=fun n hn t ht=>by
 obtain ⟨q,hq,rfl⟩:=List.mem_map.1 hn;rw [List.length_map];exact H.sh q hq t ht
theorem LW.at_{ts:List Dk}{x:Nat}(h:x<ts.length):nodeAt (ts.map (·.nd)) x=ts[x].nd:=by rw [nodeAt_lt _ _ (by simpa using h)];simp
theorem LW.ri{w:World}{db gd cap:Nat}{ts:List Dk}{sp:List Int}(H:LW w db gd cap ts sp):RI (ts.map (·.nd)) sp [0] 0 :=
 ⟨rfl,by simp,fun x hx=>by rw [List.mem_singleton]at hx;subst hx;simpa using H.n0,fun x hx=>by rw [List.mem_singleton]at hx;subst hx;exact H.a0,Nat.zero_le _,fun k _ hk=>by omega,fun S h0 _ x hx=>by rw [List.mem_singleton]at hx;subst hx;exact h0⟩
theorem wpList_insN{w w':World}{ops:Array Oper}{rest:List Oper}{o:Oper}{a:Act}{Q:Exit→Act→World→Prop}(hgd:o.guard=none)(m x y:Operand)(t:TypeId)(ho:o.op=Op.insert t m x y){mv key v:Value}
  (hm:a.eval m=mv) (hx:a.eval x=key) (hy:a.eval y=v) (hrun:(Instr.mapUpdate t mv key v).run Tryz.prog w = .ok () w') (h:wpList Tryz.prog ops Q rest (a.put o.dst undef) w'):wpList Tryz.prog ops Q (o::rest) a w:=by
 refine wpList_plain hgd fun K hK=>?_
 unfold Oper.wp;simp [execOp,ho,hm,hx,hy,hrun,Result.andThen];exact hK _ _ h
theorem LO.start{w W2:World}(hg:((w.alloc (.cells #[.int .i64 0] 3)).alloc (.map #[] 0)).grownBy W2 (some (w.heap.size+1)))(hm:MPN W2 (w.heap.size+1) [0]):LO w (w.heap.size+1) (fun _=>False) [0] [] (.slice (some ⟨w.heap.size,0,none⟩) 1 1) nil4 W2:=by
 have hA:Below w.heap.size w ((w.alloc (.cells #[.int .i64 0] 3)).alloc (.map #[] 0)):=((Below.refl _ _).alloc (Nat.le_refl _) _).alloc (by simp) _
 have hs:((w.alloc (.cells #[.int .i64 0] 3)).alloc (.map #[] 0)).heap.size=w.heap.size+1+1:=by simp
 have hz:=hg.size;have hO:=World.ownsRow_lit (base:=w.heap.size) (e:=3) (size:=1) w #[.int .i64 0] 1 (Nat.le_refl _) (by decide) rfl
 have hO2:=own_belowG hO ((Below.refl _ _).alloc (Nat.le_refl _) (.map #[] 0));have hO3:W2.ownsRow w.heap.size 3 1 (.slice (some ⟨w.heap.size,0,none⟩) 1 1) 1 [.int .i64 0]:=own_other hO2 fun b hb hl=>hg.block b hl (fun e=>by
  injection hb with hb
  injection e with e
  have:w.heap.size=b:=hb;omega)
 refine ⟨⟨fun i hi=>?_,fun i j hi hj hne=>?_,fun i hi b hb hx=>?_,fun b hb=>?_,?_⟩,hm,id,by omega,fun t ht=>by cases ht⟩
 ·rcases (show i=0∨i=1∨i=2∨i=3 by omega) with rfl|rfl|rfl|rfl
  ·exact hO3
  ·exact World.ownsRow_nil _ _ _ _
  ·exact World.ownsRow_nil _ _ _ _
  ·exact World.ownsRow_nil _ _ _ _
 ·intro k hk hk'
  rcases (show i=0∨i=1∨i=2∨i=3 by omega) with rfl|rfl|rfl|rfl
  ·rcases (show j=1∨j=2∨j=3 by omega) with rfl|rfl|rfl <;> cases hk'
  ·cases hk
  ·cases hk
  ·cases hk
 ·rcases (show i=0∨i=1∨i=2∨i=3 by omega) with rfl|rfl|rfl|rfl
  ·injection hb with hb
   have:w.heap.size=b:=hb;rcases hx with hx|hx
   ·exact hx
   ·omega
  ·cases hb
  ·cases hb
  ·cases hb
 ·rcases hb with hb|hb
  ·exact hb.elim
  ·subst hb;omega
 ·exact hA.trans ⟨hg.os,hg.tape,hg.output,hg.size,fun b hb=>hg.block b (by omega) (fun e=>by injection e with e;omega)⟩
end Go.Proofs.YtnedgkcejlhnbaaGreatDoor
