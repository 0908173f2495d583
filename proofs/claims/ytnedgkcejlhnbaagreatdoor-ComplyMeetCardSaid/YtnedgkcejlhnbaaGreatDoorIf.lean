/-
  A draft in its box while the numbers of what comes next are put into it.
-/
import Derived.Test.YtnedgkcejlhnbaaGreatDoorSz
import Derived.Test.YtnedgkcejlhnbaaGreatDoorZg
import Derived.Test.YtnedgkcejlhnbaaGreatDoorZc
import Derived.Test.YtnedgkcejlhnbaaGreatDoorHr
set_option maxRecDepth 100000
set_option maxHeartbeats 2000000
namespace Go.Proofs.YtnedgkcejlhnbaaGreatDoor
open Go.RowKit Go.Shelf
def NQ(W:World)(P:Nat→Prop)(ns:List Nat)(a:OAd):Prop :=
 ns=[]∨∃b o,a=some ⟨b,o,none⟩∧P b∧∀i (h:i<ns.length),W.cell? ⟨b,o+i,none⟩=some (.int .i64 (ns[i]:Int))
theorem NQ.keep{W W':World}{P Q:Nat→Prop}(hb:∀b o,P b→W'.cell? ⟨b,o,none⟩=W.cell? ⟨b,o,none⟩)(hq:∀b,P b→Q b){ns:List Nat}{a:OAd}(h:NQ W P ns a):NQ W' Q ns a :=
 h.imp id fun ⟨b,o,e,hp,hc⟩=>⟨b,o,e,hq b hp,fun i hi=>(hb b _ hp).trans (hc i hi)⟩
def LQ(W:World)(P:Nat→Prop)(ls:List ByteArray)(al:OAd):Prop :=
 ls=[]∨∃b o,al=some ⟨b,o,none⟩∧P b∧∀i (h:i<ls.length),W.cell? ⟨b,o+i,none⟩=some (.string ls[i])
theorem LQ.keep{W W':World}{P Q:Nat→Prop}(hb:∀b o,P b→W'.cell? ⟨b,o,none⟩=W.cell? ⟨b,o,none⟩)(hq:∀b,P b→Q b){ls:List ByteArray}{al:OAd}(h:LQ W P ls al):LQ W' Q ls al :=
 h.imp id fun ⟨b,o,e,hp,hc⟩=>⟨b,o,e,hq b hp,fun i hi=>(hb b _ hp).trans (hc i hi)⟩
theorem lq_of{W:World}{B:Nat}{P:Nat→Prop}(hq:∀b,b<B→P b){ls:List ByteArray}{al:OAd}(h:LA W B ls al):LQ W P ls al:=by
 rcases h with h|⟨b,o,e,hl,hc⟩
 ·exact .inl (by simpa using h)
 ·exact .inr ⟨b,o,e,hq b hl,fun i hi=>by have:=hc i (by simpa using hi);rw [List.getElem_map]at this;exact this⟩
def nums(ps:List Pz):List Pz→List Nat
 | []=>[]
 | q::qs=>(addZ ps q).idxOf q::nums (addZ ps q) qs
theorem nums_snoc:∀(qs ps:List Pz) (q:Pz),nums ps (qs++[q])=nums ps qs++[(addZ (qs.foldl addZ ps) q).idxOf q]
 | [],_,_=>rfl
 | a::qs,ps,q=>by
  rw [List.cons_append,nums,nums_snoc qs (addZ ps a) q,nums,List.foldl_cons,List.cons_append]
theorem nums_eq:∀(qs ps:List Pz),nums ps qs=qs.map fun q=>(qs.foldl addZ ps).idxOf q
 | [],_=>rfl
 | a::qs,ps=>by
  rw [nums,nums_eq qs (addZ ps a),List.map_cons,List.foldl_cons];congr 1
  obtain ⟨e,he⟩:=foldZ_pre qs (addZ ps a);rw [he,idx_pre (addZ_mem ps a)]
structure PS(ps:List Pz):Prop where
 ln:ps.length≤1000000
 nd:ps.Nodup
 sm:∀q∈ps,smPz q
theorem ps_of{g h:List Nd}(hg:g.length≤200)(hh:h.length≤200){ps:List Pz}(hn:ps.Nodup)(ho:∀p∈ps,okZ g h p):PS ps:=by
 refine ⟨?_,hn,fun q hq=>(ho q hq).sm hg hh⟩
 cases ps with
 | nil=>simp
 | cons p0 r =>
  have:=(DI.len (m:=0) (p0:=p0) ⟨rfl,hn,ho,Nat.zero_le _,fun _ _ h=>absurd h (Nat.not_lt_zero _)⟩:(p0::r).length≤(g.length+1)*(h.length+1)*2)
  have h2:(g.length+1)*(h.length+1)≤201*201:=Nat.mul_le_mul (by omega) (by omega)
  omega
def iC(ns:List Nat):List Value:=ns.map fun x:Nat=>Value.int .i64 (x:Int)
theorem infoInZ:(Tryz.prog.info? 3).map (fun i=>(i.zero,i.size,i.bytes))=some (some (.int .i64 0),1,8):=by kernel_rfl
structure DB(w0 w1:World)(db mb bx:Nat)(ca cb ud u0:Value)(X:Nat→Value)(ps:List Pz)(tos:List Nat)(u v:Value)(W:World):Prop where
 z:ZW w0 db mb ca cb ud ps u W
 own:W.ownsRow w1.heap.size 3 1 v tos.length (iC tos)
 c3:W.cell? ⟨bx,3,none⟩=some v
 f3:∀j,j<6→W.frozen? ⟨bx,j,none⟩=false
 oc:∀j,j<6→j≠3→W.cell? ⟨bx,j,none⟩=some (X j)
 fr:∀b,b<w1.heap.size→b≠mb→b≠db→b≠bx→some b≠u0.ownBlock→W.heap[b]? = w1.heap[b]?
 uf:u.ownBlock=u0.ownBlock∨∀j,u.ownBlock=some j→w1.heap.size≤j
 u1:∀j,u0.ownBlock=some j→j<w1.heap.size
 vu:∀j,v.ownBlock=some j→u.ownBlock≠some j
 b1:bx<w1.heap.size
 bz:w0.heap.size≤bx
 sz:w1.heap.size≤W.heap.size
 bd:bx≠db
 bm:bx≠mb
 bu:u0.ownBlock≠some bx
 d1:db<w1.heap.size
 m1:mb<w1.heap.size
 os_:W.os=w1.os
 tp_:W.tape=w1.tape
 ot_:W.output=w1.output
theorem DB.ubx{w0 w1:World}{db mb bx:Nat}{ca cb ud u0:Value}{X:Nat→Value}{ps:List Pz}{tos:List Nat}{u v:Value}{W:World}(D:DB w0 w1 db mb bx ca cb ud u0 X ps tos u v W):u.ownBlock≠some bx:=fun e=>by
 rcases D.uf with q|q
 ·exact D.bu (q ▸ e)
 ·have:=q bx e;have:=D.b1;omega
theorem DB.vlt{w0 w1:World}{db mb bx:Nat}{ca cb ud u0:Value}{X:Nat→Value}{ps:List Pz}{tos:List Nat}{u v:Value}{W:World}(D:DB w0 w1 db mb bx ca cb ud u0 X ps tos u v W){j:Nat}(e:v.ownBlock=some j):w1.heap.size≤j∧j<W.heap.size:=D.own.lt j e
theorem DB.kept{w0 w1:World}{db mb bx:Nat}{ca cb ud u0:Value}{X:Nat→Value}{ps:List Pz}{tos:List Nat}{u v:Value}{W W':World}(D:DB w0 w1 db mb bx ca cb ud u0 X ps tos u v W)(hb:Below W.heap.size W W'):DB w0 w1 db mb bx ca cb ud u0 X ps tos u v W':=by
 have hbx:bx<W.heap.size:=Nat.lt_of_lt_of_le D.b1 D.sz;exact ⟨D.z.kept hb,own_belowG D.own hb,(hb.cell (p:=⟨bx,3,none⟩) hbx).trans D.c3,fun j hj=>(hb.frozen (p:=⟨bx,j,none⟩) hbx).trans (D.f3 j hj),fun j hj h3=>(hb.cell (p:=⟨bx,j,none⟩) hbx).trans (D.oc j hj h3),fun b h1 h2 h3 h4 h5=>(hb.block b (Nat.lt_of_lt_of_le h1 D.sz)).trans (D.fr b h1 h2 h3 h4 h5),D.uf,D.u1,D.vu,D.b1,D.bz,Nat.le_trans D.sz hb.size,D.bd,D.bm,D.bu,D.d1,D.m1,hb.os.trans D.os_,hb.tape.trans D.tp_,hb.output.trans D.ot_⟩
theorem DB.num{w0 w1:World}{db mb bx:Nat}{ca cb ud u0:Value}{X:Nat→Value}{ps ps':List Pz}{tos:List Nat}{u u' v:Value}{W W':World}(D:DB w0 w1 db mb bx ca cb ud u0 X ps tos u v W)(hz:ZW w0 db mb ca cb ud ps' u' W')(hr:RF mb db u.ownBlock W W')(hf:u'.ownBlock=u.ownBlock∨∀j,u'.ownBlock=some j→W.heap.size≤j):DB w0 w1 db mb bx ca cb ud u0 X ps' tos u' v W':=by
 have hbx:bx<W.heap.size:=Nat.lt_of_lt_of_le D.b1 D.sz;have hub:=D.ubx;have hk:=hr.block bx hbx D.bm D.bd (fun e=>hub e.symm)
 refine ⟨hz,?_,(World.cell?_of_block (a:=⟨bx,3,none⟩) hk).trans D.c3,fun j hj=>(World.frozen?_of_block (a:=⟨bx,j,none⟩) hk).trans (D.f3 j hj),fun j hj h3=>(World.cell?_of_block (a:=⟨bx,j,none⟩) hk).trans (D.oc j hj h3),fun b h1 h2 h3 h4 h5=>(hr.block b (Nat.lt_of_lt_of_le h1 D.sz) h2 h3 (fun e=>?_)).trans (D.fr b h1 h2 h3 h4 h5),?_,D.u1,fun j hj e=>?_,D.b1,D.bz,Nat.le_trans D.sz hr.size,D.bd,D.bm,D.bu,D.d1,D.m1,hr.os.trans D.os_,hr.tape.trans D.tp_,hr.output.trans D.ot_⟩
 ·refine ⟨D.own.1,D.own.2.imp id fun ⟨g,c,cur,e1,hb',hc,r⟩=>⟨g,c,cur,e1,hb',?_,r⟩⟩
  have hg:=(Array.getElem?_eq_some_iff.1 hc).1;rw [hr.block g hg (by have:=D.m1;omega) (by have:=D.d1;omega) (fun e=>D.vu g (by rw [e1];rfl) e.symm)]
  exact hc
 ·rcases D.uf with q|q
  ·exact h5 (e.trans q)
  ·have:=q b e.symm;omega
 ·rcases hf with q|q
  ·rw [q];exact D.uf
  ·exact .inr fun j hj=>Nat.le_trans D.sz (q j hj)
 ·rcases hf with q|q
  ·exact D.vu j hj (q ▸ e)
  ·have:=q j e;have:=(D.vlt hj).2;omega
theorem DB.put{w0 w1:World}{db mb bx:Nat}{ca cb ud u0:Value}{X:Nat→Value}{ps:List Pz}{tos:List Nat}{u v v7:Value}{V w7:World}{ob:Obj}{x:Nat}(D:DB w0 w1 db mb bx ca cb ud u0 X ps tos u v V)
  (hg:(V.alloc ob).grownBy w7 v.ownBlock) (hO:w7.ownsRow w1.heap.size 3 1 v7 (tos.length+1) (iC tos++[.int .i64 (x:Int)])) (hat:v7.ownBlock=v.ownBlock∨v7.ownBlock=some (V.alloc ob).heap.size) :
  DB w0 w1 db mb bx ca cb ud u0 X ps (tos++[x]) u v7 (w7.setCell ⟨bx,3,none⟩ v7):=by
 have hsz:(V.alloc ob).heap.size=V.heap.size+1:=by simp
 have hbx:bx<V.heap.size:=Nat.lt_of_lt_of_le D.b1 D.sz;have hk:∀b,b<V.heap.size→some b≠v.ownBlock→w7.heap[b]? = V.heap[b]?:=fun b hb hn=>(hg.block b (by omega) hn).trans (heap_alloc_old V ob hb)
 have hvb:∀b,b<w1.heap.size→some b≠v.ownBlock:=fun b hb e=>by have:=(D.vlt e.symm).1;omega
 have hS:=hk bx hbx (hvb bx D.b1);have hs7:=hg.size;have hv7:∀j,v7.ownBlock=some j→w1.heap.size≤j∧(v.ownBlock=some j∨V.heap.size≤j):=fun j hj=>by
  rcases hat with q|q
  ·exact ⟨(D.vlt (q ▸ hj)).1,.inl (q ▸ hj)⟩
  ·rw [q]at hj;injection hj with hj;have:=D.sz;exact ⟨by omega,.inr (by omega)⟩
 have hset:∀b,b≠bx→(w7.setCell ⟨bx,3,none⟩ v7).heap[b]? = w7.heap[b]?:=fun b hb=>Below.heap_setCell _ _ _ b hb
 have hul:∀j,u.ownBlock=some j→j<V.heap.size:=fun j hj=>(D.z.own.lt j hj).2
 refine ⟨?_,?_,World.cell?_setCell_same _ _ _ ((World.cell?_of_block (a:=⟨bx,3,none⟩) hS).trans D.c3),fun j hj=>(World.frozen?_setCell _ _ _ _).trans ((World.frozen?_of_block (a:=⟨bx,j,none⟩) hS).trans (D.f3 j hj)),fun j hj h3=>?_,fun b h1 h2 h3 h4 h5=>?_,D.uf,D.u1,fun j hj e=>?_,D.b1,D.bz,by simp;have:=D.sz;omega,D.bd,D.bm,D.bu,D.d1,D.m1,hg.os.trans D.os_,hg.tape.trans D.tp_,hg.output.trans D.ot_⟩
 ·refine D.z.other hg.os hg.tape hg.output (by simp;omega) fun b hb hor=>?_
  rw [hset b]
  ·refine hk b hb fun e=>?_
   rcases hor with q|q|q|q
   ·have:=(D.vlt e.symm).1;have:=D.z.bl.size;have:=D.bz;have:=D.b1;omega
   ·exact hvb db D.d1 (q ▸ e)
   ·exact hvb mb D.m1 (q ▸ e)
   ·exact D.vu b e.symm q
  ·rintro rfl
   rcases hor with q|q|q|q
   ·have:=D.bz;omega
   ·exact D.bd q
   ·exact D.bm q
   ·exact D.ubx q
 ·rw [List.length_append,show iC (tos++[x])=iC tos++[.int .i64 (x:Int)] from by simp [iC]]
  refine ⟨hO.1,hO.2.imp id fun ⟨g,c,cur,e1,hb',hc,r⟩=>⟨g,c,cur,e1,hb',?_,r⟩⟩
  rw [hset g (by have:=D.b1;omega)]
  exact hc
 ·rw [World.cell?_setCell_other _ _ _ _ (by intro e;injection e with _ e;exact h3 e.symm)]
  exact (World.cell?_of_block (a:=⟨bx,j,none⟩) hS).trans (D.oc j hj h3)
 ·rw [hset b h4,hk b (Nat.lt_of_lt_of_le h1 D.sz) (hvb b h1)]
  exact D.fr b h1 h2 h3 h4 h5
 ·rcases (hv7 j hj).2 with q|q
  ·exact D.vu j q e
  ·have:=hul j e;omega
theorem DB.frz{w0 w1:World}{db mb bx:Nat}{ca cb ud u0:Value}{X:Nat→Value}{ps:List Pz}{tos:List Nat}{u v:Value}{W W':World}{ob:Obj}(D:DB w0 w1 db mb bx ca cb ud u0 X ps tos u v W)(hg:(W.alloc ob).grownBy W' v.ownBlock):W'.frozen? ⟨bx,3,none⟩=false:=by
 have h1:=D.b1;have h2:=D.sz;exact (World.frozen?_of_block (a:=⟨bx,3,none⟩) ((hg.block bx (by simp;omega) (fun e=>by have:=(D.vlt e.symm).1;omega)).trans (heap_alloc_old W ob (by omega)))).trans (D.f3 3 (by omega))
theorem DB.row{w0 w1:World}{db mb bx:Nat}{ca cb ud u0:Value}{X:Nat→Value}{ps:List Pz}{tos:List Nat}{u v:Value}{W:World}(D:DB w0 w1 db mb bx ca cb ud u0 X ps tos u v W):∃a c,v = .slice a tos.length c∧NQ W (fun b=>w1.heap.size≤b∧b<W.heap.size∧u.ownBlock≠some b) tos a:=by
 have hvu:=D.vu;rcases own_cells D.own with ⟨rfl,h0,_⟩|⟨g,cap,rfl,hgB,hg,hc⟩
 ·exact ⟨none,0,by rw [h0],.inl (List.length_eq_zero_iff.1 h0)⟩
 ·refine ⟨_,_,rfl,.inr ⟨g,0,rfl,⟨hgB,hg,hvu g rfl⟩,fun i hi=>?_⟩⟩
  rw [Nat.zero_add];exact hc i _ (by unfold iC;rw [List.getElem?_map,List.getElem?_eq_getElem hi];rfl)
def dVal(n:Nd)(al:OAd)(cl:Nat)(at1:OAd)(ct:Nat)(sp:Int):Value:=.agg #[.int .i64 n.kind,.int .i64 n.so,.slice al n.labs.length cl,.slice at1 n.to.length ct,.int .i64 sp,.slice none 0 0]
def PD(B:Nat)(w w':World)(u':Value)(b:Nat):Prop:=b<w'.heap.size∧(b<B∨w.heap.size≤b)∧u'.ownBlock≠some b
def DPost(w0:World)(db mb:Nat)(ca cb ud:Value)(B:Nat)(d:Dr)(ps:List Pz)(u:Value)(w:World)(e:Ending)(w':World):Prop :=
 ∃u' al cl at1 ct,e = .returned (dVal ⟨d.kind,d.so,d.labs,nums ps d.nxt⟩ al cl at1 ct d.spare)∧ZW w0 db mb ca cb ud (d.nxt.foldl addZ ps) u' w'∧RF mb db u.ownBlock w w'∧(u'.ownBlock=u.ownBlock∨∀j,u'.ownBlock=some j→w.heap.size≤j)∧LQ w' (PD B w w' u') d.labs al∧NQ w' (PD B w w' u') (nums ps d.nxt) at1
def sx6(W:World)(b:Nat)(v0 v1 v2 v3 v4 v5:Value):World :=
 (((((W.setCell ⟨b,0,none⟩ v0).setCell ⟨b,1,none⟩ v1).setCell ⟨b,2,none⟩ v2).setCell ⟨b,3,none⟩ v3).setCell ⟨b,4,none⟩ v4).setCell ⟨b,5,none⟩ v5
theorem sx6_size(W:World)(b:Nat)(v0 v1 v2 v3 v4 v5:Value):(sx6 W b v0 v1 v2 v3 v4 v5).heap.size=W.heap.size:=by unfold sx6;simp
theorem sx6_bl(W:World)(b:Nat)(v0 v1 v2 v3 v4 v5:Value):Below b W (sx6 W b v0 v1 v2 v3 v4 v5):=by
 unfold sx6;exact ((((((Below.refl b W).setCell (p:=⟨b,0,none⟩) (Nat.le_refl _) _).setCell (p:=⟨b,1,none⟩) (Nat.le_refl _) _).setCell (p:=⟨b,2,none⟩) (Nat.le_refl _) _).setCell (p:=⟨b,3,none⟩) (Nat.le_refl _) _).setCell (p:=⟨b,4,none⟩) (Nat.le_refl _) _).setCell (p:=⟨b,5,none⟩) (Nat.le_refl _) _
theorem sx6_block(W:World)(b:Nat)(v0 v1 v2 v3 v4 v5:Value)(k:Nat)(h:k≠b):(sx6 W b v0 v1 v2 v3 v4 v5).heap[k]? = W.heap[k]?:=by
 unfold sx6;rw [Below.heap_setCell _ _ _ k h,Below.heap_setCell _ _ _ k h,Below.heap_setCell _ _ _ k h,Below.heap_setCell _ _ _ k h,Below.heap_setCell _ _ _ k h,Below.heap_setCell _ _ _ k h]
theorem DB.grow{w0 w1:World}{db mb bx:Nat}{ca cb ud u0:Value}{X:Nat→Value}{ps:List Pz}{tos:List Nat}{u v:Value}{V w7:World}{ob:Obj}{row:Option Nat}(D:DB w0 w1 db mb bx ca cb ud u0 X ps tos u v V)(hg:(V.alloc ob).grownBy w7 row)(h1:∀j,row=some j→w1.heap.size≤j)(hu:∀j,row=some j→u.ownBlock≠some j)(hv:∀j,row=some j→v.ownBlock≠some j):DB w0 w1 db mb bx ca cb ud u0 X ps tos u v w7:=by
 have hsz:(V.alloc ob).heap.size=V.heap.size+1:=by simp
 have hbx:bx<V.heap.size:=Nat.lt_of_lt_of_le D.b1 D.sz;have hk:∀b,b<V.heap.size→some b≠row→w7.heap[b]? = V.heap[b]?:=fun b hb hn=>(hg.block b (by omega) hn).trans (heap_alloc_old V ob hb)
 have hvb:∀b,b<w1.heap.size→some b≠row:=fun b hb e=>by have:=h1 b e.symm;omega
 have hS:=hk bx hbx (hvb bx D.b1);have hs7:=hg.size;refine ⟨?_,?_,(World.cell?_of_block (a:=⟨bx,3,none⟩) hS).trans D.c3,fun j hj=>(World.frozen?_of_block (a:=⟨bx,j,none⟩) hS).trans (D.f3 j hj),fun j hj h3=>(World.cell?_of_block (a:=⟨bx,j,none⟩) hS).trans (D.oc j hj h3),fun b h1' h2 h3 h4 h5=>?_,D.uf,D.u1,D.vu,D.b1,D.bz,by have:=D.sz;omega,D.bd,D.bm,D.bu,D.d1,D.m1,hg.os.trans D.os_,hg.tape.trans D.tp_,hg.output.trans D.ot_⟩
 ·refine D.z.other hg.os hg.tape hg.output (by omega) fun b hb hor=>hk b hb fun e=>?_
  have:=h1 b e.symm;rcases hor with q|q|q|q
  ·have:=D.bz;have:=D.b1;omega
  ·have:=D.d1;omega
  ·have:=D.m1;omega
  ·exact hu b e.symm q
 ·refine ⟨D.own.1,D.own.2.imp id fun ⟨g,c,cur,e1,hb',hc,r⟩=>⟨g,c,cur,e1,hb',?_,r⟩⟩
  rw [hk g (Array.getElem?_eq_some_iff.1 hc).1 (fun e=>hv g e.symm (by rw [e1];rfl))]
  exact hc
 ·rw [hk b (Nat.lt_of_lt_of_le h1' D.sz) (hvb b h1')]
  exact D.fr b h1' h2 h3 h4 h5
theorem DB.setX{w0 w1:World}{db mb bx:Nat}{ca cb ud u0:Value}{X X':Nat→Value}{ps:List Pz}{tos:List Nat}{u v:Value}{V:World}(D:DB w0 w1 db mb bx ca cb ud u0 X ps tos u v V)(i:Nat)(x:Value)(hi:i<6)(h3:i≠3)(hX:∀j,j<6→j≠3→X' j=if j=i then x else X j):DB w0 w1 db mb bx ca cb ud u0 X' ps tos u v (V.setCell ⟨bx,i,none⟩ x):=by
 have hset:∀b,b≠bx→(V.setCell ⟨bx,i,none⟩ x).heap[b]? = V.heap[b]?:=fun b hb=>Below.heap_setCell _ _ _ b hb
 have hB:=(Below.refl bx V).setCell (p:=⟨bx,i,none⟩) (Nat.le_refl _) x;refine ⟨?_,?_,(World.cell?_setCell_other _ _ _ _ (by intro e;injection e with _ e;exact h3 e)).trans D.c3,fun j hj=>(World.frozen?_setCell _ _ _ _).trans (D.f3 j hj),fun j hj hj3=>?_,fun b h1 h2 h3 h4 h5=>?_,D.uf,D.u1,D.vu,D.b1,D.bz,by have:=D.sz;have:=hB.size;omega,D.bd,D.bm,D.bu,D.d1,D.m1,hB.os.trans D.os_,hB.tape.trans D.tp_,hB.output.trans D.ot_⟩
 ·refine D.z.other hB.os hB.tape hB.output hB.size fun b hb hor=>hset b ?_
  rintro rfl;rcases hor with q|q|q|q
  ·have:=D.bz;omega
  ·exact D.bd q
  ·exact D.bm q
  ·exact D.ubx q
 ·refine ⟨D.own.1,D.own.2.imp id fun ⟨g,c,cur,e1,hb',hc,r⟩=>⟨g,c,cur,e1,hb',?_,r⟩⟩
  rw [hset g (by have:=D.b1;omega)]
  exact hc
 ·rw [hX j hj hj3]
  by_cases e:j=i
  ·subst e
   rw [if_pos rfl];exact World.cell?_setCell_same _ _ _ (D.oc j hj hj3)
  ·rw [if_neg e,World.cell?_setCell_other _ _ _ _ (by intro q;injection q with _ q;exact e q.symm)]
   exact D.oc j hj hj3
 ·rw [hset b h4]
  exact D.fr b h1 h2 h3 h4 h5
def dX(kd so:Int)(lv:Value)(sp:Int)(j:Nat):Value:=if j=0 then .int .i64 kd else if j=1 then .int .i64 so else if j=2 then lv else if j=4 then .int .i64 sp else .slice none 0 0
structure DL(w0 w1:World)(db mb bx:Nat)(ca cb ud u0:Value)(kd so sp:Int)(ps:List Pz)(tos:List Nat)(ls:List ByteArray)(u v lv:Value)(W:World):Prop where
 d:DB w0 w1 db mb bx ca cb ud u0 (dX kd so lv sp) ps tos u v W
 lo:W.ownsRow w1.heap.size 9 1 lv ls.length (ls.map Value.string)
 lu:∀j,lv.ownBlock=some j→u.ownBlock≠some j
 lw:∀j,lv.ownBlock=some j→v.ownBlock≠some j
theorem DL.kept{w0 w1:World}{db mb bx:Nat}{ca cb ud u0:Value}{kd so sp:Int}{ps:List Pz}{tos:List Nat}{ls:List ByteArray}{u v lv:Value}{W W':World}(D:DL w0 w1 db mb bx ca cb ud u0 kd so sp ps tos ls u v lv W)(hb:Below W.heap.size W W'):DL w0 w1 db mb bx ca cb ud u0 kd so sp ps tos ls u v lv W' :=
 ⟨D.d.kept hb,own_belowG D.lo hb,D.lu,D.lw⟩
theorem DL.num{w0 w1:World}{db mb bx:Nat}{ca cb ud u0:Value}{kd so sp:Int}{ps ps':List Pz}{tos:List Nat}{ls:List ByteArray}{u u' v lv:Value}{W W':World}(D:DL w0 w1 db mb bx ca cb ud u0 kd so sp ps tos ls u v lv W)(hz:ZW w0 db mb ca cb ud ps' u' W')(hr:RF mb db u.ownBlock W W')(hf:u'.ownBlock=u.ownBlock∨∀j,u'.ownBlock=some j→W.heap.size≤j):DL w0 w1 db mb bx ca cb ud u0 kd so sp ps' tos ls u' v lv W':=by
 refine ⟨D.d.num hz hr hf,?_,fun j hj e=>?_,D.lw⟩
 ·refine ⟨D.lo.1,D.lo.2.imp id fun ⟨g,c,cur,e1,hb',hc,r⟩=>⟨g,c,cur,e1,hb',?_,r⟩⟩
  have hg:=(Array.getElem?_eq_some_iff.1 hc).1;rw [hr.block g hg (by have:=D.d.m1;omega) (by have:=D.d.d1;omega) (fun e=>D.lu g (by rw [e1];rfl) e.symm)]
  exact hc
 ·rcases hf with q|q
  ·exact D.lu j hj (q ▸ e)
  ·have:=q j e;have:=(D.lo.lt j hj).2;omega
theorem DL.put{w0 w1:World}{db mb bx:Nat}{ca cb ud u0:Value}{kd so sp:Int}{ps:List Pz}{tos:List Nat}{ls:List ByteArray}{u v lv v7:Value}{V w7:World}{ob:Obj}{x:Nat}(D:DL w0 w1 db mb bx ca cb ud u0 kd so sp ps tos ls u v lv V)
  (hg:(V.alloc ob).grownBy w7 v.ownBlock) (hO:w7.ownsRow w1.heap.size 3 1 v7 (tos.length+1) (iC tos++[.int .i64 (x:Int)])) (hat:v7.ownBlock=v.ownBlock∨v7.ownBlock=some (V.alloc ob).heap.size) :
  DL w0 w1 db mb bx ca cb ud u0 kd so sp ps (tos++[x]) ls u v7 lv (w7.setCell ⟨bx,3,none⟩ v7):=by
 have hsz:(V.alloc ob).heap.size=V.heap.size+1:=by simp
 refine ⟨D.d.put hg hO hat,?_,D.lu,fun j hj e=>?_⟩
 ·refine ⟨D.lo.1,D.lo.2.imp id fun ⟨g,c,cur,e1,hb',hc,r⟩=>⟨g,c,cur,e1,hb',?_,r⟩⟩
  have hgl:=(Array.getElem?_eq_some_iff.1 hc).1;rw [Below.heap_setCell _ _ _ g (by show g≠bx;have:=D.d.b1;omega),hg.block g (by omega) (fun e=>D.lw g (by rw [e1];rfl) e.symm),heap_alloc_old V ob hgl]
  exact hc
 ·rcases hat with q|q
  ·exact D.lw j hj (q ▸ e)
  ·rw [q]at e;injection e with e;have:=(D.lo.lt j hj).2;omega
theorem DL.putL{w0 w1:World}{db mb bx:Nat}{ca cb ud u0:Value}{kd so sp:Int}{ps:List Pz}{tos:List Nat}{ls:List ByteArray}{u v lv v7:Value}{V w7:World}{ob:Obj}{l:ByteArray}(D:DL w0 w1 db mb bx ca cb ud u0 kd so sp ps tos ls u v lv V)
  (hg:(V.alloc ob).grownBy w7 lv.ownBlock) (hO:w7.ownsRow w1.heap.size 9 1 v7 (ls.length+1) (ls.map Value.string++[.string l])) (hat:v7.ownBlock=lv.ownBlock∨v7.ownBlock=some (V.alloc ob).heap.size) :
  DL w0 w1 db mb bx ca cb ud u0 kd so sp ps tos (ls++[l]) u v v7 (w7.setCell ⟨bx,2,none⟩ v7):=by
 have hsz:(V.alloc ob).heap.size=V.heap.size+1:=by simp
 have hG:=D.d.grow hg (fun j hj=>(D.lo.lt j hj).1) D.lu D.lw
 refine ⟨hG.setX 2 v7 (by omega) (by omega) fun j hj h3=>?_,?_,fun j hj e=>?_,fun j hj e=>?_⟩
 ·match j,hj,h3 with
  | 0,_,_=>rfl
  | 1,_,_=>rfl
  | 2,_,_=>rfl
  | 4,_,_=>rfl
  | 5,_,_=>rfl
 ·rw [List.length_append,List.map_append]
  refine ⟨hO.1,hO.2.imp id fun ⟨g,c,cur,e1,hb',hc,r⟩=>⟨g,c,cur,e1,hb',?_,r⟩⟩
  rw [Below.heap_setCell _ _ _ g (by show g≠bx;have:=D.d.b1;omega)]
  exact hc
 ·rcases hat with q|q
  ·exact D.lu j (q ▸ hj) e
  ·rw [q]at hj;injection hj with hj;have:=(D.d.z.own.lt j e).2;omega
 ·rcases hat with q|q
  ·exact D.lw j (q ▸ hj) e
  ·rw [q]at hj;injection hj with hj;have:=(D.d.own.lt j e).2;omega
theorem DL.spare{w0 w1:World}{db mb bx:Nat}{ca cb ud u0:Value}{kd so sp:Int}{ps:List Pz}{tos:List Nat}{ls:List ByteArray}{u v lv:Value}{V:World}(D:DL w0 w1 db mb bx ca cb ud u0 kd so sp ps tos ls u v lv V)(z:Int):DL w0 w1 db mb bx ca cb ud u0 kd so z ps tos ls u v lv (V.setCell ⟨bx,4,none⟩ (.int .i64 z)):=by
 refine ⟨D.d.setX 4 (.int .i64 z) (by omega) (by omega) fun j hj h3=>?_,?_,D.lu,D.lw⟩
 ·match j,hj,h3 with
  | 0,_,_=>rfl
  | 1,_,_=>rfl
  | 2,_,_=>rfl
  | 4,_,_=>rfl
  | 5,_,_=>rfl
 ·refine ⟨D.lo.1,D.lo.2.imp id fun ⟨g,c,cur,e1,hb',hc,r⟩=>⟨g,c,cur,e1,hb',?_,r⟩⟩
  rw [Below.heap_setCell _ _ _ g (by show g≠bx;have:=D.d.b1;omega)]
  exact hc
theorem DL.frz{w0 w1:World}{db mb bx:Nat}{ca cb ud u0:Value}{kd so sp:Int}{ps:List Pz}{tos:List Nat}{ls:List ByteArray}{u v lv:Value}{V w7:World}{ob:Obj}(D:DL w0 w1 db mb bx ca cb ud u0 kd so sp ps tos ls u v lv V)(hg:(V.alloc ob).grownBy w7 lv.ownBlock):w7.frozen? ⟨bx,2,none⟩=false:=(D.d.grow hg (fun j hj=>(D.lo.lt j hj).1) D.lu D.lw).f3 2 (by omega)
theorem DL.lrow{w0 w1:World}{db mb bx:Nat}{ca cb ud u0:Value}{kd so sp:Int}{ps:List Pz}{tos:List Nat}{ls:List ByteArray}{u v lv:Value}{W:World}(D:DL w0 w1 db mb bx ca cb ud u0 kd so sp ps tos ls u v lv W):∃a c,lv = .slice a ls.length c∧LQ W (fun b=>w1.heap.size≤b∧b<W.heap.size∧u.ownBlock≠some b) ls a:=by
 have hlu:=D.lu;rcases own_cells D.lo with ⟨rfl,h0,_⟩|⟨g,cap,rfl,hgB,hg,hc⟩
 ·exact ⟨none,0,by rw [h0],.inl (List.length_eq_zero_iff.1 h0)⟩
 ·refine ⟨_,_,rfl,.inr ⟨g,0,rfl,⟨hgB,hg,hlu g rfl⟩,fun i hi=>?_⟩⟩
  rw [Nat.zero_add];exact hc i _ (by rw [List.getElem?_map,List.getElem?_eq_getElem hi];rfl)
theorem idxB_take{ls:List ByteArray}{l:ByteArray}{k:Nat}(hk:k<ls.length)(h:hasN (ls.take k) l=false)(e:ls[k]=l):idxB ls l=k:=by
 unfold idxB;rw [List.findIdx_eq hk];refine ⟨by simpa using e,fun j hj=>?_⟩
 cases hq:decide (ls[j]=l) with
 | false=>rfl
 | true =>
  have:ls[j]=l:=by simpa using hq
  have hm:l∈ls.take k:=by
   rw [List.mem_take_iff_getElem];exact ⟨j,by omega,this⟩
  have:=(hasN_iff _ l).2 hm;rw [this]at h;cases h
theorem hasN_take{ls:List ByteArray}{l:ByteArray}{k:Nat}(hk:k<ls.length)(h:hasN (ls.take k) l=false)(e:¬ls[k]=l):hasN (ls.take (k+1)) l=false:=by
 rw [List.take_succ_eq_append_getElem hk];cases hq:hasN (ls.take k++[ls[k]]) l with
 | false=>rfl
 | true =>
  rcases List.mem_append.1 ((hasN_iff _ l).1 hq) with hm|hm
  ·rw [(hasN_iff _ l).2 hm]at h;cases h
  ·exact absurd (List.mem_singleton.1 hm).symm e
def idxZ(ls:List ByteArray)(l:ByteArray):Int:=if hasN ls l=true then (idxB ls l:Int) else -1
theorem index_any(ls:List ByteArray)(x:ByteArray)(al:OAd)(cl B:Nat)(w:World)(h:LA w B ls al)(hl:ls.length≤1000):
  Calls Tryz.prog 46 #[.slice al ls.length cl,.string x] w fun e w'=>e = .returned (.int .i64 (idxZ ls x))∧w'=w:=by
 have hlz:(ls.length:Int)≤1000:=by omega
 go_enter Tryz.func46,Tryz.ntmps46
 go_wp2_with fail
 go_loopw [8] (fun i wr=>∃k:Nat,k≤ls.length∧i = .int .i64 (k:Int)∧hasN (ls.take k) x=false∧wr=w) (fun i _=>ls.length - (intOf i).toNat)
 case atStart=>exact ⟨0,Nat.zero_le _,rfl,rfl,rfl⟩
 case round =>
  obtain ⟨k,hk,rfl,hn,rfl⟩:=hrel;by_cases hlt:k<ls.length
  ·have hltz:(k:Int)<(ls.length:Int):=by omega
   obtain ⟨b,o,rfl,hbl,hc⟩:=h.resolve_left (fun q=>by have:=congrArg List.length q;simp at this;rw [this]at hlt;simp at hlt)
   have d0:=hc k (by simpa using hlt)
   rw [List.getElem_map]at d0;by_cases he:ls[k]=x
   ·have heb:(x.toList==ls[k].toList)=true:=by rw [he];simp
    have HI:=hideK (show idxZ ls x=(k:Int) from by
     unfold idxZ;rw [if_pos ((hasN_iff _ _).2 (by rw [← he];exact List.getElem_mem hlt)),idxB_take hlt hn he])
    clear he hc hn;generalize ls[k]=y at *;go_wp2_with fail
    go_ret
    exact ⟨by rw [HI.out];rfl,rfl⟩
   ·have heb:(x.toList==ls[k].toList)=false:=by rw [ba_beq];simpa using fun q=>he q.symm
    have HN:=hideK (hasN_take hlt hn he);clear he hc hn;generalize ls[k]=y at *;go_wp2_with fail
    go_roundw
    case rel=>exact ⟨k+1,by omega,by go_num,HN.out,by first|rfl|trivial⟩
    case measure=>simp [intOf];omega
  ·have hltz:¬(k:Int)<(ls.length:Int):=by omega
   have hkl:k=ls.length:=by omega
   subst hkl;rw [List.take_length]at hn;have HI:=hideK (show idxZ ls x = -1 from by unfold idxZ;rw [if_neg (by rw [hn];simp)])
   clear hn;go_wp2_with fail
   go_ret
   exact ⟨by rw [HI.out];rfl,rfl⟩
theorem containsL_any(ns:List ByteArray)(x:ByteArray)(aa:OAd)(ca B:Nat)(w:World)(h:LA w B ns aa)(hl:ns.length≤1000):
  Calls Tryz.prog 54 #[.slice aa ns.length ca,.string x] w fun e w'=>e = .returned (.bool (hasN ns x))∧w'=w:=by
 rcases h with h|⟨b,o,rfl,_,hc⟩
 ·have:ns=[]:=by simpa using h
  subst this;refine (Any.slices_Contains_string_empty Tryz.lays110 aa ca x w).mono fun e w' ⟨h1,h2⟩=>⟨?_,h2⟩
  rw [h1];rfl
 ·refine (Any.slices_Contains_string Tryz.lays110 b o ns.length ca ns x w (by simp) (by omega) ?_).mono fun e w' ⟨h1,h2⟩=>⟨?_,h2⟩
  ·intro j hj
   rw [hc j (by simpa using hj)]
   simp [List.getD_eq_getElem?_getD,hj]
  ·rw [h1]
   congr 2
   rw [List.take_of_length_le (by simp)]
   rw [Bool.eq_iff_iff,Lib.containsS_iff,hasN_iff]
theorem hasAll1_any(x:ByteArray)(ns:List ByteArray)(aa:OAd)(ca B pb:Nat)(w:World)(h:LA w B ns aa)(hl:ns.length≤1000)(hp:w.cell? ⟨pb,0,none⟩=some (.slice aa ns.length ca)):
  Calls Tryz.prog 102 #[.string x,.pointer (some ⟨pb,0,none⟩)] w fun e w'=>e = .returned (.bool (!hasN ns x))∧w'=w:=by
 have c:=containsL_any ns x aa ca B w h hl;generalize hasN ns x=q at *;clear h;go_enter Tryz.func102,Tryz.ntmps102
 go_wp2_with fail
 refine c.mono ?_;rintro e w1 ⟨rfl,rfl⟩;go_wp2_with fail
 go_ret
 exact ⟨rfl,rfl⟩
theorem indexHas_any(ls ns:List ByteArray)(al:OAd)(cl:Nat)(aa:OAd)(ca B pb:Nat)(w:World)(hL:LA w B ls al)(h:LA w B ns aa)(hl:ls.length≤1000)(hl2:ns.length≤1000)(hp:w.cell? ⟨pb,0,none⟩=some (.slice aa ns.length ca)):
  Calls Tryz.prog 72 #[.slice al ls.length cl,.func (.func 102) #[] #[.pointer (some ⟨pb,0,none⟩)]] w fun e w'=>(∃z:Int,e = .returned (.int .i64 z)∧(0≤z∨z = -1)∧(z = -1↔(ls.all fun l=>hasN ns l)=true))∧w'=w:=by
 have hlz:(ls.length:Int)≤1000:=by omega
 go_enter Tryz.func72,Tryz.ntmps72
 go_wp2_with fail
 go_loopw [8] (fun i wr=>∃k:Nat,k≤ls.length∧i = .int .i64 (k:Int)∧((ls.take k).all fun l=>hasN ns l)=true∧wr=w) (fun i _=>ls.length - (intOf i).toNat)
 case atStart=>exact ⟨0,Nat.zero_le _,rfl,rfl,rfl⟩
 case round =>
  obtain ⟨k,hk,rfl,hn,rfl⟩:=hrel;by_cases hlt:k<ls.length
  ·have hltz:(k:Int)<(ls.length:Int):=by omega
   obtain ⟨b,o,rfl,hbl,hc⟩:=hL.resolve_left (fun q=>by have:=congrArg List.length q;simp at this;rw [this]at hlt;simp at hlt)
   have d0:=hc k (by simpa using hlt)
   rw [List.getElem_map]at d0;have c:=hasAll1_any ls[k] ns aa ca B pb _ h hl2 hp;cases hq:hasN ns ls[k] with
   | true =>
    rw [hq]at c;have HN:=hideK (show ((ls.take (k+1)).all fun l=>hasN ns l)=true from by
     rw [List.take_succ_eq_append_getElem hlt,List.all_append,hn];simp [hq])
    clear hc hn hq h;generalize ls[k]=y at *;go_wp2_with fail
    refine c.mono ?_;rintro e w1 ⟨rfl,rfl⟩;go_wp2_with fail
    go_roundw
    case rel=>exact ⟨k+1,by omega,by go_num,HN.out,by first|rfl|trivial⟩
    case measure=>simp [intOf];omega
   | false =>
    rw [hq]at c;have HN:=hideK (show ¬(ls.all fun l=>hasN ns l)=true from fun q=>by
     rw [List.all_eq_true]at q;have:=q _ (List.getElem_mem hlt);rw [hq]at this;cases this)
    clear hc hn hq h;generalize ls[k]=y at *;go_wp2_with fail
    refine c.mono ?_;rintro e w1 ⟨rfl,rfl⟩;go_wp2_with fail
    go_ret
    exact ⟨⟨_,rfl,.inl (by omega),⟨fun q=>by omega,fun q=>absurd q HN.out⟩⟩,rfl⟩
  ·have hltz:¬(k:Int)<(ls.length:Int):=by omega
   have hkl:k=ls.length:=by omega
   subst hkl;rw [List.take_length]at hn;have HN:=hideK hn;clear hn;go_wp2_with fail
   go_ret
   exact ⟨⟨_,rfl,.inr rfl,⟨fun _=>by first|exact HN.out|exact List.all_eq_true.1 HN.out,fun _=>rfl⟩⟩,rfl⟩
theorem containsHas_any(ls ns:List ByteArray)(al:OAd)(cl:Nat)(aa:OAd)(ca B pb:Nat)(w:World)(hL:LA w B ls al)(h:LA w B ns aa)(hl:ls.length≤1000)(hl2:ns.length≤1000)(hp:w.cell? ⟨pb,0,none⟩=some (.slice aa ns.length ca)):
  Calls Tryz.prog 61 #[.slice al ls.length cl,.func (.func 102) #[] #[.pointer (some ⟨pb,0,none⟩)]] w fun e w'=>e = .returned (.bool (!(ls.all fun l=>hasN ns l)))∧w'=w:=by
 have c:=indexHas_any ls ns al cl aa ca B pb w hL h hl hl2 hp;generalize (ls.all fun l=>hasN ns l)=q at *
 clear h hL;go_enter Tryz.func61,Tryz.ntmps61
 go_wp2_with fail
 refine c.mono ?_;rintro e w1 ⟨⟨z,rfl,hz,hq⟩,rfl⟩;cases q with
 | true =>
  obtain rfl:z = -1:=hq.2 rfl;clear hz hq;go_wp2_with fail
  go_ret
  exact ⟨rfl,rfl⟩
 | false =>
  have hz':decide (z ≥ 0)=true:=by
   rcases hz with hz|hz
   ·simpa using hz
   ·exact absurd (hq.1 hz) (by simp)
  have hz2:(0≤z):=by simpa using hz'
  clear hz hq;go_wp2_with fail
  go_ret
  exact ⟨rfl,rfl⟩
theorem hasAll_any(ls ns:List ByteArray)(al:OAd)(cl:Nat)(aa:OAd)(ca B:Nat)(w:World)(hL:LA w B ls al)(h:LA w B ns aa)(hB:B≤w.heap.size)(hl:ls.length≤1000)(hl2:ns.length≤1000):
  Calls Tryz.prog 99 #[.slice aa ns.length ca,.slice al ls.length cl] w fun e w'=>e = .returned (.bool (ls.all fun l=>hasN ns l))∧Below w.heap.size w w':=by
 have hA:Below w.heap.size w (w.alloc (.cells #[.slice aa ns.length ca] 22)):=(Below.refl _ _).alloc (Nat.le_refl _) _;have c:=containsHas_any ls ns al cl aa ca B w.heap.size (w.alloc (.cells #[.slice aa ns.length ca] 22)) (hL.keep (hA.mono hB)) (h.keep (hA.mono hB)) hl hl2 (by go_cell)
 generalize (ls.all fun l=>hasN ns l)=q at *
 have HA:=hideK hA;clear h hL hA;go_enter Tryz.func99,Tryz.ntmps99
 go_wp2_with fail
 refine c.mono ?_;rintro e w1 ⟨rfl,rfl⟩;go_wp2_with fail
 go_ret
 exact ⟨by cases q <;> rfl,HA.out⟩
end Go.Proofs.YtnedgkcejlhnbaaGreatDoor
