/-
  The row of drafts in memory, while places are come to.
-/
import Derived.Test.YtnedgkcejlhnbaaGreatDoorSz
import Derived.Test.YtnedgkcejlhnbaaGreatDoorZn
namespace Go.Proofs.YtnedgkcejlhnbaaGreatDoor
open Go.RowKit Go.Shelf
structure Dk where
 nd:Nd
 al:OAd
 cl:Nat
 at1:OAd
 ct:Nat
 sp:Int
 nb:Value
def dC(q:Dk):List Value:=[.int .i64 q.nd.kind,.int .i64 q.nd.so,.slice q.al q.nd.labs.length q.cl,.slice q.at1 q.nd.to.length q.ct,.int .i64 q.sp,q.nb]
def dCs(ts:List Dk):List Value:=ts.flatMap dC
theorem dCs_snoc(ts:List Dk)(x:Dk):dCs (ts++[x])=dCs ts++dC x:=by simp [dCs]
theorem dCs_at:∀(ss:List Dk) (i:Nat) (h:i<ss.length) (j:Nat),j<6→(dCs ss)[i*6+j]? = (dC ss[i])[j]?
 | [],i,h,_,_=>by simp at h
 | s::ss,0,_,j,hj=>by
  have e:dCs (s::ss)=dC s++dCs ss:=rfl;rw [e,List.getElem?_append_left (by simp [dC];omega)]
  simp
 | s::ss,i+1,h,j,hj=>by
  have e:dCs (s::ss)=dC s++dCs ss:=rfl;have hl:(dC s).length=6:=rfl;rw [e,List.getElem?_append_right (by rw [hl];omega),hl,show (i+1)*6+j - 6=i*6+j by omega]
  exact dCs_at ss i (by simpa using h) j hj
theorem infoDr:(Tryz.prog.info? 58).map (fun i=>(i.zero,i.size,i.bytes))=some (some (.agg #[.int .i64 0,.int .i64 0,.slice none 0 0,.slice none 0 0,.int .i64 0,.slice none 0 0]),6,96):=by kernel_rfl
def DOK(W:World)(P:Nat→Prop)(ts:List Dk):Prop:=∀q∈ts,LQ W P q.nd.labs q.al∧NQ W P q.nd.to q.at1
theorem DOK.keep{W W':World}{P Q:Nat→Prop}{ts:List Dk}(h:DOK W P ts)(hb:∀b o,P b→W'.cell? ⟨b,o,none⟩=W.cell? ⟨b,o,none⟩)(hq:∀b,P b→Q b):DOK W' Q ts:=fun q hq'=>⟨(h q hq').1.keep hb hq,(h q hq').2.keep hb hq⟩
def ndZ(g h:List Nd)(ps:List Pz)(p:Pz):Nd:=⟨(drP g h p).kind,(drP g h p).so,(drP g h p).labs,tosZ g h ps p⟩
theorem ndZ_pre{g h:List Nd}{ps e:List Pz}{p:Pz}(hs:∀q∈(drP g h p).nxt,q∈ps):ndZ g h (ps++e) p=ndZ g h ps p:=by
 unfold ndZ tosZ;rw [List.map_congr_left fun q hq=>idx_pre (hs q hq)]
def PF(db mb:Nat)(u ud:Value)(W:World)(b:Nat):Prop:=b<W.heap.size∧b≠db∧b≠mb∧u.ownBlock≠some b∧ud.ownBlock≠some b
structure BL(g h:List Nd)(w0:World)(db mb:Nat)(ca cb:Value)(p0:Pz)(ps:List Pz)(ts:List Dk)(u ud:Value)(W:World):Prop where
 z:ZW w0 db mb ca cb ud ps u W
 di:DI g h p0 ps ts.length
 own:W.ownsRow w0.heap.size 58 6 ud ts.length (dCs ts)
 ne:∀j,ud.ownBlock=some j→j≠db∧j≠mb∧u.ownBlock≠some j
 ok:DOK W (PF db mb u ud W) ts
 nd:ts.map (·.nd)=(ps.take ts.length).map (ndZ g h ps)
 sp:ts.map (·.sp)=(ps.take ts.length).map fun p=>(drP g h p).spare
 nb:∀q∈ts,q.nb = .slice none 0 0
theorem take_one{α : Type}{l:List α}{k:Nat}(h:k<l.length):l.take (k+1)=l.take k++[l[k]]:=by rw [List.take_add_one,List.getElem?_eq_getElem h];rfl
theorem BL.step{g h:List Nd}(hg:GN g)(hh:GN h){w0:World}{db mb B:Nat}{ca cb:Value}{p0:Pz}{ps:List Pz}{ts:List Dk}{u u' ud v7:Value}{W w5 w7:World}{ob:Obj}{al at1:OAd}{cl ct:Nat}(hB:B≤w0.heap.size)(L:BL g h w0 db mb ca cb p0 ps ts u ud W)(hm:ts.length<ps.length)
  (hz:ZW w0 db mb ca cb ud ((drP g h ps[ts.length]).nxt.foldl addZ ps) u' w5) (hr:RF mb db u.ownBlock W w5) (hf:u'.ownBlock=u.ownBlock∨∀j,u'.ownBlock=some j→W.heap.size≤j) (hl:LQ w5 (PD B W w5 u') (drP g h ps[ts.length]).labs al) (hn:NQ w5 (PD B W w5 u') (nums ps (drP g h ps[ts.length]).nxt) at1)
  (hgr:(w5.alloc ob).grownBy w7 ud.ownBlock) (hO:w7.ownsRow w0.heap.size 58 6 v7 (ts.length+1) (dCs ts++dC ⟨⟨(drP g h ps[ts.length]).kind,(drP g h ps[ts.length]).so,(drP g h ps[ts.length]).labs,nums ps (drP g h ps[ts.length]).nxt⟩,al,cl,at1,ct,(drP g h ps[ts.length]).spare,.slice none 0 0⟩)) (hat:v7.ownBlock=ud.ownBlock∨v7.ownBlock=some (w5.alloc ob).heap.size) :
  BL g h w0 db mb ca cb p0 ((drP g h ps[ts.length]).nxt.foldl addZ ps) (ts++[⟨⟨(drP g h ps[ts.length]).kind,(drP g h ps[ts.length]).so,(drP g h ps[ts.length]).labs,nums ps (drP g h ps[ts.length]).nxt⟩,al,cl,at1,ct,(drP g h ps[ts.length]).spare,.slice none 0 0⟩]) u' v7 (w7.setCell ⟨db,4,none⟩ v7):=by
 have hsz:(w5.alloc ob).heap.size=w5.heap.size+1:=by simp
 have hs5:=hr.size;have hs7:=hgr.size;have hudl:∀j,ud.ownBlock=some j→w0.heap.size≤j∧j<W.heap.size:=fun j hj=>L.own.lt j hj
 have hul:∀j,u'.ownBlock=some j→j<w5.heap.size:=fun j hj=>(hz.own.lt j hj).2
 have huu:∀j,ud.ownBlock=some j→u'.ownBlock≠some j:=fun j hj e=>by
  rcases hf with q|q
  ·exact (L.ne j hj).2.2 (q ▸ e)
  ·have:=q j e;have:=(hudl j hj).2;omega
 have hk:∀b,b<w5.heap.size→some b≠ud.ownBlock→w7.heap[b]? = w5.heap[b]?:=fun b hb hne=>(hgr.block b (by omega) hne).trans (heap_alloc_old w5 ob hb)
 have hset:∀b,b≠db→(w7.setCell ⟨db,4,none⟩ v7).heap[b]? = w7.heap[b]?:=fun b hb=>Below.heap_setCell _ _ _ b hb
 have hB4:=(Below.refl db w7).setCell (p:=⟨db,4,none⟩) (Nat.le_refl _) v7;have hdn:some db≠ud.ownBlock:=fun e=>(L.ne db e.symm).1 rfl
 have hmn:some mb≠ud.ownBlock:=fun e=>(L.ne mb e.symm).2.1 rfl
 have hdk:=hk db hz.ls hdn;have hv7:∀j,v7.ownBlock=some j→(ud.ownBlock=some j∨j=w5.heap.size+1):=fun j hj=>by
  rcases hat with q|q
  ·exact .inl (q ▸ hj)
  ·rw [q]at hj;injection hj with hj;exact .inr (by omega)
 have oth:∀j,j≠4→(w7.setCell ⟨db,4,none⟩ v7).cell? ⟨db,j,none⟩=w5.cell? ⟨db,j,none⟩:=fun j hj=>(World.cell?_setCell_other _ _ _ _ (by intro e;injection e with _ e;exact hj e.symm)).trans (World.cell?_of_block (a:=⟨db,j,none⟩) hdk)
 have hblk:∀b,b<w5.heap.size→b≠db→some b≠ud.ownBlock→(w7.setCell ⟨db,4,none⟩ v7).heap[b]? = w5.heap[b]?:=fun b hb h1 h2=>(hset b h1).trans (hk b hb h2)
 obtain ⟨e,he⟩:=foldZ_pre (drP g h ps[ts.length]).nxt ps;have hlen:(ts++[(⟨⟨(drP g h ps[ts.length]).kind,(drP g h ps[ts.length]).so,(drP g h ps[ts.length]).labs,nums ps (drP g h ps[ts.length]).nxt⟩,al,cl,at1,ct,(drP g h ps[ts.length]).spare,.slice none 0 0⟩:Dk)]).length=ts.length+1:=by simp
 have htk:((drP g h ps[ts.length]).nxt.foldl addZ ps).take (ts.length+1)=ps.take ts.length++[ps[ts.length]]:=by rw [he,List.take_append_of_le_length (by omega),take_one hm]
 have hPF:∀b,PF db mb u ud W b→PF db mb u' v7 (w7.setCell ⟨db,4,none⟩ v7) b∧∀o,(w7.setCell ⟨db,4,none⟩ v7).cell? ⟨b,o,none⟩=W.cell? ⟨b,o,none⟩:=fun b ⟨q1,q2,q3,q4,q5⟩=>by
  refine ⟨⟨by have:=hB4.size;omega,q2,q3,fun e=>?_,fun e=>?_⟩,fun o=>?_⟩
  ·rcases hf with q|q
   ·exact q4 (q ▸ e)
   ·have:=q b e;omega
  ·rcases hv7 b e with q|q
   ·exact q5 q
   ·omega
  ·refine (World.cell?_of_block (a:=⟨b,o,none⟩) (hblk b (by omega) q2 (fun e=>q5 e.symm))).trans (World.cell?_of_block (a:=⟨b,o,none⟩) (hr.block b q1 q3 q2 (fun e=>q4 e.symm)))
 have hPD:∀b,PD B W w5 u' b→PF db mb u' v7 (w7.setCell ⟨db,4,none⟩ v7) b∧∀o,(w7.setCell ⟨db,4,none⟩ v7).cell? ⟨b,o,none⟩=w5.cell? ⟨b,o,none⟩:=fun b ⟨q1,q2,q3⟩=>by
  have hd:=L.z.ls;have hmb:=L.z.mp.lt;have h1:=L.z.hs;have h2:=L.z.hm;have hbd:b≠db:=by omega
  have hbm:b≠mb:=by omega
  have hbu:ud.ownBlock≠some b:=fun e=>by have:=hudl b e;omega
  refine ⟨⟨by have:=hB4.size;omega,hbd,hbm,q3,fun e=>?_⟩,fun o=>World.cell?_of_block (a:=⟨b,o,none⟩) (hblk b q1 hbd (fun e=>hbu e.symm))⟩
  rcases hv7 b e with q|q
  ·exact hbu q
  ·omega
 refine ⟨⟨(oth 0 (by decide)).trans hz.c0,(oth 1 (by decide)).trans hz.c1,(oth 2 (by decide)).trans hz.c2,(oth 3 (by decide)).trans hz.c3,World.cell?_setCell_same _ _ _ ((World.cell?_of_block (a:=⟨db,4,none⟩) hdk).trans hz.c4),(World.frozen?_setCell _ _ _ _).trans ((World.frozen?_of_block (a:=⟨db,3,none⟩) hdk).trans hz.f3),(World.frozen?_setCell _ _ _ _).trans ((World.frozen?_of_block (a:=⟨db,4,none⟩) hdk).trans hz.f4),hz.mp.blk (hblk mb hz.mp.lt (fun e=>hz.ns e.symm) hmn),?_,hz.ns,hz.hs,hz.hm,hz.us,hz.um,by have:=hz.ls;have:=hB4.size;omega,?_⟩,by rw [hlen];exact L.di.step hg hh hm,?_,fun j hj=>?_,fun q hq=>?_,?_,?_,fun q hq=>?_⟩
 ·refine ⟨hz.own.1,hz.own.2.imp id fun ⟨gg,c,cur,e1,hb',hc,r⟩=>⟨gg,c,cur,e1,hb',?_,r⟩⟩
  have hgl:=(Array.getElem?_eq_some_iff.1 hc).1;rw [hblk gg hgl (fun q=>hz.us (by rw [e1,← q];rfl)) (fun q=>huu gg q.symm (by rw [e1];rfl))]
  exact hc
 ·refine hz.bl.trans ⟨hB4.os.trans hgr.os,hB4.tape.trans hgr.tape,hB4.output.trans hgr.output,by have:=hB4.size;omega,fun b hb=>hblk b (by have:=hz.bl.size;omega) (by have:=hz.hs;omega) (fun q=>by have:=hudl b q.symm;omega)⟩
 ·rw [hlen,dCs_snoc]
  refine ⟨hO.1,hO.2.imp id fun ⟨gg,c,cur,e1,hb',hc,r⟩=>⟨gg,c,cur,e1,hb',?_,r⟩⟩
  rw [hset gg (fun q=>?_)]
  ·exact hc
  ·rcases hv7 gg (by rw [e1];rfl) with q'|q'
   ·exact (L.ne gg q').1 q
   ·have:=hz.ls;omega
 ·rcases hv7 j hj with q|q
  ·exact ⟨(L.ne j q).1,(L.ne j q).2.1,huu j q⟩
  ·have:=hz.ls
   have:=hz.mp.lt;exact ⟨by omega,by omega,fun e=>by have:=hul j e;omega⟩
 ·rcases List.mem_append.1 hq with hq|hq
  ·exact ⟨(L.ok q hq).1.keep (fun b o hb=>(hPF b hb).2 o) fun b hb=>(hPF b hb).1,(L.ok q hq).2.keep (fun b o hb=>(hPF b hb).2 o) fun b hb=>(hPF b hb).1⟩
  ·rw [List.mem_singleton]at hq
   subst hq;exact ⟨hl.keep (fun b o hb=>(hPD b hb).2 o) fun b hb=>(hPD b hb).1,hn.keep (fun b o hb=>(hPD b hb).2 o) fun b hb=>(hPD b hb).1⟩
 ·rw [hlen,htk,List.map_append,List.map_append,L.nd]
  congr 1
  ·refine List.map_congr_left fun p hp=>?_
   rw [he,ndZ_pre];obtain ⟨i,hi,rfl⟩:=List.mem_iff_getElem.1 hp;have hi':i<ts.length:=by simp at hi;omega
   rw [List.getElem_take];exact L.di.sh i (by omega) hi'
  ·simp only [List.map_cons,List.map_nil,ndZ,tosZ,nums_eq]
 ·rw [hlen,htk,List.map_append,List.map_append,L.sp]
  rfl
 ·rcases List.mem_append.1 hq with hq|hq
  ·exact L.nb q hq
  ·rw [List.mem_singleton]at hq;subst hq;rfl
structure GS(w:World)(db gd cap:Nat)(ts:List Dk)(sp:List Int)(nb:Nat→Value)(nl:Nat→List Nat)(gv:Value)(gone:List Nat)(W:World):Prop where
 c4:W.cell? ⟨db,4,none⟩=some (.slice (some ⟨gd,0,none⟩) ts.length cap)
 row:∀k (h:k<ts.length) j y,j<4→(dC ts[k])[j]? = some y→W.cell? ⟨gd,k*6+j,none⟩=some y
 r4:∀k,k<ts.length→W.cell? ⟨gd,k*6+4,none⟩=some (.int .i64 (sp.getD k 0))
 r5:∀k,k<ts.length→W.cell? ⟨gd,k*6+5,none⟩=some (nb k)
 fz:∀j,W.frozen? ⟨gd,j,none⟩=false
 no:∀k,k<ts.length→W.ownsRow w.heap.size 3 1 (nb k) (nl k).length (iC (nl k))
 nd:∀k x,k<ts.length→x<ts.length→k≠x→∀j,(nb k).ownBlock=some j→(nb x).ownBlock≠some j
 gow:W.ownsRow w.heap.size 3 1 gv gone.length (iC gone)
 gn:∀k,k<ts.length→∀j,gv.ownBlock=some j→(nb k).ownBlock≠some j
 fr:∀b,b<w.heap.size→b≠gd→W.heap[b]? = w.heap[b]?
 gl:gd<w.heap.size
 dn:db≠gd
 dl:db<w.heap.size
 sz:w.heap.size≤W.heap.size
 os_:W.os=w.os
 tp_:W.tape=w.tape
 ot_:W.output=w.output
theorem own_other{w W:World}{base:Nat}{e:TypeId}{size:Nat}{v:Value}{n:Nat}{xs:List Value}(h:w.ownsRow base e size v n xs)(hb:∀b,v.ownBlock=some b→b<w.heap.size→W.heap[b]? = w.heap[b]?):W.ownsRow base e size v n xs:=by
 refine ⟨h.1,h.2.imp id fun ⟨g,c,cur,e1,hb',hc,r⟩=>⟨g,c,cur,e1,hb',?_,r⟩⟩
 rw [hb g (by rw [e1];rfl) (Array.getElem?_eq_some_iff.1 hc).1]
 exact hc
theorem GS.kept{w:World}{db gd cap:Nat}{ts:List Dk}{sp:List Int}{nb:Nat→Value}{nl:Nat→List Nat}{gv:Value}{gone:List Nat}{W W':World}(G:GS w db gd cap ts sp nb nl gv gone W)(hb:Below W.heap.size W W'):GS w db gd cap ts sp nb nl gv gone W':=by
 have hg:gd<W.heap.size:=Nat.lt_of_lt_of_le G.gl G.sz;have hd:db<W.heap.size:=Nat.lt_of_lt_of_le G.dl G.sz;exact ⟨(hb.cell (p:=⟨db,4,none⟩) hd).trans G.c4,fun k h j y hj hy=>(hb.cell (p:=⟨gd,k*6+j,none⟩) hg).trans (G.row k h j y hj hy),fun k h=>(hb.cell (p:=⟨gd,k*6+4,none⟩) hg).trans (G.r4 k h),fun k h=>(hb.cell (p:=⟨gd,k*6+5,none⟩) hg).trans (G.r5 k h),fun j=>(hb.frozen (p:=⟨gd,j,none⟩) hg).trans (G.fz j),fun k h=>own_belowG (G.no k h) hb,G.nd,own_belowG G.gow hb,G.gn,fun b h1 h2=>(hb.block b (Nat.lt_of_lt_of_le h1 G.sz)).trans (G.fr b h1 h2),G.gl,G.dn,G.dl,Nat.le_trans G.sz hb.size,hb.os.trans G.os_,hb.tape.trans G.tp_,hb.output.trans G.ot_⟩
def upN{α : Type}(f:Nat→α)(x:Nat)(v : α)(y:Nat): α:=if y=x then v else f y
theorem upN_same{α : Type}(f:Nat→α)(x:Nat)(v : α):upN f x v x=v:=if_pos rfl
theorem upN_other{α : Type}(f:Nat→α){x y:Nat}(v : α)(h:y≠x):upN f x v y=f y:=if_neg h
theorem GS.addN{w:World}{db gd cap:Nat}{ts:List Dk}{sp:List Int}{nb:Nat→Value}{nl:Nat→List Nat}{gv:Value}{gone:List Nat}{V w7:World}{ob:Obj}{v7:Value}{x k:Nat}(G:GS w db gd cap ts sp nb nl gv gone V)(hx:x<ts.length)
  (hg:(V.alloc ob).grownBy w7 (nb x).ownBlock) (hO:w7.ownsRow w.heap.size 3 1 v7 ((nl x).length+1) (iC (nl x)++[.int .i64 (k:Int)])) (hat:v7.ownBlock=(nb x).ownBlock∨v7.ownBlock=some (V.alloc ob).heap.size) :
  GS w db gd cap ts sp (upN nb x v7) (upN nl x (nl x++[k])) gv gone (w7.setCell ⟨gd,x*6+5,none⟩ v7):=by
 have hsz:(V.alloc ob).heap.size=V.heap.size+1:=by simp
 have hs7:=hg.size;have hgV:gd<V.heap.size:=Nat.lt_of_lt_of_le G.gl G.sz;have hdV:db<V.heap.size:=Nat.lt_of_lt_of_le G.dl G.sz;have hlow:∀b,b<w.heap.size→some b≠(nb x).ownBlock:=fun b hb e=>by have:=((G.no x hx).lt b e.symm).1;omega
 have hk:∀b,b<V.heap.size→some b≠(nb x).ownBlock→w7.heap[b]? = V.heap[b]?:=fun b hb hn=>(hg.block b (by omega) hn).trans (heap_alloc_old V ob hb)
 have hset:∀b,b≠gd→(w7.setCell ⟨gd,x*6+5,none⟩ v7).heap[b]? = w7.heap[b]?:=fun b hb=>Below.heap_setCell _ _ _ b hb
 have hB:=(Below.refl gd w7).setCell (p:=⟨gd,x*6+5,none⟩) (Nat.le_refl _) v7;have hgk:=hk gd hgV (hlow gd G.gl);have hc:∀o,o≠x*6+5→(w7.setCell ⟨gd,x*6+5,none⟩ v7).cell? ⟨gd,o,none⟩=V.cell? ⟨gd,o,none⟩:=fun o ho=>(World.cell?_setCell_other _ _ _ _ (by intro e;injection e with _ e;exact ho e.symm)).trans (World.cell?_of_block (a:=⟨gd,o,none⟩) hgk)
 have hv7:∀j,v7.ownBlock=some j→(nb x).ownBlock=some j∨j=V.heap.size+1:=fun j hj=>by
  rcases hat with q|q
  ·exact .inl (q ▸ hj)
  ·rw [q]at hj;injection hj with hj;exact .inr (by omega)
 have old:∀y,y<ts.length→∀j,(nb y).ownBlock=some j→j<V.heap.size:=fun y hy j hj=>((G.no y hy).lt j hj).2
 have keep:∀(v:Value) (n:Nat) (xs:List Value),V.ownsRow w.heap.size 3 1 v n xs→(∀j,v.ownBlock=some j→(nb x).ownBlock≠some j)→(w7.setCell ⟨gd,x*6+5,none⟩ v7).ownsRow w.heap.size 3 1 v n xs:=fun v n xs ho hne=>own_other ho fun b hb hl=>by
  rw [hset b (by have:=(ho.lt b hb).1;have:=G.gl;omega),hk b hl (fun e=>hne b hb e.symm)]
 refine ⟨?_,fun y hy j z hj hz=>(hc _ (by omega)).trans (G.row y hy j z hj hz),fun y hy=>(hc _ (by omega)).trans (G.r4 y hy),fun y hy=>?_,fun j=>(World.frozen?_setCell _ _ _ _).trans ((World.frozen?_of_block (a:=⟨gd,j,none⟩) hgk).trans (G.fz j)),fun y hy=>?_,fun y z hy hz hne j hj e=>?_,keep _ _ _ G.gow (fun j hj=>G.gn x hx j hj),fun y hy j hj e=>?_,fun b h1 h2=>?_,G.gl,G.dn,G.dl,by have:=hB.size;have:=G.sz;omega,hB.os.trans (hg.os.trans G.os_),hB.tape.trans (hg.tape.trans G.tp_),hB.output.trans (hg.output.trans G.ot_)⟩
 ·rw [World.cell?_setCell_other _ _ _ _ (by intro e;injection e with e;exact G.dn e.symm)]
  exact (World.cell?_of_block (a:=⟨db,4,none⟩) (hk db hdV (hlow db G.dl))).trans G.c4
 ·by_cases hyx:y=x
  ·subst hyx
   rw [upN_same];exact World.cell?_setCell_same _ _ _ ((World.cell?_of_block (a:=⟨gd,y*6+5,none⟩) hgk).trans (G.r5 y hy))
  ·rw [upN_other _ _ hyx,hc _ (by omega)]
   exact G.r5 y hy
 ·by_cases hyx:y=x
  ·subst hyx
   rw [upN_same,upN_same,List.length_append,show iC (nl y++[k])=iC (nl y)++[.int .i64 (k:Int)] from by simp [iC]]
   exact own_other hO fun b hb _=>hset b (by have:=(hO.lt b hb).1;have:=G.gl;omega)
  ·rw [upN_other _ _ hyx,upN_other _ _ hyx]
   exact keep _ _ _ (G.no y hy) (fun j hj=>G.nd y x hy hx hyx j hj)
 ·by_cases hyx:y=x
  ·subst hyx
   rw [upN_same]at hj;rw [upN_other _ _ (fun q=>hne q.symm)]at e
   rcases hv7 j hj with q|q
   ·exact G.nd y z hy hz hne j q e
   ·have:=old z hz j e;omega
  ·rw [upN_other _ _ hyx]at hj
   by_cases hzx:z=x
   ·subst hzx
    rw [upN_same]at e;rcases hv7 j e with q|q
    ·exact G.nd y z hy hz hne j hj q
    ·have:=old y hy j hj;omega
   ·rw [upN_other _ _ hzx]at e
    exact G.nd y z hy hz hne j hj e
 ·have hgl:=(G.gow.lt j hj).2
  by_cases hyx:y=x
  ·subst hyx
   rw [upN_same]at e;rcases hv7 j e with q|q
   ·exact G.gn y hy j hj q
   ·omega
  ·rw [upN_other _ _ hyx]at e
   exact G.gn y hy j hj e
 ·rw [hset b h2,hk b (Nat.lt_of_lt_of_le h1 G.sz) (hlow b h1)]
  exact G.fr b h1 h2
theorem GS.addG{w:World}{db gd cap:Nat}{ts:List Dk}{sp:List Int}{nb:Nat→Value}{nl:Nat→List Nat}{gv:Value}{gone:List Nat}{V w7:World}{ob:Obj}{v7:Value}{k:Nat}(G:GS w db gd cap ts sp nb nl gv gone V)
  (hg:(V.alloc ob).grownBy w7 gv.ownBlock) (hO:w7.ownsRow w.heap.size 3 1 v7 (gone.length+1) (iC gone++[.int .i64 (k:Int)])) (hat:v7.ownBlock=gv.ownBlock∨v7.ownBlock=some (V.alloc ob).heap.size) :
  GS w db gd cap ts sp nb nl v7 (gone++[k]) w7:=by
 have hsz:(V.alloc ob).heap.size=V.heap.size+1:=by simp
 have hs7:=hg.size;have hgV:gd<V.heap.size:=Nat.lt_of_lt_of_le G.gl G.sz;have hdV:db<V.heap.size:=Nat.lt_of_lt_of_le G.dl G.sz;have hlow:∀b,b<w.heap.size→some b≠gv.ownBlock:=fun b hb e=>by have:=(G.gow.lt b e.symm).1;omega
 have hk:∀b,b<V.heap.size→some b≠gv.ownBlock→w7.heap[b]? = V.heap[b]?:=fun b hb hn=>(hg.block b (by omega) hn).trans (heap_alloc_old V ob hb)
 have hgk:=hk gd hgV (hlow gd G.gl);have hc:∀o,w7.cell? ⟨gd,o,none⟩=V.cell? ⟨gd,o,none⟩:=fun o=>World.cell?_of_block (a:=⟨gd,o,none⟩) hgk
 refine ⟨(World.cell?_of_block (a:=⟨db,4,none⟩) (hk db hdV (hlow db G.dl))).trans G.c4,fun y hy j z hj hz=>(hc _).trans (G.row y hy j z hj hz),fun y hy=>(hc _).trans (G.r4 y hy),fun y hy=>(hc _).trans (G.r5 y hy),fun j=>(World.frozen?_of_block (a:=⟨gd,j,none⟩) hgk).trans (G.fz j),fun y hy=>own_other (G.no y hy) fun b hb hl=>hk b hl (fun e=>G.gn y hy b e.symm hb),G.nd,?_,fun y hy j hj e=>?_,fun b h1 h2=>(hk b (Nat.lt_of_lt_of_le h1 G.sz) (hlow b h1)).trans (G.fr b h1 h2),G.gl,G.dn,G.dl,by have:=G.sz;omega,hg.os.trans G.os_,hg.tape.trans G.tp_,hg.output.trans G.ot_⟩
 ·rw [List.length_append,show iC (gone++[k])=iC gone++[.int .i64 (k:Int)] from by simp [iC]]
  exact hO
 ·rcases hat with q|q
  ·exact G.gn y hy j (q ▸ hj) e
  ·rw [q]at hj;injection hj with hj;have:=((G.no y hy).lt j e).2;omega
theorem GS.cut{w:World}{db gd cap:Nat}{ts:List Dk}{sp:List Int}{nb:Nat→Value}{nl:Nat→List Nat}{a:OAd}{c x:Nat}{gone:List Nat}{W:World}(G:GS w db gd cap ts sp nb nl (.slice a (gone++[x]).length c) (gone++[x]) W):(∃gg,a=some ⟨gg,0,none⟩)∧GS w db gd cap ts sp nb nl (.slice a gone.length c) gone W:=by
 have ho:=G.gow;rcases ho.2 with ⟨q,_⟩|⟨gg,cc,cur,e1,hb',hc,h1,h2,h3,h4⟩
 ·injection q with q1 q2;simp at q2
 ·injection e1 with e1 e2 e3
  subst e1;subst e3;refine ⟨⟨gg,rfl⟩,⟨G.c4,G.row,G.r4,G.r5,G.fz,G.no,G.nd,⟨by simp [iC],.inr ⟨gg,c,cur,rfl,hb',hc,?_,h2,h3,?_⟩⟩,G.gn,G.fr,G.gl,G.dn,G.dl,G.sz,G.os_,G.tp_,G.ot_⟩⟩
  ·rw [List.length_append]at h1;omega
  ·have:=congrArg (List.take (gone.length*1)) h4
   rw [List.take_take,List.length_append,Nat.min_eq_left (by omega)]at this
   rw [this];unfold iC;rw [List.map_append,List.take_left' (by simp)]
theorem GS.setS{w:World}{db gd cap:Nat}{ts:List Dk}{sp:List Int}{nb:Nat→Value}{nl:Nat→List Nat}{gv:Value}{gone:List Nat}{W:World}{k:Nat}(G:GS w db gd cap ts sp nb nl gv gone W)(hk:k<ts.length)(hl:sp.length=ts.length)(z:Int):GS w db gd cap ts (sp.set k z) nb nl gv gone (W.setCell ⟨gd,k*6+4,none⟩ (.int .i64 z)):=by
 have hset:∀b,b≠gd→(W.setCell ⟨gd,k*6+4,none⟩ (.int .i64 z)).heap[b]? = W.heap[b]?:=fun b hb=>Below.heap_setCell _ _ _ b hb
 have hB:=(Below.refl gd W).setCell (p:=⟨gd,k*6+4,none⟩) (Nat.le_refl _) (.int .i64 z);have hc:∀o,o≠k*6+4→(W.setCell ⟨gd,k*6+4,none⟩ (.int .i64 z)).cell? ⟨gd,o,none⟩=W.cell? ⟨gd,o,none⟩:=fun o ho=>World.cell?_setCell_other _ _ _ _ (by intro e;injection e with _ e;exact ho e.symm)
 refine ⟨(World.cell?_setCell_other _ _ _ _ (by intro e;injection e with e;exact G.dn e.symm)).trans G.c4,fun y hy j z hj hz=>(hc _ (by omega)).trans (G.row y hy j z hj hz),fun y hy=>?_,fun y hy=>(hc _ (by omega)).trans (G.r5 y hy),fun j=>(World.frozen?_setCell _ _ _ _).trans (G.fz j),fun y hy=>own_other (G.no y hy) fun b hb _=>hset b (by have:=((G.no y hy).lt b hb).1;have:=G.gl;omega),G.nd,own_other G.gow fun b hb _=>hset b (by have:=(G.gow.lt b hb).1;have:=G.gl;omega),G.gn,fun b h1 h2=>(hset b h2).trans (G.fr b h1 h2),G.gl,G.dn,G.dl,Nat.le_trans G.sz hB.size,hB.os.trans G.os_,hB.tape.trans G.tp_,hB.output.trans G.ot_⟩
 rw [getD_set _ _ _ _ (by omega)]
 by_cases h:y=k
 ·subst h
  rw [if_pos rfl];exact World.cell?_setCell_same _ _ _ (G.r4 y hy)
 ·rw [if_neg h,hc _ (by omega)]
  exact G.r4 y hy
end Go.Proofs.YtnedgkcejlhnbaaGreatDoor
