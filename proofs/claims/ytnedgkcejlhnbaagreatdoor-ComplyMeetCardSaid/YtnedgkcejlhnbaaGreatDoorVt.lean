/-
  The contract of comply.talk, for every two graphs that Check lets by.
-/
import Derived.Test.YtnedgkcejlhnbaaGreatDoorSz
import Derived.Test.YtnedgkcejlhnbaaGreatDoorVr
import Derived.Test.YtnedgkcejlhnbaaGreatDoorVj
set_option maxRecDepth 100000
set_option maxHeartbeats 16000000
namespace Go.Proofs.YtnedgkcejlhnbaaGreatDoor
open Go.RowKit Go.Shelf
def STK(sq mq:Nat)(u:Value)(W:World)(ss:List (Sg Pc))(a:OAd):Prop:=ss=[]∨∃b o,a=some ⟨b,o,none⟩∧b≠mq∧b≠sq∧b<W.heap.size∧u.ownBlock≠some b∧∀i (h:i<ss.length),W.cell? ⟨b,o+i*3,none⟩=some (.string ss[i].1)∧W.cell? ⟨b,o+i*3+1,none⟩=some (.int .i64 (ss[i].2.1:Int))∧W.cell? ⟨b,o+i*3+2,none⟩=some (.int .i64 (ss[i].2.2:Int))
theorem STK.keep{sq mq:Nat}{W W':World}{u u':Value}{ss:List (Sg Pc)}{a:OAd}(h:STK sq mq u W ss a)(hf:RF mq sq u.ownBlock W W')(hn:u'.ownBlock=u.ownBlock∨∀j,u'.ownBlock=some j→W.heap.size≤j):STK sq mq u' W' ss a :=
 h.imp id fun ⟨b,o,e,h1,h2,hl,hu,hc⟩=>⟨b,o,e,h1,h2,Nat.lt_of_lt_of_le hl hf.size,fun e=>by
   rcases hn with q|q
   ·exact hu (q ▸ e)
   ·have:=q b e;omega,fun i hi=>by
  have k:∀o,W'.cell? ⟨b,o,none⟩=W.cell? ⟨b,o,none⟩:=fun o=>hf.cell hl h1 h2 (fun e=>hu e.symm)
  rw [k,k,k];exact hc i hi⟩
theorem sm_okC{g h:List Nd}(hg:g.length≤200)(hh:h.length≤200){p:Pc}(hp:okC g h p):smC p:=⟨by have:=hp.1;omega,by have:=hp.2;omega⟩
def endN(g:List Nd)(arr:List (Ag Pc)):Nat→Option Nat
 | 0=>none
 | k+1=>match arr[k]? with
  | some v=>if (nodeAt g v.1.2.1).kind=1 then some k else endN g arr k
  | none=>endN g arr k
theorem endN_yes{g:List Nd}{arr:List (Ag Pc)}{k:Nat}{v:Ag Pc}(hv:arr[k]? = some v)(h:(nodeAt g v.1.2.1).kind=1):endN g arr (k+1)=some k:=by
 unfold endN;rw [hv];simp only;rw [if_pos h]
theorem endN_no{g:List Nd}{arr:List (Ag Pc)}{k:Nat}{v:Ag Pc}(hv:arr[k]? = some v)(h:¬(nodeAt g v.1.2.1).kind=1):endN g arr (k+1)=endN g arr k:=by
 conv=>lhs;unfold endN
 rw [hv];simp only;rw [if_neg h]
theorem endN_lt{g:List Nd}{arr:List (Ag Pc)}:∀ {k j:Nat},endN g arr k=some j→j<k
 | 0,_,h=>by cases h
 | k+1,j,h=>by
  unfold endN at h;split at h
  ·split at h
   ·injection h with h;omega
   ·have:=endN_lt h;omega
  ·have:=endN_lt h;omega
theorem endN_ext{g:List Nd}{arr arr':List (Ag Pc)}(he:∀(i:Nat) (v:Ag Pc),arr[i]? = some v→arr'[i]? = some v):∀k,k≤arr.length→endN g arr' k=endN g arr k
 | 0,_=>rfl
 | k+1,hk=>by
  have hv:arr[k]? = some arr[k]:=List.getElem?_eq_getElem (by omega)
  have ih:=endN_ext (g:=g) he k (by omega)
  by_cases h:(nodeAt g arr[k].1.2.1).kind=1
  ·rw [endN_yes hv h,endN_yes (he k _ hv) h]
  ·rw [endN_no hv h,endN_no (he k _ hv) h,ih]
theorem wayG_ext{arr arr':List (Ag Pc)}(hw:∀(i:Nat) (v:Ag Pc),arr[i]? = some v→0<i→v.2<i)(he:∀(i:Nat) (v:Ag Pc),arr[i]? = some v→arr'[i]? = some v):∀f k,k<arr.length→wayG arr' f k=wayG arr f k
 | 0,_,_=>rfl
 | f+1,k,hk=>by
  by_cases h0:k=0
  ·subst h0;simp [wayG]
  ·have hv:arr[k]? = some arr[k]:=List.getElem?_eq_getElem hk
   have h1:=hw k arr[k] hv (by omega)
   rw [wayG_step h0 hv,wayG_step h0 (he k _ hv),wayG_ext hw he f _ (by omega)]
def enW(g:List Nd)(arr:List (Ag Pc))(k:Nat):Bool × Nat:=match endN g arr k with
 | some j=>(true,(wayGA arr j).length)
 | none=>(false,0)
theorem enW_ext{g:List Nd}{arr arr':List (Ag Pc)}(hw:∀(i:Nat) (v:Ag Pc),arr[i]? = some v→0<i→v.2<i)(he:∀(i:Nat) (v:Ag Pc),arr[i]? = some v→arr'[i]? = some v){k:Nat}(hk:k≤arr.length):enW g arr' k=enW g arr k:=by
 unfold enW;rw [endN_ext he k hk];cases hq:endN g arr k with
 | none=>rfl
 | some j =>
  have:=endN_lt hq;simp only;unfold wayGA;rw [wayG_ext hw he j j (by omega)]
theorem enW_yes{g:List Nd}{arr:List (Ag Pc)}{k:Nat}{v:Ag Pc}(hv:arr[k]? = some v)(h:(nodeAt g v.1.2.1).kind=1):enW g arr (k+1)=(true,(wayGA arr k).length):=by
 unfold enW;rw [endN_yes hv h]
theorem enW_no{g:List Nd}{arr:List (Ag Pc)}{k:Nat}{v:Ag Pc}(hv:arr[k]? = some v)(h:¬(nodeAt g v.1.2.1).kind=1):enW g arr (k+1)=enW g arr k:=by
 unfold enW;rw [endN_no hv h]
theorem SVC.weak{w wb:World}{sb mb:Nat}{ps:List Pc}{arr:List (Ag Pc)}{u:Value}{W:World}(h:SVC wb sb mb ps arr u W)(hw:Below w.heap.size w wb):SVC w sb mb ps arr u W :=
 ⟨h.c0,h.c1,h.f1,h.mp,⟨h.own.1,h.own.2.imp id fun ⟨g,c,cur,e,hb,r⟩=>⟨g,c,cur,e,Nat.le_trans hw.size hb,r⟩⟩,h.ns,Nat.le_trans hw.size h.hs,Nat.le_trans hw.size h.hm,h.us,h.um,h.ls,hw.trans (h.bl.mono hw.size)⟩
theorem SVC.set_{w:World}{sb mb:Nat}{ps:List Pc}{arr:List (Ag Pc)}{u:Value}{W:World}(h:SVC w sb mb ps arr u W){b:Nat}(hb:w.heap.size≤b)(h1:b≠sb)(h2:b≠mb)(h3:u.ownBlock≠some b)(o:Nat)(v:Value):SVC w sb mb ps arr u (W.setCell ⟨b,o,none⟩ v):=by
 have hk:∀x,x≠b→(W.setCell ⟨b,o,none⟩ v).heap[x]? = W.heap[x]?:=fun x hx=>Below.heap_setCell _ _ _ x (fun e=>hx e)
 refine ⟨(World.cell?_of_block (a:=⟨sb,0,none⟩) (hk sb (fun e=>h1 e.symm))).trans h.c0,(World.cell?_of_block (a:=⟨sb,1,none⟩) (hk sb (fun e=>h1 e.symm))).trans h.c1,(World.frozen?_of_block (a:=⟨sb,1,none⟩) (hk sb (fun e=>h1 e.symm))).trans h.f1,h.mp.blk (hk mb (fun e=>h2 e.symm)),?_,h.ns,h.hs,h.hm,h.us,h.um,by simp;exact h.ls,?_⟩
 ·refine ⟨h.own.1,h.own.2.imp id fun ⟨g,c,cur,e1,q1,hc,r⟩=>⟨g,c,cur,e1,q1,?_,r⟩⟩
  rw [hk g (fun e=>h3 (by rw [e1,← e];rfl))]
  exact hc
 ·exact ⟨h.bl.os,h.bl.tape,h.bl.output,by simpa using h.bl.size,fun x hx=>(hk x (by omega)).trans (h.bl.block x hx)⟩
structure OB3(W:World)(b:Nat)(v0 v1 v2:Value):Prop where
 c0:W.cell? ⟨b,0,none⟩=some v0
 c1:W.cell? ⟨b,1,none⟩=some v1
 c2:W.cell? ⟨b,2,none⟩=some v2
 f0:W.frozen? ⟨b,0,none⟩=false
 f1:W.frozen? ⟨b,1,none⟩=false
 f2:W.frozen? ⟨b,2,none⟩=false
theorem OB3.keepC{W W':World}{b:Nat}{v0 v1 v2:Value}(h:OB3 W b v0 v1 v2)(hb:W'.heap[b]? = W.heap[b]?):OB3 W' b v0 v1 v2 :=
 ⟨(World.cell?_of_block (a:=⟨b,0,none⟩) hb).trans h.c0,(World.cell?_of_block (a:=⟨b,1,none⟩) hb).trans h.c1,(World.cell?_of_block (a:=⟨b,2,none⟩) hb).trans h.c2,(World.frozen?_of_block (a:=⟨b,0,none⟩) hb).trans h.f0,(World.frozen?_of_block (a:=⟨b,1,none⟩) hb).trans h.f1,(World.frozen?_of_block (a:=⟨b,2,none⟩) hb).trans h.f2⟩
def st3(W:World)(b:Nat)(v0 v1 v2:Value):World:=((W.setCell ⟨b,0,none⟩ v0).setCell ⟨b,1,none⟩ v1).setCell ⟨b,2,none⟩ v2
theorem OB3.st{W:World}{b:Nat}{v0 v1 v2:Value}(h:OB3 W b v0 v1 v2)(x0 x1 x2:Value):OB3 (st3 W b x0 x1 x2) b x0 x1 x2:=by
 unfold st3;have n01:(⟨b,0,none⟩:Addr)≠⟨b,1,none⟩:=by intro e;injection e with _ e;cases e
 have n02:(⟨b,0,none⟩:Addr)≠⟨b,2,none⟩:=by intro e;injection e with _ e;cases e
 have n12:(⟨b,1,none⟩:Addr)≠⟨b,2,none⟩:=by intro e;injection e with _ e;cases e
 refine ⟨?_,?_,?_,?_,?_,?_⟩
 ·rw [World.cell?_setCell_other _ _ _ _ n02.symm,World.cell?_setCell_other _ _ _ _ n01.symm];exact World.cell?_setCell_same _ _ _ h.c0
 ·rw [World.cell?_setCell_other _ _ _ _ n12.symm];exact World.cell?_setCell_same _ _ _ ((World.cell?_setCell_other _ _ _ _ n01).trans h.c1)
 ·exact World.cell?_setCell_same _ _ _ ((World.cell?_setCell_other _ _ _ _ n12).trans ((World.cell?_setCell_other _ _ _ _ n02).trans h.c2))
 ·rw [World.frozen?_setCell,World.frozen?_setCell,World.frozen?_setCell];exact h.f0
 ·rw [World.frozen?_setCell,World.frozen?_setCell,World.frozen?_setCell];exact h.f1
 ·rw [World.frozen?_setCell,World.frozen?_setCell,World.frozen?_setCell];exact h.f2
theorem st3_blk(W:World)(b:Nat)(v0 v1 v2:Value){x:Nat}(hx:x≠b):(st3 W b v0 v1 v2).heap[x]? = W.heap[x]?:=by
 unfold st3;rw [Below.heap_setCell _ _ _ x (fun e=>hx e),Below.heap_setCell _ _ _ x (fun e=>hx e),Below.heap_setCell _ _ _ x (fun e=>hx e)]
theorem st3_str{W:World}{r b o:Nat}{v0 v1:Bool}{a:OAd}{n c:Nat}{x0 x1 x2:Value}{s:ByteArray}{vs:Value}(h:OB3 W r (.bool v0) (.bool v1) (.slice a n c))(hc:W.cell? ⟨b,o,none⟩=some (.string s))(hv:vs = .string s:=by first|rfl|exact List.getElem_map _):(st3 W r x0 x1 x2).cell? ⟨b,o,none⟩=some vs:=by
 subst hv;by_cases hb:b=r
 ·subst hb
  have h0:o≠0:=fun q=>by subst q;rw [h.c0]at hc;cases hc
  have h1:o≠1:=fun q=>by subst q;rw [h.c1]at hc;cases hc
  have h2:o≠2:=fun q=>by subst q;rw [h.c2]at hc;cases hc
  unfold st3;rw [World.cell?_setCell_other _ _ _ _ (by intro e;injection e with _ e;exact h2 e.symm),World.cell?_setCell_other _ _ _ _ (by intro e;injection e with _ e;exact h1 e.symm),World.cell?_setCell_other _ _ _ _ (by intro e;injection e with _ e;exact h0 e.symm)]
  exact hc
 ·exact (World.cell?_of_block (a:=⟨b,o,none⟩) (st3_blk W r x0 x1 x2 hb)).trans hc
theorem st3_size(W:World)(b:Nat)(v0 v1 v2:Value):(st3 W b v0 v1 v2).heap.size=W.heap.size:=by unfold st3;simp
theorem st3_below{w W:World}{b:Nat}(h:Below w.heap.size w W)(hb:w.heap.size≤b)(v0 v1 v2:Value):Below w.heap.size w (st3 W b v0 v1 v2) :=
 ⟨h.os,h.tape,h.output,by rw [st3_size];exact h.size,fun x hx=>(st3_blk W b v0 v1 v2 (by omega)).trans (h.block x hx)⟩
theorem SVC.st3{w:World}{sb mb:Nat}{ps:List Pc}{arr:List (Ag Pc)}{u:Value}{W:World}(h:SVC w sb mb ps arr u W){b:Nat}(hb:w.heap.size≤b)(h1:b≠sb)(h2:b≠mb)(h3:u.ownBlock≠some b)(v0 v1 v2:Value):SVC w sb mb ps arr u (st3 W b v0 v1 v2) :=
 ((h.set_ hb h1 h2 h3 0 v0).set_ hb h1 h2 h3 1 v1).set_ hb h1 h2 h3 2 v2
structure RN2(wr V:World)(mb nb:Nat)(m n:Nd)(a1 a2 a3 a4:OAd)(c1 c2 c3 c4:Nat):Prop where
 x:NdAt V mb 0 m a1 c1 a2 c2
 y:NdAt V nb 0 n a3 c3 a4 c4
 lt:mb<V.heap.size∧nb<V.heap.size
 lo:wr.heap.size≤mb∧wr.heap.size≤nb
 bl:Below wr.heap.size wr V
theorem RN2.keep{wr V V':World}{mb nb:Nat}{m n:Nd}{a1 a2 a3 a4:OAd}{c1 c2 c3 c4:Nat}(h:RN2 wr V mb nb m n a1 a2 a3 a4 c1 c2 c3 c4)(hb:Below V.heap.size V V'):RN2 wr V' mb nb m n a1 a2 a3 a4 c1 c2 c3 c4 :=
 ⟨h.x.keep hb h.lt.1,h.y.keep hb h.lt.2,⟨Nat.lt_of_lt_of_le h.lt.1 hb.size,Nat.lt_of_lt_of_le h.lt.2 hb.size⟩,h.lo,h.bl.trans (hb.mono h.bl.size)⟩
theorem RN2.blk{wr V V':World}{mb nb:Nat}{m n:Nd}{a1 a2 a3 a4:OAd}{c1 c2 c3 c4:Nat}(h:RN2 wr V mb nb m n a1 a2 a3 a4 c1 c2 c3 c4)(h1:V'.heap[mb]? = V.heap[mb]?)(h2:V'.heap[nb]? = V.heap[nb]?):NdAt V' mb 0 m a1 c1 a2 c2∧NdAt V' nb 0 n a3 c3 a4 c4:=by
 obtain ⟨⟨x0,x1,x2,x3⟩,⟨y0,y1,y2,y3⟩,_⟩:=h;have k1:∀o,V'.cell? ⟨mb,o,none⟩=V.cell? ⟨mb,o,none⟩:=fun o=>World.cell?_of_block (a:=⟨mb,o,none⟩) h1
 have k2:∀o,V'.cell? ⟨nb,o,none⟩=V.cell? ⟨nb,o,none⟩:=fun o=>World.cell?_of_block (a:=⟨nb,o,none⟩) h2
 exact ⟨⟨(k1 _).trans x0,(k1 _).trans x1,(k1 _).trans x2,(k1 _).trans x3⟩,⟨(k2 _).trans y0,(k2 _).trans y1,(k2 _).trans y2,(k2 _).trans y3⟩⟩
theorem rn_one(wr:World)(m n:Nd)(a1 a2 a3 a4:OAd)(c1 c2 c3 c4:Nat):RN2 wr ((wr.alloc (.cells #[.int .i64 m.kind,.int .i64 m.so,.slice a1 m.labs.length c1,.slice a2 m.to.length c2] 56)).alloc (.cells #[.int .i64 n.kind,.int .i64 n.so,.slice a3 n.labs.length c3,.slice a4 n.to.length c4] 56)).drew wr.heap.size (wr.heap.size+1) m n a1 a2 a3 a4 c1 c2 c3 c4 :=
 ⟨⟨by go_cell,by go_cell,by go_cell,by go_cell⟩,⟨by go_cell,by go_cell,by go_cell,by go_cell⟩,⟨by simp;omega,by simp⟩,⟨Nat.le_refl _,by omega⟩,(((Below.refl _ _).alloc (Nat.le_refl _) _).alloc (by simp) _).drew⟩
theorem rn_two(wr:World)(m n:Nd)(a1 a2 a3 a4:OAd)(c1 c2 c3 c4:Nat):RN2 wr ((wr.alloc (.cells #[.int .i64 n.kind,.int .i64 n.so,.slice a3 n.labs.length c3,.slice a4 n.to.length c4] 56)).alloc (.cells #[.int .i64 m.kind,.int .i64 m.so,.slice a1 m.labs.length c1,.slice a2 m.to.length c2] 56)).drew (wr.heap.size+1) wr.heap.size m n a1 a2 a3 a4 c1 c2 c3 c4 :=
 ⟨⟨by go_cell,by go_cell,by go_cell,by go_cell⟩,⟨by go_cell,by go_cell,by go_cell,by go_cell⟩,⟨by simp,by simp;omega⟩,⟨by omega,Nat.le_refl _⟩,(((Below.refl _ _).alloc (Nat.le_refl _) _).alloc (by simp) _).drew⟩
def TKPost(g h:List Nd)(w:World)(e:Ending)(w':World):Prop :=
 ((∃k arr,srC g h=(some k,arr)∧∃aw cw,e = .returned (.agg #[.bool true,.bool false,.slice aw (wayGA arr k).length cw])∧LA w' w'.heap.size (wayGA arr k).reverse aw)∨(∃arr,srC g h=(none,arr)∧∃aw cw,e = .returned (.agg #[.bool false,.bool (enW g arr arr.length).1,.slice aw (enW g arr arr.length).2 cw])))∧Below w.heap.size w w'
theorem talk_any(g h:List Nd)(ag ah:OAd)(cg ch B:Nat)(w:World)(hg:GN g)(hh:GN h)(hga:GAt w B g ag)(hha:GAt w B h ah)(hB:B≤w.heap.size):
  Calls Tryz.prog 12 #[.slice ag g.length cg,.slice ah h.length ch] w (TKPost g h w):=by
 have hNb:g.length*h.length≤40000:=Nat.mul_le_mul hg.le hh.le;have hgl:=hg.le;have hhl:=hh.le;have hg0:=hg.pos;have hh0:=hh.pos;have HW:=hideK (comply_wld hg hh);have hwb:Below w.heap.size w ((w.alloc (.cells #[.bool false,.bool false,.slice none 0 0] 36)).alloc (.cells #[.bool false,.bool false,.slice none 0 0] 36)):=((Below.refl _ _).alloc (Nat.le_refl _) _).alloc (by simp) _
 have HWB:=hideK hwb;have HR0:=hideK (show OB3 ((w.alloc (.cells #[.bool false,.bool false,.slice none 0 0] 36)).alloc (.cells #[.bool false,.bool false,.slice none 0 0] 36)) w.heap.size (.bool false) (.bool false) (.slice none 0 0) from ⟨by go_cell,by go_cell,by go_cell,by go_simp,by go_simp,by go_simp⟩)
 have HO0:=hideK (show OB3 ((w.alloc (.cells #[.bool false,.bool false,.slice none 0 0] 36)).alloc (.cells #[.bool false,.bool false,.slice none 0 0] 36)) (w.heap.size+1) (.bool false) (.bool false) (.slice none 0 0) from ⟨by go_cell,by go_cell,by go_cell,by go_simp,by go_simp,by go_simp⟩)
 have hwz:((w.alloc (.cells #[.bool false,.bool false,.slice none 0 0] 36)).alloc (.cells #[.bool false,.bool false,.slice none 0 0] 36)).heap.size=w.heap.size+2:=by simp
 have HK0:=hideK (show okC g h (0,0) from ⟨hg0,hh0⟩)
 have cA:=fromC_any (0,0) ((w.alloc (.cells #[.bool false,.bool false,.slice none 0 0] 36)).alloc (.cells #[.bool false,.bool false,.slice none 0 0] 36)) (sm_okC hgl hhl HK0.out);have HG:=hideK hg;have HH:=hideK hh;have HGA:=hideK hga;have HHA:=hideK hha;obtain ⟨gb,go,rfl,hgB,hgc⟩:=hga.resolve_left (fun q=>by rw [q]at hg0;simp at hg0)
 obtain ⟨hb1,ho,rfl,hhB,hhc⟩:=hha.resolve_left (fun q=>by rw [q]at hh0;simp at hh0)
 have HGC:=hideK hgc;have HHC:=hideK hhc;unfold TKPost;simp only [pkC,Int.ofNat_zero]at cA;clear hga hha hgc hhc hg hh hwb;go_enter Tryz.func12,Tryz.ntmps12
 go_wp2_with fail
 generalize ((w.alloc (.cells #[.bool false,.bool false,.slice none 0 0] 36)).alloc (.cells #[.bool false,.bool false,.slice none 0 0] 36))=wb at *;refine cA.mono ?_;rintro e w1 ⟨sq,mq,u1,rfl,hS1⟩;have HS1:=hideK (hS1.weak HWB.out);have hsq:w.heap.size+2≤sq:=by have:=hS1.hs;omega
 have hmq:w.heap.size+2≤mq:=by have:=hS1.hm;omega
 have HU1:=hideK (fun j (e:u1.ownBlock=some j)=>show w.heap.size+2≤j from by have:=(hS1.own.lt j e).1;omega)
 have HR1:=hideK (HR0.out.keepC (hS1.bl.block w.heap.size (by omega)))
 have HO1:=hideK (HO0.out.keepC (hS1.bl.block (w.heap.size+1) (by omega)))
 clear cA hS1 HR0 HO0;go_wp2_with fail
 go_loopw [7] (fun i wr=>∃(k:Nat) (arr:List (Ag Pc)) (u:Value) (ow:OAd) (oc:Nat),i = .int .i64 (k:Int)∧k≤arr.length∧SWC w sq mq arr u wr∧SRg (failC g h) (nextC g h) (okC g h) (0,0) k arr∧srG (failC g h) (nextC g h) (g.length*h.length - k) k arr=srC g h∧OB3 wr w.heap.size (.bool false) (.bool false) (.slice none 0 0)∧OB3 wr (w.heap.size+1) (.bool false) (.bool (enW g arr k).1) (.slice ow (enW g arr k).2 oc)∧(∀j,u.ownBlock=some j→w.heap.size+2≤j)) (fun i _=>g.length*h.length - (intOf i).toNat)
 case atStart=>exact ⟨0,[avG (0,0)],u1,none,0,rfl,by simp,HS1.out,SRg.start HK0.out,rfl,HR1.out,HO1.out,HU1.out⟩
 case round =>
  obtain ⟨k,arr,u,ow,oc,rfl,hka,hS,hSR,hsr,hR,hO,hU⟩:=hrel;have hal:=hSR.len HW.out;clear HS1 HR1 HO1 HU1;have cC:=countC_any w sq mq arr u wr hS;have hkz:(k:Int)≤40000:=by omega
  by_cases hlt:k<arr.length
  ·have hltz:(k:Int)<(arr.length:Int):=by omega
   have cP:=placeC_any w sq mq arr u k wr hS hlt;have hv:arr[k]? = some arr[k]:=List.getElem?_eq_getElem hlt;have hpl:arr[k].1.2.1<g.length∧arr[k].1.2.2<h.length:=hSR.lt arr[k].1.2 (List.mem_map.2 ⟨arr[k],List.getElem_mem hlt,rfl⟩);obtain ⟨a1,c1,a2,c2,hN1,hL1,hT1⟩:=HGC.out _ hpl.1;obtain ⟨a3,c3,a4,c4,hN2,hL2,hT2⟩:=HHC.out _ hpl.2;have em:nodeAt g arr[k].1.2.1=g[arr[k].1.2.1]:=nodeAt_lt g _ hpl.1;have en:nodeAt h arr[k].1.2.2=h[arr[k].1.2.2]:=nodeAt_lt h _ hpl.2;rw [← em]at hN1 hL1 hT1;rw [← en]at hN2 hL2 hT2;have HBW:=hideK hS.bl;have HN1:=hideK (show NdAt wr gb (go+arr[k].1.2.1*4) (nodeAt g arr[k].1.2.1) a1 c1 a2 c2 from hN1.keep (HBW.out.mono hB) hgB)
   have HN2:=hideK (show NdAt wr hb1 (ho+arr[k].1.2.2*4) (nodeAt h arr[k].1.2.2) a3 c3 a4 c4 from hN2.keep (HBW.out.mono hB) hhB)
   have HS:=hideK hS;have HSR:=hideK hSR;have HSRC:=hideK hsr;have HV:=hideK hv;have HR:=hideK hR;have HO:=hideK hO;have HU:=hideK hU;have HL1:=hideK hL1;have HT1:=hideK hT1;have HL2:=hideK hL2;have HT2:=hideK hT2;have HOM:=hideK (HG.out.at_ hpl.1);have HON:=hideK (HH.out.at_ hpl.2);have HFP:=hideK (show failC g h arr[k].1.2 = !onB g h (nodeAt g arr[k].1.2.1) (nodeAt h arr[k].1.2.2) from rfl)
   have HNS:=hideK (show nextC g h arr[k].1.2=stepsC (nodeAt g arr[k].1.2.1) (nodeAt h arr[k].1.2.2) from rfl)
   have HEY:=hideK (fun (q:(nodeAt g arr[k].1.2.1).kind=1)=>enW_yes (g:=g) hv q)
   have HEN:=hideK (fun (q:¬(nodeAt g arr[k].1.2.1).kind=1)=>enW_no (g:=g) hv q)
   have hpa:=hpl.1;have hpb:=hpl.2;clear hS hSR hsr hv hL1 hT1 hL2 hT2 em en hN1 hN2 hpl hR hO hU;generalize hVp:arr[k].1.2=pp at *;obtain ⟨pa,pb⟩:=pp;simp only [pkC]at cP hpa hpb HL1 HT1 HL2 HT2 HOM HON HFP HNS HN1 HN2 HEY HEN;have CG:=hideK (fun (W:World) (hb:Below w.heap.size w W)=>getOn_any g h (some ⟨gb,go,none⟩) (some ⟨hb1,ho,none⟩) cg ch B (pa,pb) W HG.out HH.out (HGA.out.keep (hb.mono hB)) (HHA.out.keep (hb.mono hB)) (Nat.le_trans hB hb.size) ⟨hpa,hpb⟩)
   simp only [pkC]at CG;generalize nodeAt g pa=m at *;generalize nodeAt h pb=n at *;have hpaz:(pa:Int)<(g.length:Int):=by omega
   have hpbz:(pb:Int)<(h.length:Int):=by omega
   go_wp2_with fail
   refine cC.mono ?_;rintro e wc ⟨rfl,hwc⟩;obtain rfl:=hwc.symm;clear cC;go_wp2_with fail
   refine cP.mono ?_;rintro e wp ⟨rfl,hbp⟩;have hAp:Below wp.heap.size wp (wp.alloc (.cells #[.int .i64 (pa:Int),.int .i64 (pb:Int)] 73)):=(Below.refl _ _).alloc (Nat.le_refl _) _;have hwp:Below wr.heap.size wr (wp.alloc (.cells #[.int .i64 (pa:Int),.int .i64 (pb:Int)] 73)):=hbp.trans (hAp.mono hbp.size);have cG:=CG.out (wp.alloc (.cells #[.int .i64 (pa:Int),.int .i64 (pb:Int)] 73)) (HBW.out.trans (hwp.mono HBW.out.size));have p0:(wp.alloc (.cells #[.int .i64 (pa:Int),.int .i64 (pb:Int)] 73)).cell? ⟨wp.heap.size,0,none⟩=some (.int .i64 (pa:Int)):=by go_cell
   have p1:(wp.alloc (.cells #[.int .i64 (pa:Int),.int .i64 (pb:Int)] 73)).cell? ⟨wp.heap.size,1,none⟩=some (.int .i64 (pb:Int)):=by go_cell
   have HWP:=hideK hwp;have HPS:=hideK (show wp.heap.size<(wp.alloc (.cells #[.int .i64 (pa:Int),.int .i64 (pb:Int)] 73)).heap.size from by simp)
   clear cP hbp hAp hwp CG;cases hon:onB g h m n with
   | false =>
    rw [hon]at cG HFP;have HSO:=hideK (srG_fail (fail:=failC g h) (next:=nextC g h) (f:=g.length*h.length - k - 1) HV.out (by rw [hVp];exact HFP.out))
    clear hon;go_wp2_with fail
    refine cG.mono ?_;rintro e w3 ⟨rfl,hb3⟩;have hb3w:=HWP.out.trans (hb3.mono HWP.out.size);have HS3:=hideK (HS.out.kept hb3w);have HR3:=hideK (HR.out.keepC (hb3w.block w.heap.size (by have:=HBW.out.size;have:=HS.out.hs;have:=HS.out.ls;omega)))
    have cT:=toC_any w sq mq arr u k w3 HS3.out hlt (by omega) HSR.out.way
    clear cG hb3 hb3w p0 p1;go_wp2_with fail
    refine cT.mono ?_;rintro e w4 ⟨⟨aw,cw,rfl,hla⟩,hb4⟩;have HB4:=hideK (HS3.out.bl.trans (hb4.mono HS3.out.bl.size));have HR4:=hideK (HR3.out.keepC (hb4.block w.heap.size (by have:=HS3.out.hs;have:=HS3.out.ls;omega)))
    have HLA:=hideK hla;have HLN:=hideK (show w.heap.size+2≤w4.heap.size from by have:=hb4.size;have:=HS3.out.hs;have:=HS3.out.ls;omega)
    obtain ⟨r0,r1,r2,f0,f1,f2⟩:=HR4.out;clear cT hla hb4;go_wp2_with fail
    have TA:=(HR4.out).st (.bool true) (.bool false) (.slice aw (wayGA arr k).length cw);have TB:=st3_below (HB4.out) (Nat.le_refl _) (.bool true) (.bool false) (.slice aw (wayGA arr k).length cw);have TL:LA (st3 w4 w.heap.size (.bool true) (.bool false) (.slice aw (wayGA arr k).length cw)) (st3 w4 w.heap.size (.bool true) (.bool false) (.slice aw (wayGA arr k).length cw)).heap.size (wayGA arr k).reverse aw:=by
     rw [st3_size];exact HLA.out.imp id fun ⟨b,o,e,hl,hc⟩=>⟨b,o,e,hl,fun i hi=>st3_str HR4.out (by rw [hc i hi,List.getElem_map])⟩
    change OB3 (st3 w4 w.heap.size (.bool true) (.bool false) (.slice aw (wayGA arr k).length cw)) _ _ _ _ at TA
    change Below _ _ (st3 w4 w.heap.size (.bool true) (.bool false) (.slice aw (wayGA arr k).length cw)) at TB
    change bodyPost _ _ _ _ _ (st3 w4 w.heap.size (.bool true) (.bool false) (.slice aw (wayGA arr k).length cw))
    generalize st3 w4 w.heap.size (.bool true) (.bool false) (.slice aw (wayGA arr k).length cw)=W9 at TA TB TL ⊢;obtain ⟨t0,t1,t2,_,_,_⟩:=TA;refine bodyPost_ret (v:=.agg #[.bool true,.bool false,.slice aw (wayGA arr k).length cw]) (by simp [results,Tryz.results12,go_sem,t0,t1,t2]) rfl ?_
    refine ⟨.inl ⟨k,arr,?_,aw,cw,rfl,TL⟩,TB⟩;rw [← HSRC.out,show g.length*h.length - k=g.length*h.length - k - 1+1 by omega]
    exact HSO.out
   | true =>
    rw [hon]at cG HFP;have HNX:=hideK (HSR.out.on HW.out HV.out (by rw [hVp];exact HFP.out))
    have HSO:=hideK (srG_go (fail:=failC g h) (next:=nextC g h) (f:=g.length*h.length - (k+1)) HV.out (by rw [hVp];exact HFP.out))
    have HFF:=hideK (show failC g h (pa,pb)=false from HFP.out)
    have HKQ:=hideK (on_parts hon).1;rw [hVp]at HNX HSO;clear hon;go_wp2_with fail
    refine cG.mono ?_;rintro e w3 ⟨rfl,hb3⟩;have hb3w:=HWP.out.trans (hb3.mono HWP.out.size);obtain ⟨m0,m1,m2,m3⟩:=HN1.out.keep hb3w (by have:=HBW.out.size;omega)
    obtain ⟨n0,n1,n2,n3⟩:=HN2.out.keep hb3w (by have:=HBW.out.size;omega)
    have q0:=(hb3.cell (p:=⟨wp.heap.size,0,none⟩) HPS.out).trans p0;have q1:=(hb3.cell (p:=⟨wp.heap.size,1,none⟩) HPS.out).trans p1;have hps:wp.heap.size<w3.heap.size:=Nat.lt_of_lt_of_le HPS.out hb3.size;have hlow:w.heap.size+2≤wr.heap.size:=by have:=HS.out.hs;have:=HS.out.ls;omega
    have HS3:=hideK (HS.out.kept hb3w);have HR3:=hideK (HR.out.keepC (hb3w.block w.heap.size (by omega)))
    have HO3:=hideK (HO.out.keepC (hb3w.block (w.heap.size+1) (by omega)))
    have hw3:wr.heap.size≤w3.heap.size:=hb3w.size;have hgp:gb<w3.heap.size:=by have:=HBW.out.size;omega
    have hhp:hb1<w3.heap.size:=by have:=HBW.out.size;omega
    have HOW:=hideK (show ∀j,u.ownBlock=some j→j<w3.heap.size from fun j hj=>Nat.lt_of_lt_of_le (HS.out.own.lt j hj).2 hw3)
    clear cG hb3 hb3w p0 p1 HN1 HN2 HBW HS HR HO HWP HPS;generalize wp.heap.size=ps at *;have sk:∀W W':World,(fun W:World=>W.cell? ⟨ps,0,none⟩=some (.int .i64 (pa:Int))∧W.cell? ⟨ps,1,none⟩=some (.int .i64 (pb:Int))∧W.cell? ⟨gb,go+pa*4,none⟩=some (.int .i64 m.kind)∧W.cell? ⟨gb,go+pa*4+1,none⟩=some (.int .i64 m.so)∧W.cell? ⟨gb,go+pa*4+2,none⟩=some (.slice a1 m.labs.length c1)∧W.cell? ⟨gb,go+pa*4+3,none⟩=some (.slice a2 m.to.length c2)∧W.cell? ⟨hb1,ho+pb*4,none⟩=some (.int .i64 n.kind)∧W.cell? ⟨hb1,ho+pb*4+1,none⟩=some (.int .i64 n.so)∧W.cell? ⟨hb1,ho+pb*4+2,none⟩=some (.slice a3 n.labs.length c3)∧W.cell? ⟨hb1,ho+pb*4+3,none⟩=some (.slice a4 n.to.length c4)) W→Below w3.heap.size W W'→(fun W:World=>W.cell? ⟨ps,0,none⟩=some (.int .i64 (pa:Int))∧W.cell? ⟨ps,1,none⟩=some (.int .i64 (pb:Int))∧W.cell? ⟨gb,go+pa*4,none⟩=some (.int .i64 m.kind)∧W.cell? ⟨gb,go+pa*4+1,none⟩=some (.int .i64 m.so)∧W.cell? ⟨gb,go+pa*4+2,none⟩=some (.slice a1 m.labs.length c1)∧W.cell? ⟨gb,go+pa*4+3,none⟩=some (.slice a2 m.to.length c2)∧W.cell? ⟨hb1,ho+pb*4,none⟩=some (.int .i64 n.kind)∧W.cell? ⟨hb1,ho+pb*4+1,none⟩=some (.int .i64 n.so)∧W.cell? ⟨hb1,ho+pb*4+2,none⟩=some (.slice a3 n.labs.length c3)∧W.cell? ⟨hb1,ho+pb*4+3,none⟩=some (.slice a4 n.to.length c4)) W':=fun W W' ⟨q0,q1,q2,q3,q4,q5,q6,q7,q8,q9⟩ hb=>⟨(hb.cell (p:=⟨ps,0,none⟩) hps).trans q0,(hb.cell (p:=⟨ps,1,none⟩) hps).trans q1,(hb.cell (p:=⟨gb,go+pa*4,none⟩) hgp).trans q2,(hb.cell (p:=⟨gb,go+pa*4+1,none⟩) hgp).trans q3,(hb.cell (p:=⟨gb,go+pa*4+2,none⟩) hgp).trans q4,(hb.cell (p:=⟨gb,go+pa*4+3,none⟩) hgp).trans q5,(hb.cell (p:=⟨hb1,ho+pb*4,none⟩) hhp).trans q6,(hb.cell (p:=⟨hb1,ho+pb*4+1,none⟩) hhp).trans q7,(hb.cell (p:=⟨hb1,ho+pb*4+2,none⟩) hhp).trans q8,(hb.cell (p:=⟨hb1,ho+pb*4+3,none⟩) hhp).trans q9⟩
    have HS0:=hideK (show (fun W:World=>W.cell? ⟨ps,0,none⟩=some (.int .i64 (pa:Int))∧W.cell? ⟨ps,1,none⟩=some (.int .i64 (pb:Int))∧W.cell? ⟨gb,go+pa*4,none⟩=some (.int .i64 m.kind)∧W.cell? ⟨gb,go+pa*4+1,none⟩=some (.int .i64 m.so)∧W.cell? ⟨gb,go+pa*4+2,none⟩=some (.slice a1 m.labs.length c1)∧W.cell? ⟨gb,go+pa*4+3,none⟩=some (.slice a2 m.to.length c2)∧W.cell? ⟨hb1,ho+pb*4,none⟩=some (.int .i64 n.kind)∧W.cell? ⟨hb1,ho+pb*4+1,none⟩=some (.int .i64 n.so)∧W.cell? ⟨hb1,ho+pb*4+2,none⟩=some (.slice a3 n.labs.length c3)∧W.cell? ⟨hb1,ho+pb*4+3,none⟩=some (.slice a4 n.to.length c4)) w3.drew from ⟨q0,q1,m0,m1,m2,m3,n0,n1,n2,n3⟩)
    have HSX:=hideK (show ∀o:Obj,(fun W:World=>W.cell? ⟨ps,0,none⟩=some (.int .i64 (pa:Int))∧W.cell? ⟨ps,1,none⟩=some (.int .i64 (pb:Int))∧W.cell? ⟨gb,go+pa*4,none⟩=some (.int .i64 m.kind)∧W.cell? ⟨gb,go+pa*4+1,none⟩=some (.int .i64 m.so)∧W.cell? ⟨gb,go+pa*4+2,none⟩=some (.slice a1 m.labs.length c1)∧W.cell? ⟨gb,go+pa*4+3,none⟩=some (.slice a2 m.to.length c2)∧W.cell? ⟨hb1,ho+pb*4,none⟩=some (.int .i64 n.kind)∧W.cell? ⟨hb1,ho+pb*4+1,none⟩=some (.int .i64 n.so)∧W.cell? ⟨hb1,ho+pb*4+2,none⟩=some (.slice a3 n.labs.length c3)∧W.cell? ⟨hb1,ho+pb*4+3,none⟩=some (.slice a4 n.to.length c4)) (w3.alloc o).drew from fun o=>sk _ _ HS0.out (by rw [← alloc_drew];exact (Below.refl w3.heap.size w3.drew).alloc (show w3.heap.size≤w3.drew.heap.size from Nat.le_refl _) o))
    have HSY:=hideK (show ∀o o':Obj,(fun W:World=>W.cell? ⟨ps,0,none⟩=some (.int .i64 (pa:Int))∧W.cell? ⟨ps,1,none⟩=some (.int .i64 (pb:Int))∧W.cell? ⟨gb,go+pa*4,none⟩=some (.int .i64 m.kind)∧W.cell? ⟨gb,go+pa*4+1,none⟩=some (.int .i64 m.so)∧W.cell? ⟨gb,go+pa*4+2,none⟩=some (.slice a1 m.labs.length c1)∧W.cell? ⟨gb,go+pa*4+3,none⟩=some (.slice a2 m.to.length c2)∧W.cell? ⟨hb1,ho+pb*4,none⟩=some (.int .i64 n.kind)∧W.cell? ⟨hb1,ho+pb*4+1,none⟩=some (.int .i64 n.so)∧W.cell? ⟨hb1,ho+pb*4+2,none⟩=some (.slice a3 n.labs.length c3)∧W.cell? ⟨hb1,ho+pb*4+3,none⟩=some (.slice a4 n.to.length c4)) ((w3.alloc o).alloc o').drew from fun o o'=>sk _ _ (HSX.out o) (by rw [← alloc_drew];exact (Below.refl _ _).alloc (by simp) _))
    clear sk;go_wp2_with fail
    go_region_held3 (fun W:World=>W.cell? ⟨ps,0,none⟩=some (.int .i64 (pa:Int))∧W.cell? ⟨ps,1,none⟩=some (.int .i64 (pb:Int))∧W.cell? ⟨gb,go+pa*4,none⟩=some (.int .i64 m.kind)∧W.cell? ⟨gb,go+pa*4+1,none⟩=some (.int .i64 m.so)∧W.cell? ⟨gb,go+pa*4+2,none⟩=some (.slice a1 m.labs.length c1)∧W.cell? ⟨gb,go+pa*4+3,none⟩=some (.slice a2 m.to.length c2)∧W.cell? ⟨hb1,ho+pb*4,none⟩=some (.int .i64 n.kind)∧W.cell? ⟨hb1,ho+pb*4+1,none⟩=some (.int .i64 n.so)∧W.cell? ⟨hb1,ho+pb*4+2,none⟩=some (.slice a3 n.labs.length c3)∧W.cell? ⟨hb1,ho+pb*4+3,none⟩=some (.slice a4 n.to.length c4)) (first|exact HS0.out|exact HSX.out _|exact HSY.out _ _|assumption) (fail)
    ·have HRN:=hideK (rn_one w3 m n a1 a2 a3 a4 c1 c2 c3 c4)
     clear HS0 HSX HSY m0 m1 m2 m3 n0 n1 n2 n3 q0 q1;generalize ((w3.alloc (.cells #[.int .i64 m.kind,.int .i64 m.so,.slice a1 m.labs.length c1,.slice a2 m.to.length c2] 56)).alloc (.cells #[.int .i64 n.kind,.int .i64 n.so,.slice a3 n.labs.length c3,.slice a4 n.to.length c4] 56)).drew=V at *;obtain ⟨x0,x1,x2,x3⟩:=HRN.out.x;obtain ⟨y0,y1,y2,y3⟩:=HRN.out.y;simp only [Nat.zero_add]at x1 x2 x3 y1 y2 y3;have HSV:=hideK (HS3.out.kept HRN.out.bl);have HRV:=hideK (HR3.out.keepC (HRN.out.bl.block w.heap.size (by omega)))
     have HOV:=hideK (HO3.out.keepC (HRN.out.bl.block (w.heap.size+1) (by omega)))
     have hV3:=HRN.out.bl.size;by_cases hend:m.kind=1
     ·have kb:(m.kind==1)=true:=by simpa using hend
      have HEW:=hideK (HEY.out hend);have cT:=toC_any w sq mq arr u k V HSV.out hlt (by omega) HSR.out.way
      clear hend HEN;go_wp2_with fail
      refine cT.mono ?_;rintro e w4 ⟨⟨aw,cw,rfl,hla⟩,hb4⟩;have HS4:=hideK (HSV.out.kept hb4);have HR4:=hideK (HRV.out.keepC (hb4.block w.heap.size (by omega)))
      have HO4:=hideK (HOV.out.keepC (hb4.block (w.heap.size+1) (by omega)))
      have HN4:=hideK (HRN.out.keep hb4);have h34:=hb4.size;obtain ⟨t0,t1,t2,f0,f1,f2⟩:=HO4.out;have HS5:=hideK (HS4.out.st3 (b:=w.heap.size+1) (by omega) (by omega) (by omega) (fun e=>by have:=HU.out _ e;omega) (.bool false) (.bool true) (.slice aw (wayGA arr k).length cw))
      have HR5:=hideK (HR4.out.keepC (st3_blk w4 (w.heap.size+1) (.bool false) (.bool true) (.slice aw (wayGA arr k).length cw) (x:=w.heap.size) (by omega)))
      have HO5:=hideK (HO4.out.st (.bool false) (.bool true) (.slice aw (wayGA arr k).length cw));have HN5:=hideK (HN4.out.blk (st3_blk w4 (w.heap.size+1) (.bool false) (.bool true) (.slice aw (wayGA arr k).length cw) (by have:=HN4.out.lo;omega)) (st3_blk w4 (w.heap.size+1) (.bool false) (.bool true) (.slice aw (wayGA arr k).length cw) (by have:=HN4.out.lo;omega)))
      have hz5:(st3 w4 (w.heap.size+1) (.bool false) (.bool true) (.slice aw (wayGA arr k).length cw)).heap.size=w4.heap.size:=st3_size _ _ _ _ _;clear cT hla hb4 x0 x1 x2 x3 y0 y1 y2 y3;have HOE:=hideK (show OB3 (st3 w4 (w.heap.size+1) (.bool false) (.bool true) (.slice aw (wayGA arr k).length cw)) (w.heap.size+1) (.bool false) (.bool (enW g arr (k+1)).1) (.slice aw (enW g arr (k+1)).2 cw) from by rw [HEW.out];exact HO5.out)
      obtain ⟨⟨x0,x1,x2,x3⟩,⟨y0,y1,y2,y3⟩⟩:=HN5.out;simp only [Nat.zero_add]at x1 x2 x3 y1 y2 y3;simp only [st3]at x0 x1 x2 x3 y0 y1 y2 y3;have HB5:=hideK (show Below w.heap.size w (st3 w4 (w.heap.size+1) (.bool false) (.bool true) (.slice aw (wayGA arr k).length cw)) from HS5.out.bl)
      have hb5w:Below B w (st3 w4 (w.heap.size+1) (.bool false) (.bool true) (.slice aw (wayGA arr k).length cw)):=HB5.out.mono hB;have cS:=stepsC_any m n a1 a2 a3 a4 c1 c2 c3 c4 B (st3 w4 (w.heap.size+1) (.bool false) (.bool true) (.slice aw (wayGA arr k).length cw)) (HL1.out.keep hb5w) (HT1.out.keep hb5w) (HL2.out.keep hb5w) (HT2.out.keep hb5w) (Nat.le_trans hB HB5.out.size) HOM.out HON.out HKQ.out;simp only [ndVal]at cS;go_wp2_with fail
      change Calls _ _ _ (st3 w4 (w.heap.size+1) (.bool false) (.bool true) (.slice aw (wayGA arr k).length cw)) _
      generalize st3 w4 (w.heap.size+1) (.bool false) (.bool true) (.slice aw (wayGA arr k).length cw)=W5 at *;clear t0 t1 t2 f0 f1 f2 x0 x1 x2 x3 y0 y1 y2 y3;have HNE:=hideK (show stepsC m n=nextC g h (pa,pb) from HNS.out.symm)
      have hss:(stepsC m n).length≤6:=stepsC_len HOM.out;have h35:w3.heap.size≤W5.heap.size:=by omega
      generalize stepsC m n=ss at *;refine cS.mono ?_;rintro e w6 ⟨⟨ast,cst,rfl,hst⟩,hb6⟩;have HS6:=hideK (HS5.out.kept hb6);have HR6:=hideK (HR5.out.keepC (hb6.block w.heap.size (by omega)))
      have HO6:=hideK (HOE.out.keepC (hb6.block (w.heap.size+1) (by omega)))
      have hssz:(ss.length:Int)≤6:=by omega
      have hsq6:sq<w3.heap.size:=HS3.out.ls;have hmq6:mq<w3.heap.size:=HS3.out.mp.lt;have HSTI:=hideK (show STK sq mq u w6 ss ast from hst.imp id fun ⟨b,o,e,hl,hc⟩=>⟨b,o,e,by have:=hl.1;omega,by have:=hl.1;omega,hl.2,fun q=>by (have:=HOW.out b q;have:=hl.1;omega),hc⟩)
      clear cS hst hb6 hb5w;go_wp2_with fail
      go_loopw [54] (fun i wz=>∃(q:Nat) (arr':List (Ag Pc)) (u':Value),q≤ss.length∧i = .int .i64 (q:Int)∧arr'=(ss.take q).foldl (fun a s=>addG a s k) arr∧SWC w sq mq arr' u' wz∧SRg (failC g h) (nextC g h) (okC g h) (0,0) k arr'∧(∃v,arr'[k]? = some v∧v.1.2=(pa,pb))∧STK sq mq u' wz ss ast∧OB3 wz w.heap.size (.bool false) (.bool false) (.slice none 0 0)∧OB3 wz (w.heap.size+1) (.bool false) (.bool (enW g arr (k+1)).1) (.slice aw (enW g arr (k+1)).2 cw)∧(∀j,u'.ownBlock=some j→w.heap.size+2≤j)) (fun i _=>ss.length - (intOf i).toNat)
      case atStart=>exact ⟨0,arr,_,Nat.zero_le _,rfl,rfl,HS6.out,HSR.out,⟨_,HV.out,hVp⟩,HSTI.out,HR6.out,HO6.out,HU.out⟩
      case round =>
       obtain ⟨q,arr',u',hql,rfl,har,hS',hSR',⟨v,hv',hvp⟩,hsti,hR',hO',hU'⟩:=hrel;clear HSTI HR6 HO6;by_cases hqlt:q<ss.length
       ·have hqz:(q:Int)<(ss.length:Int):=by omega
        obtain ⟨sb,so,rfl,hsn1,hsn2,hsl,hsu,hsc⟩:=hsti.resolve_left (fun e=>by rw [e]at hqlt;simp at hqlt)
        obtain ⟨s0,s1,s2⟩:=hsc q hqlt;have hmem:ss[q]∈nextC g h (pa,pb):=by rw [← HNE.out];exact List.getElem_mem hqlt
        have hpk:okC g h (pa,pb):=⟨hpa,hpb⟩;have hokS:=HW.out.step _ hpk HFF.out _ hmem;have HADD:=hideK (hSR'.add HW.out hv' (by rw [hvp];exact HFF.out) (by rw [hvp];exact hmem))
        have HOLD:=hideK (addG_old (s:=ss[q]) (k:=k) hv');have HFT:=hideK (show addG arr' ss[q] k=(ss.take (q+1)).foldl (fun a s=>addG a s k) arr from by rw [fold_takeG hqlt,har])
        have hl':=hSR'.len HW.out;have HVP:=hideK hvp;have hAl:Below wr.heap.size wr (wr.alloc (.cells #[.string ss[q].1,.int .i64 (ss[q].2.1:Int),.int .i64 (ss[q].2.2:Int)] 81)):=(Below.refl _ _).alloc (Nat.le_refl _) _;have cR:=stepC_any w sq mq arr' u' ss[q].1 ss[q].2 k _ (hS'.kept hAl) (by omega) (fun p hp=>sm_okC hgl hhl (hSR'.lt p hp)) (sm_okC hgl hhl hokS)
        have HSTI:=hideK hsti;have HRA:=hideK (RF.of (fb:=mq) (rb:=sq) (row:=u'.ownBlock) hAl);have HLW:=hideK (show w.heap.size+2≤wr.heap.size from by have:=hS'.ls;omega)
        have HRR:=hideK hR';have HOO:=hideK hO';have HUU:=hideK hU';clear hsti hsc hmem hokS hvp hv' har hS' hSR' hAl hR' hO' hU';generalize ss[q]=st at *;obtain ⟨wd,sa,sb2⟩:=st;simp only [pkC]at s0 s1 s2 cR;go_wp2_with fail
        refine cR.mono ?_;rintro e w7 ⟨rfl,u7,hS7,hR7,hf7⟩;have hRF:=HRA.out.trans hR7 (.inl rfl);have HS7:=hideK hS7;have HT7:=hideK (HSTI.out.keep hRF (hf7.imp id fun f j hj=>Nat.le_trans (by simp) (f j hj)))
        have HR7:=hideK (HRR.out.keepC (hRF.block w.heap.size (by have:=HLW.out;omega) (by omega) (by omega) (fun e=>by have:=HUU.out _ e.symm;omega)))
        have HO7:=hideK (HOO.out.keepC (hRF.block (w.heap.size+1) (by have:=HLW.out;omega) (by omega) (by omega) (fun e=>by have:=HUU.out _ e.symm;omega)))
        have HU7:=hideK (show ∀j,u7.ownBlock=some j→w.heap.size+2≤j from fun j hj=>by
         rcases hf7 with q|q
         ·exact HUU.out j (q ▸ hj)
         ·have h1:=q j hj;have:=HLW.out;simp at h1;omega)
        clear cR hS7 hR7 hf7 s0 s1 s2 HRA HSTI hRF;go_wp2_with fail
        go_roundw
        case rel=>exact ⟨q+1,_,u7,by omega,by go_num,HFT.out,HS7.out,HADD.out,⟨v,HOLD.out,HVP.out⟩,HT7.out,HR7.out,HO7.out,HU7.out⟩
        case measure=>simp [intOf];omega
       ·have hqz:¬(q:Int)<(ss.length:Int):=by omega
        have hqe:q=ss.length:=by omega
        subst hqe;rw [List.take_length]at har;have HAR:=hideK (show arr'=onG (nextC g h) k arr (pa,pb) from by rw [har,HNE.out];rfl)
        have hkl:k+1≤arr'.length:=(List.getElem?_eq_some_iff.1 hv').1;have HS9:=hideK hS';have HR9:=hideK hR';have HU9:=hideK hU';have HO9:=hideK (show OB3 wr (w.heap.size+1) (.bool false) (.bool (enW g arr' (k+1)).1) (.slice aw (enW g arr' (k+1)).2 cw) from by
         rw [enW_ext (g:=g) (k:=k+1) HSR.out.way (fun i v hv=>by rw [HAR.out];exact (foldG (k:=k) (nextC g h (pa,pb)) arr).1 i v hv) (by omega)]
         exact hO')
        clear har hv' hvp hS' hSR' hsti hR' hO' hU';go_wp2_with fail
        go_roundw
        case rel =>
         refine ⟨k+1,arr',u',aw,cw,by go_num,hkl,HS9.out,by rw [HAR.out];exact HNX.out,?_,HR9.out,HO9.out,HU9.out⟩
         rw [HAR.out,← HSO.out,show g.length*h.length - (k+1)+1=g.length*h.length - k by omega]
         exact HSRC.out
        case measure=>simp [intOf];omega
     ·have kb:(m.kind==1)=false:=by simpa using hend
      have HEW:=hideK (HEN.out hend);have HOE0:=hideK (show OB3 V (w.heap.size+1) (.bool false) (.bool (enW g arr (k+1)).1) (.slice ow (enW g arr (k+1)).2 oc) from by rw [HEW.out];exact HOV.out)
      have HS5:=HSV;have HR5:=HRV;have HOE:=HOE0;have HB5:=hideK HSV.out.bl;have hb5w:Below B w V:=HB5.out.mono hB;have cS:=stepsC_any m n a1 a2 a3 a4 c1 c2 c3 c4 B V (HL1.out.keep hb5w) (HT1.out.keep hb5w) (HL2.out.keep hb5w) (HT2.out.keep hb5w) (Nat.le_trans hB HB5.out.size) HOM.out HON.out HKQ.out;simp only [ndVal]at cS;have h34:V.heap.size≤V.heap.size:=Nat.le_refl _;have hz5:V.heap.size=V.heap.size:=rfl;clear hend HEY HOE0;go_wp2_with fail
      generalize V=W5 at *;clear x0 x1 x2 x3 y0 y1 y2 y3;have HNE:=hideK (show stepsC m n=nextC g h (pa,pb) from HNS.out.symm)
      have hss:(stepsC m n).length≤6:=stepsC_len HOM.out;have h35:w3.heap.size≤W5.heap.size:=by omega
      generalize stepsC m n=ss at *;refine cS.mono ?_;rintro e w6 ⟨⟨ast,cst,rfl,hst⟩,hb6⟩;have HS6:=hideK (HS5.out.kept hb6);have HR6:=hideK (HR5.out.keepC (hb6.block w.heap.size (by omega)))
      have HO6:=hideK (HOE.out.keepC (hb6.block (w.heap.size+1) (by omega)))
      have hssz:(ss.length:Int)≤6:=by omega
      have hsq6:sq<w3.heap.size:=HS3.out.ls;have hmq6:mq<w3.heap.size:=HS3.out.mp.lt;have HSTI:=hideK (show STK sq mq u w6 ss ast from hst.imp id fun ⟨b,o,e,hl,hc⟩=>⟨b,o,e,by have:=hl.1;omega,by have:=hl.1;omega,hl.2,fun q=>by (have:=HOW.out b q;have:=hl.1;omega),hc⟩)
      clear cS hst hb6 hb5w;go_wp2_with fail
      go_loopw [54] (fun i wz=>∃(q:Nat) (arr':List (Ag Pc)) (u':Value),q≤ss.length∧i = .int .i64 (q:Int)∧arr'=(ss.take q).foldl (fun a s=>addG a s k) arr∧SWC w sq mq arr' u' wz∧SRg (failC g h) (nextC g h) (okC g h) (0,0) k arr'∧(∃v,arr'[k]? = some v∧v.1.2=(pa,pb))∧STK sq mq u' wz ss ast∧OB3 wz w.heap.size (.bool false) (.bool false) (.slice none 0 0)∧OB3 wz (w.heap.size+1) (.bool false) (.bool (enW g arr (k+1)).1) (.slice ow (enW g arr (k+1)).2 oc)∧(∀j,u'.ownBlock=some j→w.heap.size+2≤j)) (fun i _=>ss.length - (intOf i).toNat)
      case atStart=>exact ⟨0,arr,_,Nat.zero_le _,rfl,rfl,HS6.out,HSR.out,⟨_,HV.out,hVp⟩,HSTI.out,HR6.out,HO6.out,HU.out⟩
      case round =>
       obtain ⟨q,arr',u',hql,rfl,har,hS',hSR',⟨v,hv',hvp⟩,hsti,hR',hO',hU'⟩:=hrel;clear HSTI HR6 HO6;by_cases hqlt:q<ss.length
       ·have hqz:(q:Int)<(ss.length:Int):=by omega
        obtain ⟨sb,so,rfl,hsn1,hsn2,hsl,hsu,hsc⟩:=hsti.resolve_left (fun e=>by rw [e]at hqlt;simp at hqlt)
        obtain ⟨s0,s1,s2⟩:=hsc q hqlt;have hmem:ss[q]∈nextC g h (pa,pb):=by rw [← HNE.out];exact List.getElem_mem hqlt
        have hpk:okC g h (pa,pb):=⟨hpa,hpb⟩;have hokS:=HW.out.step _ hpk HFF.out _ hmem;have HADD:=hideK (hSR'.add HW.out hv' (by rw [hvp];exact HFF.out) (by rw [hvp];exact hmem))
        have HOLD:=hideK (addG_old (s:=ss[q]) (k:=k) hv');have HFT:=hideK (show addG arr' ss[q] k=(ss.take (q+1)).foldl (fun a s=>addG a s k) arr from by rw [fold_takeG hqlt,har])
        have hl':=hSR'.len HW.out;have HVP:=hideK hvp;have hAl:Below wr.heap.size wr (wr.alloc (.cells #[.string ss[q].1,.int .i64 (ss[q].2.1:Int),.int .i64 (ss[q].2.2:Int)] 81)):=(Below.refl _ _).alloc (Nat.le_refl _) _;have cR:=stepC_any w sq mq arr' u' ss[q].1 ss[q].2 k _ (hS'.kept hAl) (by omega) (fun p hp=>sm_okC hgl hhl (hSR'.lt p hp)) (sm_okC hgl hhl hokS)
        have HSTI:=hideK hsti;have HRA:=hideK (RF.of (fb:=mq) (rb:=sq) (row:=u'.ownBlock) hAl);have HLW:=hideK (show w.heap.size+2≤wr.heap.size from by have:=hS'.ls;omega)
        have HRR:=hideK hR';have HOO:=hideK hO';have HUU:=hideK hU';clear hsti hsc hmem hokS hvp hv' har hS' hSR' hAl hR' hO' hU';generalize ss[q]=st at *;obtain ⟨wd,sa,sb2⟩:=st;simp only [pkC]at s0 s1 s2 cR;go_wp2_with fail
        refine cR.mono ?_;rintro e w7 ⟨rfl,u7,hS7,hR7,hf7⟩;have hRF:=HRA.out.trans hR7 (.inl rfl);have HS7:=hideK hS7;have HT7:=hideK (HSTI.out.keep hRF (hf7.imp id fun f j hj=>Nat.le_trans (by simp) (f j hj)))
        have HR7:=hideK (HRR.out.keepC (hRF.block w.heap.size (by have:=HLW.out;omega) (by omega) (by omega) (fun e=>by have:=HUU.out _ e.symm;omega)))
        have HO7:=hideK (HOO.out.keepC (hRF.block (w.heap.size+1) (by have:=HLW.out;omega) (by omega) (by omega) (fun e=>by have:=HUU.out _ e.symm;omega)))
        have HU7:=hideK (show ∀j,u7.ownBlock=some j→w.heap.size+2≤j from fun j hj=>by
         rcases hf7 with q|q
         ·exact HUU.out j (q ▸ hj)
         ·have h1:=q j hj;have:=HLW.out;simp at h1;omega)
        clear cR hS7 hR7 hf7 s0 s1 s2 HRA HSTI hRF;go_wp2_with fail
        go_roundw
        case rel=>exact ⟨q+1,_,u7,by omega,by go_num,HFT.out,HS7.out,HADD.out,⟨v,HOLD.out,HVP.out⟩,HT7.out,HR7.out,HO7.out,HU7.out⟩
        case measure=>simp [intOf];omega
       ·have hqz:¬(q:Int)<(ss.length:Int):=by omega
        have hqe:q=ss.length:=by omega
        subst hqe;rw [List.take_length]at har;have HAR:=hideK (show arr'=onG (nextC g h) k arr (pa,pb) from by rw [har,HNE.out];rfl)
        have hkl:k+1≤arr'.length:=(List.getElem?_eq_some_iff.1 hv').1;have HS9:=hideK hS';have HR9:=hideK hR';have HU9:=hideK hU';have HO9:=hideK (show OB3 wr (w.heap.size+1) (.bool false) (.bool (enW g arr' (k+1)).1) (.slice ow (enW g arr' (k+1)).2 oc) from by
         rw [enW_ext (g:=g) (k:=k+1) HSR.out.way (fun i v hv=>by rw [HAR.out];exact (foldG (k:=k) (nextC g h (pa,pb)) arr).1 i v hv) (by omega)]
         exact hO')
        clear har hv' hvp hS' hSR' hsti hR' hO' hU';go_wp2_with fail
        go_roundw
        case rel =>
         refine ⟨k+1,arr',u',ow,oc,by go_num,hkl,HS9.out,by rw [HAR.out];exact HNX.out,?_,HR9.out,HO9.out,HU9.out⟩
         rw [HAR.out,← HSO.out,show g.length*h.length - (k+1)+1=g.length*h.length - k by omega]
         exact HSRC.out
        case measure=>simp [intOf];omega
    ·have HRN:=hideK (rn_two w3 m n a1 a2 a3 a4 c1 c2 c3 c4)
     clear HS0 HSX HSY m0 m1 m2 m3 n0 n1 n2 n3 q0 q1;generalize ((w3.alloc (.cells #[.int .i64 n.kind,.int .i64 n.so,.slice a3 n.labs.length c3,.slice a4 n.to.length c4] 56)).alloc (.cells #[.int .i64 m.kind,.int .i64 m.so,.slice a1 m.labs.length c1,.slice a2 m.to.length c2] 56)).drew=V at *;obtain ⟨x0,x1,x2,x3⟩:=HRN.out.x;obtain ⟨y0,y1,y2,y3⟩:=HRN.out.y;simp only [Nat.zero_add]at x1 x2 x3 y1 y2 y3;have HSV:=hideK (HS3.out.kept HRN.out.bl);have HRV:=hideK (HR3.out.keepC (HRN.out.bl.block w.heap.size (by omega)))
     have HOV:=hideK (HO3.out.keepC (HRN.out.bl.block (w.heap.size+1) (by omega)))
     have hV3:=HRN.out.bl.size;by_cases hend:m.kind=1
     ·have kb:(m.kind==1)=true:=by simpa using hend
      have HEW:=hideK (HEY.out hend);have cT:=toC_any w sq mq arr u k V HSV.out hlt (by omega) HSR.out.way
      clear hend HEN;go_wp2_with fail
      refine cT.mono ?_;rintro e w4 ⟨⟨aw,cw,rfl,hla⟩,hb4⟩;have HS4:=hideK (HSV.out.kept hb4);have HR4:=hideK (HRV.out.keepC (hb4.block w.heap.size (by omega)))
      have HO4:=hideK (HOV.out.keepC (hb4.block (w.heap.size+1) (by omega)))
      have HN4:=hideK (HRN.out.keep hb4);have h34:=hb4.size;obtain ⟨t0,t1,t2,f0,f1,f2⟩:=HO4.out;have HS5:=hideK (HS4.out.st3 (b:=w.heap.size+1) (by omega) (by omega) (by omega) (fun e=>by have:=HU.out _ e;omega) (.bool false) (.bool true) (.slice aw (wayGA arr k).length cw))
      have HR5:=hideK (HR4.out.keepC (st3_blk w4 (w.heap.size+1) (.bool false) (.bool true) (.slice aw (wayGA arr k).length cw) (x:=w.heap.size) (by omega)))
      have HO5:=hideK (HO4.out.st (.bool false) (.bool true) (.slice aw (wayGA arr k).length cw));have HN5:=hideK (HN4.out.blk (st3_blk w4 (w.heap.size+1) (.bool false) (.bool true) (.slice aw (wayGA arr k).length cw) (by have:=HN4.out.lo;omega)) (st3_blk w4 (w.heap.size+1) (.bool false) (.bool true) (.slice aw (wayGA arr k).length cw) (by have:=HN4.out.lo;omega)))
      have hz5:(st3 w4 (w.heap.size+1) (.bool false) (.bool true) (.slice aw (wayGA arr k).length cw)).heap.size=w4.heap.size:=st3_size _ _ _ _ _;clear cT hla hb4 x0 x1 x2 x3 y0 y1 y2 y3;have HOE:=hideK (show OB3 (st3 w4 (w.heap.size+1) (.bool false) (.bool true) (.slice aw (wayGA arr k).length cw)) (w.heap.size+1) (.bool false) (.bool (enW g arr (k+1)).1) (.slice aw (enW g arr (k+1)).2 cw) from by rw [HEW.out];exact HO5.out)
      obtain ⟨⟨x0,x1,x2,x3⟩,⟨y0,y1,y2,y3⟩⟩:=HN5.out;simp only [Nat.zero_add]at x1 x2 x3 y1 y2 y3;simp only [st3]at x0 x1 x2 x3 y0 y1 y2 y3;have HB5:=hideK (show Below w.heap.size w (st3 w4 (w.heap.size+1) (.bool false) (.bool true) (.slice aw (wayGA arr k).length cw)) from HS5.out.bl)
      have hb5w:Below B w (st3 w4 (w.heap.size+1) (.bool false) (.bool true) (.slice aw (wayGA arr k).length cw)):=HB5.out.mono hB;have cS:=stepsC_any m n a1 a2 a3 a4 c1 c2 c3 c4 B (st3 w4 (w.heap.size+1) (.bool false) (.bool true) (.slice aw (wayGA arr k).length cw)) (HL1.out.keep hb5w) (HT1.out.keep hb5w) (HL2.out.keep hb5w) (HT2.out.keep hb5w) (Nat.le_trans hB HB5.out.size) HOM.out HON.out HKQ.out;simp only [ndVal]at cS;go_wp2_with fail
      change Calls _ _ _ (st3 w4 (w.heap.size+1) (.bool false) (.bool true) (.slice aw (wayGA arr k).length cw)) _
      generalize st3 w4 (w.heap.size+1) (.bool false) (.bool true) (.slice aw (wayGA arr k).length cw)=W5 at *;clear t0 t1 t2 f0 f1 f2 x0 x1 x2 x3 y0 y1 y2 y3;have HNE:=hideK (show stepsC m n=nextC g h (pa,pb) from HNS.out.symm)
      have hss:(stepsC m n).length≤6:=stepsC_len HOM.out;have h35:w3.heap.size≤W5.heap.size:=by omega
      generalize stepsC m n=ss at *;refine cS.mono ?_;rintro e w6 ⟨⟨ast,cst,rfl,hst⟩,hb6⟩;have HS6:=hideK (HS5.out.kept hb6);have HR6:=hideK (HR5.out.keepC (hb6.block w.heap.size (by omega)))
      have HO6:=hideK (HOE.out.keepC (hb6.block (w.heap.size+1) (by omega)))
      have hssz:(ss.length:Int)≤6:=by omega
      have hsq6:sq<w3.heap.size:=HS3.out.ls;have hmq6:mq<w3.heap.size:=HS3.out.mp.lt;have HSTI:=hideK (show STK sq mq u w6 ss ast from hst.imp id fun ⟨b,o,e,hl,hc⟩=>⟨b,o,e,by have:=hl.1;omega,by have:=hl.1;omega,hl.2,fun q=>by (have:=HOW.out b q;have:=hl.1;omega),hc⟩)
      clear cS hst hb6 hb5w;go_wp2_with fail
      go_loopw [54] (fun i wz=>∃(q:Nat) (arr':List (Ag Pc)) (u':Value),q≤ss.length∧i = .int .i64 (q:Int)∧arr'=(ss.take q).foldl (fun a s=>addG a s k) arr∧SWC w sq mq arr' u' wz∧SRg (failC g h) (nextC g h) (okC g h) (0,0) k arr'∧(∃v,arr'[k]? = some v∧v.1.2=(pa,pb))∧STK sq mq u' wz ss ast∧OB3 wz w.heap.size (.bool false) (.bool false) (.slice none 0 0)∧OB3 wz (w.heap.size+1) (.bool false) (.bool (enW g arr (k+1)).1) (.slice aw (enW g arr (k+1)).2 cw)∧(∀j,u'.ownBlock=some j→w.heap.size+2≤j)) (fun i _=>ss.length - (intOf i).toNat)
      case atStart=>exact ⟨0,arr,_,Nat.zero_le _,rfl,rfl,HS6.out,HSR.out,⟨_,HV.out,hVp⟩,HSTI.out,HR6.out,HO6.out,HU.out⟩
      case round =>
       obtain ⟨q,arr',u',hql,rfl,har,hS',hSR',⟨v,hv',hvp⟩,hsti,hR',hO',hU'⟩:=hrel;clear HSTI HR6 HO6;by_cases hqlt:q<ss.length
       ·have hqz:(q:Int)<(ss.length:Int):=by omega
        obtain ⟨sb,so,rfl,hsn1,hsn2,hsl,hsu,hsc⟩:=hsti.resolve_left (fun e=>by rw [e]at hqlt;simp at hqlt)
        obtain ⟨s0,s1,s2⟩:=hsc q hqlt;have hmem:ss[q]∈nextC g h (pa,pb):=by rw [← HNE.out];exact List.getElem_mem hqlt
        have hpk:okC g h (pa,pb):=⟨hpa,hpb⟩;have hokS:=HW.out.step _ hpk HFF.out _ hmem;have HADD:=hideK (hSR'.add HW.out hv' (by rw [hvp];exact HFF.out) (by rw [hvp];exact hmem))
        have HOLD:=hideK (addG_old (s:=ss[q]) (k:=k) hv');have HFT:=hideK (show addG arr' ss[q] k=(ss.take (q+1)).foldl (fun a s=>addG a s k) arr from by rw [fold_takeG hqlt,har])
        have hl':=hSR'.len HW.out;have HVP:=hideK hvp;have hAl:Below wr.heap.size wr (wr.alloc (.cells #[.string ss[q].1,.int .i64 (ss[q].2.1:Int),.int .i64 (ss[q].2.2:Int)] 81)):=(Below.refl _ _).alloc (Nat.le_refl _) _;have cR:=stepC_any w sq mq arr' u' ss[q].1 ss[q].2 k _ (hS'.kept hAl) (by omega) (fun p hp=>sm_okC hgl hhl (hSR'.lt p hp)) (sm_okC hgl hhl hokS)
        have HSTI:=hideK hsti;have HRA:=hideK (RF.of (fb:=mq) (rb:=sq) (row:=u'.ownBlock) hAl);have HLW:=hideK (show w.heap.size+2≤wr.heap.size from by have:=hS'.ls;omega)
        have HRR:=hideK hR';have HOO:=hideK hO';have HUU:=hideK hU';clear hsti hsc hmem hokS hvp hv' har hS' hSR' hAl hR' hO' hU';generalize ss[q]=st at *;obtain ⟨wd,sa,sb2⟩:=st;simp only [pkC]at s0 s1 s2 cR;go_wp2_with fail
        refine cR.mono ?_;rintro e w7 ⟨rfl,u7,hS7,hR7,hf7⟩;have hRF:=HRA.out.trans hR7 (.inl rfl);have HS7:=hideK hS7;have HT7:=hideK (HSTI.out.keep hRF (hf7.imp id fun f j hj=>Nat.le_trans (by simp) (f j hj)))
        have HR7:=hideK (HRR.out.keepC (hRF.block w.heap.size (by have:=HLW.out;omega) (by omega) (by omega) (fun e=>by have:=HUU.out _ e.symm;omega)))
        have HO7:=hideK (HOO.out.keepC (hRF.block (w.heap.size+1) (by have:=HLW.out;omega) (by omega) (by omega) (fun e=>by have:=HUU.out _ e.symm;omega)))
        have HU7:=hideK (show ∀j,u7.ownBlock=some j→w.heap.size+2≤j from fun j hj=>by
         rcases hf7 with q|q
         ·exact HUU.out j (q ▸ hj)
         ·have h1:=q j hj;have:=HLW.out;simp at h1;omega)
        clear cR hS7 hR7 hf7 s0 s1 s2 HRA HSTI hRF;go_wp2_with fail
        go_roundw
        case rel=>exact ⟨q+1,_,u7,by omega,by go_num,HFT.out,HS7.out,HADD.out,⟨v,HOLD.out,HVP.out⟩,HT7.out,HR7.out,HO7.out,HU7.out⟩
        case measure=>simp [intOf];omega
       ·have hqz:¬(q:Int)<(ss.length:Int):=by omega
        have hqe:q=ss.length:=by omega
        subst hqe;rw [List.take_length]at har;have HAR:=hideK (show arr'=onG (nextC g h) k arr (pa,pb) from by rw [har,HNE.out];rfl)
        have hkl:k+1≤arr'.length:=(List.getElem?_eq_some_iff.1 hv').1;have HS9:=hideK hS';have HR9:=hideK hR';have HU9:=hideK hU';have HO9:=hideK (show OB3 wr (w.heap.size+1) (.bool false) (.bool (enW g arr' (k+1)).1) (.slice aw (enW g arr' (k+1)).2 cw) from by
         rw [enW_ext (g:=g) (k:=k+1) HSR.out.way (fun i v hv=>by rw [HAR.out];exact (foldG (k:=k) (nextC g h (pa,pb)) arr).1 i v hv) (by omega)]
         exact hO')
        clear har hv' hvp hS' hSR' hsti hR' hO' hU';go_wp2_with fail
        go_roundw
        case rel =>
         refine ⟨k+1,arr',u',aw,cw,by go_num,hkl,HS9.out,by rw [HAR.out];exact HNX.out,?_,HR9.out,HO9.out,HU9.out⟩
         rw [HAR.out,← HSO.out,show g.length*h.length - (k+1)+1=g.length*h.length - k by omega]
         exact HSRC.out
        case measure=>simp [intOf];omega
     ·have kb:(m.kind==1)=false:=by simpa using hend
      have HEW:=hideK (HEN.out hend);have HOE0:=hideK (show OB3 V (w.heap.size+1) (.bool false) (.bool (enW g arr (k+1)).1) (.slice ow (enW g arr (k+1)).2 oc) from by rw [HEW.out];exact HOV.out)
      have HS5:=HSV;have HR5:=HRV;have HOE:=HOE0;have HB5:=hideK HSV.out.bl;have hb5w:Below B w V:=HB5.out.mono hB;have cS:=stepsC_any m n a1 a2 a3 a4 c1 c2 c3 c4 B V (HL1.out.keep hb5w) (HT1.out.keep hb5w) (HL2.out.keep hb5w) (HT2.out.keep hb5w) (Nat.le_trans hB HB5.out.size) HOM.out HON.out HKQ.out;simp only [ndVal]at cS;have h34:V.heap.size≤V.heap.size:=Nat.le_refl _;have hz5:V.heap.size=V.heap.size:=rfl;clear hend HEY HOE0;go_wp2_with fail
      generalize V=W5 at *;clear x0 x1 x2 x3 y0 y1 y2 y3;have HNE:=hideK (show stepsC m n=nextC g h (pa,pb) from HNS.out.symm)
      have hss:(stepsC m n).length≤6:=stepsC_len HOM.out;have h35:w3.heap.size≤W5.heap.size:=by omega
      generalize stepsC m n=ss at *;refine cS.mono ?_;rintro e w6 ⟨⟨ast,cst,rfl,hst⟩,hb6⟩;have HS6:=hideK (HS5.out.kept hb6);have HR6:=hideK (HR5.out.keepC (hb6.block w.heap.size (by omega)))
      have HO6:=hideK (HOE.out.keepC (hb6.block (w.heap.size+1) (by omega)))
      have hssz:(ss.length:Int)≤6:=by omega
      have hsq6:sq<w3.heap.size:=HS3.out.ls;have hmq6:mq<w3.heap.size:=HS3.out.mp.lt;have HSTI:=hideK (show STK sq mq u w6 ss ast from hst.imp id fun ⟨b,o,e,hl,hc⟩=>⟨b,o,e,by have:=hl.1;omega,by have:=hl.1;omega,hl.2,fun q=>by (have:=HOW.out b q;have:=hl.1;omega),hc⟩)
      clear cS hst hb6 hb5w;go_wp2_with fail
      go_loopw [54] (fun i wz=>∃(q:Nat) (arr':List (Ag Pc)) (u':Value),q≤ss.length∧i = .int .i64 (q:Int)∧arr'=(ss.take q).foldl (fun a s=>addG a s k) arr∧SWC w sq mq arr' u' wz∧SRg (failC g h) (nextC g h) (okC g h) (0,0) k arr'∧(∃v,arr'[k]? = some v∧v.1.2=(pa,pb))∧STK sq mq u' wz ss ast∧OB3 wz w.heap.size (.bool false) (.bool false) (.slice none 0 0)∧OB3 wz (w.heap.size+1) (.bool false) (.bool (enW g arr (k+1)).1) (.slice ow (enW g arr (k+1)).2 oc)∧(∀j,u'.ownBlock=some j→w.heap.size+2≤j)) (fun i _=>ss.length - (intOf i).toNat)
      case atStart=>exact ⟨0,arr,_,Nat.zero_le _,rfl,rfl,HS6.out,HSR.out,⟨_,HV.out,hVp⟩,HSTI.out,HR6.out,HO6.out,HU.out⟩
      case round =>
       obtain ⟨q,arr',u',hql,rfl,har,hS',hSR',⟨v,hv',hvp⟩,hsti,hR',hO',hU'⟩:=hrel;clear HSTI HR6 HO6;by_cases hqlt:q<ss.length
       ·have hqz:(q:Int)<(ss.length:Int):=by omega
        obtain ⟨sb,so,rfl,hsn1,hsn2,hsl,hsu,hsc⟩:=hsti.resolve_left (fun e=>by rw [e]at hqlt;simp at hqlt)
        obtain ⟨s0,s1,s2⟩:=hsc q hqlt;have hmem:ss[q]∈nextC g h (pa,pb):=by rw [← HNE.out];exact List.getElem_mem hqlt
        have hpk:okC g h (pa,pb):=⟨hpa,hpb⟩;have hokS:=HW.out.step _ hpk HFF.out _ hmem;have HADD:=hideK (hSR'.add HW.out hv' (by rw [hvp];exact HFF.out) (by rw [hvp];exact hmem))
        have HOLD:=hideK (addG_old (s:=ss[q]) (k:=k) hv');have HFT:=hideK (show addG arr' ss[q] k=(ss.take (q+1)).foldl (fun a s=>addG a s k) arr from by rw [fold_takeG hqlt,har])
        have hl':=hSR'.len HW.out;have HVP:=hideK hvp;have hAl:Below wr.heap.size wr (wr.alloc (.cells #[.string ss[q].1,.int .i64 (ss[q].2.1:Int),.int .i64 (ss[q].2.2:Int)] 81)):=(Below.refl _ _).alloc (Nat.le_refl _) _;have cR:=stepC_any w sq mq arr' u' ss[q].1 ss[q].2 k _ (hS'.kept hAl) (by omega) (fun p hp=>sm_okC hgl hhl (hSR'.lt p hp)) (sm_okC hgl hhl hokS)
        have HSTI:=hideK hsti;have HRA:=hideK (RF.of (fb:=mq) (rb:=sq) (row:=u'.ownBlock) hAl);have HLW:=hideK (show w.heap.size+2≤wr.heap.size from by have:=hS'.ls;omega)
        have HRR:=hideK hR';have HOO:=hideK hO';have HUU:=hideK hU';clear hsti hsc hmem hokS hvp hv' har hS' hSR' hAl hR' hO' hU';generalize ss[q]=st at *;obtain ⟨wd,sa,sb2⟩:=st;simp only [pkC]at s0 s1 s2 cR;go_wp2_with fail
        refine cR.mono ?_;rintro e w7 ⟨rfl,u7,hS7,hR7,hf7⟩;have hRF:=HRA.out.trans hR7 (.inl rfl);have HS7:=hideK hS7;have HT7:=hideK (HSTI.out.keep hRF (hf7.imp id fun f j hj=>Nat.le_trans (by simp) (f j hj)))
        have HR7:=hideK (HRR.out.keepC (hRF.block w.heap.size (by have:=HLW.out;omega) (by omega) (by omega) (fun e=>by have:=HUU.out _ e.symm;omega)))
        have HO7:=hideK (HOO.out.keepC (hRF.block (w.heap.size+1) (by have:=HLW.out;omega) (by omega) (by omega) (fun e=>by have:=HUU.out _ e.symm;omega)))
        have HU7:=hideK (show ∀j,u7.ownBlock=some j→w.heap.size+2≤j from fun j hj=>by
         rcases hf7 with q|q
         ·exact HUU.out j (q ▸ hj)
         ·have h1:=q j hj;have:=HLW.out;simp at h1;omega)
        clear cR hS7 hR7 hf7 s0 s1 s2 HRA HSTI hRF;go_wp2_with fail
        go_roundw
        case rel=>exact ⟨q+1,_,u7,by omega,by go_num,HFT.out,HS7.out,HADD.out,⟨v,HOLD.out,HVP.out⟩,HT7.out,HR7.out,HO7.out,HU7.out⟩
        case measure=>simp [intOf];omega
       ·have hqz:¬(q:Int)<(ss.length:Int):=by omega
        have hqe:q=ss.length:=by omega
        subst hqe;rw [List.take_length]at har;have HAR:=hideK (show arr'=onG (nextC g h) k arr (pa,pb) from by rw [har,HNE.out];rfl)
        have hkl:k+1≤arr'.length:=(List.getElem?_eq_some_iff.1 hv').1;have HS9:=hideK hS';have HR9:=hideK hR';have HU9:=hideK hU';have HO9:=hideK (show OB3 wr (w.heap.size+1) (.bool false) (.bool (enW g arr' (k+1)).1) (.slice ow (enW g arr' (k+1)).2 oc) from by
         rw [enW_ext (g:=g) (k:=k+1) HSR.out.way (fun i v hv=>by rw [HAR.out];exact (foldG (k:=k) (nextC g h (pa,pb)) arr).1 i v hv) (by omega)]
         exact hO')
        clear har hv' hvp hS' hSR' hsti hR' hO' hU';go_wp2_with fail
        go_roundw
        case rel =>
         refine ⟨k+1,arr',u',ow,oc,by go_num,hkl,HS9.out,by rw [HAR.out];exact HNX.out,?_,HR9.out,HO9.out,HU9.out⟩
         rw [HAR.out,← HSO.out,show g.length*h.length - (k+1)+1=g.length*h.length - k by omega]
         exact HSRC.out
        case measure=>simp [intOf];omega
  ·have hltz:¬(k:Int)<(arr.length:Int):=by omega
   obtain rfl:k=arr.length:=by omega
   have HSO:=hideK (hsr.symm.trans (srG_stop (Nat.le_refl _)));have HSB:=hideK hS.bl;have HRR:=hideK hR;obtain ⟨r0,r1,r2,f0,f1,f2⟩:=hR;obtain ⟨o0,o1,o2,_,_,_⟩:=hO;have HLN:=hideK (show w.heap.size+2≤wr.heap.size from by have:=hS.hs;have:=hS.ls;omega)
   clear hS hSR hsr hU;generalize hew:enW g arr arr.length=ew at *;obtain ⟨e1,e2⟩:=ew;simp only at o1 o2;go_wp2_with fail
   refine cC.mono ?_;rintro e wc ⟨rfl,hwc⟩;obtain rfl:=hwc.symm;clear cC;go_wp2_with fail
   have TA:=(HRR.out).st (.bool false) (.bool e1) (.slice ow e2 oc);have TB:=st3_below (HSB.out) (Nat.le_refl _) (.bool false) (.bool e1) (.slice ow e2 oc);change OB3 (st3 wr w.heap.size (.bool false) (.bool e1) (.slice ow e2 oc)) _ _ _ _ at TA
   change Below _ _ (st3 wr w.heap.size (.bool false) (.bool e1) (.slice ow e2 oc)) at TB
   change bodyPost _ _ _ _ _ (st3 wr w.heap.size (.bool false) (.bool e1) (.slice ow e2 oc))
   generalize st3 wr w.heap.size (.bool false) (.bool e1) (.slice ow e2 oc)=W9 at TA TB ⊢;obtain ⟨t0,t1,t2,_,_,_⟩:=TA;refine bodyPost_ret (v:=.agg #[.bool false,.bool e1,.slice ow e2 oc]) (by simp [results,Tryz.results12,go_sem,t0,t1,t2]) rfl ?_
   exact ⟨.inr ⟨arr,HSO.out,ow,oc,by rw [hew]⟩,TB⟩
end Go.Proofs.YtnedgkcejlhnbaaGreatDoor
