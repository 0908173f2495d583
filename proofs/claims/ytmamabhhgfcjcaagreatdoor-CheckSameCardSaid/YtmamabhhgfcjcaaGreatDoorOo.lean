/-
  The contracts of graph.Of and check.endOf once more: what they make is new.
-/
import Derived.Test.YtmamabhhgfcjcaaGreatDoorOqa
import Derived.Maps.AppendAt
set_option maxRecDepth 100000
set_option maxHeartbeats 16000000
namespace Go.Proofs.YtmamabhhgfcjcaaGreatDoor
open Go.RowKit Go.Shelf
theorem ofN_any(d:Nat)(t:Ty)(al:OAd)(cl:Nat)(ak:OAd)(ck:Nat)(w:World)(hbd:TyBd t cl ck)(hla:LA w w.heap.size t.labels al)(hkt:KT w w.heap.size d t.kids ak)(hz:chkTy t=0):
  Calls Tryz.prog 9 #[tyVal t al cl ak ck] w fun e w'=>(∃g ag cg,OFG t g∧e = .returned (.tuple #[.slice ag g.length cg,.int .i64 0])∧GAN w' (fun b=>w.heap.size≤b∧b<w'.heap.size) g ag)∧Below w.heap.size w w':=by
 have hA:Below w.heap.size w (w.alloc (.cells #[.int .i64 t.kind,.int .i64 t.so,.string t.name,.slice al t.labels.length cl,.slice ak t.kids.length ck] 37)):=(bR _ _).alloc (nR _) _;have cC:=typesCheck_any d t al cl ak ck _ hbd (NAt.mono hA.size (NAt.keep hA hla)) (KT.mono hA.size (KT.keep hA hkt));rw [hz]at cC;obtain ⟨hw,hsz⟩:=chkTy_good t hz;have CW:=hideK (fun (W:World) (hb:Below w.heap.size w W)=>laid_any d t al cl ak ck W hbd ((hla.keep hb).mono hb.size) ((hkt.keep hb).mono hb.size) hw hsz)
 have CL:=hideK (fun (W:World) ag cg (hga:GAt W W.heap.size (layP t [] 0).2 ag)=>least_loopN (layP t [] 0).2 ag cg W.heap.size W (lay_gn hz).gr hga (nR _))
 simp only [tyVal]at cC CW ⊢;have HZ:=hideK hz;clear hbd hla hkt hz hw hsz hA;go_enter Tryz.func9,Tryz.ntmps9
 go_wp2_with fail
 refine cC.mono ?_;rintro e w1 ⟨rfl,hb1⟩;obtain ⟨x0,x1,x2,x3,x4,hbw⟩:=keep5 hb1;have cW:=CW.out w1 hbw;have HB:=hideK hbw;clear cC CW hbw;go_wp2_with fail
 refine cW.mono ?_;rintro e w2 ⟨⟨ag,cg,rfl,hga⟩,hb2⟩;have cL:=CL.out w2 ag cg hga;have HB2:=hideK (HB.out.trans (hb2.mono HB.out.size));clear cW CL hga hb2;generalize hG:(layP t [] 0).2=G at *;go_wp2_with fail
 refine cL.mono ?_;rintro e w3 ⟨⟨c,hc,ao,co,rfl,_,hg3'⟩,hb3⟩;have hg3:=hg3'.keep (W':=w3) (Q:=fun b=>w.heap.size≤b∧b<w3.heap.size) (fun _ _ _=>rfl) (fun b hb=>⟨Nat.le_trans HB2.out.size hb.1,hb.2⟩)
 clear hg3';have HB3:=hideK (HB2.out.trans (hb3.mono HB2.out.size));have HC:=hideK hc;have HG3:=hideK hg3;clear cL hc hg3 hb3;generalize hgl:leastG G c=g at *;go_wp2_with fail
 go_ret2
 exact ⟨⟨g,_,_,⟨HZ.out,c,by rw [hG];exact HC.out,by rw [hG];exact hgl.symm⟩,rfl,HG3.out⟩,HB3.out⟩
theorem enOfN_any(d:Nat)(t:Ty)(al:OAd)(cl:Nat)(ak:OAd)(ck:Nat)(w:World)(hbd:TyBd t cl ck)(hla:LA w w.heap.size t.labels al)(hkt:KT w w.heap.size d t.kids ak)(hz:chkTy t=0):
  Calls Tryz.prog 38 #[tyVal t al cl ak ck] w fun e w'=>(∃g ag cg,OFG t g∧e = .returned (.tuple #[enVal ⟨g,0⟩ ag cg,.int .i64 0])∧GAN w' (fun b=>w.heap.size≤b∧b<w'.heap.size) g ag)∧Below w.heap.size w w':=by
 have HX0:=hideK (TEB.new w t al cl ak ck);have hA:=HX0.out.bl;have c:=ofN_any d t al cl ak ck ((w.alloc (.cells #[.int .i64 t.kind,.int .i64 t.so,.string t.name,.slice al t.labels.length cl,.slice ak t.kids.length ck] 37)).alloc (.cells #[.slice none 0 0,.int .i64 0] 90)) hbd (NAt.mono hA.size (NAt.keep hA hla)) (KT.mono hA.size (KT.keep hA hkt)) hz;have hsz:((w.alloc (.cells #[.int .i64 t.kind,.int .i64 t.so,.string t.name,.slice al t.labels.length cl,.slice ak t.kids.length ck] 37)).alloc (.cells #[.slice none 0 0,.int .i64 0] 90)).heap.size=w.heap.size+1+1:=by simp
 rw [hsz]at c;simp only [tyVal,enVal]at c ⊢;clear hbd hla hkt hA;go_enter Tryz.func38,Tryz.ntmps38
 go_wp2_with fail
 refine c.mono ?_;rintro e w1 ⟨⟨g,ag,cg,ho,rfl,hga'⟩,hb1⟩;rw [← hsz]at hb1;have hgn:=ho.gn;have HX:=hideK (HX0.out.keep hb1);have hga:=hga';clear c hb1 HX0;obtain ⟨hbl,hlt,z0,z1,zf⟩:=HX.out;have f0:=zf 0;have f1:=zf 1;have hn:g.length≤200:=hgn.le;have HG:=hideK (And.intro hgn hga);have HO:=hideK ho;clear zf hga hgn ho hga';go_wp2_with fail
 obtain ⟨r0,r1⟩:=st2_at (.slice ag g.length cg) (.int .i64 0) z0 z1;have HB:=hideK ((hbl.setCell (p:=⟨w.heap.size+1,0,none⟩) (Nat.le_succ _) (.slice ag g.length cg)).setCell (p:=⟨w.heap.size+1,1,none⟩) (Nat.le_succ _) (.int .i64 0));have HGA:=hideK (HG.out.2.keep (W':=(w1.setCell ⟨w.heap.size+1,0,none⟩ (.slice ag g.length cg)).setCell ⟨w.heap.size+1,1,none⟩ (.int .i64 0)) (Q:=fun b=>w.heap.size≤b∧b<((w1.setCell ⟨w.heap.size+1,0,none⟩ (.slice ag g.length cg)).setCell ⟨w.heap.size+1,1,none⟩ (.int .i64 0)).heap.size) (fun b o hb=>(World.cell?_setCell_other _ _ _ _ (fun e=>by injection e with e _;have:=hb.1;omega)).trans (World.cell?_setCell_other _ _ _ _ (fun e=>by injection e with e _;have:=hb.1;omega))) (fun b hb=>⟨by have:=hb.1;omega,by rw [World.size_setCell,World.size_setCell];exact hb.2⟩))
 generalize (w1.setCell ⟨w.heap.size+1,0,none⟩ (.slice ag g.length cg)).setCell ⟨w.heap.size+1,1,none⟩ (.int .i64 0)=W9 at *;refine bodyPost_ret (v:=.tuple #[.agg #[.slice ag g.length cg,.int .i64 0],.int .i64 0]) (by simp [results,Tryz.results38,go_sem,r0,r1]) rfl ?_
 exact ⟨⟨g,ag,cg,HO.out,rfl,HGA.out⟩,HB.out⟩
def ECs(l:List (En × OAd × Nat)):List Value:=l.flatMap fun t=>[.slice t.2.1 t.1.g.length t.2.2,.int .i64 (t.1.k:Int)]
theorem ECs_app(l m:List (En × OAd × Nat)):ECs (l++m)=ECs l++ECs m:=by unfold ECs;rw [List.flatMap_append]
theorem ECs_at(l:List (En × OAd × Nat)):∀(i:Nat) (h:i<l.length),(ECs l)[i*2]? = some (.slice l[i].2.1 l[i].1.g.length l[i].2.2)∧(ECs l)[i*2+1]? = some (.int .i64 (l[i].1.k:Int)):=by
 induction l with
 | nil=>intro i h;simp at h
 | cons t l ih =>
  intro i h;match i with
  | 0=>exact ⟨rfl,rfl⟩
  | i+1 =>
   have:=ih i (by simpa using h)
   rw [show (i+1)*2=i*2+1+1 by omega]
   exact this
def EnG(W:World)(P:Nat→Prop)(t:En × OAd × Nat):Prop:=GN t.1.g∧t.1.k<t.1.g.length∧GAN W P t.1.g t.2.1
structure HIN(wr:World)(d:Df)(a:DfA)(l:List (En × OAd × Nat))(v:Value)(W:World):Prop where
 bl:Below wr.heap.size wr W
 lt:wr.heap.size+1<W.heap.size
 dat:DfAt W wr.heap.size 0 d a
 h0:W.cell? ⟨wr.heap.size+1,0,none⟩=some (.slice a.va d.vals.length a.vc)
 h1:W.cell? ⟨wr.heap.size+1,1,none⟩=some (.slice a.sa d.sorts.length a.sc)
 h2:W.cell? ⟨wr.heap.size+1,2,none⟩=some (.slice a.ca d.chans.length a.cc)
 h3:W.cell? ⟨wr.heap.size+1,3,none⟩=some v
 f:∀o,W.frozen? ⟨wr.heap.size+1,o,none⟩=false
 own:W.ownsRow (wr.heap.size+1+1) 90 2 v l.length (ECs l)
 gn:∀t∈l,EnG W (fun b=>wr.heap.size+1+1≤b∧b<W.heap.size∧v.ownBlock≠some b) t
theorem own_below{W W':World}{base:Nat}{e:TypeId}{z n:Nat}{v:Value}{xs:List Value}(h:W.ownsRow base e z v n xs)(hb:Below W.heap.size W W'):W'.ownsRow base e z v n xs:=by
 refine ⟨h.1,h.2.imp id fun ⟨g,cap,cur,q1,q2,q3,q4⟩=>⟨g,cap,cur,q1,q2,?_,q4⟩⟩
 rw [hb.block g (Array.getElem?_eq_some_iff.1 q3).1];exact q3
theorem HIN.keep{wr:World}{d:Df}{a:DfA}{l:List (En × OAd × Nat)}{v:Value}{W W':World}(h:HIN wr d a l v W)(hb:Below W.heap.size W W'):HIN wr d a l v W':=by
 have hs:=hb.size;have hl:=h.lt;have q:∀k o,k<W.heap.size→W'.cell? ⟨k,o,none⟩=W.cell? ⟨k,o,none⟩:=fun k o q=>hb.cell (p:=⟨k,o,none⟩) q
 exact ⟨h.bl.trans (hb.mono h.bl.size),by omega,h.dat.keep hb (by omega),(q _ _ (by omega)).trans h.h0,(q _ _ (by omega)).trans h.h1,(q _ _ (by omega)).trans h.h2,(q _ _ (by omega)).trans h.h3,fun o=>(hb.frozen (p:=⟨wr.heap.size+1,o,none⟩) (by show wr.heap.size+1<_;omega)).trans (h.f o),own_below h.own hb,fun t ht=>⟨(h.gn t ht).1,(h.gn t ht).2.1,(h.gn t ht).2.2.keep (fun b o hp=>q b o hp.2.1) (fun b hp=>⟨hp.1,by omega,hp.2.2⟩)⟩⟩
theorem HIN.new(wr:World)(d:Df)(a:DfA):HIN wr d a [] (.slice none 0 0) ((wr.alloc (dfBx d a)).alloc (.cells #[.slice a.va d.vals.length a.vc,.slice a.sa d.sorts.length a.sc,.slice a.ca d.chans.length a.cc,.slice none 0 0] 73)):=by
 have hb:Below (wr.alloc (dfBx d a)).heap.size (wr.alloc (dfBx d a)) ((wr.alloc (dfBx d a)).alloc (.cells #[.slice a.va d.vals.length a.vc,.slice a.sa d.sorts.length a.sc,.slice a.ca d.chans.length a.cc,.slice none 0 0] 73)):=(bR _ _).alloc (nR _) _;have hz:(wr.alloc (dfBx d a)).heap.size=wr.heap.size+1:=by simp
 have c:∀o,((wr.alloc (dfBx d a)).alloc (.cells #[.slice a.va d.vals.length a.vc,.slice a.sa d.sorts.length a.sc,.slice a.ca d.chans.length a.cc,.slice none 0 0] 73)).cell? ⟨wr.heap.size+1,o,none⟩=(#[.slice a.va d.vals.length a.vc,.slice a.sa d.sorts.length a.sc,.slice a.ca d.chans.length a.cc,.slice none 0 0]:Array Value)[o]?:=fun o=>by
  rw [← hz];exact World.cell?_alloc_at _ _ _ _ rfl
 exact ⟨((bR _ _).alloc (nR _) _).alloc (by simp) _,by simp,(dfBx_at wr d a).keep hb (by simp),c 0,c 1,c 2,c 3,fun o=>by go_simp,World.ownsRow_nil _ _ _ _,fun t ht=>by cases ht⟩
theorem HIN.app{wr:World}{d:Df}{a:DfA}{l:List (En × OAd × Nat)}{v:Value}{W4 W5:World}(h:HIN wr d a l v W4){t:En × OAd × Nat}{v':Value}{N0:Nat}(ho:W5.ownsRow (wr.heap.size+1+1) 90 2 v' (l.length+1) (ECs l++[.slice t.2.1 t.1.g.length t.2.2,.int .i64 (t.1.k:Int)]))(hg:W4.grownBy W5 v.ownBlock)(hv:v'.ownBlock=v.ownBlock∨v'.ownBlock=some W4.heap.size)(hN:wr.heap.size+1+1≤N0)(hN2:∀g,v.ownBlock=some g→g<N0)(ht:EnG W4 (fun b=>N0≤b∧b<W4.heap.size) t):HIN wr d a (l++[t]) v' (W5.setCell ⟨wr.heap.size+1,3,none⟩ v'):=by
 have hob:∀g,v.ownBlock=some g→wr.heap.size+1+1≤g∧g<W4.heap.size:=by
  intro g hg;rcases own_cells h.own with ⟨e,_,_⟩|⟨g',cap,e,q1,q2,_⟩
  ·rw [e]at hg;cases hg
  ·rw [e]at hg;cases hg;exact ⟨q1,q2⟩
 have hsz:=hg.size;have hlt:=h.lt;have b5:∀k,k<W4.heap.size→v.ownBlock≠some k→W5.heap[k]? = W4.heap[k]?:=fun k hk hne=>hg.block k hk (fun e=>hne e.symm)
 have c5:∀k o,k<W4.heap.size→v.ownBlock≠some k→W5.cell? ⟨k,o,none⟩=W4.cell? ⟨k,o,none⟩:=fun k o hk hne=>World.cell?_of_block (a:=⟨k,o,none⟩) (b5 k hk hne)
 have lo:∀k,k<wr.heap.size+1+1→v.ownBlock≠some k:=fun k hk e=>by have:=(hob k e).1;omega
 have c6:∀k o,(k≠wr.heap.size+1∨o≠3)→(W5.setCell ⟨wr.heap.size+1,3,none⟩ v').cell? ⟨k,o,none⟩=W5.cell? ⟨k,o,none⟩:=fun k o q=>World.cell?_setCell_other _ _ _ _ (fun e=>by injection e with e1 e2;omega)
 have h3:W5.cell? ⟨wr.heap.size+1,3,none⟩=some v:=(c5 _ _ hlt (lo _ (by omega))).trans h.h3
 refine ⟨(h.bl.grown hg h.bl.size (fun k e=>by have:=(hob k e).1;omega)).setCell (p:=⟨wr.heap.size+1,3,none⟩) (Nat.le_succ _) _,by rw [World.size_setCell];omega,fun j hj=>?_,?_,?_,?_,World.cell?_setCell_same _ _ _ h3,fun o=>?_,?_,?_⟩
 ·rw [c6 _ _ (by omega),c5 _ _ (by omega) (lo _ (by omega))];exact h.dat j hj
 ·rw [c6 _ _ (by omega),c5 _ _ hlt (lo _ (by omega))];exact h.h0
 ·rw [c6 _ _ (by omega),c5 _ _ hlt (lo _ (by omega))];exact h.h1
 ·rw [c6 _ _ (by omega),c5 _ _ hlt (lo _ (by omega))];exact h.h2
 ·rw [World.frozen?_setCell,World.frozen?_of_block (a:=⟨wr.heap.size+1,o,none⟩) (b5 (wr.heap.size+1) hlt (lo (wr.heap.size+1) (by omega)))];exact h.f o
 ·rw [ECs_app,List.length_append]
  refine ⟨ho.1,ho.2.imp id fun ⟨g,cap,cur,q1,q2,q3,q4⟩=>⟨g,cap,cur,q1,q2,?_,q4⟩⟩
  rw [Go.Deep.blk_setCell_other _ _ _ _ (show g≠wr.heap.size+1 by omega)];exact q3
 ·have nv:∀b,b<W4.heap.size→v.ownBlock≠some b→v'.ownBlock≠some b:=fun b hb hne e=>by
   rcases hv with q|q
   ·rw [q]at e;exact hne e
   ·rw [q]at e;injection e with e;omega
  intro u hu;rcases List.mem_append.1 hu with hu|hu
  ·obtain ⟨q1,q2,q3⟩:=h.gn u hu
   exact ⟨q1,q2,q3.keep (fun b o hp=>(c6 _ _ (by have:=hp.1;omega)).trans (c5 _ _ hp.2.1 hp.2.2)) (fun b hp=>⟨hp.1,by rw [World.size_setCell];have:=hp.2.1;omega,nv b hp.2.1 hp.2.2⟩)⟩
  ·obtain rfl:=List.mem_singleton.1 hu
   obtain ⟨q1,q2,q3⟩:=ht;have ne:∀b,N0≤b→v.ownBlock≠some b:=fun b hb e=>by have:=hN2 b e;omega
   exact ⟨q1,q2,q3.keep (fun b o hp=>(c6 _ _ (by have:=hp.1;omega)).trans (c5 _ _ hp.2 (ne b hp.1))) (fun b hp=>⟨by have:=hp.1;omega,by rw [World.size_setCell];have:=hp.2;omega,nv b hp.2 (ne b hp.1)⟩)⟩
theorem HIN.ens{wr:World}{d:Df}{a:DfA}{l:List (En × OAd × Nat)}{v:Value}{W:World}(h:HIN wr d a l v W):∃ea ec,v = .slice ea l.length ec∧EnsAt W (l.map (·.1)) ea:=by
 rcases own_cells h.own with ⟨e,h0,_⟩|⟨g,cap,e,q1,q2,hc⟩
 ·exact ⟨none,0,by rw [e,h0],.inl (by rw [List.length_eq_zero_iff.1 h0];rfl)⟩
 ·refine ⟨_,_,e,.inr ⟨g,0,rfl,q2,fun i hi=>?_⟩⟩
  have hi':i<l.length:=by simpa using hi
  obtain ⟨e1,e2⟩:=ECs_at l i hi';obtain ⟨k1,k2,k3⟩:=h.gn l[i] (List.getElem_mem hi');rw [List.getElem_map];exact ⟨l[i].2.1,l[i].2.2,by rw [Nat.zero_add];exact hc _ _ e1,by rw [Nat.zero_add];exact hc _ _ e2,k1,k2,k3.gat (fun b hp=>hp.2.1)⟩
theorem GAt.cells{W W':World}{B:Nat}{g:List Nd}{ag:OAd}(h:GAt W B g ag)(hc:∀b o,W'.cell? ⟨b,o,none⟩=W.cell? ⟨b,o,none⟩):GAt W' B g ag:=by
 have np:∀ {vs:List Value} {a:OAd},NAt W B vs a→NAt W' B vs a:=fun h=>h.imp id fun ⟨b,o,e,hp,hh⟩=>⟨b,o,e,hp,fun i hi=>(hc _ _).trans (hh i hi)⟩
 exact h.imp id fun ⟨b,o,e,hl,hh⟩=>⟨b,o,e,hl,fun i hi=>by
  obtain ⟨al,cl,at1,ct,h1,h2,h3⟩:=hh i hi;exact ⟨al,cl,at1,ct,⟨(hc _ _).trans h1.c0,(hc _ _).trans h1.c1,(hc _ _).trans h1.c2,(hc _ _).trans h1.c3⟩,np h2,np h3⟩⟩
theorem EnsAt.cells{W W':World}{ys:List En}{ea:OAd}(h:EnsAt W ys ea)(hc:∀b o,W'.cell? ⟨b,o,none⟩=W.cell? ⟨b,o,none⟩)(hs:W'.heap.size=W.heap.size):EnsAt W' ys ea :=
 h.imp id fun ⟨b,o,e,hl,hh⟩=>⟨b,o,e,by rw [hs];exact hl,fun i hi=>by
  obtain ⟨ag,cg,h0,h1,h2⟩:=hh i hi;exact ⟨ag,cg,(hc _ _).trans h0,(hc _ _).trans h1,h2.gn,h2.k,by rw [hs];exact h2.ga.cells hc⟩⟩
def hdE(a:DfA)(ea:OAd)(ec:Nat):HdA:=⟨a.va,a.vc,a.sa,a.sc,a.ca,a.cc,ea,ec⟩
structure HOU(gr:Ty→List Nd)(w:World)(mb:Nat)(F:List (Df × HdA))(W:World):Prop where
 bl:Below w.heap.size w W
 lt:mb<W.heap.size
 sm:SMv W mb (F.map fun t=>(t.1.name,hdVal t.1 t.2 t.1.tys.length))
 ok:∀t∈F,NmsAt w w.heap.size t.1.vals t.2.va t.2.vc∧NAt w w.heap.size (t.1.sorts.map (Value.int .i64)) t.2.sa∧t.1.sorts.length≤t.2.sc∧t.2.sc≤9223372036854775807∧NmsAt w w.heap.size t.1.chans t.2.ca t.2.cc∧EnsAt W (endsD gr t.1) t.2.ea
theorem mapH:Tryz.prog.underlying 64=some (.map 9 73):=by kernel_rfl
theorem zeroHd(w:World):(zeroValue 73).run Tryz.prog w = .ok (.agg #[.slice none 0 0,.slice none 0 0,.slice none 0 0,.slice none 0 0]) w:=by
 have h:(Tryz.prog.info? 73).map (·.zero)=some (some (.agg #[.slice none 0 0,.slice none 0 0,.slice none 0 0,.slice none 0 0])):=by kernel_rfl
 cases hq:Tryz.prog.info? 73 with
 | none=>rw [hq]at h;cases h
 | some i =>
  rw [hq]at h;have hz:i.zero=some (.agg #[.slice none 0 0,.slice none 0 0,.slice none 0 0,.slice none 0 0]):=Option.some.inj h;simp [zeroValue,typeInfo,hq,hz]
theorem HF_get(F:List (Df × HdA))(n:ByteArray):(getV (F.map fun t=>(t.1.name,hdVal t.1 t.2 t.1.tys.length)) n=none∧hdOf (F.map (·.1)) n=none)∨∃t∈F,getV (F.map fun t=>(t.1.name,hdVal t.1 t.2 t.1.tys.length)) n=some (hdVal t.1 t.2 t.1.tys.length)∧hdOf (F.map (·.1)) n=some t.1:=by
 induction F with
 | nil=>exact .inl ⟨rfl,rfl⟩
 | cons t F ih =>
  rw [List.map_cons,List.map_cons,getV_cons];have hh:hdOf (t.1::F.map (·.1)) n=if t.1.name=n then some t.1 else hdOf (F.map (·.1)) n:=by
   unfold hdOf;rw [List.find?_cons];by_cases q:t.1.name=n <;> simp [q]
  rw [hh];by_cases h:t.1.name=n
  ·rw [if_pos h,if_pos h]
   exact .inr ⟨t,List.mem_cons_self,rfl,rfl⟩
  ·rw [if_neg h,if_neg h]
   exact ih.imp id fun ⟨u,hu,q⟩=>⟨u,List.mem_cons_of_mem _ hu,q⟩
theorem HOU.hds{gr:Ty→List Nd}{w:World}{mb:Nat}{F:List (Df × HdA)}{W:World}(h:HOU gr w mb F W):HDS gr (F.map (·.1)) (some mb) W:=by
 intro n hn;rcases HF_get F n with ⟨q1,q2⟩|⟨t,ht,q1,q2⟩
 ·exact .inl ⟨q2,fun V hV=>look_no mapH (h.sm.keep hV h.lt) hn q1 (zeroHd V)⟩
 ·obtain ⟨k1,k2,k3,k4,k5,k6⟩:=h.ok t ht
  refine .inr ⟨t.1,t.2,q2,⟨(k1.keep h.bl).mono h.bl.size,NAt.mono h.bl.size (NAt.keep h.bl k2),k3,k4,(k5.keep h.bl).mono h.bl.size,k6⟩,fun V hV=>?_⟩
  rw [show (endsD gr t.1).length=t.1.tys.length from by simp [endsD]]
  exact look_yes mapH (h.sm.keep hV h.lt) hn q1
theorem HOU.upd{gr:Ty→List Nd}{w:World}{mb:Nat}{F:List (Df × HdA)}{W:World}(h:HOU gr w mb F W)(hmb:w.heap.size≤mb)(d:Df)(e:HdA)(hn:d.name.size≤maxLen)(hne:∀t∈F,t.1.name≠d.name)
  (hok:NmsAt w w.heap.size d.vals e.va e.vc∧NAt w w.heap.size (d.sorts.map (Value.int .i64)) e.sa∧d.sorts.length≤e.sc∧e.sc≤9223372036854775807∧NmsAt w w.heap.size d.chans e.ca e.cc∧EnsAt W (endsD gr d) e.ea) :
  ∃W',(Instr.mapUpdate 64 (.map (some mb)) (.string d.name) (hdVal d e d.tys.length)).run Tryz.prog W = .ok () W'∧HOU gr w mb (F++[(d,e)]) W':=by
 obtain ⟨W',hr,hg,hs,hm⟩:=sm_upd mapH h.sm hn (hdVal d e d.tys.length);have hnm:d.name ∉ (F.map fun t=>(t.1.name,hdVal t.1 t.2 t.1.tys.length)).map (·.1):=by
  rw [List.map_map];intro q;obtain ⟨t,ht,e⟩:=List.mem_map.1 q;exact hne t ht e
 have hput:putV (F.map fun t=>(t.1.name,hdVal t.1 t.2 t.1.tys.length)) d.name (hdVal d e d.tys.length)=(F++[(d,e)]).map fun t=>(t.1.name,hdVal t.1 t.2 t.1.tys.length):=by
  unfold putV;rw [delV_self hnm,List.map_append];rfl
 rw [hput]at hm;have hc:∀b o,W'.cell? ⟨b,o,none⟩=W.cell? ⟨b,o,none⟩:=fun b o=>by
  by_cases hb:b=mb
  ·subst hb
   obtain ⟨es1,c1,q1,_⟩:=hm;obtain ⟨es2,c2,q2,_⟩:=h.sm;simp [World.cell?,q1,q2]
  ·by_cases hl:b<W.heap.size
   ·exact World.cell?_of_block (a:=⟨b,o,none⟩) (hg.block b hl (fun e=>hb (by injection e)))
   ·have q1:W.heap[b]? = none:=Array.getElem?_eq_none (by omega)
    have q2:W'.heap[b]? = none:=Array.getElem?_eq_none (by omega)
    simp [World.cell?,q1,q2]
 refine ⟨W',hr,⟨h.bl.grown hg h.bl.size (fun k e=>by injection e with e;omega),by rw [hs];exact h.lt,hm,fun t ht=>?_⟩⟩
 rcases List.mem_append.1 ht with ht|ht
 ·obtain ⟨k1,k2,k3,k4,k5,k6⟩:=h.ok t ht
  exact ⟨k1,k2,k3,k4,k5,k6.cells hc hs⟩
 ·obtain rfl:=List.mem_singleton.1 ht
  obtain ⟨k1,k2,k3,k4,k5,k6⟩:=hok;exact ⟨k1,k2,k3,k4,k5,k6.cells hc hs⟩
theorem HOU.keep{gr:Ty→List Nd}{w:World}{mb:Nat}{F:List (Df × HdA)}{W W':World}(h:HOU gr w mb F W)(hb:Below W.heap.size W W'):HOU gr w mb F W' :=
 ⟨h.bl.trans (hb.mono h.bl.size),nL h.lt hb.size,h.sm.keep hb h.lt,fun t ht=>by
  obtain ⟨k1,k2,k3,k4,k5,k6⟩:=h.ok t ht;exact ⟨k1,k2,k3,k4,k5,k6.keep hb⟩⟩
theorem infoEn:(Tryz.prog.info? 90).map (fun i=>(i.zero,i.size,i.bytes))=some (some (.agg #[.slice none 0 0,.int .i64 0]),2,32):=by kernel_rfl
theorem HIN.pre{wr:World}{d:Df}{a:DfA}{l:List (En × OAd × Nat)}{v:Value}{W4 W5:World}(h:HIN wr d a l v W4)(hg:W4.grownBy W5 v.ownBlock):W5.cell? ⟨wr.heap.size+1,3,none⟩=some v∧W5.frozen? ⟨wr.heap.size+1,3,none⟩=false:=by
 have hne:v.ownBlock≠some (wr.heap.size+1):=fun e=>by
  rcases own_cells h.own with ⟨q,_,_⟩|⟨g',cap,q,q1,q2,_⟩
  ·rw [q]at e;cases e
  ·rw [q]at e;injection e with e;simp only at e;omega
 have b5:W5.heap[wr.heap.size+1]? = W4.heap[wr.heap.size+1]?:=hg.block _ h.lt (fun e=>hne e.symm)
 exact ⟨(World.cell?_of_block (a:=⟨wr.heap.size+1,3,none⟩) b5).trans h.h3,(World.frozen?_of_block (a:=⟨wr.heap.size+1,3,none⟩) b5).trans (h.f 3)⟩
theorem headsOf_any(gr:Ty→List Nd)(hgr:∀t g,chkTy t=0→OFG t g→g=gr t)(ds:List Df)(ad:OAd)(cd B:Nat)(w:World)(hd:DfsAt w B ds ad)(hB:B≤w.heap.size)(hl:ds.length≤1000)(hty:∀d∈ds,∀t∈d.tys,chkTy t=0)(htl:∀d∈ds,d.tys.length≤1000)(hnd:∀i j (hi:i<ds.length) (hj:j<ds.length),i<j→ds[i].name≠ds[j].name):
  Calls Tryz.prog 23 #[.slice ad ds.length cd] w fun e w'=>(∃mb,e = .returned (.tuple #[.map (some mb),.int .i64 0])∧HDS gr ds (some mb) w')∧Below w.heap.size w w':=by
 obtain ⟨i0,hi,hz0,hz1,hz2⟩:=info_parts infoEn;have hlz:(ds.length:Int)≤1000:=by omega
 have hmm:=@run_makeMap Tryz.prog;have HD:=hideK hd;have HTY:=hideK hty;have HTL:=hideK htl;have HND:=hideK hnd;have H0:=hideK (show HOU gr w w.heap.size [] (w.alloc (.map #[] 0)) from ⟨(bR _ _).alloc (nR _) _,by simp,SMv.new w,fun t ht=>by cases ht⟩)
 clear hd hty htl hnd hl;go_enter Tryz.func23,Tryz.ntmps23
 go_wp2_with fail
 clear hmm;generalize hmb:w.heap.size=mb at H0 ⊢;have HMB:=hideK hmb;clear hmb;go_loopw [15] (fun i wr=>∃(k:Nat) (F:List (Df × HdA)),k≤ds.length∧i = .int .i64 (k:Int)∧F.map (·.1)=ds.take k∧HOU gr w mb F wr) (fun i _=>ds.length - (intOf i).toNat)
 case atStart=>exact ⟨0,[],Nat.zero_le _,rfl,rfl,H0.out⟩
 case round =>
  obtain ⟨k,F,hk,rfl,hF,hW⟩:=hrel;obtain ⟨wo,rfl⟩:∃x:World,x=wr:=⟨wr,rfl⟩;clear H0;by_cases hlt:k<ds.length
  ·have hltz:(k:Int)<(ds.length:Int):=by omega
   obtain ⟨b,o,rfl,hbB,hcs⟩:=HD.out.resolve_left (fun q=>by rw [q]at hlt;simp at hlt)
   obtain ⟨a',hat,hok⟩:=hcs k hlt;have hWB:=hW.bl.mono hB;have HAT:=hideK (hat.keep hWB hbB);have HOK:=hideK hok;have HTK:=hideK (HTY.out ds[k] (List.getElem_mem hlt));have htk:(ds[k].tys.length:Int)≤1000:=by have:=HTL.out ds[k] (List.getElem_mem hlt);omega
   have HFN:=hideK (show (∀t∈F,t.1.name≠ds[k].name)∧(F.map (·.1))++[ds[k]]=ds.take (k+1) from ⟨fun t ht e=>by
    have hm:t.1∈ds.take k:=by rw [← hF];exact List.mem_map.2 ⟨t,ht,rfl⟩
    obtain ⟨i,hi,he⟩:=List.mem_iff_getElem.1 hm;have hi':i<k:=by simp at hi;omega
    rw [List.getElem_take]at he;exact HND.out i k (by omega) hlt hi' (by rw [he];exact e),by rw [hF,List.take_succ_eq_append_getElem hlt]⟩)
   generalize ds[k]=d at *;have HW:=hideK hW;have HKL:=hideK hlt;have x1:=(dfBx_at wo d a').get (j:=1) (v:=.slice a'.va d.vals.length a'.vc) (by omega) rfl
   have x2:=(dfBx_at wo d a').get (j:=2) (v:=.slice a'.sa d.sorts.length a'.sc) (by omega) rfl
   have x3:=(dfBx_at wo d a').get (j:=3) (v:=.slice a'.ca d.chans.length a'.cc) (by omega) rfl
   clear hF hW hcs hat hok hWB;go_upto_region 4 with fail
   refine wp_region_lit ?_;refine wpList_plain rfl (fun K hK=>?_)
   go_simp
   refine hK _ _ ?_;clear hK K;refine wpList_loadW rfl rfl rfl (load_df HAT.out) ?_;simp only [Act.put,sA,sB,sC];refine wpList_allocW rfl rfl (alloc_df _) ?_;simp only [Act.put,sA,sB,sC];refine wpList_storeW rfl rfl rfl rfl (store_df _ d a') ?_;simp only [Act.put];go_upto_region 6 with fail
   have H6:=hideK (HIN.new wo d a');have hz6:(wo.alloc (dfBx d a')).heap.size=wo.heap.size+1:=by simp
   try rw [hz6]
   generalize (wo.alloc (dfBx d a')).alloc (.cells #[.slice a'.va d.vals.length a'.vc,.slice a'.sa d.sorts.length a'.sc,.slice a'.ca d.chans.length a'.cc,.slice none 0 0] 73)=V6 at *;clear x1 x2 x3 hz6 HAT;have x4:=H6.out.dat.get (j:=4) (v:=.slice a'.ta d.tys.length a'.tc) (by omega) rfl
   go_wp2_with fail
   go_loopw [29] (fun i wr=>∃(j:Nat) (l:List (En × OAd × Nat)) (v:Value),j≤d.tys.length∧i = .int .i64 (j:Int)∧l.map (·.1)=(d.tys.take j).map (fun t=>(⟨gr t,0⟩:En))∧HIN wo d a' l v wr) (fun i _=>d.tys.length - (intOf i).toNat)
   case atStart=>exact ⟨0,[],.slice none 0 0,Nat.zero_le _,rfl,rfl,H6.out⟩
   case round =>
    obtain ⟨j,l,v,hj,rfl,hlm,hI⟩:=hrel;clear x4 H6;by_cases hltj:j<d.tys.length
    ·have hltz2:(j:Int)<(d.tys.length:Int):=by omega
     obtain ⟨dd,hkt⟩:=HOK.out.tys.kt;obtain ⟨tb,tof,tal,tcl,tak,tck,hta,htb,htat,htbd,htla,htkt⟩:∃b o al cl ak ck,a'.ta=some ⟨b,o,none⟩∧b<B∧TyAt w b (o+j*5) d.tys[j] al cl ak ck∧TyBd d.tys[j] cl ck∧LA w B d.tys[j].labels al∧∃e,KT w B e d.tys[j].kids ak:=by
      cases dd with
      | zero=>simp only [KT]at hkt;rw [hkt]at hltj;simp at hltj
      | succ dd =>
       rcases hkt with hkt|⟨b,o,e,hbB,hkt⟩
       ·rw [hkt]at hltj;simp at hltj
       ·obtain ⟨al,cl,ak,ck,h1,h2,h3,h4⟩:=hkt j hltj
        exact ⟨b,o,al,cl,ak,ck,e,hbB,h1,h2,h3,dd,h4⟩
     have hBQ:Below w.heap.size w wr:=HW.out.bl.trans (hI.bl.mono HW.out.bl.size);obtain ⟨y0,y1,y2,y3,y4⟩:=htat.keep (hBQ.mono hB) htb;have hzt:=HTK.out d.tys[j] (List.getElem_mem hltj);have HTS:=hideK (show (d.tys.take (j+1)).map (fun t=>(⟨gr t,0⟩:En))=(d.tys.take j).map (fun t=>(⟨gr t,0⟩:En))++[⟨gr d.tys[j],0⟩] from by rw [List.take_succ_eq_append_getElem hltj,List.map_append];rfl)
     obtain ⟨te,htkt⟩:=htkt;have hgn:∀g,OFG d.tys[j] g→GN g:=fun g h=>h.gn
     generalize d.tys[j]=t at *;have hA1:Below wr.heap.size wr (wr.alloc (.cells #[.int .i64 t.kind,.int .i64 t.so,.string t.name,.slice tal t.labels.length tcl,.slice tak t.kids.length tck] 37)):=(bR _ _).alloc (nR _) _;have hB1:=hBQ.trans (hA1.mono hBQ.size);have hBB:=hB1.mono hB;have hBz:B≤(wr.alloc (.cells #[.int .i64 t.kind,.int .i64 t.so,.string t.name,.slice tal t.labels.length tcl,.slice tak t.kids.length tck] 37)).heap.size:=Nat.le_trans hB hB1.size;have cE:Calls Tryz.prog 38 #[tyVal t tal tcl tak tck] (wr.alloc (.cells #[.int .i64 t.kind,.int .i64 t.so,.string t.name,.slice tal t.labels.length tcl,.slice tak t.kids.length tck] 37)) fun e w'=>(∃y ag cg,y=(⟨gr t,0⟩:En)∧GN y.g∧y.k<y.g.length∧e = .returned (.tuple #[enVal y ag cg,.int .i64 0])∧GAN w' (fun b=>(wr.alloc (.cells #[.int .i64 t.kind,.int .i64 t.so,.string t.name,.slice tal t.labels.length tcl,.slice tak t.kids.length tck] 37)).heap.size≤b∧b<w'.heap.size) y.g ag)∧Below (wr.alloc (.cells #[.int .i64 t.kind,.int .i64 t.so,.string t.name,.slice tal t.labels.length tcl,.slice tak t.kids.length tck] 37)).heap.size (wr.alloc (.cells #[.int .i64 t.kind,.int .i64 t.so,.string t.name,.slice tal t.labels.length tcl,.slice tak t.kids.length tck] 37)) w' :=
      (enOfN_any te t tal tcl tak tck (wr.alloc (.cells #[.int .i64 t.kind,.int .i64 t.so,.string t.name,.slice tal t.labels.length tcl,.slice tak t.kids.length tck] 37)) htbd (NAt.mono hBz (NAt.keep hBB htla)) (KT.mono hBz (KT.keep hBB htkt)) hzt).mono fun e w' ⟨⟨g,ag,cg,ho,he,hga⟩,hb⟩=>⟨⟨⟨g,0⟩,ag,cg,by rw [hgr t g hzt ho],ho.gn,ho.gn.pos,he,hga⟩,hb⟩
     have HI:=hideK (hI.keep hA1);have HLM:=hideK hlm;have HKJ:=hideK hltj;have HOB:=hideK (show ∀g,v.ownBlock=some g→g<(wr.alloc (.cells #[.int .i64 t.kind,.int .i64 t.so,.string t.name,.slice tal t.labels.length tcl,.slice tak t.kids.length tck] 37)).heap.size from fun g hg=>by
      rcases own_cells hI.own with ⟨q,_,_⟩|⟨g',cap,q,q1,q2,_⟩
      ·rw [q]at hg;cases hg
      ·rw [q]at hg;cases hg;simp;omega)
     have HLL:=hideK (show l.length≤1000 from by have:=congrArg List.length hlm;simp at this;omega)
     have hzz:wo.heap.size+1+1≤(wr.alloc (.cells #[.int .i64 t.kind,.int .i64 t.so,.string t.name,.slice tal t.labels.length tcl,.slice tak t.kids.length tck] 37)).heap.size:=by have:=hI.lt;simp;omega
     have HZ1:=hideK hzz;rw [hta];simp only [tyVal,enVal]at cE;clear hlm hI hkt htat htbd htla htkt hzt hgn hBQ hA1 hB1 hBB hBz hzz hta htb;go_wp2_with fail
     refine cE.mono ?_;rintro e w2 ⟨⟨y,ag,cg,hy,hyn,hyk,rfl,hgan⟩,hb2⟩;have HI2:=hideK (HI.out.keep hb2);have HY:=hideK (And.intro hy (And.intro hyn hyk));have HGA:=hideK hgan;clear cE hb2 HI hy hyn hyk hgan y0 y1 y2 y3 y4;go_upto_region 12 with fail
     have hA3:Below w2.heap.size w2 (w2.alloc (.cells #[.slice ag y.g.length cg,.int .i64 (y.k:Int)] 90)):=(bR _ _).alloc (nR _) _;have hA4:Below w2.heap.size w2 ((w2.alloc (.cells #[.slice ag y.g.length cg,.int .i64 (y.k:Int)] 90)).alloc (.cells #[.slice ag y.g.length cg,.int .i64 (y.k:Int)] 90)):=hA3.alloc hA3.size _;have HI4:=hideK (HI2.out.keep hA4);have h3:=(HI2.out.keep hA3).h3;have e0:(w2.alloc (.cells #[.slice ag y.g.length cg,.int .i64 (y.k:Int)] 90)).cell? ⟨w2.heap.size,0,none⟩=some (.slice ag y.g.length cg):=by go_cell
     have e1:(w2.alloc (.cells #[.slice ag y.g.length cg,.int .i64 (y.k:Int)] 90)).cell? ⟨w2.heap.size,1,none⟩=some (.int .i64 (y.k:Int)):=by go_cell
     have HG4:=hideK (HGA.out.keep (W':=(w2.alloc (.cells #[.slice ag y.g.length cg,.int .i64 (y.k:Int)] 90)).alloc (.cells #[.slice ag y.g.length cg,.int .i64 (y.k:Int)] 90)) (Q:=fun b=>(wr.alloc (.cells #[.int .i64 t.kind,.int .i64 t.so,.string t.name,.slice tal t.labels.length tcl,.slice tak t.kids.length tck] 37)).heap.size≤b∧b<((w2.alloc (.cells #[.slice ag y.g.length cg,.int .i64 (y.k:Int)] 90)).alloc (.cells #[.slice ag y.g.length cg,.int .i64 (y.k:Int)] 90)).heap.size) (fun b o hp=>hA4.cell (p:=⟨b,o,none⟩) hp.2) (fun b hp=>⟨hp.1,nL hp.2 hA4.size⟩))
     have hz4:(w2.alloc (.cells #[.slice ag y.g.length cg,.int .i64 (y.k:Int)] 90)).heap.size=w2.heap.size+1:=by simp
     have r0:((w2.alloc (.cells #[.slice ag y.g.length cg,.int .i64 (y.k:Int)] 90)).alloc (.cells #[.slice ag y.g.length cg,.int .i64 (y.k:Int)] 90)).cell? ⟨w2.heap.size+1,0,none⟩=some (.slice ag y.g.length cg):=by rw [← hz4];exact World.cell?_alloc_at _ _ _ _ rfl
     have r1:((w2.alloc (.cells #[.slice ag y.g.length cg,.int .i64 (y.k:Int)] 90)).alloc (.cells #[.slice ag y.g.length cg,.int .i64 (y.k:Int)] 90)).cell? ⟨w2.heap.size+1,1,none⟩=some (.int .i64 (y.k:Int)):=by rw [← hz4];exact World.cell?_alloc_at _ _ _ _ rfl
     have HR:=hideK (show ∀q u,([.slice ag y.g.length cg,.int .i64 (y.k:Int)]:List Value)[q]? = some u→((w2.alloc (.cells #[.slice ag y.g.length cg,.int .i64 (y.k:Int)] 90)).alloc (.cells #[.slice ag y.g.length cg,.int .i64 (y.k:Int)] 90)).cell? ((⟨w2.heap.size+1,0,none⟩:Addr).add q)=some u from fun q u hq=>by
      match q,hq with
      | 0,hq=>simp at hq;subst hq;rw [addj0];exact r0
      | 1,hq=>simp at hq;subst hq;rw [addj0];exact r1
      | q+2,hq=>simp at hq)
     have HHZ:=hideK (show wo.heap.size+1+1≤((w2.alloc (.cells #[.slice ag y.g.length cg,.int .i64 (y.k:Int)] 90)).alloc (.cells #[.slice ag y.g.length cg,.int .i64 (y.k:Int)] 90)).heap.size from by have:=HI4.out.lt;omega)
     have HLO:=hideK (HI4.out.own);clear hA3 hA4 HI2 HGA r0 r1 hz4;go_wp2_with (at_builtin;refine wpList_append_own_at _ rfl _ _ 71 rfl (wo.heap.size+1+1) 90 i0 _ 2 32 Tryz.underlying71 hi hz0 hz1 hz2 rfl (by decide) _ _ _ rfl HLO.out ⟨w2.heap.size+1,0,none⟩ 1 1 [.slice ag y.g.length cg,.int .i64 (y.k:Int)] rfl rfl HR.out (by simp [Value.oneCell']) (by have:=HLL.out;unfold maxLen;omega) (by have:=HLL.out;omega) HHZ.out ?_)
     intro v' W5 hown' hgrow _ hat';obtain ⟨va',vc',rfl⟩:=sliceH_own hown';obtain ⟨p3,pf⟩:=HI4.out.pre hgrow;have HN:=hideK (HI4.out.app (t:=(y,ag,cg)) hown' hgrow (hat'.imp id (fun q=>q.trans (by simp))) HZ1.out HOB.out ⟨HY.out.2.1,HY.out.2.2,HG4.out⟩)
     clear HI4 hown' hgrow hat' HR HHZ HLO HG4 h3 e0 e1;go_wp2_with fail
     go_roundw
     case rel=>exact ⟨j+1,l++[(y,ag,cg)],_,HKJ.out,by go_num,by rw [HTS.out,List.map_append,HLM.out,← HY.out.1];rfl,HN.out⟩
     case measure=>simp [intOf];have:=HKJ.out;omega
    ·have hltz2:¬(j:Int)<(d.tys.length:Int):=by omega
     rw [List.take_of_length_le (by omega)]at hlm
     obtain ⟨ea,ec,rfl,hens⟩:=hI.ens;have hll:l.length=d.tys.length:=by have:=congrArg List.length hlm;simpa using this
     rw [hlm]at hens;have HOQ:=HW.out.keep hI.bl;have hmbs:w.heap.size≤mb:=Nat.le_of_eq HMB.out;obtain ⟨W',hr,hO⟩:=HOQ.upd hmbs d (hdE a' ea ec) HOK.out.name HFN.out.1 ⟨HOK.out.vals.mono hB,NAt.mono hB HOK.out.srt,HOK.out.sl,HOK.out.sc,HOK.out.chs.mono hB,hens⟩;rw [← hll]at hr;have x0:=hI.dat.get (j:=0) (v:=.string d.name) (by omega) rfl
     obtain ⟨_,_,_,h0,h1,h2,h3,_,_,_⟩:=hI;have HO:=hideK hO;simp only [hdVal,hdE]at hr;clear hlm hens HOQ hmbs hO hll;go_wp2_with fail
     go_roundw
     case rel=>exact ⟨k+1,F++[(d,hdE a' ea ec)],HKL.out,by go_num,by rw [List.map_append];exact HFN.out.2,HO.out⟩
     case measure=>simp [intOf];have:=HKL.out;omega
  ·have hltz:¬(k:Int)<(ds.length:Int):=by omega
   rw [List.take_of_length_le (by omega)]at hF
   have HH:=hideK (show HDS gr ds (some mb) wo from hF ▸ hW.hds)
   have HB:=hideK hW.bl;clear hF hW;go_wp2_with fail
   go_ret2
   exact ⟨⟨mb,rfl,HH.out⟩,HB.out⟩
theorem tysE_cons(x:Ty)(l:List Ty):tysE (x::l)=if chkTy x≠0 then chkTy x else tysE l:=rfl
theorem tysE_app(l m:List Ty):tysE (l++m)=if tysE l≠0 then tysE l else tysE m:=by
 induction l with
 | nil=>rfl
 | cons x l ih =>
  rw [List.cons_append,tysE_cons];have e:=tysE_cons x l;generalize tysE (x::l)=q at *;by_cases h:chkTy x≠0
  ·rw [if_pos h]at e ⊢;subst e;rw [if_pos h]
  ·rw [if_neg h]at e ⊢;rw [e];exact ih
theorem tysE_next{xs:List Ty}{k:Nat}(hk:k<xs.length)(h:tysE (xs.take k)=0):tysE (xs.take (k+1))=chkTy xs[k]:=by
 rw [List.take_succ_eq_append_getElem hk,tysE_app,if_neg (by simpa using h)]
 rw [tysE_cons];by_cases q:chkTy xs[k]≠0
 ·rw [if_pos q]
 ·rw [if_neg q];have:chkTy xs[k]=0:=by simpa using q
  rw [this];rfl
theorem tysE_split{xs:List Ty}{k:Nat}(h:tysE (xs.take k)≠0):tysE xs=tysE (xs.take k):=by
 conv=>lhs;rw [← List.take_append_drop k xs]
 rw [tysE_app,if_pos h]
structure DSt(w:World)(pb c:Nat)(d:Df)(a:DfA)(W:World):Prop where
 lt:w.heap.size<W.heap.size
 at0:DfAt W w.heap.size 0 d a
 pc:PC W pb c
 bl:Below w.heap.size w W
theorem DSt.keep{w:World}{pb c:Nat}{d:Df}{a:DfA}{W W':World}(h:DSt w pb c d a W)(hb:Below W.heap.size W W'):DSt w pb c d a W' :=
 ⟨nL h.lt hb.size,h.at0.keep hb h.lt,h.pc.keep hb h.pc.lt,h.bl.trans (hb.mono h.bl.size)⟩
theorem ty_at{w:World}{B:Nat}{ts:List Ty}{ta:OAd}{tc:Nat}(h:TysAt w B ts ta tc){k:Nat}(hk:k<ts.length):∃b o al cl ak ck,ta=some ⟨b,o,none⟩∧b<B∧TyAt w b (o+k*5) ts[k] al cl ak ck∧TyBd ts[k] cl ck∧LA w B ts[k].labels al∧∃d,KT w B d ts[k].kids ak:=by
 obtain ⟨d,h⟩:=h.kt;cases d with
 | zero=>simp only [KT]at h;rw [h]at hk;simp at hk
 | succ d =>
  rcases h with h|⟨b,o,e,hb,h⟩
  ·rw [h]at hk;simp at hk
  ·obtain ⟨al,cl,ak,ck,h1,h2,h3,h4⟩:=h k hk
   exact ⟨b,o,al,cl,ak,ck,e,hb,h1,h2,h3,d,h4⟩
theorem checkDef_any{W0:World}(h0:Tabs W0)(d:Df)(a:DfA)(c pb B:Nat)(w:World)(hd:DfOK w B d a)(hB:B≤pb)(hB0:W0.heap.size≤pb)(hpc:PC w pb c)(hc:c≤200)(hT:AT W0 w):
  Calls Tryz.prog 26 #[dfVal d a,.pointer (some ⟨pb,0,none⟩)] w fun e w'=>e = .returned (.int .i64 (shpD d c).1)∧PC w' pb (shpD d c).2∧Below pb w w':=by
 have hpe:shpD d c=if hedD d=false then (1,c) else if tysE d.tys≠0 then (tysE d.tys,c) else shpR d.body c:=rfl
 generalize shpD d c=r at hpe ⊢;have hlt:=hpc.lt;have hBs:B≤w.heap.size:=by omega
 have S0:=hideK (show DSt w pb c d a (w.alloc (dfBx d a)) from ⟨by simp,dfBx_at w d a,hpc.al _,(bR _ _).alloc (nR _) _⟩)
 have HD:=hideK hd;have HT:=hideK hT;have htl:(d.tys.length:Int)≤9223372036854775807:=by have:=hd.tys.len;have:=hd.tys.cap;omega
 have c1:=isHead_any d a (w.alloc (dfBx d a)) ((hd.keep (S0.out.bl.mono hBs)).mono (by simp;omega))
 obtain ⟨n,hbody⟩:=hd.body;have HC:=hideK (fun (W:World) (h:DSt w pb c d a W)=>checkProc_any h0 n d.body a.pa c pb B W (PrOK.keep (h.bl.mono hBs) hbody) hB hB0 h.pc hc (at_k _ _ hT h.bl))
 have HTY:=hideK (fun (t:Ty) (al:OAd) (cl:Nat) (ak:OAd) (ck:Nat) (W:World) (hbd:TyBd t cl ck) (hla:LA w B t.labels al) (hkt:∃d,KT w B d t.kids ak) (hW:Below w.heap.size w W)=>tyCheck t al cl ak ck W hbd ((NAt.keep (hW.mono hBs) hla).mono (Nat.le_trans hBs hW.size)) (hkt.imp fun _ q=>KT.mono (Nat.le_trans hBs hW.size) (KT.keep (hW.mono hBs) q)))
 clear hpc hd hT hbody;simp only [prVal]at HC;cases hg:hedD d with
 | false =>
  rw [if_pos hg]at hpe;subst hpe;rw [hg]at c1;clear HC HTY hg;simp only [dfVal]at c1 ⊢;go_enter Tryz.func26,Tryz.ntmps26
  go_upto_region 1 with fail
  refine wp_region_lit ?_;refine wpList_loadW rfl rfl rfl (load_df S0.out.at0) ?_;simp only [dfVal,Act.put,List.setIfInBounds_toArray,List.set_cons_zero,List.set_cons_succ];go_wp2_with fail
  refine c1.mono ?_;rintro e w1 ⟨rfl,hb1⟩;have S1:=hideK (S0.out.keep hb1);clear c1 hb1 S0;go_wp2_with fail
  go_ret
  exact ⟨rfl,S1.out.pc,S1.out.bl.mono (by omega)⟩
 | true =>
  rw [if_neg (by rw [hg];simp)]at hpe
  rw [hg]at c1;clear hg;simp only [dfVal]at c1 ⊢;go_enter Tryz.func26,Tryz.ntmps26
  go_upto_region 1 with fail
  refine wp_region_lit ?_;refine wpList_loadW rfl rfl rfl (load_df S0.out.at0) ?_;simp only [dfVal,Act.put,List.setIfInBounds_toArray,List.set_cons_zero,List.set_cons_succ];go_wp2_with fail
  refine c1.mono ?_;rintro e w1 ⟨rfl,hb1⟩;have S1:=hideK (S0.out.keep hb1);clear c1 hb1 S0;have x4:=S1.out.at0.get (j:=4) (v:=.slice a.ta d.tys.length a.tc) (by omega) rfl
  go_wp2_with fail
  go_loopw [14] (fun i wr=>∃k:Nat,k≤d.tys.length∧i = .int .i64 (k:Int)∧tysE (d.tys.take k)=0∧DSt w pb c d a wr) (fun i _=>d.tys.length - (intOf i).toNat)
  case atStart=>exact ⟨0,Nat.zero_le _,rfl,rfl,S1.out⟩
  case round =>
   obtain ⟨k,hk,rfl,hz,hX⟩:=hrel;clear x4 S1;by_cases hltk:k<d.tys.length
   ·have hltz:(k:Int)<(d.tys.length:Int):=by omega
    obtain ⟨b,o,al,cl,ak,ck,ha,hbB,hat,htb,htl',htk⟩:=ty_at HD.out.tys hltk;obtain ⟨y0,y1,y2,y3,y4⟩:=hat.keep (hX.bl.mono hBs) hbB;have hA:Below wr.heap.size wr (wr.alloc (.cells #[.int .i64 d.tys[k].kind,.int .i64 d.tys[k].so,.string d.tys[k].name,.slice al d.tys[k].labels.length cl,.slice ak d.tys[k].kids.length ck] 37)):=(bR _ _).alloc (nR _) _;have c2:=HTY.out d.tys[k] al cl ak ck _ htb htl' htk (hX.bl.trans (hA.mono hX.bl.size));simp only [tyVal]at c2;have HX1:=hideK (hX.keep hA);have HN:=hideK (tysE_next hltk hz);generalize d.tys[k]=x at *;rw [ha];clear hz hX hat htb htl' htk hA HC HTY;go_wp2_with fail
    refine c2.mono ?_;rintro e w2 ⟨rfl,hb2⟩;have HX2:=hideK (HX1.out.keep hb2);clear c2 hb2 HX1 y0 y1 y2 y3 y4;by_cases hr:chkTy x=0
    ·have hrb:(chkTy x != 0)=false:=by simpa using hr
     have HR:=hideK (HN.out.trans hr);clear hr HN;go_wp2_with fail
     go_roundw
     case rel=>exact ⟨k+1,by omega,by go_num,HR.out,HX2.out⟩
     case measure=>simp [intOf];omega
    ·have hrb:(chkTy x != 0)=true:=by simpa using hr
     have HR:=hideK (show r=(chkTy x,c) from by
      have e:tysE d.tys=chkTy x:=(tysE_split (k:=k+1) (by rw [HN.out];exact hr)).trans HN.out
      rw [hpe,e,if_pos hr])
     clear hr HN hpe;go_wp2_with fail
     go_ret
     rw [HR.out];exact ⟨rfl,HX2.out.pc,HX2.out.bl.mono (by omega)⟩
   ·have hltz:¬(k:Int)<(d.tys.length:Int):=by omega
    have hfin:d.tys.take k=d.tys:=List.take_of_length_le (by omega)
    rw [hfin]at hz;rw [if_neg (by simpa using hz)]at hpe
    subst hpe;have c3:=HC.out wr hX;have HX:=hideK hX;clear hz hfin hX HC HTY;go_upto_region 10 with fail
    refine wp_region_lit ?_;refine wpList_plain rfl (fun K hK=>?_)
    go_simp
    refine hK _ _ ?_;clear hK K;refine wpList_loadW rfl rfl rfl (load_pr HX.out.at0.body) ?_;simp only [prVal,Act.put,List.setIfInBounds_toArray,List.set_cons_zero,List.set_cons_succ];go_wp2_with fail
    refine c3.mono ?_;rintro e w4 ⟨rfl,hP4,hB4⟩;have HP4:=hideK hP4;have HB4:=hideK ((HX.out.bl.mono (by omega)).trans hB4)
    clear c3 hP4 hB4;go_wp2_with fail
    go_ret
    exact ⟨rfl,HP4.out,HB4.out⟩
theorem shape_any{W0:World}(h0:Tabs W0)(ds:List Df)(ad:OAd)(cd B:Nat)(w:World)(hl:ds.length≤9223372036854775807)(hd:DfsAt w B ds ad)(hB:B≤w.heap.size)(hT:AT W0 w):
  Calls Tryz.prog 7 #[.agg #[.slice ad ds.length cd]] w fun e w'=>e = .returned (.int .i64 (shpP ds))∧Below w.heap.size w w':=by
 have hpe:shpP ds=if ds.length=0 then 1 else if 10<ds.length then 2 else (shpDs ds (0,0)).1:=rfl
 generalize shpP ds=r at hpe ⊢;have hlz:(ds.length:Int)≤9223372036854775807:=by omega
 by_cases hz0:ds.length=0
 ·rw [if_pos hz0]at hpe
  subst hpe;rw [hz0];clear hd hlz hl hz0;go_enter Tryz.func7,Tryz.ntmps7
  go_wp2_with fail
  go_ret
  exact ⟨rfl,by go_grown⟩
 rw [if_neg hz0]at hpe;have hzb:((ds.length:Int)==0)=false:=beq_eq_false_iff_ne.2 (by omega)
 by_cases h10:10<ds.length
 ·rw [if_pos h10]at hpe
  subst hpe;have h10z:(10:Int)<(ds.length:Int):=by omega
  clear hd h10 hz0;go_enter Tryz.func7,Tryz.ntmps7
  go_wp2_with fail
  go_ret
  exact ⟨rfl,by go_grown⟩
 rw [if_neg h10]at hpe;have h10z:¬(10:Int)<(ds.length:Int):=by omega
 have HD:=hideK hd;have HT:=hideK hT;clear hd hT;go_enter Tryz.func7,Tryz.ntmps7
 go_wp2_with fail
 go_loopw [20] (fun i wr=>∃k:Nat,k≤ds.length∧i = .int .i64 (k:Int)∧(shpDs (ds.take k) (0,0)).1=0∧PC wr (w.heap.size+1) (shpDs (ds.take k) (0,0)).2∧Below w.heap.size w wr) (fun i _=>ds.length - (intOf i).toNat)
 case atStart=>exact ⟨0,Nat.zero_le _,rfl,rfl,⟨by simp,by show World.cell? _ _=some (.int .i64 0);go_cell,by go_simp⟩,((bR _ _).alloc (nR _) _).alloc (by simp) _⟩
 case round =>
  obtain ⟨k,hk,rfl,hz,hP,hBw⟩:=hrel;by_cases hltk:k<ds.length
  ·have hltz:(k:Int)<(ds.length:Int):=by omega
   obtain ⟨b,o,ha,hbB,hds⟩:=HD.out.resolve_left (fun q=>by rw [q]at hltk;simp at hltk)
   obtain ⟨a,hat,hok⟩:=hds k hltk;have hcnt:=shpDs_cnt (ds.take k) (0,0) (by show 0≤200;omega) hz
   have hsn:shpDs (ds.take (k+1)) (0,0)=shpD ds[k] (shpDs (ds.take k) (0,0)).2:=by
    rw [List.take_succ_eq_append_getElem hltk,shpDs_snoc,if_neg (by simpa using hz)]
   have hA:Below wr.heap.size wr (wr.alloc (dfBx ds[k] a)):=(bR _ _).alloc (nR _) _;have hAw:Below w.heap.size w (wr.alloc (dfBx ds[k] a)):=hBw.trans (hA.mono hBw.size);have cR:=checkDef_any h0 ds[k] a (shpDs (ds.take k) (0,0)).2 (w.heap.size+1) B _ (hok.keep (hAw.mono hB)) (by omega) (by have:=HT.out.size;omega) (hP.al _) hcnt (at_k _ _ HT.out hAw)
   have HAT:=hideK (hat.keep (hBw.mono hB) hbB);simp only [dfVal]at cR;generalize shpD ds[k] (shpDs (ds.take k) (0,0)).2=r2 at cR hsn;have HS:=hideK hsn;have HAW:=hideK hAw;have HSP:=hideK (fun (q:r2.1≠0)=>(shpDs_split ds (k+1) (0,0) (by rw [hsn];exact q)).trans hsn)
   generalize ds[k]=x at *;rw [ha];clear hz hP hcnt hsn hat hok hds hA hAw HD hBw;go_upto_region 8 with fail
   refine wp_region_lit ?_;refine wpList_plain rfl (fun K hK=>?_)
   go_simp
   refine hK _ _ ?_;clear hK K;refine wpList_loadW rfl rfl rfl (load_df HAT.out) ?_;simp only [dfVal,Act.put,List.setIfInBounds_toArray,List.set_cons_zero,List.set_cons_succ];refine wpList_allocW rfl rfl (alloc_df _) ?_;simp only [Act.put,sA,sB,sC];refine wpList_storeW rfl rfl rfl rfl (store_df _ x a) ?_;simp only [Act.put];go_upto_region 9 with fail
   refine wp_region_lit ?_;refine wpList_loadW rfl rfl rfl (load_df (dfBx_at wr x a)) ?_;simp only [dfVal,Act.put,List.setIfInBounds_toArray,List.set_cons_zero,List.set_cons_succ];go_wp2_with fail
   refine cR.mono ?_;rintro e w4 ⟨rfl,hP4,hB4⟩;have HP4:=hideK hP4;have HB4:=hideK (HAW.out.trans (hB4.mono (Nat.le_succ _)));clear cR hP4 hB4 HAT;by_cases hr:r2.1=0
   ·have hrb:(r2.1 != 0)=false:=by simpa using hr
    have HR:=hideK hr;clear hr;go_wp2_with fail
    go_roundw
    case rel=>exact ⟨k+1,by omega,by go_num,by rw [HS.out];exact HR.out,by rw [HS.out];exact HP4.out,HB4.out⟩
    case measure=>simp [intOf];omega
   ·have hrb:(r2.1 != 0)=true:=by simpa using hr
    have HR:=hideK (show r=r2.1 from by rw [hpe,HSP.out hr])
    clear hr;go_wp2_with fail
    go_ret
    rw [HR.out];exact ⟨rfl,HB4.out⟩
  ·have hltz:¬(k:Int)<(ds.length:Int):=by omega
   have hfin:ds.take k=ds:=List.take_of_length_le (by omega)
   rw [hfin]at hz;have HR:=hideK (hpe.trans hz);have HBW:=hideK hBw;clear hz hfin hP hBw hpe;go_wp2_with fail
   go_ret
   rw [HR.out];exact ⟨rfl,HBW.out⟩
end Go.Proofs.YtmamabhhgfcjcaaGreatDoor
