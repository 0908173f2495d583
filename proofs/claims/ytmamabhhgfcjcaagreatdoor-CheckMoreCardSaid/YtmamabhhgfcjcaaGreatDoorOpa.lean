/-
  The contracts of (check.scope).sortOf, wantSort, withEnd, withoutEnd.
-/
import Derived.Test.YtmamabhhgfcjcaaGreatDoorOw
import Derived.Deep.Heap
import Derived.Ground.SlmcProg
import Derived.Shelf.SlMaps.Clone
set_option maxRecDepth 100000
set_option maxHeartbeats 8000000
namespace Go.Proofs.YtmamabhhgfcjcaaGreatDoor
open Go.RowKit Go.Shelf
theorem ScAt.ns{W:World}{s:Sc}{a:ScA}(h:ScAt W s a)(hl:s.vs.length≤1000):NSAt W W.heap.size s.vs s.ss a.va a.sa :=
 ⟨h.eq.symm,by omega,(h.vs.la).imp (fun q=>by simpa using q) (fun ⟨b,o,e,hb,hc⟩=>⟨b,o,e,hb,fun i hi=>by have:=hc i (by simpa using hi);rw [List.getElem_map]at this;exact this⟩),h.ss.imp (fun q=>by simpa using q) (fun ⟨b,o,e,hb,hc⟩=>⟨b,o,e,hb,fun i hi=>by have:=hc i (by simpa using hi);rw [List.getElem_map]at this;exact this⟩)⟩
theorem scSort_any{W0:World}(h0:Tabs W0)(s:Sc)(a:ScA)(x:Ex)(ao:OAd)(cap:Nat)(w:World)(h:ScAt w s a)(hbd:ExBd x cap)(hka:∃d,KA w w.heap.size d x.kids ao)(hT:AT W0 w)(hl:s.vs.length≤1000):
  Calls Tryz.prog 71 #[scVal s a,exVal x ao cap] w fun e w'=>e = .returned (.tuple #[.int .i64 (srtR x s.vs s.ss).1,.int .i64 (srtR x s.vs s.ss).2])∧Below w.heap.size w w':=by
 have hA:Below w.heap.size w ((w.alloc (.cells #[.slice a.va s.vs.length a.vc,.slice a.sa s.ss.length a.sc,.map a.mp] 70)).alloc (.cells #[.int .i64 x.kind,.string x.name,.int .i64 x.so,.int .i64 x.n,.string x.s,.slice ao x.kids.length cap] 34)):=((bR _ _).alloc (nR _) _).alloc (by simp) _
 obtain ⟨d,hd⟩:=hka;have c:=sort_any (AT W0) W0.heap.size (at_v h0) at_k at_k2 at_0 d x ao cap s.vs s.ss a.va a.sa a.vc a.sc _ hbd (KA.mono hA.size (KA.keep hA hd)) ((h.keep hA).ns hl) (at_k _ _ hT hA);rw [h.eq]at c;have HA:=hideK hA;simp only [exVal]at c;simp only [scVal,exVal];rw [h.eq]at HA ⊢;generalize srtR x s.vs s.ss=r at *;clear h hbd hd hT hA hl;go_enter Tryz.func71,Tryz.ntmps71
 go_wp2_with fail
 refine c.mono ?_;rintro e w1 ⟨rfl,hb1⟩;have HB:=hideK (HA.out.trans (hb1.mono HA.out.size));clear c hb1 HA;go_wp2_with fail
 go_ret2
 exact ⟨rfl,HB.out⟩
theorem wantSort_any{W0:World}(h0:Tabs W0)(s:Sc)(a:ScA)(x:Ex)(ao:OAd)(cap:Nat)(z:Int)(w:World)(h:ScAt w s a)(hbd:ExBd x cap)(hka:∃d,KA w w.heap.size d x.kids ao)(hT:AT W0 w)(hl:s.vs.length≤1000):
  Calls Tryz.prog 69 #[scVal s a,exVal x ao cap,.int .i64 z] w fun e w'=>e = .returned (.int .i64 (wntS s x z))∧Below w.heap.size w w':=by
 have hA:Below w.heap.size w ((w.alloc (.cells #[.slice a.va s.vs.length a.vc,.slice a.sa s.ss.length a.sc,.map a.mp] 70)).alloc (.cells #[.int .i64 x.kind,.string x.name,.int .i64 x.so,.int .i64 x.n,.string x.s,.slice ao x.kids.length cap] 34)):=((bR _ _).alloc (nR _) _).alloc (by simp) _
 have c:=scSort_any h0 s a x ao cap _ (h.keep hA) hbd (hka.imp fun _ q=>KA.mono hA.size (KA.keep hA q)) (at_k _ _ hT hA) hl
 have HA:=hideK hA;have hd:wntS s x z=if (srtR x s.vs s.ss).2=0∧(srtR x s.vs s.ss).1≠z then 5 else (srtR x s.vs s.ss).2:=rfl
 generalize wntS s x z=r at *;generalize srtR x s.vs s.ss=q at *;obtain ⟨q1,q2⟩:=q;simp only at hd c;simp only [scVal,exVal]at c ⊢;clear h hbd hka hT hA hl;by_cases e2:q2=0
 ·subst e2
  by_cases e1:q1=z
  ·subst e1
   rw [if_neg (by simp)]at hd
   subst hd;go_enter Tryz.func69,Tryz.ntmps69
   go_wp2_with fail
   refine c.mono ?_;rintro e w1 ⟨rfl,hb1⟩;have HB:=hideK (HA.out.trans (hb1.mono HA.out.size));clear c hb1 HA;go_wp2_with fail
   go_ret
   exact ⟨rfl,HB.out⟩
  ·rw [if_pos ⟨rfl,e1⟩]at hd
   subst hd;have e1b:(q1 != z)=true:=by simpa using e1
   clear e1;go_enter Tryz.func69,Tryz.ntmps69
   go_wp2_with fail
   refine c.mono ?_;rintro e w1 ⟨rfl,hb1⟩;have HB:=hideK (HA.out.trans (hb1.mono HA.out.size));clear c hb1 HA;go_wp2_with fail
   go_ret
   exact ⟨rfl,HB.out⟩
 ·rw [if_neg (fun q=>e2 q.1)]at hd
  subst hd;have e2b:(r==0)=false:=by simpa using e2
  clear e2;go_enter Tryz.func69,Tryz.ntmps69
  go_wp2_with fail
  refine c.mono ?_;rintro e w1 ⟨rfl,hb1⟩;have HB:=hideK (HA.out.trans (hb1.mono HA.out.size));clear c hb1 HA;go_wp2_with fail
  go_ret
  exact ⟨rfl,HB.out⟩
theorem st3_at{W:World}{b:Nat}{u0 u1 u2:Value}(v0 v1 v2:Value)(z0:W.cell? ⟨b,0,none⟩=some u0)(z1:W.cell? ⟨b,1,none⟩=some u1)(z2:W.cell? ⟨b,2,none⟩=some u2):(((W.setCell ⟨b,0,none⟩ v0).setCell ⟨b,1,none⟩ v1).setCell ⟨b,2,none⟩ v2).cell? ⟨b,0,none⟩=some v0∧(((W.setCell ⟨b,0,none⟩ v0).setCell ⟨b,1,none⟩ v1).setCell ⟨b,2,none⟩ v2).cell? ⟨b,1,none⟩=some v1∧(((W.setCell ⟨b,0,none⟩ v0).setCell ⟨b,1,none⟩ v1).setCell ⟨b,2,none⟩ v2).cell? ⟨b,2,none⟩=some v2:=by
 have ne:∀i j:Nat,i≠j→(⟨b,i,none⟩:Addr)≠⟨b,j,none⟩:=fun i j h e=>by injection e with _ e;exact h e
 refine ⟨?_,?_,?_⟩
 ·rw [World.cell?_setCell_other _ _ _ _ (ne 2 0 (by omega)),World.cell?_setCell_other _ _ _ _ (ne 1 0 (by omega))]
  exact World.cell?_setCell_same _ _ _ z0
 ·rw [World.cell?_setCell_other _ _ _ _ (ne 2 1 (by omega))]
  exact World.cell?_setCell_same _ _ _ ((World.cell?_setCell_other _ _ _ _ (ne 0 1 (by omega))).trans z1)
 ·exact World.cell?_setCell_same _ _ _ ((World.cell?_setCell_other _ _ _ _ (ne 1 2 (by omega))).trans ((World.cell?_setCell_other _ _ _ _ (ne 0 2 (by omega))).trans z2))
theorem blk4{W:World}{k p q:Nat}(v v0 v1 v2:Value)(i:Nat)(h1:k≠p)(h2:k≠q):((((W.setCell ⟨p,i,none⟩ v).setCell ⟨q,0,none⟩ v0).setCell ⟨q,1,none⟩ v1).setCell ⟨q,2,none⟩ v2).heap[k]? = W.heap[k]?:=by
 rw [Go.Deep.blk_setCell_other _ _ _ _ h2,Go.Deep.blk_setCell_other _ _ _ _ h2,Go.Deep.blk_setCell_other _ _ _ _ h2,Go.Deep.blk_setCell_other _ _ _ _ h1]
def delF(F:List ((ByteArray × En) × OAd × Nat))(n:ByteArray):List ((ByteArray × En) × OAd × Nat):=F.filter fun t=>decide (t.1.1≠n)
theorem FM_del(F:List ((ByteArray × En) × OAd × Nat))(n:ByteArray):delV (FM F) n=FM (delF F n)∧delE (F.map (·.1)) n=(delF F n).map (·.1):=by
 unfold delV FM delF delE;rw [List.filter_map,List.filter_map];exact ⟨rfl,rfl⟩
theorem FM_put(F:List ((ByteArray × En) × OAd × Nat))(n:ByteArray)(x:En)(ag:OAd)(cg:Nat):putV (FM F) n (enVal x ag cg)=FM (delF F n++[((n,x),ag,cg)])∧putE (F.map (·.1)) n x=(delF F n++[((n,x),ag,cg)]).map (·.1):=by
 unfold putV putE;rw [(FM_del F n).1,(FM_del F n).2];unfold FM;rw [List.map_append,List.map_append];exact ⟨rfl,rfl⟩
theorem FM_two(F:List ((ByteArray × En) × OAd × Nat)):∀q∈FM F,TwoC q.2:=by
 intro q hq;obtain ⟨t,_,rfl⟩:=List.mem_map.1 hq;exact ⟨_,_,_,_,rfl⟩
structure WEB(w:World)(s:Sc)(a:ScA)(x:En)(ag:OAd)(cg:Nat)(W:World):Prop where
 bl:Below w.heap.size w W
 lt:w.heap.size+1+1+1<W.heap.size
 c0:W.cell? ⟨w.heap.size,0,none⟩=some (.slice a.va s.vs.length a.vc)
 c1:W.cell? ⟨w.heap.size,1,none⟩=some (.slice a.sa s.ss.length a.sc)
 c2:W.cell? ⟨w.heap.size,2,none⟩=some (.map a.mp)
 e0:W.cell? ⟨w.heap.size+1,0,none⟩=some (.slice ag x.g.length cg)
 e1:W.cell? ⟨w.heap.size+1,1,none⟩=some (.int .i64 (x.k:Int))
 z0:W.cell? ⟨w.heap.size+1+1,0,none⟩=some (.slice none 0 0)
 z1:W.cell? ⟨w.heap.size+1+1,1,none⟩=some (.slice none 0 0)
 z2:W.cell? ⟨w.heap.size+1+1,2,none⟩=some (.map none)
 f:∀b o,w.heap.size≤b→b<w.heap.size+1+1+1→W.frozen? ⟨b,o,none⟩=false
theorem WEB.keep{w:World}{s:Sc}{a:ScA}{x:En}{ag:OAd}{cg:Nat}{W W':World}(h:WEB w s a x ag cg W)(hb:Below (w.heap.size+1+1+1) W W'):WEB w s a x ag cg W':=by
 have hs:=hb.size;have hl:=h.lt;have c:∀b o,b<w.heap.size+1+1+1→W'.cell? ⟨b,o,none⟩=W.cell? ⟨b,o,none⟩:=fun b o q=>hb.cell (p:=⟨b,o,none⟩) q
 exact ⟨h.bl.trans (hb.mono (by omega)),by omega,(c _ _ (by omega)).trans h.c0,(c _ _ (by omega)).trans h.c1,(c _ _ (by omega)).trans h.c2,(c _ _ (by omega)).trans h.e0,(c _ _ (by omega)).trans h.e1,(c _ _ (by omega)).trans h.z0,(c _ _ (by omega)).trans h.z1,(c _ _ (by omega)).trans h.z2,fun b o q1 q2=>(hb.frozen (p:=⟨b,o,none⟩) q2).trans (h.f b o q1 q2)⟩
theorem WEB.new(w:World)(s:Sc)(a:ScA)(x:En)(ag:OAd)(cg:Nat):WEB w s a x ag cg ((((w.alloc (.cells #[.slice a.va s.vs.length a.vc,.slice a.sa s.ss.length a.sc,.map a.mp] 70)).alloc (.cells #[.slice ag x.g.length cg,.int .i64 (x.k:Int)] 90)).alloc (.cells #[.slice none 0 0,.slice none 0 0,.map none] 70)).alloc (.map #[] 0)) :=
 ⟨((((bR _ _).alloc (nR _) _).alloc (by simp) _).alloc (by simp;omega) _).alloc (by simp;omega) _,by simp,by go_cell,by go_cell,by go_cell,by go_cell,by go_cell,by go_cell,by go_cell,by go_cell,fun b o q1 q2=>by
  rcases (by omega:b=w.heap.size∨b=w.heap.size+1∨b=w.heap.size+1+1) with rfl|rfl|rfl <;> go_simp⟩
theorem copyS_any(mp:Option Nat)(es:List (ByteArray × En))(bd:Nat)(w0 w V:World)(h:GSc w0 w es mp)(hb:Below w.heap.size w V)(hbd:w.heap.size≤bd)(hnew:SMv V bd []):
  ∃F:List ((ByteArray × En) × OAd × Nat),es=F.map (·.1)∧(∀t∈F,EnAt w0 t.1.2 t.2.1)∧Calls Tryz.prog 74 #[.map (some bd),.map mp] V fun e w'=>e = .returned (.tuple #[])∧SMv w' bd (FM F)∧Below bd V w':=by
 have hl:=hnew.lt;obtain ⟨F,he,h3,h⟩:=h;refine ⟨F,he,h3,?_⟩;rcases h with ⟨rfl,rfl⟩|⟨b,rfl,h1⟩
 ·refine (copyNil_any bd V).mono ?_
  rintro e w' ⟨rfl,hg⟩;exact ⟨rfl,hnew.kept hg (by simp),(bR _ _).grown hg (by omega) (fun k q=>by cases q)⟩
 ·have hlt:=h1.lt
  refine (copyM_any (FM F) b bd V hnew (h1.keep hb hlt) (by omega) (FM_two F)).mono ?_
  rintro e w' ⟨rfl,hm',hg⟩;exact ⟨rfl,hm',(bR _ _).grown hg (by omega) (fun k q=>by have:=Option.some.inj q;omega)⟩
theorem withEnd_g(s:Sc)(a:ScA)(n:ByteArray)(x:En)(ag:OAd)(cg:Nat)(w0 w:World)(h:GSc w0 w s.es a.mp)(hn:n.size≤maxLen)(hx:EnAt w0 x ag):
  Calls Tryz.prog 45 #[scVal s a,.string n,enVal x ag cg] w fun e w'=>(∃mp',e = .returned (scVal (s.we n x) ⟨a.va,a.vc,a.sa,a.sc,mp'⟩)∧NSc w0 w (s.we n x).es mp' w')∧Below w.heap.size w w':=by
 have H4:=hideK (WEB.new w s a x ag cg);have hb4:=H4.out.bl;have hsz:(((w.alloc (.cells #[.slice a.va s.vs.length a.vc,.slice a.sa s.ss.length a.sc,.map a.mp] 70)).alloc (.cells #[.slice ag x.g.length cg,.int .i64 (x.k:Int)] 90)).alloc (.cells #[.slice none 0 0,.slice none 0 0,.map none] 70)).heap.size=w.heap.size+1+1+1:=by simp
 have hnew:SMv ((((w.alloc (.cells #[.slice a.va s.vs.length a.vc,.slice a.sa s.ss.length a.sc,.map a.mp] 70)).alloc (.cells #[.slice ag x.g.length cg,.int .i64 (x.k:Int)] 90)).alloc (.cells #[.slice none 0 0,.slice none 0 0,.map none] 70)).alloc (.map #[] 0)) (w.heap.size+1+1+1) []:=by
  have:=SMv.new (((w.alloc (.cells #[.slice a.va s.vs.length a.vc,.slice a.sa s.ss.length a.sc,.map a.mp] 70)).alloc (.cells #[.slice ag x.g.length cg,.int .i64 (x.k:Int)] 90)).alloc (.cells #[.slice none 0 0,.slice none 0 0,.map none] 70));rw [hsz]at this;exact this
 have hcopy:=copyS_any a.mp s.es (w.heap.size+1+1+1) w0 w _ h hb4 (by omega) hnew
 obtain ⟨F,hes,hF,cC⟩:=hcopy;have HX:=hideK hx;have HF:=hideK (And.intro hes hF);have hmm:=@run_makeMap Tryz.prog;simp only [scVal,enVal];clear h hx hes hF hb4;go_enter Tryz.func45,Tryz.ntmps45
 go_wp2_with fail
 refine cC.mono ?_;rintro e w5 ⟨rfl,hm5,hb5⟩;have H5:=hideK (H4.out.keep hb5);have hlt5:=H5.out.lt;obtain ⟨W6,hupd,hg6,hs6,hm6⟩:=sm_upd mapT hm5 hn (enVal x ag cg);have hb6:Below (w.heap.size+1+1+1) w5 W6:=(bR _ _).grown hg6 (by omega) (fun k q=>by have:=Option.some.inj q;omega)
 have H6:=hideK (H5.out.keep hb6);have HM6:=hideK hm6;obtain ⟨_,_,_,_,_,p0,p1,_,_,_,_⟩:=H5.out;obtain ⟨_,_,c0,c1,c2,_,_,z0,z1,z2,ff⟩:=H6.out;have f02:=ff w.heap.size 2 (by omega) (by omega)
 have f20:=ff (w.heap.size+1+1) 0 (by omega) (by omega)
 have f21:=ff (w.heap.size+1+1) 1 (by omega) (by omega)
 have f22:=ff (w.heap.size+1+1) 2 (by omega) (by omega)
 simp only [enVal]at hupd;clear cC hm5 hb5 H5 hg6 hs6 hm6 hb6 ff H4 hnew;go_wp2_with fail
 have zz:∀o,(W6.setCell ⟨w.heap.size,2,none⟩ (.map (some (w.heap.size+1+1+1)))).cell? ⟨w.heap.size+1+1,o,none⟩=W6.cell? ⟨w.heap.size+1+1,o,none⟩:=fun o=>World.cell?_setCell_other _ _ _ _ (fun e=>by injection e with e _;omega)
 obtain ⟨r0,r1,r2⟩:=st3_at (.slice a.va s.vs.length a.vc) (.slice a.sa s.ss.length a.sc) (.map (some (w.heap.size+1+1+1))) ((zz 0).trans z0) ((zz 1).trans z1) ((zz 2).trans z2);have HB:=hideK ((((H6.out.bl.setCell (p:=⟨w.heap.size,2,none⟩) (nR _) (.map (some (w.heap.size+1+1+1)))).setCell (p:=⟨w.heap.size+1+1,0,none⟩) (by show w.heap.size≤w.heap.size+1+1;omega) (.slice a.va s.vs.length a.vc)).setCell (p:=⟨w.heap.size+1+1,1,none⟩) (by show w.heap.size≤w.heap.size+1+1;omega) (.slice a.sa s.ss.length a.sc)).setCell (p:=⟨w.heap.size+1+1,2,none⟩) (by show w.heap.size≤w.heap.size+1+1;omega) (.map (some (w.heap.size+1+1+1))))
 have HM:=hideK (HM6.out.of_block (blk4 (W:=W6) (k:=w.heap.size+1+1+1) (p:=w.heap.size) (q:=w.heap.size+1+1) (.map (some (w.heap.size+1+1+1))) (.slice a.va s.vs.length a.vc) (.slice a.sa s.ss.length a.sc) (.map (some (w.heap.size+1+1+1))) 2 (by omega) (by omega)))
 clear hupd HM6 H6 z0 z1 z2 zz c0 c1 c2 p0 p1 f02 f20 f21 f22;generalize (((W6.setCell ⟨w.heap.size,2,none⟩ (.map (some (w.heap.size+1+1+1)))).setCell ⟨w.heap.size+1+1,0,none⟩ (.slice a.va s.vs.length a.vc)).setCell ⟨w.heap.size+1+1,1,none⟩ (.slice a.sa s.ss.length a.sc)).setCell ⟨w.heap.size+1+1,2,none⟩ (.map (some (w.heap.size+1+1+1)))=W9 at *;refine bodyPost_ret (v:=.agg #[.slice a.va s.vs.length a.vc,.slice a.sa s.ss.length a.sc,.map (some (w.heap.size+1+1+1))]) (by simp [results,Tryz.results45,go_sem,r0,r1,r2]) rfl ?_
 refine ⟨⟨some (w.heap.size+1+1+1),rfl,delF F n++[((n,x),ag,cg)],?_,?_,.inr ⟨w.heap.size+1+1+1,rfl,by omega,?_⟩⟩,HB.out⟩
 ·show putE s.es n x=_
  rw [HF.out.1];exact (FM_put F n x ag cg).2
 ·intro t ht
  rcases List.mem_append.1 ht with ht|ht
  ·exact HF.out.2 t (List.mem_filter.1 ht).1
  ·simp at ht;subst ht;exact HX.out
 ·rw [← (FM_put F n x ag cg).1];exact HM.out
end Go.Proofs.YtmamabhhgfcjcaaGreatDoor
namespace Go.Proofs
open Go.Shelf
def Tryz.laysMC_ren:Go.Shelf.Ren:=⟨fun|5=>126|7=>138|n=>n,fun|23=>68|25=>9|3=>90|4=>4|20=>20|n=>n,fun|n=>n⟩
theorem Tryz.laysMC:Go.Proofs.SlLaysW.n5 Tryz.prog Tryz.laysMC_ren:={
 mixed:=by kernel_rfl
 f5:=⟨Tryz.f126.name,by decide,Tryz.func126.trans (congrArg some (by kernel_rfl))⟩
 f7:=Tryz.func138.trans (congrArg some (by kernel_rfl))
 t4:=Tryz.underlying4
 a4:=Tryz.isAgg4
 z4:=Tryz.sizeOf4
 v4:=Tryz.zeroValue4
 t20:=Tryz.underlying20
 a20:=Tryz.isAgg20
 z20:=Tryz.sizeOf20
 v20:=Tryz.zeroValue20
 t23:=Tryz.underlying68
 a23:=Tryz.isAgg68
 z23:=Tryz.sizeOf68
 v23:=Tryz.zeroValue68 }
end Go.Proofs
namespace Go.Proofs.YtmamabhhgfcjcaaGreatDoor
open Go.RowKit
theorem cloneS_any(b:Nat)(vs:List (ByteArray × Value))(V:World)(h:SMv V b vs):Calls Tryz.prog 126 #[.map (some b)] V fun e w'=>e = .returned (.map (some V.heap.size))∧SMv w' V.heap.size vs∧Below V.heap.size V w'∧w'.heap.size=V.heap.size+1:=by
 obtain ⟨es,clock,hb,h2⟩:=h;refine (AnyW.maps_Clone Tryz.laysMC b es clock V hb).mono ?_;rintro e w' ⟨rfl,rfl⟩;exact ⟨rfl,⟨es,clock,heap_alloc_new V _,h2⟩,(bR _ _).alloc (nR _) _,by simp⟩
theorem cloneN_any(V:World):Calls Tryz.prog 126 #[.map none] V fun e w'=>e = .returned (.map none)∧w'=V:=AnyW.maps_Clone_nil Tryz.laysMC V
theorem del_nilM{W:World}{n:ByteArray}(h:n.size≤maxLen)(ty:TypeId):(Builtin.delete_ #[68,9] ty #[.map none,.string n]).run Tryz.prog W = .ok (.tuple #[]) W:=by
 simp [Builtin.delete_,run_underlying mapT,SK.check W _ (key_st h),Result.andThen]
structure WOB(w:World)(s:Sc)(a:ScA)(mp:Option Nat)(W:World):Prop where
 bl:Below w.heap.size w W
 lt:w.heap.size+1<W.heap.size
 c0:W.cell? ⟨w.heap.size,0,none⟩=some (.slice a.va s.vs.length a.vc)
 c1:W.cell? ⟨w.heap.size,1,none⟩=some (.slice a.sa s.ss.length a.sc)
 c2:W.cell? ⟨w.heap.size,2,none⟩=some (.map mp)
 z0:W.cell? ⟨w.heap.size+1,0,none⟩=some (.slice none 0 0)
 z1:W.cell? ⟨w.heap.size+1,1,none⟩=some (.slice none 0 0)
 z2:W.cell? ⟨w.heap.size+1,2,none⟩=some (.map none)
 f:∀b o,w.heap.size≤b→b<w.heap.size+1+1→W.frozen? ⟨b,o,none⟩=false
theorem WOB.keep{w:World}{s:Sc}{a:ScA}{mp:Option Nat}{W W':World}(h:WOB w s a mp W)(hb:Below (w.heap.size+1+1) W W'):WOB w s a mp W':=by
 have hs:=hb.size;have hl:=h.lt;have c:∀b o,b<w.heap.size+1+1→W'.cell? ⟨b,o,none⟩=W.cell? ⟨b,o,none⟩:=fun b o q=>hb.cell (p:=⟨b,o,none⟩) q
 exact ⟨h.bl.trans (hb.mono (by omega)),by omega,(c _ _ (by omega)).trans h.c0,(c _ _ (by omega)).trans h.c1,(c _ _ (by omega)).trans h.c2,(c _ _ (by omega)).trans h.z0,(c _ _ (by omega)).trans h.z1,(c _ _ (by omega)).trans h.z2,fun b o q1 q2=>(hb.frozen (p:=⟨b,o,none⟩) q2).trans (h.f b o q1 q2)⟩
theorem WOB.new(w:World)(s:Sc)(a:ScA):WOB w s a a.mp ((w.alloc (.cells #[.slice a.va s.vs.length a.vc,.slice a.sa s.ss.length a.sc,.map a.mp] 70)).alloc (.cells #[.slice none 0 0,.slice none 0 0,.map none] 70)) :=
 ⟨((bR _ _).alloc (nR _) _).alloc (by simp) _,by simp,by go_cell,by go_cell,by go_cell,by go_cell,by go_cell,by go_cell,fun b o q1 q2=>by
  rcases (by omega:b=w.heap.size∨b=w.heap.size+1) with rfl|rfl <;> go_simp⟩
theorem WOB.set{w:World}{s:Sc}{a:ScA}{mp:Option Nat}{W:World}(h:WOB w s a mp W)(mq:Option Nat):WOB w s a mq (W.setCell ⟨w.heap.size,2,none⟩ (.map mq)):=by
 have o1:∀b o,(b≠w.heap.size∨o≠2)→(W.setCell ⟨w.heap.size,2,none⟩ (.map mq)).cell? ⟨b,o,none⟩=W.cell? ⟨b,o,none⟩:=fun b o q=>World.cell?_setCell_other _ _ _ _ (fun e=>by injection e with e1 e2;omega)
 exact ⟨h.bl.setCell (p:=⟨w.heap.size,2,none⟩) (nR _) _,by rw [World.size_setCell];exact h.lt,(o1 _ _ (by omega)).trans h.c0,(o1 _ _ (by omega)).trans h.c1,World.cell?_setCell_same _ _ _ h.c2,(o1 _ _ (by omega)).trans h.z0,(o1 _ _ (by omega)).trans h.z1,(o1 _ _ (by omega)).trans h.z2,fun b o q1 q2=>by rw [World.frozen?_setCell];exact h.f b o q1 q2⟩
theorem WOB.fin{w:World}{s:Sc}{a:ScA}{mp:Option Nat}{W:World}(h:WOB w s a mp W)(v0 v1 v2:Value):∃W9,((W.setCell ⟨w.heap.size+1,0,none⟩ v0).setCell ⟨w.heap.size+1,1,none⟩ v1).setCell ⟨w.heap.size+1,2,none⟩ v2=W9∧W9.cell? ⟨w.heap.size+1,0,none⟩=some v0∧W9.cell? ⟨w.heap.size+1,1,none⟩=some v1∧W9.cell? ⟨w.heap.size+1,2,none⟩=some v2∧Below w.heap.size w W9∧∀k,k≠w.heap.size+1→W9.heap[k]? = W.heap[k]?:=by
 obtain ⟨r0,r1,r2⟩:=st3_at v0 v1 v2 h.z0 h.z1 h.z2;exact ⟨_,rfl,r0,r1,r2,((h.bl.setCell (p:=⟨w.heap.size+1,0,none⟩) (Nat.le_succ _) v0).setCell (p:=⟨w.heap.size+1,1,none⟩) (Nat.le_succ _) v1).setCell (p:=⟨w.heap.size+1,2,none⟩) (Nat.le_succ _) v2,fun k hk=>by rw [Go.Deep.blk_setCell_other _ _ _ _ hk,Go.Deep.blk_setCell_other _ _ _ _ hk,Go.Deep.blk_setCell_other _ _ _ _ hk]⟩
theorem withoutEnd_g(s:Sc)(a:ScA)(n:ByteArray)(w0 w:World)(h:GSc w0 w s.es a.mp)(hn:n.size≤maxLen):
  Calls Tryz.prog 96 #[scVal s a,.string n] w fun e w'=>(∃mp',e = .returned (scVal (s.wo n) ⟨a.va,a.vc,a.sa,a.sc,mp'⟩)∧NSc w0 w (s.wo n).es mp' w')∧Below w.heap.size w w':=by
 have hes:=h;obtain ⟨va,vc,sa,sc,mp⟩:=a;have H2:=hideK (WOB.new w s ⟨va,vc,sa,sc,mp⟩);have hb2:=H2.out.bl;simp only [scVal]at H2 hb2 hes ⊢;clear h;have hsz:((w.alloc (.cells #[.slice va s.vs.length vc,.slice sa s.ss.length sc,.map mp] 70)).alloc (.cells #[.slice none 0 0,.slice none 0 0,.map none] 70)).heap.size=w.heap.size+1+1:=by simp
 obtain ⟨F,he,h3,hes⟩:=hes;rcases hes with ⟨rfl,rfl⟩|⟨b,rfl,h1⟩
 ·have cC:=cloneN_any (((w.alloc (.cells #[.slice va s.vs.length vc,.slice sa s.ss.length sc,.map none] 70)).alloc (.cells #[.slice none 0 0,.slice none 0 0,.map none] 70)))
  have HE:=hideK he;clear he hb2 hsz h3;go_enter Tryz.func96,Tryz.ntmps96
  go_upto_region 1 with fail
  generalize ((w.alloc (.cells #[.slice va s.vs.length vc,.slice sa s.ss.length sc,.map none] 70)).alloc (.cells #[.slice none 0 0,.slice none 0 0,.map none] 70))=V at *;obtain ⟨_,_,c0,c1,c2,z0,z1,z2,ff⟩:=H2.out;have f02:=ff w.heap.size 2 (by omega) (by omega)
  go_wp2_with fail
  refine cC.mono ?_;rintro e w3 ⟨rfl,rfl⟩;have H4:=hideK (H2.out.set none);have hdel:=del_nilM (W:=w3.setCell ⟨w.heap.size,2,none⟩ (.map none)) hn 0;clear cC z0 z1 z2 ff c0 c1;go_upto_region 2 with fail
  clear c2;generalize w3.setCell ⟨w.heap.size,2,none⟩ (.map none)=V4 at *;obtain ⟨_,_,c0,c1,c2,z0,z1,z2,ff⟩:=H4.out;have f10:=ff (w.heap.size+1) 0 (by omega) (by omega)
  have f11:=ff (w.heap.size+1) 1 (by omega) (by omega)
  have f12:=ff (w.heap.size+1) 2 (by omega) (by omega)
  obtain ⟨W9,e9,r0,r1,r2,hb9,_⟩:=H4.out.fin (.slice va s.vs.length vc) (.slice sa s.ss.length sc) (.map none);have HB:=hideK hb9;have HE9:=hideK e9;clear H2 f02 ff e9 hb9 H4;go_wp2_with fail
  rw [HE9.out];refine bodyPost_ret (v:=.agg #[.slice va s.vs.length vc,.slice sa s.ss.length sc,.map none]) (by simp [results,Tryz.results96,go_sem,r0,r1,r2]) rfl ?_
  exact ⟨⟨none,rfl,[],by show delE s.es n=[];rw [HE.out];rfl,(fun t ht=>by cases ht),.inl ⟨rfl,rfl⟩⟩,HB.out⟩
 ·have hlt:=h1.lt
  have cC:=cloneS_any b (FM F) (((w.alloc (.cells #[.slice va s.vs.length vc,.slice sa s.ss.length sc,.map (some b)] 70)).alloc (.cells #[.slice none 0 0,.slice none 0 0,.map none] 70))) (h1.keep hb2 hlt);rw [hsz]at cC;have HE:=hideK he;have H3:=hideK h3;clear he hb2 h1 h3 hlt;go_enter Tryz.func96,Tryz.ntmps96
  go_upto_region 1 with fail
  generalize ((w.alloc (.cells #[.slice va s.vs.length vc,.slice sa s.ss.length sc,.map (some b)] 70)).alloc (.cells #[.slice none 0 0,.slice none 0 0,.map none] 70))=V at *;obtain ⟨_,_,c0,c1,c2,z0,z1,z2,ff⟩:=H2.out;have hlV:=H2.out.lt;go_wp2_with fail
  refine cC.mono ?_;rintro e w3 ⟨rfl,hm3,hb3,hs3⟩;have HW3:=hideK (H2.out.keep hb3);have f02:=HW3.out.f w.heap.size 2 (by omega) (by omega)
  have y2:=HW3.out.c2;have H4:=hideK (HW3.out.set (some (w.heap.size+1+1)));have hm4:SMv (w3.setCell ⟨w.heap.size,2,none⟩ (.map (some (w.heap.size+1+1)))) (w.heap.size+1+1) (FM F):=hm3.of_block (Go.Deep.blk_setCell_other _ _ _ _ (by show w.heap.size+1+1≠w.heap.size;omega))
  clear cC z0 z1 z2 ff c0 c1 c2 HW3 hm3 H2;go_upto_region 2 with fail
  generalize w3.setCell ⟨w.heap.size,2,none⟩ (.map (some (w.heap.size+1+1)))=V4 at *;obtain ⟨W5,hdel,hg5,hs5,hm5⟩:=sm_del mapT hm4 hn 0;have hb5:Below (w.heap.size+1+1) V4 W5:=(bR _ _).grown hg5 (by have:=hm4.lt;omega) (fun k q=>by have:=Option.some.inj q;omega)
  have H5:=hideK (H4.out.keep hb5);obtain ⟨_,_,c0,c1,c2,z0,z1,z2,ff⟩:=H5.out;have x2:=H4.out.c2;have f10:=ff (w.heap.size+1) 0 (by omega) (by omega)
  have f11:=ff (w.heap.size+1) 1 (by omega) (by omega)
  have f12:=ff (w.heap.size+1) 2 (by omega) (by omega)
  obtain ⟨W9,e9,r0,r1,r2,hb9,hk9⟩:=H5.out.fin (.slice va s.vs.length vc) (.slice sa s.ss.length sc) (.map (some (w.heap.size+1+1)));have HB:=hideK hb9;have HE9:=hideK e9;have HM9:=hideK (hm5.of_block (hk9 (w.heap.size+1+1) (by omega)))
  clear f02 ff e9 hb9 H4 H5 hk9 hm5 hm4 hg5 hs5 hb5 y2;go_wp2_with fail
  rw [HE9.out];refine bodyPost_ret (v:=.agg #[.slice va s.vs.length vc,.slice sa s.ss.length sc,.map (some (w.heap.size+1+1))]) (by simp [results,Tryz.results96,go_sem,r0,r1,r2]) rfl ?_
  refine ⟨⟨some (w.heap.size+1+1),rfl,delF F n,?_,fun t ht=>H3.out t (List.mem_filter.1 ht).1,.inr ⟨w.heap.size+1+1,rfl,by omega,?_⟩⟩,HB.out⟩
  ·show delE s.es n=_
   rw [HE.out];exact (FM_del F n).2
  ·rw [← (FM_del F n).1];exact HM9.out
structure TKB(w:World)(s:Sc)(a:ScA)(v0 v1:Value)(W:World):Prop where
 bl:Below w.heap.size w W
 lt:w.heap.size+1+1+1<W.heap.size
 c0:W.cell? ⟨w.heap.size,0,none⟩=some (.slice a.va s.vs.length a.vc)
 c1:W.cell? ⟨w.heap.size,1,none⟩=some (.slice a.sa s.ss.length a.sc)
 c2:W.cell? ⟨w.heap.size,2,none⟩=some (.map a.mp)
 y0:W.cell? ⟨w.heap.size+1,0,none⟩=some (.slice none 0 0)
 y1:W.cell? ⟨w.heap.size+1,1,none⟩=some (.int .i64 0)
 z0:W.cell? ⟨w.heap.size+1+1,0,none⟩=some (.slice none 0 0)
 z1:W.cell? ⟨w.heap.size+1+1,1,none⟩=some (.slice none 0 0)
 z2:W.cell? ⟨w.heap.size+1+1,2,none⟩=some (.map none)
 p0:W.cell? ⟨w.heap.size+1+1+1,0,none⟩=some v0
 p1:W.cell? ⟨w.heap.size+1+1+1,1,none⟩=some v1
 f:∀b o,w.heap.size≤b→b<w.heap.size+1+1+1→W.frozen? ⟨b,o,none⟩=false
theorem TKB.keep{w:World}{s:Sc}{a:ScA}{v0 v1:Value}{W W':World}(h:TKB w s a v0 v1 W)(hb:Below W.heap.size W W'):TKB w s a v0 v1 W':=by
 have hs:=hb.size;have hl:=h.lt;have c:∀b o,b<w.heap.size+1+1+1+1→W'.cell? ⟨b,o,none⟩=W.cell? ⟨b,o,none⟩:=fun b o q=>hb.cell (p:=⟨b,o,none⟩) (by show b<_;omega)
 exact ⟨h.bl.trans (hb.mono h.bl.size),by omega,(c _ _ (by omega)).trans h.c0,(c _ _ (by omega)).trans h.c1,(c _ _ (by omega)).trans h.c2,(c _ _ (by omega)).trans h.y0,(c _ _ (by omega)).trans h.y1,(c _ _ (by omega)).trans h.z0,(c _ _ (by omega)).trans h.z1,(c _ _ (by omega)).trans h.z2,(c _ _ (by omega)).trans h.p0,(c _ _ (by omega)).trans h.p1,fun b o q1 q2=>(hb.frozen (p:=⟨b,o,none⟩) (by show b<_;omega)).trans (h.f b o q1 q2)⟩
theorem TKB.new(w:World)(s:Sc)(a:ScA)(v0 v1:Value):TKB w s a v0 v1 ((((w.alloc (.cells #[.slice a.va s.vs.length a.vc,.slice a.sa s.ss.length a.sc,.map a.mp] 70)).alloc (.cells #[.slice none 0 0,.int .i64 0] 90)).alloc (.cells #[.slice none 0 0,.slice none 0 0,.map none] 70)).alloc (.cells #[v0,v1] 90)) :=
 ⟨((((bR _ _).alloc (nR _) _).alloc (by simp) _).alloc (by simp;omega) _).alloc (by simp;omega) _,by simp,by go_cell,by go_cell,by go_cell,by go_cell,by go_cell,by go_cell,by go_cell,by go_cell,by go_cell,by go_cell,fun b o q1 q2=>by
  rcases (by omega:b=w.heap.size∨b=w.heap.size+1∨b=w.heap.size+1+1) with rfl|rfl|rfl <;> go_simp⟩
theorem TKB.fin{w:World}{s:Sc}{a:ScA}{v0 v1:Value}{W:World}(h:TKB w s a v0 v1 W)(u0 u1 t0 t1 t2:Value):∃W9,((((W.setCell ⟨w.heap.size+1,0,none⟩ u0).setCell ⟨w.heap.size+1,1,none⟩ u1).setCell ⟨w.heap.size+1+1,0,none⟩ t0).setCell ⟨w.heap.size+1+1,1,none⟩ t1).setCell ⟨w.heap.size+1+1,2,none⟩ t2=W9∧W9.cell? ⟨w.heap.size+1,0,none⟩=some u0∧W9.cell? ⟨w.heap.size+1,1,none⟩=some u1∧W9.cell? ⟨w.heap.size+1+1,0,none⟩=some t0∧W9.cell? ⟨w.heap.size+1+1,1,none⟩=some t1∧W9.cell? ⟨w.heap.size+1+1,2,none⟩=some t2∧Below w.heap.size w W9∧(∀k,k≠w.heap.size+1→k≠w.heap.size+1+1→W9.heap[k]? = W.heap[k]?)∧W9.heap.size=W.heap.size:=by
 obtain ⟨r0,r1⟩:=st2_at u0 u1 h.y0 h.y1;have zz:∀o,((W.setCell ⟨w.heap.size+1,0,none⟩ u0).setCell ⟨w.heap.size+1,1,none⟩ u1).cell? ⟨w.heap.size+1+1,o,none⟩=W.cell? ⟨w.heap.size+1+1,o,none⟩:=fun o=>by
  rw [World.cell?_setCell_other _ _ _ _ (fun e=>by injection e with e _;omega),World.cell?_setCell_other _ _ _ _ (fun e=>by injection e with e _;omega)]
 obtain ⟨q0,q1,q2⟩:=st3_at t0 t1 t2 ((zz 0).trans h.z0) ((zz 1).trans h.z1) ((zz 2).trans h.z2);have yy:∀o,(((((W.setCell ⟨w.heap.size+1,0,none⟩ u0).setCell ⟨w.heap.size+1,1,none⟩ u1).setCell ⟨w.heap.size+1+1,0,none⟩ t0).setCell ⟨w.heap.size+1+1,1,none⟩ t1).setCell ⟨w.heap.size+1+1,2,none⟩ t2).cell? ⟨w.heap.size+1,o,none⟩=((W.setCell ⟨w.heap.size+1,0,none⟩ u0).setCell ⟨w.heap.size+1,1,none⟩ u1).cell? ⟨w.heap.size+1,o,none⟩:=fun o=>by
  rw [World.cell?_setCell_other _ _ _ _ (fun e=>by injection e with e _;omega),World.cell?_setCell_other _ _ _ _ (fun e=>by injection e with e _;omega),World.cell?_setCell_other _ _ _ _ (fun e=>by injection e with e _;omega)]
 refine ⟨_,rfl,(yy 0).trans r0,(yy 1).trans r1,q0,q1,q2,((((h.bl.setCell (p:=⟨w.heap.size+1,0,none⟩) (Nat.le_succ _) u0).setCell (p:=⟨w.heap.size+1,1,none⟩) (Nat.le_succ _) u1).setCell (p:=⟨w.heap.size+1+1,0,none⟩) (by show w.heap.size≤w.heap.size+1+1;omega) t0).setCell (p:=⟨w.heap.size+1+1,1,none⟩) (by show w.heap.size≤w.heap.size+1+1;omega) t1).setCell (p:=⟨w.heap.size+1+1,2,none⟩) (by show w.heap.size≤w.heap.size+1+1;omega) t2,fun k h1 h2=>?_,by simp only [World.size_setCell]⟩
 rw [Go.Deep.blk_setCell_other _ _ _ _ h2,Go.Deep.blk_setCell_other _ _ _ _ h2,Go.Deep.blk_setCell_other _ _ _ _ h2,Go.Deep.blk_setCell_other _ _ _ _ h1,Go.Deep.blk_setCell_other _ _ _ _ h1]
theorem GSc.look{w0 W:World}{mp:Option Nat}{es:List (ByteArray × En)}(h:GSc w0 W es mp){n:ByteArray}(hn:n.size≤maxLen):
  (getE es n=none∧∀W',Below W.heap.size W W'→(Instr.lookup 68 (.map mp) (.string n) true).run Tryz.prog W' = .ok (.tuple #[.agg #[.slice none 0 0,.int .i64 0],.bool false]) W') ∨
  ∃x ag cg,getE es n=some x∧EnAt w0 x ag∧∀W',Below W.heap.size W W'→(Instr.lookup 68 (.map mp) (.string n) true).run Tryz.prog W' = .ok (.tuple #[enVal x ag cg,.bool true]) W':=by
 obtain ⟨F,rfl,h3,h⟩:=h;rcases h with ⟨rfl,rfl⟩|⟨b,rfl,h1⟩
 ·exact .inl ⟨rfl,fun W' _=>look_nilM mapT hn (zeroEn W')⟩
 ·rcases FM_get F n with ⟨q1,q2⟩|⟨t,ht,_,q1,q2⟩
  ·exact .inl ⟨q2,fun W' hW=>look_no mapT (h1.keep hW h1.lt) hn q1 (zeroEn W')⟩
  ·exact .inr ⟨t.1.2,t.2.1,t.2.2,q2,h3 t ht,fun W' hW=>(look_yes mapT (h1.keep hW h1.lt) hn q1).1⟩
theorem takenNo_g(s:Sc)(a:ScA)(n:ByteArray)(w0 w:World)(h:GSc w0 w s.es a.mp)(hn:n.size≤maxLen)(hg:getE s.es n=none):
  Calls Tryz.prog 67 #[scVal s a,.string n] w fun e w'=>e = .returned (.tuple #[.agg #[.slice none 0 0,.int .i64 0],scVal s a,.int .i64 4])∧Below w.heap.size w w':=by
 rcases h.look hn with ⟨_,hl⟩|⟨x,ag,cg,e,_,_⟩
 case inr=>rw [hg]at e;cases e
 have hlk:=hl (((w.alloc (.cells #[.slice a.va s.vs.length a.vc,.slice a.sa s.ss.length a.sc,.map a.mp] 70)).alloc (.cells #[.slice none 0 0,.int .i64 0] 90)).alloc (.cells #[.slice none 0 0,.slice none 0 0,.map none] 70)) ((((bR _ _).alloc (nR _) _).alloc (by simp) _).alloc (by simp;omega) _)
 have H4:=hideK ((TKB.new w s a (.slice none 0 0) (.int .i64 0)).keep ((bR _ _).drew));simp only [scVal]at H4 ⊢;clear hl h hg;go_enter Tryz.func67,Tryz.ntmps67
 go_upto_region 3 with fail
 generalize ((((w.alloc (.cells #[.slice a.va s.vs.length a.vc,.slice a.sa s.ss.length a.sc,.map a.mp] 70)).alloc (.cells #[.slice none 0 0,.int .i64 0] 90)).alloc (.cells #[.slice none 0 0,.slice none 0 0,.map none] 70)).alloc (.cells #[.slice none 0 0,.int .i64 0] 90))=V4 at *;have hS0:(fun W:World=>W.cell? ⟨w.heap.size,0,none⟩=some (.slice a.va s.vs.length a.vc)∧W.cell? ⟨w.heap.size,1,none⟩=some (.slice a.sa s.ss.length a.sc)∧W.cell? ⟨w.heap.size,2,none⟩=some (.map a.mp)) V4.drew:=⟨H4.out.c0,H4.out.c1,H4.out.c2⟩
 obtain ⟨W9,e9,r0,r1,r2,r3,r4,hb9,_,_⟩:=H4.out.fin (.slice none 0 0) (.int .i64 0) (.slice a.va s.vs.length a.vc) (.slice a.sa s.ss.length a.sc) (.map a.mp);obtain ⟨_,_,c0,c1,c2,y0,y1,z0,z1,z2,_,_,ff⟩:=H4.out;have g0:=ff (w.heap.size+1) 0 (by omega) (by omega)
 have g1:=ff (w.heap.size+1) 1 (by omega) (by omega)
 have f0:=ff (w.heap.size+1+1) 0 (by omega) (by omega)
 have f1:=ff (w.heap.size+1+1) 1 (by omega) (by omega)
 have f2:=ff (w.heap.size+1+1) 2 (by omega) (by omega)
 have HB:=hideK hb9;have HE:=hideK e9;clear ff hlk H4 hb9 e9;refine wp_region_held_drew (S:=(fun W:World=>W.cell? ⟨w.heap.size,0,none⟩=some (.slice a.va s.vs.length a.vc)∧W.cell? ⟨w.heap.size,1,none⟩=some (.slice a.sa s.ss.length a.sc)∧W.cell? ⟨w.heap.size,2,none⟩=some (.map a.mp))) (by kernel_rfl) hS0 (fun hS=>?_)
 clear hS0;generalize World.drew V4=V5 at *;refine tkZ 0 (.agg #[.slice none 0 0,.int .i64 0]) hS ?_;refine tkH 1 (.agg #[.slice a.va s.vs.length a.vc,.slice a.sa s.ss.length a.sc,.map a.mp]) hS ?_ (hy:=Or.inl ⟨by rfl,fun W hW=>by obtain ⟨q0,q1,q2⟩:=hW;go_simp⟩)
 simp only [Act.put,sA,sB,sC];refine take_oneHL 2 (aC (fun K hK=>?_) aN) (by kernel_rfl)
 go_simp
 have hSn:(fun W:World=>W.cell? ⟨w.heap.size,0,none⟩=some (.slice a.va s.vs.length a.vc)∧W.cell? ⟨w.heap.size,1,none⟩=some (.slice a.sa s.ss.length a.sc)∧W.cell? ⟨w.heap.size,2,none⟩=some (.map a.mp)) ((V5.setCell ⟨w.heap.size+1,0,none⟩ (.slice none 0 0)).setCell ⟨w.heap.size+1,1,none⟩ (.int .i64 0)):=⟨by go_simp,by go_simp,by go_simp⟩
 refine hK.out _ _ hSn ?_;clear hS hK K hSn;intro hS;try simp only [Act.put,sA,sB,sC]
 refine take_oneHL 3 (aC (fun K hK=>?_) aN) (by kernel_rfl)
 go_simp
 have hSn:(fun W:World=>W.cell? ⟨w.heap.size,0,none⟩=some (.slice a.va s.vs.length a.vc)∧W.cell? ⟨w.heap.size,1,none⟩=some (.slice a.sa s.ss.length a.sc)∧W.cell? ⟨w.heap.size,2,none⟩=some (.map a.mp)) (((((V5.setCell ⟨w.heap.size+1,0,none⟩ (.slice none 0 0)).setCell ⟨w.heap.size+1,1,none⟩ (.int .i64 0)).setCell ⟨w.heap.size+1+1,0,none⟩ (.slice a.va s.vs.length a.vc)).setCell ⟨w.heap.size+1+1,1,none⟩ (.slice a.sa s.ss.length a.sc)).setCell ⟨w.heap.size+1+1,2,none⟩ (.map a.mp)):=⟨by go_simp,by go_simp,by go_simp⟩
 refine hK.out _ _ hSn ?_;clear hS hK K hSn;intro hS;try simp only [Act.put,sA,sB,sC]
 refine tkZ 4 (.int .i64 4) hS ?_;refine wpAnyH_done (by kernel_rfl) ?_ _
 rw [HE.out];clear y0 y1 z0 z1 z2 g0 g1 f0 f1 f2 c0 c1 c2 hS;go_wp2_with fail
 refine bodyPost_ret (v:=.tuple #[.agg #[.slice none 0 0,.int .i64 0],.agg #[.slice a.va s.vs.length a.vc,.slice a.sa s.ss.length a.sc,.map a.mp],.int .i64 4]) (by simp [results,Tryz.results67,go_sem,r0,r1,r2,r3,r4]) rfl ?_
 exact ⟨rfl,HB.out⟩
theorem takenYes_g(s:Sc)(a:ScA)(n:ByteArray)(x:En)(w0 w:World)(h:GSc w0 w s.es a.mp)(hn:n.size≤maxLen)(hg:getE s.es n=some x):
  Calls Tryz.prog 67 #[scVal s a,.string n] w fun e w'=>(∃ag cg mp',e = .returned (.tuple #[enVal x ag cg,scVal (s.wo n) ⟨a.va,a.vc,a.sa,a.sc,mp'⟩,.int .i64 0])∧EnAt w0 x ag∧NSc w0 w (s.wo n).es mp' w')∧Below w.heap.size w w':=by
 rcases h.look hn with ⟨e,_⟩|⟨x',ag,cg,e,hx,hl⟩
 case inl=>rw [hg]at e;cases e
 rw [hg]at e;cases e
 have hlk:=hl (((w.alloc (.cells #[.slice a.va s.vs.length a.vc,.slice a.sa s.ss.length a.sc,.map a.mp] 70)).alloc (.cells #[.slice none 0 0,.int .i64 0] 90)).alloc (.cells #[.slice none 0 0,.slice none 0 0,.map none] 70)) ((((bR _ _).alloc (nR _) _).alloc (by simp) _).alloc (by simp;omega) _)
 have H4:=hideK ((TKB.new w s a (.slice ag x.g.length cg) (.int .i64 (x.k:Int))).keep ((bR _ _).drew));have cW:=fun (W:World) (hW:Below w.heap.size w W)=>withoutEnd_g s a n w0 W (h.keep hW) hn
 have HW:=hideK cW;have HX:=hideK hx;simp only [scVal,enVal]at H4 hlk HW ⊢;clear hl h hg cW hx;go_enter Tryz.func67,Tryz.ntmps67
 go_upto_region 4 with fail
 generalize ((((w.alloc (.cells #[.slice a.va s.vs.length a.vc,.slice a.sa s.ss.length a.sc,.map a.mp] 70)).alloc (.cells #[.slice none 0 0,.int .i64 0] 90)).alloc (.cells #[.slice none 0 0,.slice none 0 0,.map none] 70)).alloc (.cells #[.slice ag x.g.length cg,.int .i64 (x.k:Int)] 90))=V4 at *;have hS0:(fun W:World=>W.cell? ⟨w.heap.size,0,none⟩=some (.slice a.va s.vs.length a.vc)∧W.cell? ⟨w.heap.size,1,none⟩=some (.slice a.sa s.ss.length a.sc)∧W.cell? ⟨w.heap.size,2,none⟩=some (.map a.mp)∧W.cell? ⟨w.heap.size+1+1+1,0,none⟩=some (.slice ag x.g.length cg)∧W.cell? ⟨w.heap.size+1+1+1,1,none⟩=some (.int .i64 (x.k:Int))) V4.drew:=⟨H4.out.c0,H4.out.c1,H4.out.c2,H4.out.p0,H4.out.p1⟩
 refine wp_region_held_drew (S:=(fun W:World=>W.cell? ⟨w.heap.size,0,none⟩=some (.slice a.va s.vs.length a.vc)∧W.cell? ⟨w.heap.size,1,none⟩=some (.slice a.sa s.ss.length a.sc)∧W.cell? ⟨w.heap.size,2,none⟩=some (.map a.mp)∧W.cell? ⟨w.heap.size+1+1+1,0,none⟩=some (.slice ag x.g.length cg)∧W.cell? ⟨w.heap.size+1+1+1,1,none⟩=some (.int .i64 (x.k:Int)))) (by kernel_rfl) hS0 (fun hS=>?_)
 clear hS0 hlk;generalize World.drew V4=V5 at *;refine tkH 0 (.agg #[.slice ag x.g.length cg,.int .i64 (x.k:Int)]) hS ?_ (hy:=Or.inl ⟨by rfl,fun W hW=>by obtain ⟨q0,q1,q2,q3,q4⟩:=hW;go_simp⟩)
 simp only [Act.put,sA,sB,sC];refine tkH 1 (.agg #[.slice a.va s.vs.length a.vc,.slice a.sa s.ss.length a.sc,.map a.mp]) hS ?_ (hy:=Or.inl ⟨by rfl,fun W hW=>by obtain ⟨q0,q1,q2,q3,q4⟩:=hW;go_simp⟩)
 simp only [Act.put,sA,sB,sC];refine tkZ 2 (.string n) hS ?_;refine take_oneHL 3 (aC (fun K hK=>?_) aN) (by kernel_rfl)
 go_simp
 refine (HW.out V5 H4.out.bl).mono ?_;rintro e w6 ⟨⟨mp',rfl,hsc⟩,hb6⟩;have H6:=hideK (H4.out.keep hb6);have HLT:=hideK H4.out.lt;have HLE:=hideK H4.out.bl.size;have HSC:=hideK hsc;clear hb6 hsc;have hSn:(fun W:World=>W.cell? ⟨w.heap.size,0,none⟩=some (.slice a.va s.vs.length a.vc)∧W.cell? ⟨w.heap.size,1,none⟩=some (.slice a.sa s.ss.length a.sc)∧W.cell? ⟨w.heap.size,2,none⟩=some (.map a.mp)∧W.cell? ⟨w.heap.size+1+1+1,0,none⟩=some (.slice ag x.g.length cg)∧W.cell? ⟨w.heap.size+1+1+1,1,none⟩=some (.int .i64 (x.k:Int))) w6:=⟨H6.out.c0,H6.out.c1,H6.out.c2,H6.out.p0,H6.out.p1⟩
 refine hK.out _ _ hSn ?_;clear hS hK K hSn;intro hS;try simp only [Act.put,sA,sB,sC]
 obtain ⟨W9,e9,r0,r1,r2,r3,r4,hb9,hk9,hs9⟩:=H6.out.fin (.slice ag x.g.length cg) (.int .i64 (x.k:Int)) (.slice a.va (s.wo n).vs.length a.vc) (.slice a.sa (s.wo n).ss.length a.sc) (.map mp');obtain ⟨_,_,c0,c1,c2,y0,y1,z0,z1,z2,p0,p1,ff⟩:=H6.out;have g0:=ff (w.heap.size+1) 0 (by omega) (by omega)
 have g1:=ff (w.heap.size+1) 1 (by omega) (by omega)
 have f0:=ff (w.heap.size+1+1) 0 (by omega) (by omega)
 have f1:=ff (w.heap.size+1+1) 1 (by omega) (by omega)
 have f2:=ff (w.heap.size+1+1) 2 (by omega) (by omega)
 have HB:=hideK hb9;have HE:=hideK e9;have HK9:=hideK (And.intro hk9 hs9);clear ff hb9 e9 hk9 hs9;refine take_oneHL 4 (aC (fun K hK=>?_) aN) (by kernel_rfl)
 go_simp
 have hSn:(fun W:World=>W.cell? ⟨w.heap.size,0,none⟩=some (.slice a.va s.vs.length a.vc)∧W.cell? ⟨w.heap.size,1,none⟩=some (.slice a.sa s.ss.length a.sc)∧W.cell? ⟨w.heap.size,2,none⟩=some (.map a.mp)∧W.cell? ⟨w.heap.size+1+1+1,0,none⟩=some (.slice ag x.g.length cg)∧W.cell? ⟨w.heap.size+1+1+1,1,none⟩=some (.int .i64 (x.k:Int))) ((w6.setCell ⟨w.heap.size+1,0,none⟩ (.slice ag x.g.length cg)).setCell ⟨w.heap.size+1,1,none⟩ (.int .i64 (x.k:Int))):=⟨by go_simp,by go_simp,by go_simp,by go_simp,by go_simp⟩
 refine hK.out _ _ hSn ?_;clear hS hK K hSn;intro hS;try simp only [Act.put,sA,sB,sC]
 refine take_oneHL 5 (aC (fun K hK=>?_) aN) (by kernel_rfl)
 go_simp
 have hSn:(fun W:World=>W.cell? ⟨w.heap.size,0,none⟩=some (.slice a.va s.vs.length a.vc)∧W.cell? ⟨w.heap.size,1,none⟩=some (.slice a.sa s.ss.length a.sc)∧W.cell? ⟨w.heap.size,2,none⟩=some (.map a.mp)∧W.cell? ⟨w.heap.size+1+1+1,0,none⟩=some (.slice ag x.g.length cg)∧W.cell? ⟨w.heap.size+1+1+1,1,none⟩=some (.int .i64 (x.k:Int))) (((((w6.setCell ⟨w.heap.size+1,0,none⟩ (.slice ag x.g.length cg)).setCell ⟨w.heap.size+1,1,none⟩ (.int .i64 (x.k:Int))).setCell ⟨w.heap.size+1+1,0,none⟩ (.slice a.va (s.wo n).vs.length a.vc)).setCell ⟨w.heap.size+1+1,1,none⟩ (.slice a.sa (s.wo n).ss.length a.sc)).setCell ⟨w.heap.size+1+1,2,none⟩ (.map mp')):=⟨by go_simp,by go_simp,by go_simp,by go_simp,by go_simp⟩
 refine hK.out _ _ hSn ?_;clear hS hK K hSn;intro hS;try simp only [Act.put,sA,sB,sC]
 refine tkZ 6 (.int .i64 0) hS ?_;refine wpAnyH_done (by kernel_rfl) ?_ _
 rw [HE.out];clear y0 y1 z0 z1 z2 g0 g1 f0 f1 f2 c0 c1 c2 p0 p1 hS;go_wp2_with fail
 refine bodyPost_ret (v:=.tuple #[.agg #[.slice ag x.g.length cg,.int .i64 (x.k:Int)],.agg #[.slice a.va (s.wo n).vs.length a.vc,.slice a.sa (s.wo n).ss.length a.sc,.map mp'],.int .i64 0]) (by simp [results,Tryz.results67,go_sem,r0,r1,r2,r3,r4]) rfl ?_
 exact ⟨⟨ag,cg,mp',rfl,HX.out,(HSC.out.of_blocks (W':=W9) (fun b hb=>HK9.out.1 b (by have:=HLT.out;omega) (by have:=HLT.out;omega))).older HLE.out⟩,HB.out⟩
theorem takenNo_any(s:Sc)(a:ScA)(n:ByteArray)(w:World)(h:ScAt w s a)(hn:n.size≤maxLen)(hg:getE s.es n=none):
  Calls Tryz.prog 67 #[scVal s a,.string n] w fun e w'=>e = .returned (.tuple #[.agg #[.slice none 0 0,.int .i64 0],scVal s a,.int .i64 4])∧Below w.heap.size w w':=takenNo_g s a n w w (h.gs (bR _ _)) hn hg
theorem takenYes_any(s:Sc)(a:ScA)(n:ByteArray)(x:En)(w0 w:World)(h:ScAt w0 s a)(hw:Below w0.heap.size w0 w)(hn:n.size≤maxLen)(hg:getE s.es n=some x):
  Calls Tryz.prog 67 #[scVal s a,.string n] w fun e w'=>(∃ag cg mp',e = .returned (.tuple #[enVal x ag cg,scVal (s.wo n) ⟨a.va,a.vc,a.sa,a.sc,mp'⟩,.int .i64 0])∧EnAt w0 x ag∧NSc w0 w (s.wo n).es mp' w')∧Below w.heap.size w w':=takenYes_g s a n x w0 w (h.gs hw) hn hg
end Go.Proofs.YtmamabhhgfcjcaaGreatDoor
