/-
  The contract of check.doneBy.
-/
import Derived.Test.YtmamabhhgfcjcaaGreatDoorOpa
set_option maxRecDepth 100000
set_option maxHeartbeats 8000000
namespace Go.Proofs.YtmamabhhgfcjcaaGreatDoor
open Go.RowKit Go.Shelf
theorem doneBy_any(k:Int)(w:World):
  Calls Tryz.prog 95 #[.int .i64 k] w fun e w'=>e = .returned (.int .i64 (dnBy k))∧Below w.heap.size w w':=by
 have hB:Below w.heap.size w w:=Below.refl _ _;by_cases e2:k=2
 ·subst e2
  rw [show dnBy 2=2 from by decide]
  go_enter Tryz.func95,Tryz.ntmps95
  go_wp2_with fail
  go_ret
  exact ⟨rfl,hB⟩
 by_cases e3:k=3
 ·subst e3
  rw [show dnBy 3=3 from by decide]
  go_enter Tryz.func95,Tryz.ntmps95
  go_wp2_with fail
  go_ret
  exact ⟨rfl,hB⟩
 by_cases e4:k=4
 ·subst e4
  rw [show dnBy 4=4 from by decide]
  go_enter Tryz.func95,Tryz.ntmps95
  go_wp2_with fail
  go_ret
  exact ⟨rfl,hB⟩
 by_cases e5:k=5
 ·subst e5
  rw [show dnBy 5=5 from by decide]
  go_enter Tryz.func95,Tryz.ntmps95
  go_wp2_with fail
  go_ret
  exact ⟨rfl,hB⟩
 by_cases e6:k=6
 ·subst e6
  rw [show dnBy 6=6 from by decide]
  go_enter Tryz.func95,Tryz.ntmps95
  go_wp2_with fail
  go_ret
  exact ⟨rfl,hB⟩
 by_cases e7:k=7
 ·subst e7
  rw [show dnBy 7=7 from by decide]
  go_enter Tryz.func95,Tryz.ntmps95
  go_wp2_with fail
  go_ret
  exact ⟨rfl,hB⟩
 rw [show dnBy k=1 from by unfold dnBy;rw [if_neg (by omega)]]
 have b2:(k==2)=false:=by simpa using e2
 have b3:(k==3)=false:=by simpa using e3
 have b4:(k==4)=false:=by simpa using e4
 have b5:(k==5)=false:=by simpa using e5
 have b6:(k==6)=false:=by simpa using e6
 have b7:(k==7)=false:=by simpa using e7
 clear e2 e3 e4 e5 e6 e7;go_enter Tryz.func95,Tryz.ntmps95
 go_wp2_with fail
 go_ret
 exact ⟨rfl,hB⟩
structure UDB(w:World)(k:Int)(v0 v1:Value)(W:World):Prop where
 bl:Below w.heap.size w W
 lt:w.heap.size+1+1+1<W.heap.size
 c0:W.cell? ⟨w.heap.size,0,none⟩=some (.int .i64 k)
 y0:W.cell? ⟨w.heap.size+1+1,0,none⟩=some (.slice none 0 0)
 y1:W.cell? ⟨w.heap.size+1+1,1,none⟩=some (.int .i64 0)
 p0:W.cell? ⟨w.heap.size+1+1+1,0,none⟩=some v0
 p1:W.cell? ⟨w.heap.size+1+1+1,1,none⟩=some v1
 f:∀o,W.frozen? ⟨w.heap.size+1+1,o,none⟩=false
theorem UDB.keep{w:World}{k:Int}{v0 v1:Value}{W W':World}(h:UDB w k v0 v1 W)(hb:Below W.heap.size W W'):UDB w k v0 v1 W':=by
 have hs:=hb.size;have hl:=h.lt;have c:∀b o,b<w.heap.size+1+1+1+1→W'.cell? ⟨b,o,none⟩=W.cell? ⟨b,o,none⟩:=fun b o q=>hb.cell (p:=⟨b,o,none⟩) (by show b<_;omega)
 exact ⟨h.bl.trans (hb.mono h.bl.size),by omega,(c _ _ (by omega)).trans h.c0,(c _ _ (by omega)).trans h.y0,(c _ _ (by omega)).trans h.y1,(c _ _ (by omega)).trans h.p0,(c _ _ (by omega)).trans h.p1,fun o=>(hb.frozen (p:=⟨w.heap.size+1+1,o,none⟩) (by show w.heap.size+1+1<_;omega)).trans (h.f o)⟩
theorem UDB.new(w:World)(p:Pr)(a:PrA)(s:Sc)(b:ScA)(v0 v1:Value):UDB w p.kind v0 v1 ((((w.alloc (.cells (pK p a) 40)).alloc (.cells #[.slice b.va s.vs.length b.vc,.slice b.sa s.ss.length b.sc,.map b.mp] 70)).alloc (.cells #[.slice none 0 0,.int .i64 0] 90)).alloc (.cells #[v0,v1] 90)) :=
 ⟨((((bR _ _).alloc (nR _) _).alloc (by simp) _).alloc (by simp;omega) _).alloc (by simp;omega) _,by simp,by go_cell,by go_cell,by go_cell,by go_cell,by go_cell,fun o=>by go_simp⟩
theorem usedNo_any(p:Pr)(a:PrA)(s:Sc)(b:ScA)(w0 w:World)(h:ScAt w0 s b)(hw:Below w0.heap.size w0 w)(hn:p.chan.size≤maxLen)(hg:getE s.es p.chan=none):
  Calls Tryz.prog 62 #[prVal p a,scVal s b] w fun e w'=>e = .returned (.tuple #[.agg #[.slice none 0 0,.int .i64 0],.int .i64 4])∧Below w.heap.size w w':=by
 rcases h.es.look hn with ⟨_,hl⟩|⟨x,ag,cg,e,_,_⟩
 case inr=>rw [hg]at e;cases e
 have hlk:=hl (((w.alloc (.cells (pK p a) 40)).alloc (.cells #[.slice b.va s.vs.length b.vc,.slice b.sa s.ss.length b.sc,.map b.mp] 70)).alloc (.cells #[.slice none 0 0,.int .i64 0] 90)) (hw.trans (((((bR _ _).alloc (nR _) _).alloc (by simp) _).alloc (by simp;omega) _).mono hw.size))
 have H4:=hideK (UDB.new w p a s b (.slice none 0 0) (.int .i64 0));simp only [scVal,prVal]at H4 ⊢;clear hl h hg hw;go_enter Tryz.func62,Tryz.ntmps62
 go_wp2_with fail
 have r0:=H4.out.y0;have r1:=H4.out.y1;have HB:=hideK H4.out.bl;generalize ((((w.alloc (.cells (pK p a) 40)).alloc (.cells #[.slice b.va s.vs.length b.vc,.slice b.sa s.ss.length b.sc,.map b.mp] 70)).alloc (.cells #[.slice none 0 0,.int .i64 0] 90)).alloc (.cells #[.slice none 0 0,.int .i64 0] 90))=V4 at *;refine bodyPost_ret (v:=.tuple #[.agg #[.slice none 0 0,.int .i64 0],.int .i64 4]) (by simp [results,Tryz.results62,go_sem,r0,r1]) rfl ?_
 exact ⟨rfl,HB.out⟩
theorem usedYes_any(p:Pr)(a:PrA)(s:Sc)(b:ScA)(x:En)(w0 w:World)(h:ScAt w0 s b)(hw:Below w0.heap.size w0 w)(hn:p.chan.size≤maxLen)(hg:getE s.es p.chan=some x):
  Calls Tryz.prog 62 #[prVal p a,scVal s b] w fun e w'=>(∃ag cg,EnAt w0 x ag∧(((hereE x).kind≠dnBy p.kind∧e = .returned (.tuple #[.agg #[.slice none 0 0,.int .i64 0],.int .i64 7]))∨((hereE x).kind=dnBy p.kind∧e = .returned (.tuple #[enVal x ag cg,.int .i64 0]))))∧Below w.heap.size w w':=by
 rcases h.es.look hn with ⟨e,_⟩|⟨x',ag,cg,e,hx,hl⟩
 case inl=>rw [hg]at e;cases e
 rw [hg]at e;cases e
 have hlk:=hl (((w.alloc (.cells (pK p a) 40)).alloc (.cells #[.slice b.va s.vs.length b.vc,.slice b.sa s.ss.length b.sc,.map b.mp] 70)).alloc (.cells #[.slice none 0 0,.int .i64 0] 90)) (hw.trans (((((bR _ _).alloc (nR _) _).alloc (by simp) _).alloc (by simp;omega) _).mono hw.size))
 have H4:=hideK ((UDB.new w p a s b (.slice ag x.g.length cg) (.int .i64 (x.k:Int))).keep ((bR _ _).drew));obtain ⟨al,cl,at1,ct,_,_,hH⟩:=enHere_ex x ag cg w0 hx;have HH:=hideK (fun (W:World) (hW:Below w.heap.size w W)=>hH W (hw.trans (hW.mono hw.size)))
 have HX:=hideK hx;have HD:=hideK (doneBy_any p.kind);simp only [scVal,enVal,prVal]at H4 hlk HH ⊢;clear hl h hg hx hH hw;generalize hereE x=nd at *;generalize dnBy p.kind=dk at *;by_cases hk:nd.kind=dk
 ·have hq:(nd.kind != dk)=false:=by rw [hk];simp
  have HK:=hideK hk;clear hk;go_enter Tryz.func62,Tryz.ntmps62
  go_upto_region 4 with fail
  refine region_seq (fun W=>UDB w p.kind (.slice ag x.g.length cg) (.int .i64 (x.k:Int)) W) [0,1,2,3,4,5,6,7] (by kernel_rfl) (by kernel_rfl) (by kernel_rfl) H4.out ?_
  refine sW (.agg #[.slice ag x.g.length cg,.int .i64 (x.k:Int)]) (fun W hW=>?_) ?_
  ·obtain ⟨hbl,_,x0,_,_,x1,x2,_⟩:=id hW
   go_simp
  refine sW (.agg #[.int .i64 nd.kind,.int .i64 nd.so,.slice al nd.labs.length cl,.slice at1 nd.to.length ct]) (fun W hW=>?_) ?_
  ·have c:=HH.out W hW.bl
   simp only [ndVal]at c;go_simp
   refine c.mono ?_;rintro e w' ⟨rfl,hb⟩;exact ⟨rfl,hW.keep hb⟩
  refine sW (.int .i64 nd.kind) (fun W hW=>?_) ?_
  ·have hfl:(Instr.field 102 (.agg #[.int .i64 nd.kind,.int .i64 nd.so,.slice al nd.labs.length cl,.slice at1 nd.to.length ct]) 0).run Tryz.prog W = .ok (.int .i64 nd.kind) W:=by kernel_rfl
   go_simp
  refine sO (.pointer (some ⟨w.heap.size,0,none⟩)) ?_;refine sW (.int .i64 p.kind) (fun W hW=>?_) ?_
  ·obtain ⟨hbl,_,x0,_,_,x1,x2,_⟩:=id hW
   go_simp
  refine sW (.int .i64 dk) (fun W hW=>?_) ?_
  ·have c:=HD.out W
   go_simp
   refine c.mono ?_;rintro e w' ⟨rfl,hb⟩;exact ⟨rfl,hW.keep hb⟩
  refine sO (.bool false) ?_;refine sO (.bool false) ?_;refine SeqS.done ?_;intro W1 hW1;have HW1:=hideK hW1;obtain ⟨hbl,hlt,_,z0,z1,x0,x1,zf⟩:=hW1;have f0:=zf 0;have f1:=zf 1;clear zf HH HD H4 hlk;go_wp2_with fail
  obtain ⟨r0,r1⟩:=st2_at (.slice ag x.g.length cg) (.int .i64 (x.k:Int)) z0 z1;have HB:=hideK ((hbl.setCell (p:=⟨w.heap.size+1+1,0,none⟩) (by show w.heap.size≤w.heap.size+1+1;omega) (.slice ag x.g.length cg)).setCell (p:=⟨w.heap.size+1+1,1,none⟩) (by show w.heap.size≤w.heap.size+1+1;omega) (.int .i64 (x.k:Int)))
  generalize (W1.setCell ⟨w.heap.size+1+1,0,none⟩ (.slice ag x.g.length cg)).setCell ⟨w.heap.size+1+1,1,none⟩ (.int .i64 (x.k:Int))=W9 at *;refine bodyPost_ret (v:=.tuple #[.agg #[.slice ag x.g.length cg,.int .i64 (x.k:Int)],.int .i64 0]) (by simp [results,Tryz.results62,go_sem,r0,r1]) rfl ?_
  exact ⟨⟨ag,cg,HX.out,.inr ⟨HK.out,rfl⟩⟩,HB.out⟩
 ·have hq:(nd.kind != dk)=true:=by simpa using hk
  have HK:=hideK hk;clear hk;go_enter Tryz.func62,Tryz.ntmps62
  go_upto_region 4 with fail
  refine region_seq (fun W=>UDB w p.kind (.slice ag x.g.length cg) (.int .i64 (x.k:Int)) W) [0,1,2,3,4,5,6,7] (by kernel_rfl) (by kernel_rfl) (by kernel_rfl) H4.out ?_
  refine sW (.agg #[.slice ag x.g.length cg,.int .i64 (x.k:Int)]) (fun W hW=>?_) ?_
  ·obtain ⟨hbl,_,x0,_,_,x1,x2,_⟩:=id hW
   go_simp
  refine sW (.agg #[.int .i64 nd.kind,.int .i64 nd.so,.slice al nd.labs.length cl,.slice at1 nd.to.length ct]) (fun W hW=>?_) ?_
  ·have c:=HH.out W hW.bl
   simp only [ndVal]at c;go_simp
   refine c.mono ?_;rintro e w' ⟨rfl,hb⟩;exact ⟨rfl,hW.keep hb⟩
  refine sW (.int .i64 nd.kind) (fun W hW=>?_) ?_
  ·have hfl:(Instr.field 102 (.agg #[.int .i64 nd.kind,.int .i64 nd.so,.slice al nd.labs.length cl,.slice at1 nd.to.length ct]) 0).run Tryz.prog W = .ok (.int .i64 nd.kind) W:=by kernel_rfl
   go_simp
  refine sO (.pointer (some ⟨w.heap.size,0,none⟩)) ?_;refine sW (.int .i64 p.kind) (fun W hW=>?_) ?_
  ·obtain ⟨hbl,_,x0,_,_,x1,x2,_⟩:=id hW
   go_simp
  refine sW (.int .i64 dk) (fun W hW=>?_) ?_
  ·have c:=HD.out W
   go_simp
   refine c.mono ?_;rintro e w' ⟨rfl,hb⟩;exact ⟨rfl,hW.keep hb⟩
  refine sO (.bool true) ?_;refine sO (.bool true) ?_;refine SeqS.done ?_;intro W1 hW1;have HW1:=hideK hW1;obtain ⟨hbl,hlt,_,z0,z1,x0,x1,zf⟩:=hW1;have f0:=zf 0;have f1:=zf 1;clear zf HH HD H4 hlk;go_wp2_with fail
  obtain ⟨r0,r1⟩:=st2_at (.slice none 0 0) (.int .i64 0) z0 z1;have HB:=hideK ((hbl.setCell (p:=⟨w.heap.size+1+1,0,none⟩) (by show w.heap.size≤w.heap.size+1+1;omega) (.slice none 0 0)).setCell (p:=⟨w.heap.size+1+1,1,none⟩) (by show w.heap.size≤w.heap.size+1+1;omega) (.int .i64 0))
  generalize (W1.setCell ⟨w.heap.size+1+1,0,none⟩ (.slice none 0 0)).setCell ⟨w.heap.size+1+1,1,none⟩ (.int .i64 0)=W9 at *;refine bodyPost_ret (v:=.tuple #[.agg #[.slice none 0 0,.int .i64 0],.int .i64 7]) (by simp [results,Tryz.results62,go_sem,r0,r1]) rfl ?_
  exact ⟨⟨ag,cg,HX.out,.inl ⟨HK.out,rfl⟩⟩,HB.out⟩
structure BDB(w:World)(p:Pr)(s:Sc)(b:ScA)(x:En)(ag:OAd)(cg:Nat)(W:World):Prop where
 bl:Below w.heap.size w W
 lt:w.heap.size+1+1+1<W.heap.size
 k1:W.cell? ⟨w.heap.size,1,none⟩=some (.string p.chan)
 k2:W.cell? ⟨w.heap.size,2,none⟩=some (.string p.name)
 k3:W.cell? ⟨w.heap.size,3,none⟩=some (.string p.label)
 c0:W.cell? ⟨w.heap.size+1,0,none⟩=some (.slice b.va s.vs.length b.vc)
 c1:W.cell? ⟨w.heap.size+1,1,none⟩=some (.slice b.sa s.ss.length b.sc)
 c2:W.cell? ⟨w.heap.size+1,2,none⟩=some (.map b.mp)
 e0:W.cell? ⟨w.heap.size+1+1,0,none⟩=some (.slice ag x.g.length cg)
 e1:W.cell? ⟨w.heap.size+1+1,1,none⟩=some (.int .i64 (x.k:Int))
 z0:W.cell? ⟨w.heap.size+1+1+1,0,none⟩=some (.slice none 0 0)
 z1:W.cell? ⟨w.heap.size+1+1+1,1,none⟩=some (.slice none 0 0)
 z2:W.cell? ⟨w.heap.size+1+1+1,2,none⟩=some (.map none)
 f:∀o,W.frozen? ⟨w.heap.size+1+1+1,o,none⟩=false
theorem BDB.keep{w:World}{p:Pr}{s:Sc}{b:ScA}{x:En}{ag:OAd}{cg:Nat}{W W':World}(h:BDB w p s b x ag cg W)(hb:Below W.heap.size W W'):BDB w p s b x ag cg W':=by
 have hs:=hb.size;have hl:=h.lt;have c:∀b o,b<w.heap.size+1+1+1+1→W'.cell? ⟨b,o,none⟩=W.cell? ⟨b,o,none⟩:=fun b o q=>hb.cell (p:=⟨b,o,none⟩) (by show b<_;omega)
 exact ⟨h.bl.trans (hb.mono h.bl.size),by omega,(c _ _ (by omega)).trans h.k1,(c _ _ (by omega)).trans h.k2,(c _ _ (by omega)).trans h.k3,(c _ _ (by omega)).trans h.c0,(c _ _ (by omega)).trans h.c1,(c _ _ (by omega)).trans h.c2,(c _ _ (by omega)).trans h.e0,(c _ _ (by omega)).trans h.e1,(c _ _ (by omega)).trans h.z0,(c _ _ (by omega)).trans h.z1,(c _ _ (by omega)).trans h.z2,fun o=>(hb.frozen (p:=⟨w.heap.size+1+1+1,o,none⟩) (by show w.heap.size+1+1+1<_;omega)).trans (h.f o)⟩
theorem BDB.new(w:World)(p:Pr)(a:PrA)(s:Sc)(b:ScA)(x:En)(ag:OAd)(cg:Nat):BDB w p s b x ag cg ((((w.alloc (.cells (pK p a) 40)).alloc (.cells #[.slice b.va s.vs.length b.vc,.slice b.sa s.ss.length b.sc,.map b.mp] 70)).alloc (.cells #[.slice ag x.g.length cg,.int .i64 (x.k:Int)] 90)).alloc (.cells #[.slice none 0 0,.slice none 0 0,.map none] 70)) :=
 ⟨((((bR _ _).alloc (nR _) _).alloc (by simp) _).alloc (by simp;omega) _).alloc (by simp;omega) _,by simp,by go_cell,by go_cell,by go_cell,by go_cell,by go_cell,by go_cell,by go_cell,by go_cell,by go_cell,by go_cell,by go_cell,fun o=>by go_simp⟩
structure BDS(w:World)(p:Pr)(s:Sc)(b:ScA)(x:En)(ag:OAd)(cg:Nat)(W:World):Prop where
 k1:W.cell? ⟨w.heap.size,1,none⟩=some (.string p.chan)
 k2:W.cell? ⟨w.heap.size,2,none⟩=some (.string p.name)
 k3:W.cell? ⟨w.heap.size,3,none⟩=some (.string p.label)
 c0:W.cell? ⟨w.heap.size+1,0,none⟩=some (.slice b.va s.vs.length b.vc)
 c1:W.cell? ⟨w.heap.size+1,1,none⟩=some (.slice b.sa s.ss.length b.sc)
 c2:W.cell? ⟨w.heap.size+1,2,none⟩=some (.map b.mp)
 e0:W.cell? ⟨w.heap.size+1+1,0,none⟩=some (.slice ag x.g.length cg)
 e1:W.cell? ⟨w.heap.size+1+1,1,none⟩=some (.int .i64 (x.k:Int))
theorem BDB.s{w:World}{p:Pr}{s:Sc}{b:ScA}{x:En}{ag:OAd}{cg:Nat}{W:World}(h:BDB w p s b x ag cg W):BDS w p s b x ag cg W:=⟨h.k1,h.k2,h.k3,h.c0,h.c1,h.c2,h.e0,h.e1⟩
theorem BDS.blk{w:World}{p:Pr}{s:Sc}{b:ScA}{x:En}{ag:OAd}{cg:Nat}{W W':World}(h:BDS w p s b x ag cg W)(hb:∀k,k≠w.heap.size+1+1+1→W'.heap[k]? = W.heap[k]?):BDS w p s b x ag cg W':=by
 have c:∀k o,k≠w.heap.size+1+1+1→W'.cell? ⟨k,o,none⟩=W.cell? ⟨k,o,none⟩:=fun k o q=>by unfold World.cell?;rw [hb k q]
 exact ⟨(c _ _ (by omega)).trans h.k1,(c _ _ (by omega)).trans h.k2,(c _ _ (by omega)).trans h.k3,(c _ _ (by omega)).trans h.c0,(c _ _ (by omega)).trans h.c1,(c _ _ (by omega)).trans h.c2,(c _ _ (by omega)).trans h.e0,(c _ _ (by omega)).trans h.e1⟩
theorem BDB.fin{w:World}{p:Pr}{s:Sc}{b:ScA}{x:En}{ag:OAd}{cg:Nat}{W:World}(h:BDB w p s b x ag cg W)(v0 v1 v2:Value):∃W9,((W.setCell ⟨w.heap.size+1+1+1,0,none⟩ v0).setCell ⟨w.heap.size+1+1+1,1,none⟩ v1).setCell ⟨w.heap.size+1+1+1,2,none⟩ v2=W9∧W9.cell? ⟨w.heap.size+1+1+1,0,none⟩=some v0∧W9.cell? ⟨w.heap.size+1+1+1,1,none⟩=some v1∧W9.cell? ⟨w.heap.size+1+1+1,2,none⟩=some v2∧Below w.heap.size w W9∧∀k,k≠w.heap.size+1+1+1→W9.heap[k]? = W.heap[k]?:=by
 obtain ⟨r0,r1,r2⟩:=st3_at v0 v1 v2 h.z0 h.z1 h.z2;exact ⟨_,rfl,r0,r1,r2,((h.bl.setCell (p:=⟨w.heap.size+1+1+1,0,none⟩) (by show w.heap.size≤w.heap.size+1+1+1;omega) v0).setCell (p:=⟨w.heap.size+1+1+1,1,none⟩) (by show w.heap.size≤w.heap.size+1+1+1;omega) v1).setCell (p:=⟨w.heap.size+1+1+1,2,none⟩) (by show w.heap.size≤w.heap.size+1+1+1;omega) v2,fun k hk=>by rw [Go.Deep.blk_setCell_other _ _ _ _ hk,Go.Deep.blk_setCell_other _ _ _ _ hk,Go.Deep.blk_setCell_other _ _ _ _ hk]⟩
theorem behindTakeNo_any(p:Pr)(a:PrA)(s:Sc)(b:ScA)(x:En)(ag:OAd)(cg:Nat)(w:World)(h:ScAt w s b)(hn:p.name.size≤maxLen)(hg:(getE s.es p.name).isSome=true):
  Calls Tryz.prog 102 #[prVal p a,scVal s b,enVal x ag cg] w fun e w'=>e = .returned (.tuple #[scVal s b,.int .i64 4])∧Below w.heap.size w w':=by
 have H4:=hideK (BDB.new w p a s b x ag cg);have c:=hasEnd_any s b p.name ((((w.alloc (.cells (pK p a) 40)).alloc (.cells #[.slice b.va s.vs.length b.vc,.slice b.sa s.ss.length b.sc,.map b.mp] 70)).alloc (.cells #[.slice ag x.g.length cg,.int .i64 (x.k:Int)] 90)).alloc (.cells #[.slice none 0 0,.slice none 0 0,.map none] 70)) (h.keep H4.out.bl) hn;rw [hg]at c;simp only [scVal,prVal,enVal]at H4 c ⊢;clear h hg;go_enter Tryz.func102,Tryz.ntmps102
 go_wp2_with fail
 refine c.mono ?_;rintro e w5 ⟨rfl,hb5⟩;have H5:=hideK (H4.out.keep hb5);clear H4 c hb5;obtain ⟨W9,e9,r0,r1,r2,hb9,_⟩:=H5.out.fin (.slice b.va s.vs.length b.vc) (.slice b.sa s.ss.length b.sc) (.map b.mp);obtain ⟨_,_,_,_,_,c0,c1,c2,_,_,z0,z1,z2,ff⟩:=H5.out;have f0:=ff 0;have f1:=ff 1;have f2:=ff 2;have HB:=hideK hb9;have HE:=hideK e9;clear ff hb9 e9 H5;go_wp2_with fail
 rw [HE.out];refine bodyPost_ret (v:=.tuple #[.agg #[.slice b.va s.vs.length b.vc,.slice b.sa s.ss.length b.sc,.map b.mp],.int .i64 4]) (by simp [results,Tryz.results102,go_sem,r0,r1,r2]) rfl ?_
 exact ⟨rfl,HB.out⟩
theorem behindTakeYes_any(p:Pr)(a:PrA)(s:Sc)(b:ScA)(x:En)(ag:OAd)(cg:Nat)(w0 w:World)(h:ScAt w0 s b)(hw:Below w0.heap.size w0 w)(hx:EnAt w0 x ag)(ht:(hereE x).to.length=2)(hm:p.chan.size≤maxLen)(hn:p.name.size≤maxLen)(hg:(getE s.es p.name).isSome=false):
  Calls Tryz.prog 102 #[prVal p a,scVal s b,enVal x ag cg] w fun e w'=>(∃mp',e = .returned (.tuple #[scVal ((s.we p.chan (toE x 1)).we p.name (toE x 0)) ⟨b.va,b.vc,b.sa,b.sc,mp'⟩,.int .i64 0])∧NSc w0 w ((s.we p.chan (toE x 1)).we p.name (toE x 0)).es mp' w')∧Below w.heap.size w w':=by
 have H4:=hideK (BDB.new w p a s b x ag cg);have c:=hasEnd_any s b p.name ((((w.alloc (.cells (pK p a) 40)).alloc (.cells #[.slice b.va s.vs.length b.vc,.slice b.sa s.ss.length b.sc,.map b.mp] 70)).alloc (.cells #[.slice ag x.g.length cg,.int .i64 (x.k:Int)] 90)).alloc (.cells #[.slice none 0 0,.slice none 0 0,.map none] 70)) (h.keep (hw.trans (H4.out.bl.mono hw.size))) hn;rw [hg]at c;have hy1:=hx.to (j:=1) (by omega)
 have hy0:=hx.to (j:=0) (by omega)
 have t1:∀W,Below w.heap.size w W→Calls Tryz.prog 65 #[enVal x ag cg,.int .i64 1] W fun e w'=>e = .returned (enVal (toE x 1) ag cg)∧Below W.heap.size W w':=fun W hW=>enTo_any x ag cg 1 W (hx.keep (hw.trans (hW.mono hw.size))) (by omega)
 have t0:∀W,Below w.heap.size w W→Calls Tryz.prog 65 #[enVal x ag cg,.int .i64 0] W fun e w'=>e = .returned (enVal (toE x 0) ag cg)∧Below W.heap.size W w':=fun W hW=>enTo_any x ag cg 0 W (hx.keep (hw.trans (hW.mono hw.size))) (by omega)
 generalize toE x 1=y1 at *;generalize toE x 0=y0 at *;have u1:=fun (W:World) (hW:Below w.heap.size w W)=>withEnd_g s b p.chan y1 ag cg w0 W (h.gs (hw.trans (hW.mono hw.size))) hm hy1
 generalize hs1:s.we p.chan y1=s1 at *;have u0:=fun (mp:Option Nat) (W:World) (hW:GSc w0 W s1.es mp)=>withEnd_g s1 ⟨b.va,b.vc,b.sa,b.sc,mp⟩ p.name y0 ag cg w0 W hW hn hy0
 generalize hs2:s1.we p.name y0=s2 at *;have T1:=hideK t1;have T0:=hideK t0;have U1:=hideK u1;have U0:=hideK u0;simp only [scVal,prVal,enVal]at H4 c T1 T0 U1 U0 ⊢;clear t1 t0 u1 u0 h hw hx ht hg hy1 hy0 hs1 hs2 hm hn;go_enter Tryz.func102,Tryz.ntmps102
 go_wp2_with fail
 refine c.mono ?_;rintro e w5 ⟨rfl,hb5⟩;have H5:=hideK (H4.out.keep hb5);clear H4 c hb5;go_upto_region 3 with fail
 have H6:=hideK (H5.out.keep ((bR _ _).drew));have hS0:(fun W:World=>BDS w p s b x ag cg W) w5.drew:=H6.out.s
 clear H5;refine wp_region_held_drew (S:=(fun W:World=>BDS w p s b x ag cg W)) (by kernel_rfl) hS0 (fun hS=>?_)
 clear hS0;generalize World.drew w5=V5 at *;refine tkH 0 (.agg #[.slice b.va s.vs.length b.vc,.slice b.sa s.ss.length b.sc,.map b.mp]) hS ?_ (hy:=Or.inl ⟨by rfl,fun W hW=>by obtain ⟨k1,k2,k3,c0,c1,c2,e0,e1⟩:=id hW;go_simp⟩)
 simp only [Act.put,sA,sB,sC];refine tkZ 1 (.pointer (some ⟨w.heap.size,1,none⟩)) hS ?_;refine tkH 2 (.string p.chan) hS ?_ (hy:=Or.inl ⟨by rfl,fun W hW=>by obtain ⟨k1,k2,k3,c0,c1,c2,e0,e1⟩:=id hW;go_simp⟩)
 simp only [Act.put,sA,sB,sC];refine tkH 3 (.agg #[.slice ag x.g.length cg,.int .i64 (x.k:Int)]) hS ?_ (hy:=Or.inl ⟨by rfl,fun W hW=>by obtain ⟨k1,k2,k3,c0,c1,c2,e0,e1⟩:=id hW;go_simp⟩)
 simp only [Act.put,sA,sB,sC];refine tkZ 6 (.pointer (some ⟨w.heap.size,2,none⟩)) hS ?_;refine tkH 7 (.string p.name) hS ?_ (hy:=Or.inl ⟨by rfl,fun W hW=>by obtain ⟨k1,k2,k3,c0,c1,c2,e0,e1⟩:=id hW;go_simp⟩)
 simp only [Act.put,sA,sB,sC];refine tkH 8 (.agg #[.slice ag x.g.length cg,.int .i64 (x.k:Int)]) hS ?_ (hy:=Or.inl ⟨by rfl,fun W hW=>by obtain ⟨k1,k2,k3,c0,c1,c2,e0,e1⟩:=id hW;go_simp⟩)
 simp only [Act.put,sA,sB,sC];refine take_oneHL 4 (aC (fun K hK=>?_) aN) (by kernel_rfl)
 go_simp
 refine (T1.out V5 H6.out.bl).mono ?_;rintro e V6 ⟨rfl,hb6⟩;have H7:=hideK (H6.out.keep hb6);have hSn:(fun W:World=>BDS w p s b x ag cg W) V6:=H7.out.s
 refine hK.out _ _ hSn ?_;clear hb6;clear hS hK K hSn;intro hS;try simp only [Act.put,sA,sB,sC]
 refine take_oneHL 5 (aC (fun K hK=>?_) aN) (by kernel_rfl)
 go_simp
 refine (U1.out V6 H7.out.bl).mono ?_;rintro e V7 ⟨⟨mp1,rfl,hn1⟩,hb7⟩;have H8:=hideK (H7.out.keep hb7);have hSn:(fun W:World=>BDS w p s b x ag cg W) V7:=H8.out.s
 have HN1:=hideK hn1.gs;refine hK.out _ _ hSn ?_;clear hb7 hn1;clear hS hK K hSn;intro hS;try simp only [Act.put,sA,sB,sC]
 refine take_oneHL 9 (aC (fun K hK=>?_) aN) (by kernel_rfl)
 go_simp
 refine (T0.out V7 H8.out.bl).mono ?_;rintro e V8 ⟨rfl,hb8⟩;have H9:=hideK (H8.out.keep hb8);have hSn:(fun W:World=>BDS w p s b x ag cg W) V8:=H9.out.s
 have HN2:=hideK (HN1.out.keep hb8);refine hK.out _ _ hSn ?_;clear hb8;clear hS hK K hSn;intro hS;try simp only [Act.put,sA,sB,sC]
 refine take_oneHL 10 (aC (fun K hK=>?_) aN) (by kernel_rfl)
 go_simp
 refine (U0.out mp1 V8 HN2.out).mono ?_;rintro e V9 ⟨⟨mp2,rfl,hn3⟩,hb9⟩;have H10:=hideK (H9.out.keep hb9);have hSn:(fun W:World=>BDS w p s b x ag cg W) V9:=H10.out.s
 have HN3:=hideK hn3;have HLE:=hideK H9.out.lt;refine hK.out _ _ hSn ?_;clear hb9 hn3;clear hS hK K hSn;intro hS;try simp only [Act.put,sA,sB,sC]
 obtain ⟨W9,e9,r0,r1,r2,hb9,hk9⟩:=H10.out.fin (.slice b.va s2.vs.length b.vc) (.slice b.sa s2.ss.length b.sc) (.map mp2);obtain ⟨_,_,_,_,_,_,_,_,_,_,z0,z1,z2,ff⟩:=H10.out;have f0:=ff 0;have f1:=ff 1;have f2:=ff 2;have HB:=hideK hb9;have HE:=hideK e9;have HK9:=hideK hk9;clear ff hb9 hk9 T0 T1 U0 U1 e9;refine take_oneHL 11 (aC (fun K hK=>?_) aN) (by kernel_rfl)
 go_simp
 rw [HE.out];have hSn:(fun W:World=>BDS w p s b x ag cg W) W9:=BDS.blk hS HK9.out
 refine hK.out _ _ hSn ?_;clear hS hK K hSn;intro hS;try simp only [Act.put,sA,sB,sC]
 refine tkZ 12 (.int .i64 0) hS ?_;refine wpAnyH_done (by kernel_rfl) ?_ _
 clear z0 z1 z2 f0 f1 f2 hS;go_wp2_with fail
 refine bodyPost_ret (v:=.tuple #[.agg #[.slice b.va s2.vs.length b.vc,.slice b.sa s2.ss.length b.sc,.map mp2],.int .i64 0]) (by simp [results,Tryz.results102,go_sem,r0,r1,r2]) rfl ?_
 exact ⟨⟨mp2,rfl,(HN3.out.of_blocks (W':=W9) (fun b hb=>HK9.out b (by have:=HLE.out;omega))).older (by have:=HLE.out;omega)⟩,HB.out⟩
end Go.Proofs.YtmamabhhgfcjcaaGreatDoor
