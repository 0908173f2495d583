/-
  The contract of (check.scope).taken.
-/
import Derived.Test.YtmamabhhgfcjcaaGreatDoorOz
set_option maxRecDepth 100000
set_option maxHeartbeats 8000000
namespace Go.Proofs.YtmamabhhgfcjcaaGreatDoor
open Go.RowKit Go.Shelf
structure TKB(w:World)(s:Sc)(a:ScA)(v0 v1:Value)(W:World):Prop where
 bl:Below w.heap.size w W
 lt:w.heap.size+1+1+1<W.heap.size
 c0:W.cell? ⟨w.heap.size,0,none⟩=some (.slice a.va s.vs.length a.vc)
 c1:W.cell? ⟨w.heap.size,1,none⟩=some (.slice a.sa s.ss.length a.sc)
 c2:W.cell? ⟨w.heap.size,2,none⟩=some (.map a.mp)
 y0:W.cell? ⟨w.heap.size+1,0,none⟩=some (.slice none 0 0)
 y1:W.cell? ⟨w.heap.size+1,1,none⟩=some (.int .i64 0)
 z0:W.cell? ⟨w.heap.size+1+1,0,none⟩=some (.slice none 0 0)
 z1:W.cell? ⟨w.heap.size+1+1,1,none⟩=some (.slice none 0 0)
 z2:W.cell? ⟨w.heap.size+1+1,2,none⟩=some (.map none)
 p0:W.cell? ⟨w.heap.size+1+1+1,0,none⟩=some v0
 p1:W.cell? ⟨w.heap.size+1+1+1,1,none⟩=some v1
 f:∀b o,w.heap.size≤b→b<w.heap.size+1+1+1→W.frozen? ⟨b,o,none⟩=false
theorem TKB.keep{w:World}{s:Sc}{a:ScA}{v0 v1:Value}{W W':World}(h:TKB w s a v0 v1 W)(hb:Below W.heap.size W W'):TKB w s a v0 v1 W':=by
 have hs:=hb.size;have hl:=h.lt;have c:∀b o,b<w.heap.size+1+1+1+1→W'.cell? ⟨b,o,none⟩=W.cell? ⟨b,o,none⟩:=fun b o q=>hb.cell (p:=⟨b,o,none⟩) (by show b<_;omega)
 exact ⟨h.bl.trans (hb.mono h.bl.size),by omega,(c _ _ (by omega)).trans h.c0,(c _ _ (by omega)).trans h.c1,(c _ _ (by omega)).trans h.c2,(c _ _ (by omega)).trans h.y0,(c _ _ (by omega)).trans h.y1,(c _ _ (by omega)).trans h.z0,(c _ _ (by omega)).trans h.z1,(c _ _ (by omega)).trans h.z2,(c _ _ (by omega)).trans h.p0,(c _ _ (by omega)).trans h.p1,fun b o q1 q2=>(hb.frozen (p:=⟨b,o,none⟩) (by show b<_;omega)).trans (h.f b o q1 q2)⟩
theorem TKB.new(w:World)(s:Sc)(a:ScA)(v0 v1:Value):TKB w s a v0 v1 ((((w.alloc (.cells #[.slice a.va s.vs.length a.vc,.slice a.sa s.ss.length a.sc,.map a.mp] 70)).alloc (.cells #[.slice none 0 0,.int .i64 0] 90)).alloc (.cells #[.slice none 0 0,.slice none 0 0,.map none] 70)).alloc (.cells #[v0,v1] 90)) :=
 ⟨((((bR _ _).alloc (nR _) _).alloc (by simp) _).alloc (by simp;omega) _).alloc (by simp;omega) _,by simp,by go_cell,by go_cell,by go_cell,by go_cell,by go_cell,by go_cell,by go_cell,by go_cell,by go_cell,by go_cell,fun b o q1 q2=>by
  rcases (by omega:b=w.heap.size∨b=w.heap.size+1∨b=w.heap.size+1+1) with rfl|rfl|rfl <;> go_simp⟩
theorem TKB.fin{w:World}{s:Sc}{a:ScA}{v0 v1:Value}{W:World}(h:TKB w s a v0 v1 W)(u0 u1 t0 t1 t2:Value):∃W9,((((W.setCell ⟨w.heap.size+1,0,none⟩ u0).setCell ⟨w.heap.size+1,1,none⟩ u1).setCell ⟨w.heap.size+1+1,0,none⟩ t0).setCell ⟨w.heap.size+1+1,1,none⟩ t1).setCell ⟨w.heap.size+1+1,2,none⟩ t2=W9∧W9.cell? ⟨w.heap.size+1,0,none⟩=some u0∧W9.cell? ⟨w.heap.size+1,1,none⟩=some u1∧W9.cell? ⟨w.heap.size+1+1,0,none⟩=some t0∧W9.cell? ⟨w.heap.size+1+1,1,none⟩=some t1∧W9.cell? ⟨w.heap.size+1+1,2,none⟩=some t2∧Below w.heap.size w W9∧(∀k,k≠w.heap.size+1→k≠w.heap.size+1+1→W9.heap[k]? = W.heap[k]?)∧W9.heap.size=W.heap.size:=by
 obtain ⟨r0,r1⟩:=st2_at u0 u1 h.y0 h.y1;have zz:∀o,((W.setCell ⟨w.heap.size+1,0,none⟩ u0).setCell ⟨w.heap.size+1,1,none⟩ u1).cell? ⟨w.heap.size+1+1,o,none⟩=W.cell? ⟨w.heap.size+1+1,o,none⟩:=fun o=>by
  rw [World.cell?_setCell_other _ _ _ _ (fun e=>by injection e with e _;omega),World.cell?_setCell_other _ _ _ _ (fun e=>by injection e with e _;omega)]
 obtain ⟨q0,q1,q2⟩:=st3_at t0 t1 t2 ((zz 0).trans h.z0) ((zz 1).trans h.z1) ((zz 2).trans h.z2);have yy:∀o,(((((W.setCell ⟨w.heap.size+1,0,none⟩ u0).setCell ⟨w.heap.size+1,1,none⟩ u1).setCell ⟨w.heap.size+1+1,0,none⟩ t0).setCell ⟨w.heap.size+1+1,1,none⟩ t1).setCell ⟨w.heap.size+1+1,2,none⟩ t2).cell? ⟨w.heap.size+1,o,none⟩=((W.setCell ⟨w.heap.size+1,0,none⟩ u0).setCell ⟨w.heap.size+1,1,none⟩ u1).cell? ⟨w.heap.size+1,o,none⟩:=fun o=>by
  rw [World.cell?_setCell_other _ _ _ _ (fun e=>by injection e with e _;omega),World.cell?_setCell_other _ _ _ _ (fun e=>by injection e with e _;omega),World.cell?_setCell_other _ _ _ _ (fun e=>by injection e with e _;omega)]
 refine ⟨_,rfl,(yy 0).trans r0,(yy 1).trans r1,q0,q1,q2,((((h.bl.setCell (p:=⟨w.heap.size+1,0,none⟩) (Nat.le_succ _) u0).setCell (p:=⟨w.heap.size+1,1,none⟩) (Nat.le_succ _) u1).setCell (p:=⟨w.heap.size+1+1,0,none⟩) (by show w.heap.size≤w.heap.size+1+1;omega) t0).setCell (p:=⟨w.heap.size+1+1,1,none⟩) (by show w.heap.size≤w.heap.size+1+1;omega) t1).setCell (p:=⟨w.heap.size+1+1,2,none⟩) (by show w.heap.size≤w.heap.size+1+1;omega) t2,fun k h1 h2=>?_,by simp only [World.size_setCell]⟩
 rw [Go.Deep.blk_setCell_other _ _ _ _ h2,Go.Deep.blk_setCell_other _ _ _ _ h2,Go.Deep.blk_setCell_other _ _ _ _ h2,Go.Deep.blk_setCell_other _ _ _ _ h1,Go.Deep.blk_setCell_other _ _ _ _ h1]
theorem GSc.look{w0 W:World}{mp:Option Nat}{es:List (ByteArray × En)}(h:GSc w0 W es mp){n:ByteArray}(hn:n.size≤maxLen):
  (getE es n=none∧∀W',Below W.heap.size W W'→(Instr.lookup 68 (.map mp) (.string n) true).run Tryz.prog W' = .ok (.tuple #[.agg #[.slice none 0 0,.int .i64 0],.bool false]) W') ∨
  ∃x ag cg,getE es n=some x∧EnAt w0 x ag∧∀W',Below W.heap.size W W'→(Instr.lookup 68 (.map mp) (.string n) true).run Tryz.prog W' = .ok (.tuple #[enVal x ag cg,.bool true]) W':=by
 obtain ⟨F,rfl,h3,h⟩:=h;rcases h with ⟨rfl,rfl⟩|⟨b,rfl,h1⟩
 ·exact .inl ⟨rfl,fun W' _=>look_nilM mapT hn (zeroEn W')⟩
 ·rcases FM_get F n with ⟨q1,q2⟩|⟨t,ht,_,q1,q2⟩
  ·exact .inl ⟨q2,fun W' hW=>look_no mapT (h1.keep hW h1.lt) hn q1 (zeroEn W')⟩
  ·exact .inr ⟨t.1.2,t.2.1,t.2.2,q2,h3 t ht,fun W' hW=>(look_yes mapT (h1.keep hW h1.lt) hn q1).1⟩
theorem takenNo_g(s:Sc)(a:ScA)(n:ByteArray)(w0 w:World)(h:GSc w0 w s.es a.mp)(hn:n.size≤maxLen)(hg:getE s.es n=none):
  Calls Tryz.prog 67 #[scVal s a,.string n] w fun e w'=>e = .returned (.tuple #[.agg #[.slice none 0 0,.int .i64 0],scVal s a,.int .i64 4])∧Below w.heap.size w w':=by
 rcases h.look hn with ⟨_,hl⟩|⟨x,ag,cg,e,_,_⟩
 case inr=>rw [hg]at e;cases e
 have hlk:=hl (((w.alloc (.cells #[.slice a.va s.vs.length a.vc,.slice a.sa s.ss.length a.sc,.map a.mp] 70)).alloc (.cells #[.slice none 0 0,.int .i64 0] 90)).alloc (.cells #[.slice none 0 0,.slice none 0 0,.map none] 70)) ((((bR _ _).alloc (nR _) _).alloc (by simp) _).alloc (by simp;omega) _)
 have H4:=hideK ((TKB.new w s a (.slice none 0 0) (.int .i64 0)).keep ((bR _ _).drew));simp only [scVal]at H4 ⊢;clear hl h hg;go_enter Tryz.func67,Tryz.ntmps67
 go_upto_region 3 with fail
 generalize ((((w.alloc (.cells #[.slice a.va s.vs.length a.vc,.slice a.sa s.ss.length a.sc,.map a.mp] 70)).alloc (.cells #[.slice none 0 0,.int .i64 0] 90)).alloc (.cells #[.slice none 0 0,.slice none 0 0,.map none] 70)).alloc (.cells #[.slice none 0 0,.int .i64 0] 90))=V4 at *;have hS0:(fun W:World=>W.cell? ⟨w.heap.size,0,none⟩=some (.slice a.va s.vs.length a.vc)∧W.cell? ⟨w.heap.size,1,none⟩=some (.slice a.sa s.ss.length a.sc)∧W.cell? ⟨w.heap.size,2,none⟩=some (.map a.mp)) V4.drew:=⟨H4.out.c0,H4.out.c1,H4.out.c2⟩
 obtain ⟨W9,e9,r0,r1,r2,r3,r4,hb9,_,_⟩:=H4.out.fin (.slice none 0 0) (.int .i64 0) (.slice a.va s.vs.length a.vc) (.slice a.sa s.ss.length a.sc) (.map a.mp);obtain ⟨_,_,c0,c1,c2,y0,y1,z0,z1,z2,_,_,ff⟩:=H4.out;have g0:=ff (w.heap.size+1) 0 (by omega) (by omega)
 have g1:=ff (w.heap.size+1) 1 (by omega) (by omega)
 have f0:=ff (w.heap.size+1+1) 0 (by omega) (by omega)
 have f1:=ff (w.heap.size+1+1) 1 (by omega) (by omega)
 have f2:=ff (w.heap.size+1+1) 2 (by omega) (by omega)
 have HB:=hideK hb9;have HE:=hideK e9;clear ff hlk H4 hb9 e9;refine wp_region_held_drew (S:=(fun W:World=>W.cell? ⟨w.heap.size,0,none⟩=some (.slice a.va s.vs.length a.vc)∧W.cell? ⟨w.heap.size,1,none⟩=some (.slice a.sa s.ss.length a.sc)∧W.cell? ⟨w.heap.size,2,none⟩=some (.map a.mp))) (by kernel_rfl) hS0 (fun hS=>?_)
 clear hS0;generalize World.drew V4=V5 at *;refine tkZ 0 (.agg #[.slice none 0 0,.int .i64 0]) hS ?_;refine tkH 1 (.agg #[.slice a.va s.vs.length a.vc,.slice a.sa s.ss.length a.sc,.map a.mp]) hS ?_ (hy:=Or.inl ⟨by rfl,fun W hW=>by obtain ⟨q0,q1,q2⟩:=hW;go_simp⟩)
 simp only [Act.put,sA,sB,sC];refine take_oneHL 2 (aC (fun K hK=>?_) aN) (by kernel_rfl)
 go_simp
 have hSn:(fun W:World=>W.cell? ⟨w.heap.size,0,none⟩=some (.slice a.va s.vs.length a.vc)∧W.cell? ⟨w.heap.size,1,none⟩=some (.slice a.sa s.ss.length a.sc)∧W.cell? ⟨w.heap.size,2,none⟩=some (.map a.mp)) ((V5.setCell ⟨w.heap.size+1,0,none⟩ (.slice none 0 0)).setCell ⟨w.heap.size+1,1,none⟩ (.int .i64 0)):=⟨by go_simp,by go_simp,by go_simp⟩
 refine hK.out _ _ hSn ?_;clear hS hK K hSn;intro hS;try simp only [Act.put,sA,sB,sC]
 refine take_oneHL 3 (aC (fun K hK=>?_) aN) (by kernel_rfl)
 go_simp
 have hSn:(fun W:World=>W.cell? ⟨w.heap.size,0,none⟩=some (.slice a.va s.vs.length a.vc)∧W.cell? ⟨w.heap.size,1,none⟩=some (.slice a.sa s.ss.length a.sc)∧W.cell? ⟨w.heap.size,2,none⟩=some (.map a.mp)) (((((V5.setCell ⟨w.heap.size+1,0,none⟩ (.slice none 0 0)).setCell ⟨w.heap.size+1,1,none⟩ (.int .i64 0)).setCell ⟨w.heap.size+1+1,0,none⟩ (.slice a.va s.vs.length a.vc)).setCell ⟨w.heap.size+1+1,1,none⟩ (.slice a.sa s.ss.length a.sc)).setCell ⟨w.heap.size+1+1,2,none⟩ (.map a.mp)):=⟨by go_simp,by go_simp,by go_simp⟩
 refine hK.out _ _ hSn ?_;clear hS hK K hSn;intro hS;try simp only [Act.put,sA,sB,sC]
 refine tkZ 4 (.int .i64 4) hS ?_;refine wpAnyH_done (by kernel_rfl) ?_ _
 rw [HE.out];clear y0 y1 z0 z1 z2 g0 g1 f0 f1 f2 c0 c1 c2 hS;go_wp2_with fail
 refine bodyPost_ret (v:=.tuple #[.agg #[.slice none 0 0,.int .i64 0],.agg #[.slice a.va s.vs.length a.vc,.slice a.sa s.ss.length a.sc,.map a.mp],.int .i64 4]) (by simp [results,Tryz.results67,go_sem,r0,r1,r2,r3,r4]) rfl ?_
 exact ⟨rfl,HB.out⟩
theorem takenYes_g(s:Sc)(a:ScA)(n:ByteArray)(x:En)(w0 w:World)(h:GSc w0 w s.es a.mp)(hn:n.size≤maxLen)(hg:getE s.es n=some x):
  Calls Tryz.prog 67 #[scVal s a,.string n] w fun e w'=>(∃ag cg mp',e = .returned (.tuple #[enVal x ag cg,scVal (s.wo n) ⟨a.va,a.vc,a.sa,a.sc,mp'⟩,.int .i64 0])∧EnAt w0 x ag∧NSc w0 w (s.wo n).es mp' w')∧Below w.heap.size w w':=by
 rcases h.look hn with ⟨e,_⟩|⟨x',ag,cg,e,hx,hl⟩
 case inl=>rw [hg]at e;cases e
 rw [hg]at e;cases e
 have hlk:=hl (((w.alloc (.cells #[.slice a.va s.vs.length a.vc,.slice a.sa s.ss.length a.sc,.map a.mp] 70)).alloc (.cells #[.slice none 0 0,.int .i64 0] 90)).alloc (.cells #[.slice none 0 0,.slice none 0 0,.map none] 70)) ((((bR _ _).alloc (nR _) _).alloc (by simp) _).alloc (by simp;omega) _)
 have H4:=hideK ((TKB.new w s a (.slice ag x.g.length cg) (.int .i64 (x.k:Int))).keep ((bR _ _).drew));have cW:=fun (W:World) (hW:Below w.heap.size w W)=>withoutEnd_g s a n w0 W (h.keep hW) hn
 have HW:=hideK cW;have HX:=hideK hx;simp only [scVal,enVal]at H4 hlk HW ⊢;clear hl h hg cW hx;go_enter Tryz.func67,Tryz.ntmps67
 go_upto_region 4 with fail
 generalize ((((w.alloc (.cells #[.slice a.va s.vs.length a.vc,.slice a.sa s.ss.length a.sc,.map a.mp] 70)).alloc (.cells #[.slice none 0 0,.int .i64 0] 90)).alloc (.cells #[.slice none 0 0,.slice none 0 0,.map none] 70)).alloc (.cells #[.slice ag x.g.length cg,.int .i64 (x.k:Int)] 90))=V4 at *;have hS0:(fun W:World=>W.cell? ⟨w.heap.size,0,none⟩=some (.slice a.va s.vs.length a.vc)∧W.cell? ⟨w.heap.size,1,none⟩=some (.slice a.sa s.ss.length a.sc)∧W.cell? ⟨w.heap.size,2,none⟩=some (.map a.mp)∧W.cell? ⟨w.heap.size+1+1+1,0,none⟩=some (.slice ag x.g.length cg)∧W.cell? ⟨w.heap.size+1+1+1,1,none⟩=some (.int .i64 (x.k:Int))) V4.drew:=⟨H4.out.c0,H4.out.c1,H4.out.c2,H4.out.p0,H4.out.p1⟩
 refine wp_region_held_drew (S:=(fun W:World=>W.cell? ⟨w.heap.size,0,none⟩=some (.slice a.va s.vs.length a.vc)∧W.cell? ⟨w.heap.size,1,none⟩=some (.slice a.sa s.ss.length a.sc)∧W.cell? ⟨w.heap.size,2,none⟩=some (.map a.mp)∧W.cell? ⟨w.heap.size+1+1+1,0,none⟩=some (.slice ag x.g.length cg)∧W.cell? ⟨w.heap.size+1+1+1,1,none⟩=some (.int .i64 (x.k:Int)))) (by kernel_rfl) hS0 (fun hS=>?_)
 clear hS0 hlk;generalize World.drew V4=V5 at *;refine tkH 0 (.agg #[.slice ag x.g.length cg,.int .i64 (x.k:Int)]) hS ?_ (hy:=Or.inl ⟨by rfl,fun W hW=>by obtain ⟨q0,q1,q2,q3,q4⟩:=hW;go_simp⟩)
 simp only [Act.put,sA,sB,sC];refine tkH 1 (.agg #[.slice a.va s.vs.length a.vc,.slice a.sa s.ss.length a.sc,.map a.mp]) hS ?_ (hy:=Or.inl ⟨by rfl,fun W hW=>by obtain ⟨q0,q1,q2,q3,q4⟩:=hW;go_simp⟩)
 simp only [Act.put,sA,sB,sC];refine tkZ 2 (.string n) hS ?_;refine take_oneHL 3 (aC (fun K hK=>?_) aN) (by kernel_rfl)
 go_simp
 refine (HW.out V5 H4.out.bl).mono ?_;rintro e w6 ⟨⟨mp',rfl,hsc⟩,hb6⟩;have H6:=hideK (H4.out.keep hb6);have HLT:=hideK H4.out.lt;have HLE:=hideK H4.out.bl.size;have HSC:=hideK hsc;clear hb6 hsc;have hSn:(fun W:World=>W.cell? ⟨w.heap.size,0,none⟩=some (.slice a.va s.vs.length a.vc)∧W.cell? ⟨w.heap.size,1,none⟩=some (.slice a.sa s.ss.length a.sc)∧W.cell? ⟨w.heap.size,2,none⟩=some (.map a.mp)∧W.cell? ⟨w.heap.size+1+1+1,0,none⟩=some (.slice ag x.g.length cg)∧W.cell? ⟨w.heap.size+1+1+1,1,none⟩=some (.int .i64 (x.k:Int))) w6:=⟨H6.out.c0,H6.out.c1,H6.out.c2,H6.out.p0,H6.out.p1⟩
 refine hK.out _ _ hSn ?_;clear hS hK K hSn;intro hS;try simp only [Act.put,sA,sB,sC]
 obtain ⟨W9,e9,r0,r1,r2,r3,r4,hb9,hk9,hs9⟩:=H6.out.fin (.slice ag x.g.length cg) (.int .i64 (x.k:Int)) (.slice a.va (s.wo n).vs.length a.vc) (.slice a.sa (s.wo n).ss.length a.sc) (.map mp');obtain ⟨_,_,c0,c1,c2,y0,y1,z0,z1,z2,p0,p1,ff⟩:=H6.out;have g0:=ff (w.heap.size+1) 0 (by omega) (by omega)
 have g1:=ff (w.heap.size+1) 1 (by omega) (by omega)
 have f0:=ff (w.heap.size+1+1) 0 (by omega) (by omega)
 have f1:=ff (w.heap.size+1+1) 1 (by omega) (by omega)
 have f2:=ff (w.heap.size+1+1) 2 (by omega) (by omega)
 have HB:=hideK hb9;have HE:=hideK e9;have HK9:=hideK (And.intro hk9 hs9);clear ff hb9 e9 hk9 hs9;refine take_oneHL 4 (aC (fun K hK=>?_) aN) (by kernel_rfl)
 go_simp
 have hSn:(fun W:World=>W.cell? ⟨w.heap.size,0,none⟩=some (.slice a.va s.vs.length a.vc)∧W.cell? ⟨w.heap.size,1,none⟩=some (.slice a.sa s.ss.length a.sc)∧W.cell? ⟨w.heap.size,2,none⟩=some (.map a.mp)∧W.cell? ⟨w.heap.size+1+1+1,0,none⟩=some (.slice ag x.g.length cg)∧W.cell? ⟨w.heap.size+1+1+1,1,none⟩=some (.int .i64 (x.k:Int))) ((w6.setCell ⟨w.heap.size+1,0,none⟩ (.slice ag x.g.length cg)).setCell ⟨w.heap.size+1,1,none⟩ (.int .i64 (x.k:Int))):=⟨by go_simp,by go_simp,by go_simp,by go_simp,by go_simp⟩
 refine hK.out _ _ hSn ?_;clear hS hK K hSn;intro hS;try simp only [Act.put,sA,sB,sC]
 refine take_oneHL 5 (aC (fun K hK=>?_) aN) (by kernel_rfl)
 go_simp
 have hSn:(fun W:World=>W.cell? ⟨w.heap.size,0,none⟩=some (.slice a.va s.vs.length a.vc)∧W.cell? ⟨w.heap.size,1,none⟩=some (.slice a.sa s.ss.length a.sc)∧W.cell? ⟨w.heap.size,2,none⟩=some (.map a.mp)∧W.cell? ⟨w.heap.size+1+1+1,0,none⟩=some (.slice ag x.g.length cg)∧W.cell? ⟨w.heap.size+1+1+1,1,none⟩=some (.int .i64 (x.k:Int))) (((((w6.setCell ⟨w.heap.size+1,0,none⟩ (.slice ag x.g.length cg)).setCell ⟨w.heap.size+1,1,none⟩ (.int .i64 (x.k:Int))).setCell ⟨w.heap.size+1+1,0,none⟩ (.slice a.va (s.wo n).vs.length a.vc)).setCell ⟨w.heap.size+1+1,1,none⟩ (.slice a.sa (s.wo n).ss.length a.sc)).setCell ⟨w.heap.size+1+1,2,none⟩ (.map mp')):=⟨by go_simp,by go_simp,by go_simp,by go_simp,by go_simp⟩
 refine hK.out _ _ hSn ?_;clear hS hK K hSn;intro hS;try simp only [Act.put,sA,sB,sC]
 refine tkZ 6 (.int .i64 0) hS ?_;refine wpAnyH_done (by kernel_rfl) ?_ _
 rw [HE.out];clear y0 y1 z0 z1 z2 g0 g1 f0 f1 f2 c0 c1 c2 p0 p1 hS;go_wp2_with fail
 refine bodyPost_ret (v:=.tuple #[.agg #[.slice ag x.g.length cg,.int .i64 (x.k:Int)],.agg #[.slice a.va (s.wo n).vs.length a.vc,.slice a.sa (s.wo n).ss.length a.sc,.map mp'],.int .i64 0]) (by simp [results,Tryz.results67,go_sem,r0,r1,r2,r3,r4]) rfl ?_
 exact ⟨⟨ag,cg,mp',rfl,HX.out,(HSC.out.of_blocks (W':=W9) (fun b hb=>HK9.out.1 b (by have:=HLT.out;omega) (by have:=HLT.out;omega))).older HLE.out⟩,HB.out⟩
theorem takenNo_any(s:Sc)(a:ScA)(n:ByteArray)(w:World)(h:ScAt w s a)(hn:n.size≤maxLen)(hg:getE s.es n=none):
  Calls Tryz.prog 67 #[scVal s a,.string n] w fun e w'=>e = .returned (.tuple #[.agg #[.slice none 0 0,.int .i64 0],scVal s a,.int .i64 4])∧Below w.heap.size w w':=takenNo_g s a n w w (h.gs (bR _ _)) hn hg
theorem takenYes_any(s:Sc)(a:ScA)(n:ByteArray)(x:En)(w0 w:World)(h:ScAt w0 s a)(hw:Below w0.heap.size w0 w)(hn:n.size≤maxLen)(hg:getE s.es n=some x):
  Calls Tryz.prog 67 #[scVal s a,.string n] w fun e w'=>(∃ag cg mp',e = .returned (.tuple #[enVal x ag cg,scVal (s.wo n) ⟨a.va,a.vc,a.sa,a.sc,mp'⟩,.int .i64 0])∧EnAt w0 x ag∧NSc w0 w (s.wo n).es mp' w')∧Below w.heap.size w w':=takenYes_g s a n x w0 w (h.gs hw) hn hg
end Go.Proofs.YtmamabhhgfcjcaaGreatDoor
