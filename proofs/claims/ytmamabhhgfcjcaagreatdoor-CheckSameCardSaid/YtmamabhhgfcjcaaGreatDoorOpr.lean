/-
  The contract of (check.scope).withValue.
-/
import Derived.Test.YtmamabhhgfcjcaaGreatDoorOfe
set_option maxRecDepth 100000
set_option maxHeartbeats 16000000
namespace Go.Proofs.YtmamabhhgfcjcaaGreatDoor
open Go.RowKit Go.Shelf
theorem WOB.set2{w:World}{s:Sc}{a:ScA}{mp:Option Nat}{W:World}(h:WOB w s a mp W)(n:ByteArray)(z:Int)(va:OAd)(vc:Nat)(sa:OAd)(sc:Nat):∃W8,(W.setCell ⟨w.heap.size,0,none⟩ (.slice va (s.vs.length+1) vc)).setCell ⟨w.heap.size,1,none⟩ (.slice sa (s.ss.length+1) sc)=W8∧WOB w (s.wv n z) ⟨va,vc,sa,sc,mp⟩ mp W8∧(∀k,k≠w.heap.size→W8.heap[k]? = W.heap[k]?)∧W8.heap.size=W.heap.size:=by
 have o1:∀b o,(b≠w.heap.size∨2≤o)→((W.setCell ⟨w.heap.size,0,none⟩ (.slice va (s.vs.length+1) vc)).setCell ⟨w.heap.size,1,none⟩ (.slice sa (s.ss.length+1) sc)).cell? ⟨b,o,none⟩=W.cell? ⟨b,o,none⟩:=fun b o q=>(World.cell?_setCell_other _ _ _ _ (fun e=>by injection e with e1 e2;omega)).trans (World.cell?_setCell_other _ _ _ _ (fun e=>by injection e with e1 e2;omega))
 refine ⟨_,rfl,⟨(h.bl.setCell (p:=⟨w.heap.size,0,none⟩) (nR _) _).setCell (p:=⟨w.heap.size,1,none⟩) (nR _) _,by rw [World.size_setCell,World.size_setCell];exact h.lt,?_,?_,(o1 _ _ (by omega)).trans h.c2,(o1 _ _ (by omega)).trans h.z0,(o1 _ _ (by omega)).trans h.z1,(o1 _ _ (by omega)).trans h.z2,fun b o q1 q2=>by rw [World.frozen?_setCell,World.frozen?_setCell];exact h.f b o q1 q2⟩,fun k hk=>by rw [Go.Deep.blk_setCell_other _ _ _ _ hk,Go.Deep.blk_setCell_other _ _ _ _ hk],by rw [World.size_setCell,World.size_setCell]⟩
 ·rw [World.cell?_setCell_other _ _ _ _ (fun e=>by injection e with e1 e2;omega),World.cell?_setCell_same _ _ _ h.c0]
  simp [Sc.wv]
 ·rw [World.cell?_setCell_same _ _ _ ((World.cell?_setCell_other _ _ _ _ (fun e=>by injection e with e1 e2;omega)).trans h.c1)]
  simp [Sc.wv]
theorem withValue_any(s:Sc)(a:ScA)(n:ByteArray)(z:Int)(w:World)(h:ScAt w s a)(hl:s.vs.length≤1000):
  Calls Tryz.prog 72 #[scVal s a,.string n,.int .i64 z] w fun e w'=>(∃va' vc' sa' sc',e = .returned (scVal (s.wv n z) ⟨va',vc',sa',sc',a.mp⟩)∧RowN w w' ((s.vs++[n]).map Value.string) va' vc'∧RowN w w' ((s.ss++[z]).map (Value.int .i64)) sa' sc')∧Below w.heap.size w w':=by
 have H:=hideK ((WOB.new w s a).keep ((bR _ _).drew));have HV:=hideK h;have hls:s.ss.length≤1000:=by have:=h.eq;omega
 have C2:=hideK (fun W=>clipS_any s.vs.length a.vc a.va W h.vs.len h.vs.cap (fun e=>by rcases h.vs.la with q|⟨b,o,q,_⟩;simpa using q;rw [e]at q;cases q))
 have C8:=hideK (fun W=>clipI_any s.ss.length a.sc a.sa W h.sl h.sc (fun e=>by rcases h.ss with q|⟨b,o,q,_⟩;simpa using q;rw [e]at q;cases q))
 simp only [scVal,Sc.wv,List.length_append,List.length_singleton]at H ⊢;clear h;go_enter Tryz.func72,Tryz.ntmps72
 go_upto_region 1 with fail
 have hS0:(fun W:World=>W.cell? ⟨w.heap.size,0,none⟩=some (.slice a.va s.vs.length a.vc)∧W.cell? ⟨w.heap.size,1,none⟩=some (.slice a.sa s.ss.length a.sc)) (World.drew ((w.alloc (.cells #[.slice a.va s.vs.length a.vc,.slice a.sa s.ss.length a.sc,.map a.mp] 70)).alloc (.cells #[.slice none 0 0,.slice none 0 0,.map none] 70))):=⟨H.out.c0,H.out.c1⟩
 have HZ:=hideK (show (World.drew ((w.alloc (.cells #[.slice a.va s.vs.length a.vc,.slice a.sa s.ss.length a.sc,.map a.mp] 70)).alloc (.cells #[.slice none 0 0,.slice none 0 0,.map none] 70))).heap.size=w.heap.size+1+1 from by simp)
 refine wp_region_cut 13 (S:=(fun W:World=>W.cell? ⟨w.heap.size,0,none⟩=some (.slice a.va s.vs.length a.vc)∧W.cell? ⟨w.heap.size,1,none⟩=some (.slice a.sa s.ss.length a.sc))) (by kernel_rfl) (List.toList_toArray) (by kernel_rfl) (by simp) (by kernel_rfl) (by kernel_rfl) (by kernel_rfl) hS0 (fun hS=>?_)
 clear hS0;generalize World.drew ((w.alloc (.cells #[.slice a.va s.vs.length a.vc,.slice a.sa s.ss.length a.sc,.map a.mp] 70)).alloc (.cells #[.slice none 0 0,.slice none 0 0,.map none] 70))=V0 at *;simp only [List.take_succ_cons,List.take_zero];obtain ⟨V,hVV⟩:∃x:World,x=V0:=⟨_,rfl⟩;rw [← hVV]at H hS ⊢;clear hVV;refine tkZ 0 (.pointer (some ⟨w.heap.size,0,none⟩)) hS ?_;refine tkH 1 (.slice a.va s.vs.length a.vc) hS ?_ (hy:=Or.inl ⟨by rfl,fun W hW=>by obtain ⟨q0,q1⟩:=id hW;go_simp⟩)
 simp only [Act.put,sA,sB,sC];refine tkZ 3 (.string n) hS ?_;refine tkZ 6 (.pointer (some ⟨w.heap.size,1,none⟩)) hS ?_;refine tkH 7 (.slice a.sa s.ss.length a.sc) hS ?_ (hy:=Or.inl ⟨by rfl,fun W hW=>by obtain ⟨q0,q1⟩:=id hW;go_simp⟩)
 simp only [Act.put,sA,sB,sC];refine tkZ 9 (.int .i64 z) hS ?_;refine ready_any [2,4,5,8,10,11] ?_;repeat' (first
  | exact cE
  | refine cN ?_
  | refine cY ?_ ?_
  | (
   refine opg 2 (fun K hK=>?_)
   go_simp
   refine (C2.out V).mono ?_;rintro e W ⟨rfl,hWe⟩;rw [hWe];clear hWe W;refine hK.out _ _ hS ?_;clear hS hK K;intro hS;try simp only [Act.put,sA,sB,sC]
   (try refine tkR 12 (.pointer (some ⟨w.heap.size,0,none⟩)) hS ?_)
   (try refine ready_any [2,4,5,8,10,11] ?_))
  | (
   refine opg 8 (fun K hK=>?_)
   go_simp
   refine (C8.out V).mono ?_;rintro e W ⟨rfl,hWe⟩;rw [hWe];clear hWe W;refine hK.out _ _ hS ?_;clear hS hK K;intro hS;try simp only [Act.put,sA,sB,sC]
   (try refine tkR 12 (.pointer (some ⟨w.heap.size,0,none⟩)) hS ?_)
   (try refine ready_any [2,4,5,8,10,11] ?_))
  | (
   refine opg 4 (fun K hK=>?_)
   have hbs:Below V.heap.size V (V.alloc (.cells #[.string n] 9)):=(bR _ _).alloc (nR _) _;have HN:=hideK (H.out.keep (hbs.mono (by have:=H.out.lt;omega)))
   have hSn:(fun W:World=>W.cell? ⟨w.heap.size,0,none⟩=some (.slice a.va s.vs.length a.vc)∧W.cell? ⟨w.heap.size,1,none⟩=some (.slice a.sa s.ss.length a.sc)) (V.alloc (.cells #[.string n] 9)):=⟨HN.out.c0,HN.out.c1⟩
   try replace G4:=hideK (And.intro ((hbs.cell (p:=⟨g4,0,none⟩) G4.out.2).trans G4.out.1) (nL G4.out.2 hbs.size))
   try replace G10:=hideK (And.intro ((hbs.cell (p:=⟨g10,0,none⟩) G10.out.2).trans G10.out.1) (nL G10.out.2 hbs.size))
   try replace R5:=hideK (R5.out.keep hbs)
   try replace R11:=hideK (R11.out.keep hbs)
   have G4:=hideK (show (V.alloc (.cells #[.string n] 9)).cell? ⟨V.heap.size,0,none⟩=some (.string n)∧V.heap.size<(V.alloc (.cells #[.string n] 9)).heap.size from ⟨by go_cell,by simp⟩)
   go_simp
   refine hK.out _ _ hSn ?_;clear H hS hK K hSn;have H:=HN;clear HN hbs;intro hS;try simp only [Act.put,sA,sB,sC]
   generalize V.heap.size=g4 at G4 ⊢;generalize World.alloc V _=V at *;(try refine tkR 12 (.pointer (some ⟨w.heap.size,0,none⟩)) hS ?_)
   (try refine ready_any [2,4,5,8,10,11] ?_))
  | (
   refine opg 10 (fun K hK=>?_)
   have hbs:Below V.heap.size V (V.alloc (.cells #[.int .i64 z] 3)):=(bR _ _).alloc (nR _) _;have HN:=hideK (H.out.keep (hbs.mono (by have:=H.out.lt;omega)))
   have hSn:(fun W:World=>W.cell? ⟨w.heap.size,0,none⟩=some (.slice a.va s.vs.length a.vc)∧W.cell? ⟨w.heap.size,1,none⟩=some (.slice a.sa s.ss.length a.sc)) (V.alloc (.cells #[.int .i64 z] 3)):=⟨HN.out.c0,HN.out.c1⟩
   try replace G4:=hideK (And.intro ((hbs.cell (p:=⟨g4,0,none⟩) G4.out.2).trans G4.out.1) (nL G4.out.2 hbs.size))
   try replace G10:=hideK (And.intro ((hbs.cell (p:=⟨g10,0,none⟩) G10.out.2).trans G10.out.1) (nL G10.out.2 hbs.size))
   try replace R5:=hideK (R5.out.keep hbs)
   try replace R11:=hideK (R11.out.keep hbs)
   have G10:=hideK (show (V.alloc (.cells #[.int .i64 z] 3)).cell? ⟨V.heap.size,0,none⟩=some (.int .i64 z)∧V.heap.size<(V.alloc (.cells #[.int .i64 z] 3)).heap.size from ⟨by go_cell,by simp⟩)
   go_simp
   refine hK.out _ _ hSn ?_;clear H hS hK K hSn;have H:=HN;clear HN hbs;intro hS;try simp only [Act.put,sA,sB,sC]
   generalize V.heap.size=g10 at G10 ⊢;generalize World.alloc V _=V at *;(try refine tkR 12 (.pointer (some ⟨w.heap.size,0,none⟩)) hS ?_)
   (try refine ready_any [2,4,5,8,10,11] ?_))
  | (
   refine opg 5 (fun K hK=>?_)
   refine step_append_str V rfl (.tmp 9) (.tmp 11) rfl s.vs a.va w.heap.size n g4 _ rfl rfl (NAt.keep H.out.bl HV.out.vs.la) (by omega) G4.out.1 (fun va1 vc1 V hrow hbs=>?_)
   have RN:=hideK (hrow.older (v:=V0) (by have:=H.out.lt;have:=HZ.out;omega))
   have HN:=hideK (H.out.keep (hbs.mono (by have:=H.out.lt;omega)))
   have hSn:(fun W:World=>W.cell? ⟨w.heap.size,0,none⟩=some (.slice a.va s.vs.length a.vc)∧W.cell? ⟨w.heap.size,1,none⟩=some (.slice a.sa s.ss.length a.sc)) V:=⟨HN.out.c0,HN.out.c1⟩
   try replace G4:=hideK (And.intro ((hbs.cell (p:=⟨g4,0,none⟩) G4.out.2).trans G4.out.1) (nL G4.out.2 hbs.size))
   try replace G10:=hideK (And.intro ((hbs.cell (p:=⟨g10,0,none⟩) G10.out.2).trans G10.out.1) (nL G10.out.2 hbs.size))
   try replace R5:=hideK (R5.out.keep hbs)
   try replace R11:=hideK (R11.out.keep hbs)
   have R5:=RN;clear RN hrow;refine hK.out _ _ hSn ?_;clear H hS hK K hSn;have H:=HN;clear HN hbs;intro hS;try simp only [Act.put,sA,sB,sC]
   (try refine tkR 12 (.pointer (some ⟨w.heap.size,0,none⟩)) hS ?_)
   (try refine ready_any [2,4,5,8,10,11] ?_))
  | (
   refine opg 11 (fun K hK=>?_)
   refine step_append_int V rfl (.tmp 15) (.tmp 17) rfl s.ss a.sa w.heap.size z g10 _ rfl rfl (NAt.keep H.out.bl HV.out.ss) (by omega) G10.out.1 (fun sa1 sc1 V hrow hbs=>?_)
   have RN:=hideK (hrow.older (v:=V0) (by have:=H.out.lt;have:=HZ.out;omega))
   have HN:=hideK (H.out.keep (hbs.mono (by have:=H.out.lt;omega)))
   have hSn:(fun W:World=>W.cell? ⟨w.heap.size,0,none⟩=some (.slice a.va s.vs.length a.vc)∧W.cell? ⟨w.heap.size,1,none⟩=some (.slice a.sa s.ss.length a.sc)) V:=⟨HN.out.c0,HN.out.c1⟩
   try replace G4:=hideK (And.intro ((hbs.cell (p:=⟨g4,0,none⟩) G4.out.2).trans G4.out.1) (nL G4.out.2 hbs.size))
   try replace G10:=hideK (And.intro ((hbs.cell (p:=⟨g10,0,none⟩) G10.out.2).trans G10.out.1) (nL G10.out.2 hbs.size))
   try replace R5:=hideK (R5.out.keep hbs)
   try replace R11:=hideK (R11.out.keep hbs)
   have R11:=RN;clear RN hrow;refine hK.out _ _ hSn ?_;clear H hS hK K hSn;have H:=HN;clear HN hbs;intro hS;try simp only [Act.put,sA,sB,sC]
   (try refine tkR 12 (.pointer (some ⟨w.heap.size,0,none⟩)) hS ?_)
   (try refine ready_any [2,4,5,8,10,11] ?_)))
 all_goals (
  refine wpAnyH_done (by kernel_rfl) ?_ _
  obtain ⟨W8,e8,H8,k8,s8⟩:=H.out.set2 n z va1 vc1 sa1 sc1;have R5b:=hideK ((R5.out.off (q:=w.heap.size) (by have:=HZ.out;omega) (Nat.le_of_eq s8.symm) k8))
  have R11b:=hideK ((R11.out.off (q:=w.heap.size) (by have:=HZ.out;omega) (Nat.le_of_eq s8.symm) k8))
  have HLT:=hideK (show w.heap.size+1<V0.heap.size from by have:=HZ.out;omega)
  obtain ⟨_,hlt,c0,c1,c2,z0,z1,z2,ff⟩:=id H.out;have f0:=ff w.heap.size 0 (by omega) (by omega)
  have f1:=ff w.heap.size 1 (by omega) (by omega)
  have H8b:=hideK H8;have HE8:=hideK e8;clear ff k8 s8 H8 hS e8 z0 z1 z2 c2 H R5 R11 G4 G10 HV C2 C8 HZ;show wpList _ _ _ _ _ _
  go_upto_region 2 with fail
  rw [HE8.out];clear HE8 c0 c1 f0 f1 hlt;obtain ⟨W9,e9,r0,r1,r2,hb9,k9⟩:=H8b.out.fin (.slice va1 (s.vs.length+1) vc1) (.slice sa1 (s.ss.length+1) sc1) (.map a.mp);obtain ⟨_,hlt,c0,c1,c2,z0,z1,z2,ff⟩:=id H8b.out;simp only [Sc.wv,List.length_append,List.length_singleton]at c0 c1;have f0:=ff (w.heap.size+1) 0 (by omega) (by omega)
  have f1:=ff (w.heap.size+1) 1 (by omega) (by omega)
  have f2:=ff (w.heap.size+1) 2 (by omega) (by omega)
  have s9:W8.heap.size≤W9.heap.size:=by rw [← e9];simp
  have R5c:=hideK ((R5b.out.off (q:=w.heap.size+1) HLT.out s9 k9).older (v:=w) (by have:=HLT.out;omega))
  have R11c:=hideK ((R11b.out.off (q:=w.heap.size+1) HLT.out s9 k9).older (v:=w) (by have:=HLT.out;omega))
  have HB:=hideK hb9;have HE:=hideK e9;clear ff hb9 e9 k9 s9 R5b R11b H8b HLT hlt;go_wp2_with fail
  rw [HE.out];refine bodyPost_ret (v:=.agg #[.slice va1 (s.vs.length+1) vc1,.slice sa1 (s.ss.length+1) sc1,.map a.mp]) (by simp [results,Tryz.results72,go_sem,r0,r1,r2]) rfl ?_
  exact ⟨⟨va1,vc1,sa1,sc1,rfl,R5c.out,R11c.out⟩,HB.out⟩)
theorem behindDoing3(p:Pr)(a:PrA)(s:Sc)(b:ScA)(x:En)(ag:OAd)(cg:Nat)(w0 w:World)(hk:p.kind=3)(h:ScAt w0 s b)(hw:Below w0.heap.size w0 w)(hx:EnAt w0 x ag)(ht:0<(hereE x).to.length)(hm:p.chan.size≤maxLen)(hl:s.vs.length≤1000):
  Calls Tryz.prog 73 #[prVal p a,scVal s b,enVal x ag cg] w fun e w'=>(∃va' vc' sa' sc' mp',e = .returned (.tuple #[scVal ((s.we p.chan (toE x 0)).wv p.name (hereE x).so) ⟨va',vc',sa',sc',mp'⟩,.int .i64 0])∧GSc w0 w' (s.we p.chan (toE x 0)).es mp'∧RowN w w' (((s.we p.chan (toE x 0)).wv p.name (hereE x).so).vs.map Value.string) va' vc'∧RowN w w' (((s.we p.chan (toE x 0)).wv p.name (hereE x).so).ss.map (Value.int .i64)) sa' sc')∧Below w.heap.size w w':=by
 have H4:=hideK (BDB.new w p a s b x ag cg);have hbw:∀W,Below w.heap.size w W→Below w0.heap.size w0 W:=fun W hW=>hw.trans (hW.mono hw.size)
 have hy0:=hx.to (j:=0) ht;have t0:∀W,Below w.heap.size w W→Calls Tryz.prog 65 #[enVal x ag cg,.int .i64 0] W fun e w'=>e = .returned (enVal (toE x 0) ag cg)∧Below W.heap.size W w':=fun W hW=>enTo_any x ag cg 0 W (hx.keep (hbw W hW)) ht
 obtain ⟨al,cl,at1,ct,_,_,hH⟩:=enHere_ex x ag cg w0 hx;have hh:=fun (W:World) (hW:Below w.heap.size w W)=>hH W (hbw W hW)
 generalize toE x 0=y0 at *;have u1:=fun (W:World) (hW:Below w.heap.size w W)=>withEnd_g s b p.chan y0 ag cg w0 W (h.gs (hbw W hW)) hm hy0
 generalize hereE x=nd at *;have v1:∀(v:World) (mp:Option Nat) (W:World),Below w.heap.size w W→NSc w0 v (s.we p.chan y0).es mp W→Calls Tryz.prog 72 #[scVal (s.we p.chan y0) ⟨b.va,b.vc,b.sa,b.sc,mp⟩,.string p.name,.int .i64 nd.so] W fun e w'=>(∃va' vc' sa' sc',e = .returned (scVal ((s.we p.chan y0).wv p.name nd.so) ⟨va',vc',sa',sc',mp⟩)∧RowN W w' (((s.we p.chan y0).wv p.name nd.so).vs.map Value.string) va' vc'∧RowN W w' (((s.we p.chan y0).wv p.name nd.so).ss.map (Value.int .i64)) sa' sc')∧Below W.heap.size W w' :=
  fun v mp W hW hn=>withValue_any (s.we p.chan y0) ⟨b.va,b.vc,b.sa,b.sc,mp⟩ p.name nd.so W (h.new (hbw W hW) hn) hl
 generalize (s.we p.chan y0).wv p.name nd.so=s3 at *;generalize s.we p.chan y0=s2 at *;have T0:=hideK t0;have HH:=hideK hh;have U1:=hideK u1;have V1:=hideK v1;have hk1:(p.kind==2)=false:=by rw [hk];rfl
 have hk2:(p.kind==3)=true:=by rw [hk];rfl
 simp only [scVal,prVal,enVal,ndVal]at H4 T0 HH U1 V1 ⊢;clear t0 hh u1 v1 h hw hx ht hm hl hy0 hH hbw hk;go_enter Tryz.func73,Tryz.ntmps73
 go_upto_region 5 with fail
 have H6:=hideK (H4.out.keep ((bR _ _).drew));have hS0:(fun W:World=>BDS w p s b x ag cg W) (World.drew ((((w.alloc (.cells (pK p a) 40)).alloc (.cells #[.slice b.va s.vs.length b.vc,.slice b.sa s.ss.length b.sc,.map b.mp] 70)).alloc (.cells #[.slice ag x.g.length cg,.int .i64 (x.k:Int)] 90)).alloc (.cells #[.slice none 0 0,.slice none 0 0,.map none] 70))):=H6.out.s
 clear H4 hk1 hk2;refine wp_region_held_drew (S:=(fun W:World=>BDS w p s b x ag cg W)) (by kernel_rfl) hS0 (fun hS=>?_)
 clear hS0;generalize World.drew ((((w.alloc (.cells (pK p a) 40)).alloc (.cells #[.slice b.va s.vs.length b.vc,.slice b.sa s.ss.length b.sc,.map b.mp] 70)).alloc (.cells #[.slice ag x.g.length cg,.int .i64 (x.k:Int)] 90)).alloc (.cells #[.slice none 0 0,.slice none 0 0,.map none] 70))=V5 at *;refine tkH 0 (.agg #[.slice b.va s.vs.length b.vc,.slice b.sa s.ss.length b.sc,.map b.mp]) hS ?_ (hy:=Or.inl ⟨by rfl,fun W hW=>by obtain ⟨k1,k2,k3,c0,c1,c2,e0,e1⟩:=id hW;go_simp⟩)
 simp only [Act.put,sA,sB,sC];refine tkZ 1 (.pointer (some ⟨w.heap.size,1,none⟩)) hS ?_;refine tkH 2 (.string p.chan) hS ?_ (hy:=Or.inl ⟨by rfl,fun W hW=>by obtain ⟨k1,k2,k3,c0,c1,c2,e0,e1⟩:=id hW;go_simp⟩)
 simp only [Act.put,sA,sB,sC];refine tkH 3 (.agg #[.slice ag x.g.length cg,.int .i64 (x.k:Int)]) hS ?_ (hy:=Or.inl ⟨by rfl,fun W hW=>by obtain ⟨k1,k2,k3,c0,c1,c2,e0,e1⟩:=id hW;go_simp⟩)
 simp only [Act.put,sA,sB,sC];refine tkZ 6 (.pointer (some ⟨w.heap.size,2,none⟩)) hS ?_;refine tkH 7 (.string p.name) hS ?_ (hy:=Or.inl ⟨by rfl,fun W hW=>by obtain ⟨k1,k2,k3,c0,c1,c2,e0,e1⟩:=id hW;go_simp⟩)
 simp only [Act.put,sA,sB,sC];refine tkH 8 (.agg #[.slice ag x.g.length cg,.int .i64 (x.k:Int)]) hS ?_ (hy:=Or.inl ⟨by rfl,fun W hW=>by obtain ⟨k1,k2,k3,c0,c1,c2,e0,e1⟩:=id hW;go_simp⟩)
 simp only [Act.put,sA,sB,sC];refine take_oneHL 4 (aC (fun K hK=>?_) aN) (by kernel_rfl)
 go_simp
 refine (T0.out V5 H6.out.bl).mono ?_;rintro e V6 ⟨rfl,hb6⟩;have H7:=hideK (H6.out.keep hb6);have hSn:(fun W:World=>BDS w p s b x ag cg W) V6:=H7.out.s
 refine hK.out _ _ hSn ?_;clear hb6 ;clear hS hK K hSn;intro hS;try simp only [Act.put,sA,sB,sC]
 refine take_oneHL 5 (aC (fun K hK=>?_) aN) (by kernel_rfl)
 go_simp
 refine (U1.out V6 H7.out.bl).mono ?_;rintro e V7 ⟨⟨mp2,rfl,hn3⟩,hb7⟩;have H8:=hideK (H7.out.keep hb7);have hSn:(fun W:World=>BDS w p s b x ag cg W) V7:=H8.out.s
 have HN3:=hideK hn3;refine hK.out _ _ hSn ?_;clear hb7 hn3;clear hS hK K hSn;intro hS;try simp only [Act.put,sA,sB,sC]
 refine take_oneHL 9 (aC (fun K hK=>?_) aN) (by kernel_rfl)
 go_simp
 refine (HH.out V7 H8.out.bl).mono ?_;rintro e V8 ⟨rfl,hb8⟩;have H9:=hideK (H8.out.keep hb8);have hSn:(fun W:World=>BDS w p s b x ag cg W) V8:=H9.out.s
 have HN4:=hideK (HN3.out.of_keep hb8);refine hK.out _ _ hSn ?_;clear hb8 ;clear hS hK K hSn;intro hS;try simp only [Act.put,sA,sB,sC]
 refine tkH 10 (.int .i64 nd.so) hS ?_ (hy:=Or.inl ⟨by rfl,fun W hW=>by have hfl:(Instr.field 102 (.agg #[.int .i64 nd.kind,.int .i64 nd.so,.slice al nd.labs.length cl,.slice at1 nd.to.length ct]) 1).run Tryz.prog W = .ok (.int .i64 nd.so) W:=(by kernel_rfl);go_simp⟩)
 simp only [Act.put,sA,sB,sC];refine take_oneHL 11 (aC (fun K hK=>?_) aN) (by kernel_rfl)
 go_simp
 refine (V1.out V6 mp2 V8 H9.out.bl HN4.out).mono ?_;rintro e V9 ⟨⟨va1,vc1,sa1,sc1,rfl,hr1,hr2⟩,hb9⟩;have H10:=hideK (H9.out.keep hb9);have hSn:(fun W:World=>BDS w p s b x ag cg W) V9:=H10.out.s
 have HN5:=hideK (HN4.out.of_keep hb9);have HR1:=hideK hr1;have HR2:=hideK hr2;have HLT:=hideK H9.out.lt;have HLE:=hideK H9.out.bl.size;refine hK.out _ _ hSn ?_;clear hb9 hr1 hr2;clear hS hK K hSn;intro hS;try simp only [Act.put,sA,sB,sC]
 obtain ⟨W9,e9,r0,r1,r2,hb9,hk9⟩:=H10.out.fin (.slice va1 s3.vs.length vc1) (.slice sa1 s3.ss.length sc1) (.map mp2);obtain ⟨_,_,_,_,_,_,_,_,_,_,z0,z1,z2,ff⟩:=H10.out;have f0:=ff 0;have f1:=ff 1;have f2:=ff 2;have s9:V9.heap.size≤W9.heap.size:=by rw [← e9];simp
 have HB:=hideK hb9;have HE:=hideK e9;have HK9:=hideK hk9;have HG9:=hideK (HN5.out.gs.blk z0 hk9);have HR3:=hideK ((HR1.out.off (q:=w.heap.size+1+1+1) HLT.out s9 hk9).older HLE.out);have HR4:=hideK ((HR2.out.off (q:=w.heap.size+1+1+1) HLT.out s9 hk9).older HLE.out);clear ff hb9 hk9 T0 HH U1 V1 e9 s9;refine take_oneHL 12 (aC (fun K hK=>?_) aN) (by kernel_rfl)
 go_simp
 rw [HE.out];have hSn:(fun W:World=>BDS w p s b x ag cg W) W9:=BDS.blk H10.out.s HK9.out
 refine hK.out _ _ hSn ?_;clear hS hK K hSn;intro hS;try simp only [Act.put,sA,sB,sC]
 refine tkZ 13 (.int .i64 0) hS ?_;refine wpAnyH_done (by kernel_rfl) ?_ _
 clear z0 z1 z2 f0 f1 f2 hS;go_wp2_with fail
 refine bodyPost_ret (v:=.tuple #[.agg #[.slice va1 s3.vs.length vc1,.slice sa1 s3.ss.length sc1,.map mp2],.int .i64 0]) (by simp [results,Tryz.results73,go_sem,r0,r1,r2]) rfl ?_
 exact ⟨⟨va1,vc1,sa1,sc1,mp2,rfl,HG9.out,HR3.out,HR4.out⟩,HB.out⟩
theorem behind11{W0:World}(h0:Tabs W0)(p:Pr)(a:PrA)(s:Sc)(b:ScA)(w0 w:World)(hk:p.kind=11)(h:ScAt w0 s b)(hw:Below w0.heap.size w0 w)(hbd:ExBd p.ex a.ec)(hka:∃d,KA w0 w0.heap.size d p.ex.kids a.ea)(hT:AT W0 w0)(hl:s.vs.length≤1000):
  Calls Tryz.prog 44 #[prVal p a,scVal s b] w fun e w'=>(∃va' vc' sa' sc',e = .returned (.tuple #[scVal (s.wv p.name (srtR p.ex s.vs s.ss).1) ⟨va',vc',sa',sc',b.mp⟩,.int .i64 (srtR p.ex s.vs s.ss).2])∧RowN w w' ((s.wv p.name (srtR p.ex s.vs s.ss).1).vs.map Value.string) va' vc'∧RowN w w' ((s.wv p.name (srtR p.ex s.vs s.ss).1).ss.map (Value.int .i64)) sa' sc')∧Below w.heap.size w w':=by
 have H4:=hideK (BHB.new w p a s b);have hW:=hw.trans (H4.out.bl.mono hw.size);have hbw:∀W,Below w.heap.size w W→Below w0.heap.size w0 W:=fun W hW=>hw.trans (hW.mono hw.size)
 have c:=scSort_any h0 s b p.ex a.ea a.ec (((w.alloc (.cells (pK p a) 40)).alloc (.cells #[.slice b.va s.vs.length b.vc,.slice b.sa s.ss.length b.sc,.map b.mp] 70)).alloc (.cells #[.slice none 0 0,.slice none 0 0,.map none] 70)) (h.keep hW) hbd (hka.imp fun _ q=>KA.mono hW.size (KA.keep hW q)) (at_k _ _ hT hW) hl
 generalize srtR p.ex s.vs s.ss=r at *;have v1:∀(W:World),Below w.heap.size w W→Calls Tryz.prog 72 #[scVal s b,.string p.name,.int .i64 r.1] W fun e w'=>(∃va' vc' sa' sc',e = .returned (scVal (s.wv p.name r.1) ⟨va',vc',sa',sc',b.mp⟩)∧RowN W w' ((s.wv p.name r.1).vs.map Value.string) va' vc'∧RowN W w' ((s.wv p.name r.1).ss.map (Value.int .i64)) sa' sc')∧Below W.heap.size W w' :=
  fun W hW=>withValue_any s b p.name r.1 W (h.keep (hbw W hW)) hl
 generalize s.wv p.name r.1=s3 at *;have V1:=hideK v1;have hk1:(p.kind==11)=true:=by rw [hk];rfl
 simp only [scVal,prVal,exVal]at H4 c V1 ⊢;clear h hw hbd hka hT hl hk hW v1 hbw;go_enter Tryz.func44,Tryz.ntmps44
 go_wp2_with fail
 refine c.mono ?_;rintro e w5 ⟨rfl,hb5⟩;have H5:=hideK (H4.out.keep hb5);clear c hb5 H4 hk1;have HBL:=hideK H5.out.bl;have k2:w5.cell? ⟨w.heap.size,2,none⟩=some (.string p.name):=by have:=H5.out.at0 2 (by omega);simpa [prCs] using this
 obtain ⟨_,_,_,c0,c1,c2,_,_,_,_⟩:=H5.out;go_upto_region 4 with fail
 have c:=V1.out w5 HBL.out;go_wp2_with fail
 refine c.mono ?_;rintro e w6 ⟨⟨va1,vc1,sa1,sc1,rfl,hr1,hr2⟩,hb6⟩;have H6:=hideK (H5.out.keep hb6);have HLT:=hideK H5.out.lt;clear c hb6 V1 c0 c1 c2 k2;obtain ⟨W9,e9,r0,r1,r2,hb9,hk9⟩:=H6.out.fin (.slice va1 s3.vs.length vc1) (.slice sa1 s3.ss.length sc1) (.map b.mp);obtain ⟨_,_,_,c0,c1,c2,z0,z1,z2,ff⟩:=H6.out;have f0:=ff 0;have f1:=ff 1;have f2:=ff 2;have s9:w6.heap.size≤W9.heap.size:=by rw [← e9];simp
 have HB:=hideK hb9;have HE:=hideK e9;have HR3:=hideK ((hr1.off (q:=w.heap.size+1+1) HLT.out s9 hk9).older HBL.out.size);have HR4:=hideK ((hr2.off (q:=w.heap.size+1+1) HLT.out s9 hk9).older HBL.out.size);clear ff hb9 e9 hk9 s9 H5 H6 hr1 hr2;go_wp2_with fail
 rw [HE.out];refine bodyPost_ret (v:=.tuple #[.agg #[.slice va1 s3.vs.length vc1,.slice sa1 s3.ss.length sc1,.map b.mp],.int .i64 r.2]) (by simp [results,Tryz.results44,go_sem,r0,r1,r2]) rfl ?_
 exact ⟨⟨va1,vc1,sa1,sc1,rfl,HR3.out,HR4.out⟩,HB.out⟩
end Go.Proofs.YtmamabhhgfcjcaaGreatDoor
