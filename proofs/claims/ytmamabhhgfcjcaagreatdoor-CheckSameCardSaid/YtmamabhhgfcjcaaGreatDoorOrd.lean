/-
  The contract of duetkeep.changed, for whatever process.
-/
import Derived.Test.YtmamabhhgfcjcaaGreatDoorOrc
import Derived.Laws.IdiomCopy
import Derived.Maps.AppendAt
set_option maxRecDepth 100000
set_option maxHeartbeats 16000000
namespace Go.Proofs.YtmamabhhgfcjcaaGreatDoor
open Go.RowKit Go.Shelf
structure BXN(W:World)(b n:Nat):Prop where
 th:∀j,j<n→(W.cell? ⟨b,j,none⟩).isSome=true
 f:∀o,W.frozen? ⟨b,o,none⟩=false
 lt:b<W.heap.size
theorem BXN.keep{W W':World}{b n:Nat}(h:BXN W b n)(hb:Below W.heap.size W W'):BXN W' b n :=
 ⟨fun j hj=>by rw [hb.cell (p:=⟨b,j,none⟩) h.lt];exact h.th j hj,fun o=>(hb.frozen (p:=⟨b,o,none⟩) h.lt).trans (h.f o),nL h.lt hb.size⟩
theorem setCells_size(b:Nat):∀(vs:List Value) (o:Nat) (w:World),(w.setCells b o vs).heap.size=w.heap.size
 | [],_,_=>rfl
 | v::r,o,w=>by rw [World.setCells,setCells_size b r,World.size_setCell]
theorem setCells_below{B b:Nat}{w0:World}(hb:B≤b):∀(vs:List Value) (o:Nat) (w:World),Below B w0 w→Below B w0 (w.setCells b o vs)
 | [],_,_,h=>h
 | v::r,o,w,h=>by rw [World.setCells];exact setCells_below hb r (o+1) _ (h.setCell (p:=⟨b,o,none⟩) hb v)
theorem BXN.put{W:World}{b n:Nat}(h:BXN W b n)(vs:List Value)(hn:vs.length=n):∃W9,W.setCells b 0 vs=W9∧(∀j (hj:j<vs.length),W9.cell? ⟨b,j,none⟩=some vs[j])∧(∀b' o,b'≠b→W9.cell? ⟨b',o,none⟩=W.cell? ⟨b',o,none⟩)∧W9.heap.size=W.heap.size∧∀w:World,w.heap.size≤b→Below w.heap.size w W→Below w.heap.size w W9 :=
 ⟨_,rfl,fun j hj=>by
  have:=World.cell?_setCells_in b vs 0 W (fun i hi=>by rw [Nat.zero_add];exact h.th i (by omega)) j hj
  rwa [Nat.zero_add]at this,fun b' o hb=>World.cell?_setCells_out b vs 0 W _ (fun e=>absurd e hb),setCells_size _ _ _ _,fun w hw hB=>setCells_below hw _ _ _ hB⟩
theorem store_bx{W:World}{b n:Nat}(h:BXN W b n)(t:TypeId)(vs:List Value)(hn:vs.length=n)(hi:(Tryz.prog.info? t).map (·.size)=some n)(h1:∀v∈vs,v.oneCell'=true):(Instr.storeAt t (.pointer (some ⟨b,0,none⟩)) (.agg vs.toArray)).run Tryz.prog W = .ok () (W.setCells b 0 vs):=by
 have hst:=run_storeCells_cells (P:=Tryz.prog) b 0 vs 0 W (fun j hj=>by simpa using h.th j (by omega)) (fun j _=>by simpa using h.f j) h1
 rw [Nat.add_zero]at hst;cases hq:Tryz.prog.info? t with
 | none=>rw [hq]at hi;cases hi
 | some i =>
  have hs:i.size=n:=by rw [hq]at hi;simpa using hi
  simp [Instr.storeAt,storeVar,sizeOf,typeInfo,hq,Value.cells,hs,hn,Instr.sureAddr,hst,Result.andThen]
theorem results_cell{P:Program}{fn:Func}{tmps:Array Value}{k:Nat}{t:TypeId}{p:Addr}{v:Value}{W:World}(hr:fn.results=#[.cell k t])(hp:tmps.getD k undef = .pointer (some p))(hv:(loadVar t p).run P W = .ok v W):(results fn tmps).run P W = .ok v W:=by
 rw [Array.getD_eq_getD_getElem?]at hp;simp [results,hr,hp,asAddr,hv]
theorem loadVar_pr{W:World}{b:Nat}{p:Pr}{a:PrA}(h:PrAt W b 0 p a):(loadVar 40 ⟨b,0,none⟩).run Tryz.prog W = .ok (prVal p a) W:=by
 have:=load_pr h;simpa [Instr.loadAt,Instr.sureAddr,Result.andThen] using this
theorem one_pr(p:Pr)(a:PrA):∀v∈prCs p a,v.oneCell'=true:=fun v hv=>pCs_one [(p,a)] v (by unfold pCs;simpa using hv)
structure CGX(w:World)(p:Pr)(a:PrA)(W:World):Prop where
 bl:Below w.heap.size w W
 at0:PrAt W w.heap.size 0 p a
 f0:∀o,W.frozen? ⟨w.heap.size,o,none⟩=false
 r:BXN W (w.heap.size+1) 19
theorem CGX.keep{w:World}{p:Pr}{a:PrA}{W W':World}(h:CGX w p a W)(hb:Below W.heap.size W W'):CGX w p a W' :=
 have hl:w.heap.size<W.heap.size:=by have:=h.r.lt;omega
 ⟨h.bl.trans (hb.mono h.bl.size),h.at0.keep hb hl,fun o=>(hb.frozen (p:=⟨w.heap.size,o,none⟩) hl).trans (h.f0 o),h.r.keep hb⟩
theorem CGX.new(w:World)(p:Pr)(a:PrA):CGX w p a ((w.alloc (prBx p a)).alloc (prBx pr0 pa0)):=by
 have hs:(w.alloc (prBx p a)).heap.size=w.heap.size+1:=by simp
 have hA:Below (w.alloc (prBx p a)).heap.size (w.alloc (prBx p a)) ((w.alloc (prBx p a)).alloc (prBx pr0 pa0)):=(bR _ _).alloc (nR _) _;refine ⟨((bR _ _).alloc (nR _) _).alloc (by simp) _,PrAt.keep (B:=(w.alloc (prBx p a)).heap.size) (prBx_at w p a) hA (by simp),fun o=>?_,⟨fun j hj=>?_,fun o=>?_,by simp⟩⟩
 ·rw [hA.frozen (p:=⟨w.heap.size,o,none⟩) (by simp)]
  unfold prBx;go_simp
 ·have:=prBx_at (w.alloc (prBx p a)) pr0 pa0 j hj
  rw [hs,Nat.zero_add]at this;rw [this,List.getElem?_eq_getElem (by rw [prCs_len];exact hj)];rfl
 ·rw [← hs];unfold prBx;go_simp
theorem CGX.ty{w:World}{p:Pr}{a:PrA}{W:World}(h:CGX w p a W)(t:Ty)(al:OAd)(cl:Nat)(ak:OAd)(ck:Nat):∃W2,st5 W w.heap.size 12 (.int .i64 t.kind) (.int .i64 t.so) (.string t.name) (.slice al t.labels.length cl) (.slice ak t.kids.length ck)=W2∧CGX w ⟨p.kind,p.chan,p.name,p.label,p.ex,p.exs,p.names,t,p.labels,p.kids⟩ ⟨a.ea,a.ec,a.xa,a.xc,a.na,a.nc,al,cl,ak,ck,a.la,a.lc,a.ka,a.kc⟩ W2∧(∀b o,b≠w.heap.size→W2.cell? ⟨b,o,none⟩=W.cell? ⟨b,o,none⟩)∧W2.heap.size=W.heap.size:=by
 have ha:TyAt (st5 W w.heap.size 12 (.int .i64 t.kind) (.int .i64 t.so) (.string t.name) (.slice al t.labels.length cl) (.slice ak t.kids.length ck)) w.heap.size 12 t al cl ak ck:=st5_at W w.heap.size 12 t al cl ak ck (fun j hj=>by
  have:=h.at0 (12+j) (by omega)
  rw [Nat.zero_add]at this;rw [this,List.getElem?_eq_getElem (by rw [prCs_len];omega)]
  exact ⟨_,rfl⟩)
 have ho:∀b o,b≠w.heap.size→(st5 W w.heap.size 12 (.int .i64 t.kind) (.int .i64 t.so) (.string t.name) (.slice al t.labels.length cl) (.slice ak t.kids.length ck)).cell? ⟨b,o,none⟩=W.cell? ⟨b,o,none⟩:=fun b o hb=>st5_other _ _ _ _ _ _ _ _ _ _ (.inl hb)
 refine ⟨_,rfl,⟨st5_below w.heap.size 12 _ _ _ _ _ h.bl (nR _),fun j hj=>?_,fun o=>(st5_frozen _ _ _ _ _ _ _ _ _).trans (h.f0 o),⟨fun j hj=>by rw [ho _ _ (by omega)];exact h.r.th j hj,fun o=>(st5_frozen _ _ _ _ _ _ _ _ _).trans (h.r.f o),by rw [st5_size];exact h.r.lt⟩⟩,ho,st5_size _ _ _ _ _ _ _ _⟩
 obtain ⟨a0,a1,a2,a3,a4⟩:=ha;rw [Nat.zero_add];by_cases hq:j<12∨17≤j
 ·rw [st5_other _ _ _ _ _ _ _ _ _ _ (.inr (by omega))]
  have:=h.at0 j hj;rw [Nat.zero_add]at this;rw [this];have:j=0∨j=1∨j=2∨j=3∨j=4∨j=5∨j=6∨j=7∨j=8∨j=9∨j=10∨j=11∨j=17∨j=18:=by omega
  rcases this with rfl|rfl|rfl|rfl|rfl|rfl|rfl|rfl|rfl|rfl|rfl|rfl|rfl|rfl <;> rfl
 ·have:j=12∨j=13∨j=14∨j=15∨j=16:=by omega
  rcases this with rfl|rfl|rfl|rfl|rfl
  ·exact a0
  ·exact a1
  ·exact a2
  ·exact a3
  ·exact a4
theorem CGX.kids{w:World}{p:Pr}{a:PrA}{W:World}(h:CGX w p a W)(ks:List Pr)(ka:OAd)(kc:Nat):∃W2,W.setCell ⟨w.heap.size,18,none⟩ (.slice ka ks.length kc)=W2∧CGX w ⟨p.kind,p.chan,p.name,p.label,p.ex,p.exs,p.names,p.ty,p.labels,ks⟩ ⟨a.ea,a.ec,a.xa,a.xc,a.na,a.nc,a.tl,a.tlc,a.tk,a.tkc,a.la,a.lc,ka,kc⟩ W2∧(∀b o,b≠w.heap.size→W2.cell? ⟨b,o,none⟩=W.cell? ⟨b,o,none⟩)∧W2.heap.size=W.heap.size:=by
 have ho:∀b o,(b≠w.heap.size∨o≠18)→(W.setCell ⟨w.heap.size,18,none⟩ (.slice ka ks.length kc)).cell? ⟨b,o,none⟩=W.cell? ⟨b,o,none⟩:=fun b o hb=>World.cell?_setCell_other _ _ _ _ (fun e=>by injection e with e1 e2;rcases hb with q|q;exact q e1.symm;exact q e2.symm)
 refine ⟨_,rfl,⟨h.bl.setCell (p:=⟨w.heap.size,18,none⟩) (nR _) _,fun j hj=>?_,fun o=>(World.frozen?_setCell _ _ _ _).trans (h.f0 o),⟨fun j hj=>by rw [ho _ _ (by omega)];exact h.r.th j hj,fun o=>(World.frozen?_setCell _ _ _ _).trans (h.r.f o),by rw [World.size_setCell];exact h.r.lt⟩⟩,fun b o hb=>ho b o (.inl hb),World.size_setCell _ _ _⟩
 have hq:=h.at0 j hj;rw [Nat.zero_add]at hq ⊢;by_cases h18:j=18
 ·subst h18
  exact World.cell?_setCell_same _ _ _ hq
 ·rw [ho _ _ (.inr h18),hq]
  have:j=0∨j=1∨j=2∨j=3∨j=4∨j=5∨j=6∨j=7∨j=8∨j=9∨j=10∨j=11∨j=12∨j=13∨j=14∨j=15∨j=16∨j=17:=by omega
  rcases this with rfl|rfl|rfl|rfl|rfl|rfl|rfl|rfl|rfl|rfl|rfl|rfl|rfl|rfl|rfl|rfl|rfl|rfl <;> rfl
def CGP(B0 s:Nat)(W:World)(b:Nat):Prop:=b<B0∨(s≤b∧b<W.heap.size)
def CGPost(gr:Ty→List Nd)(w0:World)(B0:Nat)(p:Pr)(w:World)(e:Ending)(w':World):Prop :=
 (∃a',e = .returned (prVal (chgP (asT gr) p) a')∧∃d',PrQ w0 B0 w' (CGP B0 w.heap.size w') d' (chgP (asT gr) p) a')∧Below w.heap.size w w'
def CGSaid(gr:Ty→List Nd)(w0:World)(B0 d:Nat):Prop:=∀(p:Pr) (a:PrA) (w:World),PrOK w0 B0 d p a→sizeP p≤200→Below B0 w0 w→B0≤w.heap.size →
 Calls Tryz.prog 11 #[prVal p a,.func (.func 8) #[] #[]] w (CGPost gr w0 B0 p w)
theorem PrQ.up{w0 W:World}{B0:Nat}{P:Nat→Prop}:∀ {d e:Nat} {p:Pr} {a:PrA},d≤e→PrQ w0 B0 W P d p a→PrQ w0 B0 W P e p a
 | 0,0,_,_,_,h=>h
 | 0,e+1,_,_,_,h=>⟨h.1,.inl h.2⟩
 | d+1,0,_,_,hd,_=>by omega
 | d+1,e+1,p,a,hd,h=>⟨h.1,h.2.imp id fun ⟨b,o,e',hl,h⟩=>⟨b,o,e',hl,fun i hi=>by
   obtain ⟨a',h1,h2⟩:=h i hi;exact ⟨a',h1,PrQ.up (by omega) h2⟩⟩⟩
theorem prq_depth{w0 W:World}{B0:Nat}{P:Nat→Prop}:∀ {ts:List (Pr × PrA)},(∀t∈ts,∃e,PrQ w0 B0 W P e t.1 t.2)→∃D,∀t∈ts,PrQ w0 B0 W P D t.1 t.2
 | [],_=>⟨0,fun t ht=>by cases ht⟩
 | t::ts,h=>by
  obtain ⟨e,he⟩:=h t (.head _);obtain ⟨D,hD⟩:=prq_depth (ts:=ts) fun t ht=>h t (.tail _ ht)
  refine ⟨max e D,fun q hq=>?_⟩
  rcases List.mem_cons.1 hq with rfl|hq
  ·exact he.up (Nat.le_max_left _ _)
  ·exact (hD q hq).up (Nat.le_max_right _ _)
theorem sum_take_len:∀(ks:List Pr),ks.length≤(ks.map sizeP).sum
 | []=>nR _
 | k::ks=>by
  have:=sum_take_len ks;have:=sizeP_eq k;simp only [List.map_cons,List.sum_cons,List.length_cons];omega
theorem pr_eta(p:Pr):(⟨p.kind,p.chan,p.name,p.label,p.ex,p.exs,p.names,p.ty,p.labels,p.kids⟩:Pr)=p:=by cases p;rfl
theorem kids_len(p:Pr):p.kids.length<sizeP p:=by
 have:=sum_take_len p.kids;rw [sizeP_eq];omega
theorem changed_step(gr:Ty→List Nd)(hgr:∀t g,chkTy t=0→OFG t g→g=gr t)(w0:World)(B0 d:Nat)(ih:∀d',d'<d→CGSaid gr w0 B0 d'):CGSaid gr w0 B0 d:=by
 intro p a w hok hsz hB hB0;obtain ⟨i0,hi,hz0,hz1,hz2⟩:=info_parts infoPr;have Q0:=hideK (CGX.new w p a);have HOK:=hideK hok;have HB:=hideK hB;have HB0:=hideK hB0;have HSZ:=hideK hsz;obtain ⟨dt,hkt⟩:=hok.b.tyk;have CA:=hideK (fun (W:World) (hb:Below w.heap.size w W)=>as_any gr hgr dt p.ty a.tl a.tlc a.tk a.tkc B0 W (Nat.le_trans hB0 hb.size) hok.b.tyb (NAt.keep (hB.trans (hb.mono hB0)) hok.b.tyl) (KT.keep (hB.trans (hb.mono hB0)) hkt))
 unfold ASPost at CA;unfold CGPost;simp only [tyVal]at CA;have hkl:(p.kids.length:Int)≤200:=by have:=kids_len p;omega
 rw [show prVal p a = .agg (pK p a) from rfl]
 simp only [prBx,pr0,pa0,List.length_nil]at Q0;clear hok hB hB0 hkt hsz;go_enter Tryz.func11,Tryz.ntmps11
 go_upto_region 1 with fail
 generalize (w.alloc _).alloc _=W0 at *;have x0:=Q0.out.at0.get (j:=0) (v:=.int .i64 p.kind) (by omega) rfl
 go_upto_if 10 with fail
 go_cut [] (fun wc=>∃(t2:Ty) (tl:OAd) (tlc:Nat) (tk:OAd) (tkc:Nat),t2=(if p.kind=9 then asT gr p.ty else p.ty)∧CGX w ⟨p.kind,p.chan,p.name,p.label,p.ex,p.exs,p.names,t2,p.labels,p.kids⟩ ⟨a.ea,a.ec,a.xa,a.xc,a.na,a.nc,tl,tlc,tk,tkc,a.la,a.lc,a.ka,a.kc⟩ wc∧TyBd t2 tlc tkc∧LP wc (CGP B0 (w.heap.size+1+1) wc) t2.labels tl∧∃dd,KP wc (CGP B0 (w.heap.size+1+1) wc) dd t2.kids tk)
 case first =>
  by_cases h9:p.kind=9
  ·have h9b:(p.kind==9)=true:=by simpa using h9
   have H9:=hideK h9;clear h9;have x12:=Q0.out.at0.get (j:=12) (v:=.int .i64 p.ty.kind) (by omega) rfl
   have x13:=Q0.out.at0.get (j:=13) (v:=.int .i64 p.ty.so) (by omega) rfl
   have x14:=Q0.out.at0.get (j:=14) (v:=.string p.ty.name) (by omega) rfl
   have x15:=Q0.out.at0.get (j:=15) (v:=.slice a.tl p.ty.labels.length a.tlc) (by omega) rfl
   have x16:=Q0.out.at0.get (j:=16) (v:=.slice a.tk p.ty.kids.length a.tkc) (by omega) rfl
   go_wp2_with fail
   refine (CA.out _ Q0.out.bl).mono ?_;rintro e w5 ⟨⟨al5,cl5,ak5,ck5,d5,rfl,hbd,hlp,hkp⟩,hb5⟩;have Q5:=hideK (Q0.out.keep hb5);have HBD:=hideK hbd;have HLP:=hideK hlp;have HKP:=hideK hkp;have HL0:=hideK Q0.out.r.lt;have FIN:=hideK (Q5.out.ty (asT gr p.ty) al5 cl5 ak5 ck5);clear x0 x12 x13 x14 x15 x16 hbd hlp hkp hb5;have x12:=Q5.out.at0.get (j:=12) (v:=.int .i64 p.ty.kind) (by omega) rfl
   have x13:=Q5.out.at0.get (j:=13) (v:=.int .i64 p.ty.so) (by omega) rfl
   have x14:=Q5.out.at0.get (j:=14) (v:=.string p.ty.name) (by omega) rfl
   have x15:=Q5.out.at0.get (j:=15) (v:=.slice a.tl p.ty.labels.length a.tlc) (by omega) rfl
   have x16:=Q5.out.at0.get (j:=16) (v:=.slice a.tk p.ty.kids.length a.tkc) (by omega) rfl
   have f12:=Q5.out.f0 12;have f13:=Q5.out.f0 13;have f14:=Q5.out.f0 14;have f15:=Q5.out.f0 15;have f16:=Q5.out.f0 16;go_wp2_with fail
   go_meet
   obtain ⟨W2,e2,q2,k2,s2⟩:=FIN.out;change ∃(t2:Ty) (tl:OAd) (tlc:Nat) (tk:OAd) (tkc:Nat),t2=(if p.kind=9 then asT gr p.ty else p.ty)∧CGX w ⟨p.kind,p.chan,p.name,p.label,p.ex,p.exs,p.names,t2,p.labels,p.kids⟩ ⟨a.ea,a.ec,a.xa,a.xc,a.na,a.nc,tl,tlc,tk,tkc,a.la,a.lc,a.ka,a.kc⟩ (st5 w5 w.heap.size 12 (.int .i64 (asT gr p.ty).kind) (.int .i64 (asT gr p.ty).so) (.string (asT gr p.ty).name) (.slice al5 (asT gr p.ty).labels.length cl5) (.slice ak5 (asT gr p.ty).kids.length ck5))∧TyBd t2 tlc tkc∧LP (st5 w5 w.heap.size 12 (.int .i64 (asT gr p.ty).kind) (.int .i64 (asT gr p.ty).so) (.string (asT gr p.ty).name) (.slice al5 (asT gr p.ty).labels.length cl5) (.slice ak5 (asT gr p.ty).kids.length ck5)) (CGP B0 (w.heap.size+1+1) (st5 w5 w.heap.size 12 (.int .i64 (asT gr p.ty).kind) (.int .i64 (asT gr p.ty).so) (.string (asT gr p.ty).name) (.slice al5 (asT gr p.ty).labels.length cl5) (.slice ak5 (asT gr p.ty).kids.length ck5))) t2.labels tl∧∃dd,KP (st5 w5 w.heap.size 12 (.int .i64 (asT gr p.ty).kind) (.int .i64 (asT gr p.ty).so) (.string (asT gr p.ty).name) (.slice al5 (asT gr p.ty).labels.length cl5) (.slice ak5 (asT gr p.ty).kids.length ck5)) (CGP B0 (w.heap.size+1+1) (st5 w5 w.heap.size 12 (.int .i64 (asT gr p.ty).kind) (.int .i64 (asT gr p.ty).so) (.string (asT gr p.ty).name) (.slice al5 (asT gr p.ty).labels.length cl5) (.slice ak5 (asT gr p.ty).kids.length ck5))) dd t2.kids tk
   rw [e2];have hl0:=HL0.out;have hb0:=HB0.out;have k3:∀b o,((b<B0∨W0.heap.size≤b)∧b<w5.heap.size)→W2.cell? ⟨b,o,none⟩=w5.cell? ⟨b,o,none⟩:=fun b o hb=>k2 b o (by omega)
   have k4:∀b,((b<B0∨W0.heap.size≤b)∧b<w5.heap.size)→CGP B0 (w.heap.size+1+1) W2 b:=fun b hb=>by unfold CGP;omega
   exact ⟨_,al5,cl5,ak5,ck5,(if_pos H9.out).symm,q2,HBD.out,HLP.out.keep k3 k4,d5,HKP.out.keep k3 k4⟩
  ·have h9b:(p.kind==9)=false:=by simpa using h9
   have H9:=hideK h9;clear h9;go_wp2_with fail
   go_meet
   obtain ⟨dt,hkt⟩:=HOK.out.b.tyk;have hbw:Below B0 w0 W0:=HB.out.trans (Q0.out.bl.mono HB0.out);exact ⟨p.ty,a.tl,a.tlc,a.tk,a.tkc,(if_neg H9.out).symm,by rw [pr_eta];exact Q0.out,HOK.out.b.tyb,lp_of (fun b hb=>.inl hb) (HOK.out.b.tyl.keep hbw),dt,kp_of (fun b hb=>.inl hb) (hkt.keep hbw)⟩
 case rest =>
  obtain ⟨t2,tl,tlc,tk,tkc,ht2,hq,hbd2,hlp2,dd,hkp2⟩:=hcut;have Q:=hideK hq;have HT2:=hideK (And.intro ht2 (And.intro hbd2 (And.intro hlp2 hkp2)));have x18:=Q.out.at0.get (j:=18) (v:=.slice a.ka p.kids.length a.kc) (by omega) rfl
  clear x0 Q0 CA ht2 hq hbd2 hlp2 hkp2;go_wp2_with fail
  go_loopw [19,5] (fun i u wq=>∃(k:Nat) (ts:List (Pr × PrA)),k≤p.kids.length∧i = .int .i64 (k:Int)∧Below wc.heap.size wc wq∧wq.ownsRow wc.heap.size 40 19 u k (pCs ts)∧ts.map (·.1)=(p.kids.take k).map (chgP (asT gr))∧∀t∈ts,∃e,PrQ w0 B0 wq (fun b=>b<B0∨(wc.heap.size≤b∧b<wq.heap.size∧u.ownBlock≠some b)) e t.1 t.2) (fun i _ _=>p.kids.length - (intOf i).toNat)
  case atStart=>exact ⟨0,[],Nat.zero_le _,rfl,Below.refl _ _,World.ownsRow_nil _ _ _ _,rfl,fun t ht=>(by cases ht)⟩
  case round =>
   obtain ⟨k,ts,hk,rfl,hbc,hO,hmap,hT⟩:=hrel;have HQc:=hideK Q.out.r.lt;have hX:=Q.out.keep hbc;clear x18;by_cases hltk:k<p.kids.length
   ·have hltz:(k:Int)<(p.kids.length:Int):=by omega
    obtain ⟨b,o,a',d',ha,hbB,hd,hat,hkd⟩:=kids_at HOK.out hltk;have hbw:Below B0 w0 wr:=HB.out.trans (hX.bl.mono HB0.out);have HAT:=hideK (hat.keep hbw hbB);have hA:Below wr.heap.size wr (wr.alloc (prBx p.kids[k] a')):=(bR _ _).alloc (nR _) _;have cR:=ih d' hd p.kids[k] a' (wr.alloc (prBx p.kids[k] a')) hkd (by have:=sizeP_kid (List.getElem_mem hltk);have:=HSZ.out;omega) (hbw.trans (hA.mono (by have:=HB0.out;have:=hX.bl.size;omega))) (by have:=HB0.out;have:=hX.bl.size;have:=hA.size;omega)
    have HMS:=hideK (show (p.kids.take (k+1)).map (chgP (asT gr))=(p.kids.take k).map (chgP (asT gr))++[chgP (asT gr) p.kids[k]] from by rw [List.take_succ_eq_append_getElem hltk,List.map_append];rfl)
    have HBC:=hideK hbc;have HO:=hideK hO;have HMP:=hideK hmap;have HT:=hideK hT;have HA:=hideK hA;have HUL:=hideK (fun b (e:u5.ownBlock=some b)=>hO.lt b e)
    unfold CGPost at cR;rw [show prVal p.kids[k] a' = .agg #[.int .i64 p.kids[k].kind,.string p.kids[k].chan,.string p.kids[k].name,.string p.kids[k].label,.int .i64 p.kids[k].ex.kind,.string p.kids[k].ex.name,.int .i64 p.kids[k].ex.so,.int .i64 p.kids[k].ex.n,.string p.kids[k].ex.s,.slice a'.ea p.kids[k].ex.kids.length a'.ec,.slice a'.xa p.kids[k].exs.length a'.xc,.slice a'.na p.kids[k].names.length a'.nc,.int .i64 p.kids[k].ty.kind,.int .i64 p.kids[k].ty.so,.string p.kids[k].ty.name,.slice a'.tl p.kids[k].ty.labels.length a'.tlc,.slice a'.tk p.kids[k].ty.kids.length a'.tkc,.slice a'.la p.kids[k].labels.length a'.lc,.slice a'.ka p.kids[k].kids.length a'.kc] from rfl]at cR
    simp only [prVal]at cR;generalize hy:chgP (asT gr) p.kids[k]=y at cR HMS;clear hy;generalize p.kids[k]=x at *;rw [ha];clear hX hbc hO hmap hT hat hkd ih hA hbw;go_upto_region 6 with fail
    refine wp_region_lit ?_;refine wpList_plain rfl (fun K hK=>?_)
    go_simp
    refine hK _ _ ?_;clear hK K;refine wpList_loadW rfl rfl rfl (load_pr HAT.out) ?_;simp only [prVal,Act.put,List.setIfInBounds_toArray,List.set_cons_zero,List.set_cons_succ];refine wpList_allocW rfl rfl (alloc_pr _) ?_;simp only [Act.put,sA,sB,sC];refine wpList_storeW rfl rfl rfl rfl (store_pr _ x a') ?_;simp only [Act.put];go_upto_region 7 with fail
    refine wp_region_lit ?_;refine wpList_plain rfl (fun K hK=>?_)
    go_simp
    refine hK _ _ ?_;clear hK K;refine wpList_loadW rfl rfl rfl (load_pr (prBx_at wr x a')) ?_;simp only [prVal,Act.put,List.setIfInBounds_toArray,List.set_cons_zero,List.set_cons_succ];go_wp2_with fail
    refine cR.mono ?_;rintro e w5 ⟨⟨a5,rfl,d5,hp5⟩,hb5⟩;have HP5:=hideK hp5;have HB5:=hideK hb5;have HS5:=hideK (And.intro (show (wr.alloc (prBx x a')).heap.size=wr.heap.size+1 from by simp) hb5.size)
    have OA:=hideK (own_belowG (own_belowG (own_belowG HO.out HA.out) hb5) ((Below.refl w5.heap.size w5).alloc (nR _) (.cells #[.int .i64 y.kind,.string y.chan,.string y.name,.string y.label,.int .i64 y.ex.kind,.string y.ex.name,.int .i64 y.ex.so,.int .i64 y.ex.n,.string y.ex.s,.slice a5.ea y.ex.kids.length a5.ec,.slice a5.xa y.exs.length a5.xc,.slice a5.na y.names.length a5.nc,.int .i64 y.ty.kind,.int .i64 y.ty.so,.string y.ty.name,.slice a5.tl y.ty.labels.length a5.tlc,.slice a5.tk y.ty.kids.length a5.tkc,.slice a5.la y.labels.length a5.lc,.slice a5.ka y.kids.length a5.kc] 40)));have LR:=hideK (show (w5.alloc (.cells #[.int .i64 y.kind,.string y.chan,.string y.name,.string y.label,.int .i64 y.ex.kind,.string y.ex.name,.int .i64 y.ex.so,.int .i64 y.ex.n,.string y.ex.s,.slice a5.ea y.ex.kids.length a5.ec,.slice a5.xa y.exs.length a5.xc,.slice a5.na y.names.length a5.nc,.int .i64 y.ty.kind,.int .i64 y.ty.so,.string y.ty.name,.slice a5.tl y.ty.labels.length a5.tlc,.slice a5.tk y.ty.kids.length a5.tkc,.slice a5.la y.labels.length a5.lc,.slice a5.ka y.kids.length a5.kc] 40)).ownsRow wc.heap.size 40 19 (.slice (some ⟨w5.heap.size,0,none⟩) 1 1) 1 (prCs y a5) from World.ownsRow_lit (base:=wc.heap.size) (e:=40) (size:=19) w5 #[.int .i64 y.kind,.string y.chan,.string y.name,.string y.label,.int .i64 y.ex.kind,.string y.ex.name,.int .i64 y.ex.so,.int .i64 y.ex.n,.string y.ex.s,.slice a5.ea y.ex.kids.length a5.ec,.slice a5.xa y.exs.length a5.xc,.slice a5.na y.names.length a5.nc,.int .i64 y.ty.kind,.int .i64 y.ty.so,.string y.ty.name,.slice a5.tl y.ty.labels.length a5.tlc,.slice a5.tk y.ty.kids.length a5.tkc,.slice a5.la y.labels.length a5.lc,.slice a5.ka y.kids.length a5.kc] 1 (by have:=HBC.out.size;have:=HS5.out.1;have:=HS5.out.2;omega) (by decide) rfl)
    have hzz:wc.heap.size≤(w5.alloc (.cells #[.int .i64 y.kind,.string y.chan,.string y.name,.string y.label,.int .i64 y.ex.kind,.string y.ex.name,.int .i64 y.ex.so,.int .i64 y.ex.n,.string y.ex.s,.slice a5.ea y.ex.kids.length a5.ec,.slice a5.xa y.exs.length a5.xc,.slice a5.na y.names.length a5.nc,.int .i64 y.ty.kind,.int .i64 y.ty.so,.string y.ty.name,.slice a5.tl y.ty.labels.length a5.tlc,.slice a5.tk y.ty.kids.length a5.tkc,.slice a5.la y.labels.length a5.lc,.slice a5.ka y.kids.length a5.kc] 40)).heap.size:=by have:=HBC.out.size;have:=HS5.out.1;have:=HS5.out.2;simp;omega
    clear cR hp5 hb5 HAT;go_wp2_with (at_builtin;refine wpList_append_rows _ rfl (.tmp 23) (.tmp 27) 38 rfl wc.heap.size wc.heap.size 40 i0 _ 19 312 Tryz.underlying38 hi hz0 hz1 hz2 rfl (by decide) _ _ _ rfl OA.out _ _ _ rfl LR.out (one_pr y a5) (by unfold maxLen;omega) (by omega) hzz ?_;intro v7 w7 hO7 hg7 hat7;have HO7:=hideK hO7;have HG7:=hideK (show World.grownBy (w5.alloc (.cells #[.int .i64 y.kind,.string y.chan,.string y.name,.string y.label,.int .i64 y.ex.kind,.string y.ex.name,.int .i64 y.ex.so,.int .i64 y.ex.n,.string y.ex.s,.slice a5.ea y.ex.kids.length a5.ec,.slice a5.xa y.exs.length a5.xc,.slice a5.na y.names.length a5.nc,.int .i64 y.ty.kind,.int .i64 y.ty.so,.string y.ty.name,.slice a5.tl y.ty.labels.length a5.tlc,.slice a5.tk y.ty.kids.length a5.tkc,.slice a5.la y.labels.length a5.lc,.slice a5.ka y.kids.length a5.kc] 40)) w7 u5.ownBlock from hg7);have HAT7:=hideK hat7;clear hg7 hat7;obtain ⟨va,vc,rfl⟩:=sliceH_own hO7;clear hO7)
    go_roundw
    case rel =>
     have hg7:=HG7.out;have hs1:=HS5.out.1;have hs2:=HS5.out.2;have hs3:(w5.alloc (.cells #[.int .i64 y.kind,.string y.chan,.string y.name,.string y.label,.int .i64 y.ex.kind,.string y.ex.name,.int .i64 y.ex.so,.int .i64 y.ex.n,.string y.ex.s,.slice a5.ea y.ex.kids.length a5.ec,.slice a5.xa y.exs.length a5.xc,.slice a5.na y.names.length a5.nc,.int .i64 y.ty.kind,.int .i64 y.ty.so,.string y.ty.name,.slice a5.tl y.ty.labels.length a5.tlc,.slice a5.tk y.ty.kids.length a5.tkc,.slice a5.la y.labels.length a5.lc,.slice a5.ka y.kids.length a5.kc] 40)).heap.size=w5.heap.size+1:=by simp
     have hs4:=hg7.size;have hs5:=HBC.out.size;have hs6:=HQc.out;have hs7:=HB0.out;have hA5:Below wc.heap.size wc (w5.alloc (.cells #[.int .i64 y.kind,.string y.chan,.string y.name,.string y.label,.int .i64 y.ex.kind,.string y.ex.name,.int .i64 y.ex.so,.int .i64 y.ex.n,.string y.ex.s,.slice a5.ea y.ex.kids.length a5.ec,.slice a5.xa y.exs.length a5.xc,.slice a5.na y.names.length a5.nc,.int .i64 y.ty.kind,.int .i64 y.ty.so,.string y.ty.name,.slice a5.tl y.ty.labels.length a5.tlc,.slice a5.tk y.ty.kids.length a5.tkc,.slice a5.la y.labels.length a5.lc,.slice a5.ka y.kids.length a5.kc] 40)):=((HBC.out.trans (HA.out.mono hs5)).trans (HB5.out.mono (by omega))).alloc (by omega) _
     have hb7:Below wc.heap.size wc w7:=hA5.grown hg7 (by omega) (fun q e=>(HUL.out q e).1)
     have hfr:∀q,q<w5.heap.size→u5.ownBlock≠some q→(Value.slice va (k+1) vc).ownBlock≠some q:=fun q hq hn e=>by
      rcases HAT7.out with z|z
      ·exact hn (z ▸ e)
      ·rw [z]at e;injection e with e;omega
     have hkB:∀q o,q<w5.heap.size→u5.ownBlock≠some q→w7.cell? ⟨q,o,none⟩=w5.cell? ⟨q,o,none⟩:=fun q o h1 h3=>(World.cell?_of_block (a:=⟨q,o,none⟩) (hg7.block q (by omega) (fun e=>h3 e.symm))).trans (((Below.refl w5.heap.size w5).alloc (nR _) (.cells #[.int .i64 y.kind,.string y.chan,.string y.name,.string y.label,.int .i64 y.ex.kind,.string y.ex.name,.int .i64 y.ex.so,.int .i64 y.ex.n,.string y.ex.s,.slice a5.ea y.ex.kids.length a5.ec,.slice a5.xa y.exs.length a5.xc,.slice a5.na y.names.length a5.nc,.int .i64 y.ty.kind,.int .i64 y.ty.so,.string y.ty.name,.slice a5.tl y.ty.labels.length a5.tlc,.slice a5.tk y.ty.kids.length a5.tkc,.slice a5.la y.labels.length a5.lc,.slice a5.ka y.kids.length a5.kc] 40)).cell (p:=⟨q,o,none⟩) h1)
     refine ⟨k+1,ts++[(y,a5)],by omega,by go_num,hb7,?_,?_,?_⟩
     ·rw [pCs_app,show pCs [(y,a5)]=prCs y a5 from by unfold pCs;simp];exact HO7.out
     ·rw [List.map_append,HMP.out,HMS.out];rfl
     ·intro t ht
      rcases List.mem_append.1 ht with h|h
      ·obtain ⟨e,he⟩:=HT.out t h
       refine ⟨e,he.keep (fun q o hq=>?_) (fun q hq=>?_)⟩
       ·have hq1:q<wr.heap.size:=by rcases hq with z|z;omega;exact z.2.1
        have hq2:u5.ownBlock≠some q:=fun e=>by have:=(HUL.out q e).1;rcases hq with z|z;omega;exact z.2.2 e
        rw [hkB q o (by omega) hq2,HB5.out.cell (p:=⟨q,o,none⟩) (by show q<_;omega),HA.out.cell (p:=⟨q,o,none⟩) hq1]
       ·rcases hq with z|z
        ·exact .inl z
        ·exact .inr ⟨z.1,by omega,hfr q (by omega) z.2.2⟩
      ·obtain rfl:=List.mem_singleton.1 h
       have hn:∀q,CGP B0 (wr.alloc (prBx x a')).heap.size w5 q→q<w5.heap.size∧u5.ownBlock≠some q:=fun q hq=>by
        unfold CGP at hq;exact ⟨by omega,fun e=>by have:=HUL.out q e;omega⟩
       exact ⟨d5,HP5.out.keep (fun q o hq=>hkB q o (hn q hq).1 (hn q hq).2) (fun q hq=>by
        have h1:=hfr q (hn q hq).1 (hn q hq).2;unfold CGP at hq;rcases hq with z|z
        ·exact .inl z
        ·exact .inr ⟨by omega,by omega,h1⟩)⟩
    case measure=>simp [intOf];omega
   ·have hltz:¬(k:Int)<(p.kids.length:Int):=by omega
    obtain rfl:k=p.kids.length:=by omega
    rw [List.take_length]at hmap;obtain ⟨D,hD⟩:=prq_depth hT;obtain ⟨aq,cq,rfl,q1,q2,q3⟩:=rowP (P:=fun b=>b<B0∨(wc.heap.size≤b∧b<wr.heap.size)) hO (by have:=congrArg List.length hmap;simpa using this) (fun t ht=>(hD t ht).keep (fun _ _ _=>rfl) (fun b hb=>hb.imp id fun h=>⟨h.1,h.2.1⟩)) (fun b e=>.inr (hO.lt b e))
    rw [hmap]at q3;have hlen:(p.kids.map (chgP (asT gr))).length=p.kids.length:=List.length_map _;obtain ⟨W2,e2,qk,k2,s2⟩:=hX.kids (p.kids.map (chgP (asT gr))) aq cq;rw [hlen]at e2;have c18:=hX.at0.get (j:=18) (v:=.slice a.ka p.kids.length a.kc) (by omega) rfl
    have f18:=hX.f0 18;have HE2:=hideK e2;have HK:=hideK qk;have HQ3:=hideK (And.intro q3 (And.intro q1 q2));have HX:=hideK hX;have HBC:=hideK hbc;have HK2:=hideK (And.intro k2 s2);clear hX hbc hO hmap hT hD q1 q2 q3 e2 qk k2 s2 hlen Q;go_upto_region 10 with fail
    rw [HE2.out];refine wp_region_lit ?_;refine wpList_loadW rfl rfl rfl (load_pr HK.out.at0) ?_;simp only [Act.put,sA,sB,sC];refine wpList_storeW rfl rfl rfl rfl (store_bx HK.out.r 40 (prCs ⟨p.kind,p.chan,p.name,p.label,p.ex,p.exs,p.names,t2,p.labels,(p.kids.map (chgP (asT gr)))⟩ ⟨a.ea,a.ec,a.xa,a.xc,a.na,a.nc,tl,tlc,tk,tkc,a.la,a.lc,aq,cq⟩) rfl (by kernel_rfl) (one_pr _ _)) ?_
    simp only [Act.put];obtain ⟨W9,e9,h9,k9,s9,b9⟩:=HK.out.r.put (prCs ⟨p.kind,p.chan,p.name,p.label,p.ex,p.exs,p.names,t2,p.labels,(p.kids.map (chgP (asT gr)))⟩ ⟨a.ea,a.ec,a.xa,a.xc,a.na,a.nc,tl,tlc,tk,tkc,a.la,a.lc,aq,cq⟩) rfl;rw [e9];have hat9:PrAt W9 (w.heap.size+1) 0 ⟨p.kind,p.chan,p.name,p.label,p.ex,p.exs,p.names,t2,p.labels,(p.kids.map (chgP (asT gr)))⟩ ⟨a.ea,a.ec,a.xa,a.xc,a.na,a.nc,tl,tlc,tk,tkc,a.la,a.lc,aq,cq⟩:=fun j hj=>by
     have hj':j<(prCs ⟨p.kind,p.chan,p.name,p.label,p.ex,p.exs,p.names,t2,p.labels,(p.kids.map (chgP (asT gr)))⟩ ⟨a.ea,a.ec,a.xa,a.xc,a.na,a.nc,tl,tlc,tk,tkc,a.la,a.lc,aq,cq⟩).length:=by rw [prCs_len];exact hj
     rw [Nat.zero_add,h9 j hj',List.getElem?_eq_getElem hj']
    have hb9:=b9 w (by omega) HK.out.bl
    clear c18 f18 h9 e9 b9;go_wp2_with fail
    refine bodyPost_ret (v:=prVal ⟨p.kind,p.chan,p.name,p.label,p.ex,p.exs,p.names,t2,p.labels,(p.kids.map (chgP (asT gr)))⟩ ⟨a.ea,a.ec,a.xa,a.xc,a.na,a.nc,tl,tlc,tk,tkc,a.la,a.lc,aq,cq⟩) (results_cell rfl rfl (loadVar_pr hat9)) rfl ?_;have ht:=HT2.out;have hc:=HBC.out.size;have hq:=HQc.out;have hb0:=HB0.out;have hsz:W9.heap.size=wr.heap.size:=s9.trans HK2.out.2;refine ⟨⟨⟨a.ea,a.ec,a.xa,a.xc,a.na,a.nc,tl,tlc,tk,tkc,a.la,a.lc,aq,cq⟩,?_,D+1,?_⟩,hb9⟩
    ·rw [chgP_eq,← ht.1]
    ·rw [chgP_eq,← ht.1]
     have kk:∀q o,((q<B0∨w.heap.size+1+1≤q)∧q<wr.heap.size)→W9.cell? ⟨q,o,none⟩=wr.cell? ⟨q,o,none⟩:=fun q o h=>(k9 q o (by omega)).trans (HK2.out.1 q o (by omega))
     have tk1:∀q o,CGP B0 (w.heap.size+1+1) wc q→W9.cell? ⟨q,o,none⟩=wc.cell? ⟨q,o,none⟩:=fun q o h=>by unfold CGP at h;exact (kk q o ⟨by omega,by omega⟩).trans (HBC.out.cell (p:=⟨q,o,none⟩) (by show q<_;omega))
     have tk2:∀q,CGP B0 (w.heap.size+1+1) wc q→CGP B0 w.heap.size W9 q:=fun q h=>by unfold CGP at h ⊢;omega
     have hb:=HOK.out.b;refine ⟨⟨hb.chan,hb.name,hb.label,hb.exb,hb.exk,hb.exs,hb.nms,ht.2.1,ht.2.2.1.keep tk1 tk2,⟨dd,ht.2.2.2.keep tk1 tk2⟩,hb.lbs,by show (p.kids.map (chgP (asT gr))).length≤cq;rw [List.length_map];exact HQ3.out.2.1,HQ3.out.2.2⟩,?_⟩
     exact HQ3.out.1.imp id fun ⟨b,o,e,hp,hall⟩=>⟨b,o,e,by unfold CGP;omega,fun i hi=>by
      obtain ⟨a',h1,h2⟩:=hall i hi;exact ⟨a',fun j hj=>(kk b _ ⟨by omega,by omega⟩).trans (h1 j hj),h2.keep (fun q o hq=>kk q o ⟨by omega,by omega⟩) (fun q hq=>by unfold CGP;omega)⟩⟩
theorem changed_any(gr:Ty→List Nd)(hgr:∀t g,chkTy t=0→OFG t g→g=gr t)(w0:World)(B0:Nat):∀d,CGSaid gr w0 B0 d:=by
 intro d;induction d using Nat.strongRecOn with
 | _ d ih=>exact changed_step gr hgr w0 B0 d ih
end Go.Proofs.YtmamabhhgfcjcaaGreatDoor
