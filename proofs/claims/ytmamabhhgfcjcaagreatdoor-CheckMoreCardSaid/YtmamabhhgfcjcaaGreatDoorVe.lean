/-
  The contracts of graph.lay, laid, Of and Same, for every type.
-/
import Derived.Test.YtmamabhhgfcjcaaGreatDoorHt
set_option maxRecDepth 100000
set_option maxHeartbeats 4000000
namespace Go.Proofs.YtmamabhhgfcjcaaGreatDoor
open Go.RowKit Go.Shelf
theorem lay_all(d:Nat):LYSaid d:=by
 induction d using Nat.strongRecOn with
 | _ d ih =>
  intro t al cl ak ck ar aa ca pg u toks B w hbd hla hkt hw hm hp hB hs1 hs2;obtain ⟨hpt,hwk⟩:=(wfT_eq t).1 hw;have hpos:=sizeT_eq t;by_cases h9:t.kind=9
  ·exact lay_var t al cl ak ck ar aa ca pg u toks B w hm hp (by omega) h9
  by_cases h8:t.kind=8
  ·obtain ⟨q,hq⟩:=part_rec hpt h8
   cases d with
   | zero=>have e:t.kids=[]:=hkt;rw [e]at hq;cases hq
   | succ d =>
    rcases hkt with e|⟨b,o,rfl,hb,hc⟩
    ·rw [e]at hq;cases hq
    ·obtain ⟨a1,c1,a2,c2,h1,h2,h3,h4⟩:=hc 0 (by rw [hq];exact Nat.one_pos)
     have e0:t.kids[0]'(by rw [hq];exact Nat.one_pos)=q:=by simp [hq]
     rw [e0]at h1 h2 h3 h4;exact lay_rec d (ih d (by omega)) t q al a1 cl c1 a2 ck c2 b (o+0*5) ar aa ca pg u toks B w h1 hb h2 h3 h4 (hwk q (by rw [hq];exact .head _)) hm hp hB hs1 hs2 h8 hq
  ·have h6:t.kids.length≤6:=by
    have:=(shp_len (part_shp hpt h9 h8 (t.kids.map fun _=>0) (by simp))).2.1
    simpa using this
   exact lay_node d ih t al cl ak ck ar aa ca pg u toks B w hla hkt hw hm hp hB hs1 hs2 h9 h8 h6
theorem laid_any(d:Nat)(t:Ty)(al:OAd)(cl:Nat)(ak:OAd)(ck:Nat)(w:World)(hbd:TyBd t cl ck)(hla:LA w w.heap.size t.labels al)(hkt:KT w w.heap.size d t.kids ak)(hw:wfT t)(hs:sizeT t≤60):
  Calls Tryz.prog 29 #[tyVal t al cl ak ck] w fun e w'=>(∃ag cg,e = .returned (.slice ag (layP t [] 0).2.length cg)∧GAt w' w'.heap.size (layP t [] 0).2 ag)∧Below w.heap.size w w':=by
 have hA:Below w.heap.size w (w.alloc (.cells #[.int .i64 t.kind,.int .i64 t.so,.string t.name,.slice al t.labels.length cl,.slice ak t.kids.length ck] 37)):=(bR _ _).alloc (nR _) _;have hA2:Below w.heap.size w ((w.alloc (.cells #[.int .i64 t.kind,.int .i64 t.so,.string t.name,.slice al t.labels.length cl,.slice ak t.kids.length ck] 37)).alloc (.cells #[.slice none 0 0] 44)):=hA.alloc hA.size _;have hp:PG ((w.alloc (.cells #[.int .i64 t.kind,.int .i64 t.so,.string t.name,.slice al t.labels.length cl,.slice ak t.kids.length ck] 37)).alloc (.cells #[.slice none 0 0] 44)) (w.heap.size+1) (.slice none 0 0) []:=⟨by go_cell,by go_simp,World.ownsRow_nil _ _ _ _,by simp⟩
 have c:=lay_all d t al cl ak ck [] none 0 (w.heap.size+1) (.slice none 0 0) [] w.heap.size ((w.alloc (.cells #[.int .i64 t.kind,.int .i64 t.so,.string t.name,.slice al t.labels.length cl,.slice ak t.kids.length ck] 37)).alloc (.cells #[.slice none 0 0] 44)) hbd (hla.keep hA2) (hkt.keep hA2) hw (.inl ⟨rfl,rfl,rfl⟩) hp (by omega) (by simp;omega) (by simp;omega)
 have HA2:=hideK hA2;unfold LYPost at c;simp only [tyVal,List.length_nil]at c ⊢;clear hbd hla hkt hw hA hA2 hp;go_enter Tryz.func29,Tryz.ntmps29
 go_wp2_with fail
 refine c.mono ?_;rintro e w1 ⟨rfl,new,u,hn,hp1,ht1,hr1,_⟩;have hb1:Below w.heap.size w w1:=hr1.below HA2.out HA2.out.size (by omega) (by omega) (fun k hk=>by simp [Value.ownBlock]at hk)
 have hg:=gat_of (P:=fun b=>b<w1.heap.size) hp1.own (fun x hx=>⟨by
   have h1:=(ht1 x hx).1;exact h1.imp id fun ⟨b,o,e,hl,hc⟩=>⟨b,o,e,by have:=hb1.size;omega,hc⟩,by
   have h1:=(ht1 x hx).2;exact h1.imp id fun ⟨b,o,e,hl,hc⟩=>⟨b,o,e,hl.2.1,hc⟩⟩) (fun b hb=>hb)
 rw [List.nil_append,hn]at hg;obtain ⟨ag,cg,hu,hga⟩:=hg;have hl:new.length=(layP t [] 0).2.length:=by rw [← hn,List.length_map]
 rw [hl]at hu;have hc1:=hp1.c;subst hu;have HG:=hideK hga;have HB:=hideK hb1;clear hp1 ht1 hr1 hga hb1 hn c;go_wp2_with fail
 go_ret
 exact ⟨⟨_,_,rfl,HG.out⟩,HB.out⟩
def e0:ByteArray→Dn:=fun _ _=>tr0
theorem okN_to{n:Nd}(h:okN n)(f:Nat→Nat):okN ⟨n.kind,n.so,n.labs,n.to.map f⟩:=by
 unfold okN at h ⊢;rw [List.map_map];exact h
theorem least_gn{g:List Nd}{c:List Nat}(hg:GN g)(hc:CLS g c):GN (leastG g c)∧(∀k,gT (leastG g c) k 0=gT g k 0)∧(leastG g c).length≤g.length:=by
 obtain ⟨h1,h2,h3,h4⟩:=least_alike hg.shut hc hg.pos;refine ⟨⟨h3,Nat.le_trans h4 hg.le,fun n hn=>?_,h2⟩,h1,h4⟩
 obtain ⟨M,hI,_⟩:=lst_inv hg.shut hc g.length 0 [0] (RInv.start hg.pos) (Nat.zero_le _) (by omega)
 unfold leastG at hn;obtain ⟨i,hi,rfl⟩:=List.mem_map.1 hn;exact okN_to (hg.at_ (hI.lt i hi)) _
theorem lay_gn{t:Ty}(h:chkTy t=0):GN (layP t [] 0).2:=by
 obtain ⟨hg,_,_⟩:=chkTy_gd t h;obtain ⟨hw,hs⟩:=chkTy_good t h;have h1:=(lay_gr h).1;exact ⟨h1.pos,by have:=lay_size t hw [] 0;omega,lay_parts okN (fun t hp h9 h8 tos hl=>part_okN hp h9 h8 tos hl) t hg [] 0,h1.shut⟩
structure OFG(t:Ty)(g:List Nd):Prop where
 chk:chkTy t=0
 src:∃c,CLS (layP t [] 0).2 c∧g=leastG (layP t [] 0).2 c
theorem OFG.gn{t:Ty}{g:List Nd}(h:OFG t g):GN g:=by
 obtain ⟨c,hc,rfl⟩:=h.src;exact (least_gn (lay_gn h.chk) hc).1
theorem OFG.le{t:Ty}{g:List Nd}(h:OFG t g):g.length≤60:=by
 obtain ⟨c,hc,rfl⟩:=h.src;have h1:=(least_gn (lay_gn h.chk) hc).2.2;obtain ⟨hw,hs⟩:=chkTy_good t h.chk;have:=lay_size t hw [] 0;omega
theorem OFG.does{t:Ty}{g:List Nd}(h:OFG t g):∀k,gT g k 0=den t e0 k:=by
 obtain ⟨c,hc,rfl⟩:=h.src;intro k;rw [(least_gn (lay_gn h.chk) hc).2.1 k];have:=(lay_gr h.chk).2;unfold e0;rw [this]
theorem OFG.same{s t:Ty}{g h:List Nd}(hs:OFG s g)(ht:OFG t h):g=h↔den s e0=den t e0:=by
 have d1:=hs.does;have d2:=ht.does;obtain ⟨c,hc,rfl⟩:=hs.src;obtain ⟨c',hc',rfl⟩:=ht.src;have gs:=lay_gn hs.chk;have gt:=lay_gn ht.chk;constructor
 ·intro e
  funext k
  rw [← d1 k,← d2 k,e]
 ·intro e
  refine least_canon ⟨gs.shut,gt.shut,hc,hc'⟩ gs.pos gt.pos fun k=>?_
  rw [← (least_gn gs hc).2.1 k,← (least_gn gt hc').2.1 k,d1 k,d2 k,e]
def OFPost(t:Ty)(w:World)(e:Ending)(w':World):Prop :=
 ((chkTy t≠0∧e = .returned (.tuple #[.slice none 0 0,.int .i64 (chkTy t)]))∨(∃g ag cg,OFG t g∧e = .returned (.tuple #[.slice ag g.length cg,.int .i64 0])∧GAt w' w'.heap.size g ag))∧Below w.heap.size w w'
theorem of_any(d:Nat)(t:Ty)(al:OAd)(cl:Nat)(ak:OAd)(ck:Nat)(w:World)(hbd:TyBd t cl ck)(hla:LA w w.heap.size t.labels al)(hkt:KT w w.heap.size d t.kids ak):
  Calls Tryz.prog 9 #[tyVal t al cl ak ck] w (OFPost t w):=by
 have hA:Below w.heap.size w (w.alloc (.cells #[.int .i64 t.kind,.int .i64 t.so,.string t.name,.slice al t.labels.length cl,.slice ak t.kids.length ck] 37)):=(bR _ _).alloc (nR _) _;have cC:=typesCheck_any d t al cl ak ck _ hbd (NAt.mono hA.size (NAt.keep hA hla)) (KT.mono hA.size (KT.keep hA hkt));have HA:=hideK hA;unfold OFPost;by_cases hz:chkTy t=0
 ·rw [hz]at cC
  obtain ⟨hw,hsz⟩:=chkTy_good t hz;have CW:=hideK (fun (W:World) (hb:Below w.heap.size w W)=>laid_any d t al cl ak ck W hbd ((hla.keep hb).mono hb.size) ((hkt.keep hb).mono hb.size) hw hsz)
  have CL:=hideK (fun (W:World) ag cg (hga:GAt W W.heap.size (layP t [] 0).2 ag)=>least_loop (layP t [] 0).2 ag cg W.heap.size W (lay_gn hz).gr hga (nR _))
  simp only [tyVal]at cC CW ⊢;have HZ:=hideK hz;clear hbd hla hkt hz hw hsz hA;go_enter Tryz.func9,Tryz.ntmps9
  go_wp2_with fail
  refine cC.mono ?_;rintro e w1 ⟨rfl,hb1⟩;obtain ⟨x0,x1,x2,x3,x4,hbw⟩:=keep5 hb1;have cW:=CW.out w1 hbw;have HB:=hideK hbw;clear cC CW hbw;go_wp2_with fail
  refine cW.mono ?_;rintro e w2 ⟨⟨ag,cg,rfl,hga⟩,hb2⟩;have cL:=CL.out w2 ag cg hga;have HB2:=hideK (HB.out.trans (hb2.mono HB.out.size));clear cW CL hga hb2;generalize hG:(layP t [] 0).2=G at *;go_wp2_with fail
  refine cL.mono ?_;rintro e w3 ⟨⟨c,hc,ao,co,rfl,hg3⟩,hb3⟩;have HB3:=hideK (HB2.out.trans (hb3.mono HB2.out.size));have HC:=hideK hc;have HG3:=hideK hg3;clear cL hc hg3 hb3;generalize hgl:leastG G c=g at *;go_wp2_with fail
  go_ret2
  exact ⟨.inr ⟨g,_,_,⟨HZ.out,c,by rw [hG];exact HC.out,by rw [hG];exact hgl.symm⟩,rfl,HG3.out⟩,HB3.out⟩
 ·have hzb:(chkTy t != 0)=true:=by simpa using hz
  simp only [tyVal]at cC ⊢;have HZ:=hideK hz;clear hbd hla hkt hz hA;generalize hgz:chkTy t=z at cC hzb ⊢;go_enter Tryz.func9,Tryz.ntmps9
  go_wp2_with fail
  refine cC.mono ?_;rintro e w1 ⟨rfl,hb1⟩;obtain ⟨x0,x1,x2,x3,x4,hbw⟩:=keep5 hb1;clear cC;go_wp2_with fail
  go_ret2
  exact ⟨.inl ⟨by rw [← hgz];exact HZ.out,rfl⟩,hbw⟩
theorem toAt_cellA{W:World}{B:Nat}{n:Nd}{at1:OAd}(h:NI W B n.to at1){i:Nat}(hi:i<n.to.length):∃b o,at1=some ⟨b,o,none⟩∧b<B∧W.cell? ⟨b,o+i,none⟩=some (.int .i64 (toAt n i:Int)):=by
 obtain ⟨b,o,rfl,hb,hc⟩:=h.resolve_left (fun q=>by have:=congrArg List.length q;simp at this;rw [this]at hi;simp at hi)
 refine ⟨b,o,rfl,hb,?_⟩;rw [hc i (by simpa using hi),List.getElem_map]
 unfold toAt;rw [List.getElem?_eq_getElem hi];rfl
theorem infoTyp:(Tryz.prog.info? 37).map (fun i=>(i.zero,i.size,i.bytes))=some (some (.agg #[.int .i64 0,.int .i64 0,.string ⟨#[]⟩,.slice none 0 0,.slice none 0 0]),5,80):=by kernel_rfl
def eC:List Value:=[.int .i64 1,.int .i64 0,.string ⟨#[]⟩,.slice none 0 0,.slice none 0 0]
def eCs1:Nat→List Value
 | 0=>[]
 | k+1=>eCs1 k++eC
theorem eCs1_len:∀k,(eCs1 k).length=k*5
 | 0=>rfl
 | k+1=>by rw [eCs1,List.length_append,eCs1_len k];show k*5+5=_;omega
theorem eCs1_at:∀(k i:Nat),i<k→∀j,j<5→(eCs1 k)[i*5+j]? = eC[j]?
 | 0,_,h,_,_=>by omega
 | k+1,i,h,j,hj=>by
  rw [eCs1];by_cases hi:i<k
  ·rw [List.getElem?_append_left (by rw [eCs1_len];omega)]
   exact eCs1_at k i hi j hj
  ·obtain rfl:i=k:=by omega
   rw [List.getElem?_append_right (by rw [eCs1_len];omega),eCs1_len,Nat.add_sub_cancel_left]
def nTy(n:Nd)(k:Nat):Ty:=⟨n.kind,n.so,⟨#[]⟩,n.labs,List.replicate k endT⟩
theorem map_rep(l:List Nat):(l.map fun _=>endT)=List.replicate l.length endT:=by
 induction l with
 | nil=>rfl
 | cons a l ih=>rw [List.map_cons,ih];rfl
theorem ends_chk(ar:List ByteArray):∀(k c:Nat),k+c≤60→(chkTL ar (List.replicate k endT) (0,c)).1=0
 | 0,_,_=>rfl
 | k+1,c,h=>by
  have hp:partT endT=true:=by unfold partT endT;simp
  have e:chkT endT ar c=(0,c+1):=by
   rw [chkT_eq,if_neg (by omega),hp,if_neg (by decide),if_neg (by rintro ⟨h,_⟩;exact absurd h (by decide)),if_neg (by rintro ⟨h,_⟩;exact absurd h (by decide))]
   rfl
  rw [List.replicate_succ,chkTL_cons,if_neg (by simp),e]
  exact ends_chk ar k (c+1) (by omega)
theorem node_chk{n:Nd}(h:okN n):chkTy (nTy n n.to.length)=0:=by
 have h6:=(shp_len (okN_shp h)).2.1;have hc:=okN_cases h;unfold okN at h;rw [map_rep]at h;unfold chkTy;rw [chkT_eq,if_neg (by decide)]
 have hp:partT (nTy n n.to.length)=true:=h;have hk:(nTy n n.to.length).kind=n.kind:=rfl;rw [hp,if_neg (by decide),hk,if_neg (by omega),if_neg (by omega),if_neg (by omega)]
 exact ends_chk _ n.to.length (0+1) (by omega)
structure PN(w:World)(n:Nd)(a1:OAd)(c1 k:Nat)(u:Value)(W:World):Prop where
 p0:W.cell? ⟨w.heap.size+1,0,none⟩=some (.int .i64 n.kind)
 p1:W.cell? ⟨w.heap.size+1,1,none⟩=some (.int .i64 n.so)
 p2:W.cell? ⟨w.heap.size+1,2,none⟩=some (.string ⟨#[]⟩)
 p3:W.cell? ⟨w.heap.size+1,3,none⟩=some (.slice a1 n.labs.length c1)
 p4:W.cell? ⟨w.heap.size+1,4,none⟩=some u
 pf:W.frozen? ⟨w.heap.size+1,4,none⟩=false
 own:W.ownsRow (w.heap.size+1+1) 37 5 u k (eCs1 k)
 sz:w.heap.size+1+1≤W.heap.size
 bl:Below w.heap.size w W
theorem PN.app{w W w7:World}{n:Nd}{a1:OAd}{c1 k:Nat}{u v7:Value}{ob:Obj}(h:PN w n a1 c1 k u W)(hg:(W.alloc ob).grownBy w7 u.ownBlock)(hO:w7.ownsRow (w.heap.size+1+1) 37 5 v7 (k+1) (eCs1 k++eC)):PN w n a1 c1 (k+1) v7 (w7.setCell ⟨w.heap.size+1,4,none⟩ v7):=by
 have q:=h.sz;have hlow:∀b,b<w.heap.size+1+1→some b≠u.ownBlock:=fun b hb e=>by have:=(h.own.lt b e.symm).1;omega
 have hs7:W.heap.size+1≤w7.heap.size:=by have:=hg.size;simp at this;omega
 have hblk:∀b,b<w.heap.size+1+1→w7.heap[b]? = W.heap[b]?:=fun b hb=>(hg.block b (by simp;omega) (hlow b hb)).trans (heap_alloc_old W ob (by omega))
 have hc:∀o,w7.cell? ⟨w.heap.size+1,o,none⟩=W.cell? ⟨w.heap.size+1,o,none⟩:=fun o=>World.cell?_of_block (a:=⟨w.heap.size+1,o,none⟩) (hblk (w.heap.size+1) (by omega))
 have hf:∀o,w7.frozen? ⟨w.heap.size+1,o,none⟩=W.frozen? ⟨w.heap.size+1,o,none⟩:=fun o=>World.frozen?_of_block (a:=⟨w.heap.size+1,o,none⟩) (hblk (w.heap.size+1) (by omega))
 have ho:∀o,o≠4→(w7.setCell ⟨w.heap.size+1,4,none⟩ v7).cell? ⟨w.heap.size+1,o,none⟩=W.cell? ⟨w.heap.size+1,o,none⟩:=fun o hn=>(World.cell?_setCell_other _ _ _ _ (by intro e;injection e with _ e;exact hn e.symm)).trans (hc o)
 refine ⟨(ho 0 (by omega)).trans h.p0,(ho 1 (by omega)).trans h.p1,(ho 2 (by omega)).trans h.p2,(ho 3 (by omega)).trans h.p3,World.cell?_setCell_same _ _ _ ((hc 4).trans h.p4),(World.frozen?_setCell _ _ _ _).trans ((hf 4).trans h.pf),own_setB hO (by omega) v7,by simp;omega,?_⟩
 refine ⟨hg.os.trans h.bl.os,hg.tape.trans h.bl.tape,hg.output.trans h.bl.output,by simp;omega,fun b hb=>?_⟩
 rw [Below.heap_setCell _ _ _ b (fun e=>by have e:b=w.heap.size+1:=e;omega),hblk b (by omega)]
 exact h.bl.block b hb
theorem PN.kt{w W:World}{n:Nd}{a1:OAd}{c1 k:Nat}{u:Value}(h:PN w n a1 c1 k u W):∃ak ck,u = .slice ak k ck∧KT W W.heap.size 1 (List.replicate k endT) ak:=by
 rcases own_cells h.own with ⟨rfl,h0,_⟩|⟨g,cap,rfl,_,hg,hc⟩
 ·subst h0;exact ⟨none,0,rfl,.inl rfl⟩
 ·refine ⟨_,_,rfl,.inr ⟨g,0,rfl,hg,fun i hi=>?_⟩⟩
  have hi':i<k:=by simpa using hi
  have e:(List.replicate k endT)[i]=endT:=by simp
  rw [e,Nat.zero_add];exact ⟨none,0,none,0,⟨hc (i*5+0) _ ((eCs1_at k i hi' 0 (by omega)).trans rfl),hc _ _ ((eCs1_at k i hi' 1 (by omega)).trans rfl),hc _ _ ((eCs1_at k i hi' 2 (by omega)).trans rfl),hc _ _ ((eCs1_at k i hi' 3 (by omega)).trans rfl),hc _ _ ((eCs1_at k i hi' 4 (by omega)).trans rfl)⟩,⟨by decide,fun l hl=>(by cases hl),by decide,by decide,by decide,by decide⟩,.inl rfl,rfl⟩
theorem isNode_any(n:Nd)(N:Nat)(a1 a2:OAd)(c1 c2 B:Nat)(w:World)(h1:LA w B n.labs a1)(h2:NI w B n.to a2)(hB:B≤w.heap.size)(hn:okN n)(ht:∀t∈n.to,t<N):
  Calls Tryz.prog 88 #[ndVal n a1 c1 a2 c2,.int .i64 (N:Int)] w fun e w'=>e = .returned (.bool true)∧Below w.heap.size w w':=by
 obtain ⟨i1,hj,hy0,hy1,hy2⟩:=info_parts infoTyp;have h6:=(shp_len (okN_shp hn)).2.1;have h6l:=(shp_len (okN_shp hn)).1;have h6z:(n.to.length:Int)≤6:=by omega
 have b0:NdAt (w.alloc (.cells #[.int .i64 n.kind,.int .i64 n.so,.slice a1 n.labs.length c1,.slice a2 n.to.length c2] 102)) w.heap.size 0 n a1 c1 a2 c2:=⟨by go_cell,by go_cell,by go_cell,by go_cell⟩
 obtain ⟨x0,x1,x2,x3⟩:=b0;simp only [Nat.zero_add]at x1 x2 x3;have P0:=hideK (show PN w n a1 c1 0 (.slice none 0 0) ((w.alloc (.cells #[.int .i64 n.kind,.int .i64 n.so,.slice a1 n.labs.length c1,.slice a2 n.to.length c2] 102)).alloc (.cells #[.int .i64 n.kind,.int .i64 n.so,.string ⟨#[]⟩,.slice a1 n.labs.length c1,.slice none 0 0] 37)) from
  ⟨by go_cell,by go_cell,by go_cell,by go_cell,by go_cell,by go_simp,World.ownsRow_nil _ _ _ _,by simp,((bR _ _).alloc (nR _) _).alloc (by simp) _⟩)
 have H2:=hideK h2;have H1:=hideK h1;have HT:=hideK ht;have HCK:=hideK (node_chk hn);have HLB:=hideK (show ∀l∈n.labs,l.size≤9223372036854775807 from fun l hl=>by have:=((okN_shp hn).2.1 l hl).2;omega)
 simp only [ndVal];clear h1 h2 ht hn;go_enter Tryz.func88,Tryz.ntmps88
 go_wp2_with fail
 go_loopw [22] (fun i wr=>∃(k:Nat) (u:Value),k≤n.to.length∧i = .int .i64 (k:Int)∧PN w n a1 c1 k u wr) (fun i _=>n.to.length - (intOf i).toNat)
 case atStart=>exact ⟨0,_,Nat.zero_le _,rfl,P0.out⟩
 case round =>
  obtain ⟨k,u,hk,rfl,hP⟩:=hrel;clear P0 x0 x1 x2 x3;by_cases hlt:k<n.to.length
  ·have hltz:(k:Int)<(n.to.length:Int):=by omega
   obtain ⟨tb,tof,rfl,htb,d0⟩:=toAt_cellA (H2.out.keep (hP.bl.mono hB)) hlt;have htN:toAt n k<N:=by
    unfold toAt;rw [List.getElem?_eq_getElem hlt];exact HT.out _ (List.getElem_mem hlt)
   generalize toAt n k=tv at *;have ht1:¬((tv:Int)<0):=by omega
   have ht2:(tv:Int)<(N:Int):=by omega
   have ht3:¬((tv:Int) ≥ (N:Int)):=by omega
   have p4:=hP.p4;have LR:=hideK (World.ownsRow_lit (base:=w.heap.size+1+1) (e:=37) (size:=5) wr #[.int .i64 1,.int .i64 0,.string ⟨#[]⟩,.slice none 0 0,.slice none 0 0] 1 hP.sz (by decide) rfl)
   have OA:=hideK (own_belowG hP.own ((bR _ _).alloc (nR _) (.cells #[.int .i64 1,.int .i64 0,.string ⟨#[]⟩,.slice none 0 0,.slice none 0 0] 37)));have HP:=hideK hP;have hsz:=hP.sz;have HAPP:=hideK (fun (w7:World) (v7:Value) (hg:(wr.alloc (.cells #[.int .i64 1,.int .i64 0,.string ⟨#[]⟩,.slice none 0 0,.slice none 0 0] 37)).grownBy w7 u.ownBlock) (hO:w7.ownsRow (w.heap.size+1+1) 37 5 v7 (k+1) (eCs1 k++eC))=>hP.app (v7:=v7) hg hO)
   have HLOW:=hideK (show ∀b,b<w.heap.size+1+1→some b≠u.ownBlock from fun b hb e=>by have:=(hP.own.lt b e.symm).1;omega)
   obtain ⟨ua,uc,rfl⟩:=sliceH_own hP.own;clear hP;go_wp2_with (at_builtin;refine wpList_append_rows _ rfl (.tmp 34) (.tmp 36) 35 rfl (w.heap.size+1+1) (w.heap.size+1+1) 37 i1 _ 5 80 Tryz.underlying35 hj hy0 hy1 hy2 rfl (by decide) _ _ _ rfl OA.out _ _ _ rfl LR.out (by simp [Value.oneCell']) (by unfold maxLen;omega) (by omega) (by simp;omega) ?_;intro v7 w7 hO7 hg7 hat7;have pc7:=(World.cell?_of_block (a:=⟨w.heap.size+1,4,none⟩) (hg7.block (w.heap.size+1) (by simp;omega) (HLOW.out _ (by omega)))).trans ((World.cell?_of_block (a:=⟨w.heap.size+1,4,none⟩) (heap_alloc_old wr _ (by show w.heap.size+1<_;omega))).trans HP.out.p4);have pf7:=(World.frozen?_of_block (a:=⟨w.heap.size+1,4,none⟩) (hg7.block (w.heap.size+1) (by simp;omega) (HLOW.out _ (by omega)))).trans ((World.frozen?_of_block (a:=⟨w.heap.size+1,4,none⟩) (heap_alloc_old wr _ (by show w.heap.size+1<_;omega))).trans HP.out.pf);have HP7:=hideK (HAPP.out w7 v7 hg7 hO7);obtain ⟨va,vc,rfl⟩:=sliceH_own hO7;clear hO7 hg7 hat7)
   go_roundw
   case rel=>exact ⟨k+1,_,by omega,by go_num,HP7.out⟩
   case measure=>simp [intOf];omega
  ·have hltz:¬(k:Int)<(n.to.length:Int):=by omega
   have hkl:k=n.to.length:=by omega
   subst hkl;obtain ⟨ak,ck,rfl,hkt⟩:=hP.kt;have cC:=typesCheck_w 1 (nTy n n.to.length) a1 c1 ak ck wr ⟨by show (0:Nat)≤_;omega,HLB.out,by show n.labs.length≤_;omega,by show (List.replicate n.to.length endT).length≤_;rw [List.length_replicate];omega⟩ ((H1.out.keep (hP.bl.mono hB)).mono (Nat.le_trans hB hP.bl.size)) hkt
   rw [HCK.out]at cC;have q0:=hP.p0;have q1:=hP.p1;have q2:=hP.p2;have q3:=hP.p3;have q4:=hP.p4;have HB:=hideK hP.bl;simp only [tyVal,nTy,List.length_replicate]at cC;clear hP hkt;go_wp2_with fail
   refine cC.mono ?_;rintro e w2 ⟨rfl,hb2⟩;have HB2:=hideK (HB.out.trans (hb2.mono HB.out.size));clear cC hb2 q0 q1 q2 q3 q4;go_wp2_with fail
   go_ret
   exact ⟨rfl,HB2.out⟩
theorem checkG_any(g:List Nd)(ag:OAd)(cg B:Nat)(w:World)(hg:GN g)(hga:GAt w B g ag)(hB:B≤w.heap.size):
  Calls Tryz.prog 53 #[.slice ag g.length cg] w fun e w'=>e = .returned (.int .i64 0)∧Below w.heap.size w w':=by
 have hl:=hg.le;have hp:=hg.pos;have hz0:((g.length:Int)==0)=false:=by rw [beq_eq_false_iff_ne];omega
 have hz1:¬((g.length:Int) > 200):=by omega
 have hz2:(g.length:Int)≤200:=by omega
 obtain ⟨gb,go,rfl,hgB,hgc⟩:=hga.resolve_left (fun q=>by rw [q]at hp;simp at hp)
 have HGC:=hideK hgc;have HG:=hideK hg;clear hga hgc hg;go_enter Tryz.func53,Tryz.ntmps53
 go_wp2_with fail
 go_loopw [15] (fun i wr=>∃k:Nat,k≤g.length∧i = .int .i64 (k:Int)∧Below w.heap.size w wr) (fun i _=>g.length - (intOf i).toNat)
 case atStart=>exact ⟨0,Nat.zero_le _,rfl,Below.refl _ _⟩
 case round =>
  obtain ⟨k,hk,rfl,hb⟩:=hrel;by_cases hlt:k<g.length
  ·have hltz:(k:Int)<(g.length:Int):=by omega
   obtain ⟨a1,c1,a2,c2,hN,hL,hT⟩:=HGC.out k hlt;have hbB:=hb.mono hB;obtain ⟨m0,m1,m2,m3⟩:=hN.keep hbB hgB;have hA:=hb.alloc hb.size (.cells #[.int .i64 g[k].kind,.int .i64 g[k].so,.slice a1 g[k].labs.length c1,.slice a2 g[k].to.length c2] 102);have c:=isNode_any g[k] g.length a1 a2 c1 c2 B (wr.alloc (.cells #[.int .i64 g[k].kind,.int .i64 g[k].so,.slice a1 g[k].labs.length c1,.slice a2 g[k].to.length c2] 102)) (hL.keep (hA.mono hB)) (hT.keep (hA.mono hB)) (Nat.le_trans hB hA.size) (HG.out.ok _ (List.getElem_mem hlt)) (fun t ht=>HG.out.shut _ (List.getElem_mem hlt) t ht)
   simp only [ndVal]at c;have HA:=hideK hA;clear hN hL hT hbB hb hA;generalize g[k]=n at *;go_wp2_with fail
   refine c.mono ?_;rintro e w1 ⟨rfl,hb1⟩;have HB1:=hideK (HA.out.trans (hb1.mono HA.out.size));clear c hb1 m0 m1 m2 m3;go_wp2_with fail
   go_roundw
   case rel=>exact ⟨k+1,by omega,by go_num,HB1.out⟩
   case measure=>simp [intOf];omega
  ·have hltz:¬(k:Int)<(g.length:Int):=by omega
   go_wp2_with fail
   go_ret
   exact ⟨rfl,hb⟩
theorem leastK_any(g:List Nd)(ag:OAd)(cg B:Nat)(w:World)(hg:GN g)(hga:GAt w B g ag)(hB:B≤w.heap.size):
  Calls Tryz.prog 59 #[.slice ag g.length cg] w fun e w'=>(∃c,CLS g c∧∃ao co,e = .returned (.tuple #[.slice ao (leastG g c).length co,.int .i64 0])∧GAK w' w'.heap.size (leastG g c) ao)∧Below w.heap.size w w':=by
 have c1:=checkG_any g ag cg B w hg hga hB;have CL:=hideK (fun (W:World) (hb:Below w.heap.size w W)=>least_loopK g ag cg B W hg.gr (hga.keep (hb.mono hB)) (Nat.le_trans hB hb.size))
 clear hga hg;go_enter Tryz.func59,Tryz.ntmps59
 go_wp2_with fail
 refine c1.mono ?_;rintro e w1 ⟨rfl,hb1⟩;have cL:=CL.out w1 hb1;have HB:=hideK hb1;clear c1 CL hb1;go_wp2_with fail
 refine cL.mono ?_;rintro e w2 ⟨⟨c,hc,ao,co,rfl,hg2⟩,hb2⟩;have HC:=hideK hc;have HG2:=hideK hg2;have HB2:=hideK (HB.out.trans (hb2.mono HB.out.size));clear cL hc hg2 hb2;go_wp2_with fail
 go_ret2
 exact ⟨⟨c,HC.out,_,_,rfl,HG2.out⟩,HB2.out⟩
theorem leastG_any(g:List Nd)(ag:OAd)(cg B:Nat)(w:World)(hg:GN g)(hga:GAt w B g ag)(hB:B≤w.heap.size):
  Calls Tryz.prog 59 #[.slice ag g.length cg] w fun e w'=>(∃c,CLS g c∧∃ao co,e = .returned (.tuple #[.slice ao (leastG g c).length co,.int .i64 0])∧GAt w' w'.heap.size (leastG g c) ao)∧Below w.heap.size w w' :=
 (leastK_any g ag cg B w hg hga hB).mono fun _ _ ⟨⟨c,hc,ao,co,e,h⟩,hb⟩=>⟨⟨c,hc,ao,co,e,h.gat⟩,hb⟩
def pkB(p:Pl):Value:=.agg #[.int .i64 (p.1:Int),.int .i64 (p.2.1:Int),.bool p.2.2]
theorem pkB_inj{p q:Pl}(h:pkB p=pkB q):p=q:=by
 simp [pkB]at h;exact Prod.ext (by omega) (Prod.ext (by omega) h.2.2)
theorem keyLawB:WideMaps.KeyLaw Tryz.prog 119:=deep_law_laid (m:=3) laidOutG (by decide) (of_decide_eq_true (by kernel_rfl)) (by kernel_rfl) (by kernel_rfl)
def smB(p:Pl):Prop:=p.1≤1000000∧p.2.1≤1000000
theorem key_ofB(p:Pl)(h:smB p):∃l,keyOf Tryz.prog 119 (pkB p)=some l:=by
 have hm:Tryz.prog.types.size+1=(Tryz.prog.types.size - 1)+2:=by kernel_rfl
 have c0:Tryz.prog.cellsOf 119=3:=by kernel_rfl
 have c3:Tryz.prog.cellsOf 3=1:=by kernel_rfl
 have c4:Tryz.prog.cellsOf 4=1:=by kernel_rfl
 have kt:Tryz.prog.keyType 119=true:=by kernel_rfl
 unfold keyOf pkB;rw [hm];generalize Tryz.prog.types.size - 1=d;have e3:=kl_int d (p.1:Int) (by unfold in64z;have:=h.1;omega)
 have e4:=kl_int d (p.2.1:Int) (by unfold in64z;have:=h.2;omega)
 have e5:Tryz.prog.keyLits (d+1) 4 [.bool p.2.2]=some [.bool p.2.2]:=by simp [Program.keyLits,Tryz.underlying4]
 rw [Tryz.underlying119];simp only;rw [if_pos]
 ·rw [Program.keyLits.eq_def]
  simp only [Tryz.underlying119];simp [c0,c3,c4,Value.cells,e3,e4,e5]
 ·rw [kt]
  simp [Value.formed];exact c0.symm
def MPB(W:World)(mb:Nat)(ps:List Pl):Prop:=∃es clock,W.heap[mb]? = some (.map es clock)∧es.size=ps.length∧∀i (h:i<ps.length),∃e,es[i]? = some e∧e.key=pkB ps[i]∧e.val = .agg #[]
theorem mpB_keys{ps:List Pl}{es:Array MapEntry}(hsz:es.size=ps.length)(hes:∀i (h:i<ps.length),∃e,es[i]? = some e∧e.key=pkB ps[i]∧e.val = .agg #[])(hk:∀p∈ps,smB p):∀e∈es.toList,∃l,keyOf Tryz.prog 119 e.key=some l:=by
 intro e he;obtain ⟨i,hi,rfl⟩:=List.mem_iff_getElem.1 he;have hi':i<ps.length:=by rw [← hsz];simpa using hi
 obtain ⟨e',h1,h2,_⟩:=hes i hi';have:es.toList[i]=e':=by
  have h3:es[i]? = some es.toList[i]:=by
   rw [← Array.getElem?_toList];exact List.getElem?_eq_getElem hi
  rw [h3]at h1;exact Option.some.inj h1
 rw [this,h2];exact key_ofB _ (hk _ (List.getElem_mem hi'))
theorem lookB_in{W:World}{mb:Nat}{ps:List Pl}(hm:MPB W mb ps)(hk:∀p∈ps,smB p){p:Pl}(hp:p∈ps):
  (Instr.lookup 228 (.map (some mb)) (pkB p) true).run Tryz.prog W = .ok (.tuple #[.agg #[],.bool true]) W:=by
 obtain ⟨es,clock,hb,hsz,hes⟩:=hm;have K:=keyLawB;obtain ⟨kl,hkey⟩:=key_ofB p (hk p hp);rcases K.find W hkey es.toList (mpB_keys hsz hes hk) with ⟨h1,h2⟩|⟨i,e0,h1,h2,h3⟩
 ·obtain ⟨j,hj,e⟩:=List.mem_iff_getElem.1 hp
  obtain ⟨e,he,hek,_⟩:=hes j hj;exact absurd (hek.trans (by rw [‹ps[j]=p›])) (h2 e (by rw [Array.mem_toList_iff,Array.mem_iff_getElem?];exact ⟨j,he⟩))
 ·have hil:i<ps.length:=by
   have:=(List.getElem?_eq_some_iff.1 h2).1;rw [← hsz];simpa using this
  obtain ⟨e,he,hek,hev⟩:=hes i hil;have:e=e0:=by rw [← Array.getElem?_toList]at he;rw [he]at h2;exact Option.some.inj h2
  subst this;rw [hev]at h1;simp [Instr.lookup,run_underlying Tryz.underlying228,MapKept.run_getObj_map hb,K.check W _ hkey,h1,Result.andThen]
theorem lookB_out{W:World}{mb:Nat}{ps:List Pl}(hm:MPB W mb ps)(hk:∀p∈ps,smB p){p:Pl}(hs:smB p)(hp:p ∉ ps):
  (Instr.lookup 228 (.map (some mb)) (pkB p) true).run Tryz.prog W = .ok (.tuple #[.agg #[],.bool false]) W ∧
  ∃W',(Instr.mapUpdate 228 (.map (some mb)) (pkB p) (.agg #[])).run Tryz.prog W = .ok () W'∧W.grownBy W' (some mb)∧W'.heap.size=W.heap.size∧MPB W' mb (ps++[p]):=by
 obtain ⟨es,clock,hb,hsz,hes⟩:=hm;have K:=keyLawB;obtain ⟨kl,hkey⟩:=key_ofB p hs;rcases K.find W hkey es.toList (mpB_keys hsz hes hk) with ⟨h1,h2⟩|⟨i,e0,h1,h2,h3⟩
 ·refine ⟨by simp [Instr.lookup,run_underlying Tryz.underlying228,MapKept.run_getObj_map hb,K.check W _ hkey,h1,Result.andThen],{ W with heap:=W.heap.setIfInBounds mb (.map (es.push { key:=pkB p,val:=.agg #[],born:=clock }) (clock+1)) },?_,?_⟩
  ·simp [Instr.mapUpdate,run_underlying Tryz.underlying228,MapKept.run_getObj_map hb,K.check W _ hkey,h1,MapKept.run_setObj_map _ hb,Result.andThen]
  ·refine ⟨⟨rfl,rfl,rfl,by simp,fun k hk' hne=>(MapKept.heap_set hb).2 k (fun e=>hne (by rw [e]))⟩,by simp,_,_,(MapKept.heap_set hb).1,by simp [hsz],fun i hi=>?_⟩
   by_cases hi':i<ps.length
   ·obtain ⟨e,he,hek,hev⟩:=hes i hi'
    refine ⟨e,?_,by rw [List.getElem_append_left hi'];exact hek,hev⟩
    rw [Array.getElem?_push,if_neg (by omega)];exact he
   ·obtain rfl:i=ps.length:=by simp at hi;omega
    exact ⟨_,by rw [Array.getElem?_push,if_pos hsz.symm],by simp,rfl⟩
 ·exfalso
  have hil:i<ps.length:=by
   have:=(List.getElem?_eq_some_iff.1 h2).1;rw [← hsz];simpa using this
  obtain ⟨e,he,hek,hev⟩:=hes i hil;have:e=e0:=by rw [← Array.getElem?_toList]at he;rw [he]at h2;exact Option.some.inj h2
  subst this;have:pkB ps[i]=pkB p:=by rw [← h3,hek]
  exact hp (by rw [← pkB_inj this];exact List.getElem_mem hil)
theorem MPB.new(W:World):MPB (W.alloc (.map #[] 0)) W.heap.size []:=⟨_,_,heap_alloc_new W _,rfl,fun _ h=>absurd h (Nat.not_lt_zero _)⟩
theorem MPB.blk{W W':World}{mb:Nat}{ps:List Pl}(hm:MPB W mb ps)(h:W'.heap[mb]? = W.heap[mb]?):MPB W' mb ps:=by
 obtain ⟨es,clock,hb,hsz,hes⟩:=hm;exact ⟨es,clock,h.trans hb,hsz,hes⟩
theorem MPB.lt{W:World}{mb:Nat}{ps:List Pl}(hm:MPB W mb ps):mb<W.heap.size:=by
 obtain ⟨es,clock,hb,_⟩:=hm;exact (Array.getElem?_eq_some_iff.1 hb).1
def aCB(v:Ag Pl):List Value:=[.int .i64 (v.1.2.1:Int),.int .i64 (v.1.2.2.1:Int),.bool v.1.2.2.2,.string v.1.1,.int .i64 (v.2:Int)]
def avB(arr:List (Ag Pl)):List Value:=arr.flatMap aCB
theorem aCB_one(v:Ag Pl):∀y∈aCB v,y.oneCell'=true:=by
 intro y hy;simp only [aCB,List.mem_cons,List.not_mem_nil,or_false]at hy;rcases hy with rfl|rfl|rfl|rfl|rfl <;> rfl
theorem avB_snoc(arr:List (Ag Pl))(v:Ag Pl):avB (arr++[v])=avB arr++aCB v:=by simp [avB]
theorem avB_at:∀(ss:List (Ag Pl)) (i:Nat) (h:i<ss.length) (j:Nat),j<5→(avB ss)[i*5+j]? = (aCB ss[i])[j]?
 | [],i,h,_,_=>by simp at h
 | s::ss,0,_,j,hj=>by
  have e:avB (s::ss)=aCB s++avB ss:=rfl;rw [e,List.getElem?_append_left (by simp [aCB];omega)]
  simp
 | s::ss,i+1,h,j,hj=>by
  have e:avB (s::ss)=aCB s++avB ss:=rfl;have hl:(aCB s).length=5:=rfl;rw [e,List.getElem?_append_right (by rw [hl];omega),hl,show (i+1)*5+j - 5=i*5+j by omega]
  exact avB_at ss i (by simpa using h) j hj
theorem infoAvB:(Tryz.prog.info? 230).map (fun i=>(i.zero,i.size,i.bytes))=some (some (.agg #[.int .i64 0,.int .i64 0,.bool false,.string ⟨#[]⟩,.int .i64 0]),5,48):=by kernel_rfl
structure SVB(w0:World)(sb mb:Nat)(ps:List Pl)(arr:List (Ag Pl))(u:Value)(W:World):Prop where
 c0:W.cell? ⟨sb,0,none⟩=some (.map (some mb))
 c1:W.cell? ⟨sb,1,none⟩=some u
 f1:W.frozen? ⟨sb,1,none⟩=false
 mp:MPB W mb ps
 own:W.ownsRow w0.heap.size 230 5 u arr.length (avB arr)
 ns:sb≠mb
 hs:w0.heap.size≤sb
 hm:w0.heap.size≤mb
 us:u.ownBlock≠some sb
 um:u.ownBlock≠some mb
 ls:sb<W.heap.size
 bl:Below w0.heap.size w0 W
abbrev SWB(w0:World)(sb mb:Nat)(arr:List (Ag Pl))(u:Value)(W:World):Prop:=SVB w0 sb mb (plG arr) arr u W
theorem SVB.kept{w0:World}{sb mb:Nat}{ps:List Pl}{arr:List (Ag Pl)}{u:Value}{W W':World}(h:SVB w0 sb mb ps arr u W)(hb:Below W.heap.size W W'):SVB w0 sb mb ps arr u W' :=
 ⟨(hb.cell (p:=⟨sb,0,none⟩) h.ls).trans h.c0,(hb.cell (p:=⟨sb,1,none⟩) h.ls).trans h.c1,(hb.frozen (p:=⟨sb,1,none⟩) h.ls).trans h.f1,h.mp.blk (hb.block mb h.mp.lt),own_belowG h.own hb,h.ns,h.hs,h.hm,h.us,h.um,nL h.ls hb.size,h.bl.trans (hb.mono h.bl.size)⟩
theorem SVB.at_{w0:World}{sb mb:Nat}{ps:List Pl}{arr:List (Ag Pl)}{u:Value}{W:World}(h:SVB w0 sb mb ps arr u W){k:Nat}(hk:k<arr.length):∃b c,u = .slice (some ⟨b,0,none⟩) arr.length c∧u.ownBlock=some b∧b<W.heap.size∧∀j y,(aCB arr[k])[j]? = some y→W.cell? ⟨b,k*5+j,none⟩=some y:=by
 rcases own_cells h.own with ⟨rfl,h0,_⟩|⟨g,cap,rfl,_,hg,hc⟩
 ·omega
 ·refine ⟨g,cap,rfl,rfl,hg,fun j y hy=>?_⟩
  have hj:j<5:=(List.getElem?_eq_some_iff.1 hy).1;exact hc _ _ ((avB_at arr k hk j hj).trans hy)
theorem SVB.upd{w0:World}{sb mb:Nat}{ps ps':List Pl}{arr:List (Ag Pl)}{u:Value}{W W':World}(h:SVB w0 sb mb ps arr u W)(hg:W.grownBy W' (some mb))(hm:MPB W' mb ps'):SVB w0 sb mb ps' arr u W':=by
 have hk:∀b,b<W.heap.size→b≠mb→W'.heap[b]? = W.heap[b]?:=fun b hb hn=>hg.block b hb (fun e=>hn (by injection e))
 refine ⟨(World.cell?_of_block (a:=⟨sb,0,none⟩) (hk sb h.ls h.ns)).trans h.c0,(World.cell?_of_block (a:=⟨sb,1,none⟩) (hk sb h.ls h.ns)).trans h.c1,(World.frozen?_of_block (a:=⟨sb,1,none⟩) (hk sb h.ls h.ns)).trans h.f1,hm,?_,h.ns,h.hs,h.hm,h.us,h.um,nL h.ls hg.size,?_⟩
 ·refine ⟨h.own.1,h.own.2.imp id fun ⟨g,c,cur,e1,hb,hc,r⟩=>⟨g,c,cur,e1,hb,?_,r⟩⟩
  rw [hk g (Array.getElem?_eq_some_iff.1 hc).1 (fun e=>h.um (by rw [e1,← e];rfl))]
  exact hc
 ·refine h.bl.trans ⟨hg.os,hg.tape,hg.output,hg.size,fun b hb=>hk b (nL hb h.bl.size) (by have:=h.hm;omega)⟩
theorem SVB.put{w0:World}{sb mb:Nat}{ps:List Pl}{arr:List (Ag Pl)}{u v7:Value}{V w7:World}{ob:Obj}{s:Sg Pl}{k:Nat}(h:SVB w0 sb mb ps arr u V)(hps:ps=plG arr++[s.2])
  (hg:(V.alloc ob).grownBy w7 u.ownBlock) (hO:w7.ownsRow w0.heap.size 230 5 v7 (arr.length+1) (avB arr++aCB (s,k))) (hat:v7.ownBlock=u.ownBlock∨v7.ownBlock=some (V.alloc ob).heap.size) :
  SWB w0 sb mb (arr++[(s,k)]) v7 (w7.setCell ⟨sb,1,none⟩ v7)∧RF mb sb u.ownBlock V (w7.setCell ⟨sb,1,none⟩ v7)∧(v7.ownBlock=u.ownBlock∨∀j,v7.ownBlock=some j→V.heap.size≤j):=by
 have hsz:(V.alloc ob).heap.size=V.heap.size+1:=by simp
 have hk:∀b,b<V.heap.size→some b≠u.ownBlock→w7.heap[b]? = V.heap[b]?:=fun b hb hn=>(hg.block b (by omega) hn).trans (heap_alloc_old V ob hb)
 have hS:=hk sb h.ls (fun e=>h.us e.symm)
 have hM:=hk mb h.mp.lt (fun e=>h.um e.symm)
 have hs7:=hg.size;have hfr:v7.ownBlock=u.ownBlock∨∀j,v7.ownBlock=some j→V.heap.size≤j:=hat.imp id fun e j hj=>by rw [e]at hj;injection hj with hj;omega
 have hne:∀b,b<V.heap.size→u.ownBlock≠some b→v7.ownBlock≠some b:=fun b hb hn e=>by
  rcases hfr with q|q
  ·exact hn (q ▸ e)
  ·have:=q b e;omega
 have hus:=hne sb h.ls h.us;have hum:=hne mb h.mp.lt h.um;refine ⟨⟨?_,World.cell?_setCell_same _ _ _ ((World.cell?_of_block (a:=⟨sb,1,none⟩) hS).trans h.c1),(World.frozen?_setCell _ _ _ _).trans ((World.frozen?_of_block (a:=⟨sb,1,none⟩) hS).trans h.f1),?_,?_,h.ns,h.hs,h.hm,hus,hum,by simp;have:=h.ls;omega,?_⟩,?_,hfr⟩
 ·rw [World.cell?_setCell_other _ _ _ _ (by intro e;injection e with _ e;cases e)]
  exact (World.cell?_of_block (a:=⟨sb,0,none⟩) hS).trans h.c0
 ·have e:plG (arr++[(s,k)])=ps:=by rw [hps];simp [plG]
  rw [e];exact h.mp.blk ((Below.heap_setCell _ _ _ mb (fun e=>h.ns e.symm)).trans hM)
 ·rw [avB_snoc,List.length_append]
  refine ⟨hO.1,hO.2.imp id fun ⟨g,c,cur,e1,hb,hc,r⟩=>⟨g,c,cur,e1,hb,?_,r⟩⟩
  rw [Below.heap_setCell _ _ _ g (fun e=>hus (by have e:g=sb:=e;rw [e1,e];rfl))]
  exact hc
 ·refine ⟨hg.os.trans h.bl.os,hg.tape.trans h.bl.tape,hg.output.trans h.bl.output,by simp;have:=h.bl.size;omega,fun b hb=>?_⟩
  rw [Below.heap_setCell _ _ _ b (fun e=>by have e:b=sb:=e;have:=h.hs;omega),hk b (nL hb h.bl.size) (fun e=>by have:=(h.own.lt b e.symm).1;omega)]
  exact h.bl.block b hb
 ·refine ⟨hg.os,hg.tape,hg.output,by simp;omega,fun b hb h1 h2 h3=>?_⟩
  rw [Below.heap_setCell _ _ _ b (fun e=>h2 e)]
  exact hk b hb h3
theorem RF.drewLB{fb rb:Nat}{row:Option Nat}{w w':World}(h:RF fb rb row w.drew w'):RF fb rb row w w':=⟨h.os,h.tape,h.output,h.size,h.block⟩
def PBB(bx:Nat)(p:Pl)(W:World):Prop:=W.cell? ⟨bx,0,none⟩=some (.int .i64 (p.1:Int))∧W.cell? ⟨bx,1,none⟩=some (.int .i64 (p.2.1:Int))∧W.cell? ⟨bx,2,none⟩=some (.bool p.2.2)
theorem PBB.keep{bx:Nat}{p:Pl}{W W':World}(h:PBB bx p W)(hb:∀o,W'.cell? ⟨bx,o,none⟩=W.cell? ⟨bx,o,none⟩):PBB bx p W':=⟨(hb 0).trans h.1,(hb 1).trans h.2.1,(hb 2).trans h.2.2⟩
theorem stepUpdB{P:Program}{w w':World}{ops:Array Oper}{o:Oper}{a:Act}{K:Act→World→Prop}{Q:Exit→Act→World→Prop}{E:Prop}(hgd:o.guard=none)(m x y:Operand)(t:TypeId)(ho:o.op=Op.mapUpdate t m x y∨o.op=Op.insert t m x y){mv key v:Value}
  (hm:a.eval m=mv) (hx:a.eval x=key) (hy:a.eval y=v) (hrun:(Instr.mapUpdate t mv key v).run P w = .ok () w') (h:K (a.put o.dst undef) w'):if Region.wanted o (yielded ops a.tmps)=true then Oper.wp P o a w K Q else E:=by
 have hw:Region.wanted o (yielded ops a.tmps)=true:=by simp [Region.wanted,hgd]
 rw [if_pos hw];unfold Oper.wp;rcases ho with ho|ho <;> (simp [execOp,ho,hm,hx,hy,hrun,Result.andThen];exact h)
end Go.Proofs.YtmamabhhgfcjcaaGreatDoor
