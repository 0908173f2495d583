/-
  Plain mathematics: what a Join and a Meet come to is the same both ways round; of a graph with itself no more than twice its nodes are left.
-/
import Derived.Test.YtnedgkcejlhnbaaGreatDoorSz
import Derived.Test.YtnedgkcejlhnbaaGreatDoorZu
import Derived.Test.YtnedgkcejlhnbaaGreatDoorZy
import Derived.Test.YtnedgkcejlhnbaaGreatDoorIi
set_option maxRecDepth 100000
set_option maxHeartbeats 4000000
namespace Go.Proofs.YtnedgkcejlhnbaaGreatDoor
open Go.RowKit Go.Shelf
theorem labs_le6{n:Nd}(on:okN n):n.labs.length≤6:=(shp_len (okN_shp on)).1
theorem wrd_le{n:Nd}(on:okN n):(wrd n.kind n.labs).length≤6:=by
 unfold wrd;split
 ·decide
 ·split
  ·decide
  ·exact labs_le6 on
theorem steps_self_len(n:Nd)(t:Bool):(stepsP n n t).length=(wrd n.kind n.labs).length:=by rw [← words_alone n t,List.length_map]
theorem steps_le6{m n:Nd}(om:okN m)(t:Bool):(stepsP m n t).length≤6:=by
 by_cases h0:m.labs.length=0
 ·unfold stepsP
  split
  ·simp
  ·split
   ·simp
   ·rw [h0];simp
 ·have h:=both_sub (n:=n) om t
  unfold bothD at h;simp only [if_neg h0]at h;have h1:=h.length_le;rw [List.length_map]at h1;have:=labs_le6 om;omega
def fitD(d:Dr):Prop:=d.nxt.length≤6∧(-1≤d.spare∧d.spare≤6)∧(d.labs=[]∨d.labs.length=d.nxt.length)
theorem fit_X:fitD drX:=⟨by decide,by decide,.inl rfl⟩
theorem fit_alo{n:Nd}(on:okN n)(t:Bool)(z:Stp→Pz):fitD (aloD n t z):=by
 unfold fitD aloD;simp only [List.length_map,steps_self_len];refine ⟨wrd_le on,by decide,?_⟩
 rcases okN_cases on with ⟨_,_,b,_⟩|⟨_,_,b,_⟩|⟨_,_,b,_⟩|⟨a,_⟩
 ·exact .inl b
 ·exact .inl b
 ·exact .inl b
 ·unfold wrd
  rw [if_neg (by omega),if_neg (by omega)]
  exact .inr rfl
theorem dr_fit{g h:List Nd}(hg:GN g)(hh:GN h){p:Pz}(o:okZ g h p):fitD (drP g h p):=by
 unfold drP;by_cases h2:p.2.1 = -1
 ·have h1:p.1≠-1:=by
   obtain ⟨σ,hσ⟩:=o.2;cases σ
   ·exact hσ
   ·exact absurd h2 hσ
  rw [if_pos h2];exact fit_alo (o.nd hg hh (σ:=false) h1) _ _
 ·rw [if_neg h2]
  by_cases h1:p.1 = -1
  ·rw [if_pos h1]
   exact fit_alo (o.nd hg hh (σ:=true) h2) _ _
  ·rw [if_neg h1]
   have om:okN (nodeAt g p.1.toNat):=o.nd hg hh (σ:=false) h1;unfold drMN;split
   ·exact fit_X
   ·split
    ·unfold eithD
     split
     ·exact fit_X
     ·rename_i h6
      unfold fitD;simp only [List.length_map];exact ⟨by omega,by decide,.inr trivial⟩
    ·have h3:=steps_le6 (n:=nodeAt h p.2.1.toNat) om p.2.2
     unfold bothD fitD;simp only [List.length_map];by_cases q:(nodeAt g p.1.toNat).labs.length=0
     ·simp only [if_pos q]
      exact ⟨h3,by decide,.inl trivial⟩
     ·simp only [if_neg q,List.length_map]
      exact ⟨h3,⟨by omega,by omega⟩,.inr trivial⟩
theorem okZ_zero{g h:List Nd}(hg:GN g)(hh:GN h)(t:Bool):okZ g h (0,0,t):=by
 refine ⟨fun σ => .inr ?_,false,by show (0:Int)≠-1;decide⟩
 cases σ
 ·exact ⟨by show (0:Int)≤0;decide,hg.pos⟩
 ·exact ⟨by show (0:Int)≤0;decide,hh.pos⟩
theorem DI.small{g h:List Nd}(hg:GN g)(hh:GN h){p0:Pz}{ps:List Pz}{m:Nat}(D:DI g h p0 ps m):ps.length≤80802:=by
 have h1:=D.len;have h2:(g.length+1)*(h.length+1)≤201*201:=Nat.mul_le_mul (by have:=hg.le;omega) (by have:=hh.le;omega)
 omega
section
variable {g h:List Nd} {w0:World} {db mb:Nat} {ca cb:Value} {p0:Pz} {ps:List Pz} {ts:List Dk} {u ud:Value} {W:World}
theorem BL.full(L:BL g h w0 db mb ca cb p0 ps ts u ud W)(he:ts.length=ps.length):ts.map (·.nd)=ps.map (ndZ g h ps)∧ts.map (·.sp)=ps.map fun p=>(drP g h p).spare:=by
 have h1:=L.nd;have h2:=L.sp;rw [he,List.take_length]at h1 h2;exact ⟨h1,h2⟩
theorem BL.dn(L:BL g h w0 db mb ca cb p0 ps ts u ud W)(he:ts.length=ps.length):DI g h p0 ps ps.length:=by
 have:=L.di;rw [he]at this;exact this
theorem BL.fit(hg:GN g)(hh:GN h)(L:BL g h w0 db mb ca cb p0 ps ts u ud W)(he:ts.length=ps.length):∀q∈ts,q.nd.to.length≤6∧(∀x∈q.nd.to,x<ts.length)∧(-1≤q.sp∧q.sp≤6)∧(q.nd.labs=[]∨q.nd.labs.length=q.nd.to.length):=fun q hq=>by
 obtain ⟨k,hk,rfl⟩:=List.mem_iff_getElem.1 hq;obtain ⟨f1,f2⟩:=L.full he;have hkp:k<ps.length:=by omega
 have e1:ts[k].nd=ndZ g h ps ps[k]:=by
  have:(ts.map (·.nd))[k]? = (ps.map (ndZ g h ps))[k]?:=by rw [f1]
  rw [List.getElem?_map,List.getElem?_map,List.getElem?_eq_getElem hk,List.getElem?_eq_getElem hkp]at this;exact Option.some.inj this
 have e2:ts[k].sp=(drP g h ps[k]).spare:=by
  have:(ts.map (·.sp))[k]? = (ps.map fun p=>(drP g h p).spare)[k]?:=by rw [f2]
  rw [List.getElem?_map,List.getElem?_map,List.getElem?_eq_getElem hk,List.getElem?_eq_getElem hkp]at this;exact Option.some.inj this
 obtain ⟨c1,c2,c3⟩:=dr_fit hg hh ((L.dn he).ok _ (List.getElem_mem hkp));have e3:(ndZ g h ps ps[k]).to.length=(drP g h ps[k]).nxt.length:=by unfold ndZ tosZ;simp
 rw [e1,e2,e3];refine ⟨c1,fun x hx=>?_,c2,c3⟩
 obtain ⟨r,hr,rfl⟩:=List.mem_map.1 (show x∈(drP g h ps[k]).nxt.map (fun q=>ps.idxOf q) from hx)
 rw [he];exact List.idxOf_lt_length_of_mem ((L.dn he).sh k hkp hkp r hr)
theorem BL.gs(L:BL g h w0 db mb ca cb p0 ps ts u ud W)(hn:0<ts.length):∃gd cap,ud = .slice (some ⟨gd,0,none⟩) ts.length cap∧w0.heap.size≤gd∧GS W db gd cap ts (tsS ts) (fun _=>.slice none 0 0) (fun _=>[]) (.slice none 0 0) [] W:=by
 rcases own_cells L.own with ⟨_,h0,_⟩|⟨gd,cap,hud,hgB,hgl,hc⟩
 ·omega
 have fz:∀j,W.frozen? ⟨gd,j,none⟩=false:=by
  obtain ⟨_,q|⟨g',cap',cur,e,_,hg',_⟩⟩:=L.own
  ·rw [hud]at q;cases q.1
  ·rw [hud]at e
   injection e with e1
   injection e1 with e1
   injection e1 with e1
   subst e1;intro j;unfold World.frozen?;rw [hg'];simp
 have hnil:∀b:Nat,(Value.slice none 0 0).ownBlock=some b→False:=fun b e=>by cases e
 refine ⟨gd,cap,hud,hgB,⟨by rw [← hud];exact L.z.c4,fun k hk j y hj hy=>hc _ _ (by rw [dCs_at ts k hk j (by omega)];exact hy),fun k hk=>hc _ _ (by rw [dCs_at ts k hk 4 (by omega),tsS_at hk];rfl),fun k hk=>hc _ _ (by rw [dCs_at ts k hk 5 (by omega),← L.nb _ (List.getElem_mem hk)];rfl),fz,fun k hk=>World.ownsRow_nil _ _ _ _,fun k x _ _ _ j e=>(hnil j e).elim,World.ownsRow_nil _ _ _ _,fun k _ j e=>(hnil j e).elim,fun _ _ _=>rfl,hgl,fun e=>(L.ne gd (by rw [hud];rfl)).1 e.symm,L.z.ls,Nat.le_refl _,rfl,rfl,rfl⟩⟩
theorem LW.of(hg:GN g)(hh:GN h)(L:BL g h w0 db mb ca cb p0 ps ts u ud W)(he:ts.length=ps.length)(hn:0<ts.length){gd cap:Nat}(hud:ud = .slice (some ⟨gd,0,none⟩) ts.length cap){sp:List Int}{nb:Nat→Value}{nl:Nat→List Nat}{gv:Value}{gone:List Nat}{W':World}(G:GS W db gd cap ts sp nb nl gv gone W')(ha:alK sp 0=true):LW W' db gd cap ts sp:=by
 have F:=L.fit hg hh he;refine ⟨G.c4,G.row,G.r4,fun k hk=>?_,Nat.lt_of_lt_of_le G.dl G.sz,Nat.lt_of_lt_of_le G.gl G.sz,L.ok.keep (fun b o hp=>World.cell?_of_block (a:=⟨b,o,none⟩) (G.fr b hp.1 (fun e=>hp.2.2.2.2 (by rw [hud,e];rfl)))) (fun b hp=>Nat.lt_of_lt_of_le hp.1 G.sz),fun q hq=>(F q hq).2.1,fun q hq=>(F q hq).1,fun q hq=>(F q hq).2.2.2,hn,by have:=L.di.small hg hh;omega,ha⟩
 obtain ⟨a,c,e⟩:=sliceH_own (G.no k hk);exact ⟨a,_,c,by rw [← e];exact G.r5 k hk⟩
theorem BL.plain{t:Bool}(L:BL g h w0 db mb ca cb (0,0,t) ps ts u ud W)(he:ts.length=ps.length){sp:List Int}(E:GE (tsT ts) (tsS ts) sp):BND g h (0,0,t) ps (alZ ps sp)∧alZ ps sp (0,0,t)=alK sp 0∧∀R,RI (ts.map (·.nd)) sp R R.length→RCH g h (0,0,t) ps (alZ ps sp) (R.map (atZ ps (0,0,t)))∧R.map (fun x=>lfK sp R (nodeAt (ts.map (·.nd)) x))=lfG g h (alZ ps sp) (R.map (atZ ps (0,0,t))):=by
 obtain ⟨f1,f2⟩:=L.full he;have D:=L.dn he;have e1:tsT ts=ps.map (tosZ g h ps):=by
  have:(ts.map (·.nd)).map (·.to)=(ps.map (ndZ g h ps)).map (·.to):=by rw [f1]
  rw [List.map_map,List.map_map]at this;exact this
 have e2:tsS ts=ps.map fun p=>(drP g h p).spare:=f2
 rw [e1,e2]at E;refine ⟨bnd_of D E,?_,fun R hR=>?_⟩
 ·have h0:=D.hd
  obtain ⟨hl,e0⟩:=List.getElem?_eq_some_iff.1 h0;unfold alZ alK;rw [← e0,idx_of_at D.nd hl]
 ·rw [f1]at hR ⊢
  exact left_graph D hR
end
theorem ZW.start(w:World)(ca cb:Value):ZW w (w.heap.size+1) w.heap.size ca cb (.slice none 0 0) [] (.slice none 0 0) ((w.alloc (.map #[] 0)).alloc (.cells #[ca,cb,.map (some w.heap.size),.slice none 0 0,.slice none 0 0] 50)):=by
 have hs:(w.alloc (.map #[] 0)).heap.size=w.heap.size+1:=by simp
 refine ⟨by go_cell,by go_cell,by go_cell,by go_cell,by go_cell,by go_simp,by go_simp,(MPZ.new w).blk (heap_alloc_old _ _ (by omega)),World.ownsRow_nil _ _ _ _,by omega,by omega,Nat.le_refl _,(by intro e;cases e),(by intro e;cases e),by simp,((Below.refl _ _).alloc (Nat.le_refl _) _).alloc (by omega) _⟩
theorem BL.start{g h:List Nd}(hg:GN g)(hh:GN h){t:Bool}{w W:World}{db mb:Nat}{ca cb u:Value}(hz:ZW w db mb ca cb (.slice none 0 0) [(0,0,t)] u W):BL g h w db mb ca cb (0,0,t) [(0,0,t)] [] u (.slice none 0 0) W:=by
 refine ⟨hz,⟨rfl,by simp,fun p hp=>by rw [List.mem_singleton]at hp;rw [hp];exact okZ_zero hg hh t,by simp,fun k _ hk=>by simp at hk⟩,World.ownsRow_nil _ _ _ _,fun j e=>(by cases e),fun q hq=>(by cases hq),rfl,rfl,fun q hq=>(by cases hq)⟩
theorem toAt_cellA{W:World}{B:Nat}{n:Nd}{at1:OAd}(h:NI W B n.to at1){i:Nat}(hi:i<n.to.length):∃b o,at1=some ⟨b,o,none⟩∧b<B∧W.cell? ⟨b,o+i,none⟩=some (.int .i64 (toAt n i:Int)):=by
 obtain ⟨b,o,rfl,hb,hc⟩:=h.resolve_left (fun q=>by have:=congrArg List.length q;simp at this;rw [this]at hi;simp at hi)
 refine ⟨b,o,rfl,hb,?_⟩;rw [hc i (by simpa using hi),List.getElem_map]
 unfold toAt;rw [List.getElem?_eq_getElem hi];rfl
theorem infoTyp:(Tryz.prog.info? 25).map (fun i=>(i.zero,i.size,i.bytes))=some (some (.agg #[.int .i64 0,.int .i64 0,.string ⟨#[]⟩,.slice none 0 0,.slice none 0 0]),5,80):=by kernel_rfl
def eC:List Value:=[.int .i64 1,.int .i64 0,.string ⟨#[]⟩,.slice none 0 0,.slice none 0 0]
def eCs1:Nat→List Value
 | 0=>[]
 | k+1=>eCs1 k++eC
theorem eCs1_len:∀k,(eCs1 k).length=k*5
 | 0=>rfl
 | k+1=>by rw [eCs1,List.length_append,eCs1_len k];show k*5+5=_;omega
theorem eCs1_at:∀(k i:Nat),i<k→∀j,j<5→(eCs1 k)[i*5+j]? = eC[j]?
 | 0,_,h,_,_=>by omega
 | k+1,i,h,j,hj=>by
  rw [eCs1];by_cases hi:i<k
  ·rw [List.getElem?_append_left (by rw [eCs1_len];omega)]
   exact eCs1_at k i hi j hj
  ·obtain rfl:i=k:=by omega
   rw [List.getElem?_append_right (by rw [eCs1_len];omega),eCs1_len,Nat.add_sub_cancel_left]
def nTy(n:Nd)(k:Nat):Ty:=⟨n.kind,n.so,⟨#[]⟩,n.labs,List.replicate k endT⟩
theorem map_rep(l:List Nat):(l.map fun _=>endT)=List.replicate l.length endT:=by
 induction l with
 | nil=>rfl
 | cons a l ih=>rw [List.map_cons,ih];rfl
theorem ends_chk(ar:List ByteArray):∀(k c:Nat),k+c≤60→(chkTL ar (List.replicate k endT) (0,c)).1=0
 | 0,_,_=>rfl
 | k+1,c,h=>by
  have hp:partT endT=true:=by unfold partT endT;simp
  have e:chkT endT ar c=(0,c+1):=by
   rw [chkT_eq,if_neg (by omega),hp,if_neg (by decide),if_neg (by rintro ⟨h,_⟩;exact absurd h (by decide)),if_neg (by rintro ⟨h,_⟩;exact absurd h (by decide))]
   rfl
  rw [List.replicate_succ,chkTL_cons,if_neg (by simp),e]
  exact ends_chk ar k (c+1) (by omega)
theorem node_chk{n:Nd}(h:okN n):chkTy (nTy n n.to.length)=0:=by
 have h6:=(shp_len (okN_shp h)).2.1;have hc:=okN_cases h;unfold okN at h;rw [map_rep]at h;unfold chkTy;rw [chkT_eq,if_neg (by decide)]
 have hp:partT (nTy n n.to.length)=true:=h;have hk:(nTy n n.to.length).kind=n.kind:=rfl;rw [hp,if_neg (by decide),hk,if_neg (by omega),if_neg (by omega),if_neg (by omega)]
 exact ends_chk _ n.to.length (0+1) (by omega)
structure PN(w:World)(n:Nd)(a1:OAd)(c1 k:Nat)(u:Value)(W:World):Prop where
 p0:W.cell? ⟨w.heap.size+1,0,none⟩=some (.int .i64 n.kind)
 p1:W.cell? ⟨w.heap.size+1,1,none⟩=some (.int .i64 n.so)
 p2:W.cell? ⟨w.heap.size+1,2,none⟩=some (.string ⟨#[]⟩)
 p3:W.cell? ⟨w.heap.size+1,3,none⟩=some (.slice a1 n.labs.length c1)
 p4:W.cell? ⟨w.heap.size+1,4,none⟩=some u
 pf:W.frozen? ⟨w.heap.size+1,4,none⟩=false
 own:W.ownsRow (w.heap.size+1+1) 25 5 u k (eCs1 k)
 sz:w.heap.size+1+1≤W.heap.size
 bl:Below w.heap.size w W
theorem PN.app{w W w7:World}{n:Nd}{a1:OAd}{c1 k:Nat}{u v7:Value}{ob:Obj}(h:PN w n a1 c1 k u W)(hg:(W.alloc ob).grownBy w7 u.ownBlock)(hO:w7.ownsRow (w.heap.size+1+1) 25 5 v7 (k+1) (eCs1 k++eC)):PN w n a1 c1 (k+1) v7 (w7.setCell ⟨w.heap.size+1,4,none⟩ v7):=by
 have q:=h.sz;have hlow:∀b,b<w.heap.size+1+1→some b≠u.ownBlock:=fun b hb e=>by have:=(h.own.lt b e.symm).1;omega
 have hs7:W.heap.size+1≤w7.heap.size:=by have:=hg.size;simp at this;omega
 have hblk:∀b,b<w.heap.size+1+1→w7.heap[b]? = W.heap[b]?:=fun b hb=>(hg.block b (by simp;omega) (hlow b hb)).trans (heap_alloc_old W ob (by omega))
 have hc:∀o,w7.cell? ⟨w.heap.size+1,o,none⟩=W.cell? ⟨w.heap.size+1,o,none⟩:=fun o=>World.cell?_of_block (a:=⟨w.heap.size+1,o,none⟩) (hblk (w.heap.size+1) (by omega))
 have hf:∀o,w7.frozen? ⟨w.heap.size+1,o,none⟩=W.frozen? ⟨w.heap.size+1,o,none⟩:=fun o=>World.frozen?_of_block (a:=⟨w.heap.size+1,o,none⟩) (hblk (w.heap.size+1) (by omega))
 have ho:∀o,o≠4→(w7.setCell ⟨w.heap.size+1,4,none⟩ v7).cell? ⟨w.heap.size+1,o,none⟩=W.cell? ⟨w.heap.size+1,o,none⟩:=fun o hn=>(World.cell?_setCell_other _ _ _ _ (by intro e;injection e with _ e;exact hn e.symm)).trans (hc o)
 refine ⟨(ho 0 (by omega)).trans h.p0,(ho 1 (by omega)).trans h.p1,(ho 2 (by omega)).trans h.p2,(ho 3 (by omega)).trans h.p3,World.cell?_setCell_same _ _ _ ((hc 4).trans h.p4),(World.frozen?_setCell _ _ _ _).trans ((hf 4).trans h.pf),own_setB hO (by omega) v7,by simp;omega,?_⟩
 refine ⟨hg.os.trans h.bl.os,hg.tape.trans h.bl.tape,hg.output.trans h.bl.output,by simp;omega,fun b hb=>?_⟩
 rw [Below.heap_setCell _ _ _ b (fun e=>by have e:b=w.heap.size+1:=e;omega),hblk b (by omega)]
 exact h.bl.block b hb
theorem PN.kt{w W:World}{n:Nd}{a1:OAd}{c1 k:Nat}{u:Value}(h:PN w n a1 c1 k u W):∃ak ck,u = .slice ak k ck∧KT W W.heap.size 1 (List.replicate k endT) ak:=by
 rcases own_cells h.own with ⟨rfl,h0,_⟩|⟨g,cap,rfl,_,hg,hc⟩
 ·subst h0;exact ⟨none,0,rfl,.inl rfl⟩
 ·refine ⟨_,_,rfl,.inr ⟨g,0,rfl,hg,fun i hi=>?_⟩⟩
  have hi':i<k:=by simpa using hi
  have e:(List.replicate k endT)[i]=endT:=by simp
  rw [e,Nat.zero_add];exact ⟨none,0,none,0,⟨hc (i*5+0) _ ((eCs1_at k i hi' 0 (by omega)).trans rfl),hc _ _ ((eCs1_at k i hi' 1 (by omega)).trans rfl),hc _ _ ((eCs1_at k i hi' 2 (by omega)).trans rfl),hc _ _ ((eCs1_at k i hi' 3 (by omega)).trans rfl),hc _ _ ((eCs1_at k i hi' 4 (by omega)).trans rfl)⟩,⟨by decide,fun l hl=>(by cases hl),by decide,by decide,by decide,by decide⟩,.inl rfl,rfl⟩
theorem isNode_any(n:Nd)(N:Nat)(a1 a2:OAd)(c1 c2 B:Nat)(w:World)(h1:LA w B n.labs a1)(h2:NI w B n.to a2)(hB:B≤w.heap.size)(hn:okN n)(ht:∀t∈n.to,t<N):
  Calls Tryz.prog 35 #[ndVal n a1 c1 a2 c2,.int .i64 (N:Int)] w fun e w'=>e = .returned (.bool true)∧Below w.heap.size w w':=by
 obtain ⟨i1,hj,hy0,hy1,hy2⟩:=info_parts infoTyp;have h6:=(shp_len (okN_shp hn)).2.1;have h6l:=(shp_len (okN_shp hn)).1;have h6z:(n.to.length:Int)≤6:=by omega
 have b0:NdAt (w.alloc (.cells #[.int .i64 n.kind,.int .i64 n.so,.slice a1 n.labs.length c1,.slice a2 n.to.length c2] 56)) w.heap.size 0 n a1 c1 a2 c2:=⟨by go_cell,by go_cell,by go_cell,by go_cell⟩
 obtain ⟨x0,x1,x2,x3⟩:=b0;simp only [Nat.zero_add]at x1 x2 x3;have P0:=hideK (show PN w n a1 c1 0 (.slice none 0 0) ((w.alloc (.cells #[.int .i64 n.kind,.int .i64 n.so,.slice a1 n.labs.length c1,.slice a2 n.to.length c2] 56)).alloc (.cells #[.int .i64 n.kind,.int .i64 n.so,.string ⟨#[]⟩,.slice a1 n.labs.length c1,.slice none 0 0] 25)) from
  ⟨by go_cell,by go_cell,by go_cell,by go_cell,by go_cell,by go_simp,World.ownsRow_nil _ _ _ _,by simp,((Below.refl _ _).alloc (Nat.le_refl _) _).alloc (by simp) _⟩)
 have H2:=hideK h2;have H1:=hideK h1;have HT:=hideK ht;have HCK:=hideK (node_chk hn);have HLB:=hideK (show ∀l∈n.labs,l.size≤9223372036854775807 from fun l hl=>by have:=((okN_shp hn).2.1 l hl).2;omega)
 simp only [ndVal];clear h1 h2 ht hn;go_enter Tryz.func35,Tryz.ntmps35
 go_wp2_with fail
 go_loopw [22] (fun i wr=>∃(k:Nat) (u:Value),k≤n.to.length∧i = .int .i64 (k:Int)∧PN w n a1 c1 k u wr) (fun i _=>n.to.length - (intOf i).toNat)
 case atStart=>exact ⟨0,_,Nat.zero_le _,rfl,P0.out⟩
 case round =>
  obtain ⟨k,u,hk,rfl,hP⟩:=hrel;clear P0 x0 x1 x2 x3;by_cases hlt:k<n.to.length
  ·have hltz:(k:Int)<(n.to.length:Int):=by omega
   obtain ⟨tb,tof,rfl,htb,d0⟩:=toAt_cellA (H2.out.keep (hP.bl.mono hB)) hlt;have htN:toAt n k<N:=by
    unfold toAt;rw [List.getElem?_eq_getElem hlt];exact HT.out _ (List.getElem_mem hlt)
   generalize toAt n k=tv at *;have ht1:¬((tv:Int)<0):=by omega
   have ht2:(tv:Int)<(N:Int):=by omega
   have ht3:¬((tv:Int) ≥ (N:Int)):=by omega
   have p4:=hP.p4;have LR:=hideK (World.ownsRow_lit (base:=w.heap.size+1+1) (e:=25) (size:=5) wr #[.int .i64 1,.int .i64 0,.string ⟨#[]⟩,.slice none 0 0,.slice none 0 0] 1 hP.sz (by decide) rfl)
   have OA:=hideK (own_belowG hP.own ((Below.refl _ _).alloc (Nat.le_refl _) (.cells #[.int .i64 1,.int .i64 0,.string ⟨#[]⟩,.slice none 0 0,.slice none 0 0] 25)));have HP:=hideK hP;have hsz:=hP.sz;have HAPP:=hideK (fun (w7:World) (v7:Value) (hg:(wr.alloc (.cells #[.int .i64 1,.int .i64 0,.string ⟨#[]⟩,.slice none 0 0,.slice none 0 0] 25)).grownBy w7 u.ownBlock) (hO:w7.ownsRow (w.heap.size+1+1) 25 5 v7 (k+1) (eCs1 k++eC))=>hP.app (v7:=v7) hg hO)
   have HLOW:=hideK (show ∀b,b<w.heap.size+1+1→some b≠u.ownBlock from fun b hb e=>by have:=(hP.own.lt b e.symm).1;omega)
   obtain ⟨ua,uc,rfl⟩:=sliceH_own hP.own;clear hP;go_wp2_with (at_builtin;refine wpList_append_rows _ rfl (.tmp 34) (.tmp 36) 23 rfl (w.heap.size+1+1) (w.heap.size+1+1) 25 i1 _ 5 80 Tryz.underlying23 hj hy0 hy1 hy2 rfl (by decide) _ _ _ rfl OA.out _ _ _ rfl LR.out (by simp [Value.oneCell']) (by unfold maxLen;omega) (by omega) (by simp;omega) ?_;intro v7 w7 hO7 hg7 hat7;have pc7:=(World.cell?_of_block (a:=⟨w.heap.size+1,4,none⟩) (hg7.block (w.heap.size+1) (by simp;omega) (HLOW.out _ (by omega)))).trans ((World.cell?_of_block (a:=⟨w.heap.size+1,4,none⟩) (heap_alloc_old wr _ (by show w.heap.size+1<_;omega))).trans HP.out.p4);have pf7:=(World.frozen?_of_block (a:=⟨w.heap.size+1,4,none⟩) (hg7.block (w.heap.size+1) (by simp;omega) (HLOW.out _ (by omega)))).trans ((World.frozen?_of_block (a:=⟨w.heap.size+1,4,none⟩) (heap_alloc_old wr _ (by show w.heap.size+1<_;omega))).trans HP.out.pf);have HP7:=hideK (HAPP.out w7 v7 hg7 hO7);obtain ⟨va,vc,rfl⟩:=sliceH_own hO7;clear hO7 hg7 hat7)
   go_roundw
   case rel=>exact ⟨k+1,_,by omega,by go_num,HP7.out⟩
   case measure=>simp [intOf];omega
  ·have hltz:¬(k:Int)<(n.to.length:Int):=by omega
   have hkl:k=n.to.length:=by omega
   subst hkl;obtain ⟨ak,ck,rfl,hkt⟩:=hP.kt;have cC:=typesCheck_w 1 (nTy n n.to.length) a1 c1 ak ck wr ⟨by show (0:Nat)≤_;omega,HLB.out,by show n.labs.length≤_;omega,by show (List.replicate n.to.length endT).length≤_;rw [List.length_replicate];omega⟩ ((H1.out.keep (hP.bl.mono hB)).mono (Nat.le_trans hB hP.bl.size)) hkt
   rw [HCK.out]at cC;have q0:=hP.p0;have q1:=hP.p1;have q2:=hP.p2;have q3:=hP.p3;have q4:=hP.p4;have HB:=hideK hP.bl;simp only [tyVal,nTy,List.length_replicate]at cC;clear hP hkt;go_wp2_with fail
   refine cC.mono ?_;rintro e w2 ⟨rfl,hb2⟩;have HB2:=hideK (HB.out.trans (hb2.mono HB.out.size));clear cC hb2 q0 q1 q2 q3 q4;go_wp2_with fail
   go_ret
   exact ⟨rfl,HB2.out⟩
theorem checkG_any(g:List Nd)(ag:OAd)(cg B:Nat)(w:World)(hg:GN g)(hga:GAt w B g ag)(hB:B≤w.heap.size):
  Calls Tryz.prog 18 #[.slice ag g.length cg] w fun e w'=>e = .returned (.int .i64 0)∧Below w.heap.size w w':=by
 have hl:=hg.le;have hp:=hg.pos;have hz0:((g.length:Int)==0)=false:=by rw [beq_eq_false_iff_ne];omega
 have hz1:¬((g.length:Int) > 200):=by omega
 have hz2:(g.length:Int)≤200:=by omega
 obtain ⟨gb,go,rfl,hgB,hgc⟩:=hga.resolve_left (fun q=>by rw [q]at hp;simp at hp)
 have HGC:=hideK hgc;have HG:=hideK hg;clear hga hgc hg;go_enter Tryz.func18,Tryz.ntmps18
 go_wp2_with fail
 go_loopw [15] (fun i wr=>∃k:Nat,k≤g.length∧i = .int .i64 (k:Int)∧Below w.heap.size w wr) (fun i _=>g.length - (intOf i).toNat)
 case atStart=>exact ⟨0,Nat.zero_le _,rfl,Below.refl _ _⟩
 case round =>
  obtain ⟨k,hk,rfl,hb⟩:=hrel;by_cases hlt:k<g.length
  ·have hltz:(k:Int)<(g.length:Int):=by omega
   obtain ⟨a1,c1,a2,c2,hN,hL,hT⟩:=HGC.out k hlt;have hbB:=hb.mono hB;obtain ⟨m0,m1,m2,m3⟩:=hN.keep hbB hgB;have hA:=hb.alloc hb.size (.cells #[.int .i64 g[k].kind,.int .i64 g[k].so,.slice a1 g[k].labs.length c1,.slice a2 g[k].to.length c2] 56);have c:=isNode_any g[k] g.length a1 a2 c1 c2 B (wr.alloc (.cells #[.int .i64 g[k].kind,.int .i64 g[k].so,.slice a1 g[k].labs.length c1,.slice a2 g[k].to.length c2] 56)) (hL.keep (hA.mono hB)) (hT.keep (hA.mono hB)) (Nat.le_trans hB hA.size) (HG.out.ok _ (List.getElem_mem hlt)) (fun t ht=>HG.out.shut _ (List.getElem_mem hlt) t ht)
   simp only [ndVal]at c;have HA:=hideK hA;clear hN hL hT hbB hb hA;generalize g[k]=n at *;go_wp2_with fail
   refine c.mono ?_;rintro e w1 ⟨rfl,hb1⟩;have HB1:=hideK (HA.out.trans (hb1.mono HA.out.size));clear c hb1 m0 m1 m2 m3;go_wp2_with fail
   go_roundw
   case rel=>exact ⟨k+1,by omega,by go_num,HB1.out⟩
   case measure=>simp [intOf];omega
  ·have hltz:¬(k:Int)<(g.length:Int):=by omega
   go_wp2_with fail
   go_ret
   exact ⟨rfl,hb⟩
theorem leastK_any(g:List Nd)(ag:OAd)(cg B:Nat)(w:World)(hg:GN g)(hga:GAt w B g ag)(hB:B≤w.heap.size):
  Calls Tryz.prog 16 #[.slice ag g.length cg] w fun e w'=>(∃c,CLS g c∧∃ao co,e = .returned (.tuple #[.slice ao (leastG g c).length co,.int .i64 0])∧GAK w' w'.heap.size (leastG g c) ao)∧Below w.heap.size w w':=by
 have c1:=checkG_any g ag cg B w hg hga hB;have CL:=hideK (fun (W:World) (hb:Below w.heap.size w W)=>least_loopK g ag cg B W hg.gr (hga.keep (hb.mono hB)) (Nat.le_trans hB hb.size))
 clear hga hg;go_enter Tryz.func16,Tryz.ntmps16
 go_wp2_with fail
 refine c1.mono ?_;rintro e w1 ⟨rfl,hb1⟩;have cL:=CL.out w1 hb1;have HB:=hideK hb1;clear c1 CL hb1;go_wp2_with fail
 refine cL.mono ?_;rintro e w2 ⟨⟨c,hc,ao,co,rfl,hg2⟩,hb2⟩;have HC:=hideK hc;have HG2:=hideK hg2;have HB2:=hideK (HB.out.trans (hb2.mono HB.out.size));clear cL hc hg2 hb2;go_wp2_with fail
 go_ret2
 exact ⟨⟨c,HC.out,_,_,rfl,HG2.out⟩,HB2.out⟩
theorem leastG_any(g:List Nd)(ag:OAd)(cg B:Nat)(w:World)(hg:GN g)(hga:GAt w B g ag)(hB:B≤w.heap.size):
  Calls Tryz.prog 16 #[.slice ag g.length cg] w fun e w'=>(∃c,CLS g c∧∃ao co,e = .returned (.tuple #[.slice ao (leastG g c).length co,.int .i64 0])∧GAt w' w'.heap.size (leastG g c) ao)∧Below w.heap.size w w' :=
 (leastK_any g ag cg B w hg hga hB).mono fun _ _ ⟨⟨c,hc,ao,co,e,h⟩,hb⟩=>⟨⟨c,hc,ao,co,e,h.gat⟩,hb⟩
end Go.Proofs.YtnedgkcejlhnbaaGreatDoor
