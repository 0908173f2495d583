/-
  The contracts of graph.isNode, graph.Check and graph.Least, for graphs that Check lets by.
-/
import Derived.Test.YtmamabhhgfcjcaaGreatDoorUp
set_option maxRecDepth 100000
set_option maxHeartbeats 8000000
namespace Go.Proofs.YtmamabhhgfcjcaaGreatDoor
open Go.RowKit Go.Shelf
theorem toAt_cellA{W:World}{B:Nat}{n:Nd}{at1:OAd}(h:NI W B n.to at1){i:Nat}(hi:i<n.to.length):∃b o,at1=some ⟨b,o,none⟩∧b<B∧W.cell? ⟨b,o+i,none⟩=some (.int .i64 (toAt n i:Int)):=by
 obtain ⟨b,o,rfl,hb,hc⟩:=h.resolve_left (fun q=>by have:=congrArg List.length q;simp at this;rw [this]at hi;simp at hi)
 refine ⟨b,o,rfl,hb,?_⟩;rw [hc i (by simpa using hi),List.getElem_map]
 unfold toAt;rw [List.getElem?_eq_getElem hi];rfl
theorem infoTyp:(Tryz.prog.info? 37).map (fun i=>(i.zero,i.size,i.bytes))=some (some (.agg #[.int .i64 0,.int .i64 0,.string ⟨#[]⟩,.slice none 0 0,.slice none 0 0]),5,80):=by kernel_rfl
def eC:List Value:=[.int .i64 1,.int .i64 0,.string ⟨#[]⟩,.slice none 0 0,.slice none 0 0]
def eCs1:Nat→List Value
 | 0=>[]
 | k+1=>eCs1 k++eC
theorem eCs1_len:∀k,(eCs1 k).length=k*5
 | 0=>rfl
 | k+1=>by rw [eCs1,List.length_append,eCs1_len k];show k*5+5=_;omega
theorem eCs1_at:∀(k i:Nat),i<k→∀j,j<5→(eCs1 k)[i*5+j]? = eC[j]?
 | 0,_,h,_,_=>by omega
 | k+1,i,h,j,hj=>by
  rw [eCs1];by_cases hi:i<k
  ·rw [List.getElem?_append_left (by rw [eCs1_len];omega)]
   exact eCs1_at k i hi j hj
  ·obtain rfl:i=k:=by omega
   rw [List.getElem?_append_right (by rw [eCs1_len];omega),eCs1_len,Nat.add_sub_cancel_left]
def nTy(n:Nd)(k:Nat):Ty:=⟨n.kind,n.so,⟨#[]⟩,n.labs,List.replicate k endT⟩
theorem map_rep(l:List Nat):(l.map fun _=>endT)=List.replicate l.length endT:=by
 induction l with
 | nil=>rfl
 | cons a l ih=>rw [List.map_cons,ih];rfl
theorem ends_chk(ar:List ByteArray):∀(k c:Nat),k+c≤60→(chkTL ar (List.replicate k endT) (0,c)).1=0
 | 0,_,_=>rfl
 | k+1,c,h=>by
  have hp:partT endT=true:=by unfold partT endT;simp
  have e:chkT endT ar c=(0,c+1):=by
   rw [chkT_eq,if_neg (by omega),hp,if_neg (by decide),if_neg (by rintro ⟨h,_⟩;exact absurd h (by decide)),if_neg (by rintro ⟨h,_⟩;exact absurd h (by decide))]
   rfl
  rw [List.replicate_succ,chkTL_cons,if_neg (by simp),e]
  exact ends_chk ar k (c+1) (by omega)
theorem node_chk{n:Nd}(h:okN n):chkTy (nTy n n.to.length)=0:=by
 have h6:=(shp_len (okN_shp h)).2.1;have hc:=okN_cases h;unfold okN at h;rw [map_rep]at h;unfold chkTy;rw [chkT_eq,if_neg (by decide)]
 have hp:partT (nTy n n.to.length)=true:=h;have hk:(nTy n n.to.length).kind=n.kind:=rfl;rw [hp,if_neg (by decide),hk,if_neg (by omega),if_neg (by omega),if_neg (by omega)]
 exact ends_chk _ n.to.length (0+1) (by omega)
structure PN(w:World)(n:Nd)(a1:OAd)(c1 k:Nat)(u:Value)(W:World):Prop where
 p0:W.cell? ⟨w.heap.size+1,0,none⟩=some (.int .i64 n.kind)
 p1:W.cell? ⟨w.heap.size+1,1,none⟩=some (.int .i64 n.so)
 p2:W.cell? ⟨w.heap.size+1,2,none⟩=some (.string ⟨#[]⟩)
 p3:W.cell? ⟨w.heap.size+1,3,none⟩=some (.slice a1 n.labs.length c1)
 p4:W.cell? ⟨w.heap.size+1,4,none⟩=some u
 pf:W.frozen? ⟨w.heap.size+1,4,none⟩=false
 own:W.ownsRow (w.heap.size+1+1) 37 5 u k (eCs1 k)
 sz:w.heap.size+1+1≤W.heap.size
 bl:Below w.heap.size w W
theorem PN.app{w W w7:World}{n:Nd}{a1:OAd}{c1 k:Nat}{u v7:Value}{ob:Obj}(h:PN w n a1 c1 k u W)(hg:(W.alloc ob).grownBy w7 u.ownBlock)(hO:w7.ownsRow (w.heap.size+1+1) 37 5 v7 (k+1) (eCs1 k++eC)):PN w n a1 c1 (k+1) v7 (w7.setCell ⟨w.heap.size+1,4,none⟩ v7):=by
 have q:=h.sz;have hlow:∀b,b<w.heap.size+1+1→some b≠u.ownBlock:=fun b hb e=>by have:=(h.own.lt b e.symm).1;omega
 have hs7:W.heap.size+1≤w7.heap.size:=by have:=hg.size;simp at this;omega
 have hblk:∀b,b<w.heap.size+1+1→w7.heap[b]? = W.heap[b]?:=fun b hb=>(hg.block b (by simp;omega) (hlow b hb)).trans (heap_alloc_old W ob (by omega))
 have hc:∀o,w7.cell? ⟨w.heap.size+1,o,none⟩=W.cell? ⟨w.heap.size+1,o,none⟩:=fun o=>World.cell?_of_block (a:=⟨w.heap.size+1,o,none⟩) (hblk (w.heap.size+1) (by omega))
 have hf:∀o,w7.frozen? ⟨w.heap.size+1,o,none⟩=W.frozen? ⟨w.heap.size+1,o,none⟩:=fun o=>World.frozen?_of_block (a:=⟨w.heap.size+1,o,none⟩) (hblk (w.heap.size+1) (by omega))
 have ho:∀o,o≠4→(w7.setCell ⟨w.heap.size+1,4,none⟩ v7).cell? ⟨w.heap.size+1,o,none⟩=W.cell? ⟨w.heap.size+1,o,none⟩:=fun o hn=>(World.cell?_setCell_other _ _ _ _ (by intro e;injection e with _ e;exact hn e.symm)).trans (hc o)
 refine ⟨(ho 0 (by omega)).trans h.p0,(ho 1 (by omega)).trans h.p1,(ho 2 (by omega)).trans h.p2,(ho 3 (by omega)).trans h.p3,World.cell?_setCell_same _ _ _ ((hc 4).trans h.p4),(World.frozen?_setCell _ _ _ _).trans ((hf 4).trans h.pf),own_setB hO (by omega) v7,by simp;omega,?_⟩
 refine ⟨hg.os.trans h.bl.os,hg.tape.trans h.bl.tape,hg.output.trans h.bl.output,by simp;omega,fun b hb=>?_⟩
 rw [Below.heap_setCell _ _ _ b (fun e=>by have e:b=w.heap.size+1:=e;omega),hblk b (by omega)]
 exact h.bl.block b hb
theorem PN.kt{w W:World}{n:Nd}{a1:OAd}{c1 k:Nat}{u:Value}(h:PN w n a1 c1 k u W):∃ak ck,u = .slice ak k ck∧KT W W.heap.size 1 (List.replicate k endT) ak:=by
 rcases own_cells h.own with ⟨rfl,h0,_⟩|⟨g,cap,rfl,_,hg,hc⟩
 ·subst h0;exact ⟨none,0,rfl,.inl rfl⟩
 ·refine ⟨_,_,rfl,.inr ⟨g,0,rfl,hg,fun i hi=>?_⟩⟩
  have hi':i<k:=by simpa using hi
  have e:(List.replicate k endT)[i]=endT:=by simp
  rw [e,Nat.zero_add];exact ⟨none,0,none,0,⟨hc (i*5+0) _ ((eCs1_at k i hi' 0 (by omega)).trans rfl),hc _ _ ((eCs1_at k i hi' 1 (by omega)).trans rfl),hc _ _ ((eCs1_at k i hi' 2 (by omega)).trans rfl),hc _ _ ((eCs1_at k i hi' 3 (by omega)).trans rfl),hc _ _ ((eCs1_at k i hi' 4 (by omega)).trans rfl)⟩,⟨by decide,fun l hl=>(by cases hl),by decide,by decide,by decide,by decide⟩,.inl rfl,rfl⟩
theorem isNode_any(n:Nd)(N:Nat)(a1 a2:OAd)(c1 c2 B:Nat)(w:World)(h1:LA w B n.labs a1)(h2:NI w B n.to a2)(hB:B≤w.heap.size)(hn:okN n)(ht:∀t∈n.to,t<N):
  Calls Tryz.prog 88 #[ndVal n a1 c1 a2 c2,.int .i64 (N:Int)] w fun e w'=>e = .returned (.bool true)∧Below w.heap.size w w':=by
 obtain ⟨i1,hj,hy0,hy1,hy2⟩:=info_parts infoTyp;have h6:=(shp_len (okN_shp hn)).2.1;have h6l:=(shp_len (okN_shp hn)).1;have h6z:(n.to.length:Int)≤6:=by omega
 have b0:NdAt (w.alloc (.cells #[.int .i64 n.kind,.int .i64 n.so,.slice a1 n.labs.length c1,.slice a2 n.to.length c2] 102)) w.heap.size 0 n a1 c1 a2 c2:=⟨by go_cell,by go_cell,by go_cell,by go_cell⟩
 obtain ⟨x0,x1,x2,x3⟩:=b0;simp only [Nat.zero_add]at x1 x2 x3;have P0:=hideK (show PN w n a1 c1 0 (.slice none 0 0) ((w.alloc (.cells #[.int .i64 n.kind,.int .i64 n.so,.slice a1 n.labs.length c1,.slice a2 n.to.length c2] 102)).alloc (.cells #[.int .i64 n.kind,.int .i64 n.so,.string ⟨#[]⟩,.slice a1 n.labs.length c1,.slice none 0 0] 37)) from
  ⟨by go_cell,by go_cell,by go_cell,by go_cell,by go_cell,by go_simp,World.ownsRow_nil _ _ _ _,by simp,((bR _ _).alloc (nR _) _).alloc (by simp) _⟩)
 have H2:=hideK h2;have H1:=hideK h1;have HT:=hideK ht;have HCK:=hideK (node_chk hn);have HLB:=hideK (show ∀l∈n.labs,l.size≤9223372036854775807 from fun l hl=>by have:=((okN_shp hn).2.1 l hl).2;omega)
 simp only [ndVal];clear h1 h2 ht hn;go_enter Tryz.func88,Tryz.ntmps88
 go_wp2_with fail
 go_loopw [22] (fun i wr=>∃(k:Nat) (u:Value),k≤n.to.length∧i = .int .i64 (k:Int)∧PN w n a1 c1 k u wr) (fun i _=>n.to.length - (intOf i).toNat)
 case atStart=>exact ⟨0,_,Nat.zero_le _,rfl,P0.out⟩
 case round =>
  obtain ⟨k,u,hk,rfl,hP⟩:=hrel;clear P0 x0 x1 x2 x3;by_cases hlt:k<n.to.length
  ·have hltz:(k:Int)<(n.to.length:Int):=by omega
   obtain ⟨tb,tof,rfl,htb,d0⟩:=toAt_cellA (H2.out.keep (hP.bl.mono hB)) hlt;have htN:toAt n k<N:=by
    unfold toAt;rw [List.getElem?_eq_getElem hlt];exact HT.out _ (List.getElem_mem hlt)
   generalize toAt n k=tv at *;have ht1:¬((tv:Int)<0):=by omega
   have ht2:(tv:Int)<(N:Int):=by omega
   have ht3:¬((tv:Int) ≥ (N:Int)):=by omega
   have p4:=hP.p4;have LR:=hideK (World.ownsRow_lit (base:=w.heap.size+1+1) (e:=37) (size:=5) wr #[.int .i64 1,.int .i64 0,.string ⟨#[]⟩,.slice none 0 0,.slice none 0 0] 1 hP.sz (by decide) rfl)
   have OA:=hideK (own_belowG hP.own ((bR _ _).alloc (nR _) (.cells #[.int .i64 1,.int .i64 0,.string ⟨#[]⟩,.slice none 0 0,.slice none 0 0] 37)));have HP:=hideK hP;have hsz:=hP.sz;have HAPP:=hideK (fun (w7:World) (v7:Value) (hg:(wr.alloc (.cells #[.int .i64 1,.int .i64 0,.string ⟨#[]⟩,.slice none 0 0,.slice none 0 0] 37)).grownBy w7 u.ownBlock) (hO:w7.ownsRow (w.heap.size+1+1) 37 5 v7 (k+1) (eCs1 k++eC))=>hP.app (v7:=v7) hg hO)
   have HLOW:=hideK (show ∀b,b<w.heap.size+1+1→some b≠u.ownBlock from fun b hb e=>by have:=(hP.own.lt b e.symm).1;omega)
   obtain ⟨ua,uc,rfl⟩:=sliceH_own hP.own;clear hP;go_wp2_with (at_builtin;refine wpList_append_rows _ rfl (.tmp 34) (.tmp 36) 35 rfl (w.heap.size+1+1) (w.heap.size+1+1) 37 i1 _ 5 80 Tryz.underlying35 hj hy0 hy1 hy2 rfl (by decide) _ _ _ rfl OA.out _ _ _ rfl LR.out (by simp [Value.oneCell']) (by unfold maxLen;omega) (by omega) (by simp;omega) ?_;intro v7 w7 hO7 hg7 hat7;have pc7:=(World.cell?_of_block (a:=⟨w.heap.size+1,4,none⟩) (hg7.block (w.heap.size+1) (by simp;omega) (HLOW.out _ (by omega)))).trans ((World.cell?_of_block (a:=⟨w.heap.size+1,4,none⟩) (heap_alloc_old wr _ (by show w.heap.size+1<_;omega))).trans HP.out.p4);have pf7:=(World.frozen?_of_block (a:=⟨w.heap.size+1,4,none⟩) (hg7.block (w.heap.size+1) (by simp;omega) (HLOW.out _ (by omega)))).trans ((World.frozen?_of_block (a:=⟨w.heap.size+1,4,none⟩) (heap_alloc_old wr _ (by show w.heap.size+1<_;omega))).trans HP.out.pf);have HP7:=hideK (HAPP.out w7 v7 hg7 hO7);obtain ⟨va,vc,rfl⟩:=sliceH_own hO7;clear hO7 hg7 hat7)
   go_roundw
   case rel=>exact ⟨k+1,_,by omega,by go_num,HP7.out⟩
   case measure=>simp [intOf];omega
  ·have hltz:¬(k:Int)<(n.to.length:Int):=by omega
   have hkl:k=n.to.length:=by omega
   subst hkl;obtain ⟨ak,ck,rfl,hkt⟩:=hP.kt;have cC:=typesCheck_w 1 (nTy n n.to.length) a1 c1 ak ck wr ⟨by show (0:Nat)≤_;omega,HLB.out,by show n.labs.length≤_;omega,by show (List.replicate n.to.length endT).length≤_;rw [List.length_replicate];omega⟩ ((H1.out.keep (hP.bl.mono hB)).mono (Nat.le_trans hB hP.bl.size)) hkt
   rw [HCK.out]at cC;have q0:=hP.p0;have q1:=hP.p1;have q2:=hP.p2;have q3:=hP.p3;have q4:=hP.p4;have HB:=hideK hP.bl;simp only [tyVal,nTy,List.length_replicate]at cC;clear hP hkt;go_wp2_with fail
   refine cC.mono ?_;rintro e w2 ⟨rfl,hb2⟩;have HB2:=hideK (HB.out.trans (hb2.mono HB.out.size));clear cC hb2 q0 q1 q2 q3 q4;go_wp2_with fail
   go_ret
   exact ⟨rfl,HB2.out⟩
theorem checkG_any(g:List Nd)(ag:OAd)(cg B:Nat)(w:World)(hg:GN g)(hga:GAt w B g ag)(hB:B≤w.heap.size):
  Calls Tryz.prog 53 #[.slice ag g.length cg] w fun e w'=>e = .returned (.int .i64 0)∧Below w.heap.size w w':=by
 have hl:=hg.le;have hp:=hg.pos;have hz0:((g.length:Int)==0)=false:=by rw [beq_eq_false_iff_ne];omega
 have hz1:¬((g.length:Int) > 200):=by omega
 have hz2:(g.length:Int)≤200:=by omega
 obtain ⟨gb,go,rfl,hgB,hgc⟩:=hga.resolve_left (fun q=>by rw [q]at hp;simp at hp)
 have HGC:=hideK hgc;have HG:=hideK hg;clear hga hgc hg;go_enter Tryz.func53,Tryz.ntmps53
 go_wp2_with fail
 go_loopw [15] (fun i wr=>∃k:Nat,k≤g.length∧i = .int .i64 (k:Int)∧Below w.heap.size w wr) (fun i _=>g.length - (intOf i).toNat)
 case atStart=>exact ⟨0,Nat.zero_le _,rfl,Below.refl _ _⟩
 case round =>
  obtain ⟨k,hk,rfl,hb⟩:=hrel;by_cases hlt:k<g.length
  ·have hltz:(k:Int)<(g.length:Int):=by omega
   obtain ⟨a1,c1,a2,c2,hN,hL,hT⟩:=HGC.out k hlt;have hbB:=hb.mono hB;obtain ⟨m0,m1,m2,m3⟩:=hN.keep hbB hgB;have hA:=hb.alloc hb.size (.cells #[.int .i64 g[k].kind,.int .i64 g[k].so,.slice a1 g[k].labs.length c1,.slice a2 g[k].to.length c2] 102);have c:=isNode_any g[k] g.length a1 a2 c1 c2 B (wr.alloc (.cells #[.int .i64 g[k].kind,.int .i64 g[k].so,.slice a1 g[k].labs.length c1,.slice a2 g[k].to.length c2] 102)) (hL.keep (hA.mono hB)) (hT.keep (hA.mono hB)) (Nat.le_trans hB hA.size) (HG.out.ok _ (List.getElem_mem hlt)) (fun t ht=>HG.out.shut _ (List.getElem_mem hlt) t ht)
   simp only [ndVal]at c;have HA:=hideK hA;clear hN hL hT hbB hb hA;generalize g[k]=n at *;go_wp2_with fail
   refine c.mono ?_;rintro e w1 ⟨rfl,hb1⟩;have HB1:=hideK (HA.out.trans (hb1.mono HA.out.size));clear c hb1 m0 m1 m2 m3;go_wp2_with fail
   go_roundw
   case rel=>exact ⟨k+1,by omega,by go_num,HB1.out⟩
   case measure=>simp [intOf];omega
  ·have hltz:¬(k:Int)<(g.length:Int):=by omega
   go_wp2_with fail
   go_ret
   exact ⟨rfl,hb⟩
theorem leastK_any(g:List Nd)(ag:OAd)(cg B:Nat)(w:World)(hg:GN g)(hga:GAt w B g ag)(hB:B≤w.heap.size):
  Calls Tryz.prog 59 #[.slice ag g.length cg] w fun e w'=>(∃c,CLS g c∧∃ao co,e = .returned (.tuple #[.slice ao (leastG g c).length co,.int .i64 0])∧GAK w' w'.heap.size (leastG g c) ao)∧Below w.heap.size w w':=by
 have c1:=checkG_any g ag cg B w hg hga hB;have CL:=hideK (fun (W:World) (hb:Below w.heap.size w W)=>least_loopK g ag cg B W hg.gr (hga.keep (hb.mono hB)) (Nat.le_trans hB hb.size))
 clear hga hg;go_enter Tryz.func59,Tryz.ntmps59
 go_wp2_with fail
 refine c1.mono ?_;rintro e w1 ⟨rfl,hb1⟩;have cL:=CL.out w1 hb1;have HB:=hideK hb1;clear c1 CL hb1;go_wp2_with fail
 refine cL.mono ?_;rintro e w2 ⟨⟨c,hc,ao,co,rfl,hg2⟩,hb2⟩;have HC:=hideK hc;have HG2:=hideK hg2;have HB2:=hideK (HB.out.trans (hb2.mono HB.out.size));clear cL hc hg2 hb2;go_wp2_with fail
 go_ret2
 exact ⟨⟨c,HC.out,_,_,rfl,HG2.out⟩,HB2.out⟩
theorem leastG_any(g:List Nd)(ag:OAd)(cg B:Nat)(w:World)(hg:GN g)(hga:GAt w B g ag)(hB:B≤w.heap.size):
  Calls Tryz.prog 59 #[.slice ag g.length cg] w fun e w'=>(∃c,CLS g c∧∃ao co,e = .returned (.tuple #[.slice ao (leastG g c).length co,.int .i64 0])∧GAt w' w'.heap.size (leastG g c) ao)∧Below w.heap.size w w' :=
 (leastK_any g ag cg B w hg hga hB).mono fun _ _ ⟨⟨c,hc,ao,co,e,h⟩,hb⟩=>⟨⟨c,hc,ao,co,e,h.gat⟩,hb⟩
theorem typeFrom_any(g:List Nd)(hg:GN g)(ag:OAd)(cg B wb pb mb:Nat)(hB1:B≤wb)(hB2:B≤pb)(hB3:B≤mb):∀(f:Nat) (ps:Nat→Bool) (i:Nat) (st:SB) (w:World),1≤f→61≤f+st.2→i<g.length→phiB st.2≤10000→GAt w B g ag→B≤w.heap.size→WY g.length ag cg wb pb mb ps st w →
  Calls Tryz.prog 54 #[.pointer (some ⟨wb,0,none⟩),.int .i64 (i:Int)] w (BKPost g f ag cg wb pb mb ps i st w)
 | 0,_,_,_,_,h1,_,_,_,_,_,_=>absurd h1 (by omega)
 | f+1,ps,i,(met,q),w,_,hf,hi,hp,hga,hB0,hW=>by
  have hf':61≤f+1+q:=hf;have hp':phiB q≤10000:=hp;by_cases h60:60<q+1
  ·exact typeFrom_over g f ag cg wb pb mb ps i met q w h60 (by unfold phiB at hp';omega) hW
  ·cases hps:ps i with
   | true=>exact typeFrom_var g f ag cg wb pb mb ps i met q w h60 hi hg.le hps hW
   | false=>exact typeFrom_node g hg f ag cg B wb pb mb ps i met q w h60 hi hps hf' hga hB0 hB1 hB2 hB3 hW (fun ps i st w h1 h2 h3 h4 h5 h6=>typeFrom_any g hg ag cg B wb pb mb hB1 hB2 hB3 f ps i st w (by omega) h1 h2 h3 h4 h5 h6)
theorem infoBo:(Tryz.prog.info? 4).map (fun i=>(i.zero,i.size,i.bytes))=some (some (.bool false),1,1):=by kernel_rfl
theorem makeBo(n:Nat)(hn:n≤1000):∃Z:Array Value,(∀j,j<n→Z[j]? = some (.bool false))∧∀w:World,(Instr.makeSlice 107 (.int .i64 (n:Int)) (.int .i64 (n:Int))).run Tryz.prog w = .ok (.slice (some ⟨w.heap.size,0,none⟩) n n) (w.alloc (.cells Z 4)):=by
 obtain ⟨i,hi,hx⟩:=Option.map_eq_some_iff.1 infoBo;simp only [Prod.mk.injEq]at hx;obtain ⟨h1,h2,h3⟩:=hx;refine ⟨madeCells (Value.bool false).cells (n*i.size),fun j hj=>?_,fun w=>?_⟩
 ·rw [h2,Nat.mul_one]
  unfold madeCells;rw [Array.getElem?_map,Array.getElem?_range,if_pos hj];simp [Value.cells,Nat.mod_one]
 ·have:=run_make (P:=Tryz.prog) w 107 4 i _ Tryz.underlying107 hi h1 .i64 .i64 (n:Int) (n:Int) (by omega) (by omega) (by rw [h3];omega) (by omega)
  exact this
def BCPost(g:List Nd)(w:World)(e:Ending)(w':World):Prop :=
 ((60<(backP g).2.2∧e = .returned (.tuple #[.agg #[.int .i64 0,.int .i64 0,.string ⟨#[]⟩,.slice none 0 0,.slice none 0 0],.int .i64 2]))∨((backP g).2.2≤60∧∃al cl ak ck d,e = .returned (.tuple #[tyVal (backP g).1 al cl ak ck,.int .i64 0])∧TyBd (backP g).1 cl ck∧LP w' (fun b=>w.heap.size≤b∧b<w'.heap.size) (backP g).1.labels al∧KP w' (fun b=>w.heap.size≤b∧b<w'.heap.size) d (backP g).1.kids ak))∧Below w.heap.size w w'
theorem WY.made{W:World}{n:Nat}{ag:OAd}{cg wb pb mb:Nat}{Z1 Z2:Array Value}{t1 t2 t3:TypeId}(h1:W.heap[wb]? = some (.cells #[.slice ag n cg,.slice (some ⟨pb,0,none⟩) n n,.slice (some ⟨mb,0,none⟩) n n,.int .i64 0] t1))(h2:W.heap[pb]? = some (.cells Z1 t2))(h3:W.heap[mb]? = some (.cells Z2 t3))(hz1:∀j,j<n→Z1[j]? = some (.bool false))(hz2:∀j,j<n→Z2[j]? = some (.bool false))(n1:wb≠pb)(n2:wb≠mb)(n3:pb≠mb):WY n ag cg wb pb mb (fun _=>false) (fun _=>false,0) W:=by
 refine ⟨(heap_cellsA h1 0).trans rfl,(heap_cellsA h1 1).trans rfl,(heap_cellsA h1 2).trans rfl,(heap_cellsA h1 3).trans rfl,fun i hi=>(heap_cellsA h2 i).trans (hz1 i hi),fun i hi=>(heap_cellsA h3 i).trans (hz2 i hi),fun o=>by simp [World.frozen?,h1],fun o=>by simp [World.frozen?,h2],fun o=>by simp [World.frozen?,h3],n1,n2,n3,(Array.getElem?_eq_some_iff.1 h1).1,(Array.getElem?_eq_some_iff.1 h2).1,(Array.getElem?_eq_some_iff.1 h3).1⟩
theorem lit_ty(V:World)(t:Ty)(la:OAd)(lc:Nat)(ka:OAd)(kc:Nat):TyAt (V.alloc (.cells #[.int .i64 t.kind,.int .i64 t.so,.string t.name,.slice la t.labels.length lc,.slice ka t.kids.length kc] 37)) V.heap.size 0 t la lc ka kc:=⟨by go_cell,by go_cell,by go_cell,by go_cell,by go_cell⟩
theorem al3(w:World)(a b c:Obj):(((w.alloc a).alloc b).alloc c).drew.heap[w.heap.size]? = some a∧(((w.alloc a).alloc b).alloc c).drew.heap[w.heap.size+1]? = some b∧(((w.alloc a).alloc b).alloc c).drew.heap[w.heap.size+1+1]? = some c∧Below w.heap.size w (((w.alloc a).alloc b).alloc c).drew:=by
 have s1:(w.alloc a).heap.size=w.heap.size+1:=by simp
 have s2:((w.alloc a).alloc b).heap.size=w.heap.size+1+1:=by simp
 have h1:=heap_alloc_new w a;have h2:=heap_alloc_new (w.alloc a) b;have h3:=heap_alloc_new ((w.alloc a).alloc b) c;rw [s1]at h2;rw [s2]at h3;refine ⟨?_,?_,h3,((((bR _ _).alloc (nR _) _).alloc (by simp) _).alloc (by simp;omega) _).drew⟩
 ·exact (heap_alloc_old _ _ (by simp;omega)).trans ((heap_alloc_old _ _ (by simp)).trans h1)
 ·exact (heap_alloc_old _ _ (by simp)).trans h2
theorem back_any(g:List Nd)(hg:GN g)(ag:OAd)(cg B:Nat)(w:World)(hga:GAt w B g ag)(hB:B≤w.heap.size):
  Calls Tryz.prog 30 #[.slice ag g.length cg] w (BCPost g w):=by
 unfold BCPost;obtain ⟨Z,hZ,hmk⟩:=makeBo g.length (by have:=hg.le;omega)
 have hA0:Below w.heap.size w (w.alloc (.cells #[.int .i64 0,.int .i64 0,.string ⟨#[]⟩,.slice none 0 0,.slice none 0 0] 37)):=(bR _ _).alloc (nR _) _;have c1:=checkG_any g ag cg B (w.alloc (.cells #[.int .i64 0,.int .i64 0,.string ⟨#[]⟩,.slice none 0 0,.slice none 0 0] 37)) hg (hga.keep (hA0.mono hB)) (by simp;omega)
 have HR0:=hideK (RBX.new w);have HA0:=hideK hA0;have HGA:=hideK (fun (W:World) (hb:Below w.heap.size w W)=>show GAt W B g ag from hga.keep (hb.mono hB))
 have hgl:(g.length:Int)≤200:=by have:=hg.le;omega
 have HP:=hideK hg.pos;have HG:=hideK hg;clear hga hA0;go_enter Tryz.func30,Tryz.ntmps30
 go_wp2_with fail
 refine c1.mono ?_;rintro e w1 ⟨rfl,hb1⟩;have HR1:=hideK (HR0.out.keep hb1);have HB1:=hideK (HA0.out.trans (hb1.mono HA0.out.size));clear c1 hb1 HR0 HA0;go_upto_region 4 with fail
 go_cut [5] (fun s5 wc=>∃wb pb mb,s5 = .pointer (some ⟨wb,0,none⟩)∧w1.heap.size≤wb∧w1.heap.size≤pb∧w1.heap.size≤mb∧WY g.length ag cg wb pb mb (fun _=>false) (fun _=>false,0) wc∧Below w1.heap.size w1 wc)
 case first =>
  go_region
  all_goals
   go_wp2_with fail
   go_meet
   first
   | exact ⟨_,_,_,rfl,by omega,by omega,by omega,WY.made (al3 w1 _ _ _).1 (al3 w1 _ _ _).2.1 (al3 w1 _ _ _).2.2.1 hZ hZ (by omega) (by omega) (by omega),(al3 w1 _ _ _).2.2.2⟩
   | exact ⟨_,_,_,rfl,by omega,by omega,by omega,WY.made (al3 w1 _ _ _).1 (al3 w1 _ _ _).2.2.1 (al3 w1 _ _ _).2.1 hZ hZ (by omega) (by omega) (by omega),(al3 w1 _ _ _).2.2.2⟩
   | exact ⟨_,_,_,rfl,by omega,by omega,by omega,WY.made (al3 w1 _ _ _).2.1 (al3 w1 _ _ _).1 (al3 w1 _ _ _).2.2.1 hZ hZ (by omega) (by omega) (by omega),(al3 w1 _ _ _).2.2.2⟩
   | exact ⟨_,_,_,rfl,by omega,by omega,by omega,WY.made (al3 w1 _ _ _).2.1 (al3 w1 _ _ _).2.2.1 (al3 w1 _ _ _).1 hZ hZ (by omega) (by omega) (by omega),(al3 w1 _ _ _).2.2.2⟩
   | exact ⟨_,_,_,rfl,by omega,by omega,by omega,WY.made (al3 w1 _ _ _).2.2.1 (al3 w1 _ _ _).1 (al3 w1 _ _ _).2.1 hZ hZ (by omega) (by omega) (by omega),(al3 w1 _ _ _).2.2.2⟩
   | exact ⟨_,_,_,rfl,by omega,by omega,by omega,WY.made (al3 w1 _ _ _).2.2.1 (al3 w1 _ _ _).2.1 (al3 w1 _ _ _).1 hZ hZ (by omega) (by omega) (by omega),(al3 w1 _ _ _).2.2.2⟩
 case rest =>
  obtain ⟨wb,pb,mb,rfl,h1,h2,h3,hWY,hbc⟩:=hcut;have hsz1:=HB1.out.size;have hszc:=hbc.size;have HBc:=hideK (HB1.out.trans (hbc.mono hsz1));have cT:=typeFrom_any g hg ag cg B wb pb mb (by omega) (by omega) (by omega) 61 (fun _=>false) 0 (fun _=>false,0) wc (by decide) (by decide) HP.out (by decide) (HGA.out wc HBc.out) (by omega) hWY
  unfold BKPost at cT;rw [show bkT g 61 (fun _=>false) 0 (fun _=>false,0)=backP g from rfl]at cT
  simp only [Int.ofNat_zero]at cT;have HRc:=hideK (HR1.out.keep hbc);have hrl:=HR1.out.lt;clear hg hWY hbc HR1 hZ hmk HB1 HG HGA HP;rcases hbk:backP g with ⟨bT,bm,bp⟩
  rw [hbk]at cT;have HBE:=hideK hbk;clear hbk;simp only at cT;go_wp2_with fail
  refine cT.mono ?_;rintro e w2 ⟨⟨al,cl,ak,ck,d,rfl,hbd,hlp,hkp⟩,hwy2,hbt2⟩;have HR2:=hideK ((HRc.out.blk (hbt2.block w.heap.size (by omega) (by omega) (by omega) (by omega)) hbt2.size).keep ((bR _ _).alloc (nR _) (.cells #[.int .i64 bT.kind,.int .i64 bT.so,.string bT.name,.slice al bT.labels.length cl,.slice ak bT.kids.length ck] 37)))
  have HB2:=hideK ((show Below w.heap.size w w2 from HBc.out.trans (hbt2.bel (by omega) (by omega) (by omega) (by omega))).alloc (by have:=hbt2.size;omega) (.cells #[.int .i64 bT.kind,.int .i64 bT.so,.string bT.name,.slice al bT.labels.length cl,.slice ak bT.kids.length ck] 37))
  have c3:(w2.alloc (.cells #[.int .i64 bT.kind,.int .i64 bT.so,.string bT.name,.slice al bT.labels.length cl,.slice ak bT.kids.length ck] 37)).cell? ⟨wb,3,none⟩=some (.int .i64 (bp:Int)):=(hwy2.keep ((bR _ _).alloc (nR _) (.cells #[.int .i64 bT.kind,.int .i64 bT.so,.string bT.name,.slice al bT.labels.length cl,.slice ak bT.kids.length ck] 37))).c3;have HTY:=hideK (lit_ty w2 bT al cl ak ck);have HLP:=hideK (hlp.keep (W':=w2.alloc (.cells #[.int .i64 bT.kind,.int .i64 bT.so,.string bT.name,.slice al bT.labels.length cl,.slice ak bT.kids.length ck] 37)) (Q:=fun b=>wc.heap.size≤b∧b<w2.heap.size) (fun b o hb=>World.cell?_alloc_past _ _ _ hb.2) (fun b hb=>hb))
  have HKP:=hideK (hkp.keep (W':=w2.alloc (.cells #[.int .i64 bT.kind,.int .i64 bT.so,.string bT.name,.slice al bT.labels.length cl,.slice ak bT.kids.length ck] 37)) (Q:=fun b=>wc.heap.size≤b∧b<w2.heap.size) (fun b o hb=>World.cell?_alloc_past _ _ _ hb.2) (fun b hb=>hb))
  have HBD:=hideK hbd;have HSZ:=hideK (show (w2.alloc (.cells #[.int .i64 bT.kind,.int .i64 bT.so,.string bT.name,.slice al bT.labels.length cl,.slice ak bT.kids.length ck] 37)).heap.size=w2.heap.size+1 from by simp)
  have hbt:=hbt2.size;clear cT hwy2 hbt2 hlp hkp hbd HRc HBc;simp only [tyVal];go_upto_region 6 with fail
  generalize w2.alloc (.cells #[.int .i64 bT.kind,.int .i64 bT.so,.string bT.name,.slice al bT.labels.length cl,.slice ak bT.kids.length ck] 37)=W5 at *;obtain ⟨z0,z1,z2,z3,z4,zf,zl⟩:=HR2.out;have f0:=zf 0;have f1:=zf 1;have f2:=zf 2;have f3:=zf 3;have f4:=zf 4;obtain ⟨t0,t1,t2,t3,t4⟩:=HTY.out;simp only [Nat.zero_add]at t1 t2 t3 t4;clear zf;by_cases h60:60<bp
  ·have hz:(60:Int)<(bp:Int):=by omega
   have HH:=hideK h60;have HB9:=hideK (st5_below w.heap.size 0 (.int .i64 0) (.int .i64 0) (.string ⟨#[]⟩) (.slice none 0 0) (.slice none 0 0) HB2.out (nR _));have HTA:=hideK (show TyAt (st5 W5 w.heap.size 0 (.int .i64 0) (.int .i64 0) (.string ⟨#[]⟩) (.slice none 0 0) (.slice none 0 0)) w.heap.size 0 zT none 0 none 0 from st5_at W5 _ 0 zT none 0 none 0 (fun j hj=>by
    rw [Nat.zero_add];have:j=0∨j=1∨j=2∨j=3∨j=4:=by omega
    rcases this with rfl|rfl|rfl|rfl|rfl
    ·exact ⟨_,z0⟩
    ·exact ⟨_,z1⟩
    ·exact ⟨_,z2⟩
    ·exact ⟨_,z3⟩
    ·exact ⟨_,z4⟩))
   clear h60;go_wp2_with fail
   change bodyPost _ _ _ _ _ (st5 W5 w.heap.size 0 (.int .i64 0) (.int .i64 0) (.string ⟨#[]⟩) (.slice none 0 0) (.slice none 0 0))
   generalize st5 W5 w.heap.size 0 (.int .i64 0) (.int .i64 0) (.string ⟨#[]⟩) (.slice none 0 0) (.slice none 0 0)=W9 at *;obtain ⟨r0,r1,r2,r3,r4⟩:=HTA.out;simp only [Nat.zero_add,zT,List.length_nil]at r0 r1 r2 r3 r4;refine bodyPost_ret (v:=.tuple #[.agg #[.int .i64 0,.int .i64 0,.string ⟨#[]⟩,.slice none 0 0,.slice none 0 0],.int .i64 2]) (by simp [results,Tryz.results30,go_sem,r0,r1,r2,r3,r4]) rfl ?_
   rw [HBE.out];exact ⟨.inl ⟨HH.out,rfl⟩,HB9.out⟩
  ·have hz:¬(60:Int)<(bp:Int):=by omega
   have HH:=hideK (show bp≤60 by omega)
   have HB9:=hideK (st5_below w.heap.size 0 (.int .i64 bT.kind) (.int .i64 bT.so) (.string bT.name) (.slice al bT.labels.length cl) (.slice ak bT.kids.length ck) HB2.out (nR _));have HTA:=hideK (st5_at W5 w.heap.size 0 bT al cl ak ck (fun j hj=>by
    rw [Nat.zero_add];have:j=0∨j=1∨j=2∨j=3∨j=4:=by omega
    rcases this with rfl|rfl|rfl|rfl|rfl
    ·exact ⟨_,z0⟩
    ·exact ⟨_,z1⟩
    ·exact ⟨_,z2⟩
    ·exact ⟨_,z3⟩
    ·exact ⟨_,z4⟩))
   have HK9:=hideK (show ∀b o,(wc.heap.size≤b∧b<w2.heap.size)→(st5 W5 w.heap.size 0 (.int .i64 bT.kind) (.int .i64 bT.so) (.string bT.name) (.slice al bT.labels.length cl) (.slice ak bT.kids.length ck)).cell? ⟨b,o,none⟩=W5.cell? ⟨b,o,none⟩ from fun b o hb=>st5_other _ _ _ _ _ _ _ _ _ _ (.inl (by omega)))
   have HS9:=hideK (show (st5 W5 w.heap.size 0 (.int .i64 bT.kind) (.int .i64 bT.so) (.string bT.name) (.slice al bT.labels.length cl) (.slice ak bT.kids.length ck)).heap.size=w2.heap.size+1 from (st5_size _ _ _ _ _ _ _ _).trans HSZ.out)
   clear h60;go_wp2_with fail
   change bodyPost _ _ _ _ _ (st5 W5 w.heap.size 0 (.int .i64 bT.kind) (.int .i64 bT.so) (.string bT.name) (.slice al bT.labels.length cl) (.slice ak bT.kids.length ck))
   generalize st5 W5 w.heap.size 0 (.int .i64 bT.kind) (.int .i64 bT.so) (.string bT.name) (.slice al bT.labels.length cl) (.slice ak bT.kids.length ck)=W9 at *;obtain ⟨r0,r1,r2,r3,r4⟩:=HTA.out;simp only [Nat.zero_add]at r0 r1 r2 r3 r4;refine bodyPost_ret (v:=.tuple #[.agg #[.int .i64 bT.kind,.int .i64 bT.so,.string bT.name,.slice al bT.labels.length cl,.slice ak bT.kids.length ck],.int .i64 0]) (by simp [results,Tryz.results30,go_sem,r0,r1,r2,r3,r4]) rfl ?_
   have hs9:=HS9.out;rw [HBE.out];exact ⟨.inr ⟨HH.out,al,cl,ak,ck,rfl,HBD.out,HLP.out.keep HK9.out (fun b hb=>by omega),d,HKP.out.keep HK9.out (fun b hb=>by omega)⟩,HB9.out⟩
def BNPost(g:List Nd)(w:World)(e:Ending)(w':World):Prop :=
 ((60<(backP g).2.2∧∃t al cl ak ck,e = .returned (.tuple #[tyVal t al cl ak ck,.bool false]))∨((backP g).2.2≤60∧∃al cl ak ck d,e = .returned (.tuple #[tyVal (backP g).1 al cl ak ck,.bool true])∧TyBd (backP g).1 cl ck∧LP w' (fun b=>w.heap.size≤b∧b<w'.heap.size) (backP g).1.labels al∧KP w' (fun b=>w.heap.size≤b∧b<w'.heap.size) d (backP g).1.kids ak))∧Below w.heap.size w w'
theorem backKeepN_any(g:List Nd)(hg:GN g)(ag:OAd)(cg B:Nat)(w:World)(hga:GAt w B g ag)(hB:B≤w.heap.size):
  Calls Tryz.prog 10 #[.slice ag g.length cg,.int .i64 0] w (BNPost g w):=by
 unfold BNPost;have hA0:Below w.heap.size w (w.alloc (.cells #[.int .i64 0,.int .i64 0,.string ⟨#[]⟩,.slice none 0 0,.slice none 0 0] 37)):=(bR _ _).alloc (nR _) _;have c1:=back_any g hg ag cg B (w.alloc (.cells #[.int .i64 0,.int .i64 0,.string ⟨#[]⟩,.slice none 0 0,.slice none 0 0] 37)) (hga.keep (hA0.mono hB)) (by simp;omega)
 have HR0:=hideK (RBX.new w);have HA0:=hideK hA0;unfold BCPost at c1;clear hga hA0 hg;go_enter Tryz.func10,Tryz.ntmps10
 go_wp2_with fail
 refine c1.mono ?_;rintro e w1 ⟨hor,hb1⟩;have HR1:=hideK (HR0.out.keep hb1);have HB1:=hideK (HA0.out.trans (hb1.mono HA0.out.size));clear c1 hb1 HR0 HA0;rcases hbk:backP g with ⟨bT,bm,bp⟩
 rw [hbk]at hor;have HBE:=hideK hbk;clear hbk;simp only at hor;rcases hor with ⟨hq,rfl⟩|⟨hq,al,cl,ak,ck,d,rfl,hbd,hlp,hkp⟩
 ·have HQ:=hideK (show 60<(backP g).2.2 from by rw [HBE.out];exact hq)
  clear hq;have hA1:Below w1.heap.size w1 (w1.alloc (.cells #[.int .i64 0,.int .i64 0,.string ⟨#[]⟩,.slice none 0 0,.slice none 0 0] 37)):=(bR _ _).alloc (nR _) _;have HR2:=hideK (HR1.out.keep hA1);have HB2:=hideK (HB1.out.trans (hA1.mono HB1.out.size));have HTY:=hideK (show TyAt (w1.alloc (.cells #[.int .i64 0,.int .i64 0,.string ⟨#[]⟩,.slice none 0 0,.slice none 0 0] 37)) w1.heap.size 0 zT none 0 none 0 from lit_ty w1 zT none 0 none 0)
  have HSZ:=hideK (show (w1.alloc (.cells #[.int .i64 0,.int .i64 0,.string ⟨#[]⟩,.slice none 0 0,.slice none 0 0] 37)).heap.size=w1.heap.size+1 from by simp)
  go_upto_region 4 with fail
  generalize w1.alloc (.cells #[.int .i64 0,.int .i64 0,.string ⟨#[]⟩,.slice none 0 0,.slice none 0 0] 37)=W5 at *;obtain ⟨z0,z1,z2,z3,z4,zf,zl⟩:=HR2.out;have f0:=zf 0;have f1:=zf 1;have f2:=zf 2;have f3:=zf 3;have f4:=zf 4;obtain ⟨t0,t1,t2,t3,t4⟩:=HTY.out;simp only [Nat.zero_add,zT,List.length_nil]at t0 t1 t2 t3 t4;clear zf;have HB9:=hideK (st5_below w.heap.size 0 (.int .i64 0) (.int .i64 0) (.string ⟨#[]⟩) (.slice none 0 0) (.slice none 0 0) HB2.out (nR _));have HTA:=hideK (show TyAt (st5 W5 w.heap.size 0 (.int .i64 0) (.int .i64 0) (.string ⟨#[]⟩) (.slice none 0 0) (.slice none 0 0)) w.heap.size 0 zT none 0 none 0 from st5_at W5 w.heap.size 0 zT none 0 none 0 (fun j hj=>by
   rw [Nat.zero_add];have:j=0∨j=1∨j=2∨j=3∨j=4:=by omega
   rcases this with rfl|rfl|rfl|rfl|rfl
   ·exact ⟨_,z0⟩
   ·exact ⟨_,z1⟩
   ·exact ⟨_,z2⟩
   ·exact ⟨_,z3⟩
   ·exact ⟨_,z4⟩))
  have HK9:=hideK (show ∀b o,b≠w.heap.size→(st5 W5 w.heap.size 0 (.int .i64 0) (.int .i64 0) (.string ⟨#[]⟩) (.slice none 0 0) (.slice none 0 0)).cell? ⟨b,o,none⟩=W5.cell? ⟨b,o,none⟩ from fun b o hb=>st5_other _ _ _ _ _ _ _ _ _ _ (.inl hb))
  have HS9:=hideK (show (st5 W5 w.heap.size 0 (.int .i64 0) (.int .i64 0) (.string ⟨#[]⟩) (.slice none 0 0) (.slice none 0 0)).heap.size=w1.heap.size+1 from (st5_size _ _ _ _ _ _ _ _).trans HSZ.out)
  go_wp2_with fail
  change bodyPost _ _ _ _ _ (st5 W5 w.heap.size 0 (.int .i64 0) (.int .i64 0) (.string ⟨#[]⟩) (.slice none 0 0) (.slice none 0 0))
  generalize st5 W5 w.heap.size 0 (.int .i64 0) (.int .i64 0) (.string ⟨#[]⟩) (.slice none 0 0) (.slice none 0 0)=W9 at *;obtain ⟨r0,r1,r2,r3,r4⟩:=HTA.out;simp only [Nat.zero_add,zT,List.length_nil]at r0 r1 r2 r3 r4;refine bodyPost_ret (v:=.tuple #[.agg #[.int .i64 0,.int .i64 0,.string ⟨#[]⟩,.slice none 0 0,.slice none 0 0],.bool false]) (by simp [results,Tryz.results10,go_sem,r0,r1,r2,r3,r4]) rfl ?_
  exact ⟨.inl ⟨HQ.out,zT,none,0,none,0,rfl⟩,HB9.out⟩
 ·have HQ:=hideK (show bp≤60 from hq)
  have HBD:=hideK hbd;have HLP:=hideK hlp;have HKP:=hideK hkp;clear hq hbd hlp hkp;simp only [tyVal];have hA1:Below w1.heap.size w1 (w1.alloc (.cells #[.int .i64 bT.kind,.int .i64 bT.so,.string bT.name,.slice al bT.labels.length cl,.slice ak bT.kids.length ck] 37)):=(bR _ _).alloc (nR _) _;have HR2:=hideK (HR1.out.keep hA1);have HB2:=hideK (HB1.out.trans (hA1.mono HB1.out.size));have HTY:=hideK (lit_ty w1 bT al cl ak ck);have HA1:=hideK (show ∀b o,b<w1.heap.size→(w1.alloc (.cells #[.int .i64 bT.kind,.int .i64 bT.so,.string bT.name,.slice al bT.labels.length cl,.slice ak bT.kids.length ck] 37)).cell? ⟨b,o,none⟩=w1.cell? ⟨b,o,none⟩ from fun b o hb=>World.cell?_alloc_past _ _ _ hb)
  have HSZ:=hideK (show (w1.alloc (.cells #[.int .i64 bT.kind,.int .i64 bT.so,.string bT.name,.slice al bT.labels.length cl,.slice ak bT.kids.length ck] 37)).heap.size=w1.heap.size+1 from by simp)
  go_upto_region 4 with fail
  generalize w1.alloc (.cells #[.int .i64 bT.kind,.int .i64 bT.so,.string bT.name,.slice al bT.labels.length cl,.slice ak bT.kids.length ck] 37)=W5 at *;obtain ⟨z0,z1,z2,z3,z4,zf,zl⟩:=HR2.out;have f0:=zf 0;have f1:=zf 1;have f2:=zf 2;have f3:=zf 3;have f4:=zf 4;obtain ⟨t0,t1,t2,t3,t4⟩:=HTY.out;simp only [Nat.zero_add]at t0 t1 t2 t3 t4;clear zf;have HB9:=hideK (st5_below w.heap.size 0 (.int .i64 bT.kind) (.int .i64 bT.so) (.string bT.name) (.slice al bT.labels.length cl) (.slice ak bT.kids.length ck) HB2.out (nR _));have HTA:=hideK (show TyAt (st5 W5 w.heap.size 0 (.int .i64 bT.kind) (.int .i64 bT.so) (.string bT.name) (.slice al bT.labels.length cl) (.slice ak bT.kids.length ck)) w.heap.size 0 bT al cl ak ck from st5_at W5 w.heap.size 0 bT al cl ak ck (fun j hj=>by
   rw [Nat.zero_add];have:j=0∨j=1∨j=2∨j=3∨j=4:=by omega
   rcases this with rfl|rfl|rfl|rfl|rfl
   ·exact ⟨_,z0⟩
   ·exact ⟨_,z1⟩
   ·exact ⟨_,z2⟩
   ·exact ⟨_,z3⟩
   ·exact ⟨_,z4⟩))
  have HK9:=hideK (show ∀b o,b≠w.heap.size→(st5 W5 w.heap.size 0 (.int .i64 bT.kind) (.int .i64 bT.so) (.string bT.name) (.slice al bT.labels.length cl) (.slice ak bT.kids.length ck)).cell? ⟨b,o,none⟩=W5.cell? ⟨b,o,none⟩ from fun b o hb=>st5_other _ _ _ _ _ _ _ _ _ _ (.inl hb))
  have HS9:=hideK (show (st5 W5 w.heap.size 0 (.int .i64 bT.kind) (.int .i64 bT.so) (.string bT.name) (.slice al bT.labels.length cl) (.slice ak bT.kids.length ck)).heap.size=w1.heap.size+1 from (st5_size _ _ _ _ _ _ _ _).trans HSZ.out)
  go_wp2_with fail
  change bodyPost _ _ _ _ _ (st5 W5 w.heap.size 0 (.int .i64 bT.kind) (.int .i64 bT.so) (.string bT.name) (.slice al bT.labels.length cl) (.slice ak bT.kids.length ck))
  generalize st5 W5 w.heap.size 0 (.int .i64 bT.kind) (.int .i64 bT.so) (.string bT.name) (.slice al bT.labels.length cl) (.slice ak bT.kids.length ck)=W9 at *;obtain ⟨r0,r1,r2,r3,r4⟩:=HTA.out;simp only [Nat.zero_add]at r0 r1 r2 r3 r4;refine bodyPost_ret (v:=.tuple #[.agg #[.int .i64 bT.kind,.int .i64 bT.so,.string bT.name,.slice al bT.labels.length cl,.slice ak bT.kids.length ck],.bool true]) (by simp [results,Tryz.results10,go_sem,r0,r1,r2,r3,r4]) rfl ?_
  have hs9:=HS9.out;rw [HBE.out];have hne:∀b,((w.alloc (.cells #[.int .i64 0,.int .i64 0,.string ⟨#[]⟩,.slice none 0 0,.slice none 0 0] 37)).heap.size≤b∧b<w1.heap.size)→b≠w.heap.size∧b<w1.heap.size:=fun b hb=>⟨by have h:=hb.1;simp at h;omega,hb.2⟩
  have hk:∀b o,((w.alloc (.cells #[.int .i64 0,.int .i64 0,.string ⟨#[]⟩,.slice none 0 0,.slice none 0 0] 37)).heap.size≤b∧b<w1.heap.size)→W9.cell? ⟨b,o,none⟩=w1.cell? ⟨b,o,none⟩:=fun b o hb=>(HK9.out b o (hne b hb).1).trans (HA1.out b o hb.2)
  have hq:∀b,((w.alloc (.cells #[.int .i64 0,.int .i64 0,.string ⟨#[]⟩,.slice none 0 0,.slice none 0 0] 37)).heap.size≤b∧b<w1.heap.size)→w.heap.size≤b∧b<W9.heap.size:=fun b hb=>⟨by have h:=hb.1;simp at h;omega,by omega⟩
  exact ⟨.inr ⟨HQ.out,al,cl,ak,ck,d,rfl,HBD.out,HLP.out.keep hk hq,HKP.out.keep hk hq⟩,HB9.out⟩
theorem backErr_any(a:OAd)(n c:Nat)(z:Int)(hz:z≠0)(w:World):
  Calls Tryz.prog 10 #[.slice a n c,.int .i64 z] w fun e w'=>(∃t al cl ak ck,e = .returned (.tuple #[tyVal t al cl ak ck,.bool false]))∧Below w.heap.size w w':=by
 have hzb:(z != 0)=true:=by simpa using hz
 have HB:=hideK (show Below w.heap.size w ((w.alloc (.cells #[.int .i64 0,.int .i64 0,.string ⟨#[]⟩,.slice none 0 0,.slice none 0 0] 37))) from (bR _ _).alloc (nR _) _)
 clear hz;go_enter Tryz.func10,Tryz.ntmps10
 go_wp2_with fail
 refine bodyPost_ret (v:=.tuple #[.agg #[.int .i64 0,.int .i64 0,.string ⟨#[]⟩,.slice none 0 0,.slice none 0 0],.bool false]) (by simp [results,Tryz.results10,go_sem]) rfl ?_
 exact ⟨⟨zT,none,0,none,0,rfl⟩,HB.out⟩
theorem kinds13{k:Int}(h:1≤k∧k≤13):k=1∨k=2∨k=3∨k=4∨k=5∨k=6∨k=7∨k=8∨k=9∨k=10∨k=11∨k=12∨k=13:=by omega
theorem keyword_any(k:Int)(w:World)(h:1≤k∧k≤12):Calls Tryz.prog 131 #[.int .i64 k] w fun e w'=>e = .returned (.string (kwOf k))∧w'=w:=by
 rcases kinds13 ⟨h.1,by omega⟩ with rfl|rfl|rfl|rfl|rfl|rfl|rfl|rfl|rfl|rfl|rfl|rfl|rfl
 repeat (case _=>clear h;go_enter Tryz.func131,Tryz.ntmps131;go_wp2_with fail;go_ret;exact ⟨rfl,rfl⟩)
theorem kdGo_at(s:ByteArray):∀(n:Nat) (k m:Int),k≤m→m≤k+n→(∀j,k≤j→j<m→kwOf j≠s)→(m<k+n→kwOf m=s)→kdGo s n k=m
 | 0,k,m,h1,h2,_,_=>by simp only [kdGo];omega
 | n+1,k,m,h1,h2,h3,h4=>by
  simp only [kdGo];by_cases hk:k=m
  ·subst hk;rw [if_pos (h4 (by omega))]
  ·rw [if_neg (h3 k (by omega) (by omega))]
   exact kdGo_at s n (k+1) m (by omega) (by omega) (fun j q1 q2=>h3 j (by omega) q2) (fun q=>h4 (by omega))
theorem kdOf_at{s:ByteArray}{m:Int}(h1:1≤m)(h2:m≤13)(h3:∀j,1≤j→j<m→kwOf j≠s)(h4:m<13→kwOf m=s):kdOf s=m :=
 kdGo_at s 12 1 m h1 (by omega) h3 (fun q=>h4 (by omega))
theorem kindOf_any(s:ByteArray)(w:World):Calls Tryz.prog 104 #[.string s] w fun e w'=>e = .returned (.int .i64 (kdOf s))∧w'=w:=by
 go_enter Tryz.func104,Tryz.ntmps104
 go_wp2_with fail
 go_loopw [3] (fun v wr=>∃k:Nat,1≤k∧k≤13∧v = .int .i64 (k:Int)∧(∀j:Int,1≤j→j<(k:Int)→kwOf j≠s)∧wr=w) (fun v _=>13 - (intOf v).toNat)
 case atStart=>exact ⟨1,by omega,by omega,rfl,fun j q1 q2=>by omega,rfl⟩
 case round =>
  obtain ⟨k,h1,h2,rfl,hn,rfl⟩:=hrel;have HN:=hideK hn;clear hn;by_cases hk:k<13
  ·have c:=keyword_any (k:Int) wr ⟨by omega,by omega⟩
   have hkz:(k:Int)<13:=by omega
   by_cases he:kwOf (k:Int)=s
   ·have HE:=hideK he
    have hq:((kwOf (k:Int)).toList==s.toList)=true:=by rw [he];simp
    have HV:=hideK (show kdOf s=(k:Int) from kdOf_at (by omega) (by omega) HN.out (fun _=>he))
    clear he h2 HN;generalize kwOf (k:Int)=kw at *;go_wp2_with fail
    refine c.mono ?_;rintro e w1 ⟨rfl,rfl⟩;go_wp2_with fail
    go_ret
    exact ⟨by rw [HV.out];rfl,rfl⟩
   ·have HE:=hideK he
    have hq:((kwOf (k:Int)).toList==s.toList)=false:=by rw [two_beq];simpa using he
    have HV:=hideK (show ∀j:Int,1≤j→j<((k+1:Nat):Int)→kwOf j≠s from fun j q1 q2=>by
     by_cases hj:j=(k:Int)
     ·rw [hj];exact he
     ·exact HN.out j q1 (by omega))
    clear he h2 HN HE;generalize kwOf (k:Int)=kw at *;go_wp2_with fail
    refine c.mono ?_;rintro e w1 ⟨rfl,rfl⟩;go_wp2_with fail
    go_roundw
    case rel=>exact ⟨k+1,by omega,by omega,by go_num,HV.out,by first|rfl|trivial⟩
    case measure=>simp [intOf];omega
  ·have hkz:¬(k:Int)<13:=by omega
   have HV:=hideK (show kdOf s=(k:Int) from kdOf_at (by omega) (by omega) HN.out (fun q=>absurd q hkz))
   clear HN;go_wp2_with fail
   go_ret
   exact ⟨by rw [HV.out];rfl,rfl⟩
theorem lit_beq(s:ByteArray)(l:List UInt8):(s.toList==l)=decide (s=⟨l.toArray⟩):=by
 rw [beqL];have:s.data.toList=l↔s=⟨l.toArray⟩:=⟨fun h=>by cases s;simp only at h;rw [← h],fun h=>by rw [h]⟩
 simp only [this]
theorem isProc_any(s:ByteArray)(w:World)(hs:s.size≤9223372036854775807):Calls Tryz.prog 75 #[.string s] w fun e w'=>e = .returned (.bool (isPc s))∧Below w.heap.size w w':=by
 have c1:=isName_any s w hs;have C2:=hideK (kindOf_any s);have hd:isPc s=(isNm s.data.toList && (!(s.toList==[100,101,102]) && (!(s.toList==[101,108,115,101]) && (kdOf s==13)))):=by
  unfold isPc;rw [lit_beq,lit_beq];simp only [decide_not];rfl
 generalize isPc s=r at *;generalize isNm s.data.toList=q at *;generalize kdOf s=k at *;cases q
 ·rw [Bool.false_and]at hd
  subst hd;go_enter Tryz.func75,Tryz.ntmps75
  go_wp2_with fail
  refine c1.mono ?_;rintro e w1 ⟨rfl,hb1⟩;have HB:=hideK hb1;clear hb1 c1;go_wp2_with fail
  go_ret
  exact ⟨rfl,HB.out⟩
 ·rw [Bool.true_and]at hd
  generalize hA:(s.toList==[100,101,102])=qa at hd;generalize hB:(s.toList==[101,108,115,101])=qb at hd;cases qa <;> cases qb
  case false.false =>
   simp only [Bool.not_false,Bool.true_and]at hd;subst hd;go_enter Tryz.func75,Tryz.ntmps75
   go_wp2_with fail
   refine c1.mono ?_;rintro e w1 ⟨rfl,hb1⟩;have HB:=hideK hb1;clear hb1 c1;go_wp2_with fail
   refine (C2.out _).mono ?_;rintro e w2 ⟨rfl,rfl⟩;clear C2;go_wp2_with fail
   go_ret
   exact ⟨rfl,HB.out⟩
  all_goals
   simp only [Bool.not_false,Bool.true_and,Bool.not_true,Bool.false_and]at hd;subst hd;go_enter Tryz.func75,Tryz.ntmps75
   go_wp2_with fail
   refine c1.mono ?_;rintro e w1 ⟨rfl,hb1⟩;have HB:=hideK hb1;clear hb1 c1;go_wp2_with fail
   go_ret
   exact ⟨rfl,HB.out⟩
theorem fieldsOf_any(k:Int)(w:World)(h:1≤k∧k≤13):Calls Tryz.prog 110 #[.int .i64 k] w fun e w'=>e = .returned (.int .i64 (fldOf k))∧w'=w:=by
 rcases kinds13 h with rfl|rfl|rfl|rfl|rfl|rfl|rfl|rfl|rfl|rfl|rfl|rfl|rfl
 repeat (case _=>clear h;go_enter Tryz.func110,Tryz.ntmps110;go_wp2_with fail;go_ret;exact ⟨rfl,rfl⟩)
theorem haveC_any(k:Int)(w:World)(h:1≤k∧k≤13):Calls Tryz.prog 112 #[.int .i64 (fldOf k),.int .i64 1] w fun e w'=>e = .returned (.bool (hvC k))∧w'=w:=by
 rcases kinds13 h with rfl|rfl|rfl|rfl|rfl|rfl|rfl|rfl|rfl|rfl|rfl|rfl|rfl
 all_goals (clear h;simp only [fldOf,Int.reduceEq,or_self,or_true,or_false,↓reduceIte];go_enter Tryz.func112,Tryz.ntmps112;go_wp2_with fail;go_ret;exact ⟨rfl,rfl⟩)
theorem haveN_any(k:Int)(w:World)(h:1≤k∧k≤13):Calls Tryz.prog 112 #[.int .i64 (fldOf k),.int .i64 2] w fun e w'=>e = .returned (.bool (hvN k))∧w'=w:=by
 rcases kinds13 h with rfl|rfl|rfl|rfl|rfl|rfl|rfl|rfl|rfl|rfl|rfl|rfl|rfl
 all_goals (clear h;simp only [fldOf,Int.reduceEq,or_self,or_true,or_false,↓reduceIte];go_enter Tryz.func112,Tryz.ntmps112;go_wp2_with fail;go_ret;exact ⟨rfl,rfl⟩)
theorem haveL_any(k:Int)(w:World)(h:1≤k∧k≤13):Calls Tryz.prog 112 #[.int .i64 (fldOf k),.int .i64 4] w fun e w'=>e = .returned (.bool (hvL k))∧w'=w:=by
 rcases kinds13 h with rfl|rfl|rfl|rfl|rfl|rfl|rfl|rfl|rfl|rfl|rfl|rfl|rfl
 all_goals (clear h;simp only [fldOf,Int.reduceEq,or_self,or_true,or_false,↓reduceIte];go_enter Tryz.func112,Tryz.ntmps112;go_wp2_with fail;go_ret;exact ⟨rfl,rfl⟩)
theorem haveX_any(k:Int)(w:World)(h:1≤k∧k≤13):Calls Tryz.prog 112 #[.int .i64 (fldOf k),.int .i64 8] w fun e w'=>e = .returned (.bool (hvX k))∧w'=w:=by
 rcases kinds13 h with rfl|rfl|rfl|rfl|rfl|rfl|rfl|rfl|rfl|rfl|rfl|rfl|rfl
 all_goals (clear h;simp only [fldOf,Int.reduceEq,or_self,or_true,or_false,↓reduceIte];go_enter Tryz.func112,Tryz.ntmps112;go_wp2_with fail;go_ret;exact ⟨rfl,rfl⟩)
theorem haveXs_any(k:Int)(w:World)(h:1≤k∧k≤13):Calls Tryz.prog 112 #[.int .i64 (fldOf k),.int .i64 16] w fun e w'=>e = .returned (.bool (hvXs k))∧w'=w:=by
 rcases kinds13 h with rfl|rfl|rfl|rfl|rfl|rfl|rfl|rfl|rfl|rfl|rfl|rfl|rfl
 all_goals (clear h;simp only [fldOf,Int.reduceEq,or_self,or_true,or_false,↓reduceIte];go_enter Tryz.func112,Tryz.ntmps112;go_wp2_with fail;go_ret;exact ⟨rfl,rfl⟩)
theorem haveNs_any(k:Int)(w:World)(h:1≤k∧k≤13):Calls Tryz.prog 112 #[.int .i64 (fldOf k),.int .i64 32] w fun e w'=>e = .returned (.bool (hvNs k))∧w'=w:=by
 rcases kinds13 h with rfl|rfl|rfl|rfl|rfl|rfl|rfl|rfl|rfl|rfl|rfl|rfl|rfl
 all_goals (clear h;simp only [fldOf,Int.reduceEq,or_self,or_true,or_false,↓reduceIte];go_enter Tryz.func112,Tryz.ntmps112;go_wp2_with fail;go_ret;exact ⟨rfl,rfl⟩)
theorem haveT_any(k:Int)(w:World)(h:1≤k∧k≤13):Calls Tryz.prog 112 #[.int .i64 (fldOf k),.int .i64 64] w fun e w'=>e = .returned (.bool (hvT k))∧w'=w:=by
 rcases kinds13 h with rfl|rfl|rfl|rfl|rfl|rfl|rfl|rfl|rfl|rfl|rfl|rfl|rfl
 all_goals (clear h;simp only [fldOf,Int.reduceEq,or_self,or_true,or_false,↓reduceIte];go_enter Tryz.func112,Tryz.ntmps112;go_wp2_with fail;go_ret;exact ⟨rfl,rfl⟩)
theorem haveLs_any(k:Int)(w:World)(h:1≤k∧k≤13):Calls Tryz.prog 112 #[.int .i64 (fldOf k),.int .i64 128] w fun e w'=>e = .returned (.bool (hvLs k))∧w'=w:=by
 rcases kinds13 h with rfl|rfl|rfl|rfl|rfl|rfl|rfl|rfl|rfl|rfl|rfl|rfl|rfl
 all_goals (clear h;simp only [fldOf,Int.reduceEq,or_self,or_true,or_false,↓reduceIte];go_enter Tryz.func112,Tryz.ntmps112;go_wp2_with fail;go_ret;exact ⟨rfl,rfl⟩)
theorem fits_any(a b c:Bool)(w:World):Calls Tryz.prog 111 #[.bool a,.bool b,.bool c] w fun e w'=>e = .returned (.bool (fitB a b c))∧w'=w:=by
 cases a
 case _=>go_enter Tryz.func111,Tryz.ntmps111;go_wp2_with fail;go_ret;exact ⟨rfl,rfl⟩
 case _=>go_enter Tryz.func111,Tryz.ntmps111;go_wp2_with fail;go_ret;exact ⟨rfl,rfl⟩
end Go.Proofs.YtmamabhhgfcjcaaGreatDoor
