/-
  The contract of (*below.drafting).alone.
-/
import Derived.Test.YtnedgkcejlhnbaaGreatDoorSz
import Derived.Test.YtnedgkcejlhnbaaGreatDoorIf
import Derived.Test.YtnedgkcejlhnbaaGreatDoorIj
set_option maxRecDepth 100000
set_option maxHeartbeats 4000000
namespace Go.Proofs.YtnedgkcejlhnbaaGreatDoor
open Go.RowKit Go.Shelf
theorem fold_take{ps qs:List Pz}{k:Nat}(hk:k<qs.length):(qs.take (k+1)).foldl addZ ps=addZ ((qs.take k).foldl addZ ps) qs[k]∧nums ps (qs.take (k+1))=nums ps (qs.take k)++[(addZ ((qs.take k).foldl addZ ps) qs[k]).idxOf qs[k]]:=by
 have e:qs.take (k+1)=qs.take k++[qs[k]]:=by rw [List.take_add_one,List.getElem?_eq_getElem hk];rfl
 rw [e,List.foldl_append,nums_snoc];exact ⟨rfl,rfl⟩
theorem DB.start{w0 w w1:World}{db mb bx:Nat}{ca cb ud u:Value}{X:Nat→Value}{ps:List Pz}(hz:ZW w0 db mb ca cb ud ps u w)(hb:Below w.heap.size w w1)(h1:w.heap.size≤bx)(h2:bx<w1.heap.size)(c3:w1.cell? ⟨bx,3,none⟩=some (.slice none 0 0))(f3:∀j,j<6→w1.frozen? ⟨bx,j,none⟩=false)(oc:∀j,j<6→j≠3→w1.cell? ⟨bx,j,none⟩=some (X j)):
  DB w0 w1 db mb bx ca cb ud u X ps [] u (.slice none 0 0) w1:=by
 have hd:=hz.ls;have hm:=hz.mp.lt;have hu:∀j,u.ownBlock=some j→j<w.heap.size:=fun j hj=>(hz.own.lt j hj).2
 have hs:=hb.size;exact ⟨hz.kept hb,World.ownsRow_nil _ _ _ _,c3,f3,oc,fun _ _ _ _ _ _=>rfl,.inl rfl,fun j hj=>Nat.lt_of_lt_of_le (hu j hj) hs,fun j hj=>by simp [Value.ownBlock]at hj,h2,Nat.le_trans hz.bl.size h1,Nat.le_refl _,by omega,by omega,fun e=>by have:=hu bx e;omega,by omega,by omega,rfl,rfl,rfl⟩
theorem DB.post{w0 w w1:World}{db mb bx rb:Nat}{ca cb ud u:Value}{ps:List Pz}{tos:List Nat}{u' v:Value}{X:Nat→Value}{W:World}(D:DB w0 w1 db mb bx ca cb ud u X ps tos u' v W)(hb:Below w.heap.size w w1)(h0w:w0.heap.size≤w.heap.size)(hbx:w.heap.size≤bx)(hrb:w.heap.size≤rb)(hrb1:rb<w1.heap.size)(hdb:db<w.heap.size)(hmb:mb<w.heap.size)(hub:∀j,u.ownBlock=some j→j<w.heap.size)(v0 v1 v2 v3 v4 v5:Value):
  ZW w0 db mb ca cb ud ps u' (sx6 W rb v0 v1 v2 v3 v4 v5)∧RF mb db u.ownBlock w (sx6 W rb v0 v1 v2 v3 v4 v5)∧(u'.ownBlock=u.ownBlock∨∀j,u'.ownBlock=some j→w.heap.size≤j):=by
 have hs:=hb.size;have hur:u'.ownBlock≠some rb:=fun e=>by
  rcases D.uf with q|q
  ·have:=hub rb (q ▸ e);omega
  ·have:=q rb e;omega
 refine ⟨D.z.other (sx6_bl ..).os (sx6_bl ..).tape (sx6_bl ..).output (by rw [sx6_size];exact Nat.le_refl _) fun b hb' hor=>sx6_block _ _ _ _ _ _ _ _ b fun e=>?_,⟨?_,?_,?_,by rw [sx6_size];have:=D.sz;omega,fun k hk h1 h2 h3=>?_⟩,D.uf.imp id fun q j hj=>by have:=q j hj;omega⟩
 ·subst e
  rcases hor with q|q|q|q
  ·omega
  ·omega
  ·omega
  ·exact hur q
 ·have e1:(sx6 W rb v0 v1 v2 v3 v4 v5).os=W.os:=(sx6_bl ..).os
  rw [e1];exact D.os_.trans hb.os
 ·have e1:(sx6 W rb v0 v1 v2 v3 v4 v5).tape=W.tape:=(sx6_bl ..).tape
  rw [e1];exact D.tp_.trans hb.tape
 ·have e1:(sx6 W rb v0 v1 v2 v3 v4 v5).output=W.output:=(sx6_bl ..).output
  rw [e1];exact D.ot_.trans hb.output
 ·rw [sx6_block _ _ _ _ _ _ _ _ k (by omega),D.fr k (by omega) h1 h2 (by omega) h3]
  exact hb.block k hk
theorem clA_any(x y:Int)(t:Bool)(w:World):
  Calls Tryz.prog 31 #[.agg #[.int .i64 x,.int .i64 y,.bool t]] w fun e w'=>e = .returned (.agg #[.int .i64 x,.int .i64 (-1),.bool t])∧Below w.heap.size w w':=by
 have hA:Below w.heap.size w ((w.alloc (.cells #[.int .i64 x,.int .i64 y,.bool t] 53)).alloc (.cells #[.int .i64 x,.int .i64 (-1),.bool t] 53)):=((Below.refl w.heap.size w).alloc (Nat.le_refl _) _).alloc (by simp) _
 have r0:((w.alloc (.cells #[.int .i64 x,.int .i64 y,.bool t] 53)).alloc (.cells #[.int .i64 x,.int .i64 (-1),.bool t] 53)).cell? ⟨w.heap.size+1,0,none⟩=some (.int .i64 x):=by go_cell
 have r1:((w.alloc (.cells #[.int .i64 x,.int .i64 y,.bool t] 53)).alloc (.cells #[.int .i64 x,.int .i64 (-1),.bool t] 53)).cell? ⟨w.heap.size+1,1,none⟩=some (.int .i64 (-1)):=by go_cell
 have r2:((w.alloc (.cells #[.int .i64 x,.int .i64 y,.bool t] 53)).alloc (.cells #[.int .i64 x,.int .i64 (-1),.bool t] 53)).cell? ⟨w.heap.size+1,2,none⟩=some (.bool t):=by go_cell
 have HA:=hideK hA;clear hA;go_enter Tryz.func31,Tryz.ntmps31
 go_wp2_with fail
 refine bodyPost_ret (v:=.agg #[.int .i64 x,.int .i64 (-1),.bool t]) (by simp [results,Tryz.results31,go_sem,r0,r1,r2]) rfl ?_
 exact ⟨rfl,HA.out⟩
theorem aloneA_any(n:Nd)(t:Bool)(a1 a2:OAd)(c1 c2 B:Nat)(w0:World)(db mb:Nat)(ca cb ud:Value)(ps:List Pz)(u:Value)(w:World)(hz:ZW w0 db mb ca cb ud ps u w)(hB:B≤w0.heap.size)(hL:LA w0 B n.labs a1)(hT:NI w0 B n.to a2)(hn:okN n)
  (hps:∀i,PS (((aloD n t zA).nxt.take i).foldl addZ ps)) (hsm:∀q∈(aloD n t zA).nxt,smPz q) :
  Calls Tryz.prog 30 #[.pointer (some ⟨db,0,none⟩),ndVal n a1 c1 a2 c2,.bool t,.func (.func 31) #[] #[]] w (DPost w0 db mb ca cb ud B (aloD n t zA) ps u w):=by
 obtain ⟨i1,hj,hy0,hy1,hy2⟩:=info_parts infoInZ;have hA:Below w.heap.size w (((w.alloc (.cells #[.int .i64 n.kind,.int .i64 n.so,.slice a1 n.labs.length c1,.slice a2 n.to.length c2] 56)).alloc (.cells #[.int .i64 0,.int .i64 0,.slice none 0 0,.slice none 0 0,.int .i64 0,.slice none 0 0] 58)).alloc (.cells #[.int .i64 n.kind,.int .i64 n.so,.slice a1 n.labs.length c1,.slice none 0 0,.int .i64 0,.slice none 0 0] 58)):=(((Below.refl _ _).alloc (Nat.le_refl _) _).alloc (by simp) _).alloc (by simp;omega) _
 have hsz:((((w.alloc (.cells #[.int .i64 n.kind,.int .i64 n.so,.slice a1 n.labs.length c1,.slice a2 n.to.length c2] 56)).alloc (.cells #[.int .i64 0,.int .i64 0,.slice none 0 0,.slice none 0 0,.int .i64 0,.slice none 0 0] 58)).alloc (.cells #[.int .i64 n.kind,.int .i64 n.so,.slice a1 n.labs.length c1,.slice none 0 0,.int .i64 0,.slice none 0 0] 58))).heap.size=w.heap.size+3:=by simp
 have cS:=steps_any n n t a1 a2 a1 a2 c1 c2 c1 c2 B (((w.alloc (.cells #[.int .i64 n.kind,.int .i64 n.so,.slice a1 n.labs.length c1,.slice a2 n.to.length c2] 56)).alloc (.cells #[.int .i64 0,.int .i64 0,.slice none 0 0,.slice none 0 0,.int .i64 0,.slice none 0 0] 58)).alloc (.cells #[.int .i64 n.kind,.int .i64 n.so,.slice a1 n.labs.length c1,.slice none 0 0,.int .i64 0,.slice none 0 0] 58)) (hL.keep ((hz.bl.trans (hA.mono hz.bl.size)).mono hB)) (hT.keep ((hz.bl.trans (hA.mono hz.bl.size)).mono hB)) (hL.keep ((hz.bl.trans (hA.mono hz.bl.size)).mono hB)) (hT.keep ((hz.bl.trans (hA.mono hz.bl.size)).mono hB)) (by rw [hsz];have:=hz.bl.size;omega) hn hn rfl
 have q0:∀j,j<6→((((w.alloc (.cells #[.int .i64 n.kind,.int .i64 n.so,.slice a1 n.labs.length c1,.slice a2 n.to.length c2] 56)).alloc (.cells #[.int .i64 0,.int .i64 0,.slice none 0 0,.slice none 0 0,.int .i64 0,.slice none 0 0] 58)).alloc (.cells #[.int .i64 n.kind,.int .i64 n.so,.slice a1 n.labs.length c1,.slice none 0 0,.int .i64 0,.slice none 0 0] 58))).frozen? ⟨w.heap.size+1+1,j,none⟩=false:=fun j hj=>by go_simp
 have q1:∀j,j<6→j≠3→((((w.alloc (.cells #[.int .i64 n.kind,.int .i64 n.so,.slice a1 n.labs.length c1,.slice a2 n.to.length c2] 56)).alloc (.cells #[.int .i64 0,.int .i64 0,.slice none 0 0,.slice none 0 0,.int .i64 0,.slice none 0 0] 58)).alloc (.cells #[.int .i64 n.kind,.int .i64 n.so,.slice a1 n.labs.length c1,.slice none 0 0,.int .i64 0,.slice none 0 0] 58))).cell? ⟨w.heap.size+1+1,j,none⟩=some (dX n.kind n.so (.slice a1 n.labs.length c1) 0 j):=fun j hj h3=>by
  match j,hj,h3 with
  | 0,_,_=>show ((((w.alloc (.cells #[.int .i64 n.kind,.int .i64 n.so,.slice a1 n.labs.length c1,.slice a2 n.to.length c2] 56)).alloc (.cells #[.int .i64 0,.int .i64 0,.slice none 0 0,.slice none 0 0,.int .i64 0,.slice none 0 0] 58)).alloc (.cells #[.int .i64 n.kind,.int .i64 n.so,.slice a1 n.labs.length c1,.slice none 0 0,.int .i64 0,.slice none 0 0] 58))).cell? ⟨w.heap.size+1+1,0,none⟩=some (.int .i64 n.kind);go_cell
  | 1,_,_=>show ((((w.alloc (.cells #[.int .i64 n.kind,.int .i64 n.so,.slice a1 n.labs.length c1,.slice a2 n.to.length c2] 56)).alloc (.cells #[.int .i64 0,.int .i64 0,.slice none 0 0,.slice none 0 0,.int .i64 0,.slice none 0 0] 58)).alloc (.cells #[.int .i64 n.kind,.int .i64 n.so,.slice a1 n.labs.length c1,.slice none 0 0,.int .i64 0,.slice none 0 0] 58))).cell? ⟨w.heap.size+1+1,1,none⟩=some (.int .i64 n.so);go_cell
  | 2,_,_=>show ((((w.alloc (.cells #[.int .i64 n.kind,.int .i64 n.so,.slice a1 n.labs.length c1,.slice a2 n.to.length c2] 56)).alloc (.cells #[.int .i64 0,.int .i64 0,.slice none 0 0,.slice none 0 0,.int .i64 0,.slice none 0 0] 58)).alloc (.cells #[.int .i64 n.kind,.int .i64 n.so,.slice a1 n.labs.length c1,.slice none 0 0,.int .i64 0,.slice none 0 0] 58))).cell? ⟨w.heap.size+1+1,2,none⟩=some (.slice a1 n.labs.length c1);go_cell
  | 4,_,_=>show ((((w.alloc (.cells #[.int .i64 n.kind,.int .i64 n.so,.slice a1 n.labs.length c1,.slice a2 n.to.length c2] 56)).alloc (.cells #[.int .i64 0,.int .i64 0,.slice none 0 0,.slice none 0 0,.int .i64 0,.slice none 0 0] 58)).alloc (.cells #[.int .i64 n.kind,.int .i64 n.so,.slice a1 n.labs.length c1,.slice none 0 0,.int .i64 0,.slice none 0 0] 58))).cell? ⟨w.heap.size+1+1,4,none⟩=some (.int .i64 0);go_cell
  | 5,_,_=>show ((((w.alloc (.cells #[.int .i64 n.kind,.int .i64 n.so,.slice a1 n.labs.length c1,.slice a2 n.to.length c2] 56)).alloc (.cells #[.int .i64 0,.int .i64 0,.slice none 0 0,.slice none 0 0,.int .i64 0,.slice none 0 0] 58)).alloc (.cells #[.int .i64 n.kind,.int .i64 n.so,.slice a1 n.labs.length c1,.slice none 0 0,.int .i64 0,.slice none 0 0] 58))).cell? ⟨w.heap.size+1+1,5,none⟩=some (.slice none 0 0);go_cell
 have q3:((((w.alloc (.cells #[.int .i64 n.kind,.int .i64 n.so,.slice a1 n.labs.length c1,.slice a2 n.to.length c2] 56)).alloc (.cells #[.int .i64 0,.int .i64 0,.slice none 0 0,.slice none 0 0,.int .i64 0,.slice none 0 0] 58)).alloc (.cells #[.int .i64 n.kind,.int .i64 n.so,.slice a1 n.labs.length c1,.slice none 0 0,.int .i64 0,.slice none 0 0] 58))).cell? ⟨w.heap.size+1+1,3,none⟩=some (.slice none 0 0):=by go_cell
 have q4:(∀j,j<6→((((w.alloc (.cells #[.int .i64 n.kind,.int .i64 n.so,.slice a1 n.labs.length c1,.slice a2 n.to.length c2] 56)).alloc (.cells #[.int .i64 0,.int .i64 0,.slice none 0 0,.slice none 0 0,.int .i64 0,.slice none 0 0] 58)).alloc (.cells #[.int .i64 n.kind,.int .i64 n.so,.slice a1 n.labs.length c1,.slice none 0 0,.int .i64 0,.slice none 0 0] 58))).frozen? ⟨w.heap.size+1,j,none⟩=false)∧∀j,j<6→∃v,((((w.alloc (.cells #[.int .i64 n.kind,.int .i64 n.so,.slice a1 n.labs.length c1,.slice a2 n.to.length c2] 56)).alloc (.cells #[.int .i64 0,.int .i64 0,.slice none 0 0,.slice none 0 0,.int .i64 0,.slice none 0 0] 58)).alloc (.cells #[.int .i64 n.kind,.int .i64 n.so,.slice a1 n.labs.length c1,.slice none 0 0,.int .i64 0,.slice none 0 0] 58))).cell? ⟨w.heap.size+1,j,none⟩=some v:=⟨fun j hj=>by go_simp,fun j hj=>by
  match j,hj with
  | 0,_=>exact ⟨.int .i64 0,by go_cell⟩
  | 1,_=>exact ⟨.int .i64 0,by go_cell⟩
  | 2,_=>exact ⟨.slice none 0 0,by go_cell⟩
  | 3,_=>exact ⟨.slice none 0 0,by go_cell⟩
  | 4,_=>exact ⟨.int .i64 0,by go_cell⟩
  | 5,_=>exact ⟨.slice none 0 0,by go_cell⟩⟩
 have HQ0:=hideK q0;have HQ1:=hideK q1;have HQ3:=hideK q3;have HQ4:=hideK q4;have HZ:=hideK hz;have HA:=hideK hA;have HL:=hideK hL;have HPS:=hideK hps;have HSM:=hideK hsm;have hdb:=hz.ls;have hmb:=hz.mp.lt;have HUB:=hideK (fun j (hj:u.ownBlock=some j)=>(hz.own.lt j hj).2)
 have hln:(stepsP n n t).length≤6:=by
  have e:=congrArg List.length (words_alone n t);have h6:=(shp_len (okN_shp hn)).1;rw [List.length_map]at e;rw [e];unfold wrd;split
  ·simp
  ·split
   ·simp
   ·exact h6
 have enx:(aloD n t zA).nxt=(stepsP n n t).map zA:=rfl;clear q0 q1 q3 q4 hz hA hL hT hps hsm;simp only [ndVal]at cS ⊢;go_enter Tryz.func30,Tryz.ntmps30
 go_wp2_with fail
 refine cS.mono ?_;rintro e w1 ⟨⟨ast,cst,rfl,hst⟩,hb1⟩;have hs1:=hb1.size;have HB1:=hideK (HA.out.trans (hb1.mono HA.out.size));have HD0:=hideK (DB.start (bx:=w.heap.size+1+1) (X:=dX n.kind n.so (.slice a1 n.labs.length c1) 0) HZ.out HB1.out (by omega) (by omega) ((hb1.cell (p:=⟨w.heap.size+1+1,3,none⟩) (by show w.heap.size+1+1<_;omega)).trans HQ3.out) (fun j hj=>(hb1.frozen (p:=⟨w.heap.size+1+1,j,none⟩) (by show w.heap.size+1+1<_;omega)).trans (HQ0.out j hj)) (fun j hj h3=>(hb1.cell (p:=⟨w.heap.size+1+1,j,none⟩) (by show w.heap.size+1+1<_;omega)).trans (HQ1.out j hj h3)))
 have HR1:=hideK (show (∀j,j<6→w1.frozen? ⟨w.heap.size+1,j,none⟩=false)∧∀j,j<6→∃v,w1.cell? ⟨w.heap.size+1,j,none⟩=some v from ⟨fun j hj=>(hb1.frozen (p:=⟨w.heap.size+1,j,none⟩) (by show w.heap.size+1<_;omega)).trans (HQ4.out.1 j hj),fun j hj=>(HQ4.out.2 j hj).imp fun v hv=>(hb1.cell (p:=⟨w.heap.size+1,j,none⟩) (by show w.heap.size+1<_;omega)).trans hv⟩)
 have HST:=hideK (show STL w1 (w.heap.size+3) w1.heap.size (stepsP n n t) ast from by rw [hsz]at hst;exact hst)
 clear cS hb1 HQ0 HQ1 HQ3 HQ4 HA hst;generalize hss:stepsP n n t=ss at *;go_wp2_with fail
 go_loopw [25] (fun i wr=>∃(k:Nat) (v u':Value),k≤ss.length∧i = .int .i64 (k:Int)∧DB w0 w1 db mb (w.heap.size+1+1) ca cb ud u (dX n.kind n.so (.slice a1 n.labs.length c1) 0) (((ss.map zA).take k).foldl addZ ps) (nums ps ((ss.map zA).take k)) u' v wr) (fun i _=>ss.length - (intOf i).toNat)
 case atStart=>exact ⟨0,_,u,Nat.zero_le _,rfl,HD0.out⟩
 case round =>
  obtain ⟨k,v,u',hk,rfl,hD⟩:=hrel;have HD:=hideK hD;have hszr:=hD.sz;have hvl:=hD.own.1;obtain ⟨va,vc,rfl⟩:=sliceH_own hD.own;by_cases hlt:k<ss.length
  ·have hltz:(k:Int)<(ss.length:Int):=by omega
   have hkz:(k:Int)≤6:=by omega
   obtain ⟨sb,so,rfl,⟨hsb,hsb1⟩,hsc⟩:=HST.out.resolve_left (fun q=>by rw [q]at hlt;simp at hlt)
   obtain ⟨s0,s1,s2,s3⟩:=hsc k hlt;have hkb:=hD.fr sb hsb1 (by omega) (by omega) (by omega) (fun e=>by have:=HUB.out sb e.symm;omega)
   have y0:=(World.cell?_of_block (a:=⟨sb,so+k*4,none⟩) hkb).trans s0;have y1:=(World.cell?_of_block (a:=⟨sb,so+k*4+1,none⟩) hkb).trans s1;have y2:=(World.cell?_of_block (a:=⟨sb,so+k*4+2,none⟩) hkb).trans s2;have y3:=(World.cell?_of_block (a:=⟨sb,so+k*4+3,none⟩) hkb).trans s3;have hkm:k<(ss.map zA).length:=by simpa using hlt
   obtain ⟨ft1,ft2⟩:=fold_take (ps:=ps) hkm;have HFT:=hideK (And.intro ft1 ft2);have P:=HPS.out k;rw [enx]at P;have hpk:smPz (ss.map zA)[k]:=HSM.out _ (by rw [enx];exact List.getElem_mem hkm)
   have CN:=hideK (fun (W:World) (h:ZW w0 db mb ca cb ud (((ss.map zA).take k).foldl addZ ps) u' W)=>numberZ_any w0 db mb ca cb ud _ u' (ss.map zA)[k] W h P.ln P.nd P.sm hpk)
   rw [List.getElem_map]at CN HFT;have hlen:(nums ps ((ss.map zA).take k)).length≤6:=by rw [nums_eq,List.length_map,List.length_take];omega
   generalize (addZ (((ss.map zA).take k).foldl addZ ps) (zA ss[k])).idxOf (zA ss[k])=nb at CN HFT;generalize nums ps ((ss.map zA).take k)=tos at *;generalize ss[k]=s at *;obtain ⟨wd,x',y',b⟩:=s;simp only [zA,pkZ]at CN y0 y1 y2 y3;generalize hx:(x':Int)=x at *;generalize hy:(y':Int)=y at *;generalize hm:tos.length=m at *;have HEZ:=hideK (show zA (wd,x',y',b)=((x,-1,b):Pz) from by (try rw [← hx]);(try rw [← hy]);rfl)
   clear hx hy s0 s1 s2 s3 hsc hkb P hpk ft1 ft2 hD hvl;go_wp2_with fail
   have hVD:Below wr.heap.size wr (wr.alloc (.cells #[.string wd,.int .i64 x,.int .i64 y,.bool b] 114)).drew:=((Below.refl _ _).alloc (Nat.le_refl _) _).drew;have HH:=hideK (show wr.heap.size<(wr.alloc (.cells #[.string wd,.int .i64 x,.int .i64 y,.bool b] 114)).drew.heap.size from by simp)
   have c1':(wr.alloc (.cells #[.string wd,.int .i64 x,.int .i64 y,.bool b] 114)).drew.cell? ⟨wr.heap.size,1,none⟩=some (.int .i64 x):=by go_cell
   have c2':(wr.alloc (.cells #[.string wd,.int .i64 x,.int .i64 y,.bool b] 114)).drew.cell? ⟨wr.heap.size,2,none⟩=some (.int .i64 y):=by go_cell
   have c3':(wr.alloc (.cells #[.string wd,.int .i64 x,.int .i64 y,.bool b] 114)).drew.cell? ⟨wr.heap.size,3,none⟩=some (.bool b):=by go_cell
   have HHN:=hideK (show w1.heap.size≤wr.heap.size∧∀j,u'.ownBlock=some j→j≠wr.heap.size from ⟨hszr,fun j hj=>by have:=(HD.out.z.own.lt j hj).2;omega⟩)
   have HVN:=hideK (show ∀j,(Value.slice va m vc).ownBlock=some j→j≠wr.heap.size∧w1.heap.size≤j from fun j hj=>by have:=HD.out.vlt hj;omega)
   replace HD:=hideK (HD.out.kept hVD);have HS0:=hideK (And.intro HD.out.c3 (And.intro c1' (And.intro c2' c3')));have HVD:=hideK (Below.refl (wr.alloc (.cells #[.string wd,.int .i64 x,.int .i64 y,.bool b] 114)).drew.heap.size (wr.alloc (.cells #[.string wd,.int .i64 x,.int .i64 y,.bool b] 114)).drew);clear hVD c1' c2' c3';generalize hV:(wr.alloc (.cells #[.string wd,.int .i64 x,.int .i64 y,.bool b] 114))=V at *;generalize hH:wr.heap.size=H at *;have HHV:=hideK HH.out;have HSA:=hideK (fun (W W':World) (hs:W.cell? ⟨w.heap.size+1+1,3,none⟩=some (.slice va m vc)∧W.cell? ⟨H,1,none⟩=some (.int .i64 x)∧W.cell? ⟨H,2,none⟩=some (.int .i64 y)∧W.cell? ⟨H,3,none⟩=some (.bool b)) (hh:H<W.heap.size) (hb:Below W.heap.size W W')=>show W'.cell? ⟨w.heap.size+1+1,3,none⟩=some (.slice va m vc)∧W'.cell? ⟨H,1,none⟩=some (.int .i64 x)∧W'.cell? ⟨H,2,none⟩=some (.int .i64 y)∧W'.cell? ⟨H,3,none⟩=some (.bool b) from ⟨(hb.cell (p:=⟨w.heap.size+1+1,3,none⟩) (by show w.heap.size+1+1<_;have:=HHN.out.1;omega)).trans hs.1,(hb.cell (p:=⟨H,1,none⟩) hh).trans hs.2.1,(hb.cell (p:=⟨H,2,none⟩) hh).trans hs.2.2.1,(hb.cell (p:=⟨H,3,none⟩) hh).trans hs.2.2.2⟩)
   have HSK:=hideK (fun (W':World) (hb:Below V.drew.heap.size V.drew W')=>HSA.out V.drew W' HS0.out HHV.out hb)
   have HSR:=hideK (fun (W W':World) (hs:W.cell? ⟨w.heap.size+1+1,3,none⟩=some (.slice va m vc)∧W.cell? ⟨H,1,none⟩=some (.int .i64 x)∧W.cell? ⟨H,2,none⟩=some (.int .i64 y)∧W.cell? ⟨H,3,none⟩=some (.bool b)) (hz:V.drew.heap.size≤W.heap.size) (hr:RF mb db u'.ownBlock W W')=>show W'.cell? ⟨w.heap.size+1+1,3,none⟩=some (.slice va m vc)∧W'.cell? ⟨H,1,none⟩=some (.int .i64 x)∧W'.cell? ⟨H,2,none⟩=some (.int .i64 y)∧W'.cell? ⟨H,3,none⟩=some (.bool b) from by
    have hh:H<W.heap.size:=Nat.lt_of_lt_of_le HHV.out hz;have hx:w.heap.size+1+1<W.heap.size:=by have:=HHN.out.1;omega
    have k1:=hr.block (w.heap.size+1+1) hx (by omega) (by omega) (fun e=>HD.out.ubx e.symm)
    have k2:=hr.block H hh (by have:=HHN.out.1;omega) (by have:=HHN.out.1;omega) (fun e=>HHN.out.2 H e.symm rfl)
    exact ⟨(World.cell?_of_block (a:=⟨w.heap.size+1+1,3,none⟩) k1).trans hs.1,(World.cell?_of_block (a:=⟨H,1,none⟩) k2).trans hs.2.1,(World.cell?_of_block (a:=⟨H,2,none⟩) k2).trans hs.2.2.1,(World.cell?_of_block (a:=⟨H,3,none⟩) k2).trans hs.2.2.2⟩)
   have HSG:=hideK (fun (W W':World) (hs:W.cell? ⟨w.heap.size+1+1,3,none⟩=some (.slice va m vc)∧W.cell? ⟨H,1,none⟩=some (.int .i64 x)∧W.cell? ⟨H,2,none⟩=some (.int .i64 y)∧W.cell? ⟨H,3,none⟩=some (.bool b)) (hh:H<W.heap.size) (hx:w.heap.size+1+1<W.heap.size) (hg:W.grownBy W' (Value.slice va m vc).ownBlock)=>show W'.cell? ⟨w.heap.size+1+1,3,none⟩=some (.slice va m vc)∧W'.cell? ⟨H,1,none⟩=some (.int .i64 x)∧W'.cell? ⟨H,2,none⟩=some (.int .i64 y)∧W'.cell? ⟨H,3,none⟩=some (.bool b) from by
    have k1:=hg.block (w.heap.size+1+1) hx (fun e=>by have:=(HVN.out _ e.symm).2;omega)
    have k2:=hg.block H hh (fun e=>(HVN.out _ e.symm).1 rfl)
    exact ⟨(World.cell?_of_block (a:=⟨w.heap.size+1+1,3,none⟩) k1).trans hs.1,(World.cell?_of_block (a:=⟨H,1,none⟩) k2).trans hs.2.1,(World.cell?_of_block (a:=⟨H,2,none⟩) k2).trans hs.2.2.1,(World.cell?_of_block (a:=⟨H,3,none⟩) k2).trans hs.2.2.2⟩)
   refine wp_region_upto (fun W:World=>W.cell? ⟨w.heap.size+1+1,3,none⟩=some (.slice va m vc)∧W.cell? ⟨H,1,none⟩=some (.int .i64 x)∧W.cell? ⟨H,2,none⟩=some (.int .i64 y)∧W.cell? ⟨H,3,none⟩=some (.bool b)) 13 (by kernel_rfl) (HS0.out) (fun hS=>?_)
   refine tkU 0 (.pointer (some ⟨w.heap.size+1+1,0,none⟩)) hS ?_;simp only [Act.put,sA,sB,sC];refine tkU 1 (.pointer (some ⟨w.heap.size+1+1,3,none⟩)) hS ?_;simp only [Act.put,sA,sB,sC];refine tkU 2 (.slice va m vc) hS ?_ (hy:=Or.inl ⟨by rfl,fun W hW=>by have x0:=hW.1;go_simp⟩)
   simp only [Act.put,sA,sB,sC];refine tkU 3 (.pointer (some ⟨db,0,none⟩)) hS ?_;simp only [Act.put,sA,sB,sC];refine tkU 4 (.func (.func 31) #[] #[]) hS ?_;simp only [Act.put,sA,sB,sC];refine tkU 5 (.pointer (some ⟨H,1,none⟩)) hS ?_;simp only [Act.put,sA,sB,sC];refine tkU 6 (.agg #[.int .i64 x,.int .i64 y,.bool b]) hS ?_ (hy:=Or.inl ⟨by rfl,fun W hW=>by obtain ⟨_,x0,x1,x2⟩:=hW;go_simp⟩)
   simp only [Act.put,sA,sB,sC];refine onU 7 (fun K hK=>?_)
   go_simp
   refine (clA_any x y b _).mono ?_;rintro e w4 ⟨rfl,hb4⟩;have HB4:=hideK (HVD.out.trans (hb4.mono HVD.out.size));have HS4:=hideK (HSK.out w4 HB4.out);clear hb4;have hSn:=HS4.out;refine hK.out _ _ hSn ?_;clear hS hK K hSn;intro hS;try simp only [Act.put,sA,sB,sC]
   refine onU 8 (fun K hK=>?_)
   go_simp
   refine (CN.out w4 (HD.out.z.kept HB4.out)).mono ?_;rintro e w5 ⟨rfl,u5,hz5,hr5,hf5⟩;have HD5:=hideK ((HD.out.kept HB4.out).num hz5 hr5 hf5);have HS5:=hideK (HSR.out w4 w5 HS4.out HB4.out.size hr5);have HH5:=hideK (show H<w5.heap.size from Nat.lt_of_lt_of_le HHV.out (Nat.le_trans HB4.out.size hr5.size))
   clear hz5 hr5 hf5;have hSn:=HS5.out;refine hK.out _ _ hSn ?_;clear hS hK K hSn;intro hS;try simp only [Act.put,sA,sB,sC]
   refine onU 9 (fun K hK=>?_)
   go_simp
   have hb6:Below w5.heap.size w5 (w5.alloc (.cells #[.int .i64 (nb:Int)] 3)):=(Below.refl _ _).alloc (Nat.le_refl _) _;have HS6:=hideK (HSA.out w5 _ HS5.out HH5.out hb6);clear hb6;have hSn:=HS6.out;refine hK.out _ _ hSn ?_;clear hS hK K hSn;intro hS;try simp only [Act.put,sA,sB,sC]
   have HO6:=hideK (own_belowG HD5.out.own ((Below.refl _ _).alloc (Nat.le_refl _) (.cells #[.int .i64 (nb:Int)] 3)));have hw15:w1.heap.size≤w5.heap.size:=HD5.out.sz;have HL6:=hideK (World.ownsRow_lit (base:=w1.heap.size) (e:=3) (size:=1) w5 #[.int .i64 (nb:Int)] 1 hw15 (by decide) rfl)
   refine onU 10 (fun K hK=>?_)
   refine step_append_rows _ rfl (.tmp 31) (.tmp 38) 54 rfl w1.heap.size w1.heap.size 3 i1 _ 1 8 Tryz.underlying54 hj hy0 hy1 hy2 rfl (by decide) _ _ _ rfl HO6.out _ _ _ rfl HL6.out (by simp [Value.oneCell']) (by unfold maxLen;omega) (by omega) (by simp;omega) ?_
   intro v7 w7 hO7 hg7 hat7;have HD7:=hideK (HD5.out.put hg7 hO7 hat7);have HS7:=hideK (HSG.out _ w7 HS6.out (by have:=HH5.out;simp;omega) (by have:=HD5.out.b1;simp;omega) hg7)
   have hf7:=HD5.out.frz hg7;obtain ⟨va7,vc7,rfl⟩:=sliceH_own hO7;clear hO7 hg7 hat7;have hSn:=HS7.out;refine hK.out _ _ hSn ?_;clear hS hK K hSn;intro hS;try simp only [Act.put,sA,sB,sC]
   refine onU 11 (fun K hK=>?_)
   go_simp
   have hSn:=hS;refine hK.out _ _ hSn ?_;clear hS hK K hSn;intro hS;try simp only [Act.put,sA,sB,sC]
   refine onU 12 (fun K hK=>?_)
   go_simp
   have hSn:=hS;refine hK.out _ _ hSn ?_;clear hS hK K hSn;intro hS;try simp only [Act.put,sA,sB,sC]
   have x7:=hS.1;refine upto_last (by rw [List.getElem?_toArray];rfl) (by kernel_rfl) (fun K hK=>?_)
   go_simp
   refine hK.out _ _ ?_;clear hS hK K;refine upto_done (by kernel_rfl) ?_ _
   go_wp2_with fail
   go_roundw
   case rel =>
    have h7:=HD7.out;rw [hm]at h7;refine ⟨k+1,.slice va7 (m+1) vc7,u5,by omega,by go_num,?_⟩
    rw [HFT.out.1,HFT.out.2,HEZ.out];exact h7
   case measure=>simp [intOf];omega
  ·have hltz:¬(k:Int)<(ss.length:Int):=by omega
   have hkk:k=ss.length:=by omega
   subst hkk;have etk:(ss.map zA).take ss.length=ss.map zA:=List.take_of_length_le (by simp)
   rw [etk]at HD hvl;have z0:=HD.out.oc 0 (by omega) (by omega)
   have z1:=HD.out.oc 1 (by omega) (by omega)
   have z2:=HD.out.oc 2 (by omega) (by omega)
   have z3:=HD.out.c3;have z4:=HD.out.oc 4 (by omega) (by omega)
   have z5:=HD.out.oc 5 (by omega) (by omega)
   have e0:dX n.kind n.so (.slice a1 n.labs.length c1) 0 0 = .int .i64 n.kind:=rfl;have e1:dX n.kind n.so (.slice a1 n.labs.length c1) 0 1 = .int .i64 n.so:=rfl;have e2:dX n.kind n.so (.slice a1 n.labs.length c1) 0 2 = .slice a1 n.labs.length c1:=rfl;have e4:dX n.kind n.so (.slice a1 n.labs.length c1) 0 4 = .int .i64 0:=rfl;have e5:dX n.kind n.so (.slice a1 n.labs.length c1) 0 5 = .slice none 0 0:=rfl;rw [e0]at z0;rw [e1]at z1;rw [e2]at z2;rw [e4]at z4;rw [e5]at z5;have hkb:=HD.out.fr (w.heap.size+1) (by omega) (by omega) (by omega) (by omega) (fun e=>by have:=HUB.out _ e.symm;omega)
   have HX:=hideK (fun j (hj:j<6)=>(HR1.out.2 j hj).imp fun v hv=>(World.cell?_of_block (a:=⟨w.heap.size+1,j,none⟩) hkb).trans hv)
   obtain ⟨t0,x0⟩:=HX.out 0 (by omega)
   obtain ⟨t1,x1⟩:=HX.out 1 (by omega)
   obtain ⟨t2,x2⟩:=HX.out 2 (by omega)
   obtain ⟨t3,x3⟩:=HX.out 3 (by omega)
   obtain ⟨t4,x4⟩:=HX.out 4 (by omega)
   obtain ⟨t5,x5⟩:=HX.out 5 (by omega)
   have f0:=(World.frozen?_of_block (a:=⟨w.heap.size+1,0,none⟩) hkb).trans (HR1.out.1 0 (by omega))
   have f1:=(World.frozen?_of_block (a:=⟨w.heap.size+1,1,none⟩) hkb).trans (HR1.out.1 1 (by omega))
   have f2:=(World.frozen?_of_block (a:=⟨w.heap.size+1,2,none⟩) hkb).trans (HR1.out.1 2 (by omega))
   have f3:=(World.frozen?_of_block (a:=⟨w.heap.size+1,3,none⟩) hkb).trans (HR1.out.1 3 (by omega))
   have f4:=(World.frozen?_of_block (a:=⟨w.heap.size+1,4,none⟩) hkb).trans (HR1.out.1 4 (by omega))
   have f5:=(World.frozen?_of_block (a:=⟨w.heap.size+1,5,none⟩) hkb).trans (HR1.out.1 5 (by omega))
   obtain ⟨ar,cr,er,hnq⟩:=HD.out.row;have HER:=hideK er;have HP:=hideK (HD.out.post HB1.out HZ.out.bl.size (by omega) (rb:=w.heap.size+1) (by omega) (by omega) hdb hmb HUB.out (.int .i64 n.kind) (.int .i64 n.so) (.slice a1 n.labs.length c1) (.slice va (nums ps (ss.map zA)).length vc) (.int .i64 0) (.slice none 0 0))
   have HNQ:=hideK hnq;clear hkb HX hD hnq er hvl etk e0 e1 e2 e4 e5;go_wp2_with fail
   have r0:(sx6 wr (w.heap.size+1) (.int .i64 n.kind) (.int .i64 n.so) (.slice a1 n.labs.length c1) (.slice va (nums ps (ss.map zA)).length vc) (.int .i64 0) (.slice none 0 0)).cell? ⟨w.heap.size+1,0,none⟩=some (.int .i64 n.kind):=by unfold sx6;go_cell
   have r1:(sx6 wr (w.heap.size+1) (.int .i64 n.kind) (.int .i64 n.so) (.slice a1 n.labs.length c1) (.slice va (nums ps (ss.map zA)).length vc) (.int .i64 0) (.slice none 0 0)).cell? ⟨w.heap.size+1,1,none⟩=some (.int .i64 n.so):=by unfold sx6;go_cell
   have r2:(sx6 wr (w.heap.size+1) (.int .i64 n.kind) (.int .i64 n.so) (.slice a1 n.labs.length c1) (.slice va (nums ps (ss.map zA)).length vc) (.int .i64 0) (.slice none 0 0)).cell? ⟨w.heap.size+1,2,none⟩=some (.slice a1 n.labs.length c1):=by unfold sx6;go_cell
   have r3:(sx6 wr (w.heap.size+1) (.int .i64 n.kind) (.int .i64 n.so) (.slice a1 n.labs.length c1) (.slice va (nums ps (ss.map zA)).length vc) (.int .i64 0) (.slice none 0 0)).cell? ⟨w.heap.size+1,3,none⟩=some (.slice va (nums ps (ss.map zA)).length vc):=by unfold sx6;go_cell
   have r4:(sx6 wr (w.heap.size+1) (.int .i64 n.kind) (.int .i64 n.so) (.slice a1 n.labs.length c1) (.slice va (nums ps (ss.map zA)).length vc) (.int .i64 0) (.slice none 0 0)).cell? ⟨w.heap.size+1,4,none⟩=some (.int .i64 0):=by unfold sx6;go_cell
   have r5:(sx6 wr (w.heap.size+1) (.int .i64 n.kind) (.int .i64 n.so) (.slice a1 n.labs.length c1) (.slice va (nums ps (ss.map zA)).length vc) (.int .i64 0) (.slice none 0 0)).cell? ⟨w.heap.size+1,5,none⟩=some (.slice none 0 0):=by unfold sx6;go_cell
   change bodyPost _ _ _ _ _ (sx6 wr (w.heap.size+1) (.int .i64 n.kind) (.int .i64 n.so) (.slice a1 n.labs.length c1) (.slice va (nums ps (ss.map zA)).length vc) (.int .i64 0) (.slice none 0 0))
   refine bodyPost_ret (v:=.agg #[.int .i64 n.kind,.int .i64 n.so,.slice a1 n.labs.length c1,.slice va (nums ps (ss.map zA)).length vc,.int .i64 0,.slice none 0 0]) (by simp [results,Tryz.results30,go_sem,r0,r1,r2,r3,r4,r5]) rfl ?_
   obtain ⟨p1,p2,p3⟩:=HP.out;have er:=HER.out;injection er with er1 er2 er3
   subst er1;refine ⟨u',a1,c1,va,vc,by rw [enx];rfl,by rw [enx];exact p1,p2,p3,lq_of (B:=B) (fun b hb=>⟨by have:=p1.bl.size;omega,.inl hb,fun e=>by have:=(p1.own.lt b e).1;omega⟩) (HL.out.keep (p1.bl.mono hB)),?_⟩
   ·rw [enx]
    refine HNQ.out.keep (fun b o hb=>World.cell?_of_block (a:=⟨b,o,none⟩) (sx6_block _ _ _ _ _ _ _ _ b (by omega))) fun b hb=>⟨by rw [sx6_size];exact hb.2.1,.inr (by omega),hb.2.2⟩
theorem clB_any(x y:Int)(t:Bool)(w:World):
  Calls Tryz.prog 32 #[.agg #[.int .i64 x,.int .i64 y,.bool t]] w fun e w'=>e = .returned (.agg #[.int .i64 (-1),.int .i64 y,.bool t])∧Below w.heap.size w w':=by
 have hA:Below w.heap.size w ((w.alloc (.cells #[.int .i64 x,.int .i64 y,.bool t] 53)).alloc (.cells #[.int .i64 (-1),.int .i64 y,.bool t] 53)):=((Below.refl w.heap.size w).alloc (Nat.le_refl _) _).alloc (by simp) _
 have r0:((w.alloc (.cells #[.int .i64 x,.int .i64 y,.bool t] 53)).alloc (.cells #[.int .i64 (-1),.int .i64 y,.bool t] 53)).cell? ⟨w.heap.size+1,0,none⟩=some (.int .i64 (-1)):=by go_cell
 have r1:((w.alloc (.cells #[.int .i64 x,.int .i64 y,.bool t] 53)).alloc (.cells #[.int .i64 (-1),.int .i64 y,.bool t] 53)).cell? ⟨w.heap.size+1,1,none⟩=some (.int .i64 y):=by go_cell
 have r2:((w.alloc (.cells #[.int .i64 x,.int .i64 y,.bool t] 53)).alloc (.cells #[.int .i64 (-1),.int .i64 y,.bool t] 53)).cell? ⟨w.heap.size+1,2,none⟩=some (.bool t):=by go_cell
 have HA:=hideK hA;clear hA;go_enter Tryz.func32,Tryz.ntmps32
 go_wp2_with fail
 refine bodyPost_ret (v:=.agg #[.int .i64 (-1),.int .i64 y,.bool t]) (by simp [results,Tryz.results32,go_sem,r0,r1,r2]) rfl ?_
 exact ⟨rfl,HA.out⟩
theorem aloneB_any(n:Nd)(t:Bool)(a1 a2:OAd)(c1 c2 B:Nat)(w0:World)(db mb:Nat)(ca cb ud:Value)(ps:List Pz)(u:Value)(w:World)(hz:ZW w0 db mb ca cb ud ps u w)(hB:B≤w0.heap.size)(hL:LA w0 B n.labs a1)(hT:NI w0 B n.to a2)(hn:okN n)
  (hps:∀i,PS (((aloD n t zB).nxt.take i).foldl addZ ps)) (hsm:∀q∈(aloD n t zB).nxt,smPz q) :
  Calls Tryz.prog 30 #[.pointer (some ⟨db,0,none⟩),ndVal n a1 c1 a2 c2,.bool t,.func (.func 32) #[] #[]] w (DPost w0 db mb ca cb ud B (aloD n t zB) ps u w):=by
 obtain ⟨i1,hj,hy0,hy1,hy2⟩:=info_parts infoInZ;have hA:Below w.heap.size w (((w.alloc (.cells #[.int .i64 n.kind,.int .i64 n.so,.slice a1 n.labs.length c1,.slice a2 n.to.length c2] 56)).alloc (.cells #[.int .i64 0,.int .i64 0,.slice none 0 0,.slice none 0 0,.int .i64 0,.slice none 0 0] 58)).alloc (.cells #[.int .i64 n.kind,.int .i64 n.so,.slice a1 n.labs.length c1,.slice none 0 0,.int .i64 0,.slice none 0 0] 58)):=(((Below.refl _ _).alloc (Nat.le_refl _) _).alloc (by simp) _).alloc (by simp;omega) _
 have hsz:((((w.alloc (.cells #[.int .i64 n.kind,.int .i64 n.so,.slice a1 n.labs.length c1,.slice a2 n.to.length c2] 56)).alloc (.cells #[.int .i64 0,.int .i64 0,.slice none 0 0,.slice none 0 0,.int .i64 0,.slice none 0 0] 58)).alloc (.cells #[.int .i64 n.kind,.int .i64 n.so,.slice a1 n.labs.length c1,.slice none 0 0,.int .i64 0,.slice none 0 0] 58))).heap.size=w.heap.size+3:=by simp
 have cS:=steps_any n n t a1 a2 a1 a2 c1 c2 c1 c2 B (((w.alloc (.cells #[.int .i64 n.kind,.int .i64 n.so,.slice a1 n.labs.length c1,.slice a2 n.to.length c2] 56)).alloc (.cells #[.int .i64 0,.int .i64 0,.slice none 0 0,.slice none 0 0,.int .i64 0,.slice none 0 0] 58)).alloc (.cells #[.int .i64 n.kind,.int .i64 n.so,.slice a1 n.labs.length c1,.slice none 0 0,.int .i64 0,.slice none 0 0] 58)) (hL.keep ((hz.bl.trans (hA.mono hz.bl.size)).mono hB)) (hT.keep ((hz.bl.trans (hA.mono hz.bl.size)).mono hB)) (hL.keep ((hz.bl.trans (hA.mono hz.bl.size)).mono hB)) (hT.keep ((hz.bl.trans (hA.mono hz.bl.size)).mono hB)) (by rw [hsz];have:=hz.bl.size;omega) hn hn rfl
 have q0:∀j,j<6→((((w.alloc (.cells #[.int .i64 n.kind,.int .i64 n.so,.slice a1 n.labs.length c1,.slice a2 n.to.length c2] 56)).alloc (.cells #[.int .i64 0,.int .i64 0,.slice none 0 0,.slice none 0 0,.int .i64 0,.slice none 0 0] 58)).alloc (.cells #[.int .i64 n.kind,.int .i64 n.so,.slice a1 n.labs.length c1,.slice none 0 0,.int .i64 0,.slice none 0 0] 58))).frozen? ⟨w.heap.size+1+1,j,none⟩=false:=fun j hj=>by go_simp
 have q1:∀j,j<6→j≠3→((((w.alloc (.cells #[.int .i64 n.kind,.int .i64 n.so,.slice a1 n.labs.length c1,.slice a2 n.to.length c2] 56)).alloc (.cells #[.int .i64 0,.int .i64 0,.slice none 0 0,.slice none 0 0,.int .i64 0,.slice none 0 0] 58)).alloc (.cells #[.int .i64 n.kind,.int .i64 n.so,.slice a1 n.labs.length c1,.slice none 0 0,.int .i64 0,.slice none 0 0] 58))).cell? ⟨w.heap.size+1+1,j,none⟩=some (dX n.kind n.so (.slice a1 n.labs.length c1) 0 j):=fun j hj h3=>by
  match j,hj,h3 with
  | 0,_,_=>show ((((w.alloc (.cells #[.int .i64 n.kind,.int .i64 n.so,.slice a1 n.labs.length c1,.slice a2 n.to.length c2] 56)).alloc (.cells #[.int .i64 0,.int .i64 0,.slice none 0 0,.slice none 0 0,.int .i64 0,.slice none 0 0] 58)).alloc (.cells #[.int .i64 n.kind,.int .i64 n.so,.slice a1 n.labs.length c1,.slice none 0 0,.int .i64 0,.slice none 0 0] 58))).cell? ⟨w.heap.size+1+1,0,none⟩=some (.int .i64 n.kind);go_cell
  | 1,_,_=>show ((((w.alloc (.cells #[.int .i64 n.kind,.int .i64 n.so,.slice a1 n.labs.length c1,.slice a2 n.to.length c2] 56)).alloc (.cells #[.int .i64 0,.int .i64 0,.slice none 0 0,.slice none 0 0,.int .i64 0,.slice none 0 0] 58)).alloc (.cells #[.int .i64 n.kind,.int .i64 n.so,.slice a1 n.labs.length c1,.slice none 0 0,.int .i64 0,.slice none 0 0] 58))).cell? ⟨w.heap.size+1+1,1,none⟩=some (.int .i64 n.so);go_cell
  | 2,_,_=>show ((((w.alloc (.cells #[.int .i64 n.kind,.int .i64 n.so,.slice a1 n.labs.length c1,.slice a2 n.to.length c2] 56)).alloc (.cells #[.int .i64 0,.int .i64 0,.slice none 0 0,.slice none 0 0,.int .i64 0,.slice none 0 0] 58)).alloc (.cells #[.int .i64 n.kind,.int .i64 n.so,.slice a1 n.labs.length c1,.slice none 0 0,.int .i64 0,.slice none 0 0] 58))).cell? ⟨w.heap.size+1+1,2,none⟩=some (.slice a1 n.labs.length c1);go_cell
  | 4,_,_=>show ((((w.alloc (.cells #[.int .i64 n.kind,.int .i64 n.so,.slice a1 n.labs.length c1,.slice a2 n.to.length c2] 56)).alloc (.cells #[.int .i64 0,.int .i64 0,.slice none 0 0,.slice none 0 0,.int .i64 0,.slice none 0 0] 58)).alloc (.cells #[.int .i64 n.kind,.int .i64 n.so,.slice a1 n.labs.length c1,.slice none 0 0,.int .i64 0,.slice none 0 0] 58))).cell? ⟨w.heap.size+1+1,4,none⟩=some (.int .i64 0);go_cell
  | 5,_,_=>show ((((w.alloc (.cells #[.int .i64 n.kind,.int .i64 n.so,.slice a1 n.labs.length c1,.slice a2 n.to.length c2] 56)).alloc (.cells #[.int .i64 0,.int .i64 0,.slice none 0 0,.slice none 0 0,.int .i64 0,.slice none 0 0] 58)).alloc (.cells #[.int .i64 n.kind,.int .i64 n.so,.slice a1 n.labs.length c1,.slice none 0 0,.int .i64 0,.slice none 0 0] 58))).cell? ⟨w.heap.size+1+1,5,none⟩=some (.slice none 0 0);go_cell
 have q3:((((w.alloc (.cells #[.int .i64 n.kind,.int .i64 n.so,.slice a1 n.labs.length c1,.slice a2 n.to.length c2] 56)).alloc (.cells #[.int .i64 0,.int .i64 0,.slice none 0 0,.slice none 0 0,.int .i64 0,.slice none 0 0] 58)).alloc (.cells #[.int .i64 n.kind,.int .i64 n.so,.slice a1 n.labs.length c1,.slice none 0 0,.int .i64 0,.slice none 0 0] 58))).cell? ⟨w.heap.size+1+1,3,none⟩=some (.slice none 0 0):=by go_cell
 have q4:(∀j,j<6→((((w.alloc (.cells #[.int .i64 n.kind,.int .i64 n.so,.slice a1 n.labs.length c1,.slice a2 n.to.length c2] 56)).alloc (.cells #[.int .i64 0,.int .i64 0,.slice none 0 0,.slice none 0 0,.int .i64 0,.slice none 0 0] 58)).alloc (.cells #[.int .i64 n.kind,.int .i64 n.so,.slice a1 n.labs.length c1,.slice none 0 0,.int .i64 0,.slice none 0 0] 58))).frozen? ⟨w.heap.size+1,j,none⟩=false)∧∀j,j<6→∃v,((((w.alloc (.cells #[.int .i64 n.kind,.int .i64 n.so,.slice a1 n.labs.length c1,.slice a2 n.to.length c2] 56)).alloc (.cells #[.int .i64 0,.int .i64 0,.slice none 0 0,.slice none 0 0,.int .i64 0,.slice none 0 0] 58)).alloc (.cells #[.int .i64 n.kind,.int .i64 n.so,.slice a1 n.labs.length c1,.slice none 0 0,.int .i64 0,.slice none 0 0] 58))).cell? ⟨w.heap.size+1,j,none⟩=some v:=⟨fun j hj=>by go_simp,fun j hj=>by
  match j,hj with
  | 0,_=>exact ⟨.int .i64 0,by go_cell⟩
  | 1,_=>exact ⟨.int .i64 0,by go_cell⟩
  | 2,_=>exact ⟨.slice none 0 0,by go_cell⟩
  | 3,_=>exact ⟨.slice none 0 0,by go_cell⟩
  | 4,_=>exact ⟨.int .i64 0,by go_cell⟩
  | 5,_=>exact ⟨.slice none 0 0,by go_cell⟩⟩
 have HQ0:=hideK q0;have HQ1:=hideK q1;have HQ3:=hideK q3;have HQ4:=hideK q4;have HZ:=hideK hz;have HA:=hideK hA;have HL:=hideK hL;have HPS:=hideK hps;have HSM:=hideK hsm;have hdb:=hz.ls;have hmb:=hz.mp.lt;have HUB:=hideK (fun j (hj:u.ownBlock=some j)=>(hz.own.lt j hj).2)
 have hln:(stepsP n n t).length≤6:=by
  have e:=congrArg List.length (words_alone n t);have h6:=(shp_len (okN_shp hn)).1;rw [List.length_map]at e;rw [e];unfold wrd;split
  ·simp
  ·split
   ·simp
   ·exact h6
 have enx:(aloD n t zB).nxt=(stepsP n n t).map zB:=rfl;clear q0 q1 q3 q4 hz hA hL hT hps hsm;simp only [ndVal]at cS ⊢;go_enter Tryz.func30,Tryz.ntmps30
 go_wp2_with fail
 refine cS.mono ?_;rintro e w1 ⟨⟨ast,cst,rfl,hst⟩,hb1⟩;have hs1:=hb1.size;have HB1:=hideK (HA.out.trans (hb1.mono HA.out.size));have HD0:=hideK (DB.start (bx:=w.heap.size+1+1) (X:=dX n.kind n.so (.slice a1 n.labs.length c1) 0) HZ.out HB1.out (by omega) (by omega) ((hb1.cell (p:=⟨w.heap.size+1+1,3,none⟩) (by show w.heap.size+1+1<_;omega)).trans HQ3.out) (fun j hj=>(hb1.frozen (p:=⟨w.heap.size+1+1,j,none⟩) (by show w.heap.size+1+1<_;omega)).trans (HQ0.out j hj)) (fun j hj h3=>(hb1.cell (p:=⟨w.heap.size+1+1,j,none⟩) (by show w.heap.size+1+1<_;omega)).trans (HQ1.out j hj h3)))
 have HR1:=hideK (show (∀j,j<6→w1.frozen? ⟨w.heap.size+1,j,none⟩=false)∧∀j,j<6→∃v,w1.cell? ⟨w.heap.size+1,j,none⟩=some v from ⟨fun j hj=>(hb1.frozen (p:=⟨w.heap.size+1,j,none⟩) (by show w.heap.size+1<_;omega)).trans (HQ4.out.1 j hj),fun j hj=>(HQ4.out.2 j hj).imp fun v hv=>(hb1.cell (p:=⟨w.heap.size+1,j,none⟩) (by show w.heap.size+1<_;omega)).trans hv⟩)
 have HST:=hideK (show STL w1 (w.heap.size+3) w1.heap.size (stepsP n n t) ast from by rw [hsz]at hst;exact hst)
 clear cS hb1 HQ0 HQ1 HQ3 HQ4 HA hst;generalize hss:stepsP n n t=ss at *;go_wp2_with fail
 go_loopw [25] (fun i wr=>∃(k:Nat) (v u':Value),k≤ss.length∧i = .int .i64 (k:Int)∧DB w0 w1 db mb (w.heap.size+1+1) ca cb ud u (dX n.kind n.so (.slice a1 n.labs.length c1) 0) (((ss.map zB).take k).foldl addZ ps) (nums ps ((ss.map zB).take k)) u' v wr) (fun i _=>ss.length - (intOf i).toNat)
 case atStart=>exact ⟨0,_,u,Nat.zero_le _,rfl,HD0.out⟩
 case round =>
  obtain ⟨k,v,u',hk,rfl,hD⟩:=hrel;have HD:=hideK hD;have hszr:=hD.sz;have hvl:=hD.own.1;obtain ⟨va,vc,rfl⟩:=sliceH_own hD.own;by_cases hlt:k<ss.length
  ·have hltz:(k:Int)<(ss.length:Int):=by omega
   have hkz:(k:Int)≤6:=by omega
   obtain ⟨sb,so,rfl,⟨hsb,hsb1⟩,hsc⟩:=HST.out.resolve_left (fun q=>by rw [q]at hlt;simp at hlt)
   obtain ⟨s0,s1,s2,s3⟩:=hsc k hlt;have hkb:=hD.fr sb hsb1 (by omega) (by omega) (by omega) (fun e=>by have:=HUB.out sb e.symm;omega)
   have y0:=(World.cell?_of_block (a:=⟨sb,so+k*4,none⟩) hkb).trans s0;have y1:=(World.cell?_of_block (a:=⟨sb,so+k*4+1,none⟩) hkb).trans s1;have y2:=(World.cell?_of_block (a:=⟨sb,so+k*4+2,none⟩) hkb).trans s2;have y3:=(World.cell?_of_block (a:=⟨sb,so+k*4+3,none⟩) hkb).trans s3;have hkm:k<(ss.map zB).length:=by simpa using hlt
   obtain ⟨ft1,ft2⟩:=fold_take (ps:=ps) hkm;have HFT:=hideK (And.intro ft1 ft2);have P:=HPS.out k;rw [enx]at P;have hpk:smPz (ss.map zB)[k]:=HSM.out _ (by rw [enx];exact List.getElem_mem hkm)
   have CN:=hideK (fun (W:World) (h:ZW w0 db mb ca cb ud (((ss.map zB).take k).foldl addZ ps) u' W)=>numberZ_any w0 db mb ca cb ud _ u' (ss.map zB)[k] W h P.ln P.nd P.sm hpk)
   rw [List.getElem_map]at CN HFT;have hlen:(nums ps ((ss.map zB).take k)).length≤6:=by rw [nums_eq,List.length_map,List.length_take];omega
   generalize (addZ (((ss.map zB).take k).foldl addZ ps) (zB ss[k])).idxOf (zB ss[k])=nb at CN HFT;generalize nums ps ((ss.map zB).take k)=tos at *;generalize ss[k]=s at *;obtain ⟨wd,x',y',b⟩:=s;simp only [zB,pkZ]at CN y0 y1 y2 y3;generalize hx:(x':Int)=x at *;generalize hy:(y':Int)=y at *;generalize hm:tos.length=m at *;have HEZ:=hideK (show zB (wd,x',y',b)=((-1,y,b):Pz) from by (try rw [← hx]);(try rw [← hy]);rfl)
   clear hx hy s0 s1 s2 s3 hsc hkb P hpk ft1 ft2 hD hvl;go_wp2_with fail
   have hVD:Below wr.heap.size wr (wr.alloc (.cells #[.string wd,.int .i64 x,.int .i64 y,.bool b] 114)).drew:=((Below.refl _ _).alloc (Nat.le_refl _) _).drew;have HH:=hideK (show wr.heap.size<(wr.alloc (.cells #[.string wd,.int .i64 x,.int .i64 y,.bool b] 114)).drew.heap.size from by simp)
   have c1':(wr.alloc (.cells #[.string wd,.int .i64 x,.int .i64 y,.bool b] 114)).drew.cell? ⟨wr.heap.size,1,none⟩=some (.int .i64 x):=by go_cell
   have c2':(wr.alloc (.cells #[.string wd,.int .i64 x,.int .i64 y,.bool b] 114)).drew.cell? ⟨wr.heap.size,2,none⟩=some (.int .i64 y):=by go_cell
   have c3':(wr.alloc (.cells #[.string wd,.int .i64 x,.int .i64 y,.bool b] 114)).drew.cell? ⟨wr.heap.size,3,none⟩=some (.bool b):=by go_cell
   have HHN:=hideK (show w1.heap.size≤wr.heap.size∧∀j,u'.ownBlock=some j→j≠wr.heap.size from ⟨hszr,fun j hj=>by have:=(HD.out.z.own.lt j hj).2;omega⟩)
   have HVN:=hideK (show ∀j,(Value.slice va m vc).ownBlock=some j→j≠wr.heap.size∧w1.heap.size≤j from fun j hj=>by have:=HD.out.vlt hj;omega)
   replace HD:=hideK (HD.out.kept hVD);have HS0:=hideK (And.intro HD.out.c3 (And.intro c1' (And.intro c2' c3')));have HVD:=hideK (Below.refl (wr.alloc (.cells #[.string wd,.int .i64 x,.int .i64 y,.bool b] 114)).drew.heap.size (wr.alloc (.cells #[.string wd,.int .i64 x,.int .i64 y,.bool b] 114)).drew);clear hVD c1' c2' c3';generalize hV:(wr.alloc (.cells #[.string wd,.int .i64 x,.int .i64 y,.bool b] 114))=V at *;generalize hH:wr.heap.size=H at *;have HHV:=hideK HH.out;have HSA:=hideK (fun (W W':World) (hs:W.cell? ⟨w.heap.size+1+1,3,none⟩=some (.slice va m vc)∧W.cell? ⟨H,1,none⟩=some (.int .i64 x)∧W.cell? ⟨H,2,none⟩=some (.int .i64 y)∧W.cell? ⟨H,3,none⟩=some (.bool b)) (hh:H<W.heap.size) (hb:Below W.heap.size W W')=>show W'.cell? ⟨w.heap.size+1+1,3,none⟩=some (.slice va m vc)∧W'.cell? ⟨H,1,none⟩=some (.int .i64 x)∧W'.cell? ⟨H,2,none⟩=some (.int .i64 y)∧W'.cell? ⟨H,3,none⟩=some (.bool b) from ⟨(hb.cell (p:=⟨w.heap.size+1+1,3,none⟩) (by show w.heap.size+1+1<_;have:=HHN.out.1;omega)).trans hs.1,(hb.cell (p:=⟨H,1,none⟩) hh).trans hs.2.1,(hb.cell (p:=⟨H,2,none⟩) hh).trans hs.2.2.1,(hb.cell (p:=⟨H,3,none⟩) hh).trans hs.2.2.2⟩)
   have HSK:=hideK (fun (W':World) (hb:Below V.drew.heap.size V.drew W')=>HSA.out V.drew W' HS0.out HHV.out hb)
   have HSR:=hideK (fun (W W':World) (hs:W.cell? ⟨w.heap.size+1+1,3,none⟩=some (.slice va m vc)∧W.cell? ⟨H,1,none⟩=some (.int .i64 x)∧W.cell? ⟨H,2,none⟩=some (.int .i64 y)∧W.cell? ⟨H,3,none⟩=some (.bool b)) (hz:V.drew.heap.size≤W.heap.size) (hr:RF mb db u'.ownBlock W W')=>show W'.cell? ⟨w.heap.size+1+1,3,none⟩=some (.slice va m vc)∧W'.cell? ⟨H,1,none⟩=some (.int .i64 x)∧W'.cell? ⟨H,2,none⟩=some (.int .i64 y)∧W'.cell? ⟨H,3,none⟩=some (.bool b) from by
    have hh:H<W.heap.size:=Nat.lt_of_lt_of_le HHV.out hz;have hx:w.heap.size+1+1<W.heap.size:=by have:=HHN.out.1;omega
    have k1:=hr.block (w.heap.size+1+1) hx (by omega) (by omega) (fun e=>HD.out.ubx e.symm)
    have k2:=hr.block H hh (by have:=HHN.out.1;omega) (by have:=HHN.out.1;omega) (fun e=>HHN.out.2 H e.symm rfl)
    exact ⟨(World.cell?_of_block (a:=⟨w.heap.size+1+1,3,none⟩) k1).trans hs.1,(World.cell?_of_block (a:=⟨H,1,none⟩) k2).trans hs.2.1,(World.cell?_of_block (a:=⟨H,2,none⟩) k2).trans hs.2.2.1,(World.cell?_of_block (a:=⟨H,3,none⟩) k2).trans hs.2.2.2⟩)
   have HSG:=hideK (fun (W W':World) (hs:W.cell? ⟨w.heap.size+1+1,3,none⟩=some (.slice va m vc)∧W.cell? ⟨H,1,none⟩=some (.int .i64 x)∧W.cell? ⟨H,2,none⟩=some (.int .i64 y)∧W.cell? ⟨H,3,none⟩=some (.bool b)) (hh:H<W.heap.size) (hx:w.heap.size+1+1<W.heap.size) (hg:W.grownBy W' (Value.slice va m vc).ownBlock)=>show W'.cell? ⟨w.heap.size+1+1,3,none⟩=some (.slice va m vc)∧W'.cell? ⟨H,1,none⟩=some (.int .i64 x)∧W'.cell? ⟨H,2,none⟩=some (.int .i64 y)∧W'.cell? ⟨H,3,none⟩=some (.bool b) from by
    have k1:=hg.block (w.heap.size+1+1) hx (fun e=>by have:=(HVN.out _ e.symm).2;omega)
    have k2:=hg.block H hh (fun e=>(HVN.out _ e.symm).1 rfl)
    exact ⟨(World.cell?_of_block (a:=⟨w.heap.size+1+1,3,none⟩) k1).trans hs.1,(World.cell?_of_block (a:=⟨H,1,none⟩) k2).trans hs.2.1,(World.cell?_of_block (a:=⟨H,2,none⟩) k2).trans hs.2.2.1,(World.cell?_of_block (a:=⟨H,3,none⟩) k2).trans hs.2.2.2⟩)
   refine wp_region_upto (fun W:World=>W.cell? ⟨w.heap.size+1+1,3,none⟩=some (.slice va m vc)∧W.cell? ⟨H,1,none⟩=some (.int .i64 x)∧W.cell? ⟨H,2,none⟩=some (.int .i64 y)∧W.cell? ⟨H,3,none⟩=some (.bool b)) 13 (by kernel_rfl) (HS0.out) (fun hS=>?_)
   refine tkU 0 (.pointer (some ⟨w.heap.size+1+1,0,none⟩)) hS ?_;simp only [Act.put,sA,sB,sC];refine tkU 1 (.pointer (some ⟨w.heap.size+1+1,3,none⟩)) hS ?_;simp only [Act.put,sA,sB,sC];refine tkU 2 (.slice va m vc) hS ?_ (hy:=Or.inl ⟨by rfl,fun W hW=>by have x0:=hW.1;go_simp⟩)
   simp only [Act.put,sA,sB,sC];refine tkU 3 (.pointer (some ⟨db,0,none⟩)) hS ?_;simp only [Act.put,sA,sB,sC];refine tkU 4 (.func (.func 32) #[] #[]) hS ?_;simp only [Act.put,sA,sB,sC];refine tkU 5 (.pointer (some ⟨H,1,none⟩)) hS ?_;simp only [Act.put,sA,sB,sC];refine tkU 6 (.agg #[.int .i64 x,.int .i64 y,.bool b]) hS ?_ (hy:=Or.inl ⟨by rfl,fun W hW=>by obtain ⟨_,x0,x1,x2⟩:=hW;go_simp⟩)
   simp only [Act.put,sA,sB,sC];refine onU 7 (fun K hK=>?_)
   go_simp
   refine (clB_any x y b _).mono ?_;rintro e w4 ⟨rfl,hb4⟩;have HB4:=hideK (HVD.out.trans (hb4.mono HVD.out.size));have HS4:=hideK (HSK.out w4 HB4.out);clear hb4;have hSn:=HS4.out;refine hK.out _ _ hSn ?_;clear hS hK K hSn;intro hS;try simp only [Act.put,sA,sB,sC]
   refine onU 8 (fun K hK=>?_)
   go_simp
   refine (CN.out w4 (HD.out.z.kept HB4.out)).mono ?_;rintro e w5 ⟨rfl,u5,hz5,hr5,hf5⟩;have HD5:=hideK ((HD.out.kept HB4.out).num hz5 hr5 hf5);have HS5:=hideK (HSR.out w4 w5 HS4.out HB4.out.size hr5);have HH5:=hideK (show H<w5.heap.size from Nat.lt_of_lt_of_le HHV.out (Nat.le_trans HB4.out.size hr5.size))
   clear hz5 hr5 hf5;have hSn:=HS5.out;refine hK.out _ _ hSn ?_;clear hS hK K hSn;intro hS;try simp only [Act.put,sA,sB,sC]
   refine onU 9 (fun K hK=>?_)
   go_simp
   have hb6:Below w5.heap.size w5 (w5.alloc (.cells #[.int .i64 (nb:Int)] 3)):=(Below.refl _ _).alloc (Nat.le_refl _) _;have HS6:=hideK (HSA.out w5 _ HS5.out HH5.out hb6);clear hb6;have hSn:=HS6.out;refine hK.out _ _ hSn ?_;clear hS hK K hSn;intro hS;try simp only [Act.put,sA,sB,sC]
   have HO6:=hideK (own_belowG HD5.out.own ((Below.refl _ _).alloc (Nat.le_refl _) (.cells #[.int .i64 (nb:Int)] 3)));have hw15:w1.heap.size≤w5.heap.size:=HD5.out.sz;have HL6:=hideK (World.ownsRow_lit (base:=w1.heap.size) (e:=3) (size:=1) w5 #[.int .i64 (nb:Int)] 1 hw15 (by decide) rfl)
   refine onU 10 (fun K hK=>?_)
   refine step_append_rows _ rfl (.tmp 31) (.tmp 38) 54 rfl w1.heap.size w1.heap.size 3 i1 _ 1 8 Tryz.underlying54 hj hy0 hy1 hy2 rfl (by decide) _ _ _ rfl HO6.out _ _ _ rfl HL6.out (by simp [Value.oneCell']) (by unfold maxLen;omega) (by omega) (by simp;omega) ?_
   intro v7 w7 hO7 hg7 hat7;have HD7:=hideK (HD5.out.put hg7 hO7 hat7);have HS7:=hideK (HSG.out _ w7 HS6.out (by have:=HH5.out;simp;omega) (by have:=HD5.out.b1;simp;omega) hg7)
   have hf7:=HD5.out.frz hg7;obtain ⟨va7,vc7,rfl⟩:=sliceH_own hO7;clear hO7 hg7 hat7;have hSn:=HS7.out;refine hK.out _ _ hSn ?_;clear hS hK K hSn;intro hS;try simp only [Act.put,sA,sB,sC]
   refine onU 11 (fun K hK=>?_)
   go_simp
   have hSn:=hS;refine hK.out _ _ hSn ?_;clear hS hK K hSn;intro hS;try simp only [Act.put,sA,sB,sC]
   refine onU 12 (fun K hK=>?_)
   go_simp
   have hSn:=hS;refine hK.out _ _ hSn ?_;clear hS hK K hSn;intro hS;try simp only [Act.put,sA,sB,sC]
   have x7:=hS.1;refine upto_last (by rw [List.getElem?_toArray];rfl) (by kernel_rfl) (fun K hK=>?_)
   go_simp
   refine hK.out _ _ ?_;clear hS hK K;refine upto_done (by kernel_rfl) ?_ _
   go_wp2_with fail
   go_roundw
   case rel =>
    have h7:=HD7.out;rw [hm]at h7;refine ⟨k+1,.slice va7 (m+1) vc7,u5,by omega,by go_num,?_⟩
    rw [HFT.out.1,HFT.out.2,HEZ.out];exact h7
   case measure=>simp [intOf];omega
  ·have hltz:¬(k:Int)<(ss.length:Int):=by omega
   have hkk:k=ss.length:=by omega
   subst hkk;have etk:(ss.map zB).take ss.length=ss.map zB:=List.take_of_length_le (by simp)
   rw [etk]at HD hvl;have z0:=HD.out.oc 0 (by omega) (by omega)
   have z1:=HD.out.oc 1 (by omega) (by omega)
   have z2:=HD.out.oc 2 (by omega) (by omega)
   have z3:=HD.out.c3;have z4:=HD.out.oc 4 (by omega) (by omega)
   have z5:=HD.out.oc 5 (by omega) (by omega)
   have e0:dX n.kind n.so (.slice a1 n.labs.length c1) 0 0 = .int .i64 n.kind:=rfl;have e1:dX n.kind n.so (.slice a1 n.labs.length c1) 0 1 = .int .i64 n.so:=rfl;have e2:dX n.kind n.so (.slice a1 n.labs.length c1) 0 2 = .slice a1 n.labs.length c1:=rfl;have e4:dX n.kind n.so (.slice a1 n.labs.length c1) 0 4 = .int .i64 0:=rfl;have e5:dX n.kind n.so (.slice a1 n.labs.length c1) 0 5 = .slice none 0 0:=rfl;rw [e0]at z0;rw [e1]at z1;rw [e2]at z2;rw [e4]at z4;rw [e5]at z5;have hkb:=HD.out.fr (w.heap.size+1) (by omega) (by omega) (by omega) (by omega) (fun e=>by have:=HUB.out _ e.symm;omega)
   have HX:=hideK (fun j (hj:j<6)=>(HR1.out.2 j hj).imp fun v hv=>(World.cell?_of_block (a:=⟨w.heap.size+1,j,none⟩) hkb).trans hv)
   obtain ⟨t0,x0⟩:=HX.out 0 (by omega)
   obtain ⟨t1,x1⟩:=HX.out 1 (by omega)
   obtain ⟨t2,x2⟩:=HX.out 2 (by omega)
   obtain ⟨t3,x3⟩:=HX.out 3 (by omega)
   obtain ⟨t4,x4⟩:=HX.out 4 (by omega)
   obtain ⟨t5,x5⟩:=HX.out 5 (by omega)
   have f0:=(World.frozen?_of_block (a:=⟨w.heap.size+1,0,none⟩) hkb).trans (HR1.out.1 0 (by omega))
   have f1:=(World.frozen?_of_block (a:=⟨w.heap.size+1,1,none⟩) hkb).trans (HR1.out.1 1 (by omega))
   have f2:=(World.frozen?_of_block (a:=⟨w.heap.size+1,2,none⟩) hkb).trans (HR1.out.1 2 (by omega))
   have f3:=(World.frozen?_of_block (a:=⟨w.heap.size+1,3,none⟩) hkb).trans (HR1.out.1 3 (by omega))
   have f4:=(World.frozen?_of_block (a:=⟨w.heap.size+1,4,none⟩) hkb).trans (HR1.out.1 4 (by omega))
   have f5:=(World.frozen?_of_block (a:=⟨w.heap.size+1,5,none⟩) hkb).trans (HR1.out.1 5 (by omega))
   obtain ⟨ar,cr,er,hnq⟩:=HD.out.row;have HER:=hideK er;have HP:=hideK (HD.out.post HB1.out HZ.out.bl.size (by omega) (rb:=w.heap.size+1) (by omega) (by omega) hdb hmb HUB.out (.int .i64 n.kind) (.int .i64 n.so) (.slice a1 n.labs.length c1) (.slice va (nums ps (ss.map zB)).length vc) (.int .i64 0) (.slice none 0 0))
   have HNQ:=hideK hnq;clear hkb HX hD hnq er hvl etk e0 e1 e2 e4 e5;go_wp2_with fail
   have r0:(sx6 wr (w.heap.size+1) (.int .i64 n.kind) (.int .i64 n.so) (.slice a1 n.labs.length c1) (.slice va (nums ps (ss.map zB)).length vc) (.int .i64 0) (.slice none 0 0)).cell? ⟨w.heap.size+1,0,none⟩=some (.int .i64 n.kind):=by unfold sx6;go_cell
   have r1:(sx6 wr (w.heap.size+1) (.int .i64 n.kind) (.int .i64 n.so) (.slice a1 n.labs.length c1) (.slice va (nums ps (ss.map zB)).length vc) (.int .i64 0) (.slice none 0 0)).cell? ⟨w.heap.size+1,1,none⟩=some (.int .i64 n.so):=by unfold sx6;go_cell
   have r2:(sx6 wr (w.heap.size+1) (.int .i64 n.kind) (.int .i64 n.so) (.slice a1 n.labs.length c1) (.slice va (nums ps (ss.map zB)).length vc) (.int .i64 0) (.slice none 0 0)).cell? ⟨w.heap.size+1,2,none⟩=some (.slice a1 n.labs.length c1):=by unfold sx6;go_cell
   have r3:(sx6 wr (w.heap.size+1) (.int .i64 n.kind) (.int .i64 n.so) (.slice a1 n.labs.length c1) (.slice va (nums ps (ss.map zB)).length vc) (.int .i64 0) (.slice none 0 0)).cell? ⟨w.heap.size+1,3,none⟩=some (.slice va (nums ps (ss.map zB)).length vc):=by unfold sx6;go_cell
   have r4:(sx6 wr (w.heap.size+1) (.int .i64 n.kind) (.int .i64 n.so) (.slice a1 n.labs.length c1) (.slice va (nums ps (ss.map zB)).length vc) (.int .i64 0) (.slice none 0 0)).cell? ⟨w.heap.size+1,4,none⟩=some (.int .i64 0):=by unfold sx6;go_cell
   have r5:(sx6 wr (w.heap.size+1) (.int .i64 n.kind) (.int .i64 n.so) (.slice a1 n.labs.length c1) (.slice va (nums ps (ss.map zB)).length vc) (.int .i64 0) (.slice none 0 0)).cell? ⟨w.heap.size+1,5,none⟩=some (.slice none 0 0):=by unfold sx6;go_cell
   change bodyPost _ _ _ _ _ (sx6 wr (w.heap.size+1) (.int .i64 n.kind) (.int .i64 n.so) (.slice a1 n.labs.length c1) (.slice va (nums ps (ss.map zB)).length vc) (.int .i64 0) (.slice none 0 0))
   refine bodyPost_ret (v:=.agg #[.int .i64 n.kind,.int .i64 n.so,.slice a1 n.labs.length c1,.slice va (nums ps (ss.map zB)).length vc,.int .i64 0,.slice none 0 0]) (by simp [results,Tryz.results30,go_sem,r0,r1,r2,r3,r4,r5]) rfl ?_
   obtain ⟨p1,p2,p3⟩:=HP.out;have er:=HER.out;injection er with er1 er2 er3
   subst er1;refine ⟨u',a1,c1,va,vc,by rw [enx];rfl,by rw [enx];exact p1,p2,p3,lq_of (B:=B) (fun b hb=>⟨by have:=p1.bl.size;omega,.inl hb,fun e=>by have:=(p1.own.lt b e).1;omega⟩) (HL.out.keep (p1.bl.mono hB)),?_⟩
   ·rw [enx]
    refine HNQ.out.keep (fun b o hb=>World.cell?_of_block (a:=⟨b,o,none⟩) (sx6_block _ _ _ _ _ _ _ _ b (by omega))) fun b hb=>⟨by rw [sx6_size];exact hb.2.1,.inr (by omega),hb.2.2⟩
end Go.Proofs.YtnedgkcejlhnbaaGreatDoor
