/-
  The contract of (*below.drafting).withBoth.
-/
import Derived.Test.YtnedgkcejlhnbaaGreatDoorSz
import Derived.Test.YtnedgkcejlhnbaaGreatDoorZi
set_option maxRecDepth 100000
set_option maxHeartbeats 4000000
namespace Go.Proofs.YtnedgkcejlhnbaaGreatDoor
open Go.RowKit Go.Shelf
theorem infoStZ:(Tryz.prog.info? 9).map (fun i=>(i.zero,i.size,i.bytes))=some (some (.string ⟨#[]⟩),1,16):=by kernel_rfl
theorem wr_small{z:Int}(h1:-1000000≤z)(h2:z≤1000000):IntKind.i64.wrap z=z:=by
 simp [IntKind.wrap,IntKind.bits,IntKind.signed];omega
theorem both_len{m n:Nd}(t:Bool)(hm:okN m):(stepsP m n t).length≤6:=by
 have h6:=(shp_len (okN_shp hm)).1;unfold stepsP;split
 ·simp
 ·split
  ·simp
  ·have:=List.length_filterMap_le (labSt m n t) (List.range m.labs.length)
   rw [List.length_range]at this;omega
theorem bothN_any(m n:Nd)(t:Bool)(a1 a2 a3 a4:OAd)(c1 c2 c3 c4 B:Nat)(w0:World)(db mb:Nat)(ca cb ud:Value)(ps:List Pz)(u:Value)(w:World)(hz:ZW w0 db mb ca cb ud ps u w)(hB:B≤w0.heap.size)(hL:LA w0 B m.labs a1)(hT:NI w0 B m.to a2)(hL3:LA w0 B n.labs a3)(hT4:NI w0 B n.to a4)(hm:okN m)(hn:okN n)(hkk:m.kind=n.kind)
  (h0:m.labs.length=0) (hps:∀i,PS (((bothD m n t).nxt.take i).foldl addZ ps)) (hsm:∀q∈(bothD m n t).nxt,smPz q) :
  Calls Tryz.prog 34 #[.pointer (some ⟨db,0,none⟩),ndVal m a1 c1 a2 c2,ndVal n a3 c3 a4 c4,.bool t] w (DPost w0 db mb ca cb ud B (bothD m n t) ps u w):=by
 obtain ⟨i1,hj,hy0,hy1,hy2⟩:=info_parts infoInZ;obtain ⟨i2,hj',hu0,hu1,hu2⟩:=info_parts infoStZ;obtain ⟨W4,hW4⟩:∃W,W=((((w.alloc (.cells #[.int .i64 m.kind,.int .i64 m.so,.slice a1 m.labs.length c1,.slice a2 m.to.length c2] 56)).alloc (.cells #[.int .i64 n.kind,.int .i64 n.so,.slice a3 n.labs.length c3,.slice a4 n.to.length c4] 56)).alloc (.cells #[.int .i64 0,.int .i64 0,.slice none 0 0,.slice none 0 0,.int .i64 0,.slice none 0 0] 58)).alloc (.cells #[.int .i64 m.kind,.int .i64 m.so,.slice none 0 0,.slice none 0 0,.int .i64 0,.slice none 0 0] 58)):=⟨_,rfl⟩;have hA:Below w.heap.size w W4:=by rw [hW4];exact ((((Below.refl _ _).alloc (Nat.le_refl _) _).alloc (by simp) _).alloc (by simp;omega) _).alloc (by simp;omega) _
 have hsz:W4.heap.size=w.heap.size+4:=by rw [hW4];simp
 have hbw:=(hz.bl.trans (hA.mono hz.bl.size)).mono hB;have cS:=steps_any m n t a1 a2 a3 a4 c1 c2 c3 c4 B W4 (hL.keep hbw) (hT.keep hbw) (hL3.keep hbw) (hT4.keep hbw) (by rw [hsz];have:=hz.bl.size;omega) hm hn hkk
 have q0:∀j,j<6→W4.frozen? ⟨(w.heap.size+1+1+1),j,none⟩=false:=fun j hj=>by rw [hW4];go_simp
 have q1:∀j,j<6→j≠3→W4.cell? ⟨(w.heap.size+1+1+1),j,none⟩=some (dX m.kind m.so (.slice none 0 0) 0 j):=fun j hj h3=>by
  rw [hW4];match j,hj,h3 with
  | 0,_,_=>show _=some (Value.int .i64 m.kind);go_cell
  | 1,_,_=>show _=some (Value.int .i64 m.so);go_cell
  | 2,_,_=>show _=some (Value.slice none 0 0);go_cell
  | 4,_,_=>show _=some (Value.int .i64 0);go_cell
  | 5,_,_=>show _=some (Value.slice none 0 0);go_cell
 have q3:W4.cell? ⟨(w.heap.size+1+1+1),3,none⟩=some (.slice none 0 0):=by rw [hW4];go_cell
 have q5:W4.cell? ⟨w.heap.size,2,none⟩=some (.slice a1 m.labs.length c1):=by rw [hW4];go_cell
 have q4:(∀j,j<6→W4.frozen? ⟨(w.heap.size+1+1),j,none⟩=false)∧∀j,j<6→∃v,W4.cell? ⟨(w.heap.size+1+1),j,none⟩=some v:=⟨fun j hj=>by rw [hW4];go_simp,fun j hj=>by
  rw [hW4];match j,hj with
  | 0,_=>exact ⟨.int .i64 0,by go_cell⟩
  | 1,_=>exact ⟨.int .i64 0,by go_cell⟩
  | 2,_=>exact ⟨.slice none 0 0,by go_cell⟩
  | 3,_=>exact ⟨.slice none 0 0,by go_cell⟩
  | 4,_=>exact ⟨.int .i64 0,by go_cell⟩
  | 5,_=>exact ⟨.slice none 0 0,by go_cell⟩⟩
 have HW4:=hideK hW4;clear hW4;have HQ0:=hideK q0;have HQ1:=hideK q1;have HQ3:=hideK q3;have HQ4:=hideK q4;have HQ5:=hideK q5;have HZ:=hideK hz;have HA:=hideK hA;have HPS:=hideK hps;have HSM:=hideK hsm;have hdb:=hz.ls;have hmb:=hz.mp.lt;have HUB:=hideK (fun j (hj:u.ownBlock=some j)=>(hz.own.lt j hj).2)
 have hln:=both_len (n:=n) t hm;have HDR:=hideK (show (bothD m n t).kind=m.kind∧(bothD m n t).so=m.so∧(bothD m n t).labs=[]∧(bothD m n t).nxt=(stepsP m n t).map zC∧(bothD m n t).spare=0 from ⟨rfl,rfl,if_pos h0,rfl,if_pos h0⟩)
 have hlz:¬(0:Int)<(m.labs.length:Int):=by omega
 clear q0 q1 q3 q4 q5 hz hA hL hT hL3 hT4 hps hsm hm hn hbw hkk h0;simp only [ndVal]at cS ⊢;go_enter Tryz.func34,Tryz.ntmps34
 go_wp2_with fail
 rw [← HW4.out];clear HW4;refine cS.mono ?_;rintro e w1 ⟨⟨ast,cst,rfl,hst⟩,hb1⟩;have hs1:=hb1.size;have HB1:=hideK (HA.out.trans (hb1.mono HA.out.size));have HD0:=hideK (DB.start (bx:=(w.heap.size+1+1+1)) (X:=dX m.kind m.so (.slice none 0 0) 0) HZ.out HB1.out (by omega) (by omega) ((hb1.cell (p:=⟨(w.heap.size+1+1+1),3,none⟩) (by show (w.heap.size+1+1+1)<_;omega)).trans HQ3.out) (fun j hj=>(hb1.frozen (p:=⟨(w.heap.size+1+1+1),j,none⟩) (by show (w.heap.size+1+1+1)<_;omega)).trans (HQ0.out j hj)) (fun j hj h3=>(hb1.cell (p:=⟨(w.heap.size+1+1+1),j,none⟩) (by show (w.heap.size+1+1+1)<_;omega)).trans (HQ1.out j hj h3)))
 have HR1:=hideK (show (∀j,j<6→w1.frozen? ⟨(w.heap.size+1+1),j,none⟩=false)∧∀j,j<6→∃v,w1.cell? ⟨(w.heap.size+1+1),j,none⟩=some v from ⟨fun j hj=>(hb1.frozen (p:=⟨(w.heap.size+1+1),j,none⟩) (by show (w.heap.size+1+1)<_;omega)).trans (HQ4.out.1 j hj),fun j hj=>(HQ4.out.2 j hj).imp fun v hv=>(hb1.cell (p:=⟨(w.heap.size+1+1),j,none⟩) (by show (w.heap.size+1+1)<_;omega)).trans hv⟩)
 have HM2:=hideK (show w1.cell? ⟨w.heap.size,2,none⟩=some (.slice a1 m.labs.length c1) from (hb1.cell (p:=⟨w.heap.size,2,none⟩) (by show w.heap.size<_;omega)).trans HQ5.out)
 have HST:=hideK (show STL w1 (w.heap.size+4) w1.heap.size (stepsP m n t) ast from by rw [hsz]at hst;exact hst)
 clear cS hb1 HQ0 HQ1 HQ3 HQ4 HQ5 HA hst;have HMB:=hideK (fun (X:Nat→Value) (ps':List Pz) (tos:List Nat) (u' v:Value) (W:World) (D:DB w0 w1 db mb (w.heap.size+1+1+1) ca cb ud u X ps' tos u' v W)=>show W.cell? ⟨w.heap.size,2,none⟩=some (.slice a1 m.labs.length c1) from (World.cell?_of_block (a:=⟨w.heap.size,2,none⟩) (D.fr w.heap.size (by omega) (by omega) (by omega) (by omega) (fun e=>by have:=HUB.out _ e.symm;omega))).trans HM2.out)
 generalize hss:stepsP m n t=ss at *;go_wp2_with fail
 go_loopw [23] (fun i wr=>∃(k:Nat) (v u' lv:Value),k≤ss.length∧i = .int .i64 (k:Int)∧DL w0 w1 db mb (w.heap.size+1+1+1) ca cb ud u m.kind m.so 0 (((ss.map zC).take k).foldl addZ ps) (nums ps ((ss.map zC).take k)) [] u' v lv wr) (fun i _=>ss.length - (intOf i).toNat)
 case atStart=>exact ⟨0,_,u,.slice none 0 0,Nat.zero_le _,rfl,HD0.out,World.ownsRow_nil _ _ _ _,fun j hj=>by simp [Value.ownBlock]at hj,fun j hj=>by simp [Value.ownBlock]at hj⟩
 case round =>
  obtain ⟨k,v,u',lv,hk,rfl,hD⟩:=hrel;have HD:=hideK hD;have hszr:=hD.d.sz;obtain ⟨va,vc,rfl⟩:=sliceH_own hD.d.own;obtain ⟨la,lc,hlv⟩:=sliceH_own hD.lo;rw [List.length_nil]at hlv;subst hlv;by_cases hlt:k<ss.length
  ·have hltz:(k:Int)<(ss.length:Int):=by omega
   have hkz:(k:Int)≤6:=by omega
   obtain ⟨sb,so,rfl,⟨hsb,hsb1⟩,hsc⟩:=HST.out.resolve_left (fun q=>by rw [q]at hlt;simp at hlt)
   obtain ⟨s0,s1,s2,s3⟩:=hsc k hlt;have hkb:=hD.d.fr sb hsb1 (by omega) (by omega) (by omega) (fun e=>by have:=HUB.out sb e.symm;omega)
   have y0:=(World.cell?_of_block (a:=⟨sb,so+k*4,none⟩) hkb).trans s0;have y1:=(World.cell?_of_block (a:=⟨sb,so+k*4+1,none⟩) hkb).trans s1;have y2:=(World.cell?_of_block (a:=⟨sb,so+k*4+2,none⟩) hkb).trans s2;have y3:=(World.cell?_of_block (a:=⟨sb,so+k*4+3,none⟩) hkb).trans s3;have hkm:k<(ss.map zC).length:=by simpa using hlt
   obtain ⟨ft1,ft2⟩:=fold_take (ps:=ps) hkm;have HFT:=hideK (And.intro ft1 ft2);have P:=HPS.out k;rw [HDR.out.2.2.2.1]at P;have hpk:smPz (ss.map zC)[k]:=HSM.out _ (by rw [HDR.out.2.2.2.1];exact List.getElem_mem hkm)
   have CN:=hideK (fun (W:World) (h:ZW w0 db mb ca cb ud (((ss.map zC).take k).foldl addZ ps) u' W)=>numberZ_any w0 db mb ca cb ud _ u' (ss.map zC)[k] W h P.ln P.nd P.sm hpk)
   rw [List.getElem_map]at CN HFT;have hlen:(nums ps ((ss.map zC).take k)).length≤6:=by rw [nums_eq,List.length_map,List.length_take];omega
   generalize (addZ (((ss.map zC).take k).foldl addZ ps) (zC ss[k])).idxOf (zC ss[k])=nb at CN HFT;generalize nums ps ((ss.map zC).take k)=tos at *;generalize ss[k]=s at *;obtain ⟨wd,x',y',b⟩:=s;simp only [zC,pkZ]at CN y0 y1 y2 y3;generalize hx:(x':Int)=x at *;generalize hy:(y':Int)=y at *;generalize hqm:tos.length=q at *;have HEZ:=hideK (show zC (wd,x',y',b)=((x,y,b):Pz) from by rw [← hx,← hy];rfl)
   clear hx hy s0 s1 s2 s3 hsc hkb P hpk ft1 ft2 hD;go_wp2_with fail
   have hVD:Below wr.heap.size wr (wr.alloc (.cells #[.string wd,.int .i64 x,.int .i64 y,.bool b] 114)).drew:=((Below.refl _ _).alloc (Nat.le_refl _) _).drew;have HH:=hideK (show wr.heap.size<(wr.alloc (.cells #[.string wd,.int .i64 x,.int .i64 y,.bool b] 114)).drew.heap.size from by simp)
   have c0':(wr.alloc (.cells #[.string wd,.int .i64 x,.int .i64 y,.bool b] 114)).drew.cell? ⟨wr.heap.size,0,none⟩=some (.string wd):=by go_cell
   have c1':(wr.alloc (.cells #[.string wd,.int .i64 x,.int .i64 y,.bool b] 114)).drew.cell? ⟨wr.heap.size,1,none⟩=some (.int .i64 x):=by go_cell
   have c2':(wr.alloc (.cells #[.string wd,.int .i64 x,.int .i64 y,.bool b] 114)).drew.cell? ⟨wr.heap.size,2,none⟩=some (.int .i64 y):=by go_cell
   have c3':(wr.alloc (.cells #[.string wd,.int .i64 x,.int .i64 y,.bool b] 114)).drew.cell? ⟨wr.heap.size,3,none⟩=some (.bool b):=by go_cell
   have HHN:=hideK (show w1.heap.size≤wr.heap.size∧∀j,u'.ownBlock=some j→j≠wr.heap.size from ⟨hszr,fun j hj=>by have:=(HD.out.d.z.own.lt j hj).2;omega⟩)
   have HVN:=hideK (show ∀j,(Value.slice va q vc).ownBlock=some j→j≠wr.heap.size∧w1.heap.size≤j from fun j hj=>by have:=HD.out.d.vlt hj;omega)
   replace HD:=hideK (HD.out.kept hVD);have HS0:=hideK (And.intro HD.out.d.c3 (And.intro c0' (And.intro c1' (And.intro c2' c3'))));clear hVD c0' c1' c2' c3';generalize hV:(wr.alloc (.cells #[.string wd,.int .i64 x,.int .i64 y,.bool b] 114))=V at *;generalize hH:wr.heap.size=H at *;have HHV:=hideK HH.out;have HSA:=hideK (fun (W W':World) (hs:W.cell? ⟨(w.heap.size+1+1+1),3,none⟩=some (.slice va q vc)∧W.cell? ⟨H,0,none⟩=some (.string wd)∧W.cell? ⟨H,1,none⟩=some (.int .i64 x)∧W.cell? ⟨H,2,none⟩=some (.int .i64 y)∧W.cell? ⟨H,3,none⟩=some (.bool b)) (hh:H<W.heap.size) (hb:Below W.heap.size W W')=>show W'.cell? ⟨(w.heap.size+1+1+1),3,none⟩=some (.slice va q vc)∧W'.cell? ⟨H,0,none⟩=some (.string wd)∧W'.cell? ⟨H,1,none⟩=some (.int .i64 x)∧W'.cell? ⟨H,2,none⟩=some (.int .i64 y)∧W'.cell? ⟨H,3,none⟩=some (.bool b) from ⟨(hb.cell (p:=⟨(w.heap.size+1+1+1),3,none⟩) (by show (w.heap.size+1+1+1)<_;have:=HHN.out.1;omega)).trans hs.1,(hb.cell (p:=⟨H,0,none⟩) hh).trans hs.2.1,(hb.cell (p:=⟨H,1,none⟩) hh).trans hs.2.2.1,(hb.cell (p:=⟨H,2,none⟩) hh).trans hs.2.2.2.1,(hb.cell (p:=⟨H,3,none⟩) hh).trans hs.2.2.2.2⟩)
   have HSR:=hideK (fun (W':World) (hr:RF mb db u'.ownBlock V.drew W')=>show W'.cell? ⟨(w.heap.size+1+1+1),3,none⟩=some (.slice va q vc)∧W'.cell? ⟨H,0,none⟩=some (.string wd)∧W'.cell? ⟨H,1,none⟩=some (.int .i64 x)∧W'.cell? ⟨H,2,none⟩=some (.int .i64 y)∧W'.cell? ⟨H,3,none⟩=some (.bool b) from by
    have hs:=HS0.out;have hx:(w.heap.size+1+1+1)<V.drew.heap.size:=by have:=HHN.out.1;have:=HHV.out;omega
    have k1:=hr.block (w.heap.size+1+1+1) hx (by omega) (by omega) (fun e=>HD.out.d.ubx e.symm)
    have k2:=hr.block H HHV.out (by have:=HHN.out.1;omega) (by have:=HHN.out.1;omega) (fun e=>HHN.out.2 H e.symm rfl)
    exact ⟨(World.cell?_of_block (a:=⟨(w.heap.size+1+1+1),3,none⟩) k1).trans hs.1,(World.cell?_of_block (a:=⟨H,0,none⟩) k2).trans hs.2.1,(World.cell?_of_block (a:=⟨H,1,none⟩) k2).trans hs.2.2.1,(World.cell?_of_block (a:=⟨H,2,none⟩) k2).trans hs.2.2.2.1,(World.cell?_of_block (a:=⟨H,3,none⟩) k2).trans hs.2.2.2.2⟩)
   have HSG:=hideK (fun (W W':World) (hs:W.cell? ⟨(w.heap.size+1+1+1),3,none⟩=some (.slice va q vc)∧W.cell? ⟨H,0,none⟩=some (.string wd)∧W.cell? ⟨H,1,none⟩=some (.int .i64 x)∧W.cell? ⟨H,2,none⟩=some (.int .i64 y)∧W.cell? ⟨H,3,none⟩=some (.bool b)) (hh:H<W.heap.size) (hx:(w.heap.size+1+1+1)<W.heap.size) (hg:W.grownBy W' (Value.slice va q vc).ownBlock)=>show W'.cell? ⟨(w.heap.size+1+1+1),3,none⟩=some (.slice va q vc)∧W'.cell? ⟨H,0,none⟩=some (.string wd)∧W'.cell? ⟨H,1,none⟩=some (.int .i64 x)∧W'.cell? ⟨H,2,none⟩=some (.int .i64 y)∧W'.cell? ⟨H,3,none⟩=some (.bool b) from by
    have k1:=hg.block (w.heap.size+1+1+1) hx (fun e=>by have:=(HVN.out _ e.symm).2;omega)
    have k2:=hg.block H hh (fun e=>(HVN.out _ e.symm).1 rfl)
    exact ⟨(World.cell?_of_block (a:=⟨(w.heap.size+1+1+1),3,none⟩) k1).trans hs.1,(World.cell?_of_block (a:=⟨H,0,none⟩) k2).trans hs.2.1,(World.cell?_of_block (a:=⟨H,1,none⟩) k2).trans hs.2.2.1,(World.cell?_of_block (a:=⟨H,2,none⟩) k2).trans hs.2.2.2.1,(World.cell?_of_block (a:=⟨H,3,none⟩) k2).trans hs.2.2.2.2⟩)
   refine wp_region_upto (fun W:World=>W.cell? ⟨(w.heap.size+1+1+1),3,none⟩=some (.slice va q vc)∧W.cell? ⟨H,0,none⟩=some (.string wd)∧W.cell? ⟨H,1,none⟩=some (.int .i64 x)∧W.cell? ⟨H,2,none⟩=some (.int .i64 y)∧W.cell? ⟨H,3,none⟩=some (.bool b)) 11 (by kernel_rfl) (HS0.out) (fun hS=>?_)
   refine tkU 0 (.pointer (some ⟨(w.heap.size+1+1+1),0,none⟩)) hS ?_;simp only [Act.put,sA,sB,sC];refine tkU 1 (.pointer (some ⟨(w.heap.size+1+1+1),3,none⟩)) hS ?_;simp only [Act.put,sA,sB,sC];refine tkU 2 (.slice va q vc) hS ?_ (hy:=Or.inl ⟨by rfl,fun W hW=>by have x0:=hW.1;go_simp⟩)
   simp only [Act.put,sA,sB,sC];refine tkU 3 (.pointer (some ⟨db,0,none⟩)) hS ?_;simp only [Act.put,sA,sB,sC];refine tkU 4 (.pointer (some ⟨H,1,none⟩)) hS ?_;simp only [Act.put,sA,sB,sC];refine tkU 5 (.agg #[.int .i64 x,.int .i64 y,.bool b]) hS ?_ (hy:=Or.inl ⟨by rfl,fun W hW=>by obtain ⟨_,_,x0,x1,x2⟩:=hW;go_simp⟩)
   simp only [Act.put,sA,sB,sC];refine onU 6 (fun K hK=>?_)
   go_simp
   refine (CN.out V.drew HD.out.d.z).mono ?_;rintro e w5 ⟨rfl,u5,hz5,hr5,hf5⟩;have HD5:=hideK (HD.out.num hz5 hr5 hf5);have HS5:=hideK (HSR.out w5 hr5);have HH5:=hideK (show H<w5.heap.size from Nat.lt_of_lt_of_le HHV.out hr5.size)
   clear hz5 hr5 hf5;have hSn:=HS5.out;refine hK.out _ _ hSn ?_;clear hS hK K hSn;intro hS;try simp only [Act.put,sA,sB,sC]
   refine onU 7 (fun K hK=>?_)
   go_simp
   have hb6:Below w5.heap.size w5 (w5.alloc (.cells #[.int .i64 (nb:Int)] 3)):=(Below.refl _ _).alloc (Nat.le_refl _) _;have HS6:=hideK (HSA.out w5 _ HS5.out HH5.out hb6);clear hb6;have hSn:=HS6.out;refine hK.out _ _ hSn ?_;clear hS hK K hSn;intro hS;try simp only [Act.put,sA,sB,sC]
   have HO6:=hideK (own_belowG HD5.out.d.own ((Below.refl _ _).alloc (Nat.le_refl _) (.cells #[.int .i64 (nb:Int)] 3)));have hw15:w1.heap.size≤w5.heap.size:=HD5.out.d.sz;have HL6:=hideK (World.ownsRow_lit (base:=w1.heap.size) (e:=3) (size:=1) w5 #[.int .i64 (nb:Int)] 1 hw15 (by decide) rfl)
   refine onU 8 (fun K hK=>?_)
   refine step_append_rows _ rfl (.tmp 29) (.tmp 34) 54 rfl w1.heap.size w1.heap.size 3 i1 _ 1 8 Tryz.underlying54 hj hy0 hy1 hy2 rfl (by decide) _ _ _ rfl HO6.out _ _ _ rfl HL6.out (by simp [Value.oneCell']) (by unfold maxLen;omega) (by omega) (by simp;omega) ?_
   intro v7 w7 hO7 hg7 hat7;have HD7:=hideK (HD5.out.put hg7 hO7 hat7);have HS7:=hideK (HSG.out _ w7 HS6.out (by have:=HH5.out;simp;omega) (by have:=HD5.out.d.b1;simp;omega) hg7)
   have hf7:=HD5.out.d.frz hg7;have hH7:H<w7.heap.size:=by have h1:=HH5.out;have h2:=hg7.size;simp at h2;omega
   obtain ⟨va7,vc7,rfl⟩:=sliceH_own hO7;clear hO7 hg7 hat7;have hSn:=HS7.out;refine hK.out _ _ hSn ?_;clear hS hK K hSn;intro hS;try simp only [Act.put,sA,sB,sC]
   refine onU 9 (fun K hK=>?_)
   go_simp
   have hSn:=hS;refine hK.out _ _ hSn ?_;clear hS hK K hSn;intro hS;try simp only [Act.put,sA,sB,sC]
   refine onU 10 (fun K hK=>?_)
   go_simp
   have hSn:=hS;refine hK.out _ _ hSn ?_;clear hS hK K hSn;intro hS;try simp only [Act.put,sA,sB,sC]
   have x7:=hS.1;have HH0:=hideK (show (w7.setCell ⟨(w.heap.size+1+1+1),3,none⟩ (.slice va7 (tos.length+1) vc7)).cell? ⟨H,0,none⟩=some (.string wd) from (World.cell?_setCell_other _ _ _ _ (by intro e;injection e with e;have:=HHN.out.1;omega)).trans hS.2.1)
   refine upto_last (by rw [List.getElem?_toArray];rfl) (by kernel_rfl) (fun K hK=>?_)
   go_simp
   refine hK.out _ _ ?_;clear hS hK K;refine upto_done (by kernel_rfl) ?_ _
   have HD8:=hideK HD7.out;have m2:=HMB.out _ _ _ _ _ _ HD8.out.d;rw [hqm]at HD8 m2;go_wp2_with fail
   go_roundw
   case rel =>
    have h7:=HD8.out;refine ⟨k+1,.slice va7 (q+1) vc7,u5,.slice la 0 lc,by omega,by go_num,?_⟩
    rw [HFT.out.1,HFT.out.2,HEZ.out];exact h7
   case measure=>simp [intOf];omega
  ·have hltz:¬(k:Int)<(ss.length:Int):=by omega
   have hkk:k=ss.length:=by omega
   subst hkk;have etk:(ss.map zC).take ss.length=ss.map zC:=List.take_of_length_le (by simp)
   rw [etk]at HD;have m2:=HMB.out _ _ _ _ _ _ HD.out.d;have z0:=HD.out.d.oc 0 (by omega) (by omega)
   have z1:=HD.out.d.oc 1 (by omega) (by omega)
   have z2:=HD.out.d.oc 2 (by omega) (by omega)
   have z3:=HD.out.d.c3;have z4:=HD.out.d.oc 4 (by omega) (by omega)
   have z5:=HD.out.d.oc 5 (by omega) (by omega)
   have e0:dX m.kind m.so (.slice la 0 lc) 0 0 = .int .i64 m.kind:=rfl;have e1:dX m.kind m.so (.slice la 0 lc) 0 1 = .int .i64 m.so:=rfl;have e2:dX m.kind m.so (.slice la 0 lc) 0 2 = .slice la 0 lc:=rfl;have e4:dX m.kind m.so (.slice la 0 lc) 0 4 = .int .i64 0:=rfl;have e5:dX m.kind m.so (.slice la 0 lc) 0 5 = .slice none 0 0:=rfl;rw [e0]at z0;rw [e1]at z1;rw [e2]at z2;rw [e4]at z4;rw [e5]at z5;have hkb:=HD.out.d.fr (w.heap.size+1+1) (by omega) (by omega) (by omega) (by omega) (fun e=>by have:=HUB.out _ e.symm;omega)
   have HX:=hideK (fun j (hj:j<6)=>(HR1.out.2 j hj).imp fun v hv=>(World.cell?_of_block (a:=⟨(w.heap.size+1+1),j,none⟩) hkb).trans hv)
   obtain ⟨t0,x0⟩:=HX.out 0 (by omega)
   obtain ⟨t1,x1⟩:=HX.out 1 (by omega)
   obtain ⟨t2,x2⟩:=HX.out 2 (by omega)
   obtain ⟨t3,x3⟩:=HX.out 3 (by omega)
   obtain ⟨t4,x4⟩:=HX.out 4 (by omega)
   obtain ⟨t5,x5⟩:=HX.out 5 (by omega)
   have f0:=(World.frozen?_of_block (a:=⟨(w.heap.size+1+1),0,none⟩) hkb).trans (HR1.out.1 0 (by omega))
   have f1:=(World.frozen?_of_block (a:=⟨(w.heap.size+1+1),1,none⟩) hkb).trans (HR1.out.1 1 (by omega))
   have f2:=(World.frozen?_of_block (a:=⟨(w.heap.size+1+1),2,none⟩) hkb).trans (HR1.out.1 2 (by omega))
   have f3:=(World.frozen?_of_block (a:=⟨(w.heap.size+1+1),3,none⟩) hkb).trans (HR1.out.1 3 (by omega))
   have f4:=(World.frozen?_of_block (a:=⟨(w.heap.size+1+1),4,none⟩) hkb).trans (HR1.out.1 4 (by omega))
   have f5:=(World.frozen?_of_block (a:=⟨(w.heap.size+1+1),5,none⟩) hkb).trans (HR1.out.1 5 (by omega))
   have HDS:=HD;obtain ⟨ar,cr,er,hnq⟩:=HDS.out.d.row;have HER:=hideK er;obtain ⟨ar2,cr2,er2,hlq⟩:=HDS.out.lrow;have HER2:=hideK er2;have HP:=hideK (HDS.out.d.post HB1.out HZ.out.bl.size (by omega) (rb:=(w.heap.size+1+1)) (by omega) (by omega) hdb hmb HUB.out (.int .i64 m.kind) (.int .i64 m.so) (.slice la 0 lc) (.slice va (nums ps (ss.map zC)).length vc) (.int .i64 0) (.slice none 0 0))
   have HNQ:=hideK hnq;have HLQ:=hideK hlq;clear hkb HX hnq er er2 hlq e0 e1 e2 e4 e5;go_wp2_with fail
   have r0:(sx6 wr (w.heap.size+1+1) (.int .i64 m.kind) (.int .i64 m.so) (.slice la 0 lc) (.slice va (nums ps (ss.map zC)).length vc) (.int .i64 0) (.slice none 0 0)).cell? ⟨(w.heap.size+1+1),0,none⟩=some (.int .i64 m.kind):=by unfold sx6;go_cell
   have r1:(sx6 wr (w.heap.size+1+1) (.int .i64 m.kind) (.int .i64 m.so) (.slice la 0 lc) (.slice va (nums ps (ss.map zC)).length vc) (.int .i64 0) (.slice none 0 0)).cell? ⟨(w.heap.size+1+1),1,none⟩=some (.int .i64 m.so):=by unfold sx6;go_cell
   have r2:(sx6 wr (w.heap.size+1+1) (.int .i64 m.kind) (.int .i64 m.so) (.slice la 0 lc) (.slice va (nums ps (ss.map zC)).length vc) (.int .i64 0) (.slice none 0 0)).cell? ⟨(w.heap.size+1+1),2,none⟩=some (.slice la 0 lc):=by unfold sx6;go_cell
   have r3:(sx6 wr (w.heap.size+1+1) (.int .i64 m.kind) (.int .i64 m.so) (.slice la 0 lc) (.slice va (nums ps (ss.map zC)).length vc) (.int .i64 0) (.slice none 0 0)).cell? ⟨(w.heap.size+1+1),3,none⟩=some (.slice va (nums ps (ss.map zC)).length vc):=by unfold sx6;go_cell
   have r4:(sx6 wr (w.heap.size+1+1) (.int .i64 m.kind) (.int .i64 m.so) (.slice la 0 lc) (.slice va (nums ps (ss.map zC)).length vc) (.int .i64 0) (.slice none 0 0)).cell? ⟨(w.heap.size+1+1),4,none⟩=some (.int .i64 0):=by unfold sx6;go_cell
   have r5:(sx6 wr (w.heap.size+1+1) (.int .i64 m.kind) (.int .i64 m.so) (.slice la 0 lc) (.slice va (nums ps (ss.map zC)).length vc) (.int .i64 0) (.slice none 0 0)).cell? ⟨(w.heap.size+1+1),5,none⟩=some (.slice none 0 0):=by unfold sx6;go_cell
   change bodyPost _ _ _ _ _ (sx6 wr (w.heap.size+1+1) (.int .i64 m.kind) (.int .i64 m.so) (.slice la 0 lc) (.slice va (nums ps (ss.map zC)).length vc) (.int .i64 0) (.slice none 0 0))
   refine bodyPost_ret (v:=.agg #[.int .i64 m.kind,.int .i64 m.so,.slice la 0 lc,.slice va (nums ps (ss.map zC)).length vc,.int .i64 0,.slice none 0 0]) (by simp [results,Tryz.results34,go_sem,r0,r1,r2,r3,r4,r5]) rfl ?_
   obtain ⟨p1,p2,p3⟩:=HP.out;have er:=HER.out;injection er with er1 er2 er3
   subst er1;have es:=HER2.out;injection es with es1 es2 es3
   subst es1;have hD1:=HDR.out;have hkp:∀b o,(w1.heap.size≤b∧b<wr.heap.size∧u'.ownBlock≠some b)→(sx6 wr (w.heap.size+1+1) (.int .i64 m.kind) (.int .i64 m.so) (.slice la 0 lc) (.slice va (nums ps (ss.map zC)).length vc) (.int .i64 0) (.slice none 0 0)).cell? ⟨b,o,none⟩=wr.cell? ⟨b,o,none⟩:=fun b o hb=>World.cell?_of_block (a:=⟨b,o,none⟩) (sx6_block _ _ _ _ _ _ _ _ b (by omega))
   have hpd:∀b,(w1.heap.size≤b∧b<wr.heap.size∧u'.ownBlock≠some b)→PD B w (sx6 wr (w.heap.size+1+1) (.int .i64 m.kind) (.int .i64 m.so) (.slice la 0 lc) (.slice va (nums ps (ss.map zC)).length vc) (.int .i64 0) (.slice none 0 0)) u' b:=fun b hb=>⟨by rw [sx6_size];exact hb.2.1,.inr (by omega),hb.2.2⟩
   refine ⟨u',la,lc,va,vc,?_,by rw [hD1.2.2.2.1];exact p1,p2,p3,by rw [hD1.2.2.1];exact HLQ.out.keep hkp hpd,by rw [hD1.2.2.2.1];exact HNQ.out.keep hkp hpd⟩
   rw [hD1.1,hD1.2.1,hD1.2.2.1,hD1.2.2.2.1,hD1.2.2.2.2];rfl
theorem bothL_any(m n:Nd)(t:Bool)(a1 a2 a3 a4:OAd)(c1 c2 c3 c4 B:Nat)(w0:World)(db mb:Nat)(ca cb ud:Value)(ps:List Pz)(u:Value)(w:World)(hz:ZW w0 db mb ca cb ud ps u w)(hB:B≤w0.heap.size)(hL:LA w0 B m.labs a1)(hT:NI w0 B m.to a2)(hL3:LA w0 B n.labs a3)(hT4:NI w0 B n.to a4)(hm:okN m)(hn:okN n)(hkk:m.kind=n.kind)
  (h0:0<m.labs.length) (hps:∀i,PS (((bothD m n t).nxt.take i).foldl addZ ps)) (hsm:∀q∈(bothD m n t).nxt,smPz q) :
  Calls Tryz.prog 34 #[.pointer (some ⟨db,0,none⟩),ndVal m a1 c1 a2 c2,ndVal n a3 c3 a4 c4,.bool t] w (DPost w0 db mb ca cb ud B (bothD m n t) ps u w):=by
 obtain ⟨i1,hj,hy0,hy1,hy2⟩:=info_parts infoInZ;obtain ⟨i2,hj',hu0,hu1,hu2⟩:=info_parts infoStZ;obtain ⟨W4,hW4⟩:∃W,W=((((w.alloc (.cells #[.int .i64 m.kind,.int .i64 m.so,.slice a1 m.labs.length c1,.slice a2 m.to.length c2] 56)).alloc (.cells #[.int .i64 n.kind,.int .i64 n.so,.slice a3 n.labs.length c3,.slice a4 n.to.length c4] 56)).alloc (.cells #[.int .i64 0,.int .i64 0,.slice none 0 0,.slice none 0 0,.int .i64 0,.slice none 0 0] 58)).alloc (.cells #[.int .i64 m.kind,.int .i64 m.so,.slice none 0 0,.slice none 0 0,.int .i64 0,.slice none 0 0] 58)):=⟨_,rfl⟩;have hA:Below w.heap.size w W4:=by rw [hW4];exact ((((Below.refl _ _).alloc (Nat.le_refl _) _).alloc (by simp) _).alloc (by simp;omega) _).alloc (by simp;omega) _
 have hsz:W4.heap.size=w.heap.size+4:=by rw [hW4];simp
 have hbw:=(hz.bl.trans (hA.mono hz.bl.size)).mono hB;have cS:=steps_any m n t a1 a2 a3 a4 c1 c2 c3 c4 B W4 (hL.keep hbw) (hT.keep hbw) (hL3.keep hbw) (hT4.keep hbw) (by rw [hsz];have:=hz.bl.size;omega) hm hn hkk
 have q0:∀j,j<6→W4.frozen? ⟨(w.heap.size+1+1+1),j,none⟩=false:=fun j hj=>by rw [hW4];go_simp
 have q1:∀j,j<6→j≠3→W4.cell? ⟨(w.heap.size+1+1+1),j,none⟩=some (dX m.kind m.so (.slice none 0 0) 0 j):=fun j hj h3=>by
  rw [hW4];match j,hj,h3 with
  | 0,_,_=>show _=some (Value.int .i64 m.kind);go_cell
  | 1,_,_=>show _=some (Value.int .i64 m.so);go_cell
  | 2,_,_=>show _=some (Value.slice none 0 0);go_cell
  | 4,_,_=>show _=some (Value.int .i64 0);go_cell
  | 5,_,_=>show _=some (Value.slice none 0 0);go_cell
 have q3:W4.cell? ⟨(w.heap.size+1+1+1),3,none⟩=some (.slice none 0 0):=by rw [hW4];go_cell
 have q5:W4.cell? ⟨w.heap.size,2,none⟩=some (.slice a1 m.labs.length c1):=by rw [hW4];go_cell
 have q4:(∀j,j<6→W4.frozen? ⟨(w.heap.size+1+1),j,none⟩=false)∧∀j,j<6→∃v,W4.cell? ⟨(w.heap.size+1+1),j,none⟩=some v:=⟨fun j hj=>by rw [hW4];go_simp,fun j hj=>by
  rw [hW4];match j,hj with
  | 0,_=>exact ⟨.int .i64 0,by go_cell⟩
  | 1,_=>exact ⟨.int .i64 0,by go_cell⟩
  | 2,_=>exact ⟨.slice none 0 0,by go_cell⟩
  | 3,_=>exact ⟨.slice none 0 0,by go_cell⟩
  | 4,_=>exact ⟨.int .i64 0,by go_cell⟩
  | 5,_=>exact ⟨.slice none 0 0,by go_cell⟩⟩
 have HW4:=hideK hW4;clear hW4;have HQ0:=hideK q0;have HQ1:=hideK q1;have HQ3:=hideK q3;have HQ4:=hideK q4;have HQ5:=hideK q5;have HZ:=hideK hz;have HA:=hideK hA;have HPS:=hideK hps;have HSM:=hideK hsm;have hdb:=hz.ls;have hmb:=hz.mp.lt;have HUB:=hideK (fun j (hj:u.ownBlock=some j)=>(hz.own.lt j hj).2)
 have hln:=both_len (n:=n) t hm;have HDR:=hideK (show (bothD m n t).kind=m.kind∧(bothD m n t).so=m.so∧(bothD m n t).labs=(stepsP m n t).map (·.1)∧(bothD m n t).nxt=(stepsP m n t).map zC∧(bothD m n t).spare=((stepsP m n t).length:Int) - 1 from ⟨rfl,rfl,if_neg (by omega),rfl,if_neg (by omega)⟩)
 have hlz:(0:Int)<(m.labs.length:Int):=by omega
 clear q0 q1 q3 q4 q5 hz hA hL hT hL3 hT4 hps hsm hm hn hbw hkk h0;simp only [ndVal]at cS ⊢;go_enter Tryz.func34,Tryz.ntmps34
 go_wp2_with fail
 rw [← HW4.out];clear HW4;refine cS.mono ?_;rintro e w1 ⟨⟨ast,cst,rfl,hst⟩,hb1⟩;have hs1:=hb1.size;have HB1:=hideK (HA.out.trans (hb1.mono HA.out.size));have HD0:=hideK (DB.start (bx:=(w.heap.size+1+1+1)) (X:=dX m.kind m.so (.slice none 0 0) 0) HZ.out HB1.out (by omega) (by omega) ((hb1.cell (p:=⟨(w.heap.size+1+1+1),3,none⟩) (by show (w.heap.size+1+1+1)<_;omega)).trans HQ3.out) (fun j hj=>(hb1.frozen (p:=⟨(w.heap.size+1+1+1),j,none⟩) (by show (w.heap.size+1+1+1)<_;omega)).trans (HQ0.out j hj)) (fun j hj h3=>(hb1.cell (p:=⟨(w.heap.size+1+1+1),j,none⟩) (by show (w.heap.size+1+1+1)<_;omega)).trans (HQ1.out j hj h3)))
 have HR1:=hideK (show (∀j,j<6→w1.frozen? ⟨(w.heap.size+1+1),j,none⟩=false)∧∀j,j<6→∃v,w1.cell? ⟨(w.heap.size+1+1),j,none⟩=some v from ⟨fun j hj=>(hb1.frozen (p:=⟨(w.heap.size+1+1),j,none⟩) (by show (w.heap.size+1+1)<_;omega)).trans (HQ4.out.1 j hj),fun j hj=>(HQ4.out.2 j hj).imp fun v hv=>(hb1.cell (p:=⟨(w.heap.size+1+1),j,none⟩) (by show (w.heap.size+1+1)<_;omega)).trans hv⟩)
 have HM2:=hideK (show w1.cell? ⟨w.heap.size,2,none⟩=some (.slice a1 m.labs.length c1) from (hb1.cell (p:=⟨w.heap.size,2,none⟩) (by show w.heap.size<_;omega)).trans HQ5.out)
 have HST:=hideK (show STL w1 (w.heap.size+4) w1.heap.size (stepsP m n t) ast from by rw [hsz]at hst;exact hst)
 clear cS hb1 HQ0 HQ1 HQ3 HQ4 HQ5 HA hst;have HMB:=hideK (fun (X:Nat→Value) (ps':List Pz) (tos:List Nat) (u' v:Value) (W:World) (D:DB w0 w1 db mb (w.heap.size+1+1+1) ca cb ud u X ps' tos u' v W)=>show W.cell? ⟨w.heap.size,2,none⟩=some (.slice a1 m.labs.length c1) from (World.cell?_of_block (a:=⟨w.heap.size,2,none⟩) (D.fr w.heap.size (by omega) (by omega) (by omega) (by omega) (fun e=>by have:=HUB.out _ e.symm;omega))).trans HM2.out)
 generalize hss:stepsP m n t=ss at *;go_wp2_with fail
 go_loopw [23] (fun i wr=>∃(k:Nat) (v u' lv:Value),k≤ss.length∧i = .int .i64 (k:Int)∧DL w0 w1 db mb (w.heap.size+1+1+1) ca cb ud u m.kind m.so 0 (((ss.map zC).take k).foldl addZ ps) (nums ps ((ss.map zC).take k)) ((ss.map (·.1)).take k) u' v lv wr) (fun i _=>ss.length - (intOf i).toNat)
 case atStart=>exact ⟨0,_,u,.slice none 0 0,Nat.zero_le _,rfl,HD0.out,World.ownsRow_nil _ _ _ _,fun j hj=>by simp [Value.ownBlock]at hj,fun j hj=>by simp [Value.ownBlock]at hj⟩
 case round =>
  obtain ⟨k,v,u',lv,hk,rfl,hD⟩:=hrel;have HD:=hideK hD;have hszr:=hD.d.sz;obtain ⟨va,vc,rfl⟩:=sliceH_own hD.d.own;obtain ⟨la,lc,hlv⟩:=sliceH_own hD.lo;subst hlv;by_cases hlt:k<ss.length
  ·have hltz:(k:Int)<(ss.length:Int):=by omega
   have hkz:(k:Int)≤6:=by omega
   obtain ⟨sb,so,rfl,⟨hsb,hsb1⟩,hsc⟩:=HST.out.resolve_left (fun q=>by rw [q]at hlt;simp at hlt)
   obtain ⟨s0,s1,s2,s3⟩:=hsc k hlt;have hkb:=hD.d.fr sb hsb1 (by omega) (by omega) (by omega) (fun e=>by have:=HUB.out sb e.symm;omega)
   have y0:=(World.cell?_of_block (a:=⟨sb,so+k*4,none⟩) hkb).trans s0;have y1:=(World.cell?_of_block (a:=⟨sb,so+k*4+1,none⟩) hkb).trans s1;have y2:=(World.cell?_of_block (a:=⟨sb,so+k*4+2,none⟩) hkb).trans s2;have y3:=(World.cell?_of_block (a:=⟨sb,so+k*4+3,none⟩) hkb).trans s3;have hkm:k<(ss.map zC).length:=by simpa using hlt
   obtain ⟨ft1,ft2⟩:=fold_take (ps:=ps) hkm;have HFT:=hideK (And.intro ft1 ft2);have HLT:=hideK (show (ss.map (·.1)).take (k+1)=(ss.map (·.1)).take k++[ss[k].1] from by rw [List.take_add_one,List.getElem?_map,List.getElem?_eq_getElem hlt];rfl)
   have hll:((ss.map (·.1)).take k).length≤6:=by rw [List.length_take,List.length_map];omega
   have P:=HPS.out k;rw [HDR.out.2.2.2.1]at P;have hpk:smPz (ss.map zC)[k]:=HSM.out _ (by rw [HDR.out.2.2.2.1];exact List.getElem_mem hkm)
   have CN:=hideK (fun (W:World) (h:ZW w0 db mb ca cb ud (((ss.map zC).take k).foldl addZ ps) u' W)=>numberZ_any w0 db mb ca cb ud _ u' (ss.map zC)[k] W h P.ln P.nd P.sm hpk)
   rw [List.getElem_map]at CN HFT;have hlen:(nums ps ((ss.map zC).take k)).length≤6:=by rw [nums_eq,List.length_map,List.length_take];omega
   generalize (addZ (((ss.map zC).take k).foldl addZ ps) (zC ss[k])).idxOf (zC ss[k])=nb at CN HFT;generalize nums ps ((ss.map zC).take k)=tos at *;generalize (ss.map (·.1)).take k=ls at *
   generalize hqr:ls.length=r at *;generalize ss[k]=s at *;obtain ⟨wd,x',y',b⟩:=s;simp only [zC,pkZ]at CN y0 y1 y2 y3;generalize hx:(x':Int)=x at *;generalize hy:(y':Int)=y at *;generalize hqm:tos.length=q at *;have HEZ:=hideK (show zC (wd,x',y',b)=((x,y,b):Pz) from by rw [← hx,← hy];rfl)
   clear hx hy s0 s1 s2 s3 hsc hkb P hpk ft1 ft2 hD;go_wp2_with fail
   have hVD:Below wr.heap.size wr (wr.alloc (.cells #[.string wd,.int .i64 x,.int .i64 y,.bool b] 114)).drew:=((Below.refl _ _).alloc (Nat.le_refl _) _).drew;have HH:=hideK (show wr.heap.size<(wr.alloc (.cells #[.string wd,.int .i64 x,.int .i64 y,.bool b] 114)).drew.heap.size from by simp)
   have c0':(wr.alloc (.cells #[.string wd,.int .i64 x,.int .i64 y,.bool b] 114)).drew.cell? ⟨wr.heap.size,0,none⟩=some (.string wd):=by go_cell
   have c1':(wr.alloc (.cells #[.string wd,.int .i64 x,.int .i64 y,.bool b] 114)).drew.cell? ⟨wr.heap.size,1,none⟩=some (.int .i64 x):=by go_cell
   have c2':(wr.alloc (.cells #[.string wd,.int .i64 x,.int .i64 y,.bool b] 114)).drew.cell? ⟨wr.heap.size,2,none⟩=some (.int .i64 y):=by go_cell
   have c3':(wr.alloc (.cells #[.string wd,.int .i64 x,.int .i64 y,.bool b] 114)).drew.cell? ⟨wr.heap.size,3,none⟩=some (.bool b):=by go_cell
   have HHN:=hideK (show w1.heap.size≤wr.heap.size∧∀j,u'.ownBlock=some j→j≠wr.heap.size from ⟨hszr,fun j hj=>by have:=(HD.out.d.z.own.lt j hj).2;omega⟩)
   have HVN:=hideK (show ∀j,(Value.slice va q vc).ownBlock=some j→j≠wr.heap.size∧w1.heap.size≤j from fun j hj=>by have:=HD.out.d.vlt hj;omega)
   replace HD:=hideK (HD.out.kept hVD);have HS0:=hideK (And.intro HD.out.d.c3 (And.intro c0' (And.intro c1' (And.intro c2' c3'))));clear hVD c0' c1' c2' c3';generalize hV:(wr.alloc (.cells #[.string wd,.int .i64 x,.int .i64 y,.bool b] 114))=V at *;generalize hH:wr.heap.size=H at *;have HHV:=hideK HH.out;have HSA:=hideK (fun (W W':World) (hs:W.cell? ⟨(w.heap.size+1+1+1),3,none⟩=some (.slice va q vc)∧W.cell? ⟨H,0,none⟩=some (.string wd)∧W.cell? ⟨H,1,none⟩=some (.int .i64 x)∧W.cell? ⟨H,2,none⟩=some (.int .i64 y)∧W.cell? ⟨H,3,none⟩=some (.bool b)) (hh:H<W.heap.size) (hb:Below W.heap.size W W')=>show W'.cell? ⟨(w.heap.size+1+1+1),3,none⟩=some (.slice va q vc)∧W'.cell? ⟨H,0,none⟩=some (.string wd)∧W'.cell? ⟨H,1,none⟩=some (.int .i64 x)∧W'.cell? ⟨H,2,none⟩=some (.int .i64 y)∧W'.cell? ⟨H,3,none⟩=some (.bool b) from ⟨(hb.cell (p:=⟨(w.heap.size+1+1+1),3,none⟩) (by show (w.heap.size+1+1+1)<_;have:=HHN.out.1;omega)).trans hs.1,(hb.cell (p:=⟨H,0,none⟩) hh).trans hs.2.1,(hb.cell (p:=⟨H,1,none⟩) hh).trans hs.2.2.1,(hb.cell (p:=⟨H,2,none⟩) hh).trans hs.2.2.2.1,(hb.cell (p:=⟨H,3,none⟩) hh).trans hs.2.2.2.2⟩)
   have HSR:=hideK (fun (W':World) (hr:RF mb db u'.ownBlock V.drew W')=>show W'.cell? ⟨(w.heap.size+1+1+1),3,none⟩=some (.slice va q vc)∧W'.cell? ⟨H,0,none⟩=some (.string wd)∧W'.cell? ⟨H,1,none⟩=some (.int .i64 x)∧W'.cell? ⟨H,2,none⟩=some (.int .i64 y)∧W'.cell? ⟨H,3,none⟩=some (.bool b) from by
    have hs:=HS0.out;have hx:(w.heap.size+1+1+1)<V.drew.heap.size:=by have:=HHN.out.1;have:=HHV.out;omega
    have k1:=hr.block (w.heap.size+1+1+1) hx (by omega) (by omega) (fun e=>HD.out.d.ubx e.symm)
    have k2:=hr.block H HHV.out (by have:=HHN.out.1;omega) (by have:=HHN.out.1;omega) (fun e=>HHN.out.2 H e.symm rfl)
    exact ⟨(World.cell?_of_block (a:=⟨(w.heap.size+1+1+1),3,none⟩) k1).trans hs.1,(World.cell?_of_block (a:=⟨H,0,none⟩) k2).trans hs.2.1,(World.cell?_of_block (a:=⟨H,1,none⟩) k2).trans hs.2.2.1,(World.cell?_of_block (a:=⟨H,2,none⟩) k2).trans hs.2.2.2.1,(World.cell?_of_block (a:=⟨H,3,none⟩) k2).trans hs.2.2.2.2⟩)
   have HSG:=hideK (fun (W W':World) (hs:W.cell? ⟨(w.heap.size+1+1+1),3,none⟩=some (.slice va q vc)∧W.cell? ⟨H,0,none⟩=some (.string wd)∧W.cell? ⟨H,1,none⟩=some (.int .i64 x)∧W.cell? ⟨H,2,none⟩=some (.int .i64 y)∧W.cell? ⟨H,3,none⟩=some (.bool b)) (hh:H<W.heap.size) (hx:(w.heap.size+1+1+1)<W.heap.size) (hg:W.grownBy W' (Value.slice va q vc).ownBlock)=>show W'.cell? ⟨(w.heap.size+1+1+1),3,none⟩=some (.slice va q vc)∧W'.cell? ⟨H,0,none⟩=some (.string wd)∧W'.cell? ⟨H,1,none⟩=some (.int .i64 x)∧W'.cell? ⟨H,2,none⟩=some (.int .i64 y)∧W'.cell? ⟨H,3,none⟩=some (.bool b) from by
    have k1:=hg.block (w.heap.size+1+1+1) hx (fun e=>by have:=(HVN.out _ e.symm).2;omega)
    have k2:=hg.block H hh (fun e=>(HVN.out _ e.symm).1 rfl)
    exact ⟨(World.cell?_of_block (a:=⟨(w.heap.size+1+1+1),3,none⟩) k1).trans hs.1,(World.cell?_of_block (a:=⟨H,0,none⟩) k2).trans hs.2.1,(World.cell?_of_block (a:=⟨H,1,none⟩) k2).trans hs.2.2.1,(World.cell?_of_block (a:=⟨H,2,none⟩) k2).trans hs.2.2.2.1,(World.cell?_of_block (a:=⟨H,3,none⟩) k2).trans hs.2.2.2.2⟩)
   refine wp_region_upto (fun W:World=>W.cell? ⟨(w.heap.size+1+1+1),3,none⟩=some (.slice va q vc)∧W.cell? ⟨H,0,none⟩=some (.string wd)∧W.cell? ⟨H,1,none⟩=some (.int .i64 x)∧W.cell? ⟨H,2,none⟩=some (.int .i64 y)∧W.cell? ⟨H,3,none⟩=some (.bool b)) 11 (by kernel_rfl) (HS0.out) (fun hS=>?_)
   refine tkU 0 (.pointer (some ⟨(w.heap.size+1+1+1),0,none⟩)) hS ?_;simp only [Act.put,sA,sB,sC];refine tkU 1 (.pointer (some ⟨(w.heap.size+1+1+1),3,none⟩)) hS ?_;simp only [Act.put,sA,sB,sC];refine tkU 2 (.slice va q vc) hS ?_ (hy:=Or.inl ⟨by rfl,fun W hW=>by have x0:=hW.1;go_simp⟩)
   simp only [Act.put,sA,sB,sC];refine tkU 3 (.pointer (some ⟨db,0,none⟩)) hS ?_;simp only [Act.put,sA,sB,sC];refine tkU 4 (.pointer (some ⟨H,1,none⟩)) hS ?_;simp only [Act.put,sA,sB,sC];refine tkU 5 (.agg #[.int .i64 x,.int .i64 y,.bool b]) hS ?_ (hy:=Or.inl ⟨by rfl,fun W hW=>by obtain ⟨_,_,x0,x1,x2⟩:=hW;go_simp⟩)
   simp only [Act.put,sA,sB,sC];refine onU 6 (fun K hK=>?_)
   go_simp
   refine (CN.out V.drew HD.out.d.z).mono ?_;rintro e w5 ⟨rfl,u5,hz5,hr5,hf5⟩;have HD5:=hideK (HD.out.num hz5 hr5 hf5);have HS5:=hideK (HSR.out w5 hr5);have HH5:=hideK (show H<w5.heap.size from Nat.lt_of_lt_of_le HHV.out hr5.size)
   clear hz5 hr5 hf5;have hSn:=HS5.out;refine hK.out _ _ hSn ?_;clear hS hK K hSn;intro hS;try simp only [Act.put,sA,sB,sC]
   refine onU 7 (fun K hK=>?_)
   go_simp
   have hb6:Below w5.heap.size w5 (w5.alloc (.cells #[.int .i64 (nb:Int)] 3)):=(Below.refl _ _).alloc (Nat.le_refl _) _;have HS6:=hideK (HSA.out w5 _ HS5.out HH5.out hb6);clear hb6;have hSn:=HS6.out;refine hK.out _ _ hSn ?_;clear hS hK K hSn;intro hS;try simp only [Act.put,sA,sB,sC]
   have HO6:=hideK (own_belowG HD5.out.d.own ((Below.refl _ _).alloc (Nat.le_refl _) (.cells #[.int .i64 (nb:Int)] 3)));have hw15:w1.heap.size≤w5.heap.size:=HD5.out.d.sz;have HL6:=hideK (World.ownsRow_lit (base:=w1.heap.size) (e:=3) (size:=1) w5 #[.int .i64 (nb:Int)] 1 hw15 (by decide) rfl)
   refine onU 8 (fun K hK=>?_)
   refine step_append_rows _ rfl (.tmp 29) (.tmp 34) 54 rfl w1.heap.size w1.heap.size 3 i1 _ 1 8 Tryz.underlying54 hj hy0 hy1 hy2 rfl (by decide) _ _ _ rfl HO6.out _ _ _ rfl HL6.out (by simp [Value.oneCell']) (by unfold maxLen;omega) (by omega) (by simp;omega) ?_
   intro v7 w7 hO7 hg7 hat7;have HD7:=hideK (HD5.out.put hg7 hO7 hat7);have HS7:=hideK (HSG.out _ w7 HS6.out (by have:=HH5.out;simp;omega) (by have:=HD5.out.d.b1;simp;omega) hg7)
   have hf7:=HD5.out.d.frz hg7;have hH7:H<w7.heap.size:=by have h1:=HH5.out;have h2:=hg7.size;simp at h2;omega
   obtain ⟨va7,vc7,rfl⟩:=sliceH_own hO7;clear hO7 hg7 hat7;have hSn:=HS7.out;refine hK.out _ _ hSn ?_;clear hS hK K hSn;intro hS;try simp only [Act.put,sA,sB,sC]
   refine onU 9 (fun K hK=>?_)
   go_simp
   have hSn:=hS;refine hK.out _ _ hSn ?_;clear hS hK K hSn;intro hS;try simp only [Act.put,sA,sB,sC]
   refine onU 10 (fun K hK=>?_)
   go_simp
   have hSn:=hS;refine hK.out _ _ hSn ?_;clear hS hK K hSn;intro hS;try simp only [Act.put,sA,sB,sC]
   have x7:=hS.1;have HH0:=hideK (show (w7.setCell ⟨(w.heap.size+1+1+1),3,none⟩ (.slice va7 (tos.length+1) vc7)).cell? ⟨H,0,none⟩=some (.string wd) from (World.cell?_setCell_other _ _ _ _ (by intro e;injection e with e;have:=HHN.out.1;omega)).trans hS.2.1)
   refine upto_last (by rw [List.getElem?_toArray];rfl) (by kernel_rfl) (fun K hK=>?_)
   go_simp
   refine hK.out _ _ ?_;clear hS hK K;refine upto_done (by kernel_rfl) ?_ _
   have HD8:=hideK HD7.out;have m2:=HMB.out _ _ _ _ _ _ HD8.out.d;have l2:=HD8.out.d.oc 2 (by omega) (by omega)
   have e2:dX m.kind m.so (.slice la r lc) 0 2 = .slice la r lc:=rfl;rw [e2]at l2;have h8:=HH0.out;have hH8:H<(w7.setCell ⟨(w.heap.size+1+1+1),3,none⟩ (.slice va7 (tos.length+1) vc7)).heap.size:=by simp;exact hH7
   clear e2;rw [hqm]at HD8 m2 l2 h8 hH8;generalize hV8:(w7.setCell ⟨(w.heap.size+1+1+1),3,none⟩ (.slice va7 (q+1) vc7))=V8 at *;have hw18:w1.heap.size≤V8.heap.size:=HD8.out.d.sz;have OA:=hideK (own_belowG HD8.out.lo ((Below.refl _ _).alloc (Nat.le_refl _) (.cells #[.string wd] 9)));have LR:=hideK (World.ownsRow_lit (base:=w1.heap.size) (e:=9) (size:=1) V8 #[.string wd] 1 hw18 (by decide) rfl)
   have HFZ:=hideK (fun (W:World) (hg:(V8.alloc (.cells #[.string wd] 9)).grownBy W (Value.slice la r lc).ownBlock)=>show W.frozen? ⟨(w.heap.size+1+1+1),2,none⟩=false∧W.cell? ⟨(w.heap.size+1+1+1),2,none⟩=some (.slice la r lc) from ⟨HD8.out.frz hg,(HD8.out.d.grow hg (fun j hj=>(HD8.out.lo.lt j hj).1) HD8.out.lu HD8.out.lw).oc 2 (by omega) (by omega)⟩)
   have hbx8:(w.heap.size+1+1+1)<V8.heap.size:=by have:=HD8.out.d.b1;omega
   go_wp2_with (at_builtin;refine wpList_append_rows _ rfl (.tmp 44) (.tmp 47) 22 rfl w1.heap.size w1.heap.size 9 i2 (.string ⟨#[]⟩) 1 16 Tryz.underlying22 hj' hu0 hu1 hu2 rfl (by decide) _ _ _ rfl OA.out _ _ _ rfl LR.out (by simp [Value.oneCell']) (by unfold maxLen;omega) (by omega) (by simp;omega) ?_;intro v9 w9 hO9 hg9 hat9;have HD9:=hideK (HD8.out.putL hg9 hO9 hat9);obtain ⟨hf9,x9⟩:=HFZ.out w9 hg9;obtain ⟨va9,vc9,rfl⟩:=sliceH_own hO9;clear hO9 hg9 hat9)
   go_roundw
   case rel =>
    have h7:=HD9.out;rw [hqr]at h7;refine ⟨k+1,.slice va7 (q+1) vc7,u5,.slice va9 (r+1) vc9,by omega,by go_num,?_⟩
    rw [HFT.out.1,HFT.out.2,HEZ.out,HLT.out];exact h7
   case measure=>simp [intOf];omega
  ·have hltz:¬(k:Int)<(ss.length:Int):=by omega
   have hkk:k=ss.length:=by omega
   subst hkk;have etk:(ss.map zC).take ss.length=ss.map zC:=List.take_of_length_le (by simp)
   rw [etk]at HD;have etl:(ss.map (·.1)).take ss.length=ss.map (·.1):=List.take_of_length_le (by simp)
   rw [etl]at HD;have hrl:(ss.map (·.1)).length=ss.length:=by simp
   have hwrp:IntKind.i64.wrap ((ss.length:Int) - 1)=(ss.length:Int) - 1:=wr_small (by omega) (by omega)
   have m2:=HMB.out _ _ _ _ _ _ HD.out.d;have g4:=HD.out.d.f3 4 (by omega)
   rw [show (List.map (fun x:Stp=>x.fst) ss).length=ss.length from by simp]at HD
   have z0:=HD.out.d.oc 0 (by omega) (by omega)
   have z1:=HD.out.d.oc 1 (by omega) (by omega)
   have z2:=HD.out.d.oc 2 (by omega) (by omega)
   have z3:=HD.out.d.c3;have z4:=HD.out.d.oc 4 (by omega) (by omega)
   have z5:=HD.out.d.oc 5 (by omega) (by omega)
   have e0:dX m.kind m.so (.slice la ss.length lc) 0 0 = .int .i64 m.kind:=rfl;have e1:dX m.kind m.so (.slice la ss.length lc) 0 1 = .int .i64 m.so:=rfl;have e2:dX m.kind m.so (.slice la ss.length lc) 0 2 = .slice la ss.length lc:=rfl;have e4:dX m.kind m.so (.slice la ss.length lc) 0 4 = .int .i64 0:=rfl;have e5:dX m.kind m.so (.slice la ss.length lc) 0 5 = .slice none 0 0:=rfl;rw [e0]at z0;rw [e1]at z1;rw [e2]at z2;rw [e4]at z4;rw [e5]at z5;have hkb:=HD.out.d.fr (w.heap.size+1+1) (by omega) (by omega) (by omega) (by omega) (fun e=>by have:=HUB.out _ e.symm;omega)
   have HX:=hideK (fun j (hj:j<6)=>(HR1.out.2 j hj).imp fun v hv=>(World.cell?_of_block (a:=⟨(w.heap.size+1+1),j,none⟩) hkb).trans hv)
   obtain ⟨t0,x0⟩:=HX.out 0 (by omega)
   obtain ⟨t1,x1⟩:=HX.out 1 (by omega)
   obtain ⟨t2,x2⟩:=HX.out 2 (by omega)
   obtain ⟨t3,x3⟩:=HX.out 3 (by omega)
   obtain ⟨t4,x4⟩:=HX.out 4 (by omega)
   obtain ⟨t5,x5⟩:=HX.out 5 (by omega)
   have f0:=(World.frozen?_of_block (a:=⟨(w.heap.size+1+1),0,none⟩) hkb).trans (HR1.out.1 0 (by omega))
   have f1:=(World.frozen?_of_block (a:=⟨(w.heap.size+1+1),1,none⟩) hkb).trans (HR1.out.1 1 (by omega))
   have f2:=(World.frozen?_of_block (a:=⟨(w.heap.size+1+1),2,none⟩) hkb).trans (HR1.out.1 2 (by omega))
   have f3:=(World.frozen?_of_block (a:=⟨(w.heap.size+1+1),3,none⟩) hkb).trans (HR1.out.1 3 (by omega))
   have f4:=(World.frozen?_of_block (a:=⟨(w.heap.size+1+1),4,none⟩) hkb).trans (HR1.out.1 4 (by omega))
   have f5:=(World.frozen?_of_block (a:=⟨(w.heap.size+1+1),5,none⟩) hkb).trans (HR1.out.1 5 (by omega))
   have HDS:=hideK (HD.out.spare ((ss.length:Int) - 1));obtain ⟨ar,cr,er,hnq⟩:=HDS.out.d.row;have HER:=hideK er;obtain ⟨ar2,cr2,er2,hlq⟩:=HDS.out.lrow;have HER2:=hideK er2;have HP:=hideK (HDS.out.d.post HB1.out HZ.out.bl.size (by omega) (rb:=(w.heap.size+1+1)) (by omega) (by omega) hdb hmb HUB.out (.int .i64 m.kind) (.int .i64 m.so) (.slice la ss.length lc) (.slice va (nums ps (ss.map zC)).length vc) (.int .i64 ((ss.length:Int) - 1)) (.slice none 0 0))
   have HNQ:=hideK hnq;have HLQ:=hideK hlq;clear hkb HX hnq er er2 hlq e0 e1 e2 e4 e5;go_wp2_with fail
   have r0:(sx6 (wr.setCell ⟨(w.heap.size+1+1+1),4,none⟩ (.int .i64 ((ss.length:Int) - 1))) (w.heap.size+1+1) (.int .i64 m.kind) (.int .i64 m.so) (.slice la ss.length lc) (.slice va (nums ps (ss.map zC)).length vc) (.int .i64 ((ss.length:Int) - 1)) (.slice none 0 0)).cell? ⟨(w.heap.size+1+1),0,none⟩=some (.int .i64 m.kind):=by unfold sx6;go_cell
   have r1:(sx6 (wr.setCell ⟨(w.heap.size+1+1+1),4,none⟩ (.int .i64 ((ss.length:Int) - 1))) (w.heap.size+1+1) (.int .i64 m.kind) (.int .i64 m.so) (.slice la ss.length lc) (.slice va (nums ps (ss.map zC)).length vc) (.int .i64 ((ss.length:Int) - 1)) (.slice none 0 0)).cell? ⟨(w.heap.size+1+1),1,none⟩=some (.int .i64 m.so):=by unfold sx6;go_cell
   have r2:(sx6 (wr.setCell ⟨(w.heap.size+1+1+1),4,none⟩ (.int .i64 ((ss.length:Int) - 1))) (w.heap.size+1+1) (.int .i64 m.kind) (.int .i64 m.so) (.slice la ss.length lc) (.slice va (nums ps (ss.map zC)).length vc) (.int .i64 ((ss.length:Int) - 1)) (.slice none 0 0)).cell? ⟨(w.heap.size+1+1),2,none⟩=some (.slice la ss.length lc):=by unfold sx6;go_cell
   have r3:(sx6 (wr.setCell ⟨(w.heap.size+1+1+1),4,none⟩ (.int .i64 ((ss.length:Int) - 1))) (w.heap.size+1+1) (.int .i64 m.kind) (.int .i64 m.so) (.slice la ss.length lc) (.slice va (nums ps (ss.map zC)).length vc) (.int .i64 ((ss.length:Int) - 1)) (.slice none 0 0)).cell? ⟨(w.heap.size+1+1),3,none⟩=some (.slice va (nums ps (ss.map zC)).length vc):=by unfold sx6;go_cell
   have r4:(sx6 (wr.setCell ⟨(w.heap.size+1+1+1),4,none⟩ (.int .i64 ((ss.length:Int) - 1))) (w.heap.size+1+1) (.int .i64 m.kind) (.int .i64 m.so) (.slice la ss.length lc) (.slice va (nums ps (ss.map zC)).length vc) (.int .i64 ((ss.length:Int) - 1)) (.slice none 0 0)).cell? ⟨(w.heap.size+1+1),4,none⟩=some (.int .i64 ((ss.length:Int) - 1)):=by unfold sx6;go_cell
   have r5:(sx6 (wr.setCell ⟨(w.heap.size+1+1+1),4,none⟩ (.int .i64 ((ss.length:Int) - 1))) (w.heap.size+1+1) (.int .i64 m.kind) (.int .i64 m.so) (.slice la ss.length lc) (.slice va (nums ps (ss.map zC)).length vc) (.int .i64 ((ss.length:Int) - 1)) (.slice none 0 0)).cell? ⟨(w.heap.size+1+1),5,none⟩=some (.slice none 0 0):=by unfold sx6;go_cell
   change bodyPost _ _ _ _ _ (sx6 (wr.setCell ⟨(w.heap.size+1+1+1),4,none⟩ (.int .i64 ((ss.length:Int) - 1))) (w.heap.size+1+1) (.int .i64 m.kind) (.int .i64 m.so) (.slice la ss.length lc) (.slice va (nums ps (ss.map zC)).length vc) (.int .i64 ((ss.length:Int) - 1)) (.slice none 0 0))
   refine bodyPost_ret (v:=.agg #[.int .i64 m.kind,.int .i64 m.so,.slice la ss.length lc,.slice va (nums ps (ss.map zC)).length vc,.int .i64 ((ss.length:Int) - 1),.slice none 0 0]) (by simp [results,Tryz.results34,go_sem,r0,r1,r2,r3,r4,r5]) rfl ?_
   obtain ⟨p1,p2,p3⟩:=HP.out;have er:=HER.out;injection er with er1 er2 er3
   subst er1;have es:=HER2.out;injection es with es1 es2 es3
   subst es1;have hD1:=HDR.out;have hkp:∀b o,(w1.heap.size≤b∧b<(wr.setCell ⟨(w.heap.size+1+1+1),4,none⟩ (.int .i64 ((ss.length:Int) - 1))).heap.size∧u'.ownBlock≠some b)→(sx6 (wr.setCell ⟨(w.heap.size+1+1+1),4,none⟩ (.int .i64 ((ss.length:Int) - 1))) (w.heap.size+1+1) (.int .i64 m.kind) (.int .i64 m.so) (.slice la ss.length lc) (.slice va (nums ps (ss.map zC)).length vc) (.int .i64 ((ss.length:Int) - 1)) (.slice none 0 0)).cell? ⟨b,o,none⟩=(wr.setCell ⟨(w.heap.size+1+1+1),4,none⟩ (.int .i64 ((ss.length:Int) - 1))).cell? ⟨b,o,none⟩:=fun b o hb=>World.cell?_of_block (a:=⟨b,o,none⟩) (sx6_block _ _ _ _ _ _ _ _ b (by omega))
   have hpd:∀b,(w1.heap.size≤b∧b<(wr.setCell ⟨(w.heap.size+1+1+1),4,none⟩ (.int .i64 ((ss.length:Int) - 1))).heap.size∧u'.ownBlock≠some b)→PD B w (sx6 (wr.setCell ⟨(w.heap.size+1+1+1),4,none⟩ (.int .i64 ((ss.length:Int) - 1))) (w.heap.size+1+1) (.int .i64 m.kind) (.int .i64 m.so) (.slice la ss.length lc) (.slice va (nums ps (ss.map zC)).length vc) (.int .i64 ((ss.length:Int) - 1)) (.slice none 0 0)) u' b:=fun b hb=>⟨by rw [sx6_size];exact hb.2.1,.inr (by omega),hb.2.2⟩
   refine ⟨u',la,lc,va,vc,?_,by rw [hD1.2.2.2.1];exact p1,p2,p3,by rw [hD1.2.2.1];exact HLQ.out.keep hkp hpd,by rw [hD1.2.2.2.1];exact HNQ.out.keep hkp hpd⟩
   rw [hD1.1,hD1.2.1,hD1.2.2.1,hD1.2.2.2.1,hD1.2.2.2.2];simp [dVal]
end Go.Proofs.YtnedgkcejlhnbaaGreatDoor
