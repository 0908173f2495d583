/-
  The contract of (*below.drafting).withEither.
-/
import Derived.Test.YtnedgkcejlhnbaaGreatDoorSz
import Derived.Test.YtnedgkcejlhnbaaGreatDoorZl
set_option maxRecDepth 100000
set_option maxHeartbeats 8000000
namespace Go.Proofs.YtnedgkcejlhnbaaGreatDoor
open Go.RowKit Go.Shelf Go.Sort
theorem sortZ_any(blk off cap:Nat)(zs:List (List UInt8))(w:World)(hH:Holds encStr w blk off zs.toArray)(hblk:blk<w.heap.size)(hsz:zs.length<4611686018427387904):
  Calls Tryz.prog 49 #[.slice (some ⟨blk,off,none⟩) zs.length cap] w fun e w' =>
   e = .returned (.tuple #[])∧∃n os,w'=grow (putRow encStr (Sort.ahead w n) blk off (zs.mergeSort fun x y=>decide (x≤y)).toArray) os :=
 Any.slices_Sort_string Tryz.lays190 blk off cap zs w hH hblk hsz
theorem compactZ_any(blk off cap:Nat)(zs:List (List UInt8))(w:World)(hH:Holds encStr w blk off zs.toArray)(hsz:zs.length≤9223372036854775807)(hcap:zs.length≤cap):
  Calls Tryz.prog 50 #[.slice (some ⟨blk,off,none⟩) zs.length cap] w fun e w'=>e = .returned (.slice (some ⟨blk,off,none⟩) (Lib.compact zs).length cap)∧∃q,w'=putRow encStr (Sort.ahead w q) blk off (Lib.compact zs++List.replicate (zs.length - (Lib.compact zs).length) []).toArray :=
 calls_of_every_depth fun D=>AnyS.slices_Compact_string_in Tryz.lays194 D blk off cap zs w hH hsz hcap
theorem enc_mapZ(ns:List ByteArray):ns.map Value.string=(ns.map (·.data.toList)).map encStr:=by
 rw [List.map_map];refine List.map_congr_left fun s _=>?_
 simp [encStr]
theorem left_rowZ{w w1:World}{g cap n nn q:Nat}{os:Array Obj}{ss:List (List UInt8)}(hown:w1.ownsRow w.heap.size 9 1 (.slice (some ⟨g,0,none⟩) n cap) n (ss.map encStr))(hbel:Below w.heap.size w w1)(hbg:w.heap.size≤g)(hlen:ss.length=n){W:World}
  (hW:W=putRow encStr (Sort.ahead (grow (putRow encStr (Sort.ahead w1 nn) g 0 (ss.mergeSort fun x y=>decide (x≤y)).toArray) os) q) g 0 (Lib.compact (ss.mergeSort fun x y=>decide (x≤y))++List.replicate (n - (Lib.compact (ss.mergeSort fun x y=>decide (x≤y))).length) []).toArray) :
  W.ownsRow w.heap.size 9 1 (.slice (some ⟨g,0,none⟩) (Lib.compact (ss.mergeSort fun x y=>decide (x≤y))).length cap) (Lib.compact (ss.mergeSort fun x y=>decide (x≤y))).length ((Lib.compact (ss.mergeSort fun x y=>decide (x≤y))).map encStr)∧Below w.heap.size w W:=by
 have hl2:(ss.mergeSort fun x y=>decide (x≤y)).length=ss.length:=List.length_mergeSort ss
 have hle:=Lib.compact_length_le (ss.mergeSort fun x y=>decide (x≤y))
 subst hlen;subst hW;rcases hown.2 with ⟨h0,_⟩|⟨g',cap',cur,hv,hbase,hb,h1,h2,h3,h4⟩
 ·cases h0
 cases hv
 have hs:=ownsRow_sorted (n:=nn) (os:=os) (ts:=ss.mergeSort fun x y=>decide (x≤y)) hl2 hbase hb h1 h2 h3
 have hc:=Lib.ownsRow_putRow (q:=q) (k:=(Lib.compact (ss.mergeSort fun x y=>decide (x≤y))).length) (ys:=Lib.compact (ss.mergeSort fun x y=>decide (x≤y))++List.replicate (ss.length - (Lib.compact (ss.mergeSort fun x y=>decide (x≤y))).length) []) hs (by simp;omega) (by omega)
 rw [List.take_left]at hc;exact ⟨hc,Lib.below_putRow (hbel.grown (grownBy_sorted _) hbel.size (fun j hj=>by cases hj;exact hbase)) hbg⟩
def N4(W:World)(b:Nat)(n:Nd)(a1:OAd)(c1:Nat)(a2:OAd)(c2:Nat):Prop:=W.cell? ⟨b,0,none⟩=some (.int .i64 n.kind)∧W.cell? ⟨b,1,none⟩=some (.int .i64 n.so)∧W.cell? ⟨b,2,none⟩=some (.slice a1 n.labs.length c1)∧W.cell? ⟨b,3,none⟩=some (.slice a2 n.to.length c2)
theorem N4.keep{W W':World}{b:Nat}{n:Nd}{a1:OAd}{c1:Nat}{a2:OAd}{c2:Nat}(h:N4 W b n a1 c1 a2 c2)(hb:W'.heap[b]? = W.heap[b]?):N4 W' b n a1 c1 a2 c2 :=
 ⟨(World.cell?_of_block (a:=⟨b,0,none⟩) hb).trans h.1,(World.cell?_of_block (a:=⟨b,1,none⟩) hb).trans h.2.1,(World.cell?_of_block (a:=⟨b,2,none⟩) hb).trans h.2.2.1,(World.cell?_of_block (a:=⟨b,3,none⟩) hb).trans h.2.2.2⟩
theorem ZV.sx{w0:World}{db mb rb:Nat}{ca cb ud:Value}{ps qs:List Pz}{u:Value}{W:World}(h:ZV w0 db mb ca cb ud ps qs u W)(h0:w0.heap.size≤rb)(h1:rb≠db)(h2:rb≠mb)(h3:u.ownBlock≠some rb)(v0 v1 v2 v3 v4 v5:Value):ZV w0 db mb ca cb ud ps qs u (sx6 W rb v0 v1 v2 v3 v4 v5) :=
 h.other (sx6_bl ..).os (sx6_bl ..).tape (sx6_bl ..).output (sx6_bl ..).size fun b _ hor=>sx6_block _ _ _ _ _ _ _ _ b (by
  rintro rfl;rcases hor with q|q|q|q
  ·omega
  ·exact h1 q
  ·exact h2 q
  ·exact h3 q)
theorem either_any(m n:Nd)(t:Bool)(a1 a2 a3 a4:OAd)(c1 c2 c3 c4 B:Nat)(w0:World)(db mb:Nat)(ca cb ud:Value)(ps:List Pz)(u:Value)(w:World)(hz:ZW w0 db mb ca cb ud ps u w)(hB:B≤w0.heap.size)(hL:LA w0 B m.labs a1)(hT:NI w0 B m.to a2)(hL3:LA w0 B n.labs a3)(hT4:NI w0 B n.to a4)(hm:okN m)(hn:okN n)
  (h1:0<m.labs.length) (h3:0<n.labs.length) (hps:∀i,PS (((eithD m n t).nxt.take i).foldl addZ ps)) (hsm:∀q∈(eithD m n t).nxt,smPz q) :
  Calls Tryz.prog 33 #[.pointer (some ⟨db,0,none⟩),ndVal m a1 c1 a2 c2,ndVal n a3 c3 a4 c4,.bool t] w (DPost w0 db mb ca cb ud B (eithD m n t) ps u w):=by
 obtain ⟨i1,hj,hy0,hy1,hy2⟩:=info_parts infoInZ;have hA:Below w.heap.size w ((((w.alloc (.cells #[.int .i64 m.kind,.int .i64 m.so,.slice a1 m.labs.length c1,.slice a2 m.to.length c2] 56)).alloc (.cells #[.int .i64 n.kind,.int .i64 n.so,.slice a3 n.labs.length c3,.slice a4 n.to.length c4] 56)).alloc (.cells #[.int .i64 0,.int .i64 0,.slice none 0 0,.slice none 0 0,.int .i64 0,.slice none 0 0] 58)).alloc (.cells #[.slice a1 m.labs.length c1,.slice a3 n.labs.length c3] 22)):=((((Below.refl _ _).alloc (Nat.le_refl _) _).alloc (by simp) _).alloc (by simp;omega) _).alloc (by simp;omega) _
 have hsz:(((((w.alloc (.cells #[.int .i64 m.kind,.int .i64 m.so,.slice a1 m.labs.length c1,.slice a2 m.to.length c2] 56)).alloc (.cells #[.int .i64 n.kind,.int .i64 n.so,.slice a3 n.labs.length c3,.slice a4 n.to.length c4] 56)).alloc (.cells #[.int .i64 0,.int .i64 0,.slice none 0 0,.slice none 0 0,.int .i64 0,.slice none 0 0] 58)).alloc (.cells #[.slice a1 m.labs.length c1,.slice a3 n.labs.length c3] 22))).heap.size=w.heap.size+4:=by simp
 have hbw:=(hz.bl.trans (hA.mono hz.bl.size)).mono hB;have g1:=(shp_len (okN_shp hm)).1;have g3:=(shp_len (okN_shp hn)).1;have cC:=concatZ_any m.labs n.labs a1 a3 c1 c3 B (w.heap.size+1+1+1) ((((w.alloc (.cells #[.int .i64 m.kind,.int .i64 m.so,.slice a1 m.labs.length c1,.slice a2 m.to.length c2] 56)).alloc (.cells #[.int .i64 n.kind,.int .i64 n.so,.slice a3 n.labs.length c3,.slice a4 n.to.length c4] 56)).alloc (.cells #[.int .i64 0,.int .i64 0,.slice none 0 0,.slice none 0 0,.int .i64 0,.slice none 0 0] 58)).alloc (.cells #[.slice a1 m.labs.length c1,.slice a3 n.labs.length c3] 22)) (hL.keep hbw) (hL3.keep hbw) (by rw [hsz];have:=hz.bl.size;omega) h1 h3 g1 g3 (by go_cell) (by go_cell) (by rw [hsz];omega)
 have q1:N4 ((((w.alloc (.cells #[.int .i64 m.kind,.int .i64 m.so,.slice a1 m.labs.length c1,.slice a2 m.to.length c2] 56)).alloc (.cells #[.int .i64 n.kind,.int .i64 n.so,.slice a3 n.labs.length c3,.slice a4 n.to.length c4] 56)).alloc (.cells #[.int .i64 0,.int .i64 0,.slice none 0 0,.slice none 0 0,.int .i64 0,.slice none 0 0] 58)).alloc (.cells #[.slice a1 m.labs.length c1,.slice a3 n.labs.length c3] 22)) w.heap.size m a1 c1 a2 c2:=⟨by go_cell,by go_cell,by go_cell,by go_cell⟩
 have q2:N4 ((((w.alloc (.cells #[.int .i64 m.kind,.int .i64 m.so,.slice a1 m.labs.length c1,.slice a2 m.to.length c2] 56)).alloc (.cells #[.int .i64 n.kind,.int .i64 n.so,.slice a3 n.labs.length c3,.slice a4 n.to.length c4] 56)).alloc (.cells #[.int .i64 0,.int .i64 0,.slice none 0 0,.slice none 0 0,.int .i64 0,.slice none 0 0] 58)).alloc (.cells #[.slice a1 m.labs.length c1,.slice a3 n.labs.length c3] 22)) (w.heap.size+1) n a3 c3 a4 c4:=⟨by go_cell,by go_cell,by go_cell,by go_cell⟩
 have q4:(∀j,j<6→(((((w.alloc (.cells #[.int .i64 m.kind,.int .i64 m.so,.slice a1 m.labs.length c1,.slice a2 m.to.length c2] 56)).alloc (.cells #[.int .i64 n.kind,.int .i64 n.so,.slice a3 n.labs.length c3,.slice a4 n.to.length c4] 56)).alloc (.cells #[.int .i64 0,.int .i64 0,.slice none 0 0,.slice none 0 0,.int .i64 0,.slice none 0 0] 58)).alloc (.cells #[.slice a1 m.labs.length c1,.slice a3 n.labs.length c3] 22))).frozen? ⟨(w.heap.size+1+1),j,none⟩=false)∧∀j,j<6→∃v,(((((w.alloc (.cells #[.int .i64 m.kind,.int .i64 m.so,.slice a1 m.labs.length c1,.slice a2 m.to.length c2] 56)).alloc (.cells #[.int .i64 n.kind,.int .i64 n.so,.slice a3 n.labs.length c3,.slice a4 n.to.length c4] 56)).alloc (.cells #[.int .i64 0,.int .i64 0,.slice none 0 0,.slice none 0 0,.int .i64 0,.slice none 0 0] 58)).alloc (.cells #[.slice a1 m.labs.length c1,.slice a3 n.labs.length c3] 22))).cell? ⟨(w.heap.size+1+1),j,none⟩=some v:=⟨fun j hj=>by go_simp,fun j hj=>by
  match j,hj with
  | 0,_=>exact ⟨.int .i64 0,by go_cell⟩
  | 1,_=>exact ⟨.int .i64 0,by go_cell⟩
  | 2,_=>exact ⟨.slice none 0 0,by go_cell⟩
  | 3,_=>exact ⟨.slice none 0 0,by go_cell⟩
  | 4,_=>exact ⟨.int .i64 0,by go_cell⟩
  | 5,_=>exact ⟨.slice none 0 0,by go_cell⟩⟩
 have HQ1:=hideK q1;have HQ2:=hideK q2;have HQ4:=hideK q4;have HZ:=hideK hz;have HA:=hideK hA;have HPS:=hideK hps;have HSM:=hideK hsm;have hdb:=hz.ls;have hmb:=hz.mp.lt;have HUB:=hideK (fun j (hj:u.ownBlock=some j)=>(hz.own.lt j hj).2)
 have CB1:=hideK (fun (l:ByteArray) (W:World) (hb:Below w0.heap.size w0 W)=>behindZ_any m l a1 a2 c1 c2 B W (hL.keep (hb.mono hB)) (hT.keep (hb.mono hB)) (Nat.le_trans hB hb.size) hm)
 have CB3:=hideK (fun (l:ByteArray) (W:World) (hb:Below w0.heap.size w0 W)=>behindZ_any n l a3 a4 c3 c4 B W (hL3.keep (hb.mono hB)) (hT4.keep (hb.mono hB)) (Nat.le_trans hB hb.size) hn)
 have HUL:=hideK (show (srtN (m.labs++n.labs)).length=(uniL m n).length∧(srtN (m.labs++n.labs)).map encStr=(uniL m n).map Value.string from ⟨by unfold uniL;rw [List.length_map],by unfold uniL;rw [List.map_map];exact List.map_congr_left fun s _=>by simp [encStr]⟩)
 have hw4:w.heap.size+4=(((((w.alloc (.cells #[.int .i64 m.kind,.int .i64 m.so,.slice a1 m.labs.length c1,.slice a2 m.to.length c2] 56)).alloc (.cells #[.int .i64 n.kind,.int .i64 n.so,.slice a3 n.labs.length c3,.slice a4 n.to.length c4] 56)).alloc (.cells #[.int .i64 0,.int .i64 0,.slice none 0 0,.slice none 0 0,.int .i64 0,.slice none 0 0] 58)).alloc (.cells #[.slice a1 m.labs.length c1,.slice a3 n.labs.length c3] 22))).heap.size:=hsz.symm;clear q1 q2 q4 hz hA hL hT hL3 hT4 hps hsm hm hn hbw;simp only [ndVal]at CB1 CB3 ⊢;go_enter Tryz.func33,Tryz.ntmps33
 go_wp2_with fail
 refine cC.mono ?_;rintro e w2 ⟨v,rfl,hO,hb2⟩;have HB2:=hideK hb2;rw [enc_mapZ]at hO;have hv:v≠.slice none 0 0:=by
  rintro rfl;rcases hO.2 with ⟨_,h⟩|⟨_,_,_,h,_⟩
  ·omega
  ·cases h
 obtain ⟨g,cp,rfl,hbg,hgl,hncap,hcm,hlen,hH⟩:=Lib.holds_of_ownsRow hO hv;have hlnn:((m.labs++n.labs).map (·.data.toList)).length=m.labs.length+n.labs.length:=by simp
 have cSo:=sortZ_any g 0 cp ((m.labs++n.labs).map (·.data.toList)) w2 hH hgl (by omega)
 rw [hlnn]at cSo;have HO:=hideK hO;have HH:=hideK hH;have HSR:=hideK (show srtN (m.labs++n.labs)=Lib.compact (((m.labs++n.labs).map (·.data.toList)).mergeSort fun x y=>decide (x≤y)) from rfl)
 generalize hss:(m.labs++n.labs).map (·.data.toList)=ss at *
 generalize hN:m.labs.length+n.labs.length=N at *;clear cC hb2 hO hH hv hss;go_wp2_with fail
 refine cSo.mono ?_;rintro e w3 ⟨rfl,nn,os,hw3⟩;have hl2:(ss.mergeSort fun x y=>decide (x≤y)).length=N:=by rw [List.length_mergeSort];exact hlnn
 have hH2:Holds encStr w3 g 0 (ss.mergeSort fun x y=>decide (x≤y)).toArray:=by
  rw [hw3];exact holds_grow encStr _ os g 0 _ (by simpa [putRow,mapBlock,Sort.ahead] using hgl) (holds_putRow encStr _ g 0 _ _ (holds_ahead encStr w2 nn g 0 _ HH.out) (by simp))
 have cK:=compactZ_any g 0 cp (ss.mergeSort fun x y=>decide (x≤y)) w3 hH2 (by omega) (by omega)
 rw [hl2]at cK;have HW:=hideK hw3;clear cSo hH2 hw3;go_wp2_with fail
 refine cK.mono ?_;rintro e w5 ⟨rfl,q,hw5⟩;have hend:=left_rowZ (q:=q) (nn:=nn) (os:=os) HO.out HB2.out hbg hlnn (W:=w5) (by rw [hw5,HW.out])
 rw [← HSR.out,HUL.out.2]at hend;have HE:=hideK hend;have hgl5:g<w5.heap.size:=(hend.1.lt g rfl).2;have hb5:Below w.heap.size w w5:=HA.out.trans (hend.2.mono HA.out.size);have HB5:=hideK hb5;have hs5:=hend.2.size;have HKB:=hideK (fun b (hb:b<w.heap.size+4)=>hend.2.block b (by omega))
 have n1:=HQ1.out.keep (HKB.out w.heap.size (by omega))
 have n2:=HQ2.out.keep (HKB.out (w.heap.size+1) (by omega))
 have HN1:=hideK n1;have HN2:=hideK n2;have hkb:=HKB.out (w.heap.size+1+1) (by omega)
 have HR1:=hideK (show (∀j,j<6→w5.frozen? ⟨(w.heap.size+1+1),j,none⟩=false)∧∀j,j<6→∃v,w5.cell? ⟨(w.heap.size+1+1),j,none⟩=some v from ⟨fun j hj=>(World.frozen?_of_block (a:=⟨(w.heap.size+1+1),j,none⟩) hkb).trans (HQ4.out.1 j hj),fun j hj=>(HQ4.out.2 j hj).imp fun v hv=>(World.cell?_of_block (a:=⟨(w.heap.size+1+1),j,none⟩) hkb).trans hv⟩)
 have eln:(Lib.compact (ss.mergeSort fun x y=>decide (x≤y))).length=(uniL m n).length:=by rw [← HSR.out];exact HUL.out.1
 rw [eln];clear cK hw5 HW HH HO HB2 hend hb5 hkb n1 n2;by_cases h6:6<(uniL m n).length
 ·have hz6:(6:Int)<((uniL m n).length:Int):=by omega
  have HED:=hideK (show eithD m n t=drX from by unfold eithD;rw [if_pos h6])
  obtain ⟨t0,x0⟩:=HR1.out.2 0 (by omega)
  obtain ⟨t1,x1⟩:=HR1.out.2 1 (by omega)
  obtain ⟨t2,x2⟩:=HR1.out.2 2 (by omega)
  obtain ⟨t3,x3⟩:=HR1.out.2 3 (by omega)
  obtain ⟨t4,x4⟩:=HR1.out.2 4 (by omega)
  obtain ⟨t5,x5⟩:=HR1.out.2 5 (by omega)
  have f0:=HR1.out.1 0 (by omega)
  have f1:=HR1.out.1 1 (by omega)
  have f2:=HR1.out.1 2 (by omega)
  have f3:=HR1.out.1 3 (by omega)
  have f4:=HR1.out.1 4 (by omega)
  have f5:=HR1.out.1 5 (by omega)
  clear h6;generalize (uniL m n).length=kk at *;go_wp2_with fail
  change bodyPost _ _ _ _ _ (sx6 w5 (w.heap.size+1+1) (.int .i64 0) (.int .i64 0) (.slice none 0 0) (.slice none 0 0) (.int .i64 (-1)) (.slice none 0 0))
  have r0:(sx6 w5 (w.heap.size+1+1) (.int .i64 0) (.int .i64 0) (.slice none 0 0) (.slice none 0 0) (.int .i64 (-1)) (.slice none 0 0)).cell? ⟨(w.heap.size+1+1),0,none⟩=some (.int .i64 0):=by unfold sx6;go_cell
  have r1:(sx6 w5 (w.heap.size+1+1) (.int .i64 0) (.int .i64 0) (.slice none 0 0) (.slice none 0 0) (.int .i64 (-1)) (.slice none 0 0)).cell? ⟨(w.heap.size+1+1),1,none⟩=some (.int .i64 0):=by unfold sx6;go_cell
  have r2:(sx6 w5 (w.heap.size+1+1) (.int .i64 0) (.int .i64 0) (.slice none 0 0) (.slice none 0 0) (.int .i64 (-1)) (.slice none 0 0)).cell? ⟨(w.heap.size+1+1),2,none⟩=some (.slice none 0 0):=by unfold sx6;go_cell
  have r3:(sx6 w5 (w.heap.size+1+1) (.int .i64 0) (.int .i64 0) (.slice none 0 0) (.slice none 0 0) (.int .i64 (-1)) (.slice none 0 0)).cell? ⟨(w.heap.size+1+1),3,none⟩=some (.slice none 0 0):=by unfold sx6;go_cell
  have r4:(sx6 w5 (w.heap.size+1+1) (.int .i64 0) (.int .i64 0) (.slice none 0 0) (.slice none 0 0) (.int .i64 (-1)) (.slice none 0 0)).cell? ⟨(w.heap.size+1+1),4,none⟩=some (.int .i64 (-1)):=by unfold sx6;go_cell
  have r5:(sx6 w5 (w.heap.size+1+1) (.int .i64 0) (.int .i64 0) (.slice none 0 0) (.slice none 0 0) (.int .i64 (-1)) (.slice none 0 0)).cell? ⟨(w.heap.size+1+1),5,none⟩=some (.slice none 0 0):=by unfold sx6;go_cell
  refine bodyPost_ret (v:=.agg #[.int .i64 0,.int .i64 0,.slice none 0 0,.slice none 0 0,.int .i64 (-1),.slice none 0 0]) (by simp [results,Tryz.results33,go_sem,r0,r1,r2,r3,r4,r5]) rfl ?_
  have hzz:=(HZ.out.kept HB5.out).sx (rb:=(w.heap.size+1+1)) (by have:=HZ.out.bl.size;omega) (by omega) (by omega) (fun e=>by have:=HUB.out _ e;omega) (.int .i64 0) (.int .i64 0) (.slice none 0 0) (.slice none 0 0) (.int .i64 (-1)) (.slice none 0 0)
  refine ⟨u,none,0,none,0,by rw [HED.out];rfl,by rw [HED.out];exact hzz,?_,.inl rfl,by rw [HED.out];exact .inl rfl,by rw [HED.out];exact .inl rfl⟩
  have hbl:=sx6_bl w5 (w.heap.size+1+1) (.int .i64 0) (.int .i64 0) (.slice none 0 0) (.slice none 0 0) (.int .i64 (-1)) (.slice none 0 0);exact ⟨hbl.os.trans HB5.out.os,hbl.tape.trans HB5.out.tape,hbl.output.trans HB5.out.output,by rw [sx6_size];omega,fun k hk _ _ _=>(sx6_block _ _ _ _ _ _ _ _ k (by omega)).trans (HB5.out.block k hk)⟩
 ·have hz6:¬(6:Int)<((uniL m n).length:Int):=by omega
  have HDR:=hideK (show (eithD m n t).kind=m.kind∧(eithD m n t).so=0∧(eithD m n t).labs=uniL m n∧(eithD m n t).nxt=(uniL m n).map (fun l=>((behI m l,behI n l,t):Pz))∧(eithD m n t).spare=0 from by unfold eithD;rw [if_neg h6];exact ⟨rfl,rfl,rfl,rfl,rfl⟩)
  obtain ⟨m0,m1',m2,m3⟩:=HN1.out;have hln:(uniL m n).length≤6:=by omega
  generalize hul:uniL m n=ul at *;have hD1:Below w.heap.size w (w5.alloc (.cells #[.int .i64 m.kind,.int .i64 0,.slice (some ⟨g,0,none⟩) ul.length cp,.slice none 0 0,.int .i64 0,.slice none 0 0] 58)):=HB5.out.alloc (by omega) _
  have HLC:=hideK (fun i (hi:i<ul.length)=>(show w5.cell? ⟨g,i,none⟩=some (.string ul[i]) from by
   rcases own_cells HE.out.1 with ⟨h,_⟩|⟨g',cap',e,_,_,hc⟩
   ·cases h
   ·cases e
    exact hc i _ (by rw [List.getElem?_map,List.getElem?_eq_getElem hi];rfl)))
  obtain ⟨t0,x0⟩:=HR1.out.2 0 (by omega)
  obtain ⟨t1,x1⟩:=HR1.out.2 1 (by omega)
  obtain ⟨t2,x2⟩:=HR1.out.2 2 (by omega)
  obtain ⟨t3,x3⟩:=HR1.out.2 3 (by omega)
  obtain ⟨t4,x4⟩:=HR1.out.2 4 (by omega)
  obtain ⟨t5,x5⟩:=HR1.out.2 5 (by omega)
  have f0:=HR1.out.1 0 (by omega)
  have f1:=HR1.out.1 1 (by omega)
  have f2:=HR1.out.1 2 (by omega)
  have f3:=HR1.out.1 3 (by omega)
  have f4:=HR1.out.1 4 (by omega)
  have f5:=HR1.out.1 5 (by omega)
  clear h6;have q0':∀j,j<6→(w5.alloc (.cells #[.int .i64 m.kind,.int .i64 0,.slice (some ⟨g,0,none⟩) ul.length cp,.slice none 0 0,.int .i64 0,.slice none 0 0] 58)).frozen? ⟨w5.heap.size,j,none⟩=false:=fun j hj=>by go_simp
  have q1':∀j,j<6→j≠3→(w5.alloc (.cells #[.int .i64 m.kind,.int .i64 0,.slice (some ⟨g,0,none⟩) ul.length cp,.slice none 0 0,.int .i64 0,.slice none 0 0] 58)).cell? ⟨w5.heap.size,j,none⟩=some (dX m.kind 0 (.slice (some ⟨g,0,none⟩) ul.length cp) 0 j):=fun j hj h3=>by
   match j,hj,h3 with
   | 0,_,_=>show (w5.alloc (.cells #[.int .i64 m.kind,.int .i64 0,.slice (some ⟨g,0,none⟩) ul.length cp,.slice none 0 0,.int .i64 0,.slice none 0 0] 58)).cell? ⟨w5.heap.size,0,none⟩=some (.int .i64 m.kind);go_cell
   | 1,_,_=>show (w5.alloc (.cells #[.int .i64 m.kind,.int .i64 0,.slice (some ⟨g,0,none⟩) ul.length cp,.slice none 0 0,.int .i64 0,.slice none 0 0] 58)).cell? ⟨w5.heap.size,1,none⟩=some (.int .i64 0);go_cell
   | 2,_,_=>show (w5.alloc (.cells #[.int .i64 m.kind,.int .i64 0,.slice (some ⟨g,0,none⟩) ul.length cp,.slice none 0 0,.int .i64 0,.slice none 0 0] 58)).cell? ⟨w5.heap.size,2,none⟩=some (.slice (some ⟨g,0,none⟩) ul.length cp);go_cell
   | 4,_,_=>show (w5.alloc (.cells #[.int .i64 m.kind,.int .i64 0,.slice (some ⟨g,0,none⟩) ul.length cp,.slice none 0 0,.int .i64 0,.slice none 0 0] 58)).cell? ⟨w5.heap.size,4,none⟩=some (.int .i64 0);go_cell
   | 5,_,_=>show (w5.alloc (.cells #[.int .i64 m.kind,.int .i64 0,.slice (some ⟨g,0,none⟩) ul.length cp,.slice none 0 0,.int .i64 0,.slice none 0 0] 58)).cell? ⟨w5.heap.size,5,none⟩=some (.slice none 0 0);go_cell
  have q3':(w5.alloc (.cells #[.int .i64 m.kind,.int .i64 0,.slice (some ⟨g,0,none⟩) ul.length cp,.slice none 0 0,.int .i64 0,.slice none 0 0] 58)).cell? ⟨w5.heap.size,3,none⟩=some (.slice none 0 0):=by go_cell
  have HD0:=hideK (DB.start (bx:=w5.heap.size) (X:=dX m.kind 0 (.slice (some ⟨g,0,none⟩) ul.length cp) 0) HZ.out hD1 (by omega) (by simp) q3' q0' q1')
  have HD1:=hideK hD1;have HW1:=hideK (fun b (hb:b<w5.heap.size)=>heap_alloc_old w5 (.cells #[.int .i64 m.kind,.int .i64 0,.slice (some ⟨g,0,none⟩) ul.length cp,.slice none 0 0,.int .i64 0,.slice none 0 0] 58) hb)
  have hz1:(w5.alloc (.cells #[.int .i64 m.kind,.int .i64 0,.slice (some ⟨g,0,none⟩) ul.length cp,.slice none 0 0,.int .i64 0,.slice none 0 0] 58)).heap.size=w5.heap.size+1:=by simp
  clear q0' q1' q3' hD1;go_wp2_with fail
  generalize hw1:(w5.alloc (.cells #[.int .i64 m.kind,.int .i64 0,.slice (some ⟨g,0,none⟩) ul.length cp,.slice none 0 0,.int .i64 0,.slice none 0 0] 58))=w1 at *;generalize hbx:w5.heap.size=bx at *;clear x0 x1 x2 x3 x4 x5 f0 f1 f2 f3 f4 f5 m0 m1' m2 m3;go_loopw [34] (fun i wr=>∃(k:Nat) (v u':Value),k≤ul.length∧i = .int .i64 (k:Int)∧DB w0 w1 db mb bx ca cb ud u (dX m.kind 0 (.slice (some ⟨g,0,none⟩) ul.length cp) 0) (((ul.map (fun l=>((behI m l,behI n l,t):Pz))).take k).foldl addZ ps) (nums ps ((ul.map (fun l=>((behI m l,behI n l,t):Pz))).take k)) u' v wr) (fun i _=>ul.length - (intOf i).toNat)
  case atStart=>exact ⟨0,_,u,Nat.zero_le _,rfl,HD0.out⟩
  case round =>
   obtain ⟨k,v,u',hk,rfl,hD⟩:=hrel;have HD:=hideK hD;have hszr:=hD.sz;have HKW:=hideK (fun b (hb:b<bx) (hw:w.heap.size≤b)=>(hD.fr b (by omega) (by omega) (by omega) (by omega) (fun e=>by have:=HUB.out b e.symm;omega)).trans (HW1.out b hb))
   obtain ⟨va,vc,rfl⟩:=sliceH_own hD.own;by_cases hlt:k<ul.length
   ·have hltz:(k:Int)<(ul.length:Int):=by omega
    have hkz:(k:Int)≤6:=by omega
    have y0:=(World.cell?_of_block (a:=⟨g,k,none⟩) (HKW.out g (by omega) (by omega))).trans (HLC.out k hlt)
    have n1:=HN1.out.keep (HKW.out w.heap.size (by omega) (by omega))
    have n2:=HN2.out.keep (HKW.out (w.heap.size+1) (by omega) (by omega))
    have hkm:k<(ul.map (fun l=>((behI m l,behI n l,t):Pz))).length:=by simpa using hlt
    obtain ⟨ft1,ft2⟩:=fold_take (ps:=ps) hkm;have HFT:=hideK (And.intro ft1 ft2);have P:=HPS.out k;rw [HDR.out.2.2.2.1]at P;have hpk:smPz (ul.map (fun l=>((behI m l,behI n l,t):Pz)))[k]:=HSM.out _ (by rw [HDR.out.2.2.2.1];exact List.getElem_mem hkm)
    have CN:=hideK (fun (W:World) (h:ZW w0 db mb ca cb ud (((ul.map (fun l=>((behI m l,behI n l,t):Pz))).take k).foldl addZ ps) u' W)=>numberZ_any w0 db mb ca cb ud _ u' (ul.map (fun l=>((behI m l,behI n l,t):Pz)))[k] W h P.ln P.nd P.sm hpk)
    rw [List.getElem_map]at CN HFT;have hlen:(nums ps ((ul.map (fun l=>((behI m l,behI n l,t):Pz))).take k)).length≤6:=by rw [nums_eq,List.length_map,List.length_take];omega
    generalize (addZ (((ul.map (fun l=>((behI m l,behI n l,t):Pz))).take k).foldl addZ ps) (behI m ul[k],behI n ul[k],t)).idxOf (behI m ul[k],behI n ul[k],t)=nb at CN HFT
    generalize nums ps ((ul.map (fun l=>((behI m l,behI n l,t):Pz))).take k)=tos at *
    generalize ul[k]=l at *;have CB1':=hideK (CB1.out l);have CB3':=hideK (CB3.out l);simp only [pkZ]at CN;generalize hx:behI m l=x at *;generalize hy:behI n l=y at *;generalize hqm:tos.length=q at *;have HS0:=hideK (And.intro hD.c3 (And.intro n1 n2));have hbx1:bx<wr.heap.size:=by have:=hD.b1;omega
    have HVN:=hideK (show ∀j,(Value.slice va q vc).ownBlock=some j→w1.heap.size≤j from fun j hj=>(HD.out.vlt hj).1)
    clear P hpk ft1 ft2 hD n1 n2;go_wp2_with fail
    have HSA:=hideK (fun (W W':World) (hs:W.cell? ⟨bx,3,none⟩=some (.slice va q vc)∧N4 W w.heap.size m a1 c1 a2 c2∧N4 W (w.heap.size+1) n a3 c3 a4 c4) (hx:bx<W.heap.size) (hb:Below W.heap.size W W')=>show W'.cell? ⟨bx,3,none⟩=some (.slice va q vc)∧N4 W' w.heap.size m a1 c1 a2 c2∧N4 W' (w.heap.size+1) n a3 c3 a4 c4 from ⟨(hb.cell (p:=⟨bx,3,none⟩) hx).trans hs.1,hs.2.1.keep (hb.block w.heap.size (by omega)),hs.2.2.keep (hb.block (w.heap.size+1) (by omega))⟩)
    have HSR5:=hideK (fun (W W':World) (hs:W.cell? ⟨bx,3,none⟩=some (.slice va q vc)∧N4 W w.heap.size m a1 c1 a2 c2∧N4 W (w.heap.size+1) n a3 c3 a4 c4) (hx:bx<W.heap.size) (hr:RF mb db u'.ownBlock W W')=>show W'.cell? ⟨bx,3,none⟩=some (.slice va q vc)∧N4 W' w.heap.size m a1 c1 a2 c2∧N4 W' (w.heap.size+1) n a3 c3 a4 c4 from by
     have k1:=hr.block bx hx (by omega) (by omega) (fun e=>HD.out.ubx e.symm)
     have hu:∀b,w.heap.size≤b→b<bx→some b≠u'.ownBlock:=fun b h1 h2 e=>by
      rcases HD.out.uf with q|q
      ·have:=HUB.out b (by rw [← q];exact e.symm);omega
      ·have:=q b e.symm;omega
     exact ⟨(World.cell?_of_block (a:=⟨bx,3,none⟩) k1).trans hs.1,hs.2.1.keep (hr.block w.heap.size (by omega) (by omega) (by omega) (hu _ (by omega) (by omega))),hs.2.2.keep (hr.block (w.heap.size+1) (by omega) (by omega) (by omega) (hu _ (by omega) (by omega)))⟩)
    have HSG:=hideK (fun (W W':World) (hs:W.cell? ⟨bx,3,none⟩=some (.slice va q vc)∧N4 W w.heap.size m a1 c1 a2 c2∧N4 W (w.heap.size+1) n a3 c3 a4 c4) (hx:bx<W.heap.size) (hg:W.grownBy W' (Value.slice va q vc).ownBlock)=>show W'.cell? ⟨bx,3,none⟩=some (.slice va q vc)∧N4 W' w.heap.size m a1 c1 a2 c2∧N4 W' (w.heap.size+1) n a3 c3 a4 c4 from by
     have hu:∀b,b≤bx→some b≠(Value.slice va q vc).ownBlock:=fun b h e=>by have:=HVN.out b e.symm;omega
     exact ⟨(World.cell?_of_block (a:=⟨bx,3,none⟩) (hg.block bx hx (hu _ (by omega)))).trans hs.1,hs.2.1.keep (hg.block w.heap.size (by omega) (hu _ (by omega))),hs.2.2.keep (hg.block (w.heap.size+1) (by omega) (hu _ (by omega)))⟩)
    refine wp_region_upto (fun W:World=>W.cell? ⟨bx,3,none⟩=some (.slice va q vc)∧N4 W w.heap.size m a1 c1 a2 c2∧N4 W (w.heap.size+1) n a3 c3 a4 c4) 17 (by kernel_rfl) (HS0.out) (fun hS=>?_)
    refine tkU 0 (.pointer (some ⟨bx,0,none⟩)) hS ?_;simp only [Act.put,sA,sB,sC];refine tkU 1 (.pointer (some ⟨bx,3,none⟩)) hS ?_;simp only [Act.put,sA,sB,sC];refine tkU 2 (.slice va q vc) hS ?_ (hy:=Or.inl ⟨by rfl,fun W hW=>by have x0:=hW.1;go_simp⟩)
    simp only [Act.put,sA,sB,sC];refine tkU 3 (.pointer (some ⟨db,0,none⟩)) hS ?_;simp only [Act.put,sA,sB,sC];refine tkU 4 (.agg #[.int .i64 m.kind,.int .i64 m.so,.slice a1 m.labs.length c1,.slice a2 m.to.length c2]) hS ?_ (hy:=Or.inl ⟨by rfl,fun W hW=>by obtain ⟨_,⟨x0,x1,x2,x3⟩,_⟩:=hW;go_simp⟩)
    simp only [Act.put,sA,sB,sC];refine tkU 5 (.string l) hS ?_;simp only [Act.put,sA,sB,sC];refine tkU 7 (.agg #[.int .i64 n.kind,.int .i64 n.so,.slice a3 n.labs.length c3,.slice a4 n.to.length c4]) hS ?_ (hy:=Or.inl ⟨by rfl,fun W hW=>by obtain ⟨_,_,x0,x1,x2,x3⟩:=hW;go_simp⟩)
    simp only [Act.put,sA,sB,sC];refine tkU 8 (.string l) hS ?_;simp only [Act.put,sA,sB,sC];refine tkU 10 (.bool t) hS ?_;simp only [Act.put,sA,sB,sC];have hbV:Below wr.heap.size wr wr.drew:=(Below.refl _ _).drew;refine onU 6 (fun K hK=>?_)
    go_simp
    refine (CB1'.out wr.drew (HD.out.z.bl.drew)).mono ?_;rintro e w6 ⟨rfl,hb6⟩;have HB6:=hideK (hbV.trans (hb6.mono hbV.size));have HS6:=hideK (HSA.out wr w6 HS0.out hbx1 HB6.out);clear hb6 hbV;have hSn:=HS6.out;refine hK.out _ _ hSn ?_;clear hS hK K hSn;intro hS;try simp only [Act.put,sA,sB,sC]
    refine onU 9 (fun K hK=>?_)
    go_simp
    refine (CB3'.out w6 (HD.out.z.kept HB6.out).bl).mono ?_;rintro e w8 ⟨rfl,hb8⟩;have HB8:=hideK (HB6.out.trans (hb8.mono HB6.out.size));have HS8:=hideK (HSA.out wr w8 HS0.out hbx1 HB8.out);have hx8:bx<w8.heap.size:=Nat.lt_of_lt_of_le hbx1 HB8.out.size;clear hb8;have hSn:=HS8.out;refine hK.out _ _ hSn ?_;clear hS hK K hSn;intro hS;try simp only [Act.put,sA,sB,sC]
    refine onU 11 (fun K hK=>?_)
    go_simp
    have hSn:=hS;refine hK.out _ _ hSn ?_;clear hS hK K hSn;intro hS;try simp only [Act.put,sA,sB,sC]
    refine onU 12 (fun K hK=>?_)
    go_simp
    refine (CN.out w8 (HD.out.z.kept HB8.out)).mono ?_;rintro e w5' ⟨rfl,u5,hz5,hr5,hf5⟩;have HD5:=hideK ((HD.out.kept HB8.out).num hz5 hr5 hf5);have HS5:=hideK (HSR5.out w8 w5' HS8.out hx8 hr5);have hx5:bx<w5'.heap.size:=Nat.lt_of_lt_of_le hx8 hr5.size;clear hz5 hr5 hf5;have hSn:=HS5.out;refine hK.out _ _ hSn ?_;clear hS hK K hSn;intro hS;try simp only [Act.put,sA,sB,sC]
    refine onU 13 (fun K hK=>?_)
    go_simp
    have hb6:Below w5'.heap.size w5' (w5'.alloc (.cells #[.int .i64 (nb:Int)] 3)):=(Below.refl _ _).alloc (Nat.le_refl _) _;have HS9:=hideK (HSA.out w5' _ HS5.out hx5 hb6);clear hb6;have hSn:=HS9.out;refine hK.out _ _ hSn ?_;clear hS hK K hSn;intro hS;try simp only [Act.put,sA,sB,sC]
    have HO6:=hideK (own_belowG HD5.out.own ((Below.refl _ _).alloc (Nat.le_refl _) (.cells #[.int .i64 (nb:Int)] 3)));have hw15:w1.heap.size≤w5'.heap.size:=HD5.out.sz;have HL6:=hideK (World.ownsRow_lit (base:=w1.heap.size) (e:=3) (size:=1) w5' #[.int .i64 (nb:Int)] 1 hw15 (by decide) rfl)
    refine onU 14 (fun K hK=>?_)
    refine step_append_rows _ rfl (.tmp 40) (.tmp 51) 54 rfl w1.heap.size w1.heap.size 3 i1 _ 1 8 Tryz.underlying54 hj hy0 hy1 hy2 rfl (by decide) _ _ _ rfl HO6.out _ _ _ rfl HL6.out (by simp [Value.oneCell']) (by unfold maxLen;omega) (by omega) (by simp;omega) ?_
    intro v7 w7 hO7 hg7 hat7;have HD7:=hideK (HD5.out.put hg7 hO7 hat7);have HS7:=hideK (HSG.out _ w7 HS9.out (by simp;omega) hg7)
    have hf7:=HD5.out.frz hg7;obtain ⟨va7,vc7,rfl⟩:=sliceH_own hO7;clear hO7 hg7 hat7;have hSn:=HS7.out;refine hK.out _ _ hSn ?_;clear hS hK K hSn;intro hS;try simp only [Act.put,sA,sB,sC]
    refine onU 15 (fun K hK=>?_)
    go_simp
    have hSn:=hS;refine hK.out _ _ hSn ?_;clear hS hK K hSn;intro hS;try simp only [Act.put,sA,sB,sC]
    refine onU 16 (fun K hK=>?_)
    go_simp
    have hSn:=hS;refine hK.out _ _ hSn ?_;clear hS hK K hSn;intro hS;try simp only [Act.put,sA,sB,sC]
    have x7:=hS.1;refine upto_last (by rw [List.getElem?_toArray];rfl) (by kernel_rfl) (fun K hK=>?_)
    go_simp
    refine hK.out _ _ ?_;clear hS hK K;refine upto_done (by kernel_rfl) ?_ _
    go_wp2_with fail
    go_roundw
    case rel =>
     have h7:=HD7.out;rw [hqm]at h7;refine ⟨k+1,.slice va7 (q+1) vc7,u5,by omega,by go_num,?_⟩
     rw [HFT.out.1,HFT.out.2];exact h7
    case measure=>simp [intOf];omega
   ·have hltz:¬(k:Int)<(ul.length:Int):=by omega
    have hkk:k=ul.length:=by omega
    subst hkk;have etk:(ul.map (fun l=>((behI m l,behI n l,t):Pz))).take ul.length=ul.map (fun l=>((behI m l,behI n l,t):Pz)):=List.take_of_length_le (by simp)
    rw [etk]at HD;generalize hnx:ul.map (fun l=>((behI m l,behI n l,t):Pz))=nx at *
    have z3:=HD.out.c3;have z0:=HD.out.oc 0 (by omega) (by omega)
    have e0:dX m.kind 0 (.slice (some ⟨g,0,none⟩) ul.length cp) 0 0 = .int .i64 m.kind:=rfl;rw [e0]at z0;have z1:=HD.out.oc 1 (by omega) (by omega)
    have e1:dX m.kind 0 (.slice (some ⟨g,0,none⟩) ul.length cp) 0 1 = .int .i64 0:=rfl;rw [e1]at z1;have z2:=HD.out.oc 2 (by omega) (by omega)
    have e2:dX m.kind 0 (.slice (some ⟨g,0,none⟩) ul.length cp) 0 2 = .slice (some ⟨g,0,none⟩) ul.length cp:=rfl;rw [e2]at z2;have z4:=HD.out.oc 4 (by omega) (by omega)
    have e4:dX m.kind 0 (.slice (some ⟨g,0,none⟩) ul.length cp) 0 4 = .int .i64 0:=rfl;rw [e4]at z4;have z5:=HD.out.oc 5 (by omega) (by omega)
    have e5:dX m.kind 0 (.slice (some ⟨g,0,none⟩) ul.length cp) 0 5 = .slice none 0 0:=rfl;rw [e5]at z5;have hkb:=HKW.out (w.heap.size+1+1) (by omega) (by omega)
    obtain ⟨t0,x0⟩:=(HR1.out.2 0 (by omega)).imp fun v hv=>(World.cell?_of_block (a:=⟨(w.heap.size+1+1),0,none⟩) hkb).trans hv
    obtain ⟨t1,x1⟩:=(HR1.out.2 1 (by omega)).imp fun v hv=>(World.cell?_of_block (a:=⟨(w.heap.size+1+1),1,none⟩) hkb).trans hv
    obtain ⟨t2,x2⟩:=(HR1.out.2 2 (by omega)).imp fun v hv=>(World.cell?_of_block (a:=⟨(w.heap.size+1+1),2,none⟩) hkb).trans hv
    obtain ⟨t3,x3⟩:=(HR1.out.2 3 (by omega)).imp fun v hv=>(World.cell?_of_block (a:=⟨(w.heap.size+1+1),3,none⟩) hkb).trans hv
    obtain ⟨t4,x4⟩:=(HR1.out.2 4 (by omega)).imp fun v hv=>(World.cell?_of_block (a:=⟨(w.heap.size+1+1),4,none⟩) hkb).trans hv
    obtain ⟨t5,x5⟩:=(HR1.out.2 5 (by omega)).imp fun v hv=>(World.cell?_of_block (a:=⟨(w.heap.size+1+1),5,none⟩) hkb).trans hv
    have f0:=(World.frozen?_of_block (a:=⟨(w.heap.size+1+1),0,none⟩) hkb).trans (HR1.out.1 0 (by omega))
    have f1:=(World.frozen?_of_block (a:=⟨(w.heap.size+1+1),1,none⟩) hkb).trans (HR1.out.1 1 (by omega))
    have f2:=(World.frozen?_of_block (a:=⟨(w.heap.size+1+1),2,none⟩) hkb).trans (HR1.out.1 2 (by omega))
    have f3:=(World.frozen?_of_block (a:=⟨(w.heap.size+1+1),3,none⟩) hkb).trans (HR1.out.1 3 (by omega))
    have f4:=(World.frozen?_of_block (a:=⟨(w.heap.size+1+1),4,none⟩) hkb).trans (HR1.out.1 4 (by omega))
    have f5:=(World.frozen?_of_block (a:=⟨(w.heap.size+1+1),5,none⟩) hkb).trans (HR1.out.1 5 (by omega))
    obtain ⟨ar,cr,er,hnq⟩:=HD.out.row;have HER:=hideK er;have HNQ:=hideK hnq;have HP:=hideK (HD.out.post HD1.out HZ.out.bl.size (by omega) (rb:=(w.heap.size+1+1)) (by omega) (by omega) hdb hmb HUB.out (.int .i64 m.kind) (.int .i64 0) (.slice (some ⟨g,0,none⟩) ul.length cp) (.slice va (nums ps nx).length vc) (.int .i64 0) (.slice none 0 0))
    clear hkb hnq er e0 e1 e2 e4 e5;go_wp2_with fail
    have r0:(sx6 wr (w.heap.size+1+1) (.int .i64 m.kind) (.int .i64 0) (.slice (some ⟨g,0,none⟩) ul.length cp) (.slice va (nums ps nx).length vc) (.int .i64 0) (.slice none 0 0)).cell? ⟨(w.heap.size+1+1),0,none⟩=some (.int .i64 m.kind):=by unfold sx6;go_cell
    have r1:(sx6 wr (w.heap.size+1+1) (.int .i64 m.kind) (.int .i64 0) (.slice (some ⟨g,0,none⟩) ul.length cp) (.slice va (nums ps nx).length vc) (.int .i64 0) (.slice none 0 0)).cell? ⟨(w.heap.size+1+1),1,none⟩=some (.int .i64 0):=by unfold sx6;go_cell
    have r2:(sx6 wr (w.heap.size+1+1) (.int .i64 m.kind) (.int .i64 0) (.slice (some ⟨g,0,none⟩) ul.length cp) (.slice va (nums ps nx).length vc) (.int .i64 0) (.slice none 0 0)).cell? ⟨(w.heap.size+1+1),2,none⟩=some (.slice (some ⟨g,0,none⟩) ul.length cp):=by unfold sx6;go_cell
    have r3:(sx6 wr (w.heap.size+1+1) (.int .i64 m.kind) (.int .i64 0) (.slice (some ⟨g,0,none⟩) ul.length cp) (.slice va (nums ps nx).length vc) (.int .i64 0) (.slice none 0 0)).cell? ⟨(w.heap.size+1+1),3,none⟩=some (.slice va (nums ps nx).length vc):=by unfold sx6;go_cell
    have r4:(sx6 wr (w.heap.size+1+1) (.int .i64 m.kind) (.int .i64 0) (.slice (some ⟨g,0,none⟩) ul.length cp) (.slice va (nums ps nx).length vc) (.int .i64 0) (.slice none 0 0)).cell? ⟨(w.heap.size+1+1),4,none⟩=some (.int .i64 0):=by unfold sx6;go_cell
    have r5:(sx6 wr (w.heap.size+1+1) (.int .i64 m.kind) (.int .i64 0) (.slice (some ⟨g,0,none⟩) ul.length cp) (.slice va (nums ps nx).length vc) (.int .i64 0) (.slice none 0 0)).cell? ⟨(w.heap.size+1+1),5,none⟩=some (.slice none 0 0):=by unfold sx6;go_cell
    change bodyPost _ _ _ _ _ (sx6 wr (w.heap.size+1+1) (.int .i64 m.kind) (.int .i64 0) (.slice (some ⟨g,0,none⟩) ul.length cp) (.slice va (nums ps nx).length vc) (.int .i64 0) (.slice none 0 0))
    refine bodyPost_ret (v:=.agg #[.int .i64 m.kind,.int .i64 0,.slice (some ⟨g,0,none⟩) ul.length cp,.slice va (nums ps nx).length vc,.int .i64 0,.slice none 0 0]) (by simp [results,Tryz.results33,go_sem,r0,r1,r2,r3,r4,r5]) rfl ?_
    obtain ⟨p1,p2,p3⟩:=HP.out;have er:=HER.out;injection er with er1 er2 er3
    subst er1;have hD9:=HDR.out;have hgu:u'.ownBlock≠some g:=fun e=>by
     rcases HD.out.uf with q|q
     ·have:=HUB.out g (by rw [← q];exact e);omega
     ·have:=q g e;omega
    refine ⟨u',some ⟨g,0,none⟩,cp,va,vc,by rw [hD9.1,hD9.2.1,hD9.2.2.1,hD9.2.2.2.1,hD9.2.2.2.2];rfl,by rw [hD9.2.2.2.1];exact p1,p2,p3,?_,?_⟩
    ·rw [hD9.2.2.1]
     refine .inr ⟨g,0,rfl,⟨by rw [sx6_size];omega,.inr (by omega),hgu⟩,fun i hi=>?_⟩
     rw [Nat.zero_add];exact (World.cell?_of_block (a:=⟨g,i,none⟩) ((sx6_block _ _ _ _ _ _ _ _ g (by omega)).trans (HKW.out g (by omega) (by omega)))).trans (HLC.out i hi)
    ·rw [hD9.2.2.2.1]
     exact HNQ.out.keep (fun b o hb=>World.cell?_of_block (a:=⟨b,o,none⟩) (sx6_block _ _ _ _ _ _ _ _ b (by omega))) fun b hb=>⟨by rw [sx6_size];exact hb.2.1,.inr (by omega),hb.2.2⟩
end Go.Proofs.YtnedgkcejlhnbaaGreatDoor
