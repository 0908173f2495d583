/-
  Contracts of the library, laid at this program in plain words. Conditions: none.
-/
import Derived.Ground.Names2Prog
import Derived.Shelf.Slices.ReverseS
import Derived.Test.YtmamabhhgfcjcaaGreatDoorVf
import Derived.Test.YtmamabhhgfcjcaaGreatDoorVk
set_option maxRecDepth 100000
set_option maxHeartbeats 4000000
namespace Go.Proofs
open Go.Shelf
def Tryz.laysNm217_ren:Go.Shelf.Ren:=⟨fun|17=>166|n=>n,fun|24=>28|9=>9|3=>3|4=>4|0=>0|n=>n,fun|n=>n⟩
theorem Tryz.laysNm217:Go.Proofs.Lays2.n17 Tryz.prog Tryz.laysNm217_ren:={
 mixed:=by kernel_rfl
 f17:=Tryz.func166.trans (congrArg some (by kernel_rfl))
 t0:=Tryz.underlying0
 a0:=Tryz.isAgg0
 z0:=Tryz.sizeOf0
 v0:=Tryz.zeroValue0
 t3:=Tryz.underlying3
 a3:=Tryz.isAgg3
 z3:=Tryz.sizeOf3
 v3:=Tryz.zeroValue3
 t4:=Tryz.underlying4
 a4:=Tryz.isAgg4
 z4:=Tryz.sizeOf4
 v4:=Tryz.zeroValue4
 t9:=Tryz.underlying9
 a9:=Tryz.isAgg9
 z9:=Tryz.sizeOf9
 v9:=Tryz.zeroValue9
 t24:=Tryz.underlying28
 a24:=Tryz.isAgg28
 z24:=Tryz.sizeOf28
 v24:=Tryz.zeroValue28 }
end Go.Proofs
namespace Go.Proofs.YtmamabhhgfcjcaaGreatDoor
open Go.RowKit Go.Sort
theorem enc_mapR(ns:List ByteArray):ns.map Value.string=(ns.map (·.data.toList)).map encStr:=by
 rw [List.map_map];refine List.map_congr_left fun s _=>?_
 simp [encStr]
theorem reverseOwn_any(v:Value)(base:Nat)(ss:List ByteArray)(w:World)(h:w.ownsRow base 9 1 v ss.length (ss.map Value.string))(hl:ss.length≤1000000):
  Calls Tryz.prog 166 #[v] w fun e w'=>e = .returned (.tuple #[])∧w'.ownsRow base 9 1 v ss.length (ss.reverse.map Value.string)∧∀(w0:World) (B:Nat),Below B w0 w→B≤base→Below B w0 w':=by
 by_cases hv:v = .slice none 0 0
 ·subst hv
  have h0:ss=[]:=by
   rcases h.2 with ⟨_,h⟩|⟨g,c,cur,h,_⟩
   ·exact List.eq_nil_of_length_eq_zero h
   ·cases h
  subst h0;refine (Any.slices_Reverse_string_empty Tryz.laysNm217 none 0 w).mono ?_;rintro e w' ⟨rfl,rfl⟩;exact ⟨rfl,by simpa using h,fun _ _ hb _=>hb⟩
 ·rw [enc_mapR]at h
  have hl2:ss.length=(ss.map (·.data.toList)).length:=by simp
  rw [hl2]at h ⊢;rw [enc_mapR ss.reverse,List.map_reverse];generalize hz:ss.map (·.data.toList)=zs at *
  obtain ⟨g,cp,rfl,hbg,hgl,hncap,hcm,hlen,hH⟩:=Lib.holds_of_ownsRow h hv;refine (Any.slices_Reverse_string Tryz.laysNm217 g 0 cp zs w hH (by omega)).mono ?_
  rintro e w' ⟨rfl,n,rfl⟩;have:=Lib.ownsRow_putRow (q:=n) (k:=zs.length) (ys:=zs.reverse) h (by simp) (nR _)
  rw [List.take_of_length_le (by simp)]at this
  exact ⟨rfl,this,fun w0 B hb hB=>Lib.below_putRow hb (Nat.le_trans hB hbg)⟩
theorem la_own{W:World}{B n:Nat}{u:Value}{ss:List ByteArray}(hn:ss.length=n)(ho:W.ownsRow B 9 1 u n (ss.map Value.string)):∃a c,u = .slice a n c∧LA W W.heap.size ss a:=by
 rcases own_cells ho with ⟨rfl,h0,_⟩|⟨g,cap,rfl,_,hg,hc⟩
 ·refine ⟨none,0,by rw [h0],.inl ?_⟩
  rw [h0]at hn;rw [List.length_eq_zero_iff.1 hn];rfl
 ·refine ⟨_,_,rfl,.inr ⟨g,0,rfl,hg,fun i hi=>?_⟩⟩
  rw [Nat.zero_add];exact hc i _ (List.getElem?_eq_getElem hi)
theorem infoStR:(Tryz.prog.info? 9).map (fun i=>(i.zero,i.size,i.bytes))=some (some (.string ⟨#[]⟩),1,16):=by kernel_rfl
theorem countB_any(w0:World)(sb mb:Nat)(arr:List (Ag Pl))(u:Value)(w:World)(hs:SWB w0 sb mb arr u w):
  Calls Tryz.prog 141 #[.pointer (some ⟨sb,0,none⟩)] w fun e w'=>e = .returned (.int .i64 (arr.length:Int))∧w'=w:=by
 obtain ⟨va,vc,rfl⟩:=sliceH_own hs.own;have c1:=hs.c1;clear hs;go_enter Tryz.func141,Tryz.ntmps141
 go_wp2_with fail
 go_ret
 exact ⟨rfl,rfl⟩
theorem placeB_any(w0:World)(sb mb:Nat)(arr:List (Ag Pl))(u:Value)(k:Nat)(w:World)(hs:SWB w0 sb mb arr u w)(hk:k<arr.length):
  Calls Tryz.prog 142 #[.pointer (some ⟨sb,0,none⟩),.int .i64 (k:Int)] w fun e w'=>e = .returned (pkB arr[k].1.2)∧Below w.heap.size w w':=by
 obtain ⟨b,c,rfl,_,hbl,hc⟩:=hs.at_ hk;have c1:=hs.c1;have hls:=hs.ls;have hkz:(k:Int)<(arr.length:Int):=by omega
 have a0:=hc 0 _ rfl;have a1:=hc 1 _ rfl;have a2:=hc 2 _ rfl;have hA:=fun o:Obj=>(Below.refl w.heap.size w).alloc (nR _) o
 have HA:=hideK hA;clear hs hc hA;simp only [pkB];generalize arr[k].1.2=p at *;obtain ⟨pa,pb,tt⟩:=p;simp only [Nat.add_zero]at a0;simp only at a0 a1 a2 ⊢;have r0:(w.alloc (.cells #[.int .i64 (pa:Int),.int .i64 (pb:Int),.bool tt] 119)).cell? ⟨w.heap.size,0,none⟩=some (.int .i64 (pa:Int)):=by go_cell
 have r1:(w.alloc (.cells #[.int .i64 (pa:Int),.int .i64 (pb:Int),.bool tt] 119)).cell? ⟨w.heap.size,1,none⟩=some (.int .i64 (pb:Int)):=by go_cell
 have r2:(w.alloc (.cells #[.int .i64 (pa:Int),.int .i64 (pb:Int),.bool tt] 119)).cell? ⟨w.heap.size,2,none⟩=some (.bool tt):=by go_cell
 go_enter Tryz.func142,Tryz.ntmps142
 go_wp2_with fail
 refine bodyPost_ret (v:=.agg #[.int .i64 (pa:Int),.int .i64 (pb:Int),.bool tt]) (by simp [results,Tryz.results142,go_sem,r0,r1,r2]) rfl ?_
 exact ⟨rfl,HA.out _⟩
theorem toB_any(w0:World)(sb mb:Nat)(arr:List (Ag Pl))(u:Value)(k:Nat)(w:World)(hs:SWB w0 sb mb arr u w)(hk:k<arr.length)(hl:arr.length≤80000)(hw:∀(i:Nat) (v:Ag Pl),arr[i]? = some v→0<i→v.2<i):
  Calls Tryz.prog 144 #[.pointer (some ⟨sb,0,none⟩),.int .i64 (k:Int)] w fun e w'=>(∃aw cw,e = .returned (.slice aw (wayGA arr k).length cw)∧LA w' w'.heap.size (wayGA arr k).reverse aw)∧Below w.heap.size w w':=by
 obtain ⟨i1,hj,hy0,hy1,hy2⟩:=info_parts infoStR;have hkz:(k:Int)≤80000:=by omega
 have HS:=hideK hs;have HW:=hideK hw;have HLN:=hideK (wayG_len arr hw);have hls:=hs.ls;clear hs hw;go_enter Tryz.func144,Tryz.ntmps144
 go_wp2_with fail
 go_loopw [1,5] (fun i v wr=>∃(j:Nat) (ws:List ByteArray),j<arr.length∧i = .int .i64 (j:Int)∧wr.ownsRow w.heap.size 9 1 v ws.length (ws.map Value.string)∧Below w.heap.size w wr∧ws++wayGA arr j=wayGA arr k) (fun i _ _=>(intOf i).toNat)
 case atStart=>exact ⟨k,[],hk,rfl,World.ownsRow_nil _ _ _ _,Below.refl _ _,rfl⟩
 case round =>
  obtain ⟨j,ws,hjl,rfl,hO,hb,hway⟩:=hrel;have hjz:(j:Int)<(arr.length:Int):=by omega
  by_cases h0:0<j
  ·have h0z:(j:Int) > 0:=by omega
   have h0b:decide ((0:Int)<(j:Int))=true:=by simpa using h0
   obtain ⟨ub,uc,rfl,hub,hul,hc⟩:=HS.out.at_ hjl;have cu:=(hb.cell (p:=⟨sb,1,none⟩) hls).trans HS.out.c1;have d0:=(hb.cell (p:=⟨ub,j*5+3,none⟩) hul).trans (hc 3 _ rfl);have d4:=(hb.cell (p:=⟨ub,j*5+4,none⟩) hul).trans (hc 4 _ rfl);have HST:=hideK (wayGA_step HW.out h0 (List.getElem?_eq_getElem hjl));have hfr:=HW.out j arr[j] (List.getElem?_eq_getElem hjl) h0;have hwl:ws.length≤80000:=by
    have e1:=HLN.out k k hk;have e2:=congrArg List.length hway;rw [List.length_append]at e2;unfold wayGA at e2;omega
   have HB:=hideK hb;have HWY:=hideK hway;clear hc hub hway;generalize arr[j].1.1=wd at *;generalize hfg:arr[j].2=fr at *;have LR:=hideK (lit_rowG 9 w.heap.size wr (.string wd) wr.heap.size rfl hb.size);have OA:=hideK (own_belowG hO ((bR _ _).alloc (nR _) (.cells #[.string wd] 9)));have hwsz:=hb.size;have HOB:=hideK (own_baseG hO);clear hO hb;go_wp2_with (at_builtin;refine wpList_append_rows _ rfl (.tmp 16) (.tmp 25) 28 rfl w.heap.size w.heap.size 9 i1 (.string ⟨#[]⟩) 1 16 Tryz.underlying28 hj hy0 hy1 hy2 rfl (by decide) _ _ _ rfl OA.out _ _ _ rfl LR.out (by simp [Value.oneCell']) (by unfold maxLen;omega) (by omega) (by simp;omega) ?_;intro v7 w7 hO7 hg7 hat7;have HB7:=hideK ((HB.out.alloc hwsz _).grown hg7 (by simp;omega) HOB.out);have cu7:=(HB7.out.cell (p:=⟨sb,1,none⟩) hls).trans HS.out.c1;have d47:=(HB7.out.cell (p:=⟨ub,j*5+4,none⟩) hul).trans ((HB.out.cell (p:=⟨ub,j*5+4,none⟩) hul).symm.trans d4);clear hg7 hat7)
   go_roundw
   case rel =>
    refine ⟨fr,ws++[wd],by omega,rfl,?_,HB7.out,?_⟩
    ·rw [List.length_append,List.map_append];exact hO7
    ·rw [List.append_assoc,← HWY.out,HST.out];rfl
   case measure=>simp [intOf];omega
  ·obtain rfl:j=0:=by omega
   have hw0:ws=wayGA arr k:=by
    have e:wayGA arr 0=[]:=rfl;rw [e,List.append_nil]at hway;exact hway
   subst hw0;have hwl:(wayGA arr k).length≤80000:=by
    have e1:=HLN.out k k hk;unfold wayGA;omega
   have cR:=reverseOwn_any u5 w.heap.size (wayGA arr k) wr hO (by omega)
   have HB:=hideK hb;generalize hG:wayGA arr k=ws at *;clear hO hb hway;go_wp2_with fail
   refine cR.mono ?_;rintro e w2 ⟨rfl,hO2,hb2⟩;have HB2:=hideK (hb2 _ _ HB.out (nR _));obtain ⟨aw,cw,rfl,hla⟩:=la_own (ss:=ws.reverse) (by simp) hO2
   have HLA:=hideK hla;clear hO2 hb2 cR hla;go_wp2_with fail
   go_ret
   first|exact ⟨⟨_,_,by rw [hG];rfl,by rw [hG];exact HLA.out⟩,HB2.out⟩|exact ⟨⟨_,by rw [hG];rfl,by rw [hG];exact HLA.out⟩,HB2.out⟩
theorem SWB_new{w W:World}{mb:Nat}{p:Pl}{u:Value}(hm:MPB W mb [p])(ho:W.ownsRow w.heap.size 230 5 u 1 (aCB (avG p)))(hb:Below w.heap.size w W)(h1:w.heap.size≤mb)(h2:u.ownBlock≠some mb):
  SWB w W.heap.size mb [avG p] u (W.alloc (.cells #[.map (some mb),u] 233)):=by
 have hA:Below W.heap.size W (W.alloc (.cells #[.map (some mb),u] 233)):=(bR _ _).alloc (nR _) _;refine ⟨World.cell?_alloc_new _ _ _ _,World.cell?_alloc_new _ _ _ _,by go_simp,hm.blk (hA.block mb hm.lt),own_belowG (by simpa [avB] using ho) hA,by have:=hm.lt;omega,hb.size,h1,fun e=>by have:=(ho.lt _ e).2;omega,h2,by simp,hb.trans (hA.mono hb.size)⟩
theorem own_updB{W W':World}{base mb:Nat}{e:TypeId}{size:Nat}{v:Value}{n:Nat}{xs:List Value}(h:W.ownsRow base e size v n xs)(hg:W.grownBy W' (some mb))(hn:v.ownBlock≠some mb):W'.ownsRow base e size v n xs:=by
 refine ⟨h.1,h.2.imp id fun ⟨g,c,cur,e1,hb,hc,r⟩=>⟨g,c,cur,e1,hb,?_,r⟩⟩
 rw [hg.block g (Array.getElem?_eq_some_iff.1 hc).1 (fun e=>hn (by rw [e1];exact e))]
 exact hc
theorem fromB_any(p:Pl)(w:World)(hp:smB p):
  Calls Tryz.prog 140 #[pkB p] w fun e w'=>∃sb mb u,e = .returned (.pointer (some ⟨sb,0,none⟩))∧SWB w sb mb [avG p] u w':=by
 obtain ⟨pa,pb,tt⟩:=p;have hA:Below w.heap.size w (w.alloc (.cells #[.int .i64 (pa:Int),.int .i64 (pb:Int),.bool tt] 119)):=(bR _ _).alloc (nR _) _;have bA:PBB w.heap.size (pa,pb,tt) (w.alloc (.cells #[.int .i64 (pa:Int),.int .i64 (pb:Int),.bool tt] 119)):=⟨by go_cell,by go_cell,by go_cell⟩
 have hsz:(w.alloc (.cells #[.int .i64 (pa:Int),.int .i64 (pb:Int),.bool tt] 119)).heap.size=w.heap.size+1:=by simp
 have HA:=hideK hA;have HBA:=hideK bA;have HUP:=hideK (fun (W:World) (mb:Nat) (h:MPB W mb [])=>(lookB_out h (fun _ q=>by cases q) hp (fun q=>by cases q)).2)
 simp only [pkB,List.nil_append]at HUP ⊢;clear hA bA;go_enter Tryz.func140,Tryz.ntmps140
 go_wp2_with fail
 generalize (w.alloc (.cells #[.int .i64 (pa:Int),.int .i64 (pb:Int),.bool tt] 119))=V at *;refine wp_region_held_drew (S:=(PBB w.heap.size (pa,pb,tt))) (by kernel_rfl) HBA.out (fun hS=>?_)
 have hszd:V.drew.heap.size=w.heap.size+1:=hsz;refine tkH 1 (.agg #[.int .i64 (pa:Int),.int .i64 (pb:Int),.bool tt]) hS ?_ (hy:=Or.inl ⟨by rfl,fun W hW=>by obtain ⟨x0,x1,x2⟩:=hW;go_simp⟩)
 simp only [Act.put,sA,sB,sC];refine tkZ 2 (.agg #[]) hS ?_;refine tkH 5 (.agg #[.int .i64 (pa:Int),.int .i64 (pb:Int),.bool tt]) hS ?_ (hy:=Or.inl ⟨by rfl,fun W hW=>by obtain ⟨x0,x1,x2⟩:=hW;go_simp⟩)
 simp only [Act.put,sA,sB,sC];refine tkZ 6 (.agg #[.int .i64 (pa:Int),.int .i64 (pb:Int),.bool tt,.string ⟨#[]⟩,.int .i64 0]) hS ?_;refine wpAnyH_ready (rs:=[0,7]) (by kernel_rfl) (by simp) (aC (fun K hK=>?_) (aC (fun K hK=>?_) aN))
 ·go_simp
  have mpA:MPB (V.alloc (.map #[] 0)).drew (w.heap.size+1) []:=by rw [← hsz];exact MPB.new V
  have bA:PBB w.heap.size (pa,pb,tt) (V.alloc (.map #[] 0)).drew:=HBA.out.keep fun o=>World.cell?_of_block (a:=⟨w.heap.size,o,none⟩) (heap_alloc_old V _ (by show w.heap.size<V.heap.size;omega))
  have hbA:Below w.heap.size w (V.alloc (.map #[] 0)).drew:=(HA.out.alloc HA.out.size _).drew;have hsA:(V.alloc (.map #[] 0)).drew.heap.size=w.heap.size+2:=by simp [hsz]
  refine hK.out _ (V.alloc (.map #[] 0)).drew bA ?_;clear hS hK K;intro hS;simp only [Act.put,List.setIfInBounds_toArray,List.set_cons_zero,List.set_cons_succ,hszd];generalize (V.alloc (.map #[] 0)).drew=VA at *;refine wpAnyH_ready (rs:=[3,7]) (by kernel_rfl) (by simp) (aC (fun K hK=>?_) (aC (fun K hK=>?_) aN))
  ·obtain ⟨V3,hrun,hg3,hz3,hm3⟩:=HUP.out (VA) (w.heap.size+1) (mpA)
   have b3:PBB w.heap.size (pa,pb,tt) V3:=hS.keep fun o=>World.cell?_of_block (a:=⟨w.heap.size,o,none⟩) (hg3.block w.heap.size (by omega) (fun e=>by injection e with e;omega))
   have hb3:Below w.heap.size w V3:=(hbA).trans ⟨hg3.os,hg3.tape,hg3.output,hg3.size,fun b hb=>hg3.block b (nL hb (hbA).size) (fun e=>by injection e with e;omega)⟩
   refine stepUpdB rfl (.tmp 3) (.tmp 4) (.tmp 5) 228 (.inr rfl) rfl rfl rfl hrun ?_;refine hK.out _ _ b3 ?_;clear hS hK K;intro hS;simp only [Act.put];refine tkZ 4 (.map (some (w.heap.size+1))) hS ?_;have oL:(V3.alloc (.cells #[.int .i64 (pa:Int),.int .i64 (pb:Int),.bool tt,.string ⟨#[]⟩,.int .i64 0] 230)).ownsRow w.heap.size 230 5 (.slice (some ⟨w.heap.size+2,0,none⟩) 1 1) 1 (aCB (avG (pa,pb,tt))):=by
    have h:=World.ownsRow_lit (base:=w.heap.size) (e:=230) (size:=5) V3 #[.int .i64 (pa:Int),.int .i64 (pb:Int),.bool tt,.string ⟨#[]⟩,.int .i64 0] 1 (by omega) (by decide) rfl
    rw [show V3.heap.size=w.heap.size+2 from by omega]at h
    exact h
   refine take_oneHL 7 (aC (fun K hK=>?_) aN) (by kernel_rfl)
   go_simp
   have hSn:=(hS.keep fun o=>World.cell?_of_block (a:=⟨w.heap.size,o,none⟩) (heap_alloc_old V3 _ (by show w.heap.size<V3.heap.size;omega)):PBB w.heap.size (pa,pb,tt) (V3.alloc (.cells #[.int .i64 (pa:Int),.int .i64 (pb:Int),.bool tt,.string ⟨#[]⟩,.int .i64 0] 230)))
   refine hK.out _ _ hSn ?_;clear hS hK K hSn;intro hS;try simp only [show V3.heap.size=w.heap.size+2 from by omega]
   refine tkZ 8 (.agg #[.map (some (w.heap.size+1)),.slice (some ⟨w.heap.size+2,0,none⟩) 1 1]) hS ?_;have hF:=SWB_new (w:=w) (W:=V3.alloc (.cells #[.int .i64 (pa:Int),.int .i64 (pb:Int),.bool tt,.string ⟨#[]⟩,.int .i64 0] 230)) (mb:=w.heap.size+1) (p:=(pa,pb,tt)) (u:=.slice (some ⟨w.heap.size+2,0,none⟩) 1 1) (hm3.blk (heap_alloc_old V3 _ hm3.lt)) (oL) (hb3.alloc hb3.size _) (by omega) (by intro e;simp [Value.ownBlock]at e)
   have hsF:(V3.alloc (.cells #[.int .i64 (pa:Int),.int .i64 (pb:Int),.bool tt,.string ⟨#[]⟩,.int .i64 0] 230)).heap.size=w.heap.size+3:=by simp;omega
   refine take_oneHL 9 (aC (fun K hK=>?_) aN) (by kernel_rfl)
   go_simp
   have b9:PBB w.heap.size (pa,pb,tt) ((V3.alloc (.cells #[.int .i64 (pa:Int),.int .i64 (pb:Int),.bool tt,.string ⟨#[]⟩,.int .i64 0] 230)).alloc (.cells #[.map (some (w.heap.size+1)),.slice (some ⟨w.heap.size+2,0,none⟩) 1 1] 233)):=hS.keep fun o=>World.cell?_of_block (a:=⟨w.heap.size,o,none⟩) (heap_alloc_old (V3.alloc (.cells #[.int .i64 (pa:Int),.int .i64 (pb:Int),.bool tt,.string ⟨#[]⟩,.int .i64 0] 230)) _ (by show w.heap.size<(V3.alloc (.cells #[.int .i64 (pa:Int),.int .i64 (pb:Int),.bool tt,.string ⟨#[]⟩,.int .i64 0] 230)).heap.size;omega))
   refine hK.out _ _ b9 ?_;clear hS hK K;intro hS;refine take_oneHL 10 (aC (fun K hK=>?_) aN) (by kernel_rfl)
   go_simp
   refine hK.out _ _ hS ?_;clear hS hK K;intro hS;refine wpAnyH_done (by kernel_rfl) ?_ _
   have HF:=hideK hF;clear hF;go_wp2_with fail
   go_ret
   have h:=HF.out;rw [hsF]at h;exact ⟨w.heap.size+3,w.heap.size+1,.slice (some ⟨w.heap.size+2,0,none⟩) 1 1,rfl,h⟩
  ·go_simp
   have oL:(VA.alloc (.cells #[.int .i64 (pa:Int),.int .i64 (pb:Int),.bool tt,.string ⟨#[]⟩,.int .i64 0] 230)).ownsRow w.heap.size 230 5 (.slice (some ⟨w.heap.size+2,0,none⟩) 1 1) 1 (aCB (avG (pa,pb,tt))):=by
    have h:=World.ownsRow_lit (base:=w.heap.size) (e:=230) (size:=5) VA #[.int .i64 (pa:Int),.int .i64 (pb:Int),.bool tt,.string ⟨#[]⟩,.int .i64 0] 1 (by omega) (by decide) rfl
    rw [show VA.heap.size=w.heap.size+2 from by omega]at h
    exact h
   have hSn:=(hS.keep fun o=>World.cell?_of_block (a:=⟨w.heap.size,o,none⟩) (heap_alloc_old VA _ (by show w.heap.size<VA.heap.size;omega)):PBB w.heap.size (pa,pb,tt) (VA.alloc (.cells #[.int .i64 (pa:Int),.int .i64 (pb:Int),.bool tt,.string ⟨#[]⟩,.int .i64 0] 230)))
   refine hK.out _ _ hSn ?_;clear hS hK K hSn;intro hS;try simp only [hsA]
   have hsL:(VA.alloc (.cells #[.int .i64 (pa:Int),.int .i64 (pb:Int),.bool tt,.string ⟨#[]⟩,.int .i64 0] 230)).heap.size=w.heap.size+3:=by simp [hsA]
   refine take_oneHL 3 (aC (fun K hK=>?_) aN) (by kernel_rfl)
   obtain ⟨V3,hrun,hg3,hz3,hm3⟩:=HUP.out (VA.alloc (.cells #[.int .i64 (pa:Int),.int .i64 (pb:Int),.bool tt,.string ⟨#[]⟩,.int .i64 0] 230)) (w.heap.size+1) (mpA.blk (heap_alloc_old VA _ mpA.lt));have b3:PBB w.heap.size (pa,pb,tt) V3:=hS.keep fun o=>World.cell?_of_block (a:=⟨w.heap.size,o,none⟩) (hg3.block w.heap.size (by omega) (fun e=>by injection e with e;omega))
   have hb3:Below w.heap.size w V3:=(hbA.alloc hbA.size _).trans ⟨hg3.os,hg3.tape,hg3.output,hg3.size,fun b hb=>hg3.block b (nL hb (hbA.alloc hbA.size _).size) (fun e=>by injection e with e;omega)⟩
   refine stepUpdB rfl (.tmp 3) (.tmp 4) (.tmp 5) 228 (.inr rfl) rfl rfl rfl hrun ?_;refine hK.out _ _ b3 ?_;clear hS hK K;intro hS;simp only [Act.put];refine tkZ 4 (.map (some (w.heap.size+1))) hS ?_;refine tkZ 8 (.agg #[.map (some (w.heap.size+1)),.slice (some ⟨w.heap.size+2,0,none⟩) 1 1]) hS ?_;have hF:=SWB_new (w:=w) (W:=V3) (mb:=w.heap.size+1) (p:=(pa,pb,tt)) (u:=.slice (some ⟨w.heap.size+2,0,none⟩) 1 1) (hm3) (own_updB oL hg3 (by intro e;simp [Value.ownBlock]at e)) (hb3) (by omega) (by intro e;simp [Value.ownBlock]at e)
   have hsF:(V3).heap.size=w.heap.size+3:=by omega
   refine take_oneHL 9 (aC (fun K hK=>?_) aN) (by kernel_rfl)
   go_simp
   have b9:PBB w.heap.size (pa,pb,tt) ((V3).alloc (.cells #[.map (some (w.heap.size+1)),.slice (some ⟨w.heap.size+2,0,none⟩) 1 1] 233)):=hS.keep fun o=>World.cell?_of_block (a:=⟨w.heap.size,o,none⟩) (heap_alloc_old (V3) _ (by show w.heap.size<(V3).heap.size;omega))
   refine hK.out _ _ b9 ?_;clear hS hK K;intro hS;refine take_oneHL 10 (aC (fun K hK=>?_) aN) (by kernel_rfl)
   go_simp
   refine hK.out _ _ hS ?_;clear hS hK K;intro hS;refine wpAnyH_done (by kernel_rfl) ?_ _
   have HF:=hideK hF;clear hF;go_wp2_with fail
   go_ret
   have h:=HF.out;rw [hsF]at h;exact ⟨w.heap.size+3,w.heap.size+1,.slice (some ⟨w.heap.size+2,0,none⟩) 1 1,rfl,h⟩
 ·go_simp
  have oL:(V.alloc (.cells #[.int .i64 (pa:Int),.int .i64 (pb:Int),.bool tt,.string ⟨#[]⟩,.int .i64 0] 230)).drew.ownsRow w.heap.size 230 5 (.slice (some ⟨w.heap.size+1,0,none⟩) 1 1) 1 (aCB (avG (pa,pb,tt))):=by
   have h:=World.ownsRow_lit (base:=w.heap.size) (e:=230) (size:=5) V #[.int .i64 (pa:Int),.int .i64 (pb:Int),.bool tt,.string ⟨#[]⟩,.int .i64 0] 1 (by omega) (by decide) rfl
   rw [hsz]at h;exact h
  have bA:PBB w.heap.size (pa,pb,tt) (V.alloc (.cells #[.int .i64 (pa:Int),.int .i64 (pb:Int),.bool tt,.string ⟨#[]⟩,.int .i64 0] 230)).drew:=HBA.out.keep fun o=>World.cell?_of_block (a:=⟨w.heap.size,o,none⟩) (heap_alloc_old V _ (by show w.heap.size<V.heap.size;omega))
  have hbA:Below w.heap.size w (V.alloc (.cells #[.int .i64 (pa:Int),.int .i64 (pb:Int),.bool tt,.string ⟨#[]⟩,.int .i64 0] 230)).drew:=(HA.out.alloc HA.out.size _).drew;have hsA:(V.alloc (.cells #[.int .i64 (pa:Int),.int .i64 (pb:Int),.bool tt,.string ⟨#[]⟩,.int .i64 0] 230)).drew.heap.size=w.heap.size+2:=by simp [hsz]
  refine hK.out _ _ bA ?_;clear hS hK K;intro hS;generalize (V.alloc (.cells #[.int .i64 (pa:Int),.int .i64 (pb:Int),.bool tt,.string ⟨#[]⟩,.int .i64 0] 230)).drew=VA at *;refine take_oneHL 0 (aC (fun K hK=>?_) aN) (by kernel_rfl)
  go_simp
  have mpA:MPB (VA.alloc (.map #[] 0)) (w.heap.size+2) []:=by rw [← hsA];exact MPB.new VA
  have b4:PBB w.heap.size (pa,pb,tt) (VA.alloc (.map #[] 0)):=hS.keep fun o=>World.cell?_of_block (a:=⟨w.heap.size,o,none⟩) (heap_alloc_old VA _ (by show w.heap.size<VA.heap.size;omega))
  refine hK.out _ (VA.alloc (.map #[] 0)) b4 ?_;clear hS hK K;intro hS;simp only [Act.put,List.setIfInBounds_toArray,List.set_cons_zero,List.set_cons_succ,hsA];have hsL:(VA.alloc (.map #[] 0)).heap.size=w.heap.size+3:=by simp [hsA]
  refine take_oneHL 3 (aC (fun K hK=>?_) aN) (by kernel_rfl)
  obtain ⟨V3,hrun,hg3,hz3,hm3⟩:=HUP.out (VA.alloc (.map #[] 0)) (w.heap.size+2) (mpA);have b3:PBB w.heap.size (pa,pb,tt) V3:=hS.keep fun o=>World.cell?_of_block (a:=⟨w.heap.size,o,none⟩) (hg3.block w.heap.size (by omega) (fun e=>by injection e with e;omega))
  have hb3:Below w.heap.size w V3:=(hbA.alloc hbA.size _).trans ⟨hg3.os,hg3.tape,hg3.output,hg3.size,fun b hb=>hg3.block b (nL hb (hbA.alloc hbA.size _).size) (fun e=>by injection e with e;omega)⟩
  refine stepUpdB rfl (.tmp 3) (.tmp 4) (.tmp 5) 228 (.inr rfl) rfl rfl rfl hrun ?_;refine hK.out _ _ b3 ?_;clear hS hK K;intro hS;simp only [Act.put];refine tkZ 4 (.map (some (w.heap.size+2))) hS ?_;refine tkZ 8 (.agg #[.map (some (w.heap.size+2)),.slice (some ⟨w.heap.size+1,0,none⟩) 1 1]) hS ?_;have hF:=SWB_new (w:=w) (W:=V3) (mb:=w.heap.size+2) (p:=(pa,pb,tt)) (u:=.slice (some ⟨w.heap.size+1,0,none⟩) 1 1) (hm3) (own_updB (own_belowG oL ((bR _ _).alloc (nR _) _)) hg3 (by intro e;simp [Value.ownBlock]at e)) (hb3) (by omega) (by intro e;simp [Value.ownBlock]at e)
  have hsF:(V3).heap.size=w.heap.size+3:=by omega
  refine take_oneHL 9 (aC (fun K hK=>?_) aN) (by kernel_rfl)
  go_simp
  have b9:PBB w.heap.size (pa,pb,tt) ((V3).alloc (.cells #[.map (some (w.heap.size+2)),.slice (some ⟨w.heap.size+1,0,none⟩) 1 1] 233)):=hS.keep fun o=>World.cell?_of_block (a:=⟨w.heap.size,o,none⟩) (heap_alloc_old (V3) _ (by show w.heap.size<(V3).heap.size;omega))
  refine hK.out _ _ b9 ?_;clear hS hK K;intro hS;refine take_oneHL 10 (aC (fun K hK=>?_) aN) (by kernel_rfl)
  go_simp
  refine hK.out _ _ hS ?_;clear hS hK K;intro hS;refine wpAnyH_done (by kernel_rfl) ?_ _
  have HF:=hideK hF;clear hF;go_wp2_with fail
  go_ret
  have h:=HF.out;rw [hsF]at h;exact ⟨w.heap.size+3,w.heap.size+2,.slice (some ⟨w.heap.size+1,0,none⟩) 1 1,rfl,h⟩
end Go.Proofs.YtmamabhhgfcjcaaGreatDoor
