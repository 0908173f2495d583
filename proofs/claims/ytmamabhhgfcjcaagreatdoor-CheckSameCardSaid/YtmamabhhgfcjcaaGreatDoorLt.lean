/-
  The contract of package isPart: ways 0 1 2 3 4.
-/
import Derived.Test.YtmamabhhgfcjcaaGreatDoorOg
import Derived.ProofKit
import Derived.Lib.LaidU8T
import Derived.Lib.LaidIn
import Derived.PinnedBridge
import Derived.Lay
import Derived.SevenTiedAt
set_option maxRecDepth 100000
set_option maxHeartbeats 8000000
namespace Go.Proofs.YtmamabhhgfcjcaaGreatDoor
open Go.RowKit Go.Shelf
theorem isPart_w0(p:Pr)(a:PrA)(w:World)(hb:PrB w w.heap.size p a)(hk:1≤p.kind∧p.kind≤13)(hl:((p.kids.length:Int) != (kdsOf p:Int))=false)(h0:fitB (hvC p.kind) (isNm p.chan.data.toList) p.chan.toList.isEmpty=false):Calls Tryz.prog 79 #[prVal p a] w fun e w'=>e = .returned (.bool false)∧Below w.heap.size w w':=by
 have HX0:=hideK (show PBx w w.heap.size p a (w.alloc (prBx p a)).drew from (PBx.new w p a).keep ((bR _ _).drew))
 obtain ⟨hkl,hxl,hnl,hll⟩:=bounds_pr hb;have HB:=hideK hb;have HK:=hideK hk;have hk1:¬p.kind<1:=by omega
 have hk2:¬ 13<p.kind:=by omega
 have H0:=hideK h0;clear hb hk h0;simp only [prBx,prVal]at HX0 ⊢;go_enter Tryz.func79,Tryz.ntmps79
 go_upto_region 1 with fail
 refine region_seq (PBx w w.heap.size p a) [0,1,2,3,4,5,6,7,8,9,10,11,12,13,14,15] (by kernel_rfl) (by kernel_rfl) (by kernel_rfl) (HX0.out) ?_
 repeat (refine qO ?_;first|refine qN ?_|refine qC (pkK HK.out) ?_|refine qP ?_|refine qX ?_|refine qT ?_|refine qV ?_|refine qL ?_)
 refine SeqS.done ?_;intro W1 hW1;have HX1:=hideK hW1;have x0:=hW1.at0.get (j:=0) (v:=.int .i64 p.kind) (by omega) rfl
 have cF:=fieldsOf_any p.kind W1 HK.out;clear hW1 HX0 hl hk1 hk2;go_wp2_with fail
 refine cF.mono ?_;rintro e w' ⟨rfl,rfl⟩;have HX2:=hideK (HX1.out.keep ((bR _ _).drew));clear cF x0 HX1;go_upto_region 4 with fail
 refine region_seq (PBx w w.heap.size p a) [0,1,2,3,4,5,6,7,8,9,10,11,12,13,14,15,16,17,18,19,20,21,22,23,24,25,26,27,28,29,30,31,32,33,34,35,36,37,38,39,40,41,42,43,44,45,46,47,48,49,50,51,52,53,54,55,56,57,58,59,60,61,62,63,64,65,66,67,68,69,70,71,72,73,74,75,76,77,78,79,80,81,82,83] (by kernel_rfl) (by kernel_rfl) (by kernel_rfl) (HX2.out) ?_
 repeat (refine qO ?_;first|refine qN ?_|refine qC (pkf H0.out) ?_|refine qC (pkC HK.out) ?_|refine qC (pkc HB.out) ?_|refine qP ?_|refine qX ?_|refine qT ?_|refine qV ?_|refine qL ?_)
 refine SeqS.done ?_;intro W2 hW2;have HB2:=hideK hW2.bl;clear hW2;go_wp2_with fail
 go_ret
 exact ⟨rfl,HB2.out⟩
theorem isPart_w1(p:Pr)(a:PrA)(w:World)(hb:PrB w w.heap.size p a)(hk:1≤p.kind∧p.kind≤13)(hl:((p.kids.length:Int) != (kdsOf p:Int))=false)(h0:fitB (hvC p.kind) (isNm p.chan.data.toList) p.chan.toList.isEmpty=true)(h1:fitB (hvN p.kind) (nmOf p) p.name.toList.isEmpty=false):Calls Tryz.prog 79 #[prVal p a] w fun e w'=>e = .returned (.bool false)∧Below w.heap.size w w':=by
 have HX0:=hideK (show PBx w w.heap.size p a (w.alloc (prBx p a)).drew from (PBx.new w p a).keep ((bR _ _).drew))
 obtain ⟨hkl,hxl,hnl,hll⟩:=bounds_pr hb;have HB:=hideK hb;have HK:=hideK hk;have hk1:¬p.kind<1:=by omega
 have hk2:¬ 13<p.kind:=by omega
 have H0:=hideK h0;have H1:=hideK h1;clear hb hk h0 h1;simp only [prBx,prVal]at HX0 ⊢;go_enter Tryz.func79,Tryz.ntmps79
 go_upto_region 1 with fail
 refine region_seq (PBx w w.heap.size p a) [0,1,2,3,4,5,6,7,8,9,10,11,12,13,14,15] (by kernel_rfl) (by kernel_rfl) (by kernel_rfl) (HX0.out) ?_
 repeat (refine qO ?_;first|refine qN ?_|refine qC (pkK HK.out) ?_|refine qP ?_|refine qX ?_|refine qT ?_|refine qV ?_|refine qL ?_)
 refine SeqS.done ?_;intro W1 hW1;have HX1:=hideK hW1;have x0:=hW1.at0.get (j:=0) (v:=.int .i64 p.kind) (by omega) rfl
 have cF:=fieldsOf_any p.kind W1 HK.out;clear hW1 HX0 hl hk1 hk2;go_wp2_with fail
 refine cF.mono ?_;rintro e w' ⟨rfl,rfl⟩;have HX2:=hideK (HX1.out.keep ((bR _ _).drew));clear cF x0 HX1;go_upto_region 4 with fail
 refine region_seq (PBx w w.heap.size p a) [0,1,2,3,4,5,6,7,8,9,10,11,12,13,14,15,16,17,18,19,20,21,22,23,24,25,26,27,28,29,30,31,32,33,34,35,36,37,38,39,40,41,42,43,44,45,46,47,48,49,50,51,52,53,54,55,56,57,58,59,60,61,62,63,64,65,66,67,68,69,70,71,72,73,74,75,76,77,78,79,80,81,82,83] (by kernel_rfl) (by kernel_rfl) (by kernel_rfl) (HX2.out) ?_
 repeat (refine qO ?_;first|refine qN ?_|refine qC (pkf H0.out) ?_|refine qC (pkf H1.out) ?_|refine qC (pkC HK.out) ?_|refine qC (pkN HK.out) ?_|refine qC (pkc HB.out) ?_|refine qC (pkn HB.out) ?_|refine qP ?_|refine qX ?_|refine qT ?_|refine qV ?_|refine qL ?_)
 refine SeqS.done ?_;intro W2 hW2;have HB2:=hideK hW2.bl;clear hW2;go_wp2_with fail
 go_ret
 exact ⟨rfl,HB2.out⟩
theorem isPart_w2(p:Pr)(a:PrA)(w:World)(hb:PrB w w.heap.size p a)(hk:1≤p.kind∧p.kind≤13)(hl:((p.kids.length:Int) != (kdsOf p:Int))=false)(h0:fitB (hvC p.kind) (isNm p.chan.data.toList) p.chan.toList.isEmpty=true)(h1:fitB (hvN p.kind) (nmOf p) p.name.toList.isEmpty=true)(h2:fitB (hvL p.kind) (isNm p.label.data.toList) p.label.toList.isEmpty=false):Calls Tryz.prog 79 #[prVal p a] w fun e w'=>e = .returned (.bool false)∧Below w.heap.size w w':=by
 have HX0:=hideK (show PBx w w.heap.size p a (w.alloc (prBx p a)).drew from (PBx.new w p a).keep ((bR _ _).drew))
 obtain ⟨hkl,hxl,hnl,hll⟩:=bounds_pr hb;have HB:=hideK hb;have HK:=hideK hk;have hk1:¬p.kind<1:=by omega
 have hk2:¬ 13<p.kind:=by omega
 have H0:=hideK h0;have H1:=hideK h1;have H2:=hideK h2;clear hb hk h0 h1 h2;simp only [prBx,prVal]at HX0 ⊢;go_enter Tryz.func79,Tryz.ntmps79
 go_upto_region 1 with fail
 refine region_seq (PBx w w.heap.size p a) [0,1,2,3,4,5,6,7,8,9,10,11,12,13,14,15] (by kernel_rfl) (by kernel_rfl) (by kernel_rfl) (HX0.out) ?_
 repeat (refine qO ?_;first|refine qN ?_|refine qC (pkK HK.out) ?_|refine qP ?_|refine qX ?_|refine qT ?_|refine qV ?_|refine qL ?_)
 refine SeqS.done ?_;intro W1 hW1;have HX1:=hideK hW1;have x0:=hW1.at0.get (j:=0) (v:=.int .i64 p.kind) (by omega) rfl
 have cF:=fieldsOf_any p.kind W1 HK.out;clear hW1 HX0 hl hk1 hk2;go_wp2_with fail
 refine cF.mono ?_;rintro e w' ⟨rfl,rfl⟩;have HX2:=hideK (HX1.out.keep ((bR _ _).drew));clear cF x0 HX1;go_upto_region 4 with fail
 refine region_seq (PBx w w.heap.size p a) [0,1,2,3,4,5,6,7,8,9,10,11,12,13,14,15,16,17,18,19,20,21,22,23,24,25,26,27,28,29,30,31,32,33,34,35,36,37,38,39,40,41,42,43,44,45,46,47,48,49,50,51,52,53,54,55,56,57,58,59,60,61,62,63,64,65,66,67,68,69,70,71,72,73,74,75,76,77,78,79,80,81,82,83] (by kernel_rfl) (by kernel_rfl) (by kernel_rfl) (HX2.out) ?_
 repeat (refine qO ?_;first|refine qN ?_|refine qC (pkf H0.out) ?_|refine qC (pkf H1.out) ?_|refine qC (pkf H2.out) ?_|refine qC (pkC HK.out) ?_|refine qC (pkN HK.out) ?_|refine qC (pkL HK.out) ?_|refine qC (pkc HB.out) ?_|refine qC (pkn HB.out) ?_|refine qC (pkl HB.out) ?_|refine qP ?_|refine qX ?_|refine qT ?_|refine qV ?_|refine qL ?_)
 refine SeqS.done ?_;intro W2 hW2;have HB2:=hideK hW2.bl;clear hW2;go_wp2_with fail
 go_ret
 exact ⟨rfl,HB2.out⟩
theorem isPart_w3(p:Pr)(a:PrA)(w:World)(hb:PrB w w.heap.size p a)(hk:1≤p.kind∧p.kind≤13)(hl:((p.kids.length:Int) != (kdsOf p:Int))=false)(h0:fitB (hvC p.kind) (isNm p.chan.data.toList) p.chan.toList.isEmpty=true)(h1:fitB (hvN p.kind) (nmOf p) p.name.toList.isEmpty=true)(h2:fitB (hvL p.kind) (isNm p.label.data.toList) p.label.toList.isEmpty=true)(h3:fitB (hvX p.kind) true (noEx p.ex)=false):Calls Tryz.prog 79 #[prVal p a] w fun e w'=>e = .returned (.bool false)∧Below w.heap.size w w':=by
 have HX0:=hideK (show PBx w w.heap.size p a (w.alloc (prBx p a)).drew from (PBx.new w p a).keep ((bR _ _).drew))
 obtain ⟨hkl,hxl,hnl,hll⟩:=bounds_pr hb;have HB:=hideK hb;have HK:=hideK hk;have hk1:¬p.kind<1:=by omega
 have hk2:¬ 13<p.kind:=by omega
 have H0:=hideK h0;have H1:=hideK h1;have H2:=hideK h2;have H3:=hideK h3;clear hb hk h0 h1 h2 h3;simp only [prBx,prVal]at HX0 ⊢;go_enter Tryz.func79,Tryz.ntmps79
 go_upto_region 1 with fail
 refine region_seq (PBx w w.heap.size p a) [0,1,2,3,4,5,6,7,8,9,10,11,12,13,14,15] (by kernel_rfl) (by kernel_rfl) (by kernel_rfl) (HX0.out) ?_
 repeat (refine qO ?_;first|refine qN ?_|refine qC (pkK HK.out) ?_|refine qP ?_|refine qX ?_|refine qT ?_|refine qV ?_|refine qL ?_)
 refine SeqS.done ?_;intro W1 hW1;have HX1:=hideK hW1;have x0:=hW1.at0.get (j:=0) (v:=.int .i64 p.kind) (by omega) rfl
 have cF:=fieldsOf_any p.kind W1 HK.out;clear hW1 HX0 hl hk1 hk2;go_wp2_with fail
 refine cF.mono ?_;rintro e w' ⟨rfl,rfl⟩;have HX2:=hideK (HX1.out.keep ((bR _ _).drew));clear cF x0 HX1;go_upto_region 4 with fail
 refine region_seq (PBx w w.heap.size p a) [0,1,2,3,4,5,6,7,8,9,10,11,12,13,14,15,16,17,18,19,20,21,22,23,24,25,26,27,28,29,30,31,32,33,34,35,36,37,38,39,40,41,42,43,44,45,46,47,48,49,50,51,52,53,54,55,56,57,58,59,60,61,62,63,64,65,66,67,68,69,70,71,72,73,74,75,76,77,78,79,80,81,82,83] (by kernel_rfl) (by kernel_rfl) (by kernel_rfl) (HX2.out) ?_
 repeat (refine qO ?_;first|refine qN ?_|refine qC (pkf H0.out) ?_|refine qC (pkf H1.out) ?_|refine qC (pkf H2.out) ?_|refine qC (pkf H3.out) ?_|refine qC (pkC HK.out) ?_|refine qC (pkN HK.out) ?_|refine qC (pkL HK.out) ?_|refine qC (pkX HK.out) ?_|refine qC (pkc HB.out) ?_|refine qC (pkn HB.out) ?_|refine qC (pkl HB.out) ?_|refine qC (pkx HB.out) ?_|refine qP ?_|refine qX ?_|refine qT ?_|refine qV ?_|refine qL ?_)
 refine SeqS.done ?_;intro W2 hW2;have HB2:=hideK hW2.bl;clear hW2;go_wp2_with fail
 go_ret
 exact ⟨rfl,HB2.out⟩
theorem isPart_w4(p:Pr)(a:PrA)(w:World)(hb:PrB w w.heap.size p a)(hk:1≤p.kind∧p.kind≤13)(hl:((p.kids.length:Int) != (kdsOf p:Int))=false)(h0:fitB (hvC p.kind) (isNm p.chan.data.toList) p.chan.toList.isEmpty=true)(h1:fitB (hvN p.kind) (nmOf p) p.name.toList.isEmpty=true)(h2:fitB (hvL p.kind) (isNm p.label.data.toList) p.label.toList.isEmpty=true)(h3:fitB (hvX p.kind) true (noEx p.ex)=true)(h4:fitB (hvXs p.kind) (decide ((p.exs.length:Int)≤6)) ((p.exs.length:Int)==0)=false):Calls Tryz.prog 79 #[prVal p a] w fun e w'=>e = .returned (.bool false)∧Below w.heap.size w w':=by
 have HX0:=hideK (show PBx w w.heap.size p a (w.alloc (prBx p a)).drew from (PBx.new w p a).keep ((bR _ _).drew))
 obtain ⟨hkl,hxl,hnl,hll⟩:=bounds_pr hb;have HB:=hideK hb;have HK:=hideK hk;have hk1:¬p.kind<1:=by omega
 have hk2:¬ 13<p.kind:=by omega
 have H0:=hideK h0;have H1:=hideK h1;have H2:=hideK h2;have H3:=hideK h3;have H4:=hideK h4;clear hb hk h0 h1 h2 h3 h4;simp only [prBx,prVal]at HX0 ⊢;go_enter Tryz.func79,Tryz.ntmps79
 go_upto_region 1 with fail
 refine region_seq (PBx w w.heap.size p a) [0,1,2,3,4,5,6,7,8,9,10,11,12,13,14,15] (by kernel_rfl) (by kernel_rfl) (by kernel_rfl) (HX0.out) ?_
 repeat (refine qO ?_;first|refine qN ?_|refine qC (pkK HK.out) ?_|refine qP ?_|refine qX ?_|refine qT ?_|refine qV ?_|refine qL ?_)
 refine SeqS.done ?_;intro W1 hW1;have HX1:=hideK hW1;have x0:=hW1.at0.get (j:=0) (v:=.int .i64 p.kind) (by omega) rfl
 have cF:=fieldsOf_any p.kind W1 HK.out;clear hW1 HX0 hl hk1 hk2;go_wp2_with fail
 refine cF.mono ?_;rintro e w' ⟨rfl,rfl⟩;have HX2:=hideK (HX1.out.keep ((bR _ _).drew));clear cF x0 HX1;go_upto_region 4 with fail
 refine region_seq (PBx w w.heap.size p a) [0,1,2,3,4,5,6,7,8,9,10,11,12,13,14,15,16,17,18,19,20,21,22,23,24,25,26,27,28,29,30,31,32,33,34,35,36,37,38,39,40,41,42,43,44,45,46,47,48,49,50,51,52,53,54,55,56,57,58,59,60,61,62,63,64,65,66,67,68,69,70,71,72,73,74,75,76,77,78,79,80,81,82,83] (by kernel_rfl) (by kernel_rfl) (by kernel_rfl) (HX2.out) ?_
 repeat (refine qO ?_;first|refine qN ?_|refine qC (pkf H0.out) ?_|refine qC (pkf H1.out) ?_|refine qC (pkf H2.out) ?_|refine qC (pkf H3.out) ?_|refine qC (pkf H4.out) ?_|refine qC (pkC HK.out) ?_|refine qC (pkN HK.out) ?_|refine qC (pkL HK.out) ?_|refine qC (pkX HK.out) ?_|refine qC (pkXs HK.out) ?_|refine qC (pkc HB.out) ?_|refine qC (pkn HB.out) ?_|refine qC (pkl HB.out) ?_|refine qC (pkx HB.out) ?_|refine qP ?_|refine qX ?_|refine qT ?_|refine qV ?_|refine qL ?_)
 refine SeqS.done ?_;intro W2 hW2;have HB2:=hideK hW2.bl;clear hW2;go_wp2_with fail
 go_ret
 exact ⟨rfl,HB2.out⟩
theorem isPart_w5(p:Pr)(a:PrA)(w:World)(hb:PrB w w.heap.size p a)(hk:1≤p.kind∧p.kind≤13)(hl:((p.kids.length:Int) != (kdsOf p:Int))=false)(h0:fitB (hvC p.kind) (isNm p.chan.data.toList) p.chan.toList.isEmpty=true)(h1:fitB (hvN p.kind) (nmOf p) p.name.toList.isEmpty=true)(h2:fitB (hvL p.kind) (isNm p.label.data.toList) p.label.toList.isEmpty=true)(h3:fitB (hvX p.kind) true (noEx p.ex)=true)(h4:fitB (hvXs p.kind) (decide ((p.exs.length:Int)≤6)) ((p.exs.length:Int)==0)=true)(h5:fitB (hvNs p.kind) (areNm p.names) ((p.names.length:Int)==0)=false):Calls Tryz.prog 79 #[prVal p a] w fun e w'=>e = .returned (.bool false)∧Below w.heap.size w w':=by
 have HX0:=hideK (show PBx w w.heap.size p a (w.alloc (prBx p a)).drew from (PBx.new w p a).keep ((bR _ _).drew))
 obtain ⟨hkl,hxl,hnl,hll⟩:=bounds_pr hb;have HB:=hideK hb;have HK:=hideK hk;have hk1:¬p.kind<1:=by omega
 have hk2:¬ 13<p.kind:=by omega
 have H0:=hideK h0;have H1:=hideK h1;have H2:=hideK h2;have H3:=hideK h3;have H4:=hideK h4;have H5:=hideK h5;clear hb hk h0 h1 h2 h3 h4 h5;simp only [prBx,prVal]at HX0 ⊢;go_enter Tryz.func79,Tryz.ntmps79
 go_upto_region 1 with fail
 refine region_seq (PBx w w.heap.size p a) [0,1,2,3,4,5,6,7,8,9,10,11,12,13,14,15] (by kernel_rfl) (by kernel_rfl) (by kernel_rfl) (HX0.out) ?_
 repeat (refine qO ?_;first|refine qN ?_|refine qC (pkK HK.out) ?_|refine qP ?_|refine qX ?_|refine qT ?_|refine qV ?_|refine qL ?_)
 refine SeqS.done ?_;intro W1 hW1;have HX1:=hideK hW1;have x0:=hW1.at0.get (j:=0) (v:=.int .i64 p.kind) (by omega) rfl
 have cF:=fieldsOf_any p.kind W1 HK.out;clear hW1 HX0 hl hk1 hk2;go_wp2_with fail
 refine cF.mono ?_;rintro e w' ⟨rfl,rfl⟩;have HX2:=hideK (HX1.out.keep ((bR _ _).drew));clear cF x0 HX1;go_upto_region 4 with fail
 refine region_seq (PBx w w.heap.size p a) [0,1,2,3,4,5,6,7,8,9,10,11,12,13,14,15,16,17,18,19,20,21,22,23,24,25,26,27,28,29,30,31,32,33,34,35,36,37,38,39,40,41,42,43,44,45,46,47,48,49,50,51,52,53,54,55,56,57,58,59,60,61,62,63,64,65,66,67,68,69,70,71,72,73,74,75,76,77,78,79,80,81,82,83] (by kernel_rfl) (by kernel_rfl) (by kernel_rfl) (HX2.out) ?_
 repeat (refine qO ?_;first|refine qN ?_|refine qC (pkf H0.out) ?_|refine qC (pkf H1.out) ?_|refine qC (pkf H2.out) ?_|refine qC (pkf H3.out) ?_|refine qC (pkf H4.out) ?_|refine qC (pkf H5.out) ?_|refine qC (pkC HK.out) ?_|refine qC (pkN HK.out) ?_|refine qC (pkL HK.out) ?_|refine qC (pkX HK.out) ?_|refine qC (pkXs HK.out) ?_|refine qC (pkNs HK.out) ?_|refine qC (pkc HB.out) ?_|refine qC (pkn HB.out) ?_|refine qC (pkl HB.out) ?_|refine qC (pkx HB.out) ?_|refine qC (pks HB.out) ?_|refine qP ?_|refine qX ?_|refine qT ?_|refine qV ?_|refine qL ?_)
 refine SeqS.done ?_;intro W2 hW2;have HB2:=hideK hW2.bl;clear hW2;go_wp2_with fail
 go_ret
 exact ⟨rfl,HB2.out⟩
theorem isPart_w6(p:Pr)(a:PrA)(w:World)(hb:PrB w w.heap.size p a)(hk:1≤p.kind∧p.kind≤13)(hl:((p.kids.length:Int) != (kdsOf p:Int))=false)(h0:fitB (hvC p.kind) (isNm p.chan.data.toList) p.chan.toList.isEmpty=true)(h1:fitB (hvN p.kind) (nmOf p) p.name.toList.isEmpty=true)(h2:fitB (hvL p.kind) (isNm p.label.data.toList) p.label.toList.isEmpty=true)(h3:fitB (hvX p.kind) true (noEx p.ex)=true)(h4:fitB (hvXs p.kind) (decide ((p.exs.length:Int)≤6)) ((p.exs.length:Int)==0)=true)(h5:fitB (hvNs p.kind) (areNm p.names) ((p.names.length:Int)==0)=true)(h6:fitB (hvT p.kind) true (noTy p.ty)=false):Calls Tryz.prog 79 #[prVal p a] w fun e w'=>e = .returned (.bool false)∧Below w.heap.size w w':=by
 have HX0:=hideK (show PBx w w.heap.size p a (w.alloc (prBx p a)).drew from (PBx.new w p a).keep ((bR _ _).drew))
 obtain ⟨hkl,hxl,hnl,hll⟩:=bounds_pr hb;have HB:=hideK hb;have HK:=hideK hk;have hk1:¬p.kind<1:=by omega
 have hk2:¬ 13<p.kind:=by omega
 have H0:=hideK h0;have H1:=hideK h1;have H2:=hideK h2;have H3:=hideK h3;have H4:=hideK h4;have H5:=hideK h5;have H6:=hideK h6;clear hb hk h0 h1 h2 h3 h4 h5 h6;simp only [prBx,prVal]at HX0 ⊢;go_enter Tryz.func79,Tryz.ntmps79
 go_upto_region 1 with fail
 refine region_seq (PBx w w.heap.size p a) [0,1,2,3,4,5,6,7,8,9,10,11,12,13,14,15] (by kernel_rfl) (by kernel_rfl) (by kernel_rfl) (HX0.out) ?_
 repeat (refine qO ?_;first|refine qN ?_|refine qC (pkK HK.out) ?_|refine qP ?_|refine qX ?_|refine qT ?_|refine qV ?_|refine qL ?_)
 refine SeqS.done ?_;intro W1 hW1;have HX1:=hideK hW1;have x0:=hW1.at0.get (j:=0) (v:=.int .i64 p.kind) (by omega) rfl
 have cF:=fieldsOf_any p.kind W1 HK.out;clear hW1 HX0 hl hk1 hk2;go_wp2_with fail
 refine cF.mono ?_;rintro e w' ⟨rfl,rfl⟩;have HX2:=hideK (HX1.out.keep ((bR _ _).drew));clear cF x0 HX1;go_upto_region 4 with fail
 refine region_seq (PBx w w.heap.size p a) [0,1,2,3,4,5,6,7,8,9,10,11,12,13,14,15,16,17,18,19,20,21,22,23,24,25,26,27,28,29,30,31,32,33,34,35,36,37,38,39,40,41,42,43,44,45,46,47,48,49,50,51,52,53,54,55,56,57,58,59,60,61,62,63,64,65,66,67,68,69,70,71,72,73,74,75,76,77,78,79,80,81,82,83] (by kernel_rfl) (by kernel_rfl) (by kernel_rfl) (HX2.out) ?_
 repeat (refine qO ?_;first|refine qN ?_|refine qC (pkf H0.out) ?_|refine qC (pkf H1.out) ?_|refine qC (pkf H2.out) ?_|refine qC (pkf H3.out) ?_|refine qC (pkf H4.out) ?_|refine qC (pkf H5.out) ?_|refine qC (pkf H6.out) ?_|refine qC (pkC HK.out) ?_|refine qC (pkN HK.out) ?_|refine qC (pkL HK.out) ?_|refine qC (pkX HK.out) ?_|refine qC (pkXs HK.out) ?_|refine qC (pkNs HK.out) ?_|refine qC (pkT HK.out) ?_|refine qC (pkc HB.out) ?_|refine qC (pkn HB.out) ?_|refine qC (pkl HB.out) ?_|refine qC (pkx HB.out) ?_|refine qC (pks HB.out) ?_|refine qC (pkt HB.out) ?_|refine qP ?_|refine qX ?_|refine qT ?_|refine qV ?_|refine qL ?_)
 refine SeqS.done ?_;intro W2 hW2;have HB2:=hideK hW2.bl;clear hW2;go_wp2_with fail
 go_ret
 exact ⟨rfl,HB2.out⟩
theorem isPart_w7(p:Pr)(a:PrA)(w:World)(hb:PrB w w.heap.size p a)(hk:1≤p.kind∧p.kind≤13)(hl:((p.kids.length:Int) != (kdsOf p:Int))=false)(h0:fitB (hvC p.kind) (isNm p.chan.data.toList) p.chan.toList.isEmpty=true)(h1:fitB (hvN p.kind) (nmOf p) p.name.toList.isEmpty=true)(h2:fitB (hvL p.kind) (isNm p.label.data.toList) p.label.toList.isEmpty=true)(h3:fitB (hvX p.kind) true (noEx p.ex)=true)(h4:fitB (hvXs p.kind) (decide ((p.exs.length:Int)≤6)) ((p.exs.length:Int)==0)=true)(h5:fitB (hvNs p.kind) (areNm p.names) ((p.names.length:Int)==0)=true)(h6:fitB (hvT p.kind) true (noTy p.ty)=true)(h7:fitB (hvLs p.kind) (labsOK p.labels) ((p.labels.length:Int)==0)=false):Calls Tryz.prog 79 #[prVal p a] w fun e w'=>e = .returned (.bool false)∧Below w.heap.size w w':=by
 have HX0:=hideK (show PBx w w.heap.size p a (w.alloc (prBx p a)).drew from (PBx.new w p a).keep ((bR _ _).drew))
 obtain ⟨hkl,hxl,hnl,hll⟩:=bounds_pr hb;have HB:=hideK hb;have HK:=hideK hk;have hk1:¬p.kind<1:=by omega
 have hk2:¬ 13<p.kind:=by omega
 have H0:=hideK h0;have H1:=hideK h1;have H2:=hideK h2;have H3:=hideK h3;have H4:=hideK h4;have H5:=hideK h5;have H6:=hideK h6;have H7:=hideK h7;clear hb hk h0 h1 h2 h3 h4 h5 h6 h7;simp only [prBx,prVal]at HX0 ⊢;go_enter Tryz.func79,Tryz.ntmps79
 go_upto_region 1 with fail
 refine region_seq (PBx w w.heap.size p a) [0,1,2,3,4,5,6,7,8,9,10,11,12,13,14,15] (by kernel_rfl) (by kernel_rfl) (by kernel_rfl) (HX0.out) ?_
 repeat (refine qO ?_;first|refine qN ?_|refine qC (pkK HK.out) ?_|refine qP ?_|refine qX ?_|refine qT ?_|refine qV ?_|refine qL ?_)
 refine SeqS.done ?_;intro W1 hW1;have HX1:=hideK hW1;have x0:=hW1.at0.get (j:=0) (v:=.int .i64 p.kind) (by omega) rfl
 have cF:=fieldsOf_any p.kind W1 HK.out;clear hW1 HX0 hl hk1 hk2;go_wp2_with fail
 refine cF.mono ?_;rintro e w' ⟨rfl,rfl⟩;have HX2:=hideK (HX1.out.keep ((bR _ _).drew));clear cF x0 HX1;go_upto_region 4 with fail
 refine region_seq (PBx w w.heap.size p a) [0,1,2,3,4,5,6,7,8,9,10,11,12,13,14,15,16,17,18,19,20,21,22,23,24,25,26,27,28,29,30,31,32,33,34,35,36,37,38,39,40,41,42,43,44,45,46,47,48,49,50,51,52,53,54,55,56,57,58,59,60,61,62,63,64,65,66,67,68,69,70,71,72,73,74,75,76,77,78,79,80,81,82,83] (by kernel_rfl) (by kernel_rfl) (by kernel_rfl) (HX2.out) ?_
 repeat (refine qO ?_;first|refine qN ?_|refine qC (pkf H0.out) ?_|refine qC (pkf H1.out) ?_|refine qC (pkf H2.out) ?_|refine qC (pkf H3.out) ?_|refine qC (pkf H4.out) ?_|refine qC (pkf H5.out) ?_|refine qC (pkf H6.out) ?_|refine qC (pkf H7.out) ?_|refine qC (pkC HK.out) ?_|refine qC (pkN HK.out) ?_|refine qC (pkL HK.out) ?_|refine qC (pkX HK.out) ?_|refine qC (pkXs HK.out) ?_|refine qC (pkNs HK.out) ?_|refine qC (pkT HK.out) ?_|refine qC (pkLs HK.out) ?_|refine qC (pkc HB.out) ?_|refine qC (pkn HB.out) ?_|refine qC (pkl HB.out) ?_|refine qC (pkx HB.out) ?_|refine qC (pks HB.out) ?_|refine qC (pkt HB.out) ?_|refine qC (pkb HB.out) ?_|refine qP ?_|refine qX ?_|refine qT ?_|refine qV ?_|refine qL ?_)
 refine SeqS.done ?_;intro W2 hW2;have HB2:=hideK hW2.bl;clear hW2;go_wp2_with fail
 go_ret
 exact ⟨rfl,HB2.out⟩
theorem isPart_w8(p:Pr)(a:PrA)(w:World)(hb:PrB w w.heap.size p a)(hk:1≤p.kind∧p.kind≤13)(hl:((p.kids.length:Int) != (kdsOf p:Int))=false)(h0:fitB (hvC p.kind) (isNm p.chan.data.toList) p.chan.toList.isEmpty=true)(h1:fitB (hvN p.kind) (nmOf p) p.name.toList.isEmpty=true)(h2:fitB (hvL p.kind) (isNm p.label.data.toList) p.label.toList.isEmpty=true)(h3:fitB (hvX p.kind) true (noEx p.ex)=true)(h4:fitB (hvXs p.kind) (decide ((p.exs.length:Int)≤6)) ((p.exs.length:Int)==0)=true)(h5:fitB (hvNs p.kind) (areNm p.names) ((p.names.length:Int)==0)=true)(h6:fitB (hvT p.kind) true (noTy p.ty)=true)(h7:fitB (hvLs p.kind) (labsOK p.labels) ((p.labels.length:Int)==0)=true):Calls Tryz.prog 79 #[prVal p a] w fun e w'=>e = .returned (.bool true)∧Below w.heap.size w w':=by
 have HX0:=hideK (show PBx w w.heap.size p a (w.alloc (prBx p a)).drew from (PBx.new w p a).keep ((bR _ _).drew))
 obtain ⟨hkl,hxl,hnl,hll⟩:=bounds_pr hb;have HB:=hideK hb;have HK:=hideK hk;have hk1:¬p.kind<1:=by omega
 have hk2:¬ 13<p.kind:=by omega
 have H0:=hideK h0;have H1:=hideK h1;have H2:=hideK h2;have H3:=hideK h3;have H4:=hideK h4;have H5:=hideK h5;have H6:=hideK h6;have H7:=hideK h7;clear hb hk h0 h1 h2 h3 h4 h5 h6 h7;simp only [prBx,prVal]at HX0 ⊢;go_enter Tryz.func79,Tryz.ntmps79
 go_upto_region 1 with fail
 refine region_seq (PBx w w.heap.size p a) [0,1,2,3,4,5,6,7,8,9,10,11,12,13,14,15] (by kernel_rfl) (by kernel_rfl) (by kernel_rfl) (HX0.out) ?_
 repeat (refine qO ?_;first|refine qN ?_|refine qC (pkK HK.out) ?_|refine qP ?_|refine qX ?_|refine qT ?_|refine qV ?_|refine qL ?_)
 refine SeqS.done ?_;intro W1 hW1;have HX1:=hideK hW1;have x0:=hW1.at0.get (j:=0) (v:=.int .i64 p.kind) (by omega) rfl
 have cF:=fieldsOf_any p.kind W1 HK.out;clear hW1 HX0 hl hk1 hk2;go_wp2_with fail
 refine cF.mono ?_;rintro e w' ⟨rfl,rfl⟩;have HX2:=hideK (HX1.out.keep ((bR _ _).drew));clear cF x0 HX1;go_upto_region 4 with fail
 refine region_seq (PBx w w.heap.size p a) [0,1,2,3,4,5,6,7,8,9,10,11,12,13,14,15,16,17,18,19,20,21,22,23,24,25,26,27,28,29,30,31,32,33,34,35,36,37,38,39,40,41,42,43,44,45,46,47,48,49,50,51,52,53,54,55,56,57,58,59,60,61,62,63,64,65,66,67,68,69,70,71,72,73,74,75,76,77,78,79,80,81,82,83] (by kernel_rfl) (by kernel_rfl) (by kernel_rfl) (HX2.out) ?_
 repeat (refine qO ?_;first|refine qN ?_|refine qC (pkf H0.out) ?_|refine qC (pkf H1.out) ?_|refine qC (pkf H2.out) ?_|refine qC (pkf H3.out) ?_|refine qC (pkf H4.out) ?_|refine qC (pkf H5.out) ?_|refine qC (pkf H6.out) ?_|refine qC (pkf H7.out) ?_|refine qC (pkC HK.out) ?_|refine qC (pkN HK.out) ?_|refine qC (pkL HK.out) ?_|refine qC (pkX HK.out) ?_|refine qC (pkXs HK.out) ?_|refine qC (pkNs HK.out) ?_|refine qC (pkT HK.out) ?_|refine qC (pkLs HK.out) ?_|refine qC (pkc HB.out) ?_|refine qC (pkn HB.out) ?_|refine qC (pkl HB.out) ?_|refine qC (pkx HB.out) ?_|refine qC (pks HB.out) ?_|refine qC (pkt HB.out) ?_|refine qC (pkb HB.out) ?_|refine qP ?_|refine qX ?_|refine qT ?_|refine qV ?_|refine qL ?_)
 refine SeqS.done ?_;intro W2 hW2;have HB2:=hideK hW2.bl;clear hW2;go_wp2_with fail
 go_ret
 exact ⟨rfl,HB2.out⟩
theorem len_b(n k:Nat):((n:Int)==(k:Int))=decide (n=k):=by
 by_cases h:n=k
 ·subst h;simp
 ·have:¬(n:Int)=(k:Int):=by omega
  simp [h,this]
theorem isPartP_any(p:Pr)(a:PrA)(w:World)(hb0:PrB w w.heap.size p a):Calls Tryz.prog 79 #[prVal p a] w fun e w'=>e = .returned (.bool (partP p))∧Below w.heap.size w w':=by
 by_cases hk1:p.kind<1
 ·rw [show partP p=false from by unfold partP pt0;rw [show decide (1≤p.kind∧p.kind≤13∧p.kids.length=kdsOf p)=false from by simp;omega];rfl]
  exact isPart_low p a w hb0 hk1
 by_cases hk2:13<p.kind
 ·rw [show partP p=false from by unfold partP pt0;rw [show decide (1≤p.kind∧p.kind≤13∧p.kids.length=kdsOf p)=false from by simp;omega];rfl]
  exact isPart_high p a w hb0 hk1 hk2
 have hk:1≤p.kind∧p.kind≤13:=by omega
 by_cases hl:p.kids.length=kdsOf p
 case neg =>
  rw [show partP p=false from by unfold partP pt0;rw [show decide (1≤p.kind∧p.kind≤13∧p.kids.length=kdsOf p)=false from by simp;omega];rfl]
  exact isPart_len p a w hb0 hk (by simp;omega)
 have hlb:((p.kids.length:Int) != (kdsOf p:Int))=false:=by rw [hl];simp
 have e0:pt0 p=true:=by unfold pt0;simp;exact ⟨hk.1,hk.2,hl⟩
 have z6:decide ((p.exs.length:Int)≤6)=decide (p.exs.length≤6):=by
  by_cases h:p.exs.length≤6
  ·have:(p.exs.length:Int)≤6:=by omega
   simp [h,this]
  ·have:¬(p.exs.length:Int)≤6:=by omega
   simp [h,this]
 have q1:fitB (hvC p.kind) (isNm p.chan.data.toList) p.chan.toList.isEmpty=pt1 p:=by unfold pt1;rw [empty_toList]
 have q2:fitB (hvN p.kind) (nmOf p) p.name.toList.isEmpty=pt2 p:=by unfold pt2;rw [empty_toList]
 have q3:fitB (hvL p.kind) (isNm p.label.data.toList) p.label.toList.isEmpty=pt3 p:=by unfold pt3;rw [empty_toList]
 have q4:fitB (hvX p.kind) true (noEx p.ex)=pt4 p:=rfl;have q5:fitB (hvXs p.kind) (decide ((p.exs.length:Int)≤6)) ((p.exs.length:Int)==0)=pt5 p:=by unfold pt5;rw [z6];congr 1;exact len_b p.exs.length 0
 have q6:fitB (hvNs p.kind) (areNm p.names) ((p.names.length:Int)==0)=pt6 p:=by unfold pt6;congr 1;exact len_b p.names.length 0
 have q7:fitB (hvT p.kind) true (noTy p.ty)=pt7 p:=rfl;have q8:fitB (hvLs p.kind) (labsOK p.labels) ((p.labels.length:Int)==0)=pt8 p:=by unfold pt8;congr 1;exact len_b p.labels.length 0
 have hd:partP p=(pt1 p && (pt2 p && (pt3 p && (pt4 p && (pt5 p && (pt6 p && (pt7 p && pt8 p))))))):=by unfold partP;rw [e0,Bool.true_and]
 rw [hd];cases h1:pt1 p
 ·rw [h1]at q1
  exact isPart_w0 p a w hb0 hk hlb q1
 rw [h1]at q1;cases h2:pt2 p
 ·rw [h2]at q2
  exact isPart_w1 p a w hb0 hk hlb q1 q2
 rw [h2]at q2;cases h3:pt3 p
 ·rw [h3]at q3
  exact isPart_w2 p a w hb0 hk hlb q1 q2 q3
 rw [h3]at q3;cases h4:pt4 p
 ·rw [h4]at q4
  exact isPart_w3 p a w hb0 hk hlb q1 q2 q3 q4
 rw [h4]at q4;cases h5:pt5 p
 ·rw [h5]at q5
  exact isPart_w4 p a w hb0 hk hlb q1 q2 q3 q4 q5
 rw [h5]at q5;cases h6:pt6 p
 ·rw [h6]at q6
  exact isPart_w5 p a w hb0 hk hlb q1 q2 q3 q4 q5 q6
 rw [h6]at q6;cases h7:pt7 p
 ·rw [h7]at q7
  exact isPart_w6 p a w hb0 hk hlb q1 q2 q3 q4 q5 q6 q7
 rw [h7]at q7;cases h8:pt8 p
 ·rw [h8]at q8
  exact isPart_w7 p a w hb0 hk hlb q1 q2 q3 q4 q5 q6 q7 q8
 rw [h8]at q8;exact isPart_w8 p a w hb0 hk hlb q1 q2 q3 q4 q5 q6 q7 q8
open Go.Lib Go.Joins
open Go.ChangeShapes Go.WideShapes Go.ChangeAt
theorem own:ownKnob Tryz.prog.godebug=none:=by kernel_rfl
abbrev Tabs(w:World):Prop:=Lib.Utf8Tabs (Tryz.lays196_ren.g 3) (Tryz.lays196_ren.g 4) w
theorem tabs_keep(w w':World)(h:Tabs w)(hb:Below w.heap.size w w'):Tabs w':=Utf8Tabs_below h hb
theorem vSaid:VSaid vD Tabs:=fun s w hs hT=>Any.utf8_ValidString Tryz.lays196 s w hs hT
section
variable {H:Type} {enc:TypeId × Value→H}
end
theorem acc_eq:(Rows.laid_unicode_utf8_acceptRanges:DataW Unit)=Lib.acceptData:=by kernel_rfl
def AT(W0 w:World):Prop:=Below W0.heap.size W0 w
theorem at_tabs{W0 w:World}(h0:Tabs W0)(h:AT W0 w):Tabs w:=tabs_keep W0 w h0 h
theorem at_v{W0:World}(h0:Tabs W0):VSaid vD (AT W0):=fun s w hs hT=>vSaid s w hs (at_tabs h0 hT)
theorem at_k{W0:World}:∀w w',AT W0 w→Below w.heap.size w w'→AT W0 w':=fun _ _ h hb=>Below.trans h (hb.mono h.size)
theorem at_k2{W0:World}:∀B w w',W0.heap.size≤B→AT W0 w→Below B w w'→AT W0 w':=fun _ _ _ hB h hb=>Below.trans h (hb.mono hB)
theorem at_0{W0:World}:∀w,AT W0 w→W0.heap.size≤w.heap.size:=fun _ h=>h.size
end Go.Proofs.YtmamabhhgfcjcaaGreatDoor
