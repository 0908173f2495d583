/-
  The contract of (*ways.Search).Step, for the places of below.place.
-/
import Derived.Test.YtmamabhhgfcjcaaGreatDoorVe
set_option maxRecDepth 100000
set_option maxHeartbeats 4000000
namespace Go.Proofs.YtmamabhhgfcjcaaGreatDoor
open Go.RowKit Go.Shelf
theorem stepB_any(w0:World)(sb mb:Nat)(arr:List (Ag Pl))(u:Value)(wd:ByteArray)(p:Pl)(k:Nat)(w:World)(hs:SWB w0 sb mb arr u w)(hl:arr.length≤1000000)(hsm:∀q∈plG arr,smB q)(hp:smB p):
  Calls Tryz.prog 145 #[.pointer (some ⟨sb,0,none⟩),.int .i64 (k:Int),.string wd,pkB p] w fun e w'=>e = .returned (.tuple #[])∧∃u',SWB w0 sb mb (addG arr (wd,p) k) u' w'∧RF mb sb u.ownBlock w w'∧(u'.ownBlock=u.ownBlock∨∀j,u'.ownBlock=some j→w.heap.size≤j):=by
 obtain ⟨pa,pb,tt⟩:=p;obtain ⟨i1,hj,hy0,hy1,hy2⟩:=info_parts infoAvB;have hA:Below w.heap.size w (w.alloc (.cells #[.int .i64 (pa:Int),.int .i64 (pb:Int),.bool tt] 119)):=(bR _ _).alloc (nR _) _;have sA:=hs.kept hA;have bA:PBB w.heap.size (pa,pb,tt) (w.alloc (.cells #[.int .i64 (pa:Int),.int .i64 (pb:Int),.bool tt] 119)):=⟨by go_cell,by go_cell,by go_cell⟩
 have hsz:(w.alloc (.cells #[.int .i64 (pa:Int),.int .i64 (pb:Int),.bool tt] 119)).heap.size=w.heap.size+1:=by simp
 have hlt:=hs.ls;have hlm:=hs.mp.lt;have hown:=fun b (e:u.ownBlock=some b)=>(hs.own.lt b e).2
 have HOW:=hideK hown;have HA:=hideK hA;have HSA:=hideK sA;have HBA:=hideK bA;clear hown;by_cases hm:((pa,pb,tt):Pl)∈plG arr
 ·have HLK:=hideK (fun (W:World) (h:MPB W mb (plG arr))=>lookB_in h hsm hm)
  simp only [pkB]at HLK ⊢;have HAD:=hideK (show addG arr (wd,(pa,pb,tt)) k=arr from if_pos hm)
  clear hA sA bA hm hs;go_enter Tryz.func145,Tryz.ntmps145
  go_wp2_with fail
  generalize (w.alloc (.cells #[.int .i64 (pa:Int),.int .i64 (pb:Int),.bool tt] 119))=V at *;refine wp_region_held_drew (S:=(fun W:World=>PBB w.heap.size (pa,pb,tt) W∧W.cell? ⟨sb,0,none⟩=some (.map (some mb))∧MPB W mb (plG arr))) (by kernel_rfl) ⟨HBA.out,HSA.out.c0,HSA.out.mp⟩ (fun hS=>?_)
  refine tkZ 0 (.pointer (some ⟨sb,0,none⟩)) hS ?_;refine tkZ 1 (.pointer (some ⟨sb,0,none⟩)) hS ?_;refine tkZ 2 (.pointer (some ⟨sb,0,none⟩)) hS ?_;refine tkH 3 (.map (some mb)) hS ?_ (hy:=Or.inl ⟨by rfl,fun W hW=>by have x0:=hW.2.1;go_simp⟩)
  simp only [Act.put,sA,sB,sC];refine tkH 4 (.agg #[.int .i64 (pa:Int),.int .i64 (pb:Int),.bool tt]) hS ?_ (hy:=Or.inl ⟨by rfl,fun W hW=>by obtain ⟨⟨x0,x1,x2⟩,_⟩:=hW;go_simp⟩)
  simp only [Act.put,sA,sB,sC];refine tkH 5 (.tuple #[.agg #[],.bool true]) hS ?_ (hy:=Or.inl ⟨by rfl,fun W hW=>by have q:=HLK.out W hW.2.2;simp [execOp,q,Result.andThen,go_sem]⟩)
  simp only [Act.put,sA,sB,sC];refine tkZ 6 (.tuple #[.agg #[],.bool true]) hS ?_;refine tkZ 7 (.agg #[]) hS ?_;refine tkZ 8 (.bool true) hS ?_;refine take_oneHL 9 (aC (fun K hK=>?_) aN) (by kernel_rfl)
  go_simp
  have hSn:=(⟨HBA.out.keep (fun o=>World.cell?_of_block (a:=⟨w.heap.size,o,none⟩) (heap_alloc_old V _ (by show w.heap.size<V.heap.size;omega))),(World.cell?_of_block (a:=⟨sb,0,none⟩) (heap_alloc_old V _ HSA.out.ls)).trans HSA.out.c0,HSA.out.mp.blk (heap_alloc_old V _ HSA.out.mp.lt)⟩:PBB w.heap.size (pa,pb,tt) (V.drew.alloc (.cells #[] 227))∧(V.drew.alloc (.cells #[] 227)).cell? ⟨sb,0,none⟩=some (.map (some mb))∧MPB (V.drew.alloc (.cells #[] 227)) mb (plG arr))
  refine hK.out _ _ hSn ?_;clear hS hK K hSn;intro hS;refine take_oneHL 10 (aC (fun K hK=>?_) aN) (by kernel_rfl)
  go_simp
  have hSn:=hS;refine hK.out _ _ hSn ?_;clear hS hK K hSn;intro hS;refine take_oneHL 11 (aC (fun K hK=>?_) aN) (by kernel_rfl)
  go_simp
  have hSn:=hS;refine hK.out _ _ hSn ?_;clear hS hK K hSn;intro hS;refine wpAnyH_done (by kernel_rfl) ?_ _
  go_wp2_with fail
  refine bodyPost_ret (results_none rfl _ _ _) rfl ?_;exact ⟨rfl,u,by rw [HAD.out];exact HSA.out.kept ((bR _ _).drew.alloc (nR _) _),RF.of (HA.out.trans (((bR _ _).drew.alloc (nR _) _).mono HA.out.size)),.inl rfl⟩
 ·have HLK:=hideK (fun (W:World) (h:MPB W mb (plG arr))=>(lookB_out h hsm hp hm).1)
  have HUP:=hideK (fun (W:World) (h:MPB W mb (plG arr))=>(lookB_out h hsm hp hm).2)
  simp only [pkB]at HLK HUP ⊢;have HAD:=hideK (show addG arr (wd,(pa,pb,tt)) k=arr++[((wd,(pa,pb,tt)),k)] from if_neg hm)
  clear hA sA bA hm hs;go_enter Tryz.func145,Tryz.ntmps145
  go_wp2_with fail
  generalize (w.alloc (.cells #[.int .i64 (pa:Int),.int .i64 (pb:Int),.bool tt] 119))=V at *;refine wp_region_held_drew (S:=(fun W:World=>PBB w.heap.size (pa,pb,tt) W∧W.cell? ⟨sb,0,none⟩=some (.map (some mb))∧MPB W mb (plG arr))) (by kernel_rfl) ⟨HBA.out,HSA.out.c0,HSA.out.mp⟩ (fun hS=>?_)
  refine tkZ 0 (.pointer (some ⟨sb,0,none⟩)) hS ?_;refine tkZ 1 (.pointer (some ⟨sb,0,none⟩)) hS ?_;refine tkZ 2 (.pointer (some ⟨sb,0,none⟩)) hS ?_;refine tkH 3 (.map (some mb)) hS ?_ (hy:=Or.inl ⟨by rfl,fun W hW=>by have x0:=hW.2.1;go_simp⟩)
  simp only [Act.put,sA,sB,sC];refine tkH 4 (.agg #[.int .i64 (pa:Int),.int .i64 (pb:Int),.bool tt]) hS ?_ (hy:=Or.inl ⟨by rfl,fun W hW=>by obtain ⟨⟨x0,x1,x2⟩,_⟩:=hW;go_simp⟩)
  simp only [Act.put,sA,sB,sC];refine tkH 5 (.tuple #[.agg #[],.bool false]) hS ?_ (hy:=Or.inl ⟨by rfl,fun W hW=>by have q:=HLK.out W hW.2.2;simp [execOp,q,Result.andThen,go_sem]⟩)
  simp only [Act.put,sA,sB,sC];refine tkZ 6 (.tuple #[.agg #[],.bool false]) hS ?_;refine tkZ 7 (.agg #[]) hS ?_;refine tkZ 8 (.bool false) hS ?_;refine take_oneHL 9 (aC (fun K hK=>?_) aN) (by kernel_rfl)
  go_simp
  have hSn:=(⟨HBA.out.keep (fun o=>World.cell?_of_block (a:=⟨w.heap.size,o,none⟩) (heap_alloc_old V _ (by show w.heap.size<V.heap.size;omega))),(World.cell?_of_block (a:=⟨sb,0,none⟩) (heap_alloc_old V _ HSA.out.ls)).trans HSA.out.c0,HSA.out.mp.blk (heap_alloc_old V _ HSA.out.mp.lt)⟩:PBB w.heap.size (pa,pb,tt) (V.drew.alloc (.cells #[] 227))∧(V.drew.alloc (.cells #[] 227)).cell? ⟨sb,0,none⟩=some (.map (some mb))∧MPB (V.drew.alloc (.cells #[] 227)) mb (plG arr))
  refine hK.out _ _ hSn ?_;clear hS hK K hSn;intro hS;refine take_oneHL 10 (aC (fun K hK=>?_) aN) (by kernel_rfl)
  go_simp
  have hSn:=hS;refine hK.out _ _ hSn ?_;clear hS hK K hSn;intro hS;refine take_oneHL 11 (aC (fun K hK=>?_) aN) (by kernel_rfl)
  go_simp
  have hSn:=hS;refine hK.out _ _ hSn ?_;clear hS hK K hSn;intro hS;refine wpAnyH_done (by kernel_rfl) ?_ _
  go_wp2_with fail
  have hV2:Below V.heap.size V (V.alloc (.cells #[] 227)).drew:=((bR _ _).alloc (nR _) _).drew;have HS2:=hideK (HSA.out.kept hV2);have HA2:=hideK (HA.out.trans (hV2.mono HA.out.size));have hsz2:(V.alloc (.cells #[] 227)).drew.heap.size=w.heap.size+2:=by simp [hsz]
  have HB2:=hideK hS.1;clear hS hV2;generalize (V.alloc (.cells #[] 227)).drew=V2 at *;refine wp_region_held_drew (S:=(fun W:World=>PBB w.heap.size (pa,pb,tt) W∧W.cell? ⟨sb,0,none⟩=some (.map (some mb)))) (by kernel_rfl) ⟨HB2.out,HS2.out.c0⟩ (fun hS=>?_)
  refine tkZ 0 (.pointer (some ⟨sb,0,none⟩)) hS ?_;refine tkZ 1 (.pointer (some ⟨sb,0,none⟩)) hS ?_;refine tkZ 2 (.pointer (some ⟨sb,0,none⟩)) hS ?_;refine tkH 3 (.map (some mb)) hS ?_ (hy:=Or.inl ⟨by rfl,fun W hW=>by have x0:=hW.2;go_simp⟩)
  simp only [Act.put,sA,sB,sC];refine tkH 4 (.agg #[.int .i64 (pa:Int),.int .i64 (pb:Int),.bool tt]) hS ?_ (hy:=Or.inl ⟨by rfl,fun W hW=>by obtain ⟨⟨x0,x1,x2⟩,_⟩:=hW;go_simp⟩)
  simp only [Act.put,sA,sB,sC];refine tkZ 5 (.agg #[]) hS ?_;obtain ⟨V3,hrun,hg3,hz3,hm3⟩:=HUP.out V2.drew (HS2.out.mp.blk rfl);have hs3:=(HS2.out.kept (bR _ _).drew).upd hg3 hm3;have b3:PBB w.heap.size (pa,pb,tt) V3:=HB2.out.keep fun o=>World.cell?_of_block (a:=⟨w.heap.size,o,none⟩) (hg3.block w.heap.size (by show w.heap.size<V2.heap.size;omega) (fun e=>by injection e with e;omega))
  refine take_oneHL 6 (aC (fun K hK=>?_) aN) (by kernel_rfl)
  refine stepUpdB rfl (.tmp 23) (.tmp 24) (.tmp 25) 228 (.inl rfl) rfl rfl rfl hrun ?_;have hSn:PBB w.heap.size (pa,pb,tt) V3∧V3.cell? ⟨sb,0,none⟩=some (.map (some mb)):=⟨b3,hs3.c0⟩;refine hK.out _ _ hSn ?_;clear hS hK K hSn;intro hS;refine wpAnyH_done (by kernel_rfl) ?_ _
  have HR3:=hideK (show RF mb sb u.ownBlock w V3 from (RF.of HA2.out).trans ⟨hg3.os,hg3.tape,hg3.output,hg3.size,fun b hb h1 _ _=>hg3.block b hb (fun e=>h1 (by injection e))⟩ (.inl rfl))
  have hsz3:V3.heap.size=w.heap.size+2:=hz3.trans hsz2;have HS3:=hideK hs3;have HB3:=hideK b3;clear hS hs3 b3 hrun hg3 hz3 hm3 HS2 HB2 HUP HLK HSA HBA HA HA2 hsz hsz2;go_wp2_with fail
  have HP:=hideK (fun (w7:World) (v7:Value) (hg:(V3.alloc (.cells #[.int .i64 (pa:Int),.int .i64 (pb:Int),.bool tt,.string wd,.int .i64 (k:Int)] 230)).drew.grownBy w7 u.ownBlock) (hO:w7.ownsRow w0.heap.size 230 5 v7 (arr.length+1) (avB arr++aCB ((wd,(pa,pb,tt)),k))) (hat:v7.ownBlock=u.ownBlock∨v7.ownBlock=some (V3.alloc (.cells #[.int .i64 (pa:Int),.int .i64 (pb:Int),.bool tt,.string wd,.int .i64 (k:Int)] 230)).drew.heap.size)=>(HS3.out.kept (bR _ _).drew).put rfl hg hO hat)
  have hpA:V3.drew.cell? ⟨sb,1,none⟩=some u:=HS3.out.c1;have hls3:sb<V3.drew.heap.size:=HS3.out.ls;have hpB:(V3.alloc (.cells #[.int .i64 (pa:Int),.int .i64 (pb:Int),.bool tt,.string wd,.int .i64 (k:Int)] 230)).drew.cell? ⟨sb,1,none⟩=some u:=(World.cell?_of_block (a:=⟨sb,1,none⟩) (heap_alloc_old V3.drew _ hls3)).trans hpA;have HOA:=hideK (own_belowG HS3.out.own ((bR _ _).alloc (nR _) (.cells #[.int .i64 (pa:Int),.int .i64 (pb:Int),.bool tt,.string wd,.int .i64 (k:Int)] 230)).drew);have hw03:w0.heap.size≤V3.heap.size:=HS3.out.bl.size;have HLR:=hideK (show (V3.alloc (.cells #[.int .i64 (pa:Int),.int .i64 (pb:Int),.bool tt,.string wd,.int .i64 (k:Int)] 230)).drew.ownsRow w0.heap.size 230 5 (.slice (some ⟨w.heap.size+2,0,none⟩) 1 1) 1 (aCB ((wd,(pa,pb,tt)),k)) from by
   have h:=World.ownsRow_lit (base:=w0.heap.size) (e:=230) (size:=5) V3.drew #[.int .i64 (pa:Int),.int .i64 (pb:Int),.bool tt,.string wd,.int .i64 (k:Int)] 1 hw03 (by decide) rfl
   rw [show V3.drew.heap.size=w.heap.size+2 from hsz3]at h
   exact h)
  have hw04:w0.heap.size≤(V3.alloc (.cells #[.int .i64 (pa:Int),.int .i64 (pb:Int),.bool tt,.string wd,.int .i64 (k:Int)] 230)).drew.heap.size:=by rw [show (V3.alloc (.cells #[.int .i64 (pa:Int),.int .i64 (pb:Int),.bool tt,.string wd,.int .i64 (k:Int)] 230)).drew.heap.size=V3.heap.size+1 from by simp];omega
  have HBX:=hideK (show PBB w.heap.size (pa,pb,tt) (V3.alloc (.cells #[.int .i64 (pa:Int),.int .i64 (pb:Int),.bool tt,.string wd,.int .i64 (k:Int)] 230)).drew from HB3.out.keep fun o=>World.cell?_of_block (a:=⟨w.heap.size,o,none⟩) (heap_alloc_old V3.drew _ (by show w.heap.size<V3.heap.size;omega)))
  have HUN:=hideK (show some w.heap.size≠u.ownBlock from fun e=>by have:=HOW.out _ e.symm;omega)
  have HG:=hideK (fun (w7:World) (hg:(V3.alloc (.cells #[.int .i64 (pa:Int),.int .i64 (pb:Int),.bool tt,.string wd,.int .i64 (k:Int)] 230)).drew.grownBy w7 u.ownBlock)=>show PBB w.heap.size (pa,pb,tt) w7∧w7.cell? ⟨sb,1,none⟩=some u∧w7.frozen? ⟨sb,1,none⟩=false from ⟨HBX.out.keep fun o=>World.cell?_of_block (a:=⟨w.heap.size,o,none⟩) (hg.block w.heap.size (by simp;omega) HUN.out),(World.cell?_of_block (a:=⟨sb,1,none⟩) (hg.block sb (by simp;omega) (fun e=>HS3.out.us e.symm))).trans hpB,(World.frozen?_of_block (a:=⟨sb,1,none⟩) ((hg.block sb (by simp;omega) (fun e=>HS3.out.us e.symm)).trans (heap_alloc_old V3.drew _ hls3))).trans HS3.out.f1⟩)
  refine wp_region_held_drew (S:=(PBB w.heap.size (pa,pb,tt))) (by kernel_rfl) HB3.out (fun hS=>?_)
  refine tkZ 0 (.pointer (some ⟨sb,0,none⟩)) hS ?_;refine tkZ 1 (.pointer (some ⟨sb,0,none⟩)) hS ?_;refine tkZ 2 (.pointer (some ⟨sb,0,none⟩)) hS ?_;refine tkZ 3 (.pointer (some ⟨sb,1,none⟩)) hS ?_;refine tkH 5 (.agg #[.int .i64 (pa:Int),.int .i64 (pb:Int),.bool tt]) hS ?_ (hy:=Or.inl ⟨by rfl,fun W hW=>by obtain ⟨x0,x1,x2⟩:=hW;go_simp⟩)
  simp only [Act.put,sA,sB,sC];refine tkZ 6 (.string wd) hS ?_;refine tkZ 7 (.int .i64 (k:Int)) hS ?_;refine tkZ 8 (.agg #[.int .i64 (pa:Int),.int .i64 (pb:Int),.bool tt,.string wd,.int .i64 (k:Int)]) hS ?_;refine wpAnyH_ready (rs:=[4,9]) (by kernel_rfl) (by simp) (aC (fun K hK=>?_) (aC (fun K hK=>?_) aN))
  ·go_simp
   have hSn:=hS;refine hK.out _ _ hSn ?_;clear hS hK K hSn;intro hS;refine take_oneHL 9 (aC (fun K hK=>?_) aN) (by kernel_rfl)
   go_simp
   have hSn:=HBX.out;refine hK.out _ _ hSn ?_;clear hS hK K hSn;intro hS;refine take_oneHL 10 (aC (fun K hK=>?_) aN) (by kernel_rfl)
   refine step_append_rows _ rfl (.tmp 30) (.tmp 35) 231 rfl w0.heap.size w0.heap.size 230 i1 _ 5 48 Tryz.underlying231 hj hy0 hy1 hy2 rfl (by decide) _ _ _ rfl HOA.out _ _ _ rfl HLR.out (aCB_one ((wd,(pa,pb,tt)),k)) (by unfold maxLen;omega) (by omega) hw04 ?_
   intro v7 w7 hO7 hg7 hat7;have hSn:=(HG.out _ hg7).1;refine hK.out _ _ hSn ?_;clear hS hK K hSn;intro hS;simp only [Act.put,sA,sB,sC];refine tkZ 11 (.pointer (some ⟨sb,0,none⟩)) hS ?_;refine tkZ 12 (.pointer (some ⟨sb,1,none⟩)) hS ?_;have pc7:=(HG.out _ hg7).2.1;have pf7:=(HG.out _ hg7).2.2;have HP7:=hideK (HP.out w7 v7 hg7 hO7 hat7);obtain ⟨va,vc,rfl⟩:=sliceH_own hO7;clear hO7 hg7 hat7;refine take_oneHL 13 (aC (fun K hK=>?_) aN) (by kernel_rfl)
   go_simp
   have hSn:=(hS.keep fun o=>World.cell?_setCell_other _ _ _ _ (by intro e;injection e with e;omega):PBB w.heap.size (pa,pb,tt) (w7.setCell ⟨sb,1,none⟩ (.slice va (arr.length+1) vc)))
   refine hK.out _ _ hSn ?_;clear hS hK K hSn;intro hS;refine wpAnyH_done (by kernel_rfl) ?_ _
   go_wp2_with fail
   go_end0
   exact ⟨rfl,_,by rw [HAD.out];exact HP7.out.1,HR3.out.trans (HP7.out.2.1.drewLB) (.inl rfl),HP7.out.2.2.imp id fun f j hj=>Nat.le_trans HR3.out.size (f j hj)⟩
  ·go_simp
   have hSn:=HBX.out;refine hK.out _ _ hSn ?_;clear hS hK K hSn;intro hS;refine take_oneHL 4 (aC (fun K hK=>?_) aN) (by kernel_rfl)
   go_simp
   have hSn:=hS;refine hK.out _ _ hSn ?_;clear hS hK K hSn;intro hS;refine take_oneHL 10 (aC (fun K hK=>?_) aN) (by kernel_rfl)
   refine step_append_rows _ rfl (.tmp 30) (.tmp 35) 231 rfl w0.heap.size w0.heap.size 230 i1 _ 5 48 Tryz.underlying231 hj hy0 hy1 hy2 rfl (by decide) _ _ _ rfl HOA.out _ _ _ rfl HLR.out (aCB_one ((wd,(pa,pb,tt)),k)) (by unfold maxLen;omega) (by omega) hw04 ?_
   intro v7 w7 hO7 hg7 hat7;have hSn:=(HG.out _ hg7).1;refine hK.out _ _ hSn ?_;clear hS hK K hSn;intro hS;simp only [Act.put,sA,sB,sC];refine tkZ 11 (.pointer (some ⟨sb,0,none⟩)) hS ?_;refine tkZ 12 (.pointer (some ⟨sb,1,none⟩)) hS ?_;have pc7:=(HG.out _ hg7).2.1;have pf7:=(HG.out _ hg7).2.2;have HP7:=hideK (HP.out w7 v7 hg7 hO7 hat7);obtain ⟨va,vc,rfl⟩:=sliceH_own hO7;clear hO7 hg7 hat7;refine take_oneHL 13 (aC (fun K hK=>?_) aN) (by kernel_rfl)
   go_simp
   have hSn:=(hS.keep fun o=>World.cell?_setCell_other _ _ _ _ (by intro e;injection e with e;omega):PBB w.heap.size (pa,pb,tt) (w7.setCell ⟨sb,1,none⟩ (.slice va (arr.length+1) vc)))
   refine hK.out _ _ hSn ?_;clear hS hK K hSn;intro hS;refine wpAnyH_done (by kernel_rfl) ?_ _
   go_wp2_with fail
   go_end0
   exact ⟨rfl,_,by rw [HAD.out];exact HP7.out.1,HR3.out.trans (HP7.out.2.1.drewLB) (.inl rfl),HP7.out.2.2.imp id fun f j hj=>Nat.le_trans HR3.out.size (f j hj)⟩
end Go.Proofs.YtmamabhhgfcjcaaGreatDoor
