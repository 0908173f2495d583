/-
  The contract of (*ways.Search).Step, for the places of comply.place.
-/
import Derived.Test.YtnedgkcejlhnbaaGreatDoorSz
import Derived.Test.YtnedgkcejlhnbaaGreatDoorVh
set_option maxRecDepth 100000
set_option maxHeartbeats 4000000
namespace Go.Proofs.YtnedgkcejlhnbaaGreatDoor
open Go.RowKit Go.Shelf
theorem stepC_any(w0:World)(sb mb:Nat)(arr:List (Ag Pc))(u:Value)(wd:ByteArray)(p:Pc)(k:Nat)(w:World)(hs:SWC w0 sb mb arr u w)(hl:arr.length≤1000000)(hsm:∀q∈plG arr,smC q)(hp:smC p):
  Calls Tryz.prog 29 #[.pointer (some ⟨sb,0,none⟩),.int .i64 (k:Int),.string wd,pkC p] w fun e w'=>e = .returned (.tuple #[])∧∃u',SWC w0 sb mb (addG arr (wd,p) k) u' w'∧RF mb sb u.ownBlock w w'∧(u'.ownBlock=u.ownBlock∨∀j,u'.ownBlock=some j→w.heap.size≤j):=by
 obtain ⟨pa,pb⟩:=p;obtain ⟨i1,hj,hy0,hy1,hy2⟩:=info_parts infoAvC;have hA:Below w.heap.size w (w.alloc (.cells #[.int .i64 (pa:Int),.int .i64 (pb:Int)] 73)):=(Below.refl _ _).alloc (Nat.le_refl _) _;have sA:=hs.kept hA;have bA:PBC w.heap.size (pa,pb) (w.alloc (.cells #[.int .i64 (pa:Int),.int .i64 (pb:Int)] 73)):=⟨by go_cell,by go_cell⟩
 have hsz:(w.alloc (.cells #[.int .i64 (pa:Int),.int .i64 (pb:Int)] 73)).heap.size=w.heap.size+1:=by simp
 have hlt:=hs.ls;have hlm:=hs.mp.lt;have hown:=fun b (e:u.ownBlock=some b)=>(hs.own.lt b e).2
 have HOW:=hideK hown;have HA:=hideK hA;have HSA:=hideK sA;have HBA:=hideK bA;clear hown;by_cases hm:((pa,pb):Pc)∈plG arr
 ·have HLK:=hideK (fun (W:World) (h:MPC W mb (plG arr))=>lookC_in h hsm hm)
  simp only [pkC]at HLK ⊢;have HAD:=hideK (show addG arr (wd,(pa,pb)) k=arr from if_pos hm)
  clear hA sA bA hm hs;go_enter Tryz.func29,Tryz.ntmps29
  go_wp2_with fail
  generalize (w.alloc (.cells #[.int .i64 (pa:Int),.int .i64 (pb:Int)] 73))=V at *;refine wp_region_held_drew (S:=(fun W:World=>PBC w.heap.size (pa,pb) W∧W.cell? ⟨sb,0,none⟩=some (.map (some mb))∧MPC W mb (plG arr))) (by kernel_rfl) ⟨HBA.out,HSA.out.c0,HSA.out.mp⟩ (fun hS=>?_)
  refine tkH 0 (.pointer (some ⟨sb,0,none⟩)) hS ?_;simp only [Act.put,sA,sB,sC];refine tkH 1 (.pointer (some ⟨sb,0,none⟩)) hS ?_;simp only [Act.put,sA,sB,sC];refine tkH 2 (.pointer (some ⟨sb,0,none⟩)) hS ?_;simp only [Act.put,sA,sB,sC];refine tkH 3 (.map (some mb)) hS ?_ (hy:=Or.inl ⟨by rfl,fun W hW=>by have x0:=hW.2.1;go_simp⟩)
  simp only [Act.put,sA,sB,sC];refine tkH 4 (.agg #[.int .i64 (pa:Int),.int .i64 (pb:Int)]) hS ?_ (hy:=Or.inl ⟨by rfl,fun W hW=>by obtain ⟨⟨x0,x1⟩,_⟩:=hW;go_simp⟩)
  simp only [Act.put,sA,sB,sC];refine tkH 5 (.tuple #[.agg #[],.bool true]) hS ?_ (hy:=Or.inl ⟨by rfl,fun W hW=>by have q:=HLK.out W hW.2.2;simp [execOp,q,Result.andThen,go_sem]⟩)
  simp only [Act.put,sA,sB,sC];refine tkH 6 (.tuple #[.agg #[],.bool true]) hS ?_;simp only [Act.put,sA,sB,sC];refine tkH 7 (.agg #[]) hS ?_;simp only [Act.put,sA,sB,sC];refine tkH 8 (.bool true) hS ?_;simp only [Act.put,sA,sB,sC];refine take_oneHL 9 (AllReadyH.cons (by rw [List.getElem?_toArray];rfl) (fun K hK=>?_) AllReadyH.nil) (by kernel_rfl)
  go_simp
  have hSn:=(⟨HBA.out.keep (fun o=>World.cell?_of_block (a:=⟨w.heap.size,o,none⟩) (heap_alloc_old V _ (by show w.heap.size<V.heap.size;omega))),(World.cell?_of_block (a:=⟨sb,0,none⟩) (heap_alloc_old V _ HSA.out.ls)).trans HSA.out.c0,HSA.out.mp.blk (heap_alloc_old V _ HSA.out.mp.lt)⟩:PBC w.heap.size (pa,pb) (V.drew.alloc (.cells #[] 99))∧(V.drew.alloc (.cells #[] 99)).cell? ⟨sb,0,none⟩=some (.map (some mb))∧MPC (V.drew.alloc (.cells #[] 99)) mb (plG arr))
  refine hK.out _ _ hSn ?_;clear hS hK K hSn;intro hS;refine take_oneHL 10 (AllReadyH.cons (by rw [List.getElem?_toArray];rfl) (fun K hK=>?_) AllReadyH.nil) (by kernel_rfl)
  go_simp
  have hSn:=hS;refine hK.out _ _ hSn ?_;clear hS hK K hSn;intro hS;refine take_oneHL 11 (AllReadyH.cons (by rw [List.getElem?_toArray];rfl) (fun K hK=>?_) AllReadyH.nil) (by kernel_rfl)
  go_simp
  have hSn:=hS;refine hK.out _ _ hSn ?_;clear hS hK K hSn;intro hS;refine wpAnyH_done (by kernel_rfl) ?_ _
  go_wp2_with fail
  refine bodyPost_ret (results_none rfl _ _ _) rfl ?_;exact ⟨rfl,u,by rw [HAD.out];exact HSA.out.kept ((Below.refl _ _).drew.alloc (Nat.le_refl _) _),RF.of (HA.out.trans (((Below.refl _ _).drew.alloc (Nat.le_refl _) _).mono HA.out.size)),.inl rfl⟩
 ·have HLK:=hideK (fun (W:World) (h:MPC W mb (plG arr))=>(lookC_out h hsm hp hm).1)
  have HUP:=hideK (fun (W:World) (h:MPC W mb (plG arr))=>(lookC_out h hsm hp hm).2)
  simp only [pkC]at HLK HUP ⊢;have HAD:=hideK (show addG arr (wd,(pa,pb)) k=arr++[((wd,(pa,pb)),k)] from if_neg hm)
  clear hA sA bA hm hs;go_enter Tryz.func29,Tryz.ntmps29
  go_wp2_with fail
  generalize (w.alloc (.cells #[.int .i64 (pa:Int),.int .i64 (pb:Int)] 73))=V at *;refine wp_region_held_drew (S:=(fun W:World=>PBC w.heap.size (pa,pb) W∧W.cell? ⟨sb,0,none⟩=some (.map (some mb))∧MPC W mb (plG arr))) (by kernel_rfl) ⟨HBA.out,HSA.out.c0,HSA.out.mp⟩ (fun hS=>?_)
  refine tkH 0 (.pointer (some ⟨sb,0,none⟩)) hS ?_;simp only [Act.put,sA,sB,sC];refine tkH 1 (.pointer (some ⟨sb,0,none⟩)) hS ?_;simp only [Act.put,sA,sB,sC];refine tkH 2 (.pointer (some ⟨sb,0,none⟩)) hS ?_;simp only [Act.put,sA,sB,sC];refine tkH 3 (.map (some mb)) hS ?_ (hy:=Or.inl ⟨by rfl,fun W hW=>by have x0:=hW.2.1;go_simp⟩)
  simp only [Act.put,sA,sB,sC];refine tkH 4 (.agg #[.int .i64 (pa:Int),.int .i64 (pb:Int)]) hS ?_ (hy:=Or.inl ⟨by rfl,fun W hW=>by obtain ⟨⟨x0,x1⟩,_⟩:=hW;go_simp⟩)
  simp only [Act.put,sA,sB,sC];refine tkH 5 (.tuple #[.agg #[],.bool false]) hS ?_ (hy:=Or.inl ⟨by rfl,fun W hW=>by have q:=HLK.out W hW.2.2;simp [execOp,q,Result.andThen,go_sem]⟩)
  simp only [Act.put,sA,sB,sC];refine tkH 6 (.tuple #[.agg #[],.bool false]) hS ?_;simp only [Act.put,sA,sB,sC];refine tkH 7 (.agg #[]) hS ?_;simp only [Act.put,sA,sB,sC];refine tkH 8 (.bool false) hS ?_;simp only [Act.put,sA,sB,sC];refine take_oneHL 9 (AllReadyH.cons (by rw [List.getElem?_toArray];rfl) (fun K hK=>?_) AllReadyH.nil) (by kernel_rfl)
  go_simp
  have hSn:=(⟨HBA.out.keep (fun o=>World.cell?_of_block (a:=⟨w.heap.size,o,none⟩) (heap_alloc_old V _ (by show w.heap.size<V.heap.size;omega))),(World.cell?_of_block (a:=⟨sb,0,none⟩) (heap_alloc_old V _ HSA.out.ls)).trans HSA.out.c0,HSA.out.mp.blk (heap_alloc_old V _ HSA.out.mp.lt)⟩:PBC w.heap.size (pa,pb) (V.drew.alloc (.cells #[] 99))∧(V.drew.alloc (.cells #[] 99)).cell? ⟨sb,0,none⟩=some (.map (some mb))∧MPC (V.drew.alloc (.cells #[] 99)) mb (plG arr))
  refine hK.out _ _ hSn ?_;clear hS hK K hSn;intro hS;refine take_oneHL 10 (AllReadyH.cons (by rw [List.getElem?_toArray];rfl) (fun K hK=>?_) AllReadyH.nil) (by kernel_rfl)
  go_simp
  have hSn:=hS;refine hK.out _ _ hSn ?_;clear hS hK K hSn;intro hS;refine take_oneHL 11 (AllReadyH.cons (by rw [List.getElem?_toArray];rfl) (fun K hK=>?_) AllReadyH.nil) (by kernel_rfl)
  go_simp
  have hSn:=hS;refine hK.out _ _ hSn ?_;clear hS hK K hSn;intro hS;refine wpAnyH_done (by kernel_rfl) ?_ _
  go_wp2_with fail
  have hV2:Below V.heap.size V (V.alloc (.cells #[] 99)).drew:=((Below.refl _ _).alloc (Nat.le_refl _) _).drew;have HS2:=hideK (HSA.out.kept hV2);have HA2:=hideK (HA.out.trans (hV2.mono HA.out.size));have hsz2:(V.alloc (.cells #[] 99)).drew.heap.size=w.heap.size+2:=by simp [hsz]
  have HB2:=hideK hS.1;clear hS hV2;generalize (V.alloc (.cells #[] 99)).drew=V2 at *;refine wp_region_held_drew (S:=(fun W:World=>PBC w.heap.size (pa,pb) W∧W.cell? ⟨sb,0,none⟩=some (.map (some mb)))) (by kernel_rfl) ⟨HB2.out,HS2.out.c0⟩ (fun hS=>?_)
  refine tkH 0 (.pointer (some ⟨sb,0,none⟩)) hS ?_;simp only [Act.put,sA,sB,sC];refine tkH 1 (.pointer (some ⟨sb,0,none⟩)) hS ?_;simp only [Act.put,sA,sB,sC];refine tkH 2 (.pointer (some ⟨sb,0,none⟩)) hS ?_;simp only [Act.put,sA,sB,sC];refine tkH 3 (.map (some mb)) hS ?_ (hy:=Or.inl ⟨by rfl,fun W hW=>by have x0:=hW.2;go_simp⟩)
  simp only [Act.put,sA,sB,sC];refine tkH 4 (.agg #[.int .i64 (pa:Int),.int .i64 (pb:Int)]) hS ?_ (hy:=Or.inl ⟨by rfl,fun W hW=>by obtain ⟨⟨x0,x1⟩,_⟩:=hW;go_simp⟩)
  simp only [Act.put,sA,sB,sC];refine tkH 5 (.agg #[]) hS ?_;simp only [Act.put,sA,sB,sC];obtain ⟨V3,hrun,hg3,hz3,hm3⟩:=HUP.out V2.drew (HS2.out.mp.blk rfl);have hs3:=(HS2.out.kept (Below.refl _ _).drew).upd hg3 hm3;have b3:PBC w.heap.size (pa,pb) V3:=HB2.out.keep fun o=>World.cell?_of_block (a:=⟨w.heap.size,o,none⟩) (hg3.block w.heap.size (by show w.heap.size<V2.heap.size;omega) (fun e=>by injection e with e;omega))
  refine take_oneHL 6 (AllReadyH.cons (by rw [List.getElem?_toArray];rfl) (fun K hK=>?_) AllReadyH.nil) (by kernel_rfl)
  refine stepUpdC rfl (.tmp 23) (.tmp 24) (.tmp 25) 100 (.inl rfl) rfl rfl rfl hrun ?_;have hSn:PBC w.heap.size (pa,pb) V3∧V3.cell? ⟨sb,0,none⟩=some (.map (some mb)):=⟨b3,hs3.c0⟩;refine hK.out _ _ hSn ?_;clear hS hK K hSn;intro hS;refine wpAnyH_done (by kernel_rfl) ?_ _
  have HR3:=hideK (show RF mb sb u.ownBlock w V3 from (RF.of HA2.out).trans ⟨hg3.os,hg3.tape,hg3.output,hg3.size,fun b hb h1 _ _=>hg3.block b hb (fun e=>h1 (by injection e))⟩ (.inl rfl))
  have hsz3:V3.heap.size=w.heap.size+2:=hz3.trans hsz2;have HS3:=hideK hs3;have HB3:=hideK b3;clear hS hs3 b3 hrun hg3 hz3 hm3 HS2 HB2 HUP HLK HSA HBA HA HA2 hsz hsz2;go_wp2_with fail
  have HP:=hideK (fun (w7:World) (v7:Value) (hg:(V3.alloc (.cells #[.int .i64 (pa:Int),.int .i64 (pb:Int),.string wd,.int .i64 (k:Int)] 102)).drew.grownBy w7 u.ownBlock) (hO:w7.ownsRow w0.heap.size 102 4 v7 (arr.length+1) (avC arr++aCC ((wd,(pa,pb)),k))) (hat:v7.ownBlock=u.ownBlock∨v7.ownBlock=some (V3.alloc (.cells #[.int .i64 (pa:Int),.int .i64 (pb:Int),.string wd,.int .i64 (k:Int)] 102)).drew.heap.size)=>(HS3.out.kept (Below.refl _ _).drew).put rfl hg hO hat)
  have hpA:V3.drew.cell? ⟨sb,1,none⟩=some u:=HS3.out.c1;have hls3:sb<V3.drew.heap.size:=HS3.out.ls;have hpB:(V3.alloc (.cells #[.int .i64 (pa:Int),.int .i64 (pb:Int),.string wd,.int .i64 (k:Int)] 102)).drew.cell? ⟨sb,1,none⟩=some u:=(World.cell?_of_block (a:=⟨sb,1,none⟩) (heap_alloc_old V3.drew _ hls3)).trans hpA;have HOA:=hideK (own_belowG HS3.out.own ((Below.refl _ _).alloc (Nat.le_refl _) (.cells #[.int .i64 (pa:Int),.int .i64 (pb:Int),.string wd,.int .i64 (k:Int)] 102)).drew);have hw03:w0.heap.size≤V3.heap.size:=HS3.out.bl.size;have HLR:=hideK (show (V3.alloc (.cells #[.int .i64 (pa:Int),.int .i64 (pb:Int),.string wd,.int .i64 (k:Int)] 102)).drew.ownsRow w0.heap.size 102 4 (.slice (some ⟨w.heap.size+2,0,none⟩) 1 1) 1 (aCC ((wd,(pa,pb)),k)) from by
   have h:=World.ownsRow_lit (base:=w0.heap.size) (e:=102) (size:=4) V3.drew #[.int .i64 (pa:Int),.int .i64 (pb:Int),.string wd,.int .i64 (k:Int)] 1 hw03 (by decide) rfl
   rw [show V3.drew.heap.size=w.heap.size+2 from hsz3]at h
   exact h)
  have hw04:w0.heap.size≤(V3.alloc (.cells #[.int .i64 (pa:Int),.int .i64 (pb:Int),.string wd,.int .i64 (k:Int)] 102)).drew.heap.size:=by rw [show (V3.alloc (.cells #[.int .i64 (pa:Int),.int .i64 (pb:Int),.string wd,.int .i64 (k:Int)] 102)).drew.heap.size=V3.heap.size+1 from by simp];omega
  have HBX:=hideK (show PBC w.heap.size (pa,pb) (V3.alloc (.cells #[.int .i64 (pa:Int),.int .i64 (pb:Int),.string wd,.int .i64 (k:Int)] 102)).drew from HB3.out.keep fun o=>World.cell?_of_block (a:=⟨w.heap.size,o,none⟩) (heap_alloc_old V3.drew _ (by show w.heap.size<V3.heap.size;omega)))
  have HUN:=hideK (show some w.heap.size≠u.ownBlock from fun e=>by have:=HOW.out _ e.symm;omega)
  have HG:=hideK (fun (w7:World) (hg:(V3.alloc (.cells #[.int .i64 (pa:Int),.int .i64 (pb:Int),.string wd,.int .i64 (k:Int)] 102)).drew.grownBy w7 u.ownBlock)=>show PBC w.heap.size (pa,pb) w7∧w7.cell? ⟨sb,1,none⟩=some u∧w7.frozen? ⟨sb,1,none⟩=false from ⟨HBX.out.keep fun o=>World.cell?_of_block (a:=⟨w.heap.size,o,none⟩) (hg.block w.heap.size (by simp;omega) HUN.out),(World.cell?_of_block (a:=⟨sb,1,none⟩) (hg.block sb (by simp;omega) (fun e=>HS3.out.us e.symm))).trans hpB,(World.frozen?_of_block (a:=⟨sb,1,none⟩) ((hg.block sb (by simp;omega) (fun e=>HS3.out.us e.symm)).trans (heap_alloc_old V3.drew _ hls3))).trans HS3.out.f1⟩)
  refine wp_region_held_drew (S:=(PBC w.heap.size (pa,pb))) (by kernel_rfl) HB3.out (fun hS=>?_)
  refine tkH 0 (.pointer (some ⟨sb,0,none⟩)) hS ?_;simp only [Act.put,sA,sB,sC];refine tkH 1 (.pointer (some ⟨sb,0,none⟩)) hS ?_;simp only [Act.put,sA,sB,sC];refine tkH 2 (.pointer (some ⟨sb,0,none⟩)) hS ?_;simp only [Act.put,sA,sB,sC];refine tkH 3 (.pointer (some ⟨sb,1,none⟩)) hS ?_;simp only [Act.put,sA,sB,sC];refine tkH 5 (.agg #[.int .i64 (pa:Int),.int .i64 (pb:Int)]) hS ?_ (hy:=Or.inl ⟨by rfl,fun W hW=>by obtain ⟨x0,x1⟩:=hW;go_simp⟩)
  simp only [Act.put,sA,sB,sC];refine tkH 6 (.string wd) hS ?_;simp only [Act.put,sA,sB,sC];refine tkH 7 (.int .i64 (k:Int)) hS ?_;simp only [Act.put,sA,sB,sC];refine tkH 8 (.agg #[.int .i64 (pa:Int),.int .i64 (pb:Int),.string wd,.int .i64 (k:Int)]) hS ?_;simp only [Act.put,sA,sB,sC];refine wpAnyH_ready (rs:=[4,9]) (by kernel_rfl) (by simp) (AllReadyH.cons (by rw [List.getElem?_toArray];rfl) (fun K hK=>?_) (AllReadyH.cons (by rw [List.getElem?_toArray];rfl) (fun K hK=>?_) AllReadyH.nil))
  ·go_simp
   have hSn:=hS;refine hK.out _ _ hSn ?_;clear hS hK K hSn;intro hS;refine take_oneHL 9 (AllReadyH.cons (by rw [List.getElem?_toArray];rfl) (fun K hK=>?_) AllReadyH.nil) (by kernel_rfl)
   go_simp
   have hSn:=HBX.out;refine hK.out _ _ hSn ?_;clear hS hK K hSn;intro hS;refine take_oneHL 10 (AllReadyH.cons (by rw [List.getElem?_toArray];rfl) (fun K hK=>?_) AllReadyH.nil) (by kernel_rfl)
   refine step_append_rows _ rfl (.tmp 30) (.tmp 35) 103 rfl w0.heap.size w0.heap.size 102 i1 _ 4 40 Tryz.underlying103 hj hy0 hy1 hy2 rfl (by decide) _ _ _ rfl HOA.out _ _ _ rfl HLR.out (aCC_one ((wd,(pa,pb)),k)) (by unfold maxLen;omega) (by omega) hw04 ?_
   intro v7 w7 hO7 hg7 hat7;have hSn:=(HG.out _ hg7).1;refine hK.out _ _ hSn ?_;clear hS hK K hSn;intro hS;simp only [Act.put,sA,sB,sC];refine tkH 11 (.pointer (some ⟨sb,0,none⟩)) hS ?_;simp only [Act.put,sA,sB,sC];refine tkH 12 (.pointer (some ⟨sb,1,none⟩)) hS ?_;simp only [Act.put,sA,sB,sC];have pc7:=(HG.out _ hg7).2.1;have pf7:=(HG.out _ hg7).2.2;have HP7:=hideK (HP.out w7 v7 hg7 hO7 hat7);obtain ⟨va,vc,rfl⟩:=sliceH_own hO7;clear hO7 hg7 hat7;refine take_oneHL 13 (AllReadyH.cons (by rw [List.getElem?_toArray];rfl) (fun K hK=>?_) AllReadyH.nil) (by kernel_rfl)
   go_simp
   have hSn:=(hS.keep fun o=>World.cell?_setCell_other _ _ _ _ (by intro e;injection e with e;omega):PBC w.heap.size (pa,pb) (w7.setCell ⟨sb,1,none⟩ (.slice va (arr.length+1) vc)))
   refine hK.out _ _ hSn ?_;clear hS hK K hSn;intro hS;refine wpAnyH_done (by kernel_rfl) ?_ _
   go_wp2_with fail
   go_end0
   exact ⟨rfl,_,by rw [HAD.out];exact HP7.out.1,HR3.out.trans (HP7.out.2.1.drewLC) (.inl rfl),HP7.out.2.2.imp id fun f j hj=>Nat.le_trans HR3.out.size (f j hj)⟩
  ·go_simp
   have hSn:=HBX.out;refine hK.out _ _ hSn ?_;clear hS hK K hSn;intro hS;refine take_oneHL 4 (AllReadyH.cons (by rw [List.getElem?_toArray];rfl) (fun K hK=>?_) AllReadyH.nil) (by kernel_rfl)
   go_simp
   have hSn:=hS;refine hK.out _ _ hSn ?_;clear hS hK K hSn;intro hS;refine take_oneHL 10 (AllReadyH.cons (by rw [List.getElem?_toArray];rfl) (fun K hK=>?_) AllReadyH.nil) (by kernel_rfl)
   refine step_append_rows _ rfl (.tmp 30) (.tmp 35) 103 rfl w0.heap.size w0.heap.size 102 i1 _ 4 40 Tryz.underlying103 hj hy0 hy1 hy2 rfl (by decide) _ _ _ rfl HOA.out _ _ _ rfl HLR.out (aCC_one ((wd,(pa,pb)),k)) (by unfold maxLen;omega) (by omega) hw04 ?_
   intro v7 w7 hO7 hg7 hat7;have hSn:=(HG.out _ hg7).1;refine hK.out _ _ hSn ?_;clear hS hK K hSn;intro hS;simp only [Act.put,sA,sB,sC];refine tkH 11 (.pointer (some ⟨sb,0,none⟩)) hS ?_;simp only [Act.put,sA,sB,sC];refine tkH 12 (.pointer (some ⟨sb,1,none⟩)) hS ?_;simp only [Act.put,sA,sB,sC];have pc7:=(HG.out _ hg7).2.1;have pf7:=(HG.out _ hg7).2.2;have HP7:=hideK (HP.out w7 v7 hg7 hO7 hat7);obtain ⟨va,vc,rfl⟩:=sliceH_own hO7;clear hO7 hg7 hat7;refine take_oneHL 13 (AllReadyH.cons (by rw [List.getElem?_toArray];rfl) (fun K hK=>?_) AllReadyH.nil) (by kernel_rfl)
   go_simp
   have hSn:=(hS.keep fun o=>World.cell?_setCell_other _ _ _ _ (by intro e;injection e with e;omega):PBC w.heap.size (pa,pb) (w7.setCell ⟨sb,1,none⟩ (.slice va (arr.length+1) vc)))
   refine hK.out _ _ hSn ?_;clear hS hK K hSn;intro hS;refine wpAnyH_done (by kernel_rfl) ?_ _
   go_wp2_with fail
   go_end0
   exact ⟨rfl,_,by rw [HAD.out];exact HP7.out.1,HR3.out.trans (HP7.out.2.1.drewLC) (.inl rfl),HP7.out.2.2.imp id fun f j hj=>Nat.le_trans HR3.out.size (f j hj)⟩
end Go.Proofs.YtnedgkcejlhnbaaGreatDoor
