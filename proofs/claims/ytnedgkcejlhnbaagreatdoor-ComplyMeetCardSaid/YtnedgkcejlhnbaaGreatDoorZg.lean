/-
  The contract of (*below.drafting).number.
-/
import Derived.Test.YtnedgkcejlhnbaaGreatDoorSz
import Derived.Test.YtnedgkcejlhnbaaGreatDoorZf
set_option maxRecDepth 100000
set_option maxHeartbeats 4000000
namespace Go.Proofs.YtnedgkcejlhnbaaGreatDoor
open Go.RowKit Go.Shelf
theorem numberZ_any(w0:World)(db mb:Nat)(ca cb ud:Value)(ps:List Pz)(u:Value)(p:Pz)(w:World)(hs:ZW w0 db mb ca cb ud ps u w)(hl:ps.length≤1000000)(hnd:ps.Nodup)(hsm:∀q∈ps,smPz q)(hp:smPz p):
  Calls Tryz.prog 13 #[.pointer (some ⟨db,0,none⟩),pkZ p] w fun e w'=>e = .returned (.int .i64 ((addZ ps p).idxOf p:Int))∧∃u',ZW w0 db mb ca cb ud (addZ ps p) u' w'∧RF mb db u.ownBlock w w'∧(u'.ownBlock=u.ownBlock∨∀j,u'.ownBlock=some j→w.heap.size≤j):=by
 obtain ⟨pa,pb,tt⟩:=p;obtain ⟨i1,hj,hy0,hy1,hy2⟩:=info_parts infoPz;have hA:Below w.heap.size w (w.alloc (.cells #[.int .i64 pa,.int .i64 pb,.bool tt] 53)):=(Below.refl _ _).alloc (Nat.le_refl _) _;have sA:=hs.kept hA;have bA:PBZ w.heap.size (pa,pb,tt) (w.alloc (.cells #[.int .i64 pa,.int .i64 pb,.bool tt] 53)):=⟨by go_cell,by go_cell,by go_cell⟩
 have hsz:(w.alloc (.cells #[.int .i64 pa,.int .i64 pb,.bool tt] 53)).heap.size=w.heap.size+1:=by simp
 have hlt:=hs.ls;have hlm:=hs.mp.lt;have hown:=fun b (e:u.ownBlock=some b)=>(hs.own.lt b e).2
 have HOW:=hideK hown;have HA:=hideK hA;have HSA:=hideK sA;have HBA:=hideK bA;clear hown;by_cases hm:((pa,pb,tt):Pz)∈ps
 ·have HLK:=hideK (fun (W:World) (h:MPZ W mb ps)=>lookZ_in h hsm hnd hm)
  simp only [pkZ]at HLK ⊢;have HAD:=hideK (show addZ ps (pa,pb,tt)=ps from if_pos hm)
  clear hA sA bA hm hs;generalize hix:ps.idxOf (pa,pb,tt)=ix at HLK;have HIX:=hideK hix;clear hix;go_enter Tryz.func13,Tryz.ntmps13
  go_wp2_with fail
  generalize (w.alloc (.cells #[.int .i64 pa,.int .i64 pb,.bool tt] 53))=V at *;refine wp_region_upto (fun W:World=>PBZ w.heap.size (pa,pb,tt) W∧W.cell? ⟨db,2,none⟩=some (.map (some mb))∧MPZ W mb ps) 10 (by kernel_rfl) ⟨HBA.out,HSA.out.c2,HSA.out.mp⟩ (fun hS=>?_)
  refine tkU 0 (.pointer (some ⟨db,0,none⟩)) hS ?_;simp only [Act.put,sA,sB,sC];refine tkU 1 (.pointer (some ⟨db,0,none⟩)) hS ?_;simp only [Act.put,sA,sB,sC];refine tkU 2 (.pointer (some ⟨db,2,none⟩)) hS ?_;simp only [Act.put,sA,sB,sC];refine tkU 3 (.map (some mb)) hS ?_ (hy:=Or.inl ⟨by rfl,fun W hW=>by have x0:=hW.2.1;go_simp⟩)
  simp only [Act.put,sA,sB,sC];refine tkU 4 (.agg #[.int .i64 pa,.int .i64 pb,.bool tt]) hS ?_ (hy:=Or.inl ⟨by rfl,fun W hW=>by obtain ⟨⟨x0,x1,x2⟩,_⟩:=hW;go_simp⟩)
  simp only [Act.put,sA,sB,sC];refine tkU 5 (.tuple #[.int .i64 (ix:Int),.bool true]) hS ?_ (hy:=Or.inl ⟨by rfl,fun W hW=>by have q:=HLK.out W hW.2.2;simp [execOp,q,Result.andThen,go_sem]⟩)
  simp only [Act.put,sA,sB,sC];refine tkU 6 (.tuple #[.int .i64 (ix:Int),.bool true]) hS ?_;simp only [Act.put,sA,sB,sC];refine tkU 7 (.int .i64 (ix:Int)) hS ?_;simp only [Act.put,sA,sB,sC];refine tkU 8 (.bool true) hS ?_;simp only [Act.put,sA,sB,sC];refine onU 9 (fun K hK=>?_)
  go_simp
  have hSn:=hS;refine hK.out _ _ hSn ?_;clear hS hK K hSn;intro hS;refine upto_last (by rw [List.getElem?_toArray];rfl) (by kernel_rfl) (fun K hK=>?_)
  go_simp
  refine hK.out _ _ ?_;clear hS hK K;refine upto_done (by kernel_rfl) ?_ _
  go_wp2_with fail
  go_ret
  exact ⟨by rw [HAD.out,HIX.out];rfl,u,by rw [HAD.out];exact HSA.out.kept (Below.refl _ _).drew,RF.of (HA.out.trans ((Below.refl _ _).drew.mono HA.out.size)),.inl rfl⟩
 ·have HLK:=hideK (fun (W:World) (h:MPZ W mb ps)=>(lookZ_out h hsm hp hm).1)
  have HUP:=hideK (fun (W:World) (h:MPZ W mb ps)=>(lookZ_out h hsm hp hm).2)
  simp only [pkZ]at HLK HUP ⊢;have HAD:=hideK (show addZ ps (pa,pb,tt)=ps++[(pa,pb,tt)] from if_neg hm)
  have HIX:=hideK (show (addZ ps (pa,pb,tt)).idxOf (pa,pb,tt)=ps.length from by rw [idx_addZ,if_neg hm])
  have hown0:=hs.own;clear hA sA bA hm hs;obtain ⟨ua,uc,rfl⟩:=sliceH_own hown0;clear hown0;go_enter Tryz.func13,Tryz.ntmps13
  go_wp2_with fail
  generalize (w.alloc (.cells #[.int .i64 pa,.int .i64 pb,.bool tt] 53))=V at *;refine wp_region_upto (fun W:World=>PBZ w.heap.size (pa,pb,tt) W∧W.cell? ⟨db,2,none⟩=some (.map (some mb))∧MPZ W mb ps) 10 (by kernel_rfl) ⟨HBA.out,HSA.out.c2,HSA.out.mp⟩ (fun hS=>?_)
  refine tkU 0 (.pointer (some ⟨db,0,none⟩)) hS ?_;simp only [Act.put,sA,sB,sC];refine tkU 1 (.pointer (some ⟨db,0,none⟩)) hS ?_;simp only [Act.put,sA,sB,sC];refine tkU 2 (.pointer (some ⟨db,2,none⟩)) hS ?_;simp only [Act.put,sA,sB,sC];refine tkU 3 (.map (some mb)) hS ?_ (hy:=Or.inl ⟨by rfl,fun W hW=>by have x0:=hW.2.1;go_simp⟩)
  simp only [Act.put,sA,sB,sC];refine tkU 4 (.agg #[.int .i64 pa,.int .i64 pb,.bool tt]) hS ?_ (hy:=Or.inl ⟨by rfl,fun W hW=>by obtain ⟨⟨x0,x1,x2⟩,_⟩:=hW;go_simp⟩)
  simp only [Act.put,sA,sB,sC];refine tkU 5 (.tuple #[.int .i64 0,.bool false]) hS ?_ (hy:=Or.inl ⟨by rfl,fun W hW=>by have q:=HLK.out W hW.2.2;simp [execOp,q,Result.andThen,go_sem]⟩)
  simp only [Act.put,sA,sB,sC];refine tkU 6 (.tuple #[.int .i64 0,.bool false]) hS ?_;simp only [Act.put,sA,sB,sC];refine tkU 7 (.int .i64 0) hS ?_;simp only [Act.put,sA,sB,sC];refine tkU 8 (.bool false) hS ?_;simp only [Act.put,sA,sB,sC];refine onU 9 (fun K hK=>?_)
  go_simp
  have hSn:=hS;refine hK.out _ _ hSn ?_;clear hS hK K hSn;intro hS;refine upto_last (by rw [List.getElem?_toArray];rfl) (by kernel_rfl) (fun K hK=>?_)
  go_simp
  refine hK.out _ _ ?_;clear hS hK K;refine upto_done (by kernel_rfl) ?_ _
  have hc3:=HSA.out.c3;go_wp2_with fail
  refine wp_region_upto (fun W:World=>PBZ w.heap.size (pa,pb,tt) W∧W.cell? ⟨db,2,none⟩=some (.map (some mb))) 6 (by kernel_rfl) ⟨HBA.out,HSA.out.c2⟩ (fun hS=>?_)
  refine tkU 0 (.pointer (some ⟨db,0,none⟩)) hS ?_;simp only [Act.put,sA,sB,sC];refine tkU 1 (.pointer (some ⟨db,0,none⟩)) hS ?_;simp only [Act.put,sA,sB,sC];refine tkU 2 (.pointer (some ⟨db,2,none⟩)) hS ?_;simp only [Act.put,sA,sB,sC];refine tkU 3 (.map (some mb)) hS ?_ (hy:=Or.inl ⟨by rfl,fun W hW=>by have x0:=hW.2;go_simp⟩)
  simp only [Act.put,sA,sB,sC];refine tkU 4 (.agg #[.int .i64 pa,.int .i64 pb,.bool tt]) hS ?_ (hy:=Or.inl ⟨by rfl,fun W hW=>by obtain ⟨⟨x0,x1,x2⟩,_⟩:=hW;go_simp⟩)
  simp only [Act.put,sA,sB,sC];refine tkU 5 (.int .i64 (ps.length:Int)) hS ?_;simp only [Act.put,sA,sB,sC];obtain ⟨V3,hrun,hg3,hz3,hm3⟩:=HUP.out V.drew.drew (HSA.out.mp.blk rfl);refine upto_last (by rw [List.getElem?_toArray];rfl) (by kernel_rfl) (fun K hK=>?_)
  refine stepUpdB rfl (.tmp 26) (.tmp 27) (.tmp 28) 46 (.inl rfl) rfl rfl rfl hrun ?_;refine hK.out _ _ ?_;clear hS hK K;refine upto_done (by kernel_rfl) ?_ _
  have hs3:=(HSA.out.kept ((Below.refl _ _).drew.trans (Below.refl _ _).drew)).upd hg3 hm3;have b3:PBZ w.heap.size (pa,pb,tt) V3:=HBA.out.keep fun o=>World.cell?_of_block (a:=⟨w.heap.size,o,none⟩) (hg3.block w.heap.size (by show w.heap.size<V.heap.size;omega) (fun e=>by injection e with e;omega))
  have HR3:=hideK (show RF mb db (Value.slice ua ps.length uc).ownBlock w V3 from (RF.of HA.out).trans ⟨hg3.os,hg3.tape,hg3.output,hg3.size,fun b hb h1 _ _=>hg3.block b hb (fun e=>h1 (by injection e))⟩ (.inl rfl))
  have hsz3:V3.heap.size=w.heap.size+1:=hz3.trans hsz;have HS3:=hideK hs3;have HB3:=hideK b3;clear hs3 b3 hrun hg3 hz3 hm3 HUP HLK HSA HBA HA hsz hc3;go_wp2_with fail
  have HP:=hideK (fun (w7:World) (v7:Value) (hg:(V3.alloc (.cells #[.int .i64 pa,.int .i64 pb,.bool tt] 53)).drew.grownBy w7 (Value.slice ua ps.length uc).ownBlock) (hO:w7.ownsRow w0.heap.size 53 3 v7 (ps.length+1) (pvZ ps++pCZ (pa,pb,tt))) (hat:v7.ownBlock=(Value.slice ua ps.length uc).ownBlock∨v7.ownBlock=some (V3.alloc (.cells #[.int .i64 pa,.int .i64 pb,.bool tt] 53)).drew.heap.size)=>(HS3.out.kept (Below.refl _ _).drew).put (V:=V3.drew) (ob:=(.cells #[.int .i64 pa,.int .i64 pb,.bool tt] 53)) rfl hg hO hat)
  have hw03:w0.heap.size≤V3.heap.size:=HS3.out.bl.size;have hls3:db<V3.drew.heap.size:=HS3.out.ls;have HOA:=hideK (own_belowG HS3.out.own ((Below.refl _ _).alloc (Nat.le_refl _) (.cells #[.int .i64 pa,.int .i64 pb,.bool tt] 53)).drew);have HLR:=hideK (show (V3.alloc (.cells #[.int .i64 pa,.int .i64 pb,.bool tt] 53)).drew.ownsRow w0.heap.size 53 3 (.slice (some ⟨w.heap.size+1,0,none⟩) 1 1) 1 (pCZ (pa,pb,tt)) from by
   have h:=World.ownsRow_lit (base:=w0.heap.size) (e:=53) (size:=3) V3.drew #[.int .i64 pa,.int .i64 pb,.bool tt] 1 hw03 (by decide) rfl
   rw [show V3.drew.heap.size=w.heap.size+1 from hsz3]at h
   exact h)
  have hw04:w0.heap.size≤(V3.alloc (.cells #[.int .i64 pa,.int .i64 pb,.bool tt] 53)).drew.heap.size:=by rw [show (V3.alloc (.cells #[.int .i64 pa,.int .i64 pb,.bool tt] 53)).drew.heap.size=V3.heap.size+1 from by simp];omega
  have HUN:=hideK (show some w.heap.size≠(Value.slice ua ps.length uc).ownBlock from fun e=>by have:=HOW.out _ e.symm;omega)
  have HUD:=hideK (show some db≠(Value.slice ua ps.length uc).ownBlock from fun e=>HS3.out.us e.symm)
  have HG:=hideK (fun (w7:World) (hg:(V3.alloc (.cells #[.int .i64 pa,.int .i64 pb,.bool tt] 53)).drew.grownBy w7 (Value.slice ua ps.length uc).ownBlock)=>show (PBZ w.heap.size (pa,pb,tt) w7∧w7.cell? ⟨db,3,none⟩=some (.slice ua ps.length uc))∧w7.cell? ⟨db,3,none⟩=some (.slice ua ps.length uc)∧w7.frozen? ⟨db,3,none⟩=false from by
   have hk:∀b,b<V3.heap.size→some b≠(Value.slice ua ps.length uc).ownBlock→w7.heap[b]? = V3.heap[b]?:=fun b hb hn=>(hg.block b (by simp;omega) hn).trans (heap_alloc_old V3 _ hb)
   have k1:=hk db HS3.out.ls HUD.out;have k2:=hk w.heap.size (by omega) HUN.out
   have c3:=(World.cell?_of_block (a:=⟨db,3,none⟩) k1).trans HS3.out.c3;exact ⟨⟨HB3.out.keep fun o=>World.cell?_of_block (a:=⟨w.heap.size,o,none⟩) k2,c3⟩,c3,(World.frozen?_of_block (a:=⟨db,3,none⟩) k1).trans HS3.out.f3⟩)
  refine wp_region_upto (fun W:World=>PBZ w.heap.size (pa,pb,tt) W∧W.cell? ⟨db,3,none⟩=some (Value.slice ua ps.length uc)) 10 (by kernel_rfl) ⟨HB3.out,HS3.out.c3⟩ (fun hS=>?_)
  refine tkU 0 (.pointer (some ⟨db,0,none⟩)) hS ?_;simp only [Act.put,sA,sB,sC];refine tkU 1 (.pointer (some ⟨db,0,none⟩)) hS ?_;simp only [Act.put,sA,sB,sC];refine tkU 2 (.pointer (some ⟨db,0,none⟩)) hS ?_;simp only [Act.put,sA,sB,sC];refine tkU 3 (.pointer (some ⟨db,3,none⟩)) hS ?_;simp only [Act.put,sA,sB,sC];refine tkU 4 (.slice ua ps.length uc) hS ?_ (hy:=Or.inl ⟨by rfl,fun W hW=>by have x0:=hW.2;go_simp⟩)
  simp only [Act.put,sA,sB,sC];refine tkU 5 (.agg #[.int .i64 pa,.int .i64 pb,.bool tt]) hS ?_ (hy:=Or.inl ⟨by rfl,fun W hW=>by obtain ⟨⟨x0,x1,x2⟩,_⟩:=hW;go_simp⟩)
  simp only [Act.put,sA,sB,sC];refine onU 6 (fun K hK=>?_)
  go_simp
  have hSn:=(⟨HB3.out.keep (fun o=>World.cell?_of_block (a:=⟨w.heap.size,o,none⟩) (heap_alloc_old V3 _ (by show w.heap.size<V3.heap.size;omega))),(World.cell?_of_block (a:=⟨db,3,none⟩) (heap_alloc_old V3 _ HS3.out.ls)).trans HS3.out.c3⟩:PBZ w.heap.size (pa,pb,tt) (V3.drew.alloc (.cells #[.int .i64 pa,.int .i64 pb,.bool tt] 53))∧(V3.drew.alloc (.cells #[.int .i64 pa,.int .i64 pb,.bool tt] 53)).cell? ⟨db,3,none⟩=some (Value.slice ua ps.length uc))
  refine hK.out _ _ hSn ?_;clear hS hK K hSn;intro hS;refine onU 7 (fun K hK=>?_)
  refine step_append_rows _ rfl (.tmp 33) (.tmp 35) 47 rfl w0.heap.size w0.heap.size 53 i1 _ 3 24 Tryz.underlying47 hj hy0 hy1 hy2 rfl (by decide) _ _ _ rfl HOA.out _ _ _ rfl HLR.out (pCZ_one (pa,pb,tt)) (by unfold maxLen;omega) (by omega) hw04 ?_
  intro v7 w7 hO7 hg7 hat7;have hSn:=(HG.out _ hg7).1;refine hK.out _ _ hSn ?_;clear hS hK K hSn;intro hS;simp only [Act.put,sA,sB,sC];have pc7:=(HG.out _ hg7).2.1;have pf7:=(HG.out _ hg7).2.2;have HP7:=hideK (HP.out w7 v7 hg7 hO7 hat7);obtain ⟨va,vc,rfl⟩:=sliceH_own hO7;clear hO7 hg7 hat7;refine onU 8 (fun K hK=>?_)
  go_simp
  have hSn:=hS;refine hK.out _ _ hSn ?_;clear hS hK K hSn;intro hS;refine onU 9 (fun K hK=>?_)
  go_simp
  have hSn:=hS;refine hK.out _ _ hSn ?_;clear hS hK K hSn;intro hS;refine upto_last (by rw [List.getElem?_toArray];rfl) (by kernel_rfl) (fun K hK=>?_)
  go_simp
  refine hK.out _ _ ?_;clear hS hK K;refine upto_done (by kernel_rfl) ?_ _
  go_wp2_with fail
  go_ret
  exact ⟨by rw [HIX.out];rfl,_,by rw [HAD.out];exact HP7.out.1,HR3.out.trans (HP7.out.2.1.drewLB) (.inl rfl),HP7.out.2.2.imp id fun f j hj=>Nat.le_trans HR3.out.size (f j hj)⟩
end Go.Proofs.YtnedgkcejlhnbaaGreatDoor
