/-
  The contract of (*below.drafting).giveUp.
-/
import Derived.Test.YtnedgkcejlhnbaaGreatDoorSz
import Derived.Test.YtnedgkcejlhnbaaGreatDoorZr
set_option maxRecDepth 100000
set_option maxHeartbeats 8000000
namespace Go.Proofs.YtnedgkcejlhnbaaGreatDoor
open Go.RowKit Go.Shelf
def nlJ(T:List (List Nat))(k j y:Nat):List Nat:=nbL T y k++List.replicate (((T.getD k []).take j).count y) k
theorem nlJ_zero(T:List (List Nat))(k:Nat):nlJ T k 0=fun y=>nbL T y k:=by funext y;simp [nlJ]
theorem nlJ_end(T:List (List Nat))(k:Nat){n:Nat}(h:(T.getD k []).length=n):nlJ T k n=fun y=>nbL T y (k+1):=by funext y;unfold nlJ;rw [List.take_of_length_le (by omega)];rfl
theorem nlJ_step(T:List (List Nat))(k j x:Nat)(h:(T.getD k [])[j]? = some x):nlJ T k (j+1)=upN (nlJ T k j) x (nlJ T k j x++[k]):=by
 obtain ⟨hj,e⟩:=List.getElem?_eq_some_iff.1 h;funext y
 unfold upN nlJ;rw [take_one hj,e,List.count_append];by_cases hy:y=x
 ·subst hy
  rw [if_pos rfl,List.append_assoc];have:[y].count y=1:=by simp
  rw [this,List.replicate_succ']
 ·rw [if_neg hy]
  have:[x].count y=0:=by rw [List.count_eq_zero];simpa using hy
  rw [this,Nat.add_zero]
theorem nb_len{T:List (List Nat)}(h6:∀k,(T.getD k []).length≤6)(x:Nat):∀m,(nbL T x m).length≤6*m
 | 0=>by simp [nbL]
 | m+1=>by
  rw [nbL,List.length_append,List.length_replicate];have:=nb_len h6 x m;have h1:=List.count_le_length (a:=x) (l:=T.getD m []);have h2:=h6 m;omega
theorem nlJ_len{T:List (List Nat)}(h6:∀k,(T.getD k []).length≤6)(k j x:Nat):(nlJ T k j x).length≤6*k+6:=by
 unfold nlJ;rw [List.length_append,List.length_replicate];have:=nb_len h6 x k;have h1:=List.count_le_length (a:=x) (l:=(T.getD k []).take j);have h2:=h6 k;rw [List.length_take]at h1;omega
theorem gn0_len(s0:List Int)(m:Nat):(gn0 s0 m).length≤m:=by
 have:=List.length_filter_le (fun k=>decide (s0.getD k 0<0)) (List.range m)
 rw [List.length_range]at this;exact this
theorem heap_size_lit(W:World)(c:Array Value)(t:TypeId):(W.drew.alloc (.cells c t)).heap.size=W.heap.size+1:=by simp
theorem full_nil(T:List (List Nat)):fullL T [] []:=fun k _=>by
 have h:∀l:List Nat,l.countP (inD [])=0:=fun l=>by rw [List.countP_eq_zero];intro a _;simp [inD]
 rw [h];rfl
def tsT(ts:List Dk):List (List Nat):=ts.map (·.nd.to)
def tsS(ts:List Dk):List Int:=ts.map (·.sp)
theorem tsT_at{ts:List Dk}{k:Nat}(h:k<ts.length):(tsT ts).getD k []=ts[k].nd.to:=getD_mapL _ _ _ h
theorem tsS_at{ts:List Dk}{k:Nat}(h:k<ts.length):(tsS ts).getD k 0=ts[k].sp:=getD_map _ _ _ h
def GUPost(w:World)(db gd cap:Nat)(ts:List Dk)(e:Ending)(w':World):Prop:=e = .returned (.tuple #[])∧∃sp nb nl gv gone,GE (tsT ts) (tsS ts) sp∧GS w db gd cap ts sp nb nl gv gone w'
theorem giveUp_any(db gd cap:Nat)(ts:List Dk)(w:World)(hG:GS w db gd cap ts (tsS ts) (fun _=>.slice none 0 0) (fun _=>[]) (.slice none 0 0) [] w)(hN:ts.length≤1000000)(h6:∀q∈ts,q.nd.to.length≤6)(hlt:∀q∈ts,∀x∈q.nd.to,x<ts.length)(hto:∀q∈ts,NQ w (fun b=>b<w.heap.size∧b≠gd) q.nd.to q.at1)(hsp:∀q∈ts,-1≤q.sp∧q.sp≤6):
  Calls Tryz.prog 15 #[.pointer (some ⟨db,0,none⟩)] w (GUPost w db gd cap ts):=by
 obtain ⟨i1,hj,hy0,hy1,hy2⟩:=info_parts infoInZ;have T6:∀k,((tsT ts).getD k []).length≤6:=fun k=>by
  by_cases hk:k<ts.length
  ·rw [tsT_at hk];exact h6 _ (List.getElem_mem hk)
  ·rw [List.getD_eq_getElem?_getD,List.getElem?_eq_none (by unfold tsT;simpa using hk)];simp
 have Tlen:(tsT ts).length=ts.length:=by unfold tsT;simp
 have Slen:(tsS ts).length=(tsT ts).length:=by unfold tsS tsT;simp
 have hc4:=hG.c4;have HG0:=hideK hG;have hgl0:=hG.gl;have hdl0:=hG.dl;have hnz:(ts.length:Int)≤1000000:=by omega
 have HT6:=hideK T6;have HH6:=hideK h6;have HLT:=hideK hlt;have HTO:=hideK hto;have HSP:=hideK hsp;have HTL:=hideK Tlen;have HSL:=hideK Slen;clear hG T6 h6 hlt hto hsp Tlen Slen;go_enter Tryz.func15,Tryz.ntmps15
 go_wp2_with fail
 go_loopw [2,16] (fun g i wr=>∃(k:Nat) (nb:Nat→Value),k≤ts.length∧i = .int .i64 (k:Int)∧GS w db gd cap ts (tsS ts) nb (fun y=>nbL (tsT ts) y k) g (gn0 (tsS ts) k) wr) (fun _ i _=>ts.length - (intOf i).toNat)
 case atStart=>exact ⟨0,fun _=>.slice none 0 0,Nat.zero_le _,rfl,HG0.out⟩
 case round =>
  obtain ⟨k,nb,hk,rfl,hG⟩:=hrel;by_cases hlt:k<ts.length
  ·have hltz:(k:Int)<(ts.length:Int):=by omega
   have hkz:(k:Int)≤1000000:=by omega
   have t0:=hG.row k hlt 0 _ (by omega) rfl
   have t1:=hG.row k hlt 1 _ (by omega) rfl
   have t2:=hG.row k hlt 2 _ (by omega) rfl
   have t3:=hG.row k hlt 3 _ (by omega) rfl
   have t4:=hG.r4 k hlt;have t5:=hG.r5 k hlt;rw [tsS_at hlt]at t4;obtain ⟨nka,nkc,hnk⟩:=sliceH_own (hG.no k hlt);rw [hnk]at t5;have hto:=HTO.out _ (List.getElem_mem hlt);have hq6:=HH6.out _ (List.getElem_mem hlt);have hqlt:=HLT.out _ (List.getElem_mem hlt);have hqs:=HSP.out _ (List.getElem_mem hlt);have hTk:=tsT_at hlt;have hSk:=tsS_at hlt;have hgs:=gn0_succ (tsS ts) k;rw [hSk]at hgs;have hgl:=gn0_len (tsS ts) k;have HG1:=hideK hG;generalize hq:ts[k]=q at *;obtain ⟨n,al,cl,at1,ct,sp,nbq⟩:=q;simp only at t4 hto hq6 hqlt hqs hTk hgs;have HTK:=hideK hTk;have HGS:=hideK hgs;have HTQ:=hideK hto;have HQL:=hideK hqlt;clear hSk hgs hG hTk hto hqlt hq hnk;generalize (nbL (tsT ts) k k).length=nkl at *;simp only [Nat.add_zero]at t0;go_wp2_with fail
   have hbB:Below wr.heap.size wr (wr.alloc (.cells #[.int .i64 n.kind,.int .i64 n.so,.slice al n.labs.length cl,.slice at1 n.to.length ct,.int .i64 sp,.slice nka nkl nkc] 58)):=(Below.refl _ _).alloc (Nat.le_refl _) _;have HG2:=hideK (HG1.out.kept hbB);have hc4b:(wr.alloc (.cells #[.int .i64 n.kind,.int .i64 n.so,.slice al n.labs.length cl,.slice at1 n.to.length ct,.int .i64 sp,.slice nka nkl nkc] 58)).cell? ⟨wr.heap.size,4,none⟩=some (.int .i64 sp):=by go_cell
   have HB0:=hideK (show wr.heap.size<(wr.alloc (.cells #[.int .i64 n.kind,.int .i64 n.so,.slice al n.labs.length cl,.slice at1 n.to.length ct,.int .i64 sp,.slice nka nkl nkc] 58)).heap.size from by simp)
   have HNB:=hideK (show (∀y,y<ts.length→(nb y).ownBlock≠some wr.heap.size)∧u2.ownBlock≠some wr.heap.size from ⟨fun y hy e=>by have:=((HG1.out.no y hy).lt _ e).2;omega,fun e=>by have:=(HG1.out.gow.lt _ e).2;omega⟩)
   have HC4B:=hideK hc4b;clear hbB hc4b t0 t1 t2 t3 t4 t5;generalize hwb:(wr.alloc (.cells #[.int .i64 n.kind,.int .i64 n.so,.slice al n.labs.length cl,.slice at1 n.to.length ct,.int .i64 sp,.slice nka nkl nkc] 58))=W0 at *;generalize hH:wr.heap.size=H at *;have hwH:w.heap.size≤H:=by have:=HG1.out.sz;omega
   go_loopw [25] (fun i wr=>∃(j:Nat) (nb:Nat→Value),j≤n.to.length∧i = .int .i64 (j:Int)∧GS w db gd cap ts (tsS ts) nb (nlJ (tsT ts) k j) u2 (gn0 (tsS ts) k) wr∧wr.cell? ⟨H,4,none⟩=some (.int .i64 sp)∧H<wr.heap.size∧∀y,y<ts.length→(nb y).ownBlock≠some H) (fun i _=>n.to.length - (intOf i).toNat)
   case atStart=>exact ⟨0,nb,Nat.zero_le _,rfl,by rw [nlJ_zero];exact HG2.out,HC4B.out,HB0.out,HNB.out.1⟩
   case round =>
    obtain ⟨j,nb,hjn,rfl,hG,hc4b,hHl,hnb⟩:=hrel;have hsr:=hG.sz;have hdl:db<wr.heap.size:=by omega
    have hglv:gd<wr.heap.size:=by omega
    by_cases hjl:j<n.to.length
    ·have hjz:(j:Int)<(n.to.length:Int):=by omega
     have hj6:(j:Int)≤6:=by omega
     obtain ⟨tb,to',rfl,⟨hp1,hp2⟩,hc⟩:=HTQ.out.resolve_left (fun q=>by rw [q]at hjl;simp at hjl)
     have y0:=(World.cell?_of_block (a:=⟨tb,to'+j,none⟩) (hG.fr tb hp1 hp2)).trans (hc j hjl);have hxl:=HQL.out _ (List.getElem_mem hjl);have HST:=hideK (nlJ_step (tsT ts) k j n.to[j] (by rw [HTK.out];exact List.getElem?_eq_getElem hjl))
     have hnl:=nlJ_len HT6.out k j n.to[j];generalize n.to[j]=x at *;have hxz:(x:Int)<(ts.length:Int):=by omega
     obtain ⟨na,nc,hnx⟩:=sliceH_own (hG.no x hxl);have h5:=hG.r5 x hxl;rw [hnx]at h5;have HNO:=hideK (show wr.ownsRow w.heap.size 3 1 (.slice na (nlJ (tsT ts) k j x).length nc) (nlJ (tsT ts) k j x).length (iC (nlJ (tsT ts) k j x)) from by rw [← hnx];exact hG.no x hxl)
     have hlow:∀b,b<w.heap.size→some b≠(nb x).ownBlock:=fun b hb e=>by have:=((hG.no x hxl).lt b e.symm).1;omega
     have HS7:=hideK (fun (w7:World) (hg:(wr.drew.alloc (.cells #[.int .i64 (k:Int)] 3)).grownBy w7 (nb x).ownBlock)=>show w7.cell? ⟨db,4,none⟩=some (.slice (some ⟨gd,0,none⟩) ts.length cap)∧w7.cell? ⟨gd,x*6+5,none⟩=some (.slice na (nlJ (tsT ts) k j x).length nc) from by
      have k1:=(hg.block db (by simp;omega) (hlow db hdl0)).trans (heap_alloc_old wr.drew (.cells #[.int .i64 (k:Int)] 3) hdl)
      have k2:=(hg.block gd (by simp;omega) (hlow gd hgl0)).trans (heap_alloc_old wr.drew (.cells #[.int .i64 (k:Int)] 3) hglv)
      exact ⟨(World.cell?_of_block (a:=⟨db,4,none⟩) k1).trans hG.c4,(World.cell?_of_block (a:=⟨gd,x*6+5,none⟩) k2).trans h5⟩)
     have HF7:=hideK (fun (w7:World) (hg:(wr.drew.alloc (.cells #[.int .i64 (k:Int)] 3)).grownBy w7 (nb x).ownBlock)=>show w7.frozen? ⟨gd,x*6+5,none⟩=false from (World.frozen?_of_block (a:=⟨gd,x*6+5,none⟩) ((hg.block gd (by simp;omega) (hlow gd hgl0)).trans (heap_alloc_old wr.drew (.cells #[.int .i64 (k:Int)] 3) hglv))).trans (hG.fz _))
     have HBX:=hideK (fun (w7:World) (v7:Value) (hg:(wr.drew.alloc (.cells #[.int .i64 (k:Int)] 3)).grownBy w7 (nb x).ownBlock) (hat:v7.ownBlock=(nb x).ownBlock∨v7.ownBlock=some (wr.drew.alloc (.cells #[.int .i64 (k:Int)] 3)).heap.size)=>show (w7.setCell ⟨gd,x*6+5,none⟩ v7).cell? ⟨H,4,none⟩=some (.int .i64 sp)∧H<(w7.setCell ⟨gd,x*6+5,none⟩ v7).heap.size∧∀y,y<ts.length→(upN nb x v7 y).ownBlock≠some H from by
      have k1:=(hg.block H (by simp;omega) (fun e=>hnb x hxl e.symm)).trans (heap_alloc_old wr.drew (.cells #[.int .i64 (k:Int)] 3) hHl)
      have hs7:=hg.size;have hs8:=((Below.refl gd w7).setCell (p:=⟨gd,x*6+5,none⟩) (Nat.le_refl _) v7).size;simp only [heap_size_lit]at hs7 hat;refine ⟨(World.cell?_setCell_other _ _ _ _ (by intro e;injection e with e;omega)).trans ((World.cell?_of_block (a:=⟨H,4,none⟩) k1).trans hc4b),by omega,fun y hy e=>?_⟩
      by_cases hyx:y=x
      ·subst hyx
       rw [upN_same]at e;rcases hat with q|q
       ·exact hnb y hy (q ▸ e)
       ·rw [q]at e;injection e with e;omega
      ·rw [upN_other _ _ hyx]at e
       exact hnb y hy e)
     have HG:=hideK hG;generalize hql:(nlJ (tsT ts) k j x).length=q at *;clear hG hc hlow hnb hc4b;go_wp2_with fail
     refine wp_region_upto (fun W:World=>W.cell? ⟨db,4,none⟩=some (.slice (some ⟨gd,0,none⟩) ts.length cap)∧W.cell? ⟨gd,x*6+5,none⟩=some (.slice na q nc)) 18 (by kernel_rfl) (⟨HG.out.c4,h5⟩) (fun hS=>?_)
     refine tkU 0 (.pointer (some ⟨db,0,none⟩)) hS ?_;simp only [Act.put,sA,sB,sC];refine tkU 1 (.pointer (some ⟨db,0,none⟩)) hS ?_;simp only [Act.put,sA,sB,sC];refine tkU 2 (.pointer (some ⟨db,4,none⟩)) hS ?_;simp only [Act.put,sA,sB,sC];refine tkU 3 (.slice (some ⟨gd,0,none⟩) ts.length cap) hS ?_ (hy:=Or.inl ⟨by rfl,fun W hW=>by have x0:=hW.1;go_simp⟩)
     simp only [Act.put,sA,sB,sC];refine tkU 4 (.int .i64 (x:Int)) hS ?_;simp only [Act.put,sA,sB,sC];refine tkU 5 (.pointer (some ⟨db,0,none⟩)) hS ?_;simp only [Act.put,sA,sB,sC];refine tkU 6 (.pointer (some ⟨db,0,none⟩)) hS ?_;simp only [Act.put,sA,sB,sC];refine tkU 7 (.pointer (some ⟨db,4,none⟩)) hS ?_;simp only [Act.put,sA,sB,sC];refine tkU 8 (.slice (some ⟨gd,0,none⟩) ts.length cap) hS ?_ (hy:=Or.inl ⟨by rfl,fun W hW=>by have x0:=hW.1;go_simp⟩)
     simp only [Act.put,sA,sB,sC];refine tkU 9 (.int .i64 (x:Int)) hS ?_;simp only [Act.put,sA,sB,sC];refine tkU 10 (.pointer (some ⟨gd,x*6,none⟩)) hS ?_;simp only [Act.put,sA,sB,sC];refine tkU 11 (.pointer (some ⟨gd,x*6+5,none⟩)) hS ?_;simp only [Act.put,sA,sB,sC];refine tkU 12 (.slice na q nc) hS ?_ (hy:=Or.inl ⟨by rfl,fun W hW=>by have x0:=hW.2;go_simp⟩)
     simp only [Act.put,sA,sB,sC];refine tkU 13 (.int .i64 (k:Int)) hS ?_;simp only [Act.put,sA,sB,sC];have hb6:Below wr.heap.size wr (wr.drew.alloc (.cells #[.int .i64 (k:Int)] 3)):=(Below.refl _ _).drew.alloc (Nat.le_refl _) _;have HG6:=hideK (HG.out.kept (Below.refl _ _).drew);refine onU 14 (fun K hK=>?_)
     go_simp
     have hSn:=(⟨(hb6.cell (p:=⟨db,4,none⟩) hdl).trans HG.out.c4,(hb6.cell (p:=⟨gd,x*6+5,none⟩) hglv).trans h5⟩:(wr.drew.alloc (.cells #[.int .i64 (k:Int)] 3)).cell? ⟨db,4,none⟩=some (.slice (some ⟨gd,0,none⟩) ts.length cap)∧(wr.drew.alloc (.cells #[.int .i64 (k:Int)] 3)).cell? ⟨gd,x*6+5,none⟩=some (.slice na q nc));refine hK.out _ _ hSn ?_;clear hS hK K hSn;intro hS;try simp only [Act.put,sA,sB,sC]
     have HO6:=hideK (own_belowG HNO.out hb6);have HL6:=hideK (World.ownsRow_lit (base:=w.heap.size) (e:=3) (size:=1) wr.drew #[.int .i64 (k:Int)] 1 hsr (by decide) rfl)
     refine onU 15 (fun K hK=>?_)
     refine step_append_rows _ rfl (.tmp 41) (.tmp 43) 54 rfl w.heap.size w.heap.size 3 i1 _ 1 8 Tryz.underlying54 hj hy0 hy1 hy2 rfl (by decide) _ _ _ rfl HO6.out _ _ _ rfl HL6.out (by simp [Value.oneCell']) (by unfold maxLen;omega) (by omega) (by simp;omega) ?_
     intro v7 w7 hO7 hg7 hat7;rw [← hnx]at hg7 hat7;have HG7:=hideK (HG6.out.addN (k:=k) hxl hg7 (by rw [hql];exact hO7) hat7)
     have hS7:=HS7.out w7 hg7;have hf7:=HF7.out w7 hg7;have HBX7:=hideK (HBX.out w7 v7 hg7 hat7);obtain ⟨va7,vc7,rfl⟩:=sliceH_own hO7;clear hO7 hg7 hat7 hb6;have hSn:=hS7;refine hK.out _ _ hSn ?_;clear hS hK K hSn;intro hS;try simp only [Act.put,sA,sB,sC]
     refine onU 16 (fun K hK=>?_)
     go_simp
     have hSn:=hS;refine hK.out _ _ hSn ?_;clear hS hK K hSn;intro hS;try simp only [Act.put,sA,sB,sC]
     refine onU 17 (fun K hK=>?_)
     go_simp
     have hSn:=hS;refine hK.out _ _ hSn ?_;clear hS hK K hSn;intro hS;try simp only [Act.put,sA,sB,sC]
     have x7:=hS.2;refine upto_last (by rw [List.getElem?_toArray];rfl) (by kernel_rfl) (fun K hK=>?_)
     go_simp
     refine hK.out _ _ ?_;clear hS hK K;refine upto_done (by kernel_rfl) ?_ _
     go_wp2_with fail
     go_roundw
     case rel =>
      obtain ⟨e1,e2,e3⟩:=HBX7.out;refine ⟨j+1,upN nb x (.slice va7 (q+1) vc7),by omega,by go_num,?_,e1,e2,e3⟩
      rw [HST.out];exact HG7.out
     case measure=>simp [intOf];omega
    ·have hjz:¬(j:Int)<(n.to.length:Int):=by omega
     have hjj:j=n.to.length:=by omega
     subst hjj;have hGe:GS w db gd cap ts (tsS ts) nb (fun y=>nbL (tsT ts) y (k+1)) u2 (gn0 (tsS ts) k) wr:=by rw [← nlJ_end (tsT ts) k (by rw [HTK.out])];exact hG
     have HGE:=hideK hGe;clear hG hGe;by_cases hs:sp<0
     ·rw [if_pos hs]at HGS
      have OA:=hideK (own_belowG HGE.out.gow ((Below.refl _ _).alloc (Nat.le_refl _) (.cells #[.int .i64 (k:Int)] 3)));have LR:=hideK (World.ownsRow_lit (base:=w.heap.size) (e:=3) (size:=1) wr #[.int .i64 (k:Int)] 1 hsr (by decide) rfl)
      go_wp2_with (at_builtin;refine wpList_append_rows _ rfl (.tmp 51) (.tmp 53) 54 rfl w.heap.size w.heap.size 3 i1 (.int .i64 0) 1 8 Tryz.underlying54 hj hy0 hy1 hy2 rfl (by decide) _ _ _ rfl OA.out _ _ _ rfl LR.out (by simp [Value.oneCell']) (by unfold maxLen;omega) (by omega) (by simp;omega) ?_;intro v7 w7 hO7 hg7 hat7)
      go_roundw
      case rel=>exact ⟨k+1,nb,by omega,by go_num,by rw [HGS.out];exact HGE.out.addG hg7 hO7 hat7⟩
      case measure=>simp [intOf];omega
     ·rw [if_neg hs,List.append_nil]at HGS
      go_wp2_with fail
      go_roundw
      case rel=>exact ⟨k+1,nb,by omega,by go_num,by rw [HGS.out];exact HGE.out⟩
      case measure=>simp [intOf];omega
  ·have hltz:¬(k:Int)<(ts.length:Int):=by omega
   have hkk:k=ts.length:=by omega
   subst hkk;have HGX:=hideK hG;have hV0:=GV.start (tsT ts) (tsS ts) HSL.out;rw [HTL.out]at hV0;have HV0:=hideK hV0;clear hG hV0;go_wp2_with fail
   go_loopg [2] ts.length (fun m g wr=>∃(sp:List Int) (gone done L:List Nat) (nb:Nat→Value),m+done.length=ts.length∧(∀x∈done,x<ts.length)∧GV (tsT ts) (tsS ts) sp gone done L∧fullL (tsT ts) done L∧GS w db gd cap ts sp nb (fun y=>nbL (tsT ts) y ts.length) g gone wr)
   case atStart=>exact ⟨_,_,[],[],nb,by simp,fun x hx=>(by cases hx),HV0.out,full_nil _,HGX.out⟩
   case round =>
    obtain ⟨sp,gone,done,L,nb,hm,hdl,hV,hF,hG⟩:=hrel;clear HGX HV0;by_cases h0:gone=[]
    ·subst h0
     obtain ⟨ga,gc,hgv⟩:=sliceH_own hG.gow;rw [List.length_nil]at hgv;have HE:=hideK (hV.end hF (fun k hk x hx=>by rw [HTL.out]at hk ⊢;rw [tsT_at hk]at hx;exact HLT.out _ (List.getElem_mem hk) x hx))
     have HG:=hideK hG;clear hV hF hG;subst hgv;go_wp2_with fail
     go_end0
     exact ⟨rfl,sp,nb,_,_,[],HE.out,HG.out⟩
    ·obtain ⟨gone,x,rfl⟩:∃g x,gone=g++[x]:=⟨gone.dropLast,gone.getLast h0,(List.dropLast_concat_getLast h0).symm⟩
     obtain ⟨hV1,hxl,hxd⟩:=hV.pop;rw [HTL.out]at hxl;obtain ⟨ga,gc,hgv⟩:=sliceH_own hG.gow;subst hgv;obtain ⟨⟨gg,rfl⟩,hG1⟩:=hG.cut;have hxz:(x:Int)<(ts.length:Int):=by omega
     have hsr:=hG.sz;have hdlw:db<wr.heap.size:=by omega
     have hglw:gd<wr.heap.size:=by omega
     have y0:wr.cell? ⟨gg,gone.length,none⟩=some (.int .i64 (x:Int)):=by
      rcases own_cells hG.gow with ⟨h,_⟩|⟨g',cap',e,_,_,hc⟩
      ·cases h
      ·injection e with e1 e2 e3
       injection e1 with e1
       injection e1 with e1
       subst e1;exact hc _ _ (by unfold iC;rw [List.map_append,List.getElem?_append_right (by simp)];simp)
     have hcap:gone.length≤gc∧gc≤9223372036854775807:=by
      rcases hG1.gow.2 with ⟨h,_⟩|⟨g',cap',cur,e,_,_,h1,h2,_⟩
      ·cases h
      ·injection e with e1 e2 e3
       subst e3;exact ⟨h1,h2⟩
     have hgn:(gone++[x]).length=gone.length+1:=by simp
     have hgN:gone.length≤1000000:=by
      have:=nodup_le ts.length gone (List.nodup_append.1 hV1.nd).1 (fun y hy=>by have:=hV1.gl y hy;rw [HTL.out]at this;exact this)
      omega
     have HDL:=hideK (show ∀y∈x::done,y<ts.length from fun y hy=>(List.mem_cons.1 hy).elim (fun e=>by rw [e];exact hxl) (hdl y))
     have hdn:done.length+1≤ts.length:=nodup_le ts.length (x::done) (List.nodup_append.1 hV1.nd).2.1 HDL.out;have hno:wr.ownsRow w.heap.size 3 1 (nb x) (nbL (tsT ts) x ts.length).length (iC (nbL (tsT ts) x ts.length)):=hG.no x hxl;obtain ⟨na,nc,hnx⟩:=sliceH_own hno;have h5:=hG.r5 x hxl;rw [hnx]at h5;rw [hnx]at hno;have hc4w:=hG.c4;have HNR:=hideK hno;have HNX:=hideK hnx;have HV1:=hideK hV1;have HF:=hideK hF;have HG1:=hideK hG1;have HXD:=hideK hxd;have HNL:=hideK (nb_len HT6.out x ts.length);have HFT:=hideK (fun j hj=>full_take (L:=L) hF hxd (j:=j) hj)
     have HFN:=hideK (full_next hF hxd);rw [HTL.out]at HFT HFN;generalize hq:(gone++[x]).length=q at *;have hq0:(0:Int)<(q:Int):=by omega
     have hq1:IntKind.i64.wrap ((q:Int) - 1)=(gone.length:Int):=by rw [show (q:Int) - 1=(gone.length:Int) by omega];exact wr_small (by omega) (by omega)
     have hq2:(gone.length:Int)<(q:Int):=by omega
     have hq3:(gone.length:Int)≤(gc:Int):=by omega
     have hq4:(q:Int) - 1=(gone.length:Int):=by omega
     generalize hnb:nbL (tsT ts) x ts.length=nbx at *;have HS0:=hideK (And.intro hc4w (And.intro y0 h5));clear hV hV1 hF hG hG1 hxd hdl hnx hq h0 hno y0 h5 hc4w hgn hq4;go_wp2_with fail
     refine wp_region_upto (fun W:World=>W.cell? ⟨db,4,none⟩=some (.slice (some ⟨gd,0,none⟩) ts.length cap)∧W.cell? ⟨gg,gone.length,none⟩=some (.int .i64 (x:Int))∧W.cell? ⟨gd,x*6+5,none⟩=some (.slice na nbx.length nc)) 11 (by kernel_rfl) (HS0.out) (fun hS=>?_)
     refine tkU 0 (.pointer (some ⟨db,0,none⟩)) hS ?_;simp only [Act.put,sA,sB,sC];refine tkU 1 (.pointer (some ⟨db,0,none⟩)) hS ?_;simp only [Act.put,sA,sB,sC];refine tkU 2 (.pointer (some ⟨db,4,none⟩)) hS ?_;simp only [Act.put,sA,sB,sC];refine tkU 3 (.slice (some ⟨gd,0,none⟩) ts.length cap) hS ?_ (hy:=Or.inl ⟨by rfl,fun W hW=>by have x0:=hW.1;go_simp⟩)
     simp only [Act.put,sA,sB,sC];refine tkU 4 (.slice (some ⟨gg,0,none⟩) q gc) hS ?_;simp only [Act.put,sA,sB,sC];refine tkU 5 (.int .i64 (gone.length:Int)) hS ?_;simp only [Act.put,sA,sB,sC];refine tkU 6 (.pointer (some ⟨gg,gone.length,none⟩)) hS ?_;simp only [Act.put,sA,sB,sC];refine tkU 7 (.int .i64 (x:Int)) hS ?_ (hy:=Or.inl ⟨by rfl,fun W hW=>by have x0:=hW.2.1;go_simp⟩)
     simp only [Act.put,sA,sB,sC];refine tkU 8 (.pointer (some ⟨gd,x*6,none⟩)) hS ?_;simp only [Act.put,sA,sB,sC];refine tkU 9 (.pointer (some ⟨gd,x*6+5,none⟩)) hS ?_;simp only [Act.put,sA,sB,sC];refine tkU 10 (.slice na nbx.length nc) hS ?_ (hy:=Or.inl ⟨by rfl,fun W hW=>by have x0:=hW.2.2;go_simp⟩)
     simp only [Act.put,sA,sB,sC];refine upto_last (by rw [List.getElem?_toArray];rfl) (by kernel_rfl) (fun K hK=>?_)
     go_simp
     refine hK.out _ _ ?_;clear hS hK K;refine upto_done (by kernel_rfl) ?_ _
     have HG2:=hideK (HG1.out.kept (Below.refl _ _).drew);generalize hwd:World.drew wr=W0 at *;go_wp2_with fail
     go_loopw [2,78] (fun g i wr=>∃(j:Nat) (sp:List Int) (gone2:List Nat),j≤nbx.length∧i = .int .i64 (j:Int)∧GV (tsT ts) (tsS ts) sp gone2 (x::done) (L++nbx.take j)∧GS w db gd cap ts sp nb (fun y=>nbL (tsT ts) y ts.length) g gone2 wr) (fun _ i _=>nbx.length - (intOf i).toNat)
     case atStart=>exact ⟨0,sp,gone,Nat.zero_le _,rfl,by rw [List.take_zero,List.append_nil];exact HV1.out,HG2.out⟩
     case round =>
      obtain ⟨j,sp,gone2,hjn,rfl,hV,hG⟩:=hrel;have hsr:=hG.sz;by_cases hjl:j<nbx.length
      ·have hjz:(j:Int)<(nbx.length:Int):=by omega
       have hjb:(j:Int)≤6000000:=by have:=HNL.out;omega
       have hno:wr.ownsRow w.heap.size 3 1 (nb x) nbx.length (iC nbx):=by have:=hG.no x hxl;rw [hnb]at this;exact this
       rw [HNX.out]at hno;obtain ⟨nbk,rfl,y0⟩:∃nbk,na=some ⟨nbk,0,none⟩∧wr.cell? ⟨nbk,j,none⟩=some (.int .i64 (nbx[j]:Int)):=by
        rcases own_cells hno with ⟨h,h',_⟩|⟨g',cap',e,_,_,hc⟩
        ·omega
        ·injection e with e1 e2 e3
         exact ⟨g',e1,hc _ _ (by unfold iC;rw [List.getElem?_map,List.getElem?_eq_getElem hjl];rfl)⟩
       obtain ⟨hkl,hcn⟩:=HFT.out j hjl;have HTK:=hideK (show L++nbx.take (j+1)=L++nbx.take j++[nbx[j]] from by rw [take_one hjl,List.append_assoc])
       generalize nbx[j]=kk at *;have hstep:=hV.step (k:=kk) (by rw [HTL.out];exact hkl) hcn
       have hz1:=hV.sp_ kk (by rw [HTL.out];exact hkl)
       have hz2:=hV.cn kk (by rw [HTL.out];exact hkl)
       have hz3:=List.countP_le_length (p:=inD (x::done)) (l:=(tsT ts).getD kk []);have hz4:=HT6.out kk;have hz5:=HSP.out _ (List.getElem_mem hkl);rw [← tsS_at hkl]at hz5;have c4:=hG.c4;have r4:=hG.r4 kk hkl;have f4:=hG.fz (kk*6+4);have hsl:sp.length=ts.length:=by rw [hV.len];exact HTL.out
       have hkz:(kk:Int)<(ts.length:Int):=by omega
       have hne1:gd≠db:=fun e=>hG.dn e.symm
       have hne2:db≠gd:=hG.dn;have c4s:∀v,(wr.setCell ⟨gd,kk*6+4,none⟩ v).cell? ⟨db,4,none⟩=some (.slice (some ⟨gd,0,none⟩) ts.length cap):=fun v=>(World.cell?_setCell_other _ _ _ _ (by intro e;injection e with e;exact hne1 e)).trans c4
       have hg2:gone2.length≤1000000:=by
        have:=nodup_le ts.length gone2 (List.nodup_append.1 hV.nd).1 (fun y hy=>by have:=hV.gl y hy;rw [HTL.out]at this;exact this)
        omega
       have hwz:IntKind.i64.wrap (sp.getD kk 0 - 1)=sp.getD kk 0 - 1:=wr_small (by omega) (by omega)
       have HGS:=hideK (hG.setS hkl hsl (sp.getD kk 0 - 1));have HST:=hideK hstep;have hszs:(wr.setCell ⟨gd,kk*6+4,none⟩ (.int .i64 (sp.getD kk 0 - 1))).heap.size=wr.heap.size:=by simp
       clear hV hG hstep hz1 hz2 hz3 hz4 hz5 hno hcn;by_cases hz:sp.getD kk 0 - 1 = -1
       ·rw [if_pos hz]at HST
        rw [hz]at HGS HST hszs;have hz0:sp.getD kk 0=0:=by omega
        rw [hz0]at r4;clear hz hz0 hwz;have hwz:IntKind.i64.wrap (0 - 1) = -1:=by rw [show (0:Int) - 1 = -1 by decide];exact wr_small (by decide) (by decide)
        have OA:=hideK (own_belowG HGS.out.gow ((Below.refl _ _).alloc (Nat.le_refl _) (.cells #[.int .i64 (kk:Int)] 3)));have LR:=hideK (show ((wr.setCell ⟨gd,kk*6+4,none⟩ (.int .i64 (-1))).alloc (.cells #[.int .i64 (kk:Int)] 3)).ownsRow w.heap.size 3 1 (.slice (some ⟨wr.heap.size,0,none⟩) 1 1) 1 [.int .i64 (kk:Int)] from by
         have h:=World.ownsRow_lit (base:=w.heap.size) (e:=3) (size:=1) (wr.setCell ⟨gd,kk*6+4,none⟩ (.int .i64 (-1))) #[.int .i64 (kk:Int)] 1 (by rw [hszs];exact hsr) (by decide) rfl
         rw [hszs]at h;exact h)
        go_wp2_with (at_builtin;refine wpList_append_rows _ rfl (.tmp 102) (.tmp 104) 54 rfl w.heap.size w.heap.size 3 i1 (.int .i64 0) 1 8 Tryz.underlying54 hj hy0 hy1 hy2 rfl (by decide) _ _ _ rfl OA.out _ _ _ rfl LR.out (by simp [Value.oneCell']) (by unfold maxLen;omega) (by omega) (by simp;omega) ?_;intro v7 w7 hO7 hg7 hat7)
        go_roundw
        case rel=>exact ⟨j+1,_,gone2++[kk],by omega,by go_num,by rw [HTK.out];exact HST.out,HGS.out.addG hg7 hO7 hat7⟩
        case measure=>simp [intOf];omega
       ·rw [if_neg hz]at HST
        have hzb:(sp.getD kk 0 - 1 == -1)=false:=by rw [beq_eq_false_iff_ne];exact hz
        generalize hzz:sp.getD kk 0=z at *;clear hz hzz;go_wp2_with fail
        go_roundw
        case rel=>exact ⟨j+1,_,gone2,by omega,by go_num,by rw [HTK.out];exact HST.out,HGS.out⟩
        case measure=>simp [intOf];omega
      ·have hjz:¬(j:Int)<(nbx.length:Int):=by omega
       have hjj:j=nbx.length:=by omega
       subst hjj;rw [List.take_length]at hV;have HV2:=hideK hV;have HG3:=hideK hG;clear hV hG;go_wp2_with fail
       go_roundg (gk - 1)
       case measure=>omega
       case rel=>exact ⟨sp,gone2,x::done,L++nbx,nb,by simp;omega,HDL.out,HV2.out,HFN.out,HG3.out⟩
end Go.Proofs.YtnedgkcejlhnbaaGreatDoor
