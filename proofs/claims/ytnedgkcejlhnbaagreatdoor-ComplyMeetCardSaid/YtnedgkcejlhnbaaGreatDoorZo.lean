/-
  The contract of (*below.drafting).draftAt, where both nodes are there; draftAt of every place.
-/
import Derived.Test.YtnedgkcejlhnbaaGreatDoorSz
import Derived.Test.YtnedgkcejlhnbaaGreatDoorZn
set_option maxRecDepth 100000
set_option maxHeartbeats 8000000
namespace Go.Proofs.YtnedgkcejlhnbaaGreatDoor
open Go.RowKit Go.Shelf
theorem draftC_any(g h:List Nd)(ag ah:OAd)(cg ch B:Nat)(w0:World)(db mb:Nat)(ud:Value)(ps:List Pz)(u:Value)(p:Pz)(w:World)(hz:ZW w0 db mb (.slice ag g.length cg) (.slice ah h.length ch) ud ps u w)(hB:B≤w0.heap.size)(hga:GAt w0 B g ag)(hha:GAt w0 B h ah)(hg:GN g)(hh:GN h)(o:okZ g h p)
  (hb1:p.2.1≠-1) (ha1:p.1≠-1) (hps:∀i,PS (((drP g h p).nxt.take i).foldl addZ ps)) (hsm:∀q∈(drP g h p).nxt,smPz q) :
  Calls Tryz.prog 14 #[.pointer (some ⟨db,0,none⟩),pkZ p] w (DPost w0 db mb (.slice ag g.length cg) (.slice ah h.length ch) ud B (drP g h p) ps u w):=by
 obtain ⟨pa,pb,tt⟩:=p;simp only at hb1 ha1;have hA:Below w.heap.size w ((w.alloc (.cells #[.int .i64 pa,.int .i64 pb,.bool tt] 53)).alloc (.cells #[.int .i64 0,.int .i64 0,.slice none 0 0,.slice none 0 0,.int .i64 0,.slice none 0 0] 58)):=((Below.refl _ _).alloc (Nat.le_refl _) _).alloc (by simp) _
 have hsz:(((w.alloc (.cells #[.int .i64 pa,.int .i64 pb,.bool tt] 53)).alloc (.cells #[.int .i64 0,.int .i64 0,.slice none 0 0,.slice none 0 0,.int .i64 0,.slice none 0 0] 58))).heap.size=w.heap.size+2:=by simp
 have bA:PBZ w.heap.size (pa,pb,tt) ((w.alloc (.cells #[.int .i64 pa,.int .i64 pb,.bool tt] 53)).alloc (.cells #[.int .i64 0,.int .i64 0,.slice none 0 0,.slice none 0 0,.int .i64 0,.slice none 0 0] 58)):=⟨by go_cell,by go_cell,by go_cell⟩
 have q4:(∀j,j<6→(((w.alloc (.cells #[.int .i64 pa,.int .i64 pb,.bool tt] 53)).alloc (.cells #[.int .i64 0,.int .i64 0,.slice none 0 0,.slice none 0 0,.int .i64 0,.slice none 0 0] 58))).frozen? ⟨(w.heap.size+1),j,none⟩=false)∧∀j,j<6→∃v,(((w.alloc (.cells #[.int .i64 pa,.int .i64 pb,.bool tt] 53)).alloc (.cells #[.int .i64 0,.int .i64 0,.slice none 0 0,.slice none 0 0,.int .i64 0,.slice none 0 0] 58))).cell? ⟨(w.heap.size+1),j,none⟩=some v:=⟨fun j hj=>by go_simp,fun j hj=>by
  match j,hj with
  | 0,_=>exact ⟨.int .i64 0,by go_cell⟩
  | 1,_=>exact ⟨.int .i64 0,by go_cell⟩
  | 2,_=>exact ⟨.slice none 0 0,by go_cell⟩
  | 3,_=>exact ⟨.slice none 0 0,by go_cell⟩
  | 4,_=>exact ⟨.int .i64 0,by go_cell⟩
  | 5,_=>exact ⟨.slice none 0 0,by go_cell⟩⟩
 have HQ4:=hideK q4;have HZ:=hideK hz;have HA:=hideK hA;have HBA:=hideK bA;have HSA:=hideK (hz.kept hA);have hdb:=hz.ls;have hmb:=hz.mp.lt;have hw0:=hz.bl.size;have HUB:=hideK (fun j (hj:u.ownBlock=some j)=>(hz.own.lt j hj).2)
 have hik:0≤pa∧pa.toNat<g.length:=(o.1 false).resolve_left ha1;have hjk:0≤pb∧pb.toNat<h.length:=(o.1 true).resolve_left hb1;have edr:drP g h (pa,pb,tt)=drMN (nodeAt g pa.toNat) (nodeAt h pb.toNat) tt:=by unfold drP;rw [if_neg hb1,if_neg ha1]
 have om:=hg.at_ hik.2;have on:=hh.at_ hjk.2;obtain ⟨gb,go,rfl,hgB,hgc⟩:=hga.resolve_left (fun q=>by have:=hg.pos;rw [q]at this;simp at this)
 obtain ⟨fb,fo,rfl,hfB,hfc⟩:=hha.resolve_left (fun q=>by have:=hh.pos;rw [q]at this;simp at this)
 obtain ⟨a1,c1,a2,c2,hN,hL,hT⟩:=hgc pa.toNat hik.2;obtain ⟨a3,c3,a4,c4,hN3,hL3,hT4⟩:=hfc pb.toNat hjk.2;rw [← nodeAt_lt g _ hik.2]at hN hL hT;rw [← nodeAt_lt h _ hjk.2]at hN3 hL3 hT4;obtain ⟨i,hi⟩:∃i:Nat,pa=(i:Int):=⟨pa.toNat,by omega⟩
 subst hi;obtain ⟨k,hk⟩:∃k:Nat,pb=(k:Int):=⟨pb.toNat,by omega⟩
 subst hk;simp only [Int.toNat_natCast]at *;have hiz:(i:Int)<(g.length:Int):=by omega
 have hkz:(k:Int)<(h.length:Int):=by omega
 have hine:((i:Int) == -1)=false:=by rw [beq_eq_false_iff_ne];omega
 have hkne:((k:Int) == -1)=false:=by rw [beq_eq_false_iff_ne];omega
 obtain ⟨x0,x1,x2,x3⟩:=hN.keep (((hz.kept hA).bl).mono hB) hgB;obtain ⟨y0,y1,y2,y3⟩:=hN3.keep (((hz.kept hA).bl).mono hB) hfB;have d0:=(hz.kept hA).c0;have d1:=(hz.kept hA).c1;have HED:=hideK edr;generalize nodeAt g i=m at *;generalize nodeAt h k=n at *;have CE:=hideK (fun (hne:¬(m.kind≠n.kind∨m.so≠n.so)) (hw:wideB m.kind tt=true) (W:World) (hz:ZW w0 db mb (.slice (some ⟨gb,go,none⟩) g.length cg) (.slice (some ⟨fb,fo,none⟩) h.length ch) ud ps u W)=>show Calls Tryz.prog 33 #[.pointer (some ⟨db,0,none⟩),ndVal m a1 c1 a2 c2,ndVal n a3 c3 a4 c4,.bool tt] W (DPost w0 db mb (.slice (some ⟨gb,go,none⟩) g.length cg) (.slice (some ⟨fb,fo,none⟩) h.length ch) ud B (drP g h ((i:Int),(k:Int),tt)) ps u W) from by
  have e:drP g h ((i:Int),(k:Int),tt)=eithD m n tt:=by rw [edr];unfold drMN;rw [if_neg hne,if_pos hw]
  have hkk:m.kind=n.kind:=Decidable.byContradiction fun q=>hne (.inl q)
  rw [e]at hps hsm ⊢;exact either_any m n tt a1 a2 a3 a4 c1 c2 c3 c4 B w0 db mb _ _ ud ps u W hz hB hL hT hL3 hT4 om on (labs_pos om (wide_kind hw)) (labs_pos on (by rw [← hkk];exact wide_kind hw)) hps hsm)
 have CB:=hideK (fun (hne:¬(m.kind≠n.kind∨m.so≠n.so)) (hw:wideB m.kind tt=false) (W:World) (hz:ZW w0 db mb (.slice (some ⟨gb,go,none⟩) g.length cg) (.slice (some ⟨fb,fo,none⟩) h.length ch) ud ps u W)=>show Calls Tryz.prog 34 #[.pointer (some ⟨db,0,none⟩),ndVal m a1 c1 a2 c2,ndVal n a3 c3 a4 c4,.bool tt] W (DPost w0 db mb (.slice (some ⟨gb,go,none⟩) g.length cg) (.slice (some ⟨fb,fo,none⟩) h.length ch) ud B (drP g h ((i:Int),(k:Int),tt)) ps u W) from by
  have e:drP g h ((i:Int),(k:Int),tt)=bothD m n tt:=by rw [edr];unfold drMN;rw [if_neg hne,if_neg (by rw [hw];simp)]
  have hkk:m.kind=n.kind:=Decidable.byContradiction fun q=>hne (.inl q)
  rw [e]at hps hsm ⊢;by_cases h0:m.labs.length=0
  ·exact bothN_any m n tt a1 a2 a3 a4 c1 c2 c3 c4 B w0 db mb _ _ ud ps u W hz hB hL hT hL3 hT4 om on hkk h0 hps hsm
  ·exact bothL_any m n tt a1 a2 a3 a4 c1 c2 c3 c4 B w0 db mb _ _ ud ps u W hz hB hL hT hL3 hT4 om on hkk (by omega) hps hsm)
 have HDX:=hideK (fun (hne:m.kind≠n.kind∨m.so≠n.so)=>show drP g h ((i:Int),(k:Int),tt)=drX from by rw [edr];unfold drMN;rw [if_pos hne])
 simp only [ndVal]at CE CB;clear hA bA q4 hz hga hha hg hh o hps hsm hgc hfc hN hL hT hN3 hL3 hT4 edr hik hjk hb1 ha1 om on HED;generalize drP g h ((i:Int),(k:Int),tt)=d at *;generalize g.length=gl at *;generalize h.length=fl at *;simp only [pkZ]at ⊢;go_enter Tryz.func14,Tryz.ntmps14
 obtain ⟨b0,b1,b2⟩:=HBA.out;simp only at b0 b1 b2;go_wp2_with fail
 generalize ((w.alloc (.cells #[.int .i64 (i:Int),.int .i64 (k:Int),.bool tt] 53)).alloc (.cells #[.int .i64 0,.int .i64 0,.slice none 0 0,.slice none 0 0,.int .i64 0,.slice none 0 0] 58))=V at *;have l1:db<V.heap.size:=by omega
 have l2:fb<V.heap.size:=by omega
 have l3:gb<V.heap.size:=by omega
 have l4:w.heap.size<V.heap.size:=by omega
 go_cut [5,6] (fun s5 s6 wc=>∃b5 b6,s5 = .pointer (some ⟨b5,0,none⟩)∧s6 = .pointer (some ⟨b6,0,none⟩)∧(b5=w.heap.size+2∧b6=w.heap.size+2+1∨b5=w.heap.size+2+1∧b6=w.heap.size+2)∧N4 wc b5 m a1 c1 a2 c2∧N4 wc b6 n a3 c3 a4 c4∧Below V.heap.size V wc∧wc.heap.size=V.heap.size+2)
 case first =>
  clear CE CB HDX HZ HQ4 HUB;have hkr:∀(o1 o2:Obj) (b:Nat),b<w.heap.size+2→((V.drew.alloc o1).alloc o2).heap[b]? = V.heap[b]?:=fun o1 o2 b hb=>(heap_alloc_old (V.drew.alloc o1) o2 (by simp;omega)).trans (heap_alloc_old V.drew o1 (by show b<V.heap.size;omega))
  have hgbw:gb<w.heap.size:=by omega
  have hfbw:fb<w.heap.size:=by omega
  have HSK:=hideK (fun (W:World) (hb:∀b,b<w.heap.size+2→W.heap[b]? = V.heap[b]?)=>show (fun W:World=>PBZ w.heap.size ((i:Int),(k:Int),tt) W∧W.cell? ⟨db,0,none⟩=some (.slice (some ⟨gb,go,none⟩) gl cg)∧W.cell? ⟨db,1,none⟩=some (.slice (some ⟨fb,fo,none⟩) fl ch)∧NdAt W gb (go+i*4) m a1 c1 a2 c2∧NdAt W fb (fo+k*4) n a3 c3 a4 c4) W from ⟨HBA.out.keep fun o=>World.cell?_of_block (a:=⟨w.heap.size,o,none⟩) (hb w.heap.size (by omega)),(World.cell?_of_block (a:=⟨db,0,none⟩) (hb db (by omega))).trans d0,(World.cell?_of_block (a:=⟨db,1,none⟩) (hb db (by omega))).trans d1,⟨(World.cell?_of_block (a:=⟨gb,go+i*4,none⟩) (hb gb (by omega))).trans x0,(World.cell?_of_block (a:=⟨gb,go+i*4+1,none⟩) (hb gb (by omega))).trans x1,(World.cell?_of_block (a:=⟨gb,go+i*4+2,none⟩) (hb gb (by omega))).trans x2,(World.cell?_of_block (a:=⟨gb,go+i*4+3,none⟩) (hb gb (by omega))).trans x3⟩,⟨(World.cell?_of_block (a:=⟨fb,fo+k*4,none⟩) (hb fb (by omega))).trans y0,(World.cell?_of_block (a:=⟨fb,fo+k*4+1,none⟩) (hb fb (by omega))).trans y1,(World.cell?_of_block (a:=⟨fb,fo+k*4+2,none⟩) (hb fb (by omega))).trans y2,(World.cell?_of_block (a:=⟨fb,fo+k*4+3,none⟩) (hb fb (by omega))).trans y3⟩⟩)
  clear b0 b1 b2 x0 x1 x2 x3 y0 y1 y2 y3 d0 d1 HBA HSA;refine wp_region_upto (fun W:World=>PBZ w.heap.size ((i:Int),(k:Int),tt) W∧W.cell? ⟨db,0,none⟩=some (.slice (some ⟨gb,go,none⟩) gl cg)∧W.cell? ⟨db,1,none⟩=some (.slice (some ⟨fb,fo,none⟩) fl ch)∧NdAt W gb (go+i*4) m a1 c1 a2 c2∧NdAt W fb (fo+k*4) n a3 c3 a4 c4) 19 (by kernel_rfl) (HSK.out V.drew (fun _ _=>rfl)) (fun hS=>?_)
  refine tkU 0 (.pointer (some ⟨db,0,none⟩)) hS ?_;simp only [Act.put,sA,sB,sC];refine tkU 1 (.pointer (some ⟨db,0,none⟩)) hS ?_;simp only [Act.put,sA,sB,sC];refine tkU 2 (.pointer (some ⟨db,0,none⟩)) hS ?_;simp only [Act.put,sA,sB,sC];refine tkU 3 (.slice (some ⟨gb,go,none⟩) gl cg) hS ?_ (hy:=Or.inl ⟨by rfl,fun W hW=>by have x0:=hW.2.1;go_simp⟩)
  simp only [Act.put,sA,sB,sC];refine tkU 4 (.pointer (some ⟨w.heap.size,0,none⟩)) hS ?_;simp only [Act.put,sA,sB,sC];refine tkU 5 (.int .i64 (i:Int)) hS ?_ (hy:=Or.inl ⟨by rfl,fun W hW=>by obtain ⟨⟨x0,x1,x2⟩,_⟩:=hW;go_simp⟩)
  simp only [Act.put,sA,sB,sC];refine tkU 6 (.pointer (some ⟨gb,go+i*4,none⟩)) hS ?_;simp only [Act.put,sA,sB,sC];refine tkU 7 (.agg #[.int .i64 m.kind,.int .i64 m.so,.slice a1 m.labs.length c1,.slice a2 m.to.length c2]) hS ?_ (hy:=Or.inl ⟨by rfl,fun W hW=>by obtain ⟨_,_,_,⟨x0,x1,x2,x3⟩,_⟩:=hW;go_simp⟩)
  simp only [Act.put,sA,sB,sC];refine tkU 8 (.pointer (some ⟨db,0,none⟩)) hS ?_;simp only [Act.put,sA,sB,sC];refine tkU 9 (.pointer (some ⟨db,0,none⟩)) hS ?_;simp only [Act.put,sA,sB,sC];refine tkU 10 (.pointer (some ⟨db,1,none⟩)) hS ?_;simp only [Act.put,sA,sB,sC];refine tkU 11 (.slice (some ⟨fb,fo,none⟩) fl ch) hS ?_ (hy:=Or.inl ⟨by rfl,fun W hW=>by have x0:=hW.2.2.1;go_simp⟩)
  simp only [Act.put,sA,sB,sC];refine tkU 12 (.pointer (some ⟨w.heap.size,1,none⟩)) hS ?_;simp only [Act.put,sA,sB,sC];refine tkU 13 (.int .i64 (k:Int)) hS ?_ (hy:=Or.inl ⟨by rfl,fun W hW=>by obtain ⟨⟨x0,x1,x2⟩,_⟩:=hW;go_simp⟩)
  simp only [Act.put,sA,sB,sC];refine tkU 14 (.pointer (some ⟨fb,fo+k*4,none⟩)) hS ?_;simp only [Act.put,sA,sB,sC];refine tkU 15 (.agg #[.int .i64 n.kind,.int .i64 n.so,.slice a3 n.labs.length c3,.slice a4 n.to.length c4]) hS ?_ (hy:=Or.inl ⟨by rfl,fun W hW=>by obtain ⟨_,_,_,_,⟨x0,x1,x2,x3⟩⟩:=hW;go_simp⟩)
  simp only [Act.put,sA,sB,sC];refine upto_two 16 17 (by rw [List.getElem?_toArray];rfl) (by rw [List.getElem?_toArray];rfl) (by kernel_rfl) (fun K hK=>?_) (fun K hK=>?_)
  ·go_simp
   have hSn:=HSK.out (V.drew.alloc (.cells #[.int .i64 0,.int .i64 0,.slice none 0 0,.slice none 0 0] 56)) (fun b hb=>heap_alloc_old V.drew _ (by show b<V.heap.size;omega))
   refine hK.out _ _ hSn ?_;clear hS hK K hSn;intro hS;try simp only [Act.put,sA,sB,sC]
   refine onU 17 (fun K hK=>?_)
   go_simp
   refine hK.out _ _ (HSK.out _ (fun b hb=>hkr _ _ b hb)) ?_
   clear hS hK K;intro hS;try simp only [Act.put,sA,sB,sC]
   refine onU 18 (fun K hK=>?_)
   go_simp
   refine hK.out _ _ (HSK.out _ (fun b hb=>hkr _ _ b hb)) ?_
   clear hS hK K;intro hS;try simp only [Act.put,sA,sB,sC]
   refine upto_last (by rw [List.getElem?_toArray];rfl) (by kernel_rfl) (fun K hK=>?_)
   go_simp
   refine hK.out _ _ ?_;clear hS hK K;refine upto_done (by kernel_rfl) ?_ _
   go_wp2_with fail
   go_meet
   refine ⟨_,_,rfl,rfl,.inl ⟨rfl,rfl⟩,⟨by go_cell,by go_cell,by go_cell,by go_cell⟩,⟨by go_cell,by go_cell,by go_cell,by go_cell⟩,((Below.refl _ _).drew.alloc (Nat.le_refl _) _).alloc (by simp) _,by simp⟩
  ·go_simp
   have hSn:=HSK.out (V.drew.alloc (.cells #[.int .i64 0,.int .i64 0,.slice none 0 0,.slice none 0 0] 56)) (fun b hb=>heap_alloc_old V.drew _ (by show b<V.heap.size;omega))
   refine hK.out _ _ hSn ?_;clear hS hK K hSn;intro hS;try simp only [Act.put,sA,sB,sC]
   refine onU 16 (fun K hK=>?_)
   go_simp
   refine hK.out _ _ (HSK.out _ (fun b hb=>hkr _ _ b hb)) ?_
   clear hS hK K;intro hS;try simp only [Act.put,sA,sB,sC]
   refine onU 18 (fun K hK=>?_)
   go_simp
   refine hK.out _ _ (HSK.out _ (fun b hb=>hkr _ _ b hb)) ?_
   clear hS hK K;intro hS;try simp only [Act.put,sA,sB,sC]
   refine upto_last (by rw [List.getElem?_toArray];rfl) (by kernel_rfl) (fun K hK=>?_)
   go_simp
   refine hK.out _ _ ?_;clear hS hK K;refine upto_done (by kernel_rfl) ?_ _
   go_wp2_with fail
   go_meet
   refine ⟨_,_,rfl,rfl,.inr ⟨rfl,rfl⟩,⟨by go_cell,by go_cell,by go_cell,by go_cell⟩,⟨by go_cell,by go_cell,by go_cell,by go_cell⟩,((Below.refl _ _).drew.alloc (Nat.le_refl _) _).alloc (by simp) _,by simp⟩
 case rest =>
  obtain ⟨b5,b6,rfl,rfl,hor,n5,n6,hbV,hsc⟩:=hcut;have hbc:Below w.heap.size w wc:=HA.out.trans (hbV.mono HA.out.size);have hzc:=HZ.out.kept hbc;have hrb:=hbV.block (w.heap.size+1) (by omega)
  have b2':=(hbV.cell (p:=⟨w.heap.size,2,none⟩) (by show w.heap.size<_;omega)).trans b2
  obtain ⟨m0,m1',m2,m3⟩:=n5;obtain ⟨p0,p1',p2,p3⟩:=n6;clear b0 b1 b2 x0 x1 x2 x3 y0 y1 y2 y3 d0 d1 HBA HSA l1 l2 l3 l4;have HZC:=hideK hzc;have HBC:=hideK hbc;have HRB:=hideK hrb;clear hzc hbc hrb hbV;by_cases hne:m.kind≠n.kind∨m.so≠n.so
  ·have ed:=HDX.out hne
   have HFN:=hideK (DPost.fin (d:=drX) (ps:=ps) (rb:=(w.heap.size+1)) (al:=none) (at1:=none) HBC.out (by omega) (by omega) hB hw0 hdb hmb HUB.out HZC.out (RF.of (Below.refl _ _)) (.inl rfl) (.inl rfl) (.inl rfl) (.int .i64 0) (.int .i64 0) (.slice none 0 0) (.slice none 0 0) (.int .i64 (-1)) (.slice none 0 0))
   have hex:(m.kind != n.kind)=true∨((m.kind != n.kind)=false∧(m.so != n.so)=true):=by
    by_cases hk:m.kind=n.kind
    ·exact .inr ⟨by rw [hk];simp,by simpa using hne.resolve_left (fun q=>q hk)⟩
    ·exact .inl (by simpa using hk)
   have HED:=hideK ed;clear CE CB HDX ed hne;have hkb:=HRB.out;obtain ⟨t0,x0⟩:=(HQ4.out.2 0 (by omega)).imp fun v hv=>(World.cell?_of_block (a:=⟨(w.heap.size+1),0,none⟩) hkb).trans hv
   obtain ⟨t1,x1⟩:=(HQ4.out.2 1 (by omega)).imp fun v hv=>(World.cell?_of_block (a:=⟨(w.heap.size+1),1,none⟩) hkb).trans hv
   obtain ⟨t2,x2⟩:=(HQ4.out.2 2 (by omega)).imp fun v hv=>(World.cell?_of_block (a:=⟨(w.heap.size+1),2,none⟩) hkb).trans hv
   obtain ⟨t3,x3⟩:=(HQ4.out.2 3 (by omega)).imp fun v hv=>(World.cell?_of_block (a:=⟨(w.heap.size+1),3,none⟩) hkb).trans hv
   obtain ⟨t4,x4⟩:=(HQ4.out.2 4 (by omega)).imp fun v hv=>(World.cell?_of_block (a:=⟨(w.heap.size+1),4,none⟩) hkb).trans hv
   obtain ⟨t5,x5⟩:=(HQ4.out.2 5 (by omega)).imp fun v hv=>(World.cell?_of_block (a:=⟨(w.heap.size+1),5,none⟩) hkb).trans hv
   have f0:=(World.frozen?_of_block (a:=⟨(w.heap.size+1),0,none⟩) hkb).trans (HQ4.out.1 0 (by omega))
   have f1:=(World.frozen?_of_block (a:=⟨(w.heap.size+1),1,none⟩) hkb).trans (HQ4.out.1 1 (by omega))
   have f2:=(World.frozen?_of_block (a:=⟨(w.heap.size+1),2,none⟩) hkb).trans (HQ4.out.1 2 (by omega))
   have f3:=(World.frozen?_of_block (a:=⟨(w.heap.size+1),3,none⟩) hkb).trans (HQ4.out.1 3 (by omega))
   have f4:=(World.frozen?_of_block (a:=⟨(w.heap.size+1),4,none⟩) hkb).trans (HQ4.out.1 4 (by omega))
   have f5:=(World.frozen?_of_block (a:=⟨(w.heap.size+1),5,none⟩) hkb).trans (HQ4.out.1 5 (by omega))
   clear hkb;rcases hex with e1|⟨e1,e2⟩
   ·go_wp2_with fail
    have r0:(sx6 wc (w.heap.size+1) (.int .i64 0) (.int .i64 0) (.slice none 0 0) (.slice none 0 0) (.int .i64 (-1)) (.slice none 0 0)).cell? ⟨(w.heap.size+1),0,none⟩=some (.int .i64 0):=by unfold sx6;go_cell
    have r1:(sx6 wc (w.heap.size+1) (.int .i64 0) (.int .i64 0) (.slice none 0 0) (.slice none 0 0) (.int .i64 (-1)) (.slice none 0 0)).cell? ⟨(w.heap.size+1),1,none⟩=some (.int .i64 0):=by unfold sx6;go_cell
    have r2:(sx6 wc (w.heap.size+1) (.int .i64 0) (.int .i64 0) (.slice none 0 0) (.slice none 0 0) (.int .i64 (-1)) (.slice none 0 0)).cell? ⟨(w.heap.size+1),2,none⟩=some (.slice none 0 0):=by unfold sx6;go_cell
    have r3:(sx6 wc (w.heap.size+1) (.int .i64 0) (.int .i64 0) (.slice none 0 0) (.slice none 0 0) (.int .i64 (-1)) (.slice none 0 0)).cell? ⟨(w.heap.size+1),3,none⟩=some (.slice none 0 0):=by unfold sx6;go_cell
    have r4:(sx6 wc (w.heap.size+1) (.int .i64 0) (.int .i64 0) (.slice none 0 0) (.slice none 0 0) (.int .i64 (-1)) (.slice none 0 0)).cell? ⟨(w.heap.size+1),4,none⟩=some (.int .i64 (-1)):=by unfold sx6;go_cell
    have r5:(sx6 wc (w.heap.size+1) (.int .i64 0) (.int .i64 0) (.slice none 0 0) (.slice none 0 0) (.int .i64 (-1)) (.slice none 0 0)).cell? ⟨(w.heap.size+1),5,none⟩=some (.slice none 0 0):=by unfold sx6;go_cell
    change bodyPost _ _ _ _ _ (sx6 wc (w.heap.size+1) (.int .i64 0) (.int .i64 0) (.slice none 0 0) (.slice none 0 0) (.int .i64 (-1)) (.slice none 0 0))
    refine bodyPost_ret (v:=.agg #[.int .i64 0,.int .i64 0,.slice none 0 0,.slice none 0 0,.int .i64 (-1),.slice none 0 0]) (by simp [results,Tryz.results14,go_sem,r0,r1,r2,r3,r4,r5]) rfl ?_
    exact ⟨u,none,0,none,0,by rw [HED.out];rfl,by rw [HED.out];exact HFN.out.1,HFN.out.2.1,.inl rfl,by rw [HED.out];exact HFN.out.2.2.2.1,by rw [HED.out];exact HFN.out.2.2.2.2⟩
   ·go_wp2_with fail
    have r0:(sx6 wc (w.heap.size+1) (.int .i64 0) (.int .i64 0) (.slice none 0 0) (.slice none 0 0) (.int .i64 (-1)) (.slice none 0 0)).cell? ⟨(w.heap.size+1),0,none⟩=some (.int .i64 0):=by unfold sx6;go_cell
    have r1:(sx6 wc (w.heap.size+1) (.int .i64 0) (.int .i64 0) (.slice none 0 0) (.slice none 0 0) (.int .i64 (-1)) (.slice none 0 0)).cell? ⟨(w.heap.size+1),1,none⟩=some (.int .i64 0):=by unfold sx6;go_cell
    have r2:(sx6 wc (w.heap.size+1) (.int .i64 0) (.int .i64 0) (.slice none 0 0) (.slice none 0 0) (.int .i64 (-1)) (.slice none 0 0)).cell? ⟨(w.heap.size+1),2,none⟩=some (.slice none 0 0):=by unfold sx6;go_cell
    have r3:(sx6 wc (w.heap.size+1) (.int .i64 0) (.int .i64 0) (.slice none 0 0) (.slice none 0 0) (.int .i64 (-1)) (.slice none 0 0)).cell? ⟨(w.heap.size+1),3,none⟩=some (.slice none 0 0):=by unfold sx6;go_cell
    have r4:(sx6 wc (w.heap.size+1) (.int .i64 0) (.int .i64 0) (.slice none 0 0) (.slice none 0 0) (.int .i64 (-1)) (.slice none 0 0)).cell? ⟨(w.heap.size+1),4,none⟩=some (.int .i64 (-1)):=by unfold sx6;go_cell
    have r5:(sx6 wc (w.heap.size+1) (.int .i64 0) (.int .i64 0) (.slice none 0 0) (.slice none 0 0) (.int .i64 (-1)) (.slice none 0 0)).cell? ⟨(w.heap.size+1),5,none⟩=some (.slice none 0 0):=by unfold sx6;go_cell
    change bodyPost _ _ _ _ _ (sx6 wc (w.heap.size+1) (.int .i64 0) (.int .i64 0) (.slice none 0 0) (.slice none 0 0) (.int .i64 (-1)) (.slice none 0 0))
    refine bodyPost_ret (v:=.agg #[.int .i64 0,.int .i64 0,.slice none 0 0,.slice none 0 0,.int .i64 (-1),.slice none 0 0]) (by simp [results,Tryz.results14,go_sem,r0,r1,r2,r3,r4,r5]) rfl ?_
    exact ⟨u,none,0,none,0,by rw [HED.out];rfl,by rw [HED.out];exact HFN.out.1,HFN.out.2.1,.inl rfl,by rw [HED.out];exact HFN.out.2.2.2.1,by rw [HED.out];exact HFN.out.2.2.2.2⟩
  ·have e1:(m.kind != n.kind)=false:=by
    have:m.kind=n.kind:=Decidable.byContradiction fun q=>hne (.inl q)
    rw [this];simp
   have e2:(m.so != n.so)=false:=by
    have:m.so=n.so:=Decidable.byContradiction fun q=>hne (.inr q)
    rw [this];simp
   have hwq:wideB m.kind tt=((m.kind==7) && !tt || (m.kind==6) && tt):=by unfold wideB;rfl
   have CE1:=hideK (CE.out hne);have CB1:=hideK (CB.out hne);have hbc:=HBC.out;clear CE CB HDX hne;generalize h7:(m.kind==7)=q7 at *;generalize h6:(m.kind==6)=q6 at *;cases q7 <;> cases q6 <;> cases tt
   ·have CX:=hideK (CB1.out (by rw [hwq];rfl))
    clear CE1 CB1 hwq;have hzc:=HZC.out;have hrb:=HRB.out;have hsw:=wc.heap.size;go_wp2_with fail
    refine (CX.out wc hzc).mono ?_;rintro e w5 ⟨u5,al,cl,at1,ct,rfl,hz5,hr5,hf5,hl5,hn5⟩;have hkb:=(hr5.block (w.heap.size+1) (by omega) (by omega) (by omega) (fun e=>by have:=HUB.out _ e.symm;omega)).trans hrb
    obtain ⟨t0,x0⟩:=(HQ4.out.2 0 (by omega)).imp fun v hv=>(World.cell?_of_block (a:=⟨(w.heap.size+1),0,none⟩) hkb).trans hv
    obtain ⟨t1,x1⟩:=(HQ4.out.2 1 (by omega)).imp fun v hv=>(World.cell?_of_block (a:=⟨(w.heap.size+1),1,none⟩) hkb).trans hv
    obtain ⟨t2,x2⟩:=(HQ4.out.2 2 (by omega)).imp fun v hv=>(World.cell?_of_block (a:=⟨(w.heap.size+1),2,none⟩) hkb).trans hv
    obtain ⟨t3,x3⟩:=(HQ4.out.2 3 (by omega)).imp fun v hv=>(World.cell?_of_block (a:=⟨(w.heap.size+1),3,none⟩) hkb).trans hv
    obtain ⟨t4,x4⟩:=(HQ4.out.2 4 (by omega)).imp fun v hv=>(World.cell?_of_block (a:=⟨(w.heap.size+1),4,none⟩) hkb).trans hv
    obtain ⟨t5,x5⟩:=(HQ4.out.2 5 (by omega)).imp fun v hv=>(World.cell?_of_block (a:=⟨(w.heap.size+1),5,none⟩) hkb).trans hv
    have f0:=(World.frozen?_of_block (a:=⟨(w.heap.size+1),0,none⟩) hkb).trans (HQ4.out.1 0 (by omega))
    have f1:=(World.frozen?_of_block (a:=⟨(w.heap.size+1),1,none⟩) hkb).trans (HQ4.out.1 1 (by omega))
    have f2:=(World.frozen?_of_block (a:=⟨(w.heap.size+1),2,none⟩) hkb).trans (HQ4.out.1 2 (by omega))
    have f3:=(World.frozen?_of_block (a:=⟨(w.heap.size+1),3,none⟩) hkb).trans (HQ4.out.1 3 (by omega))
    have f4:=(World.frozen?_of_block (a:=⟨(w.heap.size+1),4,none⟩) hkb).trans (HQ4.out.1 4 (by omega))
    have f5:=(World.frozen?_of_block (a:=⟨(w.heap.size+1),5,none⟩) hkb).trans (HQ4.out.1 5 (by omega))
    have hfin:=DPost.fin (d:=d) (ps:=ps) (rb:=(w.heap.size+1)) hbc (by omega) (by omega) hB hw0 hdb hmb HUB.out hz5 hr5 hf5 hl5 hn5 (.int .i64 d.kind) (.int .i64 d.so) (.slice al d.labs.length cl) (.slice at1 (nums ps d.nxt).length ct) (.int .i64 d.spare) (.slice none 0 0)
    have HFN:=hideK hfin;clear hz5 hr5 hf5 hl5 hn5 hkb hfin CX;simp only [dVal];go_wp2_with fail
    have r0:(sx6 w5 (w.heap.size+1) (.int .i64 d.kind) (.int .i64 d.so) (.slice al d.labs.length cl) (.slice at1 (nums ps d.nxt).length ct) (.int .i64 d.spare) (.slice none 0 0)).cell? ⟨(w.heap.size+1),0,none⟩=some (.int .i64 d.kind):=by unfold sx6;go_cell
    have r1:(sx6 w5 (w.heap.size+1) (.int .i64 d.kind) (.int .i64 d.so) (.slice al d.labs.length cl) (.slice at1 (nums ps d.nxt).length ct) (.int .i64 d.spare) (.slice none 0 0)).cell? ⟨(w.heap.size+1),1,none⟩=some (.int .i64 d.so):=by unfold sx6;go_cell
    have r2:(sx6 w5 (w.heap.size+1) (.int .i64 d.kind) (.int .i64 d.so) (.slice al d.labs.length cl) (.slice at1 (nums ps d.nxt).length ct) (.int .i64 d.spare) (.slice none 0 0)).cell? ⟨(w.heap.size+1),2,none⟩=some (.slice al d.labs.length cl):=by unfold sx6;go_cell
    have r3:(sx6 w5 (w.heap.size+1) (.int .i64 d.kind) (.int .i64 d.so) (.slice al d.labs.length cl) (.slice at1 (nums ps d.nxt).length ct) (.int .i64 d.spare) (.slice none 0 0)).cell? ⟨(w.heap.size+1),3,none⟩=some (.slice at1 (nums ps d.nxt).length ct):=by unfold sx6;go_cell
    have r4:(sx6 w5 (w.heap.size+1) (.int .i64 d.kind) (.int .i64 d.so) (.slice al d.labs.length cl) (.slice at1 (nums ps d.nxt).length ct) (.int .i64 d.spare) (.slice none 0 0)).cell? ⟨(w.heap.size+1),4,none⟩=some (.int .i64 d.spare):=by unfold sx6;go_cell
    have r5:(sx6 w5 (w.heap.size+1) (.int .i64 d.kind) (.int .i64 d.so) (.slice al d.labs.length cl) (.slice at1 (nums ps d.nxt).length ct) (.int .i64 d.spare) (.slice none 0 0)).cell? ⟨(w.heap.size+1),5,none⟩=some (.slice none 0 0):=by unfold sx6;go_cell
    change bodyPost _ _ _ _ _ (sx6 w5 (w.heap.size+1) (.int .i64 d.kind) (.int .i64 d.so) (.slice al d.labs.length cl) (.slice at1 (nums ps d.nxt).length ct) (.int .i64 d.spare) (.slice none 0 0))
    refine bodyPost_ret (v:=.agg #[.int .i64 d.kind,.int .i64 d.so,.slice al d.labs.length cl,.slice at1 (nums ps d.nxt).length ct,.int .i64 d.spare,.slice none 0 0]) (by simp [results,Tryz.results14,go_sem,r0,r1,r2,r3,r4,r5]) rfl ?_
    exact ⟨u5,al,cl,at1,ct,rfl,HFN.out.1,HFN.out.2.1,HFN.out.2.2.1,HFN.out.2.2.2.1,HFN.out.2.2.2.2⟩
   ·have CX:=hideK (CB1.out (by rw [hwq];rfl))
    clear CE1 CB1 hwq;have hzc:=HZC.out;have hrb:=HRB.out;have hsw:=wc.heap.size;go_wp2_with fail
    refine (CX.out wc hzc).mono ?_;rintro e w5 ⟨u5,al,cl,at1,ct,rfl,hz5,hr5,hf5,hl5,hn5⟩;have hkb:=(hr5.block (w.heap.size+1) (by omega) (by omega) (by omega) (fun e=>by have:=HUB.out _ e.symm;omega)).trans hrb
    obtain ⟨t0,x0⟩:=(HQ4.out.2 0 (by omega)).imp fun v hv=>(World.cell?_of_block (a:=⟨(w.heap.size+1),0,none⟩) hkb).trans hv
    obtain ⟨t1,x1⟩:=(HQ4.out.2 1 (by omega)).imp fun v hv=>(World.cell?_of_block (a:=⟨(w.heap.size+1),1,none⟩) hkb).trans hv
    obtain ⟨t2,x2⟩:=(HQ4.out.2 2 (by omega)).imp fun v hv=>(World.cell?_of_block (a:=⟨(w.heap.size+1),2,none⟩) hkb).trans hv
    obtain ⟨t3,x3⟩:=(HQ4.out.2 3 (by omega)).imp fun v hv=>(World.cell?_of_block (a:=⟨(w.heap.size+1),3,none⟩) hkb).trans hv
    obtain ⟨t4,x4⟩:=(HQ4.out.2 4 (by omega)).imp fun v hv=>(World.cell?_of_block (a:=⟨(w.heap.size+1),4,none⟩) hkb).trans hv
    obtain ⟨t5,x5⟩:=(HQ4.out.2 5 (by omega)).imp fun v hv=>(World.cell?_of_block (a:=⟨(w.heap.size+1),5,none⟩) hkb).trans hv
    have f0:=(World.frozen?_of_block (a:=⟨(w.heap.size+1),0,none⟩) hkb).trans (HQ4.out.1 0 (by omega))
    have f1:=(World.frozen?_of_block (a:=⟨(w.heap.size+1),1,none⟩) hkb).trans (HQ4.out.1 1 (by omega))
    have f2:=(World.frozen?_of_block (a:=⟨(w.heap.size+1),2,none⟩) hkb).trans (HQ4.out.1 2 (by omega))
    have f3:=(World.frozen?_of_block (a:=⟨(w.heap.size+1),3,none⟩) hkb).trans (HQ4.out.1 3 (by omega))
    have f4:=(World.frozen?_of_block (a:=⟨(w.heap.size+1),4,none⟩) hkb).trans (HQ4.out.1 4 (by omega))
    have f5:=(World.frozen?_of_block (a:=⟨(w.heap.size+1),5,none⟩) hkb).trans (HQ4.out.1 5 (by omega))
    have hfin:=DPost.fin (d:=d) (ps:=ps) (rb:=(w.heap.size+1)) hbc (by omega) (by omega) hB hw0 hdb hmb HUB.out hz5 hr5 hf5 hl5 hn5 (.int .i64 d.kind) (.int .i64 d.so) (.slice al d.labs.length cl) (.slice at1 (nums ps d.nxt).length ct) (.int .i64 d.spare) (.slice none 0 0)
    have HFN:=hideK hfin;clear hz5 hr5 hf5 hl5 hn5 hkb hfin CX;simp only [dVal];go_wp2_with fail
    have r0:(sx6 w5 (w.heap.size+1) (.int .i64 d.kind) (.int .i64 d.so) (.slice al d.labs.length cl) (.slice at1 (nums ps d.nxt).length ct) (.int .i64 d.spare) (.slice none 0 0)).cell? ⟨(w.heap.size+1),0,none⟩=some (.int .i64 d.kind):=by unfold sx6;go_cell
    have r1:(sx6 w5 (w.heap.size+1) (.int .i64 d.kind) (.int .i64 d.so) (.slice al d.labs.length cl) (.slice at1 (nums ps d.nxt).length ct) (.int .i64 d.spare) (.slice none 0 0)).cell? ⟨(w.heap.size+1),1,none⟩=some (.int .i64 d.so):=by unfold sx6;go_cell
    have r2:(sx6 w5 (w.heap.size+1) (.int .i64 d.kind) (.int .i64 d.so) (.slice al d.labs.length cl) (.slice at1 (nums ps d.nxt).length ct) (.int .i64 d.spare) (.slice none 0 0)).cell? ⟨(w.heap.size+1),2,none⟩=some (.slice al d.labs.length cl):=by unfold sx6;go_cell
    have r3:(sx6 w5 (w.heap.size+1) (.int .i64 d.kind) (.int .i64 d.so) (.slice al d.labs.length cl) (.slice at1 (nums ps d.nxt).length ct) (.int .i64 d.spare) (.slice none 0 0)).cell? ⟨(w.heap.size+1),3,none⟩=some (.slice at1 (nums ps d.nxt).length ct):=by unfold sx6;go_cell
    have r4:(sx6 w5 (w.heap.size+1) (.int .i64 d.kind) (.int .i64 d.so) (.slice al d.labs.length cl) (.slice at1 (nums ps d.nxt).length ct) (.int .i64 d.spare) (.slice none 0 0)).cell? ⟨(w.heap.size+1),4,none⟩=some (.int .i64 d.spare):=by unfold sx6;go_cell
    have r5:(sx6 w5 (w.heap.size+1) (.int .i64 d.kind) (.int .i64 d.so) (.slice al d.labs.length cl) (.slice at1 (nums ps d.nxt).length ct) (.int .i64 d.spare) (.slice none 0 0)).cell? ⟨(w.heap.size+1),5,none⟩=some (.slice none 0 0):=by unfold sx6;go_cell
    change bodyPost _ _ _ _ _ (sx6 w5 (w.heap.size+1) (.int .i64 d.kind) (.int .i64 d.so) (.slice al d.labs.length cl) (.slice at1 (nums ps d.nxt).length ct) (.int .i64 d.spare) (.slice none 0 0))
    refine bodyPost_ret (v:=.agg #[.int .i64 d.kind,.int .i64 d.so,.slice al d.labs.length cl,.slice at1 (nums ps d.nxt).length ct,.int .i64 d.spare,.slice none 0 0]) (by simp [results,Tryz.results14,go_sem,r0,r1,r2,r3,r4,r5]) rfl ?_
    exact ⟨u5,al,cl,at1,ct,rfl,HFN.out.1,HFN.out.2.1,HFN.out.2.2.1,HFN.out.2.2.2.1,HFN.out.2.2.2.2⟩
   ·have CX:=hideK (CB1.out (by rw [hwq];rfl))
    clear CE1 CB1 hwq;have hzc:=HZC.out;have hrb:=HRB.out;have hsw:=wc.heap.size;go_wp2_with fail
    refine (CX.out wc hzc).mono ?_;rintro e w5 ⟨u5,al,cl,at1,ct,rfl,hz5,hr5,hf5,hl5,hn5⟩;have hkb:=(hr5.block (w.heap.size+1) (by omega) (by omega) (by omega) (fun e=>by have:=HUB.out _ e.symm;omega)).trans hrb
    obtain ⟨t0,x0⟩:=(HQ4.out.2 0 (by omega)).imp fun v hv=>(World.cell?_of_block (a:=⟨(w.heap.size+1),0,none⟩) hkb).trans hv
    obtain ⟨t1,x1⟩:=(HQ4.out.2 1 (by omega)).imp fun v hv=>(World.cell?_of_block (a:=⟨(w.heap.size+1),1,none⟩) hkb).trans hv
    obtain ⟨t2,x2⟩:=(HQ4.out.2 2 (by omega)).imp fun v hv=>(World.cell?_of_block (a:=⟨(w.heap.size+1),2,none⟩) hkb).trans hv
    obtain ⟨t3,x3⟩:=(HQ4.out.2 3 (by omega)).imp fun v hv=>(World.cell?_of_block (a:=⟨(w.heap.size+1),3,none⟩) hkb).trans hv
    obtain ⟨t4,x4⟩:=(HQ4.out.2 4 (by omega)).imp fun v hv=>(World.cell?_of_block (a:=⟨(w.heap.size+1),4,none⟩) hkb).trans hv
    obtain ⟨t5,x5⟩:=(HQ4.out.2 5 (by omega)).imp fun v hv=>(World.cell?_of_block (a:=⟨(w.heap.size+1),5,none⟩) hkb).trans hv
    have f0:=(World.frozen?_of_block (a:=⟨(w.heap.size+1),0,none⟩) hkb).trans (HQ4.out.1 0 (by omega))
    have f1:=(World.frozen?_of_block (a:=⟨(w.heap.size+1),1,none⟩) hkb).trans (HQ4.out.1 1 (by omega))
    have f2:=(World.frozen?_of_block (a:=⟨(w.heap.size+1),2,none⟩) hkb).trans (HQ4.out.1 2 (by omega))
    have f3:=(World.frozen?_of_block (a:=⟨(w.heap.size+1),3,none⟩) hkb).trans (HQ4.out.1 3 (by omega))
    have f4:=(World.frozen?_of_block (a:=⟨(w.heap.size+1),4,none⟩) hkb).trans (HQ4.out.1 4 (by omega))
    have f5:=(World.frozen?_of_block (a:=⟨(w.heap.size+1),5,none⟩) hkb).trans (HQ4.out.1 5 (by omega))
    have hfin:=DPost.fin (d:=d) (ps:=ps) (rb:=(w.heap.size+1)) hbc (by omega) (by omega) hB hw0 hdb hmb HUB.out hz5 hr5 hf5 hl5 hn5 (.int .i64 d.kind) (.int .i64 d.so) (.slice al d.labs.length cl) (.slice at1 (nums ps d.nxt).length ct) (.int .i64 d.spare) (.slice none 0 0)
    have HFN:=hideK hfin;clear hz5 hr5 hf5 hl5 hn5 hkb hfin CX;simp only [dVal];go_wp2_with fail
    have r0:(sx6 w5 (w.heap.size+1) (.int .i64 d.kind) (.int .i64 d.so) (.slice al d.labs.length cl) (.slice at1 (nums ps d.nxt).length ct) (.int .i64 d.spare) (.slice none 0 0)).cell? ⟨(w.heap.size+1),0,none⟩=some (.int .i64 d.kind):=by unfold sx6;go_cell
    have r1:(sx6 w5 (w.heap.size+1) (.int .i64 d.kind) (.int .i64 d.so) (.slice al d.labs.length cl) (.slice at1 (nums ps d.nxt).length ct) (.int .i64 d.spare) (.slice none 0 0)).cell? ⟨(w.heap.size+1),1,none⟩=some (.int .i64 d.so):=by unfold sx6;go_cell
    have r2:(sx6 w5 (w.heap.size+1) (.int .i64 d.kind) (.int .i64 d.so) (.slice al d.labs.length cl) (.slice at1 (nums ps d.nxt).length ct) (.int .i64 d.spare) (.slice none 0 0)).cell? ⟨(w.heap.size+1),2,none⟩=some (.slice al d.labs.length cl):=by unfold sx6;go_cell
    have r3:(sx6 w5 (w.heap.size+1) (.int .i64 d.kind) (.int .i64 d.so) (.slice al d.labs.length cl) (.slice at1 (nums ps d.nxt).length ct) (.int .i64 d.spare) (.slice none 0 0)).cell? ⟨(w.heap.size+1),3,none⟩=some (.slice at1 (nums ps d.nxt).length ct):=by unfold sx6;go_cell
    have r4:(sx6 w5 (w.heap.size+1) (.int .i64 d.kind) (.int .i64 d.so) (.slice al d.labs.length cl) (.slice at1 (nums ps d.nxt).length ct) (.int .i64 d.spare) (.slice none 0 0)).cell? ⟨(w.heap.size+1),4,none⟩=some (.int .i64 d.spare):=by unfold sx6;go_cell
    have r5:(sx6 w5 (w.heap.size+1) (.int .i64 d.kind) (.int .i64 d.so) (.slice al d.labs.length cl) (.slice at1 (nums ps d.nxt).length ct) (.int .i64 d.spare) (.slice none 0 0)).cell? ⟨(w.heap.size+1),5,none⟩=some (.slice none 0 0):=by unfold sx6;go_cell
    change bodyPost _ _ _ _ _ (sx6 w5 (w.heap.size+1) (.int .i64 d.kind) (.int .i64 d.so) (.slice al d.labs.length cl) (.slice at1 (nums ps d.nxt).length ct) (.int .i64 d.spare) (.slice none 0 0))
    refine bodyPost_ret (v:=.agg #[.int .i64 d.kind,.int .i64 d.so,.slice al d.labs.length cl,.slice at1 (nums ps d.nxt).length ct,.int .i64 d.spare,.slice none 0 0]) (by simp [results,Tryz.results14,go_sem,r0,r1,r2,r3,r4,r5]) rfl ?_
    exact ⟨u5,al,cl,at1,ct,rfl,HFN.out.1,HFN.out.2.1,HFN.out.2.2.1,HFN.out.2.2.2.1,HFN.out.2.2.2.2⟩
   ·have CX:=hideK (CE1.out (by rw [hwq];rfl))
    clear CE1 CB1 hwq;have hzc:=HZC.out;have hrb:=HRB.out;have hsw:=wc.heap.size;go_wp2_with fail
    refine (CX.out wc hzc).mono ?_;rintro e w5 ⟨u5,al,cl,at1,ct,rfl,hz5,hr5,hf5,hl5,hn5⟩;have hkb:=(hr5.block (w.heap.size+1) (by omega) (by omega) (by omega) (fun e=>by have:=HUB.out _ e.symm;omega)).trans hrb
    obtain ⟨t0,x0⟩:=(HQ4.out.2 0 (by omega)).imp fun v hv=>(World.cell?_of_block (a:=⟨(w.heap.size+1),0,none⟩) hkb).trans hv
    obtain ⟨t1,x1⟩:=(HQ4.out.2 1 (by omega)).imp fun v hv=>(World.cell?_of_block (a:=⟨(w.heap.size+1),1,none⟩) hkb).trans hv
    obtain ⟨t2,x2⟩:=(HQ4.out.2 2 (by omega)).imp fun v hv=>(World.cell?_of_block (a:=⟨(w.heap.size+1),2,none⟩) hkb).trans hv
    obtain ⟨t3,x3⟩:=(HQ4.out.2 3 (by omega)).imp fun v hv=>(World.cell?_of_block (a:=⟨(w.heap.size+1),3,none⟩) hkb).trans hv
    obtain ⟨t4,x4⟩:=(HQ4.out.2 4 (by omega)).imp fun v hv=>(World.cell?_of_block (a:=⟨(w.heap.size+1),4,none⟩) hkb).trans hv
    obtain ⟨t5,x5⟩:=(HQ4.out.2 5 (by omega)).imp fun v hv=>(World.cell?_of_block (a:=⟨(w.heap.size+1),5,none⟩) hkb).trans hv
    have f0:=(World.frozen?_of_block (a:=⟨(w.heap.size+1),0,none⟩) hkb).trans (HQ4.out.1 0 (by omega))
    have f1:=(World.frozen?_of_block (a:=⟨(w.heap.size+1),1,none⟩) hkb).trans (HQ4.out.1 1 (by omega))
    have f2:=(World.frozen?_of_block (a:=⟨(w.heap.size+1),2,none⟩) hkb).trans (HQ4.out.1 2 (by omega))
    have f3:=(World.frozen?_of_block (a:=⟨(w.heap.size+1),3,none⟩) hkb).trans (HQ4.out.1 3 (by omega))
    have f4:=(World.frozen?_of_block (a:=⟨(w.heap.size+1),4,none⟩) hkb).trans (HQ4.out.1 4 (by omega))
    have f5:=(World.frozen?_of_block (a:=⟨(w.heap.size+1),5,none⟩) hkb).trans (HQ4.out.1 5 (by omega))
    have hfin:=DPost.fin (d:=d) (ps:=ps) (rb:=(w.heap.size+1)) hbc (by omega) (by omega) hB hw0 hdb hmb HUB.out hz5 hr5 hf5 hl5 hn5 (.int .i64 d.kind) (.int .i64 d.so) (.slice al d.labs.length cl) (.slice at1 (nums ps d.nxt).length ct) (.int .i64 d.spare) (.slice none 0 0)
    have HFN:=hideK hfin;clear hz5 hr5 hf5 hl5 hn5 hkb hfin CX;simp only [dVal];go_wp2_with fail
    have r0:(sx6 w5 (w.heap.size+1) (.int .i64 d.kind) (.int .i64 d.so) (.slice al d.labs.length cl) (.slice at1 (nums ps d.nxt).length ct) (.int .i64 d.spare) (.slice none 0 0)).cell? ⟨(w.heap.size+1),0,none⟩=some (.int .i64 d.kind):=by unfold sx6;go_cell
    have r1:(sx6 w5 (w.heap.size+1) (.int .i64 d.kind) (.int .i64 d.so) (.slice al d.labs.length cl) (.slice at1 (nums ps d.nxt).length ct) (.int .i64 d.spare) (.slice none 0 0)).cell? ⟨(w.heap.size+1),1,none⟩=some (.int .i64 d.so):=by unfold sx6;go_cell
    have r2:(sx6 w5 (w.heap.size+1) (.int .i64 d.kind) (.int .i64 d.so) (.slice al d.labs.length cl) (.slice at1 (nums ps d.nxt).length ct) (.int .i64 d.spare) (.slice none 0 0)).cell? ⟨(w.heap.size+1),2,none⟩=some (.slice al d.labs.length cl):=by unfold sx6;go_cell
    have r3:(sx6 w5 (w.heap.size+1) (.int .i64 d.kind) (.int .i64 d.so) (.slice al d.labs.length cl) (.slice at1 (nums ps d.nxt).length ct) (.int .i64 d.spare) (.slice none 0 0)).cell? ⟨(w.heap.size+1),3,none⟩=some (.slice at1 (nums ps d.nxt).length ct):=by unfold sx6;go_cell
    have r4:(sx6 w5 (w.heap.size+1) (.int .i64 d.kind) (.int .i64 d.so) (.slice al d.labs.length cl) (.slice at1 (nums ps d.nxt).length ct) (.int .i64 d.spare) (.slice none 0 0)).cell? ⟨(w.heap.size+1),4,none⟩=some (.int .i64 d.spare):=by unfold sx6;go_cell
    have r5:(sx6 w5 (w.heap.size+1) (.int .i64 d.kind) (.int .i64 d.so) (.slice al d.labs.length cl) (.slice at1 (nums ps d.nxt).length ct) (.int .i64 d.spare) (.slice none 0 0)).cell? ⟨(w.heap.size+1),5,none⟩=some (.slice none 0 0):=by unfold sx6;go_cell
    change bodyPost _ _ _ _ _ (sx6 w5 (w.heap.size+1) (.int .i64 d.kind) (.int .i64 d.so) (.slice al d.labs.length cl) (.slice at1 (nums ps d.nxt).length ct) (.int .i64 d.spare) (.slice none 0 0))
    refine bodyPost_ret (v:=.agg #[.int .i64 d.kind,.int .i64 d.so,.slice al d.labs.length cl,.slice at1 (nums ps d.nxt).length ct,.int .i64 d.spare,.slice none 0 0]) (by simp [results,Tryz.results14,go_sem,r0,r1,r2,r3,r4,r5]) rfl ?_
    exact ⟨u5,al,cl,at1,ct,rfl,HFN.out.1,HFN.out.2.1,HFN.out.2.2.1,HFN.out.2.2.2.1,HFN.out.2.2.2.2⟩
   ·have CX:=hideK (CE1.out (by rw [hwq];rfl))
    clear CE1 CB1 hwq;have hzc:=HZC.out;have hrb:=HRB.out;have hsw:=wc.heap.size;go_wp2_with fail
    refine (CX.out wc hzc).mono ?_;rintro e w5 ⟨u5,al,cl,at1,ct,rfl,hz5,hr5,hf5,hl5,hn5⟩;have hkb:=(hr5.block (w.heap.size+1) (by omega) (by omega) (by omega) (fun e=>by have:=HUB.out _ e.symm;omega)).trans hrb
    obtain ⟨t0,x0⟩:=(HQ4.out.2 0 (by omega)).imp fun v hv=>(World.cell?_of_block (a:=⟨(w.heap.size+1),0,none⟩) hkb).trans hv
    obtain ⟨t1,x1⟩:=(HQ4.out.2 1 (by omega)).imp fun v hv=>(World.cell?_of_block (a:=⟨(w.heap.size+1),1,none⟩) hkb).trans hv
    obtain ⟨t2,x2⟩:=(HQ4.out.2 2 (by omega)).imp fun v hv=>(World.cell?_of_block (a:=⟨(w.heap.size+1),2,none⟩) hkb).trans hv
    obtain ⟨t3,x3⟩:=(HQ4.out.2 3 (by omega)).imp fun v hv=>(World.cell?_of_block (a:=⟨(w.heap.size+1),3,none⟩) hkb).trans hv
    obtain ⟨t4,x4⟩:=(HQ4.out.2 4 (by omega)).imp fun v hv=>(World.cell?_of_block (a:=⟨(w.heap.size+1),4,none⟩) hkb).trans hv
    obtain ⟨t5,x5⟩:=(HQ4.out.2 5 (by omega)).imp fun v hv=>(World.cell?_of_block (a:=⟨(w.heap.size+1),5,none⟩) hkb).trans hv
    have f0:=(World.frozen?_of_block (a:=⟨(w.heap.size+1),0,none⟩) hkb).trans (HQ4.out.1 0 (by omega))
    have f1:=(World.frozen?_of_block (a:=⟨(w.heap.size+1),1,none⟩) hkb).trans (HQ4.out.1 1 (by omega))
    have f2:=(World.frozen?_of_block (a:=⟨(w.heap.size+1),2,none⟩) hkb).trans (HQ4.out.1 2 (by omega))
    have f3:=(World.frozen?_of_block (a:=⟨(w.heap.size+1),3,none⟩) hkb).trans (HQ4.out.1 3 (by omega))
    have f4:=(World.frozen?_of_block (a:=⟨(w.heap.size+1),4,none⟩) hkb).trans (HQ4.out.1 4 (by omega))
    have f5:=(World.frozen?_of_block (a:=⟨(w.heap.size+1),5,none⟩) hkb).trans (HQ4.out.1 5 (by omega))
    have hfin:=DPost.fin (d:=d) (ps:=ps) (rb:=(w.heap.size+1)) hbc (by omega) (by omega) hB hw0 hdb hmb HUB.out hz5 hr5 hf5 hl5 hn5 (.int .i64 d.kind) (.int .i64 d.so) (.slice al d.labs.length cl) (.slice at1 (nums ps d.nxt).length ct) (.int .i64 d.spare) (.slice none 0 0)
    have HFN:=hideK hfin;clear hz5 hr5 hf5 hl5 hn5 hkb hfin CX;simp only [dVal];go_wp2_with fail
    have r0:(sx6 w5 (w.heap.size+1) (.int .i64 d.kind) (.int .i64 d.so) (.slice al d.labs.length cl) (.slice at1 (nums ps d.nxt).length ct) (.int .i64 d.spare) (.slice none 0 0)).cell? ⟨(w.heap.size+1),0,none⟩=some (.int .i64 d.kind):=by unfold sx6;go_cell
    have r1:(sx6 w5 (w.heap.size+1) (.int .i64 d.kind) (.int .i64 d.so) (.slice al d.labs.length cl) (.slice at1 (nums ps d.nxt).length ct) (.int .i64 d.spare) (.slice none 0 0)).cell? ⟨(w.heap.size+1),1,none⟩=some (.int .i64 d.so):=by unfold sx6;go_cell
    have r2:(sx6 w5 (w.heap.size+1) (.int .i64 d.kind) (.int .i64 d.so) (.slice al d.labs.length cl) (.slice at1 (nums ps d.nxt).length ct) (.int .i64 d.spare) (.slice none 0 0)).cell? ⟨(w.heap.size+1),2,none⟩=some (.slice al d.labs.length cl):=by unfold sx6;go_cell
    have r3:(sx6 w5 (w.heap.size+1) (.int .i64 d.kind) (.int .i64 d.so) (.slice al d.labs.length cl) (.slice at1 (nums ps d.nxt).length ct) (.int .i64 d.spare) (.slice none 0 0)).cell? ⟨(w.heap.size+1),3,none⟩=some (.slice at1 (nums ps d.nxt).length ct):=by unfold sx6;go_cell
    have r4:(sx6 w5 (w.heap.size+1) (.int .i64 d.kind) (.int .i64 d.so) (.slice al d.labs.length cl) (.slice at1 (nums ps d.nxt).length ct) (.int .i64 d.spare) (.slice none 0 0)).cell? ⟨(w.heap.size+1),4,none⟩=some (.int .i64 d.spare):=by unfold sx6;go_cell
    have r5:(sx6 w5 (w.heap.size+1) (.int .i64 d.kind) (.int .i64 d.so) (.slice al d.labs.length cl) (.slice at1 (nums ps d.nxt).length ct) (.int .i64 d.spare) (.slice none 0 0)).cell? ⟨(w.heap.size+1),5,none⟩=some (.slice none 0 0):=by unfold sx6;go_cell
    change bodyPost _ _ _ _ _ (sx6 w5 (w.heap.size+1) (.int .i64 d.kind) (.int .i64 d.so) (.slice al d.labs.length cl) (.slice at1 (nums ps d.nxt).length ct) (.int .i64 d.spare) (.slice none 0 0))
    refine bodyPost_ret (v:=.agg #[.int .i64 d.kind,.int .i64 d.so,.slice al d.labs.length cl,.slice at1 (nums ps d.nxt).length ct,.int .i64 d.spare,.slice none 0 0]) (by simp [results,Tryz.results14,go_sem,r0,r1,r2,r3,r4,r5]) rfl ?_
    exact ⟨u5,al,cl,at1,ct,rfl,HFN.out.1,HFN.out.2.1,HFN.out.2.2.1,HFN.out.2.2.2.1,HFN.out.2.2.2.2⟩
   ·have CX:=hideK (CB1.out (by rw [hwq];rfl))
    clear CE1 CB1 hwq;have hzc:=HZC.out;have hrb:=HRB.out;have hsw:=wc.heap.size;go_wp2_with fail
    refine (CX.out wc hzc).mono ?_;rintro e w5 ⟨u5,al,cl,at1,ct,rfl,hz5,hr5,hf5,hl5,hn5⟩;have hkb:=(hr5.block (w.heap.size+1) (by omega) (by omega) (by omega) (fun e=>by have:=HUB.out _ e.symm;omega)).trans hrb
    obtain ⟨t0,x0⟩:=(HQ4.out.2 0 (by omega)).imp fun v hv=>(World.cell?_of_block (a:=⟨(w.heap.size+1),0,none⟩) hkb).trans hv
    obtain ⟨t1,x1⟩:=(HQ4.out.2 1 (by omega)).imp fun v hv=>(World.cell?_of_block (a:=⟨(w.heap.size+1),1,none⟩) hkb).trans hv
    obtain ⟨t2,x2⟩:=(HQ4.out.2 2 (by omega)).imp fun v hv=>(World.cell?_of_block (a:=⟨(w.heap.size+1),2,none⟩) hkb).trans hv
    obtain ⟨t3,x3⟩:=(HQ4.out.2 3 (by omega)).imp fun v hv=>(World.cell?_of_block (a:=⟨(w.heap.size+1),3,none⟩) hkb).trans hv
    obtain ⟨t4,x4⟩:=(HQ4.out.2 4 (by omega)).imp fun v hv=>(World.cell?_of_block (a:=⟨(w.heap.size+1),4,none⟩) hkb).trans hv
    obtain ⟨t5,x5⟩:=(HQ4.out.2 5 (by omega)).imp fun v hv=>(World.cell?_of_block (a:=⟨(w.heap.size+1),5,none⟩) hkb).trans hv
    have f0:=(World.frozen?_of_block (a:=⟨(w.heap.size+1),0,none⟩) hkb).trans (HQ4.out.1 0 (by omega))
    have f1:=(World.frozen?_of_block (a:=⟨(w.heap.size+1),1,none⟩) hkb).trans (HQ4.out.1 1 (by omega))
    have f2:=(World.frozen?_of_block (a:=⟨(w.heap.size+1),2,none⟩) hkb).trans (HQ4.out.1 2 (by omega))
    have f3:=(World.frozen?_of_block (a:=⟨(w.heap.size+1),3,none⟩) hkb).trans (HQ4.out.1 3 (by omega))
    have f4:=(World.frozen?_of_block (a:=⟨(w.heap.size+1),4,none⟩) hkb).trans (HQ4.out.1 4 (by omega))
    have f5:=(World.frozen?_of_block (a:=⟨(w.heap.size+1),5,none⟩) hkb).trans (HQ4.out.1 5 (by omega))
    have hfin:=DPost.fin (d:=d) (ps:=ps) (rb:=(w.heap.size+1)) hbc (by omega) (by omega) hB hw0 hdb hmb HUB.out hz5 hr5 hf5 hl5 hn5 (.int .i64 d.kind) (.int .i64 d.so) (.slice al d.labs.length cl) (.slice at1 (nums ps d.nxt).length ct) (.int .i64 d.spare) (.slice none 0 0)
    have HFN:=hideK hfin;clear hz5 hr5 hf5 hl5 hn5 hkb hfin CX;simp only [dVal];go_wp2_with fail
    have r0:(sx6 w5 (w.heap.size+1) (.int .i64 d.kind) (.int .i64 d.so) (.slice al d.labs.length cl) (.slice at1 (nums ps d.nxt).length ct) (.int .i64 d.spare) (.slice none 0 0)).cell? ⟨(w.heap.size+1),0,none⟩=some (.int .i64 d.kind):=by unfold sx6;go_cell
    have r1:(sx6 w5 (w.heap.size+1) (.int .i64 d.kind) (.int .i64 d.so) (.slice al d.labs.length cl) (.slice at1 (nums ps d.nxt).length ct) (.int .i64 d.spare) (.slice none 0 0)).cell? ⟨(w.heap.size+1),1,none⟩=some (.int .i64 d.so):=by unfold sx6;go_cell
    have r2:(sx6 w5 (w.heap.size+1) (.int .i64 d.kind) (.int .i64 d.so) (.slice al d.labs.length cl) (.slice at1 (nums ps d.nxt).length ct) (.int .i64 d.spare) (.slice none 0 0)).cell? ⟨(w.heap.size+1),2,none⟩=some (.slice al d.labs.length cl):=by unfold sx6;go_cell
    have r3:(sx6 w5 (w.heap.size+1) (.int .i64 d.kind) (.int .i64 d.so) (.slice al d.labs.length cl) (.slice at1 (nums ps d.nxt).length ct) (.int .i64 d.spare) (.slice none 0 0)).cell? ⟨(w.heap.size+1),3,none⟩=some (.slice at1 (nums ps d.nxt).length ct):=by unfold sx6;go_cell
    have r4:(sx6 w5 (w.heap.size+1) (.int .i64 d.kind) (.int .i64 d.so) (.slice al d.labs.length cl) (.slice at1 (nums ps d.nxt).length ct) (.int .i64 d.spare) (.slice none 0 0)).cell? ⟨(w.heap.size+1),4,none⟩=some (.int .i64 d.spare):=by unfold sx6;go_cell
    have r5:(sx6 w5 (w.heap.size+1) (.int .i64 d.kind) (.int .i64 d.so) (.slice al d.labs.length cl) (.slice at1 (nums ps d.nxt).length ct) (.int .i64 d.spare) (.slice none 0 0)).cell? ⟨(w.heap.size+1),5,none⟩=some (.slice none 0 0):=by unfold sx6;go_cell
    change bodyPost _ _ _ _ _ (sx6 w5 (w.heap.size+1) (.int .i64 d.kind) (.int .i64 d.so) (.slice al d.labs.length cl) (.slice at1 (nums ps d.nxt).length ct) (.int .i64 d.spare) (.slice none 0 0))
    refine bodyPost_ret (v:=.agg #[.int .i64 d.kind,.int .i64 d.so,.slice al d.labs.length cl,.slice at1 (nums ps d.nxt).length ct,.int .i64 d.spare,.slice none 0 0]) (by simp [results,Tryz.results14,go_sem,r0,r1,r2,r3,r4,r5]) rfl ?_
    exact ⟨u5,al,cl,at1,ct,rfl,HFN.out.1,HFN.out.2.1,HFN.out.2.2.1,HFN.out.2.2.2.1,HFN.out.2.2.2.2⟩
   ·have CX:=hideK (CE1.out (by rw [hwq];rfl))
    clear CE1 CB1 hwq;have hzc:=HZC.out;have hrb:=HRB.out;have hsw:=wc.heap.size;go_wp2_with fail
    refine (CX.out wc hzc).mono ?_;rintro e w5 ⟨u5,al,cl,at1,ct,rfl,hz5,hr5,hf5,hl5,hn5⟩;have hkb:=(hr5.block (w.heap.size+1) (by omega) (by omega) (by omega) (fun e=>by have:=HUB.out _ e.symm;omega)).trans hrb
    obtain ⟨t0,x0⟩:=(HQ4.out.2 0 (by omega)).imp fun v hv=>(World.cell?_of_block (a:=⟨(w.heap.size+1),0,none⟩) hkb).trans hv
    obtain ⟨t1,x1⟩:=(HQ4.out.2 1 (by omega)).imp fun v hv=>(World.cell?_of_block (a:=⟨(w.heap.size+1),1,none⟩) hkb).trans hv
    obtain ⟨t2,x2⟩:=(HQ4.out.2 2 (by omega)).imp fun v hv=>(World.cell?_of_block (a:=⟨(w.heap.size+1),2,none⟩) hkb).trans hv
    obtain ⟨t3,x3⟩:=(HQ4.out.2 3 (by omega)).imp fun v hv=>(World.cell?_of_block (a:=⟨(w.heap.size+1),3,none⟩) hkb).trans hv
    obtain ⟨t4,x4⟩:=(HQ4.out.2 4 (by omega)).imp fun v hv=>(World.cell?_of_block (a:=⟨(w.heap.size+1),4,none⟩) hkb).trans hv
    obtain ⟨t5,x5⟩:=(HQ4.out.2 5 (by omega)).imp fun v hv=>(World.cell?_of_block (a:=⟨(w.heap.size+1),5,none⟩) hkb).trans hv
    have f0:=(World.frozen?_of_block (a:=⟨(w.heap.size+1),0,none⟩) hkb).trans (HQ4.out.1 0 (by omega))
    have f1:=(World.frozen?_of_block (a:=⟨(w.heap.size+1),1,none⟩) hkb).trans (HQ4.out.1 1 (by omega))
    have f2:=(World.frozen?_of_block (a:=⟨(w.heap.size+1),2,none⟩) hkb).trans (HQ4.out.1 2 (by omega))
    have f3:=(World.frozen?_of_block (a:=⟨(w.heap.size+1),3,none⟩) hkb).trans (HQ4.out.1 3 (by omega))
    have f4:=(World.frozen?_of_block (a:=⟨(w.heap.size+1),4,none⟩) hkb).trans (HQ4.out.1 4 (by omega))
    have f5:=(World.frozen?_of_block (a:=⟨(w.heap.size+1),5,none⟩) hkb).trans (HQ4.out.1 5 (by omega))
    have hfin:=DPost.fin (d:=d) (ps:=ps) (rb:=(w.heap.size+1)) hbc (by omega) (by omega) hB hw0 hdb hmb HUB.out hz5 hr5 hf5 hl5 hn5 (.int .i64 d.kind) (.int .i64 d.so) (.slice al d.labs.length cl) (.slice at1 (nums ps d.nxt).length ct) (.int .i64 d.spare) (.slice none 0 0)
    have HFN:=hideK hfin;clear hz5 hr5 hf5 hl5 hn5 hkb hfin CX;simp only [dVal];go_wp2_with fail
    have r0:(sx6 w5 (w.heap.size+1) (.int .i64 d.kind) (.int .i64 d.so) (.slice al d.labs.length cl) (.slice at1 (nums ps d.nxt).length ct) (.int .i64 d.spare) (.slice none 0 0)).cell? ⟨(w.heap.size+1),0,none⟩=some (.int .i64 d.kind):=by unfold sx6;go_cell
    have r1:(sx6 w5 (w.heap.size+1) (.int .i64 d.kind) (.int .i64 d.so) (.slice al d.labs.length cl) (.slice at1 (nums ps d.nxt).length ct) (.int .i64 d.spare) (.slice none 0 0)).cell? ⟨(w.heap.size+1),1,none⟩=some (.int .i64 d.so):=by unfold sx6;go_cell
    have r2:(sx6 w5 (w.heap.size+1) (.int .i64 d.kind) (.int .i64 d.so) (.slice al d.labs.length cl) (.slice at1 (nums ps d.nxt).length ct) (.int .i64 d.spare) (.slice none 0 0)).cell? ⟨(w.heap.size+1),2,none⟩=some (.slice al d.labs.length cl):=by unfold sx6;go_cell
    have r3:(sx6 w5 (w.heap.size+1) (.int .i64 d.kind) (.int .i64 d.so) (.slice al d.labs.length cl) (.slice at1 (nums ps d.nxt).length ct) (.int .i64 d.spare) (.slice none 0 0)).cell? ⟨(w.heap.size+1),3,none⟩=some (.slice at1 (nums ps d.nxt).length ct):=by unfold sx6;go_cell
    have r4:(sx6 w5 (w.heap.size+1) (.int .i64 d.kind) (.int .i64 d.so) (.slice al d.labs.length cl) (.slice at1 (nums ps d.nxt).length ct) (.int .i64 d.spare) (.slice none 0 0)).cell? ⟨(w.heap.size+1),4,none⟩=some (.int .i64 d.spare):=by unfold sx6;go_cell
    have r5:(sx6 w5 (w.heap.size+1) (.int .i64 d.kind) (.int .i64 d.so) (.slice al d.labs.length cl) (.slice at1 (nums ps d.nxt).length ct) (.int .i64 d.spare) (.slice none 0 0)).cell? ⟨(w.heap.size+1),5,none⟩=some (.slice none 0 0):=by unfold sx6;go_cell
    change bodyPost _ _ _ _ _ (sx6 w5 (w.heap.size+1) (.int .i64 d.kind) (.int .i64 d.so) (.slice al d.labs.length cl) (.slice at1 (nums ps d.nxt).length ct) (.int .i64 d.spare) (.slice none 0 0))
    refine bodyPost_ret (v:=.agg #[.int .i64 d.kind,.int .i64 d.so,.slice al d.labs.length cl,.slice at1 (nums ps d.nxt).length ct,.int .i64 d.spare,.slice none 0 0]) (by simp [results,Tryz.results14,go_sem,r0,r1,r2,r3,r4,r5]) rfl ?_
    exact ⟨u5,al,cl,at1,ct,rfl,HFN.out.1,HFN.out.2.1,HFN.out.2.2.1,HFN.out.2.2.2.1,HFN.out.2.2.2.2⟩
   ·have CX:=hideK (CE1.out (by rw [hwq];rfl))
    clear CE1 CB1 hwq;have hzc:=HZC.out;have hrb:=HRB.out;have hsw:=wc.heap.size;go_wp2_with fail
    refine (CX.out wc hzc).mono ?_;rintro e w5 ⟨u5,al,cl,at1,ct,rfl,hz5,hr5,hf5,hl5,hn5⟩;have hkb:=(hr5.block (w.heap.size+1) (by omega) (by omega) (by omega) (fun e=>by have:=HUB.out _ e.symm;omega)).trans hrb
    obtain ⟨t0,x0⟩:=(HQ4.out.2 0 (by omega)).imp fun v hv=>(World.cell?_of_block (a:=⟨(w.heap.size+1),0,none⟩) hkb).trans hv
    obtain ⟨t1,x1⟩:=(HQ4.out.2 1 (by omega)).imp fun v hv=>(World.cell?_of_block (a:=⟨(w.heap.size+1),1,none⟩) hkb).trans hv
    obtain ⟨t2,x2⟩:=(HQ4.out.2 2 (by omega)).imp fun v hv=>(World.cell?_of_block (a:=⟨(w.heap.size+1),2,none⟩) hkb).trans hv
    obtain ⟨t3,x3⟩:=(HQ4.out.2 3 (by omega)).imp fun v hv=>(World.cell?_of_block (a:=⟨(w.heap.size+1),3,none⟩) hkb).trans hv
    obtain ⟨t4,x4⟩:=(HQ4.out.2 4 (by omega)).imp fun v hv=>(World.cell?_of_block (a:=⟨(w.heap.size+1),4,none⟩) hkb).trans hv
    obtain ⟨t5,x5⟩:=(HQ4.out.2 5 (by omega)).imp fun v hv=>(World.cell?_of_block (a:=⟨(w.heap.size+1),5,none⟩) hkb).trans hv
    have f0:=(World.frozen?_of_block (a:=⟨(w.heap.size+1),0,none⟩) hkb).trans (HQ4.out.1 0 (by omega))
    have f1:=(World.frozen?_of_block (a:=⟨(w.heap.size+1),1,none⟩) hkb).trans (HQ4.out.1 1 (by omega))
    have f2:=(World.frozen?_of_block (a:=⟨(w.heap.size+1),2,none⟩) hkb).trans (HQ4.out.1 2 (by omega))
    have f3:=(World.frozen?_of_block (a:=⟨(w.heap.size+1),3,none⟩) hkb).trans (HQ4.out.1 3 (by omega))
    have f4:=(World.frozen?_of_block (a:=⟨(w.heap.size+1),4,none⟩) hkb).trans (HQ4.out.1 4 (by omega))
    have f5:=(World.frozen?_of_block (a:=⟨(w.heap.size+1),5,none⟩) hkb).trans (HQ4.out.1 5 (by omega))
    have hfin:=DPost.fin (d:=d) (ps:=ps) (rb:=(w.heap.size+1)) hbc (by omega) (by omega) hB hw0 hdb hmb HUB.out hz5 hr5 hf5 hl5 hn5 (.int .i64 d.kind) (.int .i64 d.so) (.slice al d.labs.length cl) (.slice at1 (nums ps d.nxt).length ct) (.int .i64 d.spare) (.slice none 0 0)
    have HFN:=hideK hfin;clear hz5 hr5 hf5 hl5 hn5 hkb hfin CX;simp only [dVal];go_wp2_with fail
    have r0:(sx6 w5 (w.heap.size+1) (.int .i64 d.kind) (.int .i64 d.so) (.slice al d.labs.length cl) (.slice at1 (nums ps d.nxt).length ct) (.int .i64 d.spare) (.slice none 0 0)).cell? ⟨(w.heap.size+1),0,none⟩=some (.int .i64 d.kind):=by unfold sx6;go_cell
    have r1:(sx6 w5 (w.heap.size+1) (.int .i64 d.kind) (.int .i64 d.so) (.slice al d.labs.length cl) (.slice at1 (nums ps d.nxt).length ct) (.int .i64 d.spare) (.slice none 0 0)).cell? ⟨(w.heap.size+1),1,none⟩=some (.int .i64 d.so):=by unfold sx6;go_cell
    have r2:(sx6 w5 (w.heap.size+1) (.int .i64 d.kind) (.int .i64 d.so) (.slice al d.labs.length cl) (.slice at1 (nums ps d.nxt).length ct) (.int .i64 d.spare) (.slice none 0 0)).cell? ⟨(w.heap.size+1),2,none⟩=some (.slice al d.labs.length cl):=by unfold sx6;go_cell
    have r3:(sx6 w5 (w.heap.size+1) (.int .i64 d.kind) (.int .i64 d.so) (.slice al d.labs.length cl) (.slice at1 (nums ps d.nxt).length ct) (.int .i64 d.spare) (.slice none 0 0)).cell? ⟨(w.heap.size+1),3,none⟩=some (.slice at1 (nums ps d.nxt).length ct):=by unfold sx6;go_cell
    have r4:(sx6 w5 (w.heap.size+1) (.int .i64 d.kind) (.int .i64 d.so) (.slice al d.labs.length cl) (.slice at1 (nums ps d.nxt).length ct) (.int .i64 d.spare) (.slice none 0 0)).cell? ⟨(w.heap.size+1),4,none⟩=some (.int .i64 d.spare):=by unfold sx6;go_cell
    have r5:(sx6 w5 (w.heap.size+1) (.int .i64 d.kind) (.int .i64 d.so) (.slice al d.labs.length cl) (.slice at1 (nums ps d.nxt).length ct) (.int .i64 d.spare) (.slice none 0 0)).cell? ⟨(w.heap.size+1),5,none⟩=some (.slice none 0 0):=by unfold sx6;go_cell
    change bodyPost _ _ _ _ _ (sx6 w5 (w.heap.size+1) (.int .i64 d.kind) (.int .i64 d.so) (.slice al d.labs.length cl) (.slice at1 (nums ps d.nxt).length ct) (.int .i64 d.spare) (.slice none 0 0))
    refine bodyPost_ret (v:=.agg #[.int .i64 d.kind,.int .i64 d.so,.slice al d.labs.length cl,.slice at1 (nums ps d.nxt).length ct,.int .i64 d.spare,.slice none 0 0]) (by simp [results,Tryz.results14,go_sem,r0,r1,r2,r3,r4,r5]) rfl ?_
    exact ⟨u5,al,cl,at1,ct,rfl,HFN.out.1,HFN.out.2.1,HFN.out.2.2.1,HFN.out.2.2.2.1,HFN.out.2.2.2.2⟩
theorem draftAt_any(g h:List Nd)(ag ah:OAd)(cg ch B:Nat)(w0:World)(db mb:Nat)(ud:Value)(ps:List Pz)(u:Value)(p:Pz)(w:World)(hz:ZW w0 db mb (.slice ag g.length cg) (.slice ah h.length ch) ud ps u w)(hB:B≤w0.heap.size)(hga:GAt w0 B g ag)(hha:GAt w0 B h ah)(hg:GN g)(hh:GN h)(o:okZ g h p)
  (hps:∀i,PS (((drP g h p).nxt.take i).foldl addZ ps)) (hsm:∀q∈(drP g h p).nxt,smPz q) :
  Calls Tryz.prog 14 #[.pointer (some ⟨db,0,none⟩),pkZ p] w (DPost w0 db mb (.slice ag g.length cg) (.slice ah h.length ch) ud B (drP g h p) ps u w):=by
 by_cases h2:p.2.1 = -1
 ·exact draftA_any g h ag ah cg ch B w0 db mb ud ps u p w hz hB hga hha hg hh o h2 hps hsm
 ·by_cases h1:p.1 = -1
  ·exact draftB_any g h ag ah cg ch B w0 db mb ud ps u p w hz hB hga hha hg hh o h2 h1 hps hsm
  ·exact draftC_any g h ag ah cg ch B w0 db mb ud ps u p w hz hB hga hha hg hh o h2 h1 hps hsm
end Go.Proofs.YtnedgkcejlhnbaaGreatDoor
