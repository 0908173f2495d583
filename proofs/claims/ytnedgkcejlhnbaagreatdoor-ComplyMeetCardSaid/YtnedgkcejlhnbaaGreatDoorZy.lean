/-
  The contract of (*below.drafting).left.
-/
import Derived.Test.YtnedgkcejlhnbaaGreatDoorSz
import Derived.Test.YtnedgkcejlhnbaaGreatDoorZx
set_option maxRecDepth 100000
set_option maxHeartbeats 8000000
namespace Go.Proofs.YtnedgkcejlhnbaaGreatDoor
open Go.RowKit Go.Shelf
theorem inB{id:Nat}{K:Act→World→Prop}{Q:Exit→Act→World→Prop}{a:Act}{w:World}(h:Exit.then K Q .normal a w):Exit.inBlock id (Exit.then K Q) .normal a w:=h
theorem left_any(w:World)(db gd cap:Nat)(ts:List Dk)(sp:List Int)(H:LW w db gd cap ts sp):
  Calls Tryz.prog 17 #[.pointer (some ⟨db,0,none⟩)] w fun e w'=>(∃R ao co,RI (ts.map (·.nd)) sp R R.length∧e = .returned (.slice ao R.length co)∧GAt w' w'.heap.size (R.map fun x=>lfK sp R (nodeAt (ts.map (·.nd)) x)) ao)∧Below w.heap.size w w':=by
 obtain ⟨i1,hj,hy0,hy1,hy2⟩:=info_parts infoInZ;have hnN:=H.nN;have hdl0:=H.dl;have hgl0:=H.gl;have HRI0:=hideK H.ri;have HSH:=hideK H.shut;have HLW:=hideK H;have hmm:∀w:World,(Instr.makeMap 88 none).run Tryz.prog w = .ok (.map (some w.heap.size)) (w.alloc (.map #[] 0)):=fun w=>rfl
 have hsA:(w.alloc (.cells #[.int .i64 0] 3)).heap.size=w.heap.size+1:=by simp
 obtain ⟨hl0,W2,hrun2,hg2,hz2,hm2⟩:=lookN_out (MPN.new (w.alloc (.cells #[.int .i64 0] 3))) (fun p hp=>by cases hp) (p:=0) (by omega) (by simp)
 rw [hsA]at hrun2 hg2 hm2;have HLO0:=hideK (LO.start hg2 hm2);clear H hg2 hm2 hz2 hl0;go_enter Tryz.func17,Tryz.ntmps17
 go_wp2_with (refine wpList_insN rfl (.tmp 13) _ _ 88 rfl rfl rfl rfl hrun2 ?_)
 generalize hmbe:w.heap.size+1=mb at *;have hmbw:w.heap.size<mb:=by omega
 clear hrun2 hmm hsA hmbe;go_loopw [3,5] (fun rv ov wr=>∃(R:List Nat) (tks:List TkN) (Y:Nat→Prop),LO w mb Y R tks rv ov wr∧RI (ts.map (·.nd)) sp R tks.length∧tks.map (·.1)=(R.take tks.length).map fun x=>lfK sp R (nodeAt (ts.map (·.nd)) x)) (fun _ ov _=>ts.length - slLen ov)
 case atStart=>exact ⟨[0],[],_,HLO0.out,HRI0.out,rfl⟩
 case round =>
  obtain ⟨R,tks,Y,hLO,hRI,hmap⟩:=hrel;clear HLO0 HRI0;have hown0:=hLO.rw_.own 0 (by omega)
  have hown1:=hLO.rw_.own 1 (by omega)
  obtain ⟨ra,rc,hrv⟩:=sliceH_own hown0;obtain ⟨oa,oc,hov⟩:=sliceH_own hown1;have hrv':u3 = .slice ra R.length rc:=hrv;have hov':u5 = .slice oa tks.length oc:=hov;subst hrv' hov';have hRl:=hRI.len;rw [List.length_map]at hRl;have hbl:=hLO.rw_.bl;have hsr:=hbl.size;have hml:=hRI.le;by_cases hm:tks.length<R.length
  ·have hltz:(tks.length:Int)<(R.length:Int):=by omega
   have hmz:(tks.length:Int)≤1000000:=by omega
   obtain ⟨gr,cp,eu,hgB,hgl2,hcc⟩:=(own_cells hown0).resolve_left (fun h=>by have:=h.2.1;have h2:R.length=0:=this;omega)
   injection eu with eu1 eu3 eu2
   clear eu3;subst eu1 eu2;have d5:wr.cell? ⟨gr,tks.length,none⟩=some (.int .i64 (R[tks.length]:Int)):=hcc tks.length _ (by show (iC R)[tks.length]? = _;unfold iC;rw [List.getElem?_map,List.getElem?_eq_getElem hm];rfl)
   have hxl:R[tks.length]<ts.length:=by have:=hRI.lt _ (List.getElem_mem hm);rwa [List.length_map]at this
   have hxa:=hRI.lv _ (List.getElem_mem hm);have hnA:=LW.at_ hxl;have HFG:=hideK (fun j=>fR_good hRI (n:=nodeAt (ts.map (·.nd)) R[tks.length]) (fun x hx=>shut_at HSH.out _ x hx) j)
   have HST:=hideK (hRI.step HSH.out hm);have HMO:=hideK (fun R'=>lf_more (R':=R') hRI hm hmap)
   have HLO:=hideK hLO;have k0:=(hbl.cell (p:=⟨gd,R[tks.length]*6+0,none⟩) hgl0).trans (HLW.out.row _ hxl 0 _ (by omega) rfl)
   have k1:=(hbl.cell (p:=⟨gd,R[tks.length]*6+1,none⟩) hgl0).trans (HLW.out.row _ hxl 1 _ (by omega) rfl)
   have k2:=(hbl.cell (p:=⟨gd,R[tks.length]*6+2,none⟩) hgl0).trans (HLW.out.row _ hxl 2 _ (by omega) rfl)
   have k3:=(hbl.cell (p:=⟨gd,R[tks.length]*6+3,none⟩) hgl0).trans (HLW.out.row _ hxl 3 _ (by omega) rfl)
   have k4:=(hbl.cell (p:=⟨gd,R[tks.length]*6+4,none⟩) hgl0).trans (HLW.out.r4 _ hxl);obtain ⟨xa,xn,xc,hx5⟩:=HLW.out.r5 _ hxl;have k5:=(hbl.cell (p:=⟨gd,R[tks.length]*6+5,none⟩) hgl0).trans hx5;have HOK:=hideK (HLW.out.ok _ (List.getElem_mem hxl));have hq6:=HLW.out.t6 _ (List.getElem_mem hxl);have HLB:=hideK (HLW.out.lb _ (List.getElem_mem hxl));have HXS:=hideK (HLW.out.sh _ (List.getElem_mem hxl));rw [hnA]at HFG HST HMO;generalize R[tks.length]=x at *;generalize hq:ts[x]=q at *;obtain ⟨n,al,cl,at1,ct,sq,nbq⟩:=q;simp only [Nat.add_zero]at k0;simp only at HFG HST HMO HOK hq6 HLB HXS;generalize sp.getD x 0=sx at *;have hc4:=(hbl.cell (p:=⟨db,4,none⟩) hdl0).trans HLW.out.c4;have HS5:=hideK (And.intro hc4 (And.intro d5 (And.intro k0 (And.intro k1 (And.intro k2 (And.intro k3 (And.intro k4 k5)))))));have hxz:(x:Int)<(ts.length:Int):=by omega
   have HK5:=hideK (fun (W:World) (hb:Below wr.heap.size wr W)=>show W.cell? ⟨db,4,none⟩=some (.slice (some ⟨gd,0,none⟩) ts.length cap)∧W.cell? ⟨gr,tks.length,none⟩=some (.int .i64 (x:Int))∧W.cell? ⟨gd,x*6,none⟩=some (.int .i64 n.kind)∧W.cell? ⟨gd,x*6+1,none⟩=some (.int .i64 n.so)∧W.cell? ⟨gd,x*6+2,none⟩=some (.slice al n.labs.length cl)∧W.cell? ⟨gd,x*6+3,none⟩=some (.slice at1 n.to.length ct)∧W.cell? ⟨gd,x*6+4,none⟩=some (.int .i64 sx)∧W.cell? ⟨gd,x*6+5,none⟩=some (.slice xa xn xc) from ⟨(hb.cell (p:=⟨db,4,none⟩) (by show db<_;omega)).trans hc4,(hb.cell (p:=⟨gr,tks.length,none⟩) hgl2).trans d5,(hb.cell (p:=⟨gd,x*6,none⟩) (by show gd<_;omega)).trans k0,(hb.cell (p:=⟨gd,x*6+1,none⟩) (by show gd<_;omega)).trans k1,(hb.cell (p:=⟨gd,x*6+2,none⟩) (by show gd<_;omega)).trans k2,(hb.cell (p:=⟨gd,x*6+3,none⟩) (by show gd<_;omega)).trans k3,(hb.cell (p:=⟨gd,x*6+4,none⟩) (by show gd<_;omega)).trans k4,(hb.cell (p:=⟨gd,x*6+5,none⟩) (by show gd<_;omega)).trans k5⟩)
   clear hLO hRI hmap hown0 hown1 hrv hov hcc d5 k0 k1 k2 k3 k4 k5 hx5 hq hnA hc4 hxa;go_wp2_with fail
   refine wp_region_upto (fun W:World=>W.cell? ⟨db,4,none⟩=some (.slice (some ⟨gd,0,none⟩) ts.length cap)∧W.cell? ⟨gr,tks.length,none⟩=some (.int .i64 (x:Int))∧W.cell? ⟨gd,x*6,none⟩=some (.int .i64 n.kind)∧W.cell? ⟨gd,x*6+1,none⟩=some (.int .i64 n.so)∧W.cell? ⟨gd,x*6+2,none⟩=some (.slice al n.labs.length cl)∧W.cell? ⟨gd,x*6+3,none⟩=some (.slice at1 n.to.length ct)∧W.cell? ⟨gd,x*6+4,none⟩=some (.int .i64 sx)∧W.cell? ⟨gd,x*6+5,none⟩=some (.slice xa xn xc)) 12 (by kernel_rfl) (HS5.out) (fun hS=>?_)
   refine tkU 0 (.pointer (some ⟨db,0,none⟩)) hS ?_;simp only [Act.put,sA,sB,sC];refine tkU 1 (.pointer (some ⟨db,0,none⟩)) hS ?_;simp only [Act.put,sA,sB,sC];refine tkU 2 (.pointer (some ⟨db,4,none⟩)) hS ?_;simp only [Act.put,sA,sB,sC];refine tkU 3 (.slice (some ⟨gd,0,none⟩) ts.length cap) hS ?_ (hy:=Or.inl ⟨by rfl,fun W hW=>by have x0:=hW.1;go_simp⟩)
   simp only [Act.put,sA,sB,sC];refine tkU 4 (.slice (some ⟨gr,0,none⟩) R.length rc) hS ?_;simp only [Act.put,sA,sB,sC];refine tkU 5 (.slice oa tks.length oc) hS ?_;simp only [Act.put,sA,sB,sC];refine tkU 6 (.int .i64 (tks.length:Int)) hS ?_;simp only [Act.put,sA,sB,sC];refine tkU 7 (.pointer (some ⟨gr,tks.length,none⟩)) hS ?_;simp only [Act.put,sA,sB,sC];refine tkU 8 (.int .i64 (x:Int)) hS ?_ (hy:=Or.inl ⟨by rfl,fun W hW=>by have x0:=hW.2.1;go_simp⟩)
   simp only [Act.put,sA,sB,sC];refine tkU 9 (.pointer (some ⟨gd,x*6,none⟩)) hS ?_;simp only [Act.put,sA,sB,sC];refine tkU 10 (.agg #[.int .i64 n.kind,.int .i64 n.so,.slice al n.labs.length cl,.slice at1 n.to.length ct,.int .i64 sx,.slice xa xn xc]) hS ?_ (hy:=Or.inl ⟨by rfl,fun W hW=>by obtain ⟨_,_,x0,x1,x2,x3,x4,x5⟩:=hW;go_simp⟩)
   simp only [Act.put,sA,sB,sC];refine onU 11 (fun K hK=>?_)
   go_simp
   have hb5:Below wr.heap.size wr (wr.drew.alloc (.cells #[.int .i64 0,.int .i64 0,.slice none 0 0,.slice none 0 0,.int .i64 0,.slice none 0 0] 58)):=(Below.refl _ _).drew.alloc (Nat.le_refl _) _;have hSn:=HK5.out _ hb5;refine hK.out _ _ hSn ?_;clear hS hK K hSn;intro hS;try simp only [Act.put,sA,sB,sC]
   refine upto_last (by rw [List.getElem?_toArray];rfl) (by kernel_rfl) (fun K hK=>?_)
   go_simp
   refine hK.out _ _ ?_;clear hS hK K;clear hb5;refine upto_done (by kernel_rfl) ?_ _
   go_wp2_with fail
   obtain ⟨i2,kj,ky0,ky1,ky2⟩:=info_parts infoSG;have hb6:Below wr.heap.size wr (((wr.alloc (.cells #[.int .i64 n.kind,.int .i64 n.so,.slice al n.labs.length cl,.slice at1 n.to.length ct,.int .i64 sx,.slice xa xn xc] 58)).alloc (.cells #[.int .i64 n.kind,.int .i64 n.so,.slice none 0 0,.slice none 0 0] 56)).drew):=(((Below.refl _ _).alloc (Nat.le_refl _) _).alloc (by simp) _).drew
   have hs6:(((wr.alloc (.cells #[.int .i64 n.kind,.int .i64 n.so,.slice al n.labs.length cl,.slice at1 n.to.length ct,.int .i64 sx,.slice xa xn xc] 58)).alloc (.cells #[.int .i64 n.kind,.int .i64 n.so,.slice none 0 0,.slice none 0 0] 56)).drew).heap.size=wr.heap.size+1+1:=by simp
   have HLI:=hideK (show LI w mb wr.heap.size (wr.heap.size+1) Y (fun j=>(dC ⟨n,al,cl,at1,ct,sx,.slice xa xn xc⟩).getD j (.int .i64 0)) n.kind n.so R tks [] [] (.slice (some ⟨gr,0,none⟩) R.length rc) (.slice oa tks.length oc) nil4 nil4 (((wr.alloc (.cells #[.int .i64 n.kind,.int .i64 n.so,.slice al n.labs.length cl,.slice at1 n.to.length ct,.int .i64 sx,.slice xa xn xc] 58)).alloc (.cells #[.int .i64 n.kind,.int .i64 n.so,.slice none 0 0,.slice none 0 0] 56)).drew) from HLO.out.begin hb6 ⟨Nat.le_refl _,by omega⟩ ⟨by omega,by omega⟩ (by omega) (by go_cell) (by go_cell) (by show _=some (Value.slice none 0 0);go_cell) (by show _=some (Value.slice none 0 0);go_cell) (fun j=>by go_simp) (fun j hj=>by
    rcases (show j=0∨j=1∨j=2∨j=3∨j=4∨j=5 by omega) with rfl|rfl|rfl|rfl|rfl|rfl <;> (simp only [dC,List.getD_cons_zero,List.getD_cons_succ];go_cell)))
   have hwm:=HLI.out.wm;have hne:=HLI.out.ne;clear hb6 hs6 HLO HK5 HS5 hgl2 hbl;generalize hw6:(((wr.alloc (.cells #[.int .i64 n.kind,.int .i64 n.so,.slice al n.labs.length cl,.slice at1 n.to.length ct,.int .i64 sx,.slice xa xn xc] 58)).alloc (.cells #[.int .i64 n.kind,.int .i64 n.so,.slice none 0 0,.slice none 0 0] 56)).drew)=W6 at *;generalize wr.heap.size+1=nx at *;generalize wr.heap.size=ox at *;clear hw6;go_loopw [3,42] (fun rv i wr=>∃(j:Nat) (tv lv:Value),j≤n.to.length∧i = .int .i64 (j:Int)∧LI w mb ox nx Y (fun j=>(dC ⟨n,al,cl,at1,ct,sx,.slice xa xn xc⟩).getD j (.int .i64 0)) n.kind n.so (fR sp n R j) tks (fO sp n R j) (fL sp n j) rv (.slice oa tks.length oc) tv lv wr) (fun _ i _=>n.to.length - (intOf i).toNat)
   case atStart=>exact ⟨0,nil4,nil4,Nat.zero_le _,rfl,HLI.out⟩
   case round =>
    obtain ⟨j,tv,lv,hjn,rfl,hLI⟩:=hrel;clear HLI;obtain ⟨ra,rc2,hrv⟩:=sliceH_own (hLI.rw_.own 0 (by omega))
    have hrv':u3 = .slice ra (fR sp n R j).length rc2:=hrv;subst hrv';obtain ⟨ta,tc,htv⟩:=sliceH_own (hLI.rw_.own 2 (by omega))
    have htv':tv = .slice ta (fO sp n R j).length tc:=htv;subst htv';obtain ⟨la,lc,hlv⟩:=sliceH_own (hLI.rw_.own 3 (by omega))
    have hlv':lv = .slice la (fL sp n j).length lc:=hlv;subst hlv';clear hrv htv hlv;have hfo:=fO_len (sp:=sp) (n:=n) (R:=R) j;have hfl:=fL_len (sp:=sp) (n:=n) j;have hbl:=hLI.rw_.bl;have hszr:=hbl.size;obtain ⟨hnd,hlt,hle⟩:=HFG.out j;rw [List.length_map]at hle;have HLI:=hideK hLI;by_cases hjl:j<n.to.length
    ·have hjz:(j:Int)<(n.to.length:Int):=by omega
     have hj6:(j:Int)≤6:=by omega
     obtain ⟨tb,to',rfl,hp1,hc⟩:=HOK.out.2.resolve_left (fun q=>by rw [q]at hjl;simp at hjl)
     have y0:=(hbl.cell (p:=⟨tb,to'+j,none⟩) hp1).trans (hc j hjl);have htl:=HXS.out _ (List.getElem_mem hjl);have c4:=(hbl.cell (p:=⟨db,4,none⟩) hdl0).trans HLW.out.c4;have y4:=(hbl.cell (p:=⟨gd,n.to[j]*6+4,none⟩) hgl0).trans (HLW.out.r4 _ htl);have hmp:=hLI.mp;have hkk:∀p∈fR sp n R j,p≤1000000:=fun p hp=>by have:=hlt p hp;rw [List.length_map]at this;omega
     clear hLI hc hlt;by_cases ha:alK sp n.to[j]=true
     ·have hnz:¬sp.getD n.to[j] 0<0:=by unfold alK at ha;have:=of_decide_eq_true ha;omega
      obtain ⟨eR,eO⟩:=fR_yes (R:=R) hjl ha;have HFL:=hideK (fun (hll:n.labs.length=n.to.length)=>show fL sp n (j+1)=fL sp n j++[n.labs[j]'(by omega)] from by rw [fL_step hjl hll,if_pos ha])
      have HER:=hideK eR;have HEO:=hideK eO;clear ha eR eO;generalize n.to[j]=t at *;generalize sp.getD t 0=sz at *;have htz:(t:Int)<(ts.length:Int):=by omega
      by_cases hmem:t∈fR sp n R j
      ·have hrun:=lookN_in hmp hkk hnd hmem
       have ea:addK (fR sp n R j) t=fR sp n R j:=if_pos hmem;rw [ea]at HER HEO;clear hmem ea hmp hkk hnd;generalize (fR sp n R j).idxOf t=y at *;by_cases hl0:n.labs=[]
       ·have hlz:¬(0:Int)<(n.labs.length:Int):=by rw [hl0];simp
        have HE:=hideK (show fL sp n (j+1)=fL sp n j from by rw [fL_nil hl0,fL_nil hl0])
        clear hl0 HFL;have b3:=HLI.out.b3;have hsz3:w.heap.size≤(wr).heap.size:=HLI.out.rw_.bl.size;have OB:=hideK (show ((wr).alloc (.cells #[.int .i64 (y:Int)] 3)).ownsRow w.heap.size 3 1 (.slice ta (fO sp n R j).length tc) (fO sp n R j).length (iC (fO sp n R j)) from own_belowG (HLI.out.rw_.own 2 (by omega)) ((Below.refl _ _).alloc (Nat.le_refl _) (.cells #[.int .i64 (y:Int)] 3)))
        have LB:=hideK (World.ownsRow_lit (base:=w.heap.size) (e:=3) (size:=1) (wr) #[.int .i64 (y:Int)] 1 hsz3 (by decide) rfl)
        go_wp2_with (first
         | (at_lookup;refine wpList_look rfl (.tmp 57) (.tmp 58) 88 rfl rfl rfl hrun ?_)
         | (at_builtin;refine wpList_append_rows _ rfl (.tmp 74) (.tmp 76) 54 rfl w.heap.size w.heap.size 3 i1 (.int .i64 0) 1 8 Tryz.underlying54 hj hy0 hy1 hy2 rfl (by decide) _ _ _ rfl OB.out _ _ _ rfl LB.out (by simp [Value.oneCell']) (by unfold maxLen;omega) (by omega) (by simp;omega) ?_;intro v8 w8 hO8 hg8 hat8;obtain ⟨va8,vc8,rfl⟩:=sliceH_own hO8;obtain ⟨L8,f8,c8⟩:=HLI.out.addT (y:=y) hg8 hO8 hat8;have x8:=L8.oc 2 (by omega);have x8':=(World.cell?_setCell_other w8 ⟨nx,3,none⟩ ⟨ox,2,none⟩ _ (by intro e;injection e with e;omega)).symm.trans x8;have HL8:=hideK L8;clear L8 hO8 hg8 hat8;simp only [dC,List.getD_cons_zero,List.getD_cons_succ]at x8 x8'))
        go_roundw
        case rel=>exact ⟨j+1,_,_,by omega,by go_num,by rw [HE.out,HER.out,HEO.out];exact HL8.out⟩
        case measure=>simp [intOf];omega
       ·have hll:=HLB.out.resolve_left hl0
        have hlz:(0:Int)<(n.labs.length:Int):=by omega
        have hjlz:(j:Int)<(n.labs.length:Int):=by omega
        have hjl2:j<n.labs.length:=by omega
        have HE:=hideK (HFL.out hll);obtain ⟨lb,lo,rfl,hlb,hlcs⟩:=HOK.out.1.resolve_left hl0;have hlc:=hlcs j hjl2;clear hl0 hlcs HFL;generalize n.labs[j]=l at *;have b3:=HLI.out.b3;have hsz3:w.heap.size≤(wr).heap.size:=HLI.out.rw_.bl.size;have OB:=hideK (show ((wr).alloc (.cells #[.int .i64 (y:Int)] 3)).ownsRow w.heap.size 3 1 (.slice ta (fO sp n R j).length tc) (fO sp n R j).length (iC (fO sp n R j)) from own_belowG (HLI.out.rw_.own 2 (by omega)) ((Below.refl _ _).alloc (Nat.le_refl _) (.cells #[.int .i64 (y:Int)] 3)))
        have LB:=hideK (World.ownsRow_lit (base:=w.heap.size) (e:=3) (size:=1) (wr) #[.int .i64 (y:Int)] 1 hsz3 (by decide) rfl)
        go_wp2_with (first
         | (at_lookup;refine wpList_look rfl (.tmp 57) (.tmp 58) 88 rfl rfl rfl hrun ?_)
         | (at_builtin;refine wpList_append_rows _ rfl (.tmp 74) (.tmp 76) 54 rfl w.heap.size w.heap.size 3 i1 (.int .i64 0) 1 8 Tryz.underlying54 hj hy0 hy1 hy2 rfl (by decide) _ _ _ rfl OB.out _ _ _ rfl LB.out (by simp [Value.oneCell']) (by unfold maxLen;omega) (by omega) (by simp;omega) ?_;intro v8 w8 hO8 hg8 hat8;obtain ⟨va8,vc8,rfl⟩:=sliceH_own hO8;obtain ⟨L8,f8,c8⟩:=HLI.out.addT (y:=y) hg8 hO8 hat8;have x8:=L8.oc 2 (by omega);have x8':=(World.cell?_setCell_other w8 ⟨nx,3,none⟩ ⟨ox,2,none⟩ _ (by intro e;injection e with e;omega)).symm.trans x8;have HL8:=hideK L8;clear L8 hO8 hg8 hat8;simp only [dC,List.getD_cons_zero,List.getD_cons_succ]at x8 x8'))
        generalize hV8:w8.setCell ⟨nx,3,none⟩ (.slice va8 ((fO sp n R j).length+1) vc8)=V8 at *;have hsz8:w.heap.size≤V8.heap.size:=HL8.out.rw_.bl.size;have HS8:=hideK (fun (W:World) (hb:Below V8.heap.size V8 W)=>show W.cell? ⟨nx,2,none⟩=some (.slice la (fL sp n j).length lc)∧W.cell? ⟨ox,2,none⟩=some (.slice (some ⟨lb,lo,none⟩) n.labs.length cl)∧W.cell? ⟨lb,lo+j,none⟩=some (.string l) from ⟨(hb.cell (p:=⟨nx,2,none⟩) HL8.out.lt.2.2).trans HL8.out.b2,(hb.cell (p:=⟨ox,2,none⟩) HL8.out.lt.2.1).trans (HL8.out.oc 2 (by omega)),(hb.cell (p:=⟨lb,lo+j,none⟩) (by show lb<_;omega)).trans ((HL8.out.rw_.bl.cell (p:=⟨lb,lo+j,none⟩) hlb).trans hlc)⟩)
        clear x8 x8' f8 c8;refine wp_region_upto (fun W:World=>W.cell? ⟨nx,2,none⟩=some (.slice la (fL sp n j).length lc)∧W.cell? ⟨ox,2,none⟩=some (.slice (some ⟨lb,lo,none⟩) n.labs.length cl)∧W.cell? ⟨lb,lo+j,none⟩=some (.string l)) 11 (by kernel_rfl) (HS8.out V8 (Below.refl _ _)) (fun hS=>?_)
        refine tkU 0 (.pointer (some ⟨nx,2,none⟩)) hS ?_;simp only [Act.put,sA,sB,sC];refine tkU 1 (.slice la (fL sp n j).length lc) hS ?_ (hy:=Or.inl ⟨by rfl,fun W hW=>by have x0:=hW.1;go_simp⟩)
        simp only [Act.put,sA,sB,sC];refine tkU 2 (.pointer (some ⟨ox,0,none⟩)) hS ?_;simp only [Act.put,sA,sB,sC];refine tkU 3 (.pointer (some ⟨ox,2,none⟩)) hS ?_;simp only [Act.put,sA,sB,sC];refine tkU 4 (.slice (some ⟨lb,lo,none⟩) n.labs.length cl) hS ?_ (hy:=Or.inl ⟨by rfl,fun W hW=>by have x0:=hW.2.1;go_simp⟩)
        simp only [Act.put,sA,sB,sC];refine tkU 5 (.int .i64 (j:Int)) hS ?_;simp only [Act.put,sA,sB,sC];refine tkU 6 (.pointer (some ⟨lb,lo+j,none⟩)) hS ?_;simp only [Act.put,sA,sB,sC];refine tkU 7 (.string l) hS ?_ (hy:=Or.inl ⟨by rfl,fun W hW=>by have x0:=hW.2.2;go_simp⟩)
        simp only [Act.put,sA,sB,sC];have hb9:Below V8.heap.size V8 (V8.drew.alloc (.cells #[.string l] 9)):=(Below.refl _ _).drew.alloc (Nat.le_refl _) _;refine onU 8 (fun K hK=>?_)
        go_simp
        have hSn:=HS8.out _ hb9;refine hK.out _ _ hSn ?_;clear hS hK K hSn;intro hS;try simp only [Act.put,sA,sB,sC]
        have OC:=hideK (show (V8.drew.alloc (.cells #[.string l] 9)).ownsRow w.heap.size 9 1 (.slice la (fL sp n j).length lc) (fL sp n j).length ((fL sp n j).map Value.string) from own_belowG (HL8.out.rw_.own 3 (by omega)) hb9)
        have LC:=hideK (World.ownsRow_lit (base:=w.heap.size) (e:=9) (size:=1) V8.drew #[.string l] 1 hsz8 (by decide) rfl)
        refine onU 9 (fun K hK=>?_)
        refine step_append_rows _ rfl (.tmp 85) (.tmp 92) 22 rfl w.heap.size w.heap.size 9 i2 _ 1 16 Tryz.underlying22 kj ky0 ky1 ky2 rfl (by decide) _ _ _ rfl OC.out _ _ _ rfl LC.out (by simp [Value.oneCell']) (by unfold maxLen;omega) (by omega) (by simp;omega) ?_
        intro v9 w9 hO9 hg9 hat9;obtain ⟨L9,f9,c9,o9⟩:=(HL8.out.kept (Below.refl _ _).drew).addL (l:=l) hg9 hO9 hat9;have hS9:w9.cell? ⟨nx,2,none⟩=some (.slice la (fL sp n j).length lc)∧w9.cell? ⟨ox,2,none⟩=some (.slice (some ⟨lb,lo,none⟩) n.labs.length cl)∧w9.cell? ⟨lb,lo+j,none⟩=some (.string l):=⟨c9,o9 2 (by omega),(World.cell?_setCell_other w9 ⟨nx,2,none⟩ ⟨lb,lo+j,none⟩ v9 (by intro e;injection e with e;omega)).symm.trans ((L9.rw_.bl.cell (p:=⟨lb,lo+j,none⟩) hlb).trans hlc)⟩
        have HL9:=hideK L9;clear L9 o9 c9;obtain ⟨va9,vc9,rfl⟩:=sliceH_own hO9;clear hO9 hg9 hat9 hb9;have hSn:=hS9;refine hK.out _ _ hSn ?_;clear hS hK K hSn;intro hS;try simp only [Act.put,sA,sB,sC]
        refine onU 10 (fun K hK=>?_)
        go_simp
        have hSn:=hS;refine hK.out _ _ hSn ?_;clear hS hK K hSn;intro hS;try simp only [Act.put,sA,sB,sC]
        have x9:=hS.1;refine upto_last (by rw [List.getElem?_toArray];rfl) (by kernel_rfl) (fun K hK=>?_)
        go_simp
        refine hK.out _ _ ?_;clear hS hK K;refine upto_done (by kernel_rfl) ?_ _
        refine inB ?_;go_wp2_with fail
        refine ⟨⟨_,_,_,_,_,_,⟨j+1,by omega,by go_num,_,_,by rw [HE.out,HER.out,HEO.out];exact HL9.out⟩,rfl,rfl,rfl,rfl,rfl,rfl⟩,?_⟩
        first|omega|(simp [intOf];omega)
      ·have hrun:=(lookN_out hmp hkk (p:=t) (by omega) hmem).1
       obtain ⟨W1,hru,hg1,hz1,hm1⟩:=(lookN_out hmp hkk (p:=t) (by omega) hmem).2
       have ea:addK (fR sp n R j) t=fR sp n R j++[t]:=if_neg hmem;have eb:(fR sp n R j++[t]).idxOf t=(fR sp n R j).length:=by rw [List.idxOf_append,if_neg hmem];simp
       rw [ea]at HER HEO;rw [eb]at HEO;have hz3:w.heap.size≤W1.heap.size:=by omega
       have r1:=HLI.out.rw_.set (b0:=mb) (.inr (.inl rfl)) HLI.out.wm.1 hg1.os hg1.tape hg1.output hg1.size (fun b hb hn=>hg1.block b hb (fun e=>hn (by injection e)))
       have OA:=hideK (show (W1.alloc (.cells #[.int .i64 (t:Int)] 3)).ownsRow w.heap.size 3 1 (.slice ra (fR sp n R j).length rc2) (fR sp n R j).length (iC (fR sp n R j)) from own_belowG (r1.own 0 (by omega)) ((Below.refl _ _).alloc (Nat.le_refl _) (.cells #[.int .i64 (t:Int)] 3)))
       have LA1:=hideK (World.ownsRow_lit (base:=w.heap.size) (e:=3) (size:=1) W1 #[.int .i64 (t:Int)] 1 hz3 (by decide) rfl)
       have HG1:=hideK (And.intro hg1 hm1);clear hmem ea eb hmp hkk hnd hg1 hm1 hz1 r1;by_cases hl0:n.labs=[]
       ·have hlz:¬(0:Int)<(n.labs.length:Int):=by rw [hl0];simp
        have HE:=hideK (show fL sp n (j+1)=fL sp n j from by rw [fL_nil hl0,fL_nil hl0])
        clear hl0 HFL;go_wp2_with (first
         | (at_lookup;refine wpList_look rfl (.tmp 57) (.tmp 58) 88 rfl rfl rfl hrun ?_)
         | (at_mapUpdate;refine wpList_upd rfl (.tmp 66) (.tmp 67) (.tmp 68) 88 rfl rfl rfl rfl hru ?_)
         | (at_builtin;refine wpList_append_rows _ rfl (.tmp 69) (.tmp 71) 54 rfl w.heap.size w.heap.size 3 i1 (.int .i64 0) 1 8 Tryz.underlying54 hj hy0 hy1 hy2 rfl (by decide) _ _ _ rfl OA.out _ _ _ rfl LA1.out (by simp [Value.oneCell']) (by unfold maxLen;omega) (by omega) (by simp;omega) ?_;intro v7 w7 hO7 hg7 hat7;have HL2:=hideK (HLI.out.reach HG1.out.1 HG1.out.2 hg7 hO7 hat7);have b3:=HL2.out.b3;have hsz3:w.heap.size≤(w7).heap.size:=HL2.out.rw_.bl.size;have OB:=hideK (show ((w7).alloc (.cells #[.int .i64 ((fR sp n R j).length:Int)] 3)).ownsRow w.heap.size 3 1 (.slice ta (fO sp n R j).length tc) (fO sp n R j).length (iC (fO sp n R j)) from own_belowG (HL2.out.rw_.own 2 (by omega)) ((Below.refl _ _).alloc (Nat.le_refl _) (.cells #[.int .i64 ((fR sp n R j).length:Int)] 3)));have LB:=hideK (World.ownsRow_lit (base:=w.heap.size) (e:=3) (size:=1) (w7) #[.int .i64 ((fR sp n R j).length:Int)] 1 hsz3 (by decide) rfl);clear hO7 hg7 hat7)
         | (at_builtin;refine wpList_append_rows _ rfl (.tmp 74) (.tmp 76) 54 rfl w.heap.size w.heap.size 3 i1 (.int .i64 0) 1 8 Tryz.underlying54 hj hy0 hy1 hy2 rfl (by decide) _ _ _ rfl OB.out _ _ _ rfl LB.out (by simp [Value.oneCell']) (by unfold maxLen;omega) (by omega) (by simp;omega) ?_;intro v8 w8 hO8 hg8 hat8;obtain ⟨va8,vc8,rfl⟩:=sliceH_own hO8;obtain ⟨L8,f8,c8⟩:=HL2.out.addT (y:=(fR sp n R j).length) hg8 hO8 hat8;have x8:=L8.oc 2 (by omega);have x8':=(World.cell?_setCell_other w8 ⟨nx,3,none⟩ ⟨ox,2,none⟩ _ (by intro e;injection e with e;omega)).symm.trans x8;have HL8:=hideK L8;clear L8 hO8 hg8 hat8;simp only [dC,List.getD_cons_zero,List.getD_cons_succ]at x8 x8'))
        go_roundw
        case rel=>exact ⟨j+1,_,_,by omega,by go_num,by rw [HE.out,HER.out,HEO.out];exact HL8.out⟩
        case measure=>simp [intOf];omega
       ·have hll:=HLB.out.resolve_left hl0
        have hlz:(0:Int)<(n.labs.length:Int):=by omega
        have hjlz:(j:Int)<(n.labs.length:Int):=by omega
        have hjl2:j<n.labs.length:=by omega
        have HE:=hideK (HFL.out hll);obtain ⟨lb,lo,rfl,hlb,hlcs⟩:=HOK.out.1.resolve_left hl0;have hlc:=hlcs j hjl2;clear hl0 hlcs HFL;generalize n.labs[j]=l at *;go_wp2_with (first
         | (at_lookup;refine wpList_look rfl (.tmp 57) (.tmp 58) 88 rfl rfl rfl hrun ?_)
         | (at_mapUpdate;refine wpList_upd rfl (.tmp 66) (.tmp 67) (.tmp 68) 88 rfl rfl rfl rfl hru ?_)
         | (at_builtin;refine wpList_append_rows _ rfl (.tmp 69) (.tmp 71) 54 rfl w.heap.size w.heap.size 3 i1 (.int .i64 0) 1 8 Tryz.underlying54 hj hy0 hy1 hy2 rfl (by decide) _ _ _ rfl OA.out _ _ _ rfl LA1.out (by simp [Value.oneCell']) (by unfold maxLen;omega) (by omega) (by simp;omega) ?_;intro v7 w7 hO7 hg7 hat7;have HL2:=hideK (HLI.out.reach HG1.out.1 HG1.out.2 hg7 hO7 hat7);have b3:=HL2.out.b3;have hsz3:w.heap.size≤(w7).heap.size:=HL2.out.rw_.bl.size;have OB:=hideK (show ((w7).alloc (.cells #[.int .i64 ((fR sp n R j).length:Int)] 3)).ownsRow w.heap.size 3 1 (.slice ta (fO sp n R j).length tc) (fO sp n R j).length (iC (fO sp n R j)) from own_belowG (HL2.out.rw_.own 2 (by omega)) ((Below.refl _ _).alloc (Nat.le_refl _) (.cells #[.int .i64 ((fR sp n R j).length:Int)] 3)));have LB:=hideK (World.ownsRow_lit (base:=w.heap.size) (e:=3) (size:=1) (w7) #[.int .i64 ((fR sp n R j).length:Int)] 1 hsz3 (by decide) rfl);clear hO7 hg7 hat7)
         | (at_builtin;refine wpList_append_rows _ rfl (.tmp 74) (.tmp 76) 54 rfl w.heap.size w.heap.size 3 i1 (.int .i64 0) 1 8 Tryz.underlying54 hj hy0 hy1 hy2 rfl (by decide) _ _ _ rfl OB.out _ _ _ rfl LB.out (by simp [Value.oneCell']) (by unfold maxLen;omega) (by omega) (by simp;omega) ?_;intro v8 w8 hO8 hg8 hat8;obtain ⟨va8,vc8,rfl⟩:=sliceH_own hO8;obtain ⟨L8,f8,c8⟩:=HL2.out.addT (y:=(fR sp n R j).length) hg8 hO8 hat8;have x8:=L8.oc 2 (by omega);have x8':=(World.cell?_setCell_other w8 ⟨nx,3,none⟩ ⟨ox,2,none⟩ _ (by intro e;injection e with e;omega)).symm.trans x8;have HL8:=hideK L8;clear L8 hO8 hg8 hat8;simp only [dC,List.getD_cons_zero,List.getD_cons_succ]at x8 x8'))
        generalize hV8:w8.setCell ⟨nx,3,none⟩ (.slice va8 ((fO sp n R j).length+1) vc8)=V8 at *;have hsz8:w.heap.size≤V8.heap.size:=HL8.out.rw_.bl.size;have HS8:=hideK (fun (W:World) (hb:Below V8.heap.size V8 W)=>show W.cell? ⟨nx,2,none⟩=some (.slice la (fL sp n j).length lc)∧W.cell? ⟨ox,2,none⟩=some (.slice (some ⟨lb,lo,none⟩) n.labs.length cl)∧W.cell? ⟨lb,lo+j,none⟩=some (.string l) from ⟨(hb.cell (p:=⟨nx,2,none⟩) HL8.out.lt.2.2).trans HL8.out.b2,(hb.cell (p:=⟨ox,2,none⟩) HL8.out.lt.2.1).trans (HL8.out.oc 2 (by omega)),(hb.cell (p:=⟨lb,lo+j,none⟩) (by show lb<_;omega)).trans ((HL8.out.rw_.bl.cell (p:=⟨lb,lo+j,none⟩) hlb).trans hlc)⟩)
        clear x8 x8' f8 c8;refine wp_region_upto (fun W:World=>W.cell? ⟨nx,2,none⟩=some (.slice la (fL sp n j).length lc)∧W.cell? ⟨ox,2,none⟩=some (.slice (some ⟨lb,lo,none⟩) n.labs.length cl)∧W.cell? ⟨lb,lo+j,none⟩=some (.string l)) 11 (by kernel_rfl) (HS8.out V8 (Below.refl _ _)) (fun hS=>?_)
        refine tkU 0 (.pointer (some ⟨nx,2,none⟩)) hS ?_;simp only [Act.put,sA,sB,sC];refine tkU 1 (.slice la (fL sp n j).length lc) hS ?_ (hy:=Or.inl ⟨by rfl,fun W hW=>by have x0:=hW.1;go_simp⟩)
        simp only [Act.put,sA,sB,sC];refine tkU 2 (.pointer (some ⟨ox,0,none⟩)) hS ?_;simp only [Act.put,sA,sB,sC];refine tkU 3 (.pointer (some ⟨ox,2,none⟩)) hS ?_;simp only [Act.put,sA,sB,sC];refine tkU 4 (.slice (some ⟨lb,lo,none⟩) n.labs.length cl) hS ?_ (hy:=Or.inl ⟨by rfl,fun W hW=>by have x0:=hW.2.1;go_simp⟩)
        simp only [Act.put,sA,sB,sC];refine tkU 5 (.int .i64 (j:Int)) hS ?_;simp only [Act.put,sA,sB,sC];refine tkU 6 (.pointer (some ⟨lb,lo+j,none⟩)) hS ?_;simp only [Act.put,sA,sB,sC];refine tkU 7 (.string l) hS ?_ (hy:=Or.inl ⟨by rfl,fun W hW=>by have x0:=hW.2.2;go_simp⟩)
        simp only [Act.put,sA,sB,sC];have hb9:Below V8.heap.size V8 (V8.drew.alloc (.cells #[.string l] 9)):=(Below.refl _ _).drew.alloc (Nat.le_refl _) _;refine onU 8 (fun K hK=>?_)
        go_simp
        have hSn:=HS8.out _ hb9;refine hK.out _ _ hSn ?_;clear hS hK K hSn;intro hS;try simp only [Act.put,sA,sB,sC]
        have OC:=hideK (show (V8.drew.alloc (.cells #[.string l] 9)).ownsRow w.heap.size 9 1 (.slice la (fL sp n j).length lc) (fL sp n j).length ((fL sp n j).map Value.string) from own_belowG (HL8.out.rw_.own 3 (by omega)) hb9)
        have LC:=hideK (World.ownsRow_lit (base:=w.heap.size) (e:=9) (size:=1) V8.drew #[.string l] 1 hsz8 (by decide) rfl)
        refine onU 9 (fun K hK=>?_)
        refine step_append_rows _ rfl (.tmp 85) (.tmp 92) 22 rfl w.heap.size w.heap.size 9 i2 _ 1 16 Tryz.underlying22 kj ky0 ky1 ky2 rfl (by decide) _ _ _ rfl OC.out _ _ _ rfl LC.out (by simp [Value.oneCell']) (by unfold maxLen;omega) (by omega) (by simp;omega) ?_
        intro v9 w9 hO9 hg9 hat9;obtain ⟨L9,f9,c9,o9⟩:=(HL8.out.kept (Below.refl _ _).drew).addL (l:=l) hg9 hO9 hat9;have hS9:w9.cell? ⟨nx,2,none⟩=some (.slice la (fL sp n j).length lc)∧w9.cell? ⟨ox,2,none⟩=some (.slice (some ⟨lb,lo,none⟩) n.labs.length cl)∧w9.cell? ⟨lb,lo+j,none⟩=some (.string l):=⟨c9,o9 2 (by omega),(World.cell?_setCell_other w9 ⟨nx,2,none⟩ ⟨lb,lo+j,none⟩ v9 (by intro e;injection e with e;omega)).symm.trans ((L9.rw_.bl.cell (p:=⟨lb,lo+j,none⟩) hlb).trans hlc)⟩
        have HL9:=hideK L9;clear L9 o9 c9;obtain ⟨va9,vc9,rfl⟩:=sliceH_own hO9;clear hO9 hg9 hat9 hb9;have hSn:=hS9;refine hK.out _ _ hSn ?_;clear hS hK K hSn;intro hS;try simp only [Act.put,sA,sB,sC]
        refine onU 10 (fun K hK=>?_)
        go_simp
        have hSn:=hS;refine hK.out _ _ hSn ?_;clear hS hK K hSn;intro hS;try simp only [Act.put,sA,sB,sC]
        have x9:=hS.1;refine upto_last (by rw [List.getElem?_toArray];rfl) (by kernel_rfl) (fun K hK=>?_)
        go_simp
        refine hK.out _ _ ?_;clear hS hK K;refine upto_done (by kernel_rfl) ?_ _
        refine inB ?_;go_wp2_with fail
        refine ⟨⟨_,_,_,_,_,_,⟨j+1,by omega,by go_num,_,_,by rw [HE.out,HER.out,HEO.out];exact HL9.out⟩,rfl,rfl,rfl,rfl,rfl,rfl⟩,?_⟩
        first|omega|(simp [intOf];omega)
     ·have hf:alK sp n.to[j]=false:=by cases h:alK sp n.to[j] <;> simp_all
      have hnz:sp.getD n.to[j] 0<0:=by unfold alK at hf;have:=of_decide_eq_false hf;omega
      have HN:=hideK (And.intro (fR_no (R:=R) hjl hf) (fL_no hjl HLB.out hf));clear ha hf hmp hkk hnd;generalize n.to[j]=t at *;generalize sp.getD t 0=sz at *;have htz:(t:Int)<(ts.length:Int):=by omega
      go_wp2_with fail
      go_roundw
      case rel=>exact ⟨j+1,_,_,by omega,by go_num,by rw [HN.out.1.1,HN.out.1.2,HN.out.2];exact HLI.out⟩
      case measure=>simp [intOf];omega
    ·have hjz:¬(j:Int)<(n.to.length:Int):=by omega
     have hjj:j=n.to.length:=by omega
     subst hjj;obtain ⟨i3,nj,ny0,ny1,ny2⟩:=info_parts infoNd;have b0:=hLI.b0;have b1:=hLI.b1;have b2:=hLI.b2;have b3:=hLI.b3;have OA:=hideK (show (wr.alloc (.cells #[.int .i64 n.kind,.int .i64 n.so,.slice la (fL sp n n.to.length).length lc,.slice ta (fO sp n R n.to.length).length tc] 56)).ownsRow w.heap.size 56 4 (.slice oa tks.length oc) tks.length (ndCs tks) from own_belowG (hLI.rw_.own 1 (by omega)) ((Below.refl _ _).alloc (Nat.le_refl _) (.cells #[.int .i64 n.kind,.int .i64 n.so,.slice la (fL sp n n.to.length).length lc,.slice ta (fO sp n R n.to.length).length tc] 56)))
     have LR:=hideK (World.ownsRow_lit (base:=w.heap.size) (e:=56) (size:=4) wr #[.int .i64 n.kind,.int .i64 n.so,.slice la (fL sp n n.to.length).length lc,.slice ta (fO sp n R n.to.length).length tc] 1 hszr (by decide) rfl)
     have HEN:=hideK (f_end (sp:=sp) (n:=n) (R:=R));clear hLI hlt hnd;go_wp2_with (at_builtin;refine wpList_append_rows _ rfl (.tmp 96) (.tmp 98) 29 rfl w.heap.size w.heap.size 56 i3 _ 4 64 Tryz.underlying29 nj ny0 ny1 ny2 rfl (by decide) _ _ _ rfl OA.out _ _ _ rfl LR.out (by simp [Value.oneCell']) (by unfold maxLen;omega) (by omega) (by simp;omega) ?_;intro v7 w7 hO7 hg7 hat7)
     obtain ⟨va,vc,rfl⟩:=sliceH_own hO7;go_roundw
     case rel =>
      have hd:=HLI.out.done hg7 hO7 hat7;refine ⟨fR sp n R n.to.length,_,_,hd,?_,?_⟩
      ·rw [List.length_append,HEN.out.2]
       exact HST.out
      ·have h:=HMO.out _ HEN.out.2
       rw [HEN.out.1]at h;rw [List.map_append,List.length_append];exact h
     case measure=>simp [slLen];omega
  ·have hltz:¬(tks.length:Int)<(R.length:Int):=by omega
   have hme:tks.length=R.length:=by omega
   obtain ⟨ao,co,e1,hGA⟩:=gat_of (show wr.ownsRow w.heap.size 56 4 (.slice oa tks.length oc) tks.length (ndCs tks) from hown1) hLO.tk (fun b hb=>hLO.rw_.xl b (.inl hb))
   injection e1 with e1 e2 e3
   subst e1 e3;rw [hmap,hme,List.take_length]at hGA;rw [hme]at hRI;have HF:=hideK (And.intro hGA (And.intro hRI (And.intro hbl hme)));clear hLO hRI hmap hown0 hown1 hrv hov hGA e2 hme hbl;go_wp2_with fail
   go_ret
   exact ⟨⟨R,HF.out.2.1,_,⟨_,by rw [← HF.out.2.2.2];rfl⟩,HF.out.1⟩,HF.out.2.2.1⟩
end Go.Proofs.YtnedgkcejlhnbaaGreatDoor
