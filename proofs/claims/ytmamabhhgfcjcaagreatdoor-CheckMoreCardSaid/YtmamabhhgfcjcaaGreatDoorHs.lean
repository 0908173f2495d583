/-
  graph.lay of a Var and of a Rec.
-/
import Derived.Test.YtmamabhhgfcjcaaGreatDoorIf
set_option maxRecDepth 100000
set_option maxHeartbeats 8000000
namespace Go.Proofs.YtmamabhhgfcjcaaGreatDoor
open Go.RowKit Go.Shelf
theorem lay_var(t:Ty)(al:OAd)(cl:Nat)(ak:OAd)(ck:Nat)(ar:Ar)(aa:OAd)(ca pg:Nat)(u:Value)(toks:List TkN)(B:Nat)(w:World)(hm:MR w pg u.ownBlock ar aa ca)(hp:PG w pg u toks)(hl:ar.length≤900)(h9:t.kind=9):
  Calls Tryz.prog 52 #[.pointer (some ⟨pg,0,none⟩),tyVal t al cl ak ck,.slice aa ar.length ca] w (LYPost t ar pg u toks B w):=by
 have hA:Below w.heap.size w (w.alloc (.cells #[.int .i64 t.kind,.int .i64 t.so,.string t.name,.slice al t.labels.length cl,.slice ak t.kids.length ck] 37)):=(bR _ _).alloc (nR _) _;have cM:=meant_any t.name ar aa ca pg u.ownBlock _ (hm.keep (RF.of hA) (.inl rfl)) (by omega)
 have HLP:=hideK (layP_var t ar toks.length h9);have HP:=hideK hp;have HA:=hideK hA;have hkb:(t.kind==9)=true:=by rw [h9];rfl
 simp only [tyVal];clear hm hp h9 hA;go_enter Tryz.func52,Tryz.ntmps52
 go_wp2_with fail
 refine cM.mono ?_;rintro e w1 ⟨rfl,hb⟩;have HB:=hideK (HA.out.trans (hb.mono HA.out.size));clear cM hb;go_wp2_with fail
 go_ret
 refine ⟨by rw [HLP.out];rfl,[],u,by rw [HLP.out];rfl,?_,fun t ht=>(by cases ht),RF.of HB.out,.inl rfl⟩
 rw [List.append_nil];exact HP.out.keep HB.out
theorem lay_rec(d:Nat)(ih:LYSaid d)(t k:Ty)(al al2:OAd)(cl cl2:Nat)(ak2:OAd)(ck ck2 kb ko:Nat)(ar:Ar)(aa:OAd)(ca pg:Nat)(u:Value)(toks:List TkN)(B:Nat)(w:World)(hkid:TyAt w kb ko k al2 cl2 ak2 ck2)(hkB:kb<B)(hbd:TyBd k cl2 ck2)(hla:LA w B k.labels al2)(hkt:KT w B d k.kids ak2)(hwk:wfT k)
  (hm:MR w pg u.ownBlock ar aa ca) (hp:PG w pg u toks) (hB:B≤pg) (hs1:sizeT t+toks.length≤900) (hs2:ar.length+sizeT t≤900) (h8:t.kind=8) (hks:t.kids=[k]) :
  Calls Tryz.prog 52 #[.pointer (some ⟨pg,0,none⟩),tyVal t al cl (some ⟨kb,ko,none⟩) ck,.slice aa ar.length ca] w (LYPost t ar pg u toks B w):=by
 have hsk:sizeT k<sizeT t:=sizeT_kid (by rw [hks];exact .head _)
 have HLP:=hideK (layP_rec t ar toks.length h8 k hks);have hpl:=hp.lt;have HRW:∀j,u.ownBlock=some j→j<w.heap.size:=fun j hj=>(hp.own.lt j hj).2
 have HRW2:∀j,u.ownBlock=some j→pg+1≤j:=fun j hj=>(hp.own.lt j hj).1
 have s5k:∀(W W':World),(fun W:World=>W.cell? ⟨w.heap.size,2,none⟩=some (.string t.name)∧W.cell? ⟨w.heap.size,4,none⟩=some (.slice (some ⟨kb,ko,none⟩) 1 ck)∧W.cell? ⟨kb,ko,none⟩=some (.int .i64 k.kind)∧W.cell? ⟨kb,ko+1,none⟩=some (.int .i64 k.so)∧W.cell? ⟨kb,ko+2,none⟩=some (.string k.name)∧W.cell? ⟨kb,ko+3,none⟩=some (.slice al2 k.labels.length cl2)∧W.cell? ⟨kb,ko+4,none⟩=some (.slice ak2 k.kids.length ck2)) W→Below (w.heap.size+1) W W'→(fun W:World=>W.cell? ⟨w.heap.size,2,none⟩=some (.string t.name)∧W.cell? ⟨w.heap.size,4,none⟩=some (.slice (some ⟨kb,ko,none⟩) 1 ck)∧W.cell? ⟨kb,ko,none⟩=some (.int .i64 k.kind)∧W.cell? ⟨kb,ko+1,none⟩=some (.int .i64 k.so)∧W.cell? ⟨kb,ko+2,none⟩=some (.string k.name)∧W.cell? ⟨kb,ko+3,none⟩=some (.slice al2 k.labels.length cl2)∧W.cell? ⟨kb,ko+4,none⟩=some (.slice ak2 k.kids.length ck2)) W':=fun W W' hs hb=>⟨(hb.cell (p:=⟨w.heap.size,2,none⟩) (by show w.heap.size<_;omega)).trans hs.1,(hb.cell (p:=⟨w.heap.size,4,none⟩) (by show w.heap.size<_;omega)).trans hs.2.1,(hb.cell (p:=⟨kb,ko,none⟩) (by show kb<_;omega)).trans hs.2.2.1,(hb.cell (p:=⟨kb,ko+1,none⟩) (by show kb<_;omega)).trans hs.2.2.2.1,(hb.cell (p:=⟨kb,ko+2,none⟩) (by show kb<_;omega)).trans hs.2.2.2.2.1,(hb.cell (p:=⟨kb,ko+3,none⟩) (by show kb<_;omega)).trans hs.2.2.2.2.2.1,(hb.cell (p:=⟨kb,ko+4,none⟩) (by show kb<_;omega)).trans hs.2.2.2.2.2.2⟩
 have s5r:∀(W W':World),w.heap.size<W.heap.size→(fun W:World=>W.cell? ⟨w.heap.size,2,none⟩=some (.string t.name)∧W.cell? ⟨w.heap.size,4,none⟩=some (.slice (some ⟨kb,ko,none⟩) 1 ck)∧W.cell? ⟨kb,ko,none⟩=some (.int .i64 k.kind)∧W.cell? ⟨kb,ko+1,none⟩=some (.int .i64 k.so)∧W.cell? ⟨kb,ko+2,none⟩=some (.string k.name)∧W.cell? ⟨kb,ko+3,none⟩=some (.slice al2 k.labels.length cl2)∧W.cell? ⟨kb,ko+4,none⟩=some (.slice ak2 k.kids.length ck2)) W→RF pg pg u.ownBlock W W'→(fun W:World=>W.cell? ⟨w.heap.size,2,none⟩=some (.string t.name)∧W.cell? ⟨w.heap.size,4,none⟩=some (.slice (some ⟨kb,ko,none⟩) 1 ck)∧W.cell? ⟨kb,ko,none⟩=some (.int .i64 k.kind)∧W.cell? ⟨kb,ko+1,none⟩=some (.int .i64 k.so)∧W.cell? ⟨kb,ko+2,none⟩=some (.string k.name)∧W.cell? ⟨kb,ko+3,none⟩=some (.slice al2 k.labels.length cl2)∧W.cell? ⟨kb,ko+4,none⟩=some (.slice ak2 k.kids.length ck2)) W':=fun W W' hz hs hr=>by
  have c1:∀o,W'.cell? ⟨w.heap.size,o,none⟩=W.cell? ⟨w.heap.size,o,none⟩:=fun o=>hr.cell hz (by omega) (by omega) (fun e=>by have:=HRW _ e.symm;omega)
  have c2:∀o,W'.cell? ⟨kb,o,none⟩=W.cell? ⟨kb,o,none⟩:=fun o=>hr.cell (by omega) (by omega) (by omega) (fun e=>by have:=HRW2 _ e.symm;omega)
  exact ⟨(c1 _).trans hs.1,(c1 _).trans hs.2.1,(c2 _).trans hs.2.2.1,(c2 _).trans hs.2.2.2.1,(c2 _).trans hs.2.2.2.2.1,(c2 _).trans hs.2.2.2.2.2.1,(c2 _).trans hs.2.2.2.2.2.2⟩
 have hA:Below w.heap.size w (w.alloc (.cells #[.int .i64 t.kind,.int .i64 t.so,.string t.name,.slice al t.labels.length cl,.slice (some ⟨kb,ko,none⟩) 1 ck] 37)):=(bR _ _).alloc (nR _) _;have HB1:=hideK (show Below w.heap.size w ((w.alloc (.cells #[.int .i64 t.kind,.int .i64 t.so,.string t.name,.slice al t.labels.length cl,.slice (some ⟨kb,ko,none⟩) 1 ck] 37)).drew.alloc (.cells #[.string t.name,.int .i64 (toks.length:Int)] 152)) from hA.drew.alloc (by simp) _)
 have HM1:=hideK (hm.keep (RF.of HB1.out) (.inl rfl));have HP1:=hideK (hp.keep HB1.out);have HPL:=hideK (show pg<((w.alloc (.cells #[.int .i64 t.kind,.int .i64 t.so,.string t.name,.slice al t.labels.length cl,.slice (some ⟨kb,ko,none⟩) 1 ck] 37)).drew.alloc (.cells #[.string t.name,.int .i64 (toks.length:Int)] 152)).heap.size by simp;omega)
 have HRL:=hideK (show ∀j,u.ownBlock=some j→j<((w.alloc (.cells #[.int .i64 t.kind,.int .i64 t.so,.string t.name,.slice al t.labels.length cl,.slice (some ⟨kb,ko,none⟩) 1 ck] 37)).drew.alloc (.cells #[.string t.name,.int .i64 (toks.length:Int)] 152)).heap.size from fun j hj=>by have:=HRW j hj;simp;omega)
 have CC:=hideK (fun W=>clipM_any ar aa ca pg u.ownBlock w W hm (by omega))
 have hS0:(fun W:World=>W.cell? ⟨w.heap.size,2,none⟩=some (.string t.name)∧W.cell? ⟨w.heap.size,4,none⟩=some (.slice (some ⟨kb,ko,none⟩) 1 ck)∧W.cell? ⟨kb,ko,none⟩=some (.int .i64 k.kind)∧W.cell? ⟨kb,ko+1,none⟩=some (.int .i64 k.so)∧W.cell? ⟨kb,ko+2,none⟩=some (.string k.name)∧W.cell? ⟨kb,ko+3,none⟩=some (.slice al2 k.labels.length cl2)∧W.cell? ⟨kb,ko+4,none⟩=some (.slice ak2 k.kids.length ck2)) (w.alloc (.cells #[.int .i64 t.kind,.int .i64 t.so,.string t.name,.slice al t.labels.length cl,.slice (some ⟨kb,ko,none⟩) 1 ck] 37)).drew:=⟨by go_cell,by go_cell,(hA.drew.cell (p:=⟨kb,ko,none⟩) (by show kb<_;omega)).trans hkid.c0,(hA.drew.cell (p:=⟨kb,ko+1,none⟩) (by show kb<_;omega)).trans hkid.c1,(hA.drew.cell (p:=⟨kb,ko+2,none⟩) (by show kb<_;omega)).trans hkid.c2,(hA.drew.cell (p:=⟨kb,ko+3,none⟩) (by show kb<_;omega)).trans hkid.c3,(hA.drew.cell (p:=⟨kb,ko+4,none⟩) (by show kb<_;omega)).trans hkid.c4⟩
 have hih:∀(aa3:OAd) (ca3:Nat) (W:World),Below w.heap.size w W→MR W pg u.ownBlock (ar++[(t.name,toks.length)]) aa3 ca3→PG W pg u toks→Calls Tryz.prog 52 #[.pointer (some ⟨pg,0,none⟩),tyVal k al2 cl2 ak2 ck2,.slice aa3 (ar.length+1) ca3] W (LYPost k (ar++[(t.name,toks.length)]) pg u toks B W):=fun aa3 ca3 W hb hmr hpg=>by
  have:=ih k al2 cl2 ak2 ck2 (ar++[(t.name,toks.length)]) aa3 ca3 pg u toks B W hbd (hla.keep (hb.mono (by omega))) (hkt.keep (hb.mono (by omega))) hwk hmr hpg hB (by omega) (by simp;omega)
  simpa using this
 have hkb:(t.kind==9)=false:=by rw [h8];rfl
 have hkb8:(t.kind==8)=true:=by rw [h8];rfl
 have hsz0:w.heap.size<(w.alloc (.cells #[.int .i64 t.kind,.int .i64 t.so,.string t.name,.slice al t.labels.length cl,.slice (some ⟨kb,ko,none⟩) 1 ck] 37)).heap.size:=by simp
 obtain ⟨ua,uc,rfl⟩:=sliceH_own hp.own;have pc:(w.alloc (.cells #[.int .i64 t.kind,.int .i64 t.so,.string t.name,.slice al t.labels.length cl,.slice (some ⟨kb,ko,none⟩) 1 ck] 37)).drew.cell? ⟨pg,0,none⟩=some (.slice ua toks.length uc):=(hA.drew.cell (p:=⟨pg,0,none⟩) hpl).trans hp.c;have HIH:=hideK hih;have S5K:=hideK s5k;have S5R:=hideK s5r;simp only [tyVal,hks,List.length_singleton]at HIH ⊢;clear hm hp hA hih s5k s5r hkid hbd hla hkt HRW HRW2 h8 ih;go_enter Tryz.func52,Tryz.ntmps52
 go_wp2_with fail
 refine wp_region_held_drew (S:=(fun W:World=>W.cell? ⟨w.heap.size,2,none⟩=some (.string t.name)∧W.cell? ⟨w.heap.size,4,none⟩=some (.slice (some ⟨kb,ko,none⟩) 1 ck)∧W.cell? ⟨kb,ko,none⟩=some (.int .i64 k.kind)∧W.cell? ⟨kb,ko+1,none⟩=some (.int .i64 k.so)∧W.cell? ⟨kb,ko+2,none⟩=some (.string k.name)∧W.cell? ⟨kb,ko+3,none⟩=some (.slice al2 k.labels.length cl2)∧W.cell? ⟨kb,ko+4,none⟩=some (.slice ak2 k.kids.length ck2))) (by kernel_rfl) hS0 (fun hS=>?_)
 clear hS0;refine tkH 0 (.pointer (some ⟨pg,0,none⟩)) hS ?_;refine tkH 1 (.pointer (some ⟨w.heap.size,4,none⟩)) hS ?_;refine tkH 2 (.slice (some ⟨kb,ko,none⟩) 1 ck) hS ?_ (hy:=Or.inl ⟨by rfl,fun W hW=>by obtain ⟨x0,x1,x2,x3,x4,x5,x6⟩:=hW;go_simp⟩)
 refine tkH 3 (.pointer (some ⟨kb,ko,none⟩)) hS ?_;refine tkH 4 (.agg #[.int .i64 k.kind,.int .i64 k.so,.string k.name,.slice al2 k.labels.length cl2,.slice ak2 k.kids.length ck2]) hS ?_ (hy:=Or.inl ⟨by rfl,fun W hW=>by obtain ⟨x0,x1,x2,x3,x4,x5,x6⟩:=hW;go_simp⟩)
 refine tkH 5 (.slice aa ar.length ca) hS ?_;refine tkH 7 (.pointer (some ⟨w.heap.size,2,none⟩)) hS ?_;refine tkH 8 (.string t.name) hS ?_ (hy:=Or.inl ⟨by rfl,fun W hW=>by obtain ⟨x0,x1,x2,x3,x4,x5,x6⟩:=hW;go_simp⟩)
 refine tkH 9 (.pointer (some ⟨pg,0,none⟩)) hS ?_;refine tkH 10 (.pointer (some ⟨pg,0,none⟩)) hS ?_;refine wpAnyH_ready (rs:=[6,11]) (by kernel_rfl) (by simp) (AllReadyH.cons rfl (fun K hK=>?_) (AllReadyH.cons rfl (fun K hK=>?_) aN))
 ·go_simp
  refine (CC.out _).mono ?_;rintro e wc ⟨rfl,rfl⟩;have hSn:=hS;refine hK.out _ _ hSn ?_;clear hS hK K hSn;intro hS;refine take_oneHL 11 (AllReadyH.cons rfl (fun K hK=>?_) aN) (by kernel_rfl)
  go_simp
  have hSn:=hS;refine hK.out _ _ hSn ?_;clear hS hK K hSn;intro hS;refine tkH 12 (.int .i64 (toks.length:Int)) hS ?_;refine tkH 13 (.agg #[.string t.name,.int .i64 (toks.length:Int)]) hS ?_;refine take_oneHL 14 (AllReadyH.cons rfl (fun K hK=>?_) aN) (by kernel_rfl)
  go_simp
  have hSn:=S5K.out _ _ hS (((bR _ _).alloc (nR _) (.cells #[.string t.name,.int .i64 (toks.length:Int)] 152)).mono (by simp))
  refine hK.out _ _ hSn ?_;clear hS hK K hSn;intro hS;refine take_oneHL 15 (AllReadyH.cons rfl (fun K hK=>?_) aN) (by kernel_rfl)
  refine step_append_m _ rfl (.tmp 27) (.tmp 35) rfl ar aa pg (Value.slice ua toks.length uc).ownBlock t.name toks.length (w.heap.size+1) 1 rfl rfl HM1.out.clip (by omega) (by go_cell) (by go_cell) HPL.out HRL.out ?_
  intro aa3 ca3 w4 hMR4 hb4;have hSn:=S5K.out _ _ hS (hb4.mono (by simp))
  refine hK.out _ _ hSn ?_;clear hS hK K hSn;intro hS;have HB4:=hideK (show Below w.heap.size w w4 from HB1.out.trans (hb4.mono HB1.out.size))
  have HP4:=hideK (HP1.out.keep hb4);have CY:=HIH.out aa3 ca3 w4 HB4.out hMR4 HP4.out;have hz4:w.heap.size<w4.heap.size:=by have:=hb4.size;simp at this;omega
  clear hb4 hMR4;refine take_oneHL 16 (AllReadyH.cons rfl (fun K hK=>?_) aN) (by kernel_rfl)
  go_simp
  refine CY.mono ?_;rintro e w5 ⟨rfl,new,u5,hn5,hp5,ht5,hr5,hu5⟩;have hSn:=S5R.out _ _ hz4 hS hr5;refine hK.out _ _ hSn ?_;clear hS hK K hSn;intro hS;refine take_oneHL 17 (AllReadyH.cons rfl (fun K hK=>?_) aN) (by kernel_rfl)
  go_simp
  have hSn:=hS;refine hK.out _ _ hSn ?_;clear hS hK K hSn;intro hS;refine wpAnyH_done (by kernel_rfl) ?_ _
  clear hS CY;go_wp2_with fail
  go_ret
  refine ⟨by rw [HLP.out];rfl,new,u5,by rw [HLP.out];exact hn5,hp5,ht5.keep (bR _ _) (fun _ _ _=>rfl) (fun b hb=>⟨Nat.le_trans HB4.out.size hb.1,hb.2⟩),(RF.of (row:=(Value.slice ua toks.length uc).ownBlock) HB4.out).trans hr5 (.inl rfl),hu5.imp id (fun h k hk=>Nat.le_trans HB4.out.size (h k hk))⟩
 ·go_simp
  have hSn:=hS;refine hK.out _ _ hSn ?_;clear hS hK K hSn;intro hS;refine tkH 12 (.int .i64 (toks.length:Int)) hS ?_;refine tkH 13 (.agg #[.string t.name,.int .i64 (toks.length:Int)]) hS ?_;refine wpAnyH_ready (rs:=[6,14]) (by kernel_rfl) (by simp) (AllReadyH.cons rfl (fun K hK=>?_) (AllReadyH.cons rfl (fun K hK=>?_) aN))
  ·go_simp
   refine (CC.out _).mono ?_;rintro e wc ⟨rfl,rfl⟩;have hSn:=hS;refine hK.out _ _ hSn ?_;clear hS hK K hSn;intro hS;refine take_oneHL 14 (AllReadyH.cons rfl (fun K hK=>?_) aN) (by kernel_rfl)
   go_simp
   have hSn:=S5K.out _ _ hS (((bR _ _).alloc (nR _) (.cells #[.string t.name,.int .i64 (toks.length:Int)] 152)).mono (by simp))
   refine hK.out _ _ hSn ?_;clear hS hK K hSn;intro hS;refine take_oneHL 15 (AllReadyH.cons rfl (fun K hK=>?_) aN) (by kernel_rfl)
   refine step_append_m _ rfl (.tmp 27) (.tmp 35) rfl ar aa pg (Value.slice ua toks.length uc).ownBlock t.name toks.length (w.heap.size+1) 1 rfl rfl HM1.out.clip (by omega) (by go_cell) (by go_cell) HPL.out HRL.out ?_
   intro aa3 ca3 w4 hMR4 hb4;have hSn:=S5K.out _ _ hS (hb4.mono (by simp))
   refine hK.out _ _ hSn ?_;clear hS hK K hSn;intro hS;have HB4:=hideK (show Below w.heap.size w w4 from HB1.out.trans (hb4.mono HB1.out.size))
   have HP4:=hideK (HP1.out.keep hb4);have CY:=HIH.out aa3 ca3 w4 HB4.out hMR4 HP4.out;have hz4:w.heap.size<w4.heap.size:=by have:=hb4.size;simp at this;omega
   clear hb4 hMR4;refine take_oneHL 16 (AllReadyH.cons rfl (fun K hK=>?_) aN) (by kernel_rfl)
   go_simp
   refine CY.mono ?_;rintro e w5 ⟨rfl,new,u5,hn5,hp5,ht5,hr5,hu5⟩;have hSn:=S5R.out _ _ hz4 hS hr5;refine hK.out _ _ hSn ?_;clear hS hK K hSn;intro hS;refine take_oneHL 17 (AllReadyH.cons rfl (fun K hK=>?_) aN) (by kernel_rfl)
   go_simp
   have hSn:=hS;refine hK.out _ _ hSn ?_;clear hS hK K hSn;intro hS;refine wpAnyH_done (by kernel_rfl) ?_ _
   clear hS CY;go_wp2_with fail
   go_ret
   refine ⟨by rw [HLP.out];rfl,new,u5,by rw [HLP.out];exact hn5,hp5,ht5.keep (bR _ _) (fun _ _ _=>rfl) (fun b hb=>⟨Nat.le_trans HB4.out.size hb.1,hb.2⟩),(RF.of (row:=(Value.slice ua toks.length uc).ownBlock) HB4.out).trans hr5 (.inl rfl),hu5.imp id (fun h k hk=>Nat.le_trans HB4.out.size (h k hk))⟩
  ·go_simp
   have hSn:=S5K.out _ _ hS (((bR _ _).alloc (nR _) (.cells #[.string t.name,.int .i64 (toks.length:Int)] 152)).mono (by simp))
   refine hK.out _ _ hSn ?_;clear hS hK K hSn;intro hS;refine take_oneHL 6 (AllReadyH.cons rfl (fun K hK=>?_) aN) (by kernel_rfl)
   go_simp
   refine (CC.out _).mono ?_;rintro e wc ⟨rfl,rfl⟩;have hSn:=hS;refine hK.out _ _ hSn ?_;clear hS hK K hSn;intro hS;refine take_oneHL 15 (AllReadyH.cons rfl (fun K hK=>?_) aN) (by kernel_rfl)
   refine step_append_m _ rfl (.tmp 27) (.tmp 35) rfl ar aa pg (Value.slice ua toks.length uc).ownBlock t.name toks.length (w.heap.size+1) 1 rfl rfl HM1.out.clip (by omega) (by go_cell) (by go_cell) HPL.out HRL.out ?_
   intro aa3 ca3 w4 hMR4 hb4;have hSn:=S5K.out _ _ hS (hb4.mono (by simp))
   refine hK.out _ _ hSn ?_;clear hS hK K hSn;intro hS;have HB4:=hideK (show Below w.heap.size w w4 from HB1.out.trans (hb4.mono HB1.out.size))
   have HP4:=hideK (HP1.out.keep hb4);have CY:=HIH.out aa3 ca3 w4 HB4.out hMR4 HP4.out;have hz4:w.heap.size<w4.heap.size:=by have:=hb4.size;simp at this;omega
   clear hb4 hMR4;refine take_oneHL 16 (AllReadyH.cons rfl (fun K hK=>?_) aN) (by kernel_rfl)
   go_simp
   refine CY.mono ?_;rintro e w5 ⟨rfl,new,u5,hn5,hp5,ht5,hr5,hu5⟩;have hSn:=S5R.out _ _ hz4 hS hr5;refine hK.out _ _ hSn ?_;clear hS hK K hSn;intro hS;refine take_oneHL 17 (AllReadyH.cons rfl (fun K hK=>?_) aN) (by kernel_rfl)
   go_simp
   have hSn:=hS;refine hK.out _ _ hSn ?_;clear hS hK K hSn;intro hS;refine wpAnyH_done (by kernel_rfl) ?_ _
   clear hS CY;go_wp2_with fail
   go_ret
   refine ⟨by rw [HLP.out];rfl,new,u5,by rw [HLP.out];exact hn5,hp5,ht5.keep (bR _ _) (fun _ _ _=>rfl) (fun b hb=>⟨Nat.le_trans HB4.out.size hb.1,hb.2⟩),(RF.of (row:=(Value.slice ua toks.length uc).ownBlock) HB4.out).trans hr5 (.inl rfl),hu5.imp id (fun h k hk=>Nat.le_trans HB4.out.size (h k hk))⟩
structure LY(w:World)(pg tb kn:Nat)(u:Value)(toks:List TkN)(sf:TkN)(B k:Nat)(tos:List Nat)(new:List TkN)(u':Value)(W:World):Prop where
 pgp:PG W pg u' (toks++[sf]++new)
 fi:FI W tb kn k tos
 tkl:TKL W B (fun b=>tb<b∧b<W.heap.size∧u'.ownBlock≠some b) new
 rf:RF pg pg u.ownBlock w W
 fr:u'.ownBlock=u.ownBlock∨∀j,u'.ownBlock=some j→w.heap.size≤j
 tbu:u'.ownBlock≠some tb
 tbp:pg<tb∧w.heap.size≤tb
 bp:B≤pg
theorem RF.set{fb rb:Nat}{row:Option Nat}{w W:World}(h:RF fb rb row w W){b:Nat}(o:Nat)(v:Value)(hb:b=fb∨w.heap.size≤b):RF fb rb row w (W.setCell ⟨b,o,none⟩ v) :=
 ⟨h.os,h.tape,h.output,by simpa using h.size,fun k hk h1 h2 h3=>(Below.heap_setCell W _ v k (fun e=>by
  have e:k=b:=e;rcases hb with hb|hb
  ·exact h1 (e.trans hb)
  ·omega)).trans (h.block k hk h1 h2 h3)⟩
theorem RF.fi{pg:Nat}{row:Option Nat}{W W':World}(h:RF pg pg row W W'){tb kn k:Nat}{tos:List Nat}(hf:FI W tb kn k tos)(h1:tb≠pg)(h2:row≠some tb):FI W' tb kn k tos :=
 ⟨nL hf.lt h.size,fun j hj=>(h.cell hf.lt h1 h1 (fun e=>h2 e.symm)).trans (hf.cell j hj),fun j=>(h.frozen hf.lt h1 h1 (fun e=>h2 e.symm)).trans (hf.fr j)⟩
theorem LY.start{w V w7:World}{pg tb kn:Nat}{u v7:Value}{toks:List TkN}{sf:TkN}{B:Nat}{ob:Obj}(hp:PG w pg u toks)(hV:Below w.heap.size w V)(hfi:FI V tb kn 0 [])(htb:w.heap.size≤tb)(hg:(V.alloc ob).grownBy w7 u.ownBlock)(hO:w7.ownsRow (pg+1) 102 4 v7 (toks.length+1) (ndCs toks++nC sf))(hat:v7.ownBlock=u.ownBlock∨v7.ownBlock=some (V.alloc ob).heap.size)(hB:B≤pg):
  LY w pg tb kn u toks sf B 0 [] [] v7 (w7.setCell ⟨pg,0,none⟩ v7):=by
 have hpl:=hp.lt;have hvs:=hV.size;have hgV:V.grownBy w7 u.ownBlock:=(World.grownBy_alloc V ob _).trans hg;have hs7:=hgV.size;have hpo:u.ownBlock≠some pg:=fun e=>by have:=(hp.own.lt pg e).1;omega
 have hto:u.ownBlock≠some tb:=fun e=>by have:=(hp.own.lt tb e).2;omega
 have hfl:=hfi.lt;have hn7:v7.ownBlock=u.ownBlock∨∀j,v7.ownBlock=some j→V.heap.size≤j:=hat.imp id fun e j hj=>by rw [e]at hj;injection hj with hj;simp at hj;omega
 have hv7:v7.ownBlock≠some tb:=fresh_ne hn7 hfl hto;have hc7:w7.cell? ⟨pg,0,none⟩=some u:=((World.cell?_of_block (a:=⟨pg,0,none⟩) (hgV.block pg (by omega) (fun e=>hpo e.symm))).trans (hV.cell (p:=⟨pg,0,none⟩) hpl)).trans hp.c
 have hf7:w7.frozen? ⟨pg,0,none⟩=false:=((World.frozen?_of_block (a:=⟨pg,0,none⟩) (hgV.block pg (by omega) (fun e=>hpo e.symm))).trans (hV.frozen (p:=⟨pg,0,none⟩) hpl)).trans hp.f
 refine ⟨⟨World.cell?_setCell_same _ _ _ hc7,(World.frozen?_setCell _ _ _ _).trans hf7,?_,by simp;omega⟩,?_,fun t ht=>(by cases ht),?_,hn7.imp id (fun h j hj=>Nat.le_trans hvs (h j hj)),hv7,⟨by omega,htb⟩,hB⟩
 ·have:=own_setB hO (b:=pg) (o:=0) (by omega) v7
  rw [List.append_nil,ndCs_snoc,List.length_append];exact this
 ·exact (hfi.kept hgV (fun e=>hto e.symm)).kept (grown_set w7 pg 0 v7) (by intro e;injection e with e;omega)
 ·have h1:RF pg pg u.ownBlock w w7:=⟨hgV.os.trans hV.os,hgV.tape.trans hV.tape,hgV.output.trans hV.output,by omega,fun k hk _ _ h3=>(hgV.block k (by omega) h3).trans (hV.block k hk)⟩
  exact h1.set 0 v7 (.inl rfl)
theorem LY.step{w W W1 w5:World}{pg tb kn:Nat}{u u' u5:Value}{toks new new2:List TkN}{sf:TkN}{B k:Nat}{tos:List Nat}(h:LY w pg tb kn u toks sf B k tos new u' W)(hk:k<kn)(hl:tos.length=k)(hb:Below W.heap.size W W1)(x:Nat)
  (hp5:PG w5 pg u5 (toks++[sf]++new++new2)) (ht5:TKL w5 B (fun b=>W1.heap.size≤b∧b<w5.heap.size∧u5.ownBlock≠some b) new2) (hr5:RF pg pg u'.ownBlock W1 w5) (hu5:u5.ownBlock=u'.ownBlock∨∀j,u5.ownBlock=some j→W1.heap.size≤j) :
  LY w pg tb kn u toks sf B (k+1) (tos++[x]) (new++new2) u5 (w5.setCell ⟨tb,k,none⟩ (.int .i64 (x:Int))):=by
 have hbs:=hb.size;have h5s:=hr5.size;have hfl:=h.fi.lt;have htp:=h.tbp;have hbp:=h.bp;have hrW:RF pg pg u'.ownBlock W w5:=(RF.of hb).trans hr5 (.inl rfl);have hu5W:u5.ownBlock=u'.ownBlock∨∀j,u5.ownBlock=some j→W.heap.size≤j:=hu5.imp id fun h j hj=>Nat.le_trans hbs (h j hj)
 have htb5:u5.ownBlock≠some tb:=fresh_ne hu5W hfl h.tbu;have hset:=grown_set w5 tb k (.int .i64 (x:Int));have hown5:∀j,u5.ownBlock=some j→pg+1≤j:=fun j hj=>(hp5.own.lt j hj).1
 refine ⟨⟨?_,?_,?_,by have:=hp5.lt;simpa using this⟩,(hrW.fi h.fi (by omega) h.tbu).put hk hl x,?_,?_,?_,htb5,htp,hbp⟩
 ·rw [World.cell?_setCell_other _ _ _ _ (by intro e;injection e with e;omega)];exact hp5.c
 ·rw [World.frozen?_setCell];exact hp5.f
 ·rw [← List.append_assoc]
  exact hp5.own.kept hset (apt.or (fun j hj e=>by injection e with e;subst e;exact htb5 hj))
 ·have hbB:Below B w5 (w5.setCell ⟨tb,k,none⟩ (.int .i64 (x:Int))):=(Below.refl B w5).setCell (p:=⟨tb,k,none⟩) (by show B≤tb;omega) _
  have hcs:∀b o,tb<b→(w5.setCell ⟨tb,k,none⟩ (.int .i64 (x:Int))).cell? ⟨b,o,none⟩=w5.cell? ⟨b,o,none⟩:=fun b o hq=>World.cell?_setCell_other _ _ _ _ (by intro e;injection e with e;omega)
  intro t ht;rcases List.mem_append.1 ht with ht|ht
  ·have hbW:Below B W w5:=⟨hrW.os,hrW.tape,hrW.output,hrW.size,fun j hj=>hrW.block j (by omega) (by omega) (by omega) (fun e=>by
    have:=(h.pgp.own.lt j e.symm).1;omega)⟩
   have:=h.tkl.keep hbW (fun b o hq=>hrW.cell hq.2.1 (by omega) (by omega) (fun e=>hq.2.2 e.symm)) (Q:=fun b=>tb<b∧b<w5.heap.size∧u5.ownBlock≠some b) (fun b hq=>⟨hq.1,by omega,fresh_ne hu5W hq.2.1 hq.2.2⟩)
   exact (this.keep hbB (fun b o hq=>hcs b o hq.1) (fun b hq=>⟨hq.1,by simpa using hq.2.1,hq.2.2⟩)) t ht
  ·exact (ht5.keep hbB (fun b o hq=>hcs b o (by omega)) (fun b hq=>⟨by omega,by simpa using hq.2.1,hq.2.2⟩)) t ht
 ·exact (h.rf.trans hrW h.fr).set k _ (.inr htp.2)
 ·rcases hu5W with e|e
  ·rw [e];exact h.fr
  ·refine .inr fun j hj=>?_
   have:=e j hj;have:=h.rf.size;omega
theorem LY.done{w W:World}{pg tb:Nat}{u u':Value}{toks new:List TkN}{B:Nat}{t:Ty}{ar:Ar}{al:OAd}{cl ct:Nat}(h:LY w pg tb t.kids.length u toks (⟨t.kind,t.so,t.labels,(layL ar (toks.length+1) t.kids).1⟩,(al,cl),(some ⟨tb,0,none⟩,ct)) B t.kids.length (layL ar (toks.length+1) t.kids).1 new u' W)(hn:new.map (·.1)=(layL ar (toks.length+1) t.kids).2)(hla:LA w B t.labels al)(h9:t.kind≠9)(h8:t.kind≠8)(hwpg:pg<w.heap.size)(hrow:∀j,u.ownBlock=some j→pg+1≤j):
  LYPost t ar pg u toks B w (.returned (.int .i64 (toks.length:Int))) W:=by
 have hbp:=h.bp;have hbw:Below B w W:=⟨h.rf.os,h.rf.tape,h.rf.output,h.rf.size,fun j hj=>h.rf.block j (by omega) (by omega) (by omega) (fun e=>by have:=hrow j e.symm;omega)⟩
 refine ⟨by rw [layP_node t ar toks.length h9 h8],(⟨t.kind,t.so,t.labels,(layL ar (toks.length+1) t.kids).1⟩,(al,cl),(some ⟨tb,0,none⟩,ct))::new,u',by rw [layP_node t ar toks.length h9 h8,List.map_cons,hn],?_,fun q hq=>?_,h.rf,h.fr⟩
 ·have:=h.pgp
  rw [List.append_assoc]at this;exact this
 ·rcases List.mem_cons.1 hq with rfl|hq
  ·refine ⟨hla.keep hbw,.inr ⟨tb,0,rfl,⟨h.tbp.2,h.fi.lt,h.tbu⟩,fun i hi=>?_⟩⟩
   have hi':i<t.kids.length:=by rw [← layL_len ar (toks.length+1) t.kids];simpa using hi
   rw [Nat.zero_add,h.fi.cell i hi',if_pos hi',List.getElem_map];unfold clAt;rw [List.getElem?_eq_getElem (by rw [layL_len];exact hi')];rfl
  ·exact (h.tkl.keep (bR _ _) (fun _ _ _=>rfl) (fun b hb=>⟨by have:=h.tbp.2;omega,hb.2⟩)) q hq
end Go.Proofs.YtmamabhhgfcjcaaGreatDoor
