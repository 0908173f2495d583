/-
  The contract of (check.heads).proc.
-/
import Derived.Test.YtmamabhhgfcjcaaGreatDoorOpw
set_option maxRecDepth 100000
set_option maxHeartbeats 16000000
namespace Go.Proofs.YtmamabhhgfcjcaaGreatDoor
open Go.RowKit Go.Shelf
structure PSN(w:World)(p:Pr)(a:PrA)(s:Sc)(b:ScA)(nb:Nat)(s2:Sc)(b':ScA)(W:World):Prop where
 ps:PSB w p a s b W
 lt:nb<W.heap.size
 n0:W.cell? ⟨nb,0,none⟩=some (.slice b'.va s2.vs.length b'.vc)
 n1:W.cell? ⟨nb,1,none⟩=some (.slice b'.sa s2.ss.length b'.sc)
 n2:W.cell? ⟨nb,2,none⟩=some (.map b'.mp)
 sv:ScV w W s2 b'
theorem PSN.keep{w:World}{p:Pr}{a:PrA}{s:Sc}{b:ScA}{nb:Nat}{s2:Sc}{b':ScA}{W W':World}(h:PSN w p a s b nb s2 b' W)(hb:Below W.heap.size W W'):PSN w p a s b nb s2 b' W' :=
 ⟨h.ps.keep hb,nL h.lt hb.size,(hb.cell (p:=⟨nb,0,none⟩) h.lt).trans h.n0,(hb.cell (p:=⟨nb,1,none⟩) h.lt).trans h.n1,(hb.cell (p:=⟨nb,2,none⟩) h.lt).trans h.n2,h.sv.keep hb⟩
theorem PSN.of{w:World}{p:Pr}{a:PrA}{s:Sc}{b:ScA}{W:World}(h:PSB w p a s b W){s2:Sc}{b':ScA}(hv:ScV w W s2 b'):PSN w p a s b W.heap.size s2 b' (W.alloc (.cells #[.slice b'.va s2.vs.length b'.vc,.slice b'.sa s2.ss.length b'.sc,.map b'.mp] 70)) :=
 ⟨h.keep ((bR _ _).alloc (nR _) _),by simp,by go_cell,by go_cell,by go_cell,hv.keep ((bR _ _).alloc (nR _) _)⟩
theorem procStop(hm:Option Nat)(p:Pr)(a:PrA)(s:Sc)(b:ScA)(w:World)(hk:p.kind=1)(h:ScAt w s b):
  Calls Tryz.prog 24 #[.map hm,prVal p a,scVal s b] w fun e w'=>e = .returned (.int .i64 (noE s))∧Below w.heap.size w w':=by
 have H2:=hideK (PSB.new w p a s b);have c:=wantNoEnds_any s b ((w.alloc (.cells (pK p a) 40)).alloc (.cells #[.slice b.va s.vs.length b.vc,.slice b.sa s.ss.length b.sc,.map b.mp] 70)) (h.keep H2.out.bl);generalize noE s=r at *;have k1:(p.kind==1)=true:=by rw [hk];rfl
 simp only [scVal,prVal]at H2 c ⊢;clear h hk;go_enter Tryz.func24,Tryz.ntmps24
 go_wp2_with fail
 refine c.mono ?_;rintro e w5 ⟨rfl,hb5⟩;have H5:=hideK (H2.out.keep hb5);clear c hb5 H2;go_wp2_with fail
 go_ret
 exact ⟨rfl,H5.out.bl⟩
theorem procCases(hm:Option Nat)(p:Pr)(a:PrA)(s:Sc)(b:ScA)(r:Int)(w:World)(hk:p.kind=7)
  (c:∀W,Below w.heap.size w W→Calls Tryz.prog 40 #[.map hm,prVal p a,scVal s b] W fun e w'=>e = .returned (.int .i64 r)∧Below W.heap.size W w') :
  Calls Tryz.prog 24 #[.map hm,prVal p a,scVal s b] w fun e w'=>e = .returned (.int .i64 r)∧Below w.heap.size w w':=by
 have H2:=hideK (PSB.new w p a s b);have CC:=hideK (c ((w.alloc (.cells (pK p a) 40)).alloc (.cells #[.slice b.va s.vs.length b.vc,.slice b.sa s.ss.length b.sc,.map b.mp] 70)) H2.out.bl);have k1:(p.kind==1)=false:=by rw [hk];rfl
 have k7:(p.kind==7)=true:=by rw [hk];rfl
 simp only [scVal,prVal]at H2 CC ⊢;clear c hk;go_enter Tryz.func24,Tryz.ntmps24
 go_upto_region 5 with fail
 generalize (w.alloc (.cells (pK p a) 40)).alloc (.cells #[.slice b.va s.vs.length b.vc,.slice b.sa s.ss.length b.sc,.map b.mp] 70)=V at *;refine wp_region_lit ?_;refine wpList_plain rfl (fun K hK=>?_)
 go_simp
 refine hK _ _ ?_;clear hK K;refine wpList_loadW rfl rfl rfl (load_pr H2.out.at0) ?_;simp only [prVal,Act.put,List.setIfInBounds_toArray,List.set_cons_zero,List.set_cons_succ];have c0:=H2.out.c0;have c1:=H2.out.c1;have c2:=H2.out.c2;go_wp2_with fail
 refine CC.out.mono ?_;rintro e w5 ⟨rfl,hb5⟩;have H5:=hideK (H2.out.keep hb5);clear CC hb5 H2 c0 c1 c2;go_wp2_with fail
 go_ret
 exact ⟨rfl,H5.out.bl⟩
theorem procSpawn(hm:Option Nat)(p:Pr)(a:PrA)(s:Sc)(b:ScA)(r:Int)(w:World)(hk:p.kind=9)
  (c:∀W,Below w.heap.size w W→Calls Tryz.prog 41 #[.map hm,prVal p a,scVal s b] W fun e w'=>e = .returned (.int .i64 r)∧Below W.heap.size W w') :
  Calls Tryz.prog 24 #[.map hm,prVal p a,scVal s b] w fun e w'=>e = .returned (.int .i64 r)∧Below w.heap.size w w':=by
 have H2:=hideK (PSB.new w p a s b);have CC:=hideK (c ((w.alloc (.cells (pK p a) 40)).alloc (.cells #[.slice b.va s.vs.length b.vc,.slice b.sa s.ss.length b.sc,.map b.mp] 70)) H2.out.bl);have k1:(p.kind==1)=false:=by rw [hk];rfl
 have k7:(p.kind==7)=false:=by rw [hk];rfl
 have k9:(p.kind==9)=true:=by rw [hk];rfl
 simp only [scVal,prVal]at H2 CC ⊢;clear c hk;go_enter Tryz.func24,Tryz.ntmps24
 go_upto_region 7 with fail
 generalize (w.alloc (.cells (pK p a) 40)).alloc (.cells #[.slice b.va s.vs.length b.vc,.slice b.sa s.ss.length b.sc,.map b.mp] 70)=V at *;refine wp_region_lit ?_;refine wpList_plain rfl (fun K hK=>?_)
 go_simp
 refine hK _ _ ?_;clear hK K;refine wpList_loadW rfl rfl rfl (load_pr H2.out.at0) ?_;simp only [prVal,Act.put,List.setIfInBounds_toArray,List.set_cons_zero,List.set_cons_succ];have c0:=H2.out.c0;have c1:=H2.out.c1;have c2:=H2.out.c2;go_wp2_with fail
 refine CC.out.mono ?_;rintro e w5 ⟨rfl,hb5⟩;have H5:=hideK (H2.out.keep hb5);clear CC hb5 H2 c0 c1 c2;go_wp2_with fail
 go_ret
 exact ⟨rfl,H5.out.bl⟩
theorem procFork(hm:Option Nat)(p:Pr)(a:PrA)(s:Sc)(b:ScA)(r:Int)(w:World)(hk:p.kind=10)
  (c:∀W,Below w.heap.size w W→Calls Tryz.prog 42 #[.map hm,prVal p a,scVal s b] W fun e w'=>e = .returned (.int .i64 r)∧Below W.heap.size W w') :
  Calls Tryz.prog 24 #[.map hm,prVal p a,scVal s b] w fun e w'=>e = .returned (.int .i64 r)∧Below w.heap.size w w':=by
 have H2:=hideK (PSB.new w p a s b);have CC:=hideK (c ((w.alloc (.cells (pK p a) 40)).alloc (.cells #[.slice b.va s.vs.length b.vc,.slice b.sa s.ss.length b.sc,.map b.mp] 70)) H2.out.bl);have k1:(p.kind==1)=false:=by rw [hk];rfl
 have k7:(p.kind==7)=false:=by rw [hk];rfl
 have k9:(p.kind==9)=false:=by rw [hk];rfl
 have k10:(p.kind==10)=true:=by rw [hk];rfl
 simp only [scVal,prVal]at H2 CC ⊢;clear c hk;go_enter Tryz.func24,Tryz.ntmps24
 go_upto_region 9 with fail
 generalize (w.alloc (.cells (pK p a) 40)).alloc (.cells #[.slice b.va s.vs.length b.vc,.slice b.sa s.ss.length b.sc,.map b.mp] 70)=V at *;refine wp_region_lit ?_;refine wpList_plain rfl (fun K hK=>?_)
 go_simp
 refine hK _ _ ?_;clear hK K;refine wpList_loadW rfl rfl rfl (load_pr H2.out.at0) ?_;simp only [prVal,Act.put,List.setIfInBounds_toArray,List.set_cons_zero,List.set_cons_succ];have c0:=H2.out.c0;have c1:=H2.out.c1;have c2:=H2.out.c2;go_wp2_with fail
 refine CC.out.mono ?_;rintro e w5 ⟨rfl,hb5⟩;have H5:=hideK (H2.out.keep hb5);clear CC hb5 H2 c0 c1 c2;go_wp2_with fail
 go_ret
 exact ⟨rfl,H5.out.bl⟩
theorem procCall(hm:Option Nat)(p:Pr)(a:PrA)(s:Sc)(b:ScA)(r:Int)(w:World)(hk:p.kind=13)
  (c:∀W,Below w.heap.size w W→Calls Tryz.prog 43 #[.map hm,prVal p a,scVal s b] W fun e w'=>e = .returned (.int .i64 r)∧Below W.heap.size W w') :
  Calls Tryz.prog 24 #[.map hm,prVal p a,scVal s b] w fun e w'=>e = .returned (.int .i64 r)∧Below w.heap.size w w':=by
 have H2:=hideK (PSB.new w p a s b);have CC:=hideK (c ((w.alloc (.cells (pK p a) 40)).alloc (.cells #[.slice b.va s.vs.length b.vc,.slice b.sa s.ss.length b.sc,.map b.mp] 70)) H2.out.bl);have k1:(p.kind==1)=false:=by rw [hk];rfl
 have k7:(p.kind==7)=false:=by rw [hk];rfl
 have k9:(p.kind==9)=false:=by rw [hk];rfl
 have k10:(p.kind==10)=false:=by rw [hk];rfl
 have k13:(p.kind==13)=true:=by rw [hk];rfl
 simp only [scVal,prVal]at H2 CC ⊢;clear c hk;go_enter Tryz.func24,Tryz.ntmps24
 go_upto_region 11 with fail
 generalize (w.alloc (.cells (pK p a) 40)).alloc (.cells #[.slice b.va s.vs.length b.vc,.slice b.sa s.ss.length b.sc,.map b.mp] 70)=V at *;refine wp_region_lit ?_;refine wpList_plain rfl (fun K hK=>?_)
 go_simp
 refine hK _ _ ?_;clear hK K;refine wpList_loadW rfl rfl rfl (load_pr H2.out.at0) ?_;simp only [prVal,Act.put,List.setIfInBounds_toArray,List.set_cons_zero,List.set_cons_succ];have c0:=H2.out.c0;have c1:=H2.out.c1;have c2:=H2.out.c2;go_wp2_with fail
 refine CC.out.mono ?_;rintro e w5 ⟨rfl,hb5⟩;have H5:=hideK (H2.out.keep hb5);clear CC hb5 H2 c0 c1 c2;go_wp2_with fail
 go_ret
 exact ⟨rfl,H5.out.bl⟩
theorem procNext(hm:Option Nat)(p:Pr)(a:PrA)(w0:World)(L:Nat)(fs:List (Sc→Int))(hkl:p.kids.length=1)(hks:KSaid hm w0 p a L fs)(s s2:Sc)(b:ScA)(r:Int)(w:World)(hw:Below w0.heap.size w0 w)(hl:s2.vs.length≤L)(hk:p.kind≠1∧p.kind≠7∧p.kind≠9∧p.kind≠10∧p.kind≠13)
  (c:∀W,Below w.heap.size w W→Calls Tryz.prog 44 #[prVal p a,scVal s b] W fun e w'=>(∃b',e = .returned (.tuple #[scVal s2 b',.int .i64 r])∧ScV w w' s2 b')∧Below W.heap.size W w') :
  Calls Tryz.prog 24 #[.map hm,prVal p a,scVal s b] w fun e w'=>e = .returned (.int .i64 (if r≠0 then r else (fs.getD 0 fun _=>0) s2))∧Below w.heap.size w w':=by
 have H2:=hideK (PSB.new w p a s b);have CC:=hideK (c ((w.alloc (.cells (pK p a) 40)).alloc (.cells #[.slice b.va s.vs.length b.vc,.slice b.sa s.ss.length b.sc,.map b.mp] 70)) H2.out.bl);have hbw:∀W,Below w.heap.size w W→Below w0.heap.size w0 W:=fun W hW=>hw.trans (hW.mono hw.size)
 have HBW:=hideK hbw;have k1:(p.kind==1)=false:=by simpa using hk.1
 have k7:(p.kind==7)=false:=by simpa using hk.2.1
 have k9:(p.kind==9)=false:=by simpa using hk.2.2.1
 have k10:(p.kind==10)=false:=by simpa using hk.2.2.2.1
 have k13:(p.kind==13)=false:=by simpa using hk.2.2.2.2
 obtain ⟨res,hres⟩:∃q,q=(if r≠0 then r else (fs.getD 0 fun _=>0) s2):=⟨_,rfl⟩
 rw [← hres];have HRS:=hideK hres;have hk0:0<p.kids.length:=by omega
 obtain ⟨kb,ko,a0,ha,hbB,hat,hsd⟩:=hks 0 hk0;have HP:=hideK (fun (b':ScA) (V:World) (hV:Below w.heap.size w V) (hs:ScV w V s2 b')=>hsd s2 b' V (hbw V hV) (hs.at0 hV) hl)
 generalize (fs.getD 0 fun _=>0) s2=rk at *
 have HAT:=hideK (fun (W:World) (hW:PSB w p a s b W)=>hat.keep (hbw W hW.bl) hbB)
 have HK18:=hideK (fun (W:World) (hW:PSB w p a s b W)=>(show W.cell? ⟨w.heap.size,18,none⟩=some (.slice (some ⟨kb,ko,none⟩) p.kids.length a.kc) from ha ▸ hW.k18))
 have HKZ:=hideK (show (0:Int)<(p.kids.length:Int)∧p.kids≠[] from ⟨by omega,List.length_pos_iff.1 hk0⟩)
 generalize p.kids[0]'hk0=kx at *;simp only [scVal,prVal]at H2 CC HP ⊢;clear c hk hkl hks hw hl hbw hres hat hsd ha hbB hk0;go_enter Tryz.func24,Tryz.ntmps24
 go_upto_region 12 with fail
 generalize (w.alloc (.cells (pK p a) 40)).alloc (.cells #[.slice b.va s.vs.length b.vc,.slice b.sa s.ss.length b.sc,.map b.mp] 70)=V at *;refine wp_region_lit ?_;refine wpList_loadW rfl rfl rfl (load_pr H2.out.at0) ?_;simp only [prVal,Act.put,List.setIfInBounds_toArray,List.set_cons_zero,List.set_cons_succ];have c0:=H2.out.c0;have c1:=H2.out.c1;have c2:=H2.out.c2;go_wp2_with fail
 refine CC.out.mono ?_;rintro e w5 ⟨⟨b',rfl,hv⟩,hb5⟩;have H5:=hideK (PSN.of (H2.out.keep hb5) hv);clear CC hb5 H2 c0 c1 c2 hv k1 k7 k9 k10 k13;by_cases hr:r=0
 ·have hrb:(r != 0)=false:=by simpa using hr
  have hfin:res=rk:=by rw [HRS.out,if_neg (by simpa using hr)]
  have HF:=hideK hfin;clear hr hfin HRS;go_upto_region 15 with fail
  obtain ⟨hkz,hne⟩:=HKZ.out;have H8:=hideK (H5.out.keep ((bR _ _).drew));have hS0:(fun W:World=>PSN w p a s b w5.heap.size s2 b' W) (World.drew (w5.alloc (.cells #[.slice b'.va s2.vs.length b'.vc,.slice b'.sa s2.ss.length b'.sc,.map b'.mp] 70))):=H8.out
  clear H5 HKZ;refine wp_region_held_drew (S:=(fun W:World=>PSN w p a s b w5.heap.size s2 b' W)) (by kernel_rfl) hS0 (fun hS=>?_)
  clear hS0;generalize World.drew (w5.alloc (.cells #[.slice b'.va s2.vs.length b'.vc,.slice b'.sa s2.ss.length b'.sc,.map b'.mp] 70))=V8 at *;refine tkZ 0 (.map hm) hS ?_;refine tkZ 1 (.pointer (some ⟨w.heap.size,18,none⟩)) hS ?_;refine tkH 2 (.slice (some ⟨kb,ko,none⟩) p.kids.length a.kc) hS ?_ (hy:=Or.inl ⟨by rfl,fun W hW=>by have k18:=HK18.out W hW.ps;go_simp⟩)
  simp only [Act.put,sA,sB,sC];refine tkZ 3 (.pointer (some ⟨kb,ko+0*19,none⟩)) hS ?_;refine tkH 4 (.agg #[.int .i64 kx.kind,.string kx.chan,.string kx.name,.string kx.label,.int .i64 kx.ex.kind,.string kx.ex.name,.int .i64 kx.ex.so,.int .i64 kx.ex.n,.string kx.ex.s,.slice a0.ea kx.ex.kids.length a0.ec,.slice a0.xa kx.exs.length a0.xc,.slice a0.na kx.names.length a0.nc,.int .i64 kx.ty.kind,.int .i64 kx.ty.so,.string kx.ty.name,.slice a0.tl kx.ty.labels.length a0.tlc,.slice a0.tk kx.ty.kids.length a0.tkc,.slice a0.la kx.labels.length a0.lc,.slice a0.ka kx.kids.length a0.kc]) hS ?_ (hy:=Or.inl ⟨by rfl,fun W hW=>by exact exec_load (by rfl) (by rfl) (load_pr (HAT.out W hW.ps))⟩)
  simp only [Act.put,sA,sB,sC];refine tkH 5 (.agg #[.slice b'.va s2.vs.length b'.vc,.slice b'.sa s2.ss.length b'.sc,.map b'.mp]) hS ?_ (hy:=Or.inl ⟨by rfl,fun W hW=>by obtain ⟨_,_,n0,n1,n2,_⟩:=id hW;go_simp⟩)
  simp only [Act.put,sA,sB,sC];refine take_oneHL 6 (aC (fun K hK=>?_) aN) (by kernel_rfl)
  go_simp
  refine (HP.out b' V8 H8.out.ps.bl H8.out.sv).mono ?_;rintro e V9 ⟨rfl,hb9⟩;have H9:=hideK (H8.out.keep hb9);have hSn:(fun W:World=>PSN w p a s b w5.heap.size s2 b' W) V9:=H9.out
  refine hK.out _ _ hSn ?_;clear hb9;clear hS hK K hSn;intro hS;try simp only [Act.put,sA,sB,sC]
  refine tkZ 7 (.int .i64 rk) hS ?_;refine wpAnyH_done (by kernel_rfl) ?_ _
  clear HP hS HAT HK18 H8;go_wp2_with fail
  go_ret
  rw [HF.out];exact ⟨rfl,H9.out.ps.bl⟩
 ·have hrb:(r != 0)=true:=by simpa using hr
  have hfin:res=r:=by rw [HRS.out,if_pos hr]
  have HF:=hideK hfin;clear hr hfin HRS;go_wp2_with fail
  go_ret
  rw [HF.out];exact ⟨rfl,H5.out.ps.bl⟩
def HDS(gr:Ty→List Nd)(ds:List Df)(hm:Option Nat)(w0:World):Prop:=∀n:ByteArray,n.size≤maxLen →
 (hdOf ds n=none∧∀W,Below w0.heap.size w0 W→(Instr.lookup 64 (.map hm) (.string n) true).run Tryz.prog W = .ok (.tuple #[.agg #[.slice none 0 0,.slice none 0 0,.slice none 0 0,.slice none 0 0],.bool false]) W) ∨
 ∃d e,hdOf ds n=some d∧HdOK w0 d (endsD gr d) e∧∀W,Below w0.heap.size w0 W→(Instr.lookup 64 (.map hm) (.string n) true).run Tryz.prog W = .ok (.tuple #[hdVal d e (endsD gr d).length,.bool true]) W∧(Instr.lookup 64 (.map hm) (.string n) false).run Tryz.prog W = .ok (hdVal d e (endsD gr d).length) W
theorem PSaid.mono{hm:Option Nat}{w0:World}{p:Pr}{a:PrA}{L L':Nat}{f:Sc→Int}(h:PSaid hm w0 p a L f)(hL:L'≤L):PSaid hm w0 p a L' f:=fun s b w hw hs hl=>h s b w hw hs (Nat.le_trans hl hL)
theorem kds_at{W:World}{B d:Nat}{p:Pr}{a:PrA}(h:PrOK W B d p a){k:Nat}(hk:k<p.kids.length):∃b o a' d',a.ka=some ⟨b,o,none⟩∧b<B∧d'<d∧PrAt W b (o+k*19) p.kids[k] a'∧PrOK W B d' p.kids[k] a':=by
 cases d with
 | zero=>have:=h.2;rw [this]at hk;simp at hk
 | succ d =>
  rcases h.2 with q|⟨b,o,e,hl,q⟩
  ·rw [q]at hk;simp at hk
  ·obtain ⟨a',h1,h2⟩:=q k hk
   exact ⟨b,o,a',d,e,hl,Nat.lt_succ_self _,h1,h2⟩
theorem shp_kid{ks:List Pr}{x:Int × Nat}(h:(shpL ks x).1=0){k:Nat}(hk:k<ks.length):(shpL (ks.take k) x).1=0∧(shpR ks[k] (shpL (ks.take k) x).2).1=0:=by
 have h1:(shpL (ks.take k) x).1=0:=by
  apply Classical.byContradiction
  intro q;rw [shpL_split ks k x q]at h;exact q h
 refine ⟨h1,?_⟩;apply Classical.byContradiction
 intro q;have e:shpL (ks.take (k+1)) x=shpR ks[k] (shpL (ks.take k) x).2:=by
  rw [List.take_succ_eq_append_getElem hk,shpL_snoc,if_neg (by simpa using h1)]
 have:=shpL_split ks (k+1) x (by rw [e];exact q)
 rw [this,e]at h;exact q h
theorem behP_len(p:Pr)(s:Sc):(behP p s).1.vs.length≤s.vs.length+1:=by
 unfold behP;split
 ·simp [Sc.wv]
 split
 ·simp
 split
 ·simp
 split
 ·simp
 unfold behD;split
 ·simp [Sc.we]
 split
 ·simp [Sc.we,Sc.wv]
 split
 ·split
  ·simp
  split
  ·simp
  ·simp [Sc.we,Sc.wo]
 split
 ·split
  ·simp
  ·simp [Sc.we]
 split
 ·split
  ·simp [Sc.we]
  ·simp
 ·simp [Sc.wo]
section
theorem proc_all {W0:World} (h0:Tabs W0) (gr og:Ty→List Nd) (ds:List Df) (hm:Option Nat) (w0:World) (hT:AT W0 w0) (hH:HDS gr ds hm w0) (hgr:∀t g,chkTy t=0→OFG t g→g=gr t) (hog:∀t g,chkTy t=0→OTG t g→g=og t):∀(d:Nat) (p:Pr) (a:PrA) (c:Nat),PrOK w0 w0.heap.size d p a→c≤200→(shpR p c).1=0→PSaid hm w0 p a (100+c) (ckR gr og ds p):=by
 intro d;induction d using Nat.strongRecOn with
 | _ d ih =>
 intro p a c hok hc hs;rw [shpR_eq]at hs;by_cases q1:200<c+1
 ·rw [if_pos q1]at hs;exact absurd hs (by simp)
 rw [if_neg q1]at hs;by_cases q2:partP p=false
 ·rw [if_pos q2]at hs;exact absurd hs (by simp)
 rw [if_neg q2]at hs;by_cases q3:insP p≠0
 ·rw [if_pos q3]at hs;exact absurd hs q3
 rw [if_neg q3]at hs;have hpart:partP p=true:=by simpa using q2
 have hins:insP p=0:=by simpa using q3
 have hp:=hok.b;have hK:KSaid hm w0 p a (101+c) (p.kids.map (ckR gr og ds)):=by
  intro k hk;obtain ⟨b,o,a',d',e,hl,hd,hat,hkd⟩:=kds_at hok hk;obtain ⟨h1,h2⟩:=shp_kid hs hk;have hcnt:=shpL_cnt (p.kids.take k) (0,c+1) (fun q _=>shpR_cnt q) (by show c+1≤200;omega) h1
  refine ⟨b,o,a',e,hl,hat,?_⟩;have:=ih d' hd p.kids[k] a' _ hkd hcnt.2 h2;have hc1:c+1≤(shpL (p.kids.take k) (0,c+1)).2:=hcnt.1;rw [show ((p.kids.map (ckR gr og ds)).getD k fun _=>0)=ckR gr og ds p.kids[k] from by simp [List.getD,hk]]
  exact this.mono (by omega)
 simp only [partP,Bool.and_eq_true]at hpart;obtain ⟨g0,_,_,_,_,g5,g6,_,g8⟩:=hpart;have hk13:=of_decide_eq_true g0;have hkd:p.kids.length=kdsOf p:=hk13.2.2;intro s b w hw h hl;rw [ckR_eq];generalize hfs:p.kids.map (ckR gr og ds)=fs at *;have hbw:∀W,Below w.heap.size w W→Below w0.heap.size w0 W:=fun W hW=>hw.trans (hW.mono hw.size)
 rcases (by omega:p.kind=1∨p.kind=7∨p.kind=9∨p.kind=10∨p.kind=13∨(2≤p.kind∧p.kind≤8∧p.kind≠7)∨p.kind=11∨p.kind=12) with e|e|e|e|e|e
 ·unfold ckB
  rw [if_pos e];exact procStop hm p a s b w e h
 ·unfold ckB
  rw [if_neg (by omega),if_pos e]
  have hll:p.labels.length≤1000:=by
   unfold pt8 fitB hvLs at g8;rw [decide_eq_true e,if_pos rfl]at g8;unfold labsOK at g8;rw [Bool.and_eq_true]at g8;have:=of_decide_eq_true g8.1;omega
  have hkk:p.kids.length=p.labels.length:=by rw [hkd];unfold kdsOf;rw [if_neg (by omega),if_neg (by omega),if_pos e]
  exact procCases hm p a s b _ w e (fun W hW=>cases_any hm p a w0 (101+c) fs e hkk hll hp hK s b W (hbw W hW) (h.keep hW) (by omega))
 ·unfold ckB
  rw [if_neg (by omega),if_neg (by omega),if_pos e]
  have hty:chkTy p.ty=0:=by
   unfold insP at hins;by_cases q:exsE p.exs≠0
   ·rw [if_pos q]at hins;exact absurd hins q
   rw [if_neg q]at hins;unfold hvX hvT at hins;rw [if_neg (by simp;omega),if_pos (by simpa using e)]at hins
   exact hins
  have hkk:p.kids.length=2:=by rw [hkd];unfold kdsOf;rw [if_neg (by omega),if_pos (by omega)]
  have hnn:p.names.length≤1000:=by
   unfold pt6 fitB hvNs at g6;rw [decide_eq_true (.inl e),if_pos rfl]at g6;unfold areNm at g6;rw [Bool.and_eq_true]at g6;have:=of_decide_eq_true g6.1;omega
  cases hg:(getE s.es p.chan).isSome with
  | true =>
   rw [if_pos rfl];exact procSpawn hm p a s b 4 w e (fun W hW=>spawnTaken hm p a s b W (h.keep hW) hp.chan hg)
  | false =>
   rw [if_neg (by simp)]
   obtain ⟨td,htk⟩:=hp.tyk;refine procSpawn hm p a s b (SPR fs p s ⟨gr p.ty,0⟩ ⟨og p.ty,0⟩) w e (fun W hW=>spawnNew hm p a w0 (101+c) fs hkk hp hnn hK s b W (hbw W hW) (h.keep hW) (by omega) hg ⟨gr p.ty,0⟩ ⟨og p.ty,0⟩ (fun V hV=>(enOf_any td p.ty a.tl a.tlc a.tk a.tkc V hp.tyb (NAt.mono hV.size (NAt.keep hV hp.tyl)) (KT.mono hV.size (KT.keep hV htk)) hty).mono ?_) (fun V hV=>(enOther_any td p.ty a.tl a.tlc a.tk a.tkc V hp.tyb (NAt.mono hV.size (NAt.keep hV hp.tyl)) (KT.mono hV.size (KT.keep hV htk)) hty).mono ?_))
   ·rintro _ w' ⟨⟨g,ag,cg,ho,rfl,hen⟩,hb⟩
    obtain rfl:=hgr _ _ hty ho;exact ⟨⟨ag,cg,rfl,hen⟩,hb⟩
   ·rintro _ w' ⟨⟨g,ag,cg,ho,rfl,hen⟩,hb⟩
    obtain rfl:=hog _ _ hty ho;exact ⟨⟨ag,cg,rfl,hen⟩,hb⟩
 ·unfold ckB
  rw [if_neg (by omega),if_neg (by omega),if_neg (by omega),if_pos e]
  have hkk:p.kids.length=2:=by rw [hkd];unfold kdsOf;rw [if_neg (by omega),if_pos (by omega)]
  exact procFork hm p a s b _ w e (fun W hW=>fork_any h0 hm p a w0 (101+c) fs hkk hp hT hK s b W (hbw W hW) (h.keep hW) (by omega) (by omega))
 ·unfold ckB
  rw [if_neg (by omega),if_neg (by omega),if_neg (by omega),if_neg (by omega),if_pos e]
  have hnn:p.names.length≤1000:=by
   unfold pt6 fitB hvNs at g6;rw [decide_eq_true (.inr e),if_pos rfl]at g6;unfold areNm at g6;rw [Bool.and_eq_true]at g6;have:=of_decide_eq_true g6.1;omega
  have hxx:p.exs.length≤1000:=by
   unfold pt5 fitB hvXs at g5;rw [decide_eq_true e,if_pos rfl]at g5;have:=of_decide_eq_true g5;omega
  rcases hH p.name hp.name with ⟨q,hlk⟩|⟨df,ea,q,hdo,hlk⟩
  ·rw [q]
   exact procCall hm p a s b 4 w e (fun W hW=>callNone hm p a s b W (fun V hV=>hlk V (hbw V (hW.trans (hV.mono hW.size)))))
  ·rw [q]
   have hel:(endsD gr df).length=df.tys.length:=by simp [endsD]
   simp only;by_cases hlen:p.exs.length≠df.sorts.length∨p.names.length≠df.tys.length
   ·rw [if_pos hlen]
    exact procCall hm p a s b 1 w e (fun W hW=>callLen hm p a s b df ea (endsD gr df).length W (by rw [hel];exact hlen) (fun V hV=>(hlk V (hbw V (hW.trans (hV.mono hW.size)))).1))
   ·rw [if_neg hlen]
    exact procCall hm p a s b _ w e (fun W hW=>callGood h0 hm p a w0 (101+c) df (endsD gr df) ea (endsD gr df).length rfl hdo (by omega) (by omega) hxx hnn hp hT s b W (hbw W hW) (h.keep hW) (by omega) (by omega) (fun V hV=>(hlk V (hbw V (hW.trans (hV.mono hW.size)))).1))
 ·have hke:(2≤p.kind∧p.kind≤8∧p.kind≠7)∨p.kind=11∨p.kind=12:=e
  unfold ckB;rw [if_neg (by omega),if_neg (by omega),if_neg (by omega),if_neg (by omega),if_neg (by omega)]
  have hkk:p.kids.length=1:=by rw [hkd];unfold kdsOf;rw [if_neg (by omega),if_neg (by omega),if_neg (by omega)]
  have hvl:(behP p s).1.vs.length≤101+c:=by
   have:(behP p s).1.vs.length≤s.vs.length+1:=behP_len p s;omega
  exact procNext hm p a w0 (101+c) fs hkk hK s (behP p s).1 b (behP p s).2 w hw hvl (by omega) (fun W hW=>behP_any h0 p a s b w W h hW hke ((hp.keep hw).mono hw.size) (at_k _ _ hT hw) (by omega))
end
end Go.Proofs.YtmamabhhgfcjcaaGreatDoor
