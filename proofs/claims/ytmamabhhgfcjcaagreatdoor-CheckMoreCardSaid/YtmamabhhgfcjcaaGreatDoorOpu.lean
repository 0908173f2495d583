/-
  The contract of (check.heads).cases.
-/
import Derived.Test.YtmamabhhgfcjcaaGreatDoorOpt
set_option maxRecDepth 100000
set_option maxHeartbeats 16000000
namespace Go.Proofs.YtmamabhhgfcjcaaGreatDoor
open Go.RowKit Go.Shelf
structure PSX(w:World)(p:Pr)(a:PrA)(s:Sc)(b:ScA)(xb:Nat)(x:En)(ag:OAd)(cg:Nat)(W:World):Prop where
 ps:PSB w p a s b W
 lt:xb<W.heap.size
 e0:W.cell? ⟨xb,0,none⟩=some (.slice ag x.g.length cg)
 e1:W.cell? ⟨xb,1,none⟩=some (.int .i64 (x.k:Int))
theorem PSX.keep{w:World}{p:Pr}{a:PrA}{s:Sc}{b:ScA}{xb:Nat}{x:En}{ag:OAd}{cg:Nat}{W W':World}(h:PSX w p a s b xb x ag cg W)(hb:Below W.heap.size W W'):PSX w p a s b xb x ag cg W' :=
 ⟨h.ps.keep hb,nL h.lt hb.size,(hb.cell (p:=⟨xb,0,none⟩) h.lt).trans h.e0,(hb.cell (p:=⟨xb,1,none⟩) h.lt).trans h.e1⟩
theorem PSX.of{w:World}{p:Pr}{a:PrA}{s:Sc}{b:ScA}{W:World}(h:PSB w p a s b W)(x:En)(ag:OAd)(cg:Nat):PSX w p a s b W.heap.size x ag cg (W.alloc (.cells #[.slice ag x.g.length cg,.int .i64 (x.k:Int)] 90)) :=
 ⟨h.keep ((bR _ _).alloc (nR _) _),by simp,by go_cell,by go_cell⟩
theorem PSB.k1{w:World}{p:Pr}{a:PrA}{s:Sc}{b:ScA}{W:World}(h:PSB w p a s b W):W.cell? ⟨w.heap.size,1,none⟩=some (.string p.chan):=h.at0.get (j:=1) (by omega) rfl
theorem PSB.k18{w:World}{p:Pr}{a:PrA}{s:Sc}{b:ScA}{W:World}(h:PSB w p a s b W):W.cell? ⟨w.heap.size,18,none⟩=some (.slice a.ka p.kids.length a.kc):=h.at0.get (j:=18) (by omega) rfl
theorem PSB.k17{w:World}{p:Pr}{a:PrA}{s:Sc}{b:ScA}{W:World}(h:PSB w p a s b W):W.cell? ⟨w.heap.size,17,none⟩=some (.slice a.la p.labels.length a.lc):=h.at0.get (j:=17) (by omega) rfl
theorem casesBad(hm:Option Nat)(p:Pr)(a:PrA)(s:Sc)(b:ScA)(r:Int)(w:World)(hr:r≠0)
  (c:∀W,Below w.heap.size w W→Calls Tryz.prog 62 #[prVal p a,scVal s b] W fun e w'=>e = .returned (.tuple #[.agg #[.slice none 0 0,.int .i64 0],.int .i64 r])∧Below W.heap.size W w') :
  Calls Tryz.prog 40 #[.map hm,prVal p a,scVal s b] w fun e w'=>e = .returned (.int .i64 r)∧Below w.heap.size w w':=by
 have H2:=hideK (PSB.new w p a s b);have CC:=hideK (c ((w.alloc (.cells (pK p a) 40)).alloc (.cells #[.slice b.va s.vs.length b.vc,.slice b.sa s.ss.length b.sc,.map b.mp] 70)) H2.out.bl);have hr0:(r != 0)=true:=by simpa using hr
 simp only [scVal,prVal]at H2 CC ⊢;clear c hr;go_enter Tryz.func40,Tryz.ntmps40
 go_upto_region 1 with fail
 generalize (w.alloc (.cells (pK p a) 40)).alloc (.cells #[.slice b.va s.vs.length b.vc,.slice b.sa s.ss.length b.sc,.map b.mp] 70)=V at *;refine wp_region_lit ?_;refine wpList_loadW rfl rfl rfl (load_pr H2.out.at0) ?_;simp only [prVal,Act.put,List.setIfInBounds_toArray,List.set_cons_zero,List.set_cons_succ];have c0:=H2.out.c0;have c1:=H2.out.c1;have c2:=H2.out.c2;go_wp2_with fail
 refine CC.out.mono ?_;rintro e w5 ⟨rfl,hb5⟩;have HB:=hideK ((H2.out.keep hb5).bl.alloc (by have:=(H2.out.keep hb5).bl.size;omega) (.cells #[.slice none 0 0,.int .i64 0] 90))
 clear CC hb5 H2 c0 c1 c2;go_wp2_with fail
 go_ret
 exact ⟨rfl,HB.out⟩
theorem casesGood(hm:Option Nat)(p:Pr)(a:PrA)(w0:World)(L:Nat)(fs:List (Sc→Int))(hkl:p.kids.length=p.labels.length)(hlz:p.labels.length≤1000)(hp:PrB w0 w0.heap.size p a)(hks:KSaid hm w0 p a L fs)(s:Sc)(b:ScA)(x:En)(w:World)(hw:Below w0.heap.size w0 w)(h:ScAt w s b)(hl:s.vs.length≤L)
  (hlab:(hereE x).to.length=(hereE x).labs.length) (hnl:(hereE x).labs.length≤1000)
  (c:∀W,Below w.heap.size w W→Calls Tryz.prog 62 #[prVal p a,scVal s b] W fun e w'=>(∃ag cg,EnAt w x ag∧e = .returned (.tuple #[enVal x ag cg,.int .i64 0]))∧Below W.heap.size W w') :
  Calls Tryz.prog 40 #[.map hm,prVal p a,scVal s b] w fun e w'=>e = .returned (.int .i64 (csG p fs s x (hereE x).labs 0))∧Below w.heap.size w w':=by
 have H2:=hideK (PSB.new w p a s b);have CC:=hideK (c ((w.alloc (.cells (pK p a) 40)).alloc (.cells #[.slice b.va s.vs.length b.vc,.slice b.sa s.ss.length b.sc,.map b.mp] 70)) H2.out.bl);have hbw:∀W,Below w.heap.size w W→Below w0.heap.size w0 W:=fun W hW=>hw.trans (hW.mono hw.size)
 have HK:=hideK hks;have HL:=hideK (And.intro hl (And.intro hkl hlz));have HS:=hideK h;have HBW:=hideK hbw;have HM:=hideK (show p.chan.size≤maxLen from hp.chan)
 have HLB:=hideK hp.lbs;obtain ⟨res,hres⟩:∃q,q=csG p fs s x (hereE x).labs 0:=⟨_,rfl⟩;rw [← hres];have HRS:=hideK hres;simp only [scVal,prVal,enVal]at H2 CC ⊢;clear c h hl hkl hlz hks hbw hp hres;go_enter Tryz.func40,Tryz.ntmps40
 go_upto_region 1 with fail
 generalize (w.alloc (.cells (pK p a) 40)).alloc (.cells #[.slice b.va s.vs.length b.vc,.slice b.sa s.ss.length b.sc,.map b.mp] 70)=V at *;refine wp_region_lit ?_;refine wpList_loadW rfl rfl rfl (load_pr H2.out.at0) ?_;simp only [prVal,Act.put,List.setIfInBounds_toArray,List.set_cons_zero,List.set_cons_succ];have c0:=H2.out.c0;have c1:=H2.out.c1;have c2:=H2.out.c2;go_wp2_with fail
 refine CC.out.mono ?_;rintro e w5 ⟨⟨ag,cg,hx,rfl⟩,hb5⟩;have H6:=hideK (PSX.of (H2.out.keep hb5) x ag cg);have HX:=hideK hx;obtain ⟨al,cl,at1,ct,hla,_,hH⟩:=enHere_ex x ag cg w hx;have HH:=hideK hH;have HLA:=hideK hla;have hto:=fun (k:Nat) (hk:k<(hereE x).labs.length) (W:World) (hW:Below w.heap.size w W)=>And.intro (enTo_any x ag cg k W (hx.keep hW) (by omega)) (hx.to (j:=k) (by omega))
 have HT:=hideK hto;clear CC hb5 H2 c0 c1 c2 hx hH hla hto hlab;generalize hereE x=nd at *;simp only [enVal,ndVal]at HH HT;go_upto_region 4 with fail
 generalize hxb:w5.heap.size=xb at *;generalize w5.alloc (.cells #[.slice ag x.g.length cg,.int .i64 (x.k:Int)] 90)=V6 at *;clear hxb;have c:=HH.out V6 H6.out.ps.bl;have e0:=H6.out.e0;have e1:=H6.out.e1;go_wp2_with fail
 refine c.mono ?_;rintro e w7 ⟨rfl,hb7⟩;have H7:=hideK (H6.out.keep hb7);have hfl:(Instr.field 102 (.agg #[.int .i64 nd.kind,.int .i64 nd.so,.slice al nd.labs.length cl,.slice at1 nd.to.length ct]) 2).run Tryz.prog w7 = .ok (.slice al nd.labs.length cl) w7:=by kernel_rfl
 clear c hb7 H6 e0 e1 HH;have hnz:(nd.labs.length:Int)≤1000:=by omega
 go_wp2_with fail
 go_loopw [26] (fun i wr=>∃k:Nat,k≤nd.labs.length∧i = .int .i64 (k:Int)∧res=csG p fs s x (nd.labs.drop k) k∧PSX w p a s b xb x ag cg wr) (fun i _=>nd.labs.length - (intOf i).toNat)
 case atStart=>exact ⟨0,Nat.zero_le _,rfl,HRS.out,H7.out⟩
 case round =>
  obtain ⟨k,hk,rfl,hz,hW⟩:=hrel;clear hfl H7;by_cases hltk:k<nd.labs.length
  ·have hltz:(k:Int)<(nd.labs.length:Int):=by omega
   rw [List.drop_eq_getElem_cons hltk,csG]at hz;obtain ⟨lb,lo,rfl,hlb,hcl⟩:=HLA.out.resolve_left (fun q=>by rw [List.map_eq_nil_iff]at q;rw [q]at hltk;simp at hltk)
   have d0:=hcl k (by simpa using hltk)
   rw [List.getElem_map,← hW.ps.bl.cell (p:=⟨lb,lo+k,none⟩) hlb]at d0;have ci:=index_any p.labels nd.labs[k] a.la a.lc w0.heap.size wr (NAt.keep (HBW.out wr hW.ps.bl) HLB.out.la) HL.out.2.2;have k17:=hW.ps.k17;generalize hy:nd.labs[k]=y at *;clear hcl hlb;cases hN:hasN p.labels y with
   | false =>
    rw [show idxZ p.labels y = -1 from by unfold idxZ;rw [hN];rfl]at ci
    rw [if_neg (by rw [hN];simp)]at hz
    have HZ:=hideK hz;have HW:=hideK hW;clear hz hW HK HT hN;go_wp2_with fail
    refine ci.mono ?_;rintro e w8 ⟨rfl,hw8⟩;subst hw8;go_wp2_with fail
    go_ret
    rw [HZ.out];exact ⟨rfl,HW.out.ps.bl⟩
   | true =>
    rw [show idxZ p.labels y=(idxB p.labels y:Int) from by unfold idxZ;rw [hN];rfl]at ci
    rw [if_pos hN]at hz;have hj:=idxB_lt ((hasN_iff _ _).1 hN);generalize idxB p.labels y=j at *;have hjk:j<p.kids.length:=by rw [HL.out.2.1];exact hj
    obtain ⟨kb,ko,a',ha,hbB,hat,hsd⟩:=HK.out j hjk;have HAT:=hideK (fun (W:World) (hW:PSX w p a s b xb x ag cg W)=>hat.keep (HBW.out W hW.ps.bl) hbB)
    have HK18:=hideK (fun (W:World) (hW:PSX w p a s b xb x ag cg W)=>(show W.cell? ⟨w.heap.size,18,none⟩=some (.slice (some ⟨kb,ko,none⟩) p.kids.length a.kc) from ha ▸ hW.ps.k18))
    have hTk:=HT.out k hltk;have HT1:=hideK (fun W hW=>(hTk W hW).1)
    have hyn:=(hTk w (bR _ _)).2;generalize toE x k=yk at *;have HU:=hideK (fun (W:World) (hW:Below w.heap.size w W)=>withEnd_g s b p.chan yk ag cg w W (HS.out.gs hW) HM.out hyn)
    have HP:=hideK (fun (v:World) (mp:Option Nat) (W:World) (hW:Below w.heap.size w W) (hn:NSc w v (s.we p.chan yk).es mp W)=>hsd (s.we p.chan yk) ⟨b.va,b.vc,b.sa,b.sc,mp⟩ W (HBW.out W hW) (HS.out.new hW hn) HL.out.1)
    generalize s.we p.chan yk=s2 at *;generalize (fs.getD j fun _=>0) s2=rk at *
    generalize p.kids[j]=kx at *;have hjz:(j:Int)<(p.kids.length:Int):=by omega
    have hj1:(j:Int)≤1000:=by have:=HL.out;omega
    have HZ:=hideK hz;have HW:=hideK hW;have HKL:=hideK hltk;simp only [scVal,prVal,enVal]at HT1 HU HP;clear hz hW hN HT hTk hat hsd HK hyn hj hy ha;go_wp2_with fail
    refine ci.mono ?_;rintro e w8 ⟨rfl,hw8⟩;subst hw8;clear ci d0 k17;go_upto_region 10 with fail
    have H8:=hideK (HW.out.keep ((bR _ _).drew));have hS0:(fun W:World=>PSX w p a s b xb x ag cg W) (World.drew w8):=H8.out
    clear HW;refine wp_region_held_drew (S:=(fun W:World=>PSX w p a s b xb x ag cg W)) (by kernel_rfl) hS0 (fun hS=>?_)
    clear hS0;generalize World.drew w8=V8 at *;refine tkZ 0 (.map hm) hS ?_;refine tkZ 1 (.pointer (some ⟨w.heap.size,18,none⟩)) hS ?_;refine tkH 2 (.slice (some ⟨kb,ko,none⟩) p.kids.length a.kc) hS ?_ (hy:=Or.inl ⟨by rfl,fun W hW=>by have k18:=HK18.out W hW;go_simp⟩)
    simp only [Act.put,sA,sB,sC];refine tkZ 3 (.int .i64 (j:Int)) hS ?_;refine tkZ 4 (.pointer (some ⟨kb,ko+j*19,none⟩)) hS ?_;refine tkH 5 (.agg #[.int .i64 kx.kind,.string kx.chan,.string kx.name,.string kx.label,.int .i64 kx.ex.kind,.string kx.ex.name,.int .i64 kx.ex.so,.int .i64 kx.ex.n,.string kx.ex.s,.slice a'.ea kx.ex.kids.length a'.ec,.slice a'.xa kx.exs.length a'.xc,.slice a'.na kx.names.length a'.nc,.int .i64 kx.ty.kind,.int .i64 kx.ty.so,.string kx.ty.name,.slice a'.tl kx.ty.labels.length a'.tlc,.slice a'.tk kx.ty.kids.length a'.tkc,.slice a'.la kx.labels.length a'.lc,.slice a'.ka kx.kids.length a'.kc]) hS ?_ (hy:=Or.inl ⟨by rfl,fun W hW=>by exact exec_load (by rfl) (by rfl) (load_pr (HAT.out W hW))⟩)
    simp only [Act.put,sA,sB,sC];refine tkH 6 (.agg #[.slice b.va s.vs.length b.vc,.slice b.sa s.ss.length b.sc,.map b.mp]) hS ?_ (hy:=Or.inl ⟨by rfl,fun W hW=>by obtain ⟨⟨_,_,_,c0,c1,c2,_⟩,_,e0,e1⟩:=id hW;go_simp⟩)
    simp only [Act.put,sA,sB,sC];refine tkZ 7 (.pointer (some ⟨w.heap.size,1,none⟩)) hS ?_;refine tkH 8 (.string p.chan) hS ?_ (hy:=Or.inl ⟨by rfl,fun W hW=>by have k1:=hW.ps.k1;go_simp⟩)
    simp only [Act.put,sA,sB,sC];refine tkH 9 (.agg #[.slice ag x.g.length cg,.int .i64 (x.k:Int)]) hS ?_ (hy:=Or.inl ⟨by rfl,fun W hW=>by obtain ⟨⟨_,_,_,c0,c1,c2,_⟩,_,e0,e1⟩:=id hW;go_simp⟩)
    simp only [Act.put,sA,sB,sC];refine tkZ 10 (.int .i64 (k:Int)) hS ?_;refine take_oneHL 11 (aC (fun K hK=>?_) aN) (by kernel_rfl)
    go_simp
    refine (HT1.out V8 H8.out.ps.bl).mono ?_;rintro e V9 ⟨rfl,hb8⟩;have H9:=hideK (H8.out.keep hb8);have hSn:(fun W:World=>PSX w p a s b xb x ag cg W) V9:=H9.out
    refine hK.out _ _ hSn ?_;clear hb8 ;clear hS hK K hSn;intro hS;try simp only [Act.put,sA,sB,sC]
    refine take_oneHL 12 (aC (fun K hK=>?_) aN) (by kernel_rfl)
    go_simp
    refine (HU.out V9 H9.out.ps.bl).mono ?_;rintro e V10 ⟨⟨mp2,rfl,hn3⟩,hb9⟩;have H10:=hideK (H9.out.keep hb9);have hSn:(fun W:World=>PSX w p a s b xb x ag cg W) V10:=H10.out
    have HN3:=hideK hn3;refine hK.out _ _ hSn ?_;clear hb9 hn3;clear hS hK K hSn;intro hS;try simp only [Act.put,sA,sB,sC]
    refine take_oneHL 13 (aC (fun K hK=>?_) aN) (by kernel_rfl)
    go_simp
    refine (HP.out V9 mp2 V10 H10.out.ps.bl HN3.out).mono ?_;rintro e V11 ⟨rfl,hb10⟩;have H11:=hideK (H10.out.keep hb10);have hSn:(fun W:World=>PSX w p a s b xb x ag cg W) V11:=H11.out
    refine hK.out _ _ hSn ?_;clear hb10 ;clear hS hK K hSn;intro hS;try simp only [Act.put,sA,sB,sC]
    refine tkZ 14 (.int .i64 rk) hS ?_;refine wpAnyH_done (by kernel_rfl) ?_ _
    clear HT1 HU HP HN3 hS;have hz:=HZ.out;clear HZ;by_cases hr:rk=0
    ·have hrb2:(rk != 0)=false:=by simpa using hr
     rw [if_neg (by simpa using hr)]at hz
     have HZ:=hideK hz;clear hr hz;go_wp2_with fail
     go_roundw
     case rel=>exact ⟨k+1,HKL.out,by go_num,HZ.out,H11.out⟩
     case measure=>simp [intOf];have:=HKL.out;omega
    ·have hrb2:(rk != 0)=true:=by simpa using hr
     rw [if_pos (by simpa using hr)]at hz
     have HZ:=hideK hz;clear hr hz;go_wp2_with fail
     go_ret
     rw [HZ.out];exact ⟨rfl,H11.out.ps.bl⟩
  ·have hltz:¬(k:Int)<(nd.labs.length:Int):=by omega
   rw [List.drop_of_length_le (by omega),csG]at hz
   have HZ:=hideK hz;have HW:=hideK hW;clear hz hW HK HT;go_wp2_with fail
   go_ret
   rw [HZ.out];exact ⟨rfl,HW.out.ps.bl⟩
theorem cases_any(hm:Option Nat)(p:Pr)(a:PrA)(w0:World)(L:Nat)(fs:List (Sc→Int))(hk7:p.kind=7)(hkl:p.kids.length=p.labels.length)(hlz:p.labels.length≤1000)(hp:PrB w0 w0.heap.size p a)(hks:KSaid hm w0 p a L fs)(s:Sc)(b:ScA)(w:World)(hw:Below w0.heap.size w0 w)(h:ScAt w s b)(hl:s.vs.length≤L):
  Calls Tryz.prog 40 #[.map hm,prVal p a,scVal s b] w fun e w'=>e = .returned (.int .i64 (match getE s.es p.chan with
   | none=>4
   | some x=>if (hereE x).kind≠dnBy p.kind then 7 else csG p fs s x (hereE x).labs 0))∧Below w.heap.size w w':=by
 have hch:p.chan.size≤maxLen:=hp.chan;have hd7:dnBy p.kind=7:=by rw [hk7];rfl
 cases hg:getE s.es p.chan with
 | none=>exact casesBad hm p a s b 4 w (by decide) (fun W hW=>usedNo_any p a s b w W h hW hch hg)
 | some x =>
  obtain ⟨ag,cg,hx⟩:∃(ag:OAd) (cg:Nat),EnAt w x ag:=by
   rcases h.es.look hch with ⟨e,_⟩|⟨x',ag,cg,e,hx,_⟩
   ·rw [hg]at e;cases e
   ·rw [hg]at e;cases e;exact ⟨ag,cg,hx⟩
  have hok:=here_ok hx;by_cases hkx:(hereE x).kind=dnBy p.kind
  ·simp only [hkx,ne_eq,not_true_eq_false,if_false]
   have hlab:(hereE x).to.length=(hereE x).labs.length:=by rcases okN_cases hok with q|q|q|q <;> first|exact q.2.2.2|(exfalso;have q1:=q.1;rw [hkx,hd7]at q1;revert q1;decide)
   refine casesGood hm p a w0 L fs hkl hlz hp hks s b x w hw h hl hlab (labs_len hok) (fun W hW=>(usedYes_any p a s b x w W h hW hch hg).mono ?_)
   rintro e w' ⟨⟨ag,cg,hx,q⟩,hb⟩;rcases q with q|q
   ·exact absurd hkx q.1
   ·exact ⟨⟨ag,cg,hx,q.2⟩,hb⟩
  ·simp only [ne_eq,hkx,not_false_eq_true,if_true]
   refine casesBad hm p a s b 7 w (by decide) (fun W hW=>(usedYes_any p a s b x w W h hW hch hg).mono ?_)
   rintro e w' ⟨⟨ag,cg,hx,q⟩,hb⟩;rcases q with q|q
   ·exact ⟨q.2,hb⟩
   ·exact absurd q.1 hkx
end Go.Proofs.YtmamabhhgfcjcaaGreatDoor
