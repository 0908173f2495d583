/-
  The contract of (check.heads).spawn.
-/
import Derived.Test.YtmamabhhgfcjcaaGreatDoorOpu
set_option maxRecDepth 100000
set_option maxHeartbeats 16000000
namespace Go.Proofs.YtmamabhhgfcjcaaGreatDoor
open Go.RowKit Go.Shelf
structure SPL(w:World)(p:Pr)(a:PrA)(s:Sc)(b:ScA)(cb:Nat)(c r:List (ByteArray × En))(mpc mpr:Option Nat)(W:World):Prop where
 bl:Below w.heap.size w W
 at0:PrAt W w.heap.size 0 p a
 c0:W.cell? ⟨w.heap.size+1,0,none⟩=some (.slice b.va s.vs.length b.vc)
 c1:W.cell? ⟨w.heap.size+1,1,none⟩=some (.slice b.sa s.ss.length b.sc)
 c2:W.cell? ⟨w.heap.size+1,2,none⟩=some (.map mpr)
 f1:∀o,W.frozen? ⟨w.heap.size+1,o,none⟩=false
 lo:w.heap.size+1<cb
 lt:cb<W.heap.size
 d0:W.cell? ⟨cb,0,none⟩=some (.slice b.va s.vs.length b.vc)
 d1:W.cell? ⟨cb,1,none⟩=some (.slice b.sa s.ss.length b.sc)
 d2:W.cell? ⟨cb,2,none⟩=some (.map mpc)
 f:∀o,W.frozen? ⟨cb,o,none⟩=false
 gc:GSc w W c mpc
 gr:GSc w W r mpr
theorem SPL.keep{w:World}{p:Pr}{a:PrA}{s:Sc}{b:ScA}{cb:Nat}{c r:List (ByteArray × En)}{mpc mpr:Option Nat}{W W':World}(h:SPL w p a s b cb c r mpc mpr W)(hb:Below W.heap.size W W'):SPL w p a s b cb c r mpc mpr W':=by
 have hs:=hb.size;have hl:=h.lt;have hlo:=h.lo;have q:∀k o,k<cb+1→W'.cell? ⟨k,o,none⟩=W.cell? ⟨k,o,none⟩:=fun k o q=>hb.cell (p:=⟨k,o,none⟩) (by show k<_;omega)
 have g:∀k o,k<cb+1→W'.frozen? ⟨k,o,none⟩=W.frozen? ⟨k,o,none⟩:=fun k o q=>hb.frozen (p:=⟨k,o,none⟩) (by show k<_;omega)
 exact ⟨h.bl.trans (hb.mono h.bl.size),h.at0.keep hb (by omega),(q _ _ (by omega)).trans h.c0,(q _ _ (by omega)).trans h.c1,(q _ _ (by omega)).trans h.c2,fun o=>(g _ _ (by omega)).trans (h.f1 o),h.lo,by omega,(q _ _ (by omega)).trans h.d0,(q _ _ (by omega)).trans h.d1,(q _ _ (by omega)).trans h.d2,fun o=>(g _ _ (by omega)).trans (h.f o),h.gc.keep hb,h.gr.keep hb⟩
theorem SPL.new{w:World}{p:Pr}{a:PrA}{s:Sc}{b:ScA}{W:World}(h:PSB w p a s b W)(hs:ScAt w s b):SPL w p a s b W.heap.size [] s.es none b.mp (W.alloc (.cells #[.slice b.va s.vs.length b.vc,.slice b.sa s.ss.length b.sc,.map none] 70)):=by
 have hb:Below W.heap.size W (W.alloc (.cells #[.slice b.va s.vs.length b.vc,.slice b.sa s.ss.length b.sc,.map none] 70)):=(bR _ _).alloc (nR _) _;have k:=h.keep hb;exact ⟨k.bl,k.at0,k.c0,k.c1,k.c2,k.f,h.lt,by simp,by go_cell,by go_cell,by go_cell,fun o=>by go_simp,⟨[],rfl,(fun t ht=>by cases ht),.inl ⟨rfl,rfl⟩⟩,hs.gs k.bl⟩
theorem SPL.st{w:World}{p:Pr}{a:PrA}{s:Sc}{b:ScA}{cb:Nat}{c r:List (ByteArray × En)}{mpc mpr:Option Nat}{W:World}(h:SPL w p a s b cb c r mpc mpr W){c':List (ByteArray × En)}{mq:Option Nat}(hg:GSc w W c' mq):∃W9,((W.setCell ⟨cb,0,none⟩ (.slice b.va s.vs.length b.vc)).setCell ⟨cb,1,none⟩ (.slice b.sa s.ss.length b.sc)).setCell ⟨cb,2,none⟩ (.map mq)=W9∧SPL w p a s b cb c' r mq mpr W9∧(∀k,k≠cb→W9.heap[k]? = W.heap[k]?)∧W9.heap.size=W.heap.size:=by
 obtain ⟨r0,r1,r2⟩:=st3_at (.slice b.va s.vs.length b.vc) (.slice b.sa s.ss.length b.sc) (.map mq) h.d0 h.d1 h.d2;have hlo:=h.lo;have hk:∀k,k≠cb→(((W.setCell ⟨cb,0,none⟩ (.slice b.va s.vs.length b.vc)).setCell ⟨cb,1,none⟩ (.slice b.sa s.ss.length b.sc)).setCell ⟨cb,2,none⟩ (.map mq)).heap[k]? = W.heap[k]?:=fun k hk=>by rw [Go.Deep.blk_setCell_other _ _ _ _ hk,Go.Deep.blk_setCell_other _ _ _ _ hk,Go.Deep.blk_setCell_other _ _ _ _ hk]
 have q:∀k o,k≠cb→(((W.setCell ⟨cb,0,none⟩ (.slice b.va s.vs.length b.vc)).setCell ⟨cb,1,none⟩ (.slice b.sa s.ss.length b.sc)).setCell ⟨cb,2,none⟩ (.map mq)).cell? ⟨k,o,none⟩=W.cell? ⟨k,o,none⟩:=fun k o hne=>World.cell?_of_block (a:=⟨k,o,none⟩) (hk k hne)
 have hw:w.heap.size≤cb:=by omega
 exact ⟨_,rfl,⟨((h.bl.setCell (p:=⟨cb,0,none⟩) hw _).setCell (p:=⟨cb,1,none⟩) hw _).setCell (p:=⟨cb,2,none⟩) hw _,fun j hj=>(q _ _ (by omega)).trans (h.at0 j hj),(q _ _ (by omega)).trans h.c0,(q _ _ (by omega)).trans h.c1,(q _ _ (by omega)).trans h.c2,fun o=>by rw [World.frozen?_setCell,World.frozen?_setCell,World.frozen?_setCell];exact h.f1 o,h.lo,by rw [World.size_setCell,World.size_setCell,World.size_setCell];exact h.lt,r0,r1,r2,fun o=>by rw [World.frozen?_setCell,World.frozen?_setCell,World.frozen?_setCell];exact h.f o,hg.blk h.d0 hk,h.gr.blk h.d0 hk⟩,hk,by rw [World.size_setCell,World.size_setCell,World.size_setCell]⟩
theorem SPL.st2{w:World}{p:Pr}{a:PrA}{s:Sc}{b:ScA}{cb:Nat}{c r:List (ByteArray × En)}{mpc mpr:Option Nat}{W:World}(h:SPL w p a s b cb c r mpc mpr W){r':List (ByteArray × En)}{mq:Option Nat}(hg:GSc w W r' mq):∃W9,((W.setCell ⟨w.heap.size+1,0,none⟩ (.slice b.va s.vs.length b.vc)).setCell ⟨w.heap.size+1,1,none⟩ (.slice b.sa s.ss.length b.sc)).setCell ⟨w.heap.size+1,2,none⟩ (.map mq)=W9∧SPL w p a s b cb c r' mpc mq W9∧(∀k,k≠w.heap.size+1→W9.heap[k]? = W.heap[k]?)∧W9.heap.size=W.heap.size:=by
 obtain ⟨r0,r1,r2⟩:=st3_at (.slice b.va s.vs.length b.vc) (.slice b.sa s.ss.length b.sc) (.map mq) h.c0 h.c1 h.c2;have hlo:=h.lo;have hk:∀k,k≠w.heap.size+1→(((W.setCell ⟨w.heap.size+1,0,none⟩ (.slice b.va s.vs.length b.vc)).setCell ⟨w.heap.size+1,1,none⟩ (.slice b.sa s.ss.length b.sc)).setCell ⟨w.heap.size+1,2,none⟩ (.map mq)).heap[k]? = W.heap[k]?:=fun k hk=>by rw [Go.Deep.blk_setCell_other _ _ _ _ hk,Go.Deep.blk_setCell_other _ _ _ _ hk,Go.Deep.blk_setCell_other _ _ _ _ hk]
 have q:∀k o,k≠w.heap.size+1→(((W.setCell ⟨w.heap.size+1,0,none⟩ (.slice b.va s.vs.length b.vc)).setCell ⟨w.heap.size+1,1,none⟩ (.slice b.sa s.ss.length b.sc)).setCell ⟨w.heap.size+1,2,none⟩ (.map mq)).cell? ⟨k,o,none⟩=W.cell? ⟨k,o,none⟩:=fun k o hne=>World.cell?_of_block (a:=⟨k,o,none⟩) (hk k hne)
 have hw:w.heap.size≤w.heap.size+1:=by omega
 exact ⟨_,rfl,⟨((h.bl.setCell (p:=⟨w.heap.size+1,0,none⟩) hw _).setCell (p:=⟨w.heap.size+1,1,none⟩) hw _).setCell (p:=⟨w.heap.size+1,2,none⟩) hw _,fun j hj=>(q _ _ (by omega)).trans (h.at0 j hj),r0,r1,r2,fun o=>by rw [World.frozen?_setCell,World.frozen?_setCell,World.frozen?_setCell];exact h.f1 o,h.lo,by rw [World.size_setCell,World.size_setCell,World.size_setCell];exact h.lt,(q _ _ (by omega)).trans h.d0,(q _ _ (by omega)).trans h.d1,(q _ _ (by omega)).trans h.d2,fun o=>by rw [World.frozen?_setCell,World.frozen?_setCell,World.frozen?_setCell];exact h.f o,h.gc.blk h.c0 hk,hg.blk h.c0 hk⟩,hk,by rw [World.size_setCell,World.size_setCell,World.size_setCell]⟩
theorem GSc.base{w v W:World}{es:List (ByteArray × En)}{mp:Option Nat}(h:GSc w W es mp)(hb:Below w.heap.size w v):GSc v W es mp:=by
 obtain ⟨F,e,h1,h2⟩:=h;exact ⟨F,e,fun t ht=>(h1 t ht).keep hb,h2⟩
structure SPX(w:World)(p:Pr)(a:PrA)(s:Sc)(b:ScA)(cb:Nat)(c r:List (ByteArray × En))(mpc mpr:Option Nat)(xb:Nat)(y:En)(ag:OAd)(cg:Nat)(W:World):Prop where
 sp:SPL w p a s b cb c r mpc mpr W
 lt:xb<W.heap.size
 e0:W.cell? ⟨xb,0,none⟩=some (.slice ag y.g.length cg)
 e1:W.cell? ⟨xb,1,none⟩=some (.int .i64 (y.k:Int))
theorem SPX.keep{w:World}{p:Pr}{a:PrA}{s:Sc}{b:ScA}{cb:Nat}{c r:List (ByteArray × En)}{mpc mpr:Option Nat}{xb:Nat}{y:En}{ag:OAd}{cg:Nat}{W W':World}(h:SPX w p a s b cb c r mpc mpr xb y ag cg W)(hb:Below W.heap.size W W'):SPX w p a s b cb c r mpc mpr xb y ag cg W' :=
 ⟨h.sp.keep hb,nL h.lt hb.size,(hb.cell (p:=⟨xb,0,none⟩) h.lt).trans h.e0,(hb.cell (p:=⟨xb,1,none⟩) h.lt).trans h.e1⟩
theorem SPX.of{w:World}{p:Pr}{a:PrA}{s:Sc}{b:ScA}{cb:Nat}{c r:List (ByteArray × En)}{mpc mpr:Option Nat}{W:World}(h:SPL w p a s b cb c r mpc mpr W)(y:En)(ag:OAd)(cg:Nat):SPX w p a s b cb c r mpc mpr W.heap.size y ag cg (W.alloc (.cells #[.slice ag y.g.length cg,.int .i64 (y.k:Int)] 90)) :=
 ⟨h.keep ((bR _ _).alloc (nR _) _),by simp,by go_cell,by go_cell⟩
theorem SPL.k{w:World}{p:Pr}{a:PrA}{s:Sc}{b:ScA}{cb:Nat}{c r:List (ByteArray × En)}{mpc mpr:Option Nat}{W:World}(h:SPL w p a s b cb c r mpc mpr W){j:Nat}{v:Value}(hj:j<19)(hv:(prCs p a)[j]? = some v):W.cell? ⟨w.heap.size,j,none⟩=some v:=h.at0.get hj hv
theorem spawnTaken(hm:Option Nat)(p:Pr)(a:PrA)(s:Sc)(b:ScA)(w:World)(h:ScAt w s b)(hch:p.chan.size≤maxLen)(hg:(getE s.es p.chan).isSome=true):
  Calls Tryz.prog 41 #[.map hm,prVal p a,scVal s b] w fun e w'=>e = .returned (.int .i64 4)∧Below w.heap.size w w':=by
 have H2:=hideK (PSB.new w p a s b);have c:=hasEnd_any s b p.chan ((w.alloc (.cells (pK p a) 40)).alloc (.cells #[.slice b.va s.vs.length b.vc,.slice b.sa s.ss.length b.sc,.map b.mp] 70)) (h.keep H2.out.bl) hch;rw [hg]at c;simp only [scVal,prVal]at H2 c ⊢;clear h hch hg;go_enter Tryz.func41,Tryz.ntmps41
 go_wp2_with fail
 refine c.mono ?_;rintro e w5 ⟨rfl,hb5⟩;have H5:=hideK (H2.out.keep hb5);clear c hb5 H2;go_wp2_with fail
 go_ret
 exact ⟨rfl,H5.out.bl⟩
def SPR(fs:List (Sc→Int))(p:Pr)(s:Sc)(y z:En):Int:=match tkN p.names [] s.es with
 | none=>4
 | some q=>if (fs.getD 0 fun _=>0) ⟨s.vs,s.ss,putE q.1 p.chan y⟩≠0 then (fs.getD 0 fun _=>0) ⟨s.vs,s.ss,putE q.1 p.chan y⟩ else (fs.getD 1 fun _=>0) ⟨s.vs,s.ss,putE q.2 p.chan z⟩
theorem spawnNew(hm:Option Nat)(p:Pr)(a:PrA)(w0:World)(L:Nat)(fs:List (Sc→Int))(hkl:p.kids.length=2)(hp:PrB w0 w0.heap.size p a)(hns:p.names.length≤1000)(hks:KSaid hm w0 p a L fs)(s:Sc)(b:ScA)(w:World)(hw:Below w0.heap.size w0 w)(h:ScAt w s b)(hl:s.vs.length≤L)(hg:(getE s.es p.chan).isSome=false)(y z:En)
  (hE:∀W,Below w0.heap.size w0 W→Calls Tryz.prog 38 #[tyVal p.ty a.tl a.tlc a.tk a.tkc] W fun e w'=>(∃ag cg,e = .returned (.tuple #[enVal y ag cg,.int .i64 0])∧EnAt w' y ag)∧Below W.heap.size W w')
  (hO:∀W,Below w0.heap.size w0 W→Calls Tryz.prog 68 #[tyVal p.ty a.tl a.tlc a.tk a.tkc] W fun e w'=>(∃ag cg,e = .returned (.tuple #[enVal z ag cg,.int .i64 0])∧EnAt w' z ag)∧Below W.heap.size W w') :
  Calls Tryz.prog 41 #[.map hm,prVal p a,scVal s b] w fun e w'=>e = .returned (.int .i64 (SPR fs p s y z))∧Below w.heap.size w w':=by
 have H2:=hideK (PSB.new w p a s b);have hch:p.chan.size≤maxLen:=hp.chan;have c:=hasEnd_any s b p.chan ((w.alloc (.cells (pK p a) 40)).alloc (.cells #[.slice b.va s.vs.length b.vc,.slice b.sa s.ss.length b.sc,.map b.mp] 70)) (h.keep H2.out.bl) hch;rw [hg]at c;have hbw:∀W,Below w.heap.size w W→Below w0.heap.size w0 W:=fun W hW=>hw.trans (hW.mono hw.size)
 have HK:=hideK hks;have HL:=hideK (And.intro hl (And.intro hkl hns));have HS:=hideK h;have HBW:=hideK hbw;have HM:=hideK hch;have HNM:=hideK hp.nms;have HE:=hideK (fun (W:World) (hW:Below w.heap.size w W)=>hE W (hbw W hW))
 have HO:=hideK (fun (W:World) (hW:Below w.heap.size w W)=>hO W (hbw W hW))
 obtain ⟨res,hres⟩:∃q,q=SPR fs p s y z:=⟨_,rfl⟩;rw [← hres];have HRS:=hideK hres;have hnz:(p.names.length:Int)≤1000:=by omega
 simp only [scVal,prVal,enVal,tyVal]at H2 c HE HO ⊢;clear h hch hg hl hkl hns hks hbw hp hres hE hO hw;go_enter Tryz.func41,Tryz.ntmps41
 go_wp2_with fail
 refine c.mono ?_;rintro e w5 ⟨rfl,hb5⟩;have H5:=hideK (H2.out.keep hb5);clear c hb5 H2;go_upto_region 3 with fail
 have c0:=H5.out.c0;have c1:=H5.out.c1;go_upto_region 4 with fail
 have H6:=hideK (SPL.new H5.out HS.out);generalize hcb:w5.heap.size=cb at *;generalize w5.alloc (.cells #[.slice b.va s.vs.length b.vc,.slice b.sa s.ss.length b.sc,.map none] 70)=V6 at *;clear hcb H5 c0 c1;have k11:=H6.out.k (j:=11) (v:=.slice a.na p.names.length a.nc) (by omega) rfl
 go_wp2_with fail
 go_loopw [29] (fun i wr=>∃(k:Nat) (c r:List (ByteArray × En)) (mpc mpr:Option Nat),k≤p.names.length∧i = .int .i64 (k:Int)∧tkN p.names [] s.es=tkN (p.names.drop k) c r∧SPL w p a s b cb c r mpc mpr wr) (fun i _=>p.names.length - (intOf i).toNat)
 case atStart=>exact ⟨0,[],s.es,none,b.mp,Nat.zero_le _,rfl,rfl,H6.out⟩
 case round =>
  obtain ⟨k,c,r,mpc,mpr,hk,rfl,hz,hW⟩:=hrel;clear k11 H6;by_cases hltk:k<p.names.length
  ·have hltz:(k:Int)<(p.names.length:Int):=by omega
   rw [List.drop_eq_getElem_cons hltk,tkN]at hz;obtain ⟨nb,no,hna,hnb,hcl⟩:=HNM.out.la.resolve_left (fun q=>by rw [List.map_eq_nil_iff]at q;rw [q]at hltk;simp at hltk)
   have d0:=hcl k (by simpa using hltk)
   rw [List.getElem_map,← (HBW.out wr hW.bl).cell (p:=⟨nb,no+k,none⟩) hnb]at d0;have hsz:p.names[k].size≤maxLen:=HNM.out.siz _ (List.getElem_mem hltk);generalize p.names[k]=n at *;rw [hna];have c0:=hW.c0;have c1:=hW.c1;have c2:=hW.c2;have HKL:=hideK hltk;clear hcl hnb hna;cases hq:getE r n with
   | none =>
    rw [hq]at hz;have ct:=takenNo_g ⟨s.vs,s.ss,r⟩ ⟨b.va,b.vc,b.sa,b.sc,mpr⟩ n w wr hW.gr hsz hq;have hres:res=4:=by rw [HRS.out];unfold SPR;rw [hz]
    have HZ:=hideK hres;have HW:=hideK hW;simp only [scVal]at ct;clear hz hW hq HK HE HO hres HRS hsz;go_wp2_with fail
    refine ct.mono ?_;rintro e w8 ⟨rfl,hb8⟩;have HB:=hideK (((HW.out.keep hb8).bl.alloc (by have:=(HW.out.keep hb8).bl.size;omega) (.cells #[.slice none 0 0,.int .i64 0] 90)).alloc (by have:=(HW.out.keep hb8).bl.size;simp;omega) (.cells #[.slice b.va s.vs.length b.vc,.slice b.sa s.ss.length b.sc,.map mpr] 70))
    clear ct hb8 HW;go_wp2_with fail
    go_ret
    rw [HZ.out];exact ⟨rfl,HB.out⟩
   | some x =>
    rw [hq]at hz;have ct:=takenYes_g ⟨s.vs,s.ss,r⟩ ⟨b.va,b.vc,b.sa,b.sc,mpr⟩ n x w wr hW.gr hsz hq;have HZ:=hideK hz;have HW:=hideK hW;simp only [scVal,enVal,Sc.wo]at ct;have HSZ:=hideK hsz;clear hz hW hq HK HE HO HRS hsz;go_wp2_with fail
    refine ct.mono ?_;rintro e w8 ⟨⟨ax,cx,mp1,rfl,hx,hn1⟩,hb8⟩;have HX:=hideK hx;have H8:=hideK (HW.out.keep hb8);have HN0:=hideK hn1.gs;clear ct hb8 HW hn1 hx c0 c1 c2 d0;go_upto_region 10 with fail
    have hA0:=(((Below.refl w8.heap.size w8).alloc (nR _) (.cells #[.slice ax x.g.length cx,.int .i64 (x.k:Int)] 90)).alloc (by simp) (.cells #[.slice b.va s.vs.length b.vc,.slice b.sa s.ss.length b.sc,.map mp1] 70)).drew
    have HLT:=hideK H8.out.lt;have H9:=hideK (H8.out.keep hA0);have HN1:=hideK (HN0.out.keep hA0);have HG9:=hideK ((GVS.new w8 (.slice ax x.g.length cx) (.int .i64 (x.k:Int)) (.slice b.va s.vs.length b.vc) (.slice b.sa s.ss.length b.sc) (.map mp1)).keep ((bR _ _).drew));have hS0:(fun W:World=>GVS w8.heap.size (.slice ax x.g.length cx) (.int .i64 (x.k:Int)) (.slice b.va s.vs.length b.vc) (.slice b.sa s.ss.length b.sc) (.map mp1) W) (World.drew ((w8.alloc (.cells #[.slice ax x.g.length cx,.int .i64 (x.k:Int)] 90)).alloc (.cells #[.slice b.va s.vs.length b.vc,.slice b.sa s.ss.length b.sc,.map mp1] 70))):=HG9.out
    clear H8 HN0 hA0;refine wp_region_held_drew (S:=(fun W:World=>GVS w8.heap.size (.slice ax x.g.length cx) (.int .i64 (x.k:Int)) (.slice b.va s.vs.length b.vc) (.slice b.sa s.ss.length b.sc) (.map mp1) W)) (by kernel_rfl) hS0 (fun hS=>?_)
    clear hS0;generalize World.drew ((w8.alloc (.cells #[.slice ax x.g.length cx,.int .i64 (x.k:Int)] 90)).alloc (.cells #[.slice b.va s.vs.length b.vc,.slice b.sa s.ss.length b.sc,.map mp1] 70))=V9 at *;refine tkZ 1 (.string n) hS ?_;refine tkH 2 (.agg #[.slice ax x.g.length cx,.int .i64 (x.k:Int)]) hS ?_ (hy:=Or.inl ⟨by rfl,fun W hW=>by obtain ⟨_,g0,g1,q0,q1,q2⟩:=id hW;go_simp⟩)
    simp only [Act.put,sA,sB,sC];refine tkH 4 (.agg #[.slice b.va s.vs.length b.vc,.slice b.sa s.ss.length b.sc,.map mp1]) hS ?_ (hy:=Or.inl ⟨by rfl,fun W hW=>by obtain ⟨_,g0,g1,q0,q1,q2⟩:=id hW;go_simp⟩)
    simp only [Act.put,sA,sB,sC];refine take_oneHL 0 (aC (fun K hK=>?_) aN) (by kernel_rfl)
    have d0:=H9.out.d0;have d1:=H9.out.d1;have d2:=H9.out.d2;go_simp
    refine hK.out _ _ hS ?_;clear hS hK K d0 d1 d2;intro hS;try simp only [Act.put,sA,sB,sC]
    have cU:=withEnd_g (⟨s.vs,s.ss,c⟩:Sc) ⟨b.va,b.vc,b.sa,b.sc,mpc⟩ n x ax cx w V9 H9.out.gc HSZ.out HX.out;simp only [scVal,enVal,Sc.we]at cU;have CU:=hideK cU;clear cU;refine take_oneHL 3 (aC (fun K hK=>?_) aN) (by kernel_rfl)
    go_simp
    refine CU.out.mono ?_;rintro e V10 ⟨⟨mp2,rfl,hn2⟩,hb10⟩;have H10:=hideK (H9.out.keep hb10);have HG10:=hideK (HG9.out.keep hb10);have HN2:=hideK hn2.gs;have HN3:=hideK (HN1.out.keep hb10);have hSn:(fun W:World=>GVS w8.heap.size (.slice ax x.g.length cx) (.int .i64 (x.k:Int)) (.slice b.va s.vs.length b.vc) (.slice b.sa s.ss.length b.sc) (.map mp1) W) V10:=HG10.out
    refine hK.out _ _ hSn ?_;clear hb10 hn2 CU H9 HG9 HN1;clear hS hK K hSn;intro hS;try simp only [Act.put,sA,sB,sC]
    obtain ⟨W11,e11,h11,k11,s11⟩:=H10.out.st HN2.out;have d0:=H10.out.d0;have d1:=H10.out.d1;have d2:=H10.out.d2;have f0:=H10.out.f 0;have f1:=H10.out.f 1;have f2:=H10.out.f 2;have HE11:=hideK e11;have H11:=hideK h11;have HG11:=hideK (HG10.out.blk (Nat.le_of_eq s11.symm) (by have:=HLT.out;omega) k11)
    have HN4:=hideK (HN3.out.blk d0 k11);clear e11 h11 k11 s11 HN3 HN2 H10 HG10;refine take_oneHL 5 (aC (fun K hK=>?_) aN) (by kernel_rfl)
    go_simp
    rw [HE11.out];have hSn:(fun W:World=>GVS w8.heap.size (.slice ax x.g.length cx) (.int .i64 (x.k:Int)) (.slice b.va s.vs.length b.vc) (.slice b.sa s.ss.length b.sc) (.map mp1) W) W11:=HG11.out
    refine hK.out _ _ hSn ?_;clear d0 d1 d2 f0 f1 f2 HE11;clear hS hK K hSn;intro hS;try simp only [Act.put,sA,sB,sC]
    obtain ⟨W12,e12,h12,k12,s12⟩:=H11.out.st2 HN4.out;have d0:=H11.out.c0;have d1:=H11.out.c1;have d2:=H11.out.c2;have f0:=H11.out.f1 0;have f1:=H11.out.f1 1;have f2:=H11.out.f1 2;have HE12:=hideK e12;have H12:=hideK h12;have HG12:=hideK (HG11.out.blk (Nat.le_of_eq s12.symm) (by have:=HLT.out;have:=H11.out.lo;omega) k12)
    clear e12 h12 k12 s12 HN4 H11 HG11;refine take_oneHL 6 (aC (fun K hK=>?_) aN) (by kernel_rfl)
    go_simp
    rw [HE12.out];have hSn:(fun W:World=>GVS w8.heap.size (.slice ax x.g.length cx) (.int .i64 (x.k:Int)) (.slice b.va s.vs.length b.vc) (.slice b.sa s.ss.length b.sc) (.map mp1) W) W12:=HG12.out
    refine hK.out _ _ hSn ?_;clear d0 d1 d2 f0 f1 f2 HE12;clear hS hK K hSn;intro hS;try simp only [Act.put,sA,sB,sC]
    refine wpAnyH_done (by kernel_rfl) ?_ _
    clear hS HG12 HX HSZ HLT;go_wp2_with fail
    go_roundw
    case rel=>exact ⟨k+1,putE c n x,delE r n,mp2,mp1,HKL.out,by go_num,HZ.out,H12.out⟩
    case measure=>simp [intOf];have:=HKL.out;omega
  ·have hltz:¬(k:Int)<(p.names.length:Int):=by omega
   rw [List.drop_of_length_le (by omega),tkN]at hz
   have hres:=HRS.out;unfold SPR at hres;rw [hz]at hres;have HZ:=hideK hres;have HW:=hideK hW;have t12:=hW.k (j:=12) (v:=.int .i64 p.ty.kind) (by omega) rfl
   have t13:=hW.k (j:=13) (v:=.int .i64 p.ty.so) (by omega) rfl
   have t14:=hW.k (j:=14) (v:=.string p.ty.name) (by omega) rfl
   have t15:=hW.k (j:=15) (v:=.slice a.tl p.ty.labels.length a.tlc) (by omega) rfl
   have t16:=hW.k (j:=16) (v:=.slice a.tk p.ty.kids.length a.tkc) (by omega) rfl
   have ce:=HE.out wr hW.bl;clear hz hW hres HRS HE;go_wp2_with fail
   refine ce.mono ?_;rintro e w8 ⟨⟨ag,cg,rfl,hen⟩,hb8⟩;have H8:=hideK (HW.out.keep hb8);have HEN:=hideK hen;have H9:=hideK (SPX.of H8.out y ag cg);clear ce hb8 HW hen t12 t13 t14 t15 t16;go_upto_region 15 with fail
   have hk0:0<p.kids.length:=by have:=HL.out;omega
   obtain ⟨kb,ko,a0,ha,hbB,hat,hsd⟩:=HK.out 0 hk0;have HBL8:=hideK H8.out.bl;have HU:=hideK (fun (V:World) (hV:GSc w V c mpc)=>withEnd_g (⟨s.vs,s.ss,c⟩:Sc) ⟨b.va,b.vc,b.sa,b.sc,mpc⟩ p.chan y ag cg w8 V (hV.base HBL8.out) HM.out HEN.out)
   have HP:=hideK (fun (v V:World) (mp:Option Nat) (hV:Below w.heap.size w V) (hV8:Below w8.heap.size w8 V) (hn:NSc w8 v (putE c p.chan y) mp V)=>hsd ⟨s.vs,s.ss,putE c p.chan y⟩ ⟨b.va,b.vc,b.sa,b.sc,mp⟩ V (HBW.out V hV) ((HS.out.keep HBL8.out).new hV8 hn) HL.out.1)
   generalize hf0:(fs.getD 0 fun _=>0) ⟨s.vs,s.ss,putE c p.chan y⟩=rk at *
   have HAT:=hideK (fun (W:World) (hW:SPL w p a s b cb c r mpc mpr W)=>hat.keep (HBW.out W hW.bl) hbB)
   have HK18:=hideK (fun (W:World) (hW:SPL w p a s b cb c r mpc mpr W)=>(show W.cell? ⟨w.heap.size,18,none⟩=some (.slice (some ⟨kb,ko,none⟩) p.kids.length a.kc) from ha ▸ hW.k (j:=18) (v:=.slice a.ka p.kids.length a.kc) (by omega) rfl))
   generalize p.kids[0]'hk0=kx at *;have hkz:(0:Int)<(p.kids.length:Int):=by omega
   have hne:p.kids≠[]:=List.length_pos_iff.1 hk0;simp only [scVal,enVal,Sc.we,prVal]at HU HP;have HB9:=hideK ((Below.refl w8.heap.size w8).alloc (nR _) (.cells #[.slice ag y.g.length cg,.int .i64 (y.k:Int)] 90)).drew;have H10:=hideK (H9.out.keep ((bR _ _).drew));have hS0:(fun W:World=>SPX w p a s b cb c r mpc mpr w8.heap.size y ag cg W) (World.drew (w8.alloc (.cells #[.slice ag y.g.length cg,.int .i64 (y.k:Int)] 90))):=H10.out
   clear hat hsd ha hbB H9 H8 hf0 hk0;refine wp_region_held_drew (S:=(fun W:World=>SPX w p a s b cb c r mpc mpr w8.heap.size y ag cg W)) (by kernel_rfl) hS0 (fun hS=>?_)
   clear hS0;generalize World.drew (w8.alloc (.cells #[.slice ag y.g.length cg,.int .i64 (y.k:Int)] 90))=V10 at *;refine tkZ 0 (.map hm) hS ?_;refine tkZ 1 (.pointer (some ⟨w.heap.size,18,none⟩)) hS ?_;refine tkH 2 (.slice (some ⟨kb,ko,none⟩) p.kids.length a.kc) hS ?_ (hy:=Or.inl ⟨by rfl,fun W hW=>by have k18:=HK18.out W hW.sp;go_simp⟩)
   simp only [Act.put,sA,sB,sC];refine tkZ 3 (.pointer (some ⟨kb,ko+0*19,none⟩)) hS ?_;refine tkH 4 (.agg #[.int .i64 kx.kind,.string kx.chan,.string kx.name,.string kx.label,.int .i64 kx.ex.kind,.string kx.ex.name,.int .i64 kx.ex.so,.int .i64 kx.ex.n,.string kx.ex.s,.slice a0.ea kx.ex.kids.length a0.ec,.slice a0.xa kx.exs.length a0.xc,.slice a0.na kx.names.length a0.nc,.int .i64 kx.ty.kind,.int .i64 kx.ty.so,.string kx.ty.name,.slice a0.tl kx.ty.labels.length a0.tlc,.slice a0.tk kx.ty.kids.length a0.tkc,.slice a0.la kx.labels.length a0.lc,.slice a0.ka kx.kids.length a0.kc]) hS ?_ (hy:=Or.inl ⟨by rfl,fun W hW=>by exact exec_load (by rfl) (by rfl) (load_pr (HAT.out W hW.sp))⟩)
   simp only [Act.put,sA,sB,sC];refine tkH 5 (.agg #[.slice b.va s.vs.length b.vc,.slice b.sa s.ss.length b.sc,.map mpc]) hS ?_ (hy:=Or.inl ⟨by rfl,fun W hW=>by obtain ⟨⟨_,_,c0,c1,c2,_,_,_,d0,d1,d2,_,_,_⟩,_,e0,e1⟩:=id hW;go_simp⟩)
   simp only [Act.put,sA,sB,sC];refine tkZ 6 (.pointer (some ⟨w.heap.size,1,none⟩)) hS ?_;refine tkH 7 (.string p.chan) hS ?_ (hy:=Or.inl ⟨by rfl,fun W hW=>by have k1:=hW.sp.k (j:=1) (v:=.string p.chan) (by omega) rfl;go_simp⟩)
   simp only [Act.put,sA,sB,sC];refine tkH 8 (.agg #[.slice ag y.g.length cg,.int .i64 (y.k:Int)]) hS ?_ (hy:=Or.inl ⟨by rfl,fun W hW=>by obtain ⟨⟨_,_,c0,c1,c2,_,_,_,d0,d1,d2,_,_,_⟩,_,e0,e1⟩:=id hW;go_simp⟩)
   simp only [Act.put,sA,sB,sC];refine take_oneHL 9 (aC (fun K hK=>?_) aN) (by kernel_rfl)
   go_simp
   refine (HU.out V10 H10.out.sp.gc).mono ?_;rintro e V11 ⟨⟨mp2,rfl,hn3⟩,hb10⟩;have H11:=hideK (H10.out.keep hb10);have hSn:(fun W:World=>SPX w p a s b cb c r mpc mpr w8.heap.size y ag cg W) V11:=H11.out
   have HN3:=hideK hn3;have HB10:=hideK (HB9.out.trans (hb10.mono HB9.out.size));refine hK.out _ _ hSn ?_;clear hb10 hn3;clear hS hK K hSn;intro hS;try simp only [Act.put,sA,sB,sC]
   refine take_oneHL 10 (aC (fun K hK=>?_) aN) (by kernel_rfl)
   go_simp
   refine (HP.out V10 V11 mp2 H11.out.sp.bl HB10.out HN3.out).mono ?_;rintro e V13 ⟨rfl,hb11⟩;have H13:=hideK (H11.out.keep hb11);have hSn:(fun W:World=>SPX w p a s b cb c r mpc mpr w8.heap.size y ag cg W) V13:=H13.out
   refine hK.out _ _ hSn ?_;clear hb11 ;clear hS hK K hSn;intro hS;try simp only [Act.put,sA,sB,sC]
   refine tkZ 11 (.int .i64 rk) hS ?_;refine wpAnyH_done (by kernel_rfl) ?_ _
   clear HU HP HN3 hS HAT HK18 HB10;have hz:=HZ.out;by_cases hr:rk=0
   ·have hrb2:(rk != 0)=false:=by simpa using hr
    rw [if_neg (by simpa using hr)]at hz
    have HZ2:=hideK hz;have HW:=hideK H13.out.sp;have t12:=H13.out.sp.k (j:=12) (v:=.int .i64 p.ty.kind) (by omega) rfl
    have t13:=H13.out.sp.k (j:=13) (v:=.int .i64 p.ty.so) (by omega) rfl
    have t14:=H13.out.sp.k (j:=14) (v:=.string p.ty.name) (by omega) rfl
    have t15:=H13.out.sp.k (j:=15) (v:=.slice a.tl p.ty.labels.length a.tlc) (by omega) rfl
    have t16:=H13.out.sp.k (j:=16) (v:=.slice a.tk p.ty.kids.length a.tkc) (by omega) rfl
    have ce:=HO.out V13 H13.out.sp.bl;clear hz hr HZ H13 HO HEN HBL8;go_wp2_with fail
    refine ce.mono ?_;rintro e w14 ⟨⟨ah,ch,rfl,hen⟩,hb14⟩;have H14:=hideK (HW.out.keep hb14);have HEN:=hideK hen;have H15:=hideK (SPX.of H14.out z ah ch);clear ce hb14 HW hen t12 t13 t14 t15 t16 hrb2;go_upto_region 21 with fail
    have hk1:1<p.kids.length:=by have:=HL.out;omega
    obtain ⟨kb,ko,a1,ha,hbB,hat,hsd⟩:=HK.out 1 hk1;have HBL14:=hideK H14.out.bl;have HU:=hideK (fun (V:World) (hV:GSc w V r mpr)=>withEnd_g (⟨s.vs,s.ss,r⟩:Sc) ⟨b.va,b.vc,b.sa,b.sc,mpr⟩ p.chan z ah ch w14 V (hV.base HBL14.out) HM.out HEN.out)
    have HP:=hideK (fun (v V:World) (mp:Option Nat) (hV:Below w.heap.size w V) (hV8:Below w14.heap.size w14 V) (hn:NSc w14 v (putE r p.chan z) mp V)=>hsd ⟨s.vs,s.ss,putE r p.chan z⟩ ⟨b.va,b.vc,b.sa,b.sc,mp⟩ V (HBW.out V hV) ((HS.out.keep HBL14.out).new hV8 hn) HL.out.1)
    generalize hf1:(fs.getD 1 fun _=>0) ⟨s.vs,s.ss,putE r p.chan z⟩=rj at *
    have HAT:=hideK (fun (W:World) (hW:SPL w p a s b cb c r mpc mpr W)=>hat.keep (HBW.out W hW.bl) hbB)
    have HK18:=hideK (fun (W:World) (hW:SPL w p a s b cb c r mpc mpr W)=>(show W.cell? ⟨w.heap.size,18,none⟩=some (.slice (some ⟨kb,ko,none⟩) p.kids.length a.kc) from ha ▸ hW.k (j:=18) (v:=.slice a.ka p.kids.length a.kc) (by omega) rfl))
    generalize p.kids[1]'hk1=ky at *;have hkz:(1:Int)<(p.kids.length:Int):=by omega
    simp only [scVal,enVal,Sc.we,prVal]at HU HP;have HB15:=hideK ((Below.refl w14.heap.size w14).alloc (nR _) (.cells #[.slice ah z.g.length ch,.int .i64 (z.k:Int)] 90)).drew;have H16:=hideK (H15.out.keep ((bR _ _).drew));have hS0:(fun W:World=>SPX w p a s b cb c r mpc mpr w14.heap.size z ah ch W) (World.drew (w14.alloc (.cells #[.slice ah z.g.length ch,.int .i64 (z.k:Int)] 90))):=H16.out
    clear hat hsd ha hbB H15 H14 hf1 hk1;refine wp_region_held_drew (S:=(fun W:World=>SPX w p a s b cb c r mpc mpr w14.heap.size z ah ch W)) (by kernel_rfl) hS0 (fun hS=>?_)
    clear hS0;generalize World.drew (w14.alloc (.cells #[.slice ah z.g.length ch,.int .i64 (z.k:Int)] 90))=V16 at *;refine tkZ 0 (.map hm) hS ?_;refine tkZ 1 (.pointer (some ⟨w.heap.size,18,none⟩)) hS ?_;refine tkH 2 (.slice (some ⟨kb,ko,none⟩) p.kids.length a.kc) hS ?_ (hy:=Or.inl ⟨by rfl,fun W hW=>by have k18:=HK18.out W hW.sp;go_simp⟩)
    simp only [Act.put,sA,sB,sC];refine tkZ 3 (.pointer (some ⟨kb,ko+1*19,none⟩)) hS ?_;refine tkH 4 (.agg #[.int .i64 ky.kind,.string ky.chan,.string ky.name,.string ky.label,.int .i64 ky.ex.kind,.string ky.ex.name,.int .i64 ky.ex.so,.int .i64 ky.ex.n,.string ky.ex.s,.slice a1.ea ky.ex.kids.length a1.ec,.slice a1.xa ky.exs.length a1.xc,.slice a1.na ky.names.length a1.nc,.int .i64 ky.ty.kind,.int .i64 ky.ty.so,.string ky.ty.name,.slice a1.tl ky.ty.labels.length a1.tlc,.slice a1.tk ky.ty.kids.length a1.tkc,.slice a1.la ky.labels.length a1.lc,.slice a1.ka ky.kids.length a1.kc]) hS ?_ (hy:=Or.inl ⟨by rfl,fun W hW=>by exact exec_load (by rfl) (by rfl) (load_pr (HAT.out W hW.sp))⟩)
    simp only [Act.put,sA,sB,sC];refine tkH 5 (.agg #[.slice b.va s.vs.length b.vc,.slice b.sa s.ss.length b.sc,.map mpr]) hS ?_ (hy:=Or.inl ⟨by rfl,fun W hW=>by obtain ⟨⟨_,_,c0,c1,c2,_,_,_,d0,d1,d2,_,_,_⟩,_,e0,e1⟩:=id hW;go_simp⟩)
    simp only [Act.put,sA,sB,sC];refine tkZ 6 (.pointer (some ⟨w.heap.size,1,none⟩)) hS ?_;refine tkH 7 (.string p.chan) hS ?_ (hy:=Or.inl ⟨by rfl,fun W hW=>by have k1:=hW.sp.k (j:=1) (v:=.string p.chan) (by omega) rfl;go_simp⟩)
    simp only [Act.put,sA,sB,sC];refine tkH 8 (.agg #[.slice ah z.g.length ch,.int .i64 (z.k:Int)]) hS ?_ (hy:=Or.inl ⟨by rfl,fun W hW=>by obtain ⟨⟨_,_,c0,c1,c2,_,_,_,d0,d1,d2,_,_,_⟩,_,e0,e1⟩:=id hW;go_simp⟩)
    simp only [Act.put,sA,sB,sC];refine take_oneHL 9 (aC (fun K hK=>?_) aN) (by kernel_rfl)
    go_simp
    refine (HU.out V16 H16.out.sp.gr).mono ?_;rintro e V17 ⟨⟨mp2,rfl,hn3⟩,hb16⟩;have H17:=hideK (H16.out.keep hb16);have hSn:(fun W:World=>SPX w p a s b cb c r mpc mpr w14.heap.size z ah ch W) V17:=H17.out
    have HN3:=hideK hn3;have HB10:=hideK (HB15.out.trans (hb16.mono HB15.out.size));refine hK.out _ _ hSn ?_;clear hb16 hn3;clear hS hK K hSn;intro hS;try simp only [Act.put,sA,sB,sC]
    refine take_oneHL 10 (aC (fun K hK=>?_) aN) (by kernel_rfl)
    go_simp
    refine (HP.out V16 V17 mp2 H17.out.sp.bl HB10.out HN3.out).mono ?_;rintro e V19 ⟨rfl,hb17⟩;have H19:=hideK (H17.out.keep hb17);have hSn:(fun W:World=>SPX w p a s b cb c r mpc mpr w14.heap.size z ah ch W) V19:=H19.out
    refine hK.out _ _ hSn ?_;clear hb17 ;clear hS hK K hSn;intro hS;try simp only [Act.put,sA,sB,sC]
    refine tkZ 11 (.int .i64 rj) hS ?_;refine wpAnyH_done (by kernel_rfl) ?_ _
    clear HU HP HN3 hS HAT HK18 HB10;go_wp2_with fail
    go_ret
    rw [HZ2.out];exact ⟨rfl,H19.out.sp.bl⟩
   ·have hrb2:(rk != 0)=true:=by simpa using hr
    rw [if_pos (by simpa using hr)]at hz
    have HZ2:=hideK hz;clear hr hz HZ;go_wp2_with fail
    go_ret
    rw [HZ2.out];exact ⟨rfl,H13.out.sp.bl⟩
end Go.Proofs.YtmamabhhgfcjcaaGreatDoor
