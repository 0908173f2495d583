/-
  Heads in memory; the contract of (check.heads).call.
-/
import Derived.Test.YtmamabhhgfcjcaaGreatDoorOpv
set_option maxRecDepth 100000
set_option maxHeartbeats 16000000
namespace Go.Proofs.YtmamabhhgfcjcaaGreatDoor
open Go.RowKit Go.Shelf
structure HdA where
 va:OAd
 vc:Nat
 sa:OAd
 sc:Nat
 ca:OAd
 cc:Nat
 ea:OAd
 ec:Nat
def hdVal(d:Df)(e:HdA)(ne:Nat):Value:=.agg #[.slice e.va d.vals.length e.vc,.slice e.sa d.sorts.length e.sc,.slice e.ca d.chans.length e.cc,.slice e.ea ne e.ec]
def EnsAt(W:World)(ys:List En)(ea:OAd):Prop:=ys=[]∨∃b o,ea=some ⟨b,o,none⟩∧b<W.heap.size∧∀i (h:i<ys.length),∃ag cg,W.cell? ⟨b,o+i*2,none⟩=some (.slice ag ys[i].g.length cg)∧W.cell? ⟨b,o+i*2+1,none⟩=some (.int .i64 (ys[i].k:Int))∧EnAt W ys[i] ag
theorem EnsAt.keep{W W':World}{ys:List En}{ea:OAd}(h:EnsAt W ys ea)(hb:Below W.heap.size W W'):EnsAt W' ys ea :=
 h.imp id fun ⟨b,o,e,hl,h⟩=>⟨b,o,e,nL hl hb.size,fun i hi=>by
  obtain ⟨ag,cg,h0,h1,h2⟩:=h i hi;exact ⟨ag,cg,(hb.cell (p:=⟨b,o+i*2,none⟩) hl).trans h0,(hb.cell (p:=⟨b,o+i*2+1,none⟩) hl).trans h1,h2.keep hb⟩⟩
structure HdOK(W:World)(d:Df)(ys:List En)(e:HdA):Prop where
 vs:NmsAt W W.heap.size d.vals e.va e.vc
 ss:NAt W W.heap.size (d.sorts.map (Value.int .i64)) e.sa
 sl:d.sorts.length≤e.sc
 sc:e.sc≤9223372036854775807
 cs:NmsAt W W.heap.size d.chans e.ca e.cc
 es:EnsAt W ys e.ea
theorem HdOK.keep{W W':World}{d:Df}{ys:List En}{e:HdA}(h:HdOK W d ys e)(hb:Below W.heap.size W W'):HdOK W' d ys e :=
 ⟨(h.vs.keep hb).mono hb.size,NAt.mono hb.size (NAt.keep hb h.ss),h.sl,h.sc,(h.cs.keep hb).mono hb.size,h.es.keep hb⟩
theorem exG_nil(s:Sc)(zs:List Int):exG s [] zs=0:=by cases zs <;> rfl
theorem nmG_nil(ys:List En)(s:Sc):nmG [] ys s=noE s:=by cases ys <;> rfl
structure CAL(w:World)(p:Pr)(a:PrA)(s:Sc)(b:ScA)(hb:Nat)(d:Df)(e:HdA)(ne:Nat)(r:List (ByteArray × En))(mpr:Option Nat)(W:World):Prop where
 bl:Below w.heap.size w W
 at0:PrAt W w.heap.size 0 p a
 c0:W.cell? ⟨w.heap.size+1,0,none⟩=some (.slice b.va s.vs.length b.vc)
 c1:W.cell? ⟨w.heap.size+1,1,none⟩=some (.slice b.sa s.ss.length b.sc)
 c2:W.cell? ⟨w.heap.size+1,2,none⟩=some (.map mpr)
 f1:∀o,W.frozen? ⟨w.heap.size+1,o,none⟩=false
 lo:w.heap.size+1<hb
 lt:hb<W.heap.size
 h1:W.cell? ⟨hb,1,none⟩=some (.slice e.sa d.sorts.length e.sc)
 h3:W.cell? ⟨hb,3,none⟩=some (.slice e.ea ne e.ec)
 gr:GSc w W r mpr
theorem CAL.keep{w:World}{p:Pr}{a:PrA}{s:Sc}{b:ScA}{hb:Nat}{d:Df}{e:HdA}{ne:Nat}{r:List (ByteArray × En)}{mpr:Option Nat}{W W':World}(h:CAL w p a s b hb d e ne r mpr W)(hB:Below W.heap.size W W'):CAL w p a s b hb d e ne r mpr W':=by
 have hs:=hB.size;have hl:=h.lt;have hlo:=h.lo;have q:∀k o,k<W.heap.size→W'.cell? ⟨k,o,none⟩=W.cell? ⟨k,o,none⟩:=fun k o q=>hB.cell (p:=⟨k,o,none⟩) q
 exact ⟨h.bl.trans (hB.mono h.bl.size),h.at0.keep hB (by omega),(q _ _ (by omega)).trans h.c0,(q _ _ (by omega)).trans h.c1,(q _ _ (by omega)).trans h.c2,fun o=>(hB.frozen (p:=⟨w.heap.size+1,o,none⟩) (by show w.heap.size+1<_;omega)).trans (h.f1 o),h.lo,by omega,(q _ _ (by omega)).trans h.h1,(q _ _ (by omega)).trans h.h3,h.gr.keep hB⟩
theorem CAL.new{w:World}{p:Pr}{a:PrA}{s:Sc}{b:ScA}{W:World}(h:PSB w p a s b W)(hs:ScAt w s b)(d:Df)(e:HdA)(ne:Nat):CAL w p a s b W.heap.size d e ne s.es b.mp (W.alloc (.cells #[.slice e.va d.vals.length e.vc,.slice e.sa d.sorts.length e.sc,.slice e.ca d.chans.length e.cc,.slice e.ea ne e.ec] 73)):=by
 have hb:Below W.heap.size W (W.alloc (.cells #[.slice e.va d.vals.length e.vc,.slice e.sa d.sorts.length e.sc,.slice e.ca d.chans.length e.cc,.slice e.ea ne e.ec] 73)):=(bR _ _).alloc (nR _) _;have k:=h.keep hb;exact ⟨k.bl,k.at0,k.c0,k.c1,k.c2,k.f,h.lt,by simp,by go_cell,by go_cell,hs.gs k.bl⟩
theorem CAL.st2{w:World}{p:Pr}{a:PrA}{s:Sc}{b:ScA}{hb:Nat}{d:Df}{e:HdA}{ne:Nat}{r:List (ByteArray × En)}{mpr:Option Nat}{W:World}(h:CAL w p a s b hb d e ne r mpr W){r':List (ByteArray × En)}{mq:Option Nat}(hg:GSc w W r' mq):∃W9,((W.setCell ⟨w.heap.size+1,0,none⟩ (.slice b.va s.vs.length b.vc)).setCell ⟨w.heap.size+1,1,none⟩ (.slice b.sa s.ss.length b.sc)).setCell ⟨w.heap.size+1,2,none⟩ (.map mq)=W9∧CAL w p a s b hb d e ne r' mq W9∧(∀k,k≠w.heap.size+1→W9.heap[k]? = W.heap[k]?)∧W9.heap.size=W.heap.size:=by
 obtain ⟨r0,r1,r2⟩:=st3_at (.slice b.va s.vs.length b.vc) (.slice b.sa s.ss.length b.sc) (.map mq) h.c0 h.c1 h.c2;have hlo:=h.lo;have hk:∀k,k≠w.heap.size+1→(((W.setCell ⟨w.heap.size+1,0,none⟩ (.slice b.va s.vs.length b.vc)).setCell ⟨w.heap.size+1,1,none⟩ (.slice b.sa s.ss.length b.sc)).setCell ⟨w.heap.size+1,2,none⟩ (.map mq)).heap[k]? = W.heap[k]?:=fun k hk=>by rw [Go.Deep.blk_setCell_other _ _ _ _ hk,Go.Deep.blk_setCell_other _ _ _ _ hk,Go.Deep.blk_setCell_other _ _ _ _ hk]
 have q:∀k o,k≠w.heap.size+1→(((W.setCell ⟨w.heap.size+1,0,none⟩ (.slice b.va s.vs.length b.vc)).setCell ⟨w.heap.size+1,1,none⟩ (.slice b.sa s.ss.length b.sc)).setCell ⟨w.heap.size+1,2,none⟩ (.map mq)).cell? ⟨k,o,none⟩=W.cell? ⟨k,o,none⟩:=fun k o hne=>World.cell?_of_block (a:=⟨k,o,none⟩) (hk k hne)
 have hw:w.heap.size≤w.heap.size+1:=by omega
 exact ⟨_,rfl,⟨((h.bl.setCell (p:=⟨w.heap.size+1,0,none⟩) hw _).setCell (p:=⟨w.heap.size+1,1,none⟩) hw _).setCell (p:=⟨w.heap.size+1,2,none⟩) hw _,fun j hj=>(q _ _ (by omega)).trans (h.at0 j hj),r0,r1,r2,fun o=>by rw [World.frozen?_setCell,World.frozen?_setCell,World.frozen?_setCell];exact h.f1 o,h.lo,by rw [World.size_setCell,World.size_setCell,World.size_setCell];exact h.lt,(q _ _ (by omega)).trans h.h1,(q _ _ (by omega)).trans h.h3,hg.blk h.c0 hk⟩,hk,by rw [World.size_setCell,World.size_setCell,World.size_setCell]⟩
theorem CAL.k{w:World}{p:Pr}{a:PrA}{s:Sc}{b:ScA}{hb:Nat}{d:Df}{e:HdA}{ne:Nat}{r:List (ByteArray × En)}{mpr:Option Nat}{W:World}(h:CAL w p a s b hb d e ne r mpr W){j:Nat}{v:Value}(hj:j<19)(hv:(prCs p a)[j]? = some v):W.cell? ⟨w.heap.size,j,none⟩=some v:=h.at0.get hj hv
theorem CAL.sc{w:World}{p:Pr}{a:PrA}{s:Sc}{b:ScA}{hb:Nat}{d:Df}{e:HdA}{ne:Nat}{r:List (ByteArray × En)}{mpr:Option Nat}{W:World}(h:CAL w p a s b hb d e ne r mpr W)(hs:ScAt w s b):ScAt W ⟨s.vs,s.ss,r⟩ ⟨b.va,b.vc,b.sa,b.sc,mpr⟩:=(hs.scv h.gr).at0 h.bl
theorem callNone(hm:Option Nat)(p:Pr)(a:PrA)(s:Sc)(b:ScA)(w:World)
  (hlk:∀W,Below w.heap.size w W→(Instr.lookup 64 (.map hm) (.string p.name) true).run Tryz.prog W = .ok (.tuple #[.agg #[.slice none 0 0,.slice none 0 0,.slice none 0 0,.slice none 0 0],.bool false]) W) :
  Calls Tryz.prog 43 #[.map hm,prVal p a,scVal s b] w fun e w'=>e = .returned (.int .i64 4)∧Below w.heap.size w w':=by
 have H2:=hideK (PSB.new w p a s b);have hl:=hlk ((w.alloc (.cells (pK p a) 40)).alloc (.cells #[.slice b.va s.vs.length b.vc,.slice b.sa s.ss.length b.sc,.map b.mp] 70)) H2.out.bl;have HB:=hideK (H2.out.bl.alloc (by have:=H2.out.lt;omega) (.cells #[.slice none 0 0,.slice none 0 0,.slice none 0 0,.slice none 0 0] 73))
 simp only [scVal,prVal]at H2 HB hl ⊢;clear hlk;go_enter Tryz.func43,Tryz.ntmps43
 go_wp2_with fail
 go_ret
 exact ⟨rfl,HB.out⟩
theorem callLen(hm:Option Nat)(p:Pr)(a:PrA)(s:Sc)(b:ScA)(d:Df)(e:HdA)(ne:Nat)(w:World)(hlen:p.exs.length≠d.sorts.length∨p.names.length≠ne)
  (hlk:∀W,Below w.heap.size w W→(Instr.lookup 64 (.map hm) (.string p.name) true).run Tryz.prog W = .ok (.tuple #[hdVal d e ne,.bool true]) W) :
  Calls Tryz.prog 43 #[.map hm,prVal p a,scVal s b] w fun e w'=>e = .returned (.int .i64 1)∧Below w.heap.size w w':=by
 have H2:=hideK (PSB.new w p a s b);have hl:=hlk ((w.alloc (.cells (pK p a) 40)).alloc (.cells #[.slice b.va s.vs.length b.vc,.slice b.sa s.ss.length b.sc,.map b.mp] 70)) H2.out.bl;have HB:=hideK (H2.out.bl.alloc (by have:=H2.out.lt;omega) (.cells #[.slice e.va d.vals.length e.vc,.slice e.sa d.sorts.length e.sc,.slice e.ca d.chans.length e.cc,.slice e.ea ne e.ec] 73))
 simp only [scVal,prVal,hdVal]at H2 HB hl ⊢;clear hlk;by_cases h1:p.exs.length=d.sorts.length
 ·have h2:¬(p.names.length:Int)=(ne:Int):=by have:=hlen.resolve_left (fun q=>q h1);omega
  have h1z:(p.exs.length:Int)=(d.sorts.length:Int):=by omega
  have h2b:((p.names.length:Int) != (ne:Int))=true:=by simpa using h2
  have h1b:((p.exs.length:Int) != (d.sorts.length:Int))=false:=by simpa using h1z
  clear hlen h1 h2 h1z;go_enter Tryz.func43,Tryz.ntmps43
  go_wp2_with fail
  go_ret
  exact ⟨rfl,HB.out⟩
 ·have h1z:¬(p.exs.length:Int)=(d.sorts.length:Int):=by omega
  have h1b:((p.exs.length:Int) != (d.sorts.length:Int))=true:=by simpa using h1z
  clear hlen h1 h1z;go_enter Tryz.func43,Tryz.ntmps43
  go_wp2_with fail
  go_ret
  exact ⟨rfl,HB.out⟩
theorem callGood{W0:World}(h0:Tabs W0)(hm:Option Nat)(p:Pr)(a:PrA)(w0:World)(L:Nat)(d:Df)(ys:List En)(e:HdA)(ne:Nat)(hne:ne=ys.length)(hHD:HdOK w0 d ys e)(hl1:p.exs.length=d.sorts.length)(hl2:p.names.length=ys.length)(hx1:p.exs.length≤1000)(hn1:p.names.length≤1000)(hp:PrB w0 w0.heap.size p a)(hT:AT W0 w0)(s:Sc)(b:ScA)(w:World)(hw:Below w0.heap.size w0 w)(h:ScAt w s b)(hl:s.vs.length≤L)(hL:L≤1000)
  (hlk:∀W,Below w.heap.size w W→(Instr.lookup 64 (.map hm) (.string p.name) true).run Tryz.prog W = .ok (.tuple #[hdVal d e ne,.bool true]) W) :
  Calls Tryz.prog 43 #[.map hm,prVal p a,scVal s b] w fun e w'=>e = .returned (.int .i64 (if exG s p.exs d.sorts≠0 then exG s p.exs d.sorts else nmG p.names ys s))∧Below w.heap.size w w':=by
 have H2:=hideK (PSB.new w p a s b);have hlq:=hlk ((w.alloc (.cells (pK p a) 40)).alloc (.cells #[.slice b.va s.vs.length b.vc,.slice b.sa s.ss.length b.sc,.map b.mp] 70)) H2.out.bl;have hbw:∀W,Below w.heap.size w W→Below w0.heap.size w0 W:=fun W hW=>hw.trans (hW.mono hw.size)
 have HL:=hideK (And.intro hl1 (And.intro hl2 hne));have HS:=hideK h;have HBW:=hideK hbw;have HPB:=hideK hp;have HHD:=hideK hHD;have HWS:=hideK (fun (x:Ex) (ao:OAd) (cap:Nat) (z:Int) (W:World) (hW:Below w.heap.size w W) (hbd:ExBd x cap) (hka:∃d,KA w0 w0.heap.size d x.kids ao)=>wantSort_any h0 s b x ao cap z W (h.keep hW) hbd (hka.imp fun _ q=>KA.mono (hbw _ hW).size (KA.keep (hbw _ hW) q)) (at_k _ _ hT (hbw _ hW)) (by omega))
 obtain ⟨res,hres⟩:∃q,q=(if exG s p.exs d.sorts≠0 then exG s p.exs d.sorts else nmG p.names ys s):=⟨_,rfl⟩
 rw [← hres];have HRS:=hideK hres;have hxz:(p.exs.length:Int)≤1000:=by omega
 have hnz:(p.names.length:Int)≤1000:=by omega
 have hb1:((p.exs.length:Int) != (d.sorts.length:Int))=false:=by simp;omega
 have hb2:((p.names.length:Int) != (ne:Int))=false:=by simp;omega
 simp only [scVal,prVal,hdVal]at H2 hlq ⊢;clear h hl hl1 hl2 hx1 hn1 hp hbw hres hlk hT hHD hw hL hne;go_enter Tryz.func43,Tryz.ntmps43
 go_upto_region 6 with fail
 have H6:=hideK (CAL.new H2.out HS.out d e ne);have hhb:((w.alloc (.cells (pK p a) 40)).alloc (.cells #[.slice b.va s.vs.length b.vc,.slice b.sa s.ss.length b.sc,.map b.mp] 70)).heap.size=w.heap.size+1+1:=by simp
 rw [hhb]at H6;generalize ((w.alloc (.cells (pK p a) 40)).alloc (.cells #[.slice b.va s.vs.length b.vc,.slice b.sa s.ss.length b.sc,.map b.mp] 70)).alloc (.cells #[.slice e.va d.vals.length e.vc,.slice e.sa d.sorts.length e.sc,.slice e.ca d.chans.length e.cc,.slice e.ea ne e.ec] 73)=V6 at *;clear H2 hlq hb1 hb2 hhb;generalize w.heap.size+1+1=hb at H6 ⊢;have k10:=H6.out.k (j:=10) (v:=.slice a.xa p.exs.length a.xc) (by omega) rfl
 go_wp2_with fail
 go_loopw [48] (fun i wr=>∃k:Nat,k≤p.exs.length∧i = .int .i64 (k:Int)∧exG s p.exs d.sorts=exG s (p.exs.drop k) (d.sorts.drop k)∧CAL w p a s b hb d e ne s.es b.mp wr) (fun i _=>p.exs.length - (intOf i).toNat)
 case atStart=>exact ⟨0,Nat.zero_le _,rfl,rfl,H6.out⟩
 case round =>
  obtain ⟨k,hk,rfl,hz,hW⟩:=hrel;clear k10 H6;by_cases hltk:k<p.exs.length
  ·have hltz:(k:Int)<(p.exs.length:Int):=by omega
   have hlts:k<d.sorts.length:=by have:=HL.out;omega
   rw [List.drop_eq_getElem_cons hltk,List.drop_eq_getElem_cons hlts,exG]at hz;obtain ⟨dd,hka⟩:=HPB.out.exs.ka;obtain ⟨xb,xo,ao',cap',ha,hbB,hex,hxb,hkk⟩:∃b o ao' cap',a.xa=some ⟨b,o,none⟩∧b<w0.heap.size∧ExAt w0 b (o+k*6) p.exs[k] ao' cap'∧ExBd p.exs[k] cap'∧∃d,KA w0 w0.heap.size d p.exs[k].kids ao':=by
    cases dd with
    | zero=>simp only [KA]at hka;rw [hka]at hltk;simp at hltk
    | succ dd =>
     rcases hka with hka|⟨b,o,e,hbB,hka⟩
     ·rw [hka]at hltk;simp at hltk
     ·obtain ⟨ao',cap',h1,h2,h3⟩:=hka k hltk
      exact ⟨b,o,ao',cap',e,hbB,h1,h2,dd,h3⟩
   obtain ⟨y0,y1,y2,y3,y4,y5⟩:=hex.keep (HBW.out wr hW.bl) hbB;obtain ⟨sb,so,hsa,hsb,hsc⟩:=HHD.out.ss.resolve_left (fun q=>by rw [List.map_eq_nil_iff]at q;rw [q]at hlts;simp at hlts)
   have HSC:=hideK (fun (W:World) (hW:CAL w p a s b hb d e ne s.es b.mp W)=>(show W.cell? ⟨sb,so+k,none⟩=some (.int .i64 d.sorts[k]) from by rw [(HBW.out W hW.bl).cell (p:=⟨sb,so+k,none⟩) hsb,hsc k (by simpa using hlts),List.getElem_map]))
   have HH1:=hideK (fun (W:World) (hW:CAL w p a s b hb d e ne s.es b.mp W)=>(show W.cell? ⟨hb,1,none⟩=some (.slice (some ⟨sb,so,none⟩) d.sorts.length e.sc) from hsa ▸ hW.h1))
   have hls:(k:Int)<(d.sorts.length:Int):=by omega
   have cW:=fun (W:World) (hW:Below w.heap.size w W)=>HWS.out p.exs[k] ao' cap' d.sorts[k] W hW hxb hkk
   have HCW:=hideK cW;generalize wntS s p.exs[k] d.sorts[k]=rk at *;generalize d.sorts[k]=zk at *;generalize p.exs[k]=x at *;rw [ha];have HW:=hideK hW;have HZ:=hideK hz;have HKL:=hideK hltk;simp only [exVal,scVal]at HCW;clear hz hW hex hxb hkk hka hlts hsa hsb hsc cW ha;go_upto_region 9 with fail
   have hA:=((Below.refl wr.heap.size wr).alloc (nR _) (.cells #[.int .i64 x.kind,.string x.name,.int .i64 x.so,.int .i64 x.n,.string x.s,.slice ao' x.kids.length cap'] 34)).drew;have H8:=hideK (HW.out.keep hA);have HX8:=hideK (show ExAt (World.drew (wr.alloc (.cells #[.int .i64 x.kind,.string x.name,.int .i64 x.so,.int .i64 x.n,.string x.s,.slice ao' x.kids.length cap'] 34))) wr.heap.size 0 x ao' cap' from ⟨by go_cell,by go_cell,by go_cell,by go_cell,by go_cell,by go_cell⟩)
   have HXL:=hideK (show wr.heap.size<(World.drew (wr.alloc (.cells #[.int .i64 x.kind,.string x.name,.int .i64 x.so,.int .i64 x.n,.string x.s,.slice ao' x.kids.length cap'] 34))).heap.size from by simp)
   have hS0:(fun W:World=>CAL w p a s b hb d e ne s.es b.mp W∧ExAt W wr.heap.size 0 x ao' cap') (World.drew (wr.alloc (.cells #[.int .i64 x.kind,.string x.name,.int .i64 x.so,.int .i64 x.n,.string x.s,.slice ao' x.kids.length cap'] 34))):=⟨H8.out,HX8.out⟩
   clear HW hA y0 y1 y2 y3 y4 y5;refine wp_region_held_drew (S:=(fun W:World=>CAL w p a s b hb d e ne s.es b.mp W∧ExAt W wr.heap.size 0 x ao' cap')) (by kernel_rfl) hS0 (fun hS=>?_)
   clear hS0;generalize World.drew (wr.alloc (.cells #[.int .i64 x.kind,.string x.name,.int .i64 x.so,.int .i64 x.n,.string x.s,.slice ao' x.kids.length cap'] 34))=V8 at *;refine tkH 0 (.agg #[.slice b.va s.vs.length b.vc,.slice b.sa s.ss.length b.sc,.map b.mp]) hS ?_ (hy:=Or.inl ⟨by rfl,fun W hW=>by obtain ⟨⟨_,_,c0,c1,c2,_,_,_,_,_,_⟩,_⟩:=id hW;go_simp⟩)
   simp only [Act.put,sA,sB,sC];refine tkH 1 (.agg #[.int .i64 x.kind,.string x.name,.int .i64 x.so,.int .i64 x.n,.string x.s,.slice ao' x.kids.length cap']) hS ?_ (hy:=Or.inl ⟨by rfl,fun W hW=>by obtain ⟨_,⟨x0,x1,x2,x3,x4,x5⟩⟩:=id hW;simp only [Nat.zero_add]at x0 x1 x2 x3 x4 x5;go_simp⟩)
   simp only [Act.put,sA,sB,sC];refine tkZ 2 (.pointer (some ⟨hb,1,none⟩)) hS ?_;refine tkH 3 (.slice (some ⟨sb,so,none⟩) d.sorts.length e.sc) hS ?_ (hy:=Or.inl ⟨by rfl,fun W hW=>by have g1:=HH1.out W hW.1;go_simp⟩)
   simp only [Act.put,sA,sB,sC];refine tkZ 4 (.int .i64 (k:Int)) hS ?_;refine tkZ 5 (.pointer (some ⟨sb,so+k,none⟩)) hS ?_;refine tkH 6 (.int .i64 zk) hS ?_ (hy:=Or.inl ⟨by rfl,fun W hW=>by have g1:=HSC.out W hW.1;go_simp⟩)
   simp only [Act.put,sA,sB,sC];refine take_oneHL 7 (aC (fun K hK=>?_) aN) (by kernel_rfl)
   go_simp
   refine (HCW.out V8 H8.out.bl).mono ?_;rintro e V9 ⟨rfl,hb9⟩;have H9:=hideK (H8.out.keep hb9);have hSn:(fun W:World=>CAL w p a s b hb d e ne s.es b.mp W∧ExAt W wr.heap.size 0 x ao' cap') V9:=⟨H9.out,HX8.out.keep hb9 HXL.out⟩
   refine hK.out _ _ hSn ?_;clear hb9;clear hS hK K hSn;intro hS;try simp only [Act.put,sA,sB,sC]
   refine tkZ 8 (.int .i64 rk) hS ?_;refine wpAnyH_done (by kernel_rfl) ?_ _
   clear HCW HH1 HSC hS HX8 HXL H8;have hz:=HZ.out;by_cases hr:rk=0
   ·have hrb2:(rk != 0)=false:=by simpa using hr
    rw [if_neg (by simpa using hr)]at hz
    have HZ2:=hideK hz;clear hr hz HZ;go_wp2_with fail
    go_roundw
    case rel=>exact ⟨k+1,HKL.out,by go_num,HZ2.out,H9.out⟩
    case measure=>simp [intOf];have:=HKL.out;omega
   ·have hrb2:(rk != 0)=true:=by simpa using hr
    rw [if_pos (by simpa using hr)]at hz
    have hfin:res=rk:=by rw [HRS.out,hz,if_pos hr]
    clear hr hz HZ;go_wp2_with fail
    go_ret
    rw [hfin];exact ⟨rfl,H9.out.bl⟩
  ·have hltz:¬(k:Int)<(p.exs.length:Int):=by omega
   rw [List.drop_of_length_le (by omega),exG_nil]at hz
   have hrn:res=nmG p.names ys s:=by rw [HRS.out,hz];rfl
   have HRN:=hideK hrn;have HW:=hideK hW;have k11:=hW.k (j:=11) (v:=.slice a.na p.names.length a.nc) (by omega) rfl
   clear hz hrn hW HRS HWS;go_wp2_with fail
   go_loopw [68] (fun i wr=>∃(k:Nat) (r:List (ByteArray × En)) (mpr:Option Nat),k≤p.names.length∧i = .int .i64 (k:Int)∧res=nmG (p.names.drop k) (ys.drop k) ⟨s.vs,s.ss,r⟩∧CAL w p a s b hb d e ne r mpr wr) (fun i _=>p.names.length - (intOf i).toNat)
   case atStart=>exact ⟨0,s.es,b.mp,Nat.zero_le _,rfl,HRN.out,HW.out⟩
   case round =>
    obtain ⟨k,r,mpr,hk,rfl,hz,hW⟩:=hrel;clear k11 HW HRN;by_cases hltn:k<p.names.length
    ·have hltz2:(k:Int)<(p.names.length:Int):=by omega
     have hlty:k<ys.length:=by have:=HL.out;omega
     rw [List.drop_eq_getElem_cons hltn,List.drop_eq_getElem_cons hlty,nmG]at hz;obtain ⟨nb,no,hna,hnb,hcl⟩:=HPB.out.nms.la.resolve_left (fun q=>by rw [List.map_eq_nil_iff]at q;rw [q]at hltn;simp at hltn)
     have d0:=hcl k (by simpa using hltn)
     rw [List.getElem_map,← (HBW.out wr hW.bl).cell (p:=⟨nb,no+k,none⟩) hnb]at d0;have hsz:p.names[k].size≤maxLen:=HPB.out.nms.siz _ (List.getElem_mem hltn);obtain ⟨eb,eo,hea,heb,hec⟩:=HHD.out.es.resolve_left (fun q=>by rw [q]at hlty;simp at hlty)
     obtain ⟨ay,cy,hy0,hy1,hy2⟩:=hec k hlty;generalize p.names[k]=n at *;generalize ys[k]=y at *;have HY:=hideK (fun (W:World) (hW:Below w.heap.size w W)=>And.intro ((HBW.out W hW).cell (p:=⟨eb,eo+k*2,none⟩) heb |>.trans hy0) (And.intro ((HBW.out W hW).cell (p:=⟨eb,eo+k*2+1,none⟩) heb |>.trans hy1) (hy2.keep (HBW.out W hW))))
     have HH3:=hideK (fun (W:World) (hW:CAL w p a s b hb d e ne r mpr W)=>(show W.cell? ⟨hb,3,none⟩=some (.slice (some ⟨eb,eo,none⟩) ne e.ec) from hea ▸ hW.h3))
     have hkn:(k:Int)<(ne:Int):=by have:=HL.out;omega
     rw [hna];have c0:=hW.c0;have c1:=hW.c1;have c2:=hW.c2;have HKL:=hideK hltn;clear hcl hnb hna hec hea heb hy0 hy1 hy2 hlty;cases hq:getE r n with
     | none =>
      simp only [hq]at hz;have ct:=takenNo_g ⟨s.vs,s.ss,r⟩ ⟨b.va,b.vc,b.sa,b.sc,mpr⟩ n w wr hW.gr hsz hq;have HZ:=hideK hz;have HW:=hideK hW;simp only [scVal]at ct;clear hz hW hq hsz HY HH3;go_wp2_with fail
      refine ct.mono ?_;rintro e w8 ⟨rfl,hb8⟩;have HB:=hideK (((HW.out.keep hb8).bl.alloc (by have:=(HW.out.keep hb8).bl.size;omega) (.cells #[.slice none 0 0,.int .i64 0] 90)).alloc (by have:=(HW.out.keep hb8).bl.size;simp;omega) (.cells #[.slice b.va s.vs.length b.vc,.slice b.sa s.ss.length b.sc,.map mpr] 70))
      clear ct hb8 HW;go_wp2_with fail
      go_ret
      rw [HZ.out];exact ⟨rfl,HB.out⟩
     | some x =>
      simp only [hq]at hz;have ct:=takenYes_g ⟨s.vs,s.ss,r⟩ ⟨b.va,b.vc,b.sa,b.sc,mpr⟩ n x w wr hW.gr hsz hq;have HZ:=hideK hz;have HW:=hideK hW;simp only [scVal,enVal,Sc.wo]at ct;clear hz hW hq hsz;go_wp2_with fail
      refine ct.mono ?_;rintro e w8 ⟨⟨ax,cx,mp1,rfl,hx,hn1⟩,hb8⟩;have HX:=hideK hx;have H8:=hideK (HW.out.keep hb8);have HN0:=hideK hn1.gs;clear ct hb8 HW hn1 hx c0 c1 c2 d0;go_upto_region 19 with fail
      have hA0:=(((Below.refl w8.heap.size w8).alloc (nR _) (.cells #[.slice ax x.g.length cx,.int .i64 (x.k:Int)] 90)).alloc (by simp) (.cells #[.slice b.va s.vs.length b.vc,.slice b.sa s.ss.length b.sc,.map mp1] 70)).drew
      have H9:=hideK (H8.out.keep hA0);have HN1:=hideK (HN0.out.keep hA0);have HG9:=hideK ((GVS.new w8 (.slice ax x.g.length cx) (.int .i64 (x.k:Int)) (.slice b.va s.vs.length b.vc) (.slice b.sa s.ss.length b.sc) (.map mp1)).keep ((bR _ _).drew));have hS0:(fun W:World=>CAL w p a s b hb d e ne r mpr W∧GVS w8.heap.size (.slice ax x.g.length cx) (.int .i64 (x.k:Int)) (.slice b.va s.vs.length b.vc) (.slice b.sa s.ss.length b.sc) (.map mp1) W) (World.drew ((w8.alloc (.cells #[.slice ax x.g.length cx,.int .i64 (x.k:Int)] 90)).alloc (.cells #[.slice b.va s.vs.length b.vc,.slice b.sa s.ss.length b.sc,.map mp1] 70))):=⟨H9.out,HG9.out⟩
      have HLT:=hideK H8.out.lt;clear H8 HN0 hA0;refine wp_region_held_drew (S:=(fun W:World=>CAL w p a s b hb d e ne r mpr W∧GVS w8.heap.size (.slice ax x.g.length cx) (.int .i64 (x.k:Int)) (.slice b.va s.vs.length b.vc) (.slice b.sa s.ss.length b.sc) (.map mp1) W)) (by kernel_rfl) hS0 (fun hS=>?_)
      clear hS0;generalize World.drew ((w8.alloc (.cells #[.slice ax x.g.length cx,.int .i64 (x.k:Int)] 90)).alloc (.cells #[.slice b.va s.vs.length b.vc,.slice b.sa s.ss.length b.sc,.map mp1] 70))=V9 at *;have HFI:=hideK (enFits_any x y ax ay cx cy V9 (HX.out.keep H9.out.bl) (HY.out V9 H9.out.bl).2.2);generalize fitE x y=rk at *;simp only [enVal]at HFI;refine tkH 0 (.agg #[.slice ax x.g.length cx,.int .i64 (x.k:Int)]) hS ?_ (hy:=Or.inl ⟨by rfl,fun W hW=>by obtain ⟨_,⟨_,g0,g1,q0,q1,q2⟩⟩:=id hW;go_simp⟩)
      simp only [Act.put,sA,sB,sC];refine tkZ 1 (.pointer (some ⟨hb,3,none⟩)) hS ?_;refine tkH 2 (.slice (some ⟨eb,eo,none⟩) ne e.ec) hS ?_ (hy:=Or.inl ⟨by rfl,fun W hW=>by have g1:=HH3.out W hW.1;go_simp⟩)
      simp only [Act.put,sA,sB,sC];refine tkZ 3 (.int .i64 (k:Int)) hS ?_;refine tkZ 4 (.pointer (some ⟨eb,eo+k*2,none⟩)) hS ?_;refine tkH 5 (.agg #[.slice ay y.g.length cy,.int .i64 (y.k:Int)]) hS ?_ (hy:=Or.inl ⟨by rfl,fun W hW=>by obtain ⟨g0,g1,_⟩:=HY.out W hW.1.bl;go_simp⟩)
      simp only [Act.put,sA,sB,sC];refine take_oneHL 6 (aC (fun K hK=>?_) aN) (by kernel_rfl)
      go_simp
      refine HFI.out.mono ?_;rintro e V10 ⟨rfl,hb10⟩;have H10:=hideK (H9.out.keep hb10);have HG10:=hideK (HG9.out.keep hb10);have HN2:=hideK (HN1.out.keep hb10);have hSn:(fun W:World=>CAL w p a s b hb d e ne r mpr W∧GVS w8.heap.size (.slice ax x.g.length cx) (.int .i64 (x.k:Int)) (.slice b.va s.vs.length b.vc) (.slice b.sa s.ss.length b.sc) (.map mp1) W) V10:=⟨H10.out,HG10.out⟩
      refine hK.out _ _ hSn ?_;clear hb10;clear hS hK K hSn;intro hS;try simp only [Act.put,sA,sB,sC]
      refine tkZ 7 (.int .i64 rk) hS ?_;refine wpAnyH_done (by kernel_rfl) ?_ _
      clear HFI HH3 HY hS H9 HG9 HN1 HX;have hz:=HZ.out;by_cases hr:rk=0
      ·have hrb2:(rk != 0)=false:=by simpa using hr
       rw [if_neg (by simpa using hr)]at hz
       have HZ2:=hideK hz;clear hr hz HZ;obtain ⟨W11,e11,h11,k11,s11⟩:=H10.out.st2 HN2.out;have c0:=H10.out.c0;have c1:=H10.out.c1;have c2:=H10.out.c2;have f0:=H10.out.f1 0;have f1:=H10.out.f1 1;have f2:=H10.out.f1 2;have q0:=HG10.out.r0;have q1:=HG10.out.r1;have q2:=HG10.out.r2;have HE11:=hideK e11;have H11:=hideK h11;clear e11 h11 k11 s11 HN2 H10 HG10;go_wp2_with fail
       go_roundw
       case rel=>exact ⟨k+1,delE r n,mp1,HKL.out,by go_num,HZ2.out,by rw [HE11.out];exact H11.out⟩
       case measure=>simp [intOf];have:=HKL.out;omega
      ·have hrb2:(rk != 0)=true:=by simpa using hr
       rw [if_pos (by simpa using hr)]at hz
       have HZ2:=hideK hz;clear hr hz HZ;go_wp2_with fail
       go_ret
       rw [HZ2.out];exact ⟨rfl,H10.out.bl⟩
    ·have hltz2:¬(k:Int)<(p.names.length:Int):=by omega
     rw [List.drop_of_length_le (by omega),nmG_nil]at hz
     have cn:=wantNoEnds_any ⟨s.vs,s.ss,r⟩ ⟨b.va,b.vc,b.sa,b.sc,mpr⟩ wr (hW.sc HS.out);rw [← hz]at cn;have c0:=hW.c0;have c1:=hW.c1;have c2:=hW.c2;have HW:=hideK hW;simp only [scVal]at cn;clear hz hW;go_wp2_with fail
     refine cn.mono ?_;rintro e w8 ⟨rfl,hb8⟩;have HB:=hideK ((HW.out.keep hb8).bl);clear cn hb8 HW c0 c1 c2;go_wp2_with fail
     go_ret
     exact ⟨rfl,HB.out⟩
end Go.Proofs.YtmamabhhgfcjcaaGreatDoor
