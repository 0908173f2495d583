/-
  The contracts of comply.outcomeOf and comply.Do, for every two types.
-/
import Derived.Test.YtnedgkcejlhnbaaGreatDoorSz
import Derived.Test.YtnedgkcejlhnbaaGreatDoorVt
import Derived.Test.YtnedgkcejlhnbaaGreatDoorIi
import Derived.Test.YtnedgkcejlhnbaaGreatDoorVl
import Derived.Test.YtnedgkcejlhnbaaGreatDoorVh
import Derived.Test.YtnedgkcejlhnbaaGreatDoorVq
set_option maxRecDepth 100000
set_option maxHeartbeats 32000000
namespace Go.Proofs.YtnedgkcejlhnbaaGreatDoor
open Go.RowKit Go.Shelf
def CT(s t:Ty):Prop:=∃g h,OFG s g∧OFG t h∧∀k,bl k (othG h) g 0 0
theorem CT_iff{s t:Ty}{g h:List Nd}(hg:OFG s g)(hh:OFG t h):CT s t↔∀k,bl k (othG h) g 0 0:=by
 constructor
 ·rintro ⟨g',h',hg',hh',hb⟩
  rw [hg.uniq hg',hh.uniq hh'];exact hb
 ·intro hb;exact ⟨g,h,hg,hh,hb⟩
def OOPost(s t:Ty)(w:World)(e:Ending)(w':World):Prop :=
 ((chkTy s≠0∧e = .returned (.tuple #[.agg #[.bool false,.bool false,.slice none 0 0],.int .i64 (chkTy s)]))∨(chkTy s=0∧chkTy t≠0∧e = .returned (.tuple #[.agg #[.bool false,.bool false,.slice none 0 0],.int .i64 (chkTy t)])) ∨
  (∃g h,OFG s g∧OFG t h∧((∃k arr,srC g h=(some k,arr)∧∃aw cw,e = .returned (.tuple #[.agg #[.bool true,.bool false,.slice aw (wayGA arr k).length cw],.int .i64 0])∧LA w' w'.heap.size (wayGA arr k).reverse aw)∨(∃arr,srC g h=(none,arr)∧∃aw cw,e = .returned (.tuple #[.agg #[.bool false,.bool (enW g arr arr.length).1,.slice aw (enW g arr arr.length).2 cw],.int .i64 0])))))∧Below w.heap.size w w'
theorem outcomeOf_any(ds dt:Nat)(s t:Ty)(sal:OAd)(scl:Nat)(sak:OAd)(sck:Nat)(al:OAd)(cl:Nat)(ak:OAd)(ck:Nat)(w:World)(hs1:TyBd s scl sck)(hs2:LA w w.heap.size s.labels sal)(hs3:KT w w.heap.size ds s.kids sak)(ht1:TyBd t cl ck)(ht2:LA w w.heap.size t.labels al)(ht3:KT w w.heap.size dt t.kids ak):
  Calls Tryz.prog 7 #[tyVal s sal scl sak sck,tyVal t al cl ak ck] w (OOPost s t w):=by
 unfold OOPost;have hA:Below w.heap.size w (((w.alloc (.cells #[.int .i64 s.kind,.int .i64 s.so,.string s.name,.slice sal s.labels.length scl,.slice sak s.kids.length sck] 25)).alloc (.cells #[.int .i64 t.kind,.int .i64 t.so,.string t.name,.slice al t.labels.length cl,.slice ak t.kids.length ck] 25)).alloc (.cells #[.bool false,.bool false,.slice none 0 0] 36)):=(((Below.refl _ _).alloc (Nat.le_refl _) _).alloc (by simp) _).alloc (by simp;omega) _
 have hsz:(((w.alloc (.cells #[.int .i64 s.kind,.int .i64 s.so,.string s.name,.slice sal s.labels.length scl,.slice sak s.kids.length sck] 25)).alloc (.cells #[.int .i64 t.kind,.int .i64 t.so,.string t.name,.slice al t.labels.length cl,.slice ak t.kids.length ck] 25)).alloc (.cells #[.bool false,.bool false,.slice none 0 0] 36)).heap.size=w.heap.size+1+1+1:=by simp
 have bt:TyAt (((w.alloc (.cells #[.int .i64 s.kind,.int .i64 s.so,.string s.name,.slice sal s.labels.length scl,.slice sak s.kids.length sck] 25)).alloc (.cells #[.int .i64 t.kind,.int .i64 t.so,.string t.name,.slice al t.labels.length cl,.slice ak t.kids.length ck] 25)).alloc (.cells #[.bool false,.bool false,.slice none 0 0] 36)) (w.heap.size+1) 0 t al cl ak ck:=⟨by go_cell,by go_cell,by go_cell,by go_cell,by go_cell⟩
 have HOB:=hideK (show OB3 (((w.alloc (.cells #[.int .i64 s.kind,.int .i64 s.so,.string s.name,.slice sal s.labels.length scl,.slice sak s.kids.length sck] 25)).alloc (.cells #[.int .i64 t.kind,.int .i64 t.so,.string t.name,.slice al t.labels.length cl,.slice ak t.kids.length ck] 25)).alloc (.cells #[.bool false,.bool false,.slice none 0 0] 36)) (w.heap.size+1+1) (.bool false) (.bool false) (.slice none 0 0) from ⟨by go_cell,by go_cell,by go_cell,by go_simp,by go_simp,by go_simp⟩)
 have CS:=hideK (fun (W:World) (hb:Below w.heap.size w W)=>of_any ds s sal scl sak sck W hs1 ((hs2.keep hb).mono hb.size) ((hs3.keep hb).mono hb.size))
 have CT:=hideK (fun (W:World) (hb:Below w.heap.size w W)=>of_any dt t al cl ak ck W ht1 ((ht2.keep hb).mono hb.size) ((ht3.keep hb).mono hb.size))
 have HA:=hideK hA;have HBT:=hideK bt;have HSZ:=hideK hsz;simp only [tyVal]at CS CT ⊢;unfold OFPost at CS CT;clear hs1 hs2 hs3 ht1 ht2 ht3 hA hsz bt;go_enter Tryz.func7,Tryz.ntmps7
 go_wp2_with fail
 generalize (((w.alloc (.cells #[.int .i64 s.kind,.int .i64 s.so,.string s.name,.slice sal s.labels.length scl,.slice sak s.kids.length sck] 25)).alloc (.cells #[.int .i64 t.kind,.int .i64 t.so,.string t.name,.slice al t.labels.length cl,.slice ak t.kids.length ck] 25)).alloc (.cells #[.bool false,.bool false,.slice none 0 0] 36))=W0 at *;have hsz:=HSZ.out;refine (CS.out _ HA.out).mono ?_;rintro e w1 ⟨hor,hb1⟩;have HB1:=hideK (HA.out.trans (hb1.mono HA.out.size));have HBT1:=hideK (HBT.out.keep hb1 (by omega))
 have HOB1:=hideK (HOB.out.keepC (hb1.block (w.heap.size+1+1) (by omega)))
 have hs1:=hb1.size;obtain ⟨z0,z1,z2,z3,z4⟩:=HBT1.out;simp only [Nat.zero_add]at z1 z2 z3 z4;clear hb1 CS HBT HOB;rcases hor with ⟨hz,rfl⟩|⟨g,ag,cg,hof,rfl,hga⟩
 ·have hzb:(chkTy s != 0)=true:=by simpa using hz
  have HZ:=hideK hz;obtain ⟨r0,r1,r2,f0,f1,f2⟩:=HOB1.out;clear hz;go_wp2_with fail
  have TA:=(HOB1.out).st (.bool false) (.bool false) (.slice none 0 0);have TB:=st3_below (HB1.out) (show w.heap.size≤w.heap.size+1+1 from by omega) (.bool false) (.bool false) (.slice none 0 0)
  change OB3 (st3 w1 (w.heap.size+1+1) (.bool false) (.bool false) (.slice none 0 0)) _ _ _ _ at TA
  change Below _ _ (st3 w1 (w.heap.size+1+1) (.bool false) (.bool false) (.slice none 0 0)) at TB
  change bodyPost _ _ _ _ _ (st3 w1 (w.heap.size+1+1) (.bool false) (.bool false) (.slice none 0 0))
  generalize st3 w1 (w.heap.size+1+1) (.bool false) (.bool false) (.slice none 0 0)=W9 at TA TB ⊢;obtain ⟨t0,t1,t2,_,_,_⟩:=TA;refine bodyPost_ret (v:=.tuple #[.agg #[.bool false,.bool false,.slice none 0 0],.int .i64 (chkTy s)]) (by simp [results,Tryz.results7,go_sem,t0,t1,t2]) rfl ?_
  exact ⟨.inl ⟨HZ.out,rfl⟩,TB⟩
 ·have HOF:=hideK hof
  have HGA:=hideK hga;clear hof hga;go_wp2_with fail
  refine (CT.out _ HB1.out).mono ?_;rintro e w2 ⟨hor,hb2⟩;have HB2:=hideK (HB1.out.trans (hb2.mono HB1.out.size));have HGA2:=hideK ((HGA.out.keep hb2).mono hb2.size);have HOB2:=hideK (HOB1.out.keepC (hb2.block (w.heap.size+1+1) (by omega)))
  have hs2:=hb2.size;clear z0 z1 z2 z3 z4 CT hb2;rcases hor with ⟨hz,rfl⟩|⟨h,ah,ch,hof,rfl,hha⟩
  ·have hzb:(chkTy t != 0)=true:=by simpa using hz
   have HZ:=hideK hz;obtain ⟨r0,r1,r2,f0,f1,f2⟩:=HOB2.out;clear hz;go_wp2_with fail
   have TA:=(HOB2.out).st (.bool false) (.bool false) (.slice none 0 0);have TB:=st3_below (HB2.out) (show w.heap.size≤w.heap.size+1+1 from by omega) (.bool false) (.bool false) (.slice none 0 0)
   change OB3 (st3 w2 (w.heap.size+1+1) (.bool false) (.bool false) (.slice none 0 0)) _ _ _ _ at TA
   change Below _ _ (st3 w2 (w.heap.size+1+1) (.bool false) (.bool false) (.slice none 0 0)) at TB
   change bodyPost _ _ _ _ _ (st3 w2 (w.heap.size+1+1) (.bool false) (.bool false) (.slice none 0 0))
   generalize st3 w2 (w.heap.size+1+1) (.bool false) (.bool false) (.slice none 0 0)=W9 at TA TB ⊢;obtain ⟨t0,t1,t2,_,_,_⟩:=TA;refine bodyPost_ret (v:=.tuple #[.agg #[.bool false,.bool false,.slice none 0 0],.int .i64 (chkTy t)]) (by simp [results,Tryz.results7,go_sem,t0,t1,t2]) rfl ?_
   exact ⟨.inr (.inl ⟨HOF.out.chk,HZ.out,rfl⟩),TB⟩
  ·have HOF2:=hideK hof
   have cK:=talk_any g h ag ah cg ch w2.heap.size w2 HOF.out.gn HOF2.out.gn HGA2.out hha (Nat.le_refl _);unfold TKPost at cK;clear hof hha;go_wp2_with fail
   refine cK.mono ?_;rintro e w3 ⟨hor,hb3⟩;have HB3:=hideK (HB2.out.trans (hb3.mono HB2.out.size));have HOB3:=hideK (HOB2.out.keepC (hb3.block (w.heap.size+1+1) (by omega)))
   obtain ⟨r0,r1,r2,f0,f1,f2⟩:=HOB3.out;clear hb3 cK;rcases hor with ⟨k,arr,hsr,aw,cw,rfl,hla⟩|⟨arr,hsr,aw,cw,rfl⟩
   ·have HSR:=hideK hsr
    have HLA:=hideK hla;clear hsr hla;go_wp2_with fail
    have TA:=(HOB3.out).st (.bool true) (.bool false) (.slice aw (wayGA arr k).length cw);have TB:=st3_below (HB3.out) (show w.heap.size≤w.heap.size+1+1 from by omega) (.bool true) (.bool false) (.slice aw (wayGA arr k).length cw)
    have TL:LA (st3 w3 (w.heap.size+1+1) (.bool true) (.bool false) (.slice aw (wayGA arr k).length cw)) (st3 w3 (w.heap.size+1+1) (.bool true) (.bool false) (.slice aw (wayGA arr k).length cw)).heap.size (wayGA arr k).reverse aw:=by
     rw [st3_size];exact HLA.out.imp id fun ⟨b,o,e,hl,hc⟩=>⟨b,o,e,hl,fun i hi=>st3_str (HOB3.out) (by rw [hc i hi,List.getElem_map])⟩
    change OB3 (st3 w3 (w.heap.size+1+1) (.bool true) (.bool false) (.slice aw (wayGA arr k).length cw)) _ _ _ _ at TA
    change Below _ _ (st3 w3 (w.heap.size+1+1) (.bool true) (.bool false) (.slice aw (wayGA arr k).length cw)) at TB
    change bodyPost _ _ _ _ _ (st3 w3 (w.heap.size+1+1) (.bool true) (.bool false) (.slice aw (wayGA arr k).length cw))
    generalize st3 w3 (w.heap.size+1+1) (.bool true) (.bool false) (.slice aw (wayGA arr k).length cw)=W9 at TA TB TL ⊢;obtain ⟨t0,t1,t2,_,_,_⟩:=TA;refine bodyPost_ret (v:=.tuple #[.agg #[.bool true,.bool false,.slice aw (wayGA arr k).length cw],.int .i64 0]) (by simp [results,Tryz.results7,go_sem,t0,t1,t2]) rfl ?_
    exact ⟨.inr (.inr ⟨g,h,HOF.out,HOF2.out,.inl ⟨k,arr,HSR.out,aw,cw,rfl,TL⟩⟩),TB⟩
   ·have HSR:=hideK hsr
    clear hsr;generalize hew:enW g arr arr.length=ew at *;obtain ⟨e1,e2⟩:=ew;go_wp2_with fail
    have TA:=(HOB3.out).st (.bool false) (.bool e1) (.slice aw e2 cw);have TB:=st3_below (HB3.out) (show w.heap.size≤w.heap.size+1+1 from by omega) (.bool false) (.bool e1) (.slice aw e2 cw)
    change OB3 (st3 w3 (w.heap.size+1+1) (.bool false) (.bool e1) (.slice aw e2 cw)) _ _ _ _ at TA
    change Below _ _ (st3 w3 (w.heap.size+1+1) (.bool false) (.bool e1) (.slice aw e2 cw)) at TB
    change bodyPost _ _ _ _ _ (st3 w3 (w.heap.size+1+1) (.bool false) (.bool e1) (.slice aw e2 cw))
    generalize st3 w3 (w.heap.size+1+1) (.bool false) (.bool e1) (.slice aw e2 cw)=W9 at TA TB ⊢;obtain ⟨t0,t1,t2,_,_,_⟩:=TA;refine bodyPost_ret (v:=.tuple #[.agg #[.bool false,.bool e1,.slice aw e2 cw],.int .i64 0]) (by simp [results,Tryz.results7,go_sem,t0,t1,t2]) rfl ?_
    exact ⟨.inr (.inr ⟨g,h,HOF.out,HOF2.out,.inr ⟨arr,HSR.out,aw,cw,by rw [hew]⟩⟩),TB⟩
def DCPost(s t:Ty)(w:World)(e:Ending)(w':World):Prop :=
 ((chkTy s≠0∧e = .returned (.tuple #[.bool false,.int .i64 (chkTy s)]))∨(chkTy s=0∧chkTy t≠0∧e = .returned (.tuple #[.bool false,.int .i64 (chkTy t)])) ∨
  (∃g h,OFG s g∧OFG t h∧∃b:Bool,e = .returned (.tuple #[.bool b,.int .i64 0])∧(b=true↔CT s t)))∧Below w.heap.size w w'
theorem do_any(ds dt:Nat)(s t:Ty)(sal:OAd)(scl:Nat)(sak:OAd)(sck:Nat)(al:OAd)(cl:Nat)(ak:OAd)(ck:Nat)(w:World)(hs1:TyBd s scl sck)(hs2:LA w w.heap.size s.labels sal)(hs3:KT w w.heap.size ds s.kids sak)(ht1:TyBd t cl ck)(ht2:LA w w.heap.size t.labels al)(ht3:KT w w.heap.size dt t.kids ak):
  Calls Tryz.prog 4 #[tyVal s sal scl sak sck,tyVal t al cl ak ck] w (DCPost s t w):=by
 unfold DCPost;have hA:Below w.heap.size w ((w.alloc (.cells #[.int .i64 s.kind,.int .i64 s.so,.string s.name,.slice sal s.labels.length scl,.slice sak s.kids.length sck] 25)).alloc (.cells #[.int .i64 t.kind,.int .i64 t.so,.string t.name,.slice al t.labels.length cl,.slice ak t.kids.length ck] 25)):=((Below.refl _ _).alloc (Nat.le_refl _) _).alloc (by simp) _
 have cG:=outcomeOf_any ds dt s t sal scl sak sck al cl ak ck ((w.alloc (.cells #[.int .i64 s.kind,.int .i64 s.so,.string s.name,.slice sal s.labels.length scl,.slice sak s.kids.length sck] 25)).alloc (.cells #[.int .i64 t.kind,.int .i64 t.so,.string t.name,.slice al t.labels.length cl,.slice ak t.kids.length ck] 25)) hs1 ((hs2.keep hA).mono hA.size) ((hs3.keep hA).mono hA.size) ht1 ((ht2.keep hA).mono hA.size) ((ht3.keep hA).mono hA.size);have HA:=hideK hA;simp only [tyVal]at cG ⊢;unfold OOPost at cG;clear hs1 hs2 hs3 ht1 ht2 ht3 hA;go_enter Tryz.func4,Tryz.ntmps4
 go_wp2_with fail
 refine cG.mono ?_;generalize ((w.alloc (.cells #[.int .i64 s.kind,.int .i64 s.so,.string s.name,.slice sal s.labels.length scl,.slice sak s.kids.length sck] 25)).alloc (.cells #[.int .i64 t.kind,.int .i64 t.so,.string t.name,.slice al t.labels.length cl,.slice ak t.kids.length ck] 25))=W0 at *;rintro e w1 ⟨hor,hb1⟩;have HB1:=hideK (HA.out.trans (hb1.mono HA.out.size));have HB2:=hideK (fun o:Obj=>show Below w.heap.size w (w1.alloc o) from HB1.out.alloc HB1.out.size o)
 clear hb1 cG;rcases hor with ⟨hz,rfl⟩|⟨hz0,hz,rfl⟩|⟨g,h,hof,hof2,⟨k,arr,hsr,aw,cw,rfl,hla⟩|⟨arr,hsr,aw,cw,rfl⟩⟩
 ·have hzb:(chkTy s != 0)=true:=by simpa using hz
  have HZ:=hideK hz;clear hz;go_wp2_with fail
  go_ret2
  exact ⟨.inl ⟨HZ.out,rfl⟩,HB2.out _⟩
 ·have hzb:(chkTy t != 0)=true:=by simpa using hz
  have HZ:=hideK hz;have HZ0:=hideK hz0;clear hz hz0;go_wp2_with fail
  go_ret2
  exact ⟨.inr (.inl ⟨HZ0.out,HZ.out,rfl⟩),HB2.out _⟩
 ·have HOF:=hideK hof
  have HOF2:=hideK hof2;have HSR:=hideK hsr;clear hof hof2 hsr hla;go_wp2_with fail
  go_ret2
  exact ⟨.inr (.inr ⟨g,h,HOF.out,HOF2.out,false,rfl,by rw [CT_iff HOF.out HOF2.out,← comply_iff HOF.out.gn HOF2.out.gn (by have:=HOF2.out.le;omega),HSR.out];simp⟩),HB2.out _⟩
 ·have HOF:=hideK hof
  have HOF2:=hideK hof2;have HSR:=hideK hsr;clear hof hof2 hsr;go_wp2_with fail
  go_ret2
  exact ⟨.inr (.inr ⟨g,h,HOF.out,HOF2.out,true,rfl,by simp only [true_iff];rw [CT_iff HOF.out HOF2.out,← comply_iff HOF.out.gn HOF2.out.gn (by have:=HOF2.out.le;omega),HSR.out]⟩),HB2.out _⟩
theorem doBad{s t:Ty}{w:World}(hz:chkTy s≠0∨chkTy t≠0){args:Array Value}(c:Calls Tryz.prog 4 args w (DCPost s t w)):Calls Tryz.prog 4 args w fun e w'=>(∃z:Int,z≠0∧e = .returned (.tuple #[.bool false,.int .i64 z]))∧Below w.heap.size w w':=by
 refine c.mono ?_;rintro e w' ⟨h|h|h,hb⟩
 ·exact ⟨⟨_,h.1,h.2⟩,hb⟩
 ·exact ⟨⟨_,h.2.1,h.2.2⟩,hb⟩
 ·obtain ⟨g,h',hg,hh,_⟩:=h
  rcases hz with q|q
  ·exact absurd hg.chk q
  ·exact absurd hh.chk q
theorem doGood{s t:Ty}{w:World}(hs:chkTy s=0)(ht:chkTy t=0){args:Array Value}(c:Calls Tryz.prog 4 args w (DCPost s t w)):Calls Tryz.prog 4 args w fun e w'=>(∃b:Bool,e = .returned (.tuple #[.bool b,.int .i64 0])∧(b=true↔CT s t))∧Below w.heap.size w w':=by
 refine c.mono ?_;rintro e w' ⟨h|h|h,hb⟩
 ·exact absurd hs h.1
 ·exact absurd ht h.2.1
 ·obtain ⟨_,_,_,_,b,e,hq⟩:=h
  exact ⟨⟨b,e,hq⟩,hb⟩
theorem doSome{s t:Ty}{w:World}{args:Array Value}(c:Calls Tryz.prog 4 args w (DCPost s t w)):Calls Tryz.prog 4 args w fun e w'=>(∃(b:Bool) (z:Int),e = .returned (.tuple #[.bool b,.int .i64 z]))∧Below w.heap.size w w':=by
 refine c.mono ?_;rintro e w' ⟨h|h|h,hb⟩
 ·exact ⟨⟨_,_,h.2⟩,hb⟩
 ·exact ⟨⟨_,_,h.2.2⟩,hb⟩
 ·obtain ⟨_,_,_,_,b,e,_⟩:=h
  exact ⟨⟨_,_,e⟩,hb⟩
theorem end_node{g:List Nd}(h:OFG endT g):(nodeAt g 0).kind=1∧(nodeAt g 0).so=0∧(nodeAt g 0).labs=[]:=by
 have h1:=h.does 1;have h2:den endT e0 1=⟨1,0,[],[]⟩:=by rw [den_node endT e0 (by decide) (by decide)];rfl
 rw [h2]at h1;have h3:gT g 1 0=⟨(nodeAt g 0).kind,(nodeAt g 0).so,(nodeAt g 0).labs,(nodeAt g 0).to.map (gT g 0)⟩:=rfl;rw [h3]at h1;injection h1 with q1 q2 q3 _
 exact ⟨q1,q2,q3⟩
theorem CT_end{g:List Nd}(h:OFG endT g):CT endT endT:=by
 obtain ⟨k1,k2,k3⟩:=end_node h;refine ⟨g,g,h,h,fun k=>?_⟩
 cases k with
 | zero=>trivial
 | succ k =>
  rw [bl_succ,oth_at1 h.gn.pos];have e1:(othT g.length (nodeAt g 0)).kind=1:=by show kdD (nodeAt g 0).kind=1;rw [k1];rfl
  have e2:(othT g.length (nodeAt g 0)).labs=[]:=k3;refine ⟨⟨by rw [e1,k1],rfl,by rw [e1,if_neg (by decide),k3];intro l hl;cases hl⟩,fun q=>by omega,fun q=>by omega,fun q=>by omega,fun x y l hx _=>by rw [e2]at hx;simp at hx⟩
theorem doEnd(w:World):Calls Tryz.prog 4 #[.agg #[.int .i64 1,.int .i64 0,.string ⟨#[]⟩,.slice none 0 0,.slice none 0 0],.agg #[.int .i64 1,.int .i64 0,.string ⟨#[]⟩,.slice none 0 0,.slice none 0 0]] w fun e w'=>e = .returned (.tuple #[.bool true,.int .i64 0])∧Below w.heap.size w w':=by
 have c:=doGood end_chk end_chk (do_any 0 0 endT endT none 0 none 0 none 0 none 0 w end_bd (.inl rfl) rfl end_bd (.inl rfl) rfl);refine c.mono ?_;rintro e w' ⟨⟨b,rfl,hq⟩,hb⟩;obtain ⟨g,hg⟩:=OFG_ex end_chk;obtain rfl:b=true:=hq.2 (CT_end hg);exact ⟨rfl,hb⟩
def swP(p:Pc):Pc:=(p.2,p.1)
def swS(s:Sg Pc):Sg Pc:=(s.1,swP s.2)
def swA(v:Ag Pc):Ag Pc:=(swS v.1,v.2)
theorem swP_inj{p q:Pc}(h:swP p=swP q):p=q:=by
 obtain ⟨a,b⟩:=p;obtain ⟨c,d⟩:=q;unfold swP at h;simp only [Prod.mk.injEq]at h;rw [h.1,h.2]
theorem kd_back{m n:Nd}(hm:okN m)(a:n.kind=kdD m.kind):(n.kind=4→m.kind=5)∧(n.kind=5→m.kind=4)∧(n.kind=6→m.kind=7)∧(n.kind=7→m.kind=6)∧(n.kind=2→m.kind=3)∧(n.kind=3→m.kind=2)∧(n.kind=1→m.kind=1)∧m.kind=kdD n.kind:=by
 have kt:=kd_turn hm a;have c:=okN_cases hm;have h1:m.kind=1∨m.kind=2∨m.kind=3∨m.kind=4∨m.kind=5∨m.kind=6∨m.kind=7:=by omega
 refine ⟨?_,?_,?_,?_,?_,?_,?_,?_⟩
 ·omega
 ·omega
 ·omega
 ·omega
 ·omega
 ·omega
 ·omega
 ·rw [a];exact (kd_inv hm).symm
theorem on_turn{g h:List Nd}{m n:Nd}(hm:okN m)(ho:onB g h m n=true):onB h g n m=true:=by
 obtain ⟨a,b,h4,h5,h6,h7⟩:=on_parts ho;obtain ⟨k4,k5,k6,k7,_,_,_,k⟩:=kd_back hm a;exact on_of k b.symm (fun q=>h5 (k4 q)) (fun q=>h4 (k5 q)) (fun q=>h7 (k6 q)) (fun q=>h6 (k7 q))
theorem fail_turn{g h:List Nd}(hg:GN g)(hh:GN h){p:Pc}(hp:okC g h p):failC h g (swP p)=failC g h p:=by
 have e:onB h g (nodeAt h p.2) (nodeAt g p.1)=onB g h (nodeAt g p.1) (nodeAt h p.2):=by
  cases h1:onB g h (nodeAt g p.1) (nodeAt h p.2) with
  | true=>exact on_turn (hg.at_ hp.1) h1
  | false =>
   cases h2:onB h g (nodeAt h p.2) (nodeAt g p.1) with
   | false=>rfl
   | true=>rw [on_turn (hh.at_ hp.2) h2]at h1;cases h1
 show (!onB h g (nodeAt h p.2) (nodeAt g p.1)) = !onB g h (nodeAt g p.1) (nodeAt h p.2)
 rw [e]
def comL(a b:List ByteArray):List ByteArray:=a.filter fun l=>hasN b l
theorem com_turn{a b:List ByteArray}(ha:rises a)(hb:rises b):comL a b=comL b a:=by
 refine rises_ext (List.Pairwise.filter _ ha) (List.Pairwise.filter _ hb) fun x=>?_
 unfold comL;rw [List.mem_filter,List.mem_filter,hasN_iff,hasN_iff];exact And.comm
theorem lab_com{m n:Nd}(hm:rises m.labs):(List.range m.labs.length).filterMap (labSc m n)=(comL m.labs n.labs).map fun l=>(l,toAt m (idxB m.labs l),toAt n (idxB n.labs l)):=by
 have key:∀(l2:List ByteArray) (k:Nat),(∀x,x<l2.length→m.labs[k+x]? = l2[x]?)→(List.range' k l2.length).filterMap (labSc m n)=(comL l2 n.labs).map fun l=>(l,toAt m (idxB m.labs l),toAt n (idxB n.labs l)):=by
  intro l2;induction l2 with
  | nil=>intro k _;rfl
  | cons l l2 ih =>
   intro k h;have h0:m.labs[k]? = some l:=by have:=h 0 (by simp);simpa using this
   have ih':=ih (k+1) (fun x hx=>by have:=h (x+1) (by simpa using hx);rw [show k+(x+1)=k+1+x by omega]at this;simpa using this)
   have el:labAtN m k=l:=by unfold labAtN;rw [h0];rfl
   have ei:=idx_rises hm h0;rw [List.length_cons,List.range'_succ,List.filterMap_cons];have e1:labSc m n k=if hasN n.labs l=true then some (l,toAt m k,toAt n (idxB n.labs l)) else none:=by unfold labSc;rw [el]
   rw [e1];unfold comL;rw [List.filter_cons];by_cases hb:hasN n.labs l=true
   ·rw [if_pos hb,if_pos hb,List.map_cons,ei]
    simp only;rw [ih'];rfl
   ·rw [if_neg hb,if_neg hb]
    simp only;rw [ih'];rfl
 have:=key m.labs 0 (fun x _=>by rw [Nat.zero_add])
 rw [← List.range_eq_range']at this;exact this
theorem next_turn{g h:List Nd}(hg:GN g)(hh:GN h){p:Pc}(hp:okC g h p)(hf:failC g h p=false):nextC h g (swP p)=(nextC g h p).map swS:=by
 obtain ⟨i,j⟩:=p;have om:=hg.at_ hp.1;have on:=hh.at_ hp.2;obtain ⟨a,_,_,_,_,_⟩:=on_parts (failC_on.1 hf);simp only at om on a;obtain ⟨k4,k5,k6,k7,k2,k3,k1,_⟩:=kd_back om a;have kt:=kd_turn om a;show stepsC (nodeAt h j) (nodeAt g i)=(stepsC (nodeAt g i) (nodeAt h j)).map swS
 unfold stepsC;by_cases c1:(nodeAt g i).kind=2∨(nodeAt g i).kind=3
 ·rw [if_pos c1,if_pos (show (nodeAt h j).kind=2∨(nodeAt h j).kind=3 by omega)];rfl
 rw [if_neg c1,if_neg (show ¬((nodeAt h j).kind=2∨(nodeAt h j).kind=3) by omega)]
 by_cases c2:(nodeAt g i).kind=4∨(nodeAt g i).kind=5
 ·rw [if_pos c2,if_pos (show (nodeAt h j).kind=4∨(nodeAt h j).kind=5 by omega)];rfl
 rw [if_neg c2,if_neg (show ¬((nodeAt h j).kind=4∨(nodeAt h j).kind=5) by omega)]
 rw [lab_com (okN_rises om),lab_com (okN_rises on),com_turn (okN_rises on) (okN_rises om),List.map_map];rfl
theorem pl_turn(arr:List (Ag Pc)):plG (arr.map swA)=(plG arr).map swP:=by
 unfold plG;rw [List.map_map,List.map_map];rfl
theorem add_turn(arr:List (Ag Pc))(s:Sg Pc)(k:Nat):addG (arr.map swA) (swS s) k=(addG arr s k).map swA:=by
 unfold addG;rw [pl_turn];have e:(swS s).2∈(plG arr).map swP↔s.2∈plG arr:=by
  rw [List.mem_map];constructor
  ·rintro ⟨q,hq,e⟩
   rw [← swP_inj e];exact hq
  ·intro hq;exact ⟨s.2,hq,rfl⟩
 by_cases hm:s.2∈plG arr
 ·rw [if_pos hm,if_pos (e.2 hm)]
 ·rw [if_neg hm,if_neg (fun q=>hm (e.1 q)),List.map_append];rfl
theorem on_turnG(k:Nat):∀(ss:List (Sg Pc)) (arr:List (Ag Pc)),(ss.map swS).foldl (fun a s=>addG a s k) (arr.map swA)=(ss.foldl (fun a s=>addG a s k) arr).map swA
 | [],_=>rfl
 | s::ss,arr=>by
  rw [List.map_cons,List.foldl_cons,List.foldl_cons,add_turn];exact on_turnG k ss _
theorem onG_ok{g h:List Nd}(hg:GN g)(hh:GN h){k:Nat}{arr:List (Ag Pc)}{p:Pc}(hp:okC g h p)(hf:failC g h p=false)(ha:∀p∈plG arr,okC g h p):∀q∈plG (onG (nextC g h) k arr p),okC g h q:=by
 have key:∀(ss:List (Sg Pc)) (arr:List (Ag Pc)),(∀s∈ss,okC g h s.2)→(∀p∈plG arr,okC g h p)→∀q∈plG (ss.foldl (fun a s=>addG a s k) arr),okC g h q:=by
  intro ss;induction ss with
  | nil=>intro arr _ ha;exact ha
  | cons s ss ih =>
   intro arr hs ha;rw [List.foldl_cons];refine ih _ (fun t ht=>hs t (.tail _ ht)) fun q hq=>?_
   rcases (addG_mem arr s k q).1 hq with hq|rfl
   ·exact ha q hq
   ·exact hs s (.head _)
 exact key _ _ (fun s hs=>(comply_wld hg hh).step p hp hf s hs) ha
theorem sr_turn{g h:List Nd}(hg:GN g)(hh:GN h):∀(f k:Nat) (arr:List (Ag Pc)),(∀p∈plG arr,okC g h p)→srG (failC h g) (nextC h g) f k (arr.map swA)=((srG (failC g h) (nextC g h) f k arr).1,(srG (failC g h) (nextC g h) f k arr).2.map swA)
 | 0,_,_,_=>rfl
 | f+1,k,arr,ha=>by
  by_cases hk:k<arr.length
  ·have hv:arr[k]? = some arr[k]:=List.getElem?_eq_getElem hk
   have hv':(arr.map swA)[k]? = some (swA arr[k]):=by rw [List.getElem?_map,hv];rfl
   have hp:okC g h arr[k].1.2:=ha _ (List.mem_map.2 ⟨arr[k],List.getElem_mem hk,rfl⟩);have hft:failC h g (swA arr[k]).1.2=failC g h arr[k].1.2:=fail_turn hg hh hp;cases hf:failC g h arr[k].1.2 with
   | true=>rw [srG_fail hv hf,srG_fail hv' (hft.trans hf)]
   | false =>
    rw [srG_go hv hf,srG_go hv' (hft.trans hf)];have e:onG (nextC h g) k (arr.map swA) (swA arr[k]).1.2=(onG (nextC g h) k arr arr[k].1.2).map swA:=by
     unfold onG;have:=next_turn hg hh hp hf;rw [show (swA arr[k]).1.2=swP arr[k].1.2 from rfl,this]
     exact on_turnG k _ _
    rw [e];exact sr_turn hg hh f (k+1) _ (onG_ok hg hh hp hf ha)
  ·rw [srG_stop (arr:=arr.map swA) (by rw [List.length_map];omega),srG_stop (arr:=arr) (by omega)]
theorem srC_turn{g h:List Nd}(hg:GN g)(hh:GN h):srC h g=((srC g h).1,(srC g h).2.map swA):=by
 have:=sr_turn hg hh (g.length*h.length) 0 [avG (0,0)] (fun p hp=>by
  have:p=(0,0):=by simpa [plG,avG] using hp
  subst this;exact ⟨hg.pos,hh.pos⟩)
 unfold srC srGA;rw [Nat.mul_comm h.length g.length];exact this
theorem ct_turn{g h:List Nd}(hg:GN g)(hh:GN h)(lg:g.length≤100)(lh:h.length≤100)(q:∀n,bl n (othG h) g 0 0):∀n,bl n (othG g) h 0 0 :=
 (comply_iff hh hg lg).1 (by rw [srC_turn hg hh];exact (comply_iff hg hh lh).2 q)
theorem comply_meet{g h f M:List Nd}(hg:GN g)(hh:GN h)(hf:GN f)(lg:g.length≤100)(lh:h.length≤100)(lf:f.length≤100)(lM:M.length≤100)(I:isBnd h f true M):(∀n,bl n (othG M) g 0 0)↔(∀n,bl n (othG h) g 0 0)∧∀n,bl n (othG f) g 0 0:=by
 constructor
 ·intro q
  refine ⟨fun k=>?_,fun k=>?_⟩
  ·exact bl_trans k _ _ _ _ _ _ ((bl_dual I.gn hh lM lh k 0 0 I.gn.pos hh.pos).2 ((blP_tt ..).1 (I.u1 k))) (q k)
  ·exact bl_trans k _ _ _ _ _ _ ((bl_dual I.gn hf lM lf k 0 0 I.gn.pos hf.pos).2 ((blP_tt ..).1 (I.u2 k))) (q k)
 ·rintro ⟨q1,q2⟩
  have r1:=ct_turn hg hh lg lh q1;have r2:=ct_turn hg hf lg lf q2;have hc:=oth_gn hg lg;refine ct_turn I.gn hg lM lg fun k=>?_
  exact (blP_tt ..).1 (I.lo _ hc 0 hc.pos (fun k=>(blP_tt ..).2 (r1 k)) (fun k=>(blP_tt ..).2 (r2 k)) k)
theorem comply_none{g h f:List Nd}(hg:GN g)(hh:GN h)(hf:GN f)(lg:g.length≤100)(lh:h.length≤100)(lf:f.length≤100)(N:noBnd h f true)(q1:∀n,bl n (othG h) g 0 0)(q2:∀n,bl n (othG f) g 0 0):False:=by
 have r1:=ct_turn hg hh lg lh q1;have r2:=ct_turn hg hf lg lf q2;have hc:=oth_gn hg lg;exact N _ hc 0 hc.pos (fun k=>(blP_tt ..).2 (r1 k)) (fun k=>(blP_tt ..).2 (r2 k))
theorem le100{t:Ty}{g:List Nd}(h:OFG t g):g.length≤100:=by have:=h.le;omega
theorem complyMeet_law(ds dt du:Nat)(s t u:Ty)(sal:OAd)(scl:Nat)(sak:OAd)(sck:Nat)(al:OAd)(cl:Nat)(ak:OAd)(ck:Nat)(ual:OAd)(ucl:Nat)(uak:OAd)(uck:Nat)(w:World)(hs1:TyBd s scl sck)(hs2:LA w w.heap.size s.labels sal)(hs3:KT w w.heap.size ds s.kids sak)(ht1:TyBd t cl ck)(ht2:LA w w.heap.size t.labels al)(ht3:KT w w.heap.size dt t.kids ak)(hu1:TyBd u ucl uck)(hu2:LA w w.heap.size u.labels ual)(hu3:KT w w.heap.size du u.kids uak):
  Calls Tryz.prog 3 #[tyVal s sal scl sak sck,tyVal t al cl ak ck,tyVal u ual ucl uak uck] w fun e w'=>e = .returned (.bool true)∧Below w.heap.size w w':=by
 have Q:=hideK (BX3.new w s sal scl sak sck t al cl ak ck u ual ucl uak uck);have CE:=hideK (fun (W:World) (_:Below w.heap.size w W)=>doEnd W)
 have C1:=hideK (fun (W:World) (hb:Below w.heap.size w W)=>do_any ds dt s t sal scl sak sck al cl ak ck W hs1 ((hs2.keep hb).mono hb.size) ((hs3.keep hb).mono hb.size) ht1 ((ht2.keep hb).mono hb.size) ((ht3.keep hb).mono hb.size))
 have C2:=hideK (fun (W:World) (hb:Below w.heap.size w W)=>do_any ds du s u sal scl sak sck ual ucl uak uck W hs1 ((hs2.keep hb).mono hb.size) ((hs3.keep hb).mono hb.size) hu1 ((hu2.keep hb).mono hb.size) ((hu3.keep hb).mono hb.size))
 have CM:=hideK (fun (W:World) (hb:Below w.heap.size w W)=>meet_any dt du t u al cl ak ck ual ucl uak uck W ht1 ((ht2.keep hb).mono hb.size) ((ht3.keep hb).mono hb.size) hu1 ((hu2.keep hb).mono hb.size) ((hu3.keep hb).mono hb.size))
 have C4:=hideK (fun (d:Nat) (x:Ty) (xal:OAd) (xcl:Nat) (xak:OAd) (xck:Nat) (W:World) (hb:Below w.heap.size w W) (hx1:TyBd x xcl xck) (hx2:LA W W.heap.size x.labels xal) (hx3:KT W W.heap.size d x.kids xak)=>do_any ds d s x sal scl sak sck xal xcl xak xck W hs1 ((hs2.keep hb).mono hb.size) ((hs3.keep hb).mono hb.size) hx1 hx2 hx3)
 simp only [tyVal]at C1 C2 CM C4 ⊢;clear hs1 hs2 hs3 ht1 ht2 ht3 hu1 hu2 hu3;by_cases hz:chkTy s≠0
 ·obtain ⟨x0,x1,x2,x3,x4⟩:=Q.out.x
  obtain ⟨y0,y1,y2,y3,y4⟩:=Q.out.y;obtain ⟨z0,z1,z2,z3,z4⟩:=Q.out.z;simp only [Nat.zero_add]at x1 x2 x3 x4 y1 y2 y3 y4 z1 z2 z3 z4;go_enter Tryz.func3,Tryz.ntmps3
  go_wp2_with fail
  refine (CE.out _ Q.out.bl).mono ?_;rintro e w1 ⟨rfl,hb⟩;replace Q:=hideK (Q.out.keep hb);clear hb;clear x0 x1 x2 x3 x4 y0 y1 y2 y3 y4 z0 z1 z2 z3 z4;obtain ⟨x0,x1,x2,x3,x4⟩:=Q.out.x;obtain ⟨y0,y1,y2,y3,y4⟩:=Q.out.y;obtain ⟨z0,z1,z2,z3,z4⟩:=Q.out.z;simp only [Nat.zero_add]at x1 x2 x3 x4 y1 y2 y3 y4 z1 z2 z3 z4;go_wp2_with fail
  refine (doBad (.inl hz) (C1.out _ Q.out.bl)).mono ?_;rintro e w2 ⟨⟨zq,h1,rfl⟩,hb⟩;replace Q:=hideK (Q.out.keep hb);clear hb;clear x0 x1 x2 x3 x4 y0 y1 y2 y3 y4 z0 z1 z2 z3 z4;obtain ⟨x0,x1,x2,x3,x4⟩:=Q.out.x;obtain ⟨y0,y1,y2,y3,y4⟩:=Q.out.y;obtain ⟨z0,z1,z2,z3,z4⟩:=Q.out.z;simp only [Nat.zero_add]at x1 x2 x3 x4 y1 y2 y3 y4 z1 z2 z3 z4;have h1b:(zq != 0)=true:=by simpa using h1
  clear h1;go_wp2_with fail
  refine (doSome (C2.out _ Q.out.bl)).mono ?_;rintro e w3 ⟨⟨bx,zx,rfl⟩,hb⟩;replace Q:=hideK (Q.out.keep hb);clear hb;clear x0 x1 x2 x3 x4 y0 y1 y2 y3 y4 z0 z1 z2 z3 z4;go_wp2_with fail
  go_ret
  exact ⟨rfl,Q.out.bl⟩
 ·have hzs:chkTy s=0:=Classical.byContradiction hz
  obtain ⟨g,hg⟩:=OFG_ex hzs;clear hz hzs;by_cases hz:chkTy t≠0
  ·obtain ⟨x0,x1,x2,x3,x4⟩:=Q.out.x
   obtain ⟨y0,y1,y2,y3,y4⟩:=Q.out.y;obtain ⟨z0,z1,z2,z3,z4⟩:=Q.out.z;simp only [Nat.zero_add]at x1 x2 x3 x4 y1 y2 y3 y4 z1 z2 z3 z4;go_enter Tryz.func3,Tryz.ntmps3
   go_wp2_with fail
   refine (CE.out _ Q.out.bl).mono ?_;rintro e w4 ⟨rfl,hb⟩;replace Q:=hideK (Q.out.keep hb);clear hb;clear x0 x1 x2 x3 x4 y0 y1 y2 y3 y4 z0 z1 z2 z3 z4;obtain ⟨x0,x1,x2,x3,x4⟩:=Q.out.x;obtain ⟨y0,y1,y2,y3,y4⟩:=Q.out.y;obtain ⟨z0,z1,z2,z3,z4⟩:=Q.out.z;simp only [Nat.zero_add]at x1 x2 x3 x4 y1 y2 y3 y4 z1 z2 z3 z4;go_wp2_with fail
   refine (doBad (.inr hz) (C1.out _ Q.out.bl)).mono ?_;rintro e w5 ⟨⟨zq,h1,rfl⟩,hb⟩;replace Q:=hideK (Q.out.keep hb);clear hb;clear x0 x1 x2 x3 x4 y0 y1 y2 y3 y4 z0 z1 z2 z3 z4;obtain ⟨x0,x1,x2,x3,x4⟩:=Q.out.x;obtain ⟨y0,y1,y2,y3,y4⟩:=Q.out.y;obtain ⟨z0,z1,z2,z3,z4⟩:=Q.out.z;simp only [Nat.zero_add]at x1 x2 x3 x4 y1 y2 y3 y4 z1 z2 z3 z4;have h1b:(zq != 0)=true:=by simpa using h1
   clear h1;go_wp2_with fail
   refine (doSome (C2.out _ Q.out.bl)).mono ?_;rintro e w6 ⟨⟨bx,zx,rfl⟩,hb⟩;replace Q:=hideK (Q.out.keep hb);clear hb;clear x0 x1 x2 x3 x4 y0 y1 y2 y3 y4 z0 z1 z2 z3 z4;go_wp2_with fail
   go_ret
   exact ⟨rfl,Q.out.bl⟩
  ·have hzt:chkTy t=0:=Classical.byContradiction hz
   obtain ⟨h,hh⟩:=OFG_ex hzt;clear hz hzt;by_cases hz:chkTy u≠0
   ·obtain ⟨x0,x1,x2,x3,x4⟩:=Q.out.x
    obtain ⟨y0,y1,y2,y3,y4⟩:=Q.out.y;obtain ⟨z0,z1,z2,z3,z4⟩:=Q.out.z;simp only [Nat.zero_add]at x1 x2 x3 x4 y1 y2 y3 y4 z1 z2 z3 z4;go_enter Tryz.func3,Tryz.ntmps3
    go_wp2_with fail
    refine (CE.out _ Q.out.bl).mono ?_;rintro e w7 ⟨rfl,hb⟩;replace Q:=hideK (Q.out.keep hb);clear hb;clear x0 x1 x2 x3 x4 y0 y1 y2 y3 y4 z0 z1 z2 z3 z4;obtain ⟨x0,x1,x2,x3,x4⟩:=Q.out.x;obtain ⟨y0,y1,y2,y3,y4⟩:=Q.out.y;obtain ⟨z0,z1,z2,z3,z4⟩:=Q.out.z;simp only [Nat.zero_add]at x1 x2 x3 x4 y1 y2 y3 y4 z1 z2 z3 z4;go_wp2_with fail
    refine (doGood hg.chk hh.chk (C1.out _ Q.out.bl)).mono ?_;rintro e w8 ⟨⟨b1,rfl,-⟩,hb⟩;replace Q:=hideK (Q.out.keep hb);clear hb;clear x0 x1 x2 x3 x4 y0 y1 y2 y3 y4 z0 z1 z2 z3 z4;obtain ⟨x0,x1,x2,x3,x4⟩:=Q.out.x;obtain ⟨y0,y1,y2,y3,y4⟩:=Q.out.y;obtain ⟨z0,z1,z2,z3,z4⟩:=Q.out.z;simp only [Nat.zero_add]at x1 x2 x3 x4 y1 y2 y3 y4 z1 z2 z3 z4;go_wp2_with fail
    refine (doBad (.inr hz) (C2.out _ Q.out.bl)).mono ?_;rintro e w9 ⟨⟨zq,h1,rfl⟩,hb⟩;replace Q:=hideK (Q.out.keep hb);clear hb;clear x0 x1 x2 x3 x4 y0 y1 y2 y3 y4 z0 z1 z2 z3 z4;have h1b:(zq != 0)=true:=by simpa using h1
    clear h1;go_wp2_with fail
    go_ret
    exact ⟨rfl,Q.out.bl⟩
   ·have hzu:chkTy u=0:=Classical.byContradiction hz
    obtain ⟨f,hf⟩:=OFG_ex hzu;clear hz hzu;obtain ⟨x0,x1,x2,x3,x4⟩:=Q.out.x;obtain ⟨y0,y1,y2,y3,y4⟩:=Q.out.y;obtain ⟨z0,z1,z2,z3,z4⟩:=Q.out.z;simp only [Nat.zero_add]at x1 x2 x3 x4 y1 y2 y3 y4 z1 z2 z3 z4;go_enter Tryz.func3,Tryz.ntmps3
    go_wp2_with fail
    refine (CE.out _ Q.out.bl).mono ?_;rintro e w10 ⟨rfl,hb⟩;replace Q:=hideK (Q.out.keep hb);clear hb;clear x0 x1 x2 x3 x4 y0 y1 y2 y3 y4 z0 z1 z2 z3 z4;obtain ⟨x0,x1,x2,x3,x4⟩:=Q.out.x;obtain ⟨y0,y1,y2,y3,y4⟩:=Q.out.y;obtain ⟨z0,z1,z2,z3,z4⟩:=Q.out.z;simp only [Nat.zero_add]at x1 x2 x3 x4 y1 y2 y3 y4 z1 z2 z3 z4;go_wp2_with fail
    refine (doGood hg.chk hh.chk (C1.out _ Q.out.bl)).mono ?_;rintro e w11 ⟨⟨b1,rfl,hb1⟩,hb⟩;replace Q:=hideK (Q.out.keep hb);clear hb;clear x0 x1 x2 x3 x4 y0 y1 y2 y3 y4 z0 z1 z2 z3 z4;obtain ⟨x0,x1,x2,x3,x4⟩:=Q.out.x;obtain ⟨y0,y1,y2,y3,y4⟩:=Q.out.y;obtain ⟨z0,z1,z2,z3,z4⟩:=Q.out.z;simp only [Nat.zero_add]at x1 x2 x3 x4 y1 y2 y3 y4 z1 z2 z3 z4;have HB1:=hideK (hb1.trans (CT_iff hg hh));clear hb1;go_wp2_with fail
    refine (doGood hg.chk hf.chk (C2.out _ Q.out.bl)).mono ?_;rintro e w12 ⟨⟨b2,rfl,hb2⟩,hb⟩;replace Q:=hideK (Q.out.keep hb);clear hb;clear x0 x1 x2 x3 x4 y0 y1 y2 y3 y4 z0 z1 z2 z3 z4;obtain ⟨x0,x1,x2,x3,x4⟩:=Q.out.x;obtain ⟨y0,y1,y2,y3,y4⟩:=Q.out.y;obtain ⟨z0,z1,z2,z3,z4⟩:=Q.out.z;simp only [Nat.zero_add]at x1 x2 x3 x4 y1 y2 y3 y4 z1 z2 z3 z4;have HB2:=hideK (hb2.trans (CT_iff hg hf));clear hb2;go_wp2_with fail
    refine (jmGood hh hf (CM.out _ Q.out.bl)).mono ?_;rintro e w13 ⟨⟨am,nm,cm,zm,rfl,hM⟩,hb⟩;replace Q:=hideK (Q.out.keep hb);clear hb;clear x0 x1 x2 x3 x4 y0 y1 y2 y3 y4 z0 z1 z2 z3 z4;rcases hM.three hh.gn hf.gn with ⟨rfl,rfl,rfl,hN⟩|⟨rfl,rfl,rfl⟩|⟨rfl,M,hI,hS,rfl,hG⟩
    ·have HN:=hideK hN
     clear hN hM;cases b1
     ·go_wp2_with fail
      go_ret
      exact ⟨rfl,Q.out.bl⟩
     ·cases b2
      ·go_wp2_with fail
       go_ret
       exact ⟨rfl,Q.out.bl⟩
      ·exact (comply_none hg.gn hh.gn hf.gn (le100 hg) (le100 hh) (le100 hf) HN.out (HB1.out.1 (by trivial)) (HB2.out.1 (by trivial))).elim
    ·clear hM
     go_wp2_with fail
     go_ret
     exact ⟨rfl,Q.out.bl⟩
    ·have HI:=hideK hI
     have HS:=hideK hS;have cB:=backKeep_any M hS.gn am cm _ _ hG (Nat.le_refl _);clear hI hS hM hG;unfold BOPost at cB;have HOF:=hideK (fun (q:(backP M).2.2≤60)=>back_of HS.out q)
     go_wp2_with fail
     refine cB.mono ?_;rintro e w9 ⟨hor,hb⟩;replace Q:=hideK (Q.out.keep hb);clear hb cB;rcases hor with ⟨hq,t9,al9,cl9,ak9,ck9,rfl⟩|⟨hq,al9,cl9,ak9,ck9,d9,rfl,hd1,hd2,hd3⟩
     ·replace Q:=hideK (Q.out.keep ((Below.refl w9.heap.size w9).alloc (Nat.le_refl _) (.cells #[.int .i64 t9.kind,.int .i64 t9.so,.string t9.name,.slice al9 t9.labels.length cl9,.slice ak9 t9.kids.length ck9] 25)))
      clear hq;simp only [tyVal];go_wp2_with fail
      go_ret
      exact ⟨rfl,Q.out.bl⟩
     ·have hx:=HOF.out hq
      have hbA:Below w9.heap.size w9 (w9.alloc (.cells #[.int .i64 (backP M).1.kind,.int .i64 (backP M).1.so,.string (backP M).1.name,.slice al9 (backP M).1.labels.length cl9,.slice ak9 (backP M).1.kids.length ck9] 25)):=(Below.refl _ _).alloc (Nat.le_refl _) _;replace Q:=hideK (Q.out.keep hbA);have cD:=doGood hg.chk hx.chk (C4.out d9 (backP M).1 al9 cl9 ak9 ck9 _ Q.out.bl hd1 ((hd2.keep hbA).mono hbA.size) ((hd3.keep hbA).mono hbA.size));have HX:=hideK hx;have HCM:=hideK (comply_meet hg.gn hh.gn hf.gn (le100 hg) (le100 hh) (le100 hf) (le100 hx) HI.out);clear hx HOF;simp only [tyVal]at cD ⊢;generalize (backP M).1=bd at *;obtain ⟨x0,x1,x2,x3,x4⟩:=Q.out.x;obtain ⟨y0,y1,y2,y3,y4⟩:=Q.out.y;obtain ⟨z0,z1,z2,z3,z4⟩:=Q.out.z;simp only [Nat.zero_add]at x1 x2 x3 x4 y1 y2 y3 y4 z1 z2 z3 z4;clear hbA hd1 hd2 hd3 hq;go_wp2_with fail
      refine cD.mono ?_;rintro e wB ⟨⟨b3,rfl,hb3⟩,hbB⟩;replace Q:=hideK (Q.out.keep hbB);have hb4:b3=(b1 && b2):=by
       have k:=hb3.trans ((CT_iff hg HX.out).trans HCM.out);have k1:=HB1.out;have k2:=HB2.out;cases b1 <;> cases b2 <;> cases b3 <;> simp_all
      subst hb4;clear hbB hb3 cD HB1 HB2 HCM;clear x0 x1 x2 x3 x4 y0 y1 y2 y3 y4 z0 z1 z2 z3 z4;cases b1 <;> cases b2
      ·go_wp2_with fail
       go_ret
       exact ⟨rfl,Q.out.bl⟩
      ·go_wp2_with fail
       go_ret
       exact ⟨rfl,Q.out.bl⟩
      ·go_wp2_with fail
       go_ret
       exact ⟨rfl,Q.out.bl⟩
      ·go_wp2_with fail
       go_ret
       exact ⟨rfl,Q.out.bl⟩
end Go.Proofs.YtnedgkcejlhnbaaGreatDoor
