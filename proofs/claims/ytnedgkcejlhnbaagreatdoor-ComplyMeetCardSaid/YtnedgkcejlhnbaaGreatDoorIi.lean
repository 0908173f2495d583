/-
  The contracts of graph.lay, laid, Of and Same, for every type.
-/
import Derived.Test.YtnedgkcejlhnbaaGreatDoorSz
import Derived.Test.YtnedgkcejlhnbaaGreatDoorHt
import Derived.Test.YtnedgkcejlhnbaaGreatDoorZc
import Derived.Test.YtnedgkcejlhnbaaGreatDoorIf
set_option maxRecDepth 100000
set_option maxHeartbeats 4000000
namespace Go.Proofs.YtnedgkcejlhnbaaGreatDoor
open Go.RowKit Go.Shelf
theorem lay_all(d:Nat):LYSaid d:=by
 induction d using Nat.strongRecOn with
 | _ d ih =>
  intro t al cl ak ck ar aa ca pg u toks B w hbd hla hkt hw hm hp hB hs1 hs2;obtain ⟨hpt,hwk⟩:=(wfT_eq t).1 hw;have hpos:=sizeT_eq t;by_cases h9:t.kind=9
  ·exact lay_var t al cl ak ck ar aa ca pg u toks B w hm hp (by omega) h9
  by_cases h8:t.kind=8
  ·obtain ⟨q,hq⟩:=part_rec hpt h8
   cases d with
   | zero=>have e:t.kids=[]:=hkt;rw [e]at hq;cases hq
   | succ d =>
    rcases hkt with e|⟨b,o,rfl,hb,hc⟩
    ·rw [e]at hq;cases hq
    ·obtain ⟨a1,c1,a2,c2,h1,h2,h3,h4⟩:=hc 0 (by rw [hq];exact Nat.one_pos)
     have e0:t.kids[0]'(by rw [hq];exact Nat.one_pos)=q:=by simp [hq]
     rw [e0]at h1 h2 h3 h4;exact lay_rec d (ih d (by omega)) t q al a1 cl c1 a2 ck c2 b (o+0*5) ar aa ca pg u toks B w h1 hb h2 h3 h4 (hwk q (by rw [hq];exact .head _)) hm hp hB hs1 hs2 h8 hq
  ·have h6:t.kids.length≤6:=by
    have:=(shp_len (part_shp hpt h9 h8 (t.kids.map fun _=>0) (by simp))).2.1
    simpa using this
   exact lay_node d ih t al cl ak ck ar aa ca pg u toks B w hla hkt hw hm hp hB hs1 hs2 h9 h8 h6
theorem laid_any(d:Nat)(t:Ty)(al:OAd)(cl:Nat)(ak:OAd)(ck:Nat)(w:World)(hbd:TyBd t cl ck)(hla:LA w w.heap.size t.labels al)(hkt:KT w w.heap.size d t.kids ak)(hw:wfT t)(hs:sizeT t≤60):
  Calls Tryz.prog 22 #[tyVal t al cl ak ck] w fun e w'=>(∃ag cg,e = .returned (.slice ag (layP t [] 0).2.length cg)∧GAt w' w'.heap.size (layP t [] 0).2 ag)∧Below w.heap.size w w':=by
 have hA:Below w.heap.size w (w.alloc (.cells #[.int .i64 t.kind,.int .i64 t.so,.string t.name,.slice al t.labels.length cl,.slice ak t.kids.length ck] 25)):=(Below.refl _ _).alloc (Nat.le_refl _) _;have hA2:Below w.heap.size w ((w.alloc (.cells #[.int .i64 t.kind,.int .i64 t.so,.string t.name,.slice al t.labels.length cl,.slice ak t.kids.length ck] 25)).alloc (.cells #[.slice none 0 0] 29)):=hA.alloc hA.size _;have hp:PG ((w.alloc (.cells #[.int .i64 t.kind,.int .i64 t.so,.string t.name,.slice al t.labels.length cl,.slice ak t.kids.length ck] 25)).alloc (.cells #[.slice none 0 0] 29)) (w.heap.size+1) (.slice none 0 0) []:=⟨by go_cell,by go_simp,World.ownsRow_nil _ _ _ _,by simp⟩
 have c:=lay_all d t al cl ak ck [] none 0 (w.heap.size+1) (.slice none 0 0) [] w.heap.size ((w.alloc (.cells #[.int .i64 t.kind,.int .i64 t.so,.string t.name,.slice al t.labels.length cl,.slice ak t.kids.length ck] 25)).alloc (.cells #[.slice none 0 0] 29)) hbd (hla.keep hA2) (hkt.keep hA2) hw (.inl ⟨rfl,rfl,rfl⟩) hp (by omega) (by simp;omega) (by simp;omega)
 have HA2:=hideK hA2;unfold LYPost at c;simp only [tyVal,List.length_nil]at c ⊢;clear hbd hla hkt hw hA hA2 hp;go_enter Tryz.func22,Tryz.ntmps22
 go_wp2_with fail
 refine c.mono ?_;rintro e w1 ⟨rfl,new,u,hn,hp1,ht1,hr1,_⟩;have hb1:Below w.heap.size w w1:=hr1.below HA2.out HA2.out.size (by omega) (by omega) (fun k hk=>by simp [Value.ownBlock]at hk)
 have hg:=gat_of (P:=fun b=>b<w1.heap.size) hp1.own (fun x hx=>⟨by
   have h1:=(ht1 x hx).1;exact h1.imp id fun ⟨b,o,e,hl,hc⟩=>⟨b,o,e,by have:=hb1.size;omega,hc⟩,by
   have h1:=(ht1 x hx).2;exact h1.imp id fun ⟨b,o,e,hl,hc⟩=>⟨b,o,e,hl.2.1,hc⟩⟩) (fun b hb=>hb)
 rw [List.nil_append,hn]at hg;obtain ⟨ag,cg,hu,hga⟩:=hg;have hl:new.length=(layP t [] 0).2.length:=by rw [← hn,List.length_map]
 rw [hl]at hu;have hc1:=hp1.c;subst hu;have HG:=hideK hga;have HB:=hideK hb1;clear hp1 ht1 hr1 hga hb1 hn c;go_wp2_with fail
 go_ret
 exact ⟨⟨_,_,rfl,HG.out⟩,HB.out⟩
def e0:ByteArray→Dn:=fun _ _=>tr0
theorem okN_to{n:Nd}(h:okN n)(f:Nat→Nat):okN ⟨n.kind,n.so,n.labs,n.to.map f⟩:=by
 unfold okN at h ⊢;rw [List.map_map];exact h
theorem least_gn{g:List Nd}{c:List Nat}(hg:GN g)(hc:CLS g c):GN (leastG g c)∧(∀k,gT (leastG g c) k 0=gT g k 0)∧(leastG g c).length≤g.length:=by
 obtain ⟨h1,h2,h3,h4⟩:=least_alike hg.shut hc hg.pos;refine ⟨⟨h3,Nat.le_trans h4 hg.le,fun n hn=>?_,h2⟩,h1,h4⟩
 obtain ⟨M,hI,_⟩:=lst_inv hg.shut hc g.length 0 [0] (RInv.start hg.pos) (Nat.zero_le _) (by omega)
 unfold leastG at hn;obtain ⟨i,hi,rfl⟩:=List.mem_map.1 hn;exact okN_to (hg.at_ (hI.lt i hi)) _
theorem lay_gn{t:Ty}(h:chkTy t=0):GN (layP t [] 0).2:=by
 obtain ⟨hg,_,_⟩:=chkTy_gd t h;obtain ⟨hw,hs⟩:=chkTy_good t h;have h1:=(lay_gr h).1;exact ⟨h1.pos,by have:=lay_size t hw [] 0;omega,lay_parts okN (fun t hp h9 h8 tos hl=>part_okN hp h9 h8 tos hl) t hg [] 0,h1.shut⟩
structure OFG(t:Ty)(g:List Nd):Prop where
 chk:chkTy t=0
 src:∃c,CLS (layP t [] 0).2 c∧g=leastG (layP t [] 0).2 c
theorem OFG.gn{t:Ty}{g:List Nd}(h:OFG t g):GN g:=by
 obtain ⟨c,hc,rfl⟩:=h.src;exact (least_gn (lay_gn h.chk) hc).1
theorem OFG.le{t:Ty}{g:List Nd}(h:OFG t g):g.length≤60:=by
 obtain ⟨c,hc,rfl⟩:=h.src;have h1:=(least_gn (lay_gn h.chk) hc).2.2;obtain ⟨hw,hs⟩:=chkTy_good t h.chk;have:=lay_size t hw [] 0;omega
theorem OFG.does{t:Ty}{g:List Nd}(h:OFG t g):∀k,gT g k 0=den t e0 k:=by
 obtain ⟨c,hc,rfl⟩:=h.src;intro k;rw [(least_gn (lay_gn h.chk) hc).2.1 k];have:=(lay_gr h.chk).2;unfold e0;rw [this]
theorem OFG.same{s t:Ty}{g h:List Nd}(hs:OFG s g)(ht:OFG t h):g=h↔den s e0=den t e0:=by
 have d1:=hs.does;have d2:=ht.does;obtain ⟨c,hc,rfl⟩:=hs.src;obtain ⟨c',hc',rfl⟩:=ht.src;have gs:=lay_gn hs.chk;have gt:=lay_gn ht.chk;constructor
 ·intro e
  funext k
  rw [← d1 k,← d2 k,e]
 ·intro e
  refine least_canon ⟨gs.shut,gt.shut,hc,hc'⟩ gs.pos gt.pos fun k=>?_
  rw [← (least_gn gs hc).2.1 k,← (least_gn gt hc').2.1 k,d1 k,d2 k,e]
def OFPost(t:Ty)(w:World)(e:Ending)(w':World):Prop :=
 ((chkTy t≠0∧e = .returned (.tuple #[.slice none 0 0,.int .i64 (chkTy t)]))∨(∃g ag cg,OFG t g∧e = .returned (.tuple #[.slice ag g.length cg,.int .i64 0])∧GAt w' w'.heap.size g ag))∧Below w.heap.size w w'
theorem of_any(d:Nat)(t:Ty)(al:OAd)(cl:Nat)(ak:OAd)(ck:Nat)(w:World)(hbd:TyBd t cl ck)(hla:LA w w.heap.size t.labels al)(hkt:KT w w.heap.size d t.kids ak):
  Calls Tryz.prog 11 #[tyVal t al cl ak ck] w (OFPost t w):=by
 have hA:Below w.heap.size w (w.alloc (.cells #[.int .i64 t.kind,.int .i64 t.so,.string t.name,.slice al t.labels.length cl,.slice ak t.kids.length ck] 25)):=(Below.refl _ _).alloc (Nat.le_refl _) _;have cC:=typesCheck_any d t al cl ak ck _ hbd (NAt.mono hA.size (NAt.keep hA hla)) (KT.mono hA.size (KT.keep hA hkt));have HA:=hideK hA;unfold OFPost;by_cases hz:chkTy t=0
 ·rw [hz]at cC
  obtain ⟨hw,hsz⟩:=chkTy_good t hz;have CW:=hideK (fun (W:World) (hb:Below w.heap.size w W)=>laid_any d t al cl ak ck W hbd ((hla.keep hb).mono hb.size) ((hkt.keep hb).mono hb.size) hw hsz)
  have CL:=hideK (fun (W:World) ag cg (hga:GAt W W.heap.size (layP t [] 0).2 ag)=>least_loop (layP t [] 0).2 ag cg W.heap.size W (lay_gn hz).gr hga (Nat.le_refl _))
  simp only [tyVal]at cC CW ⊢;have HZ:=hideK hz;clear hbd hla hkt hz hw hsz hA;go_enter Tryz.func11,Tryz.ntmps11
  go_wp2_with fail
  refine cC.mono ?_;rintro e w1 ⟨rfl,hb1⟩;obtain ⟨x0,x1,x2,x3,x4,hbw⟩:=keep5 hb1;have cW:=CW.out w1 hbw;have HB:=hideK hbw;clear cC CW hbw;go_wp2_with fail
  refine cW.mono ?_;rintro e w2 ⟨⟨ag,cg,rfl,hga⟩,hb2⟩;have cL:=CL.out w2 ag cg hga;have HB2:=hideK (HB.out.trans (hb2.mono HB.out.size));clear cW CL hga hb2;generalize hG:(layP t [] 0).2=G at *;go_wp2_with fail
  refine cL.mono ?_;rintro e w3 ⟨⟨c,hc,ao,co,rfl,hg3⟩,hb3⟩;have HB3:=hideK (HB2.out.trans (hb3.mono HB2.out.size));have HC:=hideK hc;have HG3:=hideK hg3;clear cL hc hg3 hb3;generalize hgl:leastG G c=g at *;go_wp2_with fail
  go_ret2
  exact ⟨.inr ⟨g,_,_,⟨HZ.out,c,by rw [hG];exact HC.out,by rw [hG];exact hgl.symm⟩,rfl,HG3.out⟩,HB3.out⟩
 ·have hzb:(chkTy t != 0)=true:=by simpa using hz
  simp only [tyVal]at cC ⊢;have HZ:=hideK hz;clear hbd hla hkt hz hA;generalize hgz:chkTy t=z at cC hzb ⊢;go_enter Tryz.func11,Tryz.ntmps11
  go_wp2_with fail
  refine cC.mono ?_;rintro e w1 ⟨rfl,hb1⟩;obtain ⟨x0,x1,x2,x3,x4,hbw⟩:=keep5 hb1;clear cC;go_wp2_with fail
  go_ret2
  exact ⟨.inl ⟨by rw [← hgz];exact HZ.out,rfl⟩,hbw⟩
def GOPost(s t:Ty)(w:World)(e:Ending)(w':World):Prop :=
 ((chkTy s≠0∧e = .returned (.tuple #[.slice none 0 0,.slice none 0 0,.int .i64 (chkTy s)]))∨(chkTy s=0∧chkTy t≠0∧e = .returned (.tuple #[.slice none 0 0,.slice none 0 0,.int .i64 (chkTy t)])) ∨
  (∃g h ag ah cg ch,OFG s g∧OFG t h∧e = .returned (.tuple #[.slice ag g.length cg,.slice ah h.length ch,.int .i64 0])∧GAt w' w'.heap.size g ag∧GAt w' w'.heap.size h ah))∧Below w.heap.size w w'
theorem graphsOf_any(ds dt:Nat)(s t:Ty)(sal:OAd)(scl:Nat)(sak:OAd)(sck:Nat)(al:OAd)(cl:Nat)(ak:OAd)(ck:Nat)(w:World)(hs1:TyBd s scl sck)(hs2:LA w w.heap.size s.labels sal)(hs3:KT w w.heap.size ds s.kids sak)(ht1:TyBd t cl ck)(ht2:LA w w.heap.size t.labels al)(ht3:KT w w.heap.size dt t.kids ak):
  Calls Tryz.prog 8 #[tyVal s sal scl sak sck,tyVal t al cl ak ck] w (GOPost s t w):=by
 unfold GOPost;have hA:Below w.heap.size w ((w.alloc (.cells #[.int .i64 s.kind,.int .i64 s.so,.string s.name,.slice sal s.labels.length scl,.slice sak s.kids.length sck] 25)).alloc (.cells #[.int .i64 t.kind,.int .i64 t.so,.string t.name,.slice al t.labels.length cl,.slice ak t.kids.length ck] 25)):=((Below.refl _ _).alloc (Nat.le_refl _) _).alloc (by simp) _
 have hsz:((w.alloc (.cells #[.int .i64 s.kind,.int .i64 s.so,.string s.name,.slice sal s.labels.length scl,.slice sak s.kids.length sck] 25)).alloc (.cells #[.int .i64 t.kind,.int .i64 t.so,.string t.name,.slice al t.labels.length cl,.slice ak t.kids.length ck] 25)).heap.size=w.heap.size+1+1:=by simp
 have bs:TyAt ((w.alloc (.cells #[.int .i64 s.kind,.int .i64 s.so,.string s.name,.slice sal s.labels.length scl,.slice sak s.kids.length sck] 25)).alloc (.cells #[.int .i64 t.kind,.int .i64 t.so,.string t.name,.slice al t.labels.length cl,.slice ak t.kids.length ck] 25)) w.heap.size 0 s sal scl sak sck:=⟨by go_cell,by go_cell,by go_cell,by go_cell,by go_cell⟩
 have bt:TyAt ((w.alloc (.cells #[.int .i64 s.kind,.int .i64 s.so,.string s.name,.slice sal s.labels.length scl,.slice sak s.kids.length sck] 25)).alloc (.cells #[.int .i64 t.kind,.int .i64 t.so,.string t.name,.slice al t.labels.length cl,.slice ak t.kids.length ck] 25)) (w.heap.size+1) 0 t al cl ak ck:=⟨by go_cell,by go_cell,by go_cell,by go_cell,by go_cell⟩
 have CS:=hideK (fun (W:World) (hb:Below w.heap.size w W)=>of_any ds s sal scl sak sck W hs1 ((hs2.keep hb).mono hb.size) ((hs3.keep hb).mono hb.size))
 have CT:=hideK (fun (W:World) (hb:Below w.heap.size w W)=>of_any dt t al cl ak ck W ht1 ((ht2.keep hb).mono hb.size) ((ht3.keep hb).mono hb.size))
 have HA:=hideK hA;have HBS:=hideK bs;have HBT:=hideK bt;have HSZ:=hideK hsz;simp only [tyVal]at CS CT ⊢;unfold OFPost at CS CT;clear hs1 hs2 hs3 ht1 ht2 ht3 hA hsz;obtain ⟨y0,y1,y2,y3,y4⟩:=bt;obtain ⟨x0,x1,x2,x3,x4⟩:=bs;simp only [Nat.zero_add]at x1 x2 x3 x4 y1 y2 y3 y4;go_enter Tryz.func8,Tryz.ntmps8
 go_wp2_with fail
 refine (CS.out _ HA.out).mono ?_;rintro e w1 ⟨hor,hb1⟩;have HB1:=hideK (HA.out.trans (hb1.mono (by rw [HSZ.out];omega)))
 have bt1:=HBT.out.keep hb1 (by rw [HSZ.out];omega)
 obtain ⟨z0,z1,z2,z3,z4⟩:=bt1;simp only [Nat.zero_add]at z1 z2 z3 z4;clear x0 x1 x2 x3 x4 y0 y1 y2 y3 y4 hb1 CS;rcases hor with ⟨hz,rfl⟩|⟨g,ag,cg,hof,rfl,hga⟩
 ·have hzb:(chkTy s != 0)=true:=by simpa using hz
  have HZ:=hideK hz;clear hz;go_wp2_with fail
  go_ret3
  exact ⟨.inl ⟨HZ.out,rfl⟩,HB1.out⟩
 ·have HOF:=hideK hof
  have HGA:=hideK hga;clear hof hga;go_wp2_with fail
  refine (CT.out _ HB1.out).mono ?_;rintro e w2 ⟨hor,hb2⟩;have HB2:=hideK (HB1.out.trans (hb2.mono HB1.out.size));have HGA2:=hideK (HGA.out.keep hb2);have HLE:=hideK hb2.size;clear z0 z1 z2 z3 z4 CT hb2;rcases hor with ⟨hz,rfl⟩|⟨h,ah,ch,hof,rfl,hha⟩
  ·have hzb:(chkTy t != 0)=true:=by simpa using hz
   have HZ:=hideK hz;clear hz;go_wp2_with fail
   go_ret3
   exact ⟨.inr (.inl ⟨HOF.out.chk,HZ.out,rfl⟩),HB2.out⟩
  ·have HOF2:=hideK hof
   have HHA:=hideK hha;clear hof hha;go_wp2_with fail
   go_ret3
   exact ⟨.inr (.inr ⟨g,h,ag,ah,cg,ch,HOF.out,HOF2.out,rfl,HGA2.out.mono HLE.out,HHA.out⟩),HB2.out⟩
theorem failsItself_any(m n:Nd)(a1 a2 a3 a4:OAd)(c1 c2 c3 c4 B:Nat)(w:World)(h1:LA w B m.labs a1)(h3:LA w B n.labs a3)(hB:B≤w.heap.size)(l1:m.labs.length≤1000)(l3:n.labs.length≤1000):
  Calls Tryz.prog 89 #[ndVal m a1 c1 a2 c2,ndVal n a3 c3 a4 c4] w fun e w'=>e = .returned (.bool (failB m n))∧Below w.heap.size w w':=by
 have cA:=hideK (fun W (hb:Below w.heap.size w W)=>hasAll_any m.labs n.labs a1 c1 a3 c3 B W (h1.keep (hb.mono hB)) (h3.keep (hb.mono hB)) (Nat.le_trans hB hb.size) l1 l3)
 have cB:=hideK (fun W (hb:Below w.heap.size w W)=>hasAll_any n.labs m.labs a3 c3 a1 c1 B W (h3.keep (hb.mono hB)) (h1.keep (hb.mono hB)) (Nat.le_trans hB hb.size) l3 l1)
 have E0:=hideK (EB.new w m n a1 a2 a3 a4 c1 c2 c3 c4);obtain ⟨x0,x1,x2,x3⟩:=E0.out.x;obtain ⟨y0,y1,y2,y3⟩:=E0.out.y;simp only [Nat.zero_add]at x1 x2 x3 y1 y2 y3;simp only [ndVal];clear h1 h3;by_cases hk:m.kind=n.kind
 ·have hkb:(m.kind != n.kind)=false:=by rw [hk];simp
  by_cases hs:m.so=n.so
  ·have hsb:(m.so != n.so)=false:=by rw [hs];simp
   by_cases h7:m.kind=7
   ·have h7b:(m.kind==7)=true:=by rw [h7];rfl
    have HD:=hideK (show failB m n = !(m.labs.all fun l=>hasN n.labs l) from by unfold failB;rw [if_neg (fun h=>h.elim (fun h=>h hk) (fun h=>h hs)),if_pos h7])
    generalize (m.labs.all fun l=>hasN n.labs l)=q at *
    clear hk hs h7 cB;go_enter Tryz.func89,Tryz.ntmps89
    go_wp2_with fail
    refine (cA.out _ E0.out.bl).mono ?_;rintro e w1 ⟨rfl,hb1⟩;have HB:=hideK (E0.out.keep hb1).bl;clear x0 x1 x2 x3 y0 y1 y2 y3 hb1;go_wp2_with fail
    go_ret
    exact ⟨by rw [HD.out];rfl,HB.out⟩
   ·have h7b:(m.kind==7)=false:=by simpa using h7
    have HD:=hideK (show failB m n = !(n.labs.all fun l=>hasN m.labs l) from by unfold failB;rw [if_neg (fun h=>h.elim (fun h=>h hk) (fun h=>h hs)),if_neg h7])
    generalize (n.labs.all fun l=>hasN m.labs l)=q at *
    clear hk hs h7 cA;go_enter Tryz.func89,Tryz.ntmps89
    go_wp2_with fail
    refine (cB.out _ E0.out.bl).mono ?_;rintro e w1 ⟨rfl,hb1⟩;have HB:=hideK (E0.out.keep hb1).bl;clear x0 x1 x2 x3 y0 y1 y2 y3 hb1;go_wp2_with fail
    go_ret
    exact ⟨by rw [HD.out];rfl,HB.out⟩
  ·have hsb:(m.so != n.so)=true:=by simpa using hs
   have HD:=hideK (show failB m n=true from by unfold failB;rw [if_pos (.inr hs)])
   have HB:=hideK E0.out.bl;clear hk hs;go_enter Tryz.func89,Tryz.ntmps89
   go_wp2_with fail
   go_ret
   exact ⟨by rw [HD.out];rfl,HB.out⟩
 ·have hkb:(m.kind != n.kind)=true:=by simpa using hk
  have HD:=hideK (show failB m n=true from by unfold failB;rw [if_pos (.inl hk)])
  have HB:=hideK E0.out.bl;clear hk;go_enter Tryz.func89,Tryz.ntmps89
  go_wp2_with fail
  go_ret
  exact ⟨by rw [HD.out];rfl,HB.out⟩
def sCs(s:Stp):List Value:=[.string s.1,.int .i64 (s.2.1:Int),.int .i64 (s.2.2.1:Int),.bool s.2.2.2]
def stCs(ss:List Stp):List Value:=ss.flatMap sCs
def STL(W:World)(L B:Nat)(ss:List Stp)(a:OAd):Prop:=ss=[]∨∃b o,a=some ⟨b,o,none⟩∧(L≤b∧b<B)∧∀i (h:i<ss.length),W.cell? ⟨b,o+i*4,none⟩=some (.string ss[i].1)∧W.cell? ⟨b,o+i*4+1,none⟩=some (.int .i64 (ss[i].2.1:Int))∧W.cell? ⟨b,o+i*4+2,none⟩=some (.int .i64 (ss[i].2.2.1:Int))∧W.cell? ⟨b,o+i*4+3,none⟩=some (.bool ss[i].2.2.2)
theorem toAt_cell{W:World}{B:Nat}{n:Nd}{at1:OAd}(h:NI W B n.to at1){i:Nat}(hi:i<n.to.length):∃b o,at1=some ⟨b,o,none⟩∧b<B∧W.cell? ⟨b,o+i,none⟩=some (.int .i64 (toAt n i:Int)):=by
 obtain ⟨b,o,rfl,hb,hc⟩:=h.resolve_left (fun q=>by have:=congrArg List.length q;simp at this;rw [this]at hi;simp at hi)
 refine ⟨b,o,rfl,hb,?_⟩;rw [hc i (by simpa using hi),List.getElem_map]
 unfold toAt;rw [List.getElem?_eq_getElem hi];rfl
theorem stl_one(W:World)(L:Nat)(hL:L≤W.heap.size)(s:Stp)(ty:TypeId):STL (W.alloc (.cells #[.string s.1,.int .i64 (s.2.1:Int),.int .i64 (s.2.2.1:Int),.bool s.2.2.2] ty)).drew L (W.alloc (.cells #[.string s.1,.int .i64 (s.2.1:Int),.int .i64 (s.2.2.1:Int),.bool s.2.2.2] ty)).drew.heap.size [s] (some ⟨W.heap.size,0,none⟩):=by
 refine .inr ⟨W.heap.size,0,rfl,⟨hL,by simp⟩,fun i hi=>?_⟩
 obtain rfl:i=0:=by simp at hi;omega
 exact ⟨by go_cell,by go_cell,by go_cell,by go_cell⟩
theorem stl_two(W:World)(L:Nat)(hL:L≤W.heap.size)(s r:Stp)(ty:TypeId):STL (W.alloc (.cells #[.string s.1,.int .i64 (s.2.1:Int),.int .i64 (s.2.2.1:Int),.bool s.2.2.2,.string r.1,.int .i64 (r.2.1:Int),.int .i64 (r.2.2.1:Int),.bool r.2.2.2] ty)).drew L (W.alloc (.cells #[.string s.1,.int .i64 (s.2.1:Int),.int .i64 (s.2.2.1:Int),.bool s.2.2.2,.string r.1,.int .i64 (r.2.1:Int),.int .i64 (r.2.2.1:Int),.bool r.2.2.2] ty)).drew.heap.size [s,r] (some ⟨W.heap.size,0,none⟩):=by
 refine .inr ⟨W.heap.size,0,rfl,⟨hL,by simp⟩,fun i hi=>?_⟩
 have h2:i=0∨i=1:=by simp at hi;omega
 rcases h2 with rfl|rfl
 ·exact ⟨by go_cell,by go_cell,by go_cell,by go_cell⟩
 ·exact ⟨by go_cell,by go_cell,by go_cell,by go_cell⟩
theorem steps_one(m n:Nd)(t:Bool)(a1 a2 a3 a4:OAd)(c1 c2 c3 c4 B:Nat)(w:World)(h2:NI w B m.to a2)(h4:NI w B n.to a4)(hB:B≤w.heap.size)(hk:m.kind=2∨m.kind=3)(l2:m.to.length=1)(l4:n.to.length=1):
  Calls Tryz.prog 47 #[ndVal m a1 c1 a2 c2,ndVal n a3 c3 a4 c4,.bool t] w fun e w'=>(∃ast cst,e = .returned (.slice ast (stepsP m n t).length cst)∧STL w' w.heap.size w'.heap.size (stepsP m n t) ast)∧Below w.heap.size w w':=by
 have hst:stepsP m n t=[(dotB,toAt m 0,toAt n 0,t)]:=by unfold stepsP;rw [if_pos hk]
 rw [hst];have E0:=hideK (EB.new w m n a1 a2 a3 a4 c1 c2 c3 c4);obtain ⟨x0,x1,x2,x3⟩:=E0.out.x;obtain ⟨y0,y1,y2,y3⟩:=E0.out.y;simp only [Nat.zero_add]at x1 x2 x3 y1 y2 y3;have hbB:=E0.out.bl.mono hB;obtain ⟨b2,o2,rfl,hb2,d2⟩:=toAt_cell (h2.keep hbB) (i:=0) (by omega)
 obtain ⟨b4,o4,rfl,hb4,d4⟩:=toAt_cell (h4.keep hbB) (i:=0) (by omega)
 rw [Nat.add_zero]at d2 d4;rw [l2,l4]at E0 x0 x1 x2 x3 y0 y1 y2 y3 d2 d4;simp only [ndVal,l2,l4];generalize toAt m 0=p at *;generalize toAt n 0=q at *;have sk:∀(W W':World),(fun W:World=>W.cell? ⟨w.heap.size,3,none⟩=some (.slice (some ⟨b2,o2,none⟩) 1 c2)∧W.cell? ⟨w.heap.size+1,3,none⟩=some (.slice (some ⟨b4,o4,none⟩) 1 c4)∧W.cell? ⟨b2,o2,none⟩=some (.int .i64 (p:Int))∧W.cell? ⟨b4,o4,none⟩=some (.int .i64 (q:Int))) W→Below (w.heap.size+1+1) W W'→(fun W:World=>W.cell? ⟨w.heap.size,3,none⟩=some (.slice (some ⟨b2,o2,none⟩) 1 c2)∧W.cell? ⟨w.heap.size+1,3,none⟩=some (.slice (some ⟨b4,o4,none⟩) 1 c4)∧W.cell? ⟨b2,o2,none⟩=some (.int .i64 (p:Int))∧W.cell? ⟨b4,o4,none⟩=some (.int .i64 (q:Int))) W':=fun W W' hs hb=>⟨(hb.cell (p:=⟨w.heap.size,3,none⟩) (by show w.heap.size<_;omega)).trans hs.1,(hb.cell (p:=⟨w.heap.size+1,3,none⟩) (by show w.heap.size+1<_;omega)).trans hs.2.1,(hb.cell (p:=⟨b2,o2,none⟩) (by show b2<_;omega)).trans hs.2.2.1,(hb.cell (p:=⟨b4,o4,none⟩) (by show b4<_;omega)).trans hs.2.2.2⟩
 have HS0:=hideK (show (fun W:World=>W.cell? ⟨w.heap.size,3,none⟩=some (.slice (some ⟨b2,o2,none⟩) 1 c2)∧W.cell? ⟨w.heap.size+1,3,none⟩=some (.slice (some ⟨b4,o4,none⟩) 1 c4)∧W.cell? ⟨b2,o2,none⟩=some (.int .i64 (p:Int))∧W.cell? ⟨b4,o4,none⟩=some (.int .i64 (q:Int))) ((w.alloc (.cells #[.int .i64 m.kind,.int .i64 m.so,.slice a1 m.labs.length c1,.slice (some ⟨b2,o2,none⟩) 1 c2] 56)).alloc (.cells #[.int .i64 n.kind,.int .i64 n.so,.slice a3 n.labs.length c3,.slice (some ⟨b4,o4,none⟩) 1 c4] 56)).drew from ⟨x3,y3,d2,d4⟩)
 have HSX:=hideK (show ∀o:Obj,(fun W:World=>W.cell? ⟨w.heap.size,3,none⟩=some (.slice (some ⟨b2,o2,none⟩) 1 c2)∧W.cell? ⟨w.heap.size+1,3,none⟩=some (.slice (some ⟨b4,o4,none⟩) 1 c4)∧W.cell? ⟨b2,o2,none⟩=some (.int .i64 (p:Int))∧W.cell? ⟨b4,o4,none⟩=some (.int .i64 (q:Int))) (((w.alloc (.cells #[.int .i64 m.kind,.int .i64 m.so,.slice a1 m.labs.length c1,.slice (some ⟨b2,o2,none⟩) 1 c2] 56)).alloc (.cells #[.int .i64 n.kind,.int .i64 n.so,.slice a3 n.labs.length c3,.slice (some ⟨b4,o4,none⟩) 1 c4] 56)).alloc o).drew from fun o=>sk _ _ HS0.out (by rw [← alloc_drew];exact (Below.refl _ _).alloc (by simp) _))
 have HF:=hideK (stl_one ((w.alloc (.cells #[.int .i64 m.kind,.int .i64 m.so,.slice a1 m.labs.length c1,.slice (some ⟨b2,o2,none⟩) 1 c2] 56)).alloc (.cells #[.int .i64 n.kind,.int .i64 n.so,.slice a3 n.labs.length c3,.slice (some ⟨b4,o4,none⟩) 1 c4] 56)) w.heap.size (by simp;omega) (dotB,p,q,t) 114)
 have HB:=hideK (show Below w.heap.size w (((w.alloc (.cells #[.int .i64 m.kind,.int .i64 m.so,.slice a1 m.labs.length c1,.slice (some ⟨b2,o2,none⟩) 1 c2] 56)).alloc (.cells #[.int .i64 n.kind,.int .i64 n.so,.slice a3 n.labs.length c3,.slice (some ⟨b4,o4,none⟩) 1 c4] 56)).alloc (.cells #[.string dotB,.int .i64 (p:Int),.int .i64 (q:Int),.bool t] 114)).drew from (E0.out.bl.alloc E0.out.bl.size _).drew)
 have hsz:((w.alloc (.cells #[.int .i64 m.kind,.int .i64 m.so,.slice a1 m.labs.length c1,.slice (some ⟨b2,o2,none⟩) 1 c2] 56)).alloc (.cells #[.int .i64 n.kind,.int .i64 n.so,.slice a3 n.labs.length c3,.slice (some ⟨b4,o4,none⟩) 1 c4] 56)).heap.size=w.heap.size+1+1:=by simp
 rw [hsz]at HF;have hk2:(m.kind==2)=true∨((m.kind==2)=false∧(m.kind==3)=true):=by
  rcases hk with h|h
  ·exact .inl (by rw [h];rfl)
  ·exact .inr ⟨by rw [h];rfl,by rw [h];rfl⟩
 clear h2 h4 hk hbB hst l2 l4 d2 d4 sk hsz;rcases hk2 with k2|⟨k2,k3⟩
 all_goals
  go_enter Tryz.func47,Tryz.ntmps47
  go_wp2_with fail
  go_region_held3 (fun W:World=>W.cell? ⟨w.heap.size,3,none⟩=some (.slice (some ⟨b2,o2,none⟩) 1 c2)∧W.cell? ⟨w.heap.size+1,3,none⟩=some (.slice (some ⟨b4,o4,none⟩) 1 c4)∧W.cell? ⟨b2,o2,none⟩=some (.int .i64 (p:Int))∧W.cell? ⟨b4,o4,none⟩=some (.int .i64 (q:Int))) (first|exact HS0.out|exact HSX.out _|assumption) (fail)
  go_wp2_with fail
  go_ret
  exact ⟨⟨_,_,rfl,HF.out⟩,HB.out⟩
theorem steps_two(m n:Nd)(t:Bool)(a1 a2 a3 a4:OAd)(c1 c2 c3 c4 B:Nat)(w:World)(h2:NI w B m.to a2)(h4:NI w B n.to a4)(hB:B≤w.heap.size)(hk:m.kind=4∨m.kind=5)(l2:m.to.length=2)(l4:n.to.length=2):
  Calls Tryz.prog 47 #[ndVal m a1 c1 a2 c2,ndVal n a3 c3 a4 c4,.bool t] w fun e w'=>(∃ast cst,e = .returned (.slice ast (stepsP m n t).length cst)∧STL w' w.heap.size w'.heap.size (stepsP m n t) ast)∧Below w.heap.size w w':=by
 have hst:stepsP m n t=[(capB,toAt m 0,toAt n 0,t != (m.kind==4)),(dotB,toAt m 1,toAt n 1,t)]:=by
  unfold stepsP;rw [if_neg (by omega),if_pos hk]
  rfl
 rw [hst];have E0:=hideK (EB.new w m n a1 a2 a3 a4 c1 c2 c3 c4);obtain ⟨x0,x1,x2,x3⟩:=E0.out.x;obtain ⟨y0,y1,y2,y3⟩:=E0.out.y;simp only [Nat.zero_add]at x1 x2 x3 y1 y2 y3;have hbB:=E0.out.bl.mono hB;obtain ⟨b2,o2,rfl,hb2,d2⟩:=toAt_cell (h2.keep hbB) (i:=0) (by omega)
 obtain ⟨b4,o4,rfl,hb4,d4⟩:=toAt_cell (h4.keep hbB) (i:=0) (by omega)
 obtain ⟨b2',o2',e2,_,f2⟩:=toAt_cell (h2.keep hbB) (i:=1) (by omega)
 obtain ⟨b4',o4',e4,_,f4⟩:=toAt_cell (h4.keep hbB) (i:=1) (by omega)
 simp only [Option.some.injEq,Addr.mk.injEq,and_true]at e2 e4;obtain ⟨rfl,rfl⟩:=e2;obtain ⟨rfl,rfl⟩:=e4;rw [Nat.add_zero]at d2 d4;rw [l2,l4]at E0 x0 x1 x2 x3 y0 y1 y2 y3 d2 d4 f2 f4;simp only [ndVal,l2,l4];generalize toAt m 0=p at *;generalize toAt n 0=q at *;generalize toAt m 1=p2 at *;generalize toAt n 1=q2 at *;have sk:∀(W W':World),(fun W:World=>W.cell? ⟨w.heap.size,0,none⟩=some (.int .i64 m.kind)∧W.cell? ⟨w.heap.size,3,none⟩=some (.slice (some ⟨b2,o2,none⟩) 2 c2)∧W.cell? ⟨w.heap.size+1,3,none⟩=some (.slice (some ⟨b4,o4,none⟩) 2 c4)∧W.cell? ⟨b2,o2,none⟩=some (.int .i64 (p:Int))∧W.cell? ⟨b4,o4,none⟩=some (.int .i64 (q:Int))∧W.cell? ⟨b2,o2+1,none⟩=some (.int .i64 (p2:Int))∧W.cell? ⟨b4,o4+1,none⟩=some (.int .i64 (q2:Int))) W→Below (w.heap.size+1+1) W W'→(fun W:World=>W.cell? ⟨w.heap.size,0,none⟩=some (.int .i64 m.kind)∧W.cell? ⟨w.heap.size,3,none⟩=some (.slice (some ⟨b2,o2,none⟩) 2 c2)∧W.cell? ⟨w.heap.size+1,3,none⟩=some (.slice (some ⟨b4,o4,none⟩) 2 c4)∧W.cell? ⟨b2,o2,none⟩=some (.int .i64 (p:Int))∧W.cell? ⟨b4,o4,none⟩=some (.int .i64 (q:Int))∧W.cell? ⟨b2,o2+1,none⟩=some (.int .i64 (p2:Int))∧W.cell? ⟨b4,o4+1,none⟩=some (.int .i64 (q2:Int))) W':=fun W W' hs hb=>⟨(hb.cell (p:=⟨w.heap.size,0,none⟩) (by show w.heap.size<_;omega)).trans hs.1,(hb.cell (p:=⟨w.heap.size,3,none⟩) (by show w.heap.size<_;omega)).trans hs.2.1,(hb.cell (p:=⟨w.heap.size+1,3,none⟩) (by show w.heap.size+1<_;omega)).trans hs.2.2.1,(hb.cell (p:=⟨b2,o2,none⟩) (by show b2<_;omega)).trans hs.2.2.2.1,(hb.cell (p:=⟨b4,o4,none⟩) (by show b4<_;omega)).trans hs.2.2.2.2.1,(hb.cell (p:=⟨b2,o2+1,none⟩) (by show b2<_;omega)).trans hs.2.2.2.2.2.1,(hb.cell (p:=⟨b4,o4+1,none⟩) (by show b4<_;omega)).trans hs.2.2.2.2.2.2⟩
 have sk3:∀(bb:Bool) (W W':World),(fun W:World=>W.cell? ⟨w.heap.size,3,none⟩=some (.slice (some ⟨b2,o2,none⟩) 2 c2)∧W.cell? ⟨w.heap.size+1,3,none⟩=some (.slice (some ⟨b4,o4,none⟩) 2 c4)∧W.cell? ⟨b2,o2+1,none⟩=some (.int .i64 (p2:Int))∧W.cell? ⟨b4,o4+1,none⟩=some (.int .i64 (q2:Int))∧W.cell? ⟨w.heap.size+1+1,0,none⟩=some (.int .i64 (p:Int))∧W.cell? ⟨w.heap.size+1+1,1,none⟩=some (.int .i64 (q:Int))∧W.cell? ⟨w.heap.size+1+1,2,none⟩=some (.bool bb)) W→Below (w.heap.size+1+1+1) W W'→(fun W:World=>W.cell? ⟨w.heap.size,3,none⟩=some (.slice (some ⟨b2,o2,none⟩) 2 c2)∧W.cell? ⟨w.heap.size+1,3,none⟩=some (.slice (some ⟨b4,o4,none⟩) 2 c4)∧W.cell? ⟨b2,o2+1,none⟩=some (.int .i64 (p2:Int))∧W.cell? ⟨b4,o4+1,none⟩=some (.int .i64 (q2:Int))∧W.cell? ⟨w.heap.size+1+1,0,none⟩=some (.int .i64 (p:Int))∧W.cell? ⟨w.heap.size+1+1,1,none⟩=some (.int .i64 (q:Int))∧W.cell? ⟨w.heap.size+1+1,2,none⟩=some (.bool bb)) W':=fun bb=>by exact fun W W' hs hb=>⟨(hb.cell (p:=⟨w.heap.size,3,none⟩) (by show w.heap.size<_;omega)).trans hs.1,(hb.cell (p:=⟨w.heap.size+1,3,none⟩) (by show w.heap.size+1<_;omega)).trans hs.2.1,(hb.cell (p:=⟨b2,o2+1,none⟩) (by show b2<_;omega)).trans hs.2.2.1,(hb.cell (p:=⟨b4,o4+1,none⟩) (by show b4<_;omega)).trans hs.2.2.2.1,(hb.cell (p:=⟨w.heap.size+1+1,0,none⟩) (by show w.heap.size+1+1<_;omega)).trans hs.2.2.2.2.1,(hb.cell (p:=⟨w.heap.size+1+1,1,none⟩) (by show w.heap.size+1+1<_;omega)).trans hs.2.2.2.2.2.1,(hb.cell (p:=⟨w.heap.size+1+1,2,none⟩) (by show w.heap.size+1+1<_;omega)).trans hs.2.2.2.2.2.2⟩
 have HS0:=hideK (show (fun W:World=>W.cell? ⟨w.heap.size,0,none⟩=some (.int .i64 m.kind)∧W.cell? ⟨w.heap.size,3,none⟩=some (.slice (some ⟨b2,o2,none⟩) 2 c2)∧W.cell? ⟨w.heap.size+1,3,none⟩=some (.slice (some ⟨b4,o4,none⟩) 2 c4)∧W.cell? ⟨b2,o2,none⟩=some (.int .i64 (p:Int))∧W.cell? ⟨b4,o4,none⟩=some (.int .i64 (q:Int))∧W.cell? ⟨b2,o2+1,none⟩=some (.int .i64 (p2:Int))∧W.cell? ⟨b4,o4+1,none⟩=some (.int .i64 (q2:Int))) ((w.alloc (.cells #[.int .i64 m.kind,.int .i64 m.so,.slice a1 m.labs.length c1,.slice (some ⟨b2,o2,none⟩) 2 c2] 56)).alloc (.cells #[.int .i64 n.kind,.int .i64 n.so,.slice a3 n.labs.length c3,.slice (some ⟨b4,o4,none⟩) 2 c4] 56)).drew from ⟨x0,x3,y3,d2,d4,f2,f4⟩)
 have HSX:=hideK (show ∀o:Obj,(fun W:World=>W.cell? ⟨w.heap.size,0,none⟩=some (.int .i64 m.kind)∧W.cell? ⟨w.heap.size,3,none⟩=some (.slice (some ⟨b2,o2,none⟩) 2 c2)∧W.cell? ⟨w.heap.size+1,3,none⟩=some (.slice (some ⟨b4,o4,none⟩) 2 c4)∧W.cell? ⟨b2,o2,none⟩=some (.int .i64 (p:Int))∧W.cell? ⟨b4,o4,none⟩=some (.int .i64 (q:Int))∧W.cell? ⟨b2,o2+1,none⟩=some (.int .i64 (p2:Int))∧W.cell? ⟨b4,o4+1,none⟩=some (.int .i64 (q2:Int))) (((w.alloc (.cells #[.int .i64 m.kind,.int .i64 m.so,.slice a1 m.labs.length c1,.slice (some ⟨b2,o2,none⟩) 2 c2] 56)).alloc (.cells #[.int .i64 n.kind,.int .i64 n.so,.slice a3 n.labs.length c3,.slice (some ⟨b4,o4,none⟩) 2 c4] 56)).alloc o).drew from fun o=>sk _ _ HS0.out (by rw [← alloc_drew];exact (Below.refl _ _).alloc (by simp) _))
 have HS3:=hideK (show ∀bb:Bool,(fun W:World=>W.cell? ⟨w.heap.size,3,none⟩=some (.slice (some ⟨b2,o2,none⟩) 2 c2)∧W.cell? ⟨w.heap.size+1,3,none⟩=some (.slice (some ⟨b4,o4,none⟩) 2 c4)∧W.cell? ⟨b2,o2+1,none⟩=some (.int .i64 (p2:Int))∧W.cell? ⟨b4,o4+1,none⟩=some (.int .i64 (q2:Int))∧W.cell? ⟨w.heap.size+1+1,0,none⟩=some (.int .i64 (p:Int))∧W.cell? ⟨w.heap.size+1+1,1,none⟩=some (.int .i64 (q:Int))∧W.cell? ⟨w.heap.size+1+1,2,none⟩=some (.bool bb)) (((w.alloc (.cells #[.int .i64 m.kind,.int .i64 m.so,.slice a1 m.labs.length c1,.slice (some ⟨b2,o2,none⟩) 2 c2] 56)).alloc (.cells #[.int .i64 n.kind,.int .i64 n.so,.slice a3 n.labs.length c3,.slice (some ⟨b4,o4,none⟩) 2 c4] 56)).alloc (.cells #[.int .i64 (p:Int),.int .i64 (q:Int),.bool bb] 53)).drew.drew from fun bb=>⟨(HSX.out _).2.1,(HSX.out _).2.2.1,(HSX.out _).2.2.2.2.2.1,(HSX.out _).2.2.2.2.2.2,by go_cell,by go_cell,by go_cell⟩)
 have HSY:=hideK (show ∀(bb:Bool) (o:Obj),(fun W:World=>W.cell? ⟨w.heap.size,3,none⟩=some (.slice (some ⟨b2,o2,none⟩) 2 c2)∧W.cell? ⟨w.heap.size+1,3,none⟩=some (.slice (some ⟨b4,o4,none⟩) 2 c4)∧W.cell? ⟨b2,o2+1,none⟩=some (.int .i64 (p2:Int))∧W.cell? ⟨b4,o4+1,none⟩=some (.int .i64 (q2:Int))∧W.cell? ⟨w.heap.size+1+1,0,none⟩=some (.int .i64 (p:Int))∧W.cell? ⟨w.heap.size+1+1,1,none⟩=some (.int .i64 (q:Int))∧W.cell? ⟨w.heap.size+1+1,2,none⟩=some (.bool bb)) ((((w.alloc (.cells #[.int .i64 m.kind,.int .i64 m.so,.slice a1 m.labs.length c1,.slice (some ⟨b2,o2,none⟩) 2 c2] 56)).alloc (.cells #[.int .i64 n.kind,.int .i64 n.so,.slice a3 n.labs.length c3,.slice (some ⟨b4,o4,none⟩) 2 c4] 56)).alloc (.cells #[.int .i64 (p:Int),.int .i64 (q:Int),.bool bb] 53)).alloc o).drew.drew from fun bb o=>sk3 bb _ _ (HS3.out bb) (by rw [← alloc_drew,← alloc_drew];exact (Below.refl _ _).alloc (by simp) _))
 have HF:=hideK (fun bb:Bool=>stl_two (((w.alloc (.cells #[.int .i64 m.kind,.int .i64 m.so,.slice a1 m.labs.length c1,.slice (some ⟨b2,o2,none⟩) 2 c2] 56)).alloc (.cells #[.int .i64 n.kind,.int .i64 n.so,.slice a3 n.labs.length c3,.slice (some ⟨b4,o4,none⟩) 2 c4] 56)).alloc (.cells #[.int .i64 (p:Int),.int .i64 (q:Int),.bool bb] 53)) w.heap.size (by simp;omega) (capB,p,q,bb) (dotB,p2,q2,t) 114)
 have HB:=hideK (show ∀(bb:Bool) (o:Obj),Below w.heap.size w ((((w.alloc (.cells #[.int .i64 m.kind,.int .i64 m.so,.slice a1 m.labs.length c1,.slice (some ⟨b2,o2,none⟩) 2 c2] 56)).alloc (.cells #[.int .i64 n.kind,.int .i64 n.so,.slice a3 n.labs.length c3,.slice (some ⟨b4,o4,none⟩) 2 c4] 56)).alloc (.cells #[.int .i64 (p:Int),.int .i64 (q:Int),.bool bb] 53)).alloc o).drew.drew from fun bb o=>((E0.out.bl.alloc E0.out.bl.size _).alloc (E0.out.bl.alloc E0.out.bl.size _).size _).drew.drew)
 have hsz:∀bb:Bool,(((w.alloc (.cells #[.int .i64 m.kind,.int .i64 m.so,.slice a1 m.labs.length c1,.slice (some ⟨b2,o2,none⟩) 2 c2] 56)).alloc (.cells #[.int .i64 n.kind,.int .i64 n.so,.slice a3 n.labs.length c3,.slice (some ⟨b4,o4,none⟩) 2 c4] 56)).alloc (.cells #[.int .i64 (p:Int),.int .i64 (q:Int),.bool bb] 53)).heap.size=w.heap.size+1+1+1:=fun bb=>by simp
 simp only [hsz]at HF;have hk2:(m.kind==2)=false∧(m.kind==3)=false:=by
  rcases hk with h|h
  ·exact ⟨by rw [h];rfl,by rw [h];rfl⟩
  ·exact ⟨by rw [h];rfl,by rw [h];rfl⟩
 obtain ⟨k2,k3⟩:=hk2;have hk4:(m.kind==4)=true∨((m.kind==4)=false∧(m.kind==5)=true):=by
  rcases hk with h|h
  ·exact .inl (by rw [h];rfl)
  ·exact .inr ⟨by rw [h];rfl,by rw [h];rfl⟩
 clear h2 h4 hk hbB hst l2 l4 d2 d4 f2 f4 sk sk3 hsz;rcases hk4 with k4|⟨k4,k5⟩
 ·rw [show (t != (m.kind==4))=(!t) from by rw [k4];cases t <;> rfl]
  go_enter Tryz.func47,Tryz.ntmps47
  go_wp2_with fail
  go_region_held3 (fun W:World=>W.cell? ⟨w.heap.size,0,none⟩=some (.int .i64 m.kind)∧W.cell? ⟨w.heap.size,3,none⟩=some (.slice (some ⟨b2,o2,none⟩) 2 c2)∧W.cell? ⟨w.heap.size+1,3,none⟩=some (.slice (some ⟨b4,o4,none⟩) 2 c4)∧W.cell? ⟨b2,o2,none⟩=some (.int .i64 (p:Int))∧W.cell? ⟨b4,o4,none⟩=some (.int .i64 (q:Int))∧W.cell? ⟨b2,o2+1,none⟩=some (.int .i64 (p2:Int))∧W.cell? ⟨b4,o4+1,none⟩=some (.int .i64 (q2:Int))) (first|exact HS0.out|exact HSX.out _|assumption) (fail)
  go_wp2_with fail
  go_region_held3 (fun W:World=>W.cell? ⟨w.heap.size,3,none⟩=some (.slice (some ⟨b2,o2,none⟩) 2 c2)∧W.cell? ⟨w.heap.size+1,3,none⟩=some (.slice (some ⟨b4,o4,none⟩) 2 c4)∧W.cell? ⟨b2,o2+1,none⟩=some (.int .i64 (p2:Int))∧W.cell? ⟨b4,o4+1,none⟩=some (.int .i64 (q2:Int))∧W.cell? ⟨w.heap.size+1+1,0,none⟩=some (.int .i64 (p:Int))∧W.cell? ⟨w.heap.size+1+1,1,none⟩=some (.int .i64 (q:Int))∧W.cell? ⟨w.heap.size+1+1,2,none⟩=some (.bool (!t))) (first|exact HS3.out _|exact HSY.out _ _|assumption) (fail)
  go_wp2_with fail
  go_ret
  exact ⟨⟨_,_,rfl,HF.out _⟩,HB.out _ _⟩
 ·rw [show (t != (m.kind==4))=t from by rw [k4];cases t <;> rfl]
  go_enter Tryz.func47,Tryz.ntmps47
  go_wp2_with fail
  go_region_held3 (fun W:World=>W.cell? ⟨w.heap.size,0,none⟩=some (.int .i64 m.kind)∧W.cell? ⟨w.heap.size,3,none⟩=some (.slice (some ⟨b2,o2,none⟩) 2 c2)∧W.cell? ⟨w.heap.size+1,3,none⟩=some (.slice (some ⟨b4,o4,none⟩) 2 c4)∧W.cell? ⟨b2,o2,none⟩=some (.int .i64 (p:Int))∧W.cell? ⟨b4,o4,none⟩=some (.int .i64 (q:Int))∧W.cell? ⟨b2,o2+1,none⟩=some (.int .i64 (p2:Int))∧W.cell? ⟨b4,o4+1,none⟩=some (.int .i64 (q2:Int))) (first|exact HS0.out|exact HSX.out _|assumption) (fail)
  go_wp2_with fail
  go_region_held3 (fun W:World=>W.cell? ⟨w.heap.size,3,none⟩=some (.slice (some ⟨b2,o2,none⟩) 2 c2)∧W.cell? ⟨w.heap.size+1,3,none⟩=some (.slice (some ⟨b4,o4,none⟩) 2 c4)∧W.cell? ⟨b2,o2+1,none⟩=some (.int .i64 (p2:Int))∧W.cell? ⟨b4,o4+1,none⟩=some (.int .i64 (q2:Int))∧W.cell? ⟨w.heap.size+1+1,0,none⟩=some (.int .i64 (p:Int))∧W.cell? ⟨w.heap.size+1+1,1,none⟩=some (.int .i64 (q:Int))∧W.cell? ⟨w.heap.size+1+1,2,none⟩=some (.bool t)) (first|exact HS3.out _|exact HSY.out _ _|assumption) (fail)
  go_wp2_with fail
  go_ret
  exact ⟨⟨_,_,rfl,HF.out _⟩,HB.out _ _⟩
end Go.Proofs.YtnedgkcejlhnbaaGreatDoor
