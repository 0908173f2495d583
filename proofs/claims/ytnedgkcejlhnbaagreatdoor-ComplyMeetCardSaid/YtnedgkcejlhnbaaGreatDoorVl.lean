/-
  The contracts of below.Is and below.Why, for every two types.
-/
import Derived.Test.YtnedgkcejlhnbaaGreatDoorSz
import Derived.Test.YtnedgkcejlhnbaaGreatDoorVn
import Derived.Test.YtnedgkcejlhnbaaGreatDoorIi
import Derived.Test.YtnedgkcejlhnbaaGreatDoorVf
import Derived.Test.YtnedgkcejlhnbaaGreatDoorPk
import Derived.Laws.BytesString
import Derived.Test.YtnedgkcejlhnbaaGreatDoorZl
import Derived.Deep.RegionHeld3
set_option maxRecDepth 100000
set_option maxHeartbeats 4000000
namespace Go.Proofs.YtnedgkcejlhnbaaGreatDoor
open Go.RowKit Go.Shelf
theorem OFG.uniq{t:Ty}{g h:List Nd}(hg:OFG t g)(hh:OFG t h):g=h:=(hg.same hh).2 rfl
theorem cls_ex{g:List Nd}(hs:shutG g):∃c,CLS g c:=by
 have:∀n k c,patG g k c→g.length - cnt c≤n→∃c,CLS g c:=by
  intro n;induction n with
  | zero =>
   intro k c hp hn;by_cases he:(splitG g c).1.length=cnt c
   ·exact ⟨_,cls_done hs hp he⟩
   ·have:=cls_more hs hp he;omega
  | succ n ih =>
   intro k c hp hn;by_cases he:(splitG g c).1.length=cnt c
   ·exact ⟨_,cls_done hs hp he⟩
   ·have h1:=cls_more hs hp he
    have h2:=(split_inv g c).cn;exact ih (k+1) (splitG g c).2 (pat_split hs hp) (by omega)
 exact this _ 0 _ (pat_zero g) (Nat.le_refl _)
theorem OFG_ex{t:Ty}(h:chkTy t=0):∃g,OFG t g:=by
 have hg:=lay_gn h;obtain ⟨c,hc⟩:∃c,CLS (layP t [] 0).2 c:=cls_ex hg.shut;exact ⟨_,⟨h,c,hc,rfl⟩⟩
theorem end_chk:chkTy endT=0:=by
 unfold chkTy;rw [chkT_eq,if_neg (by decide)]
 have hp:partT endT=true:=by unfold partT endT;simp
 rw [hp,if_neg (by decide),if_neg (by decide),if_neg (by decide)]
 rfl
theorem end_bd:TyBd endT 0 0:=⟨by decide,fun l hl=>(by cases hl),by decide,by decide,by decide,by decide⟩
structure BX3(w:World)(s:Ty)(sal:OAd)(scl:Nat)(sak:OAd)(sck:Nat)(t:Ty)(al:OAd)(cl:Nat)(ak:OAd)(ck:Nat)(u:Ty)(ual:OAd)(ucl:Nat)(uak:OAd)(uck:Nat)(W:World):Prop where
 x:TyAt W w.heap.size 0 s sal scl sak sck
 y:TyAt W (w.heap.size+1) 0 t al cl ak ck
 z:TyAt W (w.heap.size+1+1) 0 u ual ucl uak uck
 lt:w.heap.size+1+1<W.heap.size
 bl:Below w.heap.size w W
theorem BX3.keep{w:World}{s:Ty}{sal:OAd}{scl:Nat}{sak:OAd}{sck:Nat}{t:Ty}{al:OAd}{cl:Nat}{ak:OAd}{ck:Nat}{u:Ty}{ual:OAd}{ucl:Nat}{uak:OAd}{uck:Nat}{W W':World}(h:BX3 w s sal scl sak sck t al cl ak ck u ual ucl uak uck W)(hb:Below W.heap.size W W'):BX3 w s sal scl sak sck t al cl ak ck u ual ucl uak uck W' :=
 ⟨h.x.keep hb (by have:=h.lt;omega),h.y.keep hb (by have:=h.lt;omega),h.z.keep hb h.lt,Nat.lt_of_lt_of_le h.lt hb.size,h.bl.trans (hb.mono h.bl.size)⟩
theorem BX3.new(w:World)(s:Ty)(sal:OAd)(scl:Nat)(sak:OAd)(sck:Nat)(t:Ty)(al:OAd)(cl:Nat)(ak:OAd)(ck:Nat)(u:Ty)(ual:OAd)(ucl:Nat)(uak:OAd)(uck:Nat):BX3 w s sal scl sak sck t al cl ak ck u ual ucl uak uck (((w.alloc (.cells #[.int .i64 s.kind,.int .i64 s.so,.string s.name,.slice sal s.labels.length scl,.slice sak s.kids.length sck] 25)).alloc (.cells #[.int .i64 t.kind,.int .i64 t.so,.string t.name,.slice al t.labels.length cl,.slice ak t.kids.length ck] 25)).alloc (.cells #[.int .i64 u.kind,.int .i64 u.so,.string u.name,.slice ual u.labels.length ucl,.slice uak u.kids.length uck] 25)) :=
 ⟨⟨by go_cell,by go_cell,by go_cell,by go_cell,by go_cell⟩,⟨by go_cell,by go_cell,by go_cell,by go_cell,by go_cell⟩,⟨by go_cell,by go_cell,by go_cell,by go_cell,by go_cell⟩,by simp,((((Below.refl _ _).alloc (Nat.le_refl _) _).alloc (by simp) _).alloc (by simp;omega) _)⟩
def LSTG(L:List Nd):Prop:=∃M c,GN M∧CLS M c∧L=leastG M c
theorem LSTG.gn{L:List Nd}(h:LSTG L):GN L:=by
 obtain ⟨M,c,hM,hc,rfl⟩:=h;exact (least_gn hM hc).1
theorem OFG.lst{t:Ty}{g:List Nd}(h:OFG t g):LSTG g:=by
 obtain ⟨c,hc,e⟩:=h.src;exact ⟨_,c,lay_gn h.chk,hc,e⟩
theorem LSTG.eq{L M:List Nd}(hL:LSTG L)(hM:LSTG M)(e:alikeG L M 0 0):L=M:=by
 obtain ⟨A,c,hA,hc,rfl⟩:=hL;obtain ⟨B,d,hB,hd,rfl⟩:=hM;refine least_canon ⟨hA.shut,hB.shut,hc,hd⟩ hA.pos hB.pos fun k=>?_
 rw [← (least_gn hA hc).2.1 k,← (least_gn hB hd).2.1 k];exact e k
def BDR(g h:List Nd)(t:Bool)(n:Nat)(a:OAd)(z:Int)(w':World):Prop :=
 ∃ps al,BND g h (0,0,t) ps al∧((al (0,0,t)=false∧a=none∧n=0∧z=8)∨∃Q,RCH g h (0,0,t) ps al Q∧((200<Q.length∧a=none∧n=0∧z=2)∨(Q.length≤200∧z=0∧∃L,isBnd g h t L∧LSTG L∧n=L.length∧GAt w' w'.heap.size L a)))
theorem BDPost.bdr{g h:List Nd}(hg:GN g)(hh:GN h){t:Bool}{w w':World}{e:Ending}(H:BDPost g h t w e w'):(∃a n c z,e = .returned (.tuple #[.slice a n c,.int .i64 z])∧BDR g h t n a z w')∧Below w.heap.size w w':=by
 obtain ⟨hb,ps,al,B,H⟩:=H;refine ⟨?_,hb⟩;rcases H with ⟨h1,h2⟩|⟨Q,R,⟨h1,h2⟩|⟨h1,c,hc,ao,co,h2,h3⟩⟩
 ·exact ⟨none,0,0,8,h2,ps,al,B,.inl ⟨h1,rfl,rfl,rfl⟩⟩
 ·exact ⟨none,0,0,2,h2,ps,al,B,.inr ⟨Q,R,.inl ⟨h1,rfl,rfl,rfl⟩⟩⟩
 ·have hI:=bnd_is hg hh B R h1
  obtain ⟨l1,l2,_⟩:=least_gn hI.gn hc;exact ⟨ao,_,co,0,h2,ps,al,B,.inr ⟨Q,R,.inr ⟨h1,rfl,_,hI.alike l1 (alike_symm l2),⟨_,c,hI.gn,hc,rfl⟩,rfl,h3⟩⟩⟩
theorem BDR.three{g h:List Nd}(hg:GN g)(hh:GN h){t:Bool}{n:Nat}{a:OAd}{z:Int}{w':World}(H:BDR g h t n a z w'):(z=8∧n=0∧a=none∧noBnd g h t)∨(z=2∧n=0∧a=none)∨(z=0∧∃L,isBnd g h t L∧LSTG L∧n=L.length∧GAt w' w'.heap.size L a):=by
 obtain ⟨ps,al,B,⟨h1,h2,h3,h4⟩|⟨Q,R,⟨h1,h2,h3,h4⟩|⟨h1,h2,h3⟩⟩⟩:=H
 ·exact .inl ⟨h4,h3,h2,bnd_no hg hh B h1⟩
 ·exact .inr (.inl ⟨h4,h3,h2⟩)
 ·exact .inr (.inr ⟨h2,h3⟩)
def JMPost(s t:Ty)(m:Bool)(w:World)(e:Ending)(w':World):Prop :=
 ((chkTy s≠0∧e = .returned (.tuple #[.slice none 0 0,.int .i64 (chkTy s)]))∨(chkTy s=0∧chkTy t≠0∧e = .returned (.tuple #[.slice none 0 0,.int .i64 (chkTy t)])) ∨
  (∃g h,OFG s g∧OFG t h∧∃a n c z,e = .returned (.tuple #[.slice a n c,.int .i64 z])∧BDR g h m n a z w'))∧Below w.heap.size w w'
theorem meet_any(ds dt:Nat)(s t:Ty)(sal:OAd)(scl:Nat)(sak:OAd)(sck:Nat)(al:OAd)(cl:Nat)(ak:OAd)(ck:Nat)(w:World)(hs1:TyBd s scl sck)(hs2:LA w w.heap.size s.labels sal)(hs3:KT w w.heap.size ds s.kids sak)(ht1:TyBd t cl ck)(ht2:LA w w.heap.size t.labels al)(ht3:KT w w.heap.size dt t.kids ak):
  Calls Tryz.prog 5 #[tyVal s sal scl sak sck,tyVal t al cl ak ck] w (JMPost s t true w):=by
 unfold JMPost;have hA:Below w.heap.size w ((w.alloc (.cells #[.int .i64 s.kind,.int .i64 s.so,.string s.name,.slice sal s.labels.length scl,.slice sak s.kids.length sck] 25)).alloc (.cells #[.int .i64 t.kind,.int .i64 t.so,.string t.name,.slice al t.labels.length cl,.slice ak t.kids.length ck] 25)):=((Below.refl _ _).alloc (Nat.le_refl _) _).alloc (by simp) _
 have hsz:((w.alloc (.cells #[.int .i64 s.kind,.int .i64 s.so,.string s.name,.slice sal s.labels.length scl,.slice sak s.kids.length sck] 25)).alloc (.cells #[.int .i64 t.kind,.int .i64 t.so,.string t.name,.slice al t.labels.length cl,.slice ak t.kids.length ck] 25)).heap.size=w.heap.size+1+1:=by simp
 have bs:TyAt ((w.alloc (.cells #[.int .i64 s.kind,.int .i64 s.so,.string s.name,.slice sal s.labels.length scl,.slice sak s.kids.length sck] 25)).alloc (.cells #[.int .i64 t.kind,.int .i64 t.so,.string t.name,.slice al t.labels.length cl,.slice ak t.kids.length ck] 25)) w.heap.size 0 s sal scl sak sck:=⟨by go_cell,by go_cell,by go_cell,by go_cell,by go_cell⟩
 have bt:TyAt ((w.alloc (.cells #[.int .i64 s.kind,.int .i64 s.so,.string s.name,.slice sal s.labels.length scl,.slice sak s.kids.length sck] 25)).alloc (.cells #[.int .i64 t.kind,.int .i64 t.so,.string t.name,.slice al t.labels.length cl,.slice ak t.kids.length ck] 25)) (w.heap.size+1) 0 t al cl ak ck:=⟨by go_cell,by go_cell,by go_cell,by go_cell,by go_cell⟩
 have cG:=graphsOf_any ds dt s t sal scl sak sck al cl ak ck ((w.alloc (.cells #[.int .i64 s.kind,.int .i64 s.so,.string s.name,.slice sal s.labels.length scl,.slice sak s.kids.length sck] 25)).alloc (.cells #[.int .i64 t.kind,.int .i64 t.so,.string t.name,.slice al t.labels.length cl,.slice ak t.kids.length ck] 25)) hs1 ((hs2.keep hA).mono hA.size) ((hs3.keep hA).mono hA.size) ht1 ((ht2.keep hA).mono hA.size) ((ht3.keep hA).mono hA.size);have HA:=hideK hA;simp only [tyVal]at cG ⊢;unfold GOPost at cG;obtain ⟨y0,y1,y2,y3,y4⟩:=bt;obtain ⟨x0,x1,x2,x3,x4⟩:=bs;simp only [Nat.zero_add]at x1 x2 x3 x4 y1 y2 y3 y4;clear hs1 hs2 hs3 ht1 ht2 ht3 hA hsz;go_enter Tryz.func5,Tryz.ntmps5
 go_wp2_with fail
 refine cG.mono ?_;rintro e w1 ⟨hor,hb1⟩;have HB1:=hideK (HA.out.trans (hb1.mono HA.out.size));clear x0 x1 x2 x3 x4 y0 y1 y2 y3 y4 hb1 cG;rcases hor with ⟨hz,rfl⟩|⟨hz0,hz,rfl⟩|⟨g,h,ag,ah,cg,ch,hof,hof2,rfl,hga,hha⟩
 ·have hzb:(chkTy s != 0)=true:=by simpa using hz
  have HZ:=hideK hz;clear hz;go_wp2_with fail
  go_ret2
  exact ⟨.inl ⟨HZ.out,rfl⟩,HB1.out⟩
 ·have hzb:(chkTy t != 0)=true:=by simpa using hz
  have HZ:=hideK hz;have HZ0:=hideK hz0;clear hz hz0;go_wp2_with fail
  go_ret2
  exact ⟨.inr (.inl ⟨HZ0.out,HZ.out,rfl⟩),HB1.out⟩
 ·have cF:=bound_any g h ag ah cg ch w1.heap.size true w1 hof.gn hof2.gn hga hha (Nat.le_refl _)
  have HOF:=hideK hof;have HOF2:=hideK hof2;clear hga hha hof hof2;go_wp2_with fail
  refine cF.mono ?_;intro e w2 hPost;obtain ⟨⟨a,n,c,z,rfl,hR⟩,hb2⟩:=hPost.bdr HOF.out.gn HOF2.out.gn;have HR:=hideK hR;have HB2:=hideK (HB1.out.trans (hb2.mono HB1.out.size));clear cF hPost hR hb2;go_wp2_with fail
  go_ret2
  exact ⟨.inr (.inr ⟨g,h,HOF.out,HOF2.out,a,n,c,z,rfl,HR.out⟩),HB2.out⟩
theorem jmGood{s t:Ty}{m:Bool}{f:FuncId}{w:World}{g h:List Nd}(hs:OFG s g)(ht:OFG t h){args:Array Value}(c:Calls Tryz.prog f args w (JMPost s t m w)):Calls Tryz.prog f args w fun e w'=>(∃a n c z,e = .returned (.tuple #[.slice a n c,.int .i64 z])∧BDR g h m n a z w')∧Below w.heap.size w w':=by
 refine c.mono ?_;rintro e w' ⟨q|q|q,hb⟩
 ·exact absurd hs.chk q.1
 ·exact absurd ht.chk q.2.1
 ·obtain ⟨g',h',hg,hh,a,n,c,z,e,hR⟩:=q
  rw [hg.uniq hs,hh.uniq ht]at hR;exact ⟨⟨a,n,c,z,e,hR⟩,hb⟩
def putT(x:ByteArray)(s:Ty):Ty→Ty
 | ⟨kd,so,nm,ls,ks⟩=>if kd=9∧nm=x then s else if kd=8∧nm=x then ⟨kd,so,nm,ls,ks⟩ else ⟨kd,so,nm,ls,ks.map (putT x s)⟩
def frT(x:ByteArray):Ty→Bool
 | ⟨kd,_,nm,_,ks⟩=>if kd=9 then decide (nm=x) else if kd=8∧nm=x then false else (ks.map fun q=>frT x q).any id
theorem frT_var(x:ByteArray)(t:Ty)(h:t.kind=9):frT x t=decide (t.name=x):=by cases t;rw [frT,if_pos h]
theorem frT_rec(x:ByteArray)(t:Ty)(h:t.kind=8∧t.name=x):frT x t=false:=by
 cases t
 rw [frT,if_neg (by have h8:=h.1;simp only at h8;omega),if_pos h]
theorem frT_else(x:ByteArray)(t:Ty)(h9:t.kind≠9)(h8:¬(t.kind=8∧t.name=x)):frT x t=t.kids.any (frT x):=by
 cases t
 rw [frT,if_neg h9,if_neg h8,List.any_map];rfl
theorem any_false{α : Type}{l:List α}{p : α → Bool}(h:l.any p=false):∀a∈l,p a=false:=by
 intro a ha;cases hp:p a with
 | false=>rfl
 | true=>rw [List.any_eq_true.2 ⟨a,ha,hp⟩]at h;cases h
theorem fr_den(x:ByteArray):∀t:Ty,wfT t→frT x t=false→∀r d,den t (upD r x d)=den t r:=by
 apply tyInd
 intro t ih hw hf r d;obtain ⟨hp,hk⟩:=(wfT_eq t).1 hw;by_cases h9:t.kind=9
 ·rw [frT_var x t h9]at hf
  rw [den_var t _ h9,den_var t _ h9];unfold upD;rw [if_neg (by simpa using hf)]
 by_cases h8:t.kind=8
 ·obtain ⟨q,hq⟩:=part_rec hp h8
  have hm:q∈t.kids:=by rw [hq];exact .head _
  rw [den_rec t _ h8 q hq,den_rec t _ h8 q hq];have e:(fun f=>den q (upD (upD r x d) t.name f))=fun f=>den q (upD r t.name f):=funext fun f=>by
   by_cases hn:t.name=x
   ·congr 1
    funext y
    unfold upD;by_cases hy:y=t.name
    ·rw [if_pos hy,if_pos hy]
    ·rw [if_neg hy,if_neg hy,if_neg (by rw [← hn];exact hy)]
   ·rw [frT_else x t h9 (fun h=>hn h.2)]at hf
    have hfq:=any_false hf q hm;have e2:upD (upD r x d) t.name f=upD (upD r t.name f) x d:=by
     funext y
     unfold upD;by_cases hy:y=t.name
     ·rw [if_pos hy,if_pos hy,if_neg (by rw [hy];exact hn)]
     ·rw [if_neg hy,if_neg hy]
    rw [e2];exact ih q hm (hk q hm) hfq _ d
  rw [e]
 ·rw [frT_else x t h9 (fun h=>h8 h.1)]at hf
  rw [den_node t _ h9 h8,den_node t _ h9 h8];congr 1
  exact List.map_congr_left fun q hq=>ih q hq (hk q hq) (any_false hf q hq) r d
theorem part_kids{t:Ty}(ks:List Ty)(hl:ks.length=t.kids.length)(h:partT t=true):partT ⟨t.kind,t.so,t.name,t.labels,ks⟩=true:=by
 rw [← h];unfold partT;simp only [hl]
theorem chkTL_or(ar:List ByteArray)(ks:List Ty):∀(a:Int × Nat),a.1=0→(∀k∈ks,∀c,(chkT k ar c).1=0∨((chkT k ar c).1=2∧60<c+sizeT k))→(chkTL ar ks a).1=0∨((chkTL ar ks a).1=2∧60<a.2+(ks.map sizeT).sum):=by
 induction ks with
 | nil=>intro a h _;exact .inl h
 | cons k ks ih =>
  intro a h hk;rw [chkTL_cons,if_neg (by simpa using h)]
  simp only [List.map_cons,List.sum_cons];rcases hk k (.head _) a.2 with h1|⟨h1,h2⟩
  ·have h3:=(chkT_all k ar a.2 h1).2
   rcases ih _ h1 (fun q hq=>hk q (.tail _ hq)) with h4|⟨h4,h5⟩
   ·exact .inl h4
   ·exact .inr ⟨h4,by rw [h3]at h5;omega⟩
  ·rw [chkTL_bad _ _ _ (by rw [h1];decide)]
   exact .inr ⟨h1,by omega⟩
theorem chkT_or:∀t:Ty,∀ar c,gdT t→clT t ar→sizeT t≤65536→(chkT t ar c).1=0∨((chkT t ar c).1=2∧60<c+sizeT t):=by
 apply tyInd
 intro t ih ar c hg hc hs;obtain ⟨hp,hi,hk⟩:=(gdT_eq t).1 hg;obtain ⟨c1,c2⟩:=(clT_eq t ar).1 hc;have h1:=sizeT_eq t;rw [chkT_eq];by_cases h60:60<c+1
 ·rw [if_pos h60];exact .inr ⟨rfl,by omega⟩
 rw [if_neg h60,if_neg (by rw [hp];decide),if_neg (by rintro ⟨h9,hh⟩;rw [(hasN_iff _ _).2 (c1 h9)]at hh;cases hh),if_neg (by rintro ⟨h8,hh⟩;rw [idle_idT t (gdT_wf t hg) 65536 hs,hi h8]at hh;cases hh)]
 rcases chkTL_or (if t.kind=8 then ar++[t.name] else ar) t.kids (0,c+1) rfl (fun k hm c'=>ih k hm _ c' (hk k hm) (c2 k hm) (by have:=sizeT_kid hm;omega)) with h|⟨h,h2⟩
 ·exact .inl h
 ·exact .inr ⟨h,by simp only at h2;omega⟩
theorem chkTy_or{t:Ty}(hg:gdT t)(hc:clT t [])(hs:sizeT t≤65536):chkTy t=0∨(chkTy t=2∧60<sizeT t):=by
 have:=chkT_or t [] 0 hg hc hs;rw [Nat.zero_add]at this;exact this
def varT(x:ByteArray):Ty:=⟨9,0,x,[],[]⟩
def recT(x:ByteArray)(b:Ty):Ty:=⟨8,0,x,[],[b]⟩
theorem var_gd{x:ByteArray}(h:isVr x.data.toList=true):gdT (varT x):=(gdT_eq _).2 ⟨by unfold partT varT;simp [h],fun h8=>absurd (show (9:Int)=8 from h8) (by decide),fun k hk=>(by cases hk)⟩
def nmN(i:Nat):ByteArray:=if i<26 then ⟨#[UInt8.ofNat (97+i)]⟩ else ⟨#[UInt8.ofNat (97+i / 26 - 1),UInt8.ofNat (97+i % 26)]⟩
def upB(f:Nat→Bool)(i:Nat)(b:Bool):Nat→Bool:=fun j=>if j=i then b else f j
theorem upB_same(f:Nat→Bool)(i:Nat)(b:Bool):upB f i b i=b:=if_pos rfl
theorem upB_other(f:Nat→Bool)(i:Nat)(b:Bool){j:Nat}(h:j≠i):upB f i b j=f j:=if_neg h
abbrev SB:=(Nat→Bool) × Nat
def stB(F:Nat→SB→Ty × SB)(a:List Ty × SB)(j:Nat):List Ty × SB:=(a.1++[(F j a.2).1],(F j a.2).2)
def bkL(F:Nat→SB→Ty × SB)(tos:List Nat)(a:List Ty × SB):List Ty × SB:=tos.foldl (stB F) a
def zT:Ty:=⟨0,0,⟨#[]⟩,[],[]⟩
def ndT(n:Nd)(ks:List Ty):Ty:=⟨n.kind,n.so,⟨#[]⟩,n.labs,ks⟩
def bkT(g:List Nd):Nat→(Nat→Bool)→Nat→SB→Ty × SB
 | 0,_,_,st=>(zT,st)
 | f+1,ps,i,st =>
  if 60<st.2+1 then (zT,(st.1,st.2+1))
  else if ps i=true then (varT (nmN i),(upB st.1 i true,st.2+1))
  else if (bkL (bkT g f (upB ps i true)) (nodeAt g i).to ([],(upB st.1 i false,st.2+1))).2.1 i=true then
   (recT (nmN i) (ndT (nodeAt g i) (bkL (bkT g f (upB ps i true)) (nodeAt g i).to ([],(upB st.1 i false,st.2+1))).1),((bkL (bkT g f (upB ps i true)) (nodeAt g i).to ([],(upB st.1 i false,st.2+1))).2.1,(bkL (bkT g f (upB ps i true)) (nodeAt g i).to ([],(upB st.1 i false,st.2+1))).2.2+1))
  else (ndT (nodeAt g i) (bkL (bkT g f (upB ps i true)) (nodeAt g i).to ([],(upB st.1 i false,st.2+1))).1,(bkL (bkT g f (upB ps i true)) (nodeAt g i).to ([],(upB st.1 i false,st.2+1))).2)
theorem bkL_cons(F:Nat→SB→Ty × SB)(j:Nat)(tos:List Nat)(a:List Ty × SB):bkL F (j::tos) a=bkL F tos (stB F a j):=rfl
theorem bkL_snoc(F:Nat→SB→Ty × SB)(j:Nat)(tos:List Nat)(a:List Ty × SB):bkL F (tos++[j]) a=stB F (bkL F tos a) j:=by
 unfold bkL;rw [List.foldl_append];rfl
theorem bkL_mono{F:Nat→SB→Ty × SB}(h:∀j st,st.2≤(F j st).2.2):∀(tos:List Nat) (a:List Ty × SB),a.2.2≤(bkL F tos a).2.2
 | [],_=>Nat.le_refl _
 | j::tos,a=>by
  rw [bkL_cons];exact Nat.le_trans (h j a.2) (bkL_mono h tos (stB F a j))
theorem bk_mono(g:List Nd):∀(f:Nat) (ps:Nat→Bool) (i:Nat) (st:SB),st.2≤(bkT g f ps i st).2.2
 | 0,_,_,_=>Nat.le_refl _
 | f+1,ps,i,st=>by
  have hL:=bkL_mono (bk_mono g f (upB ps i true)) (nodeAt g i).to ([],(upB st.1 i false,st.2+1));have hL':st.2+1≤(bkL (bkT g f (upB ps i true)) (nodeAt g i).to ([],(upB st.1 i false,st.2+1))).2.2:=hL;rw [bkT];split
  ·exact Nat.le_succ _
  ·split
   ·exact Nat.le_succ _
   ·split
    ·exact Nat.le_trans (Nat.le_succ _) (Nat.le_trans hL' (Nat.le_succ _))
    ·exact Nat.le_trans (Nat.le_succ _) hL'
structure BK(g:List Nd)(ps:Nat→Bool)(i:Nat)(st:SB)(T:Ty)(st':SB):Prop where
 sz:st.2+sizeT T=st'.2
 gd:gdT T
 id:ps i=false→idT T=false
 mt:∀j,ps j=true→st.1 j=true→st'.1 j=true
 fr:∀x,frT x T=true→∃j,ps j=true∧st'.1 j=true∧x=nmN j
 dn:∀r:ByteArray→Dn,(∀j,ps j=true→r (nmN j)=fun k=>gT g k j)→den T r=fun k=>gT g k i
structure BKs(g:List Nd)(ps:Nat→Bool)(tos:List Nat)(st:SB)(ks:List Ty)(st':SB):Prop where
 ln:ks.length=tos.length
 sz:st.2+(ks.map sizeT).sum=st'.2
 gd:∀q∈ks,gdT q
 mt:∀j,ps j=true→st.1 j=true→st'.1 j=true
 fr:∀q∈ks,∀x,frT x q=true→∃j,ps j=true∧st'.1 j=true∧x=nmN j
 dn:∀r:ByteArray→Dn,(∀j,ps j=true→r (nmN j)=fun k=>gT g k j)→ks.map (fun q=>den q r)=tos.map fun j k=>gT g k j
theorem bkL_ok{g:List Nd}{ps:Nat→Bool}{F:Nat→SB→Ty × SB}{f:Nat}(hm:∀j st,st.2≤(F j st).2.2)(hF:∀j st,61≤f+st.2→j<g.length→(F j st).2.2≤60→BK g ps j st (F j st).1 (F j st).2):
  ∀(tos:List Nat) (a:List Ty × SB),(∀j∈tos,j<g.length)→61≤f+a.2.2→(bkL F tos a).2.2≤60→∃ks,(bkL F tos a).1=a.1++ks∧BKs g ps tos a.2 ks (bkL F tos a).2
 | [],a,_,_,_=>⟨[],(List.append_nil _).symm,rfl,rfl,(fun q hq=>by cases hq),fun _ _ h=>h,(fun q hq=>by cases hq),fun _ _=>rfl⟩
 | j::tos,a,hj,hf,h60=>by
  rw [bkL_cons]at h60 ⊢;have h1:(F j a.2).2.2≤(bkL F tos (stB F a j)).2.2:=bkL_mono hm tos (stB F a j);have K:=hF j a.2 hf (hj j (.head _)) (by omega)
  have hf2:61≤f+(stB F a j).2.2:=by have:=hm j a.2;show 61≤f+(F j a.2).2.2;omega
  obtain ⟨ks,e,L⟩:=bkL_ok hm hF tos (stB F a j) (fun q hq=>hj q (.tail _ hq)) hf2 h60
  refine ⟨(F j a.2).1::ks,?_,?_⟩
  ·rw [e]
   show (a.1++[(F j a.2).1])++ks=_
   rw [List.append_assoc];rfl
  ·refine ⟨by simp [L.ln],?_,?_,fun q hq hs=>L.mt q hq (K.mt q hq hs),?_,fun r hr=>?_⟩
   ·have s1:=K.sz
    have s2:(F j a.2).2.2+(ks.map sizeT).sum=(bkL F tos (stB F a j)).2.2:=L.sz;rw [List.map_cons,List.sum_cons];omega
   ·intro q hq
    rcases List.mem_cons.1 hq with rfl|hq
    ·exact K.gd
    ·exact L.gd q hq
   ·intro q hq x hx
    rcases List.mem_cons.1 hq with rfl|hq
    ·obtain ⟨j',p1,p2,p3⟩:=K.fr x hx
     exact ⟨j',p1,L.mt j' p1 p2,p3⟩
    ·exact L.fr q hq x hx
   ·rw [List.map_cons,List.map_cons,K.dn r hr,L.dn r hr]
theorem rec_part{x:ByteArray}(h:isVr x.data.toList=true)(b:Ty):partT (recT x b)=true:=by unfold partT recT;simp [h]
theorem okN_kind{n:Nd}(h:okN n):n.kind≠9∧n.kind≠8:=by
 have:=okN_cases h;omega
theorem bk_ok{g:List Nd}(hg:GN g)(hinj:∀i j,i<g.length→j<g.length→nmN i=nmN j→i=j)(hvr:∀i,i<g.length→isVr (nmN i).data.toList=true):
  ∀(f:Nat) (ps:Nat→Bool) (i:Nat) (st:SB),61≤f+st.2→i<g.length→(∀j,ps j=true→j<g.length)→(bkT g f ps i st).2.2≤60→BK g ps i st (bkT g f ps i st).1 (bkT g f ps i st).2
 | 0,_,_,st,hf,_,_,h60=>by have:st.2≤60:=h60;omega
 | f+1,ps,i,st,hf,hi,hps,h60=>by
  rw [bkT]at h60 ⊢;by_cases h1:60<st.2+1
  ·rw [if_pos h1]at h60
   have:st.2+1≤60:=h60;omega
  rw [if_neg h1]at h60 ⊢;by_cases h2:ps i=true
  ·rw [if_pos h2]
   refine ⟨?_,var_gd (hvr i hi),(fun q=>by rw [h2]at q;cases q),fun j hj hs=>?_,fun x hx=>?_,fun r hr=>?_⟩
   ·rw [sizeT_eq];rfl
   ·show upB st.1 i true j=true
    by_cases e:j=i
    ·rw [e,upB_same]
    ·rw [upB_other _ _ _ e];exact hs
   ·rw [frT_var x _ rfl]at hx
    exact ⟨i,h2,upB_same _ _ _,(of_decide_eq_true hx).symm⟩
   ·rw [den_var _ _ rfl]
    exact hr i h2
  rw [if_neg h2]at h60 ⊢;have h2f:ps i=false:=by cases h:ps i <;> simp_all
  have hps':∀j,upB ps i true j=true→j<g.length:=fun j hj=>by
   by_cases e:j=i
   ·rw [e];exact hi
   ·rw [upB_other _ _ _ e]at hj;exact hps j hj
  have hm:=bk_mono g f (upB ps i true);have hto:∀j∈(nodeAt g i).to,j<g.length:=fun j hj=>by
   obtain ⟨x,hx,rfl⟩:=List.mem_iff_getElem.1 hj;have:=hg.to_ (i:=i) x hx;unfold toAt at this;rw [List.getElem?_eq_getElem hx]at this;exact this
  have hr60:(bkL (bkT g f (upB ps i true)) (nodeAt g i).to ([],(upB st.1 i false,st.2+1))).2.2≤60:=by
   split at h60
   ·have h60:_+1≤60:=h60
    omega
   ·exact h60
  obtain ⟨ks,ek,L⟩:=bkL_ok (g:=g) (ps:=upB ps i true) (f:=f) hm (fun j st' hf' hj h=>bk_ok hg hinj hvr f (upB ps i true) j st' hf' hj hps' h) (nodeAt g i).to ([],(upB st.1 i false,st.2+1)) hto (by show 61≤f+(st.2+1);omega) hr60
  rw [List.nil_append]at ek;rw [ek];generalize bkL (bkT g f (upB ps i true)) (nodeAt g i).to ([],(upB st.1 i false,st.2+1))=R at *;have hok:=hg.at_ hi;obtain ⟨k9,k8⟩:=okN_kind hok;have hpt:partT (ndT (nodeAt g i) ks)=true:=part_kids (t:=⟨(nodeAt g i).kind,(nodeAt g i).so,⟨#[]⟩,(nodeAt g i).labs,(nodeAt g i).to.map fun _=>endT⟩) ks (by rw [L.ln];simp) hok
  have hgd:gdT (ndT (nodeAt g i) ks):=(gdT_eq _).2 ⟨hpt,fun q=>absurd q k8,L.gd⟩
  have hid:idT (ndT (nodeAt g i) ks)=false:=idT_node _ k9 k8;have hsz:sizeT (ndT (nodeAt g i) ks)=1+(ks.map sizeT).sum:=sizeT_eq _;have hLs:st.2+1+(ks.map sizeT).sum=R.2.2:=L.sz;have hfr:∀x,frT x (ndT (nodeAt g i) ks)=true→∃j,upB ps i true j=true∧R.2.1 j=true∧x=nmN j:=fun x hx=>by
   rw [frT_else x _ k9 (fun h=>k8 h.1)]at hx
   obtain ⟨q,hq,hx⟩:=List.any_eq_true.1 hx;exact L.fr q hq x hx
  have hmt:∀j,ps j=true→st.1 j=true→R.2.1 j=true:=fun j hj hs=>by
   have e:j≠i:=fun e=>by rw [e,h2f]at hj;cases hj
   exact L.mt j (by rw [upB_other _ _ _ e];exact hj) (by show upB st.1 i false j=true;rw [upB_other _ _ _ e];exact hs)
  have hdn:∀r:ByteArray→Dn,(∀j,ps j=true→r (nmN j)=fun k=>gT g k j)→den (ndT (nodeAt g i) ks) (upD r (nmN i) fun k=>gT g k i)=fun k=>gT g k i:=fun r hr=>by
   have hr':∀j,upB ps i true j=true→upD r (nmN i) (fun k=>gT g k i) (nmN j)=fun k=>gT g k j:=fun j hj=>by
    unfold upD;by_cases e:j=i
    ·rw [e,if_pos rfl]
    ·rw [if_neg (fun q=>e (hinj j i (hps' j hj) hi q))]
     rw [upB_other _ _ _ e]at hj;exact hr j hj
   rw [den_node _ _ k9 k8];show stD (nodeAt g i).kind (nodeAt g i).so (nodeAt g i).labs (ks.map fun q=>den q (upD r (nmN i) fun k=>gT g k i))=_
   rw [L.dn _ hr'];funext k
   cases k with
   | zero=>rfl
   | succ k =>
    show (⟨_,_,_,((nodeAt g i).to.map fun j k=>gT g k j).map fun f=>f k⟩:Tr)=_
    rw [List.map_map];rfl
  by_cases h3:R.2.1 i=true
  ·rw [if_pos h3]
   have hrid:idT (recT (nmN i) (ndT (nodeAt g i) ks))=false:=by rw [idT_rec _ rfl _ rfl];exact hid
   have hrg:gdT (recT (nmN i) (ndT (nodeAt g i) ks)):=(gdT_eq _).2 ⟨rec_part (hvr i hi) _,fun _=>hrid,fun q hq=>by rw [List.mem_singleton.1 hq];exact hgd⟩
   refine ⟨?_,hrg,fun _=>hrid,hmt,fun x hx=>?_,fun r hr=>?_⟩
   ·rw [sizeT_eq]
    show st.2+(1+(sizeT (ndT (nodeAt g i) ks)+0))=R.2.2+1
    omega
   ·by_cases e:nmN i=x
    ·rw [frT_rec x _ ⟨rfl,e⟩]at hx;cases hx
    ·rw [frT_else x _ (show (8:Int)≠9 by decide) (fun h=>e h.2)]at hx
     obtain ⟨q,hq,hx⟩:=List.any_eq_true.1 hx;rw [List.mem_singleton.1 hq]at hx;obtain ⟨j,p1,p2,p3⟩:=hfr x hx;have hji:j≠i:=fun q=>e (by rw [p3,q])
     rw [upB_other _ _ _ hji]at p1;exact ⟨j,p1,p2,p3⟩
   ·exact (den_one hrg rfl rfl r (hdn r hr).symm).symm
  ·rw [if_neg h3]
   have hno:∀j,upB ps i true j=true→R.2.1 j=true→j≠i:=fun j _ p2 q=>h3 (q ▸ p2)
   refine ⟨by rw [hsz];show st.2+(1+_)=R.2.2;omega,hgd,fun _=>hid,hmt,fun x hx=>?_,fun r hr=>?_⟩
   ·obtain ⟨j,p1,p2,p3⟩:=hfr x hx
    have hji:=hno j p1 p2;rw [upB_other _ _ _ hji]at p1;exact ⟨j,p1,p2,p3⟩
   ·have hf0:frT (nmN i) (ndT (nodeAt g i) ks)=false:=by
     cases hq:frT (nmN i) (ndT (nodeAt g i) ks) with
     | false=>rfl
     | true =>
      obtain ⟨j,p1,p2,p3⟩:=hfr _ hq;exact absurd (hinj i j hi (hps' j p1) p3).symm (hno j p1 p2)
    rw [← fr_den (nmN i) _ (gdT_wf _ hgd) hf0 r fun k=>gT g k i]
    exact hdn r hr
def unN(b:ByteArray):Nat :=
 match b.data.toList with
 | [x]=>x.toNat - 97
 | [x,y]=>(x.toNat - 96)*26+(y.toNat - 97)
 | _=>0
theorem nm_all:((List.range 200).all fun i=>decide (unN (nmN i)=i) && isVr (nmN i).data.toList)=true:=by kernel_rfl
theorem nm_at{i:Nat}(hi:i<200):unN (nmN i)=i∧isVr (nmN i).data.toList=true:=by
 have h:=List.all_eq_true.1 nm_all i (List.mem_range.2 hi);rw [Bool.and_eq_true]at h;exact ⟨of_decide_eq_true h.1,h.2⟩
theorem nmN_inj{i j:Nat}(hi:i<200)(hj:j<200)(h:nmN i=nmN j):i=j:=by
 rw [← (nm_at hi).1,← (nm_at hj).1,h]
theorem part_var{t:Ty}(hp:partT t=true)(h9:t.kind=9):t.kids=[]:=by
 unfold partT at hp;simp [h9]at hp;exact hp.2
theorem cl_of_fr:∀t:Ty,wfT t→∀ns,(∀x,frT x t=true→x∈ns)→clT t ns:=by
 apply tyInd
 intro t ih hw ns h;obtain ⟨hp,hk⟩:=(wfT_eq t).1 hw;refine (clT_eq t ns).2 ⟨fun h9=>h _ (by rw [frT_var _ _ h9];simp),fun q hq=>ih q hq (hk q hq) _ fun x hx=>?_⟩
 have h9:t.kind≠9:=fun h9=>by rw [part_var hp h9]at hq;cases hq
 by_cases h8:t.kind=8
 ·rw [if_pos h8]
  by_cases e:t.name=x
  ·rw [e];exact List.mem_append_right _ (.head _)
  ·exact List.mem_append_left _ (h x (by rw [frT_else x t h9 (fun q=>e q.2)];exact List.any_eq_true.2 ⟨q,hq,hx⟩))
 ·rw [if_neg h8]
  exact h x (by rw [frT_else x t h9 (fun q=>h8 q.1)];exact List.any_eq_true.2 ⟨q,hq,hx⟩)
def backP(g:List Nd):Ty × SB:=bkT g 61 (fun _=>false) 0 (fun _=>false,0)
theorem back_ok{g:List Nd}(hg:GN g)(hl:g.length≤200)(h:(backP g).2.2≤60):chkTy (backP g).1=0∧den (backP g).1 e0=fun k=>gT g k 0:=by
 have K:=bk_ok hg (fun i j hi hj=>nmN_inj (by omega) (by omega)) (fun i hi=>(nm_at (by omega)).2) 61 (fun _=>false) 0 (fun _=>false,0) (by show 61≤61+0;omega) hg.pos (fun j hj=>by cases hj) h
 have hcl:clT (backP g).1 []:=cl_of_fr _ (gdT_wf _ K.gd) [] fun x hx=>by
  obtain ⟨j,p,_⟩:=K.fr x hx;cases p
 have hsz:sizeT (backP g).1≤60:=by
  have:=K.sz;have h2:(bkT g 61 (fun _=>false) 0 (fun _=>false,0)).2.2≤60:=h
  show sizeT (bkT g 61 (fun _=>false) 0 (fun _=>false,0)).1≤60
  have h3:(0:Nat)+sizeT (bkT g 61 (fun _=>false) 0 (fun _=>false,0)).1=_:=K.sz
  omega
 refine ⟨?_,K.dn e0 fun j hj=>by cases hj⟩
 rcases chkTy_or K.gd hcl (by show sizeT (backP g).1≤_;omega) with q|q
 ·exact q
 ·have q2:60<sizeT (backP g).1:=q.2
  omega
theorem conv1(w:World)(z:Int):(convert 117 9 (.slice (some ⟨w.heap.size,0,none⟩) 1 1)).run Tryz.prog (w.alloc (.cells #[.int .u8 z] 5)) = .ok (.string ⟨#[UInt8.ofNat z.toNat]⟩) (w.alloc (.cells #[.int .u8 z] 5)):=by
 rw [run_convert_bytes_string (P:=Tryz.prog) _ 117 9 5 _ _ _ Tryz.underlying117 Tryz.underlying5 Tryz.underlying9];rw [run_bytesToString _ _ _ _ [z]]
 ·rfl
 ·rw [run_loadCells _ ⟨w.heap.size,0,none⟩ 1 (fun _=>.int .u8 z) (fun j hj=>by
   obtain rfl:j=0:=by omega
   show World.cell? _ ⟨w.heap.size,0,none⟩=_
   go_cell)]
  rfl
theorem conv2(w:World)(z y:Int):(convert 117 9 (.slice (some ⟨w.heap.size,0,none⟩) 2 2)).run Tryz.prog (w.alloc (.cells #[.int .u8 z,.int .u8 y] 5)) = .ok (.string ⟨#[UInt8.ofNat z.toNat,UInt8.ofNat y.toNat]⟩) (w.alloc (.cells #[.int .u8 z,.int .u8 y] 5)):=by
 rw [run_convert_bytes_string (P:=Tryz.prog) _ 117 9 5 _ _ _ Tryz.underlying117 Tryz.underlying5 Tryz.underlying9];rw [run_bytesToString _ _ _ _ [z,y]]
 ·rfl
 ·rw [run_loadCells _ ⟨w.heap.size,0,none⟩ 2 (fun j=>if j=0 then .int .u8 z else .int .u8 y) (fun j hj=>by
   have:j=0∨j=1:=by omega
   rcases this with rfl|rfl
   ·show World.cell? _ ⟨w.heap.size,0,none⟩=_
    go_cell
   ·show World.cell? _ ⟨w.heap.size,1,none⟩=_
    go_cell)]
  rfl
theorem nodeName_any(i:Nat)(hi:i<200)(w:World):
  Calls Tryz.prog 36 #[.int .i64 (i:Int)] w fun e w'=>e = .returned (.string (nmN i))∧Below w.heap.size w w':=by
 by_cases h:i<26
 ·have hz:(i:Int)<26:=by omega
  have HN:=hideK (show (⟨#[UInt8.ofNat (97+(i:Int) % 26).toNat]⟩:ByteArray)=nmN i from by
   unfold nmN;rw [if_pos h,show (97+(i:Int) % 26).toNat=97+i by omega])
  go_enter Tryz.func36,Tryz.ntmps36
  go_wp2_with fail
  rw [conv1];go_wp2_with fail
  go_ret
  exact ⟨congrArg (fun b=>Ending.returned (Value.string b)) HN.out,(Below.refl _ _).alloc (Nat.le_refl _) _⟩
 ·have hz:¬(i:Int)<26:=by omega
  have HN:=hideK (show (⟨#[UInt8.ofNat ((97+(i:Int) / 26).toNat - 1),UInt8.ofNat (97+(i:Int) % 26).toNat]⟩:ByteArray)=nmN i from by
   unfold nmN;rw [if_neg h,show (97+(i:Int) / 26).toNat - 1=97+i / 26 - 1 by omega,show (97+(i:Int) % 26).toNat=97+i % 26 by omega])
  go_enter Tryz.func36,Tryz.ntmps36
  go_wp2_with fail
  rw [conv2];go_wp2_with fail
  go_ret
  exact ⟨congrArg (fun b=>Ending.returned (Value.string b)) HN.out,(Below.refl _ _).alloc (Nat.le_refl _) _⟩
def LP(W:World)(P:Nat→Prop)(ls:List ByteArray)(al:OAd):Prop :=
 ls=[]∨∃b o,al=some ⟨b,o,none⟩∧P b∧∀i (h:i<ls.length),W.cell? ⟨b,o+i,none⟩=some (.string ls[i])
def KP(W:World)(P:Nat→Prop):Nat→List Ty→OAd→Prop
 | 0,ks,_=>ks=[]
 | d+1,ks,ak=>ks=[]∨∃b o,ak=some ⟨b,o,none⟩∧P b∧∀i (h:i<ks.length),∃al cl ak' ck',TyAt W b (o+i*5) ks[i] al cl ak' ck'∧TyBd ks[i] cl ck'∧LP W P ks[i].labels al∧KP W P d ks[i].kids ak'
theorem LP.keep{W W':World}{P Q:Nat→Prop}(hb:∀b o,P b→W'.cell? ⟨b,o,none⟩=W.cell? ⟨b,o,none⟩)(hq:∀b,P b→Q b){ls:List ByteArray}{al:OAd}(h:LP W P ls al):LP W' Q ls al :=
 h.imp id fun ⟨b,o,e,hp,hc⟩=>⟨b,o,e,hq b hp,fun i hi=>(hb b _ hp).trans (hc i hi)⟩
theorem KP.keep{W W':World}{P Q:Nat→Prop}(hb:∀b o,P b→W'.cell? ⟨b,o,none⟩=W.cell? ⟨b,o,none⟩)(hq:∀b,P b→Q b):∀ {d:Nat} {ks:List Ty} {ak:OAd},KP W P d ks ak→KP W' Q d ks ak
 | 0,_,_,h=>h
 | d+1,ks,ak,h=>by
  rcases h with h|⟨b,o,h1,h2,h3⟩
  ·exact .inl h
  ·refine .inr ⟨b,o,h1,hq b h2,fun i hi=>?_⟩
   obtain ⟨al,cl,ak',ck',e,f,g,k⟩:=h3 i hi;exact ⟨al,cl,ak',ck',⟨(hb b _ h2).trans e.c0,(hb b _ h2).trans e.c1,(hb b _ h2).trans e.c2,(hb b _ h2).trans e.c3,(hb b _ h2).trans e.c4⟩,f,LP.keep hb hq g,KP.keep hb hq k⟩
theorem KP.up{W:World}{P:Nat→Prop}:∀ {d e:Nat} {ks:List Ty} {ak:OAd},d≤e→KP W P d ks ak→KP W P e ks ak
 | 0,0,_,_,_,h=>h
 | 0,e+1,_,_,_,h=>.inl h
 | d+1,0,_,_,hd,_=>by omega
 | d+1,e+1,ks,ak,hd,h=>by
  rcases h with h|⟨b,o,h1,hl,h⟩
  ·exact .inl h
  ·exact .inr ⟨b,o,h1,hl,fun i hi=>by
    obtain ⟨al,cl,ak',ck',h1,h2,h3,h4⟩:=h i hi;exact ⟨al,cl,ak',ck',h1,h2,h3,KP.up (by omega) h4⟩⟩
theorem LP.la{W:World}{P:Nat→Prop}{B:Nat}(hq:∀b,P b→b<B){ls:List ByteArray}{al:OAd}(h:LP W P ls al):LA W B ls al:=by
 rcases h with rfl|⟨b,o,e,hp,hc⟩
 ·exact .inl rfl
 ·exact .inr ⟨b,o,e,hq b hp,fun i hi=>by rw [List.length_map]at hi;rw [List.getElem_map];exact hc i hi⟩
theorem KP.kt{W:World}{P:Nat→Prop}{B:Nat}(hq:∀b,P b→b<B):∀ {d:Nat} {ks:List Ty} {ak:OAd},KP W P d ks ak→KT W B d ks ak
 | 0,_,_,h=>h
 | d+1,ks,ak,h=>by
  rcases h with h|⟨b,o,h1,h2,h3⟩
  ·exact .inl h
  ·refine .inr ⟨b,o,h1,hq b h2,fun i hi=>?_⟩
   obtain ⟨al,cl,ak',ck',e,f,g,k⟩:=h3 i hi;exact ⟨al,cl,ak',ck',e,f,g.la hq,KP.kt hq k⟩
abbrev TTk:=Ty × (OAd × Nat) × (OAd × Nat)
def tC(t:TTk):List Value:=[.int .i64 t.1.kind,.int .i64 t.1.so,.string t.1.name,.slice t.2.1.1 t.1.labels.length t.2.1.2,.slice t.2.2.1 t.1.kids.length t.2.2.2]
def tCs(ts:List TTk):List Value:=ts.flatMap tC
theorem tCs_snoc(ts:List TTk)(x:TTk):tCs (ts++[x])=tCs ts++tC x:=by simp [tCs]
theorem tC_one(t:TTk):∀y∈tC t,y.oneCell'=true:=by
 intro y hy;simp only [tC,List.mem_cons,List.not_mem_nil,or_false]at hy;rcases hy with rfl|rfl|rfl|rfl|rfl <;> rfl
theorem tCs_at:∀(ss:List TTk) (i:Nat) (h:i<ss.length) (j:Nat),j<5→(tCs ss)[i*5+j]? = (tC ss[i])[j]?
 | [],i,h,_,_=>by simp at h
 | s::ss,0,_,j,hj=>by
  have e:tCs (s::ss)=tC s++tCs ss:=rfl;rw [e,List.getElem?_append_left (by simp [tC];omega)]
  simp
 | s::ss,i+1,h,j,hj=>by
  have e:tCs (s::ss)=tC s++tCs ss:=rfl;have hl:(tC s).length=5:=rfl;rw [e,List.getElem?_append_right (by rw [hl];omega),hl,show (i+1)*5+j - 5=i*5+j by omega]
  exact tCs_at ss i (by simpa using h) j hj
def TOK(W:World)(P:Nat→Prop)(ts:List TTk):Prop:=∀q∈ts,TyBd q.1 q.2.1.2 q.2.2.2∧LP W P q.1.labels q.2.1.1∧∃d,KP W P d q.1.kids q.2.2.1
theorem TOK.keep{W W':World}{P Q:Nat→Prop}{ts:List TTk}(h:TOK W P ts)(hb:∀b o,P b→W'.cell? ⟨b,o,none⟩=W.cell? ⟨b,o,none⟩)(hq:∀b,P b→Q b):TOK W' Q ts :=
 fun q hm=>⟨(h q hm).1,(h q hm).2.1.keep hb hq,by obtain ⟨d,hd⟩:=(h q hm).2.2;exact ⟨d,hd.keep hb hq⟩⟩
theorem tok_depth{W:World}{P:Nat→Prop}:∀ {ts:List TTk},TOK W P ts→∃D,∀q∈ts,KP W P D q.1.kids q.2.2.1
 | [],_=>⟨0,fun q hq=>by cases hq⟩
 | x::ts,h=>by
  obtain ⟨D,hD⟩:=tok_depth (ts:=ts) fun q hq=>h q (.tail _ hq)
  obtain ⟨d,hd⟩:=(h x (.head _)).2.2;exact ⟨D+d,fun q hq=>by
   rcases List.mem_cons.1 hq with rfl|hq
   ·exact hd.up (by omega)
   ·exact (hD q hq).up (by omega)⟩
theorem kp_row{W:World}{base n:Nat}{v:Value}{ts:List TTk}{P:Nat→Prop}(ho:W.ownsRow base 25 5 v n (tCs ts))(hn:ts.length=n)(ht:TOK W P ts)(hv:∀b,v.ownBlock=some b→P b):∃ak ck d,v = .slice ak n ck∧n≤ck∧ck≤9223372036854775807∧KP W P d (ts.map fun q=>q.1) ak:=by
 obtain ⟨D,hD⟩:=tok_depth ht;rcases ho.2 with ⟨rfl,h0⟩|⟨g,cap,cur,rfl,_,hc,h1,h2,_,_⟩
 ·have:ts=[]:=List.eq_nil_of_length_eq_zero (by omega)
  subst this;exact ⟨none,0,0,by rw [h0],by omega,by omega,rfl⟩
 ·unfold maxLen at h2
  obtain ⟨g',c',e,_,_,hcell⟩:=(own_cells ho).resolve_left (fun q=>by cases q.1)
  injection e with e1 _ e3
  injection e1 with e1
  injection e1 with e1
  subst e1 e3;refine ⟨_,cap,D+1,rfl,h1,by omega,.inr ⟨g,0,rfl,hv g rfl,fun i hi=>?_⟩⟩
  have hi':i<ts.length:=by simpa using hi
  have ge:(ts.map fun q=>q.1)[i]=ts[i].1:=by simp
  rw [ge];have hm:=List.getElem_mem hi';have hcl:∀j y,j<5→(tC ts[i])[j]? = some y→W.cell? ⟨g,0+i*5+j,none⟩=some y:=fun j y hj hy=>by
   rw [Nat.zero_add];exact hcell _ _ ((tCs_at ts i hi' j hj).trans hy)
  exact ⟨ts[i].2.1.1,ts[i].2.1.2,ts[i].2.2.1,ts[i].2.2.2,⟨hcl 0 _ (by omega) rfl,hcl 1 _ (by omega) rfl,hcl 2 _ (by omega) rfl,hcl 3 _ (by omega) rfl,hcl 4 _ (by omega) rfl⟩,(ht _ hm).1,(ht _ hm).2.1,hD _ hm⟩
theorem infoTy:(Tryz.prog.info? 25).map (fun i=>(i.zero,i.size,i.bytes))=some (some (.agg #[.int .i64 0,.int .i64 0,.string ⟨#[]⟩,.slice none 0 0,.slice none 0 0]),5,80):=by kernel_rfl
end Go.Proofs.YtnedgkcejlhnbaaGreatDoor
