/-
  Programs as data: a process, a definition; how they lie in memory, and that every program handed in lies so.
-/
import Derived.Test.YtmamabhhgfcjcaaGreatDoorKa
set_option maxRecDepth 100000
namespace Go.Proofs.YtmamabhhgfcjcaaGreatDoor
open Go.RowKit Go.Deep Go.Joins Go.ChangeShapes Go.WideShapes
structure Pr where
 kind:Int
 chan:ByteArray
 name:ByteArray
 label:ByteArray
 ex:Ex
 exs:List Ex
 names:List ByteArray
 ty:Ty
 labels:List ByteArray
 kids:List Pr
structure PrA where
 ea:OAd
 ec:Nat
 xa:OAd
 xc:Nat
 na:OAd
 nc:Nat
 tl:OAd
 tlc:Nat
 tk:OAd
 tkc:Nat
 la:OAd
 lc:Nat
 ka:OAd
 kc:Nat
def sizeP:Pr→Nat
 | ⟨_,_,_,_,_,_,_,_,_,ks⟩=>1+(ks.map sizeP).sum
theorem sizeP_eq(t:Pr):sizeP t=1+(t.kids.map sizeP).sum:=by cases t;rw [sizeP]
theorem sizeP_kid{t k:Pr}(h:k∈t.kids):sizeP k<sizeP t:=by
 rw [sizeP_eq t];have:∀l:List Pr,k∈l→sizeP k≤(l.map sizeP).sum:=by
  intro l;induction l with
  | nil=>intro h;cases h
  | cons a l ih =>
   intro h;simp only [List.map_cons,List.sum_cons];rcases List.mem_cons.1 h with rfl|h
   ·omega
   ·have:=ih h;omega
 have:=this _ h;omega
theorem prInd{P:Pr→Prop}(h:∀t,(∀k∈t.kids,P k)→P t):∀t,P t:=by
 have:∀n t,sizeP t≤n→P t:=by
  intro n;induction n with
  | zero=>intro t ht;have:=sizeP_eq t;omega
  | succ n ih=>intro t ht;exact h t (fun k hk=>ih k (by have:=sizeP_kid hk;omega))
 exact fun t=>this _ t (nR _)
structure NmsAt(W:World)(B:Nat)(ls:List ByteArray)(al:OAd)(cl:Nat):Prop where
 siz:∀l∈ls,l.size≤9223372036854775807
 len:ls.length≤cl
 cap:cl≤9223372036854775807
 la:LA W B ls al
theorem NmsAt.keep{W W':World}{B:Nat}{ls:List ByteArray}{al:OAd}{cl:Nat}(h:NmsAt W B ls al cl)(hb:Below B W W'):NmsAt W' B ls al cl:=⟨h.siz,h.len,h.cap,NAt.keep hb h.la⟩
theorem NmsAt.mono{W:World}{B B':Nat}{ls:List ByteArray}{al:OAd}{cl:Nat}(h:NmsAt W B ls al cl)(hB:B≤B'):NmsAt W B' ls al cl:=⟨h.siz,h.len,h.cap,NAt.mono hB h.la⟩
structure ExsAt(W:World)(B:Nat)(xs:List Ex)(ax:OAd)(cx:Nat):Prop where
 len:xs.length≤cx
 cap:cx≤9223372036854775807
 ka:∃d,KA W B d xs ax
theorem ExsAt.keep{W W':World}{B:Nat}{ls:List Ex}{al:OAd}{cl:Nat}(h:ExsAt W B ls al cl)(hb:Below B W W'):ExsAt W' B ls al cl:=⟨h.len,h.cap,h.ka.imp fun _ q=>KA.keep hb q⟩
theorem ExsAt.mono{W:World}{B B':Nat}{ls:List Ex}{al:OAd}{cl:Nat}(h:ExsAt W B ls al cl)(hB:B≤B'):ExsAt W B' ls al cl:=⟨h.len,h.cap,h.ka.imp fun _ q=>KA.mono hB q⟩
structure TysAt(W:World)(B:Nat)(xs:List Ty)(ax:OAd)(cx:Nat):Prop where
 len:xs.length≤cx
 cap:cx≤9223372036854775807
 kt:∃d,KT W B d xs ax
theorem TysAt.keep{W W':World}{B:Nat}{ls:List Ty}{al:OAd}{cl:Nat}(h:TysAt W B ls al cl)(hb:Below B W W'):TysAt W' B ls al cl:=⟨h.len,h.cap,h.kt.imp fun _ q=>KT.keep hb q⟩
theorem TysAt.mono{W:World}{B B':Nat}{ls:List Ty}{al:OAd}{cl:Nat}(h:TysAt W B ls al cl)(hB:B≤B'):TysAt W B' ls al cl:=⟨h.len,h.cap,h.kt.imp fun _ q=>KT.mono hB q⟩
def prCs(p:Pr)(a:PrA):List Value:=[.int .i64 p.kind,.string p.chan,.string p.name,.string p.label,.int .i64 p.ex.kind,.string p.ex.name,.int .i64 p.ex.so,.int .i64 p.ex.n,.string p.ex.s,.slice a.ea p.ex.kids.length a.ec,.slice a.xa p.exs.length a.xc,.slice a.na p.names.length a.nc,.int .i64 p.ty.kind,.int .i64 p.ty.so,.string p.ty.name,.slice a.tl p.ty.labels.length a.tlc,.slice a.tk p.ty.kids.length a.tkc,.slice a.la p.labels.length a.lc,.slice a.ka p.kids.length a.kc]
def prVal(p:Pr)(a:PrA):Value:=.agg #[.int .i64 p.kind,.string p.chan,.string p.name,.string p.label,.int .i64 p.ex.kind,.string p.ex.name,.int .i64 p.ex.so,.int .i64 p.ex.n,.string p.ex.s,.slice a.ea p.ex.kids.length a.ec,.slice a.xa p.exs.length a.xc,.slice a.na p.names.length a.nc,.int .i64 p.ty.kind,.int .i64 p.ty.so,.string p.ty.name,.slice a.tl p.ty.labels.length a.tlc,.slice a.tk p.ty.kids.length a.tkc,.slice a.la p.labels.length a.lc,.slice a.ka p.kids.length a.kc]
abbrev pK(p:Pr)(a:PrA):Array Value:=#[.int .i64 p.kind,.string p.chan,.string p.name,.string p.label,.int .i64 p.ex.kind,.string p.ex.name,.int .i64 p.ex.so,.int .i64 p.ex.n,.string p.ex.s,.slice a.ea p.ex.kids.length a.ec,.slice a.xa p.exs.length a.xc,.slice a.na p.names.length a.nc,.int .i64 p.ty.kind,.int .i64 p.ty.so,.string p.ty.name,.slice a.tl p.ty.labels.length a.tlc,.slice a.tk p.ty.kids.length a.tkc,.slice a.la p.labels.length a.lc,.slice a.ka p.kids.length a.kc]
def PrAt(W:World)(b o:Nat)(p:Pr)(a:PrA):Prop:=∀j,j<19→W.cell? ⟨b,o+j,none⟩=(prCs p a)[j]?
theorem PrAt.keep{W W':World}{B b o:Nat}{p:Pr}{a:PrA}(h:PrAt W b o p a)(hb:Below B W W')(hl:b<B):PrAt W' b o p a :=
 fun j hj=>(hb.cell (p:=⟨b,o+j,none⟩) hl).trans (h j hj)
structure PrB(W:World)(B:Nat)(p:Pr)(a:PrA):Prop where
 chan:p.chan.size≤9223372036854775807
 name:p.name.size≤9223372036854775807
 label:p.label.size≤9223372036854775807
 exb:ExBd p.ex a.ec
 exk:∃d,KA W B d p.ex.kids a.ea
 exs:ExsAt W B p.exs a.xa a.xc
 nms:NmsAt W B p.names a.na a.nc
 tyb:TyBd p.ty a.tlc a.tkc
 tyl:LA W B p.ty.labels a.tl
 tyk:∃d,KT W B d p.ty.kids a.tk
 lbs:NmsAt W B p.labels a.la a.lc
 kl:p.kids.length≤a.kc
 kc:a.kc≤9223372036854775807
theorem PrB.keep{W W':World}{B:Nat}{p:Pr}{a:PrA}(h:PrB W B p a)(hb:Below B W W'):PrB W' B p a :=
 ⟨h.chan,h.name,h.label,h.exb,h.exk.imp fun _ q=>KA.keep hb q,h.exs.keep hb,h.nms.keep hb,h.tyb,NAt.keep hb h.tyl,h.tyk.imp fun _ q=>KT.keep hb q,h.lbs.keep hb,h.kl,h.kc⟩
theorem PrB.mono{W:World}{B B':Nat}{p:Pr}{a:PrA}(h:PrB W B p a)(hB:B≤B'):PrB W B' p a :=
 ⟨h.chan,h.name,h.label,h.exb,h.exk.imp fun _ q=>KA.mono hB q,h.exs.mono hB,h.nms.mono hB,h.tyb,NAt.mono hB h.tyl,h.tyk.imp fun _ q=>KT.mono hB q,h.lbs.mono hB,h.kl,h.kc⟩
def PrOK(W:World)(B:Nat):Nat→Pr→PrA→Prop
 | 0,p,a=>PrB W B p a∧p.kids=[]
 | d+1,p,a=>PrB W B p a∧(p.kids=[]∨∃b o,a.ka=some ⟨b,o,none⟩∧b<B∧∀i (h:i<p.kids.length),∃a',PrAt W b (o+i*19) p.kids[i] a'∧PrOK W B d p.kids[i] a')
theorem PrOK.b{W:World}{B:Nat}:∀ {d:Nat} {p:Pr} {a:PrA},PrOK W B d p a→PrB W B p a
 | 0,_,_,h=>h.1
 | _+1,_,_,h=>h.1
theorem PrOK.keep{W W':World}{B:Nat}(hb:Below B W W'):∀ {d:Nat} {p:Pr} {a:PrA},PrOK W B d p a→PrOK W' B d p a
 | 0,_,_,h=>⟨h.1.keep hb,h.2⟩
 | d+1,p,a,h=>⟨h.1.keep hb,h.2.imp id fun ⟨b,o,e,hl,h⟩=>⟨b,o,e,hl,fun i hi=>by
   obtain ⟨a',h1,h2⟩:=h i hi;exact ⟨a',h1.keep hb hl,PrOK.keep hb h2⟩⟩⟩
theorem PrOK.mono{W:World}{B B':Nat}(hB:B≤B'):∀ {d:Nat} {p:Pr} {a:PrA},PrOK W B d p a→PrOK W B' d p a
 | 0,_,_,h=>⟨h.1.mono hB,h.2⟩
 | d+1,p,a,h=>⟨h.1.mono hB,h.2.imp id fun ⟨b,o,e,hl,h⟩=>⟨b,o,e,nL hl hB,fun i hi=>by
   obtain ⟨a',h1,h2⟩:=h i hi;exact ⟨a',h1,PrOK.mono hB h2⟩⟩⟩
theorem PrOK.up{W:World}{B:Nat}:∀ {d e:Nat} {p:Pr} {a:PrA},d≤e→PrOK W B d p a→PrOK W B e p a
 | 0,0,_,_,_,h=>h
 | 0,e+1,_,_,_,h=>⟨h.1,.inl h.2⟩
 | d+1,0,_,_,hd,_=>by omega
 | d+1,e+1,p,a,hd,h=>⟨h.1,h.2.imp id fun ⟨b,o,e',hl,h⟩=>⟨b,o,e',hl,fun i hi=>by
   obtain ⟨a',h1,h2⟩:=h i hi;exact ⟨a',h1,PrOK.up (by omega) h2⟩⟩⟩
structure Df where
 name:ByteArray
 vals:List ByteArray
 sorts:List Int
 chans:List ByteArray
 tys:List Ty
 body:Pr
structure DfA where
 va:OAd
 vc:Nat
 sa:OAd
 sc:Nat
 ca:OAd
 cc:Nat
 ta:OAd
 tc:Nat
 pa:PrA
def dfHd(d:Df)(a:DfA):List Value:=[.string d.name,.slice a.va d.vals.length a.vc,.slice a.sa d.sorts.length a.sc,.slice a.ca d.chans.length a.cc,.slice a.ta d.tys.length a.tc]
def dfCs(d:Df)(a:DfA):List Value:=dfHd d a++prCs d.body a.pa
def dfVal(d:Df)(a:DfA):Value:=.agg #[.string d.name,.slice a.va d.vals.length a.vc,.slice a.sa d.sorts.length a.sc,.slice a.ca d.chans.length a.cc,.slice a.ta d.tys.length a.tc,.int .i64 d.body.kind,.string d.body.chan,.string d.body.name,.string d.body.label,.int .i64 d.body.ex.kind,.string d.body.ex.name,.int .i64 d.body.ex.so,.int .i64 d.body.ex.n,.string d.body.ex.s,.slice a.pa.ea d.body.ex.kids.length a.pa.ec,.slice a.pa.xa d.body.exs.length a.pa.xc,.slice a.pa.na d.body.names.length a.pa.nc,.int .i64 d.body.ty.kind,.int .i64 d.body.ty.so,.string d.body.ty.name,.slice a.pa.tl d.body.ty.labels.length a.pa.tlc,.slice a.pa.tk d.body.ty.kids.length a.pa.tkc,.slice a.pa.la d.body.labels.length a.pa.lc,.slice a.pa.ka d.body.kids.length a.pa.kc]
def DfAt(W:World)(b o:Nat)(p:Df)(a:DfA):Prop:=∀j,j<24→W.cell? ⟨b,o+j,none⟩=(dfCs p a)[j]?
theorem DfAt.keep{W W':World}{B b o:Nat}{p:Df}{a:DfA}(h:DfAt W b o p a)(hb:Below B W W')(hl:b<B):DfAt W' b o p a :=
 fun j hj=>(hb.cell (p:=⟨b,o+j,none⟩) hl).trans (h j hj)
structure DfOK(W:World)(B:Nat)(d:Df)(a:DfA):Prop where
 name:d.name.size≤9223372036854775807
 vals:NmsAt W B d.vals a.va a.vc
 sl:d.sorts.length≤a.sc
 sc:a.sc≤9223372036854775807
 srt:NAt W B (d.sorts.map (Value.int .i64)) a.sa
 chs:NmsAt W B d.chans a.ca a.cc
 tys:TysAt W B d.tys a.ta a.tc
 body:∃n,PrOK W B n d.body a.pa
theorem DfOK.keep{W W':World}{B:Nat}{d:Df}{a:DfA}(h:DfOK W B d a)(hb:Below B W W'):DfOK W' B d a :=
 ⟨h.name,h.vals.keep hb,h.sl,h.sc,NAt.keep hb h.srt,h.chs.keep hb,h.tys.keep hb,h.body.imp fun _ q=>PrOK.keep hb q⟩
theorem DfOK.mono{W:World}{B B':Nat}{d:Df}{a:DfA}(h:DfOK W B d a)(hB:B≤B'):DfOK W B' d a :=
 ⟨h.name,h.vals.mono hB,h.sl,h.sc,NAt.mono hB h.srt,h.chs.mono hB,h.tys.mono hB,h.body.imp fun _ q=>PrOK.mono hB q⟩
def DfsAt(W:World)(B:Nat)(ds:List Df)(ad:OAd):Prop:=ds=[]∨∃b o,ad=some ⟨b,o,none⟩∧b<B∧∀i (h:i<ds.length),∃a,DfAt W b (o+i*24) ds[i] a∧DfOK W B ds[i] a
theorem DfsAt.keep{W W':World}{B:Nat}{ds:List Df}{ad:OAd}(h:DfsAt W B ds ad)(hb:Below B W W'):DfsAt W' B ds ad :=
 h.imp id fun ⟨b,o,e,hl,h⟩=>⟨b,o,e,hl,fun i hi=>by
  obtain ⟨a,h1,h2⟩:=h i hi;exact ⟨a,h1.keep hb hl,h2.keep hb⟩⟩
theorem DfsAt.mono{W:World}{B B':Nat}{ds:List Df}{ad:OAd}(h:DfsAt W B ds ad)(hB:B≤B'):DfsAt W B' ds ad :=
 h.imp id fun ⟨b,o,e,hl,h⟩=>⟨b,o,e,by omega,fun i hi=>by
  obtain ⟨a,h1,h2⟩:=h i hi;exact ⟨a,h1,h2.mono hB⟩⟩
section
variable {H:Type} {enc:TypeId × Value→H} {W:World} {base:Nat} {spare:Nat→Bool} {held:Bool}
theorem cellsPr:Tryz.prog.cellsOf 40=19:=by kernel_rfl
theorem cellsDf:Tryz.prog.cellsOf 42=24:=by kernel_rfl
theorem openNms(fuel:Nat)(v:Value)(y:DataW H × List MemPlace)(h:DataW.trod enc Tryz.prog W base spare held fuel 28 [v]=some y):∃(ls:List ByteArray) (al:OAd) (cl:Nat),v = .slice al ls.length cl∧NmsAt W W.heap.size ls al cl:=by
 obtain ⟨ls,al,cl,e,h1,h2,h3,h4⟩:=openLabs fuel v y h;exact ⟨ls,al,cl,e,h1,h2,h3,h4⟩
theorem openExs(fuel:Nat)(v:Value)(y:DataW H × List MemPlace)(h:DataW.trod enc Tryz.prog W base spare held fuel 32 [v]=some y):∃(xs:List Ex) (al:OAd) (cl:Nat),v = .slice al xs.length cl∧ExsAt W W.heap.size xs al cl:=by
 rcases DataW.trod_slice Tryz.underlying32 h with ⟨e5,_⟩|⟨a,len,cap,elems,rest,k,hk,e5,_,hb,hlc,hcm,hle,hel,_,_⟩
 ·simp at e5
  subst e5;exact ⟨[],none,0,rfl,nR _,by omega,0,rfl⟩
 ·simp at e5
  subst e5;rw [cellsE]at hel;unfold maxLen at hcm;have hall:∀i,i<len→∃p:Ex × OAd × Nat,W.cells? base (a.add (i*6)) 6=some [.int .i64 p.1.kind,.string p.1.name,.int .i64 p.1.so,.int .i64 p.1.n,.string p.1.s,.slice p.2.1 p.1.kids.length p.2.2]∧ExBd p.1 p.2.2∧KA W W.heap.size k p.1.kids p.2.1:=by
   intro i hi;have q:=hel i hi;rw [List.getElem?_eq_getElem (by omega)]at q
   obtain ⟨cs',q1,q2⟩:=Option.bind_eq_some_iff.1 q;obtain ⟨x,ao,cp,rfl,hb',hk'⟩:=openCells k cs' _ q2;exact ⟨(x,ao,cp),q1,hb',hk'⟩
  haveI:Inhabited (Ex × OAd × Nat):=⟨(⟨0,⟨#[]⟩,0,0,⟨#[]⟩,[]⟩,none,0)⟩
  obtain ⟨f,hf⟩:=choose_lt hall;refine ⟨(List.range len).map fun i=>(f i).1,some a,cap,by simp,⟨by simpa using hlc,hcm,k+1,?_⟩⟩
  by_cases hl0:len=0
  ·exact .inl (by simp [hl0])
  ·obtain ⟨q1,_,_⟩:=hf 0 (by omega)
   have q2:=(World.cells?_some q1).2.2 0 (by omega)
   obtain ⟨b,o,spot⟩:=a;have hsp:spot=none:=by simpa [Addr.add] using World.cell?_spot q2
   subst hsp;have hcell:∀i j,i<len→j<6→W.cell? ⟨b,o+i*6+j,none⟩=[Value.int .i64 (f i).1.kind,.string (f i).1.name,.int .i64 (f i).1.so,.int .i64 (f i).1.n,.string (f i).1.s,.slice (f i).2.1 (f i).1.kids.length (f i).2.2][j]?:=by
    intro i j hi hj;obtain ⟨q1,_,_⟩:=hf i hi;have:=(World.cells?_some q1).2.2 j hj;rw [add_add,Go.WideShapes.add_plain]at this;rw [Nat.add_assoc];exact this
   refine .inr ⟨b,o,rfl,lt_of_cell ((hcell 0 0 (by omega) (by omega)).trans rfl),fun i hi=>?_⟩
   have hi':i<len:=by simpa using hi
   have e:((List.range len).map fun i=>(f i).1)[i]=(f i).1:=by simp
   simp only [e];exact ⟨(f i).2.1,(f i).2.2,⟨(hcell i 0 hi' (by omega)).trans rfl,(hcell i 1 hi' (by omega)).trans rfl,(hcell i 2 hi' (by omega)).trans rfl,(hcell i 3 hi' (by omega)).trans rfl,(hcell i 4 hi' (by omega)).trans rfl,(hcell i 5 hi' (by omega)).trans rfl⟩,(hf i hi').2.1,(hf i hi').2.2⟩
theorem openTys(fuel:Nat)(v:Value)(y:DataW H × List MemPlace)(h:DataW.trod enc Tryz.prog W base spare held fuel 35 [v]=some y):∃(xs:List Ty) (al:OAd) (cl:Nat),v = .slice al xs.length cl∧TysAt W W.heap.size xs al cl:=by
 rcases DataW.trod_slice Tryz.underlying35 h with ⟨e5,_⟩|⟨a,len,cap,elems,rest,k,hk,e5,_,hb,hlc,hcm,hle,hel,_,_⟩
 ·simp at e5
  subst e5;exact ⟨[],none,0,rfl,nR _,by omega,0,rfl⟩
 ·simp at e5
  subst e5;rw [cellsT]at hel;unfold maxLen at hcm;have hall:∀i,i<len→∃p:Ty × OAd × Nat × OAd × Nat,W.cells? base (a.add (i*5)) 5=some [.int .i64 p.1.kind,.int .i64 p.1.so,.string p.1.name,.slice p.2.1 p.1.labels.length p.2.2.1,.slice p.2.2.2.1 p.1.kids.length p.2.2.2.2]∧TyBd p.1 p.2.2.1 p.2.2.2.2∧LA W W.heap.size p.1.labels p.2.1∧KT W W.heap.size k p.1.kids p.2.2.2.1:=by
   intro i hi;have q:=hel i hi;rw [List.getElem?_eq_getElem (by omega)]at q
   obtain ⟨cs',q1,q2⟩:=Option.bind_eq_some_iff.1 q;obtain ⟨t,al',cl',ak',ck',rfl,hb',hl',hk'⟩:=openCellsT k cs' _ q2;exact ⟨(t,al',cl',ak',ck'),q1,hb',hl',hk'⟩
  haveI:Inhabited (Ty × OAd × Nat × OAd × Nat):=⟨(⟨0,0,⟨#[]⟩,[],[]⟩,none,0,none,0)⟩
  obtain ⟨f,hf⟩:=choose_lt hall;refine ⟨(List.range len).map fun i=>(f i).1,some a,cap,by simp,⟨by simpa using hlc,hcm,k+1,?_⟩⟩
  by_cases hl0:len=0
  ·exact .inl (by simp [hl0])
  ·obtain ⟨q1,_,_⟩:=hf 0 (by omega)
   have q2:=(World.cells?_some q1).2.2 0 (by omega)
   obtain ⟨b,o,spot⟩:=a;have hsp:spot=none:=by simpa [Addr.add] using World.cell?_spot q2
   subst hsp;have hcell:∀i j,i<len→j<5→W.cell? ⟨b,o+i*5+j,none⟩=[Value.int .i64 (f i).1.kind,.int .i64 (f i).1.so,.string (f i).1.name,.slice (f i).2.1 (f i).1.labels.length (f i).2.2.1,.slice (f i).2.2.2.1 (f i).1.kids.length (f i).2.2.2.2][j]?:=by
    intro i j hi hj;obtain ⟨q1,_,_⟩:=hf i hi;have:=(World.cells?_some q1).2.2 j hj;rw [add_add,Go.WideShapes.add_plain]at this;rw [Nat.add_assoc];exact this
   refine .inr ⟨b,o,rfl,lt_of_cell ((hcell 0 0 (by omega) (by omega)).trans rfl),fun i hi=>?_⟩
   have hi':i<len:=by simpa using hi
   have e:((List.range len).map fun i=>(f i).1)[i]=(f i).1:=by simp
   simp only [e];exact ⟨(f i).2.1,(f i).2.2.1,(f i).2.2.2.1,(f i).2.2.2.2,⟨(hcell i 0 hi' (by omega)).trans rfl,(hcell i 1 hi' (by omega)).trans rfl,(hcell i 2 hi' (by omega)).trans rfl,(hcell i 3 hi' (by omega)).trans rfl,(hcell i 4 hi' (by omega)).trans rfl⟩,(hf i hi').2.1,(hf i hi').2.2.1,(hf i hi').2.2.2⟩
theorem openCellsP:∀(fuel:Nat) (cs:List Value) (y:DataW H × List MemPlace),DataW.trod enc Tryz.prog W base spare held fuel 40 cs=some y →
  ∃(p:Pr) (a:PrA),cs=prCs p a∧PrOK W W.heap.size fuel p a:=by
 intro fuel;induction fuel using Nat.strongRecOn with
 | _ fuel ih =>
  intro cs y h;obtain ⟨xs,n,rfl,hy,hlen,hxs,hf⟩:=DataW.trod_struct Tryz.underlying40 h;have h0:DataW.trod enc Tryz.prog W base spare held n 3 (List.take 1 (List.drop 0 cs))=xs[0]?:=hf 0 _ rfl;have h1:DataW.trod enc Tryz.prog W base spare held n 9 (List.take 1 (List.drop 1 cs))=xs[1]?:=hf 1 _ rfl;have h2:DataW.trod enc Tryz.prog W base spare held n 9 (List.take 1 (List.drop 2 cs))=xs[2]?:=hf 2 _ rfl;have h3:DataW.trod enc Tryz.prog W base spare held n 9 (List.take 1 (List.drop 3 cs))=xs[3]?:=hf 3 _ rfl;have h4:DataW.trod enc Tryz.prog W base spare held n 34 (List.take 6 (List.drop 4 cs))=xs[4]?:=hf 4 _ rfl;have h5:DataW.trod enc Tryz.prog W base spare held n 32 (List.take 1 (List.drop 10 cs))=xs[5]?:=hf 5 _ rfl;have h6:DataW.trod enc Tryz.prog W base spare held n 28 (List.take 1 (List.drop 11 cs))=xs[6]?:=hf 6 _ rfl;have h7:DataW.trod enc Tryz.prog W base spare held n 37 (List.take 5 (List.drop 12 cs))=xs[7]?:=hf 7 _ rfl;have h8:DataW.trod enc Tryz.prog W base spare held n 28 (List.take 1 (List.drop 17 cs))=xs[8]?:=hf 8 _ rfl;have h9:DataW.trod enc Tryz.prog W base spare held n 38 (List.take 1 (List.drop 18 cs))=xs[9]?:=hf 9 _ rfl;clear hf hy;rw [cellsPr]at hlen;match cs,hlen with
  | [a0,a1,a2,a3,a4,a5,a6,a7,a8,a9,a10,a11,a12,a13,a14,a15,a16,a17,a18],_ =>
  match xs,hxs with
  | [x0,x1,x2,x3,x4,x5,x6,x7,x8,x9],_ =>
  simp at h0 h1 h2 h3 h4 h5 h6 h7 h8 h9;obtain ⟨kd,e0,_,_⟩:=DataW.trod_int Tryz.underlying3 h0;obtain ⟨ch,e1,_,w1⟩:=DataW.trod_string Tryz.underlying9 h1;obtain ⟨nm,e2,_,w2⟩:=DataW.trod_string Tryz.underlying9 h2;obtain ⟨lb,e3,_,w3⟩:=DataW.trod_string Tryz.underlying9 h3;obtain ⟨ex,ea,ec,e4,q4,r4⟩:=openCells n _ _ h4;obtain ⟨exs,xa,xc,rfl,q5⟩:=openExs n _ _ h5;obtain ⟨ns,na,nc,rfl,q6⟩:=openNms n _ _ h6;obtain ⟨ty,tl,tlc,tk,tkc,e7,q7,r7,s7⟩:=openCellsT n _ _ h7;obtain ⟨ls,la,lc,rfl,q8⟩:=openNms n _ _ h8;simp at e0 e1 e2 e3 e4 e7;obtain ⟨rfl,rfl,rfl,rfl,rfl,rfl⟩:=e4;obtain ⟨rfl,rfl,rfl,rfl,rfl⟩:=e7;subst e0 e1 e2 e3;unfold maxLen at w1 w2 w3;rcases DataW.trod_slice Tryz.underlying38 h9 with ⟨e9,_⟩|⟨a,len,cap,elems,rest,k,hk,e9,_,hb,hlc,hcm,hle,hel,_,_⟩
  ·simp at e9
   subst e9;exact ⟨⟨kd,ch,nm,lb,ex,exs,ns,ty,ls,[]⟩,⟨ea,ec,xa,xc,na,nc,tl,tlc,tk,tkc,la,lc,none,0⟩,rfl,⟨by simpa using w1,by simpa using w2,by simpa using w3,q4,⟨_,r4⟩,q5,q6,q7,r7,⟨_,s7⟩,q8,by simp,by simp⟩,.inl rfl⟩
  ·simp at e9
   subst e9;rw [cellsPr]at hel;unfold maxLen at hcm;have hall:∀i,i<len→∃p:Pr × PrA,W.cells? base (a.add (i*19)) 19=some (prCs p.1 p.2)∧PrOK W W.heap.size k p.1 p.2:=by
    intro i hi;have q:=hel i hi;rw [List.getElem?_eq_getElem (by omega)]at q
    obtain ⟨cs',q1,q2⟩:=Option.bind_eq_some_iff.1 q;obtain ⟨p,a',rfl,hk'⟩:=ih k (by omega) cs' _ q2
    exact ⟨(p,a'),q1,hk'⟩
   haveI:Inhabited (Pr × PrA):=⟨(⟨0,⟨#[]⟩,⟨#[]⟩,⟨#[]⟩,⟨0,⟨#[]⟩,0,0,⟨#[]⟩,[]⟩,[],[],⟨0,0,⟨#[]⟩,[],[]⟩,[],[]⟩,⟨none,0,none,0,none,0,none,0,none,0,none,0,none,0⟩)⟩
   obtain ⟨f,hf⟩:=choose_lt hall;refine ⟨⟨kd,ch,nm,lb,ex,exs,ns,ty,ls,(List.range len).map fun i=>(f i).1⟩,⟨ea,ec,xa,xc,na,nc,tl,tlc,tk,tkc,la,lc,some a,cap⟩,by simp [prCs],⟨by simpa using w1,by simpa using w2,by simpa using w3,q4,⟨_,r4⟩,q5,q6,q7,r7,⟨_,s7⟩,q8,by simpa using hlc,hcm⟩,?_⟩
   by_cases hl0:len=0
   ·exact .inl (by simp [hl0])
   ·obtain ⟨q1,_⟩:=hf 0 (by omega)
    have q2:=(World.cells?_some q1).2.2 0 (by omega)
    obtain ⟨b,o,spot⟩:=a;have hsp:spot=none:=by simpa [Addr.add] using World.cell?_spot q2
    subst hsp;have hcell:∀i j,i<len→j<19→W.cell? ⟨b,o+i*19+j,none⟩=(prCs (f i).1 (f i).2)[j]?:=by
     intro i j hi hj;obtain ⟨q1,_⟩:=hf i hi;have:=(World.cells?_some q1).2.2 j hj;rw [add_add,Go.WideShapes.add_plain]at this;rw [Nat.add_assoc];exact this
    refine .inr ⟨b,o,rfl,lt_of_cell ((hcell 0 0 (by omega) (by omega)).trans rfl),fun i hi=>?_⟩
    have hi':i<len:=by simpa using hi
    have e:((List.range len).map fun i=>(f i).1)[i]=(f i).1:=by simp
    simp only [e];exact ⟨(f i).2,fun j hj=>hcell i j hi' hj,PrOK.up (by omega) (hf i hi').2⟩
theorem openInts3(fuel:Nat)(v:Value)(y:DataW H × List MemPlace)(h:DataW.trod enc Tryz.prog W base spare held fuel 29 [v]=some y):
  ∃(zs:List Int) (al:OAd) (cl:Nat),v = .slice al zs.length cl∧zs.length≤cl∧cl≤9223372036854775807∧NAt W W.heap.size (zs.map (Value.int .i64)) al:=by
 rcases DataW.trod_slice Tryz.underlying29 h with ⟨e5,_⟩|⟨a,len,cap,elems,rest,k,hk,e5,_,hb,hlc,hcm,hle,hel,_,_⟩
 ·simp at e5
  subst e5;exact ⟨[],none,0,rfl,nR _,by omega,.inl rfl⟩
 ·simp at e5
  subst e5;rw [show Tryz.prog.cellsOf 3=1 from by kernel_rfl]at hel
  unfold maxLen at hcm;have hall:∀i,i<len→∃z:Int,W.cells? base (a.add (i*1)) 1=some [.int .i64 z]:=by
   intro i hi;have q:=hel i hi;rw [List.getElem?_eq_getElem (by omega)]at q
   obtain ⟨cs',q1,q2⟩:=Option.bind_eq_some_iff.1 q;obtain ⟨z,e1,_,_⟩:=DataW.trod_int Tryz.underlying3 q2;subst e1;exact ⟨z,q1⟩
  obtain ⟨f,hf⟩:=choose_lt hall;refine ⟨(List.range len).map f,some a,cap,by simp,by simpa using hlc,hcm,?_⟩
  by_cases hl0:len=0
  ·exact .inl (by simp [hl0])
  ·have q2:=(World.cells?_some (hf 0 (by omega))).2.2 0 (by omega)
   obtain ⟨b,o,spot⟩:=a;have hsp:spot=none:=by simpa [Addr.add] using World.cell?_spot q2
   subst hsp;have hcell:∀i,i<len→W.cell? ⟨b,o+i,none⟩=some (Value.int .i64 (f i)):=by
    intro i hi;have:=(World.cells?_some (hf i hi)).2.2 0 (by omega)
    rw [add_add,Go.WideShapes.add_plain]at this;simpa using this
   refine .inr ⟨b,o,rfl,lt_of_cell ((hcell 0 (by omega)).trans rfl),fun i hi=>?_⟩
   have hi':i<len:=by simpa using hi
   rw [hcell i hi'];simp
theorem openCellsD(fuel:Nat)(cs:List Value)(y:DataW H × List MemPlace)(h:DataW.trod enc Tryz.prog W base spare held fuel 42 cs=some y):
  ∃(p:Df) (a:DfA),cs=dfCs p a∧DfOK W W.heap.size p a:=by
 obtain ⟨xs,n,rfl,hy,hlen,hxs,hf⟩:=DataW.trod_struct Tryz.underlying42 h;have h0:DataW.trod enc Tryz.prog W base spare held n 9 (List.take 1 (List.drop 0 cs))=xs[0]?:=hf 0 _ rfl;have h1:DataW.trod enc Tryz.prog W base spare held n 28 (List.take 1 (List.drop 1 cs))=xs[1]?:=hf 1 _ rfl;have h2:DataW.trod enc Tryz.prog W base spare held n 29 (List.take 1 (List.drop 2 cs))=xs[2]?:=hf 2 _ rfl;have h3:DataW.trod enc Tryz.prog W base spare held n 28 (List.take 1 (List.drop 3 cs))=xs[3]?:=hf 3 _ rfl;have h4:DataW.trod enc Tryz.prog W base spare held n 35 (List.take 1 (List.drop 4 cs))=xs[4]?:=hf 4 _ rfl;have h5:DataW.trod enc Tryz.prog W base spare held n 40 (List.take 19 (List.drop 5 cs))=xs[5]?:=hf 5 _ rfl;clear hf hy;rw [cellsDf]at hlen;match cs,hlen with
 | [a0,a1,a2,a3,a4,b0,b1,b2,b3,b4,b5,b6,b7,b8,b9,b10,b11,b12,b13,b14,b15,b16,b17,b18],_ =>
 match xs,hxs with
 | [x0,x1,x2,x3,x4,x5],_ =>
 simp at h0 h1 h2 h3 h4 h5;obtain ⟨nm,e0,_,w0⟩:=DataW.trod_string Tryz.underlying9 h0;obtain ⟨vs,va,vc,rfl,q1⟩:=openNms n _ _ h1;obtain ⟨ss,sa,sc,rfl,q2,r2,s2⟩:=openInts3 n _ _ h2;obtain ⟨cs,ca,cc,rfl,q3⟩:=openNms n _ _ h3;obtain ⟨ts,ta,tc,rfl,q4⟩:=openTys n _ _ h4;obtain ⟨bd,pa,e5,q5⟩:=openCellsP n _ _ h5;simp at e0;subst e0;unfold maxLen at w0;refine ⟨⟨nm,vs,ss,cs,ts,bd⟩,⟨va,vc,sa,sc,ca,cc,ta,tc,pa⟩,?_,⟨by simpa using w0,q1,q2,r2,s2,q3,q4,_,q5⟩⟩
 rw [dfCs,dfHd,← e5];rfl
theorem openProgram{r:Reach}{b0:Nat}{v:Value}{d:DataW H}{p:List MemPlace}(hv:Value.okWide Tryz.prog W r b0 24 v)(h:DataW.Trod enc Tryz.prog W base spare held 24 v d p):
  ∃(ds:List Df) (ad:OAd) (cd:Nat),v = .agg #[.slice ad ds.length cd]∧ds.length≤cd∧cd≤9223372036854775807∧DfsAt W W.heap.size ds ad:=by
 obtain ⟨cs,rfl,hsz⟩:=okWide_struct Tryz.underlying24 hv;obtain ⟨fuel,hf⟩:=h;obtain ⟨xs,n,rfl,hy,hlen,hxs,hf⟩:=DataW.trod_struct Tryz.underlying24 hf;have h0:DataW.trod enc Tryz.prog W base spare held n 22 (List.take 1 (List.drop 0 (Value.agg cs).cells.toList))=xs[0]?:=hf 0 _ rfl;clear hf hy;rw [show Tryz.prog.cellsOf 24=1 from by kernel_rfl]at hlen
 obtain ⟨l⟩:=cs;simp only [Value.cells]at hlen h0;match l,hlen with
 | [a0],_ =>
 match xs,hxs with
 | [x0],_ =>
 simp at h0;rcases DataW.trod_slice Tryz.underlying22 h0 with ⟨e5,_⟩|⟨a,len,cap,elems,rest,k,hk,e5,_,hb,hlc,hcm,hle,hel,_,_⟩
 ·simp at e5
  subst e5;exact ⟨[],none,0,rfl,nR _,by omega,.inl rfl⟩
 ·simp at e5
  subst e5;rw [cellsDf]at hel;unfold maxLen at hcm;have hall:∀i,i<len→∃p:Df × DfA,W.cells? base (a.add (i*24)) 24=some (dfCs p.1 p.2)∧DfOK W W.heap.size p.1 p.2:=by
   intro i hi;have q:=hel i hi;rw [List.getElem?_eq_getElem (by omega)]at q
   obtain ⟨cs',q1,q2⟩:=Option.bind_eq_some_iff.1 q;obtain ⟨p,a',rfl,hk'⟩:=openCellsD k cs' _ q2;exact ⟨(p,a'),q1,hk'⟩
  haveI:Inhabited (Df × DfA):=⟨(⟨⟨#[]⟩,[],[],[],[],⟨0,⟨#[]⟩,⟨#[]⟩,⟨#[]⟩,⟨0,⟨#[]⟩,0,0,⟨#[]⟩,[]⟩,[],[],⟨0,0,⟨#[]⟩,[],[]⟩,[],[]⟩⟩,⟨none,0,none,0,none,0,none,0,⟨none,0,none,0,none,0,none,0,none,0,none,0,none,0⟩⟩)⟩
  obtain ⟨f,hf⟩:=choose_lt hall;refine ⟨(List.range len).map fun i=>(f i).1,some a,cap,by simp,by simpa using hlc,hcm,?_⟩
  by_cases hl0:len=0
  ·exact .inl (by simp [hl0])
  ·obtain ⟨q1,_⟩:=hf 0 (by omega)
   have q2:=(World.cells?_some q1).2.2 0 (by omega)
   obtain ⟨b,o,spot⟩:=a;have hsp:spot=none:=by simpa [Addr.add] using World.cell?_spot q2
   subst hsp;have hcell:∀i j,i<len→j<24→W.cell? ⟨b,o+i*24+j,none⟩=(dfCs (f i).1 (f i).2)[j]?:=by
    intro i j hi hj;obtain ⟨q1,_⟩:=hf i hi;have:=(World.cells?_some q1).2.2 j hj;rw [add_add,Go.WideShapes.add_plain]at this;rw [Nat.add_assoc];exact this
   refine .inr ⟨b,o,rfl,lt_of_cell ((hcell 0 0 (by omega) (by omega)).trans rfl),fun i hi=>?_⟩
   have hi':i<len:=by simpa using hi
   have e:((List.range len).map fun i=>(f i).1)[i]=(f i).1:=by simp
   simp only [e];exact ⟨(f i).2,fun j hj=>hcell i j hi' hj,(hf i hi').2⟩
end
end Go.Proofs.YtmamabhhgfcjcaaGreatDoor
