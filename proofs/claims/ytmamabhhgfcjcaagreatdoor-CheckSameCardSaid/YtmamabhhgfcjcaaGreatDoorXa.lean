/-
  Plain: a value and an expression as data.
-/
import Derived.Test.YtmamabhhgfcjcaaGreatDoorSz
import Derived.WalkKit
import Derived.Handy
import Derived.Deep.Slices
import Derived.Lib.SmallJoins
import Derived.OpenShut
import Derived.WalkSpells
import Derived.WalkLawsBesides
import Derived.Deep.QuietTactic
import Derived.BigQuiet
import Derived.Lib.Bytealg
import Derived.Test.YtmamabhhgfcjcaaGreatDoorRows
import Derived.Ground.NamesProg
import Derived.Shelf.LaysM
import Derived.Shelf.Small.Strs
import Derived.Shelf.Unicode.ValidAny
import Derived.Shelf.Small.Utf8
import Derived.Shelf.Utf8.RuneCount
import Derived.Shelf.Utf8.AppendRune
import Derived.Shelf.Strings.BuilderK
import Derived.Shelf.Strconv.Clone
import Derived.Shelf.Unicode.DecodeAny
import Derived.Lib.ValidLaws
import Derived.Lib.ValidAsc
import Derived.Lib.RuneBytes
import Derived.Lib.RuneCountTail
import Derived.Lib.Small
import Derived.Laws.Cover4
import Derived.Laws.IdiomStrings
import Derived.Lib.OwnBridge
import Derived.BigCall
import Derived.Deep.RegionHeld3
import Derived.Deep.DeepFit
set_option maxRecDepth 100000
set_option maxHeartbeats 400000
namespace Go.Proofs.YtmamabhhgfcjcaaGreatDoor
structure Ex where
 kind:Int
 name:ByteArray
 so:Int
 n:Int
 s:ByteArray
 kids:List Ex
open Go.RowKit Go.Deep Go.Joins Go.ChangeShapes Go.WideShapes
structure ExAt(W:World)(b o:Nat)(x:Ex)(ao:OAd)(cap:Nat):Prop where
 c0:W.cell? ⟨b,o,none⟩=some (.int .i64 x.kind)
 c1:W.cell? ⟨b,o+1,none⟩=some (.string x.name)
 c2:W.cell? ⟨b,o+2,none⟩=some (.int .i64 x.so)
 c3:W.cell? ⟨b,o+3,none⟩=some (.int .i64 x.n)
 c4:W.cell? ⟨b,o+4,none⟩=some (.string x.s)
 c5:W.cell? ⟨b,o+5,none⟩=some (.slice ao x.kids.length cap)
structure ExBd(x:Ex)(cap:Nat):Prop where
 name:x.name.size≤9223372036854775807
 s:x.s.size≤9223372036854775807
 n0:-9223372036854775808≤x.n
 n1:x.n≤9223372036854775807
 kids:x.kids.length≤cap
 cap:cap≤9223372036854775807
def KA(W:World)(B:Nat):Nat→List Ex→OAd→Prop
 | 0,ks,_=>ks=[]
 | d+1,ks,ao=>ks=[]∨∃b o,ao=some ⟨b,o,none⟩∧b<B∧∀i (h:i<ks.length),∃ao' cap',ExAt W b (o+i*6) ks[i] ao' cap'∧ExBd ks[i] cap'∧KA W B d ks[i].kids ao'
theorem ExAt.keep{W W':World}{B b o:Nat}{x:Ex}{ao:OAd}{cap:Nat}(h:ExAt W b o x ao cap)(hb:Below B W W')(hl:b<B):ExAt W' b o x ao cap :=
 ⟨(hb.cell (p:=⟨b,o,none⟩) hl).trans h.c0,(hb.cell (p:=⟨b,o+1,none⟩) hl).trans h.c1,(hb.cell (p:=⟨b,o+2,none⟩) hl).trans h.c2,(hb.cell (p:=⟨b,o+3,none⟩) hl).trans h.c3,(hb.cell (p:=⟨b,o+4,none⟩) hl).trans h.c4,(hb.cell (p:=⟨b,o+5,none⟩) hl).trans h.c5⟩
theorem KA.keep{W W':World}{B:Nat}(hb:Below B W W'):∀ {d:Nat} {ks:List Ex} {ao:OAd},KA W B d ks ao→KA W' B d ks ao
 | 0,_,_,h=>h
 | d+1,ks,ao,h=>by
  rcases h with h|⟨b,o,rfl,hl,h⟩
  ·exact .inl h
  ·exact .inr ⟨b,o,rfl,hl,fun i hi=>by
    obtain ⟨ao',cap',h1,h2,h3⟩:=h i hi;exact ⟨ao',cap',h1.keep hb hl,h2,KA.keep hb h3⟩⟩
theorem KA.mono{W:World}{B B':Nat}(hB:B≤B'):∀ {d:Nat} {ks:List Ex} {ao:OAd},KA W B d ks ao→KA W B' d ks ao
 | 0,_,_,h=>h
 | d+1,ks,ao,h=>by
  rcases h with h|⟨b,o,rfl,hl,h⟩
  ·exact .inl h
  ·exact .inr ⟨b,o,rfl,by omega,fun i hi=>by
    obtain ⟨ao',cap',h1,h2,h3⟩:=h i hi;exact ⟨ao',cap',h1,h2,KA.mono hB h3⟩⟩
theorem KA.up{W:World}{B:Nat}:∀ {d e:Nat} {ks:List Ex} {ao:OAd},d≤e→KA W B d ks ao→KA W B e ks ao
 | 0,0,_,_,_,h=>h
 | 0,e+1,_,_,_,h=>.inl h
 | d+1,0,_,_,hd,_=>by omega
 | d+1,e+1,ks,ao,hd,h=>by
  rcases h with h|⟨b,o,rfl,hl,h⟩
  ·exact .inl h
  ·exact .inr ⟨b,o,rfl,hl,fun i hi=>by
    obtain ⟨ao',cap',h1,h2,h3⟩:=h i hi;exact ⟨ao',cap',h1,h2,KA.up (by omega) h3⟩⟩
theorem lt_of_cell{W:World}{b o:Nat}{v:Value}(h:W.cell? ⟨b,o,none⟩=some v):b<W.heap.size:=by
 unfold World.cell? at h;apply Classical.byContradiction
 intro hn;have:W.heap[b]? = none:=by simp;omega
 simp [this]at h
def exVal(x:Ex)(ao:OAd)(cap:Nat):Value:=.agg #[.int .i64 x.kind,.string x.name,.int .i64 x.so,.int .i64 x.n,.string x.s,.slice ao x.kids.length cap]
section
variable {H:Type} {enc:TypeId × Value→H} {W:World} {base:Nat} {spare:Nat→Bool} {held:Bool}
theorem cellsE:Tryz.prog.cellsOf 34=6:=by kernel_rfl
theorem openCells:∀(fuel:Nat) (cs:List Value) (y:DataW H × List MemPlace),DataW.trod enc Tryz.prog W base spare held fuel 34 cs=some y →
  ∃(x:Ex) (ao:OAd) (cap:Nat),cs=[.int .i64 x.kind,.string x.name,.int .i64 x.so,.int .i64 x.n,.string x.s,.slice ao x.kids.length cap]∧ExBd x cap∧KA W W.heap.size fuel x.kids ao:=by
 intro fuel;induction fuel using Nat.strongRecOn with
 | _ fuel ih =>
  intro cs y h;obtain ⟨xs,n,rfl,hy,hlen,hxs,hf⟩:=DataW.trod_struct Tryz.underlying34 h;have h0:DataW.trod enc Tryz.prog W base spare held n 3 (List.take 1 (List.drop 0 cs))=xs[0]?:=hf 0 _ rfl;have h1:DataW.trod enc Tryz.prog W base spare held n 9 (List.take 1 (List.drop 1 cs))=xs[1]?:=hf 1 _ rfl;have h2:DataW.trod enc Tryz.prog W base spare held n 31 (List.take 3 (List.drop 2 cs))=xs[2]?:=hf 2 _ rfl;have h3:DataW.trod enc Tryz.prog W base spare held n 32 (List.take 1 (List.drop 5 cs))=xs[3]?:=hf 3 _ rfl;clear hf hy;rw [cellsE]at hlen;match cs,hlen with
  | [a0,a1,a2,a3,a4,a5],_ =>
  match xs,hxs with
  | [x0,x1,x2,x3],_ =>
  simp at h0 h1 h2 h3;obtain ⟨kd,e0,_,_⟩:=DataW.trod_int Tryz.underlying3 h0;obtain ⟨nm,e1,_,wn⟩:=DataW.trod_string Tryz.underlying9 h1;obtain ⟨ys,m,rfl,_,_,hys,hg⟩:=DataW.trod_struct Tryz.underlying31 h2;have g0:DataW.trod enc Tryz.prog W base spare held m 3 (List.take 1 (List.drop 0 [a2,a3,a4]))=ys[0]?:=hg 0 _ rfl;have g1:DataW.trod enc Tryz.prog W base spare held m 2 (List.take 1 (List.drop 1 [a2,a3,a4]))=ys[1]?:=hg 1 _ rfl;have g2:DataW.trod enc Tryz.prog W base spare held m 9 (List.take 1 (List.drop 2 [a2,a3,a4]))=ys[2]?:=hg 2 _ rfl;match ys,hys with
  | [y0,y1,y2],_ =>
  simp at g0 g1 g2;obtain ⟨so,e2,_,_⟩:=DataW.trod_int Tryz.underlying3 g0;obtain ⟨nn,e3,_,wi⟩:=DataW.trod_int Tryz.underlying2 g1;obtain ⟨s,e4,_,ws⟩:=DataW.trod_string Tryz.underlying9 g2;simp at e0 e1 e2 e3 e4;subst e0 e1 e2 e3 e4;have wi':=bounds_i64 wi;unfold maxLen at wn ws;rcases DataW.trod_slice Tryz.underlying32 h3 with ⟨e5,_⟩|⟨a,len,cap,elems,rest,k,hk,e5,_,hb,hlc,hcm,hle,hel,_,_⟩
  ·simp at e5
   subst e5;exact ⟨⟨kd,nm,so,nn,s,[]⟩,none,0,rfl,⟨by simpa using wn,by simpa using ws,by simpa using wi'.1,by simpa using wi'.2,by simp,by omega⟩,.inl rfl⟩
  ·simp at e5
   subst e5;rw [cellsE]at hel;obtain rfl:m=k:=by omega
   unfold maxLen at hcm;have hall:∀i,i<len→∃p:Ex × OAd × Nat,W.cells? base (a.add (i*6)) 6=some [.int .i64 p.1.kind,.string p.1.name,.int .i64 p.1.so,.int .i64 p.1.n,.string p.1.s,.slice p.2.1 p.1.kids.length p.2.2]∧ExBd p.1 p.2.2∧KA W W.heap.size m p.1.kids p.2.1:=by
    intro i hi;have q:=hel i hi;rw [List.getElem?_eq_getElem (by omega)]at q
    obtain ⟨cs',q1,q2⟩:=Option.bind_eq_some_iff.1 q;obtain ⟨x,ao,cp,rfl,hb',hk'⟩:=ih m (by omega) cs' _ q2
    exact ⟨(x,ao,cp),q1,hb',hk'⟩
   haveI:Inhabited (Ex × OAd × Nat):=⟨(⟨0,⟨#[]⟩,0,0,⟨#[]⟩,[]⟩,none,0)⟩
   obtain ⟨f,hf⟩:=choose_lt hall;refine ⟨⟨kd,nm,so,nn,s,(List.range len).map fun i=>(f i).1⟩,some a,cap,by simp,⟨by simpa using wn,by simpa using ws,by simpa using wi'.1,by simpa using wi'.2,by simpa using hlc,hcm⟩,?_⟩
   by_cases hl0:len=0
   ·exact .inl (by simp [hl0])
   ·obtain ⟨q1,_,_⟩:=hf 0 (by omega)
    have q2:=(World.cells?_some q1).2.2 0 (by omega)
    obtain ⟨b,o,spot⟩:=a;have hsp:spot=none:=by simpa [Addr.add] using World.cell?_spot q2
    subst hsp;have hcell:∀i j,i<len→j<6→W.cell? ⟨b,o+i*6+j,none⟩=[Value.int .i64 (f i).1.kind,.string (f i).1.name,.int .i64 (f i).1.so,.int .i64 (f i).1.n,.string (f i).1.s,.slice (f i).2.1 (f i).1.kids.length (f i).2.2][j]?:=by
     intro i j hi hj;obtain ⟨q1,_,_⟩:=hf i hi;have:=(World.cells?_some q1).2.2 j hj;rw [add_add,Go.WideShapes.add_plain]at this;rw [Nat.add_assoc];exact this
    refine .inr ⟨b,o,rfl,lt_of_cell ((hcell 0 0 (by omega) (by omega)).trans rfl),fun i hi=>?_⟩
    have hi':i<len:=by simpa using hi
    have e:((List.range len).map fun i=>(f i).1)[i]=(f i).1:=by simp
    simp only [e];exact ⟨(f i).2.1,(f i).2.2,⟨(hcell i 0 hi' (by omega)).trans rfl,(hcell i 1 hi' (by omega)).trans rfl,(hcell i 2 hi' (by omega)).trans rfl,(hcell i 3 hi' (by omega)).trans rfl,(hcell i 4 hi' (by omega)).trans rfl,(hcell i 5 hi' (by omega)).trans rfl⟩,(hf i hi').2.1,KA.up (by omega) (hf i hi').2.2⟩
end
def lvl(l:List UInt8):Int :=
 if l=[111,114] then 1 else if l=[97,110,100] then 2 else if l=[61,61]∨l=[60]∨l=[60,61] then 3
 else if l=[43]∨l=[45]∨l=[43,43] then 4 else if l=[42]∨l=[47]∨l=[37] then 5 else 0
def isOp(l:List UInt8)(k:Nat):Bool :=
 if k=1 then decide (l=[110,111,116]∨l=[110,101,103]∨l=[35]) else if k=2 then decide (0<lvl l) else false
def isLow(c:UInt8):Bool:=decide (97≤c.toNat∧c.toNat≤122)
def isNm(l:List UInt8):Bool :=
 if l=[116,114,117,101]∨l=[102,97,108,115,101]∨l=[97,110,100]∨l=[111,114]∨l=[110,111,116] then false
 else decide (1≤l.length∧l.length≤8) && l.all isLow
def opS(l:List UInt8):Int × Int :=
 if l=[111,114]∨l=[97,110,100]∨l=[110,111,116] then (2,2)
 else if l=[61,61]∨l=[60]∨l=[60,61] then (0,2)
 else if l=[43,43] then (3,3)
 else if l=[35] then (3,1)
 else (1,1)
def isCmp(l:List UInt8):Bool:=decide (lvl l=3)
theorem beqL(s:ByteArray)(l:List UInt8):(s.toList==l)=decide (s.data.toList=l):=by
 rw [ByteArray.toList_eq,Bool.eq_iff_iff];simp
theorem level_any(op:ByteArray)(w:World):
  Calls Tryz.prog 184 #[.string op] w fun e w'=>e = .returned (.int .i64 (lvl op.data.toList))∧w'=w:=by
 go_enter Tryz.func184,Tryz.ntmps184
 go_wp2
 all_goals
  first
   | (exfalso;simp_all;done)
   | (go_ret;refine ⟨?_,rfl⟩;rw [← ByteArray.toList_eq];simp_all [lvl];done)
theorem isComparison_any(op:ByteArray)(w:World):
  Calls Tryz.prog 168 #[.string op] w fun e w'=>e = .returned (.bool (isCmp op.data.toList))∧w'=w:=by
 have c1:=level_any op w;have c2:=level_any ⟨#[61,61]⟩ w;unfold isCmp;generalize lvl op.data.toList=z at c1 ⊢;rw [show lvl (ByteArray.mk #[61,61]).data.toList=3 from by decide]at c2
 go_enter Tryz.func168,Tryz.ntmps168
 go_wp2_with fail
 refine c1.mono ?_;rintro e w1 ⟨rfl,rfl⟩;go_wp2_with fail
 refine c2.mono ?_;rintro e w2 ⟨rfl,rfl⟩;go_wp2_with fail
 go_ret
 exact ⟨by congr 1,rfl⟩
theorem isOperator_any(op:ByteArray)(k:Nat)(w:World):
  Calls Tryz.prog 173 #[.string op,.int .i64 (k:Int)] w fun e w'=>e = .returned (.bool (isOp op.data.toList k))∧w'=w:=by
 have c1:=level_any op w;by_cases h1:k=1
 ·subst h1
  clear c1;have e1:isOp op.data.toList 1=(op.toList==[110,111,116] || op.toList==[110,101,103] || op.toList==[35]):=by
   simp only [beqL];unfold isOp;rw [if_pos rfl,Bool.eq_iff_iff];simp [or_assoc]
  rw [e1];clear e1;cases hA:op.toList==[110,111,116] <;> cases hB:op.toList==[110,101,103] <;> cases hC:op.toList==[35]
  all_goals
   go_enter Tryz.func173,Tryz.ntmps173
   go_wp2_with fail
   go_ret
   exact ⟨rfl,rfl⟩
 ·by_cases h2:k=2
  ·subst h2
   have e1:isOp op.data.toList 2=decide (0<lvl op.data.toList):=by unfold isOp;rw [if_neg (by omega),if_pos rfl]
   rw [e1];generalize lvl op.data.toList=z at c1 ⊢;go_enter Tryz.func173,Tryz.ntmps173
   go_wp2_with (go_at_call 184;refine c1.mono ?_;rintro e w1 ⟨rfl,rfl⟩)
   go_ret
   exact ⟨by simp,rfl⟩
  ·have e1:isOp op.data.toList k=false:=by unfold isOp;rw [if_neg h1,if_neg h2]
   have b1:((k:Int)==1)=false:=by simp;omega
   have b2:((k:Int)==2)=false:=by simp;omega
   rw [e1];clear c1 e1;go_enter Tryz.func173,Tryz.ntmps173
   go_wp2_with fail
   go_ret
   exact ⟨rfl,rfl⟩
theorem operatorSorts_any(op:ByteArray)(w:World):
  Calls Tryz.prog 167 #[.string op] w fun e w'=>e = .returned (.tuple #[.int .i64 (opS op.data.toList).1,.int .i64 (opS op.data.toList).2])∧w'=w:=by
 go_enter Tryz.func167,Tryz.ntmps167
 go_wp2
 all_goals
  first
   | (exfalso;simp_all;done)
   | (go_ret2;refine ⟨?_,rfl⟩;rw [← ByteArray.toList_eq];simp_all [opS];done)
theorem argUnless_any(b:Bool)(w:World):
  Calls Tryz.prog 174 #[.bool b] w fun e w'=>e = .returned (.int .i64 (if b then 0 else 1))∧w'=w:=by
 cases b
 all_goals
  go_enter Tryz.func174,Tryz.ntmps174
  go_wp2
  go_ret
  exact ⟨rfl,rfl⟩
def argZ(b:Bool):Int:=if b then 0 else 1
theorem argUnless_z(b:Bool)(w:World):
  Calls Tryz.prog 174 #[.bool b] w fun e w'=>e = .returned (.int .i64 (argZ b))∧w'=w:=argUnless_any b w
def textZ(V:ByteArray→Bool)(n:Int)(s:ByteArray):Int:=if n≠0 then 1 else if 100<s.size then 2 else argZ (V s)
variable (V:ByteArray→Bool) (Tabs:World→Prop)
def VSaid:Prop:=∀(s:ByteArray) (w:World),s.size≤9223372036854775807→Tabs w→Calls Tryz.prog 188 #[.string s] w fun e w'=>e = .returned (.bool (V s))∧Below w.heap.size w w'
theorem checkText_any(hV:VSaid V Tabs)(hK:∀w w',Tabs w→Below w.heap.size w w'→Tabs w')(so n:Int)(s:ByteArray)(w:World)(hs:s.size≤9223372036854775807)(hT:Tabs w):
  Calls Tryz.prog 175 #[.agg #[.int .i64 so,.int .i64 n,.string s]] w fun e w'=>e = .returned (.int .i64 (textZ V n s))∧Below w.heap.size w w':=by
 by_cases hn:n=0
 ·subst hn
  by_cases hl:100<s.size
  ·have e1:textZ V 0 s=2:=by simp [textZ,hl]
   have hlz:(100:Int)<(s.size:Int):=by omega
   rw [e1];clear e1;go_enter Tryz.func175,Tryz.ntmps175
   go_wp2
   go_ret
   exact ⟨rfl,(bR _ _).alloc (nR _) _⟩
  ·have e1:textZ V 0 s=argZ (V s):=by simp [textZ,hl]
   have hlz:¬(100:Int)<(s.size:Int):=by omega
   rw [e1];clear e1;generalize hv:V s=v;have cV:=hV s (w.alloc (.cells #[.int .i64 so,.int .i64 0,.string s] 31)) hs (hK _ _ hT ((bR _ _).alloc (nR _) _));rw [hv]at cV;clear hv hV hK;go_enter Tryz.func175,Tryz.ntmps175
   go_wp2_with (first
    | (go_at_call 188;refine cV.mono ?_;rintro e w' ⟨rfl,hb⟩)
    | (go_at_call 174;refine (argUnless_z _ _).mono ?_;rintro e w' ⟨rfl,rfl⟩))
   go_ret
   refine ⟨rfl,?_⟩;exact ((Below.refl w.heap.size w).alloc (nR _) _).trans (hb.mono (by simp))
 ·have e1:textZ V n s=1:=by simp [textZ,hn]
  have hnb:(n==0)=false:=by simpa using hn
  rw [e1];clear e1;go_enter Tryz.func175,Tryz.ntmps175
  go_wp2
  go_ret
  exact ⟨rfl,(bR _ _).alloc (nR _) _⟩
def chkZ(V:ByteArray→Bool)(so n:Int)(s:ByteArray):Int :=
 if so=1 then argZ s.toList.isEmpty
 else if so=2 then argZ (s.toList.isEmpty && (n==0 || n==1))
 else if so=3 then textZ V n s
 else 1
theorem check_any(hV:VSaid V Tabs)(hK:∀w w',Tabs w→Below w.heap.size w w'→Tabs w')(so n:Int)(s:ByteArray)(w:World)(hs:s.size≤9223372036854775807)(hT:Tabs w):
  Calls Tryz.prog 150 #[.agg #[.int .i64 so,.int .i64 n,.string s]] w fun e w'=>e = .returned (.int .i64 (chkZ V so n s))∧Below w.heap.size w w':=by
 by_cases h1:so=1
 ·subst h1
  have e1:chkZ V 1 n s=argZ s.toList.isEmpty:=rfl;rw [e1];clear e1;go_enter Tryz.func150,Tryz.ntmps150
  go_wp2_with (go_at_call 174;go_must (refine (argUnless_z _ _).mono ?_;rintro e w' ⟨rfl,rfl⟩))
  go_ret
  exact ⟨rfl,(bR _ _).alloc (nR _) _⟩
 ·by_cases h2:so=2
  ·subst h2
   have e1:chkZ V 2 n s=argZ (s.toList.isEmpty && (n==0 || n==1)):=rfl;rw [e1];clear e1;clear hV hK;go_enter Tryz.func150,Tryz.ntmps150
   go_wp2_with (go_at_call 174;go_must (refine (argUnless_z _ _).mono ?_;rintro e w' ⟨rfl,rfl⟩))
   all_goals
    go_ret
    refine ⟨?_,(bR _ _).alloc (nR _) _⟩;first|(simp [*];done)|(simp only [List.isEmpty_eq_false_iff.2 ‹¬s.toList=[]›,Bool.false_and];rfl)
  ·by_cases h3:so=3
   ·subst h3
    have e1:chkZ V 3 n s=textZ V n s:=rfl;rw [e1];clear e1;have cT:=checkText_any V Tabs hV hK 3 n s (w.alloc (.cells #[.int .i64 3,.int .i64 n,.string s] 31)) hs (hK _ _ hT ((bR _ _).alloc (nR _) _));generalize textZ V n s=z at cT ⊢;clear hV hK;go_enter Tryz.func150,Tryz.ntmps150
    go_wp2_with (go_at_call 175;go_must (refine cT.mono ?_;rintro e w' ⟨rfl,hb⟩))
    go_ret
    exact ⟨rfl,((Below.refl w.heap.size w).alloc (nR _) _).trans (hb.mono (by simp))⟩
   ·have e1:chkZ V so n s=1:=by simp [chkZ,h1,h2,h3]
    rw [e1];clear e1;have b1:(so==1)=false:=by simpa using h1
    have b2:(so==2)=false:=by simpa using h2
    have b3:(so==3)=false:=by simpa using h3
    clear hV hK;go_enter Tryz.func150,Tryz.ntmps150
    go_wp2
    go_ret
    exact ⟨rfl,(bR _ _).alloc (nR _) _⟩
theorem bcell{W w1:World}(hb:Below W.heap.size W w1):(∀b o,b<W.heap.size→w1.cell? ⟨b,o,none⟩=W.cell? ⟨b,o,none⟩)∧(∀b o,b<W.heap.size→w1.frozen? ⟨b,o,none⟩=W.frozen? ⟨b,o,none⟩) :=
 ⟨fun b o h=>hb.cell (p:=⟨b,o,none⟩) h,fun b o h=>hb.frozen (p:=⟨b,o,none⟩) h⟩
end Go.Proofs.YtmamabhhgfcjcaaGreatDoor
namespace Go.Proofs
open Go.Shelf
def Tryz.lays196_ren:Go.Shelf.Ren:=⟨fun|196=>188|259=>192|n=>n,fun|9=>9|4=>4|3=>3|5=>5|12=>12|119=>260|0=>0|46=>203|139=>263|138=>262|53=>225|n=>n,fun|3=>0|4=>1|n=>n⟩
theorem Tryz.lays196:Go.Proofs.Lays.n196 Tryz.prog Tryz.lays196_ren:={
 mixed:=by kernel_rfl
 f196:=Tryz.func188.trans (congrArg some (by kernel_rfl))
 f259:=Tryz.func192.trans (congrArg some (by kernel_rfl))
 t0:=Tryz.underlying0
 a0:=Tryz.isAgg0
 z0:=Tryz.sizeOf0
 v0:=Tryz.zeroValue0
 t3:=Tryz.underlying3
 a3:=Tryz.isAgg3
 z3:=Tryz.sizeOf3
 v3:=Tryz.zeroValue3
 t4:=Tryz.underlying4
 a4:=Tryz.isAgg4
 z4:=Tryz.sizeOf4
 v4:=Tryz.zeroValue4
 t5:=Tryz.underlying5
 a5:=Tryz.isAgg5
 z5:=Tryz.sizeOf5
 v5:=Tryz.zeroValue5
 t9:=Tryz.underlying9
 a9:=Tryz.isAgg9
 z9:=Tryz.sizeOf9
 v9:=Tryz.zeroValue9
 t12:=Tryz.underlying12
 a12:=Tryz.isAgg12
 z12:=Tryz.sizeOf12
 v12:=Tryz.zeroValue12
 t46:=Tryz.underlying203
 a46:=Tryz.isAgg203
 z46:=Tryz.sizeOf203
 v46:=Tryz.zeroValue203
 t53:=Tryz.underlying225
 a53:=Tryz.isAgg225
 z53:=Tryz.sizeOf225
 v53:=Tryz.zeroValue225
 t119:=Tryz.underlying260
 a119:=Tryz.isAgg260
 z119:=Tryz.sizeOf260
 t138:=Tryz.underlying262
 a138:=Tryz.isAgg262
 z138:=Tryz.sizeOf262
 v138:=Tryz.zeroValue262
 t139:=Tryz.underlying263
 a139:=Tryz.isAgg263
 z139:=Tryz.sizeOf263
 v139:=Tryz.zeroValue263
 g3:=by kernel_rfl
 g4:=by kernel_rfl }
def Tryz.laysM316_ren:Go.Shelf.Ren:=⟨fun|316=>120|n=>n,fun|9=>9|3=>3|4=>4|37=>184|0=>0|127=>198|5=>5|n=>n,fun|n=>n⟩
theorem Tryz.laysM316:Go.Proofs.LaysM.n316 Tryz.prog Tryz.laysM316_ren:={
 mixed:=by kernel_rfl
 f316:=Tryz.func120.trans (congrArg some (by kernel_rfl))
 t0:=Tryz.underlying0
 a0:=Tryz.isAgg0
 z0:=Tryz.sizeOf0
 v0:=Tryz.zeroValue0
 t3:=Tryz.underlying3
 a3:=Tryz.isAgg3
 z3:=Tryz.sizeOf3
 v3:=Tryz.zeroValue3
 t4:=Tryz.underlying4
 a4:=Tryz.isAgg4
 z4:=Tryz.sizeOf4
 v4:=Tryz.zeroValue4
 t9:=Tryz.underlying9
 a9:=Tryz.isAgg9
 z9:=Tryz.sizeOf9
 v9:=Tryz.zeroValue9
 t37:=Tryz.underlying184
 a37:=Tryz.isAgg184
 z37:=Tryz.sizeOf184
 v37:=Tryz.zeroValue184
 t127:=Tryz.underlying198
 a127:=Tryz.isAgg198
 z127:=Tryz.sizeOf198
 v127:=Tryz.zeroValue198
 t5:=Tryz.underlying5
 a5:=Tryz.isAgg5
 z5:=Tryz.sizeOf5
 v5:=Tryz.zeroValue5
 i0:=by kernel_rfl
 i3:=by kernel_rfl
 i4:=by kernel_rfl
 i5:=by kernel_rfl
 i9:=by kernel_rfl
 i37:=by kernel_rfl
 i127:=by kernel_rfl }
def Tryz.lays197_ren:Go.Shelf.Ren:=⟨fun|197=>186|260=>190|n=>n,fun|9=>9|21=>21|3=>3|4=>4|5=>5|105=>253|119=>260|0=>0|46=>203|139=>263|138=>262|n=>n,fun|3=>0|4=>1|n=>n⟩
theorem Tryz.lays197:Go.Proofs.Lays.n197 Tryz.prog Tryz.lays197_ren:={
 mixed:=by kernel_rfl
 f197:=Tryz.func186.trans (congrArg some (by kernel_rfl))
 f260:=Tryz.func190.trans (congrArg some (by kernel_rfl))
 t0:=Tryz.underlying0
 a0:=Tryz.isAgg0
 z0:=Tryz.sizeOf0
 v0:=Tryz.zeroValue0
 t3:=Tryz.underlying3
 a3:=Tryz.isAgg3
 z3:=Tryz.sizeOf3
 v3:=Tryz.zeroValue3
 t4:=Tryz.underlying4
 a4:=Tryz.isAgg4
 z4:=Tryz.sizeOf4
 v4:=Tryz.zeroValue4
 t5:=Tryz.underlying5
 a5:=Tryz.isAgg5
 z5:=Tryz.sizeOf5
 v5:=Tryz.zeroValue5
 t9:=Tryz.underlying9
 a9:=Tryz.isAgg9
 z9:=Tryz.sizeOf9
 v9:=Tryz.zeroValue9
 t21:=Tryz.underlying21
 a21:=Tryz.isAgg21
 z21:=Tryz.sizeOf21
 v21:=Tryz.zeroValue21
 t46:=Tryz.underlying203
 a46:=Tryz.isAgg203
 z46:=Tryz.sizeOf203
 v46:=Tryz.zeroValue203
 t105:=Tryz.underlying253
 a105:=Tryz.isAgg253
 z105:=Tryz.sizeOf253
 v105:=Tryz.zeroValue253
 t119:=Tryz.underlying260
 a119:=Tryz.isAgg260
 z119:=Tryz.sizeOf260
 t138:=Tryz.underlying262
 a138:=Tryz.isAgg262
 z138:=Tryz.sizeOf262
 v138:=Tryz.zeroValue262
 t139:=Tryz.underlying263
 a139:=Tryz.isAgg263
 z139:=Tryz.sizeOf263
 v139:=Tryz.zeroValue263
 g3:=by kernel_rfl
 g4:=by kernel_rfl }
end Go.Proofs
namespace Go.Proofs.YtmamabhhgfcjcaaGreatDoor
open Go Go.Lib
def enc(rs:List Nat):List UInt8:=rs.flatMap fun r:Nat=>encodeRune (r:Int)
open Go.RowKit
variable (V:ByteArray→Bool) (Tabs:World→Prop)
variable (Tabs:World→Prop)
def vD(s:ByteArray):Bool:=Lib.validD s.data.toList
def partOK(x:Ex):Bool :=
 if x.kind=1 then decide (x.name=⟨#[]⟩∧x.kids.length=0)
 else if x.kind=2 then isNm x.name.data.toList && decide (x.so=0∧x.n=0∧x.s=⟨#[]⟩∧x.kids.length=0)
 else if x.kind=3 then decide (x.so=0∧x.n=0∧x.s=⟨#[]⟩) && isOp x.name.data.toList x.kids.length
 else false
def chkP:Ex→Nat→Int × Nat
 | ⟨kd,nm,so,n,s,ks⟩,c =>
  if 60<c+1 then (2,c+1) else if partOK ⟨kd,nm,so,n,s,ks⟩=false then (1,c+1) else if kd=1 then (chkZ vD so n s,c+1)
  else ks.foldl (fun a k=>if a.1≠0 then a else chkP k a.2) (0,c+1)
def chkL(ks:List Ex)(a:Int × Nat):Int × Nat:=ks.foldl (fun a k=>if a.1≠0 then a else chkP k a.2) a
theorem chkP_eq(x:Ex)(c:Nat):chkP x c=if 60<c+1 then (2,c+1) else if partOK x=false then (1,c+1) else if x.kind=1 then (chkZ vD x.so x.n x.s,c+1) else chkL x.kids (0,c+1):=by
 cases x;rw [chkP];rfl
theorem chkL_cons(x:Ex)(ks:List Ex)(a:Int × Nat):chkL (x::ks) a=chkL ks (if a.1≠0 then a else chkP x a.2):=rfl
theorem chkL_bad(ks:List Ex)(a:Int × Nat)(h:a.1≠0):chkL ks a=a:=by
 induction ks with
 | nil=>rfl
 | cons x ks ih=>rw [chkL_cons,if_pos h];exact ih
def chkX(x:Ex):Int:=(chkP x 0).1
def wfX:Ex→Prop
 | ⟨kd,nm,so,n,s,ks⟩=>partOK ⟨kd,nm,so,n,s,ks⟩=true∧(kd=1→chkZ vD so n s=0)∧∀k,k∈ks→wfX k
theorem wfX_eq(x:Ex):wfX x↔partOK x=true∧(x.kind=1→chkZ vD x.so x.n x.s=0)∧∀k∈x.kids,wfX k:=by
 cases x;rw [wfX]
theorem exInd(P:Ex→Prop)(h:∀x:Ex,(∀k∈x.kids,P k)→P x):∀x,P x:=by
 intro x;induction x using Ex.rec (motive_2:=fun l=>∀x∈l,P x) with
 | mk kd nm so n s ks ih=>exact h ⟨kd,nm,so,n,s,ks⟩ ih
 | nil=>simp at *
 | cons a l ha hl =>
  rename_i y hy
  rcases List.mem_cons.1 hy with rfl|hx
  ·exact ha
  ·exact hl _ hx
theorem kind1_kids(x:Ex)(h:partOK x=true)(hk:x.kind=1):x.kids=[]:=by
 unfold partOK at h;rw [if_pos hk]at h;have:=of_decide_eq_true h;exact List.eq_nil_of_length_eq_zero this.2
theorem chk_wf:∀x:Ex,∀c,(chkP x c).1=0→wfX x:=by
 apply exInd
 intro x ih c h;rw [chkP_eq]at h;by_cases h1:60<c+1
 ·rw [if_pos h1]at h;simp at h
 ·rw [if_neg h1]at h
  by_cases h2:partOK x=false
  ·rw [if_pos h2]at h;simp at h
  ·rw [if_neg h2]at h
   have hp:partOK x=true:=by simpa using h2
   rw [wfX_eq];by_cases h3:x.kind=1
   ·rw [if_pos h3]at h
    refine ⟨hp,fun _=>h,?_⟩
    rw [kind1_kids x hp h3];intro k hk;cases hk
   ·rw [if_neg h3]at h
    refine ⟨hp,fun e=>absurd e h3,?_⟩
    have:∀(ks:List Ex) (a:Int × Nat),(∀k∈ks,k∈x.kids)→(chkL ks a).1=0→∀k∈ks,wfX k:=by
     intro ks;induction ks with
     | nil=>intro a _ _ k hk;cases hk
     | cons y ks ihk =>
      intro a hs h0 k hk;rw [chkL_cons]at h0;have ha:(if a.1≠0 then a else chkP y a.2).1=0:=by
       apply Classical.byContradiction;intro hn;rw [chkL_bad _ _ hn]at h0;exact hn h0
      rcases List.mem_cons.1 hk with rfl|hk
      ·by_cases ha0:a.1≠0
       ·rw [if_pos ha0]at ha;exact absurd ha ha0
       ·rw [if_neg ha0]at ha;exact ih _ (hs _ (.head _)) _ ha
      ·exact ihk _ (fun k hk=>hs k (.tail _ hk)) h0 k hk
    exact this x.kids (0,c+1) (fun k hk=>hk) h
def sortX(E:ByteArray→Int × Int):Ex→Int × Int
 | ⟨kd,nm,so,_,_,ks⟩ =>
  if kd=1 then (so,0) else if kd=2 then E nm else
  match ks with
  | []=>((opS nm.data.toList).2,0)
  | [a]=>if (sortX E a).2≠0 then (0,(sortX E a).2) else
    if (sortX E a).1≠(if isCmp nm.data.toList then (sortX E a).1 else (opS nm.data.toList).1) then (0,5) else ((opS nm.data.toList).2,0)
  | a::b::_=>if (sortX E a).2≠0 then (0,(sortX E a).2) else
    if (sortX E a).1≠(if isCmp nm.data.toList then (sortX E a).1 else (opS nm.data.toList).1) then (0,5) else
    if (sortX E b).2≠0 then (0,(sortX E b).2) else
    if (sortX E b).1≠(if isCmp nm.data.toList then (sortX E a).1 else (opS nm.data.toList).1) then (0,5) else ((opS nm.data.toList).2,0)
theorem wf_cases(x:Ex)(h:wfX x):(x.kind=1∧x.kids=[]∧chkZ vD x.so x.n x.s=0)∨(x.kind=2∧x.kids=[]∧isNm x.name.data.toList=true) ∨
  (x.kind=3∧∃a,x.kids=[a]∧wfX a∧(x.name.data.toList=[110,111,116]∨x.name.data.toList=[110,101,103]∨x.name.data.toList=[35])) ∨
  (x.kind=3∧∃a b,x.kids=[a,b]∧wfX a∧wfX b∧0<lvl x.name.data.toList):=by
 obtain ⟨hp,hv,hk⟩:=(wfX_eq x).1 h;by_cases h1:x.kind=1
 ·exact .inl ⟨h1,kind1_kids x hp h1,hv h1⟩
 ·unfold partOK at hp
  rw [if_neg h1]at hp;by_cases h2:x.kind=2
  ·rw [if_pos h2]at hp
   simp only [Bool.and_eq_true,decide_eq_true_eq]at hp;exact .inr (.inl ⟨h2,List.eq_nil_of_length_eq_zero hp.2.2.2.2,hp.1⟩)
  ·rw [if_neg h2]at hp
   by_cases h3:x.kind=3
   ·rw [if_pos h3]at hp
    simp only [Bool.and_eq_true,decide_eq_true_eq]at hp;obtain ⟨_,ho⟩:=hp;unfold isOp at ho;by_cases l1:x.kids.length=1
    ·rw [if_pos l1]at ho
     obtain ⟨a,ha⟩:=List.length_eq_one_iff.1 l1;exact .inr (.inr (.inl ⟨h3,a,ha,hk a (by rw [ha];exact .head _),of_decide_eq_true ho⟩))
    ·rw [if_neg l1]at ho
     by_cases l2:x.kids.length=2
     ·rw [if_pos l2]at ho
      obtain ⟨a,b,ha⟩:∃a b,x.kids=[a,b]:=by
       match hq:x.kids,l2 with
       | [a,b],_=>exact ⟨a,b,rfl⟩
      exact .inr (.inr (.inr ⟨h3,a,b,ha,hk a (by rw [ha];exact .head _),hk b (by rw [ha];exact .tail _ (.head _)),of_decide_eq_true ho⟩))
     ·rw [if_neg l2]at ho;cases ho
   ·rw [if_neg h3]at hp;cases hp
theorem sort_lit(E:ByteArray→Int × Int)(x:Ex)(h:x.kind=1):sortX E x=(x.so,0):=by cases x;subst h;rw [sortX.eq_def];simp
theorem sort_name(E:ByteArray→Int × Int)(x:Ex)(h:x.kind=2):sortX E x=E x.name:=by cases x;subst h;rw [sortX.eq_def];simp
def want1(l:List UInt8)(z:Int):Int:=if isCmp l then z else (opS l).1
def sort1(l:List UInt8)(p:Int × Int):Int × Int:=if p.2≠0 then (0,p.2) else if p.1≠want1 l p.1 then (0,5) else ((opS l).2,0)
def sort2(l:List UInt8)(p q:Int × Int):Int × Int:=if p.2≠0 then (0,p.2) else if p.1≠want1 l p.1 then (0,5) else if q.2≠0 then (0,q.2) else if q.1≠want1 l p.1 then (0,5) else ((opS l).2,0)
theorem sort_one(E:ByteArray→Int × Int)(x a:Ex)(h:x.kind=3)(hk:x.kids=[a]):sortX E x=sort1 x.name.data.toList (sortX E a):=by
 cases x;subst h;simp only at hk;subst hk;rw [sortX.eq_def];simp [sort1,want1]
theorem sort_two(E:ByteArray→Int × Int)(x a b:Ex)(h:x.kind=3)(hk:x.kids=[a,b]):sortX E x=sort2 x.name.data.toList (sortX E a) (sortX E b):=by
 cases x;subst h;simp only at hk;subst hk;rw [sortX.eq_def];simp [sort2,want1]
end Go.Proofs.YtmamabhhgfcjcaaGreatDoor
