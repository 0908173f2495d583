/-
  The contracts of strings.Clone, exprs.copied, compared, reckonOne and reckonTwo, each for every value; utf8.ValidString's and strings.Compare's contracts are hypotheses here.
-/
import Derived.Deep.OwnRows
import Derived.Test.YtmamabhhgfcjcaaGreatDoorIf
set_option maxRecDepth 100000
set_option maxHeartbeats 8000000
namespace Go.Proofs.YtmamabhhgfcjcaaGreatDoor
open Go.RowKit Go.Shelf
variable (Tabs:World→Prop) (B0:Nat)
def srtR(x:Ex)(ns:List ByteArray)(zs:List Int):Int × Int:=if chkX x=0 then sortX (lookS ns zs) x else (0,chkX x)
structure En where
 g:List Nd
 k:Nat
structure Sc where
 vs:List ByteArray
 ss:List Int
 es:List (ByteArray × En)
def getE(es:List (ByteArray × En))(n:ByteArray):Option En:=(es.find? fun q=>decide (q.1=n)).map (·.2)
def delE(es:List (ByteArray × En))(n:ByteArray):List (ByteArray × En):=es.filter fun q=>decide (q.1≠n)
def putE(es:List (ByteArray × En))(n:ByteArray)(x:En):List (ByteArray × En):=delE es n++[(n,x)]
def hereE(x:En):Nd:=nodeAt x.g x.k
def toE(x:En)(j:Nat):En:=⟨x.g,(hereE x).to.getD j 0⟩
def Sc.wv(s:Sc)(n:ByteArray)(z:Int):Sc:=⟨s.vs++[n],s.ss++[z],s.es⟩
def Sc.we(s:Sc)(n:ByteArray)(x:En):Sc:=⟨s.vs,s.ss,putE s.es n x⟩
def Sc.wo(s:Sc)(n:ByteArray):Sc:=⟨s.vs,s.ss,delE s.es n⟩
def fitE(x y:En):Int:=if belB x.g y.g x.k y.k then 0 else 7
def wntS(s:Sc)(x:Ex)(z:Int):Int:=if (srtR x s.vs s.ss).2=0∧(srtR x s.vs s.ss).1≠z then 5 else (srtR x s.vs s.ss).2
def noE(s:Sc):Int:=if s.es.length=0 then 0 else 6
def dnBy(k:Int):Int:=if 2≤k∧k≤7 then k else 1
def usE(p:Pr)(s:Sc):Int:=match getE s.es p.chan with
 | none=>4
 | some x=>if (hereE x).kind≠dnBy p.kind then 7 else 0
def behD(p:Pr)(s:Sc)(x:En):Sc × Int :=
 if p.kind=2 then (s.we p.chan (toE x 0),wntS s p.ex (hereE x).so)
 else if p.kind=3 then ((s.we p.chan (toE x 0)).wv p.name (hereE x).so,0)
 else if p.kind=4 then
  if p.name=p.chan then (s,4) else match getE s.es p.name with
   | none=>(s,4)
   | some y=>((s.wo p.name).we p.chan (toE x 1),fitE y (toE x 0))
 else if p.kind=5 then
  if (getE s.es p.name).isSome then (s,4) else ((s.we p.chan (toE x 1)).we p.name (toE x 0),0)
 else if p.kind=6 then
  if hasN (hereE x).labs p.label then (s.we p.chan (toE x (idxB (hereE x).labs p.label)),0) else (s,7)
 else (s.wo p.chan,0)
def behP(p:Pr)(s:Sc):Sc × Int :=
 if p.kind=11 then (s.wv p.name (srtR p.ex s.vs s.ss).1,(srtR p.ex s.vs s.ss).2)
 else if p.kind=12 then (s,(srtR p.ex s.vs s.ss).2)
 else match getE s.es p.chan with
  | none=>(s,4)
  | some x=>if (hereE x).kind≠dnBy p.kind then (s,7) else behD p s x
def csG(p:Pr)(fs:List (Sc→Int))(s:Sc)(x:En):List ByteArray→Nat→Int
 | [],_=>0
 | l::ls,i=>if hasN p.labels l then
   (if (fs.getD (idxB p.labels l) fun _=>0) (s.we p.chan (toE x i))≠0 then (fs.getD (idxB p.labels l) fun _=>0) (s.we p.chan (toE x i)) else csG p fs s x ls (i+1))
  else 7
def tkN:List ByteArray→List (ByteArray × En)→List (ByteArray × En)→Option (List (ByteArray × En) × List (ByteArray × En))
 | [],c,r=>some (c,r)
 | n::ns,c,r=>match getE r n with
  | none=>none
  | some x=>tkN ns (putE c n x) (delE r n)
def exG(s:Sc):List Ex→List Int→Int
 | x::xs,z::zs=>if wntS s x z≠0 then wntS s x z else exG s xs zs
 | _,_=>0
def nmG:List ByteArray→List En→Sc→Int
 | n::ns,y::ys,s=>match getE s.es n with
  | none=>4
  | some x=>if fitE x y≠0 then fitE x y else nmG ns ys (s.wo n)
 | _,_,s=>noE s
section
variable (gr og:Ty→List Nd) (ds:List Df)
def hdOf(n:ByteArray):Option Df:=ds.find? fun d=>decide (d.name=n)
def endsD(d:Df):List En:=d.tys.map fun t=>⟨gr t,0⟩
def ckB(p:Pr)(fs:List (Sc→Int))(s:Sc):Int :=
 if p.kind=1 then noE s
 else if p.kind=7 then match getE s.es p.chan with
  | none=>4
  | some x=>if (hereE x).kind≠dnBy p.kind then 7 else csG p fs s x (hereE x).labs 0
 else if p.kind=9 then
  if (getE s.es p.chan).isSome then 4 else match tkN p.names [] s.es with
   | none=>4
   | some q =>
    if (fs.getD 0 fun _=>0) ⟨s.vs,s.ss,putE q.1 p.chan ⟨gr p.ty,0⟩⟩≠0 then (fs.getD 0 fun _=>0) ⟨s.vs,s.ss,putE q.1 p.chan ⟨gr p.ty,0⟩⟩
    else (fs.getD 1 fun _=>0) ⟨s.vs,s.ss,putE q.2 p.chan ⟨og p.ty,0⟩⟩
 else if p.kind=10 then
  if wntS s p.ex 2≠0 then wntS s p.ex 2
  else if (fs.getD 0 fun _=>0) s≠0 then (fs.getD 0 fun _=>0) s else (fs.getD 1 fun _=>0) s
 else if p.kind=13 then match hdOf ds p.name with
  | none=>4
  | some d=>if p.exs.length≠d.sorts.length∨p.names.length≠d.tys.length then 1
   else if exG s p.exs d.sorts≠0 then exG s p.exs d.sorts else nmG p.names (endsD gr d) s
 else if (behP p s).2≠0 then (behP p s).2 else (fs.getD 0 fun _=>0) (behP p s).1
def ckR:Pr→Sc→Int
 | ⟨kd,ch,nm,lb,x,xs,ns,t,ls,ks⟩=>ckB gr og ds ⟨kd,ch,nm,lb,x,xs,ns,t,ls,ks⟩ (ks.map ckR)
theorem ckR_eq(p:Pr)(s:Sc):ckR gr og ds p s=ckB gr og ds p (p.kids.map (ckR gr og ds)) s:=by cases p;rw [ckR]
def apN:List ByteArray→List ByteArray→Bool
 | _,[]=>true
 | a,n::ns=>!hasN a n && apN (a++[n]) ns
def scD(d:Df):Sc:=⟨d.vals,d.sorts,(d.chans.zip (endsD gr d)).foldl (fun es q=>putE es q.1 q.2) []⟩
def ownN(a:List Df)(d:Df):Bool:=apN [] d.vals && (apN [] d.chans && !a.any fun x=>decide (x.name=d.name))
def ownsG:List Df→List Df→Option Nat
 | _,[]=>none
 | a,d::ds=>if ownN a d then ownsG (a++[d]) ds else some a.length
def bdsG:List Df→Nat→Int × Nat
 | [],_=>(0,0)
 | d::l,k=>if ckR gr og ds d.body (scD gr d)≠0 then (ckR gr og ds d.body (scD gr d),k) else bdsG l (k+1)
def ckP:Int × Nat :=
 if shpP ds≠0 then (shpP ds,0)
 else if (ds.getD 0 ⟨⟨#[]⟩,[],[],[],[],⟨0,⟨#[]⟩,⟨#[]⟩,⟨#[]⟩,⟨0,⟨#[]⟩,0,0,⟨#[]⟩,[]⟩,[],[],⟨0,0,⟨#[]⟩,[],[]⟩,[],[]⟩⟩).vals.length > 0∨(ds.getD 0 ⟨⟨#[]⟩,[],[],[],[],⟨0,⟨#[]⟩,⟨#[]⟩,⟨#[]⟩,⟨0,⟨#[]⟩,0,0,⟨#[]⟩,[]⟩,[],[],⟨0,0,⟨#[]⟩,[],[]⟩,[],[]⟩⟩).chans.length > 0 then (1,0)
 else match ownsG [] ds with
  | some k=>(4,k)
  | none=>bdsG gr og ds ds 0
end
section
variable (f:Ty→Ty)
def chgP:Pr→Pr
 | ⟨kd,ch,nm,lb,x,xs,ns,t,ls,ks⟩=>⟨kd,ch,nm,lb,x,xs,ns,if kd=9 then f t else t,ls,ks.map chgP⟩
theorem chgP_eq(p:Pr):chgP f p=⟨p.kind,p.chan,p.name,p.label,p.ex,p.exs,p.names,if p.kind=9 then f p.ty else p.ty,p.labels,p.kids.map (chgP f)⟩:=by cases p;rw [chgP]
def chD(d:Df):Df:=⟨d.name,d.vals,d.sorts,d.chans,d.tys.map f,chgP f d.body⟩
variable {f}
theorem part_ch(p:Pr):partP (chgP f p)=partP p:=by
 rw [chgP_eq];unfold partP pt0 pt1 pt2 pt3 pt4 pt5 pt6 pt7 pt8 kdsOf nmOf;simp only [List.length_map];by_cases h:p.kind=9
 ·simp only [hvT,h,fitB,if_true,decide_true]
 ·simp only [if_neg h]
theorem ins_ch(hf:∀t,chkTy t=0→chkTy (f t)=0)(p:Pr)(h:insP p=0):insP (chgP f p)=0:=by
 rw [chgP_eq];unfold insP at h ⊢;simp only;by_cases h1:exsE p.exs≠0
 ·rw [if_pos h1]at h;exact absurd h h1
 rw [if_neg h1]at h ⊢;by_cases h2:hvX p.kind=true
 ·rw [if_pos h2]at h ⊢;exact h
 rw [if_neg h2]at h ⊢;by_cases h3:hvT p.kind=true
 ·rw [if_pos h3]at h ⊢
  rw [if_pos (by simpa [hvT] using h3)]
  exact hf _ h
 ·rw [if_neg h3]
theorem shpL_ch(ks:List Pr)(hk:∀k∈ks,∀c,c≤200→(shpR k c).1=0→shpR (chgP f k) c=shpR k c):∀a:Int × Nat,a.2≤200→(shpL ks a).1=0→shpL (ks.map (chgP f)) a=shpL ks a:=by
 induction ks with
 | nil=>intro a _ _;rfl
 | cons x ks ih =>
  intro a ha h;rw [List.map_cons];rw [shpL_cons]at h ⊢;rw [shpL_cons];by_cases h0:a.1≠0
  ·rw [if_pos h0]at h ⊢
   rw [if_pos h0];exact ih (fun k hm=>hk k (.tail _ hm)) a ha h
  ·rw [if_neg h0]at h ⊢
   rw [if_neg h0];have hx:(shpR x a.2).1=0:=by
    apply Classical.byContradiction
    intro q;rw [shpL_bad _ _ q]at h;exact q h
   rw [hk x (.head _) _ ha hx];exact ih (fun k hm=>hk k (.tail _ hm)) _ (shpR_cnt x a.2 ha hx).2 h
theorem shpR_ch(hf:∀t,chkTy t=0→chkTy (f t)=0):∀p:Pr,∀c,c≤200→(shpR p c).1=0→shpR (chgP f p) c=shpR p c:=by
 apply prInd
 intro p ih c hc h;rw [shpR_eq]at h ⊢;rw [shpR_eq,part_ch];by_cases h1:200<c+1
 ·rw [if_pos h1,if_pos h1]
 rw [if_neg h1]at h ⊢;rw [if_neg h1];by_cases h2:partP p=false
 ·rw [if_pos h2,if_pos h2]
 rw [if_neg h2]at h ⊢;rw [if_neg h2];by_cases h3:insP p≠0
 ·rw [if_pos h3]at h;exact absurd h h3
 rw [if_neg h3]at h ⊢;rw [if_neg (by rw [ins_ch hf p (by simpa using h3)];simp),chgP_eq]
 exact shpL_ch p.kids ih (0,c+1) (by show c+1≤200;omega) h
theorem tysE_ch(hf:∀t,chkTy t=0→chkTy (f t)=0)(l:List Ty)(h:tysE l=0):tysE (l.map f)=0:=by
 induction l with
 | nil=>rfl
 | cons x l ih =>
  rw [List.map_cons];rw [tysE]at h ⊢;by_cases q:chkTy x≠0
  ·rw [if_pos q]at h;exact absurd h q
  ·rw [if_neg q]at h
   rw [if_neg (by rw [hf x (by simpa using q)];simp)]
   exact ih h
theorem hed_ch(d:Df):hedD (chD f d)=hedD d:=by
 unfold hedD chD;simp only [List.length_map]
theorem shpD_ch(hf:∀t,chkTy t=0→chkTy (f t)=0)(d:Df)(c:Nat)(hc:c≤200)(h:(shpD d c).1=0):shpD (chD f d) c=shpD d c:=by
 unfold shpD at h ⊢;rw [hed_ch];by_cases h1:hedD d=false
 ·rw [if_pos h1,if_pos h1]
 rw [if_neg h1]at h ⊢;rw [if_neg h1];by_cases h2:tysE d.tys≠0
 ·rw [if_pos h2]at h;exact absurd h h2
 rw [if_neg h2]at h ⊢;rw [if_neg (by show ¬tysE (d.tys.map f)≠0;rw [tysE_ch hf _ (by simpa using h2)];simp)]
 exact shpR_ch hf _ _ hc h
theorem shpDs_ch(hf:∀t,chkTy t=0→chkTy (f t)=0)(ks:List Df):∀a:Int × Nat,a.2≤200→(shpDs ks a).1=0→shpDs (ks.map (chD f)) a=shpDs ks a:=by
 induction ks with
 | nil=>intro a _ _;rfl
 | cons x ks ih =>
  intro a ha h;have e:∀(y:Df) (l:List Df),shpDs (y::l) a=shpDs l (if a.1≠0 then a else shpD y a.2):=fun _ _=>rfl
  rw [List.map_cons];rw [e]at h ⊢;rw [e];by_cases h0:a.1≠0
  ·rw [if_pos h0]at h ⊢
   rw [if_pos h0];exact ih a ha h
  ·rw [if_neg h0]at h ⊢
   rw [if_neg h0];have hx:(shpD x a.2).1=0:=by
    apply Classical.byContradiction
    intro q;rw [shpDs_bad _ _ q]at h;exact q h
   rw [shpD_ch hf x _ ha hx];exact ih _ (shpD_cnt x a.2 ha hx) h
theorem shpP_ch(hf:∀t,chkTy t=0→chkTy (f t)=0)(ds:List Df)(h:shpP ds=0):shpP (ds.map (chD f))=0:=by
 unfold shpP at h ⊢;rw [List.length_map];by_cases h1:ds.length=0
 ·rw [if_pos h1]at h;exact absurd h (by decide)
 rw [if_neg h1]at h ⊢;by_cases h2:10<ds.length
 ·rw [if_pos h2]at h;exact absurd h (by decide)
 rw [if_neg h2]at h ⊢;rw [shpDs_ch hf ds (0,0) (by decide) h]
 exact h
theorem own_ch(a:List Df)(d:Df):ownN (a.map (chD f)) (chD f d)=ownN a d:=by
 unfold ownN;rw [List.any_map];rfl
theorem owns_ch:∀(l a:List Df),ownsG (a.map (chD f)) (l.map (chD f))=ownsG a l:=by
 intro l;induction l with
 | nil=>intro a;rfl
 | cons d l ih =>
  intro a;rw [List.map_cons,ownsG,ownsG,own_ch,List.length_map];have:=ih (a++[d]);rw [List.map_append]at this;rw [show [chD f d]=[d].map (chD f) from rfl,this]
section
variable {gr og:Ty→List Nd}
theorem csG_ch(p:Pr)(fs:List (Sc→Int))(s:Sc)(x:En):∀(ls:List ByteArray) (i:Nat),csG (chgP f p) fs s x ls i=csG p fs s x ls i:=by
 intro ls;induction ls with
 | nil=>intro i;rfl
 | cons l ls ih =>
  intro i;rw [csG,csG,ih];rw [chgP_eq]
theorem beh_ch(p:Pr)(s:Sc):behP (chgP f p) s=behP p s:=by
 rw [chgP_eq];rfl
theorem ends_ch(hgr:∀t,gr (f t)=gr t)(d:Df):endsD gr (chD f d)=endsD gr d:=by
 unfold endsD chD;rw [List.map_map];exact List.map_congr_left fun t _=>by show (⟨gr (f t),0⟩:En)=⟨gr t,0⟩;rw [hgr]
theorem ckR_ch(hgr:∀t,gr (f t)=gr t)(hog:∀t,og (f t)=og t)(ds:List Df):∀(p:Pr) (s:Sc),ckR gr og (ds.map (chD f)) (chgP f p) s=ckR gr og ds p s:=by
 apply prInd
 intro p ih s;rw [ckR_eq,ckR_eq];have hfs:(chgP f p).kids.map (ckR gr og (ds.map (chD f)))=p.kids.map (ckR gr og ds):=by
  rw [chgP_eq,List.map_map];exact List.map_congr_left fun k hk=>funext fun s=>ih k hk s
 rw [hfs];generalize p.kids.map (ckR gr og ds)=fs;have hh:hdOf (ds.map (chD f)) p.name=(hdOf ds p.name).map (chD f):=by
  unfold hdOf;rw [List.find?_map];rfl
 have ht:gr (chgP f p).ty=gr p.ty∧og (chgP f p).ty=og p.ty:=by
  rw [chgP_eq];simp only;split
  ·exact ⟨hgr _,hog _⟩
  ·exact ⟨rfl,rfl⟩
 unfold ckB;rw [beh_ch,ht.1,ht.2];have e1:(chgP f p).kind=p.kind:=by rw [chgP_eq]
 have e2:(chgP f p).chan=p.chan:=by rw [chgP_eq]
 have e3:(chgP f p).name=p.name:=by rw [chgP_eq]
 have e4:(chgP f p).names=p.names:=by rw [chgP_eq]
 have e5:(chgP f p).exs=p.exs:=by rw [chgP_eq]
 have e6:(chgP f p).ex=p.ex:=by rw [chgP_eq]
 rw [e1,e2,e3,e4,e5,e6,hh];simp only [csG_ch];cases hdOf ds p.name with
 | none=>rfl
 | some d =>
  simp only [Option.map_some,ends_ch hgr];rw [show (chD f d).sorts=d.sorts from rfl,show (chD f d).tys.length=d.tys.length from List.length_map _]
theorem bds_ch(hgr:∀t,gr (f t)=gr t)(hog:∀t,og (f t)=og t)(ds:List Df):∀(l:List Df) (k:Nat),bdsG gr og (ds.map (chD f)) (l.map (chD f)) k=bdsG gr og ds l k:=by
 intro l;induction l with
 | nil=>intro k;rfl
 | cons d l ih =>
  intro k;have hs:scD gr (chD f d)=scD gr d:=by
   unfold scD;rw [ends_ch hgr];rfl
  rw [List.map_cons,bdsG,bdsG,hs,ih,show (chD f d).body=chgP f d.body from rfl,ckR_ch hgr hog]
theorem ckP_ch(hgr:∀t,gr (f t)=gr t)(hog:∀t,og (f t)=og t)(hf:∀t,chkTy t=0→chkTy (f t)=0)(ds:List Df)(h:shpP ds=0):ckP gr og (ds.map (chD f))=ckP gr og ds:=by
 unfold ckP;rw [shpP_ch hf ds h,h,bds_ch hgr hog,show ownsG [] (ds.map (chD f))=ownsG [] ds from owns_ch ds []]
 cases ds with
 | nil=>rfl
 | cons d ds=>rfl
end
end
theorem lay_var(t:Ty)(al:OAd)(cl:Nat)(ak:OAd)(ck:Nat)(ar:Ar)(aa:OAd)(ca pg:Nat)(u:Value)(toks:List TkN)(B:Nat)(w:World)(hm:MR w pg u.ownBlock ar aa ca)(hp:PG w pg u toks)(hl:ar.length≤900)(h9:t.kind=9):
  Calls Tryz.prog 52 #[.pointer (some ⟨pg,0,none⟩),tyVal t al cl ak ck,.slice aa ar.length ca] w (LYPost t ar pg u toks B w):=by
 have hA:Below w.heap.size w (w.alloc (.cells #[.int .i64 t.kind,.int .i64 t.so,.string t.name,.slice al t.labels.length cl,.slice ak t.kids.length ck] 37)):=(bR _ _).alloc (nR _) _;have cM:=meant_any t.name ar aa ca pg u.ownBlock _ (hm.keep (RF.of hA) (.inl rfl)) (by omega)
 have HLP:=hideK (layP_var t ar toks.length h9);have HP:=hideK hp;have HA:=hideK hA;have hkb:(t.kind==9)=true:=by rw [h9];rfl
 simp only [tyVal];clear hm hp h9 hA;go_enter Tryz.func52,Tryz.ntmps52
 go_wp2_with fail
 refine cM.mono ?_;rintro e w1 ⟨rfl,hb⟩;have HB:=hideK (HA.out.trans (hb.mono HA.out.size));clear cM hb;go_wp2_with fail
 go_ret
 refine ⟨by rw [HLP.out];rfl,[],u,by rw [HLP.out];rfl,?_,fun t ht=>(by cases ht),RF.of HB.out,.inl rfl⟩
 rw [List.append_nil];exact HP.out.keep HB.out
theorem lay_rec(d:Nat)(ih:LYSaid d)(t k:Ty)(al al2:OAd)(cl cl2:Nat)(ak2:OAd)(ck ck2 kb ko:Nat)(ar:Ar)(aa:OAd)(ca pg:Nat)(u:Value)(toks:List TkN)(B:Nat)(w:World)(hkid:TyAt w kb ko k al2 cl2 ak2 ck2)(hkB:kb<B)(hbd:TyBd k cl2 ck2)(hla:LA w B k.labels al2)(hkt:KT w B d k.kids ak2)(hwk:wfT k)
  (hm:MR w pg u.ownBlock ar aa ca) (hp:PG w pg u toks) (hB:B≤pg) (hs1:sizeT t+toks.length≤900) (hs2:ar.length+sizeT t≤900) (h8:t.kind=8) (hks:t.kids=[k]) :
  Calls Tryz.prog 52 #[.pointer (some ⟨pg,0,none⟩),tyVal t al cl (some ⟨kb,ko,none⟩) ck,.slice aa ar.length ca] w (LYPost t ar pg u toks B w):=by
 have hsk:sizeT k<sizeT t:=sizeT_kid (by rw [hks];exact .head _)
 have HLP:=hideK (layP_rec t ar toks.length h8 k hks);have hpl:=hp.lt;have HRW:∀j,u.ownBlock=some j→j<w.heap.size:=fun j hj=>(hp.own.lt j hj).2
 have HRW2:∀j,u.ownBlock=some j→pg+1≤j:=fun j hj=>(hp.own.lt j hj).1
 have s5k:∀(W W':World),(fun W:World=>W.cell? ⟨w.heap.size,2,none⟩=some (.string t.name)∧W.cell? ⟨w.heap.size,4,none⟩=some (.slice (some ⟨kb,ko,none⟩) 1 ck)∧W.cell? ⟨kb,ko,none⟩=some (.int .i64 k.kind)∧W.cell? ⟨kb,ko+1,none⟩=some (.int .i64 k.so)∧W.cell? ⟨kb,ko+2,none⟩=some (.string k.name)∧W.cell? ⟨kb,ko+3,none⟩=some (.slice al2 k.labels.length cl2)∧W.cell? ⟨kb,ko+4,none⟩=some (.slice ak2 k.kids.length ck2)) W→Below (w.heap.size+1) W W'→(fun W:World=>W.cell? ⟨w.heap.size,2,none⟩=some (.string t.name)∧W.cell? ⟨w.heap.size,4,none⟩=some (.slice (some ⟨kb,ko,none⟩) 1 ck)∧W.cell? ⟨kb,ko,none⟩=some (.int .i64 k.kind)∧W.cell? ⟨kb,ko+1,none⟩=some (.int .i64 k.so)∧W.cell? ⟨kb,ko+2,none⟩=some (.string k.name)∧W.cell? ⟨kb,ko+3,none⟩=some (.slice al2 k.labels.length cl2)∧W.cell? ⟨kb,ko+4,none⟩=some (.slice ak2 k.kids.length ck2)) W':=fun W W' hs hb=>⟨(hb.cell (p:=⟨w.heap.size,2,none⟩) (by show w.heap.size<_;omega)).trans hs.1,(hb.cell (p:=⟨w.heap.size,4,none⟩) (by show w.heap.size<_;omega)).trans hs.2.1,(hb.cell (p:=⟨kb,ko,none⟩) (by show kb<_;omega)).trans hs.2.2.1,(hb.cell (p:=⟨kb,ko+1,none⟩) (by show kb<_;omega)).trans hs.2.2.2.1,(hb.cell (p:=⟨kb,ko+2,none⟩) (by show kb<_;omega)).trans hs.2.2.2.2.1,(hb.cell (p:=⟨kb,ko+3,none⟩) (by show kb<_;omega)).trans hs.2.2.2.2.2.1,(hb.cell (p:=⟨kb,ko+4,none⟩) (by show kb<_;omega)).trans hs.2.2.2.2.2.2⟩
 have s5r:∀(W W':World),w.heap.size<W.heap.size→(fun W:World=>W.cell? ⟨w.heap.size,2,none⟩=some (.string t.name)∧W.cell? ⟨w.heap.size,4,none⟩=some (.slice (some ⟨kb,ko,none⟩) 1 ck)∧W.cell? ⟨kb,ko,none⟩=some (.int .i64 k.kind)∧W.cell? ⟨kb,ko+1,none⟩=some (.int .i64 k.so)∧W.cell? ⟨kb,ko+2,none⟩=some (.string k.name)∧W.cell? ⟨kb,ko+3,none⟩=some (.slice al2 k.labels.length cl2)∧W.cell? ⟨kb,ko+4,none⟩=some (.slice ak2 k.kids.length ck2)) W→RF pg pg u.ownBlock W W'→(fun W:World=>W.cell? ⟨w.heap.size,2,none⟩=some (.string t.name)∧W.cell? ⟨w.heap.size,4,none⟩=some (.slice (some ⟨kb,ko,none⟩) 1 ck)∧W.cell? ⟨kb,ko,none⟩=some (.int .i64 k.kind)∧W.cell? ⟨kb,ko+1,none⟩=some (.int .i64 k.so)∧W.cell? ⟨kb,ko+2,none⟩=some (.string k.name)∧W.cell? ⟨kb,ko+3,none⟩=some (.slice al2 k.labels.length cl2)∧W.cell? ⟨kb,ko+4,none⟩=some (.slice ak2 k.kids.length ck2)) W':=fun W W' hz hs hr=>by
  have c1:∀o,W'.cell? ⟨w.heap.size,o,none⟩=W.cell? ⟨w.heap.size,o,none⟩:=fun o=>hr.cell hz (by omega) (by omega) (fun e=>by have:=HRW _ e.symm;omega)
  have c2:∀o,W'.cell? ⟨kb,o,none⟩=W.cell? ⟨kb,o,none⟩:=fun o=>hr.cell (by omega) (by omega) (by omega) (fun e=>by have:=HRW2 _ e.symm;omega)
  exact ⟨(c1 _).trans hs.1,(c1 _).trans hs.2.1,(c2 _).trans hs.2.2.1,(c2 _).trans hs.2.2.2.1,(c2 _).trans hs.2.2.2.2.1,(c2 _).trans hs.2.2.2.2.2.1,(c2 _).trans hs.2.2.2.2.2.2⟩
 have hA:Below w.heap.size w (w.alloc (.cells #[.int .i64 t.kind,.int .i64 t.so,.string t.name,.slice al t.labels.length cl,.slice (some ⟨kb,ko,none⟩) 1 ck] 37)):=(bR _ _).alloc (nR _) _;have HB1:=hideK (show Below w.heap.size w ((w.alloc (.cells #[.int .i64 t.kind,.int .i64 t.so,.string t.name,.slice al t.labels.length cl,.slice (some ⟨kb,ko,none⟩) 1 ck] 37)).drew.alloc (.cells #[.string t.name,.int .i64 (toks.length:Int)] 152)) from hA.drew.alloc (by simp) _)
 have HM1:=hideK (hm.keep (RF.of HB1.out) (.inl rfl));have HP1:=hideK (hp.keep HB1.out);have HPL:=hideK (show pg<((w.alloc (.cells #[.int .i64 t.kind,.int .i64 t.so,.string t.name,.slice al t.labels.length cl,.slice (some ⟨kb,ko,none⟩) 1 ck] 37)).drew.alloc (.cells #[.string t.name,.int .i64 (toks.length:Int)] 152)).heap.size by simp;omega)
 have HRL:=hideK (show ∀j,u.ownBlock=some j→j<((w.alloc (.cells #[.int .i64 t.kind,.int .i64 t.so,.string t.name,.slice al t.labels.length cl,.slice (some ⟨kb,ko,none⟩) 1 ck] 37)).drew.alloc (.cells #[.string t.name,.int .i64 (toks.length:Int)] 152)).heap.size from fun j hj=>by have:=HRW j hj;simp;omega)
 have CC:=hideK (fun W=>clipM_any ar aa ca pg u.ownBlock w W hm (by omega))
 have hS0:(fun W:World=>W.cell? ⟨w.heap.size,2,none⟩=some (.string t.name)∧W.cell? ⟨w.heap.size,4,none⟩=some (.slice (some ⟨kb,ko,none⟩) 1 ck)∧W.cell? ⟨kb,ko,none⟩=some (.int .i64 k.kind)∧W.cell? ⟨kb,ko+1,none⟩=some (.int .i64 k.so)∧W.cell? ⟨kb,ko+2,none⟩=some (.string k.name)∧W.cell? ⟨kb,ko+3,none⟩=some (.slice al2 k.labels.length cl2)∧W.cell? ⟨kb,ko+4,none⟩=some (.slice ak2 k.kids.length ck2)) (w.alloc (.cells #[.int .i64 t.kind,.int .i64 t.so,.string t.name,.slice al t.labels.length cl,.slice (some ⟨kb,ko,none⟩) 1 ck] 37)).drew:=⟨by go_cell,by go_cell,(hA.drew.cell (p:=⟨kb,ko,none⟩) (by show kb<_;omega)).trans hkid.c0,(hA.drew.cell (p:=⟨kb,ko+1,none⟩) (by show kb<_;omega)).trans hkid.c1,(hA.drew.cell (p:=⟨kb,ko+2,none⟩) (by show kb<_;omega)).trans hkid.c2,(hA.drew.cell (p:=⟨kb,ko+3,none⟩) (by show kb<_;omega)).trans hkid.c3,(hA.drew.cell (p:=⟨kb,ko+4,none⟩) (by show kb<_;omega)).trans hkid.c4⟩
 have hih:∀(aa3:OAd) (ca3:Nat) (W:World),Below w.heap.size w W→MR W pg u.ownBlock (ar++[(t.name,toks.length)]) aa3 ca3→PG W pg u toks→Calls Tryz.prog 52 #[.pointer (some ⟨pg,0,none⟩),tyVal k al2 cl2 ak2 ck2,.slice aa3 (ar.length+1) ca3] W (LYPost k (ar++[(t.name,toks.length)]) pg u toks B W):=fun aa3 ca3 W hb hmr hpg=>by
  have:=ih k al2 cl2 ak2 ck2 (ar++[(t.name,toks.length)]) aa3 ca3 pg u toks B W hbd (hla.keep (hb.mono (by omega))) (hkt.keep (hb.mono (by omega))) hwk hmr hpg hB (by omega) (by simp;omega)
  simpa using this
 have hkb:(t.kind==9)=false:=by rw [h8];rfl
 have hkb8:(t.kind==8)=true:=by rw [h8];rfl
 have hsz0:w.heap.size<(w.alloc (.cells #[.int .i64 t.kind,.int .i64 t.so,.string t.name,.slice al t.labels.length cl,.slice (some ⟨kb,ko,none⟩) 1 ck] 37)).heap.size:=by simp
 obtain ⟨ua,uc,rfl⟩:=sliceH_own hp.own;have pc:(w.alloc (.cells #[.int .i64 t.kind,.int .i64 t.so,.string t.name,.slice al t.labels.length cl,.slice (some ⟨kb,ko,none⟩) 1 ck] 37)).drew.cell? ⟨pg,0,none⟩=some (.slice ua toks.length uc):=(hA.drew.cell (p:=⟨pg,0,none⟩) hpl).trans hp.c;have HIH:=hideK hih;have S5K:=hideK s5k;have S5R:=hideK s5r;simp only [tyVal,hks,List.length_singleton]at HIH ⊢;clear hm hp hA hih s5k s5r hkid hbd hla hkt HRW HRW2 h8 ih;go_enter Tryz.func52,Tryz.ntmps52
 go_wp2_with fail
 refine wp_region_held_drew (S:=(fun W:World=>W.cell? ⟨w.heap.size,2,none⟩=some (.string t.name)∧W.cell? ⟨w.heap.size,4,none⟩=some (.slice (some ⟨kb,ko,none⟩) 1 ck)∧W.cell? ⟨kb,ko,none⟩=some (.int .i64 k.kind)∧W.cell? ⟨kb,ko+1,none⟩=some (.int .i64 k.so)∧W.cell? ⟨kb,ko+2,none⟩=some (.string k.name)∧W.cell? ⟨kb,ko+3,none⟩=some (.slice al2 k.labels.length cl2)∧W.cell? ⟨kb,ko+4,none⟩=some (.slice ak2 k.kids.length ck2))) (by kernel_rfl) hS0 (fun hS=>?_)
 clear hS0;refine tkH 0 (.pointer (some ⟨pg,0,none⟩)) hS ?_;refine tkH 1 (.pointer (some ⟨w.heap.size,4,none⟩)) hS ?_;refine tkH 2 (.slice (some ⟨kb,ko,none⟩) 1 ck) hS ?_ (hy:=Or.inl ⟨by rfl,fun W hW=>by obtain ⟨x0,x1,x2,x3,x4,x5,x6⟩:=hW;go_simp⟩)
 refine tkH 3 (.pointer (some ⟨kb,ko,none⟩)) hS ?_;refine tkH 4 (.agg #[.int .i64 k.kind,.int .i64 k.so,.string k.name,.slice al2 k.labels.length cl2,.slice ak2 k.kids.length ck2]) hS ?_ (hy:=Or.inl ⟨by rfl,fun W hW=>by obtain ⟨x0,x1,x2,x3,x4,x5,x6⟩:=hW;go_simp⟩)
 refine tkH 5 (.slice aa ar.length ca) hS ?_;refine tkH 7 (.pointer (some ⟨w.heap.size,2,none⟩)) hS ?_;refine tkH 8 (.string t.name) hS ?_ (hy:=Or.inl ⟨by rfl,fun W hW=>by obtain ⟨x0,x1,x2,x3,x4,x5,x6⟩:=hW;go_simp⟩)
 refine tkH 9 (.pointer (some ⟨pg,0,none⟩)) hS ?_;refine tkH 10 (.pointer (some ⟨pg,0,none⟩)) hS ?_;refine wpAnyH_ready (rs:=[6,11]) (by kernel_rfl) (by simp) (AllReadyH.cons rfl (fun K hK=>?_) (AllReadyH.cons rfl (fun K hK=>?_) aN))
 ·go_simp
  refine (CC.out _).mono ?_;rintro e wc ⟨rfl,rfl⟩;have hSn:=hS;refine hK.out _ _ hSn ?_;clear hS hK K hSn;intro hS;refine take_oneHL 11 (AllReadyH.cons rfl (fun K hK=>?_) aN) (by kernel_rfl)
  go_simp
  have hSn:=hS;refine hK.out _ _ hSn ?_;clear hS hK K hSn;intro hS;refine tkH 12 (.int .i64 (toks.length:Int)) hS ?_;refine tkH 13 (.agg #[.string t.name,.int .i64 (toks.length:Int)]) hS ?_;refine take_oneHL 14 (AllReadyH.cons rfl (fun K hK=>?_) aN) (by kernel_rfl)
  go_simp
  have hSn:=S5K.out _ _ hS (((bR _ _).alloc (nR _) (.cells #[.string t.name,.int .i64 (toks.length:Int)] 152)).mono (by simp))
  refine hK.out _ _ hSn ?_;clear hS hK K hSn;intro hS;refine take_oneHL 15 (AllReadyH.cons rfl (fun K hK=>?_) aN) (by kernel_rfl)
  refine step_append_m _ rfl (.tmp 27) (.tmp 35) rfl ar aa pg (Value.slice ua toks.length uc).ownBlock t.name toks.length (w.heap.size+1) 1 rfl rfl HM1.out.clip (by omega) (by go_cell) (by go_cell) HPL.out HRL.out ?_
  intro aa3 ca3 w4 hMR4 hb4;have hSn:=S5K.out _ _ hS (hb4.mono (by simp))
  refine hK.out _ _ hSn ?_;clear hS hK K hSn;intro hS;have HB4:=hideK (show Below w.heap.size w w4 from HB1.out.trans (hb4.mono HB1.out.size))
  have HP4:=hideK (HP1.out.keep hb4);have CY:=HIH.out aa3 ca3 w4 HB4.out hMR4 HP4.out;have hz4:w.heap.size<w4.heap.size:=by have:=hb4.size;simp at this;omega
  clear hb4 hMR4;refine take_oneHL 16 (AllReadyH.cons rfl (fun K hK=>?_) aN) (by kernel_rfl)
  go_simp
  refine CY.mono ?_;rintro e w5 ⟨rfl,new,u5,hn5,hp5,ht5,hr5,hu5⟩;have hSn:=S5R.out _ _ hz4 hS hr5;refine hK.out _ _ hSn ?_;clear hS hK K hSn;intro hS;refine take_oneHL 17 (AllReadyH.cons rfl (fun K hK=>?_) aN) (by kernel_rfl)
  go_simp
  have hSn:=hS;refine hK.out _ _ hSn ?_;clear hS hK K hSn;intro hS;refine wpAnyH_done (by kernel_rfl) ?_ _
  clear hS CY;go_wp2_with fail
  go_ret
  refine ⟨by rw [HLP.out];rfl,new,u5,by rw [HLP.out];exact hn5,hp5,ht5.keep (bR _ _) (fun _ _ _=>rfl) (fun b hb=>⟨Nat.le_trans HB4.out.size hb.1,hb.2⟩),(RF.of (row:=(Value.slice ua toks.length uc).ownBlock) HB4.out).trans hr5 (.inl rfl),hu5.imp id (fun h k hk=>Nat.le_trans HB4.out.size (h k hk))⟩
 ·go_simp
  have hSn:=hS;refine hK.out _ _ hSn ?_;clear hS hK K hSn;intro hS;refine tkH 12 (.int .i64 (toks.length:Int)) hS ?_;refine tkH 13 (.agg #[.string t.name,.int .i64 (toks.length:Int)]) hS ?_;refine wpAnyH_ready (rs:=[6,14]) (by kernel_rfl) (by simp) (AllReadyH.cons rfl (fun K hK=>?_) (AllReadyH.cons rfl (fun K hK=>?_) aN))
  ·go_simp
   refine (CC.out _).mono ?_;rintro e wc ⟨rfl,rfl⟩;have hSn:=hS;refine hK.out _ _ hSn ?_;clear hS hK K hSn;intro hS;refine take_oneHL 14 (AllReadyH.cons rfl (fun K hK=>?_) aN) (by kernel_rfl)
   go_simp
   have hSn:=S5K.out _ _ hS (((bR _ _).alloc (nR _) (.cells #[.string t.name,.int .i64 (toks.length:Int)] 152)).mono (by simp))
   refine hK.out _ _ hSn ?_;clear hS hK K hSn;intro hS;refine take_oneHL 15 (AllReadyH.cons rfl (fun K hK=>?_) aN) (by kernel_rfl)
   refine step_append_m _ rfl (.tmp 27) (.tmp 35) rfl ar aa pg (Value.slice ua toks.length uc).ownBlock t.name toks.length (w.heap.size+1) 1 rfl rfl HM1.out.clip (by omega) (by go_cell) (by go_cell) HPL.out HRL.out ?_
   intro aa3 ca3 w4 hMR4 hb4;have hSn:=S5K.out _ _ hS (hb4.mono (by simp))
   refine hK.out _ _ hSn ?_;clear hS hK K hSn;intro hS;have HB4:=hideK (show Below w.heap.size w w4 from HB1.out.trans (hb4.mono HB1.out.size))
   have HP4:=hideK (HP1.out.keep hb4);have CY:=HIH.out aa3 ca3 w4 HB4.out hMR4 HP4.out;have hz4:w.heap.size<w4.heap.size:=by have:=hb4.size;simp at this;omega
   clear hb4 hMR4;refine take_oneHL 16 (AllReadyH.cons rfl (fun K hK=>?_) aN) (by kernel_rfl)
   go_simp
   refine CY.mono ?_;rintro e w5 ⟨rfl,new,u5,hn5,hp5,ht5,hr5,hu5⟩;have hSn:=S5R.out _ _ hz4 hS hr5;refine hK.out _ _ hSn ?_;clear hS hK K hSn;intro hS;refine take_oneHL 17 (AllReadyH.cons rfl (fun K hK=>?_) aN) (by kernel_rfl)
   go_simp
   have hSn:=hS;refine hK.out _ _ hSn ?_;clear hS hK K hSn;intro hS;refine wpAnyH_done (by kernel_rfl) ?_ _
   clear hS CY;go_wp2_with fail
   go_ret
   refine ⟨by rw [HLP.out];rfl,new,u5,by rw [HLP.out];exact hn5,hp5,ht5.keep (bR _ _) (fun _ _ _=>rfl) (fun b hb=>⟨Nat.le_trans HB4.out.size hb.1,hb.2⟩),(RF.of (row:=(Value.slice ua toks.length uc).ownBlock) HB4.out).trans hr5 (.inl rfl),hu5.imp id (fun h k hk=>Nat.le_trans HB4.out.size (h k hk))⟩
  ·go_simp
   have hSn:=S5K.out _ _ hS (((bR _ _).alloc (nR _) (.cells #[.string t.name,.int .i64 (toks.length:Int)] 152)).mono (by simp))
   refine hK.out _ _ hSn ?_;clear hS hK K hSn;intro hS;refine take_oneHL 6 (AllReadyH.cons rfl (fun K hK=>?_) aN) (by kernel_rfl)
   go_simp
   refine (CC.out _).mono ?_;rintro e wc ⟨rfl,rfl⟩;have hSn:=hS;refine hK.out _ _ hSn ?_;clear hS hK K hSn;intro hS;refine take_oneHL 15 (AllReadyH.cons rfl (fun K hK=>?_) aN) (by kernel_rfl)
   refine step_append_m _ rfl (.tmp 27) (.tmp 35) rfl ar aa pg (Value.slice ua toks.length uc).ownBlock t.name toks.length (w.heap.size+1) 1 rfl rfl HM1.out.clip (by omega) (by go_cell) (by go_cell) HPL.out HRL.out ?_
   intro aa3 ca3 w4 hMR4 hb4;have hSn:=S5K.out _ _ hS (hb4.mono (by simp))
   refine hK.out _ _ hSn ?_;clear hS hK K hSn;intro hS;have HB4:=hideK (show Below w.heap.size w w4 from HB1.out.trans (hb4.mono HB1.out.size))
   have HP4:=hideK (HP1.out.keep hb4);have CY:=HIH.out aa3 ca3 w4 HB4.out hMR4 HP4.out;have hz4:w.heap.size<w4.heap.size:=by have:=hb4.size;simp at this;omega
   clear hb4 hMR4;refine take_oneHL 16 (AllReadyH.cons rfl (fun K hK=>?_) aN) (by kernel_rfl)
   go_simp
   refine CY.mono ?_;rintro e w5 ⟨rfl,new,u5,hn5,hp5,ht5,hr5,hu5⟩;have hSn:=S5R.out _ _ hz4 hS hr5;refine hK.out _ _ hSn ?_;clear hS hK K hSn;intro hS;refine take_oneHL 17 (AllReadyH.cons rfl (fun K hK=>?_) aN) (by kernel_rfl)
   go_simp
   have hSn:=hS;refine hK.out _ _ hSn ?_;clear hS hK K hSn;intro hS;refine wpAnyH_done (by kernel_rfl) ?_ _
   clear hS CY;go_wp2_with fail
   go_ret
   refine ⟨by rw [HLP.out];rfl,new,u5,by rw [HLP.out];exact hn5,hp5,ht5.keep (bR _ _) (fun _ _ _=>rfl) (fun b hb=>⟨Nat.le_trans HB4.out.size hb.1,hb.2⟩),(RF.of (row:=(Value.slice ua toks.length uc).ownBlock) HB4.out).trans hr5 (.inl rfl),hu5.imp id (fun h k hk=>Nat.le_trans HB4.out.size (h k hk))⟩
structure LY(w:World)(pg tb kn:Nat)(u:Value)(toks:List TkN)(sf:TkN)(B k:Nat)(tos:List Nat)(new:List TkN)(u':Value)(W:World):Prop where
 pgp:PG W pg u' (toks++[sf]++new)
 fi:FI W tb kn k tos
 tkl:TKL W B (fun b=>tb<b∧b<W.heap.size∧u'.ownBlock≠some b) new
 rf:RF pg pg u.ownBlock w W
 fr:u'.ownBlock=u.ownBlock∨∀j,u'.ownBlock=some j→w.heap.size≤j
 tbu:u'.ownBlock≠some tb
 tbp:pg<tb∧w.heap.size≤tb
 bp:B≤pg
theorem RF.set{fb rb:Nat}{row:Option Nat}{w W:World}(h:RF fb rb row w W){b:Nat}(o:Nat)(v:Value)(hb:b=fb∨w.heap.size≤b):RF fb rb row w (W.setCell ⟨b,o,none⟩ v) :=
 ⟨h.os,h.tape,h.output,by simpa using h.size,fun k hk h1 h2 h3=>(Below.heap_setCell W _ v k (fun e=>by
  have e:k=b:=e;rcases hb with hb|hb
  ·exact h1 (e.trans hb)
  ·omega)).trans (h.block k hk h1 h2 h3)⟩
theorem RF.fi{pg:Nat}{row:Option Nat}{W W':World}(h:RF pg pg row W W'){tb kn k:Nat}{tos:List Nat}(hf:FI W tb kn k tos)(h1:tb≠pg)(h2:row≠some tb):FI W' tb kn k tos :=
 ⟨nL hf.lt h.size,fun j hj=>(h.cell hf.lt h1 h1 (fun e=>h2 e.symm)).trans (hf.cell j hj),fun j=>(h.frozen hf.lt h1 h1 (fun e=>h2 e.symm)).trans (hf.fr j)⟩
theorem LY.start{w V w7:World}{pg tb kn:Nat}{u v7:Value}{toks:List TkN}{sf:TkN}{B:Nat}{ob:Obj}(hp:PG w pg u toks)(hV:Below w.heap.size w V)(hfi:FI V tb kn 0 [])(htb:w.heap.size≤tb)(hg:(V.alloc ob).grownBy w7 u.ownBlock)(hO:w7.ownsRow (pg+1) 102 4 v7 (toks.length+1) (ndCs toks++nC sf))(hat:v7.ownBlock=u.ownBlock∨v7.ownBlock=some (V.alloc ob).heap.size)(hB:B≤pg):
  LY w pg tb kn u toks sf B 0 [] [] v7 (w7.setCell ⟨pg,0,none⟩ v7):=by
 have hpl:=hp.lt;have hvs:=hV.size;have hgV:V.grownBy w7 u.ownBlock:=(World.grownBy_alloc V ob _).trans hg;have hs7:=hgV.size;have hpo:u.ownBlock≠some pg:=fun e=>by have:=(hp.own.lt pg e).1;omega
 have hto:u.ownBlock≠some tb:=fun e=>by have:=(hp.own.lt tb e).2;omega
 have hfl:=hfi.lt;have hn7:v7.ownBlock=u.ownBlock∨∀j,v7.ownBlock=some j→V.heap.size≤j:=hat.imp id fun e j hj=>by rw [e]at hj;injection hj with hj;simp at hj;omega
 have hv7:v7.ownBlock≠some tb:=fresh_ne hn7 hfl hto;have hc7:w7.cell? ⟨pg,0,none⟩=some u:=((World.cell?_of_block (a:=⟨pg,0,none⟩) (hgV.block pg (by omega) (fun e=>hpo e.symm))).trans (hV.cell (p:=⟨pg,0,none⟩) hpl)).trans hp.c
 have hf7:w7.frozen? ⟨pg,0,none⟩=false:=((World.frozen?_of_block (a:=⟨pg,0,none⟩) (hgV.block pg (by omega) (fun e=>hpo e.symm))).trans (hV.frozen (p:=⟨pg,0,none⟩) hpl)).trans hp.f
 refine ⟨⟨World.cell?_setCell_same _ _ _ hc7,(World.frozen?_setCell _ _ _ _).trans hf7,?_,by simp;omega⟩,?_,fun t ht=>(by cases ht),?_,hn7.imp id (fun h j hj=>Nat.le_trans hvs (h j hj)),hv7,⟨by omega,htb⟩,hB⟩
 ·have:=own_setB hO (b:=pg) (o:=0) (by omega) v7
  rw [List.append_nil,ndCs_snoc,List.length_append];exact this
 ·exact (hfi.kept hgV (fun e=>hto e.symm)).kept (grown_set w7 pg 0 v7) (by intro e;injection e with e;omega)
 ·have h1:RF pg pg u.ownBlock w w7:=⟨hgV.os.trans hV.os,hgV.tape.trans hV.tape,hgV.output.trans hV.output,by omega,fun k hk _ _ h3=>(hgV.block k (by omega) h3).trans (hV.block k hk)⟩
  exact h1.set 0 v7 (.inl rfl)
theorem LY.step{w W W1 w5:World}{pg tb kn:Nat}{u u' u5:Value}{toks new new2:List TkN}{sf:TkN}{B k:Nat}{tos:List Nat}(h:LY w pg tb kn u toks sf B k tos new u' W)(hk:k<kn)(hl:tos.length=k)(hb:Below W.heap.size W W1)(x:Nat)
  (hp5:PG w5 pg u5 (toks++[sf]++new++new2)) (ht5:TKL w5 B (fun b=>W1.heap.size≤b∧b<w5.heap.size∧u5.ownBlock≠some b) new2) (hr5:RF pg pg u'.ownBlock W1 w5) (hu5:u5.ownBlock=u'.ownBlock∨∀j,u5.ownBlock=some j→W1.heap.size≤j) :
  LY w pg tb kn u toks sf B (k+1) (tos++[x]) (new++new2) u5 (w5.setCell ⟨tb,k,none⟩ (.int .i64 (x:Int))):=by
 have hbs:=hb.size;have h5s:=hr5.size;have hfl:=h.fi.lt;have htp:=h.tbp;have hbp:=h.bp;have hrW:RF pg pg u'.ownBlock W w5:=(RF.of hb).trans hr5 (.inl rfl);have hu5W:u5.ownBlock=u'.ownBlock∨∀j,u5.ownBlock=some j→W.heap.size≤j:=hu5.imp id fun h j hj=>Nat.le_trans hbs (h j hj)
 have htb5:u5.ownBlock≠some tb:=fresh_ne hu5W hfl h.tbu;have hset:=grown_set w5 tb k (.int .i64 (x:Int));have hown5:∀j,u5.ownBlock=some j→pg+1≤j:=fun j hj=>(hp5.own.lt j hj).1
 refine ⟨⟨?_,?_,?_,by have:=hp5.lt;simpa using this⟩,(hrW.fi h.fi (by omega) h.tbu).put hk hl x,?_,?_,?_,htb5,htp,hbp⟩
 ·rw [World.cell?_setCell_other _ _ _ _ (by intro e;injection e with e;omega)];exact hp5.c
 ·rw [World.frozen?_setCell];exact hp5.f
 ·rw [← List.append_assoc]
  exact hp5.own.kept hset (apt.or (fun j hj e=>by injection e with e;subst e;exact htb5 hj))
 ·have hbB:Below B w5 (w5.setCell ⟨tb,k,none⟩ (.int .i64 (x:Int))):=(Below.refl B w5).setCell (p:=⟨tb,k,none⟩) (by show B≤tb;omega) _
  have hcs:∀b o,tb<b→(w5.setCell ⟨tb,k,none⟩ (.int .i64 (x:Int))).cell? ⟨b,o,none⟩=w5.cell? ⟨b,o,none⟩:=fun b o hq=>World.cell?_setCell_other _ _ _ _ (by intro e;injection e with e;omega)
  intro t ht;rcases List.mem_append.1 ht with ht|ht
  ·have hbW:Below B W w5:=⟨hrW.os,hrW.tape,hrW.output,hrW.size,fun j hj=>hrW.block j (by omega) (by omega) (by omega) (fun e=>by
    have:=(h.pgp.own.lt j e.symm).1;omega)⟩
   have:=h.tkl.keep hbW (fun b o hq=>hrW.cell hq.2.1 (by omega) (by omega) (fun e=>hq.2.2 e.symm)) (Q:=fun b=>tb<b∧b<w5.heap.size∧u5.ownBlock≠some b) (fun b hq=>⟨hq.1,by omega,fresh_ne hu5W hq.2.1 hq.2.2⟩)
   exact (this.keep hbB (fun b o hq=>hcs b o hq.1) (fun b hq=>⟨hq.1,by simpa using hq.2.1,hq.2.2⟩)) t ht
  ·exact (ht5.keep hbB (fun b o hq=>hcs b o (by omega)) (fun b hq=>⟨by omega,by simpa using hq.2.1,hq.2.2⟩)) t ht
 ·exact (h.rf.trans hrW h.fr).set k _ (.inr htp.2)
 ·rcases hu5W with e|e
  ·rw [e];exact h.fr
  ·refine .inr fun j hj=>?_
   have:=e j hj;have:=h.rf.size;omega
theorem LY.done{w W:World}{pg tb:Nat}{u u':Value}{toks new:List TkN}{B:Nat}{t:Ty}{ar:Ar}{al:OAd}{cl ct:Nat}(h:LY w pg tb t.kids.length u toks (⟨t.kind,t.so,t.labels,(layL ar (toks.length+1) t.kids).1⟩,(al,cl),(some ⟨tb,0,none⟩,ct)) B t.kids.length (layL ar (toks.length+1) t.kids).1 new u' W)(hn:new.map (·.1)=(layL ar (toks.length+1) t.kids).2)(hla:LA w B t.labels al)(h9:t.kind≠9)(h8:t.kind≠8)(hwpg:pg<w.heap.size)(hrow:∀j,u.ownBlock=some j→pg+1≤j):
  LYPost t ar pg u toks B w (.returned (.int .i64 (toks.length:Int))) W:=by
 have hbp:=h.bp;have hbw:Below B w W:=⟨h.rf.os,h.rf.tape,h.rf.output,h.rf.size,fun j hj=>h.rf.block j (by omega) (by omega) (by omega) (fun e=>by have:=hrow j e.symm;omega)⟩
 refine ⟨by rw [layP_node t ar toks.length h9 h8],(⟨t.kind,t.so,t.labels,(layL ar (toks.length+1) t.kids).1⟩,(al,cl),(some ⟨tb,0,none⟩,ct))::new,u',by rw [layP_node t ar toks.length h9 h8,List.map_cons,hn],?_,fun q hq=>?_,h.rf,h.fr⟩
 ·have:=h.pgp
  rw [List.append_assoc]at this;exact this
 ·rcases List.mem_cons.1 hq with rfl|hq
  ·refine ⟨hla.keep hbw,.inr ⟨tb,0,rfl,⟨h.tbp.2,h.fi.lt,h.tbu⟩,fun i hi=>?_⟩⟩
   have hi':i<t.kids.length:=by rw [← layL_len ar (toks.length+1) t.kids];simpa using hi
   rw [Nat.zero_add,h.fi.cell i hi',if_pos hi',List.getElem_map];unfold clAt;rw [List.getElem?_eq_getElem (by rw [layL_len];exact hi')];rfl
  ·exact (h.tkl.keep (bR _ _) (fun _ _ _=>rfl) (fun b hb=>⟨by have:=h.tbp.2;omega,hb.2⟩)) q hq
end Go.Proofs.YtmamabhhgfcjcaaGreatDoor
