/-
  What package Shape says of a program, as plain functions.
-/
import Derived.Test.YtmamabhhgfcjcaaGreatDoorOa
import Derived.Test.YtmamabhhgfcjcaaGreatDoorKd
set_option maxRecDepth 100000
set_option maxHeartbeats 2000000
namespace Go.Proofs.YtmamabhhgfcjcaaGreatDoor
open Go.RowKit Go.Shelf
def kwOf(k:Int):ByteArray :=
 if k=1 then ⟨#[115,116,111,112]⟩ else if k=2 then ⟨#[115,101,110,100]⟩ else if k=3 then ⟨#[114,101,99,118]⟩ else if k=4 then ⟨#[103,105,118,101]⟩ else if k=5 then ⟨#[116,97,107,101]⟩
 else if k=6 then ⟨#[112,105,99,107]⟩ else if k=7 then ⟨#[99,97,115,101]⟩ else if k=8 then ⟨#[101,110,100]⟩ else if k=9 then ⟨#[115,112,97,119,110]⟩ else if k=10 then ⟨#[105,102]⟩
 else if k=11 then ⟨#[108,101,116]⟩ else if k=12 then ⟨#[112,114,105,110,116]⟩ else ⟨#[]⟩
def kdGo(s:ByteArray):Nat→Int→Int
 | 0,k=>k
 | n+1,k=>if kwOf k=s then k else kdGo s n (k+1)
def kdOf(s:ByteArray):Int:=kdGo s 12 1
def isPc(s:ByteArray):Bool:=isNm s.data.toList && (decide (s≠⟨#[100,101,102]⟩) && (decide (s≠⟨#[101,108,115,101]⟩) && decide (kdOf s=13)))
def fldOf(k:Int):Int:=if k=2 then 9 else if k=3∨k=4∨k=5 then 3 else if k=6 then 5 else if k=7 then 129 else if k=8 then 1 else if k=9 then 97 else if k=10∨k=12 then 8 else if k=11 then 10 else if k=13 then 50 else 0
def hvC(k:Int):Bool:=decide (2≤k∧k≤9)
def hvN(k:Int):Bool:=decide (k=3∨k=4∨k=5∨k=11∨k=13)
def hvL(k:Int):Bool:=decide (k=6)
def hvX(k:Int):Bool:=decide (k=2∨k=10∨k=11∨k=12)
def hvXs(k:Int):Bool:=decide (k=13)
def hvNs(k:Int):Bool:=decide (k=9∨k=13)
def hvT(k:Int):Bool:=decide (k=9)
def hvLs(k:Int):Bool:=decide (k=7)
def kdsOf(p:Pr):Nat:=if p.kind=1∨p.kind=13 then 0 else if p.kind=9∨p.kind=10 then 2 else if p.kind=7 then p.labels.length else 1
def fitB(had right empty:Bool):Bool:=if had then right else empty
def areNm(ns:List ByteArray):Bool:=decide (ns.length≤6) && ns.all fun s=>isNm s.data.toList
def nmOf(p:Pr):Bool:=if p.kind=13 then isPc p.name else isNm p.name.data.toList
def noEx(x:Ex):Bool:=decide (x.kind=0∧x.name=⟨#[]⟩∧x.so=0∧x.n=0∧x.s=⟨#[]⟩∧x.kids.length=0)
def noTy(t:Ty):Bool:=decide (t.kind=0∧t.so=0∧t.name=⟨#[]⟩∧t.labels.length=0∧t.kids.length=0)
def pt0(p:Pr):Bool:=decide (1≤p.kind∧p.kind≤13∧p.kids.length=kdsOf p)
def pt1(p:Pr):Bool:=fitB (hvC p.kind) (isNm p.chan.data.toList) (decide (p.chan=⟨#[]⟩))
def pt2(p:Pr):Bool:=fitB (hvN p.kind) (nmOf p) (decide (p.name=⟨#[]⟩))
def pt3(p:Pr):Bool:=fitB (hvL p.kind) (isNm p.label.data.toList) (decide (p.label=⟨#[]⟩))
def pt4(p:Pr):Bool:=fitB (hvX p.kind) true (noEx p.ex)
def pt5(p:Pr):Bool:=fitB (hvXs p.kind) (decide (p.exs.length≤6)) (decide (p.exs.length=0))
def pt6(p:Pr):Bool:=fitB (hvNs p.kind) (areNm p.names) (decide (p.names.length=0))
def pt7(p:Pr):Bool:=fitB (hvT p.kind) true (noTy p.ty)
def pt8(p:Pr):Bool:=fitB (hvLs p.kind) (labsOK p.labels) (decide (p.labels.length=0))
def partP(p:Pr):Bool:=pt0 p && (pt1 p && (pt2 p && (pt3 p && (pt4 p && (pt5 p && (pt6 p && (pt7 p && pt8 p)))))))
def exsE:List Ex→Int
 | []=>0
 | x::xs=>if chkX x≠0 then chkX x else exsE xs
def tysE:List Ty→Int
 | []=>0
 | x::xs=>if chkTy x≠0 then chkTy x else tysE xs
def insP(p:Pr):Int:=if exsE p.exs≠0 then exsE p.exs else if hvX p.kind then chkX p.ex else if hvT p.kind then chkTy p.ty else 0
def shpR:Pr→Nat→Int × Nat
 | ⟨kd,ch,nm,lb,x,xs,ns,t,ls,ks⟩,c =>
  if 200<c+1 then (2,c+1) else if partP ⟨kd,ch,nm,lb,x,xs,ns,t,ls,ks⟩=false then (1,c+1)
  else if insP ⟨kd,ch,nm,lb,x,xs,ns,t,ls,ks⟩≠0 then (insP ⟨kd,ch,nm,lb,x,xs,ns,t,ls,ks⟩,c+1)
  else ks.foldl (fun a k=>if a.1≠0 then a else shpR k a.2) (0,c+1)
def shpL(ks:List Pr)(a:Int × Nat):Int × Nat:=ks.foldl (fun a k=>if a.1≠0 then a else shpR k a.2) a
theorem shpR_eq(p:Pr)(c:Nat):shpR p c=if 200<c+1 then (2,c+1) else if partP p=false then (1,c+1) else if insP p≠0 then (insP p,c+1) else shpL p.kids (0,c+1):=by cases p;rw [shpR];rfl
theorem shpL_cons(x:Pr)(ks:List Pr)(a:Int × Nat):shpL (x::ks) a=shpL ks (if a.1≠0 then a else shpR x a.2):=rfl
theorem shpL_bad(ks:List Pr)(a:Int × Nat)(h:a.1≠0):shpL ks a=a:=by
 induction ks with
 | nil=>rfl
 | cons x ks ih=>rw [shpL_cons,if_pos h];exact ih
theorem shpL_snoc(ks:List Pr)(x:Pr)(a:Int × Nat):shpL (ks++[x]) a=if (shpL ks a).1≠0 then shpL ks a else shpR x (shpL ks a).2:=by
 unfold shpL;rw [List.foldl_append];rfl
theorem shpL_split(ks:List Pr)(k:Nat)(a:Int × Nat)(h:(shpL (ks.take k) a).1≠0):shpL ks a=shpL (ks.take k) a:=by
 have e:shpL ks a=shpL (ks.drop k) (shpL (ks.take k) a):=by
  conv=>lhs;rw [← List.take_append_drop k ks]
  unfold shpL;rw [List.foldl_append]
 rw [e,shpL_bad _ _ h]
theorem shpL_cnt(ks:List Pr):∀(a:Int × Nat),(∀k∈ks,∀c,c≤200→(shpR k c).1=0→c≤(shpR k c).2∧(shpR k c).2≤200)→a.2≤200→(shpL ks a).1=0→a.2≤(shpL ks a).2∧(shpL ks a).2≤200:=by
 induction ks with
 | nil=>intro a _ h _;exact ⟨nR _,h⟩
 | cons x ks ih =>
  intro a hk h h0;rw [shpL_cons]at h0 ⊢;by_cases ha:a.1≠0
  ·rw [if_pos ha]at h0 ⊢
   exact ih a (fun k hm=>hk k (.tail _ hm)) h h0
  ·rw [if_neg ha]at h0 ⊢
   by_cases hx:(shpR x a.2).1=0
   ·have h1:=hk x (.head _) a.2 h hx
    have h2:=ih _ (fun k hm=>hk k (.tail _ hm)) h1.2 h0
    exact ⟨Nat.le_trans h1.1 h2.1,h2.2⟩
   ·rw [shpL_bad _ _ hx]at h0;exact absurd h0 hx
theorem shpR_cnt:∀p:Pr,∀c,c≤200→(shpR p c).1=0→c≤(shpR p c).2∧(shpR p c).2≤200:=by
 apply prInd
 intro t ih c hc h;rw [shpR_eq]at h ⊢;by_cases h1:200<c+1
 ·rw [if_pos h1]at h;exact absurd h (by simp)
 rw [if_neg h1]at h ⊢;by_cases h2:partP t=false
 ·rw [if_pos h2]at h;exact absurd h (by simp)
 rw [if_neg h2]at h ⊢;by_cases h3:insP t≠0
 ·rw [if_pos h3]at h;exact absurd h h3
 rw [if_neg h3]at h ⊢;have:=shpL_cnt t.kids (0,c+1) ih (by show c+1≤200;omega) h
 exact ⟨by have:=this.1;simp only at this;omega,this.2⟩
def srtsOK(zs:List Int):Bool:=zs.all fun z=>decide (z=1∨z=2∨z=3)
def hedD(d:Df):Bool:=isPc d.name && (areNm d.vals && (decide (d.sorts.length=d.vals.length) && (srtsOK d.sorts && (areNm d.chans && decide (d.tys.length=d.chans.length)))))
def shpD(d:Df)(c:Nat):Int × Nat:=if hedD d=false then (1,c) else if tysE d.tys≠0 then (tysE d.tys,c) else shpR d.body c
def shpDs(ds:List Df)(a:Int × Nat):Int × Nat:=ds.foldl (fun a k=>if a.1≠0 then a else shpD k a.2) a
def shpP(ds:List Df):Int:=if ds.length=0 then 1 else if 10<ds.length then 2 else (shpDs ds (0,0)).1
theorem shpDs_snoc(ks:List Df)(x:Df)(a:Int × Nat):shpDs (ks++[x]) a=if (shpDs ks a).1≠0 then shpDs ks a else shpD x (shpDs ks a).2:=by
 unfold shpDs;rw [List.foldl_append];rfl
theorem shpDs_bad(ks:List Df)(a:Int × Nat)(h:a.1≠0):shpDs ks a=a:=by
 induction ks with
 | nil=>rfl
 | cons x ks ih=>show shpDs ks (if a.1≠0 then a else _)=a;rw [if_pos h];exact ih
theorem shpDs_split(ks:List Df)(k:Nat)(a:Int × Nat)(h:(shpDs (ks.take k) a).1≠0):shpDs ks a=shpDs (ks.take k) a:=by
 have e:shpDs ks a=shpDs (ks.drop k) (shpDs (ks.take k) a):=by
  conv=>lhs;rw [← List.take_append_drop k ks]
  unfold shpDs;rw [List.foldl_append]
 rw [e,shpDs_bad _ _ h]
theorem shpD_cnt(d:Df)(c:Nat)(hc:c≤200)(h:(shpD d c).1=0):(shpD d c).2≤200:=by
 unfold shpD at h ⊢;by_cases h1:hedD d=false
 ·rw [if_pos h1]at h;exact absurd h (by simp)
 rw [if_neg h1]at h ⊢;by_cases h2:tysE d.tys≠0
 ·rw [if_pos h2]at h;exact absurd h h2
 rw [if_neg h2]at h ⊢;exact (shpR_cnt _ _ hc h).2
theorem shpDs_cnt(ks:List Df):∀(a:Int × Nat),a.2≤200→(shpDs ks a).1=0→(shpDs ks a).2≤200:=by
 induction ks with
 | nil=>intro a h _;exact h
 | cons x ks ih =>
  intro a h h0;have e:shpDs (x::ks) a=shpDs ks (if a.1≠0 then a else shpD x a.2):=rfl
  rw [e]at h0 ⊢;by_cases ha:a.1≠0
  ·rw [if_pos ha]at h0 ⊢
   exact ih a h h0
  ·rw [if_neg ha]at h0 ⊢
   by_cases hx:(shpD x a.2).1=0
   ·exact ih _ (shpD_cnt x a.2 h hx) h0
   ·rw [shpDs_bad _ _ hx]at h0;exact absurd h0 hx
theorem kinds13{k:Int}(h:1≤k∧k≤13):k=1∨k=2∨k=3∨k=4∨k=5∨k=6∨k=7∨k=8∨k=9∨k=10∨k=11∨k=12∨k=13:=by omega
theorem keyword_any(k:Int)(w:World)(h:1≤k∧k≤12):Calls Tryz.prog 131 #[.int .i64 k] w fun e w'=>e = .returned (.string (kwOf k))∧w'=w:=by
 rcases kinds13 ⟨h.1,by omega⟩ with rfl|rfl|rfl|rfl|rfl|rfl|rfl|rfl|rfl|rfl|rfl|rfl|rfl
 case _=>clear h;go_enter Tryz.func131,Tryz.ntmps131;go_wp2_with fail;go_ret;exact ⟨rfl,rfl⟩
 case _=>clear h;go_enter Tryz.func131,Tryz.ntmps131;go_wp2_with fail;go_ret;exact ⟨rfl,rfl⟩
 case _=>clear h;go_enter Tryz.func131,Tryz.ntmps131;go_wp2_with fail;go_ret;exact ⟨rfl,rfl⟩
 case _=>clear h;go_enter Tryz.func131,Tryz.ntmps131;go_wp2_with fail;go_ret;exact ⟨rfl,rfl⟩
 case _=>clear h;go_enter Tryz.func131,Tryz.ntmps131;go_wp2_with fail;go_ret;exact ⟨rfl,rfl⟩
 case _=>clear h;go_enter Tryz.func131,Tryz.ntmps131;go_wp2_with fail;go_ret;exact ⟨rfl,rfl⟩
 case _=>clear h;go_enter Tryz.func131,Tryz.ntmps131;go_wp2_with fail;go_ret;exact ⟨rfl,rfl⟩
 case _=>clear h;go_enter Tryz.func131,Tryz.ntmps131;go_wp2_with fail;go_ret;exact ⟨rfl,rfl⟩
 case _=>clear h;go_enter Tryz.func131,Tryz.ntmps131;go_wp2_with fail;go_ret;exact ⟨rfl,rfl⟩
 case _=>clear h;go_enter Tryz.func131,Tryz.ntmps131;go_wp2_with fail;go_ret;exact ⟨rfl,rfl⟩
 case _=>clear h;go_enter Tryz.func131,Tryz.ntmps131;go_wp2_with fail;go_ret;exact ⟨rfl,rfl⟩
 case _=>clear h;go_enter Tryz.func131,Tryz.ntmps131;go_wp2_with fail;go_ret;exact ⟨rfl,rfl⟩
 case _=>omega
theorem kdGo_at(s:ByteArray):∀(n:Nat) (k m:Int),k≤m→m≤k+n→(∀j,k≤j→j<m→kwOf j≠s)→(m<k+n→kwOf m=s)→kdGo s n k=m
 | 0,k,m,h1,h2,_,_=>by simp only [kdGo];omega
 | n+1,k,m,h1,h2,h3,h4=>by
  simp only [kdGo];by_cases hk:k=m
  ·subst hk;rw [if_pos (h4 (by omega))]
  ·rw [if_neg (h3 k (by omega) (by omega))]
   exact kdGo_at s n (k+1) m (by omega) (by omega) (fun j q1 q2=>h3 j (by omega) q2) (fun q=>h4 (by omega))
theorem kdOf_at{s:ByteArray}{m:Int}(h1:1≤m)(h2:m≤13)(h3:∀j,1≤j→j<m→kwOf j≠s)(h4:m<13→kwOf m=s):kdOf s=m :=
 kdGo_at s 12 1 m h1 (by omega) h3 (fun q=>h4 (by omega))
theorem kindOf_any(s:ByteArray)(w:World):Calls Tryz.prog 104 #[.string s] w fun e w'=>e = .returned (.int .i64 (kdOf s))∧w'=w:=by
 go_enter Tryz.func104,Tryz.ntmps104
 go_wp2_with fail
 go_loopw [3] (fun v wr=>∃k:Nat,1≤k∧k≤13∧v = .int .i64 (k:Int)∧(∀j:Int,1≤j→j<(k:Int)→kwOf j≠s)∧wr=w) (fun v _=>13 - (intOf v).toNat)
 case atStart=>exact ⟨1,by omega,by omega,rfl,fun j q1 q2=>by omega,rfl⟩
 case round =>
  obtain ⟨k,h1,h2,rfl,hn,rfl⟩:=hrel;have HN:=hideK hn;clear hn;by_cases hk:k<13
  ·have c:=keyword_any (k:Int) wr ⟨by omega,by omega⟩
   have hkz:(k:Int)<13:=by omega
   by_cases he:kwOf (k:Int)=s
   ·have HE:=hideK he
    have hq:((kwOf (k:Int)).toList==s.toList)=true:=by rw [he];simp
    have HV:=hideK (show kdOf s=(k:Int) from kdOf_at (by omega) (by omega) HN.out (fun _=>he))
    clear he h2 HN;generalize kwOf (k:Int)=kw at *;go_wp2_with fail
    refine c.mono ?_;rintro e w1 ⟨rfl,rfl⟩;go_wp2_with fail
    go_ret
    exact ⟨by rw [HV.out];rfl,rfl⟩
   ·have HE:=hideK he
    have hq:((kwOf (k:Int)).toList==s.toList)=false:=by rw [two_beq];simpa using he
    have HV:=hideK (show ∀j:Int,1≤j→j<((k+1:Nat):Int)→kwOf j≠s from fun j q1 q2=>by
     by_cases hj:j=(k:Int)
     ·rw [hj];exact he
     ·exact HN.out j q1 (by omega))
    clear he h2 HN HE;generalize kwOf (k:Int)=kw at *;go_wp2_with fail
    refine c.mono ?_;rintro e w1 ⟨rfl,rfl⟩;go_wp2_with fail
    go_roundw
    case rel=>exact ⟨k+1,by omega,by omega,by go_num,HV.out,by first|rfl|trivial⟩
    case measure=>simp [intOf];omega
  ·have hkz:¬(k:Int)<13:=by omega
   have HV:=hideK (show kdOf s=(k:Int) from kdOf_at (by omega) (by omega) HN.out (fun q=>absurd q hkz))
   clear HN;go_wp2_with fail
   go_ret
   exact ⟨by rw [HV.out];rfl,rfl⟩
theorem lit_beq(s:ByteArray)(l:List UInt8):(s.toList==l)=decide (s=⟨l.toArray⟩):=by
 rw [beqL];have:s.data.toList=l↔s=⟨l.toArray⟩:=⟨fun h=>by cases s;simp only at h;rw [← h],fun h=>by rw [h]⟩
 simp only [this]
theorem isProc_any(s:ByteArray)(w:World)(hs:s.size≤9223372036854775807):Calls Tryz.prog 75 #[.string s] w fun e w'=>e = .returned (.bool (isPc s))∧Below w.heap.size w w':=by
 have c1:=isName_any s w hs;have C2:=hideK (kindOf_any s);have hd:isPc s=(isNm s.data.toList && (!(s.toList==[100,101,102]) && (!(s.toList==[101,108,115,101]) && (kdOf s==13)))):=by
  unfold isPc;rw [lit_beq,lit_beq];simp only [decide_not];rfl
 generalize isPc s=r at *;generalize isNm s.data.toList=q at *;generalize kdOf s=k at *;cases q
 ·rw [Bool.false_and]at hd
  subst hd;go_enter Tryz.func75,Tryz.ntmps75
  go_wp2_with fail
  refine c1.mono ?_;rintro e w1 ⟨rfl,hb1⟩;have HB:=hideK hb1;clear hb1 c1;go_wp2_with fail
  go_ret
  exact ⟨rfl,HB.out⟩
 ·rw [Bool.true_and]at hd
  generalize hA:(s.toList==[100,101,102])=qa at hd;generalize hB:(s.toList==[101,108,115,101])=qb at hd;cases qa <;> cases qb
  case false.false =>
   simp only [Bool.not_false,Bool.true_and]at hd;subst hd;go_enter Tryz.func75,Tryz.ntmps75
   go_wp2_with fail
   refine c1.mono ?_;rintro e w1 ⟨rfl,hb1⟩;have HB:=hideK hb1;clear hb1 c1;go_wp2_with fail
   refine (C2.out _).mono ?_;rintro e w2 ⟨rfl,rfl⟩;clear C2;go_wp2_with fail
   go_ret
   exact ⟨rfl,HB.out⟩
  all_goals
   simp only [Bool.not_false,Bool.true_and,Bool.not_true,Bool.false_and]at hd;subst hd;go_enter Tryz.func75,Tryz.ntmps75
   go_wp2_with fail
   refine c1.mono ?_;rintro e w1 ⟨rfl,hb1⟩;have HB:=hideK hb1;clear hb1 c1;go_wp2_with fail
   go_ret
   exact ⟨rfl,HB.out⟩
theorem fieldsOf_any(k:Int)(w:World)(h:1≤k∧k≤13):Calls Tryz.prog 110 #[.int .i64 k] w fun e w'=>e = .returned (.int .i64 (fldOf k))∧w'=w:=by
 rcases kinds13 h with rfl|rfl|rfl|rfl|rfl|rfl|rfl|rfl|rfl|rfl|rfl|rfl|rfl
 case _=>clear h;go_enter Tryz.func110,Tryz.ntmps110;go_wp2_with fail;go_ret;exact ⟨rfl,rfl⟩
 case _=>clear h;go_enter Tryz.func110,Tryz.ntmps110;go_wp2_with fail;go_ret;exact ⟨rfl,rfl⟩
 case _=>clear h;go_enter Tryz.func110,Tryz.ntmps110;go_wp2_with fail;go_ret;exact ⟨rfl,rfl⟩
 case _=>clear h;go_enter Tryz.func110,Tryz.ntmps110;go_wp2_with fail;go_ret;exact ⟨rfl,rfl⟩
 case _=>clear h;go_enter Tryz.func110,Tryz.ntmps110;go_wp2_with fail;go_ret;exact ⟨rfl,rfl⟩
 case _=>clear h;go_enter Tryz.func110,Tryz.ntmps110;go_wp2_with fail;go_ret;exact ⟨rfl,rfl⟩
 case _=>clear h;go_enter Tryz.func110,Tryz.ntmps110;go_wp2_with fail;go_ret;exact ⟨rfl,rfl⟩
 case _=>clear h;go_enter Tryz.func110,Tryz.ntmps110;go_wp2_with fail;go_ret;exact ⟨rfl,rfl⟩
 case _=>clear h;go_enter Tryz.func110,Tryz.ntmps110;go_wp2_with fail;go_ret;exact ⟨rfl,rfl⟩
 case _=>clear h;go_enter Tryz.func110,Tryz.ntmps110;go_wp2_with fail;go_ret;exact ⟨rfl,rfl⟩
 case _=>clear h;go_enter Tryz.func110,Tryz.ntmps110;go_wp2_with fail;go_ret;exact ⟨rfl,rfl⟩
 case _=>clear h;go_enter Tryz.func110,Tryz.ntmps110;go_wp2_with fail;go_ret;exact ⟨rfl,rfl⟩
 case _=>clear h;go_enter Tryz.func110,Tryz.ntmps110;go_wp2_with fail;go_ret;exact ⟨rfl,rfl⟩
theorem haveC_any(k:Int)(w:World)(h:1≤k∧k≤13):Calls Tryz.prog 112 #[.int .i64 (fldOf k),.int .i64 1] w fun e w'=>e = .returned (.bool (hvC k))∧w'=w:=by
 rcases kinds13 h with rfl|rfl|rfl|rfl|rfl|rfl|rfl|rfl|rfl|rfl|rfl|rfl|rfl
 case _=>clear h;rw [show fldOf 1=0 from rfl];go_enter Tryz.func112,Tryz.ntmps112;go_wp2_with fail;go_ret;exact ⟨rfl,rfl⟩
 case _=>clear h;rw [show fldOf 2=9 from rfl];go_enter Tryz.func112,Tryz.ntmps112;go_wp2_with fail;go_ret;exact ⟨rfl,rfl⟩
 case _=>clear h;rw [show fldOf 3=3 from rfl];go_enter Tryz.func112,Tryz.ntmps112;go_wp2_with fail;go_ret;exact ⟨rfl,rfl⟩
 case _=>clear h;rw [show fldOf 4=3 from rfl];go_enter Tryz.func112,Tryz.ntmps112;go_wp2_with fail;go_ret;exact ⟨rfl,rfl⟩
 case _=>clear h;rw [show fldOf 5=3 from rfl];go_enter Tryz.func112,Tryz.ntmps112;go_wp2_with fail;go_ret;exact ⟨rfl,rfl⟩
 case _=>clear h;rw [show fldOf 6=5 from rfl];go_enter Tryz.func112,Tryz.ntmps112;go_wp2_with fail;go_ret;exact ⟨rfl,rfl⟩
 case _=>clear h;rw [show fldOf 7=129 from rfl];go_enter Tryz.func112,Tryz.ntmps112;go_wp2_with fail;go_ret;exact ⟨rfl,rfl⟩
 case _=>clear h;rw [show fldOf 8=1 from rfl];go_enter Tryz.func112,Tryz.ntmps112;go_wp2_with fail;go_ret;exact ⟨rfl,rfl⟩
 case _=>clear h;rw [show fldOf 9=97 from rfl];go_enter Tryz.func112,Tryz.ntmps112;go_wp2_with fail;go_ret;exact ⟨rfl,rfl⟩
 case _=>clear h;rw [show fldOf 10=8 from rfl];go_enter Tryz.func112,Tryz.ntmps112;go_wp2_with fail;go_ret;exact ⟨rfl,rfl⟩
 case _=>clear h;rw [show fldOf 11=10 from rfl];go_enter Tryz.func112,Tryz.ntmps112;go_wp2_with fail;go_ret;exact ⟨rfl,rfl⟩
 case _=>clear h;rw [show fldOf 12=8 from rfl];go_enter Tryz.func112,Tryz.ntmps112;go_wp2_with fail;go_ret;exact ⟨rfl,rfl⟩
 case _=>clear h;rw [show fldOf 13=50 from rfl];go_enter Tryz.func112,Tryz.ntmps112;go_wp2_with fail;go_ret;exact ⟨rfl,rfl⟩
theorem haveN_any(k:Int)(w:World)(h:1≤k∧k≤13):Calls Tryz.prog 112 #[.int .i64 (fldOf k),.int .i64 2] w fun e w'=>e = .returned (.bool (hvN k))∧w'=w:=by
 rcases kinds13 h with rfl|rfl|rfl|rfl|rfl|rfl|rfl|rfl|rfl|rfl|rfl|rfl|rfl
 case _=>clear h;rw [show fldOf 1=0 from rfl];go_enter Tryz.func112,Tryz.ntmps112;go_wp2_with fail;go_ret;exact ⟨rfl,rfl⟩
 case _=>clear h;rw [show fldOf 2=9 from rfl];go_enter Tryz.func112,Tryz.ntmps112;go_wp2_with fail;go_ret;exact ⟨rfl,rfl⟩
 case _=>clear h;rw [show fldOf 3=3 from rfl];go_enter Tryz.func112,Tryz.ntmps112;go_wp2_with fail;go_ret;exact ⟨rfl,rfl⟩
 case _=>clear h;rw [show fldOf 4=3 from rfl];go_enter Tryz.func112,Tryz.ntmps112;go_wp2_with fail;go_ret;exact ⟨rfl,rfl⟩
 case _=>clear h;rw [show fldOf 5=3 from rfl];go_enter Tryz.func112,Tryz.ntmps112;go_wp2_with fail;go_ret;exact ⟨rfl,rfl⟩
 case _=>clear h;rw [show fldOf 6=5 from rfl];go_enter Tryz.func112,Tryz.ntmps112;go_wp2_with fail;go_ret;exact ⟨rfl,rfl⟩
 case _=>clear h;rw [show fldOf 7=129 from rfl];go_enter Tryz.func112,Tryz.ntmps112;go_wp2_with fail;go_ret;exact ⟨rfl,rfl⟩
 case _=>clear h;rw [show fldOf 8=1 from rfl];go_enter Tryz.func112,Tryz.ntmps112;go_wp2_with fail;go_ret;exact ⟨rfl,rfl⟩
 case _=>clear h;rw [show fldOf 9=97 from rfl];go_enter Tryz.func112,Tryz.ntmps112;go_wp2_with fail;go_ret;exact ⟨rfl,rfl⟩
 case _=>clear h;rw [show fldOf 10=8 from rfl];go_enter Tryz.func112,Tryz.ntmps112;go_wp2_with fail;go_ret;exact ⟨rfl,rfl⟩
 case _=>clear h;rw [show fldOf 11=10 from rfl];go_enter Tryz.func112,Tryz.ntmps112;go_wp2_with fail;go_ret;exact ⟨rfl,rfl⟩
 case _=>clear h;rw [show fldOf 12=8 from rfl];go_enter Tryz.func112,Tryz.ntmps112;go_wp2_with fail;go_ret;exact ⟨rfl,rfl⟩
 case _=>clear h;rw [show fldOf 13=50 from rfl];go_enter Tryz.func112,Tryz.ntmps112;go_wp2_with fail;go_ret;exact ⟨rfl,rfl⟩
theorem haveL_any(k:Int)(w:World)(h:1≤k∧k≤13):Calls Tryz.prog 112 #[.int .i64 (fldOf k),.int .i64 4] w fun e w'=>e = .returned (.bool (hvL k))∧w'=w:=by
 rcases kinds13 h with rfl|rfl|rfl|rfl|rfl|rfl|rfl|rfl|rfl|rfl|rfl|rfl|rfl
 case _=>clear h;rw [show fldOf 1=0 from rfl];go_enter Tryz.func112,Tryz.ntmps112;go_wp2_with fail;go_ret;exact ⟨rfl,rfl⟩
 case _=>clear h;rw [show fldOf 2=9 from rfl];go_enter Tryz.func112,Tryz.ntmps112;go_wp2_with fail;go_ret;exact ⟨rfl,rfl⟩
 case _=>clear h;rw [show fldOf 3=3 from rfl];go_enter Tryz.func112,Tryz.ntmps112;go_wp2_with fail;go_ret;exact ⟨rfl,rfl⟩
 case _=>clear h;rw [show fldOf 4=3 from rfl];go_enter Tryz.func112,Tryz.ntmps112;go_wp2_with fail;go_ret;exact ⟨rfl,rfl⟩
 case _=>clear h;rw [show fldOf 5=3 from rfl];go_enter Tryz.func112,Tryz.ntmps112;go_wp2_with fail;go_ret;exact ⟨rfl,rfl⟩
 case _=>clear h;rw [show fldOf 6=5 from rfl];go_enter Tryz.func112,Tryz.ntmps112;go_wp2_with fail;go_ret;exact ⟨rfl,rfl⟩
 case _=>clear h;rw [show fldOf 7=129 from rfl];go_enter Tryz.func112,Tryz.ntmps112;go_wp2_with fail;go_ret;exact ⟨rfl,rfl⟩
 case _=>clear h;rw [show fldOf 8=1 from rfl];go_enter Tryz.func112,Tryz.ntmps112;go_wp2_with fail;go_ret;exact ⟨rfl,rfl⟩
 case _=>clear h;rw [show fldOf 9=97 from rfl];go_enter Tryz.func112,Tryz.ntmps112;go_wp2_with fail;go_ret;exact ⟨rfl,rfl⟩
 case _=>clear h;rw [show fldOf 10=8 from rfl];go_enter Tryz.func112,Tryz.ntmps112;go_wp2_with fail;go_ret;exact ⟨rfl,rfl⟩
 case _=>clear h;rw [show fldOf 11=10 from rfl];go_enter Tryz.func112,Tryz.ntmps112;go_wp2_with fail;go_ret;exact ⟨rfl,rfl⟩
 case _=>clear h;rw [show fldOf 12=8 from rfl];go_enter Tryz.func112,Tryz.ntmps112;go_wp2_with fail;go_ret;exact ⟨rfl,rfl⟩
 case _=>clear h;rw [show fldOf 13=50 from rfl];go_enter Tryz.func112,Tryz.ntmps112;go_wp2_with fail;go_ret;exact ⟨rfl,rfl⟩
theorem haveX_any(k:Int)(w:World)(h:1≤k∧k≤13):Calls Tryz.prog 112 #[.int .i64 (fldOf k),.int .i64 8] w fun e w'=>e = .returned (.bool (hvX k))∧w'=w:=by
 rcases kinds13 h with rfl|rfl|rfl|rfl|rfl|rfl|rfl|rfl|rfl|rfl|rfl|rfl|rfl
 case _=>clear h;rw [show fldOf 1=0 from rfl];go_enter Tryz.func112,Tryz.ntmps112;go_wp2_with fail;go_ret;exact ⟨rfl,rfl⟩
 case _=>clear h;rw [show fldOf 2=9 from rfl];go_enter Tryz.func112,Tryz.ntmps112;go_wp2_with fail;go_ret;exact ⟨rfl,rfl⟩
 case _=>clear h;rw [show fldOf 3=3 from rfl];go_enter Tryz.func112,Tryz.ntmps112;go_wp2_with fail;go_ret;exact ⟨rfl,rfl⟩
 case _=>clear h;rw [show fldOf 4=3 from rfl];go_enter Tryz.func112,Tryz.ntmps112;go_wp2_with fail;go_ret;exact ⟨rfl,rfl⟩
 case _=>clear h;rw [show fldOf 5=3 from rfl];go_enter Tryz.func112,Tryz.ntmps112;go_wp2_with fail;go_ret;exact ⟨rfl,rfl⟩
 case _=>clear h;rw [show fldOf 6=5 from rfl];go_enter Tryz.func112,Tryz.ntmps112;go_wp2_with fail;go_ret;exact ⟨rfl,rfl⟩
 case _=>clear h;rw [show fldOf 7=129 from rfl];go_enter Tryz.func112,Tryz.ntmps112;go_wp2_with fail;go_ret;exact ⟨rfl,rfl⟩
 case _=>clear h;rw [show fldOf 8=1 from rfl];go_enter Tryz.func112,Tryz.ntmps112;go_wp2_with fail;go_ret;exact ⟨rfl,rfl⟩
 case _=>clear h;rw [show fldOf 9=97 from rfl];go_enter Tryz.func112,Tryz.ntmps112;go_wp2_with fail;go_ret;exact ⟨rfl,rfl⟩
 case _=>clear h;rw [show fldOf 10=8 from rfl];go_enter Tryz.func112,Tryz.ntmps112;go_wp2_with fail;go_ret;exact ⟨rfl,rfl⟩
 case _=>clear h;rw [show fldOf 11=10 from rfl];go_enter Tryz.func112,Tryz.ntmps112;go_wp2_with fail;go_ret;exact ⟨rfl,rfl⟩
 case _=>clear h;rw [show fldOf 12=8 from rfl];go_enter Tryz.func112,Tryz.ntmps112;go_wp2_with fail;go_ret;exact ⟨rfl,rfl⟩
 case _=>clear h;rw [show fldOf 13=50 from rfl];go_enter Tryz.func112,Tryz.ntmps112;go_wp2_with fail;go_ret;exact ⟨rfl,rfl⟩
theorem haveXs_any(k:Int)(w:World)(h:1≤k∧k≤13):Calls Tryz.prog 112 #[.int .i64 (fldOf k),.int .i64 16] w fun e w'=>e = .returned (.bool (hvXs k))∧w'=w:=by
 rcases kinds13 h with rfl|rfl|rfl|rfl|rfl|rfl|rfl|rfl|rfl|rfl|rfl|rfl|rfl
 case _=>clear h;rw [show fldOf 1=0 from rfl];go_enter Tryz.func112,Tryz.ntmps112;go_wp2_with fail;go_ret;exact ⟨rfl,rfl⟩
 case _=>clear h;rw [show fldOf 2=9 from rfl];go_enter Tryz.func112,Tryz.ntmps112;go_wp2_with fail;go_ret;exact ⟨rfl,rfl⟩
 case _=>clear h;rw [show fldOf 3=3 from rfl];go_enter Tryz.func112,Tryz.ntmps112;go_wp2_with fail;go_ret;exact ⟨rfl,rfl⟩
 case _=>clear h;rw [show fldOf 4=3 from rfl];go_enter Tryz.func112,Tryz.ntmps112;go_wp2_with fail;go_ret;exact ⟨rfl,rfl⟩
 case _=>clear h;rw [show fldOf 5=3 from rfl];go_enter Tryz.func112,Tryz.ntmps112;go_wp2_with fail;go_ret;exact ⟨rfl,rfl⟩
 case _=>clear h;rw [show fldOf 6=5 from rfl];go_enter Tryz.func112,Tryz.ntmps112;go_wp2_with fail;go_ret;exact ⟨rfl,rfl⟩
 case _=>clear h;rw [show fldOf 7=129 from rfl];go_enter Tryz.func112,Tryz.ntmps112;go_wp2_with fail;go_ret;exact ⟨rfl,rfl⟩
 case _=>clear h;rw [show fldOf 8=1 from rfl];go_enter Tryz.func112,Tryz.ntmps112;go_wp2_with fail;go_ret;exact ⟨rfl,rfl⟩
 case _=>clear h;rw [show fldOf 9=97 from rfl];go_enter Tryz.func112,Tryz.ntmps112;go_wp2_with fail;go_ret;exact ⟨rfl,rfl⟩
 case _=>clear h;rw [show fldOf 10=8 from rfl];go_enter Tryz.func112,Tryz.ntmps112;go_wp2_with fail;go_ret;exact ⟨rfl,rfl⟩
 case _=>clear h;rw [show fldOf 11=10 from rfl];go_enter Tryz.func112,Tryz.ntmps112;go_wp2_with fail;go_ret;exact ⟨rfl,rfl⟩
 case _=>clear h;rw [show fldOf 12=8 from rfl];go_enter Tryz.func112,Tryz.ntmps112;go_wp2_with fail;go_ret;exact ⟨rfl,rfl⟩
 case _=>clear h;rw [show fldOf 13=50 from rfl];go_enter Tryz.func112,Tryz.ntmps112;go_wp2_with fail;go_ret;exact ⟨rfl,rfl⟩
theorem haveNs_any(k:Int)(w:World)(h:1≤k∧k≤13):Calls Tryz.prog 112 #[.int .i64 (fldOf k),.int .i64 32] w fun e w'=>e = .returned (.bool (hvNs k))∧w'=w:=by
 rcases kinds13 h with rfl|rfl|rfl|rfl|rfl|rfl|rfl|rfl|rfl|rfl|rfl|rfl|rfl
 case _=>clear h;rw [show fldOf 1=0 from rfl];go_enter Tryz.func112,Tryz.ntmps112;go_wp2_with fail;go_ret;exact ⟨rfl,rfl⟩
 case _=>clear h;rw [show fldOf 2=9 from rfl];go_enter Tryz.func112,Tryz.ntmps112;go_wp2_with fail;go_ret;exact ⟨rfl,rfl⟩
 case _=>clear h;rw [show fldOf 3=3 from rfl];go_enter Tryz.func112,Tryz.ntmps112;go_wp2_with fail;go_ret;exact ⟨rfl,rfl⟩
 case _=>clear h;rw [show fldOf 4=3 from rfl];go_enter Tryz.func112,Tryz.ntmps112;go_wp2_with fail;go_ret;exact ⟨rfl,rfl⟩
 case _=>clear h;rw [show fldOf 5=3 from rfl];go_enter Tryz.func112,Tryz.ntmps112;go_wp2_with fail;go_ret;exact ⟨rfl,rfl⟩
 case _=>clear h;rw [show fldOf 6=5 from rfl];go_enter Tryz.func112,Tryz.ntmps112;go_wp2_with fail;go_ret;exact ⟨rfl,rfl⟩
 case _=>clear h;rw [show fldOf 7=129 from rfl];go_enter Tryz.func112,Tryz.ntmps112;go_wp2_with fail;go_ret;exact ⟨rfl,rfl⟩
 case _=>clear h;rw [show fldOf 8=1 from rfl];go_enter Tryz.func112,Tryz.ntmps112;go_wp2_with fail;go_ret;exact ⟨rfl,rfl⟩
 case _=>clear h;rw [show fldOf 9=97 from rfl];go_enter Tryz.func112,Tryz.ntmps112;go_wp2_with fail;go_ret;exact ⟨rfl,rfl⟩
 case _=>clear h;rw [show fldOf 10=8 from rfl];go_enter Tryz.func112,Tryz.ntmps112;go_wp2_with fail;go_ret;exact ⟨rfl,rfl⟩
 case _=>clear h;rw [show fldOf 11=10 from rfl];go_enter Tryz.func112,Tryz.ntmps112;go_wp2_with fail;go_ret;exact ⟨rfl,rfl⟩
 case _=>clear h;rw [show fldOf 12=8 from rfl];go_enter Tryz.func112,Tryz.ntmps112;go_wp2_with fail;go_ret;exact ⟨rfl,rfl⟩
 case _=>clear h;rw [show fldOf 13=50 from rfl];go_enter Tryz.func112,Tryz.ntmps112;go_wp2_with fail;go_ret;exact ⟨rfl,rfl⟩
theorem haveT_any(k:Int)(w:World)(h:1≤k∧k≤13):Calls Tryz.prog 112 #[.int .i64 (fldOf k),.int .i64 64] w fun e w'=>e = .returned (.bool (hvT k))∧w'=w:=by
 rcases kinds13 h with rfl|rfl|rfl|rfl|rfl|rfl|rfl|rfl|rfl|rfl|rfl|rfl|rfl
 case _=>clear h;rw [show fldOf 1=0 from rfl];go_enter Tryz.func112,Tryz.ntmps112;go_wp2_with fail;go_ret;exact ⟨rfl,rfl⟩
 case _=>clear h;rw [show fldOf 2=9 from rfl];go_enter Tryz.func112,Tryz.ntmps112;go_wp2_with fail;go_ret;exact ⟨rfl,rfl⟩
 case _=>clear h;rw [show fldOf 3=3 from rfl];go_enter Tryz.func112,Tryz.ntmps112;go_wp2_with fail;go_ret;exact ⟨rfl,rfl⟩
 case _=>clear h;rw [show fldOf 4=3 from rfl];go_enter Tryz.func112,Tryz.ntmps112;go_wp2_with fail;go_ret;exact ⟨rfl,rfl⟩
 case _=>clear h;rw [show fldOf 5=3 from rfl];go_enter Tryz.func112,Tryz.ntmps112;go_wp2_with fail;go_ret;exact ⟨rfl,rfl⟩
 case _=>clear h;rw [show fldOf 6=5 from rfl];go_enter Tryz.func112,Tryz.ntmps112;go_wp2_with fail;go_ret;exact ⟨rfl,rfl⟩
 case _=>clear h;rw [show fldOf 7=129 from rfl];go_enter Tryz.func112,Tryz.ntmps112;go_wp2_with fail;go_ret;exact ⟨rfl,rfl⟩
 case _=>clear h;rw [show fldOf 8=1 from rfl];go_enter Tryz.func112,Tryz.ntmps112;go_wp2_with fail;go_ret;exact ⟨rfl,rfl⟩
 case _=>clear h;rw [show fldOf 9=97 from rfl];go_enter Tryz.func112,Tryz.ntmps112;go_wp2_with fail;go_ret;exact ⟨rfl,rfl⟩
 case _=>clear h;rw [show fldOf 10=8 from rfl];go_enter Tryz.func112,Tryz.ntmps112;go_wp2_with fail;go_ret;exact ⟨rfl,rfl⟩
 case _=>clear h;rw [show fldOf 11=10 from rfl];go_enter Tryz.func112,Tryz.ntmps112;go_wp2_with fail;go_ret;exact ⟨rfl,rfl⟩
 case _=>clear h;rw [show fldOf 12=8 from rfl];go_enter Tryz.func112,Tryz.ntmps112;go_wp2_with fail;go_ret;exact ⟨rfl,rfl⟩
 case _=>clear h;rw [show fldOf 13=50 from rfl];go_enter Tryz.func112,Tryz.ntmps112;go_wp2_with fail;go_ret;exact ⟨rfl,rfl⟩
theorem haveLs_any(k:Int)(w:World)(h:1≤k∧k≤13):Calls Tryz.prog 112 #[.int .i64 (fldOf k),.int .i64 128] w fun e w'=>e = .returned (.bool (hvLs k))∧w'=w:=by
 rcases kinds13 h with rfl|rfl|rfl|rfl|rfl|rfl|rfl|rfl|rfl|rfl|rfl|rfl|rfl
 case _=>clear h;rw [show fldOf 1=0 from rfl];go_enter Tryz.func112,Tryz.ntmps112;go_wp2_with fail;go_ret;exact ⟨rfl,rfl⟩
 case _=>clear h;rw [show fldOf 2=9 from rfl];go_enter Tryz.func112,Tryz.ntmps112;go_wp2_with fail;go_ret;exact ⟨rfl,rfl⟩
 case _=>clear h;rw [show fldOf 3=3 from rfl];go_enter Tryz.func112,Tryz.ntmps112;go_wp2_with fail;go_ret;exact ⟨rfl,rfl⟩
 case _=>clear h;rw [show fldOf 4=3 from rfl];go_enter Tryz.func112,Tryz.ntmps112;go_wp2_with fail;go_ret;exact ⟨rfl,rfl⟩
 case _=>clear h;rw [show fldOf 5=3 from rfl];go_enter Tryz.func112,Tryz.ntmps112;go_wp2_with fail;go_ret;exact ⟨rfl,rfl⟩
 case _=>clear h;rw [show fldOf 6=5 from rfl];go_enter Tryz.func112,Tryz.ntmps112;go_wp2_with fail;go_ret;exact ⟨rfl,rfl⟩
 case _=>clear h;rw [show fldOf 7=129 from rfl];go_enter Tryz.func112,Tryz.ntmps112;go_wp2_with fail;go_ret;exact ⟨rfl,rfl⟩
 case _=>clear h;rw [show fldOf 8=1 from rfl];go_enter Tryz.func112,Tryz.ntmps112;go_wp2_with fail;go_ret;exact ⟨rfl,rfl⟩
 case _=>clear h;rw [show fldOf 9=97 from rfl];go_enter Tryz.func112,Tryz.ntmps112;go_wp2_with fail;go_ret;exact ⟨rfl,rfl⟩
 case _=>clear h;rw [show fldOf 10=8 from rfl];go_enter Tryz.func112,Tryz.ntmps112;go_wp2_with fail;go_ret;exact ⟨rfl,rfl⟩
 case _=>clear h;rw [show fldOf 11=10 from rfl];go_enter Tryz.func112,Tryz.ntmps112;go_wp2_with fail;go_ret;exact ⟨rfl,rfl⟩
 case _=>clear h;rw [show fldOf 12=8 from rfl];go_enter Tryz.func112,Tryz.ntmps112;go_wp2_with fail;go_ret;exact ⟨rfl,rfl⟩
 case _=>clear h;rw [show fldOf 13=50 from rfl];go_enter Tryz.func112,Tryz.ntmps112;go_wp2_with fail;go_ret;exact ⟨rfl,rfl⟩
theorem fits_any(a b c:Bool)(w:World):Calls Tryz.prog 111 #[.bool a,.bool b,.bool c] w fun e w'=>e = .returned (.bool (fitB a b c))∧w'=w:=by
 cases a
 case _=>go_enter Tryz.func111,Tryz.ntmps111;go_wp2_with fail;go_ret;exact ⟨rfl,rfl⟩
 case _=>go_enter Tryz.func111,Tryz.ntmps111;go_wp2_with fail;go_ret;exact ⟨rfl,rfl⟩
end Go.Proofs.YtmamabhhgfcjcaaGreatDoor
