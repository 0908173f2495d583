/-
  Contracts of the library, laid at this program in plain words. Conditions: none.
-/
import Derived.Shelf.Small.Wraps
import Derived.Shelf.Strconv.Itoa4
import Derived.Shelf.Strings.SlTrimAscii
import Derived.Test.YtmamabhhgfcjcaaGreatDoorXa
import Derived.Deep.LoopGhost
set_option maxRecDepth 100000
set_option maxHeartbeats 2000000
namespace Go.Proofs
open Go.Shelf
def Tryz.lays161_ren:Go.Shelf.Ren:=⟨fun|161=>148|231=>169|227=>170|233=>171|235=>172|228=>185|197=>186|151=>187|260=>190|152=>191|137=>193|119=>194|224=>195|225=>196|217=>197|266=>198|n=>n,fun|9=>9|4=>4|3=>3|5=>5|117=>241|116=>240|0=>0|124=>244|105=>253|21=>21|119=>260|46=>203|139=>263|138=>262|n=>n,fun|3=>0|4=>1|n=>n⟩
theorem Tryz.lays161:Go.Proofs.Lays.n161 Tryz.prog Tryz.lays161_ren:={
 mixed:=by kernel_rfl
 f119:=Tryz.func194.trans (congrArg some (by kernel_rfl))
 f137:=Tryz.func193.trans (congrArg some (by kernel_rfl))
 f151:=Tryz.func187.trans (congrArg some (by kernel_rfl))
 f152:=Tryz.func191.trans (congrArg some (by kernel_rfl))
 f161:=Tryz.func148.trans (congrArg some (by kernel_rfl))
 f197:=Tryz.func186.trans (congrArg some (by kernel_rfl))
 f217:=Tryz.func197.trans (congrArg some (by kernel_rfl))
 f224:=Tryz.func195.trans (congrArg some (by kernel_rfl))
 f225:=Tryz.func196.trans (congrArg some (by kernel_rfl))
 f227:=Tryz.func170.trans (congrArg some (by kernel_rfl))
 f228:=Tryz.func185.trans (congrArg some (by kernel_rfl))
 f231:=Tryz.func169.trans (congrArg some (by kernel_rfl))
 f233:=Tryz.func171.trans (congrArg some (by kernel_rfl))
 f235:=Tryz.func172.trans (congrArg some (by kernel_rfl))
 f260:=Tryz.func190.trans (congrArg some (by kernel_rfl))
 f266:=Tryz.func198.trans (congrArg some (by kernel_rfl))
 t0:=Tryz.underlying0
 a0:=Tryz.isAgg0
 z0:=Tryz.sizeOf0
 v0:=Tryz.zeroValue0
 t3:=Tryz.underlying3
 a3:=Tryz.isAgg3
 z3:=Tryz.sizeOf3
 v3:=Tryz.zeroValue3
 t4:=Tryz.underlying4
 a4:=Tryz.isAgg4
 z4:=Tryz.sizeOf4
 v4:=Tryz.zeroValue4
 t5:=Tryz.underlying5
 a5:=Tryz.isAgg5
 z5:=Tryz.sizeOf5
 v5:=Tryz.zeroValue5
 t9:=Tryz.underlying9
 a9:=Tryz.isAgg9
 z9:=Tryz.sizeOf9
 v9:=Tryz.zeroValue9
 t21:=Tryz.underlying21
 a21:=Tryz.isAgg21
 z21:=Tryz.sizeOf21
 v21:=Tryz.zeroValue21
 t46:=Tryz.underlying203
 a46:=Tryz.isAgg203
 z46:=Tryz.sizeOf203
 v46:=Tryz.zeroValue203
 t105:=Tryz.underlying253
 a105:=Tryz.isAgg253
 z105:=Tryz.sizeOf253
 v105:=Tryz.zeroValue253
 t116:=Tryz.underlying240
 a116:=Tryz.isAgg240
 z116:=Tryz.sizeOf240
 t117:=Tryz.underlying241
 a117:=Tryz.isAgg241
 z117:=Tryz.sizeOf241
 v117:=Tryz.zeroValue241
 t119:=Tryz.underlying260
 a119:=Tryz.isAgg260
 z119:=Tryz.sizeOf260
 t124:=Tryz.underlying244
 a124:=Tryz.isAgg244
 z124:=Tryz.sizeOf244
 v124:=Tryz.zeroValue244
 t138:=Tryz.underlying262
 a138:=Tryz.isAgg262
 z138:=Tryz.sizeOf262
 v138:=Tryz.zeroValue262
 t139:=Tryz.underlying263
 a139:=Tryz.isAgg263
 z139:=Tryz.sizeOf263
 v139:=Tryz.zeroValue263
 g3:=by kernel_rfl
 g4:=by kernel_rfl }
end Go.Proofs
namespace Go.Proofs.YtmamabhhgfcjcaaGreatDoor
open Go.RowKit
def lead(p:UInt8→Bool):List UInt8→Nat
 | []=>0
 | c::l=>if p c then lead p l+1 else 0
theorem lead_le(p:UInt8→Bool):∀l,lead p l≤l.length
 | []=>nR _
 | c::l=>by unfold lead;split <;> simp;exact lead_le p l
theorem lead_iff(p:UInt8→Bool):∀(l:List UInt8),lead p l=l.length↔l.all p=true
 | []=>by simp [lead]
 | c::l=>by
  have:=lead_iff p l;unfold lead;cases hp:p c
  ·simp [hp]
  ·simp [hp,← this]
def lows:ByteArray:=⟨#[97,98,99,100,101,102,103,104,105,106,107,108,109,110,111,112,113,114,115,116,117,118,119,120,121,122]⟩
theorem lows_has(c:UInt8):lows.data.toList.contains c=isLow c:=by
 have h:∀n:Fin 256,lows.data.toList.contains (UInt8.ofNat n.val)=isLow (UInt8.ofNat n.val):=by decide
 have:=h ⟨c.toNat,c.toNat_lt⟩;rwa [show UInt8.ofNat c.toNat=c from UInt8.ofNat_toNat]at this
theorem trim_lead(cs:List UInt8):∀l:List UInt8,Lib.trimLeftS l cs=l.drop (lead (fun c=>cs.contains c) l)
 | []=>rfl
 | c::l=>by
  have ih:=trim_lead cs l;unfold Lib.trimLeftS at ih ⊢;unfold lead;rw [List.dropWhile_cons];cases h:cs.contains c
  ·simp
  ·simpa using ih
theorem lead_congr(p q:UInt8→Bool)(h:∀c,p c=q c)(l:List UInt8):lead p l=lead q l:=by rw [show p=q from funext h]
theorem two_beq(s t:ByteArray):(s.toList==t.toList)=decide (s=t):=by
 rw [Bool.eq_iff_iff,ByteArray.toList_eq,ByteArray.toList_eq];simp
 constructor
 ·intro h;exact ByteArray.ext h
 ·rintro rfl;rfl
theorem info256:(Tryz.prog.info? (Tryz.lays161_ren.t 116)).map (fun i=>(i.zero,i.size))=some (some (.agg (Array.replicate 256 (.bool false))),256):=by kernel_rfl
theorem leading_any(s cs:ByteArray)(w:World)(hs:s.size≤9223372036854775807)(hcs:cs.size<4294967281)(ha:cs.data.toList.all (fun b=>decide (b.toNat<128))=true):
  Calls Tryz.prog 130 #[.string s,.string cs] w fun e w'=>e = .returned (.string (s.extract 0 (lead (fun c=>cs.data.toList.contains c) s.data.toList)))∧Below w.heap.size w w':=by
 have cT:Calls Tryz.prog 148 #[.string s,.string cs] w fun e w'=>e = .returned (.string ⟨(Lib.trimLeftS s.data.toList cs.data.toList).toArray⟩)∧Below w.heap.size w w':=Any.strings_TrimLeft_laid Tryz.lays161 info256 s cs w hcs (ascii_of_all ha)
 have hle:=lead_le (fun c=>cs.data.toList.contains c) s.data.toList
 have hsz:(⟨(Lib.trimLeftS s.data.toList cs.data.toList).toArray⟩:ByteArray).size=s.size - lead (fun c=>cs.data.toList.contains c) s.data.toList:=by
  rw [trim_lead];show ((s.data.toList.drop _).toArray).size=_
  rw [List.size_toArray,List.length_drop,Array.length_toList];rfl
 generalize lead (fun c=>cs.data.toList.contains c) s.data.toList=k at hle hsz ⊢
 generalize (⟨(Lib.trimLeftS s.data.toList cs.data.toList).toArray⟩:ByteArray)=t at cT hsz;have hk:k≤s.size:=by simpa using hle
 have htz:(t.size:Int)≤(s.size:Int):=by omega
 have hkz:(s.size:Int) - (t.size:Int)=(k:Int):=by omega
 clear hle hcs ha;go_enter Tryz.func130,Tryz.ntmps130
 go_wp2_with fail
 refine cT.mono ?_;rintro e w1 ⟨rfl,hb⟩;go_wp2_with fail
 go_ret
 refine ⟨?_,hb⟩;show Ending.returned (Value.string (s.extract 0 (s.size - (s.size - k))))=_
 rw [show s.size - (s.size - k)=k by omega]
theorem isNm_no(l:List UInt8)(h:l=[116,114,117,101]∨l=[102,97,108,115,101]∨l=[97,110,100]∨l=[111,114]∨l=[110,111,116]):isNm l=false:=by unfold isNm;rw [if_pos h]
theorem isNm_yes(l:List UInt8)(h:¬(l=[116,114,117,101]∨l=[102,97,108,115,101]∨l=[97,110,100]∨l=[111,114]∨l=[110,111,116])):isNm l=(decide (1≤l.length∧l.length≤8) && l.all isLow):=by unfold isNm;rw [if_neg h]
theorem isName_any(s:ByteArray)(w:World)(hs:s.size≤9223372036854775807):
  Calls Tryz.prog 103 #[.string s] w fun e w'=>e = .returned (.bool (isNm s.data.toList))∧Below w.heap.size w w':=by
 have hlen:s.data.toList.length=s.size:=by simp
 by_cases hkw:s.data.toList=[116,114,117,101]∨s.data.toList=[102,97,108,115,101]∨s.data.toList=[97,110,100]∨s.data.toList=[111,114]∨s.data.toList=[110,111,116]
 ·rw [isNm_no _ hkw]
  clear hlen;have e:∀l,s.data.toList=l→s=⟨l.toArray⟩:=fun l h=>ByteArray.ext (Array.toList_inj.1 (by simpa using h))
  rcases hkw with h|h|h|h|h
  all_goals
   have:=e _ h;subst this;clear h e hs;go_enter Tryz.func103,Tryz.ntmps103
   go_wp2_with fail
   go_ret
   exact ⟨rfl,Below.refl _ _⟩
 ·rw [isNm_yes _ hkw,hlen]
  have b1:(s.toList==[116,114,117,101])=false:=by rw [beqL];simp;exact fun h=>hkw (.inl h)
  have b2:(s.toList==[102,97,108,115,101])=false:=by rw [beqL];simp;exact fun h=>hkw (.inr (.inl h))
  have b3:(s.toList==[97,110,100])=false:=by rw [beqL];simp;exact fun h=>hkw (.inr (.inr (.inl h)))
  have b4:(s.toList==[111,114])=false:=by rw [beqL];simp;exact fun h=>hkw (.inr (.inr (.inr (.inl h))))
  have b5:(s.toList==[110,111,116])=false:=by rw [beqL];simp;exact fun h=>hkw (.inr (.inr (.inr (.inr h))))
  clear hkw;by_cases h1:1≤s.size
  ·by_cases h2:s.size≤8
   ·have z1:(1:Int)≤(s.size:Int):=by omega
    have z2:(s.size:Int)≤8:=by omega
    have cL:=leading_any s lows w hs (by decide) (by decide)
    rw [lead_congr _ isLow lows_has]at cL;have hle:=lead_le isLow s.data.toList;have hiff:=lead_iff isLow s.data.toList;rw [hlen]at hle hiff;generalize s.data.toList.all isLow=g at hiff ⊢;generalize lead isLow s.data.toList=k at cL hle hiff;have hg:((s.extract 0 k).toList==s.toList)=g:=by
     rw [two_beq,Bool.eq_iff_iff,← hiff,decide_eq_true_eq];constructor
     ·intro h;have:=congrArg ByteArray.size h;simp at this;omega
     ·intro h;subst h;exact ByteArray.extract_zero_size
    generalize s.extract 0 k=t at cL hg;clear hiff hlen hle;rw [show (decide (1≤s.size∧s.size≤8) && g)=g by simp [h1,h2]]
    simp only [lows]at cL;have HG:Hid ((t.toList==s.toList)=g):=hg;clear hg;go_enter Tryz.func103,Tryz.ntmps103
    go_wp2_with (go_at_call 130;refine cL.mono ?_;rintro e w1 ⟨rfl,hb⟩)
    go_ret
    exact ⟨by rw [← HG.out];rfl,hb⟩
   ·have z1:(1:Int)≤(s.size:Int):=by omega
    have z2:¬(s.size:Int)≤8:=by omega
    rw [show (decide (1≤s.size∧s.size≤8) && s.data.toList.all isLow)=false by simp [h2]]
    clear hlen;go_enter Tryz.func103,Tryz.ntmps103
    go_wp2_with fail
    go_ret
    exact ⟨rfl,Below.refl _ _⟩
  ·have z1:¬(1:Int)≤(s.size:Int):=by omega
   rw [show (decide (1≤s.size∧s.size≤8) && s.data.toList.all isLow)=false by simp [h1]]
   clear hlen;go_enter Tryz.func103,Tryz.ntmps103
   go_wp2_with fail
   go_ret
   exact ⟨rfl,Below.refl _ _⟩
theorem empty_toList(s:ByteArray):s.toList.isEmpty=decide (s=⟨#[]⟩):=by
 rw [Bool.eq_iff_iff,ByteArray.toList_eq];simp
 constructor
 ·intro h;exact ByteArray.ext h
 ·rintro rfl;rfl
theorem zero_cases(so n:Int)(s:ByteArray):(so=0∧n=0∧s=⟨#[]⟩)∨so≠0∨(so=0∧n≠0)∨(so=0∧n=0∧s≠⟨#[]⟩):=by
 by_cases h1:so=0
 ·by_cases h2:n=0
  ·by_cases h3:s=⟨#[]⟩
   ·exact .inl ⟨h1,h2,h3⟩
   ·exact .inr (.inr (.inr ⟨h1,h2,h3⟩))
  ·exact .inr (.inr (.inl ⟨h1,h2⟩))
 ·exact .inr (.inl h1)
theorem keep6{w w1:World}{v0 v1 v2 v3 v4 v5:Value}{T:TypeId}(hb:Below (w.alloc (.cells #[v0,v1,v2,v3,v4,v5] T)).heap.size (w.alloc (.cells #[v0,v1,v2,v3,v4,v5] T)) w1):
  w1.cell? ⟨w.heap.size,0,none⟩=some v0∧w1.cell? ⟨w.heap.size,1,none⟩=some v1∧w1.cell? ⟨w.heap.size,2,none⟩=some v2∧w1.cell? ⟨w.heap.size,3,none⟩=some v3∧w1.cell? ⟨w.heap.size,4,none⟩=some v4∧w1.cell? ⟨w.heap.size,5,none⟩=some v5∧Below w.heap.size w w1:=by
 obtain ⟨hc1,_⟩:=bcell hb;exact ⟨(hc1 _ 0 (by simp)).trans (by go_cell),(hc1 _ 1 (by simp)).trans (by go_cell),(hc1 _ 2 (by simp)).trans (by go_cell),(hc1 _ 3 (by simp)).trans (by go_cell),(hc1 _ 4 (by simp)).trans (by go_cell),(hc1 _ 5 (by simp)).trans (by go_cell),((bR _ _).alloc (nR _) _).trans (hb.mono (by simp))⟩
theorem isPart_any(x:Ex)(ao:OAd)(cap:Nat)(w:World)(hb:ExBd x cap):
  Calls Tryz.prog 149 #[exVal x ao cap] w fun e w'=>e = .returned (.bool (partOK x))∧Below w.heap.size w w':=by
 obtain ⟨kd,nm,so,n,s,ks⟩:=x;obtain ⟨hnm,_,_,_,hks,hcp⟩:=hb;simp only at hnm hks;have cN:=isName_any nm;have cO:=isOperator_any nm ks.length;have hp1:kd=1→partOK ⟨kd,nm,so,n,s,ks⟩=(nm.toList.isEmpty && decide (ks.length=0)):=by
  intro h;rw [empty_toList];simp [partOK,h]
 have hp2:kd=2→partOK ⟨kd,nm,so,n,s,ks⟩=(isNm nm.data.toList && decide (so=0∧n=0∧s=⟨#[]⟩) && decide (ks.length=0)):=by
  intro h;unfold partOK;rw [if_neg (by simp [h]),if_pos h]
  rw [Bool.eq_iff_iff];simp only [Bool.and_eq_true,decide_eq_true_eq,and_assoc]
 have hp3:kd=3→partOK ⟨kd,nm,so,n,s,ks⟩=(decide (so=0∧n=0∧s=⟨#[]⟩) && isOp nm.data.toList ks.length):=by
  intro h;unfold partOK;rw [if_neg (by simp [h]),if_neg (by simp [h]),if_pos h]
 have hp4:kd≠1→kd≠2→kd≠3→partOK ⟨kd,nm,so,n,s,ks⟩=false:=by
  intro h h' h'';unfold partOK;rw [if_neg h,if_neg h',if_neg h'']
 generalize partOK ⟨kd,nm,so,n,s,ks⟩=r at hp1 hp2 hp3 hp4 ⊢;unfold exVal;simp only;generalize ks.length=k at hks cO hp1 hp2 hp3 ⊢;have hkz:(k:Int)≤9223372036854775807:=by omega
 by_cases h1:kd=1
 ·subst h1
  rw [hp1 rfl];clear hp1 hp2 hp3 hp4 cN cO;by_cases hk0:k=0
  ·subst hk0
   cases hne:nm.toList.isEmpty
   all_goals
    go_enter Tryz.func149,Tryz.ntmps149
    go_wp2_with fail
    go_ret
    exact ⟨rfl,by go_grown⟩
  ·have b0:((k:Int)==0)=false:=by simp;omega
   rw [show decide (k=0)=false by simp [hk0],Bool.and_false]
   cases hne:nm.toList.isEmpty
   all_goals
    go_enter Tryz.func149,Tryz.ntmps149
    go_wp2_with fail
    go_ret
    exact ⟨rfl,by go_grown⟩
 ·have k1:(kd==1)=false:=by simpa using h1
  by_cases h2:kd=2
  ·subst h2
   rw [hp2 rfl];clear hp1 hp2 hp3 hp4 cO;have cN:=fun W=>cN W hnm
   generalize isNm nm.data.toList=q at cN ⊢;have CN:Hid (∀W:World,Calls Tryz.prog 103 #[.string nm] W fun e w'=>e = .returned (.bool q)∧Below W.heap.size W w'):=cN
   clear cN;cases q
   ·rw [Bool.false_and,Bool.false_and]
    go_enter Tryz.func149,Tryz.ntmps149
    go_wp2_with (go_at_call 103;refine (CN.out _).mono ?_;rintro e w1 ⟨rfl,hb1⟩;obtain ⟨x0,x1,x2,x3,x4,x5,hbw⟩:=keep6 hb1;clear hb1)
    go_ret
    exact ⟨rfl,hbw⟩
   ·rw [Bool.true_and]
    rcases zero_cases so n s with ⟨rfl,rfl,rfl⟩|hz|⟨rfl,hz⟩|⟨rfl,rfl,hz⟩
    ·rw [show decide ((0:Int)=0∧(0:Int)=0∧(⟨#[]⟩:ByteArray)=⟨#[]⟩)=true by simp,Bool.true_and]
     by_cases hk0:k=0
     ·subst hk0
      go_enter Tryz.func149,Tryz.ntmps149
      go_wp2_with (go_at_call 103;refine (CN.out _).mono ?_;rintro e w1 ⟨rfl,hb1⟩;obtain ⟨x0,x1,x2,x3,x4,x5,hbw⟩:=keep6 hb1;clear hb1)
      go_ret
      exact ⟨rfl,hbw⟩
     ·have b0:((k:Int)==0)=false:=by simp;omega
      rw [show decide (k=0)=false by simp [hk0]]
      go_enter Tryz.func149,Tryz.ntmps149
      go_wp2_with (go_at_call 103;refine (CN.out _).mono ?_;rintro e w1 ⟨rfl,hb1⟩;obtain ⟨x0,x1,x2,x3,x4,x5,hbw⟩:=keep6 hb1;clear hb1)
      go_ret
      exact ⟨rfl,hbw⟩
    ·have b1:(so==0)=false:=by simpa using hz
     rw [show decide (so=0∧n=0∧s=⟨#[]⟩)=false by simp [hz],Bool.false_and]
     go_enter Tryz.func149,Tryz.ntmps149
     go_wp2_with (go_at_call 103;refine (CN.out _).mono ?_;rintro e w1 ⟨rfl,hb1⟩;obtain ⟨x0,x1,x2,x3,x4,x5,hbw⟩:=keep6 hb1;clear hb1)
     go_ret
     exact ⟨rfl,hbw⟩
    ·have b1:(n==0)=false:=by simpa using hz
     rw [show decide ((0:Int)=0∧n=0∧s=⟨#[]⟩)=false by simp [hz],Bool.false_and]
     go_enter Tryz.func149,Tryz.ntmps149
     go_wp2_with (go_at_call 103;refine (CN.out _).mono ?_;rintro e w1 ⟨rfl,hb1⟩;obtain ⟨x0,x1,x2,x3,x4,x5,hbw⟩:=keep6 hb1;clear hb1)
     go_ret
     exact ⟨rfl,hbw⟩
    ·have b1:s.toList.isEmpty=false:=by rw [empty_toList];simpa using hz
     rw [show decide ((0:Int)=0∧(0:Int)=0∧s=⟨#[]⟩)=false by simp [hz],Bool.false_and]
     go_enter Tryz.func149,Tryz.ntmps149
     go_wp2_with (go_at_call 103;refine (CN.out _).mono ?_;rintro e w1 ⟨rfl,hb1⟩;obtain ⟨x0,x1,x2,x3,x4,x5,hbw⟩:=keep6 hb1;clear hb1)
     go_ret
     exact ⟨rfl,hbw⟩
  ·have k2:(kd==2)=false:=by simpa using h2
   by_cases h3:kd=3
   ·subst h3
    rw [hp3 rfl];clear hp1 hp2 hp3 hp4 cN;generalize isOp nm.data.toList k=q at cO ⊢;have CO:Hid (∀W:World,Calls Tryz.prog 173 #[.string nm,.int .i64 (k:Int)] W fun e w'=>e = .returned (.bool q)∧w'=W):=cO
    clear cO;rcases zero_cases so n s with ⟨rfl,rfl,rfl⟩|hz|⟨rfl,hz⟩|⟨rfl,rfl,hz⟩
    ·rw [show decide ((0:Int)=0∧(0:Int)=0∧(⟨#[]⟩:ByteArray)=⟨#[]⟩)=true by simp,Bool.true_and]
     go_enter Tryz.func149,Tryz.ntmps149
     go_wp2_with (go_at_call 173;refine (CO.out _).mono ?_;rintro e w1 ⟨rfl,rfl⟩)
     go_ret
     exact ⟨rfl,by go_grown⟩
    ·have b1:(so==0)=false:=by simpa using hz
     rw [show decide (so=0∧n=0∧s=⟨#[]⟩)=false by simp [hz],Bool.false_and]
     go_enter Tryz.func149,Tryz.ntmps149
     go_wp2_with fail
     go_ret
     exact ⟨rfl,by go_grown⟩
    ·have b1:(n==0)=false:=by simpa using hz
     rw [show decide ((0:Int)=0∧n=0∧s=⟨#[]⟩)=false by simp [hz],Bool.false_and]
     go_enter Tryz.func149,Tryz.ntmps149
     go_wp2_with fail
     go_ret
     exact ⟨rfl,by go_grown⟩
    ·have b1:s.toList.isEmpty=false:=by rw [empty_toList];simpa using hz
     rw [show decide ((0:Int)=0∧(0:Int)=0∧s=⟨#[]⟩)=false by simp [hz],Bool.false_and]
     go_enter Tryz.func149,Tryz.ntmps149
     go_wp2_with fail
     go_ret
     exact ⟨rfl,by go_grown⟩
   ·have k3:(kd==3)=false:=by simpa using h3
    rw [hp4 h1 h2 h3];clear hp1 hp2 hp3 hp4 cN cO;go_enter Tryz.func149,Tryz.ntmps149
    go_wp2_with fail
    go_ret
    exact ⟨rfl,by go_grown⟩
variable (Tabs:World→Prop) (B0:Nat)
structure PC(W:World)(b:Nat)(c:Nat):Prop where
 lt:b<W.heap.size
 cell:W.cell? ⟨b,0,none⟩=some (.int .i64 (c:Int))
 free:W.frozen? ⟨b,0,none⟩=false
theorem PC.keep{W W':World}{b c:Nat}(h:PC W b c){B:Nat}(hb:Below B W W')(hl:b<B):PC W' b c :=
 ⟨nL h.lt hb.size,(hb.cell (p:=⟨b,0,none⟩) hl).trans h.cell,(hb.frozen (p:=⟨b,0,none⟩) hl).trans h.free⟩
theorem PC.al{W:World}{b c:Nat}(h:PC W b c)(o:Obj):PC (W.alloc o) b c:=h.keep ((bR _ _).alloc (nR _) o) h.lt
theorem PC.set{W:World}{b c:Nat}(h:PC W b c)(k:Nat):PC (W.setCell ⟨b,0,none⟩ (.int .i64 (k:Int))) b k:=by
 refine ⟨by simpa using h.lt,?_,?_⟩
 ·exact World.cell?_setCell_same _ _ _ h.cell
 ·simpa using h.free
def CPSaid(d:Nat):Prop:=∀(x:Ex) (ao:OAd) (cap c pb B:Nat) (w:World),ExBd x cap→KA w B d x.kids ao→B≤pb→B0≤pb→PC w pb c→c≤60→Tabs w →
 Calls Tryz.prog 134 #[exVal x ao cap,.pointer (some ⟨pb,0,none⟩)] w fun e w'=>e = .returned (.int .i64 (chkP x c).1)∧PC w' pb (chkP x c).2∧Below pb w w'
theorem chkL_cnt(ks:List Ex):∀(a:Int × Nat),(∀k∈ks,∀c,c≤60→(chkP k c).1=0→(chkP k c).2≤60)→a.2≤60→(chkL ks a).1=0→(chkL ks a).2≤60:=by
 induction ks with
 | nil=>intro a _ h _;exact h
 | cons x ks ih =>
  intro a hk h h0;rw [chkL_cons]at h0 ⊢;by_cases ha:a.1≠0
  ·rw [if_pos ha]at h0 ⊢
   exact ih a (fun k hm=>hk k (.tail _ hm)) h h0
  ·rw [if_neg ha]at h0 ⊢
   by_cases hx:(chkP x a.2).1=0
   ·exact ih _ (fun k hm=>hk k (.tail _ hm)) (hk x (.head _) _ h hx) h0
   ·rw [chkL_bad _ _ hx]at h0;exact absurd h0 hx
theorem chkP_cnt:∀x:Ex,∀c,c≤60→(chkP x c).1=0→(chkP x c).2≤60:=by
 apply exInd
 intro x ih c hc h;rw [chkP_eq]at h ⊢;by_cases h1:60<c+1
 ·rw [if_pos h1]at h;exact absurd h (by simp)
 ·rw [if_neg h1]at h ⊢
  split at h
  ·exact absurd h (by simp)
  ·split at h
   ·rw [if_neg ‹_›,if_pos ‹_›];show c+1≤60;omega
   ·rw [if_neg ‹_›,if_neg ‹_›]
    exact chkL_cnt x.kids (0,c+1) ih (by show c+1≤60;omega) h
theorem chkL_snoc(ks:List Ex)(x:Ex)(a:Int × Nat):chkL (ks++[x]) a=if (chkL ks a).1≠0 then chkL ks a else chkP x (chkL ks a).2:=by
 unfold chkL;rw [List.foldl_append];rfl
theorem chkL_split(ks:List Ex)(k:Nat)(a:Int × Nat)(h:(chkL (ks.take k) a).1≠0):chkL ks a=chkL (ks.take k) a:=by
 have e:chkL ks a=chkL (ks.drop k) (chkL (ks.take k) a):=by
  conv=>lhs;rw [← List.take_append_drop k ks]
  unfold chkL;rw [List.foldl_append]
 rw [e,chkL_bad _ _ h]
theorem checkParts_step(hV:VSaid vD Tabs)(hK:∀w w',Tabs w→Below w.heap.size w w'→Tabs w')(hK2:∀B w w',B0≤B→Tabs w→Below B w w'→Tabs w')(d:Nat)(ih:∀d',d'<d→CPSaid Tabs B0 d'):CPSaid Tabs B0 d:=by
 intro x ao cap c pb B w hbd hka hB hB0 hpc hc hT;obtain ⟨kd,nm,so,n,s,ks⟩:=x;have cP:=fun W:World=>isPart_any ⟨kd,nm,so,n,s,ks⟩ ao cap W hbd
 have hpe:=chkP_eq ⟨kd,nm,so,n,s,ks⟩ c;generalize chkP ⟨kd,nm,so,n,s,ks⟩ c=r at hpe ⊢;simp only at hpe;generalize partOK ⟨kd,nm,so,n,s,ks⟩=g at cP hpe;simp only [exVal]at cP;unfold exVal;simp only;have CP:Hid (∀W:World,Calls Tryz.prog 149 #[.agg #[.int .i64 kd,.string nm,.int .i64 so,.int .i64 n,.string s,.slice ao ks.length cap]] W fun e w'=>e = .returned (.bool g)∧Below W.heap.size W w'):=cP
 clear cP;have hp1:=hpc.al (.cells #[.int .i64 kd,.string nm,.int .i64 so,.int .i64 n,.string s,.slice ao ks.length cap] 34);have q1:=hp1.cell;have q2:=hp1.free;have hlt:=hpc.lt;have hcz:(c:Int)≤60:=by omega
 have hps:=hpc.set (c+1);have q3:(w.setCell ⟨pb,0,none⟩ (.int .i64 ((c:Int)+1))).cell? ⟨pb,0,none⟩=some (.int .i64 ((c:Int)+1)):=hps.cell;have hbS:Below pb w (w.setCell ⟨pb,0,none⟩ (.int .i64 ((c:Int)+1))):=(Below.refl pb w).setCell (p:=⟨pb,0,none⟩) (nR pb) _;have hTS:Tabs (w.setCell ⟨pb,0,none⟩ (.int .i64 ((c:Int)+1))):=hK2 pb w _ hB0 hT hbS;have HPS:Hid (PC (w.setCell ⟨pb,0,none⟩ (.int .i64 ((c:Int)+1))) pb (c+1)):=hps;have HBS:Hid (Below pb w (w.setCell ⟨pb,0,none⟩ (.int .i64 ((c:Int)+1)))):=hbS;clear hps hbS hp1 hT hpc;by_cases h60:60<c+1
 ·have hcge:(60:Int)≤(c:Int):=by omega
  rw [if_pos h60]at hpe;subst hpe;clear hV hK hK2 ih hbd hka CP;go_enter Tryz.func134,Tryz.ntmps134
  go_wp2_with fail
  go_ret
  exact ⟨rfl,HPS.out.al _,HBS.out.alloc (by simp;omega) _⟩
 ·rw [if_neg h60]at hpe
  have hcz':(c:Int)+1≤60:=by omega
  clear h60;cases g
  ·rw [if_pos rfl]at hpe
   subst hpe;clear hV hK hK2 ih hbd hka;go_enter Tryz.func134,Tryz.ntmps134
   go_wp2_with fail
   refine (CP.out _).mono ?_;rintro e w1 ⟨rfl,hb1⟩;go_wp2_with fail
   go_ret
   exact ⟨rfl,(HPS.out.al _).keep hb1 (by simp;omega),(HBS.out.alloc (by simp;omega) _).trans (hb1.mono (by simp;omega))⟩
  ·rw [if_neg (by simp)]at hpe
   by_cases h1:kd=1
   ·subst h1
    rw [if_pos rfl]at hpe;subst hpe;have cV:=fun (W:World) (h:Tabs W)=>check_any vD Tabs hV hK so n s W hbd.s h
    generalize chkZ vD so n s=z at cV ⊢;have CV:Hid (∀(W:World),Tabs W→Calls Tryz.prog 150 #[.agg #[.int .i64 so,.int .i64 n,.string s]] W fun e w'=>e = .returned (.int .i64 z)∧Below W.heap.size W w'):=cV
    clear cV hV hK2 ih hbd hka;go_enter Tryz.func134,Tryz.ntmps134
    go_wp2_with fail
    refine (CP.out _).mono ?_;rintro e w1 ⟨rfl,hb1⟩;have hT1:Tabs w1:=hK _ _ (hK _ _ hTS ((bR _ _).alloc (nR _) _)) hb1;obtain ⟨hc1,_⟩:=bcell hb1;have x0:w1.cell? ⟨w.heap.size,0,none⟩=some (.int .i64 1):=(hc1 _ 0 (by simp)).trans (by go_cell)
    have x2:w1.cell? ⟨w.heap.size,2,none⟩=some (.int .i64 so):=(hc1 _ 2 (by simp)).trans (by go_cell)
    have x3:w1.cell? ⟨w.heap.size,3,none⟩=some (.int .i64 n):=(hc1 _ 3 (by simp)).trans (by go_cell)
    have x4:w1.cell? ⟨w.heap.size,4,none⟩=some (.string s):=(hc1 _ 4 (by simp)).trans (by go_cell)
    have hP1:PC w1 pb (c+1):=(HPS.out.al _).keep hb1 (by simp;omega)
    have hB1:Below pb w w1:=(HBS.out.alloc (by simp;omega) _).trans (hb1.mono (by simp;omega))
    clear hc1 hb1;go_wp2_with fail
    refine (CV.out _ hT1).mono ?_;rintro e w2 ⟨rfl,hb2⟩;go_wp2_with fail
    go_ret
    exact ⟨rfl,hP1.keep hb2 hP1.lt,hB1.trans (hb2.mono (by have:=hP1.lt;omega))⟩
   ·rw [if_neg h1]at hpe
    subst hpe;have k1:(kd==1)=false:=by simpa using h1
    have hkl:(ks.length:Int)≤9223372036854775807:=by have:=hbd.kids;have:=hbd.cap;simp only at *;omega
    clear hbd;go_enter Tryz.func134,Tryz.ntmps134
    go_wp2_with fail
    refine (CP.out _).mono ?_;rintro e w1 ⟨rfl,hb1⟩;have hT1:Tabs w1:=hK _ _ (hK _ _ hTS ((bR _ _).alloc (nR _) _)) hb1;obtain ⟨hc1,_⟩:=bcell hb1;have x0:w1.cell? ⟨w.heap.size,0,none⟩=some (.int .i64 kd):=(hc1 _ 0 (by simp)).trans (by go_cell)
    have x5:w1.cell? ⟨w.heap.size,5,none⟩=some (.slice ao ks.length cap):=(hc1 _ 5 (by simp)).trans (by go_cell)
    have hP1:PC w1 pb (c+1):=(HPS.out.al _).keep hb1 (by simp;omega)
    have hB1:Below pb w w1:=(HBS.out.alloc (by simp;omega) _).trans (hb1.mono (by simp;omega))
    clear hc1 hb1 q1 q2 q3 hTS HPS HBS CP hV;go_wp2_with fail
    go_loopw [29] (fun i wr=>∃k:Nat,k≤ks.length∧i = .int .i64 (k:Int)∧(chkL (ks.take k) (0,c+1)).1=0∧PC wr pb (chkL (ks.take k) (0,c+1)).2∧Below pb w wr∧Tabs wr) (fun i _=>ks.length - (intOf i).toNat)
    case atStart=>exact ⟨0,Nat.zero_le _,rfl,rfl,hP1,hB1,hT1⟩
    case round =>
     obtain ⟨k,hk,rfl,hz,hP,hBw,hTw⟩:=hrel;clear x0 x5 hP1 hB1 hT1;by_cases hlt':k<ks.length
     ·have hltz:(k:Int)<(ks.length:Int):=by omega
      obtain ⟨d',rfl⟩:∃d',d=d'+1:=by
       cases d with
       | zero=>simp only [KA]at hka;subst hka;simp at hlt'
       | succ d'=>exact ⟨d',rfl⟩
      rcases hka with hka|⟨b,o,rfl,hbB,hka⟩
      ·subst hka;simp at hlt'
      ·obtain ⟨ao',cap',hex,hxb,hkk⟩:=hka k hlt'
       have hex':=hex.keep hBw (by omega)
       obtain ⟨y0,y1,y2,y3,y4,y5⟩:=hex';have hcnt:=chkL_cnt (ks.take k) (0,c+1) (fun q _=>chkP_cnt q) (by show c+1≤60;omega) hz
       have hsn:chkL (ks.take (k+1)) (0,c+1)=chkP ks[k] (chkL (ks.take k) (0,c+1)).2:=by
        rw [List.take_succ_eq_append_getElem hlt',chkL_snoc,if_neg (by simpa using hz)]
       have cR:=ih d' (by omega) ks[k] ao' cap' (chkL (ks.take k) (0,c+1)).2 pb B (wr.alloc (.cells #[.int .i64 ks[k].kind,.string ks[k].name,.int .i64 ks[k].so,.int .i64 ks[k].n,.string ks[k].s,.slice ao' ks[k].kids.length cap'] 34)) hxb
        (KA.keep ((bR _ _).alloc (by have:=hP.lt;omega) _) (KA.keep (hBw.mono hB) hkk)) hB hB0 (hP.al _) hcnt (hK _ _ hTw ((bR _ _).alloc (nR _) _))
       simp only [exVal]at cR;generalize chkP ks[k] (chkL (ks.take k) (0,c+1)).2=r2 at cR hsn;have HS:Hid (chkL (ks.take (k+1)) (0,c+1)=r2):=hsn;have HP:Hid (PC wr pb (chkL (ks.take k) (0,c+1)).2):=hP;have hsz:w.heap.size≤wr.heap.size:=hBw.size;clear hz hP hcnt hsn hka hkk ih hex;go_wp2_with fail
       refine cR.mono ?_;rintro e w2 ⟨rfl,hP2,hB2⟩;have hBw2:Below pb w w2:=(hBw.alloc (by omega) _).trans hB2
       have hT2:Tabs w2:=hK2 pb _ _ hB0 (hK _ _ hTw ((bR _ _).alloc (nR _) _)) hB2;clear cR y0 y1 y2 y3 y4 y5 hBw hTw hB2;by_cases hr:r2.1=0
       ·have hrb:(r2.1 != 0)=false:=by simpa using hr
        have HR:Hid (r2.1=0):=hr;clear hr;go_wp2_with fail
        go_roundw
        case rel=>exact ⟨k+1,by omega,by go_num,by rw [HS.out];exact HR.out,by rw [HS.out];exact hP2,hBw2,hT2⟩
        case measure=>simp [intOf];omega
       ·have hrb:(r2.1 != 0)=true:=by simpa using hr
        have HR:Hid (chkL ks (0,c+1)=r2):=by
         rw [chkL_split ks (k+1) _ (by rw [HS.out];exact hr)];exact HS.out
        clear hr;go_wp2_with fail
        go_ret
        rw [HR.out];exact ⟨rfl,hP2,hBw2⟩
     ·have hltz:¬(k:Int)<(ks.length:Int):=by omega
      have hfin:ks.take k=ks:=List.take_of_length_le (by omega)
      rw [hfin]at hz hP;have HZ:Hid ((chkL ks (0,c+1)).1=0):=hz;clear hz hfin;go_wp2_with fail
      go_ret
      rw [HZ.out];exact ⟨rfl,hP,hBw⟩
theorem checkParts_any(hV:VSaid vD Tabs)(hK:∀w w',Tabs w→Below w.heap.size w w'→Tabs w')(hK2:∀B w w',B0≤B→Tabs w→Below B w w'→Tabs w')(d:Nat):CPSaid Tabs B0 d:=by
 induction d using Nat.strongRecOn with
 | _ d ih=>exact checkParts_step Tabs B0 hV hK hK2 d ih
theorem chk_any(hV:VSaid vD Tabs)(hK:∀w w',Tabs w→Below w.heap.size w w'→Tabs w')(hK2:∀B w w',B0≤B→Tabs w→Below B w w'→Tabs w')(hB0:∀w,Tabs w→B0≤w.heap.size)
  (d:Nat) (x:Ex) (ao:OAd) (cap:Nat) (w:World) (hbd:ExBd x cap) (hka:KA w w.heap.size d x.kids ao) (hT:Tabs w) :
  Calls Tryz.prog 117 #[exVal x ao cap] w fun e w'=>e = .returned (.int .i64 (chkX x))∧Below w.heap.size w w':=by
 have hsz:=hB0 w hT;have hb2:Below w.heap.size w ((w.alloc (.cells #[.int .i64 x.kind,.string x.name,.int .i64 x.so,.int .i64 x.n,.string x.s,.slice ao x.kids.length cap] 34)).alloc (.cells #[.int .i64 0] 3)):=((bR _ _).alloc (nR _) _).alloc (by simp) _
 have c:=checkParts_any Tabs B0 hV hK hK2 d x ao cap 0 (w.heap.size+1) w.heap.size ((w.alloc (.cells #[.int .i64 x.kind,.string x.name,.int .i64 x.so,.int .i64 x.n,.string x.s,.slice ao x.kids.length cap] 34)).alloc (.cells #[.int .i64 0] 3)) hbd
  (KA.keep hb2 hka) (by omega) (by omega) ⟨by simp,by go_cell,by go_simp⟩ (by omega) (hK _ _ hT hb2)
 unfold chkX;simp only [exVal]at c ⊢;clear hV hK hK2 hka hT;generalize chkP x 0=r at c ⊢;go_enter Tryz.func117,Tryz.ntmps117
 go_wp2_with fail
 refine c.mono ?_;rintro e w1 ⟨rfl,hp,hb⟩;go_wp2_with fail
 go_ret
 exact ⟨rfl,hb2.trans (hb.mono (by omega))⟩
end Go.Proofs.YtmamabhhgfcjcaaGreatDoor
