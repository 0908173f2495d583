/-
  Plain: a value and an expression as data.
-/
import Derived.Test.YtnedgkcejlhnbaaGreatDoorSz
import Derived.WalkKit
import Derived.Test.YtnedgkcejlhnbaaGreatDoorProg
import Derived.Handy
import Derived.Deep.Slices
import Derived.Lib.SmallJoins
import Derived.OpenShut
import Derived.WalkSpells
import Derived.WalkLawsBesides
import Derived.Deep.QuietTactic
import Derived.BigQuiet
import Derived.Lib.Bytealg
import Derived.Test.YtnedgkcejlhnbaaGreatDoorRows
import Derived.Ground.NamesProg
import Derived.Shelf.LaysM
import Derived.Shelf.Small.Strs
import Derived.Shelf.Unicode.ValidAny
import Derived.Shelf.Small.Utf8
import Derived.Shelf.Utf8.RuneCount
import Derived.Shelf.Utf8.AppendRune
import Derived.Shelf.Strings.BuilderK
import Derived.Shelf.Strconv.Clone
import Derived.Shelf.Unicode.DecodeAny
import Derived.Lib.ValidLaws
import Derived.Lib.ValidAsc
import Derived.Lib.RuneBytes
import Derived.Lib.RuneCountTail
import Derived.Lib.Small
import Derived.Laws.Cover4
import Derived.Laws.IdiomStrings
import Derived.Lib.OwnBridge
import Derived.BigCall
import Derived.Deep.RegionHeld3
import Derived.Deep.DeepFit
import Derived.Shelf.Small.Wraps
import Derived.Shelf.Strconv.Itoa4
import Derived.Shelf.Strings.SlTrimAscii
import Derived.Deep.LoopGhost
set_option maxRecDepth 100000
set_option maxHeartbeats 400000
namespace Go.Proofs.YtnedgkcejlhnbaaGreatDoor
open Go.RowKit Go.Deep Go.Joins Go.ChangeShapes Go.WideShapes
theorem lt_of_cell{W:World}{b o:Nat}{v:Value}(h:W.cell? ⟨b,o,none⟩=some v):b<W.heap.size:=by
 unfold World.cell? at h;apply Classical.byContradiction
 intro hn;have:W.heap[b]? = none:=by simp;omega
 simp [this]at h
section
variable {H:Type} {enc:TypeId × Value→H} {W:World} {base:Nat} {spare:Nat→Bool} {held:Bool}
end
def isLow(c:UInt8):Bool:=decide (97≤c.toNat∧c.toNat≤122)
def isNm(l:List UInt8):Bool :=
 if l=[116,114,117,101]∨l=[102,97,108,115,101]∨l=[97,110,100]∨l=[111,114]∨l=[110,111,116] then false
 else decide (1≤l.length∧l.length≤8) && l.all isLow
theorem beqL(s:ByteArray)(l:List UInt8):(s.toList==l)=decide (s.data.toList=l):=by
 rw [ByteArray.toList_eq,Bool.eq_iff_iff];simp
variable (V:ByteArray→Bool) (Tabs:World→Prop)
theorem bcell{W w1:World}(hb:Below W.heap.size W w1):(∀b o,b<W.heap.size→w1.cell? ⟨b,o,none⟩=W.cell? ⟨b,o,none⟩)∧(∀b o,b<W.heap.size→w1.frozen? ⟨b,o,none⟩=W.frozen? ⟨b,o,none⟩) :=
 ⟨fun b o h=>hb.cell (p:=⟨b,o,none⟩) h,fun b o h=>hb.frozen (p:=⟨b,o,none⟩) h⟩
end Go.Proofs.YtnedgkcejlhnbaaGreatDoor
namespace Go.Proofs
open Go.Shelf
def Tryz.laysM316_ren:Go.Shelf.Ren:=⟨fun|316=>66|n=>n,fun|9=>9|3=>3|4=>4|37=>117|0=>0|127=>158|5=>5|n=>n,fun|n=>n⟩
theorem Tryz.laysM316:Go.Proofs.LaysM.n316 Tryz.prog Tryz.laysM316_ren:={
 mixed:=by kernel_rfl
 f316:=Tryz.func66.trans (congrArg some (by kernel_rfl))
 t0:=Tryz.underlying0
 a0:=Tryz.isAgg0
 z0:=Tryz.sizeOf0
 v0:=Tryz.zeroValue0
 t3:=Tryz.underlying3
 a3:=Tryz.isAgg3
 z3:=Tryz.sizeOf3
 v3:=Tryz.zeroValue3
 t4:=Tryz.underlying4
 a4:=Tryz.isAgg4
 z4:=Tryz.sizeOf4
 v4:=Tryz.zeroValue4
 t9:=Tryz.underlying9
 a9:=Tryz.isAgg9
 z9:=Tryz.sizeOf9
 v9:=Tryz.zeroValue9
 t37:=Tryz.underlying117
 a37:=Tryz.isAgg117
 z37:=Tryz.sizeOf117
 v37:=Tryz.zeroValue117
 t127:=Tryz.underlying158
 a127:=Tryz.isAgg158
 z127:=Tryz.sizeOf158
 v127:=Tryz.zeroValue158
 t5:=Tryz.underlying5
 a5:=Tryz.isAgg5
 z5:=Tryz.sizeOf5
 v5:=Tryz.zeroValue5
 i0:=by kernel_rfl
 i3:=by kernel_rfl
 i4:=by kernel_rfl
 i5:=by kernel_rfl
 i9:=by kernel_rfl
 i37:=by kernel_rfl
 i127:=by kernel_rfl }
def Tryz.lays197_ren:Go.Shelf.Ren:=⟨fun|197=>108|260=>110|n=>n,fun|9=>9|21=>21|3=>3|4=>4|5=>5|105=>187|119=>191|0=>0|46=>135|139=>194|138=>193|n=>n,fun|3=>0|4=>1|n=>n⟩
theorem Tryz.lays197:Go.Proofs.Lays.n197 Tryz.prog Tryz.lays197_ren:={
 mixed:=by kernel_rfl
 f197:=Tryz.func108.trans (congrArg some (by kernel_rfl))
 f260:=Tryz.func110.trans (congrArg some (by kernel_rfl))
 t0:=Tryz.underlying0
 a0:=Tryz.isAgg0
 z0:=Tryz.sizeOf0
 v0:=Tryz.zeroValue0
 t3:=Tryz.underlying3
 a3:=Tryz.isAgg3
 z3:=Tryz.sizeOf3
 v3:=Tryz.zeroValue3
 t4:=Tryz.underlying4
 a4:=Tryz.isAgg4
 z4:=Tryz.sizeOf4
 v4:=Tryz.zeroValue4
 t5:=Tryz.underlying5
 a5:=Tryz.isAgg5
 z5:=Tryz.sizeOf5
 v5:=Tryz.zeroValue5
 t9:=Tryz.underlying9
 a9:=Tryz.isAgg9
 z9:=Tryz.sizeOf9
 v9:=Tryz.zeroValue9
 t21:=Tryz.underlying21
 a21:=Tryz.isAgg21
 z21:=Tryz.sizeOf21
 v21:=Tryz.zeroValue21
 t46:=Tryz.underlying135
 a46:=Tryz.isAgg135
 z46:=Tryz.sizeOf135
 v46:=Tryz.zeroValue135
 t105:=Tryz.underlying187
 a105:=Tryz.isAgg187
 z105:=Tryz.sizeOf187
 v105:=Tryz.zeroValue187
 t119:=Tryz.underlying191
 a119:=Tryz.isAgg191
 z119:=Tryz.sizeOf191
 t138:=Tryz.underlying193
 a138:=Tryz.isAgg193
 z138:=Tryz.sizeOf193
 v138:=Tryz.zeroValue193
 t139:=Tryz.underlying194
 a139:=Tryz.isAgg194
 z139:=Tryz.sizeOf194
 v139:=Tryz.zeroValue194
 g3:=by kernel_rfl
 g4:=by kernel_rfl }
end Go.Proofs
namespace Go.Proofs.YtnedgkcejlhnbaaGreatDoor
open Go Go.Lib
def enc(rs:List Nat):List UInt8:=rs.flatMap fun r:Nat=>encodeRune (r:Int)
def rl(r:Nat):Nat:=(encodeRune (r:Int)).length
def fit:Nat→List Nat→List Nat
 | _,[]=>[]
 | n,r::rs=>if 100<n+rl r then [] else r::fit (n+rl r) rs
open Go.RowKit
variable (V:ByteArray→Bool) (Tabs:World→Prop)
end Go.Proofs.YtnedgkcejlhnbaaGreatDoor
namespace Go.Proofs
open Go.Shelf
def Tryz.lays161_ren:Go.Shelf.Ren:=⟨fun|161=>101|231=>103|227=>104|233=>105|235=>106|228=>107|197=>108|151=>109|260=>110|152=>111|137=>112|119=>113|224=>114|225=>115|217=>116|266=>117|n=>n,fun|9=>9|4=>4|3=>3|5=>5|117=>182|116=>181|0=>0|124=>185|105=>187|21=>21|119=>191|46=>135|139=>194|138=>193|n=>n,fun|3=>0|4=>1|n=>n⟩
theorem Tryz.lays161:Go.Proofs.Lays.n161 Tryz.prog Tryz.lays161_ren:={
 mixed:=by kernel_rfl
 f119:=Tryz.func113.trans (congrArg some (by kernel_rfl))
 f137:=Tryz.func112.trans (congrArg some (by kernel_rfl))
 f151:=Tryz.func109.trans (congrArg some (by kernel_rfl))
 f152:=Tryz.func111.trans (congrArg some (by kernel_rfl))
 f161:=Tryz.func101.trans (congrArg some (by kernel_rfl))
 f197:=Tryz.func108.trans (congrArg some (by kernel_rfl))
 f217:=Tryz.func116.trans (congrArg some (by kernel_rfl))
 f224:=Tryz.func114.trans (congrArg some (by kernel_rfl))
 f225:=Tryz.func115.trans (congrArg some (by kernel_rfl))
 f227:=Tryz.func104.trans (congrArg some (by kernel_rfl))
 f228:=Tryz.func107.trans (congrArg some (by kernel_rfl))
 f231:=Tryz.func103.trans (congrArg some (by kernel_rfl))
 f233:=Tryz.func105.trans (congrArg some (by kernel_rfl))
 f235:=Tryz.func106.trans (congrArg some (by kernel_rfl))
 f260:=Tryz.func110.trans (congrArg some (by kernel_rfl))
 f266:=Tryz.func117.trans (congrArg some (by kernel_rfl))
 t0:=Tryz.underlying0
 a0:=Tryz.isAgg0
 z0:=Tryz.sizeOf0
 v0:=Tryz.zeroValue0
 t3:=Tryz.underlying3
 a3:=Tryz.isAgg3
 z3:=Tryz.sizeOf3
 v3:=Tryz.zeroValue3
 t4:=Tryz.underlying4
 a4:=Tryz.isAgg4
 z4:=Tryz.sizeOf4
 v4:=Tryz.zeroValue4
 t5:=Tryz.underlying5
 a5:=Tryz.isAgg5
 z5:=Tryz.sizeOf5
 v5:=Tryz.zeroValue5
 t9:=Tryz.underlying9
 a9:=Tryz.isAgg9
 z9:=Tryz.sizeOf9
 v9:=Tryz.zeroValue9
 t21:=Tryz.underlying21
 a21:=Tryz.isAgg21
 z21:=Tryz.sizeOf21
 v21:=Tryz.zeroValue21
 t46:=Tryz.underlying135
 a46:=Tryz.isAgg135
 z46:=Tryz.sizeOf135
 v46:=Tryz.zeroValue135
 t105:=Tryz.underlying187
 a105:=Tryz.isAgg187
 z105:=Tryz.sizeOf187
 v105:=Tryz.zeroValue187
 t116:=Tryz.underlying181
 a116:=Tryz.isAgg181
 z116:=Tryz.sizeOf181
 t117:=Tryz.underlying182
 a117:=Tryz.isAgg182
 z117:=Tryz.sizeOf182
 v117:=Tryz.zeroValue182
 t119:=Tryz.underlying191
 a119:=Tryz.isAgg191
 z119:=Tryz.sizeOf191
 t124:=Tryz.underlying185
 a124:=Tryz.isAgg185
 z124:=Tryz.sizeOf185
 v124:=Tryz.zeroValue185
 t138:=Tryz.underlying193
 a138:=Tryz.isAgg193
 z138:=Tryz.sizeOf193
 v138:=Tryz.zeroValue193
 t139:=Tryz.underlying194
 a139:=Tryz.isAgg194
 z139:=Tryz.sizeOf194
 v139:=Tryz.zeroValue194
 g3:=by kernel_rfl
 g4:=by kernel_rfl }
end Go.Proofs
namespace Go.Proofs.YtnedgkcejlhnbaaGreatDoor
open Go.RowKit
def lead(p:UInt8→Bool):List UInt8→Nat
 | []=>0
 | c::l=>if p c then lead p l+1 else 0
theorem lead_le(p:UInt8→Bool):∀l,lead p l≤l.length
 | []=>Nat.le_refl _
 | c::l=>by unfold lead;split <;> simp;exact lead_le p l
theorem lead_iff(p:UInt8→Bool):∀(l:List UInt8),lead p l=l.length↔l.all p=true
 | []=>by simp [lead]
 | c::l=>by
  have:=lead_iff p l;unfold lead;cases hp:p c
  ·simp [hp]
  ·simp [hp,← this]
def lows:ByteArray:=⟨#[97,98,99,100,101,102,103,104,105,106,107,108,109,110,111,112,113,114,115,116,117,118,119,120,121,122]⟩
theorem lows_has(c:UInt8):lows.data.toList.contains c=isLow c:=by
 have h:∀n:Fin 256,lows.data.toList.contains (UInt8.ofNat n.val)=isLow (UInt8.ofNat n.val):=by decide
 have:=h ⟨c.toNat,c.toNat_lt⟩;rwa [show UInt8.ofNat c.toNat=c from UInt8.ofNat_toNat]at this
theorem trim_lead(cs:List UInt8):∀l:List UInt8,Lib.trimLeftS l cs=l.drop (lead (fun c=>cs.contains c) l)
 | []=>rfl
 | c::l=>by
  have ih:=trim_lead cs l;unfold Lib.trimLeftS at ih ⊢;unfold lead;rw [List.dropWhile_cons];cases h:cs.contains c
  ·simp
  ·simpa using ih
theorem lead_congr(p q:UInt8→Bool)(h:∀c,p c=q c)(l:List UInt8):lead p l=lead q l:=by rw [show p=q from funext h]
theorem two_beq(s t:ByteArray):(s.toList==t.toList)=decide (s=t):=by
 rw [Bool.eq_iff_iff,ByteArray.toList_eq,ByteArray.toList_eq];simp
 constructor
 ·intro h;exact ByteArray.ext h
 ·rintro rfl;rfl
theorem info256:(Tryz.prog.info? (Tryz.lays161_ren.t 116)).map (fun i=>(i.zero,i.size))=some (some (.agg (Array.replicate 256 (.bool false))),256):=by kernel_rfl
theorem leading_any(s cs:ByteArray)(w:World)(hs:s.size≤9223372036854775807)(hcs:cs.size<4294967281)(ha:cs.data.toList.all (fun b=>decide (b.toNat<128))=true):
  Calls Tryz.prog 98 #[.string s,.string cs] w fun e w'=>e = .returned (.string (s.extract 0 (lead (fun c=>cs.data.toList.contains c) s.data.toList)))∧Below w.heap.size w w':=by
 have cT:Calls Tryz.prog 101 #[.string s,.string cs] w fun e w'=>e = .returned (.string ⟨(Lib.trimLeftS s.data.toList cs.data.toList).toArray⟩)∧Below w.heap.size w w':=Any.strings_TrimLeft_laid Tryz.lays161 info256 s cs w hcs (ascii_of_all ha)
 have hle:=lead_le (fun c=>cs.data.toList.contains c) s.data.toList
 have hsz:(⟨(Lib.trimLeftS s.data.toList cs.data.toList).toArray⟩:ByteArray).size=s.size - lead (fun c=>cs.data.toList.contains c) s.data.toList:=by
  rw [trim_lead];show ((s.data.toList.drop _).toArray).size=_
  rw [List.size_toArray,List.length_drop,Array.length_toList];rfl
 generalize lead (fun c=>cs.data.toList.contains c) s.data.toList=k at hle hsz ⊢
 generalize (⟨(Lib.trimLeftS s.data.toList cs.data.toList).toArray⟩:ByteArray)=t at cT hsz;have hk:k≤s.size:=by simpa using hle
 have htz:(t.size:Int)≤(s.size:Int):=by omega
 have hkz:(s.size:Int) - (t.size:Int)=(k:Int):=by omega
 clear hle hcs ha;go_enter Tryz.func98,Tryz.ntmps98
 go_wp2_with fail
 refine cT.mono ?_;rintro e w1 ⟨rfl,hb⟩;go_wp2_with fail
 go_ret
 refine ⟨?_,hb⟩;show Ending.returned (Value.string (s.extract 0 (s.size - (s.size - k))))=_
 rw [show s.size - (s.size - k)=k by omega]
theorem isNm_no(l:List UInt8)(h:l=[116,114,117,101]∨l=[102,97,108,115,101]∨l=[97,110,100]∨l=[111,114]∨l=[110,111,116]):isNm l=false:=by unfold isNm;rw [if_pos h]
theorem isNm_yes(l:List UInt8)(h:¬(l=[116,114,117,101]∨l=[102,97,108,115,101]∨l=[97,110,100]∨l=[111,114]∨l=[110,111,116])):isNm l=(decide (1≤l.length∧l.length≤8) && l.all isLow):=by unfold isNm;rw [if_neg h]
theorem isName_any(s:ByteArray)(w:World)(hs:s.size≤9223372036854775807):
  Calls Tryz.prog 85 #[.string s] w fun e w'=>e = .returned (.bool (isNm s.data.toList))∧Below w.heap.size w w':=by
 have hlen:s.data.toList.length=s.size:=by simp
 by_cases hkw:s.data.toList=[116,114,117,101]∨s.data.toList=[102,97,108,115,101]∨s.data.toList=[97,110,100]∨s.data.toList=[111,114]∨s.data.toList=[110,111,116]
 ·rw [isNm_no _ hkw]
  clear hlen;have e:∀l,s.data.toList=l→s=⟨l.toArray⟩:=fun l h=>ByteArray.ext (Array.toList_inj.1 (by simpa using h))
  rcases hkw with h|h|h|h|h
  all_goals
   have:=e _ h;subst this;clear h e hs;go_enter Tryz.func85,Tryz.ntmps85
   go_wp2_with fail
   go_ret
   exact ⟨rfl,Below.refl _ _⟩
 ·rw [isNm_yes _ hkw,hlen]
  have b1:(s.toList==[116,114,117,101])=false:=by rw [beqL];simp;exact fun h=>hkw (.inl h)
  have b2:(s.toList==[102,97,108,115,101])=false:=by rw [beqL];simp;exact fun h=>hkw (.inr (.inl h))
  have b3:(s.toList==[97,110,100])=false:=by rw [beqL];simp;exact fun h=>hkw (.inr (.inr (.inl h)))
  have b4:(s.toList==[111,114])=false:=by rw [beqL];simp;exact fun h=>hkw (.inr (.inr (.inr (.inl h))))
  have b5:(s.toList==[110,111,116])=false:=by rw [beqL];simp;exact fun h=>hkw (.inr (.inr (.inr (.inr h))))
  clear hkw;by_cases h1:1≤s.size
  ·by_cases h2:s.size≤8
   ·have z1:(1:Int)≤(s.size:Int):=by omega
    have z2:(s.size:Int)≤8:=by omega
    have cL:=leading_any s lows w hs (by decide) (by decide)
    rw [lead_congr _ isLow lows_has]at cL;have hle:=lead_le isLow s.data.toList;have hiff:=lead_iff isLow s.data.toList;rw [hlen]at hle hiff;generalize s.data.toList.all isLow=g at hiff ⊢;generalize lead isLow s.data.toList=k at cL hle hiff;have hg:((s.extract 0 k).toList==s.toList)=g:=by
     rw [two_beq,Bool.eq_iff_iff,← hiff,decide_eq_true_eq];constructor
     ·intro h;have:=congrArg ByteArray.size h;simp at this;omega
     ·intro h;subst h;exact ByteArray.extract_zero_size
    generalize s.extract 0 k=t at cL hg;clear hiff hlen hle;rw [show (decide (1≤s.size∧s.size≤8) && g)=g by simp [h1,h2]]
    simp only [lows]at cL;have HG:Hid ((t.toList==s.toList)=g):=hg;clear hg;go_enter Tryz.func85,Tryz.ntmps85
    go_wp2_with (go_at_call 98;refine cL.mono ?_;rintro e w1 ⟨rfl,hb⟩)
    go_ret
    exact ⟨by rw [← HG.out];rfl,hb⟩
   ·have z1:(1:Int)≤(s.size:Int):=by omega
    have z2:¬(s.size:Int)≤8:=by omega
    rw [show (decide (1≤s.size∧s.size≤8) && s.data.toList.all isLow)=false by simp [h2]]
    clear hlen;go_enter Tryz.func85,Tryz.ntmps85
    go_wp2_with fail
    go_ret
    exact ⟨rfl,Below.refl _ _⟩
  ·have z1:¬(1:Int)≤(s.size:Int):=by omega
   rw [show (decide (1≤s.size∧s.size≤8) && s.data.toList.all isLow)=false by simp [h1]]
   clear hlen;go_enter Tryz.func85,Tryz.ntmps85
   go_wp2_with fail
   go_ret
   exact ⟨rfl,Below.refl _ _⟩
theorem empty_toList(s:ByteArray):s.toList.isEmpty=decide (s=⟨#[]⟩):=by
 rw [Bool.eq_iff_iff,ByteArray.toList_eq];simp
 constructor
 ·intro h;exact ByteArray.ext h
 ·rintro rfl;rfl
variable (Tabs:World→Prop) (B0:Nat)
structure PC(W:World)(b:Nat)(c:Nat):Prop where
 lt:b<W.heap.size
 cell:W.cell? ⟨b,0,none⟩=some (.int .i64 (c:Int))
 free:W.frozen? ⟨b,0,none⟩=false
theorem PC.keep{W W':World}{b c:Nat}(h:PC W b c){B:Nat}(hb:Below B W W')(hl:b<B):PC W' b c :=
 ⟨Nat.lt_of_lt_of_le h.lt hb.size,(hb.cell (p:=⟨b,0,none⟩) hl).trans h.cell,(hb.frozen (p:=⟨b,0,none⟩) hl).trans h.free⟩
theorem PC.al{W:World}{b c:Nat}(h:PC W b c)(o:Obj):PC (W.alloc o) b c:=h.keep ((Below.refl _ _).alloc (Nat.le_refl _) o) h.lt
theorem PC.set{W:World}{b c:Nat}(h:PC W b c)(k:Nat):PC (W.setCell ⟨b,0,none⟩ (.int .i64 (k:Int))) b k:=by
 refine ⟨by simpa using h.lt,?_,?_⟩
 ·exact World.cell?_setCell_same _ _ _ h.cell
 ·simpa using h.free
theorem ba_beq(s t:ByteArray):(s.toList==t.toList)=decide (s=t):=by
 rw [Bool.eq_iff_iff];simp;exact ⟨fun h=>ByteArray.ext (Array.toList_inj.1 (by rwa [ByteArray.toList_eq,ByteArray.toList_eq]at h)),fun h=>by rw [h]⟩
open Go.Deep Go.Joins Go.ChangeShapes Go.WideShapes
section
variable {H:Type} {enc:TypeId × Value→H} {W:World} {base:Nat} {spare:Nat→Bool} {held:Bool}
def NAt(W:World)(B:Nat)(vs:List Value)(an:OAd):Prop:=vs=[]∨∃b o,an=some ⟨b,o,none⟩∧b<B∧∀i (h:i<vs.length),W.cell? ⟨b,o+i,none⟩=some vs[i]
theorem cellsSt:Tryz.prog.cellsOf 9=1:=by kernel_rfl
end
structure Ty where
 kind:Int
 so:Int
 name:ByteArray
 labels:List ByteArray
 kids:List Ty
def sizeT:Ty→Nat
 | ⟨_,_,_,_,ks⟩=>1+(ks.map sizeT).sum
theorem sizeT_eq(t:Ty):sizeT t=1+(t.kids.map sizeT).sum:=by cases t;rw [sizeT]
theorem sizeT_kid{t k:Ty}(h:k∈t.kids):sizeT k<sizeT t:=by
 rw [sizeT_eq t];have:∀l:List Ty,k∈l→sizeT k≤(l.map sizeT).sum:=by
  intro l;induction l with
  | nil=>intro h;cases h
  | cons a l ih =>
   intro h;simp only [List.map_cons,List.sum_cons];rcases List.mem_cons.1 h with rfl|h
   ·omega
   ·have:=ih h;omega
 have:=this _ h;omega
theorem tyInd{P:Ty→Prop}(h:∀t,(∀k∈t.kids,P k)→P t):∀t,P t:=by
 have:∀n t,sizeT t≤n→P t:=by
  intro n;induction n with
  | zero=>intro t ht;have:=sizeT_eq t;omega
  | succ n ih=>intro t ht;exact h t (fun k hk=>ih k (by have:=sizeT_kid hk;omega))
 exact fun t=>this _ t (Nat.le_refl _)
structure TyAt(W:World)(b o:Nat)(t:Ty)(al:OAd)(cl:Nat)(ak:OAd)(ck:Nat):Prop where
 c0:W.cell? ⟨b,o,none⟩=some (.int .i64 t.kind)
 c1:W.cell? ⟨b,o+1,none⟩=some (.int .i64 t.so)
 c2:W.cell? ⟨b,o+2,none⟩=some (.string t.name)
 c3:W.cell? ⟨b,o+3,none⟩=some (.slice al t.labels.length cl)
 c4:W.cell? ⟨b,o+4,none⟩=some (.slice ak t.kids.length ck)
structure TyBd(t:Ty)(cl ck:Nat):Prop where
 name:t.name.size≤9223372036854775807
 labs:∀l∈t.labels,l.size≤9223372036854775807
 labels:t.labels.length≤cl
 cl:cl≤9223372036854775807
 kids:t.kids.length≤ck
 ck:ck≤9223372036854775807
abbrev LA(W:World)(B:Nat)(ls:List ByteArray)(al:OAd):Prop:=NAt W B (ls.map Value.string) al
def KT(W:World)(B:Nat):Nat→List Ty→OAd→Prop
 | 0,ks,_=>ks=[]
 | d+1,ks,ak=>ks=[]∨∃b o,ak=some ⟨b,o,none⟩∧b<B∧∀i (h:i<ks.length),∃al cl ak' ck',TyAt W b (o+i*5) ks[i] al cl ak' ck'∧TyBd ks[i] cl ck'∧LA W B ks[i].labels al∧KT W B d ks[i].kids ak'
theorem NAt.keep{W W':World}{B:Nat}{vs:List Value}{an:OAd}(hb:Below B W W')(h:NAt W B vs an):NAt W' B vs an :=
 h.imp id fun ⟨b,o,e,hl,hc⟩=>⟨b,o,e,hl,fun i hi=>(hb.cell (p:=⟨b,o+i,none⟩) hl).trans (hc i hi)⟩
theorem NAt.mono{W:World}{B B':Nat}{vs:List Value}{an:OAd}(hB:B≤B')(h:NAt W B vs an):NAt W B' vs an :=
 h.imp id fun ⟨b,o,e,hl,hc⟩=>⟨b,o,e,by omega,hc⟩
theorem TyAt.keep{W W':World}{B b o:Nat}{t:Ty}{al:OAd}{cl:Nat}{ak:OAd}{ck:Nat}(h:TyAt W b o t al cl ak ck)(hb:Below B W W')(hl:b<B):TyAt W' b o t al cl ak ck :=
 ⟨(hb.cell (p:=⟨b,o,none⟩) hl).trans h.c0,(hb.cell (p:=⟨b,o+1,none⟩) hl).trans h.c1,(hb.cell (p:=⟨b,o+2,none⟩) hl).trans h.c2,(hb.cell (p:=⟨b,o+3,none⟩) hl).trans h.c3,(hb.cell (p:=⟨b,o+4,none⟩) hl).trans h.c4⟩
theorem KT.keep{W W':World}{B:Nat}(hb:Below B W W'):∀ {d:Nat} {ks:List Ty} {ak:OAd},KT W B d ks ak→KT W' B d ks ak
 | 0,_,_,h=>h
 | d+1,ks,ak,h=>by
  rcases h with h|⟨b,o,rfl,hl,h⟩
  ·exact .inl h
  ·exact .inr ⟨b,o,rfl,hl,fun i hi=>by
    obtain ⟨al,cl,ak',ck',h1,h2,h3,h4⟩:=h i hi;exact ⟨al,cl,ak',ck',h1.keep hb hl,h2,NAt.keep hb h3,KT.keep hb h4⟩⟩
theorem KT.mono{W:World}{B B':Nat}(hB:B≤B'):∀ {d:Nat} {ks:List Ty} {ak:OAd},KT W B d ks ak→KT W B' d ks ak
 | 0,_,_,h=>h
 | d+1,ks,ak,h=>by
  rcases h with h|⟨b,o,rfl,hl,h⟩
  ·exact .inl h
  ·exact .inr ⟨b,o,rfl,by omega,fun i hi=>by
    obtain ⟨al,cl,ak',ck',h1,h2,h3,h4⟩:=h i hi;exact ⟨al,cl,ak',ck',h1,h2,NAt.mono hB h3,KT.mono hB h4⟩⟩
theorem KT.up{W:World}{B:Nat}:∀ {d e:Nat} {ks:List Ty} {ak:OAd},d≤e→KT W B d ks ak→KT W B e ks ak
 | 0,0,_,_,_,h=>h
 | 0,e+1,_,_,_,h=>.inl h
 | d+1,0,_,_,hd,_=>by omega
 | d+1,e+1,ks,ak,hd,h=>by
  rcases h with h|⟨b,o,rfl,hl,h⟩
  ·exact .inl h
  ·exact .inr ⟨b,o,rfl,hl,fun i hi=>by
    obtain ⟨al,cl,ak',ck',h1,h2,h3,h4⟩:=h i hi;exact ⟨al,cl,ak',ck',h1,h2,h3,KT.up (by omega) h4⟩⟩
def tyVal(t:Ty)(al:OAd)(cl:Nat)(ak:OAd)(ck:Nat):Value:=.agg #[.int .i64 t.kind,.int .i64 t.so,.string t.name,.slice al t.labels.length cl,.slice ak t.kids.length ck]
section
variable {H:Type} {enc:TypeId × Value→H} {W:World} {base:Nat} {spare:Nat→Bool} {held:Bool}
theorem cellsT:Tryz.prog.cellsOf 25=5:=by kernel_rfl
theorem openLabs(fuel:Nat)(v:Value)(y:DataW H × List MemPlace)(h:DataW.trod enc Tryz.prog W base spare held fuel 22 [v]=some y):
  ∃(ls:List ByteArray) (al:OAd) (cl:Nat),v = .slice al ls.length cl∧(∀l∈ls,l.size≤9223372036854775807)∧ls.length≤cl∧cl≤9223372036854775807∧LA W W.heap.size ls al:=by
 rcases DataW.trod_slice Tryz.underlying22 h with ⟨e5,_⟩|⟨a,len,cap,elems,rest,k,hk,e5,hx,hb,hlc,hcm,hle,hel,_,_⟩
 ·simp at e5
  subst e5;exact ⟨[],none,0,rfl,fun l hl=>(by cases hl),Nat.le_refl _,by omega,.inl rfl⟩
 ·simp at e5
  subst e5;rw [cellsSt]at hel;unfold maxLen at hcm;have hall:∀i,i<len→∃s:ByteArray,W.cells? base (a.add (i*1)) 1=some [.string s]∧s.size≤9223372036854775807:=by
   intro i hi;have q:=hel i hi;rw [List.getElem?_eq_getElem (by omega)]at q
   obtain ⟨cs',q1,q2⟩:=Option.bind_eq_some_iff.1 q;obtain ⟨s,e1,_,ws⟩:=DataW.trod_string Tryz.underlying9 q2;subst e1;unfold maxLen at ws;exact ⟨s,q1,by omega⟩
  haveI:Inhabited ByteArray:=⟨⟨#[]⟩⟩
  obtain ⟨f,hf⟩:=choose_lt hall;refine ⟨(List.range len).map f,some a,cap,by simp,?_,by simpa using hlc,by omega,?_⟩
  ·intro l hl
   obtain ⟨i,hi,rfl⟩:=List.mem_map.1 hl;exact (hf i (by simpa using hi)).2
  by_cases hl0:len=0
  ·exact .inl (by simp [hl0])
  ·have q2:=(World.cells?_some (hf 0 (by omega)).1).2.2 0 (by omega)
   obtain ⟨b,o,spot⟩:=a;have hsp:spot=none:=by simpa [Addr.add] using World.cell?_spot q2
   subst hsp;have hcell:∀i,i<len→W.cell? ⟨b,o+i,none⟩=some (Value.string (f i)):=by
    intro i hi;have:=(World.cells?_some (hf i hi).1).2.2 0 (by omega)
    rw [add_add,Go.WideShapes.add_plain]at this;simpa using this
   refine .inr ⟨b,o,rfl,lt_of_cell ((hcell 0 (by omega)).trans rfl),fun i hi=>?_⟩
   have hi':i<len:=by simpa using hi
   rw [hcell i hi'];simp
theorem openCellsT:∀(fuel:Nat) (cs:List Value) (y:DataW H × List MemPlace),DataW.trod enc Tryz.prog W base spare held fuel 25 cs=some y →
  ∃(t:Ty) (al:OAd) (cl:Nat) (ak:OAd) (ck:Nat),cs=[.int .i64 t.kind,.int .i64 t.so,.string t.name,.slice al t.labels.length cl,.slice ak t.kids.length ck]∧TyBd t cl ck∧LA W W.heap.size t.labels al∧KT W W.heap.size fuel t.kids ak:=by
 intro fuel;induction fuel using Nat.strongRecOn with
 | _ fuel ih =>
  intro cs y h;obtain ⟨xs,n,rfl,hy,hlen,hxs,hf⟩:=DataW.trod_struct Tryz.underlying25 h;have h0:DataW.trod enc Tryz.prog W base spare held n 3 (List.take 1 (List.drop 0 cs))=xs[0]?:=hf 0 _ rfl;have h1:DataW.trod enc Tryz.prog W base spare held n 3 (List.take 1 (List.drop 1 cs))=xs[1]?:=hf 1 _ rfl;have h2:DataW.trod enc Tryz.prog W base spare held n 9 (List.take 1 (List.drop 2 cs))=xs[2]?:=hf 2 _ rfl;have h3:DataW.trod enc Tryz.prog W base spare held n 22 (List.take 1 (List.drop 3 cs))=xs[3]?:=hf 3 _ rfl;have h4:DataW.trod enc Tryz.prog W base spare held n 23 (List.take 1 (List.drop 4 cs))=xs[4]?:=hf 4 _ rfl;clear hf hy;rw [cellsT]at hlen;match cs,hlen with
  | [a0,a1,a2,a3,a4],_ =>
  match xs,hxs with
  | [x0,x1,x2,x3,x4],_ =>
  simp at h0 h1 h2 h3 h4;obtain ⟨kd,e0,_,_⟩:=DataW.trod_int Tryz.underlying3 h0;obtain ⟨so,e1,_,_⟩:=DataW.trod_int Tryz.underlying3 h1;obtain ⟨nm,e2,_,wn⟩:=DataW.trod_string Tryz.underlying9 h2;obtain ⟨ls,al,cl,rfl,hls,hlc1,hlc2,hla⟩:=openLabs n _ _ h3;simp at e0 e1 e2;subst e0 e1 e2;unfold maxLen at wn;rcases DataW.trod_slice Tryz.underlying23 h4 with ⟨e5,_⟩|⟨a,len,cap,elems,rest,k,hk,e5,_,hb,hlc,hcm,hle,hel,_,_⟩
  ·simp at e5
   subst e5;exact ⟨⟨kd,so,nm,ls,[]⟩,al,cl,none,0,rfl,⟨by simpa using wn,hls,hlc1,hlc2,by simp,by omega⟩,hla,.inl rfl⟩
  ·simp at e5
   subst e5;rw [cellsT]at hel;unfold maxLen at hcm;have hall:∀i,i<len→∃p:Ty × OAd × Nat × OAd × Nat,W.cells? base (a.add (i*5)) 5=some [.int .i64 p.1.kind,.int .i64 p.1.so,.string p.1.name,.slice p.2.1 p.1.labels.length p.2.2.1,.slice p.2.2.2.1 p.1.kids.length p.2.2.2.2]∧TyBd p.1 p.2.2.1 p.2.2.2.2∧LA W W.heap.size p.1.labels p.2.1∧KT W W.heap.size k p.1.kids p.2.2.2.1:=by
    intro i hi;have q:=hel i hi;rw [List.getElem?_eq_getElem (by omega)]at q
    obtain ⟨cs',q1,q2⟩:=Option.bind_eq_some_iff.1 q;obtain ⟨t,al',cl',ak',ck',rfl,hb',hl',hk'⟩:=ih k (by omega) cs' _ q2
    exact ⟨(t,al',cl',ak',ck'),q1,hb',hl',hk'⟩
   haveI:Inhabited (Ty × OAd × Nat × OAd × Nat):=⟨(⟨0,0,⟨#[]⟩,[],[]⟩,none,0,none,0)⟩
   obtain ⟨f,hf⟩:=choose_lt hall;refine ⟨⟨kd,so,nm,ls,(List.range len).map fun i=>(f i).1⟩,al,cl,some a,cap,by simp,⟨by simpa using wn,hls,hlc1,hlc2,by simpa using hlc,hcm⟩,hla,?_⟩
   obtain ⟨n',rfl⟩:∃n',n=n'+1:=⟨n - 1,by omega⟩
   by_cases hl0:len=0
   ·exact .inl (by simp [hl0])
   ·obtain ⟨q1,_,_⟩:=hf 0 (by omega)
    have q2:=(World.cells?_some q1).2.2 0 (by omega)
    obtain ⟨b,o,spot⟩:=a;have hsp:spot=none:=by simpa [Addr.add] using World.cell?_spot q2
    subst hsp;have hcell:∀i j,i<len→j<5→W.cell? ⟨b,o+i*5+j,none⟩=[Value.int .i64 (f i).1.kind,.int .i64 (f i).1.so,.string (f i).1.name,.slice (f i).2.1 (f i).1.labels.length (f i).2.2.1,.slice (f i).2.2.2.1 (f i).1.kids.length (f i).2.2.2.2][j]?:=by
     intro i j hi hj;obtain ⟨q1,_,_⟩:=hf i hi;have:=(World.cells?_some q1).2.2 j hj;rw [add_add,Go.WideShapes.add_plain]at this;rw [Nat.add_assoc];exact this
    refine .inr ⟨b,o,rfl,lt_of_cell ((hcell 0 0 (by omega) (by omega)).trans rfl),fun i hi=>?_⟩
    have hi':i<len:=by simpa using hi
    have e:((List.range len).map fun i=>(f i).1)[i]=(f i).1:=by simp
    simp only [e];exact ⟨(f i).2.1,(f i).2.2.1,(f i).2.2.2.1,(f i).2.2.2.2,⟨(hcell i 0 hi' (by omega)).trans rfl,(hcell i 1 hi' (by omega)).trans rfl,(hcell i 2 hi' (by omega)).trans rfl,(hcell i 3 hi' (by omega)).trans rfl,(hcell i 4 hi' (by omega)).trans rfl⟩,(hf i hi').2.1,(hf i hi').2.2.1,KT.up (by omega) (hf i hi').2.2.2⟩
theorem openType{r:Reach}{b0:Nat}{v:Value}{d:DataW H}{p:List MemPlace}(hv:Value.okWide Tryz.prog W r b0 25 v)(h:DataW.Trod enc Tryz.prog W base spare held 25 v d p):
  ∃(t:Ty) (al:OAd) (cl:Nat) (ak:OAd) (ck dp:Nat),v=tyVal t al cl ak ck∧TyBd t cl ck∧LA W W.heap.size t.labels al∧KT W W.heap.size dp t.kids ak:=by
 obtain ⟨cs,rfl,hsz⟩:=okWide_struct Tryz.underlying25 hv;obtain ⟨fuel,hf⟩:=h;obtain ⟨t,al,cl,ak,ck,e,h1,h2,h3⟩:=openCellsT fuel _ _ hf;refine ⟨t,al,cl,ak,ck,fuel,?_,h1,h2,h3⟩;unfold tyVal;congr 1
 apply Array.toList_inj.1
 simpa [Value.cells] using e
end
end Go.Proofs.YtnedgkcejlhnbaaGreatDoor
