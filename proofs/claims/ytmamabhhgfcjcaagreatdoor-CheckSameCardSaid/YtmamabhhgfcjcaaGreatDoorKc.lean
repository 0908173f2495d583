/-
  append of a row that a call owns onto another one, nil or not: at a walk's step, and at a step of a region that draws its order.
-/
import Derived.Deep.AppendLies
import Derived.Laws.AppendOwnNone
import Derived.Laws.OwnMore
import Derived.Shelf.Sort.Plain
import Derived.Shelf.Slices.In.CompactS
import Derived.Shelf.Slices.In.SortNone
import Derived.Shelf.Slices.Turned
import Derived.Sort.EncStr
import Derived.Test.YtmamabhhgfcjcaaGreatDoorKb
import Derived.Deep.DeepCutAuto
set_option maxHeartbeats 400000
namespace Go.Proofs.YtmamabhhgfcjcaaGreatDoor
open Go.RowKit
theorem own_cells{w:World}{base:Nat}{e:TypeId}{size:Nat}{u:Value}{m:Nat}{ys:List Value}(h:w.ownsRow base e size u m ys):
  (u = .slice none 0 0∧m=0∧ys=[])∨∃g cap,u = .slice (some ⟨g,0,none⟩) m cap∧base≤g∧g<w.heap.size∧∀j y,ys[j]? = some y→w.cell? ⟨g,j,none⟩=some y:=by
 obtain ⟨hl,h|⟨g,cap,cur,rfl,hb,hg,h1,h2,h3,h4⟩⟩:=h
 ·obtain ⟨rfl,rfl⟩:=h
  exact .inl ⟨rfl,rfl,List.eq_nil_of_length_eq_zero (by simpa using hl)⟩
 ·refine .inr ⟨g,cap,rfl,hb,?_,fun j y hy=>?_⟩
  ·rcases Nat.lt_or_ge g w.heap.size with hlt|hge
   ·exact hlt
   ·rw [Array.getElem?_eq_none hge]at hg;cases hg
  ·have:=cell_of_row w g j cur e (0,0) hg
   rw [this,← Array.getElem?_toList];rw [← h4]at hy;rw [List.getElem?_take]at hy;split at hy
   ·exact hy
   ·cases hy
theorem run_append_rows{P:Program}(w:World)(t ty e:TypeId)(base base2:Nat)(i:TypeInfo)(z:Value)(size bytes:Nat)(ht:P.underlying t=some (.slice e))(hi:P.info? e=some i)(hz:i.zero=some z)
  (hsize:i.size=size) (hby:i.bytes=bytes) (hzs:z.cells.size=size) (hsz:0<size)
  (v:Value) (n:Nat) (xs:List Value) (hown:w.ownsRow base e size v n xs) (u:Value) (m:Nat) (ys:List Value) (hu:w.ownsRow base2 e size u m ys)
  (h1:∀y∈ys,y.oneCell'=true) (h63:n+m≤maxLen) (hbytes:(n+m)*bytes≤140737488355328) (hbase:base≤w.heap.size) :
  ∃v' w',(Builtin.append_ #[t,t] ty #[v,u]).run P w = .ok v' w'∧w'.ownsRow base e size v' (n+m) (xs++ys)∧w.grownBy w' v.ownBlock∧(v'.ownBlock=v.ownBlock∨v'.ownBlock=some w.heap.size):=by
 rcases own_cells hu with ⟨rfl,rfl,rfl⟩|⟨g,cap,rfl,_,_,hc⟩
 ·have hrun:=run_append_owned_none (P:=P) (w:=w) base t ty e i size ht hi v n xs hown
  refine ⟨v,w,hrun,by simpa using hown,World.grownBy.refl _ _,.inl rfl⟩
 ·obtain ⟨v',w',hr,h2,h3,_,h5⟩:=run_append_own_at (P:=P) w base t ty e i z size bytes ht hi hz hsize hby hzs hsz v n xs hown ⟨g,0,none⟩ m cap ys hu.1
   (fun j y hy=>by
    have e:(⟨g,0,none⟩:Addr).add j=⟨g,j,none⟩:=by unfold Addr.add;split <;> simp_all
    rw [e];exact hc j y hy) h1 h63 hbytes hbase
  exact ⟨v',w',hr,h2,h3,h5⟩
theorem wp_append_rows{P:Program}(w:World){o:Oper}{a:Act}{K:Act→World→Prop}{Q:Exit→Act→World→Prop}(s x:Operand)(t:TypeId)
  (ho:o.op = .call { callee:=.builtin .append,args:=#[s,x],argTypes:=#[t,t] })
  (base base2:Nat) (e:TypeId) (i:TypeInfo) (z:Value) (size bytes:Nat) (ht:P.underlying t=some (.slice e)) (hi:P.info? e=some i) (hz:i.zero=some z)
  (hsize:i.size=size) (hby:i.bytes=bytes) (hzs:z.cells.size=size) (hsz:0<size)
  (v:Value) (n:Nat) (xs:List Value) (hs:a.eval s=v) (hown:w.ownsRow base e size v n xs) (u:Value) (m:Nat) (ys:List Value) (hx:a.eval x=u) (hu:w.ownsRow base2 e size u m ys)
  (h1:∀y∈ys,y.oneCell'=true) (h63:n+m≤maxLen) (hbytes:(n+m)*bytes≤140737488355328) (hbase:base≤w.heap.size)
  (h:∀v' w',w'.ownsRow base e size v' (n+m) (xs++ys)→w.grownBy w' v.ownBlock→(v'.ownBlock=v.ownBlock∨v'.ownBlock=some w.heap.size)→K (a.put o.dst v') w'):o.wp P a w K Q:=by
 obtain ⟨v',w',hr,h2,h3,h4⟩:=run_append_rows (P:=P) w t o.type e base base2 i z size bytes ht hi hz hsize hby hzs hsz v n xs hown u m ys hu h1 h63 hbytes hbase;unfold Oper.wp execOp;simp only [ho,resolve,invoke,builtin,Sem.run_bind,Sem.run_pure,Result.andThen_ok,List.map_toArray,List.map_cons,List.map_nil,hs,hx,hr];exact h v' w' h2 h3 h4
theorem wpList_append_rows{P:Program}(w:World){ops:Array Oper}{rest:List Oper}{o:Oper}{a:Act}{Q:Exit→Act→World→Prop}(hgd:o.guard=none)(s x:Operand)(t:TypeId)
  (ho:o.op = .call { callee:=.builtin .append,args:=#[s,x],argTypes:=#[t,t] })
  (base base2:Nat) (e:TypeId) (i:TypeInfo) (z:Value) (size bytes:Nat) (ht:P.underlying t=some (.slice e)) (hi:P.info? e=some i) (hz:i.zero=some z)
  (hsize:i.size=size) (hby:i.bytes=bytes) (hzs:z.cells.size=size) (hsz:0<size)
  (v:Value) (n:Nat) (xs:List Value) (hs:a.eval s=v) (hown:w.ownsRow base e size v n xs) (u:Value) (m:Nat) (ys:List Value) (hx:a.eval x=u) (hu:w.ownsRow base2 e size u m ys)
  (h1:∀y∈ys,y.oneCell'=true) (h63:n+m≤maxLen) (hbytes:(n+m)*bytes≤140737488355328) (hbase:base≤w.heap.size)
  (h:∀v' w',w'.ownsRow base e size v' (n+m) (xs++ys)→w.grownBy w' v.ownBlock→(v'.ownBlock=v.ownBlock∨v'.ownBlock=some w.heap.size)→wpList P ops Q rest (a.put o.dst v') w'):wpList P ops Q (o::rest) a w :=
 wpList_plain hgd fun _ hK=>wp_append_rows w s x t ho base base2 e i z size bytes ht hi hz hsize hby hzs hsz v n xs hs hown u m ys hx hu h1 h63 hbytes hbase fun v' w' h2 h3 h4=>hK _ _ (h v' w' h2 h3 h4)
theorem step_append_rows{P:Program}(w:World){ops:Array Oper}{o:Oper}{a:Act}{K:Act→World→Prop}{Q:Exit→Act→World→Prop}{E:Prop}(hgd:o.guard=none)(s x:Operand)(t:TypeId)
  (ho:o.op = .call { callee:=.builtin .append,args:=#[s,x],argTypes:=#[t,t] })
  (base base2:Nat) (e:TypeId) (i:TypeInfo) (z:Value) (size bytes:Nat) (ht:P.underlying t=some (.slice e)) (hi:P.info? e=some i) (hz:i.zero=some z)
  (hsize:i.size=size) (hby:i.bytes=bytes) (hzs:z.cells.size=size) (hsz:0<size)
  (v:Value) (n:Nat) (xs:List Value) (hs:a.eval s=v) (hown:w.ownsRow base e size v n xs) (u:Value) (m:Nat) (ys:List Value) (hx:a.eval x=u) (hu:w.ownsRow base2 e size u m ys)
  (h1:∀y∈ys,y.oneCell'=true) (h63:n+m≤maxLen) (hbytes:(n+m)*bytes≤140737488355328) (hbase:base≤w.heap.size)
  (h:∀v' w',w'.ownsRow base e size v' (n+m) (xs++ys)→w.grownBy w' v.ownBlock→(v'.ownBlock=v.ownBlock∨v'.ownBlock=some w.heap.size)→K (a.put o.dst v') w') :
  if Region.wanted o (yielded ops a.tmps)=true then Oper.wp P o a w K Q else E:=by
 have hw:Region.wanted o (yielded ops a.tmps)=true:=by simp [Region.wanted,hgd]
 rw [if_pos hw];exact wp_append_rows w s x t ho base base2 e i z size bytes ht hi hz hsize hby hzs hsz v n xs hs hown u m ys hx hu h1 h63 hbytes hbase h
end Go.Proofs.YtmamabhhgfcjcaaGreatDoor
namespace Go.Proofs
open Go.Shelf
def Tryz.lays190_ren:Go.Shelf.Ren:=⟨fun|190=>123|125=>137|258=>136|128=>160|129=>161|302=>151|303=>152|304=>153|305=>154|306=>155|307=>156|308=>157|309=>158|310=>159|333=>176|329=>177|330=>178|334=>179|335=>180|336=>181|344=>189|n=>n,fun|31=>28|9=>9|3=>3|46=>203|0=>0|51=>223|53=>225|4=>4|183=>216|182=>215|131=>157|5=>5|218=>247|222=>76|228=>256|229=>236|n=>n,fun|n=>n⟩
theorem Tryz.lays190:Go.Proofs.Lays.n190 Tryz.prog Tryz.lays190_ren:={
 mixed:=by kernel_rfl
 f125:=Tryz.func137.trans (congrArg some (by kernel_rfl))
 f128:=Tryz.func160.trans (congrArg some (by kernel_rfl))
 f129:=Tryz.func161.trans (congrArg some (by kernel_rfl))
 f190:=Tryz.func123.trans (congrArg some (by kernel_rfl))
 f258:=Tryz.func136.trans (congrArg some (by kernel_rfl))
 f302:=Tryz.func151.trans (congrArg some (by kernel_rfl))
 f303:=Tryz.func152.trans (congrArg some (by kernel_rfl))
 f304:=Tryz.func153.trans (congrArg some (by kernel_rfl))
 f305:=Tryz.func154.trans (congrArg some (by kernel_rfl))
 f306:=Tryz.func155.trans (congrArg some (by kernel_rfl))
 f307:=Tryz.func156.trans (congrArg some (by kernel_rfl))
 f308:=Tryz.func157.trans (congrArg some (by kernel_rfl))
 f309:=Tryz.func158.trans (congrArg some (by kernel_rfl))
 f310:=Tryz.func159.trans (congrArg some (by kernel_rfl))
 f329:=Tryz.func177.trans (congrArg some (by kernel_rfl))
 f330:=Tryz.func178.trans (congrArg some (by kernel_rfl))
 f333:=Tryz.func176.trans (congrArg some (by kernel_rfl))
 f334:=Tryz.func179.trans (congrArg some (by kernel_rfl))
 f335:=Tryz.func180.trans (congrArg some (by kernel_rfl))
 f336:=Tryz.func181.trans (congrArg some (by kernel_rfl))
 f344:=Tryz.func189.trans (congrArg some (by kernel_rfl))
 t0:=Tryz.underlying0
 a0:=Tryz.isAgg0
 z0:=Tryz.sizeOf0
 v0:=Tryz.zeroValue0
 t3:=Tryz.underlying3
 a3:=Tryz.isAgg3
 z3:=Tryz.sizeOf3
 v3:=Tryz.zeroValue3
 t4:=Tryz.underlying4
 a4:=Tryz.isAgg4
 z4:=Tryz.sizeOf4
 v4:=Tryz.zeroValue4
 t5:=Tryz.underlying5
 a5:=Tryz.isAgg5
 z5:=Tryz.sizeOf5
 v5:=Tryz.zeroValue5
 t9:=Tryz.underlying9
 a9:=Tryz.isAgg9
 z9:=Tryz.sizeOf9
 v9:=Tryz.zeroValue9
 t31:=Tryz.underlying28
 a31:=Tryz.isAgg28
 z31:=Tryz.sizeOf28
 v31:=Tryz.zeroValue28
 t46:=Tryz.underlying203
 a46:=Tryz.isAgg203
 z46:=Tryz.sizeOf203
 v46:=Tryz.zeroValue203
 t51:=Tryz.underlying223
 a51:=Tryz.isAgg223
 z51:=Tryz.sizeOf223
 v51:=Tryz.zeroValue223
 t53:=Tryz.underlying225
 a53:=Tryz.isAgg225
 z53:=Tryz.sizeOf225
 v53:=Tryz.zeroValue225
 t131:=Tryz.underlying157
 a131:=Tryz.isAgg157
 z131:=Tryz.sizeOf157
 v131:=Tryz.zeroValue157
 t182:=Tryz.underlying215
 a182:=Tryz.isAgg215
 z182:=Tryz.sizeOf215
 v182:=Tryz.zeroValue215
 t183:=Tryz.underlying216
 a183:=Tryz.isAgg216
 z183:=Tryz.sizeOf216
 v183:=Tryz.zeroValue216
 t218:=Tryz.underlying247
 a218:=Tryz.isAgg247
 z218:=Tryz.sizeOf247
 v218:=Tryz.zeroValue247
 t222:=Tryz.underlying76
 a222:=Tryz.isAgg76
 z222:=Tryz.sizeOf76
 v222:=Tryz.zeroValue76
 t228:=Tryz.underlying256
 a228:=Tryz.isAgg256
 z228:=Tryz.sizeOf256
 v228:=Tryz.zeroValue256
 t229:=Tryz.underlying236
 a229:=Tryz.isAgg236
 z229:=Tryz.sizeOf236
 v229:=Tryz.zeroValue236 }
def Tryz.lays194_ren:Go.Shelf.Ren:=⟨fun|194=>124|n=>n,fun|31=>28|9=>9|3=>3|4=>4|0=>0|n=>n,fun|n=>n⟩
theorem Tryz.lays194:Go.Proofs.Lays.n194 Tryz.prog Tryz.lays194_ren:={
 mixed:=by kernel_rfl
 f194:=Tryz.func124.trans (congrArg some (by kernel_rfl))
 t0:=Tryz.underlying0
 a0:=Tryz.isAgg0
 z0:=Tryz.sizeOf0
 v0:=Tryz.zeroValue0
 t3:=Tryz.underlying3
 a3:=Tryz.isAgg3
 z3:=Tryz.sizeOf3
 v3:=Tryz.zeroValue3
 t4:=Tryz.underlying4
 a4:=Tryz.isAgg4
 z4:=Tryz.sizeOf4
 v4:=Tryz.zeroValue4
 t9:=Tryz.underlying9
 a9:=Tryz.isAgg9
 z9:=Tryz.sizeOf9
 v9:=Tryz.zeroValue9
 t31:=Tryz.underlying28
 a31:=Tryz.isAgg28
 z31:=Tryz.sizeOf28
 v31:=Tryz.zeroValue28 }
def Tryz.lays110_ren:Go.Shelf.Ren:=⟨fun|110=>61|109=>64|n=>n,fun|31=>28|9=>9|4=>4|3=>3|0=>0|n=>n,fun|n=>n⟩
theorem Tryz.lays110:Go.Proofs.Lays.n110 Tryz.prog Tryz.lays110_ren:={
 mixed:=by kernel_rfl
 f109:=Tryz.func64.trans (congrArg some (by kernel_rfl))
 f110:=Tryz.func61.trans (congrArg some (by kernel_rfl))
 t0:=Tryz.underlying0
 a0:=Tryz.isAgg0
 z0:=Tryz.sizeOf0
 v0:=Tryz.zeroValue0
 t3:=Tryz.underlying3
 a3:=Tryz.isAgg3
 z3:=Tryz.sizeOf3
 v3:=Tryz.zeroValue3
 t4:=Tryz.underlying4
 a4:=Tryz.isAgg4
 z4:=Tryz.sizeOf4
 v4:=Tryz.zeroValue4
 t9:=Tryz.underlying9
 a9:=Tryz.isAgg9
 z9:=Tryz.sizeOf9
 v9:=Tryz.zeroValue9
 t31:=Tryz.underlying28
 a31:=Tryz.isAgg28
 z31:=Tryz.sizeOf28
 v31:=Tryz.zeroValue28 }
end Go.Proofs
namespace Go.Proofs.YtmamabhhgfcjcaaGreatDoor
open Go.RowKit Go.Sort
theorem cell_lt{w:World}{a:Addr}{v:Value}(h:w.cell? a=some v):a.block<w.heap.size:=by
 rcases Nat.lt_or_ge a.block w.heap.size with h'|h'
 ·exact h'
 ·simp [World.cell?,Array.getElem?_eq_none h']at h
abbrev FR(pb:Nat)(w w':World):Prop:=w.grownBy w' (some pb)
theorem FR.of{pb:Nat}{w w':World}(h:Below w.heap.size w w'):FR pb w w':=⟨h.os,h.tape,h.output,h.size,fun k hk _=>h.block k hk⟩
theorem FR.trans{pb:Nat}{a b c:World}(h:FR pb a b)(k:FR pb b c):FR pb a c :=
 ⟨k.os.trans h.os,k.tape.trans h.tape,k.output.trans h.output,Nat.le_trans h.size k.size,fun i hi hn=>(k.block i (nL hi h.size) hn).trans (h.block i hi hn)⟩
theorem FR.set{pb:Nat}{w:World}(v:Value):FR pb w (w.setCell ⟨pb,0,none⟩ v) :=
 ⟨rfl,rfl,rfl,by simp,fun k _ hn=>Below.heap_setCell w _ v k (fun e=>hn (by rw [e]))⟩
theorem FR.al{pb:Nat}{w:World}(o:Obj):FR pb w (w.alloc o):=FR.of ((bR _ _).alloc (nR _) o)
theorem FR.below{pb:Nat}{w w':World}(h:FR pb w w')(hp:pb≤w.heap.size):Below pb w w' :=
 ⟨h.os,h.tape,h.output,h.size,fun k hk=>h.block k (by omega) (fun e=>by injection e with e;omega)⟩
theorem FR.cellO{pb:Nat}{w w':World}(h:FR pb w w'){b o:Nat}(hb:b<w.heap.size)(hn:b≠pb):w'.cell? ⟨b,o,none⟩=w.cell? ⟨b,o,none⟩ :=
 World.cell?_of_block (a:=⟨b,o,none⟩) (h.block b hb (fun e=>hn (by injection e)))
def AR(W:World)(pb:Nat)(ns:List ByteArray)(aa:OAd)(ca:Nat):Prop :=
 (ns=[]∧aa=none∧ca=0)∨(ns.length≤ca∧∃b o,aa=some ⟨b,o,none⟩∧b<W.heap.size∧b≠pb∧∀i (h:i<ns.length),W.cell? ⟨b,o+i,none⟩=some (.string ns[i]))
theorem AR.keep{W W':World}{pb:Nat}{ns:List ByteArray}{aa:OAd}{ca:Nat}(h:AR W pb ns aa ca)(hf:FR pb W W'):AR W' pb ns aa ca :=
 h.imp id fun ⟨hc,b,o,e,hl,hn,hcell⟩=>⟨hc,b,o,e,nL hl hf.size,hn,fun i hi=>(hf.cellO hl hn).trans (hcell i hi)⟩
theorem AR.clip{W:World}{pb:Nat}{ns:List ByteArray}{aa:OAd}{ca:Nat}(h:AR W pb ns aa ca):AR W pb ns aa ns.length:=by
 rcases h with ⟨rfl,rfl,_⟩|⟨_,h⟩
 ·exact .inl ⟨rfl,rfl,rfl⟩
 ·exact .inr ⟨nR _,h⟩
def hasN(ns:List ByteArray)(x:ByteArray):Bool:=ns.any (fun y=>decide (y=x))
theorem hasN_iff(ns:List ByteArray)(x:ByteArray):hasN ns x=true↔x∈ns:=by
 unfold hasN;rw [List.any_eq_true];constructor
 ·rintro ⟨y,hy,e⟩;rw [decide_eq_true_eq]at e;rw [← e];exact hy
 ·intro h;exact ⟨x,h,by simp⟩
theorem containsA_any(ns:List ByteArray)(x:ByteArray)(aa:OAd)(ca pb:Nat)(w:World)(h:AR w pb ns aa ca)(hl:ns.length≤60):
  Calls Tryz.prog 61 #[.slice aa ns.length ca,.string x] w fun e w'=>e = .returned (.bool (hasN ns x))∧w'=w:=by
 rcases h with ⟨rfl,rfl,rfl⟩|⟨_,b,o,rfl,_,_,hc⟩
 ·refine (Any.slices_Contains_string_empty Tryz.lays110 none 0 x w).mono fun e w' ⟨h1,h2⟩=>⟨?_,h2⟩
  rw [h1];rfl
 ·refine (Any.slices_Contains_string Tryz.lays110 b o ns.length ca ns x w (by simp) (by omega) ?_).mono fun e w' ⟨h1,h2⟩=>⟨?_,h2⟩
  ·intro j hj
   rw [hc j hj];simp [List.getD_eq_getElem?_getD,hj]
  ·rw [h1]
   congr 2
   rw [List.take_of_length_le (by simp)]
   rw [Bool.eq_iff_iff,Lib.containsS_iff,hasN_iff]
theorem clip_any(ns:List ByteArray)(aa:OAd)(ca pb:Nat)(w0 w:World)(h:AR w0 pb ns aa ca)(hl:ns.length≤60):
  Calls Tryz.prog 83 #[.slice aa ns.length ca] w fun e w'=>e = .returned (.slice aa ns.length ns.length)∧w'=w:=by
 have hz:(ns.length:Int)≤60:=by omega
 rcases h with ⟨rfl,rfl,rfl⟩|⟨hc,b,o,rfl,_,_,_⟩
 ·go_enter Tryz.func83,Tryz.ntmps83
  go_wp2_with fail
  go_ret
  exact ⟨rfl,rfl⟩
 ·have hcz:(ns.length:Int)≤(ca:Int):=by omega
  go_enter Tryz.func83,Tryz.ntmps83
  go_wp2_with fail
  go_ret
  exact ⟨rfl,rfl⟩
theorem infoSt:(Tryz.prog.info? 9).map (fun i=>(i.zero,i.size,i.bytes))=some (some (.string ⟨#[]⟩),1,16):=by kernel_rfl
theorem addj0(g j:Nat):(Addr.add ⟨g,0,none⟩ j)=⟨g,j,none⟩:=by unfold Addr.add;split <;> simp_all
theorem addjo(g o j:Nat):(Addr.add ⟨g,o,none⟩ j)=⟨g,o+j,none⟩:=by unfold Addr.add;split <;> simp_all
theorem run_append_name(w:World)(ty:TypeId)(ns:List ByteArray)(aa:OAd)(pb:Nat)(nm:ByteArray)(g c:Nat)(h:AR w pb ns aa ns.length)(hl:ns.length≤60)(hg:w.cell? ⟨g,0,none⟩=some (.string nm))(hpb:pb<w.heap.size):
  ∃aa' ca' w',(Builtin.append_ #[28,28] ty #[.slice aa ns.length ns.length,.slice (some ⟨g,0,none⟩) 1 c]).run Tryz.prog w = .ok (.slice aa' (ns.length+1) ca') w'∧AR w' pb (ns++[nm]) aa' ca'∧Below w.heap.size w w':=by
 obtain ⟨i,hi,hz0,hz1,hz2⟩:=info_parts infoSt;have hnews:∀j v,[Value.string nm][j]? = some v→w.cell? ((⟨g,0,none⟩:Addr).add j)=some v:=by
  intro j v hj;match j,hj with
  | 0,hj=>simp at hj;subst hj;rw [addj0];exact hg
  | j+1,hj=>simp at hj
 have hfin:∀(cap:Nat) (cs:List Value) (rest:Array Value),cs=(ns++[nm]).map Value.string→ns.length+1≤cap→AR (w.drew.alloc (.cells (cs.toArray++rest) 9)) pb (ns++[nm]) (some ⟨w.heap.size,0,none⟩) cap:=by
  intro cap cs rest hcs hcap;refine .inr ⟨by simpa using hcap,w.heap.size,0,rfl,by simp,by omega,fun k hk=>?_⟩
  have hk':k<cs.length:=by rw [hcs];simpa using hk
  have e1:(w.drew.alloc (.cells (cs.toArray++rest) 9)).cell? ⟨w.heap.size,0+k,none⟩=(cs.toArray++rest)[k]?:=by
   rw [Nat.zero_add];exact World.cell?_alloc_at _ _ _ _ rfl
  rw [e1,Array.getElem?_append_left (by simpa using hk')]
  simp only [List.getElem?_toArray];rw [List.getElem?_eq_getElem hk'];simp only [hcs,List.getElem_map]
 rcases h with ⟨rfl,rfl,_⟩|⟨_,b,o,rfl,_,_,hc⟩
 ·have hr:=run_append_nil (P:=Tryz.prog) w 28 ty 9 i _ Tryz.underlying28 hi hz0 ⟨g,0,none⟩ 1 c [.string nm] (by rw [hz1];rfl) hnews (by omega) (by omega) (by rw [hz2];omega)
  refine ⟨_,_,_,hr,?_,((bR _ _).drew).alloc (by simp) _⟩
  exact hfin _ [.string nm] _ rfl (grownCap_ge _ _ _ _)
 ·have hr:=run_append_grow (P:=Tryz.prog) w 28 ty 9 i _ Tryz.underlying28 hi hz0 ⟨b,o,none⟩ ns.length ns.length (ns.map Value.string) (by rw [hz1];simp) (fun j v hj=>by
    rw [addjo];by_cases hjl:j<ns.length
    ·rw [hc j hjl,← hj];simp [hjl]
    ·rw [List.getElem?_eq_none (by simp;omega)]at hj;cases hj) ⟨g,0,none⟩ 1 c [.string nm] (by rw [hz1];rfl) hnews (by omega) (by omega) (growslice_fits (by omega) (by rw [hz2];omega))
  refine ⟨_,_,_,hr,?_,((bR _ _).drew).alloc (by simp) _⟩
  have:=hfin (grownCap w (ns.length+1) ns.length 9) ((ns++[nm]).map Value.string) (Builtin.zeroCells (Value.string ⟨#[]⟩).cells (grownCap w (ns.length+1) ns.length 9 - (ns.length+1))) rfl (grownCap_ge _ _ _ _);simpa using this
theorem step_append_name(w:World){ops:Array Oper}{o:Oper}{a:Act}{K:Act→World→Prop}{Q:Exit→Act→World→Prop}{E:Prop}(hgd:o.guard=none)(s x:Operand)
  (ho:o.op = .call { callee:=.builtin .append,args:=#[s,x],argTypes:=#[28,28] })
  (ns:List ByteArray) (aa:OAd) (pb:Nat) (nm:ByteArray) (g c:Nat) (hs:a.eval s = .slice aa ns.length ns.length) (hx:a.eval x = .slice (some ⟨g,0,none⟩) 1 c)
  (h:AR w pb ns aa ns.length) (hl:ns.length≤60) (hg:w.cell? ⟨g,0,none⟩=some (.string nm)) (hpb:pb<w.heap.size)
  (hK:∀aa' ca' w',AR w' pb (ns++[nm]) aa' ca'→Below w.heap.size w w'→K (a.put o.dst (.slice aa' (ns.length+1) ca')) w') :
  if Region.wanted o (yielded ops a.tmps)=true then Oper.wp Tryz.prog o a w K Q else E:=by
 have hw:Region.wanted o (yielded ops a.tmps)=true:=by simp [Region.wanted,hgd]
 rw [if_pos hw];obtain ⟨aa',ca',w',hr,h2,h3⟩:=run_append_name w o.type ns aa pb nm g c h hl hg hpb;unfold Oper.wp execOp;simp only [ho,resolve,invoke,builtin,Sem.run_bind,Sem.run_pure,Result.andThen_ok,List.map_toArray,List.map_cons,List.map_nil,hs,hx,hr];exact hK aa' ca' w' h2 h3
end Go.Proofs.YtmamabhhgfcjcaaGreatDoor
