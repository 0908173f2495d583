/-
  append of a row that a call owns onto another one, nil or not: at a walk's step, and at a step of a region that draws its order.
-/
import Derived.Deep.AppendLies
import Derived.Laws.AppendOwnNone
import Derived.Laws.OwnMore
import Derived.Shelf.Sort.Plain
import Derived.Shelf.Slices.In.CompactS
import Derived.Shelf.Slices.In.SortNone
import Derived.Shelf.Slices.Turned
import Derived.Sort.EncStr
import Derived.Test.YtmamabhhgfcjcaaGreatDoorKb
import Derived.Deep.DeepCutAuto
set_option maxRecDepth 100000
set_option maxHeartbeats 4000000
namespace Go.Proofs.YtmamabhhgfcjcaaGreatDoor
open Go.RowKit
theorem own_cells{w:World}{base:Nat}{e:TypeId}{size:Nat}{u:Value}{m:Nat}{ys:List Value}(h:w.ownsRow base e size u m ys):
  (u = .slice none 0 0∧m=0∧ys=[])∨∃g cap,u = .slice (some ⟨g,0,none⟩) m cap∧base≤g∧g<w.heap.size∧∀j y,ys[j]? = some y→w.cell? ⟨g,j,none⟩=some y:=by
 obtain ⟨hl,h|⟨g,cap,cur,rfl,hb,hg,h1,h2,h3,h4⟩⟩:=h
 ·obtain ⟨rfl,rfl⟩:=h
  exact .inl ⟨rfl,rfl,List.eq_nil_of_length_eq_zero (by simpa using hl)⟩
 ·refine .inr ⟨g,cap,rfl,hb,?_,fun j y hy=>?_⟩
  ·rcases Nat.lt_or_ge g w.heap.size with hlt|hge
   ·exact hlt
   ·rw [Array.getElem?_eq_none hge]at hg;cases hg
  ·have:=cell_of_row w g j cur e (0,0) hg
   rw [this,← Array.getElem?_toList];rw [← h4]at hy;rw [List.getElem?_take]at hy;split at hy
   ·exact hy
   ·cases hy
theorem run_append_rows{P:Program}(w:World)(t ty e:TypeId)(base base2:Nat)(i:TypeInfo)(z:Value)(size bytes:Nat)(ht:P.underlying t=some (.slice e))(hi:P.info? e=some i)(hz:i.zero=some z)
  (hsize:i.size=size) (hby:i.bytes=bytes) (hzs:z.cells.size=size) (hsz:0<size)
  (v:Value) (n:Nat) (xs:List Value) (hown:w.ownsRow base e size v n xs) (u:Value) (m:Nat) (ys:List Value) (hu:w.ownsRow base2 e size u m ys)
  (h1:∀y∈ys,y.oneCell'=true) (h63:n+m≤maxLen) (hbytes:(n+m)*bytes≤140737488355328) (hbase:base≤w.heap.size) :
  ∃v' w',(Builtin.append_ #[t,t] ty #[v,u]).run P w = .ok v' w'∧w'.ownsRow base e size v' (n+m) (xs++ys)∧w.grownBy w' v.ownBlock∧(v'.ownBlock=v.ownBlock∨v'.ownBlock=some w.heap.size):=by
 rcases own_cells hu with ⟨rfl,rfl,rfl⟩|⟨g,cap,rfl,_,_,hc⟩
 ·have hrun:=run_append_owned_none (P:=P) (w:=w) base t ty e i size ht hi v n xs hown
  refine ⟨v,w,hrun,by simpa using hown,World.grownBy.refl _ _,.inl rfl⟩
 ·obtain ⟨v',w',hr,h2,h3,_,h5⟩:=run_append_own_at (P:=P) w base t ty e i z size bytes ht hi hz hsize hby hzs hsz v n xs hown ⟨g,0,none⟩ m cap ys hu.1
   (fun j y hy=>by
    have e:(⟨g,0,none⟩:Addr).add j=⟨g,j,none⟩:=by unfold Addr.add;split <;> simp_all
    rw [e];exact hc j y hy) h1 h63 hbytes hbase
  exact ⟨v',w',hr,h2,h3,h5⟩
theorem wp_append_rows{P:Program}(w:World){o:Oper}{a:Act}{K:Act→World→Prop}{Q:Exit→Act→World→Prop}(s x:Operand)(t:TypeId)
  (ho:o.op = .call { callee:=.builtin .append,args:=#[s,x],argTypes:=#[t,t] })
  (base base2:Nat) (e:TypeId) (i:TypeInfo) (z:Value) (size bytes:Nat) (ht:P.underlying t=some (.slice e)) (hi:P.info? e=some i) (hz:i.zero=some z)
  (hsize:i.size=size) (hby:i.bytes=bytes) (hzs:z.cells.size=size) (hsz:0<size)
  (v:Value) (n:Nat) (xs:List Value) (hs:a.eval s=v) (hown:w.ownsRow base e size v n xs) (u:Value) (m:Nat) (ys:List Value) (hx:a.eval x=u) (hu:w.ownsRow base2 e size u m ys)
  (h1:∀y∈ys,y.oneCell'=true) (h63:n+m≤maxLen) (hbytes:(n+m)*bytes≤140737488355328) (hbase:base≤w.heap.size)
  (h:∀v' w',w'.ownsRow base e size v' (n+m) (xs++ys)→w.grownBy w' v.ownBlock→(v'.ownBlock=v.ownBlock∨v'.ownBlock=some w.heap.size)→K (a.put o.dst v') w'):o.wp P a w K Q:=by
 obtain ⟨v',w',hr,h2,h3,h4⟩:=run_append_rows (P:=P) w t o.type e base base2 i z size bytes ht hi hz hsize hby hzs hsz v n xs hown u m ys hu h1 h63 hbytes hbase;unfold Oper.wp execOp;simp only [ho,resolve,invoke,builtin,Sem.run_bind,Sem.run_pure,Result.andThen_ok,List.map_toArray,List.map_cons,List.map_nil,hs,hx,hr];exact h v' w' h2 h3 h4
theorem wpList_append_rows{P:Program}(w:World){ops:Array Oper}{rest:List Oper}{o:Oper}{a:Act}{Q:Exit→Act→World→Prop}(hgd:o.guard=none)(s x:Operand)(t:TypeId)
  (ho:o.op = .call { callee:=.builtin .append,args:=#[s,x],argTypes:=#[t,t] })
  (base base2:Nat) (e:TypeId) (i:TypeInfo) (z:Value) (size bytes:Nat) (ht:P.underlying t=some (.slice e)) (hi:P.info? e=some i) (hz:i.zero=some z)
  (hsize:i.size=size) (hby:i.bytes=bytes) (hzs:z.cells.size=size) (hsz:0<size)
  (v:Value) (n:Nat) (xs:List Value) (hs:a.eval s=v) (hown:w.ownsRow base e size v n xs) (u:Value) (m:Nat) (ys:List Value) (hx:a.eval x=u) (hu:w.ownsRow base2 e size u m ys)
  (h1:∀y∈ys,y.oneCell'=true) (h63:n+m≤maxLen) (hbytes:(n+m)*bytes≤140737488355328) (hbase:base≤w.heap.size)
  (h:∀v' w',w'.ownsRow base e size v' (n+m) (xs++ys)→w.grownBy w' v.ownBlock→(v'.ownBlock=v.ownBlock∨v'.ownBlock=some w.heap.size)→wpList P ops Q rest (a.put o.dst v') w'):wpList P ops Q (o::rest) a w :=
 wpList_plain hgd fun _ hK=>wp_append_rows w s x t ho base base2 e i z size bytes ht hi hz hsize hby hzs hsz v n xs hs hown u m ys hx hu h1 h63 hbytes hbase fun v' w' h2 h3 h4=>hK _ _ (h v' w' h2 h3 h4)
theorem step_append_rows{P:Program}(w:World){ops:Array Oper}{o:Oper}{a:Act}{K:Act→World→Prop}{Q:Exit→Act→World→Prop}{E:Prop}(hgd:o.guard=none)(s x:Operand)(t:TypeId)
  (ho:o.op = .call { callee:=.builtin .append,args:=#[s,x],argTypes:=#[t,t] })
  (base base2:Nat) (e:TypeId) (i:TypeInfo) (z:Value) (size bytes:Nat) (ht:P.underlying t=some (.slice e)) (hi:P.info? e=some i) (hz:i.zero=some z)
  (hsize:i.size=size) (hby:i.bytes=bytes) (hzs:z.cells.size=size) (hsz:0<size)
  (v:Value) (n:Nat) (xs:List Value) (hs:a.eval s=v) (hown:w.ownsRow base e size v n xs) (u:Value) (m:Nat) (ys:List Value) (hx:a.eval x=u) (hu:w.ownsRow base2 e size u m ys)
  (h1:∀y∈ys,y.oneCell'=true) (h63:n+m≤maxLen) (hbytes:(n+m)*bytes≤140737488355328) (hbase:base≤w.heap.size)
  (h:∀v' w',w'.ownsRow base e size v' (n+m) (xs++ys)→w.grownBy w' v.ownBlock→(v'.ownBlock=v.ownBlock∨v'.ownBlock=some w.heap.size)→K (a.put o.dst v') w') :
  if Region.wanted o (yielded ops a.tmps)=true then Oper.wp P o a w K Q else E:=by
 have hw:Region.wanted o (yielded ops a.tmps)=true:=by simp [Region.wanted,hgd]
 rw [if_pos hw];exact wp_append_rows w s x t ho base base2 e i z size bytes ht hi hz hsize hby hzs hsz v n xs hs hown u m ys hx hu h1 h63 hbytes hbase h
end Go.Proofs.YtmamabhhgfcjcaaGreatDoor
namespace Go.Proofs
open Go.Shelf
def Tryz.lays190_ren:Go.Shelf.Ren:=⟨fun|190=>123|125=>137|258=>136|128=>160|129=>161|302=>151|303=>152|304=>153|305=>154|306=>155|307=>156|308=>157|309=>158|310=>159|333=>176|329=>177|330=>178|334=>179|335=>180|336=>181|344=>189|n=>n,fun|31=>28|9=>9|3=>3|46=>203|0=>0|51=>223|53=>225|4=>4|183=>216|182=>215|131=>157|5=>5|218=>247|222=>76|228=>256|229=>236|n=>n,fun|n=>n⟩
theorem Tryz.lays190:Go.Proofs.Lays.n190 Tryz.prog Tryz.lays190_ren:={
 mixed:=by kernel_rfl
 f125:=Tryz.func137.trans (congrArg some (by kernel_rfl))
 f128:=Tryz.func160.trans (congrArg some (by kernel_rfl))
 f129:=Tryz.func161.trans (congrArg some (by kernel_rfl))
 f190:=Tryz.func123.trans (congrArg some (by kernel_rfl))
 f258:=Tryz.func136.trans (congrArg some (by kernel_rfl))
 f302:=Tryz.func151.trans (congrArg some (by kernel_rfl))
 f303:=Tryz.func152.trans (congrArg some (by kernel_rfl))
 f304:=Tryz.func153.trans (congrArg some (by kernel_rfl))
 f305:=Tryz.func154.trans (congrArg some (by kernel_rfl))
 f306:=Tryz.func155.trans (congrArg some (by kernel_rfl))
 f307:=Tryz.func156.trans (congrArg some (by kernel_rfl))
 f308:=Tryz.func157.trans (congrArg some (by kernel_rfl))
 f309:=Tryz.func158.trans (congrArg some (by kernel_rfl))
 f310:=Tryz.func159.trans (congrArg some (by kernel_rfl))
 f329:=Tryz.func177.trans (congrArg some (by kernel_rfl))
 f330:=Tryz.func178.trans (congrArg some (by kernel_rfl))
 f333:=Tryz.func176.trans (congrArg some (by kernel_rfl))
 f334:=Tryz.func179.trans (congrArg some (by kernel_rfl))
 f335:=Tryz.func180.trans (congrArg some (by kernel_rfl))
 f336:=Tryz.func181.trans (congrArg some (by kernel_rfl))
 f344:=Tryz.func189.trans (congrArg some (by kernel_rfl))
 t0:=Tryz.underlying0
 a0:=Tryz.isAgg0
 z0:=Tryz.sizeOf0
 v0:=Tryz.zeroValue0
 t3:=Tryz.underlying3
 a3:=Tryz.isAgg3
 z3:=Tryz.sizeOf3
 v3:=Tryz.zeroValue3
 t4:=Tryz.underlying4
 a4:=Tryz.isAgg4
 z4:=Tryz.sizeOf4
 v4:=Tryz.zeroValue4
 t5:=Tryz.underlying5
 a5:=Tryz.isAgg5
 z5:=Tryz.sizeOf5
 v5:=Tryz.zeroValue5
 t9:=Tryz.underlying9
 a9:=Tryz.isAgg9
 z9:=Tryz.sizeOf9
 v9:=Tryz.zeroValue9
 t31:=Tryz.underlying28
 a31:=Tryz.isAgg28
 z31:=Tryz.sizeOf28
 v31:=Tryz.zeroValue28
 t46:=Tryz.underlying203
 a46:=Tryz.isAgg203
 z46:=Tryz.sizeOf203
 v46:=Tryz.zeroValue203
 t51:=Tryz.underlying223
 a51:=Tryz.isAgg223
 z51:=Tryz.sizeOf223
 v51:=Tryz.zeroValue223
 t53:=Tryz.underlying225
 a53:=Tryz.isAgg225
 z53:=Tryz.sizeOf225
 v53:=Tryz.zeroValue225
 t131:=Tryz.underlying157
 a131:=Tryz.isAgg157
 z131:=Tryz.sizeOf157
 v131:=Tryz.zeroValue157
 t182:=Tryz.underlying215
 a182:=Tryz.isAgg215
 z182:=Tryz.sizeOf215
 v182:=Tryz.zeroValue215
 t183:=Tryz.underlying216
 a183:=Tryz.isAgg216
 z183:=Tryz.sizeOf216
 v183:=Tryz.zeroValue216
 t218:=Tryz.underlying247
 a218:=Tryz.isAgg247
 z218:=Tryz.sizeOf247
 v218:=Tryz.zeroValue247
 t222:=Tryz.underlying76
 a222:=Tryz.isAgg76
 z222:=Tryz.sizeOf76
 v222:=Tryz.zeroValue76
 t228:=Tryz.underlying256
 a228:=Tryz.isAgg256
 z228:=Tryz.sizeOf256
 v228:=Tryz.zeroValue256
 t229:=Tryz.underlying236
 a229:=Tryz.isAgg236
 z229:=Tryz.sizeOf236
 v229:=Tryz.zeroValue236 }
def Tryz.lays194_ren:Go.Shelf.Ren:=⟨fun|194=>124|n=>n,fun|31=>28|9=>9|3=>3|4=>4|0=>0|n=>n,fun|n=>n⟩
theorem Tryz.lays194:Go.Proofs.Lays.n194 Tryz.prog Tryz.lays194_ren:={
 mixed:=by kernel_rfl
 f194:=Tryz.func124.trans (congrArg some (by kernel_rfl))
 t0:=Tryz.underlying0
 a0:=Tryz.isAgg0
 z0:=Tryz.sizeOf0
 v0:=Tryz.zeroValue0
 t3:=Tryz.underlying3
 a3:=Tryz.isAgg3
 z3:=Tryz.sizeOf3
 v3:=Tryz.zeroValue3
 t4:=Tryz.underlying4
 a4:=Tryz.isAgg4
 z4:=Tryz.sizeOf4
 v4:=Tryz.zeroValue4
 t9:=Tryz.underlying9
 a9:=Tryz.isAgg9
 z9:=Tryz.sizeOf9
 v9:=Tryz.zeroValue9
 t31:=Tryz.underlying28
 a31:=Tryz.isAgg28
 z31:=Tryz.sizeOf28
 v31:=Tryz.zeroValue28 }
def Tryz.lays110_ren:Go.Shelf.Ren:=⟨fun|110=>61|109=>64|n=>n,fun|31=>28|9=>9|4=>4|3=>3|0=>0|n=>n,fun|n=>n⟩
theorem Tryz.lays110:Go.Proofs.Lays.n110 Tryz.prog Tryz.lays110_ren:={
 mixed:=by kernel_rfl
 f109:=Tryz.func64.trans (congrArg some (by kernel_rfl))
 f110:=Tryz.func61.trans (congrArg some (by kernel_rfl))
 t0:=Tryz.underlying0
 a0:=Tryz.isAgg0
 z0:=Tryz.sizeOf0
 v0:=Tryz.zeroValue0
 t3:=Tryz.underlying3
 a3:=Tryz.isAgg3
 z3:=Tryz.sizeOf3
 v3:=Tryz.zeroValue3
 t4:=Tryz.underlying4
 a4:=Tryz.isAgg4
 z4:=Tryz.sizeOf4
 v4:=Tryz.zeroValue4
 t9:=Tryz.underlying9
 a9:=Tryz.isAgg9
 z9:=Tryz.sizeOf9
 v9:=Tryz.zeroValue9
 t31:=Tryz.underlying28
 a31:=Tryz.isAgg28
 z31:=Tryz.sizeOf28
 v31:=Tryz.zeroValue28 }
end Go.Proofs
namespace Go.Proofs.YtmamabhhgfcjcaaGreatDoor
open Go.RowKit Go.Sort
theorem cell_lt{w:World}{a:Addr}{v:Value}(h:w.cell? a=some v):a.block<w.heap.size:=by
 rcases Nat.lt_or_ge a.block w.heap.size with h'|h'
 ·exact h'
 ·simp [World.cell?,Array.getElem?_eq_none h']at h
abbrev FR(pb:Nat)(w w':World):Prop:=w.grownBy w' (some pb)
theorem FR.of{pb:Nat}{w w':World}(h:Below w.heap.size w w'):FR pb w w':=⟨h.os,h.tape,h.output,h.size,fun k hk _=>h.block k hk⟩
theorem FR.trans{pb:Nat}{a b c:World}(h:FR pb a b)(k:FR pb b c):FR pb a c :=
 ⟨k.os.trans h.os,k.tape.trans h.tape,k.output.trans h.output,Nat.le_trans h.size k.size,fun i hi hn=>(k.block i (nL hi h.size) hn).trans (h.block i hi hn)⟩
theorem FR.set{pb:Nat}{w:World}(v:Value):FR pb w (w.setCell ⟨pb,0,none⟩ v) :=
 ⟨rfl,rfl,rfl,by simp,fun k _ hn=>Below.heap_setCell w _ v k (fun e=>hn (by rw [e]))⟩
theorem FR.al{pb:Nat}{w:World}(o:Obj):FR pb w (w.alloc o):=FR.of ((bR _ _).alloc (nR _) o)
theorem FR.below{pb:Nat}{w w':World}(h:FR pb w w')(hp:pb≤w.heap.size):Below pb w w' :=
 ⟨h.os,h.tape,h.output,h.size,fun k hk=>h.block k (by omega) (fun e=>by injection e with e;omega)⟩
theorem FR.cellO{pb:Nat}{w w':World}(h:FR pb w w'){b o:Nat}(hb:b<w.heap.size)(hn:b≠pb):w'.cell? ⟨b,o,none⟩=w.cell? ⟨b,o,none⟩ :=
 World.cell?_of_block (a:=⟨b,o,none⟩) (h.block b hb (fun e=>hn (by injection e)))
def AR(W:World)(pb:Nat)(ns:List ByteArray)(aa:OAd)(ca:Nat):Prop :=
 (ns=[]∧aa=none∧ca=0)∨(ns.length≤ca∧∃b o,aa=some ⟨b,o,none⟩∧b<W.heap.size∧b≠pb∧∀i (h:i<ns.length),W.cell? ⟨b,o+i,none⟩=some (.string ns[i]))
theorem AR.keep{W W':World}{pb:Nat}{ns:List ByteArray}{aa:OAd}{ca:Nat}(h:AR W pb ns aa ca)(hf:FR pb W W'):AR W' pb ns aa ca :=
 h.imp id fun ⟨hc,b,o,e,hl,hn,hcell⟩=>⟨hc,b,o,e,nL hl hf.size,hn,fun i hi=>(hf.cellO hl hn).trans (hcell i hi)⟩
theorem AR.clip{W:World}{pb:Nat}{ns:List ByteArray}{aa:OAd}{ca:Nat}(h:AR W pb ns aa ca):AR W pb ns aa ns.length:=by
 rcases h with ⟨rfl,rfl,_⟩|⟨_,h⟩
 ·exact .inl ⟨rfl,rfl,rfl⟩
 ·exact .inr ⟨nR _,h⟩
def hasN(ns:List ByteArray)(x:ByteArray):Bool:=ns.any (fun y=>decide (y=x))
theorem hasN_iff(ns:List ByteArray)(x:ByteArray):hasN ns x=true↔x∈ns:=by
 unfold hasN;rw [List.any_eq_true];constructor
 ·rintro ⟨y,hy,e⟩;rw [decide_eq_true_eq]at e;rw [← e];exact hy
 ·intro h;exact ⟨x,h,by simp⟩
theorem containsA_any(ns:List ByteArray)(x:ByteArray)(aa:OAd)(ca pb:Nat)(w:World)(h:AR w pb ns aa ca)(hl:ns.length≤60):
  Calls Tryz.prog 61 #[.slice aa ns.length ca,.string x] w fun e w'=>e = .returned (.bool (hasN ns x))∧w'=w:=by
 rcases h with ⟨rfl,rfl,rfl⟩|⟨_,b,o,rfl,_,_,hc⟩
 ·refine (Any.slices_Contains_string_empty Tryz.lays110 none 0 x w).mono fun e w' ⟨h1,h2⟩=>⟨?_,h2⟩
  rw [h1];rfl
 ·refine (Any.slices_Contains_string Tryz.lays110 b o ns.length ca ns x w (by simp) (by omega) ?_).mono fun e w' ⟨h1,h2⟩=>⟨?_,h2⟩
  ·intro j hj
   rw [hc j hj];simp [List.getD_eq_getElem?_getD,hj]
  ·rw [h1]
   congr 2
   rw [List.take_of_length_le (by simp)]
   rw [Bool.eq_iff_iff,Lib.containsS_iff,hasN_iff]
theorem clip_any(ns:List ByteArray)(aa:OAd)(ca pb:Nat)(w0 w:World)(h:AR w0 pb ns aa ca)(hl:ns.length≤60):
  Calls Tryz.prog 83 #[.slice aa ns.length ca] w fun e w'=>e = .returned (.slice aa ns.length ns.length)∧w'=w:=by
 have hz:(ns.length:Int)≤60:=by omega
 rcases h with ⟨rfl,rfl,rfl⟩|⟨hc,b,o,rfl,_,_,_⟩
 ·go_enter Tryz.func83,Tryz.ntmps83
  go_wp2_with fail
  go_ret
  exact ⟨rfl,rfl⟩
 ·have hcz:(ns.length:Int)≤(ca:Int):=by omega
  go_enter Tryz.func83,Tryz.ntmps83
  go_wp2_with fail
  go_ret
  exact ⟨rfl,rfl⟩
theorem infoSt:(Tryz.prog.info? 9).map (fun i=>(i.zero,i.size,i.bytes))=some (some (.string ⟨#[]⟩),1,16):=by kernel_rfl
theorem addj0(g j:Nat):(Addr.add ⟨g,0,none⟩ j)=⟨g,j,none⟩:=by unfold Addr.add;split <;> simp_all
theorem addjo(g o j:Nat):(Addr.add ⟨g,o,none⟩ j)=⟨g,o+j,none⟩:=by unfold Addr.add;split <;> simp_all
theorem run_append_name(w:World)(ty:TypeId)(ns:List ByteArray)(aa:OAd)(pb:Nat)(nm:ByteArray)(g c:Nat)(h:AR w pb ns aa ns.length)(hl:ns.length≤60)(hg:w.cell? ⟨g,0,none⟩=some (.string nm))(hpb:pb<w.heap.size):
  ∃aa' ca' w',(Builtin.append_ #[28,28] ty #[.slice aa ns.length ns.length,.slice (some ⟨g,0,none⟩) 1 c]).run Tryz.prog w = .ok (.slice aa' (ns.length+1) ca') w'∧AR w' pb (ns++[nm]) aa' ca'∧Below w.heap.size w w':=by
 obtain ⟨i,hi,hz0,hz1,hz2⟩:=info_parts infoSt;have hnews:∀j v,[Value.string nm][j]? = some v→w.cell? ((⟨g,0,none⟩:Addr).add j)=some v:=by
  intro j v hj;match j,hj with
  | 0,hj=>simp at hj;subst hj;rw [addj0];exact hg
  | j+1,hj=>simp at hj
 have hfin:∀(cap:Nat) (cs:List Value) (rest:Array Value),cs=(ns++[nm]).map Value.string→ns.length+1≤cap→AR (w.drew.alloc (.cells (cs.toArray++rest) 9)) pb (ns++[nm]) (some ⟨w.heap.size,0,none⟩) cap:=by
  intro cap cs rest hcs hcap;refine .inr ⟨by simpa using hcap,w.heap.size,0,rfl,by simp,by omega,fun k hk=>?_⟩
  have hk':k<cs.length:=by rw [hcs];simpa using hk
  have e1:(w.drew.alloc (.cells (cs.toArray++rest) 9)).cell? ⟨w.heap.size,0+k,none⟩=(cs.toArray++rest)[k]?:=by
   rw [Nat.zero_add];exact World.cell?_alloc_at _ _ _ _ rfl
  rw [e1,Array.getElem?_append_left (by simpa using hk')]
  simp only [List.getElem?_toArray];rw [List.getElem?_eq_getElem hk'];simp only [hcs,List.getElem_map]
 rcases h with ⟨rfl,rfl,_⟩|⟨_,b,o,rfl,_,_,hc⟩
 ·have hr:=run_append_nil (P:=Tryz.prog) w 28 ty 9 i _ Tryz.underlying28 hi hz0 ⟨g,0,none⟩ 1 c [.string nm] (by rw [hz1];rfl) hnews (by omega) (by omega) (by rw [hz2];omega)
  refine ⟨_,_,_,hr,?_,((bR _ _).drew).alloc (by simp) _⟩
  exact hfin _ [.string nm] _ rfl (grownCap_ge _ _ _ _)
 ·have hr:=run_append_grow (P:=Tryz.prog) w 28 ty 9 i _ Tryz.underlying28 hi hz0 ⟨b,o,none⟩ ns.length ns.length (ns.map Value.string) (by rw [hz1];simp) (fun j v hj=>by
    rw [addjo];by_cases hjl:j<ns.length
    ·rw [hc j hjl,← hj];simp [hjl]
    ·rw [List.getElem?_eq_none (by simp;omega)]at hj;cases hj) ⟨g,0,none⟩ 1 c [.string nm] (by rw [hz1];rfl) hnews (by omega) (by omega) (growslice_fits (by omega) (by rw [hz2];omega))
  refine ⟨_,_,_,hr,?_,((bR _ _).drew).alloc (by simp) _⟩
  have:=hfin (grownCap w (ns.length+1) ns.length 9) ((ns++[nm]).map Value.string) (Builtin.zeroCells (Value.string ⟨#[]⟩).cells (grownCap w (ns.length+1) ns.length 9 - (ns.length+1))) rfl (grownCap_ge _ _ _ _);simpa using this
theorem step_append_name(w:World){ops:Array Oper}{o:Oper}{a:Act}{K:Act→World→Prop}{Q:Exit→Act→World→Prop}{E:Prop}(hgd:o.guard=none)(s x:Operand)
  (ho:o.op = .call { callee:=.builtin .append,args:=#[s,x],argTypes:=#[28,28] })
  (ns:List ByteArray) (aa:OAd) (pb:Nat) (nm:ByteArray) (g c:Nat) (hs:a.eval s = .slice aa ns.length ns.length) (hx:a.eval x = .slice (some ⟨g,0,none⟩) 1 c)
  (h:AR w pb ns aa ns.length) (hl:ns.length≤60) (hg:w.cell? ⟨g,0,none⟩=some (.string nm)) (hpb:pb<w.heap.size)
  (hK:∀aa' ca' w',AR w' pb (ns++[nm]) aa' ca'→Below w.heap.size w w'→K (a.put o.dst (.slice aa' (ns.length+1) ca')) w') :
  if Region.wanted o (yielded ops a.tmps)=true then Oper.wp Tryz.prog o a w K Q else E:=by
 have hw:Region.wanted o (yielded ops a.tmps)=true:=by simp [Region.wanted,hgd]
 rw [if_pos hw];obtain ⟨aa',ca',w',hr,h2,h3⟩:=run_append_name w o.type ns aa pb nm g c h hl hg hpb;unfold Oper.wp execOp;simp only [ho,resolve,invoke,builtin,Sem.run_bind,Sem.run_pure,Result.andThen_ok,List.map_toArray,List.map_cons,List.map_nil,hs,hx,hr];exact hK aa' ca' w' h2 h3
def chkT:Ty→List ByteArray→Nat→Int × Nat
 | ⟨kd,so,nm,ls,ks⟩,ar,c =>
  if 60<c+1 then (2,c+1) else if partT ⟨kd,so,nm,ls,ks⟩=false then (1,c+1)
  else if kd=9∧hasN ar nm=false then (4,c+1) else if kd=8∧idleN 65536 ⟨kd,so,nm,ls,ks⟩=true then (7,c+1)
  else ks.foldl (fun a k=>if a.1≠0 then a else chkT k (if kd=8 then ar++[nm] else ar) a.2) (0,c+1)
def chkTL(ar:List ByteArray)(ks:List Ty)(a:Int × Nat):Int × Nat:=ks.foldl (fun a k=>if a.1≠0 then a else chkT k ar a.2) a
theorem chkT_eq(t:Ty)(ar:List ByteArray)(c:Nat):chkT t ar c=if 60<c+1 then (2,c+1) else if partT t=false then (1,c+1)
  else if t.kind=9∧hasN ar t.name=false then (4,c+1) else if t.kind=8∧idleN 65536 t=true then (7,c+1)
  else chkTL (if t.kind=8 then ar++[t.name] else ar) t.kids (0,c+1):=by cases t;rw [chkT];rfl
theorem chkTL_cons(ar:List ByteArray)(x:Ty)(ks:List Ty)(a:Int × Nat):chkTL ar (x::ks) a=chkTL ar ks (if a.1≠0 then a else chkT x ar a.2):=rfl
theorem chkTL_bad(ar:List ByteArray)(ks:List Ty)(a:Int × Nat)(h:a.1≠0):chkTL ar ks a=a:=by
 induction ks with
 | nil=>rfl
 | cons x ks ih=>rw [chkTL_cons,if_pos h];exact ih
theorem chkTL_snoc(ar:List ByteArray)(ks:List Ty)(x:Ty)(a:Int × Nat):chkTL ar (ks++[x]) a=if (chkTL ar ks a).1≠0 then chkTL ar ks a else chkT x ar (chkTL ar ks a).2:=by
 unfold chkTL;rw [List.foldl_append];rfl
theorem chkTL_split(ar:List ByteArray)(ks:List Ty)(k:Nat)(a:Int × Nat)(h:(chkTL ar (ks.take k) a).1≠0):chkTL ar ks a=chkTL ar (ks.take k) a:=by
 have e:chkTL ar ks a=chkTL ar (ks.drop k) (chkTL ar (ks.take k) a):=by
  conv=>lhs;rw [← List.take_append_drop k ks]
  unfold chkTL;rw [List.foldl_append]
 rw [e,chkTL_bad _ _ _ h]
theorem chkTL_cnt(ar:List ByteArray)(ks:List Ty):∀(a:Int × Nat),(∀k∈ks,∀ar c,c≤60→(chkT k ar c).1=0→c≤(chkT k ar c).2∧(chkT k ar c).2≤60)→a.2≤60→(chkTL ar ks a).1=0→a.2≤(chkTL ar ks a).2∧(chkTL ar ks a).2≤60:=by
 induction ks with
 | nil=>intro a _ h _;exact ⟨nR _,h⟩
 | cons x ks ih =>
  intro a hk h h0;rw [chkTL_cons]at h0 ⊢;by_cases ha:a.1≠0
  ·rw [if_pos ha]at h0 ⊢
   exact ih a (fun k hm=>hk k (.tail _ hm)) h h0
  ·rw [if_neg ha]at h0 ⊢
   by_cases hx:(chkT x ar a.2).1=0
   ·have h1:=hk x (.head _) ar a.2 h hx
    have h2:=ih _ (fun k hm=>hk k (.tail _ hm)) h1.2 h0
    exact ⟨Nat.le_trans h1.1 h2.1,h2.2⟩
   ·rw [chkTL_bad _ _ _ hx]at h0;exact absurd h0 hx
theorem chkT_cnt:∀t:Ty,∀ar c,c≤60→(chkT t ar c).1=0→c≤(chkT t ar c).2∧(chkT t ar c).2≤60:=by
 apply tyInd
 intro t ih ar c hc h;rw [chkT_eq]at h ⊢;by_cases h1:60<c+1
 ·rw [if_pos h1]at h;exact absurd h (by simp)
 rw [if_neg h1]at h ⊢;by_cases h2:partT t=false
 ·rw [if_pos h2]at h;exact absurd h (by simp)
 rw [if_neg h2]at h ⊢;by_cases h3:t.kind=9∧hasN ar t.name=false
 ·rw [if_pos h3]at h;exact absurd h (by simp)
 rw [if_neg h3]at h ⊢;by_cases h4:t.kind=8∧idleN 65536 t=true
 ·rw [if_pos h4]at h;exact absurd h (by simp)
 rw [if_neg h4]at h ⊢;have:=chkTL_cnt _ t.kids (0,c+1) ih (by show c+1≤60;omega) h
 exact ⟨by have:=this.1;simp only at this;omega,this.2⟩
def CTSaid(d:Nat):Prop:=∀(t:Ty) (al:OAd) (cl:Nat) (ak:OAd) (ck:Nat) (ar:List ByteArray) (aa:OAd) (ca c pb B:Nat) (w:World),
 TyBw t→LA w B t.labels al→KT w B d t.kids ak→AR w pb ar aa ca→B≤pb→PC w pb c→c≤60→ar.length≤c →
 Calls Tryz.prog 48 #[tyVal t al cl ak ck,.slice aa ar.length ca,.pointer (some ⟨pb,0,none⟩)] w fun e w'=>e = .returned (.int .i64 (chkT t ar c).1)∧PC w' pb (chkT t ar c).2∧FR pb w w'
structure ST(w:World)(pb c:Nat)(t:Ty)(al:OAd)(cl:Nat)(ak:OAd)(ck:Nat)(W:World):Prop where
 lt:w.heap.size<W.heap.size
 ty:TyAt W w.heap.size 0 t al cl ak ck
 pc:PC W pb c
 fr:FR pb w W
theorem ST.keep{w:World}{pb c:Nat}{t:Ty}{al:OAd}{cl:Nat}{ak:OAd}{ck:Nat}{W W':World}(h:ST w pb c t al cl ak ck W)(hb:Below W.heap.size W W'):ST w pb c t al cl ak ck W' :=
 ⟨nL h.lt hb.size,h.ty.keep hb h.lt,h.pc.keep hb h.pc.lt,h.fr.trans (FR.of hb)⟩
theorem ST.cells{w:World}{pb c:Nat}{t:Ty}{al:OAd}{cl:Nat}{ak:OAd}{ck:Nat}{W:World}(h:ST w pb c t al cl ak ck W):
  W.cell? ⟨w.heap.size,0,none⟩=some (.int .i64 t.kind)∧W.cell? ⟨w.heap.size,1,none⟩=some (.int .i64 t.so)∧W.cell? ⟨w.heap.size,2,none⟩=some (.string t.name)∧W.cell? ⟨w.heap.size,3,none⟩=some (.slice al t.labels.length cl)∧W.cell? ⟨w.heap.size,4,none⟩=some (.slice ak t.kids.length ck):=by
 obtain ⟨e0,e1,e2,e3,e4⟩:=h.ty;simp only [Nat.zero_add]at e1 e2 e3 e4;exact ⟨e0,e1,e2,e3,e4⟩
theorem ST.new{w:World}{pb c:Nat}(t:Ty)(al:OAd)(cl:Nat)(ak:OAd)(ck:Nat)(h:PC w pb c):
  ST w pb (c+1) t al cl ak ck ((w.setCell ⟨pb,0,none⟩ (.int .i64 ((c:Int)+1))).alloc (.cells #[.int .i64 t.kind,.int .i64 t.so,.string t.name,.slice al t.labels.length cl,.slice ak t.kids.length ck] 37)) :=
 ⟨by simp,⟨by go_cell,by go_cell,by go_cell,by go_cell,by go_cell⟩,(h.set (c+1)).al _,(FR.set _).trans (FR.al _)⟩
theorem checkT_step(d:Nat)(ih:∀d',d'<d→CTSaid d'):CTSaid d:=by
 intro t al cl ak ck ar aa ca c pb B w hbd hla hkt har hB hpc hc harl;have hpe:=chkT_eq t ar c;generalize chkT t ar c=r at hpe ⊢;obtain ⟨kd,so,nm,ls,ks⟩:=t;simp only at hpe hla hkt;have hlt:=hpc.lt;have hp1:=hpc.al (.cells #[.int .i64 kd,.int .i64 so,.string nm,.slice al ls.length cl,.slice ak ks.length ck] 37);have q1:=hp1.cell;have q2:=hp1.free;have hcz:(c:Int)≤60:=by omega
 have hps:=hpc.set (c+1);have q3:(w.setCell ⟨pb,0,none⟩ (.int .i64 ((c:Int)+1))).cell? ⟨pb,0,none⟩=some (.int .i64 ((c:Int)+1)):=hps.cell;have hfS:FR pb w (w.setCell ⟨pb,0,none⟩ (.int .i64 ((c:Int)+1))):=FR.set _;have hfA:=hfS.trans (FR.al (.cells #[.int .i64 kd,.int .i64 so,.string nm,.slice al ls.length cl,.slice ak ks.length ck] 37));have hbS:=hfS.below (by omega)
 have s0:ST w pb (c+1) ⟨kd,so,nm,ls,ks⟩ al cl ak ck _:=ST.new ⟨kd,so,nm,ls,ks⟩ al cl ak ck hpc;have CP:=hideK (isPart_t ⟨kd,so,nm,ls,ks⟩ al cl ak ck ((w.setCell ⟨pb,0,none⟩ (.int .i64 ((c:Int)+1))).alloc (.cells #[.int .i64 kd,.int .i64 so,.string nm,.slice al ls.length cl,.slice ak ks.length ck] 37)) hbd (NAt.mono (by simp;omega) (NAt.keep ((hfA.below (by omega)).mono hB) hla)))
 have S0:=hideK s0;have HPS:=hideK hps;have HFA:=hideK hfA;by_cases h60:60<c+1
 ·have hcge:(60:Int)≤(c:Int):=by omega
  rw [if_pos h60]at hpe;subst hpe;simp only [tyVal];clear ih hbd hla hkt har CP hp1 hps hpc hfS hfA hbS s0 S0;go_enter Tryz.func48,Tryz.ntmps48
  go_wp2_with fail
  go_ret
  exact ⟨rfl,HPS.out.al _,HFA.out⟩
 ·rw [if_neg h60]at hpe
  have hcz':(c:Int)+1≤60:=by omega
  clear hp1 hps hpc hfS hfA hbS s0 HPS HFA;simp only [tyVal]at CP ⊢;generalize hg:partT ⟨kd,so,nm,ls,ks⟩=g at CP hpe;cases g
  ·rw [if_pos rfl]at hpe
   subst hpe;clear ih hbd hla hkt har hg;go_enter Tryz.func48,Tryz.ntmps48
   go_wp2_with fail
   refine CP.out.mono ?_;rintro e w1 ⟨rfl,hb1⟩;have s1:=S0.out.keep hb1;have S1:=hideK s1;obtain ⟨x0,x1,x2,x3,x4⟩:=s1.cells;clear s1 hb1;go_wp2_with fail
   go_ret
   exact ⟨rfl,S1.out.pc,S1.out.fr⟩
  ·rw [if_neg (by simp)]at hpe
   by_cases h8:kd=8
   ·subst h8
    rw [if_neg (by simp)]at hpe
    have hkl:(ks.length:Int)≤9223372036854775807:=by have:=hbd.kids;simp only at *;omega
    have CI:=hideK (fun (W:World) (h:KT W W.heap.size d ks ak)=>isIdle_any ⟨8,so,nm,ls,ks⟩ al cl ak ck d W hbd h)
    generalize idleN 65536 ⟨8,so,nm,ls,ks⟩=q at CI hpe;simp only [tyVal]at CI;cases q
    ·rw [if_neg (by simp),if_pos rfl]at hpe
     subst hpe;go_enter Tryz.func48,Tryz.ntmps48
     go_wp2_with fail
     refine CP.out.mono ?_;rintro e w1 ⟨rfl,hb1⟩;have s1:=S0.out.keep hb1;have S1:=hideK s1;obtain ⟨x0,x1,x2,x3,x4⟩:=s1.cells;simp only at x0 x1 x2 x3 x4;have HAR:=hideK (har.keep s1.fr);have HK:=hideK (KT.keep ((s1.fr.below (by omega)).mono hB) hkt)
     have HARL:Hid (ar.length≤c+1):=by show _≤_;omega
     have HKI:=hideK (KT.mono (Nat.le_trans hB (Nat.le_of_lt s1.pc.lt)) HK.out);clear s1 hb1 har hkt CP S0;go_wp2_with fail
     refine (CI.out _ HKI.out).mono ?_;rintro e w2 ⟨rfl,hb2⟩;have s2:=S1.out.keep hb2;have HAR2:=hideK (HAR.out.keep (FR.of hb2));have HK2:=hideK (KT.keep (hb2.mono (Nat.le_trans hB (Nat.le_of_lt S1.out.pc.lt))) HK.out);clear x0 x1 x2 x3 x4 S1 HAR HK hb2 CI HKI;have S1:=hideK s2;obtain ⟨x0,x1,x2,x3,x4⟩:=s2.cells;simp only at x0 x1 x2 x3 x4;clear s2;go_wp2_with fail
     have HB2:=hideK S1.out.pc.lt;go_region_held3 (fun w'=>w'.cell? ⟨w.heap.size,2,none⟩=some (.string nm)) (go_keep) (first
      | (go_at_call 83;go_must (refine (clip_any ar aa ca pb w2 _ HAR2.out (by omega)).mono ?_;rintro e w3 ⟨rfl,rfl⟩))
      | (refine step_append_name _ (by rfl) (.tmp 48) (.tmp 51) (by rfl) ar aa pb nm w2.heap.size 1 rfl rfl ((HAR2.out.keep (FR.of (by go_grown))).clip) (by omega) (by go_cell) (by simp;exact Nat.lt_succ_of_lt HB2.out) ?_;intro aa' ca' w4 hAR4 hb4;have B4:Below w2.heap.size w2 w4:=Below.trans (by go_grown) (hb4.mono (by simp));have x2':=(B4.cell (p:=⟨w.heap.size,2,none⟩) S1.out.lt).trans x2))
     all_goals
      have s3:=S1.out.keep B4;have HAR:=hideK hAR4;have HK:=hideK (KT.keep (B4.mono (Nat.le_trans hB (Nat.le_of_lt S1.out.pc.lt))) HK2.out);have HARL:Hid ((ar++[nm]).length≤c+1):=by show _≤_;simp;omega
      clear x0 x1 x2 x3 x4 x2' S1 HAR2 HK2 hAR4 hb4 B4 HB2;have S1:=hideK s3;obtain ⟨x0,x1,x2,x3,x4⟩:=s3.cells;simp only at x0 x1 x2 x3 x4;clear s3;go_wp2_with fail
      have hpbW:pb≤w4.heap.size:=by have:=S1.out.pc.lt;omega
      go_loopw [56] (fun i wr=>∃k:Nat,k≤ks.length∧i = .int .i64 (k:Int)∧(chkTL (ar++[nm]) (ks.take k) (0,c+1)).1=0∧PC wr pb (chkTL (ar++[nm]) (ks.take k) (0,c+1)).2∧FR pb w4 wr) (fun i _=>ks.length - (intOf i).toNat)
      case atStart=>exact ⟨0,Nat.zero_le _,rfl,rfl,S1.out.pc,World.grownBy.refl _ _⟩
      case round =>
       obtain ⟨k,hk,rfl,hz,hP,hF⟩:=hrel;clear x0 x1 x2 x3 x4;by_cases hlt':k<ks.length
       ·have hltz:(k:Int)<(ks.length:Int):=by omega
        obtain ⟨d',rfl⟩:∃d',d=d'+1:=by
         cases d with
         | zero=>have:=HK.out;simp only [KT]at this;rw [this]at hlt';simp at hlt'
         | succ d'=>exact ⟨d',rfl⟩
        have hkt:=HK.out;rcases hkt with hkt|⟨b,o,rfl,hbB,hkt⟩
        ·rw [hkt]at hlt';simp at hlt'
        ·obtain ⟨al',cl',ak',ck',hty,htb,htl,htk⟩:=hkt k hlt'
         have hbF:=hF.below hpbW;obtain ⟨y0,y1,y2,y3,y4⟩:=hty.keep hbF (by omega)
         have hcnt:=chkTL_cnt (ar++[nm]) (ks.take k) (0,c+1) (fun q _=>chkT_cnt q) (by show c+1≤60;omega) hz
         have hsn:chkTL (ar++[nm]) (ks.take (k+1)) (0,c+1)=chkT ks[k] (ar++[nm]) (chkTL (ar++[nm]) (ks.take k) (0,c+1)).2:=by
          rw [List.take_succ_eq_append_getElem hlt',chkTL_snoc,if_neg (by simpa using hz)]
         have hF2:=hF.trans (FR.al (.cells #[.int .i64 ks[k].kind,.int .i64 ks[k].so,.string ks[k].name,.slice al' ks[k].labels.length cl',.slice ak' ks[k].kids.length ck'] 37));have hbF2:=(hF2.below hpbW).mono hB;have cR:=ih d' (by omega) ks[k] al' cl' ak' ck' (ar++[nm]) aa' ca' (chkTL (ar++[nm]) (ks.take k) (0,c+1)).2 pb B (wr.alloc (.cells #[.int .i64 ks[k].kind,.int .i64 ks[k].so,.string ks[k].name,.slice al' ks[k].labels.length cl',.slice ak' ks[k].kids.length ck'] 37)) htb.w
          (NAt.keep hbF2 htl) (KT.keep hbF2 htk) (HAR.out.keep hF2) hB (hP.al _) hcnt.2 (Nat.le_trans HARL.out hcnt.1)
         simp only [tyVal]at cR;have HF2:=hideK hF2;generalize chkT ks[k] (ar++[nm]) (chkTL (ar++[nm]) (ks.take k) (0,c+1)).2=r2 at cR hsn;have HS:=hideK hsn;have HP:=hideK hP;have hszF:w4.heap.size≤wr.heap.size:=hF.size;clear hz hP hcnt hsn hkt htl htk hty htb ih hF hF2 hbF hbF2 HK;have hlen1:(ar++[nm]).length=ar.length+1:=by simp
         rw [hlen1]at cR;clear hlen1;go_wp2_with fail
         refine cR.mono ?_;rintro e w2 ⟨rfl,hP2,hF3⟩;have HF4:=hideK (HF2.out.trans hF3);clear cR y0 y1 y2 y3 y4 hF3;by_cases hr:r2.1=0
         ·have hrb:(r2.1 != 0)=false:=by simpa using hr
          have HR:=hideK hr;clear hr;go_wp2_with fail
          go_roundw
          case rel=>exact ⟨k+1,by omega,by go_num,by rw [HS.out];exact HR.out,by rw [HS.out];exact hP2,HF4.out⟩
          case measure=>simp [intOf];omega
         ·have hrb:(r2.1 != 0)=true:=by simpa using hr
          have HR:Hid (chkTL (ar++[nm]) ks (0,c+1)=r2):=by
           rw [chkTL_split (ar++[nm]) ks (k+1) _ (by rw [HS.out];exact hr)];exact HS.out
          clear hr;go_wp2_with fail
          go_ret
          rw [HR.out];exact ⟨rfl,hP2,S1.out.fr.trans HF4.out⟩
       ·have hltz:¬(k:Int)<(ks.length:Int):=by omega
        have hfin:ks.take k=ks:=List.take_of_length_le (by omega)
        rw [hfin]at hz hP;have HZ:=hideK hz;have HF:=hideK hF;clear hz hfin hF HK ih;go_wp2_with fail
        go_ret
        rw [HZ.out];exact ⟨rfl,hP,S1.out.fr.trans HF.out⟩
    ·rw [if_pos ⟨rfl,rfl⟩]at hpe
     subst hpe;clear ih;go_enter Tryz.func48,Tryz.ntmps48
     go_wp2_with fail
     refine CP.out.mono ?_;rintro e w1 ⟨rfl,hb1⟩;have s1:=S0.out.keep hb1;have S1:=hideK s1;obtain ⟨x0,x1,x2,x3,x4⟩:=s1.cells;simp only at x0 x1 x2 x3 x4;have HAR:=hideK (har.keep s1.fr);have HK:=hideK (KT.keep ((s1.fr.below (by omega)).mono hB) hkt)
     have HARL:Hid (ar.length≤c+1):=by show _≤_;omega
     have HKI:=hideK (KT.mono (Nat.le_trans hB (Nat.le_of_lt s1.pc.lt)) HK.out);clear s1 hb1 har hkt CP S0;go_wp2_with fail
     refine (CI.out _ HKI.out).mono ?_;rintro e w2 ⟨rfl,hb2⟩;have S2:=hideK (S1.out.keep hb2);go_wp2_with fail
     go_ret
     exact ⟨rfl,S2.out.pc,S2.out.fr⟩
   ·have k8:(kd==8)=false:=by simpa using h8
    by_cases h9:kd=9
    ·subst h9
     have hkl:(ks.length:Int)≤9223372036854775807:=by have:=hbd.kids;simp only at *;omega
     have CN:=hideK (fun (W:World) (h:AR W pb ar aa ca)=>containsA_any ar nm aa ca pb W h (by omega))
     generalize hasN ar nm=q at CN hpe;cases q
     ·rw [if_pos ⟨rfl,rfl⟩]at hpe
      subst hpe;clear ih;go_enter Tryz.func48,Tryz.ntmps48
      go_wp2_with fail
      refine CP.out.mono ?_;rintro e w1 ⟨rfl,hb1⟩;have s1:=S0.out.keep hb1;have S1:=hideK s1;obtain ⟨x0,x1,x2,x3,x4⟩:=s1.cells;simp only at x0 x1 x2 x3 x4;have HAR:=hideK (har.keep s1.fr);have HK:=hideK (KT.keep ((s1.fr.below (by omega)).mono hB) hkt)
      have HARL:Hid (ar.length≤c+1):=by show _≤_;omega
      clear s1 hb1 har hkt CP S0;go_wp2_with fail
      refine (CN.out _ HAR.out).mono ?_;rintro e w2 ⟨rfl,rfl⟩;go_wp2_with fail
      go_ret
      exact ⟨rfl,S1.out.pc,S1.out.fr⟩
     ·rw [if_neg (by simp),if_neg (fun h=>h8 h.1),if_neg h8]at hpe
      subst hpe;go_enter Tryz.func48,Tryz.ntmps48
      go_wp2_with fail
      refine CP.out.mono ?_;rintro e w1 ⟨rfl,hb1⟩;have s1:=S0.out.keep hb1;have S1:=hideK s1;obtain ⟨x0,x1,x2,x3,x4⟩:=s1.cells;simp only at x0 x1 x2 x3 x4;have HAR:=hideK (har.keep s1.fr);have HK:=hideK (KT.keep ((s1.fr.below (by omega)).mono hB) hkt)
      have HARL:Hid (ar.length≤c+1):=by show _≤_;omega
      clear s1 hb1 har hkt CP S0;go_wp2_with fail
      refine (CN.out _ HAR.out).mono ?_;rintro e w2 ⟨rfl,rfl⟩;clear CN;go_wp2_with fail
      have hpbW:pb≤w2.heap.size:=by have:=S1.out.pc.lt;omega
      go_loopw [56] (fun i wr=>∃k:Nat,k≤ks.length∧i = .int .i64 (k:Int)∧(chkTL ar (ks.take k) (0,c+1)).1=0∧PC wr pb (chkTL ar (ks.take k) (0,c+1)).2∧FR pb w2 wr) (fun i _=>ks.length - (intOf i).toNat)
      case atStart=>exact ⟨0,Nat.zero_le _,rfl,rfl,S1.out.pc,World.grownBy.refl _ _⟩
      case round =>
       obtain ⟨k,hk,rfl,hz,hP,hF⟩:=hrel;clear x0 x1 x2 x3 x4;by_cases hlt':k<ks.length
       ·have hltz:(k:Int)<(ks.length:Int):=by omega
        obtain ⟨d',rfl⟩:∃d',d=d'+1:=by
         cases d with
         | zero=>have:=HK.out;simp only [KT]at this;rw [this]at hlt';simp at hlt'
         | succ d'=>exact ⟨d',rfl⟩
        have hkt:=HK.out;rcases hkt with hkt|⟨b,o,rfl,hbB,hkt⟩
        ·rw [hkt]at hlt';simp at hlt'
        ·obtain ⟨al',cl',ak',ck',hty,htb,htl,htk⟩:=hkt k hlt'
         have hbF:=hF.below hpbW;obtain ⟨y0,y1,y2,y3,y4⟩:=hty.keep hbF (by omega)
         have hcnt:=chkTL_cnt ar (ks.take k) (0,c+1) (fun q _=>chkT_cnt q) (by show c+1≤60;omega) hz
         have hsn:chkTL ar (ks.take (k+1)) (0,c+1)=chkT ks[k] ar (chkTL ar (ks.take k) (0,c+1)).2:=by
          rw [List.take_succ_eq_append_getElem hlt',chkTL_snoc,if_neg (by simpa using hz)]
         have hF2:=hF.trans (FR.al (.cells #[.int .i64 ks[k].kind,.int .i64 ks[k].so,.string ks[k].name,.slice al' ks[k].labels.length cl',.slice ak' ks[k].kids.length ck'] 37));have hbF2:=(hF2.below hpbW).mono hB;have cR:=ih d' (by omega) ks[k] al' cl' ak' ck' ar aa ca (chkTL ar (ks.take k) (0,c+1)).2 pb B (wr.alloc (.cells #[.int .i64 ks[k].kind,.int .i64 ks[k].so,.string ks[k].name,.slice al' ks[k].labels.length cl',.slice ak' ks[k].kids.length ck'] 37)) htb.w
          (NAt.keep hbF2 htl) (KT.keep hbF2 htk) (HAR.out.keep hF2) hB (hP.al _) hcnt.2 (Nat.le_trans HARL.out hcnt.1)
         simp only [tyVal]at cR;have HF2:=hideK hF2;generalize chkT ks[k] ar (chkTL ar (ks.take k) (0,c+1)).2=r2 at cR hsn;have HS:=hideK hsn;have HP:=hideK hP;have hszF:w2.heap.size≤wr.heap.size:=hF.size;clear hz hP hcnt hsn hkt htl htk hty htb ih hF hF2 hbF hbF2 HK;go_wp2_with fail
         refine cR.mono ?_;rintro e w2 ⟨rfl,hP2,hF3⟩;have HF4:=hideK (HF2.out.trans hF3);clear cR y0 y1 y2 y3 y4 hF3;by_cases hr:r2.1=0
         ·have hrb:(r2.1 != 0)=false:=by simpa using hr
          have HR:=hideK hr;clear hr;go_wp2_with fail
          go_roundw
          case rel=>exact ⟨k+1,by omega,by go_num,by rw [HS.out];exact HR.out,by rw [HS.out];exact hP2,HF4.out⟩
          case measure=>simp [intOf];omega
         ·have hrb:(r2.1 != 0)=true:=by simpa using hr
          have HR:Hid (chkTL ar ks (0,c+1)=r2):=by
           rw [chkTL_split ar ks (k+1) _ (by rw [HS.out];exact hr)];exact HS.out
          clear hr;go_wp2_with fail
          go_ret
          rw [HR.out];exact ⟨rfl,hP2,S1.out.fr.trans HF4.out⟩
       ·have hltz:¬(k:Int)<(ks.length:Int):=by omega
        have hfin:ks.take k=ks:=List.take_of_length_le (by omega)
        rw [hfin]at hz hP;have HZ:=hideK hz;have HF:=hideK hF;clear hz hfin hF HK ih;go_wp2_with fail
        go_ret
        rw [HZ.out];exact ⟨rfl,hP,S1.out.fr.trans HF.out⟩
    ·have k9:(kd==9)=false:=by simpa using h9
     rw [if_neg (fun h=>h9 h.1),if_neg (fun h=>h8 h.1),if_neg h8]at hpe
     subst hpe;have hkl:(ks.length:Int)≤9223372036854775807:=by have:=hbd.kids;simp only at *;omega
     go_enter Tryz.func48,Tryz.ntmps48
     go_wp2_with fail
     refine CP.out.mono ?_;rintro e w1 ⟨rfl,hb1⟩;have s1:=S0.out.keep hb1;have S1:=hideK s1;obtain ⟨x0,x1,x2,x3,x4⟩:=s1.cells;simp only at x0 x1 x2 x3 x4;have HAR:=hideK (har.keep s1.fr);have HK:=hideK (KT.keep ((s1.fr.below (by omega)).mono hB) hkt)
     have HARL:Hid (ar.length≤c+1):=by show _≤_;omega
     clear s1 hb1 har hkt CP S0;go_wp2_with fail
     have hpbW:pb≤w1.heap.size:=by have:=S1.out.pc.lt;omega
     go_loopw [56] (fun i wr=>∃k:Nat,k≤ks.length∧i = .int .i64 (k:Int)∧(chkTL ar (ks.take k) (0,c+1)).1=0∧PC wr pb (chkTL ar (ks.take k) (0,c+1)).2∧FR pb w1 wr) (fun i _=>ks.length - (intOf i).toNat)
     case atStart=>exact ⟨0,Nat.zero_le _,rfl,rfl,S1.out.pc,World.grownBy.refl _ _⟩
     case round =>
      obtain ⟨k,hk,rfl,hz,hP,hF⟩:=hrel;clear x0 x1 x2 x3 x4;by_cases hlt':k<ks.length
      ·have hltz:(k:Int)<(ks.length:Int):=by omega
       obtain ⟨d',rfl⟩:∃d',d=d'+1:=by
        cases d with
        | zero=>have:=HK.out;simp only [KT]at this;rw [this]at hlt';simp at hlt'
        | succ d'=>exact ⟨d',rfl⟩
       have hkt:=HK.out;rcases hkt with hkt|⟨b,o,rfl,hbB,hkt⟩
       ·rw [hkt]at hlt';simp at hlt'
       ·obtain ⟨al',cl',ak',ck',hty,htb,htl,htk⟩:=hkt k hlt'
        have hbF:=hF.below hpbW;obtain ⟨y0,y1,y2,y3,y4⟩:=hty.keep hbF (by omega)
        have hcnt:=chkTL_cnt ar (ks.take k) (0,c+1) (fun q _=>chkT_cnt q) (by show c+1≤60;omega) hz
        have hsn:chkTL ar (ks.take (k+1)) (0,c+1)=chkT ks[k] ar (chkTL ar (ks.take k) (0,c+1)).2:=by
         rw [List.take_succ_eq_append_getElem hlt',chkTL_snoc,if_neg (by simpa using hz)]
        have hF2:=hF.trans (FR.al (.cells #[.int .i64 ks[k].kind,.int .i64 ks[k].so,.string ks[k].name,.slice al' ks[k].labels.length cl',.slice ak' ks[k].kids.length ck'] 37));have hbF2:=(hF2.below hpbW).mono hB;have cR:=ih d' (by omega) ks[k] al' cl' ak' ck' ar aa ca (chkTL ar (ks.take k) (0,c+1)).2 pb B (wr.alloc (.cells #[.int .i64 ks[k].kind,.int .i64 ks[k].so,.string ks[k].name,.slice al' ks[k].labels.length cl',.slice ak' ks[k].kids.length ck'] 37)) htb.w
         (NAt.keep hbF2 htl) (KT.keep hbF2 htk) (HAR.out.keep hF2) hB (hP.al _) hcnt.2 (Nat.le_trans HARL.out hcnt.1)
        simp only [tyVal]at cR;have HF2:=hideK hF2;generalize chkT ks[k] ar (chkTL ar (ks.take k) (0,c+1)).2=r2 at cR hsn;have HS:=hideK hsn;have HP:=hideK hP;have hszF:w1.heap.size≤wr.heap.size:=hF.size;clear hz hP hcnt hsn hkt htl htk hty htb ih hF hF2 hbF hbF2 HK;go_wp2_with fail
        refine cR.mono ?_;rintro e w2 ⟨rfl,hP2,hF3⟩;have HF4:=hideK (HF2.out.trans hF3);clear cR y0 y1 y2 y3 y4 hF3;by_cases hr:r2.1=0
        ·have hrb:(r2.1 != 0)=false:=by simpa using hr
         have HR:=hideK hr;clear hr;go_wp2_with fail
         go_roundw
         case rel=>exact ⟨k+1,by omega,by go_num,by rw [HS.out];exact HR.out,by rw [HS.out];exact hP2,HF4.out⟩
         case measure=>simp [intOf];omega
        ·have hrb:(r2.1 != 0)=true:=by simpa using hr
         have HR:Hid (chkTL ar ks (0,c+1)=r2):=by
          rw [chkTL_split ar ks (k+1) _ (by rw [HS.out];exact hr)];exact HS.out
         clear hr;go_wp2_with fail
         go_ret
         rw [HR.out];exact ⟨rfl,hP2,S1.out.fr.trans HF4.out⟩
      ·have hltz:¬(k:Int)<(ks.length:Int):=by omega
       have hfin:ks.take k=ks:=List.take_of_length_le (by omega)
       rw [hfin]at hz hP;have HZ:=hideK hz;have HF:=hideK hF;clear hz hfin hF HK ih;go_wp2_with fail
       go_ret
       rw [HZ.out];exact ⟨rfl,hP,S1.out.fr.trans HF.out⟩
theorem checkT_any(d:Nat):CTSaid d:=by
 induction d using Nat.strongRecOn with
 | _ d ih=>exact checkT_step d ih
def chkTy(t:Ty):Int:=(chkT t [] 0).1
theorem typesCheck_w(d:Nat)(t:Ty)(al:OAd)(cl:Nat)(ak:OAd)(ck:Nat)(w:World)(hbd:TyBw t)(hla:LA w w.heap.size t.labels al)(hkt:KT w w.heap.size d t.kids ak):
  Calls Tryz.prog 27 #[tyVal t al cl ak ck] w fun e w'=>e = .returned (.int .i64 (chkTy t))∧Below w.heap.size w w':=by
 have hb2:Below w.heap.size w ((w.alloc (.cells #[.int .i64 t.kind,.int .i64 t.so,.string t.name,.slice al t.labels.length cl,.slice ak t.kids.length ck] 37)).alloc (.cells #[.int .i64 0] 3)):=((bR _ _).alloc (nR _) _).alloc (by simp) _
 have c:=checkT_any d t al cl ak ck [] none 0 0 (w.heap.size+1) w.heap.size ((w.alloc (.cells #[.int .i64 t.kind,.int .i64 t.so,.string t.name,.slice al t.labels.length cl,.slice ak t.kids.length ck] 37)).alloc (.cells #[.int .i64 0] 3)) hbd
  (NAt.keep hb2 hla) (KT.keep hb2 hkt) (.inl ⟨rfl,rfl,rfl⟩) (by omega) ⟨by simp,by go_cell,by go_simp⟩ (by omega) (by simp)
 unfold chkTy;simp only [tyVal,List.length_nil]at c ⊢;clear hla hkt hbd;generalize chkT t [] 0=r at c ⊢;go_enter Tryz.func27,Tryz.ntmps27
 go_wp2_with fail
 refine c.mono ?_;rintro e w1 ⟨rfl,hp,hb⟩;have hfin:Below w.heap.size w w1:=hb2.trans ((hb.below (by simp)).mono (by omega))
 clear hb hp c;go_wp2_with fail
 go_ret
 exact ⟨rfl,hfin⟩
theorem typesCheck_any(d:Nat)(t:Ty)(al:OAd)(cl:Nat)(ak:OAd)(ck:Nat)(w:World)(hbd:TyBd t cl ck)(hla:LA w w.heap.size t.labels al)(hkt:KT w w.heap.size d t.kids ak):
  Calls Tryz.prog 27 #[tyVal t al cl ak ck] w fun e w'=>e = .returned (.int .i64 (chkTy t))∧Below w.heap.size w w':=typesCheck_w d t al cl ak ck w hbd.w hla hkt
end Go.Proofs.YtmamabhhgfcjcaaGreatDoor
