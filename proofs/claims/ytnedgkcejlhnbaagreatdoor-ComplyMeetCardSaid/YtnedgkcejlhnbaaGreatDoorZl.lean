/-
  The contracts of duetref.small, IsName, levels and Level, for every text.
-/
import Derived.Test.YtnedgkcejlhnbaaGreatDoorSz
import Derived.Test.YtnedgkcejlhnbaaGreatDoorKc
import Derived.Test.YtnedgkcejlhnbaaGreatDoorKa
import Derived.Test.YtnedgkcejlhnbaaGreatDoorKb
import Derived.Deep.RegionHeld3
import Derived.Test.YtnedgkcejlhnbaaGreatDoorKe
import Derived.Deep.Slices
import Derived.Test.YtnedgkcejlhnbaaGreatDoorProg
import Derived.Ground.NamesProg
import Derived.Shelf.Spec.SlicesGrow
import Derived.Test.YtnedgkcejlhnbaaGreatDoorZk
import Derived.Test.YtnedgkcejlhnbaaGreatDoorIf
import Derived.Test.YtnedgkcejlhnbaaGreatDoorPk
import Derived.Sort.OwnSorted
import Derived.Sort.Grow
import Derived.Sort.EveryDepth
import Derived.Lib.OwnBridge
set_option maxRecDepth 100000
set_option maxHeartbeats 4000000
namespace Go.Proofs.YtnedgkcejlhnbaaGreatDoor
open Go.RowKit Go.Shelf
theorem run_append_none{P:Program}(w:World)(base:Nat)(t ty e:TypeId)(i:TypeInfo)(size:Nat)(ht:P.underlying t=some (.slice e))(hi:P.info? e=some i)(c:Nat)
  (v:Value) (n:Nat) (xs:List Value) (hown:w.ownsRow base e size v n xs) :
  (Builtin.append_ #[t,t] ty #[v,.slice none 0 c]).run P w = .ok v w:=by
 rcases hown.2 with ⟨rfl,rfl⟩|⟨g,cap,cur,rfl,_,_,hnc,_⟩
 ·simp [Builtin.append_,run_underlying ht,sizeOf,typeInfo,hi,Builtin.lenOf,Builtin.firstCells]
 ·simp [Builtin.append_,run_underlying ht,sizeOf,typeInfo,hi,Builtin.lenOf,Builtin.firstCells,hnc,storeCells]
theorem run_append_src{P:Program}(w:World)(t ty e:TypeId)(base:Nat)(i:TypeInfo)(z:Value)(size bytes:Nat)(ht:P.underlying t=some (.slice e))(hi:P.info? e=some i)(hz:i.zero=some z)
  (hsize:i.size=size) (hby:i.bytes=bytes) (hzs:z.cells.size=size) (hsz:0<size)
  (v:Value) (n:Nat) (xs:List Value) (hown:w.ownsRow base e size v n xs) (sa:OAd) (m c:Nat) (news:List Value) (hl:news.length=m*size) (h0:sa=none→m=0)
  (hnews:∀ad,sa=some ad→∀j u,news[j]? = some u→w.cell? (ad.add j)=some u) (h1:∀u∈news,u.oneCell'=true) (h63:n+m≤maxLen) (hbytes:(n+m)*bytes≤140737488355328) (hbase:base≤w.heap.size) :
  ∃v' w',(Builtin.append_ #[t,t] ty #[v,.slice sa m c]).run P w = .ok v' w'∧w'.ownsRow base e size v' (n+m) (xs++news)∧w.grownBy w' v.ownBlock∧(v'.ownBlock=v.ownBlock∨v'.ownBlock=some w.heap.size):=by
 cases sa with
 | none =>
  have hm:=h0 rfl;subst hm;have hn:news=[]:=List.eq_nil_of_length_eq_zero (by simpa using hl)
  subst hn;exact ⟨v,w,run_append_none w base _ _ e i size ht hi c v n xs hown,by simpa using hown,World.grownBy.refl _ _,.inl rfl⟩
 | some ad =>
  obtain ⟨v',w',hr,h2,h3,_,h5⟩:=run_append_own_at (P:=P) w base t ty e i z size bytes ht hi hz hsize hby hzs hsz v n xs hown ad m c news hl (hnews ad rfl) h1 h63 hbytes hbase;exact ⟨v',w',hr,h2,h3,h5⟩
theorem wp_append_src{P:Program}(w:World){o:Oper}{a:Act}{K:Act→World→Prop}{Q:Exit→Act→World→Prop}(s x:Operand)(t:TypeId)
  (ho:o.op = .call { callee:=.builtin .append,args:=#[s,x],argTypes:=#[t,t] })
  (base:Nat) (e:TypeId) (i:TypeInfo) (z:Value) (size bytes:Nat) (ht:P.underlying t=some (.slice e)) (hi:P.info? e=some i) (hz:i.zero=some z)
  (hsize:i.size=size) (hby:i.bytes=bytes) (hzs:z.cells.size=size) (hsz:0<size)
  (v:Value) (n:Nat) (xs:List Value) (hs:a.eval s=v) (hown:w.ownsRow base e size v n xs) (sa:OAd) (m c:Nat) (news:List Value) (hx:a.eval x = .slice sa m c) (hl:news.length=m*size) (h0:sa=none→m=0)
  (hnews:∀ad,sa=some ad→∀j u,news[j]? = some u→w.cell? (ad.add j)=some u) (h1:∀u∈news,u.oneCell'=true) (h63:n+m≤maxLen) (hbytes:(n+m)*bytes≤140737488355328) (hbase:base≤w.heap.size)
  (h:∀v' w',w'.ownsRow base e size v' (n+m) (xs++news)→w.grownBy w' v.ownBlock→(v'.ownBlock=v.ownBlock∨v'.ownBlock=some w.heap.size)→K (a.put o.dst v') w'):o.wp P a w K Q:=by
 obtain ⟨v',w',hr,h2,h3,h4⟩:=run_append_src (P:=P) w t o.type e base i z size bytes ht hi hz hsize hby hzs hsz v n xs hown sa m c news hl h0 hnews h1 h63 hbytes hbase;unfold Oper.wp execOp;simp only [ho,resolve,invoke,builtin,Sem.run_bind,Sem.run_pure,Result.andThen_ok,List.map_toArray,List.map_cons,List.map_nil,hs,hx,hr];exact h v' w' h2 h3 h4
theorem wpList_append_src{P:Program}(w:World){ops:Array Oper}{rest:List Oper}{o:Oper}{a:Act}{Q:Exit→Act→World→Prop}(hgd:o.guard=none)(s x:Operand)(t:TypeId)
  (ho:o.op = .call { callee:=.builtin .append,args:=#[s,x],argTypes:=#[t,t] })
  (base:Nat) (e:TypeId) (i:TypeInfo) (z:Value) (size bytes:Nat) (ht:P.underlying t=some (.slice e)) (hi:P.info? e=some i) (hz:i.zero=some z)
  (hsize:i.size=size) (hby:i.bytes=bytes) (hzs:z.cells.size=size) (hsz:0<size)
  (v:Value) (n:Nat) (xs:List Value) (hs:a.eval s=v) (hown:w.ownsRow base e size v n xs) (sa:OAd) (m c:Nat) (news:List Value) (hx:a.eval x = .slice sa m c) (hl:news.length=m*size) (h0:sa=none→m=0)
  (hnews:∀ad,sa=some ad→∀j u,news[j]? = some u→w.cell? (ad.add j)=some u) (h1:∀u∈news,u.oneCell'=true) (h63:n+m≤maxLen) (hbytes:(n+m)*bytes≤140737488355328) (hbase:base≤w.heap.size)
  (h:∀v' w',w'.ownsRow base e size v' (n+m) (xs++news)→w.grownBy w' v.ownBlock→(v'.ownBlock=v.ownBlock∨v'.ownBlock=some w.heap.size)→wpList P ops Q rest (a.put o.dst v') w'):wpList P ops Q (o::rest) a w :=
 wpList_plain hgd fun _ hK=>wp_append_src w s x t ho base e i z size bytes ht hi hz hsize hby hzs hsz v n xs hs hown sa m c news hx hl h0 hnews h1 h63 hbytes hbase fun v' w' h2 h3 h4=>hK _ _ (h v' w' h2 h3 h4)
end Go.Proofs.YtnedgkcejlhnbaaGreatDoor
namespace Go.Proofs
open Go.Shelf
def Tryz.growS_ren:Go.Shelf.Ren:=⟨fun|4=>63|n=>n,fun|22=>22|25=>9|3=>3|4=>4|9=>9|20=>20|0=>0|n=>n,fun|n=>n⟩
theorem Tryz.growS:Go.Proofs.Lays8.n4 Tryz.prog Tryz.growS_ren:={
 mixed:=by kernel_rfl
 f4:=⟨Tryz.f63.name,by decide,Tryz.func63.trans (congrArg some (by kernel_rfl))⟩
 t0:=Tryz.underlying0
 a0:=Tryz.isAgg0
 z0:=Tryz.sizeOf0
 v0:=Tryz.zeroValue0
 t3:=Tryz.underlying3
 a3:=Tryz.isAgg3
 z3:=Tryz.sizeOf3
 v3:=Tryz.zeroValue3
 t4:=Tryz.underlying4
 a4:=Tryz.isAgg4
 z4:=Tryz.sizeOf4
 v4:=Tryz.zeroValue4
 t9:=Tryz.underlying9
 a9:=Tryz.isAgg9
 z9:=Tryz.sizeOf9
 v9:=Tryz.zeroValue9
 t20:=Tryz.underlying20
 a20:=Tryz.isAgg20
 z20:=Tryz.sizeOf20
 v20:=Tryz.zeroValue20
 t22:=Tryz.underlying22
 a22:=Tryz.isAgg22
 z22:=Tryz.sizeOf22
 v22:=Tryz.zeroValue22 }
end Go.Proofs
namespace Go.Proofs.YtnedgkcejlhnbaaGreatDoor
open Go.RowKit Go.Sort
theorem behindZ_any(n:Nd)(l:ByteArray)(a1 a2:OAd)(c1 c2 B:Nat)(w:World)(hL:LA w B n.labs a1)(hT:NI w B n.to a2)(hB:B≤w.heap.size)(hn:okN n):
  Calls Tryz.prog 51 #[ndVal n a1 c1 a2 c2,.string l] w fun e w'=>e = .returned (.int .i64 (behI n l))∧Below w.heap.size w w':=by
 have hA:Below w.heap.size w (w.alloc (.cells #[.int .i64 n.kind,.int .i64 n.so,.slice a1 n.labs.length c1,.slice a2 n.to.length c2] 56)):=(Below.refl _ _).alloc (Nat.le_refl _) _;have h6:=shp_len (okN_shp hn);have c:=index_any n.labs l a1 c1 B (w.alloc (.cells #[.int .i64 n.kind,.int .i64 n.so,.slice a1 n.labs.length c1,.slice a2 n.to.length c2] 56)) (hL.keep (hA.mono hB)) (by omega)
 by_cases hh:hasN n.labs l=true
 ·have hlt:=idxB_lt ((hasN_iff _ _).1 hh)
  have hto:=(okN_len hn).2.2 _ hlt;obtain ⟨b,o,rfl,hb,hc⟩:=toAt_cell hT hto;have hc2:=(hA.cell (p:=⟨b,o+idxB n.labs l,none⟩) (by show b<_;omega)).trans hc
  have e1:idxZ n.labs l=(idxB n.labs l:Int):=if_pos hh;have e2:behI n l=(toAt n (idxB n.labs l):Int):=if_pos hh;rw [e1]at c;rw [e2];have HA:=hideK hA;have hi0:(0:Int)≤(idxB n.labs l:Int):=by omega
  have hi1:(idxB n.labs l:Int)<(n.to.length:Int):=by omega
  have hi2:decide ((idxB n.labs l:Int) ≥ 0)=true:=by simp
  simp only [ndVal]at c ⊢;generalize toAt n (idxB n.labs l)=x at *;generalize idxB n.labs l=i at *;clear hA hL hT hh e1 e2 h6 hn hc;go_enter Tryz.func51,Tryz.ntmps51
  go_wp2_with fail
  refine c.mono ?_;rintro e w1 ⟨rfl,rfl⟩;go_wp2_with fail
  go_ret
  exact ⟨rfl,HA.out⟩
 ·have e1:idxZ n.labs l = -1:=if_neg hh
  have e2:behI n l = -1:=if_neg hh;rw [e1]at c;rw [e2];have HA:=hideK hA;simp only [ndVal]at c ⊢;clear hA hL hT hh e1 e2 h6 hn;go_enter Tryz.func51,Tryz.ntmps51
  go_wp2_with fail
  refine c.mono ?_;rintro e w1 ⟨rfl,rfl⟩;go_wp2_with fail
  go_ret
  exact ⟨rfl,HA.out⟩
theorem la_news{W:World}{B:Nat}{ls:List ByteArray}{a:OAd}(h:LA W B ls a)(h0:0<ls.length):(a=none→ls.length=0)∧∀ad,a=some ad→∀j u,(ls.map Value.string)[j]? = some u→W.cell? (ad.add j)=some u:=by
 rcases h with h|⟨b,o,rfl,_,hc⟩
 ·have:ls=[]:=by simpa using h
  rw [this]at h0;simp at h0
 ·refine ⟨fun q=>(by cases q),fun ad e j u hu=>?_⟩
  cases e
  obtain ⟨hj,e⟩:=List.getElem?_eq_some_iff.1 hu;have e2:(⟨b,o,none⟩:Addr).add j=⟨b,o+j,none⟩:=by unfold Addr.add;split <;> simp_all
  rw [e2,← e];exact hc j hj
theorem own_grow{w:World}{cs:Array Value}{G:Nat}(hm:G≤maxLen)(hs:cs.size=G*1):(w.drew.alloc (.cells cs 9)).ownsRow w.heap.size 9 1 (.slice (some ⟨w.heap.size,0,none⟩) 0 G) 0 []:=World.ownsRow_made w.drew cs G (Nat.le_refl _) hm hs
theorem growS_nil(n:Nat)(w:World)(h0:0<n)(hn:n≤1000):
  Calls Tryz.prog 63 #[.slice none 0 0,.int .i64 (n:Int)] w fun e w'=>∃v,e = .returned v∧w'.ownsRow w.heap.size 9 1 v 0 []∧Below w.heap.size w w':=by
 obtain ⟨i0,hi,hz0,hz1,hz2⟩:=info_parts infoStZ;have c:=Any8.slices_Grow_grow Tryz.growS i0 (.string ⟨#[]⟩) hi hz0 (by omega) none 0 0 n [] w (Nat.le_refl _) (by omega) (by rw [hz2];omega) (by omega) (by simp) (fun _=>rfl) (fun a ha=>by cases ha)
 refine Calls.mono c ?_;rintro e w' ⟨rfl,rfl⟩;refine ⟨_,rfl,own_grow ?_ ?_,((Below.refl _ _).drew.alloc (by simp) _)⟩
 ·exact grownCap_le_maxLen w (0+n) 0 _ (by unfold maxLen;omega)
 ·have hg:0+n≤grownCap w (0+n) 0 9:=grownCap_ge w _ _ _
  rw [Nat.zero_add]at hg;have hz:∀k,(Builtin.zeroCells (Value.string ⟨#[]⟩).cells k).size=k:=fun k=>by simp [Builtin.zeroCells,Value.cells]
  have e1:Tryz.growS_ren.t 25=9:=rfl;rw [e1];simp [hz];omega
theorem below_growZ{B0:Nat}{w wr w7:World}{v:Value}{row:List Value}{n:Nat}{e:TypeId}(hb:Below B0 w wr)(h0:B0≤wr.heap.size)(ho:wr.ownsRow B0 e 1 v n row)(hg:wr.grownBy w7 v.ownBlock):Below B0 w w7:=hb.grown hg h0 (fun j hj=>(ho.lt j hj).1)
theorem concatZ_any(ls1 ls3:List ByteArray)(a1 a3:OAd)(c1 c3 B lb:Nat)(w:World)(hL1:LA w B ls1 a1)(hL3:LA w B ls3 a3)(hB:B≤w.heap.size)(h1:0<ls1.length)(h3:0<ls3.length)(g1:ls1.length≤6)(g3:ls3.length≤6)
  (d0:w.cell? ⟨lb,0,none⟩=some (.slice a1 ls1.length c1)) (d1:w.cell? ⟨lb,1,none⟩=some (.slice a3 ls3.length c3)) (hlb:lb<w.heap.size) :
  Calls Tryz.prog 48 #[.slice (some ⟨lb,0,none⟩) 2 2] w fun e w'=>∃v,e = .returned v∧w'.ownsRow w.heap.size 9 1 v (ls1.length+ls3.length) ((ls1++ls3).map Value.string)∧Below w.heap.size w w':=by
 obtain ⟨i0,hi,hz0,hz1,hz2⟩:=info_parts infoStZ;have cG:=growS_nil (ls1.length+ls3.length) w (by omega) (by omega)
 have N1:=hideK (fun (W:World) (hb:Below w.heap.size w W)=>la_news (hL1.keep (hb.mono hB)) h1)
 have N3:=hideK (fun (W:World) (hb:Below w.heap.size w W)=>la_news (hL3.keep (hb.mono hB)) h3)
 have hw:IntKind.i64.wrap ((ls1.length:Int)+(ls3.length:Int))=(ls1.length:Int)+(ls3.length:Int):=wr_small (by omega) (by omega)
 have hw0:IntKind.i64.wrap (0+(ls1.length:Int))=(ls1.length:Int):=by rw [Int.zero_add];exact wr_small (by omega) (by omega)
 have hn1:¬((ls1.length:Int)<0):=by omega
 have hn2:¬((ls1.length:Int)+(ls3.length:Int)<0):=by omega
 have ecast:((ls1.length+ls3.length:Nat):Int)=(ls1.length:Int)+(ls3.length:Int):=by omega
 have HG:=hideK cG;clear hL1 hL3 cG;go_enter Tryz.func48,Tryz.ntmps48
 go_wp2_with fail
 go_loopw [3,11] (fun s i wr=>wr=w∧((s = .int .i64 0∧i = .int .i64 0)∨(s = .int .i64 (ls1.length:Int)∧i = .int .i64 1)∨(s = .int .i64 ((ls1.length:Int)+(ls3.length:Int))∧i = .int .i64 2))) (fun _ i _=>2 - (intOf i).toNat)
 case atStart=>exact ⟨rfl,.inl ⟨rfl,rfl⟩⟩
 case round =>
  obtain ⟨hwr,hrel⟩:=hrel;have hwr':w=wr:=hwr.symm;subst hwr';obtain ⟨rfl,rfl⟩|⟨rfl,rfl⟩|⟨rfl,rfl⟩:=hrel
  ·clear HG N1 N3
   go_wp2_with fail
   go_roundw
   case rel=>exact ⟨by trivial,.inr (.inl ⟨by first|rfl|(simp;done)|(rw [hw0]),rfl⟩)⟩
   case measure=>simp [intOf]
  ·clear HG N1 N3
   go_wp2_with fail
   go_roundw
   case rel=>exact ⟨by trivial,.inr (.inr ⟨by first|rfl|(rw [hw]),rfl⟩)⟩
   case measure=>simp [intOf]
  ·have cG:=HG.out
   rw [ecast]at cG;go_wp2_with fail
   refine cG.mono ?_;rintro e w2 ⟨v2,rfl,hO2,hb2⟩;have HO2:=hideK hO2;have HB2:=hideK hb2;have d0':=(hb2.cell (p:=⟨lb,0,none⟩) hlb).trans d0;have d1':=(hb2.cell (p:=⟨lb,1,none⟩) hlb).trans d1;have HD:=hideK (fun (W:World) (hb:Below w.heap.size w W)=>And.intro ((hb.cell (p:=⟨lb,0,none⟩) hlb).trans d0) ((hb.cell (p:=⟨lb,1,none⟩) hlb).trans d1))
   clear cG hO2 hb2 d0 d1 d0' d1' HG;go_wp2_with fail
   go_loopw [6,27] (fun v i wr=>Below w.heap.size w wr∧((wr.ownsRow w.heap.size 9 1 v 0 []∧i = .int .i64 0)∨(wr.ownsRow w.heap.size 9 1 v ls1.length (ls1.map Value.string)∧i = .int .i64 1)∨(wr.ownsRow w.heap.size 9 1 v (ls1.length+ls3.length) ((ls1++ls3).map Value.string)∧i = .int .i64 2))) (fun _ i _=>2 - (intOf i).toNat)
   case atStart=>exact ⟨HB2.out,.inl ⟨HO2.out,rfl⟩⟩
   case round =>
    obtain ⟨hb,⟨hO,rfl⟩|⟨hO,rfl⟩|⟨hO,rfl⟩⟩:=hrel
    ·have x0:=(HD.out wr hb).1
     obtain ⟨n0,n1⟩:=N1.out wr hb;have HN1:=hideK n1;have HN0:=hideK n0;have HO:=hideK hO;have HB:=hideK hb;have hbs:=hb.size;clear n1 n0 hO hb;go_wp2_with (at_builtin;refine wpList_append_src _ rfl (.tmp 31) (.tmp 32) 22 rfl w.heap.size 9 i0 (.string ⟨#[]⟩) 1 16 Tryz.underlying22 hi hz0 hz1 hz2 rfl (by decide) _ _ _ rfl HO.out a1 ls1.length c1 (ls1.map Value.string) rfl (by simp) HN0.out HN1.out (by intro u hu;obtain ⟨x,_,rfl⟩:=List.mem_map.1 hu;rfl) (by unfold maxLen;omega) (by omega) hbs ?_;intro v7 w7 hO7 hg7 hat7)
     go_roundw
     case rel=>exact ⟨below_growZ HB.out hbs HO.out hg7,.inr (.inl ⟨by simpa using hO7,rfl⟩)⟩
     case measure=>simp [intOf]
    ·have x0:=(HD.out wr hb).2
     obtain ⟨n0,n1⟩:=N3.out wr hb;have HN1:=hideK n1;have HN0:=hideK n0;have HO:=hideK hO;have HB:=hideK hb;have hbs:=hb.size;clear n1 n0 hO hb;go_wp2_with (at_builtin;refine wpList_append_src _ rfl (.tmp 31) (.tmp 32) 22 rfl w.heap.size 9 i0 (.string ⟨#[]⟩) 1 16 Tryz.underlying22 hi hz0 hz1 hz2 rfl (by decide) _ _ _ rfl HO.out a3 ls3.length c3 (ls3.map Value.string) rfl (by simp) HN0.out HN1.out (by intro u hu;obtain ⟨x,_,rfl⟩:=List.mem_map.1 hu;rfl) (by unfold maxLen;omega) (by omega) hbs ?_;intro v7 w7 hO7 hg7 hat7)
     go_roundw
     case rel=>exact ⟨below_growZ HB.out hbs HO.out hg7,.inr (.inr ⟨by rw [List.map_append];exact hO7,rfl⟩)⟩
     case measure=>simp [intOf]
    ·go_wp2_with fail
     go_ret
     exact ⟨_,rfl,hO,hb⟩
end Go.Proofs.YtnedgkcejlhnbaaGreatDoor
