/-
  The contracts of exprs.sortOfName, sortOfOperator and sortOf, for every right expression and every names and sorts.
-/
import Derived.Test.YtmamabhhgfcjcaaGreatDoorXg
set_option maxRecDepth 100000
set_option maxHeartbeats 4000000
namespace Go.Proofs.YtmamabhhgfcjcaaGreatDoor
open Go.RowKit
def lastOf{α : Type}(nm:ByteArray):List (ByteArray × α)→Option α
 | []=>none
 | p::r=>match lastOf nm r with
  | some v=>some v
  | none=>if p.1=nm then some p.2 else none
theorem lastOf_none{α : Type}(nm:ByteArray):∀(l:List (ByteArray × α)),(∀i (h:i<l.length),l[i].1≠nm)→lastOf nm l=none
 | [],_=>rfl
 | p::r,h=>by
  unfold lastOf;rw [lastOf_none nm r (fun i hi=>h (i+1) (by simpa using hi))]
  simp only;rw [if_neg (show p.1≠nm from h 0 (by simp))]
theorem lastOf_at{α : Type}(nm:ByteArray):∀(l:List (ByteArray × α)) (k:Nat) (hk:k<l.length),l[k].1=nm→(∀i (h:i<l.length),k<i→l[i].1≠nm)→lastOf nm l=some l[k].2
 | p::r,0,_,h,ha=>by
  unfold lastOf;rw [lastOf_none nm r (fun i hi=>ha (i+1) (by simpa using hi) (by omega))]
  simp only;rw [if_pos (show p.1=nm from h)];rfl
 | p::r,k+1,hk,h,ha=>by
  unfold lastOf;rw [lastOf_at nm r k (by simpa using hk) h (fun i hi hl=>ha (i+1) (by simpa using hi) (by omega))]
  rfl
def lookS(ns:List ByteArray)(zs:List Int)(nm:ByteArray):Int × Int:=match lastOf nm (ns.zip zs) with
 | some z=>(z,0)
 | none=>(0,4)
theorem lookS_none(ns:List ByteArray)(zs:List Int)(nm:ByteArray)(h:∀i (hi:i<ns.length),ns[i]≠nm):lookS ns zs nm=(0,4):=by
 unfold lookS;rw [lastOf_none nm _ (fun i hi=>by simp at hi ⊢;exact h i (by omega))]
theorem lookS_at(ns:List ByteArray)(zs:List Int)(nm:ByteArray)(k:Nat)(hk:k<ns.length)(hz:k<zs.length)(h:ns[k]=nm)(ha:∀i (hi:i<ns.length),k<i→ns[i]≠nm):lookS ns zs nm=(zs[k],0):=by
 unfold lookS;rw [lastOf_at nm _ k (by simp;omega) (by simpa using h) (fun i hi hl=>by simp at hi ⊢;exact ha i (by omega) hl)];simp
structure NSAt(W:World)(B:Nat)(ns:List ByteArray)(zs:List Int)(an am:OAd):Prop where
 len:zs.length=ns.length
 bd:ns.length≤9223372036854775806
 cn:ns=[]∨∃b o,an=some ⟨b,o,none⟩∧b<B∧∀i (h:i<ns.length),W.cell? ⟨b,o+i,none⟩=some (.string ns[i])
 cz:zs=[]∨∃b o,am=some ⟨b,o,none⟩∧b<B∧∀i (h:i<zs.length),W.cell? ⟨b,o+i,none⟩=some (.int .i64 zs[i])
theorem NSAt.keep{W W':World}{B:Nat}{ns:List ByteArray}{zs:List Int}{an am:OAd}(h:NSAt W B ns zs an am)(hb:Below B W W'):NSAt W' B ns zs an am :=
 ⟨h.len,h.bd,h.cn.imp id (fun ⟨b,o,e,hl,hc⟩=>⟨b,o,e,hl,fun i hi=>(hb.cell (p:=⟨b,o+i,none⟩) hl).trans (hc i hi)⟩),h.cz.imp id (fun ⟨b,o,e,hl,hc⟩=>⟨b,o,e,hl,fun i hi=>(hb.cell (p:=⟨b,o+i,none⟩) hl).trans (hc i hi)⟩)⟩
theorem ba_beq(s t:ByteArray):(s.toList==t.toList)=decide (s=t):=by
 rw [Bool.eq_iff_iff];simp;exact ⟨fun h=>ByteArray.ext (Array.toList_inj.1 (by rwa [ByteArray.toList_eq,ByteArray.toList_eq]at h)),fun h=>by rw [h]⟩
theorem sortOfName_any(nm:ByteArray)(ns:List ByteArray)(zs:List Int)(an am:OAd)(cn cm B:Nat)(w:World)(h:NSAt w B ns zs an am):
  Calls Tryz.prog 146 #[.string nm,.slice an ns.length cn,.slice am ns.length cm] w fun e w'=>e = .returned (.tuple #[.int .i64 (lookS ns zs nm).1,.int .i64 (lookS ns zs nm).2])∧w'=w:=by
 obtain ⟨hlen,hbd,hcn,hcz⟩:=h;have hbz:(ns.length:Int)≤9223372036854775806:=by omega
 go_enter Tryz.func146,Tryz.ntmps146
 go_wp2_with fail
 go_loop [8] (fun i=>∃z:Int,i = .int .i64 z∧-1≤z∧z<(ns.length:Int)∧∀j (hj:j<ns.length),z<(j:Int)→ns[j]≠nm) (fun i=>(intOf i+1).toNat)
 case atStart=>exact ⟨_,rfl,by omega,by omega,fun j hj hl=>by omega⟩
 case round =>
  obtain ⟨z,rfl,hz1,hz2,hall⟩:=hrel;have HA:Hid (∀j (hj:j<ns.length),z<(j:Int)→ns[j]≠nm):=hall;clear hall;by_cases h0:0≤z
  ·obtain ⟨k,rfl⟩:=Int.eq_ofNat_of_zero_le h0
   have hk:k<ns.length:=by omega
   rcases hcn with e|⟨b,o,rfl,_,hc⟩
   ·subst e;simp at hk
   ·rcases hcz with e|⟨b',o',rfl,_,hc'⟩
    ·subst e;simp at hlen;omega
    ·have c1:=hc k hk
     have c2:=hc' k (by omega)
     by_cases he:ns[k]=nm
     ·have hb:(ns[k].toList==nm.toList)=true:=by rw [ba_beq];simpa using he
      have HF:Hid (lookS ns zs nm=(zs[k],0)):=lookS_at ns zs nm k hk (by omega) he (fun i hi hl=>HA.out i hi (by omega))
      clear he hc hc';go_wp2_with fail
      go_ret2
      exact ⟨by rw [HF.out];rfl,rfl⟩
     ·have hb:(ns[k].toList==nm.toList)=false:=by rw [ba_beq];simpa using he
      have HE:Hid (¬ns[k]=nm):=he;clear he hc hc' c2;go_wp2_with fail
      go_round
      case rel =>
       refine ⟨_,rfl,by omega,by omega,fun j hj hl=>?_⟩
       by_cases hjk:j=k
       ·subst hjk;exact HE.out
       ·exact HA.out j hj (by omega)
      case measure=>simp [intOf]
  ·have hzm:z = -1:=by omega
   subst hzm;have HF:Hid (lookS ns zs nm=(0,4)):=lookS_none ns zs nm (fun i hi=>HA.out i hi (by omega))
   clear hcn hcz HA;go_wp2_with fail
   go_ret2
   exact ⟨by rw [HF.out];rfl,rfl⟩
def SOSaid(ns:List ByteArray)(zs:List Int)(an am:OAd)(cn cm d:Nat):Prop:=∀(x:Ex) (ao:OAd) (cap B:Nat) (w:World),wfX x→ExBd x cap→KA w B d x.kids ao→NSAt w B ns zs an am→B≤w.heap.size →
 Calls Tryz.prog 129 #[exVal x ao cap,.slice an ns.length cn,.slice am ns.length cm] w fun e w'=>e = .returned (.tuple #[.int .i64 (sortX (lookS ns zs) x).1,.int .i64 (sortX (lookS ns zs) x).2])∧Below w.heap.size w w'
theorem KA.one{W:World}{B d:Nat}{a:Ex}{ao:OAd}(h:KA W B d [a] ao):∃d' b o ao' cap',d=d'+1∧ao=some ⟨b,o,none⟩∧b<B∧ExAt W b o a ao' cap'∧ExBd a cap'∧KA W B d' a.kids ao':=by
 cases d with
 | zero=>cases h
 | succ d =>
  rcases h with h|⟨b,o,rfl,hl,h⟩
  ·cases h
  ·obtain ⟨ao',cap',h1,h2,h3⟩:=h 0 (by simp)
   exact ⟨d,b,o,ao',cap',rfl,rfl,hl,by simpa using h1,h2,h3⟩
theorem KA.two{W:World}{B d:Nat}{a a2:Ex}{ao:OAd}(h:KA W B d [a,a2] ao):∃d' b o ao' cap' ao2 cap2,d=d'+1∧ao=some ⟨b,o,none⟩∧b<B∧ExAt W b o a ao' cap'∧ExBd a cap'∧KA W B d' a.kids ao'∧ExAt W b (o+6) a2 ao2 cap2∧ExBd a2 cap2∧KA W B d' a2.kids ao2:=by
 cases d with
 | zero=>cases h
 | succ d =>
  rcases h with h|⟨b,o,rfl,hl,h⟩
  ·cases h
  ·obtain ⟨ao',cap',h1,h2,h3⟩:=h 0 (by simp)
   obtain ⟨ao2,cap2,k1,k2,k3⟩:=h 1 (by simp)
   exact ⟨d,b,o,ao',cap',ao2,cap2,rfl,rfl,hl,by simpa using h1,h2,h3,by simpa using k1,k2,k3⟩
theorem sortOp_one(ns:List ByteArray)(zs:List Int)(an am:OAd)(cn cm d:Nat)(ih:∀d',d'<d→SOSaid ns zs an am cn cm d')
  (op:ByteArray) (so n:Int) (s:ByteArray) (a:Ex) (ao:OAd) (cap B:Nat) (w:World) (ha:wfX a) (hka:KA w B d [a] ao) (hns:NSAt w B ns zs an am) (hB:B≤w.heap.size) :
  Calls Tryz.prog 147 #[.agg #[.int .i64 3,.string op,.int .i64 so,.int .i64 n,.string s,.slice ao 1 cap],.slice an ns.length cn,.slice am ns.length cm] w fun e w'=>e = .returned (.tuple #[.int .i64 (sort1 op.data.toList (sortX (lookS ns zs) a)).1,.int .i64 (sort1 op.data.toList (sortX (lookS ns zs) a)).2])∧Below w.heap.size w w':=by
 obtain ⟨d',b,o,ao',cap',rfl,rfl,hbB,hex,hxb,hkk⟩:=hka.one;have cA:=fun (W:World) (hW:Below B w W) (hz:B≤W.heap.size)=>ih d' (by omega) a ao' cap' B W ha hxb (hkk.keep hW) (hns.keep hW) hz
 simp only [exVal]at cA;generalize sortX (lookS ns zs) a=r at cA ⊢;have CA:Hid (∀(W:World),Below B w W→B≤W.heap.size→Calls Tryz.prog 129 #[.agg #[.int .i64 a.kind,.string a.name,.int .i64 a.so,.int .i64 a.n,.string a.s,.slice ao' a.kids.length cap'],.slice an ns.length cn,.slice am ns.length cm] W fun e w'=>e = .returned (.tuple #[.int .i64 r.1,.int .i64 r.2])∧Below W.heap.size W w'):=cA
 clear cA ih hns hkk hka;have cO:=operatorSorts_any op;have cC:=isComparison_any op;have hS:sort1 op.data.toList r=if r.2≠0 then (0,r.2) else if r.1≠(if isCmp op.data.toList then r.1 else (opS op.data.toList).1) then (0,5) else ((opS op.data.toList).2,0):=rfl
 generalize sort1 op.data.toList r=R at hS ⊢;generalize opS op.data.toList=p at cO hS;generalize isCmp op.data.toList=g at cC hS;obtain ⟨r1,r2⟩:=r;obtain ⟨p1,p2⟩:=p;simp only at CA cO hS;obtain ⟨y0,y1,y2,y3,y4,y5⟩:=hex;have hbw:b<w.heap.size:=by omega
 have hw1:Below B w (w.alloc (.cells #[.int .i64 3,.string op,.int .i64 so,.int .i64 n,.string s,.slice (some ⟨b,o,none⟩) 1 cap] 34)):=(bR _ _).alloc hB _;have hw2:Below B w ((w.alloc (.cells #[.int .i64 3,.string op,.int .i64 so,.int .i64 n,.string s,.slice (some ⟨b,o,none⟩) 1 cap] 34)).alloc (.cells #[.int .i64 a.kind,.string a.name,.int .i64 a.so,.int .i64 a.n,.string a.s,.slice ao' a.kids.length cap'] 34)):=hw1.alloc (by simp;omega) _
 have HW:Hid (Below w.heap.size w ((w.alloc (.cells #[.int .i64 3,.string op,.int .i64 so,.int .i64 n,.string s,.slice (some ⟨b,o,none⟩) 1 cap] 34)).alloc (.cells #[.int .i64 a.kind,.string a.name,.int .i64 a.so,.int .i64 a.n,.string a.s,.slice ao' a.kids.length cap'] 34))):=((bR _ _).alloc (nR _) _).alloc (by simp) _
 clear hw1;by_cases h2:r2=0
 ·subst h2
  cases g
  ·by_cases h1:r1=p1
   ·subst h1
    simp at hS;subst hS;have hb:(r1 != r1)=false:=by simp
    go_enter Tryz.func147,Tryz.ntmps147
    go_wp2_with (go_at_call 167;refine (cO _).mono ?_;rintro e w1 ⟨rfl,rfl⟩)
    refine wp_loop_rounds 2 ?_;rw [rounds_succ];go_wp2_with fail
    refine (CA.out _ hw2 (by simp;omega)).mono ?_
    rintro e w1 ⟨rfl,hb1⟩;have x1:w1.cell? ⟨w.heap.size,1,none⟩=some (.string op):=(hb1.cell (p:=⟨w.heap.size,1,none⟩) (by simp;omega)).trans (by go_cell)
    go_wp2_with (go_at_call 168;refine (cC _).mono ?_;rintro e w2 ⟨rfl,rfl⟩)
    rw [rounds_succ];go_wp2_with fail
    go_ret2
    exact ⟨rfl,HW.out.trans (hb1.mono (by simp;omega))⟩
   ·simp [h1]at hS
    subst hS;have hb:(r1 != p1)=true:=by simpa using h1
    go_enter Tryz.func147,Tryz.ntmps147
    go_wp2_with (go_at_call 167;refine (cO _).mono ?_;rintro e w1 ⟨rfl,rfl⟩)
    refine wp_loop_rounds 2 ?_;rw [rounds_succ];go_wp2_with fail
    refine (CA.out _ hw2 (by simp;omega)).mono ?_
    rintro e w1 ⟨rfl,hb1⟩;have x1:w1.cell? ⟨w.heap.size,1,none⟩=some (.string op):=(hb1.cell (p:=⟨w.heap.size,1,none⟩) (by simp;omega)).trans (by go_cell)
    go_wp2_with (go_at_call 168;refine (cC _).mono ?_;rintro e w2 ⟨rfl,rfl⟩)
    go_ret2
    exact ⟨rfl,HW.out.trans (hb1.mono (by simp;omega))⟩
  ·simp at hS
   subst hS;have hb:(r1 != r1)=false:=by simp
   go_enter Tryz.func147,Tryz.ntmps147
   go_wp2_with (go_at_call 167;refine (cO _).mono ?_;rintro e w1 ⟨rfl,rfl⟩)
   refine wp_loop_rounds 2 ?_;rw [rounds_succ];go_wp2_with fail
   refine (CA.out _ hw2 (by simp;omega)).mono ?_
   rintro e w1 ⟨rfl,hb1⟩;have x1:w1.cell? ⟨w.heap.size,1,none⟩=some (.string op):=(hb1.cell (p:=⟨w.heap.size,1,none⟩) (by simp;omega)).trans (by go_cell)
   go_wp2_with (go_at_call 168;refine (cC _).mono ?_;rintro e w2 ⟨rfl,rfl⟩)
   rw [rounds_succ];go_wp2_with fail
   go_ret2
   exact ⟨rfl,HW.out.trans (hb1.mono (by simp;omega))⟩
 ·simp [h2]at hS
  subst hS;have hb:(r2 != 0)=true:=by simpa using h2
  go_enter Tryz.func147,Tryz.ntmps147
  go_wp2_with (go_at_call 167;refine (cO _).mono ?_;rintro e w1 ⟨rfl,rfl⟩)
  refine wp_loop_rounds 2 ?_;rw [rounds_succ];go_wp2_with fail
  refine (CA.out _ hw2 (by simp;omega)).mono ?_
  rintro e w1 ⟨rfl,hb1⟩;go_wp2_with fail
  go_ret2
  exact ⟨rfl,HW.out.trans (hb1.mono (by simp;omega))⟩
theorem sortOp_two(ns:List ByteArray)(zs:List Int)(an am:OAd)(cn cm d:Nat)(ih:∀d',d'<d→SOSaid ns zs an am cn cm d')
  (op:ByteArray) (so n:Int) (s:ByteArray) (a a2:Ex) (ao:OAd) (cap B:Nat) (w:World) (ha:wfX a) (ha2:wfX a2) (hka:KA w B d [a,a2] ao) (hns:NSAt w B ns zs an am) (hB:B≤w.heap.size) :
  Calls Tryz.prog 147 #[.agg #[.int .i64 3,.string op,.int .i64 so,.int .i64 n,.string s,.slice ao 2 cap],.slice an ns.length cn,.slice am ns.length cm] w fun e w'=>e = .returned (.tuple #[.int .i64 (sort2 op.data.toList (sortX (lookS ns zs) a) (sortX (lookS ns zs) a2)).1,.int .i64 (sort2 op.data.toList (sortX (lookS ns zs) a) (sortX (lookS ns zs) a2)).2])∧Below w.heap.size w w':=by
 obtain ⟨d',b,o,ao',cap',ao2,cap2,rfl,rfl,hbB,hex,hxb,hkk,hex2,hxb2,hkk2⟩:=hka.two;have cA:=fun (W:World) (hW:Below B w W) (hz:B≤W.heap.size)=>ih d' (by omega) a ao' cap' B W ha hxb (hkk.keep hW) (hns.keep hW) hz
 have cB:=fun (W:World) (hW:Below B w W) (hz:B≤W.heap.size)=>ih d' (by omega) a2 ao2 cap2 B W ha2 hxb2 (hkk2.keep hW) (hns.keep hW) hz
 simp only [exVal]at cA cB;generalize sortX (lookS ns zs) a=r at cA ⊢;generalize sortX (lookS ns zs) a2=q at cB ⊢;have CA:Hid (∀(W:World),Below B w W→B≤W.heap.size→Calls Tryz.prog 129 #[.agg #[.int .i64 a.kind,.string a.name,.int .i64 a.so,.int .i64 a.n,.string a.s,.slice ao' a.kids.length cap'],.slice an ns.length cn,.slice am ns.length cm] W fun e w'=>e = .returned (.tuple #[.int .i64 r.1,.int .i64 r.2])∧Below W.heap.size W w'):=cA
 have CB:Hid (∀(W:World),Below B w W→B≤W.heap.size→Calls Tryz.prog 129 #[.agg #[.int .i64 a2.kind,.string a2.name,.int .i64 a2.so,.int .i64 a2.n,.string a2.s,.slice ao2 a2.kids.length cap2],.slice an ns.length cn,.slice am ns.length cm] W fun e w'=>e = .returned (.tuple #[.int .i64 q.1,.int .i64 q.2])∧Below W.heap.size W w'):=cB
 clear cA cB ih hns hkk hkk2 hka;have cO:=operatorSorts_any op;have cC:=isComparison_any op;have hS:sort2 op.data.toList r q=if r.2≠0 then (0,r.2) else if r.1≠(if isCmp op.data.toList then r.1 else (opS op.data.toList).1) then (0,5) else if q.2≠0 then (0,q.2) else if q.1≠(if isCmp op.data.toList then r.1 else (opS op.data.toList).1) then (0,5) else ((opS op.data.toList).2,0):=rfl
 generalize sort2 op.data.toList r q=R at hS ⊢;generalize opS op.data.toList=p at cO hS;generalize isCmp op.data.toList=g at cC hS;obtain ⟨r1,r2⟩:=r;obtain ⟨q1,q2⟩:=q;obtain ⟨p1,p2⟩:=p;simp only at CA CB cO hS;have HX2:Hid (ExAt w b (o+6) a2 ao2 cap2):=hex2;obtain ⟨y0,y1,y2,y3,y4,y5⟩:=hex;clear hex2;have hbw:b<w.heap.size:=by omega
 have hw2:Below B w ((w.alloc (.cells #[.int .i64 3,.string op,.int .i64 so,.int .i64 n,.string s,.slice (some ⟨b,o,none⟩) 2 cap] 34)).alloc (.cells #[.int .i64 a.kind,.string a.name,.int .i64 a.so,.int .i64 a.n,.string a.s,.slice ao' a.kids.length cap'] 34)):=((bR _ _).alloc hB _).alloc (by simp;omega) _
 have HW:Hid (Below w.heap.size w ((w.alloc (.cells #[.int .i64 3,.string op,.int .i64 so,.int .i64 n,.string s,.slice (some ⟨b,o,none⟩) 2 cap] 34)).alloc (.cells #[.int .i64 a.kind,.string a.name,.int .i64 a.so,.int .i64 a.n,.string a.s,.slice ao' a.kids.length cap'] 34))):=((bR _ _).alloc (nR _) _).alloc (by simp) _
 by_cases h2:r2=0
 ·subst h2
  cases g
  ·by_cases h1:r1=p1
   ·subst h1
    by_cases h3:q2=0
    ·subst h3
     by_cases h4:q1=r1
     ·subst h4
      simp at hS;subst hS;have hb:(q1 != q1)=false:=by simp
      go_enter Tryz.func147,Tryz.ntmps147
      go_wp2_with (go_at_call 167;refine (cO _).mono ?_;rintro e w1 ⟨rfl,rfl⟩)
      refine wp_loop_rounds 3 ?_;rw [rounds_succ];go_wp2_with fail
      refine (CA.out _ hw2 (by simp;omega)).mono ?_
      rintro e w1 ⟨rfl,hb1⟩;have x1:w1.cell? ⟨w.heap.size,1,none⟩=some (.string op):=(hb1.cell (p:=⟨w.heap.size,1,none⟩) (by simp;omega)).trans (by go_cell)
      have hBw1:Below w.heap.size w w1:=HW.out.trans (hb1.mono (by simp;omega))
      obtain ⟨z0,z1,z2,z3,z4,z5⟩:=HX2.out.keep hBw1 hbw;have hs1:=hBw1.size;go_wp2_with (go_at_call 168;refine (cC _).mono ?_;rintro e w2 ⟨rfl,rfl⟩)
      rw [rounds_succ];go_wp2_with fail
      refine (CB.out _ ((hBw1.mono hB).alloc (by omega) _) (by simp;omega)).mono ?_
      rintro e w3 ⟨rfl,hb3⟩;have hBw3:Below w.heap.size w w3:=(hBw1.alloc (by omega) _).trans (hb3.mono (by simp;omega))
      go_wp2_with fail
      rw [rounds_succ];go_wp2_with fail
      go_ret2
      exact ⟨rfl,hBw3⟩
     ·simp [h4]at hS
      subst hS;have hb0:(r1 != r1)=false:=by simp
      have hb:(q1 != r1)=true:=by simpa using h4
      go_enter Tryz.func147,Tryz.ntmps147
      go_wp2_with (go_at_call 167;refine (cO _).mono ?_;rintro e w1 ⟨rfl,rfl⟩)
      refine wp_loop_rounds 3 ?_;rw [rounds_succ];go_wp2_with fail
      refine (CA.out _ hw2 (by simp;omega)).mono ?_
      rintro e w1 ⟨rfl,hb1⟩;have x1:w1.cell? ⟨w.heap.size,1,none⟩=some (.string op):=(hb1.cell (p:=⟨w.heap.size,1,none⟩) (by simp;omega)).trans (by go_cell)
      have hBw1:Below w.heap.size w w1:=HW.out.trans (hb1.mono (by simp;omega))
      obtain ⟨z0,z1,z2,z3,z4,z5⟩:=HX2.out.keep hBw1 hbw;have hs1:=hBw1.size;go_wp2_with (go_at_call 168;refine (cC _).mono ?_;rintro e w2 ⟨rfl,rfl⟩)
      rw [rounds_succ];go_wp2_with fail
      refine (CB.out _ ((hBw1.mono hB).alloc (by omega) _) (by simp;omega)).mono ?_
      rintro e w3 ⟨rfl,hb3⟩;have hBw3:Below w.heap.size w w3:=(hBw1.alloc (by omega) _).trans (hb3.mono (by simp;omega))
      go_wp2_with fail
      go_ret2
      exact ⟨rfl,hBw3⟩
    ·simp [h3]at hS
     subst hS;have hb0:(r1 != r1)=false:=by simp
     have hb:(q2 != 0)=true:=by simpa using h3
     go_enter Tryz.func147,Tryz.ntmps147
     go_wp2_with (go_at_call 167;refine (cO _).mono ?_;rintro e w1 ⟨rfl,rfl⟩)
     refine wp_loop_rounds 3 ?_;rw [rounds_succ];go_wp2_with fail
     refine (CA.out _ hw2 (by simp;omega)).mono ?_
     rintro e w1 ⟨rfl,hb1⟩;have x1:w1.cell? ⟨w.heap.size,1,none⟩=some (.string op):=(hb1.cell (p:=⟨w.heap.size,1,none⟩) (by simp;omega)).trans (by go_cell)
     have hBw1:Below w.heap.size w w1:=HW.out.trans (hb1.mono (by simp;omega))
     obtain ⟨z0,z1,z2,z3,z4,z5⟩:=HX2.out.keep hBw1 hbw;have hs1:=hBw1.size;go_wp2_with (go_at_call 168;refine (cC _).mono ?_;rintro e w2 ⟨rfl,rfl⟩)
     rw [rounds_succ];go_wp2_with fail
     refine (CB.out _ ((hBw1.mono hB).alloc (by omega) _) (by simp;omega)).mono ?_
     rintro e w3 ⟨rfl,hb3⟩;have hBw3:Below w.heap.size w w3:=(hBw1.alloc (by omega) _).trans (hb3.mono (by simp;omega))
     go_wp2_with fail
     go_ret2
     exact ⟨rfl,hBw3⟩
   ·simp [h1]at hS
    subst hS;have hb:(r1 != p1)=true:=by simpa using h1
    go_enter Tryz.func147,Tryz.ntmps147
    go_wp2_with (go_at_call 167;refine (cO _).mono ?_;rintro e w1 ⟨rfl,rfl⟩)
    refine wp_loop_rounds 3 ?_;rw [rounds_succ];go_wp2_with fail
    refine (CA.out _ hw2 (by simp;omega)).mono ?_
    rintro e w1 ⟨rfl,hb1⟩;have x1:w1.cell? ⟨w.heap.size,1,none⟩=some (.string op):=(hb1.cell (p:=⟨w.heap.size,1,none⟩) (by simp;omega)).trans (by go_cell)
    go_wp2_with (go_at_call 168;refine (cC _).mono ?_;rintro e w2 ⟨rfl,rfl⟩)
    go_ret2
    exact ⟨rfl,HW.out.trans (hb1.mono (by simp;omega))⟩
  ·skip
   by_cases h3:q2=0
   ·subst h3
    by_cases h4:q1=r1
    ·subst h4
     simp at hS;subst hS;have hb:(q1 != q1)=false:=by simp
     go_enter Tryz.func147,Tryz.ntmps147
     go_wp2_with (go_at_call 167;refine (cO _).mono ?_;rintro e w1 ⟨rfl,rfl⟩)
     refine wp_loop_rounds 3 ?_;rw [rounds_succ];go_wp2_with fail
     refine (CA.out _ hw2 (by simp;omega)).mono ?_
     rintro e w1 ⟨rfl,hb1⟩;have x1:w1.cell? ⟨w.heap.size,1,none⟩=some (.string op):=(hb1.cell (p:=⟨w.heap.size,1,none⟩) (by simp;omega)).trans (by go_cell)
     have hBw1:Below w.heap.size w w1:=HW.out.trans (hb1.mono (by simp;omega))
     obtain ⟨z0,z1,z2,z3,z4,z5⟩:=HX2.out.keep hBw1 hbw;have hs1:=hBw1.size;go_wp2_with (go_at_call 168;refine (cC _).mono ?_;rintro e w2 ⟨rfl,rfl⟩)
     rw [rounds_succ];go_wp2_with fail
     refine (CB.out _ ((hBw1.mono hB).alloc (by omega) _) (by simp;omega)).mono ?_
     rintro e w3 ⟨rfl,hb3⟩;have hBw3:Below w.heap.size w w3:=(hBw1.alloc (by omega) _).trans (hb3.mono (by simp;omega))
     go_wp2_with fail
     rw [rounds_succ];go_wp2_with fail
     go_ret2
     exact ⟨rfl,hBw3⟩
    ·simp [h4]at hS
     subst hS;have hb0:(r1 != r1)=false:=by simp
     have hb:(q1 != r1)=true:=by simpa using h4
     go_enter Tryz.func147,Tryz.ntmps147
     go_wp2_with (go_at_call 167;refine (cO _).mono ?_;rintro e w1 ⟨rfl,rfl⟩)
     refine wp_loop_rounds 3 ?_;rw [rounds_succ];go_wp2_with fail
     refine (CA.out _ hw2 (by simp;omega)).mono ?_
     rintro e w1 ⟨rfl,hb1⟩;have x1:w1.cell? ⟨w.heap.size,1,none⟩=some (.string op):=(hb1.cell (p:=⟨w.heap.size,1,none⟩) (by simp;omega)).trans (by go_cell)
     have hBw1:Below w.heap.size w w1:=HW.out.trans (hb1.mono (by simp;omega))
     obtain ⟨z0,z1,z2,z3,z4,z5⟩:=HX2.out.keep hBw1 hbw;have hs1:=hBw1.size;go_wp2_with (go_at_call 168;refine (cC _).mono ?_;rintro e w2 ⟨rfl,rfl⟩)
     rw [rounds_succ];go_wp2_with fail
     refine (CB.out _ ((hBw1.mono hB).alloc (by omega) _) (by simp;omega)).mono ?_
     rintro e w3 ⟨rfl,hb3⟩;have hBw3:Below w.heap.size w w3:=(hBw1.alloc (by omega) _).trans (hb3.mono (by simp;omega))
     go_wp2_with fail
     go_ret2
     exact ⟨rfl,hBw3⟩
   ·simp [h3]at hS
    subst hS;have hb0:(r1 != r1)=false:=by simp
    have hb:(q2 != 0)=true:=by simpa using h3
    go_enter Tryz.func147,Tryz.ntmps147
    go_wp2_with (go_at_call 167;refine (cO _).mono ?_;rintro e w1 ⟨rfl,rfl⟩)
    refine wp_loop_rounds 3 ?_;rw [rounds_succ];go_wp2_with fail
    refine (CA.out _ hw2 (by simp;omega)).mono ?_
    rintro e w1 ⟨rfl,hb1⟩;have x1:w1.cell? ⟨w.heap.size,1,none⟩=some (.string op):=(hb1.cell (p:=⟨w.heap.size,1,none⟩) (by simp;omega)).trans (by go_cell)
    have hBw1:Below w.heap.size w w1:=HW.out.trans (hb1.mono (by simp;omega))
    obtain ⟨z0,z1,z2,z3,z4,z5⟩:=HX2.out.keep hBw1 hbw;have hs1:=hBw1.size;go_wp2_with (go_at_call 168;refine (cC _).mono ?_;rintro e w2 ⟨rfl,rfl⟩)
    rw [rounds_succ];go_wp2_with fail
    refine (CB.out _ ((hBw1.mono hB).alloc (by omega) _) (by simp;omega)).mono ?_
    rintro e w3 ⟨rfl,hb3⟩;have hBw3:Below w.heap.size w w3:=(hBw1.alloc (by omega) _).trans (hb3.mono (by simp;omega))
    go_wp2_with fail
    go_ret2
    exact ⟨rfl,hBw3⟩
 ·simp [h2]at hS
  subst hS;have hb:(r2 != 0)=true:=by simpa using h2
  go_enter Tryz.func147,Tryz.ntmps147
  go_wp2_with (go_at_call 167;refine (cO _).mono ?_;rintro e w1 ⟨rfl,rfl⟩)
  refine wp_loop_rounds 3 ?_;rw [rounds_succ];go_wp2_with fail
  refine (CA.out _ hw2 (by simp;omega)).mono ?_
  rintro e w1 ⟨rfl,hb1⟩;go_wp2_with fail
  go_ret2
  exact ⟨rfl,HW.out.trans (hb1.mono (by simp;omega))⟩
theorem sortOf_any(ns:List ByteArray)(zs:List Int)(an am:OAd)(cn cm:Nat)(d:Nat):SOSaid ns zs an am cn cm d:=by
 induction d using Nat.strongRecOn with
 | _ d ih =>
  intro x ao cap B w hw hbd hka hns hB;have hwB:Below B w (w.alloc (.cells #[.int .i64 x.kind,.string x.name,.int .i64 x.so,.int .i64 x.n,.string x.s,.slice ao x.kids.length cap] 34)):=(bR _ _).alloc hB _;have hBw:Below w.heap.size w (w.alloc (.cells #[.int .i64 x.kind,.string x.name,.int .i64 x.so,.int .i64 x.n,.string x.s,.slice ao x.kids.length cap] 34)):=(bR _ _).alloc (nR _) _;rcases wf_cases x hw with ⟨h,hk,_⟩|⟨h,hk,_⟩|⟨h,a,hk,ha,_⟩|⟨h,a,a2,hk,ha,ha2,_⟩
  ·rw [sort_lit _ x h]
   unfold exVal;rw [h];clear ih hka hns hbd hw hwB hBw hk h;go_enter Tryz.func129,Tryz.ntmps129
   go_wp2_with fail
   go_ret2
   exact ⟨rfl,by go_grown⟩
  ·rw [sort_name _ x h]
   have c:=sortOfName_any x.name ns zs an am cn cm B _ (hns.keep hwB);rw [h,hk]at c;unfold exVal;rw [h,hk];generalize lookS ns zs x.name=r at c ⊢;simp only [List.length_nil]at c ⊢;clear ih hka hns hbd hw hwB hBw hk h;go_enter Tryz.func129,Tryz.ntmps129
   go_wp2_with fail
   refine c.mono ?_;rintro e w1 ⟨rfl,rfl⟩;go_wp2_with fail
   go_ret2
   exact ⟨rfl,by go_grown⟩
  ·rw [sort_one _ x a h hk]
   rw [hk]at hka hwB hBw;have c:=sortOp_one ns zs an am cn cm d ih x.name x.so x.n x.s a ao cap B _ ha (hka.keep hwB) (hns.keep hwB) (by simp;omega)
   unfold exVal;rw [h]at hwB hBw c;rw [h,hk];generalize sort1 x.name.data.toList (sortX (lookS ns zs) a)=r at c ⊢;simp only [List.length_cons,List.length_nil]at hBw c ⊢;clear ih hka hns hbd hw hwB hk h;go_enter Tryz.func129,Tryz.ntmps129
   go_wp2_with fail
   refine c.mono ?_;rintro e w1 ⟨rfl,hb⟩;go_wp2_with fail
   go_ret2
   exact ⟨rfl,hBw.trans (hb.mono (by simp))⟩
  ·rw [sort_two _ x a a2 h hk]
   rw [hk]at hka hwB hBw;have c:=sortOp_two ns zs an am cn cm d ih x.name x.so x.n x.s a a2 ao cap B _ ha ha2 (hka.keep hwB) (hns.keep hwB) (by simp;omega)
   unfold exVal;rw [h]at hwB hBw c;rw [h,hk];generalize sort2 x.name.data.toList (sortX (lookS ns zs) a) (sortX (lookS ns zs) a2)=r at c ⊢;simp only [List.length_cons,List.length_nil]at hBw c ⊢;clear ih hka hns hbd hw hwB hk h;go_enter Tryz.func129,Tryz.ntmps129
   go_wp2_with fail
   refine c.mono ?_;rintro e w1 ⟨rfl,hb⟩;go_wp2_with fail
   go_ret2
   exact ⟨rfl,hBw.trans (hb.mono (by simp))⟩
open Go.Deep Go.Joins Go.ChangeShapes Go.WideShapes
section
variable {H:Type} {enc:TypeId × Value→H} {W:World} {base:Nat} {spare:Nat→Bool} {held:Bool}
def NAt(W:World)(B:Nat)(vs:List Value)(an:OAd):Prop:=vs=[]∨∃b o,an=some ⟨b,o,none⟩∧b<B∧∀i (h:i<vs.length),W.cell? ⟨b,o+i,none⟩=some vs[i]
theorem cellsSt:Tryz.prog.cellsOf 9=1:=by kernel_rfl
end
structure Ty where
 kind:Int
 so:Int
 name:ByteArray
 labels:List ByteArray
 kids:List Ty
def sizeT:Ty→Nat
 | ⟨_,_,_,_,ks⟩=>1+(ks.map sizeT).sum
theorem sizeT_eq(t:Ty):sizeT t=1+(t.kids.map sizeT).sum:=by cases t;rw [sizeT]
theorem sizeT_kid{t k:Ty}(h:k∈t.kids):sizeT k<sizeT t:=by
 rw [sizeT_eq t];have:∀l:List Ty,k∈l→sizeT k≤(l.map sizeT).sum:=by
  intro l;induction l with
  | nil=>intro h;cases h
  | cons a l ih =>
   intro h;simp only [List.map_cons,List.sum_cons];rcases List.mem_cons.1 h with rfl|h
   ·omega
   ·have:=ih h;omega
 have:=this _ h;omega
theorem tyInd{P:Ty→Prop}(h:∀t,(∀k∈t.kids,P k)→P t):∀t,P t:=by
 have:∀n t,sizeT t≤n→P t:=by
  intro n;induction n with
  | zero=>intro t ht;have:=sizeT_eq t;omega
  | succ n ih=>intro t ht;exact h t (fun k hk=>ih k (by have:=sizeT_kid hk;omega))
 exact fun t=>this _ t (nR _)
structure TyAt(W:World)(b o:Nat)(t:Ty)(al:OAd)(cl:Nat)(ak:OAd)(ck:Nat):Prop where
 c0:W.cell? ⟨b,o,none⟩=some (.int .i64 t.kind)
 c1:W.cell? ⟨b,o+1,none⟩=some (.int .i64 t.so)
 c2:W.cell? ⟨b,o+2,none⟩=some (.string t.name)
 c3:W.cell? ⟨b,o+3,none⟩=some (.slice al t.labels.length cl)
 c4:W.cell? ⟨b,o+4,none⟩=some (.slice ak t.kids.length ck)
structure TyBd(t:Ty)(cl ck:Nat):Prop where
 name:t.name.size≤9223372036854775807
 labs:∀l∈t.labels,l.size≤9223372036854775807
 labels:t.labels.length≤cl
 cl:cl≤9223372036854775807
 kids:t.kids.length≤ck
 ck:ck≤9223372036854775807
abbrev LA(W:World)(B:Nat)(ls:List ByteArray)(al:OAd):Prop:=NAt W B (ls.map Value.string) al
def KT(W:World)(B:Nat):Nat→List Ty→OAd→Prop
 | 0,ks,_=>ks=[]
 | d+1,ks,ak=>ks=[]∨∃b o,ak=some ⟨b,o,none⟩∧b<B∧∀i (h:i<ks.length),∃al cl ak' ck',TyAt W b (o+i*5) ks[i] al cl ak' ck'∧TyBd ks[i] cl ck'∧LA W B ks[i].labels al∧KT W B d ks[i].kids ak'
theorem NAt.keep{W W':World}{B:Nat}{vs:List Value}{an:OAd}(hb:Below B W W')(h:NAt W B vs an):NAt W' B vs an :=
 h.imp id fun ⟨b,o,e,hl,hc⟩=>⟨b,o,e,hl,fun i hi=>(hb.cell (p:=⟨b,o+i,none⟩) hl).trans (hc i hi)⟩
theorem NAt.mono{W:World}{B B':Nat}{vs:List Value}{an:OAd}(hB:B≤B')(h:NAt W B vs an):NAt W B' vs an :=
 h.imp id fun ⟨b,o,e,hl,hc⟩=>⟨b,o,e,by omega,hc⟩
theorem TyAt.keep{W W':World}{B b o:Nat}{t:Ty}{al:OAd}{cl:Nat}{ak:OAd}{ck:Nat}(h:TyAt W b o t al cl ak ck)(hb:Below B W W')(hl:b<B):TyAt W' b o t al cl ak ck :=
 ⟨(hb.cell (p:=⟨b,o,none⟩) hl).trans h.c0,(hb.cell (p:=⟨b,o+1,none⟩) hl).trans h.c1,(hb.cell (p:=⟨b,o+2,none⟩) hl).trans h.c2,(hb.cell (p:=⟨b,o+3,none⟩) hl).trans h.c3,(hb.cell (p:=⟨b,o+4,none⟩) hl).trans h.c4⟩
theorem KT.keep{W W':World}{B:Nat}(hb:Below B W W'):∀ {d:Nat} {ks:List Ty} {ak:OAd},KT W B d ks ak→KT W' B d ks ak
 | 0,_,_,h=>h
 | d+1,ks,ak,h=>by
  rcases h with h|⟨b,o,rfl,hl,h⟩
  ·exact .inl h
  ·exact .inr ⟨b,o,rfl,hl,fun i hi=>by
    obtain ⟨al,cl,ak',ck',h1,h2,h3,h4⟩:=h i hi;exact ⟨al,cl,ak',ck',h1.keep hb hl,h2,NAt.keep hb h3,KT.keep hb h4⟩⟩
theorem KT.mono{W:World}{B B':Nat}(hB:B≤B'):∀ {d:Nat} {ks:List Ty} {ak:OAd},KT W B d ks ak→KT W B' d ks ak
 | 0,_,_,h=>h
 | d+1,ks,ak,h=>by
  rcases h with h|⟨b,o,rfl,hl,h⟩
  ·exact .inl h
  ·exact .inr ⟨b,o,rfl,by omega,fun i hi=>by
    obtain ⟨al,cl,ak',ck',h1,h2,h3,h4⟩:=h i hi;exact ⟨al,cl,ak',ck',h1,h2,NAt.mono hB h3,KT.mono hB h4⟩⟩
theorem KT.up{W:World}{B:Nat}:∀ {d e:Nat} {ks:List Ty} {ak:OAd},d≤e→KT W B d ks ak→KT W B e ks ak
 | 0,0,_,_,_,h=>h
 | 0,e+1,_,_,_,h=>.inl h
 | d+1,0,_,_,hd,_=>by omega
 | d+1,e+1,ks,ak,hd,h=>by
  rcases h with h|⟨b,o,rfl,hl,h⟩
  ·exact .inl h
  ·exact .inr ⟨b,o,rfl,hl,fun i hi=>by
    obtain ⟨al,cl,ak',ck',h1,h2,h3,h4⟩:=h i hi;exact ⟨al,cl,ak',ck',h1,h2,h3,KT.up (by omega) h4⟩⟩
def tyVal(t:Ty)(al:OAd)(cl:Nat)(ak:OAd)(ck:Nat):Value:=.agg #[.int .i64 t.kind,.int .i64 t.so,.string t.name,.slice al t.labels.length cl,.slice ak t.kids.length ck]
section
variable {H:Type} {enc:TypeId × Value→H} {W:World} {base:Nat} {spare:Nat→Bool} {held:Bool}
theorem cellsT:Tryz.prog.cellsOf 37=5:=by kernel_rfl
theorem openLabs(fuel:Nat)(v:Value)(y:DataW H × List MemPlace)(h:DataW.trod enc Tryz.prog W base spare held fuel 28 [v]=some y):
  ∃(ls:List ByteArray) (al:OAd) (cl:Nat),v = .slice al ls.length cl∧(∀l∈ls,l.size≤9223372036854775807)∧ls.length≤cl∧cl≤9223372036854775807∧LA W W.heap.size ls al:=by
 rcases DataW.trod_slice Tryz.underlying28 h with ⟨e5,_⟩|⟨a,len,cap,elems,rest,k,hk,e5,hx,hb,hlc,hcm,hle,hel,_,_⟩
 ·simp at e5
  subst e5;exact ⟨[],none,0,rfl,fun l hl=>(by cases hl),nR _,by omega,.inl rfl⟩
 ·simp at e5
  subst e5;rw [cellsSt]at hel;unfold maxLen at hcm;have hall:∀i,i<len→∃s:ByteArray,W.cells? base (a.add (i*1)) 1=some [.string s]∧s.size≤9223372036854775807:=by
   intro i hi;have q:=hel i hi;rw [List.getElem?_eq_getElem (by omega)]at q
   obtain ⟨cs',q1,q2⟩:=Option.bind_eq_some_iff.1 q;obtain ⟨s,e1,_,ws⟩:=DataW.trod_string Tryz.underlying9 q2;subst e1;unfold maxLen at ws;exact ⟨s,q1,by omega⟩
  haveI:Inhabited ByteArray:=⟨⟨#[]⟩⟩
  obtain ⟨f,hf⟩:=choose_lt hall;refine ⟨(List.range len).map f,some a,cap,by simp,?_,by simpa using hlc,by omega,?_⟩
  ·intro l hl
   obtain ⟨i,hi,rfl⟩:=List.mem_map.1 hl;exact (hf i (by simpa using hi)).2
  by_cases hl0:len=0
  ·exact .inl (by simp [hl0])
  ·have q2:=(World.cells?_some (hf 0 (by omega)).1).2.2 0 (by omega)
   obtain ⟨b,o,spot⟩:=a;have hsp:spot=none:=by simpa [Addr.add] using World.cell?_spot q2
   subst hsp;have hcell:∀i,i<len→W.cell? ⟨b,o+i,none⟩=some (Value.string (f i)):=by
    intro i hi;have:=(World.cells?_some (hf i hi).1).2.2 0 (by omega)
    rw [add_add,Go.WideShapes.add_plain]at this;simpa using this
   refine .inr ⟨b,o,rfl,lt_of_cell ((hcell 0 (by omega)).trans rfl),fun i hi=>?_⟩
   have hi':i<len:=by simpa using hi
   rw [hcell i hi'];simp
theorem openCellsT:∀(fuel:Nat) (cs:List Value) (y:DataW H × List MemPlace),DataW.trod enc Tryz.prog W base spare held fuel 37 cs=some y →
  ∃(t:Ty) (al:OAd) (cl:Nat) (ak:OAd) (ck:Nat),cs=[.int .i64 t.kind,.int .i64 t.so,.string t.name,.slice al t.labels.length cl,.slice ak t.kids.length ck]∧TyBd t cl ck∧LA W W.heap.size t.labels al∧KT W W.heap.size fuel t.kids ak:=by
 intro fuel;induction fuel using Nat.strongRecOn with
 | _ fuel ih =>
  intro cs y h;obtain ⟨xs,n,rfl,hy,hlen,hxs,hf⟩:=DataW.trod_struct Tryz.underlying37 h;have h0:DataW.trod enc Tryz.prog W base spare held n 3 (List.take 1 (List.drop 0 cs))=xs[0]?:=hf 0 _ rfl;have h1:DataW.trod enc Tryz.prog W base spare held n 3 (List.take 1 (List.drop 1 cs))=xs[1]?:=hf 1 _ rfl;have h2:DataW.trod enc Tryz.prog W base spare held n 9 (List.take 1 (List.drop 2 cs))=xs[2]?:=hf 2 _ rfl;have h3:DataW.trod enc Tryz.prog W base spare held n 28 (List.take 1 (List.drop 3 cs))=xs[3]?:=hf 3 _ rfl;have h4:DataW.trod enc Tryz.prog W base spare held n 35 (List.take 1 (List.drop 4 cs))=xs[4]?:=hf 4 _ rfl;clear hf hy;rw [cellsT]at hlen;match cs,hlen with
  | [a0,a1,a2,a3,a4],_ =>
  match xs,hxs with
  | [x0,x1,x2,x3,x4],_ =>
  simp at h0 h1 h2 h3 h4;obtain ⟨kd,e0,_,_⟩:=DataW.trod_int Tryz.underlying3 h0;obtain ⟨so,e1,_,_⟩:=DataW.trod_int Tryz.underlying3 h1;obtain ⟨nm,e2,_,wn⟩:=DataW.trod_string Tryz.underlying9 h2;obtain ⟨ls,al,cl,rfl,hls,hlc1,hlc2,hla⟩:=openLabs n _ _ h3;simp at e0 e1 e2;subst e0 e1 e2;unfold maxLen at wn;rcases DataW.trod_slice Tryz.underlying35 h4 with ⟨e5,_⟩|⟨a,len,cap,elems,rest,k,hk,e5,_,hb,hlc,hcm,hle,hel,_,_⟩
  ·simp at e5
   subst e5;exact ⟨⟨kd,so,nm,ls,[]⟩,al,cl,none,0,rfl,⟨by simpa using wn,hls,hlc1,hlc2,by simp,by omega⟩,hla,.inl rfl⟩
  ·simp at e5
   subst e5;rw [cellsT]at hel;unfold maxLen at hcm;have hall:∀i,i<len→∃p:Ty × OAd × Nat × OAd × Nat,W.cells? base (a.add (i*5)) 5=some [.int .i64 p.1.kind,.int .i64 p.1.so,.string p.1.name,.slice p.2.1 p.1.labels.length p.2.2.1,.slice p.2.2.2.1 p.1.kids.length p.2.2.2.2]∧TyBd p.1 p.2.2.1 p.2.2.2.2∧LA W W.heap.size p.1.labels p.2.1∧KT W W.heap.size k p.1.kids p.2.2.2.1:=by
    intro i hi;have q:=hel i hi;rw [List.getElem?_eq_getElem (by omega)]at q
    obtain ⟨cs',q1,q2⟩:=Option.bind_eq_some_iff.1 q;obtain ⟨t,al',cl',ak',ck',rfl,hb',hl',hk'⟩:=ih k (by omega) cs' _ q2
    exact ⟨(t,al',cl',ak',ck'),q1,hb',hl',hk'⟩
   haveI:Inhabited (Ty × OAd × Nat × OAd × Nat):=⟨(⟨0,0,⟨#[]⟩,[],[]⟩,none,0,none,0)⟩
   obtain ⟨f,hf⟩:=choose_lt hall;refine ⟨⟨kd,so,nm,ls,(List.range len).map fun i=>(f i).1⟩,al,cl,some a,cap,by simp,⟨by simpa using wn,hls,hlc1,hlc2,by simpa using hlc,hcm⟩,hla,?_⟩
   obtain ⟨n',rfl⟩:∃n',n=n'+1:=⟨n - 1,by omega⟩
   by_cases hl0:len=0
   ·exact .inl (by simp [hl0])
   ·obtain ⟨q1,_,_⟩:=hf 0 (by omega)
    have q2:=(World.cells?_some q1).2.2 0 (by omega)
    obtain ⟨b,o,spot⟩:=a;have hsp:spot=none:=by simpa [Addr.add] using World.cell?_spot q2
    subst hsp;have hcell:∀i j,i<len→j<5→W.cell? ⟨b,o+i*5+j,none⟩=[Value.int .i64 (f i).1.kind,.int .i64 (f i).1.so,.string (f i).1.name,.slice (f i).2.1 (f i).1.labels.length (f i).2.2.1,.slice (f i).2.2.2.1 (f i).1.kids.length (f i).2.2.2.2][j]?:=by
     intro i j hi hj;obtain ⟨q1,_,_⟩:=hf i hi;have:=(World.cells?_some q1).2.2 j hj;rw [add_add,Go.WideShapes.add_plain]at this;rw [Nat.add_assoc];exact this
    refine .inr ⟨b,o,rfl,lt_of_cell ((hcell 0 0 (by omega) (by omega)).trans rfl),fun i hi=>?_⟩
    have hi':i<len:=by simpa using hi
    have e:((List.range len).map fun i=>(f i).1)[i]=(f i).1:=by simp
    simp only [e];exact ⟨(f i).2.1,(f i).2.2.1,(f i).2.2.2.1,(f i).2.2.2.2,⟨(hcell i 0 hi' (by omega)).trans rfl,(hcell i 1 hi' (by omega)).trans rfl,(hcell i 2 hi' (by omega)).trans rfl,(hcell i 3 hi' (by omega)).trans rfl,(hcell i 4 hi' (by omega)).trans rfl⟩,(hf i hi').2.1,(hf i hi').2.2.1,KT.up (by omega) (hf i hi').2.2.2⟩
end
end Go.Proofs.YtmamabhhgfcjcaaGreatDoor
