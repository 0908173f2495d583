/-
  The contracts of below.Nodes and below.Graphs, for graphs that Check lets by.
-/
import Derived.Test.YtmamabhhgfcjcaaGreatDoorOd
import Derived.Test.YtmamabhhgfcjcaaGreatDoorVn
import Derived.Shelf.Slices.Clone
set_option maxRecDepth 100000
set_option maxHeartbeats 4000000
namespace Go.Proofs.YtmamabhhgfcjcaaGreatDoor
open Go.RowKit Go.Shelf
theorem nodes_any(g h:List Nd)(ag ah:OAd)(cg ch B m n:Nat)(w:World)(hg:GN g)(hh:GN h)(hga:GAt w B g ag)(hha:GAt w B h ah)(hB:B≤w.heap.size)(hm:m<g.length)(hn:n<h.length):
  Calls Tryz.prog 98 #[.slice ag g.length cg,.int .i64 (m:Int),.slice ah h.length ch,.int .i64 (n:Int)] w fun e w'=>e = .returned (.tuple #[.bool (belB g h m n),.int .i64 0])∧Below w.heap.size w w':=by
 have c1:=checkG_any g ag cg B w hg hga hB;have C2:=hideK (fun (W:World) (hb:Below w.heap.size w W)=>checkG_any h ah ch B W hh (hha.keep (hb.mono hB)) (Nat.le_trans hB hb.size))
 have C3:=hideK (fun (W:World) (hb:Below w.heap.size w W)=>firstFailing_any g h ag ah cg ch B m n W hg hh (hga.keep (hb.mono hB)) (hha.keep (hb.mono hB)) (Nat.le_trans hB hb.size) hm hn)
 have HQ:=hideK (show belB g h m n=(srB g h m n).1.isNone from rfl)
 have hmz:(m:Int)<(g.length:Int):=by omega
 have hnz:(n:Int)<(h.length:Int):=by omega
 unfold FFPost at C3;clear hga hha hg hh;go_enter Tryz.func98,Tryz.ntmps98
 go_wp2_with fail
 refine c1.mono ?_;rintro e w1 ⟨rfl,hb1⟩;have c2:=C2.out w1 hb1;have HB:=hideK hb1;clear c1 C2 hb1;go_wp2_with fail
 refine c2.mono ?_;rintro e w2 ⟨rfl,hb2⟩;have HB2:=hideK (HB.out.trans (hb2.mono HB.out.size));have c3:=C3.out w2 HB2.out;clear c2 C3 hb2;go_wp2_with fail
 refine c3.mono ?_;rintro e w3 ⟨hor,hb3⟩;have HB3:=hideK (HB2.out.trans (hb3.mono HB2.out.size));clear c3 hb3;rcases hor with ⟨arr,hsr,rfl⟩|⟨k,arr,hsr,aw,cw,rfl,hla⟩
 ·have HSR:=hideK hsr
  clear hsr;go_wp2_with fail
  go_ret2
  exact ⟨by rw [HQ.out,HSR.out];rfl,HB3.out⟩
 ·have HSR:=hideK hsr
  clear hsr hla;go_wp2_with fail
  go_ret2
  exact ⟨by rw [HQ.out,HSR.out];rfl,HB3.out⟩
def kdD(k:Int):Int:=if k=2 then 3 else if k=3 then 2 else if k=4 then 5 else if k=5 then 4 else if k=6 then 7 else if k=7 then 6 else k
def tuL(n:Nd)(N:Nat):List Nat:=if n.kind=4∨n.kind=5 then (match n.to with | []=>[] | a::r=>(a+N)::r) else n.to
def keL(n:Nd)(N:Nat):List Nat:=n.to.map fun t=>t+N
def othT(N:Nat)(n:Nd):Nd:=⟨kdD n.kind,n.so,n.labs,tuL n N⟩
def othK(N:Nat)(n:Nd):Nd:=⟨n.kind,n.so,n.labs,keL n N⟩
def othG(g:List Nd):List Nd:=g.map (othT g.length)++g.map (othK g.length)
theorem okN_mk{n:Nd}(h:(n.kind=1∧n.so=0∧n.labs=[]∧n.to.length=0)∨((n.kind=2∨n.kind=3)∧(n.so=1∨n.so=2∨n.so=3)∧n.labs=[]∧n.to.length=1)∨((n.kind=4∨n.kind=5)∧n.so=0∧n.labs=[]∧n.to.length=2)∨((n.kind=6∨n.kind=7)∧n.so=0∧labsOK n.labs=true∧n.to.length=n.labs.length)):okN n:=by
 unfold okN partT;have he:(⟨#[]⟩:ByteArray).toList.isEmpty=true:=by rw [ByteArray.toList_eq];rfl
 simp only [List.length_map,he];rcases h with ⟨h1,h2,h3,h4⟩|⟨h1,h2,h3,h4⟩|⟨h1,h2,h3,h4⟩|⟨h1,h2,h3,h4⟩
 ·rw [if_pos h1];simp [h2,h3,h4]
 ·rw [if_neg (by omega),if_pos h1];simp [h2,h3,h4]
 ·rw [if_neg (by omega),if_neg (by omega),if_pos h1];simp [h2,h3,h4]
 ·rw [if_neg (by omega),if_neg (by omega),if_neg (by omega),if_pos h1];simp [h2,h3,h4]
theorem kdD_cases(k:Int):(k=2→kdD k=3)∧(k=3→kdD k=2)∧(k=4→kdD k=5)∧(k=5→kdD k=4)∧(k=6→kdD k=7)∧(k=7→kdD k=6)∧(k=1→kdD k=1):=by
 refine ⟨?_,?_,?_,?_,?_,?_,?_⟩ <;> (intro h;subst h;decide)
theorem tuL_len(n:Nd)(N:Nat):(tuL n N).length=n.to.length:=by
 unfold tuL;split
 ·split
  ·rename_i e;rw [e]
  ·rename_i e;rw [e];rfl
 ·rfl
theorem oth_ok{n:Nd}(N:Nat)(h:okN n):okN (othT N n)∧okN (othK N n):=by
 have kd:=kdD_cases n.kind;have hl:=tuL_len n N;have hk:(keL n N).length=n.to.length:=by simp [keL]
 constructor
 ·refine okN_mk ?_
  show (kdD n.kind=1∧n.so=0∧n.labs=[]∧(tuL n N).length=0)∨_
  rw [hl];rcases okN_cases h with ⟨h1,h2,h3,h4⟩|⟨h1,h2,h3,h4⟩|⟨h1,h2,h3,h4⟩|⟨h1,h2,h3,h4⟩
  ·exact .inl ⟨kd.2.2.2.2.2.2 h1,h2,h3,h4⟩
  ·exact .inr (.inl ⟨h1.elim (fun e=>.inr (kd.1 e)) (fun e=>.inl (kd.2.1 e)),h2,h3,by show (tuL n N).length=1;omega⟩)
  ·exact .inr (.inr (.inl ⟨h1.elim (fun e=>.inr (kd.2.2.1 e)) (fun e=>.inl (kd.2.2.2.1 e)),h2,h3,by show (tuL n N).length=2;omega⟩))
  ·exact .inr (.inr (.inr ⟨h1.elim (fun e=>.inr (kd.2.2.2.2.1 e)) (fun e=>.inl (kd.2.2.2.2.2.1 e)),h2,h3,by show (tuL n N).length=n.labs.length;omega⟩))
 ·refine okN_mk ?_
  have:=okN_cases h;show (n.kind=1∧n.so=0∧n.labs=[]∧(keL n N).length=0)∨((n.kind=2∨n.kind=3)∧(n.so=1∨n.so=2∨n.so=3)∧n.labs=[]∧(keL n N).length=1)∨((n.kind=4∨n.kind=5)∧n.so=0∧n.labs=[]∧(keL n N).length=2)∨((n.kind=6∨n.kind=7)∧n.so=0∧labsOK n.labs=true∧(keL n N).length=n.labs.length)
  rw [hk];exact this
theorem oth_len(g:List Nd):(othG g).length=2*g.length:=by simp [othG];omega
theorem tuL_lt{n:Nd}{N:Nat}(h:∀t∈n.to,t<N):∀t∈tuL n N,t<2*N:=by
 intro t ht;unfold tuL at ht;split at ht
 ·split at ht
  ·cases ht
  ·rename_i a r e
   rcases List.mem_cons.1 ht with rfl|ht
   ·have:=h a (by rw [e];exact .head _);omega
   ·have:=h t (by rw [e];exact .tail _ ht);omega
 ·have:=h t ht;omega
theorem oth_gn{g:List Nd}(hg:GN g)(hl:g.length≤100):GN (othG g):=by
 refine ⟨by rw [oth_len];have:=hg.pos;omega,by rw [oth_len];omega,fun n hn=>?_,fun n hn t ht=>?_⟩
 ·unfold othG at hn
  rcases List.mem_append.1 hn with hn|hn
  ·obtain ⟨m,hm,rfl⟩:=List.mem_map.1 hn;exact (oth_ok _ (hg.ok m hm)).1
  ·obtain ⟨m,hm,rfl⟩:=List.mem_map.1 hn;exact (oth_ok _ (hg.ok m hm)).2
 ·rw [oth_len]
  unfold othG at hn;rcases List.mem_append.1 hn with hn|hn
  ·obtain ⟨m,hm,rfl⟩:=List.mem_map.1 hn
   exact tuL_lt (fun t ht=>hg.shut m hm t ht) t ht
  ·obtain ⟨m,hm,rfl⟩:=List.mem_map.1 hn
   obtain ⟨x,hx,rfl⟩:=List.mem_map.1 ht;have:=hg.shut m hm x hx;omega
end Go.Proofs.YtmamabhhgfcjcaaGreatDoor
namespace Go.Proofs
open Go.Shelf
def Tryz.laysNm215_ren:Go.Shelf.Ren:=⟨fun|15=>182|n=>n,fun|22=>29|3=>3|4=>4|n=>n,fun|n=>n⟩
theorem Tryz.laysNm215:Go.Proofs.Lays2.n15 Tryz.prog Tryz.laysNm215_ren:={
 mixed:=by kernel_rfl
 f15:=Tryz.func182.trans (congrArg some (by kernel_rfl))
 t3:=Tryz.underlying3
 a3:=Tryz.isAgg3
 z3:=Tryz.sizeOf3
 v3:=Tryz.zeroValue3
 t4:=Tryz.underlying4
 a4:=Tryz.isAgg4
 z4:=Tryz.sizeOf4
 v4:=Tryz.zeroValue4
 t22:=Tryz.underlying29
 a22:=Tryz.isAgg29
 z22:=Tryz.sizeOf29
 v22:=Tryz.zeroValue29
 i3:=by kernel_rfl }
end Go.Proofs
namespace Go.Proofs.YtmamabhhgfcjcaaGreatDoor
open Go.RowKit
theorem kind_any(z:Int)(w:World):Calls Tryz.prog 162 #[.int .i64 z] w fun e w'=>e = .returned (.int .i64 (kdD z))∧w'=w:=by
 by_cases h2:z=2
 ·subst h2
  go_enter Tryz.func162,Tryz.ntmps162
  go_wp2_with fail
  go_ret
  exact ⟨rfl,rfl⟩
 by_cases h3:z=3
 ·subst h3
  go_enter Tryz.func162,Tryz.ntmps162
  go_wp2_with fail
  go_ret
  exact ⟨rfl,rfl⟩
 by_cases h4:z=4
 ·subst h4
  go_enter Tryz.func162,Tryz.ntmps162
  go_wp2_with fail
  go_ret
  exact ⟨rfl,rfl⟩
 by_cases h5:z=5
 ·subst h5
  go_enter Tryz.func162,Tryz.ntmps162
  go_wp2_with fail
  go_ret
  exact ⟨rfl,rfl⟩
 by_cases h6:z=6
 ·subst h6
  go_enter Tryz.func162,Tryz.ntmps162
  go_wp2_with fail
  go_ret
  exact ⟨rfl,rfl⟩
 by_cases h7:z=7
 ·subst h7
  go_enter Tryz.func162,Tryz.ntmps162
  go_wp2_with fail
  go_ret
  exact ⟨rfl,rfl⟩
 have HK:=hideK (show kdD z=z from by unfold kdD;rw [if_neg h2,if_neg h3,if_neg h4,if_neg h5,if_neg h6,if_neg h7])
 have b2:(z==2)=false:=by simpa using h2
 have b3:(z==3)=false:=by simpa using h3
 have b4:(z==4)=false:=by simpa using h4
 have b5:(z==5)=false:=by simpa using h5
 have b6:(z==6)=false:=by simpa using h6
 have b7:(z==7)=false:=by simpa using h7
 go_enter Tryz.func162,Tryz.ntmps162
 go_wp2_with fail
 go_ret
 exact ⟨by rw [HK.out];rfl,rfl⟩
def iV(t:Nat):Value:=.int .i64 (t:Int)
theorem cloneI_any(ts:List Nat)(at1:OAd)(ct B:Nat)(w:World)(h:NI w B ts at1)(hl:ts.length≤1000):
  Calls Tryz.prog 182 #[.slice at1 ts.length ct] w fun e w'=>∃v,e = .returned v∧w'.ownsRow w.heap.size 3 1 v ts.length (ts.map iV)∧Below w.heap.size w w':=by
 rcases h with h|⟨b,o,rfl,_,hc⟩
 ·have:ts=[]:=by simpa using h
  subst this;cases at1 with
  | none =>
   refine (Any.slices_Clone_int_nil Tryz.laysNm215 _ ct w).mono ?_;rintro e w' ⟨rfl,rfl⟩;exact ⟨_,rfl,World.ownsRow_nil _ _ _ _,Below.refl _ _⟩
  | some a =>
   refine (Any.slices_Clone_int_zero Tryz.laysNm215 a ct w).mono ?_;rintro e w' ⟨v,rfl,hO,_,hb⟩;exact ⟨v,rfl,hO,hb⟩
 ·refine (Any.slices_Clone_int Tryz.laysNm215 b o ts.length ct (ts.map fun t:Nat=>(t:Int)) w (by simp) (by omega) ?_).mono ?_
  ·intro j hj
   have hj':j<ts.length:=by simpa using hj
   rw [hc j (by simpa using hj')]
   simp [List.getD_eq_getElem?_getD,hj']
  ·rintro e w' ⟨v,rfl,hO,_,hb⟩
   rw [List.take_of_length_le (by simp),List.map_map]at hO
   exact ⟨v,rfl,hO,hb⟩
def NF(w W:World)(ts:List Nat)(a:OAd):Prop:=NP W (fun b=>w.heap.size≤b∧b<W.heap.size) (ts.map fun t:Nat=>Value.int .i64 (t:Int)) a
theorem cloneI_cells{w W:World}{v:Value}{ts:List Nat}(h:W.ownsRow w.heap.size 3 1 v ts.length (ts.map iV))(h0:0<ts.length):∃b c,v = .slice (some ⟨b,0,none⟩) ts.length c∧w.heap.size≤b∧b<W.heap.size∧(∀j (hj:j<ts.length),W.cell? ⟨b,j,none⟩=some (iV ts[j]))∧∀j,j<ts.length→W.frozen? ⟨b,j,none⟩=false:=by
 have hv:v≠.slice none 0 0:=by
  rintro rfl;rcases h.2 with ⟨_,h⟩|⟨g,c,cur,h,_⟩
  ·omega
  ·cases h
 obtain ⟨g,cp,rfl,hbg,hgl,_,_,_,hH⟩:=Lib.holds_of_ownsRow h hv;refine ⟨g,cp,rfl,hbg,hgl,fun j hj=>?_,fun j hj=>?_⟩
 ·have:=(hH j (by simpa using hj)).1
  rw [Nat.zero_add]at this;rw [this];simp [hj]
 ·have:=(hH j (by simpa using hj)).2
  rw [Nat.zero_add]at this;exact this
theorem keptTo_any(n:Nd)(N:Nat)(a1 a2:OAd)(c1 c2 B:Nat)(w:World)(h2:NI w B n.to a2)(hB:B≤w.heap.size)(h6:n.to.length≤6)(hN:N≤1000)(ht:∀t∈n.to,t≤1000):
  Calls Tryz.prog 164 #[ndVal n a1 c1 a2 c2,.int .i64 (N:Int)] w fun e w'=>(∃a c,e = .returned (.slice a (keL n N).length c)∧NF w w' (keL n N) a)∧Below w.heap.size w w':=by
 have hA:Below w.heap.size w (w.alloc (.cells #[.int .i64 n.kind,.int .i64 n.so,.slice a1 n.labs.length c1,.slice a2 n.to.length c2] 102)):=(bR _ _).alloc (nR _) _;have b0:NdAt (w.alloc (.cells #[.int .i64 n.kind,.int .i64 n.so,.slice a1 n.labs.length c1,.slice a2 n.to.length c2] 102)) w.heap.size 0 n a1 c1 a2 c2:=⟨by go_cell,by go_cell,by go_cell,by go_cell⟩
 obtain ⟨x0,x1,x2,x3⟩:=b0;simp only [Nat.zero_add]at x1 x2 x3;have cC:=cloneI_any n.to a2 c2 B _ (h2.keep (hA.mono hB)) (by omega)
 have hkl:(keL n N).length=n.to.length:=by simp [keL]
 have HT:=hideK ht;have HA:=hideK hA;have hNz:(N:Int)≤1000:=by omega
 have h6z:(n.to.length:Int)≤6:=by omega
 rw [hkl];simp only [ndVal];clear h2 hA ht hkl;go_enter Tryz.func164,Tryz.ntmps164
 go_wp2_with fail
 refine cC.mono ?_;rintro e w1 ⟨v,rfl,hO,hb1⟩;have HB1:=hideK (HA.out.trans (hb1.mono HA.out.size));clear cC x0 x1 x2 x3 hb1;by_cases h0:0<n.to.length
 ·obtain ⟨b,c,rfl,hbl,hbg,hcell,hfz⟩:=cloneI_cells hO h0
  have hbl2:w.heap.size≤b:=Nat.le_trans HA.out.size hbl;have HC:=hideK hcell;have HF:=hideK hfz;clear hO hcell hfz;go_wp2_with fail
  go_loopw [12] (fun i wr=>∃k:Nat,k≤n.to.length∧i = .int .i64 (k:Int)∧b<wr.heap.size∧(∀j (hj:j<n.to.length),wr.cell? ⟨b,j,none⟩=some (iV (if j<k then n.to[j]+N else n.to[j])))∧(∀j,j<n.to.length→wr.frozen? ⟨b,j,none⟩=false)∧Below w.heap.size w wr) (fun i _=>n.to.length - (intOf i).toNat)
  case atStart=>exact ⟨0,Nat.zero_le _,rfl,hbg,fun j hj=>by rw [if_neg (by omega)];exact HC.out j hj,HF.out,HB1.out⟩
  case round =>
   obtain ⟨k,hk,rfl,hbw,hcw,hfw,hb⟩:=hrel;by_cases hlt:k<n.to.length
   ·have hltz:(k:Int)<(n.to.length:Int):=by omega
    have d0:=hcw k hlt;rw [if_neg (by omega)]at d0
    unfold iV at d0;have d1:=hfw k hlt;have htv:=HT.out _ (List.getElem_mem hlt);have HCW:=hideK (show ∀j (hj:j<n.to.length),(wr.setCell ⟨b,k,none⟩ (.int .i64 (((n.to[k]+N:Nat):Int)))).cell? ⟨b,j,none⟩=some (iV (if j<k+1 then n.to[j]+N else n.to[j])) from fun j hj=>by
     by_cases e:j=k
     ·subst e
      rw [if_pos (by omega)]
      exact World.cell?_setCell_same _ _ _ (hcw j hj)
     ·rw [World.cell?_setCell_other _ _ _ _ (by intro q;injection q with _ q;exact e q.symm),hcw j hj]
      by_cases q:j<k
      ·rw [if_pos q,if_pos (by omega)]
      ·rw [if_neg q,if_neg (by omega)])
    have HFW:=hideK (show ∀j,j<n.to.length→(wr.setCell ⟨b,k,none⟩ (.int .i64 (((n.to[k]+N:Nat):Int)))).frozen? ⟨b,j,none⟩=false from fun j hj=>(World.frozen?_setCell _ _ _ _).trans (hfw j hj))
    have HBW:=hideK (show Below w.heap.size w (wr.setCell ⟨b,k,none⟩ (.int .i64 (((n.to[k]+N:Nat):Int)))) from hb.setCell (by show w.heap.size≤b;exact hbl2) _)
    clear hcw hfw hb;generalize n.to[k]=tv at *;have htz:(tv:Int)≤1000:=by omega
    simp only [Int.natCast_add]at HCW HFW HBW;go_wp2_with fail
    go_roundw
    case rel=>exact ⟨k+1,by omega,by go_num,by simpa using hbw,HCW.out,HFW.out,HBW.out⟩
    case measure=>simp [intOf];omega
   ·have hltz:¬(k:Int)<(n.to.length:Int):=by omega
    have hke:k=n.to.length:=by omega
    subst hke;have HNF:=hideK (show NF w wr (keL n N) (some ⟨b,0,none⟩) from .inr ⟨b,0,rfl,⟨hbl2,hbw⟩,fun i hi=>by
     have hi':i<n.to.length:=by simpa [keL] using hi
     rw [Nat.zero_add,hcw i hi',if_pos hi'];simp [keL,iV]⟩)
    have HB:=hideK hb;clear hcw hfw hb;go_wp2_with fail
    go_ret
    exact ⟨⟨some ⟨b,0,none⟩,⟨c,rfl⟩,HNF.out⟩,HB.out⟩
 ·have hz:n.to=[]:=List.length_eq_zero_iff.1 (by omega)
  have hl0:n.to.length=0:=by omega
  have HNF:=hideK (show ∀a,NF w w1 (keL n N) a from fun a=>.inl (by unfold keL;rw [hz];rfl))
  obtain ⟨va,vc,rfl⟩:=sliceH_own hO;rw [hl0];clear hO hz HT h0;go_wp2_with fail
  go_loopw [12] (fun i wr=>i = .int .i64 0∧wr=w1) (fun _ _=>0)
  case atStart=>exact ⟨rfl,rfl⟩
  case round =>
   obtain ⟨rfl,rfl⟩:=hrel;go_wp2_with fail
   go_ret
   exact ⟨⟨va,vc,by rw [hl0];rfl,HNF.out _⟩,HB1.out⟩
theorem turnedTo_any(n:Nd)(N:Nat)(a1 a2:OAd)(c1 c2 B:Nat)(w:World)(h2:NI w B n.to a2)(hB:B≤w.heap.size)(hn:okN n)(hN:N≤1000)(ht:∀t∈n.to,t≤1000):
  Calls Tryz.prog 163 #[ndVal n a1 c1 a2 c2,.int .i64 (N:Int)] w fun e w'=>(∃a c,e = .returned (.slice a (tuL n N).length c)∧NF w w' (tuL n N) a)∧Below w.heap.size w w':=by
 have h6:=(shp_len (okN_shp hn)).2.1;have hA:Below w.heap.size w (w.alloc (.cells #[.int .i64 n.kind,.int .i64 n.so,.slice a1 n.labs.length c1,.slice a2 n.to.length c2] 102)):=(bR _ _).alloc (nR _) _;have b0:NdAt (w.alloc (.cells #[.int .i64 n.kind,.int .i64 n.so,.slice a1 n.labs.length c1,.slice a2 n.to.length c2] 102)) w.heap.size 0 n a1 c1 a2 c2:=⟨by go_cell,by go_cell,by go_cell,by go_cell⟩
 have cC:=cloneI_any n.to a2 c2 B _ (h2.keep (hA.mono hB)) (by omega)
 have HB0:=hideK b0;obtain ⟨x0,x1,x2,x3⟩:=b0;simp only [Nat.zero_add]at x1 x2 x3;have HA:=hideK hA;have hNz:(N:Int)≤1000:=by omega
 rw [tuL_len];simp only [ndVal];by_cases hk:n.kind=4∨n.kind=5
 ·have hl2:n.to.length=2:=by
   rcases okN_cases hn with ⟨q,_⟩|⟨q,_⟩|⟨_,_,_,q⟩|⟨q,_⟩ <;> omega
  have HTU:=hideK (show ∀a b,n.to=[a,b]→tuL n N=[a+N,b] from fun a b e=>by unfold tuL;rw [if_pos hk,e])
  obtain ⟨ta,tb,hto⟩:∃ta tb,n.to=[ta,tb]:=by
   match hq:n.to,hl2 with
   | [a,b],_=>exact ⟨a,b,rfl⟩
  have hta:=ht ta (by rw [hto];exact .head _)
  have htz:(ta:Int)≤1000:=by omega
  have HTO:=hideK hto;have hkb:(n.kind==4)=true∨((n.kind==4)=false∧(n.kind==5)=true):=by
   rcases hk with h|h
   ·exact .inl (by rw [h];rfl)
   ·exact .inr ⟨by rw [h];rfl,by rw [h];rfl⟩
  have HL:=hideK hl2;clear h2 hA ht hto hk hn hl2;rcases hkb with k4|⟨k4,k5⟩
  all_goals
   go_enter Tryz.func163,Tryz.ntmps163
   go_wp2_with fail
   refine cC.mono ?_;rintro e w1 ⟨v,rfl,hO,hb1⟩;have hl2:=HL.out;have HB1:=hideK (HA.out.trans (hb1.mono HA.out.size));obtain ⟨y0,y1,y2,y3⟩:=HB0.out.keep hb1 (by simp)
   simp only [Nat.zero_add]at y1 y2 y3;obtain ⟨b,c,rfl,hbl,hbg,hcell,hfz⟩:=cloneI_cells hO (by omega)
   have hbl2:w.heap.size≤b:=Nat.le_trans HA.out.size hbl;have d0:=hcell 0 (by omega)
   have d1:=hcell 1 (by omega)
   have f0:=hfz 0 (by omega)
   simp only [HTO.out,iV]at d0 d1;simp only [List.getElem_cons_zero,List.getElem_cons_succ]at d0 d1;have HNF:=hideK (show NF w (w1.setCell ⟨b,0,none⟩ (.int .i64 ((ta:Int)+(N:Int)))) (tuL n N) (some ⟨b,0,none⟩) from .inr ⟨b,0,rfl,⟨hbl2,by simpa using hbg⟩,fun i hi=>by
    rw [HTU.out ta tb HTO.out]at hi;simp only [HTU.out ta tb HTO.out];have hi2:i=0∨i=1:=by simp at hi;omega
    rcases hi2 with rfl|rfl
    ·rw [World.cell?_setCell_same _ _ _ d0];simp
    ·rw [World.cell?_setCell_other _ _ _ _ (by intro q;injection q with _ q;omega)];exact d1⟩)
   have HBS:=hideK (show Below w.heap.size w (w1.setCell ⟨b,0,none⟩ (.int .i64 ((ta:Int)+(N:Int)))) from HB1.out.setCell (by show w.heap.size≤b;exact hbl2) _)
   clear cC hO hcell hfz hb1 x0 x1 x2 x3;go_wp2_with fail
   go_ret
   exact ⟨⟨some ⟨b,0,none⟩,c,by first|rfl|(rw [hl2];rfl),HNF.out⟩,HBS.out⟩
 ·have HTU:=hideK (show tuL n N=n.to from by unfold tuL;rw [if_neg hk])
  have k4:(n.kind==4)=false:=by simpa using fun q=>hk (.inl q)
  have k5:(n.kind==5)=false:=by simpa using fun q=>hk (.inr q)
  clear h2 hA ht hk hn;go_enter Tryz.func163,Tryz.ntmps163
  go_wp2_with fail
  refine cC.mono ?_;rintro e w1 ⟨v,rfl,hO,hb1⟩;have HB1:=hideK (HA.out.trans (hb1.mono HA.out.size));obtain ⟨y0,y1,y2,y3⟩:=HB0.out.keep hb1 (by simp)
  simp only [Nat.zero_add]at y1 y2 y3;have HNF:=hideK (show ∃a c,v = .slice a n.to.length c∧NF w w1 (tuL n N) a from by
   rw [HTU.out];rcases own_cells hO with ⟨rfl,h0,_⟩|⟨g,cap,rfl,hg1,hg,hc⟩
   ·exact ⟨none,0,by rw [h0],.inl (by rw [List.length_eq_zero_iff.1 h0];rfl)⟩
   ·refine ⟨_,_,rfl,.inr ⟨g,0,rfl,⟨Nat.le_trans HA.out.size hg1,hg⟩,fun i hi=>?_⟩⟩
    rw [Nat.zero_add];exact hc i _ (List.getElem?_eq_getElem hi))
  obtain ⟨va,vc,rfl,hnf⟩:=HNF.out;have HN2:=hideK hnf;clear cC hO hb1 x0 x1 x2 x3 HNF hnf;go_wp2_with fail
  go_ret
  exact ⟨⟨va,vc,rfl,HN2.out⟩,HB1.out⟩
end Go.Proofs.YtmamabhhgfcjcaaGreatDoor
