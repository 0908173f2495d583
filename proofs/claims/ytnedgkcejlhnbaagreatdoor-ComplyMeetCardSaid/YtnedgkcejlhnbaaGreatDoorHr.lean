/-
  The contracts of slices.Equal of ints and of strings, of graph.areEqual and of graph.Equal.
-/
import Derived.Test.YtnedgkcejlhnbaaGreatDoorSz
import Derived.Test.YtnedgkcejlhnbaaGreatDoorPk
import Derived.Deep.Quiet
set_option maxRecDepth 100000
set_option maxHeartbeats 8000000
namespace Go.Proofs.YtnedgkcejlhnbaaGreatDoor
open Go.RowKit Go.Shelf
structure EB(w:World)(n m:Nd)(a1 a2 a3 a4:OAd)(c1 c2 c3 c4:Nat)(W:World):Prop where
 x:NdAt W w.heap.size 0 n a1 c1 a2 c2
 y:NdAt W (w.heap.size+1) 0 m a3 c3 a4 c4
 lt:w.heap.size+1<W.heap.size
 bl:Below w.heap.size w W
theorem EB.new(w:World)(n m:Nd)(a1 a2 a3 a4:OAd)(c1 c2 c3 c4:Nat):EB w n m a1 a2 a3 a4 c1 c2 c3 c4 ((w.alloc (.cells #[.int .i64 n.kind,.int .i64 n.so,.slice a1 n.labs.length c1,.slice a2 n.to.length c2] 56)).alloc (.cells #[.int .i64 m.kind,.int .i64 m.so,.slice a3 m.labs.length c3,.slice a4 m.to.length c4] 56)) :=
 ⟨⟨by go_cell,by go_cell,by go_cell,by go_cell⟩,⟨by go_cell,by go_cell,by go_cell,by go_cell⟩,by simp,by go_grown⟩
theorem EB.keep{w:World}{n m:Nd}{a1 a2 a3 a4:OAd}{c1 c2 c3 c4:Nat}{W W':World}(h:EB w n m a1 a2 a3 a4 c1 c2 c3 c4 W)(hb:Below W.heap.size W W'):EB w n m a1 a2 a3 a4 c1 c2 c3 c4 W' :=
 ⟨h.x.keep hb (by have:=h.lt;omega),h.y.keep hb h.lt,Nat.lt_of_lt_of_le h.lt hb.size,h.bl.trans (hb.mono h.bl.size)⟩
theorem infoMe:(Tryz.prog.info? 127).map (fun i=>(i.zero,i.size,i.bytes))=some (some (.agg #[.string ⟨#[]⟩,.int .i64 0]),2,24):=by kernel_rfl
def mCs(ar:Ar):List Value:=ar.flatMap fun p=>[Value.string p.1,.int .i64 (p.2:Int)]
theorem mCs_len(ar:Ar):(mCs ar).length=ar.length*2:=by
 induction ar with
 | nil=>rfl
 | cons p ar ih =>
  have e:mCs (p::ar)=[Value.string p.1,.int .i64 (p.2:Int)]++mCs ar:=rfl;rw [e,List.length_append,ih];simp
  omega
theorem mCs_at:∀(ar:Ar) (i:Nat) (h:i<ar.length),(mCs ar)[i*2]? = some (.string ar[i].1)∧(mCs ar)[i*2+1]? = some (.int .i64 (ar[i].2:Int))
 | [],i,h=>by simp at h
 | p::ar,0,_=>⟨rfl,rfl⟩
 | p::ar,i+1,h=>by
  have e:mCs (p::ar)=[Value.string p.1,.int .i64 (p.2:Int)]++mCs ar:=rfl;have ih:=mCs_at ar i (by simpa using h)
  have h2:∀j,([Value.string p.1,.int .i64 (p.2:Int)]++mCs ar)[j+2]? = (mCs ar)[j]?:=fun j=>by rw [List.getElem?_append_right (by simp)];rfl
  rw [e,show (i+1)*2=i*2+2 by omega,h2,show i*2+2+1=(i*2+1)+2 by omega,h2]
  exact ⟨ih.1,ih.2⟩
theorem mCs_snoc(ar:Ar)(p:ByteArray × Nat):mCs (ar++[p])=mCs ar++[.string p.1,.int .i64 (p.2:Int)]:=by simp [mCs]
theorem mCs_of{W:World}{b o:Nat}{ar:Ar}(hc:∀i (h:i<ar.length),W.cell? ⟨b,o+i*2,none⟩=some (.string ar[i].1)∧W.cell? ⟨b,o+i*2+1,none⟩=some (.int .i64 (ar[i].2:Int))):∀j v,(mCs ar)[j]? = some v→W.cell? ⟨b,o+j,none⟩=some v:=by
 intro j v hj;have hl:j<ar.length*2:=by
  rw [← mCs_len];exact (List.getElem?_eq_some_iff.1 hj).1
 obtain ⟨h0,h1⟩:=mCs_at ar (j / 2) (by omega)
 obtain ⟨q0,q1⟩:=hc (j / 2) (by omega)
 rcases Nat.mod_two_eq_zero_or_one j with hm|hm
 ·have e:j=j / 2*2:=by omega
  rw [e]at hj ⊢;rw [h0]at hj;rw [q0];exact hj
 ·have e:j=j / 2*2+1:=by omega
  rw [e]at hj ⊢;rw [h1]at hj;rw [← Nat.add_assoc,q1];exact hj
theorem run_append_m(w:World)(ty:TypeId)(ar:Ar)(aa:OAd)(pg:Nat)(row:Option Nat)(nm:ByteArray)(z g c:Nat)(h:MR w pg row ar aa ar.length)(hl:ar.length≤1000)(hg0:w.cell? ⟨g,0,none⟩=some (.string nm))(hg1:w.cell? ⟨g,1,none⟩=some (.int .i64 (z:Int)))(hpg:pg<w.heap.size)(hrow:∀k,row=some k→k<w.heap.size):
  ∃aa' ca' w',(Builtin.append_ #[123,123] ty #[.slice aa ar.length ar.length,.slice (some ⟨g,0,none⟩) 1 c]).run Tryz.prog w = .ok (.slice aa' (ar.length+1) ca') w'∧MR w' pg row (ar++[(nm,z)]) aa' ca'∧Below w.heap.size w w':=by
 obtain ⟨i,hi,hz0,hz1,hz2⟩:=info_parts infoMe;have hnews:∀j v,[Value.string nm,.int .i64 (z:Int)][j]? = some v→w.cell? ((⟨g,0,none⟩:Addr).add j)=some v:=by
  intro j v hj;match j,hj with
  | 0,hj=>simp at hj;subst hj;rw [addj0];exact hg0
  | 1,hj=>simp at hj;subst hj;rw [addj0];exact hg1
  | j+2,hj=>simp at hj
 have hfin:∀(cap:Nat) (cs:List Value) (rest:Array Value),cs=mCs (ar++[(nm,z)])→ar.length+1≤cap→MR (w.drew.alloc (.cells (cs.toArray++rest) 127)) pg row (ar++[(nm,z)]) (some ⟨w.heap.size,0,none⟩) cap:=by
  intro cap cs rest hcs hcap;have hcell:∀j v,(mCs (ar++[(nm,z)]))[j]? = some v→(w.drew.alloc (.cells (cs.toArray++rest) 127)).cell? ⟨w.heap.size,j,none⟩=some v:=by
   intro j v hj;have e1:(w.drew.alloc (.cells (cs.toArray++rest) 127)).cell? ⟨w.heap.size,j,none⟩=(cs.toArray++rest)[j]?:=World.cell?_alloc_at _ _ _ _ rfl;have hjl:=(List.getElem?_eq_some_iff.1 hj).1;rw [e1,Array.getElem?_append_left (by simp [hcs];exact hjl)]
   simp only [List.getElem?_toArray];rw [hcs];exact hj
  refine .inr ⟨by simpa using hcap,w.heap.size,0,rfl,by simp,by omega,fun e=>by have:=hrow _ e;omega,fun k hk=>?_⟩
  obtain ⟨h0,h1⟩:=mCs_at (ar++[(nm,z)]) k hk;rw [Nat.zero_add];exact ⟨hcell _ _ h0,hcell _ _ h1⟩
 rcases h with ⟨rfl,rfl,_⟩|⟨_,b,o,rfl,_,_,_,hc⟩
 ·have hr:=run_append_nil (P:=Tryz.prog) w 123 ty 127 i _ Tryz.underlying123 hi hz0 ⟨g,0,none⟩ 1 c [.string nm,.int .i64 (z:Int)] (by rw [hz1];rfl) hnews (by omega) (by omega) (by rw [hz2];omega)
  refine ⟨_,_,_,hr,?_,((Below.refl _ _).drew).alloc (by simp) _⟩
  exact hfin _ [.string nm,.int .i64 (z:Int)] _ rfl (grownCap_ge _ _ _ _)
 ·have hr:=run_append_grow (P:=Tryz.prog) w 123 ty 127 i _ Tryz.underlying123 hi hz0 ⟨b,o,none⟩ ar.length ar.length (mCs ar) (by rw [hz1];exact mCs_len ar) (fun j v hj=>by rw [addjo];exact mCs_of hc j v hj) ⟨g,0,none⟩ 1 c [.string nm,.int .i64 (z:Int)] (by rw [hz1];rfl) hnews (by omega) (by omega) (growslice_fits (by omega) (by rw [hz2];omega))
  refine ⟨_,_,_,hr,?_,((Below.refl _ _).drew).alloc (by simp) _⟩
  have:=hfin (grownCap w (ar.length+1) ar.length 127) (mCs (ar++[(nm,z)])) (Builtin.zeroCells (Value.agg #[.string ⟨#[]⟩,.int .i64 0]).cells (grownCap w (ar.length+1) ar.length 127 - (ar.length+1))) rfl (grownCap_ge _ _ _ _);rw [mCs_snoc]at this;simpa using this
theorem step_append_m(w:World){ops:Array Oper}{o:Oper}{a:Act}{K:Act→World→Prop}{Q:Exit→Act→World→Prop}{E:Prop}(hgd:o.guard=none)(s x:Operand)
  (ho:o.op = .call { callee:=.builtin .append,args:=#[s,x],argTypes:=#[123,123] })
  (ar:Ar) (aa:OAd) (pg:Nat) (row:Option Nat) (nm:ByteArray) (z g c:Nat) (hs:a.eval s = .slice aa ar.length ar.length) (hx:a.eval x = .slice (some ⟨g,0,none⟩) 1 c)
  (h:MR w pg row ar aa ar.length) (hl:ar.length≤1000) (hg0:w.cell? ⟨g,0,none⟩=some (.string nm)) (hg1:w.cell? ⟨g,1,none⟩=some (.int .i64 (z:Int))) (hpg:pg<w.heap.size) (hrow:∀k,row=some k→k<w.heap.size)
  (hK:∀aa' ca' w',MR w' pg row (ar++[(nm,z)]) aa' ca'→Below w.heap.size w w'→K (a.put o.dst (.slice aa' (ar.length+1) ca')) w') :
  if Region.wanted o (yielded ops a.tmps)=true then Oper.wp Tryz.prog o a w K Q else E:=by
 have hw:Region.wanted o (yielded ops a.tmps)=true:=by simp [Region.wanted,hgd]
 rw [if_pos hw];obtain ⟨aa',ca',w',hr,h2,h3⟩:=run_append_m w o.type ar aa pg row nm z g c h hl hg0 hg1 hpg hrow;unfold Oper.wp execOp;simp only [ho,resolve,invoke,builtin,Sem.run_bind,Sem.run_pure,Result.andThen_ok,List.map_toArray,List.map_cons,List.map_nil,hs,hx,hr];exact hK aa' ca' w' h2 h3
structure PG(W:World)(pg:Nat)(u:Value)(toks:List TkN):Prop where
 c:W.cell? ⟨pg,0,none⟩=some u
 f:W.frozen? ⟨pg,0,none⟩=false
 own:W.ownsRow (pg+1) 56 4 u toks.length (ndCs toks)
 lt:pg<W.heap.size
theorem PG.keep{W W':World}{pg:Nat}{u:Value}{toks:List TkN}(h:PG W pg u toks)(hb:Below W.heap.size W W'):PG W' pg u toks :=
 ⟨(hb.cell (p:=⟨pg,0,none⟩) h.lt).trans h.c,(hb.frozen (p:=⟨pg,0,none⟩) h.lt).trans h.f,own_belowG h.own hb,Nat.lt_of_lt_of_le h.lt hb.size⟩
def TKL(W:World)(B:Nat)(P:Nat→Prop)(ts:List TkN):Prop:=∀t∈ts,LA W B t.1.labs t.2.1.1∧NP W P (t.1.to.map fun t:Nat=>Value.int .i64 (t:Int)) t.2.2.1
theorem TKL.keep{W W':World}{B:Nat}{P Q:Nat→Prop}{ts:List TkN}(hb:Below B W W')(hc:∀b o,P b→W'.cell? ⟨b,o,none⟩=W.cell? ⟨b,o,none⟩)(hq:∀b,P b→Q b)(h:TKL W B P ts):TKL W' B Q ts:=fun t ht=>⟨(h t ht).1.keep hb,(h t ht).2.keep hc hq⟩
def LYPost(t:Ty)(ar:Ar)(pg:Nat)(u:Value)(toks:List TkN)(B:Nat)(w:World)(e:Ending)(w':World):Prop :=
 e = .returned (.int .i64 ((layP t ar toks.length).1:Int))∧∃(new:List TkN) (u':Value),new.map (·.1)=(layP t ar toks.length).2∧PG w' pg u' (toks++new)∧TKL w' B (fun b=>w.heap.size≤b∧b<w'.heap.size∧u'.ownBlock≠some b) new∧RF pg pg u.ownBlock w w'∧(u'.ownBlock=u.ownBlock∨∀k,u'.ownBlock=some k→w.heap.size≤k)
def LYSaid(d:Nat):Prop:=∀(t:Ty) (al:OAd) (cl:Nat) (ak:OAd) (ck:Nat) (ar:Ar) (aa:OAd) (ca pg:Nat) (u:Value) (toks:List TkN) (B:Nat) (w:World),
 TyBd t cl ck→LA w B t.labels al→KT w B d t.kids ak→wfT t→MR w pg u.ownBlock ar aa ca→PG w pg u toks→B≤pg→sizeT t+toks.length≤900→ar.length+sizeT t≤900 →
 Calls Tryz.prog 41 #[.pointer (some ⟨pg,0,none⟩),tyVal t al cl ak ck,.slice aa ar.length ca] w (LYPost t ar pg u toks B w)
theorem lay_var(t:Ty)(al:OAd)(cl:Nat)(ak:OAd)(ck:Nat)(ar:Ar)(aa:OAd)(ca pg:Nat)(u:Value)(toks:List TkN)(B:Nat)(w:World)(hm:MR w pg u.ownBlock ar aa ca)(hp:PG w pg u toks)(hl:ar.length≤900)(h9:t.kind=9):
  Calls Tryz.prog 41 #[.pointer (some ⟨pg,0,none⟩),tyVal t al cl ak ck,.slice aa ar.length ca] w (LYPost t ar pg u toks B w):=by
 have hA:Below w.heap.size w (w.alloc (.cells #[.int .i64 t.kind,.int .i64 t.so,.string t.name,.slice al t.labels.length cl,.slice ak t.kids.length ck] 25)):=(Below.refl _ _).alloc (Nat.le_refl _) _;have cM:=meant_any t.name ar aa ca pg u.ownBlock _ (hm.keep (RF.of hA) (.inl rfl)) (by omega)
 have HLP:=hideK (layP_var t ar toks.length h9);have HP:=hideK hp;have HA:=hideK hA;have hkb:(t.kind==9)=true:=by rw [h9];rfl
 simp only [tyVal];clear hm hp h9 hA;go_enter Tryz.func41,Tryz.ntmps41
 go_wp2_with fail
 refine cM.mono ?_;rintro e w1 ⟨rfl,hb⟩;have HB:=hideK (HA.out.trans (hb.mono HA.out.size));clear cM hb;go_wp2_with fail
 go_ret
 refine ⟨by rw [HLP.out];rfl,[],u,by rw [HLP.out];rfl,?_,fun t ht=>(by cases ht),RF.of HB.out,.inl rfl⟩
 rw [List.append_nil];exact HP.out.keep HB.out
theorem lay_rec(d:Nat)(ih:LYSaid d)(t k:Ty)(al al2:OAd)(cl cl2:Nat)(ak2:OAd)(ck ck2 kb ko:Nat)(ar:Ar)(aa:OAd)(ca pg:Nat)(u:Value)(toks:List TkN)(B:Nat)(w:World)(hkid:TyAt w kb ko k al2 cl2 ak2 ck2)(hkB:kb<B)(hbd:TyBd k cl2 ck2)(hla:LA w B k.labels al2)(hkt:KT w B d k.kids ak2)(hwk:wfT k)
  (hm:MR w pg u.ownBlock ar aa ca) (hp:PG w pg u toks) (hB:B≤pg) (hs1:sizeT t+toks.length≤900) (hs2:ar.length+sizeT t≤900) (h8:t.kind=8) (hks:t.kids=[k]) :
  Calls Tryz.prog 41 #[.pointer (some ⟨pg,0,none⟩),tyVal t al cl (some ⟨kb,ko,none⟩) ck,.slice aa ar.length ca] w (LYPost t ar pg u toks B w):=by
 have hsk:sizeT k<sizeT t:=sizeT_kid (by rw [hks];exact .head _)
 have HLP:=hideK (layP_rec t ar toks.length h8 k hks);have hpl:=hp.lt;have HRW:∀j,u.ownBlock=some j→j<w.heap.size:=fun j hj=>(hp.own.lt j hj).2
 have HRW2:∀j,u.ownBlock=some j→pg+1≤j:=fun j hj=>(hp.own.lt j hj).1
 have s5k:∀(W W':World),(fun W:World=>W.cell? ⟨w.heap.size,2,none⟩=some (.string t.name)∧W.cell? ⟨w.heap.size,4,none⟩=some (.slice (some ⟨kb,ko,none⟩) 1 ck)∧W.cell? ⟨kb,ko,none⟩=some (.int .i64 k.kind)∧W.cell? ⟨kb,ko+1,none⟩=some (.int .i64 k.so)∧W.cell? ⟨kb,ko+2,none⟩=some (.string k.name)∧W.cell? ⟨kb,ko+3,none⟩=some (.slice al2 k.labels.length cl2)∧W.cell? ⟨kb,ko+4,none⟩=some (.slice ak2 k.kids.length ck2)) W→Below (w.heap.size+1) W W'→(fun W:World=>W.cell? ⟨w.heap.size,2,none⟩=some (.string t.name)∧W.cell? ⟨w.heap.size,4,none⟩=some (.slice (some ⟨kb,ko,none⟩) 1 ck)∧W.cell? ⟨kb,ko,none⟩=some (.int .i64 k.kind)∧W.cell? ⟨kb,ko+1,none⟩=some (.int .i64 k.so)∧W.cell? ⟨kb,ko+2,none⟩=some (.string k.name)∧W.cell? ⟨kb,ko+3,none⟩=some (.slice al2 k.labels.length cl2)∧W.cell? ⟨kb,ko+4,none⟩=some (.slice ak2 k.kids.length ck2)) W':=fun W W' hs hb=>⟨(hb.cell (p:=⟨w.heap.size,2,none⟩) (by show w.heap.size<_;omega)).trans hs.1,(hb.cell (p:=⟨w.heap.size,4,none⟩) (by show w.heap.size<_;omega)).trans hs.2.1,(hb.cell (p:=⟨kb,ko,none⟩) (by show kb<_;omega)).trans hs.2.2.1,(hb.cell (p:=⟨kb,ko+1,none⟩) (by show kb<_;omega)).trans hs.2.2.2.1,(hb.cell (p:=⟨kb,ko+2,none⟩) (by show kb<_;omega)).trans hs.2.2.2.2.1,(hb.cell (p:=⟨kb,ko+3,none⟩) (by show kb<_;omega)).trans hs.2.2.2.2.2.1,(hb.cell (p:=⟨kb,ko+4,none⟩) (by show kb<_;omega)).trans hs.2.2.2.2.2.2⟩
 have s5r:∀(W W':World),w.heap.size<W.heap.size→(fun W:World=>W.cell? ⟨w.heap.size,2,none⟩=some (.string t.name)∧W.cell? ⟨w.heap.size,4,none⟩=some (.slice (some ⟨kb,ko,none⟩) 1 ck)∧W.cell? ⟨kb,ko,none⟩=some (.int .i64 k.kind)∧W.cell? ⟨kb,ko+1,none⟩=some (.int .i64 k.so)∧W.cell? ⟨kb,ko+2,none⟩=some (.string k.name)∧W.cell? ⟨kb,ko+3,none⟩=some (.slice al2 k.labels.length cl2)∧W.cell? ⟨kb,ko+4,none⟩=some (.slice ak2 k.kids.length ck2)) W→RF pg pg u.ownBlock W W'→(fun W:World=>W.cell? ⟨w.heap.size,2,none⟩=some (.string t.name)∧W.cell? ⟨w.heap.size,4,none⟩=some (.slice (some ⟨kb,ko,none⟩) 1 ck)∧W.cell? ⟨kb,ko,none⟩=some (.int .i64 k.kind)∧W.cell? ⟨kb,ko+1,none⟩=some (.int .i64 k.so)∧W.cell? ⟨kb,ko+2,none⟩=some (.string k.name)∧W.cell? ⟨kb,ko+3,none⟩=some (.slice al2 k.labels.length cl2)∧W.cell? ⟨kb,ko+4,none⟩=some (.slice ak2 k.kids.length ck2)) W':=fun W W' hz hs hr=>by
  have c1:∀o,W'.cell? ⟨w.heap.size,o,none⟩=W.cell? ⟨w.heap.size,o,none⟩:=fun o=>hr.cell hz (by omega) (by omega) (fun e=>by have:=HRW _ e.symm;omega)
  have c2:∀o,W'.cell? ⟨kb,o,none⟩=W.cell? ⟨kb,o,none⟩:=fun o=>hr.cell (by omega) (by omega) (by omega) (fun e=>by have:=HRW2 _ e.symm;omega)
  exact ⟨(c1 _).trans hs.1,(c1 _).trans hs.2.1,(c2 _).trans hs.2.2.1,(c2 _).trans hs.2.2.2.1,(c2 _).trans hs.2.2.2.2.1,(c2 _).trans hs.2.2.2.2.2.1,(c2 _).trans hs.2.2.2.2.2.2⟩
 have hA:Below w.heap.size w (w.alloc (.cells #[.int .i64 t.kind,.int .i64 t.so,.string t.name,.slice al t.labels.length cl,.slice (some ⟨kb,ko,none⟩) 1 ck] 25)):=(Below.refl _ _).alloc (Nat.le_refl _) _;have HB1:=hideK (show Below w.heap.size w ((w.alloc (.cells #[.int .i64 t.kind,.int .i64 t.so,.string t.name,.slice al t.labels.length cl,.slice (some ⟨kb,ko,none⟩) 1 ck] 25)).drew.alloc (.cells #[.string t.name,.int .i64 (toks.length:Int)] 127)) from hA.drew.alloc (by simp) _)
 have HM1:=hideK (hm.keep (RF.of HB1.out) (.inl rfl));have HP1:=hideK (hp.keep HB1.out);have HPL:=hideK (show pg<((w.alloc (.cells #[.int .i64 t.kind,.int .i64 t.so,.string t.name,.slice al t.labels.length cl,.slice (some ⟨kb,ko,none⟩) 1 ck] 25)).drew.alloc (.cells #[.string t.name,.int .i64 (toks.length:Int)] 127)).heap.size by simp;omega)
 have HRL:=hideK (show ∀j,u.ownBlock=some j→j<((w.alloc (.cells #[.int .i64 t.kind,.int .i64 t.so,.string t.name,.slice al t.labels.length cl,.slice (some ⟨kb,ko,none⟩) 1 ck] 25)).drew.alloc (.cells #[.string t.name,.int .i64 (toks.length:Int)] 127)).heap.size from fun j hj=>by have:=HRW j hj;simp;omega)
 have CC:=hideK (fun W=>clipM_any ar aa ca pg u.ownBlock w W hm (by omega))
 have hS0:(fun W:World=>W.cell? ⟨w.heap.size,2,none⟩=some (.string t.name)∧W.cell? ⟨w.heap.size,4,none⟩=some (.slice (some ⟨kb,ko,none⟩) 1 ck)∧W.cell? ⟨kb,ko,none⟩=some (.int .i64 k.kind)∧W.cell? ⟨kb,ko+1,none⟩=some (.int .i64 k.so)∧W.cell? ⟨kb,ko+2,none⟩=some (.string k.name)∧W.cell? ⟨kb,ko+3,none⟩=some (.slice al2 k.labels.length cl2)∧W.cell? ⟨kb,ko+4,none⟩=some (.slice ak2 k.kids.length ck2)) (w.alloc (.cells #[.int .i64 t.kind,.int .i64 t.so,.string t.name,.slice al t.labels.length cl,.slice (some ⟨kb,ko,none⟩) 1 ck] 25)).drew:=⟨by go_cell,by go_cell,(hA.drew.cell (p:=⟨kb,ko,none⟩) (by show kb<_;omega)).trans hkid.c0,(hA.drew.cell (p:=⟨kb,ko+1,none⟩) (by show kb<_;omega)).trans hkid.c1,(hA.drew.cell (p:=⟨kb,ko+2,none⟩) (by show kb<_;omega)).trans hkid.c2,(hA.drew.cell (p:=⟨kb,ko+3,none⟩) (by show kb<_;omega)).trans hkid.c3,(hA.drew.cell (p:=⟨kb,ko+4,none⟩) (by show kb<_;omega)).trans hkid.c4⟩
 have hih:∀(aa3:OAd) (ca3:Nat) (W:World),Below w.heap.size w W→MR W pg u.ownBlock (ar++[(t.name,toks.length)]) aa3 ca3→PG W pg u toks→Calls Tryz.prog 41 #[.pointer (some ⟨pg,0,none⟩),tyVal k al2 cl2 ak2 ck2,.slice aa3 (ar.length+1) ca3] W (LYPost k (ar++[(t.name,toks.length)]) pg u toks B W):=fun aa3 ca3 W hb hmr hpg=>by
  have:=ih k al2 cl2 ak2 ck2 (ar++[(t.name,toks.length)]) aa3 ca3 pg u toks B W hbd (hla.keep (hb.mono (by omega))) (hkt.keep (hb.mono (by omega))) hwk hmr hpg hB (by omega) (by simp;omega)
  simpa using this
 have hkb:(t.kind==9)=false:=by rw [h8];rfl
 have hkb8:(t.kind==8)=true:=by rw [h8];rfl
 have hsz0:w.heap.size<(w.alloc (.cells #[.int .i64 t.kind,.int .i64 t.so,.string t.name,.slice al t.labels.length cl,.slice (some ⟨kb,ko,none⟩) 1 ck] 25)).heap.size:=by simp
 obtain ⟨ua,uc,rfl⟩:=sliceH_own hp.own;have pc:(w.alloc (.cells #[.int .i64 t.kind,.int .i64 t.so,.string t.name,.slice al t.labels.length cl,.slice (some ⟨kb,ko,none⟩) 1 ck] 25)).drew.cell? ⟨pg,0,none⟩=some (.slice ua toks.length uc):=(hA.drew.cell (p:=⟨pg,0,none⟩) hpl).trans hp.c;have HIH:=hideK hih;have S5K:=hideK s5k;have S5R:=hideK s5r;simp only [tyVal,hks,List.length_singleton]at HIH ⊢;clear hm hp hA hih s5k s5r hkid hbd hla hkt HRW HRW2 h8 ih;go_enter Tryz.func41,Tryz.ntmps41
 go_wp2_with fail
 refine wp_region_held_drew (S:=(fun W:World=>W.cell? ⟨w.heap.size,2,none⟩=some (.string t.name)∧W.cell? ⟨w.heap.size,4,none⟩=some (.slice (some ⟨kb,ko,none⟩) 1 ck)∧W.cell? ⟨kb,ko,none⟩=some (.int .i64 k.kind)∧W.cell? ⟨kb,ko+1,none⟩=some (.int .i64 k.so)∧W.cell? ⟨kb,ko+2,none⟩=some (.string k.name)∧W.cell? ⟨kb,ko+3,none⟩=some (.slice al2 k.labels.length cl2)∧W.cell? ⟨kb,ko+4,none⟩=some (.slice ak2 k.kids.length ck2))) (by kernel_rfl) hS0 (fun hS=>?_)
 clear hS0;refine tkH 0 (.pointer (some ⟨pg,0,none⟩)) hS ?_;refine tkH 1 (.pointer (some ⟨w.heap.size,4,none⟩)) hS ?_;refine tkH 2 (.slice (some ⟨kb,ko,none⟩) 1 ck) hS ?_ (hy:=Or.inl ⟨by rfl,fun W hW=>by obtain ⟨x0,x1,x2,x3,x4,x5,x6⟩:=hW;go_simp⟩)
 refine tkH 3 (.pointer (some ⟨kb,ko,none⟩)) hS ?_;refine tkH 4 (.agg #[.int .i64 k.kind,.int .i64 k.so,.string k.name,.slice al2 k.labels.length cl2,.slice ak2 k.kids.length ck2]) hS ?_ (hy:=Or.inl ⟨by rfl,fun W hW=>by obtain ⟨x0,x1,x2,x3,x4,x5,x6⟩:=hW;go_simp⟩)
 refine tkH 5 (.slice aa ar.length ca) hS ?_;refine tkH 7 (.pointer (some ⟨w.heap.size,2,none⟩)) hS ?_;refine tkH 8 (.string t.name) hS ?_ (hy:=Or.inl ⟨by rfl,fun W hW=>by obtain ⟨x0,x1,x2,x3,x4,x5,x6⟩:=hW;go_simp⟩)
 refine tkH 9 (.pointer (some ⟨pg,0,none⟩)) hS ?_;refine tkH 10 (.pointer (some ⟨pg,0,none⟩)) hS ?_;refine wpAnyH_ready (rs:=[6,11]) (by kernel_rfl) (by simp) (AllReadyH.cons rfl (fun K hK=>?_) (AllReadyH.cons rfl (fun K hK=>?_) AllReadyH.nil))
 ·go_simp
  refine (CC.out _).mono ?_;rintro e wc ⟨rfl,rfl⟩;have hSn:=hS;refine hK.out _ _ hSn ?_;clear hS hK K hSn;intro hS;refine take_oneHL 11 (AllReadyH.cons rfl (fun K hK=>?_) AllReadyH.nil) (by kernel_rfl)
  go_simp
  have hSn:=hS;refine hK.out _ _ hSn ?_;clear hS hK K hSn;intro hS;refine tkH 12 (.int .i64 (toks.length:Int)) hS ?_;refine tkH 13 (.agg #[.string t.name,.int .i64 (toks.length:Int)]) hS ?_;refine take_oneHL 14 (AllReadyH.cons rfl (fun K hK=>?_) AllReadyH.nil) (by kernel_rfl)
  go_simp
  have hSn:=S5K.out _ _ hS (((Below.refl _ _).alloc (Nat.le_refl _) (.cells #[.string t.name,.int .i64 (toks.length:Int)] 127)).mono (by simp))
  refine hK.out _ _ hSn ?_;clear hS hK K hSn;intro hS;refine take_oneHL 15 (AllReadyH.cons rfl (fun K hK=>?_) AllReadyH.nil) (by kernel_rfl)
  refine step_append_m _ rfl (.tmp 27) (.tmp 35) rfl ar aa pg (Value.slice ua toks.length uc).ownBlock t.name toks.length (w.heap.size+1) 1 rfl rfl HM1.out.clip (by omega) (by go_cell) (by go_cell) HPL.out HRL.out ?_
  intro aa3 ca3 w4 hMR4 hb4;have hSn:=S5K.out _ _ hS (hb4.mono (by simp))
  refine hK.out _ _ hSn ?_;clear hS hK K hSn;intro hS;have HB4:=hideK (show Below w.heap.size w w4 from HB1.out.trans (hb4.mono HB1.out.size))
  have HP4:=hideK (HP1.out.keep hb4);have CY:=HIH.out aa3 ca3 w4 HB4.out hMR4 HP4.out;have hz4:w.heap.size<w4.heap.size:=by have:=hb4.size;simp at this;omega
  clear hb4 hMR4;refine take_oneHL 16 (AllReadyH.cons rfl (fun K hK=>?_) AllReadyH.nil) (by kernel_rfl)
  go_simp
  refine CY.mono ?_;rintro e w5 ⟨rfl,new,u5,hn5,hp5,ht5,hr5,hu5⟩;have hSn:=S5R.out _ _ hz4 hS hr5;refine hK.out _ _ hSn ?_;clear hS hK K hSn;intro hS;refine take_oneHL 17 (AllReadyH.cons rfl (fun K hK=>?_) AllReadyH.nil) (by kernel_rfl)
  go_simp
  have hSn:=hS;refine hK.out _ _ hSn ?_;clear hS hK K hSn;intro hS;refine wpAnyH_done (by kernel_rfl) ?_ _
  clear hS CY;go_wp2_with fail
  go_ret
  refine ⟨by rw [HLP.out];rfl,new,u5,by rw [HLP.out];exact hn5,hp5,ht5.keep (Below.refl _ _) (fun _ _ _=>rfl) (fun b hb=>⟨Nat.le_trans HB4.out.size hb.1,hb.2⟩),(RF.of (row:=(Value.slice ua toks.length uc).ownBlock) HB4.out).trans hr5 (.inl rfl),hu5.imp id (fun h k hk=>Nat.le_trans HB4.out.size (h k hk))⟩
 ·go_simp
  have hSn:=hS;refine hK.out _ _ hSn ?_;clear hS hK K hSn;intro hS;refine tkH 12 (.int .i64 (toks.length:Int)) hS ?_;refine tkH 13 (.agg #[.string t.name,.int .i64 (toks.length:Int)]) hS ?_;refine wpAnyH_ready (rs:=[6,14]) (by kernel_rfl) (by simp) (AllReadyH.cons rfl (fun K hK=>?_) (AllReadyH.cons rfl (fun K hK=>?_) AllReadyH.nil))
  ·go_simp
   refine (CC.out _).mono ?_;rintro e wc ⟨rfl,rfl⟩;have hSn:=hS;refine hK.out _ _ hSn ?_;clear hS hK K hSn;intro hS;refine take_oneHL 14 (AllReadyH.cons rfl (fun K hK=>?_) AllReadyH.nil) (by kernel_rfl)
   go_simp
   have hSn:=S5K.out _ _ hS (((Below.refl _ _).alloc (Nat.le_refl _) (.cells #[.string t.name,.int .i64 (toks.length:Int)] 127)).mono (by simp))
   refine hK.out _ _ hSn ?_;clear hS hK K hSn;intro hS;refine take_oneHL 15 (AllReadyH.cons rfl (fun K hK=>?_) AllReadyH.nil) (by kernel_rfl)
   refine step_append_m _ rfl (.tmp 27) (.tmp 35) rfl ar aa pg (Value.slice ua toks.length uc).ownBlock t.name toks.length (w.heap.size+1) 1 rfl rfl HM1.out.clip (by omega) (by go_cell) (by go_cell) HPL.out HRL.out ?_
   intro aa3 ca3 w4 hMR4 hb4;have hSn:=S5K.out _ _ hS (hb4.mono (by simp))
   refine hK.out _ _ hSn ?_;clear hS hK K hSn;intro hS;have HB4:=hideK (show Below w.heap.size w w4 from HB1.out.trans (hb4.mono HB1.out.size))
   have HP4:=hideK (HP1.out.keep hb4);have CY:=HIH.out aa3 ca3 w4 HB4.out hMR4 HP4.out;have hz4:w.heap.size<w4.heap.size:=by have:=hb4.size;simp at this;omega
   clear hb4 hMR4;refine take_oneHL 16 (AllReadyH.cons rfl (fun K hK=>?_) AllReadyH.nil) (by kernel_rfl)
   go_simp
   refine CY.mono ?_;rintro e w5 ⟨rfl,new,u5,hn5,hp5,ht5,hr5,hu5⟩;have hSn:=S5R.out _ _ hz4 hS hr5;refine hK.out _ _ hSn ?_;clear hS hK K hSn;intro hS;refine take_oneHL 17 (AllReadyH.cons rfl (fun K hK=>?_) AllReadyH.nil) (by kernel_rfl)
   go_simp
   have hSn:=hS;refine hK.out _ _ hSn ?_;clear hS hK K hSn;intro hS;refine wpAnyH_done (by kernel_rfl) ?_ _
   clear hS CY;go_wp2_with fail
   go_ret
   refine ⟨by rw [HLP.out];rfl,new,u5,by rw [HLP.out];exact hn5,hp5,ht5.keep (Below.refl _ _) (fun _ _ _=>rfl) (fun b hb=>⟨Nat.le_trans HB4.out.size hb.1,hb.2⟩),(RF.of (row:=(Value.slice ua toks.length uc).ownBlock) HB4.out).trans hr5 (.inl rfl),hu5.imp id (fun h k hk=>Nat.le_trans HB4.out.size (h k hk))⟩
  ·go_simp
   have hSn:=S5K.out _ _ hS (((Below.refl _ _).alloc (Nat.le_refl _) (.cells #[.string t.name,.int .i64 (toks.length:Int)] 127)).mono (by simp))
   refine hK.out _ _ hSn ?_;clear hS hK K hSn;intro hS;refine take_oneHL 6 (AllReadyH.cons rfl (fun K hK=>?_) AllReadyH.nil) (by kernel_rfl)
   go_simp
   refine (CC.out _).mono ?_;rintro e wc ⟨rfl,rfl⟩;have hSn:=hS;refine hK.out _ _ hSn ?_;clear hS hK K hSn;intro hS;refine take_oneHL 15 (AllReadyH.cons rfl (fun K hK=>?_) AllReadyH.nil) (by kernel_rfl)
   refine step_append_m _ rfl (.tmp 27) (.tmp 35) rfl ar aa pg (Value.slice ua toks.length uc).ownBlock t.name toks.length (w.heap.size+1) 1 rfl rfl HM1.out.clip (by omega) (by go_cell) (by go_cell) HPL.out HRL.out ?_
   intro aa3 ca3 w4 hMR4 hb4;have hSn:=S5K.out _ _ hS (hb4.mono (by simp))
   refine hK.out _ _ hSn ?_;clear hS hK K hSn;intro hS;have HB4:=hideK (show Below w.heap.size w w4 from HB1.out.trans (hb4.mono HB1.out.size))
   have HP4:=hideK (HP1.out.keep hb4);have CY:=HIH.out aa3 ca3 w4 HB4.out hMR4 HP4.out;have hz4:w.heap.size<w4.heap.size:=by have:=hb4.size;simp at this;omega
   clear hb4 hMR4;refine take_oneHL 16 (AllReadyH.cons rfl (fun K hK=>?_) AllReadyH.nil) (by kernel_rfl)
   go_simp
   refine CY.mono ?_;rintro e w5 ⟨rfl,new,u5,hn5,hp5,ht5,hr5,hu5⟩;have hSn:=S5R.out _ _ hz4 hS hr5;refine hK.out _ _ hSn ?_;clear hS hK K hSn;intro hS;refine take_oneHL 17 (AllReadyH.cons rfl (fun K hK=>?_) AllReadyH.nil) (by kernel_rfl)
   go_simp
   have hSn:=hS;refine hK.out _ _ hSn ?_;clear hS hK K hSn;intro hS;refine wpAnyH_done (by kernel_rfl) ?_ _
   clear hS CY;go_wp2_with fail
   go_ret
   refine ⟨by rw [HLP.out];rfl,new,u5,by rw [HLP.out];exact hn5,hp5,ht5.keep (Below.refl _ _) (fun _ _ _=>rfl) (fun b hb=>⟨Nat.le_trans HB4.out.size hb.1,hb.2⟩),(RF.of (row:=(Value.slice ua toks.length uc).ownBlock) HB4.out).trans hr5 (.inl rfl),hu5.imp id (fun h k hk=>Nat.le_trans HB4.out.size (h k hk))⟩
end Go.Proofs.YtnedgkcejlhnbaaGreatDoor
