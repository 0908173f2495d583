/-
  The contract of exprs.Sort, for every expression, every names and sorts; utf8.ValidString's and strings.Compare's contracts are hypotheses here.
-/
import Derived.Test.YtmamabhhgfcjcaaGreatDoorOrc
import Derived.Deep.Heap
import Derived.Ground.SlmcProg
import Derived.Shelf.SlMaps.Clone
set_option maxRecDepth 100000
set_option maxHeartbeats 4000000
namespace Go.Proofs.YtmamabhhgfcjcaaGreatDoor
open Go.RowKit Go.Shelf
variable (Tabs:World→Prop) (B0:Nat)
theorem sort_any(hV:VSaid vD Tabs)(hK:∀w w',Tabs w→Below w.heap.size w w'→Tabs w')(hK2:∀B w w',B0≤B→Tabs w→Below B w w'→Tabs w')(hB0:∀w,Tabs w→B0≤w.heap.size)
  (d:Nat) (x:Ex) (ao:OAd) (cap:Nat) (ns:List ByteArray) (zs:List Int) (an am:OAd) (cn cm:Nat) (w:World) (hbd:ExBd x cap) (hka:KA w w.heap.size d x.kids ao) (hns:NSAt w w.heap.size ns zs an am) (hT:Tabs w) :
  Calls Tryz.prog 99 #[exVal x ao cap,.slice an ns.length cn,.slice am ns.length cm] w fun e w'=>e = .returned (.tuple #[.int .i64 (srtR x ns zs).1,.int .i64 (srtR x ns zs).2])∧Below w.heap.size w w':=by
 have hw1:Below w.heap.size w (w.alloc (.cells #[.int .i64 x.kind,.string x.name,.int .i64 x.so,.int .i64 x.n,.string x.s,.slice ao x.kids.length cap] 34)):=(bR _ _).alloc (nR _) _;have cK:=chk_any Tabs B0 hV hK hK2 hB0 d x ao cap _ hbd ((hka.keep hw1).mono (by simp)) (hK _ _ hT hw1)
 have cS:=fun (h:wfX x) (W:World) (hW:Below w.heap.size w W)=>sortOf_any ns zs an am cn cm d x ao cap w.heap.size W h hbd (hka.keep hW) (hns.keep hW) hW.size
 have hcw:chkX x=0→wfX x:=fun h=>chk_wf x 0 h
 have hbz:(ns.length:Int)≤9223372036854775806:=by have:=hns.bd;omega
 unfold srtR;generalize chkX x=z at cK hcw ⊢;generalize sortX (lookS ns zs) x=r at cS ⊢;simp only [exVal]at cK cS ⊢;have HW:Hid (Below w.heap.size w (w.alloc (.cells #[.int .i64 x.kind,.string x.name,.int .i64 x.so,.int .i64 x.n,.string x.s,.slice ao x.kids.length cap] 34))):=hw1;clear hV hK hK2 hB0 hka hns hT hw1 hbd;by_cases hz:z=0
 ·subst hz
  have cS2:=cS (hcw rfl);rw [if_pos rfl];have CS:Hid (∀(W:World),Below w.heap.size w W→Calls Tryz.prog 129 #[.agg #[.int .i64 x.kind,.string x.name,.int .i64 x.so,.int .i64 x.n,.string x.s,.slice ao x.kids.length cap],.slice an ns.length cn,.slice am ns.length cm] W fun e w'=>e = .returned (.tuple #[.int .i64 r.1,.int .i64 r.2])∧Below W.heap.size W w'):=cS2
  have hne:((ns.length:Int) != (ns.length:Int))=false:=by simp
  clear cS cS2 hcw;go_enter Tryz.func99,Tryz.ntmps99
  go_wp2_with fail
  refine cK.mono ?_;rintro e w1 ⟨rfl,hb1⟩;have hbw:Below w.heap.size w w1:=HW.out.trans (hb1.mono (by simp))
  obtain ⟨hc,_⟩:=bcell hb1;have x0:w1.cell? ⟨w.heap.size,0,none⟩=some (.int .i64 x.kind):=(hc _ 0 (by simp)).trans (by go_cell)
  have x1:w1.cell? ⟨w.heap.size,1,none⟩=some (.string x.name):=(hc _ 1 (by simp)).trans (by go_cell)
  have x2:w1.cell? ⟨w.heap.size,2,none⟩=some (.int .i64 x.so):=(hc _ 2 (by simp)).trans (by go_cell)
  have x3:w1.cell? ⟨w.heap.size,3,none⟩=some (.int .i64 x.n):=(hc _ 3 (by simp)).trans (by go_cell)
  have x4:w1.cell? ⟨w.heap.size,4,none⟩=some (.string x.s):=(hc _ 4 (by simp)).trans (by go_cell)
  have x5:w1.cell? ⟨w.heap.size,5,none⟩=some (.slice ao x.kids.length cap):=(hc _ 5 (by simp)).trans (by go_cell)
  clear hc hb1 cK;go_wp2_with fail
  refine (CS.out _ hbw).mono ?_;rintro e w2 ⟨rfl,hb2⟩;go_wp2_with fail
  go_ret2
  exact ⟨rfl,hbw.trans (hb2.mono hbw.size)⟩
 ·rw [if_neg hz]
  have hzb:(z != 0)=true:=by simpa using hz
  clear cS hcw;go_enter Tryz.func99,Tryz.ntmps99
  go_wp2_with fail
  refine cK.mono ?_;rintro e w1 ⟨rfl,hb1⟩;go_wp2_with fail
  go_ret2
  exact ⟨rfl,HW.out.trans (hb1.mono (by simp))⟩
end Go.Proofs.YtmamabhhgfcjcaaGreatDoor
namespace Go.Proofs.YtmamabhhgfcjcaaGreatDoor
open Go.RowKit Go.Shelf
structure ScA where
 va:OAd
 vc:Nat
 sa:OAd
 sc:Nat
 mp:Option Nat
def scVal(s:Sc)(a:ScA):Value:=.agg #[.slice a.va s.vs.length a.vc,.slice a.sa s.ss.length a.sc,.map a.mp]
def FM(F:List ((ByteArray × En) × OAd × Nat)):List (ByteArray × Value):=F.map fun t=>(t.1.1,enVal t.1.2 t.2.1 t.2.2)
def ScM(W:World)(mp:Option Nat)(es:List (ByteArray × En)):Prop:=(mp=none∧es=[])∨∃b F,mp=some b∧SMv W b (FM F)∧es=F.map (·.1)∧∀t∈F,EnAt W t.1.2 t.2.1
theorem ScM.keep{W W':World}{mp:Option Nat}{es:List (ByteArray × En)}(h:ScM W mp es)(hb:Below W.heap.size W W'):ScM W' mp es :=
 h.imp id fun ⟨b,F,e,h1,h2,h3⟩=>⟨b,F,e,h1.keep hb h1.lt,h2,fun t ht=>(h3 t ht).keep hb⟩
structure ScAt(W:World)(s:Sc)(a:ScA):Prop where
 vs:NmsAt W W.heap.size s.vs a.va a.vc
 ss:NAt W W.heap.size (s.ss.map (Value.int .i64)) a.sa
 sl:s.ss.length≤a.sc
 sc:a.sc≤9223372036854775807
 eq:s.vs.length=s.ss.length
 es:ScM W a.mp s.es
theorem ScAt.keep{W W':World}{s:Sc}{a:ScA}(h:ScAt W s a)(hb:Below W.heap.size W W'):ScAt W' s a :=
 ⟨(h.vs.keep hb).mono hb.size,NAt.mono hb.size (NAt.keep hb h.ss),h.sl,h.sc,h.eq,h.es.keep hb⟩
def NSc(w0 w:World)(es:List (ByteArray × En))(mp:Option Nat)(W:World):Prop:=∃F,es=F.map (·.1)∧(∀t∈F,EnAt w0 t.1.2 t.2.1)∧((mp=none∧F=[])∨∃b,mp=some b∧w.heap.size≤b∧SMv W b (FM F))
theorem ScAt.new{w0 w W:World}{s:Sc}{a:ScA}(h:ScAt w0 s a)(hb:Below w0.heap.size w0 W){es:List (ByteArray × En)}{mp:Option Nat}(hn:NSc w0 w es mp W):ScAt W ⟨s.vs,s.ss,es⟩ ⟨a.va,a.vc,a.sa,a.sc,mp⟩:=by
 have hk:=h.keep hb;obtain ⟨F,e,h1,h2⟩:=hn;refine ⟨hk.vs,hk.ss,hk.sl,hk.sc,hk.eq,?_⟩;rcases h2 with ⟨rfl,rfl⟩|⟨b,rfl,_,h3⟩
 ·exact .inl ⟨rfl,e⟩
 ·exact .inr ⟨b,F,rfl,h3,e,fun t ht=>(h1 t ht).keep hb⟩
theorem NSc.of_blocks{w0 w W W':World}{es:List (ByteArray × En)}{mp:Option Nat}(h:NSc w0 w es mp W)(hb:∀b,w.heap.size≤b→W'.heap[b]? = W.heap[b]?):NSc w0 w es mp W':=by
 obtain ⟨F,e,h1,h2⟩:=h;refine ⟨F,e,h1,h2.imp id fun ⟨b,e1,e2,h3⟩=>⟨b,e1,e2,?_⟩⟩
 obtain ⟨es',clock,q,r⟩:=h3;exact ⟨es',clock,(hb b e2).trans q,r⟩
theorem NSc.older{w0 w v W:World}{es:List (ByteArray × En)}{mp:Option Nat}(h:NSc w0 w es mp W)(hv:v.heap.size≤w.heap.size):NSc w0 v es mp W:=by
 obtain ⟨F,e,h1,h2⟩:=h;exact ⟨F,e,h1,h2.imp id fun ⟨b,e1,e2,h3⟩=>⟨b,e1,by omega,h3⟩⟩
def GSc(w0 W:World)(es:List (ByteArray × En))(mp:Option Nat):Prop:=∃F,es=F.map (·.1)∧(∀t∈F,EnAt w0 t.1.2 t.2.1)∧((mp=none∧F=[])∨∃b,mp=some b∧SMv W b (FM F))
theorem NSc.gs{w0 w W:World}{es:List (ByteArray × En)}{mp:Option Nat}(h:NSc w0 w es mp W):GSc w0 W es mp:=by
 obtain ⟨F,e,h1,h2⟩:=h;exact ⟨F,e,h1,h2.imp id fun ⟨b,e1,_,h3⟩=>⟨b,e1,h3⟩⟩
theorem GSc.keep{w0 W W':World}{es:List (ByteArray × En)}{mp:Option Nat}(h:GSc w0 W es mp)(hb:Below W.heap.size W W'):GSc w0 W' es mp:=by
 obtain ⟨F,e,h1,h2⟩:=h;exact ⟨F,e,h1,h2.imp id fun ⟨b,e1,h3⟩=>⟨b,e1,h3.keep hb h3.lt⟩⟩
theorem ScAt.gs{w0 W:World}{s:Sc}{a:ScA}(h:ScAt w0 s a)(hb:Below w0.heap.size w0 W):GSc w0 W s.es a.mp:=by
 rcases h.es with ⟨e1,e2⟩|⟨b,F,e1,h1,e2,h3⟩
 ·exact ⟨[],e2,(fun t ht=>by cases ht),.inl ⟨e1,rfl⟩⟩
 ·exact ⟨F,e2,h3,.inr ⟨b,e1,h1.keep hb h1.lt⟩⟩
def scBx(s:Sc)(a:ScA):Obj:=.cells #[.slice a.va s.vs.length a.vc,.slice a.sa s.ss.length a.sc,.map a.mp] 70
theorem getE_v(es:List (ByteArray × En))(n:ByteArray):getE es n=getV es n:=rfl
theorem FM_get(F:List ((ByteArray × En) × OAd × Nat))(n:ByteArray):(getV (FM F) n=none∧getE (F.map (·.1)) n=none)∨∃t∈F,t.1.1=n∧getV (FM F) n=some (enVal t.1.2 t.2.1 t.2.2)∧getE (F.map (·.1)) n=some t.1.2:=by
 rw [getE_v];induction F with
 | nil=>exact .inl ⟨rfl,rfl⟩
 | cons t F ih =>
  unfold FM at ih ⊢;rw [List.map_cons,List.map_cons,getV_cons,getV_cons];by_cases h:t.1.1=n
  ·rw [if_pos h,if_pos h]
   exact .inr ⟨t,List.mem_cons_self,h,rfl,rfl⟩
  ·rw [if_neg h,if_neg h]
   exact ih.imp id fun ⟨u,hu,q⟩=>⟨u,List.mem_cons_of_mem _ hu,q⟩
theorem zeroEn(w:World):(zeroValue 90).run Tryz.prog w = .ok (.agg #[.slice none 0 0,.int .i64 0]) w:=by
 have h:(Tryz.prog.info? 90).map (·.zero)=some (some (.agg #[.slice none 0 0,.int .i64 0])):=by kernel_rfl
 cases hq:Tryz.prog.info? 90 with
 | none=>rw [hq]at h;cases h
 | some i =>
  rw [hq]at h;have hz:i.zero=some (.agg #[.slice none 0 0,.int .i64 0]):=Option.some.inj h;simp [zeroValue,typeInfo,hq,hz]
theorem ScM.look{W:World}{mp:Option Nat}{es:List (ByteArray × En)}(h:ScM W mp es){n:ByteArray}(hn:n.size≤maxLen):
  (getE es n=none∧∀W',Below W.heap.size W W'→(Instr.lookup 68 (.map mp) (.string n) true).run Tryz.prog W' = .ok (.tuple #[.agg #[.slice none 0 0,.int .i64 0],.bool false]) W') ∨
  ∃x ag cg,getE es n=some x∧EnAt W x ag∧∀W',Below W.heap.size W W'→(Instr.lookup 68 (.map mp) (.string n) true).run Tryz.prog W' = .ok (.tuple #[enVal x ag cg,.bool true]) W':=by
 rcases h with ⟨rfl,rfl⟩|⟨b,F,rfl,h1,rfl,h3⟩
 ·exact .inl ⟨rfl,fun W' _=>look_nilM mapT hn (zeroEn W')⟩
 ·rcases FM_get F n with ⟨q1,q2⟩|⟨t,ht,_,q1,q2⟩
  ·exact .inl ⟨q2,fun W' hW=>look_no mapT (h1.keep hW h1.lt) hn q1 (zeroEn W')⟩
  ·exact .inr ⟨t.1.2,t.2.1,t.2.2,q2,h3 t ht,fun W' hW=>(look_yes mapT (h1.keep hW h1.lt) hn q1).1⟩
theorem hasEnd_any(s:Sc)(a:ScA)(n:ByteArray)(w:World)(h:ScAt w s a)(hn:n.size≤maxLen):
  Calls Tryz.prog 66 #[scVal s a,.string n] w fun e w'=>e = .returned (.bool (getE s.es n).isSome)∧Below w.heap.size w w':=by
 have HB:=hideK (show Below w.heap.size w (w.alloc (scBx s a)) from (bR _ _).alloc (nR _) _)
 rcases h.es.look hn with ⟨e,hl⟩|⟨x,ag,cg,e,hx,hl⟩
 ·have hlk:=hl _ HB.out
  rw [e];simp only [scBx,scVal]at HB hlk ⊢;clear hl e h;go_enter Tryz.func66,Tryz.ntmps66
  go_wp2_with fail
  go_ret
  exact ⟨rfl,by go_grown⟩
 ·have hlk:=hl _ HB.out
  rw [e];simp only [scBx,scVal,enVal]at HB hlk ⊢;clear hl e h hx;go_enter Tryz.func66,Tryz.ntmps66
  go_wp2_with fail
  go_ret
  exact ⟨rfl,by go_grown⟩
theorem wantNoEnds_any(s:Sc)(a:ScA)(w:World)(h:ScAt w s a):
  Calls Tryz.prog 39 #[scVal s a] w fun e w'=>e = .returned (.int .i64 (noE s))∧Below w.heap.size w w':=by
 have hB:Below w.heap.size w (w.alloc (scBx s a)):=(bR _ _).alloc (nR _) _;have hd:noE s=if s.es.length=0 then 0 else 6:=rfl
 generalize noE s=r at *;rcases h.es with ⟨hm,he⟩|⟨b,F,hm,h1,he,_⟩
 ·rw [he]at hd
  simp only [List.length_nil,if_true]at hd;subst hd;simp only [scBx,scVal]at hB ⊢;rw [hm];clear h he hB;go_enter Tryz.func39,Tryz.ntmps39
  go_wp2_with fail
  go_ret
  exact ⟨rfl,by go_grown⟩
 ·have hlen:=fun ty=>sm_len mapT (h1.keep hB h1.lt) ty
  have hl:s.es.length=(FM F).length:=by rw [he];simp [FM]
  simp only [scBx,scVal,goInt]at hB hlen ⊢;rw [hm]at hlen ⊢;by_cases h0:(FM F).length=0
  ·rw [hl,if_pos h0]at hd
   subst hd;rw [h0]at hlen;clear h he hl h1 h0;go_enter Tryz.func39,Tryz.ntmps39
   go_wp2_with fail
   go_ret
   exact ⟨rfl,by go_grown⟩
  ·rw [hl,if_neg h0]at hd
   subst hd;have hp:(0:Int)<((FM F).length:Int):=by omega
   generalize (FM F).length=k at *;clear h he hl h1 h0;go_enter Tryz.func39,Tryz.ntmps39
   go_wp2_with fail
   go_ret
   exact ⟨rfl,by go_grown⟩
theorem ScAt.ns{W:World}{s:Sc}{a:ScA}(h:ScAt W s a)(hl:s.vs.length≤1000):NSAt W W.heap.size s.vs s.ss a.va a.sa :=
 ⟨h.eq.symm,by omega,(h.vs.la).imp (fun q=>by simpa using q) (fun ⟨b,o,e,hb,hc⟩=>⟨b,o,e,hb,fun i hi=>by have:=hc i (by simpa using hi);rw [List.getElem_map]at this;exact this⟩),h.ss.imp (fun q=>by simpa using q) (fun ⟨b,o,e,hb,hc⟩=>⟨b,o,e,hb,fun i hi=>by have:=hc i (by simpa using hi);rw [List.getElem_map]at this;exact this⟩)⟩
theorem scSort_any{W0:World}(h0:Tabs W0)(s:Sc)(a:ScA)(x:Ex)(ao:OAd)(cap:Nat)(w:World)(h:ScAt w s a)(hbd:ExBd x cap)(hka:∃d,KA w w.heap.size d x.kids ao)(hT:AT W0 w)(hl:s.vs.length≤1000):
  Calls Tryz.prog 71 #[scVal s a,exVal x ao cap] w fun e w'=>e = .returned (.tuple #[.int .i64 (srtR x s.vs s.ss).1,.int .i64 (srtR x s.vs s.ss).2])∧Below w.heap.size w w':=by
 have hA:Below w.heap.size w ((w.alloc (.cells #[.slice a.va s.vs.length a.vc,.slice a.sa s.ss.length a.sc,.map a.mp] 70)).alloc (.cells #[.int .i64 x.kind,.string x.name,.int .i64 x.so,.int .i64 x.n,.string x.s,.slice ao x.kids.length cap] 34)):=((bR _ _).alloc (nR _) _).alloc (by simp) _
 obtain ⟨d,hd⟩:=hka;have c:=sort_any (AT W0) W0.heap.size (at_v h0) at_k at_k2 at_0 d x ao cap s.vs s.ss a.va a.sa a.vc a.sc _ hbd (KA.mono hA.size (KA.keep hA hd)) ((h.keep hA).ns hl) (at_k _ _ hT hA);rw [h.eq]at c;have HA:=hideK hA;simp only [exVal]at c;simp only [scVal,exVal];rw [h.eq]at HA ⊢;generalize srtR x s.vs s.ss=r at *;clear h hbd hd hT hA hl;go_enter Tryz.func71,Tryz.ntmps71
 go_wp2_with fail
 refine c.mono ?_;rintro e w1 ⟨rfl,hb1⟩;have HB:=hideK (HA.out.trans (hb1.mono HA.out.size));clear c hb1 HA;go_wp2_with fail
 go_ret2
 exact ⟨rfl,HB.out⟩
theorem wantSort_any{W0:World}(h0:Tabs W0)(s:Sc)(a:ScA)(x:Ex)(ao:OAd)(cap:Nat)(z:Int)(w:World)(h:ScAt w s a)(hbd:ExBd x cap)(hka:∃d,KA w w.heap.size d x.kids ao)(hT:AT W0 w)(hl:s.vs.length≤1000):
  Calls Tryz.prog 69 #[scVal s a,exVal x ao cap,.int .i64 z] w fun e w'=>e = .returned (.int .i64 (wntS s x z))∧Below w.heap.size w w':=by
 have hA:Below w.heap.size w ((w.alloc (.cells #[.slice a.va s.vs.length a.vc,.slice a.sa s.ss.length a.sc,.map a.mp] 70)).alloc (.cells #[.int .i64 x.kind,.string x.name,.int .i64 x.so,.int .i64 x.n,.string x.s,.slice ao x.kids.length cap] 34)):=((bR _ _).alloc (nR _) _).alloc (by simp) _
 have c:=scSort_any h0 s a x ao cap _ (h.keep hA) hbd (hka.imp fun _ q=>KA.mono hA.size (KA.keep hA q)) (at_k _ _ hT hA) hl
 have HA:=hideK hA;have hd:wntS s x z=if (srtR x s.vs s.ss).2=0∧(srtR x s.vs s.ss).1≠z then 5 else (srtR x s.vs s.ss).2:=rfl
 generalize wntS s x z=r at *;generalize srtR x s.vs s.ss=q at *;obtain ⟨q1,q2⟩:=q;simp only at hd c;simp only [scVal,exVal]at c ⊢;clear h hbd hka hT hA hl;by_cases e2:q2=0
 ·subst e2
  by_cases e1:q1=z
  ·subst e1
   rw [if_neg (by simp)]at hd
   subst hd;go_enter Tryz.func69,Tryz.ntmps69
   go_wp2_with fail
   refine c.mono ?_;rintro e w1 ⟨rfl,hb1⟩;have HB:=hideK (HA.out.trans (hb1.mono HA.out.size));clear c hb1 HA;go_wp2_with fail
   go_ret
   exact ⟨rfl,HB.out⟩
  ·rw [if_pos ⟨rfl,e1⟩]at hd
   subst hd;have e1b:(q1 != z)=true:=by simpa using e1
   clear e1;go_enter Tryz.func69,Tryz.ntmps69
   go_wp2_with fail
   refine c.mono ?_;rintro e w1 ⟨rfl,hb1⟩;have HB:=hideK (HA.out.trans (hb1.mono HA.out.size));clear c hb1 HA;go_wp2_with fail
   go_ret
   exact ⟨rfl,HB.out⟩
 ·rw [if_neg (fun q=>e2 q.1)]at hd
  subst hd;have e2b:(r==0)=false:=by simpa using e2
  clear e2;go_enter Tryz.func69,Tryz.ntmps69
  go_wp2_with fail
  refine c.mono ?_;rintro e w1 ⟨rfl,hb1⟩;have HB:=hideK (HA.out.trans (hb1.mono HA.out.size));clear c hb1 HA;go_wp2_with fail
  go_ret
  exact ⟨rfl,HB.out⟩
theorem st3_at{W:World}{b:Nat}{u0 u1 u2:Value}(v0 v1 v2:Value)(z0:W.cell? ⟨b,0,none⟩=some u0)(z1:W.cell? ⟨b,1,none⟩=some u1)(z2:W.cell? ⟨b,2,none⟩=some u2):(((W.setCell ⟨b,0,none⟩ v0).setCell ⟨b,1,none⟩ v1).setCell ⟨b,2,none⟩ v2).cell? ⟨b,0,none⟩=some v0∧(((W.setCell ⟨b,0,none⟩ v0).setCell ⟨b,1,none⟩ v1).setCell ⟨b,2,none⟩ v2).cell? ⟨b,1,none⟩=some v1∧(((W.setCell ⟨b,0,none⟩ v0).setCell ⟨b,1,none⟩ v1).setCell ⟨b,2,none⟩ v2).cell? ⟨b,2,none⟩=some v2:=by
 have ne:∀i j:Nat,i≠j→(⟨b,i,none⟩:Addr)≠⟨b,j,none⟩:=fun i j h e=>by injection e with _ e;exact h e
 refine ⟨?_,?_,?_⟩
 ·rw [World.cell?_setCell_other _ _ _ _ (ne 2 0 (by omega)),World.cell?_setCell_other _ _ _ _ (ne 1 0 (by omega))]
  exact World.cell?_setCell_same _ _ _ z0
 ·rw [World.cell?_setCell_other _ _ _ _ (ne 2 1 (by omega))]
  exact World.cell?_setCell_same _ _ _ ((World.cell?_setCell_other _ _ _ _ (ne 0 1 (by omega))).trans z1)
 ·exact World.cell?_setCell_same _ _ _ ((World.cell?_setCell_other _ _ _ _ (ne 1 2 (by omega))).trans ((World.cell?_setCell_other _ _ _ _ (ne 0 2 (by omega))).trans z2))
theorem blk4{W:World}{k p q:Nat}(v v0 v1 v2:Value)(i:Nat)(h1:k≠p)(h2:k≠q):((((W.setCell ⟨p,i,none⟩ v).setCell ⟨q,0,none⟩ v0).setCell ⟨q,1,none⟩ v1).setCell ⟨q,2,none⟩ v2).heap[k]? = W.heap[k]?:=by
 rw [Go.Deep.blk_setCell_other _ _ _ _ h2,Go.Deep.blk_setCell_other _ _ _ _ h2,Go.Deep.blk_setCell_other _ _ _ _ h2,Go.Deep.blk_setCell_other _ _ _ _ h1]
def delF(F:List ((ByteArray × En) × OAd × Nat))(n:ByteArray):List ((ByteArray × En) × OAd × Nat):=F.filter fun t=>decide (t.1.1≠n)
theorem FM_del(F:List ((ByteArray × En) × OAd × Nat))(n:ByteArray):delV (FM F) n=FM (delF F n)∧delE (F.map (·.1)) n=(delF F n).map (·.1):=by
 unfold delV FM delF delE;rw [List.filter_map,List.filter_map];exact ⟨rfl,rfl⟩
theorem FM_put(F:List ((ByteArray × En) × OAd × Nat))(n:ByteArray)(x:En)(ag:OAd)(cg:Nat):putV (FM F) n (enVal x ag cg)=FM (delF F n++[((n,x),ag,cg)])∧putE (F.map (·.1)) n x=(delF F n++[((n,x),ag,cg)]).map (·.1):=by
 unfold putV putE;rw [(FM_del F n).1,(FM_del F n).2];unfold FM;rw [List.map_append,List.map_append];exact ⟨rfl,rfl⟩
theorem FM_two(F:List ((ByteArray × En) × OAd × Nat)):∀q∈FM F,TwoC q.2:=by
 intro q hq;obtain ⟨t,_,rfl⟩:=List.mem_map.1 hq;exact ⟨_,_,_,_,rfl⟩
structure WEB(w:World)(s:Sc)(a:ScA)(x:En)(ag:OAd)(cg:Nat)(W:World):Prop where
 bl:Below w.heap.size w W
 lt:w.heap.size+1+1+1<W.heap.size
 c0:W.cell? ⟨w.heap.size,0,none⟩=some (.slice a.va s.vs.length a.vc)
 c1:W.cell? ⟨w.heap.size,1,none⟩=some (.slice a.sa s.ss.length a.sc)
 c2:W.cell? ⟨w.heap.size,2,none⟩=some (.map a.mp)
 e0:W.cell? ⟨w.heap.size+1,0,none⟩=some (.slice ag x.g.length cg)
 e1:W.cell? ⟨w.heap.size+1,1,none⟩=some (.int .i64 (x.k:Int))
 z0:W.cell? ⟨w.heap.size+1+1,0,none⟩=some (.slice none 0 0)
 z1:W.cell? ⟨w.heap.size+1+1,1,none⟩=some (.slice none 0 0)
 z2:W.cell? ⟨w.heap.size+1+1,2,none⟩=some (.map none)
 f:∀b o,w.heap.size≤b→b<w.heap.size+1+1+1→W.frozen? ⟨b,o,none⟩=false
theorem WEB.keep{w:World}{s:Sc}{a:ScA}{x:En}{ag:OAd}{cg:Nat}{W W':World}(h:WEB w s a x ag cg W)(hb:Below (w.heap.size+1+1+1) W W'):WEB w s a x ag cg W':=by
 have hs:=hb.size;have hl:=h.lt;have c:∀b o,b<w.heap.size+1+1+1→W'.cell? ⟨b,o,none⟩=W.cell? ⟨b,o,none⟩:=fun b o q=>hb.cell (p:=⟨b,o,none⟩) q
 exact ⟨h.bl.trans (hb.mono (by omega)),by omega,(c _ _ (by omega)).trans h.c0,(c _ _ (by omega)).trans h.c1,(c _ _ (by omega)).trans h.c2,(c _ _ (by omega)).trans h.e0,(c _ _ (by omega)).trans h.e1,(c _ _ (by omega)).trans h.z0,(c _ _ (by omega)).trans h.z1,(c _ _ (by omega)).trans h.z2,fun b o q1 q2=>(hb.frozen (p:=⟨b,o,none⟩) q2).trans (h.f b o q1 q2)⟩
theorem WEB.new(w:World)(s:Sc)(a:ScA)(x:En)(ag:OAd)(cg:Nat):WEB w s a x ag cg ((((w.alloc (.cells #[.slice a.va s.vs.length a.vc,.slice a.sa s.ss.length a.sc,.map a.mp] 70)).alloc (.cells #[.slice ag x.g.length cg,.int .i64 (x.k:Int)] 90)).alloc (.cells #[.slice none 0 0,.slice none 0 0,.map none] 70)).alloc (.map #[] 0)) :=
 ⟨((((bR _ _).alloc (nR _) _).alloc (by simp) _).alloc (by simp;omega) _).alloc (by simp;omega) _,by simp,by go_cell,by go_cell,by go_cell,by go_cell,by go_cell,by go_cell,by go_cell,by go_cell,fun b o q1 q2=>by
  rcases (by omega:b=w.heap.size∨b=w.heap.size+1∨b=w.heap.size+1+1) with rfl|rfl|rfl <;> go_simp⟩
theorem copyS_any(mp:Option Nat)(es:List (ByteArray × En))(bd:Nat)(w0 w V:World)(h:GSc w0 w es mp)(hb:Below w.heap.size w V)(hbd:w.heap.size≤bd)(hnew:SMv V bd []):
  ∃F:List ((ByteArray × En) × OAd × Nat),es=F.map (·.1)∧(∀t∈F,EnAt w0 t.1.2 t.2.1)∧Calls Tryz.prog 74 #[.map (some bd),.map mp] V fun e w'=>e = .returned (.tuple #[])∧SMv w' bd (FM F)∧Below bd V w':=by
 have hl:=hnew.lt;obtain ⟨F,he,h3,h⟩:=h;refine ⟨F,he,h3,?_⟩;rcases h with ⟨rfl,rfl⟩|⟨b,rfl,h1⟩
 ·refine (copyNil_any bd V).mono ?_
  rintro e w' ⟨rfl,hg⟩;exact ⟨rfl,hnew.kept hg (by simp),(bR _ _).grown hg (by omega) (fun k q=>by cases q)⟩
 ·have hlt:=h1.lt
  refine (copyM_any (FM F) b bd V hnew (h1.keep hb hlt) (by omega) (FM_two F)).mono ?_
  rintro e w' ⟨rfl,hm',hg⟩;exact ⟨rfl,hm',(bR _ _).grown hg (by omega) (fun k q=>by have:=Option.some.inj q;omega)⟩
theorem withEnd_g(s:Sc)(a:ScA)(n:ByteArray)(x:En)(ag:OAd)(cg:Nat)(w0 w:World)(h:GSc w0 w s.es a.mp)(hn:n.size≤maxLen)(hx:EnAt w0 x ag):
  Calls Tryz.prog 45 #[scVal s a,.string n,enVal x ag cg] w fun e w'=>(∃mp',e = .returned (scVal (s.we n x) ⟨a.va,a.vc,a.sa,a.sc,mp'⟩)∧NSc w0 w (s.we n x).es mp' w')∧Below w.heap.size w w':=by
 have H4:=hideK (WEB.new w s a x ag cg);have hb4:=H4.out.bl;have hsz:(((w.alloc (.cells #[.slice a.va s.vs.length a.vc,.slice a.sa s.ss.length a.sc,.map a.mp] 70)).alloc (.cells #[.slice ag x.g.length cg,.int .i64 (x.k:Int)] 90)).alloc (.cells #[.slice none 0 0,.slice none 0 0,.map none] 70)).heap.size=w.heap.size+1+1+1:=by simp
 have hnew:SMv ((((w.alloc (.cells #[.slice a.va s.vs.length a.vc,.slice a.sa s.ss.length a.sc,.map a.mp] 70)).alloc (.cells #[.slice ag x.g.length cg,.int .i64 (x.k:Int)] 90)).alloc (.cells #[.slice none 0 0,.slice none 0 0,.map none] 70)).alloc (.map #[] 0)) (w.heap.size+1+1+1) []:=by
  have:=SMv.new (((w.alloc (.cells #[.slice a.va s.vs.length a.vc,.slice a.sa s.ss.length a.sc,.map a.mp] 70)).alloc (.cells #[.slice ag x.g.length cg,.int .i64 (x.k:Int)] 90)).alloc (.cells #[.slice none 0 0,.slice none 0 0,.map none] 70));rw [hsz]at this;exact this
 have hcopy:=copyS_any a.mp s.es (w.heap.size+1+1+1) w0 w _ h hb4 (by omega) hnew
 obtain ⟨F,hes,hF,cC⟩:=hcopy;have HX:=hideK hx;have HF:=hideK (And.intro hes hF);have hmm:=@run_makeMap Tryz.prog;simp only [scVal,enVal];clear h hx hes hF hb4;go_enter Tryz.func45,Tryz.ntmps45
 go_wp2_with fail
 refine cC.mono ?_;rintro e w5 ⟨rfl,hm5,hb5⟩;have H5:=hideK (H4.out.keep hb5);have hlt5:=H5.out.lt;obtain ⟨W6,hupd,hg6,hs6,hm6⟩:=sm_upd mapT hm5 hn (enVal x ag cg);have hb6:Below (w.heap.size+1+1+1) w5 W6:=(bR _ _).grown hg6 (by omega) (fun k q=>by have:=Option.some.inj q;omega)
 have H6:=hideK (H5.out.keep hb6);have HM6:=hideK hm6;obtain ⟨_,_,_,_,_,p0,p1,_,_,_,_⟩:=H5.out;obtain ⟨_,_,c0,c1,c2,_,_,z0,z1,z2,ff⟩:=H6.out;have f02:=ff w.heap.size 2 (by omega) (by omega)
 have f20:=ff (w.heap.size+1+1) 0 (by omega) (by omega)
 have f21:=ff (w.heap.size+1+1) 1 (by omega) (by omega)
 have f22:=ff (w.heap.size+1+1) 2 (by omega) (by omega)
 simp only [enVal]at hupd;clear cC hm5 hb5 H5 hg6 hs6 hm6 hb6 ff H4 hnew;go_wp2_with fail
 have zz:∀o,(W6.setCell ⟨w.heap.size,2,none⟩ (.map (some (w.heap.size+1+1+1)))).cell? ⟨w.heap.size+1+1,o,none⟩=W6.cell? ⟨w.heap.size+1+1,o,none⟩:=fun o=>World.cell?_setCell_other _ _ _ _ (fun e=>by injection e with e _;omega)
 obtain ⟨r0,r1,r2⟩:=st3_at (.slice a.va s.vs.length a.vc) (.slice a.sa s.ss.length a.sc) (.map (some (w.heap.size+1+1+1))) ((zz 0).trans z0) ((zz 1).trans z1) ((zz 2).trans z2);have HB:=hideK ((((H6.out.bl.setCell (p:=⟨w.heap.size,2,none⟩) (nR _) (.map (some (w.heap.size+1+1+1)))).setCell (p:=⟨w.heap.size+1+1,0,none⟩) (by show w.heap.size≤w.heap.size+1+1;omega) (.slice a.va s.vs.length a.vc)).setCell (p:=⟨w.heap.size+1+1,1,none⟩) (by show w.heap.size≤w.heap.size+1+1;omega) (.slice a.sa s.ss.length a.sc)).setCell (p:=⟨w.heap.size+1+1,2,none⟩) (by show w.heap.size≤w.heap.size+1+1;omega) (.map (some (w.heap.size+1+1+1))))
 have HM:=hideK (HM6.out.of_block (blk4 (W:=W6) (k:=w.heap.size+1+1+1) (p:=w.heap.size) (q:=w.heap.size+1+1) (.map (some (w.heap.size+1+1+1))) (.slice a.va s.vs.length a.vc) (.slice a.sa s.ss.length a.sc) (.map (some (w.heap.size+1+1+1))) 2 (by omega) (by omega)))
 clear hupd HM6 H6 z0 z1 z2 zz c0 c1 c2 p0 p1 f02 f20 f21 f22;generalize (((W6.setCell ⟨w.heap.size,2,none⟩ (.map (some (w.heap.size+1+1+1)))).setCell ⟨w.heap.size+1+1,0,none⟩ (.slice a.va s.vs.length a.vc)).setCell ⟨w.heap.size+1+1,1,none⟩ (.slice a.sa s.ss.length a.sc)).setCell ⟨w.heap.size+1+1,2,none⟩ (.map (some (w.heap.size+1+1+1)))=W9 at *;refine bodyPost_ret (v:=.agg #[.slice a.va s.vs.length a.vc,.slice a.sa s.ss.length a.sc,.map (some (w.heap.size+1+1+1))]) (by simp [results,Tryz.results45,go_sem,r0,r1,r2]) rfl ?_
 refine ⟨⟨some (w.heap.size+1+1+1),rfl,delF F n++[((n,x),ag,cg)],?_,?_,.inr ⟨w.heap.size+1+1+1,rfl,by omega,?_⟩⟩,HB.out⟩
 ·show putE s.es n x=_
  rw [HF.out.1];exact (FM_put F n x ag cg).2
 ·intro t ht
  rcases List.mem_append.1 ht with ht|ht
  ·exact HF.out.2 t (List.mem_filter.1 ht).1
  ·simp at ht;subst ht;exact HX.out
 ·rw [← (FM_put F n x ag cg).1];exact HM.out
end Go.Proofs.YtmamabhhgfcjcaaGreatDoor
namespace Go.Proofs
open Go.Shelf
def Tryz.laysMC_ren:Go.Shelf.Ren:=⟨fun|5=>126|7=>138|n=>n,fun|23=>68|25=>9|3=>90|4=>4|20=>20|n=>n,fun|n=>n⟩
theorem Tryz.laysMC:Go.Proofs.SlLaysW.n5 Tryz.prog Tryz.laysMC_ren:={
 mixed:=by kernel_rfl
 f5:=⟨Tryz.f126.name,by decide,Tryz.func126.trans (congrArg some (by kernel_rfl))⟩
 f7:=Tryz.func138.trans (congrArg some (by kernel_rfl))
 t4:=Tryz.underlying4
 a4:=Tryz.isAgg4
 z4:=Tryz.sizeOf4
 v4:=Tryz.zeroValue4
 t20:=Tryz.underlying20
 a20:=Tryz.isAgg20
 z20:=Tryz.sizeOf20
 v20:=Tryz.zeroValue20
 t23:=Tryz.underlying68
 a23:=Tryz.isAgg68
 z23:=Tryz.sizeOf68
 v23:=Tryz.zeroValue68 }
end Go.Proofs
namespace Go.Proofs.YtmamabhhgfcjcaaGreatDoor
open Go.RowKit
theorem cloneS_any(b:Nat)(vs:List (ByteArray × Value))(V:World)(h:SMv V b vs):Calls Tryz.prog 126 #[.map (some b)] V fun e w'=>e = .returned (.map (some V.heap.size))∧SMv w' V.heap.size vs∧Below V.heap.size V w'∧w'.heap.size=V.heap.size+1:=by
 obtain ⟨es,clock,hb,h2⟩:=h;refine (AnyW.maps_Clone Tryz.laysMC b es clock V hb).mono ?_;rintro e w' ⟨rfl,rfl⟩;exact ⟨rfl,⟨es,clock,heap_alloc_new V _,h2⟩,(bR _ _).alloc (nR _) _,by simp⟩
theorem cloneN_any(V:World):Calls Tryz.prog 126 #[.map none] V fun e w'=>e = .returned (.map none)∧w'=V:=AnyW.maps_Clone_nil Tryz.laysMC V
theorem del_nilM{W:World}{n:ByteArray}(h:n.size≤maxLen)(ty:TypeId):(Builtin.delete_ #[68,9] ty #[.map none,.string n]).run Tryz.prog W = .ok (.tuple #[]) W:=by
 simp [Builtin.delete_,run_underlying mapT,SK.check W _ (key_st h),Result.andThen]
structure WOB(w:World)(s:Sc)(a:ScA)(mp:Option Nat)(W:World):Prop where
 bl:Below w.heap.size w W
 lt:w.heap.size+1<W.heap.size
 c0:W.cell? ⟨w.heap.size,0,none⟩=some (.slice a.va s.vs.length a.vc)
 c1:W.cell? ⟨w.heap.size,1,none⟩=some (.slice a.sa s.ss.length a.sc)
 c2:W.cell? ⟨w.heap.size,2,none⟩=some (.map mp)
 z0:W.cell? ⟨w.heap.size+1,0,none⟩=some (.slice none 0 0)
 z1:W.cell? ⟨w.heap.size+1,1,none⟩=some (.slice none 0 0)
 z2:W.cell? ⟨w.heap.size+1,2,none⟩=some (.map none)
 f:∀b o,w.heap.size≤b→b<w.heap.size+1+1→W.frozen? ⟨b,o,none⟩=false
theorem WOB.keep{w:World}{s:Sc}{a:ScA}{mp:Option Nat}{W W':World}(h:WOB w s a mp W)(hb:Below (w.heap.size+1+1) W W'):WOB w s a mp W':=by
 have hs:=hb.size;have hl:=h.lt;have c:∀b o,b<w.heap.size+1+1→W'.cell? ⟨b,o,none⟩=W.cell? ⟨b,o,none⟩:=fun b o q=>hb.cell (p:=⟨b,o,none⟩) q
 exact ⟨h.bl.trans (hb.mono (by omega)),by omega,(c _ _ (by omega)).trans h.c0,(c _ _ (by omega)).trans h.c1,(c _ _ (by omega)).trans h.c2,(c _ _ (by omega)).trans h.z0,(c _ _ (by omega)).trans h.z1,(c _ _ (by omega)).trans h.z2,fun b o q1 q2=>(hb.frozen (p:=⟨b,o,none⟩) q2).trans (h.f b o q1 q2)⟩
theorem WOB.new(w:World)(s:Sc)(a:ScA):WOB w s a a.mp ((w.alloc (.cells #[.slice a.va s.vs.length a.vc,.slice a.sa s.ss.length a.sc,.map a.mp] 70)).alloc (.cells #[.slice none 0 0,.slice none 0 0,.map none] 70)) :=
 ⟨((bR _ _).alloc (nR _) _).alloc (by simp) _,by simp,by go_cell,by go_cell,by go_cell,by go_cell,by go_cell,by go_cell,fun b o q1 q2=>by
  rcases (by omega:b=w.heap.size∨b=w.heap.size+1) with rfl|rfl <;> go_simp⟩
theorem WOB.set{w:World}{s:Sc}{a:ScA}{mp:Option Nat}{W:World}(h:WOB w s a mp W)(mq:Option Nat):WOB w s a mq (W.setCell ⟨w.heap.size,2,none⟩ (.map mq)):=by
 have o1:∀b o,(b≠w.heap.size∨o≠2)→(W.setCell ⟨w.heap.size,2,none⟩ (.map mq)).cell? ⟨b,o,none⟩=W.cell? ⟨b,o,none⟩:=fun b o q=>World.cell?_setCell_other _ _ _ _ (fun e=>by injection e with e1 e2;omega)
 exact ⟨h.bl.setCell (p:=⟨w.heap.size,2,none⟩) (nR _) _,by rw [World.size_setCell];exact h.lt,(o1 _ _ (by omega)).trans h.c0,(o1 _ _ (by omega)).trans h.c1,World.cell?_setCell_same _ _ _ h.c2,(o1 _ _ (by omega)).trans h.z0,(o1 _ _ (by omega)).trans h.z1,(o1 _ _ (by omega)).trans h.z2,fun b o q1 q2=>by rw [World.frozen?_setCell];exact h.f b o q1 q2⟩
theorem WOB.fin{w:World}{s:Sc}{a:ScA}{mp:Option Nat}{W:World}(h:WOB w s a mp W)(v0 v1 v2:Value):∃W9,((W.setCell ⟨w.heap.size+1,0,none⟩ v0).setCell ⟨w.heap.size+1,1,none⟩ v1).setCell ⟨w.heap.size+1,2,none⟩ v2=W9∧W9.cell? ⟨w.heap.size+1,0,none⟩=some v0∧W9.cell? ⟨w.heap.size+1,1,none⟩=some v1∧W9.cell? ⟨w.heap.size+1,2,none⟩=some v2∧Below w.heap.size w W9∧∀k,k≠w.heap.size+1→W9.heap[k]? = W.heap[k]?:=by
 obtain ⟨r0,r1,r2⟩:=st3_at v0 v1 v2 h.z0 h.z1 h.z2;exact ⟨_,rfl,r0,r1,r2,((h.bl.setCell (p:=⟨w.heap.size+1,0,none⟩) (Nat.le_succ _) v0).setCell (p:=⟨w.heap.size+1,1,none⟩) (Nat.le_succ _) v1).setCell (p:=⟨w.heap.size+1,2,none⟩) (Nat.le_succ _) v2,fun k hk=>by rw [Go.Deep.blk_setCell_other _ _ _ _ hk,Go.Deep.blk_setCell_other _ _ _ _ hk,Go.Deep.blk_setCell_other _ _ _ _ hk]⟩
theorem withoutEnd_g(s:Sc)(a:ScA)(n:ByteArray)(w0 w:World)(h:GSc w0 w s.es a.mp)(hn:n.size≤maxLen):
  Calls Tryz.prog 96 #[scVal s a,.string n] w fun e w'=>(∃mp',e = .returned (scVal (s.wo n) ⟨a.va,a.vc,a.sa,a.sc,mp'⟩)∧NSc w0 w (s.wo n).es mp' w')∧Below w.heap.size w w':=by
 have hes:=h;obtain ⟨va,vc,sa,sc,mp⟩:=a;have H2:=hideK (WOB.new w s ⟨va,vc,sa,sc,mp⟩);have hb2:=H2.out.bl;simp only [scVal]at H2 hb2 hes ⊢;clear h;have hsz:((w.alloc (.cells #[.slice va s.vs.length vc,.slice sa s.ss.length sc,.map mp] 70)).alloc (.cells #[.slice none 0 0,.slice none 0 0,.map none] 70)).heap.size=w.heap.size+1+1:=by simp
 obtain ⟨F,he,h3,hes⟩:=hes;rcases hes with ⟨rfl,rfl⟩|⟨b,rfl,h1⟩
 ·have cC:=cloneN_any (((w.alloc (.cells #[.slice va s.vs.length vc,.slice sa s.ss.length sc,.map none] 70)).alloc (.cells #[.slice none 0 0,.slice none 0 0,.map none] 70)))
  have HE:=hideK he;clear he hb2 hsz h3;go_enter Tryz.func96,Tryz.ntmps96
  go_upto_region 1 with fail
  generalize ((w.alloc (.cells #[.slice va s.vs.length vc,.slice sa s.ss.length sc,.map none] 70)).alloc (.cells #[.slice none 0 0,.slice none 0 0,.map none] 70))=V at *;obtain ⟨_,_,c0,c1,c2,z0,z1,z2,ff⟩:=H2.out;have f02:=ff w.heap.size 2 (by omega) (by omega)
  go_wp2_with fail
  refine cC.mono ?_;rintro e w3 ⟨rfl,rfl⟩;have H4:=hideK (H2.out.set none);have hdel:=del_nilM (W:=w3.setCell ⟨w.heap.size,2,none⟩ (.map none)) hn 0;clear cC z0 z1 z2 ff c0 c1;go_upto_region 2 with fail
  clear c2;generalize w3.setCell ⟨w.heap.size,2,none⟩ (.map none)=V4 at *;obtain ⟨_,_,c0,c1,c2,z0,z1,z2,ff⟩:=H4.out;have f10:=ff (w.heap.size+1) 0 (by omega) (by omega)
  have f11:=ff (w.heap.size+1) 1 (by omega) (by omega)
  have f12:=ff (w.heap.size+1) 2 (by omega) (by omega)
  obtain ⟨W9,e9,r0,r1,r2,hb9,_⟩:=H4.out.fin (.slice va s.vs.length vc) (.slice sa s.ss.length sc) (.map none);have HB:=hideK hb9;have HE9:=hideK e9;clear H2 f02 ff e9 hb9 H4;go_wp2_with fail
  rw [HE9.out];refine bodyPost_ret (v:=.agg #[.slice va s.vs.length vc,.slice sa s.ss.length sc,.map none]) (by simp [results,Tryz.results96,go_sem,r0,r1,r2]) rfl ?_
  exact ⟨⟨none,rfl,[],by show delE s.es n=[];rw [HE.out];rfl,(fun t ht=>by cases ht),.inl ⟨rfl,rfl⟩⟩,HB.out⟩
 ·have hlt:=h1.lt
  have cC:=cloneS_any b (FM F) (((w.alloc (.cells #[.slice va s.vs.length vc,.slice sa s.ss.length sc,.map (some b)] 70)).alloc (.cells #[.slice none 0 0,.slice none 0 0,.map none] 70))) (h1.keep hb2 hlt);rw [hsz]at cC;have HE:=hideK he;have H3:=hideK h3;clear he hb2 h1 h3 hlt;go_enter Tryz.func96,Tryz.ntmps96
  go_upto_region 1 with fail
  generalize ((w.alloc (.cells #[.slice va s.vs.length vc,.slice sa s.ss.length sc,.map (some b)] 70)).alloc (.cells #[.slice none 0 0,.slice none 0 0,.map none] 70))=V at *;obtain ⟨_,_,c0,c1,c2,z0,z1,z2,ff⟩:=H2.out;have hlV:=H2.out.lt;go_wp2_with fail
  refine cC.mono ?_;rintro e w3 ⟨rfl,hm3,hb3,hs3⟩;have HW3:=hideK (H2.out.keep hb3);have f02:=HW3.out.f w.heap.size 2 (by omega) (by omega)
  have y2:=HW3.out.c2;have H4:=hideK (HW3.out.set (some (w.heap.size+1+1)));have hm4:SMv (w3.setCell ⟨w.heap.size,2,none⟩ (.map (some (w.heap.size+1+1)))) (w.heap.size+1+1) (FM F):=hm3.of_block (Go.Deep.blk_setCell_other _ _ _ _ (by show w.heap.size+1+1≠w.heap.size;omega))
  clear cC z0 z1 z2 ff c0 c1 c2 HW3 hm3 H2;go_upto_region 2 with fail
  generalize w3.setCell ⟨w.heap.size,2,none⟩ (.map (some (w.heap.size+1+1)))=V4 at *;obtain ⟨W5,hdel,hg5,hs5,hm5⟩:=sm_del mapT hm4 hn 0;have hb5:Below (w.heap.size+1+1) V4 W5:=(bR _ _).grown hg5 (by have:=hm4.lt;omega) (fun k q=>by have:=Option.some.inj q;omega)
  have H5:=hideK (H4.out.keep hb5);obtain ⟨_,_,c0,c1,c2,z0,z1,z2,ff⟩:=H5.out;have x2:=H4.out.c2;have f10:=ff (w.heap.size+1) 0 (by omega) (by omega)
  have f11:=ff (w.heap.size+1) 1 (by omega) (by omega)
  have f12:=ff (w.heap.size+1) 2 (by omega) (by omega)
  obtain ⟨W9,e9,r0,r1,r2,hb9,hk9⟩:=H5.out.fin (.slice va s.vs.length vc) (.slice sa s.ss.length sc) (.map (some (w.heap.size+1+1)));have HB:=hideK hb9;have HE9:=hideK e9;have HM9:=hideK (hm5.of_block (hk9 (w.heap.size+1+1) (by omega)))
  clear f02 ff e9 hb9 H4 H5 hk9 hm5 hm4 hg5 hs5 hb5 y2;go_wp2_with fail
  rw [HE9.out];refine bodyPost_ret (v:=.agg #[.slice va s.vs.length vc,.slice sa s.ss.length sc,.map (some (w.heap.size+1+1))]) (by simp [results,Tryz.results96,go_sem,r0,r1,r2]) rfl ?_
  refine ⟨⟨some (w.heap.size+1+1),rfl,delF F n,?_,fun t ht=>H3.out t (List.mem_filter.1 ht).1,.inr ⟨w.heap.size+1+1,rfl,by omega,?_⟩⟩,HB.out⟩
  ·show delE s.es n=_
   rw [HE.out];exact (FM_del F n).2
  ·rw [← (FM_del F n).1];exact HM9.out
end Go.Proofs.YtmamabhhgfcjcaaGreatDoor
