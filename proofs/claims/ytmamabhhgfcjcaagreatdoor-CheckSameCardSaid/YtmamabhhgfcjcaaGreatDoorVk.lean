/-
  The contracts of graph.lay, laid, Of and Same, for every type.
-/
import Derived.Test.YtmamabhhgfcjcaaGreatDoorHt
import Derived.Laws.BytesString
set_option maxRecDepth 100000
set_option maxHeartbeats 4000000
namespace Go.Proofs.YtmamabhhgfcjcaaGreatDoor
open Go.RowKit Go.Shelf
theorem lay_all(d:Nat):LYSaid d:=by
 induction d using Nat.strongRecOn with
 | _ d ih =>
  intro t al cl ak ck ar aa ca pg u toks B w hbd hla hkt hw hm hp hB hs1 hs2;obtain ⟨hpt,hwk⟩:=(wfT_eq t).1 hw;have hpos:=sizeT_eq t;by_cases h9:t.kind=9
  ·exact lay_var t al cl ak ck ar aa ca pg u toks B w hm hp (by omega) h9
  by_cases h8:t.kind=8
  ·obtain ⟨q,hq⟩:=part_rec hpt h8
   cases d with
   | zero=>have e:t.kids=[]:=hkt;rw [e]at hq;cases hq
   | succ d =>
    rcases hkt with e|⟨b,o,rfl,hb,hc⟩
    ·rw [e]at hq;cases hq
    ·obtain ⟨a1,c1,a2,c2,h1,h2,h3,h4⟩:=hc 0 (by rw [hq];exact Nat.one_pos)
     have e0:t.kids[0]'(by rw [hq];exact Nat.one_pos)=q:=by simp [hq]
     rw [e0]at h1 h2 h3 h4;exact lay_rec d (ih d (by omega)) t q al a1 cl c1 a2 ck c2 b (o+0*5) ar aa ca pg u toks B w h1 hb h2 h3 h4 (hwk q (by rw [hq];exact .head _)) hm hp hB hs1 hs2 h8 hq
  ·have h6:t.kids.length≤6:=by
    have:=(shp_len (part_shp hpt h9 h8 (t.kids.map fun _=>0) (by simp))).2.1
    simpa using this
   exact lay_node d ih t al cl ak ck ar aa ca pg u toks B w hla hkt hw hm hp hB hs1 hs2 h9 h8 h6
theorem laid_any(d:Nat)(t:Ty)(al:OAd)(cl:Nat)(ak:OAd)(ck:Nat)(w:World)(hbd:TyBd t cl ck)(hla:LA w w.heap.size t.labels al)(hkt:KT w w.heap.size d t.kids ak)(hw:wfT t)(hs:sizeT t≤60):
  Calls Tryz.prog 29 #[tyVal t al cl ak ck] w fun e w'=>(∃ag cg,e = .returned (.slice ag (layP t [] 0).2.length cg)∧GAt w' w'.heap.size (layP t [] 0).2 ag)∧Below w.heap.size w w':=by
 have hA:Below w.heap.size w (w.alloc (.cells #[.int .i64 t.kind,.int .i64 t.so,.string t.name,.slice al t.labels.length cl,.slice ak t.kids.length ck] 37)):=(bR _ _).alloc (nR _) _;have hA2:Below w.heap.size w ((w.alloc (.cells #[.int .i64 t.kind,.int .i64 t.so,.string t.name,.slice al t.labels.length cl,.slice ak t.kids.length ck] 37)).alloc (.cells #[.slice none 0 0] 44)):=hA.alloc hA.size _;have hp:PG ((w.alloc (.cells #[.int .i64 t.kind,.int .i64 t.so,.string t.name,.slice al t.labels.length cl,.slice ak t.kids.length ck] 37)).alloc (.cells #[.slice none 0 0] 44)) (w.heap.size+1) (.slice none 0 0) []:=⟨by go_cell,by go_simp,World.ownsRow_nil _ _ _ _,by simp⟩
 have c:=lay_all d t al cl ak ck [] none 0 (w.heap.size+1) (.slice none 0 0) [] w.heap.size ((w.alloc (.cells #[.int .i64 t.kind,.int .i64 t.so,.string t.name,.slice al t.labels.length cl,.slice ak t.kids.length ck] 37)).alloc (.cells #[.slice none 0 0] 44)) hbd (hla.keep hA2) (hkt.keep hA2) hw (.inl ⟨rfl,rfl,rfl⟩) hp (by omega) (by simp;omega) (by simp;omega)
 have HA2:=hideK hA2;unfold LYPost at c;simp only [tyVal,List.length_nil]at c ⊢;clear hbd hla hkt hw hA hA2 hp;go_enter Tryz.func29,Tryz.ntmps29
 go_wp2_with fail
 refine c.mono ?_;rintro e w1 ⟨rfl,new,u,hn,hp1,ht1,hr1,_⟩;have hb1:Below w.heap.size w w1:=hr1.below HA2.out HA2.out.size (by omega) (by omega) (fun k hk=>by simp [Value.ownBlock]at hk)
 have hg:=gat_of (P:=fun b=>b<w1.heap.size) hp1.own (fun x hx=>⟨by
   have h1:=(ht1 x hx).1;exact h1.imp id fun ⟨b,o,e,hl,hc⟩=>⟨b,o,e,by have:=hb1.size;omega,hc⟩,by
   have h1:=(ht1 x hx).2;exact h1.imp id fun ⟨b,o,e,hl,hc⟩=>⟨b,o,e,hl.2.1,hc⟩⟩) (fun b hb=>hb)
 rw [List.nil_append,hn]at hg;obtain ⟨ag,cg,hu,hga⟩:=hg;have hl:new.length=(layP t [] 0).2.length:=by rw [← hn,List.length_map]
 rw [hl]at hu;have hc1:=hp1.c;subst hu;have HG:=hideK hga;have HB:=hideK hb1;clear hp1 ht1 hr1 hga hb1 hn c;go_wp2_with fail
 go_ret
 exact ⟨⟨_,_,rfl,HG.out⟩,HB.out⟩
def e0:ByteArray→Dn:=fun _ _=>tr0
theorem okN_to{n:Nd}(h:okN n)(f:Nat→Nat):okN ⟨n.kind,n.so,n.labs,n.to.map f⟩:=by
 unfold okN at h ⊢;rw [List.map_map];exact h
theorem least_gn{g:List Nd}{c:List Nat}(hg:GN g)(hc:CLS g c):GN (leastG g c)∧(∀k,gT (leastG g c) k 0=gT g k 0)∧(leastG g c).length≤g.length:=by
 obtain ⟨h1,h2,h3,h4⟩:=least_alike hg.shut hc hg.pos;refine ⟨⟨h3,Nat.le_trans h4 hg.le,fun n hn=>?_,h2⟩,h1,h4⟩
 obtain ⟨M,hI,_⟩:=lst_inv hg.shut hc g.length 0 [0] (RInv.start hg.pos) (Nat.zero_le _) (by omega)
 unfold leastG at hn;obtain ⟨i,hi,rfl⟩:=List.mem_map.1 hn;exact okN_to (hg.at_ (hI.lt i hi)) _
theorem lay_gn{t:Ty}(h:chkTy t=0):GN (layP t [] 0).2:=by
 obtain ⟨hg,_,_⟩:=chkTy_gd t h;obtain ⟨hw,hs⟩:=chkTy_good t h;have h1:=(lay_gr h).1;exact ⟨h1.pos,by have:=lay_size t hw [] 0;omega,lay_parts okN (fun t hp h9 h8 tos hl=>part_okN hp h9 h8 tos hl) t hg [] 0,h1.shut⟩
structure OFG(t:Ty)(g:List Nd):Prop where
 chk:chkTy t=0
 src:∃c,CLS (layP t [] 0).2 c∧g=leastG (layP t [] 0).2 c
theorem OFG.gn{t:Ty}{g:List Nd}(h:OFG t g):GN g:=by
 obtain ⟨c,hc,rfl⟩:=h.src;exact (least_gn (lay_gn h.chk) hc).1
theorem OFG.le{t:Ty}{g:List Nd}(h:OFG t g):g.length≤60:=by
 obtain ⟨c,hc,rfl⟩:=h.src;have h1:=(least_gn (lay_gn h.chk) hc).2.2;obtain ⟨hw,hs⟩:=chkTy_good t h.chk;have:=lay_size t hw [] 0;omega
theorem OFG.does{t:Ty}{g:List Nd}(h:OFG t g):∀k,gT g k 0=den t e0 k:=by
 obtain ⟨c,hc,rfl⟩:=h.src;intro k;rw [(least_gn (lay_gn h.chk) hc).2.1 k];have:=(lay_gr h.chk).2;unfold e0;rw [this]
theorem OFG.same{s t:Ty}{g h:List Nd}(hs:OFG s g)(ht:OFG t h):g=h↔den s e0=den t e0:=by
 have d1:=hs.does;have d2:=ht.does;obtain ⟨c,hc,rfl⟩:=hs.src;obtain ⟨c',hc',rfl⟩:=ht.src;have gs:=lay_gn hs.chk;have gt:=lay_gn ht.chk;constructor
 ·intro e
  funext k
  rw [← d1 k,← d2 k,e]
 ·intro e
  refine least_canon ⟨gs.shut,gt.shut,hc,hc'⟩ gs.pos gt.pos fun k=>?_
  rw [← (least_gn gs hc).2.1 k,← (least_gn gt hc').2.1 k,d1 k,d2 k,e]
def OFPost(t:Ty)(w:World)(e:Ending)(w':World):Prop :=
 ((chkTy t≠0∧e = .returned (.tuple #[.slice none 0 0,.int .i64 (chkTy t)]))∨(∃g ag cg,OFG t g∧e = .returned (.tuple #[.slice ag g.length cg,.int .i64 0])∧GAt w' w'.heap.size g ag))∧Below w.heap.size w w'
theorem of_any(d:Nat)(t:Ty)(al:OAd)(cl:Nat)(ak:OAd)(ck:Nat)(w:World)(hbd:TyBd t cl ck)(hla:LA w w.heap.size t.labels al)(hkt:KT w w.heap.size d t.kids ak):
  Calls Tryz.prog 9 #[tyVal t al cl ak ck] w (OFPost t w):=by
 have hA:Below w.heap.size w (w.alloc (.cells #[.int .i64 t.kind,.int .i64 t.so,.string t.name,.slice al t.labels.length cl,.slice ak t.kids.length ck] 37)):=(bR _ _).alloc (nR _) _;have cC:=typesCheck_any d t al cl ak ck _ hbd (NAt.mono hA.size (NAt.keep hA hla)) (KT.mono hA.size (KT.keep hA hkt));have HA:=hideK hA;unfold OFPost;by_cases hz:chkTy t=0
 ·rw [hz]at cC
  obtain ⟨hw,hsz⟩:=chkTy_good t hz;have CW:=hideK (fun (W:World) (hb:Below w.heap.size w W)=>laid_any d t al cl ak ck W hbd ((hla.keep hb).mono hb.size) ((hkt.keep hb).mono hb.size) hw hsz)
  have CL:=hideK (fun (W:World) ag cg (hga:GAt W W.heap.size (layP t [] 0).2 ag)=>least_loop (layP t [] 0).2 ag cg W.heap.size W (lay_gn hz).gr hga (nR _))
  simp only [tyVal]at cC CW ⊢;have HZ:=hideK hz;clear hbd hla hkt hz hw hsz hA;go_enter Tryz.func9,Tryz.ntmps9
  go_wp2_with fail
  refine cC.mono ?_;rintro e w1 ⟨rfl,hb1⟩;obtain ⟨x0,x1,x2,x3,x4,hbw⟩:=keep5 hb1;have cW:=CW.out w1 hbw;have HB:=hideK hbw;clear cC CW hbw;go_wp2_with fail
  refine cW.mono ?_;rintro e w2 ⟨⟨ag,cg,rfl,hga⟩,hb2⟩;have cL:=CL.out w2 ag cg hga;have HB2:=hideK (HB.out.trans (hb2.mono HB.out.size));clear cW CL hga hb2;generalize hG:(layP t [] 0).2=G at *;go_wp2_with fail
  refine cL.mono ?_;rintro e w3 ⟨⟨c,hc,ao,co,rfl,hg3⟩,hb3⟩;have HB3:=hideK (HB2.out.trans (hb3.mono HB2.out.size));have HC:=hideK hc;have HG3:=hideK hg3;clear cL hc hg3 hb3;generalize hgl:leastG G c=g at *;go_wp2_with fail
  go_ret2
  exact ⟨.inr ⟨g,_,_,⟨HZ.out,c,by rw [hG];exact HC.out,by rw [hG];exact hgl.symm⟩,rfl,HG3.out⟩,HB3.out⟩
 ·have hzb:(chkTy t != 0)=true:=by simpa using hz
  simp only [tyVal]at cC ⊢;have HZ:=hideK hz;clear hbd hla hkt hz hA;generalize hgz:chkTy t=z at cC hzb ⊢;go_enter Tryz.func9,Tryz.ntmps9
  go_wp2_with fail
  refine cC.mono ?_;rintro e w1 ⟨rfl,hb1⟩;obtain ⟨x0,x1,x2,x3,x4,hbw⟩:=keep5 hb1;clear cC;go_wp2_with fail
  go_ret2
  exact ⟨.inl ⟨by rw [← hgz];exact HZ.out,rfl⟩,hbw⟩
def putT(x:ByteArray)(s:Ty):Ty→Ty
 | ⟨kd,so,nm,ls,ks⟩=>if kd=9∧nm=x then s else if kd=8∧nm=x then ⟨kd,so,nm,ls,ks⟩ else ⟨kd,so,nm,ls,ks.map (putT x s)⟩
def frT(x:ByteArray):Ty→Bool
 | ⟨kd,_,nm,_,ks⟩=>if kd=9 then decide (nm=x) else if kd=8∧nm=x then false else (ks.map fun q=>frT x q).any id
theorem frT_var(x:ByteArray)(t:Ty)(h:t.kind=9):frT x t=decide (t.name=x):=by cases t;rw [frT,if_pos h]
theorem frT_rec(x:ByteArray)(t:Ty)(h:t.kind=8∧t.name=x):frT x t=false:=by
 cases t
 rw [frT,if_neg (by have h8:=h.1;simp only at h8;omega),if_pos h]
theorem frT_else(x:ByteArray)(t:Ty)(h9:t.kind≠9)(h8:¬(t.kind=8∧t.name=x)):frT x t=t.kids.any (frT x):=by
 cases t
 rw [frT,if_neg h9,if_neg h8,List.any_map];rfl
theorem any_false{α : Type}{l:List α}{p : α → Bool}(h:l.any p=false):∀a∈l,p a=false:=by
 intro a ha;cases hp:p a with
 | false=>rfl
 | true=>rw [List.any_eq_true.2 ⟨a,ha,hp⟩]at h;cases h
theorem fr_den(x:ByteArray):∀t:Ty,wfT t→frT x t=false→∀r d,den t (upD r x d)=den t r:=by
 apply tyInd
 intro t ih hw hf r d;obtain ⟨hp,hk⟩:=(wfT_eq t).1 hw;by_cases h9:t.kind=9
 ·rw [frT_var x t h9]at hf
  rw [den_var t _ h9,den_var t _ h9];unfold upD;rw [if_neg (by simpa using hf)]
 by_cases h8:t.kind=8
 ·obtain ⟨q,hq⟩:=part_rec hp h8
  have hm:q∈t.kids:=by rw [hq];exact .head _
  rw [den_rec t _ h8 q hq,den_rec t _ h8 q hq];have e:(fun f=>den q (upD (upD r x d) t.name f))=fun f=>den q (upD r t.name f):=funext fun f=>by
   by_cases hn:t.name=x
   ·congr 1
    funext y
    unfold upD;by_cases hy:y=t.name
    ·rw [if_pos hy,if_pos hy]
    ·rw [if_neg hy,if_neg hy,if_neg (by rw [← hn];exact hy)]
   ·rw [frT_else x t h9 (fun h=>hn h.2)]at hf
    have hfq:=any_false hf q hm;have e2:upD (upD r x d) t.name f=upD (upD r t.name f) x d:=by
     funext y
     unfold upD;by_cases hy:y=t.name
     ·rw [if_pos hy,if_pos hy,if_neg (by rw [hy];exact hn)]
     ·rw [if_neg hy,if_neg hy]
    rw [e2];exact ih q hm (hk q hm) hfq _ d
  rw [e]
 ·rw [frT_else x t h9 (fun h=>h8 h.1)]at hf
  rw [den_node t _ h9 h8,den_node t _ h9 h8];congr 1
  exact List.map_congr_left fun q hq=>ih q hq (hk q hq) (any_false hf q hq) r d
theorem part_kids{t:Ty}(ks:List Ty)(hl:ks.length=t.kids.length)(h:partT t=true):partT ⟨t.kind,t.so,t.name,t.labels,ks⟩=true:=by
 rw [← h];unfold partT;simp only [hl]
theorem chkTL_or(ar:List ByteArray)(ks:List Ty):∀(a:Int × Nat),a.1=0→(∀k∈ks,∀c,(chkT k ar c).1=0∨((chkT k ar c).1=2∧60<c+sizeT k))→(chkTL ar ks a).1=0∨((chkTL ar ks a).1=2∧60<a.2+(ks.map sizeT).sum):=by
 induction ks with
 | nil=>intro a h _;exact .inl h
 | cons k ks ih =>
  intro a h hk;rw [chkTL_cons,if_neg (by simpa using h)]
  simp only [List.map_cons,List.sum_cons];rcases hk k (.head _) a.2 with h1|⟨h1,h2⟩
  ·have h3:=(chkT_all k ar a.2 h1).2
   rcases ih _ h1 (fun q hq=>hk q (.tail _ hq)) with h4|⟨h4,h5⟩
   ·exact .inl h4
   ·exact .inr ⟨h4,by rw [h3]at h5;omega⟩
  ·rw [chkTL_bad _ _ _ (by rw [h1];decide)]
   exact .inr ⟨h1,by omega⟩
theorem chkT_or:∀t:Ty,∀ar c,gdT t→clT t ar→sizeT t≤65536→(chkT t ar c).1=0∨((chkT t ar c).1=2∧60<c+sizeT t):=by
 apply tyInd
 intro t ih ar c hg hc hs;obtain ⟨hp,hi,hk⟩:=(gdT_eq t).1 hg;obtain ⟨c1,c2⟩:=(clT_eq t ar).1 hc;have h1:=sizeT_eq t;rw [chkT_eq];by_cases h60:60<c+1
 ·rw [if_pos h60];exact .inr ⟨rfl,by omega⟩
 rw [if_neg h60,if_neg (by rw [hp];decide),if_neg (by rintro ⟨h9,hh⟩;rw [(hasN_iff _ _).2 (c1 h9)]at hh;cases hh),if_neg (by rintro ⟨h8,hh⟩;rw [idle_idT t (gdT_wf t hg) 65536 hs,hi h8]at hh;cases hh)]
 rcases chkTL_or (if t.kind=8 then ar++[t.name] else ar) t.kids (0,c+1) rfl (fun k hm c'=>ih k hm _ c' (hk k hm) (c2 k hm) (by have:=sizeT_kid hm;omega)) with h|⟨h,h2⟩
 ·exact .inl h
 ·exact .inr ⟨h,by simp only at h2;omega⟩
theorem chkTy_or{t:Ty}(hg:gdT t)(hc:clT t [])(hs:sizeT t≤65536):chkTy t=0∨(chkTy t=2∧60<sizeT t):=by
 have:=chkT_or t [] 0 hg hc hs;rw [Nat.zero_add]at this;exact this
def varT(x:ByteArray):Ty:=⟨9,0,x,[],[]⟩
def recT(x:ByteArray)(b:Ty):Ty:=⟨8,0,x,[],[b]⟩
theorem var_gd{x:ByteArray}(h:isVr x.data.toList=true):gdT (varT x):=(gdT_eq _).2 ⟨by unfold partT varT;simp [h],fun h8=>absurd (show (9:Int)=8 from h8) (by decide),fun k hk=>(by cases hk)⟩
def nmN(i:Nat):ByteArray:=if i<26 then ⟨#[UInt8.ofNat (97+i)]⟩ else ⟨#[UInt8.ofNat (97+i / 26 - 1),UInt8.ofNat (97+i % 26)]⟩
def upB(f:Nat→Bool)(i:Nat)(b:Bool):Nat→Bool:=fun j=>if j=i then b else f j
theorem upB_same(f:Nat→Bool)(i:Nat)(b:Bool):upB f i b i=b:=if_pos rfl
theorem upB_other(f:Nat→Bool)(i:Nat)(b:Bool){j:Nat}(h:j≠i):upB f i b j=f j:=if_neg h
abbrev SB:=(Nat→Bool) × Nat
def stB(F:Nat→SB→Ty × SB)(a:List Ty × SB)(j:Nat):List Ty × SB:=(a.1++[(F j a.2).1],(F j a.2).2)
def bkL(F:Nat→SB→Ty × SB)(tos:List Nat)(a:List Ty × SB):List Ty × SB:=tos.foldl (stB F) a
def zT:Ty:=⟨0,0,⟨#[]⟩,[],[]⟩
def ndT(n:Nd)(ks:List Ty):Ty:=⟨n.kind,n.so,⟨#[]⟩,n.labs,ks⟩
def bkT(g:List Nd):Nat→(Nat→Bool)→Nat→SB→Ty × SB
 | 0,_,_,st=>(zT,st)
 | f+1,ps,i,st =>
  if 60<st.2+1 then (zT,(st.1,st.2+1))
  else if ps i=true then (varT (nmN i),(upB st.1 i true,st.2+1))
  else if (bkL (bkT g f (upB ps i true)) (nodeAt g i).to ([],(upB st.1 i false,st.2+1))).2.1 i=true then
   (recT (nmN i) (ndT (nodeAt g i) (bkL (bkT g f (upB ps i true)) (nodeAt g i).to ([],(upB st.1 i false,st.2+1))).1),((bkL (bkT g f (upB ps i true)) (nodeAt g i).to ([],(upB st.1 i false,st.2+1))).2.1,(bkL (bkT g f (upB ps i true)) (nodeAt g i).to ([],(upB st.1 i false,st.2+1))).2.2+1))
  else (ndT (nodeAt g i) (bkL (bkT g f (upB ps i true)) (nodeAt g i).to ([],(upB st.1 i false,st.2+1))).1,(bkL (bkT g f (upB ps i true)) (nodeAt g i).to ([],(upB st.1 i false,st.2+1))).2)
theorem bkL_cons(F:Nat→SB→Ty × SB)(j:Nat)(tos:List Nat)(a:List Ty × SB):bkL F (j::tos) a=bkL F tos (stB F a j):=rfl
theorem bkL_snoc(F:Nat→SB→Ty × SB)(j:Nat)(tos:List Nat)(a:List Ty × SB):bkL F (tos++[j]) a=stB F (bkL F tos a) j:=by
 unfold bkL;rw [List.foldl_append];rfl
theorem bkL_mono{F:Nat→SB→Ty × SB}(h:∀j st,st.2≤(F j st).2.2):∀(tos:List Nat) (a:List Ty × SB),a.2.2≤(bkL F tos a).2.2
 | [],_=>nR _
 | j::tos,a=>by
  rw [bkL_cons];exact Nat.le_trans (h j a.2) (bkL_mono h tos (stB F a j))
theorem bk_mono(g:List Nd):∀(f:Nat) (ps:Nat→Bool) (i:Nat) (st:SB),st.2≤(bkT g f ps i st).2.2
 | 0,_,_,_=>nR _
 | f+1,ps,i,st=>by
  have hL:=bkL_mono (bk_mono g f (upB ps i true)) (nodeAt g i).to ([],(upB st.1 i false,st.2+1));have hL':st.2+1≤(bkL (bkT g f (upB ps i true)) (nodeAt g i).to ([],(upB st.1 i false,st.2+1))).2.2:=hL;rw [bkT];split
  ·exact Nat.le_succ _
  ·split
   ·exact Nat.le_succ _
   ·split
    ·exact Nat.le_trans (Nat.le_succ _) (Nat.le_trans hL' (Nat.le_succ _))
    ·exact Nat.le_trans (Nat.le_succ _) hL'
structure BK(g:List Nd)(ps:Nat→Bool)(i:Nat)(st:SB)(T:Ty)(st':SB):Prop where
 sz:st.2+sizeT T=st'.2
 gd:gdT T
 id:ps i=false→idT T=false
 mt:∀j,ps j=true→st.1 j=true→st'.1 j=true
 fr:∀x,frT x T=true→∃j,ps j=true∧st'.1 j=true∧x=nmN j
 dn:∀r:ByteArray→Dn,(∀j,ps j=true→r (nmN j)=fun k=>gT g k j)→den T r=fun k=>gT g k i
structure BKs(g:List Nd)(ps:Nat→Bool)(tos:List Nat)(st:SB)(ks:List Ty)(st':SB):Prop where
 ln:ks.length=tos.length
 sz:st.2+(ks.map sizeT).sum=st'.2
 gd:∀q∈ks,gdT q
 mt:∀j,ps j=true→st.1 j=true→st'.1 j=true
 fr:∀q∈ks,∀x,frT x q=true→∃j,ps j=true∧st'.1 j=true∧x=nmN j
 dn:∀r:ByteArray→Dn,(∀j,ps j=true→r (nmN j)=fun k=>gT g k j)→ks.map (fun q=>den q r)=tos.map fun j k=>gT g k j
theorem bkL_ok{g:List Nd}{ps:Nat→Bool}{F:Nat→SB→Ty × SB}{f:Nat}(hm:∀j st,st.2≤(F j st).2.2)(hF:∀j st,61≤f+st.2→j<g.length→(F j st).2.2≤60→BK g ps j st (F j st).1 (F j st).2):
  ∀(tos:List Nat) (a:List Ty × SB),(∀j∈tos,j<g.length)→61≤f+a.2.2→(bkL F tos a).2.2≤60→∃ks,(bkL F tos a).1=a.1++ks∧BKs g ps tos a.2 ks (bkL F tos a).2
 | [],a,_,_,_=>⟨[],(List.append_nil _).symm,rfl,rfl,(fun q hq=>by cases hq),fun _ _ h=>h,(fun q hq=>by cases hq),fun _ _=>rfl⟩
 | j::tos,a,hj,hf,h60=>by
  rw [bkL_cons]at h60 ⊢;have h1:(F j a.2).2.2≤(bkL F tos (stB F a j)).2.2:=bkL_mono hm tos (stB F a j);have K:=hF j a.2 hf (hj j (.head _)) (by omega)
  have hf2:61≤f+(stB F a j).2.2:=by have:=hm j a.2;show 61≤f+(F j a.2).2.2;omega
  obtain ⟨ks,e,L⟩:=bkL_ok hm hF tos (stB F a j) (fun q hq=>hj q (.tail _ hq)) hf2 h60
  refine ⟨(F j a.2).1::ks,?_,?_⟩
  ·rw [e]
   show (a.1++[(F j a.2).1])++ks=_
   rw [List.append_assoc];rfl
  ·refine ⟨by simp [L.ln],?_,?_,fun q hq hs=>L.mt q hq (K.mt q hq hs),?_,fun r hr=>?_⟩
   ·have s1:=K.sz
    have s2:(F j a.2).2.2+(ks.map sizeT).sum=(bkL F tos (stB F a j)).2.2:=L.sz;rw [List.map_cons,List.sum_cons];omega
   ·intro q hq
    rcases List.mem_cons.1 hq with rfl|hq
    ·exact K.gd
    ·exact L.gd q hq
   ·intro q hq x hx
    rcases List.mem_cons.1 hq with rfl|hq
    ·obtain ⟨j',p1,p2,p3⟩:=K.fr x hx
     exact ⟨j',p1,L.mt j' p1 p2,p3⟩
    ·exact L.fr q hq x hx
   ·rw [List.map_cons,List.map_cons,K.dn r hr,L.dn r hr]
theorem rec_part{x:ByteArray}(h:isVr x.data.toList=true)(b:Ty):partT (recT x b)=true:=by unfold partT recT;simp [h]
theorem okN_kind{n:Nd}(h:okN n):n.kind≠9∧n.kind≠8:=by
 have:=okN_cases h;omega
theorem bk_ok{g:List Nd}(hg:GN g)(hinj:∀i j,i<g.length→j<g.length→nmN i=nmN j→i=j)(hvr:∀i,i<g.length→isVr (nmN i).data.toList=true):
  ∀(f:Nat) (ps:Nat→Bool) (i:Nat) (st:SB),61≤f+st.2→i<g.length→(∀j,ps j=true→j<g.length)→(bkT g f ps i st).2.2≤60→BK g ps i st (bkT g f ps i st).1 (bkT g f ps i st).2
 | 0,_,_,st,hf,_,_,h60=>by have:st.2≤60:=h60;omega
 | f+1,ps,i,st,hf,hi,hps,h60=>by
  rw [bkT]at h60 ⊢;by_cases h1:60<st.2+1
  ·rw [if_pos h1]at h60
   have:st.2+1≤60:=h60;omega
  rw [if_neg h1]at h60 ⊢;by_cases h2:ps i=true
  ·rw [if_pos h2]
   refine ⟨?_,var_gd (hvr i hi),(fun q=>by rw [h2]at q;cases q),fun j hj hs=>?_,fun x hx=>?_,fun r hr=>?_⟩
   ·rw [sizeT_eq];rfl
   ·show upB st.1 i true j=true
    by_cases e:j=i
    ·rw [e,upB_same]
    ·rw [upB_other _ _ _ e];exact hs
   ·rw [frT_var x _ rfl]at hx
    exact ⟨i,h2,upB_same _ _ _,(of_decide_eq_true hx).symm⟩
   ·rw [den_var _ _ rfl]
    exact hr i h2
  rw [if_neg h2]at h60 ⊢;have h2f:ps i=false:=by cases h:ps i <;> simp_all
  have hps':∀j,upB ps i true j=true→j<g.length:=fun j hj=>by
   by_cases e:j=i
   ·rw [e];exact hi
   ·rw [upB_other _ _ _ e]at hj;exact hps j hj
  have hm:=bk_mono g f (upB ps i true);have hto:∀j∈(nodeAt g i).to,j<g.length:=fun j hj=>by
   obtain ⟨x,hx,rfl⟩:=List.mem_iff_getElem.1 hj;have:=hg.to_ (i:=i) x hx;unfold toAt at this;rw [List.getElem?_eq_getElem hx]at this;exact this
  have hr60:(bkL (bkT g f (upB ps i true)) (nodeAt g i).to ([],(upB st.1 i false,st.2+1))).2.2≤60:=by
   split at h60
   ·have h60:_+1≤60:=h60
    omega
   ·exact h60
  obtain ⟨ks,ek,L⟩:=bkL_ok (g:=g) (ps:=upB ps i true) (f:=f) hm (fun j st' hf' hj h=>bk_ok hg hinj hvr f (upB ps i true) j st' hf' hj hps' h) (nodeAt g i).to ([],(upB st.1 i false,st.2+1)) hto (by show 61≤f+(st.2+1);omega) hr60
  rw [List.nil_append]at ek;rw [ek];generalize bkL (bkT g f (upB ps i true)) (nodeAt g i).to ([],(upB st.1 i false,st.2+1))=R at *;have hok:=hg.at_ hi;obtain ⟨k9,k8⟩:=okN_kind hok;have hpt:partT (ndT (nodeAt g i) ks)=true:=part_kids (t:=⟨(nodeAt g i).kind,(nodeAt g i).so,⟨#[]⟩,(nodeAt g i).labs,(nodeAt g i).to.map fun _=>endT⟩) ks (by rw [L.ln];simp) hok
  have hgd:gdT (ndT (nodeAt g i) ks):=(gdT_eq _).2 ⟨hpt,fun q=>absurd q k8,L.gd⟩
  have hid:idT (ndT (nodeAt g i) ks)=false:=idT_node _ k9 k8;have hsz:sizeT (ndT (nodeAt g i) ks)=1+(ks.map sizeT).sum:=sizeT_eq _;have hLs:st.2+1+(ks.map sizeT).sum=R.2.2:=L.sz;have hfr:∀x,frT x (ndT (nodeAt g i) ks)=true→∃j,upB ps i true j=true∧R.2.1 j=true∧x=nmN j:=fun x hx=>by
   rw [frT_else x _ k9 (fun h=>k8 h.1)]at hx
   obtain ⟨q,hq,hx⟩:=List.any_eq_true.1 hx;exact L.fr q hq x hx
  have hmt:∀j,ps j=true→st.1 j=true→R.2.1 j=true:=fun j hj hs=>by
   have e:j≠i:=fun e=>by rw [e,h2f]at hj;cases hj
   exact L.mt j (by rw [upB_other _ _ _ e];exact hj) (by show upB st.1 i false j=true;rw [upB_other _ _ _ e];exact hs)
  have hdn:∀r:ByteArray→Dn,(∀j,ps j=true→r (nmN j)=fun k=>gT g k j)→den (ndT (nodeAt g i) ks) (upD r (nmN i) fun k=>gT g k i)=fun k=>gT g k i:=fun r hr=>by
   have hr':∀j,upB ps i true j=true→upD r (nmN i) (fun k=>gT g k i) (nmN j)=fun k=>gT g k j:=fun j hj=>by
    unfold upD;by_cases e:j=i
    ·rw [e,if_pos rfl]
    ·rw [if_neg (fun q=>e (hinj j i (hps' j hj) hi q))]
     rw [upB_other _ _ _ e]at hj;exact hr j hj
   rw [den_node _ _ k9 k8];show stD (nodeAt g i).kind (nodeAt g i).so (nodeAt g i).labs (ks.map fun q=>den q (upD r (nmN i) fun k=>gT g k i))=_
   rw [L.dn _ hr'];funext k
   cases k with
   | zero=>rfl
   | succ k =>
    show (⟨_,_,_,((nodeAt g i).to.map fun j k=>gT g k j).map fun f=>f k⟩:Tr)=_
    rw [List.map_map];rfl
  by_cases h3:R.2.1 i=true
  ·rw [if_pos h3]
   have hrid:idT (recT (nmN i) (ndT (nodeAt g i) ks))=false:=by rw [idT_rec _ rfl _ rfl];exact hid
   have hrg:gdT (recT (nmN i) (ndT (nodeAt g i) ks)):=(gdT_eq _).2 ⟨rec_part (hvr i hi) _,fun _=>hrid,fun q hq=>by rw [List.mem_singleton.1 hq];exact hgd⟩
   refine ⟨?_,hrg,fun _=>hrid,hmt,fun x hx=>?_,fun r hr=>?_⟩
   ·rw [sizeT_eq]
    show st.2+(1+(sizeT (ndT (nodeAt g i) ks)+0))=R.2.2+1
    omega
   ·by_cases e:nmN i=x
    ·rw [frT_rec x _ ⟨rfl,e⟩]at hx;cases hx
    ·rw [frT_else x _ (show (8:Int)≠9 by decide) (fun h=>e h.2)]at hx
     obtain ⟨q,hq,hx⟩:=List.any_eq_true.1 hx;rw [List.mem_singleton.1 hq]at hx;obtain ⟨j,p1,p2,p3⟩:=hfr x hx;have hji:j≠i:=fun q=>e (by rw [p3,q])
     rw [upB_other _ _ _ hji]at p1;exact ⟨j,p1,p2,p3⟩
   ·exact (den_one hrg rfl rfl r (hdn r hr).symm).symm
  ·rw [if_neg h3]
   have hno:∀j,upB ps i true j=true→R.2.1 j=true→j≠i:=fun j _ p2 q=>h3 (q ▸ p2)
   refine ⟨by rw [hsz];show st.2+(1+_)=R.2.2;omega,hgd,fun _=>hid,hmt,fun x hx=>?_,fun r hr=>?_⟩
   ·obtain ⟨j,p1,p2,p3⟩:=hfr x hx
    have hji:=hno j p1 p2;rw [upB_other _ _ _ hji]at p1;exact ⟨j,p1,p2,p3⟩
   ·have hf0:frT (nmN i) (ndT (nodeAt g i) ks)=false:=by
     cases hq:frT (nmN i) (ndT (nodeAt g i) ks) with
     | false=>rfl
     | true =>
      obtain ⟨j,p1,p2,p3⟩:=hfr _ hq;exact absurd (hinj i j hi (hps' j p1) p3).symm (hno j p1 p2)
    rw [← fr_den (nmN i) _ (gdT_wf _ hgd) hf0 r fun k=>gT g k i]
    exact hdn r hr
def unN(b:ByteArray):Nat :=
 match b.data.toList with
 | [x]=>x.toNat - 97
 | [x,y]=>(x.toNat - 96)*26+(y.toNat - 97)
 | _=>0
theorem nm_all:((List.range 200).all fun i=>decide (unN (nmN i)=i) && isVr (nmN i).data.toList)=true:=by kernel_rfl
theorem nm_at{i:Nat}(hi:i<200):unN (nmN i)=i∧isVr (nmN i).data.toList=true:=by
 have h:=List.all_eq_true.1 nm_all i (List.mem_range.2 hi);rw [Bool.and_eq_true]at h;exact ⟨of_decide_eq_true h.1,h.2⟩
theorem nmN_inj{i j:Nat}(hi:i<200)(hj:j<200)(h:nmN i=nmN j):i=j:=by
 rw [← (nm_at hi).1,← (nm_at hj).1,h]
theorem part_var{t:Ty}(hp:partT t=true)(h9:t.kind=9):t.kids=[]:=by
 unfold partT at hp;simp [h9]at hp;exact hp.2
theorem cl_of_fr:∀t:Ty,wfT t→∀ns,(∀x,frT x t=true→x∈ns)→clT t ns:=by
 apply tyInd
 intro t ih hw ns h;obtain ⟨hp,hk⟩:=(wfT_eq t).1 hw;refine (clT_eq t ns).2 ⟨fun h9=>h _ (by rw [frT_var _ _ h9];simp),fun q hq=>ih q hq (hk q hq) _ fun x hx=>?_⟩
 have h9:t.kind≠9:=fun h9=>by rw [part_var hp h9]at hq;cases hq
 by_cases h8:t.kind=8
 ·rw [if_pos h8]
  by_cases e:t.name=x
  ·rw [e];exact List.mem_append_right _ (.head _)
  ·exact List.mem_append_left _ (h x (by rw [frT_else x t h9 (fun q=>e q.2)];exact List.any_eq_true.2 ⟨q,hq,hx⟩))
 ·rw [if_neg h8]
  exact h x (by rw [frT_else x t h9 (fun q=>h8 q.1)];exact List.any_eq_true.2 ⟨q,hq,hx⟩)
def backP(g:List Nd):Ty × SB:=bkT g 61 (fun _=>false) 0 (fun _=>false,0)
theorem back_ok{g:List Nd}(hg:GN g)(hl:g.length≤200)(h:(backP g).2.2≤60):chkTy (backP g).1=0∧den (backP g).1 e0=fun k=>gT g k 0:=by
 have K:=bk_ok hg (fun i j hi hj=>nmN_inj (by omega) (by omega)) (fun i hi=>(nm_at (by omega)).2) 61 (fun _=>false) 0 (fun _=>false,0) (by show 61≤61+0;omega) hg.pos (fun j hj=>by cases hj) h
 have hcl:clT (backP g).1 []:=cl_of_fr _ (gdT_wf _ K.gd) [] fun x hx=>by
  obtain ⟨j,p,_⟩:=K.fr x hx;cases p
 have hsz:sizeT (backP g).1≤60:=by
  have:=K.sz;have h2:(bkT g 61 (fun _=>false) 0 (fun _=>false,0)).2.2≤60:=h
  show sizeT (bkT g 61 (fun _=>false) 0 (fun _=>false,0)).1≤60
  have h3:(0:Nat)+sizeT (bkT g 61 (fun _=>false) 0 (fun _=>false,0)).1=_:=K.sz
  omega
 refine ⟨?_,K.dn e0 fun j hj=>by cases hj⟩
 rcases chkTy_or K.gd hcl (by show sizeT (backP g).1≤_;omega) with q|q
 ·exact q
 ·have q2:60<sizeT (backP g).1:=q.2
  omega
theorem conv1(w:World)(z:Int):(convert 184 9 (.slice (some ⟨w.heap.size,0,none⟩) 1 1)).run Tryz.prog (w.alloc (.cells #[.int .u8 z] 5)) = .ok (.string ⟨#[UInt8.ofNat z.toNat]⟩) (w.alloc (.cells #[.int .u8 z] 5)):=by
 rw [run_convert_bytes_string (P:=Tryz.prog) _ 184 9 5 _ _ _ Tryz.underlying184 Tryz.underlying5 Tryz.underlying9];rw [run_bytesToString _ _ _ _ [z]]
 ·rfl
 ·rw [run_loadCells _ ⟨w.heap.size,0,none⟩ 1 (fun _=>.int .u8 z) (fun j hj=>by
   obtain rfl:j=0:=by omega
   show World.cell? _ ⟨w.heap.size,0,none⟩=_
   go_cell)]
  rfl
theorem conv2(w:World)(z y:Int):(convert 184 9 (.slice (some ⟨w.heap.size,0,none⟩) 2 2)).run Tryz.prog (w.alloc (.cells #[.int .u8 z,.int .u8 y] 5)) = .ok (.string ⟨#[UInt8.ofNat z.toNat,UInt8.ofNat y.toNat]⟩) (w.alloc (.cells #[.int .u8 z,.int .u8 y] 5)):=by
 rw [run_convert_bytes_string (P:=Tryz.prog) _ 184 9 5 _ _ _ Tryz.underlying184 Tryz.underlying5 Tryz.underlying9];rw [run_bytesToString _ _ _ _ [z,y]]
 ·rfl
 ·rw [run_loadCells _ ⟨w.heap.size,0,none⟩ 2 (fun j=>if j=0 then .int .u8 z else .int .u8 y) (fun j hj=>by
   have:j=0∨j=1:=by omega
   rcases this with rfl|rfl
   ·show World.cell? _ ⟨w.heap.size,0,none⟩=_
    go_cell
   ·show World.cell? _ ⟨w.heap.size,1,none⟩=_
    go_cell)]
  rfl
theorem nodeName_any(i:Nat)(hi:i<200)(w:World):
  Calls Tryz.prog 89 #[.int .i64 (i:Int)] w fun e w'=>e = .returned (.string (nmN i))∧Below w.heap.size w w':=by
 by_cases h:i<26
 ·have hz:(i:Int)<26:=by omega
  have HN:=hideK (show (⟨#[UInt8.ofNat (97+(i:Int) % 26).toNat]⟩:ByteArray)=nmN i from by
   unfold nmN;rw [if_pos h,show (97+(i:Int) % 26).toNat=97+i by omega])
  go_enter Tryz.func89,Tryz.ntmps89
  go_wp2_with fail
  rw [conv1];go_wp2_with fail
  go_ret
  exact ⟨congrArg (fun b=>Ending.returned (Value.string b)) HN.out,(bR _ _).alloc (nR _) _⟩
 ·have hz:¬(i:Int)<26:=by omega
  have HN:=hideK (show (⟨#[UInt8.ofNat ((97+(i:Int) / 26).toNat - 1),UInt8.ofNat (97+(i:Int) % 26).toNat]⟩:ByteArray)=nmN i from by
   unfold nmN;rw [if_neg h,show (97+(i:Int) / 26).toNat - 1=97+i / 26 - 1 by omega,show (97+(i:Int) % 26).toNat=97+i % 26 by omega])
  go_enter Tryz.func89,Tryz.ntmps89
  go_wp2_with fail
  rw [conv2];go_wp2_with fail
  go_ret
  exact ⟨congrArg (fun b=>Ending.returned (Value.string b)) HN.out,(bR _ _).alloc (nR _) _⟩
theorem kt_at{w:World}{B d:Nat}{ks:List Ty}{ak:OAd}(h:KT w B d ks ak){j:Nat}(hj:j<ks.length):∃b o,ak=some ⟨b,o,none⟩∧b<B∧∃al cl ak' ck',TyAt w b (o+j*5) ks[j] al cl ak' ck'∧TyBd ks[j] cl ck'∧LA w B ks[j].labels al∧∃d',KT w B d' ks[j].kids ak':=by
 cases d with
 | zero=>simp only [KT]at h;subst h;simp at hj
 | succ d =>
  rcases h with h|⟨b,o,e,hb,hc⟩
  ·subst h;simp at hj
  ·obtain ⟨al,cl,ak',ck',h1,h2,h3,h4⟩:=hc j hj
   exact ⟨b,o,e,hb,al,cl,ak',ck',h1,h2,h3,d,h4⟩
end Go.Proofs.YtmamabhhgfcjcaaGreatDoor
