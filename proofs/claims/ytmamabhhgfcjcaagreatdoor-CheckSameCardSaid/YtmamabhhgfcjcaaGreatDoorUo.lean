/-
  The contract of duetkeep.put: a type in the place of a name.
-/
import Derived.Test.YtmamabhhgfcjcaaGreatDoorVk
set_option maxRecDepth 100000
set_option maxHeartbeats 4000000
namespace Go.Proofs.YtmamabhhgfcjcaaGreatDoor
open Go.RowKit Go.Shelf
def LP(W:World)(P:Nat→Prop)(ls:List ByteArray)(al:OAd):Prop :=
 ls=[]∨∃b o,al=some ⟨b,o,none⟩∧P b∧∀i (h:i<ls.length),W.cell? ⟨b,o+i,none⟩=some (.string ls[i])
def KP(W:World)(P:Nat→Prop):Nat→List Ty→OAd→Prop
 | 0,ks,_=>ks=[]
 | d+1,ks,ak=>ks=[]∨∃b o,ak=some ⟨b,o,none⟩∧P b∧∀i (h:i<ks.length),∃al cl ak' ck',TyAt W b (o+i*5) ks[i] al cl ak' ck'∧TyBd ks[i] cl ck'∧LP W P ks[i].labels al∧KP W P d ks[i].kids ak'
theorem LP.keep{W W':World}{P Q:Nat→Prop}(hb:∀b o,P b→W'.cell? ⟨b,o,none⟩=W.cell? ⟨b,o,none⟩)(hq:∀b,P b→Q b){ls:List ByteArray}{al:OAd}(h:LP W P ls al):LP W' Q ls al :=
 h.imp id fun ⟨b,o,e,hp,hc⟩=>⟨b,o,e,hq b hp,fun i hi=>(hb b _ hp).trans (hc i hi)⟩
theorem KP.keep{W W':World}{P Q:Nat→Prop}(hb:∀b o,P b→W'.cell? ⟨b,o,none⟩=W.cell? ⟨b,o,none⟩)(hq:∀b,P b→Q b):∀ {d:Nat} {ks:List Ty} {ak:OAd},KP W P d ks ak→KP W' Q d ks ak
 | 0,_,_,h=>h
 | d+1,ks,ak,h=>by
  rcases h with h|⟨b,o,h1,h2,h3⟩
  ·exact .inl h
  ·refine .inr ⟨b,o,h1,hq b h2,fun i hi=>?_⟩
   obtain ⟨al,cl,ak',ck',e,f,g,k⟩:=h3 i hi;exact ⟨al,cl,ak',ck',⟨(hb b _ h2).trans e.c0,(hb b _ h2).trans e.c1,(hb b _ h2).trans e.c2,(hb b _ h2).trans e.c3,(hb b _ h2).trans e.c4⟩,f,LP.keep hb hq g,KP.keep hb hq k⟩
theorem KP.up{W:World}{P:Nat→Prop}:∀ {d e:Nat} {ks:List Ty} {ak:OAd},d≤e→KP W P d ks ak→KP W P e ks ak
 | 0,0,_,_,_,h=>h
 | 0,e+1,_,_,_,h=>.inl h
 | d+1,0,_,_,hd,_=>by omega
 | d+1,e+1,ks,ak,hd,h=>by
  rcases h with h|⟨b,o,h1,hl,h⟩
  ·exact .inl h
  ·exact .inr ⟨b,o,h1,hl,fun i hi=>by
    obtain ⟨al,cl,ak',ck',h1,h2,h3,h4⟩:=h i hi;exact ⟨al,cl,ak',ck',h1,h2,h3,KP.up (by omega) h4⟩⟩
theorem LP.la{W:World}{P:Nat→Prop}{B:Nat}(hq:∀b,P b→b<B){ls:List ByteArray}{al:OAd}(h:LP W P ls al):LA W B ls al:=by
 rcases h with rfl|⟨b,o,e,hp,hc⟩
 ·exact .inl rfl
 ·exact .inr ⟨b,o,e,hq b hp,fun i hi=>by rw [List.length_map]at hi;rw [List.getElem_map];exact hc i hi⟩
theorem KP.kt{W:World}{P:Nat→Prop}{B:Nat}(hq:∀b,P b→b<B):∀ {d:Nat} {ks:List Ty} {ak:OAd},KP W P d ks ak→KT W B d ks ak
 | 0,_,_,h=>h
 | d+1,ks,ak,h=>by
  rcases h with h|⟨b,o,h1,h2,h3⟩
  ·exact .inl h
  ·refine .inr ⟨b,o,h1,hq b h2,fun i hi=>?_⟩
   obtain ⟨al,cl,ak',ck',e,f,g,k⟩:=h3 i hi;exact ⟨al,cl,ak',ck',e,f,g.la hq,KP.kt hq k⟩
theorem lp_of{W:World}{B:Nat}{P:Nat→Prop}(hq:∀b,b<B→P b){ls:List ByteArray}{al:OAd}(h:LA W B ls al):LP W P ls al:=by
 rcases h with h|⟨b,o,e,hl,hc⟩
 ·exact .inl (by simpa using h)
 ·exact .inr ⟨b,o,e,hq b hl,fun i hi=>by have:=hc i (by simpa using hi);rw [List.getElem_map]at this;exact this⟩
theorem kp_of{W:World}{B:Nat}{P:Nat→Prop}(hq:∀b,b<B→P b):∀ {d:Nat} {ks:List Ty} {ak:OAd},KT W B d ks ak→KP W P d ks ak
 | 0,_,_,h=>h
 | d+1,ks,ak,h=>by
  rcases h with h|⟨b,o,h1,h2,h3⟩
  ·exact .inl h
  ·refine .inr ⟨b,o,h1,hq b h2,fun i hi=>?_⟩
   obtain ⟨al,cl,ak',ck',e,f,g,k⟩:=h3 i hi;exact ⟨al,cl,ak',ck',e,f,lp_of hq g,kp_of hq k⟩
abbrev TTk:=Ty × (OAd × Nat) × (OAd × Nat)
def tC(t:TTk):List Value:=[.int .i64 t.1.kind,.int .i64 t.1.so,.string t.1.name,.slice t.2.1.1 t.1.labels.length t.2.1.2,.slice t.2.2.1 t.1.kids.length t.2.2.2]
def tCs(ts:List TTk):List Value:=ts.flatMap tC
theorem tCs_snoc(ts:List TTk)(x:TTk):tCs (ts++[x])=tCs ts++tC x:=by simp [tCs]
theorem tC_one(t:TTk):∀y∈tC t,y.oneCell'=true:=by
 intro y hy;simp only [tC,List.mem_cons,List.not_mem_nil,or_false]at hy;rcases hy with rfl|rfl|rfl|rfl|rfl <;> rfl
theorem tCs_at:∀(ss:List TTk) (i:Nat) (h:i<ss.length) (j:Nat),j<5→(tCs ss)[i*5+j]? = (tC ss[i])[j]?
 | [],i,h,_,_=>by simp at h
 | s::ss,0,_,j,hj=>by
  have e:tCs (s::ss)=tC s++tCs ss:=rfl;rw [e,List.getElem?_append_left (by simp [tC];omega)]
  simp
 | s::ss,i+1,h,j,hj=>by
  have e:tCs (s::ss)=tC s++tCs ss:=rfl;have hl:(tC s).length=5:=rfl;rw [e,List.getElem?_append_right (by rw [hl];omega),hl,show (i+1)*5+j - 5=i*5+j by omega]
  exact tCs_at ss i (by simpa using h) j hj
def TOK(W:World)(P:Nat→Prop)(ts:List TTk):Prop:=∀q∈ts,TyBd q.1 q.2.1.2 q.2.2.2∧LP W P q.1.labels q.2.1.1∧∃d,KP W P d q.1.kids q.2.2.1
theorem TOK.keep{W W':World}{P Q:Nat→Prop}{ts:List TTk}(h:TOK W P ts)(hb:∀b o,P b→W'.cell? ⟨b,o,none⟩=W.cell? ⟨b,o,none⟩)(hq:∀b,P b→Q b):TOK W' Q ts :=
 fun q hm=>⟨(h q hm).1,(h q hm).2.1.keep hb hq,by obtain ⟨d,hd⟩:=(h q hm).2.2;exact ⟨d,hd.keep hb hq⟩⟩
theorem tok_depth{W:World}{P:Nat→Prop}:∀ {ts:List TTk},TOK W P ts→∃D,∀q∈ts,KP W P D q.1.kids q.2.2.1
 | [],_=>⟨0,fun q hq=>by cases hq⟩
 | x::ts,h=>by
  obtain ⟨D,hD⟩:=tok_depth (ts:=ts) fun q hq=>h q (.tail _ hq)
  obtain ⟨d,hd⟩:=(h x (.head _)).2.2;exact ⟨D+d,fun q hq=>by
   rcases List.mem_cons.1 hq with rfl|hq
   ·exact hd.up (by omega)
   ·exact (hD q hq).up (by omega)⟩
theorem kp_row{W:World}{base n:Nat}{v:Value}{ts:List TTk}{P:Nat→Prop}(ho:W.ownsRow base 37 5 v n (tCs ts))(hn:ts.length=n)(ht:TOK W P ts)(hv:∀b,v.ownBlock=some b→P b):∃ak ck d,v = .slice ak n ck∧n≤ck∧ck≤9223372036854775807∧KP W P d (ts.map fun q=>q.1) ak:=by
 obtain ⟨D,hD⟩:=tok_depth ht;rcases ho.2 with ⟨rfl,h0⟩|⟨g,cap,cur,rfl,_,hc,h1,h2,_,_⟩
 ·have:ts=[]:=List.eq_nil_of_length_eq_zero (by omega)
  subst this;exact ⟨none,0,0,by rw [h0],by omega,by omega,rfl⟩
 ·unfold maxLen at h2
  obtain ⟨g',c',e,_,_,hcell⟩:=(own_cells ho).resolve_left (fun q=>by cases q.1)
  injection e with e1 _ e3
  injection e1 with e1
  injection e1 with e1
  subst e1 e3;refine ⟨_,cap,D+1,rfl,h1,by omega,.inr ⟨g,0,rfl,hv g rfl,fun i hi=>?_⟩⟩
  have hi':i<ts.length:=by simpa using hi
  have ge:(ts.map fun q=>q.1)[i]=ts[i].1:=by simp
  rw [ge];have hm:=List.getElem_mem hi';have hcl:∀j y,j<5→(tC ts[i])[j]? = some y→W.cell? ⟨g,0+i*5+j,none⟩=some y:=fun j y hj hy=>by
   rw [Nat.zero_add];exact hcell _ _ ((tCs_at ts i hi' j hj).trans hy)
  exact ⟨ts[i].2.1.1,ts[i].2.1.2,ts[i].2.2.1,ts[i].2.2.2,⟨hcl 0 _ (by omega) rfl,hcl 1 _ (by omega) rfl,hcl 2 _ (by omega) rfl,hcl 3 _ (by omega) rfl,hcl 4 _ (by omega) rfl⟩,(ht _ hm).1,(ht _ hm).2.1,hD _ hm⟩
theorem infoTy:(Tryz.prog.info? 37).map (fun i=>(i.zero,i.size,i.bytes))=some (some (.agg #[.int .i64 0,.int .i64 0,.string ⟨#[]⟩,.slice none 0 0,.slice none 0 0]),5,80):=by kernel_rfl
structure WY(n:Nat)(ag:OAd)(cg wb pb mb:Nat)(ps:Nat→Bool)(st:SB)(W:World):Prop where
 c0:W.cell? ⟨wb,0,none⟩=some (.slice ag n cg)
 c1:W.cell? ⟨wb,1,none⟩=some (.slice (some ⟨pb,0,none⟩) n n)
 c2:W.cell? ⟨wb,2,none⟩=some (.slice (some ⟨mb,0,none⟩) n n)
 c3:W.cell? ⟨wb,3,none⟩=some (.int .i64 (st.2:Int))
 p:∀i,i<n→W.cell? ⟨pb,i,none⟩=some (.bool (ps i))
 m:∀i,i<n→W.cell? ⟨mb,i,none⟩=some (.bool (st.1 i))
 fw:∀o,W.frozen? ⟨wb,o,none⟩=false
 fp:∀o,W.frozen? ⟨pb,o,none⟩=false
 fm:∀o,W.frozen? ⟨mb,o,none⟩=false
 wp:wb≠pb
 wm:wb≠mb
 pm:pb≠mb
 lw:wb<W.heap.size
 lp:pb<W.heap.size
 lm:mb<W.heap.size
theorem WY.keep{n:Nat}{ag:OAd}{cg wb pb mb:Nat}{ps:Nat→Bool}{st:SB}{W W':World}(h:WY n ag cg wb pb mb ps st W)(hb:Below W.heap.size W W'):WY n ag cg wb pb mb ps st W' :=
 ⟨(hb.cell (p:=⟨wb,0,none⟩) h.lw).trans h.c0,(hb.cell (p:=⟨wb,1,none⟩) h.lw).trans h.c1,(hb.cell (p:=⟨wb,2,none⟩) h.lw).trans h.c2,(hb.cell (p:=⟨wb,3,none⟩) h.lw).trans h.c3,fun i hi=>(hb.cell (p:=⟨pb,i,none⟩) h.lp).trans (h.p i hi),fun i hi=>(hb.cell (p:=⟨mb,i,none⟩) h.lm).trans (h.m i hi),fun o=>(hb.frozen (p:=⟨wb,o,none⟩) h.lw).trans (h.fw o),fun o=>(hb.frozen (p:=⟨pb,o,none⟩) h.lp).trans (h.fp o),fun o=>(hb.frozen (p:=⟨mb,o,none⟩) h.lm).trans (h.fm o),h.wp,h.wm,h.pm,nL h.lw hb.size,nL h.lp hb.size,nL h.lm hb.size⟩
theorem cell_set{W:World}{b o b' o':Nat}(v:Value)(h:b≠b'∨o≠o'):(W.setCell ⟨b',o',none⟩ v).cell? ⟨b,o,none⟩=W.cell? ⟨b,o,none⟩ :=
 World.cell?_setCell_other _ _ _ _ (by intro e;injection e with e1 e2;rcases h with q|q;exact q e1.symm;exact q e2.symm)
theorem WY.part{n:Nat}{ag:OAd}{cg wb pb mb:Nat}{ps:Nat→Bool}{st:SB}{W:World}(h:WY n ag cg wb pb mb ps st W){z:Int}(hz:z=(st.2+1:Nat)):WY n ag cg wb pb mb ps (st.1,st.2+1) (W.setCell ⟨wb,3,none⟩ (.int .i64 z)):=by
 subst hz;exact ⟨(cell_set _ (.inr (by omega))).trans h.c0,(cell_set _ (.inr (by omega))).trans h.c1,(cell_set _ (.inr (by omega))).trans h.c2,World.cell?_setCell_same _ _ _ h.c3,fun i hi=>(cell_set _ (.inl h.wp.symm)).trans (h.p i hi),fun i hi=>(cell_set _ (.inl h.wm.symm)).trans (h.m i hi),fun o=>(World.frozen?_setCell _ _ _ _).trans (h.fw o),fun o=>(World.frozen?_setCell _ _ _ _).trans (h.fp o),fun o=>(World.frozen?_setCell _ _ _ _).trans (h.fm o),h.wp,h.wm,h.pm,by simpa using h.lw,by simpa using h.lp,by simpa using h.lm⟩
theorem WY.pass{n:Nat}{ag:OAd}{cg wb pb mb:Nat}{ps:Nat→Bool}{st:SB}{W:World}(h:WY n ag cg wb pb mb ps st W){i:Nat}(hi:i<n)(b:Bool):WY n ag cg wb pb mb (upB ps i b) st (W.setCell ⟨pb,i,none⟩ (.bool b)):=by
 refine ⟨(cell_set _ (.inl h.wp)).trans h.c0,(cell_set _ (.inl h.wp)).trans h.c1,(cell_set _ (.inl h.wp)).trans h.c2,(cell_set _ (.inl h.wp)).trans h.c3,fun j hj=>?_,fun i hi=>(cell_set _ (.inl h.pm.symm)).trans (h.m i hi),fun o=>(World.frozen?_setCell _ _ _ _).trans (h.fw o),fun o=>(World.frozen?_setCell _ _ _ _).trans (h.fp o),fun o=>(World.frozen?_setCell _ _ _ _).trans (h.fm o),h.wp,h.wm,h.pm,by simpa using h.lw,by simpa using h.lp,by simpa using h.lm⟩
 by_cases e:j=i
 ·rw [e,upB_same];exact World.cell?_setCell_same _ _ _ (h.p i hi)
 ·rw [upB_other _ _ _ e];exact (cell_set _ (.inr e)).trans (h.p j hj)
theorem WY.meet{n:Nat}{ag:OAd}{cg wb pb mb:Nat}{ps:Nat→Bool}{st:SB}{W:World}(h:WY n ag cg wb pb mb ps st W){i:Nat}(hi:i<n)(b:Bool):WY n ag cg wb pb mb ps (upB st.1 i b,st.2) (W.setCell ⟨mb,i,none⟩ (.bool b)):=by
 refine ⟨(cell_set _ (.inl h.wm)).trans h.c0,(cell_set _ (.inl h.wm)).trans h.c1,(cell_set _ (.inl h.wm)).trans h.c2,(cell_set _ (.inl h.wm)).trans h.c3,fun i hi=>(cell_set _ (.inl h.pm)).trans (h.p i hi),fun j hj=>?_,fun o=>(World.frozen?_setCell _ _ _ _).trans (h.fw o),fun o=>(World.frozen?_setCell _ _ _ _).trans (h.fp o),fun o=>(World.frozen?_setCell _ _ _ _).trans (h.fm o),h.wp,h.wm,h.pm,by simpa using h.lw,by simpa using h.lp,by simpa using h.lm⟩
 by_cases e:j=i
 ·rw [e];show _=some (Value.bool (upB st.1 i b i));rw [upB_same];exact World.cell?_setCell_same _ _ _ (h.m i hi)
 ·show _=some (Value.bool (upB st.1 i b j));rw [upB_other _ _ _ e];exact (cell_set _ (.inr e)).trans (h.m j hj)
structure But3(wb pb mb:Nat)(w W:World):Prop where
 os:W.os=w.os
 tape:W.tape=w.tape
 output:W.output=w.output
 size:w.heap.size≤W.heap.size
 block:∀b,b<w.heap.size→b≠wb→b≠pb→b≠mb→W.heap[b]? = w.heap[b]?
theorem But3.refl(wb pb mb:Nat)(w:World):But3 wb pb mb w w:=⟨rfl,rfl,rfl,nR _,fun _ _ _ _ _=>rfl⟩
theorem But3.trans{wb pb mb:Nat}{w W V:World}(h:But3 wb pb mb w W)(h2:But3 wb pb mb W V):But3 wb pb mb w V :=
 ⟨h2.os.trans h.os,h2.tape.trans h.tape,h2.output.trans h.output,Nat.le_trans h.size h2.size,fun b hb h1 h3 h4=>(h2.block b (nL hb h.size) h1 h3 h4).trans (h.block b hb h1 h3 h4)⟩
theorem But3.below{wb pb mb:Nat}{w W:World}(h:Below w.heap.size w W):But3 wb pb mb w W:=⟨h.os,h.tape,h.output,h.size,fun b hb _ _ _=>h.block b hb⟩
theorem But3.set{wb pb mb:Nat}{w W:World}(h:But3 wb pb mb w W){b o:Nat}(hb:b=wb∨b=pb∨b=mb∨w.heap.size≤b)(v:Value):But3 wb pb mb w (W.setCell ⟨b,o,none⟩ v) :=
 ⟨h.os,h.tape,h.output,by simpa using h.size,fun c hc h1 h2 h3=>by
  rw [Below.heap_setCell _ _ _ c (fun e=>by have e:c=b:=e;omega)]
  exact h.block c hc h1 h2 h3⟩
def BKPost(g:List Nd)(f:Nat)(ag:OAd)(cg wb pb mb:Nat)(ps:Nat→Bool)(i:Nat)(st:SB)(w:World)(e:Ending)(W:World):Prop :=
 (∃al cl ak ck d,e = .returned (tyVal (bkT g f ps i st).1 al cl ak ck)∧TyBd (bkT g f ps i st).1 cl ck∧LP W (fun b=>w.heap.size≤b∧b<W.heap.size) (bkT g f ps i st).1.labels al∧KP W (fun b=>w.heap.size≤b∧b<W.heap.size) d (bkT g f ps i st).1.kids ak)∧WY g.length ag cg wb pb mb ps (bkT g f ps i st).2 W∧But3 wb pb mb w W
structure RBX(W:World)(b:Nat):Prop where
 c0:W.cell? ⟨b,0,none⟩=some (.int .i64 0)
 c1:W.cell? ⟨b,1,none⟩=some (.int .i64 0)
 c2:W.cell? ⟨b,2,none⟩=some (.string ⟨#[]⟩)
 c3:W.cell? ⟨b,3,none⟩=some (.slice none 0 0)
 c4:W.cell? ⟨b,4,none⟩=some (.slice none 0 0)
 f:∀o,W.frozen? ⟨b,o,none⟩=false
 lt:b<W.heap.size
theorem RBX.new(w:World):RBX (w.alloc (.cells #[.int .i64 0,.int .i64 0,.string ⟨#[]⟩,.slice none 0 0,.slice none 0 0] 37)) w.heap.size :=
 ⟨by go_cell,by go_cell,by go_cell,by go_cell,by go_cell,fun o=>by go_simp,by simp⟩
theorem RBX.set{W:World}{b:Nat}(h:RBX W b){b' o':Nat}(hn:b≠b')(v:Value):RBX (W.setCell ⟨b',o',none⟩ v) b :=
 ⟨(cell_set _ (.inl hn)).trans h.c0,(cell_set _ (.inl hn)).trans h.c1,(cell_set _ (.inl hn)).trans h.c2,(cell_set _ (.inl hn)).trans h.c3,(cell_set _ (.inl hn)).trans h.c4,fun o=>(World.frozen?_setCell _ _ _ _).trans (h.f o),by simpa using h.lt⟩
theorem WY.st{n:Nat}{ag:OAd}{cg wb pb mb:Nat}{ps:Nat→Bool}{st:SB}{W:World}(h:WY n ag cg wb pb mb ps st W){b:Nat}(h1:wb≠b)(h2:pb≠b)(h3:mb≠b)(v0 v1 v2 v3 v4:Value):WY n ag cg wb pb mb ps st (st5 W b 0 v0 v1 v2 v3 v4) :=
 ⟨(st5_other _ _ _ _ _ _ _ _ _ _ (.inl h1)).trans h.c0,(st5_other _ _ _ _ _ _ _ _ _ _ (.inl h1)).trans h.c1,(st5_other _ _ _ _ _ _ _ _ _ _ (.inl h1)).trans h.c2,(st5_other _ _ _ _ _ _ _ _ _ _ (.inl h1)).trans h.c3,fun i hi=>(st5_other _ _ _ _ _ _ _ _ _ _ (.inl h2)).trans (h.p i hi),fun i hi=>(st5_other _ _ _ _ _ _ _ _ _ _ (.inl h3)).trans (h.m i hi),fun o=>(st5_frozen _ _ _ _ _ _ _ _ _).trans (h.fw o),fun o=>(st5_frozen _ _ _ _ _ _ _ _ _).trans (h.fp o),fun o=>(st5_frozen _ _ _ _ _ _ _ _ _).trans (h.fm o),h.wp,h.wm,h.pm,by rw [st5_size];exact h.lw,by rw [st5_size];exact h.lp,by rw [st5_size];exact h.lm⟩
theorem But3.st{wb pb mb:Nat}{w W:World}(h:But3 wb pb mb w W){b:Nat}(hb:w.heap.size≤b)(v0 v1 v2 v3 v4:Value):But3 wb pb mb w (st5 W b 0 v0 v1 v2 v3 v4):=by
 unfold st5;exact ((((h.set (.inr (.inr (.inr hb))) _).set (.inr (.inr (.inr hb))) _).set (.inr (.inr (.inr hb))) _).set (.inr (.inr (.inr hb))) _).set (.inr (.inr (.inr hb))) _
theorem typeFrom_over(g:List Nd)(f:Nat)(ag:OAd)(cg wb pb mb:Nat)(ps:Nat→Bool)(i:Nat)(met:Nat→Bool)(q:Nat)(w:World)(h60:60<q+1)(hq:q≤100000)(hW:WY g.length ag cg wb pb mb ps (met,q) w):
  Calls Tryz.prog 54 #[.pointer (some ⟨wb,0,none⟩),.int .i64 (i:Int)] w (BKPost g (f+1) ag cg wb pb mb ps i (met,q) w):=by
 have hbk:bkT g (f+1) ps i (met,q)=(zT,(met,q+1)):=by rw [bkT,if_pos h60]
 unfold BKPost;rw [hbk];have hlt:=hW.lw;have hlp:=hW.lp;have hlm:=hW.lm;have W1:=hideK (hW.keep ((bR _ _).alloc (nR _) (.cells #[.int .i64 0,.int .i64 0,.string ⟨#[]⟩,.slice none 0 0,.slice none 0 0] 37)));have c3:=W1.out.c3;have f3:=W1.out.fw 3;have hs':(w.setCell ⟨wb,3,none⟩ (.int .i64 ((q:Int)+1))).heap.size=w.heap.size:=by simp
 have HF:=hideK ((hW.part (z:=(q:Int)+1) (by omega)).keep ((bR _ _).alloc (nR _) (.cells #[.int .i64 0,.int .i64 0,.string ⟨#[]⟩,.slice none 0 0,.slice none 0 0] 37)))
 have HR:=hideK (show RBX _ w.heap.size from hs' ▸ RBX.new (w.setCell ⟨wb,3,none⟩ (.int .i64 ((q:Int)+1))))
 have HB:=hideK (((But3.refl wb pb mb w).set (b:=wb) (o:=3) (.inl rfl) (.int .i64 ((q:Int)+1))).trans (But3.below ((bR _ _).alloc (nR _) (.cells #[.int .i64 0,.int .i64 0,.string ⟨#[]⟩,.slice none 0 0,.slice none 0 0] 37))));have hz:(60:Int)<(q:Int)+1:=by omega
 have hz2:(q:Int)≤100000:=by omega
 have c3':((w.setCell ⟨wb,3,none⟩ (.int .i64 ((q:Int)+1))).alloc (.cells #[.int .i64 0,.int .i64 0,.string ⟨#[]⟩,.slice none 0 0,.slice none 0 0] 37)).cell? ⟨wb,3,none⟩=some (.int .i64 ((q:Int)+1)):=HF.out.c3;clear hW hbk;simp only [tyVal,zT,List.length_nil];go_enter Tryz.func54,Tryz.ntmps54
 go_upto_region 2 with fail
 generalize ((w.setCell ⟨wb,3,none⟩ (.int .i64 ((q:Int)+1))).alloc (.cells #[.int .i64 0,.int .i64 0,.string ⟨#[]⟩,.slice none 0 0,.slice none 0 0] 37))=W2 at *;clear c3 f3 W1;obtain ⟨z0,z1,z2,z3,z4,zf,_⟩:=HR.out;have f0:=zf 0;have f1:=zf 1;have f2:=zf 2;have f3:=zf 3;have f4:=zf 4;clear zf;have HF2:=hideK (HF.out.st (b:=w.heap.size) (by omega) (by omega) (by omega) (.int .i64 0) (.int .i64 0) (.string ⟨#[]⟩) (.slice none 0 0) (.slice none 0 0))
 have HB2:=hideK (HB.out.st (b:=w.heap.size) (nR _) (.int .i64 0) (.int .i64 0) (.string ⟨#[]⟩) (.slice none 0 0) (.slice none 0 0));have HTA:=hideK (show TyAt (st5 W2 w.heap.size 0 (.int .i64 0) (.int .i64 0) (.string ⟨#[]⟩) (.slice none 0 0) (.slice none 0 0)) w.heap.size 0 zT none 0 none 0 from st5_at W2 _ 0 zT none 0 none 0 (fun j hj=>by
  rw [Nat.zero_add];have:j=0∨j=1∨j=2∨j=3∨j=4:=by omega
  rcases this with rfl|rfl|rfl|rfl|rfl
  ·exact ⟨_,z0⟩
  ·exact ⟨_,z1⟩
  ·exact ⟨_,z2⟩
  ·exact ⟨_,z3⟩
  ·exact ⟨_,z4⟩))
 go_wp2_with fail
 change bodyPost _ _ _ _ _ (st5 W2 w.heap.size 0 (.int .i64 0) (.int .i64 0) (.string ⟨#[]⟩) (.slice none 0 0) (.slice none 0 0))
 generalize st5 W2 w.heap.size 0 (.int .i64 0) (.int .i64 0) (.string ⟨#[]⟩) (.slice none 0 0) (.slice none 0 0)=W9 at *;obtain ⟨r0,r1,r2,r3,r4⟩:=HTA.out;simp only [Nat.zero_add,zT,List.length_nil]at r0 r1 r2 r3 r4;refine bodyPost_ret (v:=.agg #[.int .i64 0,.int .i64 0,.string ⟨#[]⟩,.slice none 0 0,.slice none 0 0]) (by simp [results,Tryz.results54,go_sem,r0,r1,r2,r3,r4]) rfl ?_
 exact ⟨⟨none,0,none,0,rfl,⟨by decide,(fun l hl=>by cases hl),nR _,by decide,nR _,by decide⟩,.inl rfl,0,rfl⟩,HF2.out,HB2.out⟩
theorem RBX.keep{W W':World}{b:Nat}(h:RBX W b)(hb:Below W.heap.size W W'):RBX W' b :=
 ⟨(hb.cell (p:=⟨b,0,none⟩) h.lt).trans h.c0,(hb.cell (p:=⟨b,1,none⟩) h.lt).trans h.c1,(hb.cell (p:=⟨b,2,none⟩) h.lt).trans h.c2,(hb.cell (p:=⟨b,3,none⟩) h.lt).trans h.c3,(hb.cell (p:=⟨b,4,none⟩) h.lt).trans h.c4,fun o=>(hb.frozen (p:=⟨b,o,none⟩) h.lt).trans (h.f o),nL h.lt hb.size⟩
theorem nmN_size(i:Nat):(nmN i).size≤9223372036854775807:=by
 unfold nmN;split
 ·show (1:Nat)≤_;omega
 ·show (2:Nat)≤_;omega
theorem typeFrom_var(g:List Nd)(f:Nat)(ag:OAd)(cg wb pb mb:Nat)(ps:Nat→Bool)(i:Nat)(met:Nat→Bool)(q:Nat)(w:World)(h60:¬ 60<q+1)(hi:i<g.length)(hg:g.length≤200)(hps:ps i=true)(hW:WY g.length ag cg wb pb mb ps (met,q) w):
  Calls Tryz.prog 54 #[.pointer (some ⟨wb,0,none⟩),.int .i64 (i:Int)] w (BKPost g (f+1) ag cg wb pb mb ps i (met,q) w):=by
 have hbk:bkT g (f+1) ps i (met,q)=(varT (nmN i),(upB met i true,q+1)):=by rw [bkT,if_neg h60,if_pos hps]
 unfold BKPost;rw [hbk];have hlt:=hW.lw;have hlp:=hW.lp;have hlm:=hW.lm;have W1:=hideK (hW.keep ((bR _ _).alloc (nR _) (.cells #[.int .i64 0,.int .i64 0,.string ⟨#[]⟩,.slice none 0 0,.slice none 0 0] 37)));have c3:=W1.out.c3;have f3:=W1.out.fw 3;have hs':(w.setCell ⟨wb,3,none⟩ (.int .i64 ((q:Int)+1))).heap.size=w.heap.size:=by simp
 have HF:=hideK ((hW.part (z:=(q:Int)+1) (by omega)).keep ((bR _ _).alloc (nR _) (.cells #[.int .i64 0,.int .i64 0,.string ⟨#[]⟩,.slice none 0 0,.slice none 0 0] 37)))
 have HR:=hideK (show RBX _ w.heap.size from hs' ▸ RBX.new (w.setCell ⟨wb,3,none⟩ (.int .i64 ((q:Int)+1))))
 have HB:=hideK (((But3.refl wb pb mb w).set (b:=wb) (o:=3) (.inl rfl) (.int .i64 ((q:Int)+1))).trans (But3.below ((bR _ _).alloc (nR _) (.cells #[.int .i64 0,.int .i64 0,.string ⟨#[]⟩,.slice none 0 0,.slice none 0 0] 37))));have hz:¬(60:Int)<(q:Int)+1:=by omega
 have hz2:(q:Int)≤100000:=by omega
 have hi0:(0:Int)≤(i:Int):=by omega
 have hin:(i:Int)<(g.length:Int):=by omega
 have HC:=hideK (fun W=>nodeName_any i (by omega) W)
 have c3':((w.setCell ⟨wb,3,none⟩ (.int .i64 ((q:Int)+1))).alloc (.cells #[.int .i64 0,.int .i64 0,.string ⟨#[]⟩,.slice none 0 0,.slice none 0 0] 37)).cell? ⟨wb,3,none⟩=some (.int .i64 ((q:Int)+1)):=HF.out.c3;clear hW hbk;simp only [tyVal,varT,List.length_nil];go_enter Tryz.func54,Tryz.ntmps54
 go_upto_region 2 with fail
 generalize ((w.setCell ⟨wb,3,none⟩ (.int .i64 ((q:Int)+1))).alloc (.cells #[.int .i64 0,.int .i64 0,.string ⟨#[]⟩,.slice none 0 0,.slice none 0 0] 37))=W2 at *;clear c3 f3 W1;have p1:=HF.out.c1;have p2:=HF.out.p i hi;rw [hps]at p2;have m1:=HF.out.c2;have m2:=HF.out.m i hi;have m3:=HF.out.fm i;have HF3:=hideK (HF.out.meet hi true);have HB3:=hideK (HB.out.set (b:=mb) (o:=i) (.inr (.inr (.inl rfl))) (.bool true));have HR3:=hideK (HR.out.set (b':=mb) (o':=i) (by omega) (.bool true))
 go_upto_region 6 with fail
 generalize W2.setCell ⟨mb,i,none⟩ (.bool true)=W3 at *;clear p1 p2 m1 m2 m3 HF HB HR c3';go_wp2_with fail
 refine (HC.out _).mono ?_;rintro e w4 ⟨rfl,hb4⟩;have HF4:=hideK (HF3.out.keep hb4);have HB4:=hideK (HB3.out.trans (But3.below hb4));obtain ⟨z0,z1,z2,z3,z4,zf,_⟩:=HR3.out.keep hb4;have f0:=zf 0;have f1:=zf 1;have f2:=zf 2;have f3:=zf 3;have f4:=zf 4;clear zf hb4 HF3 HB3 HR3 HC;have HF5:=hideK (HF4.out.st (b:=w.heap.size) (by omega) (by omega) (by omega) (.int .i64 9) (.int .i64 0) (.string (nmN i)) (.slice none 0 0) (.slice none 0 0))
 have HB5:=hideK (HB4.out.st (b:=w.heap.size) (nR _) (.int .i64 9) (.int .i64 0) (.string (nmN i)) (.slice none 0 0) (.slice none 0 0));have HTA:=hideK (show TyAt (st5 w4 w.heap.size 0 (.int .i64 9) (.int .i64 0) (.string (nmN i)) (.slice none 0 0) (.slice none 0 0)) w.heap.size 0 (varT (nmN i)) none 0 none 0 from st5_at w4 _ 0 (varT (nmN i)) none 0 none 0 (fun j hj=>by
  rw [Nat.zero_add];have:j=0∨j=1∨j=2∨j=3∨j=4:=by omega
  rcases this with rfl|rfl|rfl|rfl|rfl
  ·exact ⟨_,z0⟩
  ·exact ⟨_,z1⟩
  ·exact ⟨_,z2⟩
  ·exact ⟨_,z3⟩
  ·exact ⟨_,z4⟩))
 have HSZ:=hideK (nmN_size i);go_wp2_with fail
 change bodyPost _ _ _ _ _ (st5 w4 w.heap.size 0 (.int .i64 9) (.int .i64 0) (.string (nmN i)) (.slice none 0 0) (.slice none 0 0))
 generalize st5 w4 w.heap.size 0 (.int .i64 9) (.int .i64 0) (.string (nmN i)) (.slice none 0 0) (.slice none 0 0)=W9 at *;obtain ⟨r0,r1,r2,r3,r4⟩:=HTA.out;simp only [Nat.zero_add,varT,List.length_nil]at r0 r1 r2 r3 r4;refine bodyPost_ret (v:=.agg #[.int .i64 9,.int .i64 0,.string (nmN i),.slice none 0 0,.slice none 0 0]) (by simp [results,Tryz.results54,go_sem,r0,r1,r2,r3,r4]) rfl ?_
 exact ⟨⟨none,0,none,0,0,rfl,⟨HSZ.out,(fun l hl=>by cases hl),nR _,by decide,nR _,by decide⟩,.inl rfl,rfl⟩,HF5.out,HB5.out⟩
theorem But3.drew{wb pb mb:Nat}{w W:World}(h:But3 wb pb mb w W):But3 wb pb mb w W.drew:=⟨h.os,h.tape,h.output,h.size,h.block⟩
structure TBX(w:World)(n:Nd)(la:OAd)(lc tb base:Nat)(u:Value)(k:Nat)(ts:List TTk)(W:World):Prop where
 r:RBX W w.heap.size
 o0:W.cell? ⟨tb,0,none⟩=some (.int .i64 n.kind)
 o1:W.cell? ⟨tb,1,none⟩=some (.int .i64 n.so)
 o2:W.cell? ⟨tb,2,none⟩=some (.string ⟨#[]⟩)
 o3:W.cell? ⟨tb,3,none⟩=some (.slice la n.labs.length lc)
 o4:W.cell? ⟨tb,4,none⟩=some u
 fo:∀o,W.frozen? ⟨tb,o,none⟩=false
 lp:LP W (fun b=>w.heap.size<b∧b<base∧b≠tb) n.labs la
 own:W.ownsRow base 37 5 u k (tCs ts)
 tok:TOK W (fun b=>base≤b∧b<W.heap.size∧u.ownBlock≠some b) ts
 ul:∀b,u.ownBlock=some b→base≤b∧b<W.heap.size
 l1:w.heap.size<tb
 l2:tb<base
 l3:base≤W.heap.size
theorem RBX.blk{W W':World}{b:Nat}(h:RBX W b)(hb:W'.heap[b]? = W.heap[b]?)(hs:W.heap.size≤W'.heap.size):RBX W' b :=
 have c:∀o,W'.cell? ⟨b,o,none⟩=W.cell? ⟨b,o,none⟩:=fun o=>World.cell?_of_block (a:=⟨b,o,none⟩) hb
 ⟨(c 0).trans h.c0,(c 1).trans h.c1,(c 2).trans h.c2,(c 3).trans h.c3,(c 4).trans h.c4,fun o=>(World.frozen?_of_block (a:=⟨b,o,none⟩) hb).trans (h.f o),nL h.lt hs⟩
theorem TBX.keep{w:World}{n:Nd}{la:OAd}{lc tb base:Nat}{u:Value}{k:Nat}{ts:List TTk}{W W':World}(h:TBX w n la lc tb base u k ts W)(hc:∀b,w.heap.size≤b→b<W.heap.size→W'.heap[b]? = W.heap[b]?)(hs:W.heap.size≤W'.heap.size):TBX w n la lc tb base u k ts W':=by
 have h1:=h.l1;have h2:=h.l2;have h3:=h.l3;have c:∀b o,w.heap.size≤b→b<W.heap.size→W'.cell? ⟨b,o,none⟩=W.cell? ⟨b,o,none⟩:=fun b o hb hb'=>World.cell?_of_block (a:=⟨b,o,none⟩) (hc b hb hb')
 refine ⟨h.r.blk (hc _ (nR _) (by omega)) hs,(c _ _ (by omega) (by omega)).trans h.o0,(c _ _ (by omega) (by omega)).trans h.o1,(c _ _ (by omega) (by omega)).trans h.o2,(c _ _ (by omega) (by omega)).trans h.o3,(c _ _ (by omega) (by omega)).trans h.o4,fun o=>(World.frozen?_of_block (a:=⟨tb,o,none⟩) (hc tb (by omega) (by omega))).trans (h.fo o),h.lp.keep (fun b o hb=>c b o (by omega) (by omega)) (fun _ hb=>hb),?_,h.tok.keep (fun b o hb=>c b o (by omega) hb.2.1) (fun b hb=>⟨hb.1,by omega,hb.2.2⟩),fun b e=>⟨(h.ul b e).1,by have:=(h.ul b e).2;omega⟩,h1,h2,by omega⟩
 refine ⟨h.own.1,h.own.2.imp id fun ⟨g,cp,cur,q1,q2,q3,q4⟩=>⟨g,cp,cur,q1,q2,?_,q4⟩⟩
 have hg:=h.ul g (by rw [q1];rfl)
 rw [hc g (by omega) hg.2]
 exact q3
theorem TBX.but{w:World}{n:Nd}{la:OAd}{lc tb base:Nat}{u:Value}{k:Nat}{ts:List TTk}{W W':World}(h:TBX w n la lc tb base u k ts W){wb pb mb:Nat}(h1:wb<w.heap.size)(h2:pb<w.heap.size)(h3:mb<w.heap.size)(hb:But3 wb pb mb W W'):TBX w n la lc tb base u k ts W' :=
 h.keep (fun b hb1 hb2=>hb.block b hb2 (by omega) (by omega) (by omega)) hb.size
theorem TBX.below{w:World}{n:Nd}{la:OAd}{lc tb base:Nat}{u:Value}{k:Nat}{ts:List TTk}{W W':World}(h:TBX w n la lc tb base u k ts W)(hb:Below W.heap.size W W'):TBX w n la lc tb base u k ts W' :=
 h.keep (fun b _ hb2=>hb.block b hb2) hb.size
theorem TBX.app{w:World}{n:Nd}{la:OAd}{lc tb base:Nat}{u:Value}{k:Nat}{ts:List TTk}{W2 W3 w7:World}{v7:Value}{x:TTk}{V:Nat}(h:TBX w n la lc tb base u k ts W2)(hb:Below W2.heap.size W2 W3)(hV:base≤V)(hu:∀b,u.ownBlock=some b→b<V)
  (hx:TyBd x.1 x.2.1.2 x.2.2.2∧LP W2 (fun b=>V≤b∧b<W2.heap.size) x.1.labels x.2.1.1∧∃d,KP W2 (fun b=>V≤b∧b<W2.heap.size) d x.1.kids x.2.2.1) (hg:W3.grownBy w7 u.ownBlock) (hO:w7.ownsRow base 37 5 v7 (k+1) (tCs ts++tC x)) (hat:v7.ownBlock=u.ownBlock∨v7.ownBlock=some W3.heap.size):TBX w n la lc tb base v7 (k+1) (ts++[x]) (w7.setCell ⟨tb,4,none⟩ v7):=by
 have h1:=h.l1;have h2:=h.l2;have h3:=h.l3;have hs3:=hb.size;have hs7:=hg.size;have hfr:∀b,b<W2.heap.size→u.ownBlock≠some b→v7.ownBlock≠some b:=fun b hb' hn e=>by
  rcases hat with q|q
  ·exact hn (q ▸ e)
  ·rw [q]at e;injection e with e;omega
 have hk:∀b,b<W2.heap.size→u.ownBlock≠some b→w7.heap[b]? = W2.heap[b]?:=fun b hb' hn=>(hg.block b (by omega) (fun e=>hn e.symm)).trans (hb.block b hb')
 have hnu:∀b,b<base→u.ownBlock≠some b:=fun b hb' e=>by have:=(h.ul b e).1;omega
 have c:∀b o,b<W2.heap.size→u.ownBlock≠some b→(b≠tb∨o≠4)→(w7.setCell ⟨tb,4,none⟩ v7).cell? ⟨b,o,none⟩=W2.cell? ⟨b,o,none⟩:=fun b o hb' hn hne=>(cell_set _ hne).trans (World.cell?_of_block (a:=⟨b,o,none⟩) (hk b hb' hn))
 have fz:∀b o,b<W2.heap.size→u.ownBlock≠some b→(w7.setCell ⟨tb,4,none⟩ v7).frozen? ⟨b,o,none⟩=W2.frozen? ⟨b,o,none⟩:=fun b o hb' hn=>(World.frozen?_setCell _ _ _ _).trans (World.frozen?_of_block (a:=⟨b,o,none⟩) (hk b hb' hn))
 have tbn:=hnu tb h2;have rn:=hnu w.heap.size (by omega)
 refine ⟨?_,(c _ _ (by omega) tbn (.inr (by omega))).trans h.o0,(c _ _ (by omega) tbn (.inr (by omega))).trans h.o1,(c _ _ (by omega) tbn (.inr (by omega))).trans h.o2,(c _ _ (by omega) tbn (.inr (by omega))).trans h.o3,World.cell?_setCell_same _ _ _ ((World.cell?_of_block (a:=⟨tb,4,none⟩) (hk tb (by omega) tbn)).trans h.o4),fun o=>(fz _ _ (by omega) tbn).trans (h.fo o),h.lp.keep (fun b o hb'=>c b o (by omega) (hnu b hb'.2.1) (.inl hb'.2.2)) (fun _ hb'=>hb'),?_,?_,?_,h1,h2,by simp;omega⟩
 ·have hr:=h.r
  exact ⟨(c _ _ (by omega) rn (.inl (by omega))).trans hr.c0,(c _ _ (by omega) rn (.inl (by omega))).trans hr.c1,(c _ _ (by omega) rn (.inl (by omega))).trans hr.c2,(c _ _ (by omega) rn (.inl (by omega))).trans hr.c3,(c _ _ (by omega) rn (.inl (by omega))).trans hr.c4,fun o=>(fz _ _ (by omega) rn).trans (hr.f o),by simp;omega⟩
 ·rw [tCs_snoc]
  refine ⟨hO.1,hO.2.imp id fun ⟨g,cp,cur,q1,q2,q3,q4⟩=>⟨g,cp,cur,q1,q2,?_,q4⟩⟩
  rw [Below.heap_setCell _ _ _ g (fun e=>by have e:g=tb:=e;omega)]
  exact q3
 ·intro q hq
  have hsz:(w7.setCell ⟨tb,4,none⟩ v7).heap.size=w7.heap.size:=by simp
  rw [hsz];rcases List.mem_append.1 hq with hq|hq
  ·refine h.tok.keep (W':=w7.setCell ⟨tb,4,none⟩ v7) (fun b o hb'=>c b o hb'.2.1 hb'.2.2 (.inl (by omega))) (fun b hb'=>⟨hb'.1,by omega,hfr b hb'.2.1 hb'.2.2⟩) q hq
  ·obtain rfl:=List.mem_singleton.1 hq
   have k0:∀b,V≤b→u.ownBlock≠some b:=fun b hb' e=>by have:=hu b e;omega
   have k1:∀b o,(V≤b∧b<W2.heap.size)→(w7.setCell ⟨tb,4,none⟩ v7).cell? ⟨b,o,none⟩=W2.cell? ⟨b,o,none⟩:=fun b o hb'=>c b o hb'.2 (k0 b hb'.1) (.inl (by omega))
   have k2:∀b,(V≤b∧b<W2.heap.size)→(base≤b∧b<w7.heap.size∧v7.ownBlock≠some b):=fun b hb'=>⟨by omega,by omega,hfr b hb'.2 (k0 b hb'.1)⟩
   obtain ⟨d,hd⟩:=hx.2.2;exact ⟨hx.1,hx.2.1.keep k1 k2,d,hd.keep k1 k2⟩
 ·intro b e
  have hsz:(w7.setCell ⟨tb,4,none⟩ v7).heap.size=w7.heap.size:=by simp
  rw [hsz];rcases hO.2 with ⟨q,_⟩|⟨g,cp,cur,q1,q2,q3,q4⟩
  ·rw [q]at e;cases e
  ·rw [q1]at e
   injection e with e
   have e:g=b:=e;subst e;exact ⟨q2,(Array.getElem?_eq_some_iff.1 q3).1⟩
def phiB(p:Nat):Nat:=p+8*(61 - p)
theorem bkL_phi{F:Nat→SB→Ty × SB}(h:∀j st,phiB (F j st).2.2≤phiB st.2+1):∀(tos:List Nat) (a:List Ty × SB),phiB (bkL F tos a).2.2≤phiB a.2.2+tos.length
 | [],_=>nR _
 | j::tos,a=>by
  rw [bkL_cons,List.length_cons];have h1:=bkL_phi h tos (stB F a j);have h2:phiB (stB F a j).2.2≤phiB a.2.2+1:=h j a.2;omega
theorem bk_phi(g:List Nd)(hg:∀i,(nodeAt g i).to.length≤6):∀(f:Nat) (ps:Nat→Bool) (i:Nat) (st:SB),phiB (bkT g f ps i st).2.2≤phiB st.2+1
 | 0,_,_,_=>Nat.le_succ _
 | f+1,ps,i,st=>by
  have hL:=bkL_phi (bk_phi g hg f (upB ps i true)) (nodeAt g i).to ([],(upB st.1 i false,st.2+1));have hL':phiB (bkL (bkT g f (upB ps i true)) (nodeAt g i).to ([],(upB st.1 i false,st.2+1))).2.2≤phiB (st.2+1)+(nodeAt g i).to.length:=hL;have h6:=hg i;rw [bkT];split
  ·show phiB (st.2+1)≤phiB st.2+1
   unfold phiB;omega
  ·rename_i h60
   split
   ·show phiB (st.2+1)≤phiB st.2+1
    unfold phiB;omega
   ·generalize bkL (bkT g f (upB ps i true)) (nodeAt g i).to ([],(upB st.1 i false,st.2+1))=L at *
    split
    ·show phiB (L.2.2+1)≤phiB st.2+1
     unfold phiB at *;omega
    ·show phiB L.2.2≤phiB st.2+1
     unfold phiB at *;omega
theorem to6{g:List Nd}(hg:GN g)(i:Nat):(nodeAt g i).to.length≤6:=by
 by_cases hi:i<g.length
 ·exact (shp_len (okN_shp (hg.at_ hi))).2.1
 ·have:nodeAt g i=nd0:=by unfold nodeAt;rw [List.getElem?_eq_none (by omega)];rfl
  rw [this];decide
theorem But3.bel{wb pb mb B:Nat}{w W:World}(h:But3 wb pb mb w W)(h0:B≤w.heap.size)(h1:B≤wb)(h2:B≤pb)(h3:B≤mb):Below B w W:=⟨h.os,h.tape,h.output,h.size,fun b hb=>h.block b (by omega) (by omega) (by omega) (by omega)⟩
structure NBX(w:World)(nd:Nd)(al:OAd)(cl:Nat)(at1:OAd)(ct nb wb pb mb n:Nat)(ag:OAd)(cg:Nat)(ps:Nat→Bool)(st:SB)(W:World):Prop where
 n0:W.cell? ⟨nb,0,none⟩=some (.int .i64 nd.kind)
 n1:W.cell? ⟨nb,1,none⟩=some (.int .i64 nd.so)
 n2:W.cell? ⟨nb,2,none⟩=some (.slice al nd.labs.length cl)
 n3:W.cell? ⟨nb,3,none⟩=some (.slice at1 nd.to.length ct)
 wy:WY n ag cg wb pb mb ps st W
 b3:But3 wb pb mb w W
 r:RBX W w.heap.size
 l1:w.heap.size<nb
 l2:nb<W.heap.size
theorem NBX.keep{w:World}{nd:Nd}{al:OAd}{cl:Nat}{at1:OAd}{ct nb wb pb mb n:Nat}{ag:OAd}{cg:Nat}{ps:Nat→Bool}{st:SB}{W W':World}(h:NBX w nd al cl at1 ct nb wb pb mb n ag cg ps st W)(hb:Below W.heap.size W W'):NBX w nd al cl at1 ct nb wb pb mb n ag cg ps st W' :=
 ⟨(hb.cell (p:=⟨nb,0,none⟩) h.l2).trans h.n0,(hb.cell (p:=⟨nb,1,none⟩) h.l2).trans h.n1,(hb.cell (p:=⟨nb,2,none⟩) h.l2).trans h.n2,(hb.cell (p:=⟨nb,3,none⟩) h.l2).trans h.n3,h.wy.keep hb,h.b3.trans (But3.below hb),h.r.keep hb,h.l1,nL h.l2 hb.size⟩
structure ZTX(W:World)(b:Nat):Prop where
 z0:W.cell? ⟨b,0,none⟩=some (.int .i64 0)
 z1:W.cell? ⟨b,1,none⟩=some (.int .i64 0)
 z2:W.cell? ⟨b,2,none⟩=some (.string ⟨#[]⟩)
 z3:W.cell? ⟨b,3,none⟩=some (.slice none 0 0)
 z4:W.cell? ⟨b,4,none⟩=some (.slice none 0 0)
 zf:∀o,W.frozen? ⟨b,o,none⟩=false
theorem ZTX.new(w:World):ZTX (w.alloc (.cells #[.int .i64 0,.int .i64 0,.string ⟨#[]⟩,.slice none 0 0,.slice none 0 0] 37)) w.heap.size:=⟨by go_cell,by go_cell,by go_cell,by go_cell,by go_cell,fun o=>by go_simp⟩
theorem ZTX.keep{W W':World}{b:Nat}(h:ZTX W b)(hb:Below W.heap.size W W')(hl:b<W.heap.size):ZTX W' b :=
 ⟨(hb.cell (p:=⟨b,0,none⟩) hl).trans h.z0,(hb.cell (p:=⟨b,1,none⟩) hl).trans h.z1,(hb.cell (p:=⟨b,2,none⟩) hl).trans h.z2,(hb.cell (p:=⟨b,3,none⟩) hl).trans h.z3,(hb.cell (p:=⟨b,4,none⟩) hl).trans h.z4,fun o=>(hb.frozen (p:=⟨b,o,none⟩) hl).trans (h.zf o)⟩
theorem NBX.st{w:World}{nd:Nd}{al:OAd}{cl:Nat}{at1:OAd}{ct nb wb pb mb n:Nat}{ag:OAd}{cg:Nat}{ps:Nat→Bool}{st:SB}{W:World}(h:NBX w nd al cl at1 ct nb wb pb mb n ag cg ps st W)(h1:wb<w.heap.size)(h2:pb<w.heap.size)(h3:mb<w.heap.size){b:Nat}(hb:w.heap.size<b)(hn:b≠nb)(v0 v1 v2 v3 v4:Value):NBX w nd al cl at1 ct nb wb pb mb n ag cg ps st (st5 W b 0 v0 v1 v2 v3 v4):=by
 have c:∀b' o,b'≠b→(st5 W b 0 v0 v1 v2 v3 v4).cell? ⟨b',o,none⟩=W.cell? ⟨b',o,none⟩:=fun b' o q=>st5_other _ _ _ _ _ _ _ _ _ _ (.inl q)
 exact ⟨(c _ _ hn.symm).trans h.n0,(c _ _ hn.symm).trans h.n1,(c _ _ hn.symm).trans h.n2,(c _ _ hn.symm).trans h.n3,h.wy.st (by omega) (by omega) (by omega) _ _ _ _ _,h.b3.st (by omega) _ _ _ _ _,⟨(c _ _ (by omega)).trans h.r.c0,(c _ _ (by omega)).trans h.r.c1,(c _ _ (by omega)).trans h.r.c2,(c _ _ (by omega)).trans h.r.c3,(c _ _ (by omega)).trans h.r.c4,fun o=>(st5_frozen _ _ _ _ _ _ _ _ _).trans (h.r.f o),by rw [st5_size];exact h.r.lt⟩,h.l1,by rw [st5_size];exact h.l2⟩
theorem TBX.make{w:World}{nd:Nd}{la:OAd}{lc tb:Nat}{V:World}(hz:ZTX V tb)(hr:RBX V w.heap.size)(hl:LP V (fun b=>w.heap.size<b∧b<V.heap.size∧b≠tb) nd.labs la)(h1:w.heap.size<tb)(h2:tb<V.heap.size):TBX w nd la lc tb V.heap.size (.slice none 0 0) 0 [] (st5 V tb 0 (.int .i64 nd.kind) (.int .i64 nd.so) (.string ⟨#[]⟩) (.slice la nd.labs.length lc) (.slice none 0 0)):=by
 have ta:=st5_at V tb 0 (ndT nd []) la lc none 0 (fun j hj=>by
  rw [Nat.zero_add];have:j=0∨j=1∨j=2∨j=3∨j=4:=by omega
  rcases this with rfl|rfl|rfl|rfl|rfl
  ·exact ⟨_,hz.z0⟩
  ·exact ⟨_,hz.z1⟩
  ·exact ⟨_,hz.z2⟩
  ·exact ⟨_,hz.z3⟩
  ·exact ⟨_,hz.z4⟩)
 obtain ⟨t0,t1,t2,t3,t4⟩:=ta;have c:∀b' o,b'≠tb→(st5 V tb 0 (.int .i64 nd.kind) (.int .i64 nd.so) (.string ⟨#[]⟩) (.slice la nd.labs.length lc) (.slice none 0 0)).cell? ⟨b',o,none⟩=V.cell? ⟨b',o,none⟩:=fun b' o q=>st5_other _ _ _ _ _ _ _ _ _ _ (.inl q)
 refine ⟨⟨(c _ _ (by omega)).trans hr.c0,(c _ _ (by omega)).trans hr.c1,(c _ _ (by omega)).trans hr.c2,(c _ _ (by omega)).trans hr.c3,(c _ _ (by omega)).trans hr.c4,fun o=>(st5_frozen _ _ _ _ _ _ _ _ _).trans (hr.f o),by rw [st5_size];exact hr.lt⟩,t0,t1,t2,t3,t4,fun o=>(st5_frozen _ _ _ _ _ _ _ _ _).trans (hz.zf o),hl.keep (fun b o hb=>c b o hb.2.2) (fun _ hb=>hb),World.ownsRow_nil _ _ _ _,fun q hq=>(by cases hq),fun b e=>(by cases e),h1,h2,by rw [st5_size];exact nR _⟩
theorem lp_own{W:World}{base:Nat}{ls:List ByteArray}{la:OAd}{lc:Nat}{P:Nat→Prop}(hO:W.ownsRow base 9 1 (.slice la ls.length lc) ls.length (ls.map Value.string))(hP:∀b,base≤b→b<W.heap.size→P b):LP W P ls la:=by
 rcases own_cells hO with ⟨_,_,e⟩|⟨gg,cp,e1,hb1,hg1,hc1⟩
 ·exact .inl (List.map_eq_nil_iff.1 e)
 ·injection e1 with e1 _ _
  refine .inr ⟨gg,0,e1,hP gg hb1 hg1,fun i hi=>?_⟩
  rw [Nat.zero_add];exact hc1 i _ (by rw [List.getElem?_map,List.getElem?_eq_getElem hi];rfl)
end Go.Proofs.YtmamabhhgfcjcaaGreatDoor
