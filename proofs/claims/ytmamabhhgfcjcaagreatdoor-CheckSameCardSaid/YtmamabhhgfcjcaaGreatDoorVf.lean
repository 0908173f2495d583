/-
  The search of package ways in memory, for the places of below.place: a map of those that are known, and the row of arrivals.
-/
import Derived.Test.YtmamabhhgfcjcaaGreatDoorHs
set_option maxRecDepth 100000
set_option maxHeartbeats 4000000
namespace Go.Proofs.YtmamabhhgfcjcaaGreatDoor
open Go.RowKit Go.Shelf
def pkB(p:Pl):Value:=.agg #[.int .i64 (p.1:Int),.int .i64 (p.2.1:Int),.bool p.2.2]
theorem pkB_inj{p q:Pl}(h:pkB p=pkB q):p=q:=by
 simp [pkB]at h;exact Prod.ext (by omega) (Prod.ext (by omega) h.2.2)
theorem keyLawB:WideMaps.KeyLaw Tryz.prog 119:=deep_law_laid (m:=3) laidOutG (by decide) (of_decide_eq_true (by kernel_rfl)) (by kernel_rfl) (by kernel_rfl)
def smB(p:Pl):Prop:=p.1≤1000000∧p.2.1≤1000000
theorem key_ofB(p:Pl)(h:smB p):∃l,keyOf Tryz.prog 119 (pkB p)=some l:=by
 have hm:Tryz.prog.types.size+1=(Tryz.prog.types.size - 1)+2:=by kernel_rfl
 have c0:Tryz.prog.cellsOf 119=3:=by kernel_rfl
 have c3:Tryz.prog.cellsOf 3=1:=by kernel_rfl
 have c4:Tryz.prog.cellsOf 4=1:=by kernel_rfl
 have kt:Tryz.prog.keyType 119=true:=by kernel_rfl
 unfold keyOf pkB;rw [hm];generalize Tryz.prog.types.size - 1=d;have e3:=kl_int d (p.1:Int) (by unfold in64z;have:=h.1;omega)
 have e4:=kl_int d (p.2.1:Int) (by unfold in64z;have:=h.2;omega)
 have e5:Tryz.prog.keyLits (d+1) 4 [.bool p.2.2]=some [.bool p.2.2]:=by simp [Program.keyLits,Tryz.underlying4]
 rw [Tryz.underlying119];simp only;rw [if_pos]
 ·rw [Program.keyLits.eq_def]
  simp only [Tryz.underlying119];simp [c0,c3,c4,Value.cells,e3,e4,e5]
 ·rw [kt]
  simp [Value.formed];exact c0.symm
def MPB(W:World)(mb:Nat)(ps:List Pl):Prop:=∃es clock,W.heap[mb]? = some (.map es clock)∧es.size=ps.length∧∀i (h:i<ps.length),∃e,es[i]? = some e∧e.key=pkB ps[i]∧e.val = .agg #[]
theorem mpB_keys{ps:List Pl}{es:Array MapEntry}(hsz:es.size=ps.length)(hes:∀i (h:i<ps.length),∃e,es[i]? = some e∧e.key=pkB ps[i]∧e.val = .agg #[])(hk:∀p∈ps,smB p):∀e∈es.toList,∃l,keyOf Tryz.prog 119 e.key=some l:=by
 intro e he;obtain ⟨i,hi,rfl⟩:=List.mem_iff_getElem.1 he;have hi':i<ps.length:=by rw [← hsz];simpa using hi
 obtain ⟨e',h1,h2,_⟩:=hes i hi';have:es.toList[i]=e':=by
  have h3:es[i]? = some es.toList[i]:=by
   rw [← Array.getElem?_toList];exact List.getElem?_eq_getElem hi
  rw [h3]at h1;exact Option.some.inj h1
 rw [this,h2];exact key_ofB _ (hk _ (List.getElem_mem hi'))
theorem lookB_in{W:World}{mb:Nat}{ps:List Pl}(hm:MPB W mb ps)(hk:∀p∈ps,smB p){p:Pl}(hp:p∈ps):
  (Instr.lookup 228 (.map (some mb)) (pkB p) true).run Tryz.prog W = .ok (.tuple #[.agg #[],.bool true]) W:=by
 obtain ⟨es,clock,hb,hsz,hes⟩:=hm;have K:=keyLawB;obtain ⟨kl,hkey⟩:=key_ofB p (hk p hp);rcases K.find W hkey es.toList (mpB_keys hsz hes hk) with ⟨h1,h2⟩|⟨i,e0,h1,h2,h3⟩
 ·obtain ⟨j,hj,e⟩:=List.mem_iff_getElem.1 hp
  obtain ⟨e,he,hek,_⟩:=hes j hj;exact absurd (hek.trans (by rw [‹ps[j]=p›])) (h2 e (by rw [Array.mem_toList_iff,Array.mem_iff_getElem?];exact ⟨j,he⟩))
 ·have hil:i<ps.length:=by
   have:=(List.getElem?_eq_some_iff.1 h2).1;rw [← hsz];simpa using this
  obtain ⟨e,he,hek,hev⟩:=hes i hil;have:e=e0:=by rw [← Array.getElem?_toList]at he;rw [he]at h2;exact Option.some.inj h2
  subst this;rw [hev]at h1;simp [Instr.lookup,run_underlying Tryz.underlying228,MapKept.run_getObj_map hb,K.check W _ hkey,h1,Result.andThen]
theorem lookB_out{W:World}{mb:Nat}{ps:List Pl}(hm:MPB W mb ps)(hk:∀p∈ps,smB p){p:Pl}(hs:smB p)(hp:p ∉ ps):
  (Instr.lookup 228 (.map (some mb)) (pkB p) true).run Tryz.prog W = .ok (.tuple #[.agg #[],.bool false]) W ∧
  ∃W',(Instr.mapUpdate 228 (.map (some mb)) (pkB p) (.agg #[])).run Tryz.prog W = .ok () W'∧W.grownBy W' (some mb)∧W'.heap.size=W.heap.size∧MPB W' mb (ps++[p]):=by
 obtain ⟨es,clock,hb,hsz,hes⟩:=hm;have K:=keyLawB;obtain ⟨kl,hkey⟩:=key_ofB p hs;rcases K.find W hkey es.toList (mpB_keys hsz hes hk) with ⟨h1,h2⟩|⟨i,e0,h1,h2,h3⟩
 ·refine ⟨by simp [Instr.lookup,run_underlying Tryz.underlying228,MapKept.run_getObj_map hb,K.check W _ hkey,h1,Result.andThen],{ W with heap:=W.heap.setIfInBounds mb (.map (es.push { key:=pkB p,val:=.agg #[],born:=clock }) (clock+1)) },?_,?_⟩
  ·simp [Instr.mapUpdate,run_underlying Tryz.underlying228,MapKept.run_getObj_map hb,K.check W _ hkey,h1,MapKept.run_setObj_map _ hb,Result.andThen]
  ·refine ⟨⟨rfl,rfl,rfl,by simp,fun k hk' hne=>(MapKept.heap_set hb).2 k (fun e=>hne (by rw [e]))⟩,by simp,_,_,(MapKept.heap_set hb).1,by simp [hsz],fun i hi=>?_⟩
   by_cases hi':i<ps.length
   ·obtain ⟨e,he,hek,hev⟩:=hes i hi'
    refine ⟨e,?_,by rw [List.getElem_append_left hi'];exact hek,hev⟩
    rw [Array.getElem?_push,if_neg (by omega)];exact he
   ·obtain rfl:i=ps.length:=by simp at hi;omega
    exact ⟨_,by rw [Array.getElem?_push,if_pos hsz.symm],by simp,rfl⟩
 ·exfalso
  have hil:i<ps.length:=by
   have:=(List.getElem?_eq_some_iff.1 h2).1;rw [← hsz];simpa using this
  obtain ⟨e,he,hek,hev⟩:=hes i hil;have:e=e0:=by rw [← Array.getElem?_toList]at he;rw [he]at h2;exact Option.some.inj h2
  subst this;have:pkB ps[i]=pkB p:=by rw [← h3,hek]
  exact hp (by rw [← pkB_inj this];exact List.getElem_mem hil)
theorem MPB.new(W:World):MPB (W.alloc (.map #[] 0)) W.heap.size []:=⟨_,_,heap_alloc_new W _,rfl,fun _ h=>absurd h (Nat.not_lt_zero _)⟩
theorem MPB.blk{W W':World}{mb:Nat}{ps:List Pl}(hm:MPB W mb ps)(h:W'.heap[mb]? = W.heap[mb]?):MPB W' mb ps:=by
 obtain ⟨es,clock,hb,hsz,hes⟩:=hm;exact ⟨es,clock,h.trans hb,hsz,hes⟩
theorem MPB.lt{W:World}{mb:Nat}{ps:List Pl}(hm:MPB W mb ps):mb<W.heap.size:=by
 obtain ⟨es,clock,hb,_⟩:=hm;exact (Array.getElem?_eq_some_iff.1 hb).1
def aCB(v:Ag Pl):List Value:=[.int .i64 (v.1.2.1:Int),.int .i64 (v.1.2.2.1:Int),.bool v.1.2.2.2,.string v.1.1,.int .i64 (v.2:Int)]
def avB(arr:List (Ag Pl)):List Value:=arr.flatMap aCB
theorem aCB_one(v:Ag Pl):∀y∈aCB v,y.oneCell'=true:=by
 intro y hy;simp only [aCB,List.mem_cons,List.not_mem_nil,or_false]at hy;rcases hy with rfl|rfl|rfl|rfl|rfl <;> rfl
theorem avB_snoc(arr:List (Ag Pl))(v:Ag Pl):avB (arr++[v])=avB arr++aCB v:=by simp [avB]
theorem avB_at:∀(ss:List (Ag Pl)) (i:Nat) (h:i<ss.length) (j:Nat),j<5→(avB ss)[i*5+j]? = (aCB ss[i])[j]?
 | [],i,h,_,_=>by simp at h
 | s::ss,0,_,j,hj=>by
  have e:avB (s::ss)=aCB s++avB ss:=rfl;rw [e,List.getElem?_append_left (by simp [aCB];omega)]
  simp
 | s::ss,i+1,h,j,hj=>by
  have e:avB (s::ss)=aCB s++avB ss:=rfl;have hl:(aCB s).length=5:=rfl;rw [e,List.getElem?_append_right (by rw [hl];omega),hl,show (i+1)*5+j - 5=i*5+j by omega]
  exact avB_at ss i (by simpa using h) j hj
theorem infoAvB:(Tryz.prog.info? 230).map (fun i=>(i.zero,i.size,i.bytes))=some (some (.agg #[.int .i64 0,.int .i64 0,.bool false,.string ⟨#[]⟩,.int .i64 0]),5,48):=by kernel_rfl
structure SVB(w0:World)(sb mb:Nat)(ps:List Pl)(arr:List (Ag Pl))(u:Value)(W:World):Prop where
 c0:W.cell? ⟨sb,0,none⟩=some (.map (some mb))
 c1:W.cell? ⟨sb,1,none⟩=some u
 f1:W.frozen? ⟨sb,1,none⟩=false
 mp:MPB W mb ps
 own:W.ownsRow w0.heap.size 230 5 u arr.length (avB arr)
 ns:sb≠mb
 hs:w0.heap.size≤sb
 hm:w0.heap.size≤mb
 us:u.ownBlock≠some sb
 um:u.ownBlock≠some mb
 ls:sb<W.heap.size
 bl:Below w0.heap.size w0 W
abbrev SWB(w0:World)(sb mb:Nat)(arr:List (Ag Pl))(u:Value)(W:World):Prop:=SVB w0 sb mb (plG arr) arr u W
theorem SVB.kept{w0:World}{sb mb:Nat}{ps:List Pl}{arr:List (Ag Pl)}{u:Value}{W W':World}(h:SVB w0 sb mb ps arr u W)(hb:Below W.heap.size W W'):SVB w0 sb mb ps arr u W' :=
 ⟨(hb.cell (p:=⟨sb,0,none⟩) h.ls).trans h.c0,(hb.cell (p:=⟨sb,1,none⟩) h.ls).trans h.c1,(hb.frozen (p:=⟨sb,1,none⟩) h.ls).trans h.f1,h.mp.blk (hb.block mb h.mp.lt),own_belowG h.own hb,h.ns,h.hs,h.hm,h.us,h.um,nL h.ls hb.size,h.bl.trans (hb.mono h.bl.size)⟩
theorem SVB.at_{w0:World}{sb mb:Nat}{ps:List Pl}{arr:List (Ag Pl)}{u:Value}{W:World}(h:SVB w0 sb mb ps arr u W){k:Nat}(hk:k<arr.length):∃b c,u = .slice (some ⟨b,0,none⟩) arr.length c∧u.ownBlock=some b∧b<W.heap.size∧∀j y,(aCB arr[k])[j]? = some y→W.cell? ⟨b,k*5+j,none⟩=some y:=by
 rcases own_cells h.own with ⟨rfl,h0,_⟩|⟨g,cap,rfl,_,hg,hc⟩
 ·omega
 ·refine ⟨g,cap,rfl,rfl,hg,fun j y hy=>?_⟩
  have hj:j<5:=(List.getElem?_eq_some_iff.1 hy).1;exact hc _ _ ((avB_at arr k hk j hj).trans hy)
theorem SVB.upd{w0:World}{sb mb:Nat}{ps ps':List Pl}{arr:List (Ag Pl)}{u:Value}{W W':World}(h:SVB w0 sb mb ps arr u W)(hg:W.grownBy W' (some mb))(hm:MPB W' mb ps'):SVB w0 sb mb ps' arr u W':=by
 have hk:∀b,b<W.heap.size→b≠mb→W'.heap[b]? = W.heap[b]?:=fun b hb hn=>hg.block b hb (fun e=>hn (by injection e))
 refine ⟨(World.cell?_of_block (a:=⟨sb,0,none⟩) (hk sb h.ls h.ns)).trans h.c0,(World.cell?_of_block (a:=⟨sb,1,none⟩) (hk sb h.ls h.ns)).trans h.c1,(World.frozen?_of_block (a:=⟨sb,1,none⟩) (hk sb h.ls h.ns)).trans h.f1,hm,?_,h.ns,h.hs,h.hm,h.us,h.um,nL h.ls hg.size,?_⟩
 ·refine ⟨h.own.1,h.own.2.imp id fun ⟨g,c,cur,e1,hb,hc,r⟩=>⟨g,c,cur,e1,hb,?_,r⟩⟩
  rw [hk g (Array.getElem?_eq_some_iff.1 hc).1 (fun e=>h.um (by rw [e1,← e];rfl))]
  exact hc
 ·refine h.bl.trans ⟨hg.os,hg.tape,hg.output,hg.size,fun b hb=>hk b (nL hb h.bl.size) (by have:=h.hm;omega)⟩
theorem SVB.put{w0:World}{sb mb:Nat}{ps:List Pl}{arr:List (Ag Pl)}{u v7:Value}{V w7:World}{ob:Obj}{s:Sg Pl}{k:Nat}(h:SVB w0 sb mb ps arr u V)(hps:ps=plG arr++[s.2])
  (hg:(V.alloc ob).grownBy w7 u.ownBlock) (hO:w7.ownsRow w0.heap.size 230 5 v7 (arr.length+1) (avB arr++aCB (s,k))) (hat:v7.ownBlock=u.ownBlock∨v7.ownBlock=some (V.alloc ob).heap.size) :
  SWB w0 sb mb (arr++[(s,k)]) v7 (w7.setCell ⟨sb,1,none⟩ v7)∧RF mb sb u.ownBlock V (w7.setCell ⟨sb,1,none⟩ v7)∧(v7.ownBlock=u.ownBlock∨∀j,v7.ownBlock=some j→V.heap.size≤j):=by
 have hsz:(V.alloc ob).heap.size=V.heap.size+1:=by simp
 have hk:∀b,b<V.heap.size→some b≠u.ownBlock→w7.heap[b]? = V.heap[b]?:=fun b hb hn=>(hg.block b (by omega) hn).trans (heap_alloc_old V ob hb)
 have hS:=hk sb h.ls (fun e=>h.us e.symm)
 have hM:=hk mb h.mp.lt (fun e=>h.um e.symm)
 have hs7:=hg.size;have hfr:v7.ownBlock=u.ownBlock∨∀j,v7.ownBlock=some j→V.heap.size≤j:=hat.imp id fun e j hj=>by rw [e]at hj;injection hj with hj;omega
 have hne:∀b,b<V.heap.size→u.ownBlock≠some b→v7.ownBlock≠some b:=fun b hb hn e=>by
  rcases hfr with q|q
  ·exact hn (q ▸ e)
  ·have:=q b e;omega
 have hus:=hne sb h.ls h.us;have hum:=hne mb h.mp.lt h.um;refine ⟨⟨?_,World.cell?_setCell_same _ _ _ ((World.cell?_of_block (a:=⟨sb,1,none⟩) hS).trans h.c1),(World.frozen?_setCell _ _ _ _).trans ((World.frozen?_of_block (a:=⟨sb,1,none⟩) hS).trans h.f1),?_,?_,h.ns,h.hs,h.hm,hus,hum,by simp;have:=h.ls;omega,?_⟩,?_,hfr⟩
 ·rw [World.cell?_setCell_other _ _ _ _ (by intro e;injection e with _ e;cases e)]
  exact (World.cell?_of_block (a:=⟨sb,0,none⟩) hS).trans h.c0
 ·have e:plG (arr++[(s,k)])=ps:=by rw [hps];simp [plG]
  rw [e];exact h.mp.blk ((Below.heap_setCell _ _ _ mb (fun e=>h.ns e.symm)).trans hM)
 ·rw [avB_snoc,List.length_append]
  refine ⟨hO.1,hO.2.imp id fun ⟨g,c,cur,e1,hb,hc,r⟩=>⟨g,c,cur,e1,hb,?_,r⟩⟩
  rw [Below.heap_setCell _ _ _ g (fun e=>hus (by have e:g=sb:=e;rw [e1,e];rfl))]
  exact hc
 ·refine ⟨hg.os.trans h.bl.os,hg.tape.trans h.bl.tape,hg.output.trans h.bl.output,by simp;have:=h.bl.size;omega,fun b hb=>?_⟩
  rw [Below.heap_setCell _ _ _ b (fun e=>by have e:b=sb:=e;have:=h.hs;omega),hk b (nL hb h.bl.size) (fun e=>by have:=(h.own.lt b e.symm).1;omega)]
  exact h.bl.block b hb
 ·refine ⟨hg.os,hg.tape,hg.output,by simp;omega,fun b hb h1 h2 h3=>?_⟩
  rw [Below.heap_setCell _ _ _ b (fun e=>h2 e)]
  exact hk b hb h3
theorem RF.drewLB{fb rb:Nat}{row:Option Nat}{w w':World}(h:RF fb rb row w.drew w'):RF fb rb row w w':=⟨h.os,h.tape,h.output,h.size,h.block⟩
def PBB(bx:Nat)(p:Pl)(W:World):Prop:=W.cell? ⟨bx,0,none⟩=some (.int .i64 (p.1:Int))∧W.cell? ⟨bx,1,none⟩=some (.int .i64 (p.2.1:Int))∧W.cell? ⟨bx,2,none⟩=some (.bool p.2.2)
theorem PBB.keep{bx:Nat}{p:Pl}{W W':World}(h:PBB bx p W)(hb:∀o,W'.cell? ⟨bx,o,none⟩=W.cell? ⟨bx,o,none⟩):PBB bx p W':=⟨(hb 0).trans h.1,(hb 1).trans h.2.1,(hb 2).trans h.2.2⟩
theorem stepUpdB{P:Program}{w w':World}{ops:Array Oper}{o:Oper}{a:Act}{K:Act→World→Prop}{Q:Exit→Act→World→Prop}{E:Prop}(hgd:o.guard=none)(m x y:Operand)(t:TypeId)(ho:o.op=Op.mapUpdate t m x y∨o.op=Op.insert t m x y){mv key v:Value}
  (hm:a.eval m=mv) (hx:a.eval x=key) (hy:a.eval y=v) (hrun:(Instr.mapUpdate t mv key v).run P w = .ok () w') (h:K (a.put o.dst undef) w'):if Region.wanted o (yielded ops a.tmps)=true then Oper.wp P o a w K Q else E:=by
 have hw:Region.wanted o (yielded ops a.tmps)=true:=by simp [Region.wanted,hgd]
 rw [if_pos hw];unfold Oper.wp;rcases ho with ho|ho <;> (simp [execOp,ho,hm,hx,hy,hrun,Result.andThen];exact h)
theorem stepB_any(w0:World)(sb mb:Nat)(arr:List (Ag Pl))(u:Value)(wd:ByteArray)(p:Pl)(k:Nat)(w:World)(hs:SWB w0 sb mb arr u w)(hl:arr.length≤1000000)(hsm:∀q∈plG arr,smB q)(hp:smB p):
  Calls Tryz.prog 145 #[.pointer (some ⟨sb,0,none⟩),.int .i64 (k:Int),.string wd,pkB p] w fun e w'=>e = .returned (.tuple #[])∧∃u',SWB w0 sb mb (addG arr (wd,p) k) u' w'∧RF mb sb u.ownBlock w w'∧(u'.ownBlock=u.ownBlock∨∀j,u'.ownBlock=some j→w.heap.size≤j):=by
 obtain ⟨pa,pb,tt⟩:=p;obtain ⟨i1,hj,hy0,hy1,hy2⟩:=info_parts infoAvB;have hA:Below w.heap.size w (w.alloc (.cells #[.int .i64 (pa:Int),.int .i64 (pb:Int),.bool tt] 119)):=(bR _ _).alloc (nR _) _;have sA:=hs.kept hA;have bA:PBB w.heap.size (pa,pb,tt) (w.alloc (.cells #[.int .i64 (pa:Int),.int .i64 (pb:Int),.bool tt] 119)):=⟨by go_cell,by go_cell,by go_cell⟩
 have hsz:(w.alloc (.cells #[.int .i64 (pa:Int),.int .i64 (pb:Int),.bool tt] 119)).heap.size=w.heap.size+1:=by simp
 have hlt:=hs.ls;have hlm:=hs.mp.lt;have hown:=fun b (e:u.ownBlock=some b)=>(hs.own.lt b e).2
 have HOW:=hideK hown;have HA:=hideK hA;have HSA:=hideK sA;have HBA:=hideK bA;clear hown;by_cases hm:((pa,pb,tt):Pl)∈plG arr
 ·have HLK:=hideK (fun (W:World) (h:MPB W mb (plG arr))=>lookB_in h hsm hm)
  simp only [pkB]at HLK ⊢;have HAD:=hideK (show addG arr (wd,(pa,pb,tt)) k=arr from if_pos hm)
  clear hA sA bA hm hs;go_enter Tryz.func145,Tryz.ntmps145
  go_wp2_with fail
  generalize (w.alloc (.cells #[.int .i64 (pa:Int),.int .i64 (pb:Int),.bool tt] 119))=V at *;refine wp_region_held_drew (S:=(fun W:World=>PBB w.heap.size (pa,pb,tt) W∧W.cell? ⟨sb,0,none⟩=some (.map (some mb))∧MPB W mb (plG arr))) (by kernel_rfl) ⟨HBA.out,HSA.out.c0,HSA.out.mp⟩ (fun hS=>?_)
  refine tkZ 0 (.pointer (some ⟨sb,0,none⟩)) hS ?_;refine tkZ 1 (.pointer (some ⟨sb,0,none⟩)) hS ?_;refine tkZ 2 (.pointer (some ⟨sb,0,none⟩)) hS ?_;refine tkH 3 (.map (some mb)) hS ?_ (hy:=Or.inl ⟨by rfl,fun W hW=>by have x0:=hW.2.1;go_simp⟩)
  simp only [Act.put,sA,sB,sC];refine tkH 4 (.agg #[.int .i64 (pa:Int),.int .i64 (pb:Int),.bool tt]) hS ?_ (hy:=Or.inl ⟨by rfl,fun W hW=>by obtain ⟨⟨x0,x1,x2⟩,_⟩:=hW;go_simp⟩)
  simp only [Act.put,sA,sB,sC];refine tkH 5 (.tuple #[.agg #[],.bool true]) hS ?_ (hy:=Or.inl ⟨by rfl,fun W hW=>by have q:=HLK.out W hW.2.2;simp [execOp,q,Result.andThen,go_sem]⟩)
  simp only [Act.put,sA,sB,sC];refine tkZ 6 (.tuple #[.agg #[],.bool true]) hS ?_;refine tkZ 7 (.agg #[]) hS ?_;refine tkZ 8 (.bool true) hS ?_;refine take_oneHL 9 (aC (fun K hK=>?_) aN) (by kernel_rfl)
  go_simp
  have hSn:=(⟨HBA.out.keep (fun o=>World.cell?_of_block (a:=⟨w.heap.size,o,none⟩) (heap_alloc_old V _ (by show w.heap.size<V.heap.size;omega))),(World.cell?_of_block (a:=⟨sb,0,none⟩) (heap_alloc_old V _ HSA.out.ls)).trans HSA.out.c0,HSA.out.mp.blk (heap_alloc_old V _ HSA.out.mp.lt)⟩:PBB w.heap.size (pa,pb,tt) (V.drew.alloc (.cells #[] 227))∧(V.drew.alloc (.cells #[] 227)).cell? ⟨sb,0,none⟩=some (.map (some mb))∧MPB (V.drew.alloc (.cells #[] 227)) mb (plG arr))
  refine hK.out _ _ hSn ?_;clear hS hK K hSn;intro hS;refine take_oneHL 10 (aC (fun K hK=>?_) aN) (by kernel_rfl)
  go_simp
  have hSn:=hS;refine hK.out _ _ hSn ?_;clear hS hK K hSn;intro hS;refine take_oneHL 11 (aC (fun K hK=>?_) aN) (by kernel_rfl)
  go_simp
  have hSn:=hS;refine hK.out _ _ hSn ?_;clear hS hK K hSn;intro hS;refine wpAnyH_done (by kernel_rfl) ?_ _
  go_wp2_with fail
  refine bodyPost_ret (results_none rfl _ _ _) rfl ?_;exact ⟨rfl,u,by rw [HAD.out];exact HSA.out.kept ((bR _ _).drew.alloc (nR _) _),RF.of (HA.out.trans (((bR _ _).drew.alloc (nR _) _).mono HA.out.size)),.inl rfl⟩
 ·have HLK:=hideK (fun (W:World) (h:MPB W mb (plG arr))=>(lookB_out h hsm hp hm).1)
  have HUP:=hideK (fun (W:World) (h:MPB W mb (plG arr))=>(lookB_out h hsm hp hm).2)
  simp only [pkB]at HLK HUP ⊢;have HAD:=hideK (show addG arr (wd,(pa,pb,tt)) k=arr++[((wd,(pa,pb,tt)),k)] from if_neg hm)
  clear hA sA bA hm hs;go_enter Tryz.func145,Tryz.ntmps145
  go_wp2_with fail
  generalize (w.alloc (.cells #[.int .i64 (pa:Int),.int .i64 (pb:Int),.bool tt] 119))=V at *;refine wp_region_held_drew (S:=(fun W:World=>PBB w.heap.size (pa,pb,tt) W∧W.cell? ⟨sb,0,none⟩=some (.map (some mb))∧MPB W mb (plG arr))) (by kernel_rfl) ⟨HBA.out,HSA.out.c0,HSA.out.mp⟩ (fun hS=>?_)
  refine tkZ 0 (.pointer (some ⟨sb,0,none⟩)) hS ?_;refine tkZ 1 (.pointer (some ⟨sb,0,none⟩)) hS ?_;refine tkZ 2 (.pointer (some ⟨sb,0,none⟩)) hS ?_;refine tkH 3 (.map (some mb)) hS ?_ (hy:=Or.inl ⟨by rfl,fun W hW=>by have x0:=hW.2.1;go_simp⟩)
  simp only [Act.put,sA,sB,sC];refine tkH 4 (.agg #[.int .i64 (pa:Int),.int .i64 (pb:Int),.bool tt]) hS ?_ (hy:=Or.inl ⟨by rfl,fun W hW=>by obtain ⟨⟨x0,x1,x2⟩,_⟩:=hW;go_simp⟩)
  simp only [Act.put,sA,sB,sC];refine tkH 5 (.tuple #[.agg #[],.bool false]) hS ?_ (hy:=Or.inl ⟨by rfl,fun W hW=>by have q:=HLK.out W hW.2.2;simp [execOp,q,Result.andThen,go_sem]⟩)
  simp only [Act.put,sA,sB,sC];refine tkZ 6 (.tuple #[.agg #[],.bool false]) hS ?_;refine tkZ 7 (.agg #[]) hS ?_;refine tkZ 8 (.bool false) hS ?_;refine take_oneHL 9 (aC (fun K hK=>?_) aN) (by kernel_rfl)
  go_simp
  have hSn:=(⟨HBA.out.keep (fun o=>World.cell?_of_block (a:=⟨w.heap.size,o,none⟩) (heap_alloc_old V _ (by show w.heap.size<V.heap.size;omega))),(World.cell?_of_block (a:=⟨sb,0,none⟩) (heap_alloc_old V _ HSA.out.ls)).trans HSA.out.c0,HSA.out.mp.blk (heap_alloc_old V _ HSA.out.mp.lt)⟩:PBB w.heap.size (pa,pb,tt) (V.drew.alloc (.cells #[] 227))∧(V.drew.alloc (.cells #[] 227)).cell? ⟨sb,0,none⟩=some (.map (some mb))∧MPB (V.drew.alloc (.cells #[] 227)) mb (plG arr))
  refine hK.out _ _ hSn ?_;clear hS hK K hSn;intro hS;refine take_oneHL 10 (aC (fun K hK=>?_) aN) (by kernel_rfl)
  go_simp
  have hSn:=hS;refine hK.out _ _ hSn ?_;clear hS hK K hSn;intro hS;refine take_oneHL 11 (aC (fun K hK=>?_) aN) (by kernel_rfl)
  go_simp
  have hSn:=hS;refine hK.out _ _ hSn ?_;clear hS hK K hSn;intro hS;refine wpAnyH_done (by kernel_rfl) ?_ _
  go_wp2_with fail
  have hV2:Below V.heap.size V (V.alloc (.cells #[] 227)).drew:=((bR _ _).alloc (nR _) _).drew;have HS2:=hideK (HSA.out.kept hV2);have HA2:=hideK (HA.out.trans (hV2.mono HA.out.size));have hsz2:(V.alloc (.cells #[] 227)).drew.heap.size=w.heap.size+2:=by simp [hsz]
  have HB2:=hideK hS.1;clear hS hV2;generalize (V.alloc (.cells #[] 227)).drew=V2 at *;refine wp_region_held_drew (S:=(fun W:World=>PBB w.heap.size (pa,pb,tt) W∧W.cell? ⟨sb,0,none⟩=some (.map (some mb)))) (by kernel_rfl) ⟨HB2.out,HS2.out.c0⟩ (fun hS=>?_)
  refine tkZ 0 (.pointer (some ⟨sb,0,none⟩)) hS ?_;refine tkZ 1 (.pointer (some ⟨sb,0,none⟩)) hS ?_;refine tkZ 2 (.pointer (some ⟨sb,0,none⟩)) hS ?_;refine tkH 3 (.map (some mb)) hS ?_ (hy:=Or.inl ⟨by rfl,fun W hW=>by have x0:=hW.2;go_simp⟩)
  simp only [Act.put,sA,sB,sC];refine tkH 4 (.agg #[.int .i64 (pa:Int),.int .i64 (pb:Int),.bool tt]) hS ?_ (hy:=Or.inl ⟨by rfl,fun W hW=>by obtain ⟨⟨x0,x1,x2⟩,_⟩:=hW;go_simp⟩)
  simp only [Act.put,sA,sB,sC];refine tkZ 5 (.agg #[]) hS ?_;obtain ⟨V3,hrun,hg3,hz3,hm3⟩:=HUP.out V2.drew (HS2.out.mp.blk rfl);have hs3:=(HS2.out.kept (bR _ _).drew).upd hg3 hm3;have b3:PBB w.heap.size (pa,pb,tt) V3:=HB2.out.keep fun o=>World.cell?_of_block (a:=⟨w.heap.size,o,none⟩) (hg3.block w.heap.size (by show w.heap.size<V2.heap.size;omega) (fun e=>by injection e with e;omega))
  refine take_oneHL 6 (aC (fun K hK=>?_) aN) (by kernel_rfl)
  refine stepUpdB rfl (.tmp 23) (.tmp 24) (.tmp 25) 228 (.inl rfl) rfl rfl rfl hrun ?_;have hSn:PBB w.heap.size (pa,pb,tt) V3∧V3.cell? ⟨sb,0,none⟩=some (.map (some mb)):=⟨b3,hs3.c0⟩;refine hK.out _ _ hSn ?_;clear hS hK K hSn;intro hS;refine wpAnyH_done (by kernel_rfl) ?_ _
  have HR3:=hideK (show RF mb sb u.ownBlock w V3 from (RF.of HA2.out).trans ⟨hg3.os,hg3.tape,hg3.output,hg3.size,fun b hb h1 _ _=>hg3.block b hb (fun e=>h1 (by injection e))⟩ (.inl rfl))
  have hsz3:V3.heap.size=w.heap.size+2:=hz3.trans hsz2;have HS3:=hideK hs3;have HB3:=hideK b3;clear hS hs3 b3 hrun hg3 hz3 hm3 HS2 HB2 HUP HLK HSA HBA HA HA2 hsz hsz2;go_wp2_with fail
  have HP:=hideK (fun (w7:World) (v7:Value) (hg:(V3.alloc (.cells #[.int .i64 (pa:Int),.int .i64 (pb:Int),.bool tt,.string wd,.int .i64 (k:Int)] 230)).drew.grownBy w7 u.ownBlock) (hO:w7.ownsRow w0.heap.size 230 5 v7 (arr.length+1) (avB arr++aCB ((wd,(pa,pb,tt)),k))) (hat:v7.ownBlock=u.ownBlock∨v7.ownBlock=some (V3.alloc (.cells #[.int .i64 (pa:Int),.int .i64 (pb:Int),.bool tt,.string wd,.int .i64 (k:Int)] 230)).drew.heap.size)=>(HS3.out.kept (bR _ _).drew).put rfl hg hO hat)
  have hpA:V3.drew.cell? ⟨sb,1,none⟩=some u:=HS3.out.c1;have hls3:sb<V3.drew.heap.size:=HS3.out.ls;have hpB:(V3.alloc (.cells #[.int .i64 (pa:Int),.int .i64 (pb:Int),.bool tt,.string wd,.int .i64 (k:Int)] 230)).drew.cell? ⟨sb,1,none⟩=some u:=(World.cell?_of_block (a:=⟨sb,1,none⟩) (heap_alloc_old V3.drew _ hls3)).trans hpA;have HOA:=hideK (own_belowG HS3.out.own ((bR _ _).alloc (nR _) (.cells #[.int .i64 (pa:Int),.int .i64 (pb:Int),.bool tt,.string wd,.int .i64 (k:Int)] 230)).drew);have hw03:w0.heap.size≤V3.heap.size:=HS3.out.bl.size;have HLR:=hideK (show (V3.alloc (.cells #[.int .i64 (pa:Int),.int .i64 (pb:Int),.bool tt,.string wd,.int .i64 (k:Int)] 230)).drew.ownsRow w0.heap.size 230 5 (.slice (some ⟨w.heap.size+2,0,none⟩) 1 1) 1 (aCB ((wd,(pa,pb,tt)),k)) from by
   have h:=World.ownsRow_lit (base:=w0.heap.size) (e:=230) (size:=5) V3.drew #[.int .i64 (pa:Int),.int .i64 (pb:Int),.bool tt,.string wd,.int .i64 (k:Int)] 1 hw03 (by decide) rfl
   rw [show V3.drew.heap.size=w.heap.size+2 from hsz3]at h
   exact h)
  have hw04:w0.heap.size≤(V3.alloc (.cells #[.int .i64 (pa:Int),.int .i64 (pb:Int),.bool tt,.string wd,.int .i64 (k:Int)] 230)).drew.heap.size:=by rw [show (V3.alloc (.cells #[.int .i64 (pa:Int),.int .i64 (pb:Int),.bool tt,.string wd,.int .i64 (k:Int)] 230)).drew.heap.size=V3.heap.size+1 from by simp];omega
  have HBX:=hideK (show PBB w.heap.size (pa,pb,tt) (V3.alloc (.cells #[.int .i64 (pa:Int),.int .i64 (pb:Int),.bool tt,.string wd,.int .i64 (k:Int)] 230)).drew from HB3.out.keep fun o=>World.cell?_of_block (a:=⟨w.heap.size,o,none⟩) (heap_alloc_old V3.drew _ (by show w.heap.size<V3.heap.size;omega)))
  have HUN:=hideK (show some w.heap.size≠u.ownBlock from fun e=>by have:=HOW.out _ e.symm;omega)
  have HG:=hideK (fun (w7:World) (hg:(V3.alloc (.cells #[.int .i64 (pa:Int),.int .i64 (pb:Int),.bool tt,.string wd,.int .i64 (k:Int)] 230)).drew.grownBy w7 u.ownBlock)=>show PBB w.heap.size (pa,pb,tt) w7∧w7.cell? ⟨sb,1,none⟩=some u∧w7.frozen? ⟨sb,1,none⟩=false from ⟨HBX.out.keep fun o=>World.cell?_of_block (a:=⟨w.heap.size,o,none⟩) (hg.block w.heap.size (by simp;omega) HUN.out),(World.cell?_of_block (a:=⟨sb,1,none⟩) (hg.block sb (by simp;omega) (fun e=>HS3.out.us e.symm))).trans hpB,(World.frozen?_of_block (a:=⟨sb,1,none⟩) ((hg.block sb (by simp;omega) (fun e=>HS3.out.us e.symm)).trans (heap_alloc_old V3.drew _ hls3))).trans HS3.out.f1⟩)
  refine wp_region_held_drew (S:=(PBB w.heap.size (pa,pb,tt))) (by kernel_rfl) HB3.out (fun hS=>?_)
  refine tkZ 0 (.pointer (some ⟨sb,0,none⟩)) hS ?_;refine tkZ 1 (.pointer (some ⟨sb,0,none⟩)) hS ?_;refine tkZ 2 (.pointer (some ⟨sb,0,none⟩)) hS ?_;refine tkZ 3 (.pointer (some ⟨sb,1,none⟩)) hS ?_;refine tkH 5 (.agg #[.int .i64 (pa:Int),.int .i64 (pb:Int),.bool tt]) hS ?_ (hy:=Or.inl ⟨by rfl,fun W hW=>by obtain ⟨x0,x1,x2⟩:=hW;go_simp⟩)
  simp only [Act.put,sA,sB,sC];refine tkZ 6 (.string wd) hS ?_;refine tkZ 7 (.int .i64 (k:Int)) hS ?_;refine tkZ 8 (.agg #[.int .i64 (pa:Int),.int .i64 (pb:Int),.bool tt,.string wd,.int .i64 (k:Int)]) hS ?_;refine wpAnyH_ready (rs:=[4,9]) (by kernel_rfl) (by simp) (aC (fun K hK=>?_) (aC (fun K hK=>?_) aN))
  ·go_simp
   have hSn:=hS;refine hK.out _ _ hSn ?_;clear hS hK K hSn;intro hS;refine take_oneHL 9 (aC (fun K hK=>?_) aN) (by kernel_rfl)
   go_simp
   have hSn:=HBX.out;refine hK.out _ _ hSn ?_;clear hS hK K hSn;intro hS;refine take_oneHL 10 (aC (fun K hK=>?_) aN) (by kernel_rfl)
   refine step_append_rows _ rfl (.tmp 30) (.tmp 35) 231 rfl w0.heap.size w0.heap.size 230 i1 _ 5 48 Tryz.underlying231 hj hy0 hy1 hy2 rfl (by decide) _ _ _ rfl HOA.out _ _ _ rfl HLR.out (aCB_one ((wd,(pa,pb,tt)),k)) (by unfold maxLen;omega) (by omega) hw04 ?_
   intro v7 w7 hO7 hg7 hat7;have hSn:=(HG.out _ hg7).1;refine hK.out _ _ hSn ?_;clear hS hK K hSn;intro hS;simp only [Act.put,sA,sB,sC];refine tkZ 11 (.pointer (some ⟨sb,0,none⟩)) hS ?_;refine tkZ 12 (.pointer (some ⟨sb,1,none⟩)) hS ?_;have pc7:=(HG.out _ hg7).2.1;have pf7:=(HG.out _ hg7).2.2;have HP7:=hideK (HP.out w7 v7 hg7 hO7 hat7);obtain ⟨va,vc,rfl⟩:=sliceH_own hO7;clear hO7 hg7 hat7;refine take_oneHL 13 (aC (fun K hK=>?_) aN) (by kernel_rfl)
   go_simp
   have hSn:=(hS.keep fun o=>World.cell?_setCell_other _ _ _ _ (by intro e;injection e with e;omega):PBB w.heap.size (pa,pb,tt) (w7.setCell ⟨sb,1,none⟩ (.slice va (arr.length+1) vc)))
   refine hK.out _ _ hSn ?_;clear hS hK K hSn;intro hS;refine wpAnyH_done (by kernel_rfl) ?_ _
   go_wp2_with fail
   go_end0
   exact ⟨rfl,_,by rw [HAD.out];exact HP7.out.1,HR3.out.trans (HP7.out.2.1.drewLB) (.inl rfl),HP7.out.2.2.imp id fun f j hj=>Nat.le_trans HR3.out.size (f j hj)⟩
  ·go_simp
   have hSn:=HBX.out;refine hK.out _ _ hSn ?_;clear hS hK K hSn;intro hS;refine take_oneHL 4 (aC (fun K hK=>?_) aN) (by kernel_rfl)
   go_simp
   have hSn:=hS;refine hK.out _ _ hSn ?_;clear hS hK K hSn;intro hS;refine take_oneHL 10 (aC (fun K hK=>?_) aN) (by kernel_rfl)
   refine step_append_rows _ rfl (.tmp 30) (.tmp 35) 231 rfl w0.heap.size w0.heap.size 230 i1 _ 5 48 Tryz.underlying231 hj hy0 hy1 hy2 rfl (by decide) _ _ _ rfl HOA.out _ _ _ rfl HLR.out (aCB_one ((wd,(pa,pb,tt)),k)) (by unfold maxLen;omega) (by omega) hw04 ?_
   intro v7 w7 hO7 hg7 hat7;have hSn:=(HG.out _ hg7).1;refine hK.out _ _ hSn ?_;clear hS hK K hSn;intro hS;simp only [Act.put,sA,sB,sC];refine tkZ 11 (.pointer (some ⟨sb,0,none⟩)) hS ?_;refine tkZ 12 (.pointer (some ⟨sb,1,none⟩)) hS ?_;have pc7:=(HG.out _ hg7).2.1;have pf7:=(HG.out _ hg7).2.2;have HP7:=hideK (HP.out w7 v7 hg7 hO7 hat7);obtain ⟨va,vc,rfl⟩:=sliceH_own hO7;clear hO7 hg7 hat7;refine take_oneHL 13 (aC (fun K hK=>?_) aN) (by kernel_rfl)
   go_simp
   have hSn:=(hS.keep fun o=>World.cell?_setCell_other _ _ _ _ (by intro e;injection e with e;omega):PBB w.heap.size (pa,pb,tt) (w7.setCell ⟨sb,1,none⟩ (.slice va (arr.length+1) vc)))
   refine hK.out _ _ hSn ?_;clear hS hK K hSn;intro hS;refine wpAnyH_done (by kernel_rfl) ?_ _
   go_wp2_with fail
   go_end0
   exact ⟨rfl,_,by rw [HAD.out];exact HP7.out.1,HR3.out.trans (HP7.out.2.1.drewLB) (.inl rfl),HP7.out.2.2.imp id fun f j hj=>Nat.le_trans HR3.out.size (f j hj)⟩
end Go.Proofs.YtmamabhhgfcjcaaGreatDoor
