/-
  The contracts of graph.typeFrom, for every node, and of graph.Back, for every graph that graph.Check lets by.
-/
import Derived.Test.YtnedgkcejlhnbaaGreatDoorSz
import Derived.Test.YtnedgkcejlhnbaaGreatDoorUp
import Derived.Test.YtnedgkcejlhnbaaGreatDoorJb
import Derived.Test.YtnedgkcejlhnbaaGreatDoorVl
import Derived.Test.YtnedgkcejlhnbaaGreatDoorZf
import Derived.Test.YtnedgkcejlhnbaaGreatDoorZc
import Derived.Test.YtnedgkcejlhnbaaGreatDoorVn
import Derived.Test.YtnedgkcejlhnbaaGreatDoorIf
set_option maxRecDepth 100000
set_option maxHeartbeats 8000000
namespace Go.Proofs.YtnedgkcejlhnbaaGreatDoor
open Go.RowKit Go.Shelf
theorem typeFrom_any(g:List Nd)(hg:GN g)(ag:OAd)(cg B wb pb mb:Nat)(hB1:B≤wb)(hB2:B≤pb)(hB3:B≤mb):∀(f:Nat) (ps:Nat→Bool) (i:Nat) (st:SB) (w:World),1≤f→61≤f+st.2→i<g.length→phiB st.2≤10000→GAt w B g ag→B≤w.heap.size→WY g.length ag cg wb pb mb ps st w →
  Calls Tryz.prog 19 #[.pointer (some ⟨wb,0,none⟩),.int .i64 (i:Int)] w (BKPost g f ag cg wb pb mb ps i st w)
 | 0,_,_,_,_,h1,_,_,_,_,_,_=>absurd h1 (by omega)
 | f+1,ps,i,(met,q),w,_,hf,hi,hp,hga,hB0,hW=>by
  have hf':61≤f+1+q:=hf;have hp':phiB q≤10000:=hp;by_cases h60:60<q+1
  ·exact typeFrom_over g f ag cg wb pb mb ps i met q w h60 (by unfold phiB at hp';omega) hW
  ·cases hps:ps i with
   | true=>exact typeFrom_var g f ag cg wb pb mb ps i met q w h60 hi hg.le hps hW
   | false=>exact typeFrom_node g hg f ag cg B wb pb mb ps i met q w h60 hi hps hf' hga hB0 hB1 hB2 hB3 hW (fun ps i st w h1 h2 h3 h4 h5 h6=>typeFrom_any g hg ag cg B wb pb mb hB1 hB2 hB3 f ps i st w (by omega) h1 h2 h3 h4 h5 h6)
theorem infoBo:(Tryz.prog.info? 4).map (fun i=>(i.zero,i.size,i.bytes))=some (some (.bool false),1,1):=by kernel_rfl
theorem makeBo(n:Nat)(hn:n≤1000):∃Z:Array Value,(∀j,j<n→Z[j]? = some (.bool false))∧∀w:World,(Instr.makeSlice 63 (.int .i64 (n:Int)) (.int .i64 (n:Int))).run Tryz.prog w = .ok (.slice (some ⟨w.heap.size,0,none⟩) n n) (w.alloc (.cells Z 4)):=by
 obtain ⟨i,hi,hx⟩:=Option.map_eq_some_iff.1 infoBo;simp only [Prod.mk.injEq]at hx;obtain ⟨h1,h2,h3⟩:=hx;refine ⟨madeCells (Value.bool false).cells (n*i.size),fun j hj=>?_,fun w=>?_⟩
 ·rw [h2,Nat.mul_one]
  unfold madeCells;rw [Array.getElem?_map,Array.getElem?_range,if_pos hj];simp [Value.cells,Nat.mod_one]
 ·have:=run_make (P:=Tryz.prog) w 63 4 i _ Tryz.underlying63 hi h1 .i64 .i64 (n:Int) (n:Int) (by omega) (by omega) (by rw [h3];omega) (by omega)
  exact this
def BCPost(g:List Nd)(w:World)(e:Ending)(w':World):Prop :=
 ((60<(backP g).2.2∧e = .returned (.tuple #[.agg #[.int .i64 0,.int .i64 0,.string ⟨#[]⟩,.slice none 0 0,.slice none 0 0],.int .i64 2]))∨((backP g).2.2≤60∧∃al cl ak ck d,e = .returned (.tuple #[tyVal (backP g).1 al cl ak ck,.int .i64 0])∧TyBd (backP g).1 cl ck∧LP w' (fun b=>w.heap.size≤b∧b<w'.heap.size) (backP g).1.labels al∧KP w' (fun b=>w.heap.size≤b∧b<w'.heap.size) d (backP g).1.kids ak))∧Below w.heap.size w w'
theorem WY.made{W:World}{n:Nat}{ag:OAd}{cg wb pb mb:Nat}{Z1 Z2:Array Value}{t1 t2 t3:TypeId}(h1:W.heap[wb]? = some (.cells #[.slice ag n cg,.slice (some ⟨pb,0,none⟩) n n,.slice (some ⟨mb,0,none⟩) n n,.int .i64 0] t1))(h2:W.heap[pb]? = some (.cells Z1 t2))(h3:W.heap[mb]? = some (.cells Z2 t3))(hz1:∀j,j<n→Z1[j]? = some (.bool false))(hz2:∀j,j<n→Z2[j]? = some (.bool false))(n1:wb≠pb)(n2:wb≠mb)(n3:pb≠mb):WY n ag cg wb pb mb (fun _=>false) (fun _=>false,0) W:=by
 refine ⟨(heap_cellsA h1 0).trans rfl,(heap_cellsA h1 1).trans rfl,(heap_cellsA h1 2).trans rfl,(heap_cellsA h1 3).trans rfl,fun i hi=>(heap_cellsA h2 i).trans (hz1 i hi),fun i hi=>(heap_cellsA h3 i).trans (hz2 i hi),fun o=>by simp [World.frozen?,h1],fun o=>by simp [World.frozen?,h2],fun o=>by simp [World.frozen?,h3],n1,n2,n3,(Array.getElem?_eq_some_iff.1 h1).1,(Array.getElem?_eq_some_iff.1 h2).1,(Array.getElem?_eq_some_iff.1 h3).1⟩
theorem lit_ty(V:World)(t:Ty)(la:OAd)(lc:Nat)(ka:OAd)(kc:Nat):TyAt (V.alloc (.cells #[.int .i64 t.kind,.int .i64 t.so,.string t.name,.slice la t.labels.length lc,.slice ka t.kids.length kc] 25)) V.heap.size 0 t la lc ka kc:=⟨by go_cell,by go_cell,by go_cell,by go_cell,by go_cell⟩
theorem al3(w:World)(a b c:Obj):(((w.alloc a).alloc b).alloc c).drew.heap[w.heap.size]? = some a∧(((w.alloc a).alloc b).alloc c).drew.heap[w.heap.size+1]? = some b∧(((w.alloc a).alloc b).alloc c).drew.heap[w.heap.size+1+1]? = some c∧Below w.heap.size w (((w.alloc a).alloc b).alloc c).drew:=by
 have s1:(w.alloc a).heap.size=w.heap.size+1:=by simp
 have s2:((w.alloc a).alloc b).heap.size=w.heap.size+1+1:=by simp
 have h1:=heap_alloc_new w a;have h2:=heap_alloc_new (w.alloc a) b;have h3:=heap_alloc_new ((w.alloc a).alloc b) c;rw [s1]at h2;rw [s2]at h3;refine ⟨?_,?_,h3,((((Below.refl _ _).alloc (Nat.le_refl _) _).alloc (by simp) _).alloc (by simp;omega) _).drew⟩
 ·exact (heap_alloc_old _ _ (by simp;omega)).trans ((heap_alloc_old _ _ (by simp)).trans h1)
 ·exact (heap_alloc_old _ _ (by simp)).trans h2
theorem back_any(g:List Nd)(hg:GN g)(ag:OAd)(cg B:Nat)(w:World)(hga:GAt w B g ag)(hB:B≤w.heap.size):
  Calls Tryz.prog 10 #[.slice ag g.length cg] w (BCPost g w):=by
 unfold BCPost;obtain ⟨Z,hZ,hmk⟩:=makeBo g.length (by have:=hg.le;omega)
 have hA0:Below w.heap.size w (w.alloc (.cells #[.int .i64 0,.int .i64 0,.string ⟨#[]⟩,.slice none 0 0,.slice none 0 0] 25)):=(Below.refl _ _).alloc (Nat.le_refl _) _;have c1:=checkG_any g ag cg B (w.alloc (.cells #[.int .i64 0,.int .i64 0,.string ⟨#[]⟩,.slice none 0 0,.slice none 0 0] 25)) hg (hga.keep (hA0.mono hB)) (by simp;omega)
 have HR0:=hideK (RBX.new w);have HA0:=hideK hA0;have HGA:=hideK (fun (W:World) (hb:Below w.heap.size w W)=>show GAt W B g ag from hga.keep (hb.mono hB))
 have hgl:(g.length:Int)≤200:=by have:=hg.le;omega
 have HP:=hideK hg.pos;have HG:=hideK hg;clear hga hA0;go_enter Tryz.func10,Tryz.ntmps10
 go_wp2_with fail
 refine c1.mono ?_;rintro e w1 ⟨rfl,hb1⟩;have HR1:=hideK (HR0.out.keep hb1);have HB1:=hideK (HA0.out.trans (hb1.mono HA0.out.size));clear c1 hb1 HR0 HA0;go_upto_region 4 with fail
 go_cut [5] (fun s5 wc=>∃wb pb mb,s5 = .pointer (some ⟨wb,0,none⟩)∧w1.heap.size≤wb∧w1.heap.size≤pb∧w1.heap.size≤mb∧WY g.length ag cg wb pb mb (fun _=>false) (fun _=>false,0) wc∧Below w1.heap.size w1 wc)
 case first =>
  go_region
  all_goals
   go_wp2_with fail
   go_meet
   first
   | exact ⟨_,_,_,rfl,by omega,by omega,by omega,WY.made (al3 w1 _ _ _).1 (al3 w1 _ _ _).2.1 (al3 w1 _ _ _).2.2.1 hZ hZ (by omega) (by omega) (by omega),(al3 w1 _ _ _).2.2.2⟩
   | exact ⟨_,_,_,rfl,by omega,by omega,by omega,WY.made (al3 w1 _ _ _).1 (al3 w1 _ _ _).2.2.1 (al3 w1 _ _ _).2.1 hZ hZ (by omega) (by omega) (by omega),(al3 w1 _ _ _).2.2.2⟩
   | exact ⟨_,_,_,rfl,by omega,by omega,by omega,WY.made (al3 w1 _ _ _).2.1 (al3 w1 _ _ _).1 (al3 w1 _ _ _).2.2.1 hZ hZ (by omega) (by omega) (by omega),(al3 w1 _ _ _).2.2.2⟩
   | exact ⟨_,_,_,rfl,by omega,by omega,by omega,WY.made (al3 w1 _ _ _).2.1 (al3 w1 _ _ _).2.2.1 (al3 w1 _ _ _).1 hZ hZ (by omega) (by omega) (by omega),(al3 w1 _ _ _).2.2.2⟩
   | exact ⟨_,_,_,rfl,by omega,by omega,by omega,WY.made (al3 w1 _ _ _).2.2.1 (al3 w1 _ _ _).1 (al3 w1 _ _ _).2.1 hZ hZ (by omega) (by omega) (by omega),(al3 w1 _ _ _).2.2.2⟩
   | exact ⟨_,_,_,rfl,by omega,by omega,by omega,WY.made (al3 w1 _ _ _).2.2.1 (al3 w1 _ _ _).2.1 (al3 w1 _ _ _).1 hZ hZ (by omega) (by omega) (by omega),(al3 w1 _ _ _).2.2.2⟩
 case rest =>
  obtain ⟨wb,pb,mb,rfl,h1,h2,h3,hWY,hbc⟩:=hcut;have hsz1:=HB1.out.size;have hszc:=hbc.size;have HBc:=hideK (HB1.out.trans (hbc.mono hsz1));have cT:=typeFrom_any g hg ag cg B wb pb mb (by omega) (by omega) (by omega) 61 (fun _=>false) 0 (fun _=>false,0) wc (by decide) (by decide) HP.out (by decide) (HGA.out wc HBc.out) (by omega) hWY
  unfold BKPost at cT;rw [show bkT g 61 (fun _=>false) 0 (fun _=>false,0)=backP g from rfl]at cT
  simp only [Int.ofNat_zero]at cT;have HRc:=hideK (HR1.out.keep hbc);have hrl:=HR1.out.lt;clear hg hWY hbc HR1 hZ hmk HB1 HG HGA HP;rcases hbk:backP g with ⟨bT,bm,bp⟩
  rw [hbk]at cT;have HBE:=hideK hbk;clear hbk;simp only at cT;go_wp2_with fail
  refine cT.mono ?_;rintro e w2 ⟨⟨al,cl,ak,ck,d,rfl,hbd,hlp,hkp⟩,hwy2,hbt2⟩;have HR2:=hideK ((HRc.out.blk (hbt2.block w.heap.size (by omega) (by omega) (by omega) (by omega)) hbt2.size).keep ((Below.refl _ _).alloc (Nat.le_refl _) (.cells #[.int .i64 bT.kind,.int .i64 bT.so,.string bT.name,.slice al bT.labels.length cl,.slice ak bT.kids.length ck] 25)))
  have HB2:=hideK ((show Below w.heap.size w w2 from HBc.out.trans (hbt2.bel (by omega) (by omega) (by omega) (by omega))).alloc (by have:=hbt2.size;omega) (.cells #[.int .i64 bT.kind,.int .i64 bT.so,.string bT.name,.slice al bT.labels.length cl,.slice ak bT.kids.length ck] 25))
  have c3:(w2.alloc (.cells #[.int .i64 bT.kind,.int .i64 bT.so,.string bT.name,.slice al bT.labels.length cl,.slice ak bT.kids.length ck] 25)).cell? ⟨wb,3,none⟩=some (.int .i64 (bp:Int)):=(hwy2.keep ((Below.refl _ _).alloc (Nat.le_refl _) (.cells #[.int .i64 bT.kind,.int .i64 bT.so,.string bT.name,.slice al bT.labels.length cl,.slice ak bT.kids.length ck] 25))).c3;have HTY:=hideK (lit_ty w2 bT al cl ak ck);have HLP:=hideK (hlp.keep (W':=w2.alloc (.cells #[.int .i64 bT.kind,.int .i64 bT.so,.string bT.name,.slice al bT.labels.length cl,.slice ak bT.kids.length ck] 25)) (Q:=fun b=>wc.heap.size≤b∧b<w2.heap.size) (fun b o hb=>World.cell?_alloc_past _ _ _ hb.2) (fun b hb=>hb))
  have HKP:=hideK (hkp.keep (W':=w2.alloc (.cells #[.int .i64 bT.kind,.int .i64 bT.so,.string bT.name,.slice al bT.labels.length cl,.slice ak bT.kids.length ck] 25)) (Q:=fun b=>wc.heap.size≤b∧b<w2.heap.size) (fun b o hb=>World.cell?_alloc_past _ _ _ hb.2) (fun b hb=>hb))
  have HBD:=hideK hbd;have HSZ:=hideK (show (w2.alloc (.cells #[.int .i64 bT.kind,.int .i64 bT.so,.string bT.name,.slice al bT.labels.length cl,.slice ak bT.kids.length ck] 25)).heap.size=w2.heap.size+1 from by simp)
  have hbt:=hbt2.size;clear cT hwy2 hbt2 hlp hkp hbd HRc HBc;simp only [tyVal];go_upto_region 6 with fail
  generalize w2.alloc (.cells #[.int .i64 bT.kind,.int .i64 bT.so,.string bT.name,.slice al bT.labels.length cl,.slice ak bT.kids.length ck] 25)=W5 at *;obtain ⟨z0,z1,z2,z3,z4,zf,zl⟩:=HR2.out;have f0:=zf 0;have f1:=zf 1;have f2:=zf 2;have f3:=zf 3;have f4:=zf 4;obtain ⟨t0,t1,t2,t3,t4⟩:=HTY.out;simp only [Nat.zero_add]at t1 t2 t3 t4;clear zf;by_cases h60:60<bp
  ·have hz:(60:Int)<(bp:Int):=by omega
   have HH:=hideK h60;have HB9:=hideK (st5_below w.heap.size 0 (.int .i64 0) (.int .i64 0) (.string ⟨#[]⟩) (.slice none 0 0) (.slice none 0 0) HB2.out (Nat.le_refl _));have HTA:=hideK (show TyAt (st5 W5 w.heap.size 0 (.int .i64 0) (.int .i64 0) (.string ⟨#[]⟩) (.slice none 0 0) (.slice none 0 0)) w.heap.size 0 zT none 0 none 0 from st5_at W5 _ 0 zT none 0 none 0 (fun j hj=>by
    rw [Nat.zero_add];have:j=0∨j=1∨j=2∨j=3∨j=4:=by omega
    rcases this with rfl|rfl|rfl|rfl|rfl
    ·exact ⟨_,z0⟩
    ·exact ⟨_,z1⟩
    ·exact ⟨_,z2⟩
    ·exact ⟨_,z3⟩
    ·exact ⟨_,z4⟩))
   clear h60;go_wp2_with fail
   change bodyPost _ _ _ _ _ (st5 W5 w.heap.size 0 (.int .i64 0) (.int .i64 0) (.string ⟨#[]⟩) (.slice none 0 0) (.slice none 0 0))
   generalize st5 W5 w.heap.size 0 (.int .i64 0) (.int .i64 0) (.string ⟨#[]⟩) (.slice none 0 0) (.slice none 0 0)=W9 at *;obtain ⟨r0,r1,r2,r3,r4⟩:=HTA.out;simp only [Nat.zero_add,zT,List.length_nil]at r0 r1 r2 r3 r4;refine bodyPost_ret (v:=.tuple #[.agg #[.int .i64 0,.int .i64 0,.string ⟨#[]⟩,.slice none 0 0,.slice none 0 0],.int .i64 2]) (by simp [results,Tryz.results10,go_sem,r0,r1,r2,r3,r4]) rfl ?_
   rw [HBE.out];exact ⟨.inl ⟨HH.out,rfl⟩,HB9.out⟩
  ·have hz:¬(60:Int)<(bp:Int):=by omega
   have HH:=hideK (show bp≤60 by omega)
   have HB9:=hideK (st5_below w.heap.size 0 (.int .i64 bT.kind) (.int .i64 bT.so) (.string bT.name) (.slice al bT.labels.length cl) (.slice ak bT.kids.length ck) HB2.out (Nat.le_refl _));have HTA:=hideK (st5_at W5 w.heap.size 0 bT al cl ak ck (fun j hj=>by
    rw [Nat.zero_add];have:j=0∨j=1∨j=2∨j=3∨j=4:=by omega
    rcases this with rfl|rfl|rfl|rfl|rfl
    ·exact ⟨_,z0⟩
    ·exact ⟨_,z1⟩
    ·exact ⟨_,z2⟩
    ·exact ⟨_,z3⟩
    ·exact ⟨_,z4⟩))
   have HK9:=hideK (show ∀b o,(wc.heap.size≤b∧b<w2.heap.size)→(st5 W5 w.heap.size 0 (.int .i64 bT.kind) (.int .i64 bT.so) (.string bT.name) (.slice al bT.labels.length cl) (.slice ak bT.kids.length ck)).cell? ⟨b,o,none⟩=W5.cell? ⟨b,o,none⟩ from fun b o hb=>st5_other _ _ _ _ _ _ _ _ _ _ (.inl (by omega)))
   have HS9:=hideK (show (st5 W5 w.heap.size 0 (.int .i64 bT.kind) (.int .i64 bT.so) (.string bT.name) (.slice al bT.labels.length cl) (.slice ak bT.kids.length ck)).heap.size=w2.heap.size+1 from (st5_size _ _ _ _ _ _ _ _).trans HSZ.out)
   clear h60;go_wp2_with fail
   change bodyPost _ _ _ _ _ (st5 W5 w.heap.size 0 (.int .i64 bT.kind) (.int .i64 bT.so) (.string bT.name) (.slice al bT.labels.length cl) (.slice ak bT.kids.length ck))
   generalize st5 W5 w.heap.size 0 (.int .i64 bT.kind) (.int .i64 bT.so) (.string bT.name) (.slice al bT.labels.length cl) (.slice ak bT.kids.length ck)=W9 at *;obtain ⟨r0,r1,r2,r3,r4⟩:=HTA.out;simp only [Nat.zero_add]at r0 r1 r2 r3 r4;refine bodyPost_ret (v:=.tuple #[.agg #[.int .i64 bT.kind,.int .i64 bT.so,.string bT.name,.slice al bT.labels.length cl,.slice ak bT.kids.length ck],.int .i64 0]) (by simp [results,Tryz.results10,go_sem,r0,r1,r2,r3,r4]) rfl ?_
   have hs9:=HS9.out;rw [HBE.out];exact ⟨.inr ⟨HH.out,al,cl,ak,ck,rfl,HBD.out,HLP.out.keep HK9.out (fun b hb=>by omega),d,HKP.out.keep HK9.out (fun b hb=>by omega)⟩,HB9.out⟩
def BOPost(g:List Nd)(w:World)(e:Ending)(w':World):Prop :=
 ((60<(backP g).2.2∧∃t al cl ak ck,e = .returned (.tuple #[tyVal t al cl ak ck,.bool false]))∨((backP g).2.2≤60∧∃al cl ak ck d,e = .returned (.tuple #[tyVal (backP g).1 al cl ak ck,.bool true])∧TyBd (backP g).1 cl ck∧LA w' w'.heap.size (backP g).1.labels al∧KT w' w'.heap.size d (backP g).1.kids ak))∧Below w.heap.size w w'
theorem backKeep_any(g:List Nd)(hg:GN g)(ag:OAd)(cg B:Nat)(w:World)(hga:GAt w B g ag)(hB:B≤w.heap.size):
  Calls Tryz.prog 6 #[.slice ag g.length cg,.int .i64 0] w (BOPost g w):=by
 unfold BOPost;have hA0:Below w.heap.size w (w.alloc (.cells #[.int .i64 0,.int .i64 0,.string ⟨#[]⟩,.slice none 0 0,.slice none 0 0] 25)):=(Below.refl _ _).alloc (Nat.le_refl _) _;have c1:=back_any g hg ag cg B (w.alloc (.cells #[.int .i64 0,.int .i64 0,.string ⟨#[]⟩,.slice none 0 0,.slice none 0 0] 25)) (hga.keep (hA0.mono hB)) (by simp;omega)
 have HR0:=hideK (RBX.new w);have HA0:=hideK hA0;unfold BCPost at c1;clear hga hA0 hg;go_enter Tryz.func6,Tryz.ntmps6
 go_wp2_with fail
 refine c1.mono ?_;rintro e w1 ⟨hor,hb1⟩;have HR1:=hideK (HR0.out.keep hb1);have HB1:=hideK (HA0.out.trans (hb1.mono HA0.out.size));clear c1 hb1 HR0 HA0;rcases hbk:backP g with ⟨bT,bm,bp⟩
 rw [hbk]at hor;have HBE:=hideK hbk;clear hbk;simp only at hor;rcases hor with ⟨hq,rfl⟩|⟨hq,al,cl,ak,ck,d,rfl,hbd,hlp,hkp⟩
 ·have HQ:=hideK (show 60<(backP g).2.2 from by rw [HBE.out];exact hq)
  clear hq;have hA1:Below w1.heap.size w1 (w1.alloc (.cells #[.int .i64 0,.int .i64 0,.string ⟨#[]⟩,.slice none 0 0,.slice none 0 0] 25)):=(Below.refl _ _).alloc (Nat.le_refl _) _;have HR2:=hideK (HR1.out.keep hA1);have HB2:=hideK (HB1.out.trans (hA1.mono HB1.out.size));have HTY:=hideK (show TyAt (w1.alloc (.cells #[.int .i64 0,.int .i64 0,.string ⟨#[]⟩,.slice none 0 0,.slice none 0 0] 25)) w1.heap.size 0 zT none 0 none 0 from lit_ty w1 zT none 0 none 0)
  have HSZ:=hideK (show (w1.alloc (.cells #[.int .i64 0,.int .i64 0,.string ⟨#[]⟩,.slice none 0 0,.slice none 0 0] 25)).heap.size=w1.heap.size+1 from by simp)
  go_upto_region 4 with fail
  generalize w1.alloc (.cells #[.int .i64 0,.int .i64 0,.string ⟨#[]⟩,.slice none 0 0,.slice none 0 0] 25)=W5 at *;obtain ⟨z0,z1,z2,z3,z4,zf,zl⟩:=HR2.out;have f0:=zf 0;have f1:=zf 1;have f2:=zf 2;have f3:=zf 3;have f4:=zf 4;obtain ⟨t0,t1,t2,t3,t4⟩:=HTY.out;simp only [Nat.zero_add,zT,List.length_nil]at t0 t1 t2 t3 t4;clear zf;have HB9:=hideK (st5_below w.heap.size 0 (.int .i64 0) (.int .i64 0) (.string ⟨#[]⟩) (.slice none 0 0) (.slice none 0 0) HB2.out (Nat.le_refl _));have HTA:=hideK (show TyAt (st5 W5 w.heap.size 0 (.int .i64 0) (.int .i64 0) (.string ⟨#[]⟩) (.slice none 0 0) (.slice none 0 0)) w.heap.size 0 zT none 0 none 0 from st5_at W5 w.heap.size 0 zT none 0 none 0 (fun j hj=>by
   rw [Nat.zero_add];have:j=0∨j=1∨j=2∨j=3∨j=4:=by omega
   rcases this with rfl|rfl|rfl|rfl|rfl
   ·exact ⟨_,z0⟩
   ·exact ⟨_,z1⟩
   ·exact ⟨_,z2⟩
   ·exact ⟨_,z3⟩
   ·exact ⟨_,z4⟩))
  have HK9:=hideK (show ∀b o,b≠w.heap.size→(st5 W5 w.heap.size 0 (.int .i64 0) (.int .i64 0) (.string ⟨#[]⟩) (.slice none 0 0) (.slice none 0 0)).cell? ⟨b,o,none⟩=W5.cell? ⟨b,o,none⟩ from fun b o hb=>st5_other _ _ _ _ _ _ _ _ _ _ (.inl hb))
  have HS9:=hideK (show (st5 W5 w.heap.size 0 (.int .i64 0) (.int .i64 0) (.string ⟨#[]⟩) (.slice none 0 0) (.slice none 0 0)).heap.size=w1.heap.size+1 from (st5_size _ _ _ _ _ _ _ _).trans HSZ.out)
  go_wp2_with fail
  change bodyPost _ _ _ _ _ (st5 W5 w.heap.size 0 (.int .i64 0) (.int .i64 0) (.string ⟨#[]⟩) (.slice none 0 0) (.slice none 0 0))
  generalize st5 W5 w.heap.size 0 (.int .i64 0) (.int .i64 0) (.string ⟨#[]⟩) (.slice none 0 0) (.slice none 0 0)=W9 at *;obtain ⟨r0,r1,r2,r3,r4⟩:=HTA.out;simp only [Nat.zero_add,zT,List.length_nil]at r0 r1 r2 r3 r4;refine bodyPost_ret (v:=.tuple #[.agg #[.int .i64 0,.int .i64 0,.string ⟨#[]⟩,.slice none 0 0,.slice none 0 0],.bool false]) (by simp [results,Tryz.results6,go_sem,r0,r1,r2,r3,r4]) rfl ?_
  exact ⟨.inl ⟨HQ.out,zT,none,0,none,0,rfl⟩,HB9.out⟩
 ·have HQ:=hideK (show bp≤60 from hq)
  have HBD:=hideK hbd;have HLP:=hideK hlp;have HKP:=hideK hkp;clear hq hbd hlp hkp;simp only [tyVal];have hA1:Below w1.heap.size w1 (w1.alloc (.cells #[.int .i64 bT.kind,.int .i64 bT.so,.string bT.name,.slice al bT.labels.length cl,.slice ak bT.kids.length ck] 25)):=(Below.refl _ _).alloc (Nat.le_refl _) _;have HR2:=hideK (HR1.out.keep hA1);have HB2:=hideK (HB1.out.trans (hA1.mono HB1.out.size));have HTY:=hideK (lit_ty w1 bT al cl ak ck);have HA1:=hideK (show ∀b o,b<w1.heap.size→(w1.alloc (.cells #[.int .i64 bT.kind,.int .i64 bT.so,.string bT.name,.slice al bT.labels.length cl,.slice ak bT.kids.length ck] 25)).cell? ⟨b,o,none⟩=w1.cell? ⟨b,o,none⟩ from fun b o hb=>World.cell?_alloc_past _ _ _ hb)
  have HSZ:=hideK (show (w1.alloc (.cells #[.int .i64 bT.kind,.int .i64 bT.so,.string bT.name,.slice al bT.labels.length cl,.slice ak bT.kids.length ck] 25)).heap.size=w1.heap.size+1 from by simp)
  go_upto_region 4 with fail
  generalize w1.alloc (.cells #[.int .i64 bT.kind,.int .i64 bT.so,.string bT.name,.slice al bT.labels.length cl,.slice ak bT.kids.length ck] 25)=W5 at *;obtain ⟨z0,z1,z2,z3,z4,zf,zl⟩:=HR2.out;have f0:=zf 0;have f1:=zf 1;have f2:=zf 2;have f3:=zf 3;have f4:=zf 4;obtain ⟨t0,t1,t2,t3,t4⟩:=HTY.out;simp only [Nat.zero_add]at t0 t1 t2 t3 t4;clear zf;have HB9:=hideK (st5_below w.heap.size 0 (.int .i64 bT.kind) (.int .i64 bT.so) (.string bT.name) (.slice al bT.labels.length cl) (.slice ak bT.kids.length ck) HB2.out (Nat.le_refl _));have HTA:=hideK (show TyAt (st5 W5 w.heap.size 0 (.int .i64 bT.kind) (.int .i64 bT.so) (.string bT.name) (.slice al bT.labels.length cl) (.slice ak bT.kids.length ck)) w.heap.size 0 bT al cl ak ck from st5_at W5 w.heap.size 0 bT al cl ak ck (fun j hj=>by
   rw [Nat.zero_add];have:j=0∨j=1∨j=2∨j=3∨j=4:=by omega
   rcases this with rfl|rfl|rfl|rfl|rfl
   ·exact ⟨_,z0⟩
   ·exact ⟨_,z1⟩
   ·exact ⟨_,z2⟩
   ·exact ⟨_,z3⟩
   ·exact ⟨_,z4⟩))
  have HK9:=hideK (show ∀b o,b≠w.heap.size→(st5 W5 w.heap.size 0 (.int .i64 bT.kind) (.int .i64 bT.so) (.string bT.name) (.slice al bT.labels.length cl) (.slice ak bT.kids.length ck)).cell? ⟨b,o,none⟩=W5.cell? ⟨b,o,none⟩ from fun b o hb=>st5_other _ _ _ _ _ _ _ _ _ _ (.inl hb))
  have HS9:=hideK (show (st5 W5 w.heap.size 0 (.int .i64 bT.kind) (.int .i64 bT.so) (.string bT.name) (.slice al bT.labels.length cl) (.slice ak bT.kids.length ck)).heap.size=w1.heap.size+1 from (st5_size _ _ _ _ _ _ _ _).trans HSZ.out)
  go_wp2_with fail
  change bodyPost _ _ _ _ _ (st5 W5 w.heap.size 0 (.int .i64 bT.kind) (.int .i64 bT.so) (.string bT.name) (.slice al bT.labels.length cl) (.slice ak bT.kids.length ck))
  generalize st5 W5 w.heap.size 0 (.int .i64 bT.kind) (.int .i64 bT.so) (.string bT.name) (.slice al bT.labels.length cl) (.slice ak bT.kids.length ck)=W9 at *;obtain ⟨r0,r1,r2,r3,r4⟩:=HTA.out;simp only [Nat.zero_add]at r0 r1 r2 r3 r4;refine bodyPost_ret (v:=.tuple #[.agg #[.int .i64 bT.kind,.int .i64 bT.so,.string bT.name,.slice al bT.labels.length cl,.slice ak bT.kids.length ck],.bool true]) (by simp [results,Tryz.results6,go_sem,r0,r1,r2,r3,r4]) rfl ?_
  have hs9:=HS9.out;rw [HBE.out];have hne:∀b,((w.alloc (.cells #[.int .i64 0,.int .i64 0,.string ⟨#[]⟩,.slice none 0 0,.slice none 0 0] 25)).heap.size≤b∧b<w1.heap.size)→b≠w.heap.size∧b<w1.heap.size:=fun b hb=>⟨by have h:=hb.1;simp at h;omega,hb.2⟩
  have hk:∀b o,((w.alloc (.cells #[.int .i64 0,.int .i64 0,.string ⟨#[]⟩,.slice none 0 0,.slice none 0 0] 25)).heap.size≤b∧b<w1.heap.size)→W9.cell? ⟨b,o,none⟩=w1.cell? ⟨b,o,none⟩:=fun b o hb=>(HK9.out b o (hne b hb).1).trans (HA1.out b o hb.2)
  have hlp:=HLP.out.keep (W':=W9) (Q:=fun b=>b<W9.heap.size) hk (fun b hb=>by omega)
  have hkp:=HKP.out.keep (W':=W9) (Q:=fun b=>b<W9.heap.size) hk (fun b hb=>by omega)
  exact ⟨.inr ⟨HQ.out,al,cl,ak,ck,d,rfl,HBD.out,hlp.la (fun b hb=>hb),hkp.kt (fun b hb=>hb)⟩,HB9.out⟩
theorem back_of{L:List Nd}(hL:LSTG L)(q:(backP L).2.2≤60):OFG (backP L).1 L:=by
 obtain ⟨h1,h2⟩:=back_ok hL.gn hL.gn.le q;obtain ⟨M,hM⟩:=OFG_ex h1;have:M=L:=hM.lst.eq hL fun k=>(hM.does k).trans (congrFun h2 k)
 rw [this]at hM;exact hM
abbrev Pc:=Nat × Nat
def labSc(m n:Nd)(i:Nat):Option (Sg Pc):=if hasN n.labs (labAtN m i)=true then some (labAtN m i,toAt m i,toAt n (idxB n.labs (labAtN m i))) else none
def stepsC(m n:Nd):List (Sg Pc) :=
 if m.kind=2∨m.kind=3 then [(dotB,toAt m 0,toAt n 0)]
 else if m.kind=4∨m.kind=5 then [(dotB,toAt m 1,toAt n 1)]
 else (List.range m.labs.length).filterMap (labSc m n)
def onB(g h:List Nd)(m n:Nd):Bool :=
 if n.kind≠kdD m.kind∨n.so≠m.so then false
 else if m.kind=4 then belB g h (toAt m 0) (toAt n 0)
 else if m.kind=5 then belB h g (toAt n 0) (toAt m 0)
 else if m.kind=6 then m.labs.all fun l=>hasN n.labs l
 else if m.kind=7 then n.labs.all fun l=>hasN m.labs l
 else true
def failC(g h:List Nd)(p:Pc):Bool:=!onB g h (nodeAt g p.1) (nodeAt h p.2)
def nextC(g h:List Nd)(p:Pc):List (Sg Pc):=stepsC (nodeAt g p.1) (nodeAt h p.2)
def okC(g h:List Nd)(p:Pc):Prop:=p.1<g.length∧p.2<h.length
def numC(h:Nat)(p:Pc):Nat:=p.1*h+p.2
theorem mem_labC{m n:Nd}{s:Sg Pc}:s∈(List.range m.labs.length).filterMap (labSc m n)↔∃x l,m.labs[x]? = some l∧l∈n.labs∧s=(l,toAt m x,toAt n (idxB n.labs l)):=by
 rw [List.mem_filterMap];constructor
 ·rintro ⟨x,hx,e⟩
  have hx':x<m.labs.length:=List.mem_range.1 hx;have el:labAtN m x=m.labs[x]:=by unfold labAtN;rw [List.getElem?_eq_getElem hx'];rfl
  unfold labSc at e;rw [el]at e;split at e
  ·rename_i hm
   exact ⟨x,m.labs[x],List.getElem?_eq_getElem hx',(hasN_iff _ _).1 hm,(Option.some.inj e).symm⟩
  ·cases e
 ·rintro ⟨x,l,hx,hm,rfl⟩
  obtain ⟨hx',e⟩:=List.getElem?_eq_some_iff.1 hx;have el:labAtN m x=l:=by unfold labAtN;rw [hx];rfl
  exact ⟨x,List.mem_range.2 hx',by unfold labSc;rw [el,if_pos ((hasN_iff _ _).2 hm)]⟩
theorem numC_lt{g h:Nat}{p:Pc}(h1:p.1<g)(h2:p.2<h):numC h p<g*h:=by
 unfold numC;have:=Nat.mul_le_mul_right h (show p.1+1≤g from h1)
 rw [Nat.add_mul,Nat.one_mul]at this;omega
theorem numC_inj{h:Nat}{p q:Pc}(h1:p.2<h)(h2:q.2<h)(e:numC h p=numC h q):p=q:=by
 obtain ⟨a,b⟩:=p;obtain ⟨a',b'⟩:=q;unfold numC at e;simp only at e h1 h2;have e2:a=a':=by
  rcases Nat.lt_trichotomy a a' with hl|hl|hl
  ·have:=Nat.mul_le_mul_right h (show a+1≤a' from hl)
   rw [Nat.add_mul,Nat.one_mul]at this;omega
  ·exact hl
  ·have:=Nat.mul_le_mul_right h (show a'+1≤a from hl)
   rw [Nat.add_mul,Nat.one_mul]at this;omega
 subst e2;have e3:b=b':=by omega
 rw [e3]
theorem kd_inv{n:Nd}(h:okN n):kdD (kdD n.kind)=n.kind:=by
 have a:=okN_cases h;have h1:n.kind=1∨n.kind=2∨n.kind=3∨n.kind=4∨n.kind=5∨n.kind=6∨n.kind=7:=by omega
 rcases h1 with h|h|h|h|h|h|h <;> (rw [h];decide)
theorem kd_turn{m n:Nd}(_:okN m):n.kind=kdD m.kind→(m.kind=2→n.kind=3)∧(m.kind=3→n.kind=2)∧(m.kind=4→n.kind=5)∧(m.kind=5→n.kind=4)∧(m.kind=6→n.kind=7)∧(m.kind=7→n.kind=6)∧(m.kind=1→n.kind=1):=by
 intro h;have:=kdD_cases m.kind;rw [h];exact this
theorem on_parts{g h:List Nd}{m n:Nd}(ho:onB g h m n=true):n.kind=kdD m.kind∧n.so=m.so∧(m.kind=4→belB g h (toAt m 0) (toAt n 0)=true)∧(m.kind=5→belB h g (toAt n 0) (toAt m 0)=true)∧(m.kind=6→∀l∈m.labs,l∈n.labs)∧(m.kind=7→∀l∈n.labs,l∈m.labs):=by
 unfold onB at ho;by_cases h1:n.kind≠kdD m.kind∨n.so≠m.so
 ·rw [if_pos h1]at ho;cases ho
 rw [if_neg h1]at ho;have a:n.kind=kdD m.kind:=Decidable.byContradiction fun q=>h1 (.inl q)
 have b:n.so=m.so:=Decidable.byContradiction fun q=>h1 (.inr q)
 refine ⟨a,b,fun hk=>?_,fun hk=>?_,fun hk=>?_,fun hk=>?_⟩
 ·rw [if_pos hk]at ho;exact ho
 ·rw [if_neg (by omega),if_pos hk]at ho;exact ho
 ·rw [if_neg (by omega),if_neg (by omega),if_pos hk]at ho
  intro l hl;exact (hasN_iff _ _).1 (List.all_eq_true.1 ho l hl)
 ·rw [if_neg (by omega),if_neg (by omega),if_neg (by omega),if_pos hk]at ho
  intro l hl;exact (hasN_iff _ _).1 (List.all_eq_true.1 ho l hl)
theorem on_of{g h:List Nd}{m n:Nd}(a:n.kind=kdD m.kind)(b:n.so=m.so)(h4:m.kind=4→belB g h (toAt m 0) (toAt n 0)=true)(h5:m.kind=5→belB h g (toAt n 0) (toAt m 0)=true)(h6:m.kind=6→∀l∈m.labs,l∈n.labs)(h7:m.kind=7→∀l∈n.labs,l∈m.labs):onB g h m n=true:=by
 unfold onB;rw [if_neg (by rintro (q|q);exact q a;exact q b)]
 by_cases k4:m.kind=4
 ·rw [if_pos k4];exact h4 k4
 rw [if_neg k4];by_cases k5:m.kind=5
 ·rw [if_pos k5];exact h5 k5
 rw [if_neg k5];by_cases k6:m.kind=6
 ·rw [if_pos k6];exact List.all_eq_true.2 fun l hl=>(hasN_iff _ _).2 (h6 k6 l hl)
 rw [if_neg k6];by_cases k7:m.kind=7
 ·rw [if_pos k7];exact List.all_eq_true.2 fun l hl=>(hasN_iff _ _).2 (h7 k7 l hl)
 rw [if_neg k7]
theorem failC_on{g h:List Nd}{p:Pc}:failC g h p=false↔onB g h (nodeAt g p.1) (nodeAt h p.2)=true:=by
 unfold failC;cases onB g h (nodeAt g p.1) (nodeAt h p.2) <;> simp
theorem comply_wld{g h:List Nd}(hg:GN g)(hh:GN h):WLD (failC g h) (nextC g h) (okC g h) (numC h.length) (g.length*h.length):=by
 refine ⟨fun p hp hf s hs=>?_,fun _ hp=>numC_lt hp.1 hp.2,fun _ _ hp hq e=>numC_inj hp.2 hq.2 e⟩
 obtain ⟨a,b,_,_,_,_⟩:=on_parts (failC_on.1 hf);have lg:=okN_len (hg.at_ hp.1);have lh:=okN_len (hh.at_ hp.2);have kt:=kd_turn (hg.at_ hp.1) a;unfold nextC stepsC at hs;split at hs
 ·rename_i hc
  rw [List.mem_singleton]at hs;subst hs;exact ⟨hg.to_ 0 (lg.1 hc),hh.to_ 0 (lh.1 (by rcases hc with hc|hc;exact .inr (kt.1 hc);exact .inl (kt.2.1 hc)))⟩
 split at hs
 ·rename_i hc
  rw [List.mem_singleton]at hs;subst hs;exact ⟨hg.to_ 1 (lg.2.1 hc),hh.to_ 1 (lh.2.1 (by rcases hc with hc|hc;exact .inr (kt.2.2.1 hc);exact .inl (kt.2.2.2.1 hc)))⟩
 ·obtain ⟨x,l,hx,hm,rfl⟩:=mem_labC.1 hs
  exact ⟨hg.to_ x (lg.2.2 x (List.getElem?_eq_some_iff.1 hx).1),hh.to_ _ (lh.2.2 _ (idxB_lt hm))⟩
theorem labs_nil{m:Nd}(h:okN m)(hk:¬(m.kind=6∨m.kind=7)):m.labs=[]:=by
 rcases okN_cases h with ⟨_,_,h,_⟩|⟨_,_,h,_⟩|⟨_,_,h,_⟩|⟨h,_⟩
 ·exact h
 ·exact h
 ·exact h
 ·exact absurd h hk
theorem all_bl{g h:List Nd}(hg:GN g)(hh:GN h)(lh:h.length≤100):∀(n i j:Nat),i<g.length→j<h.length→(∀N,allG (failC g h) (nextC g h) N (i,j))→bl n (othG h) g j i
 | 0,_,_,_,_,_=>trivial
 | n+1,i,j,hi,hj,H=>by
  have ih:=all_bl hg hh lh n;have hO:=oth_gn hh lh;have ho:onB g h (nodeAt g i) (nodeAt h j)=true:=failC_on.1 (H 1).1;have hnx:∀s∈nextC g h (i,j),∀N,allG (failC g h) (nextC g h) N s.2:=fun s hs N=>(H (N+1)).2 s hs
  have hlt:∀s∈nextC g h (i,j),okC g h s.2:=fun s hs=>(comply_wld hg hh).step (i,j) ⟨hi,hj⟩ (H 1).1 s hs
  obtain ⟨a,b,h4,h5,h6,h7⟩:=on_parts ho;have om:=hg.at_ hi;have on:=hh.at_ hj;have kt:=kd_turn om a;have kv:kdD (nodeAt h j).kind=(nodeAt g i).kind:=by rw [a];exact kd_inv om
  have lm:=okN_len om;have ln:=okN_len on;have tl:=fun (h:¬((nodeAt g i).kind=6∨(nodeAt g i).kind=7))=>labs_nil om h
  have tl2:=fun (h:¬((nodeAt h j).kind=6∨(nodeAt h j).kind=7))=>labs_nil on h
  have kd:(nodeAt g i).kind=1∨(nodeAt g i).kind=2∨(nodeAt g i).kind=3∨(nodeAt g i).kind=4∨(nodeAt g i).kind=5∨(nodeAt g i).kind=6∨(nodeAt g i).kind=7:=by have:=okN_cases om;omega
  rw [bl_succ,oth_at1 hj];refine ⟨⟨kv,b,?_⟩,fun hk=>?_,fun hk=>?_,fun hk=>?_,fun x y l hx hy=>?_⟩
  ·show if kdD (nodeAt h j).kind=7 then ∀l∈(nodeAt h j).labs,l∈(nodeAt g i).labs else ∀l∈(nodeAt g i).labs,l∈(nodeAt h j).labs
   rw [kv];by_cases k7:(nodeAt g i).kind=7
   ·rw [if_pos k7];exact h7 k7
   ·rw [if_neg k7]
    by_cases k6:(nodeAt g i).kind=6
    ·exact h6 k6
    ·rw [tl (by omega)];intro l hl;cases hl
  ·have hk':(nodeAt g i).kind=2∨(nodeAt g i).kind=3:=by rw [← kv];exact hk
   have hs:((dotB,toAt (nodeAt g i) 0,toAt (nodeAt h j) 0):Sg Pc)∈nextC g h (i,j):=by unfold nextC stepsC;rw [if_pos hk'];exact .head _
   rw [tuL_x (by have:=kt.1;have:=kt.2.1;omega)]
   exact ih _ _ (hlt _ hs).1 (hlt _ hs).2 (hnx _ hs)
  ·have hk':(nodeAt g i).kind=4:=by rw [← kv];exact hk
   have hn5:=kt.2.2.1 hk';have hs:((dotB,toAt (nodeAt g i) 1,toAt (nodeAt h j) 1):Sg Pc)∈nextC g h (i,j):=by unfold nextC stepsC;rw [if_neg (by simp only;omega),if_pos (.inl hk')];exact .head _
   obtain ⟨t0,t1⟩:=tuL_0 (N:=h.length) (.inr hn5) (ln.2.1 (.inr hn5));rw [t0,t1];have m0:=hg.to_ 0 (i:=i) (by have:=lm.2.1 (.inl hk');omega)
   have n0:=hh.to_ 0 (i:=j) (by have:=ln.2.1 (.inr hn5);omega)
   refine ⟨?_,ih _ _ (hlt _ hs).1 (hlt _ hs).2 (hnx _ hs)⟩;exact (bl_resp hg hh hg hO m0 n0 m0 (by rw [oth_len];omega) rfl (oth_kept hh n _ n0)).2 ((belB_iff hg hh m0 n0).1 (h4 hk') n)
  ·have hk':(nodeAt g i).kind=5:=by rw [← kv];exact hk
   have hn4:=kt.2.2.2.1 hk';have hs:((dotB,toAt (nodeAt g i) 1,toAt (nodeAt h j) 1):Sg Pc)∈nextC g h (i,j):=by unfold nextC stepsC;rw [if_neg (by simp only;omega),if_pos (.inr hk')];exact .head _
   obtain ⟨t0,t1⟩:=tuL_0 (N:=h.length) (.inl hn4) (ln.2.1 (.inl hn4));rw [t0,t1];have m0:=hg.to_ 0 (i:=i) (by have:=lm.2.1 (.inr hk');omega)
   have n0:=hh.to_ 0 (i:=j) (by have:=ln.2.1 (.inl hn4);omega)
   refine ⟨?_,ih _ _ (hlt _ hs).1 (hlt _ hs).2 (hnx _ hs)⟩;exact (bl_resp hh hg hO hg n0 m0 (by rw [oth_len];omega) m0 (oth_kept hh n _ n0) rfl).2 ((belB_iff hh hg n0 m0).1 (h5 hk') n)
  ·have hx':(nodeAt h j).labs[x]? = some l:=hx
   have hk:(nodeAt g i).kind=6∨(nodeAt g i).kind=7:=Decidable.byContradiction fun q=>by rw [tl q]at hy;simp at hy
   have hs:((l,toAt (nodeAt g i) y,toAt (nodeAt h j) (idxB (nodeAt h j).labs l)):Sg Pc)∈nextC g h (i,j):=by
    unfold nextC stepsC;rw [if_neg (by simp only;omega),if_neg (by simp only;omega)]
    exact mem_labC.2 ⟨y,l,hy,List.mem_of_getElem? hx',rfl⟩
   have e:=idx_rises (okN_rises on) hx';rw [e]at hs;rw [tuL_x (by have:=kt.2.2.2.2.1;have:=kt.2.2.2.2.2.1;omega)]
   exact ih _ _ (hlt _ hs).1 (hlt _ hs).2 (hnx _ hs)
theorem bl_all{g h:List Nd}(hg:GN g)(hh:GN h)(lh:h.length≤100):∀(N i j:Nat),i<g.length→j<h.length→(∀n,bl n (othG h) g j i)→allG (failC g h) (nextC g h) N (i,j)
 | 0,_,_,_,_,_=>trivial
 | N+1,i,j,hi,hj,H=>by
  have ih:=bl_all hg hh lh N;have hO:=oth_gn hh lh;have om:=hg.at_ hi;have on:=hh.at_ hj;have lm:=okN_len om;have ln:=okN_len on;have H':=fun n=>(bl_succ n (othG h) g j i).1 (H (n+1))
  rw [oth_at1 hj]at H';obtain ⟨⟨kv,b,hl⟩,_⟩:=H' 0;have kv:kdD (nodeAt h j).kind=(nodeAt g i).kind:=kv;have a:(nodeAt h j).kind=kdD (nodeAt g i).kind:=by rw [← kv];exact (kd_inv on).symm
  have kt:=kd_turn om a;have hl:if kdD (nodeAt h j).kind=7 then ∀l∈(nodeAt h j).labs,l∈(nodeAt g i).labs else ∀l∈(nodeAt g i).labs,l∈(nodeAt h j).labs:=hl
  rw [kv]at hl;have hf:failC g h (i,j)=false:=by
   refine failC_on.2 (on_of a b (fun hk=>?_) (fun hk=>?_) (fun hk=>?_) (fun hk=>?_))
   ·have hn5:=kt.2.2.1 hk
    have m0:=hg.to_ 0 (i:=i) (by have:=lm.2.1 (.inl hk);omega)
    have n0:=hh.to_ 0 (i:=j) (by have:=ln.2.1 (.inr hn5);omega)
    obtain ⟨t0,t1⟩:=tuL_0 (N:=h.length) (.inr hn5) (ln.2.1 (.inr hn5));refine (belB_iff hg hh m0 n0).2 fun n=>?_
    have:=((H' n).2.2.1 (by show kdD _=4;rw [kv];exact hk)).1
    rw [t0]at this;exact (bl_resp hg hh hg hO m0 n0 m0 (by rw [oth_len];omega) rfl (oth_kept hh n _ n0)).1 this
   ·have hn4:=kt.2.2.2.1 hk
    have m0:=hg.to_ 0 (i:=i) (by have:=lm.2.1 (.inr hk);omega)
    have n0:=hh.to_ 0 (i:=j) (by have:=ln.2.1 (.inl hn4);omega)
    obtain ⟨t0,t1⟩:=tuL_0 (N:=h.length) (.inl hn4) (ln.2.1 (.inl hn4));refine (belB_iff hh hg n0 m0).2 fun n=>?_
    have:=((H' n).2.2.2.1 (by show kdD _=5;rw [kv];exact hk)).1
    rw [t0]at this;exact (bl_resp hh hg hO hg n0 m0 (by rw [oth_len];omega) m0 (oth_kept hh n _ n0) rfl).1 this
   ·simp only at hk ⊢
    rw [if_neg (by omega)]at hl;exact hl
   ·simp only at hk ⊢
    rw [if_pos hk]at hl;exact hl
  refine ⟨hf,fun s hs=>?_⟩
  have hlt:okC g h s.2:=(comply_wld hg hh).step (i,j) ⟨hi,hj⟩ hf s hs;have go:(∀n,bl n (othG h) g s.2.2 s.2.1)→allG (failC g h) (nextC g h) N s.2:=fun q=>ih s.2.1 s.2.2 hlt.1 hlt.2 q
  refine go fun n=>?_
  unfold nextC stepsC at hs;split at hs
  ·rename_i hc
   rw [List.mem_singleton]at hs;subst hs;have:=(H' n).2.1 (by show kdD _=2∨kdD _=3;rw [kv];exact hc)
   simp only at hc;rw [tuL_x (by have:=kt.1;have:=kt.2.1;omega)]at this
   exact this
  split at hs
  ·rename_i hc
   rw [List.mem_singleton]at hs;subst hs;simp only at hc;rcases hc with hc|hc
   ·have:=((H' n).2.2.1 (by show kdD _=4;rw [kv];exact hc)).2
    rw [(tuL_0 (N:=h.length) (.inr (kt.2.2.1 hc)) (ln.2.1 (.inr (kt.2.2.1 hc)))).2]at this;exact this
   ·have:=((H' n).2.2.2.1 (by show kdD _=5;rw [kv];exact hc)).2
    rw [(tuL_0 (N:=h.length) (.inl (kt.2.2.2.1 hc)) (ln.2.1 (.inl (kt.2.2.2.1 hc)))).2]at this;exact this
  ·rename_i hc1 hc2
   simp only at hc1 hc2;obtain ⟨x,l,hx,hm,rfl⟩:=mem_labC.1 hs;have h1:=idxB_lt hm;have hx:(nodeAt g i).labs[x]? = some l:=hx;have hk:(nodeAt g i).kind=6∨(nodeAt g i).kind=7:=Decidable.byContradiction fun q=>by rw [labs_nil om q]at hx;simp at hx
   have:=(H' n).2.2.2.2 _ x l (show (nodeAt h j).labs[_]? = some l by rw [List.getElem?_eq_getElem h1,idxB_at h1]) hx
   rw [tuL_x (by have:=kt.2.2.2.2.1;have:=kt.2.2.2.2.2.1;omega)]at this
   exact this
def srC(g h:List Nd):Option Nat × List (Ag Pc):=srGA (failC g h) (nextC g h) (g.length*h.length) (0,0)
theorem comply_iff{g h:List Nd}(hg:GN g)(hh:GN h)(lh:h.length≤100):(srC g h).1=none↔∀n,bl n (othG h) g 0 0:=by
 unfold srC;rw [srGA_all (comply_wld hg hh) ⟨hg.pos,hh.pos⟩];exact ⟨fun H n=>all_bl hg hh lh n 0 0 hg.pos hh.pos H,fun H N=>bl_all hg hh lh N 0 0 hg.pos hh.pos H⟩
theorem nodes_any(g h:List Nd)(ag ah:OAd)(cg ch B m n:Nat)(w:World)(hg:GN g)(hh:GN h)(hga:GAt w B g ag)(hha:GAt w B h ah)(hB:B≤w.heap.size)(hm:m<g.length)(hn:n<h.length):
  Calls Tryz.prog 60 #[.slice ag g.length cg,.int .i64 (m:Int),.slice ah h.length ch,.int .i64 (n:Int)] w fun e w'=>e = .returned (.tuple #[.bool (belB g h m n),.int .i64 0])∧Below w.heap.size w w':=by
 have c1:=checkG_any g ag cg B w hg hga hB;have C2:=hideK (fun (W:World) (hb:Below w.heap.size w W)=>checkG_any h ah ch B W hh (hha.keep (hb.mono hB)) (Nat.le_trans hB hb.size))
 have C3:=hideK (fun (W:World) (hb:Below w.heap.size w W)=>firstFailing_any g h ag ah cg ch B m n W hg hh (hga.keep (hb.mono hB)) (hha.keep (hb.mono hB)) (Nat.le_trans hB hb.size) hm hn)
 have HQ:=hideK (show belB g h m n=(srB g h m n).1.isNone from rfl)
 have hmz:(m:Int)<(g.length:Int):=by omega
 have hnz:(n:Int)<(h.length:Int):=by omega
 unfold FFPost at C3;clear hga hha hg hh;go_enter Tryz.func60,Tryz.ntmps60
 go_wp2_with fail
 refine c1.mono ?_;rintro e w1 ⟨rfl,hb1⟩;have c2:=C2.out w1 hb1;have HB:=hideK hb1;clear c1 C2 hb1;go_wp2_with fail
 refine c2.mono ?_;rintro e w2 ⟨rfl,hb2⟩;have HB2:=hideK (HB.out.trans (hb2.mono HB.out.size));have c3:=C3.out w2 HB2.out;clear c2 C3 hb2;go_wp2_with fail
 refine c3.mono ?_;rintro e w3 ⟨hor,hb3⟩;have HB3:=hideK (HB2.out.trans (hb3.mono HB2.out.size));clear c3 hb3;rcases hor with ⟨arr,hsr,rfl⟩|⟨k,arr,hsr,aw,cw,rfl,hla⟩
 ·have HSR:=hideK hsr
  clear hsr;go_wp2_with fail
  go_ret2
  exact ⟨by rw [HQ.out,HSR.out];rfl,HB3.out⟩
 ·have HSR:=hideK hsr
  clear hsr hla;go_wp2_with fail
  go_ret2
  exact ⟨by rw [HQ.out,HSR.out];rfl,HB3.out⟩
theorem hasAllC1_any(x:ByteArray)(ns:List ByteArray)(aa:OAd)(ca B pb:Nat)(w:World)(h:LA w B ns aa)(hl:ns.length≤1000)(hp:w.cell? ⟨pb,0,none⟩=some (.slice aa ns.length ca)):
  Calls Tryz.prog 62 #[.string x,.pointer (some ⟨pb,0,none⟩)] w fun e w'=>e = .returned (.bool (!hasN ns x))∧w'=w:=by
 have c:=containsL_any ns x aa ca B w h hl;generalize hasN ns x=q at *;clear h;go_enter Tryz.func62,Tryz.ntmps62
 go_wp2_with fail
 refine c.mono ?_;rintro e w1 ⟨rfl,rfl⟩;go_wp2_with fail
 go_ret
 exact ⟨rfl,rfl⟩
theorem indexHasC_any(ls ns:List ByteArray)(al:OAd)(cl:Nat)(aa:OAd)(ca B pb:Nat)(w:World)(hL:LA w B ls al)(h:LA w B ns aa)(hl:ls.length≤1000)(hl2:ns.length≤1000)(hp:w.cell? ⟨pb,0,none⟩=some (.slice aa ns.length ca)):
  Calls Tryz.prog 72 #[.slice al ls.length cl,.func (.func 62) #[] #[.pointer (some ⟨pb,0,none⟩)]] w fun e w'=>(∃z:Int,e = .returned (.int .i64 z)∧(0≤z∨z = -1)∧(z = -1↔(ls.all fun l=>hasN ns l)=true))∧w'=w:=by
 have hlz:(ls.length:Int)≤1000:=by omega
 go_enter Tryz.func72,Tryz.ntmps72
 go_wp2_with fail
 go_loopw [8] (fun i wr=>∃k:Nat,k≤ls.length∧i = .int .i64 (k:Int)∧((ls.take k).all fun l=>hasN ns l)=true∧wr=w) (fun i _=>ls.length - (intOf i).toNat)
 case atStart=>exact ⟨0,Nat.zero_le _,rfl,rfl,rfl⟩
 case round =>
  obtain ⟨k,hk,rfl,hn,rfl⟩:=hrel;by_cases hlt:k<ls.length
  ·have hltz:(k:Int)<(ls.length:Int):=by omega
   obtain ⟨b,o,rfl,hbl,hc⟩:=hL.resolve_left (fun q=>by have:=congrArg List.length q;simp at this;rw [this]at hlt;simp at hlt)
   have d0:=hc k (by simpa using hlt)
   rw [List.getElem_map]at d0;have c:=hasAllC1_any ls[k] ns aa ca B pb _ h hl2 hp;cases hq:hasN ns ls[k] with
   | true =>
    rw [hq]at c;have HN:=hideK (show ((ls.take (k+1)).all fun l=>hasN ns l)=true from by
     rw [List.take_succ_eq_append_getElem hlt,List.all_append,hn];simp [hq])
    clear hc hn hq h;generalize ls[k]=y at *;go_wp2_with fail
    refine c.mono ?_;rintro e w1 ⟨rfl,rfl⟩;go_wp2_with fail
    go_roundw
    case rel=>exact ⟨k+1,by omega,by go_num,HN.out,by first|rfl|trivial⟩
    case measure=>simp [intOf];omega
   | false =>
    rw [hq]at c;have HN:=hideK (show ¬(ls.all fun l=>hasN ns l)=true from fun q=>by
     rw [List.all_eq_true]at q;have:=q _ (List.getElem_mem hlt);rw [hq]at this;cases this)
    clear hc hn hq h;generalize ls[k]=y at *;go_wp2_with fail
    refine c.mono ?_;rintro e w1 ⟨rfl,rfl⟩;go_wp2_with fail
    go_ret
    exact ⟨⟨_,rfl,.inl (by omega),⟨fun q=>by omega,fun q=>absurd q HN.out⟩⟩,rfl⟩
  ·have hltz:¬(k:Int)<(ls.length:Int):=by omega
   have hkl:k=ls.length:=by omega
   subst hkl;rw [List.take_length]at hn;have HN:=hideK hn;clear hn;go_wp2_with fail
   go_ret
   exact ⟨⟨_,rfl,.inr rfl,⟨fun _=>by first|exact HN.out|exact List.all_eq_true.1 HN.out,fun _=>rfl⟩⟩,rfl⟩
theorem containsHasC_any(ls ns:List ByteArray)(al:OAd)(cl:Nat)(aa:OAd)(ca B pb:Nat)(w:World)(hL:LA w B ls al)(h:LA w B ns aa)(hl:ls.length≤1000)(hl2:ns.length≤1000)(hp:w.cell? ⟨pb,0,none⟩=some (.slice aa ns.length ca)):
  Calls Tryz.prog 61 #[.slice al ls.length cl,.func (.func 62) #[] #[.pointer (some ⟨pb,0,none⟩)]] w fun e w'=>e = .returned (.bool (!(ls.all fun l=>hasN ns l)))∧w'=w:=by
 have c:=indexHasC_any ls ns al cl aa ca B pb w hL h hl hl2 hp;generalize (ls.all fun l=>hasN ns l)=q at *
 clear h hL;go_enter Tryz.func61,Tryz.ntmps61
 go_wp2_with fail
 refine c.mono ?_;rintro e w1 ⟨⟨z,rfl,hz,hq⟩,rfl⟩;cases q with
 | true =>
  obtain rfl:z = -1:=hq.2 rfl;clear hz hq;go_wp2_with fail
  go_ret
  exact ⟨rfl,rfl⟩
 | false =>
  have hz':decide (z ≥ 0)=true:=by
   rcases hz with hz|hz
   ·simpa using hz
   ·exact absurd (hq.1 hz) (by simp)
  have hz2:(0≤z):=by simpa using hz'
  clear hz hq;go_wp2_with fail
  go_ret
  exact ⟨rfl,rfl⟩
theorem hasAllC_any(ls ns:List ByteArray)(al:OAd)(cl:Nat)(aa:OAd)(ca B:Nat)(w:World)(hL:LA w B ls al)(h:LA w B ns aa)(hB:B≤w.heap.size)(hl:ls.length≤1000)(hl2:ns.length≤1000):
  Calls Tryz.prog 44 #[.slice aa ns.length ca,.slice al ls.length cl] w fun e w'=>e = .returned (.bool (ls.all fun l=>hasN ns l))∧Below w.heap.size w w':=by
 have hA:Below w.heap.size w (w.alloc (.cells #[.slice aa ns.length ca] 22)):=(Below.refl _ _).alloc (Nat.le_refl _) _;have c:=containsHasC_any ls ns al cl aa ca B w.heap.size (w.alloc (.cells #[.slice aa ns.length ca] 22)) (hL.keep (hA.mono hB)) (h.keep (hA.mono hB)) hl hl2 (by go_cell)
 generalize (ls.all fun l=>hasN ns l)=q at *
 have HA:=hideK hA;clear h hL hA;go_enter Tryz.func44,Tryz.ntmps44
 go_wp2_with fail
 refine c.mono ?_;rintro e w1 ⟨rfl,rfl⟩;go_wp2_with fail
 go_ret
 exact ⟨by cases q <;> rfl,HA.out⟩
theorem isBelow_any(g h:List Nd)(ag ah:OAd)(cg ch B m n:Nat)(w:World)(hg:GN g)(hh:GN h)(hga:GAt w B g ag)(hha:GAt w B h ah)(hB:B≤w.heap.size)(hm:m<g.length)(hn:n<h.length):
  Calls Tryz.prog 43 #[.slice ag g.length cg,.int .i64 (m:Int),.slice ah h.length ch,.int .i64 (n:Int)] w fun e w'=>e = .returned (.bool (belB g h m n))∧Below w.heap.size w w':=by
 have c:=nodes_any g h ag ah cg ch B m n w hg hh hga hha hB hm hn;generalize belB g h m n=q at *;clear hga hha hg hh;go_enter Tryz.func43,Tryz.ntmps43
 go_wp2_with fail
 refine c.mono ?_;rintro e w1 ⟨rfl,hb1⟩;have HB:=hideK hb1;clear c hb1;cases q
 all_goals
  go_wp2_with fail
  go_ret
  exact ⟨rfl,HB.out⟩
end Go.Proofs.YtnedgkcejlhnbaaGreatDoor
