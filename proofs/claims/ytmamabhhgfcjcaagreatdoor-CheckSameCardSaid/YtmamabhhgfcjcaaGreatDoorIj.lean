/-
  The contract of below.failsItself; steps in memory; below.stepsFrom of nodes without labels.
-/
import Derived.Test.YtmamabhhgfcjcaaGreatDoorIh
set_option maxRecDepth 100000
set_option maxHeartbeats 8000000
namespace Go.Proofs.YtmamabhhgfcjcaaGreatDoor
open Go.RowKit Go.Shelf
theorem failsItself_any(m n:Nd)(a1 a2 a3 a4:OAd)(c1 c2 c3 c4 B:Nat)(w:World)(h1:LA w B m.labs a1)(h3:LA w B n.labs a3)(hB:B≤w.heap.size)(l1:m.labs.length≤1000)(l3:n.labs.length≤1000):
  Calls Tryz.prog 143 #[ndVal m a1 c1 a2 c2,ndVal n a3 c3 a4 c4] w fun e w'=>e = .returned (.bool (failB m n))∧Below w.heap.size w w':=by
 have cA:=hideK (fun W (hb:Below w.heap.size w W)=>hasAll_any m.labs n.labs a1 c1 a3 c3 B W (h1.keep (hb.mono hB)) (h3.keep (hb.mono hB)) (Nat.le_trans hB hb.size) l1 l3)
 have cB:=hideK (fun W (hb:Below w.heap.size w W)=>hasAll_any n.labs m.labs a3 c3 a1 c1 B W (h3.keep (hb.mono hB)) (h1.keep (hb.mono hB)) (Nat.le_trans hB hb.size) l3 l1)
 have E0:=hideK (EB.new w m n a1 a2 a3 a4 c1 c2 c3 c4);obtain ⟨x0,x1,x2,x3⟩:=E0.out.x;obtain ⟨y0,y1,y2,y3⟩:=E0.out.y;simp only [Nat.zero_add]at x1 x2 x3 y1 y2 y3;simp only [ndVal];clear h1 h3;by_cases hk:m.kind=n.kind
 ·have hkb:(m.kind != n.kind)=false:=by rw [hk];simp
  by_cases hs:m.so=n.so
  ·have hsb:(m.so != n.so)=false:=by rw [hs];simp
   by_cases h7:m.kind=7
   ·have h7b:(m.kind==7)=true:=by rw [h7];rfl
    have HD:=hideK (show failB m n = !(m.labs.all fun l=>hasN n.labs l) from by unfold failB;rw [if_neg (fun h=>h.elim (fun h=>h hk) (fun h=>h hs)),if_pos h7])
    generalize (m.labs.all fun l=>hasN n.labs l)=q at *
    clear hk hs h7 cB;go_enter Tryz.func143,Tryz.ntmps143
    go_wp2_with fail
    refine (cA.out _ E0.out.bl).mono ?_;rintro e w1 ⟨rfl,hb1⟩;have HB:=hideK (E0.out.keep hb1).bl;clear x0 x1 x2 x3 y0 y1 y2 y3 hb1;go_wp2_with fail
    go_ret
    exact ⟨by rw [HD.out];rfl,HB.out⟩
   ·have h7b:(m.kind==7)=false:=by simpa using h7
    have HD:=hideK (show failB m n = !(n.labs.all fun l=>hasN m.labs l) from by unfold failB;rw [if_neg (fun h=>h.elim (fun h=>h hk) (fun h=>h hs)),if_neg h7])
    generalize (n.labs.all fun l=>hasN m.labs l)=q at *
    clear hk hs h7 cA;go_enter Tryz.func143,Tryz.ntmps143
    go_wp2_with fail
    refine (cB.out _ E0.out.bl).mono ?_;rintro e w1 ⟨rfl,hb1⟩;have HB:=hideK (E0.out.keep hb1).bl;clear x0 x1 x2 x3 y0 y1 y2 y3 hb1;go_wp2_with fail
    go_ret
    exact ⟨by rw [HD.out];rfl,HB.out⟩
  ·have hsb:(m.so != n.so)=true:=by simpa using hs
   have HD:=hideK (show failB m n=true from by unfold failB;rw [if_pos (.inr hs)])
   have HB:=hideK E0.out.bl;clear hk hs;go_enter Tryz.func143,Tryz.ntmps143
   go_wp2_with fail
   go_ret
   exact ⟨by rw [HD.out];rfl,HB.out⟩
 ·have hkb:(m.kind != n.kind)=true:=by simpa using hk
  have HD:=hideK (show failB m n=true from by unfold failB;rw [if_pos (.inl hk)])
  have HB:=hideK E0.out.bl;clear hk;go_enter Tryz.func143,Tryz.ntmps143
  go_wp2_with fail
  go_ret
  exact ⟨by rw [HD.out];rfl,HB.out⟩
def sCs(s:Stp):List Value:=[.string s.1,.int .i64 (s.2.1:Int),.int .i64 (s.2.2.1:Int),.bool s.2.2.2]
def stCs(ss:List Stp):List Value:=ss.flatMap sCs
def STL(W:World)(L B:Nat)(ss:List Stp)(a:OAd):Prop:=ss=[]∨∃b o,a=some ⟨b,o,none⟩∧(L≤b∧b<B)∧∀i (h:i<ss.length),W.cell? ⟨b,o+i*4,none⟩=some (.string ss[i].1)∧W.cell? ⟨b,o+i*4+1,none⟩=some (.int .i64 (ss[i].2.1:Int))∧W.cell? ⟨b,o+i*4+2,none⟩=some (.int .i64 (ss[i].2.2.1:Int))∧W.cell? ⟨b,o+i*4+3,none⟩=some (.bool ss[i].2.2.2)
theorem toAt_cell{W:World}{B:Nat}{n:Nd}{at1:OAd}(h:NI W B n.to at1){i:Nat}(hi:i<n.to.length):∃b o,at1=some ⟨b,o,none⟩∧b<B∧W.cell? ⟨b,o+i,none⟩=some (.int .i64 (toAt n i:Int)):=by
 obtain ⟨b,o,rfl,hb,hc⟩:=h.resolve_left (fun q=>by have:=congrArg List.length q;simp at this;rw [this]at hi;simp at hi)
 refine ⟨b,o,rfl,hb,?_⟩;rw [hc i (by simpa using hi),List.getElem_map]
 unfold toAt;rw [List.getElem?_eq_getElem hi];rfl
theorem stl_one(W:World)(L:Nat)(hL:L≤W.heap.size)(s:Stp)(ty:TypeId):STL (W.alloc (.cells #[.string s.1,.int .i64 (s.2.1:Int),.int .i64 (s.2.2.1:Int),.bool s.2.2.2] ty)).drew L (W.alloc (.cells #[.string s.1,.int .i64 (s.2.1:Int),.int .i64 (s.2.2.1:Int),.bool s.2.2.2] ty)).drew.heap.size [s] (some ⟨W.heap.size,0,none⟩):=by
 refine .inr ⟨W.heap.size,0,rfl,⟨hL,by simp⟩,fun i hi=>?_⟩
 obtain rfl:i=0:=by simp at hi;omega
 exact ⟨by go_cell,by go_cell,by go_cell,by go_cell⟩
theorem stl_two(W:World)(L:Nat)(hL:L≤W.heap.size)(s r:Stp)(ty:TypeId):STL (W.alloc (.cells #[.string s.1,.int .i64 (s.2.1:Int),.int .i64 (s.2.2.1:Int),.bool s.2.2.2,.string r.1,.int .i64 (r.2.1:Int),.int .i64 (r.2.2.1:Int),.bool r.2.2.2] ty)).drew L (W.alloc (.cells #[.string s.1,.int .i64 (s.2.1:Int),.int .i64 (s.2.2.1:Int),.bool s.2.2.2,.string r.1,.int .i64 (r.2.1:Int),.int .i64 (r.2.2.1:Int),.bool r.2.2.2] ty)).drew.heap.size [s,r] (some ⟨W.heap.size,0,none⟩):=by
 refine .inr ⟨W.heap.size,0,rfl,⟨hL,by simp⟩,fun i hi=>?_⟩
 have h2:i=0∨i=1:=by simp at hi;omega
 rcases h2 with rfl|rfl
 ·exact ⟨by go_cell,by go_cell,by go_cell,by go_cell⟩
 ·exact ⟨by go_cell,by go_cell,by go_cell,by go_cell⟩
theorem steps_one(m n:Nd)(t:Bool)(a1 a2 a3 a4:OAd)(c1 c2 c3 c4 B:Nat)(w:World)(h2:NI w B m.to a2)(h4:NI w B n.to a4)(hB:B≤w.heap.size)(hk:m.kind=2∨m.kind=3)(l2:m.to.length=1)(l4:n.to.length=1):
  Calls Tryz.prog 121 #[ndVal m a1 c1 a2 c2,ndVal n a3 c3 a4 c4,.bool t] w fun e w'=>(∃ast cst,e = .returned (.slice ast (stepsP m n t).length cst)∧STL w' w.heap.size w'.heap.size (stepsP m n t) ast)∧Below w.heap.size w w':=by
 have hst:stepsP m n t=[(dotB,toAt m 0,toAt n 0,t)]:=by unfold stepsP;rw [if_pos hk]
 rw [hst];have E0:=hideK (EB.new w m n a1 a2 a3 a4 c1 c2 c3 c4);obtain ⟨x0,x1,x2,x3⟩:=E0.out.x;obtain ⟨y0,y1,y2,y3⟩:=E0.out.y;simp only [Nat.zero_add]at x1 x2 x3 y1 y2 y3;have hbB:=E0.out.bl.mono hB;obtain ⟨b2,o2,rfl,hb2,d2⟩:=toAt_cell (h2.keep hbB) (i:=0) (by omega)
 obtain ⟨b4,o4,rfl,hb4,d4⟩:=toAt_cell (h4.keep hbB) (i:=0) (by omega)
 rw [Nat.add_zero]at d2 d4;rw [l2,l4]at E0 x0 x1 x2 x3 y0 y1 y2 y3 d2 d4;simp only [ndVal,l2,l4];generalize toAt m 0=p at *;generalize toAt n 0=q at *;have sk:∀(W W':World),(fun W:World=>W.cell? ⟨w.heap.size,3,none⟩=some (.slice (some ⟨b2,o2,none⟩) 1 c2)∧W.cell? ⟨w.heap.size+1,3,none⟩=some (.slice (some ⟨b4,o4,none⟩) 1 c4)∧W.cell? ⟨b2,o2,none⟩=some (.int .i64 (p:Int))∧W.cell? ⟨b4,o4,none⟩=some (.int .i64 (q:Int))) W→Below (w.heap.size+1+1) W W'→(fun W:World=>W.cell? ⟨w.heap.size,3,none⟩=some (.slice (some ⟨b2,o2,none⟩) 1 c2)∧W.cell? ⟨w.heap.size+1,3,none⟩=some (.slice (some ⟨b4,o4,none⟩) 1 c4)∧W.cell? ⟨b2,o2,none⟩=some (.int .i64 (p:Int))∧W.cell? ⟨b4,o4,none⟩=some (.int .i64 (q:Int))) W':=fun W W' hs hb=>⟨(hb.cell (p:=⟨w.heap.size,3,none⟩) (by show w.heap.size<_;omega)).trans hs.1,(hb.cell (p:=⟨w.heap.size+1,3,none⟩) (by show w.heap.size+1<_;omega)).trans hs.2.1,(hb.cell (p:=⟨b2,o2,none⟩) (by show b2<_;omega)).trans hs.2.2.1,(hb.cell (p:=⟨b4,o4,none⟩) (by show b4<_;omega)).trans hs.2.2.2⟩
 have HS0:=hideK (show (fun W:World=>W.cell? ⟨w.heap.size,3,none⟩=some (.slice (some ⟨b2,o2,none⟩) 1 c2)∧W.cell? ⟨w.heap.size+1,3,none⟩=some (.slice (some ⟨b4,o4,none⟩) 1 c4)∧W.cell? ⟨b2,o2,none⟩=some (.int .i64 (p:Int))∧W.cell? ⟨b4,o4,none⟩=some (.int .i64 (q:Int))) ((w.alloc (.cells #[.int .i64 m.kind,.int .i64 m.so,.slice a1 m.labs.length c1,.slice (some ⟨b2,o2,none⟩) 1 c2] 102)).alloc (.cells #[.int .i64 n.kind,.int .i64 n.so,.slice a3 n.labs.length c3,.slice (some ⟨b4,o4,none⟩) 1 c4] 102)).drew from ⟨x3,y3,d2,d4⟩)
 have HSX:=hideK (show ∀o:Obj,(fun W:World=>W.cell? ⟨w.heap.size,3,none⟩=some (.slice (some ⟨b2,o2,none⟩) 1 c2)∧W.cell? ⟨w.heap.size+1,3,none⟩=some (.slice (some ⟨b4,o4,none⟩) 1 c4)∧W.cell? ⟨b2,o2,none⟩=some (.int .i64 (p:Int))∧W.cell? ⟨b4,o4,none⟩=some (.int .i64 (q:Int))) (((w.alloc (.cells #[.int .i64 m.kind,.int .i64 m.so,.slice a1 m.labs.length c1,.slice (some ⟨b2,o2,none⟩) 1 c2] 102)).alloc (.cells #[.int .i64 n.kind,.int .i64 n.so,.slice a3 n.labs.length c3,.slice (some ⟨b4,o4,none⟩) 1 c4] 102)).alloc o).drew from fun o=>sk _ _ HS0.out (by rw [← alloc_drew];exact (bR _ _).alloc (by simp) _))
 have HF:=hideK (stl_one ((w.alloc (.cells #[.int .i64 m.kind,.int .i64 m.so,.slice a1 m.labs.length c1,.slice (some ⟨b2,o2,none⟩) 1 c2] 102)).alloc (.cells #[.int .i64 n.kind,.int .i64 n.so,.slice a3 n.labs.length c3,.slice (some ⟨b4,o4,none⟩) 1 c4] 102)) w.heap.size (by simp;omega) (dotB,p,q,t) 188)
 have HB:=hideK (show Below w.heap.size w (((w.alloc (.cells #[.int .i64 m.kind,.int .i64 m.so,.slice a1 m.labs.length c1,.slice (some ⟨b2,o2,none⟩) 1 c2] 102)).alloc (.cells #[.int .i64 n.kind,.int .i64 n.so,.slice a3 n.labs.length c3,.slice (some ⟨b4,o4,none⟩) 1 c4] 102)).alloc (.cells #[.string dotB,.int .i64 (p:Int),.int .i64 (q:Int),.bool t] 188)).drew from (E0.out.bl.alloc E0.out.bl.size _).drew)
 have hsz:((w.alloc (.cells #[.int .i64 m.kind,.int .i64 m.so,.slice a1 m.labs.length c1,.slice (some ⟨b2,o2,none⟩) 1 c2] 102)).alloc (.cells #[.int .i64 n.kind,.int .i64 n.so,.slice a3 n.labs.length c3,.slice (some ⟨b4,o4,none⟩) 1 c4] 102)).heap.size=w.heap.size+1+1:=by simp
 rw [hsz]at HF;have hk2:(m.kind==2)=true∨((m.kind==2)=false∧(m.kind==3)=true):=by
  rcases hk with h|h
  ·exact .inl (by rw [h];rfl)
  ·exact .inr ⟨by rw [h];rfl,by rw [h];rfl⟩
 clear h2 h4 hk hbB hst l2 l4 d2 d4 sk hsz;rcases hk2 with k2|⟨k2,k3⟩
 all_goals
  go_enter Tryz.func121,Tryz.ntmps121
  go_wp2_with fail
  go_region_held3 (fun W:World=>W.cell? ⟨w.heap.size,3,none⟩=some (.slice (some ⟨b2,o2,none⟩) 1 c2)∧W.cell? ⟨w.heap.size+1,3,none⟩=some (.slice (some ⟨b4,o4,none⟩) 1 c4)∧W.cell? ⟨b2,o2,none⟩=some (.int .i64 (p:Int))∧W.cell? ⟨b4,o4,none⟩=some (.int .i64 (q:Int))) (first|exact HS0.out|exact HSX.out _|assumption) (fail)
  go_wp2_with fail
  go_ret
  exact ⟨⟨_,_,rfl,HF.out⟩,HB.out⟩
theorem steps_two(m n:Nd)(t:Bool)(a1 a2 a3 a4:OAd)(c1 c2 c3 c4 B:Nat)(w:World)(h2:NI w B m.to a2)(h4:NI w B n.to a4)(hB:B≤w.heap.size)(hk:m.kind=4∨m.kind=5)(l2:m.to.length=2)(l4:n.to.length=2):
  Calls Tryz.prog 121 #[ndVal m a1 c1 a2 c2,ndVal n a3 c3 a4 c4,.bool t] w fun e w'=>(∃ast cst,e = .returned (.slice ast (stepsP m n t).length cst)∧STL w' w.heap.size w'.heap.size (stepsP m n t) ast)∧Below w.heap.size w w':=by
 have hst:stepsP m n t=[(capB,toAt m 0,toAt n 0,t != (m.kind==4)),(dotB,toAt m 1,toAt n 1,t)]:=by
  unfold stepsP;rw [if_neg (by omega),if_pos hk]
  rfl
 rw [hst];have E0:=hideK (EB.new w m n a1 a2 a3 a4 c1 c2 c3 c4);obtain ⟨x0,x1,x2,x3⟩:=E0.out.x;obtain ⟨y0,y1,y2,y3⟩:=E0.out.y;simp only [Nat.zero_add]at x1 x2 x3 y1 y2 y3;have hbB:=E0.out.bl.mono hB;obtain ⟨b2,o2,rfl,hb2,d2⟩:=toAt_cell (h2.keep hbB) (i:=0) (by omega)
 obtain ⟨b4,o4,rfl,hb4,d4⟩:=toAt_cell (h4.keep hbB) (i:=0) (by omega)
 obtain ⟨b2',o2',e2,_,f2⟩:=toAt_cell (h2.keep hbB) (i:=1) (by omega)
 obtain ⟨b4',o4',e4,_,f4⟩:=toAt_cell (h4.keep hbB) (i:=1) (by omega)
 simp only [Option.some.injEq,Addr.mk.injEq,and_true]at e2 e4;obtain ⟨rfl,rfl⟩:=e2;obtain ⟨rfl,rfl⟩:=e4;rw [Nat.add_zero]at d2 d4;rw [l2,l4]at E0 x0 x1 x2 x3 y0 y1 y2 y3 d2 d4 f2 f4;simp only [ndVal,l2,l4];generalize toAt m 0=p at *;generalize toAt n 0=q at *;generalize toAt m 1=p2 at *;generalize toAt n 1=q2 at *;have sk:∀(W W':World),(fun W:World=>W.cell? ⟨w.heap.size,0,none⟩=some (.int .i64 m.kind)∧W.cell? ⟨w.heap.size,3,none⟩=some (.slice (some ⟨b2,o2,none⟩) 2 c2)∧W.cell? ⟨w.heap.size+1,3,none⟩=some (.slice (some ⟨b4,o4,none⟩) 2 c4)∧W.cell? ⟨b2,o2,none⟩=some (.int .i64 (p:Int))∧W.cell? ⟨b4,o4,none⟩=some (.int .i64 (q:Int))∧W.cell? ⟨b2,o2+1,none⟩=some (.int .i64 (p2:Int))∧W.cell? ⟨b4,o4+1,none⟩=some (.int .i64 (q2:Int))) W→Below (w.heap.size+1+1) W W'→(fun W:World=>W.cell? ⟨w.heap.size,0,none⟩=some (.int .i64 m.kind)∧W.cell? ⟨w.heap.size,3,none⟩=some (.slice (some ⟨b2,o2,none⟩) 2 c2)∧W.cell? ⟨w.heap.size+1,3,none⟩=some (.slice (some ⟨b4,o4,none⟩) 2 c4)∧W.cell? ⟨b2,o2,none⟩=some (.int .i64 (p:Int))∧W.cell? ⟨b4,o4,none⟩=some (.int .i64 (q:Int))∧W.cell? ⟨b2,o2+1,none⟩=some (.int .i64 (p2:Int))∧W.cell? ⟨b4,o4+1,none⟩=some (.int .i64 (q2:Int))) W':=fun W W' hs hb=>⟨(hb.cell (p:=⟨w.heap.size,0,none⟩) (by show w.heap.size<_;omega)).trans hs.1,(hb.cell (p:=⟨w.heap.size,3,none⟩) (by show w.heap.size<_;omega)).trans hs.2.1,(hb.cell (p:=⟨w.heap.size+1,3,none⟩) (by show w.heap.size+1<_;omega)).trans hs.2.2.1,(hb.cell (p:=⟨b2,o2,none⟩) (by show b2<_;omega)).trans hs.2.2.2.1,(hb.cell (p:=⟨b4,o4,none⟩) (by show b4<_;omega)).trans hs.2.2.2.2.1,(hb.cell (p:=⟨b2,o2+1,none⟩) (by show b2<_;omega)).trans hs.2.2.2.2.2.1,(hb.cell (p:=⟨b4,o4+1,none⟩) (by show b4<_;omega)).trans hs.2.2.2.2.2.2⟩
 have sk3:∀(bb:Bool) (W W':World),(fun W:World=>W.cell? ⟨w.heap.size,3,none⟩=some (.slice (some ⟨b2,o2,none⟩) 2 c2)∧W.cell? ⟨w.heap.size+1,3,none⟩=some (.slice (some ⟨b4,o4,none⟩) 2 c4)∧W.cell? ⟨b2,o2+1,none⟩=some (.int .i64 (p2:Int))∧W.cell? ⟨b4,o4+1,none⟩=some (.int .i64 (q2:Int))∧W.cell? ⟨w.heap.size+1+1,0,none⟩=some (.int .i64 (p:Int))∧W.cell? ⟨w.heap.size+1+1,1,none⟩=some (.int .i64 (q:Int))∧W.cell? ⟨w.heap.size+1+1,2,none⟩=some (.bool bb)) W→Below (w.heap.size+1+1+1) W W'→(fun W:World=>W.cell? ⟨w.heap.size,3,none⟩=some (.slice (some ⟨b2,o2,none⟩) 2 c2)∧W.cell? ⟨w.heap.size+1,3,none⟩=some (.slice (some ⟨b4,o4,none⟩) 2 c4)∧W.cell? ⟨b2,o2+1,none⟩=some (.int .i64 (p2:Int))∧W.cell? ⟨b4,o4+1,none⟩=some (.int .i64 (q2:Int))∧W.cell? ⟨w.heap.size+1+1,0,none⟩=some (.int .i64 (p:Int))∧W.cell? ⟨w.heap.size+1+1,1,none⟩=some (.int .i64 (q:Int))∧W.cell? ⟨w.heap.size+1+1,2,none⟩=some (.bool bb)) W':=fun bb=>by exact fun W W' hs hb=>⟨(hb.cell (p:=⟨w.heap.size,3,none⟩) (by show w.heap.size<_;omega)).trans hs.1,(hb.cell (p:=⟨w.heap.size+1,3,none⟩) (by show w.heap.size+1<_;omega)).trans hs.2.1,(hb.cell (p:=⟨b2,o2+1,none⟩) (by show b2<_;omega)).trans hs.2.2.1,(hb.cell (p:=⟨b4,o4+1,none⟩) (by show b4<_;omega)).trans hs.2.2.2.1,(hb.cell (p:=⟨w.heap.size+1+1,0,none⟩) (by show w.heap.size+1+1<_;omega)).trans hs.2.2.2.2.1,(hb.cell (p:=⟨w.heap.size+1+1,1,none⟩) (by show w.heap.size+1+1<_;omega)).trans hs.2.2.2.2.2.1,(hb.cell (p:=⟨w.heap.size+1+1,2,none⟩) (by show w.heap.size+1+1<_;omega)).trans hs.2.2.2.2.2.2⟩
 have HS0:=hideK (show (fun W:World=>W.cell? ⟨w.heap.size,0,none⟩=some (.int .i64 m.kind)∧W.cell? ⟨w.heap.size,3,none⟩=some (.slice (some ⟨b2,o2,none⟩) 2 c2)∧W.cell? ⟨w.heap.size+1,3,none⟩=some (.slice (some ⟨b4,o4,none⟩) 2 c4)∧W.cell? ⟨b2,o2,none⟩=some (.int .i64 (p:Int))∧W.cell? ⟨b4,o4,none⟩=some (.int .i64 (q:Int))∧W.cell? ⟨b2,o2+1,none⟩=some (.int .i64 (p2:Int))∧W.cell? ⟨b4,o4+1,none⟩=some (.int .i64 (q2:Int))) ((w.alloc (.cells #[.int .i64 m.kind,.int .i64 m.so,.slice a1 m.labs.length c1,.slice (some ⟨b2,o2,none⟩) 2 c2] 102)).alloc (.cells #[.int .i64 n.kind,.int .i64 n.so,.slice a3 n.labs.length c3,.slice (some ⟨b4,o4,none⟩) 2 c4] 102)).drew from ⟨x0,x3,y3,d2,d4,f2,f4⟩)
 have HSX:=hideK (show ∀o:Obj,(fun W:World=>W.cell? ⟨w.heap.size,0,none⟩=some (.int .i64 m.kind)∧W.cell? ⟨w.heap.size,3,none⟩=some (.slice (some ⟨b2,o2,none⟩) 2 c2)∧W.cell? ⟨w.heap.size+1,3,none⟩=some (.slice (some ⟨b4,o4,none⟩) 2 c4)∧W.cell? ⟨b2,o2,none⟩=some (.int .i64 (p:Int))∧W.cell? ⟨b4,o4,none⟩=some (.int .i64 (q:Int))∧W.cell? ⟨b2,o2+1,none⟩=some (.int .i64 (p2:Int))∧W.cell? ⟨b4,o4+1,none⟩=some (.int .i64 (q2:Int))) (((w.alloc (.cells #[.int .i64 m.kind,.int .i64 m.so,.slice a1 m.labs.length c1,.slice (some ⟨b2,o2,none⟩) 2 c2] 102)).alloc (.cells #[.int .i64 n.kind,.int .i64 n.so,.slice a3 n.labs.length c3,.slice (some ⟨b4,o4,none⟩) 2 c4] 102)).alloc o).drew from fun o=>sk _ _ HS0.out (by rw [← alloc_drew];exact (bR _ _).alloc (by simp) _))
 have HS3:=hideK (show ∀bb:Bool,(fun W:World=>W.cell? ⟨w.heap.size,3,none⟩=some (.slice (some ⟨b2,o2,none⟩) 2 c2)∧W.cell? ⟨w.heap.size+1,3,none⟩=some (.slice (some ⟨b4,o4,none⟩) 2 c4)∧W.cell? ⟨b2,o2+1,none⟩=some (.int .i64 (p2:Int))∧W.cell? ⟨b4,o4+1,none⟩=some (.int .i64 (q2:Int))∧W.cell? ⟨w.heap.size+1+1,0,none⟩=some (.int .i64 (p:Int))∧W.cell? ⟨w.heap.size+1+1,1,none⟩=some (.int .i64 (q:Int))∧W.cell? ⟨w.heap.size+1+1,2,none⟩=some (.bool bb)) (((w.alloc (.cells #[.int .i64 m.kind,.int .i64 m.so,.slice a1 m.labs.length c1,.slice (some ⟨b2,o2,none⟩) 2 c2] 102)).alloc (.cells #[.int .i64 n.kind,.int .i64 n.so,.slice a3 n.labs.length c3,.slice (some ⟨b4,o4,none⟩) 2 c4] 102)).alloc (.cells #[.int .i64 (p:Int),.int .i64 (q:Int),.bool bb] 119)).drew.drew from fun bb=>⟨(HSX.out _).2.1,(HSX.out _).2.2.1,(HSX.out _).2.2.2.2.2.1,(HSX.out _).2.2.2.2.2.2,by go_cell,by go_cell,by go_cell⟩)
 have HSY:=hideK (show ∀(bb:Bool) (o:Obj),(fun W:World=>W.cell? ⟨w.heap.size,3,none⟩=some (.slice (some ⟨b2,o2,none⟩) 2 c2)∧W.cell? ⟨w.heap.size+1,3,none⟩=some (.slice (some ⟨b4,o4,none⟩) 2 c4)∧W.cell? ⟨b2,o2+1,none⟩=some (.int .i64 (p2:Int))∧W.cell? ⟨b4,o4+1,none⟩=some (.int .i64 (q2:Int))∧W.cell? ⟨w.heap.size+1+1,0,none⟩=some (.int .i64 (p:Int))∧W.cell? ⟨w.heap.size+1+1,1,none⟩=some (.int .i64 (q:Int))∧W.cell? ⟨w.heap.size+1+1,2,none⟩=some (.bool bb)) ((((w.alloc (.cells #[.int .i64 m.kind,.int .i64 m.so,.slice a1 m.labs.length c1,.slice (some ⟨b2,o2,none⟩) 2 c2] 102)).alloc (.cells #[.int .i64 n.kind,.int .i64 n.so,.slice a3 n.labs.length c3,.slice (some ⟨b4,o4,none⟩) 2 c4] 102)).alloc (.cells #[.int .i64 (p:Int),.int .i64 (q:Int),.bool bb] 119)).alloc o).drew.drew from fun bb o=>sk3 bb _ _ (HS3.out bb) (by rw [← alloc_drew,← alloc_drew];exact (bR _ _).alloc (by simp) _))
 have HF:=hideK (fun bb:Bool=>stl_two (((w.alloc (.cells #[.int .i64 m.kind,.int .i64 m.so,.slice a1 m.labs.length c1,.slice (some ⟨b2,o2,none⟩) 2 c2] 102)).alloc (.cells #[.int .i64 n.kind,.int .i64 n.so,.slice a3 n.labs.length c3,.slice (some ⟨b4,o4,none⟩) 2 c4] 102)).alloc (.cells #[.int .i64 (p:Int),.int .i64 (q:Int),.bool bb] 119)) w.heap.size (by simp;omega) (capB,p,q,bb) (dotB,p2,q2,t) 188)
 have HB:=hideK (show ∀(bb:Bool) (o:Obj),Below w.heap.size w ((((w.alloc (.cells #[.int .i64 m.kind,.int .i64 m.so,.slice a1 m.labs.length c1,.slice (some ⟨b2,o2,none⟩) 2 c2] 102)).alloc (.cells #[.int .i64 n.kind,.int .i64 n.so,.slice a3 n.labs.length c3,.slice (some ⟨b4,o4,none⟩) 2 c4] 102)).alloc (.cells #[.int .i64 (p:Int),.int .i64 (q:Int),.bool bb] 119)).alloc o).drew.drew from fun bb o=>((E0.out.bl.alloc E0.out.bl.size _).alloc (E0.out.bl.alloc E0.out.bl.size _).size _).drew.drew)
 have hsz:∀bb:Bool,(((w.alloc (.cells #[.int .i64 m.kind,.int .i64 m.so,.slice a1 m.labs.length c1,.slice (some ⟨b2,o2,none⟩) 2 c2] 102)).alloc (.cells #[.int .i64 n.kind,.int .i64 n.so,.slice a3 n.labs.length c3,.slice (some ⟨b4,o4,none⟩) 2 c4] 102)).alloc (.cells #[.int .i64 (p:Int),.int .i64 (q:Int),.bool bb] 119)).heap.size=w.heap.size+1+1+1:=fun bb=>by simp
 simp only [hsz]at HF;have hk2:(m.kind==2)=false∧(m.kind==3)=false:=by
  rcases hk with h|h
  ·exact ⟨by rw [h];rfl,by rw [h];rfl⟩
  ·exact ⟨by rw [h];rfl,by rw [h];rfl⟩
 obtain ⟨k2,k3⟩:=hk2;have hk4:(m.kind==4)=true∨((m.kind==4)=false∧(m.kind==5)=true):=by
  rcases hk with h|h
  ·exact .inl (by rw [h];rfl)
  ·exact .inr ⟨by rw [h];rfl,by rw [h];rfl⟩
 clear h2 h4 hk hbB hst l2 l4 d2 d4 f2 f4 sk sk3 hsz;rcases hk4 with k4|⟨k4,k5⟩
 ·rw [show (t != (m.kind==4))=(!t) from by rw [k4];cases t <;> rfl]
  go_enter Tryz.func121,Tryz.ntmps121
  go_wp2_with fail
  go_region_held3 (fun W:World=>W.cell? ⟨w.heap.size,0,none⟩=some (.int .i64 m.kind)∧W.cell? ⟨w.heap.size,3,none⟩=some (.slice (some ⟨b2,o2,none⟩) 2 c2)∧W.cell? ⟨w.heap.size+1,3,none⟩=some (.slice (some ⟨b4,o4,none⟩) 2 c4)∧W.cell? ⟨b2,o2,none⟩=some (.int .i64 (p:Int))∧W.cell? ⟨b4,o4,none⟩=some (.int .i64 (q:Int))∧W.cell? ⟨b2,o2+1,none⟩=some (.int .i64 (p2:Int))∧W.cell? ⟨b4,o4+1,none⟩=some (.int .i64 (q2:Int))) (first|exact HS0.out|exact HSX.out _|assumption) (fail)
  go_wp2_with fail
  go_region_held3 (fun W:World=>W.cell? ⟨w.heap.size,3,none⟩=some (.slice (some ⟨b2,o2,none⟩) 2 c2)∧W.cell? ⟨w.heap.size+1,3,none⟩=some (.slice (some ⟨b4,o4,none⟩) 2 c4)∧W.cell? ⟨b2,o2+1,none⟩=some (.int .i64 (p2:Int))∧W.cell? ⟨b4,o4+1,none⟩=some (.int .i64 (q2:Int))∧W.cell? ⟨w.heap.size+1+1,0,none⟩=some (.int .i64 (p:Int))∧W.cell? ⟨w.heap.size+1+1,1,none⟩=some (.int .i64 (q:Int))∧W.cell? ⟨w.heap.size+1+1,2,none⟩=some (.bool (!t))) (first|exact HS3.out _|exact HSY.out _ _|assumption) (fail)
  go_wp2_with fail
  go_ret
  exact ⟨⟨_,_,rfl,HF.out _⟩,HB.out _ _⟩
 ·rw [show (t != (m.kind==4))=t from by rw [k4];cases t <;> rfl]
  go_enter Tryz.func121,Tryz.ntmps121
  go_wp2_with fail
  go_region_held3 (fun W:World=>W.cell? ⟨w.heap.size,0,none⟩=some (.int .i64 m.kind)∧W.cell? ⟨w.heap.size,3,none⟩=some (.slice (some ⟨b2,o2,none⟩) 2 c2)∧W.cell? ⟨w.heap.size+1,3,none⟩=some (.slice (some ⟨b4,o4,none⟩) 2 c4)∧W.cell? ⟨b2,o2,none⟩=some (.int .i64 (p:Int))∧W.cell? ⟨b4,o4,none⟩=some (.int .i64 (q:Int))∧W.cell? ⟨b2,o2+1,none⟩=some (.int .i64 (p2:Int))∧W.cell? ⟨b4,o4+1,none⟩=some (.int .i64 (q2:Int))) (first|exact HS0.out|exact HSX.out _|assumption) (fail)
  go_wp2_with fail
  go_region_held3 (fun W:World=>W.cell? ⟨w.heap.size,3,none⟩=some (.slice (some ⟨b2,o2,none⟩) 2 c2)∧W.cell? ⟨w.heap.size+1,3,none⟩=some (.slice (some ⟨b4,o4,none⟩) 2 c4)∧W.cell? ⟨b2,o2+1,none⟩=some (.int .i64 (p2:Int))∧W.cell? ⟨b4,o4+1,none⟩=some (.int .i64 (q2:Int))∧W.cell? ⟨w.heap.size+1+1,0,none⟩=some (.int .i64 (p:Int))∧W.cell? ⟨w.heap.size+1+1,1,none⟩=some (.int .i64 (q:Int))∧W.cell? ⟨w.heap.size+1+1,2,none⟩=some (.bool t)) (first|exact HS3.out _|exact HSY.out _ _|assumption) (fail)
  go_wp2_with fail
  go_ret
  exact ⟨⟨_,_,rfl,HF.out _⟩,HB.out _ _⟩
theorem infoStep:(Tryz.prog.info? 188).map (fun i=>(i.zero,i.size,i.bytes))=some (some (.agg #[.string ⟨#[]⟩,.int .i64 0,.int .i64 0,.bool false]),4,40):=by kernel_rfl
theorem stCs_at:∀(ss:List Stp) (i:Nat) (h:i<ss.length) (j:Nat),j<4→(stCs ss)[i*4+j]? = (sCs ss[i])[j]?
 | [],i,h,_,_=>by simp at h
 | s::ss,0,_,j,hj=>by
  have e:stCs (s::ss)=sCs s++stCs ss:=rfl;rw [e,List.getElem?_append_left (by simp [sCs];omega)]
  simp
 | s::ss,i+1,h,j,hj=>by
  have e:stCs (s::ss)=sCs s++stCs ss:=rfl;have hl:(sCs s).length=4:=rfl;rw [e,List.getElem?_append_right (by rw [hl];omega),hl,show (i+1)*4+j - 4=i*4+j by omega]
  exact stCs_at ss i (by simpa using h) j hj
theorem stCs_snoc(ss:List Stp)(s:Stp):stCs (ss++[s])=stCs ss++sCs s:=by simp [stCs]
theorem stl_of{W:World}{B:Nat}{u:Value}{ss:List Stp}(ho:W.ownsRow B 188 4 u ss.length (stCs ss)):∃a c,u = .slice a ss.length c∧STL W B W.heap.size ss a:=by
 rcases own_cells ho with ⟨rfl,h0,_⟩|⟨g,cap,rfl,hgB,hg,hc⟩
 ·exact ⟨none,0,by rw [h0],.inl (List.length_eq_zero_iff.1 h0)⟩
 ·refine ⟨_,_,rfl,.inr ⟨g,0,rfl,⟨hgB,hg⟩,fun i hi=>?_⟩⟩
  rw [Nat.zero_add];exact ⟨hc (i*4+0) _ ((stCs_at ss i hi 0 (by omega)).trans rfl),hc _ _ ((stCs_at ss i hi 1 (by omega)).trans rfl),hc _ _ ((stCs_at ss i hi 2 (by omega)).trans rfl),hc _ _ ((stCs_at ss i hi 3 (by omega)).trans rfl)⟩
def stL(m n:Nd)(t:Bool)(k:Nat):List Stp:=(List.range k).filterMap (labSt m n t)
theorem stL_yes{m n:Nd}{t:Bool}{k:Nat}{s:Stp}(h:labSt m n t k=some s):stL m n t (k+1)=stL m n t k++[s]:=by
 unfold stL;rw [List.range_succ,List.filterMap_append];simp [h]
theorem stL_no{m n:Nd}{t:Bool}{k:Nat}(h:labSt m n t k=none):stL m n t (k+1)=stL m n t k:=by
 unfold stL;rw [List.range_succ,List.filterMap_append];simp [h]
theorem stL_len(m n:Nd)(t:Bool)(k:Nat):(stL m n t k).length≤k:=by
 have:=List.length_filterMap_le (labSt m n t) (List.range k);simpa [stL] using this
theorem EB.below{w:World}{n m:Nd}{a1 a2 a3 a4:OAd}{c1 c2 c3 c4:Nat}{W W':World}(h:EB w n m a1 a2 a3 a4 c1 c2 c3 c4 W)(hb:Below (w.heap.size+1+1) W W'):EB w n m a1 a2 a3 a4 c1 c2 c3 c4 W' :=
 ⟨h.x.keep hb (by omega),h.y.keep hb (by omega),nL h.lt hb.size,h.bl.trans (hb.mono (by omega))⟩
theorem steps_labs(m n:Nd)(t:Bool)(a1 a2 a3 a4:OAd)(c1 c2 c3 c4 B:Nat)(w:World)(h1:LA w B m.labs a1)(h2:NI w B m.to a2)(h3:LA w B n.labs a3)(h4:NI w B n.to a4)(hB:B≤w.heap.size)(hk:m.kind≠2∧m.kind≠3∧m.kind≠4∧m.kind≠5)(l1:m.labs.length≤6)(l2:∀x,x<m.labs.length→x<m.to.length)(l3:n.labs.length≤6)(l4:∀x,x<n.labs.length→x<n.to.length):
  Calls Tryz.prog 121 #[ndVal m a1 c1 a2 c2,ndVal n a3 c3 a4 c4,.bool t] w fun e w'=>(∃ast cst,e = .returned (.slice ast (stepsP m n t).length cst)∧STL w' w.heap.size w'.heap.size (stepsP m n t) ast)∧Below w.heap.size w w':=by
 obtain ⟨i1,hj,hy0,hy1,hy2⟩:=info_parts infoStep;have hst:stepsP m n t=stL m n t m.labs.length:=by unfold stepsP;rw [if_neg (by omega),if_neg (by omega)];rfl
 rw [hst];have E0:=hideK (EB.new w m n a1 a2 a3 a4 c1 c2 c3 c4);obtain ⟨x0,x1,x2,x3⟩:=E0.out.x;obtain ⟨y0,y1,y2,y3⟩:=E0.out.y;simp only [Nat.zero_add]at x1 x2 x3 y1 y2 y3;simp only [ndVal];have k2:(m.kind==2)=false:=by simpa using hk.1
 have k3:(m.kind==3)=false:=by simpa using hk.2.1
 have k4:(m.kind==4)=false:=by simpa using hk.2.2.1
 have k5:(m.kind==5)=false:=by simpa using hk.2.2.2
 have l1z:(m.labs.length:Int)≤6:=by omega
 have H1:=hideK h1;have H2:=hideK h2;have H3:=hideK h3;have H4:=hideK h4;clear hk hst h1 h2 h3 h4;go_enter Tryz.func121,Tryz.ntmps121
 go_wp2_with fail
 clear x0 x1 x2 x3 y0 y1 y2 y3;go_loopw [8,63] (fun u i wr=>∃k:Nat,k≤m.labs.length∧i = .int .i64 (k:Int)∧wr.ownsRow (w.heap.size+1+1) 188 4 u (stL m n t k).length (stCs (stL m n t k))∧EB w m n a1 a2 a3 a4 c1 c2 c3 c4 wr) (fun _ i _=>m.labs.length - (intOf i).toNat)
 case atStart=>exact ⟨0,Nat.zero_le _,rfl,World.ownsRow_nil _ _ _ _,E0.out⟩
 case round =>
  obtain ⟨k,hkl,rfl,hO,hE⟩:=hrel;by_cases hlt:k<m.labs.length
  ·have hltz:(k:Int)<(m.labs.length:Int):=by omega
   have hwrs:=hE.lt;have hbB:=hE.bl.mono hB;obtain ⟨bl,ol,rfl,hbl,hcl⟩:=(H1.out.keep hbB).resolve_left (fun q=>by have:=congrArg List.length q;simp at this;rw [this]at hlt;simp at hlt)
   have d0:=hcl k (by simpa using hlt)
   rw [List.getElem_map]at d0;obtain ⟨x0,x1,x2,x3⟩:=hE.x;obtain ⟨y0,y1,y2,y3⟩:=hE.y;simp only [Nat.zero_add]at x1 x2 x3 y1 y2 y3;have hlk:labAtN m k=m.labs[k]:=by unfold labAtN;rw [List.getElem?_eq_getElem hlt];rfl
   have cI:=index_any n.labs m.labs[k] a3 c3 B wr (H3.out.keep hbB) (by omega)
   cases hq:hasN n.labs m.labs[k] with
   | false =>
    have ez:idxZ n.labs m.labs[k] = -1:=by unfold idxZ;rw [if_neg (by rw [hq];simp)]
    rw [ez]at cI;have HNO:=hideK (stL_no (m:=m) (n:=n) (t:=t) (k:=k) (by unfold labSt;rw [hlk,if_neg (by rw [hq];simp)]))
    have HO:=hideK hO;have HE:=hideK hE;clear hcl ez hq hlk hbB hO hE;generalize m.labs[k]=l at *;go_wp2_with fail
    refine cI.mono ?_;rintro e w1 ⟨rfl,rfl⟩;clear cI;go_wp2_with fail
    go_roundw
    case rel=>exact ⟨k+1,by omega,by go_num,by rw [HNO.out];exact HO.out,HE.out⟩
    case measure=>simp [intOf];omega
   | true =>
    have hjl:=idxB_lt ((hasN_iff _ _).1 hq);have ez:idxZ n.labs m.labs[k]=((idxB n.labs m.labs[k]:Nat):Int):=by unfold idxZ;rw [if_pos hq]
    rw [ez]at cI;obtain ⟨b2,o2,rfl,hb2,d2⟩:=toAt_cell (H2.out.keep hbB) (l2 k hlt);obtain ⟨b4,o4,rfl,hb4,d4⟩:=toAt_cell (H4.out.keep hbB) (l4 _ hjl);have HYES:=hideK (stL_yes (m:=m) (n:=n) (t:=t) (k:=k) (s:=(m.labs[k],toAt m k,toAt n (idxB n.labs m.labs[k]),t)) (by unfold labSt;rw [hlk,if_pos hq]))
    have hjt:=l4 _ hjl;have hkt:=l2 k hlt;have hsl:=stL_len m n t k;clear hcl ez hq hlk;generalize m.labs[k]=l at *;generalize idxB n.labs l=j at *;generalize toAt m k=p at *;generalize toAt n j=q at *;generalize stL m n t k=ss at *;have hjz:(j:Int)<(n.to.length:Int):=by omega
    have hkz:(k:Int)<(m.to.length:Int):=by omega
    have hj0:(0:Int)≤(j:Int):=by omega
    have hdj:decide ((j:Int) ≥ 0)=true:=by simp
    have sk:∀(W W':World),(fun W:World=>W.cell? ⟨w.heap.size,3,none⟩=some (.slice (some ⟨b2,o2,none⟩) m.to.length c2)∧W.cell? ⟨w.heap.size+1,3,none⟩=some (.slice (some ⟨b4,o4,none⟩) n.to.length c4)∧W.cell? ⟨b2,o2+k,none⟩=some (.int .i64 (p:Int))∧W.cell? ⟨b4,o4+j,none⟩=some (.int .i64 (q:Int))) W→Below (w.heap.size+1+1) W W'→(fun W:World=>W.cell? ⟨w.heap.size,3,none⟩=some (.slice (some ⟨b2,o2,none⟩) m.to.length c2)∧W.cell? ⟨w.heap.size+1,3,none⟩=some (.slice (some ⟨b4,o4,none⟩) n.to.length c4)∧W.cell? ⟨b2,o2+k,none⟩=some (.int .i64 (p:Int))∧W.cell? ⟨b4,o4+j,none⟩=some (.int .i64 (q:Int))) W':=fun W W' hs hb=>⟨(hb.cell (p:=⟨w.heap.size,3,none⟩) (by show w.heap.size<_;omega)).trans hs.1,(hb.cell (p:=⟨w.heap.size+1,3,none⟩) (by show w.heap.size+1<_;omega)).trans hs.2.1,(hb.cell (p:=⟨b2,o2+k,none⟩) (by show b2<_;omega)).trans hs.2.2.1,(hb.cell (p:=⟨b4,o4+j,none⟩) (by show b4<_;omega)).trans hs.2.2.2⟩
    have sg:∀(W W':World) (r:Option Nat),(fun W:World=>W.cell? ⟨w.heap.size,3,none⟩=some (.slice (some ⟨b2,o2,none⟩) m.to.length c2)∧W.cell? ⟨w.heap.size+1,3,none⟩=some (.slice (some ⟨b4,o4,none⟩) n.to.length c4)∧W.cell? ⟨b2,o2+k,none⟩=some (.int .i64 (p:Int))∧W.cell? ⟨b4,o4+j,none⟩=some (.int .i64 (q:Int))) W→W.grownBy W' r→w.heap.size+1<W.heap.size→(∀b,b<w.heap.size+1+1→some b≠r)→(fun W:World=>W.cell? ⟨w.heap.size,3,none⟩=some (.slice (some ⟨b2,o2,none⟩) m.to.length c2)∧W.cell? ⟨w.heap.size+1,3,none⟩=some (.slice (some ⟨b4,o4,none⟩) n.to.length c4)∧W.cell? ⟨b2,o2+k,none⟩=some (.int .i64 (p:Int))∧W.cell? ⟨b4,o4+j,none⟩=some (.int .i64 (q:Int))) W':=fun W W' r hs hg hz hr=>⟨(World.cell?_of_block (a:=⟨w.heap.size,3,none⟩) (hg.block _ (by show w.heap.size<_;omega) (hr (w.heap.size) (by omega)))).trans hs.1,(World.cell?_of_block (a:=⟨w.heap.size+1,3,none⟩) (hg.block _ (by show w.heap.size+1<_;omega) (hr (w.heap.size+1) (by omega)))).trans hs.2.1,(World.cell?_of_block (a:=⟨b2,o2+k,none⟩) (hg.block _ (by show b2<_;omega) (hr (b2) (by omega)))).trans hs.2.2.1,(World.cell?_of_block (a:=⟨b4,o4+j,none⟩) (hg.block _ (by show b4<_;omega) (hr (b4) (by omega)))).trans hs.2.2.2⟩
    have HS0:=hideK (show (fun W:World=>W.cell? ⟨w.heap.size,3,none⟩=some (.slice (some ⟨b2,o2,none⟩) m.to.length c2)∧W.cell? ⟨w.heap.size+1,3,none⟩=some (.slice (some ⟨b4,o4,none⟩) n.to.length c4)∧W.cell? ⟨b2,o2+k,none⟩=some (.int .i64 (p:Int))∧W.cell? ⟨b4,o4+j,none⟩=some (.int .i64 (q:Int))) wr.drew from ⟨x3,y3,d2,d4⟩)
    have HSX:=hideK (show ∀o:Obj,(fun W:World=>W.cell? ⟨w.heap.size,3,none⟩=some (.slice (some ⟨b2,o2,none⟩) m.to.length c2)∧W.cell? ⟨w.heap.size+1,3,none⟩=some (.slice (some ⟨b4,o4,none⟩) n.to.length c4)∧W.cell? ⟨b2,o2+k,none⟩=some (.int .i64 (p:Int))∧W.cell? ⟨b4,o4+j,none⟩=some (.int .i64 (q:Int))) (wr.alloc o).drew from fun o=>sk _ _ HS0.out (by rw [← alloc_drew];exact (bR _ _).alloc (by show w.heap.size+1+1≤wr.heap.size;omega) _))
    have HSG:=hideK (show ∀W',(wr.alloc (.cells #[.string l,.int .i64 (p:Int),.int .i64 (q:Int),.bool t] 188)).drew.grownBy W' (Value.ownBlock u8)→(fun W:World=>W.cell? ⟨w.heap.size,3,none⟩=some (.slice (some ⟨b2,o2,none⟩) m.to.length c2)∧W.cell? ⟨w.heap.size+1,3,none⟩=some (.slice (some ⟨b4,o4,none⟩) n.to.length c4)∧W.cell? ⟨b2,o2+k,none⟩=some (.int .i64 (p:Int))∧W.cell? ⟨b4,o4+j,none⟩=some (.int .i64 (q:Int))) W' from fun W' hg=>sg _ W' _ (HSX.out _) hg (by simp;omega) (fun b hb e=>by have:=(hO.lt b e.symm).1;omega))
    have OA:=hideK (own_belowG (own_belowG hO ((bR _ _).alloc (nR _) (.cells #[.string l,.int .i64 (p:Int),.int .i64 (q:Int),.bool t] 188))) (bR _ _).drew);have LR:=hideK (own_belowG (World.ownsRow_lit (base:=w.heap.size+1+1) (e:=188) (size:=4) wr #[.string l,.int .i64 (p:Int),.int .i64 (q:Int),.bool t] 1 (by omega) (by decide) rfl) (bR _ _).drew)
    have HOW:=hideK (show ∀b,Value.ownBlock u8=some b→w.heap.size+1+1≤b from fun b hb=>(hO.lt b hb).1)
    have HEB:=hideK (show ∀W',(wr.alloc (.cells #[.string l,.int .i64 (p:Int),.int .i64 (q:Int),.bool t] 188)).drew.grownBy W' (Value.ownBlock u8)→EB w m n (some ⟨bl,ol,none⟩) (some ⟨b2,o2,none⟩) a3 (some ⟨b4,o4,none⟩) c1 c2 c3 c4 W' from fun W' hg=>hE.below ((((bR _ _).alloc (by show w.heap.size+1+1≤wr.heap.size;omega) _).drew).grown hg (by simp;omega) HOW.out))
    clear sk sg hE hO hbB;go_wp2_with fail
    refine cI.mono ?_;rintro e w1 ⟨rfl,rfl⟩;clear cI;go_wp2_with fail
    go_region_held3 (fun W:World=>W.cell? ⟨w.heap.size,3,none⟩=some (.slice (some ⟨b2,o2,none⟩) m.to.length c2)∧W.cell? ⟨w.heap.size+1,3,none⟩=some (.slice (some ⟨b4,o4,none⟩) n.to.length c4)∧W.cell? ⟨b2,o2+k,none⟩=some (.int .i64 (p:Int))∧W.cell? ⟨b4,o4+j,none⟩=some (.int .i64 (q:Int))) (first|exact HS0.out|exact HSX.out _|exact HSG.out _ HG7.out|assumption) ((refine step_append_rows _ rfl (.tmp 74) (.tmp 89) 185 rfl (w.heap.size+1+1) (w.heap.size+1+1) 188 i1 _ 4 40 Tryz.underlying185 hj hy0 hy1 hy2 rfl (by decide) _ _ _ rfl OA.out _ _ _ rfl LR.out (by simp [Value.oneCell']) (by unfold maxLen;omega) (by omega) (by simp;omega) ?_;intro v7 w7 hO7 hg7 hat7;have HG7:=hideK hg7;have HO7:=hideK hO7;clear hO7 hg7 hat7))
    have HE7:=hideK (HEB.out _ HG7.out);clear x0 x1 x2 x3 y0 y1 y2 y3 d0 d2 d4;go_wp2_with fail
    go_roundw
    case rel =>
     refine ⟨k+1,by omega,by go_num,?_,HE7.out⟩
     rw [HYES.out,List.length_append,stCs_snoc];exact HO7.out
    case measure=>simp [intOf];omega
  ·have hltz:¬(k:Int)<(m.labs.length:Int):=by omega
   have hkk:k=m.labs.length:=by omega
   subst hkk;obtain ⟨a,c,rfl,hstl⟩:=stl_of hO;have HSL:=hideK (hstl.imp id fun ⟨b,o,e,hl,hc⟩=>⟨b,o,e,⟨by omega,hl.2⟩,hc⟩:STL wr w.heap.size wr.heap.size (stL m n t m.labs.length) a)
   have HB:=hideK hE.bl;clear hO hE hstl;go_wp2_with fail
   go_ret
   first|exact ⟨⟨_,_,rfl,HSL.out⟩,HB.out⟩|exact ⟨⟨_,rfl,HSL.out⟩,HB.out⟩|exact ⟨⟨_,⟨_,rfl⟩,HSL.out⟩,HB.out⟩
theorem steps_any(m n:Nd)(t:Bool)(a1 a2 a3 a4:OAd)(c1 c2 c3 c4 B:Nat)(w:World)(h1:LA w B m.labs a1)(h2:NI w B m.to a2)(h3:LA w B n.labs a3)(h4:NI w B n.to a4)(hB:B≤w.heap.size)(hm:okN m)(hn:okN n)(hk:m.kind=n.kind):
  Calls Tryz.prog 121 #[ndVal m a1 c1 a2 c2,ndVal n a3 c3 a4 c4,.bool t] w fun e w'=>(∃ast cst,e = .returned (.slice ast (stepsP m n t).length cst)∧STL w' w.heap.size w'.heap.size (stepsP m n t) ast)∧Below w.heap.size w w':=by
 have sm:=shp_len (okN_shp hm);have sn:=shp_len (okN_shp hn);rcases okN_cases hm with ⟨p1,_,_,p4⟩|⟨p1,_,_,p4⟩|⟨p1,_,_,p4⟩|⟨p1,_,_,p4⟩
 ·exact steps_labs m n t a1 a2 a3 a4 c1 c2 c3 c4 B w h1 h2 h3 h4 hB ⟨by omega,by omega,by omega,by omega⟩ sm.1 (okN_len hm).2.2 sn.1 (okN_len hn).2.2
 ·refine steps_one m n t a1 a2 a3 a4 c1 c2 c3 c4 B w h2 h4 hB p1 p4 ?_
  rcases okN_cases hn with ⟨q1,_,_,q4⟩|⟨q1,_,_,q4⟩|⟨q1,_,_,q4⟩|⟨q1,_,_,q4⟩ <;> omega
 ·refine steps_two m n t a1 a2 a3 a4 c1 c2 c3 c4 B w h2 h4 hB p1 p4 ?_
  rcases okN_cases hn with ⟨q1,_,_,q4⟩|⟨q1,_,_,q4⟩|⟨q1,_,_,q4⟩|⟨q1,_,_,q4⟩ <;> omega
 ·exact steps_labs m n t a1 a2 a3 a4 c1 c2 c3 c4 B w h1 h2 h3 h4 hB ⟨by omega,by omega,by omega,by omega⟩ sm.1 (okN_len hm).2.2 sn.1 (okN_len hn).2.2
end Go.Proofs.YtmamabhhgfcjcaaGreatDoor
