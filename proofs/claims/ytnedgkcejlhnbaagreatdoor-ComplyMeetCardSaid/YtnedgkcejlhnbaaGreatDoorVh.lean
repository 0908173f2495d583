/-
  The contract of comply.stepsFrom, for every two nodes that get on.
-/
import Derived.Test.YtnedgkcejlhnbaaGreatDoorSz
import Derived.Test.YtnedgkcejlhnbaaGreatDoorVq
import Derived.Test.YtnedgkcejlhnbaaGreatDoorIj
import Derived.Test.YtnedgkcejlhnbaaGreatDoorProg
import Derived.Ground.Names2Prog
import Derived.Shelf.Slices.Clone
import Derived.Test.YtnedgkcejlhnbaaGreatDoorJb
import Derived.Test.YtnedgkcejlhnbaaGreatDoorZc
import Derived.Test.YtnedgkcejlhnbaaGreatDoorHm
import Derived.Test.YtnedgkcejlhnbaaGreatDoorVa
set_option maxRecDepth 100000
set_option maxHeartbeats 8000000
namespace Go.Proofs.YtnedgkcejlhnbaaGreatDoor
open Go.RowKit Go.Shelf
def sCC(s:Sg Pc):List Value:=[.string s.1,.int .i64 (s.2.1:Int),.int .i64 (s.2.2:Int)]
def stCC(ss:List (Sg Pc)):List Value:=ss.flatMap sCC
def STC(W:World)(L B:Nat)(ss:List (Sg Pc))(a:OAd):Prop:=ss=[]∨∃b o,a=some ⟨b,o,none⟩∧(L≤b∧b<B)∧∀i (h:i<ss.length),W.cell? ⟨b,o+i*3,none⟩=some (.string ss[i].1)∧W.cell? ⟨b,o+i*3+1,none⟩=some (.int .i64 (ss[i].2.1:Int))∧W.cell? ⟨b,o+i*3+2,none⟩=some (.int .i64 (ss[i].2.2:Int))
theorem stc_one(W:World)(L:Nat)(hL:L≤W.heap.size)(s:Sg Pc)(ty:TypeId):STC (W.alloc (.cells #[.string s.1,.int .i64 (s.2.1:Int),.int .i64 (s.2.2:Int)] ty)).drew L (W.alloc (.cells #[.string s.1,.int .i64 (s.2.1:Int),.int .i64 (s.2.2:Int)] ty)).drew.heap.size [s] (some ⟨W.heap.size,0,none⟩):=by
 refine .inr ⟨W.heap.size,0,rfl,⟨hL,by simp⟩,fun i hi=>?_⟩
 obtain rfl:i=0:=by simp at hi;omega
 exact ⟨by go_cell,by go_cell,by go_cell⟩
theorem stepsC_one(m n:Nd)(a1 a2 a3 a4:OAd)(c1 c2 c3 c4 B:Nat)(w:World)(h2:NI w B m.to a2)(h4:NI w B n.to a4)(hB:B≤w.heap.size)(hk:m.kind=2∨m.kind=3)(l2:m.to.length=1)(l4:n.to.length=1):
  Calls Tryz.prog 28 #[ndVal m a1 c1 a2 c2,ndVal n a3 c3 a4 c4] w fun e w'=>(∃ast cst,e = .returned (.slice ast (stepsC m n).length cst)∧STC w' w.heap.size w'.heap.size (stepsC m n) ast)∧Below w.heap.size w w':=by
 have hst:stepsC m n=[(dotB,toAt m 0,toAt n 0)]:=by unfold stepsC;rw [if_pos hk]
 rw [hst];have E0:=hideK (EB.new w m n a1 a2 a3 a4 c1 c2 c3 c4);obtain ⟨x0,x1,x2,x3⟩:=E0.out.x;obtain ⟨y0,y1,y2,y3⟩:=E0.out.y;simp only [Nat.zero_add]at x1 x2 x3 y1 y2 y3;have hbB:=E0.out.bl.mono hB;obtain ⟨b2,o2,rfl,hb2,d2⟩:=toAt_cell (h2.keep hbB) (i:=0) (by omega)
 obtain ⟨b4,o4,rfl,hb4,d4⟩:=toAt_cell (h4.keep hbB) (i:=0) (by omega)
 rw [Nat.add_zero]at d2 d4;rw [l2,l4]at E0 x0 x1 x2 x3 y0 y1 y2 y3 d2 d4;simp only [ndVal,l2,l4];generalize toAt m 0=p at *;generalize toAt n 0=q at *;have sk:∀(W W':World),(fun W:World=>W.cell? ⟨w.heap.size,3,none⟩=some (.slice (some ⟨b2,o2,none⟩) 1 c2)∧W.cell? ⟨w.heap.size+1,3,none⟩=some (.slice (some ⟨b4,o4,none⟩) 1 c4)∧W.cell? ⟨b2,o2,none⟩=some (.int .i64 (p:Int))∧W.cell? ⟨b4,o4,none⟩=some (.int .i64 (q:Int))) W→Below (w.heap.size+1+1) W W'→(fun W:World=>W.cell? ⟨w.heap.size,3,none⟩=some (.slice (some ⟨b2,o2,none⟩) 1 c2)∧W.cell? ⟨w.heap.size+1,3,none⟩=some (.slice (some ⟨b4,o4,none⟩) 1 c4)∧W.cell? ⟨b2,o2,none⟩=some (.int .i64 (p:Int))∧W.cell? ⟨b4,o4,none⟩=some (.int .i64 (q:Int))) W':=fun W W' hs hb=>⟨(hb.cell (p:=⟨w.heap.size,3,none⟩) (by show w.heap.size<_;omega)).trans hs.1,(hb.cell (p:=⟨w.heap.size+1,3,none⟩) (by show w.heap.size+1<_;omega)).trans hs.2.1,(hb.cell (p:=⟨b2,o2,none⟩) (by show b2<_;omega)).trans hs.2.2.1,(hb.cell (p:=⟨b4,o4,none⟩) (by show b4<_;omega)).trans hs.2.2.2⟩
 have HS0:=hideK (show (fun W:World=>W.cell? ⟨w.heap.size,3,none⟩=some (.slice (some ⟨b2,o2,none⟩) 1 c2)∧W.cell? ⟨w.heap.size+1,3,none⟩=some (.slice (some ⟨b4,o4,none⟩) 1 c4)∧W.cell? ⟨b2,o2,none⟩=some (.int .i64 (p:Int))∧W.cell? ⟨b4,o4,none⟩=some (.int .i64 (q:Int))) ((w.alloc (.cells #[.int .i64 m.kind,.int .i64 m.so,.slice a1 m.labs.length c1,.slice (some ⟨b2,o2,none⟩) 1 c2] 56)).alloc (.cells #[.int .i64 n.kind,.int .i64 n.so,.slice a3 n.labs.length c3,.slice (some ⟨b4,o4,none⟩) 1 c4] 56)).drew from ⟨x3,y3,d2,d4⟩)
 have HSX:=hideK (show ∀o:Obj,(fun W:World=>W.cell? ⟨w.heap.size,3,none⟩=some (.slice (some ⟨b2,o2,none⟩) 1 c2)∧W.cell? ⟨w.heap.size+1,3,none⟩=some (.slice (some ⟨b4,o4,none⟩) 1 c4)∧W.cell? ⟨b2,o2,none⟩=some (.int .i64 (p:Int))∧W.cell? ⟨b4,o4,none⟩=some (.int .i64 (q:Int))) (((w.alloc (.cells #[.int .i64 m.kind,.int .i64 m.so,.slice a1 m.labs.length c1,.slice (some ⟨b2,o2,none⟩) 1 c2] 56)).alloc (.cells #[.int .i64 n.kind,.int .i64 n.so,.slice a3 n.labs.length c3,.slice (some ⟨b4,o4,none⟩) 1 c4] 56)).alloc o).drew from fun o=>sk _ _ HS0.out (by rw [← alloc_drew];exact (Below.refl _ _).alloc (by simp) _))
 have HF:=hideK (stc_one ((w.alloc (.cells #[.int .i64 m.kind,.int .i64 m.so,.slice a1 m.labs.length c1,.slice (some ⟨b2,o2,none⟩) 1 c2] 56)).alloc (.cells #[.int .i64 n.kind,.int .i64 n.so,.slice a3 n.labs.length c3,.slice (some ⟨b4,o4,none⟩) 1 c4] 56)) w.heap.size (by simp;omega) (dotB,p,q) 81)
 have HB:=hideK (show Below w.heap.size w (((w.alloc (.cells #[.int .i64 m.kind,.int .i64 m.so,.slice a1 m.labs.length c1,.slice (some ⟨b2,o2,none⟩) 1 c2] 56)).alloc (.cells #[.int .i64 n.kind,.int .i64 n.so,.slice a3 n.labs.length c3,.slice (some ⟨b4,o4,none⟩) 1 c4] 56)).alloc (.cells #[.string dotB,.int .i64 (p:Int),.int .i64 (q:Int)] 81)).drew from (E0.out.bl.alloc E0.out.bl.size _).drew)
 have hsz:((w.alloc (.cells #[.int .i64 m.kind,.int .i64 m.so,.slice a1 m.labs.length c1,.slice (some ⟨b2,o2,none⟩) 1 c2] 56)).alloc (.cells #[.int .i64 n.kind,.int .i64 n.so,.slice a3 n.labs.length c3,.slice (some ⟨b4,o4,none⟩) 1 c4] 56)).heap.size=w.heap.size+1+1:=by simp
 rw [hsz]at HF;have hk2:(m.kind==2)=true∨((m.kind==2)=false∧(m.kind==3)=true):=by
  rcases hk with h|h
  ·exact .inl (by rw [h];rfl)
  ·exact .inr ⟨by rw [h];rfl,by rw [h];rfl⟩
 clear h2 h4 hk hbB hst l2 l4 d2 d4 sk hsz;rcases hk2 with k2|⟨k2,k3⟩
 all_goals
  go_enter Tryz.func28,Tryz.ntmps28
  go_wp2_with fail
  go_region_held3 (fun W:World=>W.cell? ⟨w.heap.size,3,none⟩=some (.slice (some ⟨b2,o2,none⟩) 1 c2)∧W.cell? ⟨w.heap.size+1,3,none⟩=some (.slice (some ⟨b4,o4,none⟩) 1 c4)∧W.cell? ⟨b2,o2,none⟩=some (.int .i64 (p:Int))∧W.cell? ⟨b4,o4,none⟩=some (.int .i64 (q:Int))) (first|exact HS0.out|exact HSX.out _|assumption) (fail)
  go_wp2_with fail
  go_ret
  exact ⟨⟨_,_,rfl,HF.out⟩,HB.out⟩
theorem stepsC_two(m n:Nd)(a1 a2 a3 a4:OAd)(c1 c2 c3 c4 B:Nat)(w:World)(h2:NI w B m.to a2)(h4:NI w B n.to a4)(hB:B≤w.heap.size)(hk:m.kind=4∨m.kind=5)(l2:m.to.length=2)(l4:n.to.length=2):
  Calls Tryz.prog 28 #[ndVal m a1 c1 a2 c2,ndVal n a3 c3 a4 c4] w fun e w'=>(∃ast cst,e = .returned (.slice ast (stepsC m n).length cst)∧STC w' w.heap.size w'.heap.size (stepsC m n) ast)∧Below w.heap.size w w':=by
 have hst:stepsC m n=[(dotB,toAt m 1,toAt n 1)]:=by unfold stepsC;rw [if_neg (by omega),if_pos hk]
 rw [hst];have E0:=hideK (EB.new w m n a1 a2 a3 a4 c1 c2 c3 c4);obtain ⟨x0,x1,x2,x3⟩:=E0.out.x;obtain ⟨y0,y1,y2,y3⟩:=E0.out.y;simp only [Nat.zero_add]at x1 x2 x3 y1 y2 y3;have hbB:=E0.out.bl.mono hB;obtain ⟨b2,o2,rfl,hb2,d2⟩:=toAt_cell (h2.keep hbB) (i:=1) (by omega)
 obtain ⟨b4,o4,rfl,hb4,d4⟩:=toAt_cell (h4.keep hbB) (i:=1) (by omega)
 rw [l2,l4]at E0 x0 x1 x2 x3 y0 y1 y2 y3 d2 d4;simp only [ndVal,l2,l4];generalize toAt m 1=p at *;generalize toAt n 1=q at *;have sk:∀(W W':World),(fun W:World=>W.cell? ⟨w.heap.size,3,none⟩=some (.slice (some ⟨b2,o2,none⟩) 2 c2)∧W.cell? ⟨w.heap.size+1,3,none⟩=some (.slice (some ⟨b4,o4,none⟩) 2 c4)∧W.cell? ⟨b2,o2+1,none⟩=some (.int .i64 (p:Int))∧W.cell? ⟨b4,o4+1,none⟩=some (.int .i64 (q:Int))) W→Below (w.heap.size+1+1) W W'→(fun W:World=>W.cell? ⟨w.heap.size,3,none⟩=some (.slice (some ⟨b2,o2,none⟩) 2 c2)∧W.cell? ⟨w.heap.size+1,3,none⟩=some (.slice (some ⟨b4,o4,none⟩) 2 c4)∧W.cell? ⟨b2,o2+1,none⟩=some (.int .i64 (p:Int))∧W.cell? ⟨b4,o4+1,none⟩=some (.int .i64 (q:Int))) W':=fun W W' hs hb=>⟨(hb.cell (p:=⟨w.heap.size,3,none⟩) (by show w.heap.size<_;omega)).trans hs.1,(hb.cell (p:=⟨w.heap.size+1,3,none⟩) (by show w.heap.size+1<_;omega)).trans hs.2.1,(hb.cell (p:=⟨b2,o2+1,none⟩) (by show b2<_;omega)).trans hs.2.2.1,(hb.cell (p:=⟨b4,o4+1,none⟩) (by show b4<_;omega)).trans hs.2.2.2⟩
 have HS0:=hideK (show (fun W:World=>W.cell? ⟨w.heap.size,3,none⟩=some (.slice (some ⟨b2,o2,none⟩) 2 c2)∧W.cell? ⟨w.heap.size+1,3,none⟩=some (.slice (some ⟨b4,o4,none⟩) 2 c4)∧W.cell? ⟨b2,o2+1,none⟩=some (.int .i64 (p:Int))∧W.cell? ⟨b4,o4+1,none⟩=some (.int .i64 (q:Int))) ((w.alloc (.cells #[.int .i64 m.kind,.int .i64 m.so,.slice a1 m.labs.length c1,.slice (some ⟨b2,o2,none⟩) 2 c2] 56)).alloc (.cells #[.int .i64 n.kind,.int .i64 n.so,.slice a3 n.labs.length c3,.slice (some ⟨b4,o4,none⟩) 2 c4] 56)).drew from ⟨x3,y3,d2,d4⟩)
 have HSX:=hideK (show ∀o:Obj,(fun W:World=>W.cell? ⟨w.heap.size,3,none⟩=some (.slice (some ⟨b2,o2,none⟩) 2 c2)∧W.cell? ⟨w.heap.size+1,3,none⟩=some (.slice (some ⟨b4,o4,none⟩) 2 c4)∧W.cell? ⟨b2,o2+1,none⟩=some (.int .i64 (p:Int))∧W.cell? ⟨b4,o4+1,none⟩=some (.int .i64 (q:Int))) (((w.alloc (.cells #[.int .i64 m.kind,.int .i64 m.so,.slice a1 m.labs.length c1,.slice (some ⟨b2,o2,none⟩) 2 c2] 56)).alloc (.cells #[.int .i64 n.kind,.int .i64 n.so,.slice a3 n.labs.length c3,.slice (some ⟨b4,o4,none⟩) 2 c4] 56)).alloc o).drew from fun o=>sk _ _ HS0.out (by rw [← alloc_drew];exact (Below.refl _ _).alloc (by simp) _))
 have HF:=hideK (stc_one ((w.alloc (.cells #[.int .i64 m.kind,.int .i64 m.so,.slice a1 m.labs.length c1,.slice (some ⟨b2,o2,none⟩) 2 c2] 56)).alloc (.cells #[.int .i64 n.kind,.int .i64 n.so,.slice a3 n.labs.length c3,.slice (some ⟨b4,o4,none⟩) 2 c4] 56)) w.heap.size (by simp;omega) (dotB,p,q) 81)
 have HB:=hideK (show Below w.heap.size w (((w.alloc (.cells #[.int .i64 m.kind,.int .i64 m.so,.slice a1 m.labs.length c1,.slice (some ⟨b2,o2,none⟩) 2 c2] 56)).alloc (.cells #[.int .i64 n.kind,.int .i64 n.so,.slice a3 n.labs.length c3,.slice (some ⟨b4,o4,none⟩) 2 c4] 56)).alloc (.cells #[.string dotB,.int .i64 (p:Int),.int .i64 (q:Int)] 81)).drew from (E0.out.bl.alloc E0.out.bl.size _).drew)
 have hsz:((w.alloc (.cells #[.int .i64 m.kind,.int .i64 m.so,.slice a1 m.labs.length c1,.slice (some ⟨b2,o2,none⟩) 2 c2] 56)).alloc (.cells #[.int .i64 n.kind,.int .i64 n.so,.slice a3 n.labs.length c3,.slice (some ⟨b4,o4,none⟩) 2 c4] 56)).heap.size=w.heap.size+1+1:=by simp
 rw [hsz]at HF;have hk2:((m.kind==2)=false∧(m.kind==3)=false∧(m.kind==4)=true)∨((m.kind==2)=false∧(m.kind==3)=false∧(m.kind==4)=false∧(m.kind==5)=true):=by
  rcases hk with h|h
  ·exact .inl ⟨by rw [h];rfl,by rw [h];rfl,by rw [h];rfl⟩
  ·exact .inr ⟨by rw [h];rfl,by rw [h];rfl,by rw [h];rfl,by rw [h];rfl⟩
 clear h2 h4 hk hbB hst l2 l4 d2 d4 sk hsz;rcases hk2 with ⟨k2,k3,k4⟩|⟨k2,k3,k4,k5⟩
 all_goals
  go_enter Tryz.func28,Tryz.ntmps28
  go_wp2_with fail
  go_region_held3 (fun W:World=>W.cell? ⟨w.heap.size,3,none⟩=some (.slice (some ⟨b2,o2,none⟩) 2 c2)∧W.cell? ⟨w.heap.size+1,3,none⟩=some (.slice (some ⟨b4,o4,none⟩) 2 c4)∧W.cell? ⟨b2,o2+1,none⟩=some (.int .i64 (p:Int))∧W.cell? ⟨b4,o4+1,none⟩=some (.int .i64 (q:Int))) (first|exact HS0.out|exact HSX.out _|assumption) (fail)
  go_wp2_with fail
  go_ret
  exact ⟨⟨_,_,rfl,HF.out⟩,HB.out⟩
theorem infoStepC:(Tryz.prog.info? 81).map (fun i=>(i.zero,i.size,i.bytes))=some (some (.agg #[.string ⟨#[]⟩,.int .i64 0,.int .i64 0]),3,32):=by kernel_rfl
theorem stCC_at:∀(ss:List (Sg Pc)) (i:Nat) (h:i<ss.length) (j:Nat),j<3→(stCC ss)[i*3+j]? = (sCC ss[i])[j]?
 | [],i,h,_,_=>by simp at h
 | s::ss,0,_,j,hj=>by
  have e:stCC (s::ss)=sCC s++stCC ss:=rfl;rw [e,List.getElem?_append_left (by simp [sCC];omega)]
  simp
 | s::ss,i+1,h,j,hj=>by
  have e:stCC (s::ss)=sCC s++stCC ss:=rfl;have hl:(sCC s).length=3:=rfl;rw [e,List.getElem?_append_right (by rw [hl];omega),hl,show (i+1)*3+j - 3=i*3+j by omega]
  exact stCC_at ss i (by simpa using h) j hj
theorem stCC_snoc(ss:List (Sg Pc))(s:Sg Pc):stCC (ss++[s])=stCC ss++sCC s:=by simp [stCC]
theorem stc_of{W:World}{B:Nat}{u:Value}{ss:List (Sg Pc)}(ho:W.ownsRow B 81 3 u ss.length (stCC ss)):∃a c,u = .slice a ss.length c∧STC W B W.heap.size ss a:=by
 rcases own_cells ho with ⟨rfl,h0,_⟩|⟨g,cap,rfl,hgB,hg,hc⟩
 ·exact ⟨none,0,by rw [h0],.inl (List.length_eq_zero_iff.1 h0)⟩
 ·refine ⟨_,_,rfl,.inr ⟨g,0,rfl,⟨hgB,hg⟩,fun i hi=>?_⟩⟩
  rw [Nat.zero_add];exact ⟨hc (i*3+0) _ ((stCC_at ss i hi 0 (by omega)).trans rfl),hc _ _ ((stCC_at ss i hi 1 (by omega)).trans rfl),hc _ _ ((stCC_at ss i hi 2 (by omega)).trans rfl)⟩
def stLC(m n:Nd)(k:Nat):List (Sg Pc):=(List.range k).filterMap (labSc m n)
theorem stLC_yes{m n:Nd}{k:Nat}{s:Sg Pc}(h:labSc m n k=some s):stLC m n (k+1)=stLC m n k++[s]:=by
 unfold stLC;rw [List.range_succ,List.filterMap_append];simp [h]
theorem stLC_no{m n:Nd}{k:Nat}(h:labSc m n k=none):stLC m n (k+1)=stLC m n k:=by
 unfold stLC;rw [List.range_succ,List.filterMap_append];simp [h]
theorem stLC_len(m n:Nd)(k:Nat):(stLC m n k).length≤k:=by
 have:=List.length_filterMap_le (labSc m n) (List.range k);simpa [stLC] using this
theorem stepsC_labs(m n:Nd)(a1 a2 a3 a4:OAd)(c1 c2 c3 c4 B:Nat)(w:World)(h1:LA w B m.labs a1)(h2:NI w B m.to a2)(h3:LA w B n.labs a3)(h4:NI w B n.to a4)(hB:B≤w.heap.size)(hk:m.kind≠2∧m.kind≠3∧m.kind≠4∧m.kind≠5)(l1:m.labs.length≤6)(l2:∀x,x<m.labs.length→x<m.to.length)(l3:n.labs.length≤6)(l4:∀x,x<n.labs.length→x<n.to.length):
  Calls Tryz.prog 28 #[ndVal m a1 c1 a2 c2,ndVal n a3 c3 a4 c4] w fun e w'=>(∃ast cst,e = .returned (.slice ast (stepsC m n).length cst)∧STC w' w.heap.size w'.heap.size (stepsC m n) ast)∧Below w.heap.size w w':=by
 obtain ⟨i1,hj,hy0,hy1,hy2⟩:=info_parts infoStepC;have hst:stepsC m n=stLC m n m.labs.length:=by unfold stepsC;rw [if_neg (by omega),if_neg (by omega)];rfl
 rw [hst];have E0:=hideK (EB.new w m n a1 a2 a3 a4 c1 c2 c3 c4);obtain ⟨x0,x1,x2,x3⟩:=E0.out.x;obtain ⟨y0,y1,y2,y3⟩:=E0.out.y;simp only [Nat.zero_add]at x1 x2 x3 y1 y2 y3;simp only [ndVal];have k2:(m.kind==2)=false:=by simpa using hk.1
 have k3:(m.kind==3)=false:=by simpa using hk.2.1
 have k4:(m.kind==4)=false:=by simpa using hk.2.2.1
 have k5:(m.kind==5)=false:=by simpa using hk.2.2.2
 have l1z:(m.labs.length:Int)≤6:=by omega
 have H1:=hideK h1;have H2:=hideK h2;have H3:=hideK h3;have H4:=hideK h4;clear hk hst h1 h2 h3 h4;go_enter Tryz.func28,Tryz.ntmps28
 go_wp2_with fail
 clear x0 x1 x2 x3 y0 y1 y2 y3;go_loopw [5,42] (fun u i wr=>∃k:Nat,k≤m.labs.length∧i = .int .i64 (k:Int)∧wr.ownsRow (w.heap.size+1+1) 81 3 u (stLC m n k).length (stCC (stLC m n k))∧EB w m n a1 a2 a3 a4 c1 c2 c3 c4 wr) (fun _ i _=>m.labs.length - (intOf i).toNat)
 case atStart=>exact ⟨0,Nat.zero_le _,rfl,World.ownsRow_nil _ _ _ _,E0.out⟩
 case round =>
  obtain ⟨k,hkl,rfl,hO,hE⟩:=hrel;by_cases hlt:k<m.labs.length
  ·have hltz:(k:Int)<(m.labs.length:Int):=by omega
   have hwrs:=hE.lt;have hbB:=hE.bl.mono hB;obtain ⟨bl,ol,rfl,hbl,hcl⟩:=(H1.out.keep hbB).resolve_left (fun q=>by have:=congrArg List.length q;simp at this;rw [this]at hlt;simp at hlt)
   have d0:=hcl k (by simpa using hlt)
   rw [List.getElem_map]at d0;obtain ⟨x0,x1,x2,x3⟩:=hE.x;obtain ⟨y0,y1,y2,y3⟩:=hE.y;simp only [Nat.zero_add]at x1 x2 x3 y1 y2 y3;have hlk:labAtN m k=m.labs[k]:=by unfold labAtN;rw [List.getElem?_eq_getElem hlt];rfl
   have cI:=index_any n.labs m.labs[k] a3 c3 B wr (H3.out.keep hbB) (by omega)
   cases hq:hasN n.labs m.labs[k] with
   | false =>
    have ez:idxZ n.labs m.labs[k] = -1:=by unfold idxZ;rw [if_neg (by rw [hq];simp)]
    rw [ez]at cI;have HNO:=hideK (stLC_no (m:=m) (n:=n) (k:=k) (by unfold labSc;rw [hlk,if_neg (by rw [hq];simp)]))
    have HO:=hideK hO;have HE:=hideK hE;clear hcl ez hq hlk hbB hO hE;generalize m.labs[k]=l at *;go_wp2_with fail
    refine cI.mono ?_;rintro e w1 ⟨rfl,rfl⟩;clear cI;go_wp2_with fail
    go_roundw
    case rel=>exact ⟨k+1,by omega,by go_num,by rw [HNO.out];exact HO.out,HE.out⟩
    case measure=>simp [intOf];omega
   | true =>
    have hjl:=idxB_lt ((hasN_iff _ _).1 hq);have ez:idxZ n.labs m.labs[k]=((idxB n.labs m.labs[k]:Nat):Int):=by unfold idxZ;rw [if_pos hq]
    rw [ez]at cI;obtain ⟨b2,o2,rfl,hb2,d2⟩:=toAt_cell (H2.out.keep hbB) (l2 k hlt);obtain ⟨b4,o4,rfl,hb4,d4⟩:=toAt_cell (H4.out.keep hbB) (l4 _ hjl);have HYES:=hideK (stLC_yes (m:=m) (n:=n) (k:=k) (s:=(m.labs[k],toAt m k,toAt n (idxB n.labs m.labs[k]))) (by unfold labSc;rw [hlk,if_pos hq]))
    have hjt:=l4 _ hjl;have hkt:=l2 k hlt;have hsl:=stLC_len m n k;clear hcl ez hq hlk;generalize m.labs[k]=l at *;generalize idxB n.labs l=j at *;generalize toAt m k=p at *;generalize toAt n j=q at *;generalize stLC m n k=ss at *;have hjz:(j:Int)<(n.to.length:Int):=by omega
    have hkz:(k:Int)<(m.to.length:Int):=by omega
    have hj0:(0:Int)≤(j:Int):=by omega
    have hdj:decide ((j:Int) ≥ 0)=true:=by simp
    have sk:∀(W W':World),(fun W:World=>W.cell? ⟨w.heap.size,3,none⟩=some (.slice (some ⟨b2,o2,none⟩) m.to.length c2)∧W.cell? ⟨w.heap.size+1,3,none⟩=some (.slice (some ⟨b4,o4,none⟩) n.to.length c4)∧W.cell? ⟨b2,o2+k,none⟩=some (.int .i64 (p:Int))∧W.cell? ⟨b4,o4+j,none⟩=some (.int .i64 (q:Int))) W→Below (w.heap.size+1+1) W W'→(fun W:World=>W.cell? ⟨w.heap.size,3,none⟩=some (.slice (some ⟨b2,o2,none⟩) m.to.length c2)∧W.cell? ⟨w.heap.size+1,3,none⟩=some (.slice (some ⟨b4,o4,none⟩) n.to.length c4)∧W.cell? ⟨b2,o2+k,none⟩=some (.int .i64 (p:Int))∧W.cell? ⟨b4,o4+j,none⟩=some (.int .i64 (q:Int))) W':=fun W W' hs hb=>⟨(hb.cell (p:=⟨w.heap.size,3,none⟩) (by show w.heap.size<_;omega)).trans hs.1,(hb.cell (p:=⟨w.heap.size+1,3,none⟩) (by show w.heap.size+1<_;omega)).trans hs.2.1,(hb.cell (p:=⟨b2,o2+k,none⟩) (by show b2<_;omega)).trans hs.2.2.1,(hb.cell (p:=⟨b4,o4+j,none⟩) (by show b4<_;omega)).trans hs.2.2.2⟩
    have sg:∀(W W':World) (r:Option Nat),(fun W:World=>W.cell? ⟨w.heap.size,3,none⟩=some (.slice (some ⟨b2,o2,none⟩) m.to.length c2)∧W.cell? ⟨w.heap.size+1,3,none⟩=some (.slice (some ⟨b4,o4,none⟩) n.to.length c4)∧W.cell? ⟨b2,o2+k,none⟩=some (.int .i64 (p:Int))∧W.cell? ⟨b4,o4+j,none⟩=some (.int .i64 (q:Int))) W→W.grownBy W' r→w.heap.size+1<W.heap.size→(∀b,b<w.heap.size+1+1→some b≠r)→(fun W:World=>W.cell? ⟨w.heap.size,3,none⟩=some (.slice (some ⟨b2,o2,none⟩) m.to.length c2)∧W.cell? ⟨w.heap.size+1,3,none⟩=some (.slice (some ⟨b4,o4,none⟩) n.to.length c4)∧W.cell? ⟨b2,o2+k,none⟩=some (.int .i64 (p:Int))∧W.cell? ⟨b4,o4+j,none⟩=some (.int .i64 (q:Int))) W':=fun W W' r hs hg hz hr=>⟨(World.cell?_of_block (a:=⟨w.heap.size,3,none⟩) (hg.block _ (by show w.heap.size<_;omega) (hr (w.heap.size) (by omega)))).trans hs.1,(World.cell?_of_block (a:=⟨w.heap.size+1,3,none⟩) (hg.block _ (by show w.heap.size+1<_;omega) (hr (w.heap.size+1) (by omega)))).trans hs.2.1,(World.cell?_of_block (a:=⟨b2,o2+k,none⟩) (hg.block _ (by show b2<_;omega) (hr (b2) (by omega)))).trans hs.2.2.1,(World.cell?_of_block (a:=⟨b4,o4+j,none⟩) (hg.block _ (by show b4<_;omega) (hr (b4) (by omega)))).trans hs.2.2.2⟩
    have HS0:=hideK (show (fun W:World=>W.cell? ⟨w.heap.size,3,none⟩=some (.slice (some ⟨b2,o2,none⟩) m.to.length c2)∧W.cell? ⟨w.heap.size+1,3,none⟩=some (.slice (some ⟨b4,o4,none⟩) n.to.length c4)∧W.cell? ⟨b2,o2+k,none⟩=some (.int .i64 (p:Int))∧W.cell? ⟨b4,o4+j,none⟩=some (.int .i64 (q:Int))) wr.drew from ⟨x3,y3,d2,d4⟩)
    have HSX:=hideK (show ∀o:Obj,(fun W:World=>W.cell? ⟨w.heap.size,3,none⟩=some (.slice (some ⟨b2,o2,none⟩) m.to.length c2)∧W.cell? ⟨w.heap.size+1,3,none⟩=some (.slice (some ⟨b4,o4,none⟩) n.to.length c4)∧W.cell? ⟨b2,o2+k,none⟩=some (.int .i64 (p:Int))∧W.cell? ⟨b4,o4+j,none⟩=some (.int .i64 (q:Int))) (wr.alloc o).drew from fun o=>sk _ _ HS0.out (by rw [← alloc_drew];exact (Below.refl _ _).alloc (by show w.heap.size+1+1≤wr.heap.size;omega) _))
    have HSG:=hideK (show ∀W',(wr.alloc (.cells #[.string l,.int .i64 (p:Int),.int .i64 (q:Int)] 81)).drew.grownBy W' (Value.ownBlock u5)→(fun W:World=>W.cell? ⟨w.heap.size,3,none⟩=some (.slice (some ⟨b2,o2,none⟩) m.to.length c2)∧W.cell? ⟨w.heap.size+1,3,none⟩=some (.slice (some ⟨b4,o4,none⟩) n.to.length c4)∧W.cell? ⟨b2,o2+k,none⟩=some (.int .i64 (p:Int))∧W.cell? ⟨b4,o4+j,none⟩=some (.int .i64 (q:Int))) W' from fun W' hg=>sg _ W' _ (HSX.out _) hg (by simp;omega) (fun b hb e=>by have:=(hO.lt b e.symm).1;omega))
    have OA:=hideK (own_belowG (own_belowG hO ((Below.refl _ _).alloc (Nat.le_refl _) (.cells #[.string l,.int .i64 (p:Int),.int .i64 (q:Int)] 81))) (Below.refl _ _).drew);have LR:=hideK (own_belowG (World.ownsRow_lit (base:=w.heap.size+1+1) (e:=81) (size:=3) wr #[.string l,.int .i64 (p:Int),.int .i64 (q:Int)] 1 (by omega) (by decide) rfl) (Below.refl _ _).drew)
    have HOW:=hideK (show ∀b,Value.ownBlock u5=some b→w.heap.size+1+1≤b from fun b hb=>(hO.lt b hb).1)
    have HEB:=hideK (show ∀W',(wr.alloc (.cells #[.string l,.int .i64 (p:Int),.int .i64 (q:Int)] 81)).drew.grownBy W' (Value.ownBlock u5)→EB w m n (some ⟨bl,ol,none⟩) (some ⟨b2,o2,none⟩) a3 (some ⟨b4,o4,none⟩) c1 c2 c3 c4 W' from fun W' hg=>hE.below ((((Below.refl _ _).alloc (by show w.heap.size+1+1≤wr.heap.size;omega) _).drew).grown hg (by simp;omega) HOW.out))
    clear sk sg hE hO hbB;go_wp2_with fail
    refine cI.mono ?_;rintro e w1 ⟨rfl,rfl⟩;clear cI;go_wp2_with fail
    go_region_held3 (fun W:World=>W.cell? ⟨w.heap.size,3,none⟩=some (.slice (some ⟨b2,o2,none⟩) m.to.length c2)∧W.cell? ⟨w.heap.size+1,3,none⟩=some (.slice (some ⟨b4,o4,none⟩) n.to.length c4)∧W.cell? ⟨b2,o2+k,none⟩=some (.int .i64 (p:Int))∧W.cell? ⟨b4,o4+j,none⟩=some (.int .i64 (q:Int))) (first|exact HS0.out|exact HSX.out _|exact HSG.out _ HG7.out|assumption) ((refine step_append_rows _ rfl (.tmp 53) (.tmp 67) 78 rfl (w.heap.size+1+1) (w.heap.size+1+1) 81 i1 _ 3 32 Tryz.underlying78 hj hy0 hy1 hy2 rfl (by decide) _ _ _ rfl OA.out _ _ _ rfl LR.out (by simp [Value.oneCell']) (by unfold maxLen;omega) (by omega) (by simp;omega) ?_;intro v7 w7 hO7 hg7 hat7;have HG7:=hideK hg7;have HO7:=hideK hO7;clear hO7 hg7 hat7))
    have HE7:=hideK (HEB.out _ HG7.out);clear x0 x1 x2 x3 y0 y1 y2 y3 d0 d2 d4;go_wp2_with fail
    go_roundw
    case rel =>
     refine ⟨k+1,by omega,by go_num,?_,HE7.out⟩
     rw [HYES.out,List.length_append,stCC_snoc];exact HO7.out
    case measure=>simp [intOf];omega
  ·have hltz:¬(k:Int)<(m.labs.length:Int):=by omega
   have hkk:k=m.labs.length:=by omega
   subst hkk;obtain ⟨a,c,rfl,hstl⟩:=stc_of hO;have HSL:=hideK (hstl.imp id fun ⟨b,o,e,hl,hc⟩=>⟨b,o,e,⟨by omega,hl.2⟩,hc⟩:STC wr w.heap.size wr.heap.size (stLC m n m.labs.length) a)
   have HB:=hideK hE.bl;clear hO hE hstl;go_wp2_with fail
   go_ret
   first|exact ⟨⟨_,_,rfl,HSL.out⟩,HB.out⟩|exact ⟨⟨_,rfl,HSL.out⟩,HB.out⟩|exact ⟨⟨_,⟨_,rfl⟩,HSL.out⟩,HB.out⟩
theorem stepsC_len{m n:Nd}(h:okN m):(stepsC m n).length≤6:=by
 unfold stepsC;split
 ·simp
 split
 ·simp
 ·have h1:=List.length_filterMap_le (labSc m n) (List.range m.labs.length)
  have h2:=(shp_len (okN_shp h)).1;rw [List.length_range]at h1;omega
theorem stepsC_any(m n:Nd)(a1 a2 a3 a4:OAd)(c1 c2 c3 c4 B:Nat)(w:World)(h1:LA w B m.labs a1)(h2:NI w B m.to a2)(h3:LA w B n.labs a3)(h4:NI w B n.to a4)(hB:B≤w.heap.size)(hm:okN m)(hn:okN n)(hk:n.kind=kdD m.kind):
  Calls Tryz.prog 28 #[ndVal m a1 c1 a2 c2,ndVal n a3 c3 a4 c4] w fun e w'=>(∃ast cst,e = .returned (.slice ast (stepsC m n).length cst)∧STC w' w.heap.size w'.heap.size (stepsC m n) ast)∧Below w.heap.size w w':=by
 have sm:=shp_len (okN_shp hm);have sn:=shp_len (okN_shp hn);have kt:=kd_turn hm hk;rcases okN_cases hm with ⟨p1,_,_,p4⟩|⟨p1,_,_,p4⟩|⟨p1,_,_,p4⟩|⟨p1,_,_,p4⟩
 ·exact stepsC_labs m n a1 a2 a3 a4 c1 c2 c3 c4 B w h1 h2 h3 h4 hB ⟨by omega,by omega,by omega,by omega⟩ sm.1 (okN_len hm).2.2 sn.1 (okN_len hn).2.2
 ·refine stepsC_one m n a1 a2 a3 a4 c1 c2 c3 c4 B w h2 h4 hB p1 p4 ?_
  have q:=kt.1;have q':=kt.2.1;rcases okN_cases hn with ⟨q1,_,_,q4⟩|⟨q1,_,_,q4⟩|⟨q1,_,_,q4⟩|⟨q1,_,_,q4⟩ <;> omega
 ·refine stepsC_two m n a1 a2 a3 a4 c1 c2 c3 c4 B w h2 h4 hB p1 p4 ?_
  have q:=kt.2.2.1;have q':=kt.2.2.2.1;rcases okN_cases hn with ⟨q1,_,_,q4⟩|⟨q1,_,_,q4⟩|⟨q1,_,_,q4⟩|⟨q1,_,_,q4⟩ <;> omega
 ·exact stepsC_labs m n a1 a2 a3 a4 c1 c2 c3 c4 B w h1 h2 h3 h4 hB ⟨by omega,by omega,by omega,by omega⟩ sm.1 (okN_len hm).2.2 sn.1 (okN_len hn).2.2
end Go.Proofs.YtnedgkcejlhnbaaGreatDoor
namespace Go.Proofs
open Go.Shelf
end Go.Proofs
namespace Go.Proofs.YtnedgkcejlhnbaaGreatDoor
open Go.RowKit
theorem kind_any(z:Int)(w:World):Calls Tryz.prog 42 #[.int .i64 z] w fun e w'=>e = .returned (.int .i64 (kdD z))∧w'=w:=by
 by_cases h2:z=2
 ·subst h2
  go_enter Tryz.func42,Tryz.ntmps42
  go_wp2_with fail
  go_ret
  exact ⟨rfl,rfl⟩
 by_cases h3:z=3
 ·subst h3
  go_enter Tryz.func42,Tryz.ntmps42
  go_wp2_with fail
  go_ret
  exact ⟨rfl,rfl⟩
 by_cases h4:z=4
 ·subst h4
  go_enter Tryz.func42,Tryz.ntmps42
  go_wp2_with fail
  go_ret
  exact ⟨rfl,rfl⟩
 by_cases h5:z=5
 ·subst h5
  go_enter Tryz.func42,Tryz.ntmps42
  go_wp2_with fail
  go_ret
  exact ⟨rfl,rfl⟩
 by_cases h6:z=6
 ·subst h6
  go_enter Tryz.func42,Tryz.ntmps42
  go_wp2_with fail
  go_ret
  exact ⟨rfl,rfl⟩
 by_cases h7:z=7
 ·subst h7
  go_enter Tryz.func42,Tryz.ntmps42
  go_wp2_with fail
  go_ret
  exact ⟨rfl,rfl⟩
 have HK:=hideK (show kdD z=z from by unfold kdD;rw [if_neg h2,if_neg h3,if_neg h4,if_neg h5,if_neg h6,if_neg h7])
 have b2:(z==2)=false:=by simpa using h2
 have b3:(z==3)=false:=by simpa using h3
 have b4:(z==4)=false:=by simpa using h4
 have b5:(z==5)=false:=by simpa using h5
 have b6:(z==6)=false:=by simpa using h6
 have b7:(z==7)=false:=by simpa using h7
 go_enter Tryz.func42,Tryz.ntmps42
 go_wp2_with fail
 go_ret
 exact ⟨by rw [HK.out];rfl,rfl⟩
def pkC(p:Pc):Value:=.agg #[.int .i64 (p.1:Int),.int .i64 (p.2:Int)]
theorem pkC_inj{p q:Pc}(h:pkC p=pkC q):p=q:=by
 simp [pkC]at h;exact Prod.ext (by omega) (by omega)
theorem keyLawC:WideMaps.KeyLaw Tryz.prog 73:=deep_law_laid (m:=3) laidOutG (by decide) (of_decide_eq_true (by kernel_rfl)) (by kernel_rfl) (by kernel_rfl)
def smC(p:Pc):Prop:=p.1≤1000000∧p.2≤1000000
theorem key_ofC(p:Pc)(h:smC p):∃l,keyOf Tryz.prog 73 (pkC p)=some l:=by
 have hm:Tryz.prog.types.size+1=(Tryz.prog.types.size - 1)+2:=by kernel_rfl
 have c0:Tryz.prog.cellsOf 73=2:=by kernel_rfl
 have c3:Tryz.prog.cellsOf 3=1:=by kernel_rfl
 have kt:Tryz.prog.keyType 73=true:=by kernel_rfl
 unfold keyOf pkC;rw [hm];generalize Tryz.prog.types.size - 1=d;have e3:=kl_int d (p.1:Int) (by unfold in64z;have:=h.1;omega)
 have e4:=kl_int d (p.2:Int) (by unfold in64z;have:=h.2;omega)
 rw [Tryz.underlying73];simp only;rw [if_pos]
 ·rw [Program.keyLits.eq_def]
  simp only [Tryz.underlying73];simp [c0,c3,Value.cells,e3,e4]
 ·rw [kt]
  simp [Value.formed];exact c0.symm
def MPC(W:World)(mb:Nat)(ps:List Pc):Prop:=∃es clock,W.heap[mb]? = some (.map es clock)∧es.size=ps.length∧∀i (h:i<ps.length),∃e,es[i]? = some e∧e.key=pkC ps[i]∧e.val = .agg #[]
theorem mpC_keys{ps:List Pc}{es:Array MapEntry}(hsz:es.size=ps.length)(hes:∀i (h:i<ps.length),∃e,es[i]? = some e∧e.key=pkC ps[i]∧e.val = .agg #[])(hk:∀p∈ps,smC p):∀e∈es.toList,∃l,keyOf Tryz.prog 73 e.key=some l:=by
 intro e he;obtain ⟨i,hi,rfl⟩:=List.mem_iff_getElem.1 he;have hi':i<ps.length:=by rw [← hsz];simpa using hi
 obtain ⟨e',h1,h2,_⟩:=hes i hi';have:es.toList[i]=e':=by
  have h3:es[i]? = some es.toList[i]:=by
   rw [← Array.getElem?_toList];exact List.getElem?_eq_getElem hi
  rw [h3]at h1;exact Option.some.inj h1
 rw [this,h2];exact key_ofC _ (hk _ (List.getElem_mem hi'))
theorem lookC_in{W:World}{mb:Nat}{ps:List Pc}(hm:MPC W mb ps)(hk:∀p∈ps,smC p){p:Pc}(hp:p∈ps):
  (Instr.lookup 100 (.map (some mb)) (pkC p) true).run Tryz.prog W = .ok (.tuple #[.agg #[],.bool true]) W:=by
 obtain ⟨es,clock,hb,hsz,hes⟩:=hm;have K:=keyLawC;obtain ⟨kl,hkey⟩:=key_ofC p (hk p hp);rcases K.find W hkey es.toList (mpC_keys hsz hes hk) with ⟨h1,h2⟩|⟨i,e0,h1,h2,h3⟩
 ·obtain ⟨j,hj,e⟩:=List.mem_iff_getElem.1 hp
  obtain ⟨e,he,hek,_⟩:=hes j hj;exact absurd (hek.trans (by rw [‹ps[j]=p›])) (h2 e (by rw [Array.mem_toList_iff,Array.mem_iff_getElem?];exact ⟨j,he⟩))
 ·have hil:i<ps.length:=by
   have:=(List.getElem?_eq_some_iff.1 h2).1;rw [← hsz];simpa using this
  obtain ⟨e,he,hek,hev⟩:=hes i hil;have:e=e0:=by rw [← Array.getElem?_toList]at he;rw [he]at h2;exact Option.some.inj h2
  subst this;rw [hev]at h1;simp [Instr.lookup,run_underlying Tryz.underlying100,MapKept.run_getObj_map hb,K.check W _ hkey,h1,Result.andThen]
theorem lookC_out{W:World}{mb:Nat}{ps:List Pc}(hm:MPC W mb ps)(hk:∀p∈ps,smC p){p:Pc}(hs:smC p)(hp:p ∉ ps):
  (Instr.lookup 100 (.map (some mb)) (pkC p) true).run Tryz.prog W = .ok (.tuple #[.agg #[],.bool false]) W ∧
  ∃W',(Instr.mapUpdate 100 (.map (some mb)) (pkC p) (.agg #[])).run Tryz.prog W = .ok () W'∧W.grownBy W' (some mb)∧W'.heap.size=W.heap.size∧MPC W' mb (ps++[p]):=by
 obtain ⟨es,clock,hb,hsz,hes⟩:=hm;have K:=keyLawC;obtain ⟨kl,hkey⟩:=key_ofC p hs;rcases K.find W hkey es.toList (mpC_keys hsz hes hk) with ⟨h1,h2⟩|⟨i,e0,h1,h2,h3⟩
 ·refine ⟨by simp [Instr.lookup,run_underlying Tryz.underlying100,MapKept.run_getObj_map hb,K.check W _ hkey,h1,Result.andThen],{ W with heap:=W.heap.setIfInBounds mb (.map (es.push { key:=pkC p,val:=.agg #[],born:=clock }) (clock+1)) },?_,?_⟩
  ·simp [Instr.mapUpdate,run_underlying Tryz.underlying100,MapKept.run_getObj_map hb,K.check W _ hkey,h1,MapKept.run_setObj_map _ hb,Result.andThen]
  ·refine ⟨⟨rfl,rfl,rfl,by simp,fun k hk' hne=>(MapKept.heap_set hb).2 k (fun e=>hne (by rw [e]))⟩,by simp,_,_,(MapKept.heap_set hb).1,by simp [hsz],fun i hi=>?_⟩
   by_cases hi':i<ps.length
   ·obtain ⟨e,he,hek,hev⟩:=hes i hi'
    refine ⟨e,?_,by rw [List.getElem_append_left hi'];exact hek,hev⟩
    rw [Array.getElem?_push,if_neg (by omega)];exact he
   ·obtain rfl:i=ps.length:=by simp at hi;omega
    exact ⟨_,by rw [Array.getElem?_push,if_pos hsz.symm],by simp,rfl⟩
 ·exfalso
  have hil:i<ps.length:=by
   have:=(List.getElem?_eq_some_iff.1 h2).1;rw [← hsz];simpa using this
  obtain ⟨e,he,hek,hev⟩:=hes i hil;have:e=e0:=by rw [← Array.getElem?_toList]at he;rw [he]at h2;exact Option.some.inj h2
  subst this;have:pkC ps[i]=pkC p:=by rw [← h3,hek]
  exact hp (by rw [← pkC_inj this];exact List.getElem_mem hil)
theorem MPC.new(W:World):MPC (W.alloc (.map #[] 0)) W.heap.size []:=⟨_,_,heap_alloc_new W _,rfl,fun _ h=>absurd h (Nat.not_lt_zero _)⟩
theorem MPC.blk{W W':World}{mb:Nat}{ps:List Pc}(hm:MPC W mb ps)(h:W'.heap[mb]? = W.heap[mb]?):MPC W' mb ps:=by
 obtain ⟨es,clock,hb,hsz,hes⟩:=hm;exact ⟨es,clock,h.trans hb,hsz,hes⟩
theorem MPC.lt{W:World}{mb:Nat}{ps:List Pc}(hm:MPC W mb ps):mb<W.heap.size:=by
 obtain ⟨es,clock,hb,_⟩:=hm;exact (Array.getElem?_eq_some_iff.1 hb).1
def aCC(v:Ag Pc):List Value:=[.int .i64 (v.1.2.1:Int),.int .i64 (v.1.2.2:Int),.string v.1.1,.int .i64 (v.2:Int)]
def avC(arr:List (Ag Pc)):List Value:=arr.flatMap aCC
theorem aCC_one(v:Ag Pc):∀y∈aCC v,y.oneCell'=true:=by
 intro y hy;simp only [aCC,List.mem_cons,List.not_mem_nil,or_false]at hy;rcases hy with rfl|rfl|rfl|rfl <;> rfl
theorem avC_snoc(arr:List (Ag Pc))(v:Ag Pc):avC (arr++[v])=avC arr++aCC v:=by simp [avC]
theorem avC_at:∀(ss:List (Ag Pc)) (i:Nat) (h:i<ss.length) (j:Nat),j<4→(avC ss)[i*4+j]? = (aCC ss[i])[j]?
 | [],i,h,_,_=>by simp at h
 | s::ss,0,_,j,hj=>by
  have e:avC (s::ss)=aCC s++avC ss:=rfl;rw [e,List.getElem?_append_left (by simp [aCC];omega)]
  simp
 | s::ss,i+1,h,j,hj=>by
  have e:avC (s::ss)=aCC s++avC ss:=rfl;have hl:(aCC s).length=4:=rfl;rw [e,List.getElem?_append_right (by rw [hl];omega),hl,show (i+1)*4+j - 4=i*4+j by omega]
  exact avC_at ss i (by simpa using h) j hj
theorem infoAvC:(Tryz.prog.info? 102).map (fun i=>(i.zero,i.size,i.bytes))=some (some (.agg #[.int .i64 0,.int .i64 0,.string ⟨#[]⟩,.int .i64 0]),4,40):=by kernel_rfl
structure SVC(w0:World)(sb mb:Nat)(ps:List Pc)(arr:List (Ag Pc))(u:Value)(W:World):Prop where
 c0:W.cell? ⟨sb,0,none⟩=some (.map (some mb))
 c1:W.cell? ⟨sb,1,none⟩=some u
 f1:W.frozen? ⟨sb,1,none⟩=false
 mp:MPC W mb ps
 own:W.ownsRow w0.heap.size 102 4 u arr.length (avC arr)
 ns:sb≠mb
 hs:w0.heap.size≤sb
 hm:w0.heap.size≤mb
 us:u.ownBlock≠some sb
 um:u.ownBlock≠some mb
 ls:sb<W.heap.size
 bl:Below w0.heap.size w0 W
abbrev SWC(w0:World)(sb mb:Nat)(arr:List (Ag Pc))(u:Value)(W:World):Prop:=SVC w0 sb mb (plG arr) arr u W
theorem SVC.kept{w0:World}{sb mb:Nat}{ps:List Pc}{arr:List (Ag Pc)}{u:Value}{W W':World}(h:SVC w0 sb mb ps arr u W)(hb:Below W.heap.size W W'):SVC w0 sb mb ps arr u W' :=
 ⟨(hb.cell (p:=⟨sb,0,none⟩) h.ls).trans h.c0,(hb.cell (p:=⟨sb,1,none⟩) h.ls).trans h.c1,(hb.frozen (p:=⟨sb,1,none⟩) h.ls).trans h.f1,h.mp.blk (hb.block mb h.mp.lt),own_belowG h.own hb,h.ns,h.hs,h.hm,h.us,h.um,Nat.lt_of_lt_of_le h.ls hb.size,h.bl.trans (hb.mono h.bl.size)⟩
theorem SVC.at_{w0:World}{sb mb:Nat}{ps:List Pc}{arr:List (Ag Pc)}{u:Value}{W:World}(h:SVC w0 sb mb ps arr u W){k:Nat}(hk:k<arr.length):∃b c,u = .slice (some ⟨b,0,none⟩) arr.length c∧u.ownBlock=some b∧b<W.heap.size∧∀j y,(aCC arr[k])[j]? = some y→W.cell? ⟨b,k*4+j,none⟩=some y:=by
 rcases own_cells h.own with ⟨rfl,h0,_⟩|⟨g,cap,rfl,_,hg,hc⟩
 ·omega
 ·refine ⟨g,cap,rfl,rfl,hg,fun j y hy=>?_⟩
  have hj:j<4:=(List.getElem?_eq_some_iff.1 hy).1;exact hc _ _ ((avC_at arr k hk j hj).trans hy)
theorem SVC.upd{w0:World}{sb mb:Nat}{ps ps':List Pc}{arr:List (Ag Pc)}{u:Value}{W W':World}(h:SVC w0 sb mb ps arr u W)(hg:W.grownBy W' (some mb))(hm:MPC W' mb ps'):SVC w0 sb mb ps' arr u W':=by
 have hk:∀b,b<W.heap.size→b≠mb→W'.heap[b]? = W.heap[b]?:=fun b hb hn=>hg.block b hb (fun e=>hn (by injection e))
 refine ⟨(World.cell?_of_block (a:=⟨sb,0,none⟩) (hk sb h.ls h.ns)).trans h.c0,(World.cell?_of_block (a:=⟨sb,1,none⟩) (hk sb h.ls h.ns)).trans h.c1,(World.frozen?_of_block (a:=⟨sb,1,none⟩) (hk sb h.ls h.ns)).trans h.f1,hm,?_,h.ns,h.hs,h.hm,h.us,h.um,Nat.lt_of_lt_of_le h.ls hg.size,?_⟩
 ·refine ⟨h.own.1,h.own.2.imp id fun ⟨g,c,cur,e1,hb,hc,r⟩=>⟨g,c,cur,e1,hb,?_,r⟩⟩
  rw [hk g (Array.getElem?_eq_some_iff.1 hc).1 (fun e=>h.um (by rw [e1,← e];rfl))]
  exact hc
 ·refine h.bl.trans ⟨hg.os,hg.tape,hg.output,hg.size,fun b hb=>hk b (Nat.lt_of_lt_of_le hb h.bl.size) (by have:=h.hm;omega)⟩
theorem SVC.put{w0:World}{sb mb:Nat}{ps:List Pc}{arr:List (Ag Pc)}{u v7:Value}{V w7:World}{ob:Obj}{s:Sg Pc}{k:Nat}(h:SVC w0 sb mb ps arr u V)(hps:ps=plG arr++[s.2])
  (hg:(V.alloc ob).grownBy w7 u.ownBlock) (hO:w7.ownsRow w0.heap.size 102 4 v7 (arr.length+1) (avC arr++aCC (s,k))) (hat:v7.ownBlock=u.ownBlock∨v7.ownBlock=some (V.alloc ob).heap.size) :
  SWC w0 sb mb (arr++[(s,k)]) v7 (w7.setCell ⟨sb,1,none⟩ v7)∧RF mb sb u.ownBlock V (w7.setCell ⟨sb,1,none⟩ v7)∧(v7.ownBlock=u.ownBlock∨∀j,v7.ownBlock=some j→V.heap.size≤j):=by
 have hsz:(V.alloc ob).heap.size=V.heap.size+1:=by simp
 have hk:∀b,b<V.heap.size→some b≠u.ownBlock→w7.heap[b]? = V.heap[b]?:=fun b hb hn=>(hg.block b (by omega) hn).trans (heap_alloc_old V ob hb)
 have hS:=hk sb h.ls (fun e=>h.us e.symm)
 have hM:=hk mb h.mp.lt (fun e=>h.um e.symm)
 have hs7:=hg.size;have hfr:v7.ownBlock=u.ownBlock∨∀j,v7.ownBlock=some j→V.heap.size≤j:=hat.imp id fun e j hj=>by rw [e]at hj;injection hj with hj;omega
 have hne:∀b,b<V.heap.size→u.ownBlock≠some b→v7.ownBlock≠some b:=fun b hb hn e=>by
  rcases hfr with q|q
  ·exact hn (q ▸ e)
  ·have:=q b e;omega
 have hus:=hne sb h.ls h.us;have hum:=hne mb h.mp.lt h.um;refine ⟨⟨?_,World.cell?_setCell_same _ _ _ ((World.cell?_of_block (a:=⟨sb,1,none⟩) hS).trans h.c1),(World.frozen?_setCell _ _ _ _).trans ((World.frozen?_of_block (a:=⟨sb,1,none⟩) hS).trans h.f1),?_,?_,h.ns,h.hs,h.hm,hus,hum,by simp;have:=h.ls;omega,?_⟩,?_,hfr⟩
 ·rw [World.cell?_setCell_other _ _ _ _ (by intro e;injection e with _ e;cases e)]
  exact (World.cell?_of_block (a:=⟨sb,0,none⟩) hS).trans h.c0
 ·have e:plG (arr++[(s,k)])=ps:=by rw [hps];simp [plG]
  rw [e];exact h.mp.blk ((Below.heap_setCell _ _ _ mb (fun e=>h.ns e.symm)).trans hM)
 ·rw [avC_snoc,List.length_append]
  refine ⟨hO.1,hO.2.imp id fun ⟨g,c,cur,e1,hb,hc,r⟩=>⟨g,c,cur,e1,hb,?_,r⟩⟩
  rw [Below.heap_setCell _ _ _ g (fun e=>hus (by have e:g=sb:=e;rw [e1,e];rfl))]
  exact hc
 ·refine ⟨hg.os.trans h.bl.os,hg.tape.trans h.bl.tape,hg.output.trans h.bl.output,by simp;have:=h.bl.size;omega,fun b hb=>?_⟩
  rw [Below.heap_setCell _ _ _ b (fun e=>by have e:b=sb:=e;have:=h.hs;omega),hk b (Nat.lt_of_lt_of_le hb h.bl.size) (fun e=>by have:=(h.own.lt b e.symm).1;omega)]
  exact h.bl.block b hb
 ·refine ⟨hg.os,hg.tape,hg.output,by simp;omega,fun b hb h1 h2 h3=>?_⟩
  rw [Below.heap_setCell _ _ _ b (fun e=>h2 e)]
  exact hk b hb h3
theorem RF.drewLC{fb rb:Nat}{row:Option Nat}{w w':World}(h:RF fb rb row w.drew w'):RF fb rb row w w':=⟨h.os,h.tape,h.output,h.size,h.block⟩
def PBC(bx:Nat)(p:Pc)(W:World):Prop:=W.cell? ⟨bx,0,none⟩=some (.int .i64 (p.1:Int))∧W.cell? ⟨bx,1,none⟩=some (.int .i64 (p.2:Int))
theorem PBC.keep{bx:Nat}{p:Pc}{W W':World}(h:PBC bx p W)(hb:∀o,W'.cell? ⟨bx,o,none⟩=W.cell? ⟨bx,o,none⟩):PBC bx p W':=⟨(hb 0).trans h.1,(hb 1).trans h.2⟩
theorem stepUpdC{P:Program}{w w':World}{ops:Array Oper}{o:Oper}{a:Act}{K:Act→World→Prop}{Q:Exit→Act→World→Prop}{E:Prop}(hgd:o.guard=none)(m x y:Operand)(t:TypeId)(ho:o.op=Op.mapUpdate t m x y∨o.op=Op.insert t m x y){mv key v:Value}
  (hm:a.eval m=mv) (hx:a.eval x=key) (hy:a.eval y=v) (hrun:(Instr.mapUpdate t mv key v).run P w = .ok () w') (h:K (a.put o.dst undef) w'):if Region.wanted o (yielded ops a.tmps)=true then Oper.wp P o a w K Q else E:=by
 have hw:Region.wanted o (yielded ops a.tmps)=true:=by simp [Region.wanted,hgd]
 rw [if_pos hw];unfold Oper.wp;rcases ho with ho|ho <;> (simp [execOp,ho,hm,hx,hy,hrun,Result.andThen];exact h)
end Go.Proofs.YtnedgkcejlhnbaaGreatDoor
