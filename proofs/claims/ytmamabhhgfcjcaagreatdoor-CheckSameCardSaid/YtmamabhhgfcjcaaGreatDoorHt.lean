/-
  graph.lay of a part that is a node; graph.lay of every type that is right.
-/
import Derived.Test.YtmamabhhgfcjcaaGreatDoorHs
set_option maxRecDepth 100000
set_option maxHeartbeats 16000000
namespace Go.Proofs.YtmamabhhgfcjcaaGreatDoor
open Go.RowKit Go.Shelf
theorem layL_size{t:Ty}(hw:∀k∈t.kids,wfT k)(ar:Ar)(n:Nat):∀ks:List Ty,(∀k∈ks,k∈t.kids)→(layL ar n ks).2.length≤(ks.map sizeT).sum:=by
 intro ks;have:∀(ks:List Ty),(∀k∈ks,k∈t.kids)→∀(a:List Nat × List Nd),(ks.foldl (fun (a:List Nat × List Nd) k=>(a.1++[(layP k ar (n+a.2.length)).1],a.2++(layP k ar (n+a.2.length)).2)) a).2.length≤a.2.length+(ks.map sizeT).sum:=by
  intro ks;induction ks with
  | nil=>intro _ a;simp
  | cons k ks ih2 =>
   intro hm a;rw [List.foldl_cons];refine Nat.le_trans (ih2 (fun x hx=>hm x (.tail _ hx)) _) ?_
   have:=lay_size k (hw k (hm k (.head _))) ar (n+a.2.length);simp only [List.length_append,List.map_cons,List.sum_cons];omega
 intro hm;have h:=this ks hm ([],[]);unfold layL;simpa using h
theorem alloc_drew(W:World)(o:Obj):W.drew.alloc o=(W.alloc o).drew:=rfl
theorem len_three(toks new:List TkN)(sf:TkN):(toks++[sf]++new).length=toks.length+1+new.length:=by simp;omega
theorem sum_take1(ks:List Ty)(k:Nat)(h:k<ks.length):((ks.take k).map sizeT).sum+sizeT ks[k]≤(ks.map sizeT).sum:=by
 have e:=sum_take_le ks (k+1);rw [List.take_succ_eq_append_getElem h,List.map_append,List.sum_append]at e;simpa using e
theorem lay_node(d:Nat)(ih:∀d',d'<d→LYSaid d')(t:Ty)(al:OAd)(cl:Nat)(ak:OAd)(ck:Nat)(ar:Ar)(aa:OAd)(ca pg:Nat)(u:Value)(toks:List TkN)(B:Nat)(w:World)(hla:LA w B t.labels al)(hkt:KT w B d t.kids ak)(hw:wfT t)(hm:MR w pg u.ownBlock ar aa ca)(hp:PG w pg u toks)(hB:B≤pg)(hs1:sizeT t+toks.length≤900)(hs2:ar.length+sizeT t≤900)(h9:t.kind≠9)(h8:t.kind≠8)(hk6:t.kids.length≤6):
  Calls Tryz.prog 52 #[.pointer (some ⟨pg,0,none⟩),tyVal t al cl ak ck,.slice aa ar.length ca] w (LYPost t ar pg u toks B w):=by
 obtain ⟨i1,hj,hy0,hy1,hy2⟩:=info_parts infoNd;obtain ⟨Z,hZ,hmk⟩:=makeI t.kids.length (by omega)
 obtain ⟨ua,uc,rfl⟩:=sliceH_own hp.own;have hpl:=hp.lt;have hk6z:(t.kids.length:Int)≤6:=by omega
 have hsz:=sizeT_eq t;have hwk:=((wfT_eq t).1 hw).2;have HWF:=hideK hwk;have HOW:=hideK (show ∀j,(Value.slice ua toks.length uc).ownBlock=some j→pg+1≤j from fun j hj=>(hp.own.lt j hj).1)
 have HOL:=hideK (show ∀j,(Value.slice ua toks.length uc).ownBlock=some j→j<w.heap.size from fun j hj=>(hp.own.lt j hj).2)
 have HSZ:=hideK (show ∀k (h:k<t.kids.length),((t.kids.take k).map sizeT).sum+sizeT t.kids[k]+1≤sizeT t from fun k h=>by have:=sum_take1 t.kids k h;omega)
 have HSL:=hideK (show ∀k,(layL ar (toks.length+1) (t.kids.take k)).2.length≤((t.kids.take k).map sizeT).sum from fun k=>layL_size hwk ar _ _ (fun x hx=>List.mem_of_mem_take hx))
 have HKT:=hideK (show ∀k (h:k<t.kids.length),∃kb ko,ak=some ⟨kb,ko,none⟩∧kb<B∧∃d' al2 cl2 ak2 ck2,TyAt w kb (ko+k*5) t.kids[k] al2 cl2 ak2 ck2∧TyBd t.kids[k] cl2 ck2∧LA w B t.kids[k].labels al2∧KT w B d' t.kids[k].kids ak2∧LYSaid d' from fun k h=>by
  cases d with
  | zero=>have e:t.kids=[]:=hkt;rw [e]at h;simp at h
  | succ d' =>
   rcases hkt with e|⟨b,o,e,hb,hc⟩
   ·rw [e]at h;simp at h
   ·obtain ⟨a1,c1,a2,c2,h1,h2,h3,h4⟩:=hc k h
    exact ⟨b,o,e,hb,d',a1,c1,a2,c2,h1,h2,h3,h4,ih d' (by omega)⟩)
 have hA:Below w.heap.size w (w.alloc (.cells #[.int .i64 t.kind,.int .i64 t.so,.string t.name,.slice al t.labels.length cl,.slice ak t.kids.length ck] 37)):=(bR _ _).alloc (nR _) _;have HBV:=hideK (show Below w.heap.size w ((w.alloc (.cells #[.int .i64 t.kind,.int .i64 t.so,.string t.name,.slice al t.labels.length cl,.slice ak t.kids.length ck] 37)).alloc (.cells Z 3)).drew.drew from (hA.alloc hA.size _).drew.drew)
 have HBN:=hideK (show Below w.heap.size w (((w.alloc (.cells #[.int .i64 t.kind,.int .i64 t.so,.string t.name,.slice al t.labels.length cl,.slice ak t.kids.length ck] 37)).alloc (.cells Z 3)).alloc (.cells #[.int .i64 t.kind,.int .i64 t.so,.slice al t.labels.length cl,.slice (some ⟨w.heap.size+1,0,none⟩) t.kids.length t.kids.length] 102)).drew.drew from ((hA.alloc hA.size _).alloc (hA.alloc hA.size _).size _).drew.drew)
 have hvs:((w.alloc (.cells #[.int .i64 t.kind,.int .i64 t.so,.string t.name,.slice al t.labels.length cl,.slice ak t.kids.length ck] 37)).alloc (.cells Z 3)).heap.size=w.heap.size+1+1:=by simp
 have FI1:=hideK (show FI ((w.alloc (.cells #[.int .i64 t.kind,.int .i64 t.so,.string t.name,.slice al t.labels.length cl,.slice ak t.kids.length ck] 37)).alloc (.cells Z 3)).drew.drew (w.heap.size+1) t.kids.length 0 [] from by
  have h0:=FI.zero (w:=w.alloc (.cells #[.int .i64 t.kind,.int .i64 t.so,.string t.name,.slice al t.labels.length cl,.slice ak t.kids.length ck] 37)) (n:=t.kids.length) hZ (bR _ _).drew.drew;have hs:(w.alloc (.cells #[.int .i64 t.kind,.int .i64 t.so,.string t.name,.slice al t.labels.length cl,.slice ak t.kids.length ck] 37)).heap.size=w.heap.size+1:=by simp
  rw [hs]at h0;exact h0)
 have OA:=hideK (own_belowG hp.own HBN.out);have lr:=own_belowG (World.ownsRow_lit (base:=pg+1) (e:=102) (size:=4) ((w.alloc (.cells #[.int .i64 t.kind,.int .i64 t.so,.string t.name,.slice al t.labels.length cl,.slice ak t.kids.length ck] 37)).alloc (.cells Z 3)) #[.int .i64 t.kind,.int .i64 t.so,.slice al t.labels.length cl,.slice (some ⟨w.heap.size+1,0,none⟩) t.kids.length t.kids.length] 1 (by rw [hvs];omega) (by decide) rfl) (bR _ _).drew.drew
 rw [hvs]at lr;have LR:=hideK lr;have PC1:=hideK (show (((w.alloc (.cells #[.int .i64 t.kind,.int .i64 t.so,.string t.name,.slice al t.labels.length cl,.slice ak t.kids.length ck] 37)).alloc (.cells Z 3)).alloc (.cells #[.int .i64 t.kind,.int .i64 t.so,.slice al t.labels.length cl,.slice (some ⟨w.heap.size+1,0,none⟩) t.kids.length t.kids.length] 102)).drew.drew.cell? ⟨pg,0,none⟩=some (.slice ua toks.length uc) from (HBN.out.cell (p:=⟨pg,0,none⟩) hpl).trans hp.c)
 have PF1:=hideK (show (((w.alloc (.cells #[.int .i64 t.kind,.int .i64 t.so,.string t.name,.slice al t.labels.length cl,.slice ak t.kids.length ck] 37)).alloc (.cells Z 3)).alloc (.cells #[.int .i64 t.kind,.int .i64 t.so,.slice al t.labels.length cl,.slice (some ⟨w.heap.size+1,0,none⟩) t.kids.length t.kids.length] 102)).drew.drew.frozen? ⟨pg,0,none⟩=false from (HBN.out.frozen (p:=⟨pg,0,none⟩) hpl).trans hp.f)
 have HO7:=hideK (show ∀(v:Value) (W:World),W.ownsRow (pg+1) 102 4 v (toks.length+1) (ndCs toks++(#[.int .i64 t.kind,.int .i64 t.so,.slice al t.labels.length cl,.slice (some ⟨w.heap.size+1,0,none⟩) t.kids.length t.kids.length]:Array Value).toList)→W.ownsRow (pg+1) 102 4 v (toks.length+1) (ndCs toks++nC (⟨t.kind,t.so,t.labels,(layL ar (toks.length+1) t.kids).1⟩,(al,cl),(some ⟨w.heap.size+1,0,none⟩,t.kids.length))) from fun v W h=>by
  have e:nC (⟨t.kind,t.so,t.labels,(layL ar (toks.length+1) t.kids).1⟩,(al,cl),(some ⟨w.heap.size+1,0,none⟩,t.kids.length))=[.int .i64 t.kind,.int .i64 t.so,.slice al t.labels.length cl,.slice (some ⟨w.heap.size+1,0,none⟩) t.kids.length t.kids.length]:=by unfold nC;simp only [layL_len]
  rw [e];exact h)
 have s6k:∀(W W':World),(fun W:World=>W.cell? ⟨w.heap.size,0,none⟩=some (.int .i64 t.kind)∧W.cell? ⟨w.heap.size,1,none⟩=some (.int .i64 t.so)∧W.cell? ⟨w.heap.size,3,none⟩=some (.slice al t.labels.length cl)∧W.cell? ⟨w.heap.size,4,none⟩=some (.slice ak t.kids.length ck)∧W.cell? ⟨pg,0,none⟩=some (.slice ua toks.length uc)) W→Below (w.heap.size+1) W W'→(fun W:World=>W.cell? ⟨w.heap.size,0,none⟩=some (.int .i64 t.kind)∧W.cell? ⟨w.heap.size,1,none⟩=some (.int .i64 t.so)∧W.cell? ⟨w.heap.size,3,none⟩=some (.slice al t.labels.length cl)∧W.cell? ⟨w.heap.size,4,none⟩=some (.slice ak t.kids.length ck)∧W.cell? ⟨pg,0,none⟩=some (.slice ua toks.length uc)) W':=fun W W' hs hb=>⟨(hb.cell (p:=⟨w.heap.size,0,none⟩) (by show w.heap.size<_;omega)).trans hs.1,(hb.cell (p:=⟨w.heap.size,1,none⟩) (by show w.heap.size<_;omega)).trans hs.2.1,(hb.cell (p:=⟨w.heap.size,3,none⟩) (by show w.heap.size<_;omega)).trans hs.2.2.1,(hb.cell (p:=⟨w.heap.size,4,none⟩) (by show w.heap.size<_;omega)).trans hs.2.2.2.1,(hb.cell (p:=⟨pg,0,none⟩) (by show pg<_;omega)).trans hs.2.2.2.2⟩
 have s7k:∀(W W':World),(fun W:World=>W.cell? ⟨w.heap.size,0,none⟩=some (.int .i64 t.kind)∧W.cell? ⟨w.heap.size,1,none⟩=some (.int .i64 t.so)∧W.cell? ⟨w.heap.size,3,none⟩=some (.slice al t.labels.length cl)∧W.cell? ⟨w.heap.size,4,none⟩=some (.slice ak t.kids.length ck)) W→Below (w.heap.size+1) W W'→(fun W:World=>W.cell? ⟨w.heap.size,0,none⟩=some (.int .i64 t.kind)∧W.cell? ⟨w.heap.size,1,none⟩=some (.int .i64 t.so)∧W.cell? ⟨w.heap.size,3,none⟩=some (.slice al t.labels.length cl)∧W.cell? ⟨w.heap.size,4,none⟩=some (.slice ak t.kids.length ck)) W':=fun W W' hs hb=>⟨(hb.cell (p:=⟨w.heap.size,0,none⟩) (by show w.heap.size<_;omega)).trans hs.1,(hb.cell (p:=⟨w.heap.size,1,none⟩) (by show w.heap.size<_;omega)).trans hs.2.1,(hb.cell (p:=⟨w.heap.size,3,none⟩) (by show w.heap.size<_;omega)).trans hs.2.2.1,(hb.cell (p:=⟨w.heap.size,4,none⟩) (by show w.heap.size<_;omega)).trans hs.2.2.2⟩
 have s7g:∀(W W':World),w.heap.size<W.heap.size→(fun W:World=>W.cell? ⟨w.heap.size,0,none⟩=some (.int .i64 t.kind)∧W.cell? ⟨w.heap.size,1,none⟩=some (.int .i64 t.so)∧W.cell? ⟨w.heap.size,3,none⟩=some (.slice al t.labels.length cl)∧W.cell? ⟨w.heap.size,4,none⟩=some (.slice ak t.kids.length ck)) W→W.grownBy W' (Value.slice ua toks.length uc).ownBlock→(fun W:World=>W.cell? ⟨w.heap.size,0,none⟩=some (.int .i64 t.kind)∧W.cell? ⟨w.heap.size,1,none⟩=some (.int .i64 t.so)∧W.cell? ⟨w.heap.size,3,none⟩=some (.slice al t.labels.length cl)∧W.cell? ⟨w.heap.size,4,none⟩=some (.slice ak t.kids.length ck)) W':=fun W W' hz hs hg=>by
  have c1:∀o,W'.cell? ⟨w.heap.size,o,none⟩=W.cell? ⟨w.heap.size,o,none⟩:=fun o=>World.cell?_of_block (a:=⟨w.heap.size,o,none⟩) (hg.block _ hz (fun e=>Nat.lt_irrefl _ (HOL.out w.heap.size e.symm)))
  exact ⟨(c1 _).trans hs.1,(c1 _).trans hs.2.1,(c1 _).trans hs.2.2.1,(c1 _).trans hs.2.2.2⟩
 have s7s:∀(W:World) (v:Value),(fun W:World=>W.cell? ⟨w.heap.size,0,none⟩=some (.int .i64 t.kind)∧W.cell? ⟨w.heap.size,1,none⟩=some (.int .i64 t.so)∧W.cell? ⟨w.heap.size,3,none⟩=some (.slice al t.labels.length cl)∧W.cell? ⟨w.heap.size,4,none⟩=some (.slice ak t.kids.length ck)) W→(fun W:World=>W.cell? ⟨w.heap.size,0,none⟩=some (.int .i64 t.kind)∧W.cell? ⟨w.heap.size,1,none⟩=some (.int .i64 t.so)∧W.cell? ⟨w.heap.size,3,none⟩=some (.slice al t.labels.length cl)∧W.cell? ⟨w.heap.size,4,none⟩=some (.slice ak t.kids.length ck)) (W.setCell ⟨pg,0,none⟩ v):=fun W v hs=>by
  have c1:∀o,(W.setCell ⟨pg,0,none⟩ v).cell? ⟨w.heap.size,o,none⟩=W.cell? ⟨w.heap.size,o,none⟩:=fun o=>World.cell?_setCell_other _ _ _ _ (by intro e;injection e with e;omega)
  exact ⟨(c1 _).trans hs.1,(c1 _).trans hs.2.1,(c1 _).trans hs.2.2.1,(c1 _).trans hs.2.2.2⟩
 have hS0:(fun W:World=>W.cell? ⟨w.heap.size,0,none⟩=some (.int .i64 t.kind)∧W.cell? ⟨w.heap.size,1,none⟩=some (.int .i64 t.so)∧W.cell? ⟨w.heap.size,3,none⟩=some (.slice al t.labels.length cl)∧W.cell? ⟨w.heap.size,4,none⟩=some (.slice ak t.kids.length ck)∧W.cell? ⟨pg,0,none⟩=some (.slice ua toks.length uc)) (w.alloc (.cells #[.int .i64 t.kind,.int .i64 t.so,.string t.name,.slice al t.labels.length cl,.slice ak t.kids.length ck] 37)).drew:=⟨by go_cell,by go_cell,by go_cell,by go_cell,(hA.drew.cell (p:=⟨pg,0,none⟩) hpl).trans hp.c⟩
 have S6K:=hideK s6k;have S7K:=hideK s7k;have S7G:=hideK s7g;have S7S:=hideK s7s;have HPG:=hideK hp;have HMR:=hideK hm;have HLA:=hideK hla;have H9:=hideK h9;have H8:=hideK h8;have hkb9:(t.kind==9)=false:=by simpa using h9
 have hkb8:(t.kind==8)=false:=by simpa using h8
 simp only [tyVal];have hpc0:(w.alloc (.cells #[.int .i64 t.kind,.int .i64 t.so,.string t.name,.slice al t.labels.length cl,.slice ak t.kids.length ck] 37)).drew.cell? ⟨pg,0,none⟩=some (.slice ua toks.length uc):=(hA.drew.cell (p:=⟨pg,0,none⟩) hpl).trans hp.c;have hpc1:((w.alloc (.cells #[.int .i64 t.kind,.int .i64 t.so,.string t.name,.slice al t.labels.length cl,.slice ak t.kids.length ck] 37)).alloc (.cells Z 3)).drew.drew.cell? ⟨pg,0,none⟩=some (.slice ua toks.length uc):=(HBV.out.cell (p:=⟨pg,0,none⟩) hpl).trans hp.c;have hpc2:(((w.alloc (.cells #[.int .i64 t.kind,.int .i64 t.so,.string t.name,.slice al t.labels.length cl,.slice ak t.kids.length ck] 37)).alloc (.cells Z 3)).alloc (.cells #[.int .i64 t.kind,.int .i64 t.so,.slice al t.labels.length cl,.slice (some ⟨w.heap.size+1,0,none⟩) t.kids.length t.kids.length] 102)).drew.drew.cell? ⟨pg,0,none⟩=some (.slice ua toks.length uc):=PC1.out;clear hA hp hm hla h9 h8 hkt hw hwk ih s6k s7k s7g s7s lr hvs hsz hZ;go_enter Tryz.func52,Tryz.ntmps52
 go_wp2_with fail
 go_region_held3 (fun W:World=>W.cell? ⟨w.heap.size,4,none⟩=some (.slice ak t.kids.length ck)∧W.cell? ⟨pg,0,none⟩=some (.slice ua toks.length uc)) (first|(refine ⟨?_,?_⟩ <;> first|assumption|go_keep)) (fail)
 go_wp2_with fail
 have hS7:(fun W:World=>W.cell? ⟨w.heap.size,0,none⟩=some (.int .i64 t.kind)∧W.cell? ⟨w.heap.size,1,none⟩=some (.int .i64 t.so)∧W.cell? ⟨w.heap.size,3,none⟩=some (.slice al t.labels.length cl)∧W.cell? ⟨w.heap.size,4,none⟩=some (.slice ak t.kids.length ck)) ((w.alloc (.cells #[.int .i64 t.kind,.int .i64 t.so,.string t.name,.slice al t.labels.length cl,.slice ak t.kids.length ck] 37)).alloc (.cells Z 3)).drew.drew:=⟨by go_cell,by go_cell,by go_cell,by go_cell⟩
 refine wp_region_held_drew (S:=(fun W:World=>W.cell? ⟨w.heap.size,0,none⟩=some (.int .i64 t.kind)∧W.cell? ⟨w.heap.size,1,none⟩=some (.int .i64 t.so)∧W.cell? ⟨w.heap.size,3,none⟩=some (.slice al t.labels.length cl)∧W.cell? ⟨w.heap.size,4,none⟩=some (.slice ak t.kids.length ck))) (by kernel_rfl) hS7 (fun hS=>?_)
 clear hS7;refine tkZ 0 (.pointer (some ⟨pg,0,none⟩)) hS ?_;refine tkZ 1 (.pointer (some ⟨pg,0,none⟩)) hS ?_;refine tkZ 2 (.pointer (some ⟨pg,0,none⟩)) hS ?_;refine tkZ 4 (.pointer (some ⟨w.heap.size,0,none⟩)) hS ?_;refine tkH 5 (.int .i64 t.kind) hS ?_ (hy:=Or.inl ⟨by rfl,fun W hW=>by obtain ⟨x0,x1,x2,x3⟩:=hW;go_simp⟩)
 simp only [Act.put,sA,sB,sC];refine tkZ 6 (.pointer (some ⟨w.heap.size,1,none⟩)) hS ?_;refine tkH 7 (.int .i64 t.so) hS ?_ (hy:=Or.inl ⟨by rfl,fun W hW=>by obtain ⟨x0,x1,x2,x3⟩:=hW;go_simp⟩)
 simp only [Act.put,sA,sB,sC];refine tkZ 8 (.pointer (some ⟨w.heap.size,3,none⟩)) hS ?_;refine tkH 9 (.slice al t.labels.length cl) hS ?_ (hy:=Or.inl ⟨by rfl,fun W hW=>by obtain ⟨x0,x1,x2,x3⟩:=hW;go_simp⟩)
 simp only [Act.put,sA,sB,sC];refine tkZ 10 (.slice (some ⟨w.heap.size+1,0,none⟩) t.kids.length t.kids.length) hS ?_;refine tkZ 11 (.agg #[.int .i64 t.kind,.int .i64 t.so,.slice al t.labels.length cl,.slice (some ⟨w.heap.size+1,0,none⟩) t.kids.length t.kids.length]) hS ?_;refine wpAnyH_ready (rs:=[3,12]) (by kernel_rfl) (by simp) (aC (fun K hK=>?_) (aC (fun K hK=>?_) aN))
 ·go_simp
  have hSn:=hS;refine hK.out _ _ hSn ?_;clear hS hK K hSn;intro hS;refine take_oneHL 12 (aC (fun K hK=>?_) aN) (by kernel_rfl)
  go_simp
  have hSn:=S7K.out _ (((w.alloc (.cells #[.int .i64 t.kind,.int .i64 t.so,.string t.name,.slice al t.labels.length cl,.slice ak t.kids.length ck] 37)).alloc (.cells Z 3)).alloc (.cells #[.int .i64 t.kind,.int .i64 t.so,.slice al t.labels.length cl,.slice (some ⟨w.heap.size+1,0,none⟩) t.kids.length t.kids.length] 102)).drew.drew hS (by rw [← alloc_drew,← alloc_drew];exact ((bR _ _).alloc (nR _) (.cells #[.int .i64 t.kind,.int .i64 t.so,.slice al t.labels.length cl,.slice (some ⟨w.heap.size+1,0,none⟩) t.kids.length t.kids.length] 102)).mono (by first|(simp;done)|(simp;omega)))
  refine hK.out _ _ hSn ?_;clear hS hK K hSn;intro hS;refine take_oneHL 13 (aC (fun K hK=>?_) aN) (by kernel_rfl)
  refine step_append_rows _ rfl (.tmp 49) (.tmp 58) 44 rfl (pg+1) (pg+1) 102 i1 _ 4 64 Tryz.underlying44 hj hy0 hy1 hy2 rfl (by decide) _ _ _ rfl OA.out _ _ _ rfl LR.out (by simp [Value.oneCell']) (by unfold maxLen;omega) (by omega) (by simp;omega) ?_
  intro v7 w7 hO7 hg7 hat7;have hSn:=S7G.out _ _ (by simp;omega) hS hg7
  refine hK.out _ _ hSn ?_;clear hS hK K hSn;intro hS;refine tkZ 14 (.pointer (some ⟨pg,0,none⟩)) hS ?_;have pc7:w7.cell? ⟨pg,0,none⟩=some (.slice ua toks.length uc):=(World.cell?_of_block (a:=⟨pg,0,none⟩) (hg7.block pg (by simp;omega) (fun e=>by have:=HOW.out pg e.symm;omega))).trans PC1.out
  have pf7:w7.frozen? ⟨pg,0,none⟩=false:=(World.frozen?_of_block (a:=⟨pg,0,none⟩) (hg7.block pg (by simp;omega) (fun e=>by have:=HOW.out pg e.symm;omega))).trans PF1.out
  have LY0:=hideK (LY.start (V:=((w.alloc (.cells #[.int .i64 t.kind,.int .i64 t.so,.string t.name,.slice al t.labels.length cl,.slice ak t.kids.length ck] 37)).alloc (.cells Z 3)).drew.drew) (ob:=(.cells #[.int .i64 t.kind,.int .i64 t.so,.slice al t.labels.length cl,.slice (some ⟨w.heap.size+1,0,none⟩) t.kids.length t.kids.length] 102)) HPG.out HBV.out FI1.out (by omega) (by rw [alloc_drew,alloc_drew];exact hg7) (HO7.out _ _ hO7) (by rw [alloc_drew,alloc_drew];exact hat7) hB)
  obtain ⟨va,vc,rfl⟩:=sliceH_own hO7;clear hO7 hg7 hat7;refine take_oneHL 15 (aC (fun K hK=>?_) aN) (by kernel_rfl)
  go_simp
  have hSn:=S7S.out _ (.slice va (toks.length+1) vc) hS;refine hK.out _ _ hSn ?_;clear hS hK K hSn;intro hS;refine wpAnyH_done (by kernel_rfl) ?_ _
  obtain ⟨x0,x1,x2,x4⟩:=hS;clear x0 x1 x2 pc7 pf7;generalize w7.setCell ⟨pg,0,none⟩ (.slice va (toks.length+1) vc)=W8 at *;go_wp2_with fail
  go_loopw [64] (fun i wr=>∃(k:Nat) (new:List TkN) (u':Value),k≤t.kids.length∧i = .int .i64 (k:Int)∧LY w pg (w.heap.size+1) t.kids.length (.slice ua toks.length uc) toks (⟨t.kind,t.so,t.labels,(layL ar (toks.length+1) t.kids).1⟩,(al,cl),(some ⟨w.heap.size+1,0,none⟩,t.kids.length)) B k (layL ar (toks.length+1) (t.kids.take k)).1 new u' wr∧new.map (·.1)=(layL ar (toks.length+1) (t.kids.take k)).2) (fun i _=>t.kids.length - (intOf i).toNat)
  case atStart=>exact ⟨0,[],_,Nat.zero_le _,rfl,LY0.out,rfl⟩
  case round =>
   obtain ⟨k,new,u',hk,rfl,hLY,hnew⟩:=hrel;clear LY0 x4;by_cases hlt:k<t.kids.length
   ·have hltz:(k:Int)<(t.kids.length:Int):=by omega
    obtain ⟨kb,ko,eak,hkB,kd,al2,cl2,ak2,ck2,hat2,hbd2,hla2,hkt2,hih2⟩:=HKT.out k hlt;subst eak;have hbW:Below B w wr:=⟨hLY.rf.os,hLY.rf.tape,hLY.rf.output,hLY.rf.size,fun j hj=>hLY.rf.block j (by omega) (by omega) (by omega) (fun e=>by have:=HOW.out j e.symm;omega)⟩
    obtain ⟨k0,k1,k2,k3,k4⟩:=hat2.keep hbW hkB;have hwk:=HWF.out _ (List.getElem_mem hlt);have hsz:=HSZ.out k hlt;have hnl:new.length=(layL ar (toks.length+1) (t.kids.take k)).2.length:=by rw [← hnew,List.length_map]
    have hsz2:=HSL.out k;rw [← hnl]at hsz2;have HST:=hideK (show layL ar (toks.length+1) (t.kids.take (k+1))=((layL ar (toks.length+1) (t.kids.take k)).1++[(layP t.kids[k] ar (toks.length+1+new.length)).1],(layL ar (toks.length+1) (t.kids.take k)).2++(layP t.kids[k] ar (toks.length+1+new.length)).2) from by rw [List.take_succ_eq_append_getElem hlt,layL_snoc,hnl])
    have HTL:=hideK (show (layL ar (toks.length+1) (t.kids.take k)).1.length=k from by rw [layL_len,List.length_take];omega)
    have hlen:(toks++[((⟨t.kind,t.so,t.labels,(layL ar (toks.length+1) t.kids).1⟩,(al,cl),(some ⟨w.heap.size+1,0,none⟩,t.kids.length)):TkN)]++new).length=toks.length+1+new.length:=len_three toks new _;have hmW:=HMR.out.keep hLY.rf hLY.fr;have hAl:Below wr.heap.size wr (wr.alloc (.cells #[.int .i64 t.kids[k].kind,.int .i64 t.kids[k].so,.string t.kids[k].name,.slice al2 t.kids[k].labels.length cl2,.slice ak2 t.kids[k].kids.length ck2] 37)):=(bR _ _).alloc (nR _) _;have cY:=hih2 t.kids[k] al2 cl2 ak2 ck2 ar aa ca pg u' (toks++[((⟨t.kind,t.so,t.labels,(layL ar (toks.length+1) t.kids).1⟩,(al,cl),(some ⟨w.heap.size+1,0,none⟩,t.kids.length)):TkN)]++new) B (wr.alloc (.cells #[.int .i64 t.kids[k].kind,.int .i64 t.kids[k].so,.string t.kids[k].name,.slice al2 t.kids[k].labels.length cl2,.slice ak2 t.kids[k].kids.length ck2] 37)) hbd2 ((hla2.keep hbW).keep (hAl.mono (by have:=hbW.size;omega))) ((hkt2.keep hbW).keep (hAl.mono (by have:=hbW.size;omega))) hwk (hmW.keep (RF.of hAl) (.inl rfl)) (hLY.pgp.keep hAl) hB (by rw [hlen];omega) (by omega)
    unfold LYPost at cY;rw [hlen]at cY;have HLY:=hideK hLY;have HNW:=hideK hnew;have HAL:=hideK hAl;clear hat2 hbd2 hla2 hkt2 hih2 hmW hAl hLY hnew hbW hlen hnl;generalize t.kids[k]=kid at *;simp only [tyVal]at cY;go_wp2_with fail
    refine cY.mono ?_;rintro e w5 ⟨rfl,new2,u5,hn5,hp5,ht5,hr5,hu5⟩;have hrW:RF pg pg u'.ownBlock wr w5:=(RF.of HAL.out).trans hr5 (.inl rfl);have hFI:=hrW.fi HLY.out.fi (by have:=HLY.out.tbp;omega) HLY.out.tbu
    have q1:=hFI.cell k hlt;have q2:=hFI.fr k;have HL5:=hideK (HLY.out.step hlt HTL.out HAL.out (layP kid ar (toks.length+1+new.length)).1 hp5 ht5 hr5 hu5);have HN5:=hideK hn5;clear cY hp5 ht5 hr5 hu5 hrW hFI hn5 k0 k1 k2 k3 k4;go_wp2_with fail
    go_roundw
    case rel =>
     refine ⟨k+1,new++new2,u5,by omega,by go_num,?_,?_⟩
     ·rw [HST.out];exact HL5.out
     ·rw [HST.out,List.map_append,HNW.out,HN5.out]
    case measure=>simp [intOf];omega
   ·have hltz:¬(k:Int)<(t.kids.length:Int):=by omega
    have hkl:k=t.kids.length:=by omega
    subst hkl;rw [List.take_length]at hLY hnew;have HD:=hideK (hLY.done hnew HLA.out H9.out H8.out HPG.out.lt HOW.out);clear hLY hnew;go_wp2_with fail
    go_ret
    exact HD.out
 ·go_simp
  have hSn:=S7K.out _ (((w.alloc (.cells #[.int .i64 t.kind,.int .i64 t.so,.string t.name,.slice al t.labels.length cl,.slice ak t.kids.length ck] 37)).alloc (.cells Z 3)).alloc (.cells #[.int .i64 t.kind,.int .i64 t.so,.slice al t.labels.length cl,.slice (some ⟨w.heap.size+1,0,none⟩) t.kids.length t.kids.length] 102)).drew.drew hS (by rw [← alloc_drew,← alloc_drew];exact ((bR _ _).alloc (nR _) (.cells #[.int .i64 t.kind,.int .i64 t.so,.slice al t.labels.length cl,.slice (some ⟨w.heap.size+1,0,none⟩) t.kids.length t.kids.length] 102)).mono (by first|(simp;done)|(simp;omega)))
  refine hK.out _ _ hSn ?_;clear hS hK K hSn;intro hS;refine take_oneHL 3 (aC (fun K hK=>?_) aN) (by kernel_rfl)
  go_simp
  have hSn:=hS;refine hK.out _ _ hSn ?_;clear hS hK K hSn;intro hS;refine take_oneHL 13 (aC (fun K hK=>?_) aN) (by kernel_rfl)
  refine step_append_rows _ rfl (.tmp 49) (.tmp 58) 44 rfl (pg+1) (pg+1) 102 i1 _ 4 64 Tryz.underlying44 hj hy0 hy1 hy2 rfl (by decide) _ _ _ rfl OA.out _ _ _ rfl LR.out (by simp [Value.oneCell']) (by unfold maxLen;omega) (by omega) (by simp;omega) ?_
  intro v7 w7 hO7 hg7 hat7;have hSn:=S7G.out _ _ (by simp;omega) hS hg7
  refine hK.out _ _ hSn ?_;clear hS hK K hSn;intro hS;refine tkZ 14 (.pointer (some ⟨pg,0,none⟩)) hS ?_;have pc7:w7.cell? ⟨pg,0,none⟩=some (.slice ua toks.length uc):=(World.cell?_of_block (a:=⟨pg,0,none⟩) (hg7.block pg (by simp;omega) (fun e=>by have:=HOW.out pg e.symm;omega))).trans PC1.out
  have pf7:w7.frozen? ⟨pg,0,none⟩=false:=(World.frozen?_of_block (a:=⟨pg,0,none⟩) (hg7.block pg (by simp;omega) (fun e=>by have:=HOW.out pg e.symm;omega))).trans PF1.out
  have LY0:=hideK (LY.start (V:=((w.alloc (.cells #[.int .i64 t.kind,.int .i64 t.so,.string t.name,.slice al t.labels.length cl,.slice ak t.kids.length ck] 37)).alloc (.cells Z 3)).drew.drew) (ob:=(.cells #[.int .i64 t.kind,.int .i64 t.so,.slice al t.labels.length cl,.slice (some ⟨w.heap.size+1,0,none⟩) t.kids.length t.kids.length] 102)) HPG.out HBV.out FI1.out (by omega) (by rw [alloc_drew,alloc_drew];exact hg7) (HO7.out _ _ hO7) (by rw [alloc_drew,alloc_drew];exact hat7) hB)
  obtain ⟨va,vc,rfl⟩:=sliceH_own hO7;clear hO7 hg7 hat7;refine take_oneHL 15 (aC (fun K hK=>?_) aN) (by kernel_rfl)
  go_simp
  have hSn:=S7S.out _ (.slice va (toks.length+1) vc) hS;refine hK.out _ _ hSn ?_;clear hS hK K hSn;intro hS;refine wpAnyH_done (by kernel_rfl) ?_ _
  obtain ⟨x0,x1,x2,x4⟩:=hS;clear x0 x1 x2 pc7 pf7;generalize w7.setCell ⟨pg,0,none⟩ (.slice va (toks.length+1) vc)=W8 at *;go_wp2_with fail
  go_loopw [64] (fun i wr=>∃(k:Nat) (new:List TkN) (u':Value),k≤t.kids.length∧i = .int .i64 (k:Int)∧LY w pg (w.heap.size+1) t.kids.length (.slice ua toks.length uc) toks (⟨t.kind,t.so,t.labels,(layL ar (toks.length+1) t.kids).1⟩,(al,cl),(some ⟨w.heap.size+1,0,none⟩,t.kids.length)) B k (layL ar (toks.length+1) (t.kids.take k)).1 new u' wr∧new.map (·.1)=(layL ar (toks.length+1) (t.kids.take k)).2) (fun i _=>t.kids.length - (intOf i).toNat)
  case atStart=>exact ⟨0,[],_,Nat.zero_le _,rfl,LY0.out,rfl⟩
  case round =>
   obtain ⟨k,new,u',hk,rfl,hLY,hnew⟩:=hrel;clear LY0 x4;by_cases hlt:k<t.kids.length
   ·have hltz:(k:Int)<(t.kids.length:Int):=by omega
    obtain ⟨kb,ko,eak,hkB,kd,al2,cl2,ak2,ck2,hat2,hbd2,hla2,hkt2,hih2⟩:=HKT.out k hlt;subst eak;have hbW:Below B w wr:=⟨hLY.rf.os,hLY.rf.tape,hLY.rf.output,hLY.rf.size,fun j hj=>hLY.rf.block j (by omega) (by omega) (by omega) (fun e=>by have:=HOW.out j e.symm;omega)⟩
    obtain ⟨k0,k1,k2,k3,k4⟩:=hat2.keep hbW hkB;have hwk:=HWF.out _ (List.getElem_mem hlt);have hsz:=HSZ.out k hlt;have hnl:new.length=(layL ar (toks.length+1) (t.kids.take k)).2.length:=by rw [← hnew,List.length_map]
    have hsz2:=HSL.out k;rw [← hnl]at hsz2;have HST:=hideK (show layL ar (toks.length+1) (t.kids.take (k+1))=((layL ar (toks.length+1) (t.kids.take k)).1++[(layP t.kids[k] ar (toks.length+1+new.length)).1],(layL ar (toks.length+1) (t.kids.take k)).2++(layP t.kids[k] ar (toks.length+1+new.length)).2) from by rw [List.take_succ_eq_append_getElem hlt,layL_snoc,hnl])
    have HTL:=hideK (show (layL ar (toks.length+1) (t.kids.take k)).1.length=k from by rw [layL_len,List.length_take];omega)
    have hlen:(toks++[((⟨t.kind,t.so,t.labels,(layL ar (toks.length+1) t.kids).1⟩,(al,cl),(some ⟨w.heap.size+1,0,none⟩,t.kids.length)):TkN)]++new).length=toks.length+1+new.length:=len_three toks new _;have hmW:=HMR.out.keep hLY.rf hLY.fr;have hAl:Below wr.heap.size wr (wr.alloc (.cells #[.int .i64 t.kids[k].kind,.int .i64 t.kids[k].so,.string t.kids[k].name,.slice al2 t.kids[k].labels.length cl2,.slice ak2 t.kids[k].kids.length ck2] 37)):=(bR _ _).alloc (nR _) _;have cY:=hih2 t.kids[k] al2 cl2 ak2 ck2 ar aa ca pg u' (toks++[((⟨t.kind,t.so,t.labels,(layL ar (toks.length+1) t.kids).1⟩,(al,cl),(some ⟨w.heap.size+1,0,none⟩,t.kids.length)):TkN)]++new) B (wr.alloc (.cells #[.int .i64 t.kids[k].kind,.int .i64 t.kids[k].so,.string t.kids[k].name,.slice al2 t.kids[k].labels.length cl2,.slice ak2 t.kids[k].kids.length ck2] 37)) hbd2 ((hla2.keep hbW).keep (hAl.mono (by have:=hbW.size;omega))) ((hkt2.keep hbW).keep (hAl.mono (by have:=hbW.size;omega))) hwk (hmW.keep (RF.of hAl) (.inl rfl)) (hLY.pgp.keep hAl) hB (by rw [hlen];omega) (by omega)
    unfold LYPost at cY;rw [hlen]at cY;have HLY:=hideK hLY;have HNW:=hideK hnew;have HAL:=hideK hAl;clear hat2 hbd2 hla2 hkt2 hih2 hmW hAl hLY hnew hbW hlen hnl;generalize t.kids[k]=kid at *;simp only [tyVal]at cY;go_wp2_with fail
    refine cY.mono ?_;rintro e w5 ⟨rfl,new2,u5,hn5,hp5,ht5,hr5,hu5⟩;have hrW:RF pg pg u'.ownBlock wr w5:=(RF.of HAL.out).trans hr5 (.inl rfl);have hFI:=hrW.fi HLY.out.fi (by have:=HLY.out.tbp;omega) HLY.out.tbu
    have q1:=hFI.cell k hlt;have q2:=hFI.fr k;have HL5:=hideK (HLY.out.step hlt HTL.out HAL.out (layP kid ar (toks.length+1+new.length)).1 hp5 ht5 hr5 hu5);have HN5:=hideK hn5;clear cY hp5 ht5 hr5 hu5 hrW hFI hn5 k0 k1 k2 k3 k4;go_wp2_with fail
    go_roundw
    case rel =>
     refine ⟨k+1,new++new2,u5,by omega,by go_num,?_,?_⟩
     ·rw [HST.out];exact HL5.out
     ·rw [HST.out,List.map_append,HNW.out,HN5.out]
    case measure=>simp [intOf];omega
   ·have hltz:¬(k:Int)<(t.kids.length:Int):=by omega
    have hkl:k=t.kids.length:=by omega
    subst hkl;rw [List.take_length]at hLY hnew;have HD:=hideK (hLY.done hnew HLA.out H9.out H8.out HPG.out.lt HOW.out);clear hLY hnew;go_wp2_with fail
    go_ret
    exact HD.out
end Go.Proofs.YtmamabhhgfcjcaaGreatDoor
