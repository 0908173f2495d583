/-
  Processes, expressions and types loaded whole, a process stored whole: as operations.
-/
import Derived.Test.YtmamabhhgfcjcaaGreatDoorOf
import Derived.Deep.WholeRow
set_option maxRecDepth 100000
set_option maxHeartbeats 8000000
namespace Go.Proofs.YtmamabhhgfcjcaaGreatDoor
open Go.RowKit Go.Shelf
theorem exec_load{P:Program}{T:TypeId}{x:Operand}{o:Oper}{a:Act}{pv v:Value}{W:World}(ho:o.op = .load T x)(hx:a.eval x=pv)(h:(Instr.loadAt T pv).run P W = .ok v W):(execOp a.eval o).run P W = .ok (.value v) W:=by
 simp [execOp,ho,hx,h,Result.andThen]
theorem wp_load{P:Program}{S:World→Prop}{T:TypeId}{x:Operand}{o:Oper}{a:Act}{pv v:Value}{W:World}(ho:o.op = .load T x)(hx:a.eval x=pv)(h:(Instr.loadAt T pv).run P W = .ok v W)(hS:S W):o.wp P a W (fun c w'=>c=a.put o.dst v∧S w') (fun _ _ _=>False):=by
 unfold Oper.wp;rw [exec_load ho hx h];exact ⟨rfl,hS⟩
theorem wpList_loadW{P:Program}{ops:Array Oper}{Q:Exit→Act→World→Prop}{rest:List Oper}{T:TypeId}{x:Operand}{o:Oper}{a:Act}{pv v:Value}{W:World}(hg:o.guard=none)(ho:o.op = .load T x)(hx:a.eval x=pv)(h:(Instr.loadAt T pv).run P W = .ok v W)(hn:wpList P ops Q rest (a.put o.dst v) W):wpList P ops Q (o::rest) a W :=
 wpList_plain hg fun K hK=>by
  unfold Oper.wp;rw [exec_load ho hx h];exact hK _ _ hn
theorem wpList_storeW{P:Program}{ops:Array Oper}{Q:Exit→Act→World→Prop}{rest:List Oper}{T:TypeId}{x y:Operand}{o:Oper}{a:Act}{pv v:Value}{W W':World}(hg:o.guard=none)(ho:o.op = .store T x y)(hx:a.eval x=pv)(hy:a.eval y=v)(h:(Instr.storeAt T pv v).run P W = .ok () W')(hn:wpList P ops Q rest (a.put o.dst undef) W'):wpList P ops Q (o::rest) a W :=
 wpList_plain hg fun K hK=>by
  unfold Oper.wp;rw [show (execOp a.eval o).run P W = .ok .skip W' from by simp [execOp,ho,hx,hy,h,Result.andThen]]
  exact hK _ _ hn
theorem wpList_allocW{P:Program}{ops:Array Oper}{Q:Exit→Act→World→Prop}{rest:List Oper}{T:TypeId}{o:Oper}{a:Act}{v:Value}{W W':World}(hg:o.guard=none)(ho:o.op = .alloc T)(h:(Instr.alloc T true (.tuple #[])).run P W = .ok v W')(hn:wpList P ops Q rest (a.put o.dst v) W'):wpList P ops Q (o::rest) a W :=
 wpList_plain hg fun K hK=>by
  unfold Oper.wp;rw [show (execOp a.eval o).run P W = .ok (.value v) W' from by simp [execOp,ho,h,Result.andThen]]
  exact hK _ _ hn
theorem PrAt.get{W:World}{b:Nat}{p:Pr}{a:PrA}{j:Nat}{v:Value}(h:PrAt W b 0 p a)(hj:j<19)(hv:(prCs p a)[j]? = some v):W.cell? ⟨b,j,none⟩=some v:=by
 have:=h j hj;rw [hv,Nat.zero_add]at this;exact this
theorem load_list{T:TypeId}{W:World}{b o n:Nat}{cs:List Value}(hn:cs.length=n)(hc:∀j v,cs[j]? = some v→W.cell? ⟨b,o+j,none⟩=some v)(hg:∀l:Array Value,(loadCells ⟨b,o,none⟩ n).run Tryz.prog W = .ok l W→(Instr.loadAt T (.pointer (some ⟨b,o,none⟩))).run Tryz.prog W = .ok (.agg l) W):(Instr.loadAt T (.pointer (some ⟨b,o,none⟩))).run Tryz.prog W = .ok (.agg cs.toArray) W:=by
 subst hn;exact hg _ (run_loadCells_list W ⟨b,o,none⟩ cs (fun j v hj=>by rw [Go.WideShapes.add_plain];exact hc j v hj))
theorem load_ex{W:World}{b o:Nat}{x:Ex}{ao:OAd}{cap:Nat}(h:ExAt W b o x ao cap):(Instr.loadAt 34 (.pointer (some ⟨b,o,none⟩))).run Tryz.prog W = .ok (exVal x ao cap) W :=
 load_list (n:=6) (cs:=[.int .i64 x.kind,.string x.name,.int .i64 x.so,.int .i64 x.n,.string x.s,.slice ao x.kids.length cap]) rfl (fun j v hj=>by
  obtain ⟨h0,h1,h2,h3,h4,h5⟩:=h;match j,hj with
  | 0,hj=>exact h0.trans hj
  | 1,hj=>exact h1.trans hj
  | 2,hj=>exact h2.trans hj
  | 3,hj=>exact h3.trans hj
  | 4,hj=>exact h4.trans hj
  | 5,hj=>exact h5.trans hj
  | n+6,hj=>simp at hj) (fun l hl=>by
  unfold Instr.loadAt loadVar;simp [Instr.sureAddr,hl,Result.andThen])
theorem load_ty{W:World}{b o:Nat}{t:Ty}{al:OAd}{cl:Nat}{ak:OAd}{ck:Nat}(h:TyAt W b o t al cl ak ck):(Instr.loadAt 37 (.pointer (some ⟨b,o,none⟩))).run Tryz.prog W = .ok (tyVal t al cl ak ck) W :=
 load_list (n:=5) (cs:=[.int .i64 t.kind,.int .i64 t.so,.string t.name,.slice al t.labels.length cl,.slice ak t.kids.length ck]) rfl (fun j v hj=>by
  obtain ⟨h0,h1,h2,h3,h4⟩:=h;match j,hj with
  | 0,hj=>exact h0.trans hj
  | 1,hj=>exact h1.trans hj
  | 2,hj=>exact h2.trans hj
  | 3,hj=>exact h3.trans hj
  | 4,hj=>exact h4.trans hj
  | n+5,hj=>simp at hj) (fun l hl=>by
  unfold Instr.loadAt loadVar;simp [Instr.sureAddr,hl,Result.andThen])
theorem PrAt.ex{W:World}{b o:Nat}{p:Pr}{a:PrA}(h:PrAt W b o p a):ExAt W b (o+4) p.ex a.ea a.ec:=by
 obtain ⟨_,_,_,_,h4,h5,h6,h7,h8,h9,_⟩:=h.cells;exact ⟨h4,h5,h6,h7,h8,h9⟩
theorem PrAt.ty{W:World}{b o:Nat}{p:Pr}{a:PrA}(h:PrAt W b o p a):TyAt W b (o+12) p.ty a.tl a.tlc a.tk a.tkc:=by
 obtain ⟨_,_,_,_,_,_,_,_,_,_,_,_,h12,h13,h14,h15,h16,_⟩:=h.cells;exact ⟨h12,h13,h14,h15,h16⟩
def pr0:Pr:=⟨0,⟨#[]⟩,⟨#[]⟩,⟨#[]⟩,⟨0,⟨#[]⟩,0,0,⟨#[]⟩,[]⟩,[],[],⟨0,0,⟨#[]⟩,[],[]⟩,[],[]⟩
def pa0:PrA:=⟨none,0,none,0,none,0,none,0,none,0,none,0,none,0⟩
theorem alloc_pr(W:World):(Instr.alloc 40 true (.tuple #[])).run Tryz.prog W = .ok (.pointer (some ⟨W.heap.size,0,none⟩)) (W.alloc (prBx pr0 pa0)):=by
 simp only [prBx,pr0,pa0];go_simp
theorem store_pr(W:World)(p:Pr)(a:PrA):(Instr.storeAt 40 (.pointer (some ⟨W.heap.size,0,none⟩)) (prVal p a)).run Tryz.prog (W.alloc (prBx pr0 pa0)) = .ok () (W.alloc (prBx p a)) :=
 run_storeAt_new W 40 _ _ (by kernel_rfl) rfl (by simp [Value.oneCell'])
theorem uA{α : Type}(l:List α)(i:Nat)(x : α):l.toArray.setIfInBounds i x=(l.set i x).toArray:=List.setIfInBounds_toArray ..
theorem uB{α : Type}(a x : α)(l:List α):(a::l).set 0 x=x::l:=rfl
theorem uC{α : Type}(a x : α)(l:List α)(n:Nat):(a::l).set (n+1) x=a::l.set n x:=rfl
def KV(v:Value)(a:Act)(d:Option Tmp)(S:World→Prop):Act→World→Prop:=fun c w=>c=a.put d v∧S w
theorem KV.mk{v:Value}{a:Act}{d:Option Tmp}{S:World→Prop}{w:World}(h:S w):KV v a d S (a.put d v) w:=⟨rfl,h⟩
theorem KV.mk'{v:Value}{a c:Act}{d:Option Tmp}{S:World→Prop}{w:World}(e:c=a.put d v)(h:S w):KV v a d S c w:=⟨e,h⟩
def QF:Exit→Act→World→Prop:=fun _ _ _=>False
def StepS(P:Program)(ops:Array Oper)(S:World→Prop)(R:Act→Prop)(o:Oper)(l:List Nat)(a:Act):Prop:=∀i,ops[i]? = some o→SeqS P ops S R (i::l) a
section
variable {P:Program} {ops:Array Oper} {S:World→Prop} {R:Act→Prop} {l:List Nat} {o:Oper} {a a':Act}
theorem qO{i:Nat}(h:StepS P ops S R o l a)(ho:ops[i]? = some o:=by rw [List.getElem?_toArray];rfl):SeqS P ops S R (i::l) a:=h i ho
theorem qN(h:SeqS P ops S R l a')(hw:Region.wanted o (yielded ops a.tmps)=false:=by rfl)(hn:a.put o.dst undef=a':=by simp only [Act.put,uA,uB,uC];rfl):StepS P ops S R o l a:=fun _ ho=>SeqS.no ho hw (hn ▸ h)
theorem qV{v:Value}(h:SeqS P ops S R l a')(hw:Region.wanted o (yielded ops a.tmps)=true:=by rfl)
  (hy:∀w,S w→o.wp P a w (KV v a o.dst S) QF:=by intro W hW;go_simp;exact KV.mk hW) (hn:a.put o.dst v=a':=by simp only [Act.put,uA,uB,uC];rfl):StepS P ops S R o l a:=fun _ ho=>SeqS.one v ho hw hy (hn ▸ h)
theorem qC{v:Value}{f:Nat}{args:Array Value}{xs:Array Operand}{ts:Array TypeId}(hc:∀W,S W→Calls P f args W (fun e w'=>e = .returned v∧S w'))(h:SeqS P ops S R l a')(_hf:o.op = .call { callee:=.value (.func f),args:=xs,argTypes:=ts }:=by rfl)(hw:Region.wanted o (yielded ops a.tmps)=true:=by rfl)
  (hy:∀W,Calls P f args W (fun e w'=>e = .returned v∧S w')→S W→o.wp P a W (KV v a o.dst S) QF:=by intro W c hW;go_simp;with_reducible refine c.mono ?_;rintro e w' ⟨rfl,hb⟩;show KV _ _ _ _ _ _;refine KV.mk' ?_ hb;first|with_reducible rfl|simp only [Act.put,uA,uB,uC]) (hn:a.put o.dst v=a':=by simp only [Act.put,uA,uB,uC];rfl):StepS P ops S R o l a:=fun _ ho=>SeqS.one v ho hw (fun W hW=>hy W (hc W hW) hW) (hn ▸ h)
end
theorem PBx.all{w:World}{b:Nat}{p:Pr}{a:PrA}{W:World}(h:PBx w b p a W):W.cell? ⟨b,0,none⟩=some (.int .i64 p.kind)∧W.cell? ⟨b,1,none⟩=some (.string p.chan)∧W.cell? ⟨b,2,none⟩=some (.string p.name)∧W.cell? ⟨b,3,none⟩=some (.string p.label)∧W.cell? ⟨b,4,none⟩=some (.int .i64 p.ex.kind)∧W.cell? ⟨b,5,none⟩=some (.string p.ex.name)∧W.cell? ⟨b,6,none⟩=some (.int .i64 p.ex.so)∧W.cell? ⟨b,7,none⟩=some (.int .i64 p.ex.n)∧W.cell? ⟨b,8,none⟩=some (.string p.ex.s)∧W.cell? ⟨b,9,none⟩=some (.slice a.ea p.ex.kids.length a.ec)∧W.cell? ⟨b,10,none⟩=some (.slice a.xa p.exs.length a.xc)∧W.cell? ⟨b,11,none⟩=some (.slice a.na p.names.length a.nc)∧W.cell? ⟨b,12,none⟩=some (.int .i64 p.ty.kind)∧W.cell? ⟨b,13,none⟩=some (.int .i64 p.ty.so)∧W.cell? ⟨b,14,none⟩=some (.string p.ty.name)∧W.cell? ⟨b,15,none⟩=some (.slice a.tl p.ty.labels.length a.tlc)∧W.cell? ⟨b,16,none⟩=some (.slice a.tk p.ty.kids.length a.tkc)∧W.cell? ⟨b,17,none⟩=some (.slice a.la p.labels.length a.lc)∧W.cell? ⟨b,18,none⟩=some (.slice a.ka p.kids.length a.kc) :=
 ⟨h.at0.get (j:=0) (by omega) rfl,h.at0.get (j:=1) (by omega) rfl,h.at0.get (j:=2) (by omega) rfl,h.at0.get (j:=3) (by omega) rfl,h.at0.get (j:=4) (by omega) rfl,h.at0.get (j:=5) (by omega) rfl,h.at0.get (j:=6) (by omega) rfl,h.at0.get (j:=7) (by omega) rfl,h.at0.get (j:=8) (by omega) rfl,h.at0.get (j:=9) (by omega) rfl,h.at0.get (j:=10) (by omega) rfl,h.at0.get (j:=11) (by omega) rfl,h.at0.get (j:=12) (by omega) rfl,h.at0.get (j:=13) (by omega) rfl,h.at0.get (j:=14) (by omega) rfl,h.at0.get (j:=15) (by omega) rfl,h.at0.get (j:=16) (by omega) rfl,h.at0.get (j:=17) (by omega) rfl,h.at0.get (j:=18) (by omega) rfl⟩
theorem pkK{w:World}{p:Pr}{a:PrA}(h:1≤p.kind∧p.kind≤13):∀W,PBx w w.heap.size p a W→Calls Tryz.prog 109 #[prVal p a] W (fun e w'=>e = .returned (.int .i64 (kdsOf p:Int))∧PBx w w.heap.size p a w'):=fun W hW=>(kidsOf_any p a W h).mono fun _ _ ⟨h1,h2⟩=>⟨h1,hW.keep h2⟩
theorem pkC{w:World}{p:Pr}{a:PrA}(h:1≤p.kind∧p.kind≤13):∀W,PBx w w.heap.size p a W→Calls Tryz.prog 112 #[.int .i64 (fldOf p.kind),.int .i64 1] W (fun e w'=>e = .returned (.bool (hvC p.kind))∧PBx w w.heap.size p a w'):=fun W hW=>(haveC_any p.kind W h).mono fun _ _ ⟨h1,h2⟩=>⟨h1,h2 ▸ hW⟩
theorem pkN{w:World}{p:Pr}{a:PrA}(h:1≤p.kind∧p.kind≤13):∀W,PBx w w.heap.size p a W→Calls Tryz.prog 112 #[.int .i64 (fldOf p.kind),.int .i64 2] W (fun e w'=>e = .returned (.bool (hvN p.kind))∧PBx w w.heap.size p a w'):=fun W hW=>(haveN_any p.kind W h).mono fun _ _ ⟨h1,h2⟩=>⟨h1,h2 ▸ hW⟩
theorem pkL{w:World}{p:Pr}{a:PrA}(h:1≤p.kind∧p.kind≤13):∀W,PBx w w.heap.size p a W→Calls Tryz.prog 112 #[.int .i64 (fldOf p.kind),.int .i64 4] W (fun e w'=>e = .returned (.bool (hvL p.kind))∧PBx w w.heap.size p a w'):=fun W hW=>(haveL_any p.kind W h).mono fun _ _ ⟨h1,h2⟩=>⟨h1,h2 ▸ hW⟩
theorem pkX{w:World}{p:Pr}{a:PrA}(h:1≤p.kind∧p.kind≤13):∀W,PBx w w.heap.size p a W→Calls Tryz.prog 112 #[.int .i64 (fldOf p.kind),.int .i64 8] W (fun e w'=>e = .returned (.bool (hvX p.kind))∧PBx w w.heap.size p a w'):=fun W hW=>(haveX_any p.kind W h).mono fun _ _ ⟨h1,h2⟩=>⟨h1,h2 ▸ hW⟩
theorem pkXs{w:World}{p:Pr}{a:PrA}(h:1≤p.kind∧p.kind≤13):∀W,PBx w w.heap.size p a W→Calls Tryz.prog 112 #[.int .i64 (fldOf p.kind),.int .i64 16] W (fun e w'=>e = .returned (.bool (hvXs p.kind))∧PBx w w.heap.size p a w'):=fun W hW=>(haveXs_any p.kind W h).mono fun _ _ ⟨h1,h2⟩=>⟨h1,h2 ▸ hW⟩
theorem pkNs{w:World}{p:Pr}{a:PrA}(h:1≤p.kind∧p.kind≤13):∀W,PBx w w.heap.size p a W→Calls Tryz.prog 112 #[.int .i64 (fldOf p.kind),.int .i64 32] W (fun e w'=>e = .returned (.bool (hvNs p.kind))∧PBx w w.heap.size p a w'):=fun W hW=>(haveNs_any p.kind W h).mono fun _ _ ⟨h1,h2⟩=>⟨h1,h2 ▸ hW⟩
theorem pkT{w:World}{p:Pr}{a:PrA}(h:1≤p.kind∧p.kind≤13):∀W,PBx w w.heap.size p a W→Calls Tryz.prog 112 #[.int .i64 (fldOf p.kind),.int .i64 64] W (fun e w'=>e = .returned (.bool (hvT p.kind))∧PBx w w.heap.size p a w'):=fun W hW=>(haveT_any p.kind W h).mono fun _ _ ⟨h1,h2⟩=>⟨h1,h2 ▸ hW⟩
theorem pkLs{w:World}{p:Pr}{a:PrA}(h:1≤p.kind∧p.kind≤13):∀W,PBx w w.heap.size p a W→Calls Tryz.prog 112 #[.int .i64 (fldOf p.kind),.int .i64 128] W (fun e w'=>e = .returned (.bool (hvLs p.kind))∧PBx w w.heap.size p a w'):=fun W hW=>(haveLs_any p.kind W h).mono fun _ _ ⟨h1,h2⟩=>⟨h1,h2 ▸ hW⟩
theorem pkc{w:World}{p:Pr}{a:PrA}(h:PrB w w.heap.size p a):∀W,PBx w w.heap.size p a W→Calls Tryz.prog 103 #[.string p.chan] W (fun e w'=>e = .returned (.bool (isNm p.chan.data.toList))∧PBx w w.heap.size p a w'):=fun W hW=>(isName_any p.chan W h.chan).mono fun _ _ ⟨h1,h2⟩=>⟨h1,hW.keep h2⟩
theorem pkl{w:World}{p:Pr}{a:PrA}(h:PrB w w.heap.size p a):∀W,PBx w w.heap.size p a W→Calls Tryz.prog 103 #[.string p.label] W (fun e w'=>e = .returned (.bool (isNm p.label.data.toList))∧PBx w w.heap.size p a w'):=fun W hW=>(isName_any p.label W h.label).mono fun _ _ ⟨h1,h2⟩=>⟨h1,hW.keep h2⟩
theorem pkn{w:World}{p:Pr}{a:PrA}(h:PrB w w.heap.size p a):∀W,PBx w w.heap.size p a W→Calls Tryz.prog 113 #[prVal p a] W (fun e w'=>e = .returned (.bool (nmOf p))∧PBx w w.heap.size p a w'):=fun W hW=>(isNameOf_any p a W h.name).mono fun _ _ ⟨h1,h2⟩=>⟨h1,hW.keep h2⟩
theorem pkx{w:World}{p:Pr}{a:PrA}(h:PrB w w.heap.size p a):∀W,PBx w w.heap.size p a W→Calls Tryz.prog 114 #[exVal p.ex a.ea a.ec] W (fun e w'=>e = .returned (.bool (noEx p.ex))∧PBx w w.heap.size p a w'):=fun W hW=>(isNoExpr_any p.ex a.ea a.ec W (Nat.le_trans h.exb.kids h.exb.cap)).mono fun _ _ ⟨h1,h2⟩=>⟨h1,hW.keep h2⟩
theorem pks{w:World}{p:Pr}{a:PrA}(h:PrB w w.heap.size p a):∀W,PBx w w.heap.size p a W→Calls Tryz.prog 76 #[.slice a.na p.names.length a.nc] W (fun e w'=>e = .returned (.bool (areNm p.names))∧PBx w w.heap.size p a w'):=fun W hW=>(areNames_any p.names a.na a.nc W ((h.nms.keep hW.bl).mono hW.bl.size)).mono fun _ _ ⟨h1,h2⟩=>⟨h1,hW.keep h2⟩
theorem pkt{w:World}{p:Pr}{a:PrA}(h:PrB w w.heap.size p a):∀W,PBx w w.heap.size p a W→Calls Tryz.prog 115 #[tyVal p.ty a.tl a.tlc a.tk a.tkc] W (fun e w'=>e = .returned (.bool (noTy p.ty))∧PBx w w.heap.size p a w'):=fun W hW=>(isNoTy_any p.ty a.tl a.tlc a.tk a.tkc W (Nat.le_trans h.tyb.labels h.tyb.cl) (Nat.le_trans h.tyb.kids h.tyb.ck)).mono fun _ _ ⟨h1,h2⟩=>⟨h1,hW.keep h2⟩
theorem pkb{w:World}{p:Pr}{a:PrA}(h:PrB w w.heap.size p a):∀W,PBx w w.heap.size p a W→Calls Tryz.prog 116 #[.slice a.la p.labels.length a.lc] W (fun e w'=>e = .returned (.bool (labsOK p.labels))∧PBx w w.heap.size p a w'):=fun W hW=>(areLabels_any p.labels a.la a.lc W h.lbs.siz (Nat.le_trans h.lbs.len h.lbs.cap) ((h.lbs.keep hW.bl).mono hW.bl.size).la).mono fun _ _ ⟨h1,h2⟩=>⟨h1,hW.keep h2⟩
theorem pkf{S:World→Prop}{x y z b:Bool}(h:fitB x y z=b):∀W,S W→Calls Tryz.prog 111 #[.bool x,.bool y,.bool z] W (fun e w'=>e = .returned (.bool b)∧S w'):=fun W hW=>(fits_any x y z W).mono fun _ _ ⟨h1,h2⟩=>⟨h ▸ h1,h2 ▸ hW⟩
section
variable {P:Program} {ops:Array Oper} {S:World→Prop} {R:Act→Prop} {l:List Nat} {o:Oper} {a a':Act}
theorem qL{v:Value}(h:SeqS P ops S R l a')(hw:Region.wanted o (yielded ops a.tmps)=true:=by rfl)(hy:∀w,S w→o.wp P a w (KV v a o.dst S) QF:=by intro W hW;obtain ⟨x0,x1,x2,x3,x4,x5,x6,x7,x8,x9,x10,x11,x12,x13,x14,x15,x16,x17,x18⟩:=hW.all;go_simp;exact KV.mk hW)(hn:a.put o.dst v=a':=by simp only [Act.put,uA,uB,uC];rfl):StepS P ops S R o l a:=fun _ ho=>SeqS.one v ho hw hy (hn ▸ h)
theorem qP{v:Value}(h:SeqS P ops S R l a')(hw:Region.wanted o (yielded ops a.tmps)=true:=by rfl)(hy:∀w,S w→o.wp P a w (KV v a o.dst S) QF:=by intro W hW;exact wp_load (by rfl) (by rfl) (load_pr hW.at0) hW)(hn:a.put o.dst v=a':=by simp only [Act.put,uA,uB,uC];rfl):StepS P ops S R o l a:=fun _ ho=>SeqS.one v ho hw hy (hn ▸ h)
theorem qX{v:Value}(h:SeqS P ops S R l a')(hw:Region.wanted o (yielded ops a.tmps)=true:=by rfl)(hy:∀w,S w→o.wp P a w (KV v a o.dst S) QF:=by intro W hW;exact wp_load (by rfl) (by rfl) (load_ex hW.at0.ex) hW)(hn:a.put o.dst v=a':=by simp only [Act.put,uA,uB,uC];rfl):StepS P ops S R o l a:=fun _ ho=>SeqS.one v ho hw hy (hn ▸ h)
theorem qT{v:Value}(h:SeqS P ops S R l a')(hw:Region.wanted o (yielded ops a.tmps)=true:=by rfl)(hy:∀w,S w→o.wp P a w (KV v a o.dst S) QF:=by intro W hW;exact wp_load (by rfl) (by rfl) (load_ty hW.at0.ty) hW)(hn:a.put o.dst v=a':=by simp only [Act.put,uA,uB,uC];rfl):StepS P ops S R o l a:=fun _ ho=>SeqS.one v ho hw hy (hn ▸ h)
end
theorem bounds_pr{W:World}{B:Nat}{p:Pr}{a:PrA}(h:PrB W B p a):(p.kids.length:Int)≤9223372036854775807∧(p.exs.length:Int)≤9223372036854775807∧(p.names.length:Int)≤9223372036854775807∧(p.labels.length:Int)≤9223372036854775807:=by
 have:=h.kl;have:=h.kc;have:=h.exs.len;have:=h.exs.cap;have:=h.nms.len;have:=h.nms.cap;have:=h.lbs.len;have:=h.lbs.cap;omega
theorem isPart_low(p:Pr)(a:PrA)(w:World)(hb:PrB w w.heap.size p a)(hk1:p.kind<1):Calls Tryz.prog 79 #[prVal p a] w fun e w'=>e = .returned (.bool false)∧Below w.heap.size w w':=by
 have HX0:=hideK (show PBx w w.heap.size p a (w.alloc (prBx p a)).drew from (PBx.new w p a).keep ((bR _ _).drew))
 obtain ⟨hkl,hxl,hnl,hll⟩:=bounds_pr hb;have HB:=hideK hb;clear hb;simp only [prBx,prVal]at HX0 ⊢;go_enter Tryz.func79,Tryz.ntmps79
 go_upto_region 1 with fail
 refine region_seq (PBx w w.heap.size p a) [0,1,2,3,4,5,6,7,8,9,10,11,12,13,14,15] (by kernel_rfl) (by kernel_rfl) (by kernel_rfl) (HX0.out) ?_
 repeat (refine qO ?_;first|refine qN ?_|refine qP ?_|refine qX ?_|refine qT ?_|refine qV ?_|refine qL ?_)
 refine SeqS.done ?_;intro W1 hW1;have HB1:=hideK hW1.bl;clear hW1;go_wp2_with fail
 go_ret
 exact ⟨rfl,HB1.out⟩
theorem isPart_high(p:Pr)(a:PrA)(w:World)(hb:PrB w w.heap.size p a)(hk1:¬p.kind<1)(hk2:13<p.kind):Calls Tryz.prog 79 #[prVal p a] w fun e w'=>e = .returned (.bool false)∧Below w.heap.size w w':=by
 have HX0:=hideK (show PBx w w.heap.size p a (w.alloc (prBx p a)).drew from (PBx.new w p a).keep ((bR _ _).drew))
 obtain ⟨hkl,hxl,hnl,hll⟩:=bounds_pr hb;have HB:=hideK hb;clear hb;simp only [prBx,prVal]at HX0 ⊢;go_enter Tryz.func79,Tryz.ntmps79
 go_upto_region 1 with fail
 refine region_seq (PBx w w.heap.size p a) [0,1,2,3,4,5,6,7,8,9,10,11,12,13,14,15] (by kernel_rfl) (by kernel_rfl) (by kernel_rfl) (HX0.out) ?_
 repeat (refine qO ?_;first|refine qN ?_|refine qP ?_|refine qX ?_|refine qT ?_|refine qV ?_|refine qL ?_)
 refine SeqS.done ?_;intro W1 hW1;have HB1:=hideK hW1.bl;clear hW1;go_wp2_with fail
 go_ret
 exact ⟨rfl,HB1.out⟩
theorem isPart_len(p:Pr)(a:PrA)(w:World)(hb:PrB w w.heap.size p a)(hk:1≤p.kind∧p.kind≤13)(hl:((p.kids.length:Int) != (kdsOf p:Int))=true):Calls Tryz.prog 79 #[prVal p a] w fun e w'=>e = .returned (.bool false)∧Below w.heap.size w w':=by
 have HX0:=hideK (show PBx w w.heap.size p a (w.alloc (prBx p a)).drew from (PBx.new w p a).keep ((bR _ _).drew))
 obtain ⟨hkl,hxl,hnl,hll⟩:=bounds_pr hb;have HB:=hideK hb;have HK:=hideK hk;have hk1:¬p.kind<1:=by omega
 have hk2:¬ 13<p.kind:=by omega
 clear hk;clear hb;simp only [prBx,prVal]at HX0 ⊢;go_enter Tryz.func79,Tryz.ntmps79
 go_upto_region 1 with fail
 refine region_seq (PBx w w.heap.size p a) [0,1,2,3,4,5,6,7,8,9,10,11,12,13,14,15] (by kernel_rfl) (by kernel_rfl) (by kernel_rfl) (HX0.out) ?_
 repeat (refine qO ?_;first|refine qN ?_|refine qC (pkK HK.out) ?_|refine qP ?_|refine qX ?_|refine qT ?_|refine qV ?_|refine qL ?_)
 refine SeqS.done ?_;intro W1 hW1;have HB1:=hideK hW1.bl;clear hW1;go_wp2_with fail
 go_ret
 exact ⟨rfl,HB1.out⟩
end Go.Proofs.YtmamabhhgfcjcaaGreatDoor
