/-
  The contracts of the functions of the shape package that look at one part of a process.
-/
import Derived.Test.YtmamabhhgfcjcaaGreatDoorOd
set_option maxRecDepth 100000
set_option maxHeartbeats 2000000
namespace Go.Proofs.YtmamabhhgfcjcaaGreatDoor
open Go.RowKit Go.Shelf
theorem PrAt.cells{W:World}{b o:Nat}{p:Pr}{a:PrA}(h:PrAt W b o p a):W.cell? ⟨b,o,none⟩=some (.int .i64 p.kind)∧W.cell? ⟨b,o+1,none⟩=some (.string p.chan)∧W.cell? ⟨b,o+2,none⟩=some (.string p.name)∧W.cell? ⟨b,o+3,none⟩=some (.string p.label)∧W.cell? ⟨b,o+4,none⟩=some (.int .i64 p.ex.kind)∧W.cell? ⟨b,o+5,none⟩=some (.string p.ex.name)∧W.cell? ⟨b,o+6,none⟩=some (.int .i64 p.ex.so)∧W.cell? ⟨b,o+7,none⟩=some (.int .i64 p.ex.n)∧W.cell? ⟨b,o+8,none⟩=some (.string p.ex.s)∧W.cell? ⟨b,o+9,none⟩=some (.slice a.ea p.ex.kids.length a.ec)∧W.cell? ⟨b,o+10,none⟩=some (.slice a.xa p.exs.length a.xc)∧W.cell? ⟨b,o+11,none⟩=some (.slice a.na p.names.length a.nc)∧W.cell? ⟨b,o+12,none⟩=some (.int .i64 p.ty.kind)∧W.cell? ⟨b,o+13,none⟩=some (.int .i64 p.ty.so)∧W.cell? ⟨b,o+14,none⟩=some (.string p.ty.name)∧W.cell? ⟨b,o+15,none⟩=some (.slice a.tl p.ty.labels.length a.tlc)∧W.cell? ⟨b,o+16,none⟩=some (.slice a.tk p.ty.kids.length a.tkc)∧W.cell? ⟨b,o+17,none⟩=some (.slice a.la p.labels.length a.lc)∧W.cell? ⟨b,o+18,none⟩=some (.slice a.ka p.kids.length a.kc) :=
 ⟨h 0 (by omega),h 1 (by omega),h 2 (by omega),h 3 (by omega),h 4 (by omega),h 5 (by omega),h 6 (by omega),h 7 (by omega),h 8 (by omega),h 9 (by omega),h 10 (by omega),h 11 (by omega),h 12 (by omega),h 13 (by omega),h 14 (by omega),h 15 (by omega),h 16 (by omega),h 17 (by omega),h 18 (by omega)⟩
def prBx(p:Pr)(a:PrA):Obj:=.cells #[.int .i64 p.kind,.string p.chan,.string p.name,.string p.label,.int .i64 p.ex.kind,.string p.ex.name,.int .i64 p.ex.so,.int .i64 p.ex.n,.string p.ex.s,.slice a.ea p.ex.kids.length a.ec,.slice a.xa p.exs.length a.xc,.slice a.na p.names.length a.nc,.int .i64 p.ty.kind,.int .i64 p.ty.so,.string p.ty.name,.slice a.tl p.ty.labels.length a.tlc,.slice a.tk p.ty.kids.length a.tkc,.slice a.la p.labels.length a.lc,.slice a.ka p.kids.length a.kc] 40
theorem prBx_at(W:World)(p:Pr)(a:PrA):PrAt (W.alloc (prBx p a)) W.heap.size 0 p a:=by
 intro j hj;unfold prBx prCs;match j,hj with
 | 0,_=>go_cell
 | 1,_=>go_cell
 | 2,_=>go_cell
 | 3,_=>go_cell
 | 4,_=>go_cell
 | 5,_=>go_cell
 | 6,_=>go_cell
 | 7,_=>go_cell
 | 8,_=>go_cell
 | 9,_=>go_cell
 | 10,_=>go_cell
 | 11,_=>go_cell
 | 12,_=>go_cell
 | 13,_=>go_cell
 | 14,_=>go_cell
 | 15,_=>go_cell
 | 16,_=>go_cell
 | 17,_=>go_cell
 | 18,_=>go_cell
 | n+19,h=>omega
structure PBx(w:World)(b:Nat)(p:Pr)(a:PrA)(W:World):Prop where
 bl:Below w.heap.size w W
 lo:w.heap.size≤b
 lt:b<W.heap.size
 at0:PrAt W b 0 p a
theorem PBx.new(w:World)(p:Pr)(a:PrA):PBx w w.heap.size p a (w.alloc (prBx p a)):=⟨(bR _ _).alloc (nR _) _,nR _,by simp,prBx_at w p a⟩
theorem PBx.keep{w:World}{b:Nat}{p:Pr}{a:PrA}{W W':World}(h:PBx w b p a W)(hb:Below W.heap.size W W'):PBx w b p a W':=⟨h.bl.trans (hb.mono h.bl.size),h.lo,nL h.lt hb.size,h.at0.keep hb h.lt⟩
theorem kidsOf_any(p:Pr)(a:PrA)(w:World)(h:1≤p.kind∧p.kind≤13):Calls Tryz.prog 109 #[prVal p a] w fun e w'=>e = .returned (.int .i64 (kdsOf p:Int))∧Below w.heap.size w w':=by
 obtain ⟨kd,ch,nm,lb,x,xs,ns,t,ls,ks⟩:=p;simp only [prVal]at h ⊢;rcases kinds13 h with rfl|rfl|rfl|rfl|rfl|rfl|rfl|rfl|rfl|rfl|rfl|rfl|rfl
 case _=>clear h;go_enter Tryz.func109,Tryz.ntmps109;go_wp2_with fail;go_ret;exact ⟨rfl,by go_grown⟩
 case _=>clear h;go_enter Tryz.func109,Tryz.ntmps109;go_wp2_with fail;go_ret;exact ⟨rfl,by go_grown⟩
 case _=>clear h;go_enter Tryz.func109,Tryz.ntmps109;go_wp2_with fail;go_ret;exact ⟨rfl,by go_grown⟩
 case _=>clear h;go_enter Tryz.func109,Tryz.ntmps109;go_wp2_with fail;go_ret;exact ⟨rfl,by go_grown⟩
 case _=>clear h;go_enter Tryz.func109,Tryz.ntmps109;go_wp2_with fail;go_ret;exact ⟨rfl,by go_grown⟩
 case _=>clear h;go_enter Tryz.func109,Tryz.ntmps109;go_wp2_with fail;go_ret;exact ⟨rfl,by go_grown⟩
 case _=>clear h;go_enter Tryz.func109,Tryz.ntmps109;go_wp2_with fail;go_ret;exact ⟨rfl,by go_grown⟩
 case _=>clear h;go_enter Tryz.func109,Tryz.ntmps109;go_wp2_with fail;go_ret;exact ⟨rfl,by go_grown⟩
 case _=>clear h;go_enter Tryz.func109,Tryz.ntmps109;go_wp2_with fail;go_ret;exact ⟨rfl,by go_grown⟩
 case _=>clear h;go_enter Tryz.func109,Tryz.ntmps109;go_wp2_with fail;go_ret;exact ⟨rfl,by go_grown⟩
 case _=>clear h;go_enter Tryz.func109,Tryz.ntmps109;go_wp2_with fail;go_ret;exact ⟨rfl,by go_grown⟩
 case _=>clear h;go_enter Tryz.func109,Tryz.ntmps109;go_wp2_with fail;go_ret;exact ⟨rfl,by go_grown⟩
 case _=>clear h;go_enter Tryz.func109,Tryz.ntmps109;go_wp2_with fail;go_ret;exact ⟨rfl,by go_grown⟩
theorem isNameOf_any(p:Pr)(a:PrA)(w:World)(hs:p.name.size≤9223372036854775807):Calls Tryz.prog 113 #[prVal p a] w fun e w'=>e = .returned (.bool (nmOf p))∧Below w.heap.size w w':=by
 have HB:=hideK (show Below w.heap.size w (w.alloc (prBx p a)) from (bR _ _).alloc (nR _) _)
 have c1:=isProc_any p.name (w.alloc (prBx p a)) hs;have c2:=isName_any p.name (w.alloc (prBx p a)) hs;have hd:nmOf p=if p.kind=13 then isPc p.name else isNm p.name.data.toList:=rfl
 generalize nmOf p=r at *;generalize isPc p.name=q1 at *;generalize isNm p.name.data.toList=q2 at *;clear hs;simp only [prBx,prVal]at *;by_cases hk:p.kind=13
 ·rw [if_pos hk]at hd
  subst hd;have hkb:(p.kind==13)=true:=by simpa using hk
  clear hk c2;go_enter Tryz.func113,Tryz.ntmps113
  go_wp2_with fail
  refine c1.mono ?_;rintro e w1 ⟨rfl,hb1⟩;have HB1:=hideK (HB.out.trans (hb1.mono HB.out.size));clear hb1 c1 HB;go_wp2_with fail
  go_ret
  exact ⟨rfl,HB1.out⟩
 ·rw [if_neg hk]at hd
  subst hd;have hkb:(p.kind==13)=false:=by simpa using hk
  clear hk c1;go_enter Tryz.func113,Tryz.ntmps113
  go_wp2_with fail
  refine c2.mono ?_;rintro e w1 ⟨rfl,hb1⟩;have HB1:=hideK (HB.out.trans (hb1.mono HB.out.size));clear hb1 c2 HB;go_wp2_with fail
  go_ret
  exact ⟨rfl,HB1.out⟩
theorem isNoExpr_any(x:Ex)(ao:OAd)(cap:Nat)(w:World)(hl:x.kids.length≤9223372036854775807):Calls Tryz.prog 114 #[exVal x ao cap] w fun e w'=>e = .returned (.bool (noEx x))∧Below w.heap.size w w':=by
 obtain ⟨kd,nm,so,n,s,ks⟩:=x;have hd:noEx ⟨kd,nm,so,n,s,ks⟩=decide (kd=0∧nm=⟨#[]⟩∧so=0∧n=0∧s=⟨#[]⟩∧ks.length=0):=rfl;generalize noEx ⟨kd,nm,so,n,s,ks⟩=r at *;simp only at hl;simp only [exVal];generalize ks.length=k at *;have hkz:(k:Int)≤9223372036854775807:=by omega
 by_cases h0:kd=0
 ·subst h0
  by_cases h1:nm=⟨#[]⟩
  ·subst h1
   rcases zero_cases so n s with ⟨rfl,rfl,rfl⟩|hz|⟨rfl,hz⟩|⟨rfl,rfl,hz⟩
   ·by_cases h5:k=0
    ·subst h5
     rw [show r=true from by rw [hd];simp]
     clear hd;go_enter Tryz.func114,Tryz.ntmps114;go_wp2_with fail;go_ret;exact ⟨rfl,by go_grown⟩
    ·have b0:((k:Int)==0)=false:=by simp;omega
     rw [show r=false from by rw [hd];simp [h5]]
     clear hd h5;go_enter Tryz.func114,Tryz.ntmps114;go_wp2_with fail;go_ret;exact ⟨rfl,by go_grown⟩
   ·have b1:(so==0)=false:=by simpa using hz
    rw [show r=false from by rw [hd];simp [hz]]
    clear hd hz;go_enter Tryz.func114,Tryz.ntmps114;go_wp2_with fail;go_ret;exact ⟨rfl,by go_grown⟩
   ·have b1:(n==0)=false:=by simpa using hz
    rw [show r=false from by rw [hd];simp [hz]]
    clear hd hz;go_enter Tryz.func114,Tryz.ntmps114;go_wp2_with fail;go_ret;exact ⟨rfl,by go_grown⟩
   ·have b1:s.toList.isEmpty=false:=by rw [empty_toList];simpa using hz
    rw [show r=false from by rw [hd];simp [hz]]
    clear hd hz;go_enter Tryz.func114,Tryz.ntmps114;go_wp2_with fail;go_ret;exact ⟨rfl,by go_grown⟩
  ·have b1:nm.toList.isEmpty=false:=by rw [empty_toList];simpa using h1
   rw [show r=false from by rw [hd];simp [h1]]
   clear hd h1;go_enter Tryz.func114,Tryz.ntmps114;go_wp2_with fail;go_ret;exact ⟨rfl,by go_grown⟩
 ·have b0:(kd==0)=false:=by simpa using h0
  rw [show r=false from by rw [hd];simp [h0]]
  clear hd h0;go_enter Tryz.func114,Tryz.ntmps114;go_wp2_with fail;go_ret;exact ⟨rfl,by go_grown⟩
theorem isNoTy_any(t:Ty)(al:OAd)(cl:Nat)(ak:OAd)(ck:Nat)(w:World)(hl:t.labels.length≤9223372036854775807)(hk:t.kids.length≤9223372036854775807):Calls Tryz.prog 115 #[tyVal t al cl ak ck] w fun e w'=>e = .returned (.bool (noTy t))∧Below w.heap.size w w':=by
 obtain ⟨kd,so,nm,ls,ks⟩:=t;have hd:noTy ⟨kd,so,nm,ls,ks⟩=decide (kd=0∧so=0∧nm=⟨#[]⟩∧ls.length=0∧ks.length=0):=rfl;generalize noTy ⟨kd,so,nm,ls,ks⟩=r at *;simp only at hl hk;simp only [tyVal];generalize ks.length=k at *;generalize ls.length=l at *;have hkz:(k:Int)≤9223372036854775807:=by omega
 have hlz:(l:Int)≤9223372036854775807:=by omega
 by_cases h0:kd=0
 ·subst h0
  by_cases h1:so=0
  ·subst h1
   by_cases h2:nm=⟨#[]⟩
   ·subst h2
    by_cases h3:l=0
    ·subst h3
     by_cases h5:k=0
     ·subst h5
      rw [show r=true from by rw [hd];simp]
      clear hd;go_enter Tryz.func115,Tryz.ntmps115;go_wp2_with fail;go_ret;exact ⟨rfl,by go_grown⟩
     ·have b0:((k:Int)==0)=false:=by simp;omega
      rw [show r=false from by rw [hd];simp [h5]]
      clear hd h5;go_enter Tryz.func115,Tryz.ntmps115;go_wp2_with fail;go_ret;exact ⟨rfl,by go_grown⟩
    ·have b0:((l:Int)==0)=false:=by simp;omega
     rw [show r=false from by rw [hd];simp [h3]]
     clear hd h3;go_enter Tryz.func115,Tryz.ntmps115;go_wp2_with fail;go_ret;exact ⟨rfl,by go_grown⟩
   ·have b1:nm.toList.isEmpty=false:=by rw [empty_toList];simpa using h2
    rw [show r=false from by rw [hd];simp [h2]]
    clear hd h2;go_enter Tryz.func115,Tryz.ntmps115;go_wp2_with fail;go_ret;exact ⟨rfl,by go_grown⟩
  ·have b1:(so==0)=false:=by simpa using h1
   rw [show r=false from by rw [hd];simp [h1]]
   clear hd h1;go_enter Tryz.func115,Tryz.ntmps115;go_wp2_with fail;go_ret;exact ⟨rfl,by go_grown⟩
 ·have b0:(kd==0)=false:=by simpa using h0
  rw [show r=false from by rw [hd];simp [h0]]
  clear hd h0;go_enter Tryz.func115,Tryz.ntmps115;go_wp2_with fail;go_ret;exact ⟨rfl,by go_grown⟩
theorem isNoName_any(s:ByteArray)(w:World)(hs:s.size≤9223372036854775807):Calls Tryz.prog 106 #[.string s] w fun e w'=>e = .returned (.bool (!isNm s.data.toList))∧Below w.heap.size w w':=by
 have c:=isName_any s w hs;generalize isNm s.data.toList=q at *;go_enter Tryz.func106,Tryz.ntmps106
 go_wp2_with fail
 refine c.mono ?_;rintro e w1 ⟨rfl,hb1⟩;have HB:=hideK hb1;clear c hb1;go_wp2_with fail
 go_ret
 exact ⟨rfl,HB.out⟩
theorem indexNm_any(ls:List ByteArray)(al:OAd)(cl:Nat)(w:World)(hbd:∀l∈ls,l.size≤9223372036854775807)(hL:LA w w.heap.size ls al)(hl:ls.length≤1000):
  Calls Tryz.prog 132 #[.slice al ls.length cl,.func (.func 106) #[] #[]] w fun e w'=>(∃z:Int,e = .returned (.int .i64 z)∧(0≤z∨z = -1)∧(z = -1↔(ls.all fun s=>isNm s.data.toList)=true))∧Below w.heap.size w w':=by
 have hlz:(ls.length:Int)≤1000:=by omega
 go_enter Tryz.func132,Tryz.ntmps132
 go_wp2_with fail
 go_loopw [8] (fun i wr=>∃k:Nat,k≤ls.length∧i = .int .i64 (k:Int)∧((ls.take k).all fun s=>isNm s.data.toList)=true∧Below w.heap.size w wr) (fun i _=>ls.length - (intOf i).toNat)
 case atStart=>exact ⟨0,Nat.zero_le _,rfl,rfl,Below.refl _ _⟩
 case round =>
  obtain ⟨k,hk,rfl,hn,hbw⟩:=hrel;have HBW:=hideK hbw;by_cases hlt:k<ls.length
  ·have hltz:(k:Int)<(ls.length:Int):=by omega
   obtain ⟨b,o,rfl,hbl,hc⟩:=(NAt.keep hbw hL).resolve_left (fun q=>by have:=congrArg List.length q;simp at this;rw [this]at hlt;simp at hlt)
   have d0:=hc k (by simpa using hlt)
   rw [List.getElem_map]at d0;have c:=isNoName_any ls[k] wr (hbd _ (List.getElem_mem hlt));cases hq:isNm ls[k].data.toList with
   | true =>
    rw [hq]at c;have HN:=hideK (show ((ls.take (k+1)).all fun s=>isNm s.data.toList)=true from by
     rw [List.take_succ_eq_append_getElem hlt,List.all_append,hn];simp [hq])
    clear hc hn hq hL hbw;generalize ls[k]=y at *;go_wp2_with fail
    refine c.mono ?_;rintro e w1 ⟨rfl,hb1⟩;have HB1:=hideK (HBW.out.trans (hb1.mono HBW.out.size));clear c hb1 HBW;go_wp2_with fail
    go_roundw
    case rel=>exact ⟨k+1,by omega,by go_num,HN.out,HB1.out⟩
    case measure=>simp [intOf];omega
   | false =>
    rw [hq]at c;have HN:=hideK (show ¬(ls.all fun s=>isNm s.data.toList)=true from fun h=>by
     have:=List.all_eq_true.1 h _ (List.getElem_mem hlt);rw [hq]at this;cases this)
    clear hc hn hq hL hbw;generalize ls[k]=y at *;go_wp2_with fail
    refine c.mono ?_;rintro e w1 ⟨rfl,hb1⟩;have HB1:=hideK (HBW.out.trans (hb1.mono HBW.out.size));clear c hb1 HBW;go_wp2_with fail
    go_ret
    exact ⟨⟨_,rfl,.inl (by omega),⟨fun h=>absurd h (by omega),fun h=>absurd h HN.out⟩⟩,HB1.out⟩
  ·have hltz:¬(k:Int)<(ls.length:Int):=by omega
   have hkl:k=ls.length:=by omega
   subst hkl;rw [List.take_length]at hn;have HN:=hideK hn;clear hn hbw;go_wp2_with fail
   go_ret
   exact ⟨⟨_,rfl,.inr rfl,⟨fun _=>by first|exact HN.out|exact List.all_eq_true.1 HN.out,fun _=>rfl⟩⟩,HBW.out⟩
theorem containsNm_any(ls:List ByteArray)(al:OAd)(cl:Nat)(w:World)(hbd:∀l∈ls,l.size≤9223372036854775807)(hL:LA w w.heap.size ls al)(hl:ls.length≤1000):
  Calls Tryz.prog 105 #[.slice al ls.length cl,.func (.func 106) #[] #[]] w fun e w'=>e = .returned (.bool (!(ls.all fun s=>isNm s.data.toList)))∧Below w.heap.size w w':=by
 have c:=indexNm_any ls al cl w hbd hL hl;generalize (ls.all fun s=>isNm s.data.toList)=q at *
 go_enter Tryz.func105,Tryz.ntmps105
 go_wp2_with fail
 refine c.mono ?_;rintro e w1 ⟨⟨z,rfl,hz,hq⟩,hb1⟩;have HB:=hideK hb1;have hd:decide (0≤z) = !q:=by
  rcases hz with h|h
  ·have:q=false:=by
    cases q with
    | false=>rfl
    | true=>have:=hq.2 rfl;omega
   rw [this];simpa using h
  ·have:q=true:=hq.1 h
   rw [this,h];decide
 clear c hb1 hq hz;go_wp2_with fail
 go_ret
 exact ⟨by rw [← hd];rfl,HB.out⟩
theorem areNames_any(ls:List ByteArray)(al:OAd)(cl:Nat)(w:World)(h:NmsAt w w.heap.size ls al cl):
  Calls Tryz.prog 76 #[.slice al ls.length cl] w fun e w'=>e = .returned (.bool (areNm ls))∧Below w.heap.size w w':=by
 have hd:areNm ls=(decide (ls.length≤6) && ls.all fun s=>isNm s.data.toList):=rfl
 have hlz:(ls.length:Int)≤9223372036854775807:=by have:=h.len;have:=h.cap;omega
 by_cases h6:ls.length≤6
 ·have c:=containsNm_any ls al cl w h.siz h.la (by omega)
  have h6b:(ls.length:Int)≤6:=by omega
  rw [show decide (ls.length≤6)=true from by simpa using h6,Bool.true_and]at hd
  rw [← hd]at c;clear hd h6 h;generalize areNm ls=q at *;go_enter Tryz.func76,Tryz.ntmps76
  go_wp2_with fail
  refine c.mono ?_;rintro e w1 ⟨rfl,hb1⟩;have HB:=hideK hb1;clear c hb1;go_wp2_with fail
  go_ret
  exact ⟨by simp,HB.out⟩
 ·have h6b:¬(ls.length:Int)≤6:=by omega
  rw [show decide (ls.length≤6)=false from by simpa using h6,Bool.false_and]at hd
  rw [hd];clear hd h6 h;go_enter Tryz.func76,Tryz.ntmps76
  go_wp2_with fail
  go_ret
  exact ⟨rfl,Below.refl _ _⟩
theorem load_pr{W:World}{b o:Nat}{p:Pr}{a:PrA}(h:PrAt W b o p a):(Instr.loadAt 40 (.pointer (some ⟨b,o,none⟩))).run Tryz.prog W = .ok (prVal p a) W:=by
 have h19:(loadCells ⟨b,o,none⟩ 19).run Tryz.prog W = .ok (prCs p a).toArray W:=run_loadCells_list W ⟨b,o,none⟩ (prCs p a) (fun j v hj=>by
  have hlt:j<19:=(List.getElem?_eq_some_iff.1 hj).1;have:=h j hlt;rw [hj]at this;rw [Go.WideShapes.add_plain];exact this)
 unfold Instr.loadAt loadVar;simp [Instr.sureAddr,h19,Result.andThen,prVal,prCs]
section
variable {P:Program} {ops:Array Oper} {Q:Exit→Act→World→Prop} {S:World→Prop}
def YldS(P:Program)(ops:Array Oper)(S:World→Prop)(o:Oper)(v:Value)(a:Act):Prop :=
 (Region.wanted o (yielded ops a.tmps)=true∧∀w,S w→o.wp P a w (fun c w'=>c=a.put o.dst v∧S w') (fun _ _ _=>False)) ∨
 (Region.wanted o (yielded ops a.tmps)=false∧v=undef)
def SeqS(P:Program)(ops:Array Oper)(S:World→Prop)(R:Act→Prop):List Nat→Act→Prop
 | [],a=>R a
 | i::l,a=>∃o v,ops[i]? = some o∧YldS P ops S o v a∧SeqS P ops S R l (a.put o.dst v)
def waitsFor(oi:Oper)(j:Nat):Bool:=oi.after.any fun e=>Region.binds .any e && decide (e.on=j)
def seqOne(ops:Array Oper)(j:Nat)(oj:Oper)(i:Nat)(oi:Oper):Bool:=match oi.dst with
 | none=>true
 | some d=>(decide (i=j) || oj.dst != some d) && (!(oj.looksAt ops).contains d || (decide (i<j) && waitsFor oj i) || (decide (j<i) && waitsFor oi j))
def noSel(o:Oper):Bool:=match o.op with | .select .. => false|_=>true
def seqOK(ops:Array Oper):Bool:=ops.toList.zipIdx.all fun q =>
 noSel q.1 && (q.1.after.all fun e=>!Region.binds .any e || decide (e.on<q.2)) && ops.toList.zipIdx.all fun r=>seqOne ops q.2 q.1 r.2 r.1
theorem waitsFor_iff{o:Oper}{j:Nat}:waitsFor o j=true↔∃e∈o.after,Region.binds .any e=true∧e.on=j:=by
 unfold waitsFor;rw [Array.any_eq_true];constructor
 ·rintro ⟨i,hi,h⟩
  rw [Bool.and_eq_true,decide_eq_true_eq]at h;exact ⟨_,Array.getElem_mem hi,h.1,h.2⟩
 ·rintro ⟨e,he,h1,h2⟩
  obtain ⟨i,hi,rfl⟩:=Array.mem_iff_getElem.1 he;exact ⟨i,hi,by rw [Bool.and_eq_true,decide_eq_true_eq];exact ⟨h1,h2⟩⟩
theorem mem_zip{l:List Oper}{i:Nat}{o:Oper}(h:l[i]? = some o):(o,i)∈l.zipIdx:=by
 rw [List.mem_zipIdx_iff_getElem?];exact h
theorem seqOK_spec(h:seqOK ops=true){j:Nat}{oj:Oper}(hj:ops[j]? = some oj):(∀cs b,oj.op≠.select cs b)∧(∀e∈oj.after,Region.binds .any e=true→e.on<j) ∧
  ∀i oi d,ops[i]? = some oi→oi.dst=some d→(i=j∨oj.dst≠some d)∧(d∈oj.looksAt ops→(i<j∧waitsFor oj i=true)∨(j<i∧waitsFor oi j=true)):=by
 unfold seqOK at h;have hj':ops.toList[j]? = some oj:=by rw [Array.getElem?_toList];exact hj
 have h1:=List.all_eq_true.1 h _ (mem_zip hj');simp only [Bool.and_eq_true]at h1;refine ⟨fun cs b q=>?_,fun e he hb=>?_,fun i oi d hi hd=>?_⟩
 ·have:=h1.1.1;unfold noSel at this;rw [q]at this;cases this
 ·have:=Array.all_eq_true_iff_forall_mem.1 h1.1.2 e he
  simpa [hb] using this
 ·have hi':ops.toList[i]? = some oi:=by rw [Array.getElem?_toList];exact hi
  have h2:=List.all_eq_true.1 h1.2 _ (mem_zip hi');unfold seqOne at h2;simp only [hd,Bool.and_eq_true,Bool.or_eq_true,decide_eq_true_eq]at h2;refine ⟨h2.1.imp id (fun q=>by simpa using q),fun hm=>?_⟩
  rcases h2.2 with (q|q)|q
  ·have:(oj.looksAt ops).contains d=true:=by simpa using hm
   rw [this]at q;cases q
  ·exact .inl q
  ·exact .inr q
theorem SeqS.acts{R:Act→Prop}:∀(m k:Nat) (a:Act),SeqS P ops S R (List.range' k m) a→∃(A:Nat→Act) (V:Nat→Value),A 0=a∧(∀i,i<m→∃o,ops[k+i]? = some o∧YldS P ops S o (V i) (A i)∧A (i+1)=(A i).put o.dst (V i))∧R (A m)
 | 0,k,a,h=>⟨fun _=>a,fun _=>undef,rfl,fun i hi=>absurd hi (Nat.not_lt_zero _),h⟩
 | m+1,k,a,h=>by
  rw [List.range'_succ]at h;obtain ⟨o,v,ho,hy,h⟩:=h;obtain ⟨A,V,h0,h1,h2⟩:=SeqS.acts m (k+1) _ h;refine ⟨fun i=>match i with|0=>a|i+1=>A i,fun i=>match i with|0=>v|i+1=>V i,rfl,fun i hi=>?_,h2⟩
  match i,hi with
  | 0,_=>exact ⟨o,ho,hy,h0⟩
  | i+1,hi =>
   obtain ⟨o',q1,q2,q3⟩:=h1 i (by omega)
   exact ⟨o',by rw [show k+(i+1)=k+1+i by omega];exact q1,q2,q3⟩
theorem act_size(a:Act)(d:Option Tmp)(v:Value):(a.put d v).tmps.size=a.tmps.size:=by cases d <;> simp [Act.put]
theorem put_dfs(a:Act)(d:Option Tmp)(v:Value):(a.put d v).defers=a.defers:=by cases d <;> rfl
theorem put_ne(a:Act)(d:Option Tmp)(v:Value)(t:Nat)(h:d≠some t):(a.put d v).tmps[t]? = a.tmps[t]?:=by
 cases d with
 | none=>rfl
 | some d=>simp only [Act.put];rw [Array.getElem?_setIfInBounds_ne (fun q=>h (by rw [q]))]
theorem put_at(a b:Act)(t:Nat)(v:Value)(h:a.tmps.size=b.tmps.size):(a.put (some t) v).tmps[t]? = (b.put (some t) v).tmps[t]?:=by
 simp only [Act.put,Array.getElem?_setIfInBounds_self,h]
theorem act_same(a b:Act)(d:Option Tmp)(u v:Value)(hs:a.tmps.size=b.tmps.size)(h:a.put d u=a.put d v):b.put d u=b.put d v:=by
 cases d with
 | none=>rfl
 | some t =>
  by_cases ht:t<a.tmps.size
  ·have h1:(a.put (some t) u).tmps[t]? = (a.put (some t) v).tmps[t]?:=by rw [h]
   simp only [Act.put,Array.getElem?_setIfInBounds_self,ht,if_true,Option.some.injEq]at h1;rw [h1]
  ·simp only [Act.put]
   have hb:b.tmps.size≤t:=by rw [← hs];exact Nat.le_of_not_lt ht
   rw [Array.setIfInBounds_eq_of_size_le hb,Array.setIfInBounds_eq_of_size_le hb]
theorem count_less{p q:Nat→Bool}:∀(l:List Nat),(∀x∈l,q x=true→p x=true)→(∃x∈l,p x=true∧q x=false)→(l.filter q).length<(l.filter p).length
 | [],_,h=>by obtain ⟨x,hx,_⟩:=h;cases hx
 | y::l,h,⟨x,hx,h1,h2⟩=>by
  have hle:∀l:List Nat,(∀x∈l,q x=true→p x=true)→(l.filter q).length≤(l.filter p).length:=by
   intro l;induction l with
   | nil=>intro _;simp
   | cons z l ih =>
    intro hz;have i1:=ih (fun x hx=>hz x (.tail _ hx))
    rw [List.filter_cons,List.filter_cons];cases hq:q z with
    | true=>rw [hz z (.head _) hq];simpa using i1
    | false=>cases p z <;> simp <;> omega
  rw [List.filter_cons,List.filter_cons];rcases List.mem_cons.1 hx with rfl|hx
  ·rw [h1,h2]
   have:=hle l (fun x hx=>h x (.tail _ hx))
   simp;omega
  ·have i1:=count_less l (fun x hx=>h x (.tail _ hx)) ⟨x,hx,h1,h2⟩
   cases hq:q y with
   | true=>rw [h y (.head _) hq];simpa using i1
   | false=>cases p y <;> simp <;> omega
structure SInvR(ops:Array Oper)(a z:Act)(L:Array Bool)(b:Act):Prop where
 size:L.size=ops.size
 shut:∀i o,ops[i]? = some o→L.getD i false=true→∀e∈o.after,Region.binds .any e=true→L.getD e.on false=true
 done:∀i o t,ops[i]? = some o→o.dst=some t→L.getD i false=true→b.tmps[t]? = z.tmps[t]?
 rest:∀t,(∀i o,ops[i]? = some o→o.dst=some t→L.getD i false=false)→b.tmps[t]? = a.tmps[t]?
 dfs:b.defers=a.defers
 sz:b.tmps.size=a.tmps.size
theorem getD_bool{L:Array Bool}{i:Nat}(h:i<L.size)(b c:Bool):L.getD i b=L.getD i c:=by simp [Array.getD,h]
theorem set_at{L:Array Bool}{i:Nat}(h:i<L.size)(c:Bool):(L.setIfInBounds i true).getD i c=true:=by simp [Array.getD,h]
theorem wanted_same{o:Oper}{b c:Act}(h:∀t∈o.looksAt ops,b.tmps[t]? = c.tmps[t]?):Region.wanted o (yielded ops b.tmps)=Region.wanted o (yielded ops c.tmps):=by
 unfold Region.wanted;cases hg:o.guard with
 | none=>rfl
 | some gw =>
  obtain ⟨g,want⟩:=gw;have hy:yielded ops b.tmps g=yielded ops c.tmps g:=by
   unfold yielded;cases ht:(ops[g]?).bind (·.dst) with
   | none=>rfl
   | some t =>
    have:=h t (by simp [Oper.looksAt,hg,ht])
    simp only [Option.bind_some,this]
  simp only [hy]
theorem exec_same{o:Oper}{b c:Act}(hs:∀cs b,o.op≠.select cs b)(h:∀t∈o.looksAt ops,b.tmps[t]? = c.tmps[t]?):execOp b.eval o=execOp c.eval o :=
 execOp_congr o hs fun x hx=>by
  cases x with
  | tmp t =>
   have:=h t (List.mem_append_left _ (List.mem_filterMap.2 ⟨.tmp t,by simpa using hx,rfl⟩))
   show b.tmps.getD t undef=c.tmps.getD t undef
   rw [Array.getD_eq_getD_getElem?,Array.getD_eq_getD_getElem?,this]
  | _=>rfl
theorem upon_turn{o:Oper}{b c:Act}{v:Value}{K:Act→World→Prop}{r:Result Next}(hsz:b.tmps.size=c.tmps.size)(hK:∀w',S w'→K (b.put o.dst v) w')
  (h:o.upon P c (fun d w'=>d=c.put o.dst v∧S w') (fun _ _ _=>False) r):o.upon P b K Q r:=by
 have hp:∀u,c.put o.dst u=c.put o.dst v→∀w',S w'→K (b.put o.dst u) w':=fun u q w' hS=>by rw [act_same c b o.dst u v hsz.symm q];exact hK w' hS
 cases r with
 | ok n w' =>
  cases n <;> simp only [Oper.upon]at h ⊢
  case value u=>exact hp u h.1 w' h.2
  case skip=>exact hp undef h.1 w' h.2
  case defer d =>
   have:=congrArg (fun x:Act=>x.defers.length) h.1
   simp only [put_dfs,List.length_cons]at this;omega
  case enter f args =>
   exact Calls.mono h (fun e w'' he=>by
    cases e
    case returned u=>exact hp u he.1 w'' he.2
    case panicked=>exact he.elim
    case outgrown=>obtain ⟨_,_,q⟩:=he;exact q.elim)
  case row row args=>exact Rows.mono h (fun u w'' he=>hp u he.1 w'' he.2)
  all_goals exact h.elim
 | halt x w'=>cases x <;> simp only [Oper.upon]at h
theorem any_of_seq(hOK:seqOK ops=true){a:Act}{A:Nat→Act}{V:Nat→Value}(h0:A 0=a)(h1:∀i,i<ops.size→∃o,ops[i]? = some o∧YldS P ops S o (V i) (A i)∧A (i+1)=(A i).put o.dst (V i))(h2:∀w,S w→Q .normal (A ops.size) w):
  ∀(n:Nat) (L:Array Bool) (b:Act) (w:World),SInvR ops a (A ops.size) L b→S w→((List.range ops.size).filter fun i=>!L.getD i true).length≤n→wpAny P .any ops Q n L b w:=by
 have hput:∀i o,ops[i]? = some o→A (i+1)=(A i).put o.dst (V i):=fun i o ho=>by
  obtain ⟨o',q1,_,q3⟩:=h1 i (Array.getElem?_eq_some_iff.1 ho).1;rw [ho]at q1;cases q1;exact q3
 have hdfs:∀i,i≤ops.size→(A i).defers=a.defers∧(A i).tmps.size=a.tmps.size:=by
  intro i;induction i with
  | zero=>intro _;rw [h0];exact ⟨rfl,rfl⟩
  | succ i ih =>
   intro hi;obtain ⟨o,q1,_,q3⟩:=h1 i hi;rw [q3,put_dfs,act_size];exact ih (by omega)
 have F1:∀i,i≤ops.size→∀t,(∀k o,k<i→ops[k]? = some o→o.dst≠some t)→(A i).tmps[t]? = a.tmps[t]?:=by
  intro i;induction i with
  | zero=>intro _ t _;rw [h0]
  | succ i ih =>
   intro hi t ht;obtain ⟨o,q1,_,q3⟩:=h1 i hi;rw [q3,put_ne _ _ _ _ (ht i o (Nat.lt_succ_self _) q1)];exact ih (by omega) t (fun k o hk=>ht k o (by omega))
 have F2:∀k o t,ops[k]? = some o→o.dst=some t→∀i,k+1≤i→i≤ops.size→(A i).tmps[t]? = (A (k+1)).tmps[t]?:=by
  intro k o t hk hd i;induction i with
  | zero=>intro hi _;omega
  | succ i ih =>
   intro hki hi;by_cases hq:i=k
   ·subst hq;rfl
   obtain ⟨o',q1,_,q3⟩:=h1 i hi;rw [q3,put_ne]
   ·exact ih (by omega) (by omega)
   ·intro q
    rcases ((seqOK_spec hOK q1).2.2 k o t hk hd).1 with e|e
    ·omega
    ·exact e q
 have fin:∀(L:Array Bool) (b:Act) (w:World),SInvR ops a (A ops.size) L b→S w→(∀i,i<ops.size→L.getD i false=true)→Q .normal b w:=by
  intro L b w hI hS hall;have:b=A ops.size:=by
   have hd:=hI.dfs.trans (hdfs _ (nR _)).1.symm;have ht:b.tmps=(A ops.size).tmps:=by
    apply Array.ext_getElem?
    intro t;by_cases hx:∃(i:Nat) (o:Oper),ops[i]? = some o∧o.dst=some t
    ·obtain ⟨i,o,q1,q2⟩:=hx
     exact hI.done i o t q1 q2 (hall i (Array.getElem?_eq_some_iff.1 q1).1)
    ·have hn:∀(i:Nat) (o:Oper),ops[i]? = some o→o.dst≠some t:=fun i o q1 q2=>hx ⟨i,o,q1,q2⟩
     rw [hI.rest t (fun i o q1 q2=>absurd q2 (hn i o q1)),F1 _ (nR _) t (fun k o _ q=>hn k o q)]
   cases b;cases hA:A ops.size;rw [hA]at hd ht;simp only at hd ht;rw [hd,ht]
  rw [this];exact h2 w hS
 have least:∀(L:Array Bool),L.size=ops.size→Region.ready .any ops L=[]→∀i,i<ops.size→L.getD i false=true:=by
  intro L hL hr i;induction i using Nat.strongRecOn with
  | _ i ih =>
   intro hi;cases hq:L.getD i false with
   | true=>rfl
   | false =>
    exfalso
    have hm:i∈Region.ready .any ops L:=mem_ready.2 ⟨by rw [getD_bool (by omega) true false];exact hq,ops[i],Array.getElem?_eq_getElem hi,fun e he hb=>by
     have hlt:=(seqOK_spec hOK (Array.getElem?_eq_getElem hi)).2.1 e he hb;exact ih e.on hlt (by omega)⟩
    rw [hr]at hm;cases hm
 intro n;induction n with
 | zero =>
  intro L b w hI hS hc;have hall:∀i,i<ops.size→L.getD i false=true:=fun i hi=>by
   have hnil:((List.range ops.size).filter fun i=>!L.getD i true)=[]:=List.length_eq_zero_iff.1 (by omega)
   have:=List.filter_eq_nil_iff.1 hnil i (List.mem_range.2 hi);rw [getD_bool (by rw [hI.size];exact hi) false true]
   simpa using this
  refine ⟨?_,fin L b w hI hS hall⟩;unfold Region.ready;rw [List.filter_eq_nil_iff];intro i hi;have:=hall i (List.mem_range.1 hi);rw [getD_bool (by rw [hI.size];exact List.mem_range.1 hi) false true]at this
  simp [this]
 | succ n ih =>
  intro L b w hI hS hc;refine ⟨fun hr=>fin L b w hI hS (least L hI.size hr),fun j hj=>?_⟩
  obtain ⟨hun,oj,hoj,hdep⟩:=mem_ready.1 hj;have hjl:j<ops.size:=(Array.getElem?_eq_some_iff.1 hoj).1;have hunf:L.getD j false=false:=by rw [getD_bool (by rw [hI.size];exact hjl) false true];exact hun
  obtain ⟨hsel,_,hpair⟩:=seqOK_spec hOK hoj;obtain ⟨o',q1,hY,hA⟩:=h1 j hjl;rw [hoj]at q1;cases q1;have hlook:∀t∈oj.looksAt ops,b.tmps[t]? = (A j).tmps[t]?:=by
   intro t ht;by_cases hx:∃(i:Nat) (o:Oper),ops[i]? = some o∧o.dst=some t
   ·obtain ⟨i,oi,hi,hd⟩:=hx
    have hil:=(Array.getElem?_eq_some_iff.1 hi).1;rcases (hpair i oi t hi hd).2 ht with ⟨hlt,hw⟩|⟨hlt,hw⟩
    ·obtain ⟨e,he,hb,hon⟩:=waitsFor_iff.1 hw
     have hLi:=hdep e he hb;rw [hon]at hLi;rw [hI.done i oi t hi hd hLi,F2 i oi t hi hd _ (by omega) (nR _),F2 i oi t hi hd j (by omega) (by omega)]
    ·have only:∀k o,ops[k]? = some o→o.dst=some t→k=i:=fun k o hk hkd=>by
      rcases ((seqOK_spec hOK hk).2.2 i oi t hi hd).1 with e|e
      ·exact e.symm
      ·exact absurd hkd e
     rw [hI.rest t (fun k o hk hkd=>by
      obtain rfl:=only k o hk hkd;rw [hi]at hk;cases hk;cases hq:L.getD k false with
      | false=>rfl
      | true =>
       obtain ⟨e,he,hb,hon⟩:=waitsFor_iff.1 hw;have:=hI.shut k _ hi hq e he hb;rw [hon,hunf]at this;cases this),F1 j (by omega) t (fun k o hk hko hkd=>by
      have:=only k o hko hkd;omega)]
   ·have hn:∀(i:Nat) (o:Oper),ops[i]? = some o→o.dst≠some t:=fun i o q1 q2=>hx ⟨i,o,q1,q2⟩
    rw [hI.rest t (fun i o q1 q2=>absurd q2 (hn i o q1)),F1 j (by omega) t (fun k o _ q=>hn k o q)]
  have hszj:=(hdfs j (by omega)).2
  have next:∀w',S w'→wpAny P .any ops Q n (L.setIfInBounds j true) (b.put oj.dst (V j)) w':=by
   intro w' hS';refine ih _ _ w' ⟨by simp [hI.size],?_,?_,?_,by rw [put_dfs];exact hI.dfs,by rw [act_size];exact hI.sz⟩ hS' ?_
   ·intro i o hi hLi e he hb
    by_cases hij:j=i
    ·subst hij
     rw [hoj]at hi;cases hi;exact getD_set_true (hdep e he hb)
    ·rw [getD_set_ne false hij]at hLi
     exact getD_set_true (hI.shut i o hi hLi e he hb)
   ·intro i o t hi hd hLi
    by_cases hij:j=i
    ·subst hij
     rw [hoj]at hi;cases hi;rw [hd,F2 j oj t hoj hd _ (by omega) (nR _),hput j oj hoj,hd]
     exact put_at _ _ _ _ (by rw [hI.sz,hszj])
    ·rw [getD_set_ne false hij]at hLi
     rw [put_ne _ _ _ _ (fun q=>by
      rcases (hpair i o t hi hd).1 with e|e
      ·exact hij e.symm
      ·exact e q)]
     exact hI.done i o t hi hd hLi
   ·intro t ht
    rw [put_ne _ _ _ _ (fun q=>by
     have:=ht j oj hoj q;rw [set_at (by rw [hI.size];exact hjl)]at this;cases this)]
    exact hI.rest t (fun i o hi hd=>by
     have:=ht i o hi hd;by_cases hij:j=i
     ·subst hij;exact hunf
     ·rw [getD_set_ne false hij]at this;exact this)
   ·have:=count_less (p:=fun i=>!L.getD i true) (q:=fun i=>!(L.setIfInBounds j true).getD i true) (List.range ops.size) (fun x _ hx=>by
     by_cases hij:j=x
     ·subst hij;rw [hun];rfl
     ·rw [getD_set_ne true hij]at hx;exact hx) ⟨j,List.mem_range.2 hjl,by rw [hun];rfl,by rw [set_at (by rw [hI.size];exact hjl)];rfl⟩
    omega
  unfold wpOp;simp only [hoj];rw [wanted_same (c:=A j) hlook];rcases hY with ⟨hw,hy⟩|⟨hw,hv⟩
  ·rw [if_pos hw]
   refine .inl ?_;have:=hy w hS;unfold Oper.wp at this ⊢;rw [exec_same hsel hlook];exact upon_turn (by rw [hI.sz,hszj]) next this
  ·rw [if_neg (by rw [hw];simp),← hv]
   exact next w hS
theorem region_seq{id:Nat}{a:Act}{w:World}(S:World→Prop)(l:List Nat)(hl:List.range ops.size=l)(hm:P.follows .mixedOrders=true)(hOK:seqOK ops=true)(hS:S w.drew)(h:SeqS P ops S (fun a=>∀w,S w→Q .normal a w) l a):(Code.region id ops true).wp P Q a w:=by
 rw [← hl,List.range_eq_range']at h;obtain ⟨A,V,h0,h1,h2⟩:=SeqS.acts ops.size 0 a h;refine wp_region_any hm (any_of_seq hOK h0 (fun i hi=>by simpa using h1 i hi) h2 ops.size _ a _ ⟨by simp,?_,?_,?_,rfl,rfl⟩ hS ?_)
 ·intro i o hi hL;simp [Array.getD]at hL
 ·intro i o t hi hd hL;simp [Array.getD]at hL
 ·intro t _;rfl
 ·exact Nat.le_trans (List.length_filter_le _ _) (by simp)
theorem SeqS.done{R:Act→Prop}{a:Act}(h:R a):SeqS P ops S R [] a:=h
theorem SeqS.one{R:Act→Prop}{i:Nat}{l:List Nat}{o:Oper}{a:Act}(v:Value)(ho:ops[i]? = some o)(hw:Region.wanted o (yielded ops a.tmps)=true)(hy:∀w,S w→o.wp P a w (fun c w'=>c=a.put o.dst v∧S w') (fun _ _ _=>False))(h:SeqS P ops S R l (a.put o.dst v)):SeqS P ops S R (i::l) a:=⟨o,v,ho,.inl ⟨hw,hy⟩,h⟩
theorem SeqS.no{R:Act→Prop}{i:Nat}{l:List Nat}{o:Oper}{a:Act}(ho:ops[i]? = some o)(hw:Region.wanted o (yielded ops a.tmps)=false)(h:SeqS P ops S R l (a.put o.dst undef)):SeqS P ops S R (i::l) a:=⟨o,undef,ho,.inr ⟨hw,rfl⟩,h⟩
theorem sW{R:Act→Prop}{i:Nat}{l:List Nat}{o:Oper}{a a':Act}(v:Value)(hy:∀w,S w→o.wp P a w (fun c w'=>c=a.put o.dst v∧S w') (fun _ _ _=>False))(h:SeqS P ops S R l a')(ho:ops[i]? = some o:=by rw [List.getElem?_toArray];rfl)(hw:Region.wanted o (yielded ops a.tmps)=true:=by rfl)(hn:a.put o.dst v=a':=by simp only [Act.put,sA,sB,sC,pK];rfl):SeqS P ops S R (i::l) a:=SeqS.one v ho hw hy (hn ▸ h)
theorem sO{R:Act→Prop}{i:Nat}{l:List Nat}{o:Oper}{a a':Act}(v:Value)(h:SeqS P ops S R l a')(ho:ops[i]? = some o:=by rw [List.getElem?_toArray];rfl)(hw:Region.wanted o (yielded ops a.tmps)=true:=by rfl)(hn:a.put o.dst v=a':=by simp only [Act.put,sA,sB,sC];rfl)(hy:∀w,S w→o.wp P a w (fun c w'=>c=a.put o.dst v∧S w') (fun _ _ _=>False):=by intro W hW;go_simp):SeqS P ops S R (i::l) a:=SeqS.one v ho hw hy (hn ▸ h)
theorem sN{R:Act→Prop}{i:Nat}{l:List Nat}{o:Oper}{a a':Act}(h:SeqS P ops S R l a')(ho:ops[i]? = some o:=by rw [List.getElem?_toArray];rfl)(hw:Region.wanted o (yielded ops a.tmps)=false:=by rfl)(hn:a.put o.dst undef=a':=by simp only [Act.put,sA,sB,sC,pK];rfl):SeqS P ops S R (i::l) a:=SeqS.no ho hw (hn ▸ h)
end
end Go.Proofs.YtmamabhhgfcjcaaGreatDoor
