/-
  duetkeep.CheckMore returns true and leaves its arguments as they were, for every program and every text, where utf8.first and utf8.acceptRanges hold what the program's text lays (the card ties them to it). Conditions: none beside the card's own.
-/
import Derived.Test.YtmamabhhgfcjcaaGreatDoorOql
import Derived.Test.YtmamabhhgfcjcaaGreatDoorTie
import Derived.Test.YtmamabhhgfcjcaaGreatDoorCards
import Derived.Carry
import Derived.SizedLaws
set_option maxRecDepth 100000
set_option maxHeartbeats 1000000
namespace Go.Proofs.YtmamabhhgfcjcaaGreatDoor
open Go.RowKit Go.Shelf Go.Lib Go.Joins
open Go.ChangeShapes Go.WideShapes Go.ChangeAt
open Go.ChangeMaps (open_string shut_string)
theorem bytesDf:Tryz.prog.bytesOf 42=424:=by kernel_rfl
theorem laidOut:laidOutB Tryz.prog=true:=by kernel_rfl
section
variable {H:Type} {enc:TypeId × Value→H} {W:World} {base:Nat} {spare:Nat→Bool} {held:Bool}
theorem progShape{ad:OAd}{m cd:Nat}{d:DataW H}{p:List MemPlace}(h:DataW.Trod enc Tryz.prog W base spare held 24 (.agg #[.slice ad m cd]) d p):m=0∨∃elems rest,d = .agg [.slice elems rest]∧elems.length=m:=by
 obtain ⟨fuel,hf⟩:=h;obtain ⟨xs,n,rfl,hy,hlen,hxs,hf⟩:=DataW.trod_struct Tryz.underlying24 hf;have h0:DataW.trod enc Tryz.prog W base spare held n 22 (List.take 1 (List.drop 0 (Value.agg #[.slice ad m cd]).cells.toList))=xs[0]?:=hf 0 _ rfl;clear hf;match xs,hxs with
 | [x0],_ =>
 simp [Value.cells]at h0;rcases DataW.trod_slice Tryz.underlying22 h0 with ⟨e5,_⟩|⟨a,len,cap,elems,rest,k,hk,e5,hx,hb,hlc,hcm,hle,hel,_,_⟩
 ·simp at e5
  exact .inl e5.2.1
 ·simp at e5
  obtain ⟨_,rfl,_⟩:=e5;refine .inr ⟨elems.map (·.1),rest.map (·.1),?_,by simpa using hle⟩
  have:=(Prod.mk.inj hy).1;rw [this,hx];rfl
end
theorem grs_ex:∃gr og:Ty→List Nd,(∀t g,chkTy t=0→OFG t g→g=gr t)∧(∀t g,chkTy t=0→OTG t g→g=og t):=by
 have h1:∀t,∃g0:List Nd,∀g,chkTy t=0→OFG t g→g=g0:=fun t=>by
  by_cases h:∃g,OFG t g
  ·obtain ⟨g0,h0⟩:=h
   exact ⟨g0,fun g _ hg=>hg.uniq h0⟩
  ·exact ⟨[],fun g _ hg=>absurd ⟨g,hg⟩ h⟩
 have h2:∀t,∃g0:List Nd,∀g,chkTy t=0→OTG t g→g=g0:=fun t=>by
  by_cases h:∃g,OTG t g
  ·obtain ⟨g0,a,c,ha,hc,rfl⟩:=h
   refine ⟨leastG (othG a) c,fun g _ hg=>?_⟩
   obtain ⟨a',c',ha',hc',rfl⟩:=hg;obtain rfl:=ha'.uniq ha;have hgn:=oth_gn ha'.gn (by have:=ha'.le;omega)
   exact (least_same ⟨hgn.shut,hgn.shut,hc',hc⟩ hgn.pos hgn.pos).2 (alike_refl _ _)
  ·exact ⟨[],fun g _ hg=>absurd ⟨g,hg⟩ h⟩
 exact ⟨fun t=>(h1 t).choose,fun t=>(h2 t).choose,fun t=>(h1 t).choose_spec,fun t=>(h2 t).choose_spec⟩
theorem checkMore_lifted(os:Os)(started:os.Started)(H:Type)(enc:TypeId × Value→H):
  ReturnsInHanded {} Tryz.checked os 4 .any (fun w args=>(Rows.checkMoreSpec.pre enc Tryz.prog Tryz.f4 [] false w args∧laidMetH Tryz.prog Rows.checkMoreRow.laid w)∧sizedMet enc Tryz.prog Tryz.f4 (OpenSpec.ofChange Rows.checkMoreSpec) false w args)
   (Rows.checkMoreSpec.post enc Tryz.prog Tryz.f4 false true false false):=by
 refine returnsInHanded_of_change_and (C:=Tryz.checked) (X:=fun w _=>laidMetH Tryz.prog Rows.checkMoreRow.laid w) (fun _ _ _ hh h=>h.of_heap hh) own started (by kernel_rfl) Tryz.func4
  (ChangeSpec.witness_shaped (enc:=enc) (C:=Tryz.checked) (os:=os) (X:=fun w _=>laidMetH Tryz.prog Rows.checkMoreRow.laid w) false (World.laidAll Tryz.prog os Rows.checkMoreRow.laid)
   #[.agg #[.slice none 0 0],.string ⟨#[]⟩] 8 (World.laidAll_os _ _ _)
   (World.shaped_of_ZipB (by kernel_rfl) (by kernel_rfl)) (by kernel_rfl) (by kernel_rfl) (by kernel_rfl)
   (by rw [MakeChecks.laidMetH_plain _ _ _ (by kernel_rfl)];exact laidMet_laidAll _ (by kernel_rfl) (by kernel_rfl))) ?_
 intro W base args ds gs before hval0 hW _ hsz hL _;have hval:∀(j:Nat) t v,Tryz.f4.params[j]? = some t→args[j]? = some v→Value.okWide Tryz.prog W .any base t v:=hval0;have hW':=hW;obtain ⟨p,q,hA0,hV,rfl,_,_⟩:=hW;have hA:DataW.TrodAll enc Tryz.prog W 0 (fun _=>true) true Tryz.f4.params.toList args.toList ds p:=hA0
 rw [Tryz.params4]at hA hval;obtain ⟨v0,v1,d0,d1,p0,p1,rfl,rfl,rfl,h0,h1⟩:=trodAll_two hA;obtain ⟨rfl,rfl⟩:=trodVars_none hV;obtain ⟨pd,ad,cd,rfl,hl,hcd,hd⟩:=openProgram (hval 0 24 v0 rfl rfl) h0;obtain ⟨nm,rfl,rfl,rfl,wz⟩:=open_string Tryz.underlying9 (hval 1 9 v1 rfl rfl) h1;have hsh:=progShape h0;have wn:nm.size≤9223372036854775807:=wz;clear hA0 hV hval0;rw [MakeChecks.laidMetH_plain _ _ _ (by kernel_rfl)]at hL
 have hT:Tabs W:=utf8Tabs_of_readsT (U8Types.of196 Tryz.lays196) ⟨by kernel_rfl,by kernel_rfl,by kernel_rfl,by kernel_rfl,by kernel_rfl,by kernel_rfl,by kernel_rfl⟩
  (Pinned.utf8First_eq ▸ Lib.laidMet.reads hL (.tail _ (.head _))) (acc_eq ▸ Lib.laidMet.reads hL (.head _))
 have hlen:pd.length*424≤140737488351232:=by
  rcases hsh with h|⟨elems,rest,rfl,he⟩
  ·rw [h];omega
  ·have hu:=Tryz.underlying24
   have hu2:=Tryz.underlying22;have:=List.all_eq_true.1 hsz _ (DataW.weights_mem_each (P:=Tryz.prog) (j:=0) (t:=24) rfl rfl ((elems.length+rest.length)*Tryz.prog.bytesOf 42) (by simp [DataW.weights,DataW.weightsEach,hu,hu2]))
   have hk:(elems.length+rest.length)*Tryz.prog.bytesOf 42≤reachBytes:=by simpa using this
   rw [bytesDf]at hk;unfold reachBytes at hk;omega
 obtain ⟨gr,og,hgr,hog⟩:=grs_ex;refine (more_reg hT gr og hgr hog pd ad cd nm W hl hcd hd (bR _ _) wn hlen).mono fun e W' ⟨he,hb⟩=>?_
 subst he;have l0:∀z∈p0,z.block<W.heap.size:=fun z hz=>by simpa using hW'.lt z (by simp [hz])
 exact ⟨_,rfl,_,_,_,[],p0++[],[],hW',trodAll_mk1 (shut_bool Tryz.underlying4 _),trodAll_mk2 (Below.trod laidOut (by kernel_rfl) (of_decide_eq_true (by kernel_rfl)) h0 hb l0) (shut_string Tryz.underlying9 wz),rfl,hb.frame _,fun h=>by cases h⟩
theorem checkMore_row:Rows.CheckMoreSaid :=
 OpenClaim.holds_of_wide 4 Tryz.f4 rfl rfl rfl rfl rfl rfl rfl ⟨rfl,rfl,rfl,rfl,rfl⟩ rfl rfl rfl rfl rfl (by kernel_rfl) Tryz.func4 (by kernel_rfl)
  (of_decide_eq_true (by kernel_rfl)) (by unfold Func.isWrapper;rw [if_neg (of_decide_eq_false (by kernel_rfl))];exact ⟨rfl,rfl⟩)
  (fun os started H enc _=>checkMore_lifted os started H enc)
theorem checkMore_holds:Rows.CheckMoreCardSaid :=
 Claim7.holds_tied_plain_at .later [] [.data, .pinned] true (true, "c40552417956e75305306d57127dc9ab99b2c2da46d8c60a7f27e337868e4876") true checkMore_row (fun _ h => by cases h) (by kernel_rfl) (fun _ h => by cases h) checkMore_row_tie rfl ⟨rfl, rfl⟩ (by kernel_rfl) rfl
  (fun f fn hf hfn=>by
   obtain rfl:f=4:=Option.some.inj ((show Tryz.prog.funcNamed Rows.checkMoreRow.func=some 4 by kernel_rfl).symm.trans hf) |>.symm
   obtain rfl:fn=Tryz.f4:=(Option.some.inj (Tryz.func4.symm.trans hfn)).symm;exact ⟨by kernel_rfl,fun j t ht=>by
    rw [Tryz.params4]at ht;have hm:t∈[24,9]:=by simpa using Array.mem_of_getElem? ht
    have hall:([24,9].all fun u=>!Tryz.prog.wantsStandIn u)=true:=by kernel_rfl
    exact (show Tryz.prog.wantsStandIn t=false by simpa using List.all_eq_true.1 hall t hm)⟩)
  (by kernel_rfl)
#print axioms checkMore_holds
end Go.Proofs.YtmamabhhgfcjcaaGreatDoor
