/-
  duetkeep.CheckSame returns true and leaves its argument as it was, for every program, where utf8.first and utf8.acceptRanges hold what the program's text lays (the card ties them to it). Conditions: none beside the card's own.
-/
import Derived.Test.YtmamabhhgfcjcaaGreatDoorOrf
import Derived.Test.YtmamabhhgfcjcaaGreatDoorTie
import Derived.Test.YtmamabhhgfcjcaaGreatDoorCards
import Derived.Carry
import Derived.SizedLaws
set_option maxRecDepth 100000
set_option maxHeartbeats 1000000
namespace Go.Proofs.YtmamabhhgfcjcaaGreatDoor
open Go.RowKit Go.Shelf Go.Lib Go.Joins
open Go.ChangeShapes Go.WideShapes Go.ChangeAt
theorem laidOut:laidOutB Tryz.prog=true:=by kernel_rfl
theorem grs_ex:∃gr og:Ty→List Nd,(∀t g,chkTy t=0→OFG t g→g=gr t)∧(∀t g,chkTy t=0→OTG t g→g=og t):=by
 have h1:∀t,∃g0:List Nd,∀g,chkTy t=0→OFG t g→g=g0:=fun t=>by
  by_cases h:∃g,OFG t g
  ·obtain ⟨g0,h0⟩:=h
   exact ⟨g0,fun g _ hg=>hg.uniq h0⟩
  ·exact ⟨[],fun g _ hg=>absurd ⟨g,hg⟩ h⟩
 have h2:∀t,∃g0:List Nd,∀g,chkTy t=0→OTG t g→g=g0:=fun t=>by
  by_cases h:∃g,OTG t g
  ·obtain ⟨g0,a,c,ha,hc,rfl⟩:=h
   refine ⟨leastG (othG a) c,fun g _ hg=>?_⟩
   obtain ⟨a',c',ha',hc',rfl⟩:=hg;obtain rfl:=ha'.uniq ha;have hgn:=oth_gn ha'.gn (by have:=ha'.le;omega)
   exact (least_same ⟨hgn.shut,hgn.shut,hc',hc⟩ hgn.pos hgn.pos).2 (alike_refl _ _)
  ·exact ⟨[],fun g _ hg=>absurd ⟨g,hg⟩ h⟩
 exact ⟨fun t=>(h1 t).choose,fun t=>(h2 t).choose,fun t=>(h1 t).choose_spec,fun t=>(h2 t).choose_spec⟩
theorem checkSame_lifted(os:Os)(started:os.Started)(H:Type)(enc:TypeId × Value→H):
  ReturnsInHanded {} Tryz.checked os 3 .any (fun w args=>(Rows.checkSameSpec.pre enc Tryz.prog Tryz.f3 [] false w args∧laidMetH Tryz.prog Rows.checkSameRow.laid w)∧sizedMet enc Tryz.prog Tryz.f3 (OpenSpec.ofChange Rows.checkSameSpec) false w args)
   (Rows.checkSameSpec.post enc Tryz.prog Tryz.f3 false true false false):=by
 refine returnsInHanded_of_change_and (C:=Tryz.checked) (X:=fun w _=>laidMetH Tryz.prog Rows.checkSameRow.laid w) (fun _ _ _ hh h=>h.of_heap hh) own started (by kernel_rfl) Tryz.func3
  (ChangeSpec.witness_shaped (enc:=enc) (C:=Tryz.checked) (os:=os) (X:=fun w _=>laidMetH Tryz.prog Rows.checkSameRow.laid w) false (World.laidAll Tryz.prog os Rows.checkSameRow.laid)
   #[.agg #[.slice none 0 0]] 8 (World.laidAll_os _ _ _)
   (World.shaped_of_ZipB (by kernel_rfl) (by kernel_rfl)) (by kernel_rfl) (by kernel_rfl) (by kernel_rfl)
   (by rw [MakeChecks.laidMetH_plain _ _ _ (by kernel_rfl)];exact laidMet_laidAll _ (by kernel_rfl) (by kernel_rfl))) ?_
 intro W base args ds gs before hval0 hW _ _ hL _;have hval:∀(j:Nat) t v,Tryz.f3.params[j]? = some t→args[j]? = some v→Value.okWide Tryz.prog W .any base t v:=hval0;have hW':=hW;obtain ⟨p,q,hA0,hV,rfl,_,_⟩:=hW;have hA:DataW.TrodAll enc Tryz.prog W 0 (fun _=>true) true Tryz.f3.params.toList args.toList ds p:=hA0
 rw [Tryz.params3]at hA hval;obtain ⟨v0,d0,rfl,rfl,h0⟩:=trodAll_one hA;obtain ⟨rfl,rfl⟩:=trodVars_none hV;obtain ⟨pd,ad,cd,rfl,hl,hcd,hd⟩:=openProgram (hval 0 24 v0 rfl rfl) h0;clear hA0 hV hval0;rw [MakeChecks.laidMetH_plain _ _ _ (by kernel_rfl)]at hL
 have hT:Tabs W:=utf8Tabs_of_readsT (U8Types.of196 Tryz.lays196) ⟨by kernel_rfl,by kernel_rfl,by kernel_rfl,by kernel_rfl,by kernel_rfl,by kernel_rfl,by kernel_rfl⟩
  (Pinned.utf8First_eq ▸ Lib.laidMet.reads hL (.tail _ (.head _))) (acc_eq ▸ Lib.laidMet.reads hL (.head _))
 obtain ⟨gr,og,hgr,hog⟩:=grs_ex;refine (same_law hT gr og hgr hog pd ad cd W hl hcd hd (bR _ _)).mono fun e W' ⟨he,hb⟩=>?_
 subst he;have l0:∀z∈p,z.block<W.heap.size:=fun z hz=>by simpa using hW'.lt z (by simp [hz])
 exact ⟨_,rfl,_,_,_,[],p,[],hW',trodAll_mk1 (shut_bool Tryz.underlying4 _),trodAll_mk1 (Below.trod laidOut (by kernel_rfl) (of_decide_eq_true (by kernel_rfl)) h0 hb l0),rfl,hb.frame _,fun h=>by cases h⟩
theorem checkSame_row:Rows.CheckSameSaid :=
 OpenClaim.holds_of_wide 3 Tryz.f3 rfl rfl rfl rfl rfl rfl rfl ⟨rfl,rfl,rfl,rfl,rfl⟩ rfl rfl rfl rfl rfl (by kernel_rfl) Tryz.func3 (by kernel_rfl)
  (of_decide_eq_true (by kernel_rfl)) (by unfold Func.isWrapper;rw [if_neg (of_decide_eq_false (by kernel_rfl))];exact ⟨rfl,rfl⟩)
  (fun os started H enc _=>checkSame_lifted os started H enc)
theorem checkSame_holds:Rows.CheckSameCardSaid :=
 Claim7.holds_tied_plain_at .later [] [.data, .pinned] true (true, "c40552417956e75305306d57127dc9ab99b2c2da46d8c60a7f27e337868e4876") true checkSame_row (fun _ h => by cases h) (by kernel_rfl) (fun _ h => by cases h) checkSame_row_tie rfl ⟨rfl, rfl⟩ (by kernel_rfl) rfl
  (fun f fn hf hfn=>by
   obtain rfl:f=3:=Option.some.inj ((show Tryz.prog.funcNamed Rows.checkSameRow.func=some 3 by kernel_rfl).symm.trans hf) |>.symm
   obtain rfl:fn=Tryz.f3:=(Option.some.inj (Tryz.func3.symm.trans hfn)).symm;exact ⟨by kernel_rfl,fun j t ht=>by
    rw [Tryz.params3]at ht;have hm:t∈[24]:=by simpa using Array.mem_of_getElem? ht
    have hall:([24].all fun u=>!Tryz.prog.wantsStandIn u)=true:=by kernel_rfl
    exact (show Tryz.prog.wantsStandIn t=false by simpa using List.all_eq_true.1 hall t hm)⟩)
  (by kernel_rfl)
#print axioms checkSame_holds
end Go.Proofs.YtmamabhhgfcjcaaGreatDoor
