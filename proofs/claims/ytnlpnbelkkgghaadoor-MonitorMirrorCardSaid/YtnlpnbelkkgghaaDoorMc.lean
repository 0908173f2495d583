/-
  The contracts of comply.Stuck and comply.Ends, for every two types.
-/
import Derived.Test.YtnlpnbelkkgghaaDoorVw
import Derived.Test.YtnlpnbelkkgghaaDoorMk
import Derived.Test.YtnlpnbelkkgghaaDoorUg
namespace Go.Proofs.YtnlpnbelkkgghaaDoor
open Go.RowKit Go.Shelf

def SKPost (s t : Ty) (w : World) (e : Ending) (w' : World) : Prop :=
  ((chkTy s ≠ 0 ∧ e = .returned (.tuple #[.slice none 0 0, .int .i64 (chkTy s)])) ∨ (chkTy s = 0 ∧ chkTy t ≠ 0 ∧ e = .returned (.tuple #[.slice none 0 0, .int .i64 (chkTy t)])) ∨
    (∃ g h, OFG s g ∧ OFG t h ∧ ((∃ k arr, srC g h = (some k, arr) ∧ ∃ aw cw, e = .returned (.tuple #[.slice aw (wayGA arr k).length cw, .int .i64 0]) ∧ LA w' w'.heap.size (wayGA arr k).reverse aw) ∨ (∃ arr, srC g h = (none, arr) ∧ e = .returned (.tuple #[.slice none 0 0, .int .i64 8]))))) ∧ Below w.heap.size w w'
def EDPost (s t : Ty) (w : World) (e : Ending) (w' : World) : Prop :=
  ((chkTy s ≠ 0 ∧ e = .returned (.tuple #[.int .i64 0, .int .i64 (chkTy s)])) ∨ (chkTy s = 0 ∧ chkTy t ≠ 0 ∧ e = .returned (.tuple #[.int .i64 0, .int .i64 (chkTy t)])) ∨
    (∃ g h, OFG s g ∧ OFG t h ∧ ((∃ k arr, srC g h = (some k, arr) ∧ e = .returned (.tuple #[.int .i64 0, .int .i64 7])) ∨ (∃ arr, srC g h = (none, arr) ∧ (((enW g arr arr.length).1 = true ∧ e = .returned (.tuple #[.int .i64 ((enW g arr arr.length).2 : Int), .int .i64 0])) ∨ ((enW g arr arr.length).1 = false ∧ e = .returned (.tuple #[.int .i64 0, .int .i64 8]))))))) ∧ Below w.heap.size w w'
set_option maxRecDepth 100000 in
set_option maxHeartbeats 4000000 in
theorem stuck_any (ds dt : Nat) (s t : Ty) (sal : Option Addr) (scl : Nat) (sak : Option Addr) (sck : Nat) (al : Option Addr) (cl : Nat) (ak : Option Addr) (ck : Nat) (w : World) (hs1 : TyBd s scl sck) (hs2 : LA w w.heap.size s.labels sal) (hs3 : KT w w.heap.size ds s.kids sak) (ht1 : TyBd t cl ck) (ht2 : LA w w.heap.size t.labels al) (ht3 : KT w w.heap.size dt t.kids ak) :
    Calls Tryd.prog 20 #[tyVal s sal scl sak sck, tyVal t al cl ak ck] w (SKPost s t w) := by
  unfold SKPost
  have hA : Below w.heap.size w ((w.alloc (.cells #[.int .i64 s.kind, .int .i64 s.so, .string s.name, .slice sal s.labels.length scl, .slice sak s.kids.length sck] 25)).alloc (.cells #[.int .i64 t.kind, .int .i64 t.so, .string t.name, .slice al t.labels.length cl, .slice ak t.kids.length ck] 25)) := ((Below.refl _ _).alloc (Nat.le_refl _) _).alloc (by simp) _
  have cG := outcomeOf_any ds dt s t sal scl sak sck al cl ak ck ((w.alloc (.cells #[.int .i64 s.kind, .int .i64 s.so, .string s.name, .slice sal s.labels.length scl, .slice sak s.kids.length sck] 25)).alloc (.cells #[.int .i64 t.kind, .int .i64 t.so, .string t.name, .slice al t.labels.length cl, .slice ak t.kids.length ck] 25)) hs1 ((hs2.keep hA).mono hA.size) ((hs3.keep hA).mono hA.size) ht1 ((ht2.keep hA).mono hA.size) ((ht3.keep hA).mono hA.size)
  have HA := hideK hA
  simp only [tyVal] at cG ⊢
  unfold OOPost at cG
  clear hs1 hs2 hs3 ht1 ht2 ht3 hA
  go_enter Tryd.func20, Tryd.ntmps20
  go_wp2_with fail
  refine cG.mono ?_
  generalize ((w.alloc (.cells #[.int .i64 s.kind, .int .i64 s.so, .string s.name, .slice sal s.labels.length scl, .slice sak s.kids.length sck] 25)).alloc (.cells #[.int .i64 t.kind, .int .i64 t.so, .string t.name, .slice al t.labels.length cl, .slice ak t.kids.length ck] 25)) = W0 at *
  rintro e w1 ⟨hor, hb1⟩
  have HB1 := hideK (HA.out.trans (hb1.mono HA.out.size))
  have HB2 := hideK (fun o : Obj => show Below w.heap.size w (w1.alloc o) from HB1.out.alloc HB1.out.size o)
  clear hb1 cG
  rcases hor with ⟨hz, rfl⟩ | ⟨hz0, hz, rfl⟩ | ⟨g, h, hof, hof2, ⟨k, arr, hsr, aw, cw, rfl, hla⟩ | ⟨arr, hsr, aw, cw, rfl⟩⟩
  · have hzb : (chkTy s != 0) = true := by simpa using hz
    have HZ := hideK hz
    clear hz
    go_wp2_with fail
    go_ret2
    exact ⟨.inl ⟨HZ.out, rfl⟩, HB2.out _⟩
  · have hzb : (chkTy t != 0) = true := by simpa using hz
    have HZ := hideK hz
    have HZ0 := hideK hz0
    clear hz hz0
    go_wp2_with fail
    go_ret2
    exact ⟨.inr (.inl ⟨HZ0.out, HZ.out, rfl⟩), HB2.out _⟩
  · have HOF := hideK hof
    have HOF2 := hideK hof2
    have HSR := hideK hsr
    have HLA := hideK (fun o : Obj => show LA (w1.alloc o) (w1.alloc o).heap.size (wayGA arr k).reverse aw from (hla.keep ((Below.refl _ _).alloc (Nat.le_refl _) o)).mono (by simp))
    clear hof hof2 hsr hla
    go_wp2_with fail
    go_ret2
    exact ⟨.inr (.inr ⟨g, h, HOF.out, HOF2.out, .inl ⟨k, arr, HSR.out, aw, cw, rfl, HLA.out _⟩⟩), HB2.out _⟩
  · have HOF := hideK hof
    have HOF2 := hideK hof2
    have HSR := hideK hsr
    clear hof hof2 hsr
    go_wp2_with fail
    go_ret2
    exact ⟨.inr (.inr ⟨g, h, HOF.out, HOF2.out, .inr ⟨arr, HSR.out, rfl⟩⟩), HB2.out _⟩
set_option maxRecDepth 100000 in
set_option maxHeartbeats 4000000 in
theorem ends_any (ds dt : Nat) (s t : Ty) (sal : Option Addr) (scl : Nat) (sak : Option Addr) (sck : Nat) (al : Option Addr) (cl : Nat) (ak : Option Addr) (ck : Nat) (w : World) (hs1 : TyBd s scl sck) (hs2 : LA w w.heap.size s.labels sal) (hs3 : KT w w.heap.size ds s.kids sak) (ht1 : TyBd t cl ck) (ht2 : LA w w.heap.size t.labels al) (ht3 : KT w w.heap.size dt t.kids ak) :
    Calls Tryd.prog 18 #[tyVal s sal scl sak sck, tyVal t al cl ak ck] w (EDPost s t w) := by
  unfold EDPost
  have hA : Below w.heap.size w ((w.alloc (.cells #[.int .i64 s.kind, .int .i64 s.so, .string s.name, .slice sal s.labels.length scl, .slice sak s.kids.length sck] 25)).alloc (.cells #[.int .i64 t.kind, .int .i64 t.so, .string t.name, .slice al t.labels.length cl, .slice ak t.kids.length ck] 25)) := ((Below.refl _ _).alloc (Nat.le_refl _) _).alloc (by simp) _
  have cG := outcomeOf_any ds dt s t sal scl sak sck al cl ak ck ((w.alloc (.cells #[.int .i64 s.kind, .int .i64 s.so, .string s.name, .slice sal s.labels.length scl, .slice sak s.kids.length sck] 25)).alloc (.cells #[.int .i64 t.kind, .int .i64 t.so, .string t.name, .slice al t.labels.length cl, .slice ak t.kids.length ck] 25)) hs1 ((hs2.keep hA).mono hA.size) ((hs3.keep hA).mono hA.size) ht1 ((ht2.keep hA).mono hA.size) ((ht3.keep hA).mono hA.size)
  have HA := hideK hA
  simp only [tyVal] at cG ⊢
  unfold OOPost at cG
  clear hs1 hs2 hs3 ht1 ht2 ht3 hA
  go_enter Tryd.func18, Tryd.ntmps18
  go_wp2_with fail
  refine cG.mono ?_
  generalize ((w.alloc (.cells #[.int .i64 s.kind, .int .i64 s.so, .string s.name, .slice sal s.labels.length scl, .slice sak s.kids.length sck] 25)).alloc (.cells #[.int .i64 t.kind, .int .i64 t.so, .string t.name, .slice al t.labels.length cl, .slice ak t.kids.length ck] 25)) = W0 at *
  rintro e w1 ⟨hor, hb1⟩
  have HB1 := hideK (HA.out.trans (hb1.mono HA.out.size))
  have HB2 := hideK (fun o : Obj => show Below w.heap.size w (w1.alloc o) from HB1.out.alloc HB1.out.size o)
  clear hb1 cG
  rcases hor with ⟨hz, rfl⟩ | ⟨hz0, hz, rfl⟩ | ⟨g, h, hof, hof2, ⟨k, arr, hsr, aw, cw, rfl, hla⟩ | ⟨arr, hsr, aw, cw, rfl⟩⟩
  · have hzb : (chkTy s != 0) = true := by simpa using hz
    have HZ := hideK hz
    clear hz
    go_wp2_with fail
    go_ret2
    exact ⟨.inl ⟨HZ.out, rfl⟩, HB2.out _⟩
  · have hzb : (chkTy t != 0) = true := by simpa using hz
    have HZ := hideK hz
    have HZ0 := hideK hz0
    clear hz hz0
    go_wp2_with fail
    go_ret2
    exact ⟨.inr (.inl ⟨HZ0.out, HZ.out, rfl⟩), HB2.out _⟩
  · have HOF := hideK hof
    have HOF2 := hideK hof2
    have HSR := hideK hsr
    clear hof hof2 hsr hla
    go_wp2_with fail
    go_ret2
    exact ⟨.inr (.inr ⟨g, h, HOF.out, HOF2.out, .inl ⟨k, arr, HSR.out, rfl⟩⟩), HB2.out _⟩
  · have HOF := hideK hof
    have HOF2 := hideK hof2
    have HSR := hideK hsr
    clear hof hof2 hsr
    generalize hew : enW g arr arr.length = ew at *
    obtain ⟨e1, e2⟩ := ew
    have HEW := hideK hew
    clear hew
    cases e1 with
    | true =>
      go_wp2_with fail
      go_ret2
      exact ⟨.inr (.inr ⟨g, h, HOF.out, HOF2.out, .inr ⟨arr, HSR.out, .inl (by rw [HEW.out]; exact ⟨rfl, rfl⟩)⟩⟩), HB2.out _⟩
    | false =>
      go_wp2_with fail
      go_ret2
      exact ⟨.inr (.inr ⟨g, h, HOF.out, HOF2.out, .inr ⟨arr, HSR.out, .inr (by rw [HEW.out]; exact ⟨rfl, rfl⟩)⟩⟩), HB2.out _⟩
end Go.Proofs.YtnlpnbelkkgghaaDoor
/-
  comply.Ends of !int.end and ?int.end is 1: their graphs, worked out.
-/
namespace Go.Proofs.YtnlpnbelkkgghaaDoor
open Go.RowKit Go.Shelf

def sndT : Ty := ⟨2, 1, ⟨#[]⟩, [], [endT]⟩
def rcvT : Ty := ⟨3, 1, ⟨#[]⟩, [], [endT]⟩
def sndG : List Nd := [⟨2, 1, [], [1]⟩, ⟨1, 0, [], []⟩]
def rcvG : List Nd := [⟨3, 1, [], [1]⟩, ⟨1, 0, [], []⟩]
theorem end_gd : gdT endT := by
  rw [gdT_eq]
  refine ⟨?_, fun h => ?_, fun k hk => ?_⟩
  · unfold partT endT; simp
  · exact absurd h (by decide)
  · cases hk
theorem end_sz : sizeT endT = 1 := by rw [sizeT_eq]; rfl
theorem one_chk (k : Int) (hk : k = 2 ∨ k = 3) : chkTy ⟨k, 1, ⟨#[]⟩, [], [endT]⟩ = 0 := by
  have hg : gdT ⟨k, 1, ⟨#[]⟩, [], [endT]⟩ := by
    rw [gdT_eq]
    refine ⟨?_, fun h => ?_, fun q hq => ?_⟩
    · unfold partT
      rcases hk with rfl | rfl <;> simp
    · simp only at h; omega
    · obtain rfl := List.mem_singleton.1 hq
      exact end_gd
  have hc : clT ⟨k, 1, ⟨#[]⟩, [], [endT]⟩ [] := by
    rw [clT_eq]
    refine ⟨fun h => ?_, fun q hq => ?_⟩
    · simp only at h; omega
    · obtain rfl := List.mem_singleton.1 hq
      rw [clT_eq]
      exact ⟨fun h => absurd h (by decide), fun q hq => by cases hq⟩
  have hs : sizeT ⟨k, 1, ⟨#[]⟩, [], [endT]⟩ = 2 := by
    rw [sizeT_eq]
    simp only [List.map_cons, List.map_nil, end_sz]
    rfl
  rcases chkTy_or hg hc (by rw [hs]; decide) with q | q
  · exact q
  · rw [hs] at q; omega
theorem snd_chk : chkTy sndT = 0 := one_chk 2 (.inl rfl)
theorem rcv_chk : chkTy rcvT = 0 := one_chk 3 (.inr rfl)
theorem one_lay (k : Int) (hk : k = 2 ∨ k = 3) : layP ⟨k, 1, ⟨#[]⟩, [], [endT]⟩ [] 0 = (0, [⟨k, 1, [], [1]⟩, ⟨1, 0, [], []⟩]) := by
  have e1 : layP endT [] (1 + 0) = (1, [⟨1, 0, [], []⟩]) := by
    rw [layP_node endT [] _ (by decide) (by decide)]; rfl
  have e2 : layL [] (0 + 1) [endT] = ([1], [⟨1, 0, [], []⟩]) := by
    unfold layL
    rw [List.foldl_cons, List.foldl_nil]
    show ([] ++ [(layP endT [] (1 + 0)).1], [] ++ (layP endT [] (1 + 0)).2) = _
    rw [e1]; rfl
  rw [layP_node _ [] 0 (by simp only; omega) (by simp only; omega)]
  simp only
  rw [e2]
theorem snd_of : OFG sndT sndG := by
  have e : (layP sndT [] 0).2 = sndG := by
    have := one_lay 2 (.inl rfl)
    show (layP ⟨2, 1, ⟨#[]⟩, [], [endT]⟩ [] 0).2 = _
    rw [this]; rfl
  have hs := (lay_gn snd_chk).shut
  rw [e] at hs
  have hc := cls_done hs (pat_split hs (pat_zero sndG)) (by kernel_rfl)
  exact ⟨snd_chk, _, by rw [e]; exact hc, by rw [e]; kernel_rfl⟩
theorem rcv_of : OFG rcvT rcvG := by
  have e : (layP rcvT [] 0).2 = rcvG := by
    have := one_lay 3 (.inr rfl)
    show (layP ⟨3, 1, ⟨#[]⟩, [], [endT]⟩ [] 0).2 = _
    rw [this]; rfl
  have hs := (lay_gn rcv_chk).shut
  rw [e] at hs
  have hc := cls_done hs (pat_split hs (pat_zero rcvG)) (by kernel_rfl)
  exact ⟨rcv_chk, _, by rw [e]; exact hc, by rw [e]; kernel_rfl⟩
theorem snd_rcv : srC sndG rcvG = (none, (srC sndG rcvG).2) ∧ enW sndG (srC sndG rcvG).2 (srC sndG rcvG).2.length = (true, 1) := ⟨by kernel_rfl, by kernel_rfl⟩
theorem endsOne {w : World} {args : Array Value} (c : Calls Tryd.prog 18 args w (EDPost sndT rcvT w)) : Calls Tryd.prog 18 args w fun e w' => e = .returned (.tuple #[.int .i64 1, .int .i64 0]) ∧ Below w.heap.size w w' := by
  refine c.mono ?_
  rintro e w' ⟨h | h | ⟨g, h, hg, hh, hor⟩, hb⟩
  · exact absurd snd_chk h.1
  · exact absurd rcv_chk h.2.1
  · obtain rfl := hg.uniq snd_of
    obtain rfl := hh.uniq rcv_of
    refine ⟨?_, hb⟩
    rcases hor with ⟨k, arr, hs, _⟩ | ⟨arr, hs, hor⟩
    · rw [snd_rcv.1] at hs; cases (congrArg Prod.fst hs)
    · have ha : arr = (srC sndG rcvG).2 := by rw [hs]
      rw [ha, snd_rcv.2] at hor
      rcases hor with ⟨_, e⟩ | ⟨e, _⟩
      · exact e
      · cases e
end Go.Proofs.YtnlpnbelkkgghaaDoor
