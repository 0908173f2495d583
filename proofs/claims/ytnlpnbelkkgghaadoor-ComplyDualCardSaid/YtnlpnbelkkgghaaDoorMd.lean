/-
  The law of duetkeep.ComplyDual: whatever types are handed in it answers true.
-/
import Derived.Test.YtnlpnbelkkgghaaDoorMc
import Derived.Test.YtnlpnbelkkgghaaDoorUr
import Derived.Test.YtnlpnbelkkgghaaDoorVu
namespace Go.Proofs.YtnlpnbelkkgghaaDoor
open Go.RowKit Go.Shelf

theorem CT_srC {s t : Ty} {g h : List Nd} (hg : OFG s g) (hh : OFG t h) : CT s t ↔ (srC g h).1 = none := by
  rw [CT_iff hg hh, comply_iff hg.gn hh.gn (by have := hh.le; omega)]
theorem CT_symm {s t : Ty} (h : CT s t) : CT t s := by
  obtain ⟨g, f, hg, hf, hb⟩ := h
  have h1 := (CT_srC hg hf).1 ⟨g, f, hg, hf, hb⟩
  refine (CT_srC hf hg).2 ?_
  rw [srC_turn hg.gn hf.gn]
  exact h1
/-- the other end, written back, gets on with the type -/
theorem dual_on {s : Ty} {g dg : List Nd} (hg : OFG s g) (hd : GN dg) (ha : ∀ k, gT dg k 0 = gT (othG g) k 0) (q : (backP dg).2.2 ≤ 60) : chkTy (backP dg).1 = 0 ∧ CT s (backP dg).1 := by
  obtain ⟨h1, h2⟩ := back_ok hd hd.le q
  refine ⟨h1, CT_symm ?_⟩
  obtain ⟨h, hh⟩ := OFG_ex h1
  have hO := oth_gn hg.gn (by have := hg.le; omega)
  refine ⟨h, g, hh, hg, fun k => ?_⟩
  refine (bl_resp hO hO hO hh.gn hO.pos hO.pos hO.pos hh.gn.pos rfl ?_).2 (bl_refl hO k hO.pos)
  exact (hh.does k).trans ((congrFun h2 k).trans (ha k))
theorem turn_some {g h : List Nd} (hg : GN g) (hh : GN h) {k : Nat} {arr : List (Ag Pc)} (hs : srC g h = (some k, arr)) : srC h g = (some k, arr.map swA) := by
  rw [srC_turn hg hh, hs]
theorem turn_none {g h : List Nd} (hg : GN g) (hh : GN h) {arr : List (Ag Pc)} (hs : srC g h = (none, arr)) : srC h g = (none, arr.map swA) := by
  rw [srC_turn hg hh, hs]
/-- comply.Stuck and comply.Ends where they come to where it fails -/
theorem skA {s t : Ty} {w : World} {g h : List Nd} (hg : OFG s g) (hh : OFG t h) {k : Nat} {arr : List (Ag Pc)} (hs : srC g h = (some k, arr)) {args : Array Value} (c : Calls Tryd.prog 20 args w (SKPost s t w)) : Calls Tryd.prog 20 args w fun e w' => (∃ aw cw, e = .returned (.tuple #[.slice aw (wayGA arr k).length cw, .int .i64 0]) ∧ LA w' w'.heap.size (wayGA arr k).reverse aw) ∧ Below w.heap.size w w' := by
  refine c.mono ?_
  rintro e w' ⟨q | q | ⟨g', h', hg', hh', hor⟩, hb⟩
  · exact absurd hg.chk q.1
  · exact absurd hh.chk q.2.1
  · obtain rfl := hg.uniq hg'
    obtain rfl := hh.uniq hh'
    rcases hor with ⟨k', arr', hs', aw, cw, e, hl⟩ | ⟨arr', hs', _⟩
    · rw [hs] at hs'
      injection hs' with e1 e2
      injection e1 with e1
      subst e1 e2
      exact ⟨⟨aw, cw, e, hl⟩, hb⟩
    · rw [hs] at hs'; cases (congrArg Prod.fst hs')
theorem skB {s t : Ty} {w : World} {g h : List Nd} (hg : OFG s g) (hh : OFG t h) {arr : List (Ag Pc)} (hs : srC g h = (none, arr)) {args : Array Value} (c : Calls Tryd.prog 20 args w (SKPost s t w)) : Calls Tryd.prog 20 args w fun e w' => e = .returned (.tuple #[.slice none 0 0, .int .i64 8]) ∧ Below w.heap.size w w' := by
  refine c.mono ?_
  rintro e w' ⟨q | q | ⟨g', h', hg', hh', hor⟩, hb⟩
  · exact absurd hg.chk q.1
  · exact absurd hh.chk q.2.1
  · obtain rfl := hg.uniq hg'
    obtain rfl := hh.uniq hh'
    rcases hor with ⟨k', arr', hs', _⟩ | ⟨arr', hs', e⟩
    · rw [hs] at hs'; cases (congrArg Prod.fst hs')
    · exact ⟨e, hb⟩
theorem edA {s t : Ty} {w : World} {g h : List Nd} (hg : OFG s g) (hh : OFG t h) {k : Nat} {arr : List (Ag Pc)} (hs : srC g h = (some k, arr)) {args : Array Value} (c : Calls Tryd.prog 18 args w (EDPost s t w)) : Calls Tryd.prog 18 args w fun e w' => e = .returned (.tuple #[.int .i64 0, .int .i64 7]) ∧ Below w.heap.size w w' := by
  refine c.mono ?_
  rintro e w' ⟨q | q | ⟨g', h', hg', hh', hor⟩, hb⟩
  · exact absurd hg.chk q.1
  · exact absurd hh.chk q.2.1
  · obtain rfl := hg.uniq hg'
    obtain rfl := hh.uniq hh'
    rcases hor with ⟨k', arr', hs', e⟩ | ⟨arr', hs', _⟩
    · exact ⟨e, hb⟩
    · rw [hs] at hs'; cases (congrArg Prod.fst hs')
/-- by how few doings both are End, or that they never are -/
def edN (x : Bool × Nat) : Int := if x.1 = true then (x.2 : Int) else 0
def edE (x : Bool × Nat) : Int := if x.1 = true then 0 else 8
theorem edB {s t : Ty} {w : World} {g h : List Nd} (hg : OFG s g) (hh : OFG t h) {arr : List (Ag Pc)} (hs : srC g h = (none, arr)) {args : Array Value} (c : Calls Tryd.prog 18 args w (EDPost s t w)) : Calls Tryd.prog 18 args w fun e w' => e = .returned (.tuple #[.int .i64 (edN (enW g arr arr.length)), .int .i64 (edE (enW g arr arr.length))]) ∧ Below w.heap.size w w' := by
  refine c.mono ?_
  rintro e w' ⟨q | q | ⟨g', h', hg', hh', hor⟩, hb⟩
  · exact absurd hg.chk q.1
  · exact absurd hh.chk q.2.1
  · obtain rfl := hg.uniq hg'
    obtain rfl := hh.uniq hh'
    rcases hor with ⟨k', arr', hs', _⟩ | ⟨arr', hs', hor⟩
    · rw [hs] at hs'; cases (congrArg Prod.fst hs')
    · rw [hs] at hs'
      injection hs' with _ e2
      subst e2
      unfold edN edE
      rcases hor with ⟨e1, e⟩ | ⟨e1, e⟩
      · rw [if_pos e1, if_pos e1]; exact ⟨e, hb⟩
      · rw [if_neg (by rw [e1]; decide), if_neg (by rw [e1]; decide)]; exact ⟨e, hb⟩
theorem doIs {s t : Ty} {w : World} {g h : List Nd} (hg : OFG s g) (hh : OFG t h) {args : Array Value} (c : Calls Tryd.prog 19 args w (DCPost s t w)) : Calls Tryd.prog 19 args w fun e w' => e = .returned (.tuple #[.bool (srC g h).1.isNone, .int .i64 0]) ∧ Below w.heap.size w w' := by
  refine (doGood hg.chk hh.chk c).mono ?_
  rintro e w' ⟨⟨b, e, hq⟩, hb⟩
  refine ⟨?_, hb⟩
  have : b = (srC g h).1.isNone := by
    rw [CT_srC hg hh] at hq
    rw [Bool.eq_iff_iff, hq, Option.isNone_iff_eq_none]
  rw [← this]; exact e
theorem way_le {g h : List Nd} (hg : GN g) (hh : GN h) {k : Nat} {arr : List (Ag Pc)} (hs : srC g h = (some k, arr)) : (wayGA arr k).length ≤ 40000 := by
  obtain ⟨h1, h2, h3, _⟩ := srGA_some (comply_wld hg hh) (p0 := (0, 0)) ⟨hg.pos, hh.pos⟩ hs
  have h4 := wayG_len arr h3.way k k h1
  have h5 : g.length * h.length ≤ 200 * 200 := Nat.mul_le_mul hg.le hh.le
  show (wayG arr k k).length ≤ _
  omega
def litE : Obj := .cells #[.int .i64 1, .int .i64 0, .string ⟨#[]⟩, .slice none 0 0, .slice none 0 0] 25
theorem one_bd (k : Int) : TyBd ⟨k, 1, ⟨#[]⟩, [], [endT]⟩ 0 1 := ⟨by show (0 : Nat) ≤ 9223372036854775807; omega, (fun l hl => by cases hl), Nat.le_refl _, by omega, Nat.le_refl _, by omega⟩
theorem endsLit (W : World) (H : Nat) (hH : W.heap.size = H) : Calls Tryd.prog 18 #[.agg #[.int .i64 2, .int .i64 1, .string ⟨#[]⟩, .slice none 0 0, .slice (some ⟨H, 0, none⟩) 1 1], .agg #[.int .i64 3, .int .i64 1, .string ⟨#[]⟩, .slice none 0 0, .slice (some ⟨H + 1, 0, none⟩) 1 1]] ((W.alloc (.cells #[.int .i64 1, .int .i64 0, .string ⟨#[]⟩, .slice none 0 0, .slice none 0 0] 25)).alloc (.cells #[.int .i64 1, .int .i64 0, .string ⟨#[]⟩, .slice none 0 0, .slice none 0 0] 25)) fun e w' => e = .returned (.tuple #[.int .i64 1, .int .i64 0]) ∧ Below W.heap.size W w' := by
  subst hH
  have k1 : KT (W.alloc litE) (W.alloc litE).heap.size 1 [endT] (some ⟨W.heap.size, 0, none⟩) := kt_lit end_bd (.inl rfl) rfl
  have k2 : KT ((W.alloc litE).alloc litE) ((W.alloc litE).alloc litE).heap.size 1 [endT] (some ⟨(W.alloc litE).heap.size, 0, none⟩) := kt_lit end_bd (.inl rfl) rfl
  have hs : (W.alloc litE).heap.size = W.heap.size + 1 := by simp
  rw [hs] at k2
  have hA : Below (W.alloc litE).heap.size (W.alloc litE) ((W.alloc litE).alloc litE) := (Below.refl _ _).alloc (Nat.le_refl _) _
  have hA2 : Below W.heap.size W ((W.alloc litE).alloc litE) := ((Below.refl _ _).alloc (Nat.le_refl _) _).alloc (by simp) _
  have c := endsOne (ends_any 1 1 sndT rcvT none 0 (some ⟨W.heap.size, 0, none⟩) 1 none 0 (some ⟨W.heap.size + 1, 0, none⟩) 1 ((W.alloc litE).alloc litE) (one_bd 2) (.inl rfl) ((k1.keep hA).mono hA.size) (one_bd 3) (.inl rfl) k2)
  refine c.mono ?_
  rintro e w' ⟨h, hb⟩
  exact ⟨h, hA2.trans (hb.mono hA2.size)⟩
set_option maxRecDepth 100000 in
set_option maxHeartbeats 16000000 in
theorem complyDual_law (ds dt : Nat) (s t : Ty) (sal : Option Addr) (scl : Nat) (sak : Option Addr) (sck : Nat) (al : Option Addr) (cl : Nat) (ak : Option Addr) (ck : Nat) (w : World) (hs1 : TyBd s scl sck) (hs2 : LA w w.heap.size s.labels sal) (hs3 : KT w w.heap.size ds s.kids sak) (ht1 : TyBd t cl ck) (ht2 : LA w w.heap.size t.labels al) (ht3 : KT w w.heap.size dt t.kids ak) :
    Calls Tryd.prog 6 #[tyVal s sal scl sak sck, tyVal t al cl ak ck] w fun e w' => e = .returned (.bool true) ∧ Below w.heap.size w w' := by
  have Q0 := hideK (BXD.new w s sal scl sak sck t al cl ak ck)
  obtain ⟨x0, x1, x2, x3, x4⟩ := Q0.out.x
  obtain ⟨y0, y1, y2, y3, y4⟩ := Q0.out.y
  simp only [Nat.zero_add] at x1 x2 x3 x4 y1 y2 y3 y4
  have CE := hideK (fun (W : World) (h : W.heap.size = w.heap.size + 1 + 1) => endsLit W (w.heap.size + 1 + 1) h)
  by_cases hz : chkTy s = 0 ∧ chkTy t = 0
  · obtain ⟨hzs, hzt⟩ := hz
    obtain ⟨g, hg⟩ := OFG_ex hzs
    obtain ⟨h, hh⟩ := OFG_ex hzt
    have C1 := hideK (fun (W : World) (hb : Below w.heap.size w W) => doIs hg hh (do_any ds dt s t sal scl sak sck al cl ak ck W hs1 ((hs2.keep hb).mono hb.size) ((hs3.keep hb).mono hb.size) ht1 ((ht2.keep hb).mono hb.size) ((ht3.keep hb).mono hb.size)))
    have C2 := hideK (fun (W : World) (hb : Below w.heap.size w W) => doIs hh hg (do_any dt ds t s al cl ak ck sal scl sak sck W ht1 ((ht2.keep hb).mono hb.size) ((ht3.keep hb).mono hb.size) hs1 ((hs2.keep hb).mono hb.size) ((hs3.keep hb).mono hb.size)))
    have C7 := hideK (fun (W : World) (hb : Below w.heap.size w W) => dofGood hg (dualOf_any ds s sal scl sak sck W hs1 ((hs2.keep hb).mono hb.size) ((hs3.keep hb).mono hb.size)))
    have C9 := hideK (fun (dd : Nat) (d : Ty) (dal : Option Addr) (dcl : Nat) (dak : Option Addr) (dck : Nat) (W : World) (hb : Below w.heap.size w W) (hd1 : TyBd d dcl dck) (hd2 : LA W W.heap.size d.labels dal) (hd3 : KT W W.heap.size dd d.kids dak) (hzd : chkTy d = 0) => doGood hzs hzd (do_any ds dd s d sal scl sak sck dal dcl dak dck W hs1 ((hs2.keep hb).mono hb.size) ((hs3.keep hb).mono hb.size) hd1 hd2 hd3))
    rcases hsr : srC g h with ⟨o, arr⟩
    cases o with
    | some k =>
      have C3 := hideK (fun (W : World) (hb : Below w.heap.size w W) => edA hg hh hsr (ends_any ds dt s t sal scl sak sck al cl ak ck W hs1 ((hs2.keep hb).mono hb.size) ((hs3.keep hb).mono hb.size) ht1 ((ht2.keep hb).mono hb.size) ((ht3.keep hb).mono hb.size)))
      have C4 := hideK (fun (W : World) (hb : Below w.heap.size w W) => edA hh hg (turn_some hg.gn hh.gn hsr) (ends_any dt ds t s al cl ak ck sal scl sak sck W ht1 ((ht2.keep hb).mono hb.size) ((ht3.keep hb).mono hb.size) hs1 ((hs2.keep hb).mono hb.size) ((hs3.keep hb).mono hb.size)))
      have C5 := hideK (fun (W : World) (hb : Below w.heap.size w W) => skA hg hh hsr (stuck_any ds dt s t sal scl sak sck al cl ak ck W hs1 ((hs2.keep hb).mono hb.size) ((hs3.keep hb).mono hb.size) ht1 ((ht2.keep hb).mono hb.size) ((ht3.keep hb).mono hb.size)))
      have C6 := hideK (fun (W : World) (hb : Below w.heap.size w W) => skA hh hg (turn_some hg.gn hh.gn hsr) (stuck_any dt ds t s al cl ak ck sal scl sak sck W ht1 ((ht2.keep hb).mono hb.size) ((ht3.keep hb).mono hb.size) hs1 ((hs2.keep hb).mono hb.size) ((hs3.keep hb).mono hb.size)))
      have HWL := hideK (way_le hg.gn hh.gn hsr)
      have HT := hideK (turn_some hg.gn hh.gn hsr)
      have HSR := hideK hsr
      have HG := hideK hg
      have HOG := hideK (oth_gn hg.gn (by have := hg.le; omega))
      rw [hsr] at C1
      rw [turn_some hg.gn hh.gn hsr] at C2
      rw [wayGA_turn] at C6
      simp only [Option.isNone_some] at C1 C2
      simp only [tyVal] at C1 C2 C3 C4 C5 C6 C7 ⊢
      clear hs1 hs2 hs3 ht1 ht2 ht3 hzs hzt hg hh hsr
      go_enter Tryd.func6, Tryd.ntmps6
      go_wp2_with fail
      refine (CE.out _ (by simp)).mono ?_
      rintro e w1 ⟨rfl, hb1⟩
      have Q1 := hideK (Q0.out.keep hb1)
      clear x0 x1 x2 x3 x4 y0 y1 y2 y3 y4
      obtain ⟨x0, x1, x2, x3, x4⟩ := Q1.out.x
      obtain ⟨y0, y1, y2, y3, y4⟩ := Q1.out.y
      simp only [Nat.zero_add] at x1 x2 x3 x4 y1 y2 y3 y4
      clear hb1
      go_wp2_with fail
      refine (C1.out _ Q1.out.bl).mono ?_
      rintro e w2 ⟨rfl, hb2⟩
      have Q2 := hideK (Q1.out.keep hb2)
      clear x0 x1 x2 x3 x4 y0 y1 y2 y3 y4
      obtain ⟨x0, x1, x2, x3, x4⟩ := Q2.out.x
      obtain ⟨y0, y1, y2, y3, y4⟩ := Q2.out.y
      simp only [Nat.zero_add] at x1 x2 x3 x4 y1 y2 y3 y4
      clear hb2
      go_wp2_with fail
      refine (C2.out _ Q2.out.bl).mono ?_
      rintro e w3 ⟨rfl, hb3⟩
      have Q3 := hideK (Q2.out.keep hb3)
      clear x0 x1 x2 x3 x4 y0 y1 y2 y3 y4
      obtain ⟨x0, x1, x2, x3, x4⟩ := Q3.out.x
      obtain ⟨y0, y1, y2, y3, y4⟩ := Q3.out.y
      simp only [Nat.zero_add] at x1 x2 x3 x4 y1 y2 y3 y4
      clear hb3
      go_wp2_with fail
      refine (C3.out _ Q3.out.bl).mono ?_
      rintro e w4 ⟨rfl, hb4⟩
      have Q4 := hideK (Q3.out.keep hb4)
      clear x0 x1 x2 x3 x4 y0 y1 y2 y3 y4
      obtain ⟨x0, x1, x2, x3, x4⟩ := Q4.out.x
      obtain ⟨y0, y1, y2, y3, y4⟩ := Q4.out.y
      simp only [Nat.zero_add] at x1 x2 x3 x4 y1 y2 y3 y4
      clear hb4
      go_wp2_with fail
      refine (C4.out _ Q4.out.bl).mono ?_
      rintro e w5 ⟨rfl, hb5⟩
      have Q5 := hideK (Q4.out.keep hb5)
      clear x0 x1 x2 x3 x4 y0 y1 y2 y3 y4
      obtain ⟨x0, x1, x2, x3, x4⟩ := Q5.out.x
      obtain ⟨y0, y1, y2, y3, y4⟩ := Q5.out.y
      simp only [Nat.zero_add] at x1 x2 x3 x4 y1 y2 y3 y4
      clear hb5
      go_wp2_with fail
      refine (C5.out _ Q5.out.bl).mono ?_
      rintro e w6 ⟨⟨aw, cw, rfl, hla⟩, hb6⟩
      have Q6 := hideK (Q5.out.keep hb6)
      have HLA := hideK hla
      clear hla
      clear x0 x1 x2 x3 x4 y0 y1 y2 y3 y4
      obtain ⟨x0, x1, x2, x3, x4⟩ := Q6.out.x
      obtain ⟨y0, y1, y2, y3, y4⟩ := Q6.out.y
      simp only [Nat.zero_add] at x1 x2 x3 x4 y1 y2 y3 y4
      clear hb6
      go_wp2_with fail
      refine (C6.out _ Q6.out.bl).mono ?_
      rintro e w7 ⟨⟨ax, cx, rfl, hlx⟩, hb7⟩
      have Q7 := hideK (Q6.out.keep hb7)
      have HLA7 := hideK ((HLA.out.keep hb7).mono hb7.size)
      have HLX := hideK hlx
      clear hlx
      clear x0 x1 x2 x3 x4 y0 y1 y2 y3 y4
      obtain ⟨x0, x1, x2, x3, x4⟩ := Q7.out.x
      obtain ⟨y0, y1, y2, y3, y4⟩ := Q7.out.y
      simp only [Nat.zero_add] at x1 x2 x3 x4 y1 y2 y3 y4
      clear hb7
      have cS := sameStr_any (wayGA arr k).reverse (wayGA arr k).reverse aw ax cw cx w7.heap.size w7 HLA7.out HLX.out (Nat.le_refl _) (by rw [List.length_reverse]; have := HWL.out; omega) (by rw [List.length_reverse]; have := HWL.out; omega)
      rw [List.length_reverse] at cS
      simp only [decide_true] at cS
      generalize (wayGA arr k).length = wl at *
      go_wp2_with fail
      refine cS.mono ?_
      rintro e w7b ⟨rfl, hb7⟩
      replace Q7 := hideK (Q7.out.keep hb7)
      clear cS hb7 HLA HLA7 HLX
      clear x0 x1 x2 x3 x4 y0 y1 y2 y3 y4
      obtain ⟨x0, x1, x2, x3, x4⟩ := Q7.out.x
      obtain ⟨y0, y1, y2, y3, y4⟩ := Q7.out.y
      simp only [Nat.zero_add] at x1 x2 x3 x4 y1 y2 y3 y4
      go_wp2_with fail
      refine (C7.out _ Q7.out.bl).mono ?_
      rintro e w8 ⟨⟨cs, hcs, ao, co, rfl, hga⟩, hb8⟩
      have Q8 := hideK (Q7.out.keep hb8)
      clear x0 x1 x2 x3 x4 y0 y1 y2 y3 y4
      obtain ⟨x0, x1, x2, x3, x4⟩ := Q8.out.x
      obtain ⟨y0, y1, y2, y3, y4⟩ := Q8.out.y
      simp only [Nat.zero_add] at x1 x2 x3 x4 y1 y2 y3 y4
      have HCS := hideK hcs
      have HGA := hideK hga
      clear hb8 hcs hga
      have GD := hideK (least_gn HOG.out HCS.out)
      have cB := backKeep_any (leastG (othG g) cs) GD.out.1 ao co w8.heap.size w8 HGA.out (Nat.le_refl _)
      have HCT := hideK (fun (q : (backP (leastG (othG g) cs)).2.2 ≤ 60) => dual_on HG.out GD.out.1 GD.out.2.1 q)
      generalize leastG (othG g) cs = dg at *
      unfold BOPost at cB
      go_wp2_with fail
      refine cB.mono ?_
      rintro e w9 ⟨hor, hb9⟩
      have Q9 := hideK (Q8.out.keep hb9)
      clear cB hb9
      clear x0 x1 x2 x3 x4 y0 y1 y2 y3 y4
      rcases hor with ⟨hq, t9, al9, cl9, ak9, ck9, rfl⟩ | ⟨hq, al9, cl9, ak9, ck9, d9, rfl, hd1, hd2, hd3⟩
      · have QA := hideK (Q9.out.keep ((Below.refl w9.heap.size w9).alloc (Nat.le_refl _) (.cells #[.int .i64 t9.kind, .int .i64 t9.so, .string t9.name, .slice al9 t9.labels.length cl9, .slice ak9 t9.kids.length ck9] 25)))
        clear hq
        simp only [tyVal]
        go_wp2_with fail
        go_ret
        exact ⟨rfl, QA.out.bl⟩
      · have HK := hideK (HCT.out hq)
        have hbA : Below w9.heap.size w9 (w9.alloc (.cells #[.int .i64 (backP dg).1.kind, .int .i64 (backP dg).1.so, .string (backP dg).1.name, .slice al9 (backP dg).1.labels.length cl9, .slice ak9 (backP dg).1.kids.length ck9] 25)) := (Below.refl _ _).alloc (Nat.le_refl _) _
        have QA := hideK (Q9.out.keep hbA)
        have cD := C9.out d9 (backP dg).1 al9 cl9 ak9 ck9 _ QA.out.bl hd1 ((hd2.keep hbA).mono hbA.size) ((hd3.keep hbA).mono hbA.size) HK.out.1
        simp only [tyVal] at cD ⊢
        generalize (backP dg).1 = bd at *
        obtain ⟨x0, x1, x2, x3, x4⟩ := QA.out.x
        obtain ⟨y0, y1, y2, y3, y4⟩ := QA.out.y
        simp only [Nat.zero_add] at x1 x2 x3 x4 y1 y2 y3 y4
        clear hbA hd1 hd2 hd3 hq
        go_wp2_with fail
        refine cD.mono ?_
        rintro e wB ⟨⟨b, rfl, hb⟩, hbB⟩
        have QB := hideK (QA.out.keep hbB)
        obtain rfl : b = true := hb.2 HK.out.2
        clear hbB hb cD
        clear x0 x1 x2 x3 x4 y0 y1 y2 y3 y4
        go_wp2_with fail
        go_ret
        exact ⟨rfl, QB.out.bl⟩
    | none =>
      have C3 := hideK (fun (W : World) (hb : Below w.heap.size w W) => edB hg hh hsr (ends_any ds dt s t sal scl sak sck al cl ak ck W hs1 ((hs2.keep hb).mono hb.size) ((hs3.keep hb).mono hb.size) ht1 ((ht2.keep hb).mono hb.size) ((ht3.keep hb).mono hb.size)))
      have C4 := hideK (fun (W : World) (hb : Below w.heap.size w W) => edB hh hg (turn_none hg.gn hh.gn hsr) (ends_any dt ds t s al cl ak ck sal scl sak sck W ht1 ((ht2.keep hb).mono hb.size) ((ht3.keep hb).mono hb.size) hs1 ((hs2.keep hb).mono hb.size) ((hs3.keep hb).mono hb.size)))
      have C5 := hideK (fun (W : World) (hb : Below w.heap.size w W) => skB hg hh hsr (stuck_any ds dt s t sal scl sak sck al cl ak ck W hs1 ((hs2.keep hb).mono hb.size) ((hs3.keep hb).mono hb.size) ht1 ((ht2.keep hb).mono hb.size) ((ht3.keep hb).mono hb.size)))
      have C6 := hideK (fun (W : World) (hb : Below w.heap.size w W) => skB hh hg (turn_none hg.gn hh.gn hsr) (stuck_any dt ds t s al cl ak ck sal scl sak sck W ht1 ((ht2.keep hb).mono hb.size) ((ht3.keep hb).mono hb.size) hs1 ((hs2.keep hb).mono hb.size) ((hs3.keep hb).mono hb.size)))
      have HG := hideK hg
      have HOG := hideK (oth_gn hg.gn (by have := hg.le; omega))
      rw [hsr] at C1
      rw [turn_none hg.gn hh.gn hsr] at C2
      rw [enW_turn hg.gn hh.gn hsr] at C4
      simp only [Option.isNone_none] at C1 C2
      simp only [tyVal] at C1 C2 C3 C4 C5 C6 C7 ⊢
      clear hs1 hs2 hs3 ht1 ht2 ht3 hzs hzt hg hh hsr
      generalize edN (enW g arr arr.length) = en at *
      generalize edE (enW g arr arr.length) = ee at *
      go_enter Tryd.func6, Tryd.ntmps6
      go_wp2_with fail
      refine (CE.out _ (by simp)).mono ?_
      rintro e w1 ⟨rfl, hb1⟩
      have Q1 := hideK (Q0.out.keep hb1)
      clear x0 x1 x2 x3 x4 y0 y1 y2 y3 y4
      obtain ⟨x0, x1, x2, x3, x4⟩ := Q1.out.x
      obtain ⟨y0, y1, y2, y3, y4⟩ := Q1.out.y
      simp only [Nat.zero_add] at x1 x2 x3 x4 y1 y2 y3 y4
      clear hb1
      go_wp2_with fail
      refine (C1.out _ Q1.out.bl).mono ?_
      rintro e w2 ⟨rfl, hb2⟩
      have Q2 := hideK (Q1.out.keep hb2)
      clear x0 x1 x2 x3 x4 y0 y1 y2 y3 y4
      obtain ⟨x0, x1, x2, x3, x4⟩ := Q2.out.x
      obtain ⟨y0, y1, y2, y3, y4⟩ := Q2.out.y
      simp only [Nat.zero_add] at x1 x2 x3 x4 y1 y2 y3 y4
      clear hb2
      go_wp2_with fail
      refine (C2.out _ Q2.out.bl).mono ?_
      rintro e w3 ⟨rfl, hb3⟩
      have Q3 := hideK (Q2.out.keep hb3)
      clear x0 x1 x2 x3 x4 y0 y1 y2 y3 y4
      obtain ⟨x0, x1, x2, x3, x4⟩ := Q3.out.x
      obtain ⟨y0, y1, y2, y3, y4⟩ := Q3.out.y
      simp only [Nat.zero_add] at x1 x2 x3 x4 y1 y2 y3 y4
      clear hb3
      go_wp2_with fail
      refine (C3.out _ Q3.out.bl).mono ?_
      rintro e w4 ⟨rfl, hb4⟩
      have Q4 := hideK (Q3.out.keep hb4)
      clear x0 x1 x2 x3 x4 y0 y1 y2 y3 y4
      obtain ⟨x0, x1, x2, x3, x4⟩ := Q4.out.x
      obtain ⟨y0, y1, y2, y3, y4⟩ := Q4.out.y
      simp only [Nat.zero_add] at x1 x2 x3 x4 y1 y2 y3 y4
      clear hb4
      go_wp2_with fail
      refine (C4.out _ Q4.out.bl).mono ?_
      rintro e w5 ⟨rfl, hb5⟩
      have Q5 := hideK (Q4.out.keep hb5)
      clear x0 x1 x2 x3 x4 y0 y1 y2 y3 y4
      obtain ⟨x0, x1, x2, x3, x4⟩ := Q5.out.x
      obtain ⟨y0, y1, y2, y3, y4⟩ := Q5.out.y
      simp only [Nat.zero_add] at x1 x2 x3 x4 y1 y2 y3 y4
      clear hb5
      go_wp2_with fail
      refine (C5.out _ Q5.out.bl).mono ?_
      rintro e w6 ⟨rfl, hb6⟩
      have Q6 := hideK (Q5.out.keep hb6)
      clear x0 x1 x2 x3 x4 y0 y1 y2 y3 y4
      obtain ⟨x0, x1, x2, x3, x4⟩ := Q6.out.x
      obtain ⟨y0, y1, y2, y3, y4⟩ := Q6.out.y
      simp only [Nat.zero_add] at x1 x2 x3 x4 y1 y2 y3 y4
      clear hb6
      go_wp2_with fail
      refine (C6.out _ Q6.out.bl).mono ?_
      rintro e w7 ⟨rfl, hb7⟩
      have Q7 := hideK (Q6.out.keep hb7)
      clear x0 x1 x2 x3 x4 y0 y1 y2 y3 y4
      obtain ⟨x0, x1, x2, x3, x4⟩ := Q7.out.x
      obtain ⟨y0, y1, y2, y3, y4⟩ := Q7.out.y
      simp only [Nat.zero_add] at x1 x2 x3 x4 y1 y2 y3 y4
      clear hb7
      have cS := sameStr_any [] [] none none 0 0 w7.heap.size w7 (.inl rfl) (.inl rfl) (Nat.le_refl _) (by decide) (by decide)
      simp only [decide_true, List.length_nil] at cS
      go_wp2_with fail
      refine cS.mono ?_
      rintro e w7b ⟨rfl, hb7⟩
      replace Q7 := hideK (Q7.out.keep hb7)
      clear cS hb7
      clear x0 x1 x2 x3 x4 y0 y1 y2 y3 y4
      obtain ⟨x0, x1, x2, x3, x4⟩ := Q7.out.x
      obtain ⟨y0, y1, y2, y3, y4⟩ := Q7.out.y
      simp only [Nat.zero_add] at x1 x2 x3 x4 y1 y2 y3 y4
      go_wp2_with fail
      refine (C7.out _ Q7.out.bl).mono ?_
      rintro e w8 ⟨⟨cs, hcs, ao, co, rfl, hga⟩, hb8⟩
      have Q8 := hideK (Q7.out.keep hb8)
      clear x0 x1 x2 x3 x4 y0 y1 y2 y3 y4
      obtain ⟨x0, x1, x2, x3, x4⟩ := Q8.out.x
      obtain ⟨y0, y1, y2, y3, y4⟩ := Q8.out.y
      simp only [Nat.zero_add] at x1 x2 x3 x4 y1 y2 y3 y4
      have HCS := hideK hcs
      have HGA := hideK hga
      clear hb8 hcs hga
      have GD := hideK (least_gn HOG.out HCS.out)
      have cB := backKeep_any (leastG (othG g) cs) GD.out.1 ao co w8.heap.size w8 HGA.out (Nat.le_refl _)
      have HCT := hideK (fun (q : (backP (leastG (othG g) cs)).2.2 ≤ 60) => dual_on HG.out GD.out.1 GD.out.2.1 q)
      generalize leastG (othG g) cs = dg at *
      unfold BOPost at cB
      go_wp2_with fail
      refine cB.mono ?_
      rintro e w9 ⟨hor, hb9⟩
      have Q9 := hideK (Q8.out.keep hb9)
      clear cB hb9
      clear x0 x1 x2 x3 x4 y0 y1 y2 y3 y4
      rcases hor with ⟨hq, t9, al9, cl9, ak9, ck9, rfl⟩ | ⟨hq, al9, cl9, ak9, ck9, d9, rfl, hd1, hd2, hd3⟩
      · have QA := hideK (Q9.out.keep ((Below.refl w9.heap.size w9).alloc (Nat.le_refl _) (.cells #[.int .i64 t9.kind, .int .i64 t9.so, .string t9.name, .slice al9 t9.labels.length cl9, .slice ak9 t9.kids.length ck9] 25)))
        clear hq
        simp only [tyVal]
        go_wp2_with fail
        go_ret
        exact ⟨rfl, QA.out.bl⟩
      · have HK := hideK (HCT.out hq)
        have hbA : Below w9.heap.size w9 (w9.alloc (.cells #[.int .i64 (backP dg).1.kind, .int .i64 (backP dg).1.so, .string (backP dg).1.name, .slice al9 (backP dg).1.labels.length cl9, .slice ak9 (backP dg).1.kids.length ck9] 25)) := (Below.refl _ _).alloc (Nat.le_refl _) _
        have QA := hideK (Q9.out.keep hbA)
        have cD := C9.out d9 (backP dg).1 al9 cl9 ak9 ck9 _ QA.out.bl hd1 ((hd2.keep hbA).mono hbA.size) ((hd3.keep hbA).mono hbA.size) HK.out.1
        simp only [tyVal] at cD ⊢
        generalize (backP dg).1 = bd at *
        obtain ⟨x0, x1, x2, x3, x4⟩ := QA.out.x
        obtain ⟨y0, y1, y2, y3, y4⟩ := QA.out.y
        simp only [Nat.zero_add] at x1 x2 x3 x4 y1 y2 y3 y4
        clear hbA hd1 hd2 hd3 hq
        go_wp2_with fail
        refine cD.mono ?_
        rintro e wB ⟨⟨b, rfl, hb⟩, hbB⟩
        have QB := hideK (QA.out.keep hbB)
        obtain rfl : b = true := hb.2 HK.out.2
        clear hbB hb cD
        clear x0 x1 x2 x3 x4 y0 y1 y2 y3 y4
        go_wp2_with fail
        go_ret
        exact ⟨rfl, QB.out.bl⟩
  · have hz2 : chkTy s ≠ 0 ∨ chkTy t ≠ 0 := by
      by_cases q : chkTy s = 0
      · exact .inr fun e => hz ⟨q, e⟩
      · exact .inl q
    have C1 := hideK (fun (W : World) (hb : Below w.heap.size w W) => doBad hz2 (do_any ds dt s t sal scl sak sck al cl ak ck W hs1 ((hs2.keep hb).mono hb.size) ((hs3.keep hb).mono hb.size) ht1 ((ht2.keep hb).mono hb.size) ((ht3.keep hb).mono hb.size)))
    have C2 := hideK (fun (W : World) (hb : Below w.heap.size w W) => doBad hz2.symm (do_any dt ds t s al cl ak ck sal scl sak sck W ht1 ((ht2.keep hb).mono hb.size) ((ht3.keep hb).mono hb.size) hs1 ((hs2.keep hb).mono hb.size) ((hs3.keep hb).mono hb.size)))
    simp only [tyVal] at C1 C2 ⊢
    clear hs1 hs2 hs3 ht1 ht2 ht3 hz hz2
    go_enter Tryd.func6, Tryd.ntmps6
    go_wp2_with fail
    refine (CE.out _ (by simp)).mono ?_
    rintro e w1 ⟨rfl, hb1⟩
    have Q1 := hideK (Q0.out.keep hb1)
    clear x0 x1 x2 x3 x4 y0 y1 y2 y3 y4
    obtain ⟨x0, x1, x2, x3, x4⟩ := Q1.out.x
    obtain ⟨y0, y1, y2, y3, y4⟩ := Q1.out.y
    simp only [Nat.zero_add] at x1 x2 x3 x4 y1 y2 y3 y4
    clear hb1
    go_wp2_with fail
    refine (C1.out _ Q1.out.bl).mono ?_
    rintro e w2 ⟨⟨z1, hz1, rfl⟩, hb2⟩
    have Q2 := hideK (Q1.out.keep hb2)
    have hzb : (z1 != 0) = true := by simpa using hz1
    clear hz1
    clear x0 x1 x2 x3 x4 y0 y1 y2 y3 y4
    obtain ⟨x0, x1, x2, x3, x4⟩ := Q2.out.x
    obtain ⟨y0, y1, y2, y3, y4⟩ := Q2.out.y
    simp only [Nat.zero_add] at x1 x2 x3 x4 y1 y2 y3 y4
    clear hb2
    go_wp2_with fail
    refine (C2.out _ Q2.out.bl).mono ?_
    rintro e w3 ⟨⟨z2, hz2, rfl⟩, hb3⟩
    have Q3 := hideK (Q2.out.keep hb3)
    have hzc : (z2 != 0) = true := by simpa using hz2
    clear hz2
    clear x0 x1 x2 x3 x4 y0 y1 y2 y3 y4
    obtain ⟨x0, x1, x2, x3, x4⟩ := Q3.out.x
    obtain ⟨y0, y1, y2, y3, y4⟩ := Q3.out.y
    simp only [Nat.zero_add] at x1 x2 x3 x4 y1 y2 y3 y4
    clear hb3
    go_wp2_with fail
    go_ret
    exact ⟨rfl, Q3.out.bl⟩
end Go.Proofs.YtnlpnbelkkgghaaDoor
