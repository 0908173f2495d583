/-
  The law of duetkeep.BelowOrder: whatever types are handed in it answers true.
-/
import Derived.Test.YtoieacgojkgjgaaDoorIn
namespace Go.Proofs.YtoieacgojkgjgaaDoor
open Go.RowKit Go.Shelf

theorem OFG.bl_refl {s : Ty} {g : List Nd} (h : OFG s g) : BT s s := ⟨g, g, h, h, fun k => Go.Proofs.YtoieacgojkgjgaaDoor.bl_refl h.gn k h.gn.pos⟩
theorem BT_trans {s t u : Ty} (h : BT s t) (h2 : BT t u) : BT s u := by
  obtain ⟨g, h', hg, hh, hb⟩ := h
  obtain ⟨h'', f, hh2, hf, hb2⟩ := h2
  rw [hh2.uniq hh] at hb2
  exact ⟨g, f, hg, hf, fun k => bl_trans k g h' f 0 0 0 (hb k) (hb2 k)⟩
theorem BT_anti {s t : Ty} {g h : List Nd} (hg : OFG s g) (hh : OFG t h) : BT s t ∧ BT t s ↔ den s e0 = den t e0 := by
  rw [BT_iff hg hh, BT_iff hh hg]
  constructor
  · rintro ⟨h1, h2⟩
    funext k
    rw [← hg.does k, ← hh.does k]
    exact bl_anti k g h 0 0 hg.gn hh.gn hg.gn.pos hh.gn.pos (h1 k) (h2 k)
  · intro e
    have e2 := (hg.same hh).2 e
    subst e2
    exact ⟨fun k => bl_refl hg.gn k hg.gn.pos, fun k => bl_refl hg.gn k hg.gn.pos⟩
theorem cls_ex {g : List Nd} (hs : shutG g) : ∃ c, CLS g c := by
  have : ∀ n k c, patG g k c → g.length - cnt c ≤ n → ∃ c, CLS g c := by
    intro n
    induction n with
    | zero =>
      intro k c hp hn
      by_cases he : (splitG g c).1.length = cnt c
      · exact ⟨_, cls_done hs hp he⟩
      · have := cls_more hs hp he; omega
    | succ n ih =>
      intro k c hp hn
      by_cases he : (splitG g c).1.length = cnt c
      · exact ⟨_, cls_done hs hp he⟩
      · have h1 := cls_more hs hp he
        have h2 := (split_inv g c).cn
        exact ih (k + 1) (splitG g c).2 (pat_split hs hp) (by omega)
  exact this _ 0 _ (pat_zero g) (Nat.le_refl _)
theorem OFG_ex {t : Ty} (h : chkTy t = 0) : ∃ g, OFG t g := by
  have hg := lay_gn h
  obtain ⟨c, hc⟩ : ∃ c, CLS (layP t [] 0).2 c := cls_ex hg.shut
  exact ⟨_, ⟨h, c, hc, rfl⟩⟩
theorem end_chk : chkTy endT = 0 := by
  unfold chkTy
  rw [chkT_eq, if_neg (by decide)]
  have hp : partT endT = true := by unfold partT endT; simp
  rw [hp, if_neg (by decide), if_neg (by decide), if_neg (by decide)]
  rfl
theorem end_bd : TyBd endT 0 0 := ⟨by decide, fun l hl => (by cases hl), by decide, by decide, by decide, by decide⟩
/-- three types in boxes -/
structure BX3 (w : World) (s : Ty) (sal : Option Addr) (scl : Nat) (sak : Option Addr) (sck : Nat) (t : Ty) (al : Option Addr) (cl : Nat) (ak : Option Addr) (ck : Nat) (u : Ty) (ual : Option Addr) (ucl : Nat) (uak : Option Addr) (uck : Nat) (W : World) : Prop where
  x : TyAt W w.heap.size 0 s sal scl sak sck
  y : TyAt W (w.heap.size + 1) 0 t al cl ak ck
  z : TyAt W (w.heap.size + 1 + 1) 0 u ual ucl uak uck
  lt : w.heap.size + 1 + 1 < W.heap.size
  bl : Below w.heap.size w W
theorem BX3.keep {w : World} {s : Ty} {sal : Option Addr} {scl : Nat} {sak : Option Addr} {sck : Nat} {t : Ty} {al : Option Addr} {cl : Nat} {ak : Option Addr} {ck : Nat} {u : Ty} {ual : Option Addr} {ucl : Nat} {uak : Option Addr} {uck : Nat} {W W' : World} (h : BX3 w s sal scl sak sck t al cl ak ck u ual ucl uak uck W) (hb : Below W.heap.size W W') : BX3 w s sal scl sak sck t al cl ak ck u ual ucl uak uck W' :=
  ⟨h.x.keep hb (by have := h.lt; omega), h.y.keep hb (by have := h.lt; omega), h.z.keep hb h.lt, Nat.lt_of_lt_of_le h.lt hb.size, h.bl.trans (hb.mono h.bl.size)⟩
theorem BX3.new (w : World) (s : Ty) (sal : Option Addr) (scl : Nat) (sak : Option Addr) (sck : Nat) (t : Ty) (al : Option Addr) (cl : Nat) (ak : Option Addr) (ck : Nat) (u : Ty) (ual : Option Addr) (ucl : Nat) (uak : Option Addr) (uck : Nat) : BX3 w s sal scl sak sck t al cl ak ck u ual ucl uak uck (((w.alloc (.cells #[.int .i64 s.kind, .int .i64 s.so, .string s.name, .slice sal s.labels.length scl, .slice sak s.kids.length sck] 25)).alloc (.cells #[.int .i64 t.kind, .int .i64 t.so, .string t.name, .slice al t.labels.length cl, .slice ak t.kids.length ck] 25)).alloc (.cells #[.int .i64 u.kind, .int .i64 u.so, .string u.name, .slice ual u.labels.length ucl, .slice uak u.kids.length uck] 25)) :=
  ⟨⟨by go_cell, by go_cell, by go_cell, by go_cell, by go_cell⟩, ⟨by go_cell, by go_cell, by go_cell, by go_cell, by go_cell⟩, ⟨by go_cell, by go_cell, by go_cell, by go_cell, by go_cell⟩, by simp, ((((Below.refl _ _).alloc (Nat.le_refl _) _).alloc (by simp) _).alloc (by simp; omega) _)⟩
theorem isBad {s t : Ty} {w : World} (hz : chkTy s ≠ 0 ∨ chkTy t ≠ 0) {args : Array Value} (c : Calls Tryd.prog 18 args w (ISPost s t w)) : Calls Tryd.prog 18 args w fun e w' => (∃ z : Int, z ≠ 0 ∧ e = .returned (.tuple #[.bool false, .int .i64 z])) ∧ Below w.heap.size w w' := by
  refine c.mono ?_
  rintro e w' ⟨h | h | h, hb⟩
  · exact ⟨⟨_, h.1, h.2⟩, hb⟩
  · exact ⟨⟨_, h.2.1, h.2.2⟩, hb⟩
  · obtain ⟨g, h', hg, hh, _⟩ := h
    rcases hz with q | q
    · exact absurd hg.chk q
    · exact absurd hh.chk q
theorem isGood {s t : Ty} {w : World} (hs : chkTy s = 0) (ht : chkTy t = 0) {args : Array Value} (c : Calls Tryd.prog 18 args w (ISPost s t w)) : Calls Tryd.prog 18 args w fun e w' => (∃ b : Bool, e = .returned (.tuple #[.bool b, .int .i64 0]) ∧ (b = true ↔ BT s t)) ∧ Below w.heap.size w w' := by
  refine c.mono ?_
  rintro e w' ⟨h | h | h, hb⟩
  · exact absurd hs h.1
  · exact absurd ht h.2.1
  · obtain ⟨_, _, _, _, b, e, hq⟩ := h
    exact ⟨⟨b, e, hq⟩, hb⟩
theorem isSome {s t : Ty} {w : World} {args : Array Value} (c : Calls Tryd.prog 18 args w (ISPost s t w)) : Calls Tryd.prog 18 args w fun e w' => (∃ (b : Bool) (z : Int), e = .returned (.tuple #[.bool b, .int .i64 z])) ∧ Below w.heap.size w w' := by
  refine c.mono ?_
  rintro e w' ⟨h | h | h, hb⟩
  · exact ⟨⟨_, _, h.2⟩, hb⟩
  · exact ⟨⟨_, _, h.2.2⟩, hb⟩
  · obtain ⟨_, _, _, _, b, e, _⟩ := h
    exact ⟨⟨_, _, e⟩, hb⟩
theorem smSome {s t : Ty} {w : World} {args : Array Value} (c : Calls Tryd.prog 11 args w (SMPost s t w)) : Calls Tryd.prog 11 args w fun e w' => (∃ (b : Bool) (z : Int), e = .returned (.tuple #[.bool b, .int .i64 z])) ∧ Below w.heap.size w w' := by
  refine c.mono ?_
  rintro e w' ⟨h | h | h, hb⟩
  · exact ⟨⟨_, _, h.2⟩, hb⟩
  · exact ⟨⟨_, _, h.2.2⟩, hb⟩
  · obtain ⟨_, _, b, e, _⟩ := h
    exact ⟨⟨_, _, e⟩, hb⟩
theorem smGood {s t : Ty} {w : World} (hs : chkTy s = 0) (ht : chkTy t = 0) {args : Array Value} (c : Calls Tryd.prog 11 args w (SMPost s t w)) : Calls Tryd.prog 11 args w fun e w' => (∃ b : Bool, e = .returned (.tuple #[.bool b, .int .i64 0]) ∧ (b = true ↔ den s e0 = den t e0)) ∧ Below w.heap.size w w' := by
  refine c.mono ?_
  rintro e w' ⟨h | h | h, hb⟩
  · exact absurd hs h.1
  · exact absurd ht h.2.1
  · obtain ⟨_, _, b, e, hq⟩ := h
    exact ⟨⟨b, e, hq⟩, hb⟩
/-- End is below End -/
theorem isEnd (w : World) : Calls Tryd.prog 18 #[.agg #[.int .i64 1, .int .i64 0, .string ⟨#[]⟩, .slice none 0 0, .slice none 0 0], .agg #[.int .i64 1, .int .i64 0, .string ⟨#[]⟩, .slice none 0 0, .slice none 0 0]] w fun e w' => e = .returned (.tuple #[.bool true, .int .i64 0]) ∧ Below w.heap.size w w' := by
  have c := isGood end_chk end_chk (is_any 0 0 endT endT none 0 none 0 none 0 none 0 w end_bd (.inl rfl) rfl end_bd (.inl rfl) rfl)
  refine c.mono ?_
  rintro e w' ⟨⟨b, rfl, hq⟩, hb⟩
  obtain ⟨g, hg⟩ := OFG_ex end_chk
  obtain rfl : b = true := hq.2 hg.bl_refl
  exact ⟨rfl, hb⟩
set_option maxRecDepth 100000 in
set_option maxHeartbeats 16000000 in
theorem belowOrder_law (ds dt du : Nat) (s t u : Ty) (sal : Option Addr) (scl : Nat) (sak : Option Addr) (sck : Nat) (al : Option Addr) (cl : Nat) (ak : Option Addr) (ck : Nat) (ual : Option Addr) (ucl : Nat) (uak : Option Addr) (uck : Nat) (w : World) (hs1 : TyBd s scl sck) (hs2 : LA w w.heap.size s.labels sal) (hs3 : KT w w.heap.size ds s.kids sak) (ht1 : TyBd t cl ck) (ht2 : LA w w.heap.size t.labels al) (ht3 : KT w w.heap.size dt t.kids ak) (hu1 : TyBd u ucl uck) (hu2 : LA w w.heap.size u.labels ual) (hu3 : KT w w.heap.size du u.kids uak) :
    Calls Tryd.prog 7 #[tyVal s sal scl sak sck, tyVal t al cl ak ck, tyVal u ual ucl uak uck] w fun e w' => e = .returned (.bool true) ∧ Below w.heap.size w w' := by
  have Q0 := hideK (BX3.new w s sal scl sak sck t al cl ak ck u ual ucl uak uck)
  obtain ⟨x0, x1, x2, x3, x4⟩ := Q0.out.x
  obtain ⟨y0, y1, y2, y3, y4⟩ := Q0.out.y
  obtain ⟨z0, z1, z2, z3, z4⟩ := Q0.out.z
  simp only [Nat.zero_add] at x1 x2 x3 x4 y1 y2 y3 y4 z1 z2 z3 z4
  have CE := hideK (fun (W : World) (_ : Below w.heap.size w W) => isEnd W)
  by_cases hz : chkTy s = 0 ∧ chkTy t = 0
  · obtain ⟨hzs, hzt⟩ := hz
    have C1 := hideK (fun (W : World) (hb : Below w.heap.size w W) => isGood hzs hzt (is_any ds dt s t sal scl sak sck al cl ak ck W hs1 ((hs2.keep hb).mono hb.size) ((hs3.keep hb).mono hb.size) ht1 ((ht2.keep hb).mono hb.size) ((ht3.keep hb).mono hb.size)))
    have C2 := hideK (fun (W : World) (hb : Below w.heap.size w W) => isGood hzt hzs (is_any dt ds t s al cl ak ck sal scl sak sck W ht1 ((ht2.keep hb).mono hb.size) ((ht3.keep hb).mono hb.size) hs1 ((hs2.keep hb).mono hb.size) ((hs3.keep hb).mono hb.size)))
    have CM := hideK (fun (W : World) (hb : Below w.heap.size w W) => smGood hzs hzt (same_any ds dt s t sal scl sak sck al cl ak ck W hs1 ((hs2.keep hb).mono hb.size) ((hs3.keep hb).mono hb.size) ht1 ((ht2.keep hb).mono hb.size) ((ht3.keep hb).mono hb.size)))
    have C3 := hideK (fun (W : World) (hb : Below w.heap.size w W) => isGood hzs hzs (is_any ds ds s s sal scl sak sck sal scl sak sck W hs1 ((hs2.keep hb).mono hb.size) ((hs3.keep hb).mono hb.size) hs1 ((hs2.keep hb).mono hb.size) ((hs3.keep hb).mono hb.size)))
    have C4G := hideK (fun (hzu : chkTy u = 0) (W : World) (hb : Below w.heap.size w W) => isGood hzt hzu (is_any dt du t u al cl ak ck ual ucl uak uck W ht1 ((ht2.keep hb).mono hb.size) ((ht3.keep hb).mono hb.size) hu1 ((hu2.keep hb).mono hb.size) ((hu3.keep hb).mono hb.size)))
    have C4B := hideK (fun (hzu : chkTy u ≠ 0) (W : World) (hb : Below w.heap.size w W) => isBad (.inr hzu) (is_any dt du t u al cl ak ck ual ucl uak uck W ht1 ((ht2.keep hb).mono hb.size) ((ht3.keep hb).mono hb.size) hu1 ((hu2.keep hb).mono hb.size) ((hu3.keep hb).mono hb.size)))
    have C5G := hideK (fun (hzu : chkTy u = 0) (W : World) (hb : Below w.heap.size w W) => isGood hzs hzu (is_any ds du s u sal scl sak sck ual ucl uak uck W hs1 ((hs2.keep hb).mono hb.size) ((hs3.keep hb).mono hb.size) hu1 ((hu2.keep hb).mono hb.size) ((hu3.keep hb).mono hb.size)))
    have C5A := hideK (fun (W : World) (hb : Below w.heap.size w W) => isSome (is_any ds du s u sal scl sak sck ual ucl uak uck W hs1 ((hs2.keep hb).mono hb.size) ((hs3.keep hb).mono hb.size) hu1 ((hu2.keep hb).mono hb.size) ((hu3.keep hb).mono hb.size)))
    obtain ⟨g, hg⟩ := OFG_ex hzs
    obtain ⟨h, hh⟩ := OFG_ex hzt
    have HAN := hideK (BT_anti hg hh)
    have HRF := hideK hg.bl_refl
    have HTRN := hideK (fun (p : BT s t) (q : BT t u) => BT_trans p q)
    simp only [tyVal] at C1 C2 CM C3 C4G C4B C5G C5A ⊢
    clear hs1 hs2 hs3 ht1 ht2 ht3 hu1 hu2 hu3 hzs hzt hg hh
    go_enter Tryd.func7, Tryd.ntmps7
    go_wp2_with fail
    refine (CE.out _ Q0.out.bl).mono ?_
    rintro e w1 ⟨rfl, hb1⟩
    have Q1 := hideK (Q0.out.keep hb1)
    clear x0 x1 x2 x3 x4 y0 y1 y2 y3 y4 z0 z1 z2 z3 z4
    obtain ⟨x0, x1, x2, x3, x4⟩ := Q1.out.x
    obtain ⟨y0, y1, y2, y3, y4⟩ := Q1.out.y
    obtain ⟨z0, z1, z2, z3, z4⟩ := Q1.out.z
    simp only [Nat.zero_add] at x1 x2 x3 x4 y1 y2 y3 y4 z1 z2 z3 z4
    clear hb1
    go_wp2_with fail
    refine (C1.out _ Q1.out.bl).mono ?_
    rintro e w2 ⟨⟨ba, rfl, hba⟩, hb2⟩
    have Q2 := hideK (Q1.out.keep hb2)
    clear x0 x1 x2 x3 x4 y0 y1 y2 y3 y4 z0 z1 z2 z3 z4
    obtain ⟨x0, x1, x2, x3, x4⟩ := Q2.out.x
    obtain ⟨y0, y1, y2, y3, y4⟩ := Q2.out.y
    obtain ⟨z0, z1, z2, z3, z4⟩ := Q2.out.z
    simp only [Nat.zero_add] at x1 x2 x3 x4 y1 y2 y3 y4 z1 z2 z3 z4
    clear hb2
    have HBA := hideK hba
    clear hba
    go_wp2_with fail
    refine (C2.out _ Q2.out.bl).mono ?_
    rintro e w3 ⟨⟨bb, rfl, hbb⟩, hb3⟩
    have Q3 := hideK (Q2.out.keep hb3)
    clear x0 x1 x2 x3 x4 y0 y1 y2 y3 y4 z0 z1 z2 z3 z4
    obtain ⟨x0, x1, x2, x3, x4⟩ := Q3.out.x
    obtain ⟨y0, y1, y2, y3, y4⟩ := Q3.out.y
    obtain ⟨z0, z1, z2, z3, z4⟩ := Q3.out.z
    simp only [Nat.zero_add] at x1 x2 x3 x4 y1 y2 y3 y4 z1 z2 z3 z4
    clear hb3
    have HBB := hideK hbb
    clear hbb
    go_wp2_with fail
    refine (CM.out _ Q3.out.bl).mono ?_
    rintro e w4 ⟨⟨bc, rfl, hbc⟩, hb4⟩
    have Q4 := hideK (Q3.out.keep hb4)
    clear x0 x1 x2 x3 x4 y0 y1 y2 y3 y4 z0 z1 z2 z3 z4
    obtain ⟨x0, x1, x2, x3, x4⟩ := Q4.out.x
    obtain ⟨y0, y1, y2, y3, y4⟩ := Q4.out.y
    obtain ⟨z0, z1, z2, z3, z4⟩ := Q4.out.z
    simp only [Nat.zero_add] at x1 x2 x3 x4 y1 y2 y3 y4 z1 z2 z3 z4
    clear hb4
    obtain rfl : bc = (ba && bb) := by
      rw [Bool.eq_iff_iff, hbc, Bool.and_eq_true, HBA.out, HBB.out]; exact HAN.out.symm
    clear hbc
    cases ba with
    | false =>
      cases bb with
      | false =>
        skip
        go_wp2_with fail
        refine (C3.out _ Q4.out.bl).mono ?_
        rintro e w5 ⟨⟨bs, rfl, hbs⟩, hb5⟩
        have Q5 := hideK (Q4.out.keep hb5)
        clear x0 x1 x2 x3 x4 y0 y1 y2 y3 y4 z0 z1 z2 z3 z4
        obtain ⟨x0, x1, x2, x3, x4⟩ := Q5.out.x
        obtain ⟨y0, y1, y2, y3, y4⟩ := Q5.out.y
        obtain ⟨z0, z1, z2, z3, z4⟩ := Q5.out.z
        simp only [Nat.zero_add] at x1 x2 x3 x4 y1 y2 y3 y4 z1 z2 z3 z4
        clear hb5
        obtain rfl : bs = true := hbs.2 HRF.out
        clear hbs
        by_cases hzu : chkTy u = 0
        · have C4 := hideK (C4G.out hzu)
          have C5 := hideK (C5G.out hzu)
          go_wp2_with fail
          refine (C4.out _ Q5.out.bl).mono ?_
          rintro e w6 ⟨⟨bx, rfl, hbx⟩, hb6⟩
          have Q6 := hideK (Q5.out.keep hb6)
          clear x0 x1 x2 x3 x4 y0 y1 y2 y3 y4 z0 z1 z2 z3 z4
          obtain ⟨x0, x1, x2, x3, x4⟩ := Q6.out.x
          obtain ⟨y0, y1, y2, y3, y4⟩ := Q6.out.y
          obtain ⟨z0, z1, z2, z3, z4⟩ := Q6.out.z
          simp only [Nat.zero_add] at x1 x2 x3 x4 y1 y2 y3 y4 z1 z2 z3 z4
          clear hb6
          have HBX := hideK hbx
          clear hbx hzu
          go_wp2_with fail
          refine (C5.out _ Q6.out.bl).mono ?_
          rintro e w7 ⟨⟨byy, rfl, hby⟩, hb7⟩
          have Q7 := hideK (Q6.out.keep hb7)
          clear x0 x1 x2 x3 x4 y0 y1 y2 y3 y4 z0 z1 z2 z3 z4
          obtain ⟨x0, x1, x2, x3, x4⟩ := Q7.out.x
          obtain ⟨y0, y1, y2, y3, y4⟩ := Q7.out.y
          obtain ⟨z0, z1, z2, z3, z4⟩ := Q7.out.z
          simp only [Nat.zero_add] at x1 x2 x3 x4 y1 y2 y3 y4 z1 z2 z3 z4
          clear hb7
          have HBY := hideK hby
          clear hby
          have HTR := hideK (show True from trivial)
          go_wp2_with fail
          go_ret
          exact ⟨rfl, Q7.out.bl⟩
        · have C4 := hideK (C4B.out hzu)
          go_wp2_with fail
          refine (C4.out _ Q5.out.bl).mono ?_
          rintro e w6 ⟨⟨z4e, hz4, rfl⟩, hb6⟩
          have Q6 := hideK (Q5.out.keep hb6)
          clear x0 x1 x2 x3 x4 y0 y1 y2 y3 y4 z0 z1 z2 z3 z4
          obtain ⟨x0, x1, x2, x3, x4⟩ := Q6.out.x
          obtain ⟨y0, y1, y2, y3, y4⟩ := Q6.out.y
          obtain ⟨z0, z1, z2, z3, z4⟩ := Q6.out.z
          simp only [Nat.zero_add] at x1 x2 x3 x4 y1 y2 y3 y4 z1 z2 z3 z4
          clear hb6
          have hzb4 : (z4e != 0) = true := by simpa using hz4
          clear hz4 hzu
          go_wp2_with fail
          refine (C5A.out _ Q6.out.bl).mono ?_
          rintro e w7 ⟨⟨byy, z5e, rfl⟩, hb7⟩
          have Q7 := hideK (Q6.out.keep hb7)
          clear x0 x1 x2 x3 x4 y0 y1 y2 y3 y4 z0 z1 z2 z3 z4
          obtain ⟨x0, x1, x2, x3, x4⟩ := Q7.out.x
          obtain ⟨y0, y1, y2, y3, y4⟩ := Q7.out.y
          obtain ⟨z0, z1, z2, z3, z4⟩ := Q7.out.z
          simp only [Nat.zero_add] at x1 x2 x3 x4 y1 y2 y3 y4 z1 z2 z3 z4
          clear hb7
          go_wp2_with fail
          go_ret
          exact ⟨rfl, Q7.out.bl⟩
      | true =>
        skip
        go_wp2_with fail
        refine (C3.out _ Q4.out.bl).mono ?_
        rintro e w5 ⟨⟨bs, rfl, hbs⟩, hb5⟩
        have Q5 := hideK (Q4.out.keep hb5)
        clear x0 x1 x2 x3 x4 y0 y1 y2 y3 y4 z0 z1 z2 z3 z4
        obtain ⟨x0, x1, x2, x3, x4⟩ := Q5.out.x
        obtain ⟨y0, y1, y2, y3, y4⟩ := Q5.out.y
        obtain ⟨z0, z1, z2, z3, z4⟩ := Q5.out.z
        simp only [Nat.zero_add] at x1 x2 x3 x4 y1 y2 y3 y4 z1 z2 z3 z4
        clear hb5
        obtain rfl : bs = true := hbs.2 HRF.out
        clear hbs
        by_cases hzu : chkTy u = 0
        · have C4 := hideK (C4G.out hzu)
          have C5 := hideK (C5G.out hzu)
          go_wp2_with fail
          refine (C4.out _ Q5.out.bl).mono ?_
          rintro e w6 ⟨⟨bx, rfl, hbx⟩, hb6⟩
          have Q6 := hideK (Q5.out.keep hb6)
          clear x0 x1 x2 x3 x4 y0 y1 y2 y3 y4 z0 z1 z2 z3 z4
          obtain ⟨x0, x1, x2, x3, x4⟩ := Q6.out.x
          obtain ⟨y0, y1, y2, y3, y4⟩ := Q6.out.y
          obtain ⟨z0, z1, z2, z3, z4⟩ := Q6.out.z
          simp only [Nat.zero_add] at x1 x2 x3 x4 y1 y2 y3 y4 z1 z2 z3 z4
          clear hb6
          have HBX := hideK hbx
          clear hbx hzu
          go_wp2_with fail
          refine (C5.out _ Q6.out.bl).mono ?_
          rintro e w7 ⟨⟨byy, rfl, hby⟩, hb7⟩
          have Q7 := hideK (Q6.out.keep hb7)
          clear x0 x1 x2 x3 x4 y0 y1 y2 y3 y4 z0 z1 z2 z3 z4
          obtain ⟨x0, x1, x2, x3, x4⟩ := Q7.out.x
          obtain ⟨y0, y1, y2, y3, y4⟩ := Q7.out.y
          obtain ⟨z0, z1, z2, z3, z4⟩ := Q7.out.z
          simp only [Nat.zero_add] at x1 x2 x3 x4 y1 y2 y3 y4 z1 z2 z3 z4
          clear hb7
          have HBY := hideK hby
          clear hby
          have HTR := hideK (show True from trivial)
          go_wp2_with fail
          go_ret
          exact ⟨rfl, Q7.out.bl⟩
        · have C4 := hideK (C4B.out hzu)
          go_wp2_with fail
          refine (C4.out _ Q5.out.bl).mono ?_
          rintro e w6 ⟨⟨z4e, hz4, rfl⟩, hb6⟩
          have Q6 := hideK (Q5.out.keep hb6)
          clear x0 x1 x2 x3 x4 y0 y1 y2 y3 y4 z0 z1 z2 z3 z4
          obtain ⟨x0, x1, x2, x3, x4⟩ := Q6.out.x
          obtain ⟨y0, y1, y2, y3, y4⟩ := Q6.out.y
          obtain ⟨z0, z1, z2, z3, z4⟩ := Q6.out.z
          simp only [Nat.zero_add] at x1 x2 x3 x4 y1 y2 y3 y4 z1 z2 z3 z4
          clear hb6
          have hzb4 : (z4e != 0) = true := by simpa using hz4
          clear hz4 hzu
          go_wp2_with fail
          refine (C5A.out _ Q6.out.bl).mono ?_
          rintro e w7 ⟨⟨byy, z5e, rfl⟩, hb7⟩
          have Q7 := hideK (Q6.out.keep hb7)
          clear x0 x1 x2 x3 x4 y0 y1 y2 y3 y4 z0 z1 z2 z3 z4
          obtain ⟨x0, x1, x2, x3, x4⟩ := Q7.out.x
          obtain ⟨y0, y1, y2, y3, y4⟩ := Q7.out.y
          obtain ⟨z0, z1, z2, z3, z4⟩ := Q7.out.z
          simp only [Nat.zero_add] at x1 x2 x3 x4 y1 y2 y3 y4 z1 z2 z3 z4
          clear hb7
          go_wp2_with fail
          go_ret
          exact ⟨rfl, Q7.out.bl⟩
    | true =>
      cases bb with
      | false =>
        skip
        go_wp2_with fail
        refine (C3.out _ Q4.out.bl).mono ?_
        rintro e w5 ⟨⟨bs, rfl, hbs⟩, hb5⟩
        have Q5 := hideK (Q4.out.keep hb5)
        clear x0 x1 x2 x3 x4 y0 y1 y2 y3 y4 z0 z1 z2 z3 z4
        obtain ⟨x0, x1, x2, x3, x4⟩ := Q5.out.x
        obtain ⟨y0, y1, y2, y3, y4⟩ := Q5.out.y
        obtain ⟨z0, z1, z2, z3, z4⟩ := Q5.out.z
        simp only [Nat.zero_add] at x1 x2 x3 x4 y1 y2 y3 y4 z1 z2 z3 z4
        clear hb5
        obtain rfl : bs = true := hbs.2 HRF.out
        clear hbs
        by_cases hzu : chkTy u = 0
        · have C4 := hideK (C4G.out hzu)
          have C5 := hideK (C5G.out hzu)
          go_wp2_with fail
          refine (C4.out _ Q5.out.bl).mono ?_
          rintro e w6 ⟨⟨bx, rfl, hbx⟩, hb6⟩
          have Q6 := hideK (Q5.out.keep hb6)
          clear x0 x1 x2 x3 x4 y0 y1 y2 y3 y4 z0 z1 z2 z3 z4
          obtain ⟨x0, x1, x2, x3, x4⟩ := Q6.out.x
          obtain ⟨y0, y1, y2, y3, y4⟩ := Q6.out.y
          obtain ⟨z0, z1, z2, z3, z4⟩ := Q6.out.z
          simp only [Nat.zero_add] at x1 x2 x3 x4 y1 y2 y3 y4 z1 z2 z3 z4
          clear hb6
          have HBX := hideK hbx
          clear hbx hzu
          go_wp2_with fail
          refine (C5.out _ Q6.out.bl).mono ?_
          rintro e w7 ⟨⟨byy, rfl, hby⟩, hb7⟩
          have Q7 := hideK (Q6.out.keep hb7)
          clear x0 x1 x2 x3 x4 y0 y1 y2 y3 y4 z0 z1 z2 z3 z4
          obtain ⟨x0, x1, x2, x3, x4⟩ := Q7.out.x
          obtain ⟨y0, y1, y2, y3, y4⟩ := Q7.out.y
          obtain ⟨z0, z1, z2, z3, z4⟩ := Q7.out.z
          simp only [Nat.zero_add] at x1 x2 x3 x4 y1 y2 y3 y4 z1 z2 z3 z4
          clear hb7
          have HBY := hideK hby
          clear hby
          have HTR := hideK (show bx = true → byy = true from fun q => HBY.out.2 (HTRN.out (HBA.out.1 (by trivial)) (HBX.out.1 q)))
          cases bx with
          | true =>
            obtain rfl : byy = true := HTR.out rfl
            go_wp2_with fail
            go_ret
            exact ⟨rfl, Q7.out.bl⟩
          | false =>
            go_wp2_with fail
            go_ret
            exact ⟨rfl, Q7.out.bl⟩
        · have C4 := hideK (C4B.out hzu)
          go_wp2_with fail
          refine (C4.out _ Q5.out.bl).mono ?_
          rintro e w6 ⟨⟨z4e, hz4, rfl⟩, hb6⟩
          have Q6 := hideK (Q5.out.keep hb6)
          clear x0 x1 x2 x3 x4 y0 y1 y2 y3 y4 z0 z1 z2 z3 z4
          obtain ⟨x0, x1, x2, x3, x4⟩ := Q6.out.x
          obtain ⟨y0, y1, y2, y3, y4⟩ := Q6.out.y
          obtain ⟨z0, z1, z2, z3, z4⟩ := Q6.out.z
          simp only [Nat.zero_add] at x1 x2 x3 x4 y1 y2 y3 y4 z1 z2 z3 z4
          clear hb6
          have hzb4 : (z4e != 0) = true := by simpa using hz4
          clear hz4 hzu
          go_wp2_with fail
          refine (C5A.out _ Q6.out.bl).mono ?_
          rintro e w7 ⟨⟨byy, z5e, rfl⟩, hb7⟩
          have Q7 := hideK (Q6.out.keep hb7)
          clear x0 x1 x2 x3 x4 y0 y1 y2 y3 y4 z0 z1 z2 z3 z4
          obtain ⟨x0, x1, x2, x3, x4⟩ := Q7.out.x
          obtain ⟨y0, y1, y2, y3, y4⟩ := Q7.out.y
          obtain ⟨z0, z1, z2, z3, z4⟩ := Q7.out.z
          simp only [Nat.zero_add] at x1 x2 x3 x4 y1 y2 y3 y4 z1 z2 z3 z4
          clear hb7
          go_wp2_with fail
          go_ret
          exact ⟨rfl, Q7.out.bl⟩
      | true =>
        skip
        go_wp2_with fail
        refine (C3.out _ Q4.out.bl).mono ?_
        rintro e w5 ⟨⟨bs, rfl, hbs⟩, hb5⟩
        have Q5 := hideK (Q4.out.keep hb5)
        clear x0 x1 x2 x3 x4 y0 y1 y2 y3 y4 z0 z1 z2 z3 z4
        obtain ⟨x0, x1, x2, x3, x4⟩ := Q5.out.x
        obtain ⟨y0, y1, y2, y3, y4⟩ := Q5.out.y
        obtain ⟨z0, z1, z2, z3, z4⟩ := Q5.out.z
        simp only [Nat.zero_add] at x1 x2 x3 x4 y1 y2 y3 y4 z1 z2 z3 z4
        clear hb5
        obtain rfl : bs = true := hbs.2 HRF.out
        clear hbs
        by_cases hzu : chkTy u = 0
        · have C4 := hideK (C4G.out hzu)
          have C5 := hideK (C5G.out hzu)
          go_wp2_with fail
          refine (C4.out _ Q5.out.bl).mono ?_
          rintro e w6 ⟨⟨bx, rfl, hbx⟩, hb6⟩
          have Q6 := hideK (Q5.out.keep hb6)
          clear x0 x1 x2 x3 x4 y0 y1 y2 y3 y4 z0 z1 z2 z3 z4
          obtain ⟨x0, x1, x2, x3, x4⟩ := Q6.out.x
          obtain ⟨y0, y1, y2, y3, y4⟩ := Q6.out.y
          obtain ⟨z0, z1, z2, z3, z4⟩ := Q6.out.z
          simp only [Nat.zero_add] at x1 x2 x3 x4 y1 y2 y3 y4 z1 z2 z3 z4
          clear hb6
          have HBX := hideK hbx
          clear hbx hzu
          go_wp2_with fail
          refine (C5.out _ Q6.out.bl).mono ?_
          rintro e w7 ⟨⟨byy, rfl, hby⟩, hb7⟩
          have Q7 := hideK (Q6.out.keep hb7)
          clear x0 x1 x2 x3 x4 y0 y1 y2 y3 y4 z0 z1 z2 z3 z4
          obtain ⟨x0, x1, x2, x3, x4⟩ := Q7.out.x
          obtain ⟨y0, y1, y2, y3, y4⟩ := Q7.out.y
          obtain ⟨z0, z1, z2, z3, z4⟩ := Q7.out.z
          simp only [Nat.zero_add] at x1 x2 x3 x4 y1 y2 y3 y4 z1 z2 z3 z4
          clear hb7
          have HBY := hideK hby
          clear hby
          have HTR := hideK (show bx = true → byy = true from fun q => HBY.out.2 (HTRN.out (HBA.out.1 (by trivial)) (HBX.out.1 q)))
          cases bx with
          | true =>
            obtain rfl : byy = true := HTR.out rfl
            go_wp2_with fail
            go_ret
            exact ⟨rfl, Q7.out.bl⟩
          | false =>
            go_wp2_with fail
            go_ret
            exact ⟨rfl, Q7.out.bl⟩
        · have C4 := hideK (C4B.out hzu)
          go_wp2_with fail
          refine (C4.out _ Q5.out.bl).mono ?_
          rintro e w6 ⟨⟨z4e, hz4, rfl⟩, hb6⟩
          have Q6 := hideK (Q5.out.keep hb6)
          clear x0 x1 x2 x3 x4 y0 y1 y2 y3 y4 z0 z1 z2 z3 z4
          obtain ⟨x0, x1, x2, x3, x4⟩ := Q6.out.x
          obtain ⟨y0, y1, y2, y3, y4⟩ := Q6.out.y
          obtain ⟨z0, z1, z2, z3, z4⟩ := Q6.out.z
          simp only [Nat.zero_add] at x1 x2 x3 x4 y1 y2 y3 y4 z1 z2 z3 z4
          clear hb6
          have hzb4 : (z4e != 0) = true := by simpa using hz4
          clear hz4 hzu
          go_wp2_with fail
          refine (C5A.out _ Q6.out.bl).mono ?_
          rintro e w7 ⟨⟨byy, z5e, rfl⟩, hb7⟩
          have Q7 := hideK (Q6.out.keep hb7)
          clear x0 x1 x2 x3 x4 y0 y1 y2 y3 y4 z0 z1 z2 z3 z4
          obtain ⟨x0, x1, x2, x3, x4⟩ := Q7.out.x
          obtain ⟨y0, y1, y2, y3, y4⟩ := Q7.out.y
          obtain ⟨z0, z1, z2, z3, z4⟩ := Q7.out.z
          simp only [Nat.zero_add] at x1 x2 x3 x4 y1 y2 y3 y4 z1 z2 z3 z4
          clear hb7
          go_wp2_with fail
          go_ret
          exact ⟨rfl, Q7.out.bl⟩
  · have hz2 : chkTy s ≠ 0 ∨ chkTy t ≠ 0 := by
      by_cases q : chkTy s = 0
      · exact .inr fun e => hz ⟨q, e⟩
      · exact .inl q
    have C1 := hideK (fun (W : World) (hb : Below w.heap.size w W) => isBad hz2 (is_any ds dt s t sal scl sak sck al cl ak ck W hs1 ((hs2.keep hb).mono hb.size) ((hs3.keep hb).mono hb.size) ht1 ((ht2.keep hb).mono hb.size) ((ht3.keep hb).mono hb.size)))
    have C2 := hideK (fun (W : World) (hb : Below w.heap.size w W) => isBad hz2.symm (is_any dt ds t s al cl ak ck sal scl sak sck W ht1 ((ht2.keep hb).mono hb.size) ((ht3.keep hb).mono hb.size) hs1 ((hs2.keep hb).mono hb.size) ((hs3.keep hb).mono hb.size)))
    have CM := hideK (fun (W : World) (hb : Below w.heap.size w W) => smSome (same_any ds dt s t sal scl sak sck al cl ak ck W hs1 ((hs2.keep hb).mono hb.size) ((hs3.keep hb).mono hb.size) ht1 ((ht2.keep hb).mono hb.size) ((ht3.keep hb).mono hb.size)))
    simp only [tyVal] at C1 C2 CM ⊢
    clear hs1 hs2 hs3 ht1 ht2 ht3 hu1 hu2 hu3 hz hz2
    go_enter Tryd.func7, Tryd.ntmps7
    go_wp2_with fail
    refine (CE.out _ Q0.out.bl).mono ?_
    rintro e w1 ⟨rfl, hb1⟩
    have Q1 := hideK (Q0.out.keep hb1)
    clear x0 x1 x2 x3 x4 y0 y1 y2 y3 y4 z0 z1 z2 z3 z4
    obtain ⟨x0, x1, x2, x3, x4⟩ := Q1.out.x
    obtain ⟨y0, y1, y2, y3, y4⟩ := Q1.out.y
    obtain ⟨z0, z1, z2, z3, z4⟩ := Q1.out.z
    simp only [Nat.zero_add] at x1 x2 x3 x4 y1 y2 y3 y4 z1 z2 z3 z4
    clear hb1
    go_wp2_with fail
    refine (C1.out _ Q1.out.bl).mono ?_
    rintro e w2 ⟨⟨z1e, hz1, rfl⟩, hb2⟩
    have Q2 := hideK (Q1.out.keep hb2)
    clear x0 x1 x2 x3 x4 y0 y1 y2 y3 y4 z0 z1 z2 z3 z4
    obtain ⟨x0, x1, x2, x3, x4⟩ := Q2.out.x
    obtain ⟨y0, y1, y2, y3, y4⟩ := Q2.out.y
    obtain ⟨z0, z1, z2, z3, z4⟩ := Q2.out.z
    simp only [Nat.zero_add] at x1 x2 x3 x4 y1 y2 y3 y4 z1 z2 z3 z4
    clear hb2
    have hzb1 : (z1e != 0) = true := by simpa using hz1
    clear hz1
    go_wp2_with fail
    refine (C2.out _ Q2.out.bl).mono ?_
    rintro e w3 ⟨⟨z2e, hz2, rfl⟩, hb3⟩
    have Q3 := hideK (Q2.out.keep hb3)
    clear x0 x1 x2 x3 x4 y0 y1 y2 y3 y4 z0 z1 z2 z3 z4
    obtain ⟨x0, x1, x2, x3, x4⟩ := Q3.out.x
    obtain ⟨y0, y1, y2, y3, y4⟩ := Q3.out.y
    obtain ⟨z0, z1, z2, z3, z4⟩ := Q3.out.z
    simp only [Nat.zero_add] at x1 x2 x3 x4 y1 y2 y3 y4 z1 z2 z3 z4
    clear hb3
    clear hz2
    go_wp2_with fail
    refine (CM.out _ Q3.out.bl).mono ?_
    rintro e w4 ⟨⟨cm, z3e, rfl⟩, hb4⟩
    have Q4 := hideK (Q3.out.keep hb4)
    clear x0 x1 x2 x3 x4 y0 y1 y2 y3 y4 z0 z1 z2 z3 z4
    obtain ⟨x0, x1, x2, x3, x4⟩ := Q4.out.x
    obtain ⟨y0, y1, y2, y3, y4⟩ := Q4.out.y
    obtain ⟨z0, z1, z2, z3, z4⟩ := Q4.out.z
    simp only [Nat.zero_add] at x1 x2 x3 x4 y1 y2 y3 y4 z1 z2 z3 z4
    clear hb4
    go_wp2_with fail
    go_ret
    exact ⟨rfl, Q4.out.bl⟩
end Go.Proofs.YtoieacgojkgjgaaDoor
