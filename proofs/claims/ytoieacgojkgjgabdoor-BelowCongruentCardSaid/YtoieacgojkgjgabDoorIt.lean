/-
  The law of duetkeep.BelowWhy: whatever types are handed in it answers true.
-/
import Derived.Test.YtoieacgojkgjgabDoorIr
namespace Go.Proofs.YtoieacgojkgjgabDoor
open Go.RowKit Go.Shelf

/-- two types in boxes -/
structure BX2 (w : World) (s : Ty) (sal : Option Addr) (scl : Nat) (sak : Option Addr) (sck : Nat) (t : Ty) (al : Option Addr) (cl : Nat) (ak : Option Addr) (ck : Nat) (W : World) : Prop where
  x : TyAt W w.heap.size 0 s sal scl sak sck
  y : TyAt W (w.heap.size + 1) 0 t al cl ak ck
  lt : w.heap.size + 1 < W.heap.size
  bl : Below w.heap.size w W
theorem BX2.keep {w : World} {s : Ty} {sal : Option Addr} {scl : Nat} {sak : Option Addr} {sck : Nat} {t : Ty} {al : Option Addr} {cl : Nat} {ak : Option Addr} {ck : Nat} {W W' : World} (h : BX2 w s sal scl sak sck t al cl ak ck W) (hb : Below W.heap.size W W') : BX2 w s sal scl sak sck t al cl ak ck W' :=
  ⟨h.x.keep hb (by have := h.lt; omega), h.y.keep hb h.lt, Nat.lt_of_lt_of_le h.lt hb.size, h.bl.trans (hb.mono h.bl.size)⟩
theorem BX2.new (w : World) (s : Ty) (sal : Option Addr) (scl : Nat) (sak : Option Addr) (sck : Nat) (t : Ty) (al : Option Addr) (cl : Nat) (ak : Option Addr) (ck : Nat) : BX2 w s sal scl sak sck t al cl ak ck ((w.alloc (.cells #[.int .i64 s.kind, .int .i64 s.so, .string s.name, .slice sal s.labels.length scl, .slice sak s.kids.length sck] 25)).alloc (.cells #[.int .i64 t.kind, .int .i64 t.so, .string t.name, .slice al t.labels.length cl, .slice ak t.kids.length ck] 25)) :=
  ⟨⟨by go_cell, by go_cell, by go_cell, by go_cell, by go_cell⟩, ⟨by go_cell, by go_cell, by go_cell, by go_cell, by go_cell⟩, by simp, (((Below.refl _ _).alloc (Nat.le_refl _) _).alloc (by simp) _)⟩
theorem sd_bd (t : Ty) : TyBd (sdT t) 0 1 := ⟨by show (0 : Nat) ≤ _; omega, fun l hl => (by cases hl), Nat.le_refl _, by omega, Nat.le_refl _, by omega⟩
/-- End in a row of its own -/
theorem kt_end {W : World} {B b : Nat} (hb : b < B) (h : TyAt W b 0 endT none 0 none 0) : KT W B 1 [endT] (some ⟨b, 0, none⟩) := .inr ⟨b, 0, rfl, hb, fun i hi => by
  obtain rfl : i = 0 := by simp at hi; omega
  exact ⟨none, 0, none, 0, h, end_bd, .inl rfl, rfl⟩⟩
theorem kt_sd {W : World} {B b b2 : Nat} (hb : b < B) (hb2 : b2 < B) (h : TyAt W b 0 (sdT endT) none 0 (some ⟨b2, 0, none⟩) 1) (h2 : TyAt W b2 0 endT none 0 none 0) : KT W B 2 [sdT endT] (some ⟨b, 0, none⟩) := .inr ⟨b, 0, rfl, hb, fun i hi => by
  obtain rfl : i = 0 := by simp at hi; omega
  exact ⟨none, 0, _, 1, h, sd_bd _, .inl rfl, kt_end hb2 h2⟩⟩
theorem whyDot (w : World) (b1 b2 b3 : Nat) (l1 : b1 < w.heap.size) (l2 : b2 < w.heap.size) (l3 : b3 < w.heap.size) (h1 : TyAt w b1 0 endT none 0 none 0) (h2 : TyAt w b2 0 endT none 0 none 0) (h3 : TyAt w b3 0 (sdT endT) none 0 (some ⟨b2, 0, none⟩) 1) :
    Calls Tryd.prog 7 #[.agg #[.int .i64 2, .int .i64 1, .string ⟨#[]⟩, .slice none 0 0, .slice (some ⟨b1, 0, none⟩) 1 1], .agg #[.int .i64 2, .int .i64 1, .string ⟨#[]⟩, .slice none 0 0, .slice (some ⟨b3, 0, none⟩) 1 1]] w fun e w' => (∃ aw cw, e = .returned (.tuple #[.slice aw 1 cw, .int .i64 0]) ∧ LA w' w'.heap.size [dotB] aw) ∧ Below w.heap.size w w' := by
  have c := why_any 1 2 (sdT endT) (sdT (sdT endT)) none 0 (some ⟨b1, 0, none⟩) 1 none 0 (some ⟨b3, 0, none⟩) 1 w (sd_bd _) (.inl rfl) (kt_end l1 h1) (sd_bd _) (.inl rfl) (kt_sd l3 l2 h3 h2)
  refine c.mono ?_
  rintro e w' ⟨hq | hq | hq, hb⟩
  · exact absurd sd_chk1 hq.1
  · exact absurd sd_chk2 hq.2.1
  · obtain ⟨g, h, hg, hh, hq⟩ := hq
    obtain ⟨arr, hs, hr, hl⟩ := why_dot hg hh
    rcases hq with ⟨a2, h1, _⟩ | ⟨k, a2, h1, aw, cw, he, hla⟩
    · rw [hs] at h1; cases h1
    · rw [hs] at h1
      simp only [Prod.mk.injEq, Option.some.injEq] at h1
      obtain ⟨rfl, rfl⟩ := h1
      rw [hr] at hla
      rw [hl] at he
      exact ⟨⟨aw, cw, he, hla⟩, hb⟩
theorem whyDotW (W : World) : Calls Tryd.prog 7 #[.agg #[.int .i64 2, .int .i64 1, .string ⟨#[]⟩, .slice none 0 0, .slice (some ⟨W.heap.size, 0, none⟩) 1 1], .agg #[.int .i64 2, .int .i64 1, .string ⟨#[]⟩, .slice none 0 0, .slice (some ⟨W.heap.size + 1 + 1, 0, none⟩) 1 1]] (((W.alloc (.cells #[.int .i64 1, .int .i64 0, .string ⟨#[]⟩, .slice none 0 0, .slice none 0 0] 25)).alloc (.cells #[.int .i64 1, .int .i64 0, .string ⟨#[]⟩, .slice none 0 0, .slice none 0 0] 25)).alloc (.cells #[.int .i64 2, .int .i64 1, .string ⟨#[]⟩, .slice none 0 0, .slice (some ⟨W.heap.size + 1, 0, none⟩) 1 1] 25)) fun e w' => (∃ aw cw, e = .returned (.tuple #[.slice aw 1 cw, .int .i64 0]) ∧ LA w' w'.heap.size [dotB] aw) ∧ Below (((W.alloc (.cells #[.int .i64 1, .int .i64 0, .string ⟨#[]⟩, .slice none 0 0, .slice none 0 0] 25)).alloc (.cells #[.int .i64 1, .int .i64 0, .string ⟨#[]⟩, .slice none 0 0, .slice none 0 0] 25)).alloc (.cells #[.int .i64 2, .int .i64 1, .string ⟨#[]⟩, .slice none 0 0, .slice (some ⟨W.heap.size + 1, 0, none⟩) 1 1] 25)).heap.size (((W.alloc (.cells #[.int .i64 1, .int .i64 0, .string ⟨#[]⟩, .slice none 0 0, .slice none 0 0] 25)).alloc (.cells #[.int .i64 1, .int .i64 0, .string ⟨#[]⟩, .slice none 0 0, .slice none 0 0] 25)).alloc (.cells #[.int .i64 2, .int .i64 1, .string ⟨#[]⟩, .slice none 0 0, .slice (some ⟨W.heap.size + 1, 0, none⟩) 1 1] 25)) w' := by
  have mk : ∀ b, (((W.alloc (.cells #[.int .i64 1, .int .i64 0, .string ⟨#[]⟩, .slice none 0 0, .slice none 0 0] 25)).alloc (.cells #[.int .i64 1, .int .i64 0, .string ⟨#[]⟩, .slice none 0 0, .slice none 0 0] 25)).alloc (.cells #[.int .i64 2, .int .i64 1, .string ⟨#[]⟩, .slice none 0 0, .slice (some ⟨W.heap.size + 1, 0, none⟩) 1 1] 25)).cell? ⟨b, 0, none⟩ = some (.int .i64 1) → (((W.alloc (.cells #[.int .i64 1, .int .i64 0, .string ⟨#[]⟩, .slice none 0 0, .slice none 0 0] 25)).alloc (.cells #[.int .i64 1, .int .i64 0, .string ⟨#[]⟩, .slice none 0 0, .slice none 0 0] 25)).alloc (.cells #[.int .i64 2, .int .i64 1, .string ⟨#[]⟩, .slice none 0 0, .slice (some ⟨W.heap.size + 1, 0, none⟩) 1 1] 25)).cell? ⟨b, 1, none⟩ = some (.int .i64 0) → (((W.alloc (.cells #[.int .i64 1, .int .i64 0, .string ⟨#[]⟩, .slice none 0 0, .slice none 0 0] 25)).alloc (.cells #[.int .i64 1, .int .i64 0, .string ⟨#[]⟩, .slice none 0 0, .slice none 0 0] 25)).alloc (.cells #[.int .i64 2, .int .i64 1, .string ⟨#[]⟩, .slice none 0 0, .slice (some ⟨W.heap.size + 1, 0, none⟩) 1 1] 25)).cell? ⟨b, 2, none⟩ = some (.string ⟨#[]⟩) → (((W.alloc (.cells #[.int .i64 1, .int .i64 0, .string ⟨#[]⟩, .slice none 0 0, .slice none 0 0] 25)).alloc (.cells #[.int .i64 1, .int .i64 0, .string ⟨#[]⟩, .slice none 0 0, .slice none 0 0] 25)).alloc (.cells #[.int .i64 2, .int .i64 1, .string ⟨#[]⟩, .slice none 0 0, .slice (some ⟨W.heap.size + 1, 0, none⟩) 1 1] 25)).cell? ⟨b, 3, none⟩ = some (.slice none 0 0) → (((W.alloc (.cells #[.int .i64 1, .int .i64 0, .string ⟨#[]⟩, .slice none 0 0, .slice none 0 0] 25)).alloc (.cells #[.int .i64 1, .int .i64 0, .string ⟨#[]⟩, .slice none 0 0, .slice none 0 0] 25)).alloc (.cells #[.int .i64 2, .int .i64 1, .string ⟨#[]⟩, .slice none 0 0, .slice (some ⟨W.heap.size + 1, 0, none⟩) 1 1] 25)).cell? ⟨b, 4, none⟩ = some (.slice none 0 0) → TyAt (((W.alloc (.cells #[.int .i64 1, .int .i64 0, .string ⟨#[]⟩, .slice none 0 0, .slice none 0 0] 25)).alloc (.cells #[.int .i64 1, .int .i64 0, .string ⟨#[]⟩, .slice none 0 0, .slice none 0 0] 25)).alloc (.cells #[.int .i64 2, .int .i64 1, .string ⟨#[]⟩, .slice none 0 0, .slice (some ⟨W.heap.size + 1, 0, none⟩) 1 1] 25)) b 0 endT none 0 none 0 := fun b a0 a1 a2 a3 a4 => ⟨a0, a1, a2, a3, a4⟩
  have mk2 : ∀ b c, (((W.alloc (.cells #[.int .i64 1, .int .i64 0, .string ⟨#[]⟩, .slice none 0 0, .slice none 0 0] 25)).alloc (.cells #[.int .i64 1, .int .i64 0, .string ⟨#[]⟩, .slice none 0 0, .slice none 0 0] 25)).alloc (.cells #[.int .i64 2, .int .i64 1, .string ⟨#[]⟩, .slice none 0 0, .slice (some ⟨W.heap.size + 1, 0, none⟩) 1 1] 25)).cell? ⟨b, 0, none⟩ = some (.int .i64 2) → (((W.alloc (.cells #[.int .i64 1, .int .i64 0, .string ⟨#[]⟩, .slice none 0 0, .slice none 0 0] 25)).alloc (.cells #[.int .i64 1, .int .i64 0, .string ⟨#[]⟩, .slice none 0 0, .slice none 0 0] 25)).alloc (.cells #[.int .i64 2, .int .i64 1, .string ⟨#[]⟩, .slice none 0 0, .slice (some ⟨W.heap.size + 1, 0, none⟩) 1 1] 25)).cell? ⟨b, 1, none⟩ = some (.int .i64 1) → (((W.alloc (.cells #[.int .i64 1, .int .i64 0, .string ⟨#[]⟩, .slice none 0 0, .slice none 0 0] 25)).alloc (.cells #[.int .i64 1, .int .i64 0, .string ⟨#[]⟩, .slice none 0 0, .slice none 0 0] 25)).alloc (.cells #[.int .i64 2, .int .i64 1, .string ⟨#[]⟩, .slice none 0 0, .slice (some ⟨W.heap.size + 1, 0, none⟩) 1 1] 25)).cell? ⟨b, 2, none⟩ = some (.string ⟨#[]⟩) → (((W.alloc (.cells #[.int .i64 1, .int .i64 0, .string ⟨#[]⟩, .slice none 0 0, .slice none 0 0] 25)).alloc (.cells #[.int .i64 1, .int .i64 0, .string ⟨#[]⟩, .slice none 0 0, .slice none 0 0] 25)).alloc (.cells #[.int .i64 2, .int .i64 1, .string ⟨#[]⟩, .slice none 0 0, .slice (some ⟨W.heap.size + 1, 0, none⟩) 1 1] 25)).cell? ⟨b, 3, none⟩ = some (.slice none 0 0) → (((W.alloc (.cells #[.int .i64 1, .int .i64 0, .string ⟨#[]⟩, .slice none 0 0, .slice none 0 0] 25)).alloc (.cells #[.int .i64 1, .int .i64 0, .string ⟨#[]⟩, .slice none 0 0, .slice none 0 0] 25)).alloc (.cells #[.int .i64 2, .int .i64 1, .string ⟨#[]⟩, .slice none 0 0, .slice (some ⟨W.heap.size + 1, 0, none⟩) 1 1] 25)).cell? ⟨b, 4, none⟩ = some (.slice (some ⟨c, 0, none⟩) 1 1) → TyAt (((W.alloc (.cells #[.int .i64 1, .int .i64 0, .string ⟨#[]⟩, .slice none 0 0, .slice none 0 0] 25)).alloc (.cells #[.int .i64 1, .int .i64 0, .string ⟨#[]⟩, .slice none 0 0, .slice none 0 0] 25)).alloc (.cells #[.int .i64 2, .int .i64 1, .string ⟨#[]⟩, .slice none 0 0, .slice (some ⟨W.heap.size + 1, 0, none⟩) 1 1] 25)) b 0 (sdT endT) none 0 (some ⟨c, 0, none⟩) 1 := fun b c a0 a1 a2 a3 a4 => ⟨a0, a1, a2, a3, a4⟩
  exact whyDot _ W.heap.size (W.heap.size + 1) (W.heap.size + 1 + 1) (by simp; omega) (by simp) (by simp) (mk _ (by go_cell) (by go_cell) (by go_cell) (by go_cell) (by go_cell)) (mk _ (by go_cell) (by go_cell) (by go_cell) (by go_cell) (by go_cell)) (mk2 _ _ (by go_cell) (by go_cell) (by go_cell) (by go_cell) (by go_cell))
/-- Why where something is wrong -/
theorem whyBad {s t : Ty} {w : World} {z : Int} (hz : z = if chkTy s ≠ 0 then chkTy s else chkTy t) (hne : z ≠ 0) {args : Array Value} (c : Calls Tryd.prog 7 args w (WYPost s t w)) : Calls Tryd.prog 7 args w fun e w' => e = .returned (.tuple #[.slice none 0 0, .int .i64 z]) ∧ Below w.heap.size w w' := by
  refine c.mono ?_
  rintro e w' ⟨hq | hq | hq, hb⟩
  · rw [if_pos hq.1] at hz; subst hz; exact ⟨hq.2, hb⟩
  · rw [if_neg (by simpa using hq.1)] at hz; subst hz; exact ⟨hq.2.2, hb⟩
  · obtain ⟨g, h, hg, hh, _⟩ := hq
    rw [if_neg (by simpa using hg.chk), hh.chk] at hz
    exact absurd hz hne
theorem isBadZ {s t : Ty} {w : World} {z : Int} (hz : z = if chkTy s ≠ 0 then chkTy s else chkTy t) (hne : z ≠ 0) {args : Array Value} (c : Calls Tryd.prog 9 args w (ISPost s t w)) : Calls Tryd.prog 9 args w fun e w' => e = .returned (.tuple #[.bool false, .int .i64 z]) ∧ Below w.heap.size w w' := by
  refine c.mono ?_
  rintro e w' ⟨hq | hq | hq, hb⟩
  · rw [if_pos hq.1] at hz; subst hz; exact ⟨hq.2, hb⟩
  · rw [if_neg (by simpa using hq.1)] at hz; subst hz; exact ⟨hq.2.2, hb⟩
  · obtain ⟨g, h, hg, hh, _⟩ := hq
    rw [if_neg (by simpa using hg.chk), hh.chk] at hz
    exact absurd hz hne
theorem whyGood {s t : Ty} {w : World} {g h : List Nd} (hg : OFG s g) (hh : OFG t h) {args : Array Value} (c : Calls Tryd.prog 7 args w (WYPost s t w)) : Calls Tryd.prog 7 args w fun e w' => ((BT s t ∧ e = .returned (.tuple #[.slice none 0 0, .int .i64 8])) ∨ (¬ BT s t ∧ ∃ n aw cw, n < 2 * g.length * h.length ∧ e = .returned (.tuple #[.slice aw n cw, .int .i64 0]))) ∧ Below w.heap.size w w' := by
  refine c.mono ?_
  rintro e w' ⟨hq | hq | hq, hb⟩
  · exact absurd hg.chk hq.1
  · exact absurd hh.chk hq.2.1
  · obtain ⟨g', h', hg', hh', hq⟩ := hq
    obtain rfl := hg.uniq hg'
    obtain rfl := hh.uniq hh'
    have hB := (BT_iff hg hh).trans (srB_bl hg.gn hh.gn hg.gn.pos hh.gn.pos).symm
    rcases hq with ⟨arr, hs, he⟩ | ⟨k, arr, hs, aw, cw, he, _⟩
    · exact ⟨.inl ⟨hB.2 (by rw [hs]), he⟩, hb⟩
    · have H := srGA_some (below_wld hg.gn hh.gn) (p0 := (0, 0, false)) ⟨hg.gn.pos, hh.gn.pos⟩ hs
      have hl := wayG_len arr H.2.2.1.way k k H.1
      refine ⟨.inr ⟨fun q => by (have := hB.1 q; rw [hs] at this; cases this), (wayGA arr k).length, aw, cw, ?_, he⟩, hb⟩
      have h2 := H.1
      have h3 := H.2.1
      unfold wayGA
      omega
theorem ofGood {t : Ty} {w : World} {g : List Nd} (hg : OFG t g) {args : Array Value} (c : Calls Tryd.prog 10 args w (OFPost t w)) : Calls Tryd.prog 10 args w fun e w' => (∃ ag cg, e = .returned (.tuple #[.slice ag g.length cg, .int .i64 0]) ∧ GAt w' w'.heap.size g ag) ∧ Below w.heap.size w w' := by
  refine c.mono ?_
  rintro e w' ⟨hq | hq, hb⟩
  · exact absurd hg.chk hq.1
  · obtain ⟨g', ag, cg, hg', he, hga⟩ := hq
    obtain rfl := hg.uniq hg'
    exact ⟨⟨ag, cg, he, hga⟩, hb⟩
set_option maxRecDepth 100000 in
set_option maxHeartbeats 16000000 in
theorem belowWhy_law (ds dt : Nat) (s t : Ty) (sal : Option Addr) (scl : Nat) (sak : Option Addr) (sck : Nat) (al : Option Addr) (cl : Nat) (ak : Option Addr) (ck : Nat) (w : World) (hs1 : TyBd s scl sck) (hs2 : LA w w.heap.size s.labels sal) (hs3 : KT w w.heap.size ds s.kids sak) (ht1 : TyBd t cl ck) (ht2 : LA w w.heap.size t.labels al) (ht3 : KT w w.heap.size dt t.kids ak) :
    Calls Tryd.prog 3 #[tyVal s sal scl sak sck, tyVal t al cl ak ck] w fun e w' => e = .returned (.bool true) ∧ Below w.heap.size w w' := by
  have Q0 := hideK (BX2.new w s sal scl sak sck t al cl ak ck)
  have hsz : ((w.alloc (.cells #[.int .i64 s.kind, .int .i64 s.so, .string s.name, .slice sal s.labels.length scl, .slice sak s.kids.length sck] 25)).alloc (.cells #[.int .i64 t.kind, .int .i64 t.so, .string t.name, .slice al t.labels.length cl, .slice ak t.kids.length ck] 25)).heap.size = w.heap.size + 1 + 1 := by simp
  have QA := hideK (show BX2 w s sal scl sak sck t al cl ak ck (((((w.alloc (.cells #[.int .i64 s.kind, .int .i64 s.so, .string s.name, .slice sal s.labels.length scl, .slice sak s.kids.length sck] 25)).alloc (.cells #[.int .i64 t.kind, .int .i64 t.so, .string t.name, .slice al t.labels.length cl, .slice ak t.kids.length ck] 25)).alloc (.cells #[.int .i64 1, .int .i64 0, .string ⟨#[]⟩, .slice none 0 0, .slice none 0 0] 25)).alloc (.cells #[.int .i64 1, .int .i64 0, .string ⟨#[]⟩, .slice none 0 0, .slice none 0 0] 25)).alloc (.cells #[.int .i64 2, .int .i64 1, .string ⟨#[]⟩, .slice none 0 0, .slice (some ⟨w.heap.size + 1 + 1 + 1, 0, none⟩) 1 1] 25)) from ((Q0.out.keep ((Below.refl _ _).alloc (Nat.le_refl _) _)).keep ((Below.refl _ _).alloc (Nat.le_refl _) _)).keep ((Below.refl _ _).alloc (Nat.le_refl _) _))
  have cy := whyDotW ((w.alloc (.cells #[.int .i64 s.kind, .int .i64 s.so, .string s.name, .slice sal s.labels.length scl, .slice sak s.kids.length sck] 25)).alloc (.cells #[.int .i64 t.kind, .int .i64 t.so, .string t.name, .slice al t.labels.length cl, .slice ak t.kids.length ck] 25))
  rw [hsz] at cy
  have CY := hideK cy
  clear cy
  obtain ⟨x0, x1, x2, x3, x4⟩ := QA.out.x
  obtain ⟨y0, y1, y2, y3, y4⟩ := QA.out.y
  simp only [Nat.zero_add] at x1 x2 x3 x4 y1 y2 y3 y4
  by_cases hz : chkTy s = 0 ∧ chkTy t = 0
  · obtain ⟨hzs, hzt⟩ := hz
    obtain ⟨g, hg⟩ := OFG_ex hzs
    obtain ⟨h, hh⟩ := OFG_ex hzt
    have C1 := hideK (fun (W : World) (hb : Below w.heap.size w W) => whyGood hg hh (why_any ds dt s t sal scl sak sck al cl ak ck W hs1 ((hs2.keep hb).mono hb.size) ((hs3.keep hb).mono hb.size) ht1 ((ht2.keep hb).mono hb.size) ((ht3.keep hb).mono hb.size)))
    have C2 := hideK (fun (W : World) (hb : Below w.heap.size w W) => isGood hzs hzt (is_any ds dt s t sal scl sak sck al cl ak ck W hs1 ((hs2.keep hb).mono hb.size) ((hs3.keep hb).mono hb.size) ht1 ((ht2.keep hb).mono hb.size) ((ht3.keep hb).mono hb.size)))
    have C3 := hideK (fun (W : World) (hb : Below w.heap.size w W) => ofGood hg (of_any ds s sal scl sak sck W hs1 ((hs2.keep hb).mono hb.size) ((hs3.keep hb).mono hb.size)))
    have C4 := hideK (fun (W : World) (hb : Below w.heap.size w W) => ofGood hh (of_any dt t al cl ak ck W ht1 ((ht2.keep hb).mono hb.size) ((ht3.keep hb).mono hb.size)))
    have hgl := hg.le
    have hhl := hh.le
    have hg0 := hg.gn.pos
    have hh0 := hh.gn.pos
    have hNb : 2 * g.length * h.length ≤ 7200 := Nat.mul_le_mul (Nat.mul_le_mul_left 2 hgl) hhl
    have hN0 : 0 < 2 * g.length * h.length := Nat.mul_pos (by omega) hh0
    have hcast : ((2 * g.length * h.length : Nat) : Int) = 2 * (g.length : Int) * (h.length : Int) := by rw [Int.natCast_mul, Int.natCast_mul]; rfl
    have hw1 : IntKind.i64.wrap (2 * (g.length : Int)) = 2 * (g.length : Int) := wrap_small _ (by omega) (by omega)
    have hw2 : IntKind.i64.wrap (2 * (g.length : Int) * (h.length : Int)) = 2 * (g.length : Int) * (h.length : Int) := by
      rw [← hcast]
      exact wrap_small _ (by omega) (by omega)
    have HCA := hideK hcast
    simp only [tyVal] at C1 C2 C3 C4 ⊢
    clear hs1 hs2 hs3 ht1 ht2 ht3 hzs hzt hg hh hcast hsz
    go_enter Tryd.func3, Tryd.ntmps3
    go_wp2_with fail
    refine CY.out.mono ?_
    rintro e w1 ⟨⟨aw, cw, rfl, hla⟩, hb1⟩
    have Q1 := hideK (QA.out.keep hb1)
    clear x0 x1 x2 x3 x4 y0 y1 y2 y3 y4
    obtain ⟨x0, x1, x2, x3, x4⟩ := Q1.out.x
    obtain ⟨y0, y1, y2, y3, y4⟩ := Q1.out.y
    simp only [Nat.zero_add] at x1 x2 x3 x4 y1 y2 y3 y4
    have HLA := hideK hla
    clear hb1 hla
    have CS := hideK (sameStr_any [dotB] [dotB] aw (some ⟨w1.heap.size, 0, none⟩) cw 1 (w1.alloc (.cells #[.string dotB] 9)).heap.size (w1.alloc (.cells #[.string dotB] 9)) ((HLA.out.keep ((Below.refl _ _).alloc (Nat.le_refl _) _)).mono (by simp)) (.inr ⟨w1.heap.size, 0, rfl, by simp, fun i hi => by
      obtain rfl : i = 0 := by simp at hi; omega
      go_cell⟩) (Nat.le_refl _) (by simp) (by simp))
    simp only [List.length_cons, List.length_nil, Nat.zero_add, decide_true] at CS
    have Q1b := hideK (Q1.out.keep ((Below.refl _ _).alloc (Nat.le_refl _) (.cells #[.string dotB] 9)))
    go_wp2_with fail
    refine CS.out.mono ?_
    rintro e w2 ⟨rfl, hb2⟩
    have Q2 := hideK (Q1b.out.keep hb2)
    clear x0 x1 x2 x3 x4 y0 y1 y2 y3 y4
    obtain ⟨x0, x1, x2, x3, x4⟩ := Q2.out.x
    obtain ⟨y0, y1, y2, y3, y4⟩ := Q2.out.y
    simp only [Nat.zero_add] at x1 x2 x3 x4 y1 y2 y3 y4
    clear hb2 CS HLA
    go_wp2_with fail
    refine (C1.out _ Q2.out.bl).mono ?_
    rintro e w3 ⟨hor, hb3⟩
    have Q3 := hideK (Q2.out.keep hb3)
    clear x0 x1 x2 x3 x4 y0 y1 y2 y3 y4
    obtain ⟨x0, x1, x2, x3, x4⟩ := Q3.out.x
    obtain ⟨y0, y1, y2, y3, y4⟩ := Q3.out.y
    simp only [Nat.zero_add] at x1 x2 x3 x4 y1 y2 y3 y4
    clear hb3
    rcases hor with ⟨hbt, rfl⟩ | ⟨hbt, nn, aw2, cw2, hnn, rfl⟩
    · have HBT := hideK hbt
      clear hbt
      go_wp2_with fail
      refine (C2.out _ Q3.out.bl).mono ?_
      rintro e w4 ⟨⟨bo, rfl, hbo⟩, hb4⟩
      have Q4 := hideK (Q3.out.keep hb4)
      clear x0 x1 x2 x3 x4 y0 y1 y2 y3 y4
      obtain ⟨x0, x1, x2, x3, x4⟩ := Q4.out.x
      obtain ⟨y0, y1, y2, y3, y4⟩ := Q4.out.y
      simp only [Nat.zero_add] at x1 x2 x3 x4 y1 y2 y3 y4
      clear hb4
      obtain rfl : bo = true := hbo.2 HBT.out
      clear hbo
      go_wp2_with fail
      refine (C3.out _ Q4.out.bl).mono ?_
      rintro e w5 ⟨⟨ag, cg, rfl, hga⟩, hb5⟩
      have Q5 := hideK (Q4.out.keep hb5)
      clear x0 x1 x2 x3 x4 y0 y1 y2 y3 y4
      obtain ⟨x0, x1, x2, x3, x4⟩ := Q5.out.x
      obtain ⟨y0, y1, y2, y3, y4⟩ := Q5.out.y
      simp only [Nat.zero_add] at x1 x2 x3 x4 y1 y2 y3 y4
      clear hb5
      clear hga
      go_wp2_with fail
      refine (C4.out _ Q5.out.bl).mono ?_
      rintro e w6 ⟨⟨ah, ch, rfl, hha⟩, hb6⟩
      have Q6 := hideK (Q5.out.keep hb6)
      clear x0 x1 x2 x3 x4 y0 y1 y2 y3 y4
      obtain ⟨x0, x1, x2, x3, x4⟩ := Q6.out.x
      obtain ⟨y0, y1, y2, y3, y4⟩ := Q6.out.y
      simp only [Nat.zero_add] at x1 x2 x3 x4 y1 y2 y3 y4
      clear hb6
      clear hha
      have hlt : (0 : Int) < 2 * (g.length : Int) * (h.length : Int) := by rw [← HCA.out]; omega
      go_wp2_with fail
      go_ret
      exact ⟨rfl, Q6.out.bl⟩
    · have HBT := hideK hbt
      clear hbt
      go_wp2_with fail
      refine (C2.out _ Q3.out.bl).mono ?_
      rintro e w4 ⟨⟨bo, rfl, hbo⟩, hb4⟩
      have Q4 := hideK (Q3.out.keep hb4)
      clear x0 x1 x2 x3 x4 y0 y1 y2 y3 y4
      obtain ⟨x0, x1, x2, x3, x4⟩ := Q4.out.x
      obtain ⟨y0, y1, y2, y3, y4⟩ := Q4.out.y
      simp only [Nat.zero_add] at x1 x2 x3 x4 y1 y2 y3 y4
      clear hb4
      obtain rfl : bo = false := by
        cases bo with
        | false => rfl
        | true => exact absurd (hbo.1 rfl) HBT.out
      clear hbo
      go_wp2_with fail
      refine (C3.out _ Q4.out.bl).mono ?_
      rintro e w5 ⟨⟨ag, cg, rfl, hga⟩, hb5⟩
      have Q5 := hideK (Q4.out.keep hb5)
      clear x0 x1 x2 x3 x4 y0 y1 y2 y3 y4
      obtain ⟨x0, x1, x2, x3, x4⟩ := Q5.out.x
      obtain ⟨y0, y1, y2, y3, y4⟩ := Q5.out.y
      simp only [Nat.zero_add] at x1 x2 x3 x4 y1 y2 y3 y4
      clear hb5
      clear hga
      go_wp2_with fail
      refine (C4.out _ Q5.out.bl).mono ?_
      rintro e w6 ⟨⟨ah, ch, rfl, hha⟩, hb6⟩
      have Q6 := hideK (Q5.out.keep hb6)
      clear x0 x1 x2 x3 x4 y0 y1 y2 y3 y4
      obtain ⟨x0, x1, x2, x3, x4⟩ := Q6.out.x
      obtain ⟨y0, y1, y2, y3, y4⟩ := Q6.out.y
      simp only [Nat.zero_add] at x1 x2 x3 x4 y1 y2 y3 y4
      clear hb6
      clear hha
      have hlt : (nn : Int) < 2 * (g.length : Int) * (h.length : Int) := by rw [← HCA.out]; omega
      go_wp2_with fail
      go_ret
      exact ⟨rfl, Q6.out.bl⟩
  · have hz2 : (if chkTy s ≠ 0 then chkTy s else chkTy t) ≠ 0 := by
      split
      · assumption
      · rename_i q
        intro e
        exact hz ⟨by simpa using q, e⟩
    generalize hzz : (if chkTy s ≠ 0 then chkTy s else chkTy t) = z at hz2
    have C1 := hideK (fun (W : World) (hb : Below w.heap.size w W) => whyBad hzz.symm hz2 (why_any ds dt s t sal scl sak sck al cl ak ck W hs1 ((hs2.keep hb).mono hb.size) ((hs3.keep hb).mono hb.size) ht1 ((ht2.keep hb).mono hb.size) ((ht3.keep hb).mono hb.size)))
    have C2 := hideK (fun (W : World) (hb : Below w.heap.size w W) => isBadZ hzz.symm hz2 (is_any ds dt s t sal scl sak sck al cl ak ck W hs1 ((hs2.keep hb).mono hb.size) ((hs3.keep hb).mono hb.size) ht1 ((ht2.keep hb).mono hb.size) ((ht3.keep hb).mono hb.size)))
    have hzb : (z != 0) = true := by simpa using hz2
    simp only [tyVal] at C1 C2 ⊢
    clear hs1 hs2 hs3 ht1 ht2 ht3 hz hz2 hzz hsz
    go_enter Tryd.func3, Tryd.ntmps3
    go_wp2_with fail
    refine CY.out.mono ?_
    rintro e w1 ⟨⟨aw, cw, rfl, hla⟩, hb1⟩
    have Q1 := hideK (QA.out.keep hb1)
    clear x0 x1 x2 x3 x4 y0 y1 y2 y3 y4
    obtain ⟨x0, x1, x2, x3, x4⟩ := Q1.out.x
    obtain ⟨y0, y1, y2, y3, y4⟩ := Q1.out.y
    simp only [Nat.zero_add] at x1 x2 x3 x4 y1 y2 y3 y4
    have HLA := hideK hla
    clear hb1 hla
    have CS := hideK (sameStr_any [dotB] [dotB] aw (some ⟨w1.heap.size, 0, none⟩) cw 1 (w1.alloc (.cells #[.string dotB] 9)).heap.size (w1.alloc (.cells #[.string dotB] 9)) ((HLA.out.keep ((Below.refl _ _).alloc (Nat.le_refl _) _)).mono (by simp)) (.inr ⟨w1.heap.size, 0, rfl, by simp, fun i hi => by
      obtain rfl : i = 0 := by simp at hi; omega
      go_cell⟩) (Nat.le_refl _) (by simp) (by simp))
    simp only [List.length_cons, List.length_nil, Nat.zero_add, decide_true] at CS
    have Q1b := hideK (Q1.out.keep ((Below.refl _ _).alloc (Nat.le_refl _) (.cells #[.string dotB] 9)))
    go_wp2_with fail
    refine CS.out.mono ?_
    rintro e w2 ⟨rfl, hb2⟩
    have Q2 := hideK (Q1b.out.keep hb2)
    clear x0 x1 x2 x3 x4 y0 y1 y2 y3 y4
    obtain ⟨x0, x1, x2, x3, x4⟩ := Q2.out.x
    obtain ⟨y0, y1, y2, y3, y4⟩ := Q2.out.y
    simp only [Nat.zero_add] at x1 x2 x3 x4 y1 y2 y3 y4
    clear hb2 CS HLA
    go_wp2_with fail
    refine (C1.out _ Q2.out.bl).mono ?_
    rintro e w3 ⟨rfl, hb3⟩
    have Q3 := hideK (Q2.out.keep hb3)
    clear x0 x1 x2 x3 x4 y0 y1 y2 y3 y4
    obtain ⟨x0, x1, x2, x3, x4⟩ := Q3.out.x
    obtain ⟨y0, y1, y2, y3, y4⟩ := Q3.out.y
    simp only [Nat.zero_add] at x1 x2 x3 x4 y1 y2 y3 y4
    clear hb3
    go_wp2_with fail
    refine (C2.out _ Q3.out.bl).mono ?_
    rintro e w4 ⟨rfl, hb4⟩
    have Q4 := hideK (Q3.out.keep hb4)
    clear x0 x1 x2 x3 x4 y0 y1 y2 y3 y4
    obtain ⟨x0, x1, x2, x3, x4⟩ := Q4.out.x
    obtain ⟨y0, y1, y2, y3, y4⟩ := Q4.out.y
    simp only [Nat.zero_add] at x1 x2 x3 x4 y1 y2 y3 y4
    clear hb4
    go_wp2_with fail
    go_ret
    exact ⟨rfl, Q4.out.bl⟩
end Go.Proofs.YtoieacgojkgjgabDoor
