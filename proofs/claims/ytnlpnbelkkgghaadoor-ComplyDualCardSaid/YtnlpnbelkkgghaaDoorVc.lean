/-
  The contracts of comply.Stuck and comply.Ends, for every two types.
-/
import Derived.Test.YtnlpnbelkkgghaaDoorVw
import Derived.Test.YtnlpnbelkkgghaaDoorJb
namespace Go.Proofs.YtnlpnbelkkgghaaDoor
open Go.RowKit Go.Shelf

def SKPost (s t : Ty) (w : World) (e : Ending) (w' : World) : Prop :=
  ((chkTy s ≠ 0 ∧ e = .returned (.tuple #[.slice none 0 0, .int .i64 (chkTy s)])) ∨ (chkTy s = 0 ∧ chkTy t ≠ 0 ∧ e = .returned (.tuple #[.slice none 0 0, .int .i64 (chkTy t)])) ∨
    (∃ g h, OFG s g ∧ OFG t h ∧ ((∃ k arr, srC g h = (some k, arr) ∧ ∃ aw cw, e = .returned (.tuple #[.slice aw (wayGA arr k).length cw, .int .i64 0]) ∧ LA w' w'.heap.size (wayGA arr k).reverse aw) ∨ (∃ arr, srC g h = (none, arr) ∧ e = .returned (.tuple #[.slice none 0 0, .int .i64 8]))))) ∧ Below w.heap.size w w'
def EDPost (s t : Ty) (w : World) (e : Ending) (w' : World) : Prop :=
  ((chkTy s ≠ 0 ∧ e = .returned (.tuple #[.int .i64 0, .int .i64 (chkTy s)])) ∨ (chkTy s = 0 ∧ chkTy t ≠ 0 ∧ e = .returned (.tuple #[.int .i64 0, .int .i64 (chkTy t)])) ∨
    (∃ g h, OFG s g ∧ OFG t h ∧ ((∃ k arr, srC g h = (some k, arr) ∧ e = .returned (.tuple #[.int .i64 0, .int .i64 7])) ∨ (∃ arr, srC g h = (none, arr) ∧ (((enW g arr arr.length).1 = true ∧ e = .returned (.tuple #[.int .i64 ((enW g arr arr.length).2 : Int), .int .i64 0])) ∨ ((enW g arr arr.length).1 = false ∧ e = .returned (.tuple #[.int .i64 0, .int .i64 8]))))))) ∧ Below w.heap.size w w'
set_option maxRecDepth 100000 in
set_option maxHeartbeats 4000000 in
theorem stuck_any (ds dt : Nat) (s t : Ty) (sal : Option Addr) (scl : Nat) (sak : Option Addr) (sck : Nat) (al : Option Addr) (cl : Nat) (ak : Option Addr) (ck : Nat) (w : World) (hs1 : TyBd s scl sck) (hs2 : LA w w.heap.size s.labels sal) (hs3 : KT w w.heap.size ds s.kids sak) (ht1 : TyBd t cl ck) (ht2 : LA w w.heap.size t.labels al) (ht3 : KT w w.heap.size dt t.kids ak) :
    Calls Tryd.prog 20 #[tyVal s sal scl sak sck, tyVal t al cl ak ck] w (SKPost s t w) := by
  unfold SKPost
  have hA : Below w.heap.size w ((w.alloc (.cells #[.int .i64 s.kind, .int .i64 s.so, .string s.name, .slice sal s.labels.length scl, .slice sak s.kids.length sck] 25)).alloc (.cells #[.int .i64 t.kind, .int .i64 t.so, .string t.name, .slice al t.labels.length cl, .slice ak t.kids.length ck] 25)) := ((Below.refl _ _).alloc (Nat.le_refl _) _).alloc (by simp) _
  have cG := outcomeOf_any ds dt s t sal scl sak sck al cl ak ck ((w.alloc (.cells #[.int .i64 s.kind, .int .i64 s.so, .string s.name, .slice sal s.labels.length scl, .slice sak s.kids.length sck] 25)).alloc (.cells #[.int .i64 t.kind, .int .i64 t.so, .string t.name, .slice al t.labels.length cl, .slice ak t.kids.length ck] 25)) hs1 ((hs2.keep hA).mono hA.size) ((hs3.keep hA).mono hA.size) ht1 ((ht2.keep hA).mono hA.size) ((ht3.keep hA).mono hA.size)
  have HA := hideK hA
  simp only [tyVal] at cG ⊢
  unfold OOPost at cG
  clear hs1 hs2 hs3 ht1 ht2 ht3 hA
  go_enter Tryd.func20, Tryd.ntmps20
  go_wp2_with fail
  refine cG.mono ?_
  generalize ((w.alloc (.cells #[.int .i64 s.kind, .int .i64 s.so, .string s.name, .slice sal s.labels.length scl, .slice sak s.kids.length sck] 25)).alloc (.cells #[.int .i64 t.kind, .int .i64 t.so, .string t.name, .slice al t.labels.length cl, .slice ak t.kids.length ck] 25)) = W0 at *
  rintro e w1 ⟨hor, hb1⟩
  have HB1 := hideK (HA.out.trans (hb1.mono HA.out.size))
  have HB2 := hideK (fun o : Obj => show Below w.heap.size w (w1.alloc o) from HB1.out.alloc HB1.out.size o)
  clear hb1 cG
  rcases hor with ⟨hz, rfl⟩ | ⟨hz0, hz, rfl⟩ | ⟨g, h, hof, hof2, ⟨k, arr, hsr, aw, cw, rfl, hla⟩ | ⟨arr, hsr, aw, cw, rfl⟩⟩
  · have hzb : (chkTy s != 0) = true := by simpa using hz
    have HZ := hideK hz
    clear hz
    go_wp2_with fail
    go_ret2
    exact ⟨.inl ⟨HZ.out, rfl⟩, HB2.out _⟩
  · have hzb : (chkTy t != 0) = true := by simpa using hz
    have HZ := hideK hz
    have HZ0 := hideK hz0
    clear hz hz0
    go_wp2_with fail
    go_ret2
    exact ⟨.inr (.inl ⟨HZ0.out, HZ.out, rfl⟩), HB2.out _⟩
  · have HOF := hideK hof
    have HOF2 := hideK hof2
    have HSR := hideK hsr
    have HLA := hideK (fun o : Obj => show LA (w1.alloc o) (w1.alloc o).heap.size (wayGA arr k).reverse aw from (hla.keep ((Below.refl _ _).alloc (Nat.le_refl _) o)).mono (by simp))
    clear hof hof2 hsr hla
    go_wp2_with fail
    go_ret2
    exact ⟨.inr (.inr ⟨g, h, HOF.out, HOF2.out, .inl ⟨k, arr, HSR.out, aw, cw, rfl, HLA.out _⟩⟩), HB2.out _⟩
  · have HOF := hideK hof
    have HOF2 := hideK hof2
    have HSR := hideK hsr
    clear hof hof2 hsr
    go_wp2_with fail
    go_ret2
    exact ⟨.inr (.inr ⟨g, h, HOF.out, HOF2.out, .inr ⟨arr, HSR.out, rfl⟩⟩), HB2.out _⟩
set_option maxRecDepth 100000 in
set_option maxHeartbeats 4000000 in
theorem ends_any (ds dt : Nat) (s t : Ty) (sal : Option Addr) (scl : Nat) (sak : Option Addr) (sck : Nat) (al : Option Addr) (cl : Nat) (ak : Option Addr) (ck : Nat) (w : World) (hs1 : TyBd s scl sck) (hs2 : LA w w.heap.size s.labels sal) (hs3 : KT w w.heap.size ds s.kids sak) (ht1 : TyBd t cl ck) (ht2 : LA w w.heap.size t.labels al) (ht3 : KT w w.heap.size dt t.kids ak) :
    Calls Tryd.prog 18 #[tyVal s sal scl sak sck, tyVal t al cl ak ck] w (EDPost s t w) := by
  unfold EDPost
  have hA : Below w.heap.size w ((w.alloc (.cells #[.int .i64 s.kind, .int .i64 s.so, .string s.name, .slice sal s.labels.length scl, .slice sak s.kids.length sck] 25)).alloc (.cells #[.int .i64 t.kind, .int .i64 t.so, .string t.name, .slice al t.labels.length cl, .slice ak t.kids.length ck] 25)) := ((Below.refl _ _).alloc (Nat.le_refl _) _).alloc (by simp) _
  have cG := outcomeOf_any ds dt s t sal scl sak sck al cl ak ck ((w.alloc (.cells #[.int .i64 s.kind, .int .i64 s.so, .string s.name, .slice sal s.labels.length scl, .slice sak s.kids.length sck] 25)).alloc (.cells #[.int .i64 t.kind, .int .i64 t.so, .string t.name, .slice al t.labels.length cl, .slice ak t.kids.length ck] 25)) hs1 ((hs2.keep hA).mono hA.size) ((hs3.keep hA).mono hA.size) ht1 ((ht2.keep hA).mono hA.size) ((ht3.keep hA).mono hA.size)
  have HA := hideK hA
  simp only [tyVal] at cG ⊢
  unfold OOPost at cG
  clear hs1 hs2 hs3 ht1 ht2 ht3 hA
  go_enter Tryd.func18, Tryd.ntmps18
  go_wp2_with fail
  refine cG.mono ?_
  generalize ((w.alloc (.cells #[.int .i64 s.kind, .int .i64 s.so, .string s.name, .slice sal s.labels.length scl, .slice sak s.kids.length sck] 25)).alloc (.cells #[.int .i64 t.kind, .int .i64 t.so, .string t.name, .slice al t.labels.length cl, .slice ak t.kids.length ck] 25)) = W0 at *
  rintro e w1 ⟨hor, hb1⟩
  have HB1 := hideK (HA.out.trans (hb1.mono HA.out.size))
  have HB2 := hideK (fun o : Obj => show Below w.heap.size w (w1.alloc o) from HB1.out.alloc HB1.out.size o)
  clear hb1 cG
  rcases hor with ⟨hz, rfl⟩ | ⟨hz0, hz, rfl⟩ | ⟨g, h, hof, hof2, ⟨k, arr, hsr, aw, cw, rfl, hla⟩ | ⟨arr, hsr, aw, cw, rfl⟩⟩
  · have hzb : (chkTy s != 0) = true := by simpa using hz
    have HZ := hideK hz
    clear hz
    go_wp2_with fail
    go_ret2
    exact ⟨.inl ⟨HZ.out, rfl⟩, HB2.out _⟩
  · have hzb : (chkTy t != 0) = true := by simpa using hz
    have HZ := hideK hz
    have HZ0 := hideK hz0
    clear hz hz0
    go_wp2_with fail
    go_ret2
    exact ⟨.inr (.inl ⟨HZ0.out, HZ.out, rfl⟩), HB2.out _⟩
  · have HOF := hideK hof
    have HOF2 := hideK hof2
    have HSR := hideK hsr
    clear hof hof2 hsr hla
    go_wp2_with fail
    go_ret2
    exact ⟨.inr (.inr ⟨g, h, HOF.out, HOF2.out, .inl ⟨k, arr, HSR.out, rfl⟩⟩), HB2.out _⟩
  · have HOF := hideK hof
    have HOF2 := hideK hof2
    have HSR := hideK hsr
    clear hof hof2 hsr
    generalize hew : enW g arr arr.length = ew at *
    obtain ⟨e1, e2⟩ := ew
    have HEW := hideK hew
    clear hew
    cases e1 with
    | true =>
      go_wp2_with fail
      go_ret2
      exact ⟨.inr (.inr ⟨g, h, HOF.out, HOF2.out, .inr ⟨arr, HSR.out, .inl (by rw [HEW.out]; exact ⟨rfl, rfl⟩)⟩⟩), HB2.out _⟩
    | false =>
      go_wp2_with fail
      go_ret2
      exact ⟨.inr (.inr ⟨g, h, HOF.out, HOF2.out, .inr ⟨arr, HSR.out, .inr (by rw [HEW.out]; exact ⟨rfl, rfl⟩)⟩⟩), HB2.out _⟩
end Go.Proofs.YtnlpnbelkkgghaaDoor
/-
  The law of duetkeep.BelowOrder: whatever types are handed in it answers true.
-/
namespace Go.Proofs.YtnlpnbelkkgghaaDoor
open Go.RowKit Go.Shelf

theorem OFG.bl_refl {s : Ty} {g : List Nd} (h : OFG s g) : BT s s := ⟨g, g, h, h, fun k => Go.Proofs.YtnlpnbelkkgghaaDoor.bl_refl h.gn k h.gn.pos⟩
theorem BT_trans {s t u : Ty} (h : BT s t) (h2 : BT t u) : BT s u := by
  obtain ⟨g, h', hg, hh, hb⟩ := h
  obtain ⟨h'', f, hh2, hf, hb2⟩ := h2
  rw [hh2.uniq hh] at hb2
  exact ⟨g, f, hg, hf, fun k => bl_trans k g h' f 0 0 0 (hb k) (hb2 k)⟩
theorem BT_anti {s t : Ty} {g h : List Nd} (hg : OFG s g) (hh : OFG t h) : BT s t ∧ BT t s ↔ den s e0 = den t e0 := by
  rw [BT_iff hg hh, BT_iff hh hg]
  constructor
  · rintro ⟨h1, h2⟩
    funext k
    rw [← hg.does k, ← hh.does k]
    exact bl_anti k g h 0 0 hg.gn hh.gn hg.gn.pos hh.gn.pos (h1 k) (h2 k)
  · intro e
    have e2 := (hg.same hh).2 e
    subst e2
    exact ⟨fun k => bl_refl hg.gn k hg.gn.pos, fun k => bl_refl hg.gn k hg.gn.pos⟩
theorem cls_ex {g : List Nd} (hs : shutG g) : ∃ c, CLS g c := by
  have : ∀ n k c, patG g k c → g.length - cnt c ≤ n → ∃ c, CLS g c := by
    intro n
    induction n with
    | zero =>
      intro k c hp hn
      by_cases he : (splitG g c).1.length = cnt c
      · exact ⟨_, cls_done hs hp he⟩
      · have := cls_more hs hp he; omega
    | succ n ih =>
      intro k c hp hn
      by_cases he : (splitG g c).1.length = cnt c
      · exact ⟨_, cls_done hs hp he⟩
      · have h1 := cls_more hs hp he
        have h2 := (split_inv g c).cn
        exact ih (k + 1) (splitG g c).2 (pat_split hs hp) (by omega)
  exact this _ 0 _ (pat_zero g) (Nat.le_refl _)
theorem OFG_ex {t : Ty} (h : chkTy t = 0) : ∃ g, OFG t g := by
  have hg := lay_gn h
  obtain ⟨c, hc⟩ : ∃ c, CLS (layP t [] 0).2 c := cls_ex hg.shut
  exact ⟨_, ⟨h, c, hc, rfl⟩⟩
theorem end_chk : chkTy endT = 0 := by
  unfold chkTy
  rw [chkT_eq, if_neg (by decide)]
  have hp : partT endT = true := by unfold partT endT; simp
  rw [hp, if_neg (by decide), if_neg (by decide), if_neg (by decide)]
  rfl
theorem end_bd : TyBd endT 0 0 := ⟨by decide, fun l hl => (by cases hl), by decide, by decide, by decide, by decide⟩
/-- three types in boxes -/
structure BX3 (w : World) (s : Ty) (sal : Option Addr) (scl : Nat) (sak : Option Addr) (sck : Nat) (t : Ty) (al : Option Addr) (cl : Nat) (ak : Option Addr) (ck : Nat) (u : Ty) (ual : Option Addr) (ucl : Nat) (uak : Option Addr) (uck : Nat) (W : World) : Prop where
  x : TyAt W w.heap.size 0 s sal scl sak sck
  y : TyAt W (w.heap.size + 1) 0 t al cl ak ck
  z : TyAt W (w.heap.size + 1 + 1) 0 u ual ucl uak uck
  lt : w.heap.size + 1 + 1 < W.heap.size
  bl : Below w.heap.size w W
theorem BX3.keep {w : World} {s : Ty} {sal : Option Addr} {scl : Nat} {sak : Option Addr} {sck : Nat} {t : Ty} {al : Option Addr} {cl : Nat} {ak : Option Addr} {ck : Nat} {u : Ty} {ual : Option Addr} {ucl : Nat} {uak : Option Addr} {uck : Nat} {W W' : World} (h : BX3 w s sal scl sak sck t al cl ak ck u ual ucl uak uck W) (hb : Below W.heap.size W W') : BX3 w s sal scl sak sck t al cl ak ck u ual ucl uak uck W' :=
  ⟨h.x.keep hb (by have := h.lt; omega), h.y.keep hb (by have := h.lt; omega), h.z.keep hb h.lt, Nat.lt_of_lt_of_le h.lt hb.size, h.bl.trans (hb.mono h.bl.size)⟩
theorem BX3.new (w : World) (s : Ty) (sal : Option Addr) (scl : Nat) (sak : Option Addr) (sck : Nat) (t : Ty) (al : Option Addr) (cl : Nat) (ak : Option Addr) (ck : Nat) (u : Ty) (ual : Option Addr) (ucl : Nat) (uak : Option Addr) (uck : Nat) : BX3 w s sal scl sak sck t al cl ak ck u ual ucl uak uck (((w.alloc (.cells #[.int .i64 s.kind, .int .i64 s.so, .string s.name, .slice sal s.labels.length scl, .slice sak s.kids.length sck] 25)).alloc (.cells #[.int .i64 t.kind, .int .i64 t.so, .string t.name, .slice al t.labels.length cl, .slice ak t.kids.length ck] 25)).alloc (.cells #[.int .i64 u.kind, .int .i64 u.so, .string u.name, .slice ual u.labels.length ucl, .slice uak u.kids.length uck] 25)) :=
  ⟨⟨by go_cell, by go_cell, by go_cell, by go_cell, by go_cell⟩, ⟨by go_cell, by go_cell, by go_cell, by go_cell, by go_cell⟩, ⟨by go_cell, by go_cell, by go_cell, by go_cell, by go_cell⟩, by simp, ((((Below.refl _ _).alloc (Nat.le_refl _) _).alloc (by simp) _).alloc (by simp; omega) _)⟩
theorem smSome {s t : Ty} {w : World} {args : Array Value} (c : Calls Tryd.prog 10 args w (SMPost s t w)) : Calls Tryd.prog 10 args w fun e w' => (∃ (b : Bool) (z : Int), e = .returned (.tuple #[.bool b, .int .i64 z])) ∧ Below w.heap.size w w' := by
  refine c.mono ?_
  rintro e w' ⟨h | h | h, hb⟩
  · exact ⟨⟨_, _, h.2⟩, hb⟩
  · exact ⟨⟨_, _, h.2.2⟩, hb⟩
  · obtain ⟨_, _, b, e, _⟩ := h
    exact ⟨⟨_, _, e⟩, hb⟩
theorem smGood {s t : Ty} {w : World} (hs : chkTy s = 0) (ht : chkTy t = 0) {args : Array Value} (c : Calls Tryd.prog 10 args w (SMPost s t w)) : Calls Tryd.prog 10 args w fun e w' => (∃ b : Bool, e = .returned (.tuple #[.bool b, .int .i64 0]) ∧ (b = true ↔ den s e0 = den t e0)) ∧ Below w.heap.size w w' := by
  refine c.mono ?_
  rintro e w' ⟨h | h | h, hb⟩
  · exact absurd hs h.1
  · exact absurd ht h.2.1
  · obtain ⟨_, _, b, e, hq⟩ := h
    exact ⟨⟨b, e, hq⟩, hb⟩
end Go.Proofs.YtnlpnbelkkgghaaDoor

/-
  Plain mathematics: a type in the place of a name: what that does, and what Check says of it; BEKIC and MILNER of types.
-/
namespace Go.Proofs.YtnlpnbelkkgghaaDoor

/-- s in the place of the name x -/
def putT (x : ByteArray) (s : Ty) : Ty → Ty
  | ⟨kd, so, nm, ls, ks⟩ => if kd = 9 ∧ nm = x then s else if kd = 8 ∧ nm = x then ⟨kd, so, nm, ls, ks⟩ else ⟨kd, so, nm, ls, ks.map (putT x s)⟩
theorem putT_var (x : ByteArray) (s t : Ty) (h : t.kind = 9 ∧ t.name = x) : putT x s t = s := by cases t; rw [putT, if_pos h]
theorem putT_rec (x : ByteArray) (s t : Ty) (h : t.kind = 8 ∧ t.name = x) : putT x s t = t := by
  cases t
  rw [putT, if_neg (by rintro ⟨h9, _⟩; have h8 := h.1; simp only at h8 h9; omega), if_pos h]
theorem putT_else (x : ByteArray) (s t : Ty) (h9 : ¬ (t.kind = 9 ∧ t.name = x)) (h8 : ¬ (t.kind = 8 ∧ t.name = x)) : putT x s t = ⟨t.kind, t.so, t.name, t.labels, t.kids.map (putT x s)⟩ := by
  cases t
  rw [putT, if_neg h9, if_neg h8]
/-- does a name stand in it that no Rec in it binds? -/
def frT (x : ByteArray) : Ty → Bool
  | ⟨kd, _, nm, _, ks⟩ => if kd = 9 then decide (nm = x) else if kd = 8 ∧ nm = x then false else (ks.map fun q => frT x q).any id
theorem frT_var (x : ByteArray) (t : Ty) (h : t.kind = 9) : frT x t = decide (t.name = x) := by cases t; rw [frT, if_pos h]
theorem frT_rec (x : ByteArray) (t : Ty) (h : t.kind = 8 ∧ t.name = x) : frT x t = false := by
  cases t
  rw [frT, if_neg (by have h8 := h.1; simp only at h8; omega), if_pos h]
theorem frT_else (x : ByteArray) (t : Ty) (h9 : t.kind ≠ 9) (h8 : ¬ (t.kind = 8 ∧ t.name = x)) : frT x t = t.kids.any (frT x) := by
  cases t
  rw [frT, if_neg h9, if_neg h8, List.any_map]
  rfl
/-- a name c of what is put there would be caught -/
def capT (x c : ByteArray) : Ty → Bool
  | ⟨kd, _, nm, _, ks⟩ => if kd = 9 ∧ nm = x then false else if kd = 8 ∧ nm = x then false else if kd = 8 ∧ nm = c ∧ ks.any (frT x) = true then true else (ks.map fun q => capT x c q).any id
theorem capT_var (x c : ByteArray) (t : Ty) (h : t.kind = 9 ∧ t.name = x) : capT x c t = false := by cases t; rw [capT, if_pos h]
theorem capT_rec (x c : ByteArray) (t : Ty) (h : t.kind = 8 ∧ t.name = x) : capT x c t = false := by
  cases t
  rw [capT, if_neg (by rintro ⟨h9, _⟩; have h8 := h.1; simp only at h8 h9; omega), if_pos h]
theorem capT_yes (x c : ByteArray) (t : Ty) (h8 : ¬ (t.kind = 8 ∧ t.name = x)) (h : t.kind = 8 ∧ t.name = c ∧ t.kids.any (frT x) = true) : capT x c t = true := by
  cases t
  rw [capT, if_neg (by rintro ⟨h9, _⟩; have h8 := h.1; simp only at h8 h9; omega), if_neg h8, if_pos h]
theorem capT_else (x c : ByteArray) (t : Ty) (h9 : ¬ (t.kind = 9 ∧ t.name = x)) (h8 : ¬ (t.kind = 8 ∧ t.name = x)) (h : ¬ (t.kind = 8 ∧ t.name = c ∧ t.kids.any (frT x) = true)) : capT x c t = t.kids.any (capT x c) := by
  cases t
  rw [capT, if_neg h9, if_neg h8, if_neg h, List.any_map]
  rfl
theorem any_false {α : Type} {l : List α} {p : α → Bool} (h : l.any p = false) : ∀ a ∈ l, p a = false := by
  intro a ha
  cases hp : p a with
  | false => rfl
  | true => rw [List.any_eq_true.2 ⟨a, ha, hp⟩] at h; cases h
/-- names that are not free are of no account -/
theorem fr_den (x : ByteArray) : ∀ t : Ty, wfT t → frT x t = false → ∀ r d, den t (upD r x d) = den t r := by
  apply tyInd
  intro t ih hw hf r d
  obtain ⟨hp, hk⟩ := (wfT_eq t).1 hw
  by_cases h9 : t.kind = 9
  · rw [frT_var x t h9] at hf
    rw [den_var t _ h9, den_var t _ h9]
    unfold upD
    rw [if_neg (by simpa using hf)]
  by_cases h8 : t.kind = 8
  · obtain ⟨q, hq⟩ := part_rec hp h8
    have hm : q ∈ t.kids := by rw [hq]; exact .head _
    rw [den_rec t _ h8 q hq, den_rec t _ h8 q hq]
    have e : (fun f => den q (upD (upD r x d) t.name f)) = fun f => den q (upD r t.name f) := funext fun f => by
      by_cases hn : t.name = x
      · congr 1
        funext y
        unfold upD
        by_cases hy : y = t.name
        · rw [if_pos hy, if_pos hy]
        · rw [if_neg hy, if_neg hy, if_neg (by rw [← hn]; exact hy)]
      · rw [frT_else x t h9 (fun h => hn h.2)] at hf
        have hfq := any_false hf q hm
        have e2 : upD (upD r x d) t.name f = upD (upD r t.name f) x d := by
          funext y
          unfold upD
          by_cases hy : y = t.name
          · rw [if_pos hy, if_pos hy, if_neg (by rw [hy]; exact hn)]
          · rw [if_neg hy, if_neg hy]
        rw [e2]
        exact ih q hm (hk q hm) hfq _ d
    rw [e]
  · rw [frT_else x t h9 (fun h => h8 h.1)] at hf
    rw [den_node t _ h9 h8, den_node t _ h9 h8]
    congr 1
    exact List.map_congr_left fun q hq => ih q hq (hk q hq) (any_false hf q hq) r d
/-- what it does, where nothing is caught -/
theorem put_den (x c : ByteArray) (s : Ty) (hws : wfT s) (hs : clT s [c]) : ∀ t : Ty, wfT t → capT x c t = false → ∀ r, den (putT x s t) r = den t (upD r x (den s r)) := by
  apply tyInd
  intro t ih hw hc r
  obtain ⟨hp, hk⟩ := (wfT_eq t).1 hw
  by_cases h9x : t.kind = 9 ∧ t.name = x
  · rw [putT_var x s t h9x, den_var t _ h9x.1]
    unfold upD
    rw [if_pos h9x.2]
  by_cases h8x : t.kind = 8 ∧ t.name = x
  · rw [putT_rec x s t h8x]
    exact (fr_den x t hw (frT_rec x t h8x) r _).symm
  rw [putT_else x s t h9x h8x]
  by_cases h9 : t.kind = 9
  · rw [den_var t _ h9, den_var _ _ (by exact h9)]
    unfold upD
    rw [if_neg (fun h => h9x ⟨h9, h⟩)]
  by_cases h8 : t.kind = 8
  · obtain ⟨q, hq⟩ := part_rec hp h8
    have hm : q ∈ t.kids := by rw [hq]; exact .head _
    have hn : ¬ t.name = x := fun h => h8x ⟨h8, h⟩
    have hcq : capT x c q = false := by
      by_cases hy : t.kind = 8 ∧ t.name = c ∧ t.kids.any (frT x) = true
      · rw [capT_yes x c t h8x hy] at hc; cases hc
      · rw [capT_else x c t h9x h8x hy] at hc; exact any_false hc q hm
    rw [den_rec t _ h8 q hq, den_rec _ _ (by exact h8) (putT x s q) (by simp [hq])]
    have e : (fun f => den (putT x s q) (upD r t.name f)) = fun f => den q (upD (upD r x (den s r)) t.name f) := funext fun f => by
      rw [ih q hm (hk q hm) hcq]
      have e2 : ∀ d, upD (upD r t.name f) x d = upD (upD r x d) t.name f := fun d => by
        funext y
        unfold upD
        by_cases hy : y = t.name
        · rw [if_pos hy, if_pos hy, if_neg (by rw [hy]; exact hn)]
        · rw [if_neg hy, if_neg hy]
      by_cases hnc : t.name = c
      · by_cases hy : t.kids.any (frT x) = true
        · rw [capT_yes x c t h8x ⟨h8, hnc, hy⟩] at hc; cases hc
        · have hfq : frT x q = false := any_false (by simpa using hy) q hm
          rw [fr_den x q (hk q hm) hfq, ← e2, fr_den x q (hk q hm) hfq]
      · rw [den_cl s hws [c] (upD r t.name f) r hs (fun y hy => by
          rw [List.mem_singleton] at hy
          subst hy
          unfold upD
          rw [if_neg (fun h => hnc h.symm)]), e2]
    have e3 : (⟨t.kind, t.so, t.name, t.labels, t.kids.map (putT x s)⟩ : Ty).name = t.name := rfl
    rw [e3, e]
  · have hc' : t.kids.any (capT x c) = false := by rw [capT_else x c t h9x h8x (fun h => h8 h.1)] at hc; exact hc
    rw [den_node t _ h9 h8, den_node _ _ (by exact h9) (by exact h8)]
    simp only [List.map_map]
    congr 1
    exact List.map_congr_left fun q hq => ih q hq (hk q hq) (any_false hc' q hq) r
/-! ### What Check says -/
theorem clT_mono : ∀ t : Ty, ∀ ns ms, (∀ y ∈ ns, y ∈ ms) → clT t ns → clT t ms := by
  apply tyInd
  intro t ih ns ms h hc
  obtain ⟨c1, c2⟩ := (clT_eq t ns).1 hc
  refine (clT_eq t ms).2 ⟨fun h9 => h _ (c1 h9), fun k hk => ih k hk _ _ (fun y hy => ?_) (c2 k hk)⟩
  by_cases h8 : t.kind = 8
  · rw [if_pos h8] at hy ⊢
    rcases List.mem_append.1 hy with hy | hy
    · exact List.mem_append.2 (.inl (h y hy))
    · exact List.mem_append.2 (.inr hy)
  · rw [if_neg h8] at hy ⊢; exact h y hy
theorem put_cl (x : ByteArray) (s : Ty) : ∀ t : Ty, ∀ ns ms, (∀ y ∈ ns, y ≠ x → y ∈ ms) → clT s ms → clT t ns → clT (putT x s t) ms := by
  apply tyInd
  intro t ih ns ms h hs hc
  obtain ⟨c1, c2⟩ := (clT_eq t ns).1 hc
  by_cases h9x : t.kind = 9 ∧ t.name = x
  · rw [putT_var x s t h9x]; exact hs
  by_cases h8x : t.kind = 8 ∧ t.name = x
  · rw [putT_rec x s t h8x]
    refine (clT_eq t ms).2 ⟨fun h9 => absurd (h8x.1.symm.trans h9) (by decide), fun k hk => ?_⟩
    refine clT_mono k _ _ (fun y hy => ?_) (c2 k hk)
    rw [if_pos h8x.1] at hy ⊢
    rcases List.mem_append.1 hy with hy | hy
    · by_cases hyx : y = x
      · exact List.mem_append.2 (.inr (by rw [hyx, h8x.2]; exact .head _))
      · exact List.mem_append.2 (.inl (h y hy hyx))
    · exact List.mem_append.2 (.inr hy)
  rw [putT_else x s t h9x h8x]
  refine (clT_eq _ ms).2 ⟨fun h9 => h _ (c1 h9) (fun e => h9x ⟨h9, e⟩), fun k hk => ?_⟩
  obtain ⟨q, hq, rfl⟩ := List.mem_map.1 hk
  refine ih q hq _ _ (fun y hy hyx => ?_) ?_ (c2 q hq)
  · show y ∈ if t.kind = 8 then ms ++ [t.name] else ms
    by_cases h8 : t.kind = 8
    · rw [if_pos h8] at hy ⊢
      rcases List.mem_append.1 hy with hy | hy
      · exact List.mem_append.2 (.inl (h y hy hyx))
      · exact List.mem_append.2 (.inr hy)
    · rw [if_neg h8] at hy ⊢; exact h y hy hyx
  · show clT s (if t.kind = 8 then ms ++ [t.name] else ms)
    by_cases h8 : t.kind = 8
    · rw [if_pos h8]; exact clT_mono s _ _ (fun y hy => List.mem_append.2 (.inl hy)) hs
    · rw [if_neg h8]; exact hs
theorem put_id (x : ByteArray) (s : Ty) : ∀ t : Ty, wfT t → idT t = false → idT (putT x s t) = false := by
  apply tyInd
  intro t ih hw hi
  obtain ⟨hp, hk⟩ := (wfT_eq t).1 hw
  by_cases h9 : t.kind = 9
  · rw [idT_var t h9] at hi; cases hi
  have h9x : ¬ (t.kind = 9 ∧ t.name = x) := fun h => h9 h.1
  by_cases h8x : t.kind = 8 ∧ t.name = x
  · rw [putT_rec x s t h8x]; exact hi
  rw [putT_else x s t h9x h8x]
  by_cases h8 : t.kind = 8
  · obtain ⟨q, hq⟩ := part_rec hp h8
    have hm : q ∈ t.kids := by rw [hq]; exact .head _
    rw [idT_rec t h8 q hq] at hi
    rw [idT_rec _ (by exact h8) (putT x s q) (by simp [hq])]
    exact ih q hm (hk q hm) hi
  · exact idT_node _ (by exact h9) (by exact h8)
theorem part_kids {t : Ty} (ks : List Ty) (hl : ks.length = t.kids.length) (h : partT t = true) : partT ⟨t.kind, t.so, t.name, t.labels, ks⟩ = true := by
  rw [← h]
  unfold partT
  simp only [hl]
theorem put_gd (x : ByteArray) (s : Ty) (hs : gdT s) : ∀ t : Ty, gdT t → gdT (putT x s t) := by
  apply tyInd
  intro t ih hg
  obtain ⟨hp, hi, hk⟩ := (gdT_eq t).1 hg
  by_cases h9x : t.kind = 9 ∧ t.name = x
  · rw [putT_var x s t h9x]; exact hs
  by_cases h8x : t.kind = 8 ∧ t.name = x
  · rw [putT_rec x s t h8x]; exact hg
  rw [putT_else x s t h9x h8x]
  refine (gdT_eq _).2 ⟨part_kids _ (by simp) hp, fun h8 => ?_, fun k hk' => ?_⟩
  · have := put_id x s t (gdT_wf t hg) (hi h8)
    rw [putT_else x s t h9x h8x] at this
    exact this
  · obtain ⟨q, hq, rfl⟩ := List.mem_map.1 hk'
    exact ih q hq (hk q hq)
theorem sum_map_le {l : List Ty} {f g : Ty → Nat} {c : Nat} (h : ∀ a ∈ l, f a ≤ g a * c) : (l.map f).sum ≤ (l.map g).sum * c := by
  induction l with
  | nil => simp
  | cons a l ih =>
    simp only [List.map_cons, List.sum_cons, Nat.add_mul]
    exact Nat.add_le_add (h a (.head _)) (ih fun b hb => h b (.tail _ hb))
theorem put_size (x : ByteArray) (s : Ty) : ∀ t : Ty, sizeT (putT x s t) ≤ sizeT t * sizeT s := by
  have h1 := sizeT_eq s
  apply tyInd
  intro t ih
  have h2 := sizeT_eq t
  by_cases h9x : t.kind = 9 ∧ t.name = x
  · rw [putT_var x s t h9x]
    exact Nat.le_mul_of_pos_left _ (by omega)
  by_cases h8x : t.kind = 8 ∧ t.name = x
  · rw [putT_rec x s t h8x]
    exact Nat.le_mul_of_pos_right _ (by omega)
  rw [putT_else x s t h9x h8x, sizeT_eq, h2, Nat.add_mul, Nat.one_mul]
  simp only [List.map_map]
  exact Nat.add_le_add (by omega) (sum_map_le (f := sizeT ∘ putT x s) fun a ha => ih a ha)
theorem chkTL_or (ar : List ByteArray) (ks : List Ty) : ∀ (a : Int × Nat), a.1 = 0 → (∀ k ∈ ks, ∀ c, (chkT k ar c).1 = 0 ∨ ((chkT k ar c).1 = 2 ∧ 60 < c + sizeT k)) → (chkTL ar ks a).1 = 0 ∨ ((chkTL ar ks a).1 = 2 ∧ 60 < a.2 + (ks.map sizeT).sum) := by
  induction ks with
  | nil => intro a h _; exact .inl h
  | cons k ks ih =>
    intro a h hk
    rw [chkTL_cons, if_neg (by simpa using h)]
    simp only [List.map_cons, List.sum_cons]
    rcases hk k (.head _) a.2 with h1 | ⟨h1, h2⟩
    · have h3 := (chkT_all k ar a.2 h1).2
      rcases ih _ h1 (fun q hq => hk q (.tail _ hq)) with h4 | ⟨h4, h5⟩
      · exact .inl h4
      · exact .inr ⟨h4, by rw [h3] at h5; omega⟩
    · rw [chkTL_bad _ _ _ (by rw [h1]; decide)]
      exact .inr ⟨h1, by omega⟩
theorem chkT_or : ∀ t : Ty, ∀ ar c, gdT t → clT t ar → sizeT t ≤ 65536 → (chkT t ar c).1 = 0 ∨ ((chkT t ar c).1 = 2 ∧ 60 < c + sizeT t) := by
  apply tyInd
  intro t ih ar c hg hc hs
  obtain ⟨hp, hi, hk⟩ := (gdT_eq t).1 hg
  obtain ⟨c1, c2⟩ := (clT_eq t ar).1 hc
  have h1 := sizeT_eq t
  rw [chkT_eq]
  by_cases h60 : 60 < c + 1
  · rw [if_pos h60]; exact .inr ⟨rfl, by omega⟩
  rw [if_neg h60, if_neg (by rw [hp]; decide), if_neg (by rintro ⟨h9, hh⟩; rw [(hasN_iff _ _).2 (c1 h9)] at hh; cases hh), if_neg (by rintro ⟨h8, hh⟩; rw [idle_idT t (gdT_wf t hg) 65536 hs, hi h8] at hh; cases hh)]
  rcases chkTL_or (if t.kind = 8 then ar ++ [t.name] else ar) t.kids (0, c + 1) rfl (fun k hm c' => ih k hm _ c' (hk k hm) (c2 k hm) (by have := sizeT_kid hm; omega)) with h | ⟨h, h2⟩
  · exact .inl h
  · exact .inr ⟨h, by simp only at h2; omega⟩
/-- what Check lets by, and what is too large -/
theorem chkTy_or {t : Ty} (hg : gdT t) (hc : clT t []) (hs : sizeT t ≤ 65536) : chkTy t = 0 ∨ (chkTy t = 2 ∧ 60 < sizeT t) := by
  have := chkT_or t [] 0 hg hc hs
  rw [Nat.zero_add] at this
  exact this
/-! ### The two laws -/
def nmX : ByteArray := ⟨#[120]⟩
def nmY : ByteArray := ⟨#[121]⟩
def varT (x : ByteArray) : Ty := ⟨9, 0, x, [], []⟩
def recT (x : ByteArray) (b : Ty) : Ty := ⟨8, 0, x, [], [b]⟩
theorem upD_comm {x y : ByteArray} (h : x ≠ y) (r : ByteArray → Dn) (f g : Dn) : upD (upD r x f) y g = upD (upD r y g) x f := by
  funext z
  unfold upD
  by_cases h1 : z = y
  · rw [if_pos h1, if_pos h1, if_neg (by rw [h1]; exact fun e => h e.symm)]
  · rw [if_neg h1, if_neg h1]
theorem isVrX : isVr nmX.data.toList = true := by decide
theorem isVrY : isVr nmY.data.toList = true := by decide
theorem var_gd {x : ByteArray} (h : isVr x.data.toList = true) : gdT (varT x) := (gdT_eq _).2 ⟨by unfold partT varT; simp [h], fun h8 => absurd (show (9 : Int) = 8 from h8) (by decide), fun k hk => (by cases hk)⟩
/-- BEKIC -/
theorem bekic {b : Ty} (h : chkTy (recT nmX (recT nmY b)) = 0) (hc : capT nmY nmX b = false) :
    chkTy (recT nmX (putT nmY (varT nmX) b)) = 0 ∧ den (recT nmX (recT nmY b)) e0 = den (recT nmX (putT nmY (varT nmX) b)) e0 := by
  obtain ⟨hg, hcl, _⟩ := chkTy_gd _ h
  obtain ⟨_, hsz⟩ := chkTy_good _ h
  obtain ⟨q, hq, hgy, hiy⟩ := rec_parts hg rfl
  obtain rfl : recT nmY b = q := by injection hq
  obtain ⟨q, hq, hgb, hib⟩ := rec_parts hgy rfl
  obtain rfl : b = q := by injection hq
  have hcb : clT b [nmX, nmY] := ((clT_eq _ _).1 (((clT_eq _ _).1 hcl).2 (recT nmY b) (.head _))).2 b (.head _)
  have hgp := put_gd nmY (varT nmX) (var_gd isVrX) b hgb
  have hip := put_id nmY (varT nmX) b (gdT_wf b hgb) hib
  have hg2 : gdT (recT nmX (putT nmY (varT nmX) b)) := (gdT_eq _).2 ⟨by unfold partT recT; simp [isVrX], fun _ => by rw [idT_rec _ rfl _ rfl]; exact hip, fun k hk => by rw [List.mem_singleton.1 hk]; exact hgp⟩
  have hclv : clT (varT nmX) [nmX] := (clT_eq _ _).2 ⟨fun _ => .head _, fun k hk => (by cases hk)⟩
  have hcp : clT (putT nmY (varT nmX) b) [nmX] := put_cl nmY (varT nmX) b _ _ (fun y hy hn => by
    rcases List.mem_cons.1 hy with rfl | hy
    · exact .head _
    · exact absurd (List.mem_singleton.1 hy) hn) hclv hcb
  have hc2 : clT (recT nmX (putT nmY (varT nmX) b)) [] := (clT_eq _ _).2 ⟨fun h9 => absurd (show (8 : Int) = 9 from h9) (by decide), fun k hk => by rw [List.mem_singleton.1 hk]; exact hcp⟩
  have s1 : sizeT (recT nmX (recT nmY b)) = 1 + (1 + sizeT b) := by rw [sizeT_eq]; show 1 + (sizeT (recT nmY b) + 0) = _; rw [sizeT_eq]; rfl
  have s2 : sizeT (recT nmX (putT nmY (varT nmX) b)) = 1 + sizeT (putT nmY (varT nmX) b) := by rw [sizeT_eq]; rfl
  have s3 := put_size nmY (varT nmX) b
  have s4 : sizeT (varT nmX) = 1 := by rw [sizeT_eq]; rfl
  rw [s4, Nat.mul_one] at s3
  refine ⟨?_, ?_⟩
  · rcases chkTy_or hg2 hc2 (by omega) with h0 | ⟨_, h0⟩
    · exact h0
    · omega
  · refine den_one hg2 rfl rfl e0 ?_
    have hxy : nmX ≠ nmY := by decide
    have f1 := den_fix hg rfl rfl e0
    have f2 := den_fix hgy rfl rfl (upD e0 nmX (den (recT nmX (recT nmY b)) e0))
    have hw := gdT_wf b hgb
    rw [put_den nmY nmX (varT nmX) (gdT_wf _ (var_gd isVrX)) hclv b hw hc]
    have e1 : den (varT nmX) (upD e0 nmX (den (recT nmX (recT nmY b)) e0)) = den (recT nmX (recT nmY b)) e0 := by
      rw [den_var _ _ rfl]
      show upD e0 nmX _ nmX = _
      unfold upD
      rw [if_pos rfl]
    show den (recT nmX (recT nmY b)) e0 = den b (upD (upD e0 nmX (den (recT nmX (recT nmY b)) e0)) nmY (den (varT nmX) (upD e0 nmX (den (recT nmX (recT nmY b)) e0))))
    rw [e1]
    have f1' : den (recT nmX (recT nmY b)) e0 = den (recT nmY b) (upD e0 nmX (den (recT nmX (recT nmY b)) e0)) := f1
    rw [← f1'] at f2
    exact f2
theorem cap_none (x : ByteArray) : ∀ t : Ty, wfT t → capT x ⟨#[]⟩ t = false := by
  apply tyInd
  intro t ih hw
  obtain ⟨hp, hk⟩ := (wfT_eq t).1 hw
  by_cases h9x : t.kind = 9 ∧ t.name = x
  · exact capT_var x _ t h9x
  by_cases h8x : t.kind = 8 ∧ t.name = x
  · exact capT_rec x _ t h8x
  have hn : ¬ (t.kind = 8 ∧ t.name = ⟨#[]⟩ ∧ t.kids.any (frT x) = true) := by
    rintro ⟨h8, he, _⟩
    unfold partT at hp
    simp [h8, he] at hp
    exact absurd hp.1.1.2 (by decide)
  rw [capT_else x _ t h9x h8x hn]
  rw [Bool.eq_false_iff]
  intro ha
  obtain ⟨k, hm, hc⟩ := List.any_eq_true.1 ha
  rw [ih k hm (hk k hm)] at hc; cases hc
/-- MILNER -/
theorem milner {b s : Ty} (h : chkTy (recT nmX b) = 0) (hs : chkTy s = 0) :
    (chkTy (putT nmX s b) = 0 ∨ chkTy (putT nmX s b) = 2) ∧ (den s e0 = den (putT nmX s b) e0 ↔ den s e0 = den (recT nmX b) e0) := by
  obtain ⟨hg, hcl, _⟩ := chkTy_gd _ h
  obtain ⟨_, hsz⟩ := chkTy_good _ h
  obtain ⟨hgs, hcs, _⟩ := chkTy_gd _ hs
  obtain ⟨_, hss⟩ := chkTy_good _ hs
  obtain ⟨q, hq, hgb, hib⟩ := rec_parts hg rfl
  obtain rfl : b = q := by injection hq
  have hcb : clT b [nmX] := ((clT_eq _ _).1 hcl).2 b (.head _)
  have hgp := put_gd nmX s hgs b hgb
  have hcp : clT (putT nmX s b) [] := put_cl nmX s b _ _ (fun y hy hn => absurd (List.mem_singleton.1 hy) hn) hcs hcb
  have s1 : sizeT (recT nmX b) = 1 + sizeT b := by rw [sizeT_eq]; rfl
  have s3 := put_size nmX s b
  have s4 : sizeT b * sizeT s ≤ 60 * 60 := Nat.mul_le_mul (by omega) hss
  refine ⟨?_, ?_⟩
  · rcases chkTy_or hgp hcp (by omega) with h0 | ⟨h0, _⟩
    · exact .inl h0
    · exact .inr h0
  · have hw := gdT_wf b hgb
    rw [put_den nmX ⟨#[]⟩ s (gdT_wf s hgs) (clT_mono s [] _ (fun y hy => (by cases hy)) hcs) b hw (cap_none nmX b hw)]
    constructor
    · intro e; exact den_one hg rfl rfl e0 e
    · intro e
      have f1 : den (recT nmX b) e0 = den b (upD e0 nmX (den (recT nmX b) e0)) := den_fix hg rfl rfl e0
      rw [e]; exact f1
end Go.Proofs.YtnlpnbelkkgghaaDoor
