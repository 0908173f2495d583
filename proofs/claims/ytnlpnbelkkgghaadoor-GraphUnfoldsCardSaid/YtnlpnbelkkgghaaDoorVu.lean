/-
  The contracts of below.Is and below.Why, for every two types.
-/
import Derived.Test.YtnlpnbelkkgghaaDoorVn
import Derived.Test.YtnlpnbelkkgghaaDoorIh
import Derived.Test.YtnlpnbelkkgghaaDoorVa
namespace Go.Proofs.YtnlpnbelkkgghaaDoor
open Go.RowKit Go.Shelf

theorem OFG.uniq {t : Ty} {g h : List Nd} (hg : OFG t g) (hh : OFG t h) : g = h := (hg.same hh).2 rfl
/-- one type is below another one -/
def BT (s t : Ty) : Prop := ∃ g h, OFG s g ∧ OFG t h ∧ ∀ k, bl k g h 0 0
end Go.Proofs.YtnlpnbelkkgghaaDoor
/-
  The law of duetkeep.BelowOrder: whatever types are handed in it answers true.
-/
namespace Go.Proofs.YtnlpnbelkkgghaaDoor
open Go.RowKit Go.Shelf

theorem OFG.bl_refl {s : Ty} {g : List Nd} (h : OFG s g) : BT s s := ⟨g, g, h, h, fun k => Go.Proofs.YtnlpnbelkkgghaaDoor.bl_refl h.gn k h.gn.pos⟩
theorem cls_ex {g : List Nd} (hs : shutG g) : ∃ c, CLS g c := by
  have : ∀ n k c, patG g k c → g.length - cnt c ≤ n → ∃ c, CLS g c := by
    intro n
    induction n with
    | zero =>
      intro k c hp hn
      by_cases he : (splitG g c).1.length = cnt c
      · exact ⟨_, cls_done hs hp he⟩
      · have := cls_more hs hp he; omega
    | succ n ih =>
      intro k c hp hn
      by_cases he : (splitG g c).1.length = cnt c
      · exact ⟨_, cls_done hs hp he⟩
      · have h1 := cls_more hs hp he
        have h2 := (split_inv g c).cn
        exact ih (k + 1) (splitG g c).2 (pat_split hs hp) (by omega)
  exact this _ 0 _ (pat_zero g) (Nat.le_refl _)
theorem OFG_ex {t : Ty} (h : chkTy t = 0) : ∃ g, OFG t g := by
  have hg := lay_gn h
  obtain ⟨c, hc⟩ : ∃ c, CLS (layP t [] 0).2 c := cls_ex hg.shut
  exact ⟨_, ⟨h, c, hc, rfl⟩⟩
theorem end_chk : chkTy endT = 0 := by
  unfold chkTy
  rw [chkT_eq, if_neg (by decide)]
  have hp : partT endT = true := by unfold partT endT; simp
  rw [hp, if_neg (by decide), if_neg (by decide), if_neg (by decide)]
  rfl
theorem end_bd : TyBd endT 0 0 := ⟨by decide, fun l hl => (by cases hl), by decide, by decide, by decide, by decide⟩
/-- three types in boxes -/
structure BX3 (w : World) (s : Ty) (sal : Option Addr) (scl : Nat) (sak : Option Addr) (sck : Nat) (t : Ty) (al : Option Addr) (cl : Nat) (ak : Option Addr) (ck : Nat) (u : Ty) (ual : Option Addr) (ucl : Nat) (uak : Option Addr) (uck : Nat) (W : World) : Prop where
  x : TyAt W w.heap.size 0 s sal scl sak sck
  y : TyAt W (w.heap.size + 1) 0 t al cl ak ck
  z : TyAt W (w.heap.size + 1 + 1) 0 u ual ucl uak uck
  lt : w.heap.size + 1 + 1 < W.heap.size
  bl : Below w.heap.size w W
theorem BX3.keep {w : World} {s : Ty} {sal : Option Addr} {scl : Nat} {sak : Option Addr} {sck : Nat} {t : Ty} {al : Option Addr} {cl : Nat} {ak : Option Addr} {ck : Nat} {u : Ty} {ual : Option Addr} {ucl : Nat} {uak : Option Addr} {uck : Nat} {W W' : World} (h : BX3 w s sal scl sak sck t al cl ak ck u ual ucl uak uck W) (hb : Below W.heap.size W W') : BX3 w s sal scl sak sck t al cl ak ck u ual ucl uak uck W' :=
  ⟨h.x.keep hb (by have := h.lt; omega), h.y.keep hb (by have := h.lt; omega), h.z.keep hb h.lt, Nat.lt_of_lt_of_le h.lt hb.size, h.bl.trans (hb.mono h.bl.size)⟩
theorem BX3.new (w : World) (s : Ty) (sal : Option Addr) (scl : Nat) (sak : Option Addr) (sck : Nat) (t : Ty) (al : Option Addr) (cl : Nat) (ak : Option Addr) (ck : Nat) (u : Ty) (ual : Option Addr) (ucl : Nat) (uak : Option Addr) (uck : Nat) : BX3 w s sal scl sak sck t al cl ak ck u ual ucl uak uck (((w.alloc (.cells #[.int .i64 s.kind, .int .i64 s.so, .string s.name, .slice sal s.labels.length scl, .slice sak s.kids.length sck] 25)).alloc (.cells #[.int .i64 t.kind, .int .i64 t.so, .string t.name, .slice al t.labels.length cl, .slice ak t.kids.length ck] 25)).alloc (.cells #[.int .i64 u.kind, .int .i64 u.so, .string u.name, .slice ual u.labels.length ucl, .slice uak u.kids.length uck] 25)) :=
  ⟨⟨by go_cell, by go_cell, by go_cell, by go_cell, by go_cell⟩, ⟨by go_cell, by go_cell, by go_cell, by go_cell, by go_cell⟩, ⟨by go_cell, by go_cell, by go_cell, by go_cell, by go_cell⟩, by simp, ((((Below.refl _ _).alloc (Nat.le_refl _) _).alloc (by simp) _).alloc (by simp; omega) _)⟩
end Go.Proofs.YtnlpnbelkkgghaaDoor

/-
  The law of duetkeep.GraphUnique: whatever types are handed in it answers true.
-/
namespace Go.Proofs.YtnlpnbelkkgghaaDoor
open Go.RowKit Go.Shelf

theorem end_len {g : List Nd} (h : OFG endT g) : g.length = 1 := by
  have h1 := h.gn.pos
  obtain ⟨c, hc, rfl⟩ := h.src
  have h2 := (least_gn (lay_gn h.chk) hc).2.2
  obtain ⟨hw, _⟩ := chkTy_good _ h.chk
  have e := lay_size endT hw [] 0
  have e2 : sizeT endT = 1 := by rw [sizeT_eq]; rfl
  omega
/-- the graph of End has one node -/
theorem ofEnd (w : World) : Calls Tryd.prog 8 #[.agg #[.int .i64 1, .int .i64 0, .string ⟨#[]⟩, .slice none 0 0, .slice none 0 0]] w fun e w' => (∃ ag cg, e = .returned (.tuple #[.slice ag 1 cg, .int .i64 0])) ∧ Below w.heap.size w w' := by
  refine (of_any 0 endT none 0 none 0 w end_bd (.inl rfl) rfl).mono ?_
  rintro e w' ⟨h | ⟨g, ag, cg, hg, rfl, _⟩, hb⟩
  · exact absurd end_chk h.1
  · exact ⟨⟨ag, cg, by rw [end_len hg]⟩, hb⟩
/-- a Rec around what lies in a literal -/
theorem kt_lit {W : World} {d : Nat} {t : Ty} {al : Option Addr} {cl : Nat} {ak : Option Addr} {ck : Nat} (hbd : TyBd t cl ck) (hla : LA W W.heap.size t.labels al) (hkt : KT W W.heap.size d t.kids ak) : KT (W.alloc (.cells #[.int .i64 t.kind, .int .i64 t.so, .string t.name, .slice al t.labels.length cl, .slice ak t.kids.length ck] 25)) (W.alloc (.cells #[.int .i64 t.kind, .int .i64 t.so, .string t.name, .slice al t.labels.length cl, .slice ak t.kids.length ck] 25)).heap.size (d + 1) [t] (some ⟨W.heap.size, 0, none⟩) := by
  have hA : Below W.heap.size W (W.alloc (.cells #[.int .i64 t.kind, .int .i64 t.so, .string t.name, .slice al t.labels.length cl, .slice ak t.kids.length ck] 25)) := (Below.refl _ _).alloc (Nat.le_refl _) _
  refine .inr ⟨W.heap.size, 0, rfl, by simp, fun i hi => ?_⟩
  have hi' : i < [t].length := hi
  obtain rfl : i = 0 := by simp at hi'; omega
  exact ⟨al, cl, ak, ck, ⟨by go_cell, by go_cell, by go_cell, by go_cell, by go_cell⟩, hbd, (hla.keep hA).mono hA.size, (hkt.keep hA).mono hA.size⟩
end Go.Proofs.YtnlpnbelkkgghaaDoor
