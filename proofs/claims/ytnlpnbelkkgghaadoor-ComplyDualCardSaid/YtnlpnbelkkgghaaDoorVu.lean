/-
  The contract of duetkeep.put, for every type that is right in all its parts.
-/
import Derived.Test.YtnlpnbelkkgghaaDoorVl
import Derived.Test.YtnlpnbelkkgghaaDoorVc
namespace Go.Proofs.YtnlpnbelkkgghaaDoor
open Go.RowKit Go.Shelf

/-- the boxes of put, without what is made -/
theorem px_keep {w w1 : World} {t : Ty} {al : Option Addr} {cl : Nat} {ak : Option Addr} {ck : Nat} {s : Ty} {sal : Option Addr} {scl : Nat} {sak : Option Addr} {sck : Nat} (hb : Below (((w.alloc (.cells #[.int .i64 t.kind, .int .i64 t.so, .string t.name, .slice al t.labels.length cl, .slice ak t.kids.length ck] 25)).alloc (.cells #[.int .i64 s.kind, .int .i64 s.so, .string s.name, .slice sal s.labels.length scl, .slice sak s.kids.length sck] 25)).alloc (.cells #[.int .i64 0, .int .i64 0, .string ⟨#[]⟩, .slice none 0 0, .slice none 0 0] 25)).heap.size (((w.alloc (.cells #[.int .i64 t.kind, .int .i64 t.so, .string t.name, .slice al t.labels.length cl, .slice ak t.kids.length ck] 25)).alloc (.cells #[.int .i64 s.kind, .int .i64 s.so, .string s.name, .slice sal s.labels.length scl, .slice sak s.kids.length sck] 25)).alloc (.cells #[.int .i64 0, .int .i64 0, .string ⟨#[]⟩, .slice none 0 0, .slice none 0 0] 25)) w1) : Below w.heap.size w w1 ∧ w.heap.size + 3 ≤ w1.heap.size ∧ ∀ b o, b < w.heap.size + 3 → w1.cell? ⟨b, o, none⟩ = (((w.alloc (.cells #[.int .i64 t.kind, .int .i64 t.so, .string t.name, .slice al t.labels.length cl, .slice ak t.kids.length ck] 25)).alloc (.cells #[.int .i64 s.kind, .int .i64 s.so, .string s.name, .slice sal s.labels.length scl, .slice sak s.kids.length sck] 25)).alloc (.cells #[.int .i64 0, .int .i64 0, .string ⟨#[]⟩, .slice none 0 0, .slice none 0 0] 25)).cell? ⟨b, o, none⟩ ∧ w1.frozen? ⟨b, o, none⟩ = (((w.alloc (.cells #[.int .i64 t.kind, .int .i64 t.so, .string t.name, .slice al t.labels.length cl, .slice ak t.kids.length ck] 25)).alloc (.cells #[.int .i64 s.kind, .int .i64 s.so, .string s.name, .slice sal s.labels.length scl, .slice sak s.kids.length sck] 25)).alloc (.cells #[.int .i64 0, .int .i64 0, .string ⟨#[]⟩, .slice none 0 0, .slice none 0 0] 25)).frozen? ⟨b, o, none⟩ := by
  have hA : Below w.heap.size w (((w.alloc (.cells #[.int .i64 t.kind, .int .i64 t.so, .string t.name, .slice al t.labels.length cl, .slice ak t.kids.length ck] 25)).alloc (.cells #[.int .i64 s.kind, .int .i64 s.so, .string s.name, .slice sal s.labels.length scl, .slice sak s.kids.length sck] 25)).alloc (.cells #[.int .i64 0, .int .i64 0, .string ⟨#[]⟩, .slice none 0 0, .slice none 0 0] 25)) := (((Below.refl _ _).alloc (Nat.le_refl _) _).alloc (by simp) _).alloc (by simp; omega) _
  have hsz : (((w.alloc (.cells #[.int .i64 t.kind, .int .i64 t.so, .string t.name, .slice al t.labels.length cl, .slice ak t.kids.length ck] 25)).alloc (.cells #[.int .i64 s.kind, .int .i64 s.so, .string s.name, .slice sal s.labels.length scl, .slice sak s.kids.length sck] 25)).alloc (.cells #[.int .i64 0, .int .i64 0, .string ⟨#[]⟩, .slice none 0 0, .slice none 0 0] 25)).heap.size = w.heap.size + 3 := by simp
  refine ⟨hA.trans (hb.mono hA.size), by have := hb.size; omega, fun b o h => ⟨hb.cell (p := ⟨b, o, none⟩) (by show b < _; omega), hb.frozen (p := ⟨b, o, none⟩) (by show b < _; omega)⟩⟩
theorem px_x {w w1 : World} {t : Ty} {al : Option Addr} {cl : Nat} {ak : Option Addr} {ck : Nat} {s : Ty} {sal : Option Addr} {scl : Nat} {sak : Option Addr} {sck : Nat} (hb : Below (((w.alloc (.cells #[.int .i64 t.kind, .int .i64 t.so, .string t.name, .slice al t.labels.length cl, .slice ak t.kids.length ck] 25)).alloc (.cells #[.int .i64 s.kind, .int .i64 s.so, .string s.name, .slice sal s.labels.length scl, .slice sak s.kids.length sck] 25)).alloc (.cells #[.int .i64 0, .int .i64 0, .string ⟨#[]⟩, .slice none 0 0, .slice none 0 0] 25)).heap.size (((w.alloc (.cells #[.int .i64 t.kind, .int .i64 t.so, .string t.name, .slice al t.labels.length cl, .slice ak t.kids.length ck] 25)).alloc (.cells #[.int .i64 s.kind, .int .i64 s.so, .string s.name, .slice sal s.labels.length scl, .slice sak s.kids.length sck] 25)).alloc (.cells #[.int .i64 0, .int .i64 0, .string ⟨#[]⟩, .slice none 0 0, .slice none 0 0] 25)) w1) : TyAt w1 w.heap.size 0 t al cl ak ck := by
  obtain ⟨_, _, k⟩ := px_keep hb
  exact ⟨(k _ _ (by omega)).1.trans (by go_cell), (k _ _ (by omega)).1.trans (by go_cell), (k _ _ (by omega)).1.trans (by go_cell), (k _ _ (by omega)).1.trans (by go_cell), (k _ _ (by omega)).1.trans (by go_cell)⟩
theorem px_z {w w1 : World} {t : Ty} {al : Option Addr} {cl : Nat} {ak : Option Addr} {ck : Nat} {s : Ty} {sal : Option Addr} {scl : Nat} {sak : Option Addr} {sck : Nat} (hb : Below (((w.alloc (.cells #[.int .i64 t.kind, .int .i64 t.so, .string t.name, .slice al t.labels.length cl, .slice ak t.kids.length ck] 25)).alloc (.cells #[.int .i64 s.kind, .int .i64 s.so, .string s.name, .slice sal s.labels.length scl, .slice sak s.kids.length sck] 25)).alloc (.cells #[.int .i64 0, .int .i64 0, .string ⟨#[]⟩, .slice none 0 0, .slice none 0 0] 25)).heap.size (((w.alloc (.cells #[.int .i64 t.kind, .int .i64 t.so, .string t.name, .slice al t.labels.length cl, .slice ak t.kids.length ck] 25)).alloc (.cells #[.int .i64 s.kind, .int .i64 s.so, .string s.name, .slice sal s.labels.length scl, .slice sak s.kids.length sck] 25)).alloc (.cells #[.int .i64 0, .int .i64 0, .string ⟨#[]⟩, .slice none 0 0, .slice none 0 0] 25)) w1) : ∀ j, j < 5 → (∃ v, w1.cell? ⟨w.heap.size + 1 + 1, j, none⟩ = some v) ∧ w1.frozen? ⟨w.heap.size + 1 + 1, j, none⟩ = false := by
  obtain ⟨_, _, k⟩ := px_keep hb
  intro j hj
  match j, hj with
  | 0, _ => exact ⟨⟨.int .i64 0, (k _ _ (by omega)).1.trans (by go_cell)⟩, (k _ _ (by omega)).2.trans (by go_simp)⟩
  | 1, _ => exact ⟨⟨.int .i64 0, (k _ _ (by omega)).1.trans (by go_cell)⟩, (k _ _ (by omega)).2.trans (by go_simp)⟩
  | 2, _ => exact ⟨⟨.string ⟨#[]⟩, (k _ _ (by omega)).1.trans (by go_cell)⟩, (k _ _ (by omega)).2.trans (by go_simp)⟩
  | 3, _ => exact ⟨⟨.slice none 0 0, (k _ _ (by omega)).1.trans (by go_cell)⟩, (k _ _ (by omega)).2.trans (by go_simp)⟩
  | 4, _ => exact ⟨⟨.slice none 0 0, (k _ _ (by omega)).1.trans (by go_cell)⟩, (k _ _ (by omega)).2.trans (by go_simp)⟩
theorem px_one {w w1 : World} {t : Ty} {al : Option Addr} {cl : Nat} {ak : Option Addr} {ck : Nat} {s : Ty} {sal : Option Addr} {scl : Nat} {sak : Option Addr} {sck : Nat} (hb : Below (((w.alloc (.cells #[.int .i64 t.kind, .int .i64 t.so, .string t.name, .slice al t.labels.length cl, .slice ak t.kids.length ck] 25)).alloc (.cells #[.int .i64 s.kind, .int .i64 s.so, .string s.name, .slice sal s.labels.length scl, .slice sak s.kids.length sck] 25)).alloc (.cells #[.int .i64 0, .int .i64 0, .string ⟨#[]⟩, .slice none 0 0, .slice none 0 0] 25)).heap.size (((w.alloc (.cells #[.int .i64 t.kind, .int .i64 t.so, .string t.name, .slice al t.labels.length cl, .slice ak t.kids.length ck] 25)).alloc (.cells #[.int .i64 s.kind, .int .i64 s.so, .string s.name, .slice sal s.labels.length scl, .slice sak s.kids.length sck] 25)).alloc (.cells #[.int .i64 0, .int .i64 0, .string ⟨#[]⟩, .slice none 0 0, .slice none 0 0] 25)) w1) : PX w t al cl ak ck s sal scl sak sck w1.heap.size (.slice none 0 0) (w1.alloc (.cells #[.int .i64 t.kind, .int .i64 t.so, .string t.name, .slice al t.labels.length cl, .slice none 0 0] 25)) := by
  obtain ⟨h1, h2, k⟩ := px_keep hb
  have hA : Below w1.heap.size w1 (w1.alloc (.cells #[.int .i64 t.kind, .int .i64 t.so, .string t.name, .slice al t.labels.length cl, .slice none 0 0] 25)) := (Below.refl _ _).alloc (Nat.le_refl _) _
  have hy : TyAt w1 (w.heap.size + 1) 0 s sal scl sak sck := ⟨(k _ _ (by omega)).1.trans (by go_cell), (k _ _ (by omega)).1.trans (by go_cell), (k _ _ (by omega)).1.trans (by go_cell), (k _ _ (by omega)).1.trans (by go_cell), (k _ _ (by omega)).1.trans (by go_cell)⟩
  refine ⟨(px_x hb).keep hA (by omega), hy.keep hA (by omega), fun j hj => ?_, by go_cell, by go_cell, by go_cell, by go_cell, by go_cell, by go_simp, by omega, by simp, h1.alloc h1.size _⟩
  obtain ⟨⟨v, hv⟩, hf⟩ := px_z hb j hj
  exact ⟨⟨v, (hA.cell (p := ⟨w.heap.size + 1 + 1, j, none⟩) (by show w.heap.size + 1 + 1 < w1.heap.size; omega)).trans hv⟩, (hA.frozen (p := ⟨w.heap.size + 1 + 1, j, none⟩) (by show w.heap.size + 1 + 1 < w1.heap.size; omega)).trans hf⟩
theorem px_ret {w w1 : World} {t : Ty} {al : Option Addr} {cl : Nat} {ak : Option Addr} {ck : Nat} {s : Ty} {sal : Option Addr} {scl : Nat} {sak : Option Addr} {sck : Nat} (hb : Below (((w.alloc (.cells #[.int .i64 t.kind, .int .i64 t.so, .string t.name, .slice al t.labels.length cl, .slice ak t.kids.length ck] 25)).alloc (.cells #[.int .i64 s.kind, .int .i64 s.so, .string s.name, .slice sal s.labels.length scl, .slice sak s.kids.length sck] 25)).alloc (.cells #[.int .i64 0, .int .i64 0, .string ⟨#[]⟩, .slice none 0 0, .slice none 0 0] 25)).heap.size (((w.alloc (.cells #[.int .i64 t.kind, .int .i64 t.so, .string t.name, .slice al t.labels.length cl, .slice ak t.kids.length ck] 25)).alloc (.cells #[.int .i64 s.kind, .int .i64 s.so, .string s.name, .slice sal s.labels.length scl, .slice sak s.kids.length sck] 25)).alloc (.cells #[.int .i64 0, .int .i64 0, .string ⟨#[]⟩, .slice none 0 0, .slice none 0 0] 25)) w1) :
    TyAt (st5 w1 (w.heap.size + 1 + 1) 0 (.int .i64 t.kind) (.int .i64 t.so) (.string t.name) (.slice al t.labels.length cl) (.slice ak t.kids.length ck)) (w.heap.size + 1 + 1) 0 t al cl ak ck ∧ Below w.heap.size w (st5 w1 (w.heap.size + 1 + 1) 0 (.int .i64 t.kind) (.int .i64 t.so) (.string t.name) (.slice al t.labels.length cl) (.slice ak t.kids.length ck)) :=
  ⟨st5_at w1 _ 0 t al cl ak ck (fun j hj => by rw [Nat.zero_add]; exact (px_z hb j hj).1), st5_below _ 0 _ _ _ _ _ (px_keep hb).1 (by omega)⟩
end Go.Proofs.YtnlpnbelkkgghaaDoor
/-
  The law of duetkeep.GraphUnique: whatever types are handed in it answers true.
-/
namespace Go.Proofs.YtnlpnbelkkgghaaDoor
open Go.RowKit Go.Shelf

theorem end_len {g : List Nd} (h : OFG endT g) : g.length = 1 := by
  have h1 := h.gn.pos
  obtain ⟨c, hc, rfl⟩ := h.src
  have h2 := (least_gn (lay_gn h.chk) hc).2.2
  obtain ⟨hw, _⟩ := chkTy_good _ h.chk
  have e := lay_size endT hw [] 0
  have e2 : sizeT endT = 1 := by rw [sizeT_eq]; rfl
  omega
/-- the graph of End has one node -/
theorem ofEnd (w : World) : Calls Tryd.prog 8 #[.agg #[.int .i64 1, .int .i64 0, .string ⟨#[]⟩, .slice none 0 0, .slice none 0 0]] w fun e w' => (∃ ag cg, e = .returned (.tuple #[.slice ag 1 cg, .int .i64 0])) ∧ Below w.heap.size w w' := by
  refine (of_any 0 endT none 0 none 0 w end_bd (.inl rfl) rfl).mono ?_
  rintro e w' ⟨h | ⟨g, ag, cg, hg, rfl, _⟩, hb⟩
  · exact absurd end_chk h.1
  · exact ⟨⟨ag, cg, by rw [end_len hg]⟩, hb⟩
/-- a Rec around what lies in a literal -/
theorem kt_lit {W : World} {d : Nat} {t : Ty} {al : Option Addr} {cl : Nat} {ak : Option Addr} {ck : Nat} (hbd : TyBd t cl ck) (hla : LA W W.heap.size t.labels al) (hkt : KT W W.heap.size d t.kids ak) : KT (W.alloc (.cells #[.int .i64 t.kind, .int .i64 t.so, .string t.name, .slice al t.labels.length cl, .slice ak t.kids.length ck] 25)) (W.alloc (.cells #[.int .i64 t.kind, .int .i64 t.so, .string t.name, .slice al t.labels.length cl, .slice ak t.kids.length ck] 25)).heap.size (d + 1) [t] (some ⟨W.heap.size, 0, none⟩) := by
  have hA : Below W.heap.size W (W.alloc (.cells #[.int .i64 t.kind, .int .i64 t.so, .string t.name, .slice al t.labels.length cl, .slice ak t.kids.length ck] 25)) := (Below.refl _ _).alloc (Nat.le_refl _) _
  refine .inr ⟨W.heap.size, 0, rfl, by simp, fun i hi => ?_⟩
  have hi' : i < [t].length := hi
  obtain rfl : i = 0 := by simp at hi'; omega
  exact ⟨al, cl, ak, ck, ⟨by go_cell, by go_cell, by go_cell, by go_cell, by go_cell⟩, hbd, (hla.keep hA).mono hA.size, (hkt.keep hA).mono hA.size⟩
theorem rec_bd (x : ByteArray) (hx : x.size ≤ 9223372036854775807) (t : Ty) : TyBd (recT x t) 0 1 := ⟨hx, fun l hl => (by cases hl), Nat.le_refl _, by decide, Nat.le_refl _, by decide⟩
theorem rec_at {W : World} {b : Nat} {x : ByteArray} {t : Ty} {ak : Option Addr} (h0 : W.cell? ⟨b, 0, none⟩ = some (.int .i64 8)) (h1 : W.cell? ⟨b, 1, none⟩ = some (.int .i64 0)) (h2 : W.cell? ⟨b, 2, none⟩ = some (.string x)) (h3 : W.cell? ⟨b, 3, none⟩ = some (.slice none 0 0)) (h4 : W.cell? ⟨b, 4, none⟩ = some (.slice ak 1 1)) : TyAt W b 0 (recT x t) none 0 ak 1 := by
  refine ⟨h0, ?_, ?_, ?_, ?_⟩ <;> rw [Nat.zero_add] <;> assumption
theorem smLarge {s t : Ty} {w : World} (hs : chkTy s = 0) (ht : chkTy t = 2) {args : Array Value} (c : Calls Tryd.prog 10 args w (SMPost s t w)) : Calls Tryd.prog 10 args w fun e w' => e = .returned (.tuple #[.bool false, .int .i64 2]) ∧ Below w.heap.size w w' := by
  refine c.mono ?_
  rintro e w' ⟨h | h | h, hb⟩
  · exact absurd hs h.1
  · rw [ht] at h; exact ⟨h.2.2, hb⟩
  · rw [ht] at h; exact absurd h.2.1 (by decide)
end Go.Proofs.YtnlpnbelkkgghaaDoor
