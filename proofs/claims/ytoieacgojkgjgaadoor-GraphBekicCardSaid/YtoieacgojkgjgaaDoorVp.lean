/-
  The contract of duetkeep.put, for every type that is right in all its parts.
-/
import Derived.Test.YtoieacgojkgjgaaDoorVl
namespace Go.Proofs.YtoieacgojkgjgaaDoor
open Go.RowKit Go.Shelf

/-- the boxes of put, without what is made -/
theorem px_keep {w w1 : World} {t : Ty} {al : Option Addr} {cl : Nat} {ak : Option Addr} {ck : Nat} {s : Ty} {sal : Option Addr} {scl : Nat} {sak : Option Addr} {sck : Nat} (hb : Below (((w.alloc (.cells #[.int .i64 t.kind, .int .i64 t.so, .string t.name, .slice al t.labels.length cl, .slice ak t.kids.length ck] 25)).alloc (.cells #[.int .i64 s.kind, .int .i64 s.so, .string s.name, .slice sal s.labels.length scl, .slice sak s.kids.length sck] 25)).alloc (.cells #[.int .i64 0, .int .i64 0, .string ⟨#[]⟩, .slice none 0 0, .slice none 0 0] 25)).heap.size (((w.alloc (.cells #[.int .i64 t.kind, .int .i64 t.so, .string t.name, .slice al t.labels.length cl, .slice ak t.kids.length ck] 25)).alloc (.cells #[.int .i64 s.kind, .int .i64 s.so, .string s.name, .slice sal s.labels.length scl, .slice sak s.kids.length sck] 25)).alloc (.cells #[.int .i64 0, .int .i64 0, .string ⟨#[]⟩, .slice none 0 0, .slice none 0 0] 25)) w1) : Below w.heap.size w w1 ∧ w.heap.size + 3 ≤ w1.heap.size ∧ ∀ b o, b < w.heap.size + 3 → w1.cell? ⟨b, o, none⟩ = (((w.alloc (.cells #[.int .i64 t.kind, .int .i64 t.so, .string t.name, .slice al t.labels.length cl, .slice ak t.kids.length ck] 25)).alloc (.cells #[.int .i64 s.kind, .int .i64 s.so, .string s.name, .slice sal s.labels.length scl, .slice sak s.kids.length sck] 25)).alloc (.cells #[.int .i64 0, .int .i64 0, .string ⟨#[]⟩, .slice none 0 0, .slice none 0 0] 25)).cell? ⟨b, o, none⟩ ∧ w1.frozen? ⟨b, o, none⟩ = (((w.alloc (.cells #[.int .i64 t.kind, .int .i64 t.so, .string t.name, .slice al t.labels.length cl, .slice ak t.kids.length ck] 25)).alloc (.cells #[.int .i64 s.kind, .int .i64 s.so, .string s.name, .slice sal s.labels.length scl, .slice sak s.kids.length sck] 25)).alloc (.cells #[.int .i64 0, .int .i64 0, .string ⟨#[]⟩, .slice none 0 0, .slice none 0 0] 25)).frozen? ⟨b, o, none⟩ := by
  have hA : Below w.heap.size w (((w.alloc (.cells #[.int .i64 t.kind, .int .i64 t.so, .string t.name, .slice al t.labels.length cl, .slice ak t.kids.length ck] 25)).alloc (.cells #[.int .i64 s.kind, .int .i64 s.so, .string s.name, .slice sal s.labels.length scl, .slice sak s.kids.length sck] 25)).alloc (.cells #[.int .i64 0, .int .i64 0, .string ⟨#[]⟩, .slice none 0 0, .slice none 0 0] 25)) := (((Below.refl _ _).alloc (Nat.le_refl _) _).alloc (by simp) _).alloc (by simp; omega) _
  have hsz : (((w.alloc (.cells #[.int .i64 t.kind, .int .i64 t.so, .string t.name, .slice al t.labels.length cl, .slice ak t.kids.length ck] 25)).alloc (.cells #[.int .i64 s.kind, .int .i64 s.so, .string s.name, .slice sal s.labels.length scl, .slice sak s.kids.length sck] 25)).alloc (.cells #[.int .i64 0, .int .i64 0, .string ⟨#[]⟩, .slice none 0 0, .slice none 0 0] 25)).heap.size = w.heap.size + 3 := by simp
  refine ⟨hA.trans (hb.mono hA.size), by have := hb.size; omega, fun b o h => ⟨hb.cell (p := ⟨b, o, none⟩) (by show b < _; omega), hb.frozen (p := ⟨b, o, none⟩) (by show b < _; omega)⟩⟩
theorem px_x {w w1 : World} {t : Ty} {al : Option Addr} {cl : Nat} {ak : Option Addr} {ck : Nat} {s : Ty} {sal : Option Addr} {scl : Nat} {sak : Option Addr} {sck : Nat} (hb : Below (((w.alloc (.cells #[.int .i64 t.kind, .int .i64 t.so, .string t.name, .slice al t.labels.length cl, .slice ak t.kids.length ck] 25)).alloc (.cells #[.int .i64 s.kind, .int .i64 s.so, .string s.name, .slice sal s.labels.length scl, .slice sak s.kids.length sck] 25)).alloc (.cells #[.int .i64 0, .int .i64 0, .string ⟨#[]⟩, .slice none 0 0, .slice none 0 0] 25)).heap.size (((w.alloc (.cells #[.int .i64 t.kind, .int .i64 t.so, .string t.name, .slice al t.labels.length cl, .slice ak t.kids.length ck] 25)).alloc (.cells #[.int .i64 s.kind, .int .i64 s.so, .string s.name, .slice sal s.labels.length scl, .slice sak s.kids.length sck] 25)).alloc (.cells #[.int .i64 0, .int .i64 0, .string ⟨#[]⟩, .slice none 0 0, .slice none 0 0] 25)) w1) : TyAt w1 w.heap.size 0 t al cl ak ck := by
  obtain ⟨_, _, k⟩ := px_keep hb
  exact ⟨(k _ _ (by omega)).1.trans (by go_cell), (k _ _ (by omega)).1.trans (by go_cell), (k _ _ (by omega)).1.trans (by go_cell), (k _ _ (by omega)).1.trans (by go_cell), (k _ _ (by omega)).1.trans (by go_cell)⟩
theorem px_z {w w1 : World} {t : Ty} {al : Option Addr} {cl : Nat} {ak : Option Addr} {ck : Nat} {s : Ty} {sal : Option Addr} {scl : Nat} {sak : Option Addr} {sck : Nat} (hb : Below (((w.alloc (.cells #[.int .i64 t.kind, .int .i64 t.so, .string t.name, .slice al t.labels.length cl, .slice ak t.kids.length ck] 25)).alloc (.cells #[.int .i64 s.kind, .int .i64 s.so, .string s.name, .slice sal s.labels.length scl, .slice sak s.kids.length sck] 25)).alloc (.cells #[.int .i64 0, .int .i64 0, .string ⟨#[]⟩, .slice none 0 0, .slice none 0 0] 25)).heap.size (((w.alloc (.cells #[.int .i64 t.kind, .int .i64 t.so, .string t.name, .slice al t.labels.length cl, .slice ak t.kids.length ck] 25)).alloc (.cells #[.int .i64 s.kind, .int .i64 s.so, .string s.name, .slice sal s.labels.length scl, .slice sak s.kids.length sck] 25)).alloc (.cells #[.int .i64 0, .int .i64 0, .string ⟨#[]⟩, .slice none 0 0, .slice none 0 0] 25)) w1) : ∀ j, j < 5 → (∃ v, w1.cell? ⟨w.heap.size + 1 + 1, j, none⟩ = some v) ∧ w1.frozen? ⟨w.heap.size + 1 + 1, j, none⟩ = false := by
  obtain ⟨_, _, k⟩ := px_keep hb
  intro j hj
  match j, hj with
  | 0, _ => exact ⟨⟨.int .i64 0, (k _ _ (by omega)).1.trans (by go_cell)⟩, (k _ _ (by omega)).2.trans (by go_simp)⟩
  | 1, _ => exact ⟨⟨.int .i64 0, (k _ _ (by omega)).1.trans (by go_cell)⟩, (k _ _ (by omega)).2.trans (by go_simp)⟩
  | 2, _ => exact ⟨⟨.string ⟨#[]⟩, (k _ _ (by omega)).1.trans (by go_cell)⟩, (k _ _ (by omega)).2.trans (by go_simp)⟩
  | 3, _ => exact ⟨⟨.slice none 0 0, (k _ _ (by omega)).1.trans (by go_cell)⟩, (k _ _ (by omega)).2.trans (by go_simp)⟩
  | 4, _ => exact ⟨⟨.slice none 0 0, (k _ _ (by omega)).1.trans (by go_cell)⟩, (k _ _ (by omega)).2.trans (by go_simp)⟩
theorem px_one {w w1 : World} {t : Ty} {al : Option Addr} {cl : Nat} {ak : Option Addr} {ck : Nat} {s : Ty} {sal : Option Addr} {scl : Nat} {sak : Option Addr} {sck : Nat} (hb : Below (((w.alloc (.cells #[.int .i64 t.kind, .int .i64 t.so, .string t.name, .slice al t.labels.length cl, .slice ak t.kids.length ck] 25)).alloc (.cells #[.int .i64 s.kind, .int .i64 s.so, .string s.name, .slice sal s.labels.length scl, .slice sak s.kids.length sck] 25)).alloc (.cells #[.int .i64 0, .int .i64 0, .string ⟨#[]⟩, .slice none 0 0, .slice none 0 0] 25)).heap.size (((w.alloc (.cells #[.int .i64 t.kind, .int .i64 t.so, .string t.name, .slice al t.labels.length cl, .slice ak t.kids.length ck] 25)).alloc (.cells #[.int .i64 s.kind, .int .i64 s.so, .string s.name, .slice sal s.labels.length scl, .slice sak s.kids.length sck] 25)).alloc (.cells #[.int .i64 0, .int .i64 0, .string ⟨#[]⟩, .slice none 0 0, .slice none 0 0] 25)) w1) : PX w t al cl ak ck s sal scl sak sck w1.heap.size (.slice none 0 0) (w1.alloc (.cells #[.int .i64 t.kind, .int .i64 t.so, .string t.name, .slice al t.labels.length cl, .slice none 0 0] 25)) := by
  obtain ⟨h1, h2, k⟩ := px_keep hb
  have hA : Below w1.heap.size w1 (w1.alloc (.cells #[.int .i64 t.kind, .int .i64 t.so, .string t.name, .slice al t.labels.length cl, .slice none 0 0] 25)) := (Below.refl _ _).alloc (Nat.le_refl _) _
  have hy : TyAt w1 (w.heap.size + 1) 0 s sal scl sak sck := ⟨(k _ _ (by omega)).1.trans (by go_cell), (k _ _ (by omega)).1.trans (by go_cell), (k _ _ (by omega)).1.trans (by go_cell), (k _ _ (by omega)).1.trans (by go_cell), (k _ _ (by omega)).1.trans (by go_cell)⟩
  refine ⟨(px_x hb).keep hA (by omega), hy.keep hA (by omega), fun j hj => ?_, by go_cell, by go_cell, by go_cell, by go_cell, by go_cell, by go_simp, by omega, by simp, h1.alloc h1.size _⟩
  obtain ⟨⟨v, hv⟩, hf⟩ := px_z hb j hj
  exact ⟨⟨v, (hA.cell (p := ⟨w.heap.size + 1 + 1, j, none⟩) (by show w.heap.size + 1 + 1 < w1.heap.size; omega)).trans hv⟩, (hA.frozen (p := ⟨w.heap.size + 1 + 1, j, none⟩) (by show w.heap.size + 1 + 1 < w1.heap.size; omega)).trans hf⟩
theorem px_ret {w w1 : World} {t : Ty} {al : Option Addr} {cl : Nat} {ak : Option Addr} {ck : Nat} {s : Ty} {sal : Option Addr} {scl : Nat} {sak : Option Addr} {sck : Nat} (hb : Below (((w.alloc (.cells #[.int .i64 t.kind, .int .i64 t.so, .string t.name, .slice al t.labels.length cl, .slice ak t.kids.length ck] 25)).alloc (.cells #[.int .i64 s.kind, .int .i64 s.so, .string s.name, .slice sal s.labels.length scl, .slice sak s.kids.length sck] 25)).alloc (.cells #[.int .i64 0, .int .i64 0, .string ⟨#[]⟩, .slice none 0 0, .slice none 0 0] 25)).heap.size (((w.alloc (.cells #[.int .i64 t.kind, .int .i64 t.so, .string t.name, .slice al t.labels.length cl, .slice ak t.kids.length ck] 25)).alloc (.cells #[.int .i64 s.kind, .int .i64 s.so, .string s.name, .slice sal s.labels.length scl, .slice sak s.kids.length sck] 25)).alloc (.cells #[.int .i64 0, .int .i64 0, .string ⟨#[]⟩, .slice none 0 0, .slice none 0 0] 25)) w1) :
    TyAt (st5 w1 (w.heap.size + 1 + 1) 0 (.int .i64 t.kind) (.int .i64 t.so) (.string t.name) (.slice al t.labels.length cl) (.slice ak t.kids.length ck)) (w.heap.size + 1 + 1) 0 t al cl ak ck ∧ Below w.heap.size w (st5 w1 (w.heap.size + 1 + 1) 0 (.int .i64 t.kind) (.int .i64 t.so) (.string t.name) (.slice al t.labels.length cl) (.slice ak t.kids.length ck)) :=
  ⟨st5_at w1 _ 0 t al cl ak ck (fun j hj => by rw [Nat.zero_add]; exact (px_z hb j hj).1), st5_below _ 0 _ _ _ _ _ (px_keep hb).1 (by omega)⟩
set_option maxRecDepth 100000 in
set_option maxHeartbeats 16000000 in
theorem put_step (N : Nat) (ih : PTSaid N) : PTSaid (N + 1) := by
  intro x c s t al cl ak ck d sal scl sak sck ds B w hs hbd hla hkt sbd sla skt hB hw
  obtain ⟨i1, hj, hy0, hy1, hy2⟩ := info_parts infoTy
  obtain ⟨hpt, hwk⟩ := (wfT_eq t).1 hw
  have h6 := part_six _ hpt
  unfold PTPost
  simp only [tyVal]
  have hA : Below w.heap.size w (((w.alloc (.cells #[.int .i64 t.kind, .int .i64 t.so, .string t.name, .slice al t.labels.length cl, .slice ak t.kids.length ck] 25)).alloc (.cells #[.int .i64 s.kind, .int .i64 s.so, .string s.name, .slice sal s.labels.length scl, .slice sak s.kids.length sck] 25)).alloc (.cells #[.int .i64 0, .int .i64 0, .string ⟨#[]⟩, .slice none 0 0, .slice none 0 0] 25)) := (((Below.refl _ _).alloc (Nat.le_refl _) _).alloc (by simp) _).alloc (by simp; omega) _
  have HIH := hideK ih
  have HSZ := hideK hs
  have HKT := hideK hkt
  have HLA := hideK hla
  have HBD := hideK hbd
  have HSB := hideK sbd
  have HSL := hideK sla
  have HSK := hideK skt
  have HWK := hideK hwk
  have HW := hideK hw
  have HPT := hideK hpt
  have HA := hideK hA
  have nE := nm_beq t.name x
  have nC := nm_beq t.name c
  by_cases h9x : t.kind = 9 ∧ t.name = x
  · rw [capT_var x c t h9x, putT_var x s t h9x]
    have k9 : (t.kind == 9) = true := by simpa using h9x.1
    rw [decide_eq_true h9x.2] at nE
    have HR := hideK (show Below w.heap.size w (((w.alloc (.cells #[.int .i64 t.kind, .int .i64 t.so, .string t.name, .slice al t.labels.length cl, .slice ak t.kids.length ck] 25)).alloc (.cells #[.int .i64 s.kind, .int .i64 s.so, .string s.name, .slice sal s.labels.length scl, .slice sak s.kids.length sck] 25)).alloc (.cells #[.int .i64 s.kind, .int .i64 s.so, .string s.name, .slice sal s.labels.length scl, .slice sak s.kids.length sck] 25)) from (((Below.refl _ _).alloc (Nat.le_refl _) _).alloc (by simp) _).alloc (by simp; omega) _)
    have r0 : (((w.alloc (.cells #[.int .i64 t.kind, .int .i64 t.so, .string t.name, .slice al t.labels.length cl, .slice ak t.kids.length ck] 25)).alloc (.cells #[.int .i64 s.kind, .int .i64 s.so, .string s.name, .slice sal s.labels.length scl, .slice sak s.kids.length sck] 25)).alloc (.cells #[.int .i64 s.kind, .int .i64 s.so, .string s.name, .slice sal s.labels.length scl, .slice sak s.kids.length sck] 25)).cell? ⟨w.heap.size + 1 + 1, 0, none⟩ = some (.int .i64 s.kind) := by go_cell
    have r1 : (((w.alloc (.cells #[.int .i64 t.kind, .int .i64 t.so, .string t.name, .slice al t.labels.length cl, .slice ak t.kids.length ck] 25)).alloc (.cells #[.int .i64 s.kind, .int .i64 s.so, .string s.name, .slice sal s.labels.length scl, .slice sak s.kids.length sck] 25)).alloc (.cells #[.int .i64 s.kind, .int .i64 s.so, .string s.name, .slice sal s.labels.length scl, .slice sak s.kids.length sck] 25)).cell? ⟨w.heap.size + 1 + 1, 1, none⟩ = some (.int .i64 s.so) := by go_cell
    have r2 : (((w.alloc (.cells #[.int .i64 t.kind, .int .i64 t.so, .string t.name, .slice al t.labels.length cl, .slice ak t.kids.length ck] 25)).alloc (.cells #[.int .i64 s.kind, .int .i64 s.so, .string s.name, .slice sal s.labels.length scl, .slice sak s.kids.length sck] 25)).alloc (.cells #[.int .i64 s.kind, .int .i64 s.so, .string s.name, .slice sal s.labels.length scl, .slice sak s.kids.length sck] 25)).cell? ⟨w.heap.size + 1 + 1, 2, none⟩ = some (.string s.name) := by go_cell
    have r3 : (((w.alloc (.cells #[.int .i64 t.kind, .int .i64 t.so, .string t.name, .slice al t.labels.length cl, .slice ak t.kids.length ck] 25)).alloc (.cells #[.int .i64 s.kind, .int .i64 s.so, .string s.name, .slice sal s.labels.length scl, .slice sak s.kids.length sck] 25)).alloc (.cells #[.int .i64 s.kind, .int .i64 s.so, .string s.name, .slice sal s.labels.length scl, .slice sak s.kids.length sck] 25)).cell? ⟨w.heap.size + 1 + 1, 3, none⟩ = some (.slice sal s.labels.length scl) := by go_cell
    have r4 : (((w.alloc (.cells #[.int .i64 t.kind, .int .i64 t.so, .string t.name, .slice al t.labels.length cl, .slice ak t.kids.length ck] 25)).alloc (.cells #[.int .i64 s.kind, .int .i64 s.so, .string s.name, .slice sal s.labels.length scl, .slice sak s.kids.length sck] 25)).alloc (.cells #[.int .i64 s.kind, .int .i64 s.so, .string s.name, .slice sal s.labels.length scl, .slice sak s.kids.length sck] 25)).cell? ⟨w.heap.size + 1 + 1, 4, none⟩ = some (.slice sak s.kids.length sck) := by go_cell
    clear h9x hs hbd hla hkt sbd sla skt hw hpt hwk hA nC ih
    go_enter Tryd.func17, Tryd.ntmps17
    go_wp2_with fail
    refine bodyPost_ret (v := .tuple #[.agg #[.int .i64 s.kind, .int .i64 s.so, .string s.name, .slice sal s.labels.length scl, .slice sak s.kids.length sck], .bool true]) (by simp [results, Tryd.results17, go_sem, r0, r1, r2, r3, r4]) rfl ?_
    exact ⟨.inr ⟨by first | rfl | trivial, sal, scl, sak, sck, ds, rfl, HSB.out, lp_of (fun b hb => .inl hb) (NAt.keep (HR.out.mono hB) HSL.out), kp_of (fun b hb => .inl hb) (KT.keep (HR.out.mono hB) HSK.out)⟩, HR.out⟩
  by_cases h8x : t.kind = 8 ∧ t.name = x
  · rw [capT_rec x c t h8x, putT_rec x s t h8x]
    have k9 : (t.kind == 9) = false := by rw [h8x.1]; rfl
    have k8 : (t.kind == 8) = true := by simpa using h8x.1
    rw [decide_eq_true h8x.2] at nE
    have HR := hideK (show Below w.heap.size w (((w.alloc (.cells #[.int .i64 t.kind, .int .i64 t.so, .string t.name, .slice al t.labels.length cl, .slice ak t.kids.length ck] 25)).alloc (.cells #[.int .i64 s.kind, .int .i64 s.so, .string s.name, .slice sal s.labels.length scl, .slice sak s.kids.length sck] 25)).alloc (.cells #[.int .i64 t.kind, .int .i64 t.so, .string t.name, .slice al t.labels.length cl, .slice ak t.kids.length ck] 25)) from (((Below.refl _ _).alloc (Nat.le_refl _) _).alloc (by simp) _).alloc (by simp; omega) _)
    have r0 : (((w.alloc (.cells #[.int .i64 t.kind, .int .i64 t.so, .string t.name, .slice al t.labels.length cl, .slice ak t.kids.length ck] 25)).alloc (.cells #[.int .i64 s.kind, .int .i64 s.so, .string s.name, .slice sal s.labels.length scl, .slice sak s.kids.length sck] 25)).alloc (.cells #[.int .i64 t.kind, .int .i64 t.so, .string t.name, .slice al t.labels.length cl, .slice ak t.kids.length ck] 25)).cell? ⟨w.heap.size + 1 + 1, 0, none⟩ = some (.int .i64 t.kind) := by go_cell
    have r1 : (((w.alloc (.cells #[.int .i64 t.kind, .int .i64 t.so, .string t.name, .slice al t.labels.length cl, .slice ak t.kids.length ck] 25)).alloc (.cells #[.int .i64 s.kind, .int .i64 s.so, .string s.name, .slice sal s.labels.length scl, .slice sak s.kids.length sck] 25)).alloc (.cells #[.int .i64 t.kind, .int .i64 t.so, .string t.name, .slice al t.labels.length cl, .slice ak t.kids.length ck] 25)).cell? ⟨w.heap.size + 1 + 1, 1, none⟩ = some (.int .i64 t.so) := by go_cell
    have r2 : (((w.alloc (.cells #[.int .i64 t.kind, .int .i64 t.so, .string t.name, .slice al t.labels.length cl, .slice ak t.kids.length ck] 25)).alloc (.cells #[.int .i64 s.kind, .int .i64 s.so, .string s.name, .slice sal s.labels.length scl, .slice sak s.kids.length sck] 25)).alloc (.cells #[.int .i64 t.kind, .int .i64 t.so, .string t.name, .slice al t.labels.length cl, .slice ak t.kids.length ck] 25)).cell? ⟨w.heap.size + 1 + 1, 2, none⟩ = some (.string t.name) := by go_cell
    have r3 : (((w.alloc (.cells #[.int .i64 t.kind, .int .i64 t.so, .string t.name, .slice al t.labels.length cl, .slice ak t.kids.length ck] 25)).alloc (.cells #[.int .i64 s.kind, .int .i64 s.so, .string s.name, .slice sal s.labels.length scl, .slice sak s.kids.length sck] 25)).alloc (.cells #[.int .i64 t.kind, .int .i64 t.so, .string t.name, .slice al t.labels.length cl, .slice ak t.kids.length ck] 25)).cell? ⟨w.heap.size + 1 + 1, 3, none⟩ = some (.slice al t.labels.length cl) := by go_cell
    have r4 : (((w.alloc (.cells #[.int .i64 t.kind, .int .i64 t.so, .string t.name, .slice al t.labels.length cl, .slice ak t.kids.length ck] 25)).alloc (.cells #[.int .i64 s.kind, .int .i64 s.so, .string s.name, .slice sal s.labels.length scl, .slice sak s.kids.length sck] 25)).alloc (.cells #[.int .i64 t.kind, .int .i64 t.so, .string t.name, .slice al t.labels.length cl, .slice ak t.kids.length ck] 25)).cell? ⟨w.heap.size + 1 + 1, 4, none⟩ = some (.slice ak t.kids.length ck) := by go_cell
    clear h9x h8x hs hbd hla hkt sbd sla skt hw hpt hwk hA nC ih
    go_enter Tryd.func17, Tryd.ntmps17
    go_wp2_with fail
    refine bodyPost_ret (v := .tuple #[.agg #[.int .i64 t.kind, .int .i64 t.so, .string t.name, .slice al t.labels.length cl, .slice ak t.kids.length ck], .bool true]) (by simp [results, Tryd.results17, go_sem, r0, r1, r2, r3, r4]) rfl ?_
    exact ⟨.inr ⟨by first | rfl | trivial, al, cl, ak, ck, d, rfl, HBD.out, lp_of (fun b hb => .inl hb) (NAt.keep (HR.out.mono hB) HLA.out), kp_of (fun b hb => .inl hb) (KT.keep (HR.out.mono hB) HKT.out)⟩, HR.out⟩
  rw [putT_else x s t h9x h8x]
  by_cases hy : t.kind = 8 ∧ t.name = c ∧ t.kids.any (frT x) = true
  · rw [capT_yes x c t h8x hy]
    obtain ⟨h8, hnc, hfa⟩ := hy
    clear nE nC
    have hnx : t.name ≠ x := fun e => h8x ⟨h8, e⟩
    obtain ⟨q, hq⟩ : ∃ q, t.kids = [q] := part_rec HPT.out h8
    have hqf : frT x q = true := by rw [hq] at hfa; simpa using hfa
    obtain ⟨kb, ko, hak, hkB, al2, cl2, ak2, ck2, hat, hbd2, hla2, d2, hkt2⟩ := kt_at HKT.out (j := 0) (by rw [hq]; exact Nat.one_pos)
    have e0 : t.kids[0]'(by rw [hq]; exact Nat.one_pos) = q := by simp [hq]
    rw [e0] at hat hkt2
    have HATQ := hideK (hat.keep (HA.out.mono hB) hkB)
    have hkl : t.kids.length = 1 := by rw [hq]; rfl
    have cF := free_any (sizeT q) x q al2 cl2 ak2 ck2 d2 B (((w.alloc (.cells #[.int .i64 t.kind, .int .i64 t.so, .string t.name, .slice al t.labels.length cl, .slice ak t.kids.length ck] 25)).alloc (.cells #[.int .i64 s.kind, .int .i64 s.so, .string s.name, .slice sal s.labels.length scl, .slice sak s.kids.length sck] 25)).alloc (.cells #[.int .i64 0, .int .i64 0, .string ⟨#[]⟩, .slice none 0 0, .slice none 0 0] 25)) (Nat.le_refl _) (KT.keep (HA.out.mono hB) hkt2) (Nat.le_trans hB HA.out.size) (HWK.out q (by rw [hq]; exact .head _))
    rw [hqf] at cF
    simp only [tyVal] at cF
    obtain ⟨g0, g1, g2, g3, g4⟩ := HATQ.out
    simp only [Nat.zero_mul, Nat.add_zero] at g0 g1 g2 g3 g4
    have k9 : (t.kind == 9) = false := by rw [h8]; rfl
    have k8 : (t.kind == 8) = true := by simpa using h8
    have nE : (t.name.toList == x.toList) = false := by rw [nm_beq]; exact decide_eq_false hnx
    have nC : (t.name.toList == c.toList) = true := by rw [nm_beq]; exact decide_eq_true hnc
    have hk0 : (0 : Int) < (t.kids.length : Int) := by omega
    have hk0b : (0 : Int) ≤ (t.kids.length : Int) := by omega
    have HKL := hideK hkl
    have HQF := hideK hqf
    clear hat hbd2 hla2 hkt2 e0 hkl HATQ h8 hnc hnx hq hqf h9x h8x hs hbd hla hkt sbd sla skt hw hpt hwk hA ih hfa
    subst hak
    go_enter Tryd.func17, Tryd.ntmps17
    go_wp2_with fail
    refine cF.mono ?_
    rintro e w1 ⟨rfl, hb1⟩
    have HRT := hideK (px_ret hb1)
    have HP1 := hideK (px_z hb1)
    have HX1 := hideK (px_x hb1)
    obtain ⟨x0, x1, x2, x3, x4⟩ := HX1.out
    simp only [Nat.zero_add] at x1 x2 x3 x4
    obtain ⟨⟨zv0, zc0⟩, zf0⟩ := HP1.out 0 (by omega)
    obtain ⟨⟨zv1, zc1⟩, zf1⟩ := HP1.out 1 (by omega)
    obtain ⟨⟨zv2, zc2⟩, zf2⟩ := HP1.out 2 (by omega)
    obtain ⟨⟨zv3, zc3⟩, zf3⟩ := HP1.out 3 (by omega)
    obtain ⟨⟨zv4, zc4⟩, zf4⟩ := HP1.out 4 (by omega)
    clear cF hb1
    go_wp2_with fail
    have TA := HRT.out
    change TyAt (st5 w1 (w.heap.size + 1 + 1) 0 (.int .i64 t.kind) (.int .i64 t.so) (.string t.name) (.slice al t.labels.length cl) (.slice (some ⟨kb, ko, none⟩) t.kids.length ck)) _ _ _ _ _ _ _ ∧ Below _ _ (st5 w1 (w.heap.size + 1 + 1) 0 (.int .i64 t.kind) (.int .i64 t.so) (.string t.name) (.slice al t.labels.length cl) (.slice (some ⟨kb, ko, none⟩) t.kids.length ck)) at TA
    change bodyPost _ _ _ _ _ (st5 w1 (w.heap.size + 1 + 1) 0 (.int .i64 t.kind) (.int .i64 t.so) (.string t.name) (.slice al t.labels.length cl) (.slice (some ⟨kb, ko, none⟩) t.kids.length ck))
    generalize st5 w1 (w.heap.size + 1 + 1) 0 (.int .i64 t.kind) (.int .i64 t.so) (.string t.name) (.slice al t.labels.length cl) (.slice (some ⟨kb, ko, none⟩) t.kids.length ck) = W9 at TA ⊢
    obtain ⟨⟨r0, r1, r2, r3, r4⟩, hb9⟩ := TA
    simp only [Nat.zero_add] at r1 r2 r3 r4
    refine bodyPost_ret (v := .tuple #[.agg #[.int .i64 t.kind, .int .i64 t.so, .string t.name, .slice al t.labels.length cl, .slice (some ⟨kb, ko, none⟩) t.kids.length ck], .bool false]) (by simp [results, Tryd.results17, go_sem, r0, r1, r2, r3, r4]) rfl ?_
    exact ⟨.inl ⟨by first | rfl | trivial, t, al, cl, _, ck, rfl⟩, hb9⟩
  rw [capT_else x c t h9x h8x hy]
  have hcase : ((t.kind == 9) = true ∧ (t.name.toList == x.toList) = false ∧ (t.kind == 8) = false) ∨ ((t.kind == 9) = false ∧ (t.kind == 8) = false) ∨ ((t.kind == 9) = false ∧ (t.kind == 8) = true ∧ (t.name.toList == x.toList) = false ∧ (t.name.toList == c.toList) = false) ∨ (t.kind = 8 ∧ t.name ≠ x ∧ t.name = c) := by
    rw [nE, nC]
    by_cases h9 : t.kind = 9
    · exact .inl ⟨by simpa using h9, decide_eq_false (fun e => h9x ⟨h9, e⟩), by rw [h9]; rfl⟩
    by_cases h8 : t.kind = 8
    · by_cases hc : t.name = c
      · exact .inr (.inr (.inr ⟨h8, fun e => h8x ⟨h8, e⟩, hc⟩))
      · exact .inr (.inr (.inl ⟨by simpa using h9, by simpa using h8, decide_eq_false (fun e => h8x ⟨h8, e⟩), decide_eq_false hc⟩))
    · exact .inr (.inl ⟨by simpa using h9, by simpa using h8⟩)
  have hPX0 : PX w t al cl ak ck s sal scl sak sck (w.heap.size + 1 + 1 + 1) (.slice none 0 0) ((((w.alloc (.cells #[.int .i64 t.kind, .int .i64 t.so, .string t.name, .slice al t.labels.length cl, .slice ak t.kids.length ck] 25)).alloc (.cells #[.int .i64 s.kind, .int .i64 s.so, .string s.name, .slice sal s.labels.length scl, .slice sak s.kids.length sck] 25)).alloc (.cells #[.int .i64 0, .int .i64 0, .string ⟨#[]⟩, .slice none 0 0, .slice none 0 0] 25)).alloc (.cells #[.int .i64 t.kind, .int .i64 t.so, .string t.name, .slice al t.labels.length cl, .slice none 0 0] 25)) := by
    refine ⟨⟨by go_cell, by go_cell, by go_cell, by go_cell, by go_cell⟩, ⟨by go_cell, by go_cell, by go_cell, by go_cell, by go_cell⟩, fun j hj => ?_, by go_cell, by go_cell, by go_cell, by go_cell, by go_cell, by go_simp, by omega, by simp, HA.out.alloc HA.out.size _⟩
    match j, hj with
    | 0, _ => exact ⟨⟨.int .i64 0, by go_cell⟩, by go_simp⟩
    | 1, _ => exact ⟨⟨.int .i64 0, by go_cell⟩, by go_simp⟩
    | 2, _ => exact ⟨⟨.string ⟨#[]⟩, by go_cell⟩, by go_simp⟩
    | 3, _ => exact ⟨⟨.slice none 0 0, by go_cell⟩, by go_simp⟩
    | 4, _ => exact ⟨⟨.slice none 0 0, by go_cell⟩, by go_simp⟩
  have HPX := hideK hPX0
  clear h9x h8x hs hbd hla hkt sbd sla skt hw hpt hwk hA nE nC ih hPX0
  rcases hcase with ⟨k9, nE, k8⟩ | ⟨k9, k8⟩ | ⟨k9, k8, nE, nC⟩ | ⟨h8, hnx, hnc⟩
  case inr.inr.inr =>
    obtain ⟨q, hq⟩ : ∃ q, t.kids = [q] := part_rec HPT.out h8
    have hqf : frT x q = false := by
      cases hf : frT x q with
      | false => rfl
      | true => exact absurd ⟨h8, hnc, by rw [hq]; simp [hf]⟩ hy
    obtain ⟨kb, ko, hak, hkB, al2, cl2, ak2, ck2, hat, hbd2, hla2, d2, hkt2⟩ := kt_at HKT.out (j := 0) (by rw [hq]; exact Nat.one_pos)
    have e0 : t.kids[0]'(by rw [hq]; exact Nat.one_pos) = q := by simp [hq]
    rw [e0] at hat hkt2
    have HATQ := hideK (hat.keep (HA.out.mono hB) hkB)
    have hkl : t.kids.length = 1 := by rw [hq]; rfl
    have cF := free_any (sizeT q) x q al2 cl2 ak2 ck2 d2 B (((w.alloc (.cells #[.int .i64 t.kind, .int .i64 t.so, .string t.name, .slice al t.labels.length cl, .slice ak t.kids.length ck] 25)).alloc (.cells #[.int .i64 s.kind, .int .i64 s.so, .string s.name, .slice sal s.labels.length scl, .slice sak s.kids.length sck] 25)).alloc (.cells #[.int .i64 0, .int .i64 0, .string ⟨#[]⟩, .slice none 0 0, .slice none 0 0] 25)) (Nat.le_refl _) (KT.keep (HA.out.mono hB) hkt2) (Nat.le_trans hB HA.out.size) (HWK.out q (by rw [hq]; exact .head _))
    rw [hqf] at cF
    simp only [tyVal] at cF
    obtain ⟨g0, g1, g2, g3, g4⟩ := HATQ.out
    simp only [Nat.zero_mul, Nat.add_zero] at g0 g1 g2 g3 g4
    have k9 : (t.kind == 9) = false := by rw [h8]; rfl
    have k8 : (t.kind == 8) = true := by simpa using h8
    have nE : (t.name.toList == x.toList) = false := by rw [nm_beq]; exact decide_eq_false hnx
    have nC : (t.name.toList == c.toList) = true := by rw [nm_beq]; exact decide_eq_true hnc
    have hk0 : (0 : Int) < (t.kids.length : Int) := by omega
    have hk0b : (0 : Int) ≤ (t.kids.length : Int) := by omega
    have HKL := hideK hkl
    have HQF := hideK hqf
    clear hat hbd2 hla2 hkt2 e0 hkl HATQ h8 hnc hnx hq hqf 
    subst hak
    go_enter Tryd.func17, Tryd.ntmps17
    go_wp2_with fail
    refine cF.mono ?_
    rintro e w1 ⟨rfl, hb1⟩
    clear hy
    have HPX1 := hideK (px_one hb1)
    have HX1 := hideK (px_x hb1)
    obtain ⟨x0, x1, x2, x3, x4⟩ := HX1.out
    simp only [Nat.zero_add] at x1 x2 x3 x4
    have xq4 := HPX1.out.x.c4
    simp only [Nat.zero_add] at xq4
    clear HPX cF hb1
    go_wp2_with fail
    clear HX1 x0 x1 x2 x3 x4 xq4
    have HPX := HPX1
    clear HPX1
    generalize w1.alloc (.cells #[.int .i64 t.kind, .int .i64 t.so, .string t.name, .slice al t.labels.length cl, .slice none 0 0] 25) = V at *
    generalize w1.heap.size = bo at *
    go_loopw [58] (fun i wq => ∃ (k : Nat) (ts : List TTk) (u : Value), k ≤ t.kids.length ∧ i = .int .i64 (k : Int) ∧ PX w t al cl (some ⟨kb, ko, none⟩) ck s sal scl sak sck bo u wq ∧ wq.ownsRow V.heap.size 25 5 u k (tCs ts) ∧ ts.map (fun q => q.1) = (t.kids.take k).map (putT x s) ∧ TOK wq (fun b => b < B ∨ (V.heap.size ≤ b ∧ b < wq.heap.size ∧ u.ownBlock ≠ some b)) ts ∧ (t.kids.take k).any (capT x c) = false ∧ V.heap.size ≤ wq.heap.size) (fun i _ => t.kids.length - (intOf i).toNat)
    case atStart => exact ⟨0, [], .slice none 0 0, Nat.zero_le _, rfl, HPX.out, World.ownsRow_nil _ _ _ _, rfl, fun q hq => (by cases hq), rfl, Nat.le_refl _⟩
    case round =>
      obtain ⟨k, ts, u, hk, rfl, hPX, hO, hmap, hT, hcf, hVs⟩ := hrel
      have hVb : bo < V.heap.size := HPX.out.lt
      have hwV : w.heap.size ≤ V.heap.size := HPX.out.bl.size
      clear HPX
      have hlo := hPX.lo
      have hlt := hPX.lt
      have HUL := hideK (fun b (e : u.ownBlock = some b) => hO.lt b e)
      obtain ⟨x0, x1, x2, x3, x4⟩ := hPX.x
      obtain ⟨y0, y1, y2, y3, y4⟩ := hPX.y
      simp only [Nat.zero_add] at x1 x2 x3 x4 y1 y2 y3 y4
      by_cases hlt2 : k < t.kids.length
      · have hltz : (k : Int) < (t.kids.length : Int) := by omega
        obtain ⟨b, o, hak, hbB, al2, cl2, ak2, ck2, hat, hbd2, hla2, d2, hkt2⟩ := kt_at HKT.out hlt2
        cases hak
        obtain ⟨e0, e1, e2, e3, e4⟩ := hat.keep (hPX.bl.mono hB) hbB
        have hm := List.getElem_mem hlt2
        have hA1 : Below wr.heap.size wr (wr.alloc (.cells #[.int .i64 t.kids[k].kind, .int .i64 t.kids[k].so, .string t.kids[k].name, .slice al2 t.kids[k].labels.length cl2, .slice ak2 t.kids[k].kids.length ck2] 25)) := (Below.refl _ _).alloc (Nat.le_refl _) _
        have hPX1 := hPX.keep hA1
        have hbw := hPX1.bl
        have cP := HIH.out x c s t.kids[k] al2 cl2 ak2 ck2 d2 sal scl sak sck ds B (wr.alloc (.cells #[.int .i64 t.kids[k].kind, .int .i64 t.kids[k].so, .string t.kids[k].name, .slice al2 t.kids[k].labels.length cl2, .slice ak2 t.kids[k].kids.length ck2] 25)) (by have := sizeT_kid hm; have := HSZ.out; omega) hbd2 (NAt.keep (hbw.mono hB) hla2) (KT.keep (hbw.mono hB) hkt2) HSB.out (NAt.keep (hbw.mono hB) HSL.out) (KT.keep (hbw.mono hB) HSK.out) (Nat.le_trans hB hbw.size) (HWK.out _ hm)
        unfold PTPost at cP
        have HSN := hideK (show (t.kids.take (k + 1)).any (capT x c) = ((t.kids.take k).any (capT x c) || capT x c t.kids[k]) from by rw [List.take_succ_eq_append_getElem hlt2, List.any_append]; simp)
        have HMS := hideK (show (t.kids.take (k + 1)).map (putT x s) = (t.kids.take k).map (putT x s) ++ [putT x s t.kids[k]] from by rw [List.take_succ_eq_append_getElem hlt2, List.map_append]; rfl)
        have HCM := hideK (fun (q : capT x c t.kids[k] = true) => show t.kids.any (capT x c) = true from List.any_eq_true.2 ⟨_, hm, q⟩)
        have HPX1 := hideK hPX1
        have HOR := hideK hO
        have HTR := hideK hT
        have HMP := hideK hmap
        have HCF := hideK hcf
        have HWS := hideK (show wr.heap.size + 1 = (wr.alloc (.cells #[.int .i64 t.kids[k].kind, .int .i64 t.kids[k].so, .string t.kids[k].name, .slice al2 t.kids[k].labels.length cl2, .slice ak2 t.kids[k].kids.length ck2] 25)).heap.size from by simp)
        obtain ⟨g0, g1, g2, g3, g4⟩ := hPX1.y
        simp only [Nat.zero_add] at g1 g2 g3 g4
        have HA1 := hideK hA1
        clear hat hbd2 hla2 hkt2 hmap hT hcf hO hPX hPX1 hbw hA1 hm
        generalize t.kids[k] = v at *
        simp only [tyVal] at cP
        go_wp2_with fail
        refine cP.mono ?_
        generalize (wr.alloc (.cells #[.int .i64 v.kind, .int .i64 v.so, .string v.name, .slice al2 v.labels.length cl2, .slice ak2 v.kids.length ck2] 25)) = W1 at *
        rintro e w2 ⟨hor, hb2⟩
        have HPX2 := hideK (HPX1.out.keep hb2)
        have HB2 := hideK hb2
        have hws := HWS.out
        clear g0 g1 g2 g3 g4
        clear cP hb2 e0 e1 e2 e3 e4 y0 y1 y2 y3 y4 x0 x1 x2 x3 x4
        rcases hor with ⟨hc1, t9, al9, cl9, ak9, ck9, rfl⟩ | ⟨hc0, al3, cl3, ak3, ck3, d3, rfl, hbd3, hlp3, hkp3⟩
        · have HCX := hideK (HCM.out hc1)
          have HPX3 := hideK (HPX2.out.keep ((Below.refl w2.heap.size w2).alloc (Nat.le_refl _) (.cells #[.int .i64 t9.kind, .int .i64 t9.so, .string t9.name, .slice al9 t9.labels.length cl9, .slice ak9 t9.kids.length ck9] 25)))
          obtain ⟨x0, x1, x2, x3, x4⟩ := HPX3.out.x
          simp only [Nat.zero_add] at x1 x2 x3 x4
          obtain ⟨⟨zv0, zc0⟩, zf0⟩ := HPX3.out.z 0 (by omega)
          obtain ⟨⟨zv1, zc1⟩, zf1⟩ := HPX3.out.z 1 (by omega)
          obtain ⟨⟨zv2, zc2⟩, zf2⟩ := HPX3.out.z 2 (by omega)
          obtain ⟨⟨zv3, zc3⟩, zf3⟩ := HPX3.out.z 3 (by omega)
          obtain ⟨⟨zv4, zc4⟩, zf4⟩ := HPX3.out.z 4 (by omega)
          clear hc1
          go_wp2_with fail
          have TA := px_st HPX3.out t al cl (some ⟨kb, ko, none⟩) ck
          change TyAt (st5 (w2.alloc (.cells #[.int .i64 t9.kind, .int .i64 t9.so, .string t9.name, .slice al9 t9.labels.length cl9, .slice ak9 t9.kids.length ck9] 25)) (w.heap.size + 1 + 1) 0 (.int .i64 t.kind) (.int .i64 t.so) (.string t.name) (.slice al t.labels.length cl) (.slice (some ⟨kb, ko, none⟩) t.kids.length ck)) _ _ _ _ _ _ _ ∧ Below _ _ (st5 (w2.alloc (.cells #[.int .i64 t9.kind, .int .i64 t9.so, .string t9.name, .slice al9 t9.labels.length cl9, .slice ak9 t9.kids.length ck9] 25)) (w.heap.size + 1 + 1) 0 (.int .i64 t.kind) (.int .i64 t.so) (.string t.name) (.slice al t.labels.length cl) (.slice (some ⟨kb, ko, none⟩) t.kids.length ck)) at TA
          change bodyPost _ _ _ _ _ (st5 (w2.alloc (.cells #[.int .i64 t9.kind, .int .i64 t9.so, .string t9.name, .slice al9 t9.labels.length cl9, .slice ak9 t9.kids.length ck9] 25)) (w.heap.size + 1 + 1) 0 (.int .i64 t.kind) (.int .i64 t.so) (.string t.name) (.slice al t.labels.length cl) (.slice (some ⟨kb, ko, none⟩) t.kids.length ck))
          generalize st5 (w2.alloc (.cells #[.int .i64 t9.kind, .int .i64 t9.so, .string t9.name, .slice al9 t9.labels.length cl9, .slice ak9 t9.kids.length ck9] 25)) (w.heap.size + 1 + 1) 0 (.int .i64 t.kind) (.int .i64 t.so) (.string t.name) (.slice al t.labels.length cl) (.slice (some ⟨kb, ko, none⟩) t.kids.length ck) = W9 at TA ⊢
          obtain ⟨⟨r0, r1, r2, r3, r4⟩, hb9⟩ := TA
          simp only [Nat.zero_add] at r1 r2 r3 r4
          refine bodyPost_ret (v := .tuple #[.agg #[.int .i64 t.kind, .int .i64 t.so, .string t.name, .slice al t.labels.length cl, .slice (some ⟨kb, ko, none⟩) t.kids.length ck], .bool false]) (by simp [results, Tryd.results17, go_sem, r0, r1, r2, r3, r4]) rfl ?_
          exact ⟨.inl ⟨by first | exact HCX.out | simpa using HCX.out, t, al, cl, _, ck, rfl⟩, hb9⟩
        · have HC0 := hideK hc0
          have HBD3 := hideK hbd3
          have HLP3 := hideK hlp3
          have HKP3 := hideK hkp3
          clear hc0 hbd3 hlp3 hkp3
          generalize hv3 : putT x s v = v3 at *
          have hsz2 := HB2.out.size
          have hA2 : Below w2.heap.size w2 ((w2.alloc (.cells #[.int .i64 v3.kind, .int .i64 v3.so, .string v3.name, .slice al3 v3.labels.length cl3, .slice ak3 v3.kids.length ck3] 25)).alloc (.cells #[.int .i64 v3.kind, .int .i64 v3.so, .string v3.name, .slice al3 v3.labels.length cl3, .slice ak3 v3.kids.length ck3] 25)) := ((Below.refl _ _).alloc (Nat.le_refl _) _).alloc (by simp) _
          have q4 := (HPX2.out.keep ((Below.refl w2.heap.size w2).alloc (Nat.le_refl _) (.cells #[.int .i64 v3.kind, .int .i64 v3.so, .string v3.name, .slice al3 v3.labels.length cl3, .slice ak3 v3.kids.length ck3] 25))).o4
          have hPX4 := HPX2.out.keep hA2
          have p4 := hPX4.o4
          have fo4 := hPX4.fo
          have HPX4 := hideK hPX4
          have HA2 := hideK hA2
          have LR := hideK (show ((w2.alloc (.cells #[.int .i64 v3.kind, .int .i64 v3.so, .string v3.name, .slice al3 v3.labels.length cl3, .slice ak3 v3.kids.length ck3] 25)).alloc (.cells #[.int .i64 v3.kind, .int .i64 v3.so, .string v3.name, .slice al3 v3.labels.length cl3, .slice ak3 v3.kids.length ck3] 25)).ownsRow V.heap.size 25 5 (.slice (some ⟨w2.heap.size + 1, 0, none⟩) 1 1) 1 (tC (v3, (al3, cl3), (ak3, ck3))) from by
            have h := World.ownsRow_lit (base := V.heap.size) (e := 25) (size := 5) (w2.alloc (.cells #[.int .i64 v3.kind, .int .i64 v3.so, .string v3.name, .slice al3 v3.labels.length cl3, .slice ak3 v3.kids.length ck3] 25)) #[.int .i64 v3.kind, .int .i64 v3.so, .string v3.name, .slice al3 v3.labels.length cl3, .slice ak3 v3.kids.length ck3] 1 (by simp; omega) (by decide) rfl
            rw [show (w2.alloc (.cells #[.int .i64 v3.kind, .int .i64 v3.so, .string v3.name, .slice al3 v3.labels.length cl3, .slice ak3 v3.kids.length ck3] 25)).heap.size = w2.heap.size + 1 from by simp] at h
            exact h)
          have OA := hideK (own_keep0 (own_keep0 (own_keep0 HOR.out HA1.out) HB2.out) HA2.out)
          have hsz4 : V.heap.size ≤ ((w2.alloc (.cells #[.int .i64 v3.kind, .int .i64 v3.so, .string v3.name, .slice al3 v3.labels.length cl3, .slice ak3 v3.kids.length ck3] 25)).alloc (.cells #[.int .i64 v3.kind, .int .i64 v3.so, .string v3.name, .slice al3 v3.labels.length cl3, .slice ak3 v3.kids.length ck3] 25)).heap.size := by simp; omega
          have hsz5 : ((w2.alloc (.cells #[.int .i64 v3.kind, .int .i64 v3.so, .string v3.name, .slice al3 v3.labels.length cl3, .slice ak3 v3.kids.length ck3] 25)).alloc (.cells #[.int .i64 v3.kind, .int .i64 v3.so, .string v3.name, .slice al3 v3.labels.length cl3, .slice ak3 v3.kids.length ck3] 25)).heap.size = w2.heap.size + 2 := by simp
          have HW7 := hideK (fun (w7 : World) (hg7 : ((w2.alloc (.cells #[.int .i64 v3.kind, .int .i64 v3.so, .string v3.name, .slice al3 v3.labels.length cl3, .slice ak3 v3.kids.length ck3] 25)).alloc (.cells #[.int .i64 v3.kind, .int .i64 v3.so, .string v3.name, .slice al3 v3.labels.length cl3, .slice ak3 v3.kids.length ck3] 25)).grownBy w7 u.ownBlock) => show w7.cell? ⟨bo, 4, none⟩ = some u ∧ w7.frozen? ⟨bo, 4, none⟩ = false from ⟨(World.cell?_of_block (a := ⟨bo, 4, none⟩) (hg7.block bo HPX4.out.lt (fun e => by have := (HUL.out bo e.symm).1; omega))).trans p4, (World.frozen?_of_block (a := ⟨bo, 4, none⟩) (hg7.block bo HPX4.out.lt (fun e => by have := (HUL.out bo e.symm).1; omega))).trans fo4⟩)
          clear hA2 hPX4
          go_wp2_with (at_builtin; refine wpList_append_rows _ rfl (.tmp 74) (.tmp 76) 23 rfl V.heap.size V.heap.size 25 i1 _ 5 80 Tryd.underlying23 hj hy0 hy1 hy2 rfl (by decide) _ _ _ rfl OA.out _ _ _ rfl LR.out (tC_one (v3, (al3, cl3), (ak3, ck3))) (by unfold maxLen; omega) (by omega) hsz4 ?_; intro v7 w7 hO7 hg7 hat7; have HO7 := hideK hO7; have HG7 := hideK hg7; have HAT7 := hideK hat7; obtain ⟨c74, f74⟩ := HW7.out w7 hg7; clear hg7 hat7; obtain ⟨va, vc, rfl⟩ := sliceH_own hO7; clear hO7)
          go_roundw
          case rel =>
            have hg7 := HG7.out
            have hfr : ∀ b, b < w2.heap.size → u.ownBlock ≠ some b → (Value.slice va (k + 1) vc).ownBlock ≠ some b := fun b hb hn e => by
              rcases HAT7.out with q | q
              · exact hn (q ▸ e)
              · rw [q] at e; injection e with e; omega
            have hs7 : w2.heap.size ≤ (w7.setCell ⟨bo, 4, none⟩ (Value.slice va (k + 1) vc)).heap.size := by have := hg7.size; simp; omega
            have hkB : ∀ b o, b < w2.heap.size → b ≠ bo → u.ownBlock ≠ some b → (w7.setCell ⟨bo, 4, none⟩ (Value.slice va (k + 1) vc)).cell? ⟨b, o, none⟩ = w2.cell? ⟨b, o, none⟩ := fun b o h1 h2 h3 => (World.cell?_setCell_other _ _ _ _ (by intro e; injection e with e; exact h2 e.symm)).trans ((World.cell?_of_block (a := ⟨b, o, none⟩) (hg7.block b (by omega) (fun e => h3 e.symm))).trans (HA2.out.cell (p := ⟨b, o, none⟩) h1))
            refine ⟨k + 1, ts ++ [(v3, (al3, cl3), (ak3, ck3))], (Value.slice va (k + 1) vc), by omega, by go_num, HPX4.out.put hg7 (fun b e => by have := (HUL.out b e).1; omega), ?_, ?_, ?_, ?_, by omega⟩
            · have := HO7.out
              rw [tCs_snoc]
              refine ⟨this.1, this.2.imp id fun ⟨g, cp, cur, q1, q2, q3, q4⟩ => ⟨g, cp, cur, q1, q2, ?_, q4⟩⟩
              rw [Below.heap_setCell _ _ _ g (fun e => by have e : g = bo := e; omega)]
              exact q3
            · rw [List.map_append, HMP.out, HMS.out]; rfl
            · intro q hq
              rcases List.mem_append.1 hq with hq | hq
              · refine HTR.out.keep (W' := w7.setCell ⟨bo, 4, none⟩ (Value.slice va (k + 1) vc)) (fun b o hb => ?_) (fun b hb => ?_) q hq
                · rcases hb with hb | ⟨hb1, hb2, hb3⟩
                  · rw [hkB b o (by omega) (by omega) (fun e => by have := (HUL.out b e).1; omega), HB2.out.cell (p := ⟨b, o, none⟩) (by show b < _; omega), HA1.out.cell (p := ⟨b, o, none⟩) (by show b < _; omega)]
                  · rw [hkB b o (by omega) (by omega) hb3, HB2.out.cell (p := ⟨b, o, none⟩) (by show b < _; omega), HA1.out.cell (p := ⟨b, o, none⟩) hb2]
                · rcases hb with hb | ⟨hb1, hb2, hb3⟩
                  · exact .inl hb
                  · exact .inr ⟨hb1, by omega, hfr b (by omega) hb3⟩
              · obtain rfl := List.mem_singleton.1 hq
                have k1 : ∀ b o, (b < B ∨ (W1.heap.size ≤ b ∧ b < w2.heap.size)) → (w7.setCell ⟨bo, 4, none⟩ (Value.slice va (k + 1) vc)).cell? ⟨b, o, none⟩ = w2.cell? ⟨b, o, none⟩ := fun b o hb => hkB b o (by omega) (by omega) (fun e => by have := HUL.out b e; omega)
                have k2 : ∀ b, (b < B ∨ (W1.heap.size ≤ b ∧ b < w2.heap.size)) → (b < B ∨ (V.heap.size ≤ b ∧ b < (w7.setCell ⟨bo, 4, none⟩ (Value.slice va (k + 1) vc)).heap.size ∧ (Value.slice va (k + 1) vc).ownBlock ≠ some b)) := fun b hb => hb.imp id fun ⟨h1, h2⟩ => ⟨by omega, by omega, hfr b h2 (fun e => by have := (HUL.out b e).2; omega)⟩
                exact ⟨HBD3.out, HLP3.out.keep k1 k2, d3, HKP3.out.keep k1 k2⟩
            · rw [HSN.out, HCF.out, HC0.out]; rfl
          case measure => simp [intOf]; omega
      · have hltz : ¬ (k : Int) < (t.kids.length : Int) := by omega
        obtain rfl : k = t.kids.length := by omega
        rw [List.take_length] at hmap hcf
        obtain ⟨uk, uc, ud, rfl, hu1, hu2, hukp⟩ := kp_row (P := fun b => b < B ∨ (w.heap.size ≤ b ∧ b < wr.heap.size ∧ b ≠ w.heap.size + 1 + 1)) hO (by have := congrArg List.length hmap; simpa using this) (hT.keep (fun _ _ _ => rfl) (fun b hb => hb.imp id fun ⟨h1, h2, _⟩ => ⟨by omega, h2, by omega⟩)) (fun b e => .inr ⟨by have := (hO.lt b e).1; omega, (hO.lt b e).2, by have := (hO.lt b e).1; omega⟩)
        rw [hmap] at hukp
        have HUKP := hideK hukp
        have HCF := hideK hcf
        have HPXR := hideK hPX
        have o0 := hPX.o0
        have o1 := hPX.o1
        have o2 := hPX.o2
        have o3 := hPX.o3
        have o4 := hPX.o4
        obtain ⟨⟨zv0, zc0⟩, zf0⟩ := hPX.z 0 (by omega)
        obtain ⟨⟨zv1, zc1⟩, zf1⟩ := hPX.z 1 (by omega)
        obtain ⟨⟨zv2, zc2⟩, zf2⟩ := hPX.z 2 (by omega)
        obtain ⟨⟨zv3, zc3⟩, zf3⟩ := hPX.z 3 (by omega)
        obtain ⟨⟨zv4, zc4⟩, zf4⟩ := hPX.z 4 (by omega)
        clear hPX hO hmap hT hcf hukp x0 x1 x2 x3 x4 y0 y1 y2 y3 y4
        go_wp2_with fail
        have TA := px_st HPXR.out t al cl uk uc
        change TyAt (st5 wr (w.heap.size + 1 + 1) 0 (.int .i64 t.kind) (.int .i64 t.so) (.string t.name) (.slice al t.labels.length cl) (.slice uk t.kids.length uc)) _ _ _ _ _ _ _ ∧ Below _ _ (st5 wr (w.heap.size + 1 + 1) 0 (.int .i64 t.kind) (.int .i64 t.so) (.string t.name) (.slice al t.labels.length cl) (.slice uk t.kids.length uc)) at TA
        change bodyPost _ _ _ _ _ (st5 wr (w.heap.size + 1 + 1) 0 (.int .i64 t.kind) (.int .i64 t.so) (.string t.name) (.slice al t.labels.length cl) (.slice uk t.kids.length uc))
        have HKN : KP (st5 wr (w.heap.size + 1 + 1) 0 (.int .i64 t.kind) (.int .i64 t.so) (.string t.name) (.slice al t.labels.length cl) (.slice uk t.kids.length uc)) (fun b => b < B ∨ (w.heap.size ≤ b ∧ b < (st5 wr (w.heap.size + 1 + 1) 0 (.int .i64 t.kind) (.int .i64 t.so) (.string t.name) (.slice al t.labels.length cl) (.slice uk t.kids.length uc)).heap.size)) ud (t.kids.map (putT x s)) uk := HUKP.out.keep (fun bb oo hbb => st5_other _ _ _ _ _ _ _ _ _ _ (.inl (by have hbb : bb < B ∨ (w.heap.size ≤ bb ∧ bb < wr.heap.size ∧ bb ≠ w.heap.size + 1 + 1) := hbb; omega))) (fun bb hbb => by have hbb : bb < B ∨ (w.heap.size ≤ bb ∧ bb < wr.heap.size ∧ bb ≠ w.heap.size + 1 + 1) := hbb; show bb < B ∨ (w.heap.size ≤ bb ∧ bb < (st5 wr (w.heap.size + 1 + 1) 0 (.int .i64 t.kind) (.int .i64 t.so) (.string t.name) (.slice al t.labels.length cl) (.slice uk t.kids.length uc)).heap.size); rw [st5_size]; omega)
        generalize st5 wr (w.heap.size + 1 + 1) 0 (.int .i64 t.kind) (.int .i64 t.so) (.string t.name) (.slice al t.labels.length cl) (.slice uk t.kids.length uc) = W9 at TA HKN ⊢
        obtain ⟨⟨r0, r1, r2, r3, r4⟩, hb9⟩ := TA
        simp only [Nat.zero_add] at r1 r2 r3 r4
        refine bodyPost_ret (v := .tuple #[.agg #[.int .i64 t.kind, .int .i64 t.so, .string t.name, .slice al t.labels.length cl, .slice uk t.kids.length uc], .bool true]) (by simp [results, Tryd.results17, go_sem, r0, r1, r2, r3, r4]) rfl ?_
        exact ⟨.inr ⟨by first | exact HCF.out | exact any_false HCF.out, al, cl, uk, uc, by first | rfl | simp, ⟨HBD.out.name, HBD.out.labs, HBD.out.labels, HBD.out.cl, by simpa using hu1, hu2⟩, lp_of (fun b hb => .inl hb) (NAt.keep (hb9.mono hB) HLA.out), ud, HKN⟩, hb9⟩
  all_goals
    clear hy
    go_enter Tryd.func17, Tryd.ntmps17
    go_wp2_with fail
    generalize (((w.alloc (.cells #[.int .i64 t.kind, .int .i64 t.so, .string t.name, .slice al t.labels.length cl, .slice ak t.kids.length ck] 25)).alloc (.cells #[.int .i64 s.kind, .int .i64 s.so, .string s.name, .slice sal s.labels.length scl, .slice sak s.kids.length sck] 25)).alloc (.cells #[.int .i64 0, .int .i64 0, .string ⟨#[]⟩, .slice none 0 0, .slice none 0 0] 25)).alloc (.cells #[.int .i64 t.kind, .int .i64 t.so, .string t.name, .slice al t.labels.length cl, .slice none 0 0] 25) = V at *
    generalize w.heap.size + 1 + 1 + 1 = bo at *
    go_loopw [58] (fun i wq => ∃ (k : Nat) (ts : List TTk) (u : Value), k ≤ t.kids.length ∧ i = .int .i64 (k : Int) ∧ PX w t al cl ak ck s sal scl sak sck bo u wq ∧ wq.ownsRow V.heap.size 25 5 u k (tCs ts) ∧ ts.map (fun q => q.1) = (t.kids.take k).map (putT x s) ∧ TOK wq (fun b => b < B ∨ (V.heap.size ≤ b ∧ b < wq.heap.size ∧ u.ownBlock ≠ some b)) ts ∧ (t.kids.take k).any (capT x c) = false ∧ V.heap.size ≤ wq.heap.size) (fun i _ => t.kids.length - (intOf i).toNat)
    case atStart => exact ⟨0, [], .slice none 0 0, Nat.zero_le _, rfl, HPX.out, World.ownsRow_nil _ _ _ _, rfl, fun q hq => (by cases hq), rfl, Nat.le_refl _⟩
    case round =>
      obtain ⟨k, ts, u, hk, rfl, hPX, hO, hmap, hT, hcf, hVs⟩ := hrel
      have hVb : bo < V.heap.size := HPX.out.lt
      have hwV : w.heap.size ≤ V.heap.size := HPX.out.bl.size
      clear HPX
      have hlo := hPX.lo
      have hlt := hPX.lt
      have HUL := hideK (fun b (e : u.ownBlock = some b) => hO.lt b e)
      obtain ⟨x0, x1, x2, x3, x4⟩ := hPX.x
      obtain ⟨y0, y1, y2, y3, y4⟩ := hPX.y
      simp only [Nat.zero_add] at x1 x2 x3 x4 y1 y2 y3 y4
      by_cases hlt2 : k < t.kids.length
      · have hltz : (k : Int) < (t.kids.length : Int) := by omega
        obtain ⟨b, o, hak, hbB, al2, cl2, ak2, ck2, hat, hbd2, hla2, d2, hkt2⟩ := kt_at HKT.out hlt2
        subst hak
        obtain ⟨e0, e1, e2, e3, e4⟩ := hat.keep (hPX.bl.mono hB) hbB
        have hm := List.getElem_mem hlt2
        have hA1 : Below wr.heap.size wr (wr.alloc (.cells #[.int .i64 t.kids[k].kind, .int .i64 t.kids[k].so, .string t.kids[k].name, .slice al2 t.kids[k].labels.length cl2, .slice ak2 t.kids[k].kids.length ck2] 25)) := (Below.refl _ _).alloc (Nat.le_refl _) _
        have hPX1 := hPX.keep hA1
        have hbw := hPX1.bl
        have cP := HIH.out x c s t.kids[k] al2 cl2 ak2 ck2 d2 sal scl sak sck ds B (wr.alloc (.cells #[.int .i64 t.kids[k].kind, .int .i64 t.kids[k].so, .string t.kids[k].name, .slice al2 t.kids[k].labels.length cl2, .slice ak2 t.kids[k].kids.length ck2] 25)) (by have := sizeT_kid hm; have := HSZ.out; omega) hbd2 (NAt.keep (hbw.mono hB) hla2) (KT.keep (hbw.mono hB) hkt2) HSB.out (NAt.keep (hbw.mono hB) HSL.out) (KT.keep (hbw.mono hB) HSK.out) (Nat.le_trans hB hbw.size) (HWK.out _ hm)
        unfold PTPost at cP
        have HSN := hideK (show (t.kids.take (k + 1)).any (capT x c) = ((t.kids.take k).any (capT x c) || capT x c t.kids[k]) from by rw [List.take_succ_eq_append_getElem hlt2, List.any_append]; simp)
        have HMS := hideK (show (t.kids.take (k + 1)).map (putT x s) = (t.kids.take k).map (putT x s) ++ [putT x s t.kids[k]] from by rw [List.take_succ_eq_append_getElem hlt2, List.map_append]; rfl)
        have HCM := hideK (fun (q : capT x c t.kids[k] = true) => show t.kids.any (capT x c) = true from List.any_eq_true.2 ⟨_, hm, q⟩)
        have HPX1 := hideK hPX1
        have HOR := hideK hO
        have HTR := hideK hT
        have HMP := hideK hmap
        have HCF := hideK hcf
        have HWS := hideK (show wr.heap.size + 1 = (wr.alloc (.cells #[.int .i64 t.kids[k].kind, .int .i64 t.kids[k].so, .string t.kids[k].name, .slice al2 t.kids[k].labels.length cl2, .slice ak2 t.kids[k].kids.length ck2] 25)).heap.size from by simp)
        obtain ⟨g0, g1, g2, g3, g4⟩ := hPX1.y
        simp only [Nat.zero_add] at g1 g2 g3 g4
        have HA1 := hideK hA1
        clear hat hbd2 hla2 hkt2 hmap hT hcf hO hPX hPX1 hbw hA1 hm
        generalize t.kids[k] = v at *
        simp only [tyVal] at cP
        go_wp2_with fail
        refine cP.mono ?_
        generalize (wr.alloc (.cells #[.int .i64 v.kind, .int .i64 v.so, .string v.name, .slice al2 v.labels.length cl2, .slice ak2 v.kids.length ck2] 25)) = W1 at *
        rintro e w2 ⟨hor, hb2⟩
        have HPX2 := hideK (HPX1.out.keep hb2)
        have HB2 := hideK hb2
        have hws := HWS.out
        clear g0 g1 g2 g3 g4
        clear cP hb2 e0 e1 e2 e3 e4 y0 y1 y2 y3 y4 x0 x1 x2 x3 x4
        rcases hor with ⟨hc1, t9, al9, cl9, ak9, ck9, rfl⟩ | ⟨hc0, al3, cl3, ak3, ck3, d3, rfl, hbd3, hlp3, hkp3⟩
        · have HCX := hideK (HCM.out hc1)
          have HPX3 := hideK (HPX2.out.keep ((Below.refl w2.heap.size w2).alloc (Nat.le_refl _) (.cells #[.int .i64 t9.kind, .int .i64 t9.so, .string t9.name, .slice al9 t9.labels.length cl9, .slice ak9 t9.kids.length ck9] 25)))
          obtain ⟨x0, x1, x2, x3, x4⟩ := HPX3.out.x
          simp only [Nat.zero_add] at x1 x2 x3 x4
          obtain ⟨⟨zv0, zc0⟩, zf0⟩ := HPX3.out.z 0 (by omega)
          obtain ⟨⟨zv1, zc1⟩, zf1⟩ := HPX3.out.z 1 (by omega)
          obtain ⟨⟨zv2, zc2⟩, zf2⟩ := HPX3.out.z 2 (by omega)
          obtain ⟨⟨zv3, zc3⟩, zf3⟩ := HPX3.out.z 3 (by omega)
          obtain ⟨⟨zv4, zc4⟩, zf4⟩ := HPX3.out.z 4 (by omega)
          clear hc1
          go_wp2_with fail
          have TA := px_st HPX3.out t al cl (some ⟨b, o, none⟩) ck
          change TyAt (st5 (w2.alloc (.cells #[.int .i64 t9.kind, .int .i64 t9.so, .string t9.name, .slice al9 t9.labels.length cl9, .slice ak9 t9.kids.length ck9] 25)) (w.heap.size + 1 + 1) 0 (.int .i64 t.kind) (.int .i64 t.so) (.string t.name) (.slice al t.labels.length cl) (.slice (some ⟨b, o, none⟩) t.kids.length ck)) _ _ _ _ _ _ _ ∧ Below _ _ (st5 (w2.alloc (.cells #[.int .i64 t9.kind, .int .i64 t9.so, .string t9.name, .slice al9 t9.labels.length cl9, .slice ak9 t9.kids.length ck9] 25)) (w.heap.size + 1 + 1) 0 (.int .i64 t.kind) (.int .i64 t.so) (.string t.name) (.slice al t.labels.length cl) (.slice (some ⟨b, o, none⟩) t.kids.length ck)) at TA
          change bodyPost _ _ _ _ _ (st5 (w2.alloc (.cells #[.int .i64 t9.kind, .int .i64 t9.so, .string t9.name, .slice al9 t9.labels.length cl9, .slice ak9 t9.kids.length ck9] 25)) (w.heap.size + 1 + 1) 0 (.int .i64 t.kind) (.int .i64 t.so) (.string t.name) (.slice al t.labels.length cl) (.slice (some ⟨b, o, none⟩) t.kids.length ck))
          generalize st5 (w2.alloc (.cells #[.int .i64 t9.kind, .int .i64 t9.so, .string t9.name, .slice al9 t9.labels.length cl9, .slice ak9 t9.kids.length ck9] 25)) (w.heap.size + 1 + 1) 0 (.int .i64 t.kind) (.int .i64 t.so) (.string t.name) (.slice al t.labels.length cl) (.slice (some ⟨b, o, none⟩) t.kids.length ck) = W9 at TA ⊢
          obtain ⟨⟨r0, r1, r2, r3, r4⟩, hb9⟩ := TA
          simp only [Nat.zero_add] at r1 r2 r3 r4
          refine bodyPost_ret (v := .tuple #[.agg #[.int .i64 t.kind, .int .i64 t.so, .string t.name, .slice al t.labels.length cl, .slice (some ⟨b, o, none⟩) t.kids.length ck], .bool false]) (by simp [results, Tryd.results17, go_sem, r0, r1, r2, r3, r4]) rfl ?_
          exact ⟨.inl ⟨by first | exact HCX.out | simpa using HCX.out, t, al, cl, _, ck, rfl⟩, hb9⟩
        · have HC0 := hideK hc0
          have HBD3 := hideK hbd3
          have HLP3 := hideK hlp3
          have HKP3 := hideK hkp3
          clear hc0 hbd3 hlp3 hkp3
          generalize hv3 : putT x s v = v3 at *
          have hsz2 := HB2.out.size
          have hA2 : Below w2.heap.size w2 ((w2.alloc (.cells #[.int .i64 v3.kind, .int .i64 v3.so, .string v3.name, .slice al3 v3.labels.length cl3, .slice ak3 v3.kids.length ck3] 25)).alloc (.cells #[.int .i64 v3.kind, .int .i64 v3.so, .string v3.name, .slice al3 v3.labels.length cl3, .slice ak3 v3.kids.length ck3] 25)) := ((Below.refl _ _).alloc (Nat.le_refl _) _).alloc (by simp) _
          have q4 := (HPX2.out.keep ((Below.refl w2.heap.size w2).alloc (Nat.le_refl _) (.cells #[.int .i64 v3.kind, .int .i64 v3.so, .string v3.name, .slice al3 v3.labels.length cl3, .slice ak3 v3.kids.length ck3] 25))).o4
          have hPX4 := HPX2.out.keep hA2
          have p4 := hPX4.o4
          have fo4 := hPX4.fo
          have HPX4 := hideK hPX4
          have HA2 := hideK hA2
          have LR := hideK (show ((w2.alloc (.cells #[.int .i64 v3.kind, .int .i64 v3.so, .string v3.name, .slice al3 v3.labels.length cl3, .slice ak3 v3.kids.length ck3] 25)).alloc (.cells #[.int .i64 v3.kind, .int .i64 v3.so, .string v3.name, .slice al3 v3.labels.length cl3, .slice ak3 v3.kids.length ck3] 25)).ownsRow V.heap.size 25 5 (.slice (some ⟨w2.heap.size + 1, 0, none⟩) 1 1) 1 (tC (v3, (al3, cl3), (ak3, ck3))) from by
            have h := World.ownsRow_lit (base := V.heap.size) (e := 25) (size := 5) (w2.alloc (.cells #[.int .i64 v3.kind, .int .i64 v3.so, .string v3.name, .slice al3 v3.labels.length cl3, .slice ak3 v3.kids.length ck3] 25)) #[.int .i64 v3.kind, .int .i64 v3.so, .string v3.name, .slice al3 v3.labels.length cl3, .slice ak3 v3.kids.length ck3] 1 (by simp; omega) (by decide) rfl
            rw [show (w2.alloc (.cells #[.int .i64 v3.kind, .int .i64 v3.so, .string v3.name, .slice al3 v3.labels.length cl3, .slice ak3 v3.kids.length ck3] 25)).heap.size = w2.heap.size + 1 from by simp] at h
            exact h)
          have OA := hideK (own_keep0 (own_keep0 (own_keep0 HOR.out HA1.out) HB2.out) HA2.out)
          have hsz4 : V.heap.size ≤ ((w2.alloc (.cells #[.int .i64 v3.kind, .int .i64 v3.so, .string v3.name, .slice al3 v3.labels.length cl3, .slice ak3 v3.kids.length ck3] 25)).alloc (.cells #[.int .i64 v3.kind, .int .i64 v3.so, .string v3.name, .slice al3 v3.labels.length cl3, .slice ak3 v3.kids.length ck3] 25)).heap.size := by simp; omega
          have hsz5 : ((w2.alloc (.cells #[.int .i64 v3.kind, .int .i64 v3.so, .string v3.name, .slice al3 v3.labels.length cl3, .slice ak3 v3.kids.length ck3] 25)).alloc (.cells #[.int .i64 v3.kind, .int .i64 v3.so, .string v3.name, .slice al3 v3.labels.length cl3, .slice ak3 v3.kids.length ck3] 25)).heap.size = w2.heap.size + 2 := by simp
          have HW7 := hideK (fun (w7 : World) (hg7 : ((w2.alloc (.cells #[.int .i64 v3.kind, .int .i64 v3.so, .string v3.name, .slice al3 v3.labels.length cl3, .slice ak3 v3.kids.length ck3] 25)).alloc (.cells #[.int .i64 v3.kind, .int .i64 v3.so, .string v3.name, .slice al3 v3.labels.length cl3, .slice ak3 v3.kids.length ck3] 25)).grownBy w7 u.ownBlock) => show w7.cell? ⟨bo, 4, none⟩ = some u ∧ w7.frozen? ⟨bo, 4, none⟩ = false from ⟨(World.cell?_of_block (a := ⟨bo, 4, none⟩) (hg7.block bo HPX4.out.lt (fun e => by have := (HUL.out bo e.symm).1; omega))).trans p4, (World.frozen?_of_block (a := ⟨bo, 4, none⟩) (hg7.block bo HPX4.out.lt (fun e => by have := (HUL.out bo e.symm).1; omega))).trans fo4⟩)
          clear hA2 hPX4
          go_wp2_with (at_builtin; refine wpList_append_rows _ rfl (.tmp 74) (.tmp 76) 23 rfl V.heap.size V.heap.size 25 i1 _ 5 80 Tryd.underlying23 hj hy0 hy1 hy2 rfl (by decide) _ _ _ rfl OA.out _ _ _ rfl LR.out (tC_one (v3, (al3, cl3), (ak3, ck3))) (by unfold maxLen; omega) (by omega) hsz4 ?_; intro v7 w7 hO7 hg7 hat7; have HO7 := hideK hO7; have HG7 := hideK hg7; have HAT7 := hideK hat7; obtain ⟨c74, f74⟩ := HW7.out w7 hg7; clear hg7 hat7; obtain ⟨va, vc, rfl⟩ := sliceH_own hO7; clear hO7)
          go_roundw
          case rel =>
            have hg7 := HG7.out
            have hfr : ∀ b, b < w2.heap.size → u.ownBlock ≠ some b → (Value.slice va (k + 1) vc).ownBlock ≠ some b := fun b hb hn e => by
              rcases HAT7.out with q | q
              · exact hn (q ▸ e)
              · rw [q] at e; injection e with e; omega
            have hs7 : w2.heap.size ≤ (w7.setCell ⟨bo, 4, none⟩ (Value.slice va (k + 1) vc)).heap.size := by have := hg7.size; simp; omega
            have hkB : ∀ b o, b < w2.heap.size → b ≠ bo → u.ownBlock ≠ some b → (w7.setCell ⟨bo, 4, none⟩ (Value.slice va (k + 1) vc)).cell? ⟨b, o, none⟩ = w2.cell? ⟨b, o, none⟩ := fun b o h1 h2 h3 => (World.cell?_setCell_other _ _ _ _ (by intro e; injection e with e; exact h2 e.symm)).trans ((World.cell?_of_block (a := ⟨b, o, none⟩) (hg7.block b (by omega) (fun e => h3 e.symm))).trans (HA2.out.cell (p := ⟨b, o, none⟩) h1))
            refine ⟨k + 1, ts ++ [(v3, (al3, cl3), (ak3, ck3))], (Value.slice va (k + 1) vc), by omega, by go_num, HPX4.out.put hg7 (fun b e => by have := (HUL.out b e).1; omega), ?_, ?_, ?_, ?_, by omega⟩
            · have := HO7.out
              rw [tCs_snoc]
              refine ⟨this.1, this.2.imp id fun ⟨g, cp, cur, q1, q2, q3, q4⟩ => ⟨g, cp, cur, q1, q2, ?_, q4⟩⟩
              rw [Below.heap_setCell _ _ _ g (fun e => by have e : g = bo := e; omega)]
              exact q3
            · rw [List.map_append, HMP.out, HMS.out]; rfl
            · intro q hq
              rcases List.mem_append.1 hq with hq | hq
              · refine HTR.out.keep (W' := w7.setCell ⟨bo, 4, none⟩ (Value.slice va (k + 1) vc)) (fun b o hb => ?_) (fun b hb => ?_) q hq
                · rcases hb with hb | ⟨hb1, hb2, hb3⟩
                  · rw [hkB b o (by omega) (by omega) (fun e => by have := (HUL.out b e).1; omega), HB2.out.cell (p := ⟨b, o, none⟩) (by show b < _; omega), HA1.out.cell (p := ⟨b, o, none⟩) (by show b < _; omega)]
                  · rw [hkB b o (by omega) (by omega) hb3, HB2.out.cell (p := ⟨b, o, none⟩) (by show b < _; omega), HA1.out.cell (p := ⟨b, o, none⟩) hb2]
                · rcases hb with hb | ⟨hb1, hb2, hb3⟩
                  · exact .inl hb
                  · exact .inr ⟨hb1, by omega, hfr b (by omega) hb3⟩
              · obtain rfl := List.mem_singleton.1 hq
                have k1 : ∀ b o, (b < B ∨ (W1.heap.size ≤ b ∧ b < w2.heap.size)) → (w7.setCell ⟨bo, 4, none⟩ (Value.slice va (k + 1) vc)).cell? ⟨b, o, none⟩ = w2.cell? ⟨b, o, none⟩ := fun b o hb => hkB b o (by omega) (by omega) (fun e => by have := HUL.out b e; omega)
                have k2 : ∀ b, (b < B ∨ (W1.heap.size ≤ b ∧ b < w2.heap.size)) → (b < B ∨ (V.heap.size ≤ b ∧ b < (w7.setCell ⟨bo, 4, none⟩ (Value.slice va (k + 1) vc)).heap.size ∧ (Value.slice va (k + 1) vc).ownBlock ≠ some b)) := fun b hb => hb.imp id fun ⟨h1, h2⟩ => ⟨by omega, by omega, hfr b h2 (fun e => by have := (HUL.out b e).2; omega)⟩
                exact ⟨HBD3.out, HLP3.out.keep k1 k2, d3, HKP3.out.keep k1 k2⟩
            · rw [HSN.out, HCF.out, HC0.out]; rfl
          case measure => simp [intOf]; omega
      · have hltz : ¬ (k : Int) < (t.kids.length : Int) := by omega
        obtain rfl : k = t.kids.length := by omega
        rw [List.take_length] at hmap hcf
        obtain ⟨uk, uc, ud, rfl, hu1, hu2, hukp⟩ := kp_row (P := fun b => b < B ∨ (w.heap.size ≤ b ∧ b < wr.heap.size ∧ b ≠ w.heap.size + 1 + 1)) hO (by have := congrArg List.length hmap; simpa using this) (hT.keep (fun _ _ _ => rfl) (fun b hb => hb.imp id fun ⟨h1, h2, _⟩ => ⟨by omega, h2, by omega⟩)) (fun b e => .inr ⟨by have := (hO.lt b e).1; omega, (hO.lt b e).2, by have := (hO.lt b e).1; omega⟩)
        rw [hmap] at hukp
        have HUKP := hideK hukp
        have HCF := hideK hcf
        have HPXR := hideK hPX
        have o0 := hPX.o0
        have o1 := hPX.o1
        have o2 := hPX.o2
        have o3 := hPX.o3
        have o4 := hPX.o4
        obtain ⟨⟨zv0, zc0⟩, zf0⟩ := hPX.z 0 (by omega)
        obtain ⟨⟨zv1, zc1⟩, zf1⟩ := hPX.z 1 (by omega)
        obtain ⟨⟨zv2, zc2⟩, zf2⟩ := hPX.z 2 (by omega)
        obtain ⟨⟨zv3, zc3⟩, zf3⟩ := hPX.z 3 (by omega)
        obtain ⟨⟨zv4, zc4⟩, zf4⟩ := hPX.z 4 (by omega)
        clear hPX hO hmap hT hcf hukp x0 x1 x2 x3 x4 y0 y1 y2 y3 y4
        go_wp2_with fail
        have TA := px_st HPXR.out t al cl uk uc
        change TyAt (st5 wr (w.heap.size + 1 + 1) 0 (.int .i64 t.kind) (.int .i64 t.so) (.string t.name) (.slice al t.labels.length cl) (.slice uk t.kids.length uc)) _ _ _ _ _ _ _ ∧ Below _ _ (st5 wr (w.heap.size + 1 + 1) 0 (.int .i64 t.kind) (.int .i64 t.so) (.string t.name) (.slice al t.labels.length cl) (.slice uk t.kids.length uc)) at TA
        change bodyPost _ _ _ _ _ (st5 wr (w.heap.size + 1 + 1) 0 (.int .i64 t.kind) (.int .i64 t.so) (.string t.name) (.slice al t.labels.length cl) (.slice uk t.kids.length uc))
        have HKN : KP (st5 wr (w.heap.size + 1 + 1) 0 (.int .i64 t.kind) (.int .i64 t.so) (.string t.name) (.slice al t.labels.length cl) (.slice uk t.kids.length uc)) (fun b => b < B ∨ (w.heap.size ≤ b ∧ b < (st5 wr (w.heap.size + 1 + 1) 0 (.int .i64 t.kind) (.int .i64 t.so) (.string t.name) (.slice al t.labels.length cl) (.slice uk t.kids.length uc)).heap.size)) ud (t.kids.map (putT x s)) uk := HUKP.out.keep (fun bb oo hbb => st5_other _ _ _ _ _ _ _ _ _ _ (.inl (by have hbb : bb < B ∨ (w.heap.size ≤ bb ∧ bb < wr.heap.size ∧ bb ≠ w.heap.size + 1 + 1) := hbb; omega))) (fun bb hbb => by have hbb : bb < B ∨ (w.heap.size ≤ bb ∧ bb < wr.heap.size ∧ bb ≠ w.heap.size + 1 + 1) := hbb; show bb < B ∨ (w.heap.size ≤ bb ∧ bb < (st5 wr (w.heap.size + 1 + 1) 0 (.int .i64 t.kind) (.int .i64 t.so) (.string t.name) (.slice al t.labels.length cl) (.slice uk t.kids.length uc)).heap.size); rw [st5_size]; omega)
        generalize st5 wr (w.heap.size + 1 + 1) 0 (.int .i64 t.kind) (.int .i64 t.so) (.string t.name) (.slice al t.labels.length cl) (.slice uk t.kids.length uc) = W9 at TA HKN ⊢
        obtain ⟨⟨r0, r1, r2, r3, r4⟩, hb9⟩ := TA
        simp only [Nat.zero_add] at r1 r2 r3 r4
        refine bodyPost_ret (v := .tuple #[.agg #[.int .i64 t.kind, .int .i64 t.so, .string t.name, .slice al t.labels.length cl, .slice uk t.kids.length uc], .bool true]) (by simp [results, Tryd.results17, go_sem, r0, r1, r2, r3, r4]) rfl ?_
        exact ⟨.inr ⟨by first | exact HCF.out | exact any_false HCF.out, al, cl, uk, uc, by first | rfl | simp, ⟨HBD.out.name, HBD.out.labs, HBD.out.labels, HBD.out.cl, by simpa using hu1, hu2⟩, lp_of (fun b hb => .inl hb) (NAt.keep (hb9.mono hB) HLA.out), ud, HKN⟩, hb9⟩
theorem put_any : ∀ N, PTSaid N
  | 0 => fun x c s t al cl ak ck d sal scl sak sck ds B w hs _ _ _ _ _ _ _ _ => by have := sizeT_eq t; omega
  | N + 1 => put_step N (put_any N)
end Go.Proofs.YtoieacgojkgjgaaDoor
