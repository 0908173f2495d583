/-
  The contract of global.Parse, for every text.
-/
import Derived.Test.YtfmegfgmkeicnaaDoorCyi
namespace Go.Proofs.YtfmegfgmkeicnaaDoor
open Go.RowKit Go.Shelf
theorem InCv.old {w w1 : World} {tb : Nat} {t : Cv} {W : World} (h : InCv w1 tb t W) (hw : w.heap.size ≤ w1.heap.size) : InCv w tb t W := by
  obtain ⟨d, al, cl, ak, ck, h1, h2, h3⟩ := h
  exact ⟨d, al, cl, ak, ck, h1, h2.old hw, h3⟩
theorem CvAt.st2 {W : World} {tb : Nat} {t : Cv} {al : Option Addr} {cl : Nat} {ak : Option Addr} {ck b : Nat} (h : CvAt W tb 0 t al cl ak ck) (hn : tb ≠ b) (c a : Int) : CvAt (st2 W b c a) tb 0 t al cl ak ck :=
  ⟨(st2_other _ _ _ _ _ _ hn).trans h.c0, (st2_other _ _ _ _ _ _ hn).trans h.c1, (st2_other _ _ _ _ _ _ hn).trans h.c2, (st2_other _ _ _ _ _ _ hn).trans h.c3, (st2_other _ _ _ _ _ _ hn).trans h.c4, (st2_other _ _ _ _ _ _ hn).trans h.c5, (st2_other _ _ _ _ _ _ hn).trans h.c6⟩
theorem GCv.st2 {w W : World} {d b : Nat} {t : Cv} {al : Option Addr} {cl : Nat} {ak : Option Addr} {ck : Nat} (h : GCv w W d t al cl ak ck) (hb : b < w.heap.size) (c a : Int) : GCv w (st2 W b c a) d t al cl ak ck :=
  ⟨h.bd, h.la.keep (fun b' _ hb' => st2_other _ _ _ _ _ _ (by have := hb'.1; omega)) (fun b' hb' => ⟨hb'.1, by rw [st2_size]; exact hb'.2⟩), h.ka.keep (fun b' _ hb' => st2_other _ _ _ _ _ _ (by have := hb'.1; omega)) (fun b' hb' => ⟨hb'.1, by rw [st2_size]; exact hb'.2⟩)⟩
theorem ZCv.st2 {W : World} {tb b : Nat} (h : ZCv W tb) (hn : tb ≠ b) (c a : Int) : ZCv (st2 W b c a) tb :=
  ⟨by rw [st2_size]; exact h.lt, (st2_other _ _ _ _ _ _ hn).trans h.c0, (st2_other _ _ _ _ _ _ hn).trans h.c1, (st2_other _ _ _ _ _ _ hn).trans h.c2, (st2_other _ _ _ _ _ _ hn).trans h.c3, (st2_other _ _ _ _ _ _ hn).trans h.c4, (st2_other _ _ _ _ _ _ hn).trans h.c5, (st2_other _ _ _ _ _ _ hn).trans h.c6, fun o => by rw [st2_frozen]; exact h.f o⟩
/-- what Read leaves: the conversation in its block, or the fault -/
def CPost (w : World) (tb : Nat) (x : Except (Int × Nat) Cv) (e : Ending) (w' : World) : Prop :=
  match x with
  | .ok t => e = .returned (.agg #[.int .i64 0, .int .i64 0]) ∧ (∃ u : World, w.heap.size + 6 ≤ u.heap.size ∧ InCv u tb t w') ∧ FR tb w w'
  | .error (c, a) => e = .returned (.agg #[.int .i64 c, .int .i64 (a : Int)]) ∧ FR tb w w' ∧ ZCv w' tb
theorem InCv.st2 {w W : World} {tb : Nat} {t : Cv} {b : Nat} (h : InCv w tb t W) (hb : b < w.heap.size) (hn : tb ≠ b) (c a : Int) : InCv w tb t (st2 W b c a) := by
  obtain ⟨d, al, cl, ak, ck, h1, h2, h3⟩ := h
  exact ⟨d, al, cl, ak, ck, h1.st2 hn c a, h2.st2 hb c a, fun o => by rw [st2_frozen]; exact h3 o⟩
theorem readC_any (tb : Nat) (s : ByteArray) (w : World) (hz : ZCv w tb) : Calls Tryd.prog 25 #[.string s, .string ⟨#[32]⟩, .int .i64 0, .func (.func 26) #[] #[.pointer (some ⟨tb, 0, none⟩)]] w fun e w' => CPost w tb (psC s.data.toList) e w' := by
  have hsz : s.data.toList.length = s.size := by simp
  have hcf : ∀ args W, (callFunc 26 args).run Tryd.prog W = .ok (.enter 26 args) W := fun _ _ => by kernel_rfl
  have hzl := hz.lt
  have hTT : ∀ k, k = tb → k < w.heap.size := fun k e => by omega
  have hrs : skB (rs s 0) = skB s.data.toList := rfl
  unfold psC
  by_cases h2 : 2000 < s.size
  · rw [if_pos (by rw [hsz]; exact h2)]
    exact (readG_large 26 (.pointer (some ⟨tb, 0, none⟩)) s 0 w (fun _ => False) h2).mono fun e w' ⟨h1, h3⟩ => ⟨h1, h3.to (fun _ t => t.elim), hz.keep (rb := w'.heap.size) (h3.to (fun _ t => t.elim)) (by have := h3.size; omega)⟩
  · rw [if_neg (by rw [hsz]; exact h2)]
    simp only [hsz]
    have BAD : ∀ (c : Int) (z : Int), (∀ q w0 w1, w.heap.size + 5 < w0.heap.size → Below w.heap.size w w0 → Below w0.heap.size w0 w1 → RS w1 w0.heap.size s q → rs s q = skB s.data.toList → Calls Tryd.prog 26 #[.pointer (some ⟨w0.heap.size, 0, none⟩), .pointer (some ⟨tb, 0, none⟩)] w1 fun e w2 => e = .panicked (faultE c z) ∧ FR tb w0 w2 ∧ ZCv w2 tb) →
        Calls Tryd.prog 25 #[.string s, .string ⟨#[32]⟩, .int .i64 0, .func (.func 26) #[] #[.pointer (some ⟨tb, 0, none⟩)]] w fun e w' => e = .returned (.agg #[.int .i64 c, .int .i64 z]) ∧ FR tb w w' ∧ ZCv w' tb := fun c z h =>
      (readG_bad 26 (.pointer (some ⟨tb, 0, none⟩)) c z s 0 0 0 w (fun k => k = tb) (fun W => ZCv W tb) hTT (fun W b c z hb _ hW => ZCv.st2 hW (by omega) c z) rfl (by omega) (by omega) hcf
        (fun q w0 w1 h1 h2 h3 h4 h5 => (h q w0 w1 h1 h2 h3 h4 (h5.trans hrs)).mono fun e w2 ⟨a1, a2, a3⟩ => ⟨a1, FX.fr a2 rfl, a3⟩)).mono fun e w' ⟨a1, a2, a3⟩ => ⟨a1, a2.to (fun _ t => t), a3⟩
    cases hX : rdE 2001 (skB s.data.toList) with
    | error r =>
      exact BAD 3 _ (fun q w0 w1 h1 h2 h3 h4 h5 => parseC1_bad w0.heap.size tb q s w0 w1 h4 (hz.keep (rb := w0.heap.size) (FR.of (h2.trans (h3.mono (by omega)))) (by omega)) (by omega) (FR.of h3) (Nat.le_refl _) (by rw [h5]; exact hX))
    | ok y =>
      obtain ⟨t, r⟩ := y
      simp only
      by_cases hr : r = []
      · subst hr
        rw [if_pos rfl]
        by_cases hc : chkCv t = 0
        · rw [if_pos hc]
          exact (readG_ok 26 (.pointer (some ⟨tb, 0, none⟩)) s 0 0 0 w (fun k => k = tb) (fun W => ∃ u : World, w.heap.size + 6 ≤ u.heap.size ∧ InCv u tb t W) hTT (fun W b c z hb hb2 ⟨u, hu, hW⟩ => ⟨u, hu, InCv.st2 hW (by omega) (by omega) c z⟩) rfl (by omega) (by omega) hcf
            (fun q w0 w1 h1 h2 h3 h4 h5 => (parseC1_good w0.heap.size tb q s w0 w1 h4 (hz.keep (rb := w0.heap.size) (FR.of (h2.trans (h3.mono (by omega)))) (by omega)) (by omega) (FR.of h3) (Nat.le_refl _) (by rw [h5]; exact hX) hc).mono fun e w2 ⟨a1, a2, a3⟩ => ⟨a1, FX.fr a3 rfl, w1, by have := h3.size; omega, a2⟩)).mono fun e w' ⟨a1, a2, a3⟩ => ⟨a1, a3, a2.to (fun _ t => t)⟩
        · rw [if_neg hc]
          exact BAD _ _ (fun q w0 w1 h1 h2 h3 h4 h5 => parseC1_wrong w0.heap.size tb q s w0 w1 h4 (hz.keep (rb := w0.heap.size) (FR.of (h2.trans (h3.mono (by omega)))) (by omega)) (by omega) (FR.of h3) (Nat.le_refl _) (by rw [h5]; exact hX) hc)
      · rw [if_neg hr]
        exact BAD 3 _ (fun q w0 w1 h1 h2 h3 h4 h5 => parseC1_more w0.heap.size tb q s w0 w1 h4 (hz.keep (rb := w0.heap.size) (FR.of (h2.trans (h3.mono (by omega)))) (by omega)) (by omega) (FR.of h3) (Nat.le_refl _) (by rw [h5]; exact hX) hr)
/-- what Parse keeps while it hands back what it has: both blocks -/
structure PSr (t : Cv) (al : Option Addr) (cl : Nat) (ak : Option Addr) (ck : Nat) (c a : Int) (w W : World) : Prop where
  x : CvAt W w.heap.size 0 t al cl ak ck
  fz : ∀ o, W.frozen? ⟨w.heap.size, o, none⟩ = false
  f : FB W (w.heap.size + 1) c a
  bl : Below w.heap.size w W
  g : ∃ (u : World) (d : Nat), w.heap.size + 2 ≤ u.heap.size ∧ GCv u W d t al cl ak ck
theorem PSr.bx {t : Cv} {al : Option Addr} {cl : Nat} {ak : Option Addr} {ck : Nat} {c a : Int} {w W : World} (h : PSr t al cl ak ck c a w W) : BXN W w.heap.size 7 :=
  ⟨fun j hj => by
    have : j = 0 ∨ j = 1 ∨ j = 2 ∨ j = 3 ∨ j = 4 ∨ j = 5 ∨ j = 6 := by omega
    obtain ⟨e0, e1, e2, e3, e4, e5, e6⟩ := h.x
    simp only [Nat.zero_add] at e1 e2 e3 e4 e5 e6
    rcases this with rfl | rfl | rfl | rfl | rfl | rfl | rfl
    · rw [e0]; rfl
    · rw [e1]; rfl
    · rw [e2]; rfl
    · rw [e3]; rfl
    · rw [e4]; rfl
    · rw [e5]; rfl
    · rw [e6]; rfl, h.fz, by have := h.f.lt; omega⟩
theorem PSr.stg {t : Cv} {al : Option Addr} {cl : Nat} {ak : Option Addr} {ck : Nat} {c a : Int} {w W : World} (h : PSr t al cl ak ck c a w W) : PSr t al cl ak ck c a w (st7Cv W w.heap.size 0 (.int .i64 t.kind) (.string t.fm) (.string t.tt) (.int .i64 t.so) (.string t.name) (.slice al t.labels.length cl) (.slice ak t.kids.length ck)) := by
  have hf := h.f
  refine ⟨st7Cv_at W w.heap.size 0 t al cl ak ck (fun j hj => by rw [Nat.zero_add]; exact Option.isSome_iff_exists.1 (h.bx.th j hj)), fun o => by rw [st7Cv_frozen]; exact h.fz o, ?_, ?_, ?_⟩
  · exact ⟨by rw [st7Cv_size]; exact hf.lt, (st7Cv_other _ _ _ _ _ _ _ _ _ _ _ _ (.inl (by omega))).trans hf.c0, (st7Cv_other _ _ _ _ _ _ _ _ _ _ _ _ (.inl (by omega))).trans hf.c1, by rw [st7Cv_frozen]; exact hf.f0, by rw [st7Cv_frozen]; exact hf.f1⟩
  · unfold st7Cv
    have hb : w.heap.size ≤ w.heap.size := Nat.le_refl _
    exact ((((((h.bl.setCell (p := ⟨w.heap.size, 0, none⟩) hb _).setCell (p := ⟨w.heap.size, 0 + 1, none⟩) hb _).setCell (p := ⟨w.heap.size, 0 + 2, none⟩) hb _).setCell (p := ⟨w.heap.size, 0 + 3, none⟩) hb _).setCell (p := ⟨w.heap.size, 0 + 4, none⟩) hb _).setCell (p := ⟨w.heap.size, 0 + 5, none⟩) hb _).setCell (p := ⟨w.heap.size, 0 + 6, none⟩) hb _
  · obtain ⟨u, d, hu, hg⟩ := h.g
    exact ⟨u, d, hu, hg.st (by omega) _ _ _ _ _ _ _ (Nat.le_refl _)⟩
theorem PSr.stf {t : Cv} {al : Option Addr} {cl : Nat} {ak : Option Addr} {ck : Nat} {c a c' a' : Int} {w W : World} (h : PSr t al cl ak ck c' a' w W) : PSr t al cl ak ck c a w (st2 W (w.heap.size + 1) c a) := by
  refine ⟨h.x.st2 (by omega) c a, fun o => by rw [st2_frozen]; exact h.fz o, st2_at h.f c a, ?_, ?_⟩
  · have := (FX.of (T := fun _ => False) h.bl).st2 (b := w.heap.size + 1) (by omega) c a
    exact this.below (fun _ h => h.elim)
  · obtain ⟨u, d, hu, hg⟩ := h.g
    exact ⟨u, d, hu, hg.st2 (by omega) c a⟩
theorem PSr.dr {t : Cv} {al : Option Addr} {cl : Nat} {ak : Option Addr} {ck : Nat} {c a : Int} {w W : World} (h : PSr t al cl ak ck c a w W) : PSr t al cl ak ck c a w W.drew := by
  obtain ⟨u, d, hu, hg⟩ := h.g
  exact ⟨h.x.keep (Below.refl W.heap.size W).drew (by have := h.f.lt; omega), h.fz, ⟨h.f.lt, h.f.c0, h.f.c1, h.f.f0, h.f.f1⟩, h.bl.drew, u, d, hu, hg.below (Below.refl _ _).drew⟩
theorem PSr.all {t : Cv} {al : Option Addr} {cl : Nat} {ak : Option Addr} {ck : Nat} {c a : Int} {w W : World} (h : PSr t al cl ak ck c a w W) :
    W.cell? ⟨w.heap.size, 0, none⟩ = some (.int .i64 t.kind) ∧ W.cell? ⟨w.heap.size, 1, none⟩ = some (.string t.fm) ∧ W.cell? ⟨w.heap.size, 2, none⟩ = some (.string t.tt) ∧ W.cell? ⟨w.heap.size, 3, none⟩ = some (.int .i64 t.so) ∧ W.cell? ⟨w.heap.size, 4, none⟩ = some (.string t.name) ∧ W.cell? ⟨w.heap.size, 5, none⟩ = some (.slice al t.labels.length cl) ∧ W.cell? ⟨w.heap.size, 6, none⟩ = some (.slice ak t.kids.length ck) ∧
    W.cell? ⟨w.heap.size + 1, 0, none⟩ = some (.int .i64 c) ∧ W.cell? ⟨w.heap.size + 1, 1, none⟩ = some (.int .i64 a) ∧ W.frozen? ⟨w.heap.size + 1, 0, none⟩ = false ∧ W.frozen? ⟨w.heap.size + 1, 1, none⟩ = false := by
  obtain ⟨e0, e1, e2, e3, e4, e5, e6⟩ := h.x
  simp only [Nat.zero_add] at e1 e2 e3 e4 e5 e6
  exact ⟨e0, e1, e2, e3, e4, e5, e6, h.f.c0, h.f.c1, h.f.f0, h.f.f1⟩
section
variable {P : Program} {ops : Array Oper} {S : World → Prop} {R : Act → Prop} {l : List Nat} {o : Oper} {a a' : Act}
theorem qPr {v : Value} (h : SeqS P ops S R l a') (hw : Region.wanted o (yielded ops a.tmps) = true := by rfl) (hy : ∀ w, S w → o.wp P a w (KV v a o.dst S) QF := by intro W hW; obtain ⟨x0, x1, x2, x3, x4, x5, x6, x7, x8, x9, x10⟩ := hW.all; go_simp; exact KV.mk hW) (hn : a.put o.dst v = a' := by simp only [Act.put, uA, uB, uC]; rfl) : StepS P ops S R o l a := fun _ ho => SeqS.one v ho hw hy (hn ▸ h)
end
/-- what Parse hands back -/
def PCPost (x : Except (Int × Nat) Cv) (e : Ending) (w' : World) : Prop :=
  match x with
  | .ok t => ∃ d al cl ak ck, e = .returned (.tuple #[.agg #[.int .i64 t.kind, .string t.fm, .string t.tt, .int .i64 t.so, .string t.name, .slice al t.labels.length cl, .slice ak t.kids.length ck], .agg #[.int .i64 0, .int .i64 0]]) ∧ MCv w' w'.heap.size d t al cl ak ck
  | .error (c, a) => e = .returned (.tuple #[.agg #[.int .i64 0, .string ⟨#[]⟩, .string ⟨#[]⟩, .int .i64 0, .string ⟨#[]⟩, .slice none 0 0, .slice none 0 0], .agg #[.int .i64 c, .int .i64 (a : Int)]])
set_option maxRecDepth 100000 in
set_option maxHeartbeats 4000000 in
theorem parseC_any (s : ByteArray) (w : World) :
    Calls Tryd.prog 8 #[.string s] w fun e w' => PCPost (psC s.data.toList) e w' ∧ Below w.heap.size w w' := by
  have hmf : ∀ (fn : Fn) (first cap : Array Value) (w : World), (Instr.makeFunc fn first cap).run Tryd.prog w = .ok (.func fn first cap) w := fun _ _ _ _ => rfl
  have Z0 := (ZCv.new w).keep (FR.al (pb := w.heap.size + 1) (.cells #[.int .i64 0, .int .i64 0] 30)) (by omega)
  have B0 : FB ((w.alloc (.cells #[.int .i64 0, .string ⟨#[]⟩, .string ⟨#[]⟩, .int .i64 0, .string ⟨#[]⟩, .slice none 0 0, .slice none 0 0] 25)).alloc (.cells #[.int .i64 0, .int .i64 0] 30)) (w.heap.size + 1) 0 0 := ⟨by simp, by go_cell, by go_cell, by go_simp, by go_simp⟩
  have HA : Below w.heap.size w ((w.alloc (.cells #[.int .i64 0, .string ⟨#[]⟩, .string ⟨#[]⟩, .int .i64 0, .string ⟨#[]⟩, .slice none 0 0, .slice none 0 0] 25)).alloc (.cells #[.int .i64 0, .int .i64 0] 30)) := ((Below.refl _ _).alloc (Nat.le_refl _) _).alloc (by simp) _
  have cR := readC_any w.heap.size s _ Z0
  have HB := hideK B0
  have HA' := hideK HA
  clear Z0 B0 HA
  go_enter Tryd.func8, Tryd.ntmps8
  go_wp2_with fail
  refine cR.mono ?_
  intro e w1 hp
  obtain ⟨c, a, t, al, cl, ak, ck, rfl, hP, hpost⟩ : ∃ (c a : Int) (t : Cv) (al : Option Addr) (cl : Nat) (ak : Option Addr) (ck : Nat), e = .returned (.agg #[.int .i64 c, .int .i64 a]) ∧ PSr t al cl ak ck 0 0 w w1 ∧
      (∀ W : World, PSr t al cl ak ck c a w W → PCPost (psC s.data.toList) (.returned (.tuple #[.agg #[.int .i64 t.kind, .string t.fm, .string t.tt, .int .i64 t.so, .string t.name, .slice al t.labels.length cl, .slice ak t.kids.length ck], .agg #[.int .i64 c, .int .i64 a]])) W) := by
    have hV0 : w.heap.size + 2 = ((w.alloc (.cells #[.int .i64 0, .string ⟨#[]⟩, .string ⟨#[]⟩, .int .i64 0, .string ⟨#[]⟩, .slice none 0 0, .slice none 0 0] 25)).alloc (.cells #[.int .i64 0, .int .i64 0] 30)).heap.size := by simp
    cases hX : psC s.data.toList with
    | error y =>
      obtain ⟨c, a⟩ := y
      rw [hX] at hp
      obtain ⟨rfl, hf, hz⟩ := hp
      refine ⟨c, a, ⟨0, ⟨#[]⟩, ⟨#[]⟩, 0, ⟨#[]⟩, [], []⟩, none, 0, none, 0, rfl, ⟨⟨hz.c0, hz.c1, hz.c2, hz.c3, hz.c4, hz.c5, hz.c6⟩, hz.f, HB.out.keep hf (by omega), HA'.out.trans (hf.below (by omega)), _, 0, Nat.le_of_eq hV0, GCv.leaf _ _ _ _ _ _ _ _ (by decide) (by decide) (by decide)⟩, fun W _ => rfl⟩
    | ok t =>
      rw [hX] at hp
      obtain ⟨rfl, ⟨u, hu, d, al, cl, ak, ck, hx, hg, hz⟩, hf⟩ := hp
      exact ⟨0, 0, t, al, cl, ak, ck, rfl, ⟨hx, hz, HB.out.keep hf (by omega), HA'.out.trans (hf.below (by omega)), u, d, by omega, hg⟩, fun W hW => by
        obtain ⟨u, d, hu, hg⟩ := hW.g
        exact ⟨d, al, cl, ak, ck, rfl, hg.bd, hg.la.toLA (fun b hb => hb.2), hg.ka.toK (fun b hb => hb.2)⟩⟩
  have HP := hideK hP
  have HPO := hideK hpost
  clear cR hp hpost
  obtain ⟨x0, x1, x2, x3, x4, x5, x6, x7, x8, x9, x10⟩ := hP.all
  clear hP x0 x1 x2 x3 x4 x5 x6
  go_wp2_with fail
  have HP2 := hideK ((HP.out.stf (c := c) (a := a)).dr)
  clear x7 x8 x9 x10
  change Code.wp _ _ _ _ (st2 w1 (w.heap.size + 1) c a)
  generalize st2 w1 (w.heap.size + 1) c a = V at HP2 ⊢
  refine region_seq (PSr t al cl ak ck c a w) [0, 1, 2, 3] (by kernel_rfl) (by kernel_rfl) (by kernel_rfl) HP2.out ?_
  refine qO ?_
  refine qPr ?_
  refine qO ?_
  refine qPr ?_
  refine SeqS.one undef (by rw [List.getElem?_toArray]; rfl) (by rfl) (fun W hW => wp_storeW rfl rfl rfl (store_cv hW.bx (.int .i64 t.kind) (.string t.fm) (.string t.tt) (.int .i64 t.so) (.string t.name) (.slice al t.labels.length cl) (.slice ak t.kids.length ck) (one_cv _ _ _ _ _ _ _ _ _ _ _)) ⟨rfl, hW.stg⟩) ?_
  simp only [Act.put]
  refine SeqS.one undef (by rw [List.getElem?_toArray]; rfl) (by rfl) (fun W hW => ?_) ?_
  · have hst := hideK (hW.stf (c := c) (a := a))
    obtain ⟨x0, x1, x2, x3, x4, x5, x6, x7, x8, x9, x10⟩ := hW.all
    clear x0 x1 x2 x3 x4 x5 x6 hW
    go_simp
    exact hst.out
  simp only [Act.put]
  refine SeqS.done ?_
  intro W9 hW9
  have H9 := hideK hW9
  obtain ⟨x0, x1, x2, x3, x4, x5, x6, x7, x8, x9, x10⟩ := hW9.all
  clear hW9
  go_wp2_with fail
  refine bodyPost_ret (v := .tuple #[.agg #[.int .i64 t.kind, .string t.fm, .string t.tt, .int .i64 t.so, .string t.name, .slice al t.labels.length cl, .slice ak t.kids.length ck], .agg #[.int .i64 c, .int .i64 a]]) (by simp [results, Tryd.results8, go_sem, x0, x1, x2, x3, x4, x5, x6, x7, x8]) rfl ?_
  exact ⟨HPO.out _ H9.out, H9.out.bl⟩
end Go.Proofs.YtfmegfgmkeicnaaDoor
