/-
  TypesBack: the plain facts, and the walk through the law.
-/
import Derived.Test.YtefdekfgmbgbbaaGreatDoorKx
import Derived.Test.YtefdekfgmbgbbaaGreatDoorKy
import Derived.Test.YtefdekfgmbgbbaaGreatDoorKf
import Derived.Test.YtefdekfgmbgbbaaGreatDoorWia
import Derived.Test.YtefdekfgmbgbbaaGreatDoorKl
namespace Go.Proofs.YtefdekfgmbgbbaaGreatDoor
open Go.RowKit Go.Shelf

theorem parse_new (s : ByteArray) (t : Ty) (h : psT s.data.toList = .ok t) (w : World) :
    Calls Tryz.prog 50 #[.string s] w fun e w' => (∃ al cl ak ck, e = .returned (.tuple #[.agg #[.int .i64 t.kind, .int .i64 t.so, .string t.name, .slice al t.labels.length cl, .slice ak t.kids.length ck], .agg #[.int .i64 0, .int .i64 0]]) ∧ GT w w' 2001 t al cl ak ck) ∧ Below w.heap.size w w' := by
  have c := parse_any s w
  rw [h] at c
  exact c
theorem parse_ok (s : ByteArray) (t : Ty) (h : psT s.data.toList = .ok t) (w : World) :
    Calls Tryz.prog 50 #[.string s] w fun e w' => (∃ al cl ak ck, e = .returned (.tuple #[.agg #[.int .i64 t.kind, .int .i64 t.so, .string t.name, .slice al t.labels.length cl, .slice ak t.kids.length ck], .agg #[.int .i64 0, .int .i64 0]]) ∧ TyBd t cl ck ∧ LA w' w'.heap.size t.labels al ∧ KT w' w'.heap.size 2001 t.kids ak) ∧ Below w.heap.size w w' :=
  (parse_new s t h w).mono fun _ _ ⟨⟨al, cl, ak, ck, h1, h2⟩, h3⟩ => ⟨⟨al, cl, ak, ck, h1, h2.bd, h2.la.toLA (fun _ hb => hb.2), h2.ka.toKT (fun _ hb => hb.2)⟩, h3⟩
theorem parse_err (s : ByteArray) (c : Int) (a : Nat) (h : psT s.data.toList = .error (c, a)) (w : World) :
    Calls Tryz.prog 50 #[.string s] w fun e w' => e = .returned (.tuple #[.agg #[.int .i64 0, .int .i64 0, .string ⟨#[]⟩, .slice none 0 0, .slice none 0 0], .agg #[.int .i64 c, .int .i64 (a : Int)]]) ∧ Below w.heap.size w w' := by
  have cc := parse_any s w
  rw [h] at cc
  exact cc
theorem write_good (d : Nat) (t : Ty) (al : Option Addr) (cl : Nat) (ak : Option Addr) (ck : Nat) (w : World) (hbd : TyBd t cl ck) (hla : LA w w.heap.size t.labels al) (hkt : KT w w.heap.size d t.kids ak) (h : chkTy t = 0) :
    Calls Tryz.prog 28 #[.agg #[.int .i64 t.kind, .int .i64 t.so, .string t.name, .slice al t.labels.length cl, .slice ak t.kids.length ck]] w fun e w' => e = .returned (.tuple #[.string (bs (wrT t)), .int .i64 0]) ∧ Below w.heap.size w w' := by
  have c := typesWrite_any d t al cl ak ck w hbd hla hkt
  unfold wrR at c
  rw [if_pos h] at c
  exact c
theorem write_bad (d : Nat) (t : Ty) (al : Option Addr) (cl : Nat) (ak : Option Addr) (ck : Nat) (w : World) (hbd : TyBd t cl ck) (hla : LA w w.heap.size t.labels al) (hkt : KT w w.heap.size d t.kids ak) (h : chkTy t ≠ 0) :
    Calls Tryz.prog 28 #[.agg #[.int .i64 t.kind, .int .i64 t.so, .string t.name, .slice al t.labels.length cl, .slice ak t.kids.length ck]] w fun e w' => e = .returned (.tuple #[.string ⟨#[]⟩, .int .i64 (chkTy t)]) ∧ Below w.heap.size w w' := by
  have c := typesWrite_any d t al cl ak ck w hbd hla hkt
  unfold wrR at c
  rw [if_neg h] at c
  exact c
end Go.Proofs.YtefdekfgmbgbbaaGreatDoor
/-
  The contracts of package wires' reader: next, within, number, signed and cannotBe, wherever the reader stands.
-/
namespace Go.Proofs.YtefdekfgmbgbbaaGreatDoor
open Go.RowKit Go.Shelf

/-- a reader of bytes, at byte p -/
structure WRd (W : World) (rb : Nat) (s : ByteArray) (p : Nat) : Prop where
  c0 : W.cell? ⟨rb, 0, none⟩ = some (.string s)
  c1 : W.cell? ⟨rb, 1, none⟩ = some (.int .i64 (p : Int))
  fz : W.frozen? ⟨rb, 1, none⟩ = false
  le : p ≤ s.size
  sz : s.size ≤ 281474976710656
theorem WRd.lt {W : World} {rb : Nat} {s : ByteArray} {p : Nat} (h : WRd W rb s p) : rb < W.heap.size := lt_of_cell h.c0
theorem WRd.keep {W W' : World} {rb : Nat} {s : ByteArray} {p : Nat} (h : WRd W rb s p) (hb : Below W.heap.size W W') : WRd W' rb s p :=
  ⟨(hb.cell (p := ⟨rb, 0, none⟩) h.lt).trans h.c0, (hb.cell (p := ⟨rb, 1, none⟩) h.lt).trans h.c1, (hb.frozen (p := ⟨rb, 1, none⟩) h.lt).trans h.fz, h.le, h.sz⟩
theorem WRd.set {W : World} {rb : Nat} {s : ByteArray} {p : Nat} (h : WRd W rb s p) (q : Nat) (hq : q ≤ s.size) : WRd (W.setCell ⟨rb, 1, none⟩ (.int .i64 (q : Int))) rb s q :=
  ⟨(World.cell?_setCell_other _ _ _ _ (by simp)).trans h.c0, World.cell?_setCell_same _ _ _ h.c1, by rw [World.frozen?_setCell]; exact h.fz, hq, h.sz⟩
/-- what a reading leaves -/
def WPost {α : Type} (s : ByteArray) (rb : Nat) (V : World → α → Value → Prop) (x : Except (List UInt8) (α × List UInt8)) (e : Ending) (w' : World) : Prop :=
  match x with
  | .error r => e = .panicked (thrown s r)
  | .ok (a, r) => ∃ v, e = .returned v ∧ V w' a v ∧ ∃ p', WRd w' rb s p' ∧ rs s p' = r
theorem rs_nil {s : ByteArray} {p : Nat} (h : p ≤ s.size) : rs s p = [] ↔ p = s.size := by
  constructor
  · intro e; have := congrArg List.length e; rw [rs_len] at this; simp at this; omega
  · intro e; exact List.length_eq_zero_iff.1 (by rw [rs_len]; omega)
theorem rs_cons {s : ByteArray} {p : Nat} (h : p < s.size) : ∃ b, s.data[p]? = some b ∧ rs s p = b :: rs s (p + 1) := by
  have hl : p < s.data.toList.length := by simpa using h
  refine ⟨s.data.toList[p], ?_, ?_⟩
  · rw [← Array.getElem?_toList]; exact List.getElem?_eq_getElem hl
  · unfold rs; exact List.drop_eq_getElem_cons hl
theorem belowN (w : World) (n : Nat) : Below w.heap.size w (w.drewN n) := ⟨rfl, rfl, rfl, Nat.le_refl _, fun _ _ => rfl⟩
set_option maxHeartbeats 400000 in
theorem cannotBe_any (a : Int) (w : World) :
    Calls Tryz.prog 44 #[.int .i64 a] w fun e w' => e = .returned (.agg #[.int .i64 3, .int .i64 a]) ∧ Below w.heap.size w w' := by
  go_enter Tryz.func44, Tryz.ntmps44
  go_wp2_with fail
  have r0 : (w.alloc (.cells #[.int .i64 3, .int .i64 a] 35)).cell? ⟨w.heap.size, 0, none⟩ = some (.int .i64 3) := by go_cell
  have r1 : (w.alloc (.cells #[.int .i64 3, .int .i64 a] 35)).cell? ⟨w.heap.size, 1, none⟩ = some (.int .i64 a) := by go_cell
  refine bodyPost_ret (v := .agg #[.int .i64 3, .int .i64 a]) (by simp [results, Tryz.results44, go_sem, r0, r1]) rfl ?_
  exact ⟨rfl, (Below.refl _ _).alloc (Nat.le_refl _) _⟩
set_option maxRecDepth 100000 in
set_option maxHeartbeats 1000000 in
theorem next_end (rb p : Nat) (s : ByteArray) (w : World) (h : WRd w rb s p) (he : rs s p = []) :
    Calls Tryz.prog 43 #[.pointer (some ⟨rb, 0, none⟩)] w fun e w' => e = .panicked (thrown s []) ∧ FR rb w w' := by
  have hp := (rs_nil h.le).1 he
  rw [← he, thrown_at s p h.le]
  obtain ⟨c0, c1, fz, hle, hsz⟩ := h
  have hq : ((p : Int) == (s.size : Int)) = true := by rw [hp]; simp
  clear he hp
  go_enter Tryz.func43, Tryz.ntmps43
  go_wp2_with fail
  go_quiet (fail)
  go_wp2_with (go_at_call 44; refine (cannotBe_any _ _).mono ?_; rintro e w1 ⟨rfl, hb1⟩)
  exact ⟨rfl, rfl, (FR.of (belowN w _)).trans (FR.of hb1)⟩
set_option maxRecDepth 100000 in
set_option maxHeartbeats 1000000 in
theorem next_more (rb p : Nat) (s : ByteArray) (w : World) (h : WRd w rb s p) {b : UInt8} {r : List UInt8} (he : rs s p = b :: r) :
    Calls Tryz.prog 43 #[.pointer (some ⟨rb, 0, none⟩)] w fun e w' => e = .returned (.int .u8 (b.toNat : Int)) ∧ (WRd w' rb s (p + 1) ∧ rs s (p + 1) = r) ∧ FR rb w w' := by
  have hlt : p < s.size := by
    have := congrArg List.length he
    rw [rs_len] at this; simp at this; omega
  obtain ⟨b', hb, hr⟩ := rs_cons hlt
  rw [he] at hr
  injection hr with e1 e2
  subst e1
  have HS := hideK h
  obtain ⟨c0, c1, fz, hle, hsz⟩ := h
  have hq : ((p : Int) == (s.size : Int)) = false := by simp; omega
  have hx : ∀ w1 : World, (Instr.index 9 (.string s) (.int .i64 (p : Int))).run Tryz.prog w1 = .ok (.int .u8 (b.toNat : Int)) w1 := by
    intro w1
    have hbd : p < s.size := hlt
    have hbb : s[p] = b := by
      have := Array.getElem?_eq_some_iff.1 hb
      exact this.2
    simp [go_sem]
    rw [dif_pos hbd, hbb]
  have hE2 := hideK e2
  have HW := hideK (show (p : Int) + 1 = ((p + 1 : Nat) : Int) by omega)
  have HL := hideK (show p + 1 ≤ s.size by omega)
  clear he hb e2
  go_enter Tryz.func43, Tryz.ntmps43
  go_wp2_with fail
  go_quiet (fail)
  go_wp2_with fail
  go_quiet (fail)
  go_wp2_with fail
  rw [HW.out]
  go_ret
  exact ⟨rfl, ⟨(HS.out.keep (belowN w _)).set _ HL.out, hE2.out.symm⟩, (FR.of (belowN w _)).trans (FR.set2 1 _)⟩
set_option maxRecDepth 100000 in
set_option maxHeartbeats 1000000 in
theorem within_end (rb p : Nat) (s : ByteArray) (lo hi : Int) (w : World) (h : WRd w rb s p) (he : rs s p = []) :
    Calls Tryz.prog 30 #[.pointer (some ⟨rb, 0, none⟩), .int .i64 lo, .int .i64 hi] w fun e w' => e = .panicked (thrown s []) ∧ FR rb w w' := by
  have cN := next_end rb p s w h he
  obtain ⟨c0, c1, fz, hle, hsz⟩ := h
  clear he
  go_enter Tryz.func30, Tryz.ntmps30
  go_wp2_with (go_at_call 43; refine cN.mono ?_; rintro e w1 ⟨rfl, hf⟩)
  exact ⟨rfl, rfl, hf⟩
set_option maxRecDepth 100000 in
set_option maxHeartbeats 1000000 in
theorem within_bad (rb p : Nat) (s : ByteArray) (lo hi : Int) (w : World) (h : WRd w rb s p) {b : UInt8} {r : List UInt8} (he : rs s p = b :: r) (hb : (b.toNat : Int) < lo ∨ hi < (b.toNat : Int)) :
    Calls Tryz.prog 30 #[.pointer (some ⟨rb, 0, none⟩), .int .i64 lo, .int .i64 hi] w fun e w' => e = .panicked (thrown s (b :: r)) ∧ FR rb w w' := by
  have cN := next_more rb p s w h he
  have hT := thrown_at s p h.le
  rw [he] at hT
  rw [hT]
  obtain ⟨c0, c1, fz, hle, hsz⟩ := h
  have hlt : (b.toNat : Int) < 256 := by have := b.toNat_lt; omega
  have h00 : (0 : Int) ≤ (b.toNat : Int) := by omega
  clear he hT
  rcases hb with hb | hb
  · generalize (b.toNat : Int) = z at *
    go_enter Tryz.func30, Tryz.ntmps30
    go_wp2_with (first
      | (go_at_call 43; refine cN.mono ?_; rintro e w1 ⟨rfl, hx, hf⟩)
      | (go_at_call 44; refine (cannotBe_any _ _).mono ?_; rintro e w2 ⟨rfl, hb2⟩))
    exact ⟨rfl, rfl, hf.trans (FR.of hb2)⟩
  · by_cases hl : (b.toNat : Int) < lo
    · generalize (b.toNat : Int) = z at *
      go_enter Tryz.func30, Tryz.ntmps30
      go_wp2_with (first
        | (go_at_call 43; refine cN.mono ?_; rintro e w1 ⟨rfl, hx, hf⟩)
        | (go_at_call 44; refine (cannotBe_any _ _).mono ?_; rintro e w2 ⟨rfl, hb2⟩))
      exact ⟨rfl, rfl, hf.trans (FR.of hb2)⟩
    · have hg : (b.toNat : Int) > hi := hb
      generalize (b.toNat : Int) = z at *
      go_enter Tryz.func30, Tryz.ntmps30
      go_wp2_with (first
        | (go_at_call 43; refine cN.mono ?_; rintro e w1 ⟨rfl, hx, hf⟩)
        | (go_at_call 44; refine (cannotBe_any _ _).mono ?_; rintro e w2 ⟨rfl, hb2⟩))
      exact ⟨rfl, rfl, hf.trans (FR.of hb2)⟩
set_option maxRecDepth 100000 in
set_option maxHeartbeats 1000000 in
theorem within_ok (rb p : Nat) (s : ByteArray) (lo hi : Int) (w : World) (h : WRd w rb s p) {b : UInt8} {r : List UInt8} (he : rs s p = b :: r) (hl : lo ≤ (b.toNat : Int)) (hh : (b.toNat : Int) ≤ hi) :
    Calls Tryz.prog 30 #[.pointer (some ⟨rb, 0, none⟩), .int .i64 lo, .int .i64 hi] w fun e w' => e = .returned (.int .i64 (b.toNat : Int)) ∧ (WRd w' rb s (p + 1) ∧ rs s (p + 1) = r) ∧ FR rb w w' := by
  have cN := next_more rb p s w h he
  obtain ⟨c0, c1, fz, hle, hsz⟩ := h
  have h1 : ¬ (b.toNat : Int) < lo := by omega
  have h2 : ¬ (b.toNat : Int) > hi := by omega
  have hlt : (b.toNat : Int) < 256 := by have := b.toNat_lt; omega
  have h00 : (0 : Int) ≤ (b.toNat : Int) := by omega
  clear he hl hh
  generalize (b.toNat : Int) = z at *
  go_enter Tryz.func30, Tryz.ntmps30
  go_wp2_with (first
    | (go_at_call 43; refine cN.mono ?_; rintro e w1 ⟨rfl, hx, hf⟩))
  go_ret
  exact ⟨rfl, hx, hf⟩
end Go.Proofs.YtefdekfgmbgbbaaGreatDoor
