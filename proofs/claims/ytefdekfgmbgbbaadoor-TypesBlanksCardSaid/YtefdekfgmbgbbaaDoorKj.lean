/-
  The contracts of package pieces' Reader: Rest, Word, Pass, Fault, Skip and Need of one sign, Finish.
-/
import Derived.Test.YtefdekfgmbgbbaaDoorKi
import Derived.Test.YtefdekfgmbgbbaaDoorKc
import Derived.Test.YtefdekfgmbgbbaaDoorXd
import Derived.WalkLawsBesides
import Derived.BigQuiet
namespace Go.Proofs.YtefdekfgmbgbbaaDoor
open Go.RowKit Go.Shelf

/-- what is left of a text from a byte on -/
def rs (s : ByteArray) (p : Nat) : List UInt8 := s.data.toList.drop p
/-- a reader of text s, blanks between its pieces, at byte p -/
structure RS (W : World) (rb : Nat) (s : ByteArray) (p : Nat) : Prop where
  c0 : W.cell? ⟨rb, 0, none⟩ = some (.string s)
  c1 : W.cell? ⟨rb, 1, none⟩ = some (.string ⟨#[32]⟩)
  c2 : W.cell? ⟨rb, 2, none⟩ = some (.int .i64 (p : Int))
  fz : W.frozen? ⟨rb, 2, none⟩ = false
  le : p ≤ s.size
  sz : s.size ≤ 2000
theorem RS.lt {W : World} {rb : Nat} {s : ByteArray} {p : Nat} (h : RS W rb s p) : rb < W.heap.size := lt_of_cell h.c0
theorem RS.keep {W W' : World} {rb : Nat} {s : ByteArray} {p : Nat} (h : RS W rb s p) (hb : Below W.heap.size W W') : RS W' rb s p :=
  ⟨(hb.cell (p := ⟨rb, 0, none⟩) h.lt).trans h.c0, (hb.cell (p := ⟨rb, 1, none⟩) h.lt).trans h.c1, (hb.cell (p := ⟨rb, 2, none⟩) h.lt).trans h.c2, (hb.frozen (p := ⟨rb, 2, none⟩) h.lt).trans h.fz, h.le, h.sz⟩
theorem RS.al {W : World} {rb : Nat} {s : ByteArray} {p : Nat} (h : RS W rb s p) (o : Obj) : RS (W.alloc o) rb s p := h.keep ((Below.refl _ _).alloc (Nat.le_refl _) o)
theorem RS.set {W : World} {rb : Nat} {s : ByteArray} {p : Nat} (h : RS W rb s p) (q : Nat) (hq : q ≤ s.size) : RS (W.setCell ⟨rb, 2, none⟩ (.int .i64 (q : Int))) rb s q :=
  ⟨(World.cell?_setCell_other _ _ _ _ (by simp)).trans h.c0, (World.cell?_setCell_other _ _ _ _ (by simp)).trans h.c1, World.cell?_setCell_same _ _ _ h.c2, by rw [World.frozen?_setCell]; exact h.fz, hq, h.sz⟩
theorem FR.set2 {pb : Nat} {w : World} (o : Nat) (v : Value) : FR pb w (w.setCell ⟨pb, o, none⟩ v) :=
  ⟨rfl, rfl, rfl, by simp, fun k _ hn => Below.heap_setCell w _ v k (fun e => hn (by rw [e]))⟩
theorem FR.refl (pb : Nat) (w : World) : FR pb w w := World.grownBy.refl w _

theorem rs_len (s : ByteArray) (p : Nat) : (rs s p).length = s.size - p := by unfold rs; rw [List.length_drop]; simp
theorem ext_bs (t : ByteArray) (k : Nat) : t.extract 0 k = bs (t.data.toList.take k) := by
  apply ByteArray.ext
  apply Array.toList_inj.1
  simp [bs]
theorem ext_rs (s : ByteArray) (p : Nat) : s.extract p s.size = bs (rs s p) := by
  apply ByteArray.ext
  apply Array.toList_inj.1
  simp [bs, rs]
  exact List.take_of_length_le (by simp)
theorem rs_drop (s : ByteArray) (p n : Nat) : rs s (p + n) = (rs s p).drop n := by unfold rs; rw [List.drop_drop]
theorem bs_size (l : List UInt8) : (bs l).size = l.length := by unfold bs; show l.toArray.size = _; simp

set_option maxHeartbeats 400000 in
theorem rest_any (rb p : Nat) (s : ByteArray) (w : World) (h : RS w rb s p) :
    Calls Tryd.prog 38 #[.pointer (some ⟨rb, 0, none⟩)] w fun e w' => e = .returned (.string (bs (rs s p))) ∧ Below w.heap.size w w' := by
  obtain ⟨c0, c1, c2, fz, hle, hsz⟩ := h
  have hz : (p : Int) ≤ (s.size : Int) := by omega
  have h0 : (0 : Int) ≤ (p : Int) := by omega
  rw [← ext_rs]
  go_enter Tryd.func38, Tryd.ntmps38
  go_wp2_with fail
  go_quiet (fail)
  go_wp2
  go_ret
  exact ⟨rfl, ⟨rfl, rfl, rfl, Nat.le_refl _, fun _ _ => rfl⟩⟩
set_option maxHeartbeats 400000 in
theorem word_any (rb p : Nat) (s : ByteArray) (w : World) (h : RS w rb s p) :
    Calls Tryd.prog 58 #[.pointer (some ⟨rb, 0, none⟩)] w fun e w' => e = .returned (.string (bs (wd (rs s p)))) ∧ Below w.heap.size w w' := by
  have cR := rest_any rb p s w h
  have hsz : (bs (rs s p)).size ≤ 9223372036854775807 := by rw [bs_size, rs_len]; have := h.sz; omega
  have cL : ∀ w1 : World, Calls Tryd.prog 53 #[.string (bs (rs s p)), .string lows] w1 fun e w' => e = .returned (.string (bs (wd (rs s p)))) ∧ Below w1.heap.size w1 w' := fun w1 => by
    have := leading_any (bs (rs s p)) lows w1 hsz (by decide) (by decide)
    rw [lead_congr _ isLow lows_has, ext_bs, bs_list] at this
    exact this
  simp only [lows] at cL
  generalize bs (rs s p) = t at *
  generalize bs (wd (rs s p)) = u at *
  clear h hsz
  go_enter Tryd.func58, Tryd.ntmps58
  go_wp2_with (first | (go_at_call 38; refine cR.mono ?_; rintro e w1 ⟨rfl, hb1⟩) | (go_at_call 53; refine (cL _).mono ?_; rintro e w2 ⟨rfl, hb2⟩))
  go_ret
  exact ⟨rfl, hb1.trans (hb2.mono hb1.size)⟩
theorem bl_has (c : UInt8) : (⟨#[32]⟩ : ByteArray).data.toList.contains c = bl c := by
  show [32].contains c = _
  unfold bl
  simp
/-- so many blanks stand at a byte -/
def blk (s : ByteArray) (p : Nat) : Nat := lead bl (rs s p)
theorem blk_le (s : ByteArray) (p : Nat) (h : p ≤ s.size) : p + blk s p ≤ s.size := by
  have := lead_le bl (rs s p)
  rw [rs_len] at this
  unfold blk
  omega
set_option maxHeartbeats 400000 in
theorem blanks_any (rb p : Nat) (s : ByteArray) (w : World) (h : RS w rb s p) :
    Calls Tryd.prog 53 #[.string (bs (rs s p)), .string ⟨#[32]⟩] w fun e w' => (∃ t : ByteArray, t.size = blk s p ∧ e = .returned (.string t)) ∧ Below w.heap.size w w' := by
  have hsz : (bs (rs s p)).size ≤ 9223372036854775807 := by rw [bs_size, rs_len]; have := h.sz; omega
  have := leading_any (bs (rs s p)) ⟨#[32]⟩ w hsz (by decide) (by decide)
  rw [lead_congr _ bl bl_has, ext_bs, bs_list] at this
  refine this.mono fun e w' ⟨h1, h2⟩ => ⟨⟨_, ?_, h1⟩, h2⟩
  rw [bs_size, List.length_take]
  have := lead_le bl (rs s p)
  unfold blk
  omega
set_option maxHeartbeats 1000000 in
theorem pass_any (rb p n : Nat) (s : ByteArray) (w : World) (h : RS w rb s p) (hn : p + n ≤ s.size) :
    Calls Tryd.prog 33 #[.pointer (some ⟨rb, 0, none⟩), .int .i64 (n : Int)] w fun e w' => e = .returned (.tuple #[]) ∧ (∃ p', RS w' rb s p' ∧ rs s p' = skB ((rs s p).drop n)) ∧ FR rb w w' := by
  have R1 := h.set (p + n) hn
  have F1 : FR rb w (w.setCell ⟨rb, 2, none⟩ (.int .i64 ((p + n : Nat) : Int))) := FR.set2 2 _
  obtain ⟨c0, c1, c2, fz, hle, hsz⟩ := h
  rw [show (((p + n : Nat)) : Int) = (p : Int) + (n : Int) by omega] at R1 F1
  have hs2 : skB ((rs s p).drop n) = rs s (p + n + blk s (p + n)) := by
    unfold blk; rw [rs_drop s (p + n), rs_drop s p n]; rfl
  have hq := blk_le s (p + n) hn
  rw [hs2]
  have hz : (p : Int) + (n : Int) ≤ 2000 := by omega
  have h0 : (0 : Int) ≤ (p : Int) + (n : Int) := by omega
  clear hs2
  go_enter Tryd.func33, Tryd.ntmps33
  go_wp2_with fail
  generalize w.setCell ⟨rb, 2, none⟩ (.int .i64 ((p : Int) + (n : Int))) = W1 at *
  clear c0 c1 c2 fz
  have Rd := R1.keep (Below.refl W1.heap.size W1).drew
  have cR := rest_any rb (p + n) s W1.drew Rd
  have cB := hideK (blanks_any rb (p + n) s)
  have HF := hideK F1
  have HR := hideK Rd
  clear F1 Rd
  obtain ⟨c0, c1, c2, fz, _, _⟩ := R1
  have hp2 : (((p + n : Nat)) : Int) = (p : Int) + (n : Int) := by omega
  rw [hp2] at c2
  generalize bs (rs s (p + n)) = t at *
  have hb0 : (0 : Int) ≤ (blk s (p + n) : Int) := by omega
  have hqz : (p : Int) + (n : Int) + (blk s (p + n) : Int) ≤ 2000 := by omega
  have hwr : IntKind.i64.wrap ((p : Int) + (n : Int) + (blk s (p + n) : Int)) = ((p + n + blk s (p + n) : Nat) : Int) := by
    unfold IntKind.wrap; simp [IntKind.bits, IntKind.signed]; omega
  have HW := hideK hwr
  have HQ := hideK hq
  clear hwr hq hb0 hqz hn hle hsz
  go_region_with (first
    | (go_at_call 38; refine cR.mono ?_; rintro e w1 ⟨rfl, hb1⟩; have R2 := hideK (HR.out.keep hb1); have d1 := R2.out.c1; have d2 := R2.out.c2; rw [hp2] at d2)
    | (go_at_call 53; refine (cB.out _ R2.out).mono ?_; rintro e w2 ⟨⟨u, hu, rfl⟩, hb2⟩; have R3 := hideK (R2.out.keep hb2); have e1 := R3.out.c1; have e2 := R3.out.c2; have e3 := R3.out.fz; rw [hp2] at e2))
  all_goals
    rw [HW.out]
    go_end0
    exact ⟨rfl, ⟨_, R3.out.set _ HQ.out, rfl⟩, ((HF.out.trans (FR.of (Below.refl _ _).drew)).trans ((FR.of hb1).trans (FR.of hb2))).trans (FR.set2 2 _)⟩
end Go.Proofs.YtefdekfgmbgbbaaDoor
