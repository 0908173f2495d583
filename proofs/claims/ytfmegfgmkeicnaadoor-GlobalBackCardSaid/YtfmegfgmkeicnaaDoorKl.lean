/-
  The contracts of package pieces' Reader: Rest, Word, Pass, Fault, Skip and Need of one sign, Finish.
-/
import Derived.Test.YtfmegfgmkeicnaaDoorKi
import Derived.Test.YtfmegfgmkeicnaaDoorKc
import Derived.Test.YtfmegfgmkeicnaaDoorXd
import Derived.WalkLawsBesides
import Derived.BigQuiet
namespace Go.Proofs.YtfmegfgmkeicnaaDoor
open Go.RowKit Go.Shelf

/-- what is left of a text from a byte on -/
def rs (s : ByteArray) (p : Nat) : List UInt8 := s.data.toList.drop p
/-- a reader of text s, blanks between its pieces, at byte p -/
structure RS (W : World) (rb : Nat) (s : ByteArray) (p : Nat) : Prop where
  c0 : W.cell? ⟨rb, 0, none⟩ = some (.string s)
  c1 : W.cell? ⟨rb, 1, none⟩ = some (.string ⟨#[32]⟩)
  c2 : W.cell? ⟨rb, 2, none⟩ = some (.int .i64 (p : Int))
  fz : W.frozen? ⟨rb, 2, none⟩ = false
  le : p ≤ s.size
  sz : s.size ≤ 2000
theorem RS.lt {W : World} {rb : Nat} {s : ByteArray} {p : Nat} (h : RS W rb s p) : rb < W.heap.size := lt_of_cell h.c0
theorem RS.keep {W W' : World} {rb : Nat} {s : ByteArray} {p : Nat} (h : RS W rb s p) (hb : Below W.heap.size W W') : RS W' rb s p :=
  ⟨(hb.cell (p := ⟨rb, 0, none⟩) h.lt).trans h.c0, (hb.cell (p := ⟨rb, 1, none⟩) h.lt).trans h.c1, (hb.cell (p := ⟨rb, 2, none⟩) h.lt).trans h.c2, (hb.frozen (p := ⟨rb, 2, none⟩) h.lt).trans h.fz, h.le, h.sz⟩
theorem RS.al {W : World} {rb : Nat} {s : ByteArray} {p : Nat} (h : RS W rb s p) (o : Obj) : RS (W.alloc o) rb s p := h.keep ((Below.refl _ _).alloc (Nat.le_refl _) o)
theorem RS.set {W : World} {rb : Nat} {s : ByteArray} {p : Nat} (h : RS W rb s p) (q : Nat) (hq : q ≤ s.size) : RS (W.setCell ⟨rb, 2, none⟩ (.int .i64 (q : Int))) rb s q :=
  ⟨(World.cell?_setCell_other _ _ _ _ (by simp)).trans h.c0, (World.cell?_setCell_other _ _ _ _ (by simp)).trans h.c1, World.cell?_setCell_same _ _ _ h.c2, by rw [World.frozen?_setCell]; exact h.fz, hq, h.sz⟩
theorem FR.set2 {pb : Nat} {w : World} (o : Nat) (v : Value) : FR pb w (w.setCell ⟨pb, o, none⟩ v) :=
  ⟨rfl, rfl, rfl, by simp, fun k _ hn => Below.heap_setCell w _ v k (fun e => hn (by rw [e]))⟩
theorem FR.refl (pb : Nat) (w : World) : FR pb w w := World.grownBy.refl w _

theorem rs_len (s : ByteArray) (p : Nat) : (rs s p).length = s.size - p := by unfold rs; rw [List.length_drop]; simp
theorem ext_bs (t : ByteArray) (k : Nat) : t.extract 0 k = bs (t.data.toList.take k) := by
  apply ByteArray.ext
  apply Array.toList_inj.1
  simp [bs]
theorem ext_rs (s : ByteArray) (p : Nat) : s.extract p s.size = bs (rs s p) := by
  apply ByteArray.ext
  apply Array.toList_inj.1
  simp [bs, rs]
  exact List.take_of_length_le (by simp)
theorem rs_drop (s : ByteArray) (p n : Nat) : rs s (p + n) = (rs s p).drop n := by unfold rs; rw [List.drop_drop]
theorem bs_size (l : List UInt8) : (bs l).size = l.length := by unfold bs; show l.toArray.size = _; simp

set_option maxHeartbeats 400000 in
theorem rest_any (rb p : Nat) (s : ByteArray) (w : World) (h : RS w rb s p) :
    Calls Tryd.prog 65 #[.pointer (some ⟨rb, 0, none⟩)] w fun e w' => e = .returned (.string (bs (rs s p))) ∧ Below w.heap.size w w' := by
  obtain ⟨c0, c1, c2, fz, hle, hsz⟩ := h
  have hz : (p : Int) ≤ (s.size : Int) := by omega
  have h0 : (0 : Int) ≤ (p : Int) := by omega
  rw [← ext_rs]
  go_enter Tryd.func65, Tryd.ntmps65
  go_wp2_with fail
  go_quiet (fail)
  go_wp2
  go_ret
  exact ⟨rfl, ⟨rfl, rfl, rfl, Nat.le_refl _, fun _ _ => rfl⟩⟩
set_option maxHeartbeats 400000 in
theorem word_any (rb p : Nat) (s : ByteArray) (w : World) (h : RS w rb s p) :
    Calls Tryd.prog 58 #[.pointer (some ⟨rb, 0, none⟩)] w fun e w' => e = .returned (.string (bs (wd (rs s p)))) ∧ Below w.heap.size w w' := by
  have cR := rest_any rb p s w h
  have hsz : (bs (rs s p)).size ≤ 9223372036854775807 := by rw [bs_size, rs_len]; have := h.sz; omega
  have cL : ∀ w1 : World, Calls Tryd.prog 94 #[.string (bs (rs s p)), .string lows] w1 fun e w' => e = .returned (.string (bs (wd (rs s p)))) ∧ Below w1.heap.size w1 w' := fun w1 => by
    have := leading_any (bs (rs s p)) lows w1 hsz (by decide) (by decide)
    rw [lead_congr _ isLow lows_has, ext_bs, bs_list] at this
    exact this
  simp only [lows] at cL
  generalize bs (rs s p) = t at *
  generalize bs (wd (rs s p)) = u at *
  clear h hsz
  go_enter Tryd.func58, Tryd.ntmps58
  go_wp2_with (first | (go_at_call 65; refine cR.mono ?_; rintro e w1 ⟨rfl, hb1⟩) | (go_at_call 94; refine (cL _).mono ?_; rintro e w2 ⟨rfl, hb2⟩))
  go_ret
  exact ⟨rfl, hb1.trans (hb2.mono hb1.size)⟩
theorem bl_has (c : UInt8) : (⟨#[32]⟩ : ByteArray).data.toList.contains c = bl c := by
  show [32].contains c = _
  unfold bl
  simp
/-- so many blanks stand at a byte -/
def blk (s : ByteArray) (p : Nat) : Nat := lead bl (rs s p)
theorem blk_le (s : ByteArray) (p : Nat) (h : p ≤ s.size) : p + blk s p ≤ s.size := by
  have := lead_le bl (rs s p)
  rw [rs_len] at this
  unfold blk
  omega
set_option maxHeartbeats 400000 in
theorem blanks_any (rb p : Nat) (s : ByteArray) (w : World) (h : RS w rb s p) :
    Calls Tryd.prog 94 #[.string (bs (rs s p)), .string ⟨#[32]⟩] w fun e w' => (∃ t : ByteArray, t.size = blk s p ∧ e = .returned (.string t)) ∧ Below w.heap.size w w' := by
  have hsz : (bs (rs s p)).size ≤ 9223372036854775807 := by rw [bs_size, rs_len]; have := h.sz; omega
  have := leading_any (bs (rs s p)) ⟨#[32]⟩ w hsz (by decide) (by decide)
  rw [lead_congr _ bl bl_has, ext_bs, bs_list] at this
  refine this.mono fun e w' ⟨h1, h2⟩ => ⟨⟨_, ?_, h1⟩, h2⟩
  rw [bs_size, List.length_take]
  have := lead_le bl (rs s p)
  unfold blk
  omega
set_option maxHeartbeats 1000000 in
theorem pass_any (rb p n : Nat) (s : ByteArray) (w : World) (h : RS w rb s p) (hn : p + n ≤ s.size) :
    Calls Tryd.prog 57 #[.pointer (some ⟨rb, 0, none⟩), .int .i64 (n : Int)] w fun e w' => e = .returned (.tuple #[]) ∧ (∃ p', RS w' rb s p' ∧ rs s p' = skB ((rs s p).drop n)) ∧ FR rb w w' := by
  have R1 := h.set (p + n) hn
  have F1 : FR rb w (w.setCell ⟨rb, 2, none⟩ (.int .i64 ((p + n : Nat) : Int))) := FR.set2 2 _
  obtain ⟨c0, c1, c2, fz, hle, hsz⟩ := h
  rw [show (((p + n : Nat)) : Int) = (p : Int) + (n : Int) by omega] at R1 F1
  have hs2 : skB ((rs s p).drop n) = rs s (p + n + blk s (p + n)) := by
    unfold blk; rw [rs_drop s (p + n), rs_drop s p n]; rfl
  have hq := blk_le s (p + n) hn
  rw [hs2]
  have hz : (p : Int) + (n : Int) ≤ 2000 := by omega
  have h0 : (0 : Int) ≤ (p : Int) + (n : Int) := by omega
  clear hs2
  go_enter Tryd.func57, Tryd.ntmps57
  go_wp2_with fail
  generalize w.setCell ⟨rb, 2, none⟩ (.int .i64 ((p : Int) + (n : Int))) = W1 at *
  clear c0 c1 c2 fz
  have Rd := R1.keep (Below.refl W1.heap.size W1).drew
  have cR := rest_any rb (p + n) s W1.drew Rd
  have cB := hideK (blanks_any rb (p + n) s)
  have HF := hideK F1
  have HR := hideK Rd
  clear F1 Rd
  obtain ⟨c0, c1, c2, fz, _, _⟩ := R1
  have hp2 : (((p + n : Nat)) : Int) = (p : Int) + (n : Int) := by omega
  rw [hp2] at c2
  generalize bs (rs s (p + n)) = t at *
  have hb0 : (0 : Int) ≤ (blk s (p + n) : Int) := by omega
  have hqz : (p : Int) + (n : Int) + (blk s (p + n) : Int) ≤ 2000 := by omega
  have hwr : IntKind.i64.wrap ((p : Int) + (n : Int) + (blk s (p + n) : Int)) = ((p + n + blk s (p + n) : Nat) : Int) := by
    unfold IntKind.wrap; simp [IntKind.bits, IntKind.signed]; omega
  have HW := hideK hwr
  have HQ := hideK hq
  clear hwr hq hb0 hqz hn hle hsz
  go_region_with (first
    | (go_at_call 65; refine cR.mono ?_; rintro e w1 ⟨rfl, hb1⟩; have R2 := hideK (HR.out.keep hb1); have d1 := R2.out.c1; have d2 := R2.out.c2; rw [hp2] at d2)
    | (go_at_call 94; refine (cB.out _ R2.out).mono ?_; rintro e w2 ⟨⟨u, hu, rfl⟩, hb2⟩; have R3 := hideK (R2.out.keep hb2); have e1 := R3.out.c1; have e2 := R3.out.c2; have e3 := R3.out.fz; rw [hp2] at e2))
  all_goals
    rw [HW.out]
    go_end0
    exact ⟨rfl, ⟨_, R3.out.set _ HQ.out, rfl⟩, ((HF.out.trans (FR.of (Below.refl _ _).drew)).trans ((FR.of hb1).trans (FR.of hb2))).trans (FR.set2 2 _)⟩
end Go.Proofs.YtfmegfgmkeicnaaDoor
/-
  The contracts of package pieces' Reader: Fault, Skip and Need of one sign, Finish.
-/
namespace Go.Proofs.YtfmegfgmkeicnaaDoor
open Go.RowKit Go.Shelf

/-- what is thrown where a text can't go on -/
def thrown (s : ByteArray) (r : List UInt8) : List PanicEntry := [{ v := .iface 30 (.agg #[.int .i64 3, .int .i64 ((s.size - r.length : Nat) : Int)]), recovered := false }]
theorem thrown_at (s : ByteArray) (p : Nat) (h : p ≤ s.size) : thrown s (rs s p) = [{ v := .iface 30 (.agg #[.int .i64 3, .int .i64 (p : Int)]), recovered := false }] := by
  unfold thrown
  rw [rs_len, show s.size - (s.size - p) = p by omega]
theorem RS.frb {W W' : World} {rb : Nat} (h : Below W.heap.size W W') : FR rb W W' := FR.of h
set_option maxHeartbeats 400000 in
theorem fault_any (rb p : Nat) (s : ByteArray) (k : Int) (w : World) (h : RS w rb s p) :
    Calls Tryd.prog 66 #[.pointer (some ⟨rb, 0, none⟩), .int .i64 k] w fun e w' => e = .returned (.agg #[.int .i64 k, .int .i64 (p : Int)]) ∧ Below w.heap.size w w' := by
  have c2 := (h.al (.cells #[.int .i64 0, .int .i64 0] 30)).c2
  have hl := h.lt
  clear h
  go_enter Tryd.func66, Tryd.ntmps66
  go_wp2_with fail
  have r0 : (w.alloc (.cells #[.int .i64 k, .int .i64 (p : Int)] 30)).cell? ⟨w.heap.size, 0, none⟩ = some (.int .i64 k) := by go_cell
  have r1 : (w.alloc (.cells #[.int .i64 k, .int .i64 (p : Int)] 30)).cell? ⟨w.heap.size, 1, none⟩ = some (.int .i64 (p : Int)) := by go_cell
  refine bodyPost_ret (by simp [results, Tryd.results66, go_sem, r0, r1]; rfl) rfl ?_
  exact ⟨rfl, (Below.refl _ _).alloc (Nat.le_refl _) _⟩
set_option maxHeartbeats 400000 in
theorem hasPrefix1 (l : List UInt8) (c : UInt8) (w : World) (hl : l.length ≤ 2000) :
    Calls Tryd.prog 45 #[.string (bs l), .string ⟨#[c]⟩] w fun e w' => e = .returned (.bool (decide (l.head? = some c))) ∧ w' = w := by
  cases l with
  | nil =>
    have hz : ¬ ((bs ([] : List UInt8)).size : Int) ≥ 1 := by decide
    go_enter Tryd.func45, Tryd.ntmps45
    go_wp2
    go_ret
    exact ⟨rfl, rfl⟩
  | cons d l =>
    have hz : (1 : Int) ≤ ((bs (d :: l)).size : Int) := by rw [bs_size]; simp; omega
    have hx : (bs (d :: l)).extract 0 1 = ⟨#[d]⟩ := by rw [ext_bs, bs_list]; rfl
    have HQ : Hid ((d == c) = decide ((d :: l).head? = some c)) := by
      show _ = _
      rw [Bool.eq_iff_iff]
      simp
    generalize decide ((d :: l).head? = some c) = q at *
    generalize bs (d :: l) = t at *
    clear hl
    go_enter Tryd.func45, Tryd.ntmps45
    go_wp2
    go_ret
    exact ⟨by rw [← HQ.out]; rfl, rfl⟩
set_option maxHeartbeats 400000 in
theorem skip_any (rb p : Nat) (s : ByteArray) (c : UInt8) (w : World) (h : RS w rb s p) :
    Calls Tryd.prog 63 #[.pointer (some ⟨rb, 0, none⟩), .string ⟨#[c]⟩] w fun e w' => e = .returned (.bool (decide ((rs s p).head? = some c))) ∧ (∃ p', RS w' rb s p' ∧ rs s p' = (if (rs s p).head? = some c then skB ((rs s p).drop 1) else rs s p)) ∧ FR rb w w' := by
  have cR := rest_any rb p s w h
  have cH := fun w1 => hasPrefix1 (rs s p) c w1 (by rw [rs_len]; have := h.sz; omega)
  by_cases hh : (rs s p).head? = some c
  · rw [if_pos hh]
    have hd : decide ((rs s p).head? = some c) = true := decide_eq_true hh
    rw [hd] at cH ⊢
    have hp1 : p + 1 ≤ s.size := by have := head_pos _ _ hh; rw [rs_len] at this; omega
    have cP := hideK (fun (w1 : World) (h1 : RS w1 rb s p) => pass_any rb p 1 s w1 h1 hp1)
    have HR := hideK h
    clear hd hh h
    generalize bs (rs s p) = t at *
    go_enter Tryd.func63, Tryd.ntmps63
    go_wp2_with (first
      | (go_at_call 65; refine cR.mono ?_; rintro e w1 ⟨rfl, hb1⟩)
      | (go_at_call 45; refine (cH _).mono ?_; rintro e w2 ⟨rfl, rfl⟩)
      | (go_at_call 57; refine (cP.out _ (HR.out.keep hb1)).mono ?_; rintro e w3 ⟨rfl, hx, hf⟩))
    go_ret
    exact ⟨rfl, hx, (FR.of hb1).trans hf⟩
  · rw [if_neg hh]
    have hd : decide ((rs s p).head? = some c) = false := decide_eq_false hh
    rw [hd] at cH ⊢
    have HR := hideK h
    clear hd hh h
    generalize bs (rs s p) = t at *
    go_enter Tryd.func63, Tryd.ntmps63
    go_wp2_with (first
      | (go_at_call 65; refine cR.mono ?_; rintro e w1 ⟨rfl, hb1⟩)
      | (go_at_call 45; refine (cH _).mono ?_; rintro e w2 ⟨rfl, rfl⟩))
    go_ret
    exact ⟨rfl, ⟨p, HR.out.keep hb1, rfl⟩, FR.of hb1⟩
/-- what Need leaves -/
def NPost (s : ByteArray) (rb : Nat) (x : Except (List UInt8) (List UInt8)) (e : Ending) (w' : World) : Prop :=
  match x with
  | .error r => e = .panicked (thrown s r)
  | .ok r => e = .returned (.tuple #[]) ∧ ∃ p', RS w' rb s p' ∧ rs s p' = r
set_option maxHeartbeats 400000 in
theorem need_any (rb p : Nat) (s : ByteArray) (c : UInt8) (w : World) (h : RS w rb s p) :
    Calls Tryd.prog 61 #[.pointer (some ⟨rb, 0, none⟩), .string ⟨#[c]⟩] w fun e w' => NPost s rb (need c (rs s p)) e w' ∧ FR rb w w' := by
  have cS := skip_any rb p s c w h
  unfold need
  by_cases hh : (rs s p).head? = some c
  · rw [if_pos hh]
    rw [decide_eq_true hh, if_pos hh] at cS
    clear hh h
    simp only [NPost]
    go_enter Tryd.func61, Tryd.ntmps61
    go_wp2_with (go_at_call 63; refine cS.mono ?_; rintro e w1 ⟨rfl, hx, hf⟩)
    go_end0
    exact ⟨⟨rfl, hx⟩, hf⟩
  · rw [if_neg hh]
    rw [decide_eq_false hh, if_neg hh] at cS
    have cF := hideK (fun (q : Nat) (w1 : World) (h1 : RS w1 rb s q) => fault_any rb q s 3 w1 h1)
    have hle := h.le
    have HT := hideK (thrown_at s p h.le)
    have HP := hideK (fun q (hq : q ≤ s.size) (e : rs s q = rs s p) => show q = p by have := congrArg List.length e; rw [rs_len, rs_len] at this; omega)
    clear hh h
    simp only [NPost]
    rw [HT.out]
    go_enter Tryd.func61, Tryd.ntmps61
    go_wp2_with (go_at_call 63; refine cS.mono ?_; rintro e w1 ⟨rfl, ⟨q, hx, hq⟩, hf⟩; obtain rfl := HP.out q hx.le hq)
    refine (cF.out _ _ hx).mono ?_
    rintro e w2 ⟨rfl, hb2⟩
    go_wp2
    exact ⟨rfl, rfl, hf.trans (FR.of hb2)⟩
set_option maxHeartbeats 400000 in
theorem finish_any (rb p : Nat) (s : ByteArray) (w : World) (h : RS w rb s p) :
    Calls Tryd.prog 28 #[.pointer (some ⟨rb, 0, none⟩)] w fun e w' => e = (if rs s p = [] then .returned (.tuple #[]) else .panicked (thrown s (rs s p))) ∧ Below w.heap.size w w' := by
  have cR := rest_any rb p s w h
  by_cases hh : rs s p = []
  · rw [if_pos hh]
    rw [hh] at cR
    have e0 : bs [] = ⟨#[]⟩ := rfl
    rw [e0] at cR
    clear hh h e0
    go_enter Tryd.func28, Tryd.ntmps28
    go_wp2_with (go_at_call 65; refine cR.mono ?_; rintro e w1 ⟨rfl, hb1⟩)
    go_end0
    exact ⟨rfl, hb1⟩
  · rw [if_neg hh, thrown_at s p h.le]
    have cF := hideK (fun (w1 : World) (h1 : RS w1 rb s p) => fault_any rb p s 3 w1 h1)
    have hne : (bs (rs s p)).toList.isEmpty = false := by
      rw [ByteArray.toList_eq, bs_list]
      simpa using hh
    have HR := hideK h
    clear hh h
    generalize bs (rs s p) = t at *
    go_enter Tryd.func28, Tryd.ntmps28
    go_wp2_with (go_at_call 65; refine cR.mono ?_; rintro e w1 ⟨rfl, hb1⟩)
    refine (cF.out _ (HR.out.keep hb1)).mono ?_
    rintro e w2 ⟨rfl, hb2⟩
    go_wp2
    exact ⟨rfl, rfl, hb1.trans (hb2.mono hb1.size)⟩
end Go.Proofs.YtfmegfgmkeicnaaDoor
