/-
  The contracts of package pieces' Reader: Fault, Skip and Need of one sign, Finish.
-/
import Derived.Test.YtefdekfgmbgbbaaDoorKj
namespace Go.Proofs.YtefdekfgmbgbbaaDoor
open Go.RowKit Go.Shelf

/-- what is thrown where a text can't go on -/
def thrown (s : ByteArray) (r : List UInt8) : List PanicEntry := [{ v := .iface 30 (.agg #[.int .i64 3, .int .i64 ((s.size - r.length : Nat) : Int)]), recovered := false }]
theorem thrown_at (s : ByteArray) (p : Nat) (h : p ≤ s.size) : thrown s (rs s p) = [{ v := .iface 30 (.agg #[.int .i64 3, .int .i64 (p : Int)]), recovered := false }] := by
  unfold thrown
  rw [rs_len, show s.size - (s.size - p) = p by omega]
theorem RS.frb {W W' : World} {rb : Nat} (h : Below W.heap.size W W') : FR rb W W' := FR.of h
set_option maxHeartbeats 400000 in
theorem fault_any (rb p : Nat) (s : ByteArray) (k : Int) (w : World) (h : RS w rb s p) :
    Calls Tryd.prog 39 #[.pointer (some ⟨rb, 0, none⟩), .int .i64 k] w fun e w' => e = .returned (.agg #[.int .i64 k, .int .i64 (p : Int)]) ∧ Below w.heap.size w w' := by
  have c2 := (h.al (.cells #[.int .i64 0, .int .i64 0] 30)).c2
  have hl := h.lt
  clear h
  go_enter Tryd.func39, Tryd.ntmps39
  go_wp2_with fail
  have r0 : (w.alloc (.cells #[.int .i64 k, .int .i64 (p : Int)] 30)).cell? ⟨w.heap.size, 0, none⟩ = some (.int .i64 k) := by go_cell
  have r1 : (w.alloc (.cells #[.int .i64 k, .int .i64 (p : Int)] 30)).cell? ⟨w.heap.size, 1, none⟩ = some (.int .i64 (p : Int)) := by go_cell
  refine bodyPost_ret (by simp [results, Tryd.results39, go_sem, r0, r1]; rfl) rfl ?_
  exact ⟨rfl, (Below.refl _ _).alloc (Nat.le_refl _) _⟩
set_option maxHeartbeats 400000 in
theorem hasPrefix1 (l : List UInt8) (c : UInt8) (w : World) (hl : l.length ≤ 2000) :
    Calls Tryd.prog 22 #[.string (bs l), .string ⟨#[c]⟩] w fun e w' => e = .returned (.bool (decide (l.head? = some c))) ∧ w' = w := by
  cases l with
  | nil =>
    have hz : ¬ ((bs ([] : List UInt8)).size : Int) ≥ 1 := by decide
    go_enter Tryd.func22, Tryd.ntmps22
    go_wp2
    go_ret
    exact ⟨rfl, rfl⟩
  | cons d l =>
    have hz : (1 : Int) ≤ ((bs (d :: l)).size : Int) := by rw [bs_size]; simp; omega
    have hx : (bs (d :: l)).extract 0 1 = ⟨#[d]⟩ := by rw [ext_bs, bs_list]; rfl
    have HQ : Hid ((d == c) = decide ((d :: l).head? = some c)) := by
      show _ = _
      rw [Bool.eq_iff_iff]
      simp
    generalize decide ((d :: l).head? = some c) = q at *
    generalize bs (d :: l) = t at *
    clear hl
    go_enter Tryd.func22, Tryd.ntmps22
    go_wp2
    go_ret
    exact ⟨by rw [← HQ.out]; rfl, rfl⟩
set_option maxHeartbeats 400000 in
theorem skip_any (rb p : Nat) (s : ByteArray) (c : UInt8) (w : World) (h : RS w rb s p) :
    Calls Tryd.prog 34 #[.pointer (some ⟨rb, 0, none⟩), .string ⟨#[c]⟩] w fun e w' => e = .returned (.bool (decide ((rs s p).head? = some c))) ∧ (∃ p', RS w' rb s p' ∧ rs s p' = (if (rs s p).head? = some c then skB ((rs s p).drop 1) else rs s p)) ∧ FR rb w w' := by
  have cR := rest_any rb p s w h
  have cH := fun w1 => hasPrefix1 (rs s p) c w1 (by rw [rs_len]; have := h.sz; omega)
  by_cases hh : (rs s p).head? = some c
  · rw [if_pos hh]
    have hd : decide ((rs s p).head? = some c) = true := decide_eq_true hh
    rw [hd] at cH ⊢
    have hp1 : p + 1 ≤ s.size := by have := head_pos _ _ hh; rw [rs_len] at this; omega
    have cP := hideK (fun (w1 : World) (h1 : RS w1 rb s p) => pass_any rb p 1 s w1 h1 hp1)
    have HR := hideK h
    clear hd hh h
    generalize bs (rs s p) = t at *
    go_enter Tryd.func34, Tryd.ntmps34
    go_wp2_with (first
      | (go_at_call 38; refine cR.mono ?_; rintro e w1 ⟨rfl, hb1⟩)
      | (go_at_call 22; refine (cH _).mono ?_; rintro e w2 ⟨rfl, rfl⟩)
      | (go_at_call 33; refine (cP.out _ (HR.out.keep hb1)).mono ?_; rintro e w3 ⟨rfl, hx, hf⟩))
    go_ret
    exact ⟨rfl, hx, (FR.of hb1).trans hf⟩
  · rw [if_neg hh]
    have hd : decide ((rs s p).head? = some c) = false := decide_eq_false hh
    rw [hd] at cH ⊢
    have HR := hideK h
    clear hd hh h
    generalize bs (rs s p) = t at *
    go_enter Tryd.func34, Tryd.ntmps34
    go_wp2_with (first
      | (go_at_call 38; refine cR.mono ?_; rintro e w1 ⟨rfl, hb1⟩)
      | (go_at_call 22; refine (cH _).mono ?_; rintro e w2 ⟨rfl, rfl⟩))
    go_ret
    exact ⟨rfl, ⟨p, HR.out.keep hb1, rfl⟩, FR.of hb1⟩
/-- what Need leaves -/
def NPost (s : ByteArray) (rb : Nat) (x : Except (List UInt8) (List UInt8)) (e : Ending) (w' : World) : Prop :=
  match x with
  | .error r => e = .panicked (thrown s r)
  | .ok r => e = .returned (.tuple #[]) ∧ ∃ p', RS w' rb s p' ∧ rs s p' = r
set_option maxHeartbeats 400000 in
theorem need_any (rb p : Nat) (s : ByteArray) (c : UInt8) (w : World) (h : RS w rb s p) :
    Calls Tryd.prog 54 #[.pointer (some ⟨rb, 0, none⟩), .string ⟨#[c]⟩] w fun e w' => NPost s rb (need c (rs s p)) e w' ∧ FR rb w w' := by
  have cS := skip_any rb p s c w h
  unfold need
  by_cases hh : (rs s p).head? = some c
  · rw [if_pos hh]
    rw [decide_eq_true hh, if_pos hh] at cS
    clear hh h
    simp only [NPost]
    go_enter Tryd.func54, Tryd.ntmps54
    go_wp2_with (go_at_call 34; refine cS.mono ?_; rintro e w1 ⟨rfl, hx, hf⟩)
    go_end0
    exact ⟨⟨rfl, hx⟩, hf⟩
  · rw [if_neg hh]
    rw [decide_eq_false hh, if_neg hh] at cS
    have cF := hideK (fun (q : Nat) (w1 : World) (h1 : RS w1 rb s q) => fault_any rb q s 3 w1 h1)
    have hle := h.le
    have HT := hideK (thrown_at s p h.le)
    have HP := hideK (fun q (hq : q ≤ s.size) (e : rs s q = rs s p) => show q = p by have := congrArg List.length e; rw [rs_len, rs_len] at this; omega)
    clear hh h
    simp only [NPost]
    rw [HT.out]
    go_enter Tryd.func54, Tryd.ntmps54
    go_wp2_with (go_at_call 34; refine cS.mono ?_; rintro e w1 ⟨rfl, ⟨q, hx, hq⟩, hf⟩; obtain rfl := HP.out q hx.le hq)
    refine (cF.out _ _ hx).mono ?_
    rintro e w2 ⟨rfl, hb2⟩
    go_wp2
    exact ⟨rfl, rfl, hf.trans (FR.of hb2)⟩
set_option maxHeartbeats 400000 in
theorem finish_any (rb p : Nat) (s : ByteArray) (w : World) (h : RS w rb s p) :
    Calls Tryd.prog 18 #[.pointer (some ⟨rb, 0, none⟩)] w fun e w' => e = (if rs s p = [] then .returned (.tuple #[]) else .panicked (thrown s (rs s p))) ∧ Below w.heap.size w w' := by
  have cR := rest_any rb p s w h
  by_cases hh : rs s p = []
  · rw [if_pos hh]
    rw [hh] at cR
    have e0 : bs [] = ⟨#[]⟩ := rfl
    rw [e0] at cR
    clear hh h e0
    go_enter Tryd.func18, Tryd.ntmps18
    go_wp2_with (go_at_call 38; refine cR.mono ?_; rintro e w1 ⟨rfl, hb1⟩)
    go_end0
    exact ⟨rfl, hb1⟩
  · rw [if_neg hh, thrown_at s p h.le]
    have cF := hideK (fun (w1 : World) (h1 : RS w1 rb s p) => fault_any rb p s 3 w1 h1)
    have hne : (bs (rs s p)).toList.isEmpty = false := by
      rw [ByteArray.toList_eq, bs_list]
      simpa using hh
    have HR := hideK h
    clear hh h
    generalize bs (rs s p) = t at *
    go_enter Tryd.func18, Tryd.ntmps18
    go_wp2_with (go_at_call 38; refine cR.mono ?_; rintro e w1 ⟨rfl, hb1⟩)
    refine (cF.out _ (HR.out.keep hb1)).mono ?_
    rintro e w2 ⟨rfl, hb2⟩
    go_wp2
    exact ⟨rfl, rfl, hb1.trans (hb2.mono hb1.size)⟩
end Go.Proofs.YtefdekfgmbgbbaaDoor
