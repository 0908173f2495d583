/-
  The contract of monitor.check, for every event.
-/
import Derived.Test.YthhbbhijpkoelaaDoorMi
import Derived.Test.YthhbbhijpkoelaaDoorKd
import Derived.Test.YthhbbhijpkoelaaDoorIq
namespace Go.Proofs.YthhbbhijpkoelaaDoor
open Go.RowKit Go.Shelf

/-- what is wrong with an event by itself -/
def evE (V : ByteArray → Bool) (x : Ev) : Int :=
  if x.kind = 2 ∨ x.kind = 3 then (if chkZ V x.so x.n x.s = 0 then (if bareE ⟨x.kind, 0, 0, ⟨#[]⟩, x.carry, x.label⟩ = true then 0 else 1) else chkZ V x.so x.n x.s)
  else if x.kind = 4 ∨ x.kind = 5 then (if chkTy x.carry = 0 then (if bareE ⟨x.kind, x.so, x.n, x.s, zT, x.label⟩ = true then 0 else 1) else chkTy x.carry)
  else if x.kind = 6 ∨ x.kind = 7 then (if bareE ⟨x.kind, x.so, x.n, x.s, x.carry, ⟨#[]⟩⟩ = true then 0 else 1)
  else 1
set_option maxRecDepth 100000 in
set_option maxHeartbeats 8000000 in
theorem checkE_any {V : ByteArray → Bool} {Tabs : World → Prop} (hV : VSaid V Tabs) (hK : ∀ w w', Tabs w → Below w.heap.size w w' → Tabs w') (x : Ev) (al : Option Addr) (cl : Nat) (ak : Option Addr) (ck d : Nat) (w : World) (hT : Tabs w) (hs : x.s.size ≤ 9223372036854775807) (hbd : TyBd x.carry cl ck) (hla : LA w w.heap.size x.carry.labels al) (hkt : KT w w.heap.size d x.carry.kids ak) :
    Calls Tryd.prog 19 #[evVal x al cl ak ck] w fun e w' => e = .returned (.int .i64 (evE V x)) ∧ Below w.heap.size w w' := by
  have hA : Below w.heap.size w (w.alloc (.cells #[.int .i64 x.kind, .int .i64 x.so, .int .i64 x.n, .string x.s, .int .i64 x.carry.kind, .int .i64 x.carry.so, .string x.carry.name, .slice al x.carry.labels.length cl, .slice ak x.carry.kids.length ck, .string x.label] 39)) := (Below.refl _ _).alloc (Nat.le_refl _) _
  have CV := hideK (check_any V Tabs hV hK x.so x.n x.s (w.alloc (.cells #[.int .i64 x.kind, .int .i64 x.so, .int .i64 x.n, .string x.s, .int .i64 x.carry.kind, .int .i64 x.carry.so, .string x.carry.name, .slice al x.carry.labels.length cl, .slice ak x.carry.kids.length ck, .string x.label] 39)) hs (hK _ _ hT hA))
  have CT := hideK (typesCheck_any d x.carry al cl ak ck (w.alloc (.cells #[.int .i64 x.kind, .int .i64 x.so, .int .i64 x.n, .string x.s, .int .i64 x.carry.kind, .int .i64 x.carry.so, .string x.carry.name, .slice al x.carry.labels.length cl, .slice ak x.carry.kids.length ck, .string x.label] 39)) hbd ((hla.keep hA).mono hA.size) ((hkt.keep hA).mono hA.size))
  have HA := hideK hA
  have HW0' := hideK (show (w.alloc (.cells #[.int .i64 x.kind, .int .i64 x.so, .int .i64 x.n, .string x.s, .int .i64 x.carry.kind, .int .i64 x.carry.so, .string x.carry.name, .slice al x.carry.labels.length cl, .slice ak x.carry.kids.length ck, .string x.label] 39)) = (w.alloc (.cells #[.int .i64 x.kind, .int .i64 x.so, .int .i64 x.n, .string x.s, .int .i64 x.carry.kind, .int .i64 x.carry.so, .string x.carry.name, .slice al x.carry.labels.length cl, .slice ak x.carry.kids.length ck, .string x.label] 39)) from rfl)
  have HSZ' := hideK (show (w.alloc (.cells #[.int .i64 x.kind, .int .i64 x.so, .int .i64 x.n, .string x.s, .int .i64 x.carry.kind, .int .i64 x.carry.so, .string x.carry.name, .slice al x.carry.labels.length cl, .slice ak x.carry.kids.length ck, .string x.label] 39)).heap.size = w.heap.size + 1 from by simp)
  unfold tyVal at CT
  clear hT hbd hla hkt hA hK hV
  unfold evE
  by_cases hk : x.kind = 2
  · rw [if_pos (show x.kind = 2 ∨ x.kind = 3 by omega)]
    have k2 : (x.kind == 2) = true := by rw [hk]; rfl
    clear hk
    generalize chkZ V x.so x.n x.s = z at *
    by_cases hz : z = 0
    · subst hz
      rw [if_pos rfl]
      have CB := hideK (fun V : World => isBare_any ⟨x.kind, 0, 0, ⟨#[]⟩, x.carry, x.label⟩ al cl ak ck V)
      unfold evVal at CB
      generalize bareE ⟨x.kind, 0, 0, ⟨#[]⟩, x.carry, x.label⟩ = q at *
      cases q with
      | true =>
        rw [if_pos rfl]
        unfold evVal
        go_enter Tryd.func19, Tryd.ntmps19
        go_wp2_with fail
        refine CV.out.mono ?_
        rintro e w1 ⟨rfl, hb1⟩
        have HB1 := hideK (HA.out.trans (hb1.mono HA.out.size))
        have HSZ := HSZ'
        have HW0 := HW0'
        have c0 : w1.cell? ⟨w.heap.size, 0, none⟩ = some (.int .i64 x.kind) := (hb1.cell (p := ⟨w.heap.size, 0, none⟩) (by rw [HSZ.out]; show w.heap.size < _; omega)).trans (by go_cell)
        have c1 : w1.cell? ⟨w.heap.size, 1, none⟩ = some (.int .i64 x.so) := (hb1.cell (p := ⟨w.heap.size, 1, none⟩) (by rw [HSZ.out]; show w.heap.size < _; omega)).trans (by go_cell)
        have c2 : w1.cell? ⟨w.heap.size, 2, none⟩ = some (.int .i64 x.n) := (hb1.cell (p := ⟨w.heap.size, 2, none⟩) (by rw [HSZ.out]; show w.heap.size < _; omega)).trans (by go_cell)
        have c3 : w1.cell? ⟨w.heap.size, 3, none⟩ = some (.string x.s) := (hb1.cell (p := ⟨w.heap.size, 3, none⟩) (by rw [HSZ.out]; show w.heap.size < _; omega)).trans (by go_cell)
        have c4 : w1.cell? ⟨w.heap.size, 4, none⟩ = some (.int .i64 x.carry.kind) := (hb1.cell (p := ⟨w.heap.size, 4, none⟩) (by rw [HSZ.out]; show w.heap.size < _; omega)).trans (by go_cell)
        have c5 : w1.cell? ⟨w.heap.size, 5, none⟩ = some (.int .i64 x.carry.so) := (hb1.cell (p := ⟨w.heap.size, 5, none⟩) (by rw [HSZ.out]; show w.heap.size < _; omega)).trans (by go_cell)
        have c6 : w1.cell? ⟨w.heap.size, 6, none⟩ = some (.string x.carry.name) := (hb1.cell (p := ⟨w.heap.size, 6, none⟩) (by rw [HSZ.out]; show w.heap.size < _; omega)).trans (by go_cell)
        have c7 : w1.cell? ⟨w.heap.size, 7, none⟩ = some (.slice al x.carry.labels.length cl) := (hb1.cell (p := ⟨w.heap.size, 7, none⟩) (by rw [HSZ.out]; show w.heap.size < _; omega)).trans (by go_cell)
        have c8 : w1.cell? ⟨w.heap.size, 8, none⟩ = some (.slice ak x.carry.kids.length ck) := (hb1.cell (p := ⟨w.heap.size, 8, none⟩) (by rw [HSZ.out]; show w.heap.size < _; omega)).trans (by go_cell)
        have c9 : w1.cell? ⟨w.heap.size, 9, none⟩ = some (.string x.label) := (hb1.cell (p := ⟨w.heap.size, 9, none⟩) (by rw [HSZ.out]; show w.heap.size < _; omega)).trans (by go_cell)
        have f0 : w1.frozen? ⟨w.heap.size, 0, none⟩ = false := (hb1.frozen (p := ⟨w.heap.size, 0, none⟩) (by rw [HSZ.out]; show w.heap.size < _; omega)).trans (by go_simp)
        have f1 : w1.frozen? ⟨w.heap.size, 1, none⟩ = false := (hb1.frozen (p := ⟨w.heap.size, 1, none⟩) (by rw [HSZ.out]; show w.heap.size < _; omega)).trans (by go_simp)
        have f2 : w1.frozen? ⟨w.heap.size, 2, none⟩ = false := (hb1.frozen (p := ⟨w.heap.size, 2, none⟩) (by rw [HSZ.out]; show w.heap.size < _; omega)).trans (by go_simp)
        have f3 : w1.frozen? ⟨w.heap.size, 3, none⟩ = false := (hb1.frozen (p := ⟨w.heap.size, 3, none⟩) (by rw [HSZ.out]; show w.heap.size < _; omega)).trans (by go_simp)
        have f4 : w1.frozen? ⟨w.heap.size, 4, none⟩ = false := (hb1.frozen (p := ⟨w.heap.size, 4, none⟩) (by rw [HSZ.out]; show w.heap.size < _; omega)).trans (by go_simp)
        have f5 : w1.frozen? ⟨w.heap.size, 5, none⟩ = false := (hb1.frozen (p := ⟨w.heap.size, 5, none⟩) (by rw [HSZ.out]; show w.heap.size < _; omega)).trans (by go_simp)
        have f6 : w1.frozen? ⟨w.heap.size, 6, none⟩ = false := (hb1.frozen (p := ⟨w.heap.size, 6, none⟩) (by rw [HSZ.out]; show w.heap.size < _; omega)).trans (by go_simp)
        have f7 : w1.frozen? ⟨w.heap.size, 7, none⟩ = false := (hb1.frozen (p := ⟨w.heap.size, 7, none⟩) (by rw [HSZ.out]; show w.heap.size < _; omega)).trans (by go_simp)
        have f8 : w1.frozen? ⟨w.heap.size, 8, none⟩ = false := (hb1.frozen (p := ⟨w.heap.size, 8, none⟩) (by rw [HSZ.out]; show w.heap.size < _; omega)).trans (by go_simp)
        have f9 : w1.frozen? ⟨w.heap.size, 9, none⟩ = false := (hb1.frozen (p := ⟨w.heap.size, 9, none⟩) (by rw [HSZ.out]; show w.heap.size < _; omega)).trans (by go_simp)
        clear hb1 HA HSZ HW0 HSZ' HW0' CV CT
        have HB2 := hideK (show Below w.heap.size w (((w1.setCell ⟨w.heap.size, 1, none⟩ (.int .i64 0)).setCell ⟨w.heap.size, 2, none⟩ (.int .i64 0)).setCell ⟨w.heap.size, 3, none⟩ (.string ⟨#[]⟩)) from (((HB1.out.setCell (p := ⟨w.heap.size, 1, none⟩) (Nat.le_refl _) (.int .i64 0)).setCell (p := ⟨w.heap.size, 2, none⟩) (Nat.le_refl _) (.int .i64 0)).setCell (p := ⟨w.heap.size, 3, none⟩) (Nat.le_refl _) (.string ⟨#[]⟩)))
        go_wp2_with fail
        refine (CB.out _).mono ?_
        rintro e w2 ⟨rfl, hb2⟩
        have HB3 := hideK (HB2.out.trans (hb2.mono HB2.out.size))
        go_wp2_with fail
        go_ret
        exact ⟨by first | rfl | simp, HB3.out⟩
      | false =>
        rw [if_neg (by decide)]
        unfold evVal
        go_enter Tryd.func19, Tryd.ntmps19
        go_wp2_with fail
        refine CV.out.mono ?_
        rintro e w1 ⟨rfl, hb1⟩
        have HB1 := hideK (HA.out.trans (hb1.mono HA.out.size))
        have HSZ := HSZ'
        have HW0 := HW0'
        have c0 : w1.cell? ⟨w.heap.size, 0, none⟩ = some (.int .i64 x.kind) := (hb1.cell (p := ⟨w.heap.size, 0, none⟩) (by rw [HSZ.out]; show w.heap.size < _; omega)).trans (by go_cell)
        have c1 : w1.cell? ⟨w.heap.size, 1, none⟩ = some (.int .i64 x.so) := (hb1.cell (p := ⟨w.heap.size, 1, none⟩) (by rw [HSZ.out]; show w.heap.size < _; omega)).trans (by go_cell)
        have c2 : w1.cell? ⟨w.heap.size, 2, none⟩ = some (.int .i64 x.n) := (hb1.cell (p := ⟨w.heap.size, 2, none⟩) (by rw [HSZ.out]; show w.heap.size < _; omega)).trans (by go_cell)
        have c3 : w1.cell? ⟨w.heap.size, 3, none⟩ = some (.string x.s) := (hb1.cell (p := ⟨w.heap.size, 3, none⟩) (by rw [HSZ.out]; show w.heap.size < _; omega)).trans (by go_cell)
        have c4 : w1.cell? ⟨w.heap.size, 4, none⟩ = some (.int .i64 x.carry.kind) := (hb1.cell (p := ⟨w.heap.size, 4, none⟩) (by rw [HSZ.out]; show w.heap.size < _; omega)).trans (by go_cell)
        have c5 : w1.cell? ⟨w.heap.size, 5, none⟩ = some (.int .i64 x.carry.so) := (hb1.cell (p := ⟨w.heap.size, 5, none⟩) (by rw [HSZ.out]; show w.heap.size < _; omega)).trans (by go_cell)
        have c6 : w1.cell? ⟨w.heap.size, 6, none⟩ = some (.string x.carry.name) := (hb1.cell (p := ⟨w.heap.size, 6, none⟩) (by rw [HSZ.out]; show w.heap.size < _; omega)).trans (by go_cell)
        have c7 : w1.cell? ⟨w.heap.size, 7, none⟩ = some (.slice al x.carry.labels.length cl) := (hb1.cell (p := ⟨w.heap.size, 7, none⟩) (by rw [HSZ.out]; show w.heap.size < _; omega)).trans (by go_cell)
        have c8 : w1.cell? ⟨w.heap.size, 8, none⟩ = some (.slice ak x.carry.kids.length ck) := (hb1.cell (p := ⟨w.heap.size, 8, none⟩) (by rw [HSZ.out]; show w.heap.size < _; omega)).trans (by go_cell)
        have c9 : w1.cell? ⟨w.heap.size, 9, none⟩ = some (.string x.label) := (hb1.cell (p := ⟨w.heap.size, 9, none⟩) (by rw [HSZ.out]; show w.heap.size < _; omega)).trans (by go_cell)
        have f0 : w1.frozen? ⟨w.heap.size, 0, none⟩ = false := (hb1.frozen (p := ⟨w.heap.size, 0, none⟩) (by rw [HSZ.out]; show w.heap.size < _; omega)).trans (by go_simp)
        have f1 : w1.frozen? ⟨w.heap.size, 1, none⟩ = false := (hb1.frozen (p := ⟨w.heap.size, 1, none⟩) (by rw [HSZ.out]; show w.heap.size < _; omega)).trans (by go_simp)
        have f2 : w1.frozen? ⟨w.heap.size, 2, none⟩ = false := (hb1.frozen (p := ⟨w.heap.size, 2, none⟩) (by rw [HSZ.out]; show w.heap.size < _; omega)).trans (by go_simp)
        have f3 : w1.frozen? ⟨w.heap.size, 3, none⟩ = false := (hb1.frozen (p := ⟨w.heap.size, 3, none⟩) (by rw [HSZ.out]; show w.heap.size < _; omega)).trans (by go_simp)
        have f4 : w1.frozen? ⟨w.heap.size, 4, none⟩ = false := (hb1.frozen (p := ⟨w.heap.size, 4, none⟩) (by rw [HSZ.out]; show w.heap.size < _; omega)).trans (by go_simp)
        have f5 : w1.frozen? ⟨w.heap.size, 5, none⟩ = false := (hb1.frozen (p := ⟨w.heap.size, 5, none⟩) (by rw [HSZ.out]; show w.heap.size < _; omega)).trans (by go_simp)
        have f6 : w1.frozen? ⟨w.heap.size, 6, none⟩ = false := (hb1.frozen (p := ⟨w.heap.size, 6, none⟩) (by rw [HSZ.out]; show w.heap.size < _; omega)).trans (by go_simp)
        have f7 : w1.frozen? ⟨w.heap.size, 7, none⟩ = false := (hb1.frozen (p := ⟨w.heap.size, 7, none⟩) (by rw [HSZ.out]; show w.heap.size < _; omega)).trans (by go_simp)
        have f8 : w1.frozen? ⟨w.heap.size, 8, none⟩ = false := (hb1.frozen (p := ⟨w.heap.size, 8, none⟩) (by rw [HSZ.out]; show w.heap.size < _; omega)).trans (by go_simp)
        have f9 : w1.frozen? ⟨w.heap.size, 9, none⟩ = false := (hb1.frozen (p := ⟨w.heap.size, 9, none⟩) (by rw [HSZ.out]; show w.heap.size < _; omega)).trans (by go_simp)
        clear hb1 HA HSZ HW0 HSZ' HW0' CV CT
        have HB2 := hideK (show Below w.heap.size w (((w1.setCell ⟨w.heap.size, 1, none⟩ (.int .i64 0)).setCell ⟨w.heap.size, 2, none⟩ (.int .i64 0)).setCell ⟨w.heap.size, 3, none⟩ (.string ⟨#[]⟩)) from (((HB1.out.setCell (p := ⟨w.heap.size, 1, none⟩) (Nat.le_refl _) (.int .i64 0)).setCell (p := ⟨w.heap.size, 2, none⟩) (Nat.le_refl _) (.int .i64 0)).setCell (p := ⟨w.heap.size, 3, none⟩) (Nat.le_refl _) (.string ⟨#[]⟩)))
        go_wp2_with fail
        refine (CB.out _).mono ?_
        rintro e w2 ⟨rfl, hb2⟩
        have HB3 := hideK (HB2.out.trans (hb2.mono HB2.out.size))
        go_wp2_with fail
        go_ret
        exact ⟨by first | rfl | simp, HB3.out⟩
    · rw [if_neg hz]
      have hzb : (z == 0) = false := by simpa using hz
      clear hz
      unfold evVal
      go_enter Tryd.func19, Tryd.ntmps19
      go_wp2_with fail
      refine CV.out.mono ?_
      rintro e w1 ⟨rfl, hb1⟩
      have HB1 := hideK (HA.out.trans (hb1.mono HA.out.size))
      have HSZ := HSZ'
      have HW0 := HW0'
      have c0 : w1.cell? ⟨w.heap.size, 0, none⟩ = some (.int .i64 x.kind) := (hb1.cell (p := ⟨w.heap.size, 0, none⟩) (by rw [HSZ.out]; show w.heap.size < _; omega)).trans (by go_cell)
      have c1 : w1.cell? ⟨w.heap.size, 1, none⟩ = some (.int .i64 x.so) := (hb1.cell (p := ⟨w.heap.size, 1, none⟩) (by rw [HSZ.out]; show w.heap.size < _; omega)).trans (by go_cell)
      have c2 : w1.cell? ⟨w.heap.size, 2, none⟩ = some (.int .i64 x.n) := (hb1.cell (p := ⟨w.heap.size, 2, none⟩) (by rw [HSZ.out]; show w.heap.size < _; omega)).trans (by go_cell)
      have c3 : w1.cell? ⟨w.heap.size, 3, none⟩ = some (.string x.s) := (hb1.cell (p := ⟨w.heap.size, 3, none⟩) (by rw [HSZ.out]; show w.heap.size < _; omega)).trans (by go_cell)
      have c4 : w1.cell? ⟨w.heap.size, 4, none⟩ = some (.int .i64 x.carry.kind) := (hb1.cell (p := ⟨w.heap.size, 4, none⟩) (by rw [HSZ.out]; show w.heap.size < _; omega)).trans (by go_cell)
      have c5 : w1.cell? ⟨w.heap.size, 5, none⟩ = some (.int .i64 x.carry.so) := (hb1.cell (p := ⟨w.heap.size, 5, none⟩) (by rw [HSZ.out]; show w.heap.size < _; omega)).trans (by go_cell)
      have c6 : w1.cell? ⟨w.heap.size, 6, none⟩ = some (.string x.carry.name) := (hb1.cell (p := ⟨w.heap.size, 6, none⟩) (by rw [HSZ.out]; show w.heap.size < _; omega)).trans (by go_cell)
      have c7 : w1.cell? ⟨w.heap.size, 7, none⟩ = some (.slice al x.carry.labels.length cl) := (hb1.cell (p := ⟨w.heap.size, 7, none⟩) (by rw [HSZ.out]; show w.heap.size < _; omega)).trans (by go_cell)
      have c8 : w1.cell? ⟨w.heap.size, 8, none⟩ = some (.slice ak x.carry.kids.length ck) := (hb1.cell (p := ⟨w.heap.size, 8, none⟩) (by rw [HSZ.out]; show w.heap.size < _; omega)).trans (by go_cell)
      have c9 : w1.cell? ⟨w.heap.size, 9, none⟩ = some (.string x.label) := (hb1.cell (p := ⟨w.heap.size, 9, none⟩) (by rw [HSZ.out]; show w.heap.size < _; omega)).trans (by go_cell)
      have f0 : w1.frozen? ⟨w.heap.size, 0, none⟩ = false := (hb1.frozen (p := ⟨w.heap.size, 0, none⟩) (by rw [HSZ.out]; show w.heap.size < _; omega)).trans (by go_simp)
      have f1 : w1.frozen? ⟨w.heap.size, 1, none⟩ = false := (hb1.frozen (p := ⟨w.heap.size, 1, none⟩) (by rw [HSZ.out]; show w.heap.size < _; omega)).trans (by go_simp)
      have f2 : w1.frozen? ⟨w.heap.size, 2, none⟩ = false := (hb1.frozen (p := ⟨w.heap.size, 2, none⟩) (by rw [HSZ.out]; show w.heap.size < _; omega)).trans (by go_simp)
      have f3 : w1.frozen? ⟨w.heap.size, 3, none⟩ = false := (hb1.frozen (p := ⟨w.heap.size, 3, none⟩) (by rw [HSZ.out]; show w.heap.size < _; omega)).trans (by go_simp)
      have f4 : w1.frozen? ⟨w.heap.size, 4, none⟩ = false := (hb1.frozen (p := ⟨w.heap.size, 4, none⟩) (by rw [HSZ.out]; show w.heap.size < _; omega)).trans (by go_simp)
      have f5 : w1.frozen? ⟨w.heap.size, 5, none⟩ = false := (hb1.frozen (p := ⟨w.heap.size, 5, none⟩) (by rw [HSZ.out]; show w.heap.size < _; omega)).trans (by go_simp)
      have f6 : w1.frozen? ⟨w.heap.size, 6, none⟩ = false := (hb1.frozen (p := ⟨w.heap.size, 6, none⟩) (by rw [HSZ.out]; show w.heap.size < _; omega)).trans (by go_simp)
      have f7 : w1.frozen? ⟨w.heap.size, 7, none⟩ = false := (hb1.frozen (p := ⟨w.heap.size, 7, none⟩) (by rw [HSZ.out]; show w.heap.size < _; omega)).trans (by go_simp)
      have f8 : w1.frozen? ⟨w.heap.size, 8, none⟩ = false := (hb1.frozen (p := ⟨w.heap.size, 8, none⟩) (by rw [HSZ.out]; show w.heap.size < _; omega)).trans (by go_simp)
      have f9 : w1.frozen? ⟨w.heap.size, 9, none⟩ = false := (hb1.frozen (p := ⟨w.heap.size, 9, none⟩) (by rw [HSZ.out]; show w.heap.size < _; omega)).trans (by go_simp)
      clear hb1 HA HSZ HW0 HSZ' HW0' CV CT
      have HB2 := hideK (show Below w.heap.size w (((w1.setCell ⟨w.heap.size, 1, none⟩ (.int .i64 0)).setCell ⟨w.heap.size, 2, none⟩ (.int .i64 0)).setCell ⟨w.heap.size, 3, none⟩ (.string ⟨#[]⟩)) from (((HB1.out.setCell (p := ⟨w.heap.size, 1, none⟩) (Nat.le_refl _) (.int .i64 0)).setCell (p := ⟨w.heap.size, 2, none⟩) (Nat.le_refl _) (.int .i64 0)).setCell (p := ⟨w.heap.size, 3, none⟩) (Nat.le_refl _) (.string ⟨#[]⟩)))
      go_wp2_with fail
      go_ret
      exact ⟨rfl, HB2.out⟩
  rename ¬ x.kind = 2 => hn2
  by_cases hk : x.kind = 3
  · rw [if_pos (show x.kind = 2 ∨ x.kind = 3 by omega)]
    have k2 : (x.kind == 2) = false := by rw [hk]; rfl
    have k3 : (x.kind == 3) = true := by rw [hk]; rfl
    clear hk
    generalize chkZ V x.so x.n x.s = z at *
    by_cases hz : z = 0
    · subst hz
      rw [if_pos rfl]
      have CB := hideK (fun V : World => isBare_any ⟨x.kind, 0, 0, ⟨#[]⟩, x.carry, x.label⟩ al cl ak ck V)
      unfold evVal at CB
      generalize bareE ⟨x.kind, 0, 0, ⟨#[]⟩, x.carry, x.label⟩ = q at *
      cases q with
      | true =>
        rw [if_pos rfl]
        unfold evVal
        go_enter Tryd.func19, Tryd.ntmps19
        go_wp2_with fail
        refine CV.out.mono ?_
        rintro e w1 ⟨rfl, hb1⟩
        have HB1 := hideK (HA.out.trans (hb1.mono HA.out.size))
        have HSZ := HSZ'
        have HW0 := HW0'
        have c0 : w1.cell? ⟨w.heap.size, 0, none⟩ = some (.int .i64 x.kind) := (hb1.cell (p := ⟨w.heap.size, 0, none⟩) (by rw [HSZ.out]; show w.heap.size < _; omega)).trans (by go_cell)
        have c1 : w1.cell? ⟨w.heap.size, 1, none⟩ = some (.int .i64 x.so) := (hb1.cell (p := ⟨w.heap.size, 1, none⟩) (by rw [HSZ.out]; show w.heap.size < _; omega)).trans (by go_cell)
        have c2 : w1.cell? ⟨w.heap.size, 2, none⟩ = some (.int .i64 x.n) := (hb1.cell (p := ⟨w.heap.size, 2, none⟩) (by rw [HSZ.out]; show w.heap.size < _; omega)).trans (by go_cell)
        have c3 : w1.cell? ⟨w.heap.size, 3, none⟩ = some (.string x.s) := (hb1.cell (p := ⟨w.heap.size, 3, none⟩) (by rw [HSZ.out]; show w.heap.size < _; omega)).trans (by go_cell)
        have c4 : w1.cell? ⟨w.heap.size, 4, none⟩ = some (.int .i64 x.carry.kind) := (hb1.cell (p := ⟨w.heap.size, 4, none⟩) (by rw [HSZ.out]; show w.heap.size < _; omega)).trans (by go_cell)
        have c5 : w1.cell? ⟨w.heap.size, 5, none⟩ = some (.int .i64 x.carry.so) := (hb1.cell (p := ⟨w.heap.size, 5, none⟩) (by rw [HSZ.out]; show w.heap.size < _; omega)).trans (by go_cell)
        have c6 : w1.cell? ⟨w.heap.size, 6, none⟩ = some (.string x.carry.name) := (hb1.cell (p := ⟨w.heap.size, 6, none⟩) (by rw [HSZ.out]; show w.heap.size < _; omega)).trans (by go_cell)
        have c7 : w1.cell? ⟨w.heap.size, 7, none⟩ = some (.slice al x.carry.labels.length cl) := (hb1.cell (p := ⟨w.heap.size, 7, none⟩) (by rw [HSZ.out]; show w.heap.size < _; omega)).trans (by go_cell)
        have c8 : w1.cell? ⟨w.heap.size, 8, none⟩ = some (.slice ak x.carry.kids.length ck) := (hb1.cell (p := ⟨w.heap.size, 8, none⟩) (by rw [HSZ.out]; show w.heap.size < _; omega)).trans (by go_cell)
        have c9 : w1.cell? ⟨w.heap.size, 9, none⟩ = some (.string x.label) := (hb1.cell (p := ⟨w.heap.size, 9, none⟩) (by rw [HSZ.out]; show w.heap.size < _; omega)).trans (by go_cell)
        have f0 : w1.frozen? ⟨w.heap.size, 0, none⟩ = false := (hb1.frozen (p := ⟨w.heap.size, 0, none⟩) (by rw [HSZ.out]; show w.heap.size < _; omega)).trans (by go_simp)
        have f1 : w1.frozen? ⟨w.heap.size, 1, none⟩ = false := (hb1.frozen (p := ⟨w.heap.size, 1, none⟩) (by rw [HSZ.out]; show w.heap.size < _; omega)).trans (by go_simp)
        have f2 : w1.frozen? ⟨w.heap.size, 2, none⟩ = false := (hb1.frozen (p := ⟨w.heap.size, 2, none⟩) (by rw [HSZ.out]; show w.heap.size < _; omega)).trans (by go_simp)
        have f3 : w1.frozen? ⟨w.heap.size, 3, none⟩ = false := (hb1.frozen (p := ⟨w.heap.size, 3, none⟩) (by rw [HSZ.out]; show w.heap.size < _; omega)).trans (by go_simp)
        have f4 : w1.frozen? ⟨w.heap.size, 4, none⟩ = false := (hb1.frozen (p := ⟨w.heap.size, 4, none⟩) (by rw [HSZ.out]; show w.heap.size < _; omega)).trans (by go_simp)
        have f5 : w1.frozen? ⟨w.heap.size, 5, none⟩ = false := (hb1.frozen (p := ⟨w.heap.size, 5, none⟩) (by rw [HSZ.out]; show w.heap.size < _; omega)).trans (by go_simp)
        have f6 : w1.frozen? ⟨w.heap.size, 6, none⟩ = false := (hb1.frozen (p := ⟨w.heap.size, 6, none⟩) (by rw [HSZ.out]; show w.heap.size < _; omega)).trans (by go_simp)
        have f7 : w1.frozen? ⟨w.heap.size, 7, none⟩ = false := (hb1.frozen (p := ⟨w.heap.size, 7, none⟩) (by rw [HSZ.out]; show w.heap.size < _; omega)).trans (by go_simp)
        have f8 : w1.frozen? ⟨w.heap.size, 8, none⟩ = false := (hb1.frozen (p := ⟨w.heap.size, 8, none⟩) (by rw [HSZ.out]; show w.heap.size < _; omega)).trans (by go_simp)
        have f9 : w1.frozen? ⟨w.heap.size, 9, none⟩ = false := (hb1.frozen (p := ⟨w.heap.size, 9, none⟩) (by rw [HSZ.out]; show w.heap.size < _; omega)).trans (by go_simp)
        clear hb1 HA HSZ HW0 HSZ' HW0' CV CT
        have HB2 := hideK (show Below w.heap.size w (((w1.setCell ⟨w.heap.size, 1, none⟩ (.int .i64 0)).setCell ⟨w.heap.size, 2, none⟩ (.int .i64 0)).setCell ⟨w.heap.size, 3, none⟩ (.string ⟨#[]⟩)) from (((HB1.out.setCell (p := ⟨w.heap.size, 1, none⟩) (Nat.le_refl _) (.int .i64 0)).setCell (p := ⟨w.heap.size, 2, none⟩) (Nat.le_refl _) (.int .i64 0)).setCell (p := ⟨w.heap.size, 3, none⟩) (Nat.le_refl _) (.string ⟨#[]⟩)))
        go_wp2_with fail
        refine (CB.out _).mono ?_
        rintro e w2 ⟨rfl, hb2⟩
        have HB3 := hideK (HB2.out.trans (hb2.mono HB2.out.size))
        go_wp2_with fail
        go_ret
        exact ⟨by first | rfl | simp, HB3.out⟩
      | false =>
        rw [if_neg (by decide)]
        unfold evVal
        go_enter Tryd.func19, Tryd.ntmps19
        go_wp2_with fail
        refine CV.out.mono ?_
        rintro e w1 ⟨rfl, hb1⟩
        have HB1 := hideK (HA.out.trans (hb1.mono HA.out.size))
        have HSZ := HSZ'
        have HW0 := HW0'
        have c0 : w1.cell? ⟨w.heap.size, 0, none⟩ = some (.int .i64 x.kind) := (hb1.cell (p := ⟨w.heap.size, 0, none⟩) (by rw [HSZ.out]; show w.heap.size < _; omega)).trans (by go_cell)
        have c1 : w1.cell? ⟨w.heap.size, 1, none⟩ = some (.int .i64 x.so) := (hb1.cell (p := ⟨w.heap.size, 1, none⟩) (by rw [HSZ.out]; show w.heap.size < _; omega)).trans (by go_cell)
        have c2 : w1.cell? ⟨w.heap.size, 2, none⟩ = some (.int .i64 x.n) := (hb1.cell (p := ⟨w.heap.size, 2, none⟩) (by rw [HSZ.out]; show w.heap.size < _; omega)).trans (by go_cell)
        have c3 : w1.cell? ⟨w.heap.size, 3, none⟩ = some (.string x.s) := (hb1.cell (p := ⟨w.heap.size, 3, none⟩) (by rw [HSZ.out]; show w.heap.size < _; omega)).trans (by go_cell)
        have c4 : w1.cell? ⟨w.heap.size, 4, none⟩ = some (.int .i64 x.carry.kind) := (hb1.cell (p := ⟨w.heap.size, 4, none⟩) (by rw [HSZ.out]; show w.heap.size < _; omega)).trans (by go_cell)
        have c5 : w1.cell? ⟨w.heap.size, 5, none⟩ = some (.int .i64 x.carry.so) := (hb1.cell (p := ⟨w.heap.size, 5, none⟩) (by rw [HSZ.out]; show w.heap.size < _; omega)).trans (by go_cell)
        have c6 : w1.cell? ⟨w.heap.size, 6, none⟩ = some (.string x.carry.name) := (hb1.cell (p := ⟨w.heap.size, 6, none⟩) (by rw [HSZ.out]; show w.heap.size < _; omega)).trans (by go_cell)
        have c7 : w1.cell? ⟨w.heap.size, 7, none⟩ = some (.slice al x.carry.labels.length cl) := (hb1.cell (p := ⟨w.heap.size, 7, none⟩) (by rw [HSZ.out]; show w.heap.size < _; omega)).trans (by go_cell)
        have c8 : w1.cell? ⟨w.heap.size, 8, none⟩ = some (.slice ak x.carry.kids.length ck) := (hb1.cell (p := ⟨w.heap.size, 8, none⟩) (by rw [HSZ.out]; show w.heap.size < _; omega)).trans (by go_cell)
        have c9 : w1.cell? ⟨w.heap.size, 9, none⟩ = some (.string x.label) := (hb1.cell (p := ⟨w.heap.size, 9, none⟩) (by rw [HSZ.out]; show w.heap.size < _; omega)).trans (by go_cell)
        have f0 : w1.frozen? ⟨w.heap.size, 0, none⟩ = false := (hb1.frozen (p := ⟨w.heap.size, 0, none⟩) (by rw [HSZ.out]; show w.heap.size < _; omega)).trans (by go_simp)
        have f1 : w1.frozen? ⟨w.heap.size, 1, none⟩ = false := (hb1.frozen (p := ⟨w.heap.size, 1, none⟩) (by rw [HSZ.out]; show w.heap.size < _; omega)).trans (by go_simp)
        have f2 : w1.frozen? ⟨w.heap.size, 2, none⟩ = false := (hb1.frozen (p := ⟨w.heap.size, 2, none⟩) (by rw [HSZ.out]; show w.heap.size < _; omega)).trans (by go_simp)
        have f3 : w1.frozen? ⟨w.heap.size, 3, none⟩ = false := (hb1.frozen (p := ⟨w.heap.size, 3, none⟩) (by rw [HSZ.out]; show w.heap.size < _; omega)).trans (by go_simp)
        have f4 : w1.frozen? ⟨w.heap.size, 4, none⟩ = false := (hb1.frozen (p := ⟨w.heap.size, 4, none⟩) (by rw [HSZ.out]; show w.heap.size < _; omega)).trans (by go_simp)
        have f5 : w1.frozen? ⟨w.heap.size, 5, none⟩ = false := (hb1.frozen (p := ⟨w.heap.size, 5, none⟩) (by rw [HSZ.out]; show w.heap.size < _; omega)).trans (by go_simp)
        have f6 : w1.frozen? ⟨w.heap.size, 6, none⟩ = false := (hb1.frozen (p := ⟨w.heap.size, 6, none⟩) (by rw [HSZ.out]; show w.heap.size < _; omega)).trans (by go_simp)
        have f7 : w1.frozen? ⟨w.heap.size, 7, none⟩ = false := (hb1.frozen (p := ⟨w.heap.size, 7, none⟩) (by rw [HSZ.out]; show w.heap.size < _; omega)).trans (by go_simp)
        have f8 : w1.frozen? ⟨w.heap.size, 8, none⟩ = false := (hb1.frozen (p := ⟨w.heap.size, 8, none⟩) (by rw [HSZ.out]; show w.heap.size < _; omega)).trans (by go_simp)
        have f9 : w1.frozen? ⟨w.heap.size, 9, none⟩ = false := (hb1.frozen (p := ⟨w.heap.size, 9, none⟩) (by rw [HSZ.out]; show w.heap.size < _; omega)).trans (by go_simp)
        clear hb1 HA HSZ HW0 HSZ' HW0' CV CT
        have HB2 := hideK (show Below w.heap.size w (((w1.setCell ⟨w.heap.size, 1, none⟩ (.int .i64 0)).setCell ⟨w.heap.size, 2, none⟩ (.int .i64 0)).setCell ⟨w.heap.size, 3, none⟩ (.string ⟨#[]⟩)) from (((HB1.out.setCell (p := ⟨w.heap.size, 1, none⟩) (Nat.le_refl _) (.int .i64 0)).setCell (p := ⟨w.heap.size, 2, none⟩) (Nat.le_refl _) (.int .i64 0)).setCell (p := ⟨w.heap.size, 3, none⟩) (Nat.le_refl _) (.string ⟨#[]⟩)))
        go_wp2_with fail
        refine (CB.out _).mono ?_
        rintro e w2 ⟨rfl, hb2⟩
        have HB3 := hideK (HB2.out.trans (hb2.mono HB2.out.size))
        go_wp2_with fail
        go_ret
        exact ⟨by first | rfl | simp, HB3.out⟩
    · rw [if_neg hz]
      have hzb : (z == 0) = false := by simpa using hz
      clear hz
      unfold evVal
      go_enter Tryd.func19, Tryd.ntmps19
      go_wp2_with fail
      refine CV.out.mono ?_
      rintro e w1 ⟨rfl, hb1⟩
      have HB1 := hideK (HA.out.trans (hb1.mono HA.out.size))
      have HSZ := HSZ'
      have HW0 := HW0'
      have c0 : w1.cell? ⟨w.heap.size, 0, none⟩ = some (.int .i64 x.kind) := (hb1.cell (p := ⟨w.heap.size, 0, none⟩) (by rw [HSZ.out]; show w.heap.size < _; omega)).trans (by go_cell)
      have c1 : w1.cell? ⟨w.heap.size, 1, none⟩ = some (.int .i64 x.so) := (hb1.cell (p := ⟨w.heap.size, 1, none⟩) (by rw [HSZ.out]; show w.heap.size < _; omega)).trans (by go_cell)
      have c2 : w1.cell? ⟨w.heap.size, 2, none⟩ = some (.int .i64 x.n) := (hb1.cell (p := ⟨w.heap.size, 2, none⟩) (by rw [HSZ.out]; show w.heap.size < _; omega)).trans (by go_cell)
      have c3 : w1.cell? ⟨w.heap.size, 3, none⟩ = some (.string x.s) := (hb1.cell (p := ⟨w.heap.size, 3, none⟩) (by rw [HSZ.out]; show w.heap.size < _; omega)).trans (by go_cell)
      have c4 : w1.cell? ⟨w.heap.size, 4, none⟩ = some (.int .i64 x.carry.kind) := (hb1.cell (p := ⟨w.heap.size, 4, none⟩) (by rw [HSZ.out]; show w.heap.size < _; omega)).trans (by go_cell)
      have c5 : w1.cell? ⟨w.heap.size, 5, none⟩ = some (.int .i64 x.carry.so) := (hb1.cell (p := ⟨w.heap.size, 5, none⟩) (by rw [HSZ.out]; show w.heap.size < _; omega)).trans (by go_cell)
      have c6 : w1.cell? ⟨w.heap.size, 6, none⟩ = some (.string x.carry.name) := (hb1.cell (p := ⟨w.heap.size, 6, none⟩) (by rw [HSZ.out]; show w.heap.size < _; omega)).trans (by go_cell)
      have c7 : w1.cell? ⟨w.heap.size, 7, none⟩ = some (.slice al x.carry.labels.length cl) := (hb1.cell (p := ⟨w.heap.size, 7, none⟩) (by rw [HSZ.out]; show w.heap.size < _; omega)).trans (by go_cell)
      have c8 : w1.cell? ⟨w.heap.size, 8, none⟩ = some (.slice ak x.carry.kids.length ck) := (hb1.cell (p := ⟨w.heap.size, 8, none⟩) (by rw [HSZ.out]; show w.heap.size < _; omega)).trans (by go_cell)
      have c9 : w1.cell? ⟨w.heap.size, 9, none⟩ = some (.string x.label) := (hb1.cell (p := ⟨w.heap.size, 9, none⟩) (by rw [HSZ.out]; show w.heap.size < _; omega)).trans (by go_cell)
      have f0 : w1.frozen? ⟨w.heap.size, 0, none⟩ = false := (hb1.frozen (p := ⟨w.heap.size, 0, none⟩) (by rw [HSZ.out]; show w.heap.size < _; omega)).trans (by go_simp)
      have f1 : w1.frozen? ⟨w.heap.size, 1, none⟩ = false := (hb1.frozen (p := ⟨w.heap.size, 1, none⟩) (by rw [HSZ.out]; show w.heap.size < _; omega)).trans (by go_simp)
      have f2 : w1.frozen? ⟨w.heap.size, 2, none⟩ = false := (hb1.frozen (p := ⟨w.heap.size, 2, none⟩) (by rw [HSZ.out]; show w.heap.size < _; omega)).trans (by go_simp)
      have f3 : w1.frozen? ⟨w.heap.size, 3, none⟩ = false := (hb1.frozen (p := ⟨w.heap.size, 3, none⟩) (by rw [HSZ.out]; show w.heap.size < _; omega)).trans (by go_simp)
      have f4 : w1.frozen? ⟨w.heap.size, 4, none⟩ = false := (hb1.frozen (p := ⟨w.heap.size, 4, none⟩) (by rw [HSZ.out]; show w.heap.size < _; omega)).trans (by go_simp)
      have f5 : w1.frozen? ⟨w.heap.size, 5, none⟩ = false := (hb1.frozen (p := ⟨w.heap.size, 5, none⟩) (by rw [HSZ.out]; show w.heap.size < _; omega)).trans (by go_simp)
      have f6 : w1.frozen? ⟨w.heap.size, 6, none⟩ = false := (hb1.frozen (p := ⟨w.heap.size, 6, none⟩) (by rw [HSZ.out]; show w.heap.size < _; omega)).trans (by go_simp)
      have f7 : w1.frozen? ⟨w.heap.size, 7, none⟩ = false := (hb1.frozen (p := ⟨w.heap.size, 7, none⟩) (by rw [HSZ.out]; show w.heap.size < _; omega)).trans (by go_simp)
      have f8 : w1.frozen? ⟨w.heap.size, 8, none⟩ = false := (hb1.frozen (p := ⟨w.heap.size, 8, none⟩) (by rw [HSZ.out]; show w.heap.size < _; omega)).trans (by go_simp)
      have f9 : w1.frozen? ⟨w.heap.size, 9, none⟩ = false := (hb1.frozen (p := ⟨w.heap.size, 9, none⟩) (by rw [HSZ.out]; show w.heap.size < _; omega)).trans (by go_simp)
      clear hb1 HA HSZ HW0 HSZ' HW0' CV CT
      have HB2 := hideK (show Below w.heap.size w (((w1.setCell ⟨w.heap.size, 1, none⟩ (.int .i64 0)).setCell ⟨w.heap.size, 2, none⟩ (.int .i64 0)).setCell ⟨w.heap.size, 3, none⟩ (.string ⟨#[]⟩)) from (((HB1.out.setCell (p := ⟨w.heap.size, 1, none⟩) (Nat.le_refl _) (.int .i64 0)).setCell (p := ⟨w.heap.size, 2, none⟩) (Nat.le_refl _) (.int .i64 0)).setCell (p := ⟨w.heap.size, 3, none⟩) (Nat.le_refl _) (.string ⟨#[]⟩)))
      go_wp2_with fail
      go_ret
      exact ⟨rfl, HB2.out⟩
  rename ¬ x.kind = 3 => hn3
  by_cases hk : x.kind = 4
  · rw [if_neg (show ¬ (x.kind = 2 ∨ x.kind = 3) by omega), if_pos (show x.kind = 4 ∨ x.kind = 5 by omega)]
    have k2 : (x.kind == 2) = false := by rw [hk]; rfl
    have k3 : (x.kind == 3) = false := by rw [hk]; rfl
    have k4 : (x.kind == 4) = true := by rw [hk]; rfl
    clear hk
    generalize chkTy x.carry = z at *
    by_cases hz : z = 0
    · subst hz
      rw [if_pos rfl]
      have CB := hideK (fun V : World => isBare_any ⟨x.kind, x.so, x.n, x.s, zT, x.label⟩ none 0 none 0 V)
      unfold evVal at CB
      generalize bareE ⟨x.kind, x.so, x.n, x.s, zT, x.label⟩ = q at *
      cases q with
      | true =>
        rw [if_pos rfl]
        unfold evVal
        go_enter Tryd.func19, Tryd.ntmps19
        go_wp2_with fail
        refine CT.out.mono ?_
        rintro e w1 ⟨rfl, hb1⟩
        have HB1 := hideK (HA.out.trans (hb1.mono HA.out.size))
        have HSZ := HSZ'
        have HW0 := HW0'
        have c0 : w1.cell? ⟨w.heap.size, 0, none⟩ = some (.int .i64 x.kind) := (hb1.cell (p := ⟨w.heap.size, 0, none⟩) (by rw [HSZ.out]; show w.heap.size < _; omega)).trans (by go_cell)
        have c1 : w1.cell? ⟨w.heap.size, 1, none⟩ = some (.int .i64 x.so) := (hb1.cell (p := ⟨w.heap.size, 1, none⟩) (by rw [HSZ.out]; show w.heap.size < _; omega)).trans (by go_cell)
        have c2 : w1.cell? ⟨w.heap.size, 2, none⟩ = some (.int .i64 x.n) := (hb1.cell (p := ⟨w.heap.size, 2, none⟩) (by rw [HSZ.out]; show w.heap.size < _; omega)).trans (by go_cell)
        have c3 : w1.cell? ⟨w.heap.size, 3, none⟩ = some (.string x.s) := (hb1.cell (p := ⟨w.heap.size, 3, none⟩) (by rw [HSZ.out]; show w.heap.size < _; omega)).trans (by go_cell)
        have c4 : w1.cell? ⟨w.heap.size, 4, none⟩ = some (.int .i64 x.carry.kind) := (hb1.cell (p := ⟨w.heap.size, 4, none⟩) (by rw [HSZ.out]; show w.heap.size < _; omega)).trans (by go_cell)
        have c5 : w1.cell? ⟨w.heap.size, 5, none⟩ = some (.int .i64 x.carry.so) := (hb1.cell (p := ⟨w.heap.size, 5, none⟩) (by rw [HSZ.out]; show w.heap.size < _; omega)).trans (by go_cell)
        have c6 : w1.cell? ⟨w.heap.size, 6, none⟩ = some (.string x.carry.name) := (hb1.cell (p := ⟨w.heap.size, 6, none⟩) (by rw [HSZ.out]; show w.heap.size < _; omega)).trans (by go_cell)
        have c7 : w1.cell? ⟨w.heap.size, 7, none⟩ = some (.slice al x.carry.labels.length cl) := (hb1.cell (p := ⟨w.heap.size, 7, none⟩) (by rw [HSZ.out]; show w.heap.size < _; omega)).trans (by go_cell)
        have c8 : w1.cell? ⟨w.heap.size, 8, none⟩ = some (.slice ak x.carry.kids.length ck) := (hb1.cell (p := ⟨w.heap.size, 8, none⟩) (by rw [HSZ.out]; show w.heap.size < _; omega)).trans (by go_cell)
        have c9 : w1.cell? ⟨w.heap.size, 9, none⟩ = some (.string x.label) := (hb1.cell (p := ⟨w.heap.size, 9, none⟩) (by rw [HSZ.out]; show w.heap.size < _; omega)).trans (by go_cell)
        have f0 : w1.frozen? ⟨w.heap.size, 0, none⟩ = false := (hb1.frozen (p := ⟨w.heap.size, 0, none⟩) (by rw [HSZ.out]; show w.heap.size < _; omega)).trans (by go_simp)
        have f1 : w1.frozen? ⟨w.heap.size, 1, none⟩ = false := (hb1.frozen (p := ⟨w.heap.size, 1, none⟩) (by rw [HSZ.out]; show w.heap.size < _; omega)).trans (by go_simp)
        have f2 : w1.frozen? ⟨w.heap.size, 2, none⟩ = false := (hb1.frozen (p := ⟨w.heap.size, 2, none⟩) (by rw [HSZ.out]; show w.heap.size < _; omega)).trans (by go_simp)
        have f3 : w1.frozen? ⟨w.heap.size, 3, none⟩ = false := (hb1.frozen (p := ⟨w.heap.size, 3, none⟩) (by rw [HSZ.out]; show w.heap.size < _; omega)).trans (by go_simp)
        have f4 : w1.frozen? ⟨w.heap.size, 4, none⟩ = false := (hb1.frozen (p := ⟨w.heap.size, 4, none⟩) (by rw [HSZ.out]; show w.heap.size < _; omega)).trans (by go_simp)
        have f5 : w1.frozen? ⟨w.heap.size, 5, none⟩ = false := (hb1.frozen (p := ⟨w.heap.size, 5, none⟩) (by rw [HSZ.out]; show w.heap.size < _; omega)).trans (by go_simp)
        have f6 : w1.frozen? ⟨w.heap.size, 6, none⟩ = false := (hb1.frozen (p := ⟨w.heap.size, 6, none⟩) (by rw [HSZ.out]; show w.heap.size < _; omega)).trans (by go_simp)
        have f7 : w1.frozen? ⟨w.heap.size, 7, none⟩ = false := (hb1.frozen (p := ⟨w.heap.size, 7, none⟩) (by rw [HSZ.out]; show w.heap.size < _; omega)).trans (by go_simp)
        have f8 : w1.frozen? ⟨w.heap.size, 8, none⟩ = false := (hb1.frozen (p := ⟨w.heap.size, 8, none⟩) (by rw [HSZ.out]; show w.heap.size < _; omega)).trans (by go_simp)
        have f9 : w1.frozen? ⟨w.heap.size, 9, none⟩ = false := (hb1.frozen (p := ⟨w.heap.size, 9, none⟩) (by rw [HSZ.out]; show w.heap.size < _; omega)).trans (by go_simp)
        clear hb1 HA HSZ HW0 HSZ' HW0' CV CT
        have HB2 := hideK (show Below w.heap.size w (((((w1.setCell ⟨w.heap.size, 4, none⟩ (.int .i64 0)).setCell ⟨w.heap.size, 5, none⟩ (.int .i64 0)).setCell ⟨w.heap.size, 6, none⟩ (.string ⟨#[]⟩)).setCell ⟨w.heap.size, 7, none⟩ (.slice none 0 0)).setCell ⟨w.heap.size, 8, none⟩ (.slice none 0 0)) from (((((HB1.out.setCell (p := ⟨w.heap.size, 4, none⟩) (Nat.le_refl _) (.int .i64 0)).setCell (p := ⟨w.heap.size, 5, none⟩) (Nat.le_refl _) (.int .i64 0)).setCell (p := ⟨w.heap.size, 6, none⟩) (Nat.le_refl _) (.string ⟨#[]⟩)).setCell (p := ⟨w.heap.size, 7, none⟩) (Nat.le_refl _) (.slice none 0 0)).setCell (p := ⟨w.heap.size, 8, none⟩) (Nat.le_refl _) (.slice none 0 0)))
        go_wp2_with fail
        refine (CB.out _).mono ?_
        rintro e w2 ⟨rfl, hb2⟩
        have HB3 := hideK (HB2.out.trans (hb2.mono HB2.out.size))
        go_wp2_with fail
        go_ret
        exact ⟨by first | rfl | simp, HB3.out⟩
      | false =>
        rw [if_neg (by decide)]
        unfold evVal
        go_enter Tryd.func19, Tryd.ntmps19
        go_wp2_with fail
        refine CT.out.mono ?_
        rintro e w1 ⟨rfl, hb1⟩
        have HB1 := hideK (HA.out.trans (hb1.mono HA.out.size))
        have HSZ := HSZ'
        have HW0 := HW0'
        have c0 : w1.cell? ⟨w.heap.size, 0, none⟩ = some (.int .i64 x.kind) := (hb1.cell (p := ⟨w.heap.size, 0, none⟩) (by rw [HSZ.out]; show w.heap.size < _; omega)).trans (by go_cell)
        have c1 : w1.cell? ⟨w.heap.size, 1, none⟩ = some (.int .i64 x.so) := (hb1.cell (p := ⟨w.heap.size, 1, none⟩) (by rw [HSZ.out]; show w.heap.size < _; omega)).trans (by go_cell)
        have c2 : w1.cell? ⟨w.heap.size, 2, none⟩ = some (.int .i64 x.n) := (hb1.cell (p := ⟨w.heap.size, 2, none⟩) (by rw [HSZ.out]; show w.heap.size < _; omega)).trans (by go_cell)
        have c3 : w1.cell? ⟨w.heap.size, 3, none⟩ = some (.string x.s) := (hb1.cell (p := ⟨w.heap.size, 3, none⟩) (by rw [HSZ.out]; show w.heap.size < _; omega)).trans (by go_cell)
        have c4 : w1.cell? ⟨w.heap.size, 4, none⟩ = some (.int .i64 x.carry.kind) := (hb1.cell (p := ⟨w.heap.size, 4, none⟩) (by rw [HSZ.out]; show w.heap.size < _; omega)).trans (by go_cell)
        have c5 : w1.cell? ⟨w.heap.size, 5, none⟩ = some (.int .i64 x.carry.so) := (hb1.cell (p := ⟨w.heap.size, 5, none⟩) (by rw [HSZ.out]; show w.heap.size < _; omega)).trans (by go_cell)
        have c6 : w1.cell? ⟨w.heap.size, 6, none⟩ = some (.string x.carry.name) := (hb1.cell (p := ⟨w.heap.size, 6, none⟩) (by rw [HSZ.out]; show w.heap.size < _; omega)).trans (by go_cell)
        have c7 : w1.cell? ⟨w.heap.size, 7, none⟩ = some (.slice al x.carry.labels.length cl) := (hb1.cell (p := ⟨w.heap.size, 7, none⟩) (by rw [HSZ.out]; show w.heap.size < _; omega)).trans (by go_cell)
        have c8 : w1.cell? ⟨w.heap.size, 8, none⟩ = some (.slice ak x.carry.kids.length ck) := (hb1.cell (p := ⟨w.heap.size, 8, none⟩) (by rw [HSZ.out]; show w.heap.size < _; omega)).trans (by go_cell)
        have c9 : w1.cell? ⟨w.heap.size, 9, none⟩ = some (.string x.label) := (hb1.cell (p := ⟨w.heap.size, 9, none⟩) (by rw [HSZ.out]; show w.heap.size < _; omega)).trans (by go_cell)
        have f0 : w1.frozen? ⟨w.heap.size, 0, none⟩ = false := (hb1.frozen (p := ⟨w.heap.size, 0, none⟩) (by rw [HSZ.out]; show w.heap.size < _; omega)).trans (by go_simp)
        have f1 : w1.frozen? ⟨w.heap.size, 1, none⟩ = false := (hb1.frozen (p := ⟨w.heap.size, 1, none⟩) (by rw [HSZ.out]; show w.heap.size < _; omega)).trans (by go_simp)
        have f2 : w1.frozen? ⟨w.heap.size, 2, none⟩ = false := (hb1.frozen (p := ⟨w.heap.size, 2, none⟩) (by rw [HSZ.out]; show w.heap.size < _; omega)).trans (by go_simp)
        have f3 : w1.frozen? ⟨w.heap.size, 3, none⟩ = false := (hb1.frozen (p := ⟨w.heap.size, 3, none⟩) (by rw [HSZ.out]; show w.heap.size < _; omega)).trans (by go_simp)
        have f4 : w1.frozen? ⟨w.heap.size, 4, none⟩ = false := (hb1.frozen (p := ⟨w.heap.size, 4, none⟩) (by rw [HSZ.out]; show w.heap.size < _; omega)).trans (by go_simp)
        have f5 : w1.frozen? ⟨w.heap.size, 5, none⟩ = false := (hb1.frozen (p := ⟨w.heap.size, 5, none⟩) (by rw [HSZ.out]; show w.heap.size < _; omega)).trans (by go_simp)
        have f6 : w1.frozen? ⟨w.heap.size, 6, none⟩ = false := (hb1.frozen (p := ⟨w.heap.size, 6, none⟩) (by rw [HSZ.out]; show w.heap.size < _; omega)).trans (by go_simp)
        have f7 : w1.frozen? ⟨w.heap.size, 7, none⟩ = false := (hb1.frozen (p := ⟨w.heap.size, 7, none⟩) (by rw [HSZ.out]; show w.heap.size < _; omega)).trans (by go_simp)
        have f8 : w1.frozen? ⟨w.heap.size, 8, none⟩ = false := (hb1.frozen (p := ⟨w.heap.size, 8, none⟩) (by rw [HSZ.out]; show w.heap.size < _; omega)).trans (by go_simp)
        have f9 : w1.frozen? ⟨w.heap.size, 9, none⟩ = false := (hb1.frozen (p := ⟨w.heap.size, 9, none⟩) (by rw [HSZ.out]; show w.heap.size < _; omega)).trans (by go_simp)
        clear hb1 HA HSZ HW0 HSZ' HW0' CV CT
        have HB2 := hideK (show Below w.heap.size w (((((w1.setCell ⟨w.heap.size, 4, none⟩ (.int .i64 0)).setCell ⟨w.heap.size, 5, none⟩ (.int .i64 0)).setCell ⟨w.heap.size, 6, none⟩ (.string ⟨#[]⟩)).setCell ⟨w.heap.size, 7, none⟩ (.slice none 0 0)).setCell ⟨w.heap.size, 8, none⟩ (.slice none 0 0)) from (((((HB1.out.setCell (p := ⟨w.heap.size, 4, none⟩) (Nat.le_refl _) (.int .i64 0)).setCell (p := ⟨w.heap.size, 5, none⟩) (Nat.le_refl _) (.int .i64 0)).setCell (p := ⟨w.heap.size, 6, none⟩) (Nat.le_refl _) (.string ⟨#[]⟩)).setCell (p := ⟨w.heap.size, 7, none⟩) (Nat.le_refl _) (.slice none 0 0)).setCell (p := ⟨w.heap.size, 8, none⟩) (Nat.le_refl _) (.slice none 0 0)))
        go_wp2_with fail
        refine (CB.out _).mono ?_
        rintro e w2 ⟨rfl, hb2⟩
        have HB3 := hideK (HB2.out.trans (hb2.mono HB2.out.size))
        go_wp2_with fail
        go_ret
        exact ⟨by first | rfl | simp, HB3.out⟩
    · rw [if_neg hz]
      have hzb : (z == 0) = false := by simpa using hz
      clear hz
      unfold evVal
      go_enter Tryd.func19, Tryd.ntmps19
      go_wp2_with fail
      refine CT.out.mono ?_
      rintro e w1 ⟨rfl, hb1⟩
      have HB1 := hideK (HA.out.trans (hb1.mono HA.out.size))
      have HSZ := HSZ'
      have HW0 := HW0'
      have c0 : w1.cell? ⟨w.heap.size, 0, none⟩ = some (.int .i64 x.kind) := (hb1.cell (p := ⟨w.heap.size, 0, none⟩) (by rw [HSZ.out]; show w.heap.size < _; omega)).trans (by go_cell)
      have c1 : w1.cell? ⟨w.heap.size, 1, none⟩ = some (.int .i64 x.so) := (hb1.cell (p := ⟨w.heap.size, 1, none⟩) (by rw [HSZ.out]; show w.heap.size < _; omega)).trans (by go_cell)
      have c2 : w1.cell? ⟨w.heap.size, 2, none⟩ = some (.int .i64 x.n) := (hb1.cell (p := ⟨w.heap.size, 2, none⟩) (by rw [HSZ.out]; show w.heap.size < _; omega)).trans (by go_cell)
      have c3 : w1.cell? ⟨w.heap.size, 3, none⟩ = some (.string x.s) := (hb1.cell (p := ⟨w.heap.size, 3, none⟩) (by rw [HSZ.out]; show w.heap.size < _; omega)).trans (by go_cell)
      have c4 : w1.cell? ⟨w.heap.size, 4, none⟩ = some (.int .i64 x.carry.kind) := (hb1.cell (p := ⟨w.heap.size, 4, none⟩) (by rw [HSZ.out]; show w.heap.size < _; omega)).trans (by go_cell)
      have c5 : w1.cell? ⟨w.heap.size, 5, none⟩ = some (.int .i64 x.carry.so) := (hb1.cell (p := ⟨w.heap.size, 5, none⟩) (by rw [HSZ.out]; show w.heap.size < _; omega)).trans (by go_cell)
      have c6 : w1.cell? ⟨w.heap.size, 6, none⟩ = some (.string x.carry.name) := (hb1.cell (p := ⟨w.heap.size, 6, none⟩) (by rw [HSZ.out]; show w.heap.size < _; omega)).trans (by go_cell)
      have c7 : w1.cell? ⟨w.heap.size, 7, none⟩ = some (.slice al x.carry.labels.length cl) := (hb1.cell (p := ⟨w.heap.size, 7, none⟩) (by rw [HSZ.out]; show w.heap.size < _; omega)).trans (by go_cell)
      have c8 : w1.cell? ⟨w.heap.size, 8, none⟩ = some (.slice ak x.carry.kids.length ck) := (hb1.cell (p := ⟨w.heap.size, 8, none⟩) (by rw [HSZ.out]; show w.heap.size < _; omega)).trans (by go_cell)
      have c9 : w1.cell? ⟨w.heap.size, 9, none⟩ = some (.string x.label) := (hb1.cell (p := ⟨w.heap.size, 9, none⟩) (by rw [HSZ.out]; show w.heap.size < _; omega)).trans (by go_cell)
      have f0 : w1.frozen? ⟨w.heap.size, 0, none⟩ = false := (hb1.frozen (p := ⟨w.heap.size, 0, none⟩) (by rw [HSZ.out]; show w.heap.size < _; omega)).trans (by go_simp)
      have f1 : w1.frozen? ⟨w.heap.size, 1, none⟩ = false := (hb1.frozen (p := ⟨w.heap.size, 1, none⟩) (by rw [HSZ.out]; show w.heap.size < _; omega)).trans (by go_simp)
      have f2 : w1.frozen? ⟨w.heap.size, 2, none⟩ = false := (hb1.frozen (p := ⟨w.heap.size, 2, none⟩) (by rw [HSZ.out]; show w.heap.size < _; omega)).trans (by go_simp)
      have f3 : w1.frozen? ⟨w.heap.size, 3, none⟩ = false := (hb1.frozen (p := ⟨w.heap.size, 3, none⟩) (by rw [HSZ.out]; show w.heap.size < _; omega)).trans (by go_simp)
      have f4 : w1.frozen? ⟨w.heap.size, 4, none⟩ = false := (hb1.frozen (p := ⟨w.heap.size, 4, none⟩) (by rw [HSZ.out]; show w.heap.size < _; omega)).trans (by go_simp)
      have f5 : w1.frozen? ⟨w.heap.size, 5, none⟩ = false := (hb1.frozen (p := ⟨w.heap.size, 5, none⟩) (by rw [HSZ.out]; show w.heap.size < _; omega)).trans (by go_simp)
      have f6 : w1.frozen? ⟨w.heap.size, 6, none⟩ = false := (hb1.frozen (p := ⟨w.heap.size, 6, none⟩) (by rw [HSZ.out]; show w.heap.size < _; omega)).trans (by go_simp)
      have f7 : w1.frozen? ⟨w.heap.size, 7, none⟩ = false := (hb1.frozen (p := ⟨w.heap.size, 7, none⟩) (by rw [HSZ.out]; show w.heap.size < _; omega)).trans (by go_simp)
      have f8 : w1.frozen? ⟨w.heap.size, 8, none⟩ = false := (hb1.frozen (p := ⟨w.heap.size, 8, none⟩) (by rw [HSZ.out]; show w.heap.size < _; omega)).trans (by go_simp)
      have f9 : w1.frozen? ⟨w.heap.size, 9, none⟩ = false := (hb1.frozen (p := ⟨w.heap.size, 9, none⟩) (by rw [HSZ.out]; show w.heap.size < _; omega)).trans (by go_simp)
      clear hb1 HA HSZ HW0 HSZ' HW0' CV CT
      have HB2 := hideK (show Below w.heap.size w (((((w1.setCell ⟨w.heap.size, 4, none⟩ (.int .i64 0)).setCell ⟨w.heap.size, 5, none⟩ (.int .i64 0)).setCell ⟨w.heap.size, 6, none⟩ (.string ⟨#[]⟩)).setCell ⟨w.heap.size, 7, none⟩ (.slice none 0 0)).setCell ⟨w.heap.size, 8, none⟩ (.slice none 0 0)) from (((((HB1.out.setCell (p := ⟨w.heap.size, 4, none⟩) (Nat.le_refl _) (.int .i64 0)).setCell (p := ⟨w.heap.size, 5, none⟩) (Nat.le_refl _) (.int .i64 0)).setCell (p := ⟨w.heap.size, 6, none⟩) (Nat.le_refl _) (.string ⟨#[]⟩)).setCell (p := ⟨w.heap.size, 7, none⟩) (Nat.le_refl _) (.slice none 0 0)).setCell (p := ⟨w.heap.size, 8, none⟩) (Nat.le_refl _) (.slice none 0 0)))
      go_wp2_with fail
      go_ret
      exact ⟨rfl, HB2.out⟩
  rename ¬ x.kind = 4 => hn4
  by_cases hk : x.kind = 5
  · rw [if_neg (show ¬ (x.kind = 2 ∨ x.kind = 3) by omega), if_pos (show x.kind = 4 ∨ x.kind = 5 by omega)]
    have k2 : (x.kind == 2) = false := by rw [hk]; rfl
    have k3 : (x.kind == 3) = false := by rw [hk]; rfl
    have k4 : (x.kind == 4) = false := by rw [hk]; rfl
    have k5 : (x.kind == 5) = true := by rw [hk]; rfl
    clear hk
    generalize chkTy x.carry = z at *
    by_cases hz : z = 0
    · subst hz
      rw [if_pos rfl]
      have CB := hideK (fun V : World => isBare_any ⟨x.kind, x.so, x.n, x.s, zT, x.label⟩ none 0 none 0 V)
      unfold evVal at CB
      generalize bareE ⟨x.kind, x.so, x.n, x.s, zT, x.label⟩ = q at *
      cases q with
      | true =>
        rw [if_pos rfl]
        unfold evVal
        go_enter Tryd.func19, Tryd.ntmps19
        go_wp2_with fail
        refine CT.out.mono ?_
        rintro e w1 ⟨rfl, hb1⟩
        have HB1 := hideK (HA.out.trans (hb1.mono HA.out.size))
        have HSZ := HSZ'
        have HW0 := HW0'
        have c0 : w1.cell? ⟨w.heap.size, 0, none⟩ = some (.int .i64 x.kind) := (hb1.cell (p := ⟨w.heap.size, 0, none⟩) (by rw [HSZ.out]; show w.heap.size < _; omega)).trans (by go_cell)
        have c1 : w1.cell? ⟨w.heap.size, 1, none⟩ = some (.int .i64 x.so) := (hb1.cell (p := ⟨w.heap.size, 1, none⟩) (by rw [HSZ.out]; show w.heap.size < _; omega)).trans (by go_cell)
        have c2 : w1.cell? ⟨w.heap.size, 2, none⟩ = some (.int .i64 x.n) := (hb1.cell (p := ⟨w.heap.size, 2, none⟩) (by rw [HSZ.out]; show w.heap.size < _; omega)).trans (by go_cell)
        have c3 : w1.cell? ⟨w.heap.size, 3, none⟩ = some (.string x.s) := (hb1.cell (p := ⟨w.heap.size, 3, none⟩) (by rw [HSZ.out]; show w.heap.size < _; omega)).trans (by go_cell)
        have c4 : w1.cell? ⟨w.heap.size, 4, none⟩ = some (.int .i64 x.carry.kind) := (hb1.cell (p := ⟨w.heap.size, 4, none⟩) (by rw [HSZ.out]; show w.heap.size < _; omega)).trans (by go_cell)
        have c5 : w1.cell? ⟨w.heap.size, 5, none⟩ = some (.int .i64 x.carry.so) := (hb1.cell (p := ⟨w.heap.size, 5, none⟩) (by rw [HSZ.out]; show w.heap.size < _; omega)).trans (by go_cell)
        have c6 : w1.cell? ⟨w.heap.size, 6, none⟩ = some (.string x.carry.name) := (hb1.cell (p := ⟨w.heap.size, 6, none⟩) (by rw [HSZ.out]; show w.heap.size < _; omega)).trans (by go_cell)
        have c7 : w1.cell? ⟨w.heap.size, 7, none⟩ = some (.slice al x.carry.labels.length cl) := (hb1.cell (p := ⟨w.heap.size, 7, none⟩) (by rw [HSZ.out]; show w.heap.size < _; omega)).trans (by go_cell)
        have c8 : w1.cell? ⟨w.heap.size, 8, none⟩ = some (.slice ak x.carry.kids.length ck) := (hb1.cell (p := ⟨w.heap.size, 8, none⟩) (by rw [HSZ.out]; show w.heap.size < _; omega)).trans (by go_cell)
        have c9 : w1.cell? ⟨w.heap.size, 9, none⟩ = some (.string x.label) := (hb1.cell (p := ⟨w.heap.size, 9, none⟩) (by rw [HSZ.out]; show w.heap.size < _; omega)).trans (by go_cell)
        have f0 : w1.frozen? ⟨w.heap.size, 0, none⟩ = false := (hb1.frozen (p := ⟨w.heap.size, 0, none⟩) (by rw [HSZ.out]; show w.heap.size < _; omega)).trans (by go_simp)
        have f1 : w1.frozen? ⟨w.heap.size, 1, none⟩ = false := (hb1.frozen (p := ⟨w.heap.size, 1, none⟩) (by rw [HSZ.out]; show w.heap.size < _; omega)).trans (by go_simp)
        have f2 : w1.frozen? ⟨w.heap.size, 2, none⟩ = false := (hb1.frozen (p := ⟨w.heap.size, 2, none⟩) (by rw [HSZ.out]; show w.heap.size < _; omega)).trans (by go_simp)
        have f3 : w1.frozen? ⟨w.heap.size, 3, none⟩ = false := (hb1.frozen (p := ⟨w.heap.size, 3, none⟩) (by rw [HSZ.out]; show w.heap.size < _; omega)).trans (by go_simp)
        have f4 : w1.frozen? ⟨w.heap.size, 4, none⟩ = false := (hb1.frozen (p := ⟨w.heap.size, 4, none⟩) (by rw [HSZ.out]; show w.heap.size < _; omega)).trans (by go_simp)
        have f5 : w1.frozen? ⟨w.heap.size, 5, none⟩ = false := (hb1.frozen (p := ⟨w.heap.size, 5, none⟩) (by rw [HSZ.out]; show w.heap.size < _; omega)).trans (by go_simp)
        have f6 : w1.frozen? ⟨w.heap.size, 6, none⟩ = false := (hb1.frozen (p := ⟨w.heap.size, 6, none⟩) (by rw [HSZ.out]; show w.heap.size < _; omega)).trans (by go_simp)
        have f7 : w1.frozen? ⟨w.heap.size, 7, none⟩ = false := (hb1.frozen (p := ⟨w.heap.size, 7, none⟩) (by rw [HSZ.out]; show w.heap.size < _; omega)).trans (by go_simp)
        have f8 : w1.frozen? ⟨w.heap.size, 8, none⟩ = false := (hb1.frozen (p := ⟨w.heap.size, 8, none⟩) (by rw [HSZ.out]; show w.heap.size < _; omega)).trans (by go_simp)
        have f9 : w1.frozen? ⟨w.heap.size, 9, none⟩ = false := (hb1.frozen (p := ⟨w.heap.size, 9, none⟩) (by rw [HSZ.out]; show w.heap.size < _; omega)).trans (by go_simp)
        clear hb1 HA HSZ HW0 HSZ' HW0' CV CT
        have HB2 := hideK (show Below w.heap.size w (((((w1.setCell ⟨w.heap.size, 4, none⟩ (.int .i64 0)).setCell ⟨w.heap.size, 5, none⟩ (.int .i64 0)).setCell ⟨w.heap.size, 6, none⟩ (.string ⟨#[]⟩)).setCell ⟨w.heap.size, 7, none⟩ (.slice none 0 0)).setCell ⟨w.heap.size, 8, none⟩ (.slice none 0 0)) from (((((HB1.out.setCell (p := ⟨w.heap.size, 4, none⟩) (Nat.le_refl _) (.int .i64 0)).setCell (p := ⟨w.heap.size, 5, none⟩) (Nat.le_refl _) (.int .i64 0)).setCell (p := ⟨w.heap.size, 6, none⟩) (Nat.le_refl _) (.string ⟨#[]⟩)).setCell (p := ⟨w.heap.size, 7, none⟩) (Nat.le_refl _) (.slice none 0 0)).setCell (p := ⟨w.heap.size, 8, none⟩) (Nat.le_refl _) (.slice none 0 0)))
        go_wp2_with fail
        refine (CB.out _).mono ?_
        rintro e w2 ⟨rfl, hb2⟩
        have HB3 := hideK (HB2.out.trans (hb2.mono HB2.out.size))
        go_wp2_with fail
        go_ret
        exact ⟨by first | rfl | simp, HB3.out⟩
      | false =>
        rw [if_neg (by decide)]
        unfold evVal
        go_enter Tryd.func19, Tryd.ntmps19
        go_wp2_with fail
        refine CT.out.mono ?_
        rintro e w1 ⟨rfl, hb1⟩
        have HB1 := hideK (HA.out.trans (hb1.mono HA.out.size))
        have HSZ := HSZ'
        have HW0 := HW0'
        have c0 : w1.cell? ⟨w.heap.size, 0, none⟩ = some (.int .i64 x.kind) := (hb1.cell (p := ⟨w.heap.size, 0, none⟩) (by rw [HSZ.out]; show w.heap.size < _; omega)).trans (by go_cell)
        have c1 : w1.cell? ⟨w.heap.size, 1, none⟩ = some (.int .i64 x.so) := (hb1.cell (p := ⟨w.heap.size, 1, none⟩) (by rw [HSZ.out]; show w.heap.size < _; omega)).trans (by go_cell)
        have c2 : w1.cell? ⟨w.heap.size, 2, none⟩ = some (.int .i64 x.n) := (hb1.cell (p := ⟨w.heap.size, 2, none⟩) (by rw [HSZ.out]; show w.heap.size < _; omega)).trans (by go_cell)
        have c3 : w1.cell? ⟨w.heap.size, 3, none⟩ = some (.string x.s) := (hb1.cell (p := ⟨w.heap.size, 3, none⟩) (by rw [HSZ.out]; show w.heap.size < _; omega)).trans (by go_cell)
        have c4 : w1.cell? ⟨w.heap.size, 4, none⟩ = some (.int .i64 x.carry.kind) := (hb1.cell (p := ⟨w.heap.size, 4, none⟩) (by rw [HSZ.out]; show w.heap.size < _; omega)).trans (by go_cell)
        have c5 : w1.cell? ⟨w.heap.size, 5, none⟩ = some (.int .i64 x.carry.so) := (hb1.cell (p := ⟨w.heap.size, 5, none⟩) (by rw [HSZ.out]; show w.heap.size < _; omega)).trans (by go_cell)
        have c6 : w1.cell? ⟨w.heap.size, 6, none⟩ = some (.string x.carry.name) := (hb1.cell (p := ⟨w.heap.size, 6, none⟩) (by rw [HSZ.out]; show w.heap.size < _; omega)).trans (by go_cell)
        have c7 : w1.cell? ⟨w.heap.size, 7, none⟩ = some (.slice al x.carry.labels.length cl) := (hb1.cell (p := ⟨w.heap.size, 7, none⟩) (by rw [HSZ.out]; show w.heap.size < _; omega)).trans (by go_cell)
        have c8 : w1.cell? ⟨w.heap.size, 8, none⟩ = some (.slice ak x.carry.kids.length ck) := (hb1.cell (p := ⟨w.heap.size, 8, none⟩) (by rw [HSZ.out]; show w.heap.size < _; omega)).trans (by go_cell)
        have c9 : w1.cell? ⟨w.heap.size, 9, none⟩ = some (.string x.label) := (hb1.cell (p := ⟨w.heap.size, 9, none⟩) (by rw [HSZ.out]; show w.heap.size < _; omega)).trans (by go_cell)
        have f0 : w1.frozen? ⟨w.heap.size, 0, none⟩ = false := (hb1.frozen (p := ⟨w.heap.size, 0, none⟩) (by rw [HSZ.out]; show w.heap.size < _; omega)).trans (by go_simp)
        have f1 : w1.frozen? ⟨w.heap.size, 1, none⟩ = false := (hb1.frozen (p := ⟨w.heap.size, 1, none⟩) (by rw [HSZ.out]; show w.heap.size < _; omega)).trans (by go_simp)
        have f2 : w1.frozen? ⟨w.heap.size, 2, none⟩ = false := (hb1.frozen (p := ⟨w.heap.size, 2, none⟩) (by rw [HSZ.out]; show w.heap.size < _; omega)).trans (by go_simp)
        have f3 : w1.frozen? ⟨w.heap.size, 3, none⟩ = false := (hb1.frozen (p := ⟨w.heap.size, 3, none⟩) (by rw [HSZ.out]; show w.heap.size < _; omega)).trans (by go_simp)
        have f4 : w1.frozen? ⟨w.heap.size, 4, none⟩ = false := (hb1.frozen (p := ⟨w.heap.size, 4, none⟩) (by rw [HSZ.out]; show w.heap.size < _; omega)).trans (by go_simp)
        have f5 : w1.frozen? ⟨w.heap.size, 5, none⟩ = false := (hb1.frozen (p := ⟨w.heap.size, 5, none⟩) (by rw [HSZ.out]; show w.heap.size < _; omega)).trans (by go_simp)
        have f6 : w1.frozen? ⟨w.heap.size, 6, none⟩ = false := (hb1.frozen (p := ⟨w.heap.size, 6, none⟩) (by rw [HSZ.out]; show w.heap.size < _; omega)).trans (by go_simp)
        have f7 : w1.frozen? ⟨w.heap.size, 7, none⟩ = false := (hb1.frozen (p := ⟨w.heap.size, 7, none⟩) (by rw [HSZ.out]; show w.heap.size < _; omega)).trans (by go_simp)
        have f8 : w1.frozen? ⟨w.heap.size, 8, none⟩ = false := (hb1.frozen (p := ⟨w.heap.size, 8, none⟩) (by rw [HSZ.out]; show w.heap.size < _; omega)).trans (by go_simp)
        have f9 : w1.frozen? ⟨w.heap.size, 9, none⟩ = false := (hb1.frozen (p := ⟨w.heap.size, 9, none⟩) (by rw [HSZ.out]; show w.heap.size < _; omega)).trans (by go_simp)
        clear hb1 HA HSZ HW0 HSZ' HW0' CV CT
        have HB2 := hideK (show Below w.heap.size w (((((w1.setCell ⟨w.heap.size, 4, none⟩ (.int .i64 0)).setCell ⟨w.heap.size, 5, none⟩ (.int .i64 0)).setCell ⟨w.heap.size, 6, none⟩ (.string ⟨#[]⟩)).setCell ⟨w.heap.size, 7, none⟩ (.slice none 0 0)).setCell ⟨w.heap.size, 8, none⟩ (.slice none 0 0)) from (((((HB1.out.setCell (p := ⟨w.heap.size, 4, none⟩) (Nat.le_refl _) (.int .i64 0)).setCell (p := ⟨w.heap.size, 5, none⟩) (Nat.le_refl _) (.int .i64 0)).setCell (p := ⟨w.heap.size, 6, none⟩) (Nat.le_refl _) (.string ⟨#[]⟩)).setCell (p := ⟨w.heap.size, 7, none⟩) (Nat.le_refl _) (.slice none 0 0)).setCell (p := ⟨w.heap.size, 8, none⟩) (Nat.le_refl _) (.slice none 0 0)))
        go_wp2_with fail
        refine (CB.out _).mono ?_
        rintro e w2 ⟨rfl, hb2⟩
        have HB3 := hideK (HB2.out.trans (hb2.mono HB2.out.size))
        go_wp2_with fail
        go_ret
        exact ⟨by first | rfl | simp, HB3.out⟩
    · rw [if_neg hz]
      have hzb : (z == 0) = false := by simpa using hz
      clear hz
      unfold evVal
      go_enter Tryd.func19, Tryd.ntmps19
      go_wp2_with fail
      refine CT.out.mono ?_
      rintro e w1 ⟨rfl, hb1⟩
      have HB1 := hideK (HA.out.trans (hb1.mono HA.out.size))
      have HSZ := HSZ'
      have HW0 := HW0'
      have c0 : w1.cell? ⟨w.heap.size, 0, none⟩ = some (.int .i64 x.kind) := (hb1.cell (p := ⟨w.heap.size, 0, none⟩) (by rw [HSZ.out]; show w.heap.size < _; omega)).trans (by go_cell)
      have c1 : w1.cell? ⟨w.heap.size, 1, none⟩ = some (.int .i64 x.so) := (hb1.cell (p := ⟨w.heap.size, 1, none⟩) (by rw [HSZ.out]; show w.heap.size < _; omega)).trans (by go_cell)
      have c2 : w1.cell? ⟨w.heap.size, 2, none⟩ = some (.int .i64 x.n) := (hb1.cell (p := ⟨w.heap.size, 2, none⟩) (by rw [HSZ.out]; show w.heap.size < _; omega)).trans (by go_cell)
      have c3 : w1.cell? ⟨w.heap.size, 3, none⟩ = some (.string x.s) := (hb1.cell (p := ⟨w.heap.size, 3, none⟩) (by rw [HSZ.out]; show w.heap.size < _; omega)).trans (by go_cell)
      have c4 : w1.cell? ⟨w.heap.size, 4, none⟩ = some (.int .i64 x.carry.kind) := (hb1.cell (p := ⟨w.heap.size, 4, none⟩) (by rw [HSZ.out]; show w.heap.size < _; omega)).trans (by go_cell)
      have c5 : w1.cell? ⟨w.heap.size, 5, none⟩ = some (.int .i64 x.carry.so) := (hb1.cell (p := ⟨w.heap.size, 5, none⟩) (by rw [HSZ.out]; show w.heap.size < _; omega)).trans (by go_cell)
      have c6 : w1.cell? ⟨w.heap.size, 6, none⟩ = some (.string x.carry.name) := (hb1.cell (p := ⟨w.heap.size, 6, none⟩) (by rw [HSZ.out]; show w.heap.size < _; omega)).trans (by go_cell)
      have c7 : w1.cell? ⟨w.heap.size, 7, none⟩ = some (.slice al x.carry.labels.length cl) := (hb1.cell (p := ⟨w.heap.size, 7, none⟩) (by rw [HSZ.out]; show w.heap.size < _; omega)).trans (by go_cell)
      have c8 : w1.cell? ⟨w.heap.size, 8, none⟩ = some (.slice ak x.carry.kids.length ck) := (hb1.cell (p := ⟨w.heap.size, 8, none⟩) (by rw [HSZ.out]; show w.heap.size < _; omega)).trans (by go_cell)
      have c9 : w1.cell? ⟨w.heap.size, 9, none⟩ = some (.string x.label) := (hb1.cell (p := ⟨w.heap.size, 9, none⟩) (by rw [HSZ.out]; show w.heap.size < _; omega)).trans (by go_cell)
      have f0 : w1.frozen? ⟨w.heap.size, 0, none⟩ = false := (hb1.frozen (p := ⟨w.heap.size, 0, none⟩) (by rw [HSZ.out]; show w.heap.size < _; omega)).trans (by go_simp)
      have f1 : w1.frozen? ⟨w.heap.size, 1, none⟩ = false := (hb1.frozen (p := ⟨w.heap.size, 1, none⟩) (by rw [HSZ.out]; show w.heap.size < _; omega)).trans (by go_simp)
      have f2 : w1.frozen? ⟨w.heap.size, 2, none⟩ = false := (hb1.frozen (p := ⟨w.heap.size, 2, none⟩) (by rw [HSZ.out]; show w.heap.size < _; omega)).trans (by go_simp)
      have f3 : w1.frozen? ⟨w.heap.size, 3, none⟩ = false := (hb1.frozen (p := ⟨w.heap.size, 3, none⟩) (by rw [HSZ.out]; show w.heap.size < _; omega)).trans (by go_simp)
      have f4 : w1.frozen? ⟨w.heap.size, 4, none⟩ = false := (hb1.frozen (p := ⟨w.heap.size, 4, none⟩) (by rw [HSZ.out]; show w.heap.size < _; omega)).trans (by go_simp)
      have f5 : w1.frozen? ⟨w.heap.size, 5, none⟩ = false := (hb1.frozen (p := ⟨w.heap.size, 5, none⟩) (by rw [HSZ.out]; show w.heap.size < _; omega)).trans (by go_simp)
      have f6 : w1.frozen? ⟨w.heap.size, 6, none⟩ = false := (hb1.frozen (p := ⟨w.heap.size, 6, none⟩) (by rw [HSZ.out]; show w.heap.size < _; omega)).trans (by go_simp)
      have f7 : w1.frozen? ⟨w.heap.size, 7, none⟩ = false := (hb1.frozen (p := ⟨w.heap.size, 7, none⟩) (by rw [HSZ.out]; show w.heap.size < _; omega)).trans (by go_simp)
      have f8 : w1.frozen? ⟨w.heap.size, 8, none⟩ = false := (hb1.frozen (p := ⟨w.heap.size, 8, none⟩) (by rw [HSZ.out]; show w.heap.size < _; omega)).trans (by go_simp)
      have f9 : w1.frozen? ⟨w.heap.size, 9, none⟩ = false := (hb1.frozen (p := ⟨w.heap.size, 9, none⟩) (by rw [HSZ.out]; show w.heap.size < _; omega)).trans (by go_simp)
      clear hb1 HA HSZ HW0 HSZ' HW0' CV CT
      have HB2 := hideK (show Below w.heap.size w (((((w1.setCell ⟨w.heap.size, 4, none⟩ (.int .i64 0)).setCell ⟨w.heap.size, 5, none⟩ (.int .i64 0)).setCell ⟨w.heap.size, 6, none⟩ (.string ⟨#[]⟩)).setCell ⟨w.heap.size, 7, none⟩ (.slice none 0 0)).setCell ⟨w.heap.size, 8, none⟩ (.slice none 0 0)) from (((((HB1.out.setCell (p := ⟨w.heap.size, 4, none⟩) (Nat.le_refl _) (.int .i64 0)).setCell (p := ⟨w.heap.size, 5, none⟩) (Nat.le_refl _) (.int .i64 0)).setCell (p := ⟨w.heap.size, 6, none⟩) (Nat.le_refl _) (.string ⟨#[]⟩)).setCell (p := ⟨w.heap.size, 7, none⟩) (Nat.le_refl _) (.slice none 0 0)).setCell (p := ⟨w.heap.size, 8, none⟩) (Nat.le_refl _) (.slice none 0 0)))
      go_wp2_with fail
      go_ret
      exact ⟨rfl, HB2.out⟩
  rename ¬ x.kind = 5 => hn5
  by_cases hk : x.kind = 6
  · rw [if_neg (show ¬ (x.kind = 2 ∨ x.kind = 3) by omega), if_neg (show ¬ (x.kind = 4 ∨ x.kind = 5) by omega), if_pos (show x.kind = 6 ∨ x.kind = 7 by omega)]
    have k2 : (x.kind == 2) = false := by rw [hk]; rfl
    have k3 : (x.kind == 3) = false := by rw [hk]; rfl
    have k4 : (x.kind == 4) = false := by rw [hk]; rfl
    have k5 : (x.kind == 5) = false := by rw [hk]; rfl
    have k6 : (x.kind == 6) = true := by rw [hk]; rfl
    clear hk
    have CB := hideK (fun V : World => isBare_any ⟨x.kind, x.so, x.n, x.s, x.carry, ⟨#[]⟩⟩ al cl ak ck V)
    unfold evVal at CB
    generalize bareE ⟨x.kind, x.so, x.n, x.s, x.carry, ⟨#[]⟩⟩ = q at *
    cases q with
    | true =>
      rw [if_pos rfl]
      have HB1 := HA
      have HSZ := HSZ'
      have c0 : (w.alloc (.cells #[.int .i64 x.kind, .int .i64 x.so, .int .i64 x.n, .string x.s, .int .i64 x.carry.kind, .int .i64 x.carry.so, .string x.carry.name, .slice al x.carry.labels.length cl, .slice ak x.carry.kids.length ck, .string x.label] 39)).cell? ⟨w.heap.size, 0, none⟩ = some (.int .i64 x.kind) := by go_cell
      have c1 : (w.alloc (.cells #[.int .i64 x.kind, .int .i64 x.so, .int .i64 x.n, .string x.s, .int .i64 x.carry.kind, .int .i64 x.carry.so, .string x.carry.name, .slice al x.carry.labels.length cl, .slice ak x.carry.kids.length ck, .string x.label] 39)).cell? ⟨w.heap.size, 1, none⟩ = some (.int .i64 x.so) := by go_cell
      have c2 : (w.alloc (.cells #[.int .i64 x.kind, .int .i64 x.so, .int .i64 x.n, .string x.s, .int .i64 x.carry.kind, .int .i64 x.carry.so, .string x.carry.name, .slice al x.carry.labels.length cl, .slice ak x.carry.kids.length ck, .string x.label] 39)).cell? ⟨w.heap.size, 2, none⟩ = some (.int .i64 x.n) := by go_cell
      have c3 : (w.alloc (.cells #[.int .i64 x.kind, .int .i64 x.so, .int .i64 x.n, .string x.s, .int .i64 x.carry.kind, .int .i64 x.carry.so, .string x.carry.name, .slice al x.carry.labels.length cl, .slice ak x.carry.kids.length ck, .string x.label] 39)).cell? ⟨w.heap.size, 3, none⟩ = some (.string x.s) := by go_cell
      have c4 : (w.alloc (.cells #[.int .i64 x.kind, .int .i64 x.so, .int .i64 x.n, .string x.s, .int .i64 x.carry.kind, .int .i64 x.carry.so, .string x.carry.name, .slice al x.carry.labels.length cl, .slice ak x.carry.kids.length ck, .string x.label] 39)).cell? ⟨w.heap.size, 4, none⟩ = some (.int .i64 x.carry.kind) := by go_cell
      have c5 : (w.alloc (.cells #[.int .i64 x.kind, .int .i64 x.so, .int .i64 x.n, .string x.s, .int .i64 x.carry.kind, .int .i64 x.carry.so, .string x.carry.name, .slice al x.carry.labels.length cl, .slice ak x.carry.kids.length ck, .string x.label] 39)).cell? ⟨w.heap.size, 5, none⟩ = some (.int .i64 x.carry.so) := by go_cell
      have c6 : (w.alloc (.cells #[.int .i64 x.kind, .int .i64 x.so, .int .i64 x.n, .string x.s, .int .i64 x.carry.kind, .int .i64 x.carry.so, .string x.carry.name, .slice al x.carry.labels.length cl, .slice ak x.carry.kids.length ck, .string x.label] 39)).cell? ⟨w.heap.size, 6, none⟩ = some (.string x.carry.name) := by go_cell
      have c7 : (w.alloc (.cells #[.int .i64 x.kind, .int .i64 x.so, .int .i64 x.n, .string x.s, .int .i64 x.carry.kind, .int .i64 x.carry.so, .string x.carry.name, .slice al x.carry.labels.length cl, .slice ak x.carry.kids.length ck, .string x.label] 39)).cell? ⟨w.heap.size, 7, none⟩ = some (.slice al x.carry.labels.length cl) := by go_cell
      have c8 : (w.alloc (.cells #[.int .i64 x.kind, .int .i64 x.so, .int .i64 x.n, .string x.s, .int .i64 x.carry.kind, .int .i64 x.carry.so, .string x.carry.name, .slice al x.carry.labels.length cl, .slice ak x.carry.kids.length ck, .string x.label] 39)).cell? ⟨w.heap.size, 8, none⟩ = some (.slice ak x.carry.kids.length ck) := by go_cell
      have c9 : (w.alloc (.cells #[.int .i64 x.kind, .int .i64 x.so, .int .i64 x.n, .string x.s, .int .i64 x.carry.kind, .int .i64 x.carry.so, .string x.carry.name, .slice al x.carry.labels.length cl, .slice ak x.carry.kids.length ck, .string x.label] 39)).cell? ⟨w.heap.size, 9, none⟩ = some (.string x.label) := by go_cell
      have f9 : (w.alloc (.cells #[.int .i64 x.kind, .int .i64 x.so, .int .i64 x.n, .string x.s, .int .i64 x.carry.kind, .int .i64 x.carry.so, .string x.carry.name, .slice al x.carry.labels.length cl, .slice ak x.carry.kids.length ck, .string x.label] 39)).frozen? ⟨w.heap.size, 9, none⟩ = false := by go_simp
      clear HA HSZ HSZ' HW0' CV CT
      unfold evVal
      go_enter Tryd.func19, Tryd.ntmps19
      go_upto_region 2 with fail
      generalize (w.alloc (.cells #[.int .i64 x.kind, .int .i64 x.so, .int .i64 x.n, .string x.s, .int .i64 x.carry.kind, .int .i64 x.carry.so, .string x.carry.name, .slice al x.carry.labels.length cl, .slice ak x.carry.kids.length ck, .string x.label] 39)) = w1 at *
      have HB2 := hideK (show Below w.heap.size w (w1.setCell ⟨w.heap.size, 9, none⟩ (.string ⟨#[]⟩)) from (HB1.out.setCell (p := ⟨w.heap.size, 9, none⟩) (Nat.le_refl _) (.string ⟨#[]⟩)))
      go_wp2_with fail
      refine (CB.out _).mono ?_
      rintro e w2 ⟨rfl, hb2⟩
      have HB3 := hideK (HB2.out.trans (hb2.mono HB2.out.size))
      go_wp2_with fail
      go_ret
      exact ⟨by first | rfl | simp, HB3.out⟩
    | false =>
      rw [if_neg (by decide)]
      have HB1 := HA
      have HSZ := HSZ'
      have c0 : (w.alloc (.cells #[.int .i64 x.kind, .int .i64 x.so, .int .i64 x.n, .string x.s, .int .i64 x.carry.kind, .int .i64 x.carry.so, .string x.carry.name, .slice al x.carry.labels.length cl, .slice ak x.carry.kids.length ck, .string x.label] 39)).cell? ⟨w.heap.size, 0, none⟩ = some (.int .i64 x.kind) := by go_cell
      have c1 : (w.alloc (.cells #[.int .i64 x.kind, .int .i64 x.so, .int .i64 x.n, .string x.s, .int .i64 x.carry.kind, .int .i64 x.carry.so, .string x.carry.name, .slice al x.carry.labels.length cl, .slice ak x.carry.kids.length ck, .string x.label] 39)).cell? ⟨w.heap.size, 1, none⟩ = some (.int .i64 x.so) := by go_cell
      have c2 : (w.alloc (.cells #[.int .i64 x.kind, .int .i64 x.so, .int .i64 x.n, .string x.s, .int .i64 x.carry.kind, .int .i64 x.carry.so, .string x.carry.name, .slice al x.carry.labels.length cl, .slice ak x.carry.kids.length ck, .string x.label] 39)).cell? ⟨w.heap.size, 2, none⟩ = some (.int .i64 x.n) := by go_cell
      have c3 : (w.alloc (.cells #[.int .i64 x.kind, .int .i64 x.so, .int .i64 x.n, .string x.s, .int .i64 x.carry.kind, .int .i64 x.carry.so, .string x.carry.name, .slice al x.carry.labels.length cl, .slice ak x.carry.kids.length ck, .string x.label] 39)).cell? ⟨w.heap.size, 3, none⟩ = some (.string x.s) := by go_cell
      have c4 : (w.alloc (.cells #[.int .i64 x.kind, .int .i64 x.so, .int .i64 x.n, .string x.s, .int .i64 x.carry.kind, .int .i64 x.carry.so, .string x.carry.name, .slice al x.carry.labels.length cl, .slice ak x.carry.kids.length ck, .string x.label] 39)).cell? ⟨w.heap.size, 4, none⟩ = some (.int .i64 x.carry.kind) := by go_cell
      have c5 : (w.alloc (.cells #[.int .i64 x.kind, .int .i64 x.so, .int .i64 x.n, .string x.s, .int .i64 x.carry.kind, .int .i64 x.carry.so, .string x.carry.name, .slice al x.carry.labels.length cl, .slice ak x.carry.kids.length ck, .string x.label] 39)).cell? ⟨w.heap.size, 5, none⟩ = some (.int .i64 x.carry.so) := by go_cell
      have c6 : (w.alloc (.cells #[.int .i64 x.kind, .int .i64 x.so, .int .i64 x.n, .string x.s, .int .i64 x.carry.kind, .int .i64 x.carry.so, .string x.carry.name, .slice al x.carry.labels.length cl, .slice ak x.carry.kids.length ck, .string x.label] 39)).cell? ⟨w.heap.size, 6, none⟩ = some (.string x.carry.name) := by go_cell
      have c7 : (w.alloc (.cells #[.int .i64 x.kind, .int .i64 x.so, .int .i64 x.n, .string x.s, .int .i64 x.carry.kind, .int .i64 x.carry.so, .string x.carry.name, .slice al x.carry.labels.length cl, .slice ak x.carry.kids.length ck, .string x.label] 39)).cell? ⟨w.heap.size, 7, none⟩ = some (.slice al x.carry.labels.length cl) := by go_cell
      have c8 : (w.alloc (.cells #[.int .i64 x.kind, .int .i64 x.so, .int .i64 x.n, .string x.s, .int .i64 x.carry.kind, .int .i64 x.carry.so, .string x.carry.name, .slice al x.carry.labels.length cl, .slice ak x.carry.kids.length ck, .string x.label] 39)).cell? ⟨w.heap.size, 8, none⟩ = some (.slice ak x.carry.kids.length ck) := by go_cell
      have c9 : (w.alloc (.cells #[.int .i64 x.kind, .int .i64 x.so, .int .i64 x.n, .string x.s, .int .i64 x.carry.kind, .int .i64 x.carry.so, .string x.carry.name, .slice al x.carry.labels.length cl, .slice ak x.carry.kids.length ck, .string x.label] 39)).cell? ⟨w.heap.size, 9, none⟩ = some (.string x.label) := by go_cell
      have f9 : (w.alloc (.cells #[.int .i64 x.kind, .int .i64 x.so, .int .i64 x.n, .string x.s, .int .i64 x.carry.kind, .int .i64 x.carry.so, .string x.carry.name, .slice al x.carry.labels.length cl, .slice ak x.carry.kids.length ck, .string x.label] 39)).frozen? ⟨w.heap.size, 9, none⟩ = false := by go_simp
      clear HA HSZ HSZ' HW0' CV CT
      unfold evVal
      go_enter Tryd.func19, Tryd.ntmps19
      go_upto_region 2 with fail
      generalize (w.alloc (.cells #[.int .i64 x.kind, .int .i64 x.so, .int .i64 x.n, .string x.s, .int .i64 x.carry.kind, .int .i64 x.carry.so, .string x.carry.name, .slice al x.carry.labels.length cl, .slice ak x.carry.kids.length ck, .string x.label] 39)) = w1 at *
      have HB2 := hideK (show Below w.heap.size w (w1.setCell ⟨w.heap.size, 9, none⟩ (.string ⟨#[]⟩)) from (HB1.out.setCell (p := ⟨w.heap.size, 9, none⟩) (Nat.le_refl _) (.string ⟨#[]⟩)))
      go_wp2_with fail
      refine (CB.out _).mono ?_
      rintro e w2 ⟨rfl, hb2⟩
      have HB3 := hideK (HB2.out.trans (hb2.mono HB2.out.size))
      go_wp2_with fail
      go_ret
      exact ⟨by first | rfl | simp, HB3.out⟩
  rename ¬ x.kind = 6 => hn6
  by_cases hk : x.kind = 7
  · rw [if_neg (show ¬ (x.kind = 2 ∨ x.kind = 3) by omega), if_neg (show ¬ (x.kind = 4 ∨ x.kind = 5) by omega), if_pos (show x.kind = 6 ∨ x.kind = 7 by omega)]
    have k2 : (x.kind == 2) = false := by rw [hk]; rfl
    have k3 : (x.kind == 3) = false := by rw [hk]; rfl
    have k4 : (x.kind == 4) = false := by rw [hk]; rfl
    have k5 : (x.kind == 5) = false := by rw [hk]; rfl
    have k6 : (x.kind == 6) = false := by rw [hk]; rfl
    have k7 : (x.kind == 7) = true := by rw [hk]; rfl
    clear hk
    have CB := hideK (fun V : World => isBare_any ⟨x.kind, x.so, x.n, x.s, x.carry, ⟨#[]⟩⟩ al cl ak ck V)
    unfold evVal at CB
    generalize bareE ⟨x.kind, x.so, x.n, x.s, x.carry, ⟨#[]⟩⟩ = q at *
    cases q with
    | true =>
      rw [if_pos rfl]
      have HB1 := HA
      have HSZ := HSZ'
      have c0 : (w.alloc (.cells #[.int .i64 x.kind, .int .i64 x.so, .int .i64 x.n, .string x.s, .int .i64 x.carry.kind, .int .i64 x.carry.so, .string x.carry.name, .slice al x.carry.labels.length cl, .slice ak x.carry.kids.length ck, .string x.label] 39)).cell? ⟨w.heap.size, 0, none⟩ = some (.int .i64 x.kind) := by go_cell
      have c1 : (w.alloc (.cells #[.int .i64 x.kind, .int .i64 x.so, .int .i64 x.n, .string x.s, .int .i64 x.carry.kind, .int .i64 x.carry.so, .string x.carry.name, .slice al x.carry.labels.length cl, .slice ak x.carry.kids.length ck, .string x.label] 39)).cell? ⟨w.heap.size, 1, none⟩ = some (.int .i64 x.so) := by go_cell
      have c2 : (w.alloc (.cells #[.int .i64 x.kind, .int .i64 x.so, .int .i64 x.n, .string x.s, .int .i64 x.carry.kind, .int .i64 x.carry.so, .string x.carry.name, .slice al x.carry.labels.length cl, .slice ak x.carry.kids.length ck, .string x.label] 39)).cell? ⟨w.heap.size, 2, none⟩ = some (.int .i64 x.n) := by go_cell
      have c3 : (w.alloc (.cells #[.int .i64 x.kind, .int .i64 x.so, .int .i64 x.n, .string x.s, .int .i64 x.carry.kind, .int .i64 x.carry.so, .string x.carry.name, .slice al x.carry.labels.length cl, .slice ak x.carry.kids.length ck, .string x.label] 39)).cell? ⟨w.heap.size, 3, none⟩ = some (.string x.s) := by go_cell
      have c4 : (w.alloc (.cells #[.int .i64 x.kind, .int .i64 x.so, .int .i64 x.n, .string x.s, .int .i64 x.carry.kind, .int .i64 x.carry.so, .string x.carry.name, .slice al x.carry.labels.length cl, .slice ak x.carry.kids.length ck, .string x.label] 39)).cell? ⟨w.heap.size, 4, none⟩ = some (.int .i64 x.carry.kind) := by go_cell
      have c5 : (w.alloc (.cells #[.int .i64 x.kind, .int .i64 x.so, .int .i64 x.n, .string x.s, .int .i64 x.carry.kind, .int .i64 x.carry.so, .string x.carry.name, .slice al x.carry.labels.length cl, .slice ak x.carry.kids.length ck, .string x.label] 39)).cell? ⟨w.heap.size, 5, none⟩ = some (.int .i64 x.carry.so) := by go_cell
      have c6 : (w.alloc (.cells #[.int .i64 x.kind, .int .i64 x.so, .int .i64 x.n, .string x.s, .int .i64 x.carry.kind, .int .i64 x.carry.so, .string x.carry.name, .slice al x.carry.labels.length cl, .slice ak x.carry.kids.length ck, .string x.label] 39)).cell? ⟨w.heap.size, 6, none⟩ = some (.string x.carry.name) := by go_cell
      have c7 : (w.alloc (.cells #[.int .i64 x.kind, .int .i64 x.so, .int .i64 x.n, .string x.s, .int .i64 x.carry.kind, .int .i64 x.carry.so, .string x.carry.name, .slice al x.carry.labels.length cl, .slice ak x.carry.kids.length ck, .string x.label] 39)).cell? ⟨w.heap.size, 7, none⟩ = some (.slice al x.carry.labels.length cl) := by go_cell
      have c8 : (w.alloc (.cells #[.int .i64 x.kind, .int .i64 x.so, .int .i64 x.n, .string x.s, .int .i64 x.carry.kind, .int .i64 x.carry.so, .string x.carry.name, .slice al x.carry.labels.length cl, .slice ak x.carry.kids.length ck, .string x.label] 39)).cell? ⟨w.heap.size, 8, none⟩ = some (.slice ak x.carry.kids.length ck) := by go_cell
      have c9 : (w.alloc (.cells #[.int .i64 x.kind, .int .i64 x.so, .int .i64 x.n, .string x.s, .int .i64 x.carry.kind, .int .i64 x.carry.so, .string x.carry.name, .slice al x.carry.labels.length cl, .slice ak x.carry.kids.length ck, .string x.label] 39)).cell? ⟨w.heap.size, 9, none⟩ = some (.string x.label) := by go_cell
      have f9 : (w.alloc (.cells #[.int .i64 x.kind, .int .i64 x.so, .int .i64 x.n, .string x.s, .int .i64 x.carry.kind, .int .i64 x.carry.so, .string x.carry.name, .slice al x.carry.labels.length cl, .slice ak x.carry.kids.length ck, .string x.label] 39)).frozen? ⟨w.heap.size, 9, none⟩ = false := by go_simp
      clear HA HSZ HSZ' HW0' CV CT
      unfold evVal
      go_enter Tryd.func19, Tryd.ntmps19
      go_upto_region 2 with fail
      generalize (w.alloc (.cells #[.int .i64 x.kind, .int .i64 x.so, .int .i64 x.n, .string x.s, .int .i64 x.carry.kind, .int .i64 x.carry.so, .string x.carry.name, .slice al x.carry.labels.length cl, .slice ak x.carry.kids.length ck, .string x.label] 39)) = w1 at *
      have HB2 := hideK (show Below w.heap.size w (w1.setCell ⟨w.heap.size, 9, none⟩ (.string ⟨#[]⟩)) from (HB1.out.setCell (p := ⟨w.heap.size, 9, none⟩) (Nat.le_refl _) (.string ⟨#[]⟩)))
      go_wp2_with fail
      refine (CB.out _).mono ?_
      rintro e w2 ⟨rfl, hb2⟩
      have HB3 := hideK (HB2.out.trans (hb2.mono HB2.out.size))
      go_wp2_with fail
      go_ret
      exact ⟨by first | rfl | simp, HB3.out⟩
    | false =>
      rw [if_neg (by decide)]
      have HB1 := HA
      have HSZ := HSZ'
      have c0 : (w.alloc (.cells #[.int .i64 x.kind, .int .i64 x.so, .int .i64 x.n, .string x.s, .int .i64 x.carry.kind, .int .i64 x.carry.so, .string x.carry.name, .slice al x.carry.labels.length cl, .slice ak x.carry.kids.length ck, .string x.label] 39)).cell? ⟨w.heap.size, 0, none⟩ = some (.int .i64 x.kind) := by go_cell
      have c1 : (w.alloc (.cells #[.int .i64 x.kind, .int .i64 x.so, .int .i64 x.n, .string x.s, .int .i64 x.carry.kind, .int .i64 x.carry.so, .string x.carry.name, .slice al x.carry.labels.length cl, .slice ak x.carry.kids.length ck, .string x.label] 39)).cell? ⟨w.heap.size, 1, none⟩ = some (.int .i64 x.so) := by go_cell
      have c2 : (w.alloc (.cells #[.int .i64 x.kind, .int .i64 x.so, .int .i64 x.n, .string x.s, .int .i64 x.carry.kind, .int .i64 x.carry.so, .string x.carry.name, .slice al x.carry.labels.length cl, .slice ak x.carry.kids.length ck, .string x.label] 39)).cell? ⟨w.heap.size, 2, none⟩ = some (.int .i64 x.n) := by go_cell
      have c3 : (w.alloc (.cells #[.int .i64 x.kind, .int .i64 x.so, .int .i64 x.n, .string x.s, .int .i64 x.carry.kind, .int .i64 x.carry.so, .string x.carry.name, .slice al x.carry.labels.length cl, .slice ak x.carry.kids.length ck, .string x.label] 39)).cell? ⟨w.heap.size, 3, none⟩ = some (.string x.s) := by go_cell
      have c4 : (w.alloc (.cells #[.int .i64 x.kind, .int .i64 x.so, .int .i64 x.n, .string x.s, .int .i64 x.carry.kind, .int .i64 x.carry.so, .string x.carry.name, .slice al x.carry.labels.length cl, .slice ak x.carry.kids.length ck, .string x.label] 39)).cell? ⟨w.heap.size, 4, none⟩ = some (.int .i64 x.carry.kind) := by go_cell
      have c5 : (w.alloc (.cells #[.int .i64 x.kind, .int .i64 x.so, .int .i64 x.n, .string x.s, .int .i64 x.carry.kind, .int .i64 x.carry.so, .string x.carry.name, .slice al x.carry.labels.length cl, .slice ak x.carry.kids.length ck, .string x.label] 39)).cell? ⟨w.heap.size, 5, none⟩ = some (.int .i64 x.carry.so) := by go_cell
      have c6 : (w.alloc (.cells #[.int .i64 x.kind, .int .i64 x.so, .int .i64 x.n, .string x.s, .int .i64 x.carry.kind, .int .i64 x.carry.so, .string x.carry.name, .slice al x.carry.labels.length cl, .slice ak x.carry.kids.length ck, .string x.label] 39)).cell? ⟨w.heap.size, 6, none⟩ = some (.string x.carry.name) := by go_cell
      have c7 : (w.alloc (.cells #[.int .i64 x.kind, .int .i64 x.so, .int .i64 x.n, .string x.s, .int .i64 x.carry.kind, .int .i64 x.carry.so, .string x.carry.name, .slice al x.carry.labels.length cl, .slice ak x.carry.kids.length ck, .string x.label] 39)).cell? ⟨w.heap.size, 7, none⟩ = some (.slice al x.carry.labels.length cl) := by go_cell
      have c8 : (w.alloc (.cells #[.int .i64 x.kind, .int .i64 x.so, .int .i64 x.n, .string x.s, .int .i64 x.carry.kind, .int .i64 x.carry.so, .string x.carry.name, .slice al x.carry.labels.length cl, .slice ak x.carry.kids.length ck, .string x.label] 39)).cell? ⟨w.heap.size, 8, none⟩ = some (.slice ak x.carry.kids.length ck) := by go_cell
      have c9 : (w.alloc (.cells #[.int .i64 x.kind, .int .i64 x.so, .int .i64 x.n, .string x.s, .int .i64 x.carry.kind, .int .i64 x.carry.so, .string x.carry.name, .slice al x.carry.labels.length cl, .slice ak x.carry.kids.length ck, .string x.label] 39)).cell? ⟨w.heap.size, 9, none⟩ = some (.string x.label) := by go_cell
      have f9 : (w.alloc (.cells #[.int .i64 x.kind, .int .i64 x.so, .int .i64 x.n, .string x.s, .int .i64 x.carry.kind, .int .i64 x.carry.so, .string x.carry.name, .slice al x.carry.labels.length cl, .slice ak x.carry.kids.length ck, .string x.label] 39)).frozen? ⟨w.heap.size, 9, none⟩ = false := by go_simp
      clear HA HSZ HSZ' HW0' CV CT
      unfold evVal
      go_enter Tryd.func19, Tryd.ntmps19
      go_upto_region 2 with fail
      generalize (w.alloc (.cells #[.int .i64 x.kind, .int .i64 x.so, .int .i64 x.n, .string x.s, .int .i64 x.carry.kind, .int .i64 x.carry.so, .string x.carry.name, .slice al x.carry.labels.length cl, .slice ak x.carry.kids.length ck, .string x.label] 39)) = w1 at *
      have HB2 := hideK (show Below w.heap.size w (w1.setCell ⟨w.heap.size, 9, none⟩ (.string ⟨#[]⟩)) from (HB1.out.setCell (p := ⟨w.heap.size, 9, none⟩) (Nat.le_refl _) (.string ⟨#[]⟩)))
      go_wp2_with fail
      refine (CB.out _).mono ?_
      rintro e w2 ⟨rfl, hb2⟩
      have HB3 := hideK (HB2.out.trans (hb2.mono HB2.out.size))
      go_wp2_with fail
      go_ret
      exact ⟨by first | rfl | simp, HB3.out⟩
  rename ¬ x.kind = 7 => hn7
  rw [if_neg (by omega), if_neg (by omega), if_neg (by omega)]
  have k2 : (x.kind == 2) = false := by simpa using hn2
  have k3 : (x.kind == 3) = false := by simpa using hn3
  have k4 : (x.kind == 4) = false := by simpa using hn4
  have k5 : (x.kind == 5) = false := by simpa using hn5
  have k6 : (x.kind == 6) = false := by simpa using hn6
  have k7 : (x.kind == 7) = false := by simpa using hn7
  unfold evVal
  go_enter Tryd.func19, Tryd.ntmps19
  go_wp2_with fail
  go_ret
  exact ⟨rfl, HA.out⟩
end Go.Proofs.YthhbbhijpkoelaaDoor
