/-
  The contracts of monitor.New, doer and mayCarry.
-/
import Derived.Test.YthhbbhijpkoelaaDoorIq
import Derived.Test.YthhbbhijpkoelaaDoorLid
namespace Go.Proofs.YthhbbhijpkoelaaDoor
open Go.RowKit Go.Shelf

/-- what monitor.New answers -/
def NWPost (t : Ty) (w : World) (e : Ending) (w' : World) : Prop :=
  ((chkTy t ≠ 0 ∧ e = .returned (.tuple #[.pointer none, .int .i64 (chkTy t)])) ∨ (∃ g ag cg mb B, OFG t g ∧ e = .returned (.tuple #[.pointer (some ⟨mb, 0, none⟩), .int .i64 0]) ∧ MN mb g.length ag cg 0 0 0 w' ∧ GAt w' B g ag ∧ B ≤ mb ∧ w.heap.size ≤ mb)) ∧ Below w.heap.size w w'
set_option maxRecDepth 100000 in
set_option maxHeartbeats 4000000 in
theorem new_any (d : Nat) (t : Ty) (al : Option Addr) (cl : Nat) (ak : Option Addr) (ck : Nat) (w : World) (hbd : TyBd t cl ck) (hla : LA w w.heap.size t.labels al) (hkt : KT w w.heap.size d t.kids ak) :
    Calls Tryd.prog 4 #[tyVal t al cl ak ck] w (NWPost t w) := by
  unfold NWPost
  have hA : Below w.heap.size w (w.alloc (.cells #[.int .i64 t.kind, .int .i64 t.so, .string t.name, .slice al t.labels.length cl, .slice ak t.kids.length ck] 25)) := (Below.refl _ _).alloc (Nat.le_refl _) _
  have c1 := of_any d t al cl ak ck (w.alloc (.cells #[.int .i64 t.kind, .int .i64 t.so, .string t.name, .slice al t.labels.length cl, .slice ak t.kids.length ck] 25)) hbd ((hla.keep hA).mono hA.size) ((hkt.keep hA).mono hA.size)
  have HA := hideK hA
  unfold OFPost at c1
  simp only [tyVal] at c1 ⊢
  clear hbd hla hkt hA
  go_enter Tryd.func4, Tryd.ntmps4
  go_wp2_with fail
  refine c1.mono ?_
  rintro e w1 ⟨hor, hb1⟩
  have HB1 := hideK (HA.out.trans (hb1.mono HA.out.size))
  clear c1 hb1 HA
  rcases hor with ⟨hz, rfl⟩ | ⟨g, ag, cg, hg, rfl, hga⟩
  · have hzb : (chkTy t != 0) = true := by simpa using hz
    have HZ := hideK hz
    clear hz
    go_wp2_with fail
    go_ret2
    exact ⟨.inl ⟨HZ.out, rfl⟩, HB1.out⟩
  · have HG := hideK hg
    have HM := hideK (show MN w1.heap.size g.length ag cg 0 0 0 (w1.alloc (.cells #[.slice ag g.length cg, .int .i64 0, .int .i64 0, .int .i64 0] 51)) from ⟨by go_cell, by go_cell, by go_cell, by go_cell, fun o => by go_simp, by simp⟩)
    have HGA := hideK (hga.keep ((Below.refl _ _).alloc (Nat.le_refl _) (.cells #[.slice ag g.length cg, .int .i64 0, .int .i64 0, .int .i64 0] 51)))
    have HB2 := hideK (HB1.out.alloc HB1.out.size (.cells #[.slice ag g.length cg, .int .i64 0, .int .i64 0, .int .i64 0] 51))
    have hsz := HB1.out.size
    clear hg hga
    go_wp2_with fail
    go_ret2
    exact ⟨.inr ⟨g, ag, cg, w1.heap.size, w1.heap.size, HG.out, rfl, HM.out, HGA.out, Nat.le_refl _, hsz⟩, HB2.out⟩
/-- who does what is of a kind -/
def doerZ (k : Int) : Int := if k = 2 ∨ k = 4 ∨ k = 6 then 1 else 2
set_option maxRecDepth 100000 in
theorem doer_any (k : Int) (w : World) : Calls Tryd.prog 21 #[.int .i64 k] w fun e w' => e = .returned (.int .i64 (doerZ k)) ∧ Below w.heap.size w w' := by
  unfold doerZ
  by_cases h2 : k = 2
  · subst h2
    rw [if_pos (.inl rfl)]
    go_enter Tryd.func21, Tryd.ntmps21
    go_wp2_with fail
    go_ret
    exact ⟨rfl, Below.refl _ _⟩
  have k2 : (k == 2) = false := by simpa using h2
  by_cases h4 : k = 4
  · subst h4
    rw [if_pos (.inr (.inl rfl))]
    go_enter Tryd.func21, Tryd.ntmps21
    go_wp2_with fail
    go_ret
    exact ⟨rfl, Below.refl _ _⟩
  have k4 : (k == 4) = false := by simpa using h4
  by_cases h6 : k = 6
  · subst h6
    rw [if_pos (.inr (.inr rfl))]
    go_enter Tryd.func21, Tryd.ntmps21
    go_wp2_with fail
    go_ret
    exact ⟨rfl, Below.refl _ _⟩
  have k6 : (k == 6) = false := by simpa using h6
  rw [if_neg (by omega)]
  clear h2 h4 h6
  go_enter Tryd.func21, Tryd.ntmps21
  go_wp2_with fail
  go_ret
  exact ⟨rfl, Below.refl _ _⟩
/-- may a channel of this type be carried there? -/
def mayC (g : List Nd) (j : Nat) (t : Ty) : Prop := ∃ c, OFG t c ∧ ∀ k, bl k c g 0 j
set_option maxRecDepth 100000 in
set_option maxHeartbeats 4000000 in
theorem mayCarry_any (g : List Nd) (hg : GN g) (ag : Option Addr) (cg B mb i j : Nat) (dn bl : Int) (d : Nat) (t : Ty) (al : Option Addr) (cl : Nat) (ak : Option Addr) (ck : Nat) (w : World) (hM : MN mb g.length ag cg i dn bl w) (hga : GAt w B g ag) (hB : B ≤ w.heap.size) (hj : j < g.length) (hbd : TyBd t cl ck) (hla : LA w w.heap.size t.labels al) (hkt : KT w w.heap.size d t.kids ak) :
    Calls Tryd.prog 37 #[.pointer (some ⟨mb, 0, none⟩), .int .i64 (j : Int), tyVal t al cl ak ck] w fun e w' => (∃ b : Bool, e = .returned (.bool b) ∧ (b = true ↔ mayC g j t)) ∧ Below w.heap.size w w' := by
  have hA : Below w.heap.size w (w.alloc (.cells #[.int .i64 t.kind, .int .i64 t.so, .string t.name, .slice al t.labels.length cl, .slice ak t.kids.length ck] 25)) := (Below.refl _ _).alloc (Nat.le_refl _) _
  have c1 := of_any d t al cl ak ck (w.alloc (.cells #[.int .i64 t.kind, .int .i64 t.so, .string t.name, .slice al t.labels.length cl, .slice ak t.kids.length ck] 25)) hbd ((hla.keep hA).mono hA.size) ((hkt.keep hA).mono hA.size)
  have HA := hideK hA
  have HM := hideK (hM.keep hA)
  have HGA := hideK (hga.keep (hA.mono hB))
  unfold OFPost at c1
  simp only [tyVal] at c1 ⊢
  clear hbd hla hkt hA hM hga
  go_enter Tryd.func37, Tryd.ntmps37
  go_wp2_with fail
  generalize w.alloc (.cells #[.int .i64 t.kind, .int .i64 t.so, .string t.name, .slice al t.labels.length cl, .slice ak t.kids.length ck] 25) = W0 at *
  refine c1.mono ?_
  rintro e w1 ⟨hor, hb1⟩
  have HB1 := hideK (HA.out.trans (hb1.mono HA.out.size))
  have hs0 := HA.out.size
  have hs1 := hb1.size
  have HM1 := hideK (HM.out.keep hb1)
  have HG1 := hideK ((HGA.out.keep (hb1.mono (show B ≤ W0.heap.size by omega))).mono (show B ≤ w1.heap.size by omega))
  clear c1 hb1 HA HM HGA
  rcases hor with ⟨hz, rfl⟩ | ⟨c, ac, cc, hc, rfl, hca⟩
  · have hzb : (chkTy t != 0) = true := by simpa using hz
    have HZ := hideK (show ¬ mayC g j t from fun ⟨c, hc, _⟩ => hz hc.chk)
    clear hz
    go_wp2_with fail
    go_ret
    exact ⟨⟨false, rfl, by simp only [Bool.false_eq_true, false_iff]; exact HZ.out⟩, HB1.out⟩
  · have c2 := nodes_any c g ac ag cc cg w1.heap.size 0 j w1 hc.gn hg hca HG1.out (Nat.le_refl _) hc.gn.pos hj
    have HQ := hideK (show belB c g 0 j = true ↔ mayC g j t from (belB_iff hc.gn hg hc.gn.pos hj).trans ⟨fun h => ⟨c, hc, h⟩, fun ⟨c', hc', h⟩ => by rw [hc.uniq hc']; exact h⟩)
    have m0 := HM1.out.c0
    simp only [Int.ofNat_zero] at c2
    generalize belB c g 0 j = q at *
    clear hc hca
    cases q with
    | true =>
      go_wp2_with fail
      refine c2.mono ?_
      rintro e w2 ⟨rfl, hb2⟩
      have HB2 := hideK (HB1.out.trans (hb2.mono HB1.out.size))
      go_wp2_with fail
      go_ret
      exact ⟨⟨true, rfl, by simpa using HQ.out⟩, HB2.out⟩
    | false =>
      go_wp2_with fail
      refine c2.mono ?_
      rintro e w2 ⟨rfl, hb2⟩
      have HB2 := hideK (HB1.out.trans (hb2.mono HB1.out.size))
      go_wp2_with fail
      go_ret
      exact ⟨⟨false, rfl, by simpa using HQ.out⟩, HB2.out⟩
end Go.Proofs.YthhbbhijpkoelaaDoor
/-
  The contracts of monitor.isNoType, isBare and check, for every event.
-/
namespace Go.Proofs.YthhbbhijpkoelaaDoor
open Go.RowKit Go.Shelf

/-- an event -/
structure Ev where
  kind : Int
  so : Int
  n : Int
  s : ByteArray
  carry : Ty
  label : ByteArray
def evVal (x : Ev) (al : Option Addr) (cl : Nat) (ak : Option Addr) (ck : Nat) : Value := .agg #[.int .i64 x.kind, .int .i64 x.so, .int .i64 x.n, .string x.s, .int .i64 x.carry.kind, .int .i64 x.carry.so, .string x.carry.name, .slice al x.carry.labels.length cl, .slice ak x.carry.kids.length ck, .string x.label]
/-- no type: one of zeros -/
def noT (t : Ty) : Bool := decide (t.kind = 0 ∧ t.so = 0 ∧ t.name = ⟨#[]⟩ ∧ t.labels.length = 0 ∧ t.kids.length = 0)
theorem noT_cases (t : Ty) : (noT t = false ∧ ((t.kind == 0) = false ∨ ((t.kind == 0) = true ∧ (t.so == 0) = false) ∨ ((t.kind == 0) = true ∧ (t.so == 0) = true ∧ t.name.toList.isEmpty = false) ∨ ((t.kind == 0) = true ∧ (t.so == 0) = true ∧ t.name.toList.isEmpty = true ∧ ((t.labels.length : Int) == 0) = false) ∨ ((t.kind == 0) = true ∧ (t.so == 0) = true ∧ t.name.toList.isEmpty = true ∧ ((t.labels.length : Int) == 0) = true ∧ ((t.kids.length : Int) == 0) = false))) ∨ (noT t = true ∧ (t.kind == 0) = true ∧ (t.so == 0) = true ∧ t.name.toList.isEmpty = true ∧ ((t.labels.length : Int) == 0) = true ∧ ((t.kids.length : Int) == 0) = true) := by
  rw [empty_toList]
  unfold noT
  by_cases h1 : t.kind = 0
  · by_cases h2 : t.so = 0
    · by_cases h3 : t.name = ⟨#[]⟩
      · by_cases h4 : t.labels.length = 0
        · by_cases h5 : t.kids.length = 0
          · right; simp [h1, h2, h3, h4, h5]
          · left; simp [h1, h2, h3, h4, h5]
        · left; simp [h1, h2, h3, h4]
      · left; simp [h1, h2, h3]
    · left; simp [h1, h2]
  · left; simp [h1]
set_option maxRecDepth 100000 in
set_option maxHeartbeats 4000000 in
theorem isNoType_any (t : Ty) (al : Option Addr) (cl : Nat) (ak : Option Addr) (ck : Nat) (w : World) :
    Calls Tryd.prog 49 #[tyVal t al cl ak ck] w fun e w' => e = .returned (.bool (noT t)) ∧ Below w.heap.size w w' := by
  unfold tyVal
  rcases noT_cases t with ⟨e, h | ⟨h1, h⟩ | ⟨h1, h2, h⟩ | ⟨h1, h2, h3, h⟩ | ⟨h1, h2, h3, h4, h⟩⟩ | ⟨e, h1, h2, h3, h4, h⟩
  all_goals
    rw [e]
    clear e
    go_enter Tryd.func49, Tryd.ntmps49
    go_wp2_with fail
    go_ret
    exact ⟨rfl, by go_grown⟩
/-- nothing but a kind -/
def bareE (x : Ev) : Bool := decide (x.so = 0 ∧ x.n = 0 ∧ x.s = ⟨#[]⟩) && noT x.carry && x.label.toList.isEmpty
set_option maxRecDepth 100000 in
set_option maxHeartbeats 4000000 in
theorem isBare_any (x : Ev) (al : Option Addr) (cl : Nat) (ak : Option Addr) (ck : Nat) (w : World) :
    Calls Tryd.prog 36 #[evVal x al cl ak ck] w fun e w' => e = .returned (.bool (bareE x)) ∧ Below w.heap.size w w' := by
  have cN := hideK (fun W : World => isNoType_any x.carry al cl ak ck W)
  unfold bareE evVal
  unfold tyVal at cN
  rcases zero_cases x.so x.n x.s with ⟨h1, h2, h3⟩ | h1 | ⟨h1, h2⟩ | ⟨h1, h2, h3⟩
  · rw [h1, h2, h3]
    generalize noT x.carry = q at *
    cases q with
    | false =>
      simp only [decide_true, Bool.and_false, Bool.false_and, and_self]
      go_enter Tryd.func36, Tryd.ntmps36
      go_wp2_with fail
      refine (cN.out _).mono ?_
      rintro e w1 ⟨rfl, hb1⟩
      go_wp2_with fail
      go_ret
      exact ⟨by first | rfl | simp, ((Below.refl _ _).alloc (Nat.le_refl _) _).trans (hb1.mono (by simp))⟩
    | true =>
      cases hl : x.label.toList.isEmpty
      all_goals
        go_enter Tryd.func36, Tryd.ntmps36
        go_wp2_with fail
        refine (cN.out _).mono ?_
        rintro e w1 ⟨rfl, hb1⟩
        have hl8 : w1.cell? ⟨w.heap.size, 9, none⟩ = some (.string x.label) := (hb1.cell (p := ⟨w.heap.size, 9, none⟩) (by simp)).trans (by go_cell)
        go_wp2_with fail
        go_ret
        exact ⟨by first | rfl | simp, ((Below.refl _ _).alloc (Nat.le_refl _) _).trans (hb1.mono (by simp))⟩
  · have hd : decide (x.so = 0 ∧ x.n = 0 ∧ x.s = ⟨#[]⟩) = false := decide_eq_false (fun q => h1 q.1)
    have b1 : (x.so == 0) = false := by simpa using h1
    rw [hd, Bool.false_and, Bool.false_and]
    clear h1 hd
    go_enter Tryd.func36, Tryd.ntmps36
    go_wp2_with fail
    go_ret
    exact ⟨rfl, by go_grown⟩
  · have hd : decide (x.so = 0 ∧ x.n = 0 ∧ x.s = ⟨#[]⟩) = false := decide_eq_false (fun q => h2 q.2.1)
    have b2 : (x.n == 0) = false := by simpa using h2
    rw [hd, Bool.false_and, Bool.false_and, h1]
    clear h1 h2 hd
    go_enter Tryd.func36, Tryd.ntmps36
    go_wp2_with fail
    go_ret
    exact ⟨rfl, by go_grown⟩
  · have hd : decide (x.so = 0 ∧ x.n = 0 ∧ x.s = ⟨#[]⟩) = false := decide_eq_false (fun q => h3 q.2.2)
    have b3 : x.s.toList.isEmpty = false := by rw [empty_toList]; exact decide_eq_false h3
    rw [hd, Bool.false_and, Bool.false_and, h1, h2]
    clear h1 h2 h3 hd
    go_enter Tryd.func36, Tryd.ntmps36
    go_wp2_with fail
    go_ret
    exact ⟨rfl, by go_grown⟩
end Go.Proofs.YthhbbhijpkoelaaDoor
