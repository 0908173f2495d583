/-
  The law of duetkeep.MonitorBlame: whatever types and numbers are handed in it answers true.
-/
import Derived.Test.YthhbbhijpkoelaaDoorQk
import Derived.Test.YthhbbhijpkoelaaDoorQn
import Derived.Test.YthhbbhijpkoelaaDoorKa
namespace Go.Proofs.YthhbbhijpkoelaaDoor
open Go.RowKit Go.Shelf

theorem monitorBlame_law (ds dt : Nat) (s t : Ty) (pal : Option Addr) (pcl : Nat) (pak : Option Addr) (pck : Nat) (al : Option Addr) (cl : Nat) (ak : Option Addr) (ck : Nat) (zs : List Int) (ap : Option Addr) (cp : Nat) (w : World) (hT : Tabs w) (hs1 : TyBd s pcl pck) (hs2 : LA w w.heap.size s.labels pal) (hs3 : KT w w.heap.size ds s.kids pak) (ht1 : TyBd t cl ck) (ht2 : LA w w.heap.size t.labels al) (ht3 : KT w w.heap.size dt t.kids ak) (hz : NAt w w.heap.size (zs.map (Value.int .i64)) ap) (hzl : zs.length ≤ 9223372036854775807) (hzr : ∀ z ∈ zs, -9223372036854775808 ≤ z ∧ z ≤ 9223372036854775807) :
    Calls Tryd.prog 3 #[tyVal s pal pcl pak pck, tyVal t al cl ak ck, .slice ap zs.length cp] w fun e w' => e = .returned (.bool true) ∧ Below w.heap.size w w' := blame_cut.2.2 (hideK blame_first) (hideK blame_rest) ds dt s t pal pcl pak pck al cl ak ck zs ap cp w hT hs1 hs2 hs3 ht1 ht2 ht3 hz hzl hzr
end Go.Proofs.YthhbbhijpkoelaaDoor
/-
  Numbers that are handed in: what they are, and how many there can be.
-/
namespace Go.Proofs.YthhbbhijpkoelaaDoor
open Go.RowKit Go.Deep Go.Joins Go.ChangeShapes Go.WideShapes
section
variable {H : Type} {enc : TypeId × Value → H} {W : World} {base : Nat} {spare : Nat → Bool} {held : Bool}
set_option maxRecDepth 100000 in
theorem openPicks {r : Reach} {b0 : Nat} {v : Value} {d : DataW H} {p : List MemPlace} (hv : Value.okWide Tryd.prog W r b0 26 v) (h : DataW.Trod enc Tryd.prog W base spare held 26 v d p) :
    ∃ (zs : List Int) (an : Option Addr) (cn : Nat), v = .slice an zs.length cn ∧ NAt W W.heap.size (zs.map (Value.int .i64)) an ∧ zs.length ≤ 9223372036854775807 ∧ ∀ z ∈ zs, -9223372036854775808 ≤ z ∧ z ≤ 9223372036854775807 := by
  obtain ⟨a0, len, cap, rfl⟩ := okWide_slice Tryd.underlying26 hv
  obtain ⟨fuel, hf⟩ := h
  rcases DataW.trod_slice Tryd.underlying26 hf with ⟨e5, _⟩ | ⟨a, len', cap', elems, rest, k, hk, e5, hx, hb, hlc, hcm, hle, hel, _, _⟩
  · simp [Value.cells] at e5
    obtain ⟨rfl, rfl, rfl⟩ := e5
    exact ⟨[], none, 0, rfl, .inl rfl, by simp, fun z hz => (by cases hz)⟩
  · simp [Value.cells] at e5
    obtain ⟨rfl, rfl, rfl⟩ := e5
    rw [cellsIn] at hel
    have hall : ∀ i, i < len → ∃ z : Int, W.cells? base (a.add (i * 1)) 1 = some [.int .i64 z] ∧ (-9223372036854775808 ≤ z ∧ z ≤ 9223372036854775807) := by
      intro i hi
      have q := hel i hi
      rw [List.getElem?_eq_getElem (by omega)] at q
      obtain ⟨cs', q1, q2⟩ := Option.bind_eq_some_iff.1 q
      obtain ⟨z, e1, _, wz⟩ := DataW.trod_int Tryd.underlying3 q2
      subst e1
      refine ⟨z, q1, ?_⟩
      simp only [Lit.wf, Bool.and_eq_true, decide_eq_true_eq] at wz
      have e1 : IntKind.i64.min = -9223372036854775808 := by decide
      have e2 : IntKind.i64.max = 9223372036854775807 := by decide
      omega
    obtain ⟨f, hf⟩ := choose_lt hall
    refine ⟨(List.range len).map f, some a, cap, by simp, ?_, by unfold maxLen at hcm; simp; omega, fun z hz => by
      obtain ⟨i, hi, rfl⟩ := List.mem_map.1 hz
      exact (hf i (by simpa using hi)).2⟩
    by_cases hl0 : len = 0
    · exact .inl (by simp [hl0])
    · have q2 := (World.cells?_some (hf 0 (by omega)).1).2.2 0 (by omega)
      obtain ⟨b, o, spot⟩ := a
      have hsp : spot = none := by simpa [Addr.add] using World.cell?_spot q2
      subst hsp
      have hcell : ∀ i, i < len → W.cell? ⟨b, o + i, none⟩ = some (Value.int .i64 (f i)) := by
        intro i hi
        have := (World.cells?_some (hf i hi).1).2.2 0 (by omega)
        rw [add_add, Go.WideShapes.add_plain] at this
        simpa using this
      refine .inr ⟨b, o, rfl, lt_of_cell ((hcell 0 (by omega)).trans rfl), fun i hi => ?_⟩
      have hi' : i < len := by simpa using hi
      rw [hcell i hi']
      simp
end
end Go.Proofs.YthhbbhijpkoelaaDoor
