/-
  Plain: looking a name up, for every list of names and values.
-/
import Derived.Test.YtclbillfffpknaaGreatDoorXm
namespace Go.Proofs.YtclbillfffpknaaGreatDoor
open Go.RowKit Go.Shelf

theorem lastOf_zip (nm : ByteArray) : ∀ (bs : List (ByteArray × Vl)), lastOf nm ((bs.map (·.1)).zip (bs.map (·.2.so))) = (lastOf nm bs).map (·.so)
  | [] => rfl
  | p :: r => by
    simp only [List.map_cons, List.zip_cons_cons, lastOf]
    rw [lastOf_zip nm r]
    cases lastOf nm r with
    | some v => rfl
    | none => simp only [Option.map_none]; split <;> rfl
theorem look_both (bs : List (ByteArray × Vl)) (hg : ∀ p ∈ bs, chkZ vD p.2.so p.2.n p.2.s = 0) (nm : ByteArray) (so : Int) (h : lookS (bs.map (·.1)) (bs.map (·.2.so)) nm = (so, 0)) : (lookV bs nm).good ∧ (lookV bs nm).so = so := by
  unfold lookS at h
  rw [lastOf_zip] at h
  unfold lookV
  cases e : lastOf nm bs with
  | none => rw [e] at h; simp at h
  | some v =>
    rw [e] at h
    simp at h
    obtain ⟨p, hp, rfl, _⟩ := lastOf_mem nm bs v e
    exact ⟨hg p hp, h⟩
theorem Hid.mk' {p : Prop} (h : p) : Hid p := h
end Go.Proofs.YtclbillfffpknaaGreatDoor
