/-
  What a choice is written as, label by label; a builder's block.
-/
import Derived.Test.YtfmegfgmkeicnaaDoorKi
namespace Go.Proofs.YtfmegfgmkeicnaaDoor
open Go.RowKit Go.Shelf

theorem ibLt {T e : TypeId} {B b : Nat} {bs : List Value} {w : World} (h : Lib.IsBuilderF T e B b bs w) : b < w.heap.size := by
  rcases h with ⟨_, v, h, _⟩ | ⟨_, v, h, _⟩ <;> exact (Array.getElem?_eq_some_iff.1 h).1
theorem ba_app (a b : ByteArray) : (a ++ b).data.toList = a.data.toList ++ b.data.toList := by simp

theorem size3 (a b c : ByteArray) : (a ++ b ++ c).size = a.size + b.size + c.size := by simp [ByteArray.size_append]
theorem size2 (a b : ByteArray) : (a ++ b).size = a.size + b.size := by simp [ByteArray.size_append]
theorem ba_len (s : ByteArray) : s.size = s.data.toList.length := by simp
theorem cho_split (a b : List (ByteArray × List UInt8)) : ∀ pre, choL pre (a ++ b) = choL pre a ++ choL (if a = [] then pre else [44]) b := by
  induction a with
  | nil => intro pre; simp [choL]
  | cons p a ih =>
    intro pre
    rw [List.cons_append, choL, ih, choL]
    by_cases h : a = []
    · subst h; simp [choL]
    · simp [h]
theorem cho_take (pre : List UInt8) (ps : List (ByteArray × List UInt8)) (i : Nat) : (choL pre (ps.take i)).length ≤ (choL pre ps).length := by
  have := cho_split (ps.take i) (ps.drop i) pre
  rw [List.take_append_drop] at this
  rw [this, List.length_append]
  omega
/-- one label more -/
theorem cho_next (pre : List UInt8) (ls : List ByteArray) (ts : List (List UInt8)) (h : ts.length = ls.length) (i : Nat) (hi : i < ls.length) :
    choL pre ((ls.zip ts).take (i + 1)) = choL pre ((ls.zip ts).take i) ++ (if i = 0 then pre else [44]) ++ ls[i].data.toList ++ [58] ++ ts[i] := by
  have hz : i < (ls.zip ts).length := by rw [List.length_zip]; omega
  rw [List.take_succ_eq_append_getElem hz, cho_append]
  have e : (ls.zip ts).take i = [] ↔ i = 0 := by
    constructor
    · intro e
      have := congrArg List.length e
      rw [List.length_take] at this
      simp only [List.length_nil] at this
      omega
    · rintro rfl; rfl
  by_cases h0 : i = 0
  · rw [if_pos (e.2 h0), if_pos h0, List.getElem_zip]
  · rw [if_neg (fun q => h0 (e.1 q)), if_neg h0, List.getElem_zip]
/-- what stands ahead of the brackets -/
theorem cho_pre (p : List UInt8) (ps : List (ByteArray × List UInt8)) (h : ps ≠ []) : choL (p ++ [123]) ps = p ++ choL [123] ps := by
  cases ps with
  | nil => exact absurd rfl h
  | cons x ps => simp only [choL, List.append_assoc]
/-- what writing keeps: the builder holds l -/
structure WB (w : World) (B b : Nat) (l : List UInt8) (W : World) : Prop where
  ib : Lib.IsBuilderF 61 5 B b (Lib.byteCells l) W
  bl : Below B w W
  ok : Lib.OthersKept 5 (some b) w W
theorem WB.step {w : World} {B b : Nat} {l l' : List UInt8} {W W' : World} (h : WB w B b l W) (h1 : Lib.IsBuilderF 61 5 B b (Lib.byteCells l') W') (h2 : Below B W W') (h3 : Lib.OthersKept 5 (some b) W W') : WB w B b l' W' :=
  ⟨h1, h.bl.trans h2, h.ok.trans h3⟩
end Go.Proofs.YtfmegfgmkeicnaaDoor
