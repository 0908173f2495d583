/-
  Plain: a list of texts sorted and compacted holds the same texts, for every list.
-/
import Derived.Lib.SlicesCompact
import Derived.Lib.RowBridge
import Derived.Sort.EncStr
namespace Go.Proofs.YtclbillfffpknaaGreatDoor

theorem mem_upTo {α : Type} [Inhabited α] [DecidableEq α] (d : Array α) (x : α) : ∀ m, x ∈ Lib.compactUpTo d m ↔ ∃ j, j < m ∧ d[j]! = x
  | 0 => by simp [Lib.compactUpTo]
  | m + 1 => by
    rw [Lib.compactUpTo_succ, List.mem_append, mem_upTo d x m]
    constructor
    · rintro (⟨j, hj, e⟩ | h)
      · exact ⟨j, by omega, e⟩
      · split at h
        · simp only [List.mem_singleton] at h; exact ⟨m, by omega, h.symm⟩
        · cases h
    · rintro ⟨j, hj, e⟩
      by_cases h : j < m
      · exact .inl ⟨j, h, e⟩
      · have hm : j = m := by omega
        subst hm
        by_cases hk : Lib.keeps d j = true
        · right; rw [if_pos hk, e]; exact .head _
        · left
          have h0 : ¬ (j = 0 ∨ d[j]! ≠ d[j - 1]!) := fun hh => hk (by unfold Lib.keeps; exact decide_eq_true hh)
          refine ⟨j - 1, by omega, ?_⟩
          rw [← e]
          exact (Decidable.not_not.1 fun hh => h0 (.inr hh)).symm
theorem mem_compact {α : Type} [Inhabited α] [DecidableEq α] (zs : List α) (x : α) : x ∈ Lib.compact zs ↔ x ∈ zs := by
  unfold Lib.compact
  rw [mem_upTo]
  constructor
  · rintro ⟨j, hj, rfl⟩
    simp [getElem!_pos, hj]
  · intro h
    obtain ⟨j, hj, rfl⟩ := List.mem_iff_getElem.1 h
    exact ⟨j, hj, by simp [getElem!_pos, hj]⟩
/-- the names, each once, in their order -/
def srtN (ns : List ByteArray) : List (List UInt8) := Lib.compact ((ns.map (·.data.toList)).mergeSort fun x y => decide (x ≤ y))
theorem mem_srtN (ns : List ByteArray) (x : ByteArray) : x.data.toList ∈ srtN ns ↔ x ∈ ns := by
  unfold srtN
  rw [mem_compact, (List.mergeSort_perm _ _).mem_iff, List.mem_map]
  constructor
  · rintro ⟨y, hy, e⟩
    have : y = x := by
      cases y; cases x
      simp only [ByteArray.mk.injEq] at *
      exact Array.ext' e
    exact this ▸ hy
  · intro h; exact ⟨x, h, rfl⟩
theorem srtN_len (ns : List ByteArray) : (srtN ns).length ≤ ns.length := by
  have := Lib.compact_length_le ((ns.map (·.data.toList)).mergeSort fun x y => decide (x ≤ y))
  unfold srtN
  rw [List.length_mergeSort, List.length_map] at this
  exact this
theorem srtN_one (x : ByteArray) : srtN [x] = [x.data.toList] := by
  unfold srtN
  rw [List.map_cons, List.map_nil, List.mergeSort_singleton]
  exact Lib.compact_all _ fun j hj => Lib.keeps_lt_one _ j (by simpa using hj)
theorem srtN_nil : srtN [] = [] := List.eq_nil_of_length_eq_zero (Nat.le_zero.1 (srtN_len []))
end Go.Proofs.YtclbillfffpknaaGreatDoor
