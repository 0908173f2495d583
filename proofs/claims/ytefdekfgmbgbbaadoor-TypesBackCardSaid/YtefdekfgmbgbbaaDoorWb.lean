/-
  values.Length and values.Joined of texts, as letters; utf8.ValidString's contract is a hypothesis here.
-/
import Derived.Test.YtefdekfgmbgbbaaDoorBx
import Derived.Test.YtefdekfgmbgbbaaDoorNa
import Derived.Deep.RegionHeld3
import Derived.Deep.DeepFit
import Derived.Lib.Bytealg
namespace Go.Proofs.YtefdekfgmbgbbaaDoor
open Go.RowKit Go.Shelf
variable (Tabs : World → Prop)

/-- is it UTF-8? -/
def vD (s : ByteArray) : Bool := Lib.validD s.data.toList

theorem argZ_zero (b : Bool) : argZ b = 0 ↔ b = true := by cases b <;> simp [argZ]
theorem text_zero (V : ByteArray → Bool) (n : Int) (s : ByteArray) : textZ V n s = 0 ↔ n = 0 ∧ s.size ≤ 100 ∧ V s = true := by
  unfold textZ
  by_cases hn : n = 0
  · by_cases hl : 100 < s.size
    · simp [hn, hl]; omega
    · simp [hn, hl, argZ_zero]; omega
  · simp [hn]
theorem chk3 (V : ByteArray → Bool) (n : Int) (s : ByteArray) : chkZ V 3 n s = textZ V n s := rfl
theorem need1_zero (V : ByteArray → Bool) (so n : Int) (s : ByteArray) : needZ1 V so n s = 0 ↔ so = 3 ∧ n = 0 ∧ s.size ≤ 100 ∧ V s = true := by
  unfold needZ1
  by_cases h3 : so = 3
  · subst h3
    rw [chk3, ← text_zero]
    by_cases h : textZ V n s = 0 <;> simp [h]
  · by_cases h : chkZ V so n s = 0 <;> simp [h, h3]
theorem nz2' (a b : Int) : firstNZ [a, b] = 0 ↔ a = 0 ∧ b = 0 := by
  simp only [firstNZ]
  split
  · split <;> simp_all
  · simp_all
theorem need2_zero (V : ByteArray → Bool) (so n : Int) (s : ByteArray) (so' n' : Int) (s' : ByteArray) : needZ2 V so n s so' n' s' = 0 ↔ needZ1 V so n s = 0 ∧ needZ1 V so' n' s' = 0 := by
  unfold needZ2 needZ1
  have hz := nz2' (chkZ V so n s) (chkZ V so' n' s')
  by_cases h : chkZ V so n s = 0
  · by_cases h' : chkZ V so' n' s' = 0
    · rw [hz.2 ⟨h, h'⟩, h, h']
      by_cases q : so = 3 <;> by_cases q' : so' = 3 <;> simp [q, q']
    · have hn : firstNZ [chkZ V so n s, chkZ V so' n' s'] ≠ 0 := fun e => h' (hz.1 e).2
      simp [hn, h']
  · have hn : firstNZ [chkZ V so n s, chkZ V so' n' s'] ≠ 0 := fun e => h (hz.1 e).1
    simp [hn, h]

/-- bytes as a string -/
def str (rs : List Nat) : ByteArray := ⟨(enc rs).toArray⟩
theorem str_list (rs : List Nat) : (str rs).data.toList = enc rs := by simp [str]
theorem str_size (rs : List Nat) : (str rs).size = (enc rs).length := by rw [size_list, str_list]
theorem str_of (s : ByteArray) (rs : List Nat) (h : s.data.toList = enc rs) : s = str rs := by
  apply ByteArray.ext
  apply Array.toList_inj.1
  rw [str_list, h]
theorem str_vD (rs : List Nat) (h : ∀ r ∈ rs, IsR r) : vD (str rs) = true := by unfold vD; rw [str_list]; exact valid_enc rs h
theorem str_need (rs : List Nat) (h : ∀ r ∈ rs, IsR r) (hl : (enc rs).length ≤ 100) : needZ1 vD 3 0 (str rs) = 0 := (need1_zero _ _ _ _).2 ⟨rfl, rfl, by rw [str_size]; exact hl, str_vD rs h⟩
theorem str_all (s : ByteArray) (h : vD s = true) : ∃ rs : List Nat, (∀ r ∈ rs, IsR r) ∧ s = str rs := by
  obtain ⟨rs, h1, h2⟩ := enc_of_valid _ s.data.toList (Nat.le_refl _) h
  exact ⟨rs, h1, str_of s rs h2⟩

end Go.Proofs.YtefdekfgmbgbbaaDoor
/-
  The contract of values.Order, for every two values: what it tells, and that nothing old has turned; utf8.ValidString's and strings.Compare's contracts are hypotheses here.
-/
namespace Go.Proofs.YtefdekfgmbgbbaaDoor
open Go.RowKit
variable (V : ByteArray → Bool) (Tabs : World → Prop)
/-- what values.Order tells -/
def ordZ (so n : Int) (s : ByteArray) (so' n' : Int) (s' : ByteArray) : Int := firstNZ [cmpZ so so', cmpZ n n', Lib.compareBytes s.data.toList s'.data.toList]

end Go.Proofs.YtefdekfgmbgbbaaDoor
