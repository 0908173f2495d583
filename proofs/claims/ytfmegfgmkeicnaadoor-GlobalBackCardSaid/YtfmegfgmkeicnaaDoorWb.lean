/-
  The contract of values.Length, for every value; utf8.ValidString's contract is a hypothesis here.
-/
import Derived.Test.YtfmegfgmkeicnaaDoorNa
import Derived.Test.YtfmegfgmkeicnaaDoorBu
import Derived.Test.YtfmegfgmkeicnaaDoorUb
import Derived.Lib.OwnBridge
import Derived.BigCall
import Derived.Deep.QuietTactic
import Derived.BigQuiet
import Derived.Deep.RegionHeld3
import Derived.Deep.DeepFit
import Derived.Lib.Bytealg
namespace Go.Proofs.YtfmegfgmkeicnaaDoor
open Go.RowKit Go.Shelf
variable (V : ByteArray → Bool) (Tabs : World → Prop)

theorem count_any (s : ByteArray) (w : World) (hs : s.size < 9223372036854775807) :
    Calls Tryd.prog 116 #[.string s] w fun e w' => e = .returned (.int .i64 (Lib.runeCount s)) ∧ Below w.heap.size w w' :=
  (Any.utf8_RuneCountInString Tryd.lays195 s w hs).mono (by
    rintro e w' ⟨rfl, pos, rfl⟩
    exact ⟨rfl, (Below.refl _ _).alloc (Nat.le_refl _) _⟩)

/-- what values.Length tells of a value that may be any -/
def lenZ (V : ByteArray → Bool) (so n : Int) (s : ByteArray) : Int := if needZ1 V so n s = 0 then (Lib.runeCount s : Int) else 0

end Go.Proofs.YtfmegfgmkeicnaaDoor
/-
  The contract of values.Joined, for every two values; utf8.ValidString's contract is a hypothesis here.
-/
namespace Go.Proofs.YtfmegfgmkeicnaaDoor
open Go.RowKit Go.Shelf
variable (V : ByteArray → Bool) (Tabs : World → Prop)

/-- what function number 24 rests on -/
theorem extra169 : Builder.Extra Tryd.prog Tryd.lays169_ren := {
  sizeBuilder := by kernel_rfl
  liesBuilder := by kernel_rfl
  t5 := Tryd.underlying5
  a5 := Tryd.isAgg5
  z5 := Tryd.sizeOf5
  v5 := Tryd.zeroValue5
  infoByte := by kernel_rfl
  cellsByte := by kernel_rfl
  sizeByte := by kernel_rfl
  neB5 := by decide }

theorem string_any (B b : Nat) (l : List UInt8) (w : World) (h : Lib.IsBuilderF 61 5 B b (Lib.byteCells l) w) (hBw : B ≤ w.heap.size) :
    Calls Tryd.prog 24 #[.pointer (some ⟨b, 0, none⟩)] w fun e w' => e = .returned (.string ⟨l.toArray⟩) ∧ (Lib.IsBuilderF 61 5 B b (Lib.byteCells l) w' ∧ Below B w w' ∧ Lib.OthersKept 5 (some b) w w') :=
  Any.Builder_String_any_k Tryd.lays169 extra169 B b l w h hBw
theorem len_any (B b : Nat) (bs : List Value) (w : World) (h : Lib.IsBuilderF 61 5 B b bs w) :
    Calls Tryd.prog 48 #[.pointer (some ⟨b, 0, none⟩)] w fun e w' => e = .returned (.int .i64 bs.length) ∧ w' = w :=
  Any.Builder_Len_f Tryd.lays170 B b bs w h
end Go.Proofs.YtfmegfgmkeicnaaDoor

/-
  A value in a block of its own, carried from world to world; what the calls of values.Length and values.Joined say.
-/
namespace Go.Proofs.YtfmegfgmkeicnaaDoor
open Go.RowKit Go.Shelf
variable (Tabs : World → Prop)

/-- a value in a block of its own -/
structure Box (W : World) (b : Nat) (so n : Int) (s : ByteArray) : Prop where
  lt : b < W.heap.size
  c0 : W.cell? ⟨b, 0, none⟩ = some (.int .i64 so)
  c1 : W.cell? ⟨b, 1, none⟩ = some (.int .i64 n)
  c2 : W.cell? ⟨b, 2, none⟩ = some (.string s)
theorem Box.keep {W W' : World} {b : Nat} {so n : Int} {s : ByteArray} (h : Box W b so n s) (hb : Below W.heap.size W W') : Box W' b so n s :=
  ⟨Nat.lt_of_lt_of_le h.lt hb.size, (hb.cell (p := ⟨b, 0, none⟩) h.lt).trans h.c0, (hb.cell (p := ⟨b, 1, none⟩) h.lt).trans h.c1, (hb.cell (p := ⟨b, 2, none⟩) h.lt).trans h.c2⟩
theorem Box.al {W : World} {b : Nat} {so n : Int} {s : ByteArray} (h : Box W b so n s) (o : Obj) : Box (W.alloc o) b so n s := h.keep ((Below.refl _ _).alloc (Nat.le_refl _) o)
theorem Box.new (W : World) (so n : Int) (s : ByteArray) (t : TypeId) : Box (W.alloc (.cells #[.int .i64 so, .int .i64 n, .string s] t)) W.heap.size so n s :=
  ⟨by simp, by go_cell, by go_cell, by go_cell⟩
theorem Box.facts {W : World} {b : Nat} {so n : Int} {s : ByteArray} (h : Box W b so n s) : (W.cell? ⟨b, 0, none⟩ = some (.int .i64 so) ∧ W.cell? ⟨b, 1, none⟩ = some (.int .i64 n) ∧ W.cell? ⟨b, 2, none⟩ = some (.string s)) ∧ (∀ o, (W.alloc o).cell? ⟨b, 0, none⟩ = some (.int .i64 so)) ∧ (∀ o, (W.alloc o).cell? ⟨b, 1, none⟩ = some (.int .i64 n)) ∧ (∀ o, (W.alloc o).cell? ⟨b, 2, none⟩ = some (.string s)) :=
  ⟨⟨h.c0, h.c1, h.c2⟩, fun o => (h.al o).c0, fun o => (h.al o).c1, fun o => (h.al o).c2⟩

theorem below_dn {B : Nat} {a w : World} (h : Below B a w) : ∀ q, Below B a (w.drewN q)
  | 0 => h
  | q + 1 => (below_dn h q).drew
end Go.Proofs.YtfmegfgmkeicnaaDoor

/-
  values.Length and values.Joined of texts, as letters; utf8.ValidString's contract is a hypothesis here.
-/
namespace Go.Proofs.YtfmegfgmkeicnaaDoor
open Go.RowKit Go.Shelf
variable (Tabs : World → Prop)

/-- is it UTF-8? -/
def vD (s : ByteArray) : Bool := Lib.validD s.data.toList

theorem argZ_zero (b : Bool) : argZ b = 0 ↔ b = true := by cases b <;> simp [argZ]
theorem text_zero (V : ByteArray → Bool) (n : Int) (s : ByteArray) : textZ V n s = 0 ↔ n = 0 ∧ s.size ≤ 100 ∧ V s = true := by
  unfold textZ
  by_cases hn : n = 0
  · by_cases hl : 100 < s.size
    · simp [hn, hl]; omega
    · simp [hn, hl, argZ_zero]; omega
  · simp [hn]
theorem chk3 (V : ByteArray → Bool) (n : Int) (s : ByteArray) : chkZ V 3 n s = textZ V n s := rfl
theorem need1_zero (V : ByteArray → Bool) (so n : Int) (s : ByteArray) : needZ1 V so n s = 0 ↔ so = 3 ∧ n = 0 ∧ s.size ≤ 100 ∧ V s = true := by
  unfold needZ1
  by_cases h3 : so = 3
  · subst h3
    rw [chk3, ← text_zero]
    by_cases h : textZ V n s = 0 <;> simp [h]
  · by_cases h : chkZ V so n s = 0 <;> simp [h, h3]
theorem nz2' (a b : Int) : firstNZ [a, b] = 0 ↔ a = 0 ∧ b = 0 := by
  simp only [firstNZ]
  split
  · split <;> simp_all
  · simp_all
theorem need2_zero (V : ByteArray → Bool) (so n : Int) (s : ByteArray) (so' n' : Int) (s' : ByteArray) : needZ2 V so n s so' n' s' = 0 ↔ needZ1 V so n s = 0 ∧ needZ1 V so' n' s' = 0 := by
  unfold needZ2 needZ1
  have hz := nz2' (chkZ V so n s) (chkZ V so' n' s')
  by_cases h : chkZ V so n s = 0
  · by_cases h' : chkZ V so' n' s' = 0
    · rw [hz.2 ⟨h, h'⟩, h, h']
      by_cases q : so = 3 <;> by_cases q' : so' = 3 <;> simp [q, q']
    · have hn : firstNZ [chkZ V so n s, chkZ V so' n' s'] ≠ 0 := fun e => h' (hz.1 e).2
      simp [hn, h']
  · have hn : firstNZ [chkZ V so n s, chkZ V so' n' s'] ≠ 0 := fun e => h (hz.1 e).1
    simp [hn, h]

/-- bytes as a string -/
def str (rs : List Nat) : ByteArray := ⟨(enc rs).toArray⟩
theorem str_list (rs : List Nat) : (str rs).data.toList = enc rs := by simp [str]
theorem str_size (rs : List Nat) : (str rs).size = (enc rs).length := by rw [size_list, str_list]
theorem str_of (s : ByteArray) (rs : List Nat) (h : s.data.toList = enc rs) : s = str rs := by
  apply ByteArray.ext
  apply Array.toList_inj.1
  rw [str_list, h]
theorem str_vD (rs : List Nat) (h : ∀ r ∈ rs, IsR r) : vD (str rs) = true := by unfold vD; rw [str_list]; exact valid_enc rs h
theorem str_need (rs : List Nat) (h : ∀ r ∈ rs, IsR r) (hl : (enc rs).length ≤ 100) : needZ1 vD 3 0 (str rs) = 0 := (need1_zero _ _ _ _).2 ⟨rfl, rfl, by rw [str_size]; exact hl, str_vD rs h⟩
theorem str_all (s : ByteArray) (h : vD s = true) : ∃ rs : List Nat, (∀ r ∈ rs, IsR r) ∧ s = str rs := by
  obtain ⟨rs, h1, h2⟩ := enc_of_valid _ s.data.toList (Nat.le_refl _) h
  exact ⟨rs, h1, str_of s rs h2⟩

end Go.Proofs.YtfmegfgmkeicnaaDoor

/-
  The contract of values.Order, for every two values: what it tells, and that nothing old has turned; utf8.ValidString's and strings.Compare's contracts are hypotheses here.
-/
namespace Go.Proofs.YtfmegfgmkeicnaaDoor
open Go.RowKit
variable (V : ByteArray → Bool) (Tabs : World → Prop)
/-- what values.Order tells -/
def ordZ (so n : Int) (s : ByteArray) (so' n' : Int) (s' : ByteArray) : Int := firstNZ [cmpZ so so', cmpZ n n', Lib.compareBytes s.data.toList s'.data.toList]

end Go.Proofs.YtfmegfgmkeicnaaDoor
