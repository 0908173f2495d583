/-
  Texts as lists of bytes and back; a row of bytes that a call owns turned into a text; what strconv.FormatInt tells, as a hypothesis.
-/
import Derived.Test.YthamkbahiidenaaDoorJx
import Derived.Test.YthamkbahiidenaaDoorQm
import Derived.Laws.BytesString
namespace Go.Proofs.YthamkbahiidenaaDoor
open Go.RowKit Go.Shelf
variable (Tabs : World → Prop)

def bs (l : List UInt8) : ByteArray := ⟨l.toArray⟩
theorem bs_list (l : List UInt8) : (bs l).data.toList = l := by simp [bs]
theorem bs_of (s : ByteArray) : bs s.data.toList = s := by
  apply ByteArray.ext; apply Array.toList_inj.1; rw [bs_list]
theorem bs_inj {s : ByteArray} {l : List UInt8} (h : s.data.toList = l) : s = bs l := by rw [← h, bs_of]

theorem str_ne {s t : ByteArray} (h : s ≠ t) : (s.toList == t.toList) = false := by
  rw [beq_eq_false_iff_ne]
  intro e
  rw [ByteArray.toList_eq, ByteArray.toList_eq] at e
  exact h (ByteArray.ext (Array.toList_inj.1 e))

theorem foldl_push : ∀ (t : List UInt8) (r : ByteArray), ((t.map fun b : UInt8 => (b.toNat : Int)).foldl (fun r n => r.push (UInt8.ofNat n.toNat)) r).data.toList = r.data.toList ++ t
  | [], r => by simp
  | b :: t, r => by
    simp only [List.map_cons, List.foldl_cons]
    rw [foldl_push t]
    simp

theorem conv_row {B : Nat} {v : Value} {t : List UInt8} {w : World} (h : w.ownsRowF B 5 1 v t.length (Lib.byteCells t)) : (convert 43 9 v).run Tryd.prog w = .ok (.string ⟨t.toArray⟩) w := by
  rcases h.2 with ⟨rfl, h0⟩ | ⟨g, cap, cur, fz, rfl, _⟩
  · have : t = [] := List.eq_nil_of_length_eq_zero h0
    subst this
    rw [run_convert_bytes_string (P := Tryd.prog) w 43 9 5 _ _ _ Tryd.underlying43 Tryd.underlying5 Tryd.underlying9]
    rfl
  · rw [run_convert_bytes_string (P := Tryd.prog) w 43 9 5 _ _ _ Tryd.underlying43 Tryd.underlying5 Tryd.underlying9]
    have hc := h.cells (g := g) rfl
    have hl : (loadCells ⟨g, 0, none⟩ t.length).run Tryd.prog w = .ok ((t.map fun b : UInt8 => (b.toNat : Int)).map (Value.int .u8)).toArray w := by
      rw [run_loadCells w ⟨g, 0, none⟩ t.length (fun j => .int .u8 ((t.getD j 0).toNat : Int)) (fun j hj => hc j _ (by simp [Lib.byteCells, List.getD, List.getElem?_eq_getElem hj]))]
      congr 2
      apply List.ext_getElem
      · simp
      · intro i h1 h2
        simp at h1
        simp [List.getD, List.getElem?_eq_getElem h1]
    rw [run_bytesToString w ⟨g, 0, none⟩ t.length cap _ hl]
    congr 2
    apply ByteArray.ext
    apply Array.toList_inj.1
    rw [foldl_push]
    rfl
end Go.Proofs.YthamkbahiidenaaDoor
