/-
  The contracts of types.sortWord, IsVar, areLabels, isIdle and isPart, each for every input.
-/
import Derived.Test.YtkacnpgokghhcaaGreatDoorKa
import Derived.Test.YtkacnpgokghhcaaGreatDoorXf
import Derived.Deep.LoopGhost
namespace Go.Proofs.YtkacnpgokghhcaaGreatDoor
open Go.RowKit Go.Shelf
theorem hideK {p : Prop} (h : p) : Hid p := h

/-- how a sort is written -/
def swB (z : Int) : ByteArray := if z = 1 then ⟨#[105, 110, 116]⟩ else if z = 2 then ⟨#[98, 111, 111, 108]⟩ else if z = 3 then ⟨#[116, 101, 120, 116]⟩ else ⟨#[]⟩
def isVr (l : List UInt8) : Bool := isNm l && (!decide (l = [101, 110, 100]) && !decide (l = [114, 101, 99]))
/-- one text is not above another -/
def leB (a b : ByteArray) : Bool := Op.bytesLess a.toList b.toList || (a.toList == b.toList)
/-- what stands at place k of labels is a name, and above the one ahead -/
def labAt (ls : List ByteArray) (k : Nat) : Bool := isNm (ls.getD k ⟨#[]⟩).data.toList && !(decide (0 < k) && leB (ls.getD k ⟨#[]⟩) (ls.getD (k - 1) ⟨#[]⟩))
def labsOK (ls : List ByteArray) : Bool := decide (1 ≤ ls.length ∧ ls.length ≤ 6) && (List.range ls.length).all (labAt ls)
theorem getD_at (ls : List ByteArray) (k : Nat) (h : k < ls.length) : ls.getD k ⟨#[]⟩ = ls[k] := by rw [List.getD, List.getElem?_eq_getElem h]; rfl
theorem labs_no (ls : List ByteArray) (k : Nat) (hk : k < ls.length) (h : labAt ls k = false) : labsOK ls = false := by
  unfold labsOK
  rw [Bool.and_eq_false_iff]
  right
  rw [List.all_eq_false]
  exact ⟨k, by simpa using hk, by simp [h]⟩
theorem labs_yes (ls : List ByteArray) (h1 : 1 ≤ ls.length) (h6 : ls.length ≤ 6) (h : ∀ j, j < ls.length → labAt ls j = true) : labsOK ls = true := by
  unfold labsOK
  rw [Bool.and_eq_true]
  refine ⟨by simp [h1, h6], ?_⟩
  rw [List.all_eq_true]
  intro j hj
  exact h j (by simpa using hj)
/-- behind at most n Recs there is a Var -/
def idleN : Nat → Ty → Bool
  | 0, t => decide (t.kind = 9)
  | n + 1, t => if t.kind = 8 then (if h : t.kids.length = 1 then idleN n (t.kids[0]'(by omega)) else false) else decide (t.kind = 9)
theorem idle_stop (n : Nat) (t : Ty) (h : t.kind ≠ 8) : idleN n t = decide (t.kind = 9) := by
  cases n with
  | zero => rfl
  | succ n => rw [idleN, if_neg h]
theorem idle_odd (n : Nat) (t : Ty) (h : t.kind = 8) (hk : t.kids.length ≠ 1) : idleN n t = false := by
  cases n with
  | zero => simp [idleN, h]
  | succ n => rw [idleN, if_pos h, dif_neg hk]
theorem idle_go (n : Nat) (t : Ty) (h : t.kind = 8) (hk : t.kids.length = 1) : idleN (n + 1) t = idleN n (t.kids[0]'(by omega)) := by
  rw [idleN, if_pos h, dif_pos hk]
/-- a type lies in a block that may be written -/
structure TW (w : World) (b : Nat) (t : Ty) (al : Option Addr) (cl : Nat) (ak : Option Addr) (ck : Nat) (W : World) : Prop where
  lt : b < W.heap.size
  ty : TyAt W b 0 t al cl ak ck
  fz : ∀ j, j < 5 → W.frozen? ⟨b, j, none⟩ = false
  bl : Below w.heap.size w W
def st5 (W : World) (b o : Nat) (v0 v1 v2 v3 v4 : Value) : World :=
  ((((W.setCell ⟨b, o, none⟩ v0).setCell ⟨b, o + 1, none⟩ v1).setCell ⟨b, o + 2, none⟩ v2).setCell ⟨b, o + 3, none⟩ v3).setCell ⟨b, o + 4, none⟩ v4
theorem st5_other (W : World) (b o : Nat) (v0 v1 v2 v3 v4 : Value) (b' o' : Nat) (h : b' ≠ b ∨ o' < o ∨ o + 5 ≤ o') : (st5 W b o v0 v1 v2 v3 v4).cell? ⟨b', o', none⟩ = W.cell? ⟨b', o', none⟩ := by
  unfold st5
  have hne : ∀ j, j < 5 → (⟨b, o + j, none⟩ : Addr) ≠ ⟨b', o', none⟩ := by
    intro j hj e
    simp only [Addr.mk.injEq] at e
    omega
  rw [World.cell?_setCell_other _ _ _ _ (hne 4 (by omega)), World.cell?_setCell_other _ _ _ _ (hne 3 (by omega)), World.cell?_setCell_other _ _ _ _ (hne 2 (by omega)), World.cell?_setCell_other _ _ _ _ (hne 1 (by omega))]
  exact World.cell?_setCell_other _ _ _ _ (hne 0 (by omega))
theorem st5_at (W : World) (b o : Nat) (t : Ty) (al : Option Addr) (cl : Nat) (ak : Option Addr) (ck : Nat) (h : ∀ j, j < 5 → ∃ v, W.cell? ⟨b, o + j, none⟩ = some v) : TyAt (st5 W b o (.int .i64 t.kind) (.int .i64 t.so) (.string t.name) (.slice al t.labels.length cl) (.slice ak t.kids.length ck)) b o t al cl ak ck := by
  obtain ⟨v0, h0⟩ := h 0 (by omega)
  obtain ⟨v1, h1⟩ := h 1 (by omega)
  obtain ⟨v2, h2⟩ := h 2 (by omega)
  obtain ⟨v3, h3⟩ := h 3 (by omega)
  obtain ⟨v4, h4⟩ := h 4 (by omega)
  rw [Nat.add_zero] at h0
  unfold st5
  constructor <;> go_cell
theorem st5_frozen (W : World) (b o : Nat) (v0 v1 v2 v3 v4 : Value) (p : Addr) : (st5 W b o v0 v1 v2 v3 v4).frozen? p = W.frozen? p := by
  unfold st5; simp only [World.frozen?_setCell]
theorem st5_size (W : World) (b o : Nat) (v0 v1 v2 v3 v4 : Value) : (st5 W b o v0 v1 v2 v3 v4).heap.size = W.heap.size := by
  unfold st5; simp
theorem st5_below {w W : World} (b o : Nat) (v0 v1 v2 v3 v4 : Value) (h : Below w.heap.size w W) (hb : w.heap.size ≤ b) : Below w.heap.size w (st5 W b o v0 v1 v2 v3 v4) := by
  unfold st5
  exact ((((h.setCell (p := ⟨b, o, none⟩) hb _).setCell (p := ⟨b, o + 1, none⟩) hb _).setCell (p := ⟨b, o + 2, none⟩) hb _).setCell (p := ⟨b, o + 3, none⟩) hb _).setCell (p := ⟨b, o + 4, none⟩) hb _
theorem TW.put {w : World} {b : Nat} {u v : Ty} {al : Option Addr} {cl : Nat} {ak : Option Addr} {ck : Nat} {al2 : Option Addr} {cl2 : Nat} {ak2 : Option Addr} {ck2 : Nat} {W : World} (h : TW w b u al cl ak ck W) (hb : w.heap.size ≤ b) :
    TW w b v al2 cl2 ak2 ck2 (st5 W b 0 (.int .i64 v.kind) (.int .i64 v.so) (.string v.name) (.slice al2 v.labels.length cl2) (.slice ak2 v.kids.length ck2)) := by
  refine ⟨by rw [st5_size]; exact h.lt, st5_at W b 0 v al2 cl2 ak2 ck2 (fun j hj => ?_), fun j hj => by rw [st5_frozen]; exact h.fz j hj, st5_below b 0 _ _ _ _ _ h.bl hb⟩
  obtain ⟨c0, c1, c2, c3, c4⟩ := h.ty
  match j, hj with
  | 0, _ => exact ⟨_, c0⟩
  | 1, _ => exact ⟨_, c1⟩
  | 2, _ => exact ⟨_, c2⟩
  | 3, _ => exact ⟨_, c3⟩
  | 4, _ => exact ⟨_, c4⟩
/-- a part of a type has just what its kind has -/
def partT (t : Ty) : Bool :=
  if t.kind = 1 then decide (t.so = 0) && t.name.toList.isEmpty && decide (t.labels.length = 0) && decide (t.kids.length = 0)
  else if t.kind = 2 ∨ t.kind = 3 then decide (t.so = 1 ∨ t.so = 2 ∨ t.so = 3) && t.name.toList.isEmpty && decide (t.labels.length = 0) && decide (t.kids.length = 1)
  else if t.kind = 4 ∨ t.kind = 5 then decide (t.so = 0) && t.name.toList.isEmpty && decide (t.labels.length = 0) && decide (t.kids.length = 2)
  else if t.kind = 6 ∨ t.kind = 7 then decide (t.so = 0) && t.name.toList.isEmpty && labsOK t.labels && decide (t.kids.length = t.labels.length)
  else if t.kind = 8 then decide (t.so = 0) && isVr t.name.data.toList && decide (t.labels.length = 0) && decide (t.kids.length = 1)
  else if t.kind = 9 then decide (t.so = 0) && isVr t.name.data.toList && decide (t.labels.length = 0) && decide (t.kids.length = 0)
  else false
theorem swB_empty (z : Int) : (swB z).toList.isEmpty = !decide (z = 1 ∨ z = 2 ∨ z = 3) := by
  rw [empty_toList]
  unfold swB
  by_cases h1 : z = 1
  · simp [h1]
  by_cases h2 : z = 2
  · simp [h2]
  by_cases h3 : z = 3
  · simp [h3]
  simp [h1, h2, h3]
theorem len_beq (n m : Nat) : decide (n = m) = ((n : Int) == (m : Int)) := by
  rw [Bool.eq_iff_iff]; simp; omega
theorem keep5 {w w1 : World} {v0 v1 v2 v3 v4 : Value} {T : TypeId} (hb : Below (w.alloc (.cells #[v0, v1, v2, v3, v4] T)).heap.size (w.alloc (.cells #[v0, v1, v2, v3, v4] T)) w1) :
    w1.cell? ⟨w.heap.size, 0, none⟩ = some v0 ∧ w1.cell? ⟨w.heap.size, 1, none⟩ = some v1 ∧ w1.cell? ⟨w.heap.size, 2, none⟩ = some v2 ∧ w1.cell? ⟨w.heap.size, 3, none⟩ = some v3 ∧ w1.cell? ⟨w.heap.size, 4, none⟩ = some v4 ∧ Below w.heap.size w w1 := by
  obtain ⟨hc1, _⟩ := bcell hb
  exact ⟨(hc1 _ 0 (by simp)).trans (by go_cell), (hc1 _ 1 (by simp)).trans (by go_cell), (hc1 _ 2 (by simp)).trans (by go_cell), (hc1 _ 3 (by simp)).trans (by go_cell), (hc1 _ 4 (by simp)).trans (by go_cell), ((Below.refl _ _).alloc (Nat.le_refl _) _).trans (hb.mono (by simp))⟩
theorem part_1 (so : Int) (nm : ByteArray) (ls : List ByteArray) (ks : List Ty) : partT ⟨1, so, nm, ls, ks⟩ = (((so == 0) && nm.toList.isEmpty) && ((ls.length : Int) == 0) && ((ks.length : Int) == 0)) := by
  rw [Bool.eq_iff_iff]; simp [partT, and_assoc]
theorem part_2 (so : Int) (nm : ByteArray) (ls : List ByteArray) (ks : List Ty) : partT ⟨2, so, nm, ls, ks⟩ = (((!(swB so).toList.isEmpty) && nm.toList.isEmpty) && ((ls.length : Int) == 0) && ((ks.length : Int) == 1)) := by
  rw [Bool.eq_iff_iff]; simp [swB_empty, partT, and_assoc]
  all_goals (intros; omega)
theorem part_3 (so : Int) (nm : ByteArray) (ls : List ByteArray) (ks : List Ty) : partT ⟨3, so, nm, ls, ks⟩ = (((!(swB so).toList.isEmpty) && nm.toList.isEmpty) && ((ls.length : Int) == 0) && ((ks.length : Int) == 1)) := by
  rw [Bool.eq_iff_iff]; simp [swB_empty, partT, and_assoc]
  all_goals (intros; omega)
theorem part_4 (so : Int) (nm : ByteArray) (ls : List ByteArray) (ks : List Ty) : partT ⟨4, so, nm, ls, ks⟩ = (((so == 0) && nm.toList.isEmpty) && ((ls.length : Int) == 0) && ((ks.length : Int) == 2)) := by
  rw [Bool.eq_iff_iff]; simp [partT, and_assoc]
  all_goals (intros; omega)
theorem part_5 (so : Int) (nm : ByteArray) (ls : List ByteArray) (ks : List Ty) : partT ⟨5, so, nm, ls, ks⟩ = (((so == 0) && nm.toList.isEmpty) && ((ls.length : Int) == 0) && ((ks.length : Int) == 2)) := by
  rw [Bool.eq_iff_iff]; simp [partT, and_assoc]
  all_goals (intros; omega)
theorem part_6 (so : Int) (nm : ByteArray) (ls : List ByteArray) (ks : List Ty) : partT ⟨6, so, nm, ls, ks⟩ = (((so == 0) && nm.toList.isEmpty) && (labsOK ls) && ((ks.length : Int) == (ls.length : Int))) := by
  rw [Bool.eq_iff_iff]; simp [partT, and_assoc]
  all_goals (intros; omega)
theorem part_7 (so : Int) (nm : ByteArray) (ls : List ByteArray) (ks : List Ty) : partT ⟨7, so, nm, ls, ks⟩ = (((so == 0) && nm.toList.isEmpty) && (labsOK ls) && ((ks.length : Int) == (ls.length : Int))) := by
  rw [Bool.eq_iff_iff]; simp [partT, and_assoc]
  all_goals (intros; omega)
theorem part_8 (so : Int) (nm : ByteArray) (ls : List ByteArray) (ks : List Ty) : partT ⟨8, so, nm, ls, ks⟩ = (((so == 0) && isVr nm.data.toList) && ((ls.length : Int) == 0) && ((ks.length : Int) == 1)) := by
  rw [Bool.eq_iff_iff]; simp [partT, and_assoc]
  all_goals (intros; omega)
theorem part_9 (so : Int) (nm : ByteArray) (ls : List ByteArray) (ks : List Ty) : partT ⟨9, so, nm, ls, ks⟩ = (((so == 0) && isVr nm.data.toList) && ((ls.length : Int) == 0) && ((ks.length : Int) == 0)) := by
  rw [Bool.eq_iff_iff]; simp [partT, and_assoc]

end Go.Proofs.YtkacnpgokghhcaaGreatDoor
