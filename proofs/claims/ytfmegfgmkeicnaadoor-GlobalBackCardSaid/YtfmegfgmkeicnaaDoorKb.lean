/-
  The contracts of types.sortWord, IsVar, areLabels, isIdle and isPart, each for every input.
-/
import Derived.Test.YtfmegfgmkeicnaaDoorKa
import Derived.Test.YtfmegfgmkeicnaaDoorEo
import Derived.Deep.LoopGhost
namespace Go.Proofs.YtfmegfgmkeicnaaDoor
open Go.RowKit Go.Shelf
theorem hideK {p : Prop} (h : p) : Hid p := h
/-- what of a type fits into a word, whatever room there is behind its lists -/
structure TyBw (t : Ty) : Prop where
  name : t.name.size ≤ 9223372036854775807
  labs : ∀ l ∈ t.labels, l.size ≤ 9223372036854775807
  labels : t.labels.length ≤ 9223372036854775807
  kids : t.kids.length ≤ 9223372036854775807
theorem TyBd.w {t : Ty} {cl ck : Nat} (h : TyBd t cl ck) : TyBw t := ⟨h.name, h.labs, Nat.le_trans h.labels h.cl, Nat.le_trans h.kids h.ck⟩

/-- how a sort is written -/
def swB (z : Int) : ByteArray := if z = 1 then ⟨#[105, 110, 116]⟩ else if z = 2 then ⟨#[98, 111, 111, 108]⟩ else if z = 3 then ⟨#[116, 101, 120, 116]⟩ else ⟨#[]⟩
def isVr (l : List UInt8) : Bool := isNm l && (!decide (l = [101, 110, 100]) && !decide (l = [114, 101, 99]))
set_option maxHeartbeats 400000 in
theorem sortWord_any (z : Int) (w : World) :
    Calls Tryd.prog 53 #[.int .i64 z] w fun e w' => e = .returned (.string (swB z)) ∧ w' = w := by
  unfold swB
  by_cases h1 : z = 1
  · subst h1
    go_enter Tryd.func53, Tryd.ntmps53
    go_wp2_with fail
    go_ret
    exact ⟨rfl, rfl⟩
  by_cases h2 : z = 2
  · subst h2
    go_enter Tryd.func53, Tryd.ntmps53
    go_wp2_with fail
    go_ret
    exact ⟨rfl, rfl⟩
  by_cases h3 : z = 3
  · subst h3
    go_enter Tryd.func53, Tryd.ntmps53
    go_wp2_with fail
    go_ret
    exact ⟨rfl, rfl⟩
  rw [if_neg h1, if_neg h2, if_neg h3]
  have b1 : (z == 1) = false := by simpa using h1
  have b2 : (z == 2) = false := by simpa using h2
  have b3 : (z == 3) = false := by simpa using h3
  go_enter Tryd.func53, Tryd.ntmps53
  go_wp2_with fail
  go_ret
  exact ⟨rfl, rfl⟩

set_option maxHeartbeats 400000 in
theorem isVar_any (s : ByteArray) (w : World) (hs : s.size ≤ 9223372036854775807) :
    Calls Tryd.prog 60 #[.string s] w fun e w' => e = .returned (.bool (isVr s.data.toList)) ∧ Below w.heap.size w w' := by
  have cN := isName_any s w hs
  unfold isVr
  have b1 : (s.toList == [101, 110, 100]) = decide (s.data.toList = [101, 110, 100]) := by rw [beqL]
  have b2 : (s.toList == [114, 101, 99]) = decide (s.data.toList = [114, 101, 99]) := by rw [beqL]
  generalize isNm s.data.toList = q at cN ⊢
  generalize decide (s.data.toList = [101, 110, 100]) = q1 at b1 ⊢
  generalize decide (s.data.toList = [114, 101, 99]) = q2 at b2 ⊢
  cases q <;> cases q1 <;> cases q2
  all_goals
    go_enter Tryd.func60, Tryd.ntmps60
    go_wp2_with (go_at_call 95; refine cN.mono ?_; rintro e w1 ⟨rfl, hb⟩)
    go_ret
    exact ⟨rfl, hb⟩

/-- one text is not above another -/
def leB (a b : ByteArray) : Bool := Op.bytesLess a.toList b.toList || (a.toList == b.toList)
/-- what stands at place k of labels is a name, and above the one ahead -/
def labAt (ls : List ByteArray) (k : Nat) : Bool := isNm (ls.getD k ⟨#[]⟩).data.toList && !(decide (0 < k) && leB (ls.getD k ⟨#[]⟩) (ls.getD (k - 1) ⟨#[]⟩))
def labsOK (ls : List ByteArray) : Bool := decide (1 ≤ ls.length ∧ ls.length ≤ 6) && (List.range ls.length).all (labAt ls)
theorem getD_at (ls : List ByteArray) (k : Nat) (h : k < ls.length) : ls.getD k ⟨#[]⟩ = ls[k] := by rw [List.getD, List.getElem?_eq_getElem h]; rfl
theorem labs_no (ls : List ByteArray) (k : Nat) (hk : k < ls.length) (h : labAt ls k = false) : labsOK ls = false := by
  unfold labsOK
  rw [Bool.and_eq_false_iff]
  right
  rw [List.all_eq_false]
  exact ⟨k, by simpa using hk, by simp [h]⟩
theorem labs_yes (ls : List ByteArray) (h1 : 1 ≤ ls.length) (h6 : ls.length ≤ 6) (h : ∀ j, j < ls.length → labAt ls j = true) : labsOK ls = true := by
  unfold labsOK
  rw [Bool.and_eq_true]
  refine ⟨by simp [h1, h6], ?_⟩
  rw [List.all_eq_true]
  intro j hj
  exact h j (by simpa using hj)
set_option maxHeartbeats 1000000 in
theorem rise_any (ls : List ByteArray) (al : Option Addr) (cl : Nat) (w : World) (h6 : 1 ≤ ls.length ∧ ls.length ≤ 6) (hbd : ∀ l ∈ ls, l.size ≤ 9223372036854775807) (hl : ls.length ≤ 9223372036854775807) (hla : LA w w.heap.size ls al) :
    Calls Tryd.prog 122 #[.slice al ls.length cl] w fun e w' => e = .returned (.bool (labsOK ls)) ∧ Below w.heap.size w w' := by
  · obtain ⟨h1, h6⟩ := h6
    have z1 : ¬ (ls.length : Int) < 1 := by omega
    have z6 : (ls.length : Int) ≤ 6 := by omega
    rcases hla with hla | ⟨b, o, rfl, hbB, hc⟩
    · simp at hla; subst hla; simp at h1
    · have hcell : ∀ (W : World) (k : Nat) (hk : k < ls.length), Below w.heap.size w W → W.cell? ⟨b, o + k, none⟩ = some (.string ls[k]) := fun W k hk hb => (hb.cell (p := ⟨b, o + k, none⟩) hbB).trans (by have := hc k (by simpa using hk); simpa using this)
      have HC := hideK hcell
      have HY := hideK (labs_yes ls h1 h6)
      have HBD := hideK hbd
      clear hcell hc hbd
      go_enter Tryd.func122, Tryd.ntmps122
      go_wp2_with fail
      go_loopw [7] (fun i wr => ∃ k : Nat, k ≤ ls.length ∧ i = .int .i64 (k : Int) ∧ (∀ j, j < k → labAt ls j = true) ∧ Below w.heap.size w wr) (fun i _ => ls.length - (intOf i).toNat)
      case atStart => exact ⟨0, Nat.zero_le _, rfl, fun j hj => by omega, Below.refl _ _⟩
      case round =>
        obtain ⟨k, hk, rfl, hall, hb⟩ := hrel
        have HALL := hideK hall
        have HB := hideK hb
        clear hall hb
        by_cases hlt : k < ls.length
        · have hltz : (k : Int) < (ls.length : Int) := by omega
          have ck := HC.out wr k hlt HB.out
          have cN := isName_any ls[k] wr (HBD.out _ (List.getElem_mem hlt))
          have hla := labs_no ls k hlt
          have hat : labAt ls k = (isNm ls[k].data.toList && !(decide (0 < k) && leB ls[k] (ls.getD (k - 1) ⟨#[]⟩))) := by
            unfold labAt; rw [getD_at ls k hlt]
          have HNO := hideK hla
          have HAT := hideK hat
          clear hla hat
          have hkz : (k : Int) ≤ 6 := by omega
          generalize hq : isNm ls[k].data.toList = q at cN
          cases q
          · have HF : Hid (labAt ls k = false) := by show _ = _; rw [HAT.out, hq]; rfl
            clear hq
            go_wp2_with fail
            refine cN.mono ?_
            rintro e w1 ⟨rfl, hb1⟩
            go_wp2_with fail
            go_ret
            exact ⟨by rw [HNO.out HF.out]; rfl, HB.out.trans (hb1.mono HB.out.size)⟩
          · have HQ := hideK hq
            clear hq
            by_cases h0 : k = 0
            · have kz : ¬ (0 : Int) < (k : Int) := by omega
              have HF : Hid (∀ j, j < k + 1 → labAt ls j = true) := fun j hj => by
                obtain rfl : j = k := by omega
                subst h0
                rw [HAT.out, HQ.out]; rfl
              clear h0
              go_wp2_with fail
              refine cN.mono ?_
              rintro e w1 ⟨rfl, hb1⟩
              go_wp2_with fail
              go_roundw
              case rel => exact ⟨k + 1, by omega, by go_num, HF.out, HB.out.trans (hb1.mono HB.out.size)⟩
              case measure => simp [intOf]; omega
            · obtain ⟨m, rfl⟩ : ∃ m, k = m + 1 := ⟨k - 1, by omega⟩
              have hm : m < ls.length := by omega
              have hgd : ls.getD (m + 1 - 1) ⟨#[]⟩ = ls[m] := by rw [Nat.add_sub_cancel]; exact getD_at ls m hm
              generalize hr : leB ls[m + 1] ls[m] = r
              have HF : Hid (labAt ls (m + 1) = !r) := by show _ = _; rw [HAT.out, HQ.out, hgd, hr]; simp
              have hr2 := hr
              unfold leB at hr2
              clear hr hgd h0
              have hmz : (0 : Int) < (m : Int) + 1 := by omega
              cases r
              · go_wp2_with fail
                refine cN.mono ?_
                rintro e w1 ⟨rfl, hb1⟩
                have HB1 := hideK (HB.out.trans (hb1.mono HB.out.size))
                have cm := HC.out w1 m hm HB1.out
                clear hb1
                go_wp2_with fail
                go_roundw
                case rel => exact ⟨m + 1 + 1, by omega, by go_num, fun j hj => by
                  by_cases hj2 : j < m + 1
                  · exact HALL.out j hj2
                  · obtain rfl : j = m + 1 := by omega
                    rw [HF.out]; rfl, HB1.out⟩
                case measure => simp [intOf]; omega
              · go_wp2_with fail
                refine cN.mono ?_
                rintro e w1 ⟨rfl, hb1⟩
                have HB1 := hideK (HB.out.trans (hb1.mono HB.out.size))
                have cm := HC.out w1 m hm HB1.out
                clear hb1
                go_wp2_with fail
                go_ret
                exact ⟨by rw [HNO.out HF.out]; rfl, HB1.out⟩
        · have hltz : ¬ (k : Int) < (ls.length : Int) := by omega
          have HT : Hid (labsOK ls = true) := HY.out (fun j hj => HALL.out j (by omega))
          go_wp2_with fail
          go_ret
          exact ⟨by rw [HT.out]; rfl, HB.out⟩
set_option maxHeartbeats 1000000 in
theorem areLabels_any (ls : List ByteArray) (al : Option Addr) (cl : Nat) (w : World) (hbd : ∀ l ∈ ls, l.size ≤ 9223372036854775807) (hl : ls.length ≤ 9223372036854775807) (hla : LA w w.heap.size ls al) :
    Calls Tryd.prog 92 #[.slice al ls.length cl] w fun e w' => e = .returned (.bool (labsOK ls)) ∧ Below w.heap.size w w' := by
  by_cases h6 : 1 ≤ ls.length ∧ ls.length ≤ 6
  · have c := rise_any ls al cl w h6 hbd hl hla
    obtain ⟨h1, h6⟩ := h6
    have z1 : (1 : Int) ≤ (ls.length : Int) := by omega
    have z6 : (ls.length : Int) ≤ 6 := by omega
    clear hla hbd
    generalize labsOK ls = q at c ⊢
    go_enter Tryd.func92, Tryd.ntmps92
    go_wp2_with fail
    refine c.mono ?_
    rintro e w1 ⟨rfl, hb1⟩
    go_wp2_with fail
    go_ret
    exact ⟨rfl, hb1⟩
  · have hno : labsOK ls = false := by unfold labsOK; rw [Bool.and_eq_false_iff]; left; simpa using h6
    rw [hno]
    clear hno
    by_cases h1 : ls.length < 1
    · have z1 : ¬ (1 : Int) ≤ (ls.length : Int) := by omega
      clear hla hbd
      go_enter Tryd.func92, Tryd.ntmps92
      go_wp2_with fail
      go_ret
      exact ⟨rfl, Below.refl _ _⟩
    · have z1 : (1 : Int) ≤ (ls.length : Int) := by omega
      have z2 : ¬ (ls.length : Int) ≤ 6 := by omega
      clear hla hbd
      go_enter Tryd.func92, Tryd.ntmps92
      go_wp2_with fail
      go_ret
      exact ⟨rfl, Below.refl _ _⟩

/-- behind at most n Recs there is a Var -/
def idleN : Nat → Ty → Bool
  | 0, t => decide (t.kind = 9)
  | n + 1, t => if t.kind = 8 then (if h : t.kids.length = 1 then idleN n (t.kids[0]'(by omega)) else false) else decide (t.kind = 9)
theorem idle_stop (n : Nat) (t : Ty) (h : t.kind ≠ 8) : idleN n t = decide (t.kind = 9) := by
  cases n with
  | zero => rfl
  | succ n => rw [idleN, if_neg h]
theorem idle_odd (n : Nat) (t : Ty) (h : t.kind = 8) (hk : t.kids.length ≠ 1) : idleN n t = false := by
  cases n with
  | zero => simp [idleN, h]
  | succ n => rw [idleN, if_pos h, dif_neg hk]
theorem idle_go (n : Nat) (t : Ty) (h : t.kind = 8) (hk : t.kids.length = 1) : idleN (n + 1) t = idleN n (t.kids[0]'(by omega)) := by
  rw [idleN, if_pos h, dif_pos hk]
/-- a type lies in a block that may be written -/
structure TW (w : World) (b : Nat) (t : Ty) (al : Option Addr) (cl : Nat) (ak : Option Addr) (ck : Nat) (W : World) : Prop where
  lt : b < W.heap.size
  ty : TyAt W b 0 t al cl ak ck
  fz : ∀ j, j < 5 → W.frozen? ⟨b, j, none⟩ = false
  bl : Below w.heap.size w W
def st5 (W : World) (b o : Nat) (v0 v1 v2 v3 v4 : Value) : World :=
  ((((W.setCell ⟨b, o, none⟩ v0).setCell ⟨b, o + 1, none⟩ v1).setCell ⟨b, o + 2, none⟩ v2).setCell ⟨b, o + 3, none⟩ v3).setCell ⟨b, o + 4, none⟩ v4
theorem st5_other (W : World) (b o : Nat) (v0 v1 v2 v3 v4 : Value) (b' o' : Nat) (h : b' ≠ b ∨ o' < o ∨ o + 5 ≤ o') : (st5 W b o v0 v1 v2 v3 v4).cell? ⟨b', o', none⟩ = W.cell? ⟨b', o', none⟩ := by
  unfold st5
  have hne : ∀ j, j < 5 → (⟨b, o + j, none⟩ : Addr) ≠ ⟨b', o', none⟩ := by
    intro j hj e
    simp only [Addr.mk.injEq] at e
    omega
  rw [World.cell?_setCell_other _ _ _ _ (hne 4 (by omega)), World.cell?_setCell_other _ _ _ _ (hne 3 (by omega)), World.cell?_setCell_other _ _ _ _ (hne 2 (by omega)), World.cell?_setCell_other _ _ _ _ (hne 1 (by omega))]
  exact World.cell?_setCell_other _ _ _ _ (hne 0 (by omega))
theorem st5_at (W : World) (b o : Nat) (t : Ty) (al : Option Addr) (cl : Nat) (ak : Option Addr) (ck : Nat) (h : ∀ j, j < 5 → ∃ v, W.cell? ⟨b, o + j, none⟩ = some v) : TyAt (st5 W b o (.int .i64 t.kind) (.int .i64 t.so) (.string t.name) (.slice al t.labels.length cl) (.slice ak t.kids.length ck)) b o t al cl ak ck := by
  obtain ⟨v0, h0⟩ := h 0 (by omega)
  obtain ⟨v1, h1⟩ := h 1 (by omega)
  obtain ⟨v2, h2⟩ := h 2 (by omega)
  obtain ⟨v3, h3⟩ := h 3 (by omega)
  obtain ⟨v4, h4⟩ := h 4 (by omega)
  rw [Nat.add_zero] at h0
  unfold st5
  constructor <;> go_cell
theorem st5_frozen (W : World) (b o : Nat) (v0 v1 v2 v3 v4 : Value) (p : Addr) : (st5 W b o v0 v1 v2 v3 v4).frozen? p = W.frozen? p := by
  unfold st5; simp only [World.frozen?_setCell]
theorem st5_size (W : World) (b o : Nat) (v0 v1 v2 v3 v4 : Value) : (st5 W b o v0 v1 v2 v3 v4).heap.size = W.heap.size := by
  unfold st5; simp
theorem st5_below {w W : World} (b o : Nat) (v0 v1 v2 v3 v4 : Value) (h : Below w.heap.size w W) (hb : w.heap.size ≤ b) : Below w.heap.size w (st5 W b o v0 v1 v2 v3 v4) := by
  unfold st5
  exact ((((h.setCell (p := ⟨b, o, none⟩) hb _).setCell (p := ⟨b, o + 1, none⟩) hb _).setCell (p := ⟨b, o + 2, none⟩) hb _).setCell (p := ⟨b, o + 3, none⟩) hb _).setCell (p := ⟨b, o + 4, none⟩) hb _
theorem TW.put {w : World} {b : Nat} {u v : Ty} {al : Option Addr} {cl : Nat} {ak : Option Addr} {ck : Nat} {al2 : Option Addr} {cl2 : Nat} {ak2 : Option Addr} {ck2 : Nat} {W : World} (h : TW w b u al cl ak ck W) (hb : w.heap.size ≤ b) :
    TW w b v al2 cl2 ak2 ck2 (st5 W b 0 (.int .i64 v.kind) (.int .i64 v.so) (.string v.name) (.slice al2 v.labels.length cl2) (.slice ak2 v.kids.length ck2)) := by
  refine ⟨by rw [st5_size]; exact h.lt, st5_at W b 0 v al2 cl2 ak2 ck2 (fun j hj => ?_), fun j hj => by rw [st5_frozen]; exact h.fz j hj, st5_below b 0 _ _ _ _ _ h.bl hb⟩
  obtain ⟨c0, c1, c2, c3, c4⟩ := h.ty
  match j, hj with
  | 0, _ => exact ⟨_, c0⟩
  | 1, _ => exact ⟨_, c1⟩
  | 2, _ => exact ⟨_, c2⟩
  | 3, _ => exact ⟨_, c3⟩
  | 4, _ => exact ⟨_, c4⟩
/-- a part of a type has just what its kind has -/
def partT (t : Ty) : Bool :=
  if t.kind = 1 then decide (t.so = 0) && t.name.toList.isEmpty && decide (t.labels.length = 0) && decide (t.kids.length = 0)
  else if t.kind = 2 ∨ t.kind = 3 then decide (t.so = 1 ∨ t.so = 2 ∨ t.so = 3) && t.name.toList.isEmpty && decide (t.labels.length = 0) && decide (t.kids.length = 1)
  else if t.kind = 4 ∨ t.kind = 5 then decide (t.so = 0) && t.name.toList.isEmpty && decide (t.labels.length = 0) && decide (t.kids.length = 2)
  else if t.kind = 6 ∨ t.kind = 7 then decide (t.so = 0) && t.name.toList.isEmpty && labsOK t.labels && decide (t.kids.length = t.labels.length)
  else if t.kind = 8 then decide (t.so = 0) && isVr t.name.data.toList && decide (t.labels.length = 0) && decide (t.kids.length = 1)
  else if t.kind = 9 then decide (t.so = 0) && isVr t.name.data.toList && decide (t.labels.length = 0) && decide (t.kids.length = 0)
  else false
theorem swB_empty (z : Int) : (swB z).toList.isEmpty = !decide (z = 1 ∨ z = 2 ∨ z = 3) := by
  rw [empty_toList]
  unfold swB
  by_cases h1 : z = 1
  · simp [h1]
  by_cases h2 : z = 2
  · simp [h2]
  by_cases h3 : z = 3
  · simp [h3]
  simp [h1, h2, h3]
theorem len_beq (n m : Nat) : decide (n = m) = ((n : Int) == (m : Int)) := by
  rw [Bool.eq_iff_iff]; simp; omega
theorem keep5 {w w1 : World} {v0 v1 v2 v3 v4 : Value} {T : TypeId} (hb : Below (w.alloc (.cells #[v0, v1, v2, v3, v4] T)).heap.size (w.alloc (.cells #[v0, v1, v2, v3, v4] T)) w1) :
    w1.cell? ⟨w.heap.size, 0, none⟩ = some v0 ∧ w1.cell? ⟨w.heap.size, 1, none⟩ = some v1 ∧ w1.cell? ⟨w.heap.size, 2, none⟩ = some v2 ∧ w1.cell? ⟨w.heap.size, 3, none⟩ = some v3 ∧ w1.cell? ⟨w.heap.size, 4, none⟩ = some v4 ∧ Below w.heap.size w w1 := by
  obtain ⟨hc1, _⟩ := bcell hb
  exact ⟨(hc1 _ 0 (by simp)).trans (by go_cell), (hc1 _ 1 (by simp)).trans (by go_cell), (hc1 _ 2 (by simp)).trans (by go_cell), (hc1 _ 3 (by simp)).trans (by go_cell), (hc1 _ 4 (by simp)).trans (by go_cell), ((Below.refl _ _).alloc (Nat.le_refl _) _).trans (hb.mono (by simp))⟩
theorem part_1 (so : Int) (nm : ByteArray) (ls : List ByteArray) (ks : List Ty) : partT ⟨1, so, nm, ls, ks⟩ = (((so == 0) && nm.toList.isEmpty) && ((ls.length : Int) == 0) && ((ks.length : Int) == 0)) := by
  rw [Bool.eq_iff_iff]; simp [partT, and_assoc]
theorem part_2 (so : Int) (nm : ByteArray) (ls : List ByteArray) (ks : List Ty) : partT ⟨2, so, nm, ls, ks⟩ = (((!(swB so).toList.isEmpty) && nm.toList.isEmpty) && ((ls.length : Int) == 0) && ((ks.length : Int) == 1)) := by
  rw [Bool.eq_iff_iff]; simp [swB_empty, partT, and_assoc]
  all_goals (intros; omega)
theorem part_3 (so : Int) (nm : ByteArray) (ls : List ByteArray) (ks : List Ty) : partT ⟨3, so, nm, ls, ks⟩ = (((!(swB so).toList.isEmpty) && nm.toList.isEmpty) && ((ls.length : Int) == 0) && ((ks.length : Int) == 1)) := by
  rw [Bool.eq_iff_iff]; simp [swB_empty, partT, and_assoc]
  all_goals (intros; omega)
theorem part_4 (so : Int) (nm : ByteArray) (ls : List ByteArray) (ks : List Ty) : partT ⟨4, so, nm, ls, ks⟩ = (((so == 0) && nm.toList.isEmpty) && ((ls.length : Int) == 0) && ((ks.length : Int) == 2)) := by
  rw [Bool.eq_iff_iff]; simp [partT, and_assoc]
  all_goals (intros; omega)
theorem part_5 (so : Int) (nm : ByteArray) (ls : List ByteArray) (ks : List Ty) : partT ⟨5, so, nm, ls, ks⟩ = (((so == 0) && nm.toList.isEmpty) && ((ls.length : Int) == 0) && ((ks.length : Int) == 2)) := by
  rw [Bool.eq_iff_iff]; simp [partT, and_assoc]
  all_goals (intros; omega)
theorem part_6 (so : Int) (nm : ByteArray) (ls : List ByteArray) (ks : List Ty) : partT ⟨6, so, nm, ls, ks⟩ = (((so == 0) && nm.toList.isEmpty) && (labsOK ls) && ((ks.length : Int) == (ls.length : Int))) := by
  rw [Bool.eq_iff_iff]; simp [partT, and_assoc]
  all_goals (intros; omega)
theorem part_7 (so : Int) (nm : ByteArray) (ls : List ByteArray) (ks : List Ty) : partT ⟨7, so, nm, ls, ks⟩ = (((so == 0) && nm.toList.isEmpty) && (labsOK ls) && ((ks.length : Int) == (ls.length : Int))) := by
  rw [Bool.eq_iff_iff]; simp [partT, and_assoc]
  all_goals (intros; omega)
theorem part_8 (so : Int) (nm : ByteArray) (ls : List ByteArray) (ks : List Ty) : partT ⟨8, so, nm, ls, ks⟩ = (((so == 0) && isVr nm.data.toList) && ((ls.length : Int) == 0) && ((ks.length : Int) == 1)) := by
  rw [Bool.eq_iff_iff]; simp [partT, and_assoc]
  all_goals (intros; omega)
theorem part_9 (so : Int) (nm : ByteArray) (ls : List ByteArray) (ks : List Ty) : partT ⟨9, so, nm, ls, ks⟩ = (((so == 0) && isVr nm.data.toList) && ((ls.length : Int) == 0) && ((ks.length : Int) == 0)) := by
  rw [Bool.eq_iff_iff]; simp [partT, and_assoc]

set_option maxRecDepth 100000 in
set_option maxHeartbeats 4000000 in
theorem isPart_t (t : Ty) (al : Option Addr) (cl : Nat) (ak : Option Addr) (ck : Nat) (w : World) (hbd : TyBw t) (hla : LA w w.heap.size t.labels al) :
    Calls Tryd.prog 75 #[tyVal t al cl ak ck] w fun e w' => e = .returned (.bool (partT t)) ∧ Below w.heap.size w w' := by
  obtain ⟨kd, so, nm, ls, ks⟩ := t
  have hA : Below w.heap.size w (w.alloc (.cells #[.int .i64 kd, .int .i64 so, .string nm, .slice al ls.length cl, .slice ak ks.length ck] 45)) := (Below.refl _ _).alloc (Nat.le_refl _) _
  have cW := fun (W : World) => sortWord_any so W
  have cV := fun (W : World) => isVar_any nm W hbd.name
  have cL := areLabels_any ls al cl (w.alloc (.cells #[.int .i64 kd, .int .i64 so, .string nm, .slice al ls.length cl, .slice ak ks.length ck] 45)) hbd.labs (by have := hbd.labels; simp only at *; omega) (NAt.mono hA.size (NAt.keep hA hla))
  simp only [tyVal]
  have CW := hideK cW
  have CV := hideK cV
  have HLK : Hid (ls.length ≤ 9223372036854775807 ∧ ks.length ≤ 9223372036854775807) := by
    have := hbd.labels; have := hbd.kids; simp only at *; exact ⟨by omega, by omega⟩
  have hlz : (ls.length : Int) ≤ 9223372036854775807 := by have := HLK.out; omega
  have hkz : (ks.length : Int) ≤ 9223372036854775807 := by have := HLK.out; omega
  have HA := hideK hA
  clear cW cV hbd hla hA
  by_cases hkd : kd = 1
  · subst hkd
    rw [part_1]
    have CL := hideK cL
    clear cL
    generalize h0 : (so == 0) = q0
    generalize h1 : (nm.toList.isEmpty) = q1
    generalize h2 : ((ls.length : Int) == 0) = q2
    generalize h3 : ((ks.length : Int) == 0) = q3
    cases q0
    rotate_left
    cases q1
    rotate_left
    cases q2
    rotate_left
    cases q3
    all_goals (
      go_enter Tryd.func75, Tryd.ntmps75
      go_wp2_with (first
        | (go_at_call 53; go_must (refine (CW.out _).mono ?_; rintro e w1 ⟨rfl, rfl⟩))
        | (go_at_call 60; go_must (refine (CV.out _).mono ?_; rintro e w1 ⟨rfl, hb1⟩; obtain ⟨x0, x1, x2, x3, x4, hbw⟩ := keep5 hb1; clear hb1))
        | (go_at_call 92; go_must (refine CL.out.mono ?_; rintro e w1 ⟨rfl, hb1⟩; obtain ⟨x0, x1, x2, x3, x4, hbw⟩ := keep5 hb1; clear hb1)))
      go_ret
      exact ⟨rfl, by first | exact hbw | exact HA.out⟩)
  by_cases hkd : kd = 2
  · subst hkd
    rw [part_2]
    have CL := hideK cL
    clear cL
    generalize h0 : (!(swB so).toList.isEmpty) = q0
    have h0' : (swB so).toList.isEmpty = !q0 := by rw [← h0]; simp
    clear h0
    generalize h1 : (nm.toList.isEmpty) = q1
    generalize h2 : ((ls.length : Int) == 0) = q2
    generalize h3 : ((ks.length : Int) == 1) = q3
    cases q0
    rotate_left
    cases q1
    rotate_left
    cases q2
    rotate_left
    cases q3
    all_goals (
      go_enter Tryd.func75, Tryd.ntmps75
      go_wp2_with (first
        | (go_at_call 53; go_must (refine (CW.out _).mono ?_; rintro e w1 ⟨rfl, rfl⟩))
        | (go_at_call 60; go_must (refine (CV.out _).mono ?_; rintro e w1 ⟨rfl, hb1⟩; obtain ⟨x0, x1, x2, x3, x4, hbw⟩ := keep5 hb1; clear hb1))
        | (go_at_call 92; go_must (refine CL.out.mono ?_; rintro e w1 ⟨rfl, hb1⟩; obtain ⟨x0, x1, x2, x3, x4, hbw⟩ := keep5 hb1; clear hb1)))
      go_ret
      exact ⟨rfl, by first | exact hbw | exact HA.out⟩)
  by_cases hkd : kd = 3
  · subst hkd
    rw [part_3]
    have CL := hideK cL
    clear cL
    generalize h0 : (!(swB so).toList.isEmpty) = q0
    have h0' : (swB so).toList.isEmpty = !q0 := by rw [← h0]; simp
    clear h0
    generalize h1 : (nm.toList.isEmpty) = q1
    generalize h2 : ((ls.length : Int) == 0) = q2
    generalize h3 : ((ks.length : Int) == 1) = q3
    cases q0
    rotate_left
    cases q1
    rotate_left
    cases q2
    rotate_left
    cases q3
    all_goals (
      go_enter Tryd.func75, Tryd.ntmps75
      go_wp2_with (first
        | (go_at_call 53; go_must (refine (CW.out _).mono ?_; rintro e w1 ⟨rfl, rfl⟩))
        | (go_at_call 60; go_must (refine (CV.out _).mono ?_; rintro e w1 ⟨rfl, hb1⟩; obtain ⟨x0, x1, x2, x3, x4, hbw⟩ := keep5 hb1; clear hb1))
        | (go_at_call 92; go_must (refine CL.out.mono ?_; rintro e w1 ⟨rfl, hb1⟩; obtain ⟨x0, x1, x2, x3, x4, hbw⟩ := keep5 hb1; clear hb1)))
      go_ret
      exact ⟨rfl, by first | exact hbw | exact HA.out⟩)
  by_cases hkd : kd = 4
  · subst hkd
    rw [part_4]
    have CL := hideK cL
    clear cL
    generalize h0 : (so == 0) = q0
    generalize h1 : (nm.toList.isEmpty) = q1
    generalize h2 : ((ls.length : Int) == 0) = q2
    generalize h3 : ((ks.length : Int) == 2) = q3
    cases q0
    rotate_left
    cases q1
    rotate_left
    cases q2
    rotate_left
    cases q3
    all_goals (
      go_enter Tryd.func75, Tryd.ntmps75
      go_wp2_with (first
        | (go_at_call 53; go_must (refine (CW.out _).mono ?_; rintro e w1 ⟨rfl, rfl⟩))
        | (go_at_call 60; go_must (refine (CV.out _).mono ?_; rintro e w1 ⟨rfl, hb1⟩; obtain ⟨x0, x1, x2, x3, x4, hbw⟩ := keep5 hb1; clear hb1))
        | (go_at_call 92; go_must (refine CL.out.mono ?_; rintro e w1 ⟨rfl, hb1⟩; obtain ⟨x0, x1, x2, x3, x4, hbw⟩ := keep5 hb1; clear hb1)))
      go_ret
      exact ⟨rfl, by first | exact hbw | exact HA.out⟩)
  by_cases hkd : kd = 5
  · subst hkd
    rw [part_5]
    have CL := hideK cL
    clear cL
    generalize h0 : (so == 0) = q0
    generalize h1 : (nm.toList.isEmpty) = q1
    generalize h2 : ((ls.length : Int) == 0) = q2
    generalize h3 : ((ks.length : Int) == 2) = q3
    cases q0
    rotate_left
    cases q1
    rotate_left
    cases q2
    rotate_left
    cases q3
    all_goals (
      go_enter Tryd.func75, Tryd.ntmps75
      go_wp2_with (first
        | (go_at_call 53; go_must (refine (CW.out _).mono ?_; rintro e w1 ⟨rfl, rfl⟩))
        | (go_at_call 60; go_must (refine (CV.out _).mono ?_; rintro e w1 ⟨rfl, hb1⟩; obtain ⟨x0, x1, x2, x3, x4, hbw⟩ := keep5 hb1; clear hb1))
        | (go_at_call 92; go_must (refine CL.out.mono ?_; rintro e w1 ⟨rfl, hb1⟩; obtain ⟨x0, x1, x2, x3, x4, hbw⟩ := keep5 hb1; clear hb1)))
      go_ret
      exact ⟨rfl, by first | exact hbw | exact HA.out⟩)
  by_cases hkd : kd = 6
  · subst hkd
    rw [part_6]
    have CL := hideK cL
    clear cL
    generalize h0 : (so == 0) = q0
    generalize h1 : (nm.toList.isEmpty) = q1
    generalize labsOK ls = q2 at CL ⊢
    generalize h3 : ((ks.length : Int) == (ls.length : Int)) = q3
    cases q0
    rotate_left
    cases q1
    rotate_left
    cases q2
    rotate_left
    cases q3
    all_goals (
      go_enter Tryd.func75, Tryd.ntmps75
      go_wp2_with (first
        | (go_at_call 53; go_must (refine (CW.out _).mono ?_; rintro e w1 ⟨rfl, rfl⟩))
        | (go_at_call 60; go_must (refine (CV.out _).mono ?_; rintro e w1 ⟨rfl, hb1⟩; obtain ⟨x0, x1, x2, x3, x4, hbw⟩ := keep5 hb1; clear hb1))
        | (go_at_call 92; go_must (refine CL.out.mono ?_; rintro e w1 ⟨rfl, hb1⟩; obtain ⟨x0, x1, x2, x3, x4, hbw⟩ := keep5 hb1; clear hb1)))
      go_ret
      exact ⟨rfl, by first | exact hbw | exact HA.out⟩)
  by_cases hkd : kd = 7
  · subst hkd
    rw [part_7]
    have CL := hideK cL
    clear cL
    generalize h0 : (so == 0) = q0
    generalize h1 : (nm.toList.isEmpty) = q1
    generalize labsOK ls = q2 at CL ⊢
    generalize h3 : ((ks.length : Int) == (ls.length : Int)) = q3
    cases q0
    rotate_left
    cases q1
    rotate_left
    cases q2
    rotate_left
    cases q3
    all_goals (
      go_enter Tryd.func75, Tryd.ntmps75
      go_wp2_with (first
        | (go_at_call 53; go_must (refine (CW.out _).mono ?_; rintro e w1 ⟨rfl, rfl⟩))
        | (go_at_call 60; go_must (refine (CV.out _).mono ?_; rintro e w1 ⟨rfl, hb1⟩; obtain ⟨x0, x1, x2, x3, x4, hbw⟩ := keep5 hb1; clear hb1))
        | (go_at_call 92; go_must (refine CL.out.mono ?_; rintro e w1 ⟨rfl, hb1⟩; obtain ⟨x0, x1, x2, x3, x4, hbw⟩ := keep5 hb1; clear hb1)))
      go_ret
      exact ⟨rfl, by first | exact hbw | exact HA.out⟩)
  by_cases hkd : kd = 8
  · subst hkd
    rw [part_8]
    have CL := hideK cL
    clear cL
    generalize h0 : (so == 0) = q0
    generalize isVr nm.data.toList = q1 at CV ⊢
    generalize h2 : ((ls.length : Int) == 0) = q2
    generalize h3 : ((ks.length : Int) == 1) = q3
    cases q0
    rotate_left
    cases q1
    rotate_left
    cases q2
    rotate_left
    cases q3
    all_goals (
      go_enter Tryd.func75, Tryd.ntmps75
      go_wp2_with (first
        | (go_at_call 53; go_must (refine (CW.out _).mono ?_; rintro e w1 ⟨rfl, rfl⟩))
        | (go_at_call 60; go_must (refine (CV.out _).mono ?_; rintro e w1 ⟨rfl, hb1⟩; obtain ⟨x0, x1, x2, x3, x4, hbw⟩ := keep5 hb1; clear hb1))
        | (go_at_call 92; go_must (refine CL.out.mono ?_; rintro e w1 ⟨rfl, hb1⟩; obtain ⟨x0, x1, x2, x3, x4, hbw⟩ := keep5 hb1; clear hb1)))
      go_ret
      exact ⟨rfl, by first | exact hbw | exact HA.out⟩)
  by_cases hkd : kd = 9
  · subst hkd
    rw [part_9]
    have CL := hideK cL
    clear cL
    generalize h0 : (so == 0) = q0
    generalize isVr nm.data.toList = q1 at CV ⊢
    generalize h2 : ((ls.length : Int) == 0) = q2
    generalize h3 : ((ks.length : Int) == 0) = q3
    cases q0
    rotate_left
    cases q1
    rotate_left
    cases q2
    rotate_left
    cases q3
    all_goals (
      go_enter Tryd.func75, Tryd.ntmps75
      go_wp2_with (first
        | (go_at_call 53; go_must (refine (CW.out _).mono ?_; rintro e w1 ⟨rfl, rfl⟩))
        | (go_at_call 60; go_must (refine (CV.out _).mono ?_; rintro e w1 ⟨rfl, hb1⟩; obtain ⟨x0, x1, x2, x3, x4, hbw⟩ := keep5 hb1; clear hb1))
        | (go_at_call 92; go_must (refine CL.out.mono ?_; rintro e w1 ⟨rfl, hb1⟩; obtain ⟨x0, x1, x2, x3, x4, hbw⟩ := keep5 hb1; clear hb1)))
      go_ret
      exact ⟨rfl, by first | exact hbw | exact HA.out⟩)
  have e : partT ⟨kd, so, nm, ls, ks⟩ = false := by unfold partT; simp only; simp [*]
  have k1 : (kd == 1) = false := by simpa using ‹¬ kd = 1›
  have k2 : (kd == 2) = false := by simpa using ‹¬ kd = 2›
  have k3 : (kd == 3) = false := by simpa using ‹¬ kd = 3›
  have k4 : (kd == 4) = false := by simpa using ‹¬ kd = 4›
  have k5 : (kd == 5) = false := by simpa using ‹¬ kd = 5›
  have k6 : (kd == 6) = false := by simpa using ‹¬ kd = 6›
  have k7 : (kd == 7) = false := by simpa using ‹¬ kd = 7›
  have k8 : (kd == 8) = false := by simpa using ‹¬ kd = 8›
  have k9 : (kd == 9) = false := by simpa using ‹¬ kd = 9›
  rw [e]
  clear e
  go_enter Tryd.func75, Tryd.ntmps75
  go_wp2_with fail
  go_ret
  exact ⟨rfl, HA.out⟩
end Go.Proofs.YtfmegfgmkeicnaaDoor
