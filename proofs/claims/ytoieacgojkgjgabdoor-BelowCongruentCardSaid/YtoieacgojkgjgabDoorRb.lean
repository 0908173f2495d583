/-
  Plain mathematics: what is below stays so, whatever comes ahead of it (GAY, HOLE).
-/
import Derived.Test.YtoieacgojkgjgabDoorIq
import Derived.Test.YtoieacgojkgjgabDoorVc
import Derived.Test.YtoieacgojkgjgabDoorJf
import Derived.Test.YtoieacgojkgjgabDoorKc
import Derived.Test.YtoieacgojkgjgabDoorBu
import Derived.Test.YtoieacgojkgjgabDoorXd
namespace Go.Proofs.YtoieacgojkgjgabDoor

theorem node_kids {g : List Nd} {kd so : Int} {nm : ByteArray} {ls : List ByteArray} {ks : List Ty} (h : OFG ⟨kd, so, nm, ls, ks⟩ g) (h9 : kd ≠ 9) (h8 : kd ≠ 8) :
    (nodeAt g 0).kind = kd ∧ (nodeAt g 0).so = so ∧ (nodeAt g 0).labs = ls ∧ (nodeAt g 0).to.length = ks.length ∧ ∀ i (hi : i < ks.length) k, gT g k (toAt (nodeAt g 0) i) = den ks[i] e0 k := by
  have H : ∀ k, (nodeAt g 0).kind = kd ∧ (nodeAt g 0).so = so ∧ (nodeAt g 0).labs = ls ∧ (nodeAt g 0).to.map (gT g k) = ks.map fun q => den q e0 k := fun k => by
    have h1 := h.does (k + 1)
    have h2 : den ⟨kd, so, nm, ls, ks⟩ e0 (k + 1) = ⟨kd, so, ls, ks.map fun q => den q e0 k⟩ := by
      rw [den_node _ e0 h9 h8]
      show (⟨kd, so, ls, (ks.map fun q => den q e0).map fun f => f k⟩ : Tr) = _
      rw [List.map_map]
      rfl
    rw [h2] at h1
    have h3 : gT g (k + 1) 0 = ⟨(nodeAt g 0).kind, (nodeAt g 0).so, (nodeAt g 0).labs, (nodeAt g 0).to.map (gT g k)⟩ := rfl
    rw [h3] at h1
    injection h1 with q1 q2 q3 q4
    exact ⟨q1, q2, q3, q4⟩
  have hl : (nodeAt g 0).to.length = ks.length := by have := congrArg List.length (H 0).2.2.2; simpa using this
  refine ⟨(H 0).1, (H 0).2.1, (H 0).2.2.1, hl, fun i hi k => ?_⟩
  have h4 := congrArg (fun l => l[i]?) (H k).2.2.2
  simp only [List.getElem?_map] at h4
  rw [List.getElem?_eq_getElem hi, List.getElem?_eq_getElem (by omega)] at h4
  simp only [Option.map_some, Option.some.injEq] at h4
  unfold toAt
  rw [List.getElem?_eq_getElem (by omega)]
  exact h4
/-- below, by what comes next -/
theorem bt_node {kd so : Int} {nm : ByteArray} {ls : List ByteArray} {ps qs : List Ty} {g' h' : List Nd} (hp : OFG ⟨kd, so, nm, ls, ps⟩ g') (hq : OFG ⟨kd, so, nm, ls, qs⟩ h') (h9 : kd ≠ 9) (h8 : kd ≠ 8) (hl : ps.length = qs.length) (hll : ls.length ≤ ps.length) (h2 : kd = 2 ∨ kd = 3 → 0 < ps.length) (h4 : kd = 4 ∨ kd = 5 → 1 < ps.length)
    (gs hs : Nat → List Nd) (hgs : ∀ i (hi : i < ps.length), OFG ps[i] (gs i)) (hhs : ∀ i (hi : i < qs.length), OFG qs[i] (hs i)) :
    BT ⟨kd, so, nm, ls, ps⟩ ⟨kd, so, nm, ls, qs⟩ ↔ ∀ k, (kd = 2 ∨ kd = 3 → bl k (gs 0) (hs 0) 0 0) ∧ (kd = 4 → bl k (hs 0) (gs 0) 0 0 ∧ bl k (gs 1) (hs 1) 0 0) ∧ (kd = 5 → bl k (gs 0) (hs 0) 0 0 ∧ bl k (gs 1) (hs 1) 0 0) ∧ ∀ x, x < ls.length → bl k (gs x) (hs x) 0 0 := by
  obtain ⟨a1, a2, a3, a4, a5⟩ := node_kids hp h9 h8
  obtain ⟨b1, b2, b3, b4, b5⟩ := node_kids hq h9 h8
  have hgt : ∀ i, i < ps.length → toAt (nodeAt g' 0) i < g'.length := fun i hi => hp.gn.to_ i (by omega)
  have hht : ∀ i, i < ps.length → toAt (nodeAt h' 0) i < h'.length := fun i hi => hq.gn.to_ i (by omega)
  have R : ∀ k i, i < ps.length → (bl k g' h' (toAt (nodeAt g' 0) i) (toAt (nodeAt h' 0) i) ↔ bl k (gs i) (hs i) 0 0) := fun k i hi =>
    bl_resp (hgs i hi).gn (hhs i (by omega)).gn hp.gn hq.gn (hgs i hi).gn.pos (hhs i (by omega)).gn.pos (hgt i hi) (hht i hi) (by rw [a5 i hi k, (hgs i hi).does k]) (by rw [b5 i (by omega) k, (hhs i (by omega)).does k])
  have R' : ∀ k i, i < ps.length → (bl k h' g' (toAt (nodeAt h' 0) i) (toAt (nodeAt g' 0) i) ↔ bl k (hs i) (gs i) 0 0) := fun k i hi =>
    bl_resp (hhs i (by omega)).gn (hgs i hi).gn hq.gn hp.gn (hhs i (by omega)).gn.pos (hgs i hi).gn.pos (hht i hi) (hgt i hi) (by rw [b5 i (by omega) k, (hhs i (by omega)).does k]) (by rw [a5 i hi k, (hgs i hi).does k])
  have hr : rises ls := by rw [← a3]; exact okN_rises (hp.gn.at_ hp.gn.pos)
  rw [BT_iff hp hq]
  constructor
  · intro H k
    have hb := (bl_succ k g' h' 0 0).1 (H (k + 1))
    rw [a1, a3, b3] at hb
    obtain ⟨_, c2, c3, c4, c5⟩ := hb
    refine ⟨fun e => (R k 0 (h2 e)).1 (c2 e), fun e => ⟨(R' k 0 (by have := h4 (.inl e); omega)).1 (c3 e).1, (R k 1 (h4 (.inl e))).1 (c3 e).2⟩, fun e => ⟨(R k 0 (by have := h4 (.inr e); omega)).1 (c4 e).1, (R k 1 (h4 (.inr e))).1 (c4 e).2⟩, fun x hx => (R k x (by omega)).1 (c5 x x ls[x] (List.getElem?_eq_getElem hx) (List.getElem?_eq_getElem hx))⟩
  · intro H k
    cases k with
    | zero => trivial
    | succ k =>
      obtain ⟨c2, c3, c4, c5⟩ := H k
      rw [bl_succ, a1, a3, b3]
      refine ⟨⟨by rw [a1, b1], by rw [a2, b2], by rw [a3, b3]; split <;> exact fun l hl => hl⟩, fun e => (R k 0 (h2 e)).2 (c2 e), fun e => ⟨(R' k 0 (by have := h4 (.inl e); omega)).2 (c3 e).1, (R k 1 (h4 (.inl e))).2 (c3 e).2⟩, fun e => ⟨(R k 0 (by have := h4 (.inr e); omega)).2 (c4 e).1, (R k 1 (h4 (.inr e))).2 (c4 e).2⟩, fun x y l hx hy => ?_⟩
      have hxl := (List.getElem?_eq_some_iff.1 hx).1
      have hyl := (List.getElem?_eq_some_iff.1 hy).1
      obtain rfl : x = y := rises_inj hr hxl hyl ((List.getElem?_eq_some_iff.1 hx).2.trans (List.getElem?_eq_some_iff.1 hy).2.symm)
      exact (R k x (by omega)).2 (c5 x hxl)
theorem bl_self {t : Ty} {g : List Nd} (h : OFG t g) (k : Nat) : bl k g g 0 0 := bl_refl h.gn k h.gn.pos
def e0B : ByteArray := ⟨#[]⟩
def nmA : ByteArray := ⟨#[97]⟩
def nmB : ByteArray := ⟨#[98]⟩
def nmQ : ByteArray := ⟨#[113, 113]⟩
theorem one_of {p : Ty} {g : List Nd} (hp : OFG p g) : ∀ i (hi : i < [p].length), OFG [p][i] g := by
  intro i hi
  have : i = 0 := by simp at hi; omega
  subst this
  exact hp
/-- one kid -/
theorem bt_one {kd so : Int} (hk : kd = 2 ∨ kd = 3) {s t : Ty} {g h g' h' : List Nd} (hg : OFG s g) (hh : OFG t h) (hp : OFG ⟨kd, so, e0B, [], [s]⟩ g') (hq : OFG ⟨kd, so, e0B, [], [t]⟩ h') : BT ⟨kd, so, e0B, [], [s]⟩ ⟨kd, so, e0B, [], [t]⟩ ↔ BT s t := by
  rw [bt_node hp hq (by omega) (by omega) rfl (by simp) (by simp) (fun q => by omega) (fun _ => g) (fun _ => h) (one_of hg) (one_of hh), BT_iff hg hh]
  exact ⟨fun H k => (H k).1 hk, fun H k => ⟨fun _ => H k, fun e => by omega, fun e => by omega, fun x hx => by simp at hx⟩⟩
theorem two_of {p q : Ty} {g h : List Nd} (hp : OFG p g) (hq : OFG q h) : ∀ i (hi : i < [p, q].length), OFG [p, q][i] (if i = 0 then g else h) := by
  intro i hi
  have : i = 0 ∨ i = 1 := by simp at hi; omega
  rcases this with rfl | rfl
  · exact hp
  · exact hq
/-- two kids, of which the first one is carried -/
theorem bt_take {s t : Ty} {g h e g' h' : List Nd} (hg : OFG s g) (hh : OFG t h) (he : OFG endT e) (hp : OFG ⟨5, 0, e0B, [], [s, endT]⟩ g') (hq : OFG ⟨5, 0, e0B, [], [t, endT]⟩ h') : BT ⟨5, 0, e0B, [], [s, endT]⟩ ⟨5, 0, e0B, [], [t, endT]⟩ ↔ BT s t := by
  rw [bt_node hp hq (by decide) (by decide) rfl (by simp) (by simp) (by simp) _ _ (two_of hg he) (two_of hh he), BT_iff hg hh]
  exact ⟨fun H k => ((H k).2.2.1 rfl).1, fun H k => ⟨fun q => by omega, fun q => by omega, fun _ => ⟨H k, bl_self he k⟩, fun x hx => by simp at hx⟩⟩
theorem bt_give {s t : Ty} {g h e g' h' : List Nd} (hg : OFG s g) (hh : OFG t h) (he : OFG endT e) (hp : OFG ⟨4, 0, e0B, [], [endT, s]⟩ g') (hq : OFG ⟨4, 0, e0B, [], [endT, t]⟩ h') : BT ⟨4, 0, e0B, [], [endT, s]⟩ ⟨4, 0, e0B, [], [endT, t]⟩ ↔ BT s t := by
  rw [bt_node hp hq (by decide) (by decide) rfl (by simp) (by simp) (by simp) _ _ (two_of he hg) (two_of he hh), BT_iff hg hh]
  exact ⟨fun H k => ((H k).2.1 rfl).2, fun H k => ⟨fun q => by omega, fun _ => ⟨bl_self he k, H k⟩, fun q => by omega, fun x hx => by simp at hx⟩⟩
/-- what is carried out turns it round -/
theorem bt_giveT {s t : Ty} {g h e g' h' : List Nd} (hg : OFG s g) (hh : OFG t h) (he : OFG endT e) (hp : OFG ⟨4, 0, e0B, [], [t, endT]⟩ g') (hq : OFG ⟨4, 0, e0B, [], [s, endT]⟩ h') : BT ⟨4, 0, e0B, [], [t, endT]⟩ ⟨4, 0, e0B, [], [s, endT]⟩ ↔ BT s t := by
  rw [bt_node hp hq (by decide) (by decide) rfl (by simp) (by simp) (by simp) _ _ (two_of hh he) (two_of hg he), BT_iff hg hh]
  exact ⟨fun H k => ((H k).2.1 rfl).1, fun H k => ⟨fun q => by omega, fun _ => ⟨H k, bl_self he k⟩, fun q => by omega, fun x hx => by simp at hx⟩⟩
theorem bt_pick {s t : Ty} {g h e g' h' : List Nd} (hg : OFG s g) (hh : OFG t h) (he : OFG endT e) (hp : OFG ⟨6, 0, e0B, [nmA, nmB], [s, endT]⟩ g') (hq : OFG ⟨6, 0, e0B, [nmA, nmB], [t, endT]⟩ h') : BT ⟨6, 0, e0B, [nmA, nmB], [s, endT]⟩ ⟨6, 0, e0B, [nmA, nmB], [t, endT]⟩ ↔ BT s t := by
  rw [bt_node hp hq (by decide) (by decide) rfl (by simp) (by simp) (by simp) _ _ (two_of hg he) (two_of hh he), BT_iff hg hh]
  refine ⟨fun H k => (H k).2.2.2 0 (by simp), fun H k => ⟨fun q => by omega, fun q => by omega, fun q => by omega, fun x hx => ?_⟩⟩
  have : x = 0 ∨ x = 1 := by simp at hx; omega
  rcases this with rfl | rfl
  · exact H k
  · exact bl_self he k
theorem bt_offer {s t : Ty} {g h e g' h' : List Nd} (hg : OFG s g) (hh : OFG t h) (he : OFG endT e) (hp : OFG ⟨7, 0, e0B, [nmA, nmB], [endT, s]⟩ g') (hq : OFG ⟨7, 0, e0B, [nmA, nmB], [endT, t]⟩ h') : BT ⟨7, 0, e0B, [nmA, nmB], [endT, s]⟩ ⟨7, 0, e0B, [nmA, nmB], [endT, t]⟩ ↔ BT s t := by
  rw [bt_node hp hq (by decide) (by decide) rfl (by simp) (by simp) (by simp) _ _ (two_of he hg) (two_of he hh), BT_iff hg hh]
  refine ⟨fun H k => (H k).2.2.2 1 (by simp), fun H k => ⟨fun q => by omega, fun q => by omega, fun q => by omega, fun x hx => ?_⟩⟩
  have : x = 0 ∨ x = 1 := by simp at hx; omega
  rcases this with rfl | rfl
  · exact bl_self he k
  · exact H k
theorem rec_same {x : ByteArray} {s : Ty} (hs : chkTy s = 0) (hr : chkTy (recT x s) = 0) : den (recT x s) e0 = den s e0 := by
  have hg := (chkTy_gd _ hr).1
  have f1 : den (recT x s) e0 = den s (upD e0 x (den (recT x s) e0)) := den_fix hg rfl rfl e0
  obtain ⟨hgs, hcs, _⟩ := chkTy_gd _ hs
  rw [f1]
  exact den_cl s (gdT_wf s hgs) [] _ _ hcs (fun y hy => by cases hy)
theorem bt_rec {x : ByteArray} {s t : Ty} {g h g' h' : List Nd} (hg : OFG s g) (hh : OFG t h) (hp : OFG (recT x s) g') (hq : OFG (recT x t) h') : BT (recT x s) (recT x t) ↔ BT s t := by
  have e1 := (hp.same hg).2 (rec_same hg.chk hp.chk)
  have e2 := (hq.same hh).2 (rec_same hh.chk hq.chk)
  rw [BT_iff hp hq, BT_iff hg hh, e1, e2]
end Go.Proofs.YtoieacgojkgjgabDoor
/-
  The contracts of duetref.small, IsName, levels and Level, for every text.
-/
namespace Go.Proofs.YtoieacgojkgjgabDoor
open Go.RowKit Go.Shelf Go.Sort

def smZ (l : List UInt8) : Bool := decide (1 ≤ l.length ∧ l.length ≤ 8) && l.all isLow
theorem Hid.mk'' {p : Prop} (h : p) : Hid p := h
theorem isNm_eq (l : List UInt8) : isNm l = (smZ l && !decide (l ∈ [[116, 114, 117, 101], [102, 97, 108, 115, 101], [97, 110, 100], [111, 114], [110, 111, 116]])) := by
  unfold isNm smZ
  by_cases h : l = [116, 114, 117, 101] ∨ l = [102, 97, 108, 115, 101] ∨ l = [97, 110, 100] ∨ l = [111, 114] ∨ l = [110, 111, 116]
  · rw [if_pos h]
    have : decide (l ∈ [[116, 114, 117, 101], [102, 97, 108, 115, 101], [97, 110, 100], [111, 114], [110, 111, 116]]) = true := by simpa using h
    rw [this]; simp
  · rw [if_neg h]
    have : decide (l ∈ [[116, 114, 117, 101], [102, 97, 108, 115, 101], [97, 110, 100], [111, 114], [110, 111, 116]]) = false := by simpa using h
    rw [this]; simp
set_option maxHeartbeats 1000000 in
theorem small_any (s : ByteArray) (w : World) (hs : s.size ≤ 9223372036854775807) :
    Calls Tryd.prog 85 #[.string s] w fun e w' => e = .returned (.bool (smZ s.data.toList)) ∧ w' = w := by
  have hsz : s.data.toList.length = s.size := by simp
  have hsi : (s.size : Int) ≤ 9223372036854775807 := by omega
  go_enter Tryd.func85, Tryd.ntmps85
  go_wp2_with fail
  go_loopw [3] (fun i wr => ∃ k : Nat, k ≤ s.size ∧ i = .int .i64 (k : Int) ∧ (∀ j (h : j < s.data.toList.length), j < k → isLow s.data.toList[j] = true) ∧ wr = w) (fun i _ => s.size - (intOf i).toNat)
  case atStart => exact ⟨0, Nat.zero_le _, rfl, fun j h hj => absurd hj (Nat.not_lt_zero j), rfl⟩
  case round =>
    obtain ⟨k, hk, rfl, hA, rfl⟩ := hrel
    by_cases hlt : k < s.size
    · have hltz : (k : Int) < (s.size : Int) := by omega
      have hk' : k < s.data.toList.length := by omega
      have eb : s[k] = s.data.toList[k] := rfl
      have h255 : (s[k].toNat : Int) ≤ 255 := by have := s[k].toNat_lt; omega
      have hno : isLow s[k] = false → smZ s.data.toList = false := fun h => by
        unfold smZ
        rw [Bool.and_eq_false_iff]
        right
        rw [Bool.eq_false_iff]
        intro ha
        have := List.all_eq_true.1 ha s.data.toList[k] (List.getElem_mem hk')
        rw [← eb, h] at this; cases this
      by_cases h1 : 97 ≤ s[k].toNat
      · have z1 : ¬ (s[k].toNat : Int) < 97 := by omega
        by_cases h2 : s[k].toNat ≤ 122
        · have z2 : ¬ (122 : Int) < (s[k].toNat : Int) := by omega
          have hb : isLow s[k] = true := by simp [isLow, h1, h2]
          have HA : Hid (∀ j (h : j < s.data.toList.length), j < k + 1 → isLow s.data.toList[j] = true) := fun j h hj => by
            rcases Nat.lt_succ_iff_lt_or_eq.1 hj with h' | rfl
            · exact hA j h h'
            · rw [← eb]; exact hb
          clear hA hb eb hno h1 h2
          go_wp2_with fail
          go_roundw
          case rel => exact ⟨k + 1, by omega, by go_num, HA.out, by simp⟩
          case measure => simp [intOf]; omega
        · have z2 : (122 : Int) < (s[k].toNat : Int) := by omega
          have HN := Hid.mk'' (hno (by simp [isLow]; omega))
          clear hA eb hno h1 h2
          go_wp2_with fail
          go_ret
          exact ⟨by first | (rw [HN.out]; done) | (rw [HN.out]; rfl), rfl⟩
      · have z1 : (s[k].toNat : Int) < 97 := by omega
        have HN := Hid.mk'' (hno (by simp [isLow]; omega))
        clear hA eb hno h1
        go_wp2_with fail
        go_ret
        exact ⟨by first | (rw [HN.out]; done) | (rw [HN.out]; rfl), rfl⟩
    · have hltz : ¬ (k : Int) < (s.size : Int) := by omega
      have hall : s.data.toList.all isLow = true := List.all_eq_true.2 fun c hc => by
        obtain ⟨j, hj, rfl⟩ := List.mem_iff_getElem.1 hc
        exact hA j hj (by omega)
      have hsm : smZ s.data.toList = decide (1 ≤ s.size ∧ s.size ≤ 8) := by unfold smZ; rw [hall, hsz, Bool.and_true]
      have HS := Hid.mk'' hsm
      clear hA hall hsm
      by_cases h1 : 1 ≤ s.size
      · have z1 : (1 : Int) ≤ (s.size : Int) := by omega
        by_cases h2 : s.size ≤ 8
        · have z2 : (s.size : Int) ≤ 8 := by omega
          go_wp2_with fail
          go_ret
          exact ⟨by rw [HS.out]; simp [h1, h2], rfl⟩
        · have z2 : ¬ (s.size : Int) ≤ 8 := by omega
          go_wp2_with fail
          go_ret
          exact ⟨by rw [HS.out]; simp [h1, h2], rfl⟩
      · have z1 : ¬ (1 : Int) ≤ (s.size : Int) := by omega
        go_wp2_with fail
        go_ret
        exact ⟨by rw [HS.out]; simp [h1], rfl⟩

set_option maxRecDepth 100000 in
set_option maxHeartbeats 1000000 in
theorem refIsName_any (s : ByteArray) (w : World) (hs : s.size ≤ 9223372036854775807) :
    Calls Tryd.prog 65 #[.string s] w fun e w' => e = .returned (.bool (isNm s.data.toList)) ∧ Below w.heap.size w w' := by
  rw [isNm_eq]
  have c1 := small_any s w hs
  have hO := World.ownsRow_lit (base := w.heap.size) (e := 9) (size := 1) w #[.string ⟨#[116, 114, 117, 101]⟩, .string ⟨#[102, 97, 108, 115, 101]⟩, .string ⟨#[97, 110, 100]⟩, .string ⟨#[111, 114]⟩, .string ⟨#[110, 111, 116]⟩] 5 (Nat.le_refl _) (by decide) rfl
  have c2 := containsS_any [[116, 114, 117, 101], [102, 97, 108, 115, 101], [97, 110, 100], [111, 114], [110, 111, 116]] s _ _ _ hO (by decide)
  generalize decide (s.data.toList ∈ [[116, 114, 117, 101], [102, 97, 108, 115, 101], [97, 110, 100], [111, 114], [110, 111, 116]]) = t at c2 ⊢
  clear hO
  cases h : smZ s.data.toList with
  | false =>
    rw [h] at c1
    clear c2 h
    go_enter Tryd.func65, Tryd.ntmps65
    go_wp2_with fail
    refine c1.mono ?_
    rintro e w1 ⟨rfl, rfl⟩
    go_wp2_with fail
    go_ret
    exact ⟨rfl, Below.refl _ _⟩
  | true =>
    rw [h] at c1
    clear h
    go_enter Tryd.func65, Tryd.ntmps65
    go_wp2_with fail
    refine c1.mono ?_
    rintro e w1 ⟨rfl, rfl⟩
    go_wp2_with fail
    refine c2.mono ?_
    rintro e w2 ⟨rfl, hw2⟩
    subst hw2
    go_wp2_with fail
    go_ret
    exact ⟨by simp, (Below.refl _ _).alloc (Nat.le_refl _) _⟩

theorem own_keep0 {W W' : World} {base : Nat} {e : TypeId} {size : Nat} {v : Value} {n : Nat} {xs : List Value} (h : W.ownsRow base e size v n xs) (hb : Below W.heap.size W W') : W'.ownsRow base e size v n xs := by
  refine ⟨h.1, h.2.imp id ?_⟩
  rintro ⟨g, cap, cur, h1, h2, h3, h4⟩
  refine ⟨g, cap, cur, h1, h2, ?_, h4⟩
  rw [hb.block g ?_]
  · exact h3
  · rcases Nat.lt_or_ge g W.heap.size with hlt | hge
    · exact hlt
    · rw [Array.getElem?_eq_none hge] at h3; cases h3
/-- the levels -/
def lvL : List (List (List UInt8)) := [[[111, 114]], [[97, 110, 100]], [[61, 61], [60], [60, 61]], [[43], [45], [43, 43]], [[42], [47], [37]]]
theorem lvl_hit (o : List UInt8) (k : Nat) (h : k < lvL.length) (hin : o ∈ lvL[k]) : lvl o = (k : Int) + 1 := by
  have : k = 0 ∨ k = 1 ∨ k = 2 ∨ k = 3 ∨ k = 4 := by simp [lvL] at h; omega
  rcases this with rfl | rfl | rfl | rfl | rfl <;> simp [lvL] at hin
  · subst hin; decide
  · subst hin; decide
  · rcases hin with rfl | rfl | rfl <;> decide
  · rcases hin with rfl | rfl | rfl <;> decide
  · rcases hin with rfl | rfl | rfl <;> decide
theorem lvl_miss (o : List UInt8) (h : ∀ j (hj : j < lvL.length), o ∉ lvL[j]) : lvl o = 0 := by
  have h0 := h 0 (by decide)
  have h1 := h 1 (by decide)
  have h2 := h 2 (by decide)
  have h3 := h 3 (by decide)
  have h4 := h 4 (by decide)
  simp [lvL] at h0 h1 h2 h3 h4
  unfold lvl
  simp [h0, h1, h2, h3, h4]
theorem lvl_len (k : Nat) (h : k < lvL.length) : lvL[k].length ≤ 3 := by
  have : k = 0 ∨ k = 1 ∨ k = 2 ∨ k = 3 ∨ k = 4 := by simp [lvL] at h; omega
  rcases this with rfl | rfl | rfl | rfl | rfl <;> simp [lvL]
structure LVS (W : World) (B g : Nat) : Prop where
  lt : g < W.heap.size
  c : ∀ i (h : i < lvL.length), ∃ b n c, W.cell? ⟨g, i, none⟩ = some (.slice (some ⟨b, 0, none⟩) n c) ∧ W.ownsRow B 9 1 (.slice (some ⟨b, 0, none⟩) n c) lvL[i].length (lvL[i].map encStr)

end Go.Proofs.YtoieacgojkgjgabDoor
