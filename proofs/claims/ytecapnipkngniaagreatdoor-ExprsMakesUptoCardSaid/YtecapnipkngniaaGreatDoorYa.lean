/-
  What exprs.Sort and exprs.Eval answer, for every expression, every names and sorts, and every environment.
-/
import Derived.Test.YtecapnipkngniaaGreatDoorXk
import Derived.Deep.OwnRows
import Derived.Deep.DeepCutAuto
import Derived.Test.YtecapnipkngniaaGreatDoorLr
import Derived.Test.YtecapnipkngniaaGreatDoorCj
namespace Go.Proofs.YtecapnipkngniaaGreatDoor
open Go.RowKit Go.Shelf
variable (Tabs : World → Prop) (B0 : Nat)

/-- what Sort answers -/
def srtR (x : Ex) (ns : List ByteArray) (zs : List Int) : Int × Int := if chkX x = 0 then sortX (lookS ns zs) x else (0, chkX x)
/-- what values.Check says of the first that is none -/
def badL : List (ByteArray × Vl) → Int
  | [] => 0
  | p :: r => if chkZ vD p.2.so p.2.n p.2.s = 0 then badL r else chkZ vD p.2.so p.2.n p.2.s
/-- what Eval answers -/
def evlR (x : Ex) (bs : List (ByteArray × Vl)) : Vl × Int :=
  if chkX x ≠ 0 then (⟨0, 0, ⟨#[]⟩⟩, chkX x) else if badL bs ≠ 0 then (⟨0, 0, ⟨#[]⟩⟩, badL bs)
  else if (sortX (lookS (bs.map (·.1)) (bs.map (·.2.so))) x).2 ≠ 0 then (⟨0, 0, ⟨#[]⟩⟩, (sortX (lookS (bs.map (·.1)) (bs.map (·.2.so))) x).2)
  else (valX (lookV bs) x, 0)

end Go.Proofs.YtecapnipkngniaaGreatDoor
/-
  The contract of duetref.Value: it tells of every value what values.Check tells.
-/
namespace Go.Proofs.YtecapnipkngniaaGreatDoor
open Go.RowKit Go.Shelf

theorem empty_size (s : ByteArray) (h : s.toList.isEmpty = true) : s = ⟨#[]⟩ := by
  have h2 : s.toList = [] := List.isEmpty_iff.1 h
  rw [ByteArray.toList_eq] at h2
  apply ByteArray.ext; apply Array.toList_inj.1; rw [h2]

set_option maxHeartbeats 1000000 in
theorem refValue_any (so n : Int) (s : ByteArray) (w : World) (hT : Tabs w) :
    Calls Tryz.prog 8 #[.agg #[.int .i64 so, .int .i64 n, .string s]] w fun e w' => e = .returned (.int .i64 (chkZ vD so n s)) ∧ Below w.heap.size w w' := by
  by_cases h3 : so = 3 ∧ n = 0
  · obtain ⟨rfl, rfl⟩ := h3
    rw [show chkZ vD 3 0 s = textZ vD 0 s from rfl]
    by_cases hl : 100 < s.size
    · have e1 : textZ vD 0 s = 2 := by simp [textZ, hl]
      have hlz : (s.size : Int) > 100 := by omega
      rw [e1]; clear e1
      go_enter Tryz.func8, Tryz.ntmps8
      go_wp2
      go_ret
      exact ⟨rfl, (Below.refl _ _).alloc (Nat.le_refl _) _⟩
    · have e1 : textZ vD 0 s = argZ (vD s) := by simp [textZ, hl]
      have hlz : ¬ (s.size : Int) > 100 := by omega
      rw [e1]; clear e1
      have CL := letters_any s (w.alloc (.cells #[.int .i64 3, .int .i64 0, .string s] 23)) (by omega) (tabs_keep _ _ hT ((Below.refl _ _).alloc (Nat.le_refl _) _))
      have hvd : vD s = Lib.validD s.data.toList := rfl
      generalize hz : argZ (vD s) = z
      have HZ : Hid (argZ (vD s) = z) := hz
      clear hz
      go_enter Tryz.func8, Tryz.ntmps8
      go_wp2_with fail
      refine CL.mono ?_
      rintro e w1 ⟨hp, hb⟩
      have hbw : Below w.heap.size w w1 := ((Below.refl w.heap.size w).alloc (Nat.le_refl _) _).trans (hb.mono (by simp))
      rcases hp with ⟨hv, rfl⟩ | ⟨hv, rs, v, _, _, rfl, hown⟩
      · have hz1 : z = 1 := by rw [← HZ.out, hvd, hv]; rfl
        subst hz1
        go_wp2
        go_ret
        exact ⟨rfl, hbw⟩
      · have hz1 : z = 0 := by rw [← HZ.out, hvd, hv]; rfl
        subst hz1
        go_wp2
        go_ret
        exact ⟨rfl, hbw⟩
  · have hz : ∃ z : Int, chkZ vD so n s = z ∧ ((s.toList.isEmpty = true ∧ (so = 1 ∨ so = 2 ∧ (n = 0 ∨ n = 1))) → z = 0) ∧ (¬ (s.toList.isEmpty = true ∧ (so = 1 ∨ so = 2 ∧ (n = 0 ∨ n = 1))) → z = 1) := by
      refine ⟨_, rfl, ?_, ?_⟩
      · rintro ⟨he, rfl | ⟨rfl, rfl | rfl⟩⟩
        · show argZ s.toList.isEmpty = 0; rw [he]; rfl
        · show argZ (s.toList.isEmpty && _) = 0; rw [he]; rfl
        · show argZ (s.toList.isEmpty && _) = 0; rw [he]; rfl
      · intro hn
        unfold chkZ
        by_cases h1 : so = 1
        · rw [if_pos h1]
          have : s.toList.isEmpty = false := by
            cases h : s.toList.isEmpty
            · rfl
            · exact absurd ⟨h, .inl h1⟩ hn
          rw [this]; rfl
        · rw [if_neg h1]
          by_cases h2 : so = 2
          · rw [if_pos h2]
            have : (s.toList.isEmpty && (n == 0 || n == 1)) = false := by
              cases h : (s.toList.isEmpty && (n == 0 || n == 1))
              · rfl
              · simp at h
                exact absurd ⟨by simpa using h.1, .inr ⟨h2, h.2⟩⟩ hn
            rw [this]; rfl
          · rw [if_neg h2]
            by_cases h3' : so = 3
            · rw [if_pos h3']
              have : n ≠ 0 := fun c => h3 ⟨h3', c⟩
              simp [textZ, this]
            · rw [if_neg h3']
    obtain ⟨z, hz0, hz1, hz2⟩ := hz
    rw [hz0]
    have H1 : Hid ((s.toList.isEmpty = true ∧ (so = 1 ∨ so = 2 ∧ (n = 0 ∨ n = 1))) → z = 0) := hz1
    have H2 : Hid (¬ (s.toList.isEmpty = true ∧ (so = 1 ∨ so = 2 ∧ (n = 0 ∨ n = 1))) → z = 1) := hz2
    clear hz0 hz1 hz2
    have hbw : ∀ o, Below w.heap.size w (w.alloc o) := fun o => (Below.refl _ _).alloc (Nat.le_refl _) o
    have H3 : Hid (¬ (so = 3 ∧ n = 0)) := h3
    clear h3
    by_cases b3 : so = 3
    · subst b3
      have hn0 : (n == 0) = false := by rw [beq_eq_false_iff_ne]; exact fun c => H3.out ⟨rfl, c⟩
      have hz1 : z = 1 := H2.out (by rintro ⟨_, h | ⟨h, _⟩⟩ <;> omega)
      subst hz1
      cases he : s.toList.isEmpty
      all_goals
        go_enter Tryz.func8, Tryz.ntmps8
        go_wp2
        go_ret
        exact ⟨rfl, hbw _⟩
    · have b3' : (so == 3) = false := by rw [beq_eq_false_iff_ne]; exact b3
      cases he : s.toList.isEmpty
      · have hz1 : z = 1 := H2.out (by rw [he]; simp)
        subst hz1
        clear b3
        go_enter Tryz.func8, Tryz.ntmps8
        go_wp2
        go_ret
        exact ⟨rfl, hbw _⟩
      · by_cases b1 : so = 1
        · subst b1
          have hz1 : z = 0 := H1.out ⟨he, .inl rfl⟩
          subst hz1
          clear b3
          go_enter Tryz.func8, Tryz.ntmps8
          go_wp2
          go_ret
          exact ⟨rfl, hbw _⟩
        · have b1' : (so == 1) = false := by rw [beq_eq_false_iff_ne]; exact b1
          by_cases b2 : so = 2
          · subst b2
            by_cases n0 : n = 0
            · subst n0
              have hz1 : z = 0 := H1.out ⟨he, .inr ⟨rfl, .inl rfl⟩⟩
              subst hz1
              clear b3 b1
              go_enter Tryz.func8, Tryz.ntmps8
              go_wp2
              go_ret
              exact ⟨rfl, hbw _⟩
            · have n0' : (n == 0) = false := by rw [beq_eq_false_iff_ne]; exact n0
              by_cases n1 : n = 1
              · subst n1
                have hz1 : z = 0 := H1.out ⟨he, .inr ⟨rfl, .inr rfl⟩⟩
                subst hz1
                clear b3 b1
                go_enter Tryz.func8, Tryz.ntmps8
                go_wp2
                go_ret
                exact ⟨rfl, hbw _⟩
              · have n1' : (n == 1) = false := by rw [beq_eq_false_iff_ne]; exact n1
                have hz1 : z = 1 := H2.out (by rintro ⟨_, h | ⟨_, h | h⟩⟩; omega; exact n0 h; exact n1 h)
                subst hz1
                clear b3 b1 n0 n1
                go_enter Tryz.func8, Tryz.ntmps8
                go_wp2
                go_ret
                exact ⟨rfl, hbw _⟩
          · have b2' : (so == 2) = false := by rw [beq_eq_false_iff_ne]; exact b2
            have hz1 : z = 1 := H2.out (by rintro ⟨_, h | ⟨h, _⟩⟩; exact b1 h; exact b2 h)
            subst hz1
            clear b3 b1 b2
            go_enter Tryz.func8, Tryz.ntmps8
            go_wp2
            go_ret
            exact ⟨rfl, hbw _⟩
end Go.Proofs.YtecapnipkngniaaGreatDoor

/-
  The contracts of duetref.truth, of what duetref.ValueOf makes of a number, of duetref.Order and duetref.Length.
-/
namespace Go.Proofs.YtecapnipkngniaaGreatDoor
open Go.RowKit Go.Shelf

set_option maxHeartbeats 1000000 in
theorem refTruth_any (b : Bool) (w : World) :
    Calls Tryz.prog 50 #[.bool b] w fun e w' => e = .returned (.agg #[.int .i64 2, .int .i64 (if b then 1 else 0), .string ⟨#[]⟩]) ∧ Below w.heap.size w w' := by
  cases b with
  | false =>
    go_enter Tryz.func50, Tryz.ntmps50
    go_wp2_with fail
    refine bodyPost_ret (v := .agg #[.int .i64 2, .int .i64 0, .string ⟨#[]⟩]) (by simp [results, Tryz.results50, go_sem]) rfl ⟨rfl, ?_⟩
    go_grown
  | true =>
    go_enter Tryz.func50, Tryz.ntmps50
    go_wp2_with fail
    refine bodyPost_ret (v := .agg #[.int .i64 2, .int .i64 1, .string ⟨#[]⟩]) (by simp [results, Tryz.results50, go_sem]) rfl ⟨rfl, ?_⟩
    go_grown
set_option maxHeartbeats 1000000 in
theorem whole_any (xb : Nat) (xn : Bool) (x : Nat) (w : World) (hx : IntAt w xb xn x) (hx4 : x < 4294967296 ^ 4) :
    Calls Tryz.prog 48 #[.pointer (some ⟨xb, 0, none⟩)] w fun e w' => e = .returned (.agg #[.int .i64 1, .int .i64 (wrap64 (sg xn x)), .string ⟨#[]⟩]) ∧ Below w.heap.size w w' := by
  have hA : Below w.heap.size w (w.alloc (.cells #[.int .i64 0, .int .i64 0, .string ⟨#[]⟩] 23)) := (Below.refl _ _).alloc (Nat.le_refl _) _
  have cO := over_any xb xn x _ (hx.keep hA) hx4
  have HZ := hideC (ZB.new w 23)
  have HA := hideC hA
  clear hx hA
  generalize wrap64 (sg xn x) = R at *
  go_enter Tryz.func48, Tryz.ntmps48
  go_wp2_with fail
  refine cO.mono ?_
  rintro e w1 ⟨rfl, hb1⟩
  obtain ⟨_, r0, r1, r2, f0, f1, f2⟩ := HZ.out.keep hb1
  have hbw : Below w.heap.size w w1 := HA.out.trans (hb1.mono (by simp))
  clear HZ HA cO hb1
  go_wp2_with fail
  refine bodyPost_ret (v := .agg #[.int .i64 1, .int .i64 R, .string ⟨#[]⟩]) (by simp [results, Tryz.results48, go_sem, r0, r1, r2]) rfl ⟨rfl, ?_⟩
  have hsz := hbw.size
  go_grown
theorem less_cmp : ∀ l l' : List UInt8, (Op.bytesLess l l' = true → Lib.compareBytes l l' = -1) ∧ (Op.bytesLess l l' = false → l = l' ∨ Lib.compareBytes l l' = 1)
  | [], [] => by simp [Op.bytesLess]
  | [], _ :: _ => by simp [Op.bytesLess, Lib.compareBytes]
  | _ :: _, [] => by simp [Op.bytesLess, Lib.compareBytes]
  | a :: l, b :: l' => by
    obtain ⟨h1, h2⟩ := less_cmp l l'
    unfold Op.bytesLess Lib.compareBytes
    by_cases hab : a < b
    · simp [hab]
    · by_cases hba : b < a
      · have hne : ¬ a = b := by rintro rfl; exact hab hba
        simp [hab, hba, hne]
      · have he : a = b := UInt8.le_antisymm (UInt8.not_lt.1 hba) (UInt8.not_lt.1 hab)
        subst he
        simp [hab]
        exact ⟨h1, h2⟩
theorem cmpb_self : ∀ l : List UInt8, Lib.compareBytes l l = 0
  | [] => rfl
  | a :: l => by unfold Lib.compareBytes; simp [UInt8.lt_irrefl, cmpb_self l]
set_option maxHeartbeats 2000000 in
theorem refOrder_any (so n : Int) (s : ByteArray) (so' n' : Int) (s' : ByteArray) (w : World) :
    Calls Tryz.prog 53 #[.agg #[.int .i64 so, .int .i64 n, .string s], .agg #[.int .i64 so', .int .i64 n', .string s']] w fun e w' => e = .returned (.int .i64 (ordZ so n s so' n' s')) ∧ Below w.heap.size w w' := by
  have hS : s.data.toList = s.toList := (ByteArray.toList_eq _).symm
  have hS' : s'.data.toList = s'.toList := (ByteArray.toList_eq _).symm
  unfold ordZ
  rw [hS, hS']
  clear hS hS'
  obtain ⟨hl1, hl2⟩ := less_cmp s.toList s'.toList
  have hl3 : s.toList = s'.toList → Lib.compareBytes s.toList s'.toList = 0 := fun h => by rw [h]; exact cmpb_self _
  have H1 := hideC hl1
  have H2 := hideC hl2
  have H3 := hideC hl3
  clear hl1 hl2 hl3
  generalize Lib.compareBytes s.toList s'.toList = Z at *
  go_enter Tryz.func53, Tryz.ntmps53
  go_wp2_with fail
  all_goals go_ret
  all_goals refine ⟨?_, by go_grown⟩
  all_goals simp only [firstNZ, cmpZ]
  all_goals refine congrArg (fun z => Ending.returned (Value.int .i64 z)) (?_ : (_ : Int) = _)
  all_goals have T1 := H1.out
  all_goals have T2 := H2.out
  all_goals have T3 := H3.out
  all_goals clear H1 H2 H3
  · rename_i h1 h2 h3
    rw [T3 h3, h1, h2]; simp
  · rename_i h1 h2 h3 h4
    rw [T1 h4, h1, h2]; simp
  · rename_i h1 h2 h3 h4
    rw [(T2 h4).resolve_left h3, h1, h2]; simp
  · rename_i h1 h2 h3 h4
    rw [h1]; clear T1 T2 T3; simp [h4]
  · rename_i h1 h2 h3
    rw [h1]; clear T1 T2 T3
    have h4 : n' < n := by omega
    have h5 : ¬ n < n' := by omega
    simp [h4, h5]
  · rename_i h1 h2 h3
    have h4 := h3.2
    clear T1 T2 T3; simp [h4]
  · rename_i h1 h2 h3
    exfalso
    have h4 := h2.2
    rcases h3 with h3 | h3
    · rw [h2.1] at h3; cases h3
    · omega
  · rename_i h1 h2
    have h4 : so' < so := by
      rcases h2 with h2 | h2
      · exfalso; apply h1; simpa using h2
      · omega
    have h5 : ¬ so < so' := by omega
    clear T1 T2 T3; simp [h4, h5]
end Go.Proofs.YtecapnipkngniaaGreatDoor

/-
  Plain mathematics: what Fold makes of an expression: it is right, has no more parts, the same sort and the same value, and folded again it is as it is; for every right expression.
-/
namespace Go.Proofs.YtecapnipkngniaaGreatDoor
open Go.RowKit

def Ex.lit (v : Vl) : Ex := ⟨1, ⟨#[]⟩, v.so, v.n, v.s, []⟩
/-- no names -/
def E0 : ByteArray → Int × Int := lookS [] []
def F0 : ByteArray → Vl := lookV []
theorem E0_bad (nm : ByteArray) : E0 nm = (0, 4) := rfl
/-- what folded makes of a part whose Kids are folded -/
def foldN (p : Ex) : Ex :=
  if p.kind ≠ 3 ∨ p.kids.any (fun k => k.kind != 1) = true then p else if (sortX E0 p).2 ≠ 0 then p else Ex.lit (valX F0 p)
def foldX : Ex → Ex
  | ⟨kd, nm, so, n, s, ks⟩ => foldN ⟨kd, nm, so, n, s, ks.map foldX⟩
theorem foldX_eq (x : Ex) : foldX x = foldN ⟨x.kind, x.name, x.so, x.n, x.s, x.kids.map foldX⟩ := by cases x; rw [foldX]
def sizeX : Ex → Nat
  | ⟨_, _, _, _, _, ks⟩ => 1 + (ks.map sizeX).sum
theorem sizeX_eq (x : Ex) : sizeX x = 1 + (x.kids.map sizeX).sum := by cases x; rw [sizeX]

theorem chkL_good (ks : List Ex) : ∀ (c : Nat), (∀ k ∈ ks, ∀ c, c + sizeX k ≤ 60 → chkP k c = (0, c + sizeX k)) → c + (ks.map sizeX).sum ≤ 60 → chkL ks (0, c) = (0, c + (ks.map sizeX).sum) := by
  induction ks with
  | nil => intro c _ _; rfl
  | cons x ks ih =>
    intro c h hc
    simp only [List.map_cons, List.sum_cons] at hc ⊢
    rw [chkL_cons, if_neg (by simp), h x (.head _) c (by omega), ih _ (fun k hk => h k (.tail _ hk)) (by omega)]
    simp only [Nat.add_assoc]
theorem chk_good : ∀ x : Ex, wfX x → ∀ c, c + sizeX x ≤ 60 → chkP x c = (0, c + sizeX x) := by
  apply exInd
  intro x ih hw c hc
  obtain ⟨hp, hv, hk⟩ := (wfX_eq x).1 hw
  have hs := sizeX_eq x
  rw [chkP_eq, if_neg (by omega), if_neg (by simp [hp])]
  by_cases h1 : x.kind = 1
  · rw [if_pos h1, hv h1]
    have := kind1_kids x hp h1
    rw [this] at hs; simp at hs; rw [hs]
  · rw [if_neg h1, chkL_good x.kids (c + 1) (fun k hm c hc => ih k hm (hk k hm) c hc) (by omega)]
    rw [hs]; simp only [Nat.add_assoc]
theorem chkL_size (ks : List Ex) : ∀ (a : Int × Nat), (∀ k ∈ ks, ∀ c, (chkP k c).1 = 0 → (chkP k c).2 = c + sizeX k) → (chkL ks a).1 = 0 → (chkL ks a).2 = a.2 + (ks.map sizeX).sum := by
  induction ks with
  | nil => intro a _ _; rfl
  | cons x ks ih =>
    intro a h h0
    rw [chkL_cons] at h0 ⊢
    simp only [List.map_cons, List.sum_cons]
    by_cases ha : a.1 ≠ 0
    · rw [if_pos ha, chkL_bad _ _ ha] at h0; exact absurd h0 ha
    · rw [if_neg ha] at h0 ⊢
      by_cases hx : (chkP x a.2).1 = 0
      · rw [ih _ (fun k hk => h k (.tail _ hk)) h0, h x (.head _) _ hx]; omega
      · rw [chkL_bad _ _ hx] at h0; exact absurd h0 hx
theorem chk_size_of : ∀ x : Ex, ∀ c, (chkP x c).1 = 0 → (chkP x c).2 = c + sizeX x := by
  apply exInd
  intro x ih c h
  have hs := sizeX_eq x
  rw [chkP_eq] at h ⊢
  by_cases h1 : 60 < c + 1
  · rw [if_pos h1] at h; exact absurd h (by simp)
  · rw [if_neg h1] at h ⊢
    by_cases h2 : partOK x = false
    · rw [if_pos h2] at h; exact absurd h (by simp)
    · rw [if_neg h2] at h ⊢
      by_cases h3 : x.kind = 1
      · rw [if_pos h3]
        have := kind1_kids x (by simpa using h2) h3
        rw [this] at hs; simp at hs; rw [hs]
      · rw [if_neg h3] at h ⊢
        rw [chkL_size x.kids (0, c + 1) ih h, hs]; simp only; omega
/-- Check lets by just what is right and has at most 60 parts -/
theorem chkX_iff (x : Ex) : chkX x = 0 ↔ wfX x ∧ sizeX x ≤ 60 := by
  constructor
  · intro h
    refine ⟨chk_wf x 0 h, ?_⟩
    have h1 := chk_size_of x 0 h
    have h2 := chkP_cnt x 0 (by omega) h
    omega
  · rintro ⟨h1, h2⟩
    unfold chkX; rw [chk_good x h1 0 (by omega)]

theorem wf_lit (v : Vl) (h : v.good) : wfX (Ex.lit v) := by
  rw [wfX_eq]; exact ⟨by simp [partOK, Ex.lit], fun _ => h, fun k hk => by cases hk⟩
theorem wf_op (nm : ByteArray) (ks : List Ex) (hk : ∀ k ∈ ks, wfX k) (ho : isOp nm.data.toList ks.length = true) : wfX ⟨3, nm, 0, 0, ⟨#[]⟩, ks⟩ := by
  rw [wfX_eq]; exact ⟨by simp [partOK, ho], fun h => by simp at h, hk⟩
/-- an operator, as it must be -/
theorem wf_form (x : Ex) (h : wfX x) (h3 : x.kind = 3) : x.so = 0 ∧ x.n = 0 ∧ x.s = ⟨#[]⟩ ∧ isOp x.name.data.toList x.kids.length = true := by
  obtain ⟨hp, _, _⟩ := (wfX_eq x).1 h
  unfold partOK at hp
  rw [if_neg (by omega), if_neg (by omega), if_pos h3] at hp
  simp only [Bool.and_eq_true, decide_eq_true_eq] at hp
  exact ⟨hp.1.1, hp.1.2.1, hp.1.2.2, hp.2⟩
theorem foldN_wf (p : Ex) (h : wfX p) : wfX (foldN p) := by
  unfold foldN
  split
  · exact h
  · split
    · exact h
    · rename_i hs
      have hs' : (sortX E0 p).2 = 0 := Decidable.not_not.1 hs
      exact wf_lit _ (sort_val E0 F0 (fun nm so hE => by rw [E0_bad] at hE; simp at hE) p h _ (Prod.ext rfl hs')).1
theorem foldN_size (p : Ex) : sizeX (foldN p) ≤ sizeX p := by
  unfold foldN
  split
  · exact Nat.le_refl _
  · split
    · exact Nat.le_refl _
    · rw [sizeX_eq p, sizeX_eq (Ex.lit _)]; simp [Ex.lit]
theorem sum_le (ks : List Ex) (h : ∀ k ∈ ks, sizeX (foldX k) ≤ sizeX k) : ((ks.map foldX).map sizeX).sum ≤ (ks.map sizeX).sum := by
  induction ks with
  | nil => exact Nat.le_refl _
  | cons x ks ih =>
    simp only [List.map_cons, List.sum_cons]
    have h1 := h x (.head _)
    have h2 := ih (fun k hk => h k (.tail _ hk))
    omega
theorem fold_size : ∀ x : Ex, sizeX (foldX x) ≤ sizeX x := by
  apply exInd
  intro x ih
  rw [foldX_eq, sizeX_eq x]
  refine Nat.le_trans (foldN_size _) ?_
  rw [sizeX_eq]
  have := sum_le x.kids ih
  simp only; omega
/-- what stands ahead of folded: the part with its Kids folded -/
theorem part_wf (x : Ex) (h : wfX x) (ih : ∀ k ∈ x.kids, wfX (foldX k)) : wfX ⟨x.kind, x.name, x.so, x.n, x.s, x.kids.map foldX⟩ := by
  by_cases h3 : x.kind = 3
  · obtain ⟨a, b, c, d⟩ := wf_form x h h3
    rw [h3, a, b, c]
    refine wf_op _ _ ?_ (by simpa using d)
    intro k hk
    obtain ⟨y, hy, rfl⟩ := List.mem_map.1 hk
    exact ih y hy
  · have : x.kids = [] := by
      rcases wf_cases x h with ⟨_, hk, _⟩ | ⟨_, hk, _⟩ | ⟨h', _⟩ | ⟨h', _⟩
      · exact hk
      · exact hk
      · exact absurd h' h3
      · exact absurd h' h3
    rw [this, List.map_nil, ← this]; cases x; exact h
theorem fold_wf : ∀ x : Ex, wfX x → wfX (foldX x) := by
  apply exInd
  intro x ih h
  rw [foldX_eq]
  exact foldN_wf _ (part_wf x h fun k hk => ih k hk (((wfX_eq x).1 h).2.2 k hk))
theorem fold_chk (x : Ex) (h : chkX x = 0) : chkX (foldX x) = 0 := by
  obtain ⟨h1, h2⟩ := (chkX_iff x).1 h
  exact (chkX_iff _).2 ⟨fold_wf x h1, Nat.le_trans (fold_size x) h2⟩

theorem foldN_cases (p : Ex) : foldN p = p ∨ (p.kind = 3 ∧ (∀ k ∈ p.kids, k.kind = 1) ∧ (sortX E0 p).2 = 0 ∧ foldN p = Ex.lit (valX F0 p)) := by
  unfold foldN
  by_cases h1 : p.kind ≠ 3 ∨ p.kids.any (fun k => k.kind != 1) = true
  · rw [if_pos h1]; exact .inl rfl
  · rw [if_neg h1]
    by_cases h2 : (sortX E0 p).2 ≠ 0
    · rw [if_pos h2]; exact .inl rfl
    · rw [if_neg h2]
      refine .inr ⟨Decidable.not_not.1 (fun h => h1 (.inl h)), fun k hk => ?_, Decidable.not_not.1 h2, rfl⟩
      apply Classical.byContradiction
      intro hn
      exact h1 (.inr (List.any_eq_true.2 ⟨k, hk, by simpa using hn⟩))
theorem fold_lit (v : Vl) : foldX (Ex.lit v) = Ex.lit v := by
  rw [foldX_eq]; unfold foldN Ex.lit; rw [if_pos (.inl (by simp))]; simp
theorem fold_twice : ∀ x : Ex, foldX (foldX x) = foldX x := by
  apply exInd
  intro x ih
  have e : ∀ ks : List Ex, (∀ k ∈ ks, foldX (foldX k) = foldX k) → (ks.map foldX).map foldX = ks.map foldX := by
    intro ks
    induction ks with
    | nil => intro _; rfl
    | cons y ks ihk => intro h; simp only [List.map_cons]; rw [h y (.head _), ihk fun k hk => h k (.tail _ hk)]
  rw [foldX_eq x]
  rcases foldN_cases ⟨x.kind, x.name, x.so, x.n, x.s, x.kids.map foldX⟩ with h | ⟨_, _, _, h⟩
  · conv => lhs; rw [h]
    rw [foldX_eq]
    simp only
    rw [e x.kids ih]
  · rw [h, fold_lit]
theorem fold_leaf (x : Ex) (h3 : x.kind ≠ 3) (hk : x.kids = []) : foldX x = x := by
  rw [foldX_eq]; unfold foldN; rw [if_pos (.inl h3), hk, List.map_nil, ← hk]; cases x; rfl
/-- the sort and the value of what is folded -/
theorem fold_same (E : ByteArray → Int × Int) (F : ByteArray → Vl) : ∀ x : Ex, wfX x → ∀ n, sortX E x = (n, 0) → sortX E (foldX x) = (n, 0) ∧ valX F (foldX x) = valX F x := by
  apply exInd
  intro x ih hw n hs
  have hE0 : ∀ nm so, E0 nm = (so, 0) → (F0 nm).good ∧ (F0 nm).so = so := fun nm so hE => by rw [E0_bad] at hE; simp at hE
  rcases wf_cases x hw with ⟨h, hk, hg⟩ | ⟨h, hk, _⟩ | ⟨h, a, hk, ha, hop⟩ | ⟨h, a, b, hk, ha, hb, hop⟩
  · rw [fold_leaf x (by omega) hk]; exact ⟨hs, rfl⟩
  · rw [fold_leaf x (by omega) hk]; exact ⟨hs, rfl⟩
  · have hpw := part_wf x hw fun k hm => fold_wf k (((wfX_eq x).1 hw).2.2 k hm)
    rw [hk] at hpw ih
    rw [foldX_eq, hk]
    simp only [List.map_cons, List.map_nil] at hpw ⊢
    rw [sort_one E x a h hk] at hs
    rw [val_one F x a h hk]
    have p2 : (sortX E a).2 = 0 := by
      unfold sort1 at hs
      split at hs
      · exact absurd (Prod.mk.inj hs).2 ‹_›
      · exact Decidable.not_not.1 ‹_›
    obtain ⟨s1, v1⟩ := ih a (by simp) ha (sortX E a).1 (Prod.ext rfl p2)
    have s1' : sortX E (foldX a) = sortX E a := by rw [s1]; exact Prod.ext rfl p2.symm
    have sp : sortX E ⟨x.kind, x.name, x.so, x.n, x.s, [foldX a]⟩ = (n, 0) := by rw [sort_one E ⟨x.kind, x.name, x.so, x.n, x.s, [foldX a]⟩ (foldX a) h rfl, s1']; exact hs
    have vp : valX F ⟨x.kind, x.name, x.so, x.n, x.s, [foldX a]⟩ = oneV x.name.data.toList (valX F a) := by rw [val_one F ⟨x.kind, x.name, x.so, x.n, x.s, [foldX a]⟩ (foldX a) h rfl, v1]
    rcases foldN_cases ⟨x.kind, x.name, x.so, x.n, x.s, [foldX a]⟩ with e | ⟨_, hl, _, e⟩
    · rw [e]; exact ⟨sp, vp⟩
    · have l1 : (foldX a).kind = 1 := hl (foldX a) (.head _)
      have se : sortX E0 ⟨x.kind, x.name, x.so, x.n, x.s, [foldX a]⟩ = sortX E ⟨x.kind, x.name, x.so, x.n, x.s, [foldX a]⟩ := by
        rw [sort_one E0 ⟨x.kind, x.name, x.so, x.n, x.s, [foldX a]⟩ (foldX a) h rfl, sort_one E ⟨x.kind, x.name, x.so, x.n, x.s, [foldX a]⟩ (foldX a) h rfl, sort_lit E0 _ l1, sort_lit E _ l1]
      have ve : valX F0 ⟨x.kind, x.name, x.so, x.n, x.s, [foldX a]⟩ = valX F ⟨x.kind, x.name, x.so, x.n, x.s, [foldX a]⟩ := by
        rw [val_one F0 ⟨x.kind, x.name, x.so, x.n, x.s, [foldX a]⟩ (foldX a) h rfl, val_one F ⟨x.kind, x.name, x.so, x.n, x.s, [foldX a]⟩ (foldX a) h rfl, val_lit F0 _ l1, val_lit F _ l1]
      obtain ⟨_, q⟩ := sort_val E0 F0 hE0 _ hpw n (se.trans sp)
      rw [e, sort_lit E _ rfl, val_lit F _ rfl]
      refine ⟨Prod.ext q rfl, ?_⟩
      rw [← vp, ← ve]; rfl
  · have hpw := part_wf x hw fun k hm => fold_wf k (((wfX_eq x).1 hw).2.2 k hm)
    rw [hk] at hpw ih
    rw [foldX_eq, hk]
    simp only [List.map_cons, List.map_nil] at hpw ⊢
    rw [sort_two E x a b h hk] at hs
    rw [val_two F x a b h hk]
    have p2 : (sortX E a).2 = 0 ∧ (sortX E b).2 = 0 := by
      unfold sort2 at hs
      split at hs
      · exact absurd (Prod.mk.inj hs).2 ‹_›
      · split at hs
        · exact absurd (Prod.mk.inj hs).2 (by decide)
        · split at hs
          · exact absurd (Prod.mk.inj hs).2 ‹_›
          · exact ⟨Decidable.not_not.1 ‹_›, Decidable.not_not.1 ‹_›⟩
    obtain ⟨s1, v1⟩ := ih a (by simp) ha (sortX E a).1 (Prod.ext rfl p2.1)
    obtain ⟨s2, v2⟩ := ih b (by simp) hb (sortX E b).1 (Prod.ext rfl p2.2)
    have s1' : sortX E (foldX a) = sortX E a := by rw [s1]; exact Prod.ext rfl p2.1.symm
    have s2' : sortX E (foldX b) = sortX E b := by rw [s2]; exact Prod.ext rfl p2.2.symm
    have sp : sortX E ⟨x.kind, x.name, x.so, x.n, x.s, [foldX a, foldX b]⟩ = (n, 0) := by rw [sort_two E ⟨x.kind, x.name, x.so, x.n, x.s, [foldX a, foldX b]⟩ (foldX a) (foldX b) h rfl, s1', s2']; exact hs
    have vp : valX F ⟨x.kind, x.name, x.so, x.n, x.s, [foldX a, foldX b]⟩ = twoV x.name.data.toList (valX F a) (valX F b) := by rw [val_two F ⟨x.kind, x.name, x.so, x.n, x.s, [foldX a, foldX b]⟩ (foldX a) (foldX b) h rfl, v1, v2]
    rcases foldN_cases ⟨x.kind, x.name, x.so, x.n, x.s, [foldX a, foldX b]⟩ with e | ⟨_, hl, _, e⟩
    · rw [e]; exact ⟨sp, vp⟩
    · have l1 : (foldX a).kind = 1 := hl (foldX a) (.head _)
      have l2 : (foldX b).kind = 1 := hl (foldX b) (.tail _ (.head _))
      have se : sortX E0 ⟨x.kind, x.name, x.so, x.n, x.s, [foldX a, foldX b]⟩ = sortX E ⟨x.kind, x.name, x.so, x.n, x.s, [foldX a, foldX b]⟩ := by
        rw [sort_two E0 ⟨x.kind, x.name, x.so, x.n, x.s, [foldX a, foldX b]⟩ (foldX a) (foldX b) h rfl, sort_two E ⟨x.kind, x.name, x.so, x.n, x.s, [foldX a, foldX b]⟩ (foldX a) (foldX b) h rfl, sort_lit E0 _ l1, sort_lit E _ l1, sort_lit E0 _ l2, sort_lit E _ l2]
      have ve : valX F0 ⟨x.kind, x.name, x.so, x.n, x.s, [foldX a, foldX b]⟩ = valX F ⟨x.kind, x.name, x.so, x.n, x.s, [foldX a, foldX b]⟩ := by
        rw [val_two F0 ⟨x.kind, x.name, x.so, x.n, x.s, [foldX a, foldX b]⟩ (foldX a) (foldX b) h rfl, val_two F ⟨x.kind, x.name, x.so, x.n, x.s, [foldX a, foldX b]⟩ (foldX a) (foldX b) h rfl, val_lit F0 _ l1, val_lit F _ l1, val_lit F0 _ l2, val_lit F _ l2]
      obtain ⟨_, q⟩ := sort_val E0 F0 hE0 _ hpw n (se.trans sp)
      rw [e, sort_lit E _ rfl, val_lit F _ rfl]
      refine ⟨Prod.ext q rfl, ?_⟩
      rw [← vp, ← ve]; rfl
end Go.Proofs.YtecapnipkngniaaGreatDoor
