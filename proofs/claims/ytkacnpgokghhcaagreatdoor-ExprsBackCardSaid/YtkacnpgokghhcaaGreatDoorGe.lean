/-
  What is written of an expression is read as it was.
-/
import Derived.Test.YtkacnpgokghhcaaGreatDoorGd
namespace Go.Proofs.YtkacnpgokghhcaaGreatDoor
open Go.RowKit Go.Shelf
section
variable (Z : List UInt8 → Int × Int × List UInt8 × Int)
/-- a value's text is read as the value -/
def ZL : Prop := ∀ so n s, chkZ vD so n s = 0 → -9223372036854775808 ≤ n → n ≤ 9223372036854775807 → ∀ r, nx r → OO Z (skB (wtL so n s ++ r)) (⟨1, ⟨#[]⟩, so, n, s, []⟩, skB r)
def BO (x : Ex) : Prop := ∀ r, nx r → x.kids.length ≠ 2 → OO Z (skB (wrX x ++ r)) (x, skB r)
def BE (x : Ex) : Prop := ∀ k r v, 1 ≤ k → k ≤ lev x → nx r → lvl (opAh (skB r)) ≤ lev x → LL Z k x (skB r) v → EE Z k (skB (wrX x ++ r)) v
theorem lev_1 (x : Ex) (h : wfX x) : 1 ≤ lev x := by
  unfold lev
  split
  · rename_i h2
    have h3 := wf_two x h h2
    have := (wf_form x h h3).2.2.2
    rw [h2] at this
    simp [isOp] at this
    omega
  · omega
/-- in brackets it is an operand -/
theorem BO_br (x : Ex) (h : wfX x) (hE : BE Z x) (r : List UInt8) : OO Z (40 :: (wrX x ++ 41 :: r)) (x, skB r) := by
  apply OO_br
  have hs : skB (41 :: r) = 41 :: r := skB_cons 41 r (by decide)
  have h0 : opAh (41 :: r) = [] := opAh_stp _ (.inr rfl)
  have hl : lvl [] = 0 := by decide
  have := lev_1 x h
  have := hE 1 (41 :: r) (x, 41 :: r) (by omega) (by omega) (.inr (.inr rfl)) (by rw [hs, h0, hl]; omega) (by rw [hs]; exact LL_stop Z 1 x _ (by rw [h0]; decide))
  exact this
/-- beside an operator of one -/
theorem BO_6 (x : Ex) (h : wfX x) (hO : BO Z x) (hE : BE Z x) (r : List UInt8) (hr : nx r) : OO Z (skB (brX x 6 ++ r)) (x, skB r) := by
  rw [br_one x h]
  split
  · have := BO_br Z x h hE r
    rw [show [40] ++ wrX x ++ [41] ++ r = 40 :: (wrX x ++ 41 :: r) by simp, skB_cons 40 _ (by decide)]
    exact this
  · rename_i h2; exact hO r hr h2
/-- beside an operator of two -/
theorem BE_br (x : Ex) (h : wfX x) (hE : BE Z x) (j k : Int) (r : List UInt8) (v : Ex × List UInt8) (hk : 1 ≤ k) (hkj : k ≤ j) (hj : j ≤ 6) (hr : nx r) (ho : lvl (opAh (skB r)) ≤ j) (hv : LL Z k x (skB r) v) : EE Z k (skB (brX x j ++ r)) v := by
  rw [br_ref x h]
  split
  · have := BO_br Z x h hE r
    rw [show [40] ++ wrX x ++ [41] ++ r = 40 :: (wrX x ++ 41 :: r) by simp, skB_cons 40 _ (by decide)]
    exact EE_of Z this hv
  · rename_i h2
    have : j ≤ lev x := by
      unfold lev
      split
      · rename_i h3
        have : ¬ lvl x.name.data.toList < j := fun h => h2 ⟨h3, h⟩
        omega
      · exact hj
    exact hE k r v hk (by omega) hr (by omega) hv
theorem BE_leaf (x : Ex) (hO : BO Z x) (h2 : x.kids.length ≠ 2) : BE Z x := fun _ r _ _ _ hr _ hv => EE_of Z (hO r hr h2) hv
theorem bs_back (b : ByteArray) : bs b.data.toList = b := by simp [bs]
theorem back_two (nm : ByteArray) (a b : Ex) (ha : wfX a) (hb : wfX b) (hl : 0 < lvl nm.data.toList) (hA : BE Z a) (hB : BE Z b) : BE Z ⟨3, nm, 0, 0, ⟨#[]⟩, [a, b]⟩ := by
  intro k r v hk hkl hr ho hv
  have hlev : lev ⟨3, nm, 0, 0, ⟨#[]⟩, [a, b]⟩ = lvl nm.data.toList := by unfold lev; simp
  rw [hlev] at hkl ho
  have h5 := lvl_le nm.data.toList
  rw [wr_two _ a b rfl rfl]
  dsimp only
  rw [show brX a (lvl nm.data.toList) ++ [32] ++ nm.data.toList ++ [32] ++ brX b (lvl nm.data.toList + 1) ++ r = brX a (lvl nm.data.toList) ++ (32 :: (nm.data.toList ++ 32 :: (brX b (lvl nm.data.toList + 1) ++ r))) by simp]
  obtain ⟨o1, o2⟩ := op_self nm.data.toList hl (brX b (lvl nm.data.toList + 1) ++ r)
  refine BE_br Z a ha hA _ k _ v hk hkl (by omega) (.inr (.inl rfl)) ?_ ?_
  · rw [skB_32, o2, o1]; omega
  · rw [skB_32, o2]
    refine LL_step Z (y := b) (r := skB r) (by rw [o1]; omega) ?_ ?_
    · rw [o1, show (nm.data.toList ++ 32 :: (brX b (lvl nm.data.toList + 1) ++ r)).drop nm.data.toList.length = 32 :: (brX b (lvl nm.data.toList + 1) ++ r) by simp, skB_32]
      exact BE_br Z b hb hB _ _ r _ (by omega) (by omega) (by omega) hr (by omega) (LL_stop Z _ b _ (by omega))
    · rw [o1, bs_back]; exact hv
theorem back_one (nm : ByteArray) (a : Ex) (ha : wfX a) (ho : isOp nm.data.toList 1 = true) (hO : BO Z a) (hE : BE Z a) : BO Z ⟨3, nm, 0, 0, ⟨#[]⟩, [a]⟩ := by
  intro r hr _
  rw [wr_one _ a rfl rfl]
  dsimp only
  have := BO_6 Z a ha hO hE r hr
  rw [List.append_assoc]
  simp [isOp] at ho
  rcases ho with h | h | h
  · rw [h, show aheadL [110, 111, 116] = [110, 111, 116, 32] by decide]
    have h2 := OO_not Z this
    rw [← h, bs_back] at h2
    rw [show [110, 111, 116, 32] ++ (brX a 6 ++ r) = 110 :: 111 :: 116 :: 32 :: (brX a 6 ++ r) by rfl, skB_cons 110 _ (by decide)]
    exact h2
  · rw [h, show aheadL [110, 101, 103] = [45, 32] by decide]
    have h2 := OO_neg Z this
    rw [← h, bs_back] at h2
    rw [show [45, 32] ++ (brX a 6 ++ r) = 45 :: 32 :: (brX a 6 ++ r) by rfl, skB_cons 45 _ (by decide)]
    exact h2
  · rw [h, show aheadL [35] = [35] by decide]
    have h2 := OO_num Z this
    rw [← h, bs_back] at h2
    rw [show [35] ++ (brX a 6 ++ r) = 35 :: (brX a 6 ++ r) by rfl, skB_cons 35 _ (by decide)]
    exact h2
theorem back_all (hZ : ZL Z) : ∀ x : Ex, wfX x → inL x → BO Z x ∧ BE Z x := by
  refine exInd _ ?_
  rintro ⟨kd, nm, so, n, s, ks⟩ ih hw hi
  have hw' := (wfX_eq _).1 hw
  have hi' := (inL_eq _).1 hi
  dsimp only at hw' hi' ih
  obtain ⟨hp, hv, hks⟩ := hw'
  unfold partOK at hp
  dsimp only at hp
  split at hp
  · rename_i h1; subst h1
    simp at hp
    obtain ⟨rfl, rfl⟩ := hp
    have hO : BO Z ⟨1, ⟨#[]⟩, so, n, s, []⟩ := by
      intro r hr _
      rw [wr_lit _ rfl]
      exact hZ so n s (hv rfl) hi'.1.1 hi'.1.2 r hr
    exact ⟨hO, BE_leaf Z _ hO (by simp)⟩
  · split at hp
    · rename_i h1; subst h1
      simp at hp
      obtain ⟨hn, rfl, rfl, rfl, rfl⟩ := hp
      have hO : BO Z ⟨2, nm, 0, 0, ⟨#[]⟩, []⟩ := by
        intro r hr _
        rw [wr_name _ rfl]
        exact OO_name Z nm r hn hr
      exact ⟨hO, BE_leaf Z _ hO (by simp)⟩
    · split at hp
      · rename_i h1; subst h1
        simp at hp
        obtain ⟨⟨rfl, rfl, rfl⟩, ho⟩ := hp
        match ks, ho, ih, hks, hi', hw with
        | [], ho, _, _, _, _ => simp [isOp] at ho
        | [a], ho, ih, hks, hi', hw =>
          obtain ⟨hO, hE⟩ := ih a (by simp) (hks a (by simp)) (hi'.2 a (by simp))
          have h := back_one Z nm a (hks a (by simp)) ho hO hE
          exact ⟨h, BE_leaf Z _ h (by simp)⟩
        | [a, b], ho, ih, hks, hi', hw =>
          obtain ⟨_, hA⟩ := ih a (by simp) (hks a (by simp)) (hi'.2 a (by simp))
          obtain ⟨_, hB⟩ := ih b (by simp) (hks b (by simp)) (hi'.2 b (by simp))
          simp [isOp] at ho
          exact ⟨fun r _ h2 => (h2 rfl).elim, back_two Z nm a b (hks a (by simp)) (hks b (by simp)) ho hA hB⟩
        | a :: b :: c :: l, ho, _, _, _, _ => simp [isOp] at ho
      · cases hp
/-- P8: what is written is read -/
theorem wrX_back (hZ : ZL Z) (x : Ex) (hw : wfX x) (hi : inL x) : EE Z 1 (skB (wrX x)) (x, []) := by
  have h := (back_all Z hZ x hw hi).2 1 [] (x, []) (by omega) (lev_1 x hw) (.inl rfl) (by have := lev_1 x hw; show lvl (opAh []) ≤ _; rw [opAh_nil, show lvl [] = 0 by decide]; omega) (LL_stop Z 1 x _ (by decide))
  rw [List.append_nil] at h
  exact h
end
end Go.Proofs.YtkacnpgokghhcaaGreatDoor
