/-
  What is written of an expression is read as it was.
-/
import Derived.Test.YtipolobikigmbaaGreatDoorGd
import Derived.Test.YtipolobikigmbaaGreatDoorFs
namespace Go.Proofs.YtipolobikigmbaaGreatDoor
open Go.RowKit Go.Shelf
section
variable (Z : List UInt8 → Int × Int × List UInt8 × Int)
/-- a value's text is read as the value -/
def ZL : Prop := ∀ so n s, chkZ vD so n s = 0 → -9223372036854775808 ≤ n → n ≤ 9223372036854775807 → ∀ r, nx r → OO Z (skB (wtL so n s ++ r)) (⟨1, ⟨#[]⟩, so, n, s, []⟩, skB r)
def BO (x : Ex) : Prop := ∀ r, nx r → x.kids.length ≠ 2 → OO Z (skB (wrX x ++ r)) (x, skB r)
def BE (x : Ex) : Prop := ∀ k r v, 1 ≤ k → k ≤ lev x → nx r → lvl (opAh (skB r)) ≤ lev x → LL Z k x (skB r) v → EE Z k (skB (wrX x ++ r)) v
theorem lev_1 (x : Ex) (h : wfX x) : 1 ≤ lev x := by
  unfold lev
  split
  · rename_i h2
    have h3 := wf_two x h h2
    have := (wf_form x h h3).2.2.2
    rw [h2] at this
    simp [isOp] at this
    omega
  · omega
/-- in brackets it is an operand -/
theorem BO_br (x : Ex) (h : wfX x) (hE : BE Z x) (r : List UInt8) : OO Z (40 :: (wrX x ++ 41 :: r)) (x, skB r) := by
  apply OO_br
  have hs : skB (41 :: r) = 41 :: r := skB_cons 41 r (by decide)
  have h0 : opAh (41 :: r) = [] := opAh_stp _ (.inr rfl)
  have hl : lvl [] = 0 := by decide
  have := lev_1 x h
  have := hE 1 (41 :: r) (x, 41 :: r) (by omega) (by omega) (.inr (.inr rfl)) (by rw [hs, h0, hl]; omega) (by rw [hs]; exact LL_stop Z 1 x _ (by rw [h0]; decide))
  exact this
/-- beside an operator of one -/
theorem BO_6 (x : Ex) (h : wfX x) (hO : BO Z x) (hE : BE Z x) (r : List UInt8) (hr : nx r) : OO Z (skB (brX x 6 ++ r)) (x, skB r) := by
  rw [br_one x h]
  split
  · have := BO_br Z x h hE r
    rw [show [40] ++ wrX x ++ [41] ++ r = 40 :: (wrX x ++ 41 :: r) by simp, skB_cons 40 _ (by decide)]
    exact this
  · rename_i h2; exact hO r hr h2
/-- beside an operator of two -/
theorem BE_br (x : Ex) (h : wfX x) (hE : BE Z x) (j k : Int) (r : List UInt8) (v : Ex × List UInt8) (hk : 1 ≤ k) (hkj : k ≤ j) (hj : j ≤ 6) (hr : nx r) (ho : lvl (opAh (skB r)) ≤ j) (hv : LL Z k x (skB r) v) : EE Z k (skB (brX x j ++ r)) v := by
  rw [br_ref x h]
  split
  · have := BO_br Z x h hE r
    rw [show [40] ++ wrX x ++ [41] ++ r = 40 :: (wrX x ++ 41 :: r) by simp, skB_cons 40 _ (by decide)]
    exact EE_of Z this hv
  · rename_i h2
    have : j ≤ lev x := by
      unfold lev
      split
      · rename_i h3
        have : ¬ lvl x.name.data.toList < j := fun h => h2 ⟨h3, h⟩
        omega
      · exact hj
    exact hE k r v hk (by omega) hr (by omega) hv
theorem BE_leaf (x : Ex) (hO : BO Z x) (h2 : x.kids.length ≠ 2) : BE Z x := fun _ r _ _ _ hr _ hv => EE_of Z (hO r hr h2) hv
theorem bs_back (b : ByteArray) : bs b.data.toList = b := by simp [bs]
theorem back_two (nm : ByteArray) (a b : Ex) (ha : wfX a) (hb : wfX b) (hl : 0 < lvl nm.data.toList) (hA : BE Z a) (hB : BE Z b) : BE Z ⟨3, nm, 0, 0, ⟨#[]⟩, [a, b]⟩ := by
  intro k r v hk hkl hr ho hv
  have hlev : lev ⟨3, nm, 0, 0, ⟨#[]⟩, [a, b]⟩ = lvl nm.data.toList := by unfold lev; simp
  rw [hlev] at hkl ho
  have h5 := lvl_le nm.data.toList
  rw [wr_two _ a b rfl rfl]
  dsimp only
  rw [show brX a (lvl nm.data.toList) ++ [32] ++ nm.data.toList ++ [32] ++ brX b (lvl nm.data.toList + 1) ++ r = brX a (lvl nm.data.toList) ++ (32 :: (nm.data.toList ++ 32 :: (brX b (lvl nm.data.toList + 1) ++ r))) by simp]
  obtain ⟨o1, o2⟩ := op_self nm.data.toList hl (brX b (lvl nm.data.toList + 1) ++ r)
  refine BE_br Z a ha hA _ k _ v hk hkl (by omega) (.inr (.inl rfl)) ?_ ?_
  · rw [skB_32, o2, o1]; omega
  · rw [skB_32, o2]
    refine LL_step Z (y := b) (r := skB r) (by rw [o1]; omega) ?_ ?_
    · rw [o1, show (nm.data.toList ++ 32 :: (brX b (lvl nm.data.toList + 1) ++ r)).drop nm.data.toList.length = 32 :: (brX b (lvl nm.data.toList + 1) ++ r) by simp, skB_32]
      exact BE_br Z b hb hB _ _ r _ (by omega) (by omega) (by omega) hr (by omega) (LL_stop Z _ b _ (by omega))
    · rw [o1, bs_back]; exact hv
theorem back_one (nm : ByteArray) (a : Ex) (ha : wfX a) (ho : isOp nm.data.toList 1 = true) (hO : BO Z a) (hE : BE Z a) : BO Z ⟨3, nm, 0, 0, ⟨#[]⟩, [a]⟩ := by
  intro r hr _
  rw [wr_one _ a rfl rfl]
  dsimp only
  have := BO_6 Z a ha hO hE r hr
  rw [List.append_assoc]
  simp [isOp] at ho
  rcases ho with h | h | h
  · rw [h, show aheadL [110, 111, 116] = [110, 111, 116, 32] by decide]
    have h2 := OO_not Z this
    rw [← h, bs_back] at h2
    rw [show [110, 111, 116, 32] ++ (brX a 6 ++ r) = 110 :: 111 :: 116 :: 32 :: (brX a 6 ++ r) by rfl, skB_cons 110 _ (by decide)]
    exact h2
  · rw [h, show aheadL [110, 101, 103] = [45, 32] by decide]
    have h2 := OO_neg Z this
    rw [← h, bs_back] at h2
    rw [show [45, 32] ++ (brX a 6 ++ r) = 45 :: 32 :: (brX a 6 ++ r) by rfl, skB_cons 45 _ (by decide)]
    exact h2
  · rw [h, show aheadL [35] = [35] by decide]
    have h2 := OO_num Z this
    rw [← h, bs_back] at h2
    rw [show [35] ++ (brX a 6 ++ r) = 35 :: (brX a 6 ++ r) by rfl, skB_cons 35 _ (by decide)]
    exact h2
theorem back_all (hZ : ZL Z) : ∀ x : Ex, wfX x → inL x → BO Z x ∧ BE Z x := by
  refine exInd _ ?_
  rintro ⟨kd, nm, so, n, s, ks⟩ ih hw hi
  have hw' := (wfX_eq _).1 hw
  have hi' := (inL_eq _).1 hi
  dsimp only at hw' hi' ih
  obtain ⟨hp, hv, hks⟩ := hw'
  unfold partOK at hp
  dsimp only at hp
  split at hp
  · rename_i h1; subst h1
    simp at hp
    obtain ⟨rfl, rfl⟩ := hp
    have hO : BO Z ⟨1, ⟨#[]⟩, so, n, s, []⟩ := by
      intro r hr _
      rw [wr_lit _ rfl]
      exact hZ so n s (hv rfl) hi'.1.1 hi'.1.2 r hr
    exact ⟨hO, BE_leaf Z _ hO (by simp)⟩
  · split at hp
    · rename_i h1; subst h1
      simp at hp
      obtain ⟨hn, rfl, rfl, rfl, rfl⟩ := hp
      have hO : BO Z ⟨2, nm, 0, 0, ⟨#[]⟩, []⟩ := by
        intro r hr _
        rw [wr_name _ rfl]
        exact OO_name Z nm r hn hr
      exact ⟨hO, BE_leaf Z _ hO (by simp)⟩
    · split at hp
      · rename_i h1; subst h1
        simp at hp
        obtain ⟨⟨rfl, rfl, rfl⟩, ho⟩ := hp
        match ks, ho, ih, hks, hi', hw with
        | [], ho, _, _, _, _ => simp [isOp] at ho
        | [a], ho, ih, hks, hi', hw =>
          obtain ⟨hO, hE⟩ := ih a (by simp) (hks a (by simp)) (hi'.2 a (by simp))
          have h := back_one Z nm a (hks a (by simp)) ho hO hE
          exact ⟨h, BE_leaf Z _ h (by simp)⟩
        | [a, b], ho, ih, hks, hi', hw =>
          obtain ⟨_, hA⟩ := ih a (by simp) (hks a (by simp)) (hi'.2 a (by simp))
          obtain ⟨_, hB⟩ := ih b (by simp) (hks b (by simp)) (hi'.2 b (by simp))
          simp [isOp] at ho
          exact ⟨fun r _ h2 => (h2 rfl).elim, back_two Z nm a b (hks a (by simp)) (hks b (by simp)) ho hA hB⟩
        | a :: b :: c :: l, ho, _, _, _, _ => simp [isOp] at ho
      · cases hp
/-- P8: what is written is read -/
theorem wrX_back (hZ : ZL Z) (x : Ex) (hw : wfX x) (hi : inL x) : EE Z 1 (skB (wrX x)) (x, []) := by
  have h := (back_all Z hZ x hw hi).2 1 [] (x, []) (by omega) (lev_1 x hw) (.inl rfl) (by have := lev_1 x hw; show lvl (opAh []) ≤ _; rw [opAh_nil, show lvl [] = 0 by decide]; omega) (LL_stop Z 1 x _ (by decide))
  rw [List.append_nil] at h
  exact h
end
end Go.Proofs.YtipolobikigmbaaGreatDoor
/-
  The contracts of values.unescaped and values.unquoted, for every text of at most 2^48 bytes.
-/
namespace Go.Proofs.YtipolobikigmbaaGreatDoor
open Go.RowKit Go.Shelf

def unescZ (c : UInt8) : Int := match unesc c with | some d => (d.toNat : Int) | none => 0
set_option maxHeartbeats 400000 in
theorem unescaped_any (c : UInt8) (w : World) :
    Calls Tryz.prog 195 #[.int .u8 (c.toNat : Int)] w fun e w' => e = .returned (.tuple #[.int .u8 (unescZ c), .bool (unesc c).isSome]) ∧ w' = w := by
  by_cases h92 : c = 92
  · subst h92
    go_enter Tryz.func195, Tryz.ntmps195
    go_wp2
    go_ret2
    exact ⟨rfl, rfl⟩
  · by_cases h34 : c = 34
    · subst h34
      go_enter Tryz.func195, Tryz.ntmps195
      go_wp2
      go_ret2
      exact ⟨rfl, rfl⟩
    · by_cases h110 : c = 110
      · subst h110
        go_enter Tryz.func195, Tryz.ntmps195
        go_wp2
        go_ret2
        exact ⟨rfl, rfl⟩
      · have e1 : unesc c = none := by simp [unesc, h92, h34, h110]
        have e2 : unescZ c = 0 := by simp [unescZ, e1]
        rw [e1, e2]
        have b92 : ((c.toNat : Int) == 92) = false := byte_ne c 92 h92
        have b34 : ((c.toNat : Int) == 34) = false := byte_ne c 34 h34
        have b110 : ((c.toNat : Int) == 110) = false := byte_ne c 110 h110
        clear e1 e2 h92 h34 h110
        go_enter Tryz.func195, Tryz.ntmps195
        go_wp2
        go_ret2
        exact ⟨rfl, rfl⟩

theorem unq_shift {U A B : Option (List UInt8)} {acc : List UInt8} {x : UInt8} (h : U = A.map (acc ++ ·)) (h2 : A = B.map (x :: ·)) : U = B.map ((acc ++ [x]) ++ ·) := by
  rw [h, h2]
  cases B <;> simp
theorem tk_small {acc : List UInt8} (x : UInt8) (h : acc.length ≤ 100) : (acc ++ [x]).take 101 = acc.take 101 ++ [x] := by
  rw [List.take_of_length_le (by simp; omega), List.take_of_length_le (by omega)]
theorem tk_big {acc : List UInt8} (x : UInt8) (h : 101 ≤ acc.length) : (acc ++ [x]).take 101 = acc.take 101 := by
  rw [List.take_append_of_le_length h]
theorem unq_end (c : UInt8) (r : List UInt8) (h : c = 34 ∨ c = 10) : unq (c :: r) = none := by unfold unq; rw [if_pos h]
theorem unq_plain (c : UInt8) (r : List UInt8) (h1 : c ≠ 34) (h2 : c ≠ 10) (h3 : c ≠ 92) : unq (c :: r) = (unq r).map (c :: ·) := by
  conv => lhs; unfold unq
  rw [if_neg (by simp [h1, h2]), if_neg h3]
theorem unq_esc1 : unq [92] = none := by simp [unq]
theorem unq_esc2 (d : UInt8) (r : List UInt8) : unq (92 :: d :: r) = match unesc d with | none => none | some x => (unq r).map (x :: ·) := by
  conv => lhs; unfold unq
  rw [if_neg (by decide), if_pos rfl]
  cases h : unesc d <;> simp [h]
theorem unq_start (U : Option (List UInt8)) : U = U.map ([] ++ ·) := by cases U <;> simp
/-- what values.unquoted tells -/
def UPost (B : Nat) (o : Option (List UInt8)) (e : Ending) (w' : World) : Prop :=
  (o = none → e = .returned (.tuple #[.slice none 0 0, .bool false])) ∧ (∀ t, o = some t → ∃ v, e = .returned (.tuple #[v, .bool true]) ∧ w'.ownsRowF B 5 1 v (t.take 101).length (Lib.byteCells (t.take 101)))
theorem UPost.no {B : Nat} {o : Option (List UInt8)} {e : Ending} {w' : World} (h : o = none) (he : e = .returned (.tuple #[.slice none 0 0, .bool false])) : UPost B o e w' := ⟨fun _ => he, fun t ht => by rw [h] at ht; cases ht⟩
theorem UPost.yes {B : Nat} {o : Option (List UInt8)} {e : Ending} {w' : World} {t : List UInt8} {v : Value} (h : o = some t) (he : e = .returned (.tuple #[v, .bool true])) (hw : w'.ownsRowF B 5 1 v (t.take 101).length (Lib.byteCells (t.take 101))) : UPost B o e w' :=
  ⟨fun hn => (by rw [h] at hn; cases hn), fun t' ht => (by rw [h] at ht; cases ht; exact ⟨v, he, hw⟩)⟩
theorem drop_cons (s : ByteArray) (k : Nat) (h : k < s.size) : s.data.toList.drop k = s[k] :: s.data.toList.drop (k + 1) := by
  rw [List.drop_eq_getElem_cons (by simpa using h)]; rfl

set_option maxHeartbeats 2000000 in
set_option maxRecDepth 100000 in
theorem unquoted_any (s : ByteArray) (w : World) (hs : s.size ≤ 281474976710656) :
    Calls Tryz.prog 188 #[.string s] w fun e w' => UPost w.heap.size (unq s.data.toList) e w' ∧ Below w.heap.size w w' := by
  obtain ⟨i0, hi, hz0, hz1, hz2⟩ := info_parts infoByte
  go_enter Tryz.func188, Tryz.ntmps188
  go_wp2_with fail
  go_loopw [2, 4] (fun t i wr => ∃ (k : Nat) (acc tl : List UInt8), k ≤ s.size ∧ i = .int .i64 (k : Int) ∧ unq s.data.toList = (unq (s.data.toList.drop k)).map (acc ++ ·) ∧ tl = acc.take 101 ∧ wr.ownsRowF w.heap.size 5 1 t tl.length (Lib.byteCells tl) ∧ Below w.heap.size w wr) (fun t i wr => s.size - (intOf i).toNat)
  case atStart => exact ⟨0, [], [], Nat.zero_le _, rfl, by rw [List.drop_zero]; exact unq_start _, rfl, World.ownsRowF_nil _ _ _ _, Below.refl _ _⟩
  case round =>
    obtain ⟨k, acc, tl, hk, rfl, hun, htl, hown, hbw⟩ := hrel
    have HTL : Hid (tl = acc.take 101) := htl
    have hl101 : tl.length ≤ 101 := by rw [htl]; exact List.length_take_le _ _
    have hlm : tl.length = min 101 acc.length := by rw [htl, List.length_take]
    have HLM : Hid (tl.length = min 101 acc.length) := hlm
    clear htl hlm
    have HU : Hid (unq s.data.toList = (unq (s.data.toList.drop k)).map (acc ++ ·)) := hun
    clear hun
    have hsz := hbw.size
    obtain ⟨ao, cap, rfl⟩ : ∃ ao cap, u2 = .slice ao tl.length cap := by
      rcases hown.2 with ⟨hv, h0⟩ | ⟨g, cap, cur, fz, hv, _⟩
      · exact ⟨none, 0, by rw [hv, h0]⟩
      · exact ⟨_, _, hv⟩
    by_cases hlt : k < s.size
    · have hkz : (k : Int) < (s.size : Int) := by omega
      have hkb : (k : Int) ≤ 281474976710656 := by omega
      have HD : Hid (s.data.toList.drop k = s[k] :: s.data.toList.drop (k + 1)) := drop_cons s k hlt
      by_cases h34 : s[k] = 34
      · have b34 : ((s[k].toNat : Int) == 34) = true := by rw [h34]; rfl
        have HN : Hid (unq s.data.toList = none) := by
          show _ = _
          rw [HU.out, HD.out, unq_end _ _ (.inl h34)]; rfl
        clear h34
        go_wp2
        go_ret2
        exact ⟨UPost.no HN.out rfl, hbw⟩
      · have b34 : ((s[k].toNat : Int) == 34) = false := byte_ne s[k] 34 h34
        by_cases h10 : s[k] = 10
        · have b10 : ((s[k].toNat : Int) == 10) = true := by rw [h10]; rfl
          have HN : Hid (unq s.data.toList = none) := by
            show _ = _
            rw [HU.out, HD.out, unq_end _ _ (.inr h10)]; rfl
          clear h34 h10
          go_wp2
          go_ret2
          exact ⟨UPost.no HN.out rfl, hbw⟩
        · have b10 : ((s[k].toNat : Int) == 10) = false := byte_ne s[k] 10 h10
          by_cases h92 : s[k] = 92
          · have b92 : ((s[k].toNat : Int) == 92) = true := by rw [h92]; rfl
            rw [h92] at HD
            clear h34 h10 h92
            by_cases hlt2 : k + 1 < s.size
            · have hkz2 : (k : Int) + 1 < (s.size : Int) := by omega
              have hkne : ((k : Int) + 1 == (s.size : Int)) = false := by simp; omega
              have HD2 : Hid (s.data.toList.drop (k + 1) = s[k + 1] :: s.data.toList.drop (k + 1 + 1)) := drop_cons s (k + 1) hlt2
              have cU := unescaped_any s[k + 1]
              cases hue : unesc s[k + 1] with
              | none =>
                have HN : Hid (unq s.data.toList = none) := by
                  show _ = _
                  rw [HU.out, HD.out, HD2.out, unq_esc2, hue]; rfl
                rw [hue] at cU
                have CU : Hid (∀ (W : World), Calls Tryz.prog 195 #[.int .u8 (s[k + 1].toNat : Int)] W fun e w' => e = .returned (.tuple #[.int .u8 (unescZ s[k + 1]), .bool false]) ∧ w' = W) := cU
                clear cU hue
                go_wp2_with fail
                refine (CU.out _).mono ?_
                rintro e w2 ⟨rfl, rfl⟩
                go_wp2
                go_ret2
                exact ⟨UPost.no HN.out rfl, hbw⟩
              | some x =>
                have HS : Hid (unq s.data.toList = (unq (s.data.toList.drop (k + 1 + 1))).map ((acc ++ [x]) ++ ·)) := by
                  refine unq_shift HU.out ?_
                  rw [HD.out, HD2.out, unq_esc2, hue]
                have hux : unescZ s[k + 1] = (x.toNat : Int) := by unfold unescZ; rw [hue]
                rw [hue, hux] at cU
                have CU : Hid (∀ (W : World), Calls Tryz.prog 195 #[.int .u8 (s[k + 1].toNat : Int)] W fun e w' => e = .returned (.tuple #[.int .u8 (x.toNat : Int), .bool true]) ∧ w' = W) := cU
                clear cU hue hux
                go_wp2_with fail
                refine (CU.out _).mono ?_
                rintro e w2 ⟨rfl, rfl⟩
                by_cases hsm : acc.length ≤ 100
                · have hn : tl.length ≤ 100 := by have := HLM.out; omega
                  have hnz : (tl.length : Int) ≤ 100 := by omega
                  go_wp2_with (at_builtin; refine wpList_append_ownF _ rfl _ _ 50 rfl w.heap.size 5 i0 (.int .u8 0) 1 1 Tryz.underlying50 hi hz0 hz1 hz2 rfl (by decide) _ _ _ rfl (hown.alloc _) ⟨w2.heap.size, 0, none⟩ 1 1 [.int .u8 ((x).toNat : Int)] rfl rfl ?c1 ?c2 ?c3 ?c4 ?c5 ?_)
                  case c1 =>
                    intro j u hj
                    match j, hj with
                    | 0, hj => simp at hj; subst hj; simp [Addr.add]
                  case c2 => intro u hu; simp at hu; subst hu; rfl
                  case c3 => unfold maxLen; omega
                  case c4 => omega
                  case c5 => simp; omega
                  intro v' w3 hown' hgrow _
                  go_wp2
                  go_roundw
                  case rel =>
                    refine ⟨k + 1 + 1, acc ++ [x], tl ++ [x], by omega, by go_num, HS.out, by rw [tk_small _ hsm, HTL.out], ?_, (hbw.alloc hsz _).grown hgrow (by simp; omega) (fun q hq => (hown.lt q hq).1)⟩
                    rw [Lib.byteCells_append, List.length_append]
                    exact hown'
                  case measure => simp [intOf]; omega
                · have hnz : ¬ (tl.length : Int) ≤ 100 := by have := HLM.out; omega
                  go_wp2
                  go_roundw
                  case rel =>
                    exact ⟨k + 1 + 1, acc ++ [x], tl, by omega, by go_num, HS.out, by rw [tk_big _ (by omega), HTL.out], hown, hbw⟩
                  case measure => simp [intOf]; omega
            · have hkne : ((k : Int) + 1 == (s.size : Int)) = true := by simp; omega
              have HN : Hid (unq s.data.toList = none) := by
                show _ = _
                rw [HU.out, HD.out, show s.data.toList.drop (k + 1) = [] by rw [List.drop_eq_nil_iff, ← size_list]; omega, unq_esc1]; rfl
              go_wp2
              go_ret2
              exact ⟨UPost.no HN.out rfl, hbw⟩
          · have b92 : ((s[k].toNat : Int) == 92) = false := byte_ne s[k] 92 h92
            have HS : Hid (unq s.data.toList = (unq (s.data.toList.drop (k + 1))).map ((acc ++ [s[k]]) ++ ·)) := by
              refine unq_shift HU.out ?_
              rw [HD.out, unq_plain _ _ h34 h10 h92]
            clear h34 h10 h92
            by_cases hsm : acc.length ≤ 100
            · have hn : tl.length ≤ 100 := by have := HLM.out; omega
              have hnz : (tl.length : Int) ≤ 100 := by omega
              go_wp2_with (at_builtin; refine wpList_append_ownF _ rfl _ _ 50 rfl w.heap.size 5 i0 (.int .u8 0) 1 1 Tryz.underlying50 hi hz0 hz1 hz2 rfl (by decide) _ _ _ rfl (hown.alloc _) ⟨wr.heap.size, 0, none⟩ 1 1 [.int .u8 ((s[k]).toNat : Int)] rfl rfl ?c1 ?c2 ?c3 ?c4 ?c5 ?_)
              case c1 =>
                intro j u hj
                match j, hj with
                | 0, hj => simp at hj; subst hj; simp [Addr.add]
              case c2 => intro u hu; simp at hu; subst hu; rfl
              case c3 => unfold maxLen; omega
              case c4 => omega
              case c5 => simp; omega
              intro v' w3 hown' hgrow _
              go_wp2
              go_roundw
              case rel =>
                refine ⟨k + 1, acc ++ [s[k]], tl ++ [s[k]], by omega, by go_num, HS.out, by rw [tk_small _ hsm, HTL.out], ?_, (hbw.alloc hsz _).grown hgrow (by simp; omega) (fun q hq => (hown.lt q hq).1)⟩
                rw [Lib.byteCells_append, List.length_append]
                exact hown'
              case measure => simp [intOf]; omega
            · have hnz : ¬ (tl.length : Int) ≤ 100 := by have := HLM.out; omega
              go_wp2
              go_roundw
              case rel =>
                exact ⟨k + 1, acc ++ [s[k]], tl, by omega, by go_num, HS.out, by rw [tk_big _ (by omega), HTL.out], hown, hbw⟩
              case measure => simp [intOf]; omega
    · have hkz : ¬ (k : Int) < (s.size : Int) := by omega
      have HE : Hid (unq s.data.toList = some acc) := by
        show _ = _
        rw [HU.out, show s.data.toList.drop k = [] by rw [List.drop_eq_nil_iff, ← size_list]; omega]
        simp [unq]
      go_wp2
      go_ret2
      exact ⟨UPost.yes HE.out rfl (by rw [← HTL.out]; exact hown), hbw⟩
end Go.Proofs.YtipolobikigmbaaGreatDoor
