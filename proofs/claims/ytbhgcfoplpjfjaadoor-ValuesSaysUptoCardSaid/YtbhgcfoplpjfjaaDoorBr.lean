/-
  The contract of duetref.Number, for every text.
-/
import Derived.Test.YtbhgcfoplpjfjaaDoorBn
namespace Go.Proofs.YtbhgcfoplpjfjaaDoor
open Go.RowKit Go.Shelf

theorem nu_big (l : List UInt8) (h : 20 < l.length) : nuZ l = none := by unfold nuZ; rw [if_pos h]
theorem nu_nobody (l : List UInt8) (h : sbody l = []) : nuZ l = none := by
  unfold nuZ
  by_cases h1 : 20 < l.length
  · rw [if_pos h1]
  · rw [if_neg h1, if_pos h]
theorem nu_nodig (l : List UInt8) (h : dig (sbody l) 0 = none) : nuZ l = none := by
  unfold nuZ
  by_cases h1 : 20 < l.length
  · rw [if_pos h1]
  · rw [if_neg h1]
    by_cases h2 : sbody l = []
    · rw [if_pos h2]
    · rw [if_neg h2, h]
theorem nu_dig (l : List UInt8) (x : Nat) (h1 : ¬ 20 < l.length) (h2 : sbody l ≠ []) (h : dig (sbody l) 0 = some x) : nuZ l = nuG (sneg l && decide (x ≠ 0)) x l := by
  unfold nuZ
  rw [if_neg h1, if_neg h2, h]

/-- what Number tells once the number is laid -/
def NV (o : Option Int) : Value := .tuple #[.int .i64 (o.getD 0), .bool o.isSome]
theorem NV_none : NV none = .tuple #[.int .i64 0, .bool false] := rfl
theorem NV_some (v : Int) : NV (some v) = .tuple #[.int .i64 v, .bool true] := rfl

set_option maxRecDepth 100000 in
set_option maxHeartbeats 2000000 in
theorem number_any (s : ByteArray) (w : World) :
    Calls Tryd.prog 28 #[.string s] w fun e w' => e = .returned (NV (nuZ s.data.toList)) ∧ Below w.heap.size w w' := by
  by_cases hl : 20 < s.size
  · rw [nu_big _ (by rw [← size_list]; exact hl), NV_none]
    have hlz : (s.size : Int) > 20 := by omega
    go_enter Tryd.func28, Tryd.ntmps28
    go_wp2
    go_ret2
    exact ⟨rfl, Below.refl _ _⟩
  · have hlz : ¬ (s.size : Int) > 20 := by omega
    have CS := setString_any w.heap.size s (w.alloc (.cells #[.bool false, .slice none 0 0] 79)) false (.slice none 0 0) (by omega) (by go_cell) (by go_cell) (by go_cell) (by go_cell) (by simp)
    obtain ⟨o, ho⟩ : ∃ o, nuZ s.data.toList = o := ⟨_, rfl⟩
    have HO : Hid (nuZ s.data.toList = o) := ho
    rw [ho]
    clear ho
    go_enter Tryd.func28, Tryd.ntmps28
    go_wp2_with fail
    refine CS.mono ?_
    rintro e w1 (⟨hb0, rfl, rfl⟩ | ⟨hb0, hp⟩)
    · have : o = none := by rw [← HO.out, nu_nobody _ hb0]
      subst this
      clear hb0 CS
      go_wp2
      go_ret2
      exact ⟨rfl, (Below.refl _ _).alloc (Nat.le_refl _) _⟩
    · rcases hp with ⟨hd, rfl, hb⟩ | ⟨x, hd, rfl, hx, hi, hb⟩
      · have : o = none := by rw [← HO.out, nu_nodig _ hd]
        subst this
        clear hb0 CS hd
        go_wp2
        go_ret2
        exact ⟨rfl, ((Below.refl w.heap.size w).alloc (Nat.le_refl _) _).trans (hb.mono (by simp))⟩
      · have hg := nu_dig _ x (by rw [← size_list]; exact hl) hb0 hd
        have hbw : Below w.heap.size w w1 := ((Below.refl w.heap.size w).alloc (Nat.le_refl _) _).trans hb
        have hsz := hbw.size
        clear hb0 CS hd hb
        generalize (sneg s.data.toList && decide (x ≠ 0)) = neg at *
        have HG : Hid (nuZ s.data.toList = nuG neg x s.data.toList) := hg
        clear hg
        obtain ⟨F, hF⟩ : ∃ F : ByteArray, (⟨(txt neg x).toArray⟩ : ByteArray) = F := ⟨_, rfl⟩
        have CT := intString_any w.heap.size neg x w1 hi hx
        rw [hF] at CT
        by_cases heq : F = s
        · subst heq
          have htx : txt neg x = F.data.toList := by rw [← hF]
          by_cases hr : x < 9223372036854775808 ∨ (neg = true ∧ x = 9223372036854775808)
          · have : o = some (sgn neg x) := by rw [← HO.out, HG.out]; unfold nuG; rw [if_pos ⟨htx, hr⟩]
            subst this
            go_wp2_with fail
            refine CT.mono ?_
            rintro e w2 ⟨rfl, hb2⟩
            have hi2 := hi.keep hb2
            have CI := isInt64_any w.heap.size neg x w2 hi2 hx
            rw [decide_eq_true hr] at CI
            have CV := int64_any w.heap.size neg x w2 hi2 hr
            obtain ⟨v, hv⟩ : ∃ v, sgn neg x = v := ⟨_, rfl⟩
            have HV : Hid (sgn neg x = v) := hv
            rw [hv] at CV
            clear hv
            clear htx hF hi hi2 CT hr hlz hl
            go_wp2_with fail
            refine CI.mono ?_
            rintro e w3 ⟨rfl, rfl⟩
            go_wp2_with fail
            refine CV.mono ?_
            rintro e w4 ⟨rfl, rfl⟩
            go_wp2
            go_ret2
            exact ⟨by rw [HV.out]; rfl, hbw.trans (hb2.mono hsz)⟩
          · have : o = none := by rw [← HO.out, HG.out]; unfold nuG; rw [if_neg (fun c => hr c.2)]
            subst this
            go_wp2_with fail
            refine CT.mono ?_
            rintro e w2 ⟨rfl, hb2⟩
            have hi2 := hi.keep hb2
            have CI := isInt64_any w.heap.size neg x w2 hi2 hx
            rw [decide_eq_false hr] at CI
            clear htx hF hi hi2 CT hr hlz hl
            go_wp2_with fail
            refine CI.mono ?_
            rintro e w3 ⟨rfl, rfl⟩
            go_wp2
            go_ret2
            exact ⟨rfl, hbw.trans (hb2.mono hsz)⟩
        · have : o = none := by
            rw [← HO.out, HG.out]; unfold nuG
            rw [if_neg (fun c => heq (by rw [← hF, c.1]))]
          subst this
          have hne : (F.toList == s.toList) = false := str_ne heq
          clear hF hi heq hlz hl
          go_wp2_with fail
          refine CT.mono ?_
          rintro e w2 ⟨rfl, hb2⟩
          go_wp2
          go_ret2
          exact ⟨rfl, hbw.trans (hb2.mono hsz)⟩
end Go.Proofs.YtbhgcfoplpjfjaaDoor
