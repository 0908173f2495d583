/-
  duetkeep.ValuesOrder returns true, for every three values; utf8.ValidString's and strings.Compare's contracts are hypotheses here.
-/
import Derived.Test.YtbhgcfoplpjfjaaDoorWc
namespace Go.Proofs.YtbhgcfoplpjfjaaDoor
open Go.RowKit
variable (V : ByteArray → Bool) (Tabs : World → Prop)

def ordT (a b : Int × Int × List UInt8) : Int := firstNZ [cmpZ a.1 b.1, firstNZ [cmpZ a.2.1 b.2.1, Lib.compareBytes a.2.2 b.2.2]]
theorem good_ordT : GoodCmp ordT := good_pair good_cmpZ (good_pair good_cmpZ good_cb)
theorem ordZ_eq (so n : Int) (s : ByteArray) (so' n' : Int) (s' : ByteArray) : ordZ so n s so' n' s' = ordT (so, n, s.data.toList) (so', n', s'.data.toList) := by
  simp only [ordZ, ordT, firstNZ]
  split
  · split
    · split <;> simp_all
    · simp_all
  · rfl
theorem nz2 (a b : Int) : firstNZ [a, b] = 0 ↔ a = 0 ∧ b = 0 := by
  simp only [firstNZ]
  split
  · split <;> simp_all
  · simp_all

theorem chk_one (k : Int) : chkZ V 1 k ByteArray.empty = 0 := by
  simp [chkZ, argZ]
theorem ord_one : ordZ 1 1 ByteArray.empty 1 2 ByteArray.empty = -1 := by decide

set_option maxHeartbeats 400000 in
theorem law_any (hV : VSaid V Tabs) (hK : ∀ w w', Tabs w → Below w.heap.size w w' → Tabs w') (hC : CSaid) (so n so' n' so'' n'' : Int) (s s' s'' : ByteArray) (w : World) (hs : s.size ≤ 9223372036854775807) (hs' : s'.size ≤ 9223372036854775807) (hs'' : s''.size ≤ 9223372036854775807) (hT : Tabs w) :
    Calls Tryd.prog 5 #[.agg #[.int .i64 so, .int .i64 n, .string s], .agg #[.int .i64 so', .int .i64 n', .string s'], .agg #[.int .i64 so'', .int .i64 n'', .string s'']] w fun e w' => e = .returned (.bool true) ∧ Below w.heap.size w w' := by
  have h0 : OSaid Tabs 1 1 ByteArray.empty 1 2 ByteArray.empty (-1) 0 := fun W hW => by
    have c := order_any V Tabs hV hK hC 1 1 1 2 ByteArray.empty ByteArray.empty W (by decide) (by decide) hW
    rw [chk_one, chk_one, if_pos (show firstNZ [0, 0] = 0 from rfl), ord_one] at c
    exact c
  refine law_walk Tabs hK so n so' n' so'' n'' s s' s'' _ _ _ _ _ _ _ _ w hT h0 (fun W hW => order_any V Tabs hV hK hC so n so' n' s s' W hs hs' hW) (fun W hW => order_any V Tabs hV hK hC so' n' so n s' s W hs' hs hW)
    (fun W hW => order_any V Tabs hV hK hC so' n' so'' n'' s' s'' W hs' hs'' hW) (fun W hW => order_any V Tabs hV hK hC so n so'' n'' s s'' W hs hs'' hW) ?_ ?_
  · intro h
    rw [if_neg h]
    have h' : ¬ firstNZ [chkZ V so' n' s', chkZ V so n s] = 0 := fun q => h ((nz2 _ _).2 ((nz2 _ _).1 q).symm)
    rw [if_neg h']
    exact ⟨h', rfl, rfl⟩
  · intro h
    obtain ⟨ha, hb⟩ := (nz2 _ _).1 h
    have hy := (nz2 _ _).2 ⟨hb, ha⟩
    rw [if_pos h, if_pos hy]
    have G := good_ordT
    refine ⟨hy, ?_, ?_, ?_, ?_, ?_⟩
    · rw [ordZ_eq, ordZ_eq]; exact G.opp _ _
    · rw [ordZ_eq, G.eq0]
      simp only [Prod.mk.injEq]
      constructor
      · rintro ⟨h1, h2, h3⟩; exact ⟨h1, h2, ByteArray.ext (Array.toList_inj.1 h3)⟩
      · rintro ⟨h1, h2, h3⟩; exact ⟨h1, h2, by rw [h3]⟩
    · rw [ordZ_eq]; have := G.rng (so', n', s'.data.toList) (so, n, s.data.toList); omega
    · rw [ordZ_eq]; have := G.rng (so', n', s'.data.toList) (so, n, s.data.toList); omega
    · intro hz
      obtain ⟨_, hc⟩ := (nz2 _ _).1 hz
      have hv := (nz2 _ _).2 ⟨ha, hc⟩
      rw [if_pos hz, if_pos hv]
      refine ⟨hv, ?_⟩
      rw [ordZ_eq, ordZ_eq, ordZ_eq]
      have t := G.tr (so, n, s.data.toList) (so', n', s'.data.toList) (so'', n'', s''.data.toList)
      by_cases q : 0 < ordT (so, n, s.data.toList) (so', n', s'.data.toList)
      · exact .inl q
      · by_cases q' : 0 < ordT (so', n', s'.data.toList) (so'', n'', s''.data.toList)
        · exact .inr (.inl q')
        · exact .inr (.inr (t (by omega) (by omega)))
end Go.Proofs.YtbhgcfoplpjfjaaDoor
