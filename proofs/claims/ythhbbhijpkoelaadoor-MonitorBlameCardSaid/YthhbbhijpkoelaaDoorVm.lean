/-
  What the library's Reverse of texts does. Conditions: none.
-/
import Derived.Test.YthhbbhijpkoelaaDoorProg
import Derived.Ground.Names2Prog
import Derived.Shelf.Slices.ReverseS
import Derived.Test.YthhbbhijpkoelaaDoorHm
import Derived.Lib.OwnBridge
namespace Go.Proofs
open Go.Shelf
def Tryd.laysNm217_ren : Go.Shelf.Ren := ⟨fun | 17 => 43 | n => n, fun | 24 => 22 | 9 => 9 | 3 => 3 | 4 => 4 | 0 => 0 | n => n, fun | n => n⟩
theorem Tryd.laysNm217 : Go.Proofs.Lays2.n17 Tryd.prog Tryd.laysNm217_ren := {
  mixed := by kernel_rfl
  f17 := Tryd.func43.trans (congrArg some (by kernel_rfl))
  t0 := Tryd.underlying0
  a0 := Tryd.isAgg0
  z0 := Tryd.sizeOf0
  v0 := Tryd.zeroValue0
  t3 := Tryd.underlying3
  a3 := Tryd.isAgg3
  z3 := Tryd.sizeOf3
  v3 := Tryd.zeroValue3
  t4 := Tryd.underlying4
  a4 := Tryd.isAgg4
  z4 := Tryd.sizeOf4
  v4 := Tryd.zeroValue4
  t9 := Tryd.underlying9
  a9 := Tryd.isAgg9
  z9 := Tryd.sizeOf9
  v9 := Tryd.zeroValue9
  t24 := Tryd.underlying22
  a24 := Tryd.isAgg22
  z24 := Tryd.sizeOf22
  v24 := Tryd.zeroValue22 }
end Go.Proofs
/-
  slices.Reverse of a row of texts that a call owns.
-/
namespace Go.Proofs.YthhbbhijpkoelaaDoor
open Go.RowKit Go.Shelf Go.Sort

theorem enc_mapR (ns : List ByteArray) : ns.map Value.string = (ns.map (·.data.toList)).map encStr := by
  rw [List.map_map]
  refine List.map_congr_left fun s _ => ?_
  simp [encStr]
theorem reverseOwn_any (v : Value) (base : Nat) (ss : List ByteArray) (w : World) (h : w.ownsRow base 9 1 v ss.length (ss.map Value.string)) (hl : ss.length ≤ 1000000) :
    Calls Tryd.prog 43 #[v] w fun e w' => e = .returned (.tuple #[]) ∧ w'.ownsRow base 9 1 v ss.length (ss.reverse.map Value.string) ∧ ∀ (w0 : World) (B : Nat), Below B w0 w → B ≤ base → Below B w0 w' := by
  by_cases hv : v = .slice none 0 0
  · subst hv
    have h0 : ss = [] := by
      rcases h.2 with ⟨_, h⟩ | ⟨g, c, cur, h, _⟩
      · exact List.eq_nil_of_length_eq_zero h
      · cases h
    subst h0
    refine (Any.slices_Reverse_string_empty Tryd.laysNm217 none 0 w).mono ?_
    rintro e w' ⟨rfl, rfl⟩
    exact ⟨rfl, by simpa using h, fun _ _ hb _ => hb⟩
  · rw [enc_mapR] at h
    have hl2 : ss.length = (ss.map (·.data.toList)).length := by simp
    rw [hl2] at h ⊢
    rw [enc_mapR ss.reverse, List.map_reverse]
    generalize hz : ss.map (·.data.toList) = zs at *
    obtain ⟨g, cp, rfl, hbg, hgl, hncap, hcm, hlen, hH⟩ := Lib.holds_of_ownsRow h hv
    refine (Any.slices_Reverse_string Tryd.laysNm217 g 0 cp zs w hH (by omega)).mono ?_
    rintro e w' ⟨rfl, n, rfl⟩
    have := Lib.ownsRow_putRow (q := n) (k := zs.length) (ys := zs.reverse) h (by simp) (Nat.le_refl _)
    rw [List.take_of_length_le (by simp)] at this
    exact ⟨rfl, this, fun w0 B hb hB => Lib.below_putRow hb (Nat.le_trans hB hbg)⟩
theorem la_own {W : World} {B n : Nat} {u : Value} {ss : List ByteArray} (hn : ss.length = n) (ho : W.ownsRow B 9 1 u n (ss.map Value.string)) : ∃ a c, u = .slice a n c ∧ LA W W.heap.size ss a := by
  rcases own_cells ho with ⟨rfl, h0, _⟩ | ⟨g, cap, rfl, _, hg, hc⟩
  · refine ⟨none, 0, by rw [h0], .inl ?_⟩
    rw [h0] at hn
    rw [List.length_eq_zero_iff.1 hn]; rfl
  · refine ⟨_, _, rfl, .inr ⟨g, 0, rfl, hg, fun i hi => ?_⟩⟩
    rw [Nat.zero_add]
    exact hc i _ (List.getElem?_eq_getElem hi)
theorem infoStR : (Tryd.prog.info? 9).map (fun i => (i.zero, i.size, i.bytes)) = some (some (.string ⟨#[]⟩), 1, 16) := by kernel_rfl
end Go.Proofs.YthhbbhijpkoelaaDoor
