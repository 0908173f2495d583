/-
  The contract of duetkeep.sortsOf, for every environment: its names and its sorts.
-/
import Derived.Test.YtclbillfffpknaaDoorXu
namespace Go.Proofs.YtclbillfffpknaaDoor
open Go.RowKit Go.Shelf Go.Deep
attribute [local go_sem ↓] Go.wp_at_zero Go.wp_at_succ

set_option maxRecDepth 100000 in
set_option maxHeartbeats 4000000 in
theorem sortsOf_any (bs : List (ByteArray × Vl)) (ae : Option Addr) (ce : Nat) (w : World) (henv : EnvAt w w.heap.size bs ae) (hlen : bs.length ≤ 2932031007402) :
    Calls Tryd.prog 6 #[.slice ae bs.length ce] w fun e w' => ∃ v u, e = .returned (.tuple #[v, u]) ∧ w'.ownsRow w.heap.size 9 1 v bs.length (nCells bs) ∧ w'.ownsRow w.heap.size 3 1 u bs.length (zCells bs) ∧ Below w.heap.size w w' := by
  obtain ⟨i0, hi, hz0, hz1, hz2⟩ := info_parts infoStr
  obtain ⟨j0, kj, kz0, kz1, kz2⟩ := info_parts infoInt
  have hnz : (bs.length : Int) ≤ 2932031007402 := by omega
  go_enter Tryd.func6, Tryd.ntmps6
  go_wp2_with fail
  go_loopg [2, 3, 8] bs.length (fun g s2 s3 i wr => ∃ k : Nat, k ≤ bs.length ∧ g = bs.length - k ∧ i = .int .i64 (k : Int) ∧ wr.ownsRow w.heap.size 9 1 s2 k (nCells (bs.take k)) ∧ wr.ownsRow w.heap.size 3 1 s3 k (zCells (bs.take k)) ∧ Below w.heap.size w wr)
  case atStart => exact ⟨0, Nat.zero_le _, by omega, rfl, World.ownsRow_nil _ _ _ _, World.ownsRow_nil _ _ _ _, Below.refl _ _⟩
  case round =>
    obtain ⟨k, hk, hgk, rfl, ho1, ho2, hbr⟩ := hrel
    by_cases hlt : k < bs.length
    · have hltz : (k : Int) < (bs.length : Int) := by omega
      rcases henv.c with e | ⟨b, o, rfl, hbB, hcells⟩
      · subst e; simp at hlt
      · obtain ⟨c0, c1, c2, c3⟩ := hcells k hlt
        replace c0 := (hbr.cell (p := ⟨b, o + k * 4, none⟩) hbB).trans c0
        replace c1 := (hbr.cell (p := ⟨b, o + k * 4 + 1, none⟩) hbB).trans c1
        replace c2 := (hbr.cell (p := ⟨b, o + k * 4 + 2, none⟩) hbB).trans c2
        replace c3 := (hbr.cell (p := ⟨b, o + k * 4 + 3, none⟩) hbB).trans c3
        clear hcells
        have q0 : (wr.alloc (.cells #[.string bs[k].1, .int .i64 bs[k].2.so, .int .i64 bs[k].2.n, .string bs[k].2.s] 39)).cell? ⟨wr.heap.size, 0, none⟩ = some (.string bs[k].1) := by go_cell
        have q1 : (wr.alloc (.cells #[.string bs[k].1, .int .i64 bs[k].2.so, .int .i64 bs[k].2.n, .string bs[k].2.s] 39)).cell? ⟨wr.heap.size, 1, none⟩ = some (.int .i64 bs[k].2.so) := by go_cell
        go_wp2_with fail
        clear c0 c1 c2 c3
        have aV : AB w w.heap.size u2 k (nCells (bs.take k)) u3 k (zCells (bs.take k)) (wr.alloc (.cells #[.string bs[k].1, .int .i64 bs[k].2.so, .int .i64 bs[k].2.n, .string bs[k].2.s] 39)) := (AB.mk ho1 ho2 hbr hbr.size).al _
        have b0 : PB wr.heap.size 0 (.string bs[k].1) u2 u3 (wr.alloc (.cells #[.string bs[k].1, .int .i64 bs[k].2.so, .int .i64 bs[k].2.n, .string bs[k].2.s] 39)) := ⟨by simp, q0, own_lt ho1 (Nat.le_refl _), own_lt ho2 (Nat.le_refl _)⟩
        have b1 : PB wr.heap.size 1 (.int .i64 bs[k].2.so) u2 u3 (wr.alloc (.cells #[.string bs[k].1, .int .i64 bs[k].2.so, .int .i64 bs[k].2.n, .string bs[k].2.s] 39)) := ⟨by simp, q1, own_lt ho1 (Nat.le_refl _), own_lt ho2 (Nat.le_refl _)⟩
        have HN : Hid (nCells (bs.take (k + 1)) = nCells (bs.take k) ++ [.string bs[k].1]) := by show _ = _; unfold nCells; rw [List.take_succ_eq_append_getElem hlt, List.map_append]; rfl
        have HZ : Hid (zCells (bs.take (k + 1)) = zCells (bs.take k) ++ [.int .i64 bs[k].2.so]) := by show _ = _; unfold zCells; rw [List.take_succ_eq_append_getElem hlt, List.map_append]; rfl
        clear ho1 ho2 hbr
        generalize wr.alloc (.cells #[.string bs[k].1, .int .i64 bs[k].2.so, .int .i64 bs[k].2.n, .string bs[k].2.s] 39) = V at *
        generalize wr.heap.size = q at *
        generalize bs[k].1 = nm at *
        generalize bs[k].2.so = so at *
        generalize nCells (bs.take k) = xs at *
        generalize zCells (bs.take k) = ys at *
        clear q0 q1
        have q0 := b0.c
        have q1 := b1.c
        have one1 : ∀ u ∈ [Value.string nm], u.oneCell' = true := by intro u hu; simp at hu; subst hu; rfl
        have one2 : ∀ u ∈ [Value.int .i64 so], u.oneCell' = true := by intro u hu; simp at hu; subst hu; rfl
        have len1 : k + 1 ≤ maxLen := by unfold maxLen; omega
        have len2 : (k + 1) * 16 ≤ 140737488355328 := by omega
        have len3 : (k + 1) * 8 ≤ 140737488355328 := by omega
        have A1 := (aV.al (.cells #[.string nm] 9)).dr
        have A2 := ((aV.al (.cells #[.string nm] 9)).al (.cells #[.int .i64 so] 3)).dr
        have A3 := ((aV.al (.cells #[.int .i64 so] 3)).al (.cells #[.string nm] 9)).dr
        have P1 := (aV.new (.string nm) 9).dr
        have P2 := ((aV.new (.string nm) 9).al (.cells #[.int .i64 so] 3)).dr
        have P3 := ((aV.al (.cells #[.int .i64 so] 3)).new (.string nm) 9).dr
        have Z2 := ((aV.al (.cells #[.string nm] 9)).new (.int .i64 so) 3).dr
        have Z3 := ((aV.new (.int .i64 so) 3).al (.cells #[.string nm] 9)).dr
        rw [show (V.alloc (.cells #[.int .i64 so] 3)).heap.size = V.heap.size + 1 by simp] at P3
        rw [show (V.alloc (.cells #[.string nm] 9)).heap.size = V.heap.size + 1 by simp] at Z2
        have B10 := (b0.al (.cells #[.string nm] 9)).dr
        have B11 := (b1.al (.cells #[.string nm] 9)).dr
        have B20 := ((b0.al (.cells #[.string nm] 9)).al (.cells #[.int .i64 so] 3)).dr
        have B21 := ((b1.al (.cells #[.string nm] 9)).al (.cells #[.int .i64 so] 3)).dr
        have B30 := ((b0.al (.cells #[.int .i64 so] 3)).al (.cells #[.string nm] 9)).dr
        have B31 := ((b1.al (.cells #[.int .i64 so] 3)).al (.cells #[.string nm] 9)).dr
        go_region_held3 (fun w' => w'.cell? ⟨q, 0, none⟩ = some (.string nm) ∧ w'.cell? ⟨q, 1, none⟩ = some (.int .i64 so)) (go_keep) (first
          | ((refine step_append_lies _ (by rfl) (.tmp 12) (.tmp 15) 31 (by rfl) w.heap.size 9 i0 (.string ⟨#[]⟩) 1 16 Tryd.underlying31 hi hz0 hz1 hz2 rfl (by decide) u2 k xs (by simp [Act.eval]) A1.hn ⟨V.heap.size, 0, none⟩ 1 1 [.string nm] (by simp [Act.eval]) rfl P1.news one1 (by decide) len1 len2 A1.le _ rfl ?_; intro g1 cap1 w1 hN hg1 hat1 _; have a1 := A1.nApp hg1 hN (own_ge A1.hn); have e0 := (B10.nApp (nn := k + 1) (cp := cap1) hg1 hat1); have e1 := (B11.nApp (nn := k + 1) (cp := cap1) hg1 hat1); have d0 := e0.c; have d1 := e1.c))
          | ((refine step_append_lies _ (by rfl) (.tmp 12) (.tmp 15) 31 (by rfl) w.heap.size 9 i0 (.string ⟨#[]⟩) 1 16 Tryd.underlying31 hi hz0 hz1 hz2 rfl (by decide) u2 k xs (by simp [Act.eval]) A2.hn ⟨V.heap.size, 0, none⟩ 1 1 [.string nm] (by simp [Act.eval]) rfl P2.news one1 (by decide) len1 len2 A2.le _ rfl ?_; intro g1 cap1 w1 hN hg1 hat1 _; have a1 := A2.nApp hg1 hN (own_ge A2.hn); have e0 := (B20.nApp (nn := k + 1) (cp := cap1) hg1 hat1); have e1 := (B21.nApp (nn := k + 1) (cp := cap1) hg1 hat1); have d0 := e0.c; have d1 := e1.c; have zp := Z2.nApp (nn := k + 1) (cp := cap1) hg1 hat1))
          | ((refine step_append_lies _ (by rfl) (.tmp 12) (.tmp 15) 31 (by rfl) w.heap.size 9 i0 (.string ⟨#[]⟩) 1 16 Tryd.underlying31 hi hz0 hz1 hz2 rfl (by decide) u2 k xs (by simp [Act.eval]) A3.hn ⟨V.heap.size + 1, 0, none⟩ 1 1 [.string nm] (by simp [Act.eval]) rfl P3.news one1 (by decide) len1 len2 A3.le _ rfl ?_; intro g1 cap1 w1 hN hg1 hat1 _; have a1 := A3.nApp hg1 hN (own_ge A3.hn); have e0 := (B30.nApp (nn := k + 1) (cp := cap1) hg1 hat1); have e1 := (B31.nApp (nn := k + 1) (cp := cap1) hg1 hat1); have d0 := e0.c; have d1 := e1.c; have zp := Z3.nApp (nn := k + 1) (cp := cap1) hg1 hat1))
          | ((refine step_append_lies _ (by rfl) (.tmp 17) (.tmp 21) 32 (by rfl) w.heap.size 3 j0 (.int .i64 0) 1 8 Tryd.underlying32 kj kz0 kz1 kz2 rfl (by decide) u3 k ys (by simp [Act.eval]) (a1.al (.cells #[.int .i64 so] 3)).hz ⟨w1.heap.size, 0, none⟩ 1 1 [.int .i64 so] (by simp [Act.eval]) rfl (a1.new (.int .i64 so) 3).news one2 (by decide) len1 len3 (a1.al (.cells #[.int .i64 so] 3)).le _ rfl ?_; intro g2 cap2 w2 hZ2 hg2 hat2 _; have a2 := (a1.al (.cells #[.int .i64 so] 3)).zApp hg2 hZ2 (own_ge (a1.al (.cells #[.int .i64 so] 3)).hz); have dd0 := ((e0.al (.cells #[.int .i64 so] 3)).zApp (nn := k + 1) (cp := cap2) hg2 hat2).c; have dd1 := ((e1.al (.cells #[.int .i64 so] 3)).zApp (nn := k + 1) (cp := cap2) hg2 hat2).c))
          | ((refine step_append_lies _ (by rfl) (.tmp 17) (.tmp 21) 32 (by rfl) w.heap.size 3 j0 (.int .i64 0) 1 8 Tryd.underlying32 kj kz0 kz1 kz2 rfl (by decide) u3 k ys (by simp [Act.eval]) a1.hz ⟨V.heap.size + 1, 0, none⟩ 1 1 [.int .i64 so] (by simp [Act.eval]) rfl zp.news one2 (by decide) len1 len3 a1.le _ rfl ?_; intro g2 cap2 w2 hZ2 hg2 hat2 _; have a2 := a1.zApp hg2 hZ2 (own_ge a1.hz); have dd0 := (e0.zApp (nn := k + 1) (cp := cap2) hg2 hat2).c; have dd1 := (e1.zApp (nn := k + 1) (cp := cap2) hg2 hat2).c))
          | ((refine step_append_lies _ (by rfl) (.tmp 17) (.tmp 21) 32 (by rfl) w.heap.size 3 j0 (.int .i64 0) 1 8 Tryd.underlying32 kj kz0 kz1 kz2 rfl (by decide) u3 k ys (by simp [Act.eval]) a1.hz ⟨V.heap.size, 0, none⟩ 1 1 [.int .i64 so] (by simp [Act.eval]) rfl zp.news one2 (by decide) len1 len3 a1.le _ rfl ?_; intro g2 cap2 w2 hZ2 hg2 hat2 _; have a2 := a1.zApp hg2 hZ2 (own_ge a1.hz); have dd0 := (e0.zApp (nn := k + 1) (cp := cap2) hg2 hat2).c; have dd1 := (e1.zApp (nn := k + 1) (cp := cap2) hg2 hat2).c)))
        all_goals
          go_wp2_with fail
          go_roundg (bs.length - (k + 1))
          case measure => omega
          case rel => exact ⟨k + 1, by omega, rfl, by go_num, by rw [HN.out]; exact a2.hn, by rw [HZ.out]; exact a2.hz, a2.bl⟩
    · have hltz : ¬ (k : Int) < (bs.length : Int) := by omega
      have hkl : k = bs.length := by omega
      subst hkl
      rw [List.take_length] at ho1 ho2
      clear henv
      go_wp2_with fail
      go_ret2
      exact ⟨_, _, rfl, ho1, ho2, hbr⟩
end Go.Proofs.YtclbillfffpknaaDoor
