/-
  Plain mathematics: graph.Back's type is right, and does what the graph does.
-/
import Derived.Test.YtnlpnbelkkgghaaDoorUg
import Derived.Test.YtnlpnbelkkgghaaDoorJb
import Derived.Laws.BytesString
import Derived.Test.YtnlpnbelkkgghaaDoorKc
import Derived.Test.YtnlpnbelkkgghaaDoorBu
import Derived.Test.YtnlpnbelkkgghaaDoorEo
import Derived.Test.YtnlpnbelkkgghaaDoorKb
import Derived.Deep.RegionHeld3
import Derived.Test.YtnlpnbelkkgghaaDoorHd
namespace Go.Proofs.YtnlpnbelkkgghaaDoor
open Go.RowKit Go.Shelf

def unN (b : ByteArray) : Nat :=
  match b.data.toList with
  | [x] => x.toNat - 97
  | [x, y] => (x.toNat - 96) * 26 + (y.toNat - 97)
  | _ => 0
theorem nm_all : ((List.range 200).all fun i => decide (unN (nmN i) = i) && isVr (nmN i).data.toList) = true := by kernel_rfl
theorem nm_at {i : Nat} (hi : i < 200) : unN (nmN i) = i ∧ isVr (nmN i).data.toList = true := by
  have h := List.all_eq_true.1 nm_all i (List.mem_range.2 hi)
  rw [Bool.and_eq_true] at h
  exact ⟨of_decide_eq_true h.1, h.2⟩
theorem nmN_inj {i j : Nat} (hi : i < 200) (hj : j < 200) (h : nmN i = nmN j) : i = j := by
  rw [← (nm_at hi).1, ← (nm_at hj).1, h]
theorem part_var {t : Ty} (hp : partT t = true) (h9 : t.kind = 9) : t.kids = [] := by
  unfold partT at hp
  simp [h9] at hp
  exact hp.2
theorem cl_of_fr : ∀ t : Ty, wfT t → ∀ ns, (∀ x, frT x t = true → x ∈ ns) → clT t ns := by
  apply tyInd
  intro t ih hw ns h
  obtain ⟨hp, hk⟩ := (wfT_eq t).1 hw
  refine (clT_eq t ns).2 ⟨fun h9 => h _ (by rw [frT_var _ _ h9]; simp), fun q hq => ih q hq (hk q hq) _ fun x hx => ?_⟩
  have h9 : t.kind ≠ 9 := fun h9 => by rw [part_var hp h9] at hq; cases hq
  by_cases h8 : t.kind = 8
  · rw [if_pos h8]
    by_cases e : t.name = x
    · rw [e]; exact List.mem_append_right _ (.head _)
    · exact List.mem_append_left _ (h x (by rw [frT_else x t h9 (fun q => e q.2)]; exact List.any_eq_true.2 ⟨q, hq, hx⟩))
  · rw [if_neg h8]
    exact h x (by rw [frT_else x t h9 (fun q => h8 q.1)]; exact List.any_eq_true.2 ⟨q, hq, hx⟩)
/-- what graph.Back makes, and how many parts it has made of it -/
def backP (g : List Nd) : Ty × SB := bkT g 61 (fun _ => false) 0 (fun _ => false, 0)
/-- where it is not too large it is a right type that does what the graph does -/
theorem back_ok {g : List Nd} (hg : GN g) (hl : g.length ≤ 200) (h : (backP g).2.2 ≤ 60) : chkTy (backP g).1 = 0 ∧ den (backP g).1 e0 = fun k => gT g k 0 := by
  have K := bk_ok hg (fun i j hi hj => nmN_inj (by omega) (by omega)) (fun i hi => (nm_at (by omega)).2) 61 (fun _ => false) 0 (fun _ => false, 0) (by show 61 ≤ 61 + 0; omega) hg.pos (fun j hj => by cases hj) h
  have hcl : clT (backP g).1 [] := cl_of_fr _ (gdT_wf _ K.gd) [] fun x hx => by
    obtain ⟨j, p, _⟩ := K.fr x hx
    cases p
  have hsz : sizeT (backP g).1 ≤ 60 := by
    have := K.sz
    have h2 : (bkT g 61 (fun _ => false) 0 (fun _ => false, 0)).2.2 ≤ 60 := h
    show sizeT (bkT g 61 (fun _ => false) 0 (fun _ => false, 0)).1 ≤ 60
    have h3 : (0 : Nat) + sizeT (bkT g 61 (fun _ => false) 0 (fun _ => false, 0)).1 = _ := K.sz
    omega
  refine ⟨?_, K.dn e0 fun j hj => by cases hj⟩
  rcases chkTy_or K.gd hcl (by show sizeT (backP g).1 ≤ _; omega) with q | q
  · exact q
  · have q2 : 60 < sizeT (backP g).1 := q.2
    omega
end Go.Proofs.YtnlpnbelkkgghaaDoor
/-
  The contract of graph.nodeName.
-/
namespace Go.Proofs.YtnlpnbelkkgghaaDoor
open Go.RowKit Go.Shelf

theorem conv1 (w : World) (z : Int) : (convert 145 9 (.slice (some ⟨w.heap.size, 0, none⟩) 1 1)).run Tryd.prog (w.alloc (.cells #[.int .u8 z] 5)) = .ok (.string ⟨#[UInt8.ofNat z.toNat]⟩) (w.alloc (.cells #[.int .u8 z] 5)) := by
  rw [run_convert_bytes_string (P := Tryd.prog) _ 145 9 5 _ _ _ Tryd.underlying145 Tryd.underlying5 Tryd.underlying9]
  rw [run_bytesToString _ _ _ _ [z]]
  · rfl
  · rw [run_loadCells _ ⟨w.heap.size, 0, none⟩ 1 (fun _ => .int .u8 z) (fun j hj => by
      obtain rfl : j = 0 := by omega
      show World.cell? _ ⟨w.heap.size, 0, none⟩ = _
      go_cell)]
    rfl
theorem conv2 (w : World) (z y : Int) : (convert 145 9 (.slice (some ⟨w.heap.size, 0, none⟩) 2 2)).run Tryd.prog (w.alloc (.cells #[.int .u8 z, .int .u8 y] 5)) = .ok (.string ⟨#[UInt8.ofNat z.toNat, UInt8.ofNat y.toNat]⟩) (w.alloc (.cells #[.int .u8 z, .int .u8 y] 5)) := by
  rw [run_convert_bytes_string (P := Tryd.prog) _ 145 9 5 _ _ _ Tryd.underlying145 Tryd.underlying5 Tryd.underlying9]
  rw [run_bytesToString _ _ _ _ [z, y]]
  · rfl
  · rw [run_loadCells _ ⟨w.heap.size, 0, none⟩ 2 (fun j => if j = 0 then .int .u8 z else .int .u8 y) (fun j hj => by
      have : j = 0 ∨ j = 1 := by omega
      rcases this with rfl | rfl
      · show World.cell? _ ⟨w.heap.size, 0, none⟩ = _
        go_cell
      · show World.cell? _ ⟨w.heap.size, 1, none⟩ = _
        go_cell)]
    rfl
set_option maxRecDepth 100000 in
set_option maxHeartbeats 4000000 in
theorem nodeName_any (i : Nat) (hi : i < 200) (w : World) :
    Calls Tryd.prog 59 #[.int .i64 (i : Int)] w fun e w' => e = .returned (.string (nmN i)) ∧ Below w.heap.size w w' := by
  by_cases h : i < 26
  · have hz : (i : Int) < 26 := by omega
    have HN := hideK (show (⟨#[UInt8.ofNat (97 + (i : Int) % 26).toNat]⟩ : ByteArray) = nmN i from by
      unfold nmN
      rw [if_pos h, show (97 + (i : Int) % 26).toNat = 97 + i by omega])
    go_enter Tryd.func59, Tryd.ntmps59
    go_wp2_with fail
    rw [conv1]
    go_wp2_with fail
    go_ret
    exact ⟨congrArg (fun b => Ending.returned (Value.string b)) HN.out, (Below.refl _ _).alloc (Nat.le_refl _) _⟩
  · have hz : ¬ (i : Int) < 26 := by omega
    have HN := hideK (show (⟨#[UInt8.ofNat ((97 + (i : Int) / 26).toNat - 1), UInt8.ofNat (97 + (i : Int) % 26).toNat]⟩ : ByteArray) = nmN i from by
      unfold nmN
      rw [if_neg h, show (97 + (i : Int) / 26).toNat - 1 = 97 + i / 26 - 1 by omega, show (97 + (i : Int) % 26).toNat = 97 + i % 26 by omega])
    go_enter Tryd.func59, Tryd.ntmps59
    go_wp2_with fail
    rw [conv2]
    go_wp2_with fail
    go_ret
    exact ⟨congrArg (fun b => Ending.returned (Value.string b)) HN.out, (Below.refl _ _).alloc (Nat.le_refl _) _⟩
end Go.Proofs.YtnlpnbelkkgghaaDoor

/-
  The contracts of duetref.small, IsName, levels and Level, for every text.
-/
namespace Go.Proofs.YtnlpnbelkkgghaaDoor
open Go.RowKit Go.Shelf Go.Sort

def smZ (l : List UInt8) : Bool := decide (1 ≤ l.length ∧ l.length ≤ 8) && l.all isLow
theorem Hid.mk'' {p : Prop} (h : p) : Hid p := h
theorem isNm_eq (l : List UInt8) : isNm l = (smZ l && !decide (l ∈ [[116, 114, 117, 101], [102, 97, 108, 115, 101], [97, 110, 100], [111, 114], [110, 111, 116]])) := by
  unfold isNm smZ
  by_cases h : l = [116, 114, 117, 101] ∨ l = [102, 97, 108, 115, 101] ∨ l = [97, 110, 100] ∨ l = [111, 114] ∨ l = [110, 111, 116]
  · rw [if_pos h]
    have : decide (l ∈ [[116, 114, 117, 101], [102, 97, 108, 115, 101], [97, 110, 100], [111, 114], [110, 111, 116]]) = true := by simpa using h
    rw [this]; simp
  · rw [if_neg h]
    have : decide (l ∈ [[116, 114, 117, 101], [102, 97, 108, 115, 101], [97, 110, 100], [111, 114], [110, 111, 116]]) = false := by simpa using h
    rw [this]; simp
theorem own_keep0 {W W' : World} {base : Nat} {e : TypeId} {size : Nat} {v : Value} {n : Nat} {xs : List Value} (h : W.ownsRow base e size v n xs) (hb : Below W.heap.size W W') : W'.ownsRow base e size v n xs := by
  refine ⟨h.1, h.2.imp id ?_⟩
  rintro ⟨g, cap, cur, h1, h2, h3, h4⟩
  refine ⟨g, cap, cur, h1, h2, ?_, h4⟩
  rw [hb.block g ?_]
  · exact h3
  · rcases Nat.lt_or_ge g W.heap.size with hlt | hge
    · exact hlt
    · rw [Array.getElem?_eq_none hge] at h3; cases h3
/-- the levels -/
def lvL : List (List (List UInt8)) := [[[111, 114]], [[97, 110, 100]], [[61, 61], [60], [60, 61]], [[43], [45], [43, 43]], [[42], [47], [37]]]
theorem lvl_hit (o : List UInt8) (k : Nat) (h : k < lvL.length) (hin : o ∈ lvL[k]) : lvl o = (k : Int) + 1 := by
  have : k = 0 ∨ k = 1 ∨ k = 2 ∨ k = 3 ∨ k = 4 := by simp [lvL] at h; omega
  rcases this with rfl | rfl | rfl | rfl | rfl <;> simp [lvL] at hin
  · subst hin; decide
  · subst hin; decide
  · rcases hin with rfl | rfl | rfl <;> decide
  · rcases hin with rfl | rfl | rfl <;> decide
  · rcases hin with rfl | rfl | rfl <;> decide
theorem lvl_miss (o : List UInt8) (h : ∀ j (hj : j < lvL.length), o ∉ lvL[j]) : lvl o = 0 := by
  have h0 := h 0 (by decide)
  have h1 := h 1 (by decide)
  have h2 := h 2 (by decide)
  have h3 := h 3 (by decide)
  have h4 := h 4 (by decide)
  simp [lvL] at h0 h1 h2 h3 h4
  unfold lvl
  simp [h0, h1, h2, h3, h4]
theorem lvl_len (k : Nat) (h : k < lvL.length) : lvL[k].length ≤ 3 := by
  have : k = 0 ∨ k = 1 ∨ k = 2 ∨ k = 3 ∨ k = 4 := by simp [lvL] at h; omega
  rcases this with rfl | rfl | rfl | rfl | rfl <;> simp [lvL]
structure LVS (W : World) (B g : Nat) : Prop where
  lt : g < W.heap.size
  c : ∀ i (h : i < lvL.length), ∃ b n c, W.cell? ⟨g, i, none⟩ = some (.slice (some ⟨b, 0, none⟩) n c) ∧ W.ownsRow B 9 1 (.slice (some ⟨b, 0, none⟩) n c) lvL[i].length (lvL[i].map encStr)

end Go.Proofs.YtnlpnbelkkgghaaDoor

/-
  The contracts of duetref.IsVar and duetref.Labels.
-/
namespace Go.Proofs.YtnlpnbelkkgghaaDoor
open Go.RowKit Go.Shelf

theorem take_oneHU {P : Program} {ops : Array Oper} {md : Region.Mode} {Q : Exit → Act → World → Prop} {S : World → Prop} {fuel : Nat} {listed : Array Bool} {a : Act} {w : World} (i : Nat) (h : AllReadyH P md ops Q S fuel listed a w [i]) (hr : Region.ready md ops listed = [i]) : wpAnyH P md ops Q S (fuel + 1) listed a w := wpAnyH_ready hr (by simp) h
theorem less_total : ∀ l l' : List UInt8, (!Op.bytesLess l' l) = (Op.bytesLess l l' || (l' == l))
  | [], [] => by simp [Op.bytesLess]
  | [], _ :: _ => by simp [Op.bytesLess]
  | _ :: _, [] => by simp [Op.bytesLess]
  | x :: xs, y :: ys => by
    have ih := less_total xs ys
    unfold Op.bytesLess
    by_cases h1 : x = y
    · subst h1; simp [ih]
    · by_cases h2 : x < y
      · have h3 : ¬ y < x := fun h => absurd (UInt8.lt_trans h2 h) (UInt8.lt_irrefl _)
        simp [h2, h3, Ne.symm h1]
      · have h3 : y < x := by
          rcases UInt8.lt_or_lt_of_ne h1 with h | h
          · exact absurd h h2
          · exact h
        simp [h1, h2, h3, Ne.symm h1]
end Go.Proofs.YtnlpnbelkkgghaaDoor

/-
  The contract of duetref.part: has a part of a type just what its kind has?
-/
namespace Go.Proofs.YtnlpnbelkkgghaaDoor
open Go.RowKit Go.Shelf

theorem sum_zero (a b : Nat) (ha : a ≤ 9223372036854775807) (hb : b ≤ 9223372036854775807) : ∃ z, IntKind.i64.wrap ((a : Int) + (b : Int)) = z ∧ (z == 0) = (((a : Int) == 0) && ((b : Int) == 0)) := by
  refine ⟨_, rfl, ?_⟩
  by_cases h : a + b ≤ 9223372036854775807
  · rw [wrap_small _ (by omega) (by omega), Bool.eq_iff_iff]
    simp only [beq_iff_eq, Bool.and_eq_true]
    omega
  · have e : IntKind.i64.wrap ((a : Int) + (b : Int)) = (a : Int) + (b : Int) - 18446744073709551616 := by
      have hb : IntKind.i64.bits = 64 := rfl
      have hs : IntKind.i64.signed = true := rfl
      simp only [IntKind.wrap, hb, hs, Int.reducePow, Nat.reduceSub, Bool.true_and, decide_eq_true_eq]
      split <;> omega
    rw [e, Bool.eq_iff_iff]
    simp only [beq_iff_eq, Bool.and_eq_true]
    omega
end Go.Proofs.YtnlpnbelkkgghaaDoor

/-
  Plain: a list of parts, each with the names around it, that are looked at one after another, each one's Kids put ahead of the others: it finds nothing just if Check finds nothing.
-/
namespace Go.Proofs.YtnlpnbelkkgghaaDoor
open Go.RowKit

theorem idle_mono : ∀ (n : Nat) (t : Ty), idleN n t = true → idleN (n + 1) t = true
  | 0, t, h => by
    have hk : t.kind = 9 := by simpa [idleN] using h
    rw [idle_stop _ _ (by omega)]; simpa using hk
  | n + 1, t, h => by
    by_cases h8 : t.kind = 8
    · by_cases hk : t.kids.length = 1
      · rw [idle_go _ _ h8 hk] at h ⊢; exact idle_mono n _ h
      · rw [idle_odd _ _ h8 hk] at h; cases h
    · rw [idle_stop _ _ h8] at h ⊢; exact h
theorem idle_le {n m : Nat} (hle : n ≤ m) (t : Ty) (h : idleN n t = true) : idleN m t = true := by
  induction hle with
  | refl => exact h
  | step _ ih => exact idle_mono _ _ ih
theorem idle_size : ∀ (n : Nat) (t : Ty), idleN n t = true → idleN (sizeT t) t = true
  | 0, t, h => idle_le (Nat.zero_le _) t h
  | n + 1, t, h => by
    by_cases h8 : t.kind = 8
    · by_cases hk : t.kids.length = 1
      · rw [idle_go _ _ h8 hk] at h
        have ih := idle_size n _ h
        have hs : sizeT t = sizeT (t.kids[0]'(by omega)) + 1 := by
          obtain ⟨x, hx⟩ := List.length_eq_one_iff.1 hk
          have e : t.kids[0]'(by omega) = x := by simp [hx]
          rw [e, sizeT_eq t, hx]; simp; omega
        rw [hs, idle_go _ _ h8 hk]; exact ih
      · rw [idle_odd _ _ h8 hk] at h; cases h
    · rw [idle_stop _ _ h8] at h ⊢; exact h
/-- behind some Recs there is a Var: Check lets it not by -/
theorem idle_bad {n : Nat} {t : Ty} (h8 : t.kind = 8) (h : idleN n t = true) (ar : List ByteArray) (c : Nat) (hc : c ≤ 60) : (chkT t ar c).1 ≠ 0 := by
  intro h0
  have h1 := (chkT_all t ar c h0).2
  have h2 := (chkT_cnt t ar c hc h0).2
  have hi := idle_le (m := 65536) (by omega) t (idle_size n t h)
  rw [chkT_eq] at h0
  by_cases q1 : 60 < c + 1
  · rw [if_pos q1] at h0; exact absurd h0 (by simp)
  rw [if_neg q1] at h0
  by_cases q2 : partT t = false
  · rw [if_pos q2] at h0; exact absurd h0 (by simp)
  rw [if_neg q2, if_neg (by omega), if_pos ⟨h8, hi⟩] at h0
  exact absurd h0 (by simp)
/-- a part with the names around it -/
abbrev Wk := Ty × List ByteArray
def chkW (l : List Wk) (a : Int × Nat) : Int × Nat := l.foldl (fun a x => if a.1 ≠ 0 then a else chkT x.1 x.2 a.2) a
theorem chkW_cons (x : Wk) (l : List Wk) (a : Int × Nat) : chkW (x :: l) a = chkW l (if a.1 ≠ 0 then a else chkT x.1 x.2 a.2) := rfl
theorem chkW_bad (l : List Wk) (a : Int × Nat) (h : a.1 ≠ 0) : chkW l a = a := by
  induction l with
  | nil => rfl
  | cons x l ih => rw [chkW_cons, if_pos h]; exact ih
theorem chkW_app (l r : List Wk) (a : Int × Nat) : chkW (l ++ r) a = chkW r (chkW l a) := by unfold chkW; rw [List.foldl_append]
theorem chkW_kids (ar : List ByteArray) (ks : List Ty) (a : Int × Nat) : chkW (ks.map fun k => (k, ar)) a = chkTL ar ks a := by
  unfold chkW chkTL; rw [List.foldl_map]
theorem chkW_head (x : Wk) (r : List Wk) (n : Nat) (h : (chkT x.1 x.2 n).1 ≠ 0) : (chkW (x :: r) (0, n)).1 ≠ 0 := by
  rw [chkW_cons, if_neg (by simp)]
  show (chkW r (chkT x.1 x.2 n)).1 ≠ 0
  rw [chkW_bad _ _ h]; exact h
theorem chkW_full (x : Wk) (r : List Wk) : (chkW (x :: r) (0, 60)).1 ≠ 0 := chkW_head x r 60 (by rw [chkT_eq, if_pos (by omega)]; simp)
theorem chkW_part (x : Wk) (r : List Wk) (n : Nat) (hn : n < 60) (h : partT x.1 = false) : (chkW (x :: r) (0, n)).1 ≠ 0 :=
  chkW_head x r n (by rw [chkT_eq, if_neg (by omega), if_pos h]; simp)
theorem chkW_var (x : Wk) (r : List Wk) (n : Nat) (hn : n < 60) (hp : partT x.1 = true) (h : x.1.kind = 9) (hh : hasN x.2 x.1.name = false) : (chkW (x :: r) (0, n)).1 ≠ 0 :=
  chkW_head x r n (by rw [chkT_eq, if_neg (by omega), if_neg (by simp [hp]), if_pos ⟨h, hh⟩]; simp)
theorem chkW_idle (x : Wk) (r : List Wk) (n m : Nat) (hn : n < 60) (h : x.1.kind = 8) (hi : idleN m x.1 = true) : (chkW (x :: r) (0, n)).1 ≠ 0 :=
  chkW_head x r n (idle_bad h hi x.2 n (by omega))
/-- the names around a part's Kids -/
def inner (x : Wk) : List ByteArray := if x.1.kind = 8 then x.2 ++ [x.1.name] else x.2
theorem chkW_step (x : Wk) (r : List Wk) (n : Nat) (hn : n < 60) (hp : partT x.1 = true) (hv : x.1.kind = 9 → hasN x.2 x.1.name = true) (hi : x.1.kind = 8 → ∀ m, idleN m x.1 = false) :
    chkW (x :: r) (0, n) = chkW ((x.1.kids.map fun k => (k, inner x)) ++ r) (0, n + 1) := by
  rw [chkW_cons, if_neg (by simp), chkW_app, chkW_kids]
  show chkW r (chkT x.1 x.2 n) = _
  rw [chkT_eq, if_neg (by omega), if_neg (by simp [hp]), if_neg (fun q => by rw [hv q.1] at q; exact absurd q.2 (by simp)), if_neg (fun q => by rw [hi q.1 65536] at q; exact absurd q.2 (by simp))]
  rfl
theorem chkW_one (t : Ty) : (chkW [(t, [])] (0, 0)).1 = chkTy t := rfl
theorem chkW_none (n : Nat) : (chkW [] (0, n)).1 = 0 := rfl
/-- the walk down the Recs ends: at a Var just if it is idle -/
theorem idle_none {t : Ty} (h8 : t.kind ≠ 8 ∨ t.kids.length ≠ 1) (h9 : t.kind ≠ 9) (m : Nat) : idleN m t = false := by
  by_cases h : t.kind = 8
  · exact idle_odd m t h (h8.resolve_left (fun q => q h))
  · rw [idle_stop m t h]; simpa using h9
/-- one Rec less -/
theorem idle_down {t : Ty} (h8 : t.kind = 8) (hk : t.kids.length = 1) : (∃ m, idleN m t = true) ↔ ∃ m, idleN m (t.kids[0]'(by omega)) = true := by
  constructor
  · rintro ⟨m, h⟩
    cases m with
    | zero => simp [idleN, h8] at h
    | succ m => exact ⟨m, by rw [← idle_go m t h8 hk]; exact h⟩
  · rintro ⟨m, h⟩
    exact ⟨m + 1, by rw [idle_go m t h8 hk]; exact h⟩
end Go.Proofs.YtnlpnbelkkgghaaDoor
