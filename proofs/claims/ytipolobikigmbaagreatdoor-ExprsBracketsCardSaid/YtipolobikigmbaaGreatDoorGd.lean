/-
  Plain mathematics: how a right expression is written, with brackets where they are needed; by its Kids' texts, for every expression.
-/
import Derived.Test.YtipolobikigmbaaGreatDoorXk
import Derived.Test.YtipolobikigmbaaGreatDoorYa
import Derived.Test.YtipolobikigmbaaGreatDoorOm
import Derived.Lib.ItoaLen
import Derived.Test.YtipolobikigmbaaGreatDoorGc
namespace Go.Proofs.YtipolobikigmbaaGreatDoor
open Go.RowKit Go.Shelf

/-- what stands ahead of what an operator of one is of -/
def aheadL (l : List UInt8) : List UInt8 := if l = [110, 111, 116] then [110, 111, 116, 32] else if l = [110, 101, 103] then [45, 32] else [35]
/-- in brackets where it holds less tightly -/
def brT (k : Ex) (t : List UInt8) (least : Int) : List UInt8 := if k.kind = 3 ∧ k.kids.length = 2 ∧ lvl k.name.data.toList < least then [40] ++ t ++ [41] else t
def wrN (nm : List UInt8) : List (Ex × List UInt8) → List UInt8
  | [p] => aheadL nm ++ brT p.1 p.2 6
  | [p, q] => brT p.1 p.2 (lvl nm) ++ [32] ++ nm ++ [32] ++ brT q.1 q.2 (lvl nm + 1)
  | _ => []
/-- what an expression is written as -/
def wrX : Ex → List UInt8
  | ⟨kd, nm, so, n, s, ks⟩ => if kd = 1 then wtL so n s else if kd = 2 then nm.data.toList else wrN nm.data.toList (ks.map fun k => (k, wrX k))
theorem wrX_eq (x : Ex) : wrX x = if x.kind = 1 then wtL x.so x.n x.s else if x.kind = 2 then x.name.data.toList else wrN x.name.data.toList (x.kids.map fun k => (k, wrX k)) := by cases x; rw [wrX]
def brX (k : Ex) (least : Int) : List UInt8 := brT k (wrX k) least
theorem wr_lit (x : Ex) (h : x.kind = 1) : wrX x = wtL x.so x.n x.s := by rw [wrX_eq, if_pos h]
theorem wr_name (x : Ex) (h : x.kind = 2) : wrX x = x.name.data.toList := by rw [wrX_eq, if_neg (by omega), if_pos h]
theorem wr_one (x a : Ex) (h : x.kind = 3) (hk : x.kids = [a]) : wrX x = aheadL x.name.data.toList ++ brX a 6 := by
  rw [wrX_eq, if_neg (by omega), if_neg (by omega), hk]; rfl
theorem wr_two (x a b : Ex) (h : x.kind = 3) (hk : x.kids = [a, b]) : wrX x = brX a (lvl x.name.data.toList) ++ [32] ++ x.name.data.toList ++ [32] ++ brX b (lvl x.name.data.toList + 1) := by
  rw [wrX_eq, if_neg (by omega), if_neg (by omega), hk]; rfl
theorem lvl_le (l : List UInt8) : lvl l ≤ 5 := by
  unfold lvl; (repeat' split) <;> omega
theorem lvl_ge (l : List UInt8) : 0 ≤ lvl l := by
  unfold lvl; (repeat' split) <;> omega
theorem wf_two (k : Ex) (h : wfX k) (h2 : k.kids.length = 2) : k.kind = 3 := by
  rcases wf_cases k h with ⟨_, hk, _⟩ | ⟨_, hk, _⟩ | ⟨h, _⟩ | ⟨h, _⟩
  · rw [hk] at h2; cases h2
  · rw [hk] at h2; cases h2
  · exact h
  · exact h
/-- of a right expression: brackets by the number of Kids and the level alone -/
theorem br_ref (k : Ex) (h : wfX k) (least : Int) : brX k least = if k.kids.length = 2 ∧ lvl k.name.data.toList < least then [40] ++ wrX k ++ [41] else wrX k := by
  unfold brX brT
  by_cases h2 : k.kids.length = 2
  · simp [h2, wf_two k h h2]
  · simp [h2]
theorem br_one (k : Ex) (h : wfX k) : brX k 6 = if k.kids.length = 2 then [40] ++ wrX k ++ [41] else wrX k := by
  rw [br_ref k h]
  have := lvl_le k.name.data.toList
  by_cases h2 : k.kids.length = 2
  · rw [if_pos ⟨h2, by omega⟩, if_pos h2]
  · rw [if_neg (fun h => h2 h.1), if_neg h2]
theorem bs_app (a b : List UInt8) : bs (a ++ b) = bs a ++ bs b := by
  apply ByteArray.ext; apply Array.toList_inj.1; simp [bs]
theorem bs_len (l : List UInt8) : (bs l).size = l.length := by simp [bs, ByteArray.size]
theorem wt_len (so n : Int) (s : ByteArray) (h0 : -9223372036854775808 ≤ n) (h1 : n ≤ 9223372036854775807) (h : chkZ vD so n s = 0) : (wtL so n s).length ≤ 202 := by
  rcases chk_sorts vD so n s h with rfl | rfl | rfl
  · show (Lib.itoa n).length ≤ _
    have := Lib.itoa_length_le n h0 h1; omega
  · show (Lib.formatBool (n == 1)).length ≤ _
    cases (n == 1) <;> decide
  · obtain ⟨rfl, hl, hv⟩ := (text_zero vD n s).1 h
    show (quo s.data.toList).length ≤ _
    have := (esc_len s.data.toList).2
    rw [← size_list] at this
    simp [quo]; omega
theorem lvl_len3 (l : List UInt8) (h : 0 < lvl l) : l.length ≤ 3 := by
  unfold lvl at h
  by_cases h1 : l = [111, 114]
  · rw [h1]; decide
  rw [if_neg h1] at h
  by_cases h2 : l = [97, 110, 100]
  · rw [h2]; decide
  rw [if_neg h2] at h
  by_cases h3 : l = [61, 61] ∨ l = [60] ∨ l = [60, 61]
  · rcases h3 with h | h | h <;> (rw [h]; decide)
  rw [if_neg h3] at h
  by_cases h4 : l = [43] ∨ l = [45] ∨ l = [43, 43]
  · rcases h4 with h | h | h <;> (rw [h]; decide)
  rw [if_neg h4] at h
  by_cases h5 : l = [42] ∨ l = [47] ∨ l = [37]
  · rcases h5 with h | h | h <;> (rw [h]; decide)
  rw [if_neg h5] at h
  omega
theorem nm_len (l : List UInt8) (h : isNm l = true) : l.length ≤ 8 := by
  unfold isNm at h
  split at h
  · cases h
  · simp only [Bool.and_eq_true, decide_eq_true_eq] at h; exact h.1.2
theorem br_len (k : Ex) (least : Int) : (brX k least).length ≤ (wrX k).length + 2 := by
  unfold brX brT; split <;> simp
theorem ahead_len (l : List UInt8) : (aheadL l).length ≤ 4 := by unfold aheadL; (repeat' split) <;> simp
theorem wr_len (W : World) (B : Nat) : ∀ (d : Nat) (x : Ex) (ao : Option Addr) (cap : Nat), wfX x → ExBd x cap → KA W B d x.kids ao → (wrX x).length ≤ 300 * sizeX x := by
  intro d
  induction d with
  | zero =>
    intro x ao cap hw hb hk
    have hs := sizeX_eq x
    have hk : x.kids = [] := hk
    rw [hk] at hs
    simp at hs
    rcases wf_cases x hw with ⟨h, _, hg⟩ | ⟨h, _, hn⟩ | ⟨h, a, ha, _⟩ | ⟨h, a, b, ha, _⟩
    · rw [wr_lit x h]; have := wt_len x.so x.n x.s hb.n0 hb.n1 hg; omega
    · rw [wr_name x h]; have := nm_len _ hn; omega
    · rw [hk] at ha; cases ha
    · rw [hk] at ha; cases ha
  | succ d ih =>
    intro x ao cap hw hb hk
    have hs := sizeX_eq x
    rcases wf_cases x hw with ⟨h, _, hg⟩ | ⟨h, _, hn⟩ | ⟨h, a, ha, hwa, _⟩ | ⟨h, a, b, ha, hwa, hwb, hl⟩
    · rw [wr_lit x h]; have := wt_len x.so x.n x.s hb.n0 hb.n1 hg; omega
    · rw [wr_name x h]; have := nm_len _ hn; omega
    · rcases hk with hk | ⟨bb, o, _, _, hk⟩
      · rw [hk] at ha; cases ha
      · obtain ⟨ao', cap', _, h2, h3⟩ := hk 0 (by rw [ha]; simp)
        have e0 : x.kids[0]'(by rw [ha]; simp) = a := by simp [ha]
        rw [e0] at h2 h3
        have i1 := ih a ao' cap' hwa h2 h3
        have i2 := br_len a 6
        have i3 := ahead_len x.name.data.toList
        rw [wr_one x a h ha, List.length_append]
        rw [ha] at hs
        simp at hs
        omega
    · rcases hk with hk | ⟨bb, o, _, _, hk⟩
      · rw [hk] at ha; cases ha
      · obtain ⟨ao', cap', _, h2, h3⟩ := hk 0 (by rw [ha]; simp)
        obtain ⟨ao'', cap'', _, h4, h5⟩ := hk 1 (by rw [ha]; simp)
        have e0 : x.kids[0]'(by rw [ha]; simp) = a := by simp [ha]
        have e1 : x.kids[1]'(by rw [ha]; simp) = b := by simp [ha]
        rw [e0] at h2 h3
        rw [e1] at h4 h5
        have i1 := ih a ao' cap' hwa h2 h3
        have j1 := ih b ao'' cap'' hwb h4 h5
        have i2 := br_len a (lvl x.name.data.toList)
        have j2 := br_len b (lvl x.name.data.toList + 1)
        have i3 := lvl_len3 _ hl
        rw [wr_two x a b h ha]
        simp only [List.length_append, List.length_cons, List.length_nil]
        rw [ha] at hs
        simp at hs
        omega
end Go.Proofs.YtipolobikigmbaaGreatDoor
/-
  What is written of an expression is read as it was: the levels of operators.
  hL: what is written of a value is read as it, in whatever stands behind it.
-/
namespace Go.Proofs.YtipolobikigmbaaGreatDoor
open Go.RowKit Go.Shelf
/-- numbers of 64 bits all through -/
def inL : Ex → Prop
  | ⟨_, _, _, n, _, ks⟩ => (-9223372036854775808 ≤ n ∧ n ≤ 9223372036854775807) ∧ ∀ k, k ∈ ks → inL k
theorem inL_eq (x : Ex) : inL x ↔ (-9223372036854775808 ≤ x.n ∧ x.n ≤ 9223372036854775807) ∧ ∀ k ∈ x.kids, inL k := by cases x; rw [inL]
/-- what may stand behind a piece -/
def nx (r : List UInt8) : Prop := r = [] ∨ r.head? = some 32 ∨ r.head? = some 41
theorem nx_low (r : List UInt8) (h : nx r) : noLow r := by
  intro c hc
  rcases h with rfl | h | h
  · simp at hc
  · rw [h] at hc; injection hc with hc; subst hc; decide
  · rw [h] at hc; injection hc with hc; subst hc; decide
def lev (x : Ex) : Int := if x.kids.length = 2 then lvl x.name.data.toList else 6
section
variable (Z : List UInt8 → Int × Int × List UInt8 × Int)
def OO (l : List UInt8) (v : Ex × List UInt8) : Prop := ∃ n, rdX Z n none l = .ok v
def EE (k : Int) (l : List UInt8) (v : Ex × List UInt8) : Prop := ∃ n, rdX Z n (some k) l = .ok v
def LL (k : Int) (x : Ex) (l : List UInt8) (v : Ex × List UInt8) : Prop := ∃ n m, rdLp (fun k => rdX Z n (some k)) k m x l = .ok v
theorem lp_mono {E F : Int → List UInt8 → RdE} (h : ∀ k, Lq (E k) (F k)) (least : Int) : ∀ (m m' : Nat) (x : Ex) (l : List UInt8) (v : Ex × List UInt8), m ≤ m' → rdLp E least m x l = .ok v → rdLp F least m' x l = .ok v
  | 0, _, x, l, v, _, hv => by rw [rdLp] at hv; cases hv
  | m + 1, 0, x, l, v, hm, _ => by omega
  | m + 1, m' + 1, x, l, v, hm, hv => by
    rw [rdLp] at hv ⊢
    split at hv
    · rename_i h1; rw [if_pos h1]; exact hv
    · rename_i h1; rw [if_neg h1]
      split at hv
      · cases hv
      · rename_i y r he
        rw [h _ _ _ he]
        exact lp_mono h least m m' _ r v (by omega) hv
theorem EE_of {k : Int} {l r : List UInt8} {x : Ex} {v : Ex × List UInt8} (h1 : OO Z l (x, r)) (h2 : LL Z k x r v) : EE Z k l v := by
  obtain ⟨a, ha⟩ := h1
  obtain ⟨n, m, hn⟩ := h2
  refine ⟨a + n + m + 1, ?_⟩
  rw [rdX, rdX_more Z a none l _ ha (a + n + m) (by omega)]
  exact lp_mono (fun k' l' v' hv => rdX_more Z n (some k') l' v' hv (a + n + m) (by omega)) k m _ x r v (by omega) hn
theorem LL_stop (k : Int) (x : Ex) (l : List UInt8) (h : lvl (opAh l) < k) : LL Z k x l (x, l) := ⟨0, 1, by rw [rdLp, if_pos h]⟩
theorem LL_step {k : Int} {x y : Ex} {l r : List UInt8} {v : Ex × List UInt8} (h : ¬ lvl (opAh l) < k) (h1 : EE Z (lvl (opAh l) + 1) (skB (l.drop (opAh l).length)) (y, r)) (h2 : LL Z k ⟨3, bs (opAh l), 0, 0, ⟨#[]⟩, [x, y]⟩ r v) : LL Z k x l v := by
  obtain ⟨a, ha⟩ := h1
  obtain ⟨n, m, hn⟩ := h2
  refine ⟨a + n, m + 1, ?_⟩
  rw [rdLp, if_neg h, rdX_more Z a _ _ _ ha (a + n) (by omega)]
  exact lp_mono (fun k' l' v' hv => rdX_more Z n (some k') l' v' hv (a + n) (by omega)) k m _ _ r v (by omega) hn
theorem OO_br {l t : List UInt8} {x : Ex} (h : EE Z 1 (skB l) (x, 41 :: t)) : OO Z (40 :: l) (x, skB t) := by
  obtain ⟨n, hn⟩ := h
  refine ⟨n + 1, ?_⟩
  rw [rdX]
  unfold rdOp
  rw [if_pos (by simp)]
  unfold rdBr
  simp only [List.drop_succ_cons, List.drop_zero]
  rw [hn]
  simp [need]
theorem OO_num {l r : List UInt8} {x : Ex} (h : OO Z (skB l) (x, r)) : OO Z (35 :: l) (⟨3, bs [35], 0, 0, ⟨#[]⟩, [x]⟩, r) := by
  obtain ⟨n, hn⟩ := h
  refine ⟨n + 1, ?_⟩
  rw [rdX]
  unfold rdOp
  rw [if_neg (by simp), if_pos (by simp)]
  unfold rdOne
  simp only [List.drop_succ_cons, List.drop_zero]
  rw [hn]
theorem OO_neg {l r : List UInt8} {x : Ex} (h : OO Z (skB l) (x, r)) : OO Z (45 :: 32 :: l) (⟨3, bs [110, 101, 103], 0, 0, ⟨#[]⟩, [x]⟩, r) := by
  obtain ⟨n, hn⟩ := h
  refine ⟨n + 1, ?_⟩
  rw [rdX]
  unfold rdOp
  rw [if_neg (by simp), if_neg (by simp), if_neg (by simp), if_neg (by simp [numAh, sg1, lead, isDig]), if_pos (by simp)]
  unfold rdOne
  simp only [List.drop_succ_cons, List.drop_zero, skB_32]
  rw [hn]
theorem rdOp_low (O E : List UInt8 → RdE) (w r : List UInt8) (hw : w.all isLow = true) (h1 : 1 ≤ w.length) : rdOp Z O E (w ++ r) = rdWd Z O (w ++ r) := by
  have hh := head_low w r hw h1
  unfold rdOp
  rw [if_neg (hh 40 (by decide)), if_neg (hh 35 (by decide)), if_neg (hh 34 (by decide)), if_neg ?_, if_neg (hh 45 (by decide))]
  cases w with
  | nil => simp at h1
  | cons c w =>
    have hc : isLow c = true := by simp at hw; exact hw.1
    have h45 : sg1 (c :: w ++ r) = 0 := by unfold sg1; rw [if_neg (hh 45 (by decide))]
    have hd : isDig c = false := by unfold isLow at hc; unfold isDig; simp at hc ⊢; omega
    unfold numAh
    rw [h45]
    simp [lead, hd]
theorem OO_not {l r : List UInt8} {x : Ex} (h : OO Z (skB l) (x, r)) : OO Z (110 :: 111 :: 116 :: 32 :: l) (⟨3, bs [110, 111, 116], 0, 0, ⟨#[]⟩, [x]⟩, r) := by
  obtain ⟨n, hn⟩ := h
  refine ⟨n + 1, ?_⟩
  have hw := (word_at [110, 111, 116] (32 :: l) (by decide) (by decide) (noLow_blank l)).2
  rw [rdX]
  show rdOp Z _ _ ([110, 111, 116] ++ 32 :: l) = _
  rw [rdOp_low Z _ _ _ _ (by decide) (by decide)]
  unfold rdWd
  rw [hw, if_neg (by decide), if_pos rfl]
  unfold rdOne
  show (match rdX Z n none (skB (32 :: l)) with | .error e => _ | .ok (x, r) => _) = _
  rw [skB_32, hn]
theorem OO_name (w : ByteArray) (r : List UInt8) (hw : isNm w.data.toList = true) (hr : nx r) : OO Z (skB (w.data.toList ++ r)) (⟨2, w, 0, 0, ⟨#[]⟩, []⟩, skB r) := by
  obtain ⟨hl, h1⟩ := nm_low _ hw
  obtain ⟨h2, h3⟩ := word_at _ r hl h1 (nx_low r hr)
  refine ⟨1, ?_⟩
  rw [h2, rdX, rdOp_low Z _ _ _ _ hl h1]
  unfold rdWd
  rw [h3]
  have hn : ¬ (w.data.toList = [116, 114, 117, 101] ∨ w.data.toList = [102, 97, 108, 115, 101]) := by
    rintro (h | h) <;> rw [h] at hw <;> revert hw <;> decide
  have hn2 : ¬ w.data.toList = [110, 111, 116] := by
    intro h; rw [h] at hw; revert hw; decide
  rw [if_neg hn, if_neg hn2, if_pos hw]
  simp [bs]
end
theorem op_is (l : List UInt8) (h : 0 < lvl l) : l ∈ [[111, 114], [97, 110, 100], [61, 61], [60, 61], [43, 43], [60], [43], [45], [42], [47], [37]] := by
  unfold lvl at h
  split at h
  · rename_i h1; subst h1; decide
  · split at h
    · rename_i h1; subst h1; decide
    · split at h
      · rename_i h1; rcases h1 with rfl | rfl | rfl <;> decide
      · split at h
        · rename_i h1; rcases h1 with rfl | rfl | rfl <;> decide
        · split at h
          · rename_i h1; rcases h1 with rfl | rfl | rfl <;> decide
          · omega
theorem op_self (l : List UInt8) (h : 0 < lvl l) (m : List UInt8) : opAh (l ++ 32 :: m) = l ∧ skB (l ++ 32 :: m) = l ++ 32 :: m := by
  rw [opAh_app]
  have := op_is l h
  have h2 : ∀ o ∈ [[111, 114], [97, 110, 100], [61, 61], [60, 61], [43, 43], [60], [43], [45], [42], [47], [37]], opAh o = o ∧ (o.head?.getD 32) ≠ 32 := by decide
  refine ⟨(h2 l this).1, ?_⟩
  have h3 := (h2 l this).2
  cases l with
  | nil => simp at h3
  | cons c l => rw [List.cons_append, skB_cons c _ (by simpa using h3)]
end Go.Proofs.YtipolobikigmbaaGreatDoor
