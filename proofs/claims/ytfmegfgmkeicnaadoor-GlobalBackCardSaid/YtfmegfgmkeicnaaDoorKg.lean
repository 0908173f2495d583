/-
  strings.Builder's WriteString leaves all other memory as it was; the contract of types.sign; how a type is written, as a list of bytes, and how long that is.
-/
import Derived.Test.YtfmegfgmkeicnaaDoorKe
import Derived.Test.YtfmegfgmkeicnaaDoorFs
import Derived.Deep.DeepCutAuto
import Derived.Deep.RegionHeld3
namespace Go.Proofs.YtfmegfgmkeicnaaDoor
open Go.RowKit Go.Shelf

set_option maxHeartbeats 1000000 in
set_option maxRecDepth 100000 in
theorem writeStringK (B b : Nat) (l : List UInt8) (s : ByteArray) (w : World) (h : Lib.IsBuilderF 61 5 B b (Lib.byteCells l) w) (hlen : l.length + s.size ≤ 140737488355328) (hBw : B ≤ w.heap.size) :
    Calls Tryd.prog 47 #[.pointer (some ⟨b, 0, none⟩), .string s] w fun e w' => e = .returned (.tuple #[.int .i64 s.size, .nilIface]) ∧ Lib.IsBuilderF 61 5 B b (Lib.byteCells (l ++ s.data.toList)) w' ∧ Below B w w' ∧ Lib.OthersKept 5 (some b) w w' := by
  obtain ⟨i0, hi, hz0, hz1, hz2⟩ := info_parts infoByte
  have hbl : (Lib.byteCells l).length = l.length := Lib.byteCells_length l
  have hst : Lib.strCells s = Lib.byteCells s.data.toList := by unfold Lib.strCells Lib.byteCells; simp
  rw [Lib.byteCells_append, ← hst]
  generalize Lib.byteCells l = bs at h hbl ⊢
  clear hst
  go_enter Tryd.func47, Tryd.ntmps47
  go_wp2_with (go_at_call 85; refine (copyCheck_any B b bs _ h).mono ?_)
  rintro e w1 ⟨rfl, ⟨hB, v, hbk, hown, hne⟩, hb1, hk1⟩
  have hsz := hb1.size
  have c0 : w1.cell? ⟨b, 0, none⟩ = some (.pointer (some ⟨b, 0, none⟩)) := by rw [Lib.cell_of_heap hbk]; rfl
  have c1 : w1.cell? ⟨b, 1, none⟩ = some v := by rw [Lib.cell_of_heap hbk]; rfl
  go_wp2_with (at_builtin; refine Lib.wpList_append_own_stringF _ rfl _ _ 59 9 rfl B 5 i0 Tryd.underlying59 Tryd.underlying9 hi hz0 hz1 hz2 _ _ _ rfl hown s rfl ?c3 ?c4 ?c5 ?_)
  case c3 => unfold maxLen; omega
  case c4 => omega
  case c5 => omega
  intro v' w2 hown' hgrow _
  have hlt : b < w1.heap.size := (Array.getElem?_eq_some_iff.1 hbk).1
  have hb2 : w2.heap[b]? = some (.cells #[.pointer (some ⟨b, 0, none⟩), v] 61 (0, 0)) := by
    rw [hgrow.block b hlt (fun e => hne e.symm)]
    exact hbk
  have hk2 := hk1.grown hgrow (fun g hg => by
    rcases hown.2 with ⟨rfl, _⟩ | ⟨g', cap, cur, fz, rfl, _, hc, _⟩
    · cases hg
    · simp [Value.ownBlock] at hg; subst hg; exact ⟨cur, fz, hc⟩)
  have d0 : w2.cell? ⟨b, 0, none⟩ = some (.pointer (some ⟨b, 0, none⟩)) := by rw [Lib.cell_of_heap hb2]; rfl
  have d1 : w2.cell? ⟨b, 1, none⟩ = some v := by rw [Lib.cell_of_heap hb2]; rfl
  have f1 : w2.frozen? ⟨b, 1, none⟩ = false := Lib.frozen_of_heap hb2 1
  obtain ⟨ao, n', cap, rfl⟩ : ∃ ao n' cap, v' = .slice ao n' cap := by
    rcases hown'.2 with ⟨hv, _⟩ | ⟨g, cap, cur, fz, hv, _⟩
    · exact ⟨_, _, _, hv⟩
    · exact ⟨_, _, _, hv⟩
  go_wp2
  go_ret2
  refine ⟨rfl, .inr (Lib.BuilderAtF.put (T := 61) (e := 5) hB hb2 (bs' := bs ++ Lib.strCells s) (by rw [List.length_append, Lib.strCells_length, hbl]; exact hown') (by decide)), ?_, hk2.setCell ⟨b, 1, none⟩ rfl _⟩
  exact (hb1.grown hgrow (by omega) (fun k hk => (hown.lt k hk).1)).setCell (p := ⟨b, 1, none⟩) hB _

/-- with what a kind begins -/
def sgB (k : Int) : ByteArray := if k = 2 ∨ k = 4 then ⟨#[33]⟩ else if k = 3 ∨ k = 5 then ⟨#[63]⟩ else if k = 6 then ⟨#[43]⟩ else if k = 7 then ⟨#[38]⟩ else ⟨#[]⟩
set_option maxHeartbeats 400000 in
theorem sign_any (k : Int) (w : World) :
    Calls Tryd.prog 77 #[.int .i64 k] w fun e w' => e = .returned (.string (sgB k)) ∧ w' = w := by
  by_cases h2 : k = 2
  · subst h2
    go_enter Tryd.func77, Tryd.ntmps77
    go_wp2_with fail
    go_ret
    exact ⟨rfl, rfl⟩
  by_cases h4 : k = 4
  · subst h4
    go_enter Tryd.func77, Tryd.ntmps77
    go_wp2_with fail
    go_ret
    exact ⟨rfl, rfl⟩
  by_cases h3 : k = 3
  · subst h3
    go_enter Tryd.func77, Tryd.ntmps77
    go_wp2_with fail
    go_ret
    exact ⟨rfl, rfl⟩
  by_cases h5 : k = 5
  · subst h5
    go_enter Tryd.func77, Tryd.ntmps77
    go_wp2_with fail
    go_ret
    exact ⟨rfl, rfl⟩
  by_cases h6 : k = 6
  · subst h6
    go_enter Tryd.func77, Tryd.ntmps77
    go_wp2_with fail
    go_ret
    exact ⟨rfl, rfl⟩
  by_cases h7 : k = 7
  · subst h7
    go_enter Tryd.func77, Tryd.ntmps77
    go_wp2_with fail
    go_ret
    exact ⟨rfl, rfl⟩
  have e : sgB k = ⟨#[]⟩ := by unfold sgB; rw [if_neg (by omega), if_neg (by omega), if_neg h6, if_neg h7]
  rw [e]
  have b2 : (k == 2) = false := by simpa using h2
  have b3 : (k == 3) = false := by simpa using h3
  have b4 : (k == 4) = false := by simpa using h4
  have b5 : (k == 5) = false := by simpa using h5
  have b6 : (k == 6) = false := by simpa using h6
  have b7 : (k == 7) = false := by simpa using h7
  go_enter Tryd.func77, Tryd.ntmps77
  go_wp2_with fail
  go_ret
  exact ⟨rfl, rfl⟩

/-- labels and what stands behind each -/
def choL (pre : List UInt8) : List (ByteArray × List UInt8) → List UInt8
  | [] => []
  | p :: r => pre ++ p.1.data.toList ++ [58] ++ p.2 ++ choL [44] r
def wrTN (kd so : Int) (nm : ByteArray) (ls : List ByteArray) (ts : List (List UInt8)) : List UInt8 :=
  if kd = 1 then [101, 110, 100] else if kd = 9 then nm.data.toList else if kd = 8 then [114, 101, 99, 32] ++ nm.data.toList ++ [46] ++ ts.getD 0 []
  else if kd = 2 ∨ kd = 3 then (sgB kd).data.toList ++ (swB so).data.toList ++ [46] ++ ts.getD 0 []
  else if kd = 4 ∨ kd = 5 then (sgB kd).data.toList ++ [123] ++ ts.getD 0 [] ++ [125, 46] ++ ts.getD 1 []
  else choL ((sgB kd).data.toList ++ [123]) (ls.zip ts) ++ [125]
/-- what a type is written as -/
def wrT : Ty → List UInt8
  | ⟨kd, so, nm, ls, ks⟩ => wrTN kd so nm ls (ks.map wrT)
theorem wrT_eq (t : Ty) : wrT t = wrTN t.kind t.so t.name t.labels (t.kids.map wrT) := by cases t; rw [wrT]
theorem sg_len (k : Int) : (sgB k).data.toList.length ≤ 1 := by unfold sgB; (repeat' split) <;> simp
theorem sw_len (k : Int) : (swB k).data.toList.length ≤ 4 := by unfold swB; (repeat' split) <;> simp
theorem vr_len (l : List UInt8) (h : isVr l = true) : l.length ≤ 8 := by
  unfold isVr at h
  simp only [Bool.and_eq_true] at h
  have := h.1
  unfold isNm at this
  split at this
  · cases this
  · simp only [Bool.and_eq_true, decide_eq_true_eq] at this; exact this.1.2
theorem nm_len8 (l : List UInt8) (h : isNm l = true) : l.length ≤ 8 := by
  unfold isNm at h
  split at h
  · cases h
  · simp only [Bool.and_eq_true, decide_eq_true_eq] at h; exact h.1.2
theorem labs_len (ls : List ByteArray) (h : labsOK ls = true) : ls.length ≤ 6 ∧ ∀ l ∈ ls, l.data.toList.length ≤ 8 := by
  unfold labsOK at h
  simp only [Bool.and_eq_true, decide_eq_true_eq] at h
  refine ⟨h.1.2, fun l hl => ?_⟩
  obtain ⟨i, hi, rfl⟩ := List.getElem_of_mem hl
  have := List.all_eq_true.1 h.2 i (by simpa using hi)
  unfold labAt at this
  rw [getD_at ls i hi] at this
  simp only [Bool.and_eq_true] at this
  exact nm_len8 _ this.1
theorem cho_len (ps : List (ByteArray × List UInt8)) : ∀ (pre : List UInt8), pre.length ≤ 2 → (∀ p ∈ ps, p.1.data.toList.length ≤ 8) → (choL pre ps).length ≤ 11 * ps.length + (ps.map fun p => p.2.length).sum := by
  induction ps with
  | nil => intro pre _ _; simp [choL]
  | cons p r ih =>
    intro pre hp hl
    have h1 := ih [44] (by simp) (fun q hq => hl q (.tail _ hq))
    have h2 := hl p (.head _)
    simp only [choL, List.length_append, List.length_cons, List.length_nil, List.map_cons, List.sum_cons]
    omega

/-- the ways in which a part of a type can be right -/
theorem part_cases (t : Ty) (h : partT t = true) : (t.kind = 1 ∧ t.kids = []) ∨ (t.kind = 9 ∧ t.kids = [] ∧ isVr t.name.data.toList = true) ∨ (t.kind = 8 ∧ isVr t.name.data.toList = true ∧ ∃ a, t.kids = [a]) ∨
    ((t.kind = 2 ∨ t.kind = 3) ∧ ∃ a, t.kids = [a]) ∨ ((t.kind = 4 ∨ t.kind = 5) ∧ ∃ a b, t.kids = [a, b]) ∨ ((t.kind = 6 ∨ t.kind = 7) ∧ labsOK t.labels = true ∧ t.kids.length = t.labels.length) := by
  have one : ∀ ks : List Ty, ks.length = 1 → ∃ a, ks = [a] := fun ks h => List.length_eq_one_iff.1 h
  have two : ∀ ks : List Ty, ks.length = 2 → ∃ a b, ks = [a, b] := fun ks h => by
    match ks, h with
    | [a, b], _ => exact ⟨a, b, rfl⟩
  unfold partT at h
  by_cases h1 : t.kind = 1
  · rw [if_pos h1] at h
    simp only [Bool.and_eq_true, decide_eq_true_eq] at h
    exact .inl ⟨h1, List.eq_nil_of_length_eq_zero h.2⟩
  rw [if_neg h1] at h
  by_cases h2 : t.kind = 2 ∨ t.kind = 3
  · rw [if_pos h2] at h
    simp only [Bool.and_eq_true, decide_eq_true_eq] at h
    exact .inr (.inr (.inr (.inl ⟨h2, one _ h.2⟩)))
  rw [if_neg h2] at h
  by_cases h3 : t.kind = 4 ∨ t.kind = 5
  · rw [if_pos h3] at h
    simp only [Bool.and_eq_true, decide_eq_true_eq] at h
    exact .inr (.inr (.inr (.inr (.inl ⟨h3, two _ h.2⟩))))
  rw [if_neg h3] at h
  by_cases h4 : t.kind = 6 ∨ t.kind = 7
  · rw [if_pos h4] at h
    simp only [Bool.and_eq_true, decide_eq_true_eq] at h
    exact .inr (.inr (.inr (.inr (.inr ⟨h4, h.1.2, h.2⟩))))
  rw [if_neg h4] at h
  by_cases h5 : t.kind = 8
  · rw [if_pos h5] at h
    simp only [Bool.and_eq_true, decide_eq_true_eq] at h
    exact .inr (.inr (.inl ⟨h5, h.1.1.2, one _ h.2⟩))
  rw [if_neg h5] at h
  by_cases h6 : t.kind = 9
  · rw [if_pos h6] at h
    simp only [Bool.and_eq_true, decide_eq_true_eq] at h
    exact .inr (.inl ⟨h6, List.eq_nil_of_length_eq_zero h.2, h.1.1.2⟩)
  rw [if_neg h6] at h
  cases h
theorem wt_end (t : Ty) (h : t.kind = 1) : wrT t = [101, 110, 100] := by rw [wrT_eq]; unfold wrTN; rw [if_pos h]
theorem wt_var (t : Ty) (h : t.kind = 9) : wrT t = t.name.data.toList := by rw [wrT_eq]; unfold wrTN; rw [if_neg (by omega), if_pos h]
theorem wt_rec (t a : Ty) (h : t.kind = 8) (hk : t.kids = [a]) : wrT t = [114, 101, 99, 32] ++ t.name.data.toList ++ [46] ++ wrT a := by rw [wrT_eq]; unfold wrTN; rw [if_neg (by omega), if_neg (by omega), if_pos h, hk]; rfl
theorem wt_msg (t a : Ty) (h : t.kind = 2 ∨ t.kind = 3) (hk : t.kids = [a]) : wrT t = (sgB t.kind).data.toList ++ (swB t.so).data.toList ++ [46] ++ wrT a := by rw [wrT_eq]; unfold wrTN; rw [if_neg (by omega), if_neg (by omega), if_neg (by omega), if_pos h, hk]; rfl
theorem wt_give (t a b : Ty) (h : t.kind = 4 ∨ t.kind = 5) (hk : t.kids = [a, b]) : wrT t = (sgB t.kind).data.toList ++ [123] ++ wrT a ++ [125, 46] ++ wrT b := by rw [wrT_eq]; unfold wrTN; rw [if_neg (by omega), if_neg (by omega), if_neg (by omega), if_neg (by omega), if_pos h, hk]; rfl
theorem wt_cho (t : Ty) (h : t.kind = 6 ∨ t.kind = 7) : wrT t = choL ((sgB t.kind).data.toList ++ [123]) (t.labels.zip (t.kids.map wrT)) ++ [125] := by rw [wrT_eq]; unfold wrTN; rw [if_neg (by omega), if_neg (by omega), if_neg (by omega), if_neg (by omega), if_neg (by omega)]
theorem zip_sum (ls : List ByteArray) : ∀ ts : List (List UInt8), ((ls.zip ts).map fun p => p.2.length).sum ≤ (ts.map List.length).sum := by
  induction ls with
  | nil => intro ts; simp
  | cons l ls ih =>
    intro ts
    cases ts with
    | nil => simp
    | cons x ts => have := ih ts; simp only [List.zip_cons_cons, List.map_cons, List.sum_cons]; omega
theorem wrT_len : ∀ t : Ty, wfT t → (wrT t).length ≤ 100 * sizeT t := by
  apply tyInd
  intro t ih hw
  obtain ⟨hp, hk⟩ := (wfT_eq t).1 hw
  have hs := sizeT_eq t
  rcases part_cases t hp with ⟨h, e⟩ | ⟨h, e, hn⟩ | ⟨h, hn, a, e⟩ | ⟨h, a, e⟩ | ⟨h, a, b, e⟩ | ⟨h, hl, hkl⟩
  · rw [wt_end t h]; simp; omega
  · rw [wt_var t h]; have := vr_len _ hn; omega
  · have i1 := ih a (by rw [e]; simp) (hk a (by rw [e]; simp))
    have := vr_len _ hn
    rw [wt_rec t a h e]; rw [e] at hs; simp at hs; simp only [List.length_append, List.length_cons, List.length_nil]; omega
  · have i1 := ih a (by rw [e]; simp) (hk a (by rw [e]; simp))
    have := sg_len t.kind
    have := sw_len t.so
    rw [wt_msg t a h e]; rw [e] at hs; simp at hs; simp only [List.length_append, List.length_cons, List.length_nil]; omega
  · have i1 := ih a (by rw [e]; simp) (hk a (by rw [e]; simp))
    have i2 := ih b (by rw [e]; simp) (hk b (by rw [e]; simp))
    have := sg_len t.kind
    rw [wt_give t a b h e]; rw [e] at hs; simp at hs; simp only [List.length_append, List.length_cons, List.length_nil]; omega
  · obtain ⟨h6, h8⟩ := labs_len _ hl
    have := sg_len t.kind
    rw [wt_cho t h, List.length_append]
    have h1 := cho_len (t.labels.zip (t.kids.map wrT)) ((sgB t.kind).data.toList ++ [123]) (by rw [List.length_append]; simp only [List.length_cons, List.length_nil]; omega) (fun p hpm => h8 _ (List.of_mem_zip hpm).1)
    have h2 := zip_sum t.labels (t.kids.map wrT)
    have h3 : ((t.kids.map wrT).map List.length).sum ≤ 100 * (t.kids.map sizeT).sum := by
      have : ∀ l : List Ty, (∀ k ∈ l, (wrT k).length ≤ 100 * sizeT k) → ((l.map wrT).map List.length).sum ≤ 100 * (l.map sizeT).sum := by
        intro l
        induction l with
        | nil => intro _; simp
        | cons x l ihl =>
          intro hx
          have a1 := hx x (.head _)
          have a2 := ihl (fun k hk => hx k (.tail _ hk))
          simp only [List.map_cons, List.sum_cons]; omega
      exact this _ (fun k hkm => ih k hkm (hk k hkm))
    have h4 : (t.labels.zip (t.kids.map wrT)).length ≤ 6 := by simp; omega
    simp only [List.length_cons, List.length_nil]
    omega
end Go.Proofs.YtfmegfgmkeicnaaDoor
