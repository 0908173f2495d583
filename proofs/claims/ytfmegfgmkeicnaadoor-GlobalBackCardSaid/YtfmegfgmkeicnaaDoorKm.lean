/-
  The contracts of the reading of a name, of words.ReadSort and of words.ReadLabel, wherever a reader stands: a word, or what is thrown.
-/
import Derived.Test.YtfmegfgmkeicnaaDoorKl
import Derived.Deep.LoopGhost
import Derived.Laws.AppendOwn
namespace Go.Proofs.YtfmegfgmkeicnaaDoor
open Go.RowKit Go.Shelf

theorem lite2_any (s : ByteArray) (w : World) (hs : s.size ≤ 281474976710656) :
    Calls Tryd.prog 67 #[.string s] w fun e w' => e = .returned (.string s) ∧ Below w.heap.size w w' := Any.stringslite_Clone Tryd.laysM316 s w hs
set_option maxHeartbeats 400000 in
theorem cloneT_any (s : ByteArray) (w : World) (hs : s.size ≤ 281474976710656) :
    Calls Tryd.prog 31 #[.string s] w fun e w' => e = .returned (.string s) ∧ Below w.heap.size w w' := by
  have c := lite2_any s w hs
  go_enter Tryd.func31, Tryd.ntmps31
  go_wp2_with fail
  refine c.mono ?_
  rintro e w1 ⟨rfl, hb⟩
  go_wp2_with fail
  go_ret
  exact ⟨rfl, hb⟩
/-- what a reading leaves -/
def GPost {α : Type} (s : ByteArray) (rb : Nat) (V : World → α → Value → Prop) (x : Except (List UInt8) (α × List UInt8)) (e : Ending) (w' : World) : Prop :=
  match x with
  | .error r => e = .panicked (thrown s r)
  | .ok (a, r) => ∃ v, e = .returned v ∧ V w' a v ∧ ∃ p', RS w' rb s p' ∧ rs s p' = r
theorem wd_at (s : ByteArray) (p : Nat) (h : p ≤ s.size) : p + (bs (wd (rs s p))).size ≤ s.size := by
  have := wd_le (rs s p)
  rw [rs_len] at this
  rw [bs_size]
  omega
set_option maxRecDepth 100000 in
set_option maxHeartbeats 1000000 in
theorem takeVar_yes (rb p : Nat) (s : ByteArray) (w : World) (h : RS w rb s p)
    (cV : ∀ w1, Below w.heap.size w w1 → Calls Tryd.prog 60 #[.string (bs (wd (rs s p)))] w1 fun e w' => e = .returned (.bool true) ∧ Below w1.heap.size w1 w') :
    Calls Tryd.prog 59 #[.pointer (some ⟨rb, 0, none⟩), .func (.func 60) #[] #[]] w fun e w' => e = .returned (.string (bs (wd (rs s p)))) ∧ (∃ p', RS w' rb s p' ∧ rs s p' = skB ((rs s p).drop (wd (rs s p)).length)) ∧ FR rb w w' := by
  have hsz := h.sz
  have hwl := wd_at s p h.le
  have cW := word_any rb p s w h
  have cC := hideK (fun w1 => cloneT_any (bs (wd (rs s p))) w1 (by omega))
  have HP := hideK (fun (w1 : World) (h1 : RS w1 rb s p) => pass_any rb p (bs (wd (rs s p))).size s w1 h1 hwl)
  have HR := hideK h
  have HV := hideK cV
  rw [← bs_size (wd (rs s p))]
  clear h hwl hsz cV
  generalize bs (wd (rs s p)) = t at *
  go_enter Tryd.func59, Tryd.ntmps59
  go_wp2_with (first
    | (go_at_call 58; refine cW.mono ?_; rintro e w1 ⟨rfl, hb1⟩; have H1 := hideK (HR.out.keep hb1))
    | (go_at_call 60; refine (HV.out _ hb1).mono ?_; rintro e w3 ⟨rfl, hb3⟩; have H3 := hideK (H1.out.keep hb3))
    | (go_at_call 57; refine (HP.out _ H3.out).mono ?_; rintro e w4 ⟨rfl, ⟨q, hq, hl⟩, hf⟩)
    | (go_at_call 31; refine (cC.out _).mono ?_; rintro e w2 ⟨rfl, hb2⟩))
  go_ret
  exact ⟨rfl, ⟨q, hq.keep hb2, hl⟩, (((FR.of hb1).trans (FR.of hb3)).trans hf).trans (FR.of hb2)⟩
set_option maxRecDepth 100000 in
set_option maxHeartbeats 1000000 in
theorem takeVar_no (rb p : Nat) (s : ByteArray) (w : World) (h : RS w rb s p)
    (cV : ∀ w1, Below w.heap.size w w1 → Calls Tryd.prog 60 #[.string (bs (wd (rs s p)))] w1 fun e w' => e = .returned (.bool false) ∧ Below w1.heap.size w1 w') :
    Calls Tryd.prog 59 #[.pointer (some ⟨rb, 0, none⟩), .func (.func 60) #[] #[]] w fun e w' => e = .panicked (thrown s (rs s p)) ∧ FR rb w w' := by
  have cW := word_any rb p s w h
  have cF := hideK (fun (w1 : World) (h1 : RS w1 rb s p) => fault_any rb p s 3 w1 h1)
  rw [thrown_at s p h.le]
  have HR := hideK h
  have HV := hideK cV
  clear h cV
  generalize bs (wd (rs s p)) = t at *
  go_enter Tryd.func59, Tryd.ntmps59
  go_wp2_with (first
    | (go_at_call 58; refine cW.mono ?_; rintro e w1 ⟨rfl, hb1⟩; have H1 := hideK (HR.out.keep hb1))
    | (go_at_call 60; refine (HV.out _ hb1).mono ?_; rintro e w3 ⟨rfl, hb3⟩; have H3 := hideK (H1.out.keep hb3))
    | (go_at_call 66; refine (cF.out _ H3.out).mono ?_; rintro e w4 ⟨rfl, hb4⟩))
  exact ⟨rfl, rfl, ((FR.of hb1).trans (FR.of hb3)).trans (FR.of hb4)⟩
theorem readVar_any (rb p : Nat) (s : ByteArray) (w : World) (h : RS w rb s p) :
    Calls Tryd.prog 59 #[.pointer (some ⟨rb, 0, none⟩), .func (.func 60) #[] #[]] w fun e w' => GPost s rb (fun _ nm v => v = .string nm) (rdVar (rs s p)) e w' ∧ FR rb w w' := by
  have hsz := h.sz
  have hwl := wd_at s p h.le
  have cV := fun w1 => isVar_any (bs (wd (rs s p))) w1 (by omega)
  rw [bs_list] at cV
  unfold rdVar
  by_cases hv : isVr (wd (rs s p)) = true
  · rw [if_pos hv]
    rw [hv] at cV
    simp only [GPost]
    exact (takeVar_yes rb p s w h (fun w1 _ => cV w1)).mono fun e w' ⟨h1, h2, h3⟩ => ⟨⟨_, h1, rfl, h2⟩, h3⟩
  · rw [if_neg hv]
    rw [Bool.not_eq_true] at hv
    rw [hv] at cV
    simp only [GPost]
    exact takeVar_no rb p s w h (fun w1 _ => cV w1)
set_option maxRecDepth 100000 in
set_option maxHeartbeats 2000000 in
theorem readSort_any (rb p : Nat) (s : ByteArray) (w : World) (h : RS w rb s p) :
    Calls Tryd.prog 97 #[.pointer (some ⟨rb, 0, none⟩)] w fun e w' => GPost s rb (fun _ so v => v = .int .i64 so) (rdSort (rs s p)) e w' ∧ FR rb w w' := by
  have cW := hideK (fun (w1 : World) (h1 : RS w1 rb s p) => word_any rb p s w1 h1)
  have cS1 : Hid (∀ w1 : World, Calls Tryd.prog 53 #[.int .i64 1] w1 fun e w' => e = .returned (.string ⟨#[105, 110, 116]⟩) ∧ w' = w1) := fun w1 => sortWord_any 1 w1
  have cS2 : Hid (∀ w1 : World, Calls Tryd.prog 53 #[.int .i64 2] w1 fun e w' => e = .returned (.string ⟨#[98, 111, 111, 108]⟩) ∧ w' = w1) := fun w1 => sortWord_any 2 w1
  have cS3 : Hid (∀ w1 : World, Calls Tryd.prog 53 #[.int .i64 3] w1 fun e w' => e = .returned (.string ⟨#[116, 101, 120, 116]⟩) ∧ w' = w1) := fun w1 => sortWord_any 3 w1
  have cF := hideK (fun (w1 : World) (h1 : RS w1 rb s p) => fault_any rb p s 3 w1 h1)
  have HR := hideK h
  have i0 : ∀ w1 : World, (Instr.index 156 (.agg #[.int .i64 1, .int .i64 2, .int .i64 3]) (.int .i64 0)).run Tryd.prog w1 = .ok (.int .i64 1) w1 := fun _ => by kernel_rfl
  have i1 : ∀ w1 : World, (Instr.index 156 (.agg #[.int .i64 1, .int .i64 2, .int .i64 3]) (.int .i64 1)).run Tryd.prog w1 = .ok (.int .i64 2) w1 := fun _ => by kernel_rfl
  have i2 : ∀ w1 : World, (Instr.index 156 (.agg #[.int .i64 1, .int .i64 2, .int .i64 3]) (.int .i64 2)).run Tryd.prog w1 = .ok (.int .i64 3) w1 := fun _ => by kernel_rfl
  have b1 : ((bs (wd (rs s p))).toList == [105, 110, 116]) = decide (wd (rs s p) = [105, 110, 116]) := by rw [beqL, bs_list]
  have b2 : ((bs (wd (rs s p))).toList == [98, 111, 111, 108]) = decide (wd (rs s p) = [98, 111, 111, 108]) := by rw [beqL, bs_list]
  have b3 : ((bs (wd (rs s p))).toList == [116, 101, 120, 116]) = decide (wd (rs s p) = [116, 101, 120, 116]) := by rw [beqL, bs_list]
  have hwl := wd_at s p h.le
  rw [bs_size] at hwl
  unfold rdSort
  by_cases h1 : wd (rs s p) = [105, 110, 116]
  · rw [if_pos h1]
    rw [decide_eq_true h1] at b1
    have hz : ((bs (wd (rs s p))).size : Int) = 3 := by rw [bs_size, h1]; rfl
    rw [h1] at hwl
    have HP := hideK (fun (w1 : World) (h1 : RS w1 rb s p) => pass_any rb p 3 s w1 h1 hwl)
    simp only [GPost]
    clear h hwl h1 b2 b3
    generalize bs (wd (rs s p)) = t at *
    go_enter Tryd.func97, Tryd.ntmps97
    go_wp2_with fail
    go_loopw [7] (fun i wr => ∃ k : Int, (k = 0) ∧ i = .int .i64 k ∧ Below w.heap.size w wr) (fun i _ => 3 - (intOf i).toNat)
    case atStart => exact ⟨0, by omega, rfl, Below.refl _ _⟩
    case round =>
      obtain ⟨k, hkk, rfl, hb⟩ := hrel
      have HB := hideK hb
      have H0 := hideK (HR.out.keep hb)
      clear hb
      rcases hkk with rfl
      · go_wp2_with (first
          | (go_at_call 58; refine (cW.out _ H0.out).mono ?_; rintro e w1 ⟨rfl, hb1⟩; have H1 := hideK (H0.out.keep hb1))
          | (go_at_call 53; refine (cS1.out _).mono ?_; rintro e w2 ⟨rfl, rfl⟩)
          | (go_at_call 57; refine (HP.out _ H1.out).mono ?_; rintro e w3 ⟨rfl, hx, hf⟩))
        go_ret
        exact ⟨⟨_, rfl, rfl, hx⟩, (FR.of (HB.out.trans (hb1.mono HB.out.size))).trans hf⟩
  rw [if_neg h1]
  rw [decide_eq_false h1] at b1
  clear h1
  by_cases h2 : wd (rs s p) = [98, 111, 111, 108]
  · rw [if_pos h2]
    rw [decide_eq_true h2] at b2
    have hz : ((bs (wd (rs s p))).size : Int) = 4 := by rw [bs_size, h2]; rfl
    rw [h2] at hwl
    have HP := hideK (fun (w1 : World) (h1 : RS w1 rb s p) => pass_any rb p 4 s w1 h1 hwl)
    simp only [GPost]
    clear h hwl h2 b3
    generalize bs (wd (rs s p)) = t at *
    go_enter Tryd.func97, Tryd.ntmps97
    go_wp2_with fail
    go_loopw [7] (fun i wr => ∃ k : Int, (k = 0 ∨ k = 1) ∧ i = .int .i64 k ∧ Below w.heap.size w wr) (fun i _ => 3 - (intOf i).toNat)
    case atStart => exact ⟨0, by omega, rfl, Below.refl _ _⟩
    case round =>
      obtain ⟨k, hkk, rfl, hb⟩ := hrel
      have HB := hideK hb
      have H0 := hideK (HR.out.keep hb)
      clear hb
      rcases hkk with rfl | rfl
      · go_wp2_with (first
          | (go_at_call 58; refine (cW.out _ H0.out).mono ?_; rintro e w1 ⟨rfl, hb1⟩; have H1 := hideK (H0.out.keep hb1))
          | (go_at_call 53; refine (cS1.out _).mono ?_; rintro e w2 ⟨rfl, rfl⟩))
        go_roundw
        case rel => exact ⟨1, by omega, by go_num, HB.out.trans (hb1.mono HB.out.size)⟩
        case measure => simp [intOf]
      · go_wp2_with (first
          | (go_at_call 58; refine (cW.out _ H0.out).mono ?_; rintro e w1 ⟨rfl, hb1⟩; have H1 := hideK (H0.out.keep hb1))
          | (go_at_call 53; refine (cS2.out _).mono ?_; rintro e w2 ⟨rfl, rfl⟩)
          | (go_at_call 57; refine (HP.out _ H1.out).mono ?_; rintro e w3 ⟨rfl, hx, hf⟩))
        go_ret
        exact ⟨⟨_, rfl, rfl, hx⟩, (FR.of (HB.out.trans (hb1.mono HB.out.size))).trans hf⟩
  rw [if_neg h2]
  rw [decide_eq_false h2] at b2
  clear h2
  by_cases h3 : wd (rs s p) = [116, 101, 120, 116]
  · rw [if_pos h3]
    rw [decide_eq_true h3] at b3
    have hz : ((bs (wd (rs s p))).size : Int) = 4 := by rw [bs_size, h3]; rfl
    rw [h3] at hwl
    have HP := hideK (fun (w1 : World) (h1 : RS w1 rb s p) => pass_any rb p 4 s w1 h1 hwl)
    simp only [GPost]
    clear h hwl h3
    generalize bs (wd (rs s p)) = t at *
    go_enter Tryd.func97, Tryd.ntmps97
    go_wp2_with fail
    go_loopw [7] (fun i wr => ∃ k : Int, (k = 0 ∨ k = 1 ∨ k = 2) ∧ i = .int .i64 k ∧ Below w.heap.size w wr) (fun i _ => 3 - (intOf i).toNat)
    case atStart => exact ⟨0, by omega, rfl, Below.refl _ _⟩
    case round =>
      obtain ⟨k, hkk, rfl, hb⟩ := hrel
      have HB := hideK hb
      have H0 := hideK (HR.out.keep hb)
      clear hb
      rcases hkk with rfl | rfl | rfl
      · go_wp2_with (first
          | (go_at_call 58; refine (cW.out _ H0.out).mono ?_; rintro e w1 ⟨rfl, hb1⟩; have H1 := hideK (H0.out.keep hb1))
          | (go_at_call 53; refine (cS1.out _).mono ?_; rintro e w2 ⟨rfl, rfl⟩))
        go_roundw
        case rel => exact ⟨1, by omega, by go_num, HB.out.trans (hb1.mono HB.out.size)⟩
        case measure => simp [intOf]
      · go_wp2_with (first
          | (go_at_call 58; refine (cW.out _ H0.out).mono ?_; rintro e w1 ⟨rfl, hb1⟩; have H1 := hideK (H0.out.keep hb1))
          | (go_at_call 53; refine (cS2.out _).mono ?_; rintro e w2 ⟨rfl, rfl⟩))
        go_roundw
        case rel => exact ⟨2, by omega, by go_num, HB.out.trans (hb1.mono HB.out.size)⟩
        case measure => simp [intOf]
      · go_wp2_with (first
          | (go_at_call 58; refine (cW.out _ H0.out).mono ?_; rintro e w1 ⟨rfl, hb1⟩; have H1 := hideK (H0.out.keep hb1))
          | (go_at_call 53; refine (cS3.out _).mono ?_; rintro e w2 ⟨rfl, rfl⟩)
          | (go_at_call 57; refine (HP.out _ H1.out).mono ?_; rintro e w3 ⟨rfl, hx, hf⟩))
        go_ret
        exact ⟨⟨_, rfl, rfl, hx⟩, (FR.of (HB.out.trans (hb1.mono HB.out.size))).trans hf⟩
  rw [if_neg h3]
  rw [decide_eq_false h3] at b3
  clear h3
  simp only [GPost]
  rw [thrown_at s p h.le]
  clear h hwl
  generalize bs (wd (rs s p)) = t at *
  go_enter Tryd.func97, Tryd.ntmps97
  go_wp2_with fail
  go_loopw [7] (fun i wr => ∃ k : Int, (k = 0 ∨ k = 1 ∨ k = 2 ∨ k = 3) ∧ i = .int .i64 k ∧ Below w.heap.size w wr) (fun i _ => 3 - (intOf i).toNat)
  case atStart => exact ⟨0, by omega, rfl, Below.refl _ _⟩
  case round =>
    obtain ⟨k, hkk, rfl, hb⟩ := hrel
    have HB := hideK hb
    have H0 := hideK (HR.out.keep hb)
    clear hb
    rcases hkk with rfl | rfl | rfl | rfl
    · go_wp2_with (first
        | (go_at_call 58; refine (cW.out _ H0.out).mono ?_; rintro e w1 ⟨rfl, hb1⟩; have H1 := hideK (H0.out.keep hb1))
        | (go_at_call 53; refine (cS1.out _).mono ?_; rintro e w2 ⟨rfl, rfl⟩))
      go_roundw
      case rel => exact ⟨1, by omega, by go_num, HB.out.trans (hb1.mono HB.out.size)⟩
      case measure => simp [intOf]
    · go_wp2_with (first
        | (go_at_call 58; refine (cW.out _ H0.out).mono ?_; rintro e w1 ⟨rfl, hb1⟩; have H1 := hideK (H0.out.keep hb1))
        | (go_at_call 53; refine (cS2.out _).mono ?_; rintro e w2 ⟨rfl, rfl⟩))
      go_roundw
      case rel => exact ⟨2, by omega, by go_num, HB.out.trans (hb1.mono HB.out.size)⟩
      case measure => simp [intOf]
    · go_wp2_with (first
        | (go_at_call 58; refine (cW.out _ H0.out).mono ?_; rintro e w1 ⟨rfl, hb1⟩; have H1 := hideK (H0.out.keep hb1))
        | (go_at_call 53; refine (cS3.out _).mono ?_; rintro e w2 ⟨rfl, rfl⟩))
      go_roundw
      case rel => exact ⟨3, by omega, by go_num, HB.out.trans (hb1.mono HB.out.size)⟩
      case measure => simp [intOf]
    · go_wp2_with (first
        | (go_at_call 66; refine (cF.out _ H0.out).mono ?_; rintro e w1 ⟨rfl, hb1⟩))
      exact ⟨rfl, rfl, (FR.of HB.out).trans (FR.of (hb1))⟩
/-- names as cells -/
abbrev nCs (ls : List ByteArray) : List Value := ls.map Value.string
set_option maxHeartbeats 1000000 in
theorem cloneN_some (ls : List ByteArray) (b o cl : Nat) (w : World) (hc : ∀ i (h : i < ls.length), w.cell? ⟨b, o + i, none⟩ = some (.string ls[i])) (hl : ls.length ≤ 6) :
    Calls Tryd.prog 141 #[.slice (some ⟨b, o, none⟩) ls.length cl] w fun e w' => ∃ v, e = .returned v ∧ w'.ownsRow w.heap.size 9 1 v ls.length (nCs ls) ∧ Below w.heap.size w w' := by
  obtain ⟨i0, hi, hz0, hz1, hz2⟩ := info_parts infoSt
  have hn : ∀ j u, (nCs ls)[j]? = some u → w.cell? ((⟨b, o, none⟩ : Addr).add j) = some u := by
    intro j u hj
    rw [addjo]
    rw [List.getElem?_map] at hj
    obtain ⟨x, hx, rfl⟩ := Option.map_eq_some_iff.1 hj
    obtain ⟨hjl, rfl⟩ := List.getElem?_eq_some_iff.1 hx
    exact hc j hjl
  have hN := hideK hn
  have hlen : (nCs ls).length = ls.length * 1 := by simp
  have h1 : ∀ u ∈ nCs ls, u.oneCell' = true := by
    intro u hu
    obtain ⟨x, _, rfl⟩ := List.mem_map.1 hu
    rfl
  have hm : ls.length ≤ maxLen := by unfold maxLen; omega
  have H1 := hideK h1
  have HL := hideK hlen
  clear hc hn h1 hlen
  generalize nCs ls = news at *
  generalize ls.length = n at *
  have qB : ∀ (w : World) (a : Option Addr) (n c n' c' : Nat), (binOp .eql 22 (.slice a n c) (.slice none n' c')).run Tryd.prog w = .ok (.bool a.isNone) w := fun w a n c n' c' => Lib.run_eql_slice_nil w _ _ a n c n' c' Tryd.underlying22
  go_enter Tryd.func141, Tryd.ntmps141
  go_wp2_with (at_builtin; refine wpList_append_own _ rfl _ _ 22 rfl w.heap.size 9 i0 (.string ⟨#[]⟩) 1 16 Tryd.underlying22 hi hz0 hz1 hz2 rfl (by decide) _ _ _ rfl (World.ownsRow_made w #[] 0 (Nat.le_refl _) (Nat.zero_le _) (by simp)) ⟨b, o, none⟩ n cl news rfl ?qc1 ?qc2 ?qc3 ?qc4 ?qc5 ?qc6 ?_)
  case qc1 => exact HL.out
  case qc2 =>
    intro j u hj
    exact Lib.cell?_alloc_some _ (hN.out j u hj)
  case qc3 => exact H1.out
  case qc4 => rw [Nat.zero_add]; exact hm
  case qc5 => omega
  case qc6 => simp
  intro v' w1 hown hgrow hnil
  go_wp2_with fail
  go_ret
  refine ⟨v', rfl, by simpa using hown, ?_⟩
  exact ((Below.refl _ w).alloc (Nat.le_refl _) _).grown hgrow (by simp) (by intro k hk; simp [Value.ownBlock] at hk; omega)
set_option maxHeartbeats 400000 in
theorem cloneN_none (cl : Nat) (w : World) :
    Calls Tryd.prog 141 #[.slice none 0 cl] w fun e w' => e = .returned (.slice none 0 0) ∧ w' = w := by
  have qB : ∀ (w : World) (a : Option Addr) (n c n' c' : Nat), (binOp .eql 22 (.slice a n c) (.slice none n' c')).run Tryd.prog w = .ok (.bool a.isNone) w := fun w a n c n' c' => Lib.run_eql_slice_nil w _ _ a n c n' c' Tryd.underlying22
  go_enter Tryd.func141, Tryd.ntmps141
  go_wp2_with fail
  go_ret
  exact ⟨rfl, rfl⟩
theorem cloneN_own (ls : List ByteArray) (v : Value) (base : Nat) (w : World) (h : w.ownsRow base 9 1 v ls.length (nCs ls)) (hl : ls.length ≤ 6) :
    Calls Tryd.prog 141 #[v] w fun e w' => ∃ v', e = .returned v' ∧ w'.ownsRow w.heap.size 9 1 v' ls.length (nCs ls) ∧ Below w.heap.size w w' := by
  rcases own_cells h with ⟨rfl, h0, _⟩ | ⟨g, cap, rfl, _, _, hc⟩
  · have : ls = [] := List.length_eq_zero_iff.1 h0
    subst this
    exact (cloneN_none 0 w).mono fun e w' ⟨h1, h2⟩ => ⟨_, h1, World.ownsRow_nil _ _ _ _, h2 ▸ Below.refl _ _⟩
  · exact cloneN_some ls g 0 cap w (fun i hi => by rw [Nat.zero_add]; exact hc i _ (by simp [hi])) hl
theorem la_own (ls : List ByteArray) (v : Value) (base : Nat) (w : World) (h : w.ownsRow base 9 1 v ls.length (nCs ls)) : ∃ al cl, v = .slice al ls.length cl ∧ LA w w.heap.size ls al := by
  rcases own_cells h with ⟨rfl, h0, _⟩ | ⟨g, cap, rfl, _, hg, hc⟩
  · have : ls = [] := List.length_eq_zero_iff.1 h0
    subst this
    exact ⟨none, 0, rfl, .inl rfl⟩
  · exact ⟨_, cap, rfl, .inr ⟨g, 0, rfl, hg, fun i hi => by rw [Nat.zero_add]; exact hc i _ (by simp at hi; simp [hi])⟩⟩
/-- a literal -/
theorem lit_own (w : World) (e : TypeId) (size n : Nat) (cur : Array Value) (hs : cur.size = n * size) (hn : n ≤ 100) : (w.alloc (.cells cur e)).ownsRow w.heap.size e size (.slice (some ⟨w.heap.size, 0, none⟩) n n) n cur.toList :=
  ⟨by simpa using hs, .inr ⟨w.heap.size, n, cur, rfl, Nat.le_refl _, heap_alloc_new w _, Nat.le_refl _, by unfold maxLen; omega, hs, List.take_of_length_le (by simp [hs])⟩⟩
theorem labs_big (ls : List ByteArray) (nm : ByteArray) (h : 6 ≤ ls.length) : labsOK (ls ++ [nm]) = false := by
  unfold labsOK
  rw [show decide (1 ≤ (ls ++ [nm]).length ∧ (ls ++ [nm]).length ≤ 6) = false by simp; omega]
  rfl
end Go.Proofs.YtfmegfgmkeicnaaDoor
