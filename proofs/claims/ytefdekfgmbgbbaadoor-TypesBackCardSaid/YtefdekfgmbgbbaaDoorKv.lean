/-
  The contract of what types.Parse hands to pieces.Read.
-/
import Derived.Test.YtefdekfgmbgbbaaDoorKu
namespace Go.Proofs.YtefdekfgmbgbbaaDoor
open Go.RowKit Go.Shelf
/-- the type that has been read lies in block tb -/
def InTb (w : World) (tb : Nat) (t : Ty) (w' : World) : Prop := ∃ al cl ak ck, TyAt w' tb 0 t al cl ak ck ∧ GT w w' 2001 t al cl ak ck ∧ ∀ o, o < 5 → w'.frozen? ⟨tb, o, none⟩ = false
set_option maxRecDepth 100000 in
set_option maxHeartbeats 2000000 in
theorem parse1_bad (rb tb q : Nat) (s : ByteArray) (w0 w : World) (hr : RS w rb s q) (hz : ZT w tb) (hne : tb ≠ rb) (h0 : FR tb w0 w) (hw0 : w0.heap.size ≤ rb) {r : List UInt8} (hT : rdT 2001 (rs s q) = .error r) : Calls Tryd.prog 16 #[.pointer (some ⟨rb, 0, none⟩), .pointer (some ⟨tb, 0, none⟩)] w fun e w' =>  e = .panicked (thrown s r) ∧ FR tb w0 w' ∧ ZT w' tb := by
  have hlt : (rs s q).length < 2001 := by rw [rs_len]; have := hr.sz; omega
  go_enter Tryd.func16, Tryd.ntmps16
  go_wp2_with fail
  refine (read_bad (read_all 2001) hT hlt rb q s _ hr rfl).mono ?_
  rintro e w1 ⟨rfl, hf1⟩
  go_wp2_with fail
  exact ⟨rfl, rfl, h0.via hf1 hw0, hz.keep hf1 hne⟩
set_option maxRecDepth 100000 in
set_option maxHeartbeats 2000000 in
theorem parse1_more (rb tb q : Nat) (s : ByteArray) (w0 w : World) (hr : RS w rb s q) (hz : ZT w tb) (hne : tb ≠ rb) (h0 : FR tb w0 w) (hw0 : w0.heap.size ≤ rb) {t : Ty} {r : List UInt8} (hT : rdT 2001 (rs s q) = .ok (t, r)) (hne2 : r ≠ []) : Calls Tryd.prog 16 #[.pointer (some ⟨rb, 0, none⟩), .pointer (some ⟨tb, 0, none⟩)] w fun e w' =>  e = .panicked (thrown s r) ∧ FR tb w0 w' ∧ ZT w' tb := by
  have hlt : (rs s q).length < 2001 := by rw [rs_len]; have := hr.sz; omega
  go_enter Tryd.func16, Tryd.ntmps16
  go_wp2_with fail
  refine (read_ok (read_all 2001) hT hlt rb q s _ hr rfl).mono ?_
  rintro e w1 ⟨⟨al, cl, ak, ck, rfl, hg⟩, ⟨q1, hq1, hl1⟩, hf1⟩
  have F1 := hideK (h0.via hf1 hw0)
  have Z1 := hideK (hz.keep hf1 hne)
  have hrl := hr.lt
  have HG := hideK hg
  have hlt1 := hq1.lt
  clear hg
  go_wp2_with fail
  have cF := finish_any rb q1 s (w1.alloc (.cells #[.int .i64 t.kind, .int .i64 t.so, .string t.name, .slice al t.labels.length cl, .slice ak t.kids.length ck] 25)) (hq1.al _)
  rw [hl1] at cF
  rw [if_neg hne2] at cF
  refine cF.mono ?_
  rintro e w2 ⟨rfl, hb2⟩
  go_wp2_with fail
  exact ⟨rfl, rfl, ((F1.out.via (rb := rb) (FR.al _) hw0).via (FR.of hb2) hw0), (Z1.out.keep (FR.al (pb := rb) _) hne).keep (FR.of (pb := rb) hb2) hne⟩
set_option maxRecDepth 100000 in
set_option maxHeartbeats 2000000 in
theorem parse1_wrong (rb tb q : Nat) (s : ByteArray) (w0 w : World) (hr : RS w rb s q) (hz : ZT w tb) (hne : tb ≠ rb) (h0 : FR tb w0 w) (hw0 : w0.heap.size ≤ rb) {t : Ty} (hT : rdT 2001 (rs s q) = .ok (t, [])) (hc : chkTy t ≠ 0) : Calls Tryd.prog 16 #[.pointer (some ⟨rb, 0, none⟩), .pointer (some ⟨tb, 0, none⟩)] w fun e w' =>  e = .panicked (faultE (chkTy t) 0) ∧ FR tb w0 w' ∧ ZT w' tb := by
  have hlt : (rs s q).length < 2001 := by rw [rs_len]; have := hr.sz; omega
  go_enter Tryd.func16, Tryd.ntmps16
  go_wp2_with fail
  refine (read_ok (read_all 2001) hT hlt rb q s _ hr rfl).mono ?_
  rintro e w1 ⟨⟨al, cl, ak, ck, rfl, hg⟩, ⟨q1, hq1, hl1⟩, hf1⟩
  have F1 := hideK (h0.via hf1 hw0)
  have Z1 := hideK (hz.keep hf1 hne)
  have hrl := hr.lt
  have HG := hideK hg
  have hlt1 := hq1.lt
  clear hg
  go_wp2_with fail
  have cF := finish_any rb q1 s (w1.alloc (.cells #[.int .i64 t.kind, .int .i64 t.so, .string t.name, .slice al t.labels.length cl, .slice ak t.kids.length ck] 25)) (hq1.al _)
  rw [hl1] at cF
  rw [if_pos rfl] at cF
  refine cF.mono ?_
  rintro e w2 ⟨rfl, hb2⟩
  have F2 := hideK ((F1.out.via (rb := rb) (FR.al (.cells #[.int .i64 t.kind, .int .i64 t.so, .string t.name, .slice al t.labels.length cl, .slice ak t.kids.length ck] 25)) hw0).via (FR.of hb2) hw0)
  have Z2 := hideK ((Z1.out.keep (FR.al (pb := rb) (.cells #[.int .i64 t.kind, .int .i64 t.so, .string t.name, .slice al t.labels.length cl, .slice ak t.kids.length ck] 25)) hne).keep (FR.of (pb := rb) hb2) hne)
  have G2 := hideK ((HG.out.keep (FR.al (pb := rb) (.cells #[.int .i64 t.kind, .int .i64 t.so, .string t.name, .slice al t.labels.length cl, .slice ak t.kids.length ck] 25)) hrl).keep (FR.of (pb := rb) hb2) hrl)
  have C2 := (TyAt.lit w1 t al cl ak ck).keep hb2 (by simp)
  obtain ⟨x0, x1, x2, x3, x4⟩ := id C2
  simp only [Nat.zero_add] at x1 x2 x3 x4
  clear cF HG
  go_wp2_with fail
  refine (checked_bad 2001 t al cl ak ck w2 G2.out.bd (G2.out.la.toLA (fun b hb => hb.2)) (G2.out.ka.toKT (fun b hb => hb.2)) hc).mono ?_
  rintro e w3 ⟨rfl, hb3⟩
  go_wp2_with fail
  exact ⟨rfl, rfl, F2.out.via (rb := rb) (FR.of hb3) hw0, Z2.out.keep (FR.of (pb := rb) hb3) hne⟩
set_option maxRecDepth 100000 in
set_option maxHeartbeats 2000000 in
theorem parse1_good (rb tb q : Nat) (s : ByteArray) (w0 w : World) (hr : RS w rb s q) (hz : ZT w tb) (hne : tb ≠ rb) (h0 : FR tb w0 w) (hw0 : w0.heap.size ≤ rb) {t : Ty} (hT : rdT 2001 (rs s q) = .ok (t, [])) (hc : chkTy t = 0) : Calls Tryd.prog 16 #[.pointer (some ⟨rb, 0, none⟩), .pointer (some ⟨tb, 0, none⟩)] w fun e w' =>  e = .returned (.tuple #[]) ∧ InTb w tb t w' ∧ FR tb w0 w' := by
  have hlt : (rs s q).length < 2001 := by rw [rs_len]; have := hr.sz; omega
  go_enter Tryd.func16, Tryd.ntmps16
  go_wp2_with fail
  refine (read_ok (read_all 2001) hT hlt rb q s _ hr rfl).mono ?_
  rintro e w1 ⟨⟨al, cl, ak, ck, rfl, hg⟩, ⟨q1, hq1, hl1⟩, hf1⟩
  have F1 := hideK (h0.via hf1 hw0)
  have Z1 := hideK (hz.keep hf1 hne)
  have hrl := hr.lt
  have HG := hideK hg
  have hlt1 := hq1.lt
  clear hg
  go_wp2_with fail
  have cF := finish_any rb q1 s (w1.alloc (.cells #[.int .i64 t.kind, .int .i64 t.so, .string t.name, .slice al t.labels.length cl, .slice ak t.kids.length ck] 25)) (hq1.al _)
  rw [hl1] at cF
  rw [if_pos rfl] at cF
  refine cF.mono ?_
  rintro e w2 ⟨rfl, hb2⟩
  have F2 := hideK ((F1.out.via (rb := rb) (FR.al (.cells #[.int .i64 t.kind, .int .i64 t.so, .string t.name, .slice al t.labels.length cl, .slice ak t.kids.length ck] 25)) hw0).via (FR.of hb2) hw0)
  have Z2 := hideK ((Z1.out.keep (FR.al (pb := rb) (.cells #[.int .i64 t.kind, .int .i64 t.so, .string t.name, .slice al t.labels.length cl, .slice ak t.kids.length ck] 25)) hne).keep (FR.of (pb := rb) hb2) hne)
  have G2 := hideK ((HG.out.keep (FR.al (pb := rb) (.cells #[.int .i64 t.kind, .int .i64 t.so, .string t.name, .slice al t.labels.length cl, .slice ak t.kids.length ck] 25)) hrl).keep (FR.of (pb := rb) hb2) hrl)
  have C2 := (TyAt.lit w1 t al cl ak ck).keep hb2 (by simp)
  obtain ⟨x0, x1, x2, x3, x4⟩ := id C2
  simp only [Nat.zero_add] at x1 x2 x3 x4
  clear cF HG
  go_wp2_with fail
  refine (checked_ok 2001 t al cl ak ck w2 G2.out.bd (G2.out.la.toLA (fun b hb => hb.2)) (G2.out.ka.toKT (fun b hb => hb.2)) hc).mono ?_
  rintro e w3 ⟨rfl, hb3⟩
  have F3 := hideK (F2.out.via (rb := rb) (FR.of hb3) hw0)
  have Z3 := Z2.out.keep (FR.of (pb := rb) hb3) hne
  have G3 := hideK (G2.out.keep (FR.of (pb := rb) hb3) hrl)
  obtain ⟨zl, z0, z1, z2, z3, z4, y0, y1, y2, y3, y4⟩ := id Z3
  have hzl := hz.lt
  go_wp2_with fail
  have TA := Z3.st t al cl ak ck
  have F9 := F3.out.stb (.int .i64 t.kind) (.int .i64 t.so) (.string t.name) (.slice al t.labels.length cl) (.slice ak t.kids.length ck)
  have G9 := G3.out.st (w := w) hzl (.int .i64 t.kind) (.int .i64 t.so) (.string t.name) (.slice al t.labels.length cl) (.slice ak t.kids.length ck) (Nat.le_refl _)
  go_end0
  refine ⟨rfl, ⟨al, cl, ak, ck, TA, G9, fun o ho => ?_⟩, F9⟩
  change (st5 w3 tb 0 (.int .i64 t.kind) (.int .i64 t.so) (.string t.name) (.slice al t.labels.length cl) (.slice ak t.kids.length ck)).frozen? _ = _
  rw [st5_frozen]
  have : o = 0 ∨ o = 1 ∨ o = 2 ∨ o = 3 ∨ o = 4 := by omega
  rcases this with rfl | rfl | rfl | rfl | rfl
  · exact y0
  · exact y1
  · exact y2
  · exact y3
  · exact y4
/-- what Parse's reading leaves: the type in its block, or what is thrown -/
def P1Post (w : World) (tb : Nat) (x : Except (Int × Nat) Ty) (e : Ending) (w' : World) : Prop :=
  match x with
  | .ok t => e = .returned (.tuple #[]) ∧ InTb w tb t w' ∧ FR tb w w'
  | .error (c, a) => e = .panicked (faultE c (a : Int)) ∧ FR tb w w' ∧ ZT w' tb
theorem InTb.old {w0 w W : World} {tb : Nat} {t : Ty} (h : InTb w tb t W) (hw : w0.heap.size ≤ w.heap.size) : InTb w0 tb t W := by
  obtain ⟨al, cl, ak, ck, h1, h2, h3⟩ := h
  exact ⟨al, cl, ak, ck, h1, h2.old hw, h3⟩
theorem parse1_all (rb tb q : Nat) (s : ByteArray) (w0 w : World) (hr : RS w rb s q) (hz : ZT w tb) (hne : tb ≠ rb) (h0 : FR tb w0 w) (hw0 : w0.heap.size ≤ rb) (hq : rs s q = skB s.data.toList) :
    Calls Tryd.prog 16 #[.pointer (some ⟨rb, 0, none⟩), .pointer (some ⟨tb, 0, none⟩)] w fun e w' => P1Post w0 tb (psT s.data.toList) e w' := by
  have hsz : s.data.toList.length = s.size := by simp
  have h2 := hr.sz
  unfold psT
  rw [if_neg (by rw [hsz]; omega)]
  cases hT : rdT 2001 (skB s.data.toList) with
  | error r =>
    rw [← hq] at hT
    simp only [hsz]
    exact parse1_bad rb tb q s w0 w hr hz hne h0 hw0 hT
  | ok x =>
    obtain ⟨t, r⟩ := x
    rw [← hq] at hT
    simp only [hsz]
    by_cases hr0 : r = []
    · subst hr0
      rw [if_pos rfl]
      by_cases hc : chkTy t = 0
      · rw [if_pos hc]
        exact (parse1_good rb tb q s w0 w hr hz hne h0 hw0 hT hc).mono fun e w' ⟨a, b, c⟩ => ⟨a, b.old h0.size, c⟩
      · rw [if_neg hc]
        exact parse1_wrong rb tb q s w0 w hr hz hne h0 hw0 hT hc
    · rw [if_neg hr0]
      exact parse1_more rb tb q s w0 w hr hz hne h0 hw0 hT hr0
end Go.Proofs.YtefdekfgmbgbbaaDoor
