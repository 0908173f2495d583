/-
  The contract of duetkeep.free: does a name stand in a type that no Rec in it binds?
-/
import Derived.Test.YtoieacgojkgjgaaDoorVc
import Derived.Test.YtoieacgojkgjgaaDoorJw
namespace Go.Proofs.YtoieacgojkgjgaaDoor
open Go.RowKit Go.Shelf

theorem nm_beq (a b : ByteArray) : (a.toList == b.toList) = decide (a = b) := by
  by_cases h : a = b
  · subst h; simp
  · rw [decide_eq_false h, beq_eq_false_iff_ne, ByteArray.toList_eq, ByteArray.toList_eq]
    exact fun e => h (ByteArray.ext (Array.toList_inj.1 e))
def FRSaid (n : Nat) : Prop := ∀ (x : ByteArray) (t : Ty) (al : Option Addr) (cl : Nat) (ak : Option Addr) (ck d B : Nat) (w : World), sizeT t ≤ n → KT w B d t.kids ak → B ≤ w.heap.size → wfT t →
  Calls Tryd.prog 36 #[tyVal t al cl ak ck, .string x] w fun e w' => e = .returned (.bool (frT x t)) ∧ Below w.heap.size w w'
set_option maxRecDepth 100000 in
set_option maxHeartbeats 2000000 in
theorem free1_any (n : Nat) (ih : FRSaid n) (x : ByteArray) (t : Ty) (al : Option Addr) (cl : Nat) (ak : Option Addr) (ck d B nb : Nat) (w : World) (hs : sizeT t ≤ n) (hkt : KT w B d t.kids ak) (hB : B ≤ w.heap.size) (hw : wfT t) (hp : w.cell? ⟨nb, 0, none⟩ = some (.string x)) :
    Calls Tryd.prog 61 #[tyVal t al cl ak ck, .pointer (some ⟨nb, 0, none⟩)] w fun e w' => e = .returned (.bool (frT x t)) ∧ Below w.heap.size w w' := by
  have hA : Below w.heap.size w (w.alloc (.cells #[.int .i64 t.kind, .int .i64 t.so, .string t.name, .slice al t.labels.length cl, .slice ak t.kids.length ck] 25)) := (Below.refl _ _).alloc (Nat.le_refl _) _
  have hnb : nb < w.heap.size := World.block_lt_of_cell? w ⟨nb, 0, none⟩ hp
  have p1 := (hA.cell (p := ⟨nb, 0, none⟩) hnb).trans hp
  have c := ih x t al cl ak ck d B _ hs (hkt.keep (hA.mono hB)) (Nat.le_trans hB hA.size) hw
  have HA := hideK hA
  simp only [tyVal] at c ⊢
  generalize frT x t = q at c ⊢
  clear hkt hw hA hs hp
  go_enter Tryd.func61, Tryd.ntmps61
  go_wp2_with fail
  refine c.mono ?_
  rintro e w1 ⟨rfl, hb1⟩
  have HB := hideK (HA.out.trans (hb1.mono HA.out.size))
  clear c hb1 p1
  go_wp2_with fail
  go_ret
  exact ⟨rfl, HB.out⟩
set_option maxRecDepth 100000 in
set_option maxHeartbeats 2000000 in
theorem indexFree_any (n : Nat) (ih : FRSaid n) (x : ByteArray) (ks : List Ty) (ak : Option Addr) (ck d B nb : Nat) (w : World) (hs : ∀ k ∈ ks, sizeT k ≤ n) (hkt : KT w B d ks ak) (hB : B ≤ w.heap.size) (hw : ∀ k ∈ ks, wfT k) (hl : ks.length ≤ 6) (hp : w.cell? ⟨nb, 0, none⟩ = some (.string x)) :
    Calls Tryd.prog 91 #[.slice ak ks.length ck, .func (.func 61) #[] #[.pointer (some ⟨nb, 0, none⟩)]] w fun e w' => (∃ z : Int, e = .returned (.int .i64 z) ∧ (0 ≤ z ∨ z = -1) ∧ (z = -1 ↔ ks.any (frT x) = false)) ∧ Below w.heap.size w w' := by
  have hlz : (ks.length : Int) ≤ 6 := by omega
  have hnb : nb < w.heap.size := World.block_lt_of_cell? w ⟨nb, 0, none⟩ hp
  go_enter Tryd.func91, Tryd.ntmps91
  go_wp2_with fail
  go_loopw [8] (fun i wr => ∃ k : Nat, k ≤ ks.length ∧ i = .int .i64 (k : Int) ∧ ((ks.take k).any (frT x)) = false ∧ Below w.heap.size w wr) (fun i _ => ks.length - (intOf i).toNat)
  case atStart => exact ⟨0, Nat.zero_le _, rfl, rfl, Below.refl _ _⟩
  case round =>
    obtain ⟨k, hk, rfl, hn, hb⟩ := hrel
    by_cases hlt : k < ks.length
    · have hltz : (k : Int) < (ks.length : Int) := by omega
      obtain ⟨b, o, hak, hbB, al2, cl2, ak2, ck2, hat, hbd2, hla2, d2, hkt2⟩ := kt_at hkt hlt
      subst hak
      have hbB' := hb.mono hB
      obtain ⟨e0, e1, e2, e3, e4⟩ := hat.keep hbB' hbB
      have p1 := (hb.cell (p := ⟨nb, 0, none⟩) hnb).trans hp
      have c := free1_any n ih x ks[k] al2 cl2 ak2 ck2 d2 B nb _ (hs _ (List.getElem_mem hlt)) (hkt2.keep hbB') (Nat.le_trans hB hb.size) (hw _ (List.getElem_mem hlt)) p1
      simp only [tyVal] at c
      have HB := hideK hb
      cases hq : frT x ks[k] with
      | false =>
        rw [hq] at c
        have HN := hideK (show ((ks.take (k + 1)).any (frT x)) = false from by
          rw [List.take_succ_eq_append_getElem hlt, List.any_append, hn]; simp [hq])
        clear hat hbd2 hla2 hkt2 hn hq hb hbB'
        generalize ks[k] = y at *
        go_wp2_with fail
        refine c.mono ?_
        rintro e w1 ⟨rfl, hb1⟩
        have HB1 := hideK (HB.out.trans (hb1.mono HB.out.size))
        clear c hb1 p1 e0 e1 e2 e3 e4
        go_wp2_with fail
        go_roundw
        case rel => exact ⟨k + 1, by omega, by go_num, HN.out, HB1.out⟩
        case measure => simp [intOf]; omega
      | true =>
        rw [hq] at c
        have HN := hideK (show ¬ ks.any (frT x) = false from fun q => by
          rw [any_false q _ (List.getElem_mem hlt)] at hq; cases hq)
        clear hat hbd2 hla2 hkt2 hn hq hb hbB'
        generalize ks[k] = y at *
        go_wp2_with fail
        refine c.mono ?_
        rintro e w1 ⟨rfl, hb1⟩
        have HB1 := hideK (HB.out.trans (hb1.mono HB.out.size))
        clear c hb1 p1 e0 e1 e2 e3 e4
        go_wp2_with fail
        go_ret
        exact ⟨⟨_, rfl, .inl (by omega), ⟨fun q => by omega, fun q => absurd q HN.out⟩⟩, HB1.out⟩
    · have hltz : ¬ (k : Int) < (ks.length : Int) := by omega
      have hkl : k = ks.length := by omega
      subst hkl
      rw [List.take_length] at hn
      have HN := hideK hn
      have HB := hideK hb
      clear hn hb
      go_wp2_with fail
      go_ret
      exact ⟨⟨_, rfl, .inr rfl, ⟨fun _ => by first | exact HN.out | exact any_false HN.out, fun _ => rfl⟩⟩, HB.out⟩
set_option maxRecDepth 100000 in
set_option maxHeartbeats 2000000 in
theorem containsFree_any (n : Nat) (ih : FRSaid n) (x : ByteArray) (ks : List Ty) (ak : Option Addr) (ck d B nb : Nat) (w : World) (hs : ∀ k ∈ ks, sizeT k ≤ n) (hkt : KT w B d ks ak) (hB : B ≤ w.heap.size) (hw : ∀ k ∈ ks, wfT k) (hl : ks.length ≤ 6) (hp : w.cell? ⟨nb, 0, none⟩ = some (.string x)) :
    Calls Tryd.prog 60 #[.slice ak ks.length ck, .func (.func 61) #[] #[.pointer (some ⟨nb, 0, none⟩)]] w fun e w' => e = .returned (.bool (ks.any (frT x))) ∧ Below w.heap.size w w' := by
  have c := indexFree_any n ih x ks ak ck d B nb w hs hkt hB hw hl hp
  generalize ks.any (frT x) = q at *
  clear hkt hw hs
  go_enter Tryd.func60, Tryd.ntmps60
  go_wp2_with fail
  refine c.mono ?_
  rintro e w1 ⟨⟨z, rfl, hz, hq⟩, hb1⟩
  have HB := hideK hb1
  clear hb1
  cases q with
  | false =>
    obtain rfl : z = -1 := hq.2 rfl
    clear hz hq
    go_wp2_with fail
    go_ret
    exact ⟨rfl, HB.out⟩
  | true =>
    have hz' : decide (z ≥ 0) = true := by
      rcases hz with hz | hz
      · simpa using hz
      · have := hq.1 hz; cases this
    have hz2 : 0 ≤ z := by simpa using hz'
    clear hz hq
    go_wp2_with fail
    go_ret
    exact ⟨by simp, HB.out⟩
set_option maxRecDepth 100000 in
set_option maxHeartbeats 4000000 in
theorem free_step (n : Nat) (ih : FRSaid n) : FRSaid (n + 1) := by
  intro x t al cl ak ck d B w hs hkt hB hw
  obtain ⟨hpt, hwk⟩ := (wfT_eq t).1 hw
  have h6 := part_six _ hpt
  have hA : Below w.heap.size w ((w.alloc (.cells #[.int .i64 t.kind, .int .i64 t.so, .string t.name, .slice al t.labels.length cl, .slice ak t.kids.length ck] 25)).alloc (.cells #[.string x] 9)) := ((Below.refl _ _).alloc (Nat.le_refl _) _).alloc (by simp) _
  have hn0 : ((w.alloc (.cells #[.int .i64 t.kind, .int .i64 t.so, .string t.name, .slice al t.labels.length cl, .slice ak t.kids.length ck] 25)).alloc (.cells #[.string x] 9)).cell? ⟨w.heap.size + 1, 0, none⟩ = some (.string x) := by go_cell
  have c := containsFree_any n ih x t.kids ak ck d B (w.heap.size + 1) _ (fun k hk => by have := sizeT_kid hk; omega) (hkt.keep (hA.mono hB)) (Nat.le_trans hB hA.size) hwk h6 hn0
  have HA := hideK hA
  have hE := nm_beq t.name x
  simp only [tyVal]
  by_cases h9 : t.kind = 9
  · rw [frT_var x t h9]
    clear hkt hw hA hs c hpt hwk hn0
    generalize decide (t.name = x) = q at *
    have H9 := hideK h9
    obtain ⟨kd, so, nm, ls, ks⟩ := t
    simp only at h9 hE h6 HA ⊢
    subst h9
    go_enter Tryd.func36, Tryd.ntmps36
    go_wp2_with fail
    go_ret
    exact ⟨rfl, HA.out⟩
  · have k9 : (t.kind == 9) = false := by simpa using h9
    by_cases h8 : t.kind = 8
    · by_cases hx : t.name = x
      · rw [frT_rec x t ⟨h8, hx⟩]
        rw [decide_eq_true hx] at hE
        clear hkt hw hA hs c hpt hwk hn0 hx h9
        obtain ⟨kd, so, nm, ls, ks⟩ := t
        simp only at h8 hE h6 HA k9 ⊢
        subst h8
        go_enter Tryd.func36, Tryd.ntmps36
        go_wp2_with fail
        go_ret
        exact ⟨rfl, HA.out⟩
      · rw [frT_else x t h9 (fun h => hx h.2)]
        rw [decide_eq_false hx] at hE
        clear hkt hw hA hs hpt hwk hx h9
        generalize t.kids.any (frT x) = q at *
        obtain ⟨kd, so, nm, ls, ks⟩ := t
        simp only at h8 hE h6 HA k9 c hn0 ⊢
        subst h8
        go_enter Tryd.func36, Tryd.ntmps36
        go_wp2_with fail
        refine c.mono ?_
        rintro e w1 ⟨rfl, hb1⟩
        have HB := hideK (HA.out.trans (hb1.mono HA.out.size))
        clear c hb1 hn0
        go_wp2_with fail
        go_ret
        exact ⟨rfl, HB.out⟩
    · have k8 : (t.kind != 8) = true := by simpa using h8
      rw [frT_else x t h9 (fun h => h8 h.1)]
      clear hkt hw hA hs hpt hwk h9 h8 hE
      generalize t.kids.any (frT x) = q at *
      obtain ⟨kd, so, nm, ls, ks⟩ := t
      simp only at h6 HA k9 k8 c hn0 ⊢
      go_enter Tryd.func36, Tryd.ntmps36
      go_wp2_with fail
      refine c.mono ?_
      rintro e w1 ⟨rfl, hb1⟩
      have HB := hideK (HA.out.trans (hb1.mono HA.out.size))
      clear c hb1 hn0
      go_wp2_with fail
      go_ret
      exact ⟨rfl, HB.out⟩
theorem free_any : ∀ n, FRSaid n
  | 0 => fun x t al cl ak ck d B w hs _ _ _ => by have := sizeT_eq t; omega
  | n + 1 => free_step n (free_any n)
end Go.Proofs.YtoieacgojkgjgaaDoor
