/-
  The contracts of exprs.checkParts and exprs.Check, for every expression; utf8.ValidString's contract is a hypothesis here.
-/
import Derived.Test.YtipolobikigmbaaGreatDoorXf
import Derived.Deep.LoopGhost
namespace Go.Proofs.YtipolobikigmbaaGreatDoor
open Go.RowKit
variable (Tabs : World → Prop) (B0 : Nat)

/-- the count of parts lies in a block of its own -/
structure PC (W : World) (b : Nat) (c : Nat) : Prop where
  lt : b < W.heap.size
  cell : W.cell? ⟨b, 0, none⟩ = some (.int .i64 (c : Int))
  free : W.frozen? ⟨b, 0, none⟩ = false
theorem PC.keep {W W' : World} {b c : Nat} (h : PC W b c) {B : Nat} (hb : Below B W W') (hl : b < B) : PC W' b c :=
  ⟨Nat.lt_of_lt_of_le h.lt hb.size, (hb.cell (p := ⟨b, 0, none⟩) hl).trans h.cell, (hb.frozen (p := ⟨b, 0, none⟩) hl).trans h.free⟩
theorem PC.al {W : World} {b c : Nat} (h : PC W b c) (o : Obj) : PC (W.alloc o) b c := h.keep ((Below.refl _ _).alloc (Nat.le_refl _) o) h.lt
theorem PC.set {W : World} {b c : Nat} (h : PC W b c) (k : Nat) : PC (W.setCell ⟨b, 0, none⟩ (.int .i64 (k : Int))) b k := by
  refine ⟨by simpa using h.lt, ?_, ?_⟩
  · exact World.cell?_setCell_same _ _ _ h.cell
  · simpa using h.free

def CPSaid (d : Nat) : Prop := ∀ (x : Ex) (ao : Option Addr) (cap c pb B : Nat) (w : World), ExBd x cap → KA w B d x.kids ao → B ≤ pb → B0 ≤ pb → PC w pb c → c ≤ 60 → Tabs w →
  Calls Tryz.prog 55 #[exVal x ao cap, .pointer (some ⟨pb, 0, none⟩)] w fun e w' => e = .returned (.int .i64 (chkP x c).1) ∧ PC w' pb (chkP x c).2 ∧ Below pb w w'

theorem chkL_cnt (ks : List Ex) : ∀ (a : Int × Nat), (∀ k ∈ ks, ∀ c, c ≤ 60 → (chkP k c).1 = 0 → (chkP k c).2 ≤ 60) → a.2 ≤ 60 → (chkL ks a).1 = 0 → (chkL ks a).2 ≤ 60 := by
  induction ks with
  | nil => intro a _ h _; exact h
  | cons x ks ih =>
    intro a hk h h0
    rw [chkL_cons] at h0 ⊢
    by_cases ha : a.1 ≠ 0
    · rw [if_pos ha] at h0 ⊢
      exact ih a (fun k hm => hk k (.tail _ hm)) h h0
    · rw [if_neg ha] at h0 ⊢
      by_cases hx : (chkP x a.2).1 = 0
      · exact ih _ (fun k hm => hk k (.tail _ hm)) (hk x (.head _) _ h hx) h0
      · rw [chkL_bad _ _ hx] at h0; exact absurd h0 hx
theorem chkP_cnt : ∀ x : Ex, ∀ c, c ≤ 60 → (chkP x c).1 = 0 → (chkP x c).2 ≤ 60 := by
  apply exInd
  intro x ih c hc h
  rw [chkP_eq] at h ⊢
  by_cases h1 : 60 < c + 1
  · rw [if_pos h1] at h; exact absurd h (by simp)
  · rw [if_neg h1] at h ⊢
    split at h
    · exact absurd h (by simp)
    · split at h
      · rw [if_neg ‹_›, if_pos ‹_›]; show c + 1 ≤ 60; omega
      · rw [if_neg ‹_›, if_neg ‹_›]
        exact chkL_cnt x.kids (0, c + 1) ih (by show c + 1 ≤ 60; omega) h
theorem chkL_snoc (ks : List Ex) (x : Ex) (a : Int × Nat) : chkL (ks ++ [x]) a = if (chkL ks a).1 ≠ 0 then chkL ks a else chkP x (chkL ks a).2 := by
  unfold chkL; rw [List.foldl_append]; rfl
theorem chkL_split (ks : List Ex) (k : Nat) (a : Int × Nat) (h : (chkL (ks.take k) a).1 ≠ 0) : chkL ks a = chkL (ks.take k) a := by
  have e : chkL ks a = chkL (ks.drop k) (chkL (ks.take k) a) := by
    conv => lhs; rw [← List.take_append_drop k ks]
    unfold chkL; rw [List.foldl_append]
  rw [e, chkL_bad _ _ h]

set_option maxHeartbeats 2000000 in
theorem checkParts_step (hV : VSaid vD Tabs) (hK : ∀ w w', Tabs w → Below w.heap.size w w' → Tabs w') (hK2 : ∀ B w w', B0 ≤ B → Tabs w → Below B w w' → Tabs w') (d : Nat) (ih : ∀ d', d' < d → CPSaid Tabs B0 d') : CPSaid Tabs B0 d := by
  intro x ao cap c pb B w hbd hka hB hB0 hpc hc hT
  obtain ⟨kd, nm, so, n, s, ks⟩ := x
  have cP := fun W : World => isPart_any ⟨kd, nm, so, n, s, ks⟩ ao cap W hbd
  have hpe := chkP_eq ⟨kd, nm, so, n, s, ks⟩ c
  generalize chkP ⟨kd, nm, so, n, s, ks⟩ c = r at hpe ⊢
  simp only at hpe
  generalize partOK ⟨kd, nm, so, n, s, ks⟩ = g at cP hpe
  simp only [exVal] at cP
  unfold exVal
  simp only
  have CP : Hid (∀ W : World, Calls Tryz.prog 90 #[.agg #[.int .i64 kd, .string nm, .int .i64 so, .int .i64 n, .string s, .slice ao ks.length cap]] W fun e w' => e = .returned (.bool g) ∧ Below W.heap.size W w') := cP
  clear cP
  have hp1 := hpc.al (.cells #[.int .i64 kd, .string nm, .int .i64 so, .int .i64 n, .string s, .slice ao ks.length cap] 39)
  have q1 := hp1.cell
  have q2 := hp1.free
  have hlt := hpc.lt
  have hcz : (c : Int) ≤ 60 := by omega
  have hps := hpc.set (c + 1)
  have q3 : (w.setCell ⟨pb, 0, none⟩ (.int .i64 ((c : Int) + 1))).cell? ⟨pb, 0, none⟩ = some (.int .i64 ((c : Int) + 1)) := hps.cell
  have hbS : Below pb w (w.setCell ⟨pb, 0, none⟩ (.int .i64 ((c : Int) + 1))) := (Below.refl pb w).setCell (p := ⟨pb, 0, none⟩) (Nat.le_refl pb) _
  have hTS : Tabs (w.setCell ⟨pb, 0, none⟩ (.int .i64 ((c : Int) + 1))) := hK2 pb w _ hB0 hT hbS
  have HPS : Hid (PC (w.setCell ⟨pb, 0, none⟩ (.int .i64 ((c : Int) + 1))) pb (c + 1)) := hps
  have HBS : Hid (Below pb w (w.setCell ⟨pb, 0, none⟩ (.int .i64 ((c : Int) + 1)))) := hbS
  clear hps hbS hp1 hT hpc
  by_cases h60 : 60 < c + 1
  · have hcge : (60 : Int) ≤ (c : Int) := by omega
    rw [if_pos h60] at hpe
    subst hpe
    clear hV hK hK2 ih hbd hka CP
    go_enter Tryz.func55, Tryz.ntmps55
    go_wp2_with fail
    go_ret
    exact ⟨rfl, HPS.out.al _, HBS.out.alloc (by simp; omega) _⟩
  · rw [if_neg h60] at hpe
    have hcz' : (c : Int) + 1 ≤ 60 := by omega
    clear h60
    cases g
    · rw [if_pos rfl] at hpe
      subst hpe
      clear hV hK hK2 ih hbd hka
      go_enter Tryz.func55, Tryz.ntmps55
      go_wp2_with fail
      refine (CP.out _).mono ?_
      rintro e w1 ⟨rfl, hb1⟩
      go_wp2_with fail
      go_ret
      exact ⟨rfl, (HPS.out.al _).keep hb1 (by simp; omega), (HBS.out.alloc (by simp; omega) _).trans (hb1.mono (by simp; omega))⟩
    · rw [if_neg (by simp)] at hpe
      by_cases h1 : kd = 1
      · subst h1
        rw [if_pos rfl] at hpe
        subst hpe
        have cV := fun (W : World) (h : Tabs W) => check_any vD Tabs hV hK so n s W hbd.s h
        generalize chkZ vD so n s = z at cV ⊢
        have CV : Hid (∀ (W : World), Tabs W → Calls Tryz.prog 91 #[.agg #[.int .i64 so, .int .i64 n, .string s]] W fun e w' => e = .returned (.int .i64 z) ∧ Below W.heap.size W w') := cV
        clear cV hV hK2 ih hbd hka
        go_enter Tryz.func55, Tryz.ntmps55
        go_wp2_with fail
        refine (CP.out _).mono ?_
        rintro e w1 ⟨rfl, hb1⟩
        have hT1 : Tabs w1 := hK _ _ (hK _ _ hTS ((Below.refl _ _).alloc (Nat.le_refl _) _)) hb1
        obtain ⟨hc1, _⟩ := bcell hb1
        have x0 : w1.cell? ⟨w.heap.size, 0, none⟩ = some (.int .i64 1) := (hc1 _ 0 (by simp)).trans (by go_cell)
        have x2 : w1.cell? ⟨w.heap.size, 2, none⟩ = some (.int .i64 so) := (hc1 _ 2 (by simp)).trans (by go_cell)
        have x3 : w1.cell? ⟨w.heap.size, 3, none⟩ = some (.int .i64 n) := (hc1 _ 3 (by simp)).trans (by go_cell)
        have x4 : w1.cell? ⟨w.heap.size, 4, none⟩ = some (.string s) := (hc1 _ 4 (by simp)).trans (by go_cell)
        have hP1 : PC w1 pb (c + 1) := (HPS.out.al _).keep hb1 (by simp; omega)
        have hB1 : Below pb w w1 := (HBS.out.alloc (by simp; omega) _).trans (hb1.mono (by simp; omega))
        clear hc1 hb1
        go_wp2_with fail
        refine (CV.out _ hT1).mono ?_
        rintro e w2 ⟨rfl, hb2⟩
        go_wp2_with fail
        go_ret
        exact ⟨rfl, hP1.keep hb2 hP1.lt, hB1.trans (hb2.mono (by have := hP1.lt; omega))⟩
      · rw [if_neg h1] at hpe
        subst hpe
        have k1 : (kd == 1) = false := by simpa using h1
        have hkl : (ks.length : Int) ≤ 9223372036854775807 := by have := hbd.kids; have := hbd.cap; simp only at *; omega
        clear hbd
        go_enter Tryz.func55, Tryz.ntmps55
        go_wp2_with fail
        refine (CP.out _).mono ?_
        rintro e w1 ⟨rfl, hb1⟩
        have hT1 : Tabs w1 := hK _ _ (hK _ _ hTS ((Below.refl _ _).alloc (Nat.le_refl _) _)) hb1
        obtain ⟨hc1, _⟩ := bcell hb1
        have x0 : w1.cell? ⟨w.heap.size, 0, none⟩ = some (.int .i64 kd) := (hc1 _ 0 (by simp)).trans (by go_cell)
        have x5 : w1.cell? ⟨w.heap.size, 5, none⟩ = some (.slice ao ks.length cap) := (hc1 _ 5 (by simp)).trans (by go_cell)
        have hP1 : PC w1 pb (c + 1) := (HPS.out.al _).keep hb1 (by simp; omega)
        have hB1 : Below pb w w1 := (HBS.out.alloc (by simp; omega) _).trans (hb1.mono (by simp; omega))
        clear hc1 hb1 q1 q2 q3 hTS HPS HBS CP hV
        go_wp2_with fail
        go_loopw [29] (fun i wr => ∃ k : Nat, k ≤ ks.length ∧ i = .int .i64 (k : Int) ∧ (chkL (ks.take k) (0, c + 1)).1 = 0 ∧ PC wr pb (chkL (ks.take k) (0, c + 1)).2 ∧ Below pb w wr ∧ Tabs wr) (fun i _ => ks.length - (intOf i).toNat)
        case atStart => exact ⟨0, Nat.zero_le _, rfl, rfl, hP1, hB1, hT1⟩
        case round =>
          obtain ⟨k, hk, rfl, hz, hP, hBw, hTw⟩ := hrel
          clear x0 x5 hP1 hB1 hT1
          by_cases hlt' : k < ks.length
          · have hltz : (k : Int) < (ks.length : Int) := by omega
            obtain ⟨d', rfl⟩ : ∃ d', d = d' + 1 := by
              cases d with
              | zero => simp only [KA] at hka; subst hka; simp at hlt'
              | succ d' => exact ⟨d', rfl⟩
            rcases hka with hka | ⟨b, o, rfl, hbB, hka⟩
            · subst hka; simp at hlt'
            · obtain ⟨ao', cap', hex, hxb, hkk⟩ := hka k hlt'
              have hex' := hex.keep hBw (by omega)
              obtain ⟨y0, y1, y2, y3, y4, y5⟩ := hex'
              have hcnt := chkL_cnt (ks.take k) (0, c + 1) (fun q _ => chkP_cnt q) (by show c + 1 ≤ 60; omega) hz
              have hsn : chkL (ks.take (k + 1)) (0, c + 1) = chkP ks[k] (chkL (ks.take k) (0, c + 1)).2 := by
                rw [List.take_succ_eq_append_getElem hlt', chkL_snoc, if_neg (by simpa using hz)]
              have cR := ih d' (by omega) ks[k] ao' cap' (chkL (ks.take k) (0, c + 1)).2 pb B (wr.alloc (.cells #[.int .i64 ks[k].kind, .string ks[k].name, .int .i64 ks[k].so, .int .i64 ks[k].n, .string ks[k].s, .slice ao' ks[k].kids.length cap'] 39)) hxb
                (KA.keep ((Below.refl _ _).alloc (by have := hP.lt; omega) _) (KA.keep (hBw.mono hB) hkk)) hB hB0 (hP.al _) hcnt (hK _ _ hTw ((Below.refl _ _).alloc (Nat.le_refl _) _))
              simp only [exVal] at cR
              generalize chkP ks[k] (chkL (ks.take k) (0, c + 1)).2 = r2 at cR hsn
              have HS : Hid (chkL (ks.take (k + 1)) (0, c + 1) = r2) := hsn
              have HP : Hid (PC wr pb (chkL (ks.take k) (0, c + 1)).2) := hP
              have hsz : w.heap.size ≤ wr.heap.size := hBw.size
              clear hz hP hcnt hsn hka hkk ih hex
              go_wp2_with fail
              refine cR.mono ?_
              rintro e w2 ⟨rfl, hP2, hB2⟩
              have hBw2 : Below pb w w2 := (hBw.alloc (by omega) _).trans hB2
              have hT2 : Tabs w2 := hK2 pb _ _ hB0 (hK _ _ hTw ((Below.refl _ _).alloc (Nat.le_refl _) _)) hB2
              clear cR y0 y1 y2 y3 y4 y5 hBw hTw hB2
              by_cases hr : r2.1 = 0
              · have hrb : (r2.1 != 0) = false := by simpa using hr
                have HR : Hid (r2.1 = 0) := hr
                clear hr
                go_wp2_with fail
                go_roundw
                case rel => exact ⟨k + 1, by omega, by go_num, by rw [HS.out]; exact HR.out, by rw [HS.out]; exact hP2, hBw2, hT2⟩
                case measure => simp [intOf]; omega
              · have hrb : (r2.1 != 0) = true := by simpa using hr
                have HR : Hid (chkL ks (0, c + 1) = r2) := by
                  rw [chkL_split ks (k + 1) _ (by rw [HS.out]; exact hr)]; exact HS.out
                clear hr
                go_wp2_with fail
                go_ret
                rw [HR.out]
                exact ⟨rfl, hP2, hBw2⟩
          · have hltz : ¬ (k : Int) < (ks.length : Int) := by omega
            have hfin : ks.take k = ks := List.take_of_length_le (by omega)
            rw [hfin] at hz hP
            have HZ : Hid ((chkL ks (0, c + 1)).1 = 0) := hz
            clear hz hfin
            go_wp2_with fail
            go_ret
            rw [HZ.out]
            exact ⟨rfl, hP, hBw⟩

theorem checkParts_any (hV : VSaid vD Tabs) (hK : ∀ w w', Tabs w → Below w.heap.size w w' → Tabs w') (hK2 : ∀ B w w', B0 ≤ B → Tabs w → Below B w w' → Tabs w') (d : Nat) : CPSaid Tabs B0 d := by
  induction d using Nat.strongRecOn with
  | _ d ih => exact checkParts_step Tabs B0 hV hK hK2 d ih

set_option maxHeartbeats 400000 in
theorem chk_any (hV : VSaid vD Tabs) (hK : ∀ w w', Tabs w → Below w.heap.size w w' → Tabs w') (hK2 : ∀ B w w', B0 ≤ B → Tabs w → Below B w w' → Tabs w') (hB0 : ∀ w, Tabs w → B0 ≤ w.heap.size)
    (d : Nat) (x : Ex) (ao : Option Addr) (cap : Nat) (w : World) (hbd : ExBd x cap) (hka : KA w w.heap.size d x.kids ao) (hT : Tabs w) :
    Calls Tryz.prog 29 #[exVal x ao cap] w fun e w' => e = .returned (.int .i64 (chkX x)) ∧ Below w.heap.size w w' := by
  have hsz := hB0 w hT
  have hb2 : Below w.heap.size w ((w.alloc (.cells #[.int .i64 x.kind, .string x.name, .int .i64 x.so, .int .i64 x.n, .string x.s, .slice ao x.kids.length cap] 39)).alloc (.cells #[.int .i64 0] 3)) := ((Below.refl _ _).alloc (Nat.le_refl _) _).alloc (by simp) _
  have c := checkParts_any Tabs B0 hV hK hK2 d x ao cap 0 (w.heap.size + 1) w.heap.size ((w.alloc (.cells #[.int .i64 x.kind, .string x.name, .int .i64 x.so, .int .i64 x.n, .string x.s, .slice ao x.kids.length cap] 39)).alloc (.cells #[.int .i64 0] 3)) hbd
    (KA.keep hb2 hka) (by omega) (by omega) ⟨by simp, by go_cell, by go_simp⟩ (by omega) (hK _ _ hT hb2)
  unfold chkX
  simp only [exVal] at c ⊢
  clear hV hK hK2 hka hT
  generalize chkP x 0 = r at c ⊢
  go_enter Tryz.func29, Tryz.ntmps29
  go_wp2_with fail
  refine c.mono ?_
  rintro e w1 ⟨rfl, hp, hb⟩
  go_wp2_with fail
  go_ret
  exact ⟨rfl, hb2.trans (hb.mono (by omega))⟩
end Go.Proofs.YtipolobikigmbaaGreatDoor
