/-
  The contracts of types.checkParts and types.Check, for every type.
-/
import Derived.Test.YtipolobikigmbaaGreatDoorKc
namespace Go.Proofs.YtipolobikigmbaaGreatDoor
open Go.RowKit Go.Shelf

/-- checkParts: the error, and how many parts have been met; ar: the names around -/
def chkT : Ty → List ByteArray → Nat → Int × Nat
  | ⟨kd, so, nm, ls, ks⟩, ar, c =>
    if 60 < c + 1 then (2, c + 1) else if partT ⟨kd, so, nm, ls, ks⟩ = false then (1, c + 1)
    else if kd = 9 ∧ hasN ar nm = false then (4, c + 1) else if kd = 8 ∧ idleN 65536 ⟨kd, so, nm, ls, ks⟩ = true then (7, c + 1)
    else ks.foldl (fun a k => if a.1 ≠ 0 then a else chkT k (if kd = 8 then ar ++ [nm] else ar) a.2) (0, c + 1)
def chkTL (ar : List ByteArray) (ks : List Ty) (a : Int × Nat) : Int × Nat := ks.foldl (fun a k => if a.1 ≠ 0 then a else chkT k ar a.2) a
theorem chkT_eq (t : Ty) (ar : List ByteArray) (c : Nat) : chkT t ar c = if 60 < c + 1 then (2, c + 1) else if partT t = false then (1, c + 1)
    else if t.kind = 9 ∧ hasN ar t.name = false then (4, c + 1) else if t.kind = 8 ∧ idleN 65536 t = true then (7, c + 1)
    else chkTL (if t.kind = 8 then ar ++ [t.name] else ar) t.kids (0, c + 1) := by cases t; rw [chkT]; rfl
theorem chkTL_cons (ar : List ByteArray) (x : Ty) (ks : List Ty) (a : Int × Nat) : chkTL ar (x :: ks) a = chkTL ar ks (if a.1 ≠ 0 then a else chkT x ar a.2) := rfl
theorem chkTL_bad (ar : List ByteArray) (ks : List Ty) (a : Int × Nat) (h : a.1 ≠ 0) : chkTL ar ks a = a := by
  induction ks with
  | nil => rfl
  | cons x ks ih => rw [chkTL_cons, if_pos h]; exact ih
theorem chkTL_snoc (ar : List ByteArray) (ks : List Ty) (x : Ty) (a : Int × Nat) : chkTL ar (ks ++ [x]) a = if (chkTL ar ks a).1 ≠ 0 then chkTL ar ks a else chkT x ar (chkTL ar ks a).2 := by
  unfold chkTL; rw [List.foldl_append]; rfl
theorem chkTL_split (ar : List ByteArray) (ks : List Ty) (k : Nat) (a : Int × Nat) (h : (chkTL ar (ks.take k) a).1 ≠ 0) : chkTL ar ks a = chkTL ar (ks.take k) a := by
  have e : chkTL ar ks a = chkTL ar (ks.drop k) (chkTL ar (ks.take k) a) := by
    conv => lhs; rw [← List.take_append_drop k ks]
    unfold chkTL; rw [List.foldl_append]
  rw [e, chkTL_bad _ _ _ h]
theorem chkTL_cnt (ar : List ByteArray) (ks : List Ty) : ∀ (a : Int × Nat), (∀ k ∈ ks, ∀ ar c, c ≤ 60 → (chkT k ar c).1 = 0 → c ≤ (chkT k ar c).2 ∧ (chkT k ar c).2 ≤ 60) → a.2 ≤ 60 → (chkTL ar ks a).1 = 0 → a.2 ≤ (chkTL ar ks a).2 ∧ (chkTL ar ks a).2 ≤ 60 := by
  induction ks with
  | nil => intro a _ h _; exact ⟨Nat.le_refl _, h⟩
  | cons x ks ih =>
    intro a hk h h0
    rw [chkTL_cons] at h0 ⊢
    by_cases ha : a.1 ≠ 0
    · rw [if_pos ha] at h0 ⊢
      exact ih a (fun k hm => hk k (.tail _ hm)) h h0
    · rw [if_neg ha] at h0 ⊢
      by_cases hx : (chkT x ar a.2).1 = 0
      · have h1 := hk x (.head _) ar a.2 h hx
        have h2 := ih _ (fun k hm => hk k (.tail _ hm)) h1.2 h0
        exact ⟨Nat.le_trans h1.1 h2.1, h2.2⟩
      · rw [chkTL_bad _ _ _ hx] at h0; exact absurd h0 hx
theorem chkT_cnt : ∀ t : Ty, ∀ ar c, c ≤ 60 → (chkT t ar c).1 = 0 → c ≤ (chkT t ar c).2 ∧ (chkT t ar c).2 ≤ 60 := by
  apply tyInd
  intro t ih ar c hc h
  rw [chkT_eq] at h ⊢
  by_cases h1 : 60 < c + 1
  · rw [if_pos h1] at h; exact absurd h (by simp)
  rw [if_neg h1] at h ⊢
  by_cases h2 : partT t = false
  · rw [if_pos h2] at h; exact absurd h (by simp)
  rw [if_neg h2] at h ⊢
  by_cases h3 : t.kind = 9 ∧ hasN ar t.name = false
  · rw [if_pos h3] at h; exact absurd h (by simp)
  rw [if_neg h3] at h ⊢
  by_cases h4 : t.kind = 8 ∧ idleN 65536 t = true
  · rw [if_pos h4] at h; exact absurd h (by simp)
  rw [if_neg h4] at h ⊢
  have := chkTL_cnt _ t.kids (0, c + 1) ih (by show c + 1 ≤ 60; omega) h
  exact ⟨by have := this.1; simp only at this; omega, this.2⟩

def CTSaid (d : Nat) : Prop := ∀ (t : Ty) (al : Option Addr) (cl : Nat) (ak : Option Addr) (ck : Nat) (ar : List ByteArray) (aa : Option Addr) (ca c pb B : Nat) (w : World),
  TyBw t → LA w B t.labels al → KT w B d t.kids ak → AR w pb ar aa ca → B ≤ pb → PC w pb c → c ≤ 60 → ar.length ≤ c →
  Calls Tryz.prog 106 #[tyVal t al cl ak ck, .slice aa ar.length ca, .pointer (some ⟨pb, 0, none⟩)] w fun e w' => e = .returned (.int .i64 (chkT t ar c).1) ∧ PC w' pb (chkT t ar c).2 ∧ FR pb w w'

/-- what checkParts keeps while it goes on: its argument's block, the count, and that nothing else has changed -/
structure ST (w : World) (pb c : Nat) (t : Ty) (al : Option Addr) (cl : Nat) (ak : Option Addr) (ck : Nat) (W : World) : Prop where
  lt : w.heap.size < W.heap.size
  ty : TyAt W w.heap.size 0 t al cl ak ck
  pc : PC W pb c
  fr : FR pb w W
theorem ST.keep {w : World} {pb c : Nat} {t : Ty} {al : Option Addr} {cl : Nat} {ak : Option Addr} {ck : Nat} {W W' : World} (h : ST w pb c t al cl ak ck W) (hb : Below W.heap.size W W') : ST w pb c t al cl ak ck W' :=
  ⟨Nat.lt_of_lt_of_le h.lt hb.size, h.ty.keep hb h.lt, h.pc.keep hb h.pc.lt, h.fr.trans (FR.of hb)⟩
theorem ST.cells {w : World} {pb c : Nat} {t : Ty} {al : Option Addr} {cl : Nat} {ak : Option Addr} {ck : Nat} {W : World} (h : ST w pb c t al cl ak ck W) :
    W.cell? ⟨w.heap.size, 0, none⟩ = some (.int .i64 t.kind) ∧ W.cell? ⟨w.heap.size, 1, none⟩ = some (.int .i64 t.so) ∧ W.cell? ⟨w.heap.size, 2, none⟩ = some (.string t.name) ∧ W.cell? ⟨w.heap.size, 3, none⟩ = some (.slice al t.labels.length cl) ∧ W.cell? ⟨w.heap.size, 4, none⟩ = some (.slice ak t.kids.length ck) := by
  obtain ⟨e0, e1, e2, e3, e4⟩ := h.ty
  simp only [Nat.zero_add] at e1 e2 e3 e4
  exact ⟨e0, e1, e2, e3, e4⟩
theorem ST.new {w : World} {pb c : Nat} (t : Ty) (al : Option Addr) (cl : Nat) (ak : Option Addr) (ck : Nat) (h : PC w pb c) :
    ST w pb (c + 1) t al cl ak ck ((w.setCell ⟨pb, 0, none⟩ (.int .i64 ((c : Int) + 1))).alloc (.cells #[.int .i64 t.kind, .int .i64 t.so, .string t.name, .slice al t.labels.length cl, .slice ak t.kids.length ck] 57)) :=
  ⟨by simp, ⟨by go_cell, by go_cell, by go_cell, by go_cell, by go_cell⟩, (h.set (c + 1)).al _, (FR.set _).trans (FR.al _)⟩

set_option maxRecDepth 100000 in
set_option maxHeartbeats 4000000 in
theorem checkT_step (d : Nat) (ih : ∀ d', d' < d → CTSaid d') : CTSaid d := by
  intro t al cl ak ck ar aa ca c pb B w hbd hla hkt har hB hpc hc harl
  have hpe := chkT_eq t ar c
  generalize chkT t ar c = r at hpe ⊢
  obtain ⟨kd, so, nm, ls, ks⟩ := t
  simp only at hpe hla hkt
  have hlt := hpc.lt
  have hp1 := hpc.al (.cells #[.int .i64 kd, .int .i64 so, .string nm, .slice al ls.length cl, .slice ak ks.length ck] 57)
  have q1 := hp1.cell
  have q2 := hp1.free
  have hcz : (c : Int) ≤ 60 := by omega
  have hps := hpc.set (c + 1)
  have q3 : (w.setCell ⟨pb, 0, none⟩ (.int .i64 ((c : Int) + 1))).cell? ⟨pb, 0, none⟩ = some (.int .i64 ((c : Int) + 1)) := hps.cell
  have hfS : FR pb w (w.setCell ⟨pb, 0, none⟩ (.int .i64 ((c : Int) + 1))) := FR.set _
  have hfA := hfS.trans (FR.al (.cells #[.int .i64 kd, .int .i64 so, .string nm, .slice al ls.length cl, .slice ak ks.length ck] 57))
  have hbS := hfS.below (by omega)
  have s0 : ST w pb (c + 1) ⟨kd, so, nm, ls, ks⟩ al cl ak ck _ := ST.new ⟨kd, so, nm, ls, ks⟩ al cl ak ck hpc
  have CP := hideK (isPart_t ⟨kd, so, nm, ls, ks⟩ al cl ak ck ((w.setCell ⟨pb, 0, none⟩ (.int .i64 ((c : Int) + 1))).alloc (.cells #[.int .i64 kd, .int .i64 so, .string nm, .slice al ls.length cl, .slice ak ks.length ck] 57)) hbd (NAt.mono (by simp; omega) (NAt.keep ((hfA.below (by omega)).mono hB) hla)))
  have S0 := hideK s0
  have HPS := hideK hps
  have HFA := hideK hfA
  by_cases h60 : 60 < c + 1
  · have hcge : (60 : Int) ≤ (c : Int) := by omega
    rw [if_pos h60] at hpe
    subst hpe
    simp only [tyVal]
    clear ih hbd hla hkt har CP hp1 hps hpc hfS hfA hbS s0 S0
    go_enter Tryz.func106, Tryz.ntmps106
    go_wp2_with fail
    go_ret
    exact ⟨rfl, HPS.out.al _, HFA.out⟩
  · rw [if_neg h60] at hpe
    have hcz' : (c : Int) + 1 ≤ 60 := by omega
    clear hp1 hps hpc hfS hfA hbS s0 HPS HFA
    simp only [tyVal] at CP ⊢
    generalize hg : partT ⟨kd, so, nm, ls, ks⟩ = g at CP hpe
    cases g
    · rw [if_pos rfl] at hpe
      subst hpe
      clear ih hbd hla hkt har hg
      go_enter Tryz.func106, Tryz.ntmps106
      go_wp2_with fail
      refine CP.out.mono ?_
      rintro e w1 ⟨rfl, hb1⟩
      have s1 := S0.out.keep hb1
      have S1 := hideK s1
      obtain ⟨x0, x1, x2, x3, x4⟩ := s1.cells
      clear s1 hb1
      go_wp2_with fail
      go_ret
      exact ⟨rfl, S1.out.pc, S1.out.fr⟩
    · rw [if_neg (by simp)] at hpe
      by_cases h8 : kd = 8
      · subst h8
        rw [if_neg (by simp)] at hpe
        have hkl : (ks.length : Int) ≤ 9223372036854775807 := by have := hbd.kids; simp only at *; omega
        have CI := hideK (fun (W : World) (h : KT W W.heap.size d ks ak) => isIdle_any ⟨8, so, nm, ls, ks⟩ al cl ak ck d W hbd h)
        generalize idleN 65536 ⟨8, so, nm, ls, ks⟩ = q at CI hpe
        simp only [tyVal] at CI
        cases q
        · rw [if_neg (by simp), if_pos rfl] at hpe
          subst hpe
          go_enter Tryz.func106, Tryz.ntmps106
          go_wp2_with fail
          refine CP.out.mono ?_
          rintro e w1 ⟨rfl, hb1⟩
          have s1 := S0.out.keep hb1
          have S1 := hideK s1
          obtain ⟨x0, x1, x2, x3, x4⟩ := s1.cells
          simp only at x0 x1 x2 x3 x4
          have HAR := hideK (har.keep s1.fr)
          have HK := hideK (KT.keep ((s1.fr.below (by omega)).mono hB) hkt)
          have HARL : Hid (ar.length ≤ c + 1) := by show _ ≤ _; omega
          have HKI := hideK (KT.mono (Nat.le_trans hB (Nat.le_of_lt s1.pc.lt)) HK.out)
          clear s1 hb1 har hkt CP S0
          go_wp2_with fail
          refine (CI.out _ HKI.out).mono ?_
          rintro e w2 ⟨rfl, hb2⟩
          have s2 := S1.out.keep hb2
          have HAR2 := hideK (HAR.out.keep (FR.of hb2))
          have HK2 := hideK (KT.keep (hb2.mono (Nat.le_trans hB (Nat.le_of_lt S1.out.pc.lt))) HK.out)
          clear x0 x1 x2 x3 x4 S1 HAR HK hb2 CI HKI
          have S1 := hideK s2
          obtain ⟨x0, x1, x2, x3, x4⟩ := s2.cells
          simp only at x0 x1 x2 x3 x4
          clear s2
          go_wp2_with fail
          have HB2 := hideK S1.out.pc.lt
          go_region_held3 (fun w' => w'.cell? ⟨w.heap.size, 2, none⟩ = some (.string nm)) (go_keep) (first
            | (go_at_call 139; go_must (refine (clip_any ar aa ca pb w2 _ HAR2.out (by omega)).mono ?_; rintro e w3 ⟨rfl, rfl⟩))
            | (refine step_append_name _ (by rfl) (.tmp 48) (.tmp 51) (by rfl) ar aa pb nm w2.heap.size 1 rfl rfl ((HAR2.out.keep (FR.of (by go_grown))).clip) (by omega) (by go_cell) (by simp; exact Nat.lt_succ_of_lt HB2.out) ?_; intro aa' ca' w4 hAR4 hb4; have B4 : Below w2.heap.size w2 w4 := Below.trans (by go_grown) (hb4.mono (by simp)); have x2' := (B4.cell (p := ⟨w.heap.size, 2, none⟩) S1.out.lt).trans x2))
          all_goals
            have s3 := S1.out.keep B4
            have HAR := hideK hAR4
            have HK := hideK (KT.keep (B4.mono (Nat.le_trans hB (Nat.le_of_lt S1.out.pc.lt))) HK2.out)
            have HARL : Hid ((ar ++ [nm]).length ≤ c + 1) := by show _ ≤ _; simp; omega
            clear x0 x1 x2 x3 x4 x2' S1 HAR2 HK2 hAR4 hb4 B4 HB2
            have S1 := hideK s3
            obtain ⟨x0, x1, x2, x3, x4⟩ := s3.cells
            simp only at x0 x1 x2 x3 x4
            clear s3
            go_wp2_with fail
            have hpbW : pb ≤ w4.heap.size := by have := S1.out.pc.lt; omega
            go_loopw [56] (fun i wr => ∃ k : Nat, k ≤ ks.length ∧ i = .int .i64 (k : Int) ∧ (chkTL (ar ++ [nm]) (ks.take k) (0, c + 1)).1 = 0 ∧ PC wr pb (chkTL (ar ++ [nm]) (ks.take k) (0, c + 1)).2 ∧ FR pb w4 wr) (fun i _ => ks.length - (intOf i).toNat)
            case atStart => exact ⟨0, Nat.zero_le _, rfl, rfl, S1.out.pc, World.grownBy.refl _ _⟩
            case round =>
              obtain ⟨k, hk, rfl, hz, hP, hF⟩ := hrel
              clear x0 x1 x2 x3 x4
              by_cases hlt' : k < ks.length
              · have hltz : (k : Int) < (ks.length : Int) := by omega
                obtain ⟨d', rfl⟩ : ∃ d', d = d' + 1 := by
                  cases d with
                  | zero => have := HK.out; simp only [KT] at this; rw [this] at hlt'; simp at hlt'
                  | succ d' => exact ⟨d', rfl⟩
                have hkt := HK.out
                rcases hkt with hkt | ⟨b, o, rfl, hbB, hkt⟩
                · rw [hkt] at hlt'; simp at hlt'
                · obtain ⟨al', cl', ak', ck', hty, htb, htl, htk⟩ := hkt k hlt'
                  have hbF := hF.below hpbW
                  obtain ⟨y0, y1, y2, y3, y4⟩ := hty.keep hbF (by omega)
                  have hcnt := chkTL_cnt (ar ++ [nm]) (ks.take k) (0, c + 1) (fun q _ => chkT_cnt q) (by show c + 1 ≤ 60; omega) hz
                  have hsn : chkTL (ar ++ [nm]) (ks.take (k + 1)) (0, c + 1) = chkT ks[k] (ar ++ [nm]) (chkTL (ar ++ [nm]) (ks.take k) (0, c + 1)).2 := by
                    rw [List.take_succ_eq_append_getElem hlt', chkTL_snoc, if_neg (by simpa using hz)]
                  have hF2 := hF.trans (FR.al (.cells #[.int .i64 ks[k].kind, .int .i64 ks[k].so, .string ks[k].name, .slice al' ks[k].labels.length cl', .slice ak' ks[k].kids.length ck'] 57))
                  have hbF2 := (hF2.below hpbW).mono hB
                  have cR := ih d' (by omega) ks[k] al' cl' ak' ck' (ar ++ [nm]) aa' ca' (chkTL (ar ++ [nm]) (ks.take k) (0, c + 1)).2 pb B (wr.alloc (.cells #[.int .i64 ks[k].kind, .int .i64 ks[k].so, .string ks[k].name, .slice al' ks[k].labels.length cl', .slice ak' ks[k].kids.length ck'] 57)) htb.w
                    (NAt.keep hbF2 htl) (KT.keep hbF2 htk) (HAR.out.keep hF2) hB (hP.al _) hcnt.2 (Nat.le_trans HARL.out hcnt.1)
                  simp only [tyVal] at cR
                  have HF2 := hideK hF2
                  generalize chkT ks[k] (ar ++ [nm]) (chkTL (ar ++ [nm]) (ks.take k) (0, c + 1)).2 = r2 at cR hsn
                  have HS := hideK hsn
                  have HP := hideK hP
                  have hszF : w4.heap.size ≤ wr.heap.size := hF.size
                  clear hz hP hcnt hsn hkt htl htk hty htb ih hF hF2 hbF hbF2 HK
                  have hlen1 : (ar ++ [nm]).length = ar.length + 1 := by simp
                  rw [hlen1] at cR
                  clear hlen1
                  go_wp2_with fail
                  refine cR.mono ?_
                  rintro e w2 ⟨rfl, hP2, hF3⟩
                  have HF4 := hideK (HF2.out.trans hF3)
                  clear cR y0 y1 y2 y3 y4 hF3
                  by_cases hr : r2.1 = 0
                  · have hrb : (r2.1 != 0) = false := by simpa using hr
                    have HR := hideK hr
                    clear hr
                    go_wp2_with fail
                    go_roundw
                    case rel => exact ⟨k + 1, by omega, by go_num, by rw [HS.out]; exact HR.out, by rw [HS.out]; exact hP2, HF4.out⟩
                    case measure => simp [intOf]; omega
                  · have hrb : (r2.1 != 0) = true := by simpa using hr
                    have HR : Hid (chkTL (ar ++ [nm]) ks (0, c + 1) = r2) := by
                      rw [chkTL_split (ar ++ [nm]) ks (k + 1) _ (by rw [HS.out]; exact hr)]; exact HS.out
                    clear hr
                    go_wp2_with fail
                    go_ret
                    rw [HR.out]
                    exact ⟨rfl, hP2, S1.out.fr.trans HF4.out⟩
              · have hltz : ¬ (k : Int) < (ks.length : Int) := by omega
                have hfin : ks.take k = ks := List.take_of_length_le (by omega)
                rw [hfin] at hz hP
                have HZ := hideK hz
                have HF := hideK hF
                clear hz hfin hF HK ih
                go_wp2_with fail
                go_ret
                rw [HZ.out]
                exact ⟨rfl, hP, S1.out.fr.trans HF.out⟩
        · rw [if_pos ⟨rfl, rfl⟩] at hpe
          subst hpe
          clear ih
          go_enter Tryz.func106, Tryz.ntmps106
          go_wp2_with fail
          refine CP.out.mono ?_
          rintro e w1 ⟨rfl, hb1⟩
          have s1 := S0.out.keep hb1
          have S1 := hideK s1
          obtain ⟨x0, x1, x2, x3, x4⟩ := s1.cells
          simp only at x0 x1 x2 x3 x4
          have HAR := hideK (har.keep s1.fr)
          have HK := hideK (KT.keep ((s1.fr.below (by omega)).mono hB) hkt)
          have HARL : Hid (ar.length ≤ c + 1) := by show _ ≤ _; omega
          have HKI := hideK (KT.mono (Nat.le_trans hB (Nat.le_of_lt s1.pc.lt)) HK.out)
          clear s1 hb1 har hkt CP S0
          go_wp2_with fail
          refine (CI.out _ HKI.out).mono ?_
          rintro e w2 ⟨rfl, hb2⟩
          have S2 := hideK (S1.out.keep hb2)
          go_wp2_with fail
          go_ret
          exact ⟨rfl, S2.out.pc, S2.out.fr⟩
      · have k8 : (kd == 8) = false := by simpa using h8
        by_cases h9 : kd = 9
        · subst h9
          have hkl : (ks.length : Int) ≤ 9223372036854775807 := by have := hbd.kids; simp only at *; omega
          have CN := hideK (fun (W : World) (h : AR W pb ar aa ca) => containsA_any ar nm aa ca pb W h (by omega))
          generalize hasN ar nm = q at CN hpe
          cases q
          · rw [if_pos ⟨rfl, rfl⟩] at hpe
            subst hpe
            clear ih
            go_enter Tryz.func106, Tryz.ntmps106
            go_wp2_with fail
            refine CP.out.mono ?_
            rintro e w1 ⟨rfl, hb1⟩
            have s1 := S0.out.keep hb1
            have S1 := hideK s1
            obtain ⟨x0, x1, x2, x3, x4⟩ := s1.cells
            simp only at x0 x1 x2 x3 x4
            have HAR := hideK (har.keep s1.fr)
            have HK := hideK (KT.keep ((s1.fr.below (by omega)).mono hB) hkt)
            have HARL : Hid (ar.length ≤ c + 1) := by show _ ≤ _; omega
            clear s1 hb1 har hkt CP S0
            go_wp2_with fail
            refine (CN.out _ HAR.out).mono ?_
            rintro e w2 ⟨rfl, rfl⟩
            go_wp2_with fail
            go_ret
            exact ⟨rfl, S1.out.pc, S1.out.fr⟩
          · rw [if_neg (by simp), if_neg (fun h => h8 h.1), if_neg h8] at hpe
            subst hpe
            go_enter Tryz.func106, Tryz.ntmps106
            go_wp2_with fail
            refine CP.out.mono ?_
            rintro e w1 ⟨rfl, hb1⟩
            have s1 := S0.out.keep hb1
            have S1 := hideK s1
            obtain ⟨x0, x1, x2, x3, x4⟩ := s1.cells
            simp only at x0 x1 x2 x3 x4
            have HAR := hideK (har.keep s1.fr)
            have HK := hideK (KT.keep ((s1.fr.below (by omega)).mono hB) hkt)
            have HARL : Hid (ar.length ≤ c + 1) := by show _ ≤ _; omega
            clear s1 hb1 har hkt CP S0
            go_wp2_with fail
            refine (CN.out _ HAR.out).mono ?_
            rintro e w2 ⟨rfl, rfl⟩
            clear CN
            go_wp2_with fail
            have hpbW : pb ≤ w2.heap.size := by have := S1.out.pc.lt; omega
            go_loopw [56] (fun i wr => ∃ k : Nat, k ≤ ks.length ∧ i = .int .i64 (k : Int) ∧ (chkTL ar (ks.take k) (0, c + 1)).1 = 0 ∧ PC wr pb (chkTL ar (ks.take k) (0, c + 1)).2 ∧ FR pb w2 wr) (fun i _ => ks.length - (intOf i).toNat)
            case atStart => exact ⟨0, Nat.zero_le _, rfl, rfl, S1.out.pc, World.grownBy.refl _ _⟩
            case round =>
              obtain ⟨k, hk, rfl, hz, hP, hF⟩ := hrel
              clear x0 x1 x2 x3 x4
              by_cases hlt' : k < ks.length
              · have hltz : (k : Int) < (ks.length : Int) := by omega
                obtain ⟨d', rfl⟩ : ∃ d', d = d' + 1 := by
                  cases d with
                  | zero => have := HK.out; simp only [KT] at this; rw [this] at hlt'; simp at hlt'
                  | succ d' => exact ⟨d', rfl⟩
                have hkt := HK.out
                rcases hkt with hkt | ⟨b, o, rfl, hbB, hkt⟩
                · rw [hkt] at hlt'; simp at hlt'
                · obtain ⟨al', cl', ak', ck', hty, htb, htl, htk⟩ := hkt k hlt'
                  have hbF := hF.below hpbW
                  obtain ⟨y0, y1, y2, y3, y4⟩ := hty.keep hbF (by omega)
                  have hcnt := chkTL_cnt ar (ks.take k) (0, c + 1) (fun q _ => chkT_cnt q) (by show c + 1 ≤ 60; omega) hz
                  have hsn : chkTL ar (ks.take (k + 1)) (0, c + 1) = chkT ks[k] ar (chkTL ar (ks.take k) (0, c + 1)).2 := by
                    rw [List.take_succ_eq_append_getElem hlt', chkTL_snoc, if_neg (by simpa using hz)]
                  have hF2 := hF.trans (FR.al (.cells #[.int .i64 ks[k].kind, .int .i64 ks[k].so, .string ks[k].name, .slice al' ks[k].labels.length cl', .slice ak' ks[k].kids.length ck'] 57))
                  have hbF2 := (hF2.below hpbW).mono hB
                  have cR := ih d' (by omega) ks[k] al' cl' ak' ck' ar aa ca (chkTL ar (ks.take k) (0, c + 1)).2 pb B (wr.alloc (.cells #[.int .i64 ks[k].kind, .int .i64 ks[k].so, .string ks[k].name, .slice al' ks[k].labels.length cl', .slice ak' ks[k].kids.length ck'] 57)) htb.w
                    (NAt.keep hbF2 htl) (KT.keep hbF2 htk) (HAR.out.keep hF2) hB (hP.al _) hcnt.2 (Nat.le_trans HARL.out hcnt.1)
                  simp only [tyVal] at cR
                  have HF2 := hideK hF2
                  generalize chkT ks[k] ar (chkTL ar (ks.take k) (0, c + 1)).2 = r2 at cR hsn
                  have HS := hideK hsn
                  have HP := hideK hP
                  have hszF : w2.heap.size ≤ wr.heap.size := hF.size
                  clear hz hP hcnt hsn hkt htl htk hty htb ih hF hF2 hbF hbF2 HK
                  go_wp2_with fail
                  refine cR.mono ?_
                  rintro e w2 ⟨rfl, hP2, hF3⟩
                  have HF4 := hideK (HF2.out.trans hF3)
                  clear cR y0 y1 y2 y3 y4 hF3
                  by_cases hr : r2.1 = 0
                  · have hrb : (r2.1 != 0) = false := by simpa using hr
                    have HR := hideK hr
                    clear hr
                    go_wp2_with fail
                    go_roundw
                    case rel => exact ⟨k + 1, by omega, by go_num, by rw [HS.out]; exact HR.out, by rw [HS.out]; exact hP2, HF4.out⟩
                    case measure => simp [intOf]; omega
                  · have hrb : (r2.1 != 0) = true := by simpa using hr
                    have HR : Hid (chkTL ar ks (0, c + 1) = r2) := by
                      rw [chkTL_split ar ks (k + 1) _ (by rw [HS.out]; exact hr)]; exact HS.out
                    clear hr
                    go_wp2_with fail
                    go_ret
                    rw [HR.out]
                    exact ⟨rfl, hP2, S1.out.fr.trans HF4.out⟩
              · have hltz : ¬ (k : Int) < (ks.length : Int) := by omega
                have hfin : ks.take k = ks := List.take_of_length_le (by omega)
                rw [hfin] at hz hP
                have HZ := hideK hz
                have HF := hideK hF
                clear hz hfin hF HK ih
                go_wp2_with fail
                go_ret
                rw [HZ.out]
                exact ⟨rfl, hP, S1.out.fr.trans HF.out⟩
        · have k9 : (kd == 9) = false := by simpa using h9
          rw [if_neg (fun h => h9 h.1), if_neg (fun h => h8 h.1), if_neg h8] at hpe
          subst hpe
          have hkl : (ks.length : Int) ≤ 9223372036854775807 := by have := hbd.kids; simp only at *; omega
          go_enter Tryz.func106, Tryz.ntmps106
          go_wp2_with fail
          refine CP.out.mono ?_
          rintro e w1 ⟨rfl, hb1⟩
          have s1 := S0.out.keep hb1
          have S1 := hideK s1
          obtain ⟨x0, x1, x2, x3, x4⟩ := s1.cells
          simp only at x0 x1 x2 x3 x4
          have HAR := hideK (har.keep s1.fr)
          have HK := hideK (KT.keep ((s1.fr.below (by omega)).mono hB) hkt)
          have HARL : Hid (ar.length ≤ c + 1) := by show _ ≤ _; omega
          clear s1 hb1 har hkt CP S0
          go_wp2_with fail
          have hpbW : pb ≤ w1.heap.size := by have := S1.out.pc.lt; omega
          go_loopw [56] (fun i wr => ∃ k : Nat, k ≤ ks.length ∧ i = .int .i64 (k : Int) ∧ (chkTL ar (ks.take k) (0, c + 1)).1 = 0 ∧ PC wr pb (chkTL ar (ks.take k) (0, c + 1)).2 ∧ FR pb w1 wr) (fun i _ => ks.length - (intOf i).toNat)
          case atStart => exact ⟨0, Nat.zero_le _, rfl, rfl, S1.out.pc, World.grownBy.refl _ _⟩
          case round =>
            obtain ⟨k, hk, rfl, hz, hP, hF⟩ := hrel
            clear x0 x1 x2 x3 x4
            by_cases hlt' : k < ks.length
            · have hltz : (k : Int) < (ks.length : Int) := by omega
              obtain ⟨d', rfl⟩ : ∃ d', d = d' + 1 := by
                cases d with
                | zero => have := HK.out; simp only [KT] at this; rw [this] at hlt'; simp at hlt'
                | succ d' => exact ⟨d', rfl⟩
              have hkt := HK.out
              rcases hkt with hkt | ⟨b, o, rfl, hbB, hkt⟩
              · rw [hkt] at hlt'; simp at hlt'
              · obtain ⟨al', cl', ak', ck', hty, htb, htl, htk⟩ := hkt k hlt'
                have hbF := hF.below hpbW
                obtain ⟨y0, y1, y2, y3, y4⟩ := hty.keep hbF (by omega)
                have hcnt := chkTL_cnt ar (ks.take k) (0, c + 1) (fun q _ => chkT_cnt q) (by show c + 1 ≤ 60; omega) hz
                have hsn : chkTL ar (ks.take (k + 1)) (0, c + 1) = chkT ks[k] ar (chkTL ar (ks.take k) (0, c + 1)).2 := by
                  rw [List.take_succ_eq_append_getElem hlt', chkTL_snoc, if_neg (by simpa using hz)]
                have hF2 := hF.trans (FR.al (.cells #[.int .i64 ks[k].kind, .int .i64 ks[k].so, .string ks[k].name, .slice al' ks[k].labels.length cl', .slice ak' ks[k].kids.length ck'] 57))
                have hbF2 := (hF2.below hpbW).mono hB
                have cR := ih d' (by omega) ks[k] al' cl' ak' ck' ar aa ca (chkTL ar (ks.take k) (0, c + 1)).2 pb B (wr.alloc (.cells #[.int .i64 ks[k].kind, .int .i64 ks[k].so, .string ks[k].name, .slice al' ks[k].labels.length cl', .slice ak' ks[k].kids.length ck'] 57)) htb.w
                  (NAt.keep hbF2 htl) (KT.keep hbF2 htk) (HAR.out.keep hF2) hB (hP.al _) hcnt.2 (Nat.le_trans HARL.out hcnt.1)
                simp only [tyVal] at cR
                have HF2 := hideK hF2
                generalize chkT ks[k] ar (chkTL ar (ks.take k) (0, c + 1)).2 = r2 at cR hsn
                have HS := hideK hsn
                have HP := hideK hP
                have hszF : w1.heap.size ≤ wr.heap.size := hF.size
                clear hz hP hcnt hsn hkt htl htk hty htb ih hF hF2 hbF hbF2 HK
                go_wp2_with fail
                refine cR.mono ?_
                rintro e w2 ⟨rfl, hP2, hF3⟩
                have HF4 := hideK (HF2.out.trans hF3)
                clear cR y0 y1 y2 y3 y4 hF3
                by_cases hr : r2.1 = 0
                · have hrb : (r2.1 != 0) = false := by simpa using hr
                  have HR := hideK hr
                  clear hr
                  go_wp2_with fail
                  go_roundw
                  case rel => exact ⟨k + 1, by omega, by go_num, by rw [HS.out]; exact HR.out, by rw [HS.out]; exact hP2, HF4.out⟩
                  case measure => simp [intOf]; omega
                · have hrb : (r2.1 != 0) = true := by simpa using hr
                  have HR : Hid (chkTL ar ks (0, c + 1) = r2) := by
                    rw [chkTL_split ar ks (k + 1) _ (by rw [HS.out]; exact hr)]; exact HS.out
                  clear hr
                  go_wp2_with fail
                  go_ret
                  rw [HR.out]
                  exact ⟨rfl, hP2, S1.out.fr.trans HF4.out⟩
            · have hltz : ¬ (k : Int) < (ks.length : Int) := by omega
              have hfin : ks.take k = ks := List.take_of_length_le (by omega)
              rw [hfin] at hz hP
              have HZ := hideK hz
              have HF := hideK hF
              clear hz hfin hF HK ih
              go_wp2_with fail
              go_ret
              rw [HZ.out]
              exact ⟨rfl, hP, S1.out.fr.trans HF.out⟩

theorem checkT_any (d : Nat) : CTSaid d := by
  induction d using Nat.strongRecOn with
  | _ d ih => exact checkT_step d ih
/-- what Check says of a type -/
def chkTy (t : Ty) : Int := (chkT t [] 0).1
set_option maxHeartbeats 400000 in
theorem typesCheck_w (d : Nat) (t : Ty) (al : Option Addr) (cl : Nat) (ak : Option Addr) (ck : Nat) (w : World) (hbd : TyBw t) (hla : LA w w.heap.size t.labels al) (hkt : KT w w.heap.size d t.kids ak) :
    Calls Tryz.prog 70 #[tyVal t al cl ak ck] w fun e w' => e = .returned (.int .i64 (chkTy t)) ∧ Below w.heap.size w w' := by
  have hb2 : Below w.heap.size w ((w.alloc (.cells #[.int .i64 t.kind, .int .i64 t.so, .string t.name, .slice al t.labels.length cl, .slice ak t.kids.length ck] 57)).alloc (.cells #[.int .i64 0] 3)) := ((Below.refl _ _).alloc (Nat.le_refl _) _).alloc (by simp) _
  have c := checkT_any d t al cl ak ck [] none 0 0 (w.heap.size + 1) w.heap.size ((w.alloc (.cells #[.int .i64 t.kind, .int .i64 t.so, .string t.name, .slice al t.labels.length cl, .slice ak t.kids.length ck] 57)).alloc (.cells #[.int .i64 0] 3)) hbd
    (NAt.keep hb2 hla) (KT.keep hb2 hkt) (.inl ⟨rfl, rfl, rfl⟩) (by omega) ⟨by simp, by go_cell, by go_simp⟩ (by omega) (by simp)
  unfold chkTy
  simp only [tyVal, List.length_nil] at c ⊢
  clear hla hkt hbd
  generalize chkT t [] 0 = r at c ⊢
  go_enter Tryz.func70, Tryz.ntmps70
  go_wp2_with fail
  refine c.mono ?_
  rintro e w1 ⟨rfl, hp, hb⟩
  have hfin : Below w.heap.size w w1 := hb2.trans ((hb.below (by simp)).mono (by omega))
  clear hb hp c
  go_wp2_with fail
  go_ret
  exact ⟨rfl, hfin⟩
theorem typesCheck_any (d : Nat) (t : Ty) (al : Option Addr) (cl : Nat) (ak : Option Addr) (ck : Nat) (w : World) (hbd : TyBd t cl ck) (hla : LA w w.heap.size t.labels al) (hkt : KT w w.heap.size d t.kids ak) :
    Calls Tryz.prog 70 #[tyVal t al cl ak ck] w fun e w' => e = .returned (.int .i64 (chkTy t)) ∧ Below w.heap.size w w' := typesCheck_w d t al cl ak ck w hbd.w hla hkt
end Go.Proofs.YtipolobikigmbaaGreatDoor
