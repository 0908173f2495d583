/-
  The contracts of (*checking).check and of global.Check, for every type.
-/
import Derived.Test.YtfmegfgmkeicnaaDoorCxa
import Derived.Test.YtfmegfgmkeicnaaDoorKdw
namespace Go.Proofs.YtfmegfgmkeicnaaDoor
open Go.RowKit Go.Shelf

/-- what is wrong, gone through part by part: the error, and how many parts have been met; ar: the names around -/
def chkC : Cv → List ByteArray → Nat → Int × Nat
  | ⟨kd, fm, tt, so, nm, ls, ks⟩, ar, c =>
    if 60 < c + 1 then (2, c + 1) else if partCB ⟨kd, fm, tt, so, nm, ls, ks⟩ = false then (1, c + 1)
    else if kd = 9 ∧ hasN ar nm = false then (4, c + 1) else if kd = 8 ∧ idleC 65536 ⟨kd, fm, tt, so, nm, ls, ks⟩ = true then (7, c + 1)
    else ks.foldl (fun a k => if a.1 ≠ 0 then a else chkC k (if kd = 8 then ar ++ [nm] else ar) a.2) (0, c + 1)
def chkCL (ar : List ByteArray) (ks : List Cv) (a : Int × Nat) : Int × Nat := ks.foldl (fun a k => if a.1 ≠ 0 then a else chkC k ar a.2) a
theorem chkC_eq (t : Cv) (ar : List ByteArray) (c : Nat) : chkC t ar c = if 60 < c + 1 then (2, c + 1) else if partCB t = false then (1, c + 1)
    else if t.kind = 9 ∧ hasN ar t.name = false then (4, c + 1) else if t.kind = 8 ∧ idleC 65536 t = true then (7, c + 1)
    else chkCL (if t.kind = 8 then ar ++ [t.name] else ar) t.kids (0, c + 1) := by cases t; rw [chkC]; rfl
theorem chkCL_cons (ar : List ByteArray) (x : Cv) (ks : List Cv) (a : Int × Nat) : chkCL ar (x :: ks) a = chkCL ar ks (if a.1 ≠ 0 then a else chkC x ar a.2) := rfl
theorem chkCL_bad (ar : List ByteArray) (ks : List Cv) (a : Int × Nat) (h : a.1 ≠ 0) : chkCL ar ks a = a := by
  induction ks with
  | nil => rfl
  | cons x ks ih => rw [chkCL_cons, if_pos h]; exact ih
theorem chkCL_snoc (ar : List ByteArray) (ks : List Cv) (x : Cv) (a : Int × Nat) : chkCL ar (ks ++ [x]) a = if (chkCL ar ks a).1 ≠ 0 then chkCL ar ks a else chkC x ar (chkCL ar ks a).2 := by
  unfold chkCL; rw [List.foldl_append]; rfl
theorem chkCL_split (ar : List ByteArray) (ks : List Cv) (k : Nat) (a : Int × Nat) (h : (chkCL ar (ks.take k) a).1 ≠ 0) : chkCL ar ks a = chkCL ar (ks.take k) a := by
  have e : chkCL ar ks a = chkCL ar (ks.drop k) (chkCL ar (ks.take k) a) := by
    conv => lhs; rw [← List.take_append_drop k ks]
    unfold chkCL; rw [List.foldl_append]
  rw [e, chkCL_bad _ _ _ h]
theorem chkCL_cnt (ar : List ByteArray) (ks : List Cv) : ∀ (a : Int × Nat), (∀ k ∈ ks, ∀ ar c, c ≤ 60 → (chkC k ar c).1 = 0 → c ≤ (chkC k ar c).2 ∧ (chkC k ar c).2 ≤ 60) → a.2 ≤ 60 → (chkCL ar ks a).1 = 0 → a.2 ≤ (chkCL ar ks a).2 ∧ (chkCL ar ks a).2 ≤ 60 := by
  induction ks with
  | nil => intro a _ h _; exact ⟨Nat.le_refl _, h⟩
  | cons x ks ih =>
    intro a hk h h0
    rw [chkCL_cons] at h0 ⊢
    by_cases ha : a.1 ≠ 0
    · rw [if_pos ha] at h0 ⊢
      exact ih a (fun k hm => hk k (.tail _ hm)) h h0
    · rw [if_neg ha] at h0 ⊢
      by_cases hx : (chkC x ar a.2).1 = 0
      · have h1 := hk x (.head _) ar a.2 h hx
        have h2 := ih _ (fun k hm => hk k (.tail _ hm)) h1.2 h0
        exact ⟨Nat.le_trans h1.1 h2.1, h2.2⟩
      · rw [chkCL_bad _ _ _ hx] at h0; exact absurd h0 hx
theorem chkC_cnt : ∀ t : Cv, ∀ ar c, c ≤ 60 → (chkC t ar c).1 = 0 → c ≤ (chkC t ar c).2 ∧ (chkC t ar c).2 ≤ 60 := by
  apply cvInd
  intro t ih ar c hc h
  rw [chkC_eq] at h ⊢
  by_cases h1 : 60 < c + 1
  · rw [if_pos h1] at h; exact absurd h (by simp)
  rw [if_neg h1] at h ⊢
  by_cases h2 : partCB t = false
  · rw [if_pos h2] at h; exact absurd h (by simp)
  rw [if_neg h2] at h ⊢
  by_cases h3 : t.kind = 9 ∧ hasN ar t.name = false
  · rw [if_pos h3] at h; exact absurd h (by simp)
  rw [if_neg h3] at h ⊢
  by_cases h4 : t.kind = 8 ∧ idleC 65536 t = true
  · rw [if_pos h4] at h; exact absurd h (by simp)
  rw [if_neg h4] at h ⊢
  have := chkCL_cnt _ t.kids (0, c + 1) ih (by show c + 1 ≤ 60; omega) h
  exact ⟨by have := this.1; simp only at this; omega, this.2⟩


/-- what check keeps while it goes on: its own block, a type in one, and that nothing else has changed -/
structure CFC (pb : Nat) (c : Int) (b : Nat) (t : Cv) (al : Option Addr) (cl : Nat) (ak : Option Addr) (ck : Nat) (w W : World) : Prop where
  cb : CKC W pb c
  ty : CvAt W b 0 t al cl ak ck
  lt : b < W.heap.size
  fr : FR pb w W
theorem CFC.keep {pb : Nat} {c : Int} {b : Nat} {t : Cv} {al : Option Addr} {cl : Nat} {ak : Option Addr} {ck : Nat} {w W W' : World} (h : CFC pb c b t al cl ak ck w W) (hb : Below W.heap.size W W') : CFC pb c b t al cl ak ck w W' :=
  ⟨h.cb.keep hb, h.ty.keep hb h.lt, Nat.lt_of_lt_of_le h.lt hb.size, h.fr.trans (FR.of hb)⟩
theorem CFC.all {pb : Nat} {c : Int} {b : Nat} {t : Cv} {al : Option Addr} {cl : Nat} {ak : Option Addr} {ck : Nat} {w W : World} (h : CFC pb c b t al cl ak ck w W) :
    W.cell? ⟨pb, 0, none⟩ = some (.func (.func 51) #[] #[]) ∧ W.cell? ⟨pb, 1, none⟩ = some (.func (.func 52) #[] #[]) ∧ W.cell? ⟨pb, 2, none⟩ = some (.int .i64 c) ∧
    W.cell? ⟨b, 0, none⟩ = some (.int .i64 t.kind) ∧ W.cell? ⟨b, 1, none⟩ = some (.string t.fm) ∧ W.cell? ⟨b, 2, none⟩ = some (.string t.tt) ∧ W.cell? ⟨b, 3, none⟩ = some (.int .i64 t.so) ∧ W.cell? ⟨b, 4, none⟩ = some (.string t.name) ∧ W.cell? ⟨b, 5, none⟩ = some (.slice al t.labels.length cl) ∧ W.cell? ⟨b, 6, none⟩ = some (.slice ak t.kids.length ck) := by
  obtain ⟨e0, e1, e2, e3, e4, e5, e6⟩ := h.ty
  simp only [Nat.zero_add] at e1 e2 e3 e4 e5 e6
  exact ⟨h.cb.c0, h.cb.c1, h.cb.c2, e0, e1, e2, e3, e4, e5, e6⟩
theorem CKC.set {w : World} {pb : Nat} {c : Int} (h : CKC w pb c) (c' : Int) : CKC (w.setCell ⟨pb, 2, none⟩ (.int .i64 c')) pb c' := by
  obtain ⟨hl, h0, h1, h2, f2⟩ := h
  exact ⟨by simpa using hl, by go_cell, by go_cell, by go_cell, by go_simp⟩
theorem CFC.new {pb : Nat} {c : Int} {t : Cv} {al : Option Addr} {cl : Nat} {ak : Option Addr} {ck : Nat} {w : World} (h : CKC w pb c) (c' : Int) :
    CFC pb c' w.heap.size t al cl ak ck w (((w.setCell ⟨pb, 2, none⟩ (.int .i64 c')).alloc (.cells #[.int .i64 t.kind, .string t.fm, .string t.tt, .int .i64 t.so, .string t.name, .slice al t.labels.length cl, .slice ak t.kids.length ck] 25)).drew) :=
  ⟨(h.set c').keep (((Below.refl _ _).alloc (Nat.le_refl _) _).drew), ⟨by go_cell, by go_cell, by go_cell, by go_cell, by go_cell, by go_cell, by go_cell⟩, by simp, (FR.setO 2 _).trans ((FR.al _).trans (FR.of (Below.refl _ _).drew))⟩
theorem lookCF (pb : Nat) (c : Int) (b : Nat) (t : Cv) (al : Option Addr) (cl : Nat) (ak : Option Addr) (ck : Nat) (w : World) : ∀ W, CFC pb c b t al cl ak ck w W → Calls Tryd.prog 52 #[.agg #[.int .i64 t.kind, .string t.fm, .string t.tt, .int .i64 t.so, .string t.name, .slice al t.labels.length cl, .slice ak t.kids.length ck]] W fun e w' => e = .returned (.tuple #[.int .i64 t.kind, .string t.name, .slice ak t.kids.length ck]) ∧ CFC pb c b t al cl ak ck w w' :=
  fun W hW => (lookC_any t al cl ak ck W).mono fun _ _ ⟨h1, h2⟩ => ⟨h1, hW.keep h2⟩
theorem isCF {pb : Nat} {c : Int} {b : Nat} {t : Cv} {al : Option Addr} {cl : Nat} {ak : Option Addr} {ck B : Nat} {w : World} (hbd : CvBw t) (hla : LA w B t.labels al) (hB : B ≤ pb) (hp : pb < w.heap.size) : ∀ W, CFC pb c b t al cl ak ck w W → Calls Tryd.prog 51 #[.agg #[.int .i64 t.kind, .string t.fm, .string t.tt, .int .i64 t.so, .string t.name, .slice al t.labels.length cl, .slice ak t.kids.length ck]] W fun e w' => e = .returned (.bool (partCB t)) ∧ CFC pb c b t al cl ak ck w w' :=
  fun W hW => (isPartC_any t al cl ak ck W hbd (NAt.mono (by have := hW.fr.size; omega) (NAt.keep ((hW.fr.below (by omega)).mono hB) hla))).mono fun _ _ ⟨h1, h2⟩ => ⟨h1, hW.keep h2⟩
def CCSaid (d : Nat) : Prop := ∀ (t : Cv) (al : Option Addr) (cl : Nat) (ak : Option Addr) (ck : Nat) (ar : List ByteArray) (aa : Option Addr) (ca c pb B : Nat) (w : World),
  CvBw t → LA w B t.labels al → KCv w B d t.kids ak → AR w pb ar aa ca → B ≤ pb → CKC w pb c → c ≤ 60 → ar.length ≤ c →
  Calls Tryd.prog 90 #[.pointer (some ⟨pb, 0, none⟩), valCv t al cl ak ck, .slice aa ar.length ca] w fun e w' => e = .returned (.int .i64 (chkC t ar c).1) ∧ CKC w' pb ((chkC t ar c).2 : Int) ∧ FR pb w w'
set_option maxRecDepth 100000 in
set_option maxHeartbeats 4000000 in
theorem checkC_step (d : Nat) (ih : ∀ d', d' < d → CCSaid d') : CCSaid d := by
  intro t al cl ak ck ar aa ca c pb B w hbd hla hkt har hB hpc hc harl
  have hpe := chkC_eq t ar c
  generalize chkC t ar c = r at hpe ⊢
  have hlt := hpc.lt
  have hcz : (c : Int) ≤ 60 := by omega
  have HF := hideK (CFC.new (t := t) (al := al) (cl := cl) (ak := ak) (ck := ck) hpc ((c : Int) + 1))
  have CI := hideK (isCF (pb := pb) (c := (c : Int) + 1) (b := w.heap.size) (ak := ak) (cl := cl) (ck := ck) hbd hla hB hlt)
  have HPC := hideK hpc
  obtain ⟨_, p0, p1, p2, pf⟩ := hpc
  simp only [valCv]
  have ENTER : Hid True := trivial
  by_cases h60 : 60 < c + 1
  · have hcge : (60 : Int) ≤ (c : Int) := by omega
    rw [if_pos h60] at hpe
    subst hpe
    clear hla hkt har ih hbd CI
    go_enter Tryd.func90, Tryd.ntmps90
    go_upto_region 2 with fail
    refine region_seq (CFC pb ((c : Int) + 1) w.heap.size t al cl ak ck w) [0, 1, 2, 3, 4, 5, 6, 7, 8, 9, 10, 11, 12] (by kernel_rfl) (by kernel_rfl) (by kernel_rfl) HF.out ?_
    repeat (refine qO ?_; first | refine qN ?_ | refine qV ?_ | refine qCk ?_ | refine qD (lookCF pb ((c : Int) + 1) w.heap.size t al cl ak ck w) ?_)
    refine SeqS.done ?_
    intro W1 hW1
    have H1 := hideK hW1
    obtain ⟨x0, x1, x2, x3, x4, x5, x6, x7, x8, x9⟩ := hW1.all
    clear hW1
    go_wp2_with fail
    go_ret
    exact ⟨rfl, H1.out.cb, H1.out.fr⟩
  rw [if_neg h60] at hpe
  have hcz' : (c : Int) + 1 ≤ 60 := by omega
  go_enter Tryd.func90, Tryd.ntmps90
  go_upto_region 2 with fail
  refine region_seq (CFC pb ((c : Int) + 1) w.heap.size t al cl ak ck w) [0, 1, 2, 3, 4, 5, 6, 7, 8, 9, 10, 11, 12] (by kernel_rfl) (by kernel_rfl) (by kernel_rfl) HF.out ?_
  repeat (refine qO ?_; first | refine qN ?_ | refine qV ?_ | refine qCk ?_ | refine qD (lookCF pb ((c : Int) + 1) w.heap.size t al cl ak ck w) ?_)
  refine SeqS.done ?_
  intro W1 hW1
  have H1 := hideK hW1
  have H1d := hideK (hW1.keep (Below.refl _ _).drew)
  obtain ⟨x0, x1, x2, x3, x4, x5, x6, x7, x8, x9⟩ := hW1.all
  clear hW1
  go_upto_region 5 with fail
  clear x0 x1 x2 x3 x4 x5 x6 x7 x8 x9 p0 p1 p2 pf
  refine region_seq (CFC pb ((c : Int) + 1) w.heap.size t al cl ak ck w) [0, 1, 2, 3, 4, 5, 6, 7] (by kernel_rfl) (by kernel_rfl) (by kernel_rfl) H1d.out ?_
  repeat (refine qO ?_; first | refine qN ?_ | refine qV ?_ | refine qCk ?_ | refine qD CI.out ?_)
  refine SeqS.done ?_
  intro W2 hW2
  have H2 := hideK hW2
  obtain ⟨x0, x1, x2, x3, x4, x5, x6, x7, x8, x9⟩ := hW2.all
  clear hW2 CI
  generalize hg : partCB t = g at hpe ⊢
  cases g
  · rw [if_pos rfl] at hpe
    subst hpe
    clear hla hkt har ih hbd
    go_wp2_with fail
    go_ret
    exact ⟨rfl, H2.out.cb, H2.out.fr⟩
  rw [if_neg (by simp)] at hpe
  have HAR := hideK (har.keep H2.out.fr)
  have HK := hideK (KCv.keep ((H2.out.fr.below (by omega)).mono hB) hkt)
  have hkl : (t.kids.length : Int) ≤ 9223372036854775807 := by have := hbd.kids; omega
  have HB2 := hideK (Nat.lt_of_lt_of_le hlt H2.out.fr.size)
  clear har hkt hla HF H1 H1d HPC ENTER hg
  by_cases h9 : t.kind = 9
  focus
    have k9 : (t.kind == 9) = true := by simpa using h9
    have k8 : (t.kind == 8) = false := by simp [h9]
    have CN := hideK (containsA_any ar t.name aa ca pb W2 HAR.out (by omega))
    generalize hasN ar t.name = q at CN hpe
    cases q
    · rw [if_pos ⟨h9, rfl⟩] at hpe
      subst hpe
      clear ih h9
      go_wp2_with fail
      refine CN.out.mono ?_
      rintro e w1 ⟨rfl, rfl⟩
      go_wp2_with fail
      go_ret
      exact ⟨rfl, H2.out.cb, H2.out.fr⟩
    rw [if_neg (by simp), if_neg (fun h => by omega), if_neg (by omega)] at hpe
    clear h9
    go_wp2_with fail
    refine CN.out.mono ?_
    rintro e w1 ⟨rfl, rfl⟩
    clear x0 x1 x2 x3 x4 x5 x6 x7 x8 x9
    go_wp2_with fail
    obtain ⟨W3, hW3⟩ : ∃ x, x = w1 := ⟨_, rfl⟩
    obtain ⟨ns, hns⟩ : ∃ x, x = ar := ⟨_, rfl⟩
    obtain ⟨n, hn⟩ : ∃ x, x = ar.length := ⟨_, rfl⟩
    obtain ⟨aa3, ha3⟩ : ∃ x, x = aa := ⟨_, rfl⟩
    obtain ⟨ca3, hc3⟩ : ∃ x, x = ca := ⟨_, rfl⟩
    rw [← hW3, ← hn, ← ha3, ← hc3]
    have H3 : Hid (CFC pb ((c : Int) + 1) w.heap.size t al cl ak ck w W3) := hW3 ▸ H2
    have HAR3 : Hid (AR W3 pb ns aa3 ca3) := by rw [hW3, hns, ha3, hc3]; exact HAR
    have HK3 : Hid (KCv W3 B d t.kids ak) := hW3 ▸ HK
    have HN3 : Hid (n = ns.length ∧ ns.length ≤ c + 1) := by rw [hns]; exact ⟨hn, by omega⟩
    rw [← hns] at hpe
    rw [← hW3] at HB2
    clear CN HAR HK H2 hn hns ha3 hc3 hW3 k9 k8 harl
  rotate_left
  by_cases h8 : t.kind = 8
  focus
    have k9 : (t.kind == 9) = false := by simp [h8]
    have k8 : (t.kind == 8) = true := by simpa using h8
    have CI := hideK (isIdleC_any t al cl ak ck d pb ((c : Int) + 1) W2 H2.out.cb hbd (KCv.mono (by have := H2.out.fr.size; omega) HK.out))
    rw [if_neg (fun h => h9 h.1)] at hpe
    simp only [valCv] at CI
    generalize idleC 65536 t = q at CI hpe
    cases q
    rotate_left
    · rw [if_pos ⟨h8, rfl⟩] at hpe
      subst hpe
      clear ih h8 h9
      go_wp2_with fail
      refine CI.out.mono ?_
      rintro e w1 ⟨rfl, hb1⟩
      have H3 := hideK (H2.out.keep hb1)
      go_wp2_with fail
      go_ret
      exact ⟨rfl, H3.out.cb, H3.out.fr⟩
    rw [if_neg (by simp), if_pos h8] at hpe
    clear h8 h9
    go_wp2_with fail
    refine CI.out.mono ?_
    rintro e w1 ⟨rfl, hb1⟩
    have HAR1 := hideK (HAR.out.keep (FR.of hb1))
    have HK1 := hideK (KCv.keep (hb1.mono (by have := H2.out.fr.size; omega)) HK.out)
    have H3 := hideK (H2.out.keep hb1)
    have HB1 := hideK (Nat.lt_of_lt_of_le HB2.out hb1.size)
    clear x0 x1 x2 x3 x4 x5 x6 x7 x8 x9 H2 HAR HK HB2 hb1 CI
    go_wp2_with fail
    refine (clip_any ar aa ca pb w1 _ HAR1.out (by omega)).mono ?_
    rintro e w2 ⟨rfl, rfl⟩
    have HAR2 := hideK (HAR1.out.clip.keep (FR.al (pb := pb) (.cells #[.string t.name] 9)))
    have hg2 : (World.alloc w2 (.cells #[.string t.name] 9)).cell? ⟨w2.heap.size, 0, none⟩ = some (.string t.name) := by go_cell
    go_wp2_with (at_builtin; refine wpList_append_name _ rfl (.tmp 65) (.tmp 67) rfl ar aa pb t.name w2.heap.size 1 rfl rfl HAR2.out (by omega) hg2 (by simp; exact Nat.lt_succ_of_lt HB1.out) ?_; intro aa3 ca3 W3 hAR4 hb4)
    have hbA : Below w2.heap.size w2 W3 := ((Below.refl _ _).alloc (Nat.le_refl _) _).trans (hb4.mono (by simp))
    obtain ⟨ns, hns⟩ : ∃ x, x = ar ++ [t.name] := ⟨_, rfl⟩
    obtain ⟨n, hn⟩ : ∃ x, x = ar.length + 1 := ⟨_, rfl⟩
    rw [← hns] at hAR4 hpe
    rw [← hn]
    have HAR3 := hideK hAR4
    have HB2 := hideK (Nat.lt_of_lt_of_le HB1.out hbA.size)
    have HK3 := hideK (KCv.keep (hbA.mono (by have := H3.out.fr.size; omega)) HK1.out)
    have HN3 : Hid (n = ns.length ∧ ns.length ≤ c + 1) := by rw [hns, hn]; exact ⟨by simp, by simp; omega⟩
    replace H3 := hideK (H3.out.keep hbA)
    clear hAR4 hb4 hbA HAR1 HAR2 HK1 HB1 hg2 hns hn harl k9 k8
  rotate_left
  focus
    have k9 : (t.kind == 9) = false := by simpa using h9
    have k8 : (t.kind == 8) = false := by simpa using h8
    rw [if_neg (fun h => h9 h.1), if_neg (fun h => h8 h.1), if_neg h8] at hpe
    clear h8 h9
    go_wp2_with fail
    obtain ⟨W3, hW3⟩ : ∃ x, x = W2 := ⟨_, rfl⟩
    obtain ⟨ns, hns⟩ : ∃ x, x = ar := ⟨_, rfl⟩
    obtain ⟨n, hn⟩ : ∃ x, x = ar.length := ⟨_, rfl⟩
    obtain ⟨aa3, ha3⟩ : ∃ x, x = aa := ⟨_, rfl⟩
    obtain ⟨ca3, hc3⟩ : ∃ x, x = ca := ⟨_, rfl⟩
    rw [← hW3, ← hn, ← ha3, ← hc3]
    have H3 : Hid (CFC pb ((c : Int) + 1) w.heap.size t al cl ak ck w W3) := hW3 ▸ H2
    have HAR3 : Hid (AR W3 pb ns aa3 ca3) := by rw [hW3, hns, ha3, hc3]; exact HAR
    have HK3 : Hid (KCv W3 B d t.kids ak) := hW3 ▸ HK
    have HN3 : Hid (n = ns.length ∧ ns.length ≤ c + 1) := by rw [hns]; exact ⟨hn, by omega⟩
    rw [← hns] at hpe
    rw [← hW3] at HB2
    clear HAR HK H2 hn hns ha3 hc3 hW3 k9 k8 harl x0 x1 x2 x3 x4 x5 x6 x7 x8 x9
  all_goals
    have HPE := hideK hpe
    have hpbW : pb ≤ W3.heap.size := Nat.le_of_lt HB2.out
    clear hpe hbd
    have hd60 : decide ((60 : Int) < (c : Int) + 1) = false := by simp; omega
    rw [hd60]
    try rw [Bool.not_true]
    clear hd60
    go_loopw [71] (fun i wr => ∃ k : Nat, k ≤ t.kids.length ∧ i = .int .i64 (k : Int) ∧ (chkCL ns (t.kids.take k) (0, c + 1)).1 = 0 ∧ CKC wr pb ((chkCL ns (t.kids.take k) (0, c + 1)).2 : Int) ∧ FR pb W3 wr) (fun i _ => t.kids.length - (intOf i).toNat)
    case atStart => exact ⟨0, Nat.zero_le _, rfl, rfl, H3.out.cb, World.grownBy.refl _ _⟩
    case round =>
      obtain ⟨k, hk, rfl, hz, hP, hF⟩ := hrel
      by_cases hlt' : k < t.kids.length
      · have hltz : (k : Int) < (t.kids.length : Int) := by omega
        obtain ⟨d', b, o, al', cl', ak', ck', hd', rfl, hbB, hty, htb, htl, htk⟩ := kidCv HK3.out k hlt'
        have hbF := hF.below hpbW
        obtain ⟨y0, y1, y2, y3, y4, y5, y6⟩ := hty.keep hbF (by omega)
        have hcnt := chkCL_cnt ns (t.kids.take k) (0, c + 1) (fun q _ => chkC_cnt q) (by show c + 1 ≤ 60; omega) hz
        have hsn : chkCL ns (t.kids.take (k + 1)) (0, c + 1) = chkC t.kids[k] ns (chkCL ns (t.kids.take k) (0, c + 1)).2 := by
          rw [List.take_succ_eq_append_getElem hlt', chkCL_snoc, if_neg (by simpa using hz)]
        have hF2 := hF.trans (FR.al (.cells #[.int .i64 t.kids[k].kind, .string t.kids[k].fm, .string t.kids[k].tt, .int .i64 t.kids[k].so, .string t.kids[k].name, .slice al' t.kids[k].labels.length cl', .slice ak' t.kids[k].kids.length ck'] 25))
        have hbF2 := (hF2.below hpbW).mono hB
        have cR := ih d' hd' t.kids[k] al' cl' ak' ck' ns aa3 ca3 (chkCL ns (t.kids.take k) (0, c + 1)).2 pb B (wr.alloc (.cells #[.int .i64 t.kids[k].kind, .string t.kids[k].fm, .string t.kids[k].tt, .int .i64 t.kids[k].so, .string t.kids[k].name, .slice al' t.kids[k].labels.length cl', .slice ak' t.kids[k].kids.length ck'] 25)) htb.w
          (NAt.keep hbF2 htl) (KCv.keep hbF2 htk) (HAR3.out.keep hF2) hB (hP.keep ((Below.refl _ _).alloc (Nat.le_refl _) _)) hcnt.2 (Nat.le_trans HN3.out.2 hcnt.1)
        rw [← HN3.out.1] at cR
        simp only [valCv] at cR
        have HF2 := hideK hF2
        generalize chkC t.kids[k] ns (chkCL ns (t.kids.take k) (0, c + 1)).2 = r2 at cR hsn
        have HS := hideK hsn
        have hszF : W3.heap.size ≤ wr.heap.size := hF.size
        clear hz hP hcnt hsn htl htk hty htb ih hF hF2 hbF hbF2
        generalize t.kids[k] = u at *
        go_wp2_with fail
        refine cR.mono ?_
        rintro e w4 ⟨rfl, hP2, hF3⟩
        have HF4 := hideK (HF2.out.trans hF3)
        clear cR y0 y1 y2 y3 y4 y5 y6 hF3
        by_cases hr : r2.1 = 0
        · have hrb : (r2.1 != 0) = false := by simpa using hr
          have HR := hideK hr
          clear hr
          go_wp2_with fail
          go_roundw
          case rel => exact ⟨k + 1, by omega, by go_num, by rw [HS.out]; exact HR.out, by rw [HS.out]; exact hP2, HF4.out⟩
          case measure => simp [intOf]; omega
        · have hrb : (r2.1 != 0) = true := by simpa using hr
          have HR : Hid (chkCL ns t.kids (0, c + 1) = r2) := by
            rw [chkCL_split ns t.kids (k + 1) _ (by rw [HS.out]; exact hr)]; exact HS.out
          clear hr
          go_wp2_with fail
          go_ret
          rw [HPE.out, HR.out]
          exact ⟨rfl, hP2, H3.out.fr.trans HF4.out⟩
      · have hltz : ¬ (k : Int) < (t.kids.length : Int) := by omega
        have hfin : t.kids.take k = t.kids := List.take_of_length_le (by omega)
        rw [hfin] at hz hP
        have HZ := hideK hz
        have HF := hideK hF
        clear hz hfin hF HK3 ih
        go_wp2_with fail
        go_ret
        rw [HPE.out, HZ.out]
        exact ⟨rfl, hP, H3.out.fr.trans HF.out⟩
end Go.Proofs.YtfmegfgmkeicnaaDoor
