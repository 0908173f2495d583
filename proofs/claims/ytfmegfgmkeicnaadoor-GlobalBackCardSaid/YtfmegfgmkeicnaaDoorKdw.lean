/-
  The contracts of (*checking).check and of types.Check, for every type.
-/
import Derived.Test.YtfmegfgmkeicnaaDoorKdi
namespace Go.Proofs.YtfmegfgmkeicnaaDoor
open Go.RowKit Go.Shelf

/-- what is wrong, gone through part by part: the error, and how many parts have been met; ar: the names around -/
def chkT : Ty → List ByteArray → Nat → Int × Nat
  | ⟨kd, so, nm, ls, ks⟩, ar, c =>
    if 60 < c + 1 then (2, c + 1) else if partT ⟨kd, so, nm, ls, ks⟩ = false then (1, c + 1)
    else if kd = 9 ∧ hasN ar nm = false then (4, c + 1) else if kd = 8 ∧ idleN 65536 ⟨kd, so, nm, ls, ks⟩ = true then (7, c + 1)
    else ks.foldl (fun a k => if a.1 ≠ 0 then a else chkT k (if kd = 8 then ar ++ [nm] else ar) a.2) (0, c + 1)
def chkTL (ar : List ByteArray) (ks : List Ty) (a : Int × Nat) : Int × Nat := ks.foldl (fun a k => if a.1 ≠ 0 then a else chkT k ar a.2) a
theorem chkT_eq (t : Ty) (ar : List ByteArray) (c : Nat) : chkT t ar c = if 60 < c + 1 then (2, c + 1) else if partT t = false then (1, c + 1)
    else if t.kind = 9 ∧ hasN ar t.name = false then (4, c + 1) else if t.kind = 8 ∧ idleN 65536 t = true then (7, c + 1)
    else chkTL (if t.kind = 8 then ar ++ [t.name] else ar) t.kids (0, c + 1) := by cases t; rw [chkT]; rfl
theorem chkTL_cons (ar : List ByteArray) (x : Ty) (ks : List Ty) (a : Int × Nat) : chkTL ar (x :: ks) a = chkTL ar ks (if a.1 ≠ 0 then a else chkT x ar a.2) := rfl
theorem chkTL_bad (ar : List ByteArray) (ks : List Ty) (a : Int × Nat) (h : a.1 ≠ 0) : chkTL ar ks a = a := by
  induction ks with
  | nil => rfl
  | cons x ks ih => rw [chkTL_cons, if_pos h]; exact ih
theorem chkTL_snoc (ar : List ByteArray) (ks : List Ty) (x : Ty) (a : Int × Nat) : chkTL ar (ks ++ [x]) a = if (chkTL ar ks a).1 ≠ 0 then chkTL ar ks a else chkT x ar (chkTL ar ks a).2 := by
  unfold chkTL; rw [List.foldl_append]; rfl
theorem chkTL_split (ar : List ByteArray) (ks : List Ty) (k : Nat) (a : Int × Nat) (h : (chkTL ar (ks.take k) a).1 ≠ 0) : chkTL ar ks a = chkTL ar (ks.take k) a := by
  have e : chkTL ar ks a = chkTL ar (ks.drop k) (chkTL ar (ks.take k) a) := by
    conv => lhs; rw [← List.take_append_drop k ks]
    unfold chkTL; rw [List.foldl_append]
  rw [e, chkTL_bad _ _ _ h]
theorem chkTL_cnt (ar : List ByteArray) (ks : List Ty) : ∀ (a : Int × Nat), (∀ k ∈ ks, ∀ ar c, c ≤ 60 → (chkT k ar c).1 = 0 → c ≤ (chkT k ar c).2 ∧ (chkT k ar c).2 ≤ 60) → a.2 ≤ 60 → (chkTL ar ks a).1 = 0 → a.2 ≤ (chkTL ar ks a).2 ∧ (chkTL ar ks a).2 ≤ 60 := by
  induction ks with
  | nil => intro a _ h _; exact ⟨Nat.le_refl _, h⟩
  | cons x ks ih =>
    intro a hk h h0
    rw [chkTL_cons] at h0 ⊢
    by_cases ha : a.1 ≠ 0
    · rw [if_pos ha] at h0 ⊢
      exact ih a (fun k hm => hk k (.tail _ hm)) h h0
    · rw [if_neg ha] at h0 ⊢
      by_cases hx : (chkT x ar a.2).1 = 0
      · have h1 := hk x (.head _) ar a.2 h hx
        have h2 := ih _ (fun k hm => hk k (.tail _ hm)) h1.2 h0
        exact ⟨Nat.le_trans h1.1 h2.1, h2.2⟩
      · rw [chkTL_bad _ _ _ hx] at h0; exact absurd h0 hx
theorem chkT_cnt : ∀ t : Ty, ∀ ar c, c ≤ 60 → (chkT t ar c).1 = 0 → c ≤ (chkT t ar c).2 ∧ (chkT t ar c).2 ≤ 60 := by
  apply tyInd
  intro t ih ar c hc h
  rw [chkT_eq] at h ⊢
  by_cases h1 : 60 < c + 1
  · rw [if_pos h1] at h; exact absurd h (by simp)
  rw [if_neg h1] at h ⊢
  by_cases h2 : partT t = false
  · rw [if_pos h2] at h; exact absurd h (by simp)
  rw [if_neg h2] at h ⊢
  by_cases h3 : t.kind = 9 ∧ hasN ar t.name = false
  · rw [if_pos h3] at h; exact absurd h (by simp)
  rw [if_neg h3] at h ⊢
  by_cases h4 : t.kind = 8 ∧ idleN 65536 t = true
  · rw [if_pos h4] at h; exact absurd h (by simp)
  rw [if_neg h4] at h ⊢
  have := chkTL_cnt _ t.kids (0, c + 1) ih (by show c + 1 ≤ 60; omega) h
  exact ⟨by have := this.1; simp only at this; omega, this.2⟩


theorem kid_at {W : World} {B d : Nat} {ks : List Ty} {ak : Option Addr} (h : KT W B d ks ak) (i : Nat) (hi : i < ks.length) : ∃ d' kb ko al' cl' ak' ck', d' < d ∧ ak = some ⟨kb, ko, none⟩ ∧ kb < B ∧ TyAt W kb (ko + i * 5) ks[i] al' cl' ak' ck' ∧ TyBd ks[i] cl' ck' ∧ LA W B ks[i].labels al' ∧ KT W B d' ks[i].kids ak' := by
  cases d with
  | zero => simp only [KT] at h; subst h; simp at hi
  | succ d =>
    rcases h with h | ⟨kb, ko, rfl, hb, h⟩
    · subst h; simp at hi
    · obtain ⟨al', cl', ak', ck', h1, h2, h3, h4⟩ := h i hi
      exact ⟨d, kb, ko, al', cl', ak', ck', Nat.lt_succ_self _, rfl, hb, h1, h2, h3, h4⟩
theorem wpList_append_name (w : World) {ops : Array Oper} {rest : List Oper} {o : Oper} {a : Act} {Q : Exit → Act → World → Prop} (hgd : o.guard = none) (s x : Operand)
    (ho : o.op = .call { callee := .builtin .append, args := #[s, x], argTypes := #[22, 22] })
    (ns : List ByteArray) (aa : Option Addr) (pb : Nat) (nm : ByteArray) (g c : Nat) (hs : a.eval s = .slice aa ns.length ns.length) (hx : a.eval x = .slice (some ⟨g, 0, none⟩) 1 c)
    (h : AR w pb ns aa ns.length) (hl : ns.length ≤ 60) (hg : w.cell? ⟨g, 0, none⟩ = some (.string nm)) (hpb : pb < w.heap.size)
    (hK : ∀ aa' ca' w', AR w' pb (ns ++ [nm]) aa' ca' → Below w.heap.size w w' → wpList Tryd.prog ops Q rest (a.put o.dst (.slice aa' (ns.length + 1) ca')) w') : wpList Tryd.prog ops Q (o :: rest) a w :=
  wpList_plain hgd fun _ hKK => by
    obtain ⟨aa', ca', w', hr, h2, h3⟩ := run_append_name w o.type ns aa pb nm g c h hl hg hpb
    unfold Oper.wp execOp
    simp only [ho, resolve, invoke, builtin, Sem.run_bind, Sem.run_pure, Result.andThen_ok, List.map_toArray, List.map_cons, List.map_nil, hs, hx, hr]
    exact hKK _ _ (hK aa' ca' w' h2 h3)
/-- what check keeps while it goes on: its own block, a type in one, and that nothing else has changed -/
structure CSF (pb : Nat) (c : Int) (b : Nat) (t : Ty) (al : Option Addr) (cl : Nat) (ak : Option Addr) (ck : Nat) (w W : World) : Prop where
  cb : CKT W pb c
  ty : TyAt W b 0 t al cl ak ck
  lt : b < W.heap.size
  fr : FR pb w W
theorem CSF.keep {pb : Nat} {c : Int} {b : Nat} {t : Ty} {al : Option Addr} {cl : Nat} {ak : Option Addr} {ck : Nat} {w W W' : World} (h : CSF pb c b t al cl ak ck w W) (hb : Below W.heap.size W W') : CSF pb c b t al cl ak ck w W' :=
  ⟨h.cb.keep hb, h.ty.keep hb h.lt, Nat.lt_of_lt_of_le h.lt hb.size, h.fr.trans (FR.of hb)⟩
theorem CSF.all {pb : Nat} {c : Int} {b : Nat} {t : Ty} {al : Option Addr} {cl : Nat} {ak : Option Addr} {ck : Nat} {w W : World} (h : CSF pb c b t al cl ak ck w W) :
    W.cell? ⟨pb, 0, none⟩ = some (.func (.func 75) #[] #[]) ∧ W.cell? ⟨pb, 1, none⟩ = some (.func (.func 76) #[] #[]) ∧ W.cell? ⟨pb, 2, none⟩ = some (.int .i64 c) ∧
    W.cell? ⟨b, 0, none⟩ = some (.int .i64 t.kind) ∧ W.cell? ⟨b, 1, none⟩ = some (.int .i64 t.so) ∧ W.cell? ⟨b, 2, none⟩ = some (.string t.name) ∧ W.cell? ⟨b, 3, none⟩ = some (.slice al t.labels.length cl) ∧ W.cell? ⟨b, 4, none⟩ = some (.slice ak t.kids.length ck) := by
  obtain ⟨e0, e1, e2, e3, e4⟩ := h.ty
  simp only [Nat.zero_add] at e1 e2 e3 e4
  exact ⟨h.cb.c0, h.cb.c1, h.cb.c2, e0, e1, e2, e3, e4⟩
theorem CKT.set {w : World} {pb : Nat} {c : Int} (h : CKT w pb c) (c' : Int) : CKT (w.setCell ⟨pb, 2, none⟩ (.int .i64 c')) pb c' := by
  obtain ⟨hl, h0, h1, h2, f2⟩ := h
  exact ⟨by simpa using hl, by go_cell, by go_cell, by go_cell, by go_simp⟩
theorem FR.setO {pb : Nat} {w : World} (o : Nat) (v : Value) : FR pb w (w.setCell ⟨pb, o, none⟩ v) :=
  ⟨rfl, rfl, rfl, by simp, fun k _ hn => Below.heap_setCell w _ v k (fun e => hn (by rw [e]))⟩
theorem CSF.new {pb : Nat} {c : Int} {t : Ty} {al : Option Addr} {cl : Nat} {ak : Option Addr} {ck : Nat} {w : World} (h : CKT w pb c) (c' : Int) :
    CSF pb c' w.heap.size t al cl ak ck w (((w.setCell ⟨pb, 2, none⟩ (.int .i64 c')).alloc (.cells #[.int .i64 t.kind, .int .i64 t.so, .string t.name, .slice al t.labels.length cl, .slice ak t.kids.length ck] 45)).drew) :=
  ⟨(h.set c').keep (((Below.refl _ _).alloc (Nat.le_refl _) _).drew), ⟨by go_cell, by go_cell, by go_cell, by go_cell, by go_cell⟩, by simp, (FR.setO 2 _).trans ((FR.al _).trans (FR.of (Below.refl _ _).drew))⟩
theorem lookF (pb : Nat) (c : Int) (b : Nat) (t : Ty) (al : Option Addr) (cl : Nat) (ak : Option Addr) (ck : Nat) (w : World) : ∀ W, CSF pb c b t al cl ak ck w W → Calls Tryd.prog 76 #[.agg #[.int .i64 t.kind, .int .i64 t.so, .string t.name, .slice al t.labels.length cl, .slice ak t.kids.length ck]] W fun e w' => e = .returned (.tuple #[.int .i64 t.kind, .string t.name, .slice ak t.kids.length ck]) ∧ CSF pb c b t al cl ak ck w w' :=
  fun W hW => (look_any t al cl ak ck W).mono fun _ _ ⟨h1, h2⟩ => ⟨h1, hW.keep h2⟩
theorem isF {pb : Nat} {c : Int} {b : Nat} {t : Ty} {al : Option Addr} {cl : Nat} {ak : Option Addr} {ck B : Nat} {w : World} (hbd : TyBw t) (hla : LA w B t.labels al) (hB : B ≤ pb) (hp : pb < w.heap.size) : ∀ W, CSF pb c b t al cl ak ck w W → Calls Tryd.prog 75 #[.agg #[.int .i64 t.kind, .int .i64 t.so, .string t.name, .slice al t.labels.length cl, .slice ak t.kids.length ck]] W fun e w' => e = .returned (.bool (partT t)) ∧ CSF pb c b t al cl ak ck w w' :=
  fun W hW => (isPart_t t al cl ak ck W hbd (NAt.mono (by have := hW.fr.size; omega) (NAt.keep ((hW.fr.below (by omega)).mono hB) hla))).mono fun _ _ ⟨h1, h2⟩ => ⟨h1, hW.keep h2⟩
def CPSaid (d : Nat) : Prop := ∀ (t : Ty) (al : Option Addr) (cl : Nat) (ak : Option Addr) (ck : Nat) (ar : List ByteArray) (aa : Option Addr) (ca c pb B : Nat) (w : World),
  TyBw t → LA w B t.labels al → KT w B d t.kids ak → AR w pb ar aa ca → B ≤ pb → CKT w pb c → c ≤ 60 → ar.length ≤ c →
  Calls Tryd.prog 112 #[.pointer (some ⟨pb, 0, none⟩), tyVal t al cl ak ck, .slice aa ar.length ca] w fun e w' => e = .returned (.int .i64 (chkT t ar c).1) ∧ CKT w' pb ((chkT t ar c).2 : Int) ∧ FR pb w w'
set_option maxRecDepth 100000 in
set_option maxHeartbeats 4000000 in
theorem checkP_step (d : Nat) (ih : ∀ d', d' < d → CPSaid d') : CPSaid d := by
  intro t al cl ak ck ar aa ca c pb B w hbd hla hkt har hB hpc hc harl
  have hpe := chkT_eq t ar c
  generalize chkT t ar c = r at hpe ⊢
  have hlt := hpc.lt
  have hcz : (c : Int) ≤ 60 := by omega
  have HF := hideK (CSF.new (t := t) (al := al) (cl := cl) (ak := ak) (ck := ck) hpc ((c : Int) + 1))
  have CI := hideK (isF (pb := pb) (c := (c : Int) + 1) (b := w.heap.size) (ak := ak) (cl := cl) (ck := ck) hbd hla hB hlt)
  have HPC := hideK hpc
  obtain ⟨_, p0, p1, p2, pf⟩ := hpc
  simp only [tyVal]
  have ENTER : Hid True := trivial
  by_cases h60 : 60 < c + 1
  · have hcge : (60 : Int) ≤ (c : Int) := by omega
    rw [if_pos h60] at hpe
    subst hpe
    clear hla hkt har ih hbd CI
    go_enter Tryd.func112, Tryd.ntmps112
    go_upto_region 2 with fail
    refine region_seq (CSF pb ((c : Int) + 1) w.heap.size t al cl ak ck w) [0, 1, 2, 3, 4, 5, 6, 7, 8, 9, 10, 11, 12] (by kernel_rfl) (by kernel_rfl) (by kernel_rfl) HF.out ?_
    repeat (refine qO ?_; first | refine qN ?_ | refine qV ?_ | refine qLk ?_ | refine qD (lookF pb ((c : Int) + 1) w.heap.size t al cl ak ck w) ?_)
    refine SeqS.done ?_
    intro W1 hW1
    have H1 := hideK hW1
    obtain ⟨x0, x1, x2, x3, x4, x5, x6, x7⟩ := hW1.all
    clear hW1
    go_wp2_with fail
    go_ret
    exact ⟨rfl, H1.out.cb, H1.out.fr⟩
  rw [if_neg h60] at hpe
  have hcz' : (c : Int) + 1 ≤ 60 := by omega
  go_enter Tryd.func112, Tryd.ntmps112
  go_upto_region 2 with fail
  refine region_seq (CSF pb ((c : Int) + 1) w.heap.size t al cl ak ck w) [0, 1, 2, 3, 4, 5, 6, 7, 8, 9, 10, 11, 12] (by kernel_rfl) (by kernel_rfl) (by kernel_rfl) HF.out ?_
  repeat (refine qO ?_; first | refine qN ?_ | refine qV ?_ | refine qLk ?_ | refine qD (lookF pb ((c : Int) + 1) w.heap.size t al cl ak ck w) ?_)
  refine SeqS.done ?_
  intro W1 hW1
  have H1 := hideK hW1
  have H1d := hideK (hW1.keep (Below.refl _ _).drew)
  obtain ⟨x0, x1, x2, x3, x4, x5, x6, x7⟩ := hW1.all
  clear hW1
  go_upto_region 5 with fail
  clear x0 x1 x2 x3 x4 x5 x6 x7 p0 p1 p2 pf
  refine region_seq (CSF pb ((c : Int) + 1) w.heap.size t al cl ak ck w) [0, 1, 2, 3, 4, 5, 6, 7] (by kernel_rfl) (by kernel_rfl) (by kernel_rfl) H1d.out ?_
  repeat (refine qO ?_; first | refine qN ?_ | refine qV ?_ | refine qLk ?_ | refine qD CI.out ?_)
  refine SeqS.done ?_
  intro W2 hW2
  have H2 := hideK hW2
  obtain ⟨x0, x1, x2, x3, x4, x5, x6, x7⟩ := hW2.all
  clear hW2 CI
  generalize hg : partT t = g at hpe ⊢
  cases g
  · rw [if_pos rfl] at hpe
    subst hpe
    clear hla hkt har ih hbd
    go_wp2_with fail
    go_ret
    exact ⟨rfl, H2.out.cb, H2.out.fr⟩
  rw [if_neg (by simp)] at hpe
  have HAR := hideK (har.keep H2.out.fr)
  have HK := hideK (KT.keep ((H2.out.fr.below (by omega)).mono hB) hkt)
  have hkl : (t.kids.length : Int) ≤ 9223372036854775807 := by have := hbd.kids; omega
  have HB2 := hideK (Nat.lt_of_lt_of_le hlt H2.out.fr.size)
  clear har hkt hla HF H1 H1d HPC ENTER hg
  by_cases h9 : t.kind = 9
  focus
    have k9 : (t.kind == 9) = true := by simpa using h9
    have k8 : (t.kind == 8) = false := by simp [h9]
    have CN := hideK (containsA_any ar t.name aa ca pb W2 HAR.out (by omega))
    generalize hasN ar t.name = q at CN hpe
    cases q
    · rw [if_pos ⟨h9, rfl⟩] at hpe
      subst hpe
      clear ih h9
      go_wp2_with fail
      refine CN.out.mono ?_
      rintro e w1 ⟨rfl, rfl⟩
      go_wp2_with fail
      go_ret
      exact ⟨rfl, H2.out.cb, H2.out.fr⟩
    rw [if_neg (by simp), if_neg (fun h => by omega), if_neg (by omega)] at hpe
    clear h9
    go_wp2_with fail
    refine CN.out.mono ?_
    rintro e w1 ⟨rfl, rfl⟩
    clear x0 x1 x2 x3 x4 x5 x6 x7
    go_wp2_with fail
    obtain ⟨W3, hW3⟩ : ∃ x, x = w1 := ⟨_, rfl⟩
    obtain ⟨ns, hns⟩ : ∃ x, x = ar := ⟨_, rfl⟩
    obtain ⟨n, hn⟩ : ∃ x, x = ar.length := ⟨_, rfl⟩
    obtain ⟨aa3, ha3⟩ : ∃ x, x = aa := ⟨_, rfl⟩
    obtain ⟨ca3, hc3⟩ : ∃ x, x = ca := ⟨_, rfl⟩
    rw [← hW3, ← hn, ← ha3, ← hc3]
    have H3 : Hid (CSF pb ((c : Int) + 1) w.heap.size t al cl ak ck w W3) := hW3 ▸ H2
    have HAR3 : Hid (AR W3 pb ns aa3 ca3) := by rw [hW3, hns, ha3, hc3]; exact HAR
    have HK3 : Hid (KT W3 B d t.kids ak) := hW3 ▸ HK
    have HN3 : Hid (n = ns.length ∧ ns.length ≤ c + 1) := by rw [hns]; exact ⟨hn, by omega⟩
    rw [← hns] at hpe
    rw [← hW3] at HB2
    clear CN HAR HK H2 hn hns ha3 hc3 hW3 k9 k8 harl
  rotate_left
  by_cases h8 : t.kind = 8
  focus
    have k9 : (t.kind == 9) = false := by simp [h8]
    have k8 : (t.kind == 8) = true := by simpa using h8
    have CI := hideK (isIdleP_any t al cl ak ck d pb ((c : Int) + 1) W2 H2.out.cb hbd (KT.mono (by have := H2.out.fr.size; omega) HK.out))
    rw [if_neg (fun h => h9 h.1)] at hpe
    simp only [tyVal] at CI
    generalize idleN 65536 t = q at CI hpe
    cases q
    rotate_left
    · rw [if_pos ⟨h8, rfl⟩] at hpe
      subst hpe
      clear ih h8 h9
      go_wp2_with fail
      refine CI.out.mono ?_
      rintro e w1 ⟨rfl, hb1⟩
      have H3 := hideK (H2.out.keep hb1)
      go_wp2_with fail
      go_ret
      exact ⟨rfl, H3.out.cb, H3.out.fr⟩
    rw [if_neg (by simp), if_pos h8] at hpe
    clear h8 h9
    go_wp2_with fail
    refine CI.out.mono ?_
    rintro e w1 ⟨rfl, hb1⟩
    have HAR1 := hideK (HAR.out.keep (FR.of hb1))
    have HK1 := hideK (KT.keep (hb1.mono (by have := H2.out.fr.size; omega)) HK.out)
    have H3 := hideK (H2.out.keep hb1)
    have HB1 := hideK (Nat.lt_of_lt_of_le HB2.out hb1.size)
    clear x0 x1 x2 x3 x4 x5 x6 x7 H2 HAR HK HB2 hb1 CI
    go_wp2_with fail
    refine (clip_any ar aa ca pb w1 _ HAR1.out (by omega)).mono ?_
    rintro e w2 ⟨rfl, rfl⟩
    have HAR2 := hideK (HAR1.out.clip.keep (FR.al (pb := pb) (.cells #[.string t.name] 9)))
    have hg2 : (World.alloc w2 (.cells #[.string t.name] 9)).cell? ⟨w2.heap.size, 0, none⟩ = some (.string t.name) := by go_cell
    go_wp2_with (at_builtin; refine wpList_append_name _ rfl (.tmp 65) (.tmp 67) rfl ar aa pb t.name w2.heap.size 1 rfl rfl HAR2.out (by omega) hg2 (by simp; exact Nat.lt_succ_of_lt HB1.out) ?_; intro aa3 ca3 W3 hAR4 hb4)
    have hbA : Below w2.heap.size w2 W3 := ((Below.refl _ _).alloc (Nat.le_refl _) _).trans (hb4.mono (by simp))
    obtain ⟨ns, hns⟩ : ∃ x, x = ar ++ [t.name] := ⟨_, rfl⟩
    obtain ⟨n, hn⟩ : ∃ x, x = ar.length + 1 := ⟨_, rfl⟩
    rw [← hns] at hAR4 hpe
    rw [← hn]
    have HAR3 := hideK hAR4
    have HB2 := hideK (Nat.lt_of_lt_of_le HB1.out hbA.size)
    have HK3 := hideK (KT.keep (hbA.mono (by have := H3.out.fr.size; omega)) HK1.out)
    have HN3 : Hid (n = ns.length ∧ ns.length ≤ c + 1) := by rw [hns, hn]; exact ⟨by simp, by simp; omega⟩
    replace H3 := hideK (H3.out.keep hbA)
    clear hAR4 hb4 hbA HAR1 HAR2 HK1 HB1 hg2 hns hn harl k9 k8
  rotate_left
  focus
    have k9 : (t.kind == 9) = false := by simpa using h9
    have k8 : (t.kind == 8) = false := by simpa using h8
    rw [if_neg (fun h => h9 h.1), if_neg (fun h => h8 h.1), if_neg h8] at hpe
    clear h8 h9
    go_wp2_with fail
    obtain ⟨W3, hW3⟩ : ∃ x, x = W2 := ⟨_, rfl⟩
    obtain ⟨ns, hns⟩ : ∃ x, x = ar := ⟨_, rfl⟩
    obtain ⟨n, hn⟩ : ∃ x, x = ar.length := ⟨_, rfl⟩
    obtain ⟨aa3, ha3⟩ : ∃ x, x = aa := ⟨_, rfl⟩
    obtain ⟨ca3, hc3⟩ : ∃ x, x = ca := ⟨_, rfl⟩
    rw [← hW3, ← hn, ← ha3, ← hc3]
    have H3 : Hid (CSF pb ((c : Int) + 1) w.heap.size t al cl ak ck w W3) := hW3 ▸ H2
    have HAR3 : Hid (AR W3 pb ns aa3 ca3) := by rw [hW3, hns, ha3, hc3]; exact HAR
    have HK3 : Hid (KT W3 B d t.kids ak) := hW3 ▸ HK
    have HN3 : Hid (n = ns.length ∧ ns.length ≤ c + 1) := by rw [hns]; exact ⟨hn, by omega⟩
    rw [← hns] at hpe
    rw [← hW3] at HB2
    clear HAR HK H2 hn hns ha3 hc3 hW3 k9 k8 harl x0 x1 x2 x3 x4 x5 x6 x7
  all_goals
    have HPE := hideK hpe
    have hpbW : pb ≤ W3.heap.size := Nat.le_of_lt HB2.out
    clear hpe hbd
    have hd60 : decide ((60 : Int) < (c : Int) + 1) = false := by simp; omega
    rw [hd60]
    try rw [Bool.not_true]
    clear hd60
    go_loopw [71] (fun i wr => ∃ k : Nat, k ≤ t.kids.length ∧ i = .int .i64 (k : Int) ∧ (chkTL ns (t.kids.take k) (0, c + 1)).1 = 0 ∧ CKT wr pb ((chkTL ns (t.kids.take k) (0, c + 1)).2 : Int) ∧ FR pb W3 wr) (fun i _ => t.kids.length - (intOf i).toNat)
    case atStart => exact ⟨0, Nat.zero_le _, rfl, rfl, H3.out.cb, World.grownBy.refl _ _⟩
    case round =>
      obtain ⟨k, hk, rfl, hz, hP, hF⟩ := hrel
      by_cases hlt' : k < t.kids.length
      · have hltz : (k : Int) < (t.kids.length : Int) := by omega
        obtain ⟨d', b, o, al', cl', ak', ck', hd', rfl, hbB, hty, htb, htl, htk⟩ := kid_at HK3.out k hlt'
        have hbF := hF.below hpbW
        obtain ⟨y0, y1, y2, y3, y4⟩ := hty.keep hbF (by omega)
        have hcnt := chkTL_cnt ns (t.kids.take k) (0, c + 1) (fun q _ => chkT_cnt q) (by show c + 1 ≤ 60; omega) hz
        have hsn : chkTL ns (t.kids.take (k + 1)) (0, c + 1) = chkT t.kids[k] ns (chkTL ns (t.kids.take k) (0, c + 1)).2 := by
          rw [List.take_succ_eq_append_getElem hlt', chkTL_snoc, if_neg (by simpa using hz)]
        have hF2 := hF.trans (FR.al (.cells #[.int .i64 t.kids[k].kind, .int .i64 t.kids[k].so, .string t.kids[k].name, .slice al' t.kids[k].labels.length cl', .slice ak' t.kids[k].kids.length ck'] 45))
        have hbF2 := (hF2.below hpbW).mono hB
        have cR := ih d' hd' t.kids[k] al' cl' ak' ck' ns aa3 ca3 (chkTL ns (t.kids.take k) (0, c + 1)).2 pb B (wr.alloc (.cells #[.int .i64 t.kids[k].kind, .int .i64 t.kids[k].so, .string t.kids[k].name, .slice al' t.kids[k].labels.length cl', .slice ak' t.kids[k].kids.length ck'] 45)) htb.w
          (NAt.keep hbF2 htl) (KT.keep hbF2 htk) (HAR3.out.keep hF2) hB (hP.keep ((Below.refl _ _).alloc (Nat.le_refl _) _)) hcnt.2 (Nat.le_trans HN3.out.2 hcnt.1)
        rw [← HN3.out.1] at cR
        simp only [tyVal] at cR
        have HF2 := hideK hF2
        generalize chkT t.kids[k] ns (chkTL ns (t.kids.take k) (0, c + 1)).2 = r2 at cR hsn
        have HS := hideK hsn
        have hszF : W3.heap.size ≤ wr.heap.size := hF.size
        clear hz hP hcnt hsn htl htk hty htb ih hF hF2 hbF hbF2
        generalize t.kids[k] = u at *
        go_wp2_with fail
        refine cR.mono ?_
        rintro e w4 ⟨rfl, hP2, hF3⟩
        have HF4 := hideK (HF2.out.trans hF3)
        clear cR y0 y1 y2 y3 y4 hF3
        by_cases hr : r2.1 = 0
        · have hrb : (r2.1 != 0) = false := by simpa using hr
          have HR := hideK hr
          clear hr
          go_wp2_with fail
          go_roundw
          case rel => exact ⟨k + 1, by omega, by go_num, by rw [HS.out]; exact HR.out, by rw [HS.out]; exact hP2, HF4.out⟩
          case measure => simp [intOf]; omega
        · have hrb : (r2.1 != 0) = true := by simpa using hr
          have HR : Hid (chkTL ns t.kids (0, c + 1) = r2) := by
            rw [chkTL_split ns t.kids (k + 1) _ (by rw [HS.out]; exact hr)]; exact HS.out
          clear hr
          go_wp2_with fail
          go_ret
          rw [HPE.out, HR.out]
          exact ⟨rfl, hP2, H3.out.fr.trans HF4.out⟩
      · have hltz : ¬ (k : Int) < (t.kids.length : Int) := by omega
        have hfin : t.kids.take k = t.kids := List.take_of_length_le (by omega)
        rw [hfin] at hz hP
        have HZ := hideK hz
        have HF := hideK hF
        clear hz hfin hF HK3 ih
        go_wp2_with fail
        go_ret
        rw [HPE.out, HZ.out]
        exact ⟨rfl, hP, H3.out.fr.trans HF.out⟩
end Go.Proofs.YtfmegfgmkeicnaaDoor
