/-
  The contract of duetkeep.free: does a name stand in a type that no Rec in it binds?
-/
import Derived.Test.YtoieacgojkgjgaaDoorVc
import Derived.Test.YtoieacgojkgjgaaDoorJw
namespace Go.Proofs.YtoieacgojkgjgaaDoor
open Go.RowKit Go.Shelf

theorem nm_beq (a b : ByteArray) : (a.toList == b.toList) = decide (a = b) := by
  by_cases h : a = b
  · subst h; simp
  · rw [decide_eq_false h, beq_eq_false_iff_ne, ByteArray.toList_eq, ByteArray.toList_eq]
    exact fun e => h (ByteArray.ext (Array.toList_inj.1 e))
def FRSaid (n : Nat) : Prop := ∀ (x : ByteArray) (t : Ty) (al : Option Addr) (cl : Nat) (ak : Option Addr) (ck d B : Nat) (w : World), sizeT t ≤ n → KT w B d t.kids ak → B ≤ w.heap.size → wfT t →
  Calls Tryd.prog 36 #[tyVal t al cl ak ck, .string x] w fun e w' => e = .returned (.bool (frT x t)) ∧ Below w.heap.size w w'
set_option maxRecDepth 100000 in
set_option maxHeartbeats 2000000 in
theorem free1_any (n : Nat) (ih : FRSaid n) (x : ByteArray) (t : Ty) (al : Option Addr) (cl : Nat) (ak : Option Addr) (ck d B nb : Nat) (w : World) (hs : sizeT t ≤ n) (hkt : KT w B d t.kids ak) (hB : B ≤ w.heap.size) (hw : wfT t) (hp : w.cell? ⟨nb, 0, none⟩ = some (.string x)) :
    Calls Tryd.prog 61 #[tyVal t al cl ak ck, .pointer (some ⟨nb, 0, none⟩)] w fun e w' => e = .returned (.bool (frT x t)) ∧ Below w.heap.size w w' := by
  have hA : Below w.heap.size w (w.alloc (.cells #[.int .i64 t.kind, .int .i64 t.so, .string t.name, .slice al t.labels.length cl, .slice ak t.kids.length ck] 25)) := (Below.refl _ _).alloc (Nat.le_refl _) _
  have hnb : nb < w.heap.size := World.block_lt_of_cell? w ⟨nb, 0, none⟩ hp
  have p1 := (hA.cell (p := ⟨nb, 0, none⟩) hnb).trans hp
  have c := ih x t al cl ak ck d B _ hs (hkt.keep (hA.mono hB)) (Nat.le_trans hB hA.size) hw
  have HA := hideK hA
  simp only [tyVal] at c ⊢
  generalize frT x t = q at c ⊢
  clear hkt hw hA hs hp
  go_enter Tryd.func61, Tryd.ntmps61
  go_wp2_with fail
  refine c.mono ?_
  rintro e w1 ⟨rfl, hb1⟩
  have HB := hideK (HA.out.trans (hb1.mono HA.out.size))
  clear c hb1 p1
  go_wp2_with fail
  go_ret
  exact ⟨rfl, HB.out⟩
set_option maxRecDepth 100000 in
set_option maxHeartbeats 2000000 in
theorem indexFree_any (n : Nat) (ih : FRSaid n) (x : ByteArray) (ks : List Ty) (ak : Option Addr) (ck d B nb : Nat) (w : World) (hs : ∀ k ∈ ks, sizeT k ≤ n) (hkt : KT w B d ks ak) (hB : B ≤ w.heap.size) (hw : ∀ k ∈ ks, wfT k) (hl : ks.length ≤ 6) (hp : w.cell? ⟨nb, 0, none⟩ = some (.string x)) :
    Calls Tryd.prog 91 #[.slice ak ks.length ck, .func (.func 61) #[] #[.pointer (some ⟨nb, 0, none⟩)]] w fun e w' => (∃ z : Int, e = .returned (.int .i64 z) ∧ (0 ≤ z ∨ z = -1) ∧ (z = -1 ↔ ks.any (frT x) = false)) ∧ Below w.heap.size w w' := by
  have hlz : (ks.length : Int) ≤ 6 := by omega
  have hnb : nb < w.heap.size := World.block_lt_of_cell? w ⟨nb, 0, none⟩ hp
  go_enter Tryd.func91, Tryd.ntmps91
  go_wp2_with fail
  go_loopw [8] (fun i wr => ∃ k : Nat, k ≤ ks.length ∧ i = .int .i64 (k : Int) ∧ ((ks.take k).any (frT x)) = false ∧ Below w.heap.size w wr) (fun i _ => ks.length - (intOf i).toNat)
  case atStart => exact ⟨0, Nat.zero_le _, rfl, rfl, Below.refl _ _⟩
  case round =>
    obtain ⟨k, hk, rfl, hn, hb⟩ := hrel
    by_cases hlt : k < ks.length
    · have hltz : (k : Int) < (ks.length : Int) := by omega
      obtain ⟨b, o, hak, hbB, al2, cl2, ak2, ck2, hat, hbd2, hla2, d2, hkt2⟩ := kt_at hkt hlt
      subst hak
      have hbB' := hb.mono hB
      obtain ⟨e0, e1, e2, e3, e4⟩ := hat.keep hbB' hbB
      have p1 := (hb.cell (p := ⟨nb, 0, none⟩) hnb).trans hp
      have c := free1_any n ih x ks[k] al2 cl2 ak2 ck2 d2 B nb _ (hs _ (List.getElem_mem hlt)) (hkt2.keep hbB') (Nat.le_trans hB hb.size) (hw _ (List.getElem_mem hlt)) p1
      simp only [tyVal] at c
      have HB := hideK hb
      cases hq : frT x ks[k] with
      | false =>
        rw [hq] at c
        have HN := hideK (show ((ks.take (k + 1)).any (frT x)) = false from by
          rw [List.take_succ_eq_append_getElem hlt, List.any_append, hn]; simp [hq])
        clear hat hbd2 hla2 hkt2 hn hq hb hbB'
        generalize ks[k] = y at *
        go_wp2_with fail
        refine c.mono ?_
        rintro e w1 ⟨rfl, hb1⟩
        have HB1 := hideK (HB.out.trans (hb1.mono HB.out.size))
        clear c hb1 p1 e0 e1 e2 e3 e4
        go_wp2_with fail
        go_roundw
        case rel => exact ⟨k + 1, by omega, by go_num, HN.out, HB1.out⟩
        case measure => simp [intOf]; omega
      | true =>
        rw [hq] at c
        have HN := hideK (show ¬ ks.any (frT x) = false from fun q => by
          rw [any_false q _ (List.getElem_mem hlt)] at hq; cases hq)
        clear hat hbd2 hla2 hkt2 hn hq hb hbB'
        generalize ks[k] = y at *
        go_wp2_with fail
        refine c.mono ?_
        rintro e w1 ⟨rfl, hb1⟩
        have HB1 := hideK (HB.out.trans (hb1.mono HB.out.size))
        clear c hb1 p1 e0 e1 e2 e3 e4
        go_wp2_with fail
        go_ret
        exact ⟨⟨_, rfl, .inl (by omega), ⟨fun q => by omega, fun q => absurd q HN.out⟩⟩, HB1.out⟩
    · have hltz : ¬ (k : Int) < (ks.length : Int) := by omega
      have hkl : k = ks.length := by omega
      subst hkl
      rw [List.take_length] at hn
      have HN := hideK hn
      have HB := hideK hb
      clear hn hb
      go_wp2_with fail
      go_ret
      exact ⟨⟨_, rfl, .inr rfl, ⟨fun _ => by first | exact HN.out | exact any_false HN.out, fun _ => rfl⟩⟩, HB.out⟩
set_option maxRecDepth 100000 in
set_option maxHeartbeats 2000000 in
theorem containsFree_any (n : Nat) (ih : FRSaid n) (x : ByteArray) (ks : List Ty) (ak : Option Addr) (ck d B nb : Nat) (w : World) (hs : ∀ k ∈ ks, sizeT k ≤ n) (hkt : KT w B d ks ak) (hB : B ≤ w.heap.size) (hw : ∀ k ∈ ks, wfT k) (hl : ks.length ≤ 6) (hp : w.cell? ⟨nb, 0, none⟩ = some (.string x)) :
    Calls Tryd.prog 60 #[.slice ak ks.length ck, .func (.func 61) #[] #[.pointer (some ⟨nb, 0, none⟩)]] w fun e w' => e = .returned (.bool (ks.any (frT x))) ∧ Below w.heap.size w w' := by
  have c := indexFree_any n ih x ks ak ck d B nb w hs hkt hB hw hl hp
  generalize ks.any (frT x) = q at *
  clear hkt hw hs
  go_enter Tryd.func60, Tryd.ntmps60
  go_wp2_with fail
  refine c.mono ?_
  rintro e w1 ⟨⟨z, rfl, hz, hq⟩, hb1⟩
  have HB := hideK hb1
  clear hb1
  cases q with
  | false =>
    obtain rfl : z = -1 := hq.2 rfl
    clear hz hq
    go_wp2_with fail
    go_ret
    exact ⟨rfl, HB.out⟩
  | true =>
    have hz' : decide (z ≥ 0) = true := by
      rcases hz with hz | hz
      · simpa using hz
      · have := hq.1 hz; cases this
    have hz2 : 0 ≤ z := by simpa using hz'
    clear hz hq
    go_wp2_with fail
    go_ret
    exact ⟨by simp, HB.out⟩
set_option maxRecDepth 100000 in
set_option maxHeartbeats 4000000 in
theorem free_step (n : Nat) (ih : FRSaid n) : FRSaid (n + 1) := by
  intro x t al cl ak ck d B w hs hkt hB hw
  obtain ⟨hpt, hwk⟩ := (wfT_eq t).1 hw
  have h6 := part_six _ hpt
  have hA : Below w.heap.size w ((w.alloc (.cells #[.int .i64 t.kind, .int .i64 t.so, .string t.name, .slice al t.labels.length cl, .slice ak t.kids.length ck] 25)).alloc (.cells #[.string x] 9)) := ((Below.refl _ _).alloc (Nat.le_refl _) _).alloc (by simp) _
  have hn0 : ((w.alloc (.cells #[.int .i64 t.kind, .int .i64 t.so, .string t.name, .slice al t.labels.length cl, .slice ak t.kids.length ck] 25)).alloc (.cells #[.string x] 9)).cell? ⟨w.heap.size + 1, 0, none⟩ = some (.string x) := by go_cell
  have c := containsFree_any n ih x t.kids ak ck d B (w.heap.size + 1) _ (fun k hk => by have := sizeT_kid hk; omega) (hkt.keep (hA.mono hB)) (Nat.le_trans hB hA.size) hwk h6 hn0
  have HA := hideK hA
  have hE := nm_beq t.name x
  simp only [tyVal]
  by_cases h9 : t.kind = 9
  · rw [frT_var x t h9]
    clear hkt hw hA hs c hpt hwk hn0
    generalize decide (t.name = x) = q at *
    have H9 := hideK h9
    obtain ⟨kd, so, nm, ls, ks⟩ := t
    simp only at h9 hE h6 HA ⊢
    subst h9
    go_enter Tryd.func36, Tryd.ntmps36
    go_wp2_with fail
    go_ret
    exact ⟨rfl, HA.out⟩
  · have k9 : (t.kind == 9) = false := by simpa using h9
    by_cases h8 : t.kind = 8
    · by_cases hx : t.name = x
      · rw [frT_rec x t ⟨h8, hx⟩]
        rw [decide_eq_true hx] at hE
        clear hkt hw hA hs c hpt hwk hn0 hx h9
        obtain ⟨kd, so, nm, ls, ks⟩ := t
        simp only at h8 hE h6 HA k9 ⊢
        subst h8
        go_enter Tryd.func36, Tryd.ntmps36
        go_wp2_with fail
        go_ret
        exact ⟨rfl, HA.out⟩
      · rw [frT_else x t h9 (fun h => hx h.2)]
        rw [decide_eq_false hx] at hE
        clear hkt hw hA hs hpt hwk hx h9
        generalize t.kids.any (frT x) = q at *
        obtain ⟨kd, so, nm, ls, ks⟩ := t
        simp only at h8 hE h6 HA k9 c hn0 ⊢
        subst h8
        go_enter Tryd.func36, Tryd.ntmps36
        go_wp2_with fail
        refine c.mono ?_
        rintro e w1 ⟨rfl, hb1⟩
        have HB := hideK (HA.out.trans (hb1.mono HA.out.size))
        clear c hb1 hn0
        go_wp2_with fail
        go_ret
        exact ⟨rfl, HB.out⟩
    · have k8 : (t.kind != 8) = true := by simpa using h8
      rw [frT_else x t h9 (fun h => h8 h.1)]
      clear hkt hw hA hs hpt hwk h9 h8 hE
      generalize t.kids.any (frT x) = q at *
      obtain ⟨kd, so, nm, ls, ks⟩ := t
      simp only at h6 HA k9 k8 c hn0 ⊢
      go_enter Tryd.func36, Tryd.ntmps36
      go_wp2_with fail
      refine c.mono ?_
      rintro e w1 ⟨rfl, hb1⟩
      have HB := hideK (HA.out.trans (hb1.mono HA.out.size))
      clear c hb1 hn0
      go_wp2_with fail
      go_ret
      exact ⟨rfl, HB.out⟩
theorem free_any : ∀ n, FRSaid n
  | 0 => fun x t al cl ak ck d B w hs _ _ _ => by have := sizeT_eq t; omega
  | n + 1 => free_step n (free_any n)
end Go.Proofs.YtoieacgojkgjgaaDoor
/-
  The contract of duetkeep.put: a type in the place of a name.
-/
namespace Go.Proofs.YtoieacgojkgjgaaDoor
open Go.RowKit Go.Shelf

/-- names in blocks of which P holds -/
def LP (W : World) (P : Nat → Prop) (ls : List ByteArray) (al : Option Addr) : Prop :=
  ls = [] ∨ ∃ b o, al = some ⟨b, o, none⟩ ∧ P b ∧ ∀ i (h : i < ls.length), W.cell? ⟨b, o + i, none⟩ = some (.string ls[i])
/-- types, of so many levels at most, in blocks of which P holds -/
def KP (W : World) (P : Nat → Prop) : Nat → List Ty → Option Addr → Prop
  | 0, ks, _ => ks = []
  | d + 1, ks, ak => ks = [] ∨ ∃ b o, ak = some ⟨b, o, none⟩ ∧ P b ∧ ∀ i (h : i < ks.length), ∃ al cl ak' ck', TyAt W b (o + i * 5) ks[i] al cl ak' ck' ∧ TyBd ks[i] cl ck' ∧ LP W P ks[i].labels al ∧ KP W P d ks[i].kids ak'
theorem LP.keep {W W' : World} {P Q : Nat → Prop} (hb : ∀ b o, P b → W'.cell? ⟨b, o, none⟩ = W.cell? ⟨b, o, none⟩) (hq : ∀ b, P b → Q b) {ls : List ByteArray} {al : Option Addr} (h : LP W P ls al) : LP W' Q ls al :=
  h.imp id fun ⟨b, o, e, hp, hc⟩ => ⟨b, o, e, hq b hp, fun i hi => (hb b _ hp).trans (hc i hi)⟩
theorem KP.keep {W W' : World} {P Q : Nat → Prop} (hb : ∀ b o, P b → W'.cell? ⟨b, o, none⟩ = W.cell? ⟨b, o, none⟩) (hq : ∀ b, P b → Q b) : ∀ {d : Nat} {ks : List Ty} {ak : Option Addr}, KP W P d ks ak → KP W' Q d ks ak
  | 0, _, _, h => h
  | d + 1, ks, ak, h => by
    rcases h with h | ⟨b, o, h1, h2, h3⟩
    · exact .inl h
    · refine .inr ⟨b, o, h1, hq b h2, fun i hi => ?_⟩
      obtain ⟨al, cl, ak', ck', e, f, g, k⟩ := h3 i hi
      exact ⟨al, cl, ak', ck', ⟨(hb b _ h2).trans e.c0, (hb b _ h2).trans e.c1, (hb b _ h2).trans e.c2, (hb b _ h2).trans e.c3, (hb b _ h2).trans e.c4⟩, f, LP.keep hb hq g, KP.keep hb hq k⟩
theorem KP.up {W : World} {P : Nat → Prop} : ∀ {d e : Nat} {ks : List Ty} {ak : Option Addr}, d ≤ e → KP W P d ks ak → KP W P e ks ak
  | 0, 0, _, _, _, h => h
  | 0, e + 1, _, _, _, h => .inl h
  | d + 1, 0, _, _, hd, _ => by omega
  | d + 1, e + 1, ks, ak, hd, h => by
    rcases h with h | ⟨b, o, h1, hl, h⟩
    · exact .inl h
    · exact .inr ⟨b, o, h1, hl, fun i hi => by
        obtain ⟨al, cl, ak', ck', h1, h2, h3, h4⟩ := h i hi
        exact ⟨al, cl, ak', ck', h1, h2, h3, KP.up (by omega) h4⟩⟩
theorem LP.la {W : World} {P : Nat → Prop} {B : Nat} (hq : ∀ b, P b → b < B) {ls : List ByteArray} {al : Option Addr} (h : LP W P ls al) : LA W B ls al := by
  rcases h with rfl | ⟨b, o, e, hp, hc⟩
  · exact .inl rfl
  · exact .inr ⟨b, o, e, hq b hp, fun i hi => by rw [List.length_map] at hi; rw [List.getElem_map]; exact hc i hi⟩
theorem KP.kt {W : World} {P : Nat → Prop} {B : Nat} (hq : ∀ b, P b → b < B) : ∀ {d : Nat} {ks : List Ty} {ak : Option Addr}, KP W P d ks ak → KT W B d ks ak
  | 0, _, _, h => h
  | d + 1, ks, ak, h => by
    rcases h with h | ⟨b, o, h1, h2, h3⟩
    · exact .inl h
    · refine .inr ⟨b, o, h1, hq b h2, fun i hi => ?_⟩
      obtain ⟨al, cl, ak', ck', e, f, g, k⟩ := h3 i hi
      exact ⟨al, cl, ak', ck', e, f, g.la hq, KP.kt hq k⟩
theorem lp_of {W : World} {B : Nat} {P : Nat → Prop} (hq : ∀ b, b < B → P b) {ls : List ByteArray} {al : Option Addr} (h : LA W B ls al) : LP W P ls al := by
  rcases h with h | ⟨b, o, e, hl, hc⟩
  · exact .inl (by simpa using h)
  · exact .inr ⟨b, o, e, hq b hl, fun i hi => by have := hc i (by simpa using hi); rw [List.getElem_map] at this; exact this⟩
theorem kp_of {W : World} {B : Nat} {P : Nat → Prop} (hq : ∀ b, b < B → P b) : ∀ {d : Nat} {ks : List Ty} {ak : Option Addr}, KT W B d ks ak → KP W P d ks ak
  | 0, _, _, h => h
  | d + 1, ks, ak, h => by
    rcases h with h | ⟨b, o, h1, h2, h3⟩
    · exact .inl h
    · refine .inr ⟨b, o, h1, hq b h2, fun i hi => ?_⟩
      obtain ⟨al, cl, ak', ck', e, f, g, k⟩ := h3 i hi
      exact ⟨al, cl, ak', ck', e, f, lp_of hq g, kp_of hq k⟩
/-- types as they lie in a row -/
abbrev TTk := Ty × (Option Addr × Nat) × (Option Addr × Nat)
def tC (t : TTk) : List Value := [.int .i64 t.1.kind, .int .i64 t.1.so, .string t.1.name, .slice t.2.1.1 t.1.labels.length t.2.1.2, .slice t.2.2.1 t.1.kids.length t.2.2.2]
def tCs (ts : List TTk) : List Value := ts.flatMap tC
theorem tCs_snoc (ts : List TTk) (x : TTk) : tCs (ts ++ [x]) = tCs ts ++ tC x := by simp [tCs]
theorem tC_one (t : TTk) : ∀ y ∈ tC t, y.oneCell' = true := by
  intro y hy
  simp only [tC, List.mem_cons, List.not_mem_nil, or_false] at hy
  rcases hy with rfl | rfl | rfl | rfl | rfl <;> rfl
theorem tCs_at : ∀ (ss : List TTk) (i : Nat) (h : i < ss.length) (j : Nat), j < 5 → (tCs ss)[i * 5 + j]? = (tC ss[i])[j]?
  | [], i, h, _, _ => by simp at h
  | s :: ss, 0, _, j, hj => by
    have e : tCs (s :: ss) = tC s ++ tCs ss := rfl
    rw [e, List.getElem?_append_left (by simp [tC]; omega)]
    simp
  | s :: ss, i + 1, h, j, hj => by
    have e : tCs (s :: ss) = tC s ++ tCs ss := rfl
    have hl : (tC s).length = 5 := rfl
    rw [e, List.getElem?_append_right (by rw [hl]; omega), hl, show (i + 1) * 5 + j - 5 = i * 5 + j by omega]
    exact tCs_at ss i (by simpa using h) j hj
def TOK (W : World) (P : Nat → Prop) (ts : List TTk) : Prop := ∀ q ∈ ts, TyBd q.1 q.2.1.2 q.2.2.2 ∧ LP W P q.1.labels q.2.1.1 ∧ ∃ d, KP W P d q.1.kids q.2.2.1
theorem TOK.keep {W W' : World} {P Q : Nat → Prop} {ts : List TTk} (h : TOK W P ts) (hb : ∀ b o, P b → W'.cell? ⟨b, o, none⟩ = W.cell? ⟨b, o, none⟩) (hq : ∀ b, P b → Q b) : TOK W' Q ts :=
  fun q hm => ⟨(h q hm).1, (h q hm).2.1.keep hb hq, by obtain ⟨d, hd⟩ := (h q hm).2.2; exact ⟨d, hd.keep hb hq⟩⟩
theorem tok_depth {W : World} {P : Nat → Prop} : ∀ {ts : List TTk}, TOK W P ts → ∃ D, ∀ q ∈ ts, KP W P D q.1.kids q.2.2.1
  | [], _ => ⟨0, fun q hq => by cases hq⟩
  | x :: ts, h => by
    obtain ⟨D, hD⟩ := tok_depth (ts := ts) fun q hq => h q (.tail _ hq)
    obtain ⟨d, hd⟩ := (h x (.head _)).2.2
    exact ⟨D + d, fun q hq => by
      rcases List.mem_cons.1 hq with rfl | hq
      · exact hd.up (by omega)
      · exact (hD q hq).up (by omega)⟩
theorem kp_row {W : World} {base n : Nat} {v : Value} {ts : List TTk} {P : Nat → Prop} (ho : W.ownsRow base 25 5 v n (tCs ts)) (hn : ts.length = n) (ht : TOK W P ts) (hv : ∀ b, v.ownBlock = some b → P b) : ∃ ak ck d, v = .slice ak n ck ∧ n ≤ ck ∧ ck ≤ 9223372036854775807 ∧ KP W P d (ts.map fun q => q.1) ak := by
  obtain ⟨D, hD⟩ := tok_depth ht
  rcases ho.2 with ⟨rfl, h0⟩ | ⟨g, cap, cur, rfl, _, hc, h1, h2, _, _⟩
  · have : ts = [] := List.eq_nil_of_length_eq_zero (by omega)
    subst this
    exact ⟨none, 0, 0, by rw [h0], by omega, by omega, rfl⟩
  · unfold maxLen at h2
    obtain ⟨g', c', e, _, _, hcell⟩ := (own_cells ho).resolve_left (fun q => by cases q.1)
    injection e with e1 _ e3
    injection e1 with e1
    injection e1 with e1
    subst e1 e3
    refine ⟨_, cap, D + 1, rfl, h1, by omega, .inr ⟨g, 0, rfl, hv g rfl, fun i hi => ?_⟩⟩
    have hi' : i < ts.length := by simpa using hi
    have ge : (ts.map fun q => q.1)[i] = ts[i].1 := by simp
    rw [ge]
    have hm := List.getElem_mem hi'
    have hcl : ∀ j y, j < 5 → (tC ts[i])[j]? = some y → W.cell? ⟨g, 0 + i * 5 + j, none⟩ = some y := fun j y hj hy => by
      rw [Nat.zero_add]
      exact hcell _ _ ((tCs_at ts i hi' j hj).trans hy)
    exact ⟨ts[i].2.1.1, ts[i].2.1.2, ts[i].2.2.1, ts[i].2.2.2, ⟨hcl 0 _ (by omega) rfl, hcl 1 _ (by omega) rfl, hcl 2 _ (by omega) rfl, hcl 3 _ (by omega) rfl, hcl 4 _ (by omega) rfl⟩, (ht _ hm).1, (ht _ hm).2.1, hD _ hm⟩
theorem infoTy : (Tryd.prog.info? 25).map (fun i => (i.zero, i.size, i.bytes)) = some (some (.agg #[.int .i64 0, .int .i64 0, .string ⟨#[]⟩, .slice none 0 0, .slice none 0 0]), 5, 80) := by kernel_rfl
/-- what put answers -/
def PTPost (x c : ByteArray) (s t : Ty) (B : Nat) (w : World) (e : Ending) (w' : World) : Prop :=
  ((capT x c t = true ∧ ∃ t9 al cl ak ck, e = .returned (.tuple #[tyVal t9 al cl ak ck, .bool false])) ∨ (capT x c t = false ∧ ∃ al cl ak ck d, e = .returned (.tuple #[tyVal (putT x s t) al cl ak ck, .bool true]) ∧ TyBd (putT x s t) cl ck ∧ LP w' (fun b => b < B ∨ (w.heap.size ≤ b ∧ b < w'.heap.size)) (putT x s t).labels al ∧ KP w' (fun b => b < B ∨ (w.heap.size ≤ b ∧ b < w'.heap.size)) d (putT x s t).kids ak)) ∧ Below w.heap.size w w'
def PTSaid (N : Nat) : Prop := ∀ (x c : ByteArray) (s t : Ty) (al : Option Addr) (cl : Nat) (ak : Option Addr) (ck d : Nat) (sal : Option Addr) (scl : Nat) (sak : Option Addr) (sck ds B : Nat) (w : World), sizeT t ≤ N → TyBd t cl ck → LA w B t.labels al → KT w B d t.kids ak → TyBd s scl sck → LA w B s.labels sal → KT w B ds s.kids sak → B ≤ w.heap.size → wfT t →
  Calls Tryd.prog 17 #[tyVal t al cl ak ck, .string x, tyVal s sal scl sak sck, .string c] w (PTPost x c s t B w)
/-- the boxes of put: both types, the result, and what is made -/
structure PX (w : World) (t : Ty) (al : Option Addr) (cl : Nat) (ak : Option Addr) (ck : Nat) (s : Ty) (sal : Option Addr) (scl : Nat) (sak : Option Addr) (sck : Nat) (bo : Nat) (u : Value) (W : World) : Prop where
  x : TyAt W w.heap.size 0 t al cl ak ck
  y : TyAt W (w.heap.size + 1) 0 s sal scl sak sck
  z : ∀ j, j < 5 → (∃ v, W.cell? ⟨w.heap.size + 1 + 1, j, none⟩ = some v) ∧ W.frozen? ⟨w.heap.size + 1 + 1, j, none⟩ = false
  o0 : W.cell? ⟨bo, 0, none⟩ = some (.int .i64 t.kind)
  o1 : W.cell? ⟨bo, 1, none⟩ = some (.int .i64 t.so)
  o2 : W.cell? ⟨bo, 2, none⟩ = some (.string t.name)
  o3 : W.cell? ⟨bo, 3, none⟩ = some (.slice al t.labels.length cl)
  o4 : W.cell? ⟨bo, 4, none⟩ = some u
  fo : W.frozen? ⟨bo, 4, none⟩ = false
  lo : w.heap.size + 1 + 1 < bo
  lt : bo < W.heap.size
  bl : Below w.heap.size w W
theorem PX.keep {w : World} {t : Ty} {al : Option Addr} {cl : Nat} {ak : Option Addr} {ck : Nat} {s : Ty} {sal : Option Addr} {scl : Nat} {sak : Option Addr} {sck : Nat} {bo : Nat} {u : Value} {W W' : World} (h : PX w t al cl ak ck s sal scl sak sck bo u W) (hb : Below W.heap.size W W') : PX w t al cl ak ck s sal scl sak sck bo u W' := by
  have h1 := h.lo
  have h2 := h.lt
  have hc : ∀ b o, b ≤ bo → W'.cell? ⟨b, o, none⟩ = W.cell? ⟨b, o, none⟩ := fun b o hb' => hb.cell (p := ⟨b, o, none⟩) (by show b < _; omega)
  have hf : ∀ b o, b ≤ bo → W'.frozen? ⟨b, o, none⟩ = W.frozen? ⟨b, o, none⟩ := fun b o hb' => hb.frozen (p := ⟨b, o, none⟩) (by show b < _; omega)
  exact ⟨h.x.keep hb (by omega), h.y.keep hb (by omega), fun j hj => ⟨by obtain ⟨v, hv⟩ := (h.z j hj).1; exact ⟨v, (hc _ _ (by omega)).trans hv⟩, (hf _ _ (by omega)).trans (h.z j hj).2⟩, (hc _ _ (by omega)).trans h.o0, (hc _ _ (by omega)).trans h.o1, (hc _ _ (by omega)).trans h.o2, (hc _ _ (by omega)).trans h.o3, (hc _ _ (by omega)).trans h.o4, (hf _ _ (by omega)).trans h.fo, h1, Nat.lt_of_lt_of_le h2 hb.size, h.bl.trans (hb.mono h.bl.size)⟩
theorem PX.put {w : World} {t : Ty} {al : Option Addr} {cl : Nat} {ak : Option Addr} {ck : Nat} {s : Ty} {sal : Option Addr} {scl : Nat} {sak : Option Addr} {sck : Nat} {bo : Nat} {u v : Value} {W W' : World} (h : PX w t al cl ak ck s sal scl sak sck bo u W) (hg : W.grownBy W' u.ownBlock) (hu : ∀ b, u.ownBlock = some b → bo < b) : PX w t al cl ak ck s sal scl sak sck bo v (W'.setCell ⟨bo, 4, none⟩ v) := by
  have h1 := h.lo
  have h2 := h.lt
  have hk : ∀ b, b ≤ bo → W'.heap[b]? = W.heap[b]? := fun b hb => hg.block b (by omega) (fun e => by have := hu b e.symm; omega)
  have hc : ∀ b o, b ≤ bo → W'.cell? ⟨b, o, none⟩ = W.cell? ⟨b, o, none⟩ := fun b o hb => World.cell?_of_block (a := ⟨b, o, none⟩) (hk b hb)
  have hf : ∀ b o, b ≤ bo → (W'.setCell ⟨bo, 4, none⟩ v).frozen? ⟨b, o, none⟩ = W.frozen? ⟨b, o, none⟩ := fun b o hb => (World.frozen?_setCell _ _ _ _).trans (World.frozen?_of_block (a := ⟨b, o, none⟩) (hk b hb))
  have hs : ∀ b o, b ≤ bo → (b ≠ bo ∨ o ≠ 4) → (W'.setCell ⟨bo, 4, none⟩ v).cell? ⟨b, o, none⟩ = W.cell? ⟨b, o, none⟩ := fun b o hb hn => (World.cell?_setCell_other _ _ _ _ (by intro e; injection e with e1 e2; rcases hn with q | q; exact q e1.symm; exact q e2.symm)).trans (hc b o hb)
  have hsT : ∀ b, b < bo → ∀ {q : Ty} {a1 c1 a2 c2}, TyAt W b 0 q a1 c1 a2 c2 → TyAt (W'.setCell ⟨bo, 4, none⟩ v) b 0 q a1 c1 a2 c2 := fun b hb _ _ _ _ _ e => ⟨(hs b _ (by omega) (.inl (by omega))).trans e.c0, (hs b _ (by omega) (.inl (by omega))).trans e.c1, (hs b _ (by omega) (.inl (by omega))).trans e.c2, (hs b _ (by omega) (.inl (by omega))).trans e.c3, (hs b _ (by omega) (.inl (by omega))).trans e.c4⟩
  have hsz := hg.size
  refine ⟨hsT _ (by omega) h.x, hsT _ (by omega) h.y, fun j hj => ⟨by obtain ⟨v, hv⟩ := (h.z j hj).1; exact ⟨v, (hs _ _ (by omega) (.inl (by omega))).trans hv⟩, (hf _ _ (by omega)).trans (h.z j hj).2⟩, (hs _ _ (by omega) (.inr (by omega))).trans h.o0, (hs _ _ (by omega) (.inr (by omega))).trans h.o1, (hs _ _ (by omega) (.inr (by omega))).trans h.o2, (hs _ _ (by omega) (.inr (by omega))).trans h.o3, World.cell?_setCell_same _ _ _ ((hc _ _ (by omega)).trans h.o4), (hf _ _ (by omega)).trans h.fo, h1, by simp; omega, ?_⟩
  refine ⟨hg.os.trans h.bl.os, hg.tape.trans h.bl.tape, hg.output.trans h.bl.output, by simp; have := h.bl.size; omega, fun b hb => ?_⟩
  rw [Below.heap_setCell _ _ _ b (fun e => by have e : b = bo := e; omega), hk b (by omega)]
  exact h.bl.block b hb
/-- the store of what is handed back -/
theorem px_st {w : World} {t : Ty} {al : Option Addr} {cl : Nat} {ak : Option Addr} {ck : Nat} {s : Ty} {sal : Option Addr} {scl : Nat} {sak : Option Addr} {sck : Nat} {bo : Nat} {u : Value} {W : World} (h : PX w t al cl ak ck s sal scl sak sck bo u W) (q : Ty) (a1 : Option Addr) (c1 : Nat) (a2 : Option Addr) (c2 : Nat) :
    TyAt (st5 W (w.heap.size + 1 + 1) 0 (.int .i64 q.kind) (.int .i64 q.so) (.string q.name) (.slice a1 q.labels.length c1) (.slice a2 q.kids.length c2)) (w.heap.size + 1 + 1) 0 q a1 c1 a2 c2 ∧ Below w.heap.size w (st5 W (w.heap.size + 1 + 1) 0 (.int .i64 q.kind) (.int .i64 q.so) (.string q.name) (.slice a1 q.labels.length c1) (.slice a2 q.kids.length c2)) :=
  ⟨st5_at W _ 0 q a1 c1 a2 c2 (fun j hj => by rw [Nat.zero_add]; exact (h.z j hj).1), st5_below _ 0 _ _ _ _ _ h.bl (by omega)⟩
end Go.Proofs.YtoieacgojkgjgaaDoor
