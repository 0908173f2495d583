/-
  Events that are handed in, with their bounds.
-/
import Derived.Test.YtefdekfgmbgbbaaGreatDoorMo
import Derived.Test.YtefdekfgmbgbbaaGreatDoorEo
import Derived.Test.YtefdekfgmbgbbaaGreatDoorWir
namespace Go.Proofs.YtefdekfgmbgbbaaGreatDoor
open Go.RowKit Go.Deep Go.Joins Go.ChangeShapes Go.WideShapes

section
variable {H : Type} {enc : TypeId × Value → H} {W : World} {base : Nat} {spare : Nat → Bool} {held : Bool}
set_option maxRecDepth 100000 in
theorem openEventB (fuel : Nat) (cs : List Value) (y : DataW H × List MemPlace) (h : DataW.trod enc Tryz.prog W base spare held fuel 33 cs = some y) :
    ∃ (x : Ev) (al : Option Addr) (cl : Nat) (ak : Option Addr) (ck d : Nat), cs = [.int .i64 x.kind, .int .i64 x.so, .int .i64 x.n, .string x.s, .int .i64 x.carry.kind, .int .i64 x.carry.so, .string x.carry.name, .slice al x.carry.labels.length cl, .slice ak x.carry.kids.length ck, .string x.label] ∧ x.s.size ≤ 9223372036854775807 ∧ TyBd x.carry cl ck ∧ LA W W.heap.size x.carry.labels al ∧ KT W W.heap.size d x.carry.kids ak ∧ (-9223372036854775808 ≤ x.n ∧ x.n ≤ 9223372036854775807) ∧ x.label.size ≤ 9223372036854775807 := by
  obtain ⟨xs, n, rfl, hy, hlen, hxs, hf⟩ := DataW.trod_struct Tryz.underlying33 h
  have h0 : DataW.trod enc Tryz.prog W base spare held n 3 (List.take 1 (List.drop 0 cs)) = xs[0]? := hf 0 _ rfl
  have h1 : DataW.trod enc Tryz.prog W base spare held n 27 (List.take 3 (List.drop 1 cs)) = xs[1]? := hf 1 _ rfl
  have h2 : DataW.trod enc Tryz.prog W base spare held n 31 (List.take 5 (List.drop 4 cs)) = xs[2]? := hf 2 _ rfl
  have h3 : DataW.trod enc Tryz.prog W base spare held n 9 (List.take 1 (List.drop 9 cs)) = xs[3]? := hf 3 _ rfl
  clear hf hy
  rw [cellsEv] at hlen
  match cs, hlen with
  | [a0, a1, a2, a3, a4, a5, a6, a7, a8, a9], _ =>
  match xs, hxs with
  | [x0, x1, x2, x3], _ =>
  simp at h0 h1 h2 h3
  obtain ⟨kd, e0, _, _⟩ := DataW.trod_int Tryz.underlying3 h0
  obtain ⟨lb, e9, _, wl⟩ := DataW.trod_string Tryz.underlying9 h3
  obtain ⟨ys, m, rfl, _, _, hys, hg⟩ := DataW.trod_struct Tryz.underlying27 h1
  have g0 : DataW.trod enc Tryz.prog W base spare held m 3 (List.take 1 (List.drop 0 [a1, a2, a3])) = ys[0]? := hg 0 _ rfl
  have g1 : DataW.trod enc Tryz.prog W base spare held m 2 (List.take 1 (List.drop 1 [a1, a2, a3])) = ys[1]? := hg 1 _ rfl
  have g2 : DataW.trod enc Tryz.prog W base spare held m 9 (List.take 1 (List.drop 2 [a1, a2, a3])) = ys[2]? := hg 2 _ rfl
  match ys, hys with
  | [y0, y1, y2], _ =>
  simp at g0 g1 g2
  obtain ⟨so, e1, _, _⟩ := DataW.trod_int Tryz.underlying3 g0
  obtain ⟨nn, e2, _, wn⟩ := DataW.trod_int Tryz.underlying2 g1
  obtain ⟨s, e3, _, ws⟩ := DataW.trod_string Tryz.underlying9 g2
  obtain ⟨t, al, cl, ak, ck, et, b1, b2, b3⟩ := openCellsT _ _ _ h2
  simp at e0 e1 e2 e3 e9 et
  obtain ⟨e4, e5, e6, e7, e8⟩ := et
  subst e0 e1 e2 e3 e9 e4 e5 e6 e7 e8
  unfold maxLen at ws wl
  exact ⟨⟨kd, so, nn, s, t, lb⟩, al, cl, ak, ck, _, rfl, ws, b1, b2, b3, by have q := bounds_i64 wn; exact ⟨by simpa using q.1, by simpa using q.2⟩, wl⟩
set_option maxRecDepth 100000 in
/-- events that are handed in -/
theorem openEventsB {r : Reach} {b0 : Nat} {v : Value} {d : DataW H} {p : List MemPlace} (hv : Value.okWide Tryz.prog W r b0 22 v) (h : DataW.Trod enc Tryz.prog W base spare held 22 v d p) :
    ∃ (evs : List Ev) (ae : Option Addr) (ce : Nat), v = .slice ae evs.length ce ∧ evs.length ≤ 9223372036854775807 ∧ EVS W W.heap.size evs ae ∧ ∀ x ∈ evs, (-9223372036854775808 ≤ x.n ∧ x.n ≤ 9223372036854775807) ∧ x.label.size ≤ 9223372036854775807 := by
  obtain ⟨a0, len, cap, rfl⟩ := okWide_slice Tryz.underlying22 hv
  obtain ⟨fuel, hf⟩ := h
  rcases DataW.trod_slice Tryz.underlying22 hf with ⟨e5, _⟩ | ⟨a, len', cap', elems, rest, k, hk, e5, hx, hb, hlc, hcm, hle, hel, _, _⟩
  · simp [Value.cells] at e5
    obtain ⟨rfl, rfl, rfl⟩ := e5
    exact ⟨[], none, 0, rfl, by simp, .inl rfl, fun x hx => by cases hx⟩
  · simp [Value.cells] at e5
    obtain ⟨rfl, rfl, rfl⟩ := e5
    rw [cellsEv] at hel
    unfold maxLen at hcm
    have hall : ∀ i, i < len → ∃ p : Ev × Option Addr × Nat × Option Addr × Nat × Nat, W.cells? base (a.add (i * 10)) 10 = some [.int .i64 p.1.kind, .int .i64 p.1.so, .int .i64 p.1.n, .string p.1.s, .int .i64 p.1.carry.kind, .int .i64 p.1.carry.so, .string p.1.carry.name, .slice p.2.1 p.1.carry.labels.length p.2.2.1, .slice p.2.2.2.1 p.1.carry.kids.length p.2.2.2.2.1, .string p.1.label] ∧ p.1.s.size ≤ 9223372036854775807 ∧ TyBd p.1.carry p.2.2.1 p.2.2.2.2.1 ∧ LA W W.heap.size p.1.carry.labels p.2.1 ∧ KT W W.heap.size p.2.2.2.2.2 p.1.carry.kids p.2.2.2.1 ∧ (-9223372036854775808 ≤ p.1.n ∧ p.1.n ≤ 9223372036854775807) ∧ p.1.label.size ≤ 9223372036854775807 := by
      intro i hi
      have q := hel i hi
      rw [List.getElem?_eq_getElem (by omega)] at q
      obtain ⟨cs', q1, q2⟩ := Option.bind_eq_some_iff.1 q
      obtain ⟨x, al, cl, ak, ck, d, rfl, h1, h2, h3, h4, h5⟩ := openEventB k cs' _ q2
      exact ⟨(x, al, cl, ak, ck, d), q1, h1, h2, h3, h4, h5⟩
    haveI : Inhabited (Ev × Option Addr × Nat × Option Addr × Nat × Nat) := ⟨(⟨0, 0, 0, ⟨#[]⟩, ⟨0, 0, ⟨#[]⟩, [], []⟩, ⟨#[]⟩⟩, none, 0, none, 0, 0)⟩
    obtain ⟨f, hf⟩ := choose_lt hall
    refine ⟨(List.range len).map fun i => (f i).1, some a, cap, by simp, by simp; omega, ?_, fun x hx => by
      obtain ⟨i, hi, rfl⟩ := List.mem_map.1 hx
      exact (hf i (List.mem_range.1 hi)).2.2.2.2.2⟩
    by_cases hl0 : len = 0
    · exact .inl (by simp [hl0])
    · obtain ⟨q1, _⟩ := hf 0 (by omega)
      have q2 := (World.cells?_some q1).2.2 0 (by omega)
      obtain ⟨b, o, spot⟩ := a
      have hsp : spot = none := by simpa [Addr.add] using World.cell?_spot q2
      subst hsp
      have hcell : ∀ i j, i < len → j < 10 → W.cell? ⟨b, o + i * 10 + j, none⟩ = [Value.int .i64 (f i).1.kind, .int .i64 (f i).1.so, .int .i64 (f i).1.n, .string (f i).1.s, .int .i64 (f i).1.carry.kind, .int .i64 (f i).1.carry.so, .string (f i).1.carry.name, .slice (f i).2.1 (f i).1.carry.labels.length (f i).2.2.1, .slice (f i).2.2.2.1 (f i).1.carry.kids.length (f i).2.2.2.2.1, .string (f i).1.label][j]? := by
        intro i j hi hj
        obtain ⟨q1, _⟩ := hf i hi
        have := (World.cells?_some q1).2.2 j hj
        rw [add_add, Go.WideShapes.add_plain] at this
        rw [Nat.add_assoc]; exact this
      refine .inr ⟨b, o, rfl, lt_of_cell ((hcell 0 0 (by omega) (by omega)).trans rfl), fun i hi => ?_⟩
      have hi' : i < len := by simpa using hi
      have e : ((List.range len).map fun i => (f i).1)[i] = (f i).1 := by simp
      simp only [e]
      obtain ⟨_, h1, h2, h3, h4, _⟩ := hf i hi'
      exact ⟨(f i).2.1, (f i).2.2.1, (f i).2.2.2.1, (f i).2.2.2.2.1, (f i).2.2.2.2.2, ⟨(hcell i 0 hi' (by omega)).trans rfl, (hcell i 1 hi' (by omega)).trans rfl, (hcell i 2 hi' (by omega)).trans rfl, (hcell i 3 hi' (by omega)).trans rfl, (hcell i 4 hi' (by omega)).trans rfl, (hcell i 5 hi' (by omega)).trans rfl, (hcell i 6 hi' (by omega)).trans rfl, (hcell i 7 hi' (by omega)).trans rfl, (hcell i 8 hi' (by omega)).trans rfl, (hcell i 9 hi' (by omega)).trans rfl⟩, h1, h2, h3, h4⟩
end
end Go.Proofs.YtefdekfgmbgbbaaGreatDoor
/-
  The contract of wires.Write, for every list of events.
-/
namespace Go.Proofs.YtefdekfgmbgbbaaGreatDoor
open Go.RowKit Go.Shelf

section
variable (V : ByteArray → Bool)
/-- what is told of events: the first one's error -/
def weL : List Ev → Int
  | [] => 0
  | x :: r => if weZ V x = 0 then weL r else weZ V x
theorem weL_all (xs : List Ev) : weL V xs = 0 ↔ ∀ x ∈ xs, weZ V x = 0 := by
  induction xs with
  | nil => simp [weL]
  | cons x r ih =>
    unfold weL
    by_cases h : weZ V x = 0
    · rw [if_pos h, ih]; simp [h]
    · rw [if_neg h]; simp [h]
theorem weL_at (xs : List Ev) : ∀ (k : Nat) (hk : k < xs.length), (∀ j (hj : j < xs.length), j < k → weZ V xs[j] = 0) → weZ V xs[k] ≠ 0 → weL V xs = weZ V xs[k] := by
  induction xs with
  | nil => intro k hk; simp at hk
  | cons x r ih =>
    intro k hk h hb
    unfold weL
    cases k with
    | zero => exact if_neg hb
    | succ k =>
      have h0 : weZ V x = 0 := h 0 (by simp) (by omega)
      rw [if_pos h0]
      exact ih k (by simpa using hk) (fun j hj hjk => h (j + 1) (by simpa using hj) (by omega)) hb
def wwZ (xs : List Ev) : Int := if 200 < xs.length then 2 else weL V xs
def wwS (xs : List Ev) : ByteArray := if wwZ V xs = 0 then bs (wrL xs) else ⟨#[]⟩
theorem tx_len (s : List UInt8) : (txW s).length ≤ 10 + s.length := by
  unfold txW vN
  rw [List.length_append]
  have := vN_len 9 s.length
  omega
theorem wrE_len {x : Ev} (h : weZ V x = 0) : (wrE x).length ≤ 2100 := by
  obtain ⟨kd, so, n, s, t, lb⟩ := x
  unfold weZ at h
  unfold wrE
  simp only at h ⊢
  rw [List.length_cons]
  by_cases h1 : kd = 2 ∨ kd = 3
  · rw [if_pos h1] at h ⊢
    unfold wrV
    rw [List.length_cons]
    rcases chk_ways V h with ⟨rfl, _⟩ | ⟨rfl, _, _⟩ | ⟨rfl, _, h3, _⟩
    · rw [if_pos rfl]; have := vN_len 9 (unS n); unfold vN; omega
    · rw [if_neg (by omega), if_pos rfl, List.length_singleton]; omega
    · rw [if_neg (by omega), if_neg (by omega), if_pos rfl]
      have := tx_len s.data.toList
      have e : s.data.toList.length = s.size := by simp
      omega
  rw [if_neg h1] at h ⊢
  by_cases h2 : kd = 4 ∨ kd = 5
  · rw [if_pos h2] at h ⊢
    obtain ⟨hw, hs⟩ := chkTy_good t h
    have := wrT_short t hw
    have := tx_len (wrT t)
    omega
  rw [if_neg h2] at h ⊢
  by_cases h3 : kd = 6 ∨ kd = 7
  · rw [if_pos h3] at h ⊢
    have hc2 : isNm lb.data.toList = true := by
      cases hq : isNm lb.data.toList
      · rw [hq] at h; simp at h
      · rfl
    have := nm_len _ hc2
    have := tx_len lb.data.toList
    omega
  rw [if_neg h3]
  simp
theorem wrL_len (xs : List Ev) : ∀ k, (∀ j (hj : j < xs.length), j < k → weZ V xs[j] = 0) → (wrL (xs.take k)).length ≤ 2100 * k := by
  intro k
  induction k with
  | zero => intro _; simp [wrL]
  | succ k ih =>
    intro h
    have h1 := ih (fun j hj hjk => h j hj (by omega))
    by_cases hk : k < xs.length
    · rw [List.take_succ_eq_append_getElem hk]
      unfold wrL at h1 ⊢
      rw [List.flatMap_append, List.length_append]
      have h2 := wrE_len V (h k hk (by omega))
      simp only [List.flatMap_cons, List.flatMap_nil, List.append_nil]
      omega
    · rw [List.take_of_length_le (by omega)] at h1 ⊢
      omega
theorem wrL_succ (xs : List Ev) (k : Nat) (hk : k < xs.length) : wrL (xs.take (k + 1)) = wrL (xs.take k) ++ wrE xs[k] := by
  rw [List.take_succ_eq_append_getElem hk]
  unfold wrL
  rw [List.flatMap_append]
  simp only [List.flatMap_cons, List.flatMap_nil, List.append_nil]
end
section
variable {V : ByteArray → Bool} {Tabs : World → Prop} {B0 : Nat}
set_option maxRecDepth 100000 in
set_option maxHeartbeats 8000000 in
theorem wwrite_any (hV : VSaid V Tabs) (hK : ∀ w w', Tabs w → Below B0 w w' → Tabs w') (evs : List Ev) (ae : Option Addr) (ce : Nat) (w : World) (hT : Tabs w) (hB : B0 ≤ w.heap.size) (hev : EVS w w.heap.size evs ae) (hbd : ∀ x ∈ evs, (-9223372036854775808 ≤ x.n ∧ x.n ≤ 9223372036854775807) ∧ x.label.size ≤ 9223372036854775807) (hlen : evs.length ≤ 9223372036854775807) :
    Calls Tryz.prog 5 #[.slice ae evs.length ce] w fun e w' => e = .returned (.tuple #[.string (wwS V evs), .int .i64 (wwZ V evs)]) ∧ Below w.heap.size w w' := by
  have hlz : (evs.length : Int) ≤ 9223372036854775807 := by omega
  by_cases hl : 200 < evs.length
  · have hgt : (evs.length : Int) > 200 := by omega
    have e1 : wwZ V evs = 2 := by unfold wwZ; rw [if_pos hl]
    have e2 : wwS V evs = ⟨#[]⟩ := by unfold wwS; rw [e1, if_neg (by omega)]
    rw [e1, e2]
    clear hV hK hT hev hbd e1 e2 hl
    go_enter Tryz.func5, Tryz.ntmps5
    go_wp2_with fail
    go_ret2
    exact ⟨rfl, Below.refl _ _⟩
  · have hgt : ¬ (evs.length : Int) > 200 := by omega
    have e1 : wwZ V evs = weL V evs := by unfold wwZ; rw [if_neg hl]
    have hIB : Lib.IsBuilderF 47 5 w.heap.size w.heap.size (Lib.byteCells []) (w.alloc (.cells #[.pointer none, .slice none 0 0] 47)) := Lib.IsBuilderF.of (Lib.fresh_isBuilder 47 5 w)
    have hA : Below w.heap.size w (w.alloc (.cells #[.pointer none, .slice none 0 0] 47)) := (Below.refl _ _).alloc (Nat.le_refl _) _
    have HA := hideK hA
    have HI := hideK hIB
    have HEV := hideK hev
    have HBD := hideK hbd
    have HS := hideK (fun (W : World) (hW : WKP w.heap.size w.heap.size (wrL evs) (w.alloc (.cells #[.pointer none, .slice none 0 0] 47)) W) => string_any w.heap.size w.heap.size (wrL evs) W hW.1 (Nat.le_trans (by simp) hW.2.1.size))
    have HG := hideK (fun (k : Nat) (hk : k < evs.length) (W : World) (hl1 : (wrL (evs.take k)).length ≤ 110000000000000) (hW : WKP w.heap.size w.heap.size (wrL (evs.take k)) (w.alloc (.cells #[.pointer none, .slice none 0 0] 47)) W) (al : Option Addr) (cl : Nat) (ak : Option Addr) (ck d : Nat) (h1 : TyBd evs[k].carry cl ck) (h2 : LA w w.heap.size evs[k].carry.labels al) (h3 : KT w w.heap.size d evs[k].carry.kids ak) (hz : weZ V evs[k] = 0) =>
      writeEvent_good hV hK w.heap.size w.heap.size d (wrL (evs.take k)) evs[k] al cl ak ck W (hK w W hT ((hA.trans (hW.2.1.mono (Nat.le_refl _))).mono hB)) hB hW.1 h1 (NAt.keep (hA.trans hW.2.1) h2) (KT.keep (hA.trans hW.2.1) h3) hz (hbd _ (List.getElem_mem hk)).1 hl1 (Nat.le_trans (by simp) hW.2.1.size))
    have HF := hideK (fun (k : Nat) (hk : k < evs.length) (W : World) (hl1 : (wrL (evs.take k)).length ≤ 110000000000000) (hW : WKP w.heap.size w.heap.size (wrL (evs.take k)) (w.alloc (.cells #[.pointer none, .slice none 0 0] 47)) W) (al : Option Addr) (cl : Nat) (ak : Option Addr) (ck d : Nat) (hs8 : evs[k].s.size ≤ 9223372036854775807) (h1 : TyBd evs[k].carry cl ck) (h2 : LA w w.heap.size evs[k].carry.labels al) (h3 : KT w w.heap.size d evs[k].carry.kids ak) (hz : weZ V evs[k] ≠ 0) =>
      writeEvent_fail hV hK w.heap.size w.heap.size d (wrL (evs.take k)) evs[k] al cl ak ck W (hK w W hT ((hA.trans (hW.2.1.mono (Nat.le_refl _))).mono hB)) hB hW.1 h1 (NAt.keep (hA.trans hW.2.1) h2) (KT.keep (hA.trans hW.2.1) h3) hz hs8 (hbd _ (List.getElem_mem hk)).2 hl1 (Nat.le_trans (by simp) hW.2.1.size))
    have hl200 : evs.length ≤ 200 := by omega
    clear hV hK hT hev hbd hA hIB hl
    go_enter Tryz.func5, Tryz.ntmps5
    go_wp2_with fail
    go_loopw [13] (fun i wr => ∃ k : Nat, k ≤ evs.length ∧ i = .int .i64 (k : Int) ∧ (∀ j (hj : j < evs.length), j < k → weZ V evs[j] = 0) ∧ WKP w.heap.size w.heap.size (wrL (evs.take k)) (w.alloc (.cells #[.pointer none, .slice none 0 0] 47)) wr) (fun i _ => evs.length - (intOf i).toNat)
    case atStart => exact ⟨0, by omega, rfl, fun j _ h => by omega, WKP.refl HI.out⟩
    case round =>
      obtain ⟨k, hk, rfl, hz, hw⟩ := hrel
      have HZ := hideK hz
      have HW := hideK hw
      clear hz hw
      by_cases hend : k = evs.length
      · subst hend
        have C1 := HS.out wr (by have q := HW.out; rwa [List.take_of_length_le (Nat.le_refl _)] at q)
        have e0 : weL V evs = 0 := (weL_all V evs).2 (fun x hx => by obtain ⟨j, hj, rfl⟩ := List.getElem_of_mem hx; exact HZ.out j hj hj)
        have HE := hideK (show wwZ V evs = 0 ∧ wwS V evs = bs (wrL evs) from ⟨e1.trans e0, by unfold wwS; rw [e1, e0, if_pos rfl]⟩)
        clear e0
        go_wp2_with (go_at_call 12; refine C1.mono ?_; rintro e w2 ⟨rfl, _, h2, _⟩)
        go_ret2
        exact ⟨by rw [HE.out.1, HE.out.2]; rfl, HA.out.trans (HW.out.2.1.trans h2)⟩
      · have hlt : (k : Int) < (evs.length : Int) := by omega
        have hkl : k < evs.length := by omega
        rcases HEV.out with hnil | ⟨eb, eo, hae, hebl, hall⟩
        · rw [hnil] at hkl; simp at hkl
        subst hae
        obtain ⟨al, cl, ak, ck, d, hC, hs8, hbd, hla, hkt⟩ := hall k hkl
        have hC2 := hC.keep (HA.out.trans HW.out.2.1) hebl
        have hlw := wrL_len V evs k HZ.out
        have CG := hideK (HG.out k hkl)
        have CF := hideK (HF.out k hkl)
        have HLX := hideK (fun (h : weZ V evs[k] = 0) => wrL_succ evs k hkl)
        have HWA := hideK (fun (h : weZ V evs[k] ≠ 0) => weL_at V evs k hkl HZ.out h)
        obtain ⟨x, hx⟩ : ∃ x, x = evs[k] := ⟨_, rfl⟩
        rw [← hx] at hC2 hs8 hbd hla hkt CG CF HLX HWA
        have HXK := hideK hx
        clear hx
        have hW1 := hideK (HW.out.trans (WKP.al HW.out.1 (Nat.le_trans (by simp) HW.out.2.1.size) (.cells #[.int .i64 x.kind, .int .i64 x.so, .int .i64 x.n, .string x.s, .int .i64 x.carry.kind, .int .i64 x.carry.so, .string x.carry.name, .slice al x.carry.labels.length cl, .slice ak x.carry.kids.length ck, .string x.label] 33)))
        by_cases hzx : weZ V x = 0
        · have C2 := CG.out (wr.alloc (.cells #[.int .i64 x.kind, .int .i64 x.so, .int .i64 x.n, .string x.s, .int .i64 x.carry.kind, .int .i64 x.carry.so, .string x.carry.name, .slice al x.carry.labels.length cl, .slice ak x.carry.kids.length ck, .string x.label] 33)) (by omega) hW1.out al cl ak ck d hbd hla hkt hzx
          unfold evVal at C2
          have HX1 := hideK (HLX.out hzx)
          have HZ2 := hideK (show ∀ j (hj : j < evs.length), j < k + 1 → weZ V evs[j] = 0 from fun j hj hjk => by
            by_cases hjk2 : j = k
            · subst hjk2; rw [← HXK.out]; exact hzx
            · exact HZ.out j hj (by omega))
          obtain ⟨x0, x1, x2, x3, x4, x5, x6, x7, x8, x9⟩ := hC2
          rw [Nat.add_zero] at x0
          clear hbd hla hkt hs8 CG CF HLX HWA hzx hC
          go_wp2_with (go_at_call 11; refine C2.mono ?_; rintro e w2 ⟨rfl, h2⟩)
          go_roundw
          case rel => exact ⟨k + 1, by omega, by go_num, HZ2.out, by rw [HX1.out]; exact hW1.out.trans h2⟩
          case measure => simp [intOf]; omega
        · have C2 := CF.out (wr.alloc (.cells #[.int .i64 x.kind, .int .i64 x.so, .int .i64 x.n, .string x.s, .int .i64 x.carry.kind, .int .i64 x.carry.so, .string x.carry.name, .slice al x.carry.labels.length cl, .slice ak x.carry.kids.length ck, .string x.label] 33)) (by omega) hW1.out al cl ak ck d hs8 hbd hla hkt hzx
          unfold evVal at C2
          have hne : (weZ V x != 0) = true := by simpa using hzx
          have HE := hideK (show wwZ V evs = weZ V x ∧ wwS V evs = ⟨#[]⟩ from by
            have q := HWA.out hzx
            exact ⟨e1.trans q, by unfold wwS; rw [e1, q, if_neg hzx]⟩)
          generalize weZ V x = z at *
          obtain ⟨x0, x1, x2, x3, x4, x5, x6, x7, x8, x9⟩ := hC2
          rw [Nat.add_zero] at x0
          clear hbd hla hkt hs8 CG CF HLX HWA hzx hC
          go_wp2_with (go_at_call 11; refine C2.mono ?_; rintro e w2 ⟨rfl, h2⟩)
          go_ret2
          exact ⟨by rw [HE.out.1, HE.out.2]; rfl, HA.out.trans (hW1.out.2.1.trans h2)⟩
end
end Go.Proofs.YtefdekfgmbgbbaaGreatDoor
