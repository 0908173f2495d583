/-
  Lists of events: what is read has short labels, a row that is owned is a list of events, and the contract of slices.Clone of events.
-/
import Derived.Test.YtefdekfgmbgbbaaGreatDoorWiw
import Derived.Test.YtefdekfgmbgbbaaGreatDoorJza
namespace Go.Proofs.YtefdekfgmbgbbaaGreatDoor
open Go.RowKit Go.Shelf

theorem bare_lab (V : ByteArray → Bool) {x : Ev} (h : weZ V x = 0) : (bareV x).label.size ≤ 8 := by
  unfold bareV
  by_cases h1 : x.kind = 2 ∨ x.kind = 3
  · rw [if_pos h1]; show (0 : Nat) ≤ 8; omega
  rw [if_neg h1]
  by_cases h2 : x.kind = 4 ∨ x.kind = 5
  · rw [if_pos h2]; show (0 : Nat) ≤ 8; omega
  rw [if_neg h2]
  unfold weZ at h
  rw [if_neg h1, if_neg h2] at h
  split at h
  · split at h
    · next hn =>
      have := nm_len _ hn
      have e : x.label.data.toList.length = x.label.size := by simp
      show x.label.size ≤ 8
      omega
    · cases h
  · cases h
/-- what has been read has short labels -/
theorem wiL_lab (V : ByteArray → Bool) : ∀ (B : Nat) (L : List UInt8) (xs : List Ev), wiL V B L = .ok xs → ∀ x ∈ xs, x.label.size ≤ 8 := by
  intro B
  induction B with
  | zero =>
    intro L xs h
    cases L with
    | nil => rw [wiL_nil] at h; injection h with h; subst h; exact fun x hx => by cases hx
    | cons b r => cases h
  | succ B ih =>
    intro L xs h
    cases L with
    | nil => rw [wiL_nil] at h; injection h with h; subst h; exact fun x hx => by cases hx
    | cons b r =>
      cases hn : wiE V (b :: r) with
      | error e => rw [wiL_bad V B b r e hn] at h; cases h
      | ok y =>
        obtain ⟨y, q⟩ := y
        rw [wiL_step V B _ _ _ (by simp) hn] at h
        cases hr : wiL V B q with
        | error e => rw [hr] at h; cases h
        | ok ys =>
          rw [hr] at h
          injection h with h
          subst h
          intro x hx
          rcases List.mem_cons.1 hx with rfl | hx
          · obtain ⟨b1, b2, b3, _⟩ := wiE_conv V hn
            have := wiE_back V b1 b3 q
            rw [← b2, hn] at this
            injection this with this
            rw [(Prod.mk.inj this).1]
            exact bare_lab V b1
          · exact ih q ys hr x hx
/-- an event whose lists lie below B -/
def EvD (W : World) (B : Nat) (e : EvA) : Prop := ∃ d, EvL W B d e.1 e.2.1 e.2.2.1 e.2.2.2.1 e.2.2.2.2 ∧ e.1.s.size ≤ 9223372036854775807
theorem EvD.keep {W W' : World} {B : Nat} {e : EvA} (h : EvD W B e) (hb : Below B W W') : EvD W' B e := by
  obtain ⟨d, h, hs⟩ := h
  exact ⟨d, ⟨h.1, NAt.keep hb h.2.1, KT.keep hb h.2.2⟩, hs⟩
theorem evsC_cons (e : EvA) (es : List EvA) : evsC (e :: es) = evC e ++ evsC es := rfl
theorem evsC_app2 (a b : List EvA) : evsC (a ++ b) = evsC a ++ evsC b := by unfold evsC; rw [List.flatMap_append]
theorem evsC_one : ∀ (es : List EvA), ∀ v ∈ evsC es, v.oneCell' = true := by
  intro es v hv
  unfold evsC at hv
  obtain ⟨e, _, he⟩ := List.mem_flatMap.1 hv
  exact evC_one e v he
/-- a row that is owned is a list of events -/
theorem evs_row {W : World} {B b : Nat} {v : Value} {es : List EvA} (ho : W.ownsRow b 33 10 v es.length (evsC es)) (he : ∀ e ∈ es, EvD W B e) (hB : B ≤ W.heap.size) : ∃ av cv, v = .slice av es.length cv ∧ EVS W W.heap.size (es.map Prod.fst) av := by
  rcases own_cells ho with ⟨rfl, h0, _⟩ | ⟨g, cap, rfl, _, hgl, hc⟩
  · exact ⟨none, 0, by rw [h0], .inl (by rw [List.length_eq_zero_iff.1 h0]; rfl)⟩
  · refine ⟨_, cap, rfl, .inr ⟨g, 0, rfl, hgl, fun k hk => ?_⟩⟩
    have hk2 : k < es.length := by simpa using hk
    have e1 : (es.map Prod.fst)[k] = es[k].1 := by simp
    obtain ⟨d, ⟨b1, b2, b3⟩, bs⟩ := he _ (List.getElem_mem hk2)
    have hcell : ∀ j v, (evC es[k])[j]? = some v → j < 10 → W.cell? ⟨g, 0 + k * 10 + j, none⟩ = some v := fun j v hj hlt => by
      rw [Nat.zero_add]
      exact hc _ _ ((evsC_at es k j hk2 hlt).trans hj)
    rw [e1]
    exact ⟨es[k].2.1, es[k].2.2.1, es[k].2.2.2.1, es[k].2.2.2.2, d, ⟨hcell 0 _ rfl (by omega), hcell 1 _ rfl (by omega), hcell 2 _ rfl (by omega), hcell 3 _ rfl (by omega), hcell 4 _ rfl (by omega), hcell 5 _ rfl (by omega), hcell 6 _ rfl (by omega), hcell 7 _ rfl (by omega), hcell 8 _ rfl (by omega), hcell 9 _ rfl (by omega)⟩, bs, b1, NAt.mono hB b2, KT.mono hB b3⟩
/-- a list of events, element by element -/
theorem evs_list {W : World} {B b : Nat} : ∀ (evs : List Ev) (o : Nat), (∀ k (h : k < evs.length), ∃ al cl ak ck d, EvC W b (o + k * 10) evs[k] al cl ak ck ∧ evs[k].s.size ≤ 9223372036854775807 ∧ TyBd evs[k].carry cl ck ∧ LA W B evs[k].carry.labels al ∧ KT W B d evs[k].carry.kids ak) →
    ∃ es : List EvA, es.map Prod.fst = evs ∧ (∀ e ∈ es, EvD W B e) ∧ ∀ j v, (evsC es)[j]? = some v → W.cell? ⟨b, o + j, none⟩ = some v := by
  intro evs
  induction evs with
  | nil => intro o _; exact ⟨[], rfl, (fun e he => by cases he), fun j v hj => by simp [evsC] at hj⟩
  | cons x r ih =>
    intro o h
    obtain ⟨al, cl, ak, ck, d, hc, hs, h1, h2, h3⟩ := h 0 (by simp)
    rw [Nat.zero_mul, Nat.add_zero] at hc
    obtain ⟨es, rfl, he, hcs⟩ := ih (o + 10) (fun k hk => by
      have := h (k + 1) (by simpa using hk)
      rw [show o + (k + 1) * 10 = o + 10 + k * 10 by omega] at this
      exact this)
    refine ⟨(x, al, cl, ak, ck) :: es, rfl, fun e hm => ?_, fun j v hj => ?_⟩
    · rcases List.mem_cons.1 hm with rfl | hm
      · exact ⟨d, ⟨h1, h2, h3⟩, hs⟩
      · exact he e hm
    · rw [evsC_cons] at hj
      have hl : (evC (x, al, cl, ak, ck)).length = 10 := rfl
      by_cases hj10 : j < 10
      · rw [List.getElem?_append_left (by omega)] at hj
        obtain ⟨q0, q1, q2, q3, q4, q5, q6, q7, q8, q9⟩ := hc
        match j, hj with
        | 0, hj => exact q0.trans hj
        | 1, hj => exact q1.trans hj
        | 2, hj => exact q2.trans hj
        | 3, hj => exact q3.trans hj
        | 4, hj => exact q4.trans hj
        | 5, hj => exact q5.trans hj
        | 6, hj => exact q6.trans hj
        | 7, hj => exact q7.trans hj
        | 8, hj => exact q8.trans hj
        | 9, hj => exact q9.trans hj
        | n + 10, hj => omega
      · rw [List.getElem?_append_right (by omega), hl] at hj
        have := hcs _ _ hj
        rwa [show o + 10 + (j - 10) = o + j by omega] at this
/-- a list of events as a row of cells at its address -/
theorem EVS.at {W : World} {B : Nat} {evs : List Ev} {ad : Addr} (h : EVS W B evs (some ad)) : ∃ es : List EvA, es.map Prod.fst = evs ∧ (∀ e ∈ es, EvD W B e) ∧ ∀ j v, (evsC es)[j]? = some v → W.cell? (ad.add j) = some v := by
  rcases h with rfl | ⟨b, o, e, _, hc⟩
  · exact ⟨[], rfl, (fun e he => by cases he), fun j v hj => by simp [evsC] at hj⟩
  · obtain ⟨es, h1, h2, h3⟩ := evs_list evs o hc
    injection e with e
    subst e
    exact ⟨es, h1, h2, fun j v hj => by rw [addjo]; exact h3 j v hj⟩
/-- a list of events as a row of cells, where there is one -/
theorem EVS.src {W : World} {B : Nat} {evs : List Ev} {a : Option Addr} (h : EVS W B evs a) : ∃ es : List EvA, es.map Prod.fst = evs ∧ (∀ e ∈ es, EvD W B e) ∧ (a = none → evs.length = 0) ∧ ∀ ad, a = some ad → ∀ j v, (evsC es)[j]? = some v → W.cell? (ad.add j) = some v := by
  cases a with
  | none =>
    have hn : evs = [] := by
      rcases h with h | ⟨b, o, e, _⟩
      · exact h
      · cases e
    subst hn
    exact ⟨[], rfl, (fun e he => by cases he), fun _ => rfl, fun ad h => by cases h⟩
  | some ad =>
    obtain ⟨es, h1, h2, h3⟩ := h.at
    exact ⟨es, h1, h2, (fun h => by cases h), fun ad' h => by injection h with h; subst h; exact h3⟩
/-- two rows of events one behind the other -/
theorem evs_both {W : World} {B b : Nat} {v : Value} {es fs : List EvA} {xs ys : List Ev} (hx : es.map Prod.fst = xs) (hy : fs.map Prod.fst = ys) (ho : W.ownsRow b 33 10 v (xs.length + ys.length) (evsC es ++ evsC fs)) (he : ∀ e ∈ es, EvD W B e) (hf : ∀ e ∈ fs, EvD W B e) (hB : B ≤ W.heap.size) :
    ∃ av cv, v = .slice av (xs ++ ys).length cv ∧ EVS W W.heap.size (xs ++ ys) av := by
  have hl : xs.length + ys.length = (es ++ fs).length := by rw [← hx, ← hy]; simp
  rw [hl, ← evsC_app2] at ho
  obtain ⟨av, cv, h1, h2⟩ := evs_row ho (fun e hm => (List.mem_append.1 hm).elim (he e) (hf e)) hB
  rw [List.map_append, hx, hy] at h2
  exact ⟨av, cv, by rw [h1, ← hl, List.length_append], h2⟩
set_option maxRecDepth 100000 in
set_option maxHeartbeats 16000000 in
theorem cloneEv_any (evs : List Ev) (ae : Option Addr) (ce B : Nat) (w : World) (hev : EVS w B evs ae) (hl : evs.length * 136 ≤ 140737488355328) :
    Calls Tryz.prog 9 #[.slice ae evs.length ce] w fun e w' => (∃ v es, e = .returned v ∧ es.map Prod.fst = evs ∧ (∀ e ∈ es, EvD w B e) ∧ w'.ownsRow w.heap.size 33 10 v evs.length (evsC es)) ∧ Below w.heap.size w w' := by
  obtain ⟨i0, hi, hz0, hz1, hz2⟩ := info_parts infoEv
  have qB : ∀ (w : World) (a : Option Addr) (n c n' c' : Nat), (binOp .eql 22 (.slice a n c) (.slice none n' c')).run Tryz.prog w = .ok (.bool a.isNone) w := fun w a n c n' c' => Lib.run_eql_slice_nil w _ _ a n c n' c' Tryz.underlying22
  cases ae with
  | none =>
    have hn : evs = [] := by
      rcases hev with h | ⟨b, o, e, _⟩
      · exact h
      · cases e
    subst hn
    clear hev hl
    go_enter Tryz.func9, Tryz.ntmps9
    go_wp2_with fail
    go_ret
    exact ⟨⟨_, [], rfl, rfl, (fun t ht => by cases ht), World.ownsRow_nil _ _ _ _⟩, Below.refl _ _⟩
  | some ad =>
    obtain ⟨ts, hts, hok, hcl⟩ := hev.at
    have hlen : (evsC ts).length = evs.length * 10 := by rw [evsC_len, ← hts]; simp
    have h1 := evsC_one ts
    have hm : evs.length ≤ maxLen := by unfold maxLen; omega
    have HN := hideK hcl
    have HK := hideK (And.intro hts hok)
    clear hcl hev hts hok
    generalize hnews : evsC ts = news at *
    generalize evs.length = n at *
    go_enter Tryz.func9, Tryz.ntmps9
    go_wp2_with (at_builtin; refine wpList_append_own _ rfl _ _ 22 rfl w.heap.size 33 i0 _ 10 136 Tryz.underlying22 hi hz0 hz1 hz2 rfl (by decide) _ _ _ rfl (World.ownsRow_made w #[] 0 (Nat.le_refl _) (Nat.zero_le _) (by simp)) ad n ce news rfl ?qc1 ?qc2 ?qc3 ?qc4 ?qc5 ?qc6 ?_)
    case qc1 => exact hlen
    case qc2 =>
      intro j u hj
      exact Lib.cell?_alloc_some _ (HN.out j u hj)
    case qc3 => exact h1
    case qc4 => rw [Nat.zero_add]; exact hm
    case qc5 => rw [Nat.zero_add]; exact hl
    case qc6 => simp
    intro v' w1 hown hgrow hnil
    go_wp2_with fail
    go_ret
    refine ⟨⟨v', ts, rfl, HK.out.1, HK.out.2, by rw [hnews]; simpa using hown⟩, ?_⟩
    exact ((Below.refl _ w).alloc (Nat.le_refl _) _).grown hgrow (by simp) (by intro k hk; simp [Value.ownBlock] at hk; omega)
end Go.Proofs.YtefdekfgmbgbbaaGreatDoor
