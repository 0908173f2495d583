/-
  Numbers of package duetbig as decimal digits: the contracts of duetbig.twin, Int.Text at base 10 and Int.String, for every number below 10^20.
-/
import Derived.Test.YthojpcclhcpeaaaDoorBe
import Derived.Test.YthojpcclhcpeaaaDoorFs
import Derived.Test.YthojpcclhcpeaaaDoorLr
namespace Go.Proofs.YthojpcclhcpeaaaDoor
open Go.RowKit Go.Shelf

/-- the digits of a number, the least first -/
def revd (x : Nat) : List UInt8 :=
  if h : x = 0 then [] else
    have _hx : x / 10 < x := Nat.div_lt_self (Nat.pos_of_ne_zero h) (by omega)
    UInt8.ofNat (48 + x % 10) :: revd (x / 10)
theorem revd_zero : revd 0 = [] := by rw [revd]; rfl
theorem revd_pos (x : Nat) (h : x ≠ 0) : revd x = UInt8.ofNat (48 + x % 10) :: revd (x / 10) := by rw [revd, dif_neg h]
theorem revd_dec : ∀ (m x : Nat), x ≤ m → x ≠ 0 → (revd x).reverse = Lib.decDigits x
  | m, x, hm, h0 => by
    rw [revd_pos x h0, Lib.decDigits]
    by_cases h : x < 10
    · rw [dif_pos h, show x / 10 = 0 by omega, revd_zero, Nat.mod_eq_of_lt h]; rfl
    · rw [dif_neg h, List.reverse_cons]
      match m, hm with
      | 0, hm => omega
      | m + 1, hm => rw [revd_dec m (x / 10) (by omega) (by omega)]
theorem revd_len : ∀ (k x : Nat), x < 10 ^ k → (revd x).length ≤ k
  | 0, x, h => by have : x = 0 := by omega
                  subst this; rw [revd_zero]; simp
  | k + 1, x, h => by
    by_cases h0 : x = 0
    · subst h0; rw [revd_zero]; simp
    · rw [revd_pos x h0]
      have := revd_len k (x / 10) (by rw [Nat.pow_succ] at h; omega)
      simp; omega

theorem NumAt.grown {w w' : World} {v : Value} {x : Nat} {row : Option Nat} (h : NumAt w v x) (hg : w.grownBy w' row) (hr : ∀ g c, row = some g → w.cell? ⟨g, 0, none⟩ ≠ some (.int .u32 c)) : NumAt w' v x := by
  obtain ⟨ws, h1, h2⟩ := h
  refine ⟨ws, h1, ?_⟩
  rcases h2 with h | ⟨g, cap, e1, e2, e3, e4⟩
  · exact .inl h
  · refine .inr ⟨g, cap, e1, e2, Nat.lt_of_lt_of_le e3 hg.size, fun j hj => ?_⟩
    rw [← e4 j hj]
    refine World.cell?_of_block (a := ⟨g, j, none⟩) (hg.block g e3 fun e => ?_)
    exact hr g _ e.symm (e4 0 (by omega))

theorem addj (g j : Nat) : (Addr.add ⟨g, 0, none⟩ j) = ⟨g, j, none⟩ := by unfold Addr.add; split <;> simp_all
theorem info_u32 : ∃ i : TypeInfo, Tryd.prog.info? 118 = some i ∧ i.zero = some (.int .u32 0) ∧ i.size = 1 ∧ i.bytes = 4 := by
  obtain ⟨i, hi, hx⟩ := Option.map_eq_some_iff.1 info32
  simp only [Prod.mk.injEq] at hx
  exact ⟨i, hi, hx.1, hx.2.1, hx.2.2⟩

set_option maxHeartbeats 400000 in
theorem twin_any (g cap : Nat) (ws : List Nat) (x : Nat) (w : World) (hw : Words ws x) (hl0 : 0 < ws.length) (hlen : ws.length ≤ 1000000) (hc : ∀ j, j < ws.length → w.cell? ⟨g, j, none⟩ = some (.int .u32 (ws.getD j 0 : Nat))) :
    Calls Tryd.prog 131 #[.slice (some ⟨g, 0, none⟩) ws.length cap] w fun e w' => ∃ v, e = .returned v ∧ NumAt w' v x ∧ Below w.heap.size w w' := by
  obtain ⟨i0, hi, hz0, hz1, hz2⟩ := info_u32
  have hnil := World.ownsRow_nil w w.heap.size 118 1
  have HC : Hid (∀ j, j < ws.length → w.cell? ⟨g, j, none⟩ = some (.int .u32 (ws.getD j 0 : Nat))) := hc
  clear hc
  go_enter Tryd.func131, Tryd.ntmps131
  go_wp2_with (at_builtin; refine wpList_append_own _ rfl _ _ 131 rfl w.heap.size 118 i0 (.int .u32 0) 1 4 Tryd.underlying131 hi hz0 hz1 hz2 rfl (by decide) _ _ _ rfl hnil ⟨g, 0, none⟩ ws.length cap (ws.map fun (y : Nat) => Value.int .u32 (y : Int)) rfl (by simp) ?c1 ?c2 ?c3 ?c4 ?c5 ?_)
  case c1 =>
    intro j u hj
    rw [List.getElem?_map] at hj
    by_cases hjl : j < ws.length
    · rw [List.getElem?_eq_getElem hjl] at hj
      simp at hj
      subst hj
      have := HC.out j hjl
      rw [addj]
      rw [this, List.getD, List.getElem?_eq_getElem hjl]; rfl
    · rw [List.getElem?_eq_none (by omega)] at hj; simp at hj
  case c2 => intro u hu; simp at hu; obtain ⟨y, _, rfl⟩ := hu; rfl
  case c3 => unfold maxLen; omega
  case c4 => omega
  case c5 => omega
  intro v' w2 hown' hgrow hnn
  have hnum : NumAt w2 v' x := by
    refine ⟨ws, hw, ?_⟩
    rcases hown'.2 with ⟨_, h0⟩ | ⟨g', cap', cur, hv, hb, hbk, hcap, _, _, htk⟩
    · omega
    · refine .inr ⟨g', cap', by rw [hv], by omega, (Array.getElem?_eq_some_iff.1 hbk).1, fun j hj => ?_⟩
      have h1 := hown'.cells (g := g') (by rw [hv]; rfl) j (.int .u32 (ws.getD j 0 : Nat)) (by simp [List.getD, List.getElem?_eq_getElem hj])
      rw [addj] at h1
      exact h1
  have hbw : Below w.heap.size w w2 := (Below.refl _ _).grown hgrow (Nat.le_refl _) (fun k hk => by simp [Value.ownBlock] at hk)
  obtain ⟨ao, n', cap', rfl⟩ : ∃ ao n' cap', v' = .slice ao n' cap' := by
    rcases hown'.2 with ⟨hv, _⟩ | ⟨g, cap, cur, hv, _⟩
    · exact ⟨_, _, _, hv⟩
    · exact ⟨_, _, _, hv⟩
  go_wp2
  go_ret
  exact ⟨_, rfl, hnum, hbw⟩

theorem byteCells_at (l : List UInt8) (j : Nat) (h : j < l.length) : (Lib.byteCells l)[j]? = some (.int .u8 ((l.getD j 0).toNat : Int)) := by
  simp [Lib.byteCells, List.getD, List.getElem?_eq_getElem h]
theorem byteCells_set (l : List UInt8) (j : Nat) (b : UInt8) : Lib.byteCells (l.set j b) = (Lib.byteCells l).set j (.int .u8 (b.toNat : Int)) := by
  unfold Lib.byteCells; rw [List.map_set]
/-- turned round as far as k from both ends -/
def RevAt (t l : List UInt8) (k : Nat) : Prop := ∀ m, m < t.length → l.getD m 0 = if m < k ∨ t.length ≤ m + k then t.getD (t.length - 1 - m) 0 else t.getD m 0
theorem revAt_zero (t : List UInt8) : RevAt t t 0 := fun m hm => by rw [if_neg (by omega)]
theorem getD_set (l : List UInt8) (j m : Nat) (b : UInt8) (hm : m < l.length) : (l.set j b).getD m 0 = if j = m then b else l.getD m 0 := by
  rw [List.getD, List.getElem?_set, List.getD]
  by_cases e : j = m
  · subst e; simp [hm]
  · simp [e]
theorem revAt_step (t l : List UInt8) (k m : Nat) (hm : t.length = m + 1 + k) (hl : l.length = t.length) (hlt : k < m) (h : RevAt t l k) : RevAt t ((l.set k (l.getD m 0)).set m (l.getD k 0)) (k + 1) := by
  intro q hq
  rw [getD_set _ _ _ _ (by simp; omega), getD_set _ _ _ _ (by omega)]
  by_cases e1 : m = q
  · subst e1
    rw [if_pos rfl, if_pos (by omega), h k (by omega), if_neg (by omega)]
    congr 1; omega
  · rw [if_neg e1]
    by_cases e2 : k = q
    · subst e2
      rw [if_pos rfl, if_pos (by omega), h m (by omega), if_neg (by omega)]
      congr 1; omega
    · rw [if_neg e2, h q hq]
      by_cases e3 : q < k ∨ t.length ≤ q + k
      · rw [if_pos e3, if_pos (by omega)]
      · rw [if_neg e3, if_neg (by omega)]
theorem revAt_end (t l : List UInt8) (k : Nat) (hl : l.length = t.length) (hk : t.length ≤ k + k + 1) (h : RevAt t l k) : l = t.reverse := by
  apply List.ext_getElem
  · simp [hl]
  · intro m h1 h2
    have hm : m < t.length := by omega
    have e := h m hm
    rw [List.getElem_reverse]
    have e1 : l.getD m 0 = l[m] := by rw [List.getD, List.getElem?_eq_getElem h1]; rfl
    have e2 : t.getD (t.length - 1 - m) 0 = t[t.length - 1 - m] := by rw [List.getD, List.getElem?_eq_getElem (by omega)]; rfl
    rw [← e1, ← e2, e]
    split
    · rfl
    · congr 1; omega
def slen : Value → Nat
  | .slice _ n _ => n
  | _ => 0

theorem own_slen {base : Nat} {e : TypeId} {size : Nat} {v : Value} {n : Nat} {xs : List Value} {w : World} (h : w.ownsRow base e size v n xs) : slen v = n := by
  rcases h.2 with ⟨rfl, rfl⟩ | ⟨g, cap, cur, rfl, _⟩ <;> rfl

/-- a number's decimal digits, with a sign -/
def txt (neg : Bool) (x : Nat) : List UInt8 := if x = 0 then [48] else if neg then 45 :: Lib.decDigits x else Lib.decDigits x

set_option maxRecDepth 100000 in
set_option maxHeartbeats 2000000 in
theorem text_any (zb : Nat) (neg : Bool) (x : Nat) (w : World) (h : IntAt w zb neg x) (hx : x < 100000000000000000000) :
    Calls Tryd.prog 107 #[.pointer (some ⟨zb, 0, none⟩), .int .i64 10] w fun e w' => e = .returned (.string ⟨(txt neg x).toArray⟩) ∧ Below w.heap.size w w' := by
  obtain ⟨i0, hi, hz0, hz1, hz2⟩ := info_parts infoByte
  obtain ⟨hz, c0, v, c1, ws, hw, hu⟩ := h
  by_cases hx0 : x = 0
  · subst hx0
    have := words_zero hw
    subst this
    obtain ⟨ao, cap, rfl⟩ := hu.slot
    go_enter Tryd.func107, Tryd.ntmps107
    go_wp2
    go_ret
    exact ⟨rfl, Below.refl _ _⟩
  · have hwl : ws.length ≤ 3 := words_len hw (k := 3) (by omega)
    have hne : ws ≠ [] := by rintro rfl; exact hx0 (by rw [← hw.val]; rfl)
    have hl0 := List.length_pos_iff.2 hne
    rcases hu with ⟨_, h0⟩ | ⟨g, cap, rfl, hcap, hg, hc⟩
    · exact absurd h0 hne
    · have hlz : ((ws.length : Int) == 0) = false := by simp; omega
      have CT := twin_any g cap ws x w hw hl0 (by omega) hc
      have hrl := revd_len 20 x hx
      have hrd := revd_dec x x (Nat.le_refl _) hx0
      generalize hRX : revd x = rx at hrl hrd
      have HRX : Hid (revd x = rx) := hRX
      have HRD : Hid (rx.reverse = Lib.decDigits x) := hrd
      generalize htx : txt neg x = tx
      have HTX : Hid (txt neg x = tx) := htx
      clear hc hRX hrd htx
      go_enter Tryd.func107, Tryd.ntmps107
      go_wp2_with fail
      refine CT.mono ?_
      rintro e w1 ⟨v1, rfl, hn1, hb1⟩
      have hsv1 : ∃ ao n c, v1 = .slice ao n c := by
        obtain ⟨ws', _, q⟩ := hn1
        obtain ⟨ao, c, e⟩ := q.slot
        exact ⟨ao, _, c, e⟩
      obtain ⟨ao1, n1, cap1, rfl⟩ := hsv1
      have hstart : ([] : List UInt8) ++ revd x = rx := HRX.out
      go_wp2_with fail
      go_loopw [5, 6] (fun b a wr => ∃ (acc : List UInt8) (y : Nat), acc ++ revd y = rx ∧ wr.ownsRow w.heap.size 5 1 b acc.length (Lib.byteCells acc) ∧ NumAt wr a y ∧ y < 100000000000000000000 ∧ Below w.heap.size w wr ∧ (acc = [] → b = .slice none 0 0)) (fun b a wr => rx.length - slen b)
      case atStart => exact ⟨[], x, hstart, World.ownsRow_nil _ _ _ _, hn1, hx, hb1, fun _ => rfl⟩
      case round =>
        obtain ⟨acc, y, hacc, hown, hny, hy, hbw, hnil⟩ := hrel
        have HNIL : Hid (acc = [] → u5 = .slice none 0 0) := hnil
        clear hnil
        have HA : Hid (acc ++ revd y = rx) := hacc
        have hal : acc.length ≤ rx.length := by rw [← hacc]; simp
        clear hacc
        have hsz := hbw.size
        by_cases hy0 : y = 0
        · subst hy0
          have hra : acc = rx := by have := HA.out; rw [revd_zero, List.append_nil] at this; exact this
          subst hra
          have hsy : ∃ ao c, u6 = .slice ao 0 c := by
            obtain ⟨ws', q1, q⟩ := hny
            obtain ⟨ao, c, e⟩ := q.slot
            rw [words_zero q1] at e
            exact ⟨ao, c, e⟩
          obtain ⟨ao2, cap2, rfl⟩ := hsy
          have c0' : wr.cell? ⟨zb, 0, none⟩ = some (.bool neg) := (hbw.cell (p := ⟨zb, 0, none⟩) hz).trans c0
          have hdl : 0 < acc.length := by
            have := HRX.out
            rw [revd_pos x hx0] at this
            rw [← this]; simp
          obtain ⟨g2, cap3, rfl⟩ : ∃ g2 c, u5 = .slice (some ⟨g2, 0, none⟩) acc.length c := by
            rcases hown.2 with ⟨_, h0⟩ | ⟨g2, cap2, cur, hv, _⟩
            · omega
            · exact ⟨_, _, hv⟩
          have hg2 := (hown.lt g2 rfl).1
          cases neg with
          | false =>
            have htr : acc.reverse = tx := by rw [HRD.out, ← HTX.out, txt, if_neg hx0]; rfl
            obtain ⟨t, htt⟩ : ∃ t, acc = t := ⟨_, rfl⟩
            rw [htt] at hown htr hal hdl hrl ⊢
            have htb : t.length ≤ 30 := by omega
            have htbz : (t.length : Int) ≤ 30 := by omega
            have hown3 := hown
            have hb3 := hbw
            clear hown
            have HT : Hid (t.reverse = tx) := htr
            clear htr
            go_wp2_with fail
            go_loopw [8, 9] (fun i j wq => ∃ (k : Nat) (l : List UInt8), i = .int .i64 (k : Int) ∧ j = .int .i64 ((t.length : Int) - 1 - k) ∧ k ≤ t.length ∧ l.length = t.length ∧ RevAt t l k ∧ wq.ownsRow w.heap.size 5 1 (.slice (some ⟨g2, 0, none⟩) t.length cap3) t.length (Lib.byteCells l) ∧ Below w.heap.size w wq) (fun i j wq => t.length - (intOf i).toNat)
            case atStart => exact ⟨0, t, rfl, by go_num, by omega, rfl, revAt_zero t, hown3, hb3⟩
            case round =>
              obtain ⟨k, l, rfl, rfl, hk, hll, hrv, hownl, hbl⟩ := hrel
              by_cases hlt : k + k + 1 < t.length
              · obtain ⟨m, hm⟩ : ∃ m : Nat, t.length = m + 1 + k := ⟨t.length - 1 - k, by omega⟩
                have ej : (t.length : Int) - 1 - k = (m : Int) := by omega
                rw [ej]
                have hkm : (k : Int) < (m : Int) := by omega
                have ck := hownl.cellAt k (by omega)
                have cm := hownl.cellAt m (by omega)
                have fk := hownl.frozenAt k
                have fm := hownl.frozenAt m
                rw [byteCells_at l k (by omega)] at ck
                rw [byteCells_at l m (by omega)] at cm
                have hmt : (m : Int) < (t.length : Int) := by omega
                have hkt : (k : Int) < (t.length : Int) := by omega
                have cm2 : ∀ u, (wr.setCell ⟨g2, k, none⟩ u).cell? ⟨g2, m, none⟩ = some (.int .u8 ((l.getD m 0).toNat : Int)) := fun u => by
                  rw [World.cell?_setCell_other _ _ _ _ (by intro c; injection c; omega)]; exact cm
                have fm2 : ∀ u, (wr.setCell ⟨g2, k, none⟩ u).frozen? ⟨g2, m, none⟩ = false := fun u => by rw [World.frozen?_setCell]; exact fm
                have HS : Hid ((((wr.setCell ⟨g2, k, none⟩ (.int .u8 ((l.getD m 0).toNat : Int))).setCell ⟨g2, m, none⟩ (.int .u8 ((l.getD k 0).toNat : Int))).ownsRow w.heap.size 5 1 (.slice (some ⟨g2, 0, none⟩) t.length cap3) t.length (Lib.byteCells ((l.set k (l.getD m 0)).set m (l.getD k 0))))) := by
                  have := ((hownl.stored k (.int .u8 ((l.getD m 0).toNat : Int))).1.stored m (.int .u8 ((l.getD k 0).toNat : Int))).1
                  rw [byteCells_set, byteCells_set]
                  exact this
                have HR : Hid (RevAt t ((l.set k (l.getD m 0)).set m (l.getD k 0)) (k + 1)) := revAt_step t l k m hm hll (by omega) hrv
                generalize hx1 : ((l.getD m 0).toNat : Int) = xm at *
                generalize hx2 : ((l.getD k 0).toNat : Int) = xk at *
                clear hrv hownl
                go_wp2_with fail
                go_roundw
                case rel => exact ⟨k + 1, _, by go_num, by go_num, by omega, by simp [hll], HR.out, HS.out, (hbl.setCell (p := ⟨g2, k, none⟩) hg2 _).setCell (p := ⟨g2, m, none⟩) hg2 _⟩
                case measure => simp [intOf]; omega
              · have hnlt : ¬ (k : Int) < (t.length : Int) - 1 - k := by omega
                have hl : l = t.reverse := revAt_end t l k hll (by omega) hrv
                have hconv := conv_row (World.ownsRowF_of (by rw [hll]; exact hownl))
                rw [hl, HT.out] at hconv
                clear hrv hownl
                go_wp2_with (rw [hconv])
                go_wp2
                go_ret
                exact ⟨rfl, hbl⟩
          | true =>
            go_wp2_with (at_builtin; refine wpList_append_own _ rfl _ _ 76 rfl w.heap.size 5 i0 (.int .u8 0) 1 1 Tryd.underlying76 hi hz0 hz1 hz2 rfl (by decide) _ _ _ rfl (hown.alloc _) ⟨wr.heap.size, 0, none⟩ 1 1 [.int .u8 (((45 : UInt8).toNat : Nat) : Int)] rfl rfl ?c1 ?c2 ?c3 ?c4 ?c5 ?_)
            case c1 =>
              intro j u hj
              match j, hj with
              | 0, hj => simp at hj; subst hj; simp [Addr.add]
            case c2 => intro u hu; simp at hu; subst hu; rfl
            case c3 => unfold maxLen; omega
            case c4 => omega
            case c5 => simp; omega
            intro v' w3 hown' hgrow _
            obtain ⟨t, ht⟩ : ∃ t, t = acc ++ [45] := ⟨_, rfl⟩
            have htl : t.length = acc.length + 1 := by rw [ht]; simp
            have htb : t.length ≤ 30 := by omega
            have htbz : (t.length : Int) ≤ 30 := by omega
            have hown3 : w3.ownsRow w.heap.size 5 1 v' t.length (Lib.byteCells t) := by rw [htl, ht, Lib.byteCells_append]; exact hown'
            have hb3 : Below w.heap.size w w3 := (hbw.alloc hsz _).grown hgrow (by simp; omega) (fun q hq => (hown.lt q hq).1)
            have htr : t.reverse = tx := by rw [ht, List.reverse_append, HRD.out, ← HTX.out, txt, if_neg hx0]; rfl
            clear hown' hown hg2
            obtain ⟨g2, cap4, rfl⟩ : ∃ g2 c, v' = .slice (some ⟨g2, 0, none⟩) t.length c := by
              rcases hown3.2 with ⟨_, h0⟩ | ⟨g2, cap2, cur, hv, _⟩
              · omega
              · exact ⟨_, _, hv⟩
            have hg2 := (hown3.lt g2 rfl).1
            have htp : 0 < t.length := by omega
            clear htl ht
            have HT : Hid (t.reverse = tx) := htr
            clear htr
            go_wp2_with fail
            go_loopw [8, 9] (fun i j wq => ∃ (k : Nat) (l : List UInt8), i = .int .i64 (k : Int) ∧ j = .int .i64 ((t.length : Int) - 1 - k) ∧ k ≤ t.length ∧ l.length = t.length ∧ RevAt t l k ∧ wq.ownsRow w.heap.size 5 1 (.slice (some ⟨g2, 0, none⟩) t.length cap4) t.length (Lib.byteCells l) ∧ Below w.heap.size w wq) (fun i j wq => t.length - (intOf i).toNat)
            case atStart => exact ⟨0, t, rfl, by go_num, by omega, rfl, revAt_zero t, hown3, hb3⟩
            case round =>
              obtain ⟨k, l, rfl, rfl, hk, hll, hrv, hownl, hbl⟩ := hrel
              by_cases hlt : k + k + 1 < t.length
              · obtain ⟨m, hm⟩ : ∃ m : Nat, t.length = m + 1 + k := ⟨t.length - 1 - k, by omega⟩
                have ej : (t.length : Int) - 1 - k = (m : Int) := by omega
                rw [ej]
                have hkm : (k : Int) < (m : Int) := by omega
                have ck := hownl.cellAt k (by omega)
                have cm := hownl.cellAt m (by omega)
                have fk := hownl.frozenAt k
                have fm := hownl.frozenAt m
                rw [byteCells_at l k (by omega)] at ck
                rw [byteCells_at l m (by omega)] at cm
                have hmt : (m : Int) < (t.length : Int) := by omega
                have hkt : (k : Int) < (t.length : Int) := by omega
                have cm2 : ∀ u, (wr.setCell ⟨g2, k, none⟩ u).cell? ⟨g2, m, none⟩ = some (.int .u8 ((l.getD m 0).toNat : Int)) := fun u => by
                  rw [World.cell?_setCell_other _ _ _ _ (by intro c; injection c; omega)]; exact cm
                have fm2 : ∀ u, (wr.setCell ⟨g2, k, none⟩ u).frozen? ⟨g2, m, none⟩ = false := fun u => by rw [World.frozen?_setCell]; exact fm
                have HS : Hid ((((wr.setCell ⟨g2, k, none⟩ (.int .u8 ((l.getD m 0).toNat : Int))).setCell ⟨g2, m, none⟩ (.int .u8 ((l.getD k 0).toNat : Int))).ownsRow w.heap.size 5 1 (.slice (some ⟨g2, 0, none⟩) t.length cap4) t.length (Lib.byteCells ((l.set k (l.getD m 0)).set m (l.getD k 0))))) := by
                  have := ((hownl.stored k (.int .u8 ((l.getD m 0).toNat : Int))).1.stored m (.int .u8 ((l.getD k 0).toNat : Int))).1
                  rw [byteCells_set, byteCells_set]
                  exact this
                have HR : Hid (RevAt t ((l.set k (l.getD m 0)).set m (l.getD k 0)) (k + 1)) := revAt_step t l k m hm hll (by omega) hrv
                generalize hx1 : ((l.getD m 0).toNat : Int) = xm at *
                generalize hx2 : ((l.getD k 0).toNat : Int) = xk at *
                clear hrv hownl
                go_wp2_with fail
                go_roundw
                case rel => exact ⟨k + 1, _, by go_num, by go_num, by omega, by simp [hll], HR.out, HS.out, (hbl.setCell (p := ⟨g2, k, none⟩) hg2 _).setCell (p := ⟨g2, m, none⟩) hg2 _⟩
                case measure => simp [intOf]; omega
              · have hnlt : ¬ (k : Int) < (t.length : Int) - 1 - k := by omega
                have hl : l = t.reverse := revAt_end t l k hll (by omega) hrv
                have hconv := conv_row (World.ownsRowF_of (by rw [hll]; exact hownl))
                rw [hl, HT.out] at hconv
                clear hrv hownl
                go_wp2_with (rw [hconv])
                go_wp2
                go_ret
                exact ⟨rfl, hbl⟩
        · have hym := Nat.mod_lt y (show 0 < 10 by omega)
          have hrv := revd_pos y hy0
          obtain ⟨ws', q1, q2⟩ := hny
          have hne' : ws' ≠ [] := by rintro rfl; exact hy0 (by rw [← q1.val]; rfl)
          have hwl' : ws'.length ≤ 3 := words_len q1 (k := 3) (by omega)
          have hl0' := List.length_pos_iff.2 hne'
          rcases q2 with ⟨_, h0⟩ | ⟨ga, ca, rfl, hca, hga, hcl⟩
          · exact absurd h0 hne'
          · have cS := bsmall_any ga ca ws' 10 wr q1.small (by omega) hga (by omega) (by omega) hcl
            rw [q1.val] at cS
            have CS : Hid (Calls Tryd.prog 132 #[.slice (some ⟨ga, 0, none⟩) ws'.length ca, .int .u32 ((10 : Nat) : Int)] wr fun e w' => ∃ v, e = .returned (.tuple #[v, .int .u32 ((y % 10 : Nat) : Int)]) ∧ NumAt w' v (y / 10) ∧ Below wr.heap.size wr w') := cS
            have hlz' : (ws'.length : Int) > 0 := by omega
            generalize hr : y % 10 = r at *
            clear hcl cS
            go_wp2_with fail
            refine CS.out.mono ?_
            rintro e w2 ⟨v2, rfl, hn2, hb2⟩
            have hrr : (r : Int) < 10 := by omega
            have hown2 := own_below hown hb2
            have hsz2 := hb2.size
            go_wp2_with (at_builtin; refine wpList_append_own _ rfl _ _ 76 rfl w.heap.size 5 i0 (.int .u8 0) 1 1 Tryd.underlying76 hi hz0 hz1 hz2 rfl (by decide) _ _ _ rfl (hown2.alloc _) ⟨w2.heap.size, 0, none⟩ 1 1 [.int .u8 (((UInt8.ofNat (48 + r)).toNat : Nat) : Int)] rfl rfl ?c1 ?c2 ?c3 ?c4 ?c5 ?_)
            case c1 =>
              intro j u hj
              match j, hj with
              | 0, hj => 
                simp at hj; subst hj; rw [addj]
                have e8 : (((UInt8.ofNat (48 + r)).toNat : Nat) : Int) = 48 + (r : Int) := by rw [dig_toNat r (by omega)]; omega
                simp at e8 ⊢
                omega
            case c2 => intro u hu; simp at hu; subst hu; rfl
            case c3 => unfold maxLen; omega
            case c4 => omega
            case c5 => simp; omega
            intro v' w3 hown' hgrow _
            have hn3 : NumAt w3 v2 (y / 10) := (hn2.keep ((Below.refl _ _).alloc (Nat.le_refl _) _)).grown hgrow (by
              intro g3 c hg3
              by_cases ha : acc = []
              · rw [HNIL.out ha] at hg3; cases hg3
              · intro hc
                have h5 := fun o => (hown2.alloc o).cells hg3 0 _ (byteCells_at acc 0 (List.length_pos_iff.2 ha))
                rw [addj] at h5
                have := hc.symm.trans (h5 _)
                cases this)
            go_wp2
            go_roundw
            case rel =>
              refine ⟨acc ++ [UInt8.ofNat (48 + r)], y / 10, ?_, ?_, hn3, by omega, ((hbw.trans (hb2.mono hsz)).alloc (by omega) _).grown hgrow (by simp; omega) (fun q hq => (hown2.lt q hq).1), by simp⟩
              · rw [List.append_assoc, List.singleton_append, ← hrv]; exact HA.out
              · rw [Lib.byteCells_append, List.length_append]
                exact hown'
            case measure => 
              have hlt : acc.length < rx.length := by
                rw [← HA.out, hrv]; simp
              have e1 : slen u5 = acc.length := own_slen hown
              have e2 : slen v' = acc.length + 1 := own_slen hown'
              omega

theorem intString_any (zb : Nat) (neg : Bool) (x : Nat) (w : World) (h : IntAt w zb neg x) (hx : x < 100000000000000000000) :
    Calls Tryd.prog 70 #[.pointer (some ⟨zb, 0, none⟩)] w fun e w' => e = .returned (.string ⟨(txt neg x).toArray⟩) ∧ Below w.heap.size w w' := by
  go_enter Tryd.func70, Tryd.ntmps70
  go_wp2_with fail
  refine (text_any zb neg x w h hx).mono ?_
  rintro e w1 ⟨rfl, hb⟩
  go_wp2
  go_ret
  exact ⟨rfl, hb⟩
theorem txt_itoa (n : Int) : txt (decide (n < 0)) n.natAbs = Lib.itoa n := by
  unfold txt Lib.itoa
  by_cases h0 : n = 0
  · subst h0
    show (if (0 : Int).natAbs = 0 then [48] else _) = _
    rw [if_pos (by rfl), if_neg (by omega), Lib.decDigits]; rfl
  · rw [if_neg (by omega)]
    by_cases h : n < 0
    · simp [h]
    · simp [h]; congr 1; omega
end Go.Proofs.YthojpcclhcpeaaaDoor
