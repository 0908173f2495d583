/-
  Numbers of package duetbig as decimal digits: the contracts of duetbig.twin, Int.Text at base 10 and Int.String, for every number below 10^20.
-/
import Derived.Test.YtecapnipkngniaaGreatDoorBe
import Derived.Test.YtecapnipkngniaaGreatDoorLr
import Derived.Test.YtecapnipkngniaaGreatDoorQm
import Derived.Laws.CopyOwn
import Derived.Laws.BitsAllLaws
namespace Go.Proofs.YtecapnipkngniaaGreatDoor
open Go.RowKit Go.Shelf

/-- the digits of a number, the least first -/
def revd (x : Nat) : List UInt8 :=
  if h : x = 0 then [] else
    have _hx : x / 10 < x := Nat.div_lt_self (Nat.pos_of_ne_zero h) (by omega)
    UInt8.ofNat (48 + x % 10) :: revd (x / 10)
theorem revd_zero : revd 0 = [] := by rw [revd]; rfl
theorem revd_pos (x : Nat) (h : x ≠ 0) : revd x = UInt8.ofNat (48 + x % 10) :: revd (x / 10) := by rw [revd, dif_neg h]
theorem revd_dec : ∀ (m x : Nat), x ≤ m → x ≠ 0 → (revd x).reverse = Lib.decDigits x
  | m, x, hm, h0 => by
    rw [revd_pos x h0, Lib.decDigits]
    by_cases h : x < 10
    · rw [dif_pos h, show x / 10 = 0 by omega, revd_zero, Nat.mod_eq_of_lt h]; rfl
    · rw [dif_neg h, List.reverse_cons]
      match m, hm with
      | 0, hm => omega
      | m + 1, hm => rw [revd_dec m (x / 10) (by omega) (by omega)]
theorem revd_len : ∀ (k x : Nat), x < 10 ^ k → (revd x).length ≤ k
  | 0, x, h => by have : x = 0 := by omega
                  subst this; rw [revd_zero]; simp
  | k + 1, x, h => by
    by_cases h0 : x = 0
    · subst h0; rw [revd_zero]; simp
    · rw [revd_pos x h0]
      have := revd_len k (x / 10) (by rw [Nat.pow_succ] at h; omega)
      simp; omega

theorem NumAt.grown {w w' : World} {v : Value} {x : Nat} {row : Option Nat} (h : NumAt w v x) (hg : w.grownBy w' row) (hr : ∀ g c, row = some g → w.cell? ⟨g, 0, none⟩ ≠ some (.int .u32 c)) : NumAt w' v x := by
  obtain ⟨ws, h1, h2⟩ := h
  refine ⟨ws, h1, ?_⟩
  rcases h2 with h | ⟨g, cap, e1, e2, e3, e4⟩
  · exact .inl h
  · refine .inr ⟨g, cap, e1, e2, Nat.lt_of_lt_of_le e3 hg.size, fun j hj => ?_⟩
    rw [← e4 j hj]
    refine World.cell?_of_block (a := ⟨g, j, none⟩) (hg.block g e3 fun e => ?_)
    exact hr g _ e.symm (e4 0 (by omega))

theorem addj (g j : Nat) : (Addr.add ⟨g, 0, none⟩ j) = ⟨g, j, none⟩ := by unfold Addr.add; split <;> simp_all
theorem info_u32 : ∃ i : TypeInfo, Tryz.prog.info? 122 = some i ∧ i.zero = some (.int .u32 0) ∧ i.size = 1 ∧ i.bytes = 4 := by
  obtain ⟨i, hi, hx⟩ := Option.map_eq_some_iff.1 info32
  simp only [Prod.mk.injEq] at hx
  exact ⟨i, hi, hx.1, hx.2.1, hx.2.2⟩

set_option maxHeartbeats 400000 in
theorem twin_any (g cap : Nat) (ws : List Nat) (x : Nat) (w : World) (hw : Words ws x) (hl0 : 0 < ws.length) (hlen : ws.length ≤ 1000000) (hc : ∀ j, j < ws.length → w.cell? ⟨g, j, none⟩ = some (.int .u32 (ws.getD j 0 : Nat))) :
    Calls Tryz.prog 82 #[.slice (some ⟨g, 0, none⟩) ws.length cap] w fun e w' => ∃ v, e = .returned v ∧ NumAt w' v x ∧ Below w.heap.size w w' := by
  obtain ⟨i0, hi, hz0, hz1, hz2⟩ := info_u32
  have hnil := World.ownsRow_nil w w.heap.size 122 1
  have HC : Hid (∀ j, j < ws.length → w.cell? ⟨g, j, none⟩ = some (.int .u32 (ws.getD j 0 : Nat))) := hc
  clear hc
  go_enter Tryz.func82, Tryz.ntmps82
  go_wp2_with (at_builtin; refine wpList_append_own _ rfl _ _ 98 rfl w.heap.size 122 i0 (.int .u32 0) 1 4 Tryz.underlying98 hi hz0 hz1 hz2 rfl (by decide) _ _ _ rfl hnil ⟨g, 0, none⟩ ws.length cap (ws.map fun (y : Nat) => Value.int .u32 (y : Int)) rfl (by simp) ?c1 ?c2 ?c3 ?c4 ?c5 ?_)
  case c1 =>
    intro j u hj
    rw [List.getElem?_map] at hj
    by_cases hjl : j < ws.length
    · rw [List.getElem?_eq_getElem hjl] at hj
      simp at hj
      subst hj
      have := HC.out j hjl
      rw [addj]
      rw [this, List.getD, List.getElem?_eq_getElem hjl]; rfl
    · rw [List.getElem?_eq_none (by omega)] at hj; simp at hj
  case c2 => intro u hu; simp at hu; obtain ⟨y, _, rfl⟩ := hu; rfl
  case c3 => unfold maxLen; omega
  case c4 => omega
  case c5 => omega
  intro v' w2 hown' hgrow hnn
  have hnum : NumAt w2 v' x := by
    refine ⟨ws, hw, ?_⟩
    rcases hown'.2 with ⟨_, h0⟩ | ⟨g', cap', cur, hv, hb, hbk, hcap, _, _, htk⟩
    · omega
    · refine .inr ⟨g', cap', by rw [hv], by omega, (Array.getElem?_eq_some_iff.1 hbk).1, fun j hj => ?_⟩
      have h1 := hown'.cells (g := g') (by rw [hv]; rfl) j (.int .u32 (ws.getD j 0 : Nat)) (by simp [List.getD, List.getElem?_eq_getElem hj])
      rw [addj] at h1
      exact h1
  have hbw : Below w.heap.size w w2 := (Below.refl _ _).grown hgrow (Nat.le_refl _) (fun k hk => by simp [Value.ownBlock] at hk)
  obtain ⟨ao, n', cap', rfl⟩ : ∃ ao n' cap', v' = .slice ao n' cap' := by
    rcases hown'.2 with ⟨hv, _⟩ | ⟨g, cap, cur, hv, _⟩
    · exact ⟨_, _, _, hv⟩
    · exact ⟨_, _, _, hv⟩
  go_wp2
  go_ret
  exact ⟨_, rfl, hnum, hbw⟩

theorem byteCells_at (l : List UInt8) (j : Nat) (h : j < l.length) : (Lib.byteCells l)[j]? = some (.int .u8 ((l.getD j 0).toNat : Int)) := by
  simp [Lib.byteCells, List.getD, List.getElem?_eq_getElem h]
theorem byteCells_set (l : List UInt8) (j : Nat) (b : UInt8) : Lib.byteCells (l.set j b) = (Lib.byteCells l).set j (.int .u8 (b.toNat : Int)) := by
  unfold Lib.byteCells; rw [List.map_set]
/-- turned round as far as k from both ends -/
def RevAt (t l : List UInt8) (k : Nat) : Prop := ∀ m, m < t.length → l.getD m 0 = if m < k ∨ t.length ≤ m + k then t.getD (t.length - 1 - m) 0 else t.getD m 0
theorem revAt_zero (t : List UInt8) : RevAt t t 0 := fun m hm => by rw [if_neg (by omega)]
theorem getD_set (l : List UInt8) (j m : Nat) (b : UInt8) (hm : m < l.length) : (l.set j b).getD m 0 = if j = m then b else l.getD m 0 := by
  rw [List.getD, List.getElem?_set, List.getD]
  by_cases e : j = m
  · subst e; simp [hm]
  · simp [e]
theorem revAt_step (t l : List UInt8) (k m : Nat) (hm : t.length = m + 1 + k) (hl : l.length = t.length) (hlt : k < m) (h : RevAt t l k) : RevAt t ((l.set k (l.getD m 0)).set m (l.getD k 0)) (k + 1) := by
  intro q hq
  rw [getD_set _ _ _ _ (by simp; omega), getD_set _ _ _ _ (by omega)]
  by_cases e1 : m = q
  · subst e1
    rw [if_pos rfl, if_pos (by omega), h k (by omega), if_neg (by omega)]
    congr 1; omega
  · rw [if_neg e1]
    by_cases e2 : k = q
    · subst e2
      rw [if_pos rfl, if_pos (by omega), h m (by omega), if_neg (by omega)]
      congr 1; omega
    · rw [if_neg e2, h q hq]
      by_cases e3 : q < k ∨ t.length ≤ q + k
      · rw [if_pos e3, if_pos (by omega)]
      · rw [if_neg e3, if_neg (by omega)]
theorem revAt_end (t l : List UInt8) (k : Nat) (hl : l.length = t.length) (hk : t.length ≤ k + k + 1) (h : RevAt t l k) : l = t.reverse := by
  apply List.ext_getElem
  · simp [hl]
  · intro m h1 h2
    have hm : m < t.length := by omega
    have e := h m hm
    rw [List.getElem_reverse]
    have e1 : l.getD m 0 = l[m] := by rw [List.getD, List.getElem?_eq_getElem h1]; rfl
    have e2 : t.getD (t.length - 1 - m) 0 = t[t.length - 1 - m] := by rw [List.getD, List.getElem?_eq_getElem (by omega)]; rfl
    rw [← e1, ← e2, e]
    split
    · rfl
    · congr 1; omega
def slen : Value → Nat
  | .slice _ n _ => n
  | _ => 0

theorem own_slen {base : Nat} {e : TypeId} {size : Nat} {v : Value} {n : Nat} {xs : List Value} {w : World} (h : w.ownsRow base e size v n xs) : slen v = n := by
  rcases h.2 with ⟨rfl, rfl⟩ | ⟨g, cap, cur, rfl, _⟩ <;> rfl

/-- a number's decimal digits, with a sign -/
def txt (neg : Bool) (x : Nat) : List UInt8 := if x = 0 then [48] else if neg then 45 :: Lib.decDigits x else Lib.decDigits x

theorem txt_itoa (n : Int) : txt (decide (n < 0)) n.natAbs = Lib.itoa n := by
  unfold txt Lib.itoa
  by_cases h0 : n = 0
  · subst h0
    show (if (0 : Int).natAbs = 0 then [48] else _) = _
    rw [if_pos (by rfl), if_neg (by omega), Lib.decDigits]; rfl
  · rw [if_neg (by omega)]
    by_cases h : n < 0
    · simp [h]
    · simp [h]; congr 1; omega
end Go.Proofs.YtecapnipkngniaaGreatDoor
/-
  Numbers of package duetbig that are summed: the contracts of duetbig.sum and Int.give, for numbers whose words lie in blocks.
-/
namespace Go.Proofs.YtecapnipkngniaaGreatDoor
open Go.RowKit

def sg (n : Bool) (x : Nat) : Int := if n then -(x : Int) else (x : Int)
theorem BlkAt.keep {W W' : World} {g : Nat} {v : Value} {x : Nat} (h : BlkAt W g v x) (hb : Below W.heap.size W W') : BlkAt W' g v x := by
  obtain ⟨ws, cap, h1, h2, h3, h4, h5⟩ := h
  exact ⟨ws, cap, h1, h2, h3, Nat.lt_of_lt_of_le h4 hb.size, fun j hj => (hb.cell (p := ⟨g, j, none⟩) h4).trans (h5 j hj)⟩
theorem bsub_any (va vb : Value) (ga gb x y : Nat) (w : World) (ha : BlkAt w ga va x) (hb : BlkAt w gb vb y) (hx : x < 4294967296 ^ 9) (hyx : y ≤ x) :
    Calls Tryz.prog 117 #[va, vb] w fun e w' => ∃ v, e = .returned v ∧ NumAt w' v (x - y) ∧ Below w.heap.size w w' := by
  obtain ⟨al, ca, a1, rfl, a3, a4, a5⟩ := ha
  obtain ⟨bl, cb, b1, rfl, b3, b4, b5⟩ := hb
  have hl := words_len a1 hx
  have hle : bl.length ≤ al.length := by
    rcases Nat.lt_or_ge al.length bl.length with h | h
    · have := words_lt a1 b1 h; omega
    · exact h
  have := bsub_some ga ca gb cb al bl w a1.small b1.small (by omega) hle a4 b4 a5 b5 (by rw [a1.val, b1.val]; exact hyx)
  rw [a1.val, b1.val] at this
  exact this
set_option maxRecDepth 100000 in
set_option maxHeartbeats 1000000 in
theorem bsum_any (xn yn : Bool) (va vb : Value) (ga gb x y : Nat) (w : World) (ha : BlkAt w ga va x) (hb : BlkAt w gb vb y) (hx : x < 4294967296 ^ 9) (hy : y < 4294967296 ^ 9) :
    Calls Tryz.prog 84 #[.bool xn, va, .bool yn, vb] w fun e w' => ∃ (n : Bool) (v : Value) (m : Nat), e = .returned (.tuple #[.bool n, v]) ∧ NumAt w' v m ∧ sg n m = sg xn x + sg yn y ∧ Below w.heap.size w w' := by
  obtain ⟨na, ca, rfl⟩ := ha.slot
  obtain ⟨nb, cb, rfl⟩ := hb.slot
  by_cases hn : xn = yn
  · subst hn
    have cA := add_any _ _ x y w hx hy ha.num hb.num hb.ne
    have HS : Hid (sg xn (x + y) = sg xn x + sg xn y) := by show _ = _; unfold sg; split <;> omega
    have e1 : (xn == xn) = true := by simp
    go_enter Tryz.func84, Tryz.ntmps84
    go_wp2_with fail
    refine cA.mono ?_
    rintro e w1 ⟨v, rfl, hv, hb1⟩
    go_wp2_with fail
    go_ret2
    exact ⟨xn, v, x + y, rfl, hv, HS.out, hb1⟩
  · have e1 : (xn == yn) = false := by simpa using hn
    have hsg : yn = !xn := by cases xn <;> cases yn <;> simp_all
    have cC := bcmp_any _ _ x y w ha.num hb.num hx
    by_cases hle : y ≤ x
    · have HS : Hid (sg xn (x - y) = sg xn x + sg yn y) := by show _ = _; rw [hsg]; unfold sg; cases xn <;> simp <;> omega
      have HA := hideC (fun w1 (hb1 : Below w.heap.size w w1) => bsub_any _ _ ga gb x y w1 (ha.keep hb1) (hb.keep hb1) hx hle)
      have hge : cmpN x y ≥ 0 := by unfold cmpN; split <;> (try split) <;> omega
      clear hsg hn
      generalize cmpN x y = z at *
      go_enter Tryz.func84, Tryz.ntmps84
      go_wp2_with fail
      refine cC.mono ?_
      rintro e w1 ⟨rfl, hb1⟩
      go_wp2_with fail
      refine (HA.out w1 hb1).mono ?_
      rintro e w2 ⟨v, rfl, hv, hb2⟩
      go_wp2_with fail
      go_ret2
      exact ⟨xn, v, x - y, rfl, hv, HS.out, hb1.trans (hb2.mono hb1.size)⟩
    · have HS : Hid (sg yn (y - x) = sg xn x + sg yn y) := by show _ = _; rw [hsg]; unfold sg; cases xn <;> simp <;> omega
      have HA := hideC (fun w1 (hb1 : Below w.heap.size w w1) => bsub_any _ _ gb ga y x w1 (hb.keep hb1) (ha.keep hb1) hy (by omega))
      have hge : ¬ cmpN x y ≥ 0 := by unfold cmpN; rw [if_pos (by omega)]; omega
      clear hsg hn
      generalize cmpN x y = z at *
      go_enter Tryz.func84, Tryz.ntmps84
      go_wp2_with fail
      refine cC.mono ?_
      rintro e w1 ⟨rfl, hb1⟩
      go_wp2_with fail
      refine (HA.out w1 hb1).mono ?_
      rintro e w2 ⟨v, rfl, hv, hb2⟩
      go_wp2_with fail
      go_ret2
      exact ⟨yn, v, y - x, rfl, hv, HS.out, hb1.trans (hb2.mono hb1.size)⟩
/-- a number in its block zb, its words in a block, that may be written -/
structure IntB (W : World) (zb : Nat) (neg : Bool) (x : Nat) : Prop where
  lt : zb < W.heap.size
  c0 : W.cell? ⟨zb, 0, none⟩ = some (.bool neg)
  c1 : ∃ g v, W.cell? ⟨zb, 1, none⟩ = some v ∧ BlkAt W g v x
  f0 : W.frozen? ⟨zb, 0, none⟩ = false
  f1 : W.frozen? ⟨zb, 1, none⟩ = false
theorem IntB.keep {W W' : World} {zb : Nat} {neg : Bool} {x : Nat} (h : IntB W zb neg x) (hb : Below W.heap.size W W') : IntB W' zb neg x := by
  obtain ⟨h1, h2, ⟨g, v, h3, h4⟩, h5, h6⟩ := h
  exact ⟨Nat.lt_of_lt_of_le h1 hb.size, (hb.cell (p := ⟨zb, 0, none⟩) h1).trans h2, ⟨g, v, (hb.cell (p := ⟨zb, 1, none⟩) h1).trans h3, h4.keep hb⟩, (hb.frozen (p := ⟨zb, 0, none⟩) h1).trans h5, (hb.frozen (p := ⟨zb, 1, none⟩) h1).trans h6⟩
/-- both cells of a number stored -/
def putI (W : World) (zb : Nat) (v : Value) (n : Bool) : World := (W.setCell ⟨zb, 1, none⟩ v).setCell ⟨zb, 0, none⟩ (.bool n)
theorem putI_other (W : World) (zb : Nat) (v : Value) (n : Bool) (g j : Nat) (h : g ≠ zb) : (putI W zb v n).cell? ⟨g, j, none⟩ = W.cell? ⟨g, j, none⟩ := by
  unfold putI
  rw [World.cell?_setCell_other _ _ _ _ (by intro c; injection c; omega), World.cell?_setCell_other _ _ _ _ (by intro c; injection c; omega)]
theorem putI_size (W : World) (zb : Nat) (v : Value) (n : Bool) : (putI W zb v n).heap.size = W.heap.size := by unfold putI; simp
theorem putI_frozen (W : World) (zb : Nat) (v : Value) (n : Bool) (p : Addr) : (putI W zb v n).frozen? p = W.frozen? p := by unfold putI; simp only [World.frozen?_setCell]
theorem putI_below {B : Nat} {w W : World} (h : Below B w W) (zb : Nat) (hz : B ≤ zb) (v : Value) (n : Bool) : Below B w (putI W zb v n) := (h.setCell (p := ⟨zb, 1, none⟩) hz v).setCell (p := ⟨zb, 0, none⟩) hz _
theorem putI_0 {W : World} {zb : Nat} {b : Bool} (h : W.cell? ⟨zb, 0, none⟩ = some (.bool b)) (v : Value) (n : Bool) : (putI W zb v n).cell? ⟨zb, 0, none⟩ = some (.bool n) := by
  unfold putI
  exact World.cell?_setCell_same _ _ _ ((World.cell?_setCell_other _ _ _ _ (by intro c; injection c; omega)).trans h)
theorem putI_1 {W : World} {zb : Nat} {c : Value} (h : W.cell? ⟨zb, 1, none⟩ = some c) (v : Value) (n : Bool) : (putI W zb v n).cell? ⟨zb, 1, none⟩ = some v := by
  unfold putI
  rw [World.cell?_setCell_other _ _ _ _ (by intro c; injection c; omega)]
  exact World.cell?_setCell_same _ _ _ h
theorem BlkAt.putI {W : World} {zb g : Nat} {v : Value} {x : Nat} {b : Bool} (h : BlkAt W g v x) (h0 : W.cell? ⟨zb, 0, none⟩ = some (.bool b)) (c : Value) (n : Bool) : BlkAt (Go.Proofs.YtecapnipkngniaaGreatDoor.putI W zb c n) g v x := by
  obtain ⟨ws, cap, h1, h2, h3, h4, h5⟩ := h
  refine ⟨ws, cap, h1, h2, h3, by rw [putI_size]; exact h4, fun j hj => ?_⟩
  rw [putI_other]
  · exact h5 j hj
  · rintro rfl
    have := h5 0 (by omega)
    rw [h0] at this
    cases this
theorem NumAt.putI {W : World} {zb : Nat} {v : Value} {x : Nat} {b : Bool} (h : NumAt W v x) (h0 : W.cell? ⟨zb, 0, none⟩ = some (.bool b)) (c : Value) (n : Bool) : NumAt (Go.Proofs.YtecapnipkngniaaGreatDoor.putI W zb c n) v x :=
  h.put h0 (by rw [putI_size]; omega) (fun g j hg _ => putI_other W zb c n g j hg)
set_option maxHeartbeats 400000 in
theorem give_eq (zb : Nat) (neg : Bool) (ao : Option Addr) (n cap : Nat) (w : World) (b0 : Bool) (c1 : Value) (h0 : w.cell? ⟨zb, 0, none⟩ = some (.bool b0)) (h1 : w.cell? ⟨zb, 1, none⟩ = some c1) (f0 : w.frozen? ⟨zb, 0, none⟩ = false) (f1 : w.frozen? ⟨zb, 1, none⟩ = false) :
    Calls Tryz.prog 81 #[.pointer (some ⟨zb, 0, none⟩), .bool neg, .slice ao n cap] w fun e w' => e = .returned (.pointer (some ⟨zb, 0, none⟩)) ∧ w' = putI w zb (.slice ao n cap) (neg && decide (0 < n)) := by
  have k0 : (w.setCell ⟨zb, 1, none⟩ (.slice ao n cap)).cell? ⟨zb, 0, none⟩ = some (.bool b0) := by
    rw [World.cell?_setCell_other _ _ _ _ (by intro c; injection c; omega)]; exact h0
  cases neg with
  | false =>
    go_enter Tryz.func81, Tryz.ntmps81
    go_wp2
    go_ret
    exact ⟨rfl, rfl⟩
  | true =>
    by_cases hn : 0 < n
    · have hn' : (n : Int) > 0 := by omega
      go_enter Tryz.func81, Tryz.ntmps81
      go_wp2
      go_ret
      exact ⟨rfl, by rw [show (true && decide (0 < n)) = true by simp [hn]]; rfl⟩
    · have hn' : ¬ (n : Int) > 0 := by omega
      go_enter Tryz.func81, Tryz.ntmps81
      go_wp2
      go_ret
      exact ⟨rfl, rfl⟩
theorem num_pos {W : World} {ao : Option Addr} {n cap x : Nat} (h : NumAt W (.slice ao n cap) x) : decide (0 < n) = decide (x ≠ 0) := by
  obtain ⟨ws, q1, q2⟩ := h
  obtain ⟨ao', cap', e⟩ := q2.slot
  injection e with e1 e2 e3
  subst e2
  by_cases hx : x = 0
  · subst hx; rw [words_zero q1]; rfl
  · have : ws ≠ [] := by rintro rfl; exact hx (by rw [← q1.val]; rfl)
    have := List.length_pos_iff.2 this
    simp [hx]; omega
theorem NumAt.slc {W : World} {v : Value} {x : Nat} (h : NumAt W v x) : ∃ ao n cap, v = .slice ao n cap := by
  obtain ⟨ws, q1, q2⟩ := h
  obtain ⟨ao, cap, e⟩ := q2.slot
  exact ⟨_, _, _, e⟩
theorem sg_eq (n : Bool) (x : Nat) : sg (n && decide (x ≠ 0)) x = sg n x := by
  unfold sg
  by_cases hx : x = 0
  · subst hx; simp
  · simp [hx]
set_option maxHeartbeats 400000 in
theorem setB_any (zb : Nat) (x : Int) (w : World) (b0 : Bool) (c1 : Value) (hx1 : -9223372036854775808 ≤ x) (hx2 : x ≤ 9223372036854775807) (h0 : w.cell? ⟨zb, 0, none⟩ = some (.bool b0)) (h1 : w.cell? ⟨zb, 1, none⟩ = some c1) (f0 : w.frozen? ⟨zb, 0, none⟩ = false) (f1 : w.frozen? ⟨zb, 1, none⟩ = false) (hz : zb < w.heap.size) :
    Calls Tryz.prog 77 #[.pointer (some ⟨zb, 0, none⟩), .int .i64 x] w fun e w' => e = .returned (.pointer (some ⟨zb, 0, none⟩)) ∧ IntB w' zb (decide (x < 0)) x.natAbs ∧ Below zb w w' := by
  have CW := hideC (fun W => words_blk x.natAbs W (by omega))
  have HZ : Hid (∀ w1 v (b : Bool), BlkAt w1 w.heap.size v x.natAbs → Below w.heap.size w w1 → Calls Tryz.prog 81 #[.pointer (some ⟨zb, 0, none⟩), .bool b, v] w1 fun e w' => e = .returned (.pointer (some ⟨zb, 0, none⟩)) ∧ IntB w' zb (b && decide (x.natAbs ≠ 0)) x.natAbs ∧ Below zb w w') := by
    intro w1 v b hv hb
    have k0 := (hb.cell (p := ⟨zb, 0, none⟩) hz).trans h0
    have k1 := (hb.cell (p := ⟨zb, 1, none⟩) hz).trans h1
    have q0 := (hb.frozen (p := ⟨zb, 0, none⟩) hz).trans f0
    have q1 := (hb.frozen (p := ⟨zb, 1, none⟩) hz).trans f1
    obtain ⟨n, cap, rfl⟩ := hv.slot
    refine (give_eq zb b _ n cap w1 b0 c1 k0 k1 q0 q1).mono ?_
    rintro e w2 ⟨rfl, rfl⟩
    rw [num_pos hv.num]
    exact ⟨rfl, ⟨by rw [putI_size]; exact Nat.lt_of_lt_of_le hz hb.size, putI_0 k0 _ _, ⟨_, _, putI_1 k1 _ _, hv.putI k0 _ _⟩, by rw [putI_frozen]; exact q0, by rw [putI_frozen]; exact q1⟩, putI_below (hb.mono (Nat.le_of_lt hz)) zb (Nat.le_refl _) _ _⟩
  by_cases hx : x < 0
  · have e1 := neg_u64 x hx1 hx
    have e2 : decide (x < 0) = (true && decide (x.natAbs ≠ 0)) := by
      rw [decide_eq_true hx, decide_eq_true (by omega : x.natAbs ≠ 0)]; rfl
    rw [e2]
    clear e2
    go_enter Tryz.func77, Tryz.ntmps77
    go_wp2_with fail
    refine (CW.out _).mono ?_
    rintro e w1 ⟨v, rfl, hv, hb⟩
    obtain ⟨n, cap, rfl⟩ := hv.slot
    go_wp2_with fail
    refine (HZ.out _ _ _ hv hb).mono ?_
    rintro e w2 ⟨rfl, q1, q2⟩
    go_wp2
    go_ret
    exact ⟨rfl, q1, q2⟩
  · have e1 : IntKind.u64.wrap x = (x.natAbs : Int) := by
      unfold IntKind.wrap
      simp [IntKind.bits, IntKind.signed]
      omega
    have hx0 : 0 ≤ x := by omega
    have e2 : decide (x < 0) = (false && decide (x.natAbs ≠ 0)) := by rw [decide_eq_false hx]; rfl
    rw [e2]
    clear e2 hx
    generalize hm : x.natAbs = m at *
    have hxm : x = (m : Int) := by omega
    subst hxm
    clear hm hx0
    go_enter Tryz.func77, Tryz.ntmps77
    go_wp2_with fail
    refine (CW.out _).mono ?_
    rintro e w1 ⟨v, rfl, hv, hb⟩
    obtain ⟨n, cap, rfl⟩ := hv.slot
    go_wp2_with fail
    refine (HZ.out _ _ _ hv hb).mono ?_
    rintro e w2 ⟨rfl, q1, q2⟩
    go_wp2
    go_ret
    exact ⟨rfl, q1, q2⟩
set_option maxHeartbeats 400000 in
theorem newB_any (x : Int) (w : World) (hx1 : -9223372036854775808 ≤ x) (hx2 : x ≤ 9223372036854775807) :
    Calls Tryz.prog 47 #[.int .i64 x] w fun e w' => e = .returned (.pointer (some ⟨w.heap.size, 0, none⟩)) ∧ IntB w' w.heap.size (decide (x < 0)) x.natAbs ∧ Below w.heap.size w w' := by
  go_enter Tryz.func47, Tryz.ntmps47
  go_wp2_with fail
  refine (setB_any w.heap.size x _ false (.slice none 0 0) hx1 hx2 (by go_cell) (by go_cell) (by go_cell) (by go_cell) (by simp)).mono ?_
  rintro e w1 ⟨rfl, q1, q2⟩
  go_wp2
  go_ret
  exact ⟨rfl, q1, ((Below.refl _ _).alloc (Nat.le_refl _) _).trans q2⟩
theorem sg_of (x : Int) : sg (decide (x < 0)) x.natAbs = x := by
  unfold sg
  by_cases h : x < 0
  · rw [decide_eq_true h, if_pos rfl]; omega
  · rw [decide_eq_false h, if_neg (by simp)]; omega
end Go.Proofs.YtecapnipkngniaaGreatDoor

/-
  The contract of package duetbig's Int.low: the low words of two's complement.
-/
namespace Go.Proofs.YtecapnipkngniaaGreatDoor
open Go.RowKit

def u32s (qs : List Nat) : List Value := qs.map fun (y : Nat) => Value.int .u32 (y : Int)
theorem row_of {W : World} {g : Nat} {qs : List Nat} {t : TypeId} (h : W.heap[g]? = some (.cells (u32s qs).toArray t (0, 0))) : Row W g qs := by
  intro j hj
  constructor
  · unfold World.cell?
    rw [h]
    simp [u32s, List.getD, hj]
  · unfold World.frozen?
    rw [h]
    simp
theorem u32s_rep (n : Nat) : List.replicate n (Value.int .u32 0) = u32s (List.replicate n 0) := by unfold u32s; rw [List.map_replicate]; rfl
theorem splice_u (ws : List Nat) (n : Nat) : splice (u32s (List.replicate n 0)) 0 (u32s ws) = u32s (ws ++ List.replicate (n - ws.length) 0) := by
  unfold splice u32s
  simp
theorem val_pad (ws : List Nat) (k : Nat) : val (ws ++ List.replicate k 0) = val ws := by
  rw [val_append, val_zeros (List.replicate k 0) (fun x hx => (List.mem_replicate.1 hx).2)]; simp
theorem small_pad {ws : List Nat} (h : Small ws) (k : Nat) : Small (ws ++ List.replicate k 0) := by
  intro x hx
  rcases List.mem_append.1 hx with h1 | h1
  · exact h x h1
  · have := (List.mem_replicate.1 h1).2; omega
theorem xor_all (y : Nat) (h : y < 4294967296) : 4294967295 ^^^ y = 4294967295 - y := by
  have e : (BitVec.allOnes 32 ^^^ BitVec.ofNat 32 y).toNat = (~~~ (BitVec.ofNat 32 y)).toNat := by rw [BitVec.xor_comm, BitVec.xor_allOnes]
  rw [BitVec.toNat_not, BitVec.toNat_xor, BitVec.toNat_allOnes, BitVec.toNat_ofNat, Nat.mod_eq_of_lt (by omega)] at e
  simpa using e
theorem xor32 (y : Nat) (h : y < 4294967296) : bits BinOp.xor IntKind.u32 (if IntKind.u32.signed = true then -1 else IntKind.u32.max) (y : Int) = ((4294967295 - y : Nat) : Int) := by
  rw [if_neg (by decide), show IntKind.u32.max = 4294967295 by decide]
  have := u32_xor_nat 4294967295 y (by omega) h
  rw [xor_all y h] at this
  exact this
def lowV (neg : Bool) (x n : Nat) : Nat := if neg then (4294967296 ^ n - x) % 4294967296 ^ n else x
theorem low_step (p P A a c T : Nat) (ha : a < 4294967296) (hT : c + (4294967295 - a) = T) (h : P + p * c + A = p) : (P + p * (T % 4294967296)) + p * 4294967296 * (T / 4294967296) + (A + p * a) = p * 4294967296 := by
  have e : p * (T % 4294967296) + p * 4294967296 * (T / 4294967296) = p * T := by
    rw [Nat.mul_assoc, ← Nat.mul_add]
    congr 1
    omega
  have e2 : p * T + p * a = p * c + p * 4294967295 := by rw [← Nat.mul_add, ← Nat.mul_add]; congr 1; omega
  have e3 : p * 4294967296 = p * 4294967295 + p := by rw [show (4294967296 : Nat) = 4294967295 + 1 from rfl, Nat.mul_add, Nat.mul_one]
  omega
set_option maxRecDepth 100000 in
set_option maxHeartbeats 2000000 in
theorem low_any (zb : Nat) (neg : Bool) (x n : Nat) (w : World) (h : IntAt w zb neg x) (hn : n ≤ 1000) (hx : x < 4294967296 ^ n) :
    Calls Tryz.prog 113 #[.pointer (some ⟨zb, 0, none⟩), .int .i64 (n : Int)] w fun e w' => ∃ rs : List Nat, e = .returned (.slice (some ⟨w.heap.size, 0, none⟩) n n) ∧ rs.length = n ∧ Row w' w.heap.size rs ∧ Small rs ∧ val rs = lowV neg x n ∧ w.heap.size < w'.heap.size ∧ Below w.heap.size w w' := by
  obtain ⟨Z, hZ, hmk⟩ := make32 n (by omega)
  obtain ⟨hlt, hc0, v, hc1, ws, hw1, hw2⟩ := h
  have hwl := words_len hw1 hx
  obtain ⟨ao, cap, rfl⟩ := hw2.slot
  have hg0 : (w.alloc (.cells Z 122)).heap[w.heap.size]? = some (.cells (u32s (List.replicate n 0)).toArray 122 (0, 0)) := by
    rw [← u32s_rep, ← hZ]
    show (w.heap.push _)[w.heap.size]? = _
    simp
  have hb0 : Below w.heap.size w (w.alloc (.cells Z 122)) := (Below.refl _ _).alloc (Nat.le_refl _) _
  have k1 := (hb0.cell (p := ⟨zb, 1, none⟩) hlt).trans hc1
  obtain ⟨W1, hrun, hg1, hb1⟩ : ∃ W1, (Builtin.copy_ #[98, 98] 3 #[.slice (some ⟨w.heap.size, 0, none⟩) n n, .slice ao ws.length cap]).run Tryz.prog (w.alloc (.cells Z 122)) = .ok (goInt ws.length) W1 ∧ W1.heap[w.heap.size]? = some (.cells (u32s (ws ++ List.replicate (n - ws.length) 0)).toArray 122 (0, 0)) ∧ Below w.heap.size w W1 := by
    rw [← splice_u]
    rcases hw2 with ⟨e, e'⟩ | ⟨g, cap', e, _, hg, hc⟩
    · injection e with e1 e2 e3
      subst e1 e'
      refine ⟨_, run_copy_none _ _ _ _ _ _ _ _ _ _ _ Tryz.underlying98 (by kernel_rfl) (by simp), ?_, hb0⟩
      simpa [splice, u32s] using hg0
    · injection e with e1 e2 e3
      subst e1
      have hsrc : ∀ j v, (u32s ws)[j]? = some v → (w.alloc (.cells Z 122)).cell? (Addr.add ⟨g, 0, none⟩ j) = some v := by
        intro j v hv
        have hjl : j < ws.length := by
          rcases Nat.lt_or_ge j ws.length with h' | h'
          · exact h'
          · rw [List.getElem?_eq_none (by simpa [u32s] using h')] at hv; cases hv
        rw [addj, (hb0.cell (p := ⟨g, j, none⟩) hg), hc j hjl]
        simp [u32s, hjl] at hv
        simp [List.getD, hjl, hv]
      have hlen : (u32s ws).length = ws.length := by simp [u32s]
      have := run_copy_row (P := Tryz.prog) (w.alloc (.cells Z 122)) 98 98 3 122 w.heap.size 0 n n ⟨g, 0, none⟩ ws.length cap (u32s (List.replicate n 0)).toArray 122 (u32s ws) Tryz.underlying98 (by kernel_rfl) hg0 (by rw [hlen]; exact (Nat.min_eq_left hwl).symm) hsrc (by simp [u32s]; exact hwl) (by intro u hu; simp only [u32s, List.mem_map] at hu; obtain ⟨y, _, rfl⟩ := hu; rfl)
      rw [hlen] at this
      refine ⟨_, this, ?_, below_setRow hb0 (Nat.le_refl _) _⟩
      rw [setRow_heap _ _ _ _ _ _ hg0]
      unfold splice
      rw [hlen]
      simp
  have HW1 := hideC hw1
  have hrow : Hid (Row W1 w.heap.size (ws ++ List.replicate (n - ws.length) 0)) := row_of hg1
  have hlt1 : Hid (w.heap.size < W1.heap.size) := (Array.getElem?_eq_some_iff.1 hg1).1
  have k0 := (hb1.cell (p := ⟨zb, 0, none⟩) hlt).trans hc0
  have HB1 := hideC hb1
  clear hg0 hb0 hw2 hw1 hZ hg1 hb1
  generalize hL : lowV neg x n = L
  have HL := hideC hL
  clear hL
  cases neg with
  | false =>
    go_enter Tryz.func113, Tryz.ntmps113
    go_wp2_with fail
    go_ret
    exact ⟨ws ++ List.replicate (n - ws.length) 0, rfl, by simp; omega, hrow.out, small_pad HW1.out.small _, by rw [val_pad, ← HL.out]; exact HW1.out.val, hlt1.out, HB1.out⟩
  | true =>
    obtain ⟨xs, hxs⟩ : ∃ xs, ws ++ List.replicate (n - ws.length) 0 = xs := ⟨_, rfl⟩
    have hxl : Hid (xs.length = n) := by show _ = _; rw [← hxs]; simp; omega
    have hxv : Hid (val xs = x) := by show _ = _; rw [← hxs, val_pad]; exact HW1.out.val
    have hxsm : Small xs := by rw [← hxs]; exact small_pad HW1.out.small _
    rw [hxs] at hrow
    have HX := hideC hx
    clear hxs hx
    go_enter Tryz.func113, Tryz.ntmps113
    go_wp2_with fail
    go_loopw [6, 7] (fun c i wr => ∃ (k cn : Nat) (rs : List Nat), k ≤ n ∧ i = .int .i64 (k : Int) ∧ c = .int .u64 (cn : Int) ∧ cn ≤ 1 ∧ rs.length = n ∧ Row wr w.heap.size rs ∧ (∀ j, k ≤ j → rs.getD j 0 = xs.getD j 0) ∧ val (rs.take k) + 4294967296 ^ k * cn + val (xs.take k) = 4294967296 ^ k ∧ Small rs ∧ Below w.heap.size w wr ∧ w.heap.size < wr.heap.size) (fun c i wr => n - (intOf i).toNat)
    case atStart => exact ⟨0, 1, xs, Nat.zero_le _, rfl, rfl, by omega, hxl.out, hrow.out, fun j _ => rfl, by simp [val], hxsm, HB1.out, hlt1.out⟩
    case round =>
      obtain ⟨k, cn, rs, hk, rfl, rfl, hcn, hrl, hr, hrest, hval, hsr, hbw, hltr⟩ := hrel
      have HR := hideC hr
      have HV := hideC hval
      have HRL := hideC hrl
      have HRE := hideC hrest
      clear hr hval hrl hrest
      by_cases hkl : k < n
      · have hkz : (k : Int) < (n : Int) := by omega
        have hcq := (HR.out k (by have := HRL.out; omega)).1
        have hfq := (HR.out k (by have := HRL.out; omega)).2
        rw [HRE.out k (Nat.le_refl _)] at hcq
        generalize hy : xs.getD k 0 = y at hcq
        have hy2 : y < 4294967296 := by rw [← hy]; exact hxsm _ (getD_mem xs k (by have := hxl.out; omega))
        have HY := hideC hy
        clear hy
        have e0 := xor32 y hy2
        go_wp2_with fail
        obtain ⟨T, hT⟩ : ∃ T, cn + (4294967295 - y) = T := ⟨_, rfl⟩
        have e1 : (cn : Int) + ((4294967295 - y : Nat) : Int) = (T : Int) := by rw [← Int.natCast_add, hT]
        rw [e1]
        have ht1 : (T : Int) % 4294967296 = ((T % 4294967296 : Nat) : Int) := by omega
        have ht2 : (T : Int) / 4294967296 = ((T / 4294967296 : Nat) : Int) := by omega
        rw [ht1, ht2]
        have hkl2 : k < rs.length := by have := HRL.out; omega
        refine ⟨⟨k + 1, T / 4294967296, rs.set k (T % 4294967296), by omega, by go_num, rfl, by omega, by rw [List.length_set]; exact HRL.out, HR.out.set k (T % 4294967296) hkl2, fun j hj => by rw [getD_set_ne _ _ _ _ (by omega)]; exact HRE.out j (by omega), ?_, small_set hsr _ _ (by omega), hbw.setCell (Nat.le_refl _) _, by simpa using hltr⟩, by simp [intOf]; omega⟩
        have hst := low_step (4294967296 ^ k) _ _ y cn T hy2 hT HV.out
        rw [val_take_succ _ k (by rw [List.length_set]; exact hkl2), take_set_same, getD_set_self _ _ _ hkl2, val_take_succ xs k (by have := hxl.out; omega), HY.out, Nat.pow_succ]
        exact hst
      · have hk2 : k = n := by omega
        subst hk2
        have hvs : Hid (val rs = L) := by
          show _ = _
          have h1 := HV.out
          rw [List.take_of_length_le (by have := HRL.out; omega), List.take_of_length_le (by have := hxl.out; omega), hxv.out] at h1
          have h2 := val_lt rs hsr
          rw [HRL.out] at h2
          rw [← HL.out]
          unfold lowV
          rw [if_pos rfl]
          have hc : cn = 0 ∨ cn = 1 := by omega
          rcases hc with rfl | rfl
          · by_cases hx0 : x = 0
            · omega
            · rw [Nat.mod_eq_of_lt (by omega)]; omega
          · have : x = 0 := by omega
            subst this
            rw [Nat.sub_zero, Nat.mod_self]; omega
        have HB := hideC hbw
        clear hbw
        go_wp2_with fail
        go_ret
        exact ⟨rs, rfl, HRL.out, HR.out, hsr, hvs.out, hltr, HB.out⟩
end Go.Proofs.YtecapnipkngniaaGreatDoor
