/-
  The contracts of exprs.valueOfName and valueOf, for every right expression and every environment of values; utf8.ValidString's and strings.Compare's contracts are hypotheses here.
-/
import Derived.Test.YtecapnipkngniaaGreatDoorXj
namespace Go.Proofs.YtecapnipkngniaaGreatDoor
open Go.RowKit Go.Shelf
variable (Tabs : World → Prop)

/-- what a name stands for -/
def lookV (bs : List (ByteArray × Vl)) (nm : ByteArray) : Vl := match lastOf nm bs with
  | some v => v
  | none => ⟨0, 0, ⟨#[]⟩⟩
theorem lookV_none (bs : List (ByteArray × Vl)) (nm : ByteArray) (h : ∀ i (hi : i < bs.length), bs[i].1 ≠ nm) : lookV bs nm = ⟨0, 0, ⟨#[]⟩⟩ := by
  unfold lookV; rw [lastOf_none nm _ h]
theorem lookV_at (bs : List (ByteArray × Vl)) (nm : ByteArray) (k : Nat) (hk : k < bs.length) (h : bs[k].1 = nm) (ha : ∀ i (hi : i < bs.length), k < i → bs[i].1 ≠ nm) : lookV bs nm = bs[k].2 := by
  unfold lookV; rw [lastOf_at nm _ k hk h ha]
theorem lastOf_mem {α : Type} (nm : ByteArray) : ∀ (l : List (ByteArray × α)) (v : α), lastOf nm l = some v → ∃ p ∈ l, p.2 = v ∧ p.1 = nm
  | [], v, h => by cases h
  | p :: r, v, h => by
    unfold lastOf at h
    cases hr : lastOf nm r with
    | some u => rw [hr] at h; obtain ⟨q, hq, e⟩ := lastOf_mem nm r u hr; cases h; exact ⟨q, .tail _ hq, e⟩
    | none =>
      rw [hr] at h
      simp only at h
      split at h
      · cases h; exact ⟨p, .head _, rfl, ‹_›⟩
      · cases h
theorem e0 : (⟨#[]⟩ : ByteArray).size ≤ 100 := by decide
theorem lookV_size (bs : List (ByteArray × Vl)) (h : ∀ p ∈ bs, p.2.s.size ≤ 100) (nm : ByteArray) : (lookV bs nm).s.size ≤ 100 := by
  unfold lookV
  cases e : lastOf nm bs with
  | none => exact e0
  | some v => obtain ⟨p, hp, rfl, _⟩ := lastOf_mem nm bs v e; exact h p hp

/-- values by their names, as binds -/
structure EnvAt (W : World) (B : Nat) (bs : List (ByteArray × Vl)) (ae : Option Addr) : Prop where
  bd : bs.length ≤ 9223372036854775806
  c : bs = [] ∨ ∃ b o, ae = some ⟨b, o, none⟩ ∧ b < B ∧ ∀ i (h : i < bs.length), W.cell? ⟨b, o + i * 4, none⟩ = some (.string bs[i].1) ∧ W.cell? ⟨b, o + i * 4 + 1, none⟩ = some (.int .i64 bs[i].2.so) ∧ W.cell? ⟨b, o + i * 4 + 2, none⟩ = some (.int .i64 bs[i].2.n) ∧ W.cell? ⟨b, o + i * 4 + 3, none⟩ = some (.string bs[i].2.s)
theorem EnvAt.keep {W W' : World} {B : Nat} {bs : List (ByteArray × Vl)} {ae : Option Addr} (h : EnvAt W B bs ae) (hb : Below B W W') : EnvAt W' B bs ae :=
  ⟨h.bd, h.c.imp id (fun ⟨b, o, e, hl, hc⟩ => ⟨b, o, e, hl, fun i hi => ⟨(hb.cell (p := ⟨b, o + i * 4, none⟩) hl).trans (hc i hi).1, (hb.cell (p := ⟨b, o + i * 4 + 1, none⟩) hl).trans (hc i hi).2.1, (hb.cell (p := ⟨b, o + i * 4 + 2, none⟩) hl).trans (hc i hi).2.2.1, (hb.cell (p := ⟨b, o + i * 4 + 3, none⟩) hl).trans (hc i hi).2.2.2⟩⟩)⟩
theorem EnvAt.mono {W : World} {B B' : Nat} {bs : List (ByteArray × Vl)} {ae : Option Addr} (h : EnvAt W B bs ae) (hB : B ≤ B') : EnvAt W B' bs ae :=
  ⟨h.bd, h.c.imp id (fun ⟨b, o, e, hl, hc⟩ => ⟨b, o, e, by omega, hc⟩)⟩

set_option maxHeartbeats 1000000 in
theorem valueOfName_any (nm : ByteArray) (bs : List (ByteArray × Vl)) (ae : Option Addr) (ce B : Nat) (w : World) (h : EnvAt w B bs ae) (hB : B ≤ w.heap.size) (hsz : ∀ p ∈ bs, p.2.s.size ≤ 100) :
    Calls Tryz.prog 44 #[.string nm, .slice ae bs.length ce] w fun e w' => e = .returned (vlV (lookV bs nm)) ∧ Below w.heap.size w w' := by
  have hw1 : Below B w (w.alloc (.cells #[.int .i64 0, .int .i64 0, .string ⟨#[]⟩] 23)) := (Below.refl _ _).alloc hB _
  obtain ⟨hbd, hcn⟩ := h.keep hw1
  have hZ := ZB.new w 23
  have HB : Hid (Below w.heap.size w (w.alloc (.cells #[.int .i64 0, .int .i64 0, .string ⟨#[]⟩] 23))) := (Below.refl _ _).alloc (Nat.le_refl _) _
  have hbz : (bs.length : Int) ≤ 9223372036854775806 := by omega
  clear h hw1
  go_enter Tryz.func44, Tryz.ntmps44
  go_wp2_with fail
  go_loop [5] (fun i => ∃ z : Int, i = .int .i64 z ∧ -1 ≤ z ∧ z < (bs.length : Int) ∧ ∀ j (hj : j < bs.length), z < (j : Int) → bs[j].1 ≠ nm) (fun i => (intOf i + 1).toNat)
  case atStart => exact ⟨_, rfl, by omega, by omega, fun j hj hl => by omega⟩
  case round =>
    obtain ⟨z, rfl, hz1, hz2, hall⟩ := hrel
    have HA : Hid (∀ j (hj : j < bs.length), z < (j : Int) → bs[j].1 ≠ nm) := hall
    clear hall
    by_cases h0 : 0 ≤ z
    · obtain ⟨k, rfl⟩ := Int.eq_ofNat_of_zero_le h0
      have hk : k < bs.length := by omega
      rcases hcn with e | ⟨b, o, rfl, _, hc⟩
      · subst e; simp at hk
      · obtain ⟨c0, c1, c2, c3⟩ := hc k hk
        by_cases he : bs[k].1 = nm
        · have hb : (bs[k].1.toList == nm.toList) = true := by rw [ba_beq]; simpa using he
          have HF : Hid (lookV bs nm = bs[k].2) := lookV_at bs nm k hk he (fun i hi hl => HA.out i hi (by omega))
          have hs := hsz bs[k] (List.getElem_mem hk)
          have cC := copied_any bs[k].2 (w.alloc (.cells #[.int .i64 0, .int .i64 0, .string ⟨#[]⟩] 23)) (by omega)
          simp only [vlV] at cC
          clear he hc hsz HA
          go_wp2_with fail
          refine cC.mono ?_
          rintro e w1 ⟨rfl, hb1⟩
          have hbw : Below w.heap.size w w1 := HB.out.trans (hb1.mono (by simp))
          obtain ⟨_, r0, r1, r2, f0, f1, f2⟩ := hZ.keep hb1
          clear cC hZ hb1 HB
          go_wp2_with fail
          refine bodyPost_ret (v := vlV bs[k].2) (by simp [results, Tryz.results44, go_sem, r0, r1, r2, vlV]) rfl ⟨by rw [HF.out], ?_⟩
          have hsz := hbw.size
          go_grown
        · have hb : (bs[k].1.toList == nm.toList) = false := by rw [ba_beq]; simpa using he
          have HE : Hid (¬ bs[k].1 = nm) := he
          clear he hc c1 c2 c3
          go_wp2_with fail
          go_round
          case rel =>
            refine ⟨_, rfl, by omega, by omega, fun j hj hl => ?_⟩
            by_cases hjk : j = k
            · subst hjk; exact HE.out
            · exact HA.out j hj (by omega)
          case measure => simp [intOf]
    · have hzm : z = -1 := by omega
      subst hzm
      have HF : Hid (lookV bs nm = ⟨0, 0, ⟨#[]⟩⟩) := lookV_none bs nm (fun i hi => HA.out i hi (by omega))
      clear hcn HA hsz
      go_wp2_with fail
      refine bodyPost_ret (v := .agg #[.int .i64 0, .int .i64 0, .string ⟨#[]⟩]) (by simp [results, Tryz.results44, go_sem]) rfl ⟨by rw [HF.out]; rfl, ?_⟩
      exact HB.out

theorem chk_size (so n : Int) (s : ByteArray) (h : chkZ vD so n s = 0) : s.size ≤ 100 := by
  unfold chkZ at h
  have he : ∀ b : Bool, argZ (s.toList.isEmpty && b) = 0 → s.size ≤ 100 := by
    intro b hb
    have := (argZ_zero _).1 hb
    rw [empty_toList] at this
    simp at this
    rw [this.1]; exact e0
  split at h
  · exact he true (by simpa using h)
  · split at h
    · exact he _ h
    · split at h
      · exact ((text_zero _ _ _).1 h).2.1
      · simp at h
theorem join_size (a b : ByteArray) : (joinS a b).size ≤ 100 := by
  unfold joinS; rw [str_size]; have := fit_len 0 (letS a ++ letS b) (by omega); omega
theorem val_size (F : ByteArray → Vl) (hF : ∀ nm, (F nm).s.size ≤ 100) : ∀ x : Ex, wfX x → (valX F x).s.size ≤ 100 := by
  intro x hw
  rcases wf_cases x hw with ⟨h, _, hg⟩ | ⟨h, _, _⟩ | ⟨h, a, hk, ha, hop⟩ | ⟨h, a, b, hk, ha, hb, hop⟩
  · rw [val_lit F x h]; exact chk_size _ _ _ hg
  · rw [val_name F x h]; exact hF _
  · rw [val_one F x a h hk]
    unfold oneV
    split
    · exact e0
    · split <;> exact e0
  · rw [val_two F x a b h hk]
    unfold twoV
    split
    · exact e0
    · split
      · exact e0
      · split
        · unfold cmpV; split
          · exact e0
          · split <;> exact e0
        · split
          · unfold joinV; split
            · exact join_size _ _
            · exact e0
          · exact e0

def VOSaid (bs : List (ByteArray × Vl)) (ae : Option Addr) (ce d : Nat) : Prop := ∀ (x : Ex) (ao : Option Addr) (cap B : Nat) (w : World), wfX x → ExBd x cap → KA w B d x.kids ao → EnvAt w B bs ae → B ≤ w.heap.size → Tabs w →
  Calls Tryz.prog 22 #[exVal x ao cap, .slice ae bs.length ce] w fun e w' => e = .returned (vlV (valX (lookV bs) x)) ∧ Below w.heap.size w w'

/-- what the last statement of valueOf reads -/
structure R9 (w : World) (nm : ByteArray) (sl : Value) (q b o : Nat) (z : Vl) (a : Ex) (ao : Option Addr) (cap : Nat) (W : World) : Prop where
  c1 : W.cell? ⟨w.heap.size, 1, none⟩ = some (.string nm)
  c5 : W.cell? ⟨w.heap.size, 5, none⟩ = some sl
  bx : Box W q z.so z.n z.s
  ex : ExAt W b (o + 6) a ao cap
  zb : ZB W (w.heap.size + 1)
  tb : Tabs W
  bl : Below w.heap.size w W
theorem R9.keep (hK : ∀ w w', Tabs w → Below w.heap.size w w' → Tabs w') {w : World} {nm : ByteArray} {sl : Value} {q b o : Nat} {z : Vl} {a : Ex} {ao : Option Addr} {cap : Nat} {W W' : World} (h : R9 Tabs w nm sl q b o z a ao cap W) (hb : Below W.heap.size W W') : R9 Tabs w nm sl q b o z a ao cap W' :=
  ⟨(hb.cell (p := ⟨w.heap.size, 1, none⟩) (Nat.lt_trans (Nat.lt_succ_self _) h.zb.lt)).trans h.c1, (hb.cell (p := ⟨w.heap.size, 5, none⟩) (Nat.lt_trans (Nat.lt_succ_self _) h.zb.lt)).trans h.c5, h.bx.keep hb, h.ex.keep hb (lt_of_cell h.ex.c0), h.zb.keep hb, hK _ _ h.tb hb, h.bl.trans (hb.mono h.bl.size)⟩

set_option maxHeartbeats 4000000 in
theorem valueOf_step (hV : VSaid vD Tabs) (hK : ∀ w w', Tabs w → Below w.heap.size w w' → Tabs w') (hC : CSaid) (bs : List (ByteArray × Vl)) (ae : Option Addr) (ce d : Nat) (hsz : ∀ p ∈ bs, p.2.s.size ≤ 100) (ih : ∀ d', d' < d → VOSaid Tabs bs ae ce d') : VOSaid Tabs bs ae ce d := by
  intro x ao cap B w hw hbd hka henv hB hT
  have hvs := val_size (lookV bs) (lookV_size bs hsz)
  obtain ⟨kd, nm, so, n, s, ks⟩ := x
  have hZ := ZB.new (w.alloc (.cells #[.int .i64 kd, .string nm, .int .i64 so, .int .i64 n, .string s, .slice ao ks.length cap] 26)) 23
  rw [show (w.alloc (.cells #[.int .i64 kd, .string nm, .int .i64 so, .int .i64 n, .string s, .slice ao ks.length cap] 26)).heap.size = w.heap.size + 1 by simp] at hZ
  have HB : Hid (Below w.heap.size w ((w.alloc (.cells #[.int .i64 kd, .string nm, .int .i64 so, .int .i64 n, .string s, .slice ao ks.length cap] 26)).alloc (.cells #[.int .i64 0, .int .i64 0, .string ⟨#[]⟩] 23))) := ((Below.refl _ _).alloc (Nat.le_refl _) _).alloc (by simp) _
  have hT2 := hK _ _ hT HB.out
  rcases wf_cases _ hw with ⟨h, hk, hg⟩ | ⟨h, hk, _⟩ | ⟨h, a, hk, ha, hop⟩ | ⟨h, a, a2, hk, ha, ha2, hop⟩
  · rw [val_lit _ _ h]
    simp only at h hk hg ⊢
    subst h hk
    have cC := copied_any ⟨so, n, s⟩ ((w.alloc (.cells #[.int .i64 1, .string nm, .int .i64 so, .int .i64 n, .string s, .slice ao 0 cap] 26)).alloc (.cells #[.int .i64 0, .int .i64 0, .string ⟨#[]⟩] 23)) (show s.size ≤ 281474976710656 by have := chk_size _ _ _ hg; omega)
    simp only [vlV, exVal, List.length_nil] at cC hZ HB ⊢
    clear ih hka henv hbd hw hg hT hT2 hV hK hC hvs hsz
    go_enter Tryz.func22, Tryz.ntmps22
    go_wp2_with fail
    refine cC.mono ?_
    rintro e w1 ⟨rfl, hb1⟩
    have hbw : Below w.heap.size w w1 := HB.out.trans (hb1.mono (by simp; omega))
    obtain ⟨_, r0, r1, r2, f0, f1, f2⟩ := hZ.keep hb1
    clear cC hZ hb1 HB
    go_wp2_with fail
    refine bodyPost_ret (v := .agg #[.int .i64 so, .int .i64 n, .string s]) (by simp [results, Tryz.results22, go_sem, r0, r1, r2]) rfl ⟨rfl, ?_⟩
    have hsz := hbw.size
    go_grown
  · rw [val_name _ _ h]
    simp only at h hk ⊢
    subst h hk
    simp only [List.length_nil] at hZ HB hT2
    have cN := valueOfName_any nm bs ae ce B _ (henv.keep (HB.out.mono hB)) (by simp; omega) hsz
    generalize lookV bs nm = R at cN ⊢
    obtain ⟨x0, x1, x2⟩ := R
    simp only [vlV, exVal, List.length_nil] at cN ⊢
    clear ih hka henv hbd hw hT hT2 hV hK hC hvs hsz
    go_enter Tryz.func22, Tryz.ntmps22
    go_wp2_with fail
    refine cN.mono ?_
    rintro e w1 ⟨rfl, hb1⟩
    have hbw : Below w.heap.size w w1 := HB.out.trans (hb1.mono (by simp; omega))
    obtain ⟨_, r0, r1, r2, f0, f1, f2⟩ := hZ.keep hb1
    clear cN hZ hb1 HB
    go_wp2_with fail
    refine bodyPost_ret (v := .agg #[.int .i64 x0, .int .i64 x1, .string x2]) (by simp [results, Tryz.results22, go_sem, r0, r1, r2]) rfl ⟨rfl, ?_⟩
    have hsz := hbw.size
    go_grown
  · rw [val_one _ _ a h hk]
    simp only at h hk ⊢
    subst h hk
    simp only [List.length_cons, List.length_nil] at hZ HB hT2
    obtain ⟨d', b, o, ao', cap', rfl, rfl, hbB, hex, hxb, hkk⟩ := hka.one
    have cA := ih d' (by omega) a ao' cap' B _ ha hxb (hkk.keep (HB.out.mono hB)) (henv.keep (HB.out.mono hB)) (by simp; omega) hT2
    have hs1 := hvs a ha
    generalize valX (lookV bs) a = R1 at cA hs1 ⊢
    have cO := fun (W : World) (h : Tabs W) => reckonOne_any Tabs hV hK nm R1 W (by omega) h
    generalize oneV nm.data.toList R1 = R at cO ⊢
    obtain ⟨x0, x1, x2⟩ := R
    obtain ⟨z0, z1, z2⟩ := R1
    obtain ⟨y0, y1, y2, y3, y4, y5⟩ := hex.keep (HB.out.mono hB) hbB
    simp only [vlV, exVal, List.length_cons, List.length_nil] at cA cO ⊢
    have CO : Hid (∀ (W : World), Tabs W → Calls Tryz.prog 45 #[.string nm, .agg #[.int .i64 z0, .int .i64 z1, .string z2]] W fun e w' => e = .returned (.agg #[.int .i64 x0, .int .i64 x1, .string x2]) ∧ Below W.heap.size W w') := cO
    clear ih hka henv hbd hw hT hV hC hvs hsz cO hkk hs1
    go_enter Tryz.func22, Tryz.ntmps22
    go_wp2_with fail
    refine cA.mono ?_
    rintro e w1 ⟨rfl, hb1⟩
    have hT1 := hK _ _ hT2 hb1
    have hbw1 : Below w.heap.size w w1 := HB.out.trans (hb1.mono (by simp; omega))
    have hs1 : w.heap.size + 1 < w1.heap.size := by have := hb1.size; simp at this; omega
    have k1 : w1.cell? ⟨w.heap.size, 1, none⟩ = some (.string nm) := (hb1.cell (p := ⟨w.heap.size, 1, none⟩) (by simp; omega)).trans (by go_cell)
    have k5 : w1.cell? ⟨w.heap.size, 5, none⟩ = some (.slice (some ⟨b, o, none⟩) 1 cap) := (hb1.cell (p := ⟨w.heap.size, 5, none⟩) (by simp; omega)).trans (by go_cell)
    have k1a : ∀ ob, (w1.alloc ob).cell? ⟨w.heap.size, 1, none⟩ = some (.string nm) := fun ob => (World.cell?_alloc_past _ _ _ (by omega)).trans k1
    have k5a : ∀ ob, (w1.alloc ob).cell? ⟨w.heap.size, 5, none⟩ = some (.slice (some ⟨b, o, none⟩) 1 cap) := fun ob => (World.cell?_alloc_past _ _ _ (by omega)).trans k5
    have hZ1 := hZ.keep hb1
    have hT3 := hK _ _ hT1 ((Below.refl _ _).alloc (Nat.le_refl _) (.cells #[.int .i64 z0, .int .i64 z1, .string z2] 23))
    have hZ2 := hZ1.keep ((Below.refl _ _).alloc (Nat.le_refl _) (.cells #[.int .i64 z0, .int .i64 z1, .string z2] 23))
    clear cA hZ hZ1 hb1 HB y0 y1 y2 y3 y4 y5 hK hT2 hT1
    go_wp2_with fail
    refine (CO.out _ hT3).mono ?_
    rintro e w2 ⟨rfl, hb2⟩
    have hbw : Below w.heap.size w w2 := (hbw1.alloc hbw1.size _).trans (hb2.mono (by simp; omega))
    obtain ⟨_, r0, r1, r2, f0, f1, f2⟩ := hZ2.keep hb2
    clear CO hZ2 hb2 hbw1 k1 k5 k1a k5a hT3
    go_wp2_with fail
    refine bodyPost_ret (v := .agg #[.int .i64 x0, .int .i64 x1, .string x2]) (by simp [results, Tryz.results22, go_sem, r0, r1, r2]) rfl ⟨rfl, ?_⟩
    have hsz := hbw.size
    go_grown
  · rw [val_two _ _ a a2 h hk]
    simp only at h hk ⊢
    subst h hk
    simp only [List.length_cons, List.length_nil] at hZ HB hT2
    obtain ⟨d', b, o, ao', cap', ao2, cap2, rfl, rfl, hbB, hex, hxb, hkk, hex2, hxb2, hkk2⟩ := hka.two
    have cA := ih d' (by omega) a ao' cap' B _ ha hxb (hkk.keep (HB.out.mono hB)) (henv.keep (HB.out.mono hB)) (by simp; omega) hT2
    have cB := fun (W : World) (hW : Below B w W) (hz : B ≤ W.heap.size) (hTW : Tabs W) => ih d' (by omega) a2 ao2 cap2 B W ha2 hxb2 (hkk2.keep hW) (henv.keep hW) hz hTW
    have hs1 := hvs a ha
    have hs2 := hvs a2 ha2
    generalize valX (lookV bs) a = R1 at cA hs1 ⊢
    generalize valX (lookV bs) a2 = R2 at cB hs2 ⊢
    have cO := fun (W : World) (h : Tabs W) => reckonTwo_any Tabs hV hK hC nm R1 R2 W (by omega) (by omega) h
    generalize twoV nm.data.toList R1 R2 = R at cO ⊢
    obtain ⟨x0, x1, x2⟩ := R
    obtain ⟨z0, z1, z2⟩ := R1
    obtain ⟨v0, v1, v2⟩ := R2
    obtain ⟨y0, y1, y2, y3, y4, y5⟩ := hex.keep (HB.out.mono hB) hbB
    simp only [vlV, exVal, List.length_cons, List.length_nil] at cA cB cO ⊢
    have CO : Hid (∀ (W : World), Tabs W → Calls Tryz.prog 46 #[.string nm, .agg #[.int .i64 z0, .int .i64 z1, .string z2], .agg #[.int .i64 v0, .int .i64 v1, .string v2]] W fun e w' => e = .returned (.agg #[.int .i64 x0, .int .i64 x1, .string x2]) ∧ Below W.heap.size W w') := cO
    have CB : Hid (∀ (W : World), Below B w W → B ≤ W.heap.size → Tabs W → Calls Tryz.prog 22 #[.agg #[.int .i64 a2.kind, .string a2.name, .int .i64 a2.so, .int .i64 a2.n, .string a2.s, .slice ao2 a2.kids.length cap2], .slice ae bs.length ce] W fun e w' => e = .returned (.agg #[.int .i64 v0, .int .i64 v1, .string v2]) ∧ Below W.heap.size W w') := cB
    have HX : Hid (ExAt w b (o + 6) a2 ao2 cap2) := hex2
    clear ih hka henv hbd hw hT hV hC hvs hsz cO cB hkk hkk2 hs1 hs2 hex2
    go_enter Tryz.func22, Tryz.ntmps22
    go_wp2_with fail
    refine cA.mono ?_
    rintro e w1 ⟨rfl, hb1⟩
    have hT1 := hK _ _ hT2 hb1
    have hbw1 : Below w.heap.size w w1 := HB.out.trans (hb1.mono (by simp; omega))
    have hs1 : w.heap.size + 1 < w1.heap.size := by have := hb1.size; simp at this; omega
    have k1 : w1.cell? ⟨w.heap.size, 1, none⟩ = some (.string nm) := (hb1.cell (p := ⟨w.heap.size, 1, none⟩) (by simp; omega)).trans (by go_cell)
    have k5 : w1.cell? ⟨w.heap.size, 5, none⟩ = some (.slice (some ⟨b, o, none⟩) 2 cap) := (hb1.cell (p := ⟨w.heap.size, 5, none⟩) (by simp; omega)).trans (by go_cell)
    have k5a : ∀ ob, (w1.alloc ob).cell? ⟨w.heap.size, 5, none⟩ = some (.slice (some ⟨b, o, none⟩) 2 cap) := fun ob => (World.cell?_alloc_past _ _ _ (by omega)).trans k5
    have hT3 := hK _ _ hT1 ((Below.refl _ _).alloc (Nat.le_refl _) (.cells #[.int .i64 z0, .int .i64 z1, .string z2] 23))
    have hZ2 := (hZ.keep hb1).keep ((Below.refl _ _).alloc (Nat.le_refl _) (.cells #[.int .i64 z0, .int .i64 z1, .string z2] 23))
    have g1 : (w1.alloc (.cells #[.int .i64 z0, .int .i64 z1, .string z2] 23)).cell? ⟨w.heap.size, 1, none⟩ = some (.string nm) := (World.cell?_alloc_past _ _ _ (by omega)).trans k1
    have t1 : R9 Tabs w nm (.slice (some ⟨b, o, none⟩) 2 cap) w1.heap.size b o ⟨z0, z1, z2⟩ a2 ao2 cap2 (w1.alloc (.cells #[.int .i64 z0, .int .i64 z1, .string z2] 23)) :=
      ⟨g1, k5a _, Box.new w1 z0 z1 z2 23, HX.out.keep (hbw1.alloc hbw1.size _) (by omega), hZ2, hT3, hbw1.alloc hbw1.size _⟩
    have hq : w.heap.size + 1 < w1.heap.size := hs1
    have HQ : Hid (Below w.heap.size w w1) := hbw1
    clear cA hZ hb1 HB y0 y1 y2 y3 y4 y5 hT2 hT1 HX hZ2 hT3 g1 k1
    go_wp2_with fail
    clear k5 k5a hbw1
    generalize w1.alloc (.cells #[.int .i64 z0, .int .i64 z1, .string z2] 23) = V at *
    generalize w1.heap.size = q at *
    have t2 := t1.keep Tabs hK ((Below.refl _ _).drew)
    have cB2 := CB.out V.drew (t2.bl.mono hB) (Nat.le_trans hB t2.bl.size) t2.tb
    have bne : ¬ b = w.heap.size + 1 := by omega
    have qne : ¬ q = w.heap.size + 1 := by omega
    have bne' : ¬ w.heap.size + 1 = b := by omega
    have qne' : ¬ w.heap.size + 1 = q := by omega
    have T2 : Hid (R9 Tabs w nm (.slice (some ⟨b, o, none⟩) 2 cap) q b o ⟨z0, z1, z2⟩ a2 ao2 cap2 V.drew) := t2
    clear t2 HQ
    obtain ⟨c1, c5, ⟨_, u0, u1, u2⟩, ⟨e0, e1, e2, e3, e4, e5⟩, ⟨_, r0, r1, r2, f0, f1, f2⟩, _, hbw⟩ := t1
    go_region_held3 (fun w' => w'.cell? ⟨w.heap.size, 1, none⟩ = some (.string nm) ∧ w'.cell? ⟨w.heap.size, 5, none⟩ = some (.slice (some ⟨b, o, none⟩) 2 cap) ∧ w'.cell? ⟨q, 0, none⟩ = some (.int .i64 z0) ∧ w'.cell? ⟨q, 1, none⟩ = some (.int .i64 z1) ∧ w'.cell? ⟨q, 2, none⟩ = some (.string z2) ∧
      w'.cell? ⟨b, o + 6, none⟩ = some (.int .i64 a2.kind) ∧ w'.cell? ⟨b, o + 6 + 1, none⟩ = some (.string a2.name) ∧ w'.cell? ⟨b, o + 6 + 2, none⟩ = some (.int .i64 a2.so) ∧ w'.cell? ⟨b, o + 6 + 3, none⟩ = some (.int .i64 a2.n) ∧ w'.cell? ⟨b, o + 6 + 4, none⟩ = some (.string a2.s) ∧ w'.cell? ⟨b, o + 6 + 5, none⟩ = some (.slice ao2 a2.kids.length cap2)) (go_keep) (first
      | (go_at_call 22; go_must (refine cB2.mono ?_; rintro e w2 ⟨rfl, hb2⟩; have t3 := T2.out.keep Tabs hK hb2; have T3 : Hid (R9 Tabs w nm (.slice (some ⟨b, o, none⟩) 2 cap) q b o ⟨z0, z1, z2⟩ a2 ao2 cap2 w2) := t3; obtain ⟨c1', c5', ⟨_, u0', u1', u2'⟩, ⟨e0', e1', e2', e3', e4', e5'⟩, _, tb', _⟩ := t3; have cO2 := CO.out _ tb'; clear tb'))
      | (go_at_call 46; go_must (refine cO2.mono ?_; rintro e w3 ⟨rfl, hb3⟩; have t4 := T3.out.keep Tabs hK hb3; obtain ⟨c1'', c5'', ⟨_, u0'', u1'', u2''⟩, ⟨e0'', e1'', e2'', e3'', e4'', e5''⟩, ⟨_, r0', r1', r2', f0', f1', f2'⟩, _, hbw'⟩ := t4)))
    go_wp2_with fail
    refine bodyPost_ret (v := .agg #[.int .i64 x0, .int .i64 x1, .string x2]) (by simp [results, Tryz.results22, go_sem, r0', r1', r2']) rfl ⟨rfl, ?_⟩
    have hsz := hbw'.size
    go_grown
theorem valueOf_any (hV : VSaid vD Tabs) (hK : ∀ w w', Tabs w → Below w.heap.size w w' → Tabs w') (hC : CSaid) (bs : List (ByteArray × Vl)) (ae : Option Addr) (ce : Nat) (hsz : ∀ p ∈ bs, p.2.s.size ≤ 100) (d : Nat) : VOSaid Tabs bs ae ce d := by
  induction d using Nat.strongRecOn with
  | _ d ih => exact valueOf_step Tabs hV hK hC bs ae ce d hsz ih
end Go.Proofs.YtecapnipkngniaaGreatDoor
