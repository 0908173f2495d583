/-
  The contracts of exprs.ahead, bracketed, written and Write, for every right expression; utf8.ValidString's and strconv.FormatInt's contracts are hypotheses here.
-/
import Derived.Test.YtipolobikigmbaaGreatDoorGd
import Derived.Test.YtipolobikigmbaaGreatDoorXk
import Derived.Deep.DeepCutAuto
import Derived.Deep.RegionHeld3
namespace Go.Proofs.YtipolobikigmbaaGreatDoor
open Go.RowKit Go.Shelf
variable (Tabs : World → Prop)
theorem hide2 {p : Prop} (h : p) : Hid p := h
theorem wrap_fit (z : Int) (h0 : -9223372036854775808 ≤ z) (h1 : z ≤ 9223372036854775807) : IntKind.i64.wrap z = z := by
  unfold IntKind.wrap; simp [IntKind.bits, IntKind.signed]; omega

set_option maxHeartbeats 400000 in
theorem ahead_any (op : ByteArray) (w : World) :
    Calls Tryz.prog 58 #[.string op] w fun e w' => e = .returned (.string (bs (aheadL op.data.toList))) ∧ w' = w := by
  unfold aheadL
  by_cases h1 : op.data.toList = [110, 111, 116]
  · rw [if_pos h1]
    have b1 : (op.toList == [110, 111, 116]) = true := by rw [beqL]; simpa using h1
    clear h1
    go_enter Tryz.func58, Tryz.ntmps58
    go_wp2_with fail
    go_ret
    exact ⟨rfl, rfl⟩
  · rw [if_neg h1]
    have b1 : (op.toList == [110, 111, 116]) = false := by rw [beqL]; simpa using h1
    clear h1
    by_cases h2 : op.data.toList = [110, 101, 103]
    · rw [if_pos h2]
      have b2 : (op.toList == [110, 101, 103]) = true := by rw [beqL]; simpa using h2
      clear h2
      go_enter Tryz.func58, Tryz.ntmps58
      go_wp2_with fail
      go_ret
      exact ⟨rfl, rfl⟩
    · rw [if_neg h2]
      have b2 : (op.toList == [110, 101, 103]) = false := by rw [beqL]; simpa using h2
      clear h2
      go_enter Tryz.func58, Tryz.ntmps58
      go_wp2_with fail
      go_ret
      exact ⟨rfl, rfl⟩

def WRSaid (d : Nat) : Prop := ∀ (x : Ex) (ao : Option Addr) (cap B : Nat) (w : World), wfX x → ExBd x cap → KA w B d x.kids ao → sizeX x ≤ 60 → B ≤ w.heap.size → Tabs w →
  Calls Tryz.prog 30 #[exVal x ao cap] w fun e w' => e = .returned (.string (bs (wrX x))) ∧ Below w.heap.size w w'
def BRSaid (d : Nat) : Prop := ∀ (x : Ex) (ao : Option Addr) (cap B : Nat) (least : Int) (w : World), wfX x → ExBd x cap → KA w B d x.kids ao → sizeX x ≤ 60 → B ≤ w.heap.size → Tabs w →
  Calls Tryz.prog 59 #[exVal x ao cap, .int .i64 least] w fun e w' => e = .returned (.string (bs (brX x least))) ∧ Below w.heap.size w w'

set_option maxHeartbeats 1000000 in
theorem bracketed_of (hK : ∀ w w', Tabs w → Below w.heap.size w w' → Tabs w') (d : Nat) (hW : WRSaid Tabs d) : BRSaid Tabs d := by
  intro x ao cap B least w hw hbd hka hsz hB hT
  have hlen := wr_len w B d x ao cap hw hbd hka
  have hA : Below w.heap.size w (w.alloc (.cells #[.int .i64 x.kind, .string x.name, .int .i64 x.so, .int .i64 x.n, .string x.s, .slice ao x.kids.length cap] 39)) := (Below.refl _ _).alloc (Nat.le_refl _) _
  have cW := hW x ao cap B (w.alloc (.cells #[.int .i64 x.kind, .string x.name, .int .i64 x.so, .int .i64 x.n, .string x.s, .slice ao x.kids.length cap] 39)) hw hbd (KA.keep (hA.mono hB) hka) hsz (by simp; omega) (hK _ _ hT hA)
  have cL := level_any x.name
  simp only [exVal] at cW ⊢
  unfold brX brT
  have hF : ((bs (wrX x)).size : Int) ≤ 18000 := by rw [bs_len]; omega
  have e1 : bs ([40] ++ wrX x ++ [41]) = (⟨#[40]⟩ : ByteArray) ++ bs (wrX x) ++ ⟨#[41]⟩ := by rw [bs_app, bs_app]; rfl
  have e2 : ∀ p : Prop, [Decidable p] → bs (if p then [40] ++ wrX x ++ [41] else wrX x) = if p then (⟨#[40]⟩ : ByteArray) ++ bs (wrX x) ++ ⟨#[41]⟩ else bs (wrX x) := fun p _ => by
    by_cases hp : p
    · rw [if_pos hp, if_pos hp]; exact e1
    · rw [if_neg hp, if_neg hp]
  rw [e2]
  clear e1 e2 hlen
  generalize bs (wrX x) = F at cW hF ⊢
  generalize lvl x.name.data.toList = lz at cL ⊢
  have CL := hide2 cL
  have HA := hide2 hA
  clear cL hW hbd hka hT hw hA hK
  by_cases h3 : x.kind = 3
  · rw [h3] at cW HA ⊢
    by_cases h2 : x.kids.length = 2
    · rw [h2] at cW HA ⊢
      by_cases hl : lz < least
      · rw [if_pos ⟨rfl, rfl, hl⟩]
        clear h3 h2
        go_enter Tryz.func59, Tryz.ntmps59
        go_wp2_with (go_at_call 60; refine (CL.out _).mono ?_; rintro e w1 ⟨rfl, rfl⟩)
        refine cW.mono ?_
        rintro e w1 ⟨rfl, hb⟩
        go_wp2_with fail
        go_ret
        exact ⟨rfl, HA.out.trans (hb.mono (by simp))⟩
      · rw [if_neg (fun h => hl h.2.2)]
        clear h3 h2
        go_enter Tryz.func59, Tryz.ntmps59
        go_wp2_with (go_at_call 60; refine (CL.out _).mono ?_; rintro e w1 ⟨rfl, rfl⟩)
        refine cW.mono ?_
        rintro e w1 ⟨rfl, hb⟩
        go_wp2_with fail
        go_ret
        exact ⟨rfl, HA.out.trans (hb.mono (by simp))⟩
    · rw [if_neg (fun h => h2 h.2.1)]
      have k2 : ((x.kids.length : Int) == 2) = false := by simp; omega
      clear h3 h2
      go_enter Tryz.func59, Tryz.ntmps59
      go_wp2_with fail
      refine cW.mono ?_
      rintro e w1 ⟨rfl, hb⟩
      go_wp2_with fail
      go_ret
      exact ⟨rfl, HA.out.trans (hb.mono (by simp))⟩
  · rw [if_neg (fun h => h3 h.1)]
    have k3 : (x.kind == 3) = false := by simpa using h3
    clear h3
    go_enter Tryz.func59, Tryz.ntmps59
    go_wp2_with fail
    refine cW.mono ?_
    rintro e w1 ⟨rfl, hb⟩
    go_wp2_with fail
    go_ret
    exact ⟨rfl, HA.out.trans (hb.mono (by simp))⟩

/-- what written reads of its argument and its two Kids -/
structure RW (w : World) (nm : ByteArray) (sl : Value) (b o : Nat) (a a2 : Ex) (ao : Option Addr) (cap : Nat) (ao2 : Option Addr) (cap2 : Nat) (W : World) : Prop where
  lt : w.heap.size < W.heap.size
  c1 : W.cell? ⟨w.heap.size, 1, none⟩ = some (.string nm)
  c5 : W.cell? ⟨w.heap.size, 5, none⟩ = some sl
  ex : ExAt W b o a ao cap
  ex2 : ExAt W b (o + 6) a2 ao2 cap2
  tb : Tabs W
  bl : Below w.heap.size w W
theorem RW.keep (hK : ∀ w w', Tabs w → Below w.heap.size w w' → Tabs w') {w : World} {nm : ByteArray} {sl : Value} {b o : Nat} {a a2 : Ex} {ao : Option Addr} {cap : Nat} {ao2 : Option Addr} {cap2 : Nat} {W W' : World} (h : RW Tabs w nm sl b o a a2 ao cap ao2 cap2 W) (hb : Below W.heap.size W W') : RW Tabs w nm sl b o a a2 ao cap ao2 cap2 W' :=
  ⟨Nat.lt_of_lt_of_le h.lt hb.size, (hb.cell (p := ⟨w.heap.size, 1, none⟩) h.lt).trans h.c1, (hb.cell (p := ⟨w.heap.size, 5, none⟩) h.lt).trans h.c5, h.ex.keep hb (lt_of_cell h.ex.c0), h.ex2.keep hb (lt_of_cell h.ex2.c0), hK _ _ h.tb hb, h.bl.trans (hb.mono h.bl.size)⟩

structure R1 (w : World) (nm : ByteArray) (sl : Value) (b o : Nat) (a : Ex) (ao : Option Addr) (cap : Nat) (W : World) : Prop where
  lt : w.heap.size < W.heap.size
  c1 : W.cell? ⟨w.heap.size, 1, none⟩ = some (.string nm)
  c5 : W.cell? ⟨w.heap.size, 5, none⟩ = some sl
  ex : ExAt W b o a ao cap
  bl : Below w.heap.size w W
theorem R1.keep {w : World} {nm : ByteArray} {sl : Value} {b o : Nat} {a : Ex} {ao : Option Addr} {cap : Nat} {W W' : World} (h : R1 w nm sl b o a ao cap W) (hb : Below W.heap.size W W') : R1 w nm sl b o a ao cap W' :=
  ⟨Nat.lt_of_lt_of_le h.lt hb.size, (hb.cell (p := ⟨w.heap.size, 1, none⟩) h.lt).trans h.c1, (hb.cell (p := ⟨w.heap.size, 5, none⟩) h.lt).trans h.c5, h.ex.keep hb (lt_of_cell h.ex.c0), h.bl.trans (hb.mono h.bl.size)⟩

set_option maxRecDepth 100000 in
set_option maxHeartbeats 4000000 in
theorem written_two (hK : ∀ w w', Tabs w → Below w.heap.size w w' → Tabs w') (d : Nat) (ih : ∀ d', d' < d → BRSaid Tabs d') (x a a2 : Ex) (ao : Option Addr) (cap B : Nat) (w : World) (hka : KA w B d x.kids ao) (hsz : sizeX x ≤ 60) (hB : B ≤ w.heap.size) (hT : Tabs w)
    (h : x.kind = 3) (hk : x.kids = [a, a2]) (ha : wfX a) (ha2 : wfX a2) (hop : 0 < lvl x.name.data.toList) :
    Calls Tryz.prog 30 #[exVal x ao cap] w fun e w' => e = .returned (.string (bs (wrX x))) ∧ Below w.heap.size w w' := by
  have hA : Below w.heap.size w (w.alloc (.cells #[.int .i64 x.kind, .string x.name, .int .i64 x.so, .int .i64 x.n, .string x.s, .slice ao x.kids.length cap] 39)) := (Below.refl _ _).alloc (Nat.le_refl _) _
  have hT1 := hK _ _ hT hA
  have hsq := sizeX_eq x
  rw [wr_two x a a2 h hk, bs_app, bs_app, bs_app, bs_app, bs_of]
  obtain ⟨d', rfl⟩ : ∃ d', d = d' + 1 := by
    cases d with
    | zero => simp only [KA] at hka; rw [hk] at hka; cases hka
    | succ d' => exact ⟨d', rfl⟩
  rcases hka with hka | ⟨b, o, rfl, hbB, hka⟩
  · rw [hk] at hka; cases hka
  · obtain ⟨ao1, cap1, hex, hxb, hkk⟩ := hka 0 (by rw [hk]; simp)
    obtain ⟨ao2, cap2, hex2, hxb2, hkk2⟩ := hka 1 (by rw [hk]; simp)
    have e0 : x.kids[0]'(by rw [hk]; simp) = a := by simp [hk]
    have e1 : x.kids[1]'(by rw [hk]; simp) = a2 := by simp [hk]
    rw [e0] at hex hxb hkk
    rw [e1] at hex2 hxb2 hkk2
    simp only [Nat.zero_mul, Nat.one_mul, Nat.add_zero] at hex hex2
    have hlen := wr_len w B d' a ao1 cap1 ha hxb hkk
    have hlen2 := wr_len w B d' a2 ao2 cap2 ha2 hxb2 hkk2
    rw [hk] at hsq
    simp at hsq
    have hsa : sizeX a ≤ 60 := by omega
    have hsa2 : sizeX a2 ≤ 60 := by omega
    have hbl : ((bs (brX a (lvl x.name.data.toList))).size : Int) ≤ 20000 := by rw [bs_len]; have := br_len a (lvl x.name.data.toList); omega
    have hbl2 : ((bs (brX a2 (lvl x.name.data.toList + 1))).size : Int) ≤ 20000 := by rw [bs_len]; have := br_len a2 (lvl x.name.data.toList + 1); omega
    have hnl : (x.name.size : Int) ≤ 3 := by have := lvl_len3 _ hop; rw [← size_list] at this; omega
    have CB := hide2 (fun (W : World) (hb : Below B w W) (hBW : B ≤ W.heap.size) (hTW : Tabs W) => ih d' (by omega) a ao1 cap1 B (lvl x.name.data.toList) W ha hxb (KA.keep hb hkk) hsa hBW hTW)
    have CC := hide2 (fun (W : World) (hb : Below B w W) (hBW : B ≤ W.heap.size) (hTW : Tabs W) => ih d' (by omega) a2 ao2 cap2 B (lvl x.name.data.toList + 1) W ha2 hxb2 (KA.keep hb hkk2) hsa2 hBW hTW)
    have cL := level_any x.name
    have hz0 := lvl_ge x.name.data.toList
    have hz5 := lvl_le x.name.data.toList
    generalize bs (brX a (lvl x.name.data.toList)) = F at CB hbl ⊢
    generalize bs (brX a2 (lvl x.name.data.toList + 1)) = G at CC hbl2 ⊢
    generalize lvl x.name.data.toList = lz at CB CC cL hz0 hz5 hop
    have hwr : IntKind.i64.wrap (lz + 1) = lz + 1 := wrap_fit _ (by omega) (by omega)
    rw [← hwr] at CC
    clear hwr
    have CL := hide2 cL
    have y := hex.keep hA (by omega)
    have y2 := hex2.keep hA (by omega)
    have r1 : RW Tabs w x.name (.slice (some ⟨b, o, none⟩) x.kids.length cap) b o a a2 ao1 cap1 ao2 cap2 (w.alloc (.cells #[.int .i64 x.kind, .string x.name, .int .i64 x.so, .int .i64 x.n, .string x.s, .slice (some ⟨b, o, none⟩) x.kids.length cap] 39)) := ⟨by simp, by go_cell, by go_cell, y, y2, hT1, hA⟩
    have HR := hide2 (r1.keep Tabs hK ((Below.refl _ _).drew))
    have cB := CB.out _ (HR.out.bl.mono hB) (Nat.le_trans hB HR.out.bl.size) HR.out.tb
    simp only [exVal] at cB CC ⊢
    have hl1 : x.kids.length = 2 := by rw [hk]; rfl
    rw [hl1] at cB HR r1 ⊢
    rw [h] at cB HR r1 ⊢
    have CB2 := hide2 cB
    clear ih hka hT hT1 hA hop h hk hsq hsz CB hex hxb hkk hex2 hxb2 hkk2 cL hlen hlen2 hsa hsa2 e0 e1 y y2 hl1 cB
    go_enter Tryz.func30, Tryz.ntmps30
    go_wp2_with fail
    generalize w.alloc (.cells #[.int .i64 3, .string x.name, .int .i64 x.so, .int .i64 x.n, .string x.s, .slice (some ⟨b, o, none⟩) 2 cap] 39) = V at *
    obtain ⟨lt, c1, c5, ⟨e0, e1, e2, e3, e4, e5⟩, ⟨f0, f1, f2, f3, f4, f5⟩, _, hbw⟩ := r1
    go_region_held3 (fun w' => w'.cell? ⟨w.heap.size, 1, none⟩ = some (.string x.name) ∧ w'.cell? ⟨w.heap.size, 5, none⟩ = some (.slice (some ⟨b, o, none⟩) 2 cap) ∧
      w'.cell? ⟨b, o, none⟩ = some (.int .i64 a.kind) ∧ w'.cell? ⟨b, o + 1, none⟩ = some (.string a.name) ∧ w'.cell? ⟨b, o + 2, none⟩ = some (.int .i64 a.so) ∧ w'.cell? ⟨b, o + 3, none⟩ = some (.int .i64 a.n) ∧ w'.cell? ⟨b, o + 4, none⟩ = some (.string a.s) ∧ w'.cell? ⟨b, o + 5, none⟩ = some (.slice ao1 a.kids.length cap1) ∧
      w'.cell? ⟨b, o + 6, none⟩ = some (.int .i64 a2.kind) ∧ w'.cell? ⟨b, o + 6 + 1, none⟩ = some (.string a2.name) ∧ w'.cell? ⟨b, o + 6 + 2, none⟩ = some (.int .i64 a2.so) ∧ w'.cell? ⟨b, o + 6 + 3, none⟩ = some (.int .i64 a2.n) ∧ w'.cell? ⟨b, o + 6 + 4, none⟩ = some (.string a2.s) ∧ w'.cell? ⟨b, o + 6 + 5, none⟩ = some (.slice ao2 a2.kids.length cap2)) (go_keep) (first
        | (go_at_call 60; go_must (refine (CL.out _).mono ?_; rintro e w1 ⟨rfl, rfl⟩))
        | (go_at_call 59; refine CB2.out.mono ?_; rintro e w2 ⟨rfl, hb2⟩; have t3 := HR.out.keep Tabs hK hb2; have cC := CC.out _ (t3.bl.mono hB) (Nat.le_trans hB t3.bl.size) t3.tb; have HR3 := hide2 t3; obtain ⟨lt', c1', c5', ⟨e0', e1', e2', e3', e4', e5'⟩, ⟨f0', f1', f2', f3', f4', f5'⟩, _, hbw'⟩ := t3; clear c1 c5 e0 e1 e2 e3 e4 e5 f0 f1 f2 f3 f4 f5 CB2 HR hb2)
        | (go_at_call 59; go_must (refine cC.mono ?_; rintro e w3 ⟨rfl, hb3⟩; have t4 := HR3.out.keep Tabs hK hb3; obtain ⟨lt'', c1'', c5'', ⟨e0'', e1'', e2'', e3'', e4'', e5''⟩, ⟨f0'', f1'', f2'', f3'', f4'', f5''⟩, _, hbw''⟩ := t4)))
    go_wp2_with fail
    go_ret
    exact ⟨rfl, hbw''⟩

set_option maxRecDepth 100000 in
set_option maxHeartbeats 4000000 in
theorem written_step (hV : VSaid vD Tabs) (hF : FSaid Tabs) (hK : ∀ w w', Tabs w → Below w.heap.size w w' → Tabs w') (d : Nat) (ih : ∀ d', d' < d → BRSaid Tabs d') : WRSaid Tabs d := by
  intro x ao cap B w hw hbd hka hsz hB hT
  have hA : Below w.heap.size w (w.alloc (.cells #[.int .i64 x.kind, .string x.name, .int .i64 x.so, .int .i64 x.n, .string x.s, .slice ao x.kids.length cap] 39)) := (Below.refl _ _).alloc (Nat.le_refl _) _
  have hT1 := hK _ _ hT hA
  have hsq := sizeX_eq x
  rcases wf_cases _ hw with ⟨h, hk, hg⟩ | ⟨h, hk, hn⟩ | ⟨h, a, hk, ha, hop⟩ | ⟨h, a, a2, hk, ha, ha2, hop⟩
  · rw [wr_lit x h]
    have cW := write_good Tabs hV hF hK x.so x.n x.s (w.alloc (.cells #[.int .i64 x.kind, .string x.name, .int .i64 x.so, .int .i64 x.n, .string x.s, .slice ao x.kids.length cap] 39)) hbd.s hbd.n0 hbd.n1 hT1 hg
    generalize bs (wtL x.so x.n x.s) = F at cW ⊢
    have HA := hide2 hA
    simp only [exVal]
    rw [h] at cW HA ⊢
    clear hV hF hK ih hw hbd hka hT hT1 hA hg h hk hsq hsz
    go_enter Tryz.func30, Tryz.ntmps30
    go_wp2_with fail
    refine cW.mono ?_
    rintro e w1 ⟨rfl, hb⟩
    go_wp2_with fail
    go_ret
    exact ⟨rfl, HA.out.trans (hb.mono (by simp))⟩
  · rw [wr_name x h, bs_of]
    have cC := clone_any x.name (w.alloc (.cells #[.int .i64 x.kind, .string x.name, .int .i64 x.so, .int .i64 x.n, .string x.s, .slice ao x.kids.length cap] 39)) (by have := nm_len _ hn; rw [← size_list] at this; omega)
    have HA := hide2 hA
    simp only [exVal]
    rw [h] at cC HA ⊢
    clear hV hF hK ih hw hbd hka hT hT1 hA hn h hk hsq hsz
    go_enter Tryz.func30, Tryz.ntmps30
    go_wp2_with fail
    refine cC.mono ?_
    rintro e w1 ⟨rfl, hb⟩
    go_wp2_with fail
    go_ret
    exact ⟨rfl, HA.out.trans (hb.mono (by simp))⟩
  · rw [wr_one x a h hk, bs_app]
    obtain ⟨d', rfl⟩ : ∃ d', d = d' + 1 := by
      cases d with
      | zero => simp only [KA] at hka; rw [hk] at hka; cases hka
      | succ d' => exact ⟨d', rfl⟩
    rcases hka with hka | ⟨b, o, rfl, hbB, hka⟩
    · rw [hk] at hka; cases hka
    · obtain ⟨ao1, cap1, hex, hxb, hkk⟩ := hka 0 (by rw [hk]; simp)
      have e0 : x.kids[0]'(by rw [hk]; simp) = a := by simp [hk]
      rw [e0] at hex hxb hkk
      simp only [Nat.zero_mul, Nat.add_zero] at hex
      have hlen := wr_len w B d' a ao1 cap1 ha hxb hkk
      rw [hk] at hsq
      simp at hsq
      have hsa : sizeX a ≤ 60 := by omega
      have hbl : ((bs (brX a 6)).size : Int) ≤ 20000 := by rw [bs_len]; have := br_len a 6; omega
      have hal : ((bs (aheadL x.name.data.toList)).size : Int) ≤ 4 := by rw [bs_len]; have := ahead_len x.name.data.toList; omega
      have CB := hide2 (fun (W : World) (hb : Below B w W) (hBW : B ≤ W.heap.size) (hTW : Tabs W) => ih d' (by omega) a ao1 cap1 B 6 W ha hxb (KA.keep hb hkk) hsa hBW hTW)
      have cA := ahead_any x.name
      generalize bs (brX a 6) = F at CB hbl ⊢
      generalize bs (aheadL x.name.data.toList) = G at cA hal ⊢
      have hsum : ¬ (9223372036854775807 < G.size + F.size) := by omega
      have CA := hide2 cA
      have y := hex.keep hA (by omega)
      have cB := CB.out _ ((hA.mono hB).drew) (by simp; omega) (hK _ _ hT1 ((Below.refl _ _).drew))
      have r1 : R1 w x.name (.slice (some ⟨b, o, none⟩) x.kids.length cap) b o a ao1 cap1 (w.alloc (.cells #[.int .i64 x.kind, .string x.name, .int .i64 x.so, .int .i64 x.n, .string x.s, .slice (some ⟨b, o, none⟩) x.kids.length cap] 39)) := ⟨by simp, by go_cell, by go_cell, y, hA⟩
      have HR := hide2 (r1.keep ((Below.refl _ _).drew))
      simp only [exVal] at cB ⊢
      have hl1 : x.kids.length = 1 := by rw [hk]; rfl
      rw [hl1] at cB HR r1 ⊢
      rw [h] at cB HR r1 ⊢
      have CB2 := hide2 cB
      clear hV hF hK ih hw hbd hka hT hT1 hA hop h hk hsq hsz CB hex hxb hkk cA hlen hsa e0 y hl1 cB
      go_enter Tryz.func30, Tryz.ntmps30
      go_wp2_with fail
      generalize w.alloc (.cells #[.int .i64 3, .string x.name, .int .i64 x.so, .int .i64 x.n, .string x.s, .slice (some ⟨b, o, none⟩) 1 cap] 39) = V at *
      obtain ⟨lt, c1, c5, ⟨e0, e1, e2, e3, e4, e5⟩, hbw⟩ := r1
      go_region_held3 (fun w' => w'.cell? ⟨w.heap.size, 1, none⟩ = some (.string x.name) ∧ w'.cell? ⟨w.heap.size, 5, none⟩ = some (.slice (some ⟨b, o, none⟩) 1 cap) ∧
        w'.cell? ⟨b, o, none⟩ = some (.int .i64 a.kind) ∧ w'.cell? ⟨b, o + 1, none⟩ = some (.string a.name) ∧ w'.cell? ⟨b, o + 2, none⟩ = some (.int .i64 a.so) ∧ w'.cell? ⟨b, o + 3, none⟩ = some (.int .i64 a.n) ∧ w'.cell? ⟨b, o + 4, none⟩ = some (.string a.s) ∧ w'.cell? ⟨b, o + 5, none⟩ = some (.slice ao1 a.kids.length cap1)) (go_keep) (first
        | (go_at_call 58; go_must (refine (CA.out _).mono ?_; rintro e w1 ⟨rfl, rfl⟩))
        | (go_at_call 59; go_must (refine CB2.out.mono ?_; rintro e w2 ⟨rfl, hb2⟩; have t3 := HR.out.keep hb2; obtain ⟨lt', c1', c5', ⟨e0', e1', e2', e3', e4', e5'⟩, hbw'⟩ := t3)))
      go_wp2_with fail
      go_ret
      exact ⟨rfl, hbw'⟩
  · exact written_two Tabs hK d ih x a a2 ao cap B w hka hsz hB hT h hk ha ha2 hop

theorem written_any (hV : VSaid vD Tabs) (hF : FSaid Tabs) (hK : ∀ w w', Tabs w → Below w.heap.size w w' → Tabs w') (d : Nat) : WRSaid Tabs d := by
  induction d using Nat.strongRecOn with
  | _ d ih => exact written_step Tabs hV hF hK d (fun d' h => bracketed_of Tabs hK d' (ih d' h))

variable (B0 : Nat)
/-- what Write tells -/
def wrR (x : Ex) : List UInt8 × Int := if chkX x = 0 then (wrX x, 0) else ([], chkX x)
set_option maxHeartbeats 1000000 in
theorem exprWrite_any (hV : VSaid vD Tabs) (hF : FSaid Tabs) (hK : ∀ w w', Tabs w → Below w.heap.size w w' → Tabs w') (hK2 : ∀ B w w', B0 ≤ B → Tabs w → Below B w w' → Tabs w') (hB0 : ∀ w, Tabs w → B0 ≤ w.heap.size)
    (d : Nat) (x : Ex) (ao : Option Addr) (cap : Nat) (w : World) (hbd : ExBd x cap) (hka : KA w w.heap.size d x.kids ao) (hT : Tabs w) :
    Calls Tryz.prog 10 #[exVal x ao cap] w fun e w' => e = .returned (.tuple #[.string (bs (wrR x).1), .int .i64 (wrR x).2]) ∧ Below w.heap.size w w' := by
  have hA : Below w.heap.size w (w.alloc (.cells #[.int .i64 x.kind, .string x.name, .int .i64 x.so, .int .i64 x.n, .string x.s, .slice ao x.kids.length cap] 39)) := (Below.refl _ _).alloc (Nat.le_refl _) _
  have hkV := KA.mono hA.size (KA.keep hA hka)
  have cC := chk_any Tabs B0 hV hK hK2 hB0 d x ao cap _ hbd hkV (hK _ _ hT hA)
  have HA := hide2 hA
  unfold wrR
  by_cases hz : chkX x = 0
  · rw [if_pos hz]
    rw [hz] at cC
    obtain ⟨hw, hsz⟩ := (chkX_iff x).1 hz
    have CW := hide2 (fun (W : World) (hb : Below w.heap.size w W) => written_any Tabs hV hF hK d x ao cap w.heap.size W hw hbd (KA.keep hb hka) hsz hb.size (hK _ _ hT hb))
    simp only [exVal] at cC CW ⊢
    generalize bs (wrX x) = F at CW ⊢
    clear hV hF hK hK2 hB0 hbd hka hT hkV hz hw hsz hA
    go_enter Tryz.func10, Tryz.ntmps10
    go_wp2_with fail
    refine cC.mono ?_
    rintro e w1 ⟨rfl, hb1⟩
    obtain ⟨x0, x1, x2, x3, x4, x5, hbw⟩ := keep6 hb1
    have cW := CW.out w1 hbw
    have HB := hide2 hbw
    clear cC CW hbw
    go_wp2_with fail
    refine cW.mono ?_
    rintro e w2 ⟨rfl, hb2⟩
    go_wp2_with fail
    go_ret2
    exact ⟨rfl, HB.out.trans (hb2.mono HB.out.size)⟩
  · rw [if_neg hz]
    have hzb : (chkX x != 0) = true := by simpa using hz
    simp only [exVal] at cC ⊢
    generalize chkX x = z at cC hzb ⊢
    clear hV hF hK hK2 hB0 hbd hka hT hkV hz hA
    go_enter Tryz.func10, Tryz.ntmps10
    go_wp2_with fail
    refine cC.mono ?_
    rintro e w1 ⟨rfl, hb1⟩
    obtain ⟨x0, x1, x2, x3, x4, x5, hbw⟩ := keep6 hb1
    clear cC
    go_wp2_with fail
    go_ret2
    exact ⟨rfl, hbw⟩
end Go.Proofs.YtipolobikigmbaaGreatDoor
