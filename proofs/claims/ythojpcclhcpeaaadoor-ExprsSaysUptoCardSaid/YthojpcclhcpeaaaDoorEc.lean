/-
  The contract of duetref.ExprText, for every right expression of at most 60 parts: it tells what exprs.Write writes.
-/
import Derived.Test.YthojpcclhcpeaaaDoorEa
import Derived.Test.YthojpcclhcpeaaaDoorRb
import Derived.Test.YthojpcclhcpeaaaDoorXf
import Derived.Test.YthojpcclhcpeaaaDoorBp
import Derived.Deep.DeepCutAuto
import Derived.Deep.RegionHeld3
namespace Go.Proofs.YthojpcclhcpeaaaDoor
open Go.RowKit Go.Shelf
theorem hide3 {p : Prop} (h : p) : Hid p := h
theorem wrap_fit3 (z : Int) (h0 : -9223372036854775808 ≤ z) (h1 : z ≤ 9223372036854775807) : IntKind.i64.wrap z = z := by
  unfold IntKind.wrap; simp [IntKind.bits, IntKind.signed]; omega

def ETSaid (d : Nat) : Prop := ∀ (x : Ex) (ao : Option Addr) (cap B : Nat) (w : World), wfX x → ExBd x cap → KA w B d x.kids ao → sizeX x ≤ 60 → B ≤ w.heap.size →
  Calls Tryd.prog 10 #[exVal x ao cap] w fun e w' => e = .returned (.string (bs (wrX x))) ∧ Below w.heap.size w w'
def SDSaid (d : Nat) : Prop := ∀ (x : Ex) (ao : Option Addr) (cap B : Nat) (least : Int) (w : World), wfX x → ExBd x cap → KA w B d x.kids ao → sizeX x ≤ 60 → B ≤ w.heap.size →
  Calls Tryd.prog 35 #[exVal x ao cap, .int .i64 least] w fun e w' => e = .returned (.string (bs (brX x least))) ∧ Below w.heap.size w w'

theorem valueText_any (so n : Int) (s : ByteArray) (w : World) (h0 : -9223372036854775808 ≤ n) (h1 : n ≤ 9223372036854775807) (h : chkZ vD so n s = 0) :
    Calls Tryd.prog 34 #[.agg #[.int .i64 so, .int .i64 n, .string s]] w fun e w' => e = .returned (.string (bs (wtL so n s))) ∧ Below w.heap.size w w' := by
  rcases chk_sorts vD so n s h with rfl | rfl | rfl
  · exact vtInt_any n s w h0 h1
  · refine vtBool_any n s w ?_
    unfold chkZ at h
    by_cases hn : n = 0 ∨ n = 1
    · exact hn
    · exfalso
      have a0 : (n == 0 || n == 1) = false := by simpa using hn
      rw [if_neg (by omega), if_pos rfl, a0, Bool.and_false] at h
      exact absurd h (by decide)
  · exact vtText_any n s w ((text_zero vD n s).1 h).2.1

set_option maxHeartbeats 1000000 in
theorem side_of (d : Nat) (hW : ETSaid d) : SDSaid d := by
  intro x ao cap B least w hw hbd hka hsz hB
  have hlen := wr_len w B d x ao cap hw hbd hka
  have hA : Below w.heap.size w (w.alloc (.cells #[.int .i64 x.kind, .string x.name, .int .i64 x.so, .int .i64 x.n, .string x.s, .slice ao x.kids.length cap] 26)) := (Below.refl _ _).alloc (Nat.le_refl _) _
  have cW := hW x ao cap B (w.alloc (.cells #[.int .i64 x.kind, .string x.name, .int .i64 x.so, .int .i64 x.n, .string x.s, .slice ao x.kids.length cap] 26)) hw hbd (KA.keep (hA.mono hB) hka) hsz (by simp; omega)
  have cL := refLevel_any x.name
  simp only [exVal] at cW ⊢
  rw [br_ref x hw]
  have hF : ((bs (wrX x)).size : Int) ≤ 18000 := by rw [bs_len]; omega
  have e1 : bs ([40] ++ wrX x ++ [41]) = (⟨#[40]⟩ : ByteArray) ++ bs (wrX x) ++ ⟨#[41]⟩ := by rw [bs_app, bs_app]; rfl
  have e2 : ∀ p : Prop, [Decidable p] → bs (if p then [40] ++ wrX x ++ [41] else wrX x) = if p then (⟨#[40]⟩ : ByteArray) ++ bs (wrX x) ++ ⟨#[41]⟩ else bs (wrX x) := fun p _ => by
    by_cases hp : p
    · rw [if_pos hp, if_pos hp]; exact e1
    · rw [if_neg hp, if_neg hp]
  rw [e2]
  clear e1 e2 hlen
  generalize bs (wrX x) = F at cW hF ⊢
  generalize lvl x.name.data.toList = lz at cL ⊢
  have CL := hide3 cL
  clear cL hW hbd hka hw hA
  by_cases h2 : x.kids.length = 2
  · rw [h2] at cW ⊢
    by_cases hl : lz < least
    · rw [if_pos ⟨rfl, hl⟩]
      clear h2
      go_enter Tryd.func35, Tryd.ntmps35
      go_wp2_with fail
      refine cW.mono ?_
      rintro e w1 ⟨rfl, hb1⟩
      obtain ⟨x0, x1, x2, x3, x4, x5, hbw⟩ := keep6 hb1
      have HB := hide3 hbw
      clear hbw cW
      go_wp2_with (go_at_call 31; refine (CL.out _).mono ?_; rintro e w2 ⟨rfl, hb2⟩)
      go_ret
      exact ⟨rfl, HB.out.trans (hb2.mono HB.out.size)⟩
    · rw [if_neg (fun h => hl h.2)]
      clear h2
      go_enter Tryd.func35, Tryd.ntmps35
      go_wp2_with fail
      refine cW.mono ?_
      rintro e w1 ⟨rfl, hb1⟩
      obtain ⟨x0, x1, x2, x3, x4, x5, hbw⟩ := keep6 hb1
      have HB := hide3 hbw
      clear hbw cW
      go_wp2_with (go_at_call 31; refine (CL.out _).mono ?_; rintro e w2 ⟨rfl, hb2⟩)
      go_ret
      exact ⟨rfl, HB.out.trans (hb2.mono HB.out.size)⟩
  · rw [if_neg (fun h => h2 h.1)]
    have k2 : ((x.kids.length : Int) == 2) = false := by simp; omega
    clear h2
    go_enter Tryd.func35, Tryd.ntmps35
    go_wp2_with fail
    refine cW.mono ?_
    rintro e w1 ⟨rfl, hb1⟩
    obtain ⟨x0, x1, x2, x3, x4, x5, hbw⟩ := keep6 hb1
    clear cW
    go_wp2_with fail
    go_ret
    exact ⟨rfl, hbw⟩

/-- what ExprText reads of its argument and of its two Kids -/
structure R3 (w : World) (nm : ByteArray) (sl : Value) (b o : Nat) (a a2 : Ex) (ao : Option Addr) (cap : Nat) (ao2 : Option Addr) (cap2 : Nat) (W : World) : Prop where
  lt : w.heap.size < W.heap.size
  c1 : W.cell? ⟨w.heap.size, 1, none⟩ = some (.string nm)
  c5 : W.cell? ⟨w.heap.size, 5, none⟩ = some sl
  ex : ExAt W b o a ao cap
  ex2 : ExAt W b (o + 6) a2 ao2 cap2
  bl : Below w.heap.size w W
theorem R3.keep {w : World} {nm : ByteArray} {sl : Value} {b o : Nat} {a a2 : Ex} {ao : Option Addr} {cap : Nat} {ao2 : Option Addr} {cap2 : Nat} {W W' : World} (h : R3 w nm sl b o a a2 ao cap ao2 cap2 W) (hb : Below W.heap.size W W') : R3 w nm sl b o a a2 ao cap ao2 cap2 W' :=
  ⟨Nat.lt_of_lt_of_le h.lt hb.size, (hb.cell (p := ⟨w.heap.size, 1, none⟩) h.lt).trans h.c1, (hb.cell (p := ⟨w.heap.size, 5, none⟩) h.lt).trans h.c5, h.ex.keep hb (lt_of_cell h.ex.c0), h.ex2.keep hb (lt_of_cell h.ex2.c0), h.bl.trans (hb.mono h.bl.size)⟩

theorem keepT {w w1 : World} {v0 v1 v2 v3 v4 v5 u0 u1 u2 u3 u4 u5 : Value} {T : TypeId} (hb : Below ((w.alloc (.cells #[v0, v1, v2, v3, v4, v5] T)).alloc (.cells #[u0, u1, u2, u3, u4, u5] T)).heap.size ((w.alloc (.cells #[v0, v1, v2, v3, v4, v5] T)).alloc (.cells #[u0, u1, u2, u3, u4, u5] T)) w1) :
    w1.cell? ⟨w.heap.size, 1, none⟩ = some v1 ∧ w1.cell? ⟨w.heap.size + 1, 5, none⟩ = some u5 ∧ Below w.heap.size w w1 := by
  obtain ⟨hc1, _⟩ := bcell hb
  exact ⟨(hc1 _ 1 (by simp; omega)).trans (by go_cell), (hc1 _ 5 (by simp)).trans (by go_cell), (((Below.refl _ _).alloc (Nat.le_refl _) _).alloc (by simp) _).trans (hb.mono (by simp; omega))⟩

set_option maxRecDepth 100000 in
set_option maxHeartbeats 4000000 in
theorem text_one (d : Nat) (ih : ∀ d', d' < d → ETSaid d') (x a : Ex) (ao : Option Addr) (cap B : Nat) (w : World) (hka : KA w B d x.kids ao) (hsz : sizeX x ≤ 60) (hB : B ≤ w.heap.size)
    (h : x.kind = 3) (hk : x.kids = [a]) (ha : wfX a) :
    Calls Tryd.prog 10 #[exVal x ao cap] w fun e w' => e = .returned (.string (bs (wrX x))) ∧ Below w.heap.size w w' := by
  have hA : Below w.heap.size w (w.alloc (.cells #[.int .i64 x.kind, .string x.name, .int .i64 x.so, .int .i64 x.n, .string x.s, .slice ao x.kids.length cap] 26)) := (Below.refl _ _).alloc (Nat.le_refl _) _
  have hsq := sizeX_eq x
  rw [wr_one x a h hk, bs_app]
  obtain ⟨d', rfl⟩ : ∃ d', d = d' + 1 := by
    cases d with
    | zero => simp only [KA] at hka; rw [hk] at hka; cases hka
    | succ d' => exact ⟨d', rfl⟩
  rcases hka with hka | ⟨b, o, rfl, hbB, hka⟩
  · rw [hk] at hka; cases hka
  · obtain ⟨ao1, cap1, hex, hxb, hkk⟩ := hka 0 (by rw [hk]; simp)
    have e0 : x.kids[0]'(by rw [hk]; simp) = a := by simp [hk]
    rw [e0] at hex hxb hkk
    simp only [Nat.zero_mul, Nat.add_zero] at hex
    have hlen := wr_len w B d' a ao1 cap1 ha hxb hkk
    rw [hk] at hsq
    simp at hsq
    have hsa : sizeX a ≤ 60 := by omega
    have hfl : ((bs (wrX a)).size : Int) ≤ 18000 := by rw [bs_len]; omega
    have CB := hide3 (fun (W : World) (hb : Below B w W) (hBW : B ≤ W.heap.size) => ih d' (by omega) a ao1 cap1 B W ha hxb (KA.keep hb hkk) hsa hBW)
    rw [br_one a ha]
    have e1 : bs ([40] ++ wrX a ++ [41]) = (⟨#[40]⟩ : ByteArray) ++ bs (wrX a) ++ ⟨#[41]⟩ := by rw [bs_app, bs_app]; rfl
    have y := hex.keep hA (by omega)
    have hbw : b < w.heap.size := by omega
    have hl1 : x.kids.length = 1 := by rw [hk]; rfl
    simp only [exVal] at CB ⊢
    rw [hl1, h] at hA y ⊢
    have HA := hide3 hA
    clear ih hka h hk hsq hsz hex hxb hkk hlen hsa e0 hl1 hA
    have cB := CB.out ((w.alloc (.cells #[.int .i64 3, .string x.name, .int .i64 x.so, .int .i64 x.n, .string x.s, .slice (some ⟨b, o, none⟩) 1 cap] 26)).alloc (.cells #[.int .i64 a.kind, .string a.name, .int .i64 a.so, .int .i64 a.n, .string a.s, .slice ao1 a.kids.length cap1] 26)) ((HA.out.mono hB).alloc (by simp; omega) _) (by simp; omega)
    clear CB HA
    by_cases h2 : a.kids.length = 2
    · rw [if_pos h2, e1]
      rw [h2] at cB
      have y5 := y.c5
      rw [h2] at y5
      obtain ⟨y0, y1, y2, y3, y4, _⟩ := y
      generalize bs (wrX a) = F at cB hfl ⊢
      clear e1 h2
      unfold aheadL
      by_cases h1 : x.name.data.toList = [110, 111, 116]
      · rw [if_pos h1]
        have b1 : (x.name.toList == [110, 111, 116]) = true := by rw [beqL]; simpa using h1
        clear h1
        go_enter Tryd.func10, Tryd.ntmps10
        go_wp2_with fail
        refine cB.mono ?_
        rintro e w1 ⟨rfl, hb1⟩
        obtain ⟨c1, c5, hbw1⟩ := keepT hb1
        have HB := hide3 hbw1
        clear cB hbw1 hb1
        go_wp2_with fail
        go_ret
        exact ⟨rfl, HB.out⟩
      · rw [if_neg h1]
        have b1 : (x.name.toList == [110, 111, 116]) = false := by rw [beqL]; simpa using h1
        clear h1
        by_cases h3 : x.name.data.toList = [110, 101, 103]
        · rw [if_pos h3]
          have b2 : (x.name.toList == [110, 101, 103]) = true := by rw [beqL]; simpa using h3
          clear h3
          go_enter Tryd.func10, Tryd.ntmps10
          go_wp2_with fail
          refine cB.mono ?_
          rintro e w1 ⟨rfl, hb1⟩
          obtain ⟨c1, c5, hbw1⟩ := keepT hb1
          have HB := hide3 hbw1
          clear cB hbw1 hb1
          go_wp2_with fail
          go_ret
          exact ⟨rfl, HB.out⟩
        · rw [if_neg h3]
          have b2 : (x.name.toList == [110, 101, 103]) = false := by rw [beqL]; simpa using h3
          clear h3
          go_enter Tryd.func10, Tryd.ntmps10
          go_wp2_with fail
          refine cB.mono ?_
          rintro e w1 ⟨rfl, hb1⟩
          obtain ⟨c1, c5, hbw1⟩ := keepT hb1
          have HB := hide3 hbw1
          clear cB hbw1 hb1
          go_wp2_with fail
          go_ret
          exact ⟨rfl, HB.out⟩
    · rw [if_neg h2]
      have k2 : ((a.kids.length : Int) == 2) = false := by simp; omega
      obtain ⟨y0, y1, y2, y3, y4, y5⟩ := y
      generalize bs (wrX a) = F at cB hfl ⊢
      clear e1 h2
      unfold aheadL
      by_cases h1 : x.name.data.toList = [110, 111, 116]
      · rw [if_pos h1]
        have b1 : (x.name.toList == [110, 111, 116]) = true := by rw [beqL]; simpa using h1
        clear h1
        go_enter Tryd.func10, Tryd.ntmps10
        go_wp2_with fail
        refine cB.mono ?_
        rintro e w1 ⟨rfl, hb1⟩
        obtain ⟨c1, c5, hbw1⟩ := keepT hb1
        have HB := hide3 hbw1
        clear cB hbw1 hb1
        go_wp2_with fail
        go_ret
        exact ⟨rfl, HB.out⟩
      · rw [if_neg h1]
        have b1 : (x.name.toList == [110, 111, 116]) = false := by rw [beqL]; simpa using h1
        clear h1
        by_cases h3 : x.name.data.toList = [110, 101, 103]
        · rw [if_pos h3]
          have b2 : (x.name.toList == [110, 101, 103]) = true := by rw [beqL]; simpa using h3
          clear h3
          go_enter Tryd.func10, Tryd.ntmps10
          go_wp2_with fail
          refine cB.mono ?_
          rintro e w1 ⟨rfl, hb1⟩
          obtain ⟨c1, c5, hbw1⟩ := keepT hb1
          have HB := hide3 hbw1
          clear cB hbw1 hb1
          go_wp2_with fail
          go_ret
          exact ⟨rfl, HB.out⟩
        · rw [if_neg h3]
          have b2 : (x.name.toList == [110, 101, 103]) = false := by rw [beqL]; simpa using h3
          clear h3
          go_enter Tryd.func10, Tryd.ntmps10
          go_wp2_with fail
          refine cB.mono ?_
          rintro e w1 ⟨rfl, hb1⟩
          obtain ⟨c1, c5, hbw1⟩ := keepT hb1
          have HB := hide3 hbw1
          clear cB hbw1 hb1
          go_wp2_with fail
          go_ret
          exact ⟨rfl, HB.out⟩

set_option maxRecDepth 100000 in
set_option maxHeartbeats 4000000 in
theorem text_two (d : Nat) (ih : ∀ d', d' < d → SDSaid d') (x a a2 : Ex) (ao : Option Addr) (cap B : Nat) (w : World) (hka : KA w B d x.kids ao) (hsz : sizeX x ≤ 60) (hB : B ≤ w.heap.size)
    (h : x.kind = 3) (hk : x.kids = [a, a2]) (ha : wfX a) (ha2 : wfX a2) (hop : 0 < lvl x.name.data.toList) :
    Calls Tryd.prog 10 #[exVal x ao cap] w fun e w' => e = .returned (.string (bs (wrX x))) ∧ Below w.heap.size w w' := by
  have hA : Below w.heap.size w (w.alloc (.cells #[.int .i64 x.kind, .string x.name, .int .i64 x.so, .int .i64 x.n, .string x.s, .slice ao x.kids.length cap] 26)) := (Below.refl _ _).alloc (Nat.le_refl _) _
  have hsq := sizeX_eq x
  rw [wr_two x a a2 h hk, bs_app, bs_app, bs_app, bs_app, bs_of]
  obtain ⟨d', rfl⟩ : ∃ d', d = d' + 1 := by
    cases d with
    | zero => simp only [KA] at hka; rw [hk] at hka; cases hka
    | succ d' => exact ⟨d', rfl⟩
  rcases hka with hka | ⟨b, o, rfl, hbB, hka⟩
  · rw [hk] at hka; cases hka
  · obtain ⟨ao1, cap1, hex, hxb, hkk⟩ := hka 0 (by rw [hk]; simp)
    obtain ⟨ao2, cap2, hex2, hxb2, hkk2⟩ := hka 1 (by rw [hk]; simp)
    have e0 : x.kids[0]'(by rw [hk]; simp) = a := by simp [hk]
    have e1 : x.kids[1]'(by rw [hk]; simp) = a2 := by simp [hk]
    rw [e0] at hex hxb hkk
    rw [e1] at hex2 hxb2 hkk2
    simp only [Nat.zero_mul, Nat.one_mul, Nat.add_zero] at hex hex2
    have hlen := wr_len w B d' a ao1 cap1 ha hxb hkk
    have hlen2 := wr_len w B d' a2 ao2 cap2 ha2 hxb2 hkk2
    rw [hk] at hsq
    simp at hsq
    have hsa : sizeX a ≤ 60 := by omega
    have hsa2 : sizeX a2 ≤ 60 := by omega
    have hbl : (bs (brX a (lvl x.name.data.toList))).size ≤ 20000 := by rw [bs_len]; have := br_len a (lvl x.name.data.toList); omega
    have hbl2 : (bs (brX a2 (lvl x.name.data.toList + 1))).size ≤ 20000 := by rw [bs_len]; have := br_len a2 (lvl x.name.data.toList + 1); omega
    have hnl : x.name.size ≤ 3 := by have := lvl_len3 _ hop; rw [← size_list] at this; omega
    have CB := hide3 (fun (W : World) (hb : Below B w W) (hBW : B ≤ W.heap.size) => ih d' (by omega) a ao1 cap1 B (lvl x.name.data.toList) W ha hxb (KA.keep hb hkk) hsa hBW)
    have CC := hide3 (fun (W : World) (hb : Below B w W) (hBW : B ≤ W.heap.size) => ih d' (by omega) a2 ao2 cap2 B (lvl x.name.data.toList + 1) W ha2 hxb2 (KA.keep hb hkk2) hsa2 hBW)
    have cL := refLevel_any x.name
    have hz0 := lvl_ge x.name.data.toList
    have hz5 := lvl_le x.name.data.toList
    generalize bs (brX a (lvl x.name.data.toList)) = F at CB hbl ⊢
    generalize bs (brX a2 (lvl x.name.data.toList + 1)) = G at CC hbl2 ⊢
    generalize lvl x.name.data.toList = lz at CB CC cL hz0 hz5 hop
    have hwr : IntKind.i64.wrap (lz + 1) = lz + 1 := wrap_fit3 _ (by omega) (by omega)
    rw [← hwr] at CC
    clear hwr
    have CL := hide3 cL
    have y := hex.keep hA (by omega)
    have y2 := hex2.keep hA (by omega)
    have r1 : R3 w x.name (.slice (some ⟨b, o, none⟩) x.kids.length cap) b o a a2 ao1 cap1 ao2 cap2 (w.alloc (.cells #[.int .i64 x.kind, .string x.name, .int .i64 x.so, .int .i64 x.n, .string x.s, .slice (some ⟨b, o, none⟩) x.kids.length cap] 26)) := ⟨by simp, by go_cell, by go_cell, y, y2, hA⟩
    have s1 : ¬ (9223372036854775807 < F.size + 1) := by omega
    have s2 : ¬ (9223372036854775807 < F.size + 1 + x.name.size) := by omega
    have s3 : ¬ (9223372036854775807 < F.size + 1 + x.name.size + 1) := by omega
    have s4 : ¬ (9223372036854775807 < F.size + 1 + x.name.size + 1 + G.size) := by omega
    simp only [exVal] at CB CC ⊢
    have hl1 : x.kids.length = 2 := by rw [hk]; rfl
    rw [hl1] at r1 ⊢
    rw [h] at r1 ⊢
    have HR0 := hide3 r1
    clear ih hka hA hop h hk hsq hsz hex hxb hkk hex2 hxb2 hkk2 cL hlen hlen2 hsa hsa2 e0 e1 y y2 hl1 r1
    go_enter Tryd.func10, Tryd.ntmps10
    go_wp2_with fail
    refine (CL.out _).mono ?_
    rintro e w1 ⟨rfl, hb1⟩
    have r1 := HR0.out.keep hb1
    clear hb1 HR0
    have HR := hide3 (r1.keep ((Below.refl _ _).drew))
    have CB2 := hide3 (CB.out _ (HR.out.bl.mono hB) (Nat.le_trans hB HR.out.bl.size))
    obtain ⟨lt, c1, c5, ⟨e0, e1, e2, e3, e4, e5⟩, ⟨f0, f1, f2, f3, f4, f5⟩, hbw⟩ := r1
    clear CB
    go_wp2_with fail
    go_region_held3 (fun w' => w'.cell? ⟨w.heap.size, 1, none⟩ = some (.string x.name) ∧ w'.cell? ⟨w.heap.size, 5, none⟩ = some (.slice (some ⟨b, o, none⟩) 2 cap) ∧
      w'.cell? ⟨b, o, none⟩ = some (.int .i64 a.kind) ∧ w'.cell? ⟨b, o + 1, none⟩ = some (.string a.name) ∧ w'.cell? ⟨b, o + 2, none⟩ = some (.int .i64 a.so) ∧ w'.cell? ⟨b, o + 3, none⟩ = some (.int .i64 a.n) ∧ w'.cell? ⟨b, o + 4, none⟩ = some (.string a.s) ∧ w'.cell? ⟨b, o + 5, none⟩ = some (.slice ao1 a.kids.length cap1) ∧
      w'.cell? ⟨b, o + 6, none⟩ = some (.int .i64 a2.kind) ∧ w'.cell? ⟨b, o + 6 + 1, none⟩ = some (.string a2.name) ∧ w'.cell? ⟨b, o + 6 + 2, none⟩ = some (.int .i64 a2.so) ∧ w'.cell? ⟨b, o + 6 + 3, none⟩ = some (.int .i64 a2.n) ∧ w'.cell? ⟨b, o + 6 + 4, none⟩ = some (.string a2.s) ∧ w'.cell? ⟨b, o + 6 + 5, none⟩ = some (.slice ao2 a2.kids.length cap2)) (go_keep) (first
        | (go_at_call 35; refine CB2.out.mono ?_; rintro e w2 ⟨rfl, hb2⟩; have t3 := HR.out.keep hb2; have cC := CC.out _ (t3.bl.mono hB) (Nat.le_trans hB t3.bl.size); have HR3 := hide3 t3; obtain ⟨lt', c1', c5', ⟨e0', e1', e2', e3', e4', e5'⟩, ⟨f0', f1', f2', f3', f4', f5'⟩, hbw'⟩ := t3; clear c1 c5 e0 e1 e2 e3 e4 e5 f0 f1 f2 f3 f4 f5 CB2 HR hb2)
        | (go_at_call 35; go_must (refine cC.mono ?_; rintro e w3 ⟨rfl, hb3⟩; have t4 := HR3.out.keep hb3; obtain ⟨lt'', c1'', c5'', ⟨e0'', e1'', e2'', e3'', e4'', e5''⟩, ⟨f0'', f1'', f2'', f3'', f4'', f5''⟩, hbw''⟩ := t4)))
    go_wp2_with fail
    go_ret
    exact ⟨rfl, hbw''⟩

set_option maxHeartbeats 1000000 in
theorem text_step (d : Nat) (ih : ∀ d', d' < d → ETSaid d') : ETSaid d := by
  intro x ao cap B w hw hbd hka hsz hB
  have hA : Below w.heap.size w (w.alloc (.cells #[.int .i64 x.kind, .string x.name, .int .i64 x.so, .int .i64 x.n, .string x.s, .slice ao x.kids.length cap] 26)) := (Below.refl _ _).alloc (Nat.le_refl _) _
  rcases wf_cases _ hw with ⟨h, hk, hg⟩ | ⟨h, hk, hn⟩ | ⟨h, a, hk, ha, hop⟩ | ⟨h, a, a2, hk, ha, ha2, hop⟩
  · rw [wr_lit x h]
    have cW := valueText_any x.so x.n x.s (w.alloc (.cells #[.int .i64 x.kind, .string x.name, .int .i64 x.so, .int .i64 x.n, .string x.s, .slice ao x.kids.length cap] 26)) hbd.n0 hbd.n1 hg
    generalize bs (wtL x.so x.n x.s) = F at cW ⊢
    have HA := hide3 hA
    simp only [exVal]
    rw [h] at cW HA ⊢
    clear ih hw hbd hka hA hg h hk hsz
    go_enter Tryd.func10, Tryd.ntmps10
    go_wp2_with fail
    refine cW.mono ?_
    rintro e w1 ⟨rfl, hb⟩
    go_wp2_with fail
    go_ret
    exact ⟨rfl, HA.out.trans (hb.mono (by simp))⟩
  · rw [wr_name x h, bs_of]
    have HA := hide3 hA
    simp only [exVal]
    rw [h] at HA ⊢
    clear ih hw hbd hka hA hn h hk hsz
    go_enter Tryd.func10, Tryd.ntmps10
    go_wp2_with fail
    go_ret
    exact ⟨rfl, HA.out⟩
  · exact text_one d ih x a ao cap B w hka hsz hB h hk ha
  · exact text_two d (fun d' hd => side_of d' (ih d' hd)) x a a2 ao cap B w hka hsz hB h hk ha ha2 hop
theorem exprText_any (d : Nat) : ETSaid d := by
  induction d using Nat.strongRecOn with
  | _ d ih => exact text_step d ih
end Go.Proofs.YthojpcclhcpeaaaDoor
