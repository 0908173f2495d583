/-
  The contract of exprs.expression, if those of operand and expression hold of shorter texts; both, of all texts.
-/
import Derived.Test.YtipolobikigmbaaGreatDoorGr
import Derived.Test.YtipolobikigmbaaGreatDoorGg
import Derived.Deep.LoopGhost
namespace Go.Proofs.YtipolobikigmbaaGreatDoor
open Go.RowKit Go.Shelf
theorem take_oneE {P : Program} {ops : Array Oper} {md : Region.Mode} {Q : Exit → Act → World → Prop} {fuel : Nat} {listed : Array Bool} {a : Act} {w : World} (i : Nat) (h : AllReady P md ops Q fuel listed a w [i]) (hr : Region.ready md ops listed = [i]) : wpAny P md ops Q (fuel + 1) listed a w := wpAny_ready hr (by simp) h
/-- blocks behind the result's, but for x's own -/
def NX (w : World) (xb : Nat) (W : World) (b : Nat) : Prop := w.heap.size < b ∧ b < W.heap.size ∧ b ≠ xb
/-- what has been read so far lies in block xb -/
structure LX (w : World) (rb xb : Nat) (x : Ex) (ao : Option Addr) (cap d : Nat) (W : World) : Prop where
  z : ZE W w.heap.size
  at_ : ExAt W xb 0 x ao cap
  bd : ExBd x cap
  ka : KR W (NX w xb W) d x.kids ao
  lt : xb < W.heap.size
  gt : w.heap.size < xb
  fz : ∀ o, W.frozen? ⟨xb, o, none⟩ = false
  fr : FR rb w W
theorem LX.keep {w W W' : World} {rb xb : Nat} {x : Ex} {ao : Option Addr} {cap d : Nat} (h : LX w rb xb x ao cap d W) (hf : FR rb W W') (hr : rb < w.heap.size) : LX w rb xb x ao cap d W' :=
  ⟨h.z.keepF hf (by omega), h.at_.keepF hf (by have := h.gt; omega) h.lt, h.bd, h.ka.keep (fun b _ hb => hf.cellO hb.2.1 (by have := hb.1; omega)) (fun b hb => ⟨hb.1, Nat.lt_of_lt_of_le hb.2.1 hf.size, hb.2.2⟩), Nat.lt_of_lt_of_le h.lt hf.size, h.gt, fun o => (hf.frozenO h.lt (by have := h.gt; omega)).trans (h.fz o), h.fr.trans hf⟩
theorem LX.new {w w0 w1 : World} {rb : Nat} {x : Ex} {ao : Option Addr} {cap d : Nat} (hz : ZE w1 w.heap.size) (hg : GE w0 w1 d x ao cap) (h0 : w.heap.size < w0.heap.size) (hf : FR rb w w1) : LX w rb w1.heap.size x ao cap d (w1.alloc (.cells #[.int .i64 x.kind, .string x.name, .int .i64 x.so, .int .i64 x.n, .string x.s, .slice ao x.kids.length cap] 39)) := by
  have hA : FR (w1.heap.size) w1 (w1.alloc (.cells #[.int .i64 x.kind, .string x.name, .int .i64 x.so, .int .i64 x.n, .string x.s, .slice ao x.kids.length cap] 39)) := FR.al _
  have hl := hz.lt
  exact ⟨hz.keepF hA (by omega), ExAt.lit w1 x ao cap, hg.bd, hg.ka.keep (fun b _ hb => hA.cellO hb.2 (by have := hb.2; omega)) (fun b hb => ⟨by have := hb.1; omega, Nat.lt_of_lt_of_le hb.2 hA.size, by have := hb.2; omega⟩), by simp, hl, fun o => by go_simp, hf.trans (FR.al _)⟩
theorem LX.fin {w W : World} {rb xb : Nat} {x : Ex} {ao : Option Addr} {cap d : Nat} (h : LX w rb xb x ao cap d W) (v0 v1 v2 v3 v4 v5 : Value) : GE w (st6 W w.heap.size 0 v0 v1 v2 v3 v4 v5) d x ao cap :=
  ⟨h.bd, h.ka.keep (fun b _ hb => st6_other _ _ _ _ _ _ _ _ _ _ _ (.inl (by have := hb.1; omega))) (fun b hb => ⟨by have := hb.1; omega, by rw [st6_size]; exact hb.2.1⟩)⟩
theorem LX.step {w W W2 W3 : World} {rb xb : Nat} {x y : Ex} {ao ao2 : Option Addr} {cap cap2 d d2 : Nat} (h : LX w rb xb x ao cap d W) (hr : rb < w.heap.size) (hf : FR rb W W2) (hg : GE W W2 d2 y ao2 cap2) (hb : Below (W2.alloc (.cells #[.int .i64 x.kind, .string x.name, .int .i64 x.so, .int .i64 x.n, .string x.s, .slice ao x.kids.length cap, .int .i64 y.kind, .string y.name, .int .i64 y.so, .int .i64 y.n, .string y.s, .slice ao2 y.kids.length cap2] 39)).heap.size (W2.alloc (.cells #[.int .i64 x.kind, .string x.name, .int .i64 x.so, .int .i64 x.n, .string x.s, .slice ao x.kids.length cap, .int .i64 y.kind, .string y.name, .int .i64 y.so, .int .i64 y.n, .string y.s, .slice ao2 y.kids.length cap2] 39)) W3) (op : ByteArray) (ho : op.size ≤ 9223372036854775807) :
    LX w rb xb ⟨3, op, 0, 0, ⟨#[]⟩, [x, y]⟩ (some ⟨W2.heap.size, 0, none⟩) 2 (max d d2 + 1) (st6 W3 xb 0 (.int .i64 3) (.string op) (.int .i64 0) (.int .i64 0) (.string ⟨#[]⟩) (.slice (some ⟨W2.heap.size, 0, none⟩) 2 2)) := by
  have h2 := h.keep hf hr
  have hgt := h.gt
  have hlt := h.lt
  have hlt2 := h2.lt
  have hsz := hf.size
  have hAl : FR W2.heap.size W2 (W2.alloc (.cells #[.int .i64 x.kind, .string x.name, .int .i64 x.so, .int .i64 x.n, .string x.s, .slice ao x.kids.length cap, .int .i64 y.kind, .string y.name, .int .i64 y.so, .int .i64 y.n, .string y.s, .slice ao2 y.kids.length cap2] 39)) := FR.al _
  have hs3 : W2.heap.size + 1 ≤ W3.heap.size := by have := hb.size; simp at this; omega
  have hB : ∀ o v, (#[.int .i64 x.kind, .string x.name, .int .i64 x.so, .int .i64 x.n, .string x.s, .slice ao x.kids.length cap, .int .i64 y.kind, .string y.name, .int .i64 y.so, .int .i64 y.n, .string y.s, .slice ao2 y.kids.length cap2] : Array Value)[o]? = some v → W3.cell? ⟨W2.heap.size, o, none⟩ = some v := fun o v hv =>
    (hb.cell (p := ⟨W2.heap.size, o, none⟩) (by simp)).trans ((World.cell?_alloc_new _ _ _ _).trans hv)
  have hC : ∀ b o, b < W2.heap.size → W3.cell? ⟨b, o, none⟩ = W2.cell? ⟨b, o, none⟩ := fun b o hbb =>
    (hb.cell (p := ⟨b, o, none⟩) (by simp; omega)).trans (hAl.cellO hbb (by omega))
  have hO : ∀ b o, b ≠ xb → (Go.Proofs.YtipolobikigmbaaGreatDoor.st6 W3 xb 0 (.int .i64 3) (.string op) (.int .i64 0) (.int .i64 0) (.string ⟨#[]⟩) (.slice (some ⟨W2.heap.size, 0, none⟩) 2 2)).cell? ⟨b, o, none⟩ = W3.cell? ⟨b, o, none⟩ := fun b o hbb => st6_other _ _ _ _ _ _ _ _ _ _ _ (.inl hbb)
  have hS := st6_size W3 xb 0 (.int .i64 3) (.string op) (.int .i64 0) (.int .i64 0) (.string ⟨#[]⟩) (.slice (some ⟨W2.heap.size, 0, none⟩) 2 2)
  have hfz : ∀ b o, b < W2.heap.size → W3.frozen? ⟨b, o, none⟩ = W2.frozen? ⟨b, o, none⟩ := fun b o hbb =>
    (hb.frozen (p := ⟨b, o, none⟩) (by simp; omega)).trans (hAl.frozenO hbb (by omega))
  have x2 := h2.at_
  have hX := st6_at W3 xb 0 ⟨3, op, 0, 0, ⟨#[]⟩, [x, y]⟩ (some ⟨W2.heap.size, 0, none⟩) 2 (fun j hj => by
    rw [Nat.zero_add]
    have : j = 0 ∨ j = 1 ∨ j = 2 ∨ j = 3 ∨ j = 4 ∨ j = 5 := by omega
    rcases this with rfl | rfl | rfl | rfl | rfl | rfl
    · exact ⟨_, (hC _ _ hlt2).trans x2.c0⟩
    · exact ⟨_, (hC _ _ hlt2).trans x2.c1⟩
    · exact ⟨_, (hC _ _ hlt2).trans x2.c2⟩
    · exact ⟨_, (hC _ _ hlt2).trans x2.c3⟩
    · exact ⟨_, (hC _ _ hlt2).trans x2.c4⟩
    · exact ⟨_, (hC _ _ hlt2).trans x2.c5⟩)
  have hz := h2.z
  have hzl := hz.lt
  have kx : KR (Go.Proofs.YtipolobikigmbaaGreatDoor.st6 W3 xb 0 (.int .i64 3) (.string op) (.int .i64 0) (.int .i64 0) (.string ⟨#[]⟩) (.slice (some ⟨W2.heap.size, 0, none⟩) 2 2)) (NX w xb (Go.Proofs.YtipolobikigmbaaGreatDoor.st6 W3 xb 0 (.int .i64 3) (.string op) (.int .i64 0) (.int .i64 0) (.string ⟨#[]⟩) (.slice (some ⟨W2.heap.size, 0, none⟩) 2 2))) d x.kids ao :=
    h2.ka.keep (fun b o hb' => (hO b o hb'.2.2).trans (hC b o hb'.2.1)) (fun b hb' => ⟨hb'.1, by rw [hS]; have := hb'.2.1; omega, hb'.2.2⟩)
  have ky : KR (Go.Proofs.YtipolobikigmbaaGreatDoor.st6 W3 xb 0 (.int .i64 3) (.string op) (.int .i64 0) (.int .i64 0) (.string ⟨#[]⟩) (.slice (some ⟨W2.heap.size, 0, none⟩) 2 2)) (NX w xb (Go.Proofs.YtipolobikigmbaaGreatDoor.st6 W3 xb 0 (.int .i64 3) (.string op) (.int .i64 0) (.int .i64 0) (.string ⟨#[]⟩) (.slice (some ⟨W2.heap.size, 0, none⟩) 2 2))) d2 y.kids ao2 :=
    hg.ka.keep (fun b o hb' => (hO b o (by have := hb'.1; omega)).trans (hC b o hb'.2)) (fun b hb' => ⟨by have := hb'.1; omega, by rw [hS]; have := hb'.2; omega, by have := hb'.1; omega⟩)
  obtain ⟨j1, e1⟩ : ∃ j, max d d2 = d + j := ⟨max d d2 - d, by omega⟩
  obtain ⟨j2, e2⟩ : ∃ j, max d d2 = d2 + j := ⟨max d d2 - d2, by omega⟩
  refine ⟨⟨by rw [hS]; omega, (hO _ _ (by omega)).trans ((hC _ _ hzl).trans hz.c0), (hO _ _ (by omega)).trans ((hC _ _ hzl).trans hz.c1), (hO _ _ (by omega)).trans ((hC _ _ hzl).trans hz.c2), (hO _ _ (by omega)).trans ((hC _ _ hzl).trans hz.c3), (hO _ _ (by omega)).trans ((hC _ _ hzl).trans hz.c4), (hO _ _ (by omega)).trans ((hC _ _ hzl).trans hz.c5), fun o => by rw [st6_frozen, hfz _ _ hzl]; exact hz.f o⟩, hX, ⟨ho, by show (⟨#[]⟩ : ByteArray).size ≤ _; decide, by show (-9223372036854775808 : Int) ≤ 0; decide, by show (0 : Int) ≤ _; decide, Nat.le_refl _, by decide⟩, ?_, by rw [hS]; omega, hgt, fun o => by rw [st6_frozen, hfz _ _ hlt2]; exact h2.fz o, ((h2.fr.trans (FR.al _)).trans (FR.of hb)).st6 (by omega) _ _ _ _ _ _⟩
  refine .inr ⟨W2.heap.size, 0, rfl, ⟨by omega, by rw [hS]; omega, by omega⟩, fun i hi => ?_⟩
  have h0 : i = 0 ∨ i = 1 := by simp at hi; omega
  have hne : W2.heap.size ≠ xb := by omega
  rcases h0 with rfl | rfl
  · exact ⟨ao, cap, ⟨(hO _ _ hne).trans (hB 0 _ rfl), (hO _ _ hne).trans (hB 1 _ rfl), (hO _ _ hne).trans (hB 2 _ rfl), (hO _ _ hne).trans (hB 3 _ rfl), (hO _ _ hne).trans (hB 4 _ rfl), (hO _ _ hne).trans (hB 5 _ rfl)⟩, h.bd, by rw [e1]; exact kx.more j1⟩
  · exact ⟨ao2, cap2, ⟨(hO _ _ hne).trans (hB 6 _ rfl), (hO _ _ hne).trans (hB 7 _ rfl), (hO _ _ hne).trans (hB 8 _ rfl), (hO _ _ hne).trans (hB 9 _ rfl), (hO _ _ hne).trans (hB 10 _ rfl), (hO _ _ hne).trans (hB 11 _ rfl)⟩, hg.bd, by rw [e2]; exact ky.more j2⟩
set_option maxRecDepth 100000 in
set_option maxHeartbeats 4000000 in
theorem expression_any {Tabs : World → Prop} {s : ByteArray} {rb n : Nat} (hF : ∀ w w', Tabs w → FR rb w w' → Tabs w') (hO : EOSaid Tabs s rb n) (hE : EESaid Tabs s rb n) (least : Int) (p : Nat) (w : World) (k1 : 1 ≤ least) (k6 : least ≤ 6) (hT : Tabs w) (h : RS w rb s p) (hn : 2 * (rs s p).length + 2 < n + 1) :
    Calls Tryz.prog 32 #[.pointer (some ⟨rb, 0, none⟩), .int .i64 least] w fun e w' => EPost s rb w (rdX rdZ (n + 1) (some least) (rs s p)) e w' ∧ FR rb w w' := by
  have hrl := h.lt
  have HA := hideK (h.al (.cells #[.int .i64 0, .string ⟨#[]⟩, .int .i64 0, .int .i64 0, .string ⟨#[]⟩, .slice none 0 0] 39))
  have HT := hideK (hF _ _ hT (FR.al (pb := rb) (.cells #[.int .i64 0, .string ⟨#[]⟩, .int .i64 0, .int .i64 0, .string ⟨#[]⟩, .slice none 0 0] 39)))
  have HZ := hideK (ZE.new w 39)
  have HF := hideK (FR.al (pb := rb) (w := w) (.cells #[.int .i64 0, .string ⟨#[]⟩, .int .i64 0, .int .i64 0, .string ⟨#[]⟩, .slice none 0 0] 39))
  have hl0 : 2 * (rs s p).length + 1 < n := by omega
  rw [show rdX rdZ (n + 1) (some least) (rs s p) = (match rdX rdZ n none (rs s p) with | .error e => .error e | .ok (x, r) => rdLp (fun k => rdX rdZ n (some k)) least n x r) from rfl]
  have HT0 := hideK hT
  have hle0 := h.le
  have hsz := h.sz
  cases hX0 : rdX rdZ n none (rs s p) with
  | error y =>
    obtain ⟨c, r⟩ := y
    simp only
    clear h hT
    go_enter Tryz.func32, Tryz.ntmps32
    go_wp2_with fail
    refine (operand_bad hO hX0 hl0 p _ HT.out HA.out rfl).mono ?_
    rintro e w1 ⟨rfl, hf1⟩
    go_wp2_with fail
    exact ⟨rfl, EPost.no, HF.out.trans hf1⟩
  | ok y =>
    obtain ⟨x, r⟩ := y
    simp only
    have hr0 : r.length ≤ (rs s p).length := rdX_le _ _ _ _ _ hX0
    generalize hX : rdLp (fun k => rdX rdZ n (some k)) least n x r = X
    clear h hT
    go_enter Tryz.func32, Tryz.ntmps32
    go_wp2_with fail
    refine (operand_ok hO hX0 hl0 p _ HT.out HA.out rfl).mono ?_
    rintro e w1 ⟨⟨d, ao, cap, rfl, hg⟩, ⟨q1, hq1, hl1⟩, hf1⟩
    have L1 := hideK (LX.new (HZ.out.keepF hf1 (by omega)) hg (by simp) (HF.out.trans hf1))
    have R1 := hideK (hq1.al (.cells #[.int .i64 x.kind, .string x.name, .int .i64 x.so, .int .i64 x.n, .string x.s, .slice ao x.kids.length cap] 39))
    clear hg HZ HF HA HT hq1
    go_wp2_with fail
    go_loopg [] n (fun m wr => ∃ (x : Ex) (d : Nat) (ao : Option Addr) (cap q : Nat), LX w rb w1.heap.size x ao cap d wr ∧ RS wr rb s q ∧ (rs s q).length < m ∧ m ≤ n ∧ 2 * (rs s q).length + 1 < n ∧ rdLp (fun k => rdX rdZ n (some k)) least m x (rs s q) = X)
    case atStart => exact ⟨x, d, ao, cap, q1, L1.out, R1.out, by rw [hl1]; omega, Nat.le_refl _, by rw [hl1]; omega, by rw [hl1]; exact hX⟩
    case round =>
      clear L1 R1 hl1 hX hX0 hr0 hl0 hf1
      obtain ⟨x, d, ao, cap, q, hL, hq, hm, hmn, hqn, hXr⟩ := hrel
      obtain ⟨m, rfl⟩ : ∃ m, gk = m + 1 := ⟨gk - 1, by omega⟩
      have hlen : (rs s q).length ≤ 2000 := by rw [rs_len]; omega
      have cR := rest_any rb q s _ hq
      have HOA := hideK (fun w2 => operatorAhead_any (rs s q) w2 hlen)
      have HLV := hideK (fun w2 => level_any (bs (opAh (rs s q))) w2)
      rw [bs_list] at HLV
      have LL := hideK hL
      have RR := hideK hq
      have TT := hideK (hF _ _ HT0.out hL.fr)
      have hos : (bs (opAh (rs s q))).size ≤ 9223372036854775807 := by rw [bs_size]; have := opAh_le100 (rs s q); omega
      clear hL hq
      unfold rdLp at hXr
      by_cases hlv : lvl (opAh (rs s q)) < least
      · rw [if_pos hlv] at hXr
        subst hXr
        have hdl : decide (lvl (opAh (rs s q)) < least) = true := decide_eq_true hlv
        generalize lvl (opAh (rs s q)) = lv at *
        generalize bs (opAh (rs s q)) = opb at *
        generalize bs (rs s q) = rest at *
        go_wp2_with fail
        refine cR.mono ?_
        rintro e w2 ⟨rfl, hb2⟩
        go_wp2_with fail
        refine (HOA.out _).mono ?_
        rintro e w3 ⟨rfl, hb3⟩
        have L3 := hideK ((LL.out.keep (FR.of hb2) hrl).keep (FR.of hb3) hrl)
        have R3 := hideK ((RR.out.keep hb2).keep hb3)
        go_wp2_with fail
        refine (HLV.out _).mono ?_
        rintro e w4 ⟨rfl, hw4⟩
        subst hw4
        obtain ⟨x0, x1, x2, x3, x4, x5⟩ := L3.out.at_
        simp only [Nat.zero_add] at x0 x1 x2 x3 x4 x5
        have Z8 := hideK L3.out.z
        obtain ⟨zl, z0, z1, z2, z3, z4, z5, zf⟩ := id Z8.out
        have f0 := zf 0
        have f1 := zf 1
        have f2 := zf 2
        have f3 := zf 3
        have f4 := zf 4
        have f5 := zf 5
        clear zf
        go_wp2_with fail
        have TA := st6_at (w4) w.heap.size 0 x (ao) (cap) (ZE.six Z8.out)
        have R9 := (R3.out).st6 (b := w.heap.size) (by omega) (.int .i64 x.kind) (.string x.name) (.int .i64 x.so) (.int .i64 x.n) (.string x.s) (.slice ao x.kids.length cap)
        have F9 := (L3.out.fr).st6 (b := w.heap.size) (Nat.le_refl _) (.int .i64 x.kind) (.string x.name) (.int .i64 x.so) (.int .i64 x.n) (.string x.s) (.slice ao x.kids.length cap)
        have G9 := (L3.out.fin (.int .i64 x.kind) (.string x.name) (.int .i64 x.so) (.int .i64 x.n) (.string x.s) (.slice ao x.kids.length cap))
        change ExAt (st6 (w4) w.heap.size 0 (.int .i64 x.kind) (.string x.name) (.int .i64 x.so) (.int .i64 x.n) (.string x.s) (.slice ao x.kids.length cap)) _ _ _ _ _ at TA
        change bodyPost _ _ _ _ _ (st6 (w4) w.heap.size 0 (.int .i64 x.kind) (.string x.name) (.int .i64 x.so) (.int .i64 x.n) (.string x.s) (.slice ao x.kids.length cap))
        change GE _ (st6 (w4) w.heap.size 0 (.int .i64 x.kind) (.string x.name) (.int .i64 x.so) (.int .i64 x.n) (.string x.s) (.slice ao x.kids.length cap)) _ _ _ _ at G9
        generalize st6 (w4) w.heap.size 0 (.int .i64 x.kind) (.string x.name) (.int .i64 x.so) (.int .i64 x.n) (.string x.s) (.slice ao x.kids.length cap) = W9 at TA R9 F9 G9 ⊢
        obtain ⟨r0, r1, r2, r3, r4, r5⟩ := TA
        simp only [Nat.zero_add] at r0 r1 r2 r3 r4 r5
        refine bodyPost_ret (v := .agg #[.int .i64 x.kind, .string x.name, .int .i64 x.so, .int .i64 x.n, .string x.s, .slice ao x.kids.length cap]) (by simp [results, Tryz.results32, go_sem, r0, r1, r2, r3, r4, r5]) rfl ?_
        exact ⟨EPost.yes ⟨_, _, _, rfl, G9⟩ R9 rfl, F9⟩
      · rw [if_neg hlv] at hXr
        obtain ⟨ho1, ho5⟩ := opAh_lvl _ _ k1 hlv
        have hdl : decide (lvl (opAh (rs s q)) < least) = false := decide_eq_false hlv
        have hpp : q + (bs (opAh (rs s q))).size ≤ s.size := by
          rw [bs_size]
          have := opAh_len (rs s q)
          rw [rs_len] at this
          have := RR.out.le
          omega
        have HP := hideK (fun (w2 : World) (h2 : RS w2 rb s q) => pass_any rb q (bs (opAh (rs s q))).size s w2 h2 hpp)
        have hsl := skd_len (opAh (rs s q)).length (rs s q) (opAh_len (rs s q))
        have hlv1 : 1 ≤ lvl (opAh (rs s q)) := by omega
        have hwr : IntKind.i64.wrap (lvl (opAh (rs s q)) + 1) = lvl (opAh (rs s q)) + 1 := by unfold IntKind.wrap; simp [IntKind.bits, IntKind.signed]; omega
        rw [bs_size] at HP
        have hobz : ((bs (opAh (rs s q))).size : Int) = ((opAh (rs s q)).length : Int) := by rw [bs_size]
        generalize skB ((rs s q).drop (opAh (rs s q)).length) = l2 at *
        have hl2 : 2 * l2.length + 2 < n := by omega
        have hm2 : l2.length < m := by omega
        cases hY : rdX rdZ n (some (lvl (opAh (rs s q)) + 1)) l2 with
        | error y =>
          obtain ⟨c, r2⟩ := y
          rw [hY] at hXr
          simp only at hXr
          subst hXr
          have HEB := hideK (fun q3 (w3 : World) (hT3 : Tabs w3) (hq3 : RS w3 rb s q3) (e3 : rs s q3 = l2) => expression_bad hE (by omega) (by omega) hY hl2 q3 w3 hT3 hq3 e3)
          clear hY hpp ho1 hlv
          generalize lvl (opAh (rs s q)) = lv at *
          generalize (opAh (rs s q)).length = ol at *
          generalize bs (opAh (rs s q)) = opb at *
          generalize bs (rs s q) = rest at *
          go_wp2_with fail
          refine cR.mono ?_
          rintro e w2 ⟨rfl, hb2⟩
          go_wp2_with fail
          refine (HOA.out _).mono ?_
          rintro e w3 ⟨rfl, hb3⟩
          have L3 := hideK ((LL.out.keep (FR.of hb2) hrl).keep (FR.of hb3) hrl)
          have R3 := hideK ((RR.out.keep hb2).keep hb3)
          have T3 := hideK (hF _ _ (hF _ _ TT.out (FR.of (pb := rb) hb2)) (FR.of (pb := rb) hb3))
          go_wp2_with fail
          refine (HLV.out _).mono ?_
          rintro e w4 ⟨rfl, hw4⟩
          subst hw4
          go_wp2_with fail
          refine (HP.out _ R3.out).mono ?_
          rintro e w5 ⟨rfl, ⟨q5, hq5, hl5⟩, hf5⟩
          have L5 := hideK ((L3.out.keep hf5 hrl).keep (FR.of (pb := rb) (Below.refl w5.heap.size w5).drew) hrl)
          have R5 := hideK (hq5.keep (Below.refl w5.heap.size w5).drew)
          have T5 := hideK (hF _ _ (hF _ _ T3.out hf5) (FR.of (pb := rb) (Below.refl w5.heap.size w5).drew))
          obtain ⟨x0, x1, x2, x3, x4, x5⟩ := L5.out.at_
          simp only [Nat.zero_add] at x0 x1 x2 x3 x4 x5
          clear L3 R3 T3 LL RR TT cR HOA hq5 hf5
          go_wp2_with fail
          refine wp_region_any (by kernel_rfl) ?_
          change wpAny _ _ _ _ _ _ _ (World.drew _)
          refine wpAny_take (i := 0) (v := .string opb) rfl (by kernel_rfl) (by kernel_rfl) (by kernel_rfl) (fun _ _ _ h => h) (Or.inl ⟨by rfl, fun w => by go_simp⟩) ?_
          refine wpAny_take (i := 2) (v := .pointer (some ⟨rb, 0, none⟩)) rfl (by kernel_rfl) (by kernel_rfl) (by kernel_rfl) (fun _ _ _ h => h) (Or.inl ⟨by rfl, fun w => by go_simp⟩) ?_
          refine wpAny_take (i := 3) (v := .string opb) rfl (by kernel_rfl) (by kernel_rfl) (by kernel_rfl) (fun _ _ _ h => h) (Or.inl ⟨by rfl, fun w => by go_simp⟩) ?_
          refine wpAny_ready (rs := [1, 4]) (by kernel_rfl) (by simp) ?_
          refine (AllReady.cons rfl (fun K hK => ?_) (AllReady.cons rfl (fun K hK => ?_) AllReady.nil))
          · go_simp
            refine hK _ _ ?_
            clear hK K
            refine take_oneE 4 (AllReady.cons rfl (fun K hK => ?_) AllReady.nil) (by kernel_rfl)
            go_simp
            refine (HLV.out _).mono ?_
            rintro e w6 ⟨rfl, hw6⟩
            subst hw6
            refine hK _ _ ?_
            clear hK K
            refine take_oneE 5 (AllReady.cons rfl (fun K hK => ?_) AllReady.nil) (by kernel_rfl)
            go_simp
            refine hK _ _ ?_
            clear hK K
            refine take_oneE 6 (AllReady.cons rfl (fun K hK => ?_) AllReady.nil) (by kernel_rfl)
            go_simp
            refine (HEB.out q5 _ T5.out R5.out hl5).mono ?_
            rintro e w7 ⟨rfl, hf7⟩
            exact ⟨rfl, EPost.no, L5.out.fr.trans hf7⟩
          · go_simp
            refine (HLV.out _).mono ?_
            rintro e w6 ⟨rfl, hw6⟩
            subst hw6
            refine hK _ _ ?_
            clear hK K
            refine wpAny_ready (rs := [1, 5]) (by kernel_rfl) (by simp) ?_
            refine (AllReady.cons rfl (fun K hK => ?_) (AllReady.cons rfl (fun K hK => ?_) AllReady.nil))
            · go_simp
              refine hK _ _ ?_
              clear hK K
              refine take_oneE 5 (AllReady.cons rfl (fun K hK => ?_) AllReady.nil) (by kernel_rfl)
              go_simp
              refine hK _ _ ?_
              clear hK K
              refine take_oneE 6 (AllReady.cons rfl (fun K hK => ?_) AllReady.nil) (by kernel_rfl)
              go_simp
              refine (HEB.out q5 _ T5.out R5.out hl5).mono ?_
              rintro e w7 ⟨rfl, hf7⟩
              exact ⟨rfl, EPost.no, L5.out.fr.trans hf7⟩
            · go_simp
              refine hK _ _ ?_
              clear hK K
              refine wpAny_ready (rs := [1, 6]) (by kernel_rfl) (by simp) ?_
              refine (AllReady.cons rfl (fun K hK => ?_) (AllReady.cons rfl (fun K hK => ?_) AllReady.nil))
              · go_simp
                refine hK _ _ ?_
                clear hK K
                refine take_oneE 6 (AllReady.cons rfl (fun K hK => ?_) AllReady.nil) (by kernel_rfl)
                go_simp
                refine (HEB.out q5 _ T5.out R5.out hl5).mono ?_
                rintro e w7 ⟨rfl, hf7⟩
                exact ⟨rfl, EPost.no, L5.out.fr.trans hf7⟩
              · go_simp
                refine (HEB.out q5 _ T5.out R5.out hl5).mono ?_
                rintro e w7 ⟨rfl, hf7⟩
                exact ⟨rfl, EPost.no, L5.out.fr.trans hf7⟩
        | ok y =>
          obtain ⟨y, r2⟩ := y
          rw [hY] at hXr
          simp only at hXr
          have hr2 : r2.length ≤ l2.length := rdX_le _ _ _ _ _ hY
          have HEB := hideK (fun q3 (w3 : World) (hT3 : Tabs w3) (hq3 : RS w3 rb s q3) (e3 : rs s q3 = l2) => expression_ok hE (by omega) (by omega) hY hl2 q3 w3 hT3 hq3 e3)
          clear hY hpp ho1 hlv
          generalize lvl (opAh (rs s q)) = lv at *
          generalize (opAh (rs s q)).length = ol at *
          have HXR := hideK hXr
          clear hXr
          generalize bs (opAh (rs s q)) = opb at *
          generalize bs (rs s q) = rest at *
          go_wp2_with fail
          refine cR.mono ?_
          rintro e w2 ⟨rfl, hb2⟩
          go_wp2_with fail
          refine (HOA.out _).mono ?_
          rintro e w3 ⟨rfl, hb3⟩
          have L3 := hideK ((LL.out.keep (FR.of hb2) hrl).keep (FR.of hb3) hrl)
          have R3 := hideK ((RR.out.keep hb2).keep hb3)
          have T3 := hideK (hF _ _ (hF _ _ TT.out (FR.of (pb := rb) hb2)) (FR.of (pb := rb) hb3))
          go_wp2_with fail
          refine (HLV.out _).mono ?_
          rintro e w4 ⟨rfl, hw4⟩
          subst hw4
          go_wp2_with fail
          refine (HP.out _ R3.out).mono ?_
          rintro e w5 ⟨rfl, ⟨q5, hq5, hl5⟩, hf5⟩
          have L5 := hideK ((L3.out.keep hf5 hrl).keep (FR.of (pb := rb) (Below.refl w5.heap.size w5).drew) hrl)
          have R5 := hideK (hq5.keep (Below.refl w5.heap.size w5).drew)
          have T5 := hideK (hF _ _ (hF _ _ T3.out hf5) (FR.of (pb := rb) (Below.refl w5.heap.size w5).drew))
          obtain ⟨x0, x1, x2, x3, x4, x5⟩ := L5.out.at_
          simp only [Nat.zero_add] at x0 x1 x2 x3 x4 x5
          clear L3 R3 T3 LL RR TT cR HOA hq5 hf5
          go_wp2_with fail
          refine wp_region_any (by kernel_rfl) ?_
          change wpAny _ _ _ _ _ _ _ (World.drew _)
          refine wpAny_take (i := 0) (v := .string opb) rfl (by kernel_rfl) (by kernel_rfl) (by kernel_rfl) (fun _ _ _ h => h) (Or.inl ⟨by rfl, fun w => by go_simp⟩) ?_
          refine wpAny_take (i := 2) (v := .pointer (some ⟨rb, 0, none⟩)) rfl (by kernel_rfl) (by kernel_rfl) (by kernel_rfl) (fun _ _ _ h => h) (Or.inl ⟨by rfl, fun w => by go_simp⟩) ?_
          refine wpAny_take (i := 3) (v := .string opb) rfl (by kernel_rfl) (by kernel_rfl) (by kernel_rfl) (fun _ _ _ h => h) (Or.inl ⟨by rfl, fun w => by go_simp⟩) ?_
          refine wpAny_ready (rs := [1, 4]) (by kernel_rfl) (by simp) ?_
          refine (AllReady.cons rfl (fun K hK => ?_) (AllReady.cons rfl (fun K hK => ?_) AllReady.nil))
          · go_simp
            refine hK _ _ ?_
            clear hK K
            refine take_oneE 4 (AllReady.cons rfl (fun K hK => ?_) AllReady.nil) (by kernel_rfl)
            go_simp
            refine (HLV.out _).mono ?_
            rintro e w6 ⟨rfl, hw6⟩
            subst hw6
            refine hK _ _ ?_
            clear hK K
            refine take_oneE 5 (AllReady.cons rfl (fun K hK => ?_) AllReady.nil) (by kernel_rfl)
            go_simp
            refine hK _ _ ?_
            clear hK K
            refine take_oneE 6 (AllReady.cons rfl (fun K hK => ?_) AllReady.nil) (by kernel_rfl)
            go_simp
            refine (HEB.out q5 _ T5.out R5.out hl5).mono ?_
            rintro e w7 ⟨⟨d2, ao2, cap2, rfl, hg7⟩, ⟨q7, hq7, hl7⟩, hf7⟩
            have L7 := hideK (L5.out.keep hf7 hrl)
            have HG7 := hideK hg7
            obtain ⟨y0, y1, y2, y3, y4, y5⟩ := L7.out.at_
            simp only [Nat.zero_add] at y0 y1 y2 y3 y4 y5
            clear hg7
            refine hK _ _ ?_
            clear hK K
            refine take_oneE 7 (AllReady.cons rfl (fun K hK => ?_) AllReady.nil) (by kernel_rfl)
            go_simp
            refine hK _ _ ?_
            clear hK K
            refine take_oneE 8 (AllReady.cons rfl (fun K hK => ?_) AllReady.nil) (by kernel_rfl)
            go_simp
            refine (operation_any opb (some ⟨w7.heap.size, 0, none⟩) 2 2 _).mono ?_
            rintro e w8 ⟨rfl, hb8⟩
            have L9 := hideK (LX.step L5.out hrl hf7 HG7.out hb8 opb hos)
            have L8 := (L7.out.keep (FR.al (pb := rb) (.cells #[.int .i64 x.kind, .string x.name, .int .i64 x.so, .int .i64 x.n, .string x.s, .slice ao x.kids.length cap, .int .i64 y.kind, .string y.name, .int .i64 y.so, .int .i64 y.n, .string y.s, .slice ao2 y.kids.length cap2] 39)) hrl).keep (FR.of hb8) hrl
            have R9 := hideK (((hq7.al (.cells #[.int .i64 x.kind, .string x.name, .int .i64 x.so, .int .i64 x.n, .string x.s, .slice ao x.kids.length cap, .int .i64 y.kind, .string y.name, .int .i64 y.so, .int .i64 y.n, .string y.s, .slice ao2 y.kids.length cap2] 39)).keep hb8).st6 (b := w1.heap.size) (by have := L5.out.gt; omega) (.int .i64 3) (.string opb) (.int .i64 0) (.int .i64 0) (.string ⟨#[]⟩) (.slice (some ⟨w7.heap.size, 0, none⟩) 2 2))
            obtain ⟨u0, u1, u2, u3, u4, u5⟩ := L8.at_
            simp only [Nat.zero_add] at u0 u1 u2 u3 u4 u5
            have g0 := L8.fz 0
            have g1 := L8.fz 1
            have g2 := L8.fz 2
            have g3 := L8.fz 3
            have g4 := L8.fz 4
            have g5 := L8.fz 5
            clear L8
            refine hK _ _ ?_
            clear hK K
            refine take_oneE 9 (AllReady.cons rfl (fun K hK => ?_) AllReady.nil) (by kernel_rfl)
            go_simp
            refine hK _ _ ?_
            clear hK K
            refine wpAny_done (by kernel_rfl) ?_ _
            go_wp2_with fail
            go_roundg m
            case measure => omega
            case rel => exact ⟨_, _, _, _, q7, L9.out, R9.out, by rw [hl7]; omega, by omega, by rw [hl7]; omega, by rw [hl7]; exact HXR.out⟩
          · go_simp
            refine (HLV.out _).mono ?_
            rintro e w6 ⟨rfl, hw6⟩
            subst hw6
            refine hK _ _ ?_
            clear hK K
            refine wpAny_ready (rs := [1, 5]) (by kernel_rfl) (by simp) ?_
            refine (AllReady.cons rfl (fun K hK => ?_) (AllReady.cons rfl (fun K hK => ?_) AllReady.nil))
            · go_simp
              refine hK _ _ ?_
              clear hK K
              refine take_oneE 5 (AllReady.cons rfl (fun K hK => ?_) AllReady.nil) (by kernel_rfl)
              go_simp
              refine hK _ _ ?_
              clear hK K
              refine take_oneE 6 (AllReady.cons rfl (fun K hK => ?_) AllReady.nil) (by kernel_rfl)
              go_simp
              refine (HEB.out q5 _ T5.out R5.out hl5).mono ?_
              rintro e w7 ⟨⟨d2, ao2, cap2, rfl, hg7⟩, ⟨q7, hq7, hl7⟩, hf7⟩
              have L7 := hideK (L5.out.keep hf7 hrl)
              have HG7 := hideK hg7
              obtain ⟨y0, y1, y2, y3, y4, y5⟩ := L7.out.at_
              simp only [Nat.zero_add] at y0 y1 y2 y3 y4 y5
              clear hg7
              refine hK _ _ ?_
              clear hK K
              refine take_oneE 7 (AllReady.cons rfl (fun K hK => ?_) AllReady.nil) (by kernel_rfl)
              go_simp
              refine hK _ _ ?_
              clear hK K
              refine take_oneE 8 (AllReady.cons rfl (fun K hK => ?_) AllReady.nil) (by kernel_rfl)
              go_simp
              refine (operation_any opb (some ⟨w7.heap.size, 0, none⟩) 2 2 _).mono ?_
              rintro e w8 ⟨rfl, hb8⟩
              have L9 := hideK (LX.step L5.out hrl hf7 HG7.out hb8 opb hos)
              have L8 := (L7.out.keep (FR.al (pb := rb) (.cells #[.int .i64 x.kind, .string x.name, .int .i64 x.so, .int .i64 x.n, .string x.s, .slice ao x.kids.length cap, .int .i64 y.kind, .string y.name, .int .i64 y.so, .int .i64 y.n, .string y.s, .slice ao2 y.kids.length cap2] 39)) hrl).keep (FR.of hb8) hrl
              have R9 := hideK (((hq7.al (.cells #[.int .i64 x.kind, .string x.name, .int .i64 x.so, .int .i64 x.n, .string x.s, .slice ao x.kids.length cap, .int .i64 y.kind, .string y.name, .int .i64 y.so, .int .i64 y.n, .string y.s, .slice ao2 y.kids.length cap2] 39)).keep hb8).st6 (b := w1.heap.size) (by have := L5.out.gt; omega) (.int .i64 3) (.string opb) (.int .i64 0) (.int .i64 0) (.string ⟨#[]⟩) (.slice (some ⟨w7.heap.size, 0, none⟩) 2 2))
              obtain ⟨u0, u1, u2, u3, u4, u5⟩ := L8.at_
              simp only [Nat.zero_add] at u0 u1 u2 u3 u4 u5
              have g0 := L8.fz 0
              have g1 := L8.fz 1
              have g2 := L8.fz 2
              have g3 := L8.fz 3
              have g4 := L8.fz 4
              have g5 := L8.fz 5
              clear L8
              refine hK _ _ ?_
              clear hK K
              refine take_oneE 9 (AllReady.cons rfl (fun K hK => ?_) AllReady.nil) (by kernel_rfl)
              go_simp
              refine hK _ _ ?_
              clear hK K
              refine wpAny_done (by kernel_rfl) ?_ _
              go_wp2_with fail
              go_roundg m
              case measure => omega
              case rel => exact ⟨_, _, _, _, q7, L9.out, R9.out, by rw [hl7]; omega, by omega, by rw [hl7]; omega, by rw [hl7]; exact HXR.out⟩
            · go_simp
              refine hK _ _ ?_
              clear hK K
              refine wpAny_ready (rs := [1, 6]) (by kernel_rfl) (by simp) ?_
              refine (AllReady.cons rfl (fun K hK => ?_) (AllReady.cons rfl (fun K hK => ?_) AllReady.nil))
              · go_simp
                refine hK _ _ ?_
                clear hK K
                refine take_oneE 6 (AllReady.cons rfl (fun K hK => ?_) AllReady.nil) (by kernel_rfl)
                go_simp
                refine (HEB.out q5 _ T5.out R5.out hl5).mono ?_
                rintro e w7 ⟨⟨d2, ao2, cap2, rfl, hg7⟩, ⟨q7, hq7, hl7⟩, hf7⟩
                have L7 := hideK (L5.out.keep hf7 hrl)
                have HG7 := hideK hg7
                obtain ⟨y0, y1, y2, y3, y4, y5⟩ := L7.out.at_
                simp only [Nat.zero_add] at y0 y1 y2 y3 y4 y5
                clear hg7
                refine hK _ _ ?_
                clear hK K
                refine take_oneE 7 (AllReady.cons rfl (fun K hK => ?_) AllReady.nil) (by kernel_rfl)
                go_simp
                refine hK _ _ ?_
                clear hK K
                refine take_oneE 8 (AllReady.cons rfl (fun K hK => ?_) AllReady.nil) (by kernel_rfl)
                go_simp
                refine (operation_any opb (some ⟨w7.heap.size, 0, none⟩) 2 2 _).mono ?_
                rintro e w8 ⟨rfl, hb8⟩
                have L9 := hideK (LX.step L5.out hrl hf7 HG7.out hb8 opb hos)
                have L8 := (L7.out.keep (FR.al (pb := rb) (.cells #[.int .i64 x.kind, .string x.name, .int .i64 x.so, .int .i64 x.n, .string x.s, .slice ao x.kids.length cap, .int .i64 y.kind, .string y.name, .int .i64 y.so, .int .i64 y.n, .string y.s, .slice ao2 y.kids.length cap2] 39)) hrl).keep (FR.of hb8) hrl
                have R9 := hideK (((hq7.al (.cells #[.int .i64 x.kind, .string x.name, .int .i64 x.so, .int .i64 x.n, .string x.s, .slice ao x.kids.length cap, .int .i64 y.kind, .string y.name, .int .i64 y.so, .int .i64 y.n, .string y.s, .slice ao2 y.kids.length cap2] 39)).keep hb8).st6 (b := w1.heap.size) (by have := L5.out.gt; omega) (.int .i64 3) (.string opb) (.int .i64 0) (.int .i64 0) (.string ⟨#[]⟩) (.slice (some ⟨w7.heap.size, 0, none⟩) 2 2))
                obtain ⟨u0, u1, u2, u3, u4, u5⟩ := L8.at_
                simp only [Nat.zero_add] at u0 u1 u2 u3 u4 u5
                have g0 := L8.fz 0
                have g1 := L8.fz 1
                have g2 := L8.fz 2
                have g3 := L8.fz 3
                have g4 := L8.fz 4
                have g5 := L8.fz 5
                clear L8
                refine hK _ _ ?_
                clear hK K
                refine take_oneE 9 (AllReady.cons rfl (fun K hK => ?_) AllReady.nil) (by kernel_rfl)
                go_simp
                refine hK _ _ ?_
                clear hK K
                refine wpAny_done (by kernel_rfl) ?_ _
                go_wp2_with fail
                go_roundg m
                case measure => omega
                case rel => exact ⟨_, _, _, _, q7, L9.out, R9.out, by rw [hl7]; omega, by omega, by rw [hl7]; omega, by rw [hl7]; exact HXR.out⟩
              · go_simp
                refine (HEB.out q5 _ T5.out R5.out hl5).mono ?_
                rintro e w7 ⟨⟨d2, ao2, cap2, rfl, hg7⟩, ⟨q7, hq7, hl7⟩, hf7⟩
                have L7 := hideK (L5.out.keep hf7 hrl)
                have HG7 := hideK hg7
                obtain ⟨y0, y1, y2, y3, y4, y5⟩ := L7.out.at_
                simp only [Nat.zero_add] at y0 y1 y2 y3 y4 y5
                clear hg7
                refine hK _ _ ?_
                clear hK K
                refine take_oneE 1 (AllReady.cons rfl (fun K hK => ?_) AllReady.nil) (by kernel_rfl)
                go_simp
                refine hK _ _ ?_
                clear hK K
                refine take_oneE 7 (AllReady.cons rfl (fun K hK => ?_) AllReady.nil) (by kernel_rfl)
                go_simp
                refine hK _ _ ?_
                clear hK K
                refine take_oneE 8 (AllReady.cons rfl (fun K hK => ?_) AllReady.nil) (by kernel_rfl)
                go_simp
                refine (operation_any opb (some ⟨w7.heap.size, 0, none⟩) 2 2 _).mono ?_
                rintro e w8 ⟨rfl, hb8⟩
                have L9 := hideK (LX.step L5.out hrl hf7 HG7.out hb8 opb hos)
                have L8 := (L7.out.keep (FR.al (pb := rb) (.cells #[.int .i64 x.kind, .string x.name, .int .i64 x.so, .int .i64 x.n, .string x.s, .slice ao x.kids.length cap, .int .i64 y.kind, .string y.name, .int .i64 y.so, .int .i64 y.n, .string y.s, .slice ao2 y.kids.length cap2] 39)) hrl).keep (FR.of hb8) hrl
                have R9 := hideK (((hq7.al (.cells #[.int .i64 x.kind, .string x.name, .int .i64 x.so, .int .i64 x.n, .string x.s, .slice ao x.kids.length cap, .int .i64 y.kind, .string y.name, .int .i64 y.so, .int .i64 y.n, .string y.s, .slice ao2 y.kids.length cap2] 39)).keep hb8).st6 (b := w1.heap.size) (by have := L5.out.gt; omega) (.int .i64 3) (.string opb) (.int .i64 0) (.int .i64 0) (.string ⟨#[]⟩) (.slice (some ⟨w7.heap.size, 0, none⟩) 2 2))
                obtain ⟨u0, u1, u2, u3, u4, u5⟩ := L8.at_
                simp only [Nat.zero_add] at u0 u1 u2 u3 u4 u5
                have g0 := L8.fz 0
                have g1 := L8.fz 1
                have g2 := L8.fz 2
                have g3 := L8.fz 3
                have g4 := L8.fz 4
                have g5 := L8.fz 5
                clear L8
                refine hK _ _ ?_
                clear hK K
                refine take_oneE 9 (AllReady.cons rfl (fun K hK => ?_) AllReady.nil) (by kernel_rfl)
                go_simp
                refine hK _ _ ?_
                clear hK K
                refine wpAny_done (by kernel_rfl) ?_ _
                go_wp2_with fail
                go_roundg m
                case measure => omega
                case rel => exact ⟨_, _, _, _, q7, L9.out, R9.out, by rw [hl7]; omega, by omega, by rw [hl7]; omega, by rw [hl7]; exact HXR.out⟩
/-- both, of every text -/
theorem reads_all {Tabs : World → Prop} {s : ByteArray} {rb : Nat} (hF : ∀ w w', Tabs w → FR rb w w' → Tabs w') (hV : RVSaid Tabs) : ∀ n, EOSaid Tabs s rb n ∧ EESaid Tabs s rb n
  | 0 => ⟨fun _ _ _ _ h => absurd h (Nat.not_lt_zero _), fun _ _ _ _ _ _ _ h => absurd h (Nat.not_lt_zero _)⟩
  | n + 1 =>
    have ih := reads_all hF hV n
    ⟨fun p w hT hr hn => operand_any hF hV ih.1 ih.2 p w hT hr hn, fun k p w k1 k6 hT hr hn => expression_any hF ih.1 ih.2 k p w k1 k6 hT hr hn⟩
end Go.Proofs.YtipolobikigmbaaGreatDoor
