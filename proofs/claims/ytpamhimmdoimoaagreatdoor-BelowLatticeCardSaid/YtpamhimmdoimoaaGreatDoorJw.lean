/-
  The contract of duetref.Type: it finds nothing just if Check finds nothing.
-/
import Derived.Test.YtpamhimmdoimoaaGreatDoorSz
import Derived.Test.YtpamhimmdoimoaaGreatDoorZl
import Derived.Deep.RegionHeld3
namespace Go.Proofs.YtpamhimmdoimoaaGreatDoor
open Go.RowKit Go.Shelf
theorem kt_at {w : World} {B d : Nat} {ks : List Ty} {ak : OAd} (h : KT w B d ks ak) {j : Nat} (hj : j < ks.length) : ∃ b o, ak = some ⟨b, o, none⟩ ∧ b < B ∧ ∃ al cl ak' ck', TyAt w b (o + j * 5) ks[j] al cl ak' ck' ∧ TyBd ks[j] cl ck' ∧ LA w B ks[j].labels al ∧ ∃ d', KT w B d' ks[j].kids ak' := by
 cases d with
 | zero => simp only [KT] at h; subst h; simp at hj
 | succ d =>
  rcases h with h | ⟨b, o, e, hb, hc⟩
  ·subst h; simp at hj
  ·obtain ⟨al, cl, ak', ck', h1, h2, h3, h4⟩ := hc j hj
   exact ⟨b, o, e, hb, al, cl, ak', ck', h1, h2, h3, d, h4⟩
theorem own_weak {W : World} {b0 b1 : Nat} {e : TypeId} {size : Nat} {v : Value} {n : Nat} {xs : List Value} (h : W.ownsRow b1 e size v n xs) (hle : b0 ≤ b1) : W.ownsRow b0 e size v n xs :=
 ⟨h.1, h.2.imp id fun ⟨g, c, cur, e, hb, r⟩ => ⟨g, c, cur, e, Nat.le_trans hle hb, r⟩⟩
theorem take_oneJ {P : Program} {ops : Array Oper} {md : Region.Mode} {Q : Exit → Act → World → Prop} {S : World → Prop} {fuel : Nat} {listed : Array Bool} {a : Act} {w : World} (i : Nat) (h : AllReadyH P md ops Q S fuel listed a w [i]) (hr : Region.ready md ops listed = [i]) : wpAnyH P md ops Q S (fuel + 1) listed a w := wpAnyH_ready hr (by simp) h
theorem own_grown0 {W W' : World} {base : Nat} {e : TypeId} {size : Nat} {v : Value} {n : Nat} {xs : List Value} {row : Option Nat} (h : W.ownsRow base e size v n xs) (hg : W.grownBy W' row) (hn : ∀ {k}, row ≠ some k) : W'.ownsRow base e size v n xs := by
 have hr : row = none := by
  cases row with
  | none => rfl
  | some k => exact absurd rfl (hn (k := k))
 subst hr;refine ⟨h.1, h.2.imp id fun ⟨g, c, cur, e1, hb, hc, r⟩ => ⟨g, c, cur, e1, hb, ?_, r⟩⟩
 rw [hg.block g (Array.getElem?_eq_some_iff.1 hc).1 (fun q => by cases q)]; exact hc
theorem part_six (t : Ty) (h : partT t = true) : t.kids.length ≤ 6 := by
 obtain ⟨kd, so, nm, ls, ks⟩ := t;unfold partT at h;simp only at h ⊢;have hL : labsOK ls = true → ls.length ≤ 6 := fun q => by
  unfold labsOK at q;rw [Bool.and_eq_true] at q;exact (of_decide_eq_true q.1).2
 split at h
 ·simp only [Bool.and_eq_true, decide_eq_true_eq] at h; have := h.2; omega
 split at h
 ·simp only [Bool.and_eq_true, decide_eq_true_eq] at h; have := h.2; omega
 split at h
 ·simp only [Bool.and_eq_true, decide_eq_true_eq] at h; have := h.2; omega
 split at h
 ·simp only [Bool.and_eq_true, decide_eq_true_eq] at h; have := hL h.1.2; omega
 split at h
 ·simp only [Bool.and_eq_true, decide_eq_true_eq] at h; have := h.2; omega
 split at h
 ·simp only [Bool.and_eq_true, decide_eq_true_eq] at h; have := h.2; omega
 ·cases h
theorem containsLR_any (ns : List ByteArray) (x : ByteArray) (aa : OAd) (ca : Nat) (w : World) (h : LA w w.heap.size ns aa) (hl : ns.length ≤ 60) :
  Calls Tryz.prog 27 #[.slice aa ns.length ca, .string x] w fun e w' => e = .returned (.bool (hasN ns x)) ∧ w' = w := by
 rcases h with h | ⟨b, o, rfl, _, hc⟩
 ·have : ns = [] := by simpa using h
  subst this;refine (Any.slices_Contains_string_empty Tryz.lays110 aa ca x w).mono fun e w' ⟨h1, h2⟩ => ⟨?_, h2⟩
  rw [h1]; rfl
 ·refine (Any.slices_Contains_string Tryz.lays110 b o ns.length ca ns x w (by simp) (by omega) ?_).mono fun e w' ⟨h1, h2⟩ => ⟨?_, h2⟩
  ·intro j hj
   rw [hc j (by simpa using hj)]
   simp [List.getD_eq_getElem?_getD, hj]
  ·rw [h1]
   congr 2
   rw [List.take_of_length_le (by simp)]
   rw [Bool.eq_iff_iff, Lib.containsS_iff, hasN_iff]
theorem nl_app {ts2 r : List WTk} {ks : List Ty} {N : List ByteArray} {k : Nat} (hm : ts2.map wkOf = ks.map fun q => (q, N)) (hr : ∀ q ∈ r, q.2.2.2.1.length ≤ k) (hN : N.length ≤ k + 1) : ∀ q ∈ ts2 ++ r, q.2.2.2.1.length ≤ k + 1 := by
 intro q hq;rcases List.mem_append.1 hq with h | h
 ·have h1 : wkOf q ∈ ks.map fun q => (q, N) := by rw [← hm]; exact List.mem_map.2 ⟨q, h, rfl⟩
  obtain ⟨z, _, e⟩ := List.mem_map.1 h1;have e2 : N = q.2.2.2.1 := congrArg Prod.snd e;rw [← e2]; exact hN
 ·exact Nat.le_succ_of_le (hr q h)
theorem la_ownS {W : World} {B n : Nat} {u : Value} {ss : List ByteArray} (hn : ss.length = n) (ho : W.ownsRow B 9 1 u n (ss.map Value.string)) : ∃ a c, u = .slice a n c ∧ LA W W.heap.size ss a := by
 rcases own_cells ho with ⟨rfl, h0, _⟩ | ⟨g, cap, rfl, _, hg, hc⟩
 ·refine ⟨none, 0, by rw [h0], .inl ?_⟩
  rw [h0] at hn;rw [List.length_eq_zero_iff.1 hn]; rfl
 ·refine ⟨_, _, rfl, .inr ⟨g, 0, rfl, hg, fun i hi => ?_⟩⟩
  rw [Nat.zero_add];exact hc i _ (List.getElem?_eq_getElem hi)
def RTPost (t : Ty) (w : World) (e : Ending) (w' : World) : Prop := (∃ z : Int, e = .returned (.int .i64 z) ∧ (z = 0 ↔ chkTy t = 0)) ∧ Below w.heap.size w w'
set_option maxRecDepth 100000 in
set_option maxHeartbeats 8000000 in
theorem refType_any (d : Nat) (t : Ty) (al : OAd) (cl : Nat) (ak : OAd) (ck : Nat) (w : World) (hbd : TyBw t) (hla : LA w w.heap.size t.labels al) (hkt : KT w w.heap.size d t.kids ak) :
  Calls Tryz.prog 13 #[tyVal t al cl ak ck] w (RTPost t w) := by
 obtain ⟨i1, hj, hy0, hy1, hy2⟩ := info_parts infoTodo;obtain ⟨iS, sj, sy0, sy1, sy2⟩ := info_parts infoSt;unfold RTPost;have HA := hideK (show Below w.heap.size w (w.alloc (.cells #[.int .i64 t.kind, .int .i64 t.so, .string t.name, .slice al t.labels.length cl, .slice ak t.kids.length ck] 25)) from (Below.refl _ _).alloc (Nat.le_refl _) _)
 have H0 := hideK (show TOW w (w.alloc (.cells #[.int .i64 t.kind, .int .i64 t.so, .string t.name, .slice al t.labels.length cl, .slice ak t.kids.length ck] 25)) [(t, (al, cl), (ak, ck), [], (none, 0))] from fun q hq => by
  obtain rfl := List.mem_singleton.1 hq;exact ⟨hbd, hla, ⟨d, hkt⟩, .inl rfl, by simp⟩)
 have LR := hideK (World.ownsRow_lit (base := w.heap.size) (e := 54) (size := 6) (w.alloc (.cells #[.int .i64 t.kind, .int .i64 t.so, .string t.name, .slice al t.labels.length cl, .slice ak t.kids.length ck] 25)) #[.int .i64 t.kind, .int .i64 t.so, .string t.name, .slice al t.labels.length cl, .slice ak t.kids.length ck, .slice none 0 0] 1 HA.out.size (by decide) rfl)
 simp only [tyVal];clear hbd hla hkt;go_enter Tryz.func13, Tryz.ntmps13
 go_wp2_with fail
 go_loopw [3, 4] (fun l i wr => ∃ (k : Nat) (ts : List WTk), k ≤ 60 ∧ i = .int .i64 (k : Int) ∧ wr.ownsRow w.heap.size 54 6 l ts.length (wCs ts) ∧ TOW w wr ts ∧ ((chkW (ts.map wkOf) (0, k)).1 = 0 ↔ chkTy t = 0) ∧ ts.length ≤ 6 * k + 1 ∧ (∀ q ∈ ts, q.2.2.2.1.length ≤ k) ∧ Below w.heap.size w wr) (fun _ i _ => 61 - (intOf i).toNat)
 case atStart => exact ⟨0, [(t, (al, cl), (ak, ck), [], (none, 0))], Nat.zero_le _, rfl, by have h := LR.out; rw [show (w.alloc (.cells #[.int .i64 t.kind, .int .i64 t.so, .string t.name, .slice al t.labels.length cl, .slice ak t.kids.length ck] 25)).heap.size = w.heap.size + 1 from by simp] at h; exact h, H0.out.keep ((Below.refl _ _).alloc (Nat.le_refl _) _), Iff.rfl, by simp, by intro q hq; rw [List.mem_singleton.1 hq]; exact Nat.le_refl _, HA.out.alloc HA.out.size _⟩
 case round =>
  obtain ⟨k, ts, hk, rfl, hO, hT, hC, hln, hnl, hb⟩ := hrel;clear HA H0 LR;cases ts with
  | nil =>
   have HC := hideK (hC.1 rfl);have HB := hideK hb;obtain ⟨va, vc, rfl⟩ : ∃ va vc, u3 = .slice va 0 vc := by
    rcases own_cells hO with ⟨rfl, _⟩ | ⟨g, c, rfl, _⟩
    ·exact ⟨_, _, rfl⟩
    ·exact ⟨_, _, rfl⟩
   clear hO hT hC hb hnl;go_wp2_with fail
   go_ret
   exact ⟨⟨0, rfl, by simp [HC.out]⟩, HB.out⟩
  | cons x r =>
   obtain ⟨g, c, rfl, hg1, hg, hc, hcr⟩ := own_first hO;have hrl : r.length ≤ 6 * k := by simp only [List.length_cons] at hln; omega
   have hcap : r.length + 1 ≤ c := by
    rcases hO.2 with h | ⟨g', c', cur, e, _, _, hnc, _⟩
    ·cases h.1
    ·injection e with _ _ e3
     subst e3; exact hnc
   have y0 := hc 0 _ rfl;have y1 := hc 1 _ rfl;have y2 := hc 2 _ rfl;have y3 := hc 3 _ rfl;have y4 := hc 4 _ rfl;have y5 := hc 5 _ rfl;have hX := hT x (.head _);have HTR := hideK (show TOW w wr r from fun q hq => hT q (.tail _ hq))
   have HCR := hideK hcr;have HNLR := hideK (show ∀ q ∈ r, q.2.2.2.1.length ≤ k from fun q hq => hnl q (.tail _ hq))
   have hnx := hnl x (.head _);have HC := hideK hC;have HB := hideK hb;have hlz : (1 : Int) ≤ (r.length : Int) + 1 := by omega
   have hlz2 : (0 : Int) < (r.length : Int) + 1 := by omega
   have hA : Below wr.heap.size wr (wr.alloc (.cells #[.int .i64 x.1.kind, .int .i64 x.1.so, .string x.1.name, .slice x.2.1.1 x.1.labels.length x.2.1.2, .slice x.2.2.1.1 x.1.kids.length x.2.2.1.2, .slice x.2.2.2.2.1 x.2.2.2.1.length x.2.2.2.2.2] 54)) := (Below.refl _ _).alloc (Nat.le_refl _) _;have cP := refPart_any x.1 x.2.1.1 x.2.1.2 x.2.2.1.1 x.2.2.1.2 (wr.alloc (.cells #[.int .i64 x.1.kind, .int .i64 x.1.so, .string x.1.name, .slice x.2.1.1 x.1.labels.length x.2.1.2, .slice x.2.2.1.1 x.1.kids.length x.2.2.1.2, .slice x.2.2.2.2.1 x.2.2.2.1.length x.2.2.2.2.2] 54)) hX.1 ((NAt.keep (hb.trans (hA.mono hb.size)) hX.2.1).mono (hb.trans (hA.mono hb.size)).size);simp only [tyVal] at cP;have HX := hideK hX;have HA := hideK hA;clear hO hT hC hb hc hcr hX hA hnl;by_cases h60 : k = 60
   ·subst h60
    have HN := hideK (chkW_full (wkOf x) (r.map wkOf));have HBA := hideK (HB.out.trans (HA.out.mono HB.out.size));clear cP;by_cases hc1 : c = 1
    all_goals
     go_wp2_with fail
     go_ret
     exact ⟨⟨2, rfl, by simp only [(show (2 : Int) ≠ 0 by decide), false_iff]; exact fun q => HN.out (HC.out.2 q)⟩, HBA.out⟩
   ·have hk60 : k < 60 := by omega
    have hkz : ((k : Int) == 60) = false := by rw [beq_eq_false_iff_ne]; omega
    have HCV := hideK (show ∀ j y, (wCs r)[j]? = some y → (wr.alloc (.cells #[.int .i64 x.1.kind, .int .i64 x.1.so, .string x.1.name, .slice x.2.1.1 x.1.labels.length x.2.1.2, .slice x.2.2.1.1 x.1.kids.length x.2.2.1.2, .slice x.2.2.2.2.1 x.2.2.2.1.length x.2.2.2.2.2] 54)).cell? ⟨g, 6 + j, none⟩ = some y from fun j y hj => (HA.out.cell (p := ⟨g, 6 + j, none⟩) hg).trans (HCR.out j y hj))
    have HTV := hideK (HTR.out.keep HA.out);have HNV := hideK (NAt.mono HA.out.size (NAt.keep HA.out HX.out.2.2.2.1));have z0 : (wr.alloc (.cells #[.int .i64 x.1.kind, .int .i64 x.1.so, .string x.1.name, .slice x.2.1.1 x.1.labels.length x.2.1.2, .slice x.2.2.1.1 x.1.kids.length x.2.2.1.2, .slice x.2.2.2.2.1 x.2.2.2.1.length x.2.2.2.2.2] 54)).cell? ⟨wr.heap.size, 0, none⟩ = some (.int .i64 x.1.kind) := by go_cell
    have z1 : (wr.alloc (.cells #[.int .i64 x.1.kind, .int .i64 x.1.so, .string x.1.name, .slice x.2.1.1 x.1.labels.length x.2.1.2, .slice x.2.2.1.1 x.1.kids.length x.2.2.1.2, .slice x.2.2.2.2.1 x.2.2.2.1.length x.2.2.2.2.2] 54)).cell? ⟨wr.heap.size, 1, none⟩ = some (.int .i64 x.1.so) := by go_cell
    have z2 : (wr.alloc (.cells #[.int .i64 x.1.kind, .int .i64 x.1.so, .string x.1.name, .slice x.2.1.1 x.1.labels.length x.2.1.2, .slice x.2.2.1.1 x.1.kids.length x.2.2.1.2, .slice x.2.2.2.2.1 x.2.2.2.1.length x.2.2.2.2.2] 54)).cell? ⟨wr.heap.size, 2, none⟩ = some (.string x.1.name) := by go_cell
    have z3 : (wr.alloc (.cells #[.int .i64 x.1.kind, .int .i64 x.1.so, .string x.1.name, .slice x.2.1.1 x.1.labels.length x.2.1.2, .slice x.2.2.1.1 x.1.kids.length x.2.2.1.2, .slice x.2.2.2.2.1 x.2.2.2.1.length x.2.2.2.2.2] 54)).cell? ⟨wr.heap.size, 3, none⟩ = some (.slice x.2.1.1 x.1.labels.length x.2.1.2) := by go_cell
    have z4 : (wr.alloc (.cells #[.int .i64 x.1.kind, .int .i64 x.1.so, .string x.1.name, .slice x.2.1.1 x.1.labels.length x.2.1.2, .slice x.2.2.1.1 x.1.kids.length x.2.2.1.2, .slice x.2.2.2.2.1 x.2.2.2.1.length x.2.2.2.2.2] 54)).cell? ⟨wr.heap.size, 4, none⟩ = some (.slice x.2.2.1.1 x.1.kids.length x.2.2.1.2) := by go_cell
    have z5 : (wr.alloc (.cells #[.int .i64 x.1.kind, .int .i64 x.1.so, .string x.1.name, .slice x.2.1.1 x.1.labels.length x.2.1.2, .slice x.2.2.1.1 x.1.kids.length x.2.2.1.2, .slice x.2.2.2.2.1 x.2.2.2.1.length x.2.2.2.2.2] 54)).cell? ⟨wr.heap.size, 5, none⟩ = some (.slice x.2.2.2.2.1 x.2.2.2.1.length x.2.2.2.2.2) := by go_cell
    have hvl : wr.heap.size < (wr.alloc (.cells #[.int .i64 x.1.kind, .int .i64 x.1.so, .string x.1.name, .slice x.2.1.1 x.1.labels.length x.2.1.2, .slice x.2.2.1.1 x.1.kids.length x.2.2.1.2, .slice x.2.2.2.2.1 x.2.2.2.1.length x.2.2.2.2.2] 54)).heap.size := by simp
    have HGL := hideK (show g < (wr.alloc (.cells #[.int .i64 x.1.kind, .int .i64 x.1.so, .string x.1.name, .slice x.2.1.1 x.1.labels.length x.2.1.2, .slice x.2.2.1.1 x.1.kids.length x.2.2.1.2, .slice x.2.2.2.2.1 x.2.2.2.1.length x.2.2.2.2.2] 54)).heap.size from by simp; omega)
    go_upto_region 6 with fail
    clear y0 y1 y2 y3 y4 y5 hlz2;generalize (wr.alloc (.cells #[.int .i64 x.1.kind, .int .i64 x.1.so, .string x.1.name, .slice x.2.1.1 x.1.labels.length x.2.1.2, .slice x.2.2.1.1 x.1.kids.length x.2.2.1.2, .slice x.2.2.2.2.1 x.2.2.2.1.length x.2.2.2.2.2] 54)) = V at *;go_cut [3] (fun s3 wc => (∃ sa sc, s3 = .slice (some sa) r.length sc ∧ ∀ W, Below V.heap.size V W → ∀ j y, (wCs r)[j]? = some y → W.cell? (sa.add j) = some y) ∧ wc = V)
    case first =>
     by_cases hc1 : c = 1
     ·have hr0 : r = [] := List.eq_nil_of_length_eq_zero (by omega)
      subst hc1;subst hr0;go_wp2_with fail
      go_meet
      case rel => exact ⟨⟨_, _, rfl, fun W hW j y hj => by simp [wCs] at hj⟩, rfl⟩
     ·go_wp2_with fail
      go_meet
      case rel => exact ⟨⟨⟨g, 6, none⟩, _, rfl, fun W hW j y hj => by
       have e2 : (⟨g, 6, none⟩ : Addr).add j = ⟨g, 6 + j, none⟩ := by unfold Addr.add; split <;> simp_all
       rw [e2]; exact (hW.cell (p := ⟨g, 6 + j, none⟩) HGL.out).trans (HCV.out j y hj)⟩, rfl⟩
    case rest =>
     obtain ⟨⟨sa, sc, rfl, hsrc⟩, rfl⟩ := hcut;have HSRC := hideK hsrc;clear hsrc;generalize hpt : partT x.1 = q at cP;cases q
     ·have HN := hideK (chkW_part (wkOf x) (r.map wkOf) k hk60 hpt)
      clear hpt;go_wp2_with fail
      refine cP.mono ?_;rintro e w1 ⟨rfl, hb1⟩;have HB1 := hideK (HB.out.trans ((HA.out.trans (hb1.mono HA.out.size)).mono HB.out.size));clear cP hb1 z0 z1 z2 z3 z4 z5;go_wp2_with fail
      go_ret
      exact ⟨⟨1, rfl, by simp only [(show (1 : Int) ≠ 0 by decide), false_iff]; exact fun q => HN.out (HC.out.2 q)⟩, HB1.out⟩
     ·by_cases h9 : x.1.kind = 9
      ·cases hh : hasN x.2.2.2.1 x.1.name
       ·have HN := hideK (chkW_var (wkOf x) (r.map wkOf) k hk60 hpt h9 hh)
        have CN := hideK (fun (W : World) (hl : LA W W.heap.size x.2.2.2.1 x.2.2.2.2.1) => containsLR_any x.2.2.2.1 x.1.name x.2.2.2.2.1 x.2.2.2.2.2 W hl HX.out.2.2.2.2)
        rw [hh] at CN;have H9 := hideK h9;clear h9 hh hpt;go_wp2_with fail
        refine cP.mono ?_;rintro e w1 ⟨rfl, hb1⟩;have c0 := (hb1.cell (p := ⟨wr.heap.size, 0, none⟩) hvl).trans z0;have c2 := (hb1.cell (p := ⟨wr.heap.size, 2, none⟩) hvl).trans z2;have c5 := (hb1.cell (p := ⟨wr.heap.size, 5, none⟩) hvl).trans z5;have cN := CN.out w1 (NAt.mono hb1.size (NAt.keep hb1 HNV.out));have HBW := hideK (HB.out.trans ((HA.out.trans (hb1.mono HA.out.size)).mono HB.out.size));rw [H9.out] at c0;clear cP hb1 z0 z1 z2 z3 z4 z5;go_wp2_with fail
        refine cN.mono ?_;rintro e w2 ⟨rfl, hw2⟩;obtain rfl := hw2.symm;clear cN CN;go_wp2_with fail
        go_ret
        exact ⟨⟨4, rfl, by simp only [(show (4 : Int) ≠ 0 by decide), false_iff]; exact fun q => HN.out (HC.out.2 q)⟩, HBW.out⟩
       ·have HV := hideK (show x.1.kind = 9 → hasN (wkOf x).2 x.1.name = true from fun _ => hh)
        have HI := hideK (show x.1.kind = 8 → ∀ m, idleN m x.1 = false from fun q => absurd (h9.symm.trans q) (by decide))
        have HIN := hideK (show inner (wkOf x) = x.2.2.2.1 from if_neg (by show ¬ x.1.kind = 8; omega))
        have HNX := hideK (show (chkW ((x.1.kids.map fun k => (k, x.2.2.2.1)) ++ r.map wkOf) (0, k + 1)).1 = 0 ↔ chkTy t = 0 from by
         have st := chkW_step (wkOf x) (r.map wkOf) k hk60 hpt HV.out HI.out;rw [HIN.out] at st;rw [show chkW ((x.1.kids.map fun k => (k, x.2.2.2.1)) ++ r.map wkOf) (0, k + 1) = chkW (wkOf x :: r.map wkOf) (0, k) from st.symm]
         exact HC.out)
        have h6 := part_six _ hpt;have CN := hideK (fun (W : World) (hl : LA W W.heap.size x.2.2.2.1 x.2.2.2.2.1) => containsLR_any x.2.2.2.1 x.1.name x.2.2.2.2.1 x.2.2.2.2.2 W hl HX.out.2.2.2.2)
        rw [hh] at CN;have H9 := hideK h9;clear h9 hh hpt HV HI HIN HC;go_wp2_with fail
        refine cP.mono ?_;rintro e w1 ⟨rfl, hb1⟩;have c0 := (hb1.cell (p := ⟨wr.heap.size, 0, none⟩) hvl).trans z0;have c2 := (hb1.cell (p := ⟨wr.heap.size, 2, none⟩) hvl).trans z2;have c4 := (hb1.cell (p := ⟨wr.heap.size, 4, none⟩) hvl).trans z4;have c5 := (hb1.cell (p := ⟨wr.heap.size, 5, none⟩) hvl).trans z5;have HB1 := hideK hb1;have HNW := hideK (NAt.mono hb1.size (NAt.keep hb1 HNV.out));have HTW := hideK (HTV.out.keep hb1);have hx1 := Nat.lt_of_lt_of_le hvl hb1.size;have HBW := hideK (HB.out.trans ((HA.out.trans (hb1.mono HA.out.size)).mono HB.out.size));clear HNV HTV HA HB HTR HCR HCV HGL hg;generalize wr.heap.size = xb at *;clear cP hb1 z0 z1 z2 z3 z4 z5;rw [H9.out] at c0;have cN := CN.out w1 HNW.out;go_wp2_with fail
        refine cN.mono ?_;rintro e w2 ⟨rfl, hw2⟩;obtain rfl := hw2.symm;clear cN CN;go_wp2_with fail
        go_loopw [8, 9] (fun l i wq => ∃ (m : Nat) (ts2 : List WTk), m ≤ x.1.kids.length ∧ i = .int .i64 (m : Int) ∧ wq.ownsRow w1.heap.size 54 6 l m (wCs ts2) ∧ ts2.map wkOf = (x.1.kids.take m).map (fun k => (k, x.2.2.2.1)) ∧ TOW w w1 ts2 ∧ Below w1.heap.size w1 wq) (fun _ i _ => x.1.kids.length - (intOf i).toNat)
        case atStart => exact ⟨0, [], Nat.zero_le _, rfl, World.ownsRow_nil _ _ _ _, rfl, fun q hq => (by cases hq), Below.refl _ _⟩
        case round =>
         obtain ⟨m, ts2, hm, rfl, hO2, hmap, hT2, hb2⟩ := hrel;have q4 := (hb2.cell (p := ⟨xb, 4, none⟩) hx1).trans c4;have q5 := (hb2.cell (p := ⟨xb, 5, none⟩) hx1).trans c5;by_cases hlt : m < x.1.kids.length
         ·have hltz : (m : Int) < (x.1.kids.length : Int) := by omega
          obtain ⟨d', hkt⟩ := HX.out.2.2.1;obtain ⟨b, o, hak, hbB, al2, cl2, ak2, ck2, hat, hbd2, hla2, hkt2⟩ := kt_at hkt hlt;have hbw := HBW.out.trans (hb2.mono HBW.out.size);obtain ⟨e0, e1, e2, e3, e4⟩ := hat.keep hbw hbB;rw [hak] at q4;have HMP := hideK (show ts2.map wkOf ++ [(x.1.kids[m], x.2.2.2.1)] = (x.1.kids.take (m + 1)).map (fun k => (k, x.2.2.2.1)) from by rw [hmap, List.take_succ_eq_append_getElem hlt, List.map_append]; rfl)
          have HTN := hideK (show TOW w w1 (ts2 ++ [(x.1.kids[m], (al2, cl2), (ak2, ck2), x.2.2.2.1, x.2.2.2.2)]) from hT2.app (fun q hq => by obtain rfl := List.mem_singleton.1 hq; exact ⟨hbd2.w, hla2, hkt2, HNW.out, HX.out.2.2.2.2⟩))
          clear hat hbd2 hla2 hkt2 hkt hmap hT2 hak;generalize x.1.kids[m] = v at *;have LR := hideK (World.ownsRow_lit (base := w.heap.size) (e := 54) (size := 6) wr #[.int .i64 v.kind, .int .i64 v.so, .string v.name, .slice al2 v.labels.length cl2, .slice ak2 v.kids.length ck2, .slice x.2.2.2.2.1 x.2.2.2.1.length x.2.2.2.2.2] 1 hbw.size (by decide) rfl)
          have OA := hideK (own_keep0 hO2 ((Below.refl _ _).alloc (Nat.le_refl _) (.cells #[.int .i64 v.kind, .int .i64 v.so, .string v.name, .slice al2 v.labels.length cl2, .slice ak2 v.kids.length ck2, .slice x.2.2.2.2.1 x.2.2.2.1.length x.2.2.2.2.2] 54)));have HB7 := hideK (fun (w7 : World) (hg : (wr.alloc (.cells #[.int .i64 v.kind, .int .i64 v.so, .string v.name, .slice al2 v.labels.length cl2, .slice ak2 v.kids.length ck2, .slice x.2.2.2.2.1 x.2.2.2.1.length x.2.2.2.2.2] 54)).grownBy w7 u8.ownBlock) => (hb2.alloc hb2.size (.cells #[.int .i64 v.kind, .int .i64 v.so, .string v.name, .slice al2 v.labels.length cl2, .slice ak2 v.kids.length ck2, .slice x.2.2.2.2.1 x.2.2.2.1.length x.2.2.2.2.2] 54)).grown hg (hb2.alloc hb2.size (.cells #[.int .i64 v.kind, .int .i64 v.so, .string v.name, .slice al2 v.labels.length cl2, .slice ak2 v.kids.length ck2, .slice x.2.2.2.2.1 x.2.2.2.1.length x.2.2.2.2.2] 54)).size (fun k hk => (hO2.lt k hk).1))
          have HSZ := hideK (show w1.heap.size ≤ (wr.alloc (.cells #[.int .i64 v.kind, .int .i64 v.so, .string v.name, .slice al2 v.labels.length cl2, .slice ak2 v.kids.length ck2, .slice x.2.2.2.2.1 x.2.2.2.1.length x.2.2.2.2.2] 54)).heap.size from (hb2.alloc hb2.size _).size)
          clear hO2 hb2 hbw;go_wp2_with (at_builtin; refine wpList_append_rows _ rfl (.tmp 80) (.tmp 89) 55 rfl w1.heap.size w.heap.size 54 i1 _ 6 104 Tryz.underlying55 hj hy0 hy1 hy2 rfl (by decide) _ _ _ rfl OA.out _ _ _ rfl LR.out (by simp [Value.oneCell']) (by unfold maxLen; omega) (by omega) HSZ.out ?_; intro v7 w7 hO7 hg7 hat7; have HO7 := hideK hO7; have HB8 := hideK (HB7.out w7 hg7); clear hO7 hg7 hat7)
          go_roundw
          case rel => exact ⟨m + 1, ts2 ++ [(v, (al2, cl2), (ak2, ck2), x.2.2.2.1, x.2.2.2.2)], by omega, by go_num, by rw [wCs_app]; exact HO7.out, by rw [List.map_append]; exact HMP.out, HTN.out, HB8.out⟩
          case measure => simp [intOf]; omega
         ·have hltz : ¬ (m : Int) < (x.1.kids.length : Int) := by omega
          obtain rfl : m = x.1.kids.length := by omega
          have HS := hideK (show ∀ ad, some sa = some ad → ∀ j u, (wCs r)[j]? = some u → wr.cell? (ad.add j) = some u from fun ad had j u hj => by injection had with had; subst had; exact HSRC.out wr (HB1.out.trans (hb2.mono HB1.out.size)) j u hj)
          rw [List.take_length] at hmap;have HMP := hideK hmap;have O2 := hideK hO2;have HTE := hideK (fun (W : World) (hW : Below w1.heap.size w1 W) => (hT2.keep hW).app (HTW.out.keep hW))
          have HB7 := hideK (fun (w7 : World) (hg : wr.grownBy w7 u8.ownBlock) => hb2.grown hg hb2.size (fun k hk => (hO2.lt k hk).1))
          have hsz := hb2.size;have HL := hideK (show ts2.length = x.1.kids.length from by have := congrArg List.length hmap; simpa using this)
          clear hO2 hmap hT2 hb2;go_wp2_with (at_builtin; refine wpList_append_src _ rfl (.tmp 91) (.tmp 92) 55 rfl w1.heap.size 54 i1 _ 6 104 Tryz.underlying55 hj hy0 hy1 hy2 rfl (by decide) _ _ _ rfl O2.out (some sa) r.length sc (wCs r) rfl (wCs_len r) (fun e => by cases e) HS.out (wCs_one r) (by unfold maxLen; omega) (by omega) hsz ?_; intro v7 w7 hO7 hg7 hat7; have HO7 := hideK hO7; have HB8 := hideK (HB7.out w7 hg7); clear hO7 hg7 hat7)
          go_roundw
          case rel => exact ⟨k + 1, ts2 ++ r, by omega, by go_num, by rw [wCs_app, List.length_append, HL.out]; exact own_weak HO7.out HBW.out.size, HTE.out _ HB8.out, by rw [List.map_append, HMP.out]; exact HNX.out, by rw [List.length_append, HL.out]; omega, nl_app HMP.out HNLR.out (by omega), HBW.out.trans (HB8.out.mono HBW.out.size)⟩
          case measure => simp [intOf]; omega
      ·by_cases h8 : x.1.kind = 8
       ·have HV := hideK (show x.1.kind = 9 → hasN (wkOf x).2 x.1.name = true from fun q => absurd q h9)
        have HIN := hideK (show inner (wkOf x) = x.2.2.2.1 ++ [x.1.name] from if_pos h8)
        have HST := hideK (show (∀ m, idleN m x.1 = false) → ((chkW ((x.1.kids.map fun k => (k, x.2.2.2.1 ++ [x.1.name])) ++ r.map wkOf) (0, k + 1)).1 = 0 ↔ chkTy t = 0) from fun hi => by
         have st := chkW_step (wkOf x) (r.map wkOf) k hk60 hpt HV.out (fun _ => hi)
         rw [HIN.out] at st;rw [show chkW ((x.1.kids.map fun k => (k, x.2.2.2.1 ++ [x.1.name])) ++ r.map wkOf) (0, k + 1) = chkW (wkOf x :: r.map wkOf) (0, k) from st.symm]
         exact HC.out)
        have HID := hideK (fun m (hi : idleN m x.1 = true) => chkW_idle (wkOf x) (r.map wkOf) k m hk60 h8 hi)
        have h6 := part_six _ hpt;have H8 := hideK h8;clear h8 h9 hpt HV HIN;go_wp2_with fail
        refine cP.mono ?_;rintro e w1 ⟨rfl, hb1⟩;have c0 := (hb1.cell (p := ⟨wr.heap.size, 0, none⟩) hvl).trans z0;have c1 := (hb1.cell (p := ⟨wr.heap.size, 1, none⟩) hvl).trans z1;have c2 := (hb1.cell (p := ⟨wr.heap.size, 2, none⟩) hvl).trans z2;have c3 := (hb1.cell (p := ⟨wr.heap.size, 3, none⟩) hvl).trans z3;have c4 := (hb1.cell (p := ⟨wr.heap.size, 4, none⟩) hvl).trans z4;have c5 := (hb1.cell (p := ⟨wr.heap.size, 5, none⟩) hvl).trans z5;have HB1 := hideK hb1;have HNW := hideK (NAt.mono hb1.size (NAt.keep hb1 HNV.out));have HTW := hideK (HTV.out.keep hb1);have hx1 := Nat.lt_of_lt_of_le hvl hb1.size;have HBW := hideK (HB.out.trans ((HA.out.trans (hb1.mono HA.out.size)).mono HB.out.size));clear HNV HTV HA HB HTR HCR HCV HGL hg;generalize wr.heap.size = xb at *;clear cP hb1 z0 z1 z2 z3 z4 z5;rw [H8.out] at c0;obtain ⟨d', hkt0⟩ := HX.out.2.2.1;have HW0 := hideK (show TW w1 w1.heap.size x.1 x.2.1.1 x.2.1.2 x.2.2.1.1 x.2.2.1.2 (w1.alloc (.cells #[.int .i64 8, .int .i64 x.1.so, .string x.1.name, .slice x.2.1.1 x.1.labels.length x.2.1.2, .slice x.2.2.1.1 x.1.kids.length x.2.2.1.2] 25)) from ⟨by simp, ⟨by rw [H8.out]; go_cell, by go_cell, by go_cell, by go_cell, by go_cell⟩, fun j hj => by go_simp, (Below.refl _ _).alloc (Nat.le_refl _) _⟩)
        have HK0 := hideK hkt0;have HNS := hideK (show (x.2.2.2.1 ++ [x.1.name]).length ≤ 60 from by rw [List.length_append]; simp; omega)
        clear hkt0;go_wp2_with fail
        go_loopg [] d' (fun m wq => ∃ (u : Ty) (al' : OAd) (cl' : Nat) (ak' : OAd) (ck' : Nat), TW w1 w1.heap.size u al' cl' ak' ck' wq ∧ KT w w.heap.size m u.kids ak' ∧ ((∃ n, idleN n u = true) ↔ ∃ n, idleN n x.1 = true))
        case atStart => exact ⟨x.1, _, _, _, _, HW0.out, HK0.out, Iff.rfl⟩
        case round =>
         obtain ⟨u, al', cl', ak', ck', hw, hkt, hid⟩ := hrel;clear HW0 HK0;have HW := hideK hw;obtain ⟨lt, ⟨b0, b1, b2, b3, b4⟩, fz, hbl⟩ := hw;simp only [Nat.zero_add] at b1 b2 b3 b4;have f0 := fz 0 (by omega)
         have f1 := fz 1 (by omega)
         have f2 := fz 2 (by omega)
         have f3 := fz 3 (by omega)
         have f4 := fz 4 (by omega)
         clear fz;by_cases hgo : u.kind = 8 ∧ u.kids.length = 1
         ·obtain ⟨h8, h1⟩ := hgo
          have HDN := hideK ((idle_down h8 h1).symm.trans hid);obtain ⟨d2, hd2⟩ : ∃ d2, gk = d2 + 1 := by
           cases gk with
           | zero => simp only [KT] at hkt; rw [hkt] at h1; cases h1
           | succ d2 => exact ⟨d2, rfl⟩
          rw [hd2] at hkt;rcases hkt with hkt | ⟨b, o, rfl, hbB, hkt⟩
          ·rw [hkt] at h1; cases h1
          ·obtain ⟨al2, cl2, ak2, ck2, ht2, hb2, _, hk2⟩ := hkt 0 (by omega)
           have ht3 := ht2.keep (HBW.out.trans (hbl.mono HBW.out.size)) hbB;simp only [Nat.zero_mul, Nat.add_zero] at ht3;obtain ⟨y0, y1, y2, y3, y4⟩ := ht3;generalize hv : u.kids[0] = v at *;rw [h8] at b0;rw [h1] at b4;have HK2 := hideK hk2;have hne : b ≠ w1.heap.size := by have := HBW.out.size; omega
           have HD := hideK (show d2 < gk from by omega)
           clear hkt ht2 hb2 hk2 hv hid hd2 h8 h1;go_wp2_with fail
           go_roundg d2
           case measure => exact HD.out
           case rel => exact ⟨v, al2, cl2, ak2, ck2, HW.out.put (Nat.le_refl _), HK2.out, HDN.out⟩
         ·by_cases h9 : u.kind = 9
          ·have hi : ∃ n, idleN n x.1 = true := hid.1 ⟨0, by simp [idleN, h9]⟩
           obtain ⟨n, hn⟩ := hi;have HN := hideK (HID.out n hn);have HBX := hideK (HBW.out.trans (hbl.mono HBW.out.size));rw [h9] at b0;clear hn hid hgo hkt hbl HST HID h9;go_wp2_with fail
           go_ret
           exact ⟨⟨7, rfl, by simp only [(show (7 : Int) ≠ 0 by decide), false_iff]; exact fun q => HN.out (HC.out.2 q)⟩, HBX.out⟩
          ·have hni : ∀ m, idleN m x.1 = false := fun m => by
            cases hq : idleN m x.1 with
            | false => rfl
            | true =>
             obtain ⟨n, hn⟩ := hid.2 ⟨m, hq⟩;exfalso
             by_cases h8 : u.kind = 8
             ·rw [idle_odd n u h8 (fun h1 => hgo ⟨h8, h1⟩)] at hn; cases hn
             ·rw [idle_stop n u h8] at hn; simp at hn; exact h9 hn
           have HNX := hideK (HST.out hni);have k9u : (u.kind == 9) = false := by simpa using h9
           have hq : ((u.kind == 8) = true ∧ ((u.kids.length : Int) == 1) = false) ∨ (u.kind == 8) = false := by
            by_cases h8 : u.kind = 8
            ·exact .inl ⟨by simpa using h8, by rw [beq_eq_false_iff_ne]; intro q; exact hgo ⟨h8, by omega⟩⟩
            ·exact .inr (by simpa using h8)
           have e2 : wr.drew.cell? ⟨xb, 2, none⟩ = some (.string x.1.name) := (hbl.cell (p := ⟨xb, 2, none⟩) hx1).trans c2;have hxd : xb < wr.drew.heap.size := Nat.lt_of_lt_of_le hx1 hbl.size;have HBD := hideK (show Below w1.heap.size w1 wr.drew from hbl.drew)
           have hszd : w1.heap.size ≤ wr.drew.heap.size := hbl.size;have H0N := hideK (show x.2.2.2.2.1 = none → x.2.2.2.1.length = 0 from fun q => by
            rcases HNW.out with h | ⟨b, o, e, _⟩
            ·simpa using h
            ·rw [q] at e; cases e)
           have HSN := hideK (fun (W : World) (hW : Below wr.heap.size wr W) => show ∀ ad, x.2.2.2.2.1 = some ad → ∀ j u, (x.2.2.2.1.map Value.string)[j]? = some u → W.cell? (ad.add j) = some u from fun ad had j u hj => by
            rcases (NAt.keep (hbl.trans (hW.mono hbl.size)) HNW.out) with h | ⟨b, o, e, _, hc⟩
            ·rw [h] at hj; simp at hj
            ·rw [e] at had
             injection had with had
             subst had;obtain ⟨hl, he⟩ := List.getElem?_eq_some_iff.1 hj;rw [addjo, hc j hl, he])
           clear hid hgo hkt HST HID hni h9 HC;rcases hq with ⟨q1, q2⟩ | q1
           all_goals
            go_wp2_with fail
            refine wp_region_held_drew (S := (fun W : World => W.cell? ⟨xb, 2, none⟩ = some (.string x.1.name))) (by kernel_rfl) e2 (fun hS => ?_)
            refine tkH 0 (.slice x.2.2.2.2.1 x.2.2.2.1.length x.2.2.2.2.2) hS ?_;simp only [Act.put, sA, sB, sC];refine tkH 2 (.pointer (some ⟨xb, 0, none⟩)) hS ?_;simp only [Act.put, sA, sB, sC];refine tkH 3 (.pointer (some ⟨xb, 2, none⟩)) hS ?_;simp only [Act.put, sA, sB, sC];refine tkH 4 (.string x.1.name) hS ?_;simp only [Act.put, sA, sB, sC];refine wpAnyH_ready (rs := [1, 5]) (by kernel_rfl) (by simp) (AllReadyH.cons (by rw [List.getElem?_toArray]; rfl) (fun K hK => ?_) (AllReadyH.cons (by rw [List.getElem?_toArray]; rfl) (fun K hK => ?_) AllReadyH.nil))
            ·refine stepAppSrc _ rfl (.const (.slice none 0 0)) (.tmp 65) 22 rfl w1.heap.size 9 iS _ 1 16 Tryz.underlying22 sj sy0 sy1 sy2 rfl (by decide) (.slice none 0 0) 0 [] rfl (World.ownsRow_nil _ _ _ _) x.2.2.2.2.1 x.2.2.2.1.length x.2.2.2.2.2 (x.2.2.2.1.map Value.string) rfl (by simp) H0N.out (HSN.out _ (Below.refl _ _).drew) (by simp [Value.oneCell']) (by unfold maxLen; omega) (by omega) hszd ?_
             intro v6 w6 hO6 hg6 hat6;have hb6 : Below w1.heap.size w1 w6 := HBD.out.grown hg6 HBD.out.size (fun k hk => by cases hk)
             have hx6 : xb < w6.heap.size := Nat.lt_of_lt_of_le hx1 hb6.size;have s6 : w6.cell? ⟨xb, 2, none⟩ = some (.string x.1.name) := (hb6.cell (p := ⟨xb, 2, none⟩) hx1).trans c2;refine hK.out _ _ s6 ?_;clear hS hK K;intro hS;simp only [Act.put, sA, sB, sC];refine take_oneJ 5 (AllReadyH.cons (by rw [List.getElem?_toArray]; rfl) (fun K hK => ?_) AllReadyH.nil) (by kernel_rfl)
             go_simp
             have s7 : (w6.alloc (.cells #[.string x.1.name] 9)).cell? ⟨xb, 2, none⟩ = some (.string x.1.name) := (((Below.refl _ _).alloc (Nat.le_refl _) _).cell (p := ⟨xb, 2, none⟩) hx6).trans s6;refine hK.out _ _ s7 ?_;clear hS hK K;intro hS;have O6 := hideK (own_keep0 hO6 ((Below.refl _ _).alloc (Nat.le_refl _) (.cells #[.string x.1.name] 9)));have L6 := hideK (World.ownsRow_lit (base := w1.heap.size) (e := 9) (size := 1) w6 #[.string x.1.name] 1 hb6.size (by decide) rfl)
             have hb7 : Below w1.heap.size w1 (w6.alloc (.cells #[.string x.1.name] 9)) := hb6.alloc hb6.size _;have hlt6 := fun k hk => (hO6.lt k hk).1
             have hsz7 := hb7.size;clear hO6 hg6 hat6;refine take_oneJ 6 (AllReadyH.cons (by rw [List.getElem?_toArray]; rfl) (fun K hK => ?_) AllReadyH.nil) (by kernel_rfl)
             refine step_append_rows _ rfl (.tmp 66) (.tmp 70) 22 rfl w1.heap.size w1.heap.size 9 iS _ 1 16 Tryz.underlying22 sj sy0 sy1 sy2 rfl (by decide) _ _ _ rfl O6.out _ _ _ rfl L6.out (by simp [Value.oneCell']) (by unfold maxLen; omega) (by omega) hsz7 ?_
             intro v9 w9 hO9 hg9 hat9;have hb9 : Below w1.heap.size w1 w9 := hb7.grown hg9 hb7.size hlt6;have s9 : w9.cell? ⟨xb, 2, none⟩ = some (.string x.1.name) := (hb9.cell (p := ⟨xb, 2, none⟩) hx1).trans c2;refine hK.out _ _ s9 ?_;clear hS hK K;intro hS;simp only [Act.put, sA, sB, sC];obtain ⟨va, vc, hv9, hla9⟩ := la_ownS (ss := x.2.2.2.1 ++ [x.1.name]) (n := 0 + x.2.2.2.1.length + 1) (by simp) (by rw [List.map_append]; simpa using hO9)
             rw [Nat.zero_add] at hv9;subst hv9;refine take_oneJ 7 (AllReadyH.cons (by rw [List.getElem?_toArray]; rfl) (fun K hK => ?_) AllReadyH.nil) (by kernel_rfl)
             go_simp
             refine hK.out _ _ s9 ?_;clear hS hK K;intro hS;refine wpAnyH_done (by kernel_rfl) ?_ _
             have hx9 : xb < w9.heap.size := Nat.lt_of_lt_of_le hx1 hb9.size;have d4 := (hb9.cell (p := ⟨xb, 4, none⟩) hx1).trans c4;have HNW9 := hideK hla9;have HTW9 := hideK (HTW.out.keep hb9);have HB9W := hideK (HBW.out.trans (hb9.mono HBW.out.size));have HB19 := hideK (HB1.out.trans (hb9.mono HB1.out.size));clear hS s6 s7 s9 O6 L6 hb7 hb9 hO9 hg9 hat9 hla9 hlt6 hsz7 e2 c0 c1 c2 c3 c4 c5 b0 b1 b2 b3 b4 f0 f1 f2 f3 f4 hbl HW HBD hxd hszd HSN H0N;have HLE := hideK (show (x.2.2.2.1 ++ [x.1.name]).length = x.2.2.2.1.length + 1 from by simp)
             go_wp2_with fail
             go_loopw [8, 9] (fun l i wq => ∃ (m : Nat) (ts2 : List WTk), m ≤ x.1.kids.length ∧ i = .int .i64 (m : Int) ∧ wq.ownsRow w9.heap.size 54 6 l m (wCs ts2) ∧ ts2.map wkOf = (x.1.kids.take m).map (fun k => (k, (x.2.2.2.1 ++ [x.1.name]))) ∧ TOW w w9 ts2 ∧ Below w9.heap.size w9 wq) (fun _ i _ => x.1.kids.length - (intOf i).toNat)
             case atStart => exact ⟨0, [], Nat.zero_le _, rfl, World.ownsRow_nil _ _ _ _, rfl, fun q hq => (by cases hq), Below.refl _ _⟩
             case round =>
              obtain ⟨m, ts2, hm, rfl, hO2, hmap, hT2, hb2⟩ := hrel;have q4 := (hb2.cell (p := ⟨xb, 4, none⟩) hx9).trans d4;by_cases hlt : m < x.1.kids.length
              ·have hltz : (m : Int) < (x.1.kids.length : Int) := by omega
               obtain ⟨d', hkt⟩ := HX.out.2.2.1;obtain ⟨b, o, hak, hbB, al2, cl2, ak2, ck2, hat, hbd2, hla2, hkt2⟩ := kt_at hkt hlt;have hbw := HB9W.out.trans (hb2.mono HB9W.out.size);obtain ⟨e0, e1, e2, e3, e4⟩ := hat.keep hbw hbB;rw [hak] at q4;have HMP := hideK (show ts2.map wkOf ++ [(x.1.kids[m], (x.2.2.2.1 ++ [x.1.name]))] = (x.1.kids.take (m + 1)).map (fun k => (k, (x.2.2.2.1 ++ [x.1.name]))) from by rw [hmap, List.take_succ_eq_append_getElem hlt, List.map_append]; rfl)
               have HTN := hideK (show TOW w w9 (ts2 ++ [(x.1.kids[m], (al2, cl2), (ak2, ck2), (x.2.2.2.1 ++ [x.1.name]), (va, vc))]) from hT2.app (fun q hq => by obtain rfl := List.mem_singleton.1 hq; exact ⟨hbd2.w, hla2, hkt2, HNW9.out, HNS.out⟩))
               clear hat hbd2 hla2 hkt2 hkt hmap hT2 hak;generalize x.1.kids[m] = v at *;have LR := hideK (World.ownsRow_lit (base := w.heap.size) (e := 54) (size := 6) wr #[.int .i64 v.kind, .int .i64 v.so, .string v.name, .slice al2 v.labels.length cl2, .slice ak2 v.kids.length ck2, .slice va (x.2.2.2.1.length + 1) vc] 1 hbw.size (by decide) rfl)
               have OA := hideK (own_keep0 hO2 ((Below.refl _ _).alloc (Nat.le_refl _) (.cells #[.int .i64 v.kind, .int .i64 v.so, .string v.name, .slice al2 v.labels.length cl2, .slice ak2 v.kids.length ck2, .slice va (x.2.2.2.1.length + 1) vc] 54)));have HB7 := hideK (fun (w7 : World) (hg : (wr.alloc (.cells #[.int .i64 v.kind, .int .i64 v.so, .string v.name, .slice al2 v.labels.length cl2, .slice ak2 v.kids.length ck2, .slice va (x.2.2.2.1.length + 1) vc] 54)).grownBy w7 u8.ownBlock) => (hb2.alloc hb2.size (.cells #[.int .i64 v.kind, .int .i64 v.so, .string v.name, .slice al2 v.labels.length cl2, .slice ak2 v.kids.length ck2, .slice va (x.2.2.2.1.length + 1) vc] 54)).grown hg (hb2.alloc hb2.size (.cells #[.int .i64 v.kind, .int .i64 v.so, .string v.name, .slice al2 v.labels.length cl2, .slice ak2 v.kids.length ck2, .slice va (x.2.2.2.1.length + 1) vc] 54)).size (fun k hk => (hO2.lt k hk).1))
               have HSZ := hideK (show w9.heap.size ≤ (wr.alloc (.cells #[.int .i64 v.kind, .int .i64 v.so, .string v.name, .slice al2 v.labels.length cl2, .slice ak2 v.kids.length ck2, .slice va (x.2.2.2.1.length + 1) vc] 54)).heap.size from (hb2.alloc hb2.size _).size)
               clear hO2 hb2 hbw;go_wp2_with (at_builtin; refine wpList_append_rows _ rfl (.tmp 80) (.tmp 89) 55 rfl w9.heap.size w.heap.size 54 i1 _ 6 104 Tryz.underlying55 hj hy0 hy1 hy2 rfl (by decide) _ _ _ rfl OA.out _ _ _ rfl LR.out (by simp [Value.oneCell']) (by unfold maxLen; omega) (by omega) HSZ.out ?_; intro v7 w7 hO7 hg7 hat7; have HO7 := hideK hO7; have HB8 := hideK (HB7.out w7 hg7); clear hO7 hg7 hat7)
               go_roundw
               case rel => exact ⟨m + 1, ts2 ++ [(v, (al2, cl2), (ak2, ck2), (x.2.2.2.1 ++ [x.1.name]), (va, vc))], by omega, by go_num, by rw [wCs_app]; have h := HO7.out; rw [← HLE.out] at h; exact h, by rw [List.map_append]; exact HMP.out, HTN.out, HB8.out⟩
               case measure => simp [intOf]; omega
              ·have hltz : ¬ (m : Int) < (x.1.kids.length : Int) := by omega
               obtain rfl : m = x.1.kids.length := by omega
               have HS := hideK (show ∀ ad, some sa = some ad → ∀ j u, (wCs r)[j]? = some u → wr.cell? (ad.add j) = some u from fun ad had j u hj => by injection had with had; subst had; exact HSRC.out wr (HB19.out.trans (hb2.mono HB19.out.size)) j u hj)
               rw [List.take_length] at hmap;have HMP := hideK hmap;have O2 := hideK hO2;have HTE := hideK (fun (W : World) (hW : Below w9.heap.size w9 W) => (hT2.keep hW).app (HTW9.out.keep hW))
               have HB7 := hideK (fun (w7 : World) (hg : wr.grownBy w7 u8.ownBlock) => hb2.grown hg hb2.size (fun k hk => (hO2.lt k hk).1))
               have hsz := hb2.size;have HL := hideK (show ts2.length = x.1.kids.length from by have := congrArg List.length hmap; simpa using this)
               clear hO2 hmap hT2 hb2;go_wp2_with (at_builtin; refine wpList_append_src _ rfl (.tmp 91) (.tmp 92) 55 rfl w9.heap.size 54 i1 _ 6 104 Tryz.underlying55 hj hy0 hy1 hy2 rfl (by decide) _ _ _ rfl O2.out (some sa) r.length sc (wCs r) rfl (wCs_len r) (fun e => by cases e) HS.out (wCs_one r) (by unfold maxLen; omega) (by omega) hsz ?_; intro v7 w7 hO7 hg7 hat7; have HO7 := hideK hO7; have HB8 := hideK (HB7.out w7 hg7); clear hO7 hg7 hat7)
               go_roundw
               case rel => exact ⟨k + 1, ts2 ++ r, by omega, by go_num, by rw [wCs_app, List.length_append, HL.out]; exact own_weak HO7.out HB9W.out.size, HTE.out _ HB8.out, by rw [List.map_append, HMP.out]; exact HNX.out, by rw [List.length_append, HL.out]; omega, nl_app HMP.out HNLR.out (by rw [HLE.out]; omega), HB9W.out.trans (HB8.out.mono HB9W.out.size)⟩
               case measure => simp [intOf]; omega
            ·go_simp
             have s6 : (wr.drew.alloc (.cells #[.string x.1.name] 9)).cell? ⟨xb, 2, none⟩ = some (.string x.1.name) := (((Below.refl _ _).alloc (Nat.le_refl _) _).cell (p := ⟨xb, 2, none⟩) hxd).trans e2;refine hK.out _ _ s6 ?_;clear hS hK K;intro hS;have L5 := hideK (World.ownsRow_lit (base := w1.heap.size) (e := 9) (size := 1) wr.drew #[.string x.1.name] 1 HBD.out.size (by decide) rfl)
             have hb5 : Below w1.heap.size w1 (wr.drew.alloc (.cells #[.string x.1.name] 9)) := HBD.out.alloc HBD.out.size _;have hsz5 := hb5.size;refine take_oneJ 1 (AllReadyH.cons (by rw [List.getElem?_toArray]; rfl) (fun K hK => ?_) AllReadyH.nil) (by kernel_rfl)
             refine stepAppSrc _ rfl (.const (.slice none 0 0)) (.tmp 65) 22 rfl w1.heap.size 9 iS _ 1 16 Tryz.underlying22 sj sy0 sy1 sy2 rfl (by decide) (.slice none 0 0) 0 [] rfl (World.ownsRow_nil _ _ _ _) x.2.2.2.2.1 x.2.2.2.1.length x.2.2.2.2.2 (x.2.2.2.1.map Value.string) rfl (by simp) H0N.out (HSN.out _ ((Below.refl _ _).drew.alloc (Nat.le_refl _) _)) (by simp [Value.oneCell']) (by unfold maxLen; omega) (by omega) hsz5 ?_
             intro v6 w6 hO6 hg6 hat6;have hb7 : Below w1.heap.size w1 w6 := hb5.grown hg6 hb5.size (fun k hk => by cases hk)
             have s7 : w6.cell? ⟨xb, 2, none⟩ = some (.string x.1.name) := (hb7.cell (p := ⟨xb, 2, none⟩) hx1).trans c2;refine hK.out _ _ s7 ?_;clear hS hK K;intro hS;simp only [Act.put, sA, sB, sC];have L6 := hideK (own_grown0 L5.out hg6 (by intro k q; cases q))
             have O6 := hideK hO6;have hlt6 := fun k hk => (hO6.lt k hk).1
             have hsz7 := hb7.size;clear hO6 hg6 hat6;refine take_oneJ 6 (AllReadyH.cons (by rw [List.getElem?_toArray]; rfl) (fun K hK => ?_) AllReadyH.nil) (by kernel_rfl)
             refine step_append_rows _ rfl (.tmp 66) (.tmp 70) 22 rfl w1.heap.size w1.heap.size 9 iS _ 1 16 Tryz.underlying22 sj sy0 sy1 sy2 rfl (by decide) _ _ _ rfl O6.out _ _ _ rfl L6.out (by simp [Value.oneCell']) (by unfold maxLen; omega) (by omega) hsz7 ?_
             intro v9 w9 hO9 hg9 hat9;have hb9 : Below w1.heap.size w1 w9 := hb7.grown hg9 hb7.size hlt6;have s9 : w9.cell? ⟨xb, 2, none⟩ = some (.string x.1.name) := (hb9.cell (p := ⟨xb, 2, none⟩) hx1).trans c2;refine hK.out _ _ s9 ?_;clear hS hK K;intro hS;simp only [Act.put, sA, sB, sC];obtain ⟨va, vc, hv9, hla9⟩ := la_ownS (ss := x.2.2.2.1 ++ [x.1.name]) (n := 0 + x.2.2.2.1.length + 1) (by simp) (by rw [List.map_append]; simpa using hO9)
             rw [Nat.zero_add] at hv9;subst hv9;refine take_oneJ 7 (AllReadyH.cons (by rw [List.getElem?_toArray]; rfl) (fun K hK => ?_) AllReadyH.nil) (by kernel_rfl)
             go_simp
             refine hK.out _ _ s9 ?_;clear hS hK K;intro hS;refine wpAnyH_done (by kernel_rfl) ?_ _
             have hx9 : xb < w9.heap.size := Nat.lt_of_lt_of_le hx1 hb9.size;have d4 := (hb9.cell (p := ⟨xb, 4, none⟩) hx1).trans c4;have HNW9 := hideK hla9;have HTW9 := hideK (HTW.out.keep hb9);have HB9W := hideK (HBW.out.trans (hb9.mono HBW.out.size));have HB19 := hideK (HB1.out.trans (hb9.mono HB1.out.size));clear hS s6 s7 s9 O6 L6 hb7 hb9 hO9 hg9 hat9 hla9 hlt6 hsz7 e2 c0 c1 c2 c3 c4 c5 b0 b1 b2 b3 b4 f0 f1 f2 f3 f4 hbl HW HBD hxd hszd HSN H0N;have HLE := hideK (show (x.2.2.2.1 ++ [x.1.name]).length = x.2.2.2.1.length + 1 from by simp)
             go_wp2_with fail
             go_loopw [8, 9] (fun l i wq => ∃ (m : Nat) (ts2 : List WTk), m ≤ x.1.kids.length ∧ i = .int .i64 (m : Int) ∧ wq.ownsRow w9.heap.size 54 6 l m (wCs ts2) ∧ ts2.map wkOf = (x.1.kids.take m).map (fun k => (k, (x.2.2.2.1 ++ [x.1.name]))) ∧ TOW w w9 ts2 ∧ Below w9.heap.size w9 wq) (fun _ i _ => x.1.kids.length - (intOf i).toNat)
             case atStart => exact ⟨0, [], Nat.zero_le _, rfl, World.ownsRow_nil _ _ _ _, rfl, fun q hq => (by cases hq), Below.refl _ _⟩
             case round =>
              obtain ⟨m, ts2, hm, rfl, hO2, hmap, hT2, hb2⟩ := hrel;have q4 := (hb2.cell (p := ⟨xb, 4, none⟩) hx9).trans d4;by_cases hlt : m < x.1.kids.length
              ·have hltz : (m : Int) < (x.1.kids.length : Int) := by omega
               obtain ⟨d', hkt⟩ := HX.out.2.2.1;obtain ⟨b, o, hak, hbB, al2, cl2, ak2, ck2, hat, hbd2, hla2, hkt2⟩ := kt_at hkt hlt;have hbw := HB9W.out.trans (hb2.mono HB9W.out.size);obtain ⟨e0, e1, e2, e3, e4⟩ := hat.keep hbw hbB;rw [hak] at q4;have HMP := hideK (show ts2.map wkOf ++ [(x.1.kids[m], (x.2.2.2.1 ++ [x.1.name]))] = (x.1.kids.take (m + 1)).map (fun k => (k, (x.2.2.2.1 ++ [x.1.name]))) from by rw [hmap, List.take_succ_eq_append_getElem hlt, List.map_append]; rfl)
               have HTN := hideK (show TOW w w9 (ts2 ++ [(x.1.kids[m], (al2, cl2), (ak2, ck2), (x.2.2.2.1 ++ [x.1.name]), (va, vc))]) from hT2.app (fun q hq => by obtain rfl := List.mem_singleton.1 hq; exact ⟨hbd2.w, hla2, hkt2, HNW9.out, HNS.out⟩))
               clear hat hbd2 hla2 hkt2 hkt hmap hT2 hak;generalize x.1.kids[m] = v at *;have LR := hideK (World.ownsRow_lit (base := w.heap.size) (e := 54) (size := 6) wr #[.int .i64 v.kind, .int .i64 v.so, .string v.name, .slice al2 v.labels.length cl2, .slice ak2 v.kids.length ck2, .slice va (x.2.2.2.1.length + 1) vc] 1 hbw.size (by decide) rfl)
               have OA := hideK (own_keep0 hO2 ((Below.refl _ _).alloc (Nat.le_refl _) (.cells #[.int .i64 v.kind, .int .i64 v.so, .string v.name, .slice al2 v.labels.length cl2, .slice ak2 v.kids.length ck2, .slice va (x.2.2.2.1.length + 1) vc] 54)));have HB7 := hideK (fun (w7 : World) (hg : (wr.alloc (.cells #[.int .i64 v.kind, .int .i64 v.so, .string v.name, .slice al2 v.labels.length cl2, .slice ak2 v.kids.length ck2, .slice va (x.2.2.2.1.length + 1) vc] 54)).grownBy w7 u8.ownBlock) => (hb2.alloc hb2.size (.cells #[.int .i64 v.kind, .int .i64 v.so, .string v.name, .slice al2 v.labels.length cl2, .slice ak2 v.kids.length ck2, .slice va (x.2.2.2.1.length + 1) vc] 54)).grown hg (hb2.alloc hb2.size (.cells #[.int .i64 v.kind, .int .i64 v.so, .string v.name, .slice al2 v.labels.length cl2, .slice ak2 v.kids.length ck2, .slice va (x.2.2.2.1.length + 1) vc] 54)).size (fun k hk => (hO2.lt k hk).1))
               have HSZ := hideK (show w9.heap.size ≤ (wr.alloc (.cells #[.int .i64 v.kind, .int .i64 v.so, .string v.name, .slice al2 v.labels.length cl2, .slice ak2 v.kids.length ck2, .slice va (x.2.2.2.1.length + 1) vc] 54)).heap.size from (hb2.alloc hb2.size _).size)
               clear hO2 hb2 hbw;go_wp2_with (at_builtin; refine wpList_append_rows _ rfl (.tmp 80) (.tmp 89) 55 rfl w9.heap.size w.heap.size 54 i1 _ 6 104 Tryz.underlying55 hj hy0 hy1 hy2 rfl (by decide) _ _ _ rfl OA.out _ _ _ rfl LR.out (by simp [Value.oneCell']) (by unfold maxLen; omega) (by omega) HSZ.out ?_; intro v7 w7 hO7 hg7 hat7; have HO7 := hideK hO7; have HB8 := hideK (HB7.out w7 hg7); clear hO7 hg7 hat7)
               go_roundw
               case rel => exact ⟨m + 1, ts2 ++ [(v, (al2, cl2), (ak2, ck2), (x.2.2.2.1 ++ [x.1.name]), (va, vc))], by omega, by go_num, by rw [wCs_app]; have h := HO7.out; rw [← HLE.out] at h; exact h, by rw [List.map_append]; exact HMP.out, HTN.out, HB8.out⟩
               case measure => simp [intOf]; omega
              ·have hltz : ¬ (m : Int) < (x.1.kids.length : Int) := by omega
               obtain rfl : m = x.1.kids.length := by omega
               have HS := hideK (show ∀ ad, some sa = some ad → ∀ j u, (wCs r)[j]? = some u → wr.cell? (ad.add j) = some u from fun ad had j u hj => by injection had with had; subst had; exact HSRC.out wr (HB19.out.trans (hb2.mono HB19.out.size)) j u hj)
               rw [List.take_length] at hmap;have HMP := hideK hmap;have O2 := hideK hO2;have HTE := hideK (fun (W : World) (hW : Below w9.heap.size w9 W) => (hT2.keep hW).app (HTW9.out.keep hW))
               have HB7 := hideK (fun (w7 : World) (hg : wr.grownBy w7 u8.ownBlock) => hb2.grown hg hb2.size (fun k hk => (hO2.lt k hk).1))
               have hsz := hb2.size;have HL := hideK (show ts2.length = x.1.kids.length from by have := congrArg List.length hmap; simpa using this)
               clear hO2 hmap hT2 hb2;go_wp2_with (at_builtin; refine wpList_append_src _ rfl (.tmp 91) (.tmp 92) 55 rfl w9.heap.size 54 i1 _ 6 104 Tryz.underlying55 hj hy0 hy1 hy2 rfl (by decide) _ _ _ rfl O2.out (some sa) r.length sc (wCs r) rfl (wCs_len r) (fun e => by cases e) HS.out (wCs_one r) (by unfold maxLen; omega) (by omega) hsz ?_; intro v7 w7 hO7 hg7 hat7; have HO7 := hideK hO7; have HB8 := hideK (HB7.out w7 hg7); clear hO7 hg7 hat7)
               go_roundw
               case rel => exact ⟨k + 1, ts2 ++ r, by omega, by go_num, by rw [wCs_app, List.length_append, HL.out]; exact own_weak HO7.out HB9W.out.size, HTE.out _ HB8.out, by rw [List.map_append, HMP.out]; exact HNX.out, by rw [List.length_append, HL.out]; omega, nl_app HMP.out HNLR.out (by rw [HLE.out]; omega), HB9W.out.trans (HB8.out.mono HB9W.out.size)⟩
               case measure => simp [intOf]; omega
       ·have HV := hideK (show x.1.kind = 9 → hasN (wkOf x).2 x.1.name = true from fun q => absurd q h9)
        have HI := hideK (show x.1.kind = 8 → ∀ m, idleN m x.1 = false from fun q => absurd q h8)
        have HIN := hideK (show inner (wkOf x) = x.2.2.2.1 from if_neg h8)
        have HNX := hideK (show (chkW ((x.1.kids.map fun k => (k, x.2.2.2.1)) ++ r.map wkOf) (0, k + 1)).1 = 0 ↔ chkTy t = 0 from by
         have st := chkW_step (wkOf x) (r.map wkOf) k hk60 hpt HV.out HI.out;rw [HIN.out] at st;rw [show chkW ((x.1.kids.map fun k => (k, x.2.2.2.1)) ++ r.map wkOf) (0, k + 1) = chkW (wkOf x :: r.map wkOf) (0, k) from st.symm]
         exact HC.out)
        have h6 := part_six _ hpt;have k9 : (x.1.kind == 9) = false := by simpa using h9
        have k8 : (x.1.kind == 8) = false := by simpa using h8
        clear h8 h9 hpt HV HI HIN HC;go_wp2_with fail
        refine cP.mono ?_;rintro e w1 ⟨rfl, hb1⟩;have c0 := (hb1.cell (p := ⟨wr.heap.size, 0, none⟩) hvl).trans z0;have c2 := (hb1.cell (p := ⟨wr.heap.size, 2, none⟩) hvl).trans z2;have c4 := (hb1.cell (p := ⟨wr.heap.size, 4, none⟩) hvl).trans z4;have c5 := (hb1.cell (p := ⟨wr.heap.size, 5, none⟩) hvl).trans z5;have HB1 := hideK hb1;have HNW := hideK (NAt.mono hb1.size (NAt.keep hb1 HNV.out));have HTW := hideK (HTV.out.keep hb1);have hx1 := Nat.lt_of_lt_of_le hvl hb1.size;have HBW := hideK (HB.out.trans ((HA.out.trans (hb1.mono HA.out.size)).mono HB.out.size));clear HNV HTV HA HB HTR HCR HCV HGL hg;generalize wr.heap.size = xb at *;clear cP hb1 z0 z1 z2 z3 z4 z5;go_wp2_with fail
        go_loopw [8, 9] (fun l i wq => ∃ (m : Nat) (ts2 : List WTk), m ≤ x.1.kids.length ∧ i = .int .i64 (m : Int) ∧ wq.ownsRow w1.heap.size 54 6 l m (wCs ts2) ∧ ts2.map wkOf = (x.1.kids.take m).map (fun k => (k, x.2.2.2.1)) ∧ TOW w w1 ts2 ∧ Below w1.heap.size w1 wq) (fun _ i _ => x.1.kids.length - (intOf i).toNat)
        case atStart => exact ⟨0, [], Nat.zero_le _, rfl, World.ownsRow_nil _ _ _ _, rfl, fun q hq => (by cases hq), Below.refl _ _⟩
        case round =>
         obtain ⟨m, ts2, hm, rfl, hO2, hmap, hT2, hb2⟩ := hrel;have q4 := (hb2.cell (p := ⟨xb, 4, none⟩) hx1).trans c4;have q5 := (hb2.cell (p := ⟨xb, 5, none⟩) hx1).trans c5;by_cases hlt : m < x.1.kids.length
         ·have hltz : (m : Int) < (x.1.kids.length : Int) := by omega
          obtain ⟨d', hkt⟩ := HX.out.2.2.1;obtain ⟨b, o, hak, hbB, al2, cl2, ak2, ck2, hat, hbd2, hla2, hkt2⟩ := kt_at hkt hlt;have hbw := HBW.out.trans (hb2.mono HBW.out.size);obtain ⟨e0, e1, e2, e3, e4⟩ := hat.keep hbw hbB;rw [hak] at q4;have HMP := hideK (show ts2.map wkOf ++ [(x.1.kids[m], x.2.2.2.1)] = (x.1.kids.take (m + 1)).map (fun k => (k, x.2.2.2.1)) from by rw [hmap, List.take_succ_eq_append_getElem hlt, List.map_append]; rfl)
          have HTN := hideK (show TOW w w1 (ts2 ++ [(x.1.kids[m], (al2, cl2), (ak2, ck2), x.2.2.2.1, x.2.2.2.2)]) from hT2.app (fun q hq => by obtain rfl := List.mem_singleton.1 hq; exact ⟨hbd2.w, hla2, hkt2, HNW.out, HX.out.2.2.2.2⟩))
          clear hat hbd2 hla2 hkt2 hkt hmap hT2 hak;generalize x.1.kids[m] = v at *;have LR := hideK (World.ownsRow_lit (base := w.heap.size) (e := 54) (size := 6) wr #[.int .i64 v.kind, .int .i64 v.so, .string v.name, .slice al2 v.labels.length cl2, .slice ak2 v.kids.length ck2, .slice x.2.2.2.2.1 x.2.2.2.1.length x.2.2.2.2.2] 1 hbw.size (by decide) rfl)
          have OA := hideK (own_keep0 hO2 ((Below.refl _ _).alloc (Nat.le_refl _) (.cells #[.int .i64 v.kind, .int .i64 v.so, .string v.name, .slice al2 v.labels.length cl2, .slice ak2 v.kids.length ck2, .slice x.2.2.2.2.1 x.2.2.2.1.length x.2.2.2.2.2] 54)));have HB7 := hideK (fun (w7 : World) (hg : (wr.alloc (.cells #[.int .i64 v.kind, .int .i64 v.so, .string v.name, .slice al2 v.labels.length cl2, .slice ak2 v.kids.length ck2, .slice x.2.2.2.2.1 x.2.2.2.1.length x.2.2.2.2.2] 54)).grownBy w7 u8.ownBlock) => (hb2.alloc hb2.size (.cells #[.int .i64 v.kind, .int .i64 v.so, .string v.name, .slice al2 v.labels.length cl2, .slice ak2 v.kids.length ck2, .slice x.2.2.2.2.1 x.2.2.2.1.length x.2.2.2.2.2] 54)).grown hg (hb2.alloc hb2.size (.cells #[.int .i64 v.kind, .int .i64 v.so, .string v.name, .slice al2 v.labels.length cl2, .slice ak2 v.kids.length ck2, .slice x.2.2.2.2.1 x.2.2.2.1.length x.2.2.2.2.2] 54)).size (fun k hk => (hO2.lt k hk).1))
          have HSZ := hideK (show w1.heap.size ≤ (wr.alloc (.cells #[.int .i64 v.kind, .int .i64 v.so, .string v.name, .slice al2 v.labels.length cl2, .slice ak2 v.kids.length ck2, .slice x.2.2.2.2.1 x.2.2.2.1.length x.2.2.2.2.2] 54)).heap.size from (hb2.alloc hb2.size _).size)
          clear hO2 hb2 hbw;go_wp2_with (at_builtin; refine wpList_append_rows _ rfl (.tmp 80) (.tmp 89) 55 rfl w1.heap.size w.heap.size 54 i1 _ 6 104 Tryz.underlying55 hj hy0 hy1 hy2 rfl (by decide) _ _ _ rfl OA.out _ _ _ rfl LR.out (by simp [Value.oneCell']) (by unfold maxLen; omega) (by omega) HSZ.out ?_; intro v7 w7 hO7 hg7 hat7; have HO7 := hideK hO7; have HB8 := hideK (HB7.out w7 hg7); clear hO7 hg7 hat7)
          go_roundw
          case rel => exact ⟨m + 1, ts2 ++ [(v, (al2, cl2), (ak2, ck2), x.2.2.2.1, x.2.2.2.2)], by omega, by go_num, by rw [wCs_app]; exact HO7.out, by rw [List.map_append]; exact HMP.out, HTN.out, HB8.out⟩
          case measure => simp [intOf]; omega
         ·have hltz : ¬ (m : Int) < (x.1.kids.length : Int) := by omega
          obtain rfl : m = x.1.kids.length := by omega
          have HS := hideK (show ∀ ad, some sa = some ad → ∀ j u, (wCs r)[j]? = some u → wr.cell? (ad.add j) = some u from fun ad had j u hj => by injection had with had; subst had; exact HSRC.out wr (HB1.out.trans (hb2.mono HB1.out.size)) j u hj)
          rw [List.take_length] at hmap;have HMP := hideK hmap;have O2 := hideK hO2;have HTE := hideK (fun (W : World) (hW : Below w1.heap.size w1 W) => (hT2.keep hW).app (HTW.out.keep hW))
          have HB7 := hideK (fun (w7 : World) (hg : wr.grownBy w7 u8.ownBlock) => hb2.grown hg hb2.size (fun k hk => (hO2.lt k hk).1))
          have hsz := hb2.size;have HL := hideK (show ts2.length = x.1.kids.length from by have := congrArg List.length hmap; simpa using this)
          clear hO2 hmap hT2 hb2;go_wp2_with (at_builtin; refine wpList_append_src _ rfl (.tmp 91) (.tmp 92) 55 rfl w1.heap.size 54 i1 _ 6 104 Tryz.underlying55 hj hy0 hy1 hy2 rfl (by decide) _ _ _ rfl O2.out (some sa) r.length sc (wCs r) rfl (wCs_len r) (fun e => by cases e) HS.out (wCs_one r) (by unfold maxLen; omega) (by omega) hsz ?_; intro v7 w7 hO7 hg7 hat7; have HO7 := hideK hO7; have HB8 := hideK (HB7.out w7 hg7); clear hO7 hg7 hat7)
          go_roundw
          case rel => exact ⟨k + 1, ts2 ++ r, by omega, by go_num, by rw [wCs_app, List.length_append, HL.out]; exact own_weak HO7.out HBW.out.size, HTE.out _ HB8.out, by rw [List.map_append, HMP.out]; exact HNX.out, by rw [List.length_append, HL.out]; omega, nl_app HMP.out HNLR.out (by omega), HBW.out.trans (HB8.out.mono HBW.out.size)⟩
          case measure => simp [intOf]; omega
end Go.Proofs.YtpamhimmdoimoaaGreatDoor
