/-
  The contracts of graph.areEqual and of graph.Equal: two graphs are one and the same.
-/
import Derived.Test.YtpamhimmdoimoaaGreatDoorSz
import Derived.Test.YtpamhimmdoimoaaGreatDoorHo
namespace Go.Proofs.YtpamhimmdoimoaaGreatDoor
open Go.RowKit Go.Shelf
def eqN (n m : Nd) : Bool := decide (n.kind = m.kind) && (decide (n.so = m.so) && (decide (n.labs = m.labs) && decide (n.to = m.to)))
theorem eqN_iff (n m : Nd) : eqN n m = true ↔ n = m := by
 unfold eqN;cases n
 cases m
 simp only [Bool.and_eq_true, decide_eq_true_eq, Nd.mk.injEq]
structure EB (w : World) (n m : Nd) (a1 a2 a3 a4 : OAd) (c1 c2 c3 c4 : Nat) (W : World) : Prop where
 x : NdAt W w.heap.size 0 n a1 c1 a2 c2
 y : NdAt W (w.heap.size + 1) 0 m a3 c3 a4 c4
 lt : w.heap.size + 1 < W.heap.size
 bl : Below w.heap.size w W
theorem EB.new (w : World) (n m : Nd) (a1 a2 a3 a4 : OAd) (c1 c2 c3 c4 : Nat) : EB w n m a1 a2 a3 a4 c1 c2 c3 c4 ((w.alloc (.cells #[.int .i64 n.kind, .int .i64 n.so, .slice a1 n.labs.length c1, .slice a2 n.to.length c2] 50)).alloc (.cells #[.int .i64 m.kind, .int .i64 m.so, .slice a3 m.labs.length c3, .slice a4 m.to.length c4] 50)) :=
 ⟨⟨by go_cell, by go_cell, by go_cell, by go_cell⟩, ⟨by go_cell, by go_cell, by go_cell, by go_cell⟩, by simp, by go_grown⟩
theorem EB.keep {w : World} {n m : Nd} {a1 a2 a3 a4 : OAd} {c1 c2 c3 c4 : Nat} {W W' : World} (h : EB w n m a1 a2 a3 a4 c1 c2 c3 c4 W) (hb : Below W.heap.size W W') : EB w n m a1 a2 a3 a4 c1 c2 c3 c4 W' :=
 ⟨h.x.keep hb (by have := h.lt; omega), h.y.keep hb h.lt, Nat.lt_of_lt_of_le h.lt hb.size, h.bl.trans (hb.mono h.bl.size)⟩
set_option maxRecDepth 100000 in
set_option maxHeartbeats 4000000 in
theorem areEqual_any (n m : Nd) (a1 a2 a3 a4 : OAd) (c1 c2 c3 c4 B : Nat) (w : World) (h1 : LA w B n.labs a1) (h2 : NI w B n.to a2) (h3 : LA w B m.labs a3) (h4 : NI w B m.to a4) (hB : B ≤ w.heap.size) (l1 : n.labs.length ≤ 1000) (l2 : n.to.length ≤ 1000) (l3 : m.labs.length ≤ 1000) (l4 : m.to.length ≤ 1000) :
  Calls Tryz.prog 22 #[ndVal n a1 c1 a2 c2, ndVal m a3 c3 a4 c4] w fun e w' => e = .returned (.bool (eqN n m)) ∧ Below w.heap.size w w' := by
 have cS := hideK (fun W (hb : Below w.heap.size w W) => eqStrs_any n.labs m.labs a1 a3 c1 c3 B W (h1.keep (hb.mono hB)) (h3.keep (hb.mono hB)) (Nat.le_trans hB hb.size) l1 l3)
 have cI := hideK (fun W (hb : Below w.heap.size w W) => eqInts_any n.to m.to a2 a4 c2 c4 B W (h2.keep (hb.mono hB)) (h4.keep (hb.mono hB)) (Nat.le_trans hB hb.size) l2 l4)
 have E0 := hideK (EB.new w n m a1 a2 a3 a4 c1 c2 c3 c4);obtain ⟨x0, x1, x2, x3⟩ := E0.out.x;obtain ⟨y0, y1, y2, y3⟩ := E0.out.y;simp only [Nat.zero_add] at x1 x2 x3 y1 y2 y3;simp only [ndVal];clear h1 h2 h3 h4;by_cases hk : n.kind = m.kind
 ·have hkb : (n.kind == m.kind) = true := by rw [hk]; simp
  by_cases hs : n.so = m.so
  ·have hsb : (n.so == m.so) = true := by rw [hs]; simp
   by_cases hl : n.labs = m.labs
   ·have HD := hideK (show eqN n m = decide (n.to = m.to) from by unfold eqN; simp [hk, hs, hl])
    have hlb : decide (n.labs = m.labs) = true := decide_eq_true hl;rw [hlb] at cS;clear hk hs hl hlb;go_enter Tryz.func22, Tryz.ntmps22
    go_wp2_with fail
    refine (cS.out _ E0.out.bl).mono ?_;rintro e w1 ⟨rfl, hb1⟩;have E1 := hideK (E0.out.keep hb1);obtain ⟨p0, p1, p2, p3⟩ := E1.out.x;obtain ⟨q0, q1, q2, q3⟩ := E1.out.y;simp only [Nat.zero_add] at p1 p2 p3 q1 q2 q3;clear x0 x1 x2 x3 y0 y1 y2 y3 hb1;go_wp2_with fail
    refine (cI.out _ E1.out.bl).mono ?_;rintro e w2 ⟨rfl, hb2⟩;have HB := hideK (E1.out.keep hb2).bl;clear p0 p1 p2 p3 q0 q1 q2 q3 hb2;go_wp2_with fail
    go_ret
    exact ⟨by rw [HD.out]; rfl, HB.out⟩
   ·have HD := hideK (show eqN n m = false from by unfold eqN; simp [hl])
    have hlb : decide (n.labs = m.labs) = false := decide_eq_false hl;rw [hlb] at cS;clear hk hs hl hlb;go_enter Tryz.func22, Tryz.ntmps22
    go_wp2_with fail
    refine (cS.out _ E0.out.bl).mono ?_;rintro e w1 ⟨rfl, hb1⟩;have HB := hideK (E0.out.keep hb1).bl;clear x0 x1 x2 x3 y0 y1 y2 y3 hb1;go_wp2_with fail
    go_ret
    exact ⟨by rw [HD.out]; rfl, HB.out⟩
  ·have hsb : (n.so == m.so) = false := by simpa using hs
   have HD := hideK (show eqN n m = false from by unfold eqN; simp [hs])
   have HB := hideK E0.out.bl;clear hk hs;go_enter Tryz.func22, Tryz.ntmps22
   go_wp2_with fail
   go_ret
   exact ⟨by rw [HD.out]; rfl, HB.out⟩
 ·have hkb : (n.kind == m.kind) = false := by simpa using hk
  have HD := hideK (show eqN n m = false from by unfold eqN; simp [hk])
  have HB := hideK E0.out.bl;clear hk;go_enter Tryz.func22, Tryz.ntmps22
  go_wp2_with fail
  go_ret
  exact ⟨by rw [HD.out]; rfl, HB.out⟩
def eqG : List Nd → List Nd → Bool
 | [], [] => true
 | n :: g, m :: h => eqN n m && eqG g h
 | _, _ => false
theorem eqG_iff : ∀ g h : List Nd, eqG g h = true ↔ g = h
 | [], [] => by simp [eqG]
 | [], _ :: _ => by simp [eqG]
 | _ :: _, [] => by simp [eqG]
 | n :: g, m :: h => by
  rw [eqG, Bool.and_eq_true, eqN_iff, eqG_iff g h, List.cons.injEq]
set_option maxRecDepth 100000 in
set_option maxHeartbeats 4000000 in
theorem equalG_any (g h : List Nd) (ag ah : OAd) (cg ch B : Nat) (w : World) (hg : GAt w B g ag) (hh : GAt w B h ah) (hB : B ≤ w.heap.size) (hl : g.length ≤ 1000) (hl2 : h.length ≤ 1000) (sg : ∀ n ∈ g, n.labs.length ≤ 1000 ∧ n.to.length ≤ 1000) (sh : ∀ n ∈ h, n.labs.length ≤ 1000 ∧ n.to.length ≤ 1000) :
  Calls Tryz.prog 21 #[.slice ag g.length cg, .slice ah h.length ch, .func (.func 22) #[] #[]] w fun e w' => e = .returned (.bool (eqG g h)) ∧ Below w.heap.size w w' := by
 have hbd : (g.length : Int) ≤ 1000 := by omega
 have hbd2 : (h.length : Int) ≤ 1000 := by omega
 by_cases hlen : g.length = h.length
 ·have heq : ((g.length : Int) == (h.length : Int)) = true := by rw [hlen]; simp
  have hne : ((g.length : Int) != (h.length : Int)) = false := by rw [hlen]; simp
  have HLEN := hideK hlen;clear hlen;go_enter Tryz.func21, Tryz.ntmps21
  go_wp2_with fail
  go_loopw [17] (fun i wr => ∃ k : Nat, k ≤ g.length ∧ i = .int .i64 (k : Int) ∧ g.take k = h.take k ∧ Below w.heap.size w wr) (fun i _ => g.length - (intOf i).toNat)
  case atStart => exact ⟨0, Nat.zero_le _, rfl, rfl, Below.refl _ _⟩
  case round =>
   obtain ⟨k, hk, rfl, hpre, hb⟩ := hrel;by_cases hlt : k < g.length
   ·have hltz : (k : Int) < (g.length : Int) := by omega
    have hlt2 : k < h.length := by have := HLEN.out; omega
    have hltz2 : (k : Int) < (h.length : Int) := by omega
    obtain ⟨b1, o1, rfl, l1, f1⟩ := hg.resolve_left (fun q => by rw [q] at hlt; simp at hlt)
    obtain ⟨b2, o2, rfl, l2, f2⟩ := hh.resolve_left (fun q => by rw [q] at hlt2; simp at hlt2)
    obtain ⟨a1, c1, a2, c2, n1, n2, n3⟩ := f1 k hlt;obtain ⟨a3, c3, a4, c4, m1, m2, m3⟩ := f2 k hlt2;have hbB := hb.mono hB;obtain ⟨x0, x1, x2, x3⟩ := n1.keep hbB l1;obtain ⟨y0, y1, y2, y3⟩ := m1.keep hbB l2;have CA := hideK (fun W (hW : Below wr.heap.size wr W) => areEqual_any g[k] h[k] a1 a2 a3 a4 c1 c2 c3 c4 B W ((n2.keep hbB).keep (hW.mono (by have := hb.size; omega))) ((n3.keep hbB).keep (hW.mono (by have := hb.size; omega))) ((m2.keep hbB).keep (hW.mono (by have := hb.size; omega))) ((m3.keep hbB).keep (hW.mono (by have := hb.size; omega))) (by have := hb.size; have := hW.size; omega) (sg _ (List.getElem_mem hlt)).1 (sg _ (List.getElem_mem hlt)).2 (sh _ (List.getElem_mem hlt2)).1 (sh _ (List.getElem_mem hlt2)).2)
    have HB := hideK hb;have HP := hideK (show g.take (k + 1) = g.take k ++ [g[k]] from List.take_succ_eq_append_getElem hlt)
    have HP2 := hideK (show h.take (k + 1) = h.take k ++ [h[k]] from List.take_succ_eq_append_getElem hlt2)
    have HPR := hideK hpre;have HEX := hideK (eqN_iff g[k] h[k]);have HNE := hideK (show ¬ g[k] = h[k] → eqG g h = false from fun q => by rw [Bool.eq_false_iff]; intro c; have e := (eqG_iff g h).1 c; subst e; exact q rfl)
    clear f1 f2 n1 n2 n3 m1 m2 m3 hbB hpre;generalize g[k] = n at *;generalize h[k] = m at *;have E0 := hideK (EB.new wr n m a1 a2 a3 a4 c1 c2 c3 c4);simp only [ndVal] at CA;have hb2l : b2 < wr.heap.size := by have := HB.out.size; omega
    have hal : ∀ o, (wr.alloc (.cells #[.int .i64 n.kind, .int .i64 n.so, .slice a1 n.labs.length c1, .slice a2 n.to.length c2] 50)).cell? ⟨b2, o, none⟩ = wr.cell? ⟨b2, o, none⟩ := fun o => World.cell?_of_block (a := ⟨b2, o, none⟩) (heap_alloc_old wr _ hb2l)
    have z0 := (hal _).trans y0;have z1 := (hal _).trans y1;have z2 := (hal _).trans y2;have z3 := (hal _).trans y3;clear hal;cases hq : eqN n m with
    | true =>
     rw [hq] at CA HEX;have HE := hideK (HEX.out.1 rfl);clear hq HEX HNE hb;go_wp2_with fail
     refine (CA.out _ E0.out.bl).mono ?_;rintro e w1 ⟨rfl, hb1⟩;have HB1 := hideK ((HB.out.trans (E0.out.bl.mono HB.out.size)).trans (hb1.mono (by have := HB.out.size; have := E0.out.lt; omega)))
     clear hb1 x0 x1 x2 x3 y0 y1 y2 y3 z0 z1 z2 z3;go_wp2_with fail
     go_roundw
     case rel => exact ⟨k + 1, by omega, by go_num, by rw [HP.out, HP2.out, HPR.out, HE.out], HB1.out⟩
     case measure => simp [intOf]; omega
    | false =>
     rw [hq] at CA HEX;have HE := hideK (HNE.out (fun c => by have := HEX.out.2 c; cases this))
     clear hq HEX HNE hb;go_wp2_with fail
     refine (CA.out _ E0.out.bl).mono ?_;rintro e w1 ⟨rfl, hb1⟩;have HB1 := hideK ((HB.out.trans (E0.out.bl.mono HB.out.size)).trans (hb1.mono (by have := HB.out.size; have := E0.out.lt; omega)))
     clear hb1 x0 x1 x2 x3 y0 y1 y2 y3 z0 z1 z2 z3;go_wp2_with fail
     go_ret
     exact ⟨by rw [HE.out]; rfl, HB1.out⟩
   ·have hltz : ¬ (k : Int) < (g.length : Int) := by omega
    have hkl : k = g.length := by omega
    subst hkl;have hxy : g = h := by rw [List.take_length, HLEN.out, List.take_length] at hpre; exact hpre
    have HD := hideK ((eqG_iff g h).2 hxy);clear hxy hpre;go_wp2_with fail
    go_ret
    exact ⟨by rw [HD.out]; rfl, hb⟩
 ·have hne : ((g.length : Int) != (h.length : Int)) = true := by simpa using fun q : (g.length : Int) = (h.length : Int) => hlen (by omega)
  have heq : ((g.length : Int) == (h.length : Int)) = false := by simpa using fun q : (g.length : Int) = (h.length : Int) => hlen (by omega)
  have HD := hideK (show eqG g h = false from by rw [Bool.eq_false_iff]; intro c; exact hlen (by rw [(eqG_iff g h).1 c]))
  clear hlen;go_enter Tryz.func21, Tryz.ntmps21
  go_wp2_with fail
  go_ret
  exact ⟨by rw [HD.out]; rfl, Below.refl _ _⟩
theorem graphEqual_any (g h : List Nd) (ag ah : OAd) (cg ch B : Nat) (w : World) (hg : GAt w B g ag) (hh : GAt w B h ah) (hB : B ≤ w.heap.size) (hl : g.length ≤ 1000) (hl2 : h.length ≤ 1000) (sg : ∀ n ∈ g, n.labs.length ≤ 1000 ∧ n.to.length ≤ 1000) (sh : ∀ n ∈ h, n.labs.length ≤ 1000 ∧ n.to.length ≤ 1000) :
  Calls Tryz.prog 11 #[.slice ag g.length cg, .slice ah h.length ch] w fun e w' => e = .returned (.bool (eqG g h)) ∧ Below w.heap.size w w' := by
 have c := equalG_any g h ag ah cg ch B w hg hh hB hl hl2 sg sh;go_enter Tryz.func11, Tryz.ntmps11
 go_wp2_with fail
 refine c.mono ?_;rintro e w1 ⟨rfl, hb1⟩;go_wp2_with fail
 go_ret
 exact ⟨rfl, hb1⟩
end Go.Proofs.YtpamhimmdoimoaaGreatDoor
namespace Go.Proofs.YtpamhimmdoimoaaGreatDoor
open Go.RowKit Go.Shelf
theorem infoMe : (Tryz.prog.info? 109).map (fun i => (i.zero, i.size, i.bytes)) = some (some (.agg #[.string ⟨#[]⟩, .int .i64 0]), 2, 24) := by kernel_rfl
def mCs (ar : Ar) : List Value := ar.flatMap fun p => [Value.string p.1, .int .i64 (p.2 : Int)]
theorem mCs_len (ar : Ar) : (mCs ar).length = ar.length * 2 := by
 induction ar with
 | nil => rfl
 | cons p ar ih =>
  have e : mCs (p :: ar) = [Value.string p.1, .int .i64 (p.2 : Int)] ++ mCs ar := rfl;rw [e, List.length_append, ih];simp
  omega
theorem mCs_at : ∀ (ar : Ar) (i : Nat) (h : i < ar.length), (mCs ar)[i * 2]? = some (.string ar[i].1) ∧ (mCs ar)[i * 2 + 1]? = some (.int .i64 (ar[i].2 : Int))
 | [], i, h => by simp at h
 | p :: ar, 0, _ => ⟨rfl, rfl⟩
 | p :: ar, i + 1, h => by
  have e : mCs (p :: ar) = [Value.string p.1, .int .i64 (p.2 : Int)] ++ mCs ar := rfl;have ih := mCs_at ar i (by simpa using h)
  have h2 : ∀ j, ([Value.string p.1, .int .i64 (p.2 : Int)] ++ mCs ar)[j + 2]? = (mCs ar)[j]? := fun j => by rw [List.getElem?_append_right (by simp)]; rfl
  rw [e, show (i + 1) * 2 = i * 2 + 2 by omega, h2, show i * 2 + 2 + 1 = (i * 2 + 1) + 2 by omega, h2]
  exact ⟨ih.1, ih.2⟩
theorem mCs_snoc (ar : Ar) (p : ByteArray × Nat) : mCs (ar ++ [p]) = mCs ar ++ [.string p.1, .int .i64 (p.2 : Int)] := by simp [mCs]
theorem mCs_of {W : World} {b o : Nat} {ar : Ar} (hc : ∀ i (h : i < ar.length), W.cell? ⟨b, o + i * 2, none⟩ = some (.string ar[i].1) ∧ W.cell? ⟨b, o + i * 2 + 1, none⟩ = some (.int .i64 (ar[i].2 : Int))) : ∀ j v, (mCs ar)[j]? = some v → W.cell? ⟨b, o + j, none⟩ = some v := by
 intro j v hj;have hl : j < ar.length * 2 := by
  rw [← mCs_len];exact (List.getElem?_eq_some_iff.1 hj).1
 obtain ⟨h0, h1⟩ := mCs_at ar (j / 2) (by omega)
 obtain ⟨q0, q1⟩ := hc (j / 2) (by omega)
 rcases Nat.mod_two_eq_zero_or_one j with hm | hm
 ·have e : j = j / 2 * 2 := by omega
  rw [e] at hj ⊢;rw [h0] at hj;rw [q0]; exact hj
 ·have e : j = j / 2 * 2 + 1 := by omega
  rw [e] at hj ⊢;rw [h1] at hj;rw [← Nat.add_assoc, q1]; exact hj
theorem run_append_m (w : World) (ty : TypeId) (ar : Ar) (aa : OAd) (pg : Nat) (row : Option Nat) (nm : ByteArray) (z g c : Nat) (h : MR w pg row ar aa ar.length) (hl : ar.length ≤ 1000) (hg0 : w.cell? ⟨g, 0, none⟩ = some (.string nm)) (hg1 : w.cell? ⟨g, 1, none⟩ = some (.int .i64 (z : Int))) (hpg : pg < w.heap.size) (hrow : ∀ k, row = some k → k < w.heap.size) :
  ∃ aa' ca' w', (Builtin.append_ #[105, 105] ty #[.slice aa ar.length ar.length, .slice (some ⟨g, 0, none⟩) 1 c]).run Tryz.prog w = .ok (.slice aa' (ar.length + 1) ca') w' ∧ MR w' pg row (ar ++ [(nm, z)]) aa' ca' ∧ Below w.heap.size w w' := by
 obtain ⟨i, hi, hz0, hz1, hz2⟩ := info_parts infoMe;have hnews : ∀ j v, [Value.string nm, .int .i64 (z : Int)][j]? = some v → w.cell? ((⟨g, 0, none⟩ : Addr).add j) = some v := by
  intro j v hj;match j, hj with
  | 0, hj => simp at hj; subst hj; rw [addj0]; exact hg0
  | 1, hj => simp at hj; subst hj; rw [addj0]; exact hg1
  | j + 2, hj => simp at hj
 have hfin : ∀ (cap : Nat) (cs : List Value) (rest : Array Value), cs = mCs (ar ++ [(nm, z)]) → ar.length + 1 ≤ cap → MR (w.drew.alloc (.cells (cs.toArray ++ rest) 109)) pg row (ar ++ [(nm, z)]) (some ⟨w.heap.size, 0, none⟩) cap := by
  intro cap cs rest hcs hcap;have hcell : ∀ j v, (mCs (ar ++ [(nm, z)]))[j]? = some v → (w.drew.alloc (.cells (cs.toArray ++ rest) 109)).cell? ⟨w.heap.size, j, none⟩ = some v := by
   intro j v hj;have e1 : (w.drew.alloc (.cells (cs.toArray ++ rest) 109)).cell? ⟨w.heap.size, j, none⟩ = (cs.toArray ++ rest)[j]? := World.cell?_alloc_at _ _ _ _ rfl;have hjl := (List.getElem?_eq_some_iff.1 hj).1;rw [e1, Array.getElem?_append_left (by simp [hcs]; exact hjl)]
   simp only [List.getElem?_toArray];rw [hcs]; exact hj
  refine .inr ⟨by simpa using hcap, w.heap.size, 0, rfl, by simp, by omega, fun e => by have := hrow _ e; omega, fun k hk => ?_⟩
  obtain ⟨h0, h1⟩ := mCs_at (ar ++ [(nm, z)]) k hk;rw [Nat.zero_add];exact ⟨hcell _ _ h0, hcell _ _ h1⟩
 rcases h with ⟨rfl, rfl, _⟩ | ⟨_, b, o, rfl, _, _, _, hc⟩
 ·have hr := run_append_nil (P := Tryz.prog) w 105 ty 109 i _ Tryz.underlying105 hi hz0 ⟨g, 0, none⟩ 1 c [.string nm, .int .i64 (z : Int)] (by rw [hz1]; rfl) hnews (by omega) (by omega) (by rw [hz2]; omega)
  refine ⟨_, _, _, hr, ?_, ((Below.refl _ _).drew).alloc (by simp) _⟩
  exact hfin _ [.string nm, .int .i64 (z : Int)] _ rfl (grownCap_ge _ _ _ _)
 ·have hr := run_append_grow (P := Tryz.prog) w 105 ty 109 i _ Tryz.underlying105 hi hz0 ⟨b, o, none⟩ ar.length ar.length (mCs ar) (by rw [hz1]; exact mCs_len ar) (fun j v hj => by rw [addjo]; exact mCs_of hc j v hj) ⟨g, 0, none⟩ 1 c [.string nm, .int .i64 (z : Int)] (by rw [hz1]; rfl) hnews (by omega) (by omega) (growslice_fits (by omega) (by rw [hz2]; omega))
  refine ⟨_, _, _, hr, ?_, ((Below.refl _ _).drew).alloc (by simp) _⟩
  have := hfin (grownCap w (ar.length + 1) ar.length 109) (mCs (ar ++ [(nm, z)])) (Builtin.zeroCells (Value.agg #[.string ⟨#[]⟩, .int .i64 0]).cells (grownCap w (ar.length + 1) ar.length 109 - (ar.length + 1))) rfl (grownCap_ge _ _ _ _);rw [mCs_snoc] at this;simpa using this
theorem step_append_m (w : World) {ops : Array Oper} {o : Oper} {a : Act} {K : Act → World → Prop} {Q : Exit → Act → World → Prop} {E : Prop} (hgd : o.guard = none) (s x : Operand)
  (ho : o.op = .call { callee := .builtin .append, args := #[s, x], argTypes := #[105, 105] })
  (ar : Ar) (aa : OAd) (pg : Nat) (row : Option Nat) (nm : ByteArray) (z g c : Nat) (hs : a.eval s = .slice aa ar.length ar.length) (hx : a.eval x = .slice (some ⟨g, 0, none⟩) 1 c)
  (h : MR w pg row ar aa ar.length) (hl : ar.length ≤ 1000) (hg0 : w.cell? ⟨g, 0, none⟩ = some (.string nm)) (hg1 : w.cell? ⟨g, 1, none⟩ = some (.int .i64 (z : Int))) (hpg : pg < w.heap.size) (hrow : ∀ k, row = some k → k < w.heap.size)
  (hK : ∀ aa' ca' w', MR w' pg row (ar ++ [(nm, z)]) aa' ca' → Below w.heap.size w w' → K (a.put o.dst (.slice aa' (ar.length + 1) ca')) w') :
  if Region.wanted o (yielded ops a.tmps) = true then Oper.wp Tryz.prog o a w K Q else E := by
 have hw : Region.wanted o (yielded ops a.tmps) = true := by simp [Region.wanted, hgd]
 rw [if_pos hw];obtain ⟨aa', ca', w', hr, h2, h3⟩ := run_append_m w o.type ar aa pg row nm z g c h hl hg0 hg1 hpg hrow;unfold Oper.wp execOp;simp only [ho, resolve, invoke, builtin, Sem.run_bind, Sem.run_pure, Result.andThen_ok, List.map_toArray, List.map_cons, List.map_nil, hs, hx, hr];exact hK aa' ca' w' h2 h3
structure PG (W : World) (pg : Nat) (u : Value) (toks : List TkN) : Prop where
 c : W.cell? ⟨pg, 0, none⟩ = some u
 f : W.frozen? ⟨pg, 0, none⟩ = false
 own : W.ownsRow (pg + 1) 50 4 u toks.length (ndCs toks)
 lt : pg < W.heap.size
theorem PG.keep {W W' : World} {pg : Nat} {u : Value} {toks : List TkN} (h : PG W pg u toks) (hb : Below W.heap.size W W') : PG W' pg u toks :=
 ⟨(hb.cell (p := ⟨pg, 0, none⟩) h.lt).trans h.c, (hb.frozen (p := ⟨pg, 0, none⟩) h.lt).trans h.f, own_belowG h.own hb, Nat.lt_of_lt_of_le h.lt hb.size⟩
def TKL (W : World) (B : Nat) (P : Nat → Prop) (ts : List TkN) : Prop := ∀ t ∈ ts, LA W B t.1.labs t.2.1.1 ∧ NP W P (t.1.to.map fun t : Nat => Value.int .i64 (t : Int)) t.2.2.1
theorem TKL.keep {W W' : World} {B : Nat} {P Q : Nat → Prop} {ts : List TkN} (hb : Below B W W') (hc : ∀ b o, P b → W'.cell? ⟨b, o, none⟩ = W.cell? ⟨b, o, none⟩) (hq : ∀ b, P b → Q b) (h : TKL W B P ts) : TKL W' B Q ts := fun t ht => ⟨(h t ht).1.keep hb, (h t ht).2.keep hc hq⟩
def LYPost (t : Ty) (ar : Ar) (pg : Nat) (u : Value) (toks : List TkN) (B : Nat) (w : World) (e : Ending) (w' : World) : Prop :=
 e = .returned (.int .i64 ((layP t ar toks.length).1 : Int)) ∧ ∃ (new : List TkN) (u' : Value), new.map (·.1) = (layP t ar toks.length).2 ∧ PG w' pg u' (toks ++ new) ∧ TKL w' B (fun b => w.heap.size ≤ b ∧ b < w'.heap.size ∧ u'.ownBlock ≠ some b) new ∧ RF pg pg u.ownBlock w w' ∧ (u'.ownBlock = u.ownBlock ∨ ∀ k, u'.ownBlock = some k → w.heap.size ≤ k)
def LYSaid (d : Nat) : Prop := ∀ (t : Ty) (al : OAd) (cl : Nat) (ak : OAd) (ck : Nat) (ar : Ar) (aa : OAd) (ca pg : Nat) (u : Value) (toks : List TkN) (B : Nat) (w : World),
 TyBd t cl ck → LA w B t.labels al → KT w B d t.kids ak → wfT t → MR w pg u.ownBlock ar aa ca → PG w pg u toks → B ≤ pg → sizeT t + toks.length ≤ 900 → ar.length + sizeT t ≤ 900 →
 Calls Tryz.prog 44 #[.pointer (some ⟨pg, 0, none⟩), tyVal t al cl ak ck, .slice aa ar.length ca] w (LYPost t ar pg u toks B w)
end Go.Proofs.YtpamhimmdoimoaaGreatDoor
