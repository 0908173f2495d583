/-
  The law ExprsMakes, for every expression of at most 1048576 parts, every list of names with values, every name and every value.
-/
import Derived.Test.YtecapnipkngniaaGreatDoorDn
import Derived.Test.YtecapnipkngniaaGreatDoorXv
import Derived.Test.YtecapnipkngniaaGreatDoorDj
import Derived.Test.YtecapnipkngniaaGreatDoorDk
import Derived.Test.YtecapnipkngniaaGreatDoorCy
import Derived.Test.YtecapnipkngniaaGreatDoorPe
import Derived.Test.YtecapnipkngniaaGreatDoorYa
import Derived.Test.YtecapnipkngniaaGreatDoorXk
import Derived.Test.YtecapnipkngniaaGreatDoorLr
import Derived.Deep.Slices
import Derived.OpenShut
namespace Go.Proofs.YtecapnipkngniaaGreatDoor
open Go.RowKit Go.Shelf Go.Sort

theorem evl_zeroQ (x : Ex) (bs : List (ByteArray × Vl)) (h : (evlR x bs).2 ≠ 0) : (evlR x bs).1 = ⟨0, 0, ⟨#[]⟩⟩ := by
  unfold evlR at h ⊢
  by_cases h1 : chkX x ≠ 0
  · rw [if_pos h1]
  rw [if_neg h1] at h ⊢
  by_cases h2 : badL bs ≠ 0
  · rw [if_pos h2]
  rw [if_neg h2] at h ⊢
  by_cases h3 : (sortX (lookS (bs.map (·.1)) (bs.map (·.2.so))) x).2 ≠ 0
  · rw [if_pos h3]
  rw [if_neg h3] at h
  exact absurd rfl h
theorem makesLaw_any (d : Nat) (x : Ex) (ao : Option Addr) (cap : Nat) (bs : List (ByteArray × Vl)) (ae : Option Addr) (ce : Nat) (nm : ByteArray) (v : Vl) (w : World) (hbd : ExBd x cap) (hka : KA w w.heap.size d x.kids ao) (hsz : sizeX x ≤ 1048576)
    (henv : EnvAt w w.heap.size bs ae) (hlen : bs.length ≤ 2932031007402) (hss : ∀ p ∈ bs, p.2.s.size ≤ 9223372036854775807 ∧ in64 p.2.n) (hn : in64 v.n) (hvs : v.s.size ≤ 9223372036854775807) (h0 : Tabs w) :
    Calls Tryz.prog 3 #[exVal x ao cap, .slice ae bs.length ce, .string nm, vlV v] w fun e w' => e = .returned (.bool true) ∧ Below w.heap.size w w' := by
  have kaW : ∀ W, Below w.heap.size w W → KA W W.heap.size d x.kids ao := fun W hb => ka_up hka hb
  have enW : ∀ W, Below w.heap.size w W → EnvAt W W.heap.size bs ae := fun W hb => (henv.keep hb).mono hb.size
  have cR : CQ 4 #[exVal x ao cap] w (.int .i64 (chkX x)) := fun W hb => refExpr_any d x ao cap W hbd (kaW W hb) hsz (at_tabs h0 hb)
  have cE : CQ 5 #[exVal x ao cap, .slice ae bs.length ce] w (.tuple #[vlV (evlR x bs).1, .int .i64 (evlR x bs).2]) := fun W hb => eval_any (AT w) w.heap.size (at_v h0) at_k at_k2 at_0 cSaid d x ao cap bs ae ce W hbd (kaW W hb) (enW W hb) hlen (fun p hp => (hss p hp).1) hb
  have cF : CQ 6 #[exVal x ao cap, .slice ae bs.length ce] w (.tuple #[vlV (evlR x bs).1, .int .i64 (evlR x bs).2]) := fun W hb => refEval_any d x ao cap bs ae ce W hbd (kaW W hb) hsz (inZ_of d x ao cap hbd hka) (enW W hb) hlen (fun p hp => (hss p hp).2) (at_tabs h0 hb)
  have her := evl_zeroQ x bs
  by_cases hz : chkX x = 0
  · obtain ⟨hw, h60⟩ := (chkX_iff x).1 hz
    rw [hz] at cR
    have cV : CQ 8 #[vlV v] w (.int .i64 (chkZ vD v.so v.n v.s)) := fun W hb => refValue_any v.so v.n v.s W (at_tabs h0 hb)
    have cA := fun W (hb : Below w.heap.size w W) => placed_all nm v hvs hn d x ao cap w.heap.size W hw hbd (hka.keep hb) hb.size
    have cB := fun W (hb : Below w.heap.size w W) => folded_allQ d x ao cap w.heap.size W hw hbd (hka.keep hb) hb.size (at_tabs h0 hb)
    have el := names_str (srtN (nmsX x))
    have ell : ((srtN (nmsX x)).map fun s => (⟨s.toArray⟩ : ByteArray)).length = (srtN (nmsX x)).length := List.length_map _
    have cC := fun W (hb : Below w.heap.size w W) => namesR_all d x ao cap w.heap.size W hw h60 hbd (hka.keep hb) hb.size
    have cN := fun W (hb : Below w.heap.size w W) => names_good (AT w) w.heap.size (at_v h0) at_k at_k2 at_0 d x ao cap W hbd (kaW W hb) hb hz
    rw [← el, ← ell] at cC cN
    have cG := fun W (hb : Below w.heap.size w W) => fold_good (AT w) w.heap.size (at_v h0) at_k at_k2 at_0 cSaid d x ao cap W hbd (kaW W hb) hb hz
    have hnl : ((srtN (nmsX x)).map fun s => (⟨s.toArray⟩ : ByteArray)).length ≤ 9223372036854775806 := by
      rw [ell]
      have h1 := srtN_len (nmsX x)
      have h2 := nms_len x
      omega
    by_cases hv : chkZ vD v.so v.n v.s = 0
    · have cP := fun W (hb : Below w.heap.size w W) => put_good (AT w) w.heap.size (at_v h0) at_k at_k2 at_0 d x ao cap nm v W hbd (kaW W hb) hb hz hv ⟨hn.1, hn.2, by have := chk_size _ _ _ hv; omega⟩
      exact makes_good d x (putX nm v x) (foldX x) _ ao ae cap bs.length ce nm v _ _ _ w hnl hv her cR cE cF cV cA cB cC cP cN cG
    · have cP : CQ 12 #[exVal x ao cap, .string nm, vlV v] w _ := fun W (hb : Below w.heap.size w W) => put_bad2Q (AT w) w.heap.size (at_v h0) at_k at_k2 at_0 d x ao cap nm v W hbd (kaW W hb) hb hz hvs hv
      exact makes_wrong d x (putX nm v x) (foldX x) _ ao ae cap bs.length ce nm v _ _ _ w hnl hv her cR cE cF cV cA cB cC cP cN cG
  · have cP : CQ 12 #[exVal x ao cap, .string nm, vlV v] w _ := fun W (hb : Below w.heap.size w W) => put_bad1Q (AT w) w.heap.size (at_v h0) at_k at_k2 at_0 d x ao cap nm v W hbd (kaW W hb) hb hz
    have cN : CQ 13 #[exVal x ao cap] w _ := fun W (hb : Below w.heap.size w W) => names_bad (AT w) w.heap.size (at_v h0) at_k at_k2 at_0 d x ao cap W hbd (kaW W hb) hb hz
    have cG : CQ 14 #[exVal x ao cap] w _ := fun W (hb : Below w.heap.size w W) => fold_bad (AT w) w.heap.size (at_v h0) at_k at_k2 at_0 d x ao cap W hbd (kaW W hb) hb hz
    exact makes_bad x ao ae cap bs.length ce nm v _ _ _ w hz her cR cE cF cP cN cG
end Go.Proofs.YtecapnipkngniaaGreatDoor
/-
  How an environment is read as data.
-/
namespace Go.Proofs.YtecapnipkngniaaGreatDoor
open Go.RowKit Go.Deep Go.Joins Go.ChangeShapes Go.WideShapes

section
variable {H : Type} {enc : TypeId × Value → H} {W : World} {base : Nat} {spare : Nat → Bool} {held : Bool}
theorem cellsBd : Tryz.prog.cellsOf 50 = 4 := by kernel_rfl
set_option maxRecDepth 100000 in
theorem openBind (fuel : Nat) (cs : List Value) (y : DataW H × List MemPlace) (h : DataW.trod enc Tryz.prog W base spare held fuel 50 cs = some y) :
    ∃ p : ByteArray × Vl, cs = [.string p.1, .int .i64 p.2.so, .int .i64 p.2.n, .string p.2.s] ∧ p.2.s.size ≤ 9223372036854775807 := by
  obtain ⟨xs, n, rfl, hy, hlen, hxs, hf⟩ := DataW.trod_struct Tryz.underlying50 h
  have h0 : DataW.trod enc Tryz.prog W base spare held n 9 (List.take 1 (List.drop 0 cs)) = xs[0]? := hf 0 _ rfl
  have h2 : DataW.trod enc Tryz.prog W base spare held n 23 (List.take 3 (List.drop 1 cs)) = xs[1]? := hf 1 _ rfl
  clear hf hy
  rw [cellsBd] at hlen
  match cs, hlen with
  | [a0, a2, a3, a4], _ =>
  match xs, hxs with
  | [x0, x1], _ =>
  simp at h0 h2
  obtain ⟨nm, e1, _, _⟩ := DataW.trod_string Tryz.underlying9 h0
  obtain ⟨ys, m, rfl, _, _, hys, hg⟩ := DataW.trod_struct Tryz.underlying23 h2
  have g0 : DataW.trod enc Tryz.prog W base spare held m 3 (List.take 1 (List.drop 0 [a2, a3, a4])) = ys[0]? := hg 0 _ rfl
  have g1 : DataW.trod enc Tryz.prog W base spare held m 2 (List.take 1 (List.drop 1 [a2, a3, a4])) = ys[1]? := hg 1 _ rfl
  have g2 : DataW.trod enc Tryz.prog W base spare held m 9 (List.take 1 (List.drop 2 [a2, a3, a4])) = ys[2]? := hg 2 _ rfl
  match ys, hys with
  | [y0, y1, y2], _ =>
  simp at g0 g1 g2
  obtain ⟨so, e2, _, _⟩ := DataW.trod_int Tryz.underlying3 g0
  obtain ⟨nn, e3, _, _⟩ := DataW.trod_int Tryz.underlying2 g1
  obtain ⟨s, e4, _, ws⟩ := DataW.trod_string Tryz.underlying9 g2
  simp at e1 e2 e3 e4
  subst e1 e2 e3 e4
  unfold maxLen at ws
  exact ⟨(nm, ⟨so, nn, s⟩), rfl, ws⟩

set_option maxRecDepth 100000 in
/-- an environment that is handed in -/
theorem openEnv {r : Reach} {b0 : Nat} {v : Value} {d : DataW H} {p : List MemPlace} (hv : Value.okWide Tryz.prog W r b0 27 v) (h : DataW.Trod enc Tryz.prog W base spare held 27 v d p) :
    ∃ (bs : List (ByteArray × Vl)) (ae : Option Addr) (ce : Nat), v = .slice ae bs.length ce ∧ (bs.length ≤ 9223372036854775806 → EnvAt W W.heap.size bs ae) ∧ (∀ q ∈ bs, q.2.s.size ≤ 9223372036854775807) ∧ (bs = [] ∨ ∃ elems rest, d = .slice elems rest ∧ elems.length = bs.length) := by
  obtain ⟨a0, len, cap, rfl⟩ := okWide_slice Tryz.underlying27 hv
  obtain ⟨fuel, hf⟩ := h
  rcases DataW.trod_slice Tryz.underlying27 hf with ⟨e5, _⟩ | ⟨a, len', cap', elems, rest, k, hk, e5, hx, hb, hlc, hcm, hle, hel, _, _⟩
  · simp [Value.cells] at e5
    obtain ⟨rfl, rfl, rfl⟩ := e5
    exact ⟨[], none, 0, rfl, fun _ => ⟨by simp, .inl rfl⟩, fun q hq => (by cases hq), .inl rfl⟩
  · simp [Value.cells] at e5
    obtain ⟨rfl, rfl, rfl⟩ := e5
    rw [cellsBd] at hel
    have hall : ∀ i, i < len → ∃ p : ByteArray × Vl, W.cells? base (a.add (i * 4)) 4 = some [.string p.1, .int .i64 p.2.so, .int .i64 p.2.n, .string p.2.s] ∧ p.2.s.size ≤ 9223372036854775807 := by
      intro i hi
      have q := hel i hi
      rw [List.getElem?_eq_getElem (by omega)] at q
      obtain ⟨cs', q1, q2⟩ := Option.bind_eq_some_iff.1 q
      obtain ⟨p, rfl, hs⟩ := openBind k cs' _ q2
      exact ⟨p, q1, hs⟩
    haveI : Inhabited (ByteArray × Vl) := ⟨(⟨#[]⟩, ⟨0, 0, ⟨#[]⟩⟩)⟩
    obtain ⟨f, hf⟩ := choose_lt hall
    refine ⟨(List.range len).map f, some a, cap, by simp, fun hbd => ⟨hbd, ?_⟩, ?_, ?_⟩
    · by_cases hl0 : len = 0
      · exact .inl (by simp [hl0])
      · obtain ⟨q1, _⟩ := hf 0 (by omega)
        have q2 := (World.cells?_some q1).2.2 0 (by omega)
        obtain ⟨b, o, spot⟩ := a
        have hsp : spot = none := by simpa [Addr.add] using World.cell?_spot q2
        subst hsp
        have hcell : ∀ i j, i < len → j < 4 → W.cell? ⟨b, o + i * 4 + j, none⟩ = [Value.string (f i).1, .int .i64 (f i).2.so, .int .i64 (f i).2.n, .string (f i).2.s][j]? := by
          intro i j hi hj
          obtain ⟨q1, _⟩ := hf i hi
          have := (World.cells?_some q1).2.2 j hj
          rw [add_add, Go.WideShapes.add_plain] at this
          rw [Nat.add_assoc]; exact this
        refine .inr ⟨b, o, rfl, lt_of_cell ((hcell 0 0 (by omega) (by omega)).trans rfl), fun i hi => ?_⟩
        have hi' : i < len := by simpa using hi
        have e : ((List.range len).map f)[i] = f i := by simp
        simp only [e]
        exact ⟨(hcell i 0 hi' (by omega)).trans rfl, (hcell i 1 hi' (by omega)).trans rfl, (hcell i 2 hi' (by omega)).trans rfl, (hcell i 3 hi' (by omega)).trans rfl⟩
    · intro q hq
      obtain ⟨i, hi, rfl⟩ := List.mem_map.1 hq
      exact (hf i (by simpa using hi)).2
    · refine .inr ⟨elems.map (·.1), rest.map (·.1), (Prod.mk.inj hx).1, by simp [hle]⟩
end
end Go.Proofs.YtecapnipkngniaaGreatDoor
