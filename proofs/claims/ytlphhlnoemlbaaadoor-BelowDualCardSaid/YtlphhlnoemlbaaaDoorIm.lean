/-
  The contract of below.firstFailing, for every two graphs that Check lets by.
-/
import Derived.Test.YtlphhlnoemlbaaaDoorIl
namespace Go.Proofs.YtlphhlnoemlbaaaDoor
open Go.RowKit Go.Shelf

theorem infoBo : (Tryd.prog.info? 4).map (fun i => (i.zero, i.size, i.bytes)) = some (some (.bool false), 1, 1) := by kernel_rfl
theorem makeBo (n : Nat) (hn : n ≤ 100000) : ∃ Z : Array Value, (∀ j, j < n → Z[j]? = some (.bool false)) ∧ ∀ w : World, (Instr.makeSlice 40 (.int .i64 (n : Int)) (.int .i64 (n : Int))).run Tryd.prog w = .ok (.slice (some ⟨w.heap.size, 0, none⟩) n n) (w.alloc (.cells Z 4)) := by
  obtain ⟨i, hi, hx⟩ := Option.map_eq_some_iff.1 infoBo
  simp only [Prod.mk.injEq] at hx
  obtain ⟨h1, h2, h3⟩ := hx
  refine ⟨madeCells (Value.bool false).cells (n * i.size), fun j hj => ?_, fun w => ?_⟩
  · rw [h2, Nat.mul_one]
    unfold madeCells
    rw [Array.getElem?_map, Array.getElem?_range, if_pos hj]
    simp [Value.cells, Nat.mod_one]
  · have := run_make (P := Tryd.prog) w 40 4 i _ Tryd.underlying40 hi h1 .i64 .i64 (n : Int) (n : Int) (by omega) (by omega) (by rw [h3]; omega) (by omega)
    simpa using this
theorem SE.start {w : World} {g h : List Nd} {ag ah : Option Addr} {cg ch : Nat} {Z : Array Value} (hZ : ∀ j, j < 2 * g.length * h.length → Z[j]? = some (.bool false)) : SE w g h ag ah cg ch [] (.slice none 0 0) ((w.alloc (.cells Z 4)).alloc (.cells #[.slice ag g.length cg, .slice ah h.length ch, .slice (some ⟨w.heap.size, 0, none⟩) (2 * g.length * h.length) (2 * g.length * h.length), .slice none 0 0] 43)) := by
  have hA : Below (w.alloc (.cells Z 4)).heap.size (w.alloc (.cells Z 4)) ((w.alloc (.cells Z 4)).alloc (.cells #[.slice ag g.length cg, .slice ah h.length ch, .slice (some ⟨w.heap.size, 0, none⟩) (2 * g.length * h.length) (2 * g.length * h.length), .slice none 0 0] 43)) := (Below.refl _ _).alloc (Nat.le_refl _) _
  refine ⟨by go_cell, by go_cell, by go_cell, by go_cell, by go_simp, fun x hx => ?_, fun x => ?_, World.ownsRow_nil _ _ _ _, by simp, ((Below.refl _ _).alloc (Nat.le_refl _) _).alloc (by simp) _⟩
  · have e : (w.alloc (.cells Z 4)).cell? ⟨w.heap.size, x, none⟩ = Z[x]? := World.cell?_alloc_at _ _ _ _ rfl
    rw [hA.cell (p := ⟨w.heap.size, x, none⟩) (by show w.heap.size < _; simp), e, hZ x hx]
    rfl
  · rw [hA.frozen (p := ⟨w.heap.size, x, none⟩) (by show w.heap.size < _; simp)]
    go_simp
/-- a place and both its nodes, in new memory -/
structure RD (wr V : World) (ps mb nb pa pb : Nat) (tt : Bool) (m n : Nd) (a1 a2 a3 a4 : Option Addr) (c1 c2 c3 c4 : Nat) : Prop where
  p0 : V.cell? ⟨ps, 0, none⟩ = some (.int .i64 (pa : Int))
  p1 : V.cell? ⟨ps, 1, none⟩ = some (.int .i64 (pb : Int))
  p2 : V.cell? ⟨ps, 2, none⟩ = some (.bool tt)
  x : NdAt V mb 0 m a1 c1 a2 c2
  y : NdAt V nb 0 n a3 c3 a4 c4
  lt : ps < V.heap.size ∧ mb < V.heap.size ∧ nb < V.heap.size
  bl : Below wr.heap.size wr V
theorem RD.keep {wr V V' : World} {ps mb nb pa pb : Nat} {tt : Bool} {m n : Nd} {a1 a2 a3 a4 : Option Addr} {c1 c2 c3 c4 : Nat} (h : RD wr V ps mb nb pa pb tt m n a1 a2 a3 a4 c1 c2 c3 c4) (hb : Below V.heap.size V V') : RD wr V' ps mb nb pa pb tt m n a1 a2 a3 a4 c1 c2 c3 c4 :=
  ⟨(hb.cell (p := ⟨ps, 0, none⟩) h.lt.1).trans h.p0, (hb.cell (p := ⟨ps, 1, none⟩) h.lt.1).trans h.p1, (hb.cell (p := ⟨ps, 2, none⟩) h.lt.1).trans h.p2, h.x.keep hb h.lt.2.1, h.y.keep hb h.lt.2.2, ⟨Nat.lt_of_lt_of_le h.lt.1 hb.size, Nat.lt_of_lt_of_le h.lt.2.1 hb.size, Nat.lt_of_lt_of_le h.lt.2.2 hb.size⟩, h.bl.trans (hb.mono h.bl.size)⟩
theorem rd_one (wr : World) (pa pb : Nat) (tt : Bool) (m n : Nd) (a1 a2 a3 a4 : Option Addr) (c1 c2 c3 c4 : Nat) : RD wr (((wr.alloc (.cells #[.int .i64 (pa : Int), .int .i64 (pb : Int), .bool tt] 46)).alloc (.cells #[.int .i64 m.kind, .int .i64 m.so, .slice a1 m.labs.length c1, .slice a2 m.to.length c2] 53)).alloc (.cells #[.int .i64 n.kind, .int .i64 n.so, .slice a3 n.labs.length c3, .slice a4 n.to.length c4] 53)).drew wr.heap.size (wr.heap.size + 1) (wr.heap.size + 1 + 1) pa pb tt m n a1 a2 a3 a4 c1 c2 c3 c4 :=
  ⟨by go_cell, by go_cell, by go_cell, ⟨by go_cell, by go_cell, by go_cell, by go_cell⟩, ⟨by go_cell, by go_cell, by go_cell, by go_cell⟩, ⟨by simp; omega, by simp, by simp⟩, ((((Below.refl _ _).alloc (Nat.le_refl _) _).alloc (by simp) _).alloc (by simp; omega) _).drew⟩
theorem rd_two (wr : World) (pa pb : Nat) (tt : Bool) (m n : Nd) (a1 a2 a3 a4 : Option Addr) (c1 c2 c3 c4 : Nat) : RD wr (((wr.alloc (.cells #[.int .i64 (pa : Int), .int .i64 (pb : Int), .bool tt] 46)).alloc (.cells #[.int .i64 n.kind, .int .i64 n.so, .slice a3 n.labs.length c3, .slice a4 n.to.length c4] 53)).alloc (.cells #[.int .i64 m.kind, .int .i64 m.so, .slice a1 m.labs.length c1, .slice a2 m.to.length c2] 53)).drew wr.heap.size (wr.heap.size + 1 + 1) (wr.heap.size + 1) pa pb tt m n a1 a2 a3 a4 c1 c2 c3 c4 :=
  ⟨by go_cell, by go_cell, by go_cell, ⟨by go_cell, by go_cell, by go_cell, by go_cell⟩, ⟨by go_cell, by go_cell, by go_cell, by go_cell⟩, ⟨by simp; omega, by simp, by simp⟩, ((((Below.refl _ _).alloc (Nat.le_refl _) _).alloc (by simp) _).alloc (by simp; omega) _).drew⟩
theorem srch_stop {g h : List Nd} {f k : Nat} {arr : List Av} (hk : arr.length ≤ k) : srch g h f k arr = (none, arr) := by
  cases f with
  | zero => rfl
  | succ f => unfold srch; rw [List.getElem?_eq_none hk]
theorem srch_fail {g h : List Nd} {f k : Nat} {arr : List Av} {v : Av} (hv : arr[k]? = some v) (hf : failP g h v.1.2 = true) : srch g h (f + 1) k arr = (some k, arr) := by
  unfold srch; rw [hv]; simp only; rw [if_pos hf]
theorem srch_go {g h : List Nd} {f k : Nat} {arr : List Av} {v : Av} (hv : arr[k]? = some v) (hf : failP g h v.1.2 = false) : srch g h (f + 1) k arr = srch g h f (k + 1) (goOn g h k arr v.1.2) := by
  conv => lhs; unfold srch
  rw [hv]; simp only; rw [if_neg (by rw [hf]; simp)]
theorem steps_len {m n : Nd} {t : Bool} (h : okN m) : (stepsP m n t).length ≤ 6 := by
  unfold stepsP
  split
  · simp
  split
  · simp
  · have h1 := List.length_filterMap_le (labSt m n t) (List.range m.labs.length)
    have h2 := (shp_len (okN_shp h)).1
    rw [List.length_range] at h1
    omega
/-- steps in memory, apart from the search -/
def STI (w : World) (u : Value) (W : World) (ss : List Stp) (a : Option Addr) : Prop := ss = [] ∨ ∃ b o, a = some ⟨b, o, none⟩ ∧ w.heap.size + 1 + 1 ≤ b ∧ b < W.heap.size ∧ u.ownBlock ≠ some b ∧ ∀ i (h : i < ss.length), W.cell? ⟨b, o + i * 4, none⟩ = some (.string ss[i].1) ∧ W.cell? ⟨b, o + i * 4 + 1, none⟩ = some (.int .i64 (ss[i].2.1 : Int)) ∧ W.cell? ⟨b, o + i * 4 + 2, none⟩ = some (.int .i64 (ss[i].2.2.1 : Int)) ∧ W.cell? ⟨b, o + i * 4 + 3, none⟩ = some (.bool ss[i].2.2.2)
theorem STI.keep {w W W' : World} {u u' : Value} {ss : List Stp} {a : Option Addr} (h : STI w u W ss a) (hf : RF w.heap.size (w.heap.size + 1) u.ownBlock W W') (hn : u'.ownBlock = u.ownBlock ∨ ∀ j, u'.ownBlock = some j → W.heap.size ≤ j) : STI w u' W' ss a :=
  h.imp id fun ⟨b, o, e, hb, hl, hu, hc⟩ => ⟨b, o, e, hb, Nat.lt_of_lt_of_le hl hf.size, fresh_ne hn hl hu, fun i hi => by
    have k : ∀ o, W'.cell? ⟨b, o, none⟩ = W.cell? ⟨b, o, none⟩ := fun o => hf.cell hl (by omega) (by omega) (fun e => hu e.symm)
    rw [k, k, k, k]
    exact hc i hi⟩
theorem fold_take {ss : List Stp} {k q : Nat} {arr : List Av} (hq : q < ss.length) : (ss.take (q + 1)).foldl (fun a s => arrP a s k) arr = arrP ((ss.take q).foldl (fun a s => arrP a s k) arr) ss[q] k := by
  rw [List.take_succ_eq_append_getElem hq, List.foldl_append]; rfl
def FFPost (g h : List Nd) (w : World) (e : Ending) (w' : World) : Prop :=
  ((∃ arr, srchA g h = (none, arr) ∧ e = .returned (.tuple #[.slice none 0 0, .bool false])) ∨ (∃ k arr, srchA g h = (some k, arr) ∧ ∃ aw cw, e = .returned (.tuple #[.slice aw (wayA arr k).length cw, .bool true]) ∧ LA w' w'.heap.size (wayA arr k).reverse aw)) ∧ Below w.heap.size w w'
set_option maxRecDepth 100000 in
set_option maxHeartbeats 16000000 in
theorem firstFailing_any (g h : List Nd) (ag ah : Option Addr) (cg ch B : Nat) (w : World) (hg : GN g) (hh : GN h) (hga : GAt w B g ag) (hha : GAt w B h ah) (hB : B ≤ w.heap.size) :
    Calls Tryd.prog 8 #[.slice ag g.length cg, .slice ah h.length ch] w (FFPost g h w) := by
  have hNb : 2 * g.length * h.length ≤ 80000 := Nat.mul_le_mul (Nat.mul_le_mul_left 2 hg.le) hh.le
  obtain ⟨Z, hZ, hmk⟩ := makeBo (2 * g.length * h.length) (by omega)
  have S0 := hideK (SE.start (w := w) (g := g) (h := h) (ag := ag) (ah := ah) (cg := cg) (ch := ch) hZ)
  have hgl := hg.le
  have hhl := hh.le
  have hg0 := hg.pos
  have hh0 := hh.pos
  have hw1 : IntKind.i64.wrap (2 * (g.length : Int)) = 2 * (g.length : Int) := wrap_small _ (by omega) (by omega)
  have hcast : ((2 * g.length * h.length : Nat) : Int) = 2 * (g.length : Int) * (h.length : Int) := by rw [Int.natCast_mul, Int.natCast_mul]; rfl
  have hw2 : IntKind.i64.wrap (2 * (g.length : Int) * (h.length : Int)) = 2 * (g.length : Int) * (h.length : Int) := by
    rw [← hcast]
    exact wrap_small _ (by omega) (by omega)
  simp only [hcast] at hmk
  have cA := hideK (arrive_any w g h ag ah cg ch [] (.slice none 0 0) (⟨#[]⟩, 0, 0, false) 0 _ S0.out hg0 hh0 hgl hhl (by simp) (fun p hp => by simp [placesA] at hp))
  have HG := hideK hg
  have HH := hideK hh
  obtain ⟨gb, go, rfl, hgB, hgc⟩ := hga.resolve_left (fun q => by rw [q] at hg0; simp at hg0)
  obtain ⟨hb1, ho, rfl, hhB, hhc⟩ := hha.resolve_left (fun q => by rw [q] at hh0; simp at hh0)
  have HGC := hideK hgc
  have HHC := hideK hhc
  unfold FFPost
  simp only [Int.ofNat_zero] at cA
  clear hZ hga hha hgc hhc hg hh hcast
  go_enter Tryd.func8, Tryd.ntmps8
  go_wp2_with fail
  refine cA.out.mono ?_
  rintro e w1 ⟨rfl, u1, hS1, hR1, hf1⟩
  have HS1 := hideK (show SE w g h (some ⟨gb, go, none⟩) (some ⟨hb1, ho, none⟩) cg ch [av0] u1 w1 from hS1)
  clear cA hS1 hR1 hf1 hw1 hw2 hmk S0
  go_wp2_with fail
  go_loopw [7] (fun i wr => ∃ (k : Nat) (arr : List Av) (u : Value), i = .int .i64 (k : Int) ∧ k ≤ arr.length ∧ SE w g h (some ⟨gb, go, none⟩) (some ⟨hb1, ho, none⟩) cg ch arr u wr ∧ SR g h k arr ∧ srch g h (2 * g.length * h.length - k) k arr = srchA g h) (fun i _ => 2 * g.length * h.length - (intOf i).toNat)
  case atStart => exact ⟨0, [av0], u1, rfl, by simp, HS1.out, SR.start hg0 hh0, rfl⟩
  case round =>
    obtain ⟨k, arr, u, rfl, hka, hS, hSR, hsr⟩ := hrel
    have hal := hSR.len
    clear HS1
    by_cases hlt : k < arr.length
    · have hltz : (k : Int) < (arr.length : Int) := by omega
      obtain ⟨ub, uc, rfl, hub, hul, e0, d1, d2, d3, e4⟩ := avl_of hS.own hlt
      have cu := hS.cu
      have hv : arr[k]? = some arr[k] := List.getElem?_eq_getElem hlt
      have hpl := hSR.lt arr[k].1.2 (List.mem_map.2 ⟨arr[k], List.getElem_mem hlt, rfl⟩)
      obtain ⟨a1, c1, a2, c2, hN1, hL1, hT1⟩ := HGC.out _ hpl.1
      obtain ⟨a3, c3, a4, c4, hN2, hL2, hT2⟩ := HHC.out _ hpl.2
      have em : nodeAt g arr[k].1.2.1 = g[arr[k].1.2.1] := nodeAt_lt g _ hpl.1
      have en : nodeAt h arr[k].1.2.2.1 = h[arr[k].1.2.2.1] := nodeAt_lt h _ hpl.2
      rw [← em] at hN1 hL1 hT1
      rw [← en] at hN2 hL2 hT2
      have okm := HG.out.at_ hpl.1
      have okn := HH.out.at_ hpl.2
      have hbB : Below B w wr := hS.bl.mono hB
      obtain ⟨m0, m1, m2, m3⟩ := hN1.keep hbB hgB
      obtain ⟨n0, n1, n2, n3⟩ := hN2.keep hbB hhB
      have HS := hideK hS
      have HSR := hideK hSR
      have HSRC := hideK hsr
      have HV := hideK hv
      have HL1 := hideK hL1
      have HT1 := hideK hT1
      have HL2 := hideK hL2
      have HT2 := hideK hT2
      have HOM := hideK okm
      have HON := hideK okn
      have HFP := hideK (show failP g h arr[k].1.2 = if arr[k].1.2.2.2 = true then failB (nodeAt h arr[k].1.2.2.1) (nodeAt g arr[k].1.2.1) else failB (nodeAt g arr[k].1.2.1) (nodeAt h arr[k].1.2.2.1) from rfl)
      have HNS := hideK (show nextS g h arr[k].1.2 = stepsP (nodeAt g arr[k].1.2.1) (nodeAt h arr[k].1.2.2.1) arr[k].1.2.2.2 from rfl)
      have hszw := hS.sz
      have hbls := hS.bl.size
      have hpa := hpl.1
      have hpb := hpl.2
      clear hS hSR hsr hv hL1 hT1 hL2 hT2 okm okn em en hN1 hN2 hpl e0 e4 hbB
      generalize hVp : arr[k].1.2 = pp at *
      obtain ⟨pa, pb, tt⟩ := pp
      simp only at d1 d2 d3 m0 m1 m2 m3 n0 n1 n2 n3 hpa hpb HL1 HT1 HL2 HT2 HOM HON HFP HNS
      generalize nodeAt g pa = m at *
      generalize nodeAt h pb = n at *
      have hpaz : (pa : Int) < (g.length : Int) := by omega
      have hpbz : (pb : Int) < (h.length : Int) := by omega
      have sk : ∀ W W' : World, (fun W : World => W.cell? ⟨wr.heap.size, 0, none⟩ = some (.int .i64 (pa : Int)) ∧ W.cell? ⟨wr.heap.size, 1, none⟩ = some (.int .i64 (pb : Int)) ∧ W.cell? ⟨gb, go + pa * 4, none⟩ = some (.int .i64 m.kind) ∧ W.cell? ⟨gb, go + pa * 4 + 1, none⟩ = some (.int .i64 m.so) ∧ W.cell? ⟨gb, go + pa * 4 + 2, none⟩ = some (.slice a1 m.labs.length c1) ∧ W.cell? ⟨gb, go + pa * 4 + 3, none⟩ = some (.slice a2 m.to.length c2) ∧ W.cell? ⟨hb1, ho + pb * 4, none⟩ = some (.int .i64 n.kind) ∧ W.cell? ⟨hb1, ho + pb * 4 + 1, none⟩ = some (.int .i64 n.so) ∧ W.cell? ⟨hb1, ho + pb * 4 + 2, none⟩ = some (.slice a3 n.labs.length c3) ∧ W.cell? ⟨hb1, ho + pb * 4 + 3, none⟩ = some (.slice a4 n.to.length c4)) W → Below (wr.heap.size + 1) W W' → (fun W : World => W.cell? ⟨wr.heap.size, 0, none⟩ = some (.int .i64 (pa : Int)) ∧ W.cell? ⟨wr.heap.size, 1, none⟩ = some (.int .i64 (pb : Int)) ∧ W.cell? ⟨gb, go + pa * 4, none⟩ = some (.int .i64 m.kind) ∧ W.cell? ⟨gb, go + pa * 4 + 1, none⟩ = some (.int .i64 m.so) ∧ W.cell? ⟨gb, go + pa * 4 + 2, none⟩ = some (.slice a1 m.labs.length c1) ∧ W.cell? ⟨gb, go + pa * 4 + 3, none⟩ = some (.slice a2 m.to.length c2) ∧ W.cell? ⟨hb1, ho + pb * 4, none⟩ = some (.int .i64 n.kind) ∧ W.cell? ⟨hb1, ho + pb * 4 + 1, none⟩ = some (.int .i64 n.so) ∧ W.cell? ⟨hb1, ho + pb * 4 + 2, none⟩ = some (.slice a3 n.labs.length c3) ∧ W.cell? ⟨hb1, ho + pb * 4 + 3, none⟩ = some (.slice a4 n.to.length c4)) W' := fun W W' hs hb => ⟨(hb.cell (p := ⟨wr.heap.size, 0, none⟩) (by show wr.heap.size < _; omega)).trans hs.1, (hb.cell (p := ⟨wr.heap.size, 1, none⟩) (by show wr.heap.size < _; omega)).trans hs.2.1, (hb.cell (p := ⟨gb, go + pa * 4, none⟩) (by show gb < _; omega)).trans hs.2.2.1, (hb.cell (p := ⟨gb, go + pa * 4 + 1, none⟩) (by show gb < _; omega)).trans hs.2.2.2.1, (hb.cell (p := ⟨gb, go + pa * 4 + 2, none⟩) (by show gb < _; omega)).trans hs.2.2.2.2.1, (hb.cell (p := ⟨gb, go + pa * 4 + 3, none⟩) (by show gb < _; omega)).trans hs.2.2.2.2.2.1, (hb.cell (p := ⟨hb1, ho + pb * 4, none⟩) (by show hb1 < _; omega)).trans hs.2.2.2.2.2.2.1, (hb.cell (p := ⟨hb1, ho + pb * 4 + 1, none⟩) (by show hb1 < _; omega)).trans hs.2.2.2.2.2.2.2.1, (hb.cell (p := ⟨hb1, ho + pb * 4 + 2, none⟩) (by show hb1 < _; omega)).trans hs.2.2.2.2.2.2.2.2.1, (hb.cell (p := ⟨hb1, ho + pb * 4 + 3, none⟩) (by show hb1 < _; omega)).trans hs.2.2.2.2.2.2.2.2.2⟩
      have HP0 := hideK (show Below wr.heap.size wr (wr.alloc (.cells #[.int .i64 (pa : Int), .int .i64 (pb : Int), .bool tt] 46)) from (Below.refl _ _).alloc (Nat.le_refl _) _)
      have HS0 := hideK (show (fun W : World => W.cell? ⟨wr.heap.size, 0, none⟩ = some (.int .i64 (pa : Int)) ∧ W.cell? ⟨wr.heap.size, 1, none⟩ = some (.int .i64 (pb : Int)) ∧ W.cell? ⟨gb, go + pa * 4, none⟩ = some (.int .i64 m.kind) ∧ W.cell? ⟨gb, go + pa * 4 + 1, none⟩ = some (.int .i64 m.so) ∧ W.cell? ⟨gb, go + pa * 4 + 2, none⟩ = some (.slice a1 m.labs.length c1) ∧ W.cell? ⟨gb, go + pa * 4 + 3, none⟩ = some (.slice a2 m.to.length c2) ∧ W.cell? ⟨hb1, ho + pb * 4, none⟩ = some (.int .i64 n.kind) ∧ W.cell? ⟨hb1, ho + pb * 4 + 1, none⟩ = some (.int .i64 n.so) ∧ W.cell? ⟨hb1, ho + pb * 4 + 2, none⟩ = some (.slice a3 n.labs.length c3) ∧ W.cell? ⟨hb1, ho + pb * 4 + 3, none⟩ = some (.slice a4 n.to.length c4)) (wr.alloc (.cells #[.int .i64 (pa : Int), .int .i64 (pb : Int), .bool tt] 46)).drew from ⟨by go_cell, by go_cell, (HP0.out.cell (p := ⟨gb, go + pa * 4, none⟩) (by show gb < _; omega)).trans m0, (HP0.out.cell (p := ⟨gb, go + pa * 4 + 1, none⟩) (by show gb < _; omega)).trans m1, (HP0.out.cell (p := ⟨gb, go + pa * 4 + 2, none⟩) (by show gb < _; omega)).trans m2, (HP0.out.cell (p := ⟨gb, go + pa * 4 + 3, none⟩) (by show gb < _; omega)).trans m3, (HP0.out.cell (p := ⟨hb1, ho + pb * 4, none⟩) (by show hb1 < _; omega)).trans n0, (HP0.out.cell (p := ⟨hb1, ho + pb * 4 + 1, none⟩) (by show hb1 < _; omega)).trans n1, (HP0.out.cell (p := ⟨hb1, ho + pb * 4 + 2, none⟩) (by show hb1 < _; omega)).trans n2, (HP0.out.cell (p := ⟨hb1, ho + pb * 4 + 3, none⟩) (by show hb1 < _; omega)).trans n3⟩)
      have HSX := hideK (show ∀ o : Obj, (fun W : World => W.cell? ⟨wr.heap.size, 0, none⟩ = some (.int .i64 (pa : Int)) ∧ W.cell? ⟨wr.heap.size, 1, none⟩ = some (.int .i64 (pb : Int)) ∧ W.cell? ⟨gb, go + pa * 4, none⟩ = some (.int .i64 m.kind) ∧ W.cell? ⟨gb, go + pa * 4 + 1, none⟩ = some (.int .i64 m.so) ∧ W.cell? ⟨gb, go + pa * 4 + 2, none⟩ = some (.slice a1 m.labs.length c1) ∧ W.cell? ⟨gb, go + pa * 4 + 3, none⟩ = some (.slice a2 m.to.length c2) ∧ W.cell? ⟨hb1, ho + pb * 4, none⟩ = some (.int .i64 n.kind) ∧ W.cell? ⟨hb1, ho + pb * 4 + 1, none⟩ = some (.int .i64 n.so) ∧ W.cell? ⟨hb1, ho + pb * 4 + 2, none⟩ = some (.slice a3 n.labs.length c3) ∧ W.cell? ⟨hb1, ho + pb * 4 + 3, none⟩ = some (.slice a4 n.to.length c4)) ((wr.alloc (.cells #[.int .i64 (pa : Int), .int .i64 (pb : Int), .bool tt] 46)).alloc o).drew from fun o => sk _ _ HS0.out (by rw [← alloc_drew]; exact (Below.refl _ _).alloc (by simp) _))
      have HSY := hideK (show ∀ o o' : Obj, (fun W : World => W.cell? ⟨wr.heap.size, 0, none⟩ = some (.int .i64 (pa : Int)) ∧ W.cell? ⟨wr.heap.size, 1, none⟩ = some (.int .i64 (pb : Int)) ∧ W.cell? ⟨gb, go + pa * 4, none⟩ = some (.int .i64 m.kind) ∧ W.cell? ⟨gb, go + pa * 4 + 1, none⟩ = some (.int .i64 m.so) ∧ W.cell? ⟨gb, go + pa * 4 + 2, none⟩ = some (.slice a1 m.labs.length c1) ∧ W.cell? ⟨gb, go + pa * 4 + 3, none⟩ = some (.slice a2 m.to.length c2) ∧ W.cell? ⟨hb1, ho + pb * 4, none⟩ = some (.int .i64 n.kind) ∧ W.cell? ⟨hb1, ho + pb * 4 + 1, none⟩ = some (.int .i64 n.so) ∧ W.cell? ⟨hb1, ho + pb * 4 + 2, none⟩ = some (.slice a3 n.labs.length c3) ∧ W.cell? ⟨hb1, ho + pb * 4 + 3, none⟩ = some (.slice a4 n.to.length c4)) (((wr.alloc (.cells #[.int .i64 (pa : Int), .int .i64 (pb : Int), .bool tt] 46)).alloc o).alloc o').drew from fun o o' => sk _ _ (HSX.out o) (by rw [← alloc_drew]; exact (Below.refl _ _).alloc (by simp) _))
      clear sk
      go_wp2_with fail
      go_region_held3 (fun W : World => W.cell? ⟨wr.heap.size, 0, none⟩ = some (.int .i64 (pa : Int)) ∧ W.cell? ⟨wr.heap.size, 1, none⟩ = some (.int .i64 (pb : Int)) ∧ W.cell? ⟨gb, go + pa * 4, none⟩ = some (.int .i64 m.kind) ∧ W.cell? ⟨gb, go + pa * 4 + 1, none⟩ = some (.int .i64 m.so) ∧ W.cell? ⟨gb, go + pa * 4 + 2, none⟩ = some (.slice a1 m.labs.length c1) ∧ W.cell? ⟨gb, go + pa * 4 + 3, none⟩ = some (.slice a2 m.to.length c2) ∧ W.cell? ⟨hb1, ho + pb * 4, none⟩ = some (.int .i64 n.kind) ∧ W.cell? ⟨hb1, ho + pb * 4 + 1, none⟩ = some (.int .i64 n.so) ∧ W.cell? ⟨hb1, ho + pb * 4 + 2, none⟩ = some (.slice a3 n.labs.length c3) ∧ W.cell? ⟨hb1, ho + pb * 4 + 3, none⟩ = some (.slice a4 n.to.length c4)) (first | exact HS0.out | exact HSX.out _ | exact HSY.out _ _ | assumption) (fail)
      · have HRD := hideK (rd_one wr pa pb tt m n a1 a2 a3 a4 c1 c2 c3 c4)
        clear HS0 HSX HSY HP0 m0 m1 m2 m3 n0 n1 n2 n3 d1 d2 d3 cu
        generalize (((wr.alloc (.cells #[.int .i64 (pa : Int), .int .i64 (pb : Int), .bool tt] 46)).alloc (.cells #[.int .i64 m.kind, .int .i64 m.so, .slice a1 m.labs.length c1, .slice a2 m.to.length c2] 53)).alloc (.cells #[.int .i64 n.kind, .int .i64 n.so, .slice a3 n.labs.length c3, .slice a4 n.to.length c4] 53)).drew = V at *
        have hVs := HRD.out.bl.size
        obtain ⟨x0, x1, x2, x3⟩ := HRD.out.x
        obtain ⟨y0, y1, y2, y3⟩ := HRD.out.y
        simp only [Nat.zero_add] at x1 x2 x3 y1 y2 y3
        have p2 := HRD.out.p2
        have HSV := hideK (HS.out.kept HRD.out.bl)
        have hbV : Below B w V := HSV.out.bl.mono hB
        cases tt with
        | false =>
          simp only [Bool.false_eq_true, if_false] at HFP
          have cF := failsItself_any m n a1 a2 a3 a4 c1 c2 c3 c4 B V (HL1.out.keep hbV) (HL2.out.keep hbV) (Nat.le_trans hB HSV.out.bl.size) (by have := (shp_len (okN_shp HOM.out)).1; omega) (by have := (shp_len (okN_shp HON.out)).1; omega)
          simp only [ndVal] at cF
          have HKE := hideK (fun q : failB m n = false => ((failB_iff m n).1 q).1)
          cases hq : failB m n with
          | true =>
            rw [hq] at cF HFP
            have HSO := hideK (srch_fail (f := 2 * g.length * h.length - k - 1) HV.out (by rw [hVp]; exact HFP.out))
            clear hq HKE
            go_wp2_with fail
            refine cF.mono ?_
            rintro e w2 ⟨rfl, hb2⟩
            have HR2 := hideK (HRD.out.keep hb2)
            have q2 := HR2.out.p2
            have HS2 := hideK (HSV.out.kept hb2)
            have cW := wayTo_any w g h _ _ cg ch arr _ k w2 HS2.out hlt (by omega) HSR.out.way
            clear cF hb2 x0 x1 x2 x3 y0 y1 y2 y3 p2
            go_wp2_with fail
            refine cW.mono ?_
            rintro e w3 ⟨⟨aw, cw, rfl, hla⟩, hb3⟩
            have HB3 := hideK (HS2.out.bl.trans (hb3.mono HS2.out.bl.size))
            have HLA := hideK hla
            clear cW hla hb3 q2
            go_wp2_with fail
            go_ret2
            refine ⟨.inr ⟨k, arr, ?_, aw, cw, rfl, HLA.out⟩, HB3.out⟩
            rw [← HSRC.out, show 2 * g.length * h.length - k = 2 * g.length * h.length - k - 1 + 1 by omega]
            exact HSO.out
          | false =>
            rw [hq] at cF HFP
            have HKQ := hideK (show m.kind = n.kind from HKE.out hq)
            have HNX := hideK (HSR.out.next HG.out HH.out HV.out (by rw [hVp]; exact HFP.out))
            have HSO := hideK (srch_go (f := 2 * g.length * h.length - (k + 1)) HV.out (by rw [hVp]; exact HFP.out))
            have HSTL := hideK (step_lt HG.out HH.out (p := (pa, pb, false)) hpa hpb ((failP_iff g h _).1 HFP.out))
            rw [hVp] at HNX HSO
            clear hq HKE
            go_wp2_with fail
            refine cF.mono ?_
            rintro e w2 ⟨rfl, hb2⟩
            have HR2 := hideK (HRD.out.keep hb2)
            obtain ⟨z0, z1, z2, z3⟩ := HR2.out.x
            obtain ⟨r0, r1, r2, r3⟩ := HR2.out.y
            simp only [Nat.zero_add] at z1 z2 z3 r1 r2 r3
            have q2 := HR2.out.p2
            have HS2 := hideK (HSV.out.kept hb2)
            have hb2w : Below B w w2 := HS2.out.bl.mono hB
            have cS := steps_any m n false a1 a2 a3 a4 c1 c2 c3 c4 B w2 (HL1.out.keep hb2w) (HT1.out.keep hb2w) (HL2.out.keep hb2w) (HT2.out.keep hb2w) (Nat.le_trans hB HS2.out.bl.size) HOM.out HON.out HKQ.out
            simp only [ndVal] at cS
            have HNE := hideK (show stepsP m n false = nextS g h (pa, pb, false) from HNS.out.symm)
            have hss : (stepsP m n false).length ≤ 6 := steps_len HOM.out
            generalize stepsP m n false = ss at *
            clear cF hb2 x0 x1 x2 x3 y0 y1 y2 y3 p2 hb2w
            go_wp2_with fail
            refine cS.mono ?_
            rintro e w3 ⟨⟨ast, cst, rfl, hst⟩, hb3⟩
            have HS3 := hideK (HS2.out.kept hb3)
            have HST := hideK hst
            have hssz : (ss.length : Int) ≤ 6 := by omega
            clear cS hst hb3 z0 z1 z2 z3 r0 r1 r2 r3 q2
            go_wp2_with fail
            have HOW := hideK (show ∀ j, (Value.slice (some ⟨ub, 0, none⟩) arr.length uc).ownBlock = some j → j < wr.heap.size from fun j hj => (HS.out.own.lt j hj).2)
            have hr2s := HR2.out.bl.size
            have HSTI := hideK (show STI w (.slice (some ⟨ub, 0, none⟩) arr.length uc) w3 ss ast from HST.out.imp id fun ⟨b, o, e, hl, hc⟩ => ⟨b, o, e, by omega, hl.2, fun q => by (have := HOW.out b q; omega), hc⟩)
            go_loopw [74] (fun i wz => ∃ (q : Nat) (arr' : List Av) (u' : Value), q ≤ ss.length ∧ i = .int .i64 (q : Int) ∧ arr' = (ss.take q).foldl (fun a s => arrP a s k) arr ∧ SE w g h (some ⟨gb, go, none⟩) (some ⟨hb1, ho, none⟩) cg ch arr' u' wz ∧ SR g h k arr' ∧ (∃ v, arr'[k]? = some v ∧ v.1.2 = (pa, pb, false)) ∧ STI w u' wz ss ast) (fun i _ => ss.length - (intOf i).toNat)
            case atStart => exact ⟨0, arr, _, Nat.zero_le _, rfl, rfl, HS3.out, HSR.out, ⟨_, HV.out, hVp⟩, HSTI.out⟩
            case round =>
              obtain ⟨q, arr', u', hql, rfl, har, hS', hSR', ⟨v, hv', hvp⟩, hsti⟩ := hrel
              clear HSTI HOW
              by_cases hqlt : q < ss.length
              · have hqz : (q : Int) < (ss.length : Int) := by omega
                obtain ⟨sb, so, rfl, hsb, hsl, hsu, hsc⟩ := hsti.resolve_left (fun e => by rw [e] at hqlt; simp at hqlt)
                obtain ⟨s0, s1, s2, s3⟩ := hsc q hqlt
                have hmem : ss[q] ∈ nextS g h (pa, pb, false) := by rw [← HNE.out]; exact List.getElem_mem hqlt
                have hslt := HSTL.out _ hmem
                have HADD := hideK (hSR'.add hv' (by rw [← hvp] at hmem; exact hslt) (by rw [hvp]; exact hmem))
                have HOLD := hideK (arrP_old (s := ss[q]) (k := k) hv')
                have HFT := hideK (show arrP arr' ss[q] k = (ss.take (q + 1)).foldl (fun a s => arrP a s k) arr from by rw [fold_take hqlt, har])
                have hl' := hSR'.len
                have hrg := fun p hp => (hSR'.lt p hp).2
                have HVP := hideK hvp
                have hAl : Below wr.heap.size wr (wr.alloc (.cells #[.string ss[q].1, .int .i64 (ss[q].2.1 : Int), .int .i64 (ss[q].2.2.1 : Int), .bool ss[q].2.2.2] 48)) := (Below.refl _ _).alloc (Nat.le_refl _) _
                have cR := arrive_any w g h _ _ cg ch arr' u' ss[q] k _ (hS'.kept hAl) hslt.1 hslt.2 hgl hhl (by omega) hrg
                have HSTI := hideK hsti
                have HRA := hideK (RF.of (fb := w.heap.size) (rb := w.heap.size + 1) (row := u'.ownBlock) hAl)
                clear hsti hsc hmem hslt hvp hv' har hS' hSR' hrg hAl
                generalize ss[q] = st at *
                obtain ⟨wd, sa, sb2, stt⟩ := st
                simp only at s0 s1 s2 s3 cR
                go_wp2_with fail
                refine cR.mono ?_
                rintro e w5 ⟨rfl, u5, hS5, hR5, hf5⟩
                have HS5 := hideK hS5
                have HT5 := hideK (HSTI.out.keep (HRA.out.trans hR5 (.inl rfl)) (hf5.imp id fun f j hj => Nat.le_trans (by simp) (f j hj)))
                clear cR hS5 hR5 hf5 s0 s1 s2 s3 HRA HSTI
                go_wp2_with fail
                go_roundw
                case rel => exact ⟨q + 1, _, u5, by omega, by go_num, HFT.out, HS5.out, HADD.out, ⟨v, HOLD.out, HVP.out⟩, HT5.out⟩
                case measure => simp [intOf]; omega
              · have hqz : ¬ (q : Int) < (ss.length : Int) := by omega
                have hqe : q = ss.length := by omega
                subst hqe
                rw [List.take_length] at har
                have HAR := hideK (show arr' = goOn g h k arr (pa, pb, false) from by rw [har, HNE.out]; rfl)
                have hkl : k + 1 ≤ arr'.length := (List.getElem?_eq_some_iff.1 hv').1
                have HS9 := hideK hS'
                have hkz : (k : Int) ≤ 80000 := by omega
                clear har hv' hvp hS' hSR' hsti
                go_wp2_with fail
                go_roundw
                case rel =>
                  refine ⟨k + 1, arr', u', by go_num, hkl, HS9.out, by rw [HAR.out]; exact HNX.out, ?_⟩
                  rw [HAR.out, ← HSO.out, show 2 * g.length * h.length - (k + 1) + 1 = 2 * g.length * h.length - k by omega]
                  exact HSRC.out
                case measure => simp [intOf]; omega
        | true =>
          simp only [if_true] at HFP
          have cF := failsItself_any n m a3 a4 a1 a2 c3 c4 c1 c2 B V (HL2.out.keep hbV) (HL1.out.keep hbV) (Nat.le_trans hB HSV.out.bl.size) (by have := (shp_len (okN_shp HON.out)).1; omega) (by have := (shp_len (okN_shp HOM.out)).1; omega)
          simp only [ndVal] at cF
          have HKE := hideK (fun q : failB n m = false => ((failB_iff n m).1 q).1)
          cases hq : failB n m with
          | true =>
            rw [hq] at cF HFP
            have HSO := hideK (srch_fail (f := 2 * g.length * h.length - k - 1) HV.out (by rw [hVp]; exact HFP.out))
            clear hq HKE
            go_wp2_with fail
            refine cF.mono ?_
            rintro e w2 ⟨rfl, hb2⟩
            have HR2 := hideK (HRD.out.keep hb2)
            have q2 := HR2.out.p2
            have HS2 := hideK (HSV.out.kept hb2)
            have cW := wayTo_any w g h _ _ cg ch arr _ k w2 HS2.out hlt (by omega) HSR.out.way
            clear cF hb2 x0 x1 x2 x3 y0 y1 y2 y3 p2
            go_wp2_with fail
            refine cW.mono ?_
            rintro e w3 ⟨⟨aw, cw, rfl, hla⟩, hb3⟩
            have HB3 := hideK (HS2.out.bl.trans (hb3.mono HS2.out.bl.size))
            have HLA := hideK hla
            clear cW hla hb3 q2
            go_wp2_with fail
            go_ret2
            refine ⟨.inr ⟨k, arr, ?_, aw, cw, rfl, HLA.out⟩, HB3.out⟩
            rw [← HSRC.out, show 2 * g.length * h.length - k = 2 * g.length * h.length - k - 1 + 1 by omega]
            exact HSO.out
          | false =>
            rw [hq] at cF HFP
            have HKQ := hideK (show m.kind = n.kind from (HKE.out hq).symm)
            have HNX := hideK (HSR.out.next HG.out HH.out HV.out (by rw [hVp]; exact HFP.out))
            have HSO := hideK (srch_go (f := 2 * g.length * h.length - (k + 1)) HV.out (by rw [hVp]; exact HFP.out))
            have HSTL := hideK (step_lt HG.out HH.out (p := (pa, pb, true)) hpa hpb ((failP_iff g h _).1 HFP.out))
            rw [hVp] at HNX HSO
            clear hq HKE
            go_wp2_with fail
            refine cF.mono ?_
            rintro e w2 ⟨rfl, hb2⟩
            have HR2 := hideK (HRD.out.keep hb2)
            obtain ⟨z0, z1, z2, z3⟩ := HR2.out.x
            obtain ⟨r0, r1, r2, r3⟩ := HR2.out.y
            simp only [Nat.zero_add] at z1 z2 z3 r1 r2 r3
            have q2 := HR2.out.p2
            have HS2 := hideK (HSV.out.kept hb2)
            have hb2w : Below B w w2 := HS2.out.bl.mono hB
            have cS := steps_any m n true a1 a2 a3 a4 c1 c2 c3 c4 B w2 (HL1.out.keep hb2w) (HT1.out.keep hb2w) (HL2.out.keep hb2w) (HT2.out.keep hb2w) (Nat.le_trans hB HS2.out.bl.size) HOM.out HON.out HKQ.out
            simp only [ndVal] at cS
            have HNE := hideK (show stepsP m n true = nextS g h (pa, pb, true) from HNS.out.symm)
            have hss : (stepsP m n true).length ≤ 6 := steps_len HOM.out
            generalize stepsP m n true = ss at *
            clear cF hb2 x0 x1 x2 x3 y0 y1 y2 y3 p2 hb2w
            go_wp2_with fail
            refine cS.mono ?_
            rintro e w3 ⟨⟨ast, cst, rfl, hst⟩, hb3⟩
            have HS3 := hideK (HS2.out.kept hb3)
            have HST := hideK hst
            have hssz : (ss.length : Int) ≤ 6 := by omega
            clear cS hst hb3 z0 z1 z2 z3 r0 r1 r2 r3 q2
            go_wp2_with fail
            have HOW := hideK (show ∀ j, (Value.slice (some ⟨ub, 0, none⟩) arr.length uc).ownBlock = some j → j < wr.heap.size from fun j hj => (HS.out.own.lt j hj).2)
            have hr2s := HR2.out.bl.size
            have HSTI := hideK (show STI w (.slice (some ⟨ub, 0, none⟩) arr.length uc) w3 ss ast from HST.out.imp id fun ⟨b, o, e, hl, hc⟩ => ⟨b, o, e, by omega, hl.2, fun q => by (have := HOW.out b q; omega), hc⟩)
            go_loopw [74] (fun i wz => ∃ (q : Nat) (arr' : List Av) (u' : Value), q ≤ ss.length ∧ i = .int .i64 (q : Int) ∧ arr' = (ss.take q).foldl (fun a s => arrP a s k) arr ∧ SE w g h (some ⟨gb, go, none⟩) (some ⟨hb1, ho, none⟩) cg ch arr' u' wz ∧ SR g h k arr' ∧ (∃ v, arr'[k]? = some v ∧ v.1.2 = (pa, pb, true)) ∧ STI w u' wz ss ast) (fun i _ => ss.length - (intOf i).toNat)
            case atStart => exact ⟨0, arr, _, Nat.zero_le _, rfl, rfl, HS3.out, HSR.out, ⟨_, HV.out, hVp⟩, HSTI.out⟩
            case round =>
              obtain ⟨q, arr', u', hql, rfl, har, hS', hSR', ⟨v, hv', hvp⟩, hsti⟩ := hrel
              clear HSTI HOW
              by_cases hqlt : q < ss.length
              · have hqz : (q : Int) < (ss.length : Int) := by omega
                obtain ⟨sb, so, rfl, hsb, hsl, hsu, hsc⟩ := hsti.resolve_left (fun e => by rw [e] at hqlt; simp at hqlt)
                obtain ⟨s0, s1, s2, s3⟩ := hsc q hqlt
                have hmem : ss[q] ∈ nextS g h (pa, pb, true) := by rw [← HNE.out]; exact List.getElem_mem hqlt
                have hslt := HSTL.out _ hmem
                have HADD := hideK (hSR'.add hv' (by rw [← hvp] at hmem; exact hslt) (by rw [hvp]; exact hmem))
                have HOLD := hideK (arrP_old (s := ss[q]) (k := k) hv')
                have HFT := hideK (show arrP arr' ss[q] k = (ss.take (q + 1)).foldl (fun a s => arrP a s k) arr from by rw [fold_take hqlt, har])
                have hl' := hSR'.len
                have hrg := fun p hp => (hSR'.lt p hp).2
                have HVP := hideK hvp
                have hAl : Below wr.heap.size wr (wr.alloc (.cells #[.string ss[q].1, .int .i64 (ss[q].2.1 : Int), .int .i64 (ss[q].2.2.1 : Int), .bool ss[q].2.2.2] 48)) := (Below.refl _ _).alloc (Nat.le_refl _) _
                have cR := arrive_any w g h _ _ cg ch arr' u' ss[q] k _ (hS'.kept hAl) hslt.1 hslt.2 hgl hhl (by omega) hrg
                have HSTI := hideK hsti
                have HRA := hideK (RF.of (fb := w.heap.size) (rb := w.heap.size + 1) (row := u'.ownBlock) hAl)
                clear hsti hsc hmem hslt hvp hv' har hS' hSR' hrg hAl
                generalize ss[q] = st at *
                obtain ⟨wd, sa, sb2, stt⟩ := st
                simp only at s0 s1 s2 s3 cR
                go_wp2_with fail
                refine cR.mono ?_
                rintro e w5 ⟨rfl, u5, hS5, hR5, hf5⟩
                have HS5 := hideK hS5
                have HT5 := hideK (HSTI.out.keep (HRA.out.trans hR5 (.inl rfl)) (hf5.imp id fun f j hj => Nat.le_trans (by simp) (f j hj)))
                clear cR hS5 hR5 hf5 s0 s1 s2 s3 HRA HSTI
                go_wp2_with fail
                go_roundw
                case rel => exact ⟨q + 1, _, u5, by omega, by go_num, HFT.out, HS5.out, HADD.out, ⟨v, HOLD.out, HVP.out⟩, HT5.out⟩
                case measure => simp [intOf]; omega
              · have hqz : ¬ (q : Int) < (ss.length : Int) := by omega
                have hqe : q = ss.length := by omega
                subst hqe
                rw [List.take_length] at har
                have HAR := hideK (show arr' = goOn g h k arr (pa, pb, true) from by rw [har, HNE.out]; rfl)
                have hkl : k + 1 ≤ arr'.length := (List.getElem?_eq_some_iff.1 hv').1
                have HS9 := hideK hS'
                have hkz : (k : Int) ≤ 80000 := by omega
                clear har hv' hvp hS' hSR' hsti
                go_wp2_with fail
                go_roundw
                case rel =>
                  refine ⟨k + 1, arr', u', by go_num, hkl, HS9.out, by rw [HAR.out]; exact HNX.out, ?_⟩
                  rw [HAR.out, ← HSO.out, show 2 * g.length * h.length - (k + 1) + 1 = 2 * g.length * h.length - k by omega]
                  exact HSRC.out
                case measure => simp [intOf]; omega
      · have HRD := hideK (rd_two wr pa pb tt m n a1 a2 a3 a4 c1 c2 c3 c4)
        clear HS0 HSX HSY HP0 m0 m1 m2 m3 n0 n1 n2 n3 d1 d2 d3 cu
        generalize (((wr.alloc (.cells #[.int .i64 (pa : Int), .int .i64 (pb : Int), .bool tt] 46)).alloc (.cells #[.int .i64 n.kind, .int .i64 n.so, .slice a3 n.labs.length c3, .slice a4 n.to.length c4] 53)).alloc (.cells #[.int .i64 m.kind, .int .i64 m.so, .slice a1 m.labs.length c1, .slice a2 m.to.length c2] 53)).drew = V at *
        have hVs := HRD.out.bl.size
        obtain ⟨x0, x1, x2, x3⟩ := HRD.out.x
        obtain ⟨y0, y1, y2, y3⟩ := HRD.out.y
        simp only [Nat.zero_add] at x1 x2 x3 y1 y2 y3
        have p2 := HRD.out.p2
        have HSV := hideK (HS.out.kept HRD.out.bl)
        have hbV : Below B w V := HSV.out.bl.mono hB
        cases tt with
        | false =>
          simp only [Bool.false_eq_true, if_false] at HFP
          have cF := failsItself_any m n a1 a2 a3 a4 c1 c2 c3 c4 B V (HL1.out.keep hbV) (HL2.out.keep hbV) (Nat.le_trans hB HSV.out.bl.size) (by have := (shp_len (okN_shp HOM.out)).1; omega) (by have := (shp_len (okN_shp HON.out)).1; omega)
          simp only [ndVal] at cF
          have HKE := hideK (fun q : failB m n = false => ((failB_iff m n).1 q).1)
          cases hq : failB m n with
          | true =>
            rw [hq] at cF HFP
            have HSO := hideK (srch_fail (f := 2 * g.length * h.length - k - 1) HV.out (by rw [hVp]; exact HFP.out))
            clear hq HKE
            go_wp2_with fail
            refine cF.mono ?_
            rintro e w2 ⟨rfl, hb2⟩
            have HR2 := hideK (HRD.out.keep hb2)
            have q2 := HR2.out.p2
            have HS2 := hideK (HSV.out.kept hb2)
            have cW := wayTo_any w g h _ _ cg ch arr _ k w2 HS2.out hlt (by omega) HSR.out.way
            clear cF hb2 x0 x1 x2 x3 y0 y1 y2 y3 p2
            go_wp2_with fail
            refine cW.mono ?_
            rintro e w3 ⟨⟨aw, cw, rfl, hla⟩, hb3⟩
            have HB3 := hideK (HS2.out.bl.trans (hb3.mono HS2.out.bl.size))
            have HLA := hideK hla
            clear cW hla hb3 q2
            go_wp2_with fail
            go_ret2
            refine ⟨.inr ⟨k, arr, ?_, aw, cw, rfl, HLA.out⟩, HB3.out⟩
            rw [← HSRC.out, show 2 * g.length * h.length - k = 2 * g.length * h.length - k - 1 + 1 by omega]
            exact HSO.out
          | false =>
            rw [hq] at cF HFP
            have HKQ := hideK (show m.kind = n.kind from HKE.out hq)
            have HNX := hideK (HSR.out.next HG.out HH.out HV.out (by rw [hVp]; exact HFP.out))
            have HSO := hideK (srch_go (f := 2 * g.length * h.length - (k + 1)) HV.out (by rw [hVp]; exact HFP.out))
            have HSTL := hideK (step_lt HG.out HH.out (p := (pa, pb, false)) hpa hpb ((failP_iff g h _).1 HFP.out))
            rw [hVp] at HNX HSO
            clear hq HKE
            go_wp2_with fail
            refine cF.mono ?_
            rintro e w2 ⟨rfl, hb2⟩
            have HR2 := hideK (HRD.out.keep hb2)
            obtain ⟨z0, z1, z2, z3⟩ := HR2.out.x
            obtain ⟨r0, r1, r2, r3⟩ := HR2.out.y
            simp only [Nat.zero_add] at z1 z2 z3 r1 r2 r3
            have q2 := HR2.out.p2
            have HS2 := hideK (HSV.out.kept hb2)
            have hb2w : Below B w w2 := HS2.out.bl.mono hB
            have cS := steps_any m n false a1 a2 a3 a4 c1 c2 c3 c4 B w2 (HL1.out.keep hb2w) (HT1.out.keep hb2w) (HL2.out.keep hb2w) (HT2.out.keep hb2w) (Nat.le_trans hB HS2.out.bl.size) HOM.out HON.out HKQ.out
            simp only [ndVal] at cS
            have HNE := hideK (show stepsP m n false = nextS g h (pa, pb, false) from HNS.out.symm)
            have hss : (stepsP m n false).length ≤ 6 := steps_len HOM.out
            generalize stepsP m n false = ss at *
            clear cF hb2 x0 x1 x2 x3 y0 y1 y2 y3 p2 hb2w
            go_wp2_with fail
            refine cS.mono ?_
            rintro e w3 ⟨⟨ast, cst, rfl, hst⟩, hb3⟩
            have HS3 := hideK (HS2.out.kept hb3)
            have HST := hideK hst
            have hssz : (ss.length : Int) ≤ 6 := by omega
            clear cS hst hb3 z0 z1 z2 z3 r0 r1 r2 r3 q2
            go_wp2_with fail
            have HOW := hideK (show ∀ j, (Value.slice (some ⟨ub, 0, none⟩) arr.length uc).ownBlock = some j → j < wr.heap.size from fun j hj => (HS.out.own.lt j hj).2)
            have hr2s := HR2.out.bl.size
            have HSTI := hideK (show STI w (.slice (some ⟨ub, 0, none⟩) arr.length uc) w3 ss ast from HST.out.imp id fun ⟨b, o, e, hl, hc⟩ => ⟨b, o, e, by omega, hl.2, fun q => by (have := HOW.out b q; omega), hc⟩)
            go_loopw [74] (fun i wz => ∃ (q : Nat) (arr' : List Av) (u' : Value), q ≤ ss.length ∧ i = .int .i64 (q : Int) ∧ arr' = (ss.take q).foldl (fun a s => arrP a s k) arr ∧ SE w g h (some ⟨gb, go, none⟩) (some ⟨hb1, ho, none⟩) cg ch arr' u' wz ∧ SR g h k arr' ∧ (∃ v, arr'[k]? = some v ∧ v.1.2 = (pa, pb, false)) ∧ STI w u' wz ss ast) (fun i _ => ss.length - (intOf i).toNat)
            case atStart => exact ⟨0, arr, _, Nat.zero_le _, rfl, rfl, HS3.out, HSR.out, ⟨_, HV.out, hVp⟩, HSTI.out⟩
            case round =>
              obtain ⟨q, arr', u', hql, rfl, har, hS', hSR', ⟨v, hv', hvp⟩, hsti⟩ := hrel
              clear HSTI HOW
              by_cases hqlt : q < ss.length
              · have hqz : (q : Int) < (ss.length : Int) := by omega
                obtain ⟨sb, so, rfl, hsb, hsl, hsu, hsc⟩ := hsti.resolve_left (fun e => by rw [e] at hqlt; simp at hqlt)
                obtain ⟨s0, s1, s2, s3⟩ := hsc q hqlt
                have hmem : ss[q] ∈ nextS g h (pa, pb, false) := by rw [← HNE.out]; exact List.getElem_mem hqlt
                have hslt := HSTL.out _ hmem
                have HADD := hideK (hSR'.add hv' (by rw [← hvp] at hmem; exact hslt) (by rw [hvp]; exact hmem))
                have HOLD := hideK (arrP_old (s := ss[q]) (k := k) hv')
                have HFT := hideK (show arrP arr' ss[q] k = (ss.take (q + 1)).foldl (fun a s => arrP a s k) arr from by rw [fold_take hqlt, har])
                have hl' := hSR'.len
                have hrg := fun p hp => (hSR'.lt p hp).2
                have HVP := hideK hvp
                have hAl : Below wr.heap.size wr (wr.alloc (.cells #[.string ss[q].1, .int .i64 (ss[q].2.1 : Int), .int .i64 (ss[q].2.2.1 : Int), .bool ss[q].2.2.2] 48)) := (Below.refl _ _).alloc (Nat.le_refl _) _
                have cR := arrive_any w g h _ _ cg ch arr' u' ss[q] k _ (hS'.kept hAl) hslt.1 hslt.2 hgl hhl (by omega) hrg
                have HSTI := hideK hsti
                have HRA := hideK (RF.of (fb := w.heap.size) (rb := w.heap.size + 1) (row := u'.ownBlock) hAl)
                clear hsti hsc hmem hslt hvp hv' har hS' hSR' hrg hAl
                generalize ss[q] = st at *
                obtain ⟨wd, sa, sb2, stt⟩ := st
                simp only at s0 s1 s2 s3 cR
                go_wp2_with fail
                refine cR.mono ?_
                rintro e w5 ⟨rfl, u5, hS5, hR5, hf5⟩
                have HS5 := hideK hS5
                have HT5 := hideK (HSTI.out.keep (HRA.out.trans hR5 (.inl rfl)) (hf5.imp id fun f j hj => Nat.le_trans (by simp) (f j hj)))
                clear cR hS5 hR5 hf5 s0 s1 s2 s3 HRA HSTI
                go_wp2_with fail
                go_roundw
                case rel => exact ⟨q + 1, _, u5, by omega, by go_num, HFT.out, HS5.out, HADD.out, ⟨v, HOLD.out, HVP.out⟩, HT5.out⟩
                case measure => simp [intOf]; omega
              · have hqz : ¬ (q : Int) < (ss.length : Int) := by omega
                have hqe : q = ss.length := by omega
                subst hqe
                rw [List.take_length] at har
                have HAR := hideK (show arr' = goOn g h k arr (pa, pb, false) from by rw [har, HNE.out]; rfl)
                have hkl : k + 1 ≤ arr'.length := (List.getElem?_eq_some_iff.1 hv').1
                have HS9 := hideK hS'
                have hkz : (k : Int) ≤ 80000 := by omega
                clear har hv' hvp hS' hSR' hsti
                go_wp2_with fail
                go_roundw
                case rel =>
                  refine ⟨k + 1, arr', u', by go_num, hkl, HS9.out, by rw [HAR.out]; exact HNX.out, ?_⟩
                  rw [HAR.out, ← HSO.out, show 2 * g.length * h.length - (k + 1) + 1 = 2 * g.length * h.length - k by omega]
                  exact HSRC.out
                case measure => simp [intOf]; omega
        | true =>
          simp only [if_true] at HFP
          have cF := failsItself_any n m a3 a4 a1 a2 c3 c4 c1 c2 B V (HL2.out.keep hbV) (HL1.out.keep hbV) (Nat.le_trans hB HSV.out.bl.size) (by have := (shp_len (okN_shp HON.out)).1; omega) (by have := (shp_len (okN_shp HOM.out)).1; omega)
          simp only [ndVal] at cF
          have HKE := hideK (fun q : failB n m = false => ((failB_iff n m).1 q).1)
          cases hq : failB n m with
          | true =>
            rw [hq] at cF HFP
            have HSO := hideK (srch_fail (f := 2 * g.length * h.length - k - 1) HV.out (by rw [hVp]; exact HFP.out))
            clear hq HKE
            go_wp2_with fail
            refine cF.mono ?_
            rintro e w2 ⟨rfl, hb2⟩
            have HR2 := hideK (HRD.out.keep hb2)
            have q2 := HR2.out.p2
            have HS2 := hideK (HSV.out.kept hb2)
            have cW := wayTo_any w g h _ _ cg ch arr _ k w2 HS2.out hlt (by omega) HSR.out.way
            clear cF hb2 x0 x1 x2 x3 y0 y1 y2 y3 p2
            go_wp2_with fail
            refine cW.mono ?_
            rintro e w3 ⟨⟨aw, cw, rfl, hla⟩, hb3⟩
            have HB3 := hideK (HS2.out.bl.trans (hb3.mono HS2.out.bl.size))
            have HLA := hideK hla
            clear cW hla hb3 q2
            go_wp2_with fail
            go_ret2
            refine ⟨.inr ⟨k, arr, ?_, aw, cw, rfl, HLA.out⟩, HB3.out⟩
            rw [← HSRC.out, show 2 * g.length * h.length - k = 2 * g.length * h.length - k - 1 + 1 by omega]
            exact HSO.out
          | false =>
            rw [hq] at cF HFP
            have HKQ := hideK (show m.kind = n.kind from (HKE.out hq).symm)
            have HNX := hideK (HSR.out.next HG.out HH.out HV.out (by rw [hVp]; exact HFP.out))
            have HSO := hideK (srch_go (f := 2 * g.length * h.length - (k + 1)) HV.out (by rw [hVp]; exact HFP.out))
            have HSTL := hideK (step_lt HG.out HH.out (p := (pa, pb, true)) hpa hpb ((failP_iff g h _).1 HFP.out))
            rw [hVp] at HNX HSO
            clear hq HKE
            go_wp2_with fail
            refine cF.mono ?_
            rintro e w2 ⟨rfl, hb2⟩
            have HR2 := hideK (HRD.out.keep hb2)
            obtain ⟨z0, z1, z2, z3⟩ := HR2.out.x
            obtain ⟨r0, r1, r2, r3⟩ := HR2.out.y
            simp only [Nat.zero_add] at z1 z2 z3 r1 r2 r3
            have q2 := HR2.out.p2
            have HS2 := hideK (HSV.out.kept hb2)
            have hb2w : Below B w w2 := HS2.out.bl.mono hB
            have cS := steps_any m n true a1 a2 a3 a4 c1 c2 c3 c4 B w2 (HL1.out.keep hb2w) (HT1.out.keep hb2w) (HL2.out.keep hb2w) (HT2.out.keep hb2w) (Nat.le_trans hB HS2.out.bl.size) HOM.out HON.out HKQ.out
            simp only [ndVal] at cS
            have HNE := hideK (show stepsP m n true = nextS g h (pa, pb, true) from HNS.out.symm)
            have hss : (stepsP m n true).length ≤ 6 := steps_len HOM.out
            generalize stepsP m n true = ss at *
            clear cF hb2 x0 x1 x2 x3 y0 y1 y2 y3 p2 hb2w
            go_wp2_with fail
            refine cS.mono ?_
            rintro e w3 ⟨⟨ast, cst, rfl, hst⟩, hb3⟩
            have HS3 := hideK (HS2.out.kept hb3)
            have HST := hideK hst
            have hssz : (ss.length : Int) ≤ 6 := by omega
            clear cS hst hb3 z0 z1 z2 z3 r0 r1 r2 r3 q2
            go_wp2_with fail
            have HOW := hideK (show ∀ j, (Value.slice (some ⟨ub, 0, none⟩) arr.length uc).ownBlock = some j → j < wr.heap.size from fun j hj => (HS.out.own.lt j hj).2)
            have hr2s := HR2.out.bl.size
            have HSTI := hideK (show STI w (.slice (some ⟨ub, 0, none⟩) arr.length uc) w3 ss ast from HST.out.imp id fun ⟨b, o, e, hl, hc⟩ => ⟨b, o, e, by omega, hl.2, fun q => by (have := HOW.out b q; omega), hc⟩)
            go_loopw [74] (fun i wz => ∃ (q : Nat) (arr' : List Av) (u' : Value), q ≤ ss.length ∧ i = .int .i64 (q : Int) ∧ arr' = (ss.take q).foldl (fun a s => arrP a s k) arr ∧ SE w g h (some ⟨gb, go, none⟩) (some ⟨hb1, ho, none⟩) cg ch arr' u' wz ∧ SR g h k arr' ∧ (∃ v, arr'[k]? = some v ∧ v.1.2 = (pa, pb, true)) ∧ STI w u' wz ss ast) (fun i _ => ss.length - (intOf i).toNat)
            case atStart => exact ⟨0, arr, _, Nat.zero_le _, rfl, rfl, HS3.out, HSR.out, ⟨_, HV.out, hVp⟩, HSTI.out⟩
            case round =>
              obtain ⟨q, arr', u', hql, rfl, har, hS', hSR', ⟨v, hv', hvp⟩, hsti⟩ := hrel
              clear HSTI HOW
              by_cases hqlt : q < ss.length
              · have hqz : (q : Int) < (ss.length : Int) := by omega
                obtain ⟨sb, so, rfl, hsb, hsl, hsu, hsc⟩ := hsti.resolve_left (fun e => by rw [e] at hqlt; simp at hqlt)
                obtain ⟨s0, s1, s2, s3⟩ := hsc q hqlt
                have hmem : ss[q] ∈ nextS g h (pa, pb, true) := by rw [← HNE.out]; exact List.getElem_mem hqlt
                have hslt := HSTL.out _ hmem
                have HADD := hideK (hSR'.add hv' (by rw [← hvp] at hmem; exact hslt) (by rw [hvp]; exact hmem))
                have HOLD := hideK (arrP_old (s := ss[q]) (k := k) hv')
                have HFT := hideK (show arrP arr' ss[q] k = (ss.take (q + 1)).foldl (fun a s => arrP a s k) arr from by rw [fold_take hqlt, har])
                have hl' := hSR'.len
                have hrg := fun p hp => (hSR'.lt p hp).2
                have HVP := hideK hvp
                have hAl : Below wr.heap.size wr (wr.alloc (.cells #[.string ss[q].1, .int .i64 (ss[q].2.1 : Int), .int .i64 (ss[q].2.2.1 : Int), .bool ss[q].2.2.2] 48)) := (Below.refl _ _).alloc (Nat.le_refl _) _
                have cR := arrive_any w g h _ _ cg ch arr' u' ss[q] k _ (hS'.kept hAl) hslt.1 hslt.2 hgl hhl (by omega) hrg
                have HSTI := hideK hsti
                have HRA := hideK (RF.of (fb := w.heap.size) (rb := w.heap.size + 1) (row := u'.ownBlock) hAl)
                clear hsti hsc hmem hslt hvp hv' har hS' hSR' hrg hAl
                generalize ss[q] = st at *
                obtain ⟨wd, sa, sb2, stt⟩ := st
                simp only at s0 s1 s2 s3 cR
                go_wp2_with fail
                refine cR.mono ?_
                rintro e w5 ⟨rfl, u5, hS5, hR5, hf5⟩
                have HS5 := hideK hS5
                have HT5 := hideK (HSTI.out.keep (HRA.out.trans hR5 (.inl rfl)) (hf5.imp id fun f j hj => Nat.le_trans (by simp) (f j hj)))
                clear cR hS5 hR5 hf5 s0 s1 s2 s3 HRA HSTI
                go_wp2_with fail
                go_roundw
                case rel => exact ⟨q + 1, _, u5, by omega, by go_num, HFT.out, HS5.out, HADD.out, ⟨v, HOLD.out, HVP.out⟩, HT5.out⟩
                case measure => simp [intOf]; omega
              · have hqz : ¬ (q : Int) < (ss.length : Int) := by omega
                have hqe : q = ss.length := by omega
                subst hqe
                rw [List.take_length] at har
                have HAR := hideK (show arr' = goOn g h k arr (pa, pb, true) from by rw [har, HNE.out]; rfl)
                have hkl : k + 1 ≤ arr'.length := (List.getElem?_eq_some_iff.1 hv').1
                have HS9 := hideK hS'
                have hkz : (k : Int) ≤ 80000 := by omega
                clear har hv' hvp hS' hSR' hsti
                go_wp2_with fail
                go_roundw
                case rel =>
                  refine ⟨k + 1, arr', u', by go_num, hkl, HS9.out, by rw [HAR.out]; exact HNX.out, ?_⟩
                  rw [HAR.out, ← HSO.out, show 2 * g.length * h.length - (k + 1) + 1 = 2 * g.length * h.length - k by omega]
                  exact HSRC.out
                case measure => simp [intOf]; omega
    · have hltz : ¬ (k : Int) < (arr.length : Int) := by omega
      obtain ⟨ua, uc, rfl⟩ := sliceH_own hS.own
      have cu := hS.cu
      have HSO := hideK (hsr.symm.trans (srch_stop (by omega)))
      have HB := hideK hS.bl
      clear hS hSR hsr
      go_wp2_with fail
      go_ret2
      first | exact ⟨.inl ⟨arr, HSO.out, rfl⟩, HB.out⟩ | exact ⟨.inl ⟨⟨arr, HSO.out⟩, rfl⟩, HB.out⟩ | exact ⟨.inl ⟨arr, HSO.out⟩, HB.out⟩
end Go.Proofs.YtlphhlnoemlbaaaDoor
