/-
  The contracts of graph.typeFrom, for every node, and of graph.Back, for every graph that graph.Check lets by.
-/
import Derived.Test.YtnedgkcejlhnbaaDoorUp
import Derived.Test.YtnedgkcejlhnbaaDoorNm
namespace Go.Proofs.YtnedgkcejlhnbaaDoor
open Go.RowKit Go.Shelf

theorem typeFrom_any (g : List Nd) (hg : GN g) (ag : Option Addr) (cg B wb pb mb : Nat) (hB1 : B ≤ wb) (hB2 : B ≤ pb) (hB3 : B ≤ mb) : ∀ (f : Nat) (ps : Nat → Bool) (i : Nat) (st : SB) (w : World), 1 ≤ f → 61 ≤ f + st.2 → i < g.length → phiB st.2 ≤ 10000 → GAt w B g ag → B ≤ w.heap.size → WY g.length ag cg wb pb mb ps st w →
    Calls Tryd.prog 25 #[.pointer (some ⟨wb, 0, none⟩), .int .i64 (i : Int)] w (BKPost g f ag cg wb pb mb ps i st w)
  | 0, _, _, _, _, h1, _, _, _, _, _, _ => absurd h1 (by omega)
  | f + 1, ps, i, (met, q), w, _, hf, hi, hp, hga, hB0, hW => by
    have hf' : 61 ≤ f + 1 + q := hf
    have hp' : phiB q ≤ 10000 := hp
    by_cases h60 : 60 < q + 1
    · exact typeFrom_over g f ag cg wb pb mb ps i met q w h60 (by unfold phiB at hp'; omega) hW
    · cases hps : ps i with
      | true => exact typeFrom_var g f ag cg wb pb mb ps i met q w h60 hi hg.le hps hW
      | false => exact typeFrom_node g hg f ag cg B wb pb mb ps i met q w h60 hi hps hf' hga hB0 hB1 hB2 hB3 hW (fun ps i st w h1 h2 h3 h4 h5 h6 => typeFrom_any g hg ag cg B wb pb mb hB1 hB2 hB3 f ps i st w (by omega) h1 h2 h3 h4 h5 h6)
theorem infoBo : (Tryd.prog.info? 4).map (fun i => (i.zero, i.size, i.bytes)) = some (some (.bool false), 1, 1) := by kernel_rfl
theorem makeBo (n : Nat) (hn : n ≤ 1000) : ∃ Z : Array Value, (∀ j, j < n → Z[j]? = some (.bool false)) ∧ ∀ w : World, (Instr.makeSlice 68 (.int .i64 (n : Int)) (.int .i64 (n : Int))).run Tryd.prog w = .ok (.slice (some ⟨w.heap.size, 0, none⟩) n n) (w.alloc (.cells Z 4)) := by
  obtain ⟨i, hi, hx⟩ := Option.map_eq_some_iff.1 infoBo
  simp only [Prod.mk.injEq] at hx
  obtain ⟨h1, h2, h3⟩ := hx
  refine ⟨madeCells (Value.bool false).cells (n * i.size), fun j hj => ?_, fun w => ?_⟩
  · rw [h2, Nat.mul_one]
    unfold madeCells
    rw [Array.getElem?_map, Array.getElem?_range, if_pos hj]
    simp [Value.cells, Nat.mod_one]
  · have := run_make (P := Tryd.prog) w 68 4 i _ Tryd.underlying68 hi h1 .i64 .i64 (n : Int) (n : Int) (by omega) (by omega) (by rw [h3]; omega) (by omega)
    exact this
/-- what graph.Back answers -/
def BCPost (g : List Nd) (w : World) (e : Ending) (w' : World) : Prop :=
  ((60 < (backP g).2.2 ∧ e = .returned (.tuple #[.agg #[.int .i64 0, .int .i64 0, .string ⟨#[]⟩, .slice none 0 0, .slice none 0 0], .int .i64 2])) ∨ ((backP g).2.2 ≤ 60 ∧ ∃ al cl ak ck d, e = .returned (.tuple #[tyVal (backP g).1 al cl ak ck, .int .i64 0]) ∧ TyBd (backP g).1 cl ck ∧ LP w' (fun b => w.heap.size ≤ b ∧ b < w'.heap.size) (backP g).1.labels al ∧ KP w' (fun b => w.heap.size ≤ b ∧ b < w'.heap.size) d (backP g).1.kids ak)) ∧ Below w.heap.size w w'
theorem WY.made {W : World} {n : Nat} {ag : Option Addr} {cg wb pb mb : Nat} {Z1 Z2 : Array Value} {t1 t2 t3 : TypeId} (h1 : W.heap[wb]? = some (.cells #[.slice ag n cg, .slice (some ⟨pb, 0, none⟩) n n, .slice (some ⟨mb, 0, none⟩) n n, .int .i64 0] t1)) (h2 : W.heap[pb]? = some (.cells Z1 t2)) (h3 : W.heap[mb]? = some (.cells Z2 t3)) (hz1 : ∀ j, j < n → Z1[j]? = some (.bool false)) (hz2 : ∀ j, j < n → Z2[j]? = some (.bool false)) (n1 : wb ≠ pb) (n2 : wb ≠ mb) (n3 : pb ≠ mb) : WY n ag cg wb pb mb (fun _ => false) (fun _ => false, 0) W := by
  refine ⟨(heap_cellsA h1 0).trans rfl, (heap_cellsA h1 1).trans rfl, (heap_cellsA h1 2).trans rfl, (heap_cellsA h1 3).trans rfl, fun i hi => (heap_cellsA h2 i).trans (hz1 i hi), fun i hi => (heap_cellsA h3 i).trans (hz2 i hi), fun o => by simp [World.frozen?, h1], fun o => by simp [World.frozen?, h2], fun o => by simp [World.frozen?, h3], n1, n2, n3, (Array.getElem?_eq_some_iff.1 h1).1, (Array.getElem?_eq_some_iff.1 h2).1, (Array.getElem?_eq_some_iff.1 h3).1⟩
theorem lit_ty (V : World) (t : Ty) (la : Option Addr) (lc : Nat) (ka : Option Addr) (kc : Nat) : TyAt (V.alloc (.cells #[.int .i64 t.kind, .int .i64 t.so, .string t.name, .slice la t.labels.length lc, .slice ka t.kids.length kc] 35)) V.heap.size 0 t la lc ka kc := ⟨by go_cell, by go_cell, by go_cell, by go_cell, by go_cell⟩
theorem al3 (w : World) (a b c : Obj) : (((w.alloc a).alloc b).alloc c).drew.heap[w.heap.size]? = some a ∧ (((w.alloc a).alloc b).alloc c).drew.heap[w.heap.size + 1]? = some b ∧ (((w.alloc a).alloc b).alloc c).drew.heap[w.heap.size + 1 + 1]? = some c ∧ Below w.heap.size w (((w.alloc a).alloc b).alloc c).drew := by
  have s1 : (w.alloc a).heap.size = w.heap.size + 1 := by simp
  have s2 : ((w.alloc a).alloc b).heap.size = w.heap.size + 1 + 1 := by simp
  have h1 := heap_alloc_new w a
  have h2 := heap_alloc_new (w.alloc a) b
  have h3 := heap_alloc_new ((w.alloc a).alloc b) c
  rw [s1] at h2
  rw [s2] at h3
  refine ⟨?_, ?_, h3, ((((Below.refl _ _).alloc (Nat.le_refl _) _).alloc (by simp) _).alloc (by simp; omega) _).drew⟩
  · exact (heap_alloc_old _ _ (by simp; omega)).trans ((heap_alloc_old _ _ (by simp)).trans h1)
  · exact (heap_alloc_old _ _ (by simp)).trans h2
set_option maxRecDepth 100000 in
set_option maxHeartbeats 8000000 in
theorem back_any (g : List Nd) (hg : GN g) (ag : Option Addr) (cg B : Nat) (w : World) (hga : GAt w B g ag) (hB : B ≤ w.heap.size) :
    Calls Tryd.prog 8 #[.slice ag g.length cg] w (BCPost g w) := by
  unfold BCPost
  obtain ⟨Z, hZ, hmk⟩ := makeBo g.length (by have := hg.le; omega)
  have hA0 : Below w.heap.size w (w.alloc (.cells #[.int .i64 0, .int .i64 0, .string ⟨#[]⟩, .slice none 0 0, .slice none 0 0] 35)) := (Below.refl _ _).alloc (Nat.le_refl _) _
  have c1 := checkG_any g ag cg B (w.alloc (.cells #[.int .i64 0, .int .i64 0, .string ⟨#[]⟩, .slice none 0 0, .slice none 0 0] 35)) hg (hga.keep (hA0.mono hB)) (by simp; omega)
  have HR0 := hideK (RBX.new w)
  have HA0 := hideK hA0
  have HGA := hideK (fun (W : World) (hb : Below w.heap.size w W) => show GAt W B g ag from hga.keep (hb.mono hB))
  have hgl : (g.length : Int) ≤ 200 := by have := hg.le; omega
  have HP := hideK hg.pos
  have HG := hideK hg
  clear hga hA0
  go_enter Tryd.func8, Tryd.ntmps8
  go_wp2_with fail
  refine c1.mono ?_
  rintro e w1 ⟨rfl, hb1⟩
  have HR1 := hideK (HR0.out.keep hb1)
  have HB1 := hideK (HA0.out.trans (hb1.mono HA0.out.size))
  clear c1 hb1 HR0 HA0
  go_upto_region 4 with fail
  go_cut [5] (fun s5 wc => ∃ wb pb mb, s5 = .pointer (some ⟨wb, 0, none⟩) ∧ w1.heap.size ≤ wb ∧ w1.heap.size ≤ pb ∧ w1.heap.size ≤ mb ∧ WY g.length ag cg wb pb mb (fun _ => false) (fun _ => false, 0) wc ∧ Below w1.heap.size w1 wc)
  case first =>
    go_region
    all_goals
      go_wp2_with fail
      go_meet
      first
      | exact ⟨_, _, _, rfl, by omega, by omega, by omega, WY.made (al3 w1 _ _ _).1 (al3 w1 _ _ _).2.1 (al3 w1 _ _ _).2.2.1 hZ hZ (by omega) (by omega) (by omega), (al3 w1 _ _ _).2.2.2⟩
      | exact ⟨_, _, _, rfl, by omega, by omega, by omega, WY.made (al3 w1 _ _ _).1 (al3 w1 _ _ _).2.2.1 (al3 w1 _ _ _).2.1 hZ hZ (by omega) (by omega) (by omega), (al3 w1 _ _ _).2.2.2⟩
      | exact ⟨_, _, _, rfl, by omega, by omega, by omega, WY.made (al3 w1 _ _ _).2.1 (al3 w1 _ _ _).1 (al3 w1 _ _ _).2.2.1 hZ hZ (by omega) (by omega) (by omega), (al3 w1 _ _ _).2.2.2⟩
      | exact ⟨_, _, _, rfl, by omega, by omega, by omega, WY.made (al3 w1 _ _ _).2.1 (al3 w1 _ _ _).2.2.1 (al3 w1 _ _ _).1 hZ hZ (by omega) (by omega) (by omega), (al3 w1 _ _ _).2.2.2⟩
      | exact ⟨_, _, _, rfl, by omega, by omega, by omega, WY.made (al3 w1 _ _ _).2.2.1 (al3 w1 _ _ _).1 (al3 w1 _ _ _).2.1 hZ hZ (by omega) (by omega) (by omega), (al3 w1 _ _ _).2.2.2⟩
      | exact ⟨_, _, _, rfl, by omega, by omega, by omega, WY.made (al3 w1 _ _ _).2.2.1 (al3 w1 _ _ _).2.1 (al3 w1 _ _ _).1 hZ hZ (by omega) (by omega) (by omega), (al3 w1 _ _ _).2.2.2⟩
  case rest =>
    obtain ⟨wb, pb, mb, rfl, h1, h2, h3, hWY, hbc⟩ := hcut
    have hsz1 := HB1.out.size
    have hszc := hbc.size
    have HBc := hideK (HB1.out.trans (hbc.mono hsz1))
    have cT := typeFrom_any g hg ag cg B wb pb mb (by omega) (by omega) (by omega) 61 (fun _ => false) 0 (fun _ => false, 0) wc (by decide) (by decide) HP.out (by decide) (HGA.out wc HBc.out) (by omega) hWY
    unfold BKPost at cT
    rw [show bkT g 61 (fun _ => false) 0 (fun _ => false, 0) = backP g from rfl] at cT
    simp only [Int.ofNat_zero] at cT
    have HRc := hideK (HR1.out.keep hbc)
    have hrl := HR1.out.lt
    clear hg hWY hbc HR1 hZ hmk HB1 HG HGA HP
    rcases hbk : backP g with ⟨bT, bm, bp⟩
    rw [hbk] at cT
    have HBE := hideK hbk
    clear hbk
    simp only at cT
    go_wp2_with fail
    refine cT.mono ?_
    rintro e w2 ⟨⟨al, cl, ak, ck, d, rfl, hbd, hlp, hkp⟩, hwy2, hbt2⟩
    have HR2 := hideK ((HRc.out.blk (hbt2.block w.heap.size (by omega) (by omega) (by omega) (by omega)) hbt2.size).keep ((Below.refl _ _).alloc (Nat.le_refl _) (.cells #[.int .i64 bT.kind, .int .i64 bT.so, .string bT.name, .slice al bT.labels.length cl, .slice ak bT.kids.length ck] 35)))
    have HB2 := hideK ((show Below w.heap.size w w2 from HBc.out.trans (hbt2.bel (by omega) (by omega) (by omega) (by omega))).alloc (by have := hbt2.size; omega) (.cells #[.int .i64 bT.kind, .int .i64 bT.so, .string bT.name, .slice al bT.labels.length cl, .slice ak bT.kids.length ck] 35))
    have c3 : (w2.alloc (.cells #[.int .i64 bT.kind, .int .i64 bT.so, .string bT.name, .slice al bT.labels.length cl, .slice ak bT.kids.length ck] 35)).cell? ⟨wb, 3, none⟩ = some (.int .i64 (bp : Int)) := (hwy2.keep ((Below.refl _ _).alloc (Nat.le_refl _) (.cells #[.int .i64 bT.kind, .int .i64 bT.so, .string bT.name, .slice al bT.labels.length cl, .slice ak bT.kids.length ck] 35))).c3
    have HTY := hideK (lit_ty w2 bT al cl ak ck)
    have HLP := hideK (hlp.keep (W' := w2.alloc (.cells #[.int .i64 bT.kind, .int .i64 bT.so, .string bT.name, .slice al bT.labels.length cl, .slice ak bT.kids.length ck] 35)) (Q := fun b => wc.heap.size ≤ b ∧ b < w2.heap.size) (fun b o hb => World.cell?_alloc_past _ _ _ hb.2) (fun b hb => hb))
    have HKP := hideK (hkp.keep (W' := w2.alloc (.cells #[.int .i64 bT.kind, .int .i64 bT.so, .string bT.name, .slice al bT.labels.length cl, .slice ak bT.kids.length ck] 35)) (Q := fun b => wc.heap.size ≤ b ∧ b < w2.heap.size) (fun b o hb => World.cell?_alloc_past _ _ _ hb.2) (fun b hb => hb))
    have HBD := hideK hbd
    have HSZ := hideK (show (w2.alloc (.cells #[.int .i64 bT.kind, .int .i64 bT.so, .string bT.name, .slice al bT.labels.length cl, .slice ak bT.kids.length ck] 35)).heap.size = w2.heap.size + 1 from by simp)
    have hbt := hbt2.size
    clear cT hwy2 hbt2 hlp hkp hbd HRc HBc
    simp only [tyVal]
    go_upto_region 6 with fail
    generalize w2.alloc (.cells #[.int .i64 bT.kind, .int .i64 bT.so, .string bT.name, .slice al bT.labels.length cl, .slice ak bT.kids.length ck] 35) = W5 at *
    obtain ⟨z0, z1, z2, z3, z4, zf, zl⟩ := HR2.out
    have f0 := zf 0
    have f1 := zf 1
    have f2 := zf 2
    have f3 := zf 3
    have f4 := zf 4
    obtain ⟨t0, t1, t2, t3, t4⟩ := HTY.out
    simp only [Nat.zero_add] at t1 t2 t3 t4
    clear zf
    by_cases h60 : 60 < bp
    · have hz : (60 : Int) < (bp : Int) := by omega
      have HH := hideK h60
      have HB9 := hideK (st5_below w.heap.size 0 (.int .i64 0) (.int .i64 0) (.string ⟨#[]⟩) (.slice none 0 0) (.slice none 0 0) HB2.out (Nat.le_refl _))
      have HTA := hideK (show TyAt (st5 W5 w.heap.size 0 (.int .i64 0) (.int .i64 0) (.string ⟨#[]⟩) (.slice none 0 0) (.slice none 0 0)) w.heap.size 0 zT none 0 none 0 from st5_at W5 _ 0 zT none 0 none 0 (fun j hj => by
        rw [Nat.zero_add]
        have : j = 0 ∨ j = 1 ∨ j = 2 ∨ j = 3 ∨ j = 4 := by omega
        rcases this with rfl | rfl | rfl | rfl | rfl
        · exact ⟨_, z0⟩
        · exact ⟨_, z1⟩
        · exact ⟨_, z2⟩
        · exact ⟨_, z3⟩
        · exact ⟨_, z4⟩))
      clear h60
      go_wp2_with fail
      change bodyPost _ _ _ _ _ (st5 W5 w.heap.size 0 (.int .i64 0) (.int .i64 0) (.string ⟨#[]⟩) (.slice none 0 0) (.slice none 0 0))
      generalize st5 W5 w.heap.size 0 (.int .i64 0) (.int .i64 0) (.string ⟨#[]⟩) (.slice none 0 0) (.slice none 0 0) = W9 at *
      obtain ⟨r0, r1, r2, r3, r4⟩ := HTA.out
      simp only [Nat.zero_add, zT, List.length_nil] at r0 r1 r2 r3 r4
      refine bodyPost_ret (v := .tuple #[.agg #[.int .i64 0, .int .i64 0, .string ⟨#[]⟩, .slice none 0 0, .slice none 0 0], .int .i64 2]) (by simp [results, Tryd.results8, go_sem, r0, r1, r2, r3, r4]) rfl ?_
      rw [HBE.out]
      exact ⟨.inl ⟨HH.out, rfl⟩, HB9.out⟩
    · have hz : ¬ (60 : Int) < (bp : Int) := by omega
      have HH := hideK (show bp ≤ 60 by omega)
      have HB9 := hideK (st5_below w.heap.size 0 (.int .i64 bT.kind) (.int .i64 bT.so) (.string bT.name) (.slice al bT.labels.length cl) (.slice ak bT.kids.length ck) HB2.out (Nat.le_refl _))
      have HTA := hideK (st5_at W5 w.heap.size 0 bT al cl ak ck (fun j hj => by
        rw [Nat.zero_add]
        have : j = 0 ∨ j = 1 ∨ j = 2 ∨ j = 3 ∨ j = 4 := by omega
        rcases this with rfl | rfl | rfl | rfl | rfl
        · exact ⟨_, z0⟩
        · exact ⟨_, z1⟩
        · exact ⟨_, z2⟩
        · exact ⟨_, z3⟩
        · exact ⟨_, z4⟩))
      have HK9 := hideK (show ∀ b o, (wc.heap.size ≤ b ∧ b < w2.heap.size) → (st5 W5 w.heap.size 0 (.int .i64 bT.kind) (.int .i64 bT.so) (.string bT.name) (.slice al bT.labels.length cl) (.slice ak bT.kids.length ck)).cell? ⟨b, o, none⟩ = W5.cell? ⟨b, o, none⟩ from fun b o hb => st5_other _ _ _ _ _ _ _ _ _ _ (.inl (by omega)))
      have HS9 := hideK (show (st5 W5 w.heap.size 0 (.int .i64 bT.kind) (.int .i64 bT.so) (.string bT.name) (.slice al bT.labels.length cl) (.slice ak bT.kids.length ck)).heap.size = w2.heap.size + 1 from (st5_size _ _ _ _ _ _ _ _).trans HSZ.out)
      clear h60
      go_wp2_with fail
      change bodyPost _ _ _ _ _ (st5 W5 w.heap.size 0 (.int .i64 bT.kind) (.int .i64 bT.so) (.string bT.name) (.slice al bT.labels.length cl) (.slice ak bT.kids.length ck))
      generalize st5 W5 w.heap.size 0 (.int .i64 bT.kind) (.int .i64 bT.so) (.string bT.name) (.slice al bT.labels.length cl) (.slice ak bT.kids.length ck) = W9 at *
      obtain ⟨r0, r1, r2, r3, r4⟩ := HTA.out
      simp only [Nat.zero_add] at r0 r1 r2 r3 r4
      refine bodyPost_ret (v := .tuple #[.agg #[.int .i64 bT.kind, .int .i64 bT.so, .string bT.name, .slice al bT.labels.length cl, .slice ak bT.kids.length ck], .int .i64 0]) (by simp [results, Tryd.results8, go_sem, r0, r1, r2, r3, r4]) rfl ?_
      have hs9 := HS9.out
      rw [HBE.out]
      exact ⟨.inr ⟨HH.out, al, cl, ak, ck, rfl, HBD.out, HLP.out.keep HK9.out (fun b hb => by omega), d, HKP.out.keep HK9.out (fun b hb => by omega)⟩, HB9.out⟩
end Go.Proofs.YtnedgkcejlhnbaaDoor
