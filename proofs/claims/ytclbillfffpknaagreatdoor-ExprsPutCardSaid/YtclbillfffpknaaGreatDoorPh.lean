/-
  The law ExprsPut, for every expression, every name, every value and every list of names with values.
-/
import Derived.Test.YtclbillfffpknaaGreatDoorPq
import Derived.Test.YtclbillfffpknaaGreatDoorPm
import Derived.Test.YtclbillfffpknaaGreatDoorPd
import Derived.Test.YtclbillfffpknaaGreatDoorLt
namespace Go.Proofs.YtclbillfffpknaaGreatDoor
open Go.RowKit Go.Shelf

set_option maxRecDepth 100000 in
set_option maxHeartbeats 4000000 in
theorem putLaw_any (d : Nat) (x : Ex) (ao : Option Addr) (cap : Nat) (nm : ByteArray) (v : Vl) (bs : List (ByteArray × Vl)) (ae : Option Addr) (ce : Nat) (w : World) (hbd : ExBd x cap) (hka : KA w w.heap.size d x.kids ao) (henv : EnvAt w w.heap.size bs ae) (hlen : bs.length ≤ 2932031007400) (hss : ∀ p ∈ bs, p.2.s.size ≤ 9223372036854775807) (hn0 : -9223372036854775808 ≤ v.n) (hn1 : v.n ≤ 9223372036854775807) (hvs : v.s.size ≤ 9223372036854775807) (h0 : Tabs w) :
    Calls Tryz.prog 3 #[exVal x ao cap, .string nm, vlV v, .slice ae bs.length ce] w fun e w' => e = .returned (.bool true) ∧ Below w.heap.size w w' := by
  have hvv := at_v h0
  have HL := LW.new w x ao cap v
  have c1 := names_good (AT w) w.heap.size hvv at_k at_k2 at_0 0 exX none 0 _ ⟨by decide, by decide, by decide, by decide, by decide, by decide⟩ rfl HL.bl chk_exX
  rw [nms_exX, srtN_one] at c1
  have cP1 := fun (W : World) (hT : AT w W) (hz : chkX x ≠ 0) => put_bad1 (AT w) w.heap.size hvv at_k at_k2 at_0 d x ao cap nm v W hbd ((hka.keep hT).mono hT.size) hT hz
  have cP2 := fun (W : World) (hT : AT w W) (hz : chkX x = 0) (hg : ¬ v.good) => put_bad2 (AT w) w.heap.size hvv at_k at_k2 at_0 d x ao cap nm v W hbd ((hka.keep hT).mono hT.size) hT hz hvs hg
  have hvb : v.good → VBd v := fun hg => ⟨hn0, hn1, by have := chk_size _ _ _ hg; omega⟩
  have cP3 := fun (W : World) (hT : AT w W) (hz : chkX x = 0) (hg : v.good) => put_good (AT w) w.heap.size hvv at_k at_k2 at_0 d x ao cap nm v W hbd ((hka.keep hT).mono hT.size) hT hz hg (hvb hg)
  have cN := fun (W : World) (hT : AT w W) (ao2 : Option Addr) (cap2 : Nat) (hb2 : ExBd (putX nm v x) cap2) (hk2 : KA W W.heap.size d (putX nm v x).kids ao2) (hz : chkX x = 0) (hg : v.good) => names_good (AT w) w.heap.size hvv at_k at_k2 at_0 d (putX nm v x) ao2 cap2 W hb2 hk2 hT (put_chk nm v hg x hz)
  have hgone : chkX x = 0 → decide (nm.data.toList ∈ srtN (nmsX (putX nm v x))) = false := fun hz => by
    rw [decide_eq_false_iff_not, mem_srtN]
    exact put_gone nm v x (chk_wf x 0 hz)
  have hnl : chkX x = 0 → (srtN (nmsX (putX nm v x))).length ≤ 9223372036854775807 := fun hz => by
    have h1 := srtN_len (nmsX (putX nm v x))
    have h2 := nms_len (putX nm v x)
    have h3 := put_size nm v x
    have h4 := ((chkX_iff x).1 hz).2
    omega
  have cEy := fun (W : World) (hT : AT w W) (ao2 : Option Addr) (cap2 : Nat) (hb2 : ExBd (putX nm v x) cap2) (hk2 : KA W W.heap.size d (putX nm v x).kids ao2) => eval_any (AT w) w.heap.size hvv at_k at_k2 at_0 cSaid d (putX nm v x) ao2 cap2 bs ae ce W hb2 hk2 ((henv.keep hT).mono hT.size) (by omega) hss hT
  have hss2 : v.s.size ≤ 9223372036854775807 → ∀ p ∈ bs ++ [(nm, v)], p.2.s.size ≤ 9223372036854775807 := fun hvs p hp => by
    rcases List.mem_append.1 hp with hp | hp
    · exact hss p hp
    · simp only [List.mem_singleton] at hp; subst hp; exact hvs
  have cEx := fun (W : World) (hT : AT w W) (ae2 : Option Addr) (ce2 : Nat) (hE : EnvAt W W.heap.size (bs ++ [(nm, v)]) ae2) => eval_any (AT w) w.heap.size hvv at_k at_k2 at_0 cSaid d x ao cap (bs ++ [(nm, v)]) ae2 ce2 W hbd ((hka.keep hT).mono hT.size) hE (by simp; omega) (hss2 hvs) hT
  simp only [List.length_append, List.length_singleton] at cEx
  have cL := fun (W : World) (hT : AT w W) => cloneB_any bs ae ce W ((henv.keep hT).mono hT.size) (by omega)
  have hev : v.good → chkX x = 0 → evlR (putX nm v x) bs = evlR x (bs ++ [(nm, v)]) := fun hg hz => put_eval nm v hg x bs hz
  generalize putX nm v x = y at *
  generalize srtN (nmsX y) = sn at *
  generalize evlR y bs = r at *
  generalize evlR x (bs ++ [(nm, v)]) = r' at *
  obtain ⟨⟨v0, v1, v2⟩, e1⟩ := r
  obtain ⟨⟨v0', v1', v2'⟩, e2⟩ := r'
  simp only [exVal, vlV] at c1 cP1 cP2 cP3 cN cEy cEx ⊢
  have CP1 := hide cP1
  have CP2 := hide cP2
  have CP3 := hide cP3
  have CN := hide cN
  have CEY := hide cEy
  have CEX := hide cEx
  have CL := hide cL
  have HEV := hide hev
  have HGO := hide hgone
  have HNL := hide hnl
  clear cP1 cP2 cP3 cN cEy cEx cL hev hgone hnl hvv hka henv hss hss2 hbd hn0 hn1 hvs hvb
  simp only [exX, List.length_nil] at c1
  go_enter Tryz.func3, Tryz.ntmps3
  go_wp2_with fail
  refine c1.mono ?_
  rintro e w1 ⟨l1, rfl, hO1, hb1⟩
  have HL1 := HL.keep hb1
  obtain ⟨g, cp, hl1, _, hg, hc⟩ := (own_cells hO1).resolve_left (fun h => absurd h.2.1 (by simp))
  have hcell : w1.cell? ⟨g, 0, none⟩ = some (.string ⟨#[120]⟩) := hc 0 _ rfl
  simp only [List.length_singleton] at hl1
  subst hl1
  have cS := same1_any g 0 cp w1.heap.size 0 1 ⟨#[120]⟩ (w1.alloc (.cells #[.string ⟨#[120]⟩] 9)) ((World.cell?_alloc_past _ _ _ hg).trans hcell) (by go_cell)
  have HL2 := HL1.al (.cells #[.string ⟨#[120]⟩] 9)
  clear HL HL1 hO1 hc hcell c1 hb1
  go_wp2_with fail
  refine cS.mono ?_
  rintro e w2 ⟨rfl, hb2⟩
  have HL3 := HL2.keep hb2
  obtain ⟨⟨y0, y1, y2, y3, y4, y5⟩, q0, q1, q2, _, _⟩ := id HL3
  simp only [Nat.zero_add] at y0 y1 y2 y3 y4 y5
  have HLL := hide HL3
  clear cS HL2 hb2 HL3
  go_wp2_with fail
  clear y0 y1 y2 y3 y4 y5 q0 q1 q2
  by_cases hz : chkX x = 0
  · by_cases hgd : v.good
    · refine (CP3.out _ HLL.out.bl hz hgd).mono ?_
      rintro e w3 ⟨⟨ao2, cap2, rfl, hk3, hbd2⟩, hb3⟩
      have HL4 := (HLL.out.keep hb3).al (.cells #[.int .i64 y.kind, .string y.name, .int .i64 y.so, .int .i64 y.n, .string y.s, .slice ao2 y.kids.length cap2] 26)
      have hA3 : Below w3.heap.size w3 (w3.alloc (.cells #[.int .i64 y.kind, .string y.name, .int .i64 y.so, .int .i64 y.n, .string y.s, .slice ao2 y.kids.length cap2] 26)) := (Below.refl _ _).alloc (Nat.le_refl _) _
      have hY4 : ExAt (w3.alloc (.cells #[.int .i64 y.kind, .string y.name, .int .i64 y.so, .int .i64 y.n, .string y.s, .slice ao2 y.kids.length cap2] 26)) w3.heap.size 0 y ao2 cap2 := ⟨by go_cell, by go_cell, by go_cell, by go_cell, by go_cell, by go_cell⟩
      have hK4 := (hk3.keep hA3).mono hA3.size
      have hs4 : w3.heap.size < (w3.alloc (.cells #[.int .i64 y.kind, .string y.name, .int .i64 y.so, .int .i64 y.n, .string y.s, .slice ao2 y.kids.length cap2] 26)).heap.size := by simp
      have C4 := CN.out _ HL4.bl ao2 cap2 hbd2 hK4 hz hgd
      have hlw : w.heap.size + 1 < w3.heap.size := by have := (HLL.out.keep hb3).lt; exact this
      clear CP1 CP2 CP3 HLL CN hA3 hk3 hb3
      go_wp2_with fail
      generalize w3.alloc (.cells #[.int .i64 y.kind, .string y.name, .int .i64 y.so, .int .i64 y.n, .string y.s, .slice ao2 y.kids.length cap2] 26) = V4 at *
      refine C4.mono ?_
      rintro e w4 ⟨l4, rfl, hO4, hb4⟩
      have HL5 := HL4.keep hb4
      have hY5 := hY4.keep hb4 hs4
      have hK5 := (hK4.keep hb4).mono hb4.size
      have hs5 : w3.heap.size < w4.heap.size := Nat.lt_of_lt_of_le hs4 hb4.size
      have C5 := containsS_any sn nm l4 _ w4 hO4 (HNL.out hz)
      rw [HGO.out hz] at C5
      clear C4 HL4 hY4 hK4 hs4 hb4 hO4 HNL HGO
      go_wp2_with fail
      refine C5.mono ?_
      rintro e w5 ⟨rfl, hw5⟩
      subst hw5
      have C6 := CEY.out _ HL5.bl ao2 cap2 hbd2 hK5
      obtain ⟨y0, y1, y2, y3, y4, y5⟩ := id hY5
      simp only [Nat.zero_add] at y0 y1 y2 y3 y4 y5
      clear C5 CEY hY5 hK5
      go_wp2_with fail
      clear y0 y1 y2 y3 y4 y5
      refine C6.mono ?_
      rintro e w6 ⟨rfl, hb6⟩
      have HL6 := HL5.keep hb6
      have HL7 := HL6.al (.cells #[.int .i64 v0, .int .i64 v1, .string v2] 23)
      have d0 : (w6.alloc (.cells #[.int .i64 v0, .int .i64 v1, .string v2] 23)).cell? ⟨w6.heap.size, 0, none⟩ = some (.int .i64 v0) := by go_cell
      have d1 : (w6.alloc (.cells #[.int .i64 v0, .int .i64 v1, .string v2] 23)).cell? ⟨w6.heap.size, 1, none⟩ = some (.int .i64 v1) := by go_cell
      have d2 : (w6.alloc (.cells #[.int .i64 v0, .int .i64 v1, .string v2] 23)).cell? ⟨w6.heap.size, 2, none⟩ = some (.string v2) := by go_cell
      have hs7 : w6.heap.size < (w6.alloc (.cells #[.int .i64 v0, .int .i64 v1, .string v2] 23)).heap.size := by simp
      have hev := HEV.out hgd hz
      injection hev with h1 h2
      injection h1 with h3 h4 h5
      subst h2 h3 h4 h5
      clear HEV C6 HL5 hb6 HL6
      go_wp2_with fail
      generalize w6.alloc (.cells #[.int .i64 v0, .int .i64 v1, .string v2] 23) = V7 at *
      obtain ⟨so, nn, s⟩ := v
      obtain ⟨i0, hi, hi0, hi1, hi2⟩ := info_parts infoBd
      obtain ⟨⟨y0, y1, y2, y3, y4, y5⟩, p0, p1, p2, ltv, hTV⟩ := id HL7
      simp only [Nat.zero_add] at y0 y1 y2 y3 y4 y5
      simp only at p0 p1 p2
      have one1 : ∀ u ∈ bCs [(nm, (⟨so, nn, s⟩ : Vl))], u.oneCell' = true := bCs_one _
      have len1 : bs.length + 1 ≤ maxLen := by unfold maxLen; omega
      have len2 : (bs.length + 1) * 48 ≤ 140737488355328 := by omega
      have nav : ¬ V7.heap.size = w.heap.size := (by omega)
      have nbv : ¬ w.heap.size = V7.heap.size := (by omega)
      have ncv : ¬ V7.heap.size = w.heap.size + 1 := (by omega)
      have ndv : ¬ w.heap.size + 1 = V7.heap.size := (by omega)
      have nev : ¬ V7.heap.size + 1 = w.heap.size := (by omega)
      have nfv : ¬ w.heap.size = V7.heap.size + 1 := (by omega)
      have ngv : ¬ V7.heap.size + 1 = w.heap.size + 1 := (by omega)
      have nhv : ¬ w.heap.size + 1 = V7.heap.size + 1 := (by omega)
      go_cut [17, 18] (fun s17 s18 wc => ∃ qb, s17 = .pointer (some ⟨qb, 0, none⟩) ∧ s18 = .int .i64 e1 ∧ wc.cell? ⟨qb, 0, none⟩ = some (.int .i64 v0) ∧ wc.cell? ⟨qb, 1, none⟩ = some (.int .i64 v1) ∧ wc.cell? ⟨qb, 2, none⟩ = some (.string v2) ∧ Below V7.heap.size V7 wc)
      case first =>
        go_region_held3 (fun w' => w'.cell? ⟨w.heap.size, 0, none⟩ = some (.int .i64 x.kind) ∧ w'.cell? ⟨w.heap.size, 1, none⟩ = some (.string x.name) ∧ w'.cell? ⟨w.heap.size, 2, none⟩ = some (.int .i64 x.so) ∧ w'.cell? ⟨w.heap.size, 3, none⟩ = some (.int .i64 x.n) ∧ w'.cell? ⟨w.heap.size, 4, none⟩ = some (.string x.s) ∧ w'.cell? ⟨w.heap.size, 5, none⟩ = some (.slice ao x.kids.length cap) ∧ w'.cell? ⟨w.heap.size + 1, 0, none⟩ = some (.int .i64 so) ∧ w'.cell? ⟨w.heap.size + 1, 1, none⟩ = some (.int .i64 nn) ∧ w'.cell? ⟨w.heap.size + 1, 2, none⟩ = some (.string s)) (go_keep) (first
          | (go_at_call 10; go_must (refine (CL.out _ (at_k _ _ hTV (by go_grown))).mono ?_; rintro e w8 ⟨l8, rfl, hO8, hb8⟩; have B8 := below_chain (V := V7) (by go_grown) hb8; have O8 := own_mono (base' := V7.heap.size) hO8 (by first | (simp; done) | (simp; omega)); have L8 := HL7.keep B8; obtain ⟨⟨y08, y18, y28, y38, y48, y58⟩, p08, p18, p28, lt8, _⟩ := id L8; simp only [Nat.zero_add] at y08 y18 y28 y38 y48 y58; have s8 := B8.size; have na8 : ¬ w8.heap.size = w.heap.size := (by omega); have nb8 : ¬ w.heap.size = w8.heap.size := (by omega); have nc8 : ¬ w8.heap.size = w.heap.size + 1 := (by omega); have nd8 : ¬ w.heap.size + 1 = w8.heap.size := (by omega); have ne8 : ¬ w8.heap.size + 1 = w.heap.size := (by omega); have nf8 : ¬ w.heap.size = w8.heap.size + 1 := (by omega); have ng8 : ¬ w8.heap.size + 1 = w.heap.size + 1 := (by omega); have nh8 : ¬ w.heap.size + 1 = w8.heap.size + 1 := (by omega); first
              | (have za := (((ZB.new V7 23).al (.cells #[.string nm, .int .i64 so, .int .i64 nn, .string s] 40)).dr).keep hb8; have bb := ((BB.new (V7.alloc (.cells #[.int .i64 0, .int .i64 0, .string ⟨#[]⟩] 23)) nm ⟨so, nn, s⟩ 40).dr).keep hb8; have zn := own_far hO8 (q := V7.heap.size) (by simp; omega); rw [World.size_alloc] at bb)
              | (have bb := (((BB.new V7 nm ⟨so, nn, s⟩ 40).al (.cells #[.int .i64 0, .int .i64 0, .string ⟨#[]⟩] 23)).dr).keep hb8; have za := ((ZB.new (V7.alloc (.cells #[.string nm, .int .i64 so, .int .i64 nn, .string s] 40)) 23).dr).keep hb8; have zn := own_far hO8 (q := (V7.alloc (.cells #[.string nm, .int .i64 so, .int .i64 nn, .string s] 40)).heap.size) (by simp); rw [World.size_alloc] at za zn)
              | (have za := ((ZB.new V7 23).dr).keep hb8; have zn := own_far hO8 (q := V7.heap.size) (by simp))
              | (have bb := ((BB.new V7 nm ⟨so, nn, s⟩ 40).dr).keep hb8)
              | skip))
          | (refine step_append_lies _ (by rfl) (.tmp 65) (.tmp 69) 27 (by rfl) V7.heap.size 40 i0 (.agg #[.string ⟨#[]⟩, .int .i64 0, .int .i64 0, .string ⟨#[]⟩]) 4 48 Tryz.underlying27 hi hi0 hi1 hi2 rfl (by decide) l8 bs.length (bCs bs) (by simp [Act.eval]) O8 ⟨_, 0, none⟩ 1 1 (bCs [(nm, ⟨so, nn, s⟩)]) (by simp [Act.eval]) rfl bb.news one1 (by decide) len1 len2 (by first | omega | (simp; omega)) _ rfl ?_; intro g9 cap9 w9 hO9 hg9 _ _; have B9 := below_app (V := V7) (by go_grown) hg9 (own_from O8); have L9 := HL7.keep B9; obtain ⟨⟨y09, y19, y29, y39, y49, y59⟩, p09, p19, p29, lt9, _⟩ := id L9; simp only [Nat.zero_add] at y09 y19 y29 y39 y49 y59; have s9 := B9.size; have na9 : ¬ w9.heap.size = w.heap.size := (by omega); have nb9 : ¬ w.heap.size = w9.heap.size := (by omega); have nc9 : ¬ w9.heap.size = w.heap.size + 1 := (by omega); have nd9 : ¬ w.heap.size + 1 = w9.heap.size := (by omega); have ne9 : ¬ w9.heap.size + 1 = w.heap.size := (by omega); have nf9 : ¬ w.heap.size = w9.heap.size + 1 := (by omega); have ng9 : ¬ w9.heap.size + 1 = w.heap.size + 1 := (by omega); have nh9 : ¬ w.heap.size + 1 = w9.heap.size + 1 := (by omega); have E9 := env_at_own (bs := bs ++ [(nm, ⟨so, nn, s⟩)]) (by rw [bCs_app]; exact hO9) (by simp) (by simp; omega); first | (have za9 := za.app hg9 zn) | skip)
          | (refine step_append_lies _ (by rfl) (.tmp 65) (.tmp 69) 27 (by rfl) V7.heap.size 40 i0 (.agg #[.string ⟨#[]⟩, .int .i64 0, .int .i64 0, .string ⟨#[]⟩]) 4 48 Tryz.underlying27 hi hi0 hi1 hi2 rfl (by decide) l8 bs.length (bCs bs) (by simp [Act.eval]) (O8.alloc _) ⟨_, 0, none⟩ 1 1 (bCs [(nm, ⟨so, nn, s⟩)]) (by simp [Act.eval]) rfl (bb.al (.cells #[.int .i64 0, .int .i64 0, .string ⟨#[]⟩] 23)).news one1 (by decide) len1 len2 (by first | omega | (simp; omega)) _ rfl ?_; intro g9 cap9 w9 hO9 hg9 _ _; have B9 := below_app (V := V7) (by go_grown) hg9 (own_from O8); have L9 := HL7.keep B9; obtain ⟨⟨y09, y19, y29, y39, y49, y59⟩, p09, p19, p29, lt9, _⟩ := id L9; simp only [Nat.zero_add] at y09 y19 y29 y39 y49 y59; have s9 := B9.size; have na9 : ¬ w9.heap.size = w.heap.size := (by omega); have nb9 : ¬ w.heap.size = w9.heap.size := (by omega); have nc9 : ¬ w9.heap.size = w.heap.size + 1 := (by omega); have nd9 : ¬ w.heap.size + 1 = w9.heap.size := (by omega); have ne9 : ¬ w9.heap.size + 1 = w.heap.size := (by omega); have nf9 : ¬ w.heap.size = w9.heap.size + 1 := (by omega); have ng9 : ¬ w9.heap.size + 1 = w.heap.size + 1 := (by omega); have nh9 : ¬ w.heap.size + 1 = w9.heap.size + 1 := (by omega); have E9 := env_at_own (bs := bs ++ [(nm, ⟨so, nn, s⟩)]) (by rw [bCs_app]; exact hO9) (by simp) (by simp; omega); have za9 := ((ZB.new w8 23)).app hg9 (own_near O8 (Nat.le_refl _)))
          | (refine step_append_lies _ (by rfl) (.tmp 65) (.tmp 69) 27 (by rfl) V7.heap.size 40 i0 (.agg #[.string ⟨#[]⟩, .int .i64 0, .int .i64 0, .string ⟨#[]⟩]) 4 48 Tryz.underlying27 hi hi0 hi1 hi2 rfl (by decide) l8 bs.length (bCs bs) (by simp [Act.eval]) (O8.alloc _) ⟨_, 0, none⟩ 1 1 (bCs [(nm, ⟨so, nn, s⟩)]) (by simp [Act.eval]) rfl (BB.new w8 nm ⟨so, nn, s⟩ 40).news one1 (by decide) len1 len2 (by first | omega | (simp; omega)) _ rfl ?_; intro g9 cap9 w9 hO9 hg9 _ _; have B9 := below_app (V := V7) (by go_grown) hg9 (own_from O8); have L9 := HL7.keep B9; obtain ⟨⟨y09, y19, y29, y39, y49, y59⟩, p09, p19, p29, lt9, _⟩ := id L9; simp only [Nat.zero_add] at y09 y19 y29 y39 y49 y59; have s9 := B9.size; have na9 : ¬ w9.heap.size = w.heap.size := (by omega); have nb9 : ¬ w.heap.size = w9.heap.size := (by omega); have nc9 : ¬ w9.heap.size = w.heap.size + 1 := (by omega); have nd9 : ¬ w.heap.size + 1 = w9.heap.size := (by omega); have ne9 : ¬ w9.heap.size + 1 = w.heap.size := (by omega); have nf9 : ¬ w.heap.size = w9.heap.size + 1 := (by omega); have ng9 : ¬ w9.heap.size + 1 = w.heap.size + 1 := (by omega); have nh9 : ¬ w.heap.size + 1 = w9.heap.size + 1 := (by omega); have E9 := env_at_own (bs := bs ++ [(nm, ⟨so, nn, s⟩)]) (by rw [bCs_app]; exact hO9) (by simp) (by simp; omega); first | (have za9 := ((za.al (.cells #[.string nm, .int .i64 so, .int .i64 nn, .string s] 40))).app hg9 zn) | skip)
          | (refine step_append_lies _ (by rfl) (.tmp 65) (.tmp 69) 27 (by rfl) V7.heap.size 40 i0 (.agg #[.string ⟨#[]⟩, .int .i64 0, .int .i64 0, .string ⟨#[]⟩]) 4 48 Tryz.underlying27 hi hi0 hi1 hi2 rfl (by decide) l8 bs.length (bCs bs) (by simp [Act.eval]) ((O8.alloc _).alloc _) ⟨_, 0, none⟩ 1 1 (bCs [(nm, ⟨so, nn, s⟩)]) (by simp [Act.eval]) rfl (BB.new (w8.alloc (.cells #[.int .i64 0, .int .i64 0, .string ⟨#[]⟩] 23)) nm ⟨so, nn, s⟩ 40).news one1 (by decide) len1 len2 (by first | omega | (simp; omega)) _ rfl ?_; intro g9 cap9 w9 hO9 hg9 _ _; have B9 := below_app (V := V7) (by go_grown) hg9 (own_from O8); have L9 := HL7.keep B9; obtain ⟨⟨y09, y19, y29, y39, y49, y59⟩, p09, p19, p29, lt9, _⟩ := id L9; simp only [Nat.zero_add] at y09 y19 y29 y39 y49 y59; have s9 := B9.size; have na9 : ¬ w9.heap.size = w.heap.size := (by omega); have nb9 : ¬ w.heap.size = w9.heap.size := (by omega); have nc9 : ¬ w9.heap.size = w.heap.size + 1 := (by omega); have nd9 : ¬ w.heap.size + 1 = w9.heap.size := (by omega); have ne9 : ¬ w9.heap.size + 1 = w.heap.size := (by omega); have nf9 : ¬ w.heap.size = w9.heap.size + 1 := (by omega); have ng9 : ¬ w9.heap.size + 1 = w.heap.size + 1 := (by omega); have nh9 : ¬ w.heap.size + 1 = w9.heap.size + 1 := (by omega); have E9 := env_at_own (bs := bs ++ [(nm, ⟨so, nn, s⟩)]) (by rw [bCs_app]; exact hO9) (by simp) (by simp; omega); have za9 := (((ZB.new w8 23).al (.cells #[.string nm, .int .i64 so, .int .i64 nn, .string s] 40))).app hg9 (own_near O8 (Nat.le_refl _)))
          | (refine step_append_lies _ (by rfl) (.tmp 65) (.tmp 69) 27 (by rfl) V7.heap.size 40 i0 (.agg #[.string ⟨#[]⟩, .int .i64 0, .int .i64 0, .string ⟨#[]⟩]) 4 48 Tryz.underlying27 hi hi0 hi1 hi2 rfl (by decide) l8 bs.length (bCs bs) (by simp [Act.eval]) ((O8.alloc _).alloc _) ⟨_, 0, none⟩ 1 1 (bCs [(nm, ⟨so, nn, s⟩)]) (by simp [Act.eval]) rfl ((BB.new w8 nm ⟨so, nn, s⟩ 40).al (.cells #[.int .i64 0, .int .i64 0, .string ⟨#[]⟩] 23)).news one1 (by decide) len1 len2 (by first | omega | (simp; omega)) _ rfl ?_; intro g9 cap9 w9 hO9 hg9 _ _; have B9 := below_app (V := V7) (by go_grown) hg9 (own_from O8); have L9 := HL7.keep B9; obtain ⟨⟨y09, y19, y29, y39, y49, y59⟩, p09, p19, p29, lt9, _⟩ := id L9; simp only [Nat.zero_add] at y09 y19 y29 y39 y49 y59; have s9 := B9.size; have na9 : ¬ w9.heap.size = w.heap.size := (by omega); have nb9 : ¬ w.heap.size = w9.heap.size := (by omega); have nc9 : ¬ w9.heap.size = w.heap.size + 1 := (by omega); have nd9 : ¬ w.heap.size + 1 = w9.heap.size := (by omega); have ne9 : ¬ w9.heap.size + 1 = w.heap.size := (by omega); have nf9 : ¬ w.heap.size = w9.heap.size + 1 := (by omega); have ng9 : ¬ w9.heap.size + 1 = w.heap.size + 1 := (by omega); have nh9 : ¬ w.heap.size + 1 = w9.heap.size + 1 := (by omega); have E9 := env_at_own (bs := bs ++ [(nm, ⟨so, nn, s⟩)]) (by rw [bCs_app]; exact hO9) (by simp) (by simp; omega); have za9 := ((ZB.new (w8.alloc (.cells #[.string nm, .int .i64 so, .int .i64 nn, .string s] 40)) 23)).app hg9 (own_near O8 (by simp)); rw [World.size_alloc] at za9)
          | (go_at_call 9; go_must (refine (CEX.out _ (hTV.trans ((below_chain (V := V7) B9 (by go_grown)).mono hTV.size)) (some ⟨g9, 0, none⟩) cap9 (env_step E9 (by go_grown))).mono ?_; rintro e w10 ⟨rfl, hb10⟩; have B10 := below_chain (V := V7) (below_chain (V := V7) B9 (by go_grown)) hb10; have L10 := HL7.keep B10; obtain ⟨⟨y010, y110, y210, y310, y410, y510⟩, p010, p110, p210, lt10, _⟩ := id L10; simp only [Nat.zero_add] at y010 y110 y210 y310 y410 y510; have s10 := B10.size; have na10 : ¬ w10.heap.size = w.heap.size := (by omega); have nb10 : ¬ w.heap.size = w10.heap.size := (by omega); have nc10 : ¬ w10.heap.size = w.heap.size + 1 := (by omega); have nd10 : ¬ w.heap.size + 1 = w10.heap.size := (by omega); have ne10 : ¬ w10.heap.size + 1 = w.heap.size := (by omega); have nf10 : ¬ w.heap.size = w10.heap.size + 1 := (by omega); have ng10 : ¬ w10.heap.size + 1 = w.heap.size + 1 := (by omega); have nh10 : ¬ w.heap.size + 1 = w10.heap.size + 1 := (by omega); first
              | (have za10 := za9.keep hb10; obtain ⟨zl, z0, z1, z2, f0, f1, f2⟩ := id za10)
              | (have za10 := ((ZB.new w9 23)).keep hb10; obtain ⟨zl, z0, z1, z2, f0, f1, f2⟩ := id za10)
              | skip)))
        all_goals go_wp2_with fail
        all_goals
          go_meet
          case rel => exact ⟨_, rfl, rfl, by go_cell, by go_cell, by go_cell, by go_grown⟩
      case rest =>
        obtain ⟨qb, rfl, rfl, f0, f1, f2, hB⟩ := hcut
        have g0 := (hB.cell (p := ⟨w6.heap.size, 0, none⟩) hs7).trans d0
        have g1 := (hB.cell (p := ⟨w6.heap.size, 1, none⟩) hs7).trans d1
        have g2 := (hB.cell (p := ⟨w6.heap.size, 2, none⟩) hs7).trans d2
        have hend := hTV.trans (hB.mono hTV.size)
        clear CL CEX HL7 y0 y1 y2 y3 y4 y5 p0 p1 p2 d0 d1 d2 hB
        go_wp2_with fail
        go_ret
        exact ⟨rfl, hend⟩
    · clear CP1 CP3 CN CEY CEX CL HEV HGO HNL
      refine (CP2.out _ HLL.out.bl hz hgd).mono ?_
      rintro e w3 ⟨⟨z, hz0, rfl⟩, hb3⟩
      have hT3 := at_k _ _ HLL.out.bl hb3
      have hzb : (z != 0) = true := by simpa using hz0
      clear CP2 HLL hz0 hb3
      go_wp2_with fail
      go_ret
      exact ⟨rfl, hT3.alloc hT3.size _⟩
  · clear CP2 CP3 CN CEY CEX CL HEV HGO HNL
    refine (CP1.out _ HLL.out.bl hz).mono ?_
    rintro e w3 ⟨⟨z, hz0, rfl⟩, hb3⟩
    have hT3 := at_k _ _ HLL.out.bl hb3
    have hzb : (z != 0) = true := by simpa using hz0
    clear CP1 HLL hz0 hb3
    go_wp2_with fail
    go_ret
    exact ⟨rfl, hT3.alloc hT3.size _⟩
end Go.Proofs.YtclbillfffpknaaGreatDoor
