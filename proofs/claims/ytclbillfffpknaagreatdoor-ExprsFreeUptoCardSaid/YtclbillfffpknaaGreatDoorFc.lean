/-
  The law ExprsFree, for every expression and every two environments of at most a million names each.
-/
import Derived.Test.YtclbillfffpknaaGreatDoorFb
import Derived.Test.YtclbillfffpknaaGreatDoorFd
import Derived.Test.YtclbillfffpknaaGreatDoorLv
namespace Go.Proofs.YtclbillfffpknaaGreatDoor
open Go.RowKit Go.Shelf

set_option maxRecDepth 100000 in
set_option maxHeartbeats 8000000 in
theorem freeLaw_any (d : Nat) (x : Ex) (ao : Option Addr) (cap : Nat) (env other : List (ByteArray × Vl)) (ae af : Option Addr) (ce cf : Nat) (w : World) (hbd : ExBd x cap) (hka : KA w w.heap.size d x.kids ao) (henv : EnvAt w w.heap.size env ae) (hoth : EnvAt w w.heap.size other af) (hne : ae = none → ce = 0) (hce : env.length ≤ ce) (hnf : af = none → cf = 0) (hl1 : env.length ≤ 2000000) (hl2 : other.length ≤ 2000000) (hs1 : ∀ p ∈ env, p.2.s.size ≤ 9223372036854775807) (hs2 : ∀ p ∈ other, p.2.s.size ≤ 9223372036854775807) (h0 : Tabs w) :
    Calls Tryz.prog 4 #[exVal x ao cap, .slice ae env.length ce, .slice af other.length cf] w fun e w' => e = .returned (.bool true) ∧ Below w.heap.size w w' := by
  have hvv := at_v h0
  have HL := EW.new w x ao cap
  have c1 := names_good (AT w) w.heap.size hvv at_k at_k2 at_0 0 exQ none 0 _ ⟨by decide, by decide, by decide, by decide, by decide, by decide⟩ rfl HL.bl chk_exQ
  rw [nms_exQ, srtN_one] at c1
  have cN1 := fun (W : World) (hT : AT w W) (hz : chkX x ≠ 0) => names_bad (AT w) w.heap.size hvv at_k at_k2 at_0 d x ao cap W hbd ((hka.keep hT).mono hT.size) hT hz
  have cN2 := fun (W : World) (hT : AT w W) (hz : chkX x = 0) => names_good (AT w) w.heap.size hvv at_k at_k2 at_0 d x ao cap W hbd ((hka.keep hT).mono hT.size) hT hz
  have hnl : chkX x = 0 → (srtN (nmsX x)).length ≤ 9223372036854775807 := fun hz => by
    have h1 := srtN_len (nmsX x)
    have h2 := nms_len x
    have h4 := ((chkX_iff x).1 hz).2
    omega
  have cE := fun (W : World) (hT : AT w W) (bs : List (ByteArray × Vl)) (a2 : Option Addr) (c2 : Nat) (hE : EnvAt W W.heap.size bs a2) (hl : bs.length ≤ 4000000) (hs : ∀ p ∈ bs, p.2.s.size ≤ 9223372036854775807) => eval_any (AT w) w.heap.size hvv at_k at_k2 at_0 cSaid d x ao cap bs a2 c2 W hbd ((hka.keep hT).mono hT.size) hE (by omega) hs hT
  have cL1 := fun (W : World) (hT : AT w W) => cloneB_any env ae ce W ((henv.keep hT).mono hT.size) (by omega)
  have cL2 := fun (W : World) (hT : AT w W) => cloneB_any other af cf W ((hoth.keep hT).mono hT.size) (by omega)
  have hme : ∀ n : ByteArray, decide (n.data.toList ∈ srtN (nmsX x)) = inN (nmsX x) n := fun n => by
    rw [Bool.eq_iff_iff, decide_eq_true_eq, mem_srtN, inN_iff]
  have hfew := fun hz he => free_few x env hz he
  have hmore := fun hz he ho hn => free_more x env other hz he ho hn
  generalize srtN (nmsX x) = sn at *
  generalize nmsX x = ns at *
  simp only [exVal, vlV] at c1 cN1 cN2 cE ⊢
  have CN1 := hide cN1
  have CN2 := hide cN2
  have CE := hide cE
  have CL1 := hide cL1
  have CL2 := hide cL2
  have HME := hide hme
  have HFEW := hide hfew
  have HMORE := hide hmore
  have HNL := hide hnl
  have HENV := hide henv
  have HOTH := hide hoth
  have HS1 := hide hs1
  have HS2 := hide hs2
  clear cN1 cN2 cE cL1 cL2 hme hfew hmore hnl henv hoth hs1 hs2 hvv hka hbd
  simp only [exQ, List.length_nil] at c1
  go_enter Tryz.func4, Tryz.ntmps4
  go_wp2_with fail
  refine c1.mono ?_
  rintro e w1 ⟨l1, rfl, hO1, hb1⟩
  have HL1 := HL.keep hb1
  obtain ⟨g, cp, hl1', _, hg, hc⟩ := (own_cells hO1).resolve_left (fun h => absurd h.2.1 (by simp))
  have hcell : w1.cell? ⟨g, 0, none⟩ = some (.string ⟨#[113]⟩) := hc 0 _ rfl
  simp only [List.length_singleton] at hl1'
  subst hl1'
  have cS := same1_any g 0 cp w1.heap.size 0 1 ⟨#[113]⟩ (w1.alloc (.cells #[.string ⟨#[113]⟩] 9)) ((World.cell?_alloc_past _ _ _ hg).trans hcell) (by go_cell)
  have HL2 := HL1.al (.cells #[.string ⟨#[113]⟩] 9)
  clear HL HL1 hO1 hc hcell c1 hb1
  go_wp2_with fail
  refine cS.mono ?_
  rintro e w2 ⟨rfl, hb2⟩
  have HL3 := HL2.keep hb2
  obtain ⟨⟨y0, y1, y2, y3, y4, y5⟩, _, _⟩ := id HL3
  simp only [Nat.zero_add] at y0 y1 y2 y3 y4 y5
  have HLL := hide HL3
  clear cS HL2 hb2 HL3
  go_wp2_with fail
  clear y0 y1 y2 y3 y4 y5
  by_cases hz : chkX x = 0
  · refine (CN2.out _ HLL.out.bl hz).mono ?_
    rintro e w3 ⟨l3, rfl, hO3, hb3⟩
    have HL4 := HLL.out.keep hb3
    have C4 := CL1.out _ HL4.bl
    have HW4 := hide HL4
    have HO3 := hide hO3
    clear CN1 CN2 CL1 HLL hb3 hO3 HL4
    go_wp2_with fail
    refine C4.mono ?_
    rintro e w4 ⟨l4, rfl, hO4, hb4⟩
    obtain ⟨i0, hi, hi0, hi1, hi2⟩ := info_parts infoBd
    have HW5 := hide (HW4.out.keep hb4)
    have EW5w : ∀ {W : World}, Below w3.heap.size w3 W → EW w x ao cap W := fun h => HW4.out.keep h
    have HO5 := hide (own_keep HO3.out hb4)
    have E5 := HOTH.out.keep HW5.out.bl
    have h63 : env.length + other.length ≤ maxLen := by unfold maxLen; omega
    have hby : (env.length + other.length) * 48 ≤ 140737488355328 := by omega
    have B4 := hb4.size
    obtain ⟨al, hal⟩ : ∃ al, al = env ++ other := ⟨_, rfl⟩
    have hall : al.length ≤ 4000000 := by rw [hal]; simp; omega
    have HAL := hide hal
    clear hal
    have HL := own_from hO4
    clear C4 HW4
    go_wp2_with (at_builtin; refine wpList_append_env _ rfl (.tmp 50) (.tmp 51) rfl w3.heap.size w.heap.size i0 hi hi0 hi1 hi2 l4 env.length (bCs env) rfl hO4 other af cf rfl E5 hnf h63 hby B4 ?_; intro l5 w5 hO6 hg5; obtain ⟨a5, c5, rfl, E6⟩ := env_of_own (bs := al) (by rw [HAL.out, bCs_app, List.length_append]; exact hO6) (by omega); clear hO6)
    have hb5 := below_app (below_chain (Below.refl w3.heap.size w3) hb4) hg5 HL
    have HW6 := hide (EW5w hb5)
    have HO7 := hide (own_keep HO3.out hb5)
    have HE6 := hide E6
    have hallz : (al.length : Int) ≤ 4000000 := by omega
    clear HW5 HO5 E5 HL hb4 hg5 hO4 E6 B4 hb5 HO3 EW5w
    go_loopw [54] (fun i wr => ∃ k : Nat, k ≤ al.length ∧ i = .int .i64 (k : Int) ∧ badL (al.take k) = 0 ∧ Below w5.heap.size w5 wr) (fun i _ => al.length - (intOf i).toNat)
    case atStart => exact ⟨0, Nat.zero_le _, rfl, rfl, Below.refl _ _⟩
    case round =>
      obtain ⟨k, hk, rfl, hbad, hbr⟩ := hrel
      by_cases hlt : k < al.length
      · have hltz : (k : Int) < (al.length : Int) := by omega
        rcases HE6.out.c with e | ⟨b, o, rfl, hbB, hcells⟩
        · rw [e] at hlt; simp at hlt
        · obtain ⟨c0, c1, c2, c3⟩ := hcells k hlt
          replace c0 := (hbr.cell (p := ⟨b, o + k * 4, none⟩) hbB).trans c0
          replace c1 := (hbr.cell (p := ⟨b, o + k * 4 + 1, none⟩) hbB).trans c1
          replace c2 := (hbr.cell (p := ⟨b, o + k * 4 + 2, none⟩) hbB).trans c2
          replace c3 := (hbr.cell (p := ⟨b, o + k * 4 + 3, none⟩) hbB).trans c3
          have hA : Below wr.heap.size wr (wr.alloc (.cells #[.string al[k].1, .int .i64 al[k].2.so, .int .i64 al[k].2.n, .string al[k].2.s] 40)) := (Below.refl _ _).alloc (Nat.le_refl _) _
          have hT : AT w (wr.alloc (.cells #[.string al[k].1, .int .i64 al[k].2.so, .int .i64 al[k].2.n, .string al[k].2.s] 40)) := at_k _ _ (at_k _ _ HW6.out.bl hbr) hA
          have cV := refValue_any al[k].2.so al[k].2.n al[k].2.s _ (at_tabs h0 hT)
          have hbt := badL_take al k hlt hbad
          have hbA := below_chain hbr hA
          have HT := hide hT
          generalize chkZ vD al[k].2.so al[k].2.n al[k].2.s = z at cV hbt
          have HB : Hid (badL (al.take (k + 1)) = z ∧ (z ≠ 0 → badL al = z)) := hbt
          have HBR := hide hbA
          clear hcells hbad hbt hbA hT hA hbr
          by_cases hz : z = 0
          · subst hz
            go_wp2_with fail
            refine cV.mono ?_
            rintro e w7 ⟨rfl, hb7⟩
            have hbr2 := below_chain HBR.out hb7
            clear cV c0 c1 c2 c3 hb7
            go_wp2_with fail
            go_roundw
            case rel => exact ⟨k + 1, by omega, by go_num, HB.out.1, hbr2⟩
            case measure => simp [intOf]; omega
          · have hzb : (z != 0) = true := by simpa using hz
            clear hz HB
            go_wp2_with fail
            refine cV.mono ?_
            rintro e w7 ⟨rfl, hb7⟩
            have hT7 := at_k _ _ HT.out hb7
            clear cV c0 c1 c2 c3 hb7
            go_wp2_with fail
            go_ret
            exact ⟨rfl, hT7⟩
      · have hltz : ¬ (k : Int) < (al.length : Int) := by omega
        have hkl : k = al.length := by omega
        subst hkl
        rw [List.take_length] at hbad
        have hbb : badL env = 0 ∧ badL other = 0 := by
          rw [HAL.out, badL_app] at hbad
          by_cases he : badL env = 0
          · rw [if_pos he] at hbad; exact ⟨he, hbad⟩
          · rw [if_neg he] at hbad; exact absurd hbad he
        have HBB := hide hbb
        have HW7 := hide (HW6.out.keep hbr)
        have HO8 := hide (own_keep HO7.out hbr)
        have C7 := CL2.out _ HW7.out.bl
        clear hbad hbb HE6 HW6 HO7 hbr CL2
        go_wp2_with fail
        refine C7.mono ?_
        rintro e w8 ⟨m8, rfl, hO9, hb8⟩
        have HB8 := hide hb8
        have HO9 := hide hO9
        clear C7 hb8 hO9
        go_wp2_with fail
        obtain ⟨V, hV⟩ : ∃ V, V = wr := ⟨_, rfl⟩
        subst hV
        go_loopw [13, 14, 67] (fun m f i wr => ∃ (k : Nat) (F : List (ByteArray × Vl)), k ≤ env.length ∧ i = .int .i64 (k : Int) ∧ F ++ fewL ns (env.drop k) = fewL ns env ∧ AB2 V m (other.length + F.length) (bCs other ++ bCs F) f F.length (bCs F) wr) (fun _ _ i _ => env.length - (intOf i).toNat)
        case atStart => exact ⟨0, [], Nat.zero_le _, rfl, rfl, ⟨by simpa [bCs] using HO9.out, World.ownsRow_nil _ _ _ _, fun k _ => by simp [Value.ownBlock], HB8.out⟩⟩
        case round =>
          obtain ⟨k, F, hk, rfl, hF, hab⟩ := hrel
          by_cases hlt : k < env.length
          · have hltz : (k : Int) < (env.length : Int) := by omega
            have hbr := hab.bl
            have hTr : AT w wr := at_k _ _ HW7.out.bl hbr
            have hEr := (HENV.out.keep hTr).mono hTr.size
            rcases id hEr.c with e | ⟨b, o, rfl, hbB, hcells⟩
            · rw [e] at hlt; simp at hlt
            · obtain ⟨c0, c1, c2, c3⟩ := hcells k hlt
              have hst := few_step ns env k hlt
              have hA : Below wr.heap.size wr (wr.alloc (.cells #[.string env[k].1, .int .i64 env[k].2.so, .int .i64 env[k].2.n, .string env[k].2.s] 40)) := (Below.refl _ _).alloc (Nat.le_refl _) _
              have hEA := env_step hEr hA
              have hPB := hab.new env[k].1 env[k].2
              have habA := hab.al (.cells #[.string env[k].1, .int .i64 env[k].2.so, .int .i64 env[k].2.n, .string env[k].2.s] 40)
              have cF1 := fun (c : Nat) => hasFree_any (env.drop (k + 1)) _ c wr.heap.size env[k].1 _ (env_drop hEA (k + 1)) hPB.b.c0
              have cF2 := fun (hc : env.length ≤ k + 1) => hasFree_any (env.drop (k + 1)) (some ⟨b, o, none⟩) 0 wr.heap.size env[k].1 (wr.alloc (.cells #[.string env[k].1, .int .i64 env[k].2.so, .int .i64 env[k].2.n, .string env[k].2.s] 40)) (env_none (List.drop_eq_nil_of_le (by omega)) _) hPB.b.c0
              have hcC := fun (W : World) (hb : Below V.heap.size V W) => containsS_any sn env[k].1 l3 _ W (own_keep HO8.out hb) (HNL.out hz)
              simp only [HME.out] at hcC
              simp only [List.length_drop] at cF1 cF2
              generalize inN ns env[k].1 = ci at hcC hst
              generalize hasNm env[k].1 (env.drop (k + 1)) = ct at cF1 cF2 hst
              have HF := hide hF
              have HST := hide hst
              have HPB := hide hPB
              have HABA := hide habA
              have HCC := hide hcC
              clear hF hst hA hEA hPB habA hcC hab hbr hEr hcells
              by_cases hcc : ce = k + 1
              case' pos =>
                have cF := cF2 (by omega)
                rw [show env.length - (k + 1) = 0 by omega] at cF
                clear cF1 cF2
                subst hcc
              case' neg =>
                have cF := cF1 (ce - (k + 1))
                clear cF1 cF2
              all_goals
                go_wp2_with fail
                clear c0 c1 c2 c3
                refine cF.mono ?_
                rintro e w9 ⟨rfl, hb9⟩
                have hab9 := HABA.out.keep hb9
                have hpb9 : PB2 wr.heap.size env[k].1 env[k].2 u13 u14 w9 := ⟨HPB.out.b.keep hb9, HPB.out.pm, HPB.out.pf⟩
                have cC := HCC.out w9 hab9.bl
                have HAB9 := hide hab9
                have HPB9 := hide hpb9
                obtain ⟨_, q0, _, _, _⟩ := hpb9.b
                clear cF HABA HPB HCC hb9 hab9 hpb9
                go_wp2_with fail
                refine cC.mono ?_
                rintro e w10 ⟨rfl, hw10⟩
                have hw10' := hw10.symm
                clear hw10
                subst hw10'
                clear cC
                cases ci with
                | false =>
                  have hF2 : F ++ fewL ns (env.drop (k + 1)) = fewL ns env := by
                    have := HF.out
                    rw [HST.out, if_neg (by simp)] at this
                    simpa using this
                  have HF2 := hide hF2
                  clear hF2 HF HST q0
                  go_wp2_with fail
                  go_roundw
                  case rel => exact ⟨k + 1, F, by omega, by go_num, HF2.out, HAB9.out⟩
                  case measure => simp [intOf]; omega
                | true =>
                  cases ct with
                  | true =>
                    have hF2 : F ++ fewL ns (env.drop (k + 1)) = fewL ns env := by
                      have := HF.out
                      rw [HST.out, if_neg (by simp)] at this
                      simpa using this
                    have HF2 := hide hF2
                    clear hF2 HF HST q0
                    go_wp2_with fail
                    go_roundw
                    case rel => exact ⟨k + 1, F, by omega, by go_num, HF2.out, HAB9.out⟩
                    case measure => simp [intOf]; omega
                  | false =>
                    have hF2 : (F ++ [env[k]]) ++ fewL ns (env.drop (k + 1)) = fewL ns env := by
                      have := HF.out
                      rw [HST.out, if_pos ⟨rfl, rfl⟩] at this
                      simpa using this
                    have HF2 := hide hF2
                    clear hF2 HF HST q0
                    go_wp2_with fail
                    obtain ⟨len1, lby1, len2, lby2⟩ := few_pre ns env F _ _ other.length HF2.out hl1 hl2
                    have one1 : ∀ u ∈ bCs [(env[k].1, env[k].2)], u.oneCell' = true := bCs_one _
                    have A1 := (HAB9.out.al (.cells #[.string env[k].1, .int .i64 env[k].2.so, .int .i64 env[k].2.n, .string env[k].2.s] 40)).dr
                    have A2 := ((HAB9.out.al (.cells #[.string env[k].1, .int .i64 env[k].2.so, .int .i64 env[k].2.n, .string env[k].2.s] 40)).al (.cells #[.string env[k].1, .int .i64 env[k].2.so, .int .i64 env[k].2.n, .string env[k].2.s] 40)).dr
                    have P1 := (HAB9.out.new env[k].1 env[k].2).dr
                    have P2 := ((HAB9.out.new env[k].1 env[k].2).al (.cells #[.string env[k].1, .int .i64 env[k].2.so, .int .i64 env[k].2.n, .string env[k].2.s] 40)).dr
                    have P3 := ((HAB9.out.al (.cells #[.string env[k].1, .int .i64 env[k].2.so, .int .i64 env[k].2.n, .string env[k].2.s] 40)).new env[k].1 env[k].2).dr
                    rw [World.size_alloc] at P3
                    have Q1 := (HPB9.out.al (.cells #[.string env[k].1, .int .i64 env[k].2.so, .int .i64 env[k].2.n, .string env[k].2.s] 40)).dr
                    have Q2 := ((HPB9.out.al (.cells #[.string env[k].1, .int .i64 env[k].2.so, .int .i64 env[k].2.n, .string env[k].2.s] 40)).al (.cells #[.string env[k].1, .int .i64 env[k].2.so, .int .i64 env[k].2.n, .string env[k].2.s] 40)).dr
                    obtain ⟨ql, q0, q1, q2, q3⟩ := id HPB9.out.b
                    have sA := HAB9.out.bl.size
                    have n1 : ¬ w9.heap.size = wr.heap.size := by omega
                    have n2 : ¬ wr.heap.size = w9.heap.size := by omega
                    have n3 : ¬ w9.heap.size + 1 = wr.heap.size := by omega
                    have n4 : ¬ wr.heap.size = w9.heap.size + 1 := by omega
                    go_region_held3 (fun w' => w'.cell? ⟨wr.heap.size, 0, none⟩ = some (.string env[k].1) ∧ w'.cell? ⟨wr.heap.size, 1, none⟩ = some (.int .i64 env[k].2.so) ∧ w'.cell? ⟨wr.heap.size, 2, none⟩ = some (.int .i64 env[k].2.n) ∧ w'.cell? ⟨wr.heap.size, 3, none⟩ = some (.string env[k].2.s)) (go_keep) (first
                      | (with_reducible refine at_world ((w9.alloc (.cells #[.string env[k].1, .int .i64 env[k].2.so, .int .i64 env[k].2.n, .string env[k].2.s] 40)).drew) ?_; refine step_append_lies _ (by rfl) (.tmp 86) (.tmp 88) 27 (by rfl) V.heap.size 40 i0 (.agg #[.string ⟨#[]⟩, .int .i64 0, .int .i64 0, .string ⟨#[]⟩]) 4 48 Tryz.underlying27 hi hi0 hi1 hi2 rfl (by decide) u13 (other.length + F.length) (bCs other ++ bCs F) (by simp [Act.eval]) A1.hm ⟨w9.heap.size, 0, none⟩ 1 1 (bCs [(env[k].1, env[k].2)]) rfl rfl P1.b.news one1 (by decide) len1 lby1 A1.bl.size _ rfl ?_; intro g1 cap1 w10 hN hg1 hat1 _; have a1 := A1.mApp hg1 hN hat1; have e0 := Q1.mApp (nn := other.length + F.length + 1) (cp := cap1) hg1 hat1; obtain ⟨_, d0, d1, d2, d3⟩ := id e0.b)
                      | (with_reducible refine at_world (((w9.alloc (.cells #[.string env[k].1, .int .i64 env[k].2.so, .int .i64 env[k].2.n, .string env[k].2.s] 40)).alloc (.cells #[.string env[k].1, .int .i64 env[k].2.so, .int .i64 env[k].2.n, .string env[k].2.s] 40)).drew) ?_; refine step_append_lies _ (by rfl) (.tmp 86) (.tmp 88) 27 (by rfl) V.heap.size 40 i0 (.agg #[.string ⟨#[]⟩, .int .i64 0, .int .i64 0, .string ⟨#[]⟩]) 4 48 Tryz.underlying27 hi hi0 hi1 hi2 rfl (by decide) u13 (other.length + F.length) (bCs other ++ bCs F) (by simp [Act.eval]) A2.hm ⟨w9.heap.size, 0, none⟩ 1 1 (bCs [(env[k].1, env[k].2)]) rfl rfl P2.b.news one1 (by decide) len1 lby1 A2.bl.size _ rfl ?_; intro g1 cap1 w10 hN hg1 hat1 _; have a1 := A2.mApp hg1 hN hat1; have e0 := Q2.mApp (nn := other.length + F.length + 1) (cp := cap1) hg1 hat1; obtain ⟨_, d0, d1, d2, d3⟩ := id e0.b; have zp := P3.mApp (nn := other.length + F.length + 1) (cp := cap1) hg1 hat1)
                      | (with_reducible refine at_world (((w9.alloc (.cells #[.string env[k].1, .int .i64 env[k].2.so, .int .i64 env[k].2.n, .string env[k].2.s] 40)).alloc (.cells #[.string env[k].1, .int .i64 env[k].2.so, .int .i64 env[k].2.n, .string env[k].2.s] 40)).drew) ?_; refine step_append_lies _ (by rfl) (.tmp 86) (.tmp 88) 27 (by rfl) V.heap.size 40 i0 (.agg #[.string ⟨#[]⟩, .int .i64 0, .int .i64 0, .string ⟨#[]⟩]) 4 48 Tryz.underlying27 hi hi0 hi1 hi2 rfl (by decide) u13 (other.length + F.length) (bCs other ++ bCs F) (by simp [Act.eval]) A2.hm ⟨w9.heap.size + 1, 0, none⟩ 1 1 (bCs [(env[k].1, env[k].2)]) rfl rfl P3.b.news one1 (by decide) len1 lby1 A2.bl.size _ rfl ?_; intro g1 cap1 w10 hN hg1 hat1 _; have a1 := A2.mApp hg1 hN hat1; have e0 := Q2.mApp (nn := other.length + F.length + 1) (cp := cap1) hg1 hat1; obtain ⟨_, d0, d1, d2, d3⟩ := id e0.b; have zp := P2.mApp (nn := other.length + F.length + 1) (cp := cap1) hg1 hat1)
                      | (with_reducible refine at_world (w10.alloc (.cells #[.string env[k].1, .int .i64 env[k].2.so, .int .i64 env[k].2.n, .string env[k].2.s] 40)) ?_; refine step_append_lies _ (by rfl) (.tmp 90) (.tmp 92) 27 (by rfl) V.heap.size 40 i0 (.agg #[.string ⟨#[]⟩, .int .i64 0, .int .i64 0, .string ⟨#[]⟩]) 4 48 Tryz.underlying27 hi hi0 hi1 hi2 rfl (by decide) u14 F.length (bCs F) (by simp [Act.eval]) (a1.al (.cells #[.string env[k].1, .int .i64 env[k].2.so, .int .i64 env[k].2.n, .string env[k].2.s] 40)).hf ⟨w10.heap.size, 0, none⟩ 1 1 (bCs [(env[k].1, env[k].2)]) rfl rfl (a1.new env[k].1 env[k].2).b.news one1 (by decide) len2 lby2 (a1.al (.cells #[.string env[k].1, .int .i64 env[k].2.so, .int .i64 env[k].2.n, .string env[k].2.s] 40)).bl.size _ rfl ?_; intro g2 cap2 w11 hZ2 hg2 hat2 _; have a2 := (a1.al (.cells #[.string env[k].1, .int .i64 env[k].2.so, .int .i64 env[k].2.n, .string env[k].2.s] 40)).fApp hg2 hZ2 hat2; obtain ⟨_, dd0, dd1, dd2, dd3⟩ := id ((e0.al (.cells #[.string env[k].1, .int .i64 env[k].2.so, .int .i64 env[k].2.n, .string env[k].2.s] 40)).fApp (nn := F.length + 1) (cp := cap2) hg2 hat2).b)
                      | (with_reducible refine at_world w10 ?_; refine step_append_lies _ (by rfl) (.tmp 90) (.tmp 92) 27 (by rfl) V.heap.size 40 i0 (.agg #[.string ⟨#[]⟩, .int .i64 0, .int .i64 0, .string ⟨#[]⟩]) 4 48 Tryz.underlying27 hi hi0 hi1 hi2 rfl (by decide) u14 F.length (bCs F) (by simp [Act.eval]) a1.hf ⟨w9.heap.size + 1, 0, none⟩ 1 1 (bCs [(env[k].1, env[k].2)]) rfl rfl zp.b.news one1 (by decide) len2 lby2 a1.bl.size _ rfl ?_; intro g2 cap2 w11 hZ2 hg2 hat2 _; have a2 := a1.fApp hg2 hZ2 hat2; obtain ⟨_, dd0, dd1, dd2, dd3⟩ := id (e0.fApp (nn := F.length + 1) (cp := cap2) hg2 hat2).b)
                      | (with_reducible refine at_world w10 ?_; refine step_append_lies _ (by rfl) (.tmp 90) (.tmp 92) 27 (by rfl) V.heap.size 40 i0 (.agg #[.string ⟨#[]⟩, .int .i64 0, .int .i64 0, .string ⟨#[]⟩]) 4 48 Tryz.underlying27 hi hi0 hi1 hi2 rfl (by decide) u14 F.length (bCs F) (by simp [Act.eval]) a1.hf ⟨w9.heap.size, 0, none⟩ 1 1 (bCs [(env[k].1, env[k].2)]) rfl rfl zp.b.news one1 (by decide) len2 lby2 a1.bl.size _ rfl ?_; intro g2 cap2 w11 hZ2 hg2 hat2 _; have a2 := a1.fApp hg2 hZ2 hat2; obtain ⟨_, dd0, dd1, dd2, dd3⟩ := id (e0.fApp (nn := F.length + 1) (cp := cap2) hg2 hat2).b))
                    all_goals
                      have HA2 := hide a2
                      go_wp2_with fail
                      go_roundw
                      case rel =>
                        refine ⟨k + 1, F ++ [env[k]], by omega, by go_num, HF2.out, ?_⟩
                        have h2 := HA2.out
                        rw [bCs_app, List.length_append, ← List.append_assoc]
                        exact h2
                      case measure => simp [intOf]; omega
          · have hltz : ¬ (k : Int) < (env.length : Int) := by omega
            have hkl : k = env.length := by omega
            subst hkl
            have hF2 : F = fewL ns env := by
              rw [List.drop_length] at hF
              simpa [fewL] using hF
            have hT9 : AT w wr := at_k _ _ HW7.out.bl hab.bl
            have HW9 := hide (HW7.out.keep hab.bl)
            have HO10 := hide (own_keep HO8.out hab.bl)
            obtain ⟨mo, hmo⟩ : ∃ mo, mo = other ++ F := ⟨_, rfl⟩
            have hml : other.length + F.length = mo.length := by rw [hmo, List.length_append]
            have hfl : F.length ≤ 2000000 := by rw [hF2]; exact Nat.le_trans (few_len ns env) hl1
            have hmo4 : mo.length ≤ 4000000 := by omega
            have hEm := hab.hm
            rw [hml, ← bCs_app, ← hmo] at hEm
            obtain ⟨am, cm, rfl, Em⟩ := env_of_own hEm (by omega)
            obtain ⟨aw, cw, rfl, Ew⟩ := env_of_own hab.hf (by omega)
            have hsF : ∀ p ∈ F, p.2.s.size ≤ 9223372036854775807 := fun p hp => HS1.out p (few_mem ns env p (hF2 ▸ hp))
            have hsM : ∀ p ∈ mo, p.2.s.size ≤ 9223372036854775807 := fun p hp => by
              rw [hmo] at hp
              rcases List.mem_append.1 hp with hp | hp
              · exact HS2.out p hp
              · exact hsF p hp
            have hee : evlR x F = evlR x env := by rw [hF2]; exact HFEW.out hz HBB.out.1
            have hem : (∀ p ∈ other, p.1 ∉ ns) → evlR x mo = evlR x env := fun hn => by rw [hmo, hF2]; exact HMORE.out hz HBB.out.1 HBB.out.2 hn
            have C1 := fun (W : World) (hb : Below wr.heap.size wr W) => CE.out W (at_k _ _ hT9 hb) env ae ce ((HENV.out.keep (at_k _ _ hT9 hb)).mono (at_k _ _ hT9 hb).size) (by omega) HS1.out
            have C2 := fun (W : World) (hb : Below wr.heap.size wr W) => CE.out W (at_k _ _ hT9 hb) mo am cm (env_step Em hb) hmo4 hsM
            have C3 := fun (W : World) (hb : Below wr.heap.size wr W) => CE.out W (at_k _ _ hT9 hb) F aw cw (env_step Ew hb) (by omega) hsF
            have HEO := hide ((HOTH.out.keep hT9).mono hT9.size)
            have hcC := fun (n : ByteArray) (W : World) (hb : Below wr.heap.size wr W) => containsS_any sn n l3 _ W (own_keep HO10.out hb) (HNL.out hz)
            simp only [HME.out] at hcC
            rw [hee] at C3
            have HEM := hide hem
            have HC1 := hide C1
            have HC2 := hide C2
            have HC3 := hide C3
            have HCC := hide hcC
            have HT9 := hide hT9
            have hol : (other.length : Int) ≤ 2000000 := by omega
            clear hF hab hF2 hT9 hmo hml hEm Em Ew hsF hsM hee hem C1 C2 C3 hcC HO10 HO8 HW7 HS1 HS2 HFEW HMORE CE HENV HOTH HNL HME HBB HB8 HO9 hlt
            go_wp2_with fail
            obtain ⟨V3, hV3⟩ : ∃ V3, V3 = wr := ⟨_, rfl⟩
            subst hV3
            go_loopw [97] (fun i wr => ∃ k : Nat, k ≤ other.length ∧ i = .int .i64 (k : Int) ∧ (∀ p ∈ other.take k, p.1 ∉ ns) ∧ Below V3.heap.size V3 wr) (fun i _ => other.length - (intOf i).toNat)
            case atStart => exact ⟨0, Nat.zero_le _, rfl, fun p hp => by simp at hp, Below.refl _ _⟩
            case round =>
              obtain ⟨k, hk, rfl, hno, hbr⟩ := hrel
              by_cases hlt : k < other.length
              · have hltz : (k : Int) < (other.length : Int) := by omega
                rcases HEO.out.c with e | ⟨b, o, rfl, hbB, hcells⟩
                · rw [e] at hlt; simp at hlt
                · obtain ⟨c0, c1, c2, c3⟩ := hcells k hlt
                  replace c0 := (hbr.cell (p := ⟨b, o + k * 4, none⟩) hbB).trans c0
                  replace c1 := (hbr.cell (p := ⟨b, o + k * 4 + 1, none⟩) hbB).trans c1
                  replace c2 := (hbr.cell (p := ⟨b, o + k * 4 + 2, none⟩) hbB).trans c2
                  replace c3 := (hbr.cell (p := ⟨b, o + k * 4 + 3, none⟩) hbB).trans c3
                  have hA : Below wr.heap.size wr (wr.alloc (.cells #[.string other[k].1, .int .i64 other[k].2.so, .int .i64 other[k].2.n, .string other[k].2.s] 40)) := (Below.refl _ _).alloc (Nat.le_refl _) _
                  have hbA := below_chain hbr hA
                  have cC := HCC.out other[k].1 _ hbA
                  have hT := at_k _ _ HT9.out hbA
                  have hin : inN ns other[k].1 = false → ∀ p ∈ other.take (k + 1), p.1 ∉ ns := fun h p hp => by
                    rw [List.take_succ_eq_append_getElem hlt] at hp
                    rcases List.mem_append.1 hp with hp | hp
                    · exact hno p hp
                    · simp only [List.mem_singleton] at hp
                      subst hp
                      intro hm
                      rw [(inN_iff ns _).2 hm] at h; cases h
                  generalize inN ns other[k].1 = ci at cC hin
                  have HIN := hide hin
                  have HBA := hide hbA
                  have HT := hide hT
                  clear hno hin hcells hA hbA hbr hT
                  cases ci with
                  | false =>
                    go_wp2_with fail
                    clear c0 c1 c2 c3
                    refine cC.mono ?_
                    rintro e w10 ⟨rfl, hw10⟩
                    subst hw10
                    clear cC
                    go_wp2_with fail
                    go_roundw
                    case rel => exact ⟨k + 1, by omega, by go_num, HIN.out (by simp), HBA.out⟩
                    case measure => simp [intOf]; omega
                  | true =>
                    go_wp2_with fail
                    clear c0 c1 c2 c3
                    refine cC.mono ?_
                    rintro e w10 ⟨rfl, hw10⟩
                    subst hw10
                    clear cC
                    go_wp2_with fail
                    go_ret
                    exact ⟨rfl, HT.out⟩
              · have hltz : ¬ (k : Int) < (other.length : Int) := by omega
                have hkl : k = other.length := by omega
                subst hkl
                rw [List.take_length] at hno
                have hem := HEM.out hno
                rw [hem] at HC2
                generalize evlR x env = r at HC1 HC2 HC3
                obtain ⟨⟨v0, v1, v2⟩, e1⟩ := r
                simp only at HC1 HC2 HC3
                have c1 := HC1.out wr hbr
                obtain ⟨⟨y0, y1, y2, y3, y4, y5⟩, _, _⟩ := HW9.out.keep hbr
                simp only [Nat.zero_add] at y0 y1 y2 y3 y4 y5
                have HBR := hide hbr
                clear hno hem HEM HEO HCC HC1 hbr
                go_wp2_with fail
                clear y0 y1 y2 y3 y4 y5
                refine c1.mono ?_
                rintro e w11 ⟨rfl, hb11⟩
                have hA11 : Below w11.heap.size w11 (w11.alloc (.cells #[.int .i64 v0, .int .i64 v1, .string v2] 23)) := (Below.refl _ _).alloc (Nat.le_refl _) _
                have hB11 := below_chain HBR.out hb11
                have hB12 := below_chain hB11 hA11
                have c2 := HC2.out _ hB12
                obtain ⟨⟨y0, y1, y2, y3, y4, y5⟩, _, _⟩ := HW9.out.keep hB11
                simp only [Nat.zero_add] at y0 y1 y2 y3 y4 y5
                have HB12 := hide hB12
                clear c1 HBR HC2 hb11 hB11 hB12 hA11
                go_wp2_with fail
                clear y0 y1 y2 y3 y4 y5
                refine c2.mono ?_
                rintro e w12 ⟨rfl, hb12⟩
                have d0 : w12.cell? ⟨w11.heap.size, 0, none⟩ = some (.int .i64 v0) := (hb12.cell (p := ⟨w11.heap.size, 0, none⟩) (by simp)).trans (by go_cell)
                have d1 : w12.cell? ⟨w11.heap.size, 1, none⟩ = some (.int .i64 v1) := (hb12.cell (p := ⟨w11.heap.size, 1, none⟩) (by simp)).trans (by go_cell)
                have d2 : w12.cell? ⟨w11.heap.size, 2, none⟩ = some (.string v2) := (hb12.cell (p := ⟨w11.heap.size, 2, none⟩) (by simp)).trans (by go_cell)
                have s12 : w11.heap.size < w12.heap.size := Nat.lt_of_lt_of_le (by simp) hb12.size
                have hA12 : Below w12.heap.size w12 (w12.alloc (.cells #[.int .i64 v0, .int .i64 v1, .string v2] 23)) := (Below.refl _ _).alloc (Nat.le_refl _) _
                have hB13 := below_chain HB12.out hb12
                have hB14 := below_chain hB13 hA12
                have c3 := HC3.out _ hB14
                obtain ⟨⟨y0, y1, y2, y3, y4, y5⟩, _, _⟩ := HW9.out.keep hB13
                simp only [Nat.zero_add] at y0 y1 y2 y3 y4 y5
                have HB14 := hide hB14
                have D0 := hide d0
                have D1 := hide d1
                have D2 := hide d2
                clear c2 HB12 HC3 hb12 hB13 hB14 hA12 d0 d1 d2
                go_wp2_with fail
                clear y0 y1 y2 y3 y4 y5
                refine c3.mono ?_
                rintro e w13 ⟨rfl, hb13⟩
                have hbd : Below w12.heap.size w12 w13 := below_chain ((Below.refl _ _).alloc (Nat.le_refl _) _) hb13
                have d0 := (hbd.cell (p := ⟨w11.heap.size, 0, none⟩) s12).trans D0.out
                have d1 := (hbd.cell (p := ⟨w11.heap.size, 1, none⟩) s12).trans D1.out
                have d2 := (hbd.cell (p := ⟨w11.heap.size, 2, none⟩) s12).trans D2.out
                have f0 : w13.cell? ⟨w12.heap.size, 0, none⟩ = some (.int .i64 v0) := (hb13.cell (p := ⟨w12.heap.size, 0, none⟩) (by simp)).trans (by go_cell)
                have f1 : w13.cell? ⟨w12.heap.size, 1, none⟩ = some (.int .i64 v1) := (hb13.cell (p := ⟨w12.heap.size, 1, none⟩) (by simp)).trans (by go_cell)
                have f2 : w13.cell? ⟨w12.heap.size, 2, none⟩ = some (.string v2) := (hb13.cell (p := ⟨w12.heap.size, 2, none⟩) (by simp)).trans (by go_cell)
                have s13 : w12.heap.size < w13.heap.size := Nat.lt_of_lt_of_le (by simp) hb13.size
                have hTe := at_k _ _ HT9.out (below_chain HB14.out hb13)
                have m1 : ¬ w13.heap.size = w11.heap.size := by omega
                have m2 : ¬ w11.heap.size = w13.heap.size := by omega
                have m3 : ¬ w13.heap.size = w12.heap.size := by omega
                have m4 : ¬ w12.heap.size = w13.heap.size := by omega
                have HTE := hide hTe
                have s11 : w11.heap.size < w13.heap.size := by omega
                have d0' : (w13.alloc (.cells #[.int .i64 v0, .int .i64 v1, .string v2] 23)).cell? ⟨w11.heap.size, 0, none⟩ = some (.int .i64 v0) := (World.cell?_alloc_past _ _ _ s11).trans d0
                clear d0
                have d1' : (w13.alloc (.cells #[.int .i64 v0, .int .i64 v1, .string v2] 23)).cell? ⟨w11.heap.size, 1, none⟩ = some (.int .i64 v1) := (World.cell?_alloc_past _ _ _ s11).trans d1
                clear d1
                have d2' : (w13.alloc (.cells #[.int .i64 v0, .int .i64 v1, .string v2] 23)).cell? ⟨w11.heap.size, 2, none⟩ = some (.string v2) := (World.cell?_alloc_past _ _ _ s11).trans d2
                clear d2
                have f0' : (w13.alloc (.cells #[.int .i64 v0, .int .i64 v1, .string v2] 23)).cell? ⟨w12.heap.size, 0, none⟩ = some (.int .i64 v0) := (World.cell?_alloc_past _ _ _ s13).trans f0
                clear f0
                have f1' : (w13.alloc (.cells #[.int .i64 v0, .int .i64 v1, .string v2] 23)).cell? ⟨w12.heap.size, 1, none⟩ = some (.int .i64 v1) := (World.cell?_alloc_past _ _ _ s13).trans f1
                clear f1
                have f2' : (w13.alloc (.cells #[.int .i64 v0, .int .i64 v1, .string v2] 23)).cell? ⟨w12.heap.size, 2, none⟩ = some (.string v2) := (World.cell?_alloc_past _ _ _ s13).trans f2
                clear f2
                clear c3 HB14 hb13 hbd D0 D1 D2 hTe HW9 HT9
                go_wp2_with fail
                go_ret
                exact ⟨rfl, HTE.out.alloc HTE.out.size _⟩
  · clear CN2 CE CL1 CL2 HME HFEW HMORE HNL HENV HOTH HS1 HS2
    have C3 := CN1.out _ HLL.out.bl hz
    generalize chkX x = z at *
    have hzb : (z != 0) = true := by simpa using hz
    refine C3.mono ?_
    rintro e w3 ⟨rfl, hb3⟩
    have hT3 := at_k _ _ HLL.out.bl hb3
    clear C3 HLL hz hb3 CN1
    go_wp2_with fail
    go_ret
    exact ⟨rfl, hT3⟩
end Go.Proofs.YtclbillfffpknaaGreatDoor
