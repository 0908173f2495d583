/-
  The contract of exprs.Eval, for every expression and every environment; utf8.ValidString's and strings.Compare's contracts are hypotheses here.
-/
import Derived.Test.YtecapnipkngniaaGreatDoorYa
import Derived.Test.YtecapnipkngniaaGreatDoorXj
import Derived.Test.YtecapnipkngniaaGreatDoorPb
import Derived.Test.YtecapnipkngniaaGreatDoorRa
import Derived.Test.YtecapnipkngniaaGreatDoorDm
namespace Go.Proofs.YtecapnipkngniaaGreatDoor
open Go.RowKit Go.Shelf Go.Deep
variable (Tabs : World → Prop) (B0 : Nat)

theorem infoStr : (Tryz.prog.info? 9).map (fun i => (i.zero, i.size, i.bytes)) = some (some (.string ⟨#[]⟩), 1, 16) := by kernel_rfl
theorem infoInt : (Tryz.prog.info? 3).map (fun i => (i.zero, i.size, i.bytes)) = some (some (.int .i64 0), 1, 8) := by kernel_rfl

/-- the rows of names and sorts behind k rounds -/
def rowN (bs : List (ByteArray × Vl)) (k : Nat) : Nat → Value := fun i => .string (if i < k then (bs.map (·.1)).getD i ⟨#[]⟩ else ⟨#[]⟩)
def rowZ (bs : List (ByteArray × Vl)) (k : Nat) : Nat → Value := fun i => .int .i64 (if i < k then (bs.map (·.2.so)).getD i 0 else 0)
theorem rowN_zero (bs : List (ByteArray × Vl)) : rowN bs 0 = fun _ => .string ⟨#[]⟩ := by funext i; simp [rowN]
theorem rowZ_zero (bs : List (ByteArray × Vl)) : rowZ bs 0 = fun _ => .int .i64 0 := by funext i; simp [rowZ]
theorem badL_take (bs : List (ByteArray × Vl)) : ∀ (k : Nat) (hk : k < bs.length), badL (bs.take k) = 0 → badL (bs.take (k + 1)) = chkZ vD bs[k].2.so bs[k].2.n bs[k].2.s ∧ (chkZ vD bs[k].2.so bs[k].2.n bs[k].2.s ≠ 0 → badL bs = chkZ vD bs[k].2.so bs[k].2.n bs[k].2.s) := by
  induction bs with
  | nil => intro k hk; simp at hk
  | cons p r ih =>
    intro k hk h
    cases k with
    | zero =>
      simp only [List.take_succ_cons, List.take_zero, badL, List.getElem_cons_zero]
      by_cases hp : chkZ vD p.2.so p.2.n p.2.s = 0
      · rw [if_pos hp]; exact ⟨hp.symm, fun hn => absurd hp hn⟩
      · rw [if_neg hp]; exact ⟨rfl, fun _ => by rw [if_neg hp]⟩
    | succ k =>
      simp only [List.take_succ_cons, badL, List.getElem_cons_succ] at h ⊢
      by_cases hp : chkZ vD p.2.so p.2.n p.2.s = 0
      · rw [if_pos hp] at h ⊢
        rw [if_pos hp]
        exact ih k (by simpa using hk) h
      · rw [if_neg hp] at h; exact absurd h hp

theorem badL_zero : ∀ (bs : List (ByteArray × Vl)), badL bs = 0 → ∀ p ∈ bs, chkZ vD p.2.so p.2.n p.2.s = 0
  | [], _, p, hp => by cases hp
  | q :: r, h, p, hp => by
    unfold badL at h
    by_cases hq : chkZ vD q.2.so q.2.n q.2.s = 0
    · rw [if_pos hq] at h
      rcases List.mem_cons.1 hp with rfl | hp
      · exact hq
      · exact badL_zero r h p hp
    · rw [if_neg hq] at h; exact absurd h hq
theorem rowN_step (bs : List (ByteArray × Vl)) (k : Nat) (hk : k < bs.length) (i : Nat) : (if i = k then Value.string bs[k].1 else rowN bs k i) = rowN bs (k + 1) i := by
  unfold rowN
  by_cases h : i = k
  · subst h; rw [if_pos rfl, if_pos (by omega)]; simp [hk]
  · rw [if_neg h]
    by_cases h2 : i < k
    · rw [if_pos h2, if_pos (by omega)]
    · rw [if_neg h2, if_neg (by omega)]
theorem rowZ_step (bs : List (ByteArray × Vl)) (k : Nat) (hk : k < bs.length) (i : Nat) : (if i = k then Value.int .i64 bs[k].2.so else rowZ bs k i) = rowZ bs (k + 1) i := by
  unfold rowZ
  by_cases h : i = k
  · subst h; rw [if_pos rfl, if_pos (by omega)]; simp [hk]
  · rw [if_neg h]
    by_cases h2 : i < k
    · rw [if_pos h2, if_pos (by omega)]
    · rw [if_neg h2, if_neg (by omega)]
theorem rows_ns (W : World) (bs : List (ByteArray × Vl)) (bn bz B : Nat) (hl : bs.length ≤ 9223372036854775806) (h1 : W.rowIs bn 9 bs.length (rowN bs bs.length)) (h2 : W.rowIs bz 3 bs.length (rowZ bs bs.length)) (hn : bn < B) (hz : bz < B) :
    NSAt W B (bs.map (·.1)) (bs.map (·.2.so)) (some ⟨bn, 0, none⟩) (some ⟨bz, 0, none⟩) :=
  ⟨by simp, by simpa using hl, .inr ⟨bn, 0, rfl, hn, fun i hi => by
    have hi' : i < bs.length := by simpa using hi
    rw [Nat.zero_add, h1.cell hi']; simp [rowN, hi']⟩, .inr ⟨bz, 0, rfl, hz, fun i hi => by
    have hi' : i < bs.length := by simpa using hi
    rw [Nat.zero_add, h2.cell hi']; simp [rowZ, hi']⟩⟩

set_option maxHeartbeats 4000000 in
theorem eval_walk (hV : VSaid vD Tabs) (hK : ∀ w w', Tabs w → Below w.heap.size w w' → Tabs w') (hK2 : ∀ B w w', B0 ≤ B → Tabs w → Below B w w' → Tabs w') (hB0 : ∀ w, Tabs w → B0 ≤ w.heap.size) (hC : CSaid)
    (d : Nat) (x : Ex) (ao : Option Addr) (cap : Nat) (bs : List (ByteArray × Vl)) (ae : Option Addr) (ce : Nat) (w : World) (hbd : ExBd x cap) (hka : KA w w.heap.size d x.kids ao) (henv : EnvAt w w.heap.size bs ae) (hlen : bs.length ≤ 2932031007402) (hss : ∀ p ∈ bs, p.2.s.size ≤ 9223372036854775807) (hT : Tabs w) (hz : chkX x = 0) :
    Calls Tryz.prog 5 #[exVal x ao cap, .slice ae bs.length ce] w fun e w' => e = .returned (.tuple #[vlV (evlR x bs).1, .int .i64 (evlR x bs).2]) ∧ Below w.heap.size w w' := by
  have hwf := chk_wf x 0 hz
  have hw1 : Below w.heap.size w ((w.alloc (.cells #[.int .i64 x.kind, .string x.name, .int .i64 x.so, .int .i64 x.n, .string x.s, .slice ao x.kids.length cap] 26)).alloc (.cells #[.int .i64 0, .int .i64 0, .string ⟨#[]⟩] 23)) := ((Below.refl _ _).alloc (Nat.le_refl _) _).alloc (by simp) _
  have cK := chk_any Tabs B0 hV hK hK2 hB0 d x ao cap _ hbd ((hka.keep hw1).mono (by simp; omega)) (hK _ _ hT hw1)
  rw [hz] at cK
  have hZ := ZB.new (w.alloc (.cells #[.int .i64 x.kind, .string x.name, .int .i64 x.so, .int .i64 x.n, .string x.s, .slice ao x.kids.length cap] 26)) 23
  rw [show (w.alloc (.cells #[.int .i64 x.kind, .string x.name, .int .i64 x.so, .int .i64 x.n, .string x.s, .slice ao x.kids.length cap] 26)).heap.size = w.heap.size + 1 by simp] at hZ
  have HW : Hid (Below w.heap.size w ((w.alloc (.cells #[.int .i64 x.kind, .string x.name, .int .i64 x.so, .int .i64 x.n, .string x.s, .slice ao x.kids.length cap] 26)).alloc (.cells #[.int .i64 0, .int .i64 0, .string ⟨#[]⟩] 23))) := hw1
  simp only [exVal] at cK ⊢
  have hm1 := run_make_row' (P := Tryz.prog) 34 9 (.string ⟨#[]⟩) 16 Tryz.underlying34 infoStr rfl .i64 .i64 bs.length (by omega) (by omega)
  have hm2 := run_make_row' (P := Tryz.prog) 48 3 (.int .i64 0) 8 Tryz.underlying48 infoInt rfl .i64 .i64 bs.length (by omega) (by omega)
  clear hw1
  go_enter Tryz.func5, Tryz.ntmps5
  go_wp2_with fail
  refine cK.mono ?_
  rintro e w1 ⟨rfl, hb1⟩
  have hbw : Below w.heap.size w w1 := HW.out.trans (hb1.mono (by simp; omega))
  have hsz : w.heap.size + 1 < w1.heap.size := by have := hb1.size; simp at this; omega
  have hT1 := hK _ _ (hK _ _ hT HW.out) hb1
  obtain ⟨hc, _⟩ := bcell hb1
  have hX : ExAt w1 w.heap.size 0 x ao cap := ⟨(hc _ 0 (by simp; omega)).trans (by go_cell), (hc _ 1 (by simp; omega)).trans (by go_cell), (hc _ 2 (by simp; omega)).trans (by go_cell), (hc _ 3 (by simp; omega)).trans (by go_cell), (hc _ 4 (by simp; omega)).trans (by go_cell), (hc _ 5 (by simp; omega)).trans (by go_cell)⟩
  have hZ1 := hZ.keep hb1
  clear hc hb1 cK hZ HW
  go_wp2_with fail
  go_cut [7, 8] (fun s7 s8 wc => ∃ bn bz, s7 = .slice (some ⟨bn, 0, none⟩) bs.length bs.length ∧ s8 = .slice (some ⟨bz, 0, none⟩) bs.length bs.length ∧ bn ≠ bz ∧ w1.heap.size ≤ bn ∧ w1.heap.size ≤ bz ∧ wc.rowIs bn 9 bs.length (fun _ => .string ⟨#[]⟩) ∧ wc.rowIs bz 3 bs.length (fun _ => .int .i64 0) ∧ Below w1.heap.size w1 wc)
  case first =>
    go_region
    all_goals go_wp2_with fail
    · go_meet
      case rel =>
        refine ⟨w1.heap.size, w1.heap.size + 1, rfl, rfl, by omega, by omega, by omega, ((World.rowIs_made w1 _ _ 9).alloc _).drew, ?_, (((Below.refl _ _).alloc (Nat.le_refl _) _).alloc (by simp) _).drew⟩
        have := (World.rowIs_made (w1.alloc (.cells (madeCells #[Value.string ⟨#[]⟩] bs.length) 9)) (.int .i64 0) bs.length 3).drew
        simpa using this
    · go_meet
      case rel =>
        refine ⟨w1.heap.size + 1, w1.heap.size, rfl, rfl, by omega, by omega, by omega, ?_, ((World.rowIs_made w1 _ _ 3).alloc _).drew, (((Below.refl _ _).alloc (Nat.le_refl _) _).alloc (by simp) _).drew⟩
        have := (World.rowIs_made (w1.alloc (.cells (madeCells #[Value.int .i64 0] bs.length) 3)) (.string ⟨#[]⟩) bs.length 9).drew
        simpa using this
  case rest =>
    obtain ⟨bn, bz, rfl, rfl, hne, hbn, hbz, rn, rz, hbc⟩ := hcut
    have hTc := hK _ _ hT1 hbc
    rw [← rowN_zero bs] at rn
    rw [← rowZ_zero bs] at rz
    have hnz : (bs.length : Int) ≤ 2932031007402 := by omega
    have HT1 : Hid (Tabs w1) := hT1
    clear hm1 hm2 hT1
    go_wp2_with fail
    go_loopw [28] (fun i wr => ∃ k : Nat, k ≤ bs.length ∧ i = .int .i64 (k : Int) ∧ badL (bs.take k) = 0 ∧ wr.rowIs bn 9 bs.length (rowN bs k) ∧ wr.rowIs bz 3 bs.length (rowZ bs k) ∧ Below w1.heap.size w1 wr ∧ Tabs wr) (fun i _ => bs.length - (intOf i).toNat)
    case atStart => exact ⟨0, Nat.zero_le _, rfl, rfl, rn, rz, hbc, hTc⟩
    case round =>
      obtain ⟨k, hk, rfl, hbad, rn', rz', hbr, hTr⟩ := hrel
      clear rn rz hbc hTc
      by_cases hlt : k < bs.length
      · have hltz : (k : Int) < (bs.length : Int) := by omega
        rcases (henv.keep hbw).c with e | ⟨b, o, rfl, hbB, hcells⟩
        · subst e; simp at hlt
        · obtain ⟨c0, c1, c2, c3⟩ := hcells k hlt
          have hbs : b < w1.heap.size := by omega
          replace c0 := (hbr.cell (p := ⟨b, o + k * 4, none⟩) hbs).trans c0
          replace c1 := (hbr.cell (p := ⟨b, o + k * 4 + 1, none⟩) hbs).trans c1
          replace c2 := (hbr.cell (p := ⟨b, o + k * 4 + 2, none⟩) hbs).trans c2
          replace c3 := (hbr.cell (p := ⟨b, o + k * 4 + 3, none⟩) hbs).trans c3
          have hbt := badL_take bs k hlt hbad
          have cV := check_any vD Tabs hV hK bs[k].2.so bs[k].2.n bs[k].2.s (wr.alloc (.cells #[.string bs[k].1, .int .i64 bs[k].2.so, .int .i64 bs[k].2.n, .string bs[k].2.s] 50)) (hss _ (List.getElem_mem hlt)) (hK _ _ hTr ((Below.refl _ _).alloc (Nat.le_refl _) _))
          generalize chkZ vD bs[k].2.so bs[k].2.n bs[k].2.s = zz at cV hbt
          clear hcells
          have HB : Hid (badL (bs.take (k + 1)) = zz ∧ (zz ≠ 0 → badL bs = zz)) := hbt
          have HBD : Hid (badL (bs.take k) = 0) := hbad
          clear hbt hbad
          go_wp2_with fail
          refine cV.mono ?_
          rintro e w2 ⟨rfl, hb2⟩
          have hbr2 : Below w1.heap.size w1 w2 := (hbr.alloc hbr.size _).trans (hb2.mono (by have := hbr.size; simp; omega))
          have hT2 := hK _ _ (hK _ _ hTr ((Below.refl _ _).alloc (Nat.le_refl _) _)) hb2
          have q0 : w2.cell? ⟨wr.heap.size, 0, none⟩ = some (.string bs[k].1) := (hb2.cell (p := ⟨wr.heap.size, 0, none⟩) (by simp)).trans (by go_cell)
          have q1 : w2.cell? ⟨wr.heap.size, 1, none⟩ = some (.int .i64 bs[k].2.so) := (hb2.cell (p := ⟨wr.heap.size, 1, none⟩) (by simp)).trans (by go_cell)
          have rn2 : w2.rowIs bn 9 bs.length (rowN bs k) := rn'.of_block ((hb2.block bn (by have := rn'.lt; simp; omega)).trans (Below.heap_alloc _ _ _ rn'.lt))
          have rz2 : w2.rowIs bz 3 bs.length (rowZ bs k) := rz'.of_block ((hb2.block bz (by have := rz'.lt; simp; omega)).trans (Below.heap_alloc _ _ _ rz'.lt))
          have hqn : bn < wr.heap.size := rn'.lt
          have hqz : bz < wr.heap.size := rz'.lt
          clear cV c0 c1 c2 c3 rn' rz' hbr hTr hb2
          by_cases hzz : zz = 0
          · subst hzz
            have n1 := rn2.cell hlt
            have n2 := rn2.frozen k
            have n3 := rz2.cell hlt
            have n4 := rz2.frozen k
            have hne' : ¬ bz = bn := fun h => hne h.symm
            have p1 : ¬ bn = wr.heap.size := by omega
            have p2 : ¬ bz = wr.heap.size := by omega
            have p3 : ¬ wr.heap.size = bn := by omega
            have p4 : ¬ wr.heap.size = bz := by omega
            generalize wr.heap.size = q at *
            have RN : Hid (w2.rowIs bn 9 bs.length (rowN bs k)) := rn2
            have RZ : Hid (w2.rowIs bz 3 bs.length (rowZ bs k)) := rz2
            clear rn2 rz2
            go_wp2_with fail
            go_region_held3 (fun w' => w'.cell? ⟨q, 0, none⟩ = some (.string bs[k].1) ∧ w'.cell? ⟨q, 1, none⟩ = some (.int .i64 bs[k].2.so)) (go_keep) (fail)
            go_wp2_with fail
            go_roundw
            case rel =>
              have hBF : Below w1.heap.size w1 ((w2.setCell ⟨bn, k, none⟩ (.string bs[k].1)).setCell ⟨bz, k, none⟩ (.int .i64 bs[k].2.so)).drew := ((hbr2.setCell (p := ⟨bn, k, none⟩) hbn _).setCell (p := ⟨bz, k, none⟩) hbz _).drew
              refine ⟨k + 1, by omega, by go_num, HB.out.1, ?_, ?_, hBF, hK2 _ _ _ (hB0 _ HT1.out) HT1.out hBF⟩
              · exact ((((RN.out.set k (.string bs[k].1)).setOther (a := ⟨bz, k, none⟩) hne _)).congr (fun i _ => rowN_step bs k hlt i)).drew
              · exact (((RZ.out.setOther (a := ⟨bn, k, none⟩) hne' (.string bs[k].1)).set k (.int .i64 bs[k].2.so)).congr (fun i _ => rowZ_step bs k hlt i)).drew
            case measure => simp [intOf]; omega
          · have hzb : (zz != 0) = true := by simpa using hzz
            have HE : Hid (evlR x bs = (⟨0, 0, ⟨#[]⟩⟩, zz)) := by
              have hbb := HB.out.2 hzz
              show evlR x bs = _; unfold evlR; rw [if_neg (by simpa using hz), if_pos (by rw [hbb]; exact hzz), hbb]
            obtain ⟨_, r0, r1, r2, f0, f1, f2⟩ := hZ1.keep hbr2
            have hbwF : Below w.heap.size w w2 := hbw.trans (hbr2.mono hbw.size)
            clear hzz HB HBD rn2 rz2 q0 q1 hZ1 hX hbr2 hbw
            go_wp2_with fail
            refine bodyPost_ret (v := .tuple #[.agg #[.int .i64 0, .int .i64 0, .string ⟨#[]⟩], .int .i64 zz]) (by simp [results, Tryz.results5, go_sem, r0, r1, r2]) rfl ⟨by rw [HE.out]; rfl, ?_⟩
            have hsw := hbwF.size
            go_grown
      · have hkl : k = bs.length := by omega
        subst hkl
        have hltz : ¬ (bs.length : Int) < (bs.length : Int) := by omega
        rw [List.take_length] at hbad
        have hgood := badL_zero bs hbad
        have hbwr : Below w.heap.size w wr := hbw.trans (hbr.mono hbw.size)
        have hns := rows_ns wr bs bn bz wr.heap.size (by omega) rn' rz' rn'.lt rz'.lt
        have cS := sortOf_any (bs.map (·.1)) (bs.map (·.2.so)) (some ⟨bn, 0, none⟩) (some ⟨bz, 0, none⟩) bs.length bs.length d x ao cap wr.heap.size wr hwf hbd ((hka.keep hbwr).mono hbwr.size) hns (Nat.le_refl _)
        have cV := fun (W : World) (hW : Below w.heap.size w W) (hTW : Tabs W) => valueOf_any Tabs hV hK hC bs ae ce (fun p hp => chk_size _ _ _ (hgood p hp)) d x ao cap w.heap.size W hwf hbd (hka.keep hW) (henv.keep hW) hW.size hTW
        have hE : evlR x bs = if (sortX (lookS (bs.map (·.1)) (bs.map (·.2.so))) x).2 ≠ 0 then (⟨0, 0, ⟨#[]⟩⟩, (sortX (lookS (bs.map (·.1)) (bs.map (·.2.so))) x).2) else (valX (lookV bs) x, 0) := by
          unfold evlR; rw [if_neg (by simpa using hz), if_neg (by simpa using hbad)]
        generalize sortX (lookS (bs.map (·.1)) (bs.map (·.2.so))) x = r at cS hE
        generalize valX (lookV bs) x = v at cV hE
        obtain ⟨r1, r2⟩ := r
        obtain ⟨v0, v1, v2⟩ := v
        simp only [exVal, vlV, List.length_map] at cS cV
        obtain ⟨y0, y1, y2, y3, y4, y5⟩ := hX.keep hbr (by omega)
        have CV : Hid (∀ (W : World), Below w.heap.size w W → Tabs W → Calls Tryz.prog 22 #[.agg #[.int .i64 x.kind, .string x.name, .int .i64 x.so, .int .i64 x.n, .string x.s, .slice ao x.kids.length cap], .slice ae bs.length ce] W fun e w' => e = .returned (.agg #[.int .i64 v0, .int .i64 v1, .string v2]) ∧ Below W.heap.size W w') := cV
        clear cV hns rn' rz' hgood hss
        simp only [Nat.zero_add] at y0 y1 y2 y3 y4 y5
        by_cases hr2 : r2 = 0
        · subst hr2
          have HE : Hid (evlR x bs = (⟨v0, v1, v2⟩, 0)) := by show evlR x bs = _; rw [hE]; simp
          clear hE
          go_wp2_with fail
          refine cS.mono ?_
          rintro e w2 ⟨rfl, hb2⟩
          have hb12 : Below w1.heap.size w1 w2 := hbr.trans (hb2.mono hbr.size)
          have hbw2 : Below w.heap.size w w2 := hbw.trans (hb12.mono hbw.size)
          have hT2 := hK _ _ hTr hb2
          obtain ⟨y0, y1, y2, y3, y4, y5⟩ := hX.keep hb12 (by omega)
          simp only [Nat.zero_add] at y0 y1 y2 y3 y4 y5
          have hZ2 := hZ1.keep hb12
          clear cS hb2
          go_wp2_with fail
          refine (CV.out _ hbw2 hT2).mono ?_
          rintro e w3 ⟨rfl, hb3⟩
          have hbwF : Below w.heap.size w w3 := hbw2.trans (hb3.mono hbw2.size)
          obtain ⟨_, r0, r1, r2, f0, f1, f2⟩ := hZ2.keep hb3
          clear y0 y1 y2 y3 y4 y5 hX hZ1 hZ2 CV
          go_wp2_with fail
          refine bodyPost_ret (v := .tuple #[.agg #[.int .i64 v0, .int .i64 v1, .string v2], .int .i64 0]) (by simp [results, Tryz.results5, go_sem, r0, r1, r2]) rfl ⟨by rw [HE.out]; rfl, ?_⟩
          have hsw := hbwF.size
          go_grown
        · have hzb : (r2 != 0) = true := by simpa using hr2
          have HE : Hid (evlR x bs = (⟨0, 0, ⟨#[]⟩⟩, r2)) := by show evlR x bs = _; rw [hE]; simp [hr2]
          clear hE hr2 CV
          go_wp2_with fail
          refine cS.mono ?_
          rintro e w2 ⟨rfl, hb2⟩
          have hb12 : Below w1.heap.size w1 w2 := hbr.trans (hb2.mono hbr.size)
          have hbwF : Below w.heap.size w w2 := hbw.trans (hb12.mono hbw.size)
          obtain ⟨_, s0, s1, s2, f0, f1, f2⟩ := hZ1.keep hb12
          clear y0 y1 y2 y3 y4 y5 hX hZ1 cS hb2
          go_wp2_with fail
          refine bodyPost_ret (v := .tuple #[.agg #[.int .i64 0, .int .i64 0, .string ⟨#[]⟩], .int .i64 r2]) (by simp [results, Tryz.results5, go_sem, s0, s1, s2]) rfl ⟨by rw [HE.out]; rfl, ?_⟩
          have hsw := hbwF.size
          go_grown

set_option maxHeartbeats 1000000 in
theorem eval_any (hV : VSaid vD Tabs) (hK : ∀ w w', Tabs w → Below w.heap.size w w' → Tabs w') (hK2 : ∀ B w w', B0 ≤ B → Tabs w → Below B w w' → Tabs w') (hB0 : ∀ w, Tabs w → B0 ≤ w.heap.size) (hC : CSaid)
    (d : Nat) (x : Ex) (ao : Option Addr) (cap : Nat) (bs : List (ByteArray × Vl)) (ae : Option Addr) (ce : Nat) (w : World) (hbd : ExBd x cap) (hka : KA w w.heap.size d x.kids ao) (henv : EnvAt w w.heap.size bs ae) (hlen : bs.length ≤ 2932031007402) (hss : ∀ p ∈ bs, p.2.s.size ≤ 9223372036854775807) (hT : Tabs w) :
    Calls Tryz.prog 5 #[exVal x ao cap, .slice ae bs.length ce] w fun e w' => e = .returned (.tuple #[vlV (evlR x bs).1, .int .i64 (evlR x bs).2]) ∧ Below w.heap.size w w' := by
  by_cases hz : chkX x = 0
  · exact eval_walk Tabs B0 hV hK hK2 hB0 hC d x ao cap bs ae ce w hbd hka henv hlen hss hT hz
  · have hE : evlR x bs = (⟨0, 0, ⟨#[]⟩⟩, chkX x) := by unfold evlR; rw [if_pos hz]
    rw [hE]
    have hw1 : Below w.heap.size w ((w.alloc (.cells #[.int .i64 x.kind, .string x.name, .int .i64 x.so, .int .i64 x.n, .string x.s, .slice ao x.kids.length cap] 26)).alloc (.cells #[.int .i64 0, .int .i64 0, .string ⟨#[]⟩] 23)) := ((Below.refl _ _).alloc (Nat.le_refl _) _).alloc (by simp) _
    have cK := chk_any Tabs B0 hV hK hK2 hB0 d x ao cap _ hbd ((hka.keep hw1).mono (by simp; omega)) (hK _ _ hT hw1)
    have hZ := ZB.new (w.alloc (.cells #[.int .i64 x.kind, .string x.name, .int .i64 x.so, .int .i64 x.n, .string x.s, .slice ao x.kids.length cap] 26)) 23
    rw [show (w.alloc (.cells #[.int .i64 x.kind, .string x.name, .int .i64 x.so, .int .i64 x.n, .string x.s, .slice ao x.kids.length cap] 26)).heap.size = w.heap.size + 1 by simp] at hZ
    have HW : Hid (Below w.heap.size w ((w.alloc (.cells #[.int .i64 x.kind, .string x.name, .int .i64 x.so, .int .i64 x.n, .string x.s, .slice ao x.kids.length cap] 26)).alloc (.cells #[.int .i64 0, .int .i64 0, .string ⟨#[]⟩] 23))) := hw1
    simp only [exVal, vlV] at cK ⊢
    generalize chkX x = z at cK hz ⊢
    have hzb : (z != 0) = true := by simpa using hz
    clear hw1 hV hK hK2 hB0 hC hka henv hT hE hbd hss
    go_enter Tryz.func5, Tryz.ntmps5
    go_wp2_with fail
    refine cK.mono ?_
    rintro e w1 ⟨rfl, hb1⟩
    have hbw : Below w.heap.size w w1 := HW.out.trans (hb1.mono (by simp; omega))
    obtain ⟨_, r0, r1, r2, f0, f1, f2⟩ := hZ.keep hb1
    clear cK hZ hb1 HW hz
    go_wp2_with fail
    refine bodyPost_ret (v := .tuple #[.agg #[.int .i64 0, .int .i64 0, .string ⟨#[]⟩], .int .i64 z]) (by simp [results, Tryz.results5, go_sem, r0, r1, r2]) rfl ⟨rfl, ?_⟩
    have hsw := hbw.size
    go_grown
end Go.Proofs.YtecapnipkngniaaGreatDoor
/-
  The contract of exprs.namesIn, for every right expression: the names, as they stand, in a row of its own.
-/
namespace Go.Proofs.YtecapnipkngniaaGreatDoor
open Go.RowKit Go.Shelf

theorem own_keep {W W' : World} {base : Nat} {e : TypeId} {size : Nat} {v : Value} {n : Nat} {xs : List Value} (h : W.ownsRow base e size v n xs) (hb : Below W.heap.size W W') : W'.ownsRow base e size v n xs := by
  refine ⟨h.1, h.2.imp id ?_⟩
  rintro ⟨g, cap, cur, h1, h2, h3, h4⟩
  refine ⟨g, cap, cur, h1, h2, ?_, h4⟩
  rw [hb.block g ?_]
  · exact h3
  · rcases Nat.lt_or_ge g W.heap.size with hlt | hge
    · exact hlt
    · rw [Array.getElem?_eq_none hge] at h3; cases h3
theorem own_mono {W : World} {base base' : Nat} {e : TypeId} {size : Nat} {v : Value} {n : Nat} {xs : List Value} (h : W.ownsRow base e size v n xs) (hb : base' ≤ base) : W.ownsRow base' e size v n xs :=
  ⟨h.1, h.2.imp id fun ⟨g, cap, cur, h1, h2, h3⟩ => ⟨g, cap, cur, h1, Nat.le_trans hb h2, h3⟩⟩
theorem own_from {W : World} {base : Nat} {e : TypeId} {size : Nat} {u : Value} {n : Nat} {xs : List Value} (h : W.ownsRow base e size u n xs) : ∀ k, u.ownBlock = some k → base ≤ k := fun k hk => (h.lt k hk).1
/-- the names of the first Kids -/
def preN (x : Ex) (k : Nat) : List ByteArray := ((x.kids.take k).map nmsX).flatten
theorem preN_succ (x : Ex) (k : Nat) (h : k < x.kids.length) : preN x (k + 1) = preN x k ++ nmsX x.kids[k] := by
  unfold preN
  rw [List.take_succ_eq_append_getElem h, List.map_append, List.flatten_append]
  simp
theorem preN_all (x : Ex) (h : ¬ x.kind = 2) : preN x x.kids.length = nmsX x := by
  unfold preN
  rw [List.take_length, nmsX_eq, if_neg h]
theorem flat_take (ks : List Ex) : ∀ k, ((ks.take k).map nmsX).flatten.length ≤ (ks.map sizeX).sum := by
  induction ks with
  | nil => intro k; simp
  | cons y ks ih =>
    intro k
    cases k with
    | zero => simp
    | succ k =>
      have h1 := nms_len y
      have h2 := ih k
      simp only [List.take_succ_cons, List.map_cons, List.flatten_cons, List.length_append, List.sum_cons]
      omega
theorem preN_len (x : Ex) (k : Nat) : (preN x k).length ≤ sizeX x := by
  rw [sizeX_eq]
  have := flat_take x.kids k
  unfold preN
  omega
theorem kid_size (x k : Ex) (h : k ∈ x.kids) : sizeX k ≤ sizeX x := by
  rw [sizeX_eq x]
  have : ∀ ks : List Ex, k ∈ ks → sizeX k ≤ (ks.map sizeX).sum := by
    intro ks
    induction ks with
    | nil => intro h; cases h
    | cons y ks ih =>
      intro h
      simp only [List.map_cons, List.sum_cons]
      rcases List.mem_cons.1 h with rfl | h
      · omega
      · have := ih h; omega
  have := this x.kids h
  omega
def NSaid (d : Nat) : Prop := ∀ (x : Ex) (ao : Option Addr) (cap B : Nat) (w : World), wfX x → sizeX x ≤ 60 → ExBd x cap → KA w B d x.kids ao → B ≤ w.heap.size →
  Calls Tryz.prog 32 #[exVal x ao cap] w fun e w' => ∃ v, e = .returned v ∧ w'.ownsRow w.heap.size 9 1 v (nmsX x).length ((nmsX x).map Value.string) ∧ Below w.heap.size w w'

set_option maxHeartbeats 1000000 in
theorem namesIn_a (x : Ex) (ao : Option Addr) (cap : Nat) (w : World) (hwf : wfX x) (h2 : x.kind = 2) :
    Calls Tryz.prog 32 #[exVal x ao cap] w fun e w' => ∃ v, e = .returned v ∧ w'.ownsRow w.heap.size 9 1 v (nmsX x).length ((nmsX x).map Value.string) ∧ Below w.heap.size w w' := by
  have cC := fun W => clone_any x.name W (wf_small x hwf).1
  rw [nmsX_eq, if_pos h2]
  simp only [exVal, List.length_singleton, List.map_cons, List.map_nil]
  rw [h2]
  clear hwf
  go_enter Tryz.func32, Tryz.ntmps32
  go_wp2_with fail
  refine (cC _).mono ?_
  rintro e w1 ⟨rfl, hb1⟩
  have hB : Below w.heap.size w w1 := ((Below.refl _ _).alloc (Nat.le_refl _) _).trans (hb1.mono (by simp))
  have hO := World.ownsRow_lit (base := w.heap.size) (e := 9) (size := 1) w1 #[.string x.name] 1 hB.size (by decide) rfl
  clear hb1 cC
  go_wp2_with fail
  go_ret
  exact ⟨_, rfl, hO, hB.alloc hB.size _⟩

set_option maxRecDepth 100000 in
set_option maxHeartbeats 2000000 in
theorem namesIn_step (d : Nat) (ih : ∀ d', d' < d → NSaid d') : NSaid d := by
  intro x ao cap B w hwf h60 hbd hka hB
  by_cases h2 : x.kind = 2
  · exact namesIn_a x ao cap w hwf h2
  · obtain ⟨i0, hi, hz0, hz1, hz2⟩ := info_parts infoStr
    have hkn : x.kids.length ≤ 2 := kids_two x hwf
    have hall := preN_all x h2
    rw [← hall]
    have hkb : (x.kind == 2) = false := by simpa using h2
    clear h2
    have HB0 : Below w.heap.size w (w.alloc (.cells #[.int .i64 x.kind, .string x.name, .int .i64 x.so, .int .i64 x.n, .string x.s, .slice ao x.kids.length cap] 26)) := (Below.refl _ _).alloc (Nat.le_refl _) _
    simp only [exVal]
    go_enter Tryz.func32, Tryz.ntmps32
    go_wp2_with fail
    go_loopw [3, 16] (fun v i wr => ∃ k : Nat, k ≤ x.kids.length ∧ i = .int .i64 (k : Int) ∧ wr.ownsRow w.heap.size 9 1 v (preN x k).length ((preN x k).map Value.string) ∧ Below w.heap.size w wr) (fun _ i _ => x.kids.length - (intOf i).toNat)
    case atStart => exact ⟨0, Nat.zero_le _, rfl, World.ownsRow_nil _ _ _ _, HB0⟩
    case round =>
      obtain ⟨k, hk, rfl, hO, hbr⟩ := hrel
      by_cases hlt : k < x.kids.length
      · have hltz : (k : Int) < (x.kids.length : Int) := by omega
        obtain ⟨d', rfl⟩ : ∃ d', d = d' + 1 := by
          cases d with
          | zero => simp only [KA] at hka; rw [hka] at hlt; simp at hlt
          | succ d' => exact ⟨d', rfl⟩
        rcases hka with e | ⟨b, o, rfl, hbB, hc⟩
        · rw [e] at hlt; simp at hlt
        · obtain ⟨ao', cap', hex, hxb, hkk⟩ := hc k hlt
          obtain ⟨y0, y1, y2, y3, y4, y5⟩ := hex.keep (hbr.mono hB) hbB
          have hwk : wfX x.kids[k] := ((wfX_eq x).1 hwf).2.2 _ (List.getElem_mem hlt)
          have hsk : sizeX x.kids[k] ≤ 60 := Nat.le_trans (kid_size x _ (List.getElem_mem hlt)) h60
          have hVK : Below wr.heap.size wr (wr.alloc (.cells #[.int .i64 x.kids[k].kind, .string x.kids[k].name, .int .i64 x.kids[k].so, .int .i64 x.kids[k].n, .string x.kids[k].s, .slice ao' x.kids[k].kids.length cap'] 26)) := (Below.refl _ _).alloc (Nat.le_refl _) _
          have hwV := hbr.trans (hVK.mono hbr.size)
          have cR := ih d' (by omega) x.kids[k] ao' cap' B (wr.alloc (.cells #[.int .i64 x.kids[k].kind, .string x.kids[k].name, .int .i64 x.kids[k].so, .int .i64 x.kids[k].n, .string x.kids[k].s, .slice ao' x.kids[k].kids.length cap'] 26)) hwk hsk hxb (hkk.keep (hwV.mono hB)) (by have := hwV.size; omega)
          have hps := preN_succ x k hlt
          have hpl := preN_len x (k + 1)
          rw [hps, List.length_append] at hpl
          simp only [exVal] at cR
          have HO := hide (hO.alloc (.cells #[.int .i64 x.kids[k].kind, .string x.kids[k].name, .int .i64 x.kids[k].so, .int .i64 x.kids[k].n, .string x.kids[k].s, .slice ao' x.kids[k].kids.length cap'] 26))
          have HPS := hide hps
          have HWV := hide hwV
          clear hO hVK hwV hps hc hkk hex ih hwk hsk hall HB0 hbd
          go_wp2_with fail
          clear y0 y1 y2 y3 y4 y5
          generalize wr.alloc (.cells #[.int .i64 x.kids[k].kind, .string x.kids[k].name, .int .i64 x.kids[k].so, .int .i64 x.kids[k].n, .string x.kids[k].s, .slice ao' x.kids[k].kids.length cap'] 26) = VK at *
          refine cR.mono ?_
          rintro e w2 ⟨v2, rfl, hO2, hb2⟩
          have hO1 := own_keep HO.out hb2
          have hB2 := HWV.out.trans (hb2.mono HWV.out.size)
          have h63 : (preN x k).length + (nmsX x.kids[k]).length ≤ maxLen := by unfold maxLen; omega
          have hby : ((preN x k).length + (nmsX x.kids[k]).length) * 16 ≤ 140737488355328 := by omega
          have h1c : ∀ y ∈ (nmsX x.kids[k]).map Value.string, y.oneCell' = true := by
            intro y hy
            obtain ⟨z, _, rfl⟩ := List.mem_map.1 hy
            rfl
          clear cR HO HWV
          go_wp2_with (at_builtin; refine wpList_append_rows _ rfl (.tmp 20) (.tmp 22) 34 rfl w.heap.size VK.heap.size 9 i0 (.string ⟨#[]⟩) 1 16 Tryz.underlying34 hi hz0 hz1 hz2 rfl (by decide) _ _ _ rfl hO1 _ _ _ rfl hO2 h1c h63 hby hB2.size ?_; intro v3 w3 hO3 hg3 _)
          go_roundw
          case rel =>
            refine ⟨k + 1, by omega, by go_num, ?_, hB2.grown hg3 hB2.size (own_from hO1)⟩
            rw [HPS.out, List.length_append, List.map_append]
            exact hO3
          case measure => simp [intOf]; omega
      · have hltz : ¬ (k : Int) < (x.kids.length : Int) := by omega
        have hkl : k = x.kids.length := by omega
        subst hkl
        clear ih hka hall HB0
        go_wp2_with fail
        go_ret
        exact ⟨_, rfl, hO, hbr⟩
theorem namesIn_any (d : Nat) : NSaid d := by
  induction d using Nat.strongRecOn with
  | _ d ih => exact namesIn_step d ih
end Go.Proofs.YtecapnipkngniaaGreatDoor
