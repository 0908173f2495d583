/-
  The contract of duetref.Eval, for every expression of at most a million parts and every environment.
-/
import Derived.Test.YtecapnipkngniaaGreatDoorCz
import Derived.Test.YtecapnipkngniaaGreatDoorRs
import Derived.Test.YtecapnipkngniaaGreatDoorRc
import Derived.Test.YtecapnipkngniaaGreatDoorXv
import Derived.Test.YtecapnipkngniaaGreatDoorRa
import Derived.Deep.RegionHeld3
namespace Go.Proofs.YtecapnipkngniaaGreatDoor
open Go.RowKit Go.Shelf

def nRow (bs : List (ByteArray × Vl)) (k : Nat) : List Value := ((bs.take k).map (·.1)).map Value.string
def sRow (bs : List (ByteArray × Vl)) (k : Nat) : List Value := ((bs.take k).map (·.2.so)).map fun z : Int => Value.int .i64 z
theorem nRow_succ (bs : List (ByteArray × Vl)) (k : Nat) (h : k < bs.length) : nRow bs (k + 1) = nRow bs k ++ [.string bs[k].1] := by
  unfold nRow; rw [List.take_succ_eq_append_getElem h]; simp only [List.map_append, List.map_cons, List.map_nil]
theorem sRow_succ (bs : List (ByteArray × Vl)) (k : Nat) (h : k < bs.length) : sRow bs (k + 1) = sRow bs k ++ [.int .i64 bs[k].2.so] := by
  unfold sRow; rw [List.take_succ_eq_append_getElem h]; simp only [List.map_append, List.map_cons, List.map_nil]
theorem rows_at (W : World) (bs : List (ByteArray × Vl)) (v7 v8 : Value) (base : Nat) (hl : bs.length ≤ 9223372036854775806) (h7 : W.ownsRow base 9 1 v7 bs.length (nRow bs bs.length)) (h8 : W.ownsRow base 3 1 v8 bs.length (sRow bs bs.length)) :
    ∃ an cn am cm, v7 = .slice an bs.length cn ∧ v8 = .slice am bs.length cm ∧ NSAt W W.heap.size (bs.map (·.1)) (bs.map (·.2.so)) an am := by
  unfold nRow at h7
  unfold sRow at h8
  rw [List.take_length] at h7 h8
  rcases own_cells h7 with ⟨rfl, h0, _⟩ | ⟨g7, c7, rfl, _, hg7, hc7⟩
  · have hb : bs = [] := List.eq_nil_of_length_eq_zero h0
    subst hb
    rcases own_cells h8 with ⟨rfl, _, _⟩ | ⟨g8, c8, rfl, _, _, _⟩
    · exact ⟨none, 0, none, 0, rfl, rfl, rfl, by simp, .inl rfl, .inl rfl⟩
    · exact ⟨none, 0, _, _, rfl, rfl, rfl, by simp, .inl rfl, .inl rfl⟩
  · rcases own_cells h8 with ⟨rfl, h0, _⟩ | ⟨g8, c8, rfl, _, hg8, hc8⟩
    · have hb : bs = [] := List.eq_nil_of_length_eq_zero h0
      subst hb
      exact ⟨_, _, none, 0, rfl, rfl, rfl, by simp, .inl rfl, .inl rfl⟩
    · refine ⟨_, _, _, _, rfl, rfl, by simp, by simpa using hl, .inr ⟨g7, 0, rfl, hg7, fun i hi => ?_⟩, .inr ⟨g8, 0, rfl, hg8, fun i hi => ?_⟩⟩
      · rw [Nat.zero_add]; exact hc7 i _ (by rw [List.getElem?_map, List.getElem?_eq_getElem hi]; rfl)
      · rw [Nat.zero_add]; exact hc8 i _ (by rw [List.getElem?_map, List.getElem?_eq_getElem hi]; rfl)
theorem dis_step {o7 o8 p7 p8 : Option Nat} {H1 H2 : Nat} (h : o8 = none ∨ o8 ≠ o7) (a7 : p7 = o7 ∨ p7 = some H1) (a8 : p8 = o8 ∨ p8 = some H2) (l7 : ∀ g, p7 = some g → g < H2) (l8 : ∀ g, o8 = some g → g < H1) : p8 = none ∨ p8 ≠ p7 := by
  rcases a8 with rfl | rfl
  · rcases h with h | h
    · exact .inl h
    · rcases a7 with rfl | rfl
      · exact .inr h
      · cases hp : p8 with
        | none => exact .inl rfl
        | some g => have := l8 g hp; exact .inr (fun e => by injection e; omega)
  · refine .inr (fun e => ?_)
    have := l7 H2 e.symm
    omega
theorem dis_mid {o7 o8 p7 : Option Nat} {H1 : Nat} (h : o8 = none ∨ o8 ≠ o7) (a7 : p7 = o7 ∨ p7 = some H1) (l8 : ∀ g, o8 = some g → g < H1) : p7 = none ∨ p7 ≠ o8 := by
  rcases a7 with rfl | rfl
  · cases hp : p7 with
    | none => exact .inl rfl
    | some g => rcases h with h | h
                · exact .inr (by rw [h]; simp)
                · exact .inr (fun e => h (by rw [hp]; exact e.symm))
  · exact .inr (fun e => by have := l8 H1 e.symm; omega)
theorem lit_row (e : TypeId) (base : Nat) (W : World) (v : Value) (H : Nat) (hH : W.heap.size = H) (hb : base ≤ H) : (W.alloc (.cells #[v] e)).ownsRow base e 1 (.slice (some ⟨H, 0, none⟩) 1 1) 1 [v] := by
  subst hH
  exact World.ownsRow_lit W #[v] 1 hb (by decide) rfl
theorem own_fresh {W : World} {base : Nat} {e : TypeId} {size : Nat} {v : Value} {n : Nat} {xs : List Value} (h : W.ownsRow base e size v n xs) (H : Nat) (hH : W.heap.size ≤ H) : (Value.slice (some ⟨H, 0, none⟩) 1 1).ownBlock = none ∨ (Value.slice (some ⟨H, 0, none⟩) 1 1).ownBlock ≠ v.ownBlock := by
  refine .inr (fun e => ?_)
  have := (h.lt H e.symm).2
  omega
theorem one_s (s : ByteArray) : ∀ u ∈ [Value.string s], u.oneCell' = true := by simp [Value.oneCell']
theorem one_i (z : Int) : ∀ u ∈ [Value.int .i64 z], u.oneCell' = true := by simp [Value.oneCell']
theorem infoIn : (Tryz.prog.info? 3).map (fun i => (i.zero, i.size, i.bytes)) = some (some (.int .i64 0), 1, 8) := by kernel_rfl
theorem infoSs : (Tryz.prog.info? 9).map (fun i => (i.zero, i.size, i.bytes)) = some (some (.string ⟨#[]⟩), 1, 16) := by kernel_rfl
set_option maxRecDepth 100000 in
set_option maxHeartbeats 4000000 in
theorem refEval_any (d : Nat) (x : Ex) (ao : Option Addr) (cap : Nat) (bs : List (ByteArray × Vl)) (ae : Option Addr) (ce : Nat) (w : World) (hbd : ExBd x cap) (hka : KA w w.heap.size d x.kids ao) (hsx : sizeX x ≤ 1048576) (hz : inZ x) (henv : EnvAt w w.heap.size bs ae) (hlen : bs.length ≤ 2932031007402) (hin : ∀ p ∈ bs, in64 p.2.n) (hT : Tabs w) :
    Calls Tryz.prog 6 #[exVal x ao cap, .slice ae bs.length ce] w fun e w' => e = .returned (.tuple #[vlV (evlR x bs).1, .int .i64 (evlR x bs).2]) ∧ Below w.heap.size w w' := by
  obtain ⟨i9, hi9, z90, z91, z92⟩ := info_parts infoSs
  obtain ⟨i3, hi3, z30, z31, z32⟩ := info_parts infoIn
  have hw1 : Below w.heap.size w ((w.alloc (.cells #[.int .i64 x.kind, .string x.name, .int .i64 x.so, .int .i64 x.n, .string x.s, .slice ao x.kids.length cap] 26)).alloc (.cells #[.int .i64 0, .int .i64 0, .string ⟨#[]⟩] 23)) := ((Below.refl _ _).alloc (Nat.le_refl _) _).alloc (by simp) _
  have cK := refExpr_any d x ao cap _ hbd ((hka.keep hw1).mono (by simp; omega)) hsx (tabs_keep _ _ hT hw1)
  have hZ := ZB.new (w.alloc (.cells #[.int .i64 x.kind, .string x.name, .int .i64 x.so, .int .i64 x.n, .string x.s, .slice ao x.kids.length cap] 26)) 23
  rw [show (w.alloc (.cells #[.int .i64 x.kind, .string x.name, .int .i64 x.so, .int .i64 x.n, .string x.s, .slice ao x.kids.length cap] 26)).heap.size = w.heap.size + 1 by simp] at hZ
  have HW := hideC hw1
  have HZ := hideC hZ
  have HKA := hideC hka
  have HEN := hideC henv
  have HT := hideC hT
  have HIN := hideC hin
  have HIZ := hideC hz
  have HBD := hideC hbd
  simp only [exVal] at cK ⊢
  clear hw1 hZ hka henv hT hin hz hbd
  by_cases hx0 : chkX x = 0
  case neg =>
    have HE := hideC (show evlR x bs = (⟨0, 0, ⟨#[]⟩⟩, chkX x) by unfold evlR; rw [if_pos hx0])
    have hxb : (chkX x != 0) = true := by simpa using hx0
    clear hx0
    generalize chkX x = zz at *
    go_enter Tryz.func6, Tryz.ntmps6
    go_wp2_with fail
    refine cK.mono ?_
    rintro e w1 ⟨rfl, hb1⟩
    obtain ⟨_, r0, r1, r2, f0, f1, f2⟩ := HZ.out.keep hb1
    have hbe : Below w.heap.size w w1 := HW.out.trans (hb1.mono (by simp; omega))
    go_wp2_with fail
    refine bodyPost_ret (v := .tuple #[.agg #[.int .i64 0, .int .i64 0, .string ⟨#[]⟩], .int .i64 zz]) (by simp [results, Tryz.results6, go_sem, r0, r1, r2]) rfl ⟨by rw [HE.out]; rfl, ?_⟩
    have hsw := hbe.size
    go_grown
  have HWF := hideC (chk_wf x 0 hx0)
  have HX0 := hideC hx0
  rw [hx0] at cK
  clear hx0
  go_enter Tryz.func6, Tryz.ntmps6
  go_wp2_with fail
  refine cK.mono ?_
  rintro e w1 ⟨rfl, hb1⟩
  have hbw : Below w.heap.size w w1 := HW.out.trans (hb1.mono (by simp; omega))
  have hsz : w.heap.size + 1 < w1.heap.size := by have := hb1.size; simp at this; omega
  obtain ⟨hc, _⟩ := bcell hb1
  have hX : ExAt w1 w.heap.size 0 x ao cap := ⟨(hc _ 0 (by simp; omega)).trans (by go_cell), (hc _ 1 (by simp; omega)).trans (by go_cell), (hc _ 2 (by simp; omega)).trans (by go_cell), (hc _ 3 (by simp; omega)).trans (by go_cell), (hc _ 4 (by simp; omega)).trans (by go_cell), (hc _ 5 (by simp; omega)).trans (by go_cell)⟩
  have HX := hideC hX
  have HZ1 := hideC (HZ.out.keep hb1)
  have HBW := hideC hbw
  clear hc hb1 cK HZ HW hX hbw
  go_wp2_with fail
  go_loopw [7, 8, 9] (fun v7 v8 i wr => ∃ k : Nat, k ≤ bs.length ∧ i = .int .i64 (k : Int) ∧ badL (bs.take k) = 0 ∧ wr.ownsRow w1.heap.size 9 1 v7 k (nRow bs k) ∧ wr.ownsRow w1.heap.size 3 1 v8 k (sRow bs k) ∧ (v8.ownBlock = none ∨ v8.ownBlock ≠ v7.ownBlock) ∧ Below w1.heap.size w1 wr) (fun _ _ i _ => bs.length - (intOf i).toNat)
  case atStart => exact ⟨0, Nat.zero_le _, rfl, rfl, World.ownsRow_nil _ _ _ _, World.ownsRow_nil _ _ _ _, .inl rfl, Below.refl _ _⟩
  case round =>
    obtain ⟨k, hk, rfl, hbad, hO7, hO8, hdis, hbr⟩ := hrel
    by_cases hlt : k < bs.length
    · have hltz : (k : Int) < (bs.length : Int) := by omega
      have hE := HEN.out.keep (HBW.out.trans (hbr.mono HBW.out.size))
      rcases hE.c with e | ⟨b, o, rfl, hbB, hcc⟩
      · rw [e] at hlt; simp at hlt
      obtain ⟨e0, e1, e2, e3⟩ := hcc k hlt
      have hbw1 : b < w1.heap.size := by omega
      have y0 : w1.cell? ⟨b, o + k * 4, none⟩ = some (.string bs[k].1) := (hbr.cell (p := ⟨b, o + k * 4, none⟩) hbw1).symm.trans e0
      have y1 : w1.cell? ⟨b, o + k * 4 + 1, none⟩ = some (.int .i64 bs[k].2.so) := (hbr.cell (p := ⟨b, o + k * 4 + 1, none⟩) hbw1).symm.trans e1
      have Y0 := hideC y0
      have Y1 := hideC y1
      clear y0 y1
      have hbq : b < wr.heap.size := Nat.lt_of_lt_of_le hbB (HBW.out.trans (hbr.mono HBW.out.size)).size
      have HBD2 := hideC (badL_take bs k hlt hbad)
      have HN := hideC (nRow_succ bs k hlt)
      have HS := hideC (sRow_succ bs k hlt)
      have cV := refValue_any bs[k].2.so bs[k].2.n bs[k].2.s wr (tabs_keep w wr HT.out (HBW.out.trans (hbr.mono HBW.out.size)))
      have H7 := hideC hO7
      have H8 := hideC hO8
      have HBR := hideC hbr
      have HD := hideC hdis
      clear hE hcc hbad hO7 hO8 hbr hdis
      generalize bs[k].1 = nm at *
      generalize bs[k].2.so = so at *
      generalize bs[k].2.n = nn at *
      generalize bs[k].2.s = ss at *
      by_cases hg : chkZ vD so nn ss = 0
      · have HB2 := hideC (HBD2.out.1.trans hg)
        rw [hg] at cV
        clear hg HBD2
        obtain ⟨a7, c7, rfl⟩ : ∃ a c, u7 = .slice a k c := by
          rcases own_cells H7.out with ⟨rfl, h0, _⟩ | ⟨g, c, rfl, _⟩
          · exact ⟨none, 0, by rw [h0]⟩
          · exact ⟨_, _, rfl⟩
        obtain ⟨a8, c8, rfl⟩ : ∃ a c, u8 = .slice a k c := by
          rcases own_cells H8.out with ⟨rfl, h0, _⟩ | ⟨g, c, rfl, _⟩
          · exact ⟨none, 0, by rw [h0]⟩
          · exact ⟨_, _, rfl⟩
        go_wp2_with fail
        refine cV.mono ?_
        rintro e w2 ⟨rfl, hb2⟩
        have d0 := (hb2.cell (p := ⟨b, o + k * 4, none⟩) hbq).trans e0
        have d1 := (hb2.cell (p := ⟨b, o + k * 4 + 1, none⟩) hbq).trans e1
        have G7 := hideC (own_below H7.out hb2)
        have G8 := hideC (own_below H8.out hb2)
        have HBR2 := hideC (HBR.out.trans (hb2.mono HBR.out.size))
        have hbq2 := Nat.lt_of_lt_of_le hbq hb2.size
        clear e0 e1 e2 e3 hb2 H7 H8 HBR cV
        go_wp2_with fail
        have hbs2 := HBR2.out.size
        have LA := hideC (lit_row 9 w1.heap.size w2.drew (.string nm) w2.heap.size rfl hbs2)
        have LB := hideC (own_below LA.out ((Below.refl _ _).alloc (Nat.le_refl _) (.cells #[.int .i64 so] 3)))
        have LC := hideC (lit_row 9 w1.heap.size (w2.drew.alloc (.cells #[.int .i64 so] 3)) (.string nm) (w2.heap.size + 1) (by simp) (by omega))
        have MA := hideC (lit_row 3 w1.heap.size (w2.drew.alloc (.cells #[.string nm] 9)) (.int .i64 so) (w2.heap.size + 1) (by simp) (by omega))
        have MB := hideC (own_below (lit_row 3 w1.heap.size w2.drew (.int .i64 so) w2.heap.size rfl hbs2) ((Below.refl _ _).alloc (Nat.le_refl _) (.cells #[.string nm] 9)))
        go_region_held3 (fun w' => w'.cell? ⟨b, o + k * 4, none⟩ = some (.string nm) ∧ w'.cell? ⟨b, o + k * 4 + 1, none⟩ = some (.int .i64 so)) (go_keep) (first
          | (refine step_append_rows _ (by rfl) (.tmp 35) (.tmp 41) 34 (by rfl) w1.heap.size w1.heap.size 9 i9 (.string ⟨#[]⟩) 1 16 Tryz.underlying34 hi9 z90 z91 z92 rfl (by decide) (.slice a7 k c7) k (nRow bs k) (by rfl) (own_below G7.out (by go_grown)) _ 1 [.string nm] (by rfl) (by first | exact LA.out | exact LB.out | exact LC.out) (one_s nm) (by unfold maxLen; omega) (by omega) (bchain HBR2.out (by go_grown)).size ?_; intro v7 w3 hO7 hg7 hat7; have K8 := (own_below G8.out (by go_grown)).kept hg7 HD.out; have B3 := bapp (V := w1) (bchain HBR2.out (by go_grown)) hg7 (own_base G7.out); have p0 := (B3.cell (p := ⟨b, o + k * 4, none⟩) hbw1).trans Y0.out; have p1 := (B3.cell (p := ⟨b, o + k * 4 + 1, none⟩) hbw1).trans Y1.out; have T7 := dis_mid HD.out hat7 (fun g hg => (by have := (G8.out.lt g hg).2; simp; omega)); have l3 := hg7.size; first | (have L2 := MA.out.kept hg7 (own_fresh G7.out _ (by omega))) | (have L2 := MB.out.kept hg7 (own_fresh G7.out _ (Nat.le_refl _))) | skip)
          | (refine step_append_rows _ (by rfl) (.tmp 43) (.tmp 50) 48 (by rfl) w1.heap.size w1.heap.size 3 i3 (.int .i64 0) 1 8 Tryz.underlying48 hi3 z30 z31 z32 rfl (by decide) (.slice a8 k c8) k (sRow bs k) (by rfl) (by first | exact K8 | exact K8.alloc _) _ 1 [.int .i64 so] (by rfl) (by first | exact L2 | exact lit_row _ _ _ _ _ (by simp) (by have := B3.size; omega)) (one_i so) (by unfold maxLen; omega) (by omega) (bchain B3 (by go_grown)).size ?_; intro v8 w4 hO8 hg8 hat8; have K7 := (own_below hO7 (by go_grown)).kept hg8 T7; have B4 := bapp (V := w1) (bchain B3 (by go_grown)) hg8 (own_base G8.out); have q0 := (B4.cell (p := ⟨b, o + k * 4, none⟩) hbw1).trans Y0.out; have q1 := (B4.cell (p := ⟨b, o + k * 4 + 1, none⟩) hbw1).trans Y1.out; have T8 := dis_step HD.out hat7 hat8 (fun g hg => (by have := (hO7.lt g hg).2; simp; omega)) (fun g hg => (by have := (G8.out.lt g hg).2; simp; omega))))
        all_goals
          go_wp2_with fail
          go_roundw
          case rel => exact ⟨k + 1, by omega, by go_num, HB2.out, by rw [HN.out]; exact K7, by rw [HS.out]; exact hO8, T8, B4⟩
          case measure => simp [intOf]; omega
      · have hgb : (chkZ vD so nn ss != 0) = true := by simpa using hg
        have HE := hideC (show evlR x bs = (⟨0, 0, ⟨#[]⟩⟩, chkZ vD so nn ss) by
          have hbb := HBD2.out.2 hg
          unfold evlR; rw [if_neg (by simpa using HX0.out), if_pos (by rw [hbb]; exact hg), hbb])
        clear hg HBD2
        generalize chkZ vD so nn ss = zz at *
        go_wp2_with fail
        refine cV.mono ?_
        rintro e w2 ⟨rfl, hb2⟩
        have hb12 := HBR.out.trans (hb2.mono HBR.out.size)
        obtain ⟨_, r0, r1, r2, f0, f1, f2⟩ := HZ1.out.keep hb12
        have hbe : Below w.heap.size w w2 := HBW.out.trans (hb12.mono HBW.out.size)
        clear cV e0 e1 e2 e3 hb2
        go_wp2_with fail
        refine bodyPost_ret (v := .tuple #[.agg #[.int .i64 0, .int .i64 0, .string ⟨#[]⟩], .int .i64 zz]) (by simp [results, Tryz.results6, go_sem, r0, r1, r2]) rfl ⟨by rw [HE.out]; rfl, ?_⟩
        have hsw := hbe.size
        go_grown
    · have hltz : ¬ (k : Int) < (bs.length : Int) := by omega
      have hkl : k = bs.length := by omega
      subst hkl
      rw [List.take_length] at hbad
      have hgood := badL_zero bs hbad
      have hbwr : Below w.heap.size w wr := HBW.out.trans (hbr.mono HBW.out.size)
      obtain ⟨an, cn, am, cm, rfl, rfl, hns⟩ := rows_at wr bs _ _ _ (by omega) hO7 hO8
      have cS := refSort_any (bs.map (·.1)) (bs.map (·.2.so)) an am cn cm d x ao cap wr.heap.size wr HWF.out HBD.out ((HKA.out.keep hbwr).mono hbwr.size) hns (Nat.le_refl _)
      have cV := fun (W : World) (so : Int) (hs : sortX (lookS (bs.map (·.1)) (bs.map (·.2.so))) x = (so, 0)) (hW : Below w.heap.size w W) => rval_all bs ae ce (look_both bs hgood) (look_in bs HIN.out) d x ao cap w.heap.size W so HWF.out HIZ.out HBD.out (HKA.out.keep hW) (HEN.out.keep hW) hW.size (tabs_keep w W HT.out hW) hs
      have hE : evlR x bs = if (sortX (lookS (bs.map (·.1)) (bs.map (·.2.so))) x).2 ≠ 0 then (⟨0, 0, ⟨#[]⟩⟩, (sortX (lookS (bs.map (·.1)) (bs.map (·.2.so))) x).2) else (valX (lookV bs) x, 0) := by
        unfold evlR; rw [if_neg (by simpa using HX0.out), if_neg (by simpa using hbad)]
      generalize sortX (lookS (bs.map (·.1)) (bs.map (·.2.so))) x = r at cS hE cV
      generalize valX (lookV bs) x = v at cV hE
      obtain ⟨r1, r2⟩ := r
      simp only [exVal, vlV, List.length_map] at cS cV
      obtain ⟨y0, y1, y2, y3, y4, y5⟩ := HX.out.keep hbr (by omega)
      have CV := hideC cV
      have HBR := hideC hbr
      clear cV hns hO7 hO8 hgood hbad hdis hbr
      simp only [Nat.zero_add] at y0 y1 y2 y3 y4 y5
      by_cases hr2 : r2 = 0
      · subst hr2
        have HE := hideC (show evlR x bs = (v, 0) by rw [hE]; simp)
        clear hE
        go_wp2_with fail
        refine cS.mono ?_
        rintro e w2 ⟨rfl, hb2⟩
        have hb12 : Below w1.heap.size w1 w2 := HBR.out.trans (hb2.mono HBR.out.size)
        have hbw2 : Below w.heap.size w w2 := HBW.out.trans (hb12.mono HBW.out.size)
        obtain ⟨y0, y1, y2, y3, y4, y5⟩ := HX.out.keep hb12 (by omega)
        simp only [Nat.zero_add] at y0 y1 y2 y3 y4 y5
        have HZ2 := hideC (HZ1.out.keep hb12)
        clear cS hb2
        go_wp2_with fail
        refine (CV.out _ _ rfl hbw2).mono ?_
        rintro e w3 ⟨rfl, hb3⟩
        have hbwF : Below w.heap.size w w3 := hbw2.trans (hb3.mono hbw2.size)
        obtain ⟨_, s0, s1, s2, f0, f1, f2⟩ := HZ2.out.keep hb3
        clear y0 y1 y2 y3 y4 y5 CV
        go_wp2_with fail
        refine bodyPost_ret (v := .tuple #[.agg #[.int .i64 v.so, .int .i64 v.n, .string v.s], .int .i64 0]) (by simp [results, Tryz.results6, go_sem, s0, s1, s2]) rfl ⟨by rw [HE.out]; rfl, ?_⟩
        have hsw := hbwF.size
        go_grown
      · have hzb : (r2 != 0) = true := by simpa using hr2
        have HE := hideC (show evlR x bs = (⟨0, 0, ⟨#[]⟩⟩, r2) by rw [hE]; simp [hr2])
        clear hE hr2 CV
        go_wp2_with fail
        refine cS.mono ?_
        rintro e w2 ⟨rfl, hb2⟩
        have hb12 : Below w1.heap.size w1 w2 := HBR.out.trans (hb2.mono HBR.out.size)
        have hbwF : Below w.heap.size w w2 := HBW.out.trans (hb12.mono HBW.out.size)
        obtain ⟨_, s0, s1, s2, f0, f1, f2⟩ := HZ1.out.keep hb12
        clear y0 y1 y2 y3 y4 y5 cS hb2
        go_wp2_with fail
        refine bodyPost_ret (v := .tuple #[.agg #[.int .i64 0, .int .i64 0, .string ⟨#[]⟩], .int .i64 r2]) (by simp [results, Tryz.results6, go_sem, s0, s1, s2]) rfl ⟨by rw [HE.out]; rfl, ?_⟩
        have hsw := hbwF.size
        go_grown
end Go.Proofs.YtecapnipkngniaaGreatDoor
