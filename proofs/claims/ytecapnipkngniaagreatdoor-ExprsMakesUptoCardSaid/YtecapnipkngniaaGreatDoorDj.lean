/-
  The contract of duetref.NamesIn of an operation.
-/
import Derived.Test.YtecapnipkngniaaGreatDoorXv
import Derived.Test.YtecapnipkngniaaGreatDoorPe
import Derived.Test.YtecapnipkngniaaGreatDoorRb
import Derived.Test.YtecapnipkngniaaGreatDoorCy
namespace Go.Proofs.YtecapnipkngniaaGreatDoor
open Go.RowKit Go.Shelf Go.Sort

/-- what duetref.NamesIn is promised to do at a depth -/
def NISaid (d : Nat) : Prop := ∀ (x : Ex) (ao : Option Addr) (cap B : Nat) (w : World), wfX x → sizeX x ≤ 60 → ExBd x cap → KA w B d x.kids ao → B ≤ w.heap.size →
  Calls Tryz.prog 11 #[exVal x ao cap] w fun e w' => ∃ v, e = .returned v ∧ w'.ownsRow w.heap.size 9 1 v (srtN (nmsX x)).length ((srtN (nmsX x)).map encStr) ∧ Below w.heap.size w w'
theorem nodup_snoc {l : List (List UInt8)} {y : List UInt8} (h : l.Nodup) (hy : y ∉ l) : (l ++ [y]).Nodup := by
  rw [List.nodup_append]
  refine ⟨h, by simp, ?_⟩
  intro a ha b hb
  rw [List.mem_singleton] at hb
  subst hb
  rintro rfl
  exact hy ha
set_option maxRecDepth 100000 in
set_option maxHeartbeats 4000000 in
theorem namesR_kids (d : Nat) (ih : ∀ d', d' < d → NISaid d') (x : Ex) (ao : Option Addr) (cap B : Nat) (w : World) (hwf : wfX x) (h60 : sizeX x ≤ 60) (hka : KA w B d x.kids ao) (hB : B ≤ w.heap.size) (h3 : x.kind = 3) (l1 : 1 ≤ x.kids.length) (l2 : x.kids.length ≤ 2) :
    Calls Tryz.prog 11 #[exVal x ao cap] w fun e w' => ∃ v, e = .returned v ∧ w'.ownsRow w.heap.size 9 1 v (srtN (nmsX x)).length ((srtN (nmsX x)).map encStr) ∧ Below w.heap.size w w' := by
  obtain ⟨i0, hi, hz0, hz1, hz2⟩ := info_parts infoSs
  have HALL := hideC (preN_all x (by omega))
  obtain ⟨d', rfl⟩ : ∃ d', d = d' + 1 := by
    cases d with
    | zero => simp only [KA] at hka; rw [hka] at l1; simp at l1
    | succ d' => exact ⟨d', rfl⟩
  rcases hka with e | ⟨b, o, rfl, hbB, hcell⟩
  · rw [e] at l1; simp at l1
  have hbw : b < w.heap.size := Nat.lt_of_lt_of_le hbB hB
  have cK : ∀ i (hi : i < x.kids.length), ∃ ao' cap', ExAt w b (o + i * 6) x.kids[i] ao' cap' ∧ (srtN (nmsX x.kids[i])).length ≤ 60 ∧ ∀ W, Below w.heap.size w W → Calls Tryz.prog 11 #[exVal x.kids[i] ao' cap'] W fun e w' => ∃ v, e = .returned v ∧ w'.ownsRow W.heap.size 9 1 v (srtN (nmsX x.kids[i])).length ((srtN (nmsX x.kids[i])).map encStr) ∧ Below W.heap.size W w' := by
    intro i hi
    obtain ⟨ao', cap', h1, h2, h4⟩ := hcell i hi
    have hs := Nat.le_trans (kid_size x _ (List.getElem_mem hi)) h60
    exact ⟨ao', cap', h1, Nat.le_trans (srtN_len _) (Nat.le_trans (nms_len _) hs), fun W hW => ih d' (by omega) x.kids[i] ao' cap' B W (((wfX_eq x).1 hwf).2.2 _ (List.getElem_mem hi)) hs h2 (h4.keep (hW.mono hB)) (Nat.le_trans hB hW.size)⟩
  have CK := hideC cK
  clear cK hcell ih hwf h60
  have hkb : (x.kind == 2) = false := by rw [h3]; rfl
  clear h3
  simp only [exVal]
  have HA := hideC (show Below w.heap.size w (w.alloc (.cells #[.int .i64 x.kind, .string x.name, .int .i64 x.so, .int .i64 x.n, .string x.s, .slice (some ⟨b, o, none⟩) x.kids.length cap] 26)) from (Below.refl _ _).alloc (Nat.le_refl _) _)
  have Y5 : Hid ((w.alloc (.cells #[.int .i64 x.kind, .string x.name, .int .i64 x.so, .int .i64 x.n, .string x.s, .slice (some ⟨b, o, none⟩) x.kids.length cap] 26)).cell? ⟨w.heap.size, 5, none⟩ = some (.slice (some ⟨b, o, none⟩) x.kids.length cap)) := by show _ = _; go_cell
  have hVs : (w.alloc (.cells #[.int .i64 x.kind, .string x.name, .int .i64 x.so, .int .i64 x.n, .string x.s, .slice (some ⟨b, o, none⟩) x.kids.length cap] 26)).heap.size = w.heap.size + 1 := by simp
  go_enter Tryz.func11, Tryz.ntmps11
  go_wp2_with fail
  generalize w.alloc (.cells #[.int .i64 x.kind, .string x.name, .int .i64 x.so, .int .i64 x.n, .string x.s, .slice (some ⟨b, o, none⟩) x.kids.length cap] 26) = V at *
  go_loopw [3, 4] (fun u i wr => ∃ (k : Nat) (ss : List (List UInt8)), k ≤ x.kids.length ∧ i = .int .i64 (k : Int) ∧ wr.ownsRow V.heap.size 9 1 u ss.length (ss.map encStr) ∧ ss.Nodup ∧ (∀ y, y ∈ ss ↔ ∃ n ∈ preN x k, n.data.toList = y) ∧ ss.length ≤ k * 60 ∧ Below V.heap.size V wr) (fun _ i _ => x.kids.length - (intOf i).toNat)
  case atStart => exact ⟨0, [], Nat.zero_le _, rfl, World.ownsRow_nil _ _ _ _, List.nodup_nil, fun y => by simp [preN], Nat.zero_le _, Below.refl _ _⟩
  case round =>
    obtain ⟨k, ss, hk, rfl, hO, hnd, hmem, hln, hbr⟩ := hrel
    have y5 := (hbr.cell (p := ⟨w.heap.size, 5, none⟩) (by show w.heap.size < V.heap.size; omega)).trans Y5.out
    have hbwr : Below w.heap.size w wr := HA.out.trans (hbr.mono (by omega))
    by_cases hlt : k < x.kids.length
    · have hltz : (k : Int) < (x.kids.length : Int) := by omega
      obtain ⟨aok, capk, hex, hl60, hcall⟩ := CK.out k hlt
      obtain ⟨c0, c1, c2, c3, c4, c5⟩ := hex.keep hbwr hbw
      have cF := hcall wr hbwr
      have HP := hideC (preN_succ x k hlt)
      have HM := hideC hmem
      have HM2 := hideC (fun y => mem_srtN (nmsX x.kids[k]) y)
      generalize srtN (nmsX x.kids[k]) = L at *
      simp only [exVal] at cF
      have HO := hideC hO
      have HB := hideC hbr
      have HND := hideC hnd
      clear hex hcall hmem hO hbr hnd
      go_wp2_with fail
      refine cF.mono ?_
      rintro e w2 ⟨v5, rfl, hO5, hb2⟩
      have B2 := hideC (HB.out.trans (hb2.mono HB.out.size))
      have O2 := hideC (own_below HO.out hb2)
      have O5 := hideC hO5
      have D2 := hideC (show v5.ownBlock = none ∨ v5.ownBlock ≠ u3.ownBlock from by
        cases hq : v5.ownBlock with
        | none => exact .inl rfl
        | some g => exact .inr (fun e => by have h1 := (hO5.lt g hq).1; have h2 := (HO.out.lt g e.symm).2; omega))
      clear cF c0 c1 c2 c3 c4 c5 y5 hO5 hb2 HO HB
      obtain ⟨a5, c5, rfl⟩ : ∃ a c, v5 = .slice a L.length c := by
        rcases own_cells O5.out with ⟨rfl, h0, _⟩ | ⟨g, c, rfl, _⟩
        · exact ⟨none, 0, by rw [h0]⟩
        · exact ⟨_, _, rfl⟩
      go_wp2_with fail
      go_loopw [3, 6] (fun u j wi => ∃ (q : Nat) (ts : List (List UInt8)), q ≤ L.length ∧ j = .int .i64 (q : Int) ∧ wi.ownsRow V.heap.size 9 1 u ts.length (ts.map encStr) ∧ ts.Nodup ∧ (∀ y, y ∈ ts ↔ y ∈ ss ∨ y ∈ L.take q) ∧ ts.length ≤ ss.length + q ∧ wi.ownsRow wr.heap.size 9 1 (.slice a5 L.length c5) L.length (L.map encStr) ∧ ((Value.slice a5 L.length c5).ownBlock = none ∨ (Value.slice a5 L.length c5).ownBlock ≠ u.ownBlock) ∧ Below V.heap.size V wi) (fun _ j _ => L.length - (intOf j).toNat)
      case atStart => exact ⟨0, ss, Nat.zero_le _, rfl, O2.out, HND.out, fun y => by simp, by omega, O5.out, D2.out, B2.out⟩
      case round =>
        obtain ⟨q, ts, hq, rfl, hOt, hnt, hmt, hlt', hO5, hD, hBi⟩ := hrel
        clear O2 O5 D2 B2
        by_cases hql : q < L.length
        · have hqz : (q : Int) < (L.length : Int) := by omega
          obtain ⟨g, c, e, _, hgl, hc⟩ := (own_cells hO5).resolve_left (fun h => by have := h.2.1; omega)
          injection e with e1 _ e2
          subst e1 e2
          have d1 := hc q (.string ⟨L[q].toArray⟩) (by rw [List.getElem?_map, List.getElem?_eq_getElem hql]; rfl)
          have cC := containsS_any ts ⟨L[q].toArray⟩ u3 V.heap.size wr hOt (by omega)
          have ex : (⟨L[q].toArray⟩ : ByteArray).data.toList = L[q] := by simp
          rw [ex] at cC
          have HT := hideC (show ∀ y, y ∈ L.take (q + 1) ↔ y ∈ L.take q ∨ y = L[q] from fun y => by rw [List.take_succ_eq_append_getElem hql, List.mem_append, List.mem_singleton])
          have HMT := hideC hmt
          have HO5 := hideC hO5
          have HNT := hideC hnt
          have HBI := hideC hBi
          have HDD := hideC hD
          have HOT := hideC hOt
          have HXE := hideC (show encStr L[q] = .string ⟨L[q].toArray⟩ from rfl)
          clear hc hmt hO5 hnt hBi hD hOt ex
          generalize L[q] = nq1 at *
          generalize (⟨nq1.toArray⟩ : ByteArray) = xb at *
          by_cases hin : nq1 ∈ ts
          · rw [decide_eq_true hin] at cC
            have HI := hideC hin
            clear hin
            go_wp2_with fail
            refine cC.mono ?_
            rintro e w3 ⟨rfl, rfl⟩
            go_wp2_with fail
            go_roundw
            case rel =>
              refine ⟨q + 1, ts, by omega, by go_num, HOT.out, HNT.out, fun y => ?_, by omega, HO5.out, HDD.out, HBI.out⟩
              rw [HMT.out, HT.out]
              constructor
              · rintro (h | h)
                · exact .inl h
                · exact .inr (.inl h)
              · rintro (h | h | h)
                · exact .inl h
                · exact .inr h
                · rw [h]; exact (HMT.out nq1).1 HI.out
            case measure => simp [intOf]; omega
          · rw [decide_eq_false hin] at cC
            have HI := hideC hin
            clear hin
            go_wp2_with fail
            refine cC.mono ?_
            rintro e w3 ⟨rfl, rfl⟩
            have hsz3 := HBI.out.size
            have LR := hideC (lit_row 9 V.heap.size w3 (.string xb) w3.heap.size rfl hsz3)
            have OA := hideC (own_below HOT.out ((Below.refl _ _).alloc (Nat.le_refl _) (.cells #[.string xb] 9)))
            have FA := hideC (own_below HO5.out ((Below.refl _ _).alloc (Nat.le_refl _) (.cells #[.string xb] 9)))
            clear cC
            go_wp2_with (at_builtin; refine wpList_append_rows _ rfl (.tmp 41) (.tmp 46) 34 rfl V.heap.size V.heap.size 9 i0 (.string ⟨#[]⟩) 1 16 Tryz.underlying34 hi hz0 hz1 hz2 rfl (by decide) _ _ _ rfl OA.out _ _ _ rfl LR.out (one_s xb) (by unfold maxLen; omega) (by omega) (by simp; omega) ?_; intro v7 w7 hO7 hg7 hat7)
            go_roundw
            case rel =>
              refine ⟨q + 1, ts ++ [nq1], by omega, by go_num, ?_, nodup_snoc HNT.out HI.out, fun y => ?_, by simp; omega, FA.out.kept hg7 HDD.out, ?_, (HBI.out.alloc hsz3 _).grown hg7 (by simp; omega) (own_base HOT.out)⟩
              · rw [List.length_append, List.map_append, List.map_cons, List.map_nil, HXE.out]; exact hO7
              · rw [List.mem_append, HMT.out, HT.out, List.mem_singleton, or_assoc]
              · rcases hat7 with e | e
                · rw [e]; exact HDD.out
                · rw [e]; exact .inr (fun e2 => by have := (HO5.out.lt _ e2).2; rw [World.size_alloc] at this; omega)
            case measure => simp [intOf]; omega
        · have hqz : ¬ (q : Int) < (L.length : Int) := by omega
          have hql2 : q = L.length := by omega
          subst hql2
          rw [List.take_length] at hmt
          have HMT := hideC hmt
          have HOT := hideC hOt
          have HNT := hideC hnt
          have HBI := hideC hBi
          clear hmt hO5 hnt hBi hD hOt
          go_wp2_with fail
          go_roundw
          case rel =>
            refine ⟨k + 1, ts, by omega, by go_num, HOT.out, HNT.out, fun y => ?_, by omega, HBI.out⟩
            rw [HMT.out, HM.out, HP.out]
            constructor
            · rintro (⟨n, hn, e⟩ | h)
              · exact ⟨n, List.mem_append.2 (.inl hn), e⟩
              · have := (HM2.out ⟨y.toArray⟩).1 (by simpa using h)
                exact ⟨_, List.mem_append.2 (.inr this), by simp⟩
            · rintro ⟨n, hn, e⟩
              rcases List.mem_append.1 hn with h | h
              · exact .inl ⟨n, h, e⟩
              · right; rw [← e]; exact (HM2.out n).2 h
          case measure => simp [intOf]; omega
    · have hltz : ¬ (k : Int) < (x.kids.length : Int) := by omega
      have hkl : k = x.kids.length := by omega
      subst hkl
      have hg := gathered (nmsX x) ss hnd (by rw [← HALL.out]; exact hmem)
      have cS := sortOwn_any u3 V.heap.size ss wr hO (by omega)
      rw [hg] at cS
      have HL := hideC (show ss.length = (srtN (nmsX x)).length by rw [← hg, List.length_mergeSort])
      have HF := hideC (own_base hO)
      have HB := hideC hbr
      clear hg hmem hnd hO hbr HALL
      go_wp2_with fail
      refine cS.mono ?_
      rintro e w2 ⟨rfl, hO2, hg2⟩
      have hb2 := hideC (HB.out.grown hg2 HB.out.size HF.out)
      clear cS y5
      go_wp2_with fail
      go_ret
      exact ⟨_, rfl, by rw [← HL.out]; exact own_mono hO2 (by omega), HA.out.trans (hb2.out.mono (by omega))⟩
end Go.Proofs.YtecapnipkngniaaGreatDoor
/-
  The contract of duetref.NamesIn, for every right expression.
-/
namespace Go.Proofs.YtecapnipkngniaaGreatDoor
open Go.RowKit Go.Shelf Go.Sort

set_option maxRecDepth 100000 in
set_option maxHeartbeats 2000000 in
theorem namesR_lit (x : Ex) (ao : Option Addr) (cap : Nat) (w : World) (hk : x.kids = []) (hkb : (x.kind == 2) = false) :
    Calls Tryz.prog 11 #[exVal x ao cap] w fun e w' => e = .returned (.slice none 0 0) ∧ Below w.heap.size w w' := by
  simp only [exVal, hk, List.length_nil]
  have HA := hideC (show Below w.heap.size w (w.alloc (.cells #[.int .i64 x.kind, .string x.name, .int .i64 x.so, .int .i64 x.n, .string x.s, .slice ao 0 cap] 26)) from (Below.refl _ _).alloc (Nat.le_refl _) _)
  have Y5 : Hid ((w.alloc (.cells #[.int .i64 x.kind, .string x.name, .int .i64 x.so, .int .i64 x.n, .string x.s, .slice ao 0 cap] 26)).cell? ⟨w.heap.size, 5, none⟩ = some (.slice ao 0 cap)) := by show _ = _; go_cell
  go_enter Tryz.func11, Tryz.ntmps11
  go_wp2_with fail
  generalize w.alloc (.cells #[.int .i64 x.kind, .string x.name, .int .i64 x.so, .int .i64 x.n, .string x.s, .slice ao 0 cap] 26) = V at *
  go_loopw [3, 4] (fun u i wr => u = .slice none 0 0 ∧ i = .int .i64 (0 : Int) ∧ wr = V) (fun _ _ _ => 0)
  case atStart => exact ⟨rfl, rfl, rfl⟩
  case round =>
    obtain ⟨rfl, rfl, rfl⟩ := hrel
    have y5 := Y5.out
    have cS := sortS_none none 0 wr
    go_wp2_with fail
    refine cS.mono ?_
    rintro e w2 ⟨rfl, rfl⟩
    clear cS y5
    go_wp2_with fail
    go_ret
    exact ⟨rfl, HA.out⟩
set_option maxRecDepth 100000 in
set_option maxHeartbeats 2000000 in
theorem namesR_name (x : Ex) (ao : Option Addr) (cap : Nat) (w : World) (hk : x.kids = []) (h2 : x.kind = 2) :
    Calls Tryz.prog 11 #[exVal x ao cap] w fun e w' => ∃ v, e = .returned v ∧ w'.ownsRow w.heap.size 9 1 v (srtN (nmsX x)).length ((srtN (nmsX x)).map encStr) ∧ Below w.heap.size w w' := by
  obtain ⟨i0, hi, hz0, hz1, hz2⟩ := info_parts infoSs
  have hg := gathered (nmsX x) [x.name.data.toList] (by simp) (by rw [nmsX_eq, if_pos h2]; intro y; simp [eq_comm])
  have hkb : (x.kind == 2) = true := by rw [h2]; rfl
  simp only [exVal, hk, List.length_nil]
  have HA := hideC (show Below w.heap.size w (w.alloc (.cells #[.int .i64 x.kind, .string x.name, .int .i64 x.so, .int .i64 x.n, .string x.s, .slice ao 0 cap] 26)) from (Below.refl _ _).alloc (Nat.le_refl _) _)
  have Y5 : Hid ((w.alloc (.cells #[.int .i64 x.kind, .string x.name, .int .i64 x.so, .int .i64 x.n, .string x.s, .slice ao 0 cap] 26)).cell? ⟨w.heap.size, 5, none⟩ = some (.slice ao 0 cap)) := by show _ = _; go_cell
  have hVs : (w.alloc (.cells #[.int .i64 x.kind, .string x.name, .int .i64 x.so, .int .i64 x.n, .string x.s, .slice ao 0 cap] 26)).heap.size = w.heap.size + 1 := by simp
  have LR := hideC (lit_row 9 (w.heap.size + 1) (w.alloc (.cells #[.int .i64 x.kind, .string x.name, .int .i64 x.so, .int .i64 x.n, .string x.s, .slice ao 0 cap] 26)) (.string x.name) (w.heap.size + 1) hVs (Nat.le_refl _))
  clear h2
  have HG := hideC hg
  clear hg
  go_enter Tryz.func11, Tryz.ntmps11
  go_wp2_with (at_builtin; refine wpList_append_rows _ rfl (.tmp 10) (.tmp 13) 34 rfl (w.heap.size + 1) (w.heap.size + 1) 9 i0 (.string ⟨#[]⟩) 1 16 Tryz.underlying34 hi hz0 hz1 hz2 rfl (by decide) (.slice none 0 0) 0 [] rfl (World.ownsRow_nil _ _ _ _) _ _ _ rfl LR.out (one_s x.name) (by decide) (by decide) (by simp) ?_; intro v7 w7 hO7 hg7 hat7)
  have B7 := hideC (show Below (w.heap.size + 1) (w.alloc (.cells #[.int .i64 x.kind, .string x.name, .int .i64 x.so, .int .i64 x.n, .string x.s, .slice ao 0 cap] 26)) w7 from ((Below.refl _ _).alloc (by simp) _).grown hg7 (by simp) (fun k hk => by cases hk))
  have O7 := hideC (show w7.ownsRow (w.heap.size + 1) 9 1 v7 ([x.name.data.toList] : List (List UInt8)).length (([x.name.data.toList] : List (List UInt8)).map encStr) from hO7)
  clear hO7 hg7 hat7 LR
  generalize w.alloc (.cells #[.int .i64 x.kind, .string x.name, .int .i64 x.so, .int .i64 x.n, .string x.s, .slice ao 0 cap] 26) = V at *
  go_loopw [3, 4] (fun u i wr => u = v7 ∧ i = .int .i64 (0 : Int) ∧ wr = w7) (fun _ _ _ => 0)
  case atStart => exact ⟨rfl, rfl, rfl⟩
  case round =>
    obtain ⟨rfl, rfl, rfl⟩ := hrel
    have y5 := (B7.out.cell (p := ⟨w.heap.size, 5, none⟩) (by show w.heap.size < w.heap.size + 1; omega)).trans Y5.out
    have cS := sortOwn_any _ _ _ wr O7.out (by simp)
    rw [HG.out] at cS
    have HL := hideC (show ([x.name.data.toList] : List (List UInt8)).length = (srtN (nmsX x)).length by rw [← HG.out, List.length_mergeSort])
    have HF := hideC (own_base O7.out)
    clear O7
    go_wp2_with fail
    refine cS.mono ?_
    rintro e w2 ⟨rfl, hO2, hg2⟩
    have hb2 := hideC (B7.out.grown hg2 (by rw [← hVs]; exact B7.out.size) HF.out)
    clear cS y5
    go_wp2_with fail
    go_ret
    exact ⟨_, rfl, by rw [← HL.out]; exact own_mono hO2 (by omega), HA.out.trans (hb2.out.mono (by omega))⟩
theorem namesR_all (d : Nat) : NISaid d := by
  induction d using Nat.strongRecOn with
  | _ d ih =>
    intro x ao cap B w hw h60 hbd hka hB
    rcases wf_cases x hw with ⟨h, hk, _⟩ | ⟨h, hk, _⟩ | ⟨h, a, hk, _, _⟩ | ⟨h, a, a2, hk, _, _, _⟩
    · have e : srtN (nmsX x) = [] := by
        have h1 := srtN_len (nmsX x)
        rw [nmsX_eq, if_neg (by omega), hk] at h1 ⊢
        exact List.eq_nil_of_length_eq_zero (Nat.le_zero.1 h1)
      rw [e]
      exact (namesR_lit x ao cap w hk (by rw [h]; rfl)).mono fun e w' ⟨h1, h2⟩ => ⟨_, h1, World.ownsRow_nil _ _ _ _, h2⟩
    · exact namesR_name x ao cap w hk h
    · exact namesR_kids d ih x ao cap B w hw h60 hka hB h (by rw [hk]; simp) (by rw [hk]; simp)
    · exact namesR_kids d ih x ao cap B w hw h60 hka hB h (by rw [hk]; simp) (by rw [hk]; simp)
end Go.Proofs.YtecapnipkngniaaGreatDoor
