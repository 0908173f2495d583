/-
  The contract of duetref.SortOf, for every right expression, every names and sorts.
-/
import Derived.Test.YtecapnipkngniaaGreatDoorXh
import Derived.Test.YtecapnipkngniaaGreatDoorRb
import Derived.Deep.DeepCutAuto
import Derived.Deep.RegionHeld3
namespace Go.Proofs.YtecapnipkngniaaGreatDoor
open Go.RowKit Go.Shelf

theorem lastOf_push {α : Type} (n : ByteArray) (p : ByteArray × α) : ∀ l : List (ByteArray × α), lastOf n (l ++ [p]) = if p.1 = n then some p.2 else lastOf n l
  | [] => by simp [lastOf]
  | q :: r => by
    rw [List.cons_append, lastOf, lastOf_push n p r]
    by_cases h : p.1 = n
    · rw [if_pos h]; simp only [if_pos h]
    · rw [if_neg h]; simp only [if_neg h]; rw [lastOf]
/-- of the first k names the last that is nm -/
def lookK (ns : List ByteArray) (zs : List Int) (nm : ByteArray) (k : Nat) : Option Int := lastOf nm ((ns.zip zs).take k)
theorem lookK_succ (ns : List ByteArray) (zs : List Int) (nm : ByteArray) (k : Nat) (h : k < ns.length) (hl : zs.length = ns.length) : lookK ns zs nm (k + 1) = if ns[k] = nm then some (zs[k]'(by omega)) else lookK ns zs nm k := by
  unfold lookK
  have hk : k < (ns.zip zs).length := by simp; omega
  rw [List.take_succ_eq_append_getElem hk, lastOf_push]
  simp
theorem lookK_all (ns : List ByteArray) (zs : List Int) (nm : ByteArray) (hl : zs.length = ns.length) : lookS ns zs nm = match lookK ns zs nm ns.length with
    | some z => (z, 0)
    | none => (0, 4) := by
  unfold lookS lookK
  rw [List.take_of_length_le (by simp; omega)]
  cases lastOf nm (ns.zip zs) <;> rfl
def RSSaid (ns : List ByteArray) (zs : List Int) (an am : Option Addr) (cn cm d : Nat) : Prop := ∀ (x : Ex) (ao : Option Addr) (cap B : Nat) (w : World), wfX x → ExBd x cap → KA w B d x.kids ao → NSAt w B ns zs an am → B ≤ w.heap.size →
  Calls Tryz.prog 23 #[exVal x ao cap, .slice an ns.length cn, .slice am ns.length cm] w fun e w' => e = .returned (.tuple #[.int .i64 (sortX (lookS ns zs) x).1, .int .i64 (sortX (lookS ns zs) x).2]) ∧ Below w.heap.size w w'
theorem hide1 {p : Prop} (h : p) : Hid p := h

set_option maxHeartbeats 1000000 in
theorem refSort_lit (x : Ex) (ao an am : Option Addr) (cap n cn cm : Nat) (w : World) (h : x.kind = 1) :
    Calls Tryz.prog 23 #[exVal x ao cap, .slice an n cn, .slice am n cm] w fun e w' => e = .returned (.tuple #[.int .i64 x.so, .int .i64 0]) ∧ Below w.heap.size w w' := by
  simp only [exVal]
  rw [h]
  clear h
  go_enter Tryz.func23, Tryz.ntmps23
  go_wp2_with fail
  go_ret2
  exact ⟨rfl, by go_grown⟩

set_option maxRecDepth 100000 in
set_option maxHeartbeats 2000000 in
theorem refSort_name (ns : List ByteArray) (zs : List Int) (an am : Option Addr) (cn cm : Nat) (x : Ex) (ao : Option Addr) (cap B : Nat) (w : World) (h : x.kind = 2) (hns : NSAt w B ns zs an am) (hB : B ≤ w.heap.size) :
    Calls Tryz.prog 23 #[exVal x ao cap, .slice an ns.length cn, .slice am ns.length cm] w fun e w' => e = .returned (.tuple #[.int .i64 (lookS ns zs x.name).1, .int .i64 (lookS ns zs x.name).2]) ∧ Below w.heap.size w w' := by
  have hl := hns.len
  have hbd : (ns.length : Int) ≤ 9223372036854775806 := by have := hns.bd; omega
  have hA : Below w.heap.size w (w.alloc (.cells #[.int .i64 2, .string x.name, .int .i64 x.so, .int .i64 x.n, .string x.s, .slice ao x.kids.length cap] 26)) := (Below.refl _ _).alloc (Nat.le_refl _) _
  have y1 : (w.alloc (.cells #[.int .i64 2, .string x.name, .int .i64 x.so, .int .i64 x.n, .string x.s, .slice ao x.kids.length cap] 26)).cell? ⟨w.heap.size, 1, none⟩ = some (.string x.name) := by go_cell
  have HN := hide1 (hns.keep (hA.mono hB))
  have hVl : w.heap.size < (w.alloc (.cells #[.int .i64 2, .string x.name, .int .i64 x.so, .int .i64 x.n, .string x.s, .slice ao x.kids.length cap] 26)).heap.size := by simp
  have hall := lookK_all ns zs x.name hl
  have HALL := hide1 hall
  have HL := hide1 hl
  simp only [exVal]
  rw [h]
  clear h hns hall hl
  go_enter Tryz.func23, Tryz.ntmps23
  go_wp2_with fail
  generalize w.alloc (.cells #[.int .i64 2, .string x.name, .int .i64 x.so, .int .i64 x.n, .string x.s, .slice ao x.kids.length cap] 26) = V at *
  have hk0 : lookK ns zs x.name 0 = none := rfl
  have HK0 := hide1 hk0
  clear hk0
  go_loopw [8, 9, 10] (fun s ok i wr => ∃ (k : Nat) (sv : Int) (b : Bool), k ≤ ns.length ∧ i = .int .i64 (k : Int) ∧ s = .int .i64 sv ∧ ok = .bool b ∧ lookK ns zs x.name k = (if b then some sv else none) ∧ (b = false → sv = 0) ∧ Below V.heap.size V wr) (fun _ _ i _ => ns.length - (intOf i).toNat)
  case atStart => exact ⟨0, 0, false, Nat.zero_le _, rfl, rfl, rfl, HK0.out, fun _ => rfl, Below.refl _ _⟩
  case round =>
    obtain ⟨k, sv, b, hk, rfl, rfl, rfl, hlk, hsv, hbr⟩ := hrel
    have hwV : w.heap.size < V.heap.size := hVl
    by_cases hlt : k < ns.length
    · have hltz : (k : Int) < (ns.length : Int) := by omega
      rcases HN.out.cn with e | ⟨b1, o1, rfl, hb1, hc1⟩
      · rw [e] at hlt; simp at hlt
      · rcases HN.out.cz with e | ⟨b2, o2, rfl, hb2, hc2⟩
        · exfalso; have := HL.out; rw [e] at this; simp at this; omega
        · have hkz : k < zs.length := by have := HL.out; omega
          have hsz := hbr.size
          have c1 := (hbr.cell (p := ⟨b1, o1 + k, none⟩) (Nat.lt_of_lt_of_le hb1 (by omega))).trans (hc1 k hlt)
          have c2 := (hbr.cell (p := ⟨b2, o2 + k, none⟩) (Nat.lt_of_lt_of_le hb2 (by omega))).trans (hc2 k hkz)
          have y1' := (hbr.cell (p := ⟨w.heap.size, 1, none⟩) hwV).trans y1
          have hsucc := lookK_succ ns zs x.name k hlt HL.out
          have HBR := hide1 hbr
          by_cases he : ns[k] = x.name
          · have hbe : (ns[k].toList == x.name.toList) = true := by rw [ba_beq]; simpa using he
            rw [if_pos he] at hsucc
            have HS := hide1 hsucc
            clear he hsucc hc1 hc2 hlk hsv hbr
            go_wp2_with fail
            go_region
            all_goals
              go_wp2_with fail
              go_roundw
              case rel => exact ⟨k + 1, zs[k], true, by omega, by go_num, rfl, rfl, HS.out, fun h => (by cases h), HBR.out.drew⟩
              case measure => simp [intOf]; omega
          · have hbe : (ns[k].toList == x.name.toList) = false := by rw [ba_beq]; simpa using he
            rw [if_neg he, hlk] at hsucc
            have HS := hide1 hsucc
            have HSV := hide1 hsv
            clear he hsucc hc1 hc2 hlk hsv hbr
            go_wp2_with fail
            go_region
            all_goals
              go_wp2_with fail
              go_roundw
              case rel => exact ⟨k + 1, sv, b, by omega, by go_num, rfl, rfl, HS.out, HSV.out, HBR.out.drew⟩
              case measure => simp [intOf]; omega
    · have hltz : ¬ (k : Int) < (ns.length : Int) := by omega
      have hkl : k = ns.length := by omega
      subst hkl
      have hres := HALL.out
      rw [hlk] at hres
      have hbe := hA.trans (hbr.mono (by omega))
      cases b with
      | true =>
        have HR := hide1 hres
        clear hres hlk hsv
        go_wp2_with fail
        go_ret2
        exact ⟨by rw [HR.out]; rfl, hbe⟩
      | false =>
        have HR := hide1 hres
        clear hres hlk hsv
        go_wp2_with fail
        go_ret2
        exact ⟨by rw [HR.out]; rfl, hbe⟩

/-- the Kids' sorts against what is wanted -/
def scan (w o : Int) : List (Int × Int) → Int × Int
  | [] => (o, 0)
  | r :: t => if r.2 ≠ 0 then (0, r.2) else if r.1 ≠ w then (0, 5) else scan w o t
theorem scan_drop (w o : Int) (rs : List (Int × Int)) (k : Nat) (hk : k < rs.length) : scan w o (rs.drop k) = if rs[k].2 ≠ 0 then (0, rs[k].2) else if rs[k].1 ≠ w then (0, 5) else scan w o (rs.drop (k + 1)) := by
  rw [List.drop_eq_getElem_cons hk, scan]
theorem scan_pack (w o : Int) (rs : List (Int × Int)) (R : Int × Int) (h : R = scan w o rs) : ∃ G : Nat → Prop, G 0 ∧
    (∀ k (hk : k < rs.length), G k → (rs[k].2 ≠ 0 ∧ R = (0, rs[k].2)) ∨ (rs[k].2 = 0 ∧ (rs[k].1 != w) = true ∧ R = (0, 5)) ∨ (rs[k].2 = 0 ∧ (rs[k].1 != w) = false ∧ G (k + 1))) ∧ (G rs.length → R = (o, 0)) := by
  refine ⟨fun k => R = scan w o (rs.drop k), by show R = scan w o (rs.drop 0); rw [List.drop_zero]; exact h, fun k hk hg => ?_, fun hg => (by have hg' : R = scan w o (rs.drop rs.length) := hg; rw [hg', List.drop_length]; rfl)⟩
  simp only at hg ⊢
  rw [scan_drop w o rs k hk] at hg
  by_cases h1 : rs[k].2 = 0
  · rw [if_neg (by simpa using h1)] at hg
    by_cases h2 : rs[k].1 = w
    · rw [if_neg (by simpa using h2)] at hg
      exact .inr (.inr ⟨h1, by simpa using h2, hg⟩)
    · rw [if_pos h2] at hg
      exact .inr (.inl ⟨h1, by simpa using h2, hg⟩)
  · rw [if_pos h1] at hg
    exact .inl ⟨h1, hg⟩
theorem sort_scan (E : ByteArray → Int × Int) (x : Ex) (hw : wfX x) (h3 : x.kind = 3) : 1 ≤ x.kids.length ∧ x.kids.length ≤ 2 ∧
    (isCmp x.name.data.toList = false → sortX E x = scan (opS x.name.data.toList).1 (opS x.name.data.toList).2 (x.kids.map (sortX E))) ∧
    (isCmp x.name.data.toList = true → ∀ p, (x.kids.map (sortX E))[0]? = some p → (p.2 ≠ 0 → sortX E x = (0, p.2)) ∧ (p.2 = 0 → sortX E x = scan p.1 (opS x.name.data.toList).2 (x.kids.map (sortX E)))) := by
  rcases wf_cases x hw with ⟨h, _⟩ | ⟨h, _⟩ | ⟨_, a, hk, _, _⟩ | ⟨_, a, b, hk, _, _, _⟩
  · omega
  · omega
  · rw [hk, sort_one E x a h3 hk]
    refine ⟨by simp, by simp, fun hc => ?_, fun hc p hp => ?_⟩
    · simp only [List.map_cons, List.map_nil, scan, sort1, want1, hc]; simp
    · simp only [List.map_cons, List.map_nil, List.getElem?_cons_zero, Option.some.injEq] at hp
      subst hp
      refine ⟨fun h => by simp only [sort1]; rw [if_pos h], fun h => ?_⟩
      simp only [List.map_cons, List.map_nil, scan, sort1, want1, hc]; simp [h]
  · rw [hk, sort_two E x a b h3 hk]
    refine ⟨by simp, by simp, fun hc => ?_, fun hc p hp => ?_⟩
    · simp only [List.map_cons, List.map_nil, scan, sort2, want1, hc]; simp
    · simp only [List.map_cons, List.map_nil, List.getElem?_cons_zero, Option.some.injEq] at hp
      subst hp
      refine ⟨fun h => by simp only [sort2]; rw [if_pos h], fun h => ?_⟩
      simp only [List.map_cons, List.map_nil, scan, sort2, want1, hc]; simp [h]

set_option maxRecDepth 100000 in
set_option maxHeartbeats 4000000 in
theorem refSort_op (ns : List ByteArray) (zs : List Int) (an am : Option Addr) (cn cm d : Nat) (ih : ∀ d', d' < d → RSSaid ns zs an am cn cm d') (x : Ex) (ao : Option Addr) (cap B : Nat) (w : World) (hw : wfX x) (hka : KA w B d x.kids ao) (hns : NSAt w B ns zs an am) (hB : B ≤ w.heap.size) (h3 : x.kind = 3) :
    Calls Tryz.prog 23 #[exVal x ao cap, .slice an ns.length cn, .slice am ns.length cm] w fun e w' => e = .returned (.tuple #[.int .i64 (sortX (lookS ns zs) x).1, .int .i64 (sortX (lookS ns zs) x).2]) ∧ Below w.heap.size w w' := by
  obtain ⟨l1, l2, hn, hc⟩ := sort_scan (lookS ns zs) x hw h3
  obtain ⟨rs, hrs⟩ : ∃ rs, rs = x.kids.map (sortX (lookS ns zs)) := ⟨_, rfl⟩
  rw [← hrs] at hn hc
  have hlr : rs.length = x.kids.length := by rw [hrs]; simp
  obtain ⟨d', rfl⟩ : ∃ d', d = d' + 1 := by
    cases d with
    | zero => simp only [KA] at hka; rw [hka] at l1; simp at l1
    | succ d' => exact ⟨d', rfl⟩
  rcases hka with e | ⟨b, o, rfl, hbB, hcell⟩
  · rw [e] at l1; simp at l1
  have cK : ∀ i (hi : i < x.kids.length), ∃ ao' cap', ExAt w b (o + i * 6) x.kids[i] ao' cap' ∧ ∀ W, Below w.heap.size w W → Calls Tryz.prog 23 #[exVal x.kids[i] ao' cap', .slice an ns.length cn, .slice am ns.length cm] W fun e w' => e = .returned (.tuple #[.int .i64 (rs[i]'(by rw [hlr]; exact hi)).1, .int .i64 (rs[i]'(by rw [hlr]; exact hi)).2]) ∧ Below W.heap.size W w' := by
    intro i hi
    obtain ⟨ao', cap', h1, h2, h4⟩ := hcell i hi
    refine ⟨ao', cap', h1, fun W hW => ?_⟩
    have := ih d' (by omega) x.kids[i] ao' cap' B W (((wfX_eq x).1 hw).2.2 _ (List.getElem_mem hi)) h2 (h4.keep (hW.mono hB)) (hns.keep (hW.mono hB)) (Nat.le_trans hB hW.size)
    subst hrs
    rw [List.getElem_map]
    exact this
  clear hrs
  generalize sortX (lookS ns zs) x = R at hn hc ⊢
  have hA : Below w.heap.size w (w.alloc (.cells #[.int .i64 3, .string x.name, .int .i64 x.so, .int .i64 x.n, .string x.s, .slice (some ⟨b, o, none⟩) x.kids.length cap] 26)) := (Below.refl _ _).alloc (Nat.le_refl _) _
  have hVl : w.heap.size < (w.alloc (.cells #[.int .i64 3, .string x.name, .int .i64 x.so, .int .i64 x.n, .string x.s, .slice (some ⟨b, o, none⟩) x.kids.length cap] 26)).heap.size := by simp
  have y5 : (w.alloc (.cells #[.int .i64 3, .string x.name, .int .i64 x.so, .int .i64 x.n, .string x.s, .slice (some ⟨b, o, none⟩) x.kids.length cap] 26)).cell? ⟨w.heap.size, 5, none⟩ = some (.slice (some ⟨b, o, none⟩) x.kids.length cap) := by go_cell
  have HNN := hide1 hn
  have HCC := hide1 hc
  have CK := hide1 cK
  have HA := hide1 hA
  have HLR := hide1 hlr
  have l1z : (0 : Int) < (x.kids.length : Int) := by omega
  simp only [exVal]
  rw [h3]
  clear hn hc cK hA hw hcell ih h3 hns
  go_enter Tryz.func23, Tryz.ntmps23
  cases hT0 : x.name.toList == [111, 114] with
  | true =>
    have hl : x.name.data.toList = [111, 114] := by rw [beqL] at hT0; exact of_decide_eq_true hT0
    have hsc : R = scan 2 2 rs := by
      have := HNN.out (by rw [hl]; decide)
      rw [hl] at this
      exact this
    obtain ⟨G, hG0⟩ := scan_pack _ _ _ _ hsc
    have HG := hide1 hG0
    clear hl hsc hG0
    go_wp2_with fail
    have HBV := hide1 (Below.refl (w.alloc (.cells #[.int .i64 3, .string x.name, .int .i64 x.so, .int .i64 x.n, .string x.s, .slice (some ⟨b, o, none⟩) x.kids.length cap] 26)).heap.size (w.alloc (.cells #[.int .i64 3, .string x.name, .int .i64 x.so, .int .i64 x.n, .string x.s, .slice (some ⟨b, o, none⟩) x.kids.length cap] 26)))
    generalize w.alloc (.cells #[.int .i64 3, .string x.name, .int .i64 x.so, .int .i64 x.n, .string x.s, .slice (some ⟨b, o, none⟩) x.kids.length cap] 26) = V at *
    go_loopw [15] (fun i wr => ∃ k : Nat, k ≤ x.kids.length ∧ i = .int .i64 (k : Int) ∧ G k ∧ Below V.heap.size V wr) (fun i _ => x.kids.length - (intOf i).toNat)
    case atStart => exact ⟨0, Nat.zero_le _, rfl, HG.out.1, HBV.out⟩
    case round =>
      obtain ⟨k, hk, rfl, hG, hbr⟩ := hrel
      have y5' := (hbr.cell (p := ⟨w.heap.size, 5, none⟩) hVl).trans y5
      have HBR := hide1 hbr
      by_cases hlt : k < x.kids.length
      · have hltz : (k : Int) < (x.kids.length : Int) := by omega
        obtain ⟨ao', cap', hex, hcall⟩ := CK.out k hlt
        obtain ⟨c0, c1, c2, c3, c4, c5⟩ := hex.keep (HA.out.trans (hbr.mono HA.out.size)) (Nat.lt_of_lt_of_le hbB hB)
        have hWk : Below w.heap.size w wr := HA.out.trans (hbr.mono HA.out.size)
        have cF := hcall wr hWk
        have hd := HG.out.2.1 k (by rw [HLR.out]; exact hlt) hG
        generalize rs[k]'(by rw [HLR.out]; exact hlt) = rk at cF hd
        obtain ⟨r1, r2⟩ := rk
        simp only [exVal] at cF
        have HD := hide1 hd
        have HWK := hide1 hWk
        clear hex hcall hG hd hbr hWk
        go_wp2_with fail
        refine cF.mono ?_
        rintro e w2 ⟨rfl, hb2⟩
        have hb3 := HBR.out.trans (hb2.mono HBR.out.size)
        have hb4 := HWK.out.trans (hb2.mono HWK.out.size)
        clear cF c0 c1 c2 c3 c4 c5 y5'
        rcases HD.out with ⟨h1, hR⟩ | ⟨h1, h2, hR⟩ | ⟨h1, h2, hG'⟩
        · have h1b : (r2 != 0) = true := by simpa using h1
          have HRR := hide1 hR
          clear h1 hR HD
          go_wp2_with fail
          go_ret2
          exact ⟨by rw [HRR.out]; rfl, hb4⟩
        · try simp only at h1 h2
          subst h1
          have HRR := hide1 hR
          clear hR HD
          go_wp2_with fail
          go_ret2
          exact ⟨by rw [HRR.out]; rfl, hb4⟩
        · try simp only at h1 h2
          subst h1
          have HG2 := hide1 hG'
          clear hG' HD
          go_wp2_with fail
          go_roundw
          case rel => exact ⟨k + 1, by omega, by go_num, HG2.out, hb3⟩
          case measure => simp [intOf]; omega
      · have hltz : ¬ (k : Int) < (x.kids.length : Int) := by omega
        have hkl : k = x.kids.length := by omega
        subst hkl
        have HRR := hide1 (HG.out.2.2 (by rw [HLR.out]; exact hG))
        have hbe := HA.out.trans (hbr.mono HA.out.size)
        clear hG hbr
        go_wp2_with fail
        go_ret2
        exact ⟨by rw [HRR.out]; rfl, hbe⟩
  | false =>
    cases hT1 : x.name.toList == [97, 110, 100] with
    | true =>
      have hl : x.name.data.toList = [97, 110, 100] := by rw [beqL] at hT1; exact of_decide_eq_true hT1
      have hsc : R = scan 2 2 rs := by
        have := HNN.out (by rw [hl]; decide)
        rw [hl] at this
        exact this
      obtain ⟨G, hG0⟩ := scan_pack _ _ _ _ hsc
      have HG := hide1 hG0
      clear hl hsc hG0
      go_wp2_with fail
      have HBV := hide1 (Below.refl (w.alloc (.cells #[.int .i64 3, .string x.name, .int .i64 x.so, .int .i64 x.n, .string x.s, .slice (some ⟨b, o, none⟩) x.kids.length cap] 26)).heap.size (w.alloc (.cells #[.int .i64 3, .string x.name, .int .i64 x.so, .int .i64 x.n, .string x.s, .slice (some ⟨b, o, none⟩) x.kids.length cap] 26)))
      generalize w.alloc (.cells #[.int .i64 3, .string x.name, .int .i64 x.so, .int .i64 x.n, .string x.s, .slice (some ⟨b, o, none⟩) x.kids.length cap] 26) = V at *
      go_loopw [15] (fun i wr => ∃ k : Nat, k ≤ x.kids.length ∧ i = .int .i64 (k : Int) ∧ G k ∧ Below V.heap.size V wr) (fun i _ => x.kids.length - (intOf i).toNat)
      case atStart => exact ⟨0, Nat.zero_le _, rfl, HG.out.1, HBV.out⟩
      case round =>
        obtain ⟨k, hk, rfl, hG, hbr⟩ := hrel
        have y5' := (hbr.cell (p := ⟨w.heap.size, 5, none⟩) hVl).trans y5
        have HBR := hide1 hbr
        by_cases hlt : k < x.kids.length
        · have hltz : (k : Int) < (x.kids.length : Int) := by omega
          obtain ⟨ao', cap', hex, hcall⟩ := CK.out k hlt
          obtain ⟨c0, c1, c2, c3, c4, c5⟩ := hex.keep (HA.out.trans (hbr.mono HA.out.size)) (Nat.lt_of_lt_of_le hbB hB)
          have hWk : Below w.heap.size w wr := HA.out.trans (hbr.mono HA.out.size)
          have cF := hcall wr hWk
          have hd := HG.out.2.1 k (by rw [HLR.out]; exact hlt) hG
          generalize rs[k]'(by rw [HLR.out]; exact hlt) = rk at cF hd
          obtain ⟨r1, r2⟩ := rk
          simp only [exVal] at cF
          have HD := hide1 hd
          have HWK := hide1 hWk
          clear hex hcall hG hd hbr hWk
          go_wp2_with fail
          refine cF.mono ?_
          rintro e w2 ⟨rfl, hb2⟩
          have hb3 := HBR.out.trans (hb2.mono HBR.out.size)
          have hb4 := HWK.out.trans (hb2.mono HWK.out.size)
          clear cF c0 c1 c2 c3 c4 c5 y5'
          rcases HD.out with ⟨h1, hR⟩ | ⟨h1, h2, hR⟩ | ⟨h1, h2, hG'⟩
          · have h1b : (r2 != 0) = true := by simpa using h1
            have HRR := hide1 hR
            clear h1 hR HD
            go_wp2_with fail
            go_ret2
            exact ⟨by rw [HRR.out]; rfl, hb4⟩
          · try simp only at h1 h2
            subst h1
            have HRR := hide1 hR
            clear hR HD
            go_wp2_with fail
            go_ret2
            exact ⟨by rw [HRR.out]; rfl, hb4⟩
          · try simp only at h1 h2
            subst h1
            have HG2 := hide1 hG'
            clear hG' HD
            go_wp2_with fail
            go_roundw
            case rel => exact ⟨k + 1, by omega, by go_num, HG2.out, hb3⟩
            case measure => simp [intOf]; omega
        · have hltz : ¬ (k : Int) < (x.kids.length : Int) := by omega
          have hkl : k = x.kids.length := by omega
          subst hkl
          have HRR := hide1 (HG.out.2.2 (by rw [HLR.out]; exact hG))
          have hbe := HA.out.trans (hbr.mono HA.out.size)
          clear hG hbr
          go_wp2_with fail
          go_ret2
          exact ⟨by rw [HRR.out]; rfl, hbe⟩
    | false =>
      cases hT2 : x.name.toList == [110, 111, 116] with
      | true =>
        have hl : x.name.data.toList = [110, 111, 116] := by rw [beqL] at hT2; exact of_decide_eq_true hT2
        have hsc : R = scan 2 2 rs := by
          have := HNN.out (by rw [hl]; decide)
          rw [hl] at this
          exact this
        obtain ⟨G, hG0⟩ := scan_pack _ _ _ _ hsc
        have HG := hide1 hG0
        clear hl hsc hG0
        go_wp2_with fail
        have HBV := hide1 (Below.refl (w.alloc (.cells #[.int .i64 3, .string x.name, .int .i64 x.so, .int .i64 x.n, .string x.s, .slice (some ⟨b, o, none⟩) x.kids.length cap] 26)).heap.size (w.alloc (.cells #[.int .i64 3, .string x.name, .int .i64 x.so, .int .i64 x.n, .string x.s, .slice (some ⟨b, o, none⟩) x.kids.length cap] 26)))
        generalize w.alloc (.cells #[.int .i64 3, .string x.name, .int .i64 x.so, .int .i64 x.n, .string x.s, .slice (some ⟨b, o, none⟩) x.kids.length cap] 26) = V at *
        go_loopw [15] (fun i wr => ∃ k : Nat, k ≤ x.kids.length ∧ i = .int .i64 (k : Int) ∧ G k ∧ Below V.heap.size V wr) (fun i _ => x.kids.length - (intOf i).toNat)
        case atStart => exact ⟨0, Nat.zero_le _, rfl, HG.out.1, HBV.out⟩
        case round =>
          obtain ⟨k, hk, rfl, hG, hbr⟩ := hrel
          have y5' := (hbr.cell (p := ⟨w.heap.size, 5, none⟩) hVl).trans y5
          have HBR := hide1 hbr
          by_cases hlt : k < x.kids.length
          · have hltz : (k : Int) < (x.kids.length : Int) := by omega
            obtain ⟨ao', cap', hex, hcall⟩ := CK.out k hlt
            obtain ⟨c0, c1, c2, c3, c4, c5⟩ := hex.keep (HA.out.trans (hbr.mono HA.out.size)) (Nat.lt_of_lt_of_le hbB hB)
            have hWk : Below w.heap.size w wr := HA.out.trans (hbr.mono HA.out.size)
            have cF := hcall wr hWk
            have hd := HG.out.2.1 k (by rw [HLR.out]; exact hlt) hG
            generalize rs[k]'(by rw [HLR.out]; exact hlt) = rk at cF hd
            obtain ⟨r1, r2⟩ := rk
            simp only [exVal] at cF
            have HD := hide1 hd
            have HWK := hide1 hWk
            clear hex hcall hG hd hbr hWk
            go_wp2_with fail
            refine cF.mono ?_
            rintro e w2 ⟨rfl, hb2⟩
            have hb3 := HBR.out.trans (hb2.mono HBR.out.size)
            have hb4 := HWK.out.trans (hb2.mono HWK.out.size)
            clear cF c0 c1 c2 c3 c4 c5 y5'
            rcases HD.out with ⟨h1, hR⟩ | ⟨h1, h2, hR⟩ | ⟨h1, h2, hG'⟩
            · have h1b : (r2 != 0) = true := by simpa using h1
              have HRR := hide1 hR
              clear h1 hR HD
              go_wp2_with fail
              go_ret2
              exact ⟨by rw [HRR.out]; rfl, hb4⟩
            · try simp only at h1 h2
              subst h1
              have HRR := hide1 hR
              clear hR HD
              go_wp2_with fail
              go_ret2
              exact ⟨by rw [HRR.out]; rfl, hb4⟩
            · try simp only at h1 h2
              subst h1
              have HG2 := hide1 hG'
              clear hG' HD
              go_wp2_with fail
              go_roundw
              case rel => exact ⟨k + 1, by omega, by go_num, HG2.out, hb3⟩
              case measure => simp [intOf]; omega
          · have hltz : ¬ (k : Int) < (x.kids.length : Int) := by omega
            have hkl : k = x.kids.length := by omega
            subst hkl
            have HRR := hide1 (HG.out.2.2 (by rw [HLR.out]; exact hG))
            have hbe := HA.out.trans (hbr.mono HA.out.size)
            clear hG hbr
            go_wp2_with fail
            go_ret2
            exact ⟨by rw [HRR.out]; rfl, hbe⟩
      | false =>
        cases hT3 : x.name.toList == [43, 43] with
        | true =>
          have hl : x.name.data.toList = [43, 43] := by rw [beqL] at hT3; exact of_decide_eq_true hT3
          have hsc : R = scan 3 3 rs := by
            have := HNN.out (by rw [hl]; decide)
            rw [hl] at this
            exact this
          obtain ⟨G, hG0⟩ := scan_pack _ _ _ _ hsc
          have HG := hide1 hG0
          clear hl hsc hG0
          go_wp2_with fail
          have HBV := hide1 (Below.refl (w.alloc (.cells #[.int .i64 3, .string x.name, .int .i64 x.so, .int .i64 x.n, .string x.s, .slice (some ⟨b, o, none⟩) x.kids.length cap] 26)).heap.size (w.alloc (.cells #[.int .i64 3, .string x.name, .int .i64 x.so, .int .i64 x.n, .string x.s, .slice (some ⟨b, o, none⟩) x.kids.length cap] 26)))
          generalize w.alloc (.cells #[.int .i64 3, .string x.name, .int .i64 x.so, .int .i64 x.n, .string x.s, .slice (some ⟨b, o, none⟩) x.kids.length cap] 26) = V at *
          go_loopw [15] (fun i wr => ∃ k : Nat, k ≤ x.kids.length ∧ i = .int .i64 (k : Int) ∧ G k ∧ Below V.heap.size V wr) (fun i _ => x.kids.length - (intOf i).toNat)
          case atStart => exact ⟨0, Nat.zero_le _, rfl, HG.out.1, HBV.out⟩
          case round =>
            obtain ⟨k, hk, rfl, hG, hbr⟩ := hrel
            have y5' := (hbr.cell (p := ⟨w.heap.size, 5, none⟩) hVl).trans y5
            have HBR := hide1 hbr
            by_cases hlt : k < x.kids.length
            · have hltz : (k : Int) < (x.kids.length : Int) := by omega
              obtain ⟨ao', cap', hex, hcall⟩ := CK.out k hlt
              obtain ⟨c0, c1, c2, c3, c4, c5⟩ := hex.keep (HA.out.trans (hbr.mono HA.out.size)) (Nat.lt_of_lt_of_le hbB hB)
              have hWk : Below w.heap.size w wr := HA.out.trans (hbr.mono HA.out.size)
              have cF := hcall wr hWk
              have hd := HG.out.2.1 k (by rw [HLR.out]; exact hlt) hG
              generalize rs[k]'(by rw [HLR.out]; exact hlt) = rk at cF hd
              obtain ⟨r1, r2⟩ := rk
              simp only [exVal] at cF
              have HD := hide1 hd
              have HWK := hide1 hWk
              clear hex hcall hG hd hbr hWk
              go_wp2_with fail
              refine cF.mono ?_
              rintro e w2 ⟨rfl, hb2⟩
              have hb3 := HBR.out.trans (hb2.mono HBR.out.size)
              have hb4 := HWK.out.trans (hb2.mono HWK.out.size)
              clear cF c0 c1 c2 c3 c4 c5 y5'
              rcases HD.out with ⟨h1, hR⟩ | ⟨h1, h2, hR⟩ | ⟨h1, h2, hG'⟩
              · have h1b : (r2 != 0) = true := by simpa using h1
                have HRR := hide1 hR
                clear h1 hR HD
                go_wp2_with fail
                go_ret2
                exact ⟨by rw [HRR.out]; rfl, hb4⟩
              · try simp only at h1 h2
                subst h1
                have HRR := hide1 hR
                clear hR HD
                go_wp2_with fail
                go_ret2
                exact ⟨by rw [HRR.out]; rfl, hb4⟩
              · try simp only at h1 h2
                subst h1
                have HG2 := hide1 hG'
                clear hG' HD
                go_wp2_with fail
                go_roundw
                case rel => exact ⟨k + 1, by omega, by go_num, HG2.out, hb3⟩
                case measure => simp [intOf]; omega
            · have hltz : ¬ (k : Int) < (x.kids.length : Int) := by omega
              have hkl : k = x.kids.length := by omega
              subst hkl
              have HRR := hide1 (HG.out.2.2 (by rw [HLR.out]; exact hG))
              have hbe := HA.out.trans (hbr.mono HA.out.size)
              clear hG hbr
              go_wp2_with fail
              go_ret2
              exact ⟨by rw [HRR.out]; rfl, hbe⟩
        | false =>
          cases hT4 : x.name.toList == [35] with
          | true =>
            have hl : x.name.data.toList = [35] := by rw [beqL] at hT4; exact of_decide_eq_true hT4
            have hsc : R = scan 3 1 rs := by
              have := HNN.out (by rw [hl]; decide)
              rw [hl] at this
              exact this
            obtain ⟨G, hG0⟩ := scan_pack _ _ _ _ hsc
            have HG := hide1 hG0
            clear hl hsc hG0
            go_wp2_with fail
            have HBV := hide1 (Below.refl (w.alloc (.cells #[.int .i64 3, .string x.name, .int .i64 x.so, .int .i64 x.n, .string x.s, .slice (some ⟨b, o, none⟩) x.kids.length cap] 26)).heap.size (w.alloc (.cells #[.int .i64 3, .string x.name, .int .i64 x.so, .int .i64 x.n, .string x.s, .slice (some ⟨b, o, none⟩) x.kids.length cap] 26)))
            generalize w.alloc (.cells #[.int .i64 3, .string x.name, .int .i64 x.so, .int .i64 x.n, .string x.s, .slice (some ⟨b, o, none⟩) x.kids.length cap] 26) = V at *
            go_loopw [15] (fun i wr => ∃ k : Nat, k ≤ x.kids.length ∧ i = .int .i64 (k : Int) ∧ G k ∧ Below V.heap.size V wr) (fun i _ => x.kids.length - (intOf i).toNat)
            case atStart => exact ⟨0, Nat.zero_le _, rfl, HG.out.1, HBV.out⟩
            case round =>
              obtain ⟨k, hk, rfl, hG, hbr⟩ := hrel
              have y5' := (hbr.cell (p := ⟨w.heap.size, 5, none⟩) hVl).trans y5
              have HBR := hide1 hbr
              by_cases hlt : k < x.kids.length
              · have hltz : (k : Int) < (x.kids.length : Int) := by omega
                obtain ⟨ao', cap', hex, hcall⟩ := CK.out k hlt
                obtain ⟨c0, c1, c2, c3, c4, c5⟩ := hex.keep (HA.out.trans (hbr.mono HA.out.size)) (Nat.lt_of_lt_of_le hbB hB)
                have hWk : Below w.heap.size w wr := HA.out.trans (hbr.mono HA.out.size)
                have cF := hcall wr hWk
                have hd := HG.out.2.1 k (by rw [HLR.out]; exact hlt) hG
                generalize rs[k]'(by rw [HLR.out]; exact hlt) = rk at cF hd
                obtain ⟨r1, r2⟩ := rk
                simp only [exVal] at cF
                have HD := hide1 hd
                have HWK := hide1 hWk
                clear hex hcall hG hd hbr hWk
                go_wp2_with fail
                refine cF.mono ?_
                rintro e w2 ⟨rfl, hb2⟩
                have hb3 := HBR.out.trans (hb2.mono HBR.out.size)
                have hb4 := HWK.out.trans (hb2.mono HWK.out.size)
                clear cF c0 c1 c2 c3 c4 c5 y5'
                rcases HD.out with ⟨h1, hR⟩ | ⟨h1, h2, hR⟩ | ⟨h1, h2, hG'⟩
                · have h1b : (r2 != 0) = true := by simpa using h1
                  have HRR := hide1 hR
                  clear h1 hR HD
                  go_wp2_with fail
                  go_ret2
                  exact ⟨by rw [HRR.out]; rfl, hb4⟩
                · try simp only at h1 h2
                  subst h1
                  have HRR := hide1 hR
                  clear hR HD
                  go_wp2_with fail
                  go_ret2
                  exact ⟨by rw [HRR.out]; rfl, hb4⟩
                · try simp only at h1 h2
                  subst h1
                  have HG2 := hide1 hG'
                  clear hG' HD
                  go_wp2_with fail
                  go_roundw
                  case rel => exact ⟨k + 1, by omega, by go_num, HG2.out, hb3⟩
                  case measure => simp [intOf]; omega
              · have hltz : ¬ (k : Int) < (x.kids.length : Int) := by omega
                have hkl : k = x.kids.length := by omega
                subst hkl
                have HRR := hide1 (HG.out.2.2 (by rw [HLR.out]; exact hG))
                have hbe := HA.out.trans (hbr.mono HA.out.size)
                clear hG hbr
                go_wp2_with fail
                go_ret2
                exact ⟨by rw [HRR.out]; rfl, hbe⟩
          | false =>
            cases hT5 : x.name.toList == [61, 61] with
            | true =>
              have hl : x.name.data.toList = [61, 61] := by rw [beqL] at hT5; exact of_decide_eq_true hT5
              have hcc := HCC.out (by rw [hl]; decide) (rs[0]'(by rw [HLR.out]; omega)) (List.getElem?_eq_getElem _)
              rw [hl] at hcc
              obtain ⟨ao0, cap0, hex0, hcall0⟩ := CK.out 0 (by omega)
              obtain ⟨c0, c1, c2, c3, c4, c5⟩ := hex0.keep HA.out (Nat.lt_of_lt_of_le hbB hB)
              simp only [Nat.zero_mul, Nat.add_zero] at c0 c1 c2 c3 c4 c5
              have cF := hcall0 _ HA.out
              generalize rs[0]'(by rw [HLR.out]; omega) = rk at cF hcc
              obtain ⟨q1, q2⟩ := rk
              simp only [exVal] at cF
              have HQ : Hid ((q2 ≠ 0 → R = (0, q2)) ∧ (q2 = 0 → R = scan q1 2 rs)) := hcc
              clear hcc hl hex0 hcall0
              go_wp2_with fail
              refine cF.mono ?_
              rintro e w1 ⟨rfl, hb1⟩
              clear cF c0 c1 c2 c3 c4 c5
              by_cases hq : q2 = 0
              · subst hq
                obtain ⟨G, hG0⟩ := scan_pack _ _ _ _ (HQ.out.2 rfl)
                have HG := hide1 hG0
                have HBV := hide1 hb1
                clear hG0 HQ hb1
                go_wp2_with fail
                generalize w.alloc (.cells #[.int .i64 3, .string x.name, .int .i64 x.so, .int .i64 x.n, .string x.s, .slice (some ⟨b, o, none⟩) x.kids.length cap] 26) = V at *
                go_loopw [15] (fun i wr => ∃ k : Nat, k ≤ x.kids.length ∧ i = .int .i64 (k : Int) ∧ G k ∧ Below V.heap.size V wr) (fun i _ => x.kids.length - (intOf i).toNat)
                case atStart => exact ⟨0, Nat.zero_le _, rfl, HG.out.1, HBV.out⟩
                case round =>
                  obtain ⟨k, hk, rfl, hG, hbr⟩ := hrel
                  have y5' := (hbr.cell (p := ⟨w.heap.size, 5, none⟩) hVl).trans y5
                  have HBR := hide1 hbr
                  by_cases hlt : k < x.kids.length
                  · have hltz : (k : Int) < (x.kids.length : Int) := by omega
                    obtain ⟨ao', cap', hex, hcall⟩ := CK.out k hlt
                    obtain ⟨c0, c1, c2, c3, c4, c5⟩ := hex.keep (HA.out.trans (hbr.mono HA.out.size)) (Nat.lt_of_lt_of_le hbB hB)
                    have hWk : Below w.heap.size w wr := HA.out.trans (hbr.mono HA.out.size)
                    have cF := hcall wr hWk
                    have hd := HG.out.2.1 k (by rw [HLR.out]; exact hlt) hG
                    generalize rs[k]'(by rw [HLR.out]; exact hlt) = rk at cF hd
                    obtain ⟨r1, r2⟩ := rk
                    simp only [exVal] at cF
                    have HD := hide1 hd
                    have HWK := hide1 hWk
                    clear hex hcall hG hd hbr hWk
                    go_wp2_with fail
                    refine cF.mono ?_
                    rintro e w2 ⟨rfl, hb2⟩
                    have hb3 := HBR.out.trans (hb2.mono HBR.out.size)
                    have hb4 := HWK.out.trans (hb2.mono HWK.out.size)
                    clear cF c0 c1 c2 c3 c4 c5 y5'
                    rcases HD.out with ⟨h1, hR⟩ | ⟨h1, h2, hR⟩ | ⟨h1, h2, hG'⟩
                    · have h1b : (r2 != 0) = true := by simpa using h1
                      have HRR := hide1 hR
                      clear h1 hR HD
                      go_wp2_with fail
                      go_ret2
                      exact ⟨by rw [HRR.out]; rfl, hb4⟩
                    · try simp only at h1 h2
                      subst h1
                      have HRR := hide1 hR
                      clear hR HD
                      go_wp2_with fail
                      go_ret2
                      exact ⟨by rw [HRR.out]; rfl, hb4⟩
                    · try simp only at h1 h2
                      subst h1
                      have HG2 := hide1 hG'
                      clear hG' HD
                      go_wp2_with fail
                      go_roundw
                      case rel => exact ⟨k + 1, by omega, by go_num, HG2.out, hb3⟩
                      case measure => simp [intOf]; omega
                  · have hltz : ¬ (k : Int) < (x.kids.length : Int) := by omega
                    have hkl : k = x.kids.length := by omega
                    subst hkl
                    have HRR := hide1 (HG.out.2.2 (by rw [HLR.out]; exact hG))
                    have hbe := HA.out.trans (hbr.mono HA.out.size)
                    clear hG hbr
                    go_wp2_with fail
                    go_ret2
                    exact ⟨by rw [HRR.out]; rfl, hbe⟩

              · have hqb : (q2 != 0) = true := by simpa using hq
                have HRR := hide1 (HQ.out.1 hq)
                have hbe := HA.out.trans (hb1.mono HA.out.size)
                clear HQ hq
                go_wp2_with fail
                go_ret2
                exact ⟨by rw [HRR.out]; rfl, hbe⟩
            | false =>
              cases hT6 : x.name.toList == [60] with
              | true =>
                have hl : x.name.data.toList = [60] := by rw [beqL] at hT6; exact of_decide_eq_true hT6
                have hcc := HCC.out (by rw [hl]; decide) (rs[0]'(by rw [HLR.out]; omega)) (List.getElem?_eq_getElem _)
                rw [hl] at hcc
                obtain ⟨ao0, cap0, hex0, hcall0⟩ := CK.out 0 (by omega)
                obtain ⟨c0, c1, c2, c3, c4, c5⟩ := hex0.keep HA.out (Nat.lt_of_lt_of_le hbB hB)
                simp only [Nat.zero_mul, Nat.add_zero] at c0 c1 c2 c3 c4 c5
                have cF := hcall0 _ HA.out
                generalize rs[0]'(by rw [HLR.out]; omega) = rk at cF hcc
                obtain ⟨q1, q2⟩ := rk
                simp only [exVal] at cF
                have HQ : Hid ((q2 ≠ 0 → R = (0, q2)) ∧ (q2 = 0 → R = scan q1 2 rs)) := hcc
                clear hcc hl hex0 hcall0
                go_wp2_with fail
                refine cF.mono ?_
                rintro e w1 ⟨rfl, hb1⟩
                clear cF c0 c1 c2 c3 c4 c5
                by_cases hq : q2 = 0
                · subst hq
                  obtain ⟨G, hG0⟩ := scan_pack _ _ _ _ (HQ.out.2 rfl)
                  have HG := hide1 hG0
                  have HBV := hide1 hb1
                  clear hG0 HQ hb1
                  go_wp2_with fail
                  generalize w.alloc (.cells #[.int .i64 3, .string x.name, .int .i64 x.so, .int .i64 x.n, .string x.s, .slice (some ⟨b, o, none⟩) x.kids.length cap] 26) = V at *
                  go_loopw [15] (fun i wr => ∃ k : Nat, k ≤ x.kids.length ∧ i = .int .i64 (k : Int) ∧ G k ∧ Below V.heap.size V wr) (fun i _ => x.kids.length - (intOf i).toNat)
                  case atStart => exact ⟨0, Nat.zero_le _, rfl, HG.out.1, HBV.out⟩
                  case round =>
                    obtain ⟨k, hk, rfl, hG, hbr⟩ := hrel
                    have y5' := (hbr.cell (p := ⟨w.heap.size, 5, none⟩) hVl).trans y5
                    have HBR := hide1 hbr
                    by_cases hlt : k < x.kids.length
                    · have hltz : (k : Int) < (x.kids.length : Int) := by omega
                      obtain ⟨ao', cap', hex, hcall⟩ := CK.out k hlt
                      obtain ⟨c0, c1, c2, c3, c4, c5⟩ := hex.keep (HA.out.trans (hbr.mono HA.out.size)) (Nat.lt_of_lt_of_le hbB hB)
                      have hWk : Below w.heap.size w wr := HA.out.trans (hbr.mono HA.out.size)
                      have cF := hcall wr hWk
                      have hd := HG.out.2.1 k (by rw [HLR.out]; exact hlt) hG
                      generalize rs[k]'(by rw [HLR.out]; exact hlt) = rk at cF hd
                      obtain ⟨r1, r2⟩ := rk
                      simp only [exVal] at cF
                      have HD := hide1 hd
                      have HWK := hide1 hWk
                      clear hex hcall hG hd hbr hWk
                      go_wp2_with fail
                      refine cF.mono ?_
                      rintro e w2 ⟨rfl, hb2⟩
                      have hb3 := HBR.out.trans (hb2.mono HBR.out.size)
                      have hb4 := HWK.out.trans (hb2.mono HWK.out.size)
                      clear cF c0 c1 c2 c3 c4 c5 y5'
                      rcases HD.out with ⟨h1, hR⟩ | ⟨h1, h2, hR⟩ | ⟨h1, h2, hG'⟩
                      · have h1b : (r2 != 0) = true := by simpa using h1
                        have HRR := hide1 hR
                        clear h1 hR HD
                        go_wp2_with fail
                        go_ret2
                        exact ⟨by rw [HRR.out]; rfl, hb4⟩
                      · try simp only at h1 h2
                        subst h1
                        have HRR := hide1 hR
                        clear hR HD
                        go_wp2_with fail
                        go_ret2
                        exact ⟨by rw [HRR.out]; rfl, hb4⟩
                      · try simp only at h1 h2
                        subst h1
                        have HG2 := hide1 hG'
                        clear hG' HD
                        go_wp2_with fail
                        go_roundw
                        case rel => exact ⟨k + 1, by omega, by go_num, HG2.out, hb3⟩
                        case measure => simp [intOf]; omega
                    · have hltz : ¬ (k : Int) < (x.kids.length : Int) := by omega
                      have hkl : k = x.kids.length := by omega
                      subst hkl
                      have HRR := hide1 (HG.out.2.2 (by rw [HLR.out]; exact hG))
                      have hbe := HA.out.trans (hbr.mono HA.out.size)
                      clear hG hbr
                      go_wp2_with fail
                      go_ret2
                      exact ⟨by rw [HRR.out]; rfl, hbe⟩

                · have hqb : (q2 != 0) = true := by simpa using hq
                  have HRR := hide1 (HQ.out.1 hq)
                  have hbe := HA.out.trans (hb1.mono HA.out.size)
                  clear HQ hq
                  go_wp2_with fail
                  go_ret2
                  exact ⟨by rw [HRR.out]; rfl, hbe⟩
              | false =>
                cases hT7 : x.name.toList == [60, 61] with
                | true =>
                  have hl : x.name.data.toList = [60, 61] := by rw [beqL] at hT7; exact of_decide_eq_true hT7
                  have hcc := HCC.out (by rw [hl]; decide) (rs[0]'(by rw [HLR.out]; omega)) (List.getElem?_eq_getElem _)
                  rw [hl] at hcc
                  obtain ⟨ao0, cap0, hex0, hcall0⟩ := CK.out 0 (by omega)
                  obtain ⟨c0, c1, c2, c3, c4, c5⟩ := hex0.keep HA.out (Nat.lt_of_lt_of_le hbB hB)
                  simp only [Nat.zero_mul, Nat.add_zero] at c0 c1 c2 c3 c4 c5
                  have cF := hcall0 _ HA.out
                  generalize rs[0]'(by rw [HLR.out]; omega) = rk at cF hcc
                  obtain ⟨q1, q2⟩ := rk
                  simp only [exVal] at cF
                  have HQ : Hid ((q2 ≠ 0 → R = (0, q2)) ∧ (q2 = 0 → R = scan q1 2 rs)) := hcc
                  clear hcc hl hex0 hcall0
                  go_wp2_with fail
                  refine cF.mono ?_
                  rintro e w1 ⟨rfl, hb1⟩
                  clear cF c0 c1 c2 c3 c4 c5
                  by_cases hq : q2 = 0
                  · subst hq
                    obtain ⟨G, hG0⟩ := scan_pack _ _ _ _ (HQ.out.2 rfl)
                    have HG := hide1 hG0
                    have HBV := hide1 hb1
                    clear hG0 HQ hb1
                    go_wp2_with fail
                    generalize w.alloc (.cells #[.int .i64 3, .string x.name, .int .i64 x.so, .int .i64 x.n, .string x.s, .slice (some ⟨b, o, none⟩) x.kids.length cap] 26) = V at *
                    go_loopw [15] (fun i wr => ∃ k : Nat, k ≤ x.kids.length ∧ i = .int .i64 (k : Int) ∧ G k ∧ Below V.heap.size V wr) (fun i _ => x.kids.length - (intOf i).toNat)
                    case atStart => exact ⟨0, Nat.zero_le _, rfl, HG.out.1, HBV.out⟩
                    case round =>
                      obtain ⟨k, hk, rfl, hG, hbr⟩ := hrel
                      have y5' := (hbr.cell (p := ⟨w.heap.size, 5, none⟩) hVl).trans y5
                      have HBR := hide1 hbr
                      by_cases hlt : k < x.kids.length
                      · have hltz : (k : Int) < (x.kids.length : Int) := by omega
                        obtain ⟨ao', cap', hex, hcall⟩ := CK.out k hlt
                        obtain ⟨c0, c1, c2, c3, c4, c5⟩ := hex.keep (HA.out.trans (hbr.mono HA.out.size)) (Nat.lt_of_lt_of_le hbB hB)
                        have hWk : Below w.heap.size w wr := HA.out.trans (hbr.mono HA.out.size)
                        have cF := hcall wr hWk
                        have hd := HG.out.2.1 k (by rw [HLR.out]; exact hlt) hG
                        generalize rs[k]'(by rw [HLR.out]; exact hlt) = rk at cF hd
                        obtain ⟨r1, r2⟩ := rk
                        simp only [exVal] at cF
                        have HD := hide1 hd
                        have HWK := hide1 hWk
                        clear hex hcall hG hd hbr hWk
                        go_wp2_with fail
                        refine cF.mono ?_
                        rintro e w2 ⟨rfl, hb2⟩
                        have hb3 := HBR.out.trans (hb2.mono HBR.out.size)
                        have hb4 := HWK.out.trans (hb2.mono HWK.out.size)
                        clear cF c0 c1 c2 c3 c4 c5 y5'
                        rcases HD.out with ⟨h1, hR⟩ | ⟨h1, h2, hR⟩ | ⟨h1, h2, hG'⟩
                        · have h1b : (r2 != 0) = true := by simpa using h1
                          have HRR := hide1 hR
                          clear h1 hR HD
                          go_wp2_with fail
                          go_ret2
                          exact ⟨by rw [HRR.out]; rfl, hb4⟩
                        · try simp only at h1 h2
                          subst h1
                          have HRR := hide1 hR
                          clear hR HD
                          go_wp2_with fail
                          go_ret2
                          exact ⟨by rw [HRR.out]; rfl, hb4⟩
                        · try simp only at h1 h2
                          subst h1
                          have HG2 := hide1 hG'
                          clear hG' HD
                          go_wp2_with fail
                          go_roundw
                          case rel => exact ⟨k + 1, by omega, by go_num, HG2.out, hb3⟩
                          case measure => simp [intOf]; omega
                      · have hltz : ¬ (k : Int) < (x.kids.length : Int) := by omega
                        have hkl : k = x.kids.length := by omega
                        subst hkl
                        have HRR := hide1 (HG.out.2.2 (by rw [HLR.out]; exact hG))
                        have hbe := HA.out.trans (hbr.mono HA.out.size)
                        clear hG hbr
                        go_wp2_with fail
                        go_ret2
                        exact ⟨by rw [HRR.out]; rfl, hbe⟩

                  · have hqb : (q2 != 0) = true := by simpa using hq
                    have HRR := hide1 (HQ.out.1 hq)
                    have hbe := HA.out.trans (hb1.mono HA.out.size)
                    clear HQ hq
                    go_wp2_with fail
                    go_ret2
                    exact ⟨by rw [HRR.out]; rfl, hbe⟩
                | false =>
                  have hsc : R = scan 1 1 rs := by
                    have e : ∀ l, (x.name.toList == l) = false → ¬ x.name.data.toList = l := fun l h => by rw [beqL] at h; exact of_decide_eq_false h
                    have f0 := e _ hT0
                    have f1 := e _ hT1
                    have f2 := e _ hT2
                    have f3 := e _ hT3
                    have f4 := e _ hT4
                    have f5 := e _ hT5
                    have f6 := e _ hT6
                    have f7 := e _ hT7
                    have hs : opS x.name.data.toList = (1, 1) := by unfold opS; simp [f0, f1, f2, f3, f4, f5, f6, f7]
                    have hcm : isCmp x.name.data.toList = false := by unfold isCmp lvl; simp [f0, f1, f5, f6, f7]; split <;> (try split) <;> simp
                    have := HNN.out hcm
                    rw [hs] at this
                    exact this
                  obtain ⟨G, hG0⟩ := scan_pack _ _ _ _ hsc
                  have HG := hide1 hG0
                  clear hsc hG0
                  go_wp2_with fail
                  have HBV := hide1 (Below.refl (w.alloc (.cells #[.int .i64 3, .string x.name, .int .i64 x.so, .int .i64 x.n, .string x.s, .slice (some ⟨b, o, none⟩) x.kids.length cap] 26)).heap.size (w.alloc (.cells #[.int .i64 3, .string x.name, .int .i64 x.so, .int .i64 x.n, .string x.s, .slice (some ⟨b, o, none⟩) x.kids.length cap] 26)))
                  generalize w.alloc (.cells #[.int .i64 3, .string x.name, .int .i64 x.so, .int .i64 x.n, .string x.s, .slice (some ⟨b, o, none⟩) x.kids.length cap] 26) = V at *
                  go_loopw [15] (fun i wr => ∃ k : Nat, k ≤ x.kids.length ∧ i = .int .i64 (k : Int) ∧ G k ∧ Below V.heap.size V wr) (fun i _ => x.kids.length - (intOf i).toNat)
                  case atStart => exact ⟨0, Nat.zero_le _, rfl, HG.out.1, HBV.out⟩
                  case round =>
                    obtain ⟨k, hk, rfl, hG, hbr⟩ := hrel
                    have y5' := (hbr.cell (p := ⟨w.heap.size, 5, none⟩) hVl).trans y5
                    have HBR := hide1 hbr
                    by_cases hlt : k < x.kids.length
                    · have hltz : (k : Int) < (x.kids.length : Int) := by omega
                      obtain ⟨ao', cap', hex, hcall⟩ := CK.out k hlt
                      obtain ⟨c0, c1, c2, c3, c4, c5⟩ := hex.keep (HA.out.trans (hbr.mono HA.out.size)) (Nat.lt_of_lt_of_le hbB hB)
                      have hWk : Below w.heap.size w wr := HA.out.trans (hbr.mono HA.out.size)
                      have cF := hcall wr hWk
                      have hd := HG.out.2.1 k (by rw [HLR.out]; exact hlt) hG
                      generalize rs[k]'(by rw [HLR.out]; exact hlt) = rk at cF hd
                      obtain ⟨r1, r2⟩ := rk
                      simp only [exVal] at cF
                      have HD := hide1 hd
                      have HWK := hide1 hWk
                      clear hex hcall hG hd hbr hWk
                      go_wp2_with fail
                      refine cF.mono ?_
                      rintro e w2 ⟨rfl, hb2⟩
                      have hb3 := HBR.out.trans (hb2.mono HBR.out.size)
                      have hb4 := HWK.out.trans (hb2.mono HWK.out.size)
                      clear cF c0 c1 c2 c3 c4 c5 y5'
                      rcases HD.out with ⟨h1, hR⟩ | ⟨h1, h2, hR⟩ | ⟨h1, h2, hG'⟩
                      · have h1b : (r2 != 0) = true := by simpa using h1
                        have HRR := hide1 hR
                        clear h1 hR HD
                        go_wp2_with fail
                        go_ret2
                        exact ⟨by rw [HRR.out]; rfl, hb4⟩
                      · try simp only at h1 h2
                        subst h1
                        have HRR := hide1 hR
                        clear hR HD
                        go_wp2_with fail
                        go_ret2
                        exact ⟨by rw [HRR.out]; rfl, hb4⟩
                      · try simp only at h1 h2
                        subst h1
                        have HG2 := hide1 hG'
                        clear hG' HD
                        go_wp2_with fail
                        go_roundw
                        case rel => exact ⟨k + 1, by omega, by go_num, HG2.out, hb3⟩
                        case measure => simp [intOf]; omega
                    · have hltz : ¬ (k : Int) < (x.kids.length : Int) := by omega
                      have hkl : k = x.kids.length := by omega
                      subst hkl
                      have HRR := hide1 (HG.out.2.2 (by rw [HLR.out]; exact hG))
                      have hbe := HA.out.trans (hbr.mono HA.out.size)
                      clear hG hbr
                      go_wp2_with fail
                      go_ret2
                      exact ⟨by rw [HRR.out]; rfl, hbe⟩

theorem refSort_any (ns : List ByteArray) (zs : List Int) (an am : Option Addr) (cn cm d : Nat) : RSSaid ns zs an am cn cm d := by
  induction d using Nat.strongRecOn with
  | _ d ih =>
    intro x ao cap B w hw hbd hka hns hB
    rcases wf_cases x hw with ⟨h, _, _⟩ | ⟨h, _, _⟩ | ⟨h, _⟩ | ⟨h, _⟩
    · rw [sort_lit _ x h]; exact refSort_lit x ao an am cap ns.length cn cm w h
    · rw [sort_name _ x h]; exact refSort_name ns zs an am cn cm x ao cap B w h hns hB
    · exact refSort_op ns zs an am cn cm d ih x ao cap B w hw hka hns hB h
    · exact refSort_op ns zs an am cn cm d ih x ao cap B w hw hka hns hB h
end Go.Proofs.YtecapnipkngniaaGreatDoor
