/-
  The contract of graph.count's decimal.
-/
import Derived.Test.YtnedgkcejlhnbaaDoorNp
import Derived.Test.YtnedgkcejlhnbaaDoorLij
import Derived.Test.YtnedgkcejlhnbaaDoorXd
import Derived.Test.YtnedgkcejlhnbaaDoorHi
import Derived.Shelf.Strings.Repeat
import Derived.Test.YtnedgkcejlhnbaaDoorProg
import Derived.Deep.RegionHeld
namespace Go.Proofs.YtnedgkcejlhnbaaDoor
open Go.RowKit Go.Shelf Go.Lib

theorem nDig_le : ∀ (k u : Nat), u < 10 ^ (k + 1) → nDigits u ≤ k + 1
  | 0, u, h => by rw [nDigits_small (by simpa using h)]; omega
  | k + 1, u, h => by
    by_cases hs : u < 10
    · rw [nDigits_small hs]; omega
    · rw [nDigits_big hs]
      have := nDig_le k (u / 10) (Nat.div_lt_of_lt_mul (by rw [Nat.pow_succ] at h; omega))
      omega
/-- a group's 18 digits -/
def grpS (u : Nat) : List UInt8 := List.replicate (18 - (decDigits u).length) 48 ++ decDigits u
/-- the digits of the first groups -/
def allN (c : List Nat) : Nat → List UInt8
  | 0 => []
  | i + 1 => grpS (ga c i) ++ allN c i
/-- a count's digits -/
def decS (c : List Nat) : List UInt8 := if trimLeftS (allN c 9) [48] = [] then [48] else trimLeftS (allN c 9) [48]
theorem dec_small {u : Nat} (h : u < 10) : decDigits u = [dg u 0] := by rw [decDigits_eq, nDigits_small h]; rfl
theorem dec_one : decS one9 = [49] := by
  have h0 : grpS 0 = [48, 48, 48, 48, 48, 48, 48, 48, 48, 48, 48, 48, 48, 48, 48, 48, 48, 48] := by unfold grpS; rw [dec_small (by omega)]; rfl
  have h1 : grpS 1 = [48, 48, 48, 48, 48, 48, 48, 48, 48, 48, 48, 48, 48, 48, 48, 48, 48, 49] := by unfold grpS; rw [dec_small (by omega)]; rfl
  have hA : allN one9 9 = grpS 0 ++ (grpS 0 ++ (grpS 0 ++ (grpS 0 ++ (grpS 0 ++ (grpS 0 ++ (grpS 0 ++ (grpS 0 ++ (grpS 1 ++ [])))))))) := rfl
  unfold decS
  rw [hA, h0, h1]
  decide
theorem grp_len {u : Nat} (h : u < gpB) : (grpS u).length = 18 := by
  have := nDig_le 17 u h
  unfold grpS
  rw [List.length_append, List.length_replicate, decDigits_length]
  omega
theorem all_len {c : List Nat} (h : ∀ x ∈ c, x < gpB) : ∀ i, (allN c i).length = 18 * i
  | 0 => rfl
  | i + 1 => by rw [allN, List.length_append, grp_len (ga_lt h i), all_len h i]; omega
theorem trim_le (l cs : List UInt8) : (trimLeftS l cs).length ≤ l.length := (List.dropWhile_sublist _).length_le
theorem extraR : Builder.Extra Tryd.prog Tryd.lays105_ren := {
  sizeBuilder := by kernel_rfl
  liesBuilder := by kernel_rfl
  t5 := Tryd.underlying5
  a5 := Tryd.isAgg5
  z5 := Tryd.sizeOf5
  v5 := Tryd.zeroValue5
  infoByte := by kernel_rfl
  cellsByte := by kernel_rfl
  sizeByte := by kernel_rfl
  neB5 := by decide }
theorem repZ (k : Nat) : Lib.repeatL [48] k = List.replicate k 48 := by
  induction k with
  | zero => rfl
  | succ k ih => rw [Lib.repeatL, ih]; rfl
theorem repeatZ_any (k : Nat) (w : World) (hk : k ≤ 18) :
    Calls Tryd.prog 38 #[.string ⟨#[48]⟩, .int .i64 (k : Int)] w fun e w' => e = .returned (.string ⟨(List.replicate k (48 : UInt8)).toArray⟩) ∧ Below w.heap.size w w' := by
  have c := Any.strings_Repeat Tryd.lays105 extraR ⟨#[48]⟩ k w (by omega) (by show 1 * k ≤ _; omega)
  refine c.mono fun e w' ⟨h1, h2⟩ => ⟨?_, h2⟩
  rw [h1]
  show Ending.returned (Value.string ⟨(Lib.repeatL [48] k).toArray⟩) = _
  rw [repZ]
theorem trimZ_any (s : ByteArray) (w : World) :
    Calls Tryd.prog 39 #[.string s, .string ⟨#[48]⟩] w fun e w' => e = .returned (.string ⟨(trimLeftS s.data.toList [48]).toArray⟩) ∧ Below w.heap.size w w' :=
  Any.strings_TrimLeft_laid Tryd.lays161 info256 s ⟨#[48]⟩ w (by decide) (ascii_of_all (by decide))
theorem index_ct (c : List Nat) (W : World) : ∀ i : Nat, i < 9 → (Instr.index 62 (ctVal c) (.int .i64 (i : Int))).run Tryd.prog W = .ok (.int .u64 (ga c i : Int)) W
  | 0, _ | 1, _ | 2, _ | 3, _ | 4, _ | 5, _ | 6, _ | 7, _ | 8, _ => by kernel_rfl
  | _ + 9, h => by omega
set_option maxRecDepth 100000 in
set_option maxHeartbeats 4000000 in
theorem decimal_any (c : List Nat) (w : World) (hcb : ∀ x ∈ c, x < gpB) (htab : PowU w) :
    Calls Tryd.prog 21 #[ctVal c] w fun e w' => e = .returned (.string ⟨(decS c).toArray⟩) ∧ Below w.heap.size w w' := by
  have HIX := hideP (fun (W : World) i (hi : i < 9) => index_ct c W i hi)
  have HT := hideP htab
  have HLN := hideP (all_len hcb)
  have HGL := hideP (fun i => ga_lt hcb i)
  clear htab hcb
  have HB0 := hideP (show Below w.heap.size w (w.alloc (.cells #[.int .u64 (ga c 0 : Int), .int .u64 (ga c 1 : Int), .int .u64 (ga c 2 : Int), .int .u64 (ga c 3 : Int), .int .u64 (ga c 4 : Int), .int .u64 (ga c 5 : Int), .int .u64 (ga c 6 : Int), .int .u64 (ga c 7 : Int), .int .u64 (ga c 8 : Int)] 62)) from (Below.refl _ _).alloc (Nat.le_refl _) _)
  simp only [ctVal] at HIX ⊢
  go_enter Tryd.func21, Tryd.ntmps21
  go_wp2_with fail
  go_loopw [3, 9] (fun v3 v9 wr => ∃ i : Nat, i ≤ 9 ∧ v9 = .int .i64 (i : Int) ∧ v3 = .string ⟨(allN c i).toArray⟩ ∧ Below w.heap.size w wr) (fun _ v9 _ => 9 - (intOf v9).toNat)
  case atStart => exact ⟨0, by omega, rfl, rfl, HB0.out⟩
  case round =>
    obtain ⟨i, hi9, rfl, rfl, hb⟩ := hrel
    have HB := hideP hb
    clear hb
    by_cases hi : i < 9
    · have hltz : (i : Int) < 9 := by omega
      have hix := HIX.out wr i hi
      have hu := HGL.out i
      have hl18 := nDig_le 17 (ga c i) hu
      have c1 := formatUint_any (ga c i) (by unfold gpB at hu; omega) wr (Go.Joins.tab_stays gPowU HT.out HB.out (Nat.le_refl _))
      have hln := decDigits_length (ga c i)
      have c2 := fun w1 => repeatZ_any (18 - (decDigits (ga c i)).length) w1 (by omega)
      have HNX := hideP (show (⟨(List.replicate (18 - (decDigits (ga c i)).length) (48 : UInt8)).toArray⟩ : ByteArray) ++ ⟨(decDigits (ga c i)).toArray⟩ ++ ⟨(allN c i).toArray⟩ = ⟨(allN c (i + 1)).toArray⟩ from by
        rw [allN, grpS]
        apply ByteArray.ext
        rw [ByteArray.data_append, ByteArray.data_append]
        simp)
      have hs1 : (⟨(allN c i).toArray⟩ : ByteArray).size ≤ 1000 := by
        show (allN c i).toArray.size ≤ _
        rw [List.size_toArray, HLN.out i]; omega
      have hs2 : (⟨(decDigits (ga c i)).toArray⟩ : ByteArray).size = nDigits (ga c i) := by
        show (decDigits (ga c i)).toArray.size = _
        rw [List.size_toArray, hln]
      have hs3 : (⟨(List.replicate (18 - (decDigits (ga c i)).length) (48 : UInt8)).toArray⟩ : ByteArray).size ≤ 18 := by
        show (List.replicate (18 - (decDigits (ga c i)).length) (48 : UInt8)).toArray.size ≤ _
        rw [List.size_toArray, List.length_replicate]; omega
      rw [hln] at c2 HNX hs3
      have hz : (18 : Int) - (nDigits (ga c i) : Int) = ((18 - nDigits (ga c i) : Nat) : Int) := by omega
      clear hu hln
      generalize (⟨(decDigits (ga c i)).toArray⟩ : ByteArray) = D at *
      generalize (⟨(allN c i).toArray⟩ : ByteArray) = A at *
      generalize (⟨(List.replicate (18 - nDigits (ga c i)) (48 : UInt8)).toArray⟩ : ByteArray) = R at *
      generalize nDigits (ga c i) = n at *
      have hsa : ¬ (9223372036854775807 < R.size + D.size) := by omega
      have hsb : ¬ (9223372036854775807 < (R ++ D).size + A.size) := by rw [ByteArray.size_append]; omega
      go_wp2_with fail
      refine c1.mono ?_
      rintro e w1 ⟨rfl, hb1⟩
      have c3 := c2 w1
      have HB1 := hideP (HB.out.trans (hb1.mono HB.out.size))
      clear c1 c2 hb1 hix
      go_wp2_with fail
      refine c3.mono ?_
      rintro e w2 ⟨rfl, hb2⟩
      have HB2 := hideP (HB1.out.trans (hb2.mono HB1.out.size))
      clear c3 hb2
      go_wp2_with fail
      go_roundw
      case rel => exact ⟨i + 1, by omega, by go_num, by rw [HNX.out], HB2.out⟩
      case measure => simp [intOf]; omega
    · have hltz : ¬ (i : Int) < 9 := by omega
      obtain rfl : i = 9 := by omega
      have hsz : (⟨(allN c 9).toArray⟩ : ByteArray).size ≤ 1000 := by
        show (allN c 9).toArray.size ≤ _
        rw [List.size_toArray, HLN.out 9]; omega
      have c1 := trimZ_any ⟨(allN c 9).toArray⟩ wr
      have e1 : (⟨(allN c 9).toArray⟩ : ByteArray).data.toList = allN c 9 := rfl
      rw [e1] at c1
      have hst := trim_le (allN c 9) [48]
      have hs2 : (⟨(trimLeftS (allN c 9) [48]).toArray⟩ : ByteArray).size ≤ 1000 := by
        show (trimLeftS (allN c 9) [48]).toArray.size ≤ _
        rw [List.size_toArray]
        have := HLN.out 9
        omega
      have HD := hideP (show decS c = if trimLeftS (allN c 9) [48] = [] then [48] else trimLeftS (allN c 9) [48] from rfl)
      clear e1 hst HLN HGL HIX HB0
      generalize trimLeftS (allN c 9) [48] = T at *
      by_cases hT : T = []
      · subst hT
        go_wp2_with fail
        refine c1.mono ?_
        rintro e w1 ⟨rfl, hb1⟩
        have HB1 := hideP (HB.out.trans (hb1.mono HB.out.size))
        clear c1 hb1
        go_wp2_with fail
        go_ret
        exact ⟨by rw [HD.out]; rfl, HB1.out⟩
      · have hne : (⟨T.toArray⟩ : ByteArray).toList.isEmpty = false := by
          rw [ByteArray.toList_eq]
          cases T with
          | nil => exact absurd rfl hT
          | cons a T => rfl
        have HE := hideP (show (if T = [] then [48] else T) = T from if_neg hT)
        clear hT
        have c2 := fun w1 => cloneG_any ⟨T.toArray⟩ w1 (by omega)
        generalize hTT : (⟨T.toArray⟩ : ByteArray) = S at *
        have HS := hideP hTT
        clear hTT
        go_wp2_with fail
        refine c1.mono ?_
        rintro e w1 ⟨rfl, hb1⟩
        have HB1 := hideP (HB.out.trans (hb1.mono HB.out.size))
        have c3 := c2 w1
        clear c1 c2 hb1
        go_wp2_with fail
        refine c3.mono ?_
        rintro e w2 ⟨rfl, hb2⟩
        have HB2 := hideP (HB1.out.trans (hb2.mono HB1.out.size))
        clear c3 hb2
        go_wp2_with fail
        go_ret
        exact ⟨by rw [HD.out, HE.out]; exact congrArg (fun x => Ending.returned (.string x)) HS.out.symm, HB2.out⟩
end Go.Proofs.YtnedgkcejlhnbaaDoor
/-
  A region that draws its order and ends with one store: what is read may be read first, though the store changes it; for nothing is left to be read behind the store.
-/
namespace Go.Proofs.YtnedgkcejlhnbaaDoor

section
variable {P : Program} {ops : Array Oper} {Q : Exit → Act → World → Prop} {md : Region.Mode} {S : World → Prop} {stop : Nat}

/-- whatever order is drawn: S holds behind each operation but the last one, number 'stop' -/
def wpUpto (P : Program) (md : Region.Mode) (ops : Array Oper) (Q : Exit → Act → World → Prop) (S : World → Prop) (stop : Nat) : Nat → Array Bool → Act → World → Prop
  | 0, done, a, w => Region.ready md ops done = [] ∧ Q .normal a w
  | n + 1, done, a, w => (Region.ready md ops done = [] → Q .normal a w) ∧
    ∀ i ∈ Region.ready md ops done, wpOp P ops Q i (fun a' w' => (i ≠ stop → S w') ∧ wpUpto P md ops Q S stop n (done.setIfInBounds i true) a' w') a w
theorem wpAny_of_upto : ∀ (n : Nat) (done : Array Bool) (a : Act) (w : World), wpUpto P md ops Q S stop n done a w → wpAny P md ops Q n done a w
  | 0, _, _, _, h => h
  | n + 1, _, _, _, h => ⟨h.1, fun i hi => wpOp_mono (fun a' w' h' => wpAny_of_upto n _ a' w' h'.2) (h.2 i hi)⟩
/-- the last one waits for number i -/
def waitsB (md : Region.Mode) (ops : Array Oper) (stop i : Nat) : Bool := match ops[stop]? with
  | some o => o.after.any fun e => Region.binds md e && decide (e.on = i)
  | none => false
theorem not_stop {done : Array Bool} {i j : Nat} (hw : waitsB md ops stop i = true) (hi : i ∈ Region.ready md ops done) (hj : j ∈ Region.ready md ops done) : j ≠ stop := by
  rintro rfl
  obtain ⟨_, o, ho, hall⟩ := mem_ready.1 hj
  unfold waitsB at hw
  rw [ho] at hw
  obtain ⟨k, hk, _, _, hb⟩ := Array.any_iff_exists.1 hw
  rw [Bool.and_eq_true, decide_eq_true_eq] at hb
  have h1 := hall _ (Array.getElem_mem hk) hb.1
  have h0 := (mem_ready.1 hi).1
  rw [hb.2] at h1
  rcases Nat.lt_or_ge i done.size with h' | h'
  · simp [h'] at h0 h1; rw [h0] at h1; cases h1
  · simp [Array.getElem?_eq_none h'] at h1
/-- what yields its value wherever S holds, and for which the last one waits, may be taken first -/
theorem upto_first {i : Nat} {oi : Oper} {v : Value} (hi : ops[i]? = some oi) (hsel : ∀ (j : Nat) (o : Oper) cs b, ops[j]? = some o → o.op ≠ .select cs b) (hQ : ∀ c a w, Q (.panic c) (a.put oi.dst v) w → Q (.panic c) a w) (hst : waitsB md ops stop i = true) :
    ∀ (n : Nat) (done : Array Bool) (a : Act) (w : World), (∀ j oj, ops[j]? = some oj → j ≠ i → done.getD j true = false → (∀ e ∈ oj.after, Region.binds md e = true → e.on ≠ i) → oi.apart ops oj = true) →
      i ∈ Region.ready md ops done → YieldsIf P ops S oi v a → S w → wpUpto P md ops Q S stop n (done.setIfInBounds i true) (a.put oi.dst v) w → wpUpto P md ops Q S stop (n + 1) done a w := by
  intro n
  induction n with
  | zero =>
    intro done a w _ hr hy hS H
    refine ⟨fun h => (by rw [h] at hr; cases hr), fun j hj => ?_⟩
    by_cases hji : j = i
    · subst hji; exact hy.wpOp hi hS ⟨fun _ => hS, H⟩
    · have := ready_mono hj hji
      rw [H.1] at this
      cases this
  | succ n ih =>
    intro done a w hfree hr hy hS H
    refine ⟨fun h => (by rw [h] at hr; cases hr), fun j hj => ?_⟩
    by_cases hji : j = i
    · subst hji; exact hy.wpOp hi hS ⟨fun _ => hS, H⟩
    · have hjs := not_stop hst hr hj
      obtain ⟨hjun, oj, hoj, hall⟩ := mem_ready.1 hj
      have hnot : ∀ e ∈ oj.after, Region.binds md e = true → e.on ≠ i := fun e he hb q => by
        have h1 := hall e he hb
        have h0 := (mem_ready.1 hr).1
        rw [q] at h1
        rcases Nat.lt_or_ge i done.size with h' | h'
        · simp [h'] at h0 h1; rw [h0] at h1; cases h1
        · simp [Array.getElem?_eq_none h'] at h1
      have h2 := wpOp_putIf hoj (hfree j oj hoj hji hjun hnot) (fun cs b => hsel i oi cs b hi) (fun cs b => hsel j oj cs b hoj) hQ hy (H.2 j (ready_mono hj hji))
      refine wpOp_mono (fun a' w' h3 => ⟨h3.2.1, ih (done.setIfInBounds j true) a' w' (fun k ok hk hki hun hno => hfree k ok hk hki (by
        by_cases hjk : j = k
        · subst hjk; exact hjun
        · rw [getD_set_ne true hjk] at hun; exact hun) hno) (ready_mono hr (Ne.symm hji)) h3.1 (h3.2.1 hjs) ?_⟩) h2
      rw [Array.setIfInBounds_comm _ _ hji]
      exact h3.2.2
theorem upto_take {i : Nat} {oi : Oper} {v : Value} {n : Nat} {done : Array Bool} {a : Act} {w : World} (hi : ops[i]? = some oi) (hs : Region.noSelect ops = true) (hf : Region.free md ops done i = true) (hr : (Region.ready md ops done).contains i = true) (hst : waitsB md ops stop i = true)
    (hQ : ∀ c a w, Q (.panic c) (a.put oi.dst v) w → Q (.panic c) a w) (hy : YieldsIf P ops S oi v a) (hS : S w) (h : wpUpto P md ops Q S stop n (done.setIfInBounds i true) (a.put oi.dst v) w) : wpUpto P md ops Q S stop (n + 1) done a w :=
  upto_first hi (Region.noSelect_spec hs) hQ hst n done a w (Region.free_spec hi hf) (by simpa using hr) hy hS h
theorem upto_one {n : Nat} {done : Array Bool} {a : Act} {w : World} (i : Nat) {o : Oper} (ho : ops[i]? = some o) (hr : Region.ready md ops done = [i])
    (h : ∀ K' : Act → World → Prop, Shut (∀ a w, S w → (S w → wpUpto P md ops Q S stop n (done.setIfInBounds i true) a w) → K' a w) → if Region.wanted o (yielded ops a.tmps) = true then Oper.wp P o a w K' Q else K' (a.put o.dst undef) w) : wpUpto P md ops Q S stop (n + 1) done a w := by
  refine ⟨fun q => absurd (hr.symm.trans q) (by simp), fun j hj => ?_⟩
  rw [hr, List.mem_singleton] at hj
  subst hj
  exact wpOp_step ho fun K' hK => h K' fun a w hS hW => hK a w ⟨fun _ => hS, hW hS⟩
theorem upto_last {n : Nat} {done : Array Bool} {a : Act} {w : World} {o : Oper} (ho : ops[stop]? = some o) (hr : Region.ready md ops done = [stop])
    (h : ∀ K' : Act → World → Prop, Shut (∀ a w, wpUpto P md ops Q S stop n (done.setIfInBounds stop true) a w → K' a w) → if Region.wanted o (yielded ops a.tmps) = true then Oper.wp P o a w K' Q else K' (a.put o.dst undef) w) : wpUpto P md ops Q S stop (n + 1) done a w := by
  refine ⟨fun q => absurd (hr.symm.trans q) (by simp), fun j hj => ?_⟩
  rw [hr, List.mem_singleton] at hj
  subst hj
  exact wpOp_step ho fun K' hK => h K' fun a w hW => hK a w ⟨fun q => absurd rfl q, hW⟩
theorem upto_done {done : Array Bool} {a : Act} {w : World} (hr : Region.ready md ops done = []) (h : Q .normal a w) : ∀ n, wpUpto P md ops Q S stop n done a w
  | 0 => ⟨hr, h⟩
  | _ + 1 => ⟨fun _ => h, by rw [hr]; simp⟩
theorem wp_region_upto {id : Nat} {a : Act} {w : World} (S : World → Prop) (stop : Nat) (hm : P.follows .mixedOrders = true) (hS : S w.drew) (h : S w.drew → wpUpto P .any ops Q S stop ops.size (Array.replicate ops.size false) a w.drew) : (Code.region id ops true).wp P Q a w :=
  wp_region_any hm (wpAny_of_upto _ _ _ _ (h hS))
end
end Go.Proofs.YtnedgkcejlhnbaaDoor
