/-
  Contracts of strings.TrimLeft, FormatBool and FormatInt. Conditions: none.
-/
import Derived.Test.YtfmegfgmkeicnaaDoorProg
import Derived.Ground.NamesProg
import Derived.Shelf.LaysM
import Derived.Shelf.Small.Wraps
import Derived.Shelf.Strconv.Itoa4
import Derived.Shelf.Strings.SlTrimAscii
import Derived.Test.YtfmegfgmkeicnaaDoorNa
import Derived.Test.YtfmegfgmkeicnaaDoorXa
namespace Go.Proofs
open Go.Shelf
def Tryd.lays161_ren : Go.Shelf.Ren := ⟨fun | 161 => 123 | 231 => 136 | 227 => 137 | 233 => 138 | 235 => 139 | 228 => 145 | 197 => 89 | 151 => 146 | 260 => 119 | 152 => 147 | 137 => 148 | 119 => 149 | 224 => 134 | 225 => 133 | 217 => 132 | 266 => 143 | n => n, fun | 9 => 9 | 4 => 4 | 3 => 3 | 5 => 5 | 117 => 174 | 116 => 173 | 0 => 0 | 124 => 177 | 105 => 122 | 21 => 21 | 119 => 167 | 46 => 80 | 139 => 170 | 138 => 169 | n => n, fun | 3 => 1 | 4 => 2 | n => n⟩
theorem Tryd.lays161 : Go.Proofs.Lays.n161 Tryd.prog Tryd.lays161_ren := {
  mixed := by kernel_rfl
  f119 := Tryd.func149.trans (congrArg some (by kernel_rfl))
  f137 := Tryd.func148.trans (congrArg some (by kernel_rfl))
  f151 := Tryd.func146.trans (congrArg some (by kernel_rfl))
  f152 := Tryd.func147.trans (congrArg some (by kernel_rfl))
  f161 := Tryd.func123.trans (congrArg some (by kernel_rfl))
  f197 := Tryd.func89.trans (congrArg some (by kernel_rfl))
  f217 := Tryd.func132.trans (congrArg some (by kernel_rfl))
  f224 := Tryd.func134.trans (congrArg some (by kernel_rfl))
  f225 := Tryd.func133.trans (congrArg some (by kernel_rfl))
  f227 := Tryd.func137.trans (congrArg some (by kernel_rfl))
  f228 := Tryd.func145.trans (congrArg some (by kernel_rfl))
  f231 := Tryd.func136.trans (congrArg some (by kernel_rfl))
  f233 := Tryd.func138.trans (congrArg some (by kernel_rfl))
  f235 := Tryd.func139.trans (congrArg some (by kernel_rfl))
  f260 := Tryd.func119.trans (congrArg some (by kernel_rfl))
  f266 := Tryd.func143.trans (congrArg some (by kernel_rfl))
  t0 := Tryd.underlying0
  a0 := Tryd.isAgg0
  z0 := Tryd.sizeOf0
  v0 := Tryd.zeroValue0
  t3 := Tryd.underlying3
  a3 := Tryd.isAgg3
  z3 := Tryd.sizeOf3
  v3 := Tryd.zeroValue3
  t4 := Tryd.underlying4
  a4 := Tryd.isAgg4
  z4 := Tryd.sizeOf4
  v4 := Tryd.zeroValue4
  t5 := Tryd.underlying5
  a5 := Tryd.isAgg5
  z5 := Tryd.sizeOf5
  v5 := Tryd.zeroValue5
  t9 := Tryd.underlying9
  a9 := Tryd.isAgg9
  z9 := Tryd.sizeOf9
  v9 := Tryd.zeroValue9
  t21 := Tryd.underlying21
  a21 := Tryd.isAgg21
  z21 := Tryd.sizeOf21
  v21 := Tryd.zeroValue21
  t46 := Tryd.underlying80
  a46 := Tryd.isAgg80
  z46 := Tryd.sizeOf80
  v46 := Tryd.zeroValue80
  t105 := Tryd.underlying122
  a105 := Tryd.isAgg122
  z105 := Tryd.sizeOf122
  v105 := Tryd.zeroValue122
  t116 := Tryd.underlying173
  a116 := Tryd.isAgg173
  z116 := Tryd.sizeOf173
  t117 := Tryd.underlying174
  a117 := Tryd.isAgg174
  z117 := Tryd.sizeOf174
  v117 := Tryd.zeroValue174
  t119 := Tryd.underlying167
  a119 := Tryd.isAgg167
  z119 := Tryd.sizeOf167
  t124 := Tryd.underlying177
  a124 := Tryd.isAgg177
  z124 := Tryd.sizeOf177
  v124 := Tryd.zeroValue177
  t138 := Tryd.underlying169
  a138 := Tryd.isAgg169
  z138 := Tryd.sizeOf169
  v138 := Tryd.zeroValue169
  t139 := Tryd.underlying170
  a139 := Tryd.isAgg170
  z139 := Tryd.sizeOf170
  v139 := Tryd.zeroValue170
  g3 := by kernel_rfl
  g4 := by kernel_rfl }
end Go.Proofs
/-
  The contracts of pieces.Leading and exprs.IsName, each for every input.
-/
namespace Go.Proofs.YtfmegfgmkeicnaaDoor
open Go.RowKit Go.Shelf

/-- how many such bytes stand first -/
def lead (p : UInt8 → Bool) : List UInt8 → Nat
  | [] => 0
  | c :: l => if p c then lead p l + 1 else 0
theorem lead_le (p : UInt8 → Bool) : ∀ l, lead p l ≤ l.length
  | [] => Nat.le_refl _
  | c :: l => by unfold lead; split <;> simp; exact lead_le p l
theorem lead_at (p : UInt8 → Bool) : ∀ (l : List UInt8) (k : Nat) (h : k < l.length), (∀ i (hi : i < k), p l[i] = true) → p l[k] = false → lead p l = k
  | c :: l, 0, _, _, h => by unfold lead; rw [if_neg (by simpa using h)]
  | c :: l, k + 1, hk, ha, h => by
    unfold lead
    rw [if_pos (show p c = true from ha 0 (by omega)), lead_at p l k (by simpa using hk) (fun i hi => by simpa using ha (i + 1) (by omega)) (by simpa using h)]
theorem lead_all (p : UInt8 → Bool) : ∀ (l : List UInt8), (∀ i (hi : i < l.length), p l[i] = true) → lead p l = l.length
  | [], _ => rfl
  | c :: l, ha => by
    unfold lead
    rw [if_pos (show p c = true from ha 0 (by simp)), lead_all p l (fun i hi => ha (i + 1) (by simpa using hi))]; rfl
theorem lead_iff (p : UInt8 → Bool) : ∀ (l : List UInt8), lead p l = l.length ↔ l.all p = true
  | [] => by simp [lead]
  | c :: l => by
    have := lead_iff p l
    unfold lead
    cases hp : p c
    · simp [hp]
    · simp [hp, ← this]

/-- the letters a to z -/
def lows : ByteArray := ⟨#[97, 98, 99, 100, 101, 102, 103, 104, 105, 106, 107, 108, 109, 110, 111, 112, 113, 114, 115, 116, 117, 118, 119, 120, 121, 122]⟩
set_option maxRecDepth 100000 in
theorem lows_has (c : UInt8) : lows.data.toList.contains c = isLow c := by
  have h : ∀ n : Fin 256, lows.data.toList.contains (UInt8.ofNat n.val) = isLow (UInt8.ofNat n.val) := by decide
  have := h ⟨c.toNat, c.toNat_lt⟩
  rwa [show UInt8.ofNat c.toNat = c from UInt8.ofNat_toNat] at this
theorem trim_lead (cs : List UInt8) : ∀ l : List UInt8, Lib.trimLeftS l cs = l.drop (lead (fun c => cs.contains c) l)
  | [] => rfl
  | c :: l => by
    have ih := trim_lead cs l
    unfold Lib.trimLeftS at ih ⊢
    unfold lead
    rw [List.dropWhile_cons]
    cases h : cs.contains c
    · simp
    · simpa using ih
theorem lead_congr (p q : UInt8 → Bool) (h : ∀ c, p c = q c) (l : List UInt8) : lead p l = lead q l := by rw [show p = q from funext h]
theorem two_beq (s t : ByteArray) : (s.toList == t.toList) = decide (s = t) := by
  rw [Bool.eq_iff_iff, ByteArray.toList_eq, ByteArray.toList_eq]
  simp
  constructor
  · intro h; exact ByteArray.ext h
  · rintro rfl; rfl
theorem info256 : (Tryd.prog.info? (Tryd.lays161_ren.t 116)).map (fun i => (i.zero, i.size)) = some (some (.agg (Array.replicate 256 (.bool false))), 256) := by kernel_rfl

set_option maxHeartbeats 400000 in
theorem leading_any (s cs : ByteArray) (w : World) (hs : s.size ≤ 9223372036854775807) (hcs : cs.size < 4294967281) (ha : cs.data.toList.all (fun b => decide (b.toNat < 128)) = true) :
    Calls Tryd.prog 94 #[.string s, .string cs] w fun e w' => e = .returned (.string (s.extract 0 (lead (fun c => cs.data.toList.contains c) s.data.toList))) ∧ Below w.heap.size w w' := by
  have cT : Calls Tryd.prog 123 #[.string s, .string cs] w fun e w' => e = .returned (.string ⟨(Lib.trimLeftS s.data.toList cs.data.toList).toArray⟩) ∧ Below w.heap.size w w' := Any.strings_TrimLeft_laid Tryd.lays161 info256 s cs w hcs (ascii_of_all ha)
  have hle := lead_le (fun c => cs.data.toList.contains c) s.data.toList
  have hsz : (⟨(Lib.trimLeftS s.data.toList cs.data.toList).toArray⟩ : ByteArray).size = s.size - lead (fun c => cs.data.toList.contains c) s.data.toList := by
    rw [trim_lead]; show ((s.data.toList.drop _).toArray).size = _
    rw [List.size_toArray, List.length_drop, Array.length_toList]; rfl
  generalize lead (fun c => cs.data.toList.contains c) s.data.toList = k at hle hsz ⊢
  generalize (⟨(Lib.trimLeftS s.data.toList cs.data.toList).toArray⟩ : ByteArray) = t at cT hsz
  have hk : k ≤ s.size := by simpa using hle
  have htz : (t.size : Int) ≤ (s.size : Int) := by omega
  have hkz : (s.size : Int) - (t.size : Int) = (k : Int) := by omega
  clear hle hcs ha
  go_enter Tryd.func94, Tryd.ntmps94
  go_wp2_with fail
  refine cT.mono ?_
  rintro e w1 ⟨rfl, hb⟩
  go_wp2_with fail
  go_ret
  refine ⟨?_, hb⟩
  show Ending.returned (Value.string (s.extract 0 (s.size - (s.size - k)))) = _
  rw [show s.size - (s.size - k) = k by omega]

theorem isNm_no (l : List UInt8) (h : l = [116, 114, 117, 101] ∨ l = [102, 97, 108, 115, 101] ∨ l = [97, 110, 100] ∨ l = [111, 114] ∨ l = [110, 111, 116]) : isNm l = false := by unfold isNm; rw [if_pos h]
theorem isNm_yes (l : List UInt8) (h : ¬ (l = [116, 114, 117, 101] ∨ l = [102, 97, 108, 115, 101] ∨ l = [97, 110, 100] ∨ l = [111, 114] ∨ l = [110, 111, 116])) : isNm l = (decide (1 ≤ l.length ∧ l.length ≤ 8) && l.all isLow) := by unfold isNm; rw [if_neg h]
set_option maxHeartbeats 400000 in
theorem isName_any (s : ByteArray) (w : World) (hs : s.size ≤ 9223372036854775807) :
    Calls Tryd.prog 95 #[.string s] w fun e w' => e = .returned (.bool (isNm s.data.toList)) ∧ Below w.heap.size w w' := by
  have hlen : s.data.toList.length = s.size := by simp
  by_cases hkw : s.data.toList = [116, 114, 117, 101] ∨ s.data.toList = [102, 97, 108, 115, 101] ∨ s.data.toList = [97, 110, 100] ∨ s.data.toList = [111, 114] ∨ s.data.toList = [110, 111, 116]
  · rw [isNm_no _ hkw]
    clear hlen
    have e : ∀ l, s.data.toList = l → s = ⟨l.toArray⟩ := fun l h => ByteArray.ext (Array.toList_inj.1 (by simpa using h))
    rcases hkw with h | h | h | h | h
    all_goals
      have := e _ h
      subst this
      clear h e hs
      go_enter Tryd.func95, Tryd.ntmps95
      go_wp2_with fail
      go_ret
      exact ⟨rfl, Below.refl _ _⟩
  · rw [isNm_yes _ hkw, hlen]
    have b1 : (s.toList == [116, 114, 117, 101]) = false := by rw [beqL]; simp; exact fun h => hkw (.inl h)
    have b2 : (s.toList == [102, 97, 108, 115, 101]) = false := by rw [beqL]; simp; exact fun h => hkw (.inr (.inl h))
    have b3 : (s.toList == [97, 110, 100]) = false := by rw [beqL]; simp; exact fun h => hkw (.inr (.inr (.inl h)))
    have b4 : (s.toList == [111, 114]) = false := by rw [beqL]; simp; exact fun h => hkw (.inr (.inr (.inr (.inl h))))
    have b5 : (s.toList == [110, 111, 116]) = false := by rw [beqL]; simp; exact fun h => hkw (.inr (.inr (.inr (.inr h))))
    clear hkw
    by_cases h1 : 1 ≤ s.size
    · by_cases h2 : s.size ≤ 8
      · have z1 : (1 : Int) ≤ (s.size : Int) := by omega
        have z2 : (s.size : Int) ≤ 8 := by omega
        have cL := leading_any s lows w hs (by decide) (by decide)
        rw [lead_congr _ isLow lows_has] at cL
        have hle := lead_le isLow s.data.toList
        have hiff := lead_iff isLow s.data.toList
        rw [hlen] at hle hiff
        generalize s.data.toList.all isLow = g at hiff ⊢
        generalize lead isLow s.data.toList = k at cL hle hiff
        have hg : ((s.extract 0 k).toList == s.toList) = g := by
          rw [two_beq, Bool.eq_iff_iff, ← hiff, decide_eq_true_eq]
          constructor
          · intro h; have := congrArg ByteArray.size h; simp at this; omega
          · intro h; subst h; exact ByteArray.extract_zero_size
        generalize s.extract 0 k = t at cL hg
        clear hiff hlen hle
        rw [show (decide (1 ≤ s.size ∧ s.size ≤ 8) && g) = g by simp [h1, h2]]
        simp only [lows] at cL
        have HG : Hid ((t.toList == s.toList) = g) := hg
        clear hg
        go_enter Tryd.func95, Tryd.ntmps95
        go_wp2_with (go_at_call 94; refine cL.mono ?_; rintro e w1 ⟨rfl, hb⟩)
        go_ret
        exact ⟨by rw [← HG.out]; rfl, hb⟩
      · have z1 : (1 : Int) ≤ (s.size : Int) := by omega
        have z2 : ¬ (s.size : Int) ≤ 8 := by omega
        rw [show (decide (1 ≤ s.size ∧ s.size ≤ 8) && s.data.toList.all isLow) = false by simp [h2]]
        clear hlen
        go_enter Tryd.func95, Tryd.ntmps95
        go_wp2_with fail
        go_ret
        exact ⟨rfl, Below.refl _ _⟩
    · have z1 : ¬ (1 : Int) ≤ (s.size : Int) := by omega
      rw [show (decide (1 ≤ s.size ∧ s.size ≤ 8) && s.data.toList.all isLow) = false by simp [h1]]
      clear hlen
      go_enter Tryd.func95, Tryd.ntmps95
      go_wp2_with fail
      go_ret
      exact ⟨rfl, Below.refl _ _⟩
end Go.Proofs.YtfmegfgmkeicnaaDoor
