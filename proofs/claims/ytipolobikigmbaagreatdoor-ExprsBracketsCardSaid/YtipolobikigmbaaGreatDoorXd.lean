/-
  Contracts of the library, laid at this program in plain words. Conditions: none.
-/
import Derived.Test.YtipolobikigmbaaGreatDoorProg
import Derived.Ground.NamesProg
import Derived.Shelf.LaysM
import Derived.Shelf.Small.Wraps
import Derived.Shelf.Strconv.Itoa4
import Derived.Shelf.Strings.SlTrimAscii
import Derived.Test.YtipolobikigmbaaGreatDoorOm
import Derived.Test.YtipolobikigmbaaGreatDoorXa
namespace Go.Proofs
open Go.Shelf
def Tryz.lays121_ren : Go.Shelf.Ren := ⟨fun | 121 => 93 | 214 => 129 | n => n, fun | 4 => 4 | 9 => 9 | n => n, fun | n => n⟩
theorem Tryz.lays121 : Go.Proofs.Lays.n121 Tryz.prog Tryz.lays121_ren := {
  mixed := by kernel_rfl
  f121 := Tryz.func93.trans (congrArg some (by kernel_rfl))
  f214 := Tryz.func129.trans (congrArg some (by kernel_rfl))
  t4 := Tryz.underlying4
  a4 := Tryz.isAgg4
  z4 := Tryz.sizeOf4
  v4 := Tryz.zeroValue4
  t9 := Tryz.underlying9
  a9 := Tryz.isAgg9
  z9 := Tryz.sizeOf9
  v9 := Tryz.zeroValue9 }
def Tryz.laysM173_ren : Go.Shelf.Ren := ⟨fun | 173 => 92 | 246 => 128 | 283 => 165 | 284 => 166 | 285 => 167 | 286 => 168 | 129 => 184 | 317 => 183 | 318 => 185 | 319 => 186 | 320 => 187 | 337 => 193 | 338 => 194 | n => n, fun | 2 => 2 | 3 => 3 | 9 => 9 | 4 => 4 | 171 => 175 | 0 => 0 | 53 => 111 | 37 => 50 | 5 => 5 | 173 => 178 | 212 => 195 | 51 => 108 | 20 => 20 | 213 => 196 | 46 => 83 | 232 => 211 | 233 => 212 | n => n, fun | 17 => 3 | 18 => 4 | 19 => 5 | n => n⟩
theorem Tryz.laysM173 : Go.Proofs.LaysM.n173 Tryz.prog Tryz.laysM173_ren := {
  mixed := by kernel_rfl
  f129 := Tryz.func184.trans (congrArg some (by kernel_rfl))
  f173 := Tryz.func92.trans (congrArg some (by kernel_rfl))
  f246 := Tryz.func128.trans (congrArg some (by kernel_rfl))
  f283 := Tryz.func165.trans (congrArg some (by kernel_rfl))
  f284 := Tryz.func166.trans (congrArg some (by kernel_rfl))
  f285 := Tryz.func167.trans (congrArg some (by kernel_rfl))
  f286 := Tryz.func168.trans (congrArg some (by kernel_rfl))
  f317 := Tryz.func183.trans (congrArg some (by kernel_rfl))
  f318 := Tryz.func185.trans (congrArg some (by kernel_rfl))
  f319 := Tryz.func186.trans (congrArg some (by kernel_rfl))
  f320 := Tryz.func187.trans (congrArg some (by kernel_rfl))
  f337 := Tryz.func193.trans (congrArg some (by kernel_rfl))
  f338 := Tryz.func194.trans (congrArg some (by kernel_rfl))
  t0 := Tryz.underlying0
  a0 := Tryz.isAgg0
  z0 := Tryz.sizeOf0
  v0 := Tryz.zeroValue0
  t2 := Tryz.underlying2
  a2 := Tryz.isAgg2
  z2 := Tryz.sizeOf2
  v2 := Tryz.zeroValue2
  t3 := Tryz.underlying3
  a3 := Tryz.isAgg3
  z3 := Tryz.sizeOf3
  v3 := Tryz.zeroValue3
  t4 := Tryz.underlying4
  a4 := Tryz.isAgg4
  z4 := Tryz.sizeOf4
  v4 := Tryz.zeroValue4
  t5 := Tryz.underlying5
  a5 := Tryz.isAgg5
  z5 := Tryz.sizeOf5
  v5 := Tryz.zeroValue5
  t9 := Tryz.underlying9
  a9 := Tryz.isAgg9
  z9 := Tryz.sizeOf9
  v9 := Tryz.zeroValue9
  t20 := Tryz.underlying20
  a20 := Tryz.isAgg20
  z20 := Tryz.sizeOf20
  v20 := Tryz.zeroValue20
  t37 := Tryz.underlying50
  a37 := Tryz.isAgg50
  z37 := Tryz.sizeOf50
  v37 := Tryz.zeroValue50
  t46 := Tryz.underlying83
  a46 := Tryz.isAgg83
  z46 := Tryz.sizeOf83
  v46 := Tryz.zeroValue83
  t51 := Tryz.underlying108
  a51 := Tryz.isAgg108
  z51 := Tryz.sizeOf108
  v51 := Tryz.zeroValue108
  t53 := Tryz.underlying111
  a53 := Tryz.isAgg111
  z53 := Tryz.sizeOf111
  v53 := Tryz.zeroValue111
  t171 := Tryz.underlying175
  a171 := Tryz.isAgg175
  z171 := Tryz.sizeOf175
  v171 := Tryz.zeroValue175
  t173 := Tryz.underlying178
  a173 := Tryz.isAgg178
  z173 := Tryz.sizeOf178
  v173 := Tryz.zeroValue178
  t212 := Tryz.underlying195
  a212 := Tryz.isAgg195
  z212 := Tryz.sizeOf195
  v212 := Tryz.zeroValue195
  t213 := Tryz.underlying196
  a213 := Tryz.isAgg196
  z213 := Tryz.sizeOf196
  t232 := Tryz.underlying211
  a232 := Tryz.isAgg211
  z232 := Tryz.sizeOf211
  v232 := Tryz.zeroValue211
  t233 := Tryz.underlying212
  a233 := Tryz.isAgg212
  z233 := Tryz.sizeOf212
  v233 := Tryz.zeroValue212
  g17 := by kernel_rfl
  g18 := by kernel_rfl
  g19 := by kernel_rfl
  i0 := by kernel_rfl
  i2 := by kernel_rfl
  i3 := by kernel_rfl
  i4 := by kernel_rfl
  i5 := by kernel_rfl
  i9 := by kernel_rfl
  i20 := by kernel_rfl
  i37 := by kernel_rfl
  i46 := by kernel_rfl
  i51 := by kernel_rfl
  i53 := by kernel_rfl
  i171 := by kernel_rfl
  i173 := by kernel_rfl
  i212 := by kernel_rfl
  i232 := by kernel_rfl
  i233 := by kernel_rfl
  m17 := by kernel_rfl
  m18 := by kernel_rfl
  m19 := by kernel_rfl }
def Tryz.lays161_ren : Go.Shelf.Ren := ⟨fun | 161 => 110 | 231 => 148 | 227 => 149 | 233 => 150 | 235 => 151 | 228 => 174 | 197 => 175 | 151 => 176 | 260 => 190 | 152 => 191 | 137 => 198 | 119 => 199 | 224 => 200 | 225 => 201 | 217 => 207 | 266 => 212 | n => n, fun | 9 => 9 | 4 => 4 | 3 => 3 | 5 => 5 | 117 => 168 | 116 => 167 | 0 => 0 | 124 => 171 | 105 => 183 | 21 => 21 | 119 => 189 | 46 => 83 | 139 => 192 | 138 => 191 | n => n, fun | 3 => 1 | 4 => 2 | n => n⟩
theorem Tryz.lays161 : Go.Proofs.Lays.n161 Tryz.prog Tryz.lays161_ren := {
  mixed := by kernel_rfl
  f119 := Tryz.func199.trans (congrArg some (by kernel_rfl))
  f137 := Tryz.func198.trans (congrArg some (by kernel_rfl))
  f151 := Tryz.func176.trans (congrArg some (by kernel_rfl))
  f152 := Tryz.func191.trans (congrArg some (by kernel_rfl))
  f161 := Tryz.func110.trans (congrArg some (by kernel_rfl))
  f197 := Tryz.func175.trans (congrArg some (by kernel_rfl))
  f217 := Tryz.func207.trans (congrArg some (by kernel_rfl))
  f224 := Tryz.func200.trans (congrArg some (by kernel_rfl))
  f225 := Tryz.func201.trans (congrArg some (by kernel_rfl))
  f227 := Tryz.func149.trans (congrArg some (by kernel_rfl))
  f228 := Tryz.func174.trans (congrArg some (by kernel_rfl))
  f231 := Tryz.func148.trans (congrArg some (by kernel_rfl))
  f233 := Tryz.func150.trans (congrArg some (by kernel_rfl))
  f235 := Tryz.func151.trans (congrArg some (by kernel_rfl))
  f260 := Tryz.func190.trans (congrArg some (by kernel_rfl))
  f266 := Tryz.func212.trans (congrArg some (by kernel_rfl))
  t0 := Tryz.underlying0
  a0 := Tryz.isAgg0
  z0 := Tryz.sizeOf0
  v0 := Tryz.zeroValue0
  t3 := Tryz.underlying3
  a3 := Tryz.isAgg3
  z3 := Tryz.sizeOf3
  v3 := Tryz.zeroValue3
  t4 := Tryz.underlying4
  a4 := Tryz.isAgg4
  z4 := Tryz.sizeOf4
  v4 := Tryz.zeroValue4
  t5 := Tryz.underlying5
  a5 := Tryz.isAgg5
  z5 := Tryz.sizeOf5
  v5 := Tryz.zeroValue5
  t9 := Tryz.underlying9
  a9 := Tryz.isAgg9
  z9 := Tryz.sizeOf9
  v9 := Tryz.zeroValue9
  t21 := Tryz.underlying21
  a21 := Tryz.isAgg21
  z21 := Tryz.sizeOf21
  v21 := Tryz.zeroValue21
  t46 := Tryz.underlying83
  a46 := Tryz.isAgg83
  z46 := Tryz.sizeOf83
  v46 := Tryz.zeroValue83
  t105 := Tryz.underlying183
  a105 := Tryz.isAgg183
  z105 := Tryz.sizeOf183
  v105 := Tryz.zeroValue183
  t116 := Tryz.underlying167
  a116 := Tryz.isAgg167
  z116 := Tryz.sizeOf167
  t117 := Tryz.underlying168
  a117 := Tryz.isAgg168
  z117 := Tryz.sizeOf168
  v117 := Tryz.zeroValue168
  t119 := Tryz.underlying189
  a119 := Tryz.isAgg189
  z119 := Tryz.sizeOf189
  t124 := Tryz.underlying171
  a124 := Tryz.isAgg171
  z124 := Tryz.sizeOf171
  v124 := Tryz.zeroValue171
  t138 := Tryz.underlying191
  a138 := Tryz.isAgg191
  z138 := Tryz.sizeOf191
  v138 := Tryz.zeroValue191
  t139 := Tryz.underlying192
  a139 := Tryz.isAgg192
  z139 := Tryz.sizeOf192
  v139 := Tryz.zeroValue192
  g3 := by kernel_rfl
  g4 := by kernel_rfl }
end Go.Proofs
/-
  The contracts of pieces.Leading and exprs.IsName, each for every input.
-/
namespace Go.Proofs.YtipolobikigmbaaGreatDoor
open Go.RowKit Go.Shelf

/-- how many such bytes stand first -/
def lead (p : UInt8 → Bool) : List UInt8 → Nat
  | [] => 0
  | c :: l => if p c then lead p l + 1 else 0
theorem lead_le (p : UInt8 → Bool) : ∀ l, lead p l ≤ l.length
  | [] => Nat.le_refl _
  | c :: l => by unfold lead; split <;> simp; exact lead_le p l
theorem lead_at (p : UInt8 → Bool) : ∀ (l : List UInt8) (k : Nat) (h : k < l.length), (∀ i (hi : i < k), p l[i] = true) → p l[k] = false → lead p l = k
  | c :: l, 0, _, _, h => by unfold lead; rw [if_neg (by simpa using h)]
  | c :: l, k + 1, hk, ha, h => by
    unfold lead
    rw [if_pos (show p c = true from ha 0 (by omega)), lead_at p l k (by simpa using hk) (fun i hi => by simpa using ha (i + 1) (by omega)) (by simpa using h)]
theorem lead_all (p : UInt8 → Bool) : ∀ (l : List UInt8), (∀ i (hi : i < l.length), p l[i] = true) → lead p l = l.length
  | [], _ => rfl
  | c :: l, ha => by
    unfold lead
    rw [if_pos (show p c = true from ha 0 (by simp)), lead_all p l (fun i hi => ha (i + 1) (by simpa using hi))]; rfl
theorem lead_iff (p : UInt8 → Bool) : ∀ (l : List UInt8), lead p l = l.length ↔ l.all p = true
  | [] => by simp [lead]
  | c :: l => by
    have := lead_iff p l
    unfold lead
    cases hp : p c
    · simp [hp]
    · simp [hp, ← this]

/-- the letters a to z -/
def lows : ByteArray := ⟨#[97, 98, 99, 100, 101, 102, 103, 104, 105, 106, 107, 108, 109, 110, 111, 112, 113, 114, 115, 116, 117, 118, 119, 120, 121, 122]⟩
set_option maxRecDepth 100000 in
theorem lows_has (c : UInt8) : lows.data.toList.contains c = isLow c := by
  have h : ∀ n : Fin 256, lows.data.toList.contains (UInt8.ofNat n.val) = isLow (UInt8.ofNat n.val) := by decide
  have := h ⟨c.toNat, c.toNat_lt⟩
  rwa [show UInt8.ofNat c.toNat = c from UInt8.ofNat_toNat] at this
theorem trim_lead (cs : List UInt8) : ∀ l : List UInt8, Lib.trimLeftS l cs = l.drop (lead (fun c => cs.contains c) l)
  | [] => rfl
  | c :: l => by
    have ih := trim_lead cs l
    unfold Lib.trimLeftS at ih ⊢
    unfold lead
    rw [List.dropWhile_cons]
    cases h : cs.contains c
    · simp
    · simpa using ih
theorem lead_congr (p q : UInt8 → Bool) (h : ∀ c, p c = q c) (l : List UInt8) : lead p l = lead q l := by rw [show p = q from funext h]
theorem two_beq (s t : ByteArray) : (s.toList == t.toList) = decide (s = t) := by
  rw [Bool.eq_iff_iff, ByteArray.toList_eq, ByteArray.toList_eq]
  simp
  constructor
  · intro h; exact ByteArray.ext h
  · rintro rfl; rfl
theorem info256 : (Tryz.prog.info? (Tryz.lays161_ren.t 116)).map (fun i => (i.zero, i.size)) = some (some (.agg (Array.replicate 256 (.bool false))), 256) := by kernel_rfl

set_option maxHeartbeats 400000 in
theorem leading_any (s cs : ByteArray) (w : World) (hs : s.size ≤ 9223372036854775807) (hcs : cs.size < 4294967281) (ha : cs.data.toList.all (fun b => decide (b.toNat < 128)) = true) :
    Calls Tryz.prog 75 #[.string s, .string cs] w fun e w' => e = .returned (.string (s.extract 0 (lead (fun c => cs.data.toList.contains c) s.data.toList))) ∧ Below w.heap.size w w' := by
  have cT : Calls Tryz.prog 110 #[.string s, .string cs] w fun e w' => e = .returned (.string ⟨(Lib.trimLeftS s.data.toList cs.data.toList).toArray⟩) ∧ Below w.heap.size w w' := Any.strings_TrimLeft_laid Tryz.lays161 info256 s cs w hcs (ascii_of_all ha)
  have hle := lead_le (fun c => cs.data.toList.contains c) s.data.toList
  have hsz : (⟨(Lib.trimLeftS s.data.toList cs.data.toList).toArray⟩ : ByteArray).size = s.size - lead (fun c => cs.data.toList.contains c) s.data.toList := by
    rw [trim_lead]; show ((s.data.toList.drop _).toArray).size = _
    rw [List.size_toArray, List.length_drop, Array.length_toList]; rfl
  generalize lead (fun c => cs.data.toList.contains c) s.data.toList = k at hle hsz ⊢
  generalize (⟨(Lib.trimLeftS s.data.toList cs.data.toList).toArray⟩ : ByteArray) = t at cT hsz
  have hk : k ≤ s.size := by simpa using hle
  have htz : (t.size : Int) ≤ (s.size : Int) := by omega
  have hkz : (s.size : Int) - (t.size : Int) = (k : Int) := by omega
  clear hle hcs ha
  go_enter Tryz.func75, Tryz.ntmps75
  go_wp2_with fail
  refine cT.mono ?_
  rintro e w1 ⟨rfl, hb⟩
  go_wp2_with fail
  go_ret
  refine ⟨?_, hb⟩
  show Ending.returned (Value.string (s.extract 0 (s.size - (s.size - k)))) = _
  rw [show s.size - (s.size - k) = k by omega]

theorem isNm_no (l : List UInt8) (h : l = [116, 114, 117, 101] ∨ l = [102, 97, 108, 115, 101] ∨ l = [97, 110, 100] ∨ l = [111, 114] ∨ l = [110, 111, 116]) : isNm l = false := by unfold isNm; rw [if_pos h]
theorem isNm_yes (l : List UInt8) (h : ¬ (l = [116, 114, 117, 101] ∨ l = [102, 97, 108, 115, 101] ∨ l = [97, 110, 100] ∨ l = [111, 114] ∨ l = [110, 111, 116])) : isNm l = (decide (1 ≤ l.length ∧ l.length ≤ 8) && l.all isLow) := by unfold isNm; rw [if_neg h]
set_option maxHeartbeats 400000 in
theorem isName_any (s : ByteArray) (w : World) (hs : s.size ≤ 9223372036854775807) :
    Calls Tryz.prog 111 #[.string s] w fun e w' => e = .returned (.bool (isNm s.data.toList)) ∧ Below w.heap.size w w' := by
  have hlen : s.data.toList.length = s.size := by simp
  by_cases hkw : s.data.toList = [116, 114, 117, 101] ∨ s.data.toList = [102, 97, 108, 115, 101] ∨ s.data.toList = [97, 110, 100] ∨ s.data.toList = [111, 114] ∨ s.data.toList = [110, 111, 116]
  · rw [isNm_no _ hkw]
    clear hlen
    have e : ∀ l, s.data.toList = l → s = ⟨l.toArray⟩ := fun l h => ByteArray.ext (Array.toList_inj.1 (by simpa using h))
    rcases hkw with h | h | h | h | h
    all_goals
      have := e _ h
      subst this
      clear h e hs
      go_enter Tryz.func111, Tryz.ntmps111
      go_wp2_with fail
      go_ret
      exact ⟨rfl, Below.refl _ _⟩
  · rw [isNm_yes _ hkw, hlen]
    have b1 : (s.toList == [116, 114, 117, 101]) = false := by rw [beqL]; simp; exact fun h => hkw (.inl h)
    have b2 : (s.toList == [102, 97, 108, 115, 101]) = false := by rw [beqL]; simp; exact fun h => hkw (.inr (.inl h))
    have b3 : (s.toList == [97, 110, 100]) = false := by rw [beqL]; simp; exact fun h => hkw (.inr (.inr (.inl h)))
    have b4 : (s.toList == [111, 114]) = false := by rw [beqL]; simp; exact fun h => hkw (.inr (.inr (.inr (.inl h))))
    have b5 : (s.toList == [110, 111, 116]) = false := by rw [beqL]; simp; exact fun h => hkw (.inr (.inr (.inr (.inr h))))
    clear hkw
    by_cases h1 : 1 ≤ s.size
    · by_cases h2 : s.size ≤ 8
      · have z1 : (1 : Int) ≤ (s.size : Int) := by omega
        have z2 : (s.size : Int) ≤ 8 := by omega
        have cL := leading_any s lows w hs (by decide) (by decide)
        rw [lead_congr _ isLow lows_has] at cL
        have hle := lead_le isLow s.data.toList
        have hiff := lead_iff isLow s.data.toList
        rw [hlen] at hle hiff
        generalize s.data.toList.all isLow = g at hiff ⊢
        generalize lead isLow s.data.toList = k at cL hle hiff
        have hg : ((s.extract 0 k).toList == s.toList) = g := by
          rw [two_beq, Bool.eq_iff_iff, ← hiff, decide_eq_true_eq]
          constructor
          · intro h; have := congrArg ByteArray.size h; simp at this; omega
          · intro h; subst h; exact ByteArray.extract_zero_size
        generalize s.extract 0 k = t at cL hg
        clear hiff hlen hle
        rw [show (decide (1 ≤ s.size ∧ s.size ≤ 8) && g) = g by simp [h1, h2]]
        simp only [lows] at cL
        have HG : Hid ((t.toList == s.toList) = g) := hg
        clear hg
        go_enter Tryz.func111, Tryz.ntmps111
        go_wp2_with (go_at_call 75; refine cL.mono ?_; rintro e w1 ⟨rfl, hb⟩)
        go_ret
        exact ⟨by rw [← HG.out]; rfl, hb⟩
      · have z1 : (1 : Int) ≤ (s.size : Int) := by omega
        have z2 : ¬ (s.size : Int) ≤ 8 := by omega
        rw [show (decide (1 ≤ s.size ∧ s.size ≤ 8) && s.data.toList.all isLow) = false by simp [h2]]
        clear hlen
        go_enter Tryz.func111, Tryz.ntmps111
        go_wp2_with fail
        go_ret
        exact ⟨rfl, Below.refl _ _⟩
    · have z1 : ¬ (1 : Int) ≤ (s.size : Int) := by omega
      rw [show (decide (1 ≤ s.size ∧ s.size ≤ 8) && s.data.toList.all isLow) = false by simp [h1]]
      clear hlen
      go_enter Tryz.func111, Tryz.ntmps111
      go_wp2_with fail
      go_ret
      exact ⟨rfl, Below.refl _ _⟩
end Go.Proofs.YtipolobikigmbaaGreatDoor
