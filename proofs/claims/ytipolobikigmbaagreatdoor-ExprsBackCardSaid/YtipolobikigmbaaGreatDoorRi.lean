/-
  Contracts of the library, laid at this program in plain words. Conditions: none.
-/
import Derived.Test.YtipolobikigmbaaGreatDoorProg
import Derived.Ground.NamesProg
import Derived.Shelf.LaysC
import Derived.Shelf.Strings.Prefix
import Derived.Shelf.Strconv.ParseIntPublic10
import Derived.Shelf.Strconv.ErrVarParseInt
import Derived.Test.YtipolobikigmbaaGreatDoorRt
import Derived.Test.YtipolobikigmbaaGreatDoorFs
namespace Go.Proofs
open Go.Shelf
def Tryz.lays99_ren : Go.Shelf.Ren := ⟨fun | 99 => 36 | 206 => 67 | n => n, fun | 9 => 9 | 4 => 4 | 3 => 3 | n => n, fun | n => n⟩
theorem Tryz.lays99 : Go.Proofs.Lays.n99 Tryz.prog Tryz.lays99_ren := {
  mixed := by kernel_rfl
  f99 := Tryz.func36.trans (congrArg some (by kernel_rfl))
  f206 := Tryz.func67.trans (congrArg some (by kernel_rfl))
  t3 := Tryz.underlying3
  a3 := Tryz.isAgg3
  z3 := Tryz.sizeOf3
  v3 := Tryz.zeroValue3
  t4 := Tryz.underlying4
  a4 := Tryz.isAgg4
  z4 := Tryz.sizeOf4
  v4 := Tryz.zeroValue4
  t9 := Tryz.underlying9
  a9 := Tryz.isAgg9
  z9 := Tryz.sizeOf9
  v9 := Tryz.zeroValue9 }
def Tryz.laysC174_ren : Go.Shelf.Ren := ⟨fun | 174 => 189 | 247 => 196 | 245 => 197 | 287 => 202 | 279 => 203 | 280 => 204 | 281 => 205 | 282 => 206 | 321 => 208 | 322 => 209 | 316 => 95 | 171 => 211 | 205 => 210 | 243 => 213 | 246 => 128 | 283 => 165 | 284 => 166 | 285 => 167 | 286 => 168 | 129 => 184 | 317 => 183 | 318 => 185 | 319 => 186 | 320 => 187 | 337 => 193 | 338 => 194 | n => n, fun | 9 => 9 | 3 => 3 | 2 => 2 | 75 => 64 | 85 => 200 | 4 => 4 | 167 => 213 | 5 => 5 | 53 => 111 | 175 => 214 | 46 => 83 | 168 => 216 | 37 => 50 | 0 => 0 | 210 => 221 | 21 => 21 | 127 => 95 | 145 => 225 | 143 => 223 | 171 => 175 | 173 => 178 | 212 => 195 | 51 => 108 | 20 => 20 | 213 => 196 | 232 => 211 | 233 => 212 | 80 => 70 | n => n, fun | 15 => 6 | 16 => 7 | 17 => 3 | 18 => 4 | 19 => 5 | n => n⟩
theorem Tryz.laysC174 : Go.Proofs.LaysC.n174 Tryz.prog Tryz.laysC174_ren := {
  mixed := by kernel_rfl
  f129 := Tryz.func184.trans (congrArg some (by kernel_rfl))
  f171 := Tryz.func211.trans (congrArg some (by kernel_rfl))
  f174 := Tryz.func189.trans (congrArg some (by kernel_rfl))
  f205 := Tryz.func210.trans (congrArg some (by kernel_rfl))
  f243 := Tryz.func213.trans (congrArg some (by kernel_rfl))
  f245 := Tryz.func197.trans (congrArg some (by kernel_rfl))
  f246 := Tryz.func128.trans (congrArg some (by kernel_rfl))
  f247 := Tryz.func196.trans (congrArg some (by kernel_rfl))
  f279 := Tryz.func203.trans (congrArg some (by kernel_rfl))
  f280 := Tryz.func204.trans (congrArg some (by kernel_rfl))
  f281 := Tryz.func205.trans (congrArg some (by kernel_rfl))
  f282 := Tryz.func206.trans (congrArg some (by kernel_rfl))
  f283 := Tryz.func165.trans (congrArg some (by kernel_rfl))
  f284 := Tryz.func166.trans (congrArg some (by kernel_rfl))
  f285 := Tryz.func167.trans (congrArg some (by kernel_rfl))
  f286 := Tryz.func168.trans (congrArg some (by kernel_rfl))
  f287 := Tryz.func202.trans (congrArg some (by kernel_rfl))
  f316 := Tryz.func95.trans (congrArg some (by kernel_rfl))
  f317 := Tryz.func183.trans (congrArg some (by kernel_rfl))
  f318 := Tryz.func185.trans (congrArg some (by kernel_rfl))
  f319 := Tryz.func186.trans (congrArg some (by kernel_rfl))
  f320 := Tryz.func187.trans (congrArg some (by kernel_rfl))
  f321 := Tryz.func208.trans (congrArg some (by kernel_rfl))
  f322 := Tryz.func209.trans (congrArg some (by kernel_rfl))
  f337 := Tryz.func193.trans (congrArg some (by kernel_rfl))
  f338 := Tryz.func194.trans (congrArg some (by kernel_rfl))
  t0 := Tryz.underlying0
  a0 := Tryz.isAgg0
  z0 := Tryz.sizeOf0
  v0 := Tryz.zeroValue0
  t2 := Tryz.underlying2
  a2 := Tryz.isAgg2
  z2 := Tryz.sizeOf2
  v2 := Tryz.zeroValue2
  t3 := Tryz.underlying3
  a3 := Tryz.isAgg3
  z3 := Tryz.sizeOf3
  v3 := Tryz.zeroValue3
  t4 := Tryz.underlying4
  a4 := Tryz.isAgg4
  z4 := Tryz.sizeOf4
  v4 := Tryz.zeroValue4
  t5 := Tryz.underlying5
  a5 := Tryz.isAgg5
  z5 := Tryz.sizeOf5
  v5 := Tryz.zeroValue5
  t9 := Tryz.underlying9
  a9 := Tryz.isAgg9
  z9 := Tryz.sizeOf9
  v9 := Tryz.zeroValue9
  t20 := Tryz.underlying20
  a20 := Tryz.isAgg20
  z20 := Tryz.sizeOf20
  v20 := Tryz.zeroValue20
  t21 := Tryz.underlying21
  a21 := Tryz.isAgg21
  z21 := Tryz.sizeOf21
  v21 := Tryz.zeroValue21
  t37 := Tryz.underlying50
  a37 := Tryz.isAgg50
  z37 := Tryz.sizeOf50
  v37 := Tryz.zeroValue50
  t46 := Tryz.underlying83
  a46 := Tryz.isAgg83
  z46 := Tryz.sizeOf83
  v46 := Tryz.zeroValue83
  t51 := Tryz.underlying108
  a51 := Tryz.isAgg108
  z51 := Tryz.sizeOf108
  v51 := Tryz.zeroValue108
  t53 := Tryz.underlying111
  a53 := Tryz.isAgg111
  z53 := Tryz.sizeOf111
  v53 := Tryz.zeroValue111
  t75 := Tryz.underlying64
  a75 := Tryz.isAgg64
  z75 := Tryz.sizeOf64
  v75 := Tryz.zeroValue64
  t85 := Tryz.underlying200
  a85 := Tryz.isAgg200
  z85 := Tryz.sizeOf200
  v85 := Tryz.zeroValue200
  t127 := Tryz.underlying95
  a127 := Tryz.isAgg95
  z127 := Tryz.sizeOf95
  v127 := Tryz.zeroValue95
  t143 := Tryz.underlying223
  a143 := Tryz.isAgg223
  z143 := Tryz.sizeOf223
  v143 := Tryz.zeroValue223
  t145 := Tryz.underlying225
  a145 := Tryz.isAgg225
  z145 := Tryz.sizeOf225
  v145 := Tryz.zeroValue225
  t167 := Tryz.underlying213
  a167 := Tryz.isAgg213
  z167 := Tryz.sizeOf213
  v167 := Tryz.zeroValue213
  t168 := Tryz.underlying216
  a168 := Tryz.isAgg216
  z168 := Tryz.sizeOf216
  v168 := Tryz.zeroValue216
  t171 := Tryz.underlying175
  a171 := Tryz.isAgg175
  z171 := Tryz.sizeOf175
  v171 := Tryz.zeroValue175
  t173 := Tryz.underlying178
  a173 := Tryz.isAgg178
  z173 := Tryz.sizeOf178
  v173 := Tryz.zeroValue178
  t175 := Tryz.underlying214
  a175 := Tryz.isAgg214
  z175 := Tryz.sizeOf214
  v175 := Tryz.zeroValue214
  t210 := Tryz.underlying221
  a210 := Tryz.isAgg221
  z210 := Tryz.sizeOf221
  v210 := Tryz.zeroValue221
  t212 := Tryz.underlying195
  a212 := Tryz.isAgg195
  z212 := Tryz.sizeOf195
  v212 := Tryz.zeroValue195
  t213 := Tryz.underlying196
  a213 := Tryz.isAgg196
  z213 := Tryz.sizeOf196
  t232 := Tryz.underlying211
  a232 := Tryz.isAgg211
  z232 := Tryz.sizeOf211
  v232 := Tryz.zeroValue211
  t233 := Tryz.underlying212
  a233 := Tryz.isAgg212
  z233 := Tryz.sizeOf212
  v233 := Tryz.zeroValue212
  g15 := by kernel_rfl
  g16 := by kernel_rfl
  g17 := by kernel_rfl
  g18 := by kernel_rfl
  g19 := by kernel_rfl
  t80 := Tryz.underlying70
  a80 := Tryz.isAgg70
  z80 := Tryz.sizeOf70
  v80 := Tryz.zeroValue70
  i0 := by kernel_rfl
  i2 := by kernel_rfl
  i3 := by kernel_rfl
  i4 := by kernel_rfl
  i5 := by kernel_rfl
  i9 := by kernel_rfl
  i20 := by kernel_rfl
  i21 := by kernel_rfl
  i37 := by kernel_rfl
  i46 := by kernel_rfl
  i51 := by kernel_rfl
  i53 := by kernel_rfl
  i75 := by kernel_rfl
  i80 := by kernel_rfl
  i85 := by kernel_rfl
  i127 := by kernel_rfl
  i143 := by kernel_rfl
  i145 := by kernel_rfl
  i167 := by kernel_rfl
  i168 := by kernel_rfl
  i171 := by kernel_rfl
  i173 := by kernel_rfl
  i175 := by kernel_rfl
  i210 := by kernel_rfl
  i212 := by kernel_rfl
  i232 := by kernel_rfl
  i233 := by kernel_rfl
  m15 := by kernel_rfl
  m16 := by kernel_rfl
  m17 := by kernel_rfl
  m18 := by kernel_rfl
  m19 := by kernel_rfl
  c0 := by kernel_rfl
  c2 := by kernel_rfl
  c3 := by kernel_rfl
  c4 := by kernel_rfl
  c5 := by kernel_rfl
  c9 := by kernel_rfl
  c20 := by kernel_rfl
  c21 := by kernel_rfl
  c37 := by kernel_rfl
  c46 := by kernel_rfl
  c51 := by kernel_rfl
  c53 := by kernel_rfl
  c75 := by kernel_rfl
  c80 := by kernel_rfl
  c85 := by kernel_rfl
  c127 := by kernel_rfl
  c143 := by kernel_rfl
  c145 := by kernel_rfl
  c167 := by kernel_rfl
  c168 := by kernel_rfl
  c171 := by kernel_rfl
  c173 := by kernel_rfl
  c175 := by kernel_rfl
  c210 := by kernel_rfl
  c212 := by kernel_rfl
  c213 := by kernel_rfl
  c232 := by kernel_rfl
  c233 := by kernel_rfl }
end Go.Proofs
/-
  The contract of values.readInt, for every text of at most 2^48 bytes; strconv.FormatInt's and strconv.ParseInt's contracts are hypotheses here.
-/
namespace Go.Proofs.YtipolobikigmbaaGreatDoor
open Go.RowKit Go.Shelf
variable (Tabs : World → Prop)

/-- what strconv.ParseInt tells -/
def PPost (l : List UInt8) (e : Ending) : Prop :=
  (∀ v, Lib.parseIntB 64 l = .ok v → e = .returned (.tuple #[.int .i64 v, .nilIface])) ∧ ((∀ v, Lib.parseIntB 64 l ≠ .ok v) → ∃ z N, e = .returned (.tuple #[.int .i64 z, .iface 216 (.pointer (some ⟨N, 0, none⟩))]))
def PSaid : Prop := ∀ (s : ByteArray) (w : World), s.size ≤ 281474976710656 → Tabs w → Calls Tryz.prog 189 #[.string s, .int .i64 10, .int .i64 64] w fun e w' => PPost s.data.toList e ∧ Below w.heap.size w w'

theorem parse_bd (l : List UInt8) (v : Int) (h : Lib.parseIntB 64 l = .ok v) : -9223372036854775808 ≤ v ∧ v ≤ 9223372036854775807 := by
  unfold Lib.parseIntB at h
  split at h
  · cases h
  · simp only at h
    split at h
    · cases h
    · cases h
    · split at h
      · cases h
      · split at h
        · cases h
        · injection h with h
          subst h
          split <;> omega

/-- what values.readInt tells: sort, number, error -/
def riZ (l : List UInt8) : Int × Int × Int := match Lib.parseIntB 64 l with
  | .ok v => if Lib.itoa v = l then (1, v, 0) else (0, 0, 3)
  | _ => (0, 0, 3)
def riV (z : Int × Int × Int) : Value := .tuple #[.agg #[.int .i64 z.1, .int .i64 z.2.1, .string ⟨#[]⟩], .int .i64 z.2.2]

set_option maxRecDepth 100000 in
set_option maxHeartbeats 1000000 in
theorem readInt_any (hF : FSaid Tabs) (hP : PSaid Tabs) (hK : ∀ w w', Tabs w → Below w.heap.size w w' → Tabs w') (s : ByteArray) (w : World) (hs : s.size ≤ 281474976710656) (hT : Tabs w) :
    Calls Tryz.prog 170 #[.string s] w fun e w' => e = .returned (riV (riZ s.data.toList)) ∧ Below w.heap.size w w' := by
  have hT1 := hK w (w.alloc (Obj.cells #[Value.int IntKind.i64 0, Value.int IntKind.i64 0, Value.string { data := #[] }] 36)) hT ((Below.refl _ _).alloc (Nat.le_refl _) _)
  have cP := hP s _ hs hT1
  by_cases hok : ∃ v, Lib.parseIntB 64 s.data.toList = .ok v
  · obtain ⟨v, hv⟩ := hok
    have hbd := parse_bd _ v hv
    have hz : riZ s.data.toList = if Lib.itoa v = s.data.toList then (1, v, 0) else (0, 0, 3) := by unfold riZ; rw [hv]
    obtain ⟨F, hFx⟩ : ∃ F, bs (Lib.itoa v) = F := ⟨_, rfl⟩
    have cF := fun W => hF v W hbd.1 hbd.2
    rw [hFx] at cF
    have CF : Hid (∀ (W : World), Tabs W → Calls Tryz.prog 92 #[.int .i64 v, .int .i64 10] W fun e w' => e = .returned (.string F) ∧ Below W.heap.size W w') := cF
    have HV : Hid (Lib.parseIntB 64 s.data.toList = .ok v) := hv
    clear cF hv
    by_cases heq : F = s
    · subst heq
      rw [hz, if_pos (by rw [← hFx, bs_list])]
      clear hz hFx hF hP hT
      go_enter Tryz.func170, Tryz.ntmps170
      go_wp2_with fail
      refine cP.mono ?_
      rintro e w1 ⟨hp, hb1⟩
      have he := hp.1 v HV.out
      subst he
      have hT2 := hK _ _ hT1 hb1
      have hbw : Below w.heap.size w w1 := ((Below.refl w.heap.size w).alloc (Nat.le_refl _) _).trans (hb1.mono (by simp))
      have hB : Box w1 w.heap.size 0 0 ⟨#[]⟩ := (Box.new w 0 0 ⟨#[]⟩ 36).keep hb1
      have f0 : w1.frozen? ⟨w.heap.size, 0, none⟩ = false := (hb1.frozen (p := ⟨w.heap.size, 0, none⟩) (by simp)).trans (by go_simp)
      have f1 : w1.frozen? ⟨w.heap.size, 1, none⟩ = false := (hb1.frozen (p := ⟨w.heap.size, 1, none⟩) (by simp)).trans (by go_simp)
      have f2 : w1.frozen? ⟨w.heap.size, 2, none⟩ = false := (hb1.frozen (p := ⟨w.heap.size, 2, none⟩) (by simp)).trans (by go_simp)
      clear hb1 cP hp hT1
      go_wp2_with fail
      refine (CF.out _ hT2).mono ?_
      rintro e w2 ⟨rfl, hb2⟩
      replace f0 := (hb2.frozen (p := ⟨w.heap.size, 0, none⟩) hB.lt).trans f0
      replace f1 := (hb2.frozen (p := ⟨w.heap.size, 1, none⟩) hB.lt).trans f1
      replace f2 := (hb2.frozen (p := ⟨w.heap.size, 2, none⟩) hB.lt).trans f2
      replace hB := hB.keep hb2
      have hbw2 : Below w.heap.size w w2 := hbw.trans (hb2.mono hbw.size)
      obtain ⟨lt, r0, r1, r2⟩ := hB
      clear hbw hb2 CF hT2 hK
      go_wp2
      refine bodyPost_ret (v := riV (1, v, 0)) (by simp [results, Tryz.results170, go_sem, riV, r0, r1, r2]) rfl ⟨rfl, ?_⟩
      have hsz := hbw2.size
      go_grown
    · rw [hz, if_neg (fun e => heq (by rw [← hFx, e, bs_of]))]
      have hne : (F.toList == s.toList) = false := str_ne heq
      clear hz hFx hF hP hT heq
      go_enter Tryz.func170, Tryz.ntmps170
      go_wp2_with fail
      refine cP.mono ?_
      rintro e w1 ⟨hp, hb1⟩
      have he := hp.1 v HV.out
      subst he
      have hT2 := hK _ _ hT1 hb1
      have hbw : Below w.heap.size w w1 := ((Below.refl w.heap.size w).alloc (Nat.le_refl _) _).trans (hb1.mono (by simp))
      have hB : Box w1 w.heap.size 0 0 ⟨#[]⟩ := (Box.new w 0 0 ⟨#[]⟩ 36).keep hb1
      have f0 : w1.frozen? ⟨w.heap.size, 0, none⟩ = false := (hb1.frozen (p := ⟨w.heap.size, 0, none⟩) (by simp)).trans (by go_simp)
      have f1 : w1.frozen? ⟨w.heap.size, 1, none⟩ = false := (hb1.frozen (p := ⟨w.heap.size, 1, none⟩) (by simp)).trans (by go_simp)
      have f2 : w1.frozen? ⟨w.heap.size, 2, none⟩ = false := (hb1.frozen (p := ⟨w.heap.size, 2, none⟩) (by simp)).trans (by go_simp)
      clear hb1 cP hp hT1
      go_wp2_with fail
      refine (CF.out _ hT2).mono ?_
      rintro e w2 ⟨rfl, hb2⟩
      replace f0 := (hb2.frozen (p := ⟨w.heap.size, 0, none⟩) hB.lt).trans f0
      replace f1 := (hb2.frozen (p := ⟨w.heap.size, 1, none⟩) hB.lt).trans f1
      replace f2 := (hb2.frozen (p := ⟨w.heap.size, 2, none⟩) hB.lt).trans f2
      replace hB := hB.keep hb2
      have hbw2 : Below w.heap.size w w2 := hbw.trans (hb2.mono hbw.size)
      obtain ⟨lt, r0, r1, r2⟩ := hB
      clear hbw hb2 CF hT2 hK
      go_wp2
      refine bodyPost_ret (v := riV (0, 0, 3)) (by simp [results, Tryz.results170, go_sem, riV, r0, r1, r2]) rfl ⟨rfl, ?_⟩
      have hsz := hbw2.size
      go_grown
  · have hno : ∀ v, Lib.parseIntB 64 s.data.toList ≠ .ok v := fun v h => hok ⟨v, h⟩
    have hz : riZ s.data.toList = (0, 0, 3) := by
      unfold riZ
      split
      · next v h => exact absurd h (hno v)
      · rfl
    rw [hz]
    have HN : Hid (∀ v, Lib.parseIntB 64 s.data.toList ≠ .ok v) := hno
    clear hz hno hok hF hP hT
    go_enter Tryz.func170, Tryz.ntmps170
    go_wp2_with fail
    refine cP.mono ?_
    rintro e w1 ⟨hp, hb1⟩
    obtain ⟨z, N, rfl⟩ := hp.2 HN.out
    have hbw : Below w.heap.size w w1 := ((Below.refl w.heap.size w).alloc (Nat.le_refl _) _).trans (hb1.mono (by simp))
    have hB : Box w1 w.heap.size 0 0 ⟨#[]⟩ := (Box.new w 0 0 ⟨#[]⟩ 36).keep hb1
    have f0 : w1.frozen? ⟨w.heap.size, 0, none⟩ = false := (hb1.frozen (p := ⟨w.heap.size, 0, none⟩) (by simp)).trans (by go_simp)
    have f1 : w1.frozen? ⟨w.heap.size, 1, none⟩ = false := (hb1.frozen (p := ⟨w.heap.size, 1, none⟩) (by simp)).trans (by go_simp)
    have f2 : w1.frozen? ⟨w.heap.size, 2, none⟩ = false := (hb1.frozen (p := ⟨w.heap.size, 2, none⟩) (by simp)).trans (by go_simp)
    obtain ⟨lt, r0, r1, r2⟩ := hB
    clear hb1 cP hp hT1 hK
    go_wp2
    refine bodyPost_ret (v := riV (0, 0, 3)) (by simp [results, Tryz.results170, go_sem, riV, r0, r1, r2]) rfl ⟨rfl, ?_⟩
    have hsz := hbw.size
    go_grown
end Go.Proofs.YtipolobikigmbaaGreatDoor
