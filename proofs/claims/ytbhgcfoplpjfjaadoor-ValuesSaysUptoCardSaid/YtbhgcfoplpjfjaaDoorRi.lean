/-
  The contract of values.readInt, for every text of at most 2^48 bytes; strconv.FormatInt's and strconv.ParseInt's contracts are hypotheses here.
-/
import Derived.Test.YtbhgcfoplpjfjaaDoorRt
import Derived.Test.YtbhgcfoplpjfjaaDoorLb
namespace Go.Proofs.YtbhgcfoplpjfjaaDoor
open Go.RowKit Go.Shelf
variable (Tabs : World → Prop)

def bs (l : List UInt8) : ByteArray := ⟨l.toArray⟩
theorem bs_list (l : List UInt8) : (bs l).data.toList = l := by simp [bs]
theorem bs_of (s : ByteArray) : bs s.data.toList = s := by
  apply ByteArray.ext; apply Array.toList_inj.1; rw [bs_list]
theorem bs_inj {s : ByteArray} {l : List UInt8} (h : s.data.toList = l) : s = bs l := by rw [← h, bs_of]

theorem str_ne {s t : ByteArray} (h : s ≠ t) : (s.toList == t.toList) = false := by
  rw [beq_eq_false_iff_ne]
  intro e
  rw [ByteArray.toList_eq, ByteArray.toList_eq] at e
  exact h (ByteArray.ext (Array.toList_inj.1 e))

def FSaid : Prop := ∀ (n : Int) (w : World), -9223372036854775808 ≤ n → n ≤ 9223372036854775807 → Tabs w → Calls Tryd.prog 19 #[.int .i64 n, .int .i64 10] w fun e w' => e = .returned (.string (bs (Lib.itoa n))) ∧ Below w.heap.size w w'
/-- what strconv.ParseInt tells -/
def PPost (l : List UInt8) (e : Ending) : Prop :=
  (∀ v, Lib.parseIntB 64 l = .ok v → e = .returned (.tuple #[.int .i64 v, .nilIface])) ∧ ((∀ v, Lib.parseIntB 64 l ≠ .ok v) → ∃ z N, e = .returned (.tuple #[.int .i64 z, .iface 131 (.pointer (some ⟨N, 0, none⟩))]))
def PSaid : Prop := ∀ (s : ByteArray) (w : World), s.size ≤ 281474976710656 → Tabs w → Calls Tryd.prog 53 #[.string s, .int .i64 10, .int .i64 64] w fun e w' => PPost s.data.toList e ∧ Below w.heap.size w w'

theorem parse_bd (l : List UInt8) (v : Int) (h : Lib.parseIntB 64 l = .ok v) : -9223372036854775808 ≤ v ∧ v ≤ 9223372036854775807 := by
  unfold Lib.parseIntB at h
  split at h
  · cases h
  · simp only at h
    split at h
    · cases h
    · cases h
    · split at h
      · cases h
      · split at h
        · cases h
        · injection h with h
          subst h
          split <;> omega

/-- what values.readInt tells: sort, number, error -/
def riZ (l : List UInt8) : Int × Int × Int := match Lib.parseIntB 64 l with
  | .ok v => if Lib.itoa v = l then (1, v, 0) else (0, 0, 3)
  | _ => (0, 0, 3)
def riV (z : Int × Int × Int) : Value := .tuple #[.agg #[.int .i64 z.1, .int .i64 z.2.1, .string ⟨#[]⟩], .int .i64 z.2.2]

set_option maxRecDepth 100000 in
set_option maxHeartbeats 1000000 in
theorem readInt_any (hF : FSaid Tabs) (hP : PSaid Tabs) (hK : ∀ w w', Tabs w → Below w.heap.size w w' → Tabs w') (s : ByteArray) (w : World) (hs : s.size ≤ 281474976710656) (hT : Tabs w) :
    Calls Tryd.prog 26 #[.string s] w fun e w' => e = .returned (riV (riZ s.data.toList)) ∧ Below w.heap.size w w' := by
  have hT1 := hK w (w.alloc (Obj.cells #[Value.int IntKind.i64 0, Value.int IntKind.i64 0, Value.string { data := #[] }] 23)) hT ((Below.refl _ _).alloc (Nat.le_refl _) _)
  have cP := hP s _ hs hT1
  by_cases hok : ∃ v, Lib.parseIntB 64 s.data.toList = .ok v
  · obtain ⟨v, hv⟩ := hok
    have hbd := parse_bd _ v hv
    have hz : riZ s.data.toList = if Lib.itoa v = s.data.toList then (1, v, 0) else (0, 0, 3) := by unfold riZ; rw [hv]
    obtain ⟨F, hFx⟩ : ∃ F, bs (Lib.itoa v) = F := ⟨_, rfl⟩
    have cF := fun W => hF v W hbd.1 hbd.2
    rw [hFx] at cF
    have CF : Hid (∀ (W : World), Tabs W → Calls Tryd.prog 19 #[.int .i64 v, .int .i64 10] W fun e w' => e = .returned (.string F) ∧ Below W.heap.size W w') := cF
    have HV : Hid (Lib.parseIntB 64 s.data.toList = .ok v) := hv
    clear cF hv
    by_cases heq : F = s
    · subst heq
      rw [hz, if_pos (by rw [← hFx, bs_list])]
      clear hz hFx hF hP hT
      go_enter Tryd.func26, Tryd.ntmps26
      go_wp2_with fail
      refine cP.mono ?_
      rintro e w1 ⟨hp, hb1⟩
      have he := hp.1 v HV.out
      subst he
      have hT2 := hK _ _ hT1 hb1
      have hbw : Below w.heap.size w w1 := ((Below.refl w.heap.size w).alloc (Nat.le_refl _) _).trans (hb1.mono (by simp))
      have hB : Box w1 w.heap.size 0 0 ⟨#[]⟩ := (Box.new w 0 0 ⟨#[]⟩ 23).keep hb1
      have f0 : w1.frozen? ⟨w.heap.size, 0, none⟩ = false := (hb1.frozen (p := ⟨w.heap.size, 0, none⟩) (by simp)).trans (by go_simp)
      have f1 : w1.frozen? ⟨w.heap.size, 1, none⟩ = false := (hb1.frozen (p := ⟨w.heap.size, 1, none⟩) (by simp)).trans (by go_simp)
      have f2 : w1.frozen? ⟨w.heap.size, 2, none⟩ = false := (hb1.frozen (p := ⟨w.heap.size, 2, none⟩) (by simp)).trans (by go_simp)
      clear hb1 cP hp hT1
      go_wp2_with fail
      refine (CF.out _ hT2).mono ?_
      rintro e w2 ⟨rfl, hb2⟩
      replace f0 := (hb2.frozen (p := ⟨w.heap.size, 0, none⟩) hB.lt).trans f0
      replace f1 := (hb2.frozen (p := ⟨w.heap.size, 1, none⟩) hB.lt).trans f1
      replace f2 := (hb2.frozen (p := ⟨w.heap.size, 2, none⟩) hB.lt).trans f2
      replace hB := hB.keep hb2
      have hbw2 : Below w.heap.size w w2 := hbw.trans (hb2.mono hbw.size)
      obtain ⟨lt, r0, r1, r2⟩ := hB
      clear hbw hb2 CF hT2 hK
      go_wp2
      refine bodyPost_ret (v := riV (1, v, 0)) (by simp [results, Tryd.results26, go_sem, riV, r0, r1, r2]) rfl ⟨rfl, ?_⟩
      have hsz := hbw2.size
      go_grown
    · rw [hz, if_neg (fun e => heq (by rw [← hFx, e, bs_of]))]
      have hne : (F.toList == s.toList) = false := str_ne heq
      clear hz hFx hF hP hT heq
      go_enter Tryd.func26, Tryd.ntmps26
      go_wp2_with fail
      refine cP.mono ?_
      rintro e w1 ⟨hp, hb1⟩
      have he := hp.1 v HV.out
      subst he
      have hT2 := hK _ _ hT1 hb1
      have hbw : Below w.heap.size w w1 := ((Below.refl w.heap.size w).alloc (Nat.le_refl _) _).trans (hb1.mono (by simp))
      have hB : Box w1 w.heap.size 0 0 ⟨#[]⟩ := (Box.new w 0 0 ⟨#[]⟩ 23).keep hb1
      have f0 : w1.frozen? ⟨w.heap.size, 0, none⟩ = false := (hb1.frozen (p := ⟨w.heap.size, 0, none⟩) (by simp)).trans (by go_simp)
      have f1 : w1.frozen? ⟨w.heap.size, 1, none⟩ = false := (hb1.frozen (p := ⟨w.heap.size, 1, none⟩) (by simp)).trans (by go_simp)
      have f2 : w1.frozen? ⟨w.heap.size, 2, none⟩ = false := (hb1.frozen (p := ⟨w.heap.size, 2, none⟩) (by simp)).trans (by go_simp)
      clear hb1 cP hp hT1
      go_wp2_with fail
      refine (CF.out _ hT2).mono ?_
      rintro e w2 ⟨rfl, hb2⟩
      replace f0 := (hb2.frozen (p := ⟨w.heap.size, 0, none⟩) hB.lt).trans f0
      replace f1 := (hb2.frozen (p := ⟨w.heap.size, 1, none⟩) hB.lt).trans f1
      replace f2 := (hb2.frozen (p := ⟨w.heap.size, 2, none⟩) hB.lt).trans f2
      replace hB := hB.keep hb2
      have hbw2 : Below w.heap.size w w2 := hbw.trans (hb2.mono hbw.size)
      obtain ⟨lt, r0, r1, r2⟩ := hB
      clear hbw hb2 CF hT2 hK
      go_wp2
      refine bodyPost_ret (v := riV (0, 0, 3)) (by simp [results, Tryd.results26, go_sem, riV, r0, r1, r2]) rfl ⟨rfl, ?_⟩
      have hsz := hbw2.size
      go_grown
  · have hno : ∀ v, Lib.parseIntB 64 s.data.toList ≠ .ok v := fun v h => hok ⟨v, h⟩
    have hz : riZ s.data.toList = (0, 0, 3) := by
      unfold riZ
      split
      · next v h => exact absurd h (hno v)
      · rfl
    rw [hz]
    have HN : Hid (∀ v, Lib.parseIntB 64 s.data.toList ≠ .ok v) := hno
    clear hz hno hok hF hP hT
    go_enter Tryd.func26, Tryd.ntmps26
    go_wp2_with fail
    refine cP.mono ?_
    rintro e w1 ⟨hp, hb1⟩
    obtain ⟨z, N, rfl⟩ := hp.2 HN.out
    have hbw : Below w.heap.size w w1 := ((Below.refl w.heap.size w).alloc (Nat.le_refl _) _).trans (hb1.mono (by simp))
    have hB : Box w1 w.heap.size 0 0 ⟨#[]⟩ := (Box.new w 0 0 ⟨#[]⟩ 23).keep hb1
    have f0 : w1.frozen? ⟨w.heap.size, 0, none⟩ = false := (hb1.frozen (p := ⟨w.heap.size, 0, none⟩) (by simp)).trans (by go_simp)
    have f1 : w1.frozen? ⟨w.heap.size, 1, none⟩ = false := (hb1.frozen (p := ⟨w.heap.size, 1, none⟩) (by simp)).trans (by go_simp)
    have f2 : w1.frozen? ⟨w.heap.size, 2, none⟩ = false := (hb1.frozen (p := ⟨w.heap.size, 2, none⟩) (by simp)).trans (by go_simp)
    obtain ⟨lt, r0, r1, r2⟩ := hB
    clear hb1 cP hp hT1 hK
    go_wp2
    refine bodyPost_ret (v := riV (0, 0, 3)) (by simp [results, Tryd.results26, go_sem, riV, r0, r1, r2]) rfl ⟨rfl, ?_⟩
    have hsz := hbw.size
    go_grown
end Go.Proofs.YtbhgcfoplpjfjaaDoor
