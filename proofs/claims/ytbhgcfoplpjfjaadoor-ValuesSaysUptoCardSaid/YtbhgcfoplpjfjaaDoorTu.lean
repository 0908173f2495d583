/-
  The contracts of values.Length and values.Turned, for every value, and of slices.Reverse at letters; utf8.ValidString's contract is a hypothesis here.
-/
import Derived.Test.YtbhgcfoplpjfjaaDoorNa
import Derived.Test.YtbhgcfoplpjfjaaDoorBu
import Derived.Test.YtbhgcfoplpjfjaaDoorUb
import Derived.Lib.OwnBridge
namespace Go.Proofs.YtbhgcfoplpjfjaaDoor
open Go.RowKit Go.Shelf
variable (V : ByteArray → Bool) (Tabs : World → Prop)

theorem count_any (s : ByteArray) (w : World) (hs : s.size < 9223372036854775807) :
    Calls Tryd.prog 38 #[.string s] w fun e w' => e = .returned (.int .i64 (Lib.runeCount s)) ∧ Below w.heap.size w w' :=
  (Any.utf8_RuneCountInString Tryd.lays195 s w hs).mono (by
    rintro e w' ⟨rfl, pos, rfl⟩
    exact ⟨rfl, (Below.refl _ _).alloc (Nat.le_refl _) _⟩)

/-- what values.Length tells of a value that may be any -/
def lenZ (V : ByteArray → Bool) (so n : Int) (s : ByteArray) : Int := if needZ1 V so n s = 0 then (Lib.runeCount s : Int) else 0

set_option maxHeartbeats 400000 in
theorem length_any (hV : VSaid V Tabs) (hK : ∀ w w', Tabs w → Below w.heap.size w w' → Tabs w') (so n : Int) (s : ByteArray) (w : World) (hs : s.size < 9223372036854775807) (hT : Tabs w) :
    Calls Tryd.prog 16 #[.agg #[.int .i64 so, .int .i64 n, .string s]] w fun e w' => e = .returned (.tuple #[.int .i64 (lenZ V so n s), .int .i64 (needZ1 V so n s)]) ∧ Below w.heap.size w w' := by
  have hT2 : Tabs ((w.alloc (Obj.cells #[Value.int IntKind.i64 so, Value.int IntKind.i64 n, Value.string s] 23)).alloc (Obj.cells #[Value.int IntKind.i64 so, Value.int IntKind.i64 n, Value.string s] 23)) :=
    hK _ _ hT (((Below.refl _ _).alloc (Nat.le_refl _) _).alloc (by simp) _)
  have cN := fun (B : Nat) (W : World) => need1_any V Tabs hV hK so n s B W (by omega)
  unfold lenZ
  generalize needZ1 V so n s = z at cN ⊢
  have cC := count_any s
  generalize Lib.runeCount s = k at cC ⊢
  have CN : Hid (∀ (B : Nat) (W : World), Tabs W → B < W.heap.size → W.cell? ⟨B, 0, none⟩ = some (.int .i64 so) → W.cell? ⟨B, 1, none⟩ = some (.int .i64 n) → W.cell? ⟨B, 2, none⟩ = some (.string s) → Calls Tryd.prog 36 #[.slice (some ⟨B, 0, none⟩) 1 1] W fun e w' => e = .returned (.int .i64 z) ∧ Below W.heap.size W w') := cN
  have CC : Hid (∀ (W : World), s.size < 9223372036854775807 → Calls Tryd.prog 38 #[.string s] W fun e w' => e = .returned (.int .i64 k) ∧ Below W.heap.size W w') := cC
  clear hV hK hT cN cC
  go_enter Tryd.func16, Tryd.ntmps16
  go_wp2_with fail
  refine (CN.out _ _ hT2 (by simp) (by go_cell) (by go_cell) (by go_cell)).mono ?_
  rintro e w1 ⟨rfl, hb1⟩
  have hbw : Below w.heap.size w w1 := (((Below.refl w.heap.size w).alloc (Nat.le_refl _) _).alloc (by simp) _).trans (hb1.mono (by simp; omega))
  have a2 : w1.cell? ⟨w.heap.size, 2, none⟩ = some (.string s) := (hb1.cell (p := ⟨w.heap.size, 2, none⟩) (by simp; omega)).trans (by go_cell)
  clear hb1 hT2 CN
  by_cases hz : z = 0
  · subst hz
    go_wp2_with (go_at_call 38; go_must (refine (CC.out _ hs).mono ?_; rintro e w2 ⟨rfl, hb2⟩))
    go_ret2
    exact ⟨rfl, hbw.trans (hb2.mono hbw.size)⟩
  · have hzb : (z != 0) = true := by simpa using hz
    go_wp2
    go_ret2
    exact ⟨rfl, hbw⟩

theorem addr_add (b j : Nat) : (⟨b, 0, none⟩ : Addr).add j = ⟨b, j, none⟩ := by
  by_cases h : j = 0 <;> simp [Addr.add, h]

theorem row_cell (w : World) (zs : List Int) (k t j : Nat) (hj : j < zs.length) :
    ((w.alloc (.cells ((zs.map fun r : Int => Value.int .i32 r).toArray ++ Array.replicate k (.int .i32 0)) t)).drew).cell? ⟨w.heap.size, j, none⟩ = some (.int .i32 (zs.getD j 0)) := by
  have h : (w.alloc (.cells ((zs.map fun r : Int => Value.int .i32 r).toArray ++ Array.replicate k (.int .i32 0)) t)).drew.heap[w.heap.size]? = some (.cells ((zs.map fun r : Int => Value.int .i32 r).toArray ++ Array.replicate k (.int .i32 0)) t) := by
    show (w.heap.push _)[w.heap.size]? = _
    simp
  unfold World.cell?
  rw [h]
  simp only
  rw [Array.getElem?_append_left (by simpa using hj)]
  simp [List.getD, List.getElem?_eq_getElem hj]
theorem row_frozen (w : World) (cs : Array Value) (t j : Nat) : ((w.alloc (.cells cs t)).drew).frozen? ⟨w.heap.size, j, none⟩ = false := by
  have h : (w.alloc (.cells cs t)).drew.heap[w.heap.size]? = some (.cells cs t) := by
    show (w.heap.push _)[w.heap.size]? = _
    simp
  unfold World.frozen?
  rw [h]
  simp

theorem reverse_any (zs : List Int) (blk cap : Nat) (w : World) (hlen : zs.length ≤ 100)
    (hc : ∀ j, j < zs.length → w.cell? ⟨blk, j, none⟩ = some (.int .i32 (zs.getD j 0))) (hf : ∀ j, j < zs.length → w.frozen? ⟨blk, j, none⟩ = false) :
    Calls Tryd.prog 37 #[.slice (some ⟨blk, 0, none⟩) zs.length cap] w fun e w' => e = .returned (.tuple #[]) ∧ Below blk w w' ∧ (∀ j, j < zs.reverse.length → w'.cell? ⟨blk, j, none⟩ = some (.int .i32 (zs.reverse.getD j 0))) := by
  have hH : Sort.Holds (Value.int .i32) w blk 0 zs.toArray := by
    intro j hj
    have hj' : j < zs.length := by simpa using hj
    rw [Nat.zero_add]
    refine ⟨(hc j hj').trans ?_, hf j hj'⟩
    rw [getElem!_pos _ j hj]
    simp [List.getD, List.getElem?_eq_getElem hj']
  refine (AnyE.slices_Reverse Tryd.laysRev (Value.int .i32) (fun _ => rfl) blk 0 cap zs w hH (by omega)).mono ?_
  rintro e w' ⟨rfl, k, rfl⟩
  refine ⟨rfl, Lib.below_putRow (Below.refl _ _) (Nat.le_refl _), fun j hj => ?_⟩
  have h1 := Sort.holds_putRow (Value.int .i32) (Sort.ahead w k) blk 0 zs.toArray zs.reverse.toArray hH (by simp)
  have h2 := (h1 j (by simpa using hj)).1
  rw [Nat.zero_add] at h2
  rw [h2]
  rw [getElem!_pos _ j (by simpa using hj)]
  simp [List.getD, List.getElem?_eq_getElem hj]

/-- what values.Turned tells, where the letters are rs -/
theorem turned_bad (hV : VSaid V Tabs) (hK : ∀ w w', Tabs w → Below w.heap.size w w' → Tabs w') (so n : Int) (s : ByteArray) (w : World) (hs : s.size ≤ 9223372036854775807) (hT : Tabs w) (hz : needZ1 V so n s ≠ 0) :
    Calls Tryd.prog 15 #[.agg #[.int .i64 so, .int .i64 n, .string s]] w fun e w' => e = .returned (.tuple #[.agg #[.int .i64 0, .int .i64 0, .string ⟨#[]⟩], .int .i64 (needZ1 V so n s)]) ∧ Below w.heap.size w w' := by
  have cN := fun (B : Nat) (W : World) => need1_any V Tabs hV hK so n s B W (by omega)
  have hT3 := hK w _ hT ((((Below.refl _ _).alloc (Nat.le_refl _) (Obj.cells #[Value.int IntKind.i64 so, Value.int IntKind.i64 n, Value.string s] 23)).alloc (by simp) (Obj.cells #[Value.int IntKind.i64 0, Value.int IntKind.i64 0, Value.string ⟨#[]⟩] 23)).alloc (by simp; omega) (Obj.cells #[Value.int IntKind.i64 so, Value.int IntKind.i64 n, Value.string s] 23))
  generalize needZ1 V so n s = z at cN hz ⊢
  have CN : Hid (∀ (B : Nat) (W : World), Tabs W → B < W.heap.size → W.cell? ⟨B, 0, none⟩ = some (.int .i64 so) → W.cell? ⟨B, 1, none⟩ = some (.int .i64 n) → W.cell? ⟨B, 2, none⟩ = some (.string s) → Calls Tryd.prog 36 #[.slice (some ⟨B, 0, none⟩) 1 1] W fun e w' => e = .returned (.int .i64 z) ∧ Below W.heap.size W w') := cN
  have hzb : (z != 0) = true := by simpa using hz
  clear hV hK hT cN
  go_enter Tryd.func15, Tryd.ntmps15
  go_wp2_with fail
  refine (CN.out _ _ hT3 (by simp) (by go_cell) (by go_cell) (by go_cell)).mono ?_
  rintro e w1 ⟨rfl, hb1⟩
  have hbw : Below w.heap.size w w1 := ((((Below.refl w.heap.size w).alloc (Nat.le_refl _) _).alloc (by simp) _).alloc (by simp; omega) _).trans (hb1.mono (by simp; omega))
  have r0 : w1.cell? ⟨w.heap.size + 1, 0, none⟩ = some (.int .i64 0) := (hb1.cell (p := ⟨w.heap.size + 1, 0, none⟩) (by simp)).trans (by go_cell)
  have r1 : w1.cell? ⟨w.heap.size + 1, 1, none⟩ = some (.int .i64 0) := (hb1.cell (p := ⟨w.heap.size + 1, 1, none⟩) (by simp)).trans (by go_cell)
  have r2 : w1.cell? ⟨w.heap.size + 1, 2, none⟩ = some (.string ⟨#[]⟩) := (hb1.cell (p := ⟨w.heap.size + 1, 2, none⟩) (by simp)).trans (by go_cell)
  have f0 : w1.frozen? ⟨w.heap.size + 1, 0, none⟩ = false := (hb1.frozen (p := ⟨w.heap.size + 1, 0, none⟩) (by simp)).trans (by go_simp)
  have f1 : w1.frozen? ⟨w.heap.size + 1, 1, none⟩ = false := (hb1.frozen (p := ⟨w.heap.size + 1, 1, none⟩) (by simp)).trans (by go_simp)
  have f2 : w1.frozen? ⟨w.heap.size + 1, 2, none⟩ = false := (hb1.frozen (p := ⟨w.heap.size + 1, 2, none⟩) (by simp)).trans (by go_simp)
  clear hb1 hT3 CN
  go_wp2
  refine bodyPost_ret (v := .tuple #[.agg #[.int .i64 0, .int .i64 0, .string ⟨#[]⟩], .int .i64 z]) (by simp [results, Tryd.results15, go_sem, r0, r1, r2]) rfl ⟨rfl, ?_⟩
  have hsz := hbw.size
  go_grown

set_option maxHeartbeats 1000000 in
theorem turned_good (hV : VSaid V Tabs) (hK : ∀ w w', Tabs w → Below w.heap.size w w' → Tabs w') (n : Int) (s : ByteArray) (w : World) (rs : List Nat) (hs : s.size ≤ 100) (hrs : s.data.toList = enc rs) (hR : ∀ r ∈ rs, IsR r) (hT : Tabs w) (hz : needZ1 V 3 n s = 0) :
    Calls Tryd.prog 15 #[.agg #[.int .i64 3, .int .i64 n, .string s]] w fun e w' => e = .returned (.tuple #[.agg #[.int .i64 3, .int .i64 0, .string ⟨(enc rs.reverse).toArray⟩], .int .i64 0]) ∧ Below w.heap.size w w' := by
  have cN := fun (B : Nat) (W : World) => need1_any V Tabs hV hK 3 n s B W (by omega)
  have hT3 := hK w _ hT ((((Below.refl _ _).alloc (Nat.le_refl _) (Obj.cells #[Value.int IntKind.i64 3, Value.int IntKind.i64 n, Value.string s] 23)).alloc (by simp) (Obj.cells #[Value.int IntKind.i64 0, Value.int IntKind.i64 0, Value.string ⟨#[]⟩] 23)).alloc (by simp; omega) (Obj.cells #[Value.int IntKind.i64 3, Value.int IntKind.i64 n, Value.string s] 23))
  rw [hz] at cN
  have CN : Hid (∀ (B : Nat) (W : World), Tabs W → B < W.heap.size → W.cell? ⟨B, 0, none⟩ = some (.int .i64 3) → W.cell? ⟨B, 1, none⟩ = some (.int .i64 n) → W.cell? ⟨B, 2, none⟩ = some (.string s) → Calls Tryd.prog 36 #[.slice (some ⟨B, 0, none⟩) 1 1] W fun e w' => e = .returned (.int .i64 0) ∧ Below W.heap.size W w') := cN
  have hlen : rs.length ≤ 100 := by have := enc_len_ge rs; rw [← hrs, ← size_list] at this; omega
  obtain ⟨zs, hzs⟩ : ∃ zs : List Int, rs.map (fun r : Nat => (r : Int)) = zs := ⟨_, rfl⟩
  have hzl : zs.length ≤ 100 := by rw [← hzs, List.length_map]; exact hlen
  have hrun : Conv.runesFrom s s.size 0 #[] = (zs.map fun r : Int => Value.int .i32 r).toArray := by rw [runes_enc s rs hrs hR, ← hzs, List.map_map]; rfl
  have hback : (runesBytes zs.reverse) = ⟨(enc rs.reverse).toArray⟩ := by
    apply ByteArray.ext
    apply Array.toList_inj.1
    rw [← hzs, ← List.map_reverse, runesBytes_enc _ (fun r hr => hR r (by simpa using hr))]
  have HB : Hid (runesBytes zs.reverse = ⟨(enc rs.reverse).toArray⟩) := hback
  have conv : ∀ W : World, (convert 9 40 (.string s)).run Tryd.prog W = .ok (.slice (some ⟨W.heap.size, 0, none⟩) zs.length (grownCap W zs.length 0 21))
      (W.drew.alloc (.cells ((zs.map fun r : Int => Value.int .i32 r).toArray ++ Array.replicate (grownCap W zs.length 0 21 - zs.length) (.int .i32 0)) 21)) := fun W => by
    have := run_runes_of_string (P := Tryd.prog) W 9 40 21 s Tryd.underlying9 Tryd.underlying40 Tryd.underlying21 (by rw [hrun]; simp; omega)
    rw [hrun] at this
    simpa using this
  clear hV hK hT cN hback hrun hz hrs hR hzs
  go_enter Tryd.func15, Tryd.ntmps15
  go_wp2_with fail
  refine (CN.out _ _ hT3 (by simp) (by go_cell) (by go_cell) (by go_cell)).mono ?_
  rintro e w1 ⟨rfl, hb1⟩
  have hbw : Below w.heap.size w w1 := ((((Below.refl w.heap.size w).alloc (Nat.le_refl _) _).alloc (by simp) _).alloc (by simp; omega) _).trans (hb1.mono (by simp; omega))
  have hsz1 : w.heap.size + 2 < w1.heap.size := by have := hb1.size; simp at this; omega
  have a2 : w1.cell? ⟨w.heap.size, 2, none⟩ = some (.string s) := (hb1.cell (p := ⟨w.heap.size, 2, none⟩) (by simp; omega)).trans (by go_cell)
  have r0 : w1.cell? ⟨w.heap.size + 1, 0, none⟩ = some (.int .i64 0) := (hb1.cell (p := ⟨w.heap.size + 1, 0, none⟩) (by simp)).trans (by go_cell)
  have r1 : w1.cell? ⟨w.heap.size + 1, 1, none⟩ = some (.int .i64 0) := (hb1.cell (p := ⟨w.heap.size + 1, 1, none⟩) (by simp)).trans (by go_cell)
  have r2 : w1.cell? ⟨w.heap.size + 1, 2, none⟩ = some (.string ⟨#[]⟩) := (hb1.cell (p := ⟨w.heap.size + 1, 2, none⟩) (by simp)).trans (by go_cell)
  have f0 : w1.frozen? ⟨w.heap.size + 1, 0, none⟩ = false := (hb1.frozen (p := ⟨w.heap.size + 1, 0, none⟩) (by simp)).trans (by go_simp)
  have f1 : w1.frozen? ⟨w.heap.size + 1, 1, none⟩ = false := (hb1.frozen (p := ⟨w.heap.size + 1, 1, none⟩) (by simp)).trans (by go_simp)
  have f2 : w1.frozen? ⟨w.heap.size + 1, 2, none⟩ = false := (hb1.frozen (p := ⟨w.heap.size + 1, 2, none⟩) (by simp)).trans (by go_simp)
  clear hb1 hT3 CN
  go_wp2_with fail
  refine (reverse_any zs w1.heap.size _ _ hzl (fun j hj => row_cell w1 zs _ 21 j hj) (fun j _ => row_frozen w1 _ 21 j)).mono ?_
  rintro e w2 ⟨rfl, hb2, hc2⟩
  have back : (convert 40 9 (.slice (some ⟨w1.heap.size, 0, none⟩) zs.length (grownCap w1 zs.length 0 21))).run Tryd.prog w2 = .ok (.string ⟨(enc rs.reverse).toArray⟩) w2 := by
    have := run_convert_runes (P := Tryd.prog) w2 40 9 21 ⟨w1.heap.size, 0, none⟩ zs.length (grownCap w1 zs.length 0 21) zs.reverse (by simp) Tryd.underlying40 Tryd.underlying21 Tryd.underlying9 (fun j hj => by rw [addr_add]; exact hc2 j hj)
    rw [this, List.take_of_length_le (by simp), HB.out]
  have old : ∀ b o, b < w1.heap.size → w2.cell? ⟨b, o, none⟩ = w1.cell? ⟨b, o, none⟩ := fun b o h => by
    rw [hb2.cell (p := ⟨b, o, none⟩) h]
    exact (((Below.refl w1.heap.size w1).alloc (Nat.le_refl _) _).drew).cell (p := ⟨b, o, none⟩) h
  have oldf : ∀ b o, b < w1.heap.size → w2.frozen? ⟨b, o, none⟩ = w1.frozen? ⟨b, o, none⟩ := fun b o h => by
    rw [hb2.frozen (p := ⟨b, o, none⟩) h]
    exact (((Below.refl w1.heap.size w1).alloc (Nat.le_refl _) _).drew).frozen (p := ⟨b, o, none⟩) h
  replace r0 := (old (w.heap.size + 1) 0 (by omega)).trans r0
  replace r1 := (old (w.heap.size + 1) 1 (by omega)).trans r1
  replace r2 := (old (w.heap.size + 1) 2 (by omega)).trans r2
  replace f0 := (oldf (w.heap.size + 1) 0 (by omega)).trans f0
  replace f1 := (oldf (w.heap.size + 1) 1 (by omega)).trans f1
  replace f2 := (oldf (w.heap.size + 1) 2 (by omega)).trans f2
  have hbw2 : Below w.heap.size w w2 := (hbw.trans ((((Below.refl w1.heap.size w1).alloc (Nat.le_refl _) _).drew).trans hb2 |>.mono (by omega)))
  clear old oldf hc2 hb2 conv hbw HB
  go_wp2
  refine bodyPost_ret (v := .tuple #[.agg #[.int .i64 3, .int .i64 0, .string ⟨(enc rs.reverse).toArray⟩], .int .i64 0]) (by simp [results, Tryd.results15, go_sem, r0, r1, r2]) rfl ⟨rfl, ?_⟩
  have hsz := hbw2.size
  go_grown
end Go.Proofs.YtbhgcfoplpjfjaaDoor
