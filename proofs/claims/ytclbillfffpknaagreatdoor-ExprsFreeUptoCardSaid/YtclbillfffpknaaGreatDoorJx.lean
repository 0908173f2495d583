/-
  The contract of values.Joined, for every two values; utf8.ValidString's contract is a hypothesis here.
-/
import Derived.Test.YtclbillfffpknaaGreatDoorTl
import Derived.BigCall
namespace Go.Proofs.YtclbillfffpknaaGreatDoor
open Go.RowKit Go.Shelf
variable (V : ByteArray → Bool) (Tabs : World → Prop)

theorem extra169 : Builder.Extra Tryz.prog Tryz.lays169_ren := {
  sizeBuilder := by kernel_rfl
  liesBuilder := by kernel_rfl
  t5 := Tryz.underlying5
  a5 := Tryz.isAgg5
  z5 := Tryz.sizeOf5
  v5 := Tryz.zeroValue5
  infoByte := by kernel_rfl
  cellsByte := by kernel_rfl
  sizeByte := by kernel_rfl
  neB5 := by decide }

theorem string_any (B b : Nat) (l : List UInt8) (w : World) (h : Lib.IsBuilderF 116 5 B b (Lib.byteCells l) w) (hBw : B ≤ w.heap.size) :
    Calls Tryz.prog 79 #[.pointer (some ⟨b, 0, none⟩)] w fun e w' => e = .returned (.string ⟨l.toArray⟩) ∧ (Lib.IsBuilderF 116 5 B b (Lib.byteCells l) w' ∧ Below B w w' ∧ Lib.OthersKept 5 (some b) w w') :=
  Any.Builder_String_any_k Tryz.lays169 extra169 B b l w h hBw
theorem len_any (B b : Nat) (bs : List Value) (w : World) (h : Lib.IsBuilderF 116 5 B b bs w) :
    Calls Tryz.prog 76 #[.pointer (some ⟨b, 0, none⟩)] w fun e w' => e = .returned (.int .i64 bs.length) ∧ w' = w :=
  Any.Builder_Len_f Tryz.lays170 B b bs w h
theorem runeLen_any (r : Int) (w : World) : Calls Tryz.prog 77 #[.int .i32 r] w fun e w' => e = .returned (.int .i64 (Lib.runeLen r)) ∧ w' = w :=
  Any.utf8_RuneLen Tryz.lays118 r w

set_option maxHeartbeats 1000000 in
theorem joined_good (hV : VSaid V Tabs) (hK : ∀ w w', Tabs w → Below w.heap.size w w' → Tabs w') (n n' : Int) (s s' : ByteArray) (w : World) (ra rb : List Nat) (hs : s.size ≤ 100) (hs' : s'.size ≤ 100) (hra : s.data.toList = enc ra) (hrb : s'.data.toList = enc rb)
    (hR : ∀ r ∈ ra ++ rb, IsR r) (hT : Tabs w) (hz : needZ2 V 3 n s 3 n' s' = 0) :
    Calls Tryz.prog 60 #[.agg #[.int .i64 3, .int .i64 n, .string s], .agg #[.int .i64 3, .int .i64 n', .string s']] w fun e w' => e = .returned (.tuple #[.agg #[.int .i64 3, .int .i64 0, .string ⟨(enc (fit 0 (ra ++ rb))).toArray⟩], .int .i64 0]) ∧ Below w.heap.size w w' := by
  have cN := fun (B : Nat) (W : World) => need2_any V Tabs hV hK 3 n 3 n' s s' B W (by omega) (by omega)
  have hT4 := hK w _ hT (((((Below.refl _ _).alloc (Nat.le_refl _) (Obj.cells #[Value.int IntKind.i64 3, Value.int IntKind.i64 n, Value.string s] 23)).alloc (by simp) (Obj.cells #[Value.int IntKind.i64 3, Value.int IntKind.i64 n', Value.string s'] 23)).alloc (by simp; omega) (Obj.cells #[Value.int IntKind.i64 0, Value.int IntKind.i64 0, Value.string ⟨#[]⟩] 23)).alloc (by simp; omega)
    (Obj.cells #[Value.int IntKind.i64 3, Value.int IntKind.i64 n, Value.string s, Value.int IntKind.i64 3, Value.int IntKind.i64 n', Value.string s'] 23))
  rw [hz] at cN
  have CN : Hid (∀ (B : Nat) (W : World), Tabs W → B < W.heap.size → W.cell? ⟨B, 0, none⟩ = some (.int .i64 3) → W.cell? ⟨B, 1, none⟩ = some (.int .i64 n) → W.cell? ⟨B, 2, none⟩ = some (.string s) → W.cell? ⟨B, 3, none⟩ = some (.int .i64 3) → W.cell? ⟨B, 4, none⟩ = some (.int .i64 n') → W.cell? ⟨B, 5, none⟩ = some (.string s') → Calls Tryz.prog 73 #[.slice (some ⟨B, 0, none⟩) 2 2] W fun e w' => e = .returned (.int .i64 0) ∧ Below W.heap.size W w') := cN
  obtain ⟨S, hS⟩ : ∃ S : ByteArray, s ++ s' = S := ⟨_, rfl⟩
  have hSl : S.data.toList = enc (ra ++ rb) := by rw [← hS, enc_append, ← hra, ← hrb]; simp
  have HS : Hid (s ++ s' = S) := hS
  have HL : Hid (S.data.toList = enc (ra ++ rb)) := hSl
  have HR : Hid (∀ r ∈ ra ++ rb, IsR r) := hR
  clear hV hK hT cN hz hra hrb hR hS hSl
  go_enter Tryz.func60, Tryz.ntmps60
  go_wp2_with fail
  refine (CN.out _ _ hT4 (by simp) (by go_cell) (by go_cell) (by go_cell) (by go_cell) (by go_cell) (by go_cell)).mono ?_
  rintro e w1 ⟨rfl, hb1⟩
  have hbw : Below w.heap.size w w1 := (((((Below.refl w.heap.size w).alloc (Nat.le_refl _) _).alloc (by simp) _).alloc (by simp; omega) _).alloc (by simp; omega) _).trans (hb1.mono (by simp; omega))
  have hsz1 : w.heap.size + 3 < w1.heap.size := by have := hb1.size; simp at this; omega
  have a2 : w1.cell? ⟨w.heap.size, 2, none⟩ = some (.string s) := (hb1.cell (p := ⟨w.heap.size, 2, none⟩) (by simp; omega)).trans (by go_cell)
  have b2 : w1.cell? ⟨w.heap.size + 1, 2, none⟩ = some (.string s') := (hb1.cell (p := ⟨w.heap.size + 1, 2, none⟩) (by simp)).trans (by go_cell)
  have r0 : w1.cell? ⟨w.heap.size + 1 + 1, 0, none⟩ = some (.int .i64 0) := (hb1.cell (p := ⟨w.heap.size + 1 + 1, 0, none⟩) (by simp)).trans (by go_cell)
  have r1 : w1.cell? ⟨w.heap.size + 1 + 1, 1, none⟩ = some (.int .i64 0) := (hb1.cell (p := ⟨w.heap.size + 1 + 1, 1, none⟩) (by simp)).trans (by go_cell)
  have r2 : w1.cell? ⟨w.heap.size + 1 + 1, 2, none⟩ = some (.string ⟨#[]⟩) := (hb1.cell (p := ⟨w.heap.size + 1 + 1, 2, none⟩) (by simp)).trans (by go_cell)
  have f0 : w1.frozen? ⟨w.heap.size + 1 + 1, 0, none⟩ = false := (hb1.frozen (p := ⟨w.heap.size + 1 + 1, 0, none⟩) (by simp)).trans (by go_simp)
  have f1 : w1.frozen? ⟨w.heap.size + 1 + 1, 1, none⟩ = false := (hb1.frozen (p := ⟨w.heap.size + 1 + 1, 1, none⟩) (by simp)).trans (by go_simp)
  have f2 : w1.frozen? ⟨w.heap.size + 1 + 1, 2, none⟩ = false := (hb1.frozen (p := ⟨w.heap.size + 1 + 1, 2, none⟩) (by simp)).trans (by go_simp)
  have a2' : (w1.alloc (Obj.cells #[Value.pointer none, Value.slice none 0 0] 116)).cell? ⟨w.heap.size, 2, none⟩ = some (.string s) := (((Below.refl w1.heap.size w1).alloc (Nat.le_refl _) _).cell (p := ⟨w.heap.size, 2, none⟩) (by omega : w.heap.size < w1.heap.size)).trans a2
  have b2' : (w1.alloc (Obj.cells #[Value.pointer none, Value.slice none 0 0] 116)).cell? ⟨w.heap.size + 1, 2, none⟩ = some (.string s') := (((Below.refl w1.heap.size w1).alloc (Nat.le_refl _) _).cell (p := ⟨w.heap.size + 1, 2, none⟩) (by omega : w.heap.size + 1 < w1.heap.size)).trans b2
  clear hb1 hT4 CN
  go_wp2_with fail
  rw [HS.out]
  clear a2 b2 a2' b2' HS hs hs'
  go_loopw [] (fun wr => ∃ (xs ys : List Nat), Lib.IsBuilderF 116 5 w1.heap.size w1.heap.size (Lib.byteCells (enc xs)) wr ∧ wr.heap[w1.heap.size + 1]? = some (.stringIter S (enc xs).length) ∧ Below w1.heap.size w1 wr ∧ ra ++ rb = xs ++ ys ∧ fit 0 (ra ++ rb) = xs ++ fit (enc xs).length ys ∧ (enc xs).length ≤ 100) (fun wr => S.size - wr.iterPos (w1.heap.size + 1))
  case atStart =>
    refine ⟨[], ra ++ rb, (Lib.IsBuilderF.of (Lib.fresh_isBuilder 116 5 w1)).alloc _, ?_, ((Below.refl _ w1).alloc (Nat.le_refl _) _).alloc (by simp) _, rfl, rfl, by simp [enc]⟩
    have := World.iter_heap (w1.alloc (.cells #[.pointer none, .slice none 0 0] 116)) S 0
    simpa [enc] using this
  case round =>
    obtain ⟨xs, ys, hI, hit, hbr, hsplit, hfit, hal⟩ := hrel
    have hsz : w1.heap.size + 1 < wr.heap.size := (Array.getElem?_eq_some_iff.1 hit).1
    have HL2 : Hid (S.data.toList = enc (xs ++ ys)) := by have := HL.out; rw [hsplit] at this; exact this
    have HR2 : Hid (∀ r ∈ xs ++ ys, IsR r) := by have := HR.out; rw [hsplit] at this; exact this
    have HF : Hid (fit 0 (ra ++ rb) = xs ++ fit (enc xs).length ys) := hfit
    have HP : Hid (ra ++ rb = xs ++ ys) := hsplit
    have hbw' : Below w.heap.size w wr := hbw.trans (hbr.mono hbw.size)
    clear hfit hsplit HL HR
    have r0' : ∀ W, Below w1.heap.size wr W → W.cell? ⟨w.heap.size + 1 + 1, 0, none⟩ = some (.int .i64 0) := fun W h => ((hbr.trans h).cell (p := ⟨w.heap.size + 1 + 1, 0, none⟩) (by omega : w.heap.size + 1 + 1 < w1.heap.size)).trans r0
    have r1' : ∀ W, Below w1.heap.size wr W → W.cell? ⟨w.heap.size + 1 + 1, 1, none⟩ = some (.int .i64 0) := fun W h => ((hbr.trans h).cell (p := ⟨w.heap.size + 1 + 1, 1, none⟩) (by omega : w.heap.size + 1 + 1 < w1.heap.size)).trans r1
    have r2' : ∀ W, Below w1.heap.size wr W → W.cell? ⟨w.heap.size + 1 + 1, 2, none⟩ = some (.string ⟨#[]⟩) := fun W h => ((hbr.trans h).cell (p := ⟨w.heap.size + 1 + 1, 2, none⟩) (by omega : w.heap.size + 1 + 1 < w1.heap.size)).trans r2
    have f0' : ∀ W, Below w1.heap.size wr W → W.frozen? ⟨w.heap.size + 1 + 1, 0, none⟩ = false := fun W h => ((hbr.trans h).frozen (p := ⟨w.heap.size + 1 + 1, 0, none⟩) (by omega : w.heap.size + 1 + 1 < w1.heap.size)).trans f0
    have f1' : ∀ W, Below w1.heap.size wr W → W.frozen? ⟨w.heap.size + 1 + 1, 1, none⟩ = false := fun W h => ((hbr.trans h).frozen (p := ⟨w.heap.size + 1 + 1, 1, none⟩) (by omega : w.heap.size + 1 + 1 < w1.heap.size)).trans f1
    have f2' : ∀ W, Below w1.heap.size wr W → W.frozen? ⟨w.heap.size + 1 + 1, 2, none⟩ = false := fun W h => ((hbr.trans h).frozen (p := ⟨w.heap.size + 1 + 1, 2, none⟩) (by omega : w.heap.size + 1 + 1 < w1.heap.size)).trans f2
    have KEEP : Hid (∀ W, Below w1.heap.size wr W → W.cell? ⟨w.heap.size + 1 + 1, 0, none⟩ = some (.int .i64 0) ∧ W.cell? ⟨w.heap.size + 1 + 1, 1, none⟩ = some (.int .i64 0) ∧ W.cell? ⟨w.heap.size + 1 + 1, 2, none⟩ = some (.string ⟨#[]⟩) ∧ W.frozen? ⟨w.heap.size + 1 + 1, 0, none⟩ = false ∧ W.frozen? ⟨w.heap.size + 1 + 1, 1, none⟩ = false ∧ W.frozen? ⟨w.heap.size + 1 + 1, 2, none⟩ = false) :=
      fun W h => ⟨r0' W h, r1' W h, r2' W h, f0' W h, f1' W h, f2' W h⟩
    clear r0 r1 r2 f0 f1 f2 r0' r1' r2' f0' f1' f2'
    cases ys with
    | nil =>
      have hp : ¬ (enc xs).length < S.size := by rw [size_list, HL2.out]; simp
      have hnx : ∀ ty, (Instr.next (.pointer (some ⟨w1.heap.size + 1, 0, none⟩)) true ty).run Tryz.prog wr = _ := fun ty => Lib.run_next_end_at wr (w1.heap.size + 1) S (enc xs).length ty hit hp
      go_wp2_with fail
      refine (string_any _ _ (enc xs) wr hI (by omega)).mono ?_
      rintro e w2 ⟨rfl, _, hb2, _⟩
      obtain ⟨r0, r1, r2, f0, f1, f2⟩ := KEEP.out w2 hb2
      have hbw2 : Below w.heap.size w w2 := hbw'.trans (hb2.mono (by omega))
      have HE : Hid (fit 0 (ra ++ rb) = xs) := by have := HF.out; rw [show fit (enc xs).length [] = [] from rfl, List.append_nil] at this; exact this
      clear hnx hI hit hbr KEEP hb2 HL2 HR2 HF HP
      go_wp2
      rw [HE.out]
      refine bodyPost_ret (v := .tuple #[.agg #[.int .i64 3, .int .i64 0, .string ⟨(enc xs).toArray⟩], .int .i64 0]) (by simp [results, Tryz.results60, go_sem, r0, r1, r2]) rfl ⟨rfl, ?_⟩
      have hsz := hbw2.size
      go_grown
    | cons r ys =>
      have hr : IsR r := HR2.out r (by simp)
      have hpz := rl_pos r
      have hp : (enc xs).length < S.size := by rw [size_list, HL2.out, enc_append, List.length_append, enc_len_cons]; omega
      have hd := decode_mid S xs r ys HL2.out hr
      have hnx : ∀ ty, (Instr.next (.pointer (some ⟨w1.heap.size + 1, 0, none⟩)) true ty).run Tryz.prog wr = _ := fun ty => Lib.run_next_any_at wr (w1.heap.size + 1) S (enc xs).length ty hit hp
      rw [hd] at hnx
      have hrb : (r : Int) ≤ 1114111 := by unfold IsR at hr; omega
      have hI2 := hI.iterAt hit ((enc xs).length + rl r)
      have hit2 := Lib.iterAt_heap wr (w1.heap.size + 1) S (enc xs).length ((enc xs).length + rl r) hit
      have hbr2 := Lib.below_iterAt hbr (k := w1.heap.size + 1) (by omega) S ((enc xs).length + rl r)
      have hbr3 := Lib.below_iterAt (Below.refl w1.heap.size wr) (k := w1.heap.size + 1) (by omega) S ((enc xs).length + rl r)
      have hsz2 : w1.heap.size ≤ (wr.iterAt (w1.heap.size + 1) S ((enc xs).length + rl r)).heap.size := by rw [Lib.iterAt_size]; omega
      have cL := len_any w1.heap.size w1.heap.size (Lib.byteCells (enc xs)) _ hI2
      rw [Lib.byteCells_length] at cL
      have cR := runeLen_any (r : Int)
      rw [runeLen_eq r hr] at cR
      have HRL : Hid (rl r = (Lib.runeCells (r : Int)).length) := (Lib.runeCells_length _).symm
      generalize hk : rl r = k at *
      have HK : Hid (rl r = k) := hk
      have hpk := hpz.1
      clear hk hd hr
      have CR : Hid (∀ (W : World), Calls Tryz.prog 77 #[.int .i32 (r : Int)] W fun e w' => e = .returned (.int .i64 (k : Int)) ∧ w' = W) := cR
      clear cR
      go_wp2_with fail
      refine cL.mono ?_
      rintro e w2 ⟨rfl, rfl⟩
      clear cL
      have hsum : (0 : Int) ≤ ((enc xs).length : Int) := by omega
      have hsum2 : ((enc xs).length : Int) ≤ 100 := by omega
      have hk4 : (k : Int) ≤ 4 := by omega
      by_cases hbig : 100 < (enc xs).length + k
      · have hbz : (100 : Int) < ((enc xs).length : Int) + (k : Int) := by omega
        go_wp2_with fail
        refine (CR.out _).mono ?_
        rintro e w2 ⟨rfl, rfl⟩
        go_wp2_with fail
        refine (string_any _ _ (enc xs) _ hI2 hsz2).mono ?_
        rintro e w2 ⟨rfl, _, hb2, _⟩
        obtain ⟨r0, r1, r2, f0, f1, f2⟩ := KEEP.out w2 (hbr3.trans hb2)
        have hbw2 : Below w.heap.size w w2 := hbw'.trans ((hbr3.trans hb2).mono (by omega))
        have HE : Hid (fit 0 (ra ++ rb) = xs) := by
          have := HF.out
          rw [show fit (enc xs).length (r :: ys) = [] by unfold fit; rw [HK.out, if_pos hbig], List.append_nil] at this
          exact this
        clear hnx hI hit hbr KEEP hb2 HL2 HR2 HF HP hI2 hit2 hbr2 hbr3
        go_wp2
        rw [HE.out]
        refine bodyPost_ret (v := .tuple #[.agg #[.int .i64 3, .int .i64 0, .string ⟨(enc xs).toArray⟩], .int .i64 0]) (by simp [results, Tryz.results60, go_sem, r0, r1, r2]) rfl ⟨rfl, ?_⟩
        have hsz := hbw2.size
        go_grown
      · have hbz : ¬ (100 : Int) < ((enc xs).length : Int) + (k : Int) := by omega
        go_wp2_with fail
        refine (CR.out _).mono ?_
        rintro e w2 ⟨rfl, rfl⟩
        go_wp2_with fail
        refine (writeRune_any w1.heap.size w1.heap.size _ (r : Int) (by omega) (by omega) _ hI2 (by rw [Lib.byteCells_length]; omega) hsz2).mono ?_
        rintro e w2 ⟨rfl, h1, b1, k1⟩
        go_wp2
        go_roundw
        case rel =>
          have hlen : (enc (xs ++ [r])).length = (enc xs).length + k := by rw [enc_append, List.length_append, enc_len_cons, HK.out]; rfl
          refine ⟨xs ++ [r], ys, ?_, ?_, hbr2.trans b1, ?_, ?_, by omega⟩
          · rw [enc_append, Lib.byteCells_append, show enc [r] = Lib.encodeRune (r : Int) by simp [enc], Lib.byteCells_encodeRune]; exact Or.inr h1
          · rw [hlen]; exact k1.iter hit2 (by omega)
          · rw [HP.out]; simp
          · rw [HF.out, hlen]
            rw [show fit (enc xs).length (r :: ys) = r :: fit ((enc xs).length + k) ys by rw [← HK.out]; rw [show fit (enc xs).length (r :: ys) = if 100 < (enc xs).length + rl r then [] else r :: fit ((enc xs).length + rl r) ys from rfl, if_neg (by rw [HK.out]; exact hbig)]]
            simp
        case measure =>
          simp only [World.iterPos, k1.iter hit2 (by omega), hit]
          omega

set_option maxHeartbeats 400000 in
theorem joined_bad (hV : VSaid V Tabs) (hK : ∀ w w', Tabs w → Below w.heap.size w w' → Tabs w') (so n so' n' : Int) (s s' : ByteArray) (w : World) (hs : s.size ≤ 9223372036854775807) (hs' : s'.size ≤ 9223372036854775807) (hT : Tabs w) (hz : needZ2 V so n s so' n' s' ≠ 0) :
    Calls Tryz.prog 60 #[.agg #[.int .i64 so, .int .i64 n, .string s], .agg #[.int .i64 so', .int .i64 n', .string s']] w fun e w' => e = .returned (.tuple #[.agg #[.int .i64 0, .int .i64 0, .string ⟨#[]⟩], .int .i64 (needZ2 V so n s so' n' s')]) ∧ Below w.heap.size w w' := by
  have cN := fun (B : Nat) (W : World) => need2_any V Tabs hV hK so n so' n' s s' B W (by omega) (by omega)
  have hT4 := hK w _ hT (((((Below.refl _ _).alloc (Nat.le_refl _) (Obj.cells #[Value.int IntKind.i64 so, Value.int IntKind.i64 n, Value.string s] 23)).alloc (by simp) (Obj.cells #[Value.int IntKind.i64 so', Value.int IntKind.i64 n', Value.string s'] 23)).alloc (by simp; omega) (Obj.cells #[Value.int IntKind.i64 0, Value.int IntKind.i64 0, Value.string ⟨#[]⟩] 23)).alloc (by simp; omega)
    (Obj.cells #[Value.int IntKind.i64 so, Value.int IntKind.i64 n, Value.string s, Value.int IntKind.i64 so', Value.int IntKind.i64 n', Value.string s'] 23))
  generalize needZ2 V so n s so' n' s' = z at cN hz ⊢
  have CN : Hid (∀ (B : Nat) (W : World), Tabs W → B < W.heap.size → W.cell? ⟨B, 0, none⟩ = some (.int .i64 so) → W.cell? ⟨B, 1, none⟩ = some (.int .i64 n) → W.cell? ⟨B, 2, none⟩ = some (.string s) → W.cell? ⟨B, 3, none⟩ = some (.int .i64 so') → W.cell? ⟨B, 4, none⟩ = some (.int .i64 n') → W.cell? ⟨B, 5, none⟩ = some (.string s') → Calls Tryz.prog 73 #[.slice (some ⟨B, 0, none⟩) 2 2] W fun e w' => e = .returned (.int .i64 z) ∧ Below W.heap.size W w') := cN
  have hzb : (z != 0) = true := by simpa using hz
  clear hV hK hT cN
  go_enter Tryz.func60, Tryz.ntmps60
  go_wp2_with fail
  refine (CN.out _ _ hT4 (by simp) (by go_cell) (by go_cell) (by go_cell) (by go_cell) (by go_cell) (by go_cell)).mono ?_
  rintro e w1 ⟨rfl, hb1⟩
  have hbw : Below w.heap.size w w1 := (((((Below.refl w.heap.size w).alloc (Nat.le_refl _) _).alloc (by simp) _).alloc (by simp; omega) _).alloc (by simp; omega) _).trans (hb1.mono (by simp; omega))
  have r0 : w1.cell? ⟨w.heap.size + 1 + 1, 0, none⟩ = some (.int .i64 0) := (hb1.cell (p := ⟨w.heap.size + 1 + 1, 0, none⟩) (by simp)).trans (by go_cell)
  have r1 : w1.cell? ⟨w.heap.size + 1 + 1, 1, none⟩ = some (.int .i64 0) := (hb1.cell (p := ⟨w.heap.size + 1 + 1, 1, none⟩) (by simp)).trans (by go_cell)
  have r2 : w1.cell? ⟨w.heap.size + 1 + 1, 2, none⟩ = some (.string ⟨#[]⟩) := (hb1.cell (p := ⟨w.heap.size + 1 + 1, 2, none⟩) (by simp)).trans (by go_cell)
  have f0 : w1.frozen? ⟨w.heap.size + 1 + 1, 0, none⟩ = false := (hb1.frozen (p := ⟨w.heap.size + 1 + 1, 0, none⟩) (by simp)).trans (by go_simp)
  have f1 : w1.frozen? ⟨w.heap.size + 1 + 1, 1, none⟩ = false := (hb1.frozen (p := ⟨w.heap.size + 1 + 1, 1, none⟩) (by simp)).trans (by go_simp)
  have f2 : w1.frozen? ⟨w.heap.size + 1 + 1, 2, none⟩ = false := (hb1.frozen (p := ⟨w.heap.size + 1 + 1, 2, none⟩) (by simp)).trans (by go_simp)
  clear hb1 hT4 CN
  go_wp2
  refine bodyPost_ret (v := .tuple #[.agg #[.int .i64 0, .int .i64 0, .string ⟨#[]⟩], .int .i64 z]) (by simp [results, Tryz.results60, go_sem, r0, r1, r2]) rfl ⟨rfl, ?_⟩
  have hsz := hbw.size
  go_grown
end Go.Proofs.YtclbillfffpknaaGreatDoor
