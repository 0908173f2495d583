/-
  The contract of values.Joined, for every two values; utf8.ValidString's contract is a hypothesis here.
-/
import Derived.Test.YtecapnipkngniaaGreatDoorTl
import Derived.BigCall
import Derived.Deep.QuietTactic
import Derived.BigQuiet
import Derived.Test.YtecapnipkngniaaGreatDoorNa
import Derived.Deep.RegionHeld3
import Derived.Deep.DeepFit
import Derived.Lib.Bytealg
import Derived.WalkKit
namespace Go.Proofs.YtecapnipkngniaaGreatDoor
open Go.RowKit Go.Shelf
variable (V : ByteArray → Bool) (Tabs : World → Prop)

theorem extra169 : Builder.Extra Tryz.prog Tryz.lays169_ren := {
  sizeBuilder := by kernel_rfl
  liesBuilder := by kernel_rfl
  t5 := Tryz.underlying5
  a5 := Tryz.isAgg5
  z5 := Tryz.sizeOf5
  v5 := Tryz.zeroValue5
  infoByte := by kernel_rfl
  cellsByte := by kernel_rfl
  sizeByte := by kernel_rfl
  neB5 := by decide }

theorem string_any (B b : Nat) (l : List UInt8) (w : World) (h : Lib.IsBuilderF 136 5 B b (Lib.byteCells l) w) (hBw : B ≤ w.heap.size) :
    Calls Tryz.prog 110 #[.pointer (some ⟨b, 0, none⟩)] w fun e w' => e = .returned (.string ⟨l.toArray⟩) ∧ (Lib.IsBuilderF 136 5 B b (Lib.byteCells l) w' ∧ Below B w w' ∧ Lib.OthersKept 5 (some b) w w') :=
  Any.Builder_String_any_k Tryz.lays169 extra169 B b l w h hBw
theorem len_any (B b : Nat) (bs : List Value) (w : World) (h : Lib.IsBuilderF 136 5 B b bs w) :
    Calls Tryz.prog 108 #[.pointer (some ⟨b, 0, none⟩)] w fun e w' => e = .returned (.int .i64 bs.length) ∧ w' = w :=
  Any.Builder_Len_f Tryz.lays170 B b bs w h
theorem runeLen_any (r : Int) (w : World) : Calls Tryz.prog 83 #[.int .i32 r] w fun e w' => e = .returned (.int .i64 (Lib.runeLen r)) ∧ w' = w :=
  Any.utf8_RuneLen Tryz.lays118 r w

set_option maxHeartbeats 1000000 in
theorem joined_good (hV : VSaid V Tabs) (hK : ∀ w w', Tabs w → Below w.heap.size w w' → Tabs w') (n n' : Int) (s s' : ByteArray) (w : World) (ra rb : List Nat) (hs : s.size ≤ 100) (hs' : s'.size ≤ 100) (hra : s.data.toList = enc ra) (hrb : s'.data.toList = enc rb)
    (hR : ∀ r ∈ ra ++ rb, IsR r) (hT : Tabs w) (hz : needZ2 V 3 n s 3 n' s' = 0) :
    Calls Tryz.prog 75 #[.agg #[.int .i64 3, .int .i64 n, .string s], .agg #[.int .i64 3, .int .i64 n', .string s']] w fun e w' => e = .returned (.tuple #[.agg #[.int .i64 3, .int .i64 0, .string ⟨(enc (fit 0 (ra ++ rb))).toArray⟩], .int .i64 0]) ∧ Below w.heap.size w w' := by
  have cN := fun (B : Nat) (W : World) => need2_any V Tabs hV hK 3 n 3 n' s s' B W (by omega) (by omega)
  have hT4 := hK w _ hT (((((Below.refl _ _).alloc (Nat.le_refl _) (Obj.cells #[Value.int IntKind.i64 3, Value.int IntKind.i64 n, Value.string s] 23)).alloc (by simp) (Obj.cells #[Value.int IntKind.i64 3, Value.int IntKind.i64 n', Value.string s'] 23)).alloc (by simp; omega) (Obj.cells #[Value.int IntKind.i64 0, Value.int IntKind.i64 0, Value.string ⟨#[]⟩] 23)).alloc (by simp; omega)
    (Obj.cells #[Value.int IntKind.i64 3, Value.int IntKind.i64 n, Value.string s, Value.int IntKind.i64 3, Value.int IntKind.i64 n', Value.string s'] 23))
  rw [hz] at cN
  have CN : Hid (∀ (B : Nat) (W : World), Tabs W → B < W.heap.size → W.cell? ⟨B, 0, none⟩ = some (.int .i64 3) → W.cell? ⟨B, 1, none⟩ = some (.int .i64 n) → W.cell? ⟨B, 2, none⟩ = some (.string s) → W.cell? ⟨B, 3, none⟩ = some (.int .i64 3) → W.cell? ⟨B, 4, none⟩ = some (.int .i64 n') → W.cell? ⟨B, 5, none⟩ = some (.string s') → Calls Tryz.prog 105 #[.slice (some ⟨B, 0, none⟩) 2 2] W fun e w' => e = .returned (.int .i64 0) ∧ Below W.heap.size W w') := cN
  obtain ⟨S, hS⟩ : ∃ S : ByteArray, s ++ s' = S := ⟨_, rfl⟩
  have hSl : S.data.toList = enc (ra ++ rb) := by rw [← hS, enc_append, ← hra, ← hrb]; simp
  have HS : Hid (s ++ s' = S) := hS
  have HL : Hid (S.data.toList = enc (ra ++ rb)) := hSl
  have HR : Hid (∀ r ∈ ra ++ rb, IsR r) := hR
  clear hV hK hT cN hz hra hrb hR hS hSl
  go_enter Tryz.func75, Tryz.ntmps75
  go_wp2_with fail
  refine (CN.out _ _ hT4 (by simp) (by go_cell) (by go_cell) (by go_cell) (by go_cell) (by go_cell) (by go_cell)).mono ?_
  rintro e w1 ⟨rfl, hb1⟩
  have hbw : Below w.heap.size w w1 := (((((Below.refl w.heap.size w).alloc (Nat.le_refl _) _).alloc (by simp) _).alloc (by simp; omega) _).alloc (by simp; omega) _).trans (hb1.mono (by simp; omega))
  have hsz1 : w.heap.size + 3 < w1.heap.size := by have := hb1.size; simp at this; omega
  have a2 : w1.cell? ⟨w.heap.size, 2, none⟩ = some (.string s) := (hb1.cell (p := ⟨w.heap.size, 2, none⟩) (by simp; omega)).trans (by go_cell)
  have b2 : w1.cell? ⟨w.heap.size + 1, 2, none⟩ = some (.string s') := (hb1.cell (p := ⟨w.heap.size + 1, 2, none⟩) (by simp)).trans (by go_cell)
  have r0 : w1.cell? ⟨w.heap.size + 1 + 1, 0, none⟩ = some (.int .i64 0) := (hb1.cell (p := ⟨w.heap.size + 1 + 1, 0, none⟩) (by simp)).trans (by go_cell)
  have r1 : w1.cell? ⟨w.heap.size + 1 + 1, 1, none⟩ = some (.int .i64 0) := (hb1.cell (p := ⟨w.heap.size + 1 + 1, 1, none⟩) (by simp)).trans (by go_cell)
  have r2 : w1.cell? ⟨w.heap.size + 1 + 1, 2, none⟩ = some (.string ⟨#[]⟩) := (hb1.cell (p := ⟨w.heap.size + 1 + 1, 2, none⟩) (by simp)).trans (by go_cell)
  have f0 : w1.frozen? ⟨w.heap.size + 1 + 1, 0, none⟩ = false := (hb1.frozen (p := ⟨w.heap.size + 1 + 1, 0, none⟩) (by simp)).trans (by go_simp)
  have f1 : w1.frozen? ⟨w.heap.size + 1 + 1, 1, none⟩ = false := (hb1.frozen (p := ⟨w.heap.size + 1 + 1, 1, none⟩) (by simp)).trans (by go_simp)
  have f2 : w1.frozen? ⟨w.heap.size + 1 + 1, 2, none⟩ = false := (hb1.frozen (p := ⟨w.heap.size + 1 + 1, 2, none⟩) (by simp)).trans (by go_simp)
  have a2' : (w1.alloc (Obj.cells #[Value.pointer none, Value.slice none 0 0] 136)).cell? ⟨w.heap.size, 2, none⟩ = some (.string s) := (((Below.refl w1.heap.size w1).alloc (Nat.le_refl _) _).cell (p := ⟨w.heap.size, 2, none⟩) (by omega : w.heap.size < w1.heap.size)).trans a2
  have b2' : (w1.alloc (Obj.cells #[Value.pointer none, Value.slice none 0 0] 136)).cell? ⟨w.heap.size + 1, 2, none⟩ = some (.string s') := (((Below.refl w1.heap.size w1).alloc (Nat.le_refl _) _).cell (p := ⟨w.heap.size + 1, 2, none⟩) (by omega : w.heap.size + 1 < w1.heap.size)).trans b2
  clear hb1 hT4 CN
  go_wp2_with fail
  rw [HS.out]
  clear a2 b2 a2' b2' HS hs hs'
  go_loopw [] (fun wr => ∃ (xs ys : List Nat), Lib.IsBuilderF 136 5 w1.heap.size w1.heap.size (Lib.byteCells (enc xs)) wr ∧ wr.heap[w1.heap.size + 1]? = some (.stringIter S (enc xs).length) ∧ Below w1.heap.size w1 wr ∧ ra ++ rb = xs ++ ys ∧ fit 0 (ra ++ rb) = xs ++ fit (enc xs).length ys ∧ (enc xs).length ≤ 100) (fun wr => S.size - wr.iterPos (w1.heap.size + 1))
  case atStart =>
    refine ⟨[], ra ++ rb, (Lib.IsBuilderF.of (Lib.fresh_isBuilder 136 5 w1)).alloc _, ?_, ((Below.refl _ w1).alloc (Nat.le_refl _) _).alloc (by simp) _, rfl, rfl, by simp [enc]⟩
    have := World.iter_heap (w1.alloc (.cells #[.pointer none, .slice none 0 0] 136)) S 0
    simpa [enc] using this
  case round =>
    obtain ⟨xs, ys, hI, hit, hbr, hsplit, hfit, hal⟩ := hrel
    have hsz : w1.heap.size + 1 < wr.heap.size := (Array.getElem?_eq_some_iff.1 hit).1
    have HL2 : Hid (S.data.toList = enc (xs ++ ys)) := by have := HL.out; rw [hsplit] at this; exact this
    have HR2 : Hid (∀ r ∈ xs ++ ys, IsR r) := by have := HR.out; rw [hsplit] at this; exact this
    have HF : Hid (fit 0 (ra ++ rb) = xs ++ fit (enc xs).length ys) := hfit
    have HP : Hid (ra ++ rb = xs ++ ys) := hsplit
    have hbw' : Below w.heap.size w wr := hbw.trans (hbr.mono hbw.size)
    clear hfit hsplit HL HR
    have r0' : ∀ W, Below w1.heap.size wr W → W.cell? ⟨w.heap.size + 1 + 1, 0, none⟩ = some (.int .i64 0) := fun W h => ((hbr.trans h).cell (p := ⟨w.heap.size + 1 + 1, 0, none⟩) (by omega : w.heap.size + 1 + 1 < w1.heap.size)).trans r0
    have r1' : ∀ W, Below w1.heap.size wr W → W.cell? ⟨w.heap.size + 1 + 1, 1, none⟩ = some (.int .i64 0) := fun W h => ((hbr.trans h).cell (p := ⟨w.heap.size + 1 + 1, 1, none⟩) (by omega : w.heap.size + 1 + 1 < w1.heap.size)).trans r1
    have r2' : ∀ W, Below w1.heap.size wr W → W.cell? ⟨w.heap.size + 1 + 1, 2, none⟩ = some (.string ⟨#[]⟩) := fun W h => ((hbr.trans h).cell (p := ⟨w.heap.size + 1 + 1, 2, none⟩) (by omega : w.heap.size + 1 + 1 < w1.heap.size)).trans r2
    have f0' : ∀ W, Below w1.heap.size wr W → W.frozen? ⟨w.heap.size + 1 + 1, 0, none⟩ = false := fun W h => ((hbr.trans h).frozen (p := ⟨w.heap.size + 1 + 1, 0, none⟩) (by omega : w.heap.size + 1 + 1 < w1.heap.size)).trans f0
    have f1' : ∀ W, Below w1.heap.size wr W → W.frozen? ⟨w.heap.size + 1 + 1, 1, none⟩ = false := fun W h => ((hbr.trans h).frozen (p := ⟨w.heap.size + 1 + 1, 1, none⟩) (by omega : w.heap.size + 1 + 1 < w1.heap.size)).trans f1
    have f2' : ∀ W, Below w1.heap.size wr W → W.frozen? ⟨w.heap.size + 1 + 1, 2, none⟩ = false := fun W h => ((hbr.trans h).frozen (p := ⟨w.heap.size + 1 + 1, 2, none⟩) (by omega : w.heap.size + 1 + 1 < w1.heap.size)).trans f2
    have KEEP : Hid (∀ W, Below w1.heap.size wr W → W.cell? ⟨w.heap.size + 1 + 1, 0, none⟩ = some (.int .i64 0) ∧ W.cell? ⟨w.heap.size + 1 + 1, 1, none⟩ = some (.int .i64 0) ∧ W.cell? ⟨w.heap.size + 1 + 1, 2, none⟩ = some (.string ⟨#[]⟩) ∧ W.frozen? ⟨w.heap.size + 1 + 1, 0, none⟩ = false ∧ W.frozen? ⟨w.heap.size + 1 + 1, 1, none⟩ = false ∧ W.frozen? ⟨w.heap.size + 1 + 1, 2, none⟩ = false) :=
      fun W h => ⟨r0' W h, r1' W h, r2' W h, f0' W h, f1' W h, f2' W h⟩
    clear r0 r1 r2 f0 f1 f2 r0' r1' r2' f0' f1' f2'
    cases ys with
    | nil =>
      have hp : ¬ (enc xs).length < S.size := by rw [size_list, HL2.out]; simp
      have hnx : ∀ ty, (Instr.next (.pointer (some ⟨w1.heap.size + 1, 0, none⟩)) true ty).run Tryz.prog wr = _ := fun ty => Lib.run_next_end_at wr (w1.heap.size + 1) S (enc xs).length ty hit hp
      go_wp2_with fail
      refine (string_any _ _ (enc xs) wr hI (by omega)).mono ?_
      rintro e w2 ⟨rfl, _, hb2, _⟩
      obtain ⟨r0, r1, r2, f0, f1, f2⟩ := KEEP.out w2 hb2
      have hbw2 : Below w.heap.size w w2 := hbw'.trans (hb2.mono (by omega))
      have HE : Hid (fit 0 (ra ++ rb) = xs) := by have := HF.out; rw [show fit (enc xs).length [] = [] from rfl, List.append_nil] at this; exact this
      clear hnx hI hit hbr KEEP hb2 HL2 HR2 HF HP
      go_wp2
      rw [HE.out]
      refine bodyPost_ret (v := .tuple #[.agg #[.int .i64 3, .int .i64 0, .string ⟨(enc xs).toArray⟩], .int .i64 0]) (by simp [results, Tryz.results75, go_sem, r0, r1, r2]) rfl ⟨rfl, ?_⟩
      have hsz := hbw2.size
      go_grown
    | cons r ys =>
      have hr : IsR r := HR2.out r (by simp)
      have hpz := rl_pos r
      have hp : (enc xs).length < S.size := by rw [size_list, HL2.out, enc_append, List.length_append, enc_len_cons]; omega
      have hd := decode_mid S xs r ys HL2.out hr
      have hnx : ∀ ty, (Instr.next (.pointer (some ⟨w1.heap.size + 1, 0, none⟩)) true ty).run Tryz.prog wr = _ := fun ty => Lib.run_next_any_at wr (w1.heap.size + 1) S (enc xs).length ty hit hp
      rw [hd] at hnx
      have hrb : (r : Int) ≤ 1114111 := by unfold IsR at hr; omega
      have hI2 := hI.iterAt hit ((enc xs).length + rl r)
      have hit2 := Lib.iterAt_heap wr (w1.heap.size + 1) S (enc xs).length ((enc xs).length + rl r) hit
      have hbr2 := Lib.below_iterAt hbr (k := w1.heap.size + 1) (by omega) S ((enc xs).length + rl r)
      have hbr3 := Lib.below_iterAt (Below.refl w1.heap.size wr) (k := w1.heap.size + 1) (by omega) S ((enc xs).length + rl r)
      have hsz2 : w1.heap.size ≤ (wr.iterAt (w1.heap.size + 1) S ((enc xs).length + rl r)).heap.size := by rw [Lib.iterAt_size]; omega
      have cL := len_any w1.heap.size w1.heap.size (Lib.byteCells (enc xs)) _ hI2
      rw [Lib.byteCells_length] at cL
      have cR := runeLen_any (r : Int)
      rw [runeLen_eq r hr] at cR
      have HRL : Hid (rl r = (Lib.runeCells (r : Int)).length) := (Lib.runeCells_length _).symm
      generalize hk : rl r = k at *
      have HK : Hid (rl r = k) := hk
      have hpk := hpz.1
      clear hk hd hr
      have CR : Hid (∀ (W : World), Calls Tryz.prog 83 #[.int .i32 (r : Int)] W fun e w' => e = .returned (.int .i64 (k : Int)) ∧ w' = W) := cR
      clear cR
      go_wp2_with fail
      refine cL.mono ?_
      rintro e w2 ⟨rfl, rfl⟩
      clear cL
      have hsum : (0 : Int) ≤ ((enc xs).length : Int) := by omega
      have hsum2 : ((enc xs).length : Int) ≤ 100 := by omega
      have hk4 : (k : Int) ≤ 4 := by omega
      by_cases hbig : 100 < (enc xs).length + k
      · have hbz : (100 : Int) < ((enc xs).length : Int) + (k : Int) := by omega
        go_wp2_with fail
        refine (CR.out _).mono ?_
        rintro e w2 ⟨rfl, rfl⟩
        go_wp2_with fail
        refine (string_any _ _ (enc xs) _ hI2 hsz2).mono ?_
        rintro e w2 ⟨rfl, _, hb2, _⟩
        obtain ⟨r0, r1, r2, f0, f1, f2⟩ := KEEP.out w2 (hbr3.trans hb2)
        have hbw2 : Below w.heap.size w w2 := hbw'.trans ((hbr3.trans hb2).mono (by omega))
        have HE : Hid (fit 0 (ra ++ rb) = xs) := by
          have := HF.out
          rw [show fit (enc xs).length (r :: ys) = [] by unfold fit; rw [HK.out, if_pos hbig], List.append_nil] at this
          exact this
        clear hnx hI hit hbr KEEP hb2 HL2 HR2 HF HP hI2 hit2 hbr2 hbr3
        go_wp2
        rw [HE.out]
        refine bodyPost_ret (v := .tuple #[.agg #[.int .i64 3, .int .i64 0, .string ⟨(enc xs).toArray⟩], .int .i64 0]) (by simp [results, Tryz.results75, go_sem, r0, r1, r2]) rfl ⟨rfl, ?_⟩
        have hsz := hbw2.size
        go_grown
      · have hbz : ¬ (100 : Int) < ((enc xs).length : Int) + (k : Int) := by omega
        go_wp2_with fail
        refine (CR.out _).mono ?_
        rintro e w2 ⟨rfl, rfl⟩
        go_wp2_with fail
        refine (writeRune_any w1.heap.size w1.heap.size _ (r : Int) (by omega) (by omega) _ hI2 (by rw [Lib.byteCells_length]; omega) hsz2).mono ?_
        rintro e w2 ⟨rfl, h1, b1, k1⟩
        go_wp2
        go_roundw
        case rel =>
          have hlen : (enc (xs ++ [r])).length = (enc xs).length + k := by rw [enc_append, List.length_append, enc_len_cons, HK.out]; rfl
          refine ⟨xs ++ [r], ys, ?_, ?_, hbr2.trans b1, ?_, ?_, by omega⟩
          · rw [enc_append, Lib.byteCells_append, show enc [r] = Lib.encodeRune (r : Int) by simp [enc], Lib.byteCells_encodeRune]; exact Or.inr h1
          · rw [hlen]; exact k1.iter hit2 (by omega)
          · rw [HP.out]; simp
          · rw [HF.out, hlen]
            rw [show fit (enc xs).length (r :: ys) = r :: fit ((enc xs).length + k) ys by rw [← HK.out]; rw [show fit (enc xs).length (r :: ys) = if 100 < (enc xs).length + rl r then [] else r :: fit ((enc xs).length + rl r) ys from rfl, if_neg (by rw [HK.out]; exact hbig)]]
            simp
        case measure =>
          simp only [World.iterPos, k1.iter hit2 (by omega), hit]
          omega

set_option maxHeartbeats 400000 in
theorem joined_bad (hV : VSaid V Tabs) (hK : ∀ w w', Tabs w → Below w.heap.size w w' → Tabs w') (so n so' n' : Int) (s s' : ByteArray) (w : World) (hs : s.size ≤ 9223372036854775807) (hs' : s'.size ≤ 9223372036854775807) (hT : Tabs w) (hz : needZ2 V so n s so' n' s' ≠ 0) :
    Calls Tryz.prog 75 #[.agg #[.int .i64 so, .int .i64 n, .string s], .agg #[.int .i64 so', .int .i64 n', .string s']] w fun e w' => e = .returned (.tuple #[.agg #[.int .i64 0, .int .i64 0, .string ⟨#[]⟩], .int .i64 (needZ2 V so n s so' n' s')]) ∧ Below w.heap.size w w' := by
  have cN := fun (B : Nat) (W : World) => need2_any V Tabs hV hK so n so' n' s s' B W (by omega) (by omega)
  have hT4 := hK w _ hT (((((Below.refl _ _).alloc (Nat.le_refl _) (Obj.cells #[Value.int IntKind.i64 so, Value.int IntKind.i64 n, Value.string s] 23)).alloc (by simp) (Obj.cells #[Value.int IntKind.i64 so', Value.int IntKind.i64 n', Value.string s'] 23)).alloc (by simp; omega) (Obj.cells #[Value.int IntKind.i64 0, Value.int IntKind.i64 0, Value.string ⟨#[]⟩] 23)).alloc (by simp; omega)
    (Obj.cells #[Value.int IntKind.i64 so, Value.int IntKind.i64 n, Value.string s, Value.int IntKind.i64 so', Value.int IntKind.i64 n', Value.string s'] 23))
  generalize needZ2 V so n s so' n' s' = z at cN hz ⊢
  have CN : Hid (∀ (B : Nat) (W : World), Tabs W → B < W.heap.size → W.cell? ⟨B, 0, none⟩ = some (.int .i64 so) → W.cell? ⟨B, 1, none⟩ = some (.int .i64 n) → W.cell? ⟨B, 2, none⟩ = some (.string s) → W.cell? ⟨B, 3, none⟩ = some (.int .i64 so') → W.cell? ⟨B, 4, none⟩ = some (.int .i64 n') → W.cell? ⟨B, 5, none⟩ = some (.string s') → Calls Tryz.prog 105 #[.slice (some ⟨B, 0, none⟩) 2 2] W fun e w' => e = .returned (.int .i64 z) ∧ Below W.heap.size W w') := cN
  have hzb : (z != 0) = true := by simpa using hz
  clear hV hK hT cN
  go_enter Tryz.func75, Tryz.ntmps75
  go_wp2_with fail
  refine (CN.out _ _ hT4 (by simp) (by go_cell) (by go_cell) (by go_cell) (by go_cell) (by go_cell) (by go_cell)).mono ?_
  rintro e w1 ⟨rfl, hb1⟩
  have hbw : Below w.heap.size w w1 := (((((Below.refl w.heap.size w).alloc (Nat.le_refl _) _).alloc (by simp) _).alloc (by simp; omega) _).alloc (by simp; omega) _).trans (hb1.mono (by simp; omega))
  have r0 : w1.cell? ⟨w.heap.size + 1 + 1, 0, none⟩ = some (.int .i64 0) := (hb1.cell (p := ⟨w.heap.size + 1 + 1, 0, none⟩) (by simp)).trans (by go_cell)
  have r1 : w1.cell? ⟨w.heap.size + 1 + 1, 1, none⟩ = some (.int .i64 0) := (hb1.cell (p := ⟨w.heap.size + 1 + 1, 1, none⟩) (by simp)).trans (by go_cell)
  have r2 : w1.cell? ⟨w.heap.size + 1 + 1, 2, none⟩ = some (.string ⟨#[]⟩) := (hb1.cell (p := ⟨w.heap.size + 1 + 1, 2, none⟩) (by simp)).trans (by go_cell)
  have f0 : w1.frozen? ⟨w.heap.size + 1 + 1, 0, none⟩ = false := (hb1.frozen (p := ⟨w.heap.size + 1 + 1, 0, none⟩) (by simp)).trans (by go_simp)
  have f1 : w1.frozen? ⟨w.heap.size + 1 + 1, 1, none⟩ = false := (hb1.frozen (p := ⟨w.heap.size + 1 + 1, 1, none⟩) (by simp)).trans (by go_simp)
  have f2 : w1.frozen? ⟨w.heap.size + 1 + 1, 2, none⟩ = false := (hb1.frozen (p := ⟨w.heap.size + 1 + 1, 2, none⟩) (by simp)).trans (by go_simp)
  clear hb1 hT4 CN
  go_wp2
  refine bodyPost_ret (v := .tuple #[.agg #[.int .i64 0, .int .i64 0, .string ⟨#[]⟩], .int .i64 z]) (by simp [results, Tryz.results75, go_sem, r0, r1, r2]) rfl ⟨rfl, ?_⟩
  have hsz := hbw.size
  go_grown
end Go.Proofs.YtecapnipkngniaaGreatDoor
/-
  A value in a block of its own, carried from world to world; what the calls of values.Length and values.Joined say.
-/
namespace Go.Proofs.YtecapnipkngniaaGreatDoor
open Go.RowKit Go.Shelf
variable (Tabs : World → Prop)

def LS (so n : Int) (s : ByteArray) (k e : Int) : Prop :=
  ∀ (W : World), Tabs W → Calls Tryz.prog 73 #[.agg #[.int .i64 so, .int .i64 n, .string s]] W fun r w' => r = .returned (.tuple #[.int .i64 k, .int .i64 e]) ∧ Below W.heap.size W w'
def JS (so n : Int) (s : ByteArray) (so' n' : Int) (s' : ByteArray) (xo xn : Int) (xs : ByteArray) (e : Int) : Prop :=
  ∀ (W : World), Tabs W → Calls Tryz.prog 75 #[.agg #[.int .i64 so, .int .i64 n, .string s], .agg #[.int .i64 so', .int .i64 n', .string s']] W fun r w' => r = .returned (.tuple #[.agg #[.int .i64 xo, .int .i64 xn, .string xs], .int .i64 e]) ∧ Below W.heap.size W w'

/-- a value in a block of its own -/
structure Box (W : World) (b : Nat) (so n : Int) (s : ByteArray) : Prop where
  lt : b < W.heap.size
  c0 : W.cell? ⟨b, 0, none⟩ = some (.int .i64 so)
  c1 : W.cell? ⟨b, 1, none⟩ = some (.int .i64 n)
  c2 : W.cell? ⟨b, 2, none⟩ = some (.string s)
theorem Box.keep {W W' : World} {b : Nat} {so n : Int} {s : ByteArray} (h : Box W b so n s) (hb : Below W.heap.size W W') : Box W' b so n s :=
  ⟨Nat.lt_of_lt_of_le h.lt hb.size, (hb.cell (p := ⟨b, 0, none⟩) h.lt).trans h.c0, (hb.cell (p := ⟨b, 1, none⟩) h.lt).trans h.c1, (hb.cell (p := ⟨b, 2, none⟩) h.lt).trans h.c2⟩
theorem Box.al {W : World} {b : Nat} {so n : Int} {s : ByteArray} (h : Box W b so n s) (o : Obj) : Box (W.alloc o) b so n s := h.keep ((Below.refl _ _).alloc (Nat.le_refl _) o)
theorem Box.new (W : World) (so n : Int) (s : ByteArray) (t : TypeId) : Box (W.alloc (.cells #[.int .i64 so, .int .i64 n, .string s] t)) W.heap.size so n s :=
  ⟨by simp, by go_cell, by go_cell, by go_cell⟩
theorem Box.facts {W : World} {b : Nat} {so n : Int} {s : ByteArray} (h : Box W b so n s) : (W.cell? ⟨b, 0, none⟩ = some (.int .i64 so) ∧ W.cell? ⟨b, 1, none⟩ = some (.int .i64 n) ∧ W.cell? ⟨b, 2, none⟩ = some (.string s)) ∧ (∀ o, (W.alloc o).cell? ⟨b, 0, none⟩ = some (.int .i64 so)) ∧ (∀ o, (W.alloc o).cell? ⟨b, 1, none⟩ = some (.int .i64 n)) ∧ (∀ o, (W.alloc o).cell? ⟨b, 2, none⟩ = some (.string s)) :=
  ⟨⟨h.c0, h.c1, h.c2⟩, fun o => (h.al o).c0, fun o => (h.al o).c1, fun o => (h.al o).c2⟩

theorem below_dn {B : Nat} {a w : World} (h : Below B a w) : ∀ q, Below B a (w.drewN q)
  | 0 => h
  | q + 1 => (below_dn h q).drew
end Go.Proofs.YtecapnipkngniaaGreatDoor

/-
  values.Length and values.Joined of texts, as letters; utf8.ValidString's contract is a hypothesis here.
-/
namespace Go.Proofs.YtecapnipkngniaaGreatDoor
open Go.RowKit Go.Shelf
variable (Tabs : World → Prop)

/-- is it UTF-8? -/
def vD (s : ByteArray) : Bool := Lib.validD s.data.toList

theorem argZ_zero (b : Bool) : argZ b = 0 ↔ b = true := by cases b <;> simp [argZ]
theorem text_zero (V : ByteArray → Bool) (n : Int) (s : ByteArray) : textZ V n s = 0 ↔ n = 0 ∧ s.size ≤ 100 ∧ V s = true := by
  unfold textZ
  by_cases hn : n = 0
  · by_cases hl : 100 < s.size
    · simp [hn, hl]; omega
    · simp [hn, hl, argZ_zero]; omega
  · simp [hn]
theorem chk3 (V : ByteArray → Bool) (n : Int) (s : ByteArray) : chkZ V 3 n s = textZ V n s := rfl
theorem need1_zero (V : ByteArray → Bool) (so n : Int) (s : ByteArray) : needZ1 V so n s = 0 ↔ so = 3 ∧ n = 0 ∧ s.size ≤ 100 ∧ V s = true := by
  unfold needZ1
  by_cases h3 : so = 3
  · subst h3
    rw [chk3, ← text_zero]
    by_cases h : textZ V n s = 0 <;> simp [h]
  · by_cases h : chkZ V so n s = 0 <;> simp [h, h3]
theorem nz2' (a b : Int) : firstNZ [a, b] = 0 ↔ a = 0 ∧ b = 0 := by
  simp only [firstNZ]
  split
  · split <;> simp_all
  · simp_all
theorem need2_zero (V : ByteArray → Bool) (so n : Int) (s : ByteArray) (so' n' : Int) (s' : ByteArray) : needZ2 V so n s so' n' s' = 0 ↔ needZ1 V so n s = 0 ∧ needZ1 V so' n' s' = 0 := by
  unfold needZ2 needZ1
  have hz := nz2' (chkZ V so n s) (chkZ V so' n' s')
  by_cases h : chkZ V so n s = 0
  · by_cases h' : chkZ V so' n' s' = 0
    · rw [hz.2 ⟨h, h'⟩, h, h']
      by_cases q : so = 3 <;> by_cases q' : so' = 3 <;> simp [q, q']
    · have hn : firstNZ [chkZ V so n s, chkZ V so' n' s'] ≠ 0 := fun e => h' (hz.1 e).2
      simp [hn, h']
  · have hn : firstNZ [chkZ V so n s, chkZ V so' n' s'] ≠ 0 := fun e => h (hz.1 e).1
    simp [hn, h]

/-- bytes as a string -/
def str (rs : List Nat) : ByteArray := ⟨(enc rs).toArray⟩
theorem str_list (rs : List Nat) : (str rs).data.toList = enc rs := by simp [str]
theorem str_size (rs : List Nat) : (str rs).size = (enc rs).length := by rw [size_list, str_list]
theorem str_of (s : ByteArray) (rs : List Nat) (h : s.data.toList = enc rs) : s = str rs := by
  apply ByteArray.ext
  apply Array.toList_inj.1
  rw [str_list, h]
theorem str_vD (rs : List Nat) (h : ∀ r ∈ rs, IsR r) : vD (str rs) = true := by unfold vD; rw [str_list]; exact valid_enc rs h
theorem str_need (rs : List Nat) (h : ∀ r ∈ rs, IsR r) (hl : (enc rs).length ≤ 100) : needZ1 vD 3 0 (str rs) = 0 := (need1_zero _ _ _ _).2 ⟨rfl, rfl, by rw [str_size]; exact hl, str_vD rs h⟩
theorem str_all (s : ByteArray) (h : vD s = true) : ∃ rs : List Nat, (∀ r ∈ rs, IsR r) ∧ s = str rs := by
  obtain ⟨rs, h1, h2⟩ := enc_of_valid _ s.data.toList (Nat.le_refl _) h
  exact ⟨rs, h1, str_of s rs h2⟩

theorem ls_good (hV : VSaid vD Tabs) (hK : ∀ w w', Tabs w → Below w.heap.size w w' → Tabs w') (rs : List Nat) (h : ∀ r ∈ rs, IsR r) (hl : (enc rs).length ≤ 100) : LS Tabs 3 0 (str rs) rs.length 0 := fun W hW => by
  have c := length_any vD Tabs hV hK 3 0 (str rs) W (by rw [str_size]; omega) hW
  rw [lenZ, str_need rs h hl, if_pos rfl, count_enc (str rs) rs (str_list rs) h] at c
  exact c
theorem js_good (hV : VSaid vD Tabs) (hK : ∀ w w', Tabs w → Below w.heap.size w w' → Tabs w') (ra rb : List Nat) (ha : ∀ r ∈ ra, IsR r) (hb : ∀ r ∈ rb, IsR r) (la : (enc ra).length ≤ 100) (lb : (enc rb).length ≤ 100) :
    JS Tabs 3 0 (str ra) 3 0 (str rb) 3 0 (str (fit 0 (ra ++ rb))) 0 := fun W hW =>
  joined_good vD Tabs hV hK 0 0 (str ra) (str rb) W ra rb (by rw [str_size]; exact la) (by rw [str_size]; exact lb) (str_list ra) (str_list rb) (fun r hr => (List.mem_append.1 hr).elim (ha r) (hb r)) hW ((need2_zero _ _ _ _ _ _ _).2 ⟨str_need ra ha la, str_need rb hb lb⟩)
end Go.Proofs.YtecapnipkngniaaGreatDoor

/-
  The contract of values.Order, for every two values: what it tells, and that nothing old has turned; utf8.ValidString's and strings.Compare's contracts are hypotheses here.
-/
namespace Go.Proofs.YtecapnipkngniaaGreatDoor
open Go.RowKit
variable (V : ByteArray → Bool) (Tabs : World → Prop)
def CSaid : Prop := ∀ (a b : ByteArray) (w : World), Calls Tryz.prog 131 #[.string a, .string b] w fun e w' => e = .returned (.int .i64 (Lib.compareBytes a.data.toList b.data.toList)) ∧ w' = w

/-- what values.Order tells -/
def ordZ (so n : Int) (s : ByteArray) (so' n' : Int) (s' : ByteArray) : Int := firstNZ [cmpZ so so', cmpZ n n', Lib.compareBytes s.data.toList s'.data.toList]

set_option maxHeartbeats 400000 in
theorem order_any (hV : VSaid V Tabs) (hK : ∀ w w', Tabs w → Below w.heap.size w w' → Tabs w') (hC : CSaid) (so n so' n' : Int) (s s' : ByteArray) (w : World) (hs : s.size ≤ 9223372036854775807) (hs' : s'.size ≤ 9223372036854775807) (hT : Tabs w) :
    Calls Tryz.prog 107 #[.agg #[.int .i64 so, .int .i64 n, .string s], .agg #[.int .i64 so', .int .i64 n', .string s']] w fun e w' =>
      e = .returned (.tuple #[.int .i64 (if firstNZ [chkZ V so n s, chkZ V so' n' s'] = 0 then ordZ so n s so' n' s' else 0), .int .i64 (firstNZ [chkZ V so n s, chkZ V so' n' s'])]) ∧ Below w.heap.size w w' := by
  have cA := fun (B : Nat) (W : World) => checkAll2_any V Tabs hV hK so n so' n' s s' B W hs hs'
  generalize firstNZ [chkZ V so n s, chkZ V so' n' s'] = zc at cA ⊢
  have CA : Hid (∀ (B : Nat) (W : World), Tabs W → B < W.heap.size → W.cell? ⟨B, 0, none⟩ = some (.int .i64 so) → W.cell? ⟨B, 1, none⟩ = some (.int .i64 n) → W.cell? ⟨B, 2, none⟩ = some (.string s) → W.cell? ⟨B, 3, none⟩ = some (.int .i64 so') → W.cell? ⟨B, 4, none⟩ = some (.int .i64 n') → W.cell? ⟨B, 5, none⟩ = some (.string s') → Calls Tryz.prog 127 #[.slice (some ⟨B, 0, none⟩) 2 2] W fun e w' => e = .returned (.int .i64 zc) ∧ Below W.heap.size W w') := cA
  clear cA
  have hT3 : Tabs (((w.alloc (Obj.cells #[Value.int IntKind.i64 so, Value.int IntKind.i64 n, Value.string s] 23)).alloc
        (Obj.cells #[Value.int IntKind.i64 so', Value.int IntKind.i64 n', Value.string s'] 23)).alloc
    (Obj.cells
      #[Value.int IntKind.i64 so, Value.int IntKind.i64 n, Value.string s, Value.int IntKind.i64 so',
        Value.int IntKind.i64 n', Value.string s']
      23)) := hK _ _ hT ((((Below.refl _ _).alloc (Nat.le_refl _) _).alloc (by simp) _).alloc (by simp; omega) _)
  have cS := hC s s'
  unfold ordZ
  have c33 := cmp_any so so'
  have c34 := cmp64_any n n'
  generalize cmpZ so so' = x at c33 ⊢
  generalize cmpZ n n' = y at c34 ⊢
  generalize Lib.compareBytes s.data.toList s'.data.toList = z at cS ⊢
  have C33 : Hid (∀ (W : World), Calls Tryz.prog 129 #[.int .i64 so, .int .i64 so'] W fun e w' => e = .returned (.int .i64 x) ∧ w' = W) := c33
  have C34 : Hid (∀ (W : World), Calls Tryz.prog 130 #[.int .i64 n, .int .i64 n'] W fun e w' => e = .returned (.int .i64 y) ∧ w' = W) := c34
  have C35 : Hid (∀ (W : World), Calls Tryz.prog 131 #[.string s, .string s'] W fun e w' => e = .returned (.int .i64 z) ∧ w' = W) := cS
  clear c33 c34 cS hC
  clear hV hK hT
  go_enter Tryz.func107, Tryz.ntmps107
  go_wp2_with fail
  refine (CA.out _ _ hT3 (by simp) (by go_cell) (by go_cell) (by go_cell) (by go_cell) (by go_cell) (by go_cell)).mono ?_
  rintro e w1 ⟨rfl, hb1⟩
  have hbw : Below w.heap.size w w1 := ((((Below.refl w.heap.size w).alloc (Nat.le_refl _) _).alloc (by simp) _).alloc (by simp; omega) _).trans (hb1.mono (by simp; omega))
  obtain ⟨hc, hf⟩ := bcell hb1
  clear hf CA hT3
  have a0 : w1.cell? ⟨w.heap.size, 0, none⟩ = some (.int .i64 so) := (hc _ 0 (by simp; omega)).trans (by go_cell)
  have a1 : w1.cell? ⟨w.heap.size, 1, none⟩ = some (.int .i64 n) := (hc _ 1 (by simp; omega)).trans (by go_cell)
  have a2 : w1.cell? ⟨w.heap.size, 2, none⟩ = some (.string s) := (hc _ 2 (by simp; omega)).trans (by go_cell)
  have b0 : w1.cell? ⟨w.heap.size + 1, 0, none⟩ = some (.int .i64 so') := (hc _ 0 (by simp)).trans (by go_cell)
  have b1 : w1.cell? ⟨w.heap.size + 1, 1, none⟩ = some (.int .i64 n') := (hc _ 1 (by simp)).trans (by go_cell)
  have b2 : w1.cell? ⟨w.heap.size + 1, 2, none⟩ = some (.string s') := (hc _ 2 (by simp)).trans (by go_cell)
  clear hc hb1
  by_cases hz : zc = 0
  · subst hz
    go_wp2_with fail
    go_region_held3 (fun w' => w'.cell? ⟨w.heap.size, 0, none⟩ = some (.int .i64 so) ∧ w'.cell? ⟨w.heap.size, 1, none⟩ = some (.int .i64 n) ∧ w'.cell? ⟨w.heap.size, 2, none⟩ = some (.string s) ∧ w'.cell? ⟨w.heap.size + 1, 0, none⟩ = some (.int .i64 so') ∧ w'.cell? ⟨w.heap.size + 1, 1, none⟩ = some (.int .i64 n') ∧ w'.cell? ⟨w.heap.size + 1, 2, none⟩ = some (.string s')) (go_keep) (first
      | (go_at_call 129; go_must (refine (C33.out _).mono ?_; rintro e w' ⟨rfl, rfl⟩))
      | (go_at_call 130; go_must (refine (C34.out _).mono ?_; rintro e w' ⟨rfl, rfl⟩))
      | (go_at_call 131; go_must (refine (C35.out _).mono ?_; rintro e w' ⟨rfl, rfl⟩))
      | (go_at_call 128; go_must (refine (or_any x y z _ _ (by go_cell) (by go_cell) (by go_cell)).mono ?_; rintro e w' ⟨rfl, rfl⟩)))
    go_wp2
    go_ret2
    refine ⟨rfl, ?_⟩
    have hsz := hbw.size
    go_grown
  · have hzb : (zc != 0) = true := by simpa using hz
    go_wp2
    go_ret2
    exact ⟨rfl, hbw⟩
end Go.Proofs.YtecapnipkngniaaGreatDoor

/-
  Plain: a value and an expression as data.
-/
namespace Go.Proofs.YtecapnipkngniaaGreatDoor

structure Vl where
  so : Int
  n : Int
  s : ByteArray
structure Ex where
  kind : Int
  name : ByteArray
  so : Int
  n : Int
  s : ByteArray
  kids : List Ex
end Go.Proofs.YtecapnipkngniaaGreatDoor
