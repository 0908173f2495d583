/-
  The contracts of strings.Builder's WriteByte and WriteString at this program, and of values.quoted, for every text of at most 100 bytes.
-/
import Derived.Test.YtipolobikigmbaaGreatDoorWb
import Derived.Test.YtipolobikigmbaaGreatDoorQm
import Derived.Lib.FrozenHead2
import Derived.Laws.BytesString
namespace Go.Proofs.YtipolobikigmbaaGreatDoor
open Go.RowKit Go.Shelf

set_option maxHeartbeats 1000000 in
set_option maxRecDepth 100000 in
theorem writeByte_any (B b : Nat) (bs : List Value) (c : Int) (w : World) (h : Lib.IsBuilderF 52 5 B b bs w) (hlen : bs.length + 1 ≤ 140737488355328) (hBw : B ≤ w.heap.size) :
    Calls Tryz.prog 130 #[.pointer (some ⟨b, 0, none⟩), .int .u8 c] w fun e w' => e = .returned .nilIface ∧ Lib.IsBuilderF 52 5 B b (bs ++ [.int .u8 c]) w' ∧ Below B w w' := by
  obtain ⟨i0, hi, hz0, hz1, hz2⟩ := info_parts infoByte
  go_enter Tryz.func130, Tryz.ntmps130
  go_wp2_with (go_at_call 40; refine (copyCheck_any B b bs _ h).mono ?_)
  rintro e w1 ⟨rfl, ⟨hB, v, hbk, hown, hne⟩, hb1, _⟩
  have hsz := hb1.size
  have c0 : w1.cell? ⟨b, 0, none⟩ = some (.pointer (some ⟨b, 0, none⟩)) := by rw [Lib.cell_of_heap hbk]; rfl
  have c1 : w1.cell? ⟨b, 1, none⟩ = some v := by rw [Lib.cell_of_heap hbk]; rfl
  go_wp2_with (at_builtin; refine wpList_append_ownF _ rfl _ _ 50 rfl B 5 i0 (.int .u8 0) 1 1 Tryz.underlying50 hi hz0 hz1 hz2 rfl (by decide) _ _ _ rfl (hown.alloc _) ⟨w1.heap.size, 0, none⟩ 1 1 [.int .u8 c] rfl rfl ?c1 ?c2 ?c3 ?c4 ?c5 ?_)
  case c1 =>
    intro j u hj
    match j, hj with
    | 0, hj => simp at hj; subst hj; simp [Addr.add]
  case c2 => intro u hu; simp at hu; subst hu; rfl
  case c3 => unfold maxLen; omega
  case c4 => omega
  case c5 => simp; omega
  intro v' w2 hown' hgrow _
  have hlt : b < w1.heap.size := (Array.getElem?_eq_some_iff.1 hbk).1
  have hb2 : w2.heap[b]? = some (.cells #[.pointer (some ⟨b, 0, none⟩), v] 52 (0, 0)) := by
    rw [hgrow.block b (by simp; omega) (fun e => hne e.symm), Lib.alloc_old w1 _ b hlt]
    exact hbk
  have d0 : w2.cell? ⟨b, 0, none⟩ = some (.pointer (some ⟨b, 0, none⟩)) := by rw [Lib.cell_of_heap hb2]; rfl
  have d1 : w2.cell? ⟨b, 1, none⟩ = some v := by rw [Lib.cell_of_heap hb2]; rfl
  have f1 : w2.frozen? ⟨b, 1, none⟩ = false := Lib.frozen_of_heap hb2 1
  obtain ⟨g, cap, rfl⟩ : ∃ g cap, v' = .slice (some ⟨g, 0, none⟩) (bs.length + 1) cap := by
    rcases hown'.2 with ⟨_, h0⟩ | ⟨g, cap, cur, fz, hv, _⟩
    · omega
    · exact ⟨g, cap, hv⟩
  go_wp2
  go_ret
  refine ⟨rfl, .inr (Lib.BuilderAtF.put (T := 52) (e := 5) hB hb2 (bs' := bs ++ [.int .u8 c]) (by simpa using hown') (by decide)), ?_⟩
  exact ((hb1.alloc (by omega) _).grown hgrow (by simp; omega) (fun k hk => (hown.lt k hk).1)).setCell (p := ⟨b, 1, none⟩) hB _

set_option maxHeartbeats 1000000 in
set_option maxRecDepth 100000 in
theorem writeString_any (B b : Nat) (bs : List Value) (s : ByteArray) (w : World) (h : Lib.IsBuilderF 52 5 B b bs w) (hlen : bs.length + s.size ≤ 140737488355328) (hBw : B ≤ w.heap.size) :
    Calls Tryz.prog 16 #[.pointer (some ⟨b, 0, none⟩), .string s] w fun e w' => e = .returned (.tuple #[.int .i64 s.size, .nilIface]) ∧ Lib.IsBuilderF 52 5 B b (bs ++ Lib.strCells s) w' ∧ Below B w w' := by
  obtain ⟨i0, hi, hz0, hz1, hz2⟩ := info_parts infoByte
  go_enter Tryz.func16, Tryz.ntmps16
  go_wp2_with (go_at_call 40; refine (copyCheck_any B b bs _ h).mono ?_)
  rintro e w1 ⟨rfl, ⟨hB, v, hbk, hown, hne⟩, hb1, _⟩
  have hsz := hb1.size
  have c0 : w1.cell? ⟨b, 0, none⟩ = some (.pointer (some ⟨b, 0, none⟩)) := by rw [Lib.cell_of_heap hbk]; rfl
  have c1 : w1.cell? ⟨b, 1, none⟩ = some v := by rw [Lib.cell_of_heap hbk]; rfl
  go_wp2_with (at_builtin; refine Lib.wpList_append_own_stringF _ rfl _ _ 50 9 rfl B 5 i0 Tryz.underlying50 Tryz.underlying9 hi hz0 hz1 hz2 _ _ _ rfl hown s rfl ?c3 ?c4 ?c5 ?_)
  case c3 => unfold maxLen; omega
  case c4 => omega
  case c5 => omega
  intro v' w2 hown' hgrow _
  have hlt : b < w1.heap.size := (Array.getElem?_eq_some_iff.1 hbk).1
  have hb2 : w2.heap[b]? = some (.cells #[.pointer (some ⟨b, 0, none⟩), v] 52 (0, 0)) := by
    rw [hgrow.block b hlt (fun e => hne e.symm)]
    exact hbk
  have d0 : w2.cell? ⟨b, 0, none⟩ = some (.pointer (some ⟨b, 0, none⟩)) := by rw [Lib.cell_of_heap hb2]; rfl
  have d1 : w2.cell? ⟨b, 1, none⟩ = some v := by rw [Lib.cell_of_heap hb2]; rfl
  have f1 : w2.frozen? ⟨b, 1, none⟩ = false := Lib.frozen_of_heap hb2 1
  obtain ⟨ao, n', cap, rfl⟩ : ∃ ao n' cap, v' = .slice ao n' cap := by
    rcases hown'.2 with ⟨hv, _⟩ | ⟨g, cap, cur, fz, hv, _⟩
    · exact ⟨_, _, _, hv⟩
    · exact ⟨_, _, _, hv⟩
  go_wp2
  go_ret2
  refine ⟨rfl, .inr (Lib.BuilderAtF.put (T := 52) (e := 5) hB hb2 (bs' := bs ++ Lib.strCells s) (by simpa [Lib.strCells_length] using hown') (by decide)), ?_⟩
  exact (hb1.grown hgrow (by omega) (fun k hk => (hown.lt k hk).1)).setCell (p := ⟨b, 1, none⟩) hB _

theorem take_snoc (s : ByteArray) (k : Nat) (h : k < s.size) : s.data.toList.take (k + 1) = s.data.toList.take k ++ [s[k]] := by
  rw [List.take_succ_eq_append_getElem (by simpa using h)]; rfl
theorem byte_ne (c k : UInt8) (h : c ≠ k) : ((c.toNat : Int) == (k.toNat : Int)) = false := by
  simp only [beq_eq_false_iff_ne, ne_eq, Int.natCast_inj]
  exact fun e => h (UInt8.toNat_inj.1 e)

set_option maxHeartbeats 1000000 in
theorem quoted_any (s : ByteArray) (w : World) (hs : s.size ≤ 100) :
    Calls Tryz.prog 94 #[.string s] w fun e w' => e = .returned (.string ⟨(quo s.data.toList).toArray⟩) ∧ Below w.heap.size w w' := by
  go_enter Tryz.func94, Tryz.ntmps94
  go_wp2_with fail
  refine (writeByte_any w.heap.size w.heap.size [] 34 _ (Lib.IsBuilderF.of (Lib.fresh_isBuilder 52 5 w)) (by simp) (by simp)).mono ?_
  rintro e w1 ⟨rfl, hI1, hb1⟩
  have hbw1 : Below w.heap.size w w1 := ((Below.refl w.heap.size w).alloc (Nat.le_refl _) _).trans hb1
  clear hb1
  go_wp2_with fail
  go_loopw [8] (fun i wr => ∃ k : Nat, k ≤ s.size ∧ i = .int .i64 (k : Int) ∧ Lib.IsBuilderF 52 5 w.heap.size w.heap.size (Lib.byteCells (34 :: esc (s.data.toList.take k))) wr ∧ Below w.heap.size w wr) (fun i wr => s.size - (intOf i).toNat)
  case atStart => exact ⟨0, Nat.zero_le _, rfl, by simpa [esc, Lib.byteCells] using hI1, hbw1⟩
  case round =>
    obtain ⟨k, hk, rfl, hI, hbw⟩ := hrel
    clear hI1 hbw1
    have hsz := hbw.size
    have hlen : (Lib.byteCells (34 :: esc (s.data.toList.take k))).length ≤ 201 := by
      rw [Lib.byteCells_length, List.length_cons]
      have h1 := (esc_len (s.data.toList.take k)).2
      have h2 : (s.data.toList.take k).length ≤ k := List.length_take_le _ _
      omega
    by_cases hlt : k < s.size
    · have HT : Hid (34 :: esc (s.data.toList.take (k + 1)) = (34 :: esc (s.data.toList.take k)) ++ esc1 s[k]) := by
        show _ = _
        rw [take_snoc s k hlt, esc_append, esc_cons, esc_nil, List.append_nil]; rfl
      by_cases h92 : s[k] = 92
      · have H92 : Hid (esc1 s[k] = [92, 92]) := by show _ = _; rw [h92]; rfl
        have b92 : ((s[k].toNat : Int) == 92) = true := by rw [h92]; rfl
        clear h92
        go_wp2_with fail
        refine (writeString_any w.heap.size w.heap.size _ ⟨#[92, 92]⟩ wr hI (by simp [ByteArray.size]; omega) hsz).mono ?_
        rintro e w2 ⟨rfl, hI2, hb2⟩
        go_wp2
        go_roundw
        case rel => exact ⟨k + 1, by omega, by go_num, by rw [HT.out, H92.out, Lib.byteCells_append]; exact hI2, hbw.trans hb2⟩
        case measure => simp [intOf]; omega
      · have b92 : ((s[k].toNat : Int) == 92) = false := byte_ne s[k] 92 h92
        by_cases h34 : s[k] = 34
        · have H34 : Hid (esc1 s[k] = [92, 34]) := by show _ = _; rw [h34]; rfl
          have b34 : ((s[k].toNat : Int) == 34) = true := by rw [h34]; rfl
          clear h92 h34
          go_wp2_with fail
          refine (writeString_any w.heap.size w.heap.size _ ⟨#[92, 34]⟩ wr hI (by simp [ByteArray.size]; omega) hsz).mono ?_
          rintro e w2 ⟨rfl, hI2, hb2⟩
          go_wp2
          go_roundw
          case rel => exact ⟨k + 1, by omega, by go_num, by rw [HT.out, H34.out, Lib.byteCells_append]; exact hI2, hbw.trans hb2⟩
          case measure => simp [intOf]; omega
        · have b34 : ((s[k].toNat : Int) == 34) = false := byte_ne s[k] 34 h34
          by_cases h10 : s[k] = 10
          · have H10 : Hid (esc1 s[k] = [92, 110]) := by show _ = _; rw [h10]; rfl
            have b10 : ((s[k].toNat : Int) == 10) = true := by rw [h10]; rfl
            clear h92 h34 h10
            go_wp2_with fail
            refine (writeString_any w.heap.size w.heap.size _ ⟨#[92, 110]⟩ wr hI (by simp [ByteArray.size]; omega) hsz).mono ?_
            rintro e w2 ⟨rfl, hI2, hb2⟩
            go_wp2
            go_roundw
            case rel => exact ⟨k + 1, by omega, by go_num, by rw [HT.out, H10.out, Lib.byteCells_append]; exact hI2, hbw.trans hb2⟩
            case measure => simp [intOf]; omega
          · have b10 : ((s[k].toNat : Int) == 10) = false := byte_ne s[k] 10 h10
            have HO : Hid (esc1 s[k] = [s[k]]) := esc1_plain _ h92 h34 h10
            clear h92 h34 h10
            go_wp2_with fail
            refine (writeByte_any w.heap.size w.heap.size _ _ wr hI (by omega) hsz).mono ?_
            rintro e w2 ⟨rfl, hI2, hb2⟩
            go_wp2
            go_roundw
            case rel => exact ⟨k + 1, by omega, by go_num, by rw [HT.out, HO.out, Lib.byteCells_append]; exact hI2, hbw.trans hb2⟩
            case measure => simp [intOf]; omega
    · have hk2 : k = s.size := by omega
      have HA : Hid (s.data.toList.take k = s.data.toList) := List.take_of_length_le (by rw [← size_list]; omega)
      clear hk2
      go_wp2_with fail
      refine (writeByte_any w.heap.size w.heap.size _ 34 wr hI (by omega) hsz).mono ?_
      rintro e w2 ⟨rfl, hI2, hb2⟩
      have hbw2 := hbw.trans hb2
      have hI3 : Lib.IsBuilderF 52 5 w.heap.size w.heap.size (Lib.byteCells (quo s.data.toList)) w2 := by
        rw [show quo s.data.toList = (34 :: esc (s.data.toList.take k)) ++ [34] by rw [HA.out]; rfl, Lib.byteCells_append]; exact hI2
      clear hI2 hI hb2 hlen HA
      go_wp2_with fail
      refine (string_any _ _ (quo s.data.toList) w2 hI3 hbw2.size).mono ?_
      rintro e w3 ⟨rfl, _, hb3, _⟩
      go_wp2
      go_ret
      exact ⟨rfl, hbw2.trans hb3⟩
end Go.Proofs.YtipolobikigmbaaGreatDoor
/-
  Texts as lists of bytes and back; a row of bytes that a call owns turned into a text; what strconv.FormatInt tells, as a hypothesis.
-/
namespace Go.Proofs.YtipolobikigmbaaGreatDoor
open Go.RowKit Go.Shelf
variable (Tabs : World → Prop)

def bs (l : List UInt8) : ByteArray := ⟨l.toArray⟩
theorem bs_list (l : List UInt8) : (bs l).data.toList = l := by simp [bs]
theorem bs_of (s : ByteArray) : bs s.data.toList = s := by
  apply ByteArray.ext; apply Array.toList_inj.1; rw [bs_list]
theorem bs_inj {s : ByteArray} {l : List UInt8} (h : s.data.toList = l) : s = bs l := by rw [← h, bs_of]

theorem str_ne {s t : ByteArray} (h : s ≠ t) : (s.toList == t.toList) = false := by
  rw [beq_eq_false_iff_ne]
  intro e
  rw [ByteArray.toList_eq, ByteArray.toList_eq] at e
  exact h (ByteArray.ext (Array.toList_inj.1 e))

def FSaid : Prop := ∀ (n : Int) (w : World), -9223372036854775808 ≤ n → n ≤ 9223372036854775807 → Tabs w → Calls Tryz.prog 92 #[.int .i64 n, .int .i64 10] w fun e w' => e = .returned (.string (bs (Lib.itoa n))) ∧ Below w.heap.size w w'

theorem foldl_push : ∀ (t : List UInt8) (r : ByteArray), ((t.map fun b : UInt8 => (b.toNat : Int)).foldl (fun r n => r.push (UInt8.ofNat n.toNat)) r).data.toList = r.data.toList ++ t
  | [], r => by simp
  | b :: t, r => by
    simp only [List.map_cons, List.foldl_cons]
    rw [foldl_push t]
    simp

theorem conv_row {B : Nat} {v : Value} {t : List UInt8} {w : World} (h : w.ownsRowF B 5 1 v t.length (Lib.byteCells t)) : (convert 50 9 v).run Tryz.prog w = .ok (.string ⟨t.toArray⟩) w := by
  rcases h.2 with ⟨rfl, h0⟩ | ⟨g, cap, cur, fz, rfl, _⟩
  · have : t = [] := List.eq_nil_of_length_eq_zero h0
    subst this
    rw [run_convert_bytes_string (P := Tryz.prog) w 50 9 5 _ _ _ Tryz.underlying50 Tryz.underlying5 Tryz.underlying9]
    rfl
  · rw [run_convert_bytes_string (P := Tryz.prog) w 50 9 5 _ _ _ Tryz.underlying50 Tryz.underlying5 Tryz.underlying9]
    have hc := h.cells (g := g) rfl
    have hl : (loadCells ⟨g, 0, none⟩ t.length).run Tryz.prog w = .ok ((t.map fun b : UInt8 => (b.toNat : Int)).map (Value.int .u8)).toArray w := by
      rw [run_loadCells w ⟨g, 0, none⟩ t.length (fun j => .int .u8 ((t.getD j 0).toNat : Int)) (fun j hj => hc j _ (by simp [Lib.byteCells, List.getD, List.getElem?_eq_getElem hj]))]
      congr 2
      apply List.ext_getElem
      · simp
      · intro i h1 h2
        simp at h1
        simp [List.getD, List.getElem?_eq_getElem h1]
    rw [run_bytesToString w ⟨g, 0, none⟩ t.length cap _ hl]
    congr 2
    apply ByteArray.ext
    apply Array.toList_inj.1
    rw [foldl_push]
    rfl
end Go.Proofs.YtipolobikigmbaaGreatDoor
