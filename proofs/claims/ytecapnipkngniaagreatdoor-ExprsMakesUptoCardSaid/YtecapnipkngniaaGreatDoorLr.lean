/-
  Texts as lists of bytes and back; a row of bytes that a call owns turned into a text; what strconv.FormatInt tells, as a hypothesis.
-/
import Derived.Test.YtecapnipkngniaaGreatDoorXe
import Derived.Test.YtecapnipkngniaaGreatDoorQm
import Derived.Laws.BytesString
import Derived.Test.YtecapnipkngniaaGreatDoorRows
import Derived.Test.YtecapnipkngniaaGreatDoorBu
import Derived.ProofKit
import Derived.Lib.SmallJoins
import Derived.Lib.LaidU8T
import Derived.Lib.LaidIn
import Derived.PinnedBridge
import Derived.Lay
import Derived.SevenTiedAt
import Derived.WalkKit
import Derived.WalkSpells
import Derived.WalkLawsBesides
import Derived.Deep.QuietTactic
import Derived.BigQuiet
import Derived.Handy
import Derived.Shelf.Unicode.DecodeAny
namespace Go.Proofs.YtecapnipkngniaaGreatDoor
open Go.RowKit Go.Shelf
variable (Tabs : World → Prop)

def bs (l : List UInt8) : ByteArray := ⟨l.toArray⟩
theorem bs_list (l : List UInt8) : (bs l).data.toList = l := by simp [bs]
theorem bs_of (s : ByteArray) : bs s.data.toList = s := by
  apply ByteArray.ext; apply Array.toList_inj.1; rw [bs_list]
theorem bs_inj {s : ByteArray} {l : List UInt8} (h : s.data.toList = l) : s = bs l := by rw [← h, bs_of]

theorem str_ne {s t : ByteArray} (h : s ≠ t) : (s.toList == t.toList) = false := by
  rw [beq_eq_false_iff_ne]
  intro e
  rw [ByteArray.toList_eq, ByteArray.toList_eq] at e
  exact h (ByteArray.ext (Array.toList_inj.1 e))

theorem foldl_push : ∀ (t : List UInt8) (r : ByteArray), ((t.map fun b : UInt8 => (b.toNat : Int)).foldl (fun r n => r.push (UInt8.ofNat n.toNat)) r).data.toList = r.data.toList ++ t
  | [], r => by simp
  | b :: t, r => by
    simp only [List.map_cons, List.foldl_cons]
    rw [foldl_push t]
    simp

theorem conv_row {B : Nat} {v : Value} {t : List UInt8} {w : World} (h : w.ownsRowF B 5 1 v t.length (Lib.byteCells t)) : (convert 134 9 v).run Tryz.prog w = .ok (.string ⟨t.toArray⟩) w := by
  rcases h.2 with ⟨rfl, h0⟩ | ⟨g, cap, cur, fz, rfl, _⟩
  · have : t = [] := List.eq_nil_of_length_eq_zero h0
    subst this
    rw [run_convert_bytes_string (P := Tryz.prog) w 134 9 5 _ _ _ Tryz.underlying134 Tryz.underlying5 Tryz.underlying9]
    rfl
  · rw [run_convert_bytes_string (P := Tryz.prog) w 134 9 5 _ _ _ Tryz.underlying134 Tryz.underlying5 Tryz.underlying9]
    have hc := h.cells (g := g) rfl
    have hl : (loadCells ⟨g, 0, none⟩ t.length).run Tryz.prog w = .ok ((t.map fun b : UInt8 => (b.toNat : Int)).map (Value.int .u8)).toArray w := by
      rw [run_loadCells w ⟨g, 0, none⟩ t.length (fun j => .int .u8 ((t.getD j 0).toNat : Int)) (fun j hj => hc j _ (by simp [Lib.byteCells, List.getD, List.getElem?_eq_getElem hj]))]
      congr 2
      apply List.ext_getElem
      · simp
      · intro i h1 h2
        simp at h1
        simp [List.getD, List.getElem?_eq_getElem h1]
    rw [run_bytesToString w ⟨g, 0, none⟩ t.length cap _ hl]
    congr 2
    apply ByteArray.ext
    apply Array.toList_inj.1
    rw [foldl_push]
    rfl
end Go.Proofs.YtecapnipkngniaaGreatDoor
/-
  How a Value is read as data and back, what the two tables of utf8 hold, and utf8.ValidString's and strings.Compare's contracts at this program. Conditions: none.
-/
namespace Go.Proofs.YtecapnipkngniaaGreatDoor
open Go.RowKit Go.Shelf Go.Lib Go.Joins
open Go.ChangeShapes Go.WideShapes Go.ChangeAt

theorem own : ownKnob Tryz.prog.godebug = none := by kernel_rfl
theorem cells23 : Tryz.prog.cellsOf 23 = 3 := by kernel_rfl
abbrev Tabs (w : World) : Prop := Lib.Utf8Tabs (Tryz.lays196_ren.g 3) (Tryz.lays196_ren.g 4) w
theorem tabs_keep (w w' : World) (h : Tabs w) (hb : Below w.heap.size w w') : Tabs w' := Utf8Tabs_below h hb
theorem vSaid : VSaid vD Tabs := fun s w hs hT => Any.utf8_ValidString Tryz.lays196 s w hs hT

section
variable {H : Type} {enc : TypeId × Value → H}
set_option maxRecDepth 100000 in
theorem openValue {W : World} {r : Reach} {b0 base : Nat} {spare : Nat → Bool} {held : Bool} {v : Value} {d : DataW H} {p : List MemPlace} (hv : Value.okWide Tryz.prog W r b0 23 v) (h : DataW.Trod enc Tryz.prog W base spare held 23 v d p) :
    ∃ (so n : Int) (s : ByteArray), v = .agg #[.int .i64 so, .int .i64 n, .string s] ∧ d = .agg [.lit (.int .i64 so), .lit (.int .i64 n), .lit (.string s.data.toList)] ∧ p = [] ∧ (Lit.int .i64 so).wf = true ∧ (Lit.int .i64 n).wf = true ∧ s.size ≤ maxLen := by
  obtain ⟨c0, c1, c2, y0, y1, y2, m, rfl, rfl, rfl, hy0, hy1, hy2⟩ := open_agg3 Tryz.underlying23 (by kernel_rfl) cells23 hv h
  obtain ⟨so, e0, rfl, wa⟩ := DataW.trod_int Tryz.underlying3 hy0
  obtain ⟨n, e1, rfl, wb⟩ := DataW.trod_int Tryz.underlying2 hy1
  obtain ⟨s, e2, rfl, ws⟩ := DataW.trod_string Tryz.underlying9 hy2
  simp at e0 e1 e2
  subst e0 e1 e2
  exact ⟨so, n, s, rfl, rfl, rfl, wa, wb, ws⟩
set_option maxRecDepth 100000 in
theorem shutValue {W : World} {base : Nat} {spare : Nat → Bool} {held : Bool} {so n : Int} {s : ByteArray} (wa : (Lit.int .i64 so).wf = true) (wb : (Lit.int .i64 n).wf = true) (ws : s.size ≤ maxLen) :
    DataW.Trod enc Tryz.prog W base spare held 23 (.agg #[.int .i64 so, .int .i64 n, .string s]) (.agg [.lit (.int .i64 so), .lit (.int .i64 n), .lit (.string s.data.toList)]) [] :=
  shut_agg3 (y0 := (.lit (.int .i64 so), [])) (y1 := (.lit (.int .i64 n), [])) (y2 := (.lit (.string s.data.toList), [])) Tryz.underlying23 (by kernel_rfl) cells23
    ⟨1, by simp [DataW.trod, Tryz.underlying3, wa]⟩ ⟨1, by simp [DataW.trod, Tryz.underlying2, wb]⟩ ⟨1, by simp [DataW.trod, Tryz.underlying9, ws]⟩
end
theorem acc_eq : (Rows.laid_unicode_utf8_acceptRanges : DataW Unit) = Lib.acceptData := by kernel_rfl


/-- a world in which what lay in W0 still lies -/
def AT (W0 w : World) : Prop := Below W0.heap.size W0 w
theorem at_tabs {W0 w : World} (h0 : Tabs W0) (h : AT W0 w) : Tabs w := tabs_keep W0 w h0 h
theorem at_v {W0 : World} (h0 : Tabs W0) : VSaid vD (AT W0) := fun s w hs hT => vSaid s w hs (at_tabs h0 hT)
theorem at_k {W0 : World} : ∀ w w', AT W0 w → Below w.heap.size w w' → AT W0 w' := fun _ _ h hb => Below.trans h (hb.mono h.size)
theorem at_k2 {W0 : World} : ∀ B w w', W0.heap.size ≤ B → AT W0 w → Below B w w' → AT W0 w' := fun _ _ _ hB h hb => Below.trans h (hb.mono hB)
theorem at_0 {W0 : World} : ∀ w, AT W0 w → W0.heap.size ≤ w.heap.size := fun _ h => h.size
theorem cSaid : CSaid := fun a b w => Any.strings_Compare Tryz.lays106 a b w
end Go.Proofs.YtecapnipkngniaaGreatDoor

/-
  The contract of duetref.letters, for every text of at most 2^20 bytes: the letters of a text that is UTF-8, else none.
-/
namespace Go.Proofs.YtecapnipkngniaaGreatDoor
open Go.RowKit Go.Shelf

theorem info_i32 : (Tryz.prog.info? 21).map (fun i => (i.zero, i.size, i.bytes)) = some (some (.int .i32 0), 1, 4) := by kernel_rfl
def lcells (rs : List Nat) : List Value := rs.map fun r : Nat => Value.int .i32 (r : Int)
theorem lcells_append (a b : List Nat) : lcells (a ++ b) = lcells a ++ lcells b := by simp [lcells]

/-- what duetref.letters tells -/
def LPost (B : Nat) (s : ByteArray) (e : Ending) (w' : World) : Prop :=
  (Lib.validD s.data.toList = false ∧ e = .returned (.tuple #[.slice none 0 0, .bool false])) ∨
  (Lib.validD s.data.toList = true ∧ ∃ rs v, (∀ r ∈ rs, IsR r) ∧ s.data.toList = enc rs ∧ e = .returned (.tuple #[v, .bool true]) ∧ w'.ownsRow B 21 1 v rs.length (lcells rs))

theorem grown_of_below {w w' : World} (h : Below w.heap.size w w') : w.grownBy w' none := ⟨h.os, h.tape, h.output, h.size, fun k hk _ => h.block k hk⟩
theorem own_below {base : Nat} {e : TypeId} {size : Nat} {v : Value} {n : Nat} {xs : List Value} {w w' : World} (h : w.ownsRow base e size v n xs) (hb : Below w.heap.size w w') : w'.ownsRow base e size v n xs :=
  h.kept (grown_of_below hb) (by cases v.ownBlock <;> simp)

theorem decodeGo_L (s : ByteArray) (h : 0 < s.size) : Lib.decodeGo s = Lib.decodeL s.data.toList := by
  unfold Lib.decodeGo Lib.decodeL
  rw [if_neg (by omega)]
set_option maxRecDepth 100000 in
set_option maxHeartbeats 2000000 in
theorem letters_any (s : ByteArray) (w : World) (hs : s.size ≤ 2097152) (hT : Tabs w) :
    Calls Tryz.prog 25 #[.string s] w fun e w' => LPost w.heap.size s e w' ∧ Below w.heap.size w w' := by
  obtain ⟨i0, hi, hz0, hz1, hz2⟩ := info_parts info_i32
  go_enter Tryz.func25, Tryz.ntmps25
  go_wp2_with fail
  go_loopw [0, 4] (fun t o wr => ∃ (u : ByteArray) (rs : List Nat), t = .string u ∧ (∀ r ∈ rs, IsR r) ∧ s.data.toList = enc rs ++ u.data.toList ∧ Lib.validD s.data.toList = Lib.validD u.data.toList ∧ wr.ownsRow w.heap.size 21 1 o rs.length (lcells rs) ∧ Below w.heap.size w wr) (fun t o wr => match t with | .string u => u.size | _ => 0)
  case atStart => exact ⟨s, [], rfl, by simp, rfl, rfl, World.ownsRow_nil _ _ _ _, Below.refl _ _⟩
  case round =>
    obtain ⟨u, rs, rfl, hrs, hse, hsv, hown, hbw⟩ := hrel
    have HRS : Hid (∀ r ∈ rs, IsR r) := hrs
    have HSE : Hid (s.data.toList = enc rs ++ u.data.toList) := hse
    have HSV : Hid (Lib.validD s.data.toList = Lib.validD u.data.toList) := hsv
    have hsz := hbw.size
    have hlen : rs.length + u.size ≤ s.size := by
      have := congrArg List.length hse
      rw [List.length_append, ← size_list, ← size_list] at this
      have := enc_len_ge rs
      omega
    clear hrs hse hsv
    by_cases hu : u.size = 0
    · have hul : u.data.toList = [] := List.eq_nil_of_length_eq_zero (by rw [← size_list]; exact hu)
      have hv : Lib.validD s.data.toList = true := by rw [HSV.out, hul]; rfl
      have he : s.data.toList = enc rs := by rw [HSE.out, hul, List.append_nil]
      have hp : LPost w.heap.size s (.returned (.tuple #[u4, .bool true])) wr := .inr ⟨hv, rs, u4, HRS.out, he, rfl, hown⟩
      have hul0 : (u.size : Int) = 0 := by omega
      obtain ⟨ao, cap, rfl⟩ : ∃ ao c, u4 = .slice ao rs.length c := by
        rcases hown.2 with ⟨hv, h0⟩ | ⟨g2, cap2, cur, hv, _⟩
        · exact ⟨none, 0, by rw [hv, h0]⟩
        · exact ⟨_, _, hv⟩
      clear hv he
      go_wp2
      go_ret2
      exact ⟨hp, hbw⟩
    · have hup : 0 < u.size := by omega
      have hupz : (u.size : Int) > 0 := by omega
      have hne : u.data.toList ≠ [] := fun h => hu (by rw [size_list, h]; rfl)
      have CD := Any.utf8_DecodeRuneInString Tryz.lays197 u wr (tabs_keep w wr hT (hbw))
      rw [decodeGo_L u hup] at CD
      have hstep := Lib.validD_step u.data.toList hne
      have hisr := dec_IsR u.data.toList
      have hwd := Lib.decodeL_width u.data.toList
      have hle := Lib.decodeL_le u.data.toList hne
      have hed := Lib.encode_decode u.data.toList hne
      generalize hR : (Lib.decodeL u.data.toList).1 = R at *
      generalize hK : (Lib.decodeL u.data.toList).2 = K at *
      by_cases hb : R = 65533 ∧ K = 1
      · obtain ⟨rfl, rfl⟩ := hb
        have hv : Lib.validD s.data.toList = false := by rw [HSV.out, hstep, if_pos ⟨rfl, rfl⟩]
        have hp : ∀ W, LPost w.heap.size s (.returned (.tuple #[.slice none 0 0, .bool false])) W := fun _ => .inl ⟨hv, rfl⟩
        clear hv hstep hed hR hK hisr
        go_wp2_with fail
        refine CD.mono ?_
        rintro e w2 ⟨rfl, hb2⟩
        go_wp2
        go_ret2
        exact ⟨hp _, hbw.trans (hb2.mono hsz)⟩
      · have hed := hed hb
        rw [if_neg hb] at hstep
        have HQ1 : Hid (∀ r ∈ rs ++ [R], IsR r) := fun r hr => by
          rcases List.mem_append.1 hr with h | h
          · exact HRS.out r h
          · rw [List.mem_singleton] at h; rw [h]; exact hisr
        have hux : (u.extract K u.size).data.toList = u.data.toList.drop K := Lib.ext_list u K
        have HQ2 : Hid (s.data.toList = enc (rs ++ [R]) ++ (u.extract K u.size).data.toList) := by
          show _ = _
          rw [hux, HSE.out, enc_append, List.append_assoc]
          congr 1
          rw [show enc [R] = Lib.encodeRune (R : Int) by simp [enc], hed, List.take_append_drop]
        have HQ3 : Hid (Lib.validD s.data.toList = Lib.validD (u.extract K u.size).data.toList) := by
          show _ = _
          rw [HSV.out, hstep, hux]
        have hKz : (K : Int) ≤ (u.size : Int) := by rw [size_list]; omega
        have hK1 : (1 : Int) ≤ (K : Int) := by omega
        have hes : (u.extract K u.size).size = u.size - K := by rw [ByteArray.size_extract]; omega
        have HES : Hid ((u.extract K u.size).size = u.size - K) := hes
        obtain ⟨ao, cap, rfl⟩ : ∃ ao c, u4 = .slice ao rs.length c := by
          rcases hown.2 with ⟨hv, h0⟩ | ⟨g2, cap2, cur, hv, _⟩
          · exact ⟨none, 0, by rw [hv, h0]⟩
          · exact ⟨_, _, hv⟩
        have hK0 : 1 ≤ K := by omega
        have hle' : K ≤ u.size := by omega
        by_cases hR3 : R = 65533
        · have hR3z : ((R : Int) == 65533) = true := by rw [hR3]; rfl
          have hK2 : ¬ (K : Int) < 2 := by
            intro c; exact hb ⟨hR3, by omega⟩
          clear hstep hed hR hK hisr hux hes hb hwd hle hR3
          go_wp2_with fail
          refine CD.mono ?_
          rintro e w2 ⟨rfl, hb2⟩
          have hown2 := own_below hown hb2
          have hsz2 := hb2.size
          go_wp2_with (at_builtin; refine wpList_append_own _ rfl _ _ 54 rfl w.heap.size 21 i0 (.int .i32 0) 1 4 Tryz.underlying54 hi hz0 hz1 hz2 rfl (by decide) _ _ _ rfl (hown2.alloc _) ⟨w2.heap.size, 0, none⟩ 1 1 [.int .i32 (R : Int)] rfl rfl ?c1 ?c2 ?c3 ?c4 ?c5 ?_)
          case c1 =>
            intro j x hj
            match j, hj with
            | 0, hj => simp at hj; subst hj; simp [Addr.add]
          case c2 => intro x hx; simp at hx; subst hx; rfl
          case c3 => unfold maxLen; omega
          case c4 => omega
          case c5 => simp; omega
          intro v' w3 hown' hgrow _
          go_wp2_with fail
          go_roundw
          case rel => exact ⟨_, rs ++ [R], rfl, HQ1.out, HQ2.out, HQ3.out, by rw [lcells_append, List.length_append]; exact hown', ((hbw.trans (hb2.mono hsz)).alloc (by omega) _).grown hgrow (by simp; omega) (fun q hq => (hown2.lt q hq).1)⟩
          case measure =>
            have := HES.out
            simp; omega
        · have hR3z : ((R : Int) == 65533) = false := by rw [beq_eq_false_iff_ne]; omega
          clear hstep hed hR hK hisr hux hes hb hwd hle hR3
          go_wp2_with fail
          refine CD.mono ?_
          rintro e w2 ⟨rfl, hb2⟩
          have hown2 := own_below hown hb2
          have hsz2 := hb2.size
          go_wp2_with (at_builtin; refine wpList_append_own _ rfl _ _ 54 rfl w.heap.size 21 i0 (.int .i32 0) 1 4 Tryz.underlying54 hi hz0 hz1 hz2 rfl (by decide) _ _ _ rfl (hown2.alloc _) ⟨w2.heap.size, 0, none⟩ 1 1 [.int .i32 (R : Int)] rfl rfl ?c1 ?c2 ?c3 ?c4 ?c5 ?_)
          case c1 =>
            intro j x hj
            match j, hj with
            | 0, hj => simp at hj; subst hj; simp [Addr.add]
          case c2 => intro x hx; simp at hx; subst hx; rfl
          case c3 => unfold maxLen; omega
          case c4 => omega
          case c5 => simp; omega
          intro v' w3 hown' hgrow _
          go_wp2_with fail
          go_roundw
          case rel => exact ⟨_, rs ++ [R], rfl, HQ1.out, HQ2.out, HQ3.out, by rw [lcells_append, List.length_append]; exact hown', ((hbw.trans (hb2.mono hsz)).alloc (by omega) _).grown hgrow (by simp; omega) (fun q hq => (hown2.lt q hq).1)⟩
          case measure =>
            have := HES.out
            simp; omega
end Go.Proofs.YtecapnipkngniaaGreatDoor
