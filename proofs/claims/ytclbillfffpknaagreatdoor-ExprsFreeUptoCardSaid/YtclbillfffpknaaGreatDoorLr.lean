/-
  The contract of duetref.letters, for every text of at most 2^20 bytes: the letters of a text that is UTF-8, else none.
-/
import Derived.Test.YtclbillfffpknaaGreatDoorLt
import Derived.Test.YtclbillfffpknaaGreatDoorLib
import Derived.WalkKit
import Derived.WalkSpells
import Derived.WalkLawsBesides
import Derived.Deep.QuietTactic
import Derived.BigQuiet
import Derived.Handy
import Derived.Shelf.Unicode.DecodeAny
namespace Go.Proofs.YtclbillfffpknaaGreatDoor
open Go.RowKit Go.Shelf

theorem info_i32 : (Tryz.prog.info? 21).map (fun i => (i.zero, i.size, i.bytes)) = some (some (.int .i32 0), 1, 4) := by kernel_rfl
def lcells (rs : List Nat) : List Value := rs.map fun r : Nat => Value.int .i32 (r : Int)
theorem lcells_append (a b : List Nat) : lcells (a ++ b) = lcells a ++ lcells b := by simp [lcells]

/-- what duetref.letters tells -/
def LPost (B : Nat) (s : ByteArray) (e : Ending) (w' : World) : Prop :=
  (Lib.validD s.data.toList = false ∧ e = .returned (.tuple #[.slice none 0 0, .bool false])) ∨
  (Lib.validD s.data.toList = true ∧ ∃ rs v, (∀ r ∈ rs, IsR r) ∧ s.data.toList = enc rs ∧ e = .returned (.tuple #[v, .bool true]) ∧ w'.ownsRow B 21 1 v rs.length (lcells rs))

theorem grown_of_below {w w' : World} (h : Below w.heap.size w w') : w.grownBy w' none := ⟨h.os, h.tape, h.output, h.size, fun k hk _ => h.block k hk⟩
theorem own_below {base : Nat} {e : TypeId} {size : Nat} {v : Value} {n : Nat} {xs : List Value} {w w' : World} (h : w.ownsRow base e size v n xs) (hb : Below w.heap.size w w') : w'.ownsRow base e size v n xs :=
  h.kept (grown_of_below hb) (by cases v.ownBlock <;> simp)

theorem decodeGo_L (s : ByteArray) (h : 0 < s.size) : Lib.decodeGo s = Lib.decodeL s.data.toList := by
  unfold Lib.decodeGo Lib.decodeL
  rw [if_neg (by omega)]
set_option maxRecDepth 100000 in
set_option maxHeartbeats 2000000 in
theorem letters_any (s : ByteArray) (w : World) (hs : s.size ≤ 2097152) (hT : Tabs w) :
    Calls Tryz.prog 26 #[.string s] w fun e w' => LPost w.heap.size s e w' ∧ Below w.heap.size w w' := by
  obtain ⟨i0, hi, hz0, hz1, hz2⟩ := info_parts info_i32
  go_enter Tryz.func26, Tryz.ntmps26
  go_wp2_with fail
  go_loopw [0, 4] (fun t o wr => ∃ (u : ByteArray) (rs : List Nat), t = .string u ∧ (∀ r ∈ rs, IsR r) ∧ s.data.toList = enc rs ++ u.data.toList ∧ Lib.validD s.data.toList = Lib.validD u.data.toList ∧ wr.ownsRow w.heap.size 21 1 o rs.length (lcells rs) ∧ Below w.heap.size w wr) (fun t o wr => match t with | .string u => u.size | _ => 0)
  case atStart => exact ⟨s, [], rfl, by simp, rfl, rfl, World.ownsRow_nil _ _ _ _, Below.refl _ _⟩
  case round =>
    obtain ⟨u, rs, rfl, hrs, hse, hsv, hown, hbw⟩ := hrel
    have HRS : Hid (∀ r ∈ rs, IsR r) := hrs
    have HSE : Hid (s.data.toList = enc rs ++ u.data.toList) := hse
    have HSV : Hid (Lib.validD s.data.toList = Lib.validD u.data.toList) := hsv
    have hsz := hbw.size
    have hlen : rs.length + u.size ≤ s.size := by
      have := congrArg List.length hse
      rw [List.length_append, ← size_list, ← size_list] at this
      have := enc_len_ge rs
      omega
    clear hrs hse hsv
    by_cases hu : u.size = 0
    · have hul : u.data.toList = [] := List.eq_nil_of_length_eq_zero (by rw [← size_list]; exact hu)
      have hv : Lib.validD s.data.toList = true := by rw [HSV.out, hul]; rfl
      have he : s.data.toList = enc rs := by rw [HSE.out, hul, List.append_nil]
      have hp : LPost w.heap.size s (.returned (.tuple #[u4, .bool true])) wr := .inr ⟨hv, rs, u4, HRS.out, he, rfl, hown⟩
      have hul0 : (u.size : Int) = 0 := by omega
      obtain ⟨ao, cap, rfl⟩ : ∃ ao c, u4 = .slice ao rs.length c := by
        rcases hown.2 with ⟨hv, h0⟩ | ⟨g2, cap2, cur, hv, _⟩
        · exact ⟨none, 0, by rw [hv, h0]⟩
        · exact ⟨_, _, hv⟩
      clear hv he
      go_wp2
      go_ret2
      exact ⟨hp, hbw⟩
    · have hup : 0 < u.size := by omega
      have hupz : (u.size : Int) > 0 := by omega
      have hne : u.data.toList ≠ [] := fun h => hu (by rw [size_list, h]; rfl)
      have CD := Any.utf8_DecodeRuneInString Tryz.lays197 u wr (tabs_keep w wr hT (hbw))
      rw [decodeGo_L u hup] at CD
      have hstep := Lib.validD_step u.data.toList hne
      have hisr := dec_IsR u.data.toList
      have hwd := Lib.decodeL_width u.data.toList
      have hle := Lib.decodeL_le u.data.toList hne
      have hed := Lib.encode_decode u.data.toList hne
      generalize hR : (Lib.decodeL u.data.toList).1 = R at *
      generalize hK : (Lib.decodeL u.data.toList).2 = K at *
      by_cases hb : R = 65533 ∧ K = 1
      · obtain ⟨rfl, rfl⟩ := hb
        have hv : Lib.validD s.data.toList = false := by rw [HSV.out, hstep, if_pos ⟨rfl, rfl⟩]
        have hp : ∀ W, LPost w.heap.size s (.returned (.tuple #[.slice none 0 0, .bool false])) W := fun _ => .inl ⟨hv, rfl⟩
        clear hv hstep hed hR hK hisr
        go_wp2_with fail
        refine CD.mono ?_
        rintro e w2 ⟨rfl, hb2⟩
        go_wp2
        go_ret2
        exact ⟨hp _, hbw.trans (hb2.mono hsz)⟩
      · have hed := hed hb
        rw [if_neg hb] at hstep
        have HQ1 : Hid (∀ r ∈ rs ++ [R], IsR r) := fun r hr => by
          rcases List.mem_append.1 hr with h | h
          · exact HRS.out r h
          · rw [List.mem_singleton] at h; rw [h]; exact hisr
        have hux : (u.extract K u.size).data.toList = u.data.toList.drop K := Lib.ext_list u K
        have HQ2 : Hid (s.data.toList = enc (rs ++ [R]) ++ (u.extract K u.size).data.toList) := by
          show _ = _
          rw [hux, HSE.out, enc_append, List.append_assoc]
          congr 1
          rw [show enc [R] = Lib.encodeRune (R : Int) by simp [enc], hed, List.take_append_drop]
        have HQ3 : Hid (Lib.validD s.data.toList = Lib.validD (u.extract K u.size).data.toList) := by
          show _ = _
          rw [HSV.out, hstep, hux]
        have hKz : (K : Int) ≤ (u.size : Int) := by rw [size_list]; omega
        have hK1 : (1 : Int) ≤ (K : Int) := by omega
        have hes : (u.extract K u.size).size = u.size - K := by rw [ByteArray.size_extract]; omega
        have HES : Hid ((u.extract K u.size).size = u.size - K) := hes
        obtain ⟨ao, cap, rfl⟩ : ∃ ao c, u4 = .slice ao rs.length c := by
          rcases hown.2 with ⟨hv, h0⟩ | ⟨g2, cap2, cur, hv, _⟩
          · exact ⟨none, 0, by rw [hv, h0]⟩
          · exact ⟨_, _, hv⟩
        have hK0 : 1 ≤ K := by omega
        have hle' : K ≤ u.size := by omega
        by_cases hR3 : R = 65533
        · have hR3z : ((R : Int) == 65533) = true := by rw [hR3]; rfl
          have hK2 : ¬ (K : Int) < 2 := by
            intro c; exact hb ⟨hR3, by omega⟩
          clear hstep hed hR hK hisr hux hes hb hwd hle hR3
          go_wp2_with fail
          refine CD.mono ?_
          rintro e w2 ⟨rfl, hb2⟩
          have hown2 := own_below hown hb2
          have hsz2 := hb2.size
          go_wp2_with (at_builtin; refine wpList_append_own _ rfl _ _ 59 rfl w.heap.size 21 i0 (.int .i32 0) 1 4 Tryz.underlying59 hi hz0 hz1 hz2 rfl (by decide) _ _ _ rfl (hown2.alloc _) ⟨w2.heap.size, 0, none⟩ 1 1 [.int .i32 (R : Int)] rfl rfl ?c1 ?c2 ?c3 ?c4 ?c5 ?_)
          case c1 =>
            intro j x hj
            match j, hj with
            | 0, hj => simp at hj; subst hj; simp [Addr.add]
          case c2 => intro x hx; simp at hx; subst hx; rfl
          case c3 => unfold maxLen; omega
          case c4 => omega
          case c5 => simp; omega
          intro v' w3 hown' hgrow _
          go_wp2_with fail
          go_roundw
          case rel => exact ⟨_, rs ++ [R], rfl, HQ1.out, HQ2.out, HQ3.out, by rw [lcells_append, List.length_append]; exact hown', ((hbw.trans (hb2.mono hsz)).alloc (by omega) _).grown hgrow (by simp; omega) (fun q hq => (hown2.lt q hq).1)⟩
          case measure =>
            have := HES.out
            simp; omega
        · have hR3z : ((R : Int) == 65533) = false := by rw [beq_eq_false_iff_ne]; omega
          clear hstep hed hR hK hisr hux hes hb hwd hle hR3
          go_wp2_with fail
          refine CD.mono ?_
          rintro e w2 ⟨rfl, hb2⟩
          have hown2 := own_below hown hb2
          have hsz2 := hb2.size
          go_wp2_with (at_builtin; refine wpList_append_own _ rfl _ _ 59 rfl w.heap.size 21 i0 (.int .i32 0) 1 4 Tryz.underlying59 hi hz0 hz1 hz2 rfl (by decide) _ _ _ rfl (hown2.alloc _) ⟨w2.heap.size, 0, none⟩ 1 1 [.int .i32 (R : Int)] rfl rfl ?c1 ?c2 ?c3 ?c4 ?c5 ?_)
          case c1 =>
            intro j x hj
            match j, hj with
            | 0, hj => simp at hj; subst hj; simp [Addr.add]
          case c2 => intro x hx; simp at hx; subst hx; rfl
          case c3 => unfold maxLen; omega
          case c4 => omega
          case c5 => simp; omega
          intro v' w3 hown' hgrow _
          go_wp2_with fail
          go_roundw
          case rel => exact ⟨_, rs ++ [R], rfl, HQ1.out, HQ2.out, HQ3.out, by rw [lcells_append, List.length_append]; exact hown', ((hbw.trans (hb2.mono hsz)).alloc (by omega) _).grown hgrow (by simp; omega) (fun q hq => (hown2.lt q hq).1)⟩
          case measure =>
            have := HES.out
            simp; omega
end Go.Proofs.YtclbillfffpknaaGreatDoor
