/-
  Plain mathematics: letters as bytes and back: what is UTF-8 is the bytes of a list of letters, each is read as it was written, a list of letters turned round has as many bytes, and which first letters fit into 100 bytes; for every list of letters.
-/
import Derived.Lib.ValidLaws
import Derived.Lib.ValidAsc
import Derived.Lib.RuneBytes
import Derived.Lib.RuneCountTail
import Derived.Lib.Small
import Derived.Laws.Cover4
import Derived.Laws.IdiomStrings
namespace Go.Proofs.YtfmegfgmkeicnaaDoor
open Go Go.Lib

/-- a letter's number -/
def IsR (r : Nat) : Prop := r < 55296 ∨ (57343 < r ∧ r ≤ 1114111)
/-- letters as bytes -/
def enc (rs : List Nat) : List UInt8 := rs.flatMap fun r : Nat => encodeRune (r : Int)
def rl (r : Nat) : Nat := (encodeRune (r : Int)).length

theorem rl_pos (r : Nat) : 1 ≤ rl r ∧ rl r ≤ 4 := by
  have := encodeRuneZ_length (r : Int)
  simpa [rl, encodeRune] using this

theorem enc_nil : enc [] = [] := rfl
theorem enc_cons (r : Nat) (rs : List Nat) : enc (r :: rs) = encodeRune (r : Int) ++ enc rs := by simp [enc]
theorem enc_append (a b : List Nat) : enc (a ++ b) = enc a ++ enc b := by simp [enc]
theorem enc_len_cons (r : Nat) (rs : List Nat) : (enc (r :: rs)).length = rl r + (enc rs).length := by rw [enc_cons, List.length_append]; rfl
theorem enc_len_reverse : ∀ rs : List Nat, (enc rs.reverse).length = (enc rs).length
  | [] => rfl
  | r :: rs => by rw [List.reverse_cons, enc_append, List.length_append, enc_len_reverse rs, enc_len_cons, enc_len_cons, enc_nil]; simp; omega
theorem enc_len_ge : ∀ rs : List Nat, rs.length ≤ (enc rs).length
  | [] => Nat.le_refl _
  | r :: rs => by rw [enc_len_cons, List.length_cons]; have := rl_pos r; have := enc_len_ge rs; omega

theorem byteN (z : Int) (n : Nat) (h : z = (n : Int)) (h2 : n < 256) : (z.toNat.toUInt8).toNat = n := by
  subst h; simp; omega

set_option maxRecDepth 100000 in
set_option maxHeartbeats 2000000 in
theorem decode_encode (r : Nat) (hr : IsR r) (t : List UInt8) : decodeL (encodeRune (r : Int) ++ t) = (r, rl r) := by
  unfold rl
  by_cases c1 : r ≤ 127
  · have e : encodeRune (r : Int) = [((r : Int).toNat).toUInt8] := by simp [encodeRune, encodeRuneZ_one (show (0 : Int) ≤ r by omega) (show (r : Int) ≤ 127 by omega)]
    rw [e, decodeL_N]
    simp only [List.cons_append, List.nil_append, List.getD_cons_zero, List.length_cons]
    rw [byteN (r : Int) r rfl (by omega)]
    unfold decodeN
    rw [if_pos (by omega)]
    rfl
  · by_cases c2 : r ≤ 2047
    · have e : encodeRune (r : Int) = [((192 + (r : Int) / 64).toNat).toUInt8, ((128 + (r : Int) % 64).toNat).toUInt8] := by simp [encodeRune, encodeRuneZ_two (show (128 : Int) ≤ r by omega) (show (r : Int) ≤ 2047 by omega)]
      rw [e, decodeL_N]
      simp only [List.cons_append, List.nil_append, List.getD_cons_zero, List.getD_cons_succ, List.length_cons]
      rw [byteN (192 + (r : Int) / 64) (192 + r / 64) (by omega) (by omega), byteN (128 + (r : Int) % 64) (128 + r % 64) (by omega) (by omega)]
      unfold decodeN
      rw [if_neg (by omega), if_pos (by omega), if_pos (by omega)]
      refine Prod.ext ?_ rfl
      show (192 + r / 64) % 32 * 64 + (128 + r % 64) % 64 = r
      omega
    · by_cases c3 : r ≤ 65535
      · have e : encodeRune (r : Int) = [((224 + (r : Int) / 4096).toNat).toUInt8, ((128 + (r : Int) / 64 % 64).toNat).toUInt8, ((128 + (r : Int) % 64).toNat).toUInt8] := by
          unfold IsR at hr
          simp [encodeRune, encodeRuneZ_three (show (2048 ≤ (r : Int) ∧ (r : Int) < 55296) ∨ (57343 < (r : Int) ∧ (r : Int) ≤ 65535) by omega)]
        rw [e, decodeL_N]
        simp only [List.cons_append, List.nil_append, List.getD_cons_zero, List.getD_cons_succ, List.length_cons]
        rw [byteN (224 + (r : Int) / 4096) (224 + r / 4096) (by omega) (by omega), byteN (128 + (r : Int) / 64 % 64) (128 + r / 64 % 64) (by omega) (by omega), byteN (128 + (r : Int) % 64) (128 + r % 64) (by omega) (by omega)]
        have k : (224 + r / 4096) % 16 * 4096 + (128 + r / 64 % 64) % 64 * 64 + (128 + r % 64) % 64 = r := by omega
        unfold decodeN
        unfold IsR at hr
        rw [k, if_neg (by omega), if_neg (by omega), if_pos (by omega), if_pos (by omega)]
        rfl
      · have e : encodeRune (r : Int) = [((240 + (r : Int) / 262144).toNat).toUInt8, ((128 + (r : Int) / 4096 % 64).toNat).toUInt8, ((128 + (r : Int) / 64 % 64).toNat).toUInt8, ((128 + (r : Int) % 64).toNat).toUInt8] := by
          unfold IsR at hr
          simp [encodeRune, encodeRuneZ_four (show (65536 : Int) ≤ r by omega) (show (r : Int) ≤ 1114111 by omega)]
        unfold IsR at hr
        rw [e, decodeL_N]
        simp only [List.cons_append, List.nil_append, List.getD_cons_zero, List.getD_cons_succ, List.length_cons]
        rw [byteN (240 + (r : Int) / 262144) (240 + r / 262144) (by omega) (by omega), byteN (128 + (r : Int) / 4096 % 64) (128 + r / 4096 % 64) (by omega) (by omega), byteN (128 + (r : Int) / 64 % 64) (128 + r / 64 % 64) (by omega) (by omega), byteN (128 + (r : Int) % 64) (128 + r % 64) (by omega) (by omega)]
        have k : (240 + r / 262144) % 8 * 262144 + (128 + r / 4096 % 64) % 64 * 4096 + (128 + r / 64 % 64) % 64 * 64 + (128 + r % 64) % 64 = r := by omega
        unfold decodeN
        rw [k, if_neg (by omega), if_neg (by omega), if_neg (by omega), if_pos (by omega), if_pos (by omega)]
        rfl

theorem rl_big (r : Nat) (h : r = 65533) : rl r = 3 := by subst h; decide

theorem valid_enc : ∀ rs : List Nat, (∀ r ∈ rs, IsR r) → validD (enc rs) = true
  | [], _ => rfl
  | r :: rs, h => by
    have hr := h r (by simp)
    have hp := rl_pos r
    have hne : enc (r :: rs) ≠ [] := by intro e; have := congrArg List.length e; rw [enc_len_cons] at this; simp at this; omega
    rw [validD_step _ hne]
    rw [show decodeL (enc (r :: rs)) = (r, rl r) by rw [enc_cons]; exact decode_encode r hr _]
    have : ¬ (r = 65533 ∧ rl r = 1) := fun e => by have := rl_big r e.1; omega
    rw [if_neg this]
    rw [show (enc (r :: rs)).drop (rl r) = enc rs by rw [enc_cons]; simp [rl]]
    exact valid_enc rs fun x hx => h x (by simp [hx])

theorem dec_IsR (l : List UInt8) : IsR (decodeL l).1 := by
  rw [decodeL_N]
  unfold IsR
  have b0 := (l.getD 0 0).toNat_lt
  have b1 := (l.getD 1 0).toNat_lt
  rcases decodeN_shape l.length (l.getD 0 0).toNat (l.getD 1 0).toNat (l.getD 2 0).toNat (l.getD 3 0).toNat with ⟨h, e⟩ | ⟨h, _, _, _, e⟩ | ⟨h, _, _, _, _, h5, e⟩ | ⟨h, _, _, _, _, h5, h6, e⟩ | e
  all_goals (rw [e]; simp only; omega)

theorem enc_of_valid : ∀ (n : Nat) (l : List UInt8), l.length ≤ n → validD l = true → ∃ rs : List Nat, (∀ r ∈ rs, IsR r) ∧ l = enc rs
  | 0, l, hn, _ => ⟨[], by simp, List.eq_nil_of_length_eq_zero (by omega)⟩
  | n + 1, l, hn, h => by
    by_cases hne : l = []
    · exact ⟨[], by simp, hne⟩
    · rw [validD_step l hne] at h
      by_cases hb : (decodeL l).1 = 65533 ∧ (decodeL l).2 = 1
      · rw [if_pos hb] at h; cases h
      · rw [if_neg hb] at h
        have hw := decodeL_width l
        have hl : 0 < l.length := List.length_pos_iff.2 hne
        obtain ⟨rs, h1, h2⟩ := enc_of_valid n (l.drop (decodeL l).2) (by rw [List.length_drop]; omega) h
        refine ⟨(decodeL l).1 :: rs, ?_, ?_⟩
        · intro r hr
          rcases List.mem_cons.1 hr with rfl | hr
          · exact dec_IsR l
          · exact h1 r hr
        · rw [enc_cons, encode_decode l hne hb, ← h2, List.take_append_drop]

/-- where the letters as are behind one, the next one is r -/
theorem decode_mid (s : ByteArray) (as1 : List Nat) (r : Nat) (bs : List Nat) (hs : s.data.toList = enc (as1 ++ r :: bs)) (hr : IsR r) : Utf8.decode s (enc as1).length = (r, rl r) := by
  have h := tail_decode s (enc as1).length 0
  rw [Nat.add_zero] at h
  rw [← h]
  have e : s.extract (enc as1).length s.size = ⟨(encodeRune (r : Int) ++ enc bs).toArray⟩ := by
    apply ByteArray.ext
    apply Array.toList_inj.1
    rw [ext_list, hs, enc_append, enc_cons]
    simp
  rw [e]
  exact decode_encode r hr (enc bs)

theorem size_list (s : ByteArray) : s.size = s.data.toList.length := by rw [Array.length_toList]; rfl

theorem runesFrom_enc (s : ByteArray) : ∀ (bound : Nat) (as1 bs : List Nat) (acc : Array Value), s.data.toList = enc (as1 ++ bs) → (∀ r ∈ bs, IsR r) → (enc bs).length ≤ bound →
    Conv.runesFrom s bound (enc as1).length acc = acc ++ (bs.map fun r : Nat => Value.int .i32 (r : Int)).toArray
  | 0, as1, [], acc, _, _, _ => by simp [Conv.runesFrom]
  | 0, as1, r :: bs, acc, _, _, hb => by rw [enc_len_cons] at hb; have := rl_pos r; omega
  | b + 1, as1, [], acc, hs, _, _ => by
    unfold Conv.runesFrom
    rw [if_neg (by rw [size_list, hs]; simp)]
    simp
  | b + 1, as1, r :: bs, acc, hs, hv, hb => by
    have hp := rl_pos r
    rw [enc_len_cons] at hb
    unfold Conv.runesFrom
    rw [if_pos (by rw [size_list, hs, enc_append, List.length_append, enc_len_cons]; omega), decode_mid s as1 r bs hs (hv r (by simp))]
    show Conv.runesFrom s b ((enc as1).length + rl r) _ = _
    have ih := runesFrom_enc s b (as1 ++ [r]) bs (acc.push (.int .i32 (Int.ofNat r))) (by rw [hs]; simp) (fun x hx => hv x (by simp [hx])) (by omega)
    rw [enc_append, List.length_append, enc_len_cons, enc_nil] at ih
    simp only [List.length_nil, Nat.add_zero] at ih
    rw [ih]
    simp

theorem runes_enc (s : ByteArray) (rs : List Nat) (hs : s.data.toList = enc rs) (hv : ∀ r ∈ rs, IsR r) : Conv.runesFrom s s.size 0 #[] = (rs.map fun r : Nat => Value.int .i32 (r : Int)).toArray := by
  have := runesFrom_enc s s.size [] rs #[] (by simpa using hs) hv (by rw [size_list, hs]; omega)
  simpa [enc_nil] using this

theorem countFrom_enc (s : ByteArray) : ∀ (bound : Nat) (as1 bs : List Nat), s.data.toList = enc (as1 ++ bs) → (∀ r ∈ bs, IsR r) → (enc bs).length ≤ bound → runeCountFrom s bound (enc as1).length = bs.length
  | 0, as1, [], _, _, _ => rfl
  | 0, as1, r :: bs, _, _, hb => by rw [enc_len_cons] at hb; have := rl_pos r; omega
  | b + 1, as1, [], hs, _, _ => runeCountFrom_end _ _ _ (by rw [size_list, hs]; simp)
  | b + 1, as1, r :: bs, hs, hv, hb => by
    have hp := rl_pos r
    rw [enc_len_cons] at hb
    unfold runeCountFrom
    rw [if_pos (by rw [size_list, hs, enc_append, List.length_append, enc_len_cons]; omega), decode_mid s as1 r bs hs (hv r (by simp))]
    have ih := countFrom_enc s b (as1 ++ [r]) bs (by rw [hs]; simp) (fun x hx => hv x (by simp [hx])) (by omega)
    rw [enc_append, List.length_append, enc_len_cons, enc_nil] at ih
    simp only [List.length_nil, Nat.add_zero] at ih
    simp only [ih, List.length_cons]
    omega

theorem count_enc (s : ByteArray) (rs : List Nat) (hs : s.data.toList = enc rs) (hv : ∀ r ∈ rs, IsR r) : runeCount s = rs.length := by
  have := countFrom_enc s s.size [] rs (by simpa using hs) hv (by rw [size_list, hs]; omega)
  simpa [enc_nil, runeCount] using this

theorem encode_eq (r : Nat) (hr : IsR r) : (Utf8.encode (r : Int)).data.toList = encodeRune (r : Int) := by
  unfold IsR at hr
  have hv : Utf8.valid (r : Int) = true := by unfold Utf8.valid; simp; omega
  unfold Utf8.encode
  simp only [hv, if_true, Int.toNat_natCast]
  by_cases c1 : r ≤ 127
  · rw [if_pos (by omega)]
    simp [encodeRune, encodeRuneZ_one (show (0 : Int) ≤ r by omega) (show (r : Int) ≤ 127 by omega)]
  · rw [if_neg (by omega)]
    by_cases c2 : r ≤ 2047
    · rw [if_pos (by omega)]
      simp only [encodeRune, encodeRuneZ_two (show (128 : Int) ≤ r by omega) (show (r : Int) ≤ 2047 by omega), List.map_cons, List.map_nil]
      rw [show (192 + (r : Int) / 64).toNat = 192 + r / 64 by omega, show (128 + (r : Int) % 64).toNat = 128 + r % 64 by omega]
    · rw [if_neg (by omega)]
      by_cases c3 : r ≤ 65535
      · rw [if_pos (by omega)]
        simp only [encodeRune, encodeRuneZ_three (show (2048 ≤ (r : Int) ∧ (r : Int) < 55296) ∨ (57343 < (r : Int) ∧ (r : Int) ≤ 65535) by omega), List.map_cons, List.map_nil]
        rw [show (224 + (r : Int) / 4096).toNat = 224 + r / 4096 by omega, show (128 + (r : Int) / 64 % 64).toNat = 128 + r / 64 % 64 by omega, show (128 + (r : Int) % 64).toNat = 128 + r % 64 by omega]
      · rw [if_neg (by omega)]
        simp only [encodeRune, encodeRuneZ_four (show (65536 : Int) ≤ r by omega) (show (r : Int) ≤ 1114111 by omega), List.map_cons, List.map_nil]
        rw [show (240 + (r : Int) / 262144).toNat = 240 + r / 262144 by omega, show (128 + (r : Int) / 4096 % 64).toNat = 128 + r / 4096 % 64 by omega, show (128 + (r : Int) / 64 % 64).toNat = 128 + r / 64 % 64 by omega, show (128 + (r : Int) % 64).toNat = 128 + r % 64 by omega]

theorem foldl_enc : ∀ (rs : List Nat) (t : ByteArray), (∀ r ∈ rs, IsR r) → ((rs.map fun r : Nat => (r : Int)).foldl (fun x n => x ++ Utf8.encode n) t).data.toList = t.data.toList ++ enc rs
  | [], t, _ => by simp [enc]
  | r :: rs, t, h => by
    simp only [List.map_cons, List.foldl_cons]
    rw [foldl_enc rs _ fun x hx => h x (by simp [hx])]
    simp [enc_cons, encode_eq r (h r (by simp))]
theorem runesBytes_enc (rs : List Nat) (h : ∀ r ∈ rs, IsR r) : (runesBytes (rs.map fun r : Nat => (r : Int))).data.toList = enc rs := by
  unfold runesBytes
  rw [foldl_enc rs _ h]
  rfl

theorem runeLen_eq (r : Nat) (hr : IsR r) : runeLen (r : Int) = (rl r : Int) := by
  unfold IsR at hr
  unfold runeLen rl encodeRune encodeRuneZ
  repeat' split
  all_goals first | omega | simp

/-- the letters that fit, n bytes being there -/
def fit : Nat → List Nat → List Nat
  | _, [] => []
  | n, r :: rs => if 100 < n + rl r then [] else r :: fit (n + rl r) rs
theorem fit_len : ∀ (n : Nat) (rs : List Nat), n ≤ 100 → n + (enc (fit n rs)).length ≤ 100
  | n, [], h => by simpa [fit, enc] using h
  | n, r :: rs, h => by
    unfold fit
    split
    · simpa [enc] using h
    · rw [enc_len_cons]; have := fit_len (n + rl r) rs (by omega); omega
theorem fit_all : ∀ (n : Nat) (rs : List Nat), n + (enc rs).length ≤ 100 → fit n rs = rs
  | _, [], _ => rfl
  | n, r :: rs, h => by
    rw [enc_len_cons] at h
    unfold fit
    rw [if_neg (by omega), fit_all _ rs (by omega)]
theorem fit_append : ∀ (n : Nat) (as1 bs : List Nat), n + (enc as1).length ≤ 100 → fit n (as1 ++ bs) = as1 ++ fit (n + (enc as1).length) bs
  | n, [], bs, _ => by simp [enc]
  | n, a :: as1, bs, h => by
    rw [enc_len_cons] at h
    rw [List.cons_append]
    rw [show fit n (a :: (as1 ++ bs)) = if 100 < n + rl a then [] else a :: fit (n + rl a) (as1 ++ bs) from rfl, if_neg (by omega), fit_append _ as1 bs (by omega), enc_len_cons, Nat.add_assoc, List.cons_append]
theorem fit_mem : ∀ (n : Nat) (rs : List Nat) (r : Nat), r ∈ fit n rs → r ∈ rs
  | _, [], _, h => by simp [fit] at h
  | n, a :: rs, r, h => by
    unfold fit at h
    split at h
    · simp at h
    · rcases List.mem_cons.1 h with rfl | h
      · simp
      · exact List.mem_cons_of_mem _ (fit_mem _ rs r h)
theorem fit_count : ∀ (n : Nat) (rs : List Nat), (fit n rs).length ≤ rs.length
  | _, [] => Nat.le_refl _
  | n, r :: rs => by
    unfold fit
    split
    · simp
    · have := fit_count (n + rl r) rs; simp; omega
end Go.Proofs.YtfmegfgmkeicnaaDoor
