/-
  duetkeep.ValuesJoin returns true, for every two values; utf8.ValidString's contract is a hypothesis here.
-/
import Derived.Test.YtbhgcfoplpjfjaaDoorLj
namespace Go.Proofs.YtbhgcfoplpjfjaaDoor
open Go.RowKit Go.Shelf
variable (Tabs : World → Prop)

/-- is it UTF-8? -/
def vD (s : ByteArray) : Bool := Lib.validD s.data.toList

theorem argZ_zero (b : Bool) : argZ b = 0 ↔ b = true := by cases b <;> simp [argZ]
theorem text_zero (V : ByteArray → Bool) (n : Int) (s : ByteArray) : textZ V n s = 0 ↔ n = 0 ∧ s.size ≤ 100 ∧ V s = true := by
  unfold textZ
  by_cases hn : n = 0
  · by_cases hl : 100 < s.size
    · simp [hn, hl]; omega
    · simp [hn, hl, argZ_zero]; omega
  · simp [hn]
theorem chk3 (V : ByteArray → Bool) (n : Int) (s : ByteArray) : chkZ V 3 n s = textZ V n s := rfl
theorem need1_zero (V : ByteArray → Bool) (so n : Int) (s : ByteArray) : needZ1 V so n s = 0 ↔ so = 3 ∧ n = 0 ∧ s.size ≤ 100 ∧ V s = true := by
  unfold needZ1
  by_cases h3 : so = 3
  · subst h3
    rw [chk3, ← text_zero]
    by_cases h : textZ V n s = 0 <;> simp [h]
  · by_cases h : chkZ V so n s = 0 <;> simp [h, h3]
theorem nz2' (a b : Int) : firstNZ [a, b] = 0 ↔ a = 0 ∧ b = 0 := by
  simp only [firstNZ]
  split
  · split <;> simp_all
  · simp_all
theorem need2_zero (V : ByteArray → Bool) (so n : Int) (s : ByteArray) (so' n' : Int) (s' : ByteArray) : needZ2 V so n s so' n' s' = 0 ↔ needZ1 V so n s = 0 ∧ needZ1 V so' n' s' = 0 := by
  unfold needZ2 needZ1
  have hz := nz2' (chkZ V so n s) (chkZ V so' n' s')
  by_cases h : chkZ V so n s = 0
  · by_cases h' : chkZ V so' n' s' = 0
    · rw [hz.2 ⟨h, h'⟩, h, h']
      by_cases q : so = 3 <;> by_cases q' : so' = 3 <;> simp [q, q']
    · have hn : firstNZ [chkZ V so n s, chkZ V so' n' s'] ≠ 0 := fun e => h' (hz.1 e).2
      simp [hn, h']
  · have hn : firstNZ [chkZ V so n s, chkZ V so' n' s'] ≠ 0 := fun e => h (hz.1 e).1
    simp [hn, h]

/-- bytes as a string -/
def str (rs : List Nat) : ByteArray := ⟨(enc rs).toArray⟩
theorem str_list (rs : List Nat) : (str rs).data.toList = enc rs := by simp [str]
theorem str_size (rs : List Nat) : (str rs).size = (enc rs).length := by rw [size_list, str_list]
theorem str_of (s : ByteArray) (rs : List Nat) (h : s.data.toList = enc rs) : s = str rs := by
  apply ByteArray.ext
  apply Array.toList_inj.1
  rw [str_list, h]
theorem str_vD (rs : List Nat) (h : ∀ r ∈ rs, IsR r) : vD (str rs) = true := by unfold vD; rw [str_list]; exact valid_enc rs h
theorem str_need (rs : List Nat) (h : ∀ r ∈ rs, IsR r) (hl : (enc rs).length ≤ 100) : needZ1 vD 3 0 (str rs) = 0 := (need1_zero _ _ _ _).2 ⟨rfl, rfl, by rw [str_size]; exact hl, str_vD rs h⟩
theorem str_all (s : ByteArray) (h : vD s = true) : ∃ rs : List Nat, (∀ r ∈ rs, IsR r) ∧ s = str rs := by
  obtain ⟨rs, h1, h2⟩ := enc_of_valid _ s.data.toList (Nat.le_refl _) h
  exact ⟨rs, h1, str_of s rs h2⟩

theorem ts_good (hV : VSaid vD Tabs) (hK : ∀ w w', Tabs w → Below w.heap.size w w' → Tabs w') (rs : List Nat) (h : ∀ r ∈ rs, IsR r) (hl : (enc rs).length ≤ 100) : TS Tabs 3 0 (str rs) 3 0 (str rs.reverse) 0 :=
  fun W hW => turned_good vD Tabs hV hK 0 (str rs) W rs (by rw [str_size]; exact hl) (str_list rs) h hW (str_need rs h hl)
theorem ls_good (hV : VSaid vD Tabs) (hK : ∀ w w', Tabs w → Below w.heap.size w w' → Tabs w') (rs : List Nat) (h : ∀ r ∈ rs, IsR r) (hl : (enc rs).length ≤ 100) : LS Tabs 3 0 (str rs) rs.length 0 := fun W hW => by
  have c := length_any vD Tabs hV hK 3 0 (str rs) W (by rw [str_size]; omega) hW
  rw [lenZ, str_need rs h hl, if_pos rfl, count_enc (str rs) rs (str_list rs) h] at c
  exact c
theorem js_good (hV : VSaid vD Tabs) (hK : ∀ w w', Tabs w → Below w.heap.size w w' → Tabs w') (ra rb : List Nat) (ha : ∀ r ∈ ra, IsR r) (hb : ∀ r ∈ rb, IsR r) (la : (enc ra).length ≤ 100) (lb : (enc rb).length ≤ 100) :
    JS Tabs 3 0 (str ra) 3 0 (str rb) 3 0 (str (fit 0 (ra ++ rb))) 0 := fun W hW =>
  joined_good vD Tabs hV hK 0 0 (str ra) (str rb) W ra rb (by rw [str_size]; exact la) (by rw [str_size]; exact lb) (str_list ra) (str_list rb) (fun r hr => (List.mem_append.1 hr).elim (ha r) (hb r)) hW ((need2_zero _ _ _ _ _ _ _).2 ⟨str_need ra ha la, str_need rb hb lb⟩)

theorem ab_is : str [97, 98] = ⟨#[97, 98]⟩ := by decide
theorem ba_is : str [98, 97] = ⟨#[98, 97]⟩ := by decide

set_option maxHeartbeats 400000 in
theorem join_any (hV : VSaid vD Tabs) (hK : ∀ w w', Tabs w → Below w.heap.size w w' → Tabs w') (so n so' n' : Int) (s s' : ByteArray) (w : World) (hs : s.size ≤ 9223372036854775807) (hs' : s'.size ≤ 9223372036854775807) (hT : Tabs w) :
    Calls Tryd.prog 6 #[.agg #[.int .i64 so, .int .i64 n, .string s], .agg #[.int .i64 so', .int .i64 n', .string s']] w fun e w' => e = .returned (.bool true) ∧ Below w.heap.size w w' := by
  have h0 : TS Tabs 3 0 ⟨#[97, 98]⟩ 3 0 ⟨#[98, 97]⟩ 0 := by
    have := ts_good Tabs hV hK [97, 98] (by intro r hr; simp at hr; unfold IsR; omega) (by decide)
    rw [ab_is] at this
    exact ba_is ▸ this
  by_cases ha : needZ1 vD so n s = 0
  · obtain ⟨rfl, rfl, la, va⟩ := (need1_zero _ _ _ _).1 ha
    obtain ⟨ra, hra, rfl⟩ := str_all s va
    rw [str_size] at la
    have hra' : ∀ r ∈ ra.reverse, IsR r := fun r hr => hra r (by simpa using hr)
    have la' : (enc ra.reverse).length ≤ 100 := by rw [enc_len_reverse]; exact la
    have h1 := ts_good Tabs hV hK ra hra la
    have h2 := ts_good Tabs hV hK ra.reverse hra' la'
    rw [List.reverse_reverse] at h2
    have h3 := ls_good Tabs hV hK ra hra la
    have h4 := ls_good Tabs hV hK ra.reverse hra' la'
    rw [List.length_reverse] at h4
    by_cases hb : needZ1 vD so' n' s' = 0
    · obtain ⟨rfl, rfl, lb, vb⟩ := (need1_zero _ _ _ _).1 hb
      obtain ⟨rb, hrb, rfl⟩ := str_all s' vb
      rw [str_size] at lb
      have hrb' : ∀ r ∈ rb.reverse, IsR r := fun r hr => hrb r (by simpa using hr)
      have lb' : (enc rb.reverse).length ≤ 100 := by rw [enc_len_reverse]; exact lb
      have h5 := js_good Tabs hV hK ra rb hra hrb la lb
      have h6 := ls_good Tabs hV hK rb hrb lb
      have hf : fit 0 (ra ++ rb) = ra ++ fit (enc ra).length rb := by have := fit_append 0 ra rb (by omega); rw [Nat.zero_add] at this; exact this
      have hc : ∀ r ∈ fit 0 (ra ++ rb), IsR r := fun r hr => (List.mem_append.1 (fit_mem _ _ _ hr)).elim (hra r) (hrb r)
      have lc : (enc (fit 0 (ra ++ rb))).length ≤ 100 := by have := fit_len 0 (ra ++ rb) (by omega); omega
      have h7 := ls_good Tabs hV hK (fit 0 (ra ++ rb)) hc lc
      have ka := enc_len_ge ra
      have kb := enc_len_ge rb
      have hlen : (fit 0 (ra ++ rb)).length ≤ ra.length + rb.length := by rw [hf, List.length_append]; have := fit_count (enc ra).length rb; omega
      have hsz : (str ra).size ≤ (str (fit 0 (ra ++ rb))).size := by rw [str_size, str_size, hf, enc_append, List.length_append]; omega
      have hpre : (str (fit 0 (ra ++ rb))).extract 0 (str ra).size = str ra := by
        apply ByteArray.ext
        apply Array.toList_inj.1
        rw [ByteArray.data_extract, Array.toList_extract, str_size, str_list, str_list, hf, enc_append]
        simp
      by_cases hbig : 100 < (str ra).size + (str rb).size
      · exact join_good1 Tabs hK 3 0 3 0 _ _ _ _ _ _ _ w hT h0 h1 h2 h3 h4 h5 h6 h7 (by omega) (by omega) (by omega) (by omega) (by omega) (by rw [str_size]; exact la) (by rw [str_size]; exact lb) hsz hpre hbig
      · have hb0 : (enc ra).length + (enc rb).length ≤ 100 := by rw [str_size, str_size] at hbig; omega
        have hall : fit 0 (ra ++ rb) = ra ++ rb := fit_all 0 _ (by rw [enc_append, List.length_append]; omega)
        have h8 := ts_good Tabs hV hK rb hrb lb
        have h9 := js_good Tabs hV hK rb.reverse ra.reverse hrb' hra' lb' la'
        have hall2 : fit 0 (rb.reverse ++ ra.reverse) = rb.reverse ++ ra.reverse := fit_all 0 _ (by rw [enc_append, List.length_append, enc_len_reverse, enc_len_reverse]; omega)
        rw [hall2] at h9
        have h10 := ts_good Tabs hV hK (fit 0 (ra ++ rb)) hc lc
        rw [hall, List.reverse_append] at h10
        rw [hall] at h5 h7 hlen hsz hpre
        exact join_good2 Tabs hK 3 0 3 0 _ _ _ _ _ _ _ _ _ w hT h0 h1 h2 h3 h4 h5 h6 h7 (by omega) (by omega) (by omega) (by omega) (by omega) (by rw [str_size]; exact la) (by rw [str_size]; exact lb) hsz hpre hbig (by simp) h8 h9 h10
    · have hz : needZ2 vD 3 0 (str ra) so' n' s' ≠ 0 := fun e => hb ((need2_zero _ _ _ _ _ _ _).1 e).2
      exact join_bad_b Tabs hK 3 0 so' n' _ s' _ _ _ w hT h0 h1 h2 h3 h4 (fun W hW => joined_bad vD Tabs hV hK 3 0 so' n' (str ra) s' W hs hs' hW hz) hz
  · exact join_bad_a Tabs hK so n so' n' s s' _ w hT h0 (fun W hW => turned_bad vD Tabs hV hK so n s W hs hW ha) ha
end Go.Proofs.YtbhgcfoplpjfjaaDoor
