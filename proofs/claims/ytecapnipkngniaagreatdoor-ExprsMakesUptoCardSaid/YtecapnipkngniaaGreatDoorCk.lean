/-
  The contracts of duetref.Length and duetref.Joined, for texts of at most 100 bytes that are UTF-8.
-/
import Derived.Test.YtecapnipkngniaaGreatDoorYa
import Derived.Test.YtecapnipkngniaaGreatDoorRc
import Derived.Test.YtecapnipkngniaaGreatDoorLr
import Derived.Test.YtecapnipkngniaaGreatDoorXj
import Derived.Test.YtecapnipkngniaaGreatDoorCi
import Derived.Test.YtecapnipkngniaaGreatDoorBh
import Derived.Deep.RegionHeld3
namespace Go.Proofs.YtecapnipkngniaaGreatDoor
open Go.RowKit Go.Shelf

theorem utf8_enc (r : Nat) (h : IsR r) : (Utf8.encode (r : Int)).data.toList = Lib.encodeRune (r : Int) := by
  have hv : Utf8.valid (r : Int) = true := by unfold IsR at h; simp [Utf8.valid]; omega
  unfold Utf8.encode Lib.encodeRune
  simp only [hv, if_true, Int.toNat_natCast]
  by_cases h1 : r < 128
  · rw [if_pos h1, Lib.encodeRuneZ_one (by omega) (by omega)]; simp
  · rw [if_neg h1]
    by_cases h2 : r < 2048
    · rw [if_pos h2, Lib.encodeRuneZ_two (by omega) (by omega)]
      simp only [List.map_cons, List.map_nil]
      rw [show (192 + (r : Int) / 64).toNat = 192 + r / 64 by omega, show (128 + (r : Int) % 64).toNat = 128 + r % 64 by omega]
    · rw [if_neg h2]
      by_cases h3 : r < 65536
      · rw [if_pos h3, Lib.encodeRuneZ_three (by unfold IsR at h; omega)]
        simp only [List.map_cons, List.map_nil]
        rw [show (224 + (r : Int) / 4096).toNat = 224 + r / 4096 by omega, show (128 + (r : Int) / 64 % 64).toNat = 128 + r / 64 % 64 by omega, show (128 + (r : Int) % 64).toNat = 128 + r % 64 by omega]
      · rw [if_neg h3, Lib.encodeRuneZ_four (by omega) (by unfold IsR at h; omega)]
        simp only [List.map_cons, List.map_nil]
        rw [show (240 + (r : Int) / 262144).toNat = 240 + r / 262144 by omega, show (128 + (r : Int) / 4096 % 64).toNat = 128 + r / 4096 % 64 by omega, show (128 + (r : Int) / 64 % 64).toNat = 128 + r / 64 % 64 by omega, show (128 + (r : Int) % 64).toNat = 128 + r % 64 by omega]
theorem str_snoc (xs : List Nat) (r : Nat) (h : IsR r) : str xs ++ Utf8.encode (r : Int) = str (xs ++ [r]) := by
  apply ByteArray.ext
  apply Array.toList_inj.1
  rw [str_list, enc_append]
  simp only [ByteArray.data_append, Array.toList_append, utf8_enc r h, str_list]
  rw [show enc [r] = Lib.encodeRune (r : Int) by simp [enc]]
/-- duetref.letters of a text of letters -/
theorem letters_str (rs : List Nat) (h : ∀ r ∈ rs, IsR r) (hl : (enc rs).length ≤ 100) (w : World) (hT : Tabs w) :
    Calls Tryz.prog 25 #[.string (str rs)] w fun e w' => ∃ ao c, e = .returned (.tuple #[.slice ao rs.length c, .bool true]) ∧ w'.ownsRow w.heap.size 21 1 (.slice ao rs.length c) rs.length (lcells rs) ∧ Below w.heap.size w w' := by
  refine (letters_any (str rs) w (by rw [str_size]; omega) hT).mono ?_
  rintro e w1 ⟨hp, hb⟩
  rcases hp with ⟨hv, _⟩ | ⟨_, rs', v, hr', he, rfl, ho⟩
  · have := str_vD rs h; unfold vD at this; rw [hv] at this; cases this
  · rw [str_list] at he
    have e1 := letL_enc rs _ h (Nat.le_refl _)
    have e2 := letL_enc rs' _ hr' (Nat.le_refl _)
    rw [← he, e1] at e2
    subst e2
    have hc := ho
    rcases hc.2 with ⟨hv, h0⟩ | ⟨g2, cap2, cur, hv, _⟩
    · refine ⟨none, 0, by rw [hv, h0], ?_, hb⟩
      rw [hv] at ho
      rw [show (Value.slice none rs.length 0) = .slice none 0 0 by rw [h0]]
      exact ho
    · subst hv; exact ⟨_, _, rfl, ho, hb⟩
set_option maxHeartbeats 1000000 in
theorem refLength_any (rs : List Nat) (h : ∀ r ∈ rs, IsR r) (hl : (enc rs).length ≤ 100) (w : World) (hT : Tabs w) :
    Calls Tryz.prog 51 #[.string (str rs)] w fun e w' => e = .returned (.int .i64 (rs.length : Int)) ∧ Below w.heap.size w w' := by
  have c := letters_str rs h hl w hT
  clear h hl hT
  generalize str rs = s at *
  go_enter Tryz.func51, Tryz.ntmps51
  go_wp2_with fail
  refine c.mono ?_
  rintro e w1 ⟨ao, cp, rfl, ho, hb⟩
  clear ho c
  go_wp2
  go_ret
  exact ⟨rfl, hb⟩
theorem own_base {w : World} {base : Nat} {e : TypeId} {size : Nat} {u : Value} {m : Nat} {ys : List Value} (h : w.ownsRow base e size u m ys) : ∀ k, u.ownBlock = some k → base ≤ k := by
  rcases own_cells h with ⟨rfl, _⟩ | ⟨g, c, rfl, hb, _⟩
  · intro k hk; simp [Value.ownBlock] at hk
  · intro k hk; simp [Value.ownBlock] at hk; omega
theorem one32 (rs : List Nat) : ∀ u ∈ lcells rs, u.oneCell' = true := by
  intro u hu
  obtain ⟨r, _, rfl⟩ := List.mem_map.1 hu
  rfl
theorem wpl_app32 {w : World} {ops : Array Oper} {rest : List Oper} {o : Oper} {a : Act} {Q : Exit → Act → World → Prop} (hgd : o.guard = none) (s x : Operand)
    (ho : o.op = .call { callee := .builtin .append, args := #[s, x], argTypes := #[54, 54] })
    (base : Nat) (v : Value) (ra : List Nat) (hs : a.eval s = v) (hown : w.ownsRow base 21 1 v ra.length (lcells ra))
    (base2 : Nat) (v2 : Value) (rb : List Nat) (hx : a.eval x = v2) (hown2 : w.ownsRow base2 21 1 v2 rb.length (lcells rb)) (L : List Nat) (hL : L = ra ++ rb) (hb : ra.length + rb.length ≤ 2000000) (hbase : base ≤ w.heap.size)
    (h : ∀ v' w', w'.ownsRow base 21 1 v' L.length (lcells L) → w.grownBy w' v.ownBlock → wpList Tryz.prog ops Q rest (a.put o.dst v') w') :
    wpList Tryz.prog ops Q (o :: rest) a w := by
  subst hL
  obtain ⟨i, hi, hz0, hz1, hz2⟩ := info_parts info_i32
  refine wpList_plain hgd fun K hK => ?_
  have hrun : ∃ v' w', (Builtin.append_ #[54, 54] o.type #[v, v2]).run Tryz.prog w = .ok v' w' ∧ w'.ownsRow base 21 1 v' (ra ++ rb).length (lcells (ra ++ rb)) ∧ w.grownBy w' v.ownBlock := by
    rcases own_cells hown2 with ⟨rfl, h0, _⟩ | ⟨g, cap, rfl, _, _, hc⟩
    · have hn : rb = [] := List.eq_nil_of_length_eq_zero h0
      subst hn
      exact ⟨v, w, run_append_nil Tryz.prog w base _ _ 21 i 1 Tryz.underlying54 hi 0 v _ _ hown, by simpa using hown, World.grownBy.refl _ _⟩
    · obtain ⟨v', w', hr, h2, h3, _, _⟩ := run_append_own_at (P := Tryz.prog) w base 54 o.type 21 i _ 1 4 Tryz.underlying54 hi hz0 hz1 hz2 rfl (by decide) v ra.length _ hown ⟨g, 0, none⟩ rb.length cap (lcells rb) (by simp [lcells]) (fun j u hj => by rw [show Addr.add ⟨g, 0, none⟩ j = ⟨g, j, none⟩ by unfold Addr.add; split <;> simp_all]; exact hc j u hj) (one32 rb) (by unfold maxLen; omega) (by omega) hbase
      exact ⟨v', w', hr, by rw [lcells_append, List.length_append]; exact h2, h3⟩
  obtain ⟨v', w', hr, h2, h3⟩ := hrun
  unfold Oper.wp execOp
  simp only [ho, resolve, invoke, builtin, Sem.run_bind, Sem.run_pure, Result.andThen_ok, List.map_toArray, List.map_cons, List.map_nil, hs, hx, hr]
  exact hK _ _ (h v' w' h2 h3)
set_option maxRecDepth 100000 in
set_option maxHeartbeats 2000000 in
theorem refJoined_any (ra rb : List Nat) (ha : ∀ r ∈ ra, IsR r) (hb : ∀ r ∈ rb, IsR r) (hla : (enc ra).length ≤ 100) (hlb : (enc rb).length ≤ 100) (w : World) (hT : Tabs w) :
    Calls Tryz.prog 54 #[.string (str ra), .string (str rb)] w fun e w' => e = .returned (.string (str (fit 0 (ra ++ rb)))) ∧ Below w.heap.size w w' := by
  have c1 := letters_str ra ha hla w hT
  have c2 := fun W hb' => letters_str rb hb hlb W (tabs_keep w W hT hb')
  have hn1 := enc_len_ge ra
  have hn2 := enc_len_ge rb
  obtain ⟨L, hL⟩ : ∃ L, L = ra ++ rb := ⟨_, rfl⟩
  rw [← hL]
  have hR : ∀ r ∈ L, IsR r := fun r hr => (List.mem_append.1 (hL ▸ hr)).elim (ha r) (hb r)
  have HL := hideC hL
  have hln : L.length ≤ 200 := by rw [hL, List.length_append]; omega
  clear hL
  have HR := hideC hR
  clear ha hb hT hR
  generalize str ra = s1 at *
  generalize str rb = s2 at *
  go_enter Tryz.func54, Tryz.ntmps54
  go_wp2_with fail
  refine c1.mono ?_
  rintro e w1 ⟨ao, ca, rfl, ho1, hb1⟩
  clear c1
  have H1 := hideC ho1
  clear ho1
  go_wp2_with fail
  refine (c2 _ hb1).mono ?_
  rintro e w2 ⟨bo, cb, rfl, ho2, hb2⟩
  clear c2
  have ho1 := own_below H1.out hb2
  have hbw : Below w.heap.size w w2 := hb1.trans (hb2.mono hb1.size)
  clear H1 hb1 hb2
  have hsz := hbw.size
  go_wp2_with (at_builtin; refine wpl_app32 rfl _ _ rfl w.heap.size (.slice ao ra.length ca) ra rfl ho1 _ (.slice bo rb.length cb) rb rfl ho2 L HL.out (by omega) hsz ?_)
  intro v3 w3 ho3 hg3
  have hb3 : Below w.heap.size w w3 := hbw.grown hg3 hsz (fun k hk => own_base ho1 k hk)
  clear ho1 ho2 hg3 hbw hsz
  have HC := hideC (own_cells ho3)
  obtain ⟨go, gc, rfl⟩ : ∃ go gc, v3 = .slice go L.length gc := by
    rcases own_cells ho3 with ⟨rfl, h0, _⟩ | ⟨g, cap, rfl, _⟩
    · exact ⟨none, 0, by rw [h0]⟩
    · exact ⟨_, _, rfl⟩
  clear ho3
  have HB := hideC hb3
  clear hb3 hn1 hn2 hla hlb HL
  go_wp2_with fail
  go_loopw [9, 26] (fun u9 u26 wr => ∃ (xs ys : List Nat), u9 = .string (str xs) ∧ u26 = .int .i64 (xs.length : Int) ∧ wr = w3 ∧ L = xs ++ ys ∧ fit 0 L = xs ++ fit (enc xs).length ys ∧ (enc xs).length ≤ 100) (fun u9 u26 wr => match u26 with | .int _ z => L.length - z.toNat | _ => 0)
  case atStart => exact ⟨[], L, rfl, rfl, rfl, rfl, by simp [enc], by simp [enc]⟩
  case round =>
    obtain ⟨xs, ys, rfl, rfl, rfl, hL, hF, hl⟩ := hrel
    have HF := hideC hF
    have hll : xs.length + ys.length = L.length := by rw [hL, List.length_append]
    have hen := enc_len_ge xs
    cases ys with
    | nil =>
      have hlt : ¬ (xs.length : Int) < (L.length : Int) := by simp at hll; omega
      have HE := hideC (show fit 0 L = xs by have := hF; rw [show fit (enc xs).length [] = [] from rfl, List.append_nil] at this; exact this)
      clear hF HF HC HR hL hll
      go_wp2
      go_ret
      exact ⟨by rw [HE.out]; rfl, HB.out⟩
    | cons r ys =>
      have hr : IsR r := HR.out r (by rw [hL]; simp)
      have hlt : (xs.length : Int) < (L.length : Int) := by simp at hll; omega
      obtain ⟨g, cap, hgo, _, hgl, hc⟩ := HC.out.resolve_left (fun h => by have := h.2.1; simp at hll; omega)
      injection hgo with e1 _ e2
      subst e1 e2
      have hcr := hc xs.length (.int .i32 (r : Int)) (by rw [hL]; simp [lcells])
      have cR := runeLen_any (r : Int)
      rw [runeLen_eq r hr] at cR
      have CR := hideC (fun W : World => cR W)
      have HS := hideC (str_snoc xs r hr)
      have hss : (str xs).size = (enc xs).length := str_size xs
      have hk4 := (rl_pos r).2
      have HLN := hideC (show (enc (xs ++ [r])).length = (enc xs).length + rl r by rw [enc_append, List.length_append, enc_len_cons]; rfl)
      have HLL := hideC (show L = (xs ++ [r]) ++ ys by rw [hL]; simp)
      have HF1 := hideC (show fit (enc xs).length (r :: ys) = if 100 < (enc xs).length + rl r then [] else r :: fit ((enc xs).length + rl r) ys from rfl)
      clear hF HC HR hL hc cR hr
      generalize rl r = k at *
      generalize (enc xs).length = n at *
      have hn0 : (n : Int) ≤ 100 := by omega
      have hk0 : (k : Int) ≤ 4 := by omega
      have hes := encode_size_le (r : Int)
      have hcat : ¬ (9223372036854775807 < n + (Utf8.encode (r : Int)).size) := by omega
      have hcat2 : n + (Utf8.encode (r : Int)).size ≤ 9223372036854775807 := by omega
      generalize (r : Int) = z at *
      generalize hu : Utf8.encode z = u at *
      have hcv : ∀ W : World, (convert 21 9 (.int .i32 z)).run Tryz.prog W = .ok (.string u) W := fun W => by
        rw [← hu]; exact run_convert_int_string W 21 9 .i32 z (by rw [Tryz.underlying21]; rfl) Tryz.underlying9
      have HCV := hideC hcv
      clear hcv hu
      by_cases hbig : 100 < n + k
      · have hbz : (100 : Int) < (n : Int) + (k : Int) := by omega
        go_wp2_with fail
        refine (CR.out _).mono ?_
        rintro e w4 ⟨rfl, rfl⟩
        have HE := hideC (show fit 0 L = xs by have := HF.out; rw [HF1.out, if_pos hbig, List.append_nil] at this; exact this)
        clear HF HF1 HLL HLN HS
        go_wp2
        go_ret
        exact ⟨by rw [HE.out]; rfl, HB.out⟩
      · have hbz : ¬ (100 : Int) < (n : Int) + (k : Int) := by omega
        go_wp2_with fail
        refine (CR.out _).mono ?_
        rintro e w4 ⟨rfl, rfl⟩
        have HH := hideC hll
        clear CR hll
        have hcv := HCV.out
        clear HCV
        go_wp2_with fail
        go_roundw
        case rel =>
          refine ⟨xs ++ [r], ys, ?_, ?_, trivial, HLL.out, ?_, ?_⟩
          · rw [HS.out]
          · simp
          · rw [HF.out, HF1.out, if_neg hbig, HLN.out]; simp
          · rw [HLN.out]; omega
        case measure =>
          have hll := HH.out
          simp at hll ⊢
          omega
end Go.Proofs.YtecapnipkngniaaGreatDoor
/-
  The contracts of duetbig.plain and duetbig.div, for numbers of at most two words.
-/
namespace Go.Proofs.YtecapnipkngniaaGreatDoor
open Go.RowKit

set_option maxRecDepth 100000 in
set_option maxHeartbeats 1000000 in
theorem plain_any (v : Value) (g x : Nat) (w : World) (h : BlkAt w g v x) (hx : x < 18446744073709551616) :
    Calls Tryz.prog 134 #[v] w fun e w' => e = .returned (.int .u64 (x : Int)) ∧ w' = w := by
  obtain ⟨ws, cap, h1, rfl, h3, h4, h5⟩ := h
  have hl : ws.length ≤ 2 := words_len h1 (k := 2) (by omega)
  have hx' := h1.val
  have hcase : ws.length = 0 ∨ ws.length = 1 ∨ ws.length = 2 := by omega
  rcases hcase with hc | hc | hc
  · have : ws = [] := List.eq_nil_of_length_eq_zero hc
    subst this
    have : x = 0 := by rw [← hx']; rfl
    subst this
    go_enter Tryz.func134, Tryz.ntmps134
    go_wp2
    go_ret
    exact ⟨rfl, rfl⟩
  · obtain ⟨a, rfl⟩ := List.length_eq_one_iff.1 hc
    have : x = a := by rw [← hx']; simp [val]
    subst this
    have c0 := h5 0 (by simp)
    simp only [List.getD, List.getElem?_cons_zero, Option.getD_some] at c0
    simp only [List.length_cons, List.length_nil]
    have ha : x < 4294967296 := h1.small x (by simp)
    clear h5 h1 hx'
    go_enter Tryz.func134, Tryz.ntmps134
    go_wp2
    go_ret
    exact ⟨rfl, rfl⟩
  · obtain ⟨a, b, rfl⟩ : ∃ a b, ws = [a, b] := by
      match ws, hc with
      | [a, b], _ => exact ⟨a, b, rfl⟩
    have hxx : x = a + 4294967296 * b := by rw [← hx']; simp [val]
    have c0 := h5 0 (by simp)
    have c1 := h5 1 (by simp)
    simp only [List.getD, List.getElem?_cons_zero, List.getElem?_cons_succ, Option.getD_some] at c0 c1
    simp only [List.length_cons, List.length_nil]
    have ha : a < 4294967296 := h1.small a (by simp)
    have hb : b < 4294967296 := h1.small b (by simp)
    have e1 := or32' b a hb ha
    have HX := hideC hxx
    clear h5 h1 hx' hxx
    go_enter Tryz.func134, Tryz.ntmps134
    go_wp2_with fail
    go_ret
    exact ⟨by show Ending.returned (.int .u64 ((b : Int) * 4294967296 + (a : Int))) = _; congr 2; have := HX.out; omega, rfl⟩
theorem take_oneK {P : Program} {ops : Array Oper} {md : Region.Mode} {Q : Exit → Act → World → Prop} {fuel : Nat} {listed : Array Bool} {a : Act} {w : World} (i : Nat) (h : AllReady P md ops Q fuel listed a w [i]) (hr : Region.ready md ops listed = [i]) : wpAny P md ops Q (fuel + 1) listed a w := wpAny_ready hr (by simp) h
set_option maxRecDepth 100000 in
set_option maxHeartbeats 2000000 in
theorem div_any (va vb : Value) (ga gb x y : Nat) (w : World) (ha : BlkAt w ga va x) (hb : BlkAt w gb vb y) (hx : x < 18446744073709551616) (hy : y < 18446744073709551616) (hy0 : y ≠ 0) (hT : ∀ W, Below w.heap.size w W → Calls Tryz.prog 82 #[va] W fun e w' => (∃ v, e = .returned v ∧ NumAt w' v x) ∧ Below W.heap.size W w') :
    Calls Tryz.prog 119 #[va, vb] w fun e w' => ∃ q r : Value, e = .returned (.tuple #[q, r]) ∧ NumAt w' q (x / y) ∧ NumAt w' r (x % y) ∧ Below w.heap.size w w' := by
  have cC := bcmp_any va vb x y w ha.num hb.num (by omega)
  have CA := hideC (fun W (hb' : Below w.heap.size w W) => plain_any va ga x W (ha.keep hb') hx)
  have CB := hideC (fun W (hb' : Below w.heap.size w W) => plain_any vb gb y W (hb.keep hb') hy)
  have HT := hideC hT
  have hlb : ∃ n cap, vb = .slice (some ⟨gb, 0, none⟩) n cap ∧ 0 < n := by
    obtain ⟨ws, cap, h1, h2, h3, h4, h5⟩ := hb
    refine ⟨_, _, h2, ?_⟩
    rcases Nat.eq_zero_or_pos ws.length with h | h
    · have : ws = [] := List.eq_nil_of_length_eq_zero h
      subst this
      exact absurd (by rw [← h1.val]; rfl) hy0
    · exact h
  have hla : ∃ n cap, va = .slice (some ⟨ga, 0, none⟩) n cap ∧ n ≤ 2 := by
    obtain ⟨ws, cap, h1, h2, h3, h4, h5⟩ := ha
    exact ⟨_, _, h2, words_len h1 (k := 2) (by omega)⟩
  obtain ⟨nb, cb, rfl, hnb⟩ := hlb
  obtain ⟨na, ca, rfl, hna⟩ := hla
  have hbz : ((nb : Int) == 0) = false := beq_eq_false_iff_ne.2 (by omega)
  clear ha hb hT
  by_cases hlt : x < y
  · have e1 : x / y = 0 := Nat.div_eq_of_lt hlt
    have e2 : x % y = x := Nat.mod_eq_of_lt hlt
    rw [e1, e2]
    rw [cmpN_lt hlt] at cC
    clear e1 e2
    go_enter Tryz.func119, Tryz.ntmps119
    go_wp2_with fail
    refine cC.mono ?_
    rintro e w1 ⟨rfl, hb1⟩
    go_wp2_with fail
    refine (HT.out _ hb1).mono ?_
    rintro e w2 ⟨⟨v, rfl, hv⟩, hb2⟩
    go_wp2_with fail
    go_ret2
    exact ⟨_, _, rfl, numNil _, hv, hb1.trans (hb2.mono hb1.size)⟩
  · have hge : ¬ cmpN x y < 0 := by unfold cmpN; rw [if_neg hlt]; split <;> omega
    have hna2 : (na : Int) ≤ 2 := by omega
    have hq1 : (x : Int) / (y : Int) = ((x / y : Nat) : Int) := by omega
    have hq2 : (x : Int) % (y : Int) = ((x % y : Nat) : Int) := by omega
    have hq3 : (x : Int).tdiv (y : Int) = ((x / y : Nat) : Int) := by rw [Int.tdiv_eq_ediv_of_nonneg (by omega)]; omega
    have hq4 : (x : Int).tmod (y : Int) = ((x % y : Nat) : Int) := by rw [Int.tmod_eq_emod_of_nonneg (by omega)]; omega
    have hq5 : IntKind.u64.wrap ((x / y : Nat) : Int) = ((x / y : Nat) : Int) := wrap_u64_nat _ (Nat.lt_of_le_of_lt (Nat.div_le_self _ _) hx)
    have hyz : ((y : Int) == 0) = false := beq_eq_false_iff_ne.2 (by omega)
    have hyz2 : ¬ (y : Int) = 0 := by omega
    have CQ := hideC (fun W => words_any (x / y) W (Nat.lt_of_le_of_lt (Nat.div_le_self _ _) hx))
    have CR := hideC (fun W => words_any (x % y) W (Nat.lt_of_le_of_lt (Nat.mod_le _ _) hx))
    generalize cmpN x y = z at *
    generalize x / y = Q at *
    generalize x % y = R at *
    clear hx hy
    go_enter Tryz.func119, Tryz.ntmps119
    go_wp2_with fail
    refine cC.mono ?_
    rintro e w1 ⟨rfl, hb1⟩
    go_wp2_with fail
    refine (CA.out _ hb1).mono ?_
    rintro e w2 ⟨rfl, hw2⟩
    subst hw2
    go_wp2_with fail
    refine (CB.out _ hb1).mono ?_
    rintro e w3 ⟨rfl, hw3⟩
    subst hw3
    have HB := hideC (hb1.drew)
    go_wp2_with fail
    refine wp_region_any (by kernel_rfl) ?_
    change wpAny _ _ _ _ _ _ _ (World.drew _)
    refine wpAny_take (i := 0) (v := .int .u64 (x : Int)) rfl (by kernel_rfl) (by kernel_rfl) (by kernel_rfl) (fun _ _ _ h => h) (Or.inl ⟨by rfl, fun w => by go_simp⟩) ?_
    refine wpAny_take (i := 1) (v := .int .u64 (y : Int)) rfl (by kernel_rfl) (by kernel_rfl) (by kernel_rfl) (fun _ _ _ h => h) (Or.inl ⟨by rfl, fun w => by go_simp⟩) ?_
    refine wpAny_take (i := 2) (v := .int .u64 (Q : Int)) rfl (by kernel_rfl) (by kernel_rfl) (by kernel_rfl) (fun _ _ _ h => h) (Or.inl ⟨by rfl, fun w => by go_simp⟩) ?_
    refine wpAny_take (i := 4) (v := .int .u64 (x : Int)) rfl (by kernel_rfl) (by kernel_rfl) (by kernel_rfl) (fun _ _ _ h => h) (Or.inl ⟨by rfl, fun w => by go_simp⟩) ?_
    refine wpAny_take (i := 5) (v := .int .u64 (y : Int)) rfl (by kernel_rfl) (by kernel_rfl) (by kernel_rfl) (fun _ _ _ h => h) (Or.inl ⟨by rfl, fun w => by go_simp⟩) ?_
    refine wpAny_take (i := 6) (v := .int .u64 (R : Int)) rfl (by kernel_rfl) (by kernel_rfl) (by kernel_rfl) (fun _ _ _ h => h) (Or.inl ⟨by rfl, fun w => by go_simp⟩) ?_
    refine take_oneK 3 (AllReady.cons rfl (fun K hK => ?_) AllReady.nil) (by kernel_rfl)
    go_simp
    refine (CQ.out _).mono ?_
    rintro e w4 ⟨q, rfl, hq, hb4⟩
    obtain ⟨ao, k, cap, rfl⟩ := hq.slc
    refine hK _ _ ?_
    clear hK K
    refine take_oneK 7 (AllReady.cons rfl (fun K hK => ?_) AllReady.nil) (by kernel_rfl)
    go_simp
    refine (CR.out _).mono ?_
    rintro e w5 ⟨r, rfl, hr, hb5⟩
    obtain ⟨ao', k', cap', rfl⟩ := hr.slc
    refine hK _ _ ?_
    clear hK K
    refine take_oneK 8 (AllReady.cons rfl (fun K hK => ?_) AllReady.nil) (by kernel_rfl)
    go_simp
    refine hK _ _ ?_
    clear hK K
    refine take_oneK 9 (AllReady.cons rfl (fun K hK => ?_) AllReady.nil) (by kernel_rfl)
    go_simp
    refine hK _ _ ?_
    clear hK K
    refine wpAny_done (by kernel_rfl) ?_ _
    go_wp2_with fail
    go_ret2
    exact ⟨_, _, rfl, hq.keep hb5, hr, (HB.out.trans (hb4.mono HB.out.size)).trans (hb5.mono (Nat.le_trans HB.out.size hb4.size))⟩
end Go.Proofs.YtecapnipkngniaaGreatDoor
