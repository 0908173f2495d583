/-
  duetkeep.ValuesBack returns true, for every value and every text of at most 2^48 bytes, where the library's own variables hold what the program's text lays; and how that is kept from call to call.
-/
import Derived.Test.YtbhgcfoplpjfjaaDoorBm
import Derived.Test.YtbhgcfoplpjfjaaDoorLi
import Derived.Stop.LaidErr
import Derived.Lib.LaidTab
import Derived.Lib.AppendIntMem
import Derived.SizedLaws
namespace Go.Proofs.YtbhgcfoplpjfjaaDoor
open Go.RowKit Go.Shelf Go.Joins

theorem gPow : Tryd.prog.globalNamed "internal/strconv.uint64pow10" = some 3 := by kernel_rfl
theorem gPowType : (Tryd.prog.globals[3]?).map (·.type) = some 125 := by kernel_rfl
theorem gSyn : Tryd.prog.globalNamed "strconv.ErrSyntax" = some 4 := by kernel_rfl
theorem gSynType : (Tryd.prog.globals[4]?).map (·.type) = some 70 := by kernel_rfl
theorem gRan : Tryd.prog.globalNamed "strconv.ErrRange" = some 5 := by kernel_rfl
theorem gRanType : (Tryd.prog.globals[5]?).map (·.type) = some 70 := by kernel_rfl
theorem star : "*" ++ "errors.errorString" = "*errors.errorString" := by decide
theorem row142 (u : TypeId) (h : Tryd.prog.typeName? 3 u = some "*errors.errorString") : u = 142 :=
  typeName_ptr_named (nm := "errors.errorString") (by rw [star]; kernel_rfl) (by kernel_rfl) (by decide) u (by rw [star]; exact h)

/-- what the calls read of the library's own variables -/
structure Env (w : World) : Prop where
  tabs : Tabs w
  pow : Lib.TabIs Tryd.prog w "internal/strconv.uint64pow10" .u64 Lib.pow10Tab
  syn : ∃ tp p, w.var? Tryd.prog "strconv.ErrSyntax" = some #[.iface tp p]
  ran : ∃ tp p, w.var? Tryd.prog "strconv.ErrRange" = some #[.iface tp p]
theorem env_keep (w w' : World) (h : Env w) (hb : Below w.heap.size w w') : Env w' :=
  ⟨tabs_keep w w' h.tabs hb, tab_stays gPow h.pow hb (Nat.le_refl _),
   h.syn.elim fun tp q => q.elim fun p e => ⟨tp, p, var_stays gSyn e hb (Nat.le_refl _)⟩,
   h.ran.elim fun tp q => q.elim fun p e => ⟨tp, p, var_stays gRan e hb (Nat.le_refl _)⟩⟩
theorem env_v : VSaid vD Env := fun s w hs h => vSaid s w hs h.tabs
theorem env_f : FSaid Env := fun n w h0 h1 h => (Any.strconv_FormatInt_10 Tryd.laysM173 n h0 h1 w h.pow).mono (by
  rintro e w' ⟨rfl, k, os, rfl⟩
  exact ⟨rfl, Lib.below_grow _ w (Nat.le_refl _) k os⟩)
theorem env_p : PSaid Env := fun s w hs h => by
  cases hp : Lib.parseIntB 64 s.data.toList
  · rename_i v
    refine (Any.strconv_ParseInt_10_at64_ok Tryd.laysC174 s (by omega) v hp w).mono ?_
    rintro e w' ⟨rfl, hw⟩
    refine ⟨⟨fun v' h' => ?_, fun hn => absurd hp (hn v)⟩, ?_⟩
    · rw [hp] at h'; cases h'; rfl
    · rcases hw with rfl | ⟨t, rfl⟩
      · exact Below.refl _ _
      · exact below_bytesWorld _ _ _ _ (Nat.le_refl _)
  · obtain ⟨tp, p, hv⟩ := h.syn
    refine (Any.strconv_ParseInt_10_at64_syntax_var Tryd.laysC174 s hs hp tp p w hv).mono ?_
    rintro e w' ⟨N, rfl, _, _, hb⟩
    exact ⟨⟨fun v' h' => (by rw [hp] at h'; cases h'), fun _ => ⟨_, N, rfl⟩⟩, hb⟩
  · obtain ⟨tp, p, hv⟩ := h.ran
    refine (Any.strconv_ParseInt_10_at64_range_var Tryd.laysC174 s hs hp tp p w hv).mono ?_
    rintro e w' ⟨N, rfl, _, _, hb⟩
    exact ⟨⟨fun v' h' => (by rw [hp] at h'; cases h'), fun _ => ⟨_, N, rfl⟩⟩, hb⟩

theorem rs_any (s : ByteArray) (hs : s.size ≤ 281474976710656) : RS Env s (rdZ s.data.toList).1 (rdZ s.data.toList).2.1 (bs (rdZ s.data.toList).2.2.1) (rdZ s.data.toList).2.2.2 :=
  fun W hW => read_any Env env_v env_f env_p env_keep s W hs hW
theorem ws_good (so n : Int) (s : ByteArray) (hs : s.size ≤ 9223372036854775807) (h0 : -9223372036854775808 ≤ n) (h1 : n ≤ 9223372036854775807) (h : chkZ vD so n s = 0) : WS Env so n s (bs (wtL so n s)) 0 :=
  fun W hW => write_good Env env_v env_f env_keep so n s W hs h0 h1 hW h

theorem an_is : str [97, 10] = ⟨#[97, 10]⟩ := by decide
theorem qan_is : bs (quo [97, 10]) = ⟨#[34, 97, 92, 110, 34]⟩ := by decide
theorem w0 : WS Env 3 0 ⟨#[97, 10]⟩ ⟨#[34, 97, 92, 110, 34]⟩ 0 := by
  have hv := str_vD [97, 10] (by intro r hr; simp at hr; unfold IsR; omega)
  rw [an_is] at hv
  have hz : chkZ vD 3 0 ⟨#[97, 10]⟩ = 0 := (text_zero vD 0 ⟨#[97, 10]⟩).2 ⟨rfl, by decide, hv⟩
  have := ws_good 3 0 ⟨#[97, 10]⟩ (by decide) (by decide) (by decide) hz
  rw [show wtL 3 0 ⟨#[97, 10]⟩ = quo [97, 10] from rfl, qan_is] at this
  exact this

theorem back_any (so n : Int) (s z : ByteArray) (w : World) (hs : s.size ≤ 9223372036854775807) (h0 : -9223372036854775808 ≤ n) (h1 : n ≤ 9223372036854775807) (hzs : z.size ≤ 281474976710656) (hT : Env w) :
    Calls Tryd.prog 4 #[.agg #[.int .i64 so, .int .i64 n, .string s], .string z] w fun e w' => e = .returned (.bool true) ∧ Below w.heap.size w w' := by
  have r1 := rs_any z hzs
  by_cases he : (rdZ z.data.toList).2.2.2 = 0
  · obtain ⟨q1, q2, q3, q4, q5⟩ := rd_ok z.data.toList he
    have r2 := ws_good _ _ _ (by omega) q3 q4 q1
    rw [q2, bs_of] at r2
    by_cases hc : chkZ vD so n s = 0
    · have r3 := ws_good so n s hs h0 h1 hc
      have r4 := rs_any (bs (wtL so n s)) (by rw [bs_size]; exact wt_len so n s h0 h1 hc)
      rw [bs_list, wr_ok so n s h0 h1 hc] at r4
      simp only [bs_of] at r4
      exact back_rw Env env_keep so n _ _ _ s z _ _ w hT w0 r1 he r2 r3 r4
    · exact back_r Env env_keep so n _ _ _ _ s z _ w hT w0 r1 he r2 (fun W hW => write_bad Env env_v env_keep so n s W hs hW hc) hc
  · by_cases hc : chkZ vD so n s = 0
    · have r3 := ws_good so n s hs h0 h1 hc
      have r4 := rs_any (bs (wtL so n s)) (by rw [bs_size]; exact wt_len so n s h0 h1 hc)
      rw [bs_list, wr_ok so n s h0 h1 hc] at r4
      simp only [bs_of] at r4
      exact back_w Env env_keep so n _ _ _ s z _ _ w hT w0 r1 he r3 r4
    · exact back_no Env env_keep so n _ _ _ _ s z _ w hT w0 r1 he (fun W hW => write_bad Env env_v env_keep so n s W hs hW hc) hc
end Go.Proofs.YtbhgcfoplpjfjaaDoor
