/-
  The contracts of types.writeChoice, types.write and types.Write, for every type.
-/
import Derived.Test.YtefdekfgmbgbbaaGreatDoorKk
import Derived.Test.YtefdekfgmbgbbaaGreatDoorQm
namespace Go.Proofs.YtefdekfgmbgbbaaGreatDoor
open Go.RowKit Go.Shelf

theorem cho_split (a b : List (ByteArray × List UInt8)) : ∀ pre, choL pre (a ++ b) = choL pre a ++ choL (if a = [] then pre else [44]) b := by
  induction a with
  | nil => intro pre; simp [choL]
  | cons p a ih =>
    intro pre
    rw [List.cons_append, choL, ih, choL]
    by_cases h : a = []
    · subst h; simp [choL]
    · simp [h]
theorem cho_take (pre : List UInt8) (ps : List (ByteArray × List UInt8)) (i : Nat) : (choL pre (ps.take i)).length ≤ (choL pre ps).length := by
  have := cho_split (ps.take i) (ps.drop i) pre
  rw [List.take_append_drop] at this
  rw [this, List.length_append]
  omega
/-- one label more -/
theorem cho_next (pre : List UInt8) (ls : List ByteArray) (ts : List (List UInt8)) (h : ts.length = ls.length) (i : Nat) (hi : i < ls.length) :
    choL pre ((ls.zip ts).take (i + 1)) = choL pre ((ls.zip ts).take i) ++ (if i = 0 then pre else [44]) ++ ls[i].data.toList ++ [58] ++ ts[i] := by
  have hz : i < (ls.zip ts).length := by rw [List.length_zip]; omega
  rw [List.take_succ_eq_append_getElem hz, cho_append]
  have e : (ls.zip ts).take i = [] ↔ i = 0 := by
    constructor
    · intro e
      have := congrArg List.length e
      rw [List.length_take] at this
      simp only [List.length_nil] at this
      omega
    · rintro rfl; rfl
  by_cases h0 : i = 0
  · rw [if_pos (e.2 h0), if_pos h0, List.getElem_zip]
  · rw [if_neg (fun q => h0 (e.1 q)), if_neg h0, List.getElem_zip]
set_option maxRecDepth 100000 in
set_option maxHeartbeats 4000000 in
theorem writeChoice6 (d : Nat) (ih : ∀ d', d' < d → WTSaid d') (ls : List ByteArray) (ks : List Ty) (hls : labsOK ls = true) (hkl : ks.length = ls.length) (hwk : ∀ x ∈ ks, wfT x) (al : Option Addr) (cl : Nat) (ak : Option Addr) (ck B b : Nat) (l : List UInt8) (w : World) (hla : LA w B ls al) (hkt : KT w B d ks ak)
    (hi : Lib.IsBuilderF 47 5 B b (Lib.byteCells l) w) (hl : l.length + (wrT ⟨6, 0, ⟨#[]⟩, ls, ks⟩).length ≤ 1000000) (hB : B ≤ w.heap.size) :
    Calls Tryz.prog 55 #[.pointer (some ⟨b, 0, none⟩), tyVal ⟨6, 0, ⟨#[]⟩, ls, ks⟩ al cl ak ck] w fun e w' => e = .returned (.tuple #[]) ∧ Lib.IsBuilderF 47 5 B b (Lib.byteCells (l ++ wrT ⟨6, 0, ⟨#[]⟩, ls, ks⟩)) w' ∧ Below B w w' ∧ Lib.OthersKept 5 (some b) w w' := by
  have hb := ibLt hi
  have S0 := hideK (WS.new ⟨6, 0, ⟨#[]⟩, ls, ks⟩ al cl ak ck hi hB)
  obtain ⟨h6, h8⟩ := labs_len _ hls
  have hG : wrT ⟨6, 0, ⟨#[]⟩, ls, ks⟩ = choL [43, 123] (ls.zip (ks.map wrT)) ++ [125] := by rw [wt_cho _ (by simp)]; rfl
  generalize wrT ⟨6, 0, ⟨#[]⟩, ls, ks⟩ = G at hG hl ⊢
  have hlG : G.length = (choL [43, 123] (ls.zip (ks.map wrT))).length + 1 := by rw [hG, List.length_append]; rfl
  have cG : ∀ w1 : World, Calls Tryz.prog 53 #[.int .i64 6] w1 fun e w' => e = .returned (.string ⟨#[43]⟩) ∧ w' = w1 := fun w1 => sign_any 6 w1
  have hl6 : (ls.length : Int) ≤ 6 := by omega
  have HKL := hideK hkl
  have HLA := hideK hla
  have HKT := hideK hkt
  have H8 := hideK h8
  have HG := hideK hG
  have HLG := hideK hlG
  have HIH := hideK ih
  have HWK := hideK hwk
  obtain ⟨x0, x1, x2, x3, x4⟩ := S0.out.cells
  simp only [tyVal]
  simp only at x0 x1 x2 x3 x4
  clear hla hkt hi h8 hG hlG hls ih hwk hkl
  go_enter Tryz.func55, Tryz.ntmps55
  go_wp2_with fail
  refine (cG _).mono ?_
  rintro e w0 ⟨rfl, rfl⟩
  go_wp2_with fail
  go_loopw [4, 14] (fun v4 v14 wr => ∃ (i : Nat) (bt : ByteArray), i ≤ ls.length ∧ v14 = .int .i64 (i : Int) ∧ v4 = .string bt ∧ bt.size ≤ 2 ∧ bt.data.toList = (if i = 0 then [43, 123] else [44]) ∧ WS w B b (l ++ choL [43, 123] ((ls.zip (ks.map wrT)).take i)) ⟨6, 0, ⟨#[]⟩, ls, ks⟩ al cl ak ck wr) (fun _ v14 _ => ls.length - (intOf v14).toNat)
  case atStart => exact ⟨0, _, Nat.zero_le _, rfl, rfl, Nat.le_refl _, rfl, by simpa [choL] using S0.out⟩
  case round =>
    obtain ⟨i, bt, hil, rfl, rfl, hbt2, hbt, hS⟩ := hrel
    have HS := hideK hS
    have HBT := hideK hbt
    obtain ⟨z0, z1, z2, z3, z4⟩ := hS.cells
    simp only at z0 z1 z2 z3 z4
    clear hS hbt x0 x1 x2 x3 x4
    by_cases hlt : i < ls.length
    · have hltz : (i : Int) < (ls.length : Int) := by omega
      have hi0 : (0 : Int) ≤ (i : Int) := by omega
      have hik : i < ks.length := by have := HKL.out; omega
      have hikz : (i : Int) < (ks.length : Int) := by omega
      rcases id HLA.out with e | ⟨lb, lo, rfl, hlb, hlc⟩
      · simp at e; subst e; simp at hlt
      have q := (HS.out.bl.cell (p := ⟨lb, lo + i, none⟩) hlb).trans (hlc i (by simpa using hlt))
      simp only [List.getElem_map] at q
      have hlab := H8.out ls[i] (List.getElem_mem hlt)
      have hlz : ls[i].size ≤ 8 := by rw [ba_len]; exact hlab
      obtain ⟨d', kb, ko, al', cl', ak', ck', hd, rfl, hkB, hta, htb, hla', hka'⟩ := kid_at HKT.out i hik
      have hN := cho_next [43, 123] ls (ks.map wrT) (by simpa using HKL.out) i hlt
      have hT := cho_take [43, 123] (ls.zip (ks.map wrT)) (i + 1)
      rw [List.getElem_map] at hN
      have hN2 : l ++ choL [43, 123] ((ls.zip (ks.map wrT)).take i) ++ (bt ++ ls[i] ++ ⟨#[58]⟩ : ByteArray).data.toList ++ wrT (ks[i]'hik) = l ++ choL [43, 123] ((ls.zip (ks.map wrT)).take (i + 1)) := by
        rw [hN, ba_app, ba_app, HBT.out]; simp only [List.append_assoc]
      have hlenN := congrArg List.length hN2
      simp only [List.length_append] at hlenN
      have hgl := HLG.out
      have cS := writeStringK B b _ (bt ++ ls[i] ++ ⟨#[58]⟩) _ HS.out.ib (by rw [size3]; have e1 : (⟨#[58]⟩ : ByteArray).size = 1 := rfl; simp only [List.length_append]; omega) (Nat.le_trans hB HS.out.bl.size)
      have HI1 := hideK (fun (l' : List UInt8) (W : World) (hbl : Below B w W) (h1 : Lib.IsBuilderF 47 5 B b (Lib.byteCells l') W) (h2 : l'.length + (wrT (ks[i]'hik)).length ≤ 1000000) => HIH.out d' hd (ks[i]'hik) al' cl' ak' ck' B b l' W (HWK.out _ (List.getElem_mem _)) htb (NAt.keep hbl hla') (KT.keep hbl hka') h1 h2 (Nat.le_trans hB hbl.size))
      have hlen2 : (l ++ choL [43, 123] ((ls.zip (ks.map wrT)).take i) ++ (bt ++ ls[i] ++ ⟨#[58]⟩ : ByteArray).data.toList).length + (wrT (ks[i]'hik)).length ≤ 1000000 := by
        simp only [List.length_append]; omega
      have HT := hideK hta
      have HN2 := hideK hN2
      have HL2 := hideK hlen2
      simp only [tyVal] at HI1
      clear hN hT hN2 hlenN hlen2 hgl hta hla' hka' htb hlc
      generalize ls[i] = lab at *
      generalize ks[i]'hik = kid at *
      go_wp2_with fail
      refine cS.mono ?_
      rintro e w1 ⟨rfl, h1, h2, h3⟩
      have S1 := hideK (HS.out.step hb h1 h2 h3)
      obtain ⟨u0, u1, u2, u3, u4⟩ := S1.out.cells
      simp only at u0 u1 u2 u3 u4
      obtain ⟨y0, y1, y2, y3, y4⟩ := HT.out.keep S1.out.bl hkB
      clear cS z0 z1 z2 z3 z4 q
      go_wp2_with fail
      refine (HI1.out _ _ S1.out.bl S1.out.ib HL2.out).mono ?_
      rintro e w2 ⟨rfl, h4, h5, h6⟩
      have S2 := hideK (S1.out.step hb h4 h5 h6)
      go_wp2_with fail
      go_roundw
      case rel => exact ⟨i + 1, ⟨#[44]⟩, by omega, by go_num, rfl, by decide, by rw [if_neg (by omega)], by rw [← HN2.out]; exact S2.out⟩
      case measure => simp [intOf]; omega
    · have hltz : ¬ (i : Int) < (ls.length : Int) := by omega
      have hF : (ls.zip (ks.map wrT)).take i = ls.zip (ks.map wrT) := List.take_of_length_le (by rw [List.length_zip]; omega)
      have hgl := HLG.out
      have hz := HS.out
      rw [hF] at hz
      have HZ := hideK hz
      have cS := writeStringK B b _ ⟨#[125]⟩ _ hz.ib (by have e1 : (⟨#[125]⟩ : ByteArray).size = 1 := rfl; simp only [List.length_append]; omega) (Nat.le_trans hB hz.bl.size)
      clear hz hF hgl
      go_wp2_with fail
      refine cS.mono ?_
      rintro e w1 ⟨rfl, h1, h2, h3⟩
      have S1 := hideK (HZ.out.step hb h1 h2 h3)
      go_wp2_with fail
      first | go_end0 | go_ret
      refine ⟨rfl, ?_, S1.out.bl, S1.out.ok⟩
      rw [HG.out, ← List.append_assoc]
      exact S1.out.ib
set_option maxRecDepth 100000 in
set_option maxHeartbeats 4000000 in
theorem writeChoice7 (d : Nat) (ih : ∀ d', d' < d → WTSaid d') (ls : List ByteArray) (ks : List Ty) (hls : labsOK ls = true) (hkl : ks.length = ls.length) (hwk : ∀ x ∈ ks, wfT x) (al : Option Addr) (cl : Nat) (ak : Option Addr) (ck B b : Nat) (l : List UInt8) (w : World) (hla : LA w B ls al) (hkt : KT w B d ks ak)
    (hi : Lib.IsBuilderF 47 5 B b (Lib.byteCells l) w) (hl : l.length + (wrT ⟨7, 0, ⟨#[]⟩, ls, ks⟩).length ≤ 1000000) (hB : B ≤ w.heap.size) :
    Calls Tryz.prog 55 #[.pointer (some ⟨b, 0, none⟩), tyVal ⟨7, 0, ⟨#[]⟩, ls, ks⟩ al cl ak ck] w fun e w' => e = .returned (.tuple #[]) ∧ Lib.IsBuilderF 47 5 B b (Lib.byteCells (l ++ wrT ⟨7, 0, ⟨#[]⟩, ls, ks⟩)) w' ∧ Below B w w' ∧ Lib.OthersKept 5 (some b) w w' := by
  have hb := ibLt hi
  have S0 := hideK (WS.new ⟨7, 0, ⟨#[]⟩, ls, ks⟩ al cl ak ck hi hB)
  obtain ⟨h6, h8⟩ := labs_len _ hls
  have hG : wrT ⟨7, 0, ⟨#[]⟩, ls, ks⟩ = choL [38, 123] (ls.zip (ks.map wrT)) ++ [125] := by rw [wt_cho _ (by simp)]; rfl
  generalize wrT ⟨7, 0, ⟨#[]⟩, ls, ks⟩ = G at hG hl ⊢
  have hlG : G.length = (choL [38, 123] (ls.zip (ks.map wrT))).length + 1 := by rw [hG, List.length_append]; rfl
  have cG : ∀ w1 : World, Calls Tryz.prog 53 #[.int .i64 7] w1 fun e w' => e = .returned (.string ⟨#[38]⟩) ∧ w' = w1 := fun w1 => sign_any 7 w1
  have hl6 : (ls.length : Int) ≤ 6 := by omega
  have HKL := hideK hkl
  have HLA := hideK hla
  have HKT := hideK hkt
  have H8 := hideK h8
  have HG := hideK hG
  have HLG := hideK hlG
  have HIH := hideK ih
  have HWK := hideK hwk
  obtain ⟨x0, x1, x2, x3, x4⟩ := S0.out.cells
  simp only [tyVal]
  simp only at x0 x1 x2 x3 x4
  clear hla hkt hi h8 hG hlG hls ih hwk hkl
  go_enter Tryz.func55, Tryz.ntmps55
  go_wp2_with fail
  refine (cG _).mono ?_
  rintro e w0 ⟨rfl, rfl⟩
  go_wp2_with fail
  go_loopw [4, 14] (fun v4 v14 wr => ∃ (i : Nat) (bt : ByteArray), i ≤ ls.length ∧ v14 = .int .i64 (i : Int) ∧ v4 = .string bt ∧ bt.size ≤ 2 ∧ bt.data.toList = (if i = 0 then [38, 123] else [44]) ∧ WS w B b (l ++ choL [38, 123] ((ls.zip (ks.map wrT)).take i)) ⟨7, 0, ⟨#[]⟩, ls, ks⟩ al cl ak ck wr) (fun _ v14 _ => ls.length - (intOf v14).toNat)
  case atStart => exact ⟨0, _, Nat.zero_le _, rfl, rfl, Nat.le_refl _, rfl, by simpa [choL] using S0.out⟩
  case round =>
    obtain ⟨i, bt, hil, rfl, rfl, hbt2, hbt, hS⟩ := hrel
    have HS := hideK hS
    have HBT := hideK hbt
    obtain ⟨z0, z1, z2, z3, z4⟩ := hS.cells
    simp only at z0 z1 z2 z3 z4
    clear hS hbt x0 x1 x2 x3 x4
    by_cases hlt : i < ls.length
    · have hltz : (i : Int) < (ls.length : Int) := by omega
      have hi0 : (0 : Int) ≤ (i : Int) := by omega
      have hik : i < ks.length := by have := HKL.out; omega
      have hikz : (i : Int) < (ks.length : Int) := by omega
      rcases id HLA.out with e | ⟨lb, lo, rfl, hlb, hlc⟩
      · simp at e; subst e; simp at hlt
      have q := (HS.out.bl.cell (p := ⟨lb, lo + i, none⟩) hlb).trans (hlc i (by simpa using hlt))
      simp only [List.getElem_map] at q
      have hlab := H8.out ls[i] (List.getElem_mem hlt)
      have hlz : ls[i].size ≤ 8 := by rw [ba_len]; exact hlab
      obtain ⟨d', kb, ko, al', cl', ak', ck', hd, rfl, hkB, hta, htb, hla', hka'⟩ := kid_at HKT.out i hik
      have hN := cho_next [38, 123] ls (ks.map wrT) (by simpa using HKL.out) i hlt
      have hT := cho_take [38, 123] (ls.zip (ks.map wrT)) (i + 1)
      rw [List.getElem_map] at hN
      have hN2 : l ++ choL [38, 123] ((ls.zip (ks.map wrT)).take i) ++ (bt ++ ls[i] ++ ⟨#[58]⟩ : ByteArray).data.toList ++ wrT (ks[i]'hik) = l ++ choL [38, 123] ((ls.zip (ks.map wrT)).take (i + 1)) := by
        rw [hN, ba_app, ba_app, HBT.out]; simp only [List.append_assoc]
      have hlenN := congrArg List.length hN2
      simp only [List.length_append] at hlenN
      have hgl := HLG.out
      have cS := writeStringK B b _ (bt ++ ls[i] ++ ⟨#[58]⟩) _ HS.out.ib (by rw [size3]; have e1 : (⟨#[58]⟩ : ByteArray).size = 1 := rfl; simp only [List.length_append]; omega) (Nat.le_trans hB HS.out.bl.size)
      have HI1 := hideK (fun (l' : List UInt8) (W : World) (hbl : Below B w W) (h1 : Lib.IsBuilderF 47 5 B b (Lib.byteCells l') W) (h2 : l'.length + (wrT (ks[i]'hik)).length ≤ 1000000) => HIH.out d' hd (ks[i]'hik) al' cl' ak' ck' B b l' W (HWK.out _ (List.getElem_mem _)) htb (NAt.keep hbl hla') (KT.keep hbl hka') h1 h2 (Nat.le_trans hB hbl.size))
      have hlen2 : (l ++ choL [38, 123] ((ls.zip (ks.map wrT)).take i) ++ (bt ++ ls[i] ++ ⟨#[58]⟩ : ByteArray).data.toList).length + (wrT (ks[i]'hik)).length ≤ 1000000 := by
        simp only [List.length_append]; omega
      have HT := hideK hta
      have HN2 := hideK hN2
      have HL2 := hideK hlen2
      simp only [tyVal] at HI1
      clear hN hT hN2 hlenN hlen2 hgl hta hla' hka' htb hlc
      generalize ls[i] = lab at *
      generalize ks[i]'hik = kid at *
      go_wp2_with fail
      refine cS.mono ?_
      rintro e w1 ⟨rfl, h1, h2, h3⟩
      have S1 := hideK (HS.out.step hb h1 h2 h3)
      obtain ⟨u0, u1, u2, u3, u4⟩ := S1.out.cells
      simp only at u0 u1 u2 u3 u4
      obtain ⟨y0, y1, y2, y3, y4⟩ := HT.out.keep S1.out.bl hkB
      clear cS z0 z1 z2 z3 z4 q
      go_wp2_with fail
      refine (HI1.out _ _ S1.out.bl S1.out.ib HL2.out).mono ?_
      rintro e w2 ⟨rfl, h4, h5, h6⟩
      have S2 := hideK (S1.out.step hb h4 h5 h6)
      go_wp2_with fail
      go_roundw
      case rel => exact ⟨i + 1, ⟨#[44]⟩, by omega, by go_num, rfl, by decide, by rw [if_neg (by omega)], by rw [← HN2.out]; exact S2.out⟩
      case measure => simp [intOf]; omega
    · have hltz : ¬ (i : Int) < (ls.length : Int) := by omega
      have hF : (ls.zip (ks.map wrT)).take i = ls.zip (ks.map wrT) := List.take_of_length_le (by rw [List.length_zip]; omega)
      have hgl := HLG.out
      have hz := HS.out
      rw [hF] at hz
      have HZ := hideK hz
      have cS := writeStringK B b _ ⟨#[125]⟩ _ hz.ib (by have e1 : (⟨#[125]⟩ : ByteArray).size = 1 := rfl; simp only [List.length_append]; omega) (Nat.le_trans hB hz.bl.size)
      clear hz hF hgl
      go_wp2_with fail
      refine cS.mono ?_
      rintro e w1 ⟨rfl, h1, h2, h3⟩
      have S1 := hideK (HZ.out.step hb h1 h2 h3)
      go_wp2_with fail
      first | go_end0 | go_ret
      refine ⟨rfl, ?_, S1.out.bl, S1.out.ok⟩
      rw [HG.out, ← List.append_assoc]
      exact S1.out.ib
set_option maxRecDepth 100000 in
set_option maxHeartbeats 4000000 in
theorem write_cho6 (d : Nat) (ih : ∀ d', d' < d → WTSaid d') (ls : List ByteArray) (ks : List Ty) (hls : labsOK ls = true) (hkl : ks.length = ls.length) (hwk : ∀ x ∈ ks, wfT x) (al : Option Addr) (cl : Nat) (ak : Option Addr) (ck B b : Nat) (l : List UInt8) (w : World) (hla : LA w B ls al) (hkt : KT w B d ks ak)
    (hi : Lib.IsBuilderF 47 5 B b (Lib.byteCells l) w) (hl : l.length + (wrT ⟨6, 0, ⟨#[]⟩, ls, ks⟩).length ≤ 1000000) (hB : B ≤ w.heap.size) :
    Calls Tryz.prog 41 #[.pointer (some ⟨b, 0, none⟩), tyVal ⟨6, 0, ⟨#[]⟩, ls, ks⟩ al cl ak ck] w fun e w' => e = .returned (.tuple #[]) ∧ Lib.IsBuilderF 47 5 B b (Lib.byteCells (l ++ wrT ⟨6, 0, ⟨#[]⟩, ls, ks⟩)) w' ∧ Below B w w' ∧ Lib.OthersKept 5 (some b) w w' := by
  have hb := ibLt hi
  have S0 := hideK (WS.new ⟨6, 0, ⟨#[]⟩, ls, ks⟩ al cl ak ck hi hB)
  have c := writeChoice6 d ih ls ks hls hkl hwk al cl ak ck B b l _ (NAt.keep S0.out.bl hla) (KT.keep S0.out.bl hkt) S0.out.ib hl (Nat.le_trans hB S0.out.bl.size)
  obtain ⟨x0, x1, x2, x3, x4⟩ := S0.out.cells
  simp only [tyVal] at c ⊢
  simp only at x0 x1 x2 x3 x4
  clear hla hkt hi hls ih hwk hkl hl
  generalize wrT ⟨6, 0, ⟨#[]⟩, ls, ks⟩ = G at c ⊢
  go_enter Tryz.func41, Tryz.ntmps41
  go_wp2_with fail
  refine c.mono ?_
  rintro e w1 ⟨rfl, h1, h2, h3⟩
  have S1 := hideK (S0.out.step hb h1 h2 h3)
  go_wp2_with fail
  first | go_end0 | go_ret
  exact ⟨rfl, S1.out.ib, S1.out.bl, S1.out.ok⟩
set_option maxRecDepth 100000 in
set_option maxHeartbeats 4000000 in
theorem write_cho7 (d : Nat) (ih : ∀ d', d' < d → WTSaid d') (ls : List ByteArray) (ks : List Ty) (hls : labsOK ls = true) (hkl : ks.length = ls.length) (hwk : ∀ x ∈ ks, wfT x) (al : Option Addr) (cl : Nat) (ak : Option Addr) (ck B b : Nat) (l : List UInt8) (w : World) (hla : LA w B ls al) (hkt : KT w B d ks ak)
    (hi : Lib.IsBuilderF 47 5 B b (Lib.byteCells l) w) (hl : l.length + (wrT ⟨7, 0, ⟨#[]⟩, ls, ks⟩).length ≤ 1000000) (hB : B ≤ w.heap.size) :
    Calls Tryz.prog 41 #[.pointer (some ⟨b, 0, none⟩), tyVal ⟨7, 0, ⟨#[]⟩, ls, ks⟩ al cl ak ck] w fun e w' => e = .returned (.tuple #[]) ∧ Lib.IsBuilderF 47 5 B b (Lib.byteCells (l ++ wrT ⟨7, 0, ⟨#[]⟩, ls, ks⟩)) w' ∧ Below B w w' ∧ Lib.OthersKept 5 (some b) w w' := by
  have hb := ibLt hi
  have S0 := hideK (WS.new ⟨7, 0, ⟨#[]⟩, ls, ks⟩ al cl ak ck hi hB)
  have c := writeChoice7 d ih ls ks hls hkl hwk al cl ak ck B b l _ (NAt.keep S0.out.bl hla) (KT.keep S0.out.bl hkt) S0.out.ib hl (Nat.le_trans hB S0.out.bl.size)
  obtain ⟨x0, x1, x2, x3, x4⟩ := S0.out.cells
  simp only [tyVal] at c ⊢
  simp only at x0 x1 x2 x3 x4
  clear hla hkt hi hls ih hwk hkl hl
  generalize wrT ⟨7, 0, ⟨#[]⟩, ls, ks⟩ = G at c ⊢
  go_enter Tryz.func41, Tryz.ntmps41
  go_wp2_with fail
  refine c.mono ?_
  rintro e w1 ⟨rfl, h1, h2, h3⟩
  have S1 := hideK (S0.out.step hb h1 h2 h3)
  go_wp2_with fail
  first | go_end0 | go_ret
  exact ⟨rfl, S1.out.ib, S1.out.bl, S1.out.ok⟩
theorem write_step (d : Nat) (ih : ∀ d', d' < d → WTSaid d') : WTSaid d := by
  intro t al cl ak ck B b l w hw hbd hla hkt hi hl hB
  obtain ⟨hp, hk⟩ := (wfT_eq t).1 hw
  rcases part_full t hp with rfl | ⟨nm, hv, rfl⟩ | ⟨nm, a, hv, rfl⟩ | ⟨k, so, a, hkd, hso, rfl⟩ | ⟨k, a, c, hkd, rfl⟩ | ⟨k, ls, ks, hkd, hls, hlen, rfl⟩
  · exact write_leaf _ al cl ak ck B b l w (.inl rfl) hi hl hB
  · exact write_leaf _ al cl ak ck B b l w (.inr ⟨nm, hv, rfl⟩) hi hl hB
  · exact write_rec d ih nm a hv (hk a (by simp)) al cl ak ck B b l w hkt hi hl hB
  · rcases hkd with rfl | rfl
    · exact write_msg2 d ih so a (hk a (by simp)) al cl ak ck B b l w hkt hi hl hB
    · exact write_msg3 d ih so a (hk a (by simp)) al cl ak ck B b l w hkt hi hl hB
  · rcases hkd with rfl | rfl
    · exact write_give4 d ih a c (hk a (by simp)) (hk c (by simp)) al cl ak ck B b l w hkt hi hl hB
    · exact write_give5 d ih a c (hk a (by simp)) (hk c (by simp)) al cl ak ck B b l w hkt hi hl hB
  · rcases hkd with rfl | rfl
    · exact write_cho6 d ih ls ks hls hlen hk al cl ak ck B b l w hla hkt hi hl hB
    · exact write_cho7 d ih ls ks hls hlen hk al cl ak ck B b l w hla hkt hi hl hB
theorem write_all (d : Nat) : WTSaid d := by
  induction d using Nat.strongRecOn with
  | _ d ih => exact write_step d ih
/-- what Write tells -/
def wrR (t : Ty) : ByteArray × Int := if chkTy t = 0 then (bs (wrT t), 0) else (⟨#[]⟩, chkTy t)
set_option maxRecDepth 100000 in
set_option maxHeartbeats 2000000 in
theorem typesWrite_any (d : Nat) (t : Ty) (al : Option Addr) (cl : Nat) (ak : Option Addr) (ck : Nat) (w : World) (hbd : TyBd t cl ck) (hla : LA w w.heap.size t.labels al) (hkt : KT w w.heap.size d t.kids ak) :
    Calls Tryz.prog 28 #[tyVal t al cl ak ck] w fun e w' => e = .returned (.tuple #[.string (wrR t).1, .int .i64 (wrR t).2]) ∧ Below w.heap.size w w' := by
  have hA : Below w.heap.size w (w.alloc (.cells #[.int .i64 t.kind, .int .i64 t.so, .string t.name, .slice al t.labels.length cl, .slice ak t.kids.length ck] 31)) := (Below.refl _ _).alloc (Nat.le_refl _) _
  have cC := typesCheck_any d t al cl ak ck _ hbd (NAt.mono hA.size (NAt.keep hA hla)) (KT.mono hA.size (KT.keep hA hkt))
  have HA := hideK hA
  unfold wrR
  by_cases hz : chkTy t = 0
  · rw [if_pos hz]
    rw [hz] at cC
    obtain ⟨hw, hsz⟩ := chkTy_good t hz
    have hlen := wrT_len t hw
    have CW := hideK (fun (W : World) (hb : Below w.heap.size w W) (B b : Nat) (hB : w.heap.size ≤ B) (h : Lib.IsBuilderF 47 5 B b (Lib.byteCells []) W) (hBW : B ≤ W.heap.size) => write_all d t al cl ak ck B b [] W hw hbd (NAt.mono hB (NAt.keep hb hla)) (KT.mono hB (KT.keep hb hkt)) h (by simp; omega) hBW)
    simp only [tyVal] at cC CW ⊢
    clear hbd hla hkt hz hw hsz hA hlen
    generalize wrT t = G at *
    go_enter Tryz.func28, Tryz.ntmps28
    go_wp2_with fail
    refine cC.mono ?_
    rintro e w1 ⟨rfl, hb1⟩
    obtain ⟨x0, x1, x2, x3, x4, hbw⟩ := keep5 hb1
    have HB := hideK hbw
    have hlt : w.heap.size < w1.heap.size := by have := hb1.size; simp at this; omega
    clear cC hbw hb1
    go_wp2_with fail
    refine (CW.out _ (HB.out.alloc HB.out.size _) w1.heap.size w1.heap.size HB.out.size (Lib.IsBuilderF.of (Lib.fresh_isBuilder 47 5 w1)) (by simp)).mono ?_
    rintro e w2 ⟨rfl, h1, h2, h3⟩
    rw [List.nil_append] at h1
    have H2 := hideK (((Below.refl w1.heap.size w1).alloc (Nat.le_refl _) _).trans h2)
    clear h2 h3
    go_wp2_with fail
    refine (string_any _ _ G w2 h1 H2.out.size).mono ?_
    rintro e w3 ⟨rfl, _, h4, _⟩
    go_wp2_with fail
    go_ret2
    exact ⟨rfl, HB.out.trans ((H2.out.trans h4).mono HB.out.size)⟩
  · rw [if_neg hz]
    have hzb : (chkTy t != 0) = true := by simpa using hz
    simp only [tyVal] at cC ⊢
    generalize chkTy t = z at cC hzb ⊢
    clear hbd hla hkt hz hA
    go_enter Tryz.func28, Tryz.ntmps28
    go_wp2_with fail
    refine cC.mono ?_
    rintro e w1 ⟨rfl, hb1⟩
    obtain ⟨x0, x1, x2, x3, x4, hbw⟩ := keep5 hb1
    clear cC
    go_wp2_with fail
    go_ret2
    exact ⟨rfl, hbw⟩
end Go.Proofs.YtefdekfgmbgbbaaGreatDoor
