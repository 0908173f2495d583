/-
  The contract of words.WriteChoice of conversations, if that of global.write holds of what lies deeper.
-/
import Derived.Test.YtfmegfgmkeicnaaDoorCvb
import Derived.Test.YtfmegfgmkeicnaaDoorKyp
import Derived.Test.YtfmegfgmkeicnaaDoorOfb
namespace Go.Proofs.YtfmegfgmkeicnaaDoor
open Go.RowKit Go.Shelf
def WCSaid (d : Nat) : Prop := ∀ (t : Cv) (al : Option Addr) (cl : Nat) (ak : Option Addr) (ck B b : Nat) (l : List UInt8) (w : World), wfCv t → CvBd t cl ck → LA w B t.labels al → KCv w B d t.kids ak → Lib.IsBuilderF 61 5 B b (Lib.byteCells l) w → l.length + (wrCv t).length ≤ 1000000 → B ≤ w.heap.size →
  Calls Tryd.prog 23 #[.pointer (some ⟨b, 0, none⟩), valCv t al cl ak ck] w fun e w' => e = .returned (.tuple #[]) ∧ Lib.IsBuilderF 61 5 B b (Lib.byteCells (l ++ wrCv t)) w' ∧ Below B w w' ∧ Lib.OthersKept 5 (some b) w w'
set_option maxRecDepth 100000 in
set_option maxHeartbeats 4000000 in
theorem writeChoiceC_any (d : Nat) (ih : ∀ d', d' < d → WCSaid d') (ls : List ByteArray) (ks : List Cv) (hls : labsOK ls = true) (hkl : ks.length = ls.length) (hwk : ∀ x ∈ ks, wfCv x) (al : Option Addr) (cl : Nat) (ak : Option Addr) (ck B b : Nat) (l : List UInt8) (w : World) (hla : LA w B ls al) (hkt : KCv w B d ks ak)
    (hi : Lib.IsBuilderF 61 5 B b (Lib.byteCells l) w) (hl : l.length + (choL [123] (ls.zip (ks.map wrCv)) ++ [125]).length ≤ 1000000) (hB : B ≤ w.heap.size) :
    Calls Tryd.prog 54 #[.pointer (some ⟨b, 0, none⟩), .slice al ls.length cl, .slice ak ks.length ck, .func (.func 23) #[] #[]] w fun e w' => e = .returned (.tuple #[]) ∧ Lib.IsBuilderF 61 5 B b (Lib.byteCells (l ++ (choL [123] (ls.zip (ks.map wrCv)) ++ [125]))) w' ∧ Below B w w' ∧ Lib.OthersKept 5 (some b) w w' := by
  have hb := ibLt hi
  have S0 : Hid (WB w B b l w) := ⟨hi, Below.refl _ _, Lib.OthersKept.refl _ _ _⟩
  obtain ⟨h6, h8⟩ := labs_len _ hls
  have hG : choL [123] (ls.zip (ks.map wrCv)) ++ [125] = choL [123] (ls.zip (ks.map wrCv)) ++ [125] := rfl
  generalize hGG : choL [123] (ls.zip (ks.map wrCv)) ++ [125] = G at hl ⊢
  have hlG : G.length = (choL [123] (ls.zip (ks.map wrCv))).length + 1 := by rw [← hGG, List.length_append]; rfl
  have hl6 : (ls.length : Int) ≤ 6 := by omega
  have HKL := hideK hkl
  have HLA := hideK hla
  have HKT := hideK hkt
  have H8 := hideK h8
  have HG := hideK hGG
  have HLG := hideK hlG
  have HIH := hideK ih
  have HWK := hideK hwk
  clear hla hkt hi h8 hG hGG hlG hls ih hwk hkl
  go_enter Tryd.func54, Tryd.ntmps54
  go_wp2_with fail
  go_loopw [8, 13] (fun v8 v13 wr => ∃ (i : Nat) (bt : ByteArray), i ≤ ls.length ∧ v13 = .int .i64 (i : Int) ∧ v8 = .string bt ∧ bt.size ≤ 2 ∧ bt.data.toList = (if i = 0 then [123] else [44]) ∧ WB w B b (l ++ choL [123] ((ls.zip (ks.map wrCv)).take i)) wr) (fun _ v13 _ => ls.length - (intOf v13).toNat)
  case atStart => exact ⟨0, _, Nat.zero_le _, rfl, rfl, (by decide : (⟨#[123]⟩ : ByteArray).size ≤ 2), rfl, by simpa [choL] using S0.out⟩
  case round =>
    obtain ⟨i, bt, hil, rfl, rfl, hbt2, hbt, hS⟩ := hrel
    have HS := hideK hS
    have HBT := hideK hbt
    clear hS hbt
    by_cases hlt : i < ls.length
    · have hltz : (i : Int) < (ls.length : Int) := by omega
      have hi0 : (0 : Int) ≤ (i : Int) := by omega
      have hik : i < ks.length := by have := HKL.out; omega
      have hikz : (i : Int) < (ks.length : Int) := by omega
      rcases id HLA.out with e | ⟨lb, lo, rfl, hlb, hlc⟩
      · simp at e; subst e; simp at hlt
      have q := (HS.out.bl.cell (p := ⟨lb, lo + i, none⟩) hlb).trans (hlc i (by simpa using hlt))
      simp only [List.getElem_map] at q
      have hlab := H8.out ls[i] (List.getElem_mem hlt)
      have hlz : ls[i].size ≤ 8 := by rw [ba_len]; exact hlab
      obtain ⟨d', kb, ko, al', cl', ak', ck', hd, rfl, hkB, hta, htb, hla', hka'⟩ := kidCv HKT.out i hik
      have hN := cho_next [123] ls (ks.map wrCv) (by simpa using HKL.out) i hlt
      have hT := cho_take [123] (ls.zip (ks.map wrCv)) (i + 1)
      rw [List.getElem_map] at hN
      have hN2 : l ++ choL [123] ((ls.zip (ks.map wrCv)).take i) ++ (bt ++ ls[i] ++ ⟨#[58]⟩ : ByteArray).data.toList ++ wrCv (ks[i]'hik) = l ++ choL [123] ((ls.zip (ks.map wrCv)).take (i + 1)) := by
        rw [hN, ba_app, ba_app, HBT.out]; simp only [List.append_assoc]
      have hlenN := congrArg List.length hN2
      simp only [List.length_append] at hlenN
      have hgl := HLG.out
      have cS := writeStringK B b _ (bt ++ ls[i] ++ ⟨#[58]⟩) _ HS.out.ib (by rw [size3]; have e1 : (⟨#[58]⟩ : ByteArray).size = 1 := rfl; simp only [List.length_append]; omega) (Nat.le_trans hB HS.out.bl.size)
      have HI1 := hideK (fun (l' : List UInt8) (W : World) (hbl : Below B w W) (h1 : Lib.IsBuilderF 61 5 B b (Lib.byteCells l') W) (h2 : l'.length + (wrCv (ks[i]'hik)).length ≤ 1000000) => HIH.out d' hd (ks[i]'hik) al' cl' ak' ck' B b l' W (HWK.out _ (List.getElem_mem _)) htb (NAt.keep hbl hla') (KCv.keep hbl hka') h1 h2 (Nat.le_trans hB hbl.size))
      have hlen2 : (l ++ choL [123] ((ls.zip (ks.map wrCv)).take i) ++ (bt ++ ls[i] ++ ⟨#[58]⟩ : ByteArray).data.toList).length + (wrCv (ks[i]'hik)).length ≤ 1000000 := by
        simp only [List.length_append]; omega
      have HT := hideK hta
      have HN2 := hideK hN2
      have HL2 := hideK hlen2
      simp only [valCv] at HI1
      clear hN hT hN2 hlenN hlen2 hgl hta hla' hka' htb hlc
      generalize ls[i] = lab at *
      generalize ks[i]'hik = kid at *
      go_wp2_with fail
      refine cS.mono ?_
      rintro e w1 ⟨rfl, h1, h2, h3⟩
      have S1 := hideK (HS.out.step h1 h2 h3)
      obtain ⟨y0, y1, y2, y3, y4, y5, y6⟩ := HT.out.keep S1.out.bl hkB
      clear cS q
      go_wp2_with fail
      refine (HI1.out _ _ S1.out.bl S1.out.ib HL2.out).mono ?_
      rintro e w2 ⟨rfl, h4, h5, h6⟩
      have S2 := hideK (S1.out.step h4 h5 h6)
      go_wp2_with fail
      go_roundw
      case rel => exact ⟨i + 1, ⟨#[44]⟩, by omega, by go_num, rfl, by decide, by rw [if_neg (by omega)], by rw [← HN2.out]; exact S2.out⟩
      case measure => simp [intOf]; omega
    · have hltz : ¬ (i : Int) < (ls.length : Int) := by omega
      have hF : (ls.zip (ks.map wrCv)).take i = ls.zip (ks.map wrCv) := List.take_of_length_le (by rw [List.length_zip]; omega)
      have hgl := HLG.out
      have hz := HS.out
      rw [hF] at hz
      have HZ := hideK hz
      have cS := writeStringK B b _ ⟨#[125]⟩ _ hz.ib (by have e1 : (⟨#[125]⟩ : ByteArray).size = 1 := rfl; simp only [List.length_append]; omega) (Nat.le_trans hB hz.bl.size)
      clear hz hF hgl
      go_wp2_with fail
      refine cS.mono ?_
      rintro e w1 ⟨rfl, h1, h2, h3⟩
      have S1 := hideK (HZ.out.step h1 h2 h3)
      go_wp2_with fail
      first | go_end0 | go_ret
      refine ⟨rfl, ?_, S1.out.bl, S1.out.ok⟩
      rw [← HG.out, ← List.append_assoc]
      exact S1.out.ib
end Go.Proofs.YtfmegfgmkeicnaaDoor
