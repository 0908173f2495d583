/-
  GlobalBack: the walk through the law, for every conversation and every text.
-/
import Derived.Test.YtfmegfgmkeicnaaDoorCyj
import Derived.Test.YtfmegfgmkeicnaaDoorKf
import Derived.Test.YtfmegfgmkeicnaaDoorCya
namespace Go.Proofs.YtfmegfgmkeicnaaDoor
open Go.RowKit Go.Shelf
theorem parseC_ok (s : ByteArray) (t : Cv) (h : psC s.data.toList = .ok t) (w : World) :
    Calls Tryd.prog 8 #[.string s] w fun e w' => (∃ d al cl ak ck, e = .returned (.tuple #[.agg #[.int .i64 t.kind, .string t.fm, .string t.tt, .int .i64 t.so, .string t.name, .slice al t.labels.length cl, .slice ak t.kids.length ck], .agg #[.int .i64 0, .int .i64 0]]) ∧ MCv w' w'.heap.size d t al cl ak ck) ∧ Below w.heap.size w w' := by
  have c := parseC_any s w
  rw [h] at c
  exact c
theorem parseC_err (s : ByteArray) (c : Int) (a : Nat) (h : psC s.data.toList = .error (c, a)) (w : World) :
    Calls Tryd.prog 8 #[.string s] w fun e w' => e = .returned (.tuple #[.agg #[.int .i64 0, .string ⟨#[]⟩, .string ⟨#[]⟩, .int .i64 0, .string ⟨#[]⟩, .slice none 0 0, .slice none 0 0], .agg #[.int .i64 c, .int .i64 (a : Int)]]) ∧ Below w.heap.size w w' := by
  have c := parseC_any s w
  rw [h] at c
  exact c
theorem chk_endC : chkCv ⟨1, ⟨#[]⟩, ⟨#[]⟩, 0, ⟨#[]⟩, [], []⟩ = 0 := by
  have hp : partCB ⟨1, ⟨#[]⟩, ⟨#[]⟩, 0, ⟨#[]⟩, [], []⟩ = true := (part_iffC _).2 (.inl rfl)
  unfold chkCv
  rw [chkC_eq, if_neg (by omega), if_neg (by rw [hp]; simp), if_neg (by simp), if_neg (by simp)]
  rfl
theorem end_wrC (w : World) : Calls Tryd.prog 7 #[.agg #[.int .i64 1, .string ⟨#[]⟩, .string ⟨#[]⟩, .int .i64 0, .string ⟨#[]⟩, .slice none 0 0, .slice none 0 0]] w fun e w' => e = .returned (.tuple #[.string ⟨#[101, 110, 100]⟩, .int .i64 0]) ∧ Below w.heap.size w w' := by
  have h : bs (wrCv ⟨1, ⟨#[]⟩, ⟨#[]⟩, 0, ⟨#[]⟩, [], []⟩) = ⟨#[101, 110, 100]⟩ := by rw [wc_end]; rfl
  rw [← h]
  exact writeC_good 0 ⟨1, ⟨#[]⟩, ⟨#[]⟩, 0, ⟨#[]⟩, [], []⟩ none 0 none 0 w ⟨⟨by show (⟨#[]⟩ : ByteArray).size ≤ _; decide, by show (⟨#[]⟩ : ByteArray).size ≤ _; decide, by show (⟨#[]⟩ : ByteArray).size ≤ _; decide, fun l hl => (by cases hl), Nat.le_refl _, by omega, Nat.le_refl _, by omega⟩, .inl rfl, rfl⟩ chk_endC
theorem sameMG {W : World} {B d d2 : Nat} {t : Cv} {al : Option Addr} {cl : Nat} {ak : Option Addr} {ck : Nat} {al2 : Option Addr} {cl2 : Nat} {ak2 : Option Addr} {ck2 : Nat} (h : MCv W B d t al cl ak ck) (h2 : MCv W B d2 t al2 cl2 ak2 ck2) (hB : B ≤ W.heap.size) :
    Calls Tryd.prog 9 #[.agg #[.int .i64 t.kind, .string t.fm, .string t.tt, .int .i64 t.so, .string t.name, .slice al t.labels.length cl, .slice ak t.kids.length ck], .agg #[.int .i64 t.kind, .string t.fm, .string t.tt, .int .i64 t.so, .string t.name, .slice al2 t.labels.length cl2, .slice ak2 t.kids.length ck2]] W fun e w' => e = .returned (.bool true) ∧ Below W.heap.size W w' :=
  sameG_any (max d d2) t al cl ak ck al2 cl2 ak2 ck2 B W h.bd h2.bd h.la h2.la (KCv.up (Nat.le_max_left _ _) h.ka) (KCv.up (Nat.le_max_right _ _) h2.ka) hB
set_option maxRecDepth 100000 in
set_option maxHeartbeats 8000000 in
theorem globalBack_law (d : Nat) (t : Cv) (al : Option Addr) (cl : Nat) (ak : Option Addr) (ck : Nat) (s : ByteArray) (w : World) (ht : MCv w w.heap.size d t al cl ak ck) :
    Calls Tryd.prog 3 #[.agg #[.int .i64 t.kind, .string t.fm, .string t.tt, .int .i64 t.so, .string t.name, .slice al t.labels.length cl, .slice ak t.kids.length ck], .string s] w fun e w' => e = .returned (.bool true) ∧ Below w.heap.size w w' := by
  have hA : Below w.heap.size w (w.alloc (.cells #[.int .i64 t.kind, .string t.fm, .string t.tt, .int .i64 t.so, .string t.name, .slice al t.labels.length cl, .slice ak t.kids.length ck] 25)) := (Below.refl _ _).alloc (Nat.le_refl _) _
  have cE := end_wrC (w.alloc (.cells #[.int .i64 t.kind, .string t.fm, .string t.tt, .int .i64 t.so, .string t.name, .slice al t.labels.length cl, .slice ak t.kids.length ck] 25))
  have X0 := hideK (CvAt.lit w t al cl ak ck)
  have HT := hideK ht
  have HA := hideK hA
  clear ht hA
  go_enter Tryd.func3, Tryd.ntmps3
  go_wp2_with fail
  refine cE.mono ?_
  rintro e w1 ⟨rfl, hb1⟩
  have X1 := hideK (X0.out.keep hb1 (by simp))
  have B1 := hideK (HA.out.trans (hb1.mono HA.out.size))
  have L1 : Hid (w.heap.size < w1.heap.size) := by have := hb1.size; simp at this; show _ < _; omega
  clear cE X0 HA hb1
  rcases hX : psC s.data.toList with ⟨c, a⟩ | x
  focus
    have hc := psC_code _ _ _ hX
    have hcb : (c == 0) = false := by simpa using hc
    have cP := parseC_err s c a hX w1
    clear hX hc
    go_wp2_with fail
    refine cP.mono ?_
    rintro e w2 ⟨rfl, hb2⟩
    have BV : Hid (Below w1.heap.size w1 ((w2.alloc (.cells #[.int .i64 0, .string ⟨#[]⟩, .string ⟨#[]⟩, .int .i64 0, .string ⟨#[]⟩, .slice none 0 0, .slice none 0 0] 25)).alloc (.cells #[.int .i64 c, .int .i64 (a : Int)] 30))) := (hb2.alloc hb2.size _).alloc (by have := hb2.size; simp; omega) _
    have XT := hideK (X1.out.keep BV.out L1.out)
    have BT := hideK (B1.out.trans (BV.out.mono (Nat.le_of_lt L1.out)))
    have LT : Hid (w.heap.size < ((w2.alloc (.cells #[.int .i64 0, .string ⟨#[]⟩, .string ⟨#[]⟩, .int .i64 0, .string ⟨#[]⟩, .slice none 0 0, .slice none 0 0] 25)).alloc (.cells #[.int .i64 c, .int .i64 (a : Int)] 30)).heap.size) := Nat.lt_of_lt_of_le L1.out BV.out.size
    obtain ⟨x0, x1, x2, x3, x4, x5, x6⟩ := XT.out
    simp only [Nat.zero_add] at x1 x2 x3 x4 x5 x6
    clear cP hb2 X1 B1 L1 BV
    go_wp2_with fail
    clear x0 x1 x2 x3 x4 x5 x6 hcb
    generalize (w2.alloc (.cells #[.int .i64 0, .string ⟨#[]⟩, .string ⟨#[]⟩, .int .i64 0, .string ⟨#[]⟩, .slice none 0 0, .slice none 0 0] 25)).alloc (.cells #[.int .i64 c, .int .i64 (a : Int)] 30) = WT at *
  rotate_left
  focus
    obtain ⟨hcx, hwl, hsl0⟩ := psC_ok _ _ hX
    have cP := parseC_ok s x hX w1
    have hlx : (wrCv x).length ≤ 2000 := by omega
    have cP2 := hideK (parseC_ok (bs (wrCv x)) x (by rw [bs_list]; exact psC_back x hcx hlx))
    clear hX hwl hsl0 hlx
    go_wp2_with fail
    refine cP.mono ?_
    rintro e w2 ⟨⟨d2, al2, cl2, ak2, ck2, rfl, hM2⟩, hb2⟩
    have V3 : Hid (Below w2.heap.size w2 ((w2.alloc (.cells #[.int .i64 x.kind, .string x.fm, .string x.tt, .int .i64 x.so, .string x.name, .slice al2 x.labels.length cl2, .slice ak2 x.kids.length ck2] 25)).alloc (.cells #[.int .i64 0, .int .i64 0] 30))) := ((Below.refl _ _).alloc (Nat.le_refl _) _).alloc (by simp) _
    have Y3 : Hid (CvAt ((w2.alloc (.cells #[.int .i64 x.kind, .string x.fm, .string x.tt, .int .i64 x.so, .string x.name, .slice al2 x.labels.length cl2, .slice ak2 x.kids.length ck2] 25)).alloc (.cells #[.int .i64 0, .int .i64 0] 30)) w2.heap.size 0 x al2 cl2 ak2 ck2) := (CvAt.lit w2 x al2 cl2 ak2 ck2).keep ((Below.refl _ _).alloc (Nat.le_refl _) _) (by simp)
    have f3 : ((w2.alloc (.cells #[.int .i64 x.kind, .string x.fm, .string x.tt, .int .i64 x.so, .string x.name, .slice al2 x.labels.length cl2, .slice ak2 x.kids.length ck2] 25)).alloc (.cells #[.int .i64 0, .int .i64 0] 30)).cell? ⟨w2.heap.size + 1, 0, none⟩ = some (.int .i64 0) := by go_cell
    have X3 := hideK (X1.out.keep (hb2.trans (V3.out.mono hb2.size)) L1.out)
    have B3 := hideK (B1.out.trans ((hb2.trans (V3.out.mono hb2.size)).mono (Nat.le_of_lt L1.out)))
    have M3 := hideK (hM2.keep V3.out)
    have L2 : Hid (w.heap.size < w2.heap.size) := Nat.lt_of_lt_of_le L1.out hb2.size
    obtain ⟨y0, y1, y2, y3, y4, y5, y6⟩ := Y3.out
    simp only [Nat.zero_add] at y1 y2 y3 y4 y5 y6
    clear cP hM2 X1 B1
    go_wp2_with fail
    refine (writeC_good d2 x al2 cl2 ak2 ck2 _ (M3.out.mono V3.out.size) hcx).mono ?_
    rintro e w3 ⟨rfl, hb3⟩
    have hV3s := V3.out.size
    have X4 := hideK (X3.out.keep hb3 (Nat.lt_of_lt_of_le L2.out hV3s))
    have Y4 := hideK (Y3.out.keep hb3 (by simp; omega))
    have B4 := hideK (B3.out.trans (hb3.mono B3.out.size))
    have M4 := hideK (M3.out.keep (hb3.mono hV3s))
    have H23 : Hid (w2.heap.size < w3.heap.size) := by have := hb3.size; simp at this; show _ < _; omega
    clear y0 y1 y2 y3 y4 y5 y6 f3 hV3s hb3 X3 B3 M3 Y3 V3 hcx
    generalize bs (wrCv x) = wx at *
    go_wp2_with fail
    refine (cP2.out _).mono ?_
    rintro e w4 ⟨⟨d4, al4, cl4, ak4, ck4, rfl, hM4⟩, hb4⟩
    have V5 : Hid (Below w4.heap.size w4 ((w4.alloc (.cells #[.int .i64 x.kind, .string x.fm, .string x.tt, .int .i64 x.so, .string x.name, .slice al4 x.labels.length cl4, .slice ak4 x.kids.length ck4] 25)).alloc (.cells #[.int .i64 0, .int .i64 0] 30))) := ((Below.refl _ _).alloc (Nat.le_refl _) _).alloc (by simp) _
    have Y5 : Hid (CvAt ((w4.alloc (.cells #[.int .i64 x.kind, .string x.fm, .string x.tt, .int .i64 x.so, .string x.name, .slice al4 x.labels.length cl4, .slice ak4 x.kids.length ck4] 25)).alloc (.cells #[.int .i64 0, .int .i64 0] 30)) w4.heap.size 0 x al4 cl4 ak4 ck4) := (CvAt.lit w4 x al4 cl4 ak4 ck4).keep ((Below.refl _ _).alloc (Nat.le_refl _) _) (by simp)
    have f5 : ((w4.alloc (.cells #[.int .i64 x.kind, .string x.fm, .string x.tt, .int .i64 x.so, .string x.name, .slice al4 x.labels.length cl4, .slice ak4 x.kids.length ck4] 25)).alloc (.cells #[.int .i64 0, .int .i64 0] 30)).cell? ⟨w4.heap.size + 1, 0, none⟩ = some (.int .i64 0) := by go_cell
    have hb5 := hb4.trans (V5.out.mono hb4.size)
    have X5 := hideK (X4.out.keep hb5 (Nat.lt_trans L2.out H23.out))
    have Y6 := hideK (Y4.out.keep hb5 H23.out)
    have B5 := hideK (B4.out.trans (hb5.mono B4.out.size))
    have M6 := hideK ((M4.out.mono (Nat.le_of_lt H23.out)).keep hb5)
    have N6 := hideK (hM4.keep V5.out)
    have H34 := hideK hb4.size
    have cS := sameMG (M6.out.mono hb5.size) (N6.out.mono V5.out.size) (Nat.le_refl _)
    obtain ⟨y0, y1, y2, y3, y4, y5, y6⟩ := Y6.out
    simp only [Nat.zero_add] at y1 y2 y3 y4 y5 y6
    obtain ⟨z0, z1, z2, z3, z4, z5, z6⟩ := Y5.out
    simp only [Nat.zero_add] at z1 z2 z3 z4 z5 z6
    have HLB := hideK (Nat.lt_of_lt_of_le (Nat.lt_trans L2.out H23.out) hb5.size)
    clear hM4 hb5 cP2 X4 Y4 B4 M4 M6 N6 Y5 Y6
    go_wp2_with fail
    refine cS.mono ?_
    rintro e w6 ⟨rfl, hb6⟩
    have XT := hideK (X5.out.keep hb6 HLB.out)
    have BT := hideK (B5.out.trans (hb6.mono B5.out.size))
    have LT : Hid (w.heap.size < w6.heap.size) := Nat.lt_of_lt_of_le HLB.out hb6.size
    clear y0 y1 y2 y3 y4 y5 y6 z0 z1 z2 z3 z4 z5 z6 f5 cS X5 B5
    obtain ⟨x0, x1, x2, x3, x4, x5, x6⟩ := XT.out
    simp only [Nat.zero_add] at x1 x2 x3 x4 x5 x6
    go_wp2_with fail
    clear x0 x1 x2 x3 x4 x5 x6
    generalize w6 = WT at *
  all_goals
    by_cases hz : chkCv t = 0
    · have cW := writeC_good d t al cl ak ck WT ((HT.out.keep BT.out).mono BT.out.size) hz
      have hgs : (bs (wrCv t)).size = (wrCv t).length := bs_size _
      refine cW.mono ?_
      rintro e w15 ⟨rfl, hb5⟩
      have B5 := hideK (BT.out.trans (hb5.mono BT.out.size))
      have X5 := hideK (XT.out.keep hb5 LT.out)
      have L5 : Hid (w.heap.size < w15.heap.size) := Nat.lt_of_lt_of_le LT.out hb5.size
      by_cases hl : (wrCv t).length ≤ 2000
      · have hlz : ¬ ((bs (wrCv t)).size : Int) > 2000 := by rw [hgs]; omega
        have cP := hideK (parseC_ok (bs (wrCv t)) t (by rw [bs_list]; exact psC_back t hz hl))
        clear hgs hl hz cW
        generalize bs (wrCv t) = ws at *
        go_wp2_with fail
        refine (cP.out _).mono ?_
        rintro e w16 ⟨⟨d6, al6, cl6, ak6, ck6, rfl, hM6⟩, hb6⟩
        have V7 : Hid (Below w16.heap.size w16 ((w16.alloc (.cells #[.int .i64 t.kind, .string t.fm, .string t.tt, .int .i64 t.so, .string t.name, .slice al6 t.labels.length cl6, .slice ak6 t.kids.length ck6] 25)).alloc (.cells #[.int .i64 0, .int .i64 0] 30))) := ((Below.refl _ _).alloc (Nat.le_refl _) _).alloc (by simp) _
        have Y7 : Hid (CvAt ((w16.alloc (.cells #[.int .i64 t.kind, .string t.fm, .string t.tt, .int .i64 t.so, .string t.name, .slice al6 t.labels.length cl6, .slice ak6 t.kids.length ck6] 25)).alloc (.cells #[.int .i64 0, .int .i64 0] 30)) w16.heap.size 0 t al6 cl6 ak6 ck6) := (CvAt.lit w16 t al6 cl6 ak6 ck6).keep ((Below.refl _ _).alloc (Nat.le_refl _) _) (by simp)
        have f7 : ((w16.alloc (.cells #[.int .i64 t.kind, .string t.fm, .string t.tt, .int .i64 t.so, .string t.name, .slice al6 t.labels.length cl6, .slice ak6 t.kids.length ck6] 25)).alloc (.cells #[.int .i64 0, .int .i64 0] 30)).cell? ⟨w16.heap.size + 1, 0, none⟩ = some (.int .i64 0) := by go_cell
        have hb7 := hb6.trans (V7.out.mono hb6.size)
        have X7 := hideK (X5.out.keep hb7 L5.out)
        have B7 := hideK (B5.out.trans (hb7.mono B5.out.size))
        have M7 := hideK (hM6.keep V7.out)
        have cS := sameMG (M7.out.mono V7.out.size) ((HT.out.keep B7.out).mono B7.out.size) (Nat.le_refl _)
        obtain ⟨q0, q1, q2, q3, q4, q5, q6⟩ := X7.out
        simp only [Nat.zero_add] at q1 q2 q3 q4 q5 q6
        obtain ⟨v0, v1, v2, v3, v4, v5, v6⟩ := Y7.out
        simp only [Nat.zero_add] at v1 v2 v3 v4 v5 v6
        clear hM6 hb7 cP X5 B5
        go_wp2_with fail
        refine cS.mono ?_
        rintro e w19 ⟨rfl, hb9⟩
        go_wp2_with fail
        go_ret
        exact ⟨rfl, B7.out.trans (hb9.mono B7.out.size)⟩
      · have hlz : ((bs (wrCv t)).size : Int) > 2000 := by rw [hgs]; omega
        clear hgs hz hl cW
        generalize bs (wrCv t) = ws at *
        go_wp2_with fail
        go_ret
        exact ⟨rfl, B5.out⟩
    · have cW := writeC_bad d t al cl ak ck WT ((HT.out.keep BT.out).mono BT.out.size) hz
      refine cW.mono ?_
      rintro e w15 ⟨rfl, hb5⟩
      have B5 := hideK (BT.out.trans (hb5.mono BT.out.size))
      have hzb : (chkCv t != 0) = true := by simpa using hz
      have hzc : (chkCv t == 0) = false := by simpa using hz
      clear hz cW
      generalize chkCv t = z at *
      go_wp2_with fail
      go_ret
      exact ⟨rfl, B5.out⟩
end Go.Proofs.YtfmegfgmkeicnaaDoor
