/-
  TypesBack: the walk through the law, for every type and every text.
-/
import Derived.Test.YtefdekfgmbgbbaaDoorKz
namespace Go.Proofs.YtefdekfgmbgbbaaDoor
open Go.RowKit Go.Shelf
theorem chk_end : chkTy ⟨1, 0, ⟨#[]⟩, [], []⟩ = 0 := by
  have hp : partT ⟨1, 0, ⟨#[]⟩, [], []⟩ = true := by rw [part_1]; simp [ByteArray.toList_eq]
  unfold chkTy
  rw [chkT_eq, if_neg (by omega), if_neg (by rw [hp]; simp), if_neg (by simp), if_neg (by simp)]
  rfl
theorem end_wt : bs (wrT ⟨1, 0, ⟨#[]⟩, [], []⟩) = ⟨#[101, 110, 100]⟩ := by rw [wt_end _ rfl]; rfl
theorem end_wr (w : World) : Calls Tryd.prog 5 #[.agg #[.int .i64 1, .int .i64 0, .string ⟨#[]⟩, .slice none 0 0, .slice none 0 0]] w fun e w' => e = .returned (.tuple #[.string ⟨#[101, 110, 100]⟩, .int .i64 0]) ∧ Below w.heap.size w w' := by
  rw [← end_wt]
  exact write_good 0 ⟨1, 0, ⟨#[]⟩, [], []⟩ none 0 none 0 w ⟨by show (⟨#[]⟩ : ByteArray).size ≤ _; decide, fun l hl => (by cases hl), Nat.le_refl _, by omega, Nat.le_refl _, by omega⟩ (.inl rfl) rfl chk_end
/-- types in blocks that stay: what keeps them -/
structure TM (W : World) (B d : Nat) (t : Ty) (al : Option Addr) (cl : Nat) (ak : Option Addr) (ck : Nat) : Prop where
  bd : TyBd t cl ck
  la : LA W B t.labels al
  ka : KT W B d t.kids ak
theorem TM.keep {W W' : World} {B d : Nat} {t : Ty} {al : Option Addr} {cl : Nat} {ak : Option Addr} {ck : Nat} (h : TM W B d t al cl ak ck) (hb : Below B W W') : TM W' B d t al cl ak ck := ⟨h.bd, NAt.keep hb h.la, KT.keep hb h.ka⟩
theorem TM.mono {W : World} {B B' d : Nat} {t : Ty} {al : Option Addr} {cl : Nat} {ak : Option Addr} {ck : Nat} (h : TM W B d t al cl ak ck) (hb : B ≤ B') : TM W B' d t al cl ak ck := ⟨h.bd, NAt.mono hb h.la, KT.mono hb h.ka⟩
theorem TM.up {W : World} {B d e : Nat} {t : Ty} {al : Option Addr} {cl : Nat} {ak : Option Addr} {ck : Nat} (h : TM W B d t al cl ak ck) (hd : d ≤ e) : TM W B e t al cl ak ck := ⟨h.bd, h.la, KT.up hd h.ka⟩
theorem sameTM {W : World} {B d d2 : Nat} {t : Ty} {al : Option Addr} {cl : Nat} {ak : Option Addr} {ck : Nat} {al2 : Option Addr} {cl2 : Nat} {ak2 : Option Addr} {ck2 : Nat} (h : TM W B d t al cl ak ck) (h2 : TM W B d2 t al2 cl2 ak2 ck2) (hB : B ≤ W.heap.size) :
    Calls Tryd.prog 7 #[.agg #[.int .i64 t.kind, .int .i64 t.so, .string t.name, .slice al t.labels.length cl, .slice ak t.kids.length ck], .agg #[.int .i64 t.kind, .int .i64 t.so, .string t.name, .slice al2 t.labels.length cl2, .slice ak2 t.kids.length ck2]] W fun e w' => e = .returned (.bool true) ∧ Below W.heap.size W w' :=
  sameT_any (max d d2) t al cl ak ck al2 cl2 ak2 ck2 B W h.bd h2.bd h.la h2.la (KT.up (Nat.le_max_left _ _) h.ka) (KT.up (Nat.le_max_right _ _) h2.ka) hB
set_option maxRecDepth 100000 in
set_option maxHeartbeats 8000000 in
theorem typesBack_law (d : Nat) (t : Ty) (al : Option Addr) (cl : Nat) (ak : Option Addr) (ck : Nat) (s : ByteArray) (w : World) (ht : TM w w.heap.size d t al cl ak ck) :
    Calls Tryd.prog 3 #[.agg #[.int .i64 t.kind, .int .i64 t.so, .string t.name, .slice al t.labels.length cl, .slice ak t.kids.length ck], .string s] w fun e w' => e = .returned (.bool true) ∧ Below w.heap.size w w' := by
  have hA : Below w.heap.size w (w.alloc (.cells #[.int .i64 t.kind, .int .i64 t.so, .string t.name, .slice al t.labels.length cl, .slice ak t.kids.length ck] 25)) := (Below.refl _ _).alloc (Nat.le_refl _) _
  have cE := end_wr (w.alloc (.cells #[.int .i64 t.kind, .int .i64 t.so, .string t.name, .slice al t.labels.length cl, .slice ak t.kids.length ck] 25))
  have X0 := hideK (TyAt.lit w t al cl ak ck)
  have HT := hideK ht
  have HA := hideK hA
  clear ht hA
  cases hX : psT s.data.toList with
  | error x =>
    obtain ⟨c, a⟩ := x
    have hc := ps_code _ _ _ hX
    have hcb : (c == 0) = false := by simpa using hc
    go_enter Tryd.func3, Tryd.ntmps3
    go_wp2_with fail
    refine cE.mono ?_
    rintro e w1 ⟨rfl, hb1⟩
    have X1 := hideK (X0.out.keep hb1 (lt_of_cell X0.out.c0))
    have B1 := hideK (HA.out.trans (hb1.mono HA.out.size))
    clear cE
    go_wp2_with fail
    refine (parse_err s c a hX w1).mono ?_
    rintro e w2 ⟨rfl, hb2⟩
    have X2 := hideK (X1.out.keep hb2 (lt_of_cell X1.out.c0))
    have V2 : Hid (Below w2.heap.size w2 ((w2.alloc (.cells #[.int .i64 0, .int .i64 0, .string ⟨#[]⟩, .slice none 0 0, .slice none 0 0] 25)).alloc (.cells #[.int .i64 c, .int .i64 (a : Int)] 30))) := ((Below.refl _ _).alloc (Nat.le_refl _) _).alloc (by simp) _
    have X3 := hideK (X2.out.keep V2.out (lt_of_cell X2.out.c0))
    have B2 := hideK (B1.out.trans (hb2.mono B1.out.size))
    have B3 := hideK (B2.out.trans (V2.out.mono B2.out.size))
    obtain ⟨x0, x1, x2, x3, x4⟩ := X3.out
    simp only [Nat.zero_add] at x1 x2 x3 x4
    clear hX hc
    go_wp2_with fail
    clear x0 x1 x2 x3 x4
    by_cases hz : chkTy t = 0
    · obtain ⟨hwf, hsz⟩ := chkTy_good t hz
      have hsl := size_le t hwf
      refine (write_good d t al cl ak ck _ (HT.out.keep B3.out).bd ((HT.out.keep B3.out).mono B3.out.size).la ((HT.out.keep B3.out).mono B3.out.size).ka hz).mono ?_
      rintro e w5 ⟨rfl, hb5⟩
      have B5 := hideK (B3.out.trans (hb5.mono B3.out.size))
      have X5 := hideK (X3.out.keep hb5 (lt_of_cell X3.out.c0))
      obtain ⟨p0, p1, p2, p3, p4⟩ := X5.out
      simp only [Nat.zero_add] at p1 p2 p3 p4
      have hgs : (bs (wrT t)).size = (wrT t).length := bs_size _
      by_cases hl : (wrT t).length ≤ 2000
      · have hlz : ¬ ((bs (wrT t)).size : Int) > 2000 := by rw [hgs]; omega
        have cP := hideK (parse_ok (bs (wrT t)) t (by rw [bs_list]; exact ps_back t hz hl))
        have hn60 : (sizeT t : Int) ≤ 60 := by omega
        have hnl : (sizeT t : Int) ≤ ((bs (wrT t)).size : Int) := by rw [hgs]; omega
        have HSZ := hideK (fun (W : World) (hb : Below w.heap.size w W) => typesSize_any d t al cl ak ck W (HT.out.keep hb).bd ((HT.out.keep hb).mono hb.size).la ((HT.out.keep hb).mono hb.size).ka)
        have hszr : szR t = ((sizeT t : Int), 0) := by unfold szR; rw [if_pos hz]
        rw [hszr] at HSZ
        simp only [tyVal] at HSZ
        clear hgs hwf hsz hsl hszr hz
        generalize bs (wrT t) = ws at *
        generalize sizeT t = n at *
        go_wp2_with fail
        refine (cP.out _).mono ?_
        rintro e w6 ⟨⟨al6, cl6, ak6, ck6, rfl, hbd6, hla6, hka6⟩, hb6⟩
        have B6 := hideK (B5.out.trans (hb6.mono B5.out.size))
        have X6 := hideK (X5.out.keep hb6 (lt_of_cell X5.out.c0))
        have V6 : Hid (Below w6.heap.size w6 ((w6.alloc (.cells #[.int .i64 t.kind, .int .i64 t.so, .string t.name, .slice al6 t.labels.length cl6, .slice ak6 t.kids.length ck6] 25)).alloc (.cells #[.int .i64 0, .int .i64 0] 30))) := ((Below.refl _ _).alloc (Nat.le_refl _) _).alloc (by simp) _
        have X7 := hideK (X6.out.keep V6.out (lt_of_cell X6.out.c0))
        have Y7 : Hid (TyAt ((w6.alloc (.cells #[.int .i64 t.kind, .int .i64 t.so, .string t.name, .slice al6 t.labels.length cl6, .slice ak6 t.kids.length ck6] 25)).alloc (.cells #[.int .i64 0, .int .i64 0] 30)) w6.heap.size 0 t al6 cl6 ak6 ck6) := (TyAt.lit w6 t al6 cl6 ak6 ck6).keep ((Below.refl _ _).alloc (Nat.le_refl _) _) (by simp)
        have M6 := hideK (TM.mk hbd6 hla6 hka6)
        have G7 : Hid (((w6.alloc (.cells #[.int .i64 t.kind, .int .i64 t.so, .string t.name, .slice al6 t.labels.length cl6, .slice ak6 t.kids.length ck6] 25)).alloc (.cells #[.int .i64 0, .int .i64 0] 30)).cell? ⟨w6.heap.size + 1, 0, none⟩ = some (.int .i64 0)) := by show _ = _; go_cell
        have B7 := hideK (B6.out.trans (V6.out.mono B6.out.size))
        clear hbd6 hla6 hka6
        obtain ⟨q0, q1, q2, q3, q4⟩ := X7.out
        simp only [Nat.zero_add] at q1 q2 q3 q4
        go_wp2_with fail
        refine (HSZ.out _ B7.out).mono ?_
        rintro e w8 ⟨rfl, hb8⟩
        have X8 := X7.out.keep hb8 (lt_of_cell X7.out.c0)
        have Y8 := Y7.out.keep hb8 (lt_of_cell Y7.out.c0)
        have g8 := (hb8.cell (p := ⟨w6.heap.size + 1, 0, none⟩) (by simp)).trans G7.out
        have B8 := hideK (B7.out.trans (hb8.mono B7.out.size))
        have M8 := hideK ((M6.out.keep V6.out).keep (hb8.mono (by simp; omega)))
        obtain ⟨r0, r1, r2, r3, r4⟩ := X8
        simp only [Nat.zero_add] at r1 r2 r3 r4
        obtain ⟨v0, v1, v2, v3, v4⟩ := Y8
        simp only [Nat.zero_add] at v1 v2 v3 v4
        have cS := sameTM (M8.out.mono (Nat.le_trans V6.out.size hb8.size)) ((HT.out.keep B8.out).mono B8.out.size) (Nat.le_refl _)
        go_wp2_with fail
        refine cS.mono ?_
        rintro e w9 ⟨rfl, hb9⟩
        go_wp2_with fail
        go_ret
        exact ⟨rfl, B8.out.trans (hb9.mono B8.out.size)⟩
      · have hlz : ((bs (wrT t)).size : Int) > 2000 := by rw [hgs]; omega
        clear hgs hwf hsz hsl hz
        generalize bs (wrT t) = ws at *
        go_wp2_with fail
        go_ret
        exact ⟨rfl, B5.out⟩
    · refine (write_bad d t al cl ak ck _ (HT.out.keep B3.out).bd ((HT.out.keep B3.out).mono B3.out.size).la ((HT.out.keep B3.out).mono B3.out.size).ka hz).mono ?_
      rintro e w5 ⟨rfl, hb5⟩
      have B5 := hideK (B3.out.trans (hb5.mono B3.out.size))
      have hzb : (chkTy t != 0) = true := by simpa using hz
      have hzc : (chkTy t == 0) = false := by simpa using hz
      generalize chkTy t = z at *
      go_wp2_with fail
      go_ret
      exact ⟨rfl, B5.out⟩
  | ok x =>
    obtain ⟨hcx, hwl, hsl0⟩ := ps_ok _ _ hX
    have hssz : s.data.toList.length = s.size := by simp
    go_enter Tryd.func3, Tryd.ntmps3
    go_wp2_with fail
    refine cE.mono ?_
    rintro e w1 ⟨rfl, hb1⟩
    have X1 := hideK (X0.out.keep hb1 (lt_of_cell X0.out.c0))
    have B1 := hideK (HA.out.trans (hb1.mono HA.out.size))
    clear cE
    go_wp2_with fail
    refine (parse_ok s x hX w1).mono ?_
    rintro e w2 ⟨⟨al2, cl2, ak2, ck2, rfl, hbd2, hla2, hka2⟩, hb2⟩
    have M2 := hideK (TM.mk hbd2 hla2 hka2)
    have X2 := hideK (X1.out.keep hb2 (lt_of_cell X1.out.c0))
    have V2 : Hid (Below w2.heap.size w2 ((w2.alloc (.cells #[.int .i64 x.kind, .int .i64 x.so, .string x.name, .slice al2 x.labels.length cl2, .slice ak2 x.kids.length ck2] 25)).alloc (.cells #[.int .i64 0, .int .i64 0] 30))) := ((Below.refl _ _).alloc (Nat.le_refl _) _).alloc (by simp) _
    have X3 := hideK (X2.out.keep V2.out (lt_of_cell X2.out.c0))
    have B2 := hideK (B1.out.trans (hb2.mono B1.out.size))
    have B3 := hideK (B2.out.trans (V2.out.mono B2.out.size))
    have Y3 : Hid (TyAt ((w2.alloc (.cells #[.int .i64 x.kind, .int .i64 x.so, .string x.name, .slice al2 x.labels.length cl2, .slice ak2 x.kids.length ck2] 25)).alloc (.cells #[.int .i64 0, .int .i64 0] 30)) w2.heap.size 0 x al2 cl2 ak2 ck2) := (TyAt.lit w2 x al2 cl2 ak2 ck2).keep ((Below.refl _ _).alloc (Nat.le_refl _) _) (by simp)
    have f3 : ((w2.alloc (.cells #[.int .i64 x.kind, .int .i64 x.so, .string x.name, .slice al2 x.labels.length cl2, .slice ak2 x.kids.length ck2] 25)).alloc (.cells #[.int .i64 0, .int .i64 0] 30)).cell? ⟨w2.heap.size + 1, 0, none⟩ = some (.int .i64 0) := by go_cell
    have M3 := hideK (M2.out.keep V2.out)
    clear hbd2 hla2 hka2
    obtain ⟨y0, y1, y2, y3, y4⟩ := Y3.out
    simp only [Nat.zero_add] at y1 y2 y3 y4
    go_wp2_with fail
    refine (write_good 2001 x al2 cl2 ak2 ck2 _ M3.out.bd (M3.out.mono V2.out.size).la (M3.out.mono V2.out.size).ka hcx).mono ?_
    rintro e w3 ⟨rfl, hb3⟩
    have X4 := hideK (X3.out.keep hb3 (lt_of_cell X3.out.c0))
    have Y4 := hideK (Y3.out.keep hb3 (lt_of_cell Y3.out.c0))
    have B4 := hideK (B3.out.trans (hb3.mono B3.out.size))
    have M4 := hideK (M3.out.keep (hb3.mono V2.out.size))
    have hgx : (bs (wrT x)).size = (wrT x).length := bs_size _
    have hlx : ¬ ((bs (wrT x)).size : Int) > (s.size : Int) := by rw [hgx]; omega
    have cP := hideK (parse_ok (bs (wrT x)) x (by rw [bs_list]; exact ps_back x hcx (by omega)))
    clear y0 y1 y2 y3 y4 f3 hgx hwl hsl0 hssz hX
    generalize bs (wrT x) = wx at *
    go_wp2_with fail
    refine (cP.out _).mono ?_
    rintro e w4 ⟨⟨al4, cl4, ak4, ck4, rfl, hbd4, hla4, hka4⟩, hb4⟩
    have N4 := hideK (TM.mk hbd4 hla4 hka4)
    have X5 := hideK (X4.out.keep hb4 (lt_of_cell X4.out.c0))
    have Y5 := hideK (Y4.out.keep hb4 (lt_of_cell Y4.out.c0))
    have V4 : Hid (Below w4.heap.size w4 ((w4.alloc (.cells #[.int .i64 x.kind, .int .i64 x.so, .string x.name, .slice al4 x.labels.length cl4, .slice ak4 x.kids.length ck4] 25)).alloc (.cells #[.int .i64 0, .int .i64 0] 30))) := ((Below.refl _ _).alloc (Nat.le_refl _) _).alloc (by simp) _
    have X6 := hideK (X5.out.keep V4.out (lt_of_cell X5.out.c0))
    have Y6 := hideK (Y5.out.keep V4.out (lt_of_cell Y5.out.c0))
    have Z6 : Hid (TyAt ((w4.alloc (.cells #[.int .i64 x.kind, .int .i64 x.so, .string x.name, .slice al4 x.labels.length cl4, .slice ak4 x.kids.length ck4] 25)).alloc (.cells #[.int .i64 0, .int .i64 0] 30)) w4.heap.size 0 x al4 cl4 ak4 ck4) := (TyAt.lit w4 x al4 cl4 ak4 ck4).keep ((Below.refl _ _).alloc (Nat.le_refl _) _) (by simp)
    have f6 : ((w4.alloc (.cells #[.int .i64 x.kind, .int .i64 x.so, .string x.name, .slice al4 x.labels.length cl4, .slice ak4 x.kids.length ck4] 25)).alloc (.cells #[.int .i64 0, .int .i64 0] 30)).cell? ⟨w4.heap.size + 1, 0, none⟩ = some (.int .i64 0) := by go_cell
    have h34 := Nat.le_trans V2.out.size hb3.size
    have M6 := hideK (((M4.out.mono h34).keep hb4).keep (V4.out.mono hb4.size))
    have N6 := hideK (N4.out.keep V4.out)
    have B5 := hideK (B4.out.trans (hb4.mono B4.out.size))
    have B6 := hideK (B5.out.trans (V4.out.mono B5.out.size))
    have cS := sameTM (M6.out.mono (Nat.le_trans hb4.size V4.out.size)) (N6.out.mono V4.out.size) (Nat.le_refl _)
    clear hbd4 hla4 hka4
    obtain ⟨y0, y1, y2, y3, y4⟩ := Y6.out
    simp only [Nat.zero_add] at y1 y2 y3 y4
    obtain ⟨z0, z1, z2, z3, z4⟩ := Z6.out
    simp only [Nat.zero_add] at z1 z2 z3 z4
    go_wp2_with fail
    refine cS.mono ?_
    rintro e w6 ⟨rfl, hb6⟩
    have X7 := hideK (X6.out.keep hb6 (lt_of_cell X6.out.c0))
    have B7 := hideK (B6.out.trans (hb6.mono B6.out.size))
    clear y0 y1 y2 y3 y4 z0 z1 z2 z3 z4 f6 cS
    obtain ⟨x0, x1, x2, x3, x4⟩ := X7.out
    simp only [Nat.zero_add] at x1 x2 x3 x4
    go_wp2_with fail
    clear x0 x1 x2 x3 x4
    by_cases hz : chkTy t = 0
    · obtain ⟨hwf, hsz⟩ := chkTy_good t hz
      have hsl := size_le t hwf
      refine (write_good d t al cl ak ck _ (HT.out.keep B7.out).bd ((HT.out.keep B7.out).mono B7.out.size).la ((HT.out.keep B7.out).mono B7.out.size).ka hz).mono ?_
      rintro e w15 ⟨rfl, hb5⟩
      have B5 := hideK (B7.out.trans (hb5.mono B7.out.size))
      have X5 := hideK (X7.out.keep hb5 (lt_of_cell X7.out.c0))
      obtain ⟨p0, p1, p2, p3, p4⟩ := X5.out
      simp only [Nat.zero_add] at p1 p2 p3 p4
      have hgs : (bs (wrT t)).size = (wrT t).length := bs_size _
      by_cases hl : (wrT t).length ≤ 2000
      · have hlz : ¬ ((bs (wrT t)).size : Int) > 2000 := by rw [hgs]; omega
        have cP := hideK (parse_ok (bs (wrT t)) t (by rw [bs_list]; exact ps_back t hz hl))
        have hn60 : (sizeT t : Int) ≤ 60 := by omega
        have hnl : (sizeT t : Int) ≤ ((bs (wrT t)).size : Int) := by rw [hgs]; omega
        have HSZ := hideK (fun (W : World) (hb : Below w.heap.size w W) => typesSize_any d t al cl ak ck W (HT.out.keep hb).bd ((HT.out.keep hb).mono hb.size).la ((HT.out.keep hb).mono hb.size).ka)
        have hszr : szR t = ((sizeT t : Int), 0) := by unfold szR; rw [if_pos hz]
        rw [hszr] at HSZ
        simp only [tyVal] at HSZ
        clear hgs hwf hsz hsl hszr hz
        generalize bs (wrT t) = ws at *
        generalize sizeT t = n at *
        go_wp2_with fail
        refine (cP.out _).mono ?_
        rintro e w16 ⟨⟨al6, cl6, ak6, ck6, rfl, hbd6, hla6, hka6⟩, hb6⟩
        have B6 := hideK (B5.out.trans (hb6.mono B5.out.size))
        have X6 := hideK (X5.out.keep hb6 (lt_of_cell X5.out.c0))
        have V6 : Hid (Below w16.heap.size w16 ((w16.alloc (.cells #[.int .i64 t.kind, .int .i64 t.so, .string t.name, .slice al6 t.labels.length cl6, .slice ak6 t.kids.length ck6] 25)).alloc (.cells #[.int .i64 0, .int .i64 0] 30))) := ((Below.refl _ _).alloc (Nat.le_refl _) _).alloc (by simp) _
        have X7 := hideK (X6.out.keep V6.out (lt_of_cell X6.out.c0))
        have Y7 : Hid (TyAt ((w16.alloc (.cells #[.int .i64 t.kind, .int .i64 t.so, .string t.name, .slice al6 t.labels.length cl6, .slice ak6 t.kids.length ck6] 25)).alloc (.cells #[.int .i64 0, .int .i64 0] 30)) w16.heap.size 0 t al6 cl6 ak6 ck6) := (TyAt.lit w16 t al6 cl6 ak6 ck6).keep ((Below.refl _ _).alloc (Nat.le_refl _) _) (by simp)
        have M6 := hideK (TM.mk hbd6 hla6 hka6)
        have G7 : Hid (((w16.alloc (.cells #[.int .i64 t.kind, .int .i64 t.so, .string t.name, .slice al6 t.labels.length cl6, .slice ak6 t.kids.length ck6] 25)).alloc (.cells #[.int .i64 0, .int .i64 0] 30)).cell? ⟨w16.heap.size + 1, 0, none⟩ = some (.int .i64 0)) := by show _ = _; go_cell
        have B7 := hideK (B6.out.trans (V6.out.mono B6.out.size))
        clear hbd6 hla6 hka6
        obtain ⟨q0, q1, q2, q3, q4⟩ := X7.out
        simp only [Nat.zero_add] at q1 q2 q3 q4
        go_wp2_with fail
        refine (HSZ.out _ B7.out).mono ?_
        rintro e w18 ⟨rfl, hb8⟩
        have X8 := X7.out.keep hb8 (lt_of_cell X7.out.c0)
        have Y8 := Y7.out.keep hb8 (lt_of_cell Y7.out.c0)
        have g8 := (hb8.cell (p := ⟨w16.heap.size + 1, 0, none⟩) (by simp)).trans G7.out
        have B8 := hideK (B7.out.trans (hb8.mono B7.out.size))
        have M8 := hideK ((M6.out.keep V6.out).keep (hb8.mono (by simp; omega)))
        obtain ⟨r0, r1, r2, r3, r4⟩ := X8
        simp only [Nat.zero_add] at r1 r2 r3 r4
        obtain ⟨v0, v1, v2, v3, v4⟩ := Y8
        simp only [Nat.zero_add] at v1 v2 v3 v4
        have cS := sameTM (M8.out.mono (Nat.le_trans V6.out.size hb8.size)) ((HT.out.keep B8.out).mono B8.out.size) (Nat.le_refl _)
        go_wp2_with fail
        refine cS.mono ?_
        rintro e w19 ⟨rfl, hb9⟩
        go_wp2_with fail
        go_ret
        exact ⟨rfl, B8.out.trans (hb9.mono B8.out.size)⟩
      · have hlz : ((bs (wrT t)).size : Int) > 2000 := by rw [hgs]; omega
        clear hgs hwf hsz hsl hz
        generalize bs (wrT t) = ws at *
        go_wp2_with fail
        go_ret
        exact ⟨rfl, B5.out⟩
    · refine (write_bad d t al cl ak ck _ (HT.out.keep B7.out).bd ((HT.out.keep B7.out).mono B7.out.size).la ((HT.out.keep B7.out).mono B7.out.size).ka hz).mono ?_
      rintro e w15 ⟨rfl, hb5⟩
      have B5 := hideK (B7.out.trans (hb5.mono B7.out.size))
      have hzb : (chkTy t != 0) = true := by simpa using hz
      have hzc : (chkTy t == 0) = false := by simpa using hz
      generalize chkTy t = z at *
      go_wp2_with fail
      go_ret
      exact ⟨rfl, B5.out⟩
end Go.Proofs.YtefdekfgmbgbbaaDoor
