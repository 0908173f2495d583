/-
  The contracts of types.write and types.writeChoice, for every right type.
-/
import Derived.Test.YtefdekfgmbgbbaaDoorKi
import Derived.Test.YtefdekfgmbgbbaaDoorKc
import Derived.Test.YtefdekfgmbgbbaaDoorBx
import Derived.Deep.LoopGhost
import Derived.Deep.RegionHeld3
namespace Go.Proofs.YtefdekfgmbgbbaaDoor
open Go.RowKit Go.Shelf

/-- what write keeps: the builder holds l; its argument lies in a block of its own -/
structure WS (w : World) (B b : Nat) (l : List UInt8) (t : Ty) (al : Option Addr) (cl : Nat) (ak : Option Addr) (ck : Nat) (W : World) : Prop where
  ib : Lib.IsBuilderF 45 5 B b (Lib.byteCells l) W
  bx : W.heap[w.heap.size]? = some (.cells #[.int .i64 t.kind, .int .i64 t.so, .string t.name, .slice al t.labels.length cl, .slice ak t.kids.length ck] 25 (0, 0))
  bl : Below B w W
  ok : Lib.OthersKept 5 (some b) w W
theorem ibLt {T e : TypeId} {B b : Nat} {bs : List Value} {w : World} (h : Lib.IsBuilderF T e B b bs w) : b < w.heap.size := by
  rcases h with ⟨_, v, h, _⟩ | ⟨_, v, h, _⟩ <;> exact (Array.getElem?_eq_some_iff.1 h).1
theorem WS.new {w : World} {B b : Nat} {l : List UInt8} (t : Ty) (al : Option Addr) (cl : Nat) (ak : Option Addr) (ck : Nat) (h : Lib.IsBuilderF 45 5 B b (Lib.byteCells l) w) (hB : B ≤ w.heap.size) :
    WS w B b l t al cl ak ck (w.alloc (.cells #[.int .i64 t.kind, .int .i64 t.so, .string t.name, .slice al t.labels.length cl, .slice ak t.kids.length ck] 25)) :=
  ⟨h.alloc _, heap_alloc_new w _, (Below.refl _ _).alloc hB _, (Lib.OthersKept.refl _ _ _).alloc _⟩
theorem WS.step {w : World} {B b : Nat} {l l' : List UInt8} {t : Ty} {al : Option Addr} {cl : Nat} {ak : Option Addr} {ck : Nat} {W W' : World} (h : WS w B b l t al cl ak ck W) (hb : b < w.heap.size)
    (h1 : Lib.IsBuilderF 45 5 B b (Lib.byteCells l') W') (h2 : Below B W W') (h3 : Lib.OthersKept 5 (some b) W W') : WS w B b l' t al cl ak ck W' :=
  ⟨h1, h3 _ _ h.bx (fun e => by injection e with e; omega) (fun c fz e => by injection e with _ e; exact absurd e (by decide)), h.bl.trans h2, h.ok.trans h3⟩
theorem WS.cells {w : World} {B b : Nat} {l : List UInt8} {t : Ty} {al : Option Addr} {cl : Nat} {ak : Option Addr} {ck : Nat} {W : World} (h : WS w B b l t al cl ak ck W) :
    W.cell? ⟨w.heap.size, 0, none⟩ = some (.int .i64 t.kind) ∧ W.cell? ⟨w.heap.size, 1, none⟩ = some (.int .i64 t.so) ∧ W.cell? ⟨w.heap.size, 2, none⟩ = some (.string t.name) ∧ W.cell? ⟨w.heap.size, 3, none⟩ = some (.slice al t.labels.length cl) ∧ W.cell? ⟨w.heap.size, 4, none⟩ = some (.slice ak t.kids.length ck) := by
  refine ⟨?_, ?_, ?_, ?_, ?_⟩ <;> (rw [Lib.cell_of_heap h.bx]; rfl)
theorem ba_app (a b : ByteArray) : (a ++ b).data.toList = a.data.toList ++ b.data.toList := by simp

def WTSaid (d : Nat) : Prop := ∀ (t : Ty) (al : Option Addr) (cl : Nat) (ak : Option Addr) (ck B b : Nat) (l : List UInt8) (w : World), wfT t → TyBd t cl ck → LA w B t.labels al → KT w B d t.kids ak → Lib.IsBuilderF 45 5 B b (Lib.byteCells l) w → l.length + (wrT t).length ≤ 1000000 → B ≤ w.heap.size →
  Calls Tryd.prog 13 #[.pointer (some ⟨b, 0, none⟩), tyVal t al cl ak ck] w fun e w' => e = .returned (.tuple #[]) ∧ Lib.IsBuilderF 45 5 B b (Lib.byteCells (l ++ wrT t)) w' ∧ Below B w w' ∧ Lib.OthersKept 5 (some b) w w'

set_option maxRecDepth 100000 in
set_option maxHeartbeats 2000000 in
theorem write_leaf (t : Ty) (al : Option Addr) (cl : Nat) (ak : Option Addr) (ck B b : Nat) (l : List UInt8) (w : World) (hw : t = ⟨1, 0, ⟨#[]⟩, [], []⟩ ∨ ∃ nm, isVr nm.data.toList = true ∧ t = ⟨9, 0, nm, [], []⟩)
    (hi : Lib.IsBuilderF 45 5 B b (Lib.byteCells l) w) (hl : l.length + (wrT t).length ≤ 1000000) (hB : B ≤ w.heap.size) :
    Calls Tryd.prog 13 #[.pointer (some ⟨b, 0, none⟩), tyVal t al cl ak ck] w fun e w' => e = .returned (.tuple #[]) ∧ Lib.IsBuilderF 45 5 B b (Lib.byteCells (l ++ wrT t)) w' ∧ Below B w w' ∧ Lib.OthersKept 5 (some b) w w' := by
  have hb := ibLt hi
  have S0 := WS.new t al cl ak ck hi hB
  rcases hw with rfl | ⟨nm, hv, rfl⟩
  · rw [wt_end _ rfl] at hl ⊢
    have c := writeStringK B b l ⟨#[101, 110, 100]⟩ _ S0.ib (by simp [ByteArray.size] at hl ⊢; omega) (by simp; omega)
    simp only [tyVal] at c ⊢
    go_enter Tryd.func13, Tryd.ntmps13
    go_wp2_with fail
    refine c.mono ?_
    rintro e w1 ⟨rfl, h1, h2, h3⟩
    have S1 := S0.step hb h1 h2 h3
    go_wp2_with fail
    first | go_ret | go_end0
    exact ⟨rfl, S1.ib, S1.bl, S1.ok⟩
  · rw [wt_var _ rfl] at hl ⊢
    have c := writeStringK B b l nm _ S0.ib (by simp at hl ⊢; omega) (by simp; omega)
    have ⟨x0, x1, x2, x3, x4⟩ := S0.cells
    simp only [tyVal] at c ⊢
    go_enter Tryd.func13, Tryd.ntmps13
    go_wp2_with fail
    refine c.mono ?_
    rintro e w1 ⟨rfl, h1, h2, h3⟩
    have S1 := S0.step hb h1 h2 h3
    go_wp2_with fail
    first | go_ret | go_end0
    exact ⟨rfl, S1.ib, S1.bl, S1.ok⟩
/-- a kid that lies below block B -/
theorem kid_at {W : World} {B d : Nat} {ks : List Ty} {ak : Option Addr} (h : KT W B d ks ak) (i : Nat) (hi : i < ks.length) : ∃ d' kb ko al' cl' ak' ck', d' < d ∧ ak = some ⟨kb, ko, none⟩ ∧ kb < B ∧ TyAt W kb (ko + i * 5) ks[i] al' cl' ak' ck' ∧ TyBd ks[i] cl' ck' ∧ LA W B ks[i].labels al' ∧ KT W B d' ks[i].kids ak' := by
  cases d with
  | zero => simp only [KT] at h; subst h; simp at hi
  | succ d =>
    rcases h with h | ⟨kb, ko, rfl, hb, h⟩
    · subst h; simp at hi
    · obtain ⟨al', cl', ak', ck', h1, h2, h3, h4⟩ := h i hi
      exact ⟨d, kb, ko, al', cl', ak', ck', Nat.lt_succ_self _, rfl, hb, h1, h2, h3, h4⟩
theorem size3 (a b c : ByteArray) : (a ++ b ++ c).size = a.size + b.size + c.size := by simp [ByteArray.size_append]
theorem size2 (a b : ByteArray) : (a ++ b).size = a.size + b.size := by simp [ByteArray.size_append]
theorem ba_len (s : ByteArray) : s.size = s.data.toList.length := by simp
set_option maxRecDepth 100000 in
set_option maxHeartbeats 4000000 in
theorem write_rec (d : Nat) (ih : ∀ d', d' < d → WTSaid d') (nm : ByteArray) (a : Ty) (hv : isVr nm.data.toList = true) (hwa : wfT a) (al : Option Addr) (cl : Nat) (ak : Option Addr) (ck B b : Nat) (l : List UInt8) (w : World) (hkt : KT w B d [a] ak)
    (hi : Lib.IsBuilderF 45 5 B b (Lib.byteCells l) w) (hl : l.length + (wrT ⟨8, 0, nm, [], [a]⟩).length ≤ 1000000) (hB : B ≤ w.heap.size) :
    Calls Tryd.prog 13 #[.pointer (some ⟨b, 0, none⟩), tyVal ⟨8, 0, nm, [], [a]⟩ al cl ak ck] w fun e w' => e = .returned (.tuple #[]) ∧ Lib.IsBuilderF 45 5 B b (Lib.byteCells (l ++ wrT ⟨8, 0, nm, [], [a]⟩)) w' ∧ Below B w w' ∧ Lib.OthersKept 5 (some b) w w' := by
  have hb := ibLt hi
  have S0 := hideK (WS.new ⟨8, 0, nm, [], [a]⟩ al cl ak ck hi hB)
  generalize hG : wrT ⟨8, 0, nm, [], [a]⟩ = G at hl ⊢
  rw [wt_rec _ a rfl rfl] at hG
  simp only at hG
  have h8 := vr_len _ hv
  have hnm : nm.size ≤ 8 := by rw [ba_len]; exact h8
  have hnz : (nm.size : Int) ≤ 8 := by omega
  have hlG : G.length = 5 + nm.data.toList.length + (wrT a).length := by rw [← hG]; simp only [List.length_append, List.length_cons, List.length_nil]; omega
  have c := writeStringK B b l (⟨#[114, 101, 99, 32]⟩ ++ nm ++ ⟨#[46]⟩ : ByteArray) _ S0.out.ib (by rw [size3]; have e4 : (⟨#[114, 101, 99, 32]⟩ : ByteArray).size = 4 := rfl; have e1 : (⟨#[46]⟩ : ByteArray).size = 1 := rfl; omega) (by simp; omega)
  have HX : Hid (l ++ (⟨#[114, 101, 99, 32]⟩ ++ nm ++ ⟨#[46]⟩ : ByteArray).data.toList ++ wrT a = l ++ G) := by
    show _ = _
    rw [← hG, ba_app, ba_app]; simp only [List.append_assoc]
  obtain ⟨d1, kb1, ko1, al1, cl1, ak1, ck1, hd1, ek1, hkB1, hta1, htb1, hla1, hka1⟩ := kid_at hkt 0 (by simp)
  obtain ⟨x0, x1, x2, x3, x4⟩ := S0.out.cells
  have hlen2 : (l ++ (⟨#[114, 101, 99, 32]⟩ ++ nm ++ ⟨#[46]⟩ : ByteArray).data.toList).length + (wrT a).length ≤ 1000000 := by
    rw [ba_app, ba_app]; simp only [List.length_append]; show l.length + (4 + nm.data.toList.length + 1) + (wrT a).length ≤ _; omega
  have HI1 := hideK (fun (l' : List UInt8) (W : World) (hbl : Below B w W) (h1 : Lib.IsBuilderF 45 5 B b (Lib.byteCells l') W) (h2 : l'.length + (wrT a).length ≤ 1000000) => ih d1 hd1 a al1 cl1 ak1 ck1 B b l' W hwa htb1 (NAt.keep hbl hla1) (KT.keep hbl hka1) h1 h2 (Nat.le_trans hB hbl.size))
  have HT1 := hideK hta1
  subst ek1
  simp only [tyVal] at c HI1 ⊢
  clear hta1 hla1 hka1 hkt hi hv h8 ih hG hlG
  go_enter Tryd.func13, Tryd.ntmps13
  go_wp2_with fail
  refine c.mono ?_
  rintro e w1 ⟨rfl, h1, h2, h3⟩
  have S1 := hideK (S0.out.step hb h1 h2 h3)
  obtain ⟨z0, z1, z2, z3, z4⟩ := S1.out.cells
  obtain ⟨y0, y1, y2, y3, y4⟩ := HT1.out.keep S1.out.bl hkB1
  simp only [Nat.zero_mul, Nat.add_zero, List.getElem_cons_zero] at y0 y1 y2 y3 y4
  clear c x0 x1 x2 x3 x4
  go_wp2_with fail
  refine (HI1.out _ _ S1.out.bl S1.out.ib hlen2).mono ?_
  rintro e w2 ⟨rfl, h4, h5, h6⟩
  go_wp2_with fail
  first | go_end0 | go_ret
  rw [← HX.out]
  exact ⟨rfl, h4, S1.out.bl.trans h5, S1.out.ok.trans h6⟩
set_option maxRecDepth 100000 in
set_option maxHeartbeats 4000000 in
theorem write_give4 (d : Nat) (ih : ∀ d', d' < d → WTSaid d') (a c : Ty) (hwa : wfT a) (hwc : wfT c) (al : Option Addr) (cl : Nat) (ak : Option Addr) (ck B b : Nat) (l : List UInt8) (w : World) (hkt : KT w B d [a, c] ak)
    (hi : Lib.IsBuilderF 45 5 B b (Lib.byteCells l) w) (hl : l.length + (wrT ⟨4, 0, ⟨#[]⟩, [], [a, c]⟩).length ≤ 1000000) (hB : B ≤ w.heap.size) :
    Calls Tryd.prog 13 #[.pointer (some ⟨b, 0, none⟩), tyVal ⟨4, 0, ⟨#[]⟩, [], [a, c]⟩ al cl ak ck] w fun e w' => e = .returned (.tuple #[]) ∧ Lib.IsBuilderF 45 5 B b (Lib.byteCells (l ++ wrT ⟨4, 0, ⟨#[]⟩, [], [a, c]⟩)) w' ∧ Below B w w' ∧ Lib.OthersKept 5 (some b) w w' := by
  have hb := ibLt hi
  have S0 := hideK (WS.new ⟨4, 0, ⟨#[]⟩, [], [a, c]⟩ al cl ak ck hi hB)
  generalize hG : wrT ⟨4, 0, ⟨#[]⟩, [], [a, c]⟩ = G at hl ⊢
  rw [wt_give _ a c (by simp) rfl] at hG
  replace hG : [33] ++ [123] ++ wrT a ++ [125, 46] ++ wrT c = G := hG
  have hlG : G.length = 4 + (wrT a).length + (wrT c).length := by rw [← hG]; simp only [List.length_append, List.length_cons, List.length_nil]; omega
  have cG : ∀ w1 : World, Calls Tryd.prog 28 #[.int .i64 4] w1 fun e w' => e = .returned (.string ⟨#[33]⟩) ∧ w' = w1 := fun w1 => sign_any 4 w1
  have cS := writeStringK B b l ⟨#[33, 123]⟩ _ S0.out.ib (by show l.length + 2 ≤ _; omega) (by simp; omega)
  have HX : Hid (l ++ (⟨#[33, 123]⟩ : ByteArray).data.toList ++ wrT a ++ (⟨#[125, 46]⟩ : ByteArray).data.toList ++ wrT c = l ++ G) := by
    show l ++ [33, 123] ++ wrT a ++ [125, 46] ++ wrT c = _
    rw [← hG]; simp only [List.append_assoc]; rfl
  obtain ⟨d1, kb1, ko1, al1, cl1, ak1, ck1, hd1, ek1, hkB1, hta1, htb1, hla1, hka1⟩ := kid_at hkt 0 (by simp)
  obtain ⟨d2, kb2, ko2, al2, cl2, ak2, ck2, hd2, ek2, hkB2, hta2, htb2, hla2, hka2⟩ := kid_at hkt 1 (by simp)
  rw [ek1] at ek2
  injection ek2 with ek2
  injection ek2 with ekb eko _
  subst ekb eko
  obtain ⟨x0, x1, x2, x3, x4⟩ := S0.out.cells
  have hlenA : (l ++ (⟨#[33, 123]⟩ : ByteArray).data.toList).length + (wrT a).length ≤ 1000000 := by
    simp only [List.length_append]; show l.length + 2 + (wrT a).length ≤ _; omega
  have hlenC : (l ++ (⟨#[33, 123]⟩ : ByteArray).data.toList ++ wrT a ++ (⟨#[125, 46]⟩ : ByteArray).data.toList).length + (wrT c).length ≤ 1000000 := by
    simp only [List.length_append]; show l.length + 2 + (wrT a).length + 2 + (wrT c).length ≤ _; omega
  have hlenM : (l ++ (⟨#[33, 123]⟩ : ByteArray).data.toList ++ wrT a).length + (⟨#[125, 46]⟩ : ByteArray).size ≤ 140737488355328 := by
    simp only [List.length_append]; show l.length + 2 + (wrT a).length + 2 ≤ _; omega
  have HI1 := hideK (fun (l' : List UInt8) (W : World) (hbl : Below B w W) (h1 : Lib.IsBuilderF 45 5 B b (Lib.byteCells l') W) (h2 : l'.length + (wrT a).length ≤ 1000000) => ih d1 hd1 a al1 cl1 ak1 ck1 B b l' W hwa htb1 (NAt.keep hbl hla1) (KT.keep hbl hka1) h1 h2 (Nat.le_trans hB hbl.size))
  have HT1 := hideK hta1
  have HI2 := hideK (fun (l' : List UInt8) (W : World) (hbl : Below B w W) (h1 : Lib.IsBuilderF 45 5 B b (Lib.byteCells l') W) (h2 : l'.length + (wrT c).length ≤ 1000000) => ih d2 hd2 c al2 cl2 ak2 ck2 B b l' W hwc htb2 (NAt.keep hbl hla2) (KT.keep hbl hka2) h1 h2 (Nat.le_trans hB hbl.size))
  have HT2 := hideK hta2
  subst ek1
  simp only [tyVal] at HI1 HI2 cS ⊢
  clear hta1 hla1 hka1 hta2 hla2 hka2 hkt hi ih hG hlG
  go_enter Tryd.func13, Tryd.ntmps13
  go_wp2_with fail
  refine (cG _).mono ?_
  rintro e w0 ⟨rfl, rfl⟩
  go_wp2_with fail
  refine cS.mono ?_
  rintro e w1 ⟨rfl, h1, h2, h3⟩
  have S1 := hideK (S0.out.step hb h1 h2 h3)
  obtain ⟨z0, z1, z2, z3, z4⟩ := S1.out.cells
  obtain ⟨y0, y1, y2, y3, y4⟩ := HT1.out.keep S1.out.bl hkB1
  simp only [Nat.zero_mul, Nat.add_zero, List.getElem_cons_zero] at y0 y1 y2 y3 y4
  clear cS x0 x1 x2 x3 x4
  go_wp2_with fail
  refine (HI1.out _ _ S1.out.bl S1.out.ib hlenA).mono ?_
  rintro e w2 ⟨rfl, h4, h5, h6⟩
  have S2 := hideK (S1.out.step hb h4 h5 h6)
  clear y0 y1 y2 y3 y4 z0 z1 z2 z3 z4
  go_wp2_with fail
  refine (writeStringK B b _ ⟨#[125, 46]⟩ _ S2.out.ib hlenM (Nat.le_trans hB S2.out.bl.size)).mono ?_
  rintro e w3 ⟨rfl, h7, h8, h9⟩
  have S3 := hideK (S2.out.step hb h7 h8 h9)
  obtain ⟨z0, z1, z2, z3, z4⟩ := S3.out.cells
  obtain ⟨y0, y1, y2, y3, y4⟩ := HT2.out.keep S3.out.bl hkB2
  simp only [Nat.one_mul, List.getElem_cons_succ, List.getElem_cons_zero] at y0 y1 y2 y3 y4
  go_wp2_with fail
  refine (HI2.out _ _ S3.out.bl S3.out.ib hlenC).mono ?_
  rintro e w4 ⟨rfl, h10, h11, h12⟩
  go_wp2_with fail
  first | go_end0 | go_ret
  rw [← HX.out]
  exact ⟨rfl, h10, S3.out.bl.trans h11, S3.out.ok.trans h12⟩
set_option maxRecDepth 100000 in
set_option maxHeartbeats 4000000 in
theorem write_give5 (d : Nat) (ih : ∀ d', d' < d → WTSaid d') (a c : Ty) (hwa : wfT a) (hwc : wfT c) (al : Option Addr) (cl : Nat) (ak : Option Addr) (ck B b : Nat) (l : List UInt8) (w : World) (hkt : KT w B d [a, c] ak)
    (hi : Lib.IsBuilderF 45 5 B b (Lib.byteCells l) w) (hl : l.length + (wrT ⟨5, 0, ⟨#[]⟩, [], [a, c]⟩).length ≤ 1000000) (hB : B ≤ w.heap.size) :
    Calls Tryd.prog 13 #[.pointer (some ⟨b, 0, none⟩), tyVal ⟨5, 0, ⟨#[]⟩, [], [a, c]⟩ al cl ak ck] w fun e w' => e = .returned (.tuple #[]) ∧ Lib.IsBuilderF 45 5 B b (Lib.byteCells (l ++ wrT ⟨5, 0, ⟨#[]⟩, [], [a, c]⟩)) w' ∧ Below B w w' ∧ Lib.OthersKept 5 (some b) w w' := by
  have hb := ibLt hi
  have S0 := hideK (WS.new ⟨5, 0, ⟨#[]⟩, [], [a, c]⟩ al cl ak ck hi hB)
  generalize hG : wrT ⟨5, 0, ⟨#[]⟩, [], [a, c]⟩ = G at hl ⊢
  rw [wt_give _ a c (by simp) rfl] at hG
  replace hG : [63] ++ [123] ++ wrT a ++ [125, 46] ++ wrT c = G := hG
  have hlG : G.length = 4 + (wrT a).length + (wrT c).length := by rw [← hG]; simp only [List.length_append, List.length_cons, List.length_nil]; omega
  have cG : ∀ w1 : World, Calls Tryd.prog 28 #[.int .i64 5] w1 fun e w' => e = .returned (.string ⟨#[63]⟩) ∧ w' = w1 := fun w1 => sign_any 5 w1
  have cS := writeStringK B b l ⟨#[63, 123]⟩ _ S0.out.ib (by show l.length + 2 ≤ _; omega) (by simp; omega)
  have HX : Hid (l ++ (⟨#[63, 123]⟩ : ByteArray).data.toList ++ wrT a ++ (⟨#[125, 46]⟩ : ByteArray).data.toList ++ wrT c = l ++ G) := by
    show l ++ [63, 123] ++ wrT a ++ [125, 46] ++ wrT c = _
    rw [← hG]; simp only [List.append_assoc]; rfl
  obtain ⟨d1, kb1, ko1, al1, cl1, ak1, ck1, hd1, ek1, hkB1, hta1, htb1, hla1, hka1⟩ := kid_at hkt 0 (by simp)
  obtain ⟨d2, kb2, ko2, al2, cl2, ak2, ck2, hd2, ek2, hkB2, hta2, htb2, hla2, hka2⟩ := kid_at hkt 1 (by simp)
  rw [ek1] at ek2
  injection ek2 with ek2
  injection ek2 with ekb eko _
  subst ekb eko
  obtain ⟨x0, x1, x2, x3, x4⟩ := S0.out.cells
  have hlenA : (l ++ (⟨#[63, 123]⟩ : ByteArray).data.toList).length + (wrT a).length ≤ 1000000 := by
    simp only [List.length_append]; show l.length + 2 + (wrT a).length ≤ _; omega
  have hlenC : (l ++ (⟨#[63, 123]⟩ : ByteArray).data.toList ++ wrT a ++ (⟨#[125, 46]⟩ : ByteArray).data.toList).length + (wrT c).length ≤ 1000000 := by
    simp only [List.length_append]; show l.length + 2 + (wrT a).length + 2 + (wrT c).length ≤ _; omega
  have hlenM : (l ++ (⟨#[63, 123]⟩ : ByteArray).data.toList ++ wrT a).length + (⟨#[125, 46]⟩ : ByteArray).size ≤ 140737488355328 := by
    simp only [List.length_append]; show l.length + 2 + (wrT a).length + 2 ≤ _; omega
  have HI1 := hideK (fun (l' : List UInt8) (W : World) (hbl : Below B w W) (h1 : Lib.IsBuilderF 45 5 B b (Lib.byteCells l') W) (h2 : l'.length + (wrT a).length ≤ 1000000) => ih d1 hd1 a al1 cl1 ak1 ck1 B b l' W hwa htb1 (NAt.keep hbl hla1) (KT.keep hbl hka1) h1 h2 (Nat.le_trans hB hbl.size))
  have HT1 := hideK hta1
  have HI2 := hideK (fun (l' : List UInt8) (W : World) (hbl : Below B w W) (h1 : Lib.IsBuilderF 45 5 B b (Lib.byteCells l') W) (h2 : l'.length + (wrT c).length ≤ 1000000) => ih d2 hd2 c al2 cl2 ak2 ck2 B b l' W hwc htb2 (NAt.keep hbl hla2) (KT.keep hbl hka2) h1 h2 (Nat.le_trans hB hbl.size))
  have HT2 := hideK hta2
  subst ek1
  simp only [tyVal] at HI1 HI2 cS ⊢
  clear hta1 hla1 hka1 hta2 hla2 hka2 hkt hi ih hG hlG
  go_enter Tryd.func13, Tryd.ntmps13
  go_wp2_with fail
  refine (cG _).mono ?_
  rintro e w0 ⟨rfl, rfl⟩
  go_wp2_with fail
  refine cS.mono ?_
  rintro e w1 ⟨rfl, h1, h2, h3⟩
  have S1 := hideK (S0.out.step hb h1 h2 h3)
  obtain ⟨z0, z1, z2, z3, z4⟩ := S1.out.cells
  obtain ⟨y0, y1, y2, y3, y4⟩ := HT1.out.keep S1.out.bl hkB1
  simp only [Nat.zero_mul, Nat.add_zero, List.getElem_cons_zero] at y0 y1 y2 y3 y4
  clear cS x0 x1 x2 x3 x4
  go_wp2_with fail
  refine (HI1.out _ _ S1.out.bl S1.out.ib hlenA).mono ?_
  rintro e w2 ⟨rfl, h4, h5, h6⟩
  have S2 := hideK (S1.out.step hb h4 h5 h6)
  clear y0 y1 y2 y3 y4 z0 z1 z2 z3 z4
  go_wp2_with fail
  refine (writeStringK B b _ ⟨#[125, 46]⟩ _ S2.out.ib hlenM (Nat.le_trans hB S2.out.bl.size)).mono ?_
  rintro e w3 ⟨rfl, h7, h8, h9⟩
  have S3 := hideK (S2.out.step hb h7 h8 h9)
  obtain ⟨z0, z1, z2, z3, z4⟩ := S3.out.cells
  obtain ⟨y0, y1, y2, y3, y4⟩ := HT2.out.keep S3.out.bl hkB2
  simp only [Nat.one_mul, List.getElem_cons_succ, List.getElem_cons_zero] at y0 y1 y2 y3 y4
  go_wp2_with fail
  refine (HI2.out _ _ S3.out.bl S3.out.ib hlenC).mono ?_
  rintro e w4 ⟨rfl, h10, h11, h12⟩
  go_wp2_with fail
  first | go_end0 | go_ret
  rw [← HX.out]
  exact ⟨rfl, h10, S3.out.bl.trans h11, S3.out.ok.trans h12⟩
theorem WS.drew {w : World} {B b : Nat} {l : List UInt8} {t : Ty} {al : Option Addr} {cl : Nat} {ak : Option Addr} {ck : Nat} {W : World} (h : WS w B b l t al cl ak ck W) : WS w B b l t al cl ak ck W.drew := ⟨h.ib, h.bx, h.bl.drew, h.ok.drew⟩
set_option maxRecDepth 100000 in
set_option maxHeartbeats 4000000 in
theorem write_msg2 (d : Nat) (ih : ∀ d', d' < d → WTSaid d') (so : Int) (a : Ty) (hwa : wfT a) (al : Option Addr) (cl : Nat) (ak : Option Addr) (ck B b : Nat) (l : List UInt8) (w : World) (hkt : KT w B d [a] ak)
    (hi : Lib.IsBuilderF 45 5 B b (Lib.byteCells l) w) (hl : l.length + (wrT ⟨2, so, ⟨#[]⟩, [], [a]⟩).length ≤ 1000000) (hB : B ≤ w.heap.size) :
    Calls Tryd.prog 13 #[.pointer (some ⟨b, 0, none⟩), tyVal ⟨2, so, ⟨#[]⟩, [], [a]⟩ al cl ak ck] w fun e w' => e = .returned (.tuple #[]) ∧ Lib.IsBuilderF 45 5 B b (Lib.byteCells (l ++ wrT ⟨2, so, ⟨#[]⟩, [], [a]⟩)) w' ∧ Below B w w' ∧ Lib.OthersKept 5 (some b) w w' := by
  have hb := ibLt hi
  have S0 := hideK (WS.new ⟨2, so, ⟨#[]⟩, [], [a]⟩ al cl ak ck hi hB)
  generalize hG : wrT ⟨2, so, ⟨#[]⟩, [], [a]⟩ = G at hl ⊢
  rw [wt_msg _ a (by simp) rfl] at hG
  replace hG : [33] ++ (swB so).data.toList ++ [46] ++ wrT a = G := hG
  have h4 := sw_len so
  have hsw : (swB so).size ≤ 4 := by rw [ba_len]; exact h4
  have hlG : G.length = 2 + (swB so).data.toList.length + (wrT a).length := by rw [← hG]; simp only [List.length_append, List.length_cons, List.length_nil]; omega
  have cG : ∀ w1 : World, Calls Tryd.prog 28 #[.int .i64 2] w1 fun e w' => e = .returned (.string ⟨#[33]⟩) ∧ w' = w1 := fun w1 => sign_any 2 w1
  have cW := sortWord_any so
  have SD := hideK S0.out.drew
  have cS := writeStringK B b l (⟨#[33]⟩ ++ swB so ++ ⟨#[46]⟩ : ByteArray) _ SD.out.ib (by rw [size3]; have e4 : (⟨#[33]⟩ : ByteArray).size = 1 := rfl; have e1 : (⟨#[46]⟩ : ByteArray).size = 1 := rfl; omega) (by show B ≤ (w.alloc _).heap.size; simp; omega)
  have HX : Hid (l ++ (⟨#[33]⟩ ++ swB so ++ ⟨#[46]⟩ : ByteArray).data.toList ++ wrT a = l ++ G) := by
    show _ = _
    rw [← hG, ba_app, ba_app]; simp only [List.append_assoc]
  obtain ⟨d1, kb1, ko1, al1, cl1, ak1, ck1, hd1, ek1, hkB1, hta1, htb1, hla1, hka1⟩ := kid_at hkt 0 (by simp)
  obtain ⟨x0, x1, x2, x3, x4⟩ := S0.out.cells
  have hlen2 : (l ++ (⟨#[33]⟩ ++ swB so ++ ⟨#[46]⟩ : ByteArray).data.toList).length + (wrT a).length ≤ 1000000 := by
    rw [ba_app, ba_app]; simp only [List.length_append]; show l.length + (1 + (swB so).data.toList.length + 1) + (wrT a).length ≤ _; omega
  have HI1 := hideK (fun (l' : List UInt8) (W : World) (hbl : Below B w W) (h1 : Lib.IsBuilderF 45 5 B b (Lib.byteCells l') W) (h2 : l'.length + (wrT a).length ≤ 1000000) => ih d1 hd1 a al1 cl1 ak1 ck1 B b l' W hwa htb1 (NAt.keep hbl hla1) (KT.keep hbl hka1) h1 h2 (Nat.le_trans hB hbl.size))
  have HT1 := hideK hta1
  subst ek1
  simp only [tyVal] at cS HI1 ⊢
  have s1 : ¬ (9223372036854775807 < 1 + (swB so).size) := by omega
  have s2 : ¬ (9223372036854775807 < 1 + (swB so).size + 1) := by omega
  have CW := hideK cW
  have CG := hideK cG
  clear hta1 hla1 hka1 hkt hi h4 ih hG hlG cW cG
  generalize swB so = sw at *
  go_enter Tryd.func13, Tryd.ntmps13
  go_wp2_with fail
  go_region_held3 (fun w' => w'.cell? ⟨w.heap.size, 0, none⟩ = some (.int .i64 2) ∧ w'.cell? ⟨w.heap.size, 1, none⟩ = some (.int .i64 so)) (go_keep) (first
    | (go_at_call 28; go_must (refine (CG.out _).mono ?_; rintro e w0 ⟨rfl, rfl⟩))
    | (go_at_call 29; go_must (refine (CW.out _).mono ?_; rintro e w0 ⟨rfl, rfl⟩))
    | (go_at_call 24; go_must (refine cS.mono ?_; rintro e w1 ⟨rfl, h1, h2, h3⟩; have S1 := hideK (SD.out.step hb h1 h2 h3); obtain ⟨z0, z1, z2, z3, z4⟩ := S1.out.cells; obtain ⟨y0, y1, y2, y3, y4⟩ := HT1.out.keep S1.out.bl hkB1; simp only [Nat.zero_mul, Nat.add_zero, List.getElem_cons_zero] at y0 y1 y2 y3 y4)))
  all_goals
    clear x0 x1 x2 x3 x4
    go_wp2_with fail
    refine (HI1.out _ _ S1.out.bl S1.out.ib hlen2).mono ?_
    rintro e w2 ⟨rfl, h4, h5, h6⟩
    go_wp2_with fail
    first | go_end0 | go_ret
    rw [← HX.out]
    exact ⟨rfl, h4, S1.out.bl.trans h5, S1.out.ok.trans h6⟩
set_option maxRecDepth 100000 in
set_option maxHeartbeats 4000000 in
theorem write_msg3 (d : Nat) (ih : ∀ d', d' < d → WTSaid d') (so : Int) (a : Ty) (hwa : wfT a) (al : Option Addr) (cl : Nat) (ak : Option Addr) (ck B b : Nat) (l : List UInt8) (w : World) (hkt : KT w B d [a] ak)
    (hi : Lib.IsBuilderF 45 5 B b (Lib.byteCells l) w) (hl : l.length + (wrT ⟨3, so, ⟨#[]⟩, [], [a]⟩).length ≤ 1000000) (hB : B ≤ w.heap.size) :
    Calls Tryd.prog 13 #[.pointer (some ⟨b, 0, none⟩), tyVal ⟨3, so, ⟨#[]⟩, [], [a]⟩ al cl ak ck] w fun e w' => e = .returned (.tuple #[]) ∧ Lib.IsBuilderF 45 5 B b (Lib.byteCells (l ++ wrT ⟨3, so, ⟨#[]⟩, [], [a]⟩)) w' ∧ Below B w w' ∧ Lib.OthersKept 5 (some b) w w' := by
  have hb := ibLt hi
  have S0 := hideK (WS.new ⟨3, so, ⟨#[]⟩, [], [a]⟩ al cl ak ck hi hB)
  generalize hG : wrT ⟨3, so, ⟨#[]⟩, [], [a]⟩ = G at hl ⊢
  rw [wt_msg _ a (by simp) rfl] at hG
  replace hG : [63] ++ (swB so).data.toList ++ [46] ++ wrT a = G := hG
  have h4 := sw_len so
  have hsw : (swB so).size ≤ 4 := by rw [ba_len]; exact h4
  have hlG : G.length = 2 + (swB so).data.toList.length + (wrT a).length := by rw [← hG]; simp only [List.length_append, List.length_cons, List.length_nil]; omega
  have cG : ∀ w1 : World, Calls Tryd.prog 28 #[.int .i64 3] w1 fun e w' => e = .returned (.string ⟨#[63]⟩) ∧ w' = w1 := fun w1 => sign_any 3 w1
  have cW := sortWord_any so
  have SD := hideK S0.out.drew
  have cS := writeStringK B b l (⟨#[63]⟩ ++ swB so ++ ⟨#[46]⟩ : ByteArray) _ SD.out.ib (by rw [size3]; have e4 : (⟨#[63]⟩ : ByteArray).size = 1 := rfl; have e1 : (⟨#[46]⟩ : ByteArray).size = 1 := rfl; omega) (by show B ≤ (w.alloc _).heap.size; simp; omega)
  have HX : Hid (l ++ (⟨#[63]⟩ ++ swB so ++ ⟨#[46]⟩ : ByteArray).data.toList ++ wrT a = l ++ G) := by
    show _ = _
    rw [← hG, ba_app, ba_app]; simp only [List.append_assoc]
  obtain ⟨d1, kb1, ko1, al1, cl1, ak1, ck1, hd1, ek1, hkB1, hta1, htb1, hla1, hka1⟩ := kid_at hkt 0 (by simp)
  obtain ⟨x0, x1, x2, x3, x4⟩ := S0.out.cells
  have hlen2 : (l ++ (⟨#[63]⟩ ++ swB so ++ ⟨#[46]⟩ : ByteArray).data.toList).length + (wrT a).length ≤ 1000000 := by
    rw [ba_app, ba_app]; simp only [List.length_append]; show l.length + (1 + (swB so).data.toList.length + 1) + (wrT a).length ≤ _; omega
  have HI1 := hideK (fun (l' : List UInt8) (W : World) (hbl : Below B w W) (h1 : Lib.IsBuilderF 45 5 B b (Lib.byteCells l') W) (h2 : l'.length + (wrT a).length ≤ 1000000) => ih d1 hd1 a al1 cl1 ak1 ck1 B b l' W hwa htb1 (NAt.keep hbl hla1) (KT.keep hbl hka1) h1 h2 (Nat.le_trans hB hbl.size))
  have HT1 := hideK hta1
  subst ek1
  simp only [tyVal] at cS HI1 ⊢
  have s1 : ¬ (9223372036854775807 < 1 + (swB so).size) := by omega
  have s2 : ¬ (9223372036854775807 < 1 + (swB so).size + 1) := by omega
  have CW := hideK cW
  have CG := hideK cG
  clear hta1 hla1 hka1 hkt hi h4 ih hG hlG cW cG
  generalize swB so = sw at *
  go_enter Tryd.func13, Tryd.ntmps13
  go_wp2_with fail
  go_region_held3 (fun w' => w'.cell? ⟨w.heap.size, 0, none⟩ = some (.int .i64 3) ∧ w'.cell? ⟨w.heap.size, 1, none⟩ = some (.int .i64 so)) (go_keep) (first
    | (go_at_call 28; go_must (refine (CG.out _).mono ?_; rintro e w0 ⟨rfl, rfl⟩))
    | (go_at_call 29; go_must (refine (CW.out _).mono ?_; rintro e w0 ⟨rfl, rfl⟩))
    | (go_at_call 24; go_must (refine cS.mono ?_; rintro e w1 ⟨rfl, h1, h2, h3⟩; have S1 := hideK (SD.out.step hb h1 h2 h3); obtain ⟨z0, z1, z2, z3, z4⟩ := S1.out.cells; obtain ⟨y0, y1, y2, y3, y4⟩ := HT1.out.keep S1.out.bl hkB1; simp only [Nat.zero_mul, Nat.add_zero, List.getElem_cons_zero] at y0 y1 y2 y3 y4)))
  all_goals
    clear x0 x1 x2 x3 x4
    go_wp2_with fail
    refine (HI1.out _ _ S1.out.bl S1.out.ib hlen2).mono ?_
    rintro e w2 ⟨rfl, h4, h5, h6⟩
    go_wp2_with fail
    first | go_end0 | go_ret
    rw [← HX.out]
    exact ⟨rfl, h4, S1.out.bl.trans h5, S1.out.ok.trans h6⟩
end Go.Proofs.YtefdekfgmbgbbaaDoor
