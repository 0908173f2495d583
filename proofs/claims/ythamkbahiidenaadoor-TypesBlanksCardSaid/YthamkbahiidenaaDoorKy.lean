/-
  The contracts of types.write and types.writeChoice, for every right type.
-/
import Derived.Test.YthamkbahiidenaaDoorKi
import Derived.Test.YthamkbahiidenaaDoorKc
import Derived.Test.YthamkbahiidenaaDoorJx
import Derived.Deep.LoopGhost
import Derived.Deep.RegionHeld3
import Derived.Test.YthamkbahiidenaaDoorKe
namespace Go.Proofs.YthamkbahiidenaaDoor
open Go.RowKit Go.Shelf

/-- what write keeps: the builder holds l; its argument lies in a block of its own -/
structure WS (w : World) (B b : Nat) (l : List UInt8) (t : Ty) (al : Option Addr) (cl : Nat) (ak : Option Addr) (ck : Nat) (W : World) : Prop where
  ib : Lib.IsBuilderF 45 5 B b (Lib.byteCells l) W
  bx : W.heap[w.heap.size]? = some (.cells #[.int .i64 t.kind, .int .i64 t.so, .string t.name, .slice al t.labels.length cl, .slice ak t.kids.length ck] 25 (0, 0))
  bl : Below B w W
  ok : Lib.OthersKept 5 (some b) w W
theorem ibLt {T e : TypeId} {B b : Nat} {bs : List Value} {w : World} (h : Lib.IsBuilderF T e B b bs w) : b < w.heap.size := by
  rcases h with ⟨_, v, h, _⟩ | ⟨_, v, h, _⟩ <;> exact (Array.getElem?_eq_some_iff.1 h).1
theorem WS.new {w : World} {B b : Nat} {l : List UInt8} (t : Ty) (al : Option Addr) (cl : Nat) (ak : Option Addr) (ck : Nat) (h : Lib.IsBuilderF 45 5 B b (Lib.byteCells l) w) (hB : B ≤ w.heap.size) :
    WS w B b l t al cl ak ck (w.alloc (.cells #[.int .i64 t.kind, .int .i64 t.so, .string t.name, .slice al t.labels.length cl, .slice ak t.kids.length ck] 25)) :=
  ⟨h.alloc _, heap_alloc_new w _, (Below.refl _ _).alloc hB _, (Lib.OthersKept.refl _ _ _).alloc _⟩
theorem WS.step {w : World} {B b : Nat} {l l' : List UInt8} {t : Ty} {al : Option Addr} {cl : Nat} {ak : Option Addr} {ck : Nat} {W W' : World} (h : WS w B b l t al cl ak ck W) (hb : b < w.heap.size)
    (h1 : Lib.IsBuilderF 45 5 B b (Lib.byteCells l') W') (h2 : Below B W W') (h3 : Lib.OthersKept 5 (some b) W W') : WS w B b l' t al cl ak ck W' :=
  ⟨h1, h3 _ _ h.bx (fun e => by injection e with e; omega) (fun c fz e => by injection e with _ e; exact absurd e (by decide)), h.bl.trans h2, h.ok.trans h3⟩
theorem WS.cells {w : World} {B b : Nat} {l : List UInt8} {t : Ty} {al : Option Addr} {cl : Nat} {ak : Option Addr} {ck : Nat} {W : World} (h : WS w B b l t al cl ak ck W) :
    W.cell? ⟨w.heap.size, 0, none⟩ = some (.int .i64 t.kind) ∧ W.cell? ⟨w.heap.size, 1, none⟩ = some (.int .i64 t.so) ∧ W.cell? ⟨w.heap.size, 2, none⟩ = some (.string t.name) ∧ W.cell? ⟨w.heap.size, 3, none⟩ = some (.slice al t.labels.length cl) ∧ W.cell? ⟨w.heap.size, 4, none⟩ = some (.slice ak t.kids.length ck) := by
  refine ⟨?_, ?_, ?_, ?_, ?_⟩ <;> (rw [Lib.cell_of_heap h.bx]; rfl)
theorem ba_app (a b : ByteArray) : (a ++ b).data.toList = a.data.toList ++ b.data.toList := by simp

def WTSaid (d : Nat) : Prop := ∀ (t : Ty) (al : Option Addr) (cl : Nat) (ak : Option Addr) (ck B b : Nat) (l : List UInt8) (w : World), wfT t → TyBd t cl ck → LA w B t.labels al → KT w B d t.kids ak → Lib.IsBuilderF 45 5 B b (Lib.byteCells l) w → l.length + (wrT t).length ≤ 1000000 → B ≤ w.heap.size →
  Calls Tryd.prog 13 #[.pointer (some ⟨b, 0, none⟩), tyVal t al cl ak ck] w fun e w' => e = .returned (.tuple #[]) ∧ Lib.IsBuilderF 45 5 B b (Lib.byteCells (l ++ wrT t)) w' ∧ Below B w w' ∧ Lib.OthersKept 5 (some b) w w'

set_option maxRecDepth 100000 in
set_option maxHeartbeats 2000000 in
theorem write_leaf (t : Ty) (al : Option Addr) (cl : Nat) (ak : Option Addr) (ck B b : Nat) (l : List UInt8) (w : World) (hw : t = ⟨1, 0, ⟨#[]⟩, [], []⟩ ∨ ∃ nm, isVr nm.data.toList = true ∧ t = ⟨9, 0, nm, [], []⟩)
    (hi : Lib.IsBuilderF 45 5 B b (Lib.byteCells l) w) (hl : l.length + (wrT t).length ≤ 1000000) (hB : B ≤ w.heap.size) :
    Calls Tryd.prog 13 #[.pointer (some ⟨b, 0, none⟩), tyVal t al cl ak ck] w fun e w' => e = .returned (.tuple #[]) ∧ Lib.IsBuilderF 45 5 B b (Lib.byteCells (l ++ wrT t)) w' ∧ Below B w w' ∧ Lib.OthersKept 5 (some b) w w' := by
  have hb := ibLt hi
  have S0 := WS.new t al cl ak ck hi hB
  rcases hw with rfl | ⟨nm, hv, rfl⟩
  · rw [wt_end _ rfl] at hl ⊢
    have c := writeStringK B b l ⟨#[101, 110, 100]⟩ _ S0.ib (by simp [ByteArray.size] at hl ⊢; omega) (by simp; omega)
    simp only [tyVal] at c ⊢
    go_enter Tryd.func13, Tryd.ntmps13
    go_wp2_with fail
    refine c.mono ?_
    rintro e w1 ⟨rfl, h1, h2, h3⟩
    have S1 := S0.step hb h1 h2 h3
    go_wp2_with fail
    first | go_ret | go_end0
    exact ⟨rfl, S1.ib, S1.bl, S1.ok⟩
  · rw [wt_var _ rfl] at hl ⊢
    have c := writeStringK B b l nm _ S0.ib (by simp at hl ⊢; omega) (by simp; omega)
    have ⟨x0, x1, x2, x3, x4⟩ := S0.cells
    simp only [tyVal] at c ⊢
    go_enter Tryd.func13, Tryd.ntmps13
    go_wp2_with fail
    refine c.mono ?_
    rintro e w1 ⟨rfl, h1, h2, h3⟩
    have S1 := S0.step hb h1 h2 h3
    go_wp2_with fail
    first | go_ret | go_end0
    exact ⟨rfl, S1.ib, S1.bl, S1.ok⟩
/-- a kid that lies below block B -/
theorem kid_at {W : World} {B d : Nat} {ks : List Ty} {ak : Option Addr} (h : KT W B d ks ak) (i : Nat) (hi : i < ks.length) : ∃ d' kb ko al' cl' ak' ck', d' < d ∧ ak = some ⟨kb, ko, none⟩ ∧ kb < B ∧ TyAt W kb (ko + i * 5) ks[i] al' cl' ak' ck' ∧ TyBd ks[i] cl' ck' ∧ LA W B ks[i].labels al' ∧ KT W B d' ks[i].kids ak' := by
  cases d with
  | zero => simp only [KT] at h; subst h; simp at hi
  | succ d =>
    rcases h with h | ⟨kb, ko, rfl, hb, h⟩
    · subst h; simp at hi
    · obtain ⟨al', cl', ak', ck', h1, h2, h3, h4⟩ := h i hi
      exact ⟨d, kb, ko, al', cl', ak', ck', Nat.lt_succ_self _, rfl, hb, h1, h2, h3, h4⟩
theorem size3 (a b c : ByteArray) : (a ++ b ++ c).size = a.size + b.size + c.size := by simp [ByteArray.size_append]
theorem size2 (a b : ByteArray) : (a ++ b).size = a.size + b.size := by simp [ByteArray.size_append]
theorem ba_len (s : ByteArray) : s.size = s.data.toList.length := by simp
set_option maxRecDepth 100000 in
set_option maxHeartbeats 4000000 in
theorem write_rec (d : Nat) (ih : ∀ d', d' < d → WTSaid d') (nm : ByteArray) (a : Ty) (hv : isVr nm.data.toList = true) (hwa : wfT a) (al : Option Addr) (cl : Nat) (ak : Option Addr) (ck B b : Nat) (l : List UInt8) (w : World) (hkt : KT w B d [a] ak)
    (hi : Lib.IsBuilderF 45 5 B b (Lib.byteCells l) w) (hl : l.length + (wrT ⟨8, 0, nm, [], [a]⟩).length ≤ 1000000) (hB : B ≤ w.heap.size) :
    Calls Tryd.prog 13 #[.pointer (some ⟨b, 0, none⟩), tyVal ⟨8, 0, nm, [], [a]⟩ al cl ak ck] w fun e w' => e = .returned (.tuple #[]) ∧ Lib.IsBuilderF 45 5 B b (Lib.byteCells (l ++ wrT ⟨8, 0, nm, [], [a]⟩)) w' ∧ Below B w w' ∧ Lib.OthersKept 5 (some b) w w' := by
  have hb := ibLt hi
  have S0 := hideK (WS.new ⟨8, 0, nm, [], [a]⟩ al cl ak ck hi hB)
  generalize hG : wrT ⟨8, 0, nm, [], [a]⟩ = G at hl ⊢
  rw [wt_rec _ a rfl rfl] at hG
  simp only at hG
  have h8 := vr_len _ hv
  have hnm : nm.size ≤ 8 := by rw [ba_len]; exact h8
  have hnz : (nm.size : Int) ≤ 8 := by omega
  have hlG : G.length = 5 + nm.data.toList.length + (wrT a).length := by rw [← hG]; simp only [List.length_append, List.length_cons, List.length_nil]; omega
  have c := writeStringK B b l (⟨#[114, 101, 99, 32]⟩ ++ nm ++ ⟨#[46]⟩ : ByteArray) _ S0.out.ib (by rw [size3]; have e4 : (⟨#[114, 101, 99, 32]⟩ : ByteArray).size = 4 := rfl; have e1 : (⟨#[46]⟩ : ByteArray).size = 1 := rfl; omega) (by simp; omega)
  have HX : Hid (l ++ (⟨#[114, 101, 99, 32]⟩ ++ nm ++ ⟨#[46]⟩ : ByteArray).data.toList ++ wrT a = l ++ G) := by
    show _ = _
    rw [← hG, ba_app, ba_app]; simp only [List.append_assoc]
  obtain ⟨d1, kb1, ko1, al1, cl1, ak1, ck1, hd1, ek1, hkB1, hta1, htb1, hla1, hka1⟩ := kid_at hkt 0 (by simp)
  obtain ⟨x0, x1, x2, x3, x4⟩ := S0.out.cells
  have hlen2 : (l ++ (⟨#[114, 101, 99, 32]⟩ ++ nm ++ ⟨#[46]⟩ : ByteArray).data.toList).length + (wrT a).length ≤ 1000000 := by
    rw [ba_app, ba_app]; simp only [List.length_append]; show l.length + (4 + nm.data.toList.length + 1) + (wrT a).length ≤ _; omega
  have HI1 := hideK (fun (l' : List UInt8) (W : World) (hbl : Below B w W) (h1 : Lib.IsBuilderF 45 5 B b (Lib.byteCells l') W) (h2 : l'.length + (wrT a).length ≤ 1000000) => ih d1 hd1 a al1 cl1 ak1 ck1 B b l' W hwa htb1 (NAt.keep hbl hla1) (KT.keep hbl hka1) h1 h2 (Nat.le_trans hB hbl.size))
  have HT1 := hideK hta1
  subst ek1
  simp only [tyVal] at c HI1 ⊢
  clear hta1 hla1 hka1 hkt hi hv h8 ih hG hlG
  go_enter Tryd.func13, Tryd.ntmps13
  go_wp2_with fail
  refine c.mono ?_
  rintro e w1 ⟨rfl, h1, h2, h3⟩
  have S1 := hideK (S0.out.step hb h1 h2 h3)
  obtain ⟨z0, z1, z2, z3, z4⟩ := S1.out.cells
  obtain ⟨y0, y1, y2, y3, y4⟩ := HT1.out.keep S1.out.bl hkB1
  simp only [Nat.zero_mul, Nat.add_zero, List.getElem_cons_zero] at y0 y1 y2 y3 y4
  clear c x0 x1 x2 x3 x4
  go_wp2_with fail
  refine (HI1.out _ _ S1.out.bl S1.out.ib hlen2).mono ?_
  rintro e w2 ⟨rfl, h4, h5, h6⟩
  go_wp2_with fail
  first | go_end0 | go_ret
  rw [← HX.out]
  exact ⟨rfl, h4, S1.out.bl.trans h5, S1.out.ok.trans h6⟩
set_option maxRecDepth 100000 in
set_option maxHeartbeats 4000000 in
theorem write_give4 (d : Nat) (ih : ∀ d', d' < d → WTSaid d') (a c : Ty) (hwa : wfT a) (hwc : wfT c) (al : Option Addr) (cl : Nat) (ak : Option Addr) (ck B b : Nat) (l : List UInt8) (w : World) (hkt : KT w B d [a, c] ak)
    (hi : Lib.IsBuilderF 45 5 B b (Lib.byteCells l) w) (hl : l.length + (wrT ⟨4, 0, ⟨#[]⟩, [], [a, c]⟩).length ≤ 1000000) (hB : B ≤ w.heap.size) :
    Calls Tryd.prog 13 #[.pointer (some ⟨b, 0, none⟩), tyVal ⟨4, 0, ⟨#[]⟩, [], [a, c]⟩ al cl ak ck] w fun e w' => e = .returned (.tuple #[]) ∧ Lib.IsBuilderF 45 5 B b (Lib.byteCells (l ++ wrT ⟨4, 0, ⟨#[]⟩, [], [a, c]⟩)) w' ∧ Below B w w' ∧ Lib.OthersKept 5 (some b) w w' := by
  have hb := ibLt hi
  have S0 := hideK (WS.new ⟨4, 0, ⟨#[]⟩, [], [a, c]⟩ al cl ak ck hi hB)
  generalize hG : wrT ⟨4, 0, ⟨#[]⟩, [], [a, c]⟩ = G at hl ⊢
  rw [wt_give _ a c (by simp) rfl] at hG
  replace hG : [33] ++ [123] ++ wrT a ++ [125, 46] ++ wrT c = G := hG
  have hlG : G.length = 4 + (wrT a).length + (wrT c).length := by rw [← hG]; simp only [List.length_append, List.length_cons, List.length_nil]; omega
  have cG : ∀ w1 : World, Calls Tryd.prog 28 #[.int .i64 4] w1 fun e w' => e = .returned (.string ⟨#[33]⟩) ∧ w' = w1 := fun w1 => sign_any 4 w1
  have cS := writeStringK B b l ⟨#[33, 123]⟩ _ S0.out.ib (by show l.length + 2 ≤ _; omega) (by simp; omega)
  have HX : Hid (l ++ (⟨#[33, 123]⟩ : ByteArray).data.toList ++ wrT a ++ (⟨#[125, 46]⟩ : ByteArray).data.toList ++ wrT c = l ++ G) := by
    show l ++ [33, 123] ++ wrT a ++ [125, 46] ++ wrT c = _
    rw [← hG]; simp only [List.append_assoc]; rfl
  obtain ⟨d1, kb1, ko1, al1, cl1, ak1, ck1, hd1, ek1, hkB1, hta1, htb1, hla1, hka1⟩ := kid_at hkt 0 (by simp)
  obtain ⟨d2, kb2, ko2, al2, cl2, ak2, ck2, hd2, ek2, hkB2, hta2, htb2, hla2, hka2⟩ := kid_at hkt 1 (by simp)
  rw [ek1] at ek2
  injection ek2 with ek2
  injection ek2 with ekb eko _
  subst ekb eko
  obtain ⟨x0, x1, x2, x3, x4⟩ := S0.out.cells
  have hlenA : (l ++ (⟨#[33, 123]⟩ : ByteArray).data.toList).length + (wrT a).length ≤ 1000000 := by
    simp only [List.length_append]; show l.length + 2 + (wrT a).length ≤ _; omega
  have hlenC : (l ++ (⟨#[33, 123]⟩ : ByteArray).data.toList ++ wrT a ++ (⟨#[125, 46]⟩ : ByteArray).data.toList).length + (wrT c).length ≤ 1000000 := by
    simp only [List.length_append]; show l.length + 2 + (wrT a).length + 2 + (wrT c).length ≤ _; omega
  have hlenM : (l ++ (⟨#[33, 123]⟩ : ByteArray).data.toList ++ wrT a).length + (⟨#[125, 46]⟩ : ByteArray).size ≤ 140737488355328 := by
    simp only [List.length_append]; show l.length + 2 + (wrT a).length + 2 ≤ _; omega
  have HI1 := hideK (fun (l' : List UInt8) (W : World) (hbl : Below B w W) (h1 : Lib.IsBuilderF 45 5 B b (Lib.byteCells l') W) (h2 : l'.length + (wrT a).length ≤ 1000000) => ih d1 hd1 a al1 cl1 ak1 ck1 B b l' W hwa htb1 (NAt.keep hbl hla1) (KT.keep hbl hka1) h1 h2 (Nat.le_trans hB hbl.size))
  have HT1 := hideK hta1
  have HI2 := hideK (fun (l' : List UInt8) (W : World) (hbl : Below B w W) (h1 : Lib.IsBuilderF 45 5 B b (Lib.byteCells l') W) (h2 : l'.length + (wrT c).length ≤ 1000000) => ih d2 hd2 c al2 cl2 ak2 ck2 B b l' W hwc htb2 (NAt.keep hbl hla2) (KT.keep hbl hka2) h1 h2 (Nat.le_trans hB hbl.size))
  have HT2 := hideK hta2
  subst ek1
  simp only [tyVal] at HI1 HI2 cS ⊢
  clear hta1 hla1 hka1 hta2 hla2 hka2 hkt hi ih hG hlG
  go_enter Tryd.func13, Tryd.ntmps13
  go_wp2_with fail
  refine (cG _).mono ?_
  rintro e w0 ⟨rfl, rfl⟩
  go_wp2_with fail
  refine cS.mono ?_
  rintro e w1 ⟨rfl, h1, h2, h3⟩
  have S1 := hideK (S0.out.step hb h1 h2 h3)
  obtain ⟨z0, z1, z2, z3, z4⟩ := S1.out.cells
  obtain ⟨y0, y1, y2, y3, y4⟩ := HT1.out.keep S1.out.bl hkB1
  simp only [Nat.zero_mul, Nat.add_zero, List.getElem_cons_zero] at y0 y1 y2 y3 y4
  clear cS x0 x1 x2 x3 x4
  go_wp2_with fail
  refine (HI1.out _ _ S1.out.bl S1.out.ib hlenA).mono ?_
  rintro e w2 ⟨rfl, h4, h5, h6⟩
  have S2 := hideK (S1.out.step hb h4 h5 h6)
  clear y0 y1 y2 y3 y4 z0 z1 z2 z3 z4
  go_wp2_with fail
  refine (writeStringK B b _ ⟨#[125, 46]⟩ _ S2.out.ib hlenM (Nat.le_trans hB S2.out.bl.size)).mono ?_
  rintro e w3 ⟨rfl, h7, h8, h9⟩
  have S3 := hideK (S2.out.step hb h7 h8 h9)
  obtain ⟨z0, z1, z2, z3, z4⟩ := S3.out.cells
  obtain ⟨y0, y1, y2, y3, y4⟩ := HT2.out.keep S3.out.bl hkB2
  simp only [Nat.one_mul, List.getElem_cons_succ, List.getElem_cons_zero] at y0 y1 y2 y3 y4
  go_wp2_with fail
  refine (HI2.out _ _ S3.out.bl S3.out.ib hlenC).mono ?_
  rintro e w4 ⟨rfl, h10, h11, h12⟩
  go_wp2_with fail
  first | go_end0 | go_ret
  rw [← HX.out]
  exact ⟨rfl, h10, S3.out.bl.trans h11, S3.out.ok.trans h12⟩
set_option maxRecDepth 100000 in
set_option maxHeartbeats 4000000 in
theorem write_give5 (d : Nat) (ih : ∀ d', d' < d → WTSaid d') (a c : Ty) (hwa : wfT a) (hwc : wfT c) (al : Option Addr) (cl : Nat) (ak : Option Addr) (ck B b : Nat) (l : List UInt8) (w : World) (hkt : KT w B d [a, c] ak)
    (hi : Lib.IsBuilderF 45 5 B b (Lib.byteCells l) w) (hl : l.length + (wrT ⟨5, 0, ⟨#[]⟩, [], [a, c]⟩).length ≤ 1000000) (hB : B ≤ w.heap.size) :
    Calls Tryd.prog 13 #[.pointer (some ⟨b, 0, none⟩), tyVal ⟨5, 0, ⟨#[]⟩, [], [a, c]⟩ al cl ak ck] w fun e w' => e = .returned (.tuple #[]) ∧ Lib.IsBuilderF 45 5 B b (Lib.byteCells (l ++ wrT ⟨5, 0, ⟨#[]⟩, [], [a, c]⟩)) w' ∧ Below B w w' ∧ Lib.OthersKept 5 (some b) w w' := by
  have hb := ibLt hi
  have S0 := hideK (WS.new ⟨5, 0, ⟨#[]⟩, [], [a, c]⟩ al cl ak ck hi hB)
  generalize hG : wrT ⟨5, 0, ⟨#[]⟩, [], [a, c]⟩ = G at hl ⊢
  rw [wt_give _ a c (by simp) rfl] at hG
  replace hG : [63] ++ [123] ++ wrT a ++ [125, 46] ++ wrT c = G := hG
  have hlG : G.length = 4 + (wrT a).length + (wrT c).length := by rw [← hG]; simp only [List.length_append, List.length_cons, List.length_nil]; omega
  have cG : ∀ w1 : World, Calls Tryd.prog 28 #[.int .i64 5] w1 fun e w' => e = .returned (.string ⟨#[63]⟩) ∧ w' = w1 := fun w1 => sign_any 5 w1
  have cS := writeStringK B b l ⟨#[63, 123]⟩ _ S0.out.ib (by show l.length + 2 ≤ _; omega) (by simp; omega)
  have HX : Hid (l ++ (⟨#[63, 123]⟩ : ByteArray).data.toList ++ wrT a ++ (⟨#[125, 46]⟩ : ByteArray).data.toList ++ wrT c = l ++ G) := by
    show l ++ [63, 123] ++ wrT a ++ [125, 46] ++ wrT c = _
    rw [← hG]; simp only [List.append_assoc]; rfl
  obtain ⟨d1, kb1, ko1, al1, cl1, ak1, ck1, hd1, ek1, hkB1, hta1, htb1, hla1, hka1⟩ := kid_at hkt 0 (by simp)
  obtain ⟨d2, kb2, ko2, al2, cl2, ak2, ck2, hd2, ek2, hkB2, hta2, htb2, hla2, hka2⟩ := kid_at hkt 1 (by simp)
  rw [ek1] at ek2
  injection ek2 with ek2
  injection ek2 with ekb eko _
  subst ekb eko
  obtain ⟨x0, x1, x2, x3, x4⟩ := S0.out.cells
  have hlenA : (l ++ (⟨#[63, 123]⟩ : ByteArray).data.toList).length + (wrT a).length ≤ 1000000 := by
    simp only [List.length_append]; show l.length + 2 + (wrT a).length ≤ _; omega
  have hlenC : (l ++ (⟨#[63, 123]⟩ : ByteArray).data.toList ++ wrT a ++ (⟨#[125, 46]⟩ : ByteArray).data.toList).length + (wrT c).length ≤ 1000000 := by
    simp only [List.length_append]; show l.length + 2 + (wrT a).length + 2 + (wrT c).length ≤ _; omega
  have hlenM : (l ++ (⟨#[63, 123]⟩ : ByteArray).data.toList ++ wrT a).length + (⟨#[125, 46]⟩ : ByteArray).size ≤ 140737488355328 := by
    simp only [List.length_append]; show l.length + 2 + (wrT a).length + 2 ≤ _; omega
  have HI1 := hideK (fun (l' : List UInt8) (W : World) (hbl : Below B w W) (h1 : Lib.IsBuilderF 45 5 B b (Lib.byteCells l') W) (h2 : l'.length + (wrT a).length ≤ 1000000) => ih d1 hd1 a al1 cl1 ak1 ck1 B b l' W hwa htb1 (NAt.keep hbl hla1) (KT.keep hbl hka1) h1 h2 (Nat.le_trans hB hbl.size))
  have HT1 := hideK hta1
  have HI2 := hideK (fun (l' : List UInt8) (W : World) (hbl : Below B w W) (h1 : Lib.IsBuilderF 45 5 B b (Lib.byteCells l') W) (h2 : l'.length + (wrT c).length ≤ 1000000) => ih d2 hd2 c al2 cl2 ak2 ck2 B b l' W hwc htb2 (NAt.keep hbl hla2) (KT.keep hbl hka2) h1 h2 (Nat.le_trans hB hbl.size))
  have HT2 := hideK hta2
  subst ek1
  simp only [tyVal] at HI1 HI2 cS ⊢
  clear hta1 hla1 hka1 hta2 hla2 hka2 hkt hi ih hG hlG
  go_enter Tryd.func13, Tryd.ntmps13
  go_wp2_with fail
  refine (cG _).mono ?_
  rintro e w0 ⟨rfl, rfl⟩
  go_wp2_with fail
  refine cS.mono ?_
  rintro e w1 ⟨rfl, h1, h2, h3⟩
  have S1 := hideK (S0.out.step hb h1 h2 h3)
  obtain ⟨z0, z1, z2, z3, z4⟩ := S1.out.cells
  obtain ⟨y0, y1, y2, y3, y4⟩ := HT1.out.keep S1.out.bl hkB1
  simp only [Nat.zero_mul, Nat.add_zero, List.getElem_cons_zero] at y0 y1 y2 y3 y4
  clear cS x0 x1 x2 x3 x4
  go_wp2_with fail
  refine (HI1.out _ _ S1.out.bl S1.out.ib hlenA).mono ?_
  rintro e w2 ⟨rfl, h4, h5, h6⟩
  have S2 := hideK (S1.out.step hb h4 h5 h6)
  clear y0 y1 y2 y3 y4 z0 z1 z2 z3 z4
  go_wp2_with fail
  refine (writeStringK B b _ ⟨#[125, 46]⟩ _ S2.out.ib hlenM (Nat.le_trans hB S2.out.bl.size)).mono ?_
  rintro e w3 ⟨rfl, h7, h8, h9⟩
  have S3 := hideK (S2.out.step hb h7 h8 h9)
  obtain ⟨z0, z1, z2, z3, z4⟩ := S3.out.cells
  obtain ⟨y0, y1, y2, y3, y4⟩ := HT2.out.keep S3.out.bl hkB2
  simp only [Nat.one_mul, List.getElem_cons_succ, List.getElem_cons_zero] at y0 y1 y2 y3 y4
  go_wp2_with fail
  refine (HI2.out _ _ S3.out.bl S3.out.ib hlenC).mono ?_
  rintro e w4 ⟨rfl, h10, h11, h12⟩
  go_wp2_with fail
  first | go_end0 | go_ret
  rw [← HX.out]
  exact ⟨rfl, h10, S3.out.bl.trans h11, S3.out.ok.trans h12⟩
theorem WS.drew {w : World} {B b : Nat} {l : List UInt8} {t : Ty} {al : Option Addr} {cl : Nat} {ak : Option Addr} {ck : Nat} {W : World} (h : WS w B b l t al cl ak ck W) : WS w B b l t al cl ak ck W.drew := ⟨h.ib, h.bx, h.bl.drew, h.ok.drew⟩
set_option maxRecDepth 100000 in
set_option maxHeartbeats 4000000 in
theorem write_msg2 (d : Nat) (ih : ∀ d', d' < d → WTSaid d') (so : Int) (a : Ty) (hwa : wfT a) (al : Option Addr) (cl : Nat) (ak : Option Addr) (ck B b : Nat) (l : List UInt8) (w : World) (hkt : KT w B d [a] ak)
    (hi : Lib.IsBuilderF 45 5 B b (Lib.byteCells l) w) (hl : l.length + (wrT ⟨2, so, ⟨#[]⟩, [], [a]⟩).length ≤ 1000000) (hB : B ≤ w.heap.size) :
    Calls Tryd.prog 13 #[.pointer (some ⟨b, 0, none⟩), tyVal ⟨2, so, ⟨#[]⟩, [], [a]⟩ al cl ak ck] w fun e w' => e = .returned (.tuple #[]) ∧ Lib.IsBuilderF 45 5 B b (Lib.byteCells (l ++ wrT ⟨2, so, ⟨#[]⟩, [], [a]⟩)) w' ∧ Below B w w' ∧ Lib.OthersKept 5 (some b) w w' := by
  have hb := ibLt hi
  have S0 := hideK (WS.new ⟨2, so, ⟨#[]⟩, [], [a]⟩ al cl ak ck hi hB)
  generalize hG : wrT ⟨2, so, ⟨#[]⟩, [], [a]⟩ = G at hl ⊢
  rw [wt_msg _ a (by simp) rfl] at hG
  replace hG : [33] ++ (swB so).data.toList ++ [46] ++ wrT a = G := hG
  have h4 := sw_len so
  have hsw : (swB so).size ≤ 4 := by rw [ba_len]; exact h4
  have hlG : G.length = 2 + (swB so).data.toList.length + (wrT a).length := by rw [← hG]; simp only [List.length_append, List.length_cons, List.length_nil]; omega
  have cG : ∀ w1 : World, Calls Tryd.prog 28 #[.int .i64 2] w1 fun e w' => e = .returned (.string ⟨#[33]⟩) ∧ w' = w1 := fun w1 => sign_any 2 w1
  have cW := sortWord_any so
  have SD := hideK S0.out.drew
  have cS := writeStringK B b l (⟨#[33]⟩ ++ swB so ++ ⟨#[46]⟩ : ByteArray) _ SD.out.ib (by rw [size3]; have e4 : (⟨#[33]⟩ : ByteArray).size = 1 := rfl; have e1 : (⟨#[46]⟩ : ByteArray).size = 1 := rfl; omega) (by show B ≤ (w.alloc _).heap.size; simp; omega)
  have HX : Hid (l ++ (⟨#[33]⟩ ++ swB so ++ ⟨#[46]⟩ : ByteArray).data.toList ++ wrT a = l ++ G) := by
    show _ = _
    rw [← hG, ba_app, ba_app]; simp only [List.append_assoc]
  obtain ⟨d1, kb1, ko1, al1, cl1, ak1, ck1, hd1, ek1, hkB1, hta1, htb1, hla1, hka1⟩ := kid_at hkt 0 (by simp)
  obtain ⟨x0, x1, x2, x3, x4⟩ := S0.out.cells
  have hlen2 : (l ++ (⟨#[33]⟩ ++ swB so ++ ⟨#[46]⟩ : ByteArray).data.toList).length + (wrT a).length ≤ 1000000 := by
    rw [ba_app, ba_app]; simp only [List.length_append]; show l.length + (1 + (swB so).data.toList.length + 1) + (wrT a).length ≤ _; omega
  have HI1 := hideK (fun (l' : List UInt8) (W : World) (hbl : Below B w W) (h1 : Lib.IsBuilderF 45 5 B b (Lib.byteCells l') W) (h2 : l'.length + (wrT a).length ≤ 1000000) => ih d1 hd1 a al1 cl1 ak1 ck1 B b l' W hwa htb1 (NAt.keep hbl hla1) (KT.keep hbl hka1) h1 h2 (Nat.le_trans hB hbl.size))
  have HT1 := hideK hta1
  subst ek1
  simp only [tyVal] at cS HI1 ⊢
  have s1 : ¬ (9223372036854775807 < 1 + (swB so).size) := by omega
  have s2 : ¬ (9223372036854775807 < 1 + (swB so).size + 1) := by omega
  have CW := hideK cW
  have CG := hideK cG
  clear hta1 hla1 hka1 hkt hi h4 ih hG hlG cW cG
  generalize swB so = sw at *
  go_enter Tryd.func13, Tryd.ntmps13
  go_wp2_with fail
  go_region_held3 (fun w' => w'.cell? ⟨w.heap.size, 0, none⟩ = some (.int .i64 2) ∧ w'.cell? ⟨w.heap.size, 1, none⟩ = some (.int .i64 so)) (go_keep) (first
    | (go_at_call 28; go_must (refine (CG.out _).mono ?_; rintro e w0 ⟨rfl, rfl⟩))
    | (go_at_call 29; go_must (refine (CW.out _).mono ?_; rintro e w0 ⟨rfl, rfl⟩))
    | (go_at_call 24; go_must (refine cS.mono ?_; rintro e w1 ⟨rfl, h1, h2, h3⟩; have S1 := hideK (SD.out.step hb h1 h2 h3); obtain ⟨z0, z1, z2, z3, z4⟩ := S1.out.cells; obtain ⟨y0, y1, y2, y3, y4⟩ := HT1.out.keep S1.out.bl hkB1; simp only [Nat.zero_mul, Nat.add_zero, List.getElem_cons_zero] at y0 y1 y2 y3 y4)))
  all_goals
    clear x0 x1 x2 x3 x4
    go_wp2_with fail
    refine (HI1.out _ _ S1.out.bl S1.out.ib hlen2).mono ?_
    rintro e w2 ⟨rfl, h4, h5, h6⟩
    go_wp2_with fail
    first | go_end0 | go_ret
    rw [← HX.out]
    exact ⟨rfl, h4, S1.out.bl.trans h5, S1.out.ok.trans h6⟩
set_option maxRecDepth 100000 in
set_option maxHeartbeats 4000000 in
theorem write_msg3 (d : Nat) (ih : ∀ d', d' < d → WTSaid d') (so : Int) (a : Ty) (hwa : wfT a) (al : Option Addr) (cl : Nat) (ak : Option Addr) (ck B b : Nat) (l : List UInt8) (w : World) (hkt : KT w B d [a] ak)
    (hi : Lib.IsBuilderF 45 5 B b (Lib.byteCells l) w) (hl : l.length + (wrT ⟨3, so, ⟨#[]⟩, [], [a]⟩).length ≤ 1000000) (hB : B ≤ w.heap.size) :
    Calls Tryd.prog 13 #[.pointer (some ⟨b, 0, none⟩), tyVal ⟨3, so, ⟨#[]⟩, [], [a]⟩ al cl ak ck] w fun e w' => e = .returned (.tuple #[]) ∧ Lib.IsBuilderF 45 5 B b (Lib.byteCells (l ++ wrT ⟨3, so, ⟨#[]⟩, [], [a]⟩)) w' ∧ Below B w w' ∧ Lib.OthersKept 5 (some b) w w' := by
  have hb := ibLt hi
  have S0 := hideK (WS.new ⟨3, so, ⟨#[]⟩, [], [a]⟩ al cl ak ck hi hB)
  generalize hG : wrT ⟨3, so, ⟨#[]⟩, [], [a]⟩ = G at hl ⊢
  rw [wt_msg _ a (by simp) rfl] at hG
  replace hG : [63] ++ (swB so).data.toList ++ [46] ++ wrT a = G := hG
  have h4 := sw_len so
  have hsw : (swB so).size ≤ 4 := by rw [ba_len]; exact h4
  have hlG : G.length = 2 + (swB so).data.toList.length + (wrT a).length := by rw [← hG]; simp only [List.length_append, List.length_cons, List.length_nil]; omega
  have cG : ∀ w1 : World, Calls Tryd.prog 28 #[.int .i64 3] w1 fun e w' => e = .returned (.string ⟨#[63]⟩) ∧ w' = w1 := fun w1 => sign_any 3 w1
  have cW := sortWord_any so
  have SD := hideK S0.out.drew
  have cS := writeStringK B b l (⟨#[63]⟩ ++ swB so ++ ⟨#[46]⟩ : ByteArray) _ SD.out.ib (by rw [size3]; have e4 : (⟨#[63]⟩ : ByteArray).size = 1 := rfl; have e1 : (⟨#[46]⟩ : ByteArray).size = 1 := rfl; omega) (by show B ≤ (w.alloc _).heap.size; simp; omega)
  have HX : Hid (l ++ (⟨#[63]⟩ ++ swB so ++ ⟨#[46]⟩ : ByteArray).data.toList ++ wrT a = l ++ G) := by
    show _ = _
    rw [← hG, ba_app, ba_app]; simp only [List.append_assoc]
  obtain ⟨d1, kb1, ko1, al1, cl1, ak1, ck1, hd1, ek1, hkB1, hta1, htb1, hla1, hka1⟩ := kid_at hkt 0 (by simp)
  obtain ⟨x0, x1, x2, x3, x4⟩ := S0.out.cells
  have hlen2 : (l ++ (⟨#[63]⟩ ++ swB so ++ ⟨#[46]⟩ : ByteArray).data.toList).length + (wrT a).length ≤ 1000000 := by
    rw [ba_app, ba_app]; simp only [List.length_append]; show l.length + (1 + (swB so).data.toList.length + 1) + (wrT a).length ≤ _; omega
  have HI1 := hideK (fun (l' : List UInt8) (W : World) (hbl : Below B w W) (h1 : Lib.IsBuilderF 45 5 B b (Lib.byteCells l') W) (h2 : l'.length + (wrT a).length ≤ 1000000) => ih d1 hd1 a al1 cl1 ak1 ck1 B b l' W hwa htb1 (NAt.keep hbl hla1) (KT.keep hbl hka1) h1 h2 (Nat.le_trans hB hbl.size))
  have HT1 := hideK hta1
  subst ek1
  simp only [tyVal] at cS HI1 ⊢
  have s1 : ¬ (9223372036854775807 < 1 + (swB so).size) := by omega
  have s2 : ¬ (9223372036854775807 < 1 + (swB so).size + 1) := by omega
  have CW := hideK cW
  have CG := hideK cG
  clear hta1 hla1 hka1 hkt hi h4 ih hG hlG cW cG
  generalize swB so = sw at *
  go_enter Tryd.func13, Tryd.ntmps13
  go_wp2_with fail
  go_region_held3 (fun w' => w'.cell? ⟨w.heap.size, 0, none⟩ = some (.int .i64 3) ∧ w'.cell? ⟨w.heap.size, 1, none⟩ = some (.int .i64 so)) (go_keep) (first
    | (go_at_call 28; go_must (refine (CG.out _).mono ?_; rintro e w0 ⟨rfl, rfl⟩))
    | (go_at_call 29; go_must (refine (CW.out _).mono ?_; rintro e w0 ⟨rfl, rfl⟩))
    | (go_at_call 24; go_must (refine cS.mono ?_; rintro e w1 ⟨rfl, h1, h2, h3⟩; have S1 := hideK (SD.out.step hb h1 h2 h3); obtain ⟨z0, z1, z2, z3, z4⟩ := S1.out.cells; obtain ⟨y0, y1, y2, y3, y4⟩ := HT1.out.keep S1.out.bl hkB1; simp only [Nat.zero_mul, Nat.add_zero, List.getElem_cons_zero] at y0 y1 y2 y3 y4)))
  all_goals
    clear x0 x1 x2 x3 x4
    go_wp2_with fail
    refine (HI1.out _ _ S1.out.bl S1.out.ib hlen2).mono ?_
    rintro e w2 ⟨rfl, h4, h5, h6⟩
    go_wp2_with fail
    first | go_end0 | go_ret
    rw [← HX.out]
    exact ⟨rfl, h4, S1.out.bl.trans h5, S1.out.ok.trans h6⟩
end Go.Proofs.YthamkbahiidenaaDoor
/-
  The contracts of types.writeChoice, types.write and types.Write, for every type.
-/
namespace Go.Proofs.YthamkbahiidenaaDoor
open Go.RowKit Go.Shelf

theorem cho_split (a b : List (ByteArray × List UInt8)) : ∀ pre, choL pre (a ++ b) = choL pre a ++ choL (if a = [] then pre else [44]) b := by
  induction a with
  | nil => intro pre; simp [choL]
  | cons p a ih =>
    intro pre
    rw [List.cons_append, choL, ih, choL]
    by_cases h : a = []
    · subst h; simp [choL]
    · simp [h]
theorem cho_take (pre : List UInt8) (ps : List (ByteArray × List UInt8)) (i : Nat) : (choL pre (ps.take i)).length ≤ (choL pre ps).length := by
  have := cho_split (ps.take i) (ps.drop i) pre
  rw [List.take_append_drop] at this
  rw [this, List.length_append]
  omega
/-- one label more -/
theorem cho_next (pre : List UInt8) (ls : List ByteArray) (ts : List (List UInt8)) (h : ts.length = ls.length) (i : Nat) (hi : i < ls.length) :
    choL pre ((ls.zip ts).take (i + 1)) = choL pre ((ls.zip ts).take i) ++ (if i = 0 then pre else [44]) ++ ls[i].data.toList ++ [58] ++ ts[i] := by
  have hz : i < (ls.zip ts).length := by rw [List.length_zip]; omega
  rw [List.take_succ_eq_append_getElem hz, cho_append]
  have e : (ls.zip ts).take i = [] ↔ i = 0 := by
    constructor
    · intro e
      have := congrArg List.length e
      rw [List.length_take] at this
      simp only [List.length_nil] at this
      omega
    · rintro rfl; rfl
  by_cases h0 : i = 0
  · rw [if_pos (e.2 h0), if_pos h0, List.getElem_zip]
  · rw [if_neg (fun q => h0 (e.1 q)), if_neg h0, List.getElem_zip]
set_option maxRecDepth 100000 in
set_option maxHeartbeats 4000000 in
theorem writeChoice6 (d : Nat) (ih : ∀ d', d' < d → WTSaid d') (ls : List ByteArray) (ks : List Ty) (hls : labsOK ls = true) (hkl : ks.length = ls.length) (hwk : ∀ x ∈ ks, wfT x) (al : Option Addr) (cl : Nat) (ak : Option Addr) (ck B b : Nat) (l : List UInt8) (w : World) (hla : LA w B ls al) (hkt : KT w B d ks ak)
    (hi : Lib.IsBuilderF 45 5 B b (Lib.byteCells l) w) (hl : l.length + (wrT ⟨6, 0, ⟨#[]⟩, ls, ks⟩).length ≤ 1000000) (hB : B ≤ w.heap.size) :
    Calls Tryd.prog 30 #[.pointer (some ⟨b, 0, none⟩), tyVal ⟨6, 0, ⟨#[]⟩, ls, ks⟩ al cl ak ck] w fun e w' => e = .returned (.tuple #[]) ∧ Lib.IsBuilderF 45 5 B b (Lib.byteCells (l ++ wrT ⟨6, 0, ⟨#[]⟩, ls, ks⟩)) w' ∧ Below B w w' ∧ Lib.OthersKept 5 (some b) w w' := by
  have hb := ibLt hi
  have S0 := hideK (WS.new ⟨6, 0, ⟨#[]⟩, ls, ks⟩ al cl ak ck hi hB)
  obtain ⟨h6, h8⟩ := labs_len _ hls
  have hG : wrT ⟨6, 0, ⟨#[]⟩, ls, ks⟩ = choL [43, 123] (ls.zip (ks.map wrT)) ++ [125] := by rw [wt_cho _ (by simp)]; rfl
  generalize wrT ⟨6, 0, ⟨#[]⟩, ls, ks⟩ = G at hG hl ⊢
  have hlG : G.length = (choL [43, 123] (ls.zip (ks.map wrT))).length + 1 := by rw [hG, List.length_append]; rfl
  have cG : ∀ w1 : World, Calls Tryd.prog 28 #[.int .i64 6] w1 fun e w' => e = .returned (.string ⟨#[43]⟩) ∧ w' = w1 := fun w1 => sign_any 6 w1
  have hl6 : (ls.length : Int) ≤ 6 := by omega
  have HKL := hideK hkl
  have HLA := hideK hla
  have HKT := hideK hkt
  have H8 := hideK h8
  have HG := hideK hG
  have HLG := hideK hlG
  have HIH := hideK ih
  have HWK := hideK hwk
  obtain ⟨x0, x1, x2, x3, x4⟩ := S0.out.cells
  simp only [tyVal]
  simp only at x0 x1 x2 x3 x4
  clear hla hkt hi h8 hG hlG hls ih hwk hkl
  go_enter Tryd.func30, Tryd.ntmps30
  go_wp2_with fail
  refine (cG _).mono ?_
  rintro e w0 ⟨rfl, rfl⟩
  go_wp2_with fail
  go_loopw [4, 14] (fun v4 v14 wr => ∃ (i : Nat) (bt : ByteArray), i ≤ ls.length ∧ v14 = .int .i64 (i : Int) ∧ v4 = .string bt ∧ bt.size ≤ 2 ∧ bt.data.toList = (if i = 0 then [43, 123] else [44]) ∧ WS w B b (l ++ choL [43, 123] ((ls.zip (ks.map wrT)).take i)) ⟨6, 0, ⟨#[]⟩, ls, ks⟩ al cl ak ck wr) (fun _ v14 _ => ls.length - (intOf v14).toNat)
  case atStart => exact ⟨0, _, Nat.zero_le _, rfl, rfl, Nat.le_refl _, rfl, by simpa [choL] using S0.out⟩
  case round =>
    obtain ⟨i, bt, hil, rfl, rfl, hbt2, hbt, hS⟩ := hrel
    have HS := hideK hS
    have HBT := hideK hbt
    obtain ⟨z0, z1, z2, z3, z4⟩ := hS.cells
    simp only at z0 z1 z2 z3 z4
    clear hS hbt x0 x1 x2 x3 x4
    by_cases hlt : i < ls.length
    · have hltz : (i : Int) < (ls.length : Int) := by omega
      have hi0 : (0 : Int) ≤ (i : Int) := by omega
      have hik : i < ks.length := by have := HKL.out; omega
      have hikz : (i : Int) < (ks.length : Int) := by omega
      rcases id HLA.out with e | ⟨lb, lo, rfl, hlb, hlc⟩
      · simp at e; subst e; simp at hlt
      have q := (HS.out.bl.cell (p := ⟨lb, lo + i, none⟩) hlb).trans (hlc i (by simpa using hlt))
      simp only [List.getElem_map] at q
      have hlab := H8.out ls[i] (List.getElem_mem hlt)
      have hlz : ls[i].size ≤ 8 := by rw [ba_len]; exact hlab
      obtain ⟨d', kb, ko, al', cl', ak', ck', hd, rfl, hkB, hta, htb, hla', hka'⟩ := kid_at HKT.out i hik
      have hN := cho_next [43, 123] ls (ks.map wrT) (by simpa using HKL.out) i hlt
      have hT := cho_take [43, 123] (ls.zip (ks.map wrT)) (i + 1)
      rw [List.getElem_map] at hN
      have hN2 : l ++ choL [43, 123] ((ls.zip (ks.map wrT)).take i) ++ (bt ++ ls[i] ++ ⟨#[58]⟩ : ByteArray).data.toList ++ wrT (ks[i]'hik) = l ++ choL [43, 123] ((ls.zip (ks.map wrT)).take (i + 1)) := by
        rw [hN, ba_app, ba_app, HBT.out]; simp only [List.append_assoc]
      have hlenN := congrArg List.length hN2
      simp only [List.length_append] at hlenN
      have hgl := HLG.out
      have cS := writeStringK B b _ (bt ++ ls[i] ++ ⟨#[58]⟩) _ HS.out.ib (by rw [size3]; have e1 : (⟨#[58]⟩ : ByteArray).size = 1 := rfl; simp only [List.length_append]; omega) (Nat.le_trans hB HS.out.bl.size)
      have HI1 := hideK (fun (l' : List UInt8) (W : World) (hbl : Below B w W) (h1 : Lib.IsBuilderF 45 5 B b (Lib.byteCells l') W) (h2 : l'.length + (wrT (ks[i]'hik)).length ≤ 1000000) => HIH.out d' hd (ks[i]'hik) al' cl' ak' ck' B b l' W (HWK.out _ (List.getElem_mem _)) htb (NAt.keep hbl hla') (KT.keep hbl hka') h1 h2 (Nat.le_trans hB hbl.size))
      have hlen2 : (l ++ choL [43, 123] ((ls.zip (ks.map wrT)).take i) ++ (bt ++ ls[i] ++ ⟨#[58]⟩ : ByteArray).data.toList).length + (wrT (ks[i]'hik)).length ≤ 1000000 := by
        simp only [List.length_append]; omega
      have HT := hideK hta
      have HN2 := hideK hN2
      have HL2 := hideK hlen2
      simp only [tyVal] at HI1
      clear hN hT hN2 hlenN hlen2 hgl hta hla' hka' htb hlc
      generalize ls[i] = lab at *
      generalize ks[i]'hik = kid at *
      go_wp2_with fail
      refine cS.mono ?_
      rintro e w1 ⟨rfl, h1, h2, h3⟩
      have S1 := hideK (HS.out.step hb h1 h2 h3)
      obtain ⟨u0, u1, u2, u3, u4⟩ := S1.out.cells
      simp only at u0 u1 u2 u3 u4
      obtain ⟨y0, y1, y2, y3, y4⟩ := HT.out.keep S1.out.bl hkB
      clear cS z0 z1 z2 z3 z4 q
      go_wp2_with fail
      refine (HI1.out _ _ S1.out.bl S1.out.ib HL2.out).mono ?_
      rintro e w2 ⟨rfl, h4, h5, h6⟩
      have S2 := hideK (S1.out.step hb h4 h5 h6)
      go_wp2_with fail
      go_roundw
      case rel => exact ⟨i + 1, ⟨#[44]⟩, by omega, by go_num, rfl, by decide, by rw [if_neg (by omega)], by rw [← HN2.out]; exact S2.out⟩
      case measure => simp [intOf]; omega
    · have hltz : ¬ (i : Int) < (ls.length : Int) := by omega
      have hF : (ls.zip (ks.map wrT)).take i = ls.zip (ks.map wrT) := List.take_of_length_le (by rw [List.length_zip]; omega)
      have hgl := HLG.out
      have hz := HS.out
      rw [hF] at hz
      have HZ := hideK hz
      have cS := writeStringK B b _ ⟨#[125]⟩ _ hz.ib (by have e1 : (⟨#[125]⟩ : ByteArray).size = 1 := rfl; simp only [List.length_append]; omega) (Nat.le_trans hB hz.bl.size)
      clear hz hF hgl
      go_wp2_with fail
      refine cS.mono ?_
      rintro e w1 ⟨rfl, h1, h2, h3⟩
      have S1 := hideK (HZ.out.step hb h1 h2 h3)
      go_wp2_with fail
      first | go_end0 | go_ret
      refine ⟨rfl, ?_, S1.out.bl, S1.out.ok⟩
      rw [HG.out, ← List.append_assoc]
      exact S1.out.ib
set_option maxRecDepth 100000 in
set_option maxHeartbeats 4000000 in
theorem writeChoice7 (d : Nat) (ih : ∀ d', d' < d → WTSaid d') (ls : List ByteArray) (ks : List Ty) (hls : labsOK ls = true) (hkl : ks.length = ls.length) (hwk : ∀ x ∈ ks, wfT x) (al : Option Addr) (cl : Nat) (ak : Option Addr) (ck B b : Nat) (l : List UInt8) (w : World) (hla : LA w B ls al) (hkt : KT w B d ks ak)
    (hi : Lib.IsBuilderF 45 5 B b (Lib.byteCells l) w) (hl : l.length + (wrT ⟨7, 0, ⟨#[]⟩, ls, ks⟩).length ≤ 1000000) (hB : B ≤ w.heap.size) :
    Calls Tryd.prog 30 #[.pointer (some ⟨b, 0, none⟩), tyVal ⟨7, 0, ⟨#[]⟩, ls, ks⟩ al cl ak ck] w fun e w' => e = .returned (.tuple #[]) ∧ Lib.IsBuilderF 45 5 B b (Lib.byteCells (l ++ wrT ⟨7, 0, ⟨#[]⟩, ls, ks⟩)) w' ∧ Below B w w' ∧ Lib.OthersKept 5 (some b) w w' := by
  have hb := ibLt hi
  have S0 := hideK (WS.new ⟨7, 0, ⟨#[]⟩, ls, ks⟩ al cl ak ck hi hB)
  obtain ⟨h6, h8⟩ := labs_len _ hls
  have hG : wrT ⟨7, 0, ⟨#[]⟩, ls, ks⟩ = choL [38, 123] (ls.zip (ks.map wrT)) ++ [125] := by rw [wt_cho _ (by simp)]; rfl
  generalize wrT ⟨7, 0, ⟨#[]⟩, ls, ks⟩ = G at hG hl ⊢
  have hlG : G.length = (choL [38, 123] (ls.zip (ks.map wrT))).length + 1 := by rw [hG, List.length_append]; rfl
  have cG : ∀ w1 : World, Calls Tryd.prog 28 #[.int .i64 7] w1 fun e w' => e = .returned (.string ⟨#[38]⟩) ∧ w' = w1 := fun w1 => sign_any 7 w1
  have hl6 : (ls.length : Int) ≤ 6 := by omega
  have HKL := hideK hkl
  have HLA := hideK hla
  have HKT := hideK hkt
  have H8 := hideK h8
  have HG := hideK hG
  have HLG := hideK hlG
  have HIH := hideK ih
  have HWK := hideK hwk
  obtain ⟨x0, x1, x2, x3, x4⟩ := S0.out.cells
  simp only [tyVal]
  simp only at x0 x1 x2 x3 x4
  clear hla hkt hi h8 hG hlG hls ih hwk hkl
  go_enter Tryd.func30, Tryd.ntmps30
  go_wp2_with fail
  refine (cG _).mono ?_
  rintro e w0 ⟨rfl, rfl⟩
  go_wp2_with fail
  go_loopw [4, 14] (fun v4 v14 wr => ∃ (i : Nat) (bt : ByteArray), i ≤ ls.length ∧ v14 = .int .i64 (i : Int) ∧ v4 = .string bt ∧ bt.size ≤ 2 ∧ bt.data.toList = (if i = 0 then [38, 123] else [44]) ∧ WS w B b (l ++ choL [38, 123] ((ls.zip (ks.map wrT)).take i)) ⟨7, 0, ⟨#[]⟩, ls, ks⟩ al cl ak ck wr) (fun _ v14 _ => ls.length - (intOf v14).toNat)
  case atStart => exact ⟨0, _, Nat.zero_le _, rfl, rfl, Nat.le_refl _, rfl, by simpa [choL] using S0.out⟩
  case round =>
    obtain ⟨i, bt, hil, rfl, rfl, hbt2, hbt, hS⟩ := hrel
    have HS := hideK hS
    have HBT := hideK hbt
    obtain ⟨z0, z1, z2, z3, z4⟩ := hS.cells
    simp only at z0 z1 z2 z3 z4
    clear hS hbt x0 x1 x2 x3 x4
    by_cases hlt : i < ls.length
    · have hltz : (i : Int) < (ls.length : Int) := by omega
      have hi0 : (0 : Int) ≤ (i : Int) := by omega
      have hik : i < ks.length := by have := HKL.out; omega
      have hikz : (i : Int) < (ks.length : Int) := by omega
      rcases id HLA.out with e | ⟨lb, lo, rfl, hlb, hlc⟩
      · simp at e; subst e; simp at hlt
      have q := (HS.out.bl.cell (p := ⟨lb, lo + i, none⟩) hlb).trans (hlc i (by simpa using hlt))
      simp only [List.getElem_map] at q
      have hlab := H8.out ls[i] (List.getElem_mem hlt)
      have hlz : ls[i].size ≤ 8 := by rw [ba_len]; exact hlab
      obtain ⟨d', kb, ko, al', cl', ak', ck', hd, rfl, hkB, hta, htb, hla', hka'⟩ := kid_at HKT.out i hik
      have hN := cho_next [38, 123] ls (ks.map wrT) (by simpa using HKL.out) i hlt
      have hT := cho_take [38, 123] (ls.zip (ks.map wrT)) (i + 1)
      rw [List.getElem_map] at hN
      have hN2 : l ++ choL [38, 123] ((ls.zip (ks.map wrT)).take i) ++ (bt ++ ls[i] ++ ⟨#[58]⟩ : ByteArray).data.toList ++ wrT (ks[i]'hik) = l ++ choL [38, 123] ((ls.zip (ks.map wrT)).take (i + 1)) := by
        rw [hN, ba_app, ba_app, HBT.out]; simp only [List.append_assoc]
      have hlenN := congrArg List.length hN2
      simp only [List.length_append] at hlenN
      have hgl := HLG.out
      have cS := writeStringK B b _ (bt ++ ls[i] ++ ⟨#[58]⟩) _ HS.out.ib (by rw [size3]; have e1 : (⟨#[58]⟩ : ByteArray).size = 1 := rfl; simp only [List.length_append]; omega) (Nat.le_trans hB HS.out.bl.size)
      have HI1 := hideK (fun (l' : List UInt8) (W : World) (hbl : Below B w W) (h1 : Lib.IsBuilderF 45 5 B b (Lib.byteCells l') W) (h2 : l'.length + (wrT (ks[i]'hik)).length ≤ 1000000) => HIH.out d' hd (ks[i]'hik) al' cl' ak' ck' B b l' W (HWK.out _ (List.getElem_mem _)) htb (NAt.keep hbl hla') (KT.keep hbl hka') h1 h2 (Nat.le_trans hB hbl.size))
      have hlen2 : (l ++ choL [38, 123] ((ls.zip (ks.map wrT)).take i) ++ (bt ++ ls[i] ++ ⟨#[58]⟩ : ByteArray).data.toList).length + (wrT (ks[i]'hik)).length ≤ 1000000 := by
        simp only [List.length_append]; omega
      have HT := hideK hta
      have HN2 := hideK hN2
      have HL2 := hideK hlen2
      simp only [tyVal] at HI1
      clear hN hT hN2 hlenN hlen2 hgl hta hla' hka' htb hlc
      generalize ls[i] = lab at *
      generalize ks[i]'hik = kid at *
      go_wp2_with fail
      refine cS.mono ?_
      rintro e w1 ⟨rfl, h1, h2, h3⟩
      have S1 := hideK (HS.out.step hb h1 h2 h3)
      obtain ⟨u0, u1, u2, u3, u4⟩ := S1.out.cells
      simp only at u0 u1 u2 u3 u4
      obtain ⟨y0, y1, y2, y3, y4⟩ := HT.out.keep S1.out.bl hkB
      clear cS z0 z1 z2 z3 z4 q
      go_wp2_with fail
      refine (HI1.out _ _ S1.out.bl S1.out.ib HL2.out).mono ?_
      rintro e w2 ⟨rfl, h4, h5, h6⟩
      have S2 := hideK (S1.out.step hb h4 h5 h6)
      go_wp2_with fail
      go_roundw
      case rel => exact ⟨i + 1, ⟨#[44]⟩, by omega, by go_num, rfl, by decide, by rw [if_neg (by omega)], by rw [← HN2.out]; exact S2.out⟩
      case measure => simp [intOf]; omega
    · have hltz : ¬ (i : Int) < (ls.length : Int) := by omega
      have hF : (ls.zip (ks.map wrT)).take i = ls.zip (ks.map wrT) := List.take_of_length_le (by rw [List.length_zip]; omega)
      have hgl := HLG.out
      have hz := HS.out
      rw [hF] at hz
      have HZ := hideK hz
      have cS := writeStringK B b _ ⟨#[125]⟩ _ hz.ib (by have e1 : (⟨#[125]⟩ : ByteArray).size = 1 := rfl; simp only [List.length_append]; omega) (Nat.le_trans hB hz.bl.size)
      clear hz hF hgl
      go_wp2_with fail
      refine cS.mono ?_
      rintro e w1 ⟨rfl, h1, h2, h3⟩
      have S1 := hideK (HZ.out.step hb h1 h2 h3)
      go_wp2_with fail
      first | go_end0 | go_ret
      refine ⟨rfl, ?_, S1.out.bl, S1.out.ok⟩
      rw [HG.out, ← List.append_assoc]
      exact S1.out.ib
set_option maxRecDepth 100000 in
set_option maxHeartbeats 4000000 in
theorem write_cho6 (d : Nat) (ih : ∀ d', d' < d → WTSaid d') (ls : List ByteArray) (ks : List Ty) (hls : labsOK ls = true) (hkl : ks.length = ls.length) (hwk : ∀ x ∈ ks, wfT x) (al : Option Addr) (cl : Nat) (ak : Option Addr) (ck B b : Nat) (l : List UInt8) (w : World) (hla : LA w B ls al) (hkt : KT w B d ks ak)
    (hi : Lib.IsBuilderF 45 5 B b (Lib.byteCells l) w) (hl : l.length + (wrT ⟨6, 0, ⟨#[]⟩, ls, ks⟩).length ≤ 1000000) (hB : B ≤ w.heap.size) :
    Calls Tryd.prog 13 #[.pointer (some ⟨b, 0, none⟩), tyVal ⟨6, 0, ⟨#[]⟩, ls, ks⟩ al cl ak ck] w fun e w' => e = .returned (.tuple #[]) ∧ Lib.IsBuilderF 45 5 B b (Lib.byteCells (l ++ wrT ⟨6, 0, ⟨#[]⟩, ls, ks⟩)) w' ∧ Below B w w' ∧ Lib.OthersKept 5 (some b) w w' := by
  have hb := ibLt hi
  have S0 := hideK (WS.new ⟨6, 0, ⟨#[]⟩, ls, ks⟩ al cl ak ck hi hB)
  have c := writeChoice6 d ih ls ks hls hkl hwk al cl ak ck B b l _ (NAt.keep S0.out.bl hla) (KT.keep S0.out.bl hkt) S0.out.ib hl (Nat.le_trans hB S0.out.bl.size)
  obtain ⟨x0, x1, x2, x3, x4⟩ := S0.out.cells
  simp only [tyVal] at c ⊢
  simp only at x0 x1 x2 x3 x4
  clear hla hkt hi hls ih hwk hkl hl
  generalize wrT ⟨6, 0, ⟨#[]⟩, ls, ks⟩ = G at c ⊢
  go_enter Tryd.func13, Tryd.ntmps13
  go_wp2_with fail
  refine c.mono ?_
  rintro e w1 ⟨rfl, h1, h2, h3⟩
  have S1 := hideK (S0.out.step hb h1 h2 h3)
  go_wp2_with fail
  first | go_end0 | go_ret
  exact ⟨rfl, S1.out.ib, S1.out.bl, S1.out.ok⟩
set_option maxRecDepth 100000 in
set_option maxHeartbeats 4000000 in
theorem write_cho7 (d : Nat) (ih : ∀ d', d' < d → WTSaid d') (ls : List ByteArray) (ks : List Ty) (hls : labsOK ls = true) (hkl : ks.length = ls.length) (hwk : ∀ x ∈ ks, wfT x) (al : Option Addr) (cl : Nat) (ak : Option Addr) (ck B b : Nat) (l : List UInt8) (w : World) (hla : LA w B ls al) (hkt : KT w B d ks ak)
    (hi : Lib.IsBuilderF 45 5 B b (Lib.byteCells l) w) (hl : l.length + (wrT ⟨7, 0, ⟨#[]⟩, ls, ks⟩).length ≤ 1000000) (hB : B ≤ w.heap.size) :
    Calls Tryd.prog 13 #[.pointer (some ⟨b, 0, none⟩), tyVal ⟨7, 0, ⟨#[]⟩, ls, ks⟩ al cl ak ck] w fun e w' => e = .returned (.tuple #[]) ∧ Lib.IsBuilderF 45 5 B b (Lib.byteCells (l ++ wrT ⟨7, 0, ⟨#[]⟩, ls, ks⟩)) w' ∧ Below B w w' ∧ Lib.OthersKept 5 (some b) w w' := by
  have hb := ibLt hi
  have S0 := hideK (WS.new ⟨7, 0, ⟨#[]⟩, ls, ks⟩ al cl ak ck hi hB)
  have c := writeChoice7 d ih ls ks hls hkl hwk al cl ak ck B b l _ (NAt.keep S0.out.bl hla) (KT.keep S0.out.bl hkt) S0.out.ib hl (Nat.le_trans hB S0.out.bl.size)
  obtain ⟨x0, x1, x2, x3, x4⟩ := S0.out.cells
  simp only [tyVal] at c ⊢
  simp only at x0 x1 x2 x3 x4
  clear hla hkt hi hls ih hwk hkl hl
  generalize wrT ⟨7, 0, ⟨#[]⟩, ls, ks⟩ = G at c ⊢
  go_enter Tryd.func13, Tryd.ntmps13
  go_wp2_with fail
  refine c.mono ?_
  rintro e w1 ⟨rfl, h1, h2, h3⟩
  have S1 := hideK (S0.out.step hb h1 h2 h3)
  go_wp2_with fail
  first | go_end0 | go_ret
  exact ⟨rfl, S1.out.ib, S1.out.bl, S1.out.ok⟩
theorem write_step (d : Nat) (ih : ∀ d', d' < d → WTSaid d') : WTSaid d := by
  intro t al cl ak ck B b l w hw hbd hla hkt hi hl hB
  obtain ⟨hp, hk⟩ := (wfT_eq t).1 hw
  rcases part_full t hp with rfl | ⟨nm, hv, rfl⟩ | ⟨nm, a, hv, rfl⟩ | ⟨k, so, a, hkd, hso, rfl⟩ | ⟨k, a, c, hkd, rfl⟩ | ⟨k, ls, ks, hkd, hls, hlen, rfl⟩
  · exact write_leaf _ al cl ak ck B b l w (.inl rfl) hi hl hB
  · exact write_leaf _ al cl ak ck B b l w (.inr ⟨nm, hv, rfl⟩) hi hl hB
  · exact write_rec d ih nm a hv (hk a (by simp)) al cl ak ck B b l w hkt hi hl hB
  · rcases hkd with rfl | rfl
    · exact write_msg2 d ih so a (hk a (by simp)) al cl ak ck B b l w hkt hi hl hB
    · exact write_msg3 d ih so a (hk a (by simp)) al cl ak ck B b l w hkt hi hl hB
  · rcases hkd with rfl | rfl
    · exact write_give4 d ih a c (hk a (by simp)) (hk c (by simp)) al cl ak ck B b l w hkt hi hl hB
    · exact write_give5 d ih a c (hk a (by simp)) (hk c (by simp)) al cl ak ck B b l w hkt hi hl hB
  · rcases hkd with rfl | rfl
    · exact write_cho6 d ih ls ks hls hlen hk al cl ak ck B b l w hla hkt hi hl hB
    · exact write_cho7 d ih ls ks hls hlen hk al cl ak ck B b l w hla hkt hi hl hB
theorem write_all (d : Nat) : WTSaid d := by
  induction d using Nat.strongRecOn with
  | _ d ih => exact write_step d ih
/-- what Write tells -/
def wrR (t : Ty) : ByteArray × Int := if chkTy t = 0 then (bs (wrT t), 0) else (⟨#[]⟩, chkTy t)
set_option maxRecDepth 100000 in
set_option maxHeartbeats 2000000 in
theorem typesWrite_any (d : Nat) (t : Ty) (al : Option Addr) (cl : Nat) (ak : Option Addr) (ck : Nat) (w : World) (hbd : TyBd t cl ck) (hla : LA w w.heap.size t.labels al) (hkt : KT w w.heap.size d t.kids ak) :
    Calls Tryd.prog 5 #[tyVal t al cl ak ck] w fun e w' => e = .returned (.tuple #[.string (wrR t).1, .int .i64 (wrR t).2]) ∧ Below w.heap.size w w' := by
  have hA : Below w.heap.size w (w.alloc (.cells #[.int .i64 t.kind, .int .i64 t.so, .string t.name, .slice al t.labels.length cl, .slice ak t.kids.length ck] 25)) := (Below.refl _ _).alloc (Nat.le_refl _) _
  have cC := typesCheck_any d t al cl ak ck _ hbd (NAt.mono hA.size (NAt.keep hA hla)) (KT.mono hA.size (KT.keep hA hkt))
  have HA := hideK hA
  unfold wrR
  by_cases hz : chkTy t = 0
  · rw [if_pos hz]
    rw [hz] at cC
    obtain ⟨hw, hsz⟩ := chkTy_good t hz
    have hlen := wrT_len t hw
    have CW := hideK (fun (W : World) (hb : Below w.heap.size w W) (B b : Nat) (hB : w.heap.size ≤ B) (h : Lib.IsBuilderF 45 5 B b (Lib.byteCells []) W) (hBW : B ≤ W.heap.size) => write_all d t al cl ak ck B b [] W hw hbd (NAt.mono hB (NAt.keep hb hla)) (KT.mono hB (KT.keep hb hkt)) h (by simp; omega) hBW)
    simp only [tyVal] at cC CW ⊢
    clear hbd hla hkt hz hw hsz hA hlen
    generalize wrT t = G at *
    go_enter Tryd.func5, Tryd.ntmps5
    go_wp2_with fail
    refine cC.mono ?_
    rintro e w1 ⟨rfl, hb1⟩
    obtain ⟨x0, x1, x2, x3, x4, hbw⟩ := keep5 hb1
    have HB := hideK hbw
    have hlt : w.heap.size < w1.heap.size := by have := hb1.size; simp at this; omega
    clear cC hbw hb1
    go_wp2_with fail
    refine (CW.out _ (HB.out.alloc HB.out.size _) w1.heap.size w1.heap.size HB.out.size (Lib.IsBuilderF.of (Lib.fresh_isBuilder 45 5 w1)) (by simp)).mono ?_
    rintro e w2 ⟨rfl, h1, h2, h3⟩
    rw [List.nil_append] at h1
    have H2 := hideK (((Below.refl w1.heap.size w1).alloc (Nat.le_refl _) _).trans h2)
    clear h2 h3
    go_wp2_with fail
    refine (string_any _ _ G w2 h1 H2.out.size).mono ?_
    rintro e w3 ⟨rfl, _, h4, _⟩
    go_wp2_with fail
    go_ret2
    exact ⟨rfl, HB.out.trans ((H2.out.trans h4).mono HB.out.size)⟩
  · rw [if_neg hz]
    have hzb : (chkTy t != 0) = true := by simpa using hz
    simp only [tyVal] at cC ⊢
    generalize chkTy t = z at cC hzb ⊢
    clear hbd hla hkt hz hA
    go_enter Tryd.func5, Tryd.ntmps5
    go_wp2_with fail
    refine cC.mono ?_
    rintro e w1 ⟨rfl, hb1⟩
    obtain ⟨x0, x1, x2, x3, x4, hbw⟩ := keep5 hb1
    clear cC
    go_wp2_with fail
    go_ret2
    exact ⟨rfl, hbw⟩
end Go.Proofs.YthamkbahiidenaaDoor
