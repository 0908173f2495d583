/-
  The contract of global.write, for every conversation that is right.
-/
import Derived.Test.YtfmegfgmkeicnaaDoorCyb
namespace Go.Proofs.YtfmegfgmkeicnaaDoor
open Go.RowKit Go.Shelf
/-- what write keeps: the builder holds l; its argument lies in a block of its own -/
structure WSC (w : World) (B b : Nat) (l : List UInt8) (t : Cv) (al : Option Addr) (cl : Nat) (ak : Option Addr) (ck : Nat) (W : World) : Prop where
  ib : Lib.IsBuilderF 61 5 B b (Lib.byteCells l) W
  bx : W.heap[w.heap.size]? = some (.cells #[.int .i64 t.kind, .string t.fm, .string t.tt, .int .i64 t.so, .string t.name, .slice al t.labels.length cl, .slice ak t.kids.length ck] 25 (0, 0))
  bl : Below B w W
  ok : Lib.OthersKept 5 (some b) w W
theorem WSC.new {w : World} {B b : Nat} {l : List UInt8} (t : Cv) (al : Option Addr) (cl : Nat) (ak : Option Addr) (ck : Nat) (h : Lib.IsBuilderF 61 5 B b (Lib.byteCells l) w) (hB : B ≤ w.heap.size) :
    WSC w B b l t al cl ak ck (w.alloc (.cells #[.int .i64 t.kind, .string t.fm, .string t.tt, .int .i64 t.so, .string t.name, .slice al t.labels.length cl, .slice ak t.kids.length ck] 25)) :=
  ⟨h.alloc _, heap_alloc_new w _, (Below.refl _ _).alloc hB _, (Lib.OthersKept.refl _ _ _).alloc _⟩
theorem WSC.step {w : World} {B b : Nat} {l l' : List UInt8} {t : Cv} {al : Option Addr} {cl : Nat} {ak : Option Addr} {ck : Nat} {W W' : World} (h : WSC w B b l t al cl ak ck W) (hb : b < w.heap.size)
    (h1 : Lib.IsBuilderF 61 5 B b (Lib.byteCells l') W') (h2 : Below B W W') (h3 : Lib.OthersKept 5 (some b) W W') : WSC w B b l' t al cl ak ck W' :=
  ⟨h1, h3 _ _ h.bx (fun e => by injection e with e; omega) (fun c fz e => by injection e with _ e; exact absurd e (by decide)), h.bl.trans h2, h.ok.trans h3⟩
theorem WSC.drew {w : World} {B b : Nat} {l : List UInt8} {t : Cv} {al : Option Addr} {cl : Nat} {ak : Option Addr} {ck : Nat} {W : World} (h : WSC w B b l t al cl ak ck W) : WSC w B b l t al cl ak ck W.drew := ⟨h.ib, h.bx, h.bl.drew, h.ok.drew⟩
theorem WSC.cells {w : World} {B b : Nat} {l : List UInt8} {t : Cv} {al : Option Addr} {cl : Nat} {ak : Option Addr} {ck : Nat} {W : World} (h : WSC w B b l t al cl ak ck W) :
    W.cell? ⟨w.heap.size, 0, none⟩ = some (.int .i64 t.kind) ∧ W.cell? ⟨w.heap.size, 1, none⟩ = some (.string t.fm) ∧ W.cell? ⟨w.heap.size, 2, none⟩ = some (.string t.tt) ∧ W.cell? ⟨w.heap.size, 3, none⟩ = some (.int .i64 t.so) ∧ W.cell? ⟨w.heap.size, 4, none⟩ = some (.string t.name) ∧ W.cell? ⟨w.heap.size, 5, none⟩ = some (.slice al t.labels.length cl) ∧ W.cell? ⟨w.heap.size, 6, none⟩ = some (.slice ak t.kids.length ck) := by
  refine ⟨?_, ?_, ?_, ?_, ?_, ?_, ?_⟩ <;> (rw [Lib.cell_of_heap h.bx]; rfl)
set_option maxRecDepth 100000 in
set_option maxHeartbeats 2000000 in
theorem writeC_leaf (t : Cv) (al : Option Addr) (cl : Nat) (ak : Option Addr) (ck B b : Nat) (l : List UInt8) (w : World) (hw : t = ⟨1, ⟨#[]⟩, ⟨#[]⟩, 0, ⟨#[]⟩, [], []⟩ ∨ ∃ nm, isVr nm.data.toList = true ∧ t = ⟨9, ⟨#[]⟩, ⟨#[]⟩, 0, nm, [], []⟩)
    (hi : Lib.IsBuilderF 61 5 B b (Lib.byteCells l) w) (hl : l.length + (wrCv t).length ≤ 1000000) (hB : B ≤ w.heap.size) :
    Calls Tryd.prog 23 #[.pointer (some ⟨b, 0, none⟩), valCv t al cl ak ck] w fun e w' => e = .returned (.tuple #[]) ∧ Lib.IsBuilderF 61 5 B b (Lib.byteCells (l ++ wrCv t)) w' ∧ Below B w w' ∧ Lib.OthersKept 5 (some b) w w' := by
  have hb := ibLt hi
  have S0 := WSC.new t al cl ak ck hi hB
  rcases hw with rfl | ⟨nm, hv, rfl⟩
  · rw [wc_end] at hl ⊢
    have c := writeStringK B b l ⟨#[101, 110, 100]⟩ _ S0.ib (by simp [ByteArray.size] at hl ⊢; omega) (by simp; omega)
    simp only [valCv] at c ⊢
    go_enter Tryd.func23, Tryd.ntmps23
    go_wp2_with fail
    refine c.mono ?_
    rintro e w1 ⟨rfl, h1, h2, h3⟩
    have S1 := S0.step hb h1 h2 h3
    go_wp2_with fail
    first | go_ret | go_end0
    exact ⟨rfl, S1.ib, S1.bl, S1.ok⟩
  · rw [wc_var] at hl ⊢
    have c := writeStringK B b l nm _ S0.ib (by simp at hl ⊢; omega) (by simp; omega)
    have ⟨x0, x1, x2, x3, x4, x5, x6⟩ := S0.cells
    simp only [valCv] at c ⊢
    go_enter Tryd.func23, Tryd.ntmps23
    go_wp2_with fail
    refine c.mono ?_
    rintro e w1 ⟨rfl, h1, h2, h3⟩
    have S1 := S0.step hb h1 h2 h3
    go_wp2_with fail
    first | go_ret | go_end0
    exact ⟨rfl, S1.ib, S1.bl, S1.ok⟩
set_option maxRecDepth 100000 in
set_option maxHeartbeats 4000000 in
theorem writeC_rec (d : Nat) (ih : ∀ d', d' < d → WCSaid d') (nm : ByteArray) (a : Cv) (hv : isVr nm.data.toList = true) (hwa : wfCv a) (al : Option Addr) (cl : Nat) (ak : Option Addr) (ck B b : Nat) (l : List UInt8) (w : World) (hkt : KCv w B d [a] ak)
    (hi : Lib.IsBuilderF 61 5 B b (Lib.byteCells l) w) (hl : l.length + (wrCv ⟨8, ⟨#[]⟩, ⟨#[]⟩, 0, nm, [], [a]⟩).length ≤ 1000000) (hB : B ≤ w.heap.size) :
    Calls Tryd.prog 23 #[.pointer (some ⟨b, 0, none⟩), valCv ⟨8, ⟨#[]⟩, ⟨#[]⟩, 0, nm, [], [a]⟩ al cl ak ck] w fun e w' => e = .returned (.tuple #[]) ∧ Lib.IsBuilderF 61 5 B b (Lib.byteCells (l ++ wrCv ⟨8, ⟨#[]⟩, ⟨#[]⟩, 0, nm, [], [a]⟩)) w' ∧ Below B w w' ∧ Lib.OthersKept 5 (some b) w w' := by
  have hb := ibLt hi
  have S0 := hideK (WSC.new ⟨8, ⟨#[]⟩, ⟨#[]⟩, 0, nm, [], [a]⟩ al cl ak ck hi hB)
  generalize hG : wrCv ⟨8, ⟨#[]⟩, ⟨#[]⟩, 0, nm, [], [a]⟩ = G at hl ⊢
  rw [wc_rec] at hG
  have h8 := vr_len _ hv
  have hnm : nm.size ≤ 8 := by rw [ba_len]; exact h8
  have hnz : (nm.size : Int) ≤ 8 := by omega
  have hlG : G.length = 5 + nm.data.toList.length + (wrCv a).length := by rw [← hG]; simp only [List.length_append, List.length_cons, List.length_nil]; omega
  have c := writeStringK B b l (⟨#[114, 101, 99, 32]⟩ ++ nm ++ ⟨#[46]⟩ : ByteArray) _ S0.out.ib (by rw [size3]; have e4 : (⟨#[114, 101, 99, 32]⟩ : ByteArray).size = 4 := rfl; have e1 : (⟨#[46]⟩ : ByteArray).size = 1 := rfl; omega) (by simp; omega)
  have HX : Hid (l ++ (⟨#[114, 101, 99, 32]⟩ ++ nm ++ ⟨#[46]⟩ : ByteArray).data.toList ++ wrCv a = l ++ G) := by
    show _ = _
    rw [← hG, ba_app, ba_app]; simp only [List.append_assoc]
  obtain ⟨d1, kb1, ko1, al1, cl1, ak1, ck1, hd1, ek1, hkB1, hta1, htb1, hla1, hka1⟩ := kidCv hkt 0 (by simp)
  obtain ⟨x0, x1, x2, x3, x4, x5, x6⟩ := S0.out.cells
  have hlen2 : (l ++ (⟨#[114, 101, 99, 32]⟩ ++ nm ++ ⟨#[46]⟩ : ByteArray).data.toList).length + (wrCv a).length ≤ 1000000 := by
    rw [ba_app, ba_app]; simp only [List.length_append]; show l.length + (4 + nm.data.toList.length + 1) + (wrCv a).length ≤ _; omega
  have HI1 := hideK (fun (l' : List UInt8) (W : World) (hbl : Below B w W) (h1 : Lib.IsBuilderF 61 5 B b (Lib.byteCells l') W) (h2 : l'.length + (wrCv a).length ≤ 1000000) => ih d1 hd1 a al1 cl1 ak1 ck1 B b l' W hwa htb1 (NAt.keep hbl hla1) (KCv.keep hbl hka1) h1 h2 (Nat.le_trans hB hbl.size))
  have HT1 := hideK hta1
  subst ek1
  simp only [valCv] at c HI1 ⊢
  clear hta1 hla1 hka1 hkt hi hv h8 ih hG hlG
  go_enter Tryd.func23, Tryd.ntmps23
  go_wp2_with fail
  refine c.mono ?_
  rintro e w1 ⟨rfl, h1, h2, h3⟩
  have S1 := hideK (S0.out.step hb h1 h2 h3)
  obtain ⟨z0, z1, z2, z3, z4, z5, z6⟩ := S1.out.cells
  obtain ⟨y0, y1, y2, y3, y4, y5, y6⟩ := HT1.out.keep S1.out.bl hkB1
  simp only [Nat.zero_mul, Nat.add_zero, List.getElem_cons_zero] at y0 y1 y2 y3 y4 y5 y6
  clear c x0 x1 x2 x3 x4 x5 x6
  go_wp2_with fail
  refine (HI1.out _ _ S1.out.bl S1.out.ib hlen2).mono ?_
  rintro e w2 ⟨rfl, h4, h5, h6⟩
  go_wp2_with fail
  first | go_end0 | go_ret
  rw [← HX.out]
  exact ⟨rfl, h4, S1.out.bl.trans h5, S1.out.ok.trans h6⟩
set_option maxRecDepth 100000 in
set_option maxHeartbeats 4000000 in
theorem writeC_send (d : Nat) (ih : ∀ d', d' < d → WCSaid d') (p q : ByteArray) (so : Int) (a : Cv) (hpq : rls p q) (hwa : wfCv a) (al : Option Addr) (cl : Nat) (ak : Option Addr) (ck B b : Nat) (l : List UInt8) (w : World) (hkt : KCv w B d [a] ak)
    (hi : Lib.IsBuilderF 61 5 B b (Lib.byteCells l) w) (hl : l.length + (wrCv ⟨2, p, q, so, ⟨#[]⟩, [], [a]⟩).length ≤ 1000000) (hB : B ≤ w.heap.size) :
    Calls Tryd.prog 23 #[.pointer (some ⟨b, 0, none⟩), valCv ⟨2, p, q, so, ⟨#[]⟩, [], [a]⟩ al cl ak ck] w fun e w' => e = .returned (.tuple #[]) ∧ Lib.IsBuilderF 61 5 B b (Lib.byteCells (l ++ wrCv ⟨2, p, q, so, ⟨#[]⟩, [], [a]⟩)) w' ∧ Below B w w' ∧ Lib.OthersKept 5 (some b) w w' := by
  have hb := ibLt hi
  have S0 := hideK (WSC.new ⟨2, p, q, so, ⟨#[]⟩, [], [a]⟩ al cl ak ck hi hB)
  generalize hG : wrCv ⟨2, p, q, so, ⟨#[]⟩, [], [a]⟩ = G at hl ⊢
  rw [wc_send] at hG
  have hp1 : p.size = 1 := by rw [ba_len]; exact (rl_low hpq.1).2
  have hq1 : q.size = 1 := by rw [ba_len]; exact (rl_low hpq.2.1).2
  have h4 := sw_len so
  have hsw : (swB so).size ≤ 4 := by rw [ba_len]; exact h4
  have hlG : G.length = 4 + (swB so).data.toList.length + 1 + (wrCv a).length := by
    rw [← hG]; simp only [List.length_append, List.length_cons, List.length_nil, (rl_low hpq.1).2, (rl_low hpq.2.1).2]
  have cW := sortWord_any so
  have SD := hideK S0.out.drew
  have hXs : (p ++ ⟨#[62]⟩ ++ q ++ ⟨#[58]⟩ ++ swB so ++ ⟨#[46]⟩ : ByteArray).size ≤ 9 := by
    simp only [ByteArray.size_append]
    have e1 : (⟨#[62]⟩ : ByteArray).size = 1 := rfl
    have e2 : (⟨#[58]⟩ : ByteArray).size = 1 := rfl
    have e3 : (⟨#[46]⟩ : ByteArray).size = 1 := rfl
    omega
  have cS := writeStringK B b l (p ++ ⟨#[62]⟩ ++ q ++ ⟨#[58]⟩ ++ swB so ++ ⟨#[46]⟩ : ByteArray) _ SD.out.ib (by omega) (by show B ≤ (w.alloc _).heap.size; simp; omega)
  have hXe : (p ++ ⟨#[62]⟩ ++ q ++ ⟨#[58]⟩ ++ swB so ++ ⟨#[46]⟩ : ByteArray).data.toList ++ wrCv a = G := by
    rw [← hG]; simp only [ba_app, List.append_assoc]
  have HX : Hid (l ++ (p ++ ⟨#[62]⟩ ++ q ++ ⟨#[58]⟩ ++ swB so ++ ⟨#[46]⟩ : ByteArray).data.toList ++ wrCv a = l ++ G) := by
    show _ = _
    rw [List.append_assoc, hXe]
  have hlen2 : (l ++ (p ++ ⟨#[62]⟩ ++ q ++ ⟨#[58]⟩ ++ swB so ++ ⟨#[46]⟩ : ByteArray).data.toList).length + (wrCv a).length ≤ 1000000 := by
    have := congrArg List.length hXe
    simp only [List.length_append] at this ⊢
    omega
  obtain ⟨d1, kb1, ko1, al1, cl1, ak1, ck1, hd1, ek1, hkB1, hta1, htb1, hla1, hka1⟩ := kidCv hkt 0 (by simp)
  obtain ⟨x0, x1, x2, x3, x4, x5, x6⟩ := S0.out.cells
  have HI1 := hideK (fun (l' : List UInt8) (W : World) (hbl : Below B w W) (h1 : Lib.IsBuilderF 61 5 B b (Lib.byteCells l') W) (h2 : l'.length + (wrCv a).length ≤ 1000000) => ih d1 hd1 a al1 cl1 ak1 ck1 B b l' W hwa htb1 (NAt.keep hbl hla1) (KCv.keep hbl hka1) h1 h2 (Nat.le_trans hB hbl.size))
  have HT1 := hideK hta1
  subst ek1
  simp only [valCv] at cS HI1 ⊢
  have s0 : ¬ (9223372036854775807 < p.size + 1) := by omega
  have s1 : ¬ (9223372036854775807 < p.size + 1 + q.size) := by omega
  have s2 : ¬ (9223372036854775807 < p.size + 1 + q.size + 1) := by omega
  have s3 : ¬ (9223372036854775807 < p.size + 1 + q.size + 1 + (swB so).size) := by omega
  have s4 : ¬ (9223372036854775807 < p.size + 1 + q.size + 1 + (swB so).size + 1) := by omega
  have CW := hideK cW
  have HLN := hideK hlen2
  clear hta1 hla1 hka1 hkt hi h4 ih hG hlG cW hXs hXe hp1 hq1 hsw hlen2
  generalize swB so = sw at *
  go_enter Tryd.func23, Tryd.ntmps23
  go_wp2_with fail
  go_region_held3 (fun w' => w'.cell? ⟨w.heap.size, 1, none⟩ = some (.string p) ∧ w'.cell? ⟨w.heap.size, 2, none⟩ = some (.string q) ∧ w'.cell? ⟨w.heap.size, 3, none⟩ = some (.int .i64 so)) (go_keep) (first
    | (go_at_call 53; go_must (refine (CW.out _).mono ?_; rintro e w0 ⟨rfl, rfl⟩))
    | (go_at_call 47; go_must (refine cS.mono ?_; rintro e w1 ⟨rfl, h1, h2, h3⟩; have S1 := hideK (SD.out.step hb h1 h2 h3); obtain ⟨z0, z1, z2, z3, z4, z5, z6⟩ := S1.out.cells; obtain ⟨y0, y1, y2, y3, y4, y5, y6⟩ := HT1.out.keep S1.out.bl hkB1; simp only [Nat.zero_mul, Nat.add_zero, List.getElem_cons_zero] at y0 y1 y2 y3 y4 y5 y6)))
  all_goals
    clear x0 x1 x2 x3 x4 x5 x6
    go_wp2_with fail
    refine (HI1.out _ _ S1.out.bl S1.out.ib HLN.out).mono ?_
    rintro e w2 ⟨rfl, h4, h5, h6⟩
    go_wp2_with fail
    first | go_end0 | go_ret
    rw [← HX.out]
    exact ⟨rfl, h4, S1.out.bl.trans h5, S1.out.ok.trans h6⟩
set_option maxRecDepth 100000 in
set_option maxHeartbeats 4000000 in
theorem writeC_pick (d : Nat) (ih : ∀ d', d' < d → WCSaid d') (p q : ByteArray) (ls : List ByteArray) (ks : List Cv) (hpq : rls p q) (hls : labsOK ls = true) (hkl : ks.length = ls.length) (hwk : ∀ x ∈ ks, wfCv x) (al : Option Addr) (cl : Nat) (ak : Option Addr) (ck B b : Nat) (l : List UInt8) (w : World) (hla : LA w B ls al) (hkt : KCv w B d ks ak)
    (hi : Lib.IsBuilderF 61 5 B b (Lib.byteCells l) w) (hl : l.length + (wrCv ⟨6, p, q, 0, ⟨#[]⟩, ls, ks⟩).length ≤ 1000000) (hB : B ≤ w.heap.size) :
    Calls Tryd.prog 23 #[.pointer (some ⟨b, 0, none⟩), valCv ⟨6, p, q, 0, ⟨#[]⟩, ls, ks⟩ al cl ak ck] w fun e w' => e = .returned (.tuple #[]) ∧ Lib.IsBuilderF 61 5 B b (Lib.byteCells (l ++ wrCv ⟨6, p, q, 0, ⟨#[]⟩, ls, ks⟩)) w' ∧ Below B w w' ∧ Lib.OthersKept 5 (some b) w w' := by
  have hb := ibLt hi
  have S0 := hideK (WSC.new ⟨6, p, q, 0, ⟨#[]⟩, ls, ks⟩ al cl ak ck hi hB)
  generalize hG : wrCv ⟨6, p, q, 0, ⟨#[]⟩, ls, ks⟩ = G at hl ⊢
  have h1l : 1 ≤ ls.length := by
    unfold labsOK at hls
    simp only [Bool.and_eq_true, decide_eq_true_eq] at hls
    omega
  have hne : ls.zip (ks.map wrCv) ≠ [] := by
    intro e
    have := congrArg List.length e
    rw [List.length_zip, List.length_map, hkl, Nat.min_self] at this
    simp only [List.length_nil] at this
    omega
  rw [wc_pick, cho_pre _ _ hne] at hG
  have hp1 : p.size = 1 := by rw [ba_len]; exact (rl_low hpq.1).2
  have hq1 : q.size = 1 := by rw [ba_len]; exact (rl_low hpq.2.1).2
  have hXs : (p ++ ⟨#[62]⟩ ++ q : ByteArray).size ≤ 3 := by
    simp only [ByteArray.size_append]
    have e1 : (⟨#[62]⟩ : ByteArray).size = 1 := rfl
    omega
  have SD := hideK S0.out.drew
  have hXe : (p ++ ⟨#[62]⟩ ++ q : ByteArray).data.toList ++ (choL [123] (ls.zip (ks.map wrCv)) ++ [125]) = G := by
    rw [← hG]; simp only [ba_app, List.append_assoc]
  have hlG : G.length = (p ++ ⟨#[62]⟩ ++ q : ByteArray).data.toList.length + (choL [123] (ls.zip (ks.map wrCv)) ++ [125]).length := by
    rw [← hXe, List.length_append]
  have cS := fun W (h : Lib.IsBuilderF 61 5 B b (Lib.byteCells l) W) (h2 : B ≤ W.heap.size) => writeStringK B b l (p ++ ⟨#[62]⟩ ++ q : ByteArray) W h (by omega) h2
  have HX : Hid (l ++ (p ++ ⟨#[62]⟩ ++ q : ByteArray).data.toList ++ (choL [123] (ls.zip (ks.map wrCv)) ++ [125]) = l ++ G) := by
    show _ = _
    rw [List.append_assoc, hXe]
  have hlen2 : (l ++ (p ++ ⟨#[62]⟩ ++ q : ByteArray).data.toList).length + (choL [123] (ls.zip (ks.map wrCv)) ++ [125]).length ≤ 1000000 := by
    rw [List.length_append]; omega
  obtain ⟨x0, x1, x2, x3, x4, x5, x6⟩ := S0.out.cells
  have HI1 := hideK (fun (l' : List UInt8) (W : World) (hbl : Below B w W) (h1 : Lib.IsBuilderF 61 5 B b (Lib.byteCells l') W) (h2 : l'.length + (choL [123] (ls.zip (ks.map wrCv)) ++ [125]).length ≤ 1000000) => writeChoiceC_any d ih ls ks hls hkl hwk al cl ak ck B b l' W (NAt.keep hbl hla) (KCv.keep hbl hkt) h1 h2 (Nat.le_trans hB hbl.size))
  simp only [valCv] at HI1 ⊢
  have s0 : ¬ (9223372036854775807 < p.size + 1) := by omega
  have s1 : ¬ (9223372036854775807 < p.size + 1 + q.size) := by omega
  have HLN := hideK hlen2
  have CS := hideK cS
  have HSZ : Hid (B ≤ (w.alloc (.cells #[.int .i64 6, .string p, .string q, .int .i64 0, .string ⟨#[]⟩, .slice al ls.length cl, .slice ak ks.length ck] 25)).heap.size) := by show _ ≤ _; simp; omega
  clear hla hkt hi ih hG hlG hXe hXs hp1 hq1 hlen2 hne h1l hls hkl hwk cS SD
  generalize choL [123] (ls.zip (ks.map wrCv)) ++ [125] = X at *
  go_enter Tryd.func23, Tryd.ntmps23
  go_wp2_with fail
  refine (CS.out _ S0.out.ib HSZ.out).mono ?_
  rintro e w1 ⟨rfl, h1, h2, h3⟩
  have S1 := hideK (S0.out.step hb h1 h2 h3)
  obtain ⟨z0, z1, z2, z3, z4, z5, z6⟩ := S1.out.cells
  clear x0 x1 x2 x3 x4 x5 x6
  go_wp2_with fail
  refine (HI1.out _ _ S1.out.bl S1.out.ib HLN.out).mono ?_
  rintro e w2 ⟨rfl, h4, h5, h6⟩
  go_wp2_with fail
  first | go_end0 | go_ret
  rw [← HX.out]
  exact ⟨rfl, h4, S1.out.bl.trans h5, S1.out.ok.trans h6⟩
theorem writeC_step (d : Nat) (ih : ∀ d', d' < d → WCSaid d') : WCSaid d := by
  intro t al cl ak ck B b l w hwf hbd hla hkt hi hl hB
  obtain ⟨hp, hk⟩ := (wfCv_eq t).1 hwf
  rcases hp with rfl | ⟨nm, hv, rfl⟩ | ⟨nm, k, hv, rfl⟩ | ⟨p, q, so, k, hr, hs, rfl⟩ | ⟨p, q, ls, ks, hr, hls, hkl, rfl⟩
  · exact writeC_leaf _ al cl ak ck B b l w (.inl rfl) hi hl hB
  · exact writeC_leaf _ al cl ak ck B b l w (.inr ⟨nm, hv, rfl⟩) hi hl hB
  · exact writeC_rec d ih nm k hv (hk k (by simp)) al cl ak ck B b l w hkt hi hl hB
  · exact writeC_send d ih p q so k hr (hk k (by simp)) al cl ak ck B b l w hkt hi hl hB
  · exact writeC_pick d ih p q ls ks hr hls hkl hk al cl ak ck B b l w hla hkt hi hl hB
theorem writeC_all (d : Nat) : WCSaid d := by
  induction d using Nat.strongRecOn with
  | _ d ih => exact writeC_step d ih
end Go.Proofs.YtfmegfgmkeicnaaDoor
