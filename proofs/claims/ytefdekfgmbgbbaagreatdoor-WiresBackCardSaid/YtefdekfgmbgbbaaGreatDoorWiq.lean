/-
  The contract of package wires' writeEvent.
-/
import Derived.Test.YtefdekfgmbgbbaaGreatDoorWip
import Derived.Test.YtefdekfgmbgbbaaGreatDoorWig
namespace Go.Proofs.YtefdekfgmbgbbaaGreatDoor
open Go.RowKit Go.Shelf

section
variable {V : ByteArray → Bool} {Tabs : World → Prop} {B0 : Nat}
set_option maxRecDepth 100000 in
set_option maxHeartbeats 4000000 in
theorem writeEvent_ok2 (hV : VSaid V Tabs) (hK : ∀ w w', Tabs w → Below B0 w w' → Tabs w') (B b d : Nat) (l : List UInt8) (so n : Int) (s : ByteArray) (t : Ty) (lb : ByteArray) (al : Option Addr) (cl : Nat) (ak : Option Addr) (ck : Nat) (w : World) (hT : Tabs w) (hB : B0 ≤ B) (h : Lib.IsBuilderF 47 5 B b (Lib.byteCells l) w) (_ : TyBd t cl ck) (_ : LA w B t.labels al) (_ : KT w B d t.kids ak) (hc : chkZ V so n s = 0) (hn : -9223372036854775808 ≤ n ∧ n ≤ 9223372036854775807) (hlen : l.length ≤ 110000000000000) (hBw : B ≤ w.heap.size) :
    Calls Tryz.prog 11 #[.pointer (some ⟨b, 0, none⟩), evVal ⟨2, so, n, s, t, lb⟩ al cl ak ck] w fun e w' => e = .returned (.int .i64 0) ∧ WKP B b (l ++ wrE ⟨2, so, n, s, t, lb⟩) w w' := by
  have HA := hideK (WKP.al h hBw (.cells #[.int .i64 2, .int .i64 so, .int .i64 n, .string s, .int .i64 t.kind, .int .i64 t.so, .string t.name, .slice al t.labels.length cl, .slice ak t.kids.length ck, .string lb] 33))
  have KA := hideK (heap_alloc_new w (.cells #[.int .i64 2, .int .i64 so, .int .i64 n, .string s, .int .i64 t.kind, .int .i64 t.so, .string t.name, .slice al t.labels.length cl, .slice ak t.kids.length ck, .string lb] 33))
  have HI := hideK h
  have hK2 : ∀ w w', TabB Tabs B0 w → Below w.heap.size w w' → TabB Tabs B0 w' := TabB.k hK
  have cB := writeByteW B b l 2 (w.alloc (.cells #[.int .i64 2, .int .i64 so, .int .i64 n, .string s, .int .i64 t.kind, .int .i64 t.so, .string t.name, .slice al t.labels.length cl, .slice ak t.kids.length ck, .string lb] 33)) HA.out.1 (by omega) (Nat.le_trans hBw HA.out.2.1.size)
  have cR := hideK (fun (W : World) (hW : WKP B b (l ++ [2]) w W) => writeValue_ok (TabB.v (B0 := B0) hV) hK2 B b (l ++ [2]) so n s W ⟨hK w W hT (hW.2.1.mono hB), Nat.le_trans hB (Nat.le_trans hBw hW.2.1.size)⟩ hW.1 hc hn (by rw [List.length_append, List.length_singleton]; omega) (Nat.le_trans hBw hW.2.1.size))
  rw [show wrE ⟨2, so, n, s, t, lb⟩ = 2 :: (wrV so n s) from rfl, List.append_cons l 2 (wrV so n s)]
  simp only [evVal]
  clear h hV hK hK2 hT
  go_enter Tryz.func11, Tryz.ntmps11
  go_wp2_with (first
    | (go_at_call 17; go_must (refine cB.mono ?_; rintro e w2 ⟨rfl, h2⟩; have H2 := hideK (HA.out.trans h2); have k2 := bx_keep h2.2.2 KA.out (by have := ibLt HI.out; omega) (by decide); have d0 := Lib.cell_of_heap k2 0; have d1 := Lib.cell_of_heap k2 1; have d2 := Lib.cell_of_heap k2 2; have d3 := Lib.cell_of_heap k2 3; have d4 := Lib.cell_of_heap k2 4; have d5 := Lib.cell_of_heap k2 5; have d6 := Lib.cell_of_heap k2 6; have d7 := Lib.cell_of_heap k2 7; have d8 := Lib.cell_of_heap k2 8; have d9 := Lib.cell_of_heap k2 9; simp at d0 d1 d2 d3 d4 d5 d6 d7 d8 d9))
    | (go_at_call 18; refine (cR.out _ H2.out).mono ?_; rintro e w4 ⟨rfl, h4⟩))
  go_ret
  exact ⟨rfl, H2.out.trans h4⟩
set_option maxRecDepth 100000 in
set_option maxHeartbeats 4000000 in
theorem writeEvent_ok3 (hV : VSaid V Tabs) (hK : ∀ w w', Tabs w → Below B0 w w' → Tabs w') (B b d : Nat) (l : List UInt8) (so n : Int) (s : ByteArray) (t : Ty) (lb : ByteArray) (al : Option Addr) (cl : Nat) (ak : Option Addr) (ck : Nat) (w : World) (hT : Tabs w) (hB : B0 ≤ B) (h : Lib.IsBuilderF 47 5 B b (Lib.byteCells l) w) (_ : TyBd t cl ck) (_ : LA w B t.labels al) (_ : KT w B d t.kids ak) (hc : chkZ V so n s = 0) (hn : -9223372036854775808 ≤ n ∧ n ≤ 9223372036854775807) (hlen : l.length ≤ 110000000000000) (hBw : B ≤ w.heap.size) :
    Calls Tryz.prog 11 #[.pointer (some ⟨b, 0, none⟩), evVal ⟨3, so, n, s, t, lb⟩ al cl ak ck] w fun e w' => e = .returned (.int .i64 0) ∧ WKP B b (l ++ wrE ⟨3, so, n, s, t, lb⟩) w w' := by
  have HA := hideK (WKP.al h hBw (.cells #[.int .i64 3, .int .i64 so, .int .i64 n, .string s, .int .i64 t.kind, .int .i64 t.so, .string t.name, .slice al t.labels.length cl, .slice ak t.kids.length ck, .string lb] 33))
  have KA := hideK (heap_alloc_new w (.cells #[.int .i64 3, .int .i64 so, .int .i64 n, .string s, .int .i64 t.kind, .int .i64 t.so, .string t.name, .slice al t.labels.length cl, .slice ak t.kids.length ck, .string lb] 33))
  have HI := hideK h
  have hK2 : ∀ w w', TabB Tabs B0 w → Below w.heap.size w w' → TabB Tabs B0 w' := TabB.k hK
  have cB := writeByteW B b l 3 (w.alloc (.cells #[.int .i64 3, .int .i64 so, .int .i64 n, .string s, .int .i64 t.kind, .int .i64 t.so, .string t.name, .slice al t.labels.length cl, .slice ak t.kids.length ck, .string lb] 33)) HA.out.1 (by omega) (Nat.le_trans hBw HA.out.2.1.size)
  have cR := hideK (fun (W : World) (hW : WKP B b (l ++ [3]) w W) => writeValue_ok (TabB.v (B0 := B0) hV) hK2 B b (l ++ [3]) so n s W ⟨hK w W hT (hW.2.1.mono hB), Nat.le_trans hB (Nat.le_trans hBw hW.2.1.size)⟩ hW.1 hc hn (by rw [List.length_append, List.length_singleton]; omega) (Nat.le_trans hBw hW.2.1.size))
  rw [show wrE ⟨3, so, n, s, t, lb⟩ = 3 :: (wrV so n s) from rfl, List.append_cons l 3 (wrV so n s)]
  simp only [evVal]
  clear h hV hK hK2 hT
  go_enter Tryz.func11, Tryz.ntmps11
  go_wp2_with (first
    | (go_at_call 17; go_must (refine cB.mono ?_; rintro e w2 ⟨rfl, h2⟩; have H2 := hideK (HA.out.trans h2); have k2 := bx_keep h2.2.2 KA.out (by have := ibLt HI.out; omega) (by decide); have d0 := Lib.cell_of_heap k2 0; have d1 := Lib.cell_of_heap k2 1; have d2 := Lib.cell_of_heap k2 2; have d3 := Lib.cell_of_heap k2 3; have d4 := Lib.cell_of_heap k2 4; have d5 := Lib.cell_of_heap k2 5; have d6 := Lib.cell_of_heap k2 6; have d7 := Lib.cell_of_heap k2 7; have d8 := Lib.cell_of_heap k2 8; have d9 := Lib.cell_of_heap k2 9; simp at d0 d1 d2 d3 d4 d5 d6 d7 d8 d9))
    | (go_at_call 18; refine (cR.out _ H2.out).mono ?_; rintro e w4 ⟨rfl, h4⟩))
  go_ret
  exact ⟨rfl, H2.out.trans h4⟩
set_option maxRecDepth 100000 in
set_option maxHeartbeats 4000000 in
theorem writeEvent_ok4 (_ : VSaid V Tabs) (_ : ∀ w w', Tabs w → Below B0 w w' → Tabs w') (B b d : Nat) (l : List UInt8) (so n : Int) (s : ByteArray) (t : Ty) (lb : ByteArray) (al : Option Addr) (cl : Nat) (ak : Option Addr) (ck : Nat) (w : World) (_ : Tabs w) (_ : B0 ≤ B) (h : Lib.IsBuilderF 47 5 B b (Lib.byteCells l) w) (hbd : TyBd t cl ck) (hla : LA w B t.labels al) (hkt : KT w B d t.kids ak) (hc : chkTy t = 0) (hlen : l.length ≤ 110000000000000) (hBw : B ≤ w.heap.size) :
    Calls Tryz.prog 11 #[.pointer (some ⟨b, 0, none⟩), evVal ⟨4, so, n, s, t, lb⟩ al cl ak ck] w fun e w' => e = .returned (.int .i64 0) ∧ WKP B b (l ++ wrE ⟨4, so, n, s, t, lb⟩) w w' := by
  have HA := hideK (WKP.al h hBw (.cells #[.int .i64 4, .int .i64 so, .int .i64 n, .string s, .int .i64 t.kind, .int .i64 t.so, .string t.name, .slice al t.labels.length cl, .slice ak t.kids.length ck, .string lb] 33))
  have KA := hideK (heap_alloc_new w (.cells #[.int .i64 4, .int .i64 so, .int .i64 n, .string s, .int .i64 t.kind, .int .i64 t.so, .string t.name, .slice al t.labels.length cl, .slice ak t.kids.length ck, .string lb] 33))
  have HI := hideK h
  have cB := writeByteW B b l 4 (w.alloc (.cells #[.int .i64 4, .int .i64 so, .int .i64 n, .string s, .int .i64 t.kind, .int .i64 t.so, .string t.name, .slice al t.labels.length cl, .slice ak t.kids.length ck, .string lb] 33)) HA.out.1 (by omega) (Nat.le_trans hBw HA.out.2.1.size)
  have cR := hideK (fun (W : World) (hW : WKP B b (l ++ [4]) w W) => writeType_ok B b d (l ++ [4]) t al cl ak ck W hW.1 hbd (NAt.keep hW.2.1 hla) (KT.keep hW.2.1 hkt) hc (by rw [List.length_append, List.length_singleton]; omega) (Nat.le_trans hBw hW.2.1.size))
  rw [show wrE ⟨4, so, n, s, t, lb⟩ = 4 :: (txW (wrT t)) from rfl, List.append_cons l 4 (txW (wrT t))]
  simp only [evVal]
  clear h hbd hla hkt
  go_enter Tryz.func11, Tryz.ntmps11
  go_wp2_with (first
    | (go_at_call 17; go_must (refine cB.mono ?_; rintro e w2 ⟨rfl, h2⟩; have H2 := hideK (HA.out.trans h2); have k2 := bx_keep h2.2.2 KA.out (by have := ibLt HI.out; omega) (by decide); have d0 := Lib.cell_of_heap k2 0; have d1 := Lib.cell_of_heap k2 1; have d2 := Lib.cell_of_heap k2 2; have d3 := Lib.cell_of_heap k2 3; have d4 := Lib.cell_of_heap k2 4; have d5 := Lib.cell_of_heap k2 5; have d6 := Lib.cell_of_heap k2 6; have d7 := Lib.cell_of_heap k2 7; have d8 := Lib.cell_of_heap k2 8; have d9 := Lib.cell_of_heap k2 9; simp at d0 d1 d2 d3 d4 d5 d6 d7 d8 d9))
    | (go_at_call 19; refine (cR.out _ H2.out).mono ?_; rintro e w4 ⟨rfl, h4⟩))
  go_ret
  exact ⟨rfl, H2.out.trans h4⟩
set_option maxRecDepth 100000 in
set_option maxHeartbeats 4000000 in
theorem writeEvent_ok5 (_ : VSaid V Tabs) (_ : ∀ w w', Tabs w → Below B0 w w' → Tabs w') (B b d : Nat) (l : List UInt8) (so n : Int) (s : ByteArray) (t : Ty) (lb : ByteArray) (al : Option Addr) (cl : Nat) (ak : Option Addr) (ck : Nat) (w : World) (_ : Tabs w) (_ : B0 ≤ B) (h : Lib.IsBuilderF 47 5 B b (Lib.byteCells l) w) (hbd : TyBd t cl ck) (hla : LA w B t.labels al) (hkt : KT w B d t.kids ak) (hc : chkTy t = 0) (hlen : l.length ≤ 110000000000000) (hBw : B ≤ w.heap.size) :
    Calls Tryz.prog 11 #[.pointer (some ⟨b, 0, none⟩), evVal ⟨5, so, n, s, t, lb⟩ al cl ak ck] w fun e w' => e = .returned (.int .i64 0) ∧ WKP B b (l ++ wrE ⟨5, so, n, s, t, lb⟩) w w' := by
  have HA := hideK (WKP.al h hBw (.cells #[.int .i64 5, .int .i64 so, .int .i64 n, .string s, .int .i64 t.kind, .int .i64 t.so, .string t.name, .slice al t.labels.length cl, .slice ak t.kids.length ck, .string lb] 33))
  have KA := hideK (heap_alloc_new w (.cells #[.int .i64 5, .int .i64 so, .int .i64 n, .string s, .int .i64 t.kind, .int .i64 t.so, .string t.name, .slice al t.labels.length cl, .slice ak t.kids.length ck, .string lb] 33))
  have HI := hideK h
  have cB := writeByteW B b l 5 (w.alloc (.cells #[.int .i64 5, .int .i64 so, .int .i64 n, .string s, .int .i64 t.kind, .int .i64 t.so, .string t.name, .slice al t.labels.length cl, .slice ak t.kids.length ck, .string lb] 33)) HA.out.1 (by omega) (Nat.le_trans hBw HA.out.2.1.size)
  have cR := hideK (fun (W : World) (hW : WKP B b (l ++ [5]) w W) => writeType_ok B b d (l ++ [5]) t al cl ak ck W hW.1 hbd (NAt.keep hW.2.1 hla) (KT.keep hW.2.1 hkt) hc (by rw [List.length_append, List.length_singleton]; omega) (Nat.le_trans hBw hW.2.1.size))
  rw [show wrE ⟨5, so, n, s, t, lb⟩ = 5 :: (txW (wrT t)) from rfl, List.append_cons l 5 (txW (wrT t))]
  simp only [evVal]
  clear h hbd hla hkt
  go_enter Tryz.func11, Tryz.ntmps11
  go_wp2_with (first
    | (go_at_call 17; go_must (refine cB.mono ?_; rintro e w2 ⟨rfl, h2⟩; have H2 := hideK (HA.out.trans h2); have k2 := bx_keep h2.2.2 KA.out (by have := ibLt HI.out; omega) (by decide); have d0 := Lib.cell_of_heap k2 0; have d1 := Lib.cell_of_heap k2 1; have d2 := Lib.cell_of_heap k2 2; have d3 := Lib.cell_of_heap k2 3; have d4 := Lib.cell_of_heap k2 4; have d5 := Lib.cell_of_heap k2 5; have d6 := Lib.cell_of_heap k2 6; have d7 := Lib.cell_of_heap k2 7; have d8 := Lib.cell_of_heap k2 8; have d9 := Lib.cell_of_heap k2 9; simp at d0 d1 d2 d3 d4 d5 d6 d7 d8 d9))
    | (go_at_call 19; refine (cR.out _ H2.out).mono ?_; rintro e w4 ⟨rfl, h4⟩))
  go_ret
  exact ⟨rfl, H2.out.trans h4⟩
set_option maxRecDepth 100000 in
set_option maxHeartbeats 4000000 in
theorem writeEvent_ok6 (_ : VSaid V Tabs) (_ : ∀ w w', Tabs w → Below B0 w w' → Tabs w') (B b d : Nat) (l : List UInt8) (so n : Int) (s : ByteArray) (t : Ty) (lb : ByteArray) (al : Option Addr) (cl : Nat) (ak : Option Addr) (ck : Nat) (w : World) (_ : Tabs w) (_ : B0 ≤ B) (h : Lib.IsBuilderF 47 5 B b (Lib.byteCells l) w) (_ : TyBd t cl ck) (_ : LA w B t.labels al) (_ : KT w B d t.kids ak) (hc : isNm lb.data.toList = true) (hlen : l.length ≤ 110000000000000) (hBw : B ≤ w.heap.size) :
    Calls Tryz.prog 11 #[.pointer (some ⟨b, 0, none⟩), evVal ⟨6, so, n, s, t, lb⟩ al cl ak ck] w fun e w' => e = .returned (.int .i64 0) ∧ WKP B b (l ++ wrE ⟨6, so, n, s, t, lb⟩) w w' := by
  have HA := hideK (WKP.al h hBw (.cells #[.int .i64 6, .int .i64 so, .int .i64 n, .string s, .int .i64 t.kind, .int .i64 t.so, .string t.name, .slice al t.labels.length cl, .slice ak t.kids.length ck, .string lb] 33))
  have KA := hideK (heap_alloc_new w (.cells #[.int .i64 6, .int .i64 so, .int .i64 n, .string s, .int .i64 t.kind, .int .i64 t.so, .string t.name, .slice al t.labels.length cl, .slice ak t.kids.length ck, .string lb] 33))
  have HI := hideK h
  have cB := writeByteW B b l 6 (w.alloc (.cells #[.int .i64 6, .int .i64 so, .int .i64 n, .string s, .int .i64 t.kind, .int .i64 t.so, .string t.name, .slice al t.labels.length cl, .slice ak t.kids.length ck, .string lb] 33)) HA.out.1 (by omega) (Nat.le_trans hBw HA.out.2.1.size)
  have cR := hideK (fun (W : World) (hW : WKP B b (l ++ [6]) w W) => writeLabel_ok B b (l ++ [6]) lb W hW.1 hc (by rw [List.length_append, List.length_singleton]; omega) (Nat.le_trans hBw hW.2.1.size))
  rw [show wrE ⟨6, so, n, s, t, lb⟩ = 6 :: (txW lb.data.toList) from rfl, List.append_cons l 6 (txW lb.data.toList)]
  simp only [evVal]
  clear h
  go_enter Tryz.func11, Tryz.ntmps11
  go_wp2_with (first
    | (go_at_call 17; go_must (refine cB.mono ?_; rintro e w2 ⟨rfl, h2⟩; have H2 := hideK (HA.out.trans h2); have k2 := bx_keep h2.2.2 KA.out (by have := ibLt HI.out; omega) (by decide); have d0 := Lib.cell_of_heap k2 0; have d1 := Lib.cell_of_heap k2 1; have d2 := Lib.cell_of_heap k2 2; have d3 := Lib.cell_of_heap k2 3; have d4 := Lib.cell_of_heap k2 4; have d5 := Lib.cell_of_heap k2 5; have d6 := Lib.cell_of_heap k2 6; have d7 := Lib.cell_of_heap k2 7; have d8 := Lib.cell_of_heap k2 8; have d9 := Lib.cell_of_heap k2 9; simp at d0 d1 d2 d3 d4 d5 d6 d7 d8 d9))
    | (go_at_call 20; refine (cR.out _ H2.out).mono ?_; rintro e w4 ⟨rfl, h4⟩))
  go_ret
  exact ⟨rfl, H2.out.trans h4⟩
set_option maxRecDepth 100000 in
set_option maxHeartbeats 4000000 in
theorem writeEvent_ok7 (_ : VSaid V Tabs) (_ : ∀ w w', Tabs w → Below B0 w w' → Tabs w') (B b d : Nat) (l : List UInt8) (so n : Int) (s : ByteArray) (t : Ty) (lb : ByteArray) (al : Option Addr) (cl : Nat) (ak : Option Addr) (ck : Nat) (w : World) (_ : Tabs w) (_ : B0 ≤ B) (h : Lib.IsBuilderF 47 5 B b (Lib.byteCells l) w) (_ : TyBd t cl ck) (_ : LA w B t.labels al) (_ : KT w B d t.kids ak) (hc : isNm lb.data.toList = true) (hlen : l.length ≤ 110000000000000) (hBw : B ≤ w.heap.size) :
    Calls Tryz.prog 11 #[.pointer (some ⟨b, 0, none⟩), evVal ⟨7, so, n, s, t, lb⟩ al cl ak ck] w fun e w' => e = .returned (.int .i64 0) ∧ WKP B b (l ++ wrE ⟨7, so, n, s, t, lb⟩) w w' := by
  have HA := hideK (WKP.al h hBw (.cells #[.int .i64 7, .int .i64 so, .int .i64 n, .string s, .int .i64 t.kind, .int .i64 t.so, .string t.name, .slice al t.labels.length cl, .slice ak t.kids.length ck, .string lb] 33))
  have KA := hideK (heap_alloc_new w (.cells #[.int .i64 7, .int .i64 so, .int .i64 n, .string s, .int .i64 t.kind, .int .i64 t.so, .string t.name, .slice al t.labels.length cl, .slice ak t.kids.length ck, .string lb] 33))
  have HI := hideK h
  have cB := writeByteW B b l 7 (w.alloc (.cells #[.int .i64 7, .int .i64 so, .int .i64 n, .string s, .int .i64 t.kind, .int .i64 t.so, .string t.name, .slice al t.labels.length cl, .slice ak t.kids.length ck, .string lb] 33)) HA.out.1 (by omega) (Nat.le_trans hBw HA.out.2.1.size)
  have cR := hideK (fun (W : World) (hW : WKP B b (l ++ [7]) w W) => writeLabel_ok B b (l ++ [7]) lb W hW.1 hc (by rw [List.length_append, List.length_singleton]; omega) (Nat.le_trans hBw hW.2.1.size))
  rw [show wrE ⟨7, so, n, s, t, lb⟩ = 7 :: (txW lb.data.toList) from rfl, List.append_cons l 7 (txW lb.data.toList)]
  simp only [evVal]
  clear h
  go_enter Tryz.func11, Tryz.ntmps11
  go_wp2_with (first
    | (go_at_call 17; go_must (refine cB.mono ?_; rintro e w2 ⟨rfl, h2⟩; have H2 := hideK (HA.out.trans h2); have k2 := bx_keep h2.2.2 KA.out (by have := ibLt HI.out; omega) (by decide); have d0 := Lib.cell_of_heap k2 0; have d1 := Lib.cell_of_heap k2 1; have d2 := Lib.cell_of_heap k2 2; have d3 := Lib.cell_of_heap k2 3; have d4 := Lib.cell_of_heap k2 4; have d5 := Lib.cell_of_heap k2 5; have d6 := Lib.cell_of_heap k2 6; have d7 := Lib.cell_of_heap k2 7; have d8 := Lib.cell_of_heap k2 8; have d9 := Lib.cell_of_heap k2 9; simp at d0 d1 d2 d3 d4 d5 d6 d7 d8 d9))
    | (go_at_call 20; refine (cR.out _ H2.out).mono ?_; rintro e w4 ⟨rfl, h4⟩))
  go_ret
  exact ⟨rfl, H2.out.trans h4⟩
end
end Go.Proofs.YtefdekfgmbgbbaaGreatDoor
