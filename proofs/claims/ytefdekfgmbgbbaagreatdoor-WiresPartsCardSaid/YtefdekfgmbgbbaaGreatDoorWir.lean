/-
  The contract of package wires' writeEvent, of events that can't be written, and of all.
-/
import Derived.Test.YtefdekfgmbgbbaaGreatDoorWiq
namespace Go.Proofs.YtefdekfgmbgbbaaGreatDoor
open Go.RowKit Go.Shelf

section
variable {V : ByteArray → Bool} {Tabs : World → Prop} {B0 : Nat}
set_option maxRecDepth 100000 in
set_option maxHeartbeats 4000000 in
theorem writeEvent_bad2 (hV : VSaid V Tabs) (hK : ∀ w w', Tabs w → Below B0 w w' → Tabs w') (B b d : Nat) (l : List UInt8) (so n : Int) (s : ByteArray) (t : Ty) (lb : ByteArray) (al : Option Addr) (cl : Nat) (ak : Option Addr) (ck : Nat) (w : World) (hT : Tabs w) (hB : B0 ≤ B) (h : Lib.IsBuilderF 47 5 B b (Lib.byteCells l) w) (_ : TyBd t cl ck) (_ : LA w B t.labels al) (_ : KT w B d t.kids ak) (hc : chkZ V so n s ≠ 0) (hs8 : s.size ≤ 9223372036854775807) (hlen : l.length ≤ 110000000000000) (hBw : B ≤ w.heap.size) :
    Calls Tryz.prog 11 #[.pointer (some ⟨b, 0, none⟩), evVal ⟨2, so, n, s, t, lb⟩ al cl ak ck] w fun e w' => e = .returned (.int .i64 (chkZ V so n s)) ∧ Below B w w' := by
  have HA := hideK (WKP.al h hBw (.cells #[.int .i64 2, .int .i64 so, .int .i64 n, .string s, .int .i64 t.kind, .int .i64 t.so, .string t.name, .slice al t.labels.length cl, .slice ak t.kids.length ck, .string lb] 33))
  have KA := hideK (heap_alloc_new w (.cells #[.int .i64 2, .int .i64 so, .int .i64 n, .string s, .int .i64 t.kind, .int .i64 t.so, .string t.name, .slice al t.labels.length cl, .slice ak t.kids.length ck, .string lb] 33))
  have HI := hideK h
  have hK2 : ∀ w w', TabB Tabs B0 w → Below w.heap.size w w' → TabB Tabs B0 w' := TabB.k hK
  have cB := writeByteW B b l 2 (w.alloc (.cells #[.int .i64 2, .int .i64 so, .int .i64 n, .string s, .int .i64 t.kind, .int .i64 t.so, .string t.name, .slice al t.labels.length cl, .slice ak t.kids.length ck, .string lb] 33)) HA.out.1 (by omega) (Nat.le_trans hBw HA.out.2.1.size)
  have cR := hideK (fun (W : World) (hW : Below B w W) (hs : w.heap.size ≤ W.heap.size) => writeValue_bad (TabB.v (B0 := B0) hV) hK2 b so n s W ⟨hK w W hT (hW.mono hB), Nat.le_trans hB (Nat.le_trans hBw hs)⟩ hs8 hc)
  simp only [evVal]
  clear h hV hK hK2 hT
  go_enter Tryz.func11, Tryz.ntmps11
  go_wp2_with (first
    | (go_at_call 17; go_must (refine cB.mono ?_; rintro e w2 ⟨rfl, h2⟩; have H2 := hideK (HA.out.trans h2); have k2 := bx_keep h2.2.2 KA.out (by have := ibLt HI.out; omega) (by decide); have d0 := Lib.cell_of_heap k2 0; have d1 := Lib.cell_of_heap k2 1; have d2 := Lib.cell_of_heap k2 2; have d3 := Lib.cell_of_heap k2 3; have d4 := Lib.cell_of_heap k2 4; have d5 := Lib.cell_of_heap k2 5; have d6 := Lib.cell_of_heap k2 6; have d7 := Lib.cell_of_heap k2 7; have d8 := Lib.cell_of_heap k2 8; have d9 := Lib.cell_of_heap k2 9; simp at d0 d1 d2 d3 d4 d5 d6 d7 d8 d9))
    | (go_at_call 18; refine (cR.out _ H2.out.2.1 (H2.out.2.1.size)).mono ?_; rintro e w4 ⟨rfl, h4⟩))
  go_ret
  exact ⟨rfl, H2.out.2.1.trans (h4.mono (Nat.le_trans hBw H2.out.2.1.size))⟩
set_option maxRecDepth 100000 in
set_option maxHeartbeats 4000000 in
theorem writeEvent_bad3 (hV : VSaid V Tabs) (hK : ∀ w w', Tabs w → Below B0 w w' → Tabs w') (B b d : Nat) (l : List UInt8) (so n : Int) (s : ByteArray) (t : Ty) (lb : ByteArray) (al : Option Addr) (cl : Nat) (ak : Option Addr) (ck : Nat) (w : World) (hT : Tabs w) (hB : B0 ≤ B) (h : Lib.IsBuilderF 47 5 B b (Lib.byteCells l) w) (_ : TyBd t cl ck) (_ : LA w B t.labels al) (_ : KT w B d t.kids ak) (hc : chkZ V so n s ≠ 0) (hs8 : s.size ≤ 9223372036854775807) (hlen : l.length ≤ 110000000000000) (hBw : B ≤ w.heap.size) :
    Calls Tryz.prog 11 #[.pointer (some ⟨b, 0, none⟩), evVal ⟨3, so, n, s, t, lb⟩ al cl ak ck] w fun e w' => e = .returned (.int .i64 (chkZ V so n s)) ∧ Below B w w' := by
  have HA := hideK (WKP.al h hBw (.cells #[.int .i64 3, .int .i64 so, .int .i64 n, .string s, .int .i64 t.kind, .int .i64 t.so, .string t.name, .slice al t.labels.length cl, .slice ak t.kids.length ck, .string lb] 33))
  have KA := hideK (heap_alloc_new w (.cells #[.int .i64 3, .int .i64 so, .int .i64 n, .string s, .int .i64 t.kind, .int .i64 t.so, .string t.name, .slice al t.labels.length cl, .slice ak t.kids.length ck, .string lb] 33))
  have HI := hideK h
  have hK2 : ∀ w w', TabB Tabs B0 w → Below w.heap.size w w' → TabB Tabs B0 w' := TabB.k hK
  have cB := writeByteW B b l 3 (w.alloc (.cells #[.int .i64 3, .int .i64 so, .int .i64 n, .string s, .int .i64 t.kind, .int .i64 t.so, .string t.name, .slice al t.labels.length cl, .slice ak t.kids.length ck, .string lb] 33)) HA.out.1 (by omega) (Nat.le_trans hBw HA.out.2.1.size)
  have cR := hideK (fun (W : World) (hW : Below B w W) (hs : w.heap.size ≤ W.heap.size) => writeValue_bad (TabB.v (B0 := B0) hV) hK2 b so n s W ⟨hK w W hT (hW.mono hB), Nat.le_trans hB (Nat.le_trans hBw hs)⟩ hs8 hc)
  simp only [evVal]
  clear h hV hK hK2 hT
  go_enter Tryz.func11, Tryz.ntmps11
  go_wp2_with (first
    | (go_at_call 17; go_must (refine cB.mono ?_; rintro e w2 ⟨rfl, h2⟩; have H2 := hideK (HA.out.trans h2); have k2 := bx_keep h2.2.2 KA.out (by have := ibLt HI.out; omega) (by decide); have d0 := Lib.cell_of_heap k2 0; have d1 := Lib.cell_of_heap k2 1; have d2 := Lib.cell_of_heap k2 2; have d3 := Lib.cell_of_heap k2 3; have d4 := Lib.cell_of_heap k2 4; have d5 := Lib.cell_of_heap k2 5; have d6 := Lib.cell_of_heap k2 6; have d7 := Lib.cell_of_heap k2 7; have d8 := Lib.cell_of_heap k2 8; have d9 := Lib.cell_of_heap k2 9; simp at d0 d1 d2 d3 d4 d5 d6 d7 d8 d9))
    | (go_at_call 18; refine (cR.out _ H2.out.2.1 (H2.out.2.1.size)).mono ?_; rintro e w4 ⟨rfl, h4⟩))
  go_ret
  exact ⟨rfl, H2.out.2.1.trans (h4.mono (Nat.le_trans hBw H2.out.2.1.size))⟩
set_option maxRecDepth 100000 in
set_option maxHeartbeats 4000000 in
theorem writeEvent_bad4 (_ : VSaid V Tabs) (_ : ∀ w w', Tabs w → Below B0 w w' → Tabs w') (B b d : Nat) (l : List UInt8) (so n : Int) (s : ByteArray) (t : Ty) (lb : ByteArray) (al : Option Addr) (cl : Nat) (ak : Option Addr) (ck : Nat) (w : World) (_ : Tabs w) (_ : B0 ≤ B) (h : Lib.IsBuilderF 47 5 B b (Lib.byteCells l) w) (hbd : TyBd t cl ck) (hla : LA w B t.labels al) (hkt : KT w B d t.kids ak) (hc : chkTy t ≠ 0) (hlen : l.length ≤ 110000000000000) (hBw : B ≤ w.heap.size) :
    Calls Tryz.prog 11 #[.pointer (some ⟨b, 0, none⟩), evVal ⟨4, so, n, s, t, lb⟩ al cl ak ck] w fun e w' => e = .returned (.int .i64 (chkTy t)) ∧ Below B w w' := by
  have HA := hideK (WKP.al h hBw (.cells #[.int .i64 4, .int .i64 so, .int .i64 n, .string s, .int .i64 t.kind, .int .i64 t.so, .string t.name, .slice al t.labels.length cl, .slice ak t.kids.length ck, .string lb] 33))
  have KA := hideK (heap_alloc_new w (.cells #[.int .i64 4, .int .i64 so, .int .i64 n, .string s, .int .i64 t.kind, .int .i64 t.so, .string t.name, .slice al t.labels.length cl, .slice ak t.kids.length ck, .string lb] 33))
  have HI := hideK h
  have cB := writeByteW B b l 4 (w.alloc (.cells #[.int .i64 4, .int .i64 so, .int .i64 n, .string s, .int .i64 t.kind, .int .i64 t.so, .string t.name, .slice al t.labels.length cl, .slice ak t.kids.length ck, .string lb] 33)) HA.out.1 (by omega) (Nat.le_trans hBw HA.out.2.1.size)
  have cR := hideK (fun (W : World) (hW : Below B w W) (hs : w.heap.size ≤ W.heap.size) => writeType_bad B b d t al cl ak ck W hbd (NAt.keep hW hla) (KT.keep hW hkt) hc (Nat.le_trans hBw hs))
  simp only [evVal]
  clear h hbd hla hkt
  go_enter Tryz.func11, Tryz.ntmps11
  go_wp2_with (first
    | (go_at_call 17; go_must (refine cB.mono ?_; rintro e w2 ⟨rfl, h2⟩; have H2 := hideK (HA.out.trans h2); have k2 := bx_keep h2.2.2 KA.out (by have := ibLt HI.out; omega) (by decide); have d0 := Lib.cell_of_heap k2 0; have d1 := Lib.cell_of_heap k2 1; have d2 := Lib.cell_of_heap k2 2; have d3 := Lib.cell_of_heap k2 3; have d4 := Lib.cell_of_heap k2 4; have d5 := Lib.cell_of_heap k2 5; have d6 := Lib.cell_of_heap k2 6; have d7 := Lib.cell_of_heap k2 7; have d8 := Lib.cell_of_heap k2 8; have d9 := Lib.cell_of_heap k2 9; simp at d0 d1 d2 d3 d4 d5 d6 d7 d8 d9))
    | (go_at_call 19; refine (cR.out _ H2.out.2.1 (H2.out.2.1.size)).mono ?_; rintro e w4 ⟨rfl, h4⟩))
  go_ret
  exact ⟨rfl, H2.out.2.1.trans (h4.mono (Nat.le_trans hBw H2.out.2.1.size))⟩
set_option maxRecDepth 100000 in
set_option maxHeartbeats 4000000 in
theorem writeEvent_bad5 (_ : VSaid V Tabs) (_ : ∀ w w', Tabs w → Below B0 w w' → Tabs w') (B b d : Nat) (l : List UInt8) (so n : Int) (s : ByteArray) (t : Ty) (lb : ByteArray) (al : Option Addr) (cl : Nat) (ak : Option Addr) (ck : Nat) (w : World) (_ : Tabs w) (_ : B0 ≤ B) (h : Lib.IsBuilderF 47 5 B b (Lib.byteCells l) w) (hbd : TyBd t cl ck) (hla : LA w B t.labels al) (hkt : KT w B d t.kids ak) (hc : chkTy t ≠ 0) (hlen : l.length ≤ 110000000000000) (hBw : B ≤ w.heap.size) :
    Calls Tryz.prog 11 #[.pointer (some ⟨b, 0, none⟩), evVal ⟨5, so, n, s, t, lb⟩ al cl ak ck] w fun e w' => e = .returned (.int .i64 (chkTy t)) ∧ Below B w w' := by
  have HA := hideK (WKP.al h hBw (.cells #[.int .i64 5, .int .i64 so, .int .i64 n, .string s, .int .i64 t.kind, .int .i64 t.so, .string t.name, .slice al t.labels.length cl, .slice ak t.kids.length ck, .string lb] 33))
  have KA := hideK (heap_alloc_new w (.cells #[.int .i64 5, .int .i64 so, .int .i64 n, .string s, .int .i64 t.kind, .int .i64 t.so, .string t.name, .slice al t.labels.length cl, .slice ak t.kids.length ck, .string lb] 33))
  have HI := hideK h
  have cB := writeByteW B b l 5 (w.alloc (.cells #[.int .i64 5, .int .i64 so, .int .i64 n, .string s, .int .i64 t.kind, .int .i64 t.so, .string t.name, .slice al t.labels.length cl, .slice ak t.kids.length ck, .string lb] 33)) HA.out.1 (by omega) (Nat.le_trans hBw HA.out.2.1.size)
  have cR := hideK (fun (W : World) (hW : Below B w W) (hs : w.heap.size ≤ W.heap.size) => writeType_bad B b d t al cl ak ck W hbd (NAt.keep hW hla) (KT.keep hW hkt) hc (Nat.le_trans hBw hs))
  simp only [evVal]
  clear h hbd hla hkt
  go_enter Tryz.func11, Tryz.ntmps11
  go_wp2_with (first
    | (go_at_call 17; go_must (refine cB.mono ?_; rintro e w2 ⟨rfl, h2⟩; have H2 := hideK (HA.out.trans h2); have k2 := bx_keep h2.2.2 KA.out (by have := ibLt HI.out; omega) (by decide); have d0 := Lib.cell_of_heap k2 0; have d1 := Lib.cell_of_heap k2 1; have d2 := Lib.cell_of_heap k2 2; have d3 := Lib.cell_of_heap k2 3; have d4 := Lib.cell_of_heap k2 4; have d5 := Lib.cell_of_heap k2 5; have d6 := Lib.cell_of_heap k2 6; have d7 := Lib.cell_of_heap k2 7; have d8 := Lib.cell_of_heap k2 8; have d9 := Lib.cell_of_heap k2 9; simp at d0 d1 d2 d3 d4 d5 d6 d7 d8 d9))
    | (go_at_call 19; refine (cR.out _ H2.out.2.1 (H2.out.2.1.size)).mono ?_; rintro e w4 ⟨rfl, h4⟩))
  go_ret
  exact ⟨rfl, H2.out.2.1.trans (h4.mono (Nat.le_trans hBw H2.out.2.1.size))⟩
set_option maxRecDepth 100000 in
set_option maxHeartbeats 4000000 in
theorem writeEvent_bad6 (_ : VSaid V Tabs) (_ : ∀ w w', Tabs w → Below B0 w w' → Tabs w') (B b d : Nat) (l : List UInt8) (so n : Int) (s : ByteArray) (t : Ty) (lb : ByteArray) (al : Option Addr) (cl : Nat) (ak : Option Addr) (ck : Nat) (w : World) (_ : Tabs w) (_ : B0 ≤ B) (h : Lib.IsBuilderF 47 5 B b (Lib.byteCells l) w) (_ : TyBd t cl ck) (_ : LA w B t.labels al) (_ : KT w B d t.kids ak) (hc : isNm lb.data.toList = false) (hl8 : lb.size ≤ 9223372036854775807) (hlen : l.length ≤ 110000000000000) (hBw : B ≤ w.heap.size) :
    Calls Tryz.prog 11 #[.pointer (some ⟨b, 0, none⟩), evVal ⟨6, so, n, s, t, lb⟩ al cl ak ck] w fun e w' => e = .returned (.int .i64 (1)) ∧ Below B w w' := by
  have HA := hideK (WKP.al h hBw (.cells #[.int .i64 6, .int .i64 so, .int .i64 n, .string s, .int .i64 t.kind, .int .i64 t.so, .string t.name, .slice al t.labels.length cl, .slice ak t.kids.length ck, .string lb] 33))
  have KA := hideK (heap_alloc_new w (.cells #[.int .i64 6, .int .i64 so, .int .i64 n, .string s, .int .i64 t.kind, .int .i64 t.so, .string t.name, .slice al t.labels.length cl, .slice ak t.kids.length ck, .string lb] 33))
  have HI := hideK h
  have cB := writeByteW B b l 6 (w.alloc (.cells #[.int .i64 6, .int .i64 so, .int .i64 n, .string s, .int .i64 t.kind, .int .i64 t.so, .string t.name, .slice al t.labels.length cl, .slice ak t.kids.length ck, .string lb] 33)) HA.out.1 (by omega) (Nat.le_trans hBw HA.out.2.1.size)
  have cR := hideK (fun (W : World) (_ : Below B w W) (_ : w.heap.size ≤ W.heap.size) => writeLabel_bad b lb W hc hl8)
  simp only [evVal]
  clear h
  go_enter Tryz.func11, Tryz.ntmps11
  go_wp2_with (first
    | (go_at_call 17; go_must (refine cB.mono ?_; rintro e w2 ⟨rfl, h2⟩; have H2 := hideK (HA.out.trans h2); have k2 := bx_keep h2.2.2 KA.out (by have := ibLt HI.out; omega) (by decide); have d0 := Lib.cell_of_heap k2 0; have d1 := Lib.cell_of_heap k2 1; have d2 := Lib.cell_of_heap k2 2; have d3 := Lib.cell_of_heap k2 3; have d4 := Lib.cell_of_heap k2 4; have d5 := Lib.cell_of_heap k2 5; have d6 := Lib.cell_of_heap k2 6; have d7 := Lib.cell_of_heap k2 7; have d8 := Lib.cell_of_heap k2 8; have d9 := Lib.cell_of_heap k2 9; simp at d0 d1 d2 d3 d4 d5 d6 d7 d8 d9))
    | (go_at_call 20; refine (cR.out _ H2.out.2.1 (H2.out.2.1.size)).mono ?_; rintro e w4 ⟨rfl, h4⟩))
  go_ret
  exact ⟨rfl, H2.out.2.1.trans (h4.mono (Nat.le_trans hBw H2.out.2.1.size))⟩
set_option maxRecDepth 100000 in
set_option maxHeartbeats 4000000 in
theorem writeEvent_bad7 (_ : VSaid V Tabs) (_ : ∀ w w', Tabs w → Below B0 w w' → Tabs w') (B b d : Nat) (l : List UInt8) (so n : Int) (s : ByteArray) (t : Ty) (lb : ByteArray) (al : Option Addr) (cl : Nat) (ak : Option Addr) (ck : Nat) (w : World) (_ : Tabs w) (_ : B0 ≤ B) (h : Lib.IsBuilderF 47 5 B b (Lib.byteCells l) w) (_ : TyBd t cl ck) (_ : LA w B t.labels al) (_ : KT w B d t.kids ak) (hc : isNm lb.data.toList = false) (hl8 : lb.size ≤ 9223372036854775807) (hlen : l.length ≤ 110000000000000) (hBw : B ≤ w.heap.size) :
    Calls Tryz.prog 11 #[.pointer (some ⟨b, 0, none⟩), evVal ⟨7, so, n, s, t, lb⟩ al cl ak ck] w fun e w' => e = .returned (.int .i64 (1)) ∧ Below B w w' := by
  have HA := hideK (WKP.al h hBw (.cells #[.int .i64 7, .int .i64 so, .int .i64 n, .string s, .int .i64 t.kind, .int .i64 t.so, .string t.name, .slice al t.labels.length cl, .slice ak t.kids.length ck, .string lb] 33))
  have KA := hideK (heap_alloc_new w (.cells #[.int .i64 7, .int .i64 so, .int .i64 n, .string s, .int .i64 t.kind, .int .i64 t.so, .string t.name, .slice al t.labels.length cl, .slice ak t.kids.length ck, .string lb] 33))
  have HI := hideK h
  have cB := writeByteW B b l 7 (w.alloc (.cells #[.int .i64 7, .int .i64 so, .int .i64 n, .string s, .int .i64 t.kind, .int .i64 t.so, .string t.name, .slice al t.labels.length cl, .slice ak t.kids.length ck, .string lb] 33)) HA.out.1 (by omega) (Nat.le_trans hBw HA.out.2.1.size)
  have cR := hideK (fun (W : World) (_ : Below B w W) (_ : w.heap.size ≤ W.heap.size) => writeLabel_bad b lb W hc hl8)
  simp only [evVal]
  clear h
  go_enter Tryz.func11, Tryz.ntmps11
  go_wp2_with (first
    | (go_at_call 17; go_must (refine cB.mono ?_; rintro e w2 ⟨rfl, h2⟩; have H2 := hideK (HA.out.trans h2); have k2 := bx_keep h2.2.2 KA.out (by have := ibLt HI.out; omega) (by decide); have d0 := Lib.cell_of_heap k2 0; have d1 := Lib.cell_of_heap k2 1; have d2 := Lib.cell_of_heap k2 2; have d3 := Lib.cell_of_heap k2 3; have d4 := Lib.cell_of_heap k2 4; have d5 := Lib.cell_of_heap k2 5; have d6 := Lib.cell_of_heap k2 6; have d7 := Lib.cell_of_heap k2 7; have d8 := Lib.cell_of_heap k2 8; have d9 := Lib.cell_of_heap k2 9; simp at d0 d1 d2 d3 d4 d5 d6 d7 d8 d9))
    | (go_at_call 20; refine (cR.out _ H2.out.2.1 (H2.out.2.1.size)).mono ?_; rintro e w4 ⟨rfl, h4⟩))
  go_ret
  exact ⟨rfl, H2.out.2.1.trans (h4.mono (Nat.le_trans hBw H2.out.2.1.size))⟩
set_option maxRecDepth 100000 in
set_option maxHeartbeats 4000000 in
theorem writeEvent_none (B b : Nat) (l : List UInt8) (x : Ev) (al : Option Addr) (cl : Nat) (ak : Option Addr) (ck : Nat) (w : World) (h : Lib.IsBuilderF 47 5 B b (Lib.byteCells l) w) (hk : x.kind ≠ 2 ∧ x.kind ≠ 3 ∧ x.kind ≠ 4 ∧ x.kind ≠ 5 ∧ x.kind ≠ 6 ∧ x.kind ≠ 7) (hlen : l.length ≤ 110000000000000) (hBw : B ≤ w.heap.size) :
    Calls Tryz.prog 11 #[.pointer (some ⟨b, 0, none⟩), evVal x al cl ak ck] w fun e w' => e = .returned (.int .i64 1) ∧ Below B w w' := by
  have HA := hideK (WKP.al h hBw (.cells #[.int .i64 x.kind, .int .i64 x.so, .int .i64 x.n, .string x.s, .int .i64 x.carry.kind, .int .i64 x.carry.so, .string x.carry.name, .slice al x.carry.labels.length cl, .slice ak x.carry.kids.length ck, .string x.label] 33))
  have KA := hideK (heap_alloc_new w (.cells #[.int .i64 x.kind, .int .i64 x.so, .int .i64 x.n, .string x.s, .int .i64 x.carry.kind, .int .i64 x.carry.so, .string x.carry.name, .slice al x.carry.labels.length cl, .slice ak x.carry.kids.length ck, .string x.label] 33))
  have HI := hideK h
  have cB := hideK (fun (c : Int) => writeByteK B b (Lib.byteCells l) c (w.alloc (.cells #[.int .i64 x.kind, .int .i64 x.so, .int .i64 x.n, .string x.s, .int .i64 x.carry.kind, .int .i64 x.carry.so, .string x.carry.name, .slice al x.carry.labels.length cl, .slice ak x.carry.kids.length ck, .string x.label] 33)) HA.out.1 (by rw [Lib.byteCells_length]; omega) (Nat.le_trans hBw HA.out.2.1.size))
  obtain ⟨k2', k3', k4', k5', k6', k7'⟩ := hk
  have e2 : (x.kind == 2) = false := by simpa using k2'
  have e3 : (x.kind == 3) = false := by simpa using k3'
  have e4 : (x.kind == 4) = false := by simpa using k4'
  have e5 : (x.kind == 5) = false := by simpa using k5'
  have e6 : (x.kind == 6) = false := by simpa using k6'
  have e7 : (x.kind == 7) = false := by simpa using k7'
  unfold evVal
  clear h
  go_enter Tryz.func11, Tryz.ntmps11
  go_wp2_with (go_at_call 17; go_must (refine (cB.out _).mono ?_; rintro e w2 ⟨rfl, h2⟩; have H2 := hideK (HA.out.2.1.trans h2.2.1); have k2 := bx_keep h2.2.2 KA.out (by have := ibLt HI.out; omega) (by decide); have d0 := Lib.cell_of_heap k2 0; have d1 := Lib.cell_of_heap k2 1; have d2 := Lib.cell_of_heap k2 2; have d3 := Lib.cell_of_heap k2 3; have d4 := Lib.cell_of_heap k2 4; have d5 := Lib.cell_of_heap k2 5; have d6 := Lib.cell_of_heap k2 6; have d7 := Lib.cell_of_heap k2 7; have d8 := Lib.cell_of_heap k2 8; have d9 := Lib.cell_of_heap k2 9; simp at d0 d1 d2 d3 d4 d5 d6 d7 d8 d9))
  go_ret
  exact ⟨rfl, H2.out⟩
end
/-- what is written of events -/
def wrL (xs : List Ev) : List UInt8 := xs.flatMap wrE
section
variable {V : ByteArray → Bool} {Tabs : World → Prop} {B0 : Nat}
theorem writeEvent_good (hV : VSaid V Tabs) (hK : ∀ w w', Tabs w → Below B0 w w' → Tabs w') (B b d : Nat) (l : List UInt8) (x : Ev) (al : Option Addr) (cl : Nat) (ak : Option Addr) (ck : Nat) (w : World) (hT : Tabs w) (hB : B0 ≤ B) (h : Lib.IsBuilderF 47 5 B b (Lib.byteCells l) w) (hbd : TyBd x.carry cl ck) (hla : LA w B x.carry.labels al) (hkt : KT w B d x.carry.kids ak) (hc : weZ V x = 0) (hn : -9223372036854775808 ≤ x.n ∧ x.n ≤ 9223372036854775807) (hlen : l.length ≤ 110000000000000) (hBw : B ≤ w.heap.size) :
    Calls Tryz.prog 11 #[.pointer (some ⟨b, 0, none⟩), evVal x al cl ak ck] w fun e w' => e = .returned (.int .i64 0) ∧ WKP B b (l ++ wrE x) w w' := by
  obtain ⟨kd, so, n, s, t, lb⟩ := x
  unfold weZ at hc
  simp only at hc hbd hla hkt hn
  by_cases h1 : kd = 2 ∨ kd = 3
  · rw [if_pos h1] at hc
    rcases h1 with rfl | rfl
    · exact writeEvent_ok2 hV hK B b d l so n s t lb al cl ak ck w hT hB h hbd hla hkt hc hn hlen hBw
    · exact writeEvent_ok3 hV hK B b d l so n s t lb al cl ak ck w hT hB h hbd hla hkt hc hn hlen hBw
  rw [if_neg h1] at hc
  by_cases h2 : kd = 4 ∨ kd = 5
  · rw [if_pos h2] at hc
    rcases h2 with rfl | rfl
    · exact writeEvent_ok4 hV hK B b d l so n s t lb al cl ak ck w hT hB h hbd hla hkt hc hlen hBw
    · exact writeEvent_ok5 hV hK B b d l so n s t lb al cl ak ck w hT hB h hbd hla hkt hc hlen hBw
  rw [if_neg h2] at hc
  by_cases h3 : kd = 6 ∨ kd = 7
  · rw [if_pos h3] at hc
    have hc2 : isNm lb.data.toList = true := by
      cases hq : isNm lb.data.toList
      · rw [hq] at hc; simp at hc
      · rfl
    rcases h3 with rfl | rfl
    · exact writeEvent_ok6 hV hK B b d l so n s t lb al cl ak ck w hT hB h hbd hla hkt hc2 hlen hBw
    · exact writeEvent_ok7 hV hK B b d l so n s t lb al cl ak ck w hT hB h hbd hla hkt hc2 hlen hBw
  rw [if_neg h3] at hc
  omega
theorem writeEvent_fail (hV : VSaid V Tabs) (hK : ∀ w w', Tabs w → Below B0 w w' → Tabs w') (B b d : Nat) (l : List UInt8) (x : Ev) (al : Option Addr) (cl : Nat) (ak : Option Addr) (ck : Nat) (w : World) (hT : Tabs w) (hB : B0 ≤ B) (h : Lib.IsBuilderF 47 5 B b (Lib.byteCells l) w) (hbd : TyBd x.carry cl ck) (hla : LA w B x.carry.labels al) (hkt : KT w B d x.carry.kids ak) (hc : weZ V x ≠ 0) (hs8 : x.s.size ≤ 9223372036854775807) (hl8 : x.label.size ≤ 9223372036854775807) (hlen : l.length ≤ 110000000000000) (hBw : B ≤ w.heap.size) :
    Calls Tryz.prog 11 #[.pointer (some ⟨b, 0, none⟩), evVal x al cl ak ck] w fun e w' => e = .returned (.int .i64 (weZ V x)) ∧ Below B w w' := by
  by_cases hk : x.kind ≠ 2 ∧ x.kind ≠ 3 ∧ x.kind ≠ 4 ∧ x.kind ≠ 5 ∧ x.kind ≠ 6 ∧ x.kind ≠ 7
  · have e : weZ V x = 1 := by unfold weZ; rw [if_neg (by omega), if_neg (by omega), if_neg (by omega)]
    rw [e]
    exact writeEvent_none B b l x al cl ak ck w h hk hlen hBw
  obtain ⟨kd, so, n, s, t, lb⟩ := x
  unfold weZ at hc ⊢
  simp only at hc hbd hla hkt hs8 hl8 hk ⊢
  by_cases h1 : kd = 2 ∨ kd = 3
  · rw [if_pos h1] at hc ⊢
    rcases h1 with rfl | rfl
    · exact writeEvent_bad2 hV hK B b d l so n s t lb al cl ak ck w hT hB h hbd hla hkt hc hs8 hlen hBw
    · exact writeEvent_bad3 hV hK B b d l so n s t lb al cl ak ck w hT hB h hbd hla hkt hc hs8 hlen hBw
  rw [if_neg h1] at hc ⊢
  by_cases h2 : kd = 4 ∨ kd = 5
  · rw [if_pos h2] at hc ⊢
    rcases h2 with rfl | rfl
    · exact writeEvent_bad4 hV hK B b d l so n s t lb al cl ak ck w hT hB h hbd hla hkt hc hlen hBw
    · exact writeEvent_bad5 hV hK B b d l so n s t lb al cl ak ck w hT hB h hbd hla hkt hc hlen hBw
  rw [if_neg h2] at hc ⊢
  have h3 : kd = 6 ∨ kd = 7 := by omega
  rw [if_pos h3] at hc ⊢
  have hc2 : isNm lb.data.toList = false := by
    cases hq : isNm lb.data.toList
    · rfl
    · rw [hq] at hc; simp at hc
  rw [hc2, if_neg (by simp)]
  rcases h3 with rfl | rfl
  · exact writeEvent_bad6 hV hK B b d l so n s t lb al cl ak ck w hT hB h hbd hla hkt hc2 hl8 hlen hBw
  · exact writeEvent_bad7 hV hK B b d l so n s t lb al cl ak ck w hT hB h hbd hla hkt hc2 hl8 hlen hBw
end
end Go.Proofs.YtefdekfgmbgbbaaGreatDoor
