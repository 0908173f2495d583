/-
  An event in a box of its own: loaded whole, stored whole, written to in part.
-/
import Derived.Test.YtefdekfgmbgbbaaGreatDoorMo
import Derived.Test.YtefdekfgmbgbbaaGreatDoorKn
namespace Go.Proofs.YtefdekfgmbgbbaaGreatDoor
open Go.RowKit Go.Shelf

abbrev evL (x : Ev) (al : Option Addr) (cl : Nat) (ak : Option Addr) (ck : Nat) : List Value := [.int .i64 x.kind, .int .i64 x.so, .int .i64 x.n, .string x.s, .int .i64 x.carry.kind, .int .i64 x.carry.so, .string x.carry.name, .slice al x.carry.labels.length cl, .slice ak x.carry.kids.length ck, .string x.label]
theorem evL_one (x : Ev) (al : Option Addr) (cl : Nat) (ak : Option Addr) (ck : Nat) : ∀ v ∈ evL x al cl ak ck, v.oneCell' = true := by
  intro v hv
  simp only [evL, List.mem_cons, List.not_mem_nil, or_false] at hv
  rcases hv with rfl | rfl | rfl | rfl | rfl | rfl | rfl | rfl | rfl | rfl <;> rfl
/-- an event in a box that may be written -/
structure EvB (W : World) (b : Nat) (x : Ev) (al : Option Addr) (cl : Nat) (ak : Option Addr) (ck : Nat) : Prop where
  at0 : ∀ j (h : j < 10), W.cell? ⟨b, j, none⟩ = some ((evL x al cl ak ck)[j]'h)
  f : ∀ o, W.frozen? ⟨b, o, none⟩ = false
  lt : b < W.heap.size
theorem frozen_setCells (b : Nat) (p : Addr) : ∀ (vs : List Value) (o : Nat) (w : World), (w.setCells b o vs).frozen? p = w.frozen? p
  | [], _, _ => rfl
  | v :: r, o, w => by rw [World.setCells, frozen_setCells b p r, World.frozen?_setCell]
theorem FR.setCells {rb b : Nat} {w : World} (hb : w.heap.size ≤ b) : ∀ (vs : List Value) (o : Nat) (W : World), FR rb w W → FR rb w (W.setCells b o vs)
  | [], _, _, h => h
  | v :: r, o, W, h => by rw [World.setCells]; exact FR.setCells hb r (o + 1) _ (h.setN hb v)
theorem EvB.new (W : World) (x : Ev) (al : Option Addr) (cl : Nat) (ak : Option Addr) (ck : Nat) : EvB (W.alloc (.cells #[.int .i64 x.kind, .int .i64 x.so, .int .i64 x.n, .string x.s, .int .i64 x.carry.kind, .int .i64 x.carry.so, .string x.carry.name, .slice al x.carry.labels.length cl, .slice ak x.carry.kids.length ck, .string x.label] 33)) W.heap.size x al cl ak ck := by
  refine ⟨fun j h => ?_, fun o => by go_simp, by simp⟩
  rw [World.cell?_alloc_new]
  match j, h with
  | 0, _ => rfl
  | 1, _ => rfl
  | 2, _ => rfl
  | 3, _ => rfl
  | 4, _ => rfl
  | 5, _ => rfl
  | 6, _ => rfl
  | 7, _ => rfl
  | 8, _ => rfl
  | 9, _ => rfl
theorem EvB.keepF {W : World} {b : Nat} {x : Ev} {al : Option Addr} {cl : Nat} {ak : Option Addr} {ck : Nat} {W' : World} {rb : Nat} (h : EvB W b x al cl ak ck) (hf : FR rb W W') (hn : b ≠ rb) : EvB W' b x al cl ak ck :=
  ⟨fun j hj => (hf.cellO h.lt hn).trans (h.at0 j hj), fun o => (hf.frozenO h.lt hn).trans (h.f o), Nat.lt_of_lt_of_le h.lt hf.size⟩
theorem EvB.cells {W : World} {b : Nat} {x : Ev} {al : Option Addr} {cl : Nat} {ak : Option Addr} {ck : Nat} (h : EvB W b x al cl ak ck) : W.cell? ⟨b, 0, none⟩ = some (.int .i64 x.kind) ∧ W.cell? ⟨b, 1, none⟩ = some (.int .i64 x.so) ∧ W.cell? ⟨b, 2, none⟩ = some (.int .i64 x.n) ∧ W.cell? ⟨b, 3, none⟩ = some (.string x.s) ∧ W.cell? ⟨b, 4, none⟩ = some (.int .i64 x.carry.kind) ∧ W.cell? ⟨b, 5, none⟩ = some (.int .i64 x.carry.so) ∧ W.cell? ⟨b, 6, none⟩ = some (.string x.carry.name) ∧ W.cell? ⟨b, 7, none⟩ = some (.slice al x.carry.labels.length cl) ∧ W.cell? ⟨b, 8, none⟩ = some (.slice ak x.carry.kids.length ck) ∧ W.cell? ⟨b, 9, none⟩ = some (.string x.label) :=
  ⟨h.at0 0 (by omega), h.at0 1 (by omega), h.at0 2 (by omega), h.at0 3 (by omega), h.at0 4 (by omega), h.at0 5 (by omega), h.at0 6 (by omega), h.at0 7 (by omega), h.at0 8 (by omega), h.at0 9 (by omega)⟩
theorem load_evB {W : World} {b : Nat} {x : Ev} {al : Option Addr} {cl : Nat} {ak : Option Addr} {ck : Nat} (h : EvB W b x al cl ak ck) : (Instr.loadAt 33 (.pointer (some ⟨b, 0, none⟩))).run Tryz.prog W = .ok (evVal x al cl ak ck) W :=
  load_list (n := 10) (cs := evL x al cl ak ck) rfl (fun j v hj => by
    have hlt : j < 10 := (List.getElem?_eq_some_iff.1 hj).1
    rw [Nat.zero_add, h.at0 j hlt]
    rw [List.getElem?_eq_getElem hlt] at hj
    exact hj) (fun l hl => by
    unfold Instr.loadAt loadVar
    simp [Instr.sureAddr, hl, Result.andThen])
theorem loadVar_evB {W : World} {b : Nat} {x : Ev} {al : Option Addr} {cl : Nat} {ak : Option Addr} {ck : Nat} (h : EvB W b x al cl ak ck) : (loadVar 33 ⟨b, 0, none⟩).run Tryz.prog W = .ok (evVal x al cl ak ck) W := by
  have := load_evB h
  simpa [Instr.loadAt, Instr.sureAddr, Result.andThen] using this
theorem EvB.box {W : World} {b : Nat} {x : Ev} {al : Option Addr} {cl : Nat} {ak : Option Addr} {ck : Nat} (h : EvB W b x al cl ak ck) : BXN W b 10 := ⟨fun j hj => by rw [h.at0 j hj]; rfl, h.f, h.lt⟩
theorem BXN.ev {W : World} {b : Nat} (h : BXN W b 10) (x : Ev) (al : Option Addr) (cl : Nat) (ak : Option Addr) (ck : Nat) : EvB (W.setCells b 0 (evL x al cl ak ck)) b x al cl ak ck := by
  obtain ⟨W9, e9, h9, k9, s9, b9⟩ := h.put (evL x al cl ak ck) rfl
  rw [e9]
  refine ⟨fun j hj => h9 j hj, fun o => ?_, by rw [s9]; exact h.lt⟩
  rw [← e9]
  rw [frozen_setCells]
  exact h.f o
theorem EvB.val {W : World} {b : Nat} {x : Ev} {al : Option Addr} {cl : Nat} {ak : Option Addr} {ck : Nat} (h : EvB W b x al cl ak ck) (so n : Int) (s : ByteArray) : EvB (((W.setCell ⟨b, 1, none⟩ (.int .i64 so)).setCell ⟨b, 2, none⟩ (.int .i64 n)).setCell ⟨b, 3, none⟩ (.string s)) b ⟨x.kind, so, n, s, x.carry, x.label⟩ al cl ak ck := by
  obtain ⟨c0, c1, c2, c3, c4, c5, c6, c7, c8, c9⟩ := h.cells
  refine ⟨fun j hj => ?_, fun o => by simp only [World.frozen?_setCell]; exact h.f o, by simp only [World.size_setCell]; exact h.lt⟩
  match j, hj with
  | 0, _ => show _ = some _; go_cell
  | 1, _ => show _ = some _; go_cell
  | 2, _ => show _ = some _; go_cell
  | 3, _ => show _ = some _; go_cell
  | 4, _ => show _ = some _; go_cell
  | 5, _ => show _ = some _; go_cell
  | 6, _ => show _ = some _; go_cell
  | 7, _ => show _ = some _; go_cell
  | 8, _ => show _ = some _; go_cell
  | 9, _ => show _ = some _; go_cell
theorem EvB.car {W : World} {b : Nat} {x : Ev} {al : Option Addr} {cl : Nat} {ak : Option Addr} {ck : Nat} (h : EvB W b x al cl ak ck) (y : Ty) (al2 : Option Addr) (cl2 : Nat) (ak2 : Option Addr) (ck2 : Nat) : EvB (((((W.setCell ⟨b, 4, none⟩ (.int .i64 y.kind)).setCell ⟨b, 5, none⟩ (.int .i64 y.so)).setCell ⟨b, 6, none⟩ (.string y.name)).setCell ⟨b, 7, none⟩ (.slice al2 y.labels.length cl2)).setCell ⟨b, 8, none⟩ (.slice ak2 y.kids.length ck2)) b ⟨x.kind, x.so, x.n, x.s, y, x.label⟩ al2 cl2 ak2 ck2 := by
  obtain ⟨c0, c1, c2, c3, c4, c5, c6, c7, c8, c9⟩ := h.cells
  refine ⟨fun j hj => ?_, fun o => by simp only [World.frozen?_setCell]; exact h.f o, by simp only [World.size_setCell]; exact h.lt⟩
  match j, hj with
  | 0, _ => show _ = some _; go_cell
  | 1, _ => show _ = some _; go_cell
  | 2, _ => show _ = some _; go_cell
  | 3, _ => show _ = some _; go_cell
  | 4, _ => show _ = some _; go_cell
  | 5, _ => show _ = some _; go_cell
  | 6, _ => show _ = some _; go_cell
  | 7, _ => show _ = some _; go_cell
  | 8, _ => show _ = some _; go_cell
  | 9, _ => show _ = some _; go_cell
theorem EvB.lab {W : World} {b : Nat} {x : Ev} {al : Option Addr} {cl : Nat} {ak : Option Addr} {ck : Nat} (h : EvB W b x al cl ak ck) (l : ByteArray) : EvB (W.setCell ⟨b, 9, none⟩ (.string l)) b ⟨x.kind, x.so, x.n, x.s, x.carry, l⟩ al cl ak ck := by
  obtain ⟨c0, c1, c2, c3, c4, c5, c6, c7, c8, c9⟩ := h.cells
  refine ⟨fun j hj => ?_, fun o => by simp only [World.frozen?_setCell]; exact h.f o, by simp only [World.size_setCell]; exact h.lt⟩
  match j, hj with
  | 0, _ => show _ = some _; go_cell
  | 1, _ => show _ = some _; go_cell
  | 2, _ => show _ = some _; go_cell
  | 3, _ => show _ = some _; go_cell
  | 4, _ => show _ = some _; go_cell
  | 5, _ => show _ = some _; go_cell
  | 6, _ => show _ = some _; go_cell
  | 7, _ => show _ = some _; go_cell
  | 8, _ => show _ = some _; go_cell
  | 9, _ => show _ = some _; go_cell
end Go.Proofs.YtefdekfgmbgbbaaGreatDoor
/-
  The contracts of package wires' writeValue and writeEvent.
-/
namespace Go.Proofs.YtefdekfgmbgbbaaGreatDoor
open Go.RowKit Go.Shelf

theorem wrV_one (n : Int) (s : ByteArray) : wrV 1 n s = 1 :: vN (unS n) := rfl
theorem wrV_two (n : Int) (s : ByteArray) : wrV 2 n s = [2, UInt8.ofNat n.toNat] := rfl
theorem wrV_three (n : Int) (s : ByteArray) : wrV 3 n s = 3 :: txW s.data.toList := rfl
theorem bx_keep {b k : Nat} {W W' : World} {cs : Array Value} {T : TypeId} {fz : Nat × Nat} (h : Lib.OthersKept 5 (some b) W W') (hk : W.heap[k]? = some (.cells cs T fz)) (hn : k ≠ b) (ht : T ≠ 5) : W'.heap[k]? = some (.cells cs T fz) :=
  h k _ hk (fun e => hn (by injection e)) (fun c f e => by injection e with _ e2 _; exact ht e2)
section
variable {V : ByteArray → Bool} {Tabs : World → Prop}
set_option maxRecDepth 100000 in
set_option maxHeartbeats 4000000 in
theorem writeValue_ok (hV : VSaid V Tabs) (hK : ∀ w w', Tabs w → Below w.heap.size w w' → Tabs w') (B b : Nat) (l : List UInt8) (so n : Int) (s : ByteArray) (w : World) (hT : Tabs w) (h : Lib.IsBuilderF 47 5 B b (Lib.byteCells l) w) (hc : chkZ V so n s = 0) (hn : -9223372036854775808 ≤ n ∧ n ≤ 9223372036854775807) (hlen : l.length ≤ 120000000000000) (hBw : B ≤ w.heap.size) :
    Calls Tryz.prog 18 #[.pointer (some ⟨b, 0, none⟩), .agg #[.int .i64 so, .int .i64 n, .string s]] w fun e w' => e = .returned (.int .i64 0) ∧ WKP B b (l ++ wrV so n s) w w' := by
  have hs100 : s.size ≤ 100 := by
    rcases chk_ways V hc with ⟨_, rfl⟩ | ⟨_, rfl, _⟩ | ⟨_, _, h1, _⟩
    · show (0 : Nat) ≤ 100; omega
    · show (0 : Nat) ≤ 100; omega
    · exact h1
  have hA : Below w.heap.size w (w.alloc (.cells #[.int .i64 so, .int .i64 n, .string s] 27)) := (Below.refl _ _).alloc (Nat.le_refl _) _
  have cC := check_any V Tabs hV hK so n s (w.alloc (.cells #[.int .i64 so, .int .i64 n, .string s] 27)) (by omega) (hK _ _ hT hA)
  rw [hc] at cC
  have HA := hideK (WKP.al h hBw (.cells #[.int .i64 so, .int .i64 n, .string s] 27))
  have KA := hideK (heap_alloc_new w (.cells #[.int .i64 so, .int .i64 n, .string s] 27))
  have HI := hideK h
  have cB := hideK (fun (c : UInt8) (W : World) (hW : WKP B b l w W) => writeByteW B b l c W hW.1 (by omega) (Nat.le_trans hBw hW.2.1.size))
  obtain ⟨hn1, hn2⟩ := hn
  rcases chk_ways V hc with ⟨rfl, rfl⟩ | ⟨rfl, rfl, h0⟩ | ⟨rfl, rfl, _, _⟩
  · have cU := hideK (fun W => unsigned_any n ⟨hn1, hn2⟩ W)
    have cN := hideK (fun (W : World) (hW : WKP B b (l ++ [1]) w W) => writeNumber_any B b (l ++ [1]) (unS n) W hW.1 (unS_lt n ⟨hn1, hn2⟩) (by rw [List.length_append, List.length_singleton]; omega) (Nat.le_trans hBw hW.2.1.size))
    rw [wrV_one, List.append_cons l 1 (vN (unS n))]
    clear hV hK hT h hc hA
    go_enter Tryz.func18, Tryz.ntmps18
    go_wp2_with (first
      | (go_at_call 24; go_must (refine cC.mono ?_; rintro e w1 ⟨rfl, hb1⟩; have h1 := hideK (HA.out.trans (WKP.belowA HA.out.1 hb1 (Nat.le_trans hBw HA.out.2.1.size))); have k1 := (hb1.block w.heap.size (by simp)).trans KA.out; have c0 := Lib.cell_of_heap k1 0; have c1 := Lib.cell_of_heap k1 1; have c2 := Lib.cell_of_heap k1 2; simp at c0 c1 c2))
      | (go_at_call 17; go_must (refine (cB.out 1 w1 h1.out).mono ?_; rintro e w2 ⟨rfl, h2⟩; have H2 := hideK (h1.out.trans h2); have k2 := bx_keep h2.2.2 k1 (by have := ibLt HI.out; omega) (by decide); clear c0 c1 c2; have c0 := Lib.cell_of_heap k2 0; have c1 := Lib.cell_of_heap k2 1; have c2 := Lib.cell_of_heap k2 2; simp at c0 c1 c2))
      | (go_at_call 26; refine (cU.out _).mono ?_; rintro e w3 ⟨rfl, hw3⟩; rw [hw3]; clear hw3 w3)
      | (go_at_call 25; refine (cN.out _ H2.out).mono ?_; rintro e w4 ⟨rfl, h4⟩))
    go_ret
    exact ⟨rfl, H2.out.trans h4⟩
  · have hz : n = ((UInt8.ofNat n.toNat).toNat : Int) := by rcases h0 with rfl | rfl <;> rfl
    have cB2 := hideK (fun (W : World) (hW : WKP B b (l ++ [2]) w W) => writeByteW B b (l ++ [2]) (UInt8.ofNat n.toNat) W hW.1 (by rw [List.length_append, List.length_singleton]; omega) (Nat.le_trans hBw hW.2.1.size))
    rw [← hz] at cB2
    rw [wrV_two, List.append_cons l 2 [UInt8.ofNat n.toNat]]
    have hn0 : 0 ≤ n := by omega
    have hn9 : n ≤ 1 := by omega
    clear hV hK hT h hc hA h0 hz
    go_enter Tryz.func18, Tryz.ntmps18
    go_wp2_with (first
      | (go_at_call 24; go_must (refine cC.mono ?_; rintro e w1 ⟨rfl, hb1⟩; have h1 := hideK (HA.out.trans (WKP.belowA HA.out.1 hb1 (Nat.le_trans hBw HA.out.2.1.size))); have k1 := (hb1.block w.heap.size (by simp)).trans KA.out; have c0 := Lib.cell_of_heap k1 0; have c1 := Lib.cell_of_heap k1 1; have c2 := Lib.cell_of_heap k1 2; simp at c0 c1 c2))
      | (go_at_call 17; (refine (cB2.out _ H2.out).mono ?_; rintro e w4 ⟨rfl, h4⟩))
      | (go_at_call 17; go_must (refine (cB.out 2 w1 h1.out).mono ?_; rintro e w2 ⟨rfl, h2⟩; have H2 := hideK (h1.out.trans h2); have k2 := bx_keep h2.2.2 k1 (by have := ibLt HI.out; omega) (by decide); clear c0 c1 c2; have c0 := Lib.cell_of_heap k2 0; have c1 := Lib.cell_of_heap k2 1; have c2 := Lib.cell_of_heap k2 2; simp at c0 c1 c2)))
    go_ret
    exact ⟨rfl, H2.out.trans h4⟩
  · have cT := hideK (fun (W : World) (hW : WKP B b (l ++ [3]) w W) => writeText_any B b (l ++ [3]) s W hW.1 (by omega) (by rw [List.length_append, List.length_singleton]; omega) (Nat.le_trans hBw hW.2.1.size))
    rw [wrV_three, List.append_cons l 3 (txW s.data.toList)]
    clear hV hK hT h hc hA
    go_enter Tryz.func18, Tryz.ntmps18
    go_wp2_with (first
      | (go_at_call 24; go_must (refine cC.mono ?_; rintro e w1 ⟨rfl, hb1⟩; have h1 := hideK (HA.out.trans (WKP.belowA HA.out.1 hb1 (Nat.le_trans hBw HA.out.2.1.size))); have k1 := (hb1.block w.heap.size (by simp)).trans KA.out; have c0 := Lib.cell_of_heap k1 0; have c1 := Lib.cell_of_heap k1 1; have c2 := Lib.cell_of_heap k1 2; simp at c0 c1 c2))
      | (go_at_call 17; go_must (refine (cB.out 3 w1 h1.out).mono ?_; rintro e w2 ⟨rfl, h2⟩; have H2 := hideK (h1.out.trans h2); have k2 := bx_keep h2.2.2 k1 (by have := ibLt HI.out; omega) (by decide); clear c0 c1 c2; have c0 := Lib.cell_of_heap k2 0; have c1 := Lib.cell_of_heap k2 1; have c2 := Lib.cell_of_heap k2 2; simp at c0 c1 c2))
      | (go_at_call 27; refine (cT.out _ H2.out).mono ?_; rintro e w4 ⟨rfl, h4⟩))
    go_ret
    exact ⟨rfl, H2.out.trans h4⟩
set_option maxRecDepth 100000 in
set_option maxHeartbeats 2000000 in
theorem writeValue_bad (hV : VSaid V Tabs) (hK : ∀ w w', Tabs w → Below w.heap.size w w' → Tabs w') (b : Nat) (so n : Int) (s : ByteArray) (w : World) (hT : Tabs w) (hs : s.size ≤ 9223372036854775807) (hc : chkZ V so n s ≠ 0) :
    Calls Tryz.prog 18 #[.pointer (some ⟨b, 0, none⟩), .agg #[.int .i64 so, .int .i64 n, .string s]] w fun e w' => e = .returned (.int .i64 (chkZ V so n s)) ∧ Below w.heap.size w w' := by
  have hA : Below w.heap.size w (w.alloc (.cells #[.int .i64 so, .int .i64 n, .string s] 27)) := (Below.refl _ _).alloc (Nat.le_refl _) _
  have cC := check_any V Tabs hV hK so n s (w.alloc (.cells #[.int .i64 so, .int .i64 n, .string s] 27)) hs (hK _ _ hT hA)
  have hcb : (chkZ V so n s != 0) = true := by simpa using hc
  have HA := hideK hA
  generalize chkZ V so n s = z at *
  clear hV hK hT hc hA
  go_enter Tryz.func18, Tryz.ntmps18
  go_wp2_with (go_at_call 24; refine cC.mono ?_; rintro e w1 ⟨rfl, hb1⟩)
  go_ret
  exact ⟨rfl, HA.out.trans (hb1.mono HA.out.size)⟩
end
end Go.Proofs.YtefdekfgmbgbbaaGreatDoor
