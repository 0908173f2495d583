/-
  How an expression that has been read lies in memory; what a reading of expressions ends with.
-/
import Derived.Test.YtkacnpgokghhcaaGreatDoorGk
import Derived.Test.YtkacnpgokghhcaaGreatDoorKn
import Derived.Test.YtkacnpgokghhcaaGreatDoorYd
namespace Go.Proofs.YtkacnpgokghhcaaGreatDoor
open Go.RowKit Go.Shelf
/-- an expression in memory that is new since w -/
structure GE (w W : World) (d : Nat) (x : Ex) (ao : Option Addr) (cap : Nat) : Prop where
  bd : ExBd x cap
  ka : KR W (NW w W) d x.kids ao
theorem GE.keep {w W W' : World} {rb d : Nat} {x : Ex} {ao : Option Addr} {cap : Nat} (h : GE w W d x ao cap) (hf : FR rb W W') (hr : rb < w.heap.size) : GE w W' d x ao cap :=
  ⟨h.bd, h.ka.keep (fun _ _ hb => hf.cellO hb.2 (by have := hb.1; omega)) (fun b hb => ⟨hb.1, Nat.lt_of_lt_of_le hb.2 hf.size⟩)⟩
theorem GE.old {w w0 W : World} {d : Nat} {x : Ex} {ao : Option Addr} {cap : Nat} (h : GE w W d x ao cap) (hw : w0.heap.size ≤ w.heap.size) : GE w0 W d x ao cap :=
  ⟨h.bd, h.ka.keep (fun _ _ _ => rfl) (fun _ hb => ⟨Nat.le_trans hw hb.1, hb.2⟩)⟩
theorem GE.leaf {w W : World} {d : Nat} {x : Ex} {cap : Nat} (h : ExBd x cap) (hk : x.kids = []) (ao : Option Addr) : GE w W d x ao cap := ⟨h, KR.of_nil hk⟩
/-- an operator's expressions in one new block -/
theorem GE.ops {w W : World} {d b cap : Nat} {x : Ex} (hbd : ExBd x cap) (hw : w.heap.size ≤ b) (hb : b < W.heap.size) (h : ∀ i (h : i < x.kids.length), ∃ ao' cap', ExAt W b (0 + i * 6) x.kids[i] ao' cap' ∧ GE w W d x.kids[i] ao' cap') : GE w W (d + 1) x (some ⟨b, 0, none⟩) cap :=
  ⟨hbd, .inr ⟨b, 0, rfl, ⟨hw, hb⟩, fun i hi => by
    obtain ⟨ao', cap', e, g⟩ := h i hi
    exact ⟨ao', cap', e, g.bd, g.ka⟩⟩⟩
theorem GE.toKA {w W : World} {d : Nat} {x : Ex} {ao : Option Addr} {cap : Nat} (h : GE w W d x ao cap) : KA W W.heap.size d x.kids ao := h.ka.toKA fun _ hb => hb.2
/-- a panic with an error and where it can't go on -/
def thrownC (s : ByteArray) (c : Int) (r : List UInt8) : List PanicEntry := [{ v := .iface 31 (.agg #[.int .i64 c, .int .i64 ((s.size - r.length : Nat) : Int)]), recovered := false }]
theorem thrownC_at (s : ByteArray) (c : Int) (p : Nat) (h : p ≤ s.size) : thrownC s c (rs s p) = [{ v := .iface 31 (.agg #[.int .i64 c, .int .i64 (p : Int)]), recovered := false }] := by
  unfold thrownC; rw [rs_len, show s.size - (s.size - p) = p by omega]
theorem thrownC_3 (s : ByteArray) (r : List UInt8) : thrownC s 3 r = thrown s r := rfl
/-- more levels do no harm -/
theorem KR.more {W : World} {P : Nat → Prop} : ∀ {d : Nat} {ks : List Ex} {ao : Option Addr} (k : Nat), KR W P d ks ao → KR W P (d + k) ks ao
  | 0, ks, ao, k, h => KR.of_nil h
  | d + 1, ks, ao, k, h => by
    rw [Nat.add_right_comm]
    rcases h with h | ⟨b, o, h1, h2, h3⟩
    · exact .inl h
    · refine .inr ⟨b, o, h1, h2, fun i hi => ?_⟩
      obtain ⟨ao', cap', e, f, g⟩ := h3 i hi
      exact ⟨ao', cap', e, f, KR.more k g⟩
theorem GE.more {w W : World} {d : Nat} {x : Ex} {ao : Option Addr} {cap : Nat} (h : GE w W d x ao cap) {d' : Nat} (hd : d ≤ d') : GE w W d' x ao cap := by
  obtain ⟨k, rfl⟩ := Nat.exists_eq_add_of_le hd
  exact ⟨h.bd, h.ka.more k⟩
def ExR (w W : World) (x : Ex) (v : Value) : Prop := ∃ d ao cap, v = exVal x ao cap ∧ GE w W d x ao cap
/-- returned with the expression, the reader at the rest; or panicked -/
def EPost (s : ByteArray) (rb : Nat) (w : World) (x : RdE) (e : Ending) (w' : World) : Prop :=
  (∀ y r, x = .ok (y, r) → ∃ v, e = .returned v ∧ ExR w w' y v ∧ ∃ p', RS w' rb s p' ∧ rs s p' = r) ∧ (∀ c r, x = .error (c, r) → e = .panicked (thrownC s c r))
theorem EPost.yes {s : ByteArray} {rb : Nat} {w : World} {y : Ex} {r : List UInt8} {v : Value} {w' : World} {p' : Nat} (h1 : ExR w w' y v) (h2 : RS w' rb s p') (h3 : rs s p' = r) : EPost s rb w (.ok (y, r)) (.returned v) w' :=
  ⟨(fun _ _ h => by injection h with h; injection h with h4 h5; subst h4 h5; exact ⟨v, rfl, h1, p', h2, h3⟩), (fun _ _ h => by cases h)⟩
theorem EPost.no {s : ByteArray} {rb : Nat} {w : World} {c : Int} {r : List UInt8} {w' : World} : EPost s rb w (.error (c, r)) (.panicked (thrownC s c r)) w' :=
  ⟨(fun _ _ h => by cases h), (fun _ _ h => by injection h with h; injection h with h4 h5; subst h4 h5; rfl)⟩
/-- what an operand, an expression of so much fuel is promised to do -/
def EOSaid (Tabs : World → Prop) (s : ByteArray) (rb n : Nat) : Prop := ∀ (p : Nat) (w : World), Tabs w → RS w rb s p → 2 * (rs s p).length + 1 < n →
  Calls Tryz.prog 31 #[.pointer (some ⟨rb, 0, none⟩)] w fun e w' => EPost s rb w (rdX rdZ n none (rs s p)) e w' ∧ FR rb w w'
def EESaid (Tabs : World → Prop) (s : ByteArray) (rb n : Nat) : Prop := ∀ (k : Int) (p : Nat) (w : World), 1 ≤ k → k ≤ 6 → Tabs w → RS w rb s p → 2 * (rs s p).length + 2 < n →
  Calls Tryz.prog 14 #[.pointer (some ⟨rb, 0, none⟩), .int .i64 k] w fun e w' => EPost s rb w (rdX rdZ n (some k) (rs s p)) e w' ∧ FR rb w w'
theorem operand_ok {Tabs : World → Prop} {s : ByteArray} {rb n : Nat} (hO : EOSaid Tabs s rb n) {l r : List UInt8} {x : Ex} (h : rdX rdZ n none l = .ok (x, r)) (hn : 2 * l.length + 1 < n) (p : Nat) (w : World) (hT : Tabs w) (hr : RS w rb s p) (hl : rs s p = l) :
    Calls Tryz.prog 31 #[.pointer (some ⟨rb, 0, none⟩)] w fun e w' => (∃ d ao cap, e = .returned (.agg #[.int .i64 x.kind, .string x.name, .int .i64 x.so, .int .i64 x.n, .string x.s, .slice ao x.kids.length cap]) ∧ GE w w' d x ao cap) ∧ (∃ p', RS w' rb s p' ∧ rs s p' = r) ∧ FR rb w w' := by
  have c := hO p w hT hr (by rw [hl]; exact hn)
  rw [hl, h] at c
  refine c.mono fun e w' ⟨h1, h2⟩ => ?_
  obtain ⟨v, e1, ⟨d, ao, cap, e2, hg⟩, h3⟩ := h1.1 _ _ rfl
  exact ⟨⟨d, ao, cap, by rw [e1, e2]; rfl, hg⟩, h3, h2⟩
theorem operand_bad {Tabs : World → Prop} {s : ByteArray} {rb n : Nat} (hO : EOSaid Tabs s rb n) {l r : List UInt8} {c : Int} (h : rdX rdZ n none l = .error (c, r)) (hn : 2 * l.length + 1 < n) (p : Nat) (w : World) (hT : Tabs w) (hr : RS w rb s p) (hl : rs s p = l) :
    Calls Tryz.prog 31 #[.pointer (some ⟨rb, 0, none⟩)] w fun e w' => e = .panicked (thrownC s c r) ∧ FR rb w w' := by
  have c := hO p w hT hr (by rw [hl]; exact hn)
  rw [hl, h] at c
  exact c.mono fun e w' ⟨h1, h2⟩ => ⟨h1.2 _ _ rfl, h2⟩
theorem expression_ok {Tabs : World → Prop} {s : ByteArray} {rb n : Nat} (hE : EESaid Tabs s rb n) {k : Int} (k1 : 1 ≤ k) (k6 : k ≤ 6) {l r : List UInt8} {x : Ex} (h : rdX rdZ n (some k) l = .ok (x, r)) (hn : 2 * l.length + 2 < n) (p : Nat) (w : World) (hT : Tabs w) (hr : RS w rb s p) (hl : rs s p = l) :
    Calls Tryz.prog 14 #[.pointer (some ⟨rb, 0, none⟩), .int .i64 k] w fun e w' => (∃ d ao cap, e = .returned (.agg #[.int .i64 x.kind, .string x.name, .int .i64 x.so, .int .i64 x.n, .string x.s, .slice ao x.kids.length cap]) ∧ GE w w' d x ao cap) ∧ (∃ p', RS w' rb s p' ∧ rs s p' = r) ∧ FR rb w w' := by
  have c := hE k p w k1 k6 hT hr (by rw [hl]; exact hn)
  rw [hl, h] at c
  refine c.mono fun e w' ⟨h1, h2⟩ => ?_
  obtain ⟨v, e1, ⟨d, ao, cap, e2, hg⟩, h3⟩ := h1.1 _ _ rfl
  exact ⟨⟨d, ao, cap, by rw [e1, e2]; rfl, hg⟩, h3, h2⟩
theorem expression_bad {Tabs : World → Prop} {s : ByteArray} {rb n : Nat} (hE : EESaid Tabs s rb n) {k : Int} (k1 : 1 ≤ k) (k6 : k ≤ 6) {l r : List UInt8} {c : Int} (h : rdX rdZ n (some k) l = .error (c, r)) (hn : 2 * l.length + 2 < n) (p : Nat) (w : World) (hT : Tabs w) (hr : RS w rb s p) (hl : rs s p = l) :
    Calls Tryz.prog 14 #[.pointer (some ⟨rb, 0, none⟩), .int .i64 k] w fun e w' => e = .panicked (thrownC s c r) ∧ FR rb w w' := by
  have c := hE k p w k1 k6 hT hr (by rw [hl]; exact hn)
  rw [hl, h] at c
  exact c.mono fun e w' ⟨h1, h2⟩ => ⟨h1.2 _ _ rfl, h2⟩
end Go.Proofs.YtkacnpgokghhcaaGreatDoor
