/-
  The law of duetkeep.BelowCongruent.
-/
import Derived.Test.YtoieacgojkgjgabDoorUc
import Derived.Test.YtoieacgojkgjgabDoorIq
import Derived.Test.YtoieacgojkgjgabDoorIt
namespace Go.Proofs.YtoieacgojkgjgabDoor
open Go.RowKit Go.Shelf

/-- what stays below, whatever comes ahead -/
theorem bt_ahead (i : Nat) {s t : Ty} {g h g' h' : List Nd} (hg : OFG s g) (hh : OFG t h) (hp : OFG (aheadT i s) g') (hq : OFG (aheadT i t) h') : BT (aheadT i s) (aheadT i t) ↔ BT s t := by
  obtain ⟨e, he⟩ := OFG_ex end_chk
  match i, hp, hq with
  | 0, hp, hq => exact bt_one (.inl rfl) hg hh hp hq
  | 1, hp, hq => exact bt_one (.inr rfl) hg hh hp hq
  | 2, hp, hq => exact bt_give hg hh he hp hq
  | 3, hp, hq => exact bt_take hg hh he hp hq
  | 4, hp, hq => exact bt_pick hg hh he hp hq
  | 5, hp, hq => exact bt_offer hg hh he hp hq
  | _ + 6, hp, hq => exact bt_rec hg hh hp hq
/-- the closures, and what they have caught -/
def fnA (i : Nat) : Nat :=
  match i with
  | 0 => 11
  | 1 => 12
  | 2 => 13
  | 3 => 14
  | 4 => 15
  | 5 => 16
  | _ => 17
def capA (i be : Nat) : Array Value :=
  match i with
  | 2 => #[.pointer (some ⟨be, 0, none⟩)]
  | 3 => #[.pointer (some ⟨be, 0, none⟩)]
  | 4 => #[.pointer (some ⟨be, 0, none⟩)]
  | 5 => #[.pointer (some ⟨be, 0, none⟩)]
  | _ => #[]
theorem ahead_any (i : Nat) (hi : i < 7) (t : Ty) (al : Option Addr) (cl : Nat) (ak : Option Addr) (ck d B : Nat) (w : World) (hbd : TyBd t cl ck) (hla : LA w B t.labels al) (hkt : KT w B d t.kids ak) (hB : B ≤ w.heap.size) (be : Nat) (he : TyAt w be 0 endT none 0 none 0) (hlt : be < w.heap.size) :
    Calls Tryd.prog (fnA i) (#[tyVal t al cl ak ck] ++ capA i be) w (HTPost (aheadT i t) B w) := by
  match i, hi with
  | 0, _ => exact ahead1_any t al cl ak ck d B w hbd hla hkt hB
  | 1, _ => exact ahead2_any t al cl ak ck d B w hbd hla hkt hB
  | 2, _ => exact ahead3_any t al cl ak ck d B w hbd hla hkt hB be he hlt
  | 3, _ => exact ahead4_any t al cl ak ck d B w hbd hla hkt hB be he hlt
  | 4, _ => exact ahead5_any t al cl ak ck d B w hbd hla hkt hB be he hlt
  | 5, _ => exact ahead6_any t al cl ak ck d B w hbd hla hkt hB be he hlt
  | 6, _ => exact ahead7_any t al cl ak ck d B w hbd hla hkt hB
end Go.Proofs.YtoieacgojkgjgabDoor
/-
  The memory of duetkeep.BelowCongruent: its boxes, the closures, and types that are made while orders are open.
-/
namespace Go.Proofs.YtoieacgojkgjgabDoor
open Go.RowKit Go.Shelf

/-- the boxes of both types, of End, and the row of closures -/
structure CGW (w : World) (s : Ty) (sal : Option Addr) (scl : Nat) (sak : Option Addr) (sck : Nat) (t : Ty) (al : Option Addr) (cl : Nat) (ak : Option Addr) (ck : Nat) (be : Nat) (W : World) : Prop where
  x : TyAt W w.heap.size 0 s sal scl sak sck
  y : TyAt W (w.heap.size + 1) 0 t al cl ak ck
  e : TyAt W be 0 endT none 0 none 0
  r : ∀ i, i < 7 → W.cell? ⟨be + 1, i, none⟩ = some (.func (.func (fnA i)) #[] (capA i be))
  lo : w.heap.size + 1 < be
  lt : be + 1 < W.heap.size
  bl : Below w.heap.size w W
theorem CGW.keep {w : World} {s : Ty} {sal : Option Addr} {scl : Nat} {sak : Option Addr} {sck : Nat} {t : Ty} {al : Option Addr} {cl : Nat} {ak : Option Addr} {ck be : Nat} {W W' : World} (h : CGW w s sal scl sak sck t al cl ak ck be W) (hb : Below W.heap.size W W') : CGW w s sal scl sak sck t al cl ak ck be W' :=
  ⟨h.x.keep hb (by have := h.lt; have := h.lo; omega), h.y.keep hb (by have := h.lt; have := h.lo; omega), h.e.keep hb (by have := h.lt; omega), fun i hi => (hb.cell (p := ⟨be + 1, i, none⟩) h.lt).trans (h.r i hi), h.lo, Nat.lt_of_lt_of_le h.lt hb.size, h.bl.trans (hb.mono h.bl.size)⟩
theorem CGW.al {w : World} {s : Ty} {sal : Option Addr} {scl : Nat} {sak : Option Addr} {sck : Nat} {t : Ty} {al : Option Addr} {cl : Nat} {ak : Option Addr} {ck be : Nat} {W : World} (h : CGW w s sal scl sak sck t al cl ak ck be W) (o : Obj) : CGW w s sal scl sak sck t al cl ak ck be (W.alloc o) := h.keep ((Below.refl _ _).alloc (Nat.le_refl _) _)
theorem CGW.st {w : World} {s : Ty} {sal : Option Addr} {scl : Nat} {sak : Option Addr} {sck : Nat} {t : Ty} {al : Option Addr} {cl : Nat} {ak : Option Addr} {ck be : Nat} {W : World} (h : CGW w s sal scl sak sck t al cl ak ck be W) {b : Nat} (hb : be + 1 < b) (v0 v1 v2 v3 v4 : Value) : CGW w s sal scl sak sck t al cl ak ck be (st5 W b 0 v0 v1 v2 v3 v4) := by
  have hlo := h.lo
  have k : ∀ c, c ≠ b → ∀ {q : Ty} {a1 c1 a2 c2}, TyAt W c 0 q a1 c1 a2 c2 → TyAt (st5 W b 0 v0 v1 v2 v3 v4) c 0 q a1 c1 a2 c2 := fun c hc _ _ _ _ _ e => ⟨(st5_other _ _ _ _ _ _ _ _ _ _ (.inl hc)).trans e.c0, (st5_other _ _ _ _ _ _ _ _ _ _ (.inl hc)).trans e.c1, (st5_other _ _ _ _ _ _ _ _ _ _ (.inl hc)).trans e.c2, (st5_other _ _ _ _ _ _ _ _ _ _ (.inl hc)).trans e.c3, (st5_other _ _ _ _ _ _ _ _ _ _ (.inl hc)).trans e.c4⟩
  exact ⟨k _ (by omega) h.x, k _ (by omega) h.y, k _ (by omega) h.e, fun i hi => (st5_other _ _ _ _ _ _ _ _ _ _ (.inl (by omega))).trans (h.r i hi), hlo, by rw [st5_size]; exact h.lt, st5_below _ _ _ _ _ _ _ h.bl (by omega)⟩
/-- a type that is made: none of its blocks is in the list -/
def TV (W : World) (bs : List Nat) (m : Ty) (al : Option Addr) (cl : Nat) (ak : Option Addr) (ck d : Nat) : Prop :=
  TyBd m cl ck ∧ LP W (fun b => b < W.heap.size ∧ b ∉ bs) m.labels al ∧ KP W (fun b => b < W.heap.size ∧ b ∉ bs) d m.kids ak
theorem TV.keep {W W' : World} {bs : List Nat} {m : Ty} {al : Option Addr} {cl : Nat} {ak : Option Addr} {ck d : Nat} (h : TV W bs m al cl ak ck d) (hb : Below W.heap.size W W') : TV W' bs m al cl ak ck d :=
  ⟨h.1, h.2.1.keep (fun b o hq => hb.cell (p := ⟨b, o, none⟩) hq.1) (fun _ hq => ⟨Nat.lt_of_lt_of_le hq.1 hb.size, hq.2⟩), h.2.2.keep (fun b o hq => hb.cell (p := ⟨b, o, none⟩) hq.1) (fun _ hq => ⟨Nat.lt_of_lt_of_le hq.1 hb.size, hq.2⟩)⟩
theorem TV.al {W : World} {bs : List Nat} {m : Ty} {al : Option Addr} {cl : Nat} {ak : Option Addr} {ck d : Nat} (h : TV W bs m al cl ak ck d) (o : Obj) : TV (W.alloc o) bs m al cl ak ck d := h.keep ((Below.refl _ _).alloc (Nat.le_refl _) _)
theorem TV.box {W : World} {bs : List Nat} {m : Ty} {al : Option Addr} {cl : Nat} {ak : Option Addr} {ck d : Nat} (h : TV W bs m al cl ak ck d) (o : Obj) : TV (W.alloc o) (W.heap.size :: bs) m al cl ak ck d := by
  have hb : Below W.heap.size W (W.alloc o) := (Below.refl _ _).alloc (Nat.le_refl _) _
  have hq : ∀ b, (b < W.heap.size ∧ b ∉ bs) → (b < (W.alloc o).heap.size ∧ b ∉ W.heap.size :: bs) := fun b hq => ⟨Nat.lt_of_lt_of_le hq.1 hb.size, fun hm => by
    rcases List.mem_cons.1 hm with e | e
    · omega
    · exact hq.2 e⟩
  exact ⟨h.1, h.2.1.keep (fun b o hq => hb.cell (p := ⟨b, o, none⟩) hq.1) hq, h.2.2.keep (fun b o hq => hb.cell (p := ⟨b, o, none⟩) hq.1) hq⟩
theorem TV.st {W : World} {bs : List Nat} {m : Ty} {al : Option Addr} {cl : Nat} {ak : Option Addr} {ck d : Nat} (h : TV W bs m al cl ak ck d) {b : Nat} (hb : b ∈ bs) (v0 v1 v2 v3 v4 : Value) : TV (st5 W b 0 v0 v1 v2 v3 v4) bs m al cl ak ck d := by
  have k : ∀ c o, (c < W.heap.size ∧ c ∉ bs) → (st5 W b 0 v0 v1 v2 v3 v4).cell? ⟨c, o, none⟩ = W.cell? ⟨c, o, none⟩ := fun c o hc => st5_other _ _ _ _ _ _ _ _ _ _ (.inl fun e => hc.2 (e ▸ hb))
  have q : ∀ c, (c < W.heap.size ∧ c ∉ bs) → (c < (st5 W b 0 v0 v1 v2 v3 v4).heap.size ∧ c ∉ bs) := fun c hc => ⟨by rw [st5_size]; exact hc.1, hc.2⟩
  exact ⟨h.1, h.2.1.keep k q, h.2.2.keep k q⟩
theorem tv_new {B : Nat} {V W : World} {m : Ty} {al : Option Addr} {cl : Nat} {ak : Option Addr} {ck d : Nat} (bs : List Nat) (hbs : ∀ b ∈ bs, B ≤ b ∧ b < V.heap.size) (hB : B ≤ V.heap.size) (hsz : V.heap.size ≤ W.heap.size) (h1 : TyBd m cl ck) (h2 : LP W (PB B V W) m.labels al) (h3 : KP W (PB B V W) d m.kids ak) : TV W bs m al cl ak ck d := by
  have q : ∀ c, PB B V W c → (c < W.heap.size ∧ c ∉ bs) := fun c hc => ⟨by have hc : c < B ∨ (V.heap.size ≤ c ∧ c < W.heap.size) := hc; omega, fun hm => by have := hbs c hm; have hc : c < B ∨ (V.heap.size ≤ c ∧ c < W.heap.size) := hc; omega⟩
  exact ⟨h1, h2.keep (fun _ _ _ => rfl) q, h3.keep (fun _ _ _ => rfl) q⟩
/-- a new box -/
structure BXZ (be : Nat) (W : World) (b : Nat) : Prop where
  lo : be + 1 < b
  lt : b < W.heap.size
  c0 : W.cell? ⟨b, 0, none⟩ = some (.int .i64 0)
  c1 : W.cell? ⟨b, 1, none⟩ = some (.int .i64 0)
  c2 : W.cell? ⟨b, 2, none⟩ = some (.string ⟨#[]⟩)
  c3 : W.cell? ⟨b, 3, none⟩ = some (.slice none 0 0)
  c4 : W.cell? ⟨b, 4, none⟩ = some (.slice none 0 0)
  f : ∀ o, W.frozen? ⟨b, o, none⟩ = false
theorem BXZ.keep {be : Nat} {W W' : World} {b : Nat} (h : BXZ be W b) (hb : Below W.heap.size W W') : BXZ be W' b :=
  ⟨h.lo, Nat.lt_of_lt_of_le h.lt hb.size, (hb.cell (p := ⟨b, 0, none⟩) h.lt).trans h.c0, (hb.cell (p := ⟨b, 1, none⟩) h.lt).trans h.c1, (hb.cell (p := ⟨b, 2, none⟩) h.lt).trans h.c2, (hb.cell (p := ⟨b, 3, none⟩) h.lt).trans h.c3, (hb.cell (p := ⟨b, 4, none⟩) h.lt).trans h.c4, fun o => (hb.frozen (p := ⟨b, o, none⟩) h.lt).trans (h.f o)⟩
theorem BXZ.al {be : Nat} {W : World} {b : Nat} (h : BXZ be W b) (o : Obj) : BXZ be (W.alloc o) b := h.keep ((Below.refl _ _).alloc (Nat.le_refl _) _)
theorem BXZ.new {be : Nat} {W : World} (h : be + 1 < W.heap.size) : BXZ be (W.alloc (.cells #[.int .i64 0, .int .i64 0, .string ⟨#[]⟩, .slice none 0 0, .slice none 0 0] 25)) W.heap.size :=
  ⟨h, by simp, by go_cell, by go_cell, by go_cell, by go_cell, by go_cell, fun o => by go_simp⟩
theorem BXZ.st {be : Nat} {W : World} {b : Nat} (h : BXZ be W b) {b' : Nat} (hn : b ≠ b') (v0 v1 v2 v3 v4 : Value) : BXZ be (st5 W b' 0 v0 v1 v2 v3 v4) b :=
  ⟨h.lo, by rw [st5_size]; exact h.lt, (st5_other _ _ _ _ _ _ _ _ _ _ (.inl hn)).trans h.c0, (st5_other _ _ _ _ _ _ _ _ _ _ (.inl hn)).trans h.c1, (st5_other _ _ _ _ _ _ _ _ _ _ (.inl hn)).trans h.c2, (st5_other _ _ _ _ _ _ _ _ _ _ (.inl hn)).trans h.c3, (st5_other _ _ _ _ _ _ _ _ _ _ (.inl hn)).trans h.c4, fun o => (st5_frozen _ _ _ _ _ _ _ _ _).trans (h.f o)⟩
theorem BXZ.ty {be : Nat} {W : World} {b : Nat} (h : BXZ be W b) (q : Ty) (a1 : Option Addr) (c1 : Nat) (a2 : Option Addr) (c2 : Nat) : TyAt (st5 W b 0 (.int .i64 q.kind) (.int .i64 q.so) (.string q.name) (.slice a1 q.labels.length c1) (.slice a2 q.kids.length c2)) b 0 q a1 c1 a2 c2 :=
  st5_at W _ 0 q a1 c1 a2 c2 (fun j hj => by
    rw [Nat.zero_add]
    have : j = 0 ∨ j = 1 ∨ j = 2 ∨ j = 3 ∨ j = 4 := by omega
    rcases this with rfl | rfl | rfl | rfl | rfl
    · exact ⟨_, h.c0⟩
    · exact ⟨_, h.c1⟩
    · exact ⟨_, h.c2⟩
    · exact ⟨_, h.c3⟩
    · exact ⟨_, h.c4⟩)
theorem tyAt_st {W : World} {c b : Nat} (hc : c ≠ b) (v0 v1 v2 v3 v4 : Value) {q : Ty} {a1 : Option Addr} {c1 : Nat} {a2 : Option Addr} {c2 : Nat} (e : TyAt W c 0 q a1 c1 a2 c2) : TyAt (st5 W b 0 v0 v1 v2 v3 v4) c 0 q a1 c1 a2 c2 := ⟨(st5_other _ _ _ _ _ _ _ _ _ _ (.inl hc)).trans e.c0, (st5_other _ _ _ _ _ _ _ _ _ _ (.inl hc)).trans e.c1, (st5_other _ _ _ _ _ _ _ _ _ _ (.inl hc)).trans e.c2, (st5_other _ _ _ _ _ _ _ _ _ _ (.inl hc)).trans e.c3, (st5_other _ _ _ _ _ _ _ _ _ _ (.inl hc)).trans e.c4⟩
/-- a type in a box of its own -/
def TYB (W : World) (b : Nat) (m : Ty) (al : Option Addr) (cl : Nat) (ak : Option Addr) (ck d : Nat) : Prop :=
  TyAt W b 0 m al cl ak ck ∧ b < W.heap.size ∧ TyBd m cl ck ∧ LA W W.heap.size m.labels al ∧ KT W W.heap.size d m.kids ak
theorem TYB.keep {W W' : World} {b : Nat} {m : Ty} {al : Option Addr} {cl : Nat} {ak : Option Addr} {ck d : Nat} (h : TYB W b m al cl ak ck d) (hb : Below W.heap.size W W') : TYB W' b m al cl ak ck d :=
  ⟨h.1.keep hb h.2.1, Nat.lt_of_lt_of_le h.2.1 hb.size, h.2.2.1, (h.2.2.2.1.keep hb).mono hb.size, (h.2.2.2.2.keep hb).mono hb.size⟩
theorem TV.tyb {W : World} {bs : List Nat} {m : Ty} {al : Option Addr} {cl : Nat} {ak : Option Addr} {ck d b : Nat} (h : TV W bs m al cl ak ck d) (ha : TyAt W b 0 m al cl ak ck) (hb : b < W.heap.size) : TYB W b m al cl ak ck d :=
  ⟨ha, hb, h.1, h.2.1.la (fun _ q => q.1), h.2.2.kt (fun _ q => q.1)⟩
/-- both types, made and in their boxes -/
theorem tv_two {W : World} {bs : List Nat} {m n : Ty} {al : Option Addr} {cl : Nat} {ak : Option Addr} {ck d : Nat} {al' : Option Addr} {cl' : Nat} {ak' : Option Addr} {ck' d' : Nat} {bx by' be : Nat} (hx : TV W bs m al cl ak ck d) (hy : TV W bs n al' cl' ak' ck' d') (zx : BXZ be W bx) (zy : BXZ be W by') (h1 : bx ∈ bs) (h2 : by' ∈ bs) (hne : bx ≠ by') :
    TYB (st5 (st5 W bx 0 (.int .i64 m.kind) (.int .i64 m.so) (.string m.name) (.slice al m.labels.length cl) (.slice ak m.kids.length ck)) by' 0 (.int .i64 n.kind) (.int .i64 n.so) (.string n.name) (.slice al' n.labels.length cl') (.slice ak' n.kids.length ck')) bx m al cl ak ck d ∧ TYB (st5 (st5 W bx 0 (.int .i64 m.kind) (.int .i64 m.so) (.string m.name) (.slice al m.labels.length cl) (.slice ak m.kids.length ck)) by' 0 (.int .i64 n.kind) (.int .i64 n.so) (.string n.name) (.slice al' n.labels.length cl') (.slice ak' n.kids.length ck')) by' n al' cl' ak' ck' d' :=
  ⟨((hx.st h1 _ _ _ _ _).st h2 _ _ _ _ _).tyb (tyAt_st hne _ _ _ _ _ (zx.ty m al cl ak ck)) (by rw [st5_size, st5_size]; exact zx.lt), ((hy.st h1 _ _ _ _ _).st h2 _ _ _ _ _).tyb ((zy.st hne.symm _ _ _ _ _).ty n al' cl' ak' ck') (by rw [st5_size, st5_size]; exact zy.lt)⟩
end Go.Proofs.YtoieacgojkgjgabDoor
