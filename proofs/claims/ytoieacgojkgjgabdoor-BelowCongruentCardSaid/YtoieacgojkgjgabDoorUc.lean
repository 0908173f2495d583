/-
  The contracts of the closures of duetkeep.BelowCongruent.
-/
import Derived.Test.YtoieacgojkgjgabDoorRb
import Derived.Test.YtoieacgojkgjgabDoorVl
namespace Go.Proofs.YtoieacgojkgjgabDoor
open Go.RowKit Go.Shelf

/-- what comes ahead -/
def aheadT (i : Nat) (t : Ty) : Ty :=
  match i with
  | 0 => ⟨2, 1, e0B, [], [t]⟩
  | 1 => ⟨3, 3, e0B, [], [t]⟩
  | 2 => ⟨4, 0, e0B, [], [endT, t]⟩
  | 3 => ⟨5, 0, e0B, [], [t, endT]⟩
  | 4 => ⟨6, 0, e0B, [nmA, nmB], [t, endT]⟩
  | 5 => ⟨7, 0, e0B, [nmA, nmB], [endT, t]⟩
  | _ => recT nmQ t
/-- old blocks, and those made since -/
def PB (B : Nat) (w W : World) (b : Nat) : Prop := b < B ∨ (w.heap.size ≤ b ∧ b < W.heap.size)
/-- a type, new or old -/
def HTPost (m : Ty) (B : Nat) (w : World) (e : Ending) (W : World) : Prop :=
  (∃ al cl ak ck d, e = .returned (tyVal m al cl ak ck) ∧ TyBd m cl ck ∧ LP W (PB B w W) m.labels al ∧ KP W (PB B w W) d m.kids ak) ∧ Below w.heap.size w W
theorem kp_nil {W : World} {P : Nat → Prop} {d : Nat} {ak : Option Addr} : KP W P d [] ak := by
  cases d
  · rfl
  · exact .inl rfl
theorem lp_old {w W : World} {B : Nat} (hB : B ≤ w.heap.size) (hb : Below w.heap.size w W) {ls : List ByteArray} {al : Option Addr} (h : LA w B ls al) : LP W (PB B w W) ls al :=
  (lp_of (P := fun b => b < B) (fun _ h => h) h).keep (fun b o hq => hb.cell (p := ⟨b, o, none⟩) (by show b < _; have hq : b < B := hq; omega)) (fun b hq => .inl hq)
theorem kp_old {w W : World} {B d : Nat} (hB : B ≤ w.heap.size) (hb : Below w.heap.size w W) {ks : List Ty} {ak : Option Addr} (h : KT w B d ks ak) : KP W (PB B w W) d ks ak :=
  (kp_of (P := fun b => b < B) (fun _ h => h) h).keep (fun b o hq => hb.cell (p := ⟨b, o, none⟩) (by show b < _; have hq : b < B := hq; omega)) (fun b hq => .inl hq)
theorem end_bd0 : TyBd endT 0 0 := end_bd
theorem kp_one {W : World} {P : Nat → Prop} {b d : Nat} {t : Ty} {al : Option Addr} {cl : Nat} {ak : Option Addr} {ck : Nat} (hP : P b) (ha : TyAt W b 0 t al cl ak ck) (hbd : TyBd t cl ck) (hl : LP W P t.labels al) (hk : KP W P d t.kids ak) : KP W P (d + 1) [t] (some ⟨b, 0, none⟩) := by
  refine .inr ⟨b, 0, rfl, hP, fun i hi => ?_⟩
  obtain rfl : i = 0 := by simp at hi; omega
  exact ⟨al, cl, ak, ck, ha, hbd, hl, hk⟩
theorem kp_two {W : World} {P : Nat → Prop} {b d : Nat} {s t : Ty} {al : Option Addr} {cl : Nat} {ak : Option Addr} {ck : Nat} {bl : Option Addr} {dl : Nat} {bk : Option Addr} {dk : Nat} (hP : P b) (hs : TyAt W b 0 s bl dl bk dk) (hsbd : TyBd s dl dk) (hsl : LP W P s.labels bl) (hsk : KP W P d s.kids bk) (ha : TyAt W b 5 t al cl ak ck) (hbd : TyBd t cl ck) (hl : LP W P t.labels al) (hk : KP W P d t.kids ak) : KP W P (d + 1) [s, t] (some ⟨b, 0, none⟩) := by
  refine .inr ⟨b, 0, rfl, hP, fun i hi => ?_⟩
  have : i = 0 ∨ i = 1 := by simp at hi; omega
  rcases this with rfl | rfl
  · exact ⟨bl, dl, bk, dk, hs, hsbd, hsl, hsk⟩
  · exact ⟨al, cl, ak, ck, ha, hbd, hl, hk⟩
theorem ab_lp {W : World} {P : Nat → Prop} {b : Nat} (hP : P b) (h0 : W.cell? ⟨b, 0, none⟩ = some (.string nmA)) (h1 : W.cell? ⟨b, 1, none⟩ = some (.string nmB)) : LP W P [nmA, nmB] (some ⟨b, 0, none⟩) := by
  refine .inr ⟨b, 0, rfl, hP, fun i hi => ?_⟩
  have : i = 0 ∨ i = 1 := by simp at hi; omega
  rcases this with rfl | rfl
  · exact h0
  · exact h1
theorem tyAt5 {W : World} {b : Nat} {t : Ty} {al : Option Addr} {cl : Nat} {ak : Option Addr} {ck : Nat} (h0 : W.cell? ⟨b, 5, none⟩ = some (.int .i64 t.kind)) (h1 : W.cell? ⟨b, 6, none⟩ = some (.int .i64 t.so)) (h2 : W.cell? ⟨b, 7, none⟩ = some (.string t.name)) (h3 : W.cell? ⟨b, 8, none⟩ = some (.slice al t.labels.length cl)) (h4 : W.cell? ⟨b, 9, none⟩ = some (.slice ak t.kids.length ck)) : TyAt W b 5 t al cl ak ck := ⟨h0, h1, h2, h3, h4⟩
theorem tyAt0 {W : World} {b : Nat} {t : Ty} {al : Option Addr} {cl : Nat} {ak : Option Addr} {ck : Nat} (h0 : W.cell? ⟨b, 0, none⟩ = some (.int .i64 t.kind)) (h1 : W.cell? ⟨b, 1, none⟩ = some (.int .i64 t.so)) (h2 : W.cell? ⟨b, 2, none⟩ = some (.string t.name)) (h3 : W.cell? ⟨b, 3, none⟩ = some (.slice al t.labels.length cl)) (h4 : W.cell? ⟨b, 4, none⟩ = some (.slice ak t.kids.length ck)) : TyAt W b 0 t al cl ak ck := by
  refine ⟨h0, ?_, ?_, ?_, ?_⟩ <;> rw [Nat.zero_add] <;> assumption
theorem ah_bd {kd so : Int} {nm : ByteArray} {ls : List ByteArray} {ks : List Ty} (hn : nm.size ≤ 9223372036854775807) (hl : ∀ l ∈ ls, l.size ≤ 9223372036854775807) (h1 : ls.length ≤ 9223372036854775807) (h2 : ks.length ≤ 9223372036854775807) : TyBd ⟨kd, so, nm, ls, ks⟩ ls.length ks.length := ⟨hn, hl, Nat.le_refl _, h1, Nat.le_refl _, h2⟩
theorem ab_sz : ∀ l ∈ [nmA, nmB], l.size ≤ 9223372036854775807 := by
  intro l hl
  simp only [List.mem_cons, List.not_mem_nil, or_false] at hl
  rcases hl with rfl | rfl <;> decide
theorem endAt5 {W : World} {b : Nat} (h0 : W.cell? ⟨b, 5, none⟩ = some (.int .i64 1)) (h1 : W.cell? ⟨b, 6, none⟩ = some (.int .i64 0)) (h2 : W.cell? ⟨b, 7, none⟩ = some (.string ⟨#[]⟩)) (h3 : W.cell? ⟨b, 8, none⟩ = some (.slice none 0 0)) (h4 : W.cell? ⟨b, 9, none⟩ = some (.slice none 0 0)) : TyAt W b 5 endT none 0 none 0 := ⟨h0, h1, h2, h3, h4⟩
theorem endAt0 {W : World} {b : Nat} (h0 : W.cell? ⟨b, 0, none⟩ = some (.int .i64 1)) (h1 : W.cell? ⟨b, 1, none⟩ = some (.int .i64 0)) (h2 : W.cell? ⟨b, 2, none⟩ = some (.string ⟨#[]⟩)) (h3 : W.cell? ⟨b, 3, none⟩ = some (.slice none 0 0)) (h4 : W.cell? ⟨b, 4, none⟩ = some (.slice none 0 0)) : TyAt W b 0 endT none 0 none 0 := tyAt0 h0 h1 h2 h3 h4
set_option maxRecDepth 100000 in
set_option maxHeartbeats 4000000 in
theorem ahead1_any (t : Ty) (al : Option Addr) (cl : Nat) (ak : Option Addr) (ck d B : Nat) (w : World) (hbd : TyBd t cl ck) (hla : LA w B t.labels al) (hkt : KT w B d t.kids ak) (hB : B ≤ w.heap.size) :
    Calls Tryd.prog 11 #[tyVal t al cl ak ck] w (HTPost (aheadT 0 t) B w) := by
  have HBD := hideK hbd
  have HLA := hideK hla
  have HKT := hideK hkt
  clear hbd hla hkt
  simp only [tyVal]
  go_enter Tryd.func11, Tryd.ntmps11
  go_wp2_with fail
  have hb : Below w.heap.size w (((w.alloc (.cells #[.int .i64 t.kind, .int .i64 t.so, .string t.name, .slice al t.labels.length cl, .slice ak t.kids.length ck] 25)).alloc (.cells #[.int .i64 2, .int .i64 1, .string ⟨#[]⟩, .slice (none) 0 0, .slice (some ⟨w.heap.size + 1 + 1, 0, none⟩) 1 1] 25)).alloc (.cells #[.int .i64 t.kind, .int .i64 t.so, .string t.name, .slice al t.labels.length cl, .slice ak t.kids.length ck] 25)) := (((Below.refl _ _).alloc (Nat.le_refl _) _).alloc (by simp) _).alloc (by simp; omega) _
  have hP : PB B w (((w.alloc (.cells #[.int .i64 t.kind, .int .i64 t.so, .string t.name, .slice al t.labels.length cl, .slice ak t.kids.length ck] 25)).alloc (.cells #[.int .i64 2, .int .i64 1, .string ⟨#[]⟩, .slice (none) 0 0, .slice (some ⟨w.heap.size + 1 + 1, 0, none⟩) 1 1] 25)).alloc (.cells #[.int .i64 t.kind, .int .i64 t.so, .string t.name, .slice al t.labels.length cl, .slice ak t.kids.length ck] 25)) (w.heap.size + 1 + 1) := .inr ⟨by omega, by simp⟩
  have hk := kp_one (W := (((w.alloc (.cells #[.int .i64 t.kind, .int .i64 t.so, .string t.name, .slice al t.labels.length cl, .slice ak t.kids.length ck] 25)).alloc (.cells #[.int .i64 2, .int .i64 1, .string ⟨#[]⟩, .slice (none) 0 0, .slice (some ⟨w.heap.size + 1 + 1, 0, none⟩) 1 1] 25)).alloc (.cells #[.int .i64 t.kind, .int .i64 t.so, .string t.name, .slice al t.labels.length cl, .slice ak t.kids.length ck] 25))) hP (tyAt0 (t := t) (al := al) (cl := cl) (ak := ak) (ck := ck) (by go_cell) (by go_cell) (by go_cell) (by go_cell) (by go_cell)) HBD.out (lp_old hB hb HLA.out) (kp_old hB hb HKT.out)
  have hl : LP (((w.alloc (.cells #[.int .i64 t.kind, .int .i64 t.so, .string t.name, .slice al t.labels.length cl, .slice ak t.kids.length ck] 25)).alloc (.cells #[.int .i64 2, .int .i64 1, .string ⟨#[]⟩, .slice (none) 0 0, .slice (some ⟨w.heap.size + 1 + 1, 0, none⟩) 1 1] 25)).alloc (.cells #[.int .i64 t.kind, .int .i64 t.so, .string t.name, .slice al t.labels.length cl, .slice ak t.kids.length ck] 25)) (PB B w (((w.alloc (.cells #[.int .i64 t.kind, .int .i64 t.so, .string t.name, .slice al t.labels.length cl, .slice ak t.kids.length ck] 25)).alloc (.cells #[.int .i64 2, .int .i64 1, .string ⟨#[]⟩, .slice (none) 0 0, .slice (some ⟨w.heap.size + 1 + 1, 0, none⟩) 1 1] 25)).alloc (.cells #[.int .i64 t.kind, .int .i64 t.so, .string t.name, .slice al t.labels.length cl, .slice ak t.kids.length ck] 25))) [] none := .inl rfl
  have hm : TyBd (aheadT 0 t) 0 1 := ah_bd (by decide) (fun l hl => by cases hl) (by decide) (by simp)
  have hfin : HTPost (aheadT 0 t) B w (.returned (.agg #[.int .i64 2, .int .i64 1, .string ⟨#[]⟩, .slice (none) 0 0, .slice (some ⟨w.heap.size + 1 + 1, 0, none⟩) 1 1])) (((w.alloc (.cells #[.int .i64 t.kind, .int .i64 t.so, .string t.name, .slice al t.labels.length cl, .slice ak t.kids.length ck] 25)).alloc (.cells #[.int .i64 2, .int .i64 1, .string ⟨#[]⟩, .slice (none) 0 0, .slice (some ⟨w.heap.size + 1 + 1, 0, none⟩) 1 1] 25)).alloc (.cells #[.int .i64 t.kind, .int .i64 t.so, .string t.name, .slice al t.labels.length cl, .slice ak t.kids.length ck] 25)) := ⟨⟨_, _, _, _, _, rfl, hm, hl, hk⟩, hb⟩
  clear hm hl hk hb hP HBD HLA HKT
  generalize HTPost (aheadT 0 t) B w = Q at *
  exact bodyPost_ret (by simp [results, Tryd.results11, go_sem]) rfl hfin
set_option maxRecDepth 100000 in
set_option maxHeartbeats 4000000 in
theorem ahead2_any (t : Ty) (al : Option Addr) (cl : Nat) (ak : Option Addr) (ck d B : Nat) (w : World) (hbd : TyBd t cl ck) (hla : LA w B t.labels al) (hkt : KT w B d t.kids ak) (hB : B ≤ w.heap.size) :
    Calls Tryd.prog 12 #[tyVal t al cl ak ck] w (HTPost (aheadT 1 t) B w) := by
  have HBD := hideK hbd
  have HLA := hideK hla
  have HKT := hideK hkt
  clear hbd hla hkt
  simp only [tyVal]
  go_enter Tryd.func12, Tryd.ntmps12
  go_wp2_with fail
  have hb : Below w.heap.size w (((w.alloc (.cells #[.int .i64 t.kind, .int .i64 t.so, .string t.name, .slice al t.labels.length cl, .slice ak t.kids.length ck] 25)).alloc (.cells #[.int .i64 3, .int .i64 3, .string ⟨#[]⟩, .slice (none) 0 0, .slice (some ⟨w.heap.size + 1 + 1, 0, none⟩) 1 1] 25)).alloc (.cells #[.int .i64 t.kind, .int .i64 t.so, .string t.name, .slice al t.labels.length cl, .slice ak t.kids.length ck] 25)) := (((Below.refl _ _).alloc (Nat.le_refl _) _).alloc (by simp) _).alloc (by simp; omega) _
  have hP : PB B w (((w.alloc (.cells #[.int .i64 t.kind, .int .i64 t.so, .string t.name, .slice al t.labels.length cl, .slice ak t.kids.length ck] 25)).alloc (.cells #[.int .i64 3, .int .i64 3, .string ⟨#[]⟩, .slice (none) 0 0, .slice (some ⟨w.heap.size + 1 + 1, 0, none⟩) 1 1] 25)).alloc (.cells #[.int .i64 t.kind, .int .i64 t.so, .string t.name, .slice al t.labels.length cl, .slice ak t.kids.length ck] 25)) (w.heap.size + 1 + 1) := .inr ⟨by omega, by simp⟩
  have hk := kp_one (W := (((w.alloc (.cells #[.int .i64 t.kind, .int .i64 t.so, .string t.name, .slice al t.labels.length cl, .slice ak t.kids.length ck] 25)).alloc (.cells #[.int .i64 3, .int .i64 3, .string ⟨#[]⟩, .slice (none) 0 0, .slice (some ⟨w.heap.size + 1 + 1, 0, none⟩) 1 1] 25)).alloc (.cells #[.int .i64 t.kind, .int .i64 t.so, .string t.name, .slice al t.labels.length cl, .slice ak t.kids.length ck] 25))) hP (tyAt0 (t := t) (al := al) (cl := cl) (ak := ak) (ck := ck) (by go_cell) (by go_cell) (by go_cell) (by go_cell) (by go_cell)) HBD.out (lp_old hB hb HLA.out) (kp_old hB hb HKT.out)
  have hl : LP (((w.alloc (.cells #[.int .i64 t.kind, .int .i64 t.so, .string t.name, .slice al t.labels.length cl, .slice ak t.kids.length ck] 25)).alloc (.cells #[.int .i64 3, .int .i64 3, .string ⟨#[]⟩, .slice (none) 0 0, .slice (some ⟨w.heap.size + 1 + 1, 0, none⟩) 1 1] 25)).alloc (.cells #[.int .i64 t.kind, .int .i64 t.so, .string t.name, .slice al t.labels.length cl, .slice ak t.kids.length ck] 25)) (PB B w (((w.alloc (.cells #[.int .i64 t.kind, .int .i64 t.so, .string t.name, .slice al t.labels.length cl, .slice ak t.kids.length ck] 25)).alloc (.cells #[.int .i64 3, .int .i64 3, .string ⟨#[]⟩, .slice (none) 0 0, .slice (some ⟨w.heap.size + 1 + 1, 0, none⟩) 1 1] 25)).alloc (.cells #[.int .i64 t.kind, .int .i64 t.so, .string t.name, .slice al t.labels.length cl, .slice ak t.kids.length ck] 25))) [] none := .inl rfl
  have hm : TyBd (aheadT 1 t) 0 1 := ah_bd (by decide) (fun l hl => by cases hl) (by decide) (by simp)
  have hfin : HTPost (aheadT 1 t) B w (.returned (.agg #[.int .i64 3, .int .i64 3, .string ⟨#[]⟩, .slice (none) 0 0, .slice (some ⟨w.heap.size + 1 + 1, 0, none⟩) 1 1])) (((w.alloc (.cells #[.int .i64 t.kind, .int .i64 t.so, .string t.name, .slice al t.labels.length cl, .slice ak t.kids.length ck] 25)).alloc (.cells #[.int .i64 3, .int .i64 3, .string ⟨#[]⟩, .slice (none) 0 0, .slice (some ⟨w.heap.size + 1 + 1, 0, none⟩) 1 1] 25)).alloc (.cells #[.int .i64 t.kind, .int .i64 t.so, .string t.name, .slice al t.labels.length cl, .slice ak t.kids.length ck] 25)) := ⟨⟨_, _, _, _, _, rfl, hm, hl, hk⟩, hb⟩
  clear hm hl hk hb hP HBD HLA HKT
  generalize HTPost (aheadT 1 t) B w = Q at *
  exact bodyPost_ret (by simp [results, Tryd.results12, go_sem]) rfl hfin
set_option maxRecDepth 100000 in
set_option maxHeartbeats 4000000 in
theorem ahead3_any (t : Ty) (al : Option Addr) (cl : Nat) (ak : Option Addr) (ck d B : Nat) (w : World) (hbd : TyBd t cl ck) (hla : LA w B t.labels al) (hkt : KT w B d t.kids ak) (hB : B ≤ w.heap.size) (be : Nat) (he : TyAt w be 0 endT none 0 none 0) (hlt : be < w.heap.size) :
    Calls Tryd.prog 13 #[tyVal t al cl ak ck, .pointer (some ⟨be, 0, none⟩)] w (HTPost (aheadT 2 t) B w) := by
  obtain ⟨c0, c1, c2, c3, c4⟩ := he
  simp only [Nat.zero_add, endT, List.length_nil] at c0 c1 c2 c3 c4
  have n1 : ¬ be = w.heap.size := by omega
  have n2 : ¬ w.heap.size = be := by omega
  have n3 : ¬ be = w.heap.size + 1 := by omega
  have n4 : ¬ w.heap.size + 1 = be := by omega
  have n5 : ¬ be = w.heap.size + 1 + 1 := by omega
  have n6 : ¬ w.heap.size + 1 + 1 = be := by omega
  have HBD := hideK hbd
  have HLA := hideK hla
  have HKT := hideK hkt
  clear hbd hla hkt
  simp only [tyVal]
  go_enter Tryd.func13, Tryd.ntmps13
  go_wp2_with fail
  have hb : Below w.heap.size w (((w.alloc (.cells #[.int .i64 t.kind, .int .i64 t.so, .string t.name, .slice al t.labels.length cl, .slice ak t.kids.length ck] 25)).alloc (.cells #[.int .i64 4, .int .i64 0, .string ⟨#[]⟩, .slice (none) 0 0, .slice (some ⟨w.heap.size + 1 + 1, 0, none⟩) 2 2] 25)).alloc (.cells #[.int .i64 1, .int .i64 0, .string ⟨#[]⟩, .slice none 0 0, .slice none 0 0, .int .i64 t.kind, .int .i64 t.so, .string t.name, .slice al t.labels.length cl, .slice ak t.kids.length ck] 25)) := (((Below.refl _ _).alloc (Nat.le_refl _) _).alloc (by simp) _).alloc (by simp; omega) _
  have hP : PB B w (((w.alloc (.cells #[.int .i64 t.kind, .int .i64 t.so, .string t.name, .slice al t.labels.length cl, .slice ak t.kids.length ck] 25)).alloc (.cells #[.int .i64 4, .int .i64 0, .string ⟨#[]⟩, .slice (none) 0 0, .slice (some ⟨w.heap.size + 1 + 1, 0, none⟩) 2 2] 25)).alloc (.cells #[.int .i64 1, .int .i64 0, .string ⟨#[]⟩, .slice none 0 0, .slice none 0 0, .int .i64 t.kind, .int .i64 t.so, .string t.name, .slice al t.labels.length cl, .slice ak t.kids.length ck] 25)) (w.heap.size + 1 + 1) := .inr ⟨by omega, by simp⟩
  have hk := kp_two (W := (((w.alloc (.cells #[.int .i64 t.kind, .int .i64 t.so, .string t.name, .slice al t.labels.length cl, .slice ak t.kids.length ck] 25)).alloc (.cells #[.int .i64 4, .int .i64 0, .string ⟨#[]⟩, .slice (none) 0 0, .slice (some ⟨w.heap.size + 1 + 1, 0, none⟩) 2 2] 25)).alloc (.cells #[.int .i64 1, .int .i64 0, .string ⟨#[]⟩, .slice none 0 0, .slice none 0 0, .int .i64 t.kind, .int .i64 t.so, .string t.name, .slice al t.labels.length cl, .slice ak t.kids.length ck] 25))) hP (endAt0 (by go_cell) (by go_cell) (by go_cell) (by go_cell) (by go_cell)) end_bd0 (.inl rfl) kp_nil (tyAt5 (t := t) (al := al) (cl := cl) (ak := ak) (ck := ck) (by go_cell) (by go_cell) (by go_cell) (by go_cell) (by go_cell)) HBD.out (lp_old hB hb HLA.out) (kp_old hB hb HKT.out)
  have hl : LP (((w.alloc (.cells #[.int .i64 t.kind, .int .i64 t.so, .string t.name, .slice al t.labels.length cl, .slice ak t.kids.length ck] 25)).alloc (.cells #[.int .i64 4, .int .i64 0, .string ⟨#[]⟩, .slice (none) 0 0, .slice (some ⟨w.heap.size + 1 + 1, 0, none⟩) 2 2] 25)).alloc (.cells #[.int .i64 1, .int .i64 0, .string ⟨#[]⟩, .slice none 0 0, .slice none 0 0, .int .i64 t.kind, .int .i64 t.so, .string t.name, .slice al t.labels.length cl, .slice ak t.kids.length ck] 25)) (PB B w (((w.alloc (.cells #[.int .i64 t.kind, .int .i64 t.so, .string t.name, .slice al t.labels.length cl, .slice ak t.kids.length ck] 25)).alloc (.cells #[.int .i64 4, .int .i64 0, .string ⟨#[]⟩, .slice (none) 0 0, .slice (some ⟨w.heap.size + 1 + 1, 0, none⟩) 2 2] 25)).alloc (.cells #[.int .i64 1, .int .i64 0, .string ⟨#[]⟩, .slice none 0 0, .slice none 0 0, .int .i64 t.kind, .int .i64 t.so, .string t.name, .slice al t.labels.length cl, .slice ak t.kids.length ck] 25))) [] none := .inl rfl
  have hm : TyBd (aheadT 2 t) 0 2 := ah_bd (by decide) (fun l hl => by cases hl) (by decide) (by simp)
  have hfin : HTPost (aheadT 2 t) B w (.returned (.agg #[.int .i64 4, .int .i64 0, .string ⟨#[]⟩, .slice (none) 0 0, .slice (some ⟨w.heap.size + 1 + 1, 0, none⟩) 2 2])) (((w.alloc (.cells #[.int .i64 t.kind, .int .i64 t.so, .string t.name, .slice al t.labels.length cl, .slice ak t.kids.length ck] 25)).alloc (.cells #[.int .i64 4, .int .i64 0, .string ⟨#[]⟩, .slice (none) 0 0, .slice (some ⟨w.heap.size + 1 + 1, 0, none⟩) 2 2] 25)).alloc (.cells #[.int .i64 1, .int .i64 0, .string ⟨#[]⟩, .slice none 0 0, .slice none 0 0, .int .i64 t.kind, .int .i64 t.so, .string t.name, .slice al t.labels.length cl, .slice ak t.kids.length ck] 25)) := ⟨⟨_, _, _, _, _, rfl, hm, hl, hk⟩, hb⟩
  clear hm hl hk hb hP HBD HLA HKT
  generalize HTPost (aheadT 2 t) B w = Q at *
  exact bodyPost_ret (by simp [results, Tryd.results13, go_sem]) rfl hfin
set_option maxRecDepth 100000 in
set_option maxHeartbeats 4000000 in
theorem ahead4_any (t : Ty) (al : Option Addr) (cl : Nat) (ak : Option Addr) (ck d B : Nat) (w : World) (hbd : TyBd t cl ck) (hla : LA w B t.labels al) (hkt : KT w B d t.kids ak) (hB : B ≤ w.heap.size) (be : Nat) (he : TyAt w be 0 endT none 0 none 0) (hlt : be < w.heap.size) :
    Calls Tryd.prog 14 #[tyVal t al cl ak ck, .pointer (some ⟨be, 0, none⟩)] w (HTPost (aheadT 3 t) B w) := by
  obtain ⟨c0, c1, c2, c3, c4⟩ := he
  simp only [Nat.zero_add, endT, List.length_nil] at c0 c1 c2 c3 c4
  have n1 : ¬ be = w.heap.size := by omega
  have n2 : ¬ w.heap.size = be := by omega
  have n3 : ¬ be = w.heap.size + 1 := by omega
  have n4 : ¬ w.heap.size + 1 = be := by omega
  have n5 : ¬ be = w.heap.size + 1 + 1 := by omega
  have n6 : ¬ w.heap.size + 1 + 1 = be := by omega
  have HBD := hideK hbd
  have HLA := hideK hla
  have HKT := hideK hkt
  clear hbd hla hkt
  simp only [tyVal]
  go_enter Tryd.func14, Tryd.ntmps14
  go_wp2_with fail
  have hb : Below w.heap.size w (((w.alloc (.cells #[.int .i64 t.kind, .int .i64 t.so, .string t.name, .slice al t.labels.length cl, .slice ak t.kids.length ck] 25)).alloc (.cells #[.int .i64 5, .int .i64 0, .string ⟨#[]⟩, .slice (none) 0 0, .slice (some ⟨w.heap.size + 1 + 1, 0, none⟩) 2 2] 25)).alloc (.cells #[.int .i64 t.kind, .int .i64 t.so, .string t.name, .slice al t.labels.length cl, .slice ak t.kids.length ck, .int .i64 1, .int .i64 0, .string ⟨#[]⟩, .slice none 0 0, .slice none 0 0] 25)) := (((Below.refl _ _).alloc (Nat.le_refl _) _).alloc (by simp) _).alloc (by simp; omega) _
  have hP : PB B w (((w.alloc (.cells #[.int .i64 t.kind, .int .i64 t.so, .string t.name, .slice al t.labels.length cl, .slice ak t.kids.length ck] 25)).alloc (.cells #[.int .i64 5, .int .i64 0, .string ⟨#[]⟩, .slice (none) 0 0, .slice (some ⟨w.heap.size + 1 + 1, 0, none⟩) 2 2] 25)).alloc (.cells #[.int .i64 t.kind, .int .i64 t.so, .string t.name, .slice al t.labels.length cl, .slice ak t.kids.length ck, .int .i64 1, .int .i64 0, .string ⟨#[]⟩, .slice none 0 0, .slice none 0 0] 25)) (w.heap.size + 1 + 1) := .inr ⟨by omega, by simp⟩
  have hk := kp_two (W := (((w.alloc (.cells #[.int .i64 t.kind, .int .i64 t.so, .string t.name, .slice al t.labels.length cl, .slice ak t.kids.length ck] 25)).alloc (.cells #[.int .i64 5, .int .i64 0, .string ⟨#[]⟩, .slice (none) 0 0, .slice (some ⟨w.heap.size + 1 + 1, 0, none⟩) 2 2] 25)).alloc (.cells #[.int .i64 t.kind, .int .i64 t.so, .string t.name, .slice al t.labels.length cl, .slice ak t.kids.length ck, .int .i64 1, .int .i64 0, .string ⟨#[]⟩, .slice none 0 0, .slice none 0 0] 25))) hP (tyAt0 (t := t) (al := al) (cl := cl) (ak := ak) (ck := ck) (by go_cell) (by go_cell) (by go_cell) (by go_cell) (by go_cell)) HBD.out (lp_old hB hb HLA.out) (kp_old hB hb HKT.out) (endAt5 (by go_cell) (by go_cell) (by go_cell) (by go_cell) (by go_cell)) end_bd0 (.inl rfl) kp_nil
  have hl : LP (((w.alloc (.cells #[.int .i64 t.kind, .int .i64 t.so, .string t.name, .slice al t.labels.length cl, .slice ak t.kids.length ck] 25)).alloc (.cells #[.int .i64 5, .int .i64 0, .string ⟨#[]⟩, .slice (none) 0 0, .slice (some ⟨w.heap.size + 1 + 1, 0, none⟩) 2 2] 25)).alloc (.cells #[.int .i64 t.kind, .int .i64 t.so, .string t.name, .slice al t.labels.length cl, .slice ak t.kids.length ck, .int .i64 1, .int .i64 0, .string ⟨#[]⟩, .slice none 0 0, .slice none 0 0] 25)) (PB B w (((w.alloc (.cells #[.int .i64 t.kind, .int .i64 t.so, .string t.name, .slice al t.labels.length cl, .slice ak t.kids.length ck] 25)).alloc (.cells #[.int .i64 5, .int .i64 0, .string ⟨#[]⟩, .slice (none) 0 0, .slice (some ⟨w.heap.size + 1 + 1, 0, none⟩) 2 2] 25)).alloc (.cells #[.int .i64 t.kind, .int .i64 t.so, .string t.name, .slice al t.labels.length cl, .slice ak t.kids.length ck, .int .i64 1, .int .i64 0, .string ⟨#[]⟩, .slice none 0 0, .slice none 0 0] 25))) [] none := .inl rfl
  have hm : TyBd (aheadT 3 t) 0 2 := ah_bd (by decide) (fun l hl => by cases hl) (by decide) (by simp)
  have hfin : HTPost (aheadT 3 t) B w (.returned (.agg #[.int .i64 5, .int .i64 0, .string ⟨#[]⟩, .slice (none) 0 0, .slice (some ⟨w.heap.size + 1 + 1, 0, none⟩) 2 2])) (((w.alloc (.cells #[.int .i64 t.kind, .int .i64 t.so, .string t.name, .slice al t.labels.length cl, .slice ak t.kids.length ck] 25)).alloc (.cells #[.int .i64 5, .int .i64 0, .string ⟨#[]⟩, .slice (none) 0 0, .slice (some ⟨w.heap.size + 1 + 1, 0, none⟩) 2 2] 25)).alloc (.cells #[.int .i64 t.kind, .int .i64 t.so, .string t.name, .slice al t.labels.length cl, .slice ak t.kids.length ck, .int .i64 1, .int .i64 0, .string ⟨#[]⟩, .slice none 0 0, .slice none 0 0] 25)) := ⟨⟨_, _, _, _, _, rfl, hm, hl, hk⟩, hb⟩
  clear hm hl hk hb hP HBD HLA HKT
  generalize HTPost (aheadT 3 t) B w = Q at *
  exact bodyPost_ret (by simp [results, Tryd.results14, go_sem]) rfl hfin
set_option maxRecDepth 100000 in
set_option maxHeartbeats 4000000 in
theorem ahead5_any (t : Ty) (al : Option Addr) (cl : Nat) (ak : Option Addr) (ck d B : Nat) (w : World) (hbd : TyBd t cl ck) (hla : LA w B t.labels al) (hkt : KT w B d t.kids ak) (hB : B ≤ w.heap.size) (be : Nat) (he : TyAt w be 0 endT none 0 none 0) (hlt : be < w.heap.size) :
    Calls Tryd.prog 15 #[tyVal t al cl ak ck, .pointer (some ⟨be, 0, none⟩)] w (HTPost (aheadT 4 t) B w) := by
  obtain ⟨c0, c1, c2, c3, c4⟩ := he
  simp only [Nat.zero_add, endT, List.length_nil] at c0 c1 c2 c3 c4
  have n1 : ¬ be = w.heap.size := by omega
  have n2 : ¬ w.heap.size = be := by omega
  have n3 : ¬ be = w.heap.size + 1 := by omega
  have n4 : ¬ w.heap.size + 1 = be := by omega
  have n5 : ¬ be = w.heap.size + 1 + 1 := by omega
  have n6 : ¬ w.heap.size + 1 + 1 = be := by omega
  have hb3 : Below w.heap.size w (((w.alloc (.cells #[.int .i64 t.kind, .int .i64 t.so, .string t.name, .slice al t.labels.length cl, .slice ak t.kids.length ck] 25)).alloc (.cells #[.int .i64 0, .int .i64 0, .string ⟨#[]⟩, .slice none 0 0, .slice none 0 0] 25)).alloc (.cells #[.string ⟨#[97]⟩, .string ⟨#[98]⟩] 9)) := (((Below.refl _ _).alloc (Nat.le_refl _) _).alloc (by simp) _).alloc (by simp; omega) _
  have q0 := (hb3.cell (p := ⟨be, 0, none⟩) hlt).trans c0
  have q1 := (hb3.cell (p := ⟨be, 1, none⟩) hlt).trans c1
  have q2 := (hb3.cell (p := ⟨be, 2, none⟩) hlt).trans c2
  have q3 := (hb3.cell (p := ⟨be, 3, none⟩) hlt).trans c3
  have q4 := (hb3.cell (p := ⟨be, 4, none⟩) hlt).trans c4
  clear hb3
  have HBD := hideK hbd
  have HLA := hideK hla
  have HKT := hideK hkt
  clear hbd hla hkt
  simp only [tyVal]
  go_enter Tryd.func15, Tryd.ntmps15
  go_wp2_with fail
  have hb : Below w.heap.size w ((((w.alloc (.cells #[.int .i64 t.kind, .int .i64 t.so, .string t.name, .slice al t.labels.length cl, .slice ak t.kids.length ck] 25)).alloc (.cells #[.int .i64 6, .int .i64 0, .string ⟨#[]⟩, .slice (some ⟨w.heap.size + 1 + 1, 0, none⟩) 2 2, .slice (some ⟨w.heap.size + 1 + 1 + 1, 0, none⟩) 2 2] 25)).alloc (.cells #[.string ⟨#[97]⟩, .string ⟨#[98]⟩] 9)).alloc (.cells #[.int .i64 t.kind, .int .i64 t.so, .string t.name, .slice al t.labels.length cl, .slice ak t.kids.length ck, .int .i64 1, .int .i64 0, .string ⟨#[]⟩, .slice none 0 0, .slice none 0 0] 25)) := ((((Below.refl _ _).alloc (Nat.le_refl _) _).alloc (by simp) _).alloc (by simp; omega) _).alloc (by simp; omega) _
  have hP : PB B w ((((w.alloc (.cells #[.int .i64 t.kind, .int .i64 t.so, .string t.name, .slice al t.labels.length cl, .slice ak t.kids.length ck] 25)).alloc (.cells #[.int .i64 6, .int .i64 0, .string ⟨#[]⟩, .slice (some ⟨w.heap.size + 1 + 1, 0, none⟩) 2 2, .slice (some ⟨w.heap.size + 1 + 1 + 1, 0, none⟩) 2 2] 25)).alloc (.cells #[.string ⟨#[97]⟩, .string ⟨#[98]⟩] 9)).alloc (.cells #[.int .i64 t.kind, .int .i64 t.so, .string t.name, .slice al t.labels.length cl, .slice ak t.kids.length ck, .int .i64 1, .int .i64 0, .string ⟨#[]⟩, .slice none 0 0, .slice none 0 0] 25)) (w.heap.size + 1 + 1 + 1) := .inr ⟨by omega, by simp⟩
  have hk := kp_two (W := ((((w.alloc (.cells #[.int .i64 t.kind, .int .i64 t.so, .string t.name, .slice al t.labels.length cl, .slice ak t.kids.length ck] 25)).alloc (.cells #[.int .i64 6, .int .i64 0, .string ⟨#[]⟩, .slice (some ⟨w.heap.size + 1 + 1, 0, none⟩) 2 2, .slice (some ⟨w.heap.size + 1 + 1 + 1, 0, none⟩) 2 2] 25)).alloc (.cells #[.string ⟨#[97]⟩, .string ⟨#[98]⟩] 9)).alloc (.cells #[.int .i64 t.kind, .int .i64 t.so, .string t.name, .slice al t.labels.length cl, .slice ak t.kids.length ck, .int .i64 1, .int .i64 0, .string ⟨#[]⟩, .slice none 0 0, .slice none 0 0] 25))) hP (tyAt0 (t := t) (al := al) (cl := cl) (ak := ak) (ck := ck) (by go_cell) (by go_cell) (by go_cell) (by go_cell) (by go_cell)) HBD.out (lp_old hB hb HLA.out) (kp_old hB hb HKT.out) (endAt5 (by go_cell) (by go_cell) (by go_cell) (by go_cell) (by go_cell)) end_bd0 (.inl rfl) kp_nil
  have hP2 : PB B w ((((w.alloc (.cells #[.int .i64 t.kind, .int .i64 t.so, .string t.name, .slice al t.labels.length cl, .slice ak t.kids.length ck] 25)).alloc (.cells #[.int .i64 6, .int .i64 0, .string ⟨#[]⟩, .slice (some ⟨w.heap.size + 1 + 1, 0, none⟩) 2 2, .slice (some ⟨w.heap.size + 1 + 1 + 1, 0, none⟩) 2 2] 25)).alloc (.cells #[.string ⟨#[97]⟩, .string ⟨#[98]⟩] 9)).alloc (.cells #[.int .i64 t.kind, .int .i64 t.so, .string t.name, .slice al t.labels.length cl, .slice ak t.kids.length ck, .int .i64 1, .int .i64 0, .string ⟨#[]⟩, .slice none 0 0, .slice none 0 0] 25)) (w.heap.size + 1 + 1) := .inr ⟨by omega, by simp⟩
  have hl := ab_lp (W := ((((w.alloc (.cells #[.int .i64 t.kind, .int .i64 t.so, .string t.name, .slice al t.labels.length cl, .slice ak t.kids.length ck] 25)).alloc (.cells #[.int .i64 6, .int .i64 0, .string ⟨#[]⟩, .slice (some ⟨w.heap.size + 1 + 1, 0, none⟩) 2 2, .slice (some ⟨w.heap.size + 1 + 1 + 1, 0, none⟩) 2 2] 25)).alloc (.cells #[.string ⟨#[97]⟩, .string ⟨#[98]⟩] 9)).alloc (.cells #[.int .i64 t.kind, .int .i64 t.so, .string t.name, .slice al t.labels.length cl, .slice ak t.kids.length ck, .int .i64 1, .int .i64 0, .string ⟨#[]⟩, .slice none 0 0, .slice none 0 0] 25))) hP2 (by unfold nmA; go_cell) (by unfold nmB; go_cell)
  have hm : TyBd (aheadT 4 t) 2 2 := ah_bd (by decide) ab_sz (by decide) (by simp)
  have hfin : HTPost (aheadT 4 t) B w (.returned (.agg #[.int .i64 6, .int .i64 0, .string ⟨#[]⟩, .slice (some ⟨w.heap.size + 1 + 1, 0, none⟩) 2 2, .slice (some ⟨w.heap.size + 1 + 1 + 1, 0, none⟩) 2 2])) ((((w.alloc (.cells #[.int .i64 t.kind, .int .i64 t.so, .string t.name, .slice al t.labels.length cl, .slice ak t.kids.length ck] 25)).alloc (.cells #[.int .i64 6, .int .i64 0, .string ⟨#[]⟩, .slice (some ⟨w.heap.size + 1 + 1, 0, none⟩) 2 2, .slice (some ⟨w.heap.size + 1 + 1 + 1, 0, none⟩) 2 2] 25)).alloc (.cells #[.string ⟨#[97]⟩, .string ⟨#[98]⟩] 9)).alloc (.cells #[.int .i64 t.kind, .int .i64 t.so, .string t.name, .slice al t.labels.length cl, .slice ak t.kids.length ck, .int .i64 1, .int .i64 0, .string ⟨#[]⟩, .slice none 0 0, .slice none 0 0] 25)) := ⟨⟨_, _, _, _, _, rfl, hm, hl, hk⟩, hb⟩
  clear hm hl hk hb hP hP2 HBD HLA HKT
  generalize HTPost (aheadT 4 t) B w = Q at *
  exact bodyPost_ret (by simp [results, Tryd.results15, go_sem]) rfl hfin
set_option maxRecDepth 100000 in
set_option maxHeartbeats 4000000 in
theorem ahead6_any (t : Ty) (al : Option Addr) (cl : Nat) (ak : Option Addr) (ck d B : Nat) (w : World) (hbd : TyBd t cl ck) (hla : LA w B t.labels al) (hkt : KT w B d t.kids ak) (hB : B ≤ w.heap.size) (be : Nat) (he : TyAt w be 0 endT none 0 none 0) (hlt : be < w.heap.size) :
    Calls Tryd.prog 16 #[tyVal t al cl ak ck, .pointer (some ⟨be, 0, none⟩)] w (HTPost (aheadT 5 t) B w) := by
  obtain ⟨c0, c1, c2, c3, c4⟩ := he
  simp only [Nat.zero_add, endT, List.length_nil] at c0 c1 c2 c3 c4
  have n1 : ¬ be = w.heap.size := by omega
  have n2 : ¬ w.heap.size = be := by omega
  have n3 : ¬ be = w.heap.size + 1 := by omega
  have n4 : ¬ w.heap.size + 1 = be := by omega
  have n5 : ¬ be = w.heap.size + 1 + 1 := by omega
  have n6 : ¬ w.heap.size + 1 + 1 = be := by omega
  have hb3 : Below w.heap.size w (((w.alloc (.cells #[.int .i64 t.kind, .int .i64 t.so, .string t.name, .slice al t.labels.length cl, .slice ak t.kids.length ck] 25)).alloc (.cells #[.int .i64 0, .int .i64 0, .string ⟨#[]⟩, .slice none 0 0, .slice none 0 0] 25)).alloc (.cells #[.string ⟨#[97]⟩, .string ⟨#[98]⟩] 9)) := (((Below.refl _ _).alloc (Nat.le_refl _) _).alloc (by simp) _).alloc (by simp; omega) _
  have q0 := (hb3.cell (p := ⟨be, 0, none⟩) hlt).trans c0
  have q1 := (hb3.cell (p := ⟨be, 1, none⟩) hlt).trans c1
  have q2 := (hb3.cell (p := ⟨be, 2, none⟩) hlt).trans c2
  have q3 := (hb3.cell (p := ⟨be, 3, none⟩) hlt).trans c3
  have q4 := (hb3.cell (p := ⟨be, 4, none⟩) hlt).trans c4
  clear hb3
  have HBD := hideK hbd
  have HLA := hideK hla
  have HKT := hideK hkt
  clear hbd hla hkt
  simp only [tyVal]
  go_enter Tryd.func16, Tryd.ntmps16
  go_wp2_with fail
  have hb : Below w.heap.size w ((((w.alloc (.cells #[.int .i64 t.kind, .int .i64 t.so, .string t.name, .slice al t.labels.length cl, .slice ak t.kids.length ck] 25)).alloc (.cells #[.int .i64 7, .int .i64 0, .string ⟨#[]⟩, .slice (some ⟨w.heap.size + 1 + 1, 0, none⟩) 2 2, .slice (some ⟨w.heap.size + 1 + 1 + 1, 0, none⟩) 2 2] 25)).alloc (.cells #[.string ⟨#[97]⟩, .string ⟨#[98]⟩] 9)).alloc (.cells #[.int .i64 1, .int .i64 0, .string ⟨#[]⟩, .slice none 0 0, .slice none 0 0, .int .i64 t.kind, .int .i64 t.so, .string t.name, .slice al t.labels.length cl, .slice ak t.kids.length ck] 25)) := ((((Below.refl _ _).alloc (Nat.le_refl _) _).alloc (by simp) _).alloc (by simp; omega) _).alloc (by simp; omega) _
  have hP : PB B w ((((w.alloc (.cells #[.int .i64 t.kind, .int .i64 t.so, .string t.name, .slice al t.labels.length cl, .slice ak t.kids.length ck] 25)).alloc (.cells #[.int .i64 7, .int .i64 0, .string ⟨#[]⟩, .slice (some ⟨w.heap.size + 1 + 1, 0, none⟩) 2 2, .slice (some ⟨w.heap.size + 1 + 1 + 1, 0, none⟩) 2 2] 25)).alloc (.cells #[.string ⟨#[97]⟩, .string ⟨#[98]⟩] 9)).alloc (.cells #[.int .i64 1, .int .i64 0, .string ⟨#[]⟩, .slice none 0 0, .slice none 0 0, .int .i64 t.kind, .int .i64 t.so, .string t.name, .slice al t.labels.length cl, .slice ak t.kids.length ck] 25)) (w.heap.size + 1 + 1 + 1) := .inr ⟨by omega, by simp⟩
  have hk := kp_two (W := ((((w.alloc (.cells #[.int .i64 t.kind, .int .i64 t.so, .string t.name, .slice al t.labels.length cl, .slice ak t.kids.length ck] 25)).alloc (.cells #[.int .i64 7, .int .i64 0, .string ⟨#[]⟩, .slice (some ⟨w.heap.size + 1 + 1, 0, none⟩) 2 2, .slice (some ⟨w.heap.size + 1 + 1 + 1, 0, none⟩) 2 2] 25)).alloc (.cells #[.string ⟨#[97]⟩, .string ⟨#[98]⟩] 9)).alloc (.cells #[.int .i64 1, .int .i64 0, .string ⟨#[]⟩, .slice none 0 0, .slice none 0 0, .int .i64 t.kind, .int .i64 t.so, .string t.name, .slice al t.labels.length cl, .slice ak t.kids.length ck] 25))) hP (endAt0 (by go_cell) (by go_cell) (by go_cell) (by go_cell) (by go_cell)) end_bd0 (.inl rfl) kp_nil (tyAt5 (t := t) (al := al) (cl := cl) (ak := ak) (ck := ck) (by go_cell) (by go_cell) (by go_cell) (by go_cell) (by go_cell)) HBD.out (lp_old hB hb HLA.out) (kp_old hB hb HKT.out)
  have hP2 : PB B w ((((w.alloc (.cells #[.int .i64 t.kind, .int .i64 t.so, .string t.name, .slice al t.labels.length cl, .slice ak t.kids.length ck] 25)).alloc (.cells #[.int .i64 7, .int .i64 0, .string ⟨#[]⟩, .slice (some ⟨w.heap.size + 1 + 1, 0, none⟩) 2 2, .slice (some ⟨w.heap.size + 1 + 1 + 1, 0, none⟩) 2 2] 25)).alloc (.cells #[.string ⟨#[97]⟩, .string ⟨#[98]⟩] 9)).alloc (.cells #[.int .i64 1, .int .i64 0, .string ⟨#[]⟩, .slice none 0 0, .slice none 0 0, .int .i64 t.kind, .int .i64 t.so, .string t.name, .slice al t.labels.length cl, .slice ak t.kids.length ck] 25)) (w.heap.size + 1 + 1) := .inr ⟨by omega, by simp⟩
  have hl := ab_lp (W := ((((w.alloc (.cells #[.int .i64 t.kind, .int .i64 t.so, .string t.name, .slice al t.labels.length cl, .slice ak t.kids.length ck] 25)).alloc (.cells #[.int .i64 7, .int .i64 0, .string ⟨#[]⟩, .slice (some ⟨w.heap.size + 1 + 1, 0, none⟩) 2 2, .slice (some ⟨w.heap.size + 1 + 1 + 1, 0, none⟩) 2 2] 25)).alloc (.cells #[.string ⟨#[97]⟩, .string ⟨#[98]⟩] 9)).alloc (.cells #[.int .i64 1, .int .i64 0, .string ⟨#[]⟩, .slice none 0 0, .slice none 0 0, .int .i64 t.kind, .int .i64 t.so, .string t.name, .slice al t.labels.length cl, .slice ak t.kids.length ck] 25))) hP2 (by unfold nmA; go_cell) (by unfold nmB; go_cell)
  have hm : TyBd (aheadT 5 t) 2 2 := ah_bd (by decide) ab_sz (by decide) (by simp)
  have hfin : HTPost (aheadT 5 t) B w (.returned (.agg #[.int .i64 7, .int .i64 0, .string ⟨#[]⟩, .slice (some ⟨w.heap.size + 1 + 1, 0, none⟩) 2 2, .slice (some ⟨w.heap.size + 1 + 1 + 1, 0, none⟩) 2 2])) ((((w.alloc (.cells #[.int .i64 t.kind, .int .i64 t.so, .string t.name, .slice al t.labels.length cl, .slice ak t.kids.length ck] 25)).alloc (.cells #[.int .i64 7, .int .i64 0, .string ⟨#[]⟩, .slice (some ⟨w.heap.size + 1 + 1, 0, none⟩) 2 2, .slice (some ⟨w.heap.size + 1 + 1 + 1, 0, none⟩) 2 2] 25)).alloc (.cells #[.string ⟨#[97]⟩, .string ⟨#[98]⟩] 9)).alloc (.cells #[.int .i64 1, .int .i64 0, .string ⟨#[]⟩, .slice none 0 0, .slice none 0 0, .int .i64 t.kind, .int .i64 t.so, .string t.name, .slice al t.labels.length cl, .slice ak t.kids.length ck] 25)) := ⟨⟨_, _, _, _, _, rfl, hm, hl, hk⟩, hb⟩
  clear hm hl hk hb hP hP2 HBD HLA HKT
  generalize HTPost (aheadT 5 t) B w = Q at *
  exact bodyPost_ret (by simp [results, Tryd.results16, go_sem]) rfl hfin
set_option maxRecDepth 100000 in
set_option maxHeartbeats 4000000 in
theorem ahead7_any (t : Ty) (al : Option Addr) (cl : Nat) (ak : Option Addr) (ck d B : Nat) (w : World) (hbd : TyBd t cl ck) (hla : LA w B t.labels al) (hkt : KT w B d t.kids ak) (hB : B ≤ w.heap.size) :
    Calls Tryd.prog 17 #[tyVal t al cl ak ck] w (HTPost (aheadT 6 t) B w) := by
  have HBD := hideK hbd
  have HLA := hideK hla
  have HKT := hideK hkt
  clear hbd hla hkt
  simp only [tyVal]
  go_enter Tryd.func17, Tryd.ntmps17
  go_wp2_with fail
  have hb : Below w.heap.size w (((w.alloc (.cells #[.int .i64 t.kind, .int .i64 t.so, .string t.name, .slice al t.labels.length cl, .slice ak t.kids.length ck] 25)).alloc (.cells #[.int .i64 8, .int .i64 0, .string ⟨#[113, 113]⟩, .slice (none) 0 0, .slice (some ⟨w.heap.size + 1 + 1, 0, none⟩) 1 1] 25)).alloc (.cells #[.int .i64 t.kind, .int .i64 t.so, .string t.name, .slice al t.labels.length cl, .slice ak t.kids.length ck] 25)) := (((Below.refl _ _).alloc (Nat.le_refl _) _).alloc (by simp) _).alloc (by simp; omega) _
  have hP : PB B w (((w.alloc (.cells #[.int .i64 t.kind, .int .i64 t.so, .string t.name, .slice al t.labels.length cl, .slice ak t.kids.length ck] 25)).alloc (.cells #[.int .i64 8, .int .i64 0, .string ⟨#[113, 113]⟩, .slice (none) 0 0, .slice (some ⟨w.heap.size + 1 + 1, 0, none⟩) 1 1] 25)).alloc (.cells #[.int .i64 t.kind, .int .i64 t.so, .string t.name, .slice al t.labels.length cl, .slice ak t.kids.length ck] 25)) (w.heap.size + 1 + 1) := .inr ⟨by omega, by simp⟩
  have hk := kp_one (W := (((w.alloc (.cells #[.int .i64 t.kind, .int .i64 t.so, .string t.name, .slice al t.labels.length cl, .slice ak t.kids.length ck] 25)).alloc (.cells #[.int .i64 8, .int .i64 0, .string ⟨#[113, 113]⟩, .slice (none) 0 0, .slice (some ⟨w.heap.size + 1 + 1, 0, none⟩) 1 1] 25)).alloc (.cells #[.int .i64 t.kind, .int .i64 t.so, .string t.name, .slice al t.labels.length cl, .slice ak t.kids.length ck] 25))) hP (tyAt0 (t := t) (al := al) (cl := cl) (ak := ak) (ck := ck) (by go_cell) (by go_cell) (by go_cell) (by go_cell) (by go_cell)) HBD.out (lp_old hB hb HLA.out) (kp_old hB hb HKT.out)
  have hl : LP (((w.alloc (.cells #[.int .i64 t.kind, .int .i64 t.so, .string t.name, .slice al t.labels.length cl, .slice ak t.kids.length ck] 25)).alloc (.cells #[.int .i64 8, .int .i64 0, .string ⟨#[113, 113]⟩, .slice (none) 0 0, .slice (some ⟨w.heap.size + 1 + 1, 0, none⟩) 1 1] 25)).alloc (.cells #[.int .i64 t.kind, .int .i64 t.so, .string t.name, .slice al t.labels.length cl, .slice ak t.kids.length ck] 25)) (PB B w (((w.alloc (.cells #[.int .i64 t.kind, .int .i64 t.so, .string t.name, .slice al t.labels.length cl, .slice ak t.kids.length ck] 25)).alloc (.cells #[.int .i64 8, .int .i64 0, .string ⟨#[113, 113]⟩, .slice (none) 0 0, .slice (some ⟨w.heap.size + 1 + 1, 0, none⟩) 1 1] 25)).alloc (.cells #[.int .i64 t.kind, .int .i64 t.so, .string t.name, .slice al t.labels.length cl, .slice ak t.kids.length ck] 25))) [] none := .inl rfl
  have hm : TyBd (aheadT 6 t) 0 1 := ah_bd (by decide) (fun l hl => by cases hl) (by decide) (by simp)
  have hfin : HTPost (aheadT 6 t) B w (.returned (.agg #[.int .i64 8, .int .i64 0, .string ⟨#[113, 113]⟩, .slice (none) 0 0, .slice (some ⟨w.heap.size + 1 + 1, 0, none⟩) 1 1])) (((w.alloc (.cells #[.int .i64 t.kind, .int .i64 t.so, .string t.name, .slice al t.labels.length cl, .slice ak t.kids.length ck] 25)).alloc (.cells #[.int .i64 8, .int .i64 0, .string ⟨#[113, 113]⟩, .slice (none) 0 0, .slice (some ⟨w.heap.size + 1 + 1, 0, none⟩) 1 1] 25)).alloc (.cells #[.int .i64 t.kind, .int .i64 t.so, .string t.name, .slice al t.labels.length cl, .slice ak t.kids.length ck] 25)) := ⟨⟨_, _, _, _, _, rfl, hm, hl, hk⟩, hb⟩
  clear hm hl hk hb hP HBD HLA HKT
  generalize HTPost (aheadT 6 t) B w = Q at *
  exact bodyPost_ret (by simp [results, Tryd.results17, go_sem]) rfl hfin
end Go.Proofs.YtoieacgojkgjgabDoor
